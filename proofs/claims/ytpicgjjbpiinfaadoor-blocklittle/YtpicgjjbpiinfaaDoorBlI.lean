
import Derived.Test.YtpicgjjbpiinfaaDoorBlH
import Derived.Test.YtpicgjjbpiinfaaDoorBlF
import Derived.Laws.AppendOwnNone
namespace Go.Proofs.YtpicgjjbpiinfaaDoor
open Go.RowKit
set_option linter.unusedVariables false
set_option linter.unusedSimpArgs false
theorem i64_info : (Tryd.prog.info? 2).map (fun i => (i.zero, i.bytes, i.size)) = some (some (.int .i64 0), 8, 1) := by kernel_rfl
def encI (z : Nat → Int) (n : Nat) : List Value := (List.range n).map fun i => .int .i64 (z i)
theorem encI_len (z : Nat → Int) (n : Nat) : (encI z n).length = n := by simp [encI]
theorem encI_get (z : Nat → Int) (n j : Nat) (h : j < n) : (encI z n)[j]? = some (.int .i64 (z j)) := by simp [encI, h]
theorem encI_one (z : Nat → Int) (n : Nat) : ∀ u ∈ encI z n, u.oneCell' = true := by intro u hu; simp [encI] at hu; obtain ⟨x, _, rfl⟩ := hu; rfl
theorem add_none2 (b o j : Nat) : ((⟨b, o, none⟩ : Addr).add j) = ⟨b, o + j, none⟩ := by
  unfold Addr.add
  split
  · next h => subst h; rfl
  · rfl
/-- 'append(x, l...)' to numbers of one's own. -/
theorem app64 (W : World) (base g0 c0 m : Nat) (xs : List Value) (own : W.ownsRow base 2 1 (.slice (some ⟨g0, 0, none⟩) m c0) m xs) (hbase : base ≤ W.heap.size) (a : Option Addr) (n cap : Nat) (z : Nat → Int)
    (h : n = 0 ∨ ∃ b off, a = some ⟨b, off, none⟩ ∧ b < W.heap.size ∧ ∀ i, i < n → W.cell? ⟨b, off + i, none⟩ = some (.int .i64 (z i))) (hbig : m + n ≤ 10000000) :
    ∃ g c w', (Builtin.append_ #[55, 55] 55 #[.slice (some ⟨g0, 0, none⟩) m c0, .slice a n cap]).run Tryd.prog W = .ok (.slice (some ⟨g, 0, none⟩) (m + n) c) w' ∧ w'.ownsRow base 2 1 (.slice (some ⟨g, 0, none⟩) (m + n) c) (m + n) (xs ++ encI z n) ∧ Below base W w' := by
  obtain ⟨i, i1, i0⟩ := Option.map_eq_some_iff.1 i64_info
  have i2 : i.zero = some (.int .i64 0) := congrArg (·.1) i0
  have i3 : i.bytes = 8 := congrArg (·.2.1) i0
  have i4 : i.size = 1 := congrArg (·.2.2) i0
  have hnc : m ≤ c0 := by
    rcases own.2 with ⟨hq, _⟩ | ⟨g1, cap1, cur, hq, _, _, hnc, _⟩
    · cases hq
    · cases hq; exact hnc
  cases a with
  | none =>
    obtain rfl : n = 0 := by
      rcases h with h | ⟨b, off, h, _⟩
      · exact h
      · cases h
    refine ⟨g0, c0, W, ?_, by rw [Nat.add_zero, show encI z 0 = [] from rfl, List.append_nil]; exact own, Below.refl _ _⟩
    simp [Builtin.append_, run_underlying Tryd.underlying55, sizeOf, typeInfo, i1, Builtin.lenOf, hnc, run_firstCells_none, storeCells]
  | some ad =>
    have hnews : ∀ j u, (encI z n)[j]? = some u → W.cell? (ad.add j) = some u := fun j u hu => by
      have hj : j < n := by
        rcases Nat.lt_or_ge j n with h | h
        · exact h
        · rw [List.getElem?_eq_none (by rw [encI_len]; exact h)] at hu; cases hu
      rw [encI_get z n j hj] at hu
      obtain rfl := Option.some.inj hu
      rcases h with h | ⟨b, off, ha, hb, hc⟩
      · omega
      · obtain rfl := Option.some.inj ha
        rw [add_none2]; exact hc j hj
    obtain ⟨v', w', hr, ho', hg, hnil, _⟩ := run_append_own_at (P := Tryd.prog) W base 55 55 2 i (.int .i64 0) 1 8 Tryd.underlying55 i1 i2 i4 i3 rfl (by omega) _ m xs own ad n cap (encI z n) (by rw [encI_len]; omega) hnews (encI_one _ _) (by simp [maxLen]; omega) (by omega) hbase
    have hB2 : Below base W w' := (Below.refl _ W).grown hg hbase (fun k e => (own.lt k e).1)
    rcases ho'.2 with ⟨hq, _⟩ | ⟨g, c, cur, hq, hbg, hgr, _⟩
    · have := hnil.1 hq; simp at this
    · subst hq
      exact ⟨g, c, w', hr, ho', hB2⟩
theorem ownsRow_below {W w' : World} {base m : Nat} {v : Value} {xs : List Value} (h : W.ownsRow base 2 1 v m xs) (hb : Below W.heap.size W w') : w'.ownsRow base 2 1 v m xs := by
  refine ⟨h.1, ?_⟩
  rcases h.2 with h2 | ⟨g, cap, cur, e1, e2, e3, e4⟩
  · exact Or.inl h2
  · exact Or.inr ⟨g, cap, cur, e1, e2, by rw [hb.block g (Array.getElem?_eq_some_iff.1 e3).1]; exact e3, e4⟩
/-- the law's own copy. -/
theorem own_copy (w : World) (a : Option Addr) (n cap : Nat) (z : Nat → Int) (h : IsIn w a n z) (hs : n ≤ 1048576) : ∃ g1 c1 w1 g2 c2 w2,
    (Builtin.append_ #[55, 55] 55 #[.slice (some ⟨w.heap.size, 0, none⟩) 0 0, .slice a n cap]).run Tryd.prog (w.alloc (.cells #[] 2)) = .ok (.slice (some ⟨g1, 0, none⟩) n c1) w1 ∧
    (Builtin.append_ #[55, 55] 55 #[.slice (some ⟨g1, 0, none⟩) n c1, .slice (some ⟨w1.heap.size, 0, none⟩) 1 1]).run Tryd.prog (w1.alloc (.cells #[.int .i64 77] 2)) = .ok (.slice (some ⟨g2, 0, none⟩) (n + 1) c2) w2 ∧
    n + 1 ≤ c2 ∧ g2 < w2.heap.size ∧ w.heap.size ≤ g2 ∧ (∀ i, i < n → w2.cell? ⟨g2, i, none⟩ = some (.int .i64 (z i))) ∧ w2.cell? ⟨g2, n, none⟩ = some (.int .i64 77) ∧ Below w.heap.size w w2 := by
  have hB0 := below_new (Below.refl _ w) (.cells #[] 2)
  have own0 : (w.alloc (.cells #[] 2)).ownsRow w.heap.size 2 1 (.slice (some ⟨w.heap.size, 0, none⟩) 0 0) 0 [] := by
    have := World.ownsRow_made (e := 2) (size := 1) (base := w.heap.size) w #[] 0 (by simp) (by simp [maxLen]) rfl
    simpa using this
  obtain ⟨_, hz, hc⟩ := h
  obtain ⟨g1, c1, w1, hr1, ho1, hB1⟩ := app64 _ w.heap.size w.heap.size 0 0 [] own0 (by simp) a n cap z (by
    rcases hc with h0 | ⟨b, off, e, hb, hcc⟩
    · exact Or.inl h0
    · exact Or.inr ⟨b, off, e, by simp; omega, fun i hi => by rw [hB0.cell (p := ⟨b, off + i, none⟩) hb]; exact hcc i hi⟩) (by omega)
  rw [Nat.zero_add, List.nil_append] at ho1
  rw [Nat.zero_add] at hr1
  have hBn := below_new (Below.refl _ w1) (.cells #[.int .i64 77] 2)
  have hs1 : w.heap.size ≤ w1.heap.size := by have := hB1.size; simp at this; omega
  obtain ⟨g2, c2, w2, hr2, ho2, hB2⟩ := app64 _ w.heap.size g1 c1 n (encI z n) (ownsRow_below ho1 hBn) (by simp; omega) (some ⟨w1.heap.size, 0, none⟩) 1 1 (fun _ => 77) (Or.inr ⟨w1.heap.size, 0, rfl, by simp, fun i hi => by { obtain rfl : i = 0 := (by omega); simp [go_sem] }⟩) (by omega)
  have hcs := ho2.cells (g := g2) rfl
  have hlt := ho2.lt g2 rfl
  have hc2 : n + 1 ≤ c2 := by
    rcases ho2.2 with ⟨hq, _⟩ | ⟨g', cap', cur, hq, _, _, hnc, _⟩
    · cases hq
    · cases hq; exact hnc
  refine ⟨g1, c1, w1, g2, c2, w2, hr1, hr2, hc2, hlt.2, hlt.1, fun i hi => ?_, ?_, hB0.trans (hB1.trans ((hBn.mono (by omega)).trans hB2))⟩
  · have := hcs i (.int .i64 (z i)) (by rw [List.getElem?_append_left (by rw [encI_len]; exact hi), encI_get z n i hi])
    rw [add_none2, Nat.zero_add] at this; exact this
  · have := hcs n (.int .i64 77) (by rw [List.getElem?_append_right (by rw [encI_len]; omega), encI_len]; simp [encI])
    rw [add_none2, Nat.zero_add] at this; exact this
end Go.Proofs.YtpicgjjbpiinfaaDoor
