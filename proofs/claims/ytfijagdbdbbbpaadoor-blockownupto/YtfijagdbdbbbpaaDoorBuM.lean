
import Derived.Test.YtfijagdbdbbbpaaDoorBuJ
import Derived.Test.YtfijagdbdbbbpaaDoorBlFq
import Derived.Laws.AppendOwnNone
import Derived.Test.YtfijagdbdbbbpaaDoorSameq
import Derived.BigQuiet
import Derived.Test.YtfijagdbdbbbpaaDoorBlNq
import Derived.Test.YtfijagdbdbbbpaaDoorBlQq
namespace Go.Proofs.YtfijagdbdbbbpaaDoor
open Go.RowKit
set_option linter.unusedVariables false
set_option linter.unusedSimpArgs false
/-- the times of live. -/
def zL (i : Nat) : Int := [0, 10, 21].getD i 0
theorem zL_rises : Rises zL 3 := by
  intro i h1 h2
  have : i = 1 ∨ i = 2 := by omega
  rcases this with rfl | rfl <;> decide
theorem zL_bytes : (timesS zL 3 3).1 = [3, 0, 10, 160, 0] := by decide +kernel
set_option maxRecDepth 100000 in
set_option maxHeartbeats 4000000 in
theorem live_block (w : World) (hct : CT w) (hg : 0 < w.heap.size) : Calls Tryd.prog 12 #[] w fun e w' => e = .returned (.bool true) ∧ Below w.heap.size w w' := by
  have hB1 := below_new (Below.refl _ w) (.cells #[.int .i64 0, .int .i64 10, .int .i64 21] 2)
  have hin : IsIn (w.alloc (.cells #[.int .i64 0, .int .i64 10, .int .i64 21] 2)) (some ⟨w.heap.size, 0, none⟩) 3 zL := by
    refine ⟨by omega, fun i => ?_, Or.inr ⟨w.heap.size, 0, rfl, by simp, fun i hi => ?_⟩⟩
    · unfold zL
      rcases i with _ | _ | _ | i <;> simp
    · have : i = 0 ∨ i = 1 ∨ i = 2 := by omega
      rcases this with rfl | rfl | rfl <;> simp [zL, go_sem]
  have hT : Hid _ := times_any (some ⟨w.heap.size, 0, none⟩) 3 3 zL _ hin (CT_below hct hB1 hg) (by have := hB1.size; omega)
  clear hin hct
  go_enter Tryd.func12, Tryd.ntmps12
  go_wp2_with fail
  refine Calls.mono hT.out ?_
  rintro e w2 ⟨hE, hB2⟩
  have hB02 := below_then hB1 hB2
  clear hT hB1 hB2
  rcases hE with ⟨h, _⟩ | ⟨_, h, _⟩ | ⟨_, _, ta, tc, rfl, hin2⟩
  · omega
  · exact absurd zL_rises h
  rw [zL_bytes] at hin2 ⊢
  have hin2H : Hid (BytesIn w2 ta 5 (natsOf [3, 0, 10, 160, 0])) := hin2
  clear hin2
  have hBv := below_new (Below.refl _ w2) (.cells #[.int .u8 0, .int .i64 1] 57)
  have hV : Hid _ := values_one w2.heap.size 0 1 (w2.alloc (.cells #[.int .u8 0, .int .i64 1] 57)) (by simp) (by simp [go_sem]) (by simp [go_sem])
  simp only [List.length_cons, List.length_nil, Nat.reduceAdd] at hV ⊢
  go_wp2_with fail
  refine Calls.mono hV.out ?_
  rintro e w3 ⟨⟨va, vc, rfl, hin3⟩, hB3⟩
  have hB23 := below_then hBv hB3
  have hin2' := hin2H.out.below hB23
  have hB03 := below_then hB02 hB23
  have hin3H : Hid (BytesIn w3 va 3 (natsOf [1, 129, 128])) := hin3
  have hin2aH : Hid (BytesIn w3 ta 5 (natsOf [3, 0, 10, 160, 0])) := hin2'
  clear hV hBv hB3 hB23 hin2' hin2H hB02 hin3
  have hBn := below_new (Below.refl _ w3) (.cells #[.int .u8 3, .int .u8 0, .int .u8 10, .int .u8 160, .int .u8 0] 5)
  have hnew : BytesIn (w3.alloc (.cells #[.int .u8 3, .int .u8 0, .int .u8 10, .int .u8 160, .int .u8 0] 5)) (some ⟨w3.heap.size, 0, none⟩) 5 (natsOf [3, 0, 10, 160, 0]) := ⟨by omega, Or.inr ⟨w3.heap.size, 0, rfl, by simp, bytes_new w3 [3, 0, 10, 160, 0] _ _ rfl (by simp)⟩⟩
  have hS1 : Hid _ := same_in ta (some ⟨w3.heap.size, 0, none⟩) 5 tc 5 (natsOf [3, 0, 10, 160, 0]) _ (hin2aH.out.below hBn) hnew
  have hBnH : Hid _ := hBn
  clear hnew hBn
  go_wp2_with fail
  refine Calls.mono hS1.out ?_
  rintro e w4 ⟨rfl, hB4⟩
  have hB34 := below_then hBnH.out hB4
  have hB04 := below_then hB03 hB34
  have hBm := below_new (Below.refl _ w4) (.cells #[.int .u8 1, .int .u8 129, .int .u8 128] 5)
  have hnew2 : BytesIn (w4.alloc (.cells #[.int .u8 1, .int .u8 129, .int .u8 128] 5)) (some ⟨w4.heap.size, 0, none⟩) 3 (natsOf [1, 129, 128]) := ⟨by omega, Or.inr ⟨w4.heap.size, 0, rfl, by simp, bytes_new w4 [1, 129, 128] _ _ rfl (by simp)⟩⟩
  have hS2 : Hid _ := same_in va (some ⟨w4.heap.size, 0, none⟩) 3 vc 3 (natsOf [1, 129, 128]) _ ((hin3H.out.below hB34).below hBm) hnew2
  have hBmH : Hid _ := hBm
  clear hnew2 hBm hS1 hB4 hB34 hB03
  go_wp2_with fail
  refine Calls.mono hS2.out ?_
  rintro e w5 ⟨rfl, hB5⟩
  have hB05 := below_then hB04 (below_then hBmH.out hB5)
  go_wp2_with fail
  go_ret
  exact ⟨rfl, hB05⟩
end Go.Proofs.YtfijagdbdbbbpaaDoor

namespace Go.Proofs.YtfijagdbdbbbpaaDoor
open Go.RowKit
set_option linter.unusedVariables false
set_option linter.unusedSimpArgs false
theorem i64_info : (Tryd.prog.info? 2).map (fun i => (i.zero, i.bytes, i.size)) = some (some (.int .i64 0), 8, 1) := by kernel_rfl
def encI (z : Nat → Int) (n : Nat) : List Value := (List.range n).map fun i => .int .i64 (z i)
theorem encI_len (z : Nat → Int) (n : Nat) : (encI z n).length = n := by simp [encI]
theorem encI_get (z : Nat → Int) (n j : Nat) (h : j < n) : (encI z n)[j]? = some (.int .i64 (z j)) := by simp [encI, h]
theorem encI_one (z : Nat → Int) (n : Nat) : ∀ u ∈ encI z n, u.oneCell' = true := by intro u hu; simp [encI] at hu; obtain ⟨x, _, rfl⟩ := hu; rfl
theorem add_none2 (b o j : Nat) : ((⟨b, o, none⟩ : Addr).add j) = ⟨b, o + j, none⟩ := by
  unfold Addr.add
  split
  · next h => subst h; rfl
  · rfl
/-- 'append(x, l...)' to numbers of one's own. -/
theorem app64 (W : World) (base g0 c0 m : Nat) (xs : List Value) (own : W.ownsRow base 2 1 (.slice (some ⟨g0, 0, none⟩) m c0) m xs) (hbase : base ≤ W.heap.size) (a : Option Addr) (n cap : Nat) (z : Nat → Int)
    (h : n = 0 ∨ ∃ b off, a = some ⟨b, off, none⟩ ∧ b < W.heap.size ∧ ∀ i, i < n → W.cell? ⟨b, off + i, none⟩ = some (.int .i64 (z i))) (hbig : m + n ≤ 10000000) :
    ∃ g c w', (Builtin.append_ #[53, 53] 53 #[.slice (some ⟨g0, 0, none⟩) m c0, .slice a n cap]).run Tryd.prog W = .ok (.slice (some ⟨g, 0, none⟩) (m + n) c) w' ∧ w'.ownsRow base 2 1 (.slice (some ⟨g, 0, none⟩) (m + n) c) (m + n) (xs ++ encI z n) ∧ Below base W w' := by
  obtain ⟨i, i1, i0⟩ := Option.map_eq_some_iff.1 i64_info
  have i2 : i.zero = some (.int .i64 0) := congrArg (·.1) i0
  have i3 : i.bytes = 8 := congrArg (·.2.1) i0
  have i4 : i.size = 1 := congrArg (·.2.2) i0
  have hnc : m ≤ c0 := by
    rcases own.2 with ⟨hq, _⟩ | ⟨g1, cap1, cur, hq, _, _, hnc, _⟩
    · cases hq
    · cases hq; exact hnc
  cases a with
  | none =>
    obtain rfl : n = 0 := by
      rcases h with h | ⟨b, off, h, _⟩
      · exact h
      · cases h
    refine ⟨g0, c0, W, ?_, by rw [Nat.add_zero, show encI z 0 = [] from rfl, List.append_nil]; exact own, Below.refl _ _⟩
    simp [Builtin.append_, run_underlying Tryd.underlying53, sizeOf, typeInfo, i1, Builtin.lenOf, hnc, run_firstCells_none, storeCells]
  | some ad =>
    have hnews : ∀ j u, (encI z n)[j]? = some u → W.cell? (ad.add j) = some u := fun j u hu => by
      have hj : j < n := by
        rcases Nat.lt_or_ge j n with h | h
        · exact h
        · rw [List.getElem?_eq_none (by rw [encI_len]; exact h)] at hu; cases hu
      rw [encI_get z n j hj] at hu
      obtain rfl := Option.some.inj hu
      rcases h with h | ⟨b, off, ha, hb, hc⟩
      · omega
      · obtain rfl := Option.some.inj ha
        rw [add_none2]; exact hc j hj
    obtain ⟨v', w', hr, ho', hg, hnil, _⟩ := run_append_own_at (P := Tryd.prog) W base 53 53 2 i (.int .i64 0) 1 8 Tryd.underlying53 i1 i2 i4 i3 rfl (by omega) _ m xs own ad n cap (encI z n) (by rw [encI_len]; omega) hnews (encI_one _ _) (by simp [maxLen]; omega) (by omega) hbase
    have hB2 : Below base W w' := (Below.refl _ W).grown hg hbase (fun k e => (own.lt k e).1)
    rcases ho'.2 with ⟨hq, _⟩ | ⟨g, c, cur, hq, hbg, hgr, _⟩
    · have := hnil.1 hq; simp at this
    · subst hq
      exact ⟨g, c, w', hr, ho', hB2⟩
theorem ownsRow_below {W w' : World} {base m : Nat} {v : Value} {xs : List Value} (h : W.ownsRow base 2 1 v m xs) (hb : Below W.heap.size W w') : w'.ownsRow base 2 1 v m xs := by
  refine ⟨h.1, ?_⟩
  rcases h.2 with h2 | ⟨g, cap, cur, e1, e2, e3, e4⟩
  · exact Or.inl h2
  · exact Or.inr ⟨g, cap, cur, e1, e2, by rw [hb.block g (Array.getElem?_eq_some_iff.1 e3).1]; exact e3, e4⟩
/-- the law's own copy. -/
theorem own_copy (w : World) (a : Option Addr) (n cap : Nat) (z : Nat → Int) (h : IsIn w a n z) (hs : n ≤ 1048576) : ∃ g1 c1 w1 g2 c2 w2,
    (Builtin.append_ #[53, 53] 53 #[.slice (some ⟨w.heap.size, 0, none⟩) 0 0, .slice a n cap]).run Tryd.prog (w.alloc (.cells #[] 2)) = .ok (.slice (some ⟨g1, 0, none⟩) n c1) w1 ∧
    (Builtin.append_ #[53, 53] 53 #[.slice (some ⟨g1, 0, none⟩) n c1, .slice (some ⟨w1.heap.size, 0, none⟩) 1 1]).run Tryd.prog (w1.alloc (.cells #[.int .i64 77] 2)) = .ok (.slice (some ⟨g2, 0, none⟩) (n + 1) c2) w2 ∧
    n + 1 ≤ c2 ∧ g2 < w2.heap.size ∧ w.heap.size ≤ g2 ∧ (∀ i, i < n → w2.cell? ⟨g2, i, none⟩ = some (.int .i64 (z i))) ∧ w2.cell? ⟨g2, n, none⟩ = some (.int .i64 77) ∧ Below w.heap.size w w2 := by
  have hB0 := below_new (Below.refl _ w) (.cells #[] 2)
  have own0 : (w.alloc (.cells #[] 2)).ownsRow w.heap.size 2 1 (.slice (some ⟨w.heap.size, 0, none⟩) 0 0) 0 [] := by
    have := World.ownsRow_made (e := 2) (size := 1) (base := w.heap.size) w #[] 0 (by simp) (by simp [maxLen]) rfl
    simpa using this
  obtain ⟨_, hz, hc⟩ := h
  obtain ⟨g1, c1, w1, hr1, ho1, hB1⟩ := app64 _ w.heap.size w.heap.size 0 0 [] own0 (by simp) a n cap z (by
    rcases hc with h0 | ⟨b, off, e, hb, hcc⟩
    · exact Or.inl h0
    · exact Or.inr ⟨b, off, e, by simp; omega, fun i hi => by rw [hB0.cell (p := ⟨b, off + i, none⟩) hb]; exact hcc i hi⟩) (by omega)
  rw [Nat.zero_add, List.nil_append] at ho1
  rw [Nat.zero_add] at hr1
  have hBn := below_new (Below.refl _ w1) (.cells #[.int .i64 77] 2)
  have hs1 : w.heap.size ≤ w1.heap.size := by have := hB1.size; simp at this; omega
  obtain ⟨g2, c2, w2, hr2, ho2, hB2⟩ := app64 _ w.heap.size g1 c1 n (encI z n) (ownsRow_below ho1 hBn) (by simp; omega) (some ⟨w1.heap.size, 0, none⟩) 1 1 (fun _ => 77) (Or.inr ⟨w1.heap.size, 0, rfl, by simp, fun i hi => by { obtain rfl : i = 0 := (by omega); simp [go_sem] }⟩) (by omega)
  have hcs := ho2.cells (g := g2) rfl
  have hlt := ho2.lt g2 rfl
  have hc2 : n + 1 ≤ c2 := by
    rcases ho2.2 with ⟨hq, _⟩ | ⟨g', cap', cur, hq, _, _, hnc, _⟩
    · cases hq
    · cases hq; exact hnc
  refine ⟨g1, c1, w1, g2, c2, w2, hr1, hr2, hc2, hlt.2, hlt.1, fun i hi => ?_, ?_, hB0.trans (hB1.trans ((hBn.mono (by omega)).trans hB2))⟩
  · have := hcs i (.int .i64 (z i)) (by rw [List.getElem?_append_left (by rw [encI_len]; exact hi), encI_get z n i hi])
    rw [add_none2, Nat.zero_add] at this; exact this
  · have := hcs n (.int .i64 77) (by rw [List.getElem?_append_right (by rw [encI_len]; omega), encI_len]; simp [encI])
    rw [add_none2, Nat.zero_add] at this; exact this
end Go.Proofs.YtfijagdbdbbbpaaDoor

namespace Go.Proofs.YtfijagdbdbbbpaaDoor
open Go.RowKit
set_option linter.unusedVariables false
set_option linter.unusedSimpArgs false
end Go.Proofs.YtfijagdbdbbbpaaDoor

namespace Go.Proofs.YtfijagdbdbbbpaaDoor
open Go.RowKit
set_option linter.unusedVariables false
set_option linter.unusedSimpArgs false
theorem val_info : (Tryd.prog.info? 57).map (fun i => (i.zero, i.bytes, i.size)) = some (some (.agg #[.int .u8 0, .int .i64 0]), 16, 2) := by kernel_rfl
def valC (kk : Nat → Nat) (xx : Nat → Int) (j : Nat) : Value := if j % 2 = 0 then .int .u8 (kk (j / 2) : Int) else .int .i64 (xx (j / 2))
def encV (kk : Nat → Nat) (xx : Nat → Int) (n : Nat) : List Value := (List.range (n * 2)).map (valC kk xx)
theorem encV_len (kk : Nat → Nat) (xx : Nat → Int) (n : Nat) : (encV kk xx n).length = n * 2 := by simp [encV]
theorem encV_get (kk : Nat → Nat) (xx : Nat → Int) (n j : Nat) (h : j < n * 2) : (encV kk xx n)[j]? = some (valC kk xx j) := by simp [encV, h]
theorem encV_one (kk : Nat → Nat) (xx : Nat → Int) (n : Nat) : ∀ u ∈ encV kk xx n, u.oneCell' = true := by
  intro u hu
  simp only [encV, List.mem_map] at hu
  obtain ⟨x, _, rfl⟩ := hu
  unfold valC
  split <;> rfl
/-- 'append(x, l...)' to values of one's own. -/
theorem appV (W : World) (base g0 c0 m : Nat) (xs : List Value) (own : W.ownsRow base 57 2 (.slice (some ⟨g0, 0, none⟩) m c0) m xs) (hbase : base ≤ W.heap.size) (a : Option Addr) (n cap : Nat) (kk : Nat → Nat) (xx : Nat → Int)
    (h : n = 0 ∨ ∃ b off, a = some ⟨b, off, none⟩ ∧ b < W.heap.size ∧ ∀ i, i < n → W.cell? ⟨b, off + i * 2, none⟩ = some (.int .u8 (kk i : Int)) ∧ W.cell? ⟨b, off + i * 2 + 1, none⟩ = some (.int .i64 (xx i))) (hbig : m + n ≤ 10000000) :
    ∃ g c w', (Builtin.append_ #[54, 54] 54 #[.slice (some ⟨g0, 0, none⟩) m c0, .slice a n cap]).run Tryd.prog W = .ok (.slice (some ⟨g, 0, none⟩) (m + n) c) w' ∧ w'.ownsRow base 57 2 (.slice (some ⟨g, 0, none⟩) (m + n) c) (m + n) (xs ++ encV kk xx n) ∧ Below base W w' := by
  obtain ⟨i, i1, i0⟩ := Option.map_eq_some_iff.1 val_info
  have i2 : i.zero = some (.agg #[.int .u8 0, .int .i64 0]) := congrArg (·.1) i0
  have i3 : i.bytes = 16 := congrArg (·.2.1) i0
  have i4 : i.size = 2 := congrArg (·.2.2) i0
  have hnc : m ≤ c0 := by
    rcases own.2 with ⟨hq, _⟩ | ⟨g1, cap1, cur, hq, _, _, hnc, _⟩
    · cases hq
    · cases hq; exact hnc
  cases a with
  | none =>
    obtain rfl : n = 0 := by
      rcases h with h | ⟨b, off, h, _⟩
      · exact h
      · cases h
    refine ⟨g0, c0, W, ?_, by rw [Nat.add_zero, show encV kk xx 0 = [] from rfl, List.append_nil]; exact own, Below.refl _ _⟩
    simp [Builtin.append_, run_underlying Tryd.underlying54, sizeOf, typeInfo, i1, Builtin.lenOf, hnc, run_firstCells_none, storeCells]
  | some ad =>
    have hnews : ∀ j u, (encV kk xx n)[j]? = some u → W.cell? (ad.add j) = some u := fun j u hu => by
      have hj : j < n * 2 := by
        rcases Nat.lt_or_ge j (n * 2) with h | h
        · exact h
        · rw [List.getElem?_eq_none (by rw [encV_len]; exact h)] at hu; cases hu
      rw [encV_get kk xx n j hj] at hu
      obtain rfl := Option.some.inj hu
      rcases h with h | ⟨b, off, ha, hb, hc⟩
      · omega
      · obtain rfl := Option.some.inj ha
        rw [add_none2]
        obtain ⟨h1, h2⟩ := hc (j / 2) (by omega)
        unfold valC
        split
        · rename_i he
          rw [show off + j = off + j / 2 * 2 by omega]; exact h1
        · rename_i he
          rw [show off + j = off + j / 2 * 2 + 1 by omega]; exact h2
    obtain ⟨v', w', hr, ho', hg, hnil, _⟩ := run_append_own_at (P := Tryd.prog) W base 54 54 57 i (.agg #[.int .u8 0, .int .i64 0]) 2 16 Tryd.underlying54 i1 i2 i4 i3 rfl (by omega) _ m xs own ad n cap (encV kk xx n) (encV_len _ _ _) hnews (encV_one _ _ _) (by simp [maxLen]; omega) (by omega) hbase
    have hB2 : Below base W w' := (Below.refl _ W).grown hg hbase (fun k e => (own.lt k e).1)
    rcases ho'.2 with ⟨hq, _⟩ | ⟨g, c, cur, hq, hbg, hgr, _⟩
    · have := hnil.1 hq; simp at this
    · subst hq
      exact ⟨g, c, w', hr, ho', hB2⟩
theorem ownsRow_belowV {W w' : World} {base m : Nat} {v : Value} {xs : List Value} (h : W.ownsRow base 57 2 v m xs) (hb : Below W.heap.size W w') : w'.ownsRow base 57 2 v m xs := by
  refine ⟨h.1, ?_⟩
  rcases h.2 with h2 | ⟨g, cap, cur, e1, e2, e3, e4⟩
  · exact Or.inl h2
  · exact Or.inr ⟨g, cap, cur, e1, e2, by rw [hb.block g (Array.getElem?_eq_some_iff.1 e3).1]; exact e3, e4⟩
/-- the law's own copy. -/
theorem own_copyV (w : World) (a : Option Addr) (n cap : Nat) (kk : Nat → Nat) (xx : Nat → Int) (h : VIn w a n kk xx) (hs : n ≤ 1048576) : ∃ g1 c1 w1 g2 c2 w2,
    (Builtin.append_ #[54, 54] 54 #[.slice (some ⟨w.heap.size, 0, none⟩) 0 0, .slice a n cap]).run Tryd.prog (w.alloc (.cells #[] 57)) = .ok (.slice (some ⟨g1, 0, none⟩) n c1) w1 ∧
    (Builtin.append_ #[54, 54] 54 #[.slice (some ⟨g1, 0, none⟩) n c1, .slice (some ⟨w1.heap.size, 0, none⟩) 1 1]).run Tryd.prog (w1.alloc (.cells #[.int .u8 0, .int .i64 77] 57)) = .ok (.slice (some ⟨g2, 0, none⟩) (n + 1) c2) w2 ∧
    n + 1 ≤ c2 ∧ g2 < w2.heap.size ∧ w.heap.size ≤ g2 ∧ VIn w2 (some ⟨g2, 0, none⟩) n kk xx ∧ w2.cell? ⟨g2, n * 2, none⟩ = some (.int .u8 0) ∧ w2.cell? ⟨g2, n * 2 + 1, none⟩ = some (.int .i64 77) ∧ Below w.heap.size w w2 := by
  have hB0 := below_new (Below.refl _ w) (.cells #[] 57)
  have own0 : (w.alloc (.cells #[] 57)).ownsRow w.heap.size 57 2 (.slice (some ⟨w.heap.size, 0, none⟩) 0 0) 0 [] := by
    have := World.ownsRow_made (e := 57) (size := 2) (base := w.heap.size) w #[] 0 (by simp) (by simp [maxLen]) rfl
    simpa using this
  have hh := h
  obtain ⟨_, hz, hc⟩ := h
  obtain ⟨g1, c1, w1, hr1, ho1, hB1⟩ := appV _ w.heap.size w.heap.size 0 0 [] own0 (by simp) a n cap kk xx (by
    rcases hc with h0 | ⟨b, off, e, hb, hcc⟩
    · exact Or.inl h0
    · exact Or.inr ⟨b, off, e, by simp; omega, fun i hi => ⟨by rw [hB0.cell (p := ⟨b, off + i * 2, none⟩) hb]; exact (hcc i hi).1, by rw [hB0.cell (p := ⟨b, off + i * 2 + 1, none⟩) hb]; exact (hcc i hi).2⟩⟩) (by omega)
  rw [Nat.zero_add, List.nil_append] at ho1
  rw [Nat.zero_add] at hr1
  have hBn := below_new (Below.refl _ w1) (.cells #[.int .u8 0, .int .i64 77] 57)
  have hs1 : w.heap.size ≤ w1.heap.size := by have := hB1.size; simp at this; omega
  obtain ⟨g2, c2, w2, hr2, ho2, hB2⟩ := appV _ w.heap.size g1 c1 n (encV kk xx n) (ownsRow_belowV ho1 hBn) (by simp; omega) (some ⟨w1.heap.size, 0, none⟩) 1 1 (fun _ => 0) (fun _ => 77) (Or.inr ⟨w1.heap.size, 0, rfl, by simp, fun i hi => by { obtain rfl : i = 0 := (by omega); exact ⟨by simp [go_sem], by simp [go_sem]⟩ }⟩) (by omega)
  have hcs := ho2.cells (g := g2) rfl
  have hlt := ho2.lt g2 rfl
  have hc2 : n + 1 ≤ c2 := by
    rcases ho2.2 with ⟨hq, _⟩ | ⟨g', cap', cur, hq, _, _, hnc, _⟩
    · cases hq
    · cases hq; exact hnc
  have get1 : ∀ j, j < n * 2 → w2.cell? ⟨g2, j, none⟩ = some (valC kk xx j) := fun j hj => by
    have := hcs j (valC kk xx j) (by rw [List.getElem?_append_left (by rw [encV_len]; exact hj), encV_get kk xx n j hj])
    rw [add_none2, Nat.zero_add] at this; exact this
  have get2 : ∀ j, j < 2 → w2.cell? ⟨g2, n * 2 + j, none⟩ = some (valC (fun _ => 0) (fun _ => 77) j) := fun j hj => by
    have := hcs (n * 2 + j) (valC (fun _ => 0) (fun _ => 77) j) (by rw [List.getElem?_append_right (by rw [encV_len]; omega), encV_len, show n * 2 + j - n * 2 = j by omega, encV_get _ _ 1 j (by omega)])
    rw [add_none2, Nat.zero_add] at this; exact this
  refine ⟨g1, c1, w1, g2, c2, w2, hr1, hr2, hc2, hlt.2, hlt.1, ⟨hh.1, hz, Or.inr ⟨g2, 0, rfl, hlt.2, fun i hi => ⟨?_, ?_⟩⟩⟩, get2 0 (by omega), get2 1 (by omega), hB0.trans (hB1.trans ((hBn.mono (by omega)).trans hB2))⟩
  · have := get1 (i * 2) (by omega)
    rw [Nat.zero_add, this]; unfold valC; rw [if_pos (by omega), show i * 2 / 2 = i by omega]
  · have := get1 (i * 2 + 1) (by omega)
    rw [Nat.zero_add, this]; unfold valC; rw [if_neg (by omega), show (i * 2 + 1) / 2 = i by omega]
end Go.Proofs.YtfijagdbdbbbpaaDoor

namespace Go.Proofs.YtfijagdbdbbbpaaDoor
open Go.RowKit
set_option linter.unusedVariables false
set_option linter.unusedSimpArgs false
/-- samples in memory: times, kinds, numbers. -/
def SIn (w : World) (a : Option Addr) (n : Nat) (tt : Nat → Int) (kk : Nat → Nat) (xx : Nat → Int) : Prop := n ≤ 8796093022208 ∧ (∀ i, kk i < 256 ∧ -9223372036854775808 ≤ xx i ∧ xx i ≤ 9223372036854775807) ∧ (∀ i, -9223372036854775808 ≤ tt i ∧ tt i ≤ 9223372036854775807) ∧ (n = 0 ∨ ∃ b off, a = some ⟨b, off, none⟩ ∧ b < w.heap.size ∧ ∀ i, i < n → w.cell? ⟨b, off + i * 3, none⟩ = some (.int .i64 (tt i)) ∧ w.cell? ⟨b, off + i * 3 + 1, none⟩ = some (.int .u8 (kk i : Int)) ∧ w.cell? ⟨b, off + i * 3 + 2, none⟩ = some (.int .i64 (xx i)))
theorem SIn.below {w w' : World} {a : Option Addr} {n B : Nat} {tt : Nat → Int} {kk : Nat → Nat} {xx : Nat → Int} (h : SIn w a n tt kk xx) (hb : Below B w w') (hB : w.heap.size ≤ B) : SIn w' a n tt kk xx := by
  obtain ⟨h1, h2, h2', h3⟩ := h
  refine ⟨h1, h2, h2', ?_⟩
  rcases h3 with h0 | ⟨b, off, e, hl, hc⟩
  · exact Or.inl h0
  · exact Or.inr ⟨b, off, e, Nat.lt_of_lt_of_le hl hb.size, fun i hi => ⟨by rw [hb.cell (p := ⟨b, off + i * 3, none⟩) (by show b < B; omega)]; exact (hc i hi).1, by rw [hb.cell (p := ⟨b, off + i * 3 + 1, none⟩) (by show b < B; omega)]; exact (hc i hi).2.1, by rw [hb.cell (p := ⟨b, off + i * 3 + 2, none⟩) (by show b < B; omega)]; exact (hc i hi).2.2⟩⟩
theorem smp_info : (Tryd.prog.info? 59).map (fun i => (i.zero, i.bytes, i.size)) = some (some (.agg #[.int .i64 0, .int .u8 0, .int .i64 0]), 24, 3) := by kernel_rfl
def smpC (tt : Nat → Int) (kk : Nat → Nat) (xx : Nat → Int) (j : Nat) : Value := if j % 3 = 0 then .int .i64 (tt (j / 3)) else if j % 3 = 1 then .int .u8 (kk (j / 3) : Int) else .int .i64 (xx (j / 3))
def encS (tt : Nat → Int) (kk : Nat → Nat) (xx : Nat → Int) (n : Nat) : List Value := (List.range (n * 3)).map (smpC tt kk xx)
theorem encS_len (tt : Nat → Int) (kk : Nat → Nat) (xx : Nat → Int) (n : Nat) : (encS tt kk xx n).length = n * 3 := by simp [encS]
theorem encS_get (tt : Nat → Int) (kk : Nat → Nat) (xx : Nat → Int) (n j : Nat) (h : j < n * 3) : (encS tt kk xx n)[j]? = some (smpC tt kk xx j) := by simp [encS, h]
theorem encS_one (tt : Nat → Int) (kk : Nat → Nat) (xx : Nat → Int) (n : Nat) : ∀ u ∈ encS tt kk xx n, u.oneCell' = true := by
  intro u hu
  simp only [encS, List.mem_map] at hu
  obtain ⟨x, _, rfl⟩ := hu
  unfold smpC
  split
  · rfl
  · split <;> rfl
theorem appS (W : World) (base g0 c0 m : Nat) (xs : List Value) (own : W.ownsRow base 59 3 (.slice (some ⟨g0, 0, none⟩) m c0) m xs) (hbase : base ≤ W.heap.size) (a : Option Addr) (n cap : Nat) (tt : Nat → Int) (kk : Nat → Nat) (xx : Nat → Int)
    (h : n = 0 ∨ ∃ b off, a = some ⟨b, off, none⟩ ∧ b < W.heap.size ∧ ∀ i, i < n → W.cell? ⟨b, off + i * 3, none⟩ = some (.int .i64 (tt i)) ∧ W.cell? ⟨b, off + i * 3 + 1, none⟩ = some (.int .u8 (kk i : Int)) ∧ W.cell? ⟨b, off + i * 3 + 2, none⟩ = some (.int .i64 (xx i))) (hbig : m + n ≤ 10000000) :
    ∃ g c w', (Builtin.append_ #[22, 22] 22 #[.slice (some ⟨g0, 0, none⟩) m c0, .slice a n cap]).run Tryd.prog W = .ok (.slice (some ⟨g, 0, none⟩) (m + n) c) w' ∧ w'.ownsRow base 59 3 (.slice (some ⟨g, 0, none⟩) (m + n) c) (m + n) (xs ++ encS tt kk xx n) ∧ Below base W w' := by
  obtain ⟨i, i1, i0⟩ := Option.map_eq_some_iff.1 smp_info
  have i2 : i.zero = some (.agg #[.int .i64 0, .int .u8 0, .int .i64 0]) := congrArg (·.1) i0
  have i3 : i.bytes = 24 := congrArg (·.2.1) i0
  have i4 : i.size = 3 := congrArg (·.2.2) i0
  have hnc : m ≤ c0 := by
    rcases own.2 with ⟨hq, _⟩ | ⟨g1, cap1, cur, hq, _, _, hnc, _⟩
    · cases hq
    · cases hq; exact hnc
  cases a with
  | none =>
    obtain rfl : n = 0 := by
      rcases h with h | ⟨b, off, h, _⟩
      · exact h
      · cases h
    refine ⟨g0, c0, W, ?_, by rw [Nat.add_zero, show encS tt kk xx 0 = [] from rfl, List.append_nil]; exact own, Below.refl _ _⟩
    simp [Builtin.append_, run_underlying Tryd.underlying22, sizeOf, typeInfo, i1, Builtin.lenOf, hnc, run_firstCells_none, storeCells]
  | some ad =>
    have hnews : ∀ j u, (encS tt kk xx n)[j]? = some u → W.cell? (ad.add j) = some u := fun j u hu => by
      have hj : j < n * 3 := by
        rcases Nat.lt_or_ge j (n * 3) with h | h
        · exact h
        · rw [List.getElem?_eq_none (by rw [encS_len]; exact h)] at hu; cases hu
      rw [encS_get tt kk xx n j hj] at hu
      obtain rfl := Option.some.inj hu
      rcases h with h | ⟨b, off, ha, hb, hc⟩
      · omega
      · obtain rfl := Option.some.inj ha
        rw [add_none2]
        obtain ⟨h1, h2, h3⟩ := hc (j / 3) (by omega)
        unfold smpC
        split
        · rename_i he
          rw [show off + j = off + j / 3 * 3 by omega]; exact h1
        · rename_i he
          split
          · rename_i he'
            rw [show off + j = off + j / 3 * 3 + 1 by omega]; exact h2
          · rename_i he'
            rw [show off + j = off + j / 3 * 3 + 2 by omega]; exact h3
    obtain ⟨v', w', hr, ho', hg, hnil, _⟩ := run_append_own_at (P := Tryd.prog) W base 22 22 59 i (.agg #[.int .i64 0, .int .u8 0, .int .i64 0]) 3 24 Tryd.underlying22 i1 i2 i4 i3 rfl (by omega) _ m xs own ad n cap (encS tt kk xx n) (encS_len _ _ _ _) hnews (encS_one _ _ _ _) (by simp [maxLen]; omega) (by omega) hbase
    have hB2 : Below base W w' := (Below.refl _ W).grown hg hbase (fun k e => (own.lt k e).1)
    rcases ho'.2 with ⟨hq, _⟩ | ⟨g, c, cur, hq, hbg, hgr, _⟩
    · have := hnil.1 hq; simp at this
    · subst hq
      exact ⟨g, c, w', hr, ho', hB2⟩
theorem ownsRow_belowS {W w' : World} {base m : Nat} {v : Value} {xs : List Value} (h : W.ownsRow base 59 3 v m xs) (hb : Below W.heap.size W w') : w'.ownsRow base 59 3 v m xs := by
  refine ⟨h.1, ?_⟩
  rcases h.2 with h2 | ⟨g, cap, cur, e1, e2, e3, e4⟩
  · exact Or.inl h2
  · exact Or.inr ⟨g, cap, cur, e1, e2, by rw [hb.block g (Array.getElem?_eq_some_iff.1 e3).1]; exact e3, e4⟩
/-- the law's own copy. -/
theorem own_copyS (w : World) (a : Option Addr) (n cap : Nat) (tt : Nat → Int) (kk : Nat → Nat) (xx : Nat → Int) (h : SIn w a n tt kk xx) (hs : n ≤ 1048576) : ∃ g1 c1 w1 g2 c2 w2,
    (Builtin.append_ #[22, 22] 22 #[.slice (some ⟨w.heap.size, 0, none⟩) 0 0, .slice a n cap]).run Tryd.prog (w.alloc (.cells #[] 59)) = .ok (.slice (some ⟨g1, 0, none⟩) n c1) w1 ∧
    (Builtin.append_ #[22, 22] 22 #[.slice (some ⟨g1, 0, none⟩) n c1, .slice (some ⟨w1.heap.size, 0, none⟩) 1 1]).run Tryd.prog (w1.alloc (.cells #[.int .i64 77, .int .u8 0, .int .i64 0] 59)) = .ok (.slice (some ⟨g2, 0, none⟩) (n + 1) c2) w2 ∧
    n + 1 ≤ c2 ∧ g2 < w2.heap.size ∧ w.heap.size ≤ g2 ∧ SIn w2 (some ⟨g2, 0, none⟩) n tt kk xx ∧ w2.cell? ⟨g2, n * 3, none⟩ = some (.int .i64 77) ∧ Below w.heap.size w w2 := by
  have hB0 := below_new (Below.refl _ w) (.cells #[] 59)
  have own0 : (w.alloc (.cells #[] 59)).ownsRow w.heap.size 59 3 (.slice (some ⟨w.heap.size, 0, none⟩) 0 0) 0 [] := by
    have := World.ownsRow_made (e := 59) (size := 3) (base := w.heap.size) w #[] 0 (by simp) (by simp [maxLen]) rfl
    simpa using this
  have hh := h
  obtain ⟨_, hz, hz', hc⟩ := h
  obtain ⟨g1, c1, w1, hr1, ho1, hB1⟩ := appS _ w.heap.size w.heap.size 0 0 [] own0 (by simp) a n cap tt kk xx (by
    rcases hc with h0 | ⟨b, off, e, hb, hcc⟩
    · exact Or.inl h0
    · exact Or.inr ⟨b, off, e, by simp; omega, fun i hi => ⟨by rw [hB0.cell (p := ⟨b, off + i * 3, none⟩) hb]; exact (hcc i hi).1, by rw [hB0.cell (p := ⟨b, off + i * 3 + 1, none⟩) hb]; exact (hcc i hi).2.1, by rw [hB0.cell (p := ⟨b, off + i * 3 + 2, none⟩) hb]; exact (hcc i hi).2.2⟩⟩) (by omega)
  rw [Nat.zero_add, List.nil_append] at ho1
  rw [Nat.zero_add] at hr1
  have hBn := below_new (Below.refl _ w1) (.cells #[.int .i64 77, .int .u8 0, .int .i64 0] 59)
  have hs1 : w.heap.size ≤ w1.heap.size := by have := hB1.size; simp at this; omega
  obtain ⟨g2, c2, w2, hr2, ho2, hB2⟩ := appS _ w.heap.size g1 c1 n (encS tt kk xx n) (ownsRow_belowS ho1 hBn) (by simp; omega) (some ⟨w1.heap.size, 0, none⟩) 1 1 (fun _ => 77) (fun _ => 0) (fun _ => 0) (Or.inr ⟨w1.heap.size, 0, rfl, by simp, fun i hi => by { obtain rfl : i = 0 := (by omega); exact ⟨by simp [go_sem], by simp [go_sem], by simp [go_sem]⟩ }⟩) (by omega)
  have hcs := ho2.cells (g := g2) rfl
  have hlt := ho2.lt g2 rfl
  have hc2 : n + 1 ≤ c2 := by
    rcases ho2.2 with ⟨hq, _⟩ | ⟨g', cap', cur, hq, _, _, hnc, _⟩
    · cases hq
    · cases hq; exact hnc
  have get1 : ∀ j, j < n * 3 → w2.cell? ⟨g2, j, none⟩ = some (smpC tt kk xx j) := fun j hj => by
    have := hcs j (smpC tt kk xx j) (by rw [List.getElem?_append_left (by rw [encS_len]; exact hj), encS_get tt kk xx n j hj])
    rw [add_none2, Nat.zero_add] at this; exact this
  have get2 : ∀ j, j < 3 → w2.cell? ⟨g2, n * 3 + j, none⟩ = some (smpC (fun _ => 77) (fun _ => 0) (fun _ => 0) j) := fun j hj => by
    have := hcs (n * 3 + j) (smpC (fun _ => 77) (fun _ => 0) (fun _ => 0) j) (by rw [List.getElem?_append_right (by rw [encS_len]; omega), encS_len, show n * 3 + j - n * 3 = j by omega, encS_get _ _ _ 1 j (by omega)])
    rw [add_none2, Nat.zero_add] at this; exact this
  refine ⟨g1, c1, w1, g2, c2, w2, hr1, hr2, hc2, hlt.2, hlt.1, ⟨hh.1, hz, hz', Or.inr ⟨g2, 0, rfl, hlt.2, fun i hi => ⟨?_, ?_, ?_⟩⟩⟩, get2 0 (by omega), hB0.trans (hB1.trans ((hBn.mono (by omega)).trans hB2))⟩
  · have := get1 (i * 3) (by omega)
    rw [Nat.zero_add, this]; unfold smpC; rw [if_pos (by omega), show i * 3 / 3 = i by omega]
  · have := get1 (i * 3 + 1) (by omega)
    rw [Nat.zero_add, this]; unfold smpC; rw [if_neg (by omega), if_pos (by omega), show (i * 3 + 1) / 3 = i by omega]
  · have := get1 (i * 3 + 2) (by omega)
    rw [Nat.zero_add, this]; unfold smpC; rw [if_neg (by omega), if_neg (by omega), show (i * 3 + 2) / 3 = i by omega]
end Go.Proofs.YtfijagdbdbbbpaaDoor
