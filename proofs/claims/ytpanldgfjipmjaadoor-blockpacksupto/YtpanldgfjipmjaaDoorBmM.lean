
import Derived.Test.YtpanldgfjipmjaaDoorBlR
import Derived.BigQuiet
import Derived.Deep.CutRange
import Derived.Test.YtpanldgfjipmjaaDoorBlF
import Derived.Test.YtpanldgfjipmjaaDoorBlH
import Derived.Test.YtpanldgfjipmjaaDoorBlU
namespace Go.Proofs.YtpanldgfjipmjaaDoor
open Go.RowKit
set_option linter.unusedVariables false
set_option linter.unusedSimpArgs false
/-- samples in memory: times, kinds, numbers. -/
def SIn (w : World) (a : Option Addr) (n : Nat) (tt : Nat → Int) (kk : Nat → Nat) (xx : Nat → Int) : Prop := n ≤ 8796093022208 ∧ (∀ i, kk i < 256 ∧ -9223372036854775808 ≤ xx i ∧ xx i ≤ 9223372036854775807) ∧ (∀ i, -9223372036854775808 ≤ tt i ∧ tt i ≤ 9223372036854775807) ∧ (n = 0 ∨ ∃ b off, a = some ⟨b, off, none⟩ ∧ b < w.heap.size ∧ ∀ i, i < n → w.cell? ⟨b, off + i * 3, none⟩ = some (.int .i64 (tt i)) ∧ w.cell? ⟨b, off + i * 3 + 1, none⟩ = some (.int .u8 (kk i : Int)) ∧ w.cell? ⟨b, off + i * 3 + 2, none⟩ = some (.int .i64 (xx i)))
theorem SIn.below {w w' : World} {a : Option Addr} {n B : Nat} {tt : Nat → Int} {kk : Nat → Nat} {xx : Nat → Int} (h : SIn w a n tt kk xx) (hb : Below B w w') (hB : w.heap.size ≤ B) : SIn w' a n tt kk xx := by
  obtain ⟨h1, h2, h2', h3⟩ := h
  refine ⟨h1, h2, h2', ?_⟩
  rcases h3 with h0 | ⟨b, off, e, hl, hc⟩
  · exact Or.inl h0
  · exact Or.inr ⟨b, off, e, Nat.lt_of_lt_of_le hl hb.size, fun i hi => ⟨by rw [hb.cell (p := ⟨b, off + i * 3, none⟩) (by show b < B; omega)]; exact (hc i hi).1, by rw [hb.cell (p := ⟨b, off + i * 3 + 1, none⟩) (by show b < B; omega)]; exact (hc i hi).2.1, by rw [hb.cell (p := ⟨b, off + i * 3 + 2, none⟩) (by show b < B; omega)]; exact (hc i hi).2.2⟩⟩
theorem smp_info : (Tryd.prog.info? 48).map (fun i => (i.zero, i.bytes, i.size)) = some (some (.agg #[.int .i64 0, .int .u8 0, .int .i64 0]), 24, 3) := by kernel_rfl
def smpC (tt : Nat → Int) (kk : Nat → Nat) (xx : Nat → Int) (j : Nat) : Value := if j % 3 = 0 then .int .i64 (tt (j / 3)) else if j % 3 = 1 then .int .u8 (kk (j / 3) : Int) else .int .i64 (xx (j / 3))
def encS (tt : Nat → Int) (kk : Nat → Nat) (xx : Nat → Int) (n : Nat) : List Value := (List.range (n * 3)).map (smpC tt kk xx)
theorem encS_len (tt : Nat → Int) (kk : Nat → Nat) (xx : Nat → Int) (n : Nat) : (encS tt kk xx n).length = n * 3 := by simp [encS]
theorem encS_get (tt : Nat → Int) (kk : Nat → Nat) (xx : Nat → Int) (n j : Nat) (h : j < n * 3) : (encS tt kk xx n)[j]? = some (smpC tt kk xx j) := by simp [encS, h]
theorem encS_one (tt : Nat → Int) (kk : Nat → Nat) (xx : Nat → Int) (n : Nat) : ∀ u ∈ encS tt kk xx n, u.oneCell' = true := by
  intro u hu
  simp only [encS, List.mem_map] at hu
  obtain ⟨x, _, rfl⟩ := hu
  unfold smpC
  split
  · rfl
  · split <;> rfl
theorem appS (W : World) (base g0 c0 m : Nat) (xs : List Value) (own : W.ownsRow base 48 3 (.slice (some ⟨g0, 0, none⟩) m c0) m xs) (hbase : base ≤ W.heap.size) (a : Option Addr) (n cap : Nat) (tt : Nat → Int) (kk : Nat → Nat) (xx : Nat → Int)
    (h : n = 0 ∨ ∃ b off, a = some ⟨b, off, none⟩ ∧ b < W.heap.size ∧ ∀ i, i < n → W.cell? ⟨b, off + i * 3, none⟩ = some (.int .i64 (tt i)) ∧ W.cell? ⟨b, off + i * 3 + 1, none⟩ = some (.int .u8 (kk i : Int)) ∧ W.cell? ⟨b, off + i * 3 + 2, none⟩ = some (.int .i64 (xx i))) (hbig : m + n ≤ 10000000) :
    ∃ g c w', (Builtin.append_ #[46, 46] 46 #[.slice (some ⟨g0, 0, none⟩) m c0, .slice a n cap]).run Tryd.prog W = .ok (.slice (some ⟨g, 0, none⟩) (m + n) c) w' ∧ w'.ownsRow base 48 3 (.slice (some ⟨g, 0, none⟩) (m + n) c) (m + n) (xs ++ encS tt kk xx n) ∧ Below base W w' := by
  obtain ⟨i, i1, i0⟩ := Option.map_eq_some_iff.1 smp_info
  have i2 : i.zero = some (.agg #[.int .i64 0, .int .u8 0, .int .i64 0]) := congrArg (·.1) i0
  have i3 : i.bytes = 24 := congrArg (·.2.1) i0
  have i4 : i.size = 3 := congrArg (·.2.2) i0
  have hnc : m ≤ c0 := by
    rcases own.2 with ⟨hq, _⟩ | ⟨g1, cap1, cur, hq, _, _, hnc, _⟩
    · cases hq
    · cases hq; exact hnc
  cases a with
  | none =>
    obtain rfl : n = 0 := by
      rcases h with h | ⟨b, off, h, _⟩
      · exact h
      · cases h
    refine ⟨g0, c0, W, ?_, by rw [Nat.add_zero, show encS tt kk xx 0 = [] from rfl, List.append_nil]; exact own, Below.refl _ _⟩
    simp [Builtin.append_, run_underlying Tryd.underlying46, sizeOf, typeInfo, i1, Builtin.lenOf, hnc, run_firstCells_none, storeCells]
  | some ad =>
    have hnews : ∀ j u, (encS tt kk xx n)[j]? = some u → W.cell? (ad.add j) = some u := fun j u hu => by
      have hj : j < n * 3 := by
        rcases Nat.lt_or_ge j (n * 3) with h | h
        · exact h
        · rw [List.getElem?_eq_none (by rw [encS_len]; exact h)] at hu; cases hu
      rw [encS_get tt kk xx n j hj] at hu
      obtain rfl := Option.some.inj hu
      rcases h with h | ⟨b, off, ha, hb, hc⟩
      · omega
      · obtain rfl := Option.some.inj ha
        rw [add_none2]
        obtain ⟨h1, h2, h3⟩ := hc (j / 3) (by omega)
        unfold smpC
        split
        · rename_i he
          rw [show off + j = off + j / 3 * 3 by omega]; exact h1
        · rename_i he
          split
          · rename_i he'
            rw [show off + j = off + j / 3 * 3 + 1 by omega]; exact h2
          · rename_i he'
            rw [show off + j = off + j / 3 * 3 + 2 by omega]; exact h3
    obtain ⟨v', w', hr, ho', hg, hnil, _⟩ := run_append_own_at (P := Tryd.prog) W base 46 46 48 i (.agg #[.int .i64 0, .int .u8 0, .int .i64 0]) 3 24 Tryd.underlying46 i1 i2 i4 i3 rfl (by omega) _ m xs own ad n cap (encS tt kk xx n) (encS_len _ _ _ _) hnews (encS_one _ _ _ _) (by simp [maxLen]; omega) (by omega) hbase
    have hB2 : Below base W w' := (Below.refl _ W).grown hg hbase (fun k e => (own.lt k e).1)
    rcases ho'.2 with ⟨hq, _⟩ | ⟨g, c, cur, hq, hbg, hgr, _⟩
    · have := hnil.1 hq; simp at this
    · subst hq
      exact ⟨g, c, w', hr, ho', hB2⟩
theorem ownsRow_belowS {W w' : World} {base m : Nat} {v : Value} {xs : List Value} (h : W.ownsRow base 48 3 v m xs) (hb : Below W.heap.size W w') : w'.ownsRow base 48 3 v m xs := by
  refine ⟨h.1, ?_⟩
  rcases h.2 with h2 | ⟨g, cap, cur, e1, e2, e3, e4⟩
  · exact Or.inl h2
  · exact Or.inr ⟨g, cap, cur, e1, e2, by rw [hb.block g (Array.getElem?_eq_some_iff.1 e3).1]; exact e3, e4⟩
/-- the law's own copy. -/
theorem own_copyS (w : World) (a : Option Addr) (n cap : Nat) (tt : Nat → Int) (kk : Nat → Nat) (xx : Nat → Int) (h : SIn w a n tt kk xx) (hs : n ≤ 1048576) : ∃ g1 c1 w1 g2 c2 w2,
    (Builtin.append_ #[46, 46] 46 #[.slice (some ⟨w.heap.size, 0, none⟩) 0 0, .slice a n cap]).run Tryd.prog (w.alloc (.cells #[] 48)) = .ok (.slice (some ⟨g1, 0, none⟩) n c1) w1 ∧
    (Builtin.append_ #[46, 46] 46 #[.slice (some ⟨g1, 0, none⟩) n c1, .slice (some ⟨w1.heap.size, 0, none⟩) 1 1]).run Tryd.prog (w1.alloc (.cells #[.int .i64 77, .int .u8 0, .int .i64 0] 48)) = .ok (.slice (some ⟨g2, 0, none⟩) (n + 1) c2) w2 ∧
    n + 1 ≤ c2 ∧ g2 < w2.heap.size ∧ w.heap.size ≤ g2 ∧ SIn w2 (some ⟨g2, 0, none⟩) n tt kk xx ∧ w2.cell? ⟨g2, n * 3, none⟩ = some (.int .i64 77) ∧ Below w.heap.size w w2 := by
  have hB0 := below_new (Below.refl _ w) (.cells #[] 48)
  have own0 : (w.alloc (.cells #[] 48)).ownsRow w.heap.size 48 3 (.slice (some ⟨w.heap.size, 0, none⟩) 0 0) 0 [] := by
    have := World.ownsRow_made (e := 48) (size := 3) (base := w.heap.size) w #[] 0 (by simp) (by simp [maxLen]) rfl
    simpa using this
  have hh := h
  obtain ⟨_, hz, hz', hc⟩ := h
  obtain ⟨g1, c1, w1, hr1, ho1, hB1⟩ := appS _ w.heap.size w.heap.size 0 0 [] own0 (by simp) a n cap tt kk xx (by
    rcases hc with h0 | ⟨b, off, e, hb, hcc⟩
    · exact Or.inl h0
    · exact Or.inr ⟨b, off, e, by simp; omega, fun i hi => ⟨by rw [hB0.cell (p := ⟨b, off + i * 3, none⟩) hb]; exact (hcc i hi).1, by rw [hB0.cell (p := ⟨b, off + i * 3 + 1, none⟩) hb]; exact (hcc i hi).2.1, by rw [hB0.cell (p := ⟨b, off + i * 3 + 2, none⟩) hb]; exact (hcc i hi).2.2⟩⟩) (by omega)
  rw [Nat.zero_add, List.nil_append] at ho1
  rw [Nat.zero_add] at hr1
  have hBn := below_new (Below.refl _ w1) (.cells #[.int .i64 77, .int .u8 0, .int .i64 0] 48)
  have hs1 : w.heap.size ≤ w1.heap.size := by have := hB1.size; simp at this; omega
  obtain ⟨g2, c2, w2, hr2, ho2, hB2⟩ := appS _ w.heap.size g1 c1 n (encS tt kk xx n) (ownsRow_belowS ho1 hBn) (by simp; omega) (some ⟨w1.heap.size, 0, none⟩) 1 1 (fun _ => 77) (fun _ => 0) (fun _ => 0) (Or.inr ⟨w1.heap.size, 0, rfl, by simp, fun i hi => by { obtain rfl : i = 0 := (by omega); exact ⟨by simp [go_sem], by simp [go_sem], by simp [go_sem]⟩ }⟩) (by omega)
  have hcs := ho2.cells (g := g2) rfl
  have hlt := ho2.lt g2 rfl
  have hc2 : n + 1 ≤ c2 := by
    rcases ho2.2 with ⟨hq, _⟩ | ⟨g', cap', cur, hq, _, _, hnc, _⟩
    · cases hq
    · cases hq; exact hnc
  have get1 : ∀ j, j < n * 3 → w2.cell? ⟨g2, j, none⟩ = some (smpC tt kk xx j) := fun j hj => by
    have := hcs j (smpC tt kk xx j) (by rw [List.getElem?_append_left (by rw [encS_len]; exact hj), encS_get tt kk xx n j hj])
    rw [add_none2, Nat.zero_add] at this; exact this
  have get2 : ∀ j, j < 3 → w2.cell? ⟨g2, n * 3 + j, none⟩ = some (smpC (fun _ => 77) (fun _ => 0) (fun _ => 0) j) := fun j hj => by
    have := hcs (n * 3 + j) (smpC (fun _ => 77) (fun _ => 0) (fun _ => 0) j) (by rw [List.getElem?_append_right (by rw [encS_len]; omega), encS_len, show n * 3 + j - n * 3 = j by omega, encS_get _ _ _ 1 j (by omega)])
    rw [add_none2, Nat.zero_add] at this; exact this
  refine ⟨g1, c1, w1, g2, c2, w2, hr1, hr2, hc2, hlt.2, hlt.1, ⟨hh.1, hz, hz', Or.inr ⟨g2, 0, rfl, hlt.2, fun i hi => ⟨?_, ?_, ?_⟩⟩⟩, get2 0 (by omega), hB0.trans (hB1.trans ((hBn.mono (by omega)).trans hB2))⟩
  · have := get1 (i * 3) (by omega)
    rw [Nat.zero_add, this]; unfold smpC; rw [if_pos (by omega), show i * 3 / 3 = i by omega]
  · have := get1 (i * 3 + 1) (by omega)
    rw [Nat.zero_add, this]; unfold smpC; rw [if_neg (by omega), if_pos (by omega), show (i * 3 + 1) / 3 = i by omega]
  · have := get1 (i * 3 + 2) (by omega)
    rw [Nat.zero_add, this]; unfold smpC; rw [if_neg (by omega), if_neg (by omega), show (i * 3 + 2) / 3 = i by omega]
set_option maxRecDepth 100000 in
set_option maxHeartbeats 4000000 in
theorem sameSamples_any (a1 a2 : Option Addr) (n c1 c2 : Nat) (tt : Nat → Int) (kk : Nat → Nat) (xx : Nat → Int) (w : World) (h1 : SIn w a1 n tt kk xx) (h2 : SIn w a2 n tt kk xx) : Calls Tryd.prog 18 #[.slice a1 n c1, .slice a2 n c2] w fun e w' => e = .returned (.bool true) ∧ Below w.heap.size w w' := by
  obtain ⟨hn, hz, hz', hc1⟩ := h1
  obtain ⟨_, _, _, hc2⟩ := h2
  go_enter Tryd.func18, Tryd.ntmps18
  go_wp2_with fail
  go_loopw [5] (fun i wr => ∃ k : Nat, k ≤ n ∧ i = .int .i64 (k : Int) ∧ Below w.heap.size w wr) (fun i _ => n - (intOf i).toNat)
  case atStart => exact ⟨0, by omega, rfl, Below.refl _ _⟩
  case round =>
    obtain ⟨k, hk, rfl, hB⟩ := hrel
    by_cases hkn : k < n
    · have hkI : (k : Int) < (n : Int) := by omega
      have k1 : (0 : Int) ≤ (k : Int) := by omega
      rcases hc1 with h0 | ⟨b, off, rfl, hb, hcc⟩
      · omega
      rcases hc2 with h0 | ⟨b', off', rfl, hb', hcc'⟩
      · omega
      have d1 : wr.cell? ⟨b, off + k * 3, none⟩ = some (.int .i64 (tt k)) := by rw [hB.cell (p := ⟨b, off + k * 3, none⟩) hb]; exact (hcc k hkn).1
      have d2 : wr.cell? ⟨b, off + k * 3 + 1, none⟩ = some (.int .u8 (kk k : Int)) := by rw [hB.cell (p := ⟨b, off + k * 3 + 1, none⟩) hb]; exact (hcc k hkn).2.1
      have d3 : wr.cell? ⟨b, off + k * 3 + 2, none⟩ = some (.int .i64 (xx k)) := by rw [hB.cell (p := ⟨b, off + k * 3 + 2, none⟩) hb]; exact (hcc k hkn).2.2
      have d4 : wr.cell? ⟨b', off' + k * 3, none⟩ = some (.int .i64 (tt k)) := by rw [hB.cell (p := ⟨b', off' + k * 3, none⟩) hb']; exact (hcc' k hkn).1
      have d5 : wr.cell? ⟨b', off' + k * 3 + 1, none⟩ = some (.int .u8 (kk k : Int)) := by rw [hB.cell (p := ⟨b', off' + k * 3 + 1, none⟩) hb']; exact (hcc' k hkn).2.1
      have d6 : wr.cell? ⟨b', off' + k * 3 + 2, none⟩ = some (.int .i64 (xx k)) := by rw [hB.cell (p := ⟨b', off' + k * 3 + 2, none⟩) hb']; exact (hcc' k hkn).2.2
      obtain ⟨x, hx⟩ : ∃ x, x = xx k := ⟨_, rfl⟩
      obtain ⟨y, hy⟩ : ∃ y, y = kk k := ⟨_, rfl⟩
      obtain ⟨t, ht⟩ : ∃ t, t = tt k := ⟨_, rfl⟩
      rw [← hx] at d3 d6
      rw [← hy] at d2 d5
      rw [← ht] at d1 d4
      clear hy ht
      have hBd : ∀ q, Below w.heap.size w (wr.drewN q) := fun q => below_drewN hB q
      clear hx hcc hcc' hB
      go_wp2_with fail
      go_quiet (fail)
      go_wp2_with fail
      go_roundw
      case rel => exact ⟨k + 1, by omega, by go_num, hBd _⟩
      case measure => simp [intOf]; omega
    · have hkI : ¬ (k : Int) < (n : Int) := by omega
      go_wp2_with fail
      go_ret
      exact ⟨rfl, hB⟩
end Go.Proofs.YtpanldgfjipmjaaDoor

namespace Go.Proofs.YtpanldgfjipmjaaDoor
open Go.RowKit
set_option linter.unusedVariables false
set_option linter.unusedSimpArgs false
theorem make_i64 (n : Nat) (h : n ≤ 1048576) (w : World) : (Instr.makeSlice 22 (.int .i64 (n : Int)) (.int .i64 (n : Int))).run Tryd.prog w = .ok (.slice (some ⟨w.heap.size, 0, none⟩) n n) (w.alloc (.cells (madeCells #[.int .i64 0] n) 2)) := by
  have hi : (Tryd.prog.info? 2).map (fun i => (i.zero, i.bytes, i.size)) = some (some (.int .i64 0), 8, 1) := by kernel_rfl
  obtain ⟨i, i1, i0⟩ := Option.map_eq_some_iff.1 hi
  have i2 : i.zero = some (.int .i64 0) := congrArg (·.1) i0
  have i3 : i.bytes = 8 := congrArg (·.2.1) i0
  have i4 : i.size = 1 := congrArg (·.2.2) i0
  have := run_make (P := Tryd.prog) w 22 2 i (.int .i64 0) Tryd.underlying22 i1 i2 .i64 .i64 (n : Int) (n : Int) (by omega) (by omega) (by rw [i3]; omega) (by omega)
  rw [i4] at this
  simpa [Value.cells] using this
theorem make_val (n : Nat) (h : n ≤ 1048576) (w : World) : (Instr.makeSlice 38 (.int .i64 (n : Int)) (.int .i64 (n : Int))).run Tryd.prog w = .ok (.slice (some ⟨w.heap.size, 0, none⟩) n n) (w.alloc (.cells (madeCells #[.int .u8 0, .int .i64 0] (n * 2)) 41)) := by
  obtain ⟨i, i1, i0⟩ := Option.map_eq_some_iff.1 val_info
  have i2 : i.zero = some (.agg #[.int .u8 0, .int .i64 0]) := congrArg (·.1) i0
  have i3 : i.bytes = 16 := congrArg (·.2.1) i0
  have i4 : i.size = 2 := congrArg (·.2.2) i0
  have := run_make (P := Tryd.prog) w 38 41 i (.agg #[.int .u8 0, .int .i64 0]) Tryd.underlying38 i1 i2 .i64 .i64 (n : Int) (n : Int) (by omega) (by omega) (by rw [i3]; omega) (by omega)
  rw [i4] at this
  simpa [Value.cells] using this
theorem made2_get (n j : Nat) (h : j < n * 2) : (madeCells #[Value.int .u8 0, Value.int .i64 0] (n * 2))[j]? = some (if j % 2 = 0 then .int .u8 0 else .int .i64 0) := by
  unfold madeCells
  rw [Array.getElem?_map, Array.getElem?_range, if_pos h]
  rcases Nat.mod_two_eq_zero_or_one j with e | e <;> simp [e]
/-- what stands while samples are split: the times at g, the values at h; k of them are there. -/
structure SP (w : World) (g h n k : Nat) (tt : Nat → Int) (kk : Nat → Nat) (xx : Nat → Int) (wx : World) : Prop where
  tc : ∀ j, j < n → wx.cell? ⟨g, j, none⟩ = some (.int .i64 (if j < k then tt j else 0))
  tf : ∀ j, j < n → wx.frozen? ⟨g, j, none⟩ = false
  vk : ∀ j, j < n → wx.cell? ⟨h, j * 2, none⟩ = some (.int .u8 (if j < k then (kk j : Int) else 0))
  vx : ∀ j, j < n → wx.cell? ⟨h, j * 2 + 1, none⟩ = some (.int .i64 (if j < k then xx j else 0))
  vf : ∀ j, j < n * 2 → wx.frozen? ⟨h, j, none⟩ = false
  b : Below w.heap.size w wx
  l1 : w.heap.size ≤ g
  l2 : g ≠ h
  l3 : h < wx.heap.size
  l4 : g < wx.heap.size
  l5 : w.heap.size ≤ h
theorem SP.start (w : World) (n : Nat) (tt : Nat → Int) (kk : Nat → Nat) (xx : Nat → Int) : SP w w.heap.size (w.heap.size + 1) n 0 tt kk xx ((w.alloc (.cells (madeCells #[.int .i64 0] n) 2)).alloc (.cells (madeCells #[.int .u8 0, .int .i64 0] (n * 2)) 41)) := by
  have hz : ∀ j, j < n → (madeCells #[Value.int .i64 0] n)[j]? = some (.int .i64 0) := fun j hj => by
    rw [← Array.getElem?_toList, toList_madeCells_one]; simp [hj]
  have hB1 := below_new (Below.refl _ w) (.cells (madeCells #[.int .i64 0] n) 2)
  obtain ⟨W, hW⟩ : ∃ W, W = w.alloc (.cells (madeCells #[.int .i64 0] n) 2) := ⟨_, rfl⟩
  have hWs : W.heap.size = w.heap.size + 1 := by rw [hW]; simp
  have hB2 := below_new (Below.refl _ W) (.cells (madeCells #[.int .u8 0, .int .i64 0] (n * 2)) 41)
  have c2 : ∀ j, j < n * 2 → (W.alloc (.cells (madeCells #[.int .u8 0, .int .i64 0] (n * 2)) 41)).cell? ⟨W.heap.size, j, none⟩ = some (if j % 2 = 0 then .int .u8 0 else .int .i64 0) := fun j hj => by
    rw [cell_of_row _ W.heap.size j _ 41 (0, 0) (heap_alloc_new W _)]; exact made2_get n j hj
  have f2 : ∀ j, (W.alloc (.cells (madeCells #[.int .u8 0, .int .i64 0] (n * 2)) 41)).frozen? ⟨W.heap.size, j, none⟩ = false := fun j => frozen_of_row _ W.heap.size j _ 41 (heap_alloc_new W _)
  rw [← hW] at hB1 ⊢
  rw [hWs] at c2 f2
  refine ⟨fun j hj => ?_, fun j hj => ?_, fun j hj => ?_, fun j hj => ?_, fun j hj => f2 j, below_then hB1 hB2, Nat.le_refl _, by omega, by simp [hWs], by simp [hWs]; omega, by omega⟩
  · rw [hB2.cell (p := ⟨w.heap.size, j, none⟩) (by show w.heap.size < W.heap.size; omega), hW, cell_of_row _ w.heap.size j _ 2 (0, 0) (heap_alloc_new w _), if_neg (by omega)]; exact hz j hj
  · rw [hB2.frozen (p := ⟨w.heap.size, j, none⟩) (by show w.heap.size < W.heap.size; omega), hW]; exact frozen_of_row _ w.heap.size j _ 2 (heap_alloc_new w _)
  · rw [c2 _ (by omega), if_pos (by omega), if_neg (by omega)]
  · rw [c2 _ (by omega), if_neg (by omega), if_neg (by omega)]
theorem SP.start2 (w : World) (n : Nat) (tt : Nat → Int) (kk : Nat → Nat) (xx : Nat → Int) : SP w (w.heap.size + 1) w.heap.size n 0 tt kk xx ((w.alloc (.cells (madeCells #[.int .u8 0, .int .i64 0] (n * 2)) 41)).alloc (.cells (madeCells #[.int .i64 0] n) 2)) := by
  have hz : ∀ j, j < n → (madeCells #[Value.int .i64 0] n)[j]? = some (.int .i64 0) := fun j hj => by
    rw [← Array.getElem?_toList, toList_madeCells_one]; simp [hj]
  have hB1 := below_new (Below.refl _ w) (.cells (madeCells #[.int .u8 0, .int .i64 0] (n * 2)) 41)
  have c2 : ∀ j, j < n * 2 → (w.alloc (.cells (madeCells #[.int .u8 0, .int .i64 0] (n * 2)) 41)).cell? ⟨w.heap.size, j, none⟩ = some (if j % 2 = 0 then .int .u8 0 else .int .i64 0) := fun j hj => by
    rw [cell_of_row _ w.heap.size j _ 41 (0, 0) (heap_alloc_new w _)]; exact made2_get n j hj
  have f2 : ∀ j, (w.alloc (.cells (madeCells #[.int .u8 0, .int .i64 0] (n * 2)) 41)).frozen? ⟨w.heap.size, j, none⟩ = false := fun j => frozen_of_row _ w.heap.size j _ 41 (heap_alloc_new w _)
  obtain ⟨W, hW⟩ : ∃ W, W = w.alloc (.cells (madeCells #[.int .u8 0, .int .i64 0] (n * 2)) 41) := ⟨_, rfl⟩
  have hWs : W.heap.size = w.heap.size + 1 := by rw [hW]; simp
  rw [← hW] at hB1 c2 f2 ⊢
  have hB2 := below_new (Below.refl _ W) (.cells (madeCells #[.int .i64 0] n) 2)
  have hl : w.heap.size < W.heap.size := by omega
  rw [← hWs]
  refine ⟨fun j hj => ?_, fun j hj => ?_, fun j hj => ?_, fun j hj => ?_, fun j hj => ?_, below_then hB1 hB2, by omega, by omega, by simp; omega, by simp, Nat.le_refl _⟩
  · rw [cell_of_row _ W.heap.size j _ 2 (0, 0) (heap_alloc_new W _), if_neg (by omega)]; exact hz j hj
  · exact frozen_of_row _ W.heap.size j _ 2 (heap_alloc_new W _)
  · rw [hB2.cell (p := ⟨w.heap.size, j * 2, none⟩) hl, c2 _ (by omega), if_pos (by omega), if_neg (by omega)]
  · rw [hB2.cell (p := ⟨w.heap.size, j * 2 + 1, none⟩) hl, c2 _ (by omega), if_neg (by omega), if_neg (by omega)]
  · rw [hB2.frozen (p := ⟨w.heap.size, j, none⟩) hl]; exact f2 j
theorem SP.below {w : World} {g h n k : Nat} {tt : Nat → Int} {kk : Nat → Nat} {xx : Nat → Int} {wx w' : World} (s : SP w g h n k tt kk xx wx) (hb : Below wx.heap.size wx w') : SP w g h n k tt kk xx w' := by
  obtain ⟨tc, tf, vk, vx, vf, b, l1, l2, l3, l4, l5⟩ := s
  refine ⟨fun j hj => ?_, fun j hj => ?_, fun j hj => ?_, fun j hj => ?_, fun j hj => ?_, below_then b hb, l1, l2, Nat.lt_of_lt_of_le l3 hb.size, Nat.lt_of_lt_of_le l4 hb.size, l5⟩
  · rw [hb.cell (p := ⟨g, j, none⟩) l4]; exact tc j hj
  · rw [hb.frozen (p := ⟨g, j, none⟩) l4]; exact tf j hj
  · rw [hb.cell (p := ⟨h, j * 2, none⟩) l3]; exact vk j hj
  · rw [hb.cell (p := ⟨h, j * 2 + 1, none⟩) l3]; exact vx j hj
  · rw [hb.frozen (p := ⟨h, j, none⟩) l3]; exact vf j hj
theorem SP.put {w : World} {g h n k : Nat} {tt : Nat → Int} {kk : Nat → Nat} {xx : Nat → Int} {wx : World} (s : SP w g h n k tt kk xx wx) (hk : k < n) : SP w g h n (k + 1) tt kk xx (((wx.setCell ⟨g, k, none⟩ (.int .i64 (tt k))).setCell ⟨h, k * 2, none⟩ (.int .u8 (kk k : Int))).setCell ⟨h, k * 2 + 1, none⟩ (.int .i64 (xx k))) := by
  obtain ⟨tc, tf, vk, vx, vf, b, l1, l2, l3, l4, l5⟩ := s
  refine ⟨fun j hj => ?_, fun j hj => by simpa using tf j hj, fun j hj => ?_, fun j hj => ?_, fun j hj => by simpa using vf j hj, ((b.setCell (p := ⟨g, k, none⟩) l1 _).setCell (p := ⟨h, k * 2, none⟩) (show w.heap.size ≤ h by omega) _).setCell (p := ⟨h, k * 2 + 1, none⟩) (show w.heap.size ≤ h by omega) _, l1, l2, by simpa using l3, by simpa using l4, l5⟩
  · rw [World.cell?_setCell_other _ _ _ _ (by intro e; injection e with e1; omega), World.cell?_setCell_other _ _ _ _ (by intro e; injection e with e1; omega)]
    by_cases e : j = k
    · subst e; rw [if_pos (by omega)]; exact World.cell?_setCell_same _ _ _ (tc j hj)
    · rw [World.cell?_setCell_other _ _ _ _ (by intro e'; injection e' with e1 e2; omega), tc j hj]
      by_cases e2 : j < k
      · rw [if_pos e2, if_pos (by omega)]
      · rw [if_neg e2, if_neg (by omega)]
  · rw [World.cell?_setCell_other _ _ _ _ (by intro e; injection e with e1 e2; omega)]
    by_cases e : j = k
    · subst e; rw [if_pos (by omega)]; exact World.cell?_setCell_same _ _ _ (u := .int .u8 (if j < j then (kk j : Int) else 0)) (by rw [World.cell?_setCell_other _ _ _ _ (by intro e; injection e with e1; omega)]; exact vk j hj)
    · rw [World.cell?_setCell_other _ _ _ _ (by intro e'; injection e' with e1 e2; omega), World.cell?_setCell_other _ _ _ _ (by intro e'; injection e' with e1 e2; omega), vk j hj]
      by_cases e2 : j < k
      · rw [if_pos e2, if_pos (by omega)]
      · rw [if_neg e2, if_neg (by omega)]
  · by_cases e : j = k
    · subst e; rw [if_pos (by omega)]; exact World.cell?_setCell_same _ _ _ (u := .int .i64 (if j < j then xx j else 0)) (by rw [World.cell?_setCell_other _ _ _ _ (by intro e; injection e with e1 e2; omega), World.cell?_setCell_other _ _ _ _ (by intro e; injection e with e1; omega)]; exact vx j hj)
    · rw [World.cell?_setCell_other _ _ _ _ (by intro e'; injection e' with e1 e2; omega), World.cell?_setCell_other _ _ _ _ (by intro e'; injection e' with e1 e2; omega), World.cell?_setCell_other _ _ _ _ (by intro e'; injection e' with e1 e2; omega), vx j hj]
      by_cases e2 : j < k
      · rw [if_pos e2, if_pos (by omega)]
      · rw [if_neg e2, if_neg (by omega)]
set_option maxRecDepth 100000 in
set_option maxHeartbeats 4000000 in
theorem split_any (a : Option Addr) (n cap : Nat) (tt : Nat → Int) (kk : Nat → Nat) (xx : Nat → Int) (w : World) (h : SIn w a n tt kk xx) (hs : n ≤ 1048576) : Calls Tryd.prog 39 #[.slice a n cap] w fun e w' => ∃ g h, e = .returned (.tuple #[.slice (some ⟨g, 0, none⟩) n n, .slice (some ⟨h, 0, none⟩) n n]) ∧ IsIn w' (some ⟨g, 0, none⟩) n tt ∧ VIn w' (some ⟨h, 0, none⟩) n kk xx ∧ Below w.heap.size w w' := by
  have hmk := make_i64 n hs
  have hmk2 := make_val n hs
  have hst : Hid _ := SP.start w n tt kk xx
  have hst2 : Hid _ := SP.start2 w n tt kk xx
  have hhH : Hid (SIn w a n tt kk xx) := h
  clear h
  go_enter Tryd.func39, Tryd.ntmps39
  go_wp2_with fail
  go_cut [2, 3] from 6 to 11 (fun t v wx => ∃ g h, t = .slice (some ⟨g, 0, none⟩) n n ∧ v = .slice (some ⟨h, 0, none⟩) n n ∧ SP w g h n 0 tt kk xx wx)
  case first =>
    go_region_with (fail)
    all_goals
      go_wp2_with fail
      go_meet
      first | exact ⟨_, _, rfl, rfl, hst.out.below (Below.refl _ _).drew⟩ | exact ⟨_, _, rfl, rfl, hst2.out.below (Below.refl _ _).drew⟩
  case rest =>
    clear hst hst2 hmk hmk2
    obtain ⟨g, h, rfl, rfl, hS⟩ := hcut
    have hSH : Hid (SP w g h n 0 tt kk xx wc) := hS
    clear hS
    go_wp2_with fail
    go_loopw [14] (fun ix wr => ∃ k : Nat, k ≤ n ∧ ix = .int .i64 (k : Int) ∧ SP w g h n k tt kk xx wr) (fun ix _ => n - (intOf ix).toNat)
    case atStart => exact ⟨0, by omega, rfl, hSH.out⟩
    case round =>
      clear hSH
      obtain ⟨k, hk, rfl, hS⟩ := hrel
      by_cases hkn : k < n
      · have hkI : (k : Int) < (n : Int) := by omega
        have k1 : (0 : Int) ≤ (k : Int) := by omega
        obtain ⟨hn1, hz, hz', hc⟩ := hhH.out
        rcases hc with h0 | ⟨b, off, rfl, hb, hcc⟩
        · omega
        have hBw := hS.b
        have d1 : wr.cell? ⟨b, off + k * 3, none⟩ = some (.int .i64 (tt k)) := by rw [hBw.cell (p := ⟨b, off + k * 3, none⟩) hb]; exact (hcc k hkn).1
        have d2 : wr.cell? ⟨b, off + k * 3 + 1, none⟩ = some (.int .u8 (kk k : Int)) := by rw [hBw.cell (p := ⟨b, off + k * 3 + 1, none⟩) hb]; exact (hcc k hkn).2.1
        have d3 : wr.cell? ⟨b, off + k * 3 + 2, none⟩ = some (.int .i64 (xx k)) := by rw [hBw.cell (p := ⟨b, off + k * 3 + 2, none⟩) hb]; exact (hcc k hkn).2.2
        have e1 := hS.tc k hkn
        have e2 := hS.tf k hkn
        have e3 := hS.vk k hkn
        have e4 := hS.vx k hkn
        have e5 := hS.vf (k * 2) (by omega)
        have e6 := hS.vf (k * 2 + 1) (by omega)
        have l2 := hS.l2
        have l3 := hS.l3
        have l4 := hS.l4
        have hSH : Hid _ := hS
        clear hz hz' hcc hS hBw
        go_wp2_with fail
        go_region_with (fail)
        all_goals
          go_wp2_with fail
          go_roundw
          case rel =>
            exact ⟨k + 1, by omega, by go_num, ((hSH.out.put hkn).below (below_new (Below.refl _ _) _)).below (Below.refl _ _).drew⟩
          case measure => simp [intOf]; omega
      · obtain rfl : n = k := by omega
        have hkI : ¬ (n : Int) < (n : Int) := by omega
        obtain ⟨hn1, hz, hz', hc⟩ := hhH.out
        clear hc
        go_wp2_with fail
        simp [bodyPost, results, Tryd.results39, go_sem]
        refine ⟨g, h, ⟨rfl, rfl⟩, ⟨by omega, hz', Or.inr ⟨g, 0, rfl, hS.l4, fun i hi => ?_⟩⟩, ⟨hn1, hz, Or.inr ⟨h, 0, rfl, hS.l3, fun i hi => ⟨?_, ?_⟩⟩⟩, hS.b⟩
        · rw [Nat.zero_add, hS.tc i hi, if_pos hi]
        · rw [Nat.zero_add, hS.vk i hi, if_pos hi]
        · rw [Nat.zero_add, hS.vx i hi, if_pos hi]
end Go.Proofs.YtpanldgfjipmjaaDoor

namespace Go.Proofs.YtpanldgfjipmjaaDoor
open Go.RowKit
set_option linter.unusedVariables false
set_option linter.unusedSimpArgs false
/-- bytes more, their length ahead. -/
def rawOn (l : List Nat) (s : List Nat × Nat) : List Nat × Nat := (s.1 ++ uB l.length ++ l, 0)
theorem bytesL_nats (l : List Nat) : bytesL (natsOf l) l.length = l := by
  apply List.ext_getElem?
  intro i
  unfold bytesL natsOf
  rw [List.getElem?_map]
  by_cases h : i < l.length
  · rw [List.getElem?_range h]; simp [List.getD_eq_getElem?_getD, h]
  · rw [List.getElem?_eq_none (by simp; omega), List.getElem?_eq_none (by omega)]; rfl
theorem rawOn_CL {l : List Nat} {s : List Nat × Nat} (hl : ∀ y ∈ l, y < 256) (hn : l.length < 18446744073709551616) (h : CL s.1 s.2) : CL (rawOn l s).1 (rawOn l s).2 := by
  have h1 := uOn_CL hn h
  refine ⟨by simp [rawOn], fun y hy => ?_, fun h => absurd rfl h⟩
  rcases List.mem_append.1 hy with h2 | h2
  · exact h1.2.1 y h2
  · exact hl y h2
theorem in_lt {w : World} {a : Option Addr} {l : List Nat} (h : BytesIn w a l.length (natsOf l)) : ∀ y ∈ l, y < 256 := by
  rcases h.2 with h0 | ⟨b, off, e, hb, hB⟩
  · intro y hy
    rw [List.eq_nil_of_length_eq_zero h0] at hy
    cases hy
  · have := bytesL_lt (bs := natsOf l) (m := l.length) fun i hi => (hB i hi).2
    rw [bytesL_nats] at this
    exact this
theorem raw_in {N : Nat} {w1 w : World} {fr : Int} {v : Value} {n : Nat} {xs : List Value} (h : WS N w1 fr v n xs w) (hN : N = w1.heap.size) {a : Option Addr} {m : Nat} {f : Nat → Nat} (hin : BytesIn w1 a m f) :
    m = 0 ∨ ∃ b off, a = some ⟨b, off, none⟩ ∧ b < w.heap.size ∧ b ≠ N ∧ some b ≠ v.ownBlock ∧ BytesAt w b off m f := by
  rcases hin.2 with h0 | ⟨b, off, e, hb', hB⟩
  · exact Or.inl h0
  · refine Or.inr ⟨b, off, e, by have := h.sz; omega, by omega, ?_, fun i hi => ⟨by rw [h.b.cell (p := ⟨b, off + i, none⟩) (by show b < N; omega)]; exact (hB i hi).1, (hB i hi).2⟩⟩
    intro e'
    have := (h.own.lt b e'.symm).1
    omega
theorem rw_raw {N : Nat} {w1 w : World} {s : List Nat × Nat} (h : RW N w1 s w) (hN : N = w1.heap.size) (l : List Nat) (a : Option Addr) (c : Nat) (hin : BytesIn w1 a l.length (natsOf l)) (hb : s.1.length + l.length + 100 ≤ 140737488355328) : Calls Tryd.prog 40 #[.pointer (some ⟨N, 0, none⟩), .slice a l.length c] w fun e w' => e = .returned undef ∧ RW N w1 (rawOn l s) w' := by
  obtain ⟨h1, v, h2⟩ := h
  refine (wraw_fr N w1 _ v _ s.1 w h2 a l.length c (natsOf l) (raw_in h2 hN hin) (by omega)).mono ?_
  rintro e w' ⟨rfl, v', n', hW, _, _⟩
  rw [enc_append, bytesL_nats, enc_append] at hW
  have hn := hW.len
  subst hn
  exact ⟨rfl, rawOn_CL (in_lt hin) (by omega) h1, v', (show WS N w1 (((8 - 0) % 8 : Nat) : Int) v' _ _ w' from hW)⟩
theorem dw_raw {N : Nat} {w1 w : World} {s : List Nat × Nat} (h : DW N w1 s w) (hN : N = w1.heap.size) (l : List Nat) (a : Option Addr) (c : Nat) (hin : BytesIn w1 a l.length (natsOf l)) (hb : s.1.length + l.length + 100 ≤ 140737488355328) : Calls Tryd.prog 41 #[.pointer (some ⟨N, 0, none⟩), .slice a l.length c] w fun e w' => e = .returned undef ∧ DW N w1 (rawOn l s) w' := by
  obtain ⟨h1, v, h2⟩ := h
  refine (rraw_fr N w1 _ v _ _ w h2 a l.length c (natsOf l) (raw_in h2 hN hin) (by omega)).mono ?_
  rintro e w' ⟨rfl, v', n', hW, _, _⟩
  rw [enc_append, bytesL_nats, enc_append] at hW
  have hn := hW.len
  subst hn
  exact ⟨rfl, rawOn_CL (in_lt hin) (by omega) h1, v', hW⟩
def packS (tt : Nat → Int) (kk : Nat → Nat) (xx : Nat → Int) (n : Nat) : List Nat × Nat := rawOn (valsS kk xx n n).s.1 (rawOn (timesS tt n n).1 ([], 0))
def PackE (tt : Nat → Int) (kk : Nat → Nat) (xx : Nat → Int) (n : Nat) (err : Int → Value) (ok : Value) (e : Ending) (w' : World) : Prop :=
  (¬ (Rises tt n ∧ AllV kk xx n) ∧ e = .returned (.tuple #[.slice none 0 0, err 2])) ∨
  ((Rises tt n ∧ AllV kk xx n) ∧ ∃ a c, e = .returned (.tuple #[.slice a (packS tt kk xx n).1.length c, ok]) ∧ BytesIn w' a (packS tt kk xx n).1.length (natsOf (packS tt kk xx n).1))
set_option maxRecDepth 100000 in
set_option maxHeartbeats 4000000 in
theorem pack_any (a : Option Addr) (n cap : Nat) (tt : Nat → Int) (kk : Nat → Nat) (xx : Nat → Int) (w : World) (h : SIn w a n tt kk xx) (hs : n ≤ 1048576) (hct : CT w) (hg : 0 < w.heap.size) : Calls Tryd.prog 16 #[.slice a n cap] w fun e w' => PackE tt kk xx n (fun c => .iface 28 (.int .i64 c)) .nilIface e w' ∧ Below w.heap.size w w' := by
  have hSp : Hid _ := split_any a n cap tt kk xx w h hs
  have hctH : Hid (CT w) := hct
  clear h hct
  go_enter Tryd.func16, Tryd.ntmps16
  go_wp2_with fail
  refine Calls.mono hSp.out ?_
  rintro e w2 ⟨g, h, rfl, hI, hV, hB2⟩
  have hT : Hid _ := times_any (some ⟨g, 0, none⟩) n n tt w2 hI (CT_below hctH.out hB2 hg) (by have := hB2.size; omega)
  have hVH : Hid (VIn w2 (some ⟨h, 0, none⟩) n kk xx) := hV
  clear hSp hI hV
  go_wp2_with fail
  refine Calls.mono hT.out ?_
  rintro e w3 ⟨hE, hB3⟩
  have hB03 := below_then hB2 hB3
  have hVa : Hid _ := values_any (some ⟨h, 0, none⟩) n n kk xx w3 (hVH.out.below hB3 (Nat.le_refl _))
  clear hT hVH
  rcases hE with ⟨hx, _⟩ | ⟨_, hnr, rfl⟩ | ⟨_, hnr, ta, tc, rfl, hin3⟩
  · omega
  · have hnrH : Hid (¬ Rises tt n) := hnr
    clear hnr hVa hB3 hB2
    go_wp2_with fail
    simp [bodyPost, results, Tryd.results16, go_sem]
    exact ⟨Or.inl ⟨fun hx => hnrH.out hx.1, rfl⟩, hB03⟩
  · have hnrH : Hid (Rises tt n) := hnr
    have hl1 := timesS_len tt n n
    obtain ⟨sl, hsl⟩ : ∃ sl, sl = (timesS tt n n).1 := ⟨_, rfl⟩
    rw [← hsl] at hin3 hl1 ⊢
    have hslH : Hid (sl = (timesS tt n n).1) := hsl
    have hin3H : Hid (BytesIn w3 ta sl.length (natsOf sl)) := hin3
    clear hnr hin3 hsl hB2
    go_wp2_with fail
    refine Calls.mono hVa.out ?_
    rintro e w4 ⟨hE, hB4⟩
    have hB04 := below_then hB03 hB4
    clear hVa
    rcases hE with ⟨hx, _⟩ | ⟨_, hnv, rfl⟩ | ⟨_, hnv, va, vc, rfl, hin4⟩
    · omega
    · have hnvH : Hid (¬ AllV kk xx n) := hnv
      clear hnv hB3 hB4 hB03
      go_wp2_with fail
      simp [bodyPost, results, Tryd.results16, go_sem]
      exact ⟨Or.inl ⟨fun hx => hnvH.out hx.2, rfl⟩, hB04⟩
    · have hnvH : Hid (AllV kk xx n) := hnv
      have hl2 := valsS_len kk xx n n
      obtain ⟨vl, hvl⟩ : ∃ vl, vl = (valsS kk xx n n).s.1 := ⟨_, rfl⟩
      rw [← hvl] at hin4 hl2 ⊢
      have hP : Hid (packS tt kk xx n = rawOn vl (rawOn sl ([], 0))) := (by rw [hvl, hslH.out]; rfl : packS tt kk xx n = rawOn vl (rawOn sl ([], 0)))
      have hul := uB_len sl.length
      have hR1 : Hid _ := rw_raw (RW.start w4) rfl sl ta tc (hin3H.out.below hB4) (by simp; omega)
      have hR2 : Hid (∀ wx, RW w4.heap.size w4 (rawOn sl ([], 0)) wx → Calls Tryd.prog 40 #[.pointer (some ⟨w4.heap.size, 0, none⟩), .slice va vl.length vc] wx fun e w' => e = .returned undef ∧ RW w4.heap.size w4 (rawOn vl (rawOn sl ([], 0))) w') := fun wx hx => rw_raw hx rfl vl va vc hin4 (by simp [rawOn]; omega)
      have hlen : Hid ((rawOn vl (rawOn sl ([], 0))).1.length ≤ 140737488355327) := (by have hu1 := uB_len sl.length; have hu2 := uB_len vl.length; simp [rawOn]; omega : (rawOn vl (rawOn sl ([], 0))).1.length ≤ 140737488355327)
      clear hnv hB3 hB4 hB03 hin4 hvl hul hl1 hl2 hslH hin3H
      go_wp2_with fail
      refine Calls.mono hR1.out ?_
      rintro e w5 ⟨rfl, h5⟩
      have hR3 : Hid _ := hR2.out _ h5
      clear hR1 hR2 h5
      go_wp2_with fail
      refine Calls.mono hR3.out ?_
      rintro e w6 ⟨rfl, h6⟩
      have hb6 := h6.b
      obtain ⟨hCL, v, hWS⟩ := h6
      obtain ⟨S, hS⟩ : ∃ S, S = (rawOn vl (rawOn sl ([], 0))).1 := ⟨_, rfl⟩
      have hlen' := hlen.out
      have hBy : Hid _ := bytesB w4.heap.size w4 _ v S w6 (by rw [hS]; exact hWS) (by rw [hS]; exact hCL.2.1) (by rw [hS]; exact hlen')
      have hSH : Hid (S = (packS tt kk xx n).1) := (by rw [hS, hP.out] : S = (packS tt kk xx n).1)
      have hB06 : Below w.heap.size w w6 := below_then hB04 hb6
      clear hR3 hCL hWS hS hP hlen hlen' hb6
      go_wp2_with fail
      refine Calls.mono hBy.out ?_
      rintro e w7 ⟨ga, gc, rfl, hin, hB7⟩
      have hinH : Hid _ := hin
      clear hin hBy
      go_wp2_with fail
      simp [bodyPost, results, Tryd.results16, go_sem]
      refine ⟨Or.inr ⟨⟨hnrH.out, hnvH.out⟩, ga, gc, ?_, ?_⟩, below_then hB06 hB7⟩
      · rw [hSH.out]
      · rw [← hSH.out]; exact hinH.out
end Go.Proofs.YtpanldgfjipmjaaDoor

namespace Go.Proofs.YtpanldgfjipmjaaDoor
open Go.RowKit
set_option linter.unusedVariables false
set_option linter.unusedSimpArgs false
theorem app1I (W : World) (base : Nat) (v : Value) (m : Nat) (xs : List Value) (own : W.ownsRow base 2 1 v m xs) (hbase : base ≤ W.heap.size) (x : Int) (hbig : m + 1 ≤ 10000000) :
    ∃ g c w', (Builtin.append_ #[22, 22] 22 #[v, .slice (some ⟨W.heap.size, 0, none⟩) 1 1]).run Tryd.prog (W.alloc (.cells #[.int .i64 x] 2)) = .ok (.slice (some ⟨g, 0, none⟩) (m + 1) c) w' ∧ w'.ownsRow base 2 1 (.slice (some ⟨g, 0, none⟩) (m + 1) c) (m + 1) (xs ++ [.int .i64 x]) ∧ (W.alloc (.cells #[.int .i64 x] 2)).grownBy w' v.ownBlock ∧ (some g = v.ownBlock ∨ W.heap.size ≤ g) ∧ Below base W w' := by
  obtain ⟨i, i1, i0⟩ := Option.map_eq_some_iff.1 i64_info
  have i2 : i.zero = some (.int .i64 0) := congrArg (·.1) i0
  have i3 : i.bytes = 8 := congrArg (·.2.1) i0
  have i4 : i.size = 1 := congrArg (·.2.2) i0
  have hB0 := below_new (Below.refl _ W) (.cells #[.int .i64 x] 2)
  have own' := own.alloc (.cells #[.int .i64 x] 2)
  have hbase' : base ≤ (W.alloc (.cells #[.int .i64 x] 2)).heap.size := by simp; omega
  obtain ⟨v', w', hr, ho', hg, hnil, hwh⟩ := run_append_own_at (P := Tryd.prog) (W.alloc (.cells #[.int .i64 x] 2)) base 22 22 2 i (.int .i64 0) 1 8 Tryd.underlying22 i1 i2 i4 i3 rfl (by omega) _ m xs own' ⟨W.heap.size, 0, none⟩ 1 1 [.int .i64 x] rfl (fun j u hu => by
    cases j with
    | zero => simp at hu; subst hu; rw [add_none2]; simp [go_sem]
    | succ j => simp at hu) (by intro u hu; simp at hu; subst hu; rfl) (by simp [maxLen]; omega) (by omega) hbase'
  have hB2 : Below base (W.alloc (.cells #[.int .i64 x] 2)) w' := (Below.refl _ _).grown hg hbase' (fun k e => (own'.lt k e).1)
  rcases ho'.2 with ⟨hq, _⟩ | ⟨g, c, cur, hq, hbg, hgr, _⟩
  · have := hnil.1 hq; simp at this
  · subst hq
    refine ⟨g, c, w', hr, ho', hg, ?_, (hB0.mono hbase).trans hB2⟩
    rcases hwh with h | h
    · exact Or.inl h
    · right
      have h' : some g = some (W.alloc (.cells #[.int .i64 x] 2)).heap.size := h
      injection h' with h'
      rw [h']; simp
theorem app1V (W : World) (base : Nat) (v : Value) (m : Nat) (xs : List Value) (own : W.ownsRow base 41 2 v m xs) (hbase : base ≤ W.heap.size) (y x : Int) (hbig : m + 1 ≤ 10000000) :
    ∃ g c w', (Builtin.append_ #[38, 38] 38 #[v, .slice (some ⟨W.heap.size, 0, none⟩) 1 1]).run Tryd.prog (W.alloc (.cells #[.int .u8 y, .int .i64 x] 41)) = .ok (.slice (some ⟨g, 0, none⟩) (m + 1) c) w' ∧ w'.ownsRow base 41 2 (.slice (some ⟨g, 0, none⟩) (m + 1) c) (m + 1) (xs ++ [.int .u8 y, .int .i64 x]) ∧ (W.alloc (.cells #[.int .u8 y, .int .i64 x] 41)).grownBy w' v.ownBlock ∧ (some g = v.ownBlock ∨ W.heap.size ≤ g) ∧ Below base W w' := by
  obtain ⟨i, i1, i0⟩ := Option.map_eq_some_iff.1 val_info
  have i2 : i.zero = some (.agg #[.int .u8 0, .int .i64 0]) := congrArg (·.1) i0
  have i3 : i.bytes = 16 := congrArg (·.2.1) i0
  have i4 : i.size = 2 := congrArg (·.2.2) i0
  have hB0 := below_new (Below.refl _ W) (.cells #[.int .u8 y, .int .i64 x] 41)
  have own' := own.alloc (.cells #[.int .u8 y, .int .i64 x] 41)
  have hbase' : base ≤ (W.alloc (.cells #[.int .u8 y, .int .i64 x] 41)).heap.size := by simp; omega
  obtain ⟨v', w', hr, ho', hg, hnil, hwh⟩ := run_append_own_at (P := Tryd.prog) (W.alloc (.cells #[.int .u8 y, .int .i64 x] 41)) base 38 38 41 i (.agg #[.int .u8 0, .int .i64 0]) 2 16 Tryd.underlying38 i1 i2 i4 i3 rfl (by omega) _ m xs own' ⟨W.heap.size, 0, none⟩ 1 1 [.int .u8 y, .int .i64 x] rfl (fun j u hu => by
    cases j with
    | zero => simp at hu; subst hu; rw [add_none2]; simp [go_sem]
    | succ j =>
      cases j with
      | zero => simp at hu; subst hu; rw [add_none2]; simp [go_sem]
      | succ j => simp at hu) (by intro u hu; simp at hu; rcases hu with rfl | rfl <;> rfl) (by simp [maxLen]; omega) (by omega) hbase'
  have hB2 : Below base (W.alloc (.cells #[.int .u8 y, .int .i64 x] 41)) w' := (Below.refl _ _).grown hg hbase' (fun k e => (own'.lt k e).1)
  rcases ho'.2 with ⟨hq, _⟩ | ⟨g, c, cur, hq, hbg, hgr, _⟩
  · have := hnil.1 hq; simp at this
  · subst hq
    refine ⟨g, c, w', hr, ho', hg, ?_, (hB0.mono hbase).trans hB2⟩
    rcases hwh with h | h
    · exact Or.inl h
    · right
      have h' : some g = some (W.alloc (.cells #[.int .u8 y, .int .i64 x] 41)).heap.size := h
      injection h' with h'
      rw [h']; simp
theorem encI_succ (z : Nat → Int) (n : Nat) : encI z (n + 1) = encI z n ++ [.int .i64 (z n)] := by simp [encI, List.range_succ]
theorem encV_succ (kk : Nat → Nat) (xx : Nat → Int) (n : Nat) : encV kk xx (n + 1) = encV kk xx n ++ [.int .u8 (kk n : Int), .int .i64 (xx n)] := by
  unfold encV
  rw [show (n + 1) * 2 = n * 2 + 1 + 1 by omega, List.range_succ, List.range_succ]
  simp only [List.map_append, List.map_cons, List.map_nil, List.append_assoc, List.cons_append, List.nil_append]
  congr 1
  unfold valC
  rw [if_pos (by omega), if_neg (by omega), show n * 2 / 2 = n by omega, show (n * 2 + 1) / 2 = n by omega]
theorem own_IsIn {W : World} {base n : Nat} {v : Value} {tt : Nat → Int} (h : W.ownsRow base 2 1 v n (encI tt n)) (hn : n ≤ 1048576) (hz : ∀ i, -9223372036854775808 ≤ tt i ∧ tt i ≤ 9223372036854775807) : ∃ a c, v = .slice a n c ∧ IsIn W a n tt := by
  rcases h.2 with ⟨e, e0⟩ | ⟨g, cap, cur, e1, _⟩
  · exact ⟨none, 0, by rw [e, e0], by omega, hz, Or.inl e0⟩
  · subst e1
    have hcs := h.cells (g := g) rfl
    refine ⟨some ⟨g, 0, none⟩, cap, rfl, by omega, hz, Or.inr ⟨g, 0, rfl, (h.lt g rfl).2, fun i hi => ?_⟩⟩
    have := hcs i _ (encI_get tt n i hi)
    rw [add_none2] at this; exact this
theorem own_VIn {W : World} {base n : Nat} {v : Value} {kk : Nat → Nat} {xx : Nat → Int} (h : W.ownsRow base 41 2 v n (encV kk xx n)) (hn : n ≤ 1048576) (hz : ∀ i, kk i < 256 ∧ -9223372036854775808 ≤ xx i ∧ xx i ≤ 9223372036854775807) : ∃ a c, v = .slice a n c ∧ VIn W a n kk xx := by
  rcases h.2 with ⟨e, e0⟩ | ⟨g, cap, cur, e1, _⟩
  · exact ⟨none, 0, by rw [e, e0], by omega, hz, Or.inl e0⟩
  · subst e1
    have hcs := h.cells (g := g) rfl
    refine ⟨some ⟨g, 0, none⟩, cap, rfl, by omega, hz, Or.inr ⟨g, 0, rfl, (h.lt g rfl).2, fun i hi => ⟨?_, ?_⟩⟩⟩
    · have := hcs (i * 2) _ (encV_get kk xx n (i * 2) (by omega))
      rw [add_none2, Nat.zero_add] at this
      rw [Nat.zero_add, this]; unfold valC; rw [if_pos (by omega), show i * 2 / 2 = i by omega]
    · have := hcs (i * 2 + 1) _ (encV_get kk xx n (i * 2 + 1) (by omega))
      rw [add_none2, Nat.zero_add] at this
      rw [Nat.zero_add, this]; unfold valC; rw [if_neg (by omega), show (i * 2 + 1) / 2 = i by omega]
/-- what stands while the document takes samples apart. -/
structure DP (w0 : World) (tt : Nat → Int) (kk : Nat → Nat) (xx : Nat → Int) (k : Nat) (t v : Value) (wr : World) : Prop where
  ot : wr.ownsRow w0.heap.size 2 1 t k (encI tt k)
  ov : wr.ownsRow w0.heap.size 41 2 v k (encV kk xx k)
  ne : ∀ b, t.ownBlock = some b → v.ownBlock ≠ some b
  b : Below w0.heap.size w0 wr
theorem DP.start (w0 : World) (tt : Nat → Int) (kk : Nat → Nat) (xx : Nat → Int) : DP w0 tt kk xx 0 (.slice none 0 0) (.slice none 0 0) w0 :=
  ⟨World.ownsRow_nil _ _ _ _, World.ownsRow_nil _ _ _ _, (fun b h => by cases h), Below.refl _ _⟩
theorem DP.step {w0 : World} {tt : Nat → Int} {kk : Nat → Nat} {xx : Nat → Int} {k : Nat} {t v : Value} {wr : World} (h : DP w0 tt kk xx k t v wr) (hk : k + 1 ≤ 1048576) : ∃ g1 c1 w1 g2 c2 w2,
    (Builtin.append_ #[22, 22] 22 #[t, .slice (some ⟨wr.heap.size, 0, none⟩) 1 1]).run Tryd.prog (wr.alloc (.cells #[.int .i64 (tt k)] 2)) = .ok (.slice (some ⟨g1, 0, none⟩) (k + 1) c1) w1 ∧ Below w0.heap.size w0 w1 ∧
    (Builtin.append_ #[38, 38] 38 #[v, .slice (some ⟨w1.heap.size, 0, none⟩) 1 1]).run Tryd.prog (w1.alloc (.cells #[.int .u8 (kk k : Int), .int .i64 (xx k)] 41)) = .ok (.slice (some ⟨g2, 0, none⟩) (k + 1) c2) w2 ∧
    DP w0 tt kk xx (k + 1) (.slice (some ⟨g1, 0, none⟩) (k + 1) c1) (.slice (some ⟨g2, 0, none⟩) (k + 1) c2) w2 := by
  have hs0 := h.b.size
  obtain ⟨g1, c1, w1, r1, o1, gr1, p1, b1⟩ := app1I wr w0.heap.size t k _ h.ot hs0 (tt k) (by omega)
  have ov1 := (h.ov.alloc (.cells #[.int .i64 (tt k)] 2)).kept gr1 (by
    cases hv : v.ownBlock with
    | none => exact Or.inl rfl
    | some b => right; intro e; exact h.ne b e.symm hv)
  have hs1 := b1.size
  obtain ⟨g2, c2, w2, r2, o2, gr2, p2, b2⟩ := app1V w1 w0.heap.size v k _ ov1 (by omega) (kk k : Int) (xx k) (by omega)
  have hg1 := (o1.lt g1 rfl).2
  have hvlt : ∀ b, v.ownBlock = some b → b < wr.heap.size := fun b e => (h.ov.lt b e).2
  have hne1 : ∀ b, v.ownBlock = some b → b ≠ g1 := fun b e e' => by
    subst e'
    rcases p1 with p | p
    · exact h.ne b p.symm e
    · have := hvlt b e; omega
  have ot2 := (o1.alloc (.cells #[.int .u8 (kk k : Int), .int .i64 (xx k)] 41)).kept gr2 (by
    right; intro e; exact hne1 g1 e.symm rfl)
  refine ⟨g1, c1, w1, g2, c2, w2, r1, h.b.trans b1, r2, ⟨by rw [encI_succ]; exact ot2, by rw [encV_succ]; exact o2, fun b e e' => ?_, (h.b.trans b1).trans b2⟩⟩
  have e1 : g1 = b := by injection e
  have e2 : g2 = b := by injection e'
  subst e1
  rcases p2 with p | p
  · exact hne1 g2 p.symm e2
  · omega
end Go.Proofs.YtpanldgfjipmjaaDoor

namespace Go.Proofs.YtpanldgfjipmjaaDoor
open Go.RowKit
set_option linter.unusedVariables false
set_option linter.unusedSimpArgs false
theorem put5 (w W : World) (q : Nat) (hq : w.heap.size ≤ q) (hB : Below w.heap.size w W) (x0 x1 x2 x3 x4 : Value) : Below w.heap.size w (((((W.setCell ⟨q, 0, none⟩ x0).setCell ⟨q, 1, none⟩ x1).setCell ⟨q, 2, none⟩ x2).setCell ⟨q, 3, none⟩ x3).setCell ⟨q, 4, none⟩ x4) := by
  have bb : ∀ (W : World) (j : Nat) (x : Value), Below w.heap.size w W → Below w.heap.size w (W.setCell ⟨q, j, none⟩ x) := fun W j x hW => hW.setCell (p := ⟨q, j, none⟩) hq _
  exact bb _ _ _ (bb _ _ _ (bb _ _ _ (bb _ _ _ (bb _ _ _ hB))))
theorem bytesIn_same {W : World} {p : Addr} {u : Value} {a : Option Addr} {m : Nat} {f : Nat → Nat} (hp : W.cell? p = some u) (h : BytesIn W a m f) : BytesIn (W.setCell p u) a m f := by
  refine ⟨h.1, ?_⟩
  rcases h.2 with h0 | ⟨b, off, e, hb, hB⟩
  · exact Or.inl h0
  · refine Or.inr ⟨b, off, e, by simpa using hb, fun i hi => ⟨?_, (hB i hi).2⟩⟩
    by_cases e' : (⟨b, off + i, none⟩ : Addr) = p
    · have h1 := (hB i hi).1
      rw [e'] at h1 ⊢
      rw [World.cell?_setCell_same _ _ _ hp, ← hp]; exact h1
    · rw [World.cell?_setCell_other _ _ _ _ (fun h => e' h.symm)]; exact (hB i hi).1
theorem BZ.set {z q j : Nat} {x : Value} {W : World} (h : BZ z W) (hne : z ≠ q) : BZ z (W.setCell ⟨q, j, none⟩ x) := by
  obtain ⟨z0, z1, z2, z3, z4, y0, y1, y2, y3, y4⟩ := h
  refine ⟨?_, ?_, ?_, ?_, ?_, by simpa using y0, by simpa using y1, by simpa using y2, by simpa using y3, by simpa using y4⟩
  · rw [World.cell?_setCell_other _ _ _ _ (by intro e; injection e with e1; omega)]; exact z0
  · rw [World.cell?_setCell_other _ _ _ _ (by intro e; injection e with e1; omega)]; exact z1
  · rw [World.cell?_setCell_other _ _ _ _ (by intro e; injection e with e1; omega)]; exact z2
  · rw [World.cell?_setCell_other _ _ _ _ (by intro e; injection e with e1; omega)]; exact z3
  · rw [World.cell?_setCell_other _ _ _ _ (by intro e; injection e with e1; omega)]; exact z4
set_option maxRecDepth 100000 in
set_option maxHeartbeats 8000000 in
theorem dpack_any (a : Option Addr) (n cap : Nat) (tt : Nat → Int) (kk : Nat → Nat) (xx : Nat → Int) (w : World) (h : SIn w a n tt kk xx) (hs : n ≤ 1048576) : Calls Tryd.prog 17 #[.slice a n cap] w fun e w' => PackE tt kk xx n badV (badV 0) e w' ∧ Below w.heap.size w w' := by
  have hz0 := BZ.start w
  have hB0 := below_new (Below.refl _ w) (.cells #[.int .i64 0, .int .i64 0, .int .i64 0, .bool false, .bool false] 30)
  have hql : w.heap.size < (w.alloc (.cells #[.int .i64 0, .int .i64 0, .int .i64 0, .bool false, .bool false] 30)).heap.size := by simp
  have hhH : Hid (SIn w a n tt kk xx) := h
  clear h
  go_enter Tryd.func17, Tryd.ntmps17
  go_wp2_with fail
  have hst : Hid _ := DP.start (w.alloc (.cells #[.int .i64 0, .int .i64 0, .int .i64 0, .bool false, .bool false] 30)) tt kk xx
  obtain ⟨w0, hw0⟩ : ∃ w0, w0 = w.alloc (.cells #[.int .i64 0, .int .i64 0, .int .i64 0, .bool false, .bool false] 30) := ⟨_, rfl⟩
  rw [← hw0] at hz0 hB0 hql hst ⊢
  have hz0H : Hid (BZ w.heap.size w0) := hz0
  clear hw0 hz0
  go_loopw [4, 5, 6] (fun t v i wr => ∃ k : Nat, k ≤ n ∧ i = .int .i64 (k : Int) ∧ DP w0 tt kk xx k t v wr) (fun _ _ i _ => n - (intOf i).toNat)
  case atStart => exact ⟨0, by omega, rfl, hst.out⟩
  case round =>
    clear hst
    obtain ⟨k, hk, rfl, hD⟩ := hrel
    have hBw : Below w.heap.size w _ := below_then hB0 hD.b
    by_cases hkn : k < n
    · have hkI : (k : Int) < (n : Int) := by omega
      have k1 : (0 : Int) ≤ (k : Int) := by omega
      obtain ⟨g1, c1, w1, g2, c2, w2, hr1, hb1, hr2, hD2⟩ := hD.step (by omega)
      obtain ⟨hn1, hz, hz', hc⟩ := hhH.out
      rcases hc with h0 | ⟨b, off, rfl, hb, hcc⟩
      · omega
      have hBw1 : Below w.heap.size w w1 := below_then hB0 hb1
      have d1 := (show _ = _ from by rw [hBw.cell (p := ⟨b, off + k * 3, none⟩) hb]; exact (hcc k hkn).1 : World.cell? _ ⟨b, off + k * 3, none⟩ = some (.int .i64 (tt k)))
      have d2 : w1.cell? ⟨b, off + k * 3 + 1, none⟩ = some (.int .u8 (kk k : Int)) := by rw [hBw1.cell (p := ⟨b, off + k * 3 + 1, none⟩) hb]; exact (hcc k hkn).2.1
      have d3 : w1.cell? ⟨b, off + k * 3 + 2, none⟩ = some (.int .i64 (xx k)) := by rw [hBw1.cell (p := ⟨b, off + k * 3 + 2, none⟩) hb]; exact (hcc k hkn).2.2
      have hr1H : Hid _ := hr1
      have hr2H : Hid _ := hr2
      have hD2H : Hid _ := hD2
      clear hr1 hr2 hD2 hD hcc hz hz' hBw hBw1 hb1
      go_wp2_with (at_builtin; first | (refine wpList_append_run2 (by rfl) _ _ _ _ (by rfl) _ _ _ _ (by rfl) (by rfl) hr1H.out ?_; clear hr1H) | (refine wpList_append_run2 (by rfl) _ _ _ _ (by rfl) _ _ _ _ (by rfl) (by rfl) hr2H.out ?_; clear hr2H))
      go_roundw
      case rel => exact ⟨k + 1, by omega, by go_num, hD2H.out⟩
      case measure => simp [intOf]; omega
    · obtain rfl : n = k := by omega
      have hkI : ¬ (n : Int) < (n : Int) := by omega
      obtain ⟨hn1, hz, hz', hc⟩ := hhH.out
      obtain ⟨ta, tc, rfl, hI⟩ := own_IsIn hD.ot hs hz'
      obtain ⟨va, vc, rfl, hV⟩ := own_VIn hD.ov hs hz
      have hT : Hid _ := dtimes_any ta n tc tt _ hI
      have hVH : Hid (VIn _ va n kk xx) := hV
      have hzw : BZ w.heap.size _ := hz0H.out.of (hD.b.block w.heap.size hql)
      have hzwH : Hid _ := hzw
      have hqw : w.heap.size < _ := Nat.lt_of_lt_of_le hql hD.b.size
      have hBwH : Hid _ := hBw
      clear hc hz hz' hI hV hD hz0H hzw hBw
      go_wp2_with fail
      refine Calls.mono hT.out ?_
      rintro e w3 ⟨hE, hB3⟩
      have hB03 := below_then hBwH.out hB3
      have hz3 := hzwH.out.of (hB3.block w.heap.size hqw)
      have hq3 : w.heap.size < w3.heap.size := Nat.lt_of_lt_of_le hqw hB3.size
      have hVa : Hid _ := dvalues_any va n vc kk xx w3 (hVH.out.below hB3 (Nat.le_refl _))
      rcases hE with ⟨hx, _⟩ | ⟨_, hnr, rfl⟩ | ⟨_, hnr, xa, xc, rfl, hin3⟩
      · omega
      · have hnrH : Hid (¬ Rises tt n) := hnr
        obtain ⟨z0, z1, z2, z3, z4, y0, y1, y2, y3, y4⟩ := hz3
        have hB03H : Hid _ := hB03
        clear hnr hVa hVH hT hzwH hB03 hBwH
        simp only [badV]
        go_wp2_with fail
        go_region_with (fail)
        all_goals
          go_wp2_with fail
          simp [bodyPost, results, Tryd.results17, go_sem, z0, z1, z2, z3, z4, y0, y1, y2, y3, y4, World.cell?_alloc_lt, hq3]
          exact ⟨Or.inl ⟨fun hx => hnrH.out hx.1, rfl⟩, (below_new (bad_put w w3 hB03H.out _ _ _ _ _) _).drew⟩
      · have hnrH : Hid (Rises tt n) := hnr
        have hl1 := timesS_len tt n n
        obtain ⟨sl, hsl⟩ : ∃ sl, sl = (timesS tt n n).1 := ⟨_, rfl⟩
        rw [← hsl] at hin3 hl1 ⊢
        have hslH : Hid (sl = (timesS tt n n).1) := hsl
        have hin3H : Hid (BytesIn w3 xa sl.length (natsOf sl)) := hin3
        have hBz := below_new (Below.refl _ w3) (.cells #[.int .i64 0, .int .i64 0, .int .i64 0, .bool false, .bool false] 30)
        have hzb := BZ.start w3
        have hzl : w3.heap.size < (w3.alloc (.cells #[.int .i64 0, .int .i64 0, .int .i64 0, .bool false, .bool false] 30)).heap.size := by simp
        have hz3' := hz3.of (hBz.block w.heap.size hq3)
        have hVa : Hid _ := dvalues_any va n vc kk xx _ (hVH.out.below (below_then hB3 hBz) (Nat.le_refl _))
        have hzH : Hid _ := And.intro hzb hz3'
        have hB03H : Hid _ := And.intro hB03 hBz
        clear hnr hin3 hsl hT hzwH hz3 hzb hz3' hB3 hBwH hVH hB03 hBz
        simp only [badV]
        go_wp2_with fail
        refine Calls.mono hVa.out ?_
        rintro e w4 ⟨hE, hB4⟩
        have hB34 := below_then hB03H.out.2 hB4
        have hB04 := below_then hB03H.out.1 hB34
        have hzb4 := hzH.out.1.of (hB4.block w3.heap.size hzl)
        have hzw4 := hzH.out.2.of (hB4.block w.heap.size (by omega))
        have hl34 : w3.heap.size < w4.heap.size := Nat.lt_of_lt_of_le hzl hB4.size
        have hq4 : w.heap.size < w4.heap.size := by omega
        have hq34 : ¬ w.heap.size = w3.heap.size := by omega
        have hq43 : ¬ w3.heap.size = w.heap.size := by omega
        have hB04H : Hid (Below w.heap.size w w4) := hB04
        have hB34H : Hid (Below w3.heap.size w3 w4) := hB34
        clear hVa hzH hB4 hB03H hB04 hB34
        rcases hE with ⟨hx, _⟩ | ⟨_, hnv, rfl⟩ | ⟨_, hnv, ya, yc, rfl, hin4⟩
        · omega
        · have hnvH : Hid (¬ AllV kk xx n) := hnv
          obtain ⟨z0, z1, z2, z3, z4, y0, y1, y2, y3, y4⟩ := hzw4
          obtain ⟨b0, b1, b2, b3, b4, f0, f1, f2, f3, f4⟩ := hzb4
          clear hnv
          simp only [badV]
          go_wp2_with fail
          go_region_with (fail)
          all_goals
            go_wp2_with fail
            simp [bodyPost, results, Tryd.results17, go_sem, z0, z1, z2, z3, z4, y0, y1, y2, y3, y4, b0, b1, b2, b3, b4, f0, f1, f2, f3, f4, hq34, hq43]
            exact ⟨Or.inl ⟨fun hx => hnvH.out hx.2, rfl⟩, (put5 w _ w.heap.size (Nat.le_refl _) (put5 w w4 w3.heap.size (by omega) hB04H.out _ _ _ _ _) _ _ _ _ _).drew⟩
        · have hnvH : Hid (AllV kk xx n) := hnv
          have hl2 := valsS_len kk xx n n
          obtain ⟨vl, hvl⟩ : ∃ vl, vl = (valsS kk xx n n).s.1 := ⟨_, rfl⟩
          rw [← hvl] at hin4 hl2 ⊢
          have hP : Hid (packS tt kk xx n = rawOn vl (rawOn sl ([], 0))) := (by rw [hvl, hslH.out]; rfl : packS tt kk xx n = rawOn vl (rawOn sl ([], 0)))
          have hul := uB_len sl.length
          have hu2 := uB_len vl.length
          obtain ⟨b0, b1, b2, b3, b4, f0, f1, f2, f3, f4⟩ := hzb4
          have hzw4H : Hid (BZ w.heap.size w4) := hzw4
          have hin4H : Hid (BytesIn w4 ya vl.length (natsOf vl)) := hin4
          clear hnv hin4 hvl hzw4
          simp only [badV]
          go_wp2_with fail
          obtain ⟨w5, hw5⟩ : ∃ w5, w5 = (((((w4.setCell ⟨w3.heap.size, 0, none⟩ (.int .i64 0)).setCell ⟨w3.heap.size, 1, none⟩ (.int .i64 0)).setCell ⟨w3.heap.size, 2, none⟩ (.int .i64 0)).setCell ⟨w3.heap.size, 3, none⟩ (.bool false)).setCell ⟨w3.heap.size, 4, none⟩ (.bool false)) := ⟨_, rfl⟩
          have hs5 : w4.heap.size = w5.heap.size := by rw [hw5]; simp
          have hkeep : ∀ (aa : Option Addr) (m : Nat) (f : Nat → Nat), BytesIn w4 aa m f → BytesIn w5 aa m f := fun aa m f hI => by
            rw [hw5]
            refine bytesIn_same ?_ (bytesIn_same ?_ (bytesIn_same ?_ (bytesIn_same ?_ (bytesIn_same b0 hI))))
            · rw [World.cell?_setCell_other _ _ _ _ (by simp), World.cell?_setCell_other _ _ _ _ (by simp), World.cell?_setCell_other _ _ _ _ (by simp), World.cell?_setCell_other _ _ _ _ (by simp)]; exact b4
            · rw [World.cell?_setCell_other _ _ _ _ (by simp), World.cell?_setCell_other _ _ _ _ (by simp), World.cell?_setCell_other _ _ _ _ (by simp)]; exact b3
            · rw [World.cell?_setCell_other _ _ _ _ (by simp), World.cell?_setCell_other _ _ _ _ (by simp)]; exact b2
            · rw [World.cell?_setCell_other _ _ _ _ (by simp)]; exact b1
          have hz5 : BZ w.heap.size w5 := by rw [hw5]; exact ((((hzw4H.out.set hq34).set hq34).set hq34).set hq34).set hq34
          have hB05 : Below w.heap.size w w5 := by rw [hw5]; exact put5 w w4 w3.heap.size (by omega) hB04H.out _ _ _ _ _
          have h5a := hkeep xa sl.length (natsOf sl) (hin3H.out.below hB34H.out)
          have h5b := hkeep ya vl.length (natsOf vl) hin4H.out
          rw [← hw5, hs5]
          have hq5 : w.heap.size < w5.heap.size := by omega
          have hR1 : Hid _ := dw_raw (DW.start w5) rfl sl xa xc h5a (by simp; omega)
          have hR2 : Hid (∀ wx, DW w5.heap.size w5 (rawOn sl ([], 0)) wx → Calls Tryd.prog 41 #[.pointer (some ⟨w5.heap.size, 0, none⟩), .slice ya vl.length yc] wx fun e w' => e = .returned undef ∧ DW w5.heap.size w5 (rawOn vl (rawOn sl ([], 0))) w') := fun wx hx => dw_raw hx rfl vl ya yc h5b (by simp [rawOn]; omega)
          have hlen : Hid ((rawOn vl (rawOn sl ([], 0))).1.length ≤ 140737488355327) := (by simp [rawOn]; omega : (rawOn vl (rawOn sl ([], 0))).1.length ≤ 140737488355327)
          have hz5H : Hid (BZ w.heap.size w5) := hz5
          have hB05H : Hid (Below w.heap.size w w5) := hB05
          clear hkeep hw5 hs5 hz5 hB05 h5a h5b b0 b1 b2 b3 b4 f0 f1 f2 f3 f4 hzw4H hin4H hin3H hB04H hB34H hul hu2 hl1 hl2 hq34 hq43 hl34 hq4 hzl hq3 hslH
          refine Calls.mono hR1.out ?_
          rintro e w6 ⟨rfl, h6⟩
          have hR3 : Hid _ := hR2.out _ h6
          clear hR1 hR2 h6
          go_wp2_with fail
          refine Calls.mono hR3.out ?_
          rintro e w7 ⟨rfl, h7⟩
          have hb7 := h7.b
          obtain ⟨hCL, v, hWS⟩ := h7
          obtain ⟨oa, oc, hv, hin⟩ := hWS.bytes hCL.2.1 hlen.out
          have c0 := hWS.c0
          rw [hv] at c0
          obtain ⟨z0, z1, z2, z3, z4, y0, y1, y2, y3, y4⟩ := hz5H.out.of (hb7.block w.heap.size hq5)
          obtain ⟨S, hS⟩ : ∃ S, S = (rawOn vl (rawOn sl ([], 0))).1 := ⟨_, rfl⟩
          rw [← hS] at c0 hin
          have hSH : Hid (S = (packS tt kk xx n).1) := (by rw [hS, hP.out] : S = (packS tt kk xx n).1)
          have hinH : Hid (BytesIn w7 oa S.length (natsOf S)) := hin
          have hfin : Hid (∀ W, Below w.heap.size w W → BytesIn W oa S.length (natsOf S) → PackE tt kk xx n badV (badV 0) (.returned (.tuple #[.slice oa S.length oc, badV 0])) W ∧ Below w.heap.size w W) := (fun W hBW hI => ⟨Or.inr ⟨⟨hnrH.out, hnvH.out⟩, oa, oc, by rw [hSH.out], by rw [← hSH.out]; exact hI⟩, hBW⟩ : ∀ W, Below w.heap.size w W → BytesIn W oa S.length (natsOf S) → PackE tt kk xx n badV (badV 0) (.returned (.tuple #[.slice oa S.length oc, badV 0])) W ∧ Below w.heap.size w W)
          have hne : S.length = 0 ∨ ∃ g o, oa = some ⟨g, o, none⟩ ∧ w.heap.size < g := by
            rcases hWS.own.2 with ⟨h1, h1'⟩ | ⟨g, cap', cur, h1, h2, _⟩
            · left; rw [hS]; rw [hv] at h1; injection h1
            · right; rw [hv] at h1; injection h1 with h1; exact ⟨g, 0, h1, by omega⟩
          have hneH : Hid _ := hne
          have hBwH : Hid (Below w.heap.size w w7) := below_then hB05H.out hb7
          clear hWS hCL hS hv hin hb7 hne hR3 hz5H hB05H hP hlen
          go_wp2_with fail
          simp [bodyPost, results, Tryd.results17, go_sem, z0, z1, z2, z3, z4, y0, y1, y2, y3, y4]
          have hfx := hfin.out _ (bad_put w w7 hBwH.out (.int .i64 0) (.int .i64 0) (.int .i64 0) (.bool false) (.bool false)) (bytesIn_z hneH.out (bytesIn_z hneH.out (bytesIn_z hneH.out (bytesIn_z hneH.out (bytesIn_z hneH.out hinH.out)))))
          exact hfx
end Go.Proofs.YtpanldgfjipmjaaDoor

namespace Go.Proofs.YtpanldgfjipmjaaDoor
open Go.RowKit
set_option linter.unusedVariables false
set_option linter.unusedSimpArgs false
set_option maxRecDepth 100000 in
set_option maxHeartbeats 4000000 in
theorem blockPacks_walk (a : Option Addr) (n cap : Nat) (tt : Nat → Int) (kk : Nat → Nat) (xx : Nat → Int) (w : World) (h : SIn w a n tt kk xx) (hs : n ≤ 1048576) (hct : CT w) (hg : 0 < w.heap.size) (het : ET w) : Calls Tryd.prog 5 #[.slice a n cap] w fun e w' => e = .returned (.bool true) ∧ Below w.heap.size w w' := by
  obtain ⟨g1, c1, w1, g2, c2, w2, hr1, hr2, hc2, hg2, hgb, hown, h77, hB2⟩ := own_copyS w a n cap tt kk xx h hs
  have hr1H : Hid _ := hr1
  have hr2H : Hid _ := hr2
  have hownH : Hid (SIn w2 (some ⟨g2, 0, none⟩) n tt kk xx) := hown
  have hhH : Hid (SIn w a n tt kk xx) := h
  have hctH : Hid (CT w) := hct
  have hetH : Hid (ET w) := het
  have h77H : Hid _ := h77
  have k1 : (0 : Int) ≤ (n : Int) := by omega
  have k2 : (n : Int) ≤ (c2 : Int) := by omega
  have k3 : (n : Int) ≤ (n : Int) + 1 := by omega
  have k4 : n ≤ c2 := by omega
  have hT : Hid _ := pack_any (some ⟨g2, 0, none⟩) n c2 tt kk xx w2 hown hs (CT_below hct hB2 hg) (by have := hB2.size; omega)
  clear hr1 hr2 hown h hct het h77
  go_enter Tryd.func5, Tryd.ntmps5
  go_wp2_with (at_builtin; first | (refine wpList_append_run2 (by rfl) _ _ _ _ (by rfl) _ _ _ _ (by rfl) (by rfl) hr1H.out ?_; clear hr1H) | (refine wpList_append_run2 (by rfl) _ _ _ _ (by rfl) _ _ _ _ (by rfl) (by rfl) hr2H.out ?_; clear hr2H))
  refine Calls.mono hT.out ?_
  rintro e w3 ⟨hE, hB3⟩
  have hB03 := below_then hB2 hB3
  have hD : Hid _ := dpack_any a n cap tt kk xx w3 (hhH.out.below hB03 (Nat.le_refl _)) hs
  clear hT
  rcases hE with ⟨hnr, rfl⟩ | ⟨hnr, ta, tc, rfl, hin3⟩
  · have hnrH : Hid (¬ (Rises tt n ∧ AllV kk xx n)) := hnr
    clear hnr
    go_wp2_with fail
    refine Calls.mono hD.out ?_
    rintro e w4 ⟨hE, hB4⟩
    have hB04 := below_then hB03 hB4
    have hB24 := below_then hB3 hB4
    clear hD hB4 hB3
    rcases hE with ⟨_, rfl⟩ | ⟨hr, _⟩
    · simp only [badV]
      go_wp2_with fail
      have hBz := below_new (Below.refl _ w4) (.cells #[.int .i64 2, .int .i64 0, .int .i64 0, .bool false, .bool false] 30)
      have hBz4 := below_then hB04 hBz
      have hLi : Hid _ := live_block _ (CT_below hctH.out hBz4 hg) (by have := hBz4.size; omega)
      refine Calls.mono hLi.out ?_
      rintro e w5 ⟨rfl, hB5⟩
      have hzl : w4.heap.size < (w4.alloc (.cells #[.int .i64 2, .int .i64 0, .int .i64 0, .bool false, .bool false] 30)).heap.size := by simp
      have cz : ∀ j, w5.cell? ⟨w4.heap.size, j, none⟩ = (w4.alloc (.cells #[.int .i64 2, .int .i64 0, .int .i64 0, .bool false, .bool false] 30)).cell? ⟨w4.heap.size, j, none⟩ := fun j => hB5.cell (p := ⟨w4.heap.size, j, none⟩) hzl
      have z0 : w5.cell? ⟨w4.heap.size, 0, none⟩ = some (.int .i64 2) := by rw [cz]; simp [go_sem]
      have z1 : w5.cell? ⟨w4.heap.size, 1, none⟩ = some (.int .i64 0) := by rw [cz]; simp [go_sem]
      have z2 : w5.cell? ⟨w4.heap.size, 2, none⟩ = some (.int .i64 0) := by rw [cz]; simp [go_sem]
      have z3 : w5.cell? ⟨w4.heap.size, 3, none⟩ = some (.bool false) := by rw [cz]; simp [go_sem]
      have z4 : w5.cell? ⟨w4.heap.size, 4, none⟩ = some (.bool false) := by rw [cz]; simp [go_sem]
      have hB45 := below_then hBz hB5
      have hB05 := below_then hB04 hB45
      have hSe : Hid _ := same_err 2 rfl w5 (ET_below hetH.out hB05)
      clear hLi hB5 cz hzl hBz hBz4
      go_wp2_with fail
      refine Calls.mono hSe.out ?_
      rintro e w6 ⟨rfl, hB6⟩
      have hB46 := below_then hB45 hB6
      have hB06 := below_then hB05 hB6
      have hSm : Hid _ := same_in none none 0 0 0 (fun _ => 0) w6 ⟨by omega, Or.inl rfl⟩ ⟨by omega, Or.inl rfl⟩
      clear hSe hB6 z0 z1 z2 z3 z4
      go_wp2_with fail
      refine Calls.mono hSm.out ?_
      rintro e w7 ⟨rfl, hB7⟩
      have hB47 := below_then hB46 hB7
      have hB07 := below_then hB06 hB7
      have hB27 := below_then hB24 hB47
      have hTm : Hid _ := sameSamples_any (some ⟨g2, 0, none⟩) a n c2 cap tt kk xx w7 (hownH.out.below hB27 (Nat.le_refl _)) (hhH.out.below hB07 (Nat.le_refl _))
      clear hSm hB7
      go_wp2_with fail
      refine Calls.mono hTm.out ?_
      rintro e w8 ⟨rfl, hB8⟩
      have hB28 := below_then hB27 hB8
      have hB08 := below_then hB07 hB8
      have d77 : w8.cell? ⟨g2, n * 3, none⟩ = some (.int .i64 77) := by rw [hB28.cell (p := ⟨g2, n * 3, none⟩) hg2]; exact h77H.out
      clear hTm hB8
      go_wp2_with fail
      go_ret
      exact ⟨rfl, hB08⟩
    · exact absurd hr hnrH.out
  · have hnrH : Hid (Rises tt n ∧ AllV kk xx n) := hnr
    obtain ⟨sl, hsl⟩ : ∃ sl, sl = (packS tt kk xx n).1 := ⟨_, rfl⟩
    rw [← hsl] at hin3 ⊢
    have hslH : Hid (sl = (packS tt kk xx n).1) := hsl
    have hin3H : Hid (BytesIn w3 ta sl.length (natsOf sl)) := hin3
    clear hnr hin3 hsl
    go_wp2_with fail
    refine Calls.mono hD.out ?_
    rintro e w4 ⟨hE, hB4⟩
    have hB04 := below_then hB03 hB4
    have hB24 := below_then hB3 hB4
    have hB34 := hB4
    clear hD hB4 hB3
    rcases hE with ⟨hr, _⟩ | ⟨_, da, dc, rfl, hin4⟩
    · exact absurd hnrH.out hr
    · rw [← hslH.out] at hin4 ⊢
      have hin4H : Hid (BytesIn w4 da sl.length (natsOf sl)) := hin4
      clear hin4
      simp only [badV]
      go_wp2_with fail
      have hBz := below_new (Below.refl _ w4) (.cells #[.int .i64 0, .int .i64 0, .int .i64 0, .bool false, .bool false] 30)
      have hBz4 := below_then hB04 hBz
      have hLi : Hid _ := live_block _ (CT_below hctH.out hBz4 hg) (by have := hBz4.size; omega)
      refine Calls.mono hLi.out ?_
      rintro e w5 ⟨rfl, hB5⟩
      have hzl : w4.heap.size < (w4.alloc (.cells #[.int .i64 0, .int .i64 0, .int .i64 0, .bool false, .bool false] 30)).heap.size := by simp
      have cz : ∀ j, w5.cell? ⟨w4.heap.size, j, none⟩ = (w4.alloc (.cells #[.int .i64 0, .int .i64 0, .int .i64 0, .bool false, .bool false] 30)).cell? ⟨w4.heap.size, j, none⟩ := fun j => hB5.cell (p := ⟨w4.heap.size, j, none⟩) hzl
      have z0 : w5.cell? ⟨w4.heap.size, 0, none⟩ = some (.int .i64 0) := by rw [cz]; simp [go_sem]
      have z1 : w5.cell? ⟨w4.heap.size, 1, none⟩ = some (.int .i64 0) := by rw [cz]; simp [go_sem]
      have z2 : w5.cell? ⟨w4.heap.size, 2, none⟩ = some (.int .i64 0) := by rw [cz]; simp [go_sem]
      have z3 : w5.cell? ⟨w4.heap.size, 3, none⟩ = some (.bool false) := by rw [cz]; simp [go_sem]
      have z4 : w5.cell? ⟨w4.heap.size, 4, none⟩ = some (.bool false) := by rw [cz]; simp [go_sem]
      have hB45 := below_then hBz hB5
      have hB05 := below_then hB04 hB45
      have hSe : Hid _ := same_nilB w5
      clear hLi hB5 cz hzl hBz hBz4
      go_wp2_with fail
      refine Calls.mono hSe.out ?_
      rintro e w6 ⟨rfl, hB6⟩
      have hB46 := below_then hB45 hB6
      have hB06 := below_then hB05 hB6
      have hSm : Hid _ := same_in ta da sl.length tc dc (natsOf sl) w6 ((hin3H.out.below hB34).below hB46) (hin4H.out.below hB46)
      clear hSe hB6 z0 z1 z2 z3 z4
      go_wp2_with fail
      refine Calls.mono hSm.out ?_
      rintro e w7 ⟨rfl, hB7⟩
      have hB47 := below_then hB46 hB7
      have hB07 := below_then hB06 hB7
      have hB27 := below_then hB24 hB47
      have hTm : Hid _ := sameSamples_any (some ⟨g2, 0, none⟩) a n c2 cap tt kk xx w7 (hownH.out.below hB27 (Nat.le_refl _)) (hhH.out.below hB07 (Nat.le_refl _))
      clear hSm hB7
      go_wp2_with fail
      refine Calls.mono hTm.out ?_
      rintro e w8 ⟨rfl, hB8⟩
      have hB28 := below_then hB27 hB8
      have hB08 := below_then hB07 hB8
      have d77 : w8.cell? ⟨g2, n * 3, none⟩ = some (.int .i64 77) := by rw [hB28.cell (p := ⟨g2, n * 3, none⟩) hg2]; exact h77H.out
      clear hTm hB8
      go_wp2_with fail
      go_ret
      exact ⟨rfl, hB08⟩
end Go.Proofs.YtpanldgfjipmjaaDoor

namespace Go.Proofs.YtpanldgfjipmjaaDoor
open Go.ChangeShapes Go.WideShapes Go.ChangeAt Go.RowKit
set_option linter.unusedVariables false
set_option linter.unusedSimpArgs false
set_option maxRecDepth 100000 in
/-- a slice of samples, by its bulk. -/
theorem smps_bulk {H : Type} {enc : TypeId × Value → H} {W : World} {v : Value} {y : DataW H × List MemPlace} {fuel : Nat}
    (hf : DataW.trod enc Tryd.prog W 0 (fun _ => true) true fuel 46 [v] = some y) (hbk : Rows.uptoBulk y.1 ≤ 1048576) :
    ∃ a len cap tt kk xx, v = .slice a len cap ∧ len ≤ 1048576 ∧ SIn W a len tt kk xx := by
  rcases Go.Deep.open_slice Tryd.underlying46 hf with ⟨hcs, hx⟩ | ⟨a, len, cap, m, n, D, Pl, hcs, hb, hl, hm, hmm, hx, hall⟩
  · simp at hcs
    subst hcs
    exact ⟨none, 0, 0, fun _ => 0, fun _ => 0, fun _ => 0, rfl, by omega, by omega, fun _ => by simp, fun _ => by simp, Or.inl rfl⟩
  · simp at hcs
    subst hcs
    simp only [if_true] at hmm
    subst hmm
    have hce : Tryd.prog.cellsOf 48 = 3 := by kernel_rfl
    have hcv : Tryd.prog.cellsOf 41 = 2 := by kernel_rfl
    have hy1 : y.1 = .slice ((List.range len).map D) ((List.range (m - len)).map fun j => D (len + j)) := by rw [hx]
    have hbe : Rows.uptoBulkAll ((List.range len).map D) ≤ 1048576 := by
      rw [hy1] at hbk; simp only [Rows.uptoBulk] at hbk; omega
    have hlen0 : ∀ k, k ≤ Rows.uptoBulkAll ((List.range k).map D) := by
      intro k
      induction k with
      | zero => simp
      | succ k ih =>
        rw [List.range_succ, List.map_append, bulk_appV]
        simp only [List.map_cons, List.map_nil, Rows.uptoBulkAll]
        have := bulk_posV (D k)
        omega
    have hll := hlen0 len
    have each : ∀ i, i < len → ∃ q : Int × Nat × Int, (W.cell? (a.add (i * 3)) = some (.int .i64 q.1) ∧ W.cell? (a.add (i * 3 + 1)) = some (.int .u8 (q.2.1 : Int)) ∧ W.cell? (a.add (i * 3 + 2)) = some (.int .i64 q.2.2)) ∧ (q.2.1 < 256 ∧ -9223372036854775808 ≤ q.2.2 ∧ q.2.2 ≤ 9223372036854775807) ∧ -9223372036854775808 ≤ q.1 ∧ q.1 ≤ 9223372036854775807 := by
      intro i hi
      obtain ⟨cs', h1, h2⟩ := hall i (by omega)
      rw [hce] at h1
      obtain ⟨_, hlen, hcell⟩ := World.cells?_some h1
      obtain ⟨xs, k, hk, hxy, _, hxl, hff⟩ := DataW.trod_struct Tryd.underlying48 h2
      match xs, hxl, cs', hlen with
      | [y0, y1], _, [v0, v1, v2], _ =>
        have ci : Tryd.prog.cellsOf 39 = 1 := by kernel_rfl
        have cu : Tryd.prog.cellsOf 2 = 1 := by kernel_rfl
        have g0 : DataW.trod enc Tryd.prog W 0 (fun _ => true) true k 2 (List.take (Tryd.prog.cellsOf 2) [v0, v1, v2]) = some y0 := hff 0 _ rfl
        have g1 : DataW.trod enc Tryd.prog W 0 (fun _ => true) true k 41 (List.take (Tryd.prog.cellsOf 41) [v1, v2]) = some y1 := hff 1 _ rfl
        rw [cu] at g0
        rw [hcv] at g1
        simp only [List.take_succ_cons, List.take_zero] at g0 g1
        obtain ⟨xs', k', hk', hxy', _, hxl', hff'⟩ := DataW.trod_struct Tryd.underlying41 g1
        match xs', hxl' with
        | [u0, u1], _ =>
          have g2 : DataW.trod enc Tryd.prog W 0 (fun _ => true) true k' 39 (List.take (Tryd.prog.cellsOf 39) [v1, v2]) = some u0 := hff' 0 _ rfl
          have g3 : DataW.trod enc Tryd.prog W 0 (fun _ => true) true k' 2 (List.take (Tryd.prog.cellsOf 2) [v2]) = some u1 := hff' 1 _ rfl
          rw [ci] at g2
          rw [cu] at g3
          simp only [List.take_succ_cons, List.take_zero] at g2 g3
          obtain ⟨kt, et, _, wt⟩ := DataW.trod_int Tryd.underlying2 g0
          obtain ⟨k0, e0, _, w0⟩ := DataW.trod_int Tryd.underlying39 g2
          obtain ⟨k1, e1, _, w1⟩ := DataW.trod_int Tryd.underlying2 g3
          simp at et e0 e1
          subst et e0 e1
          have r0 := hcell 0 (by omega)
          have r1 := hcell 1 (by omega)
          have r2 := hcell 2 (by omega)
          rw [Go.Deep.add_add] at r0 r1 r2
          have hwt := bounds_i64 wt
          have hw0 := bounds_u8 w0
          have hw1 := bounds_i64 w1
          refine ⟨(kt, k0.toNat, k1), ⟨by simpa using r0, ?_, by simpa using r2⟩, ⟨show k0.toNat < 256 by omega, hw1⟩, hwt⟩
          have ek : ((k0.toNat : Nat) : Int) = k0 := by omega
          simpa [ek] using r1
    obtain ⟨q, hq⟩ := choose_belowV each
    refine ⟨some a, len, m, fun i => if i < len then (q i).1 else 0, fun i => if i < len then (q i).2.1 else 0, fun i => if i < len then (q i).2.2 else 0, rfl, by omega, by omega, fun i => ?_, fun i => ?_, ?_⟩
    · by_cases hi : i < len
      · have := (hq i hi).2.1
        simp only [hi, if_true]
        exact this
      · simp [hi]
    · by_cases hi : i < len
      · have := (hq i hi).2.2
        simp only [hi, if_true]
        exact this
      · simp [hi]
    · rcases Nat.eq_zero_or_pos len with h0 | h0
      · exact Or.inl h0
      · right
        obtain ⟨b, off, spot⟩ := a
        have hspot : spot = none := by simpa [Addr.add] using World.cell?_spot (hq 0 h0).1.1
        subst hspot
        refine ⟨b, off, rfl, ?_, fun i hi => ?_⟩
        · have h' := (hq 0 h0).1.1
          rw [Go.WideShapes.add_plain] at h'
          rcases Nat.lt_or_ge b W.heap.size with h2 | h2
          · exact h2
          · simp [World.cell?, Array.getElem?_eq_none h2] at h'
        · obtain ⟨⟨c0, c1, c2⟩, _⟩ := hq i hi
          rw [Go.WideShapes.add_plain] at c0 c1 c2
          rw [← Nat.add_assoc] at c1 c2
          simp only [hi, if_true]
          exact ⟨c0, c1, c2⟩
end Go.Proofs.YtpanldgfjipmjaaDoor
