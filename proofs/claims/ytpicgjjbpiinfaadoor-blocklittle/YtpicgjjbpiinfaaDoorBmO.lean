
import Derived.Test.YtpicgjjbpiinfaaDoorBlR
import Derived.BigQuiet
import Derived.Deep.CutRange
import Derived.Test.YtpicgjjbpiinfaaDoorBlF
import Derived.Test.YtpicgjjbpiinfaaDoorBlH
namespace Go.Proofs.YtpicgjjbpiinfaaDoor
open Go.RowKit
set_option linter.unusedVariables false
set_option linter.unusedSimpArgs false
/-- samples in memory: times, kinds, numbers. -/
def SIn (w : World) (a : Option Addr) (n : Nat) (tt : Nat → Int) (kk : Nat → Nat) (xx : Nat → Int) : Prop := n ≤ 8796093022208 ∧ (∀ i, kk i < 256 ∧ -9223372036854775808 ≤ xx i ∧ xx i ≤ 9223372036854775807) ∧ (∀ i, -9223372036854775808 ≤ tt i ∧ tt i ≤ 9223372036854775807) ∧ (n = 0 ∨ ∃ b off, a = some ⟨b, off, none⟩ ∧ b < w.heap.size ∧ ∀ i, i < n → w.cell? ⟨b, off + i * 3, none⟩ = some (.int .i64 (tt i)) ∧ w.cell? ⟨b, off + i * 3 + 1, none⟩ = some (.int .u8 (kk i : Int)) ∧ w.cell? ⟨b, off + i * 3 + 2, none⟩ = some (.int .i64 (xx i)))
theorem SIn.below {w w' : World} {a : Option Addr} {n B : Nat} {tt : Nat → Int} {kk : Nat → Nat} {xx : Nat → Int} (h : SIn w a n tt kk xx) (hb : Below B w w') (hB : w.heap.size ≤ B) : SIn w' a n tt kk xx := by
  obtain ⟨h1, h2, h2', h3⟩ := h
  refine ⟨h1, h2, h2', ?_⟩
  rcases h3 with h0 | ⟨b, off, e, hl, hc⟩
  · exact Or.inl h0
  · exact Or.inr ⟨b, off, e, Nat.lt_of_lt_of_le hl hb.size, fun i hi => ⟨by rw [hb.cell (p := ⟨b, off + i * 3, none⟩) (by show b < B; omega)]; exact (hc i hi).1, by rw [hb.cell (p := ⟨b, off + i * 3 + 1, none⟩) (by show b < B; omega)]; exact (hc i hi).2.1, by rw [hb.cell (p := ⟨b, off + i * 3 + 2, none⟩) (by show b < B; omega)]; exact (hc i hi).2.2⟩⟩
theorem smp_info : (Tryd.prog.info? 28).map (fun i => (i.zero, i.bytes, i.size)) = some (some (.agg #[.int .i64 0, .int .u8 0, .int .i64 0]), 24, 3) := by kernel_rfl
def smpC (tt : Nat → Int) (kk : Nat → Nat) (xx : Nat → Int) (j : Nat) : Value := if j % 3 = 0 then .int .i64 (tt (j / 3)) else if j % 3 = 1 then .int .u8 (kk (j / 3) : Int) else .int .i64 (xx (j / 3))
def encS (tt : Nat → Int) (kk : Nat → Nat) (xx : Nat → Int) (n : Nat) : List Value := (List.range (n * 3)).map (smpC tt kk xx)
theorem encS_len (tt : Nat → Int) (kk : Nat → Nat) (xx : Nat → Int) (n : Nat) : (encS tt kk xx n).length = n * 3 := by simp [encS]
theorem encS_get (tt : Nat → Int) (kk : Nat → Nat) (xx : Nat → Int) (n j : Nat) (h : j < n * 3) : (encS tt kk xx n)[j]? = some (smpC tt kk xx j) := by simp [encS, h]
theorem encS_one (tt : Nat → Int) (kk : Nat → Nat) (xx : Nat → Int) (n : Nat) : ∀ u ∈ encS tt kk xx n, u.oneCell' = true := by
  intro u hu
  simp only [encS, List.mem_map] at hu
  obtain ⟨x, _, rfl⟩ := hu
  unfold smpC
  split
  · rfl
  · split <;> rfl
theorem appS (W : World) (base g0 c0 m : Nat) (xs : List Value) (own : W.ownsRow base 28 3 (.slice (some ⟨g0, 0, none⟩) m c0) m xs) (hbase : base ≤ W.heap.size) (a : Option Addr) (n cap : Nat) (tt : Nat → Int) (kk : Nat → Nat) (xx : Nat → Int)
    (h : n = 0 ∨ ∃ b off, a = some ⟨b, off, none⟩ ∧ b < W.heap.size ∧ ∀ i, i < n → W.cell? ⟨b, off + i * 3, none⟩ = some (.int .i64 (tt i)) ∧ W.cell? ⟨b, off + i * 3 + 1, none⟩ = some (.int .u8 (kk i : Int)) ∧ W.cell? ⟨b, off + i * 3 + 2, none⟩ = some (.int .i64 (xx i))) (hbig : m + n ≤ 10000000) :
    ∃ g c w', (Builtin.append_ #[23, 23] 23 #[.slice (some ⟨g0, 0, none⟩) m c0, .slice a n cap]).run Tryd.prog W = .ok (.slice (some ⟨g, 0, none⟩) (m + n) c) w' ∧ w'.ownsRow base 28 3 (.slice (some ⟨g, 0, none⟩) (m + n) c) (m + n) (xs ++ encS tt kk xx n) ∧ Below base W w' := by
  obtain ⟨i, i1, i0⟩ := Option.map_eq_some_iff.1 smp_info
  have i2 : i.zero = some (.agg #[.int .i64 0, .int .u8 0, .int .i64 0]) := congrArg (·.1) i0
  have i3 : i.bytes = 24 := congrArg (·.2.1) i0
  have i4 : i.size = 3 := congrArg (·.2.2) i0
  have hnc : m ≤ c0 := by
    rcases own.2 with ⟨hq, _⟩ | ⟨g1, cap1, cur, hq, _, _, hnc, _⟩
    · cases hq
    · cases hq; exact hnc
  cases a with
  | none =>
    obtain rfl : n = 0 := by
      rcases h with h | ⟨b, off, h, _⟩
      · exact h
      · cases h
    refine ⟨g0, c0, W, ?_, by rw [Nat.add_zero, show encS tt kk xx 0 = [] from rfl, List.append_nil]; exact own, Below.refl _ _⟩
    simp [Builtin.append_, run_underlying Tryd.underlying23, sizeOf, typeInfo, i1, Builtin.lenOf, hnc, run_firstCells_none, storeCells]
  | some ad =>
    have hnews : ∀ j u, (encS tt kk xx n)[j]? = some u → W.cell? (ad.add j) = some u := fun j u hu => by
      have hj : j < n * 3 := by
        rcases Nat.lt_or_ge j (n * 3) with h | h
        · exact h
        · rw [List.getElem?_eq_none (by rw [encS_len]; exact h)] at hu; cases hu
      rw [encS_get tt kk xx n j hj] at hu
      obtain rfl := Option.some.inj hu
      rcases h with h | ⟨b, off, ha, hb, hc⟩
      · omega
      · obtain rfl := Option.some.inj ha
        rw [add_none2]
        obtain ⟨h1, h2, h3⟩ := hc (j / 3) (by omega)
        unfold smpC
        split
        · rename_i he
          rw [show off + j = off + j / 3 * 3 by omega]; exact h1
        · rename_i he
          split
          · rename_i he'
            rw [show off + j = off + j / 3 * 3 + 1 by omega]; exact h2
          · rename_i he'
            rw [show off + j = off + j / 3 * 3 + 2 by omega]; exact h3
    obtain ⟨v', w', hr, ho', hg, hnil, _⟩ := run_append_own_at (P := Tryd.prog) W base 23 23 28 i (.agg #[.int .i64 0, .int .u8 0, .int .i64 0]) 3 24 Tryd.underlying23 i1 i2 i4 i3 rfl (by omega) _ m xs own ad n cap (encS tt kk xx n) (encS_len _ _ _ _) hnews (encS_one _ _ _ _) (by simp [maxLen]; omega) (by omega) hbase
    have hB2 : Below base W w' := (Below.refl _ W).grown hg hbase (fun k e => (own.lt k e).1)
    rcases ho'.2 with ⟨hq, _⟩ | ⟨g, c, cur, hq, hbg, hgr, _⟩
    · have := hnil.1 hq; simp at this
    · subst hq
      exact ⟨g, c, w', hr, ho', hB2⟩
theorem ownsRow_belowS {W w' : World} {base m : Nat} {v : Value} {xs : List Value} (h : W.ownsRow base 28 3 v m xs) (hb : Below W.heap.size W w') : w'.ownsRow base 28 3 v m xs := by
  refine ⟨h.1, ?_⟩
  rcases h.2 with h2 | ⟨g, cap, cur, e1, e2, e3, e4⟩
  · exact Or.inl h2
  · exact Or.inr ⟨g, cap, cur, e1, e2, by rw [hb.block g (Array.getElem?_eq_some_iff.1 e3).1]; exact e3, e4⟩
/-- the law's own copy. -/
theorem own_copyS (w : World) (a : Option Addr) (n cap : Nat) (tt : Nat → Int) (kk : Nat → Nat) (xx : Nat → Int) (h : SIn w a n tt kk xx) (hs : n ≤ 1048576) : ∃ g1 c1 w1 g2 c2 w2,
    (Builtin.append_ #[23, 23] 23 #[.slice (some ⟨w.heap.size, 0, none⟩) 0 0, .slice a n cap]).run Tryd.prog (w.alloc (.cells #[] 28)) = .ok (.slice (some ⟨g1, 0, none⟩) n c1) w1 ∧
    (Builtin.append_ #[23, 23] 23 #[.slice (some ⟨g1, 0, none⟩) n c1, .slice (some ⟨w1.heap.size, 0, none⟩) 1 1]).run Tryd.prog (w1.alloc (.cells #[.int .i64 77, .int .u8 0, .int .i64 0] 28)) = .ok (.slice (some ⟨g2, 0, none⟩) (n + 1) c2) w2 ∧
    n + 1 ≤ c2 ∧ g2 < w2.heap.size ∧ w.heap.size ≤ g2 ∧ SIn w2 (some ⟨g2, 0, none⟩) n tt kk xx ∧ w2.cell? ⟨g2, n * 3, none⟩ = some (.int .i64 77) ∧ Below w.heap.size w w2 := by
  have hB0 := below_new (Below.refl _ w) (.cells #[] 28)
  have own0 : (w.alloc (.cells #[] 28)).ownsRow w.heap.size 28 3 (.slice (some ⟨w.heap.size, 0, none⟩) 0 0) 0 [] := by
    have := World.ownsRow_made (e := 28) (size := 3) (base := w.heap.size) w #[] 0 (by simp) (by simp [maxLen]) rfl
    simpa using this
  have hh := h
  obtain ⟨_, hz, hz', hc⟩ := h
  obtain ⟨g1, c1, w1, hr1, ho1, hB1⟩ := appS _ w.heap.size w.heap.size 0 0 [] own0 (by simp) a n cap tt kk xx (by
    rcases hc with h0 | ⟨b, off, e, hb, hcc⟩
    · exact Or.inl h0
    · exact Or.inr ⟨b, off, e, by simp; omega, fun i hi => ⟨by rw [hB0.cell (p := ⟨b, off + i * 3, none⟩) hb]; exact (hcc i hi).1, by rw [hB0.cell (p := ⟨b, off + i * 3 + 1, none⟩) hb]; exact (hcc i hi).2.1, by rw [hB0.cell (p := ⟨b, off + i * 3 + 2, none⟩) hb]; exact (hcc i hi).2.2⟩⟩) (by omega)
  rw [Nat.zero_add, List.nil_append] at ho1
  rw [Nat.zero_add] at hr1
  have hBn := below_new (Below.refl _ w1) (.cells #[.int .i64 77, .int .u8 0, .int .i64 0] 28)
  have hs1 : w.heap.size ≤ w1.heap.size := by have := hB1.size; simp at this; omega
  obtain ⟨g2, c2, w2, hr2, ho2, hB2⟩ := appS _ w.heap.size g1 c1 n (encS tt kk xx n) (ownsRow_belowS ho1 hBn) (by simp; omega) (some ⟨w1.heap.size, 0, none⟩) 1 1 (fun _ => 77) (fun _ => 0) (fun _ => 0) (Or.inr ⟨w1.heap.size, 0, rfl, by simp, fun i hi => by { obtain rfl : i = 0 := (by omega); exact ⟨by simp [go_sem], by simp [go_sem], by simp [go_sem]⟩ }⟩) (by omega)
  have hcs := ho2.cells (g := g2) rfl
  have hlt := ho2.lt g2 rfl
  have hc2 : n + 1 ≤ c2 := by
    rcases ho2.2 with ⟨hq, _⟩ | ⟨g', cap', cur, hq, _, _, hnc, _⟩
    · cases hq
    · cases hq; exact hnc
  have get1 : ∀ j, j < n * 3 → w2.cell? ⟨g2, j, none⟩ = some (smpC tt kk xx j) := fun j hj => by
    have := hcs j (smpC tt kk xx j) (by rw [List.getElem?_append_left (by rw [encS_len]; exact hj), encS_get tt kk xx n j hj])
    rw [add_none2, Nat.zero_add] at this; exact this
  have get2 : ∀ j, j < 3 → w2.cell? ⟨g2, n * 3 + j, none⟩ = some (smpC (fun _ => 77) (fun _ => 0) (fun _ => 0) j) := fun j hj => by
    have := hcs (n * 3 + j) (smpC (fun _ => 77) (fun _ => 0) (fun _ => 0) j) (by rw [List.getElem?_append_right (by rw [encS_len]; omega), encS_len, show n * 3 + j - n * 3 = j by omega, encS_get _ _ _ 1 j (by omega)])
    rw [add_none2, Nat.zero_add] at this; exact this
  refine ⟨g1, c1, w1, g2, c2, w2, hr1, hr2, hc2, hlt.2, hlt.1, ⟨hh.1, hz, hz', Or.inr ⟨g2, 0, rfl, hlt.2, fun i hi => ⟨?_, ?_, ?_⟩⟩⟩, get2 0 (by omega), hB0.trans (hB1.trans ((hBn.mono (by omega)).trans hB2))⟩
  · have := get1 (i * 3) (by omega)
    rw [Nat.zero_add, this]; unfold smpC; rw [if_pos (by omega), show i * 3 / 3 = i by omega]
  · have := get1 (i * 3 + 1) (by omega)
    rw [Nat.zero_add, this]; unfold smpC; rw [if_neg (by omega), if_pos (by omega), show (i * 3 + 1) / 3 = i by omega]
  · have := get1 (i * 3 + 2) (by omega)
    rw [Nat.zero_add, this]; unfold smpC; rw [if_neg (by omega), if_neg (by omega), show (i * 3 + 2) / 3 = i by omega]
set_option maxRecDepth 100000 in
set_option maxHeartbeats 4000000 in
theorem sameSamples_any (a1 a2 : Option Addr) (n c1 c2 : Nat) (tt : Nat → Int) (kk : Nat → Nat) (xx : Nat → Int) (w : World) (h1 : SIn w a1 n tt kk xx) (h2 : SIn w a2 n tt kk xx) : Calls Tryd.prog 17 #[.slice a1 n c1, .slice a2 n c2] w fun e w' => e = .returned (.bool true) ∧ Below w.heap.size w w' := by
  obtain ⟨hn, hz, hz', hc1⟩ := h1
  obtain ⟨_, _, _, hc2⟩ := h2
  go_enter Tryd.func17, Tryd.ntmps17
  go_wp2_with fail
  go_loopw [5] (fun i wr => ∃ k : Nat, k ≤ n ∧ i = .int .i64 (k : Int) ∧ Below w.heap.size w wr) (fun i _ => n - (intOf i).toNat)
  case atStart => exact ⟨0, by omega, rfl, Below.refl _ _⟩
  case round =>
    obtain ⟨k, hk, rfl, hB⟩ := hrel
    by_cases hkn : k < n
    · have hkI : (k : Int) < (n : Int) := by omega
      have k1 : (0 : Int) ≤ (k : Int) := by omega
      rcases hc1 with h0 | ⟨b, off, rfl, hb, hcc⟩
      · omega
      rcases hc2 with h0 | ⟨b', off', rfl, hb', hcc'⟩
      · omega
      have d1 : wr.cell? ⟨b, off + k * 3, none⟩ = some (.int .i64 (tt k)) := by rw [hB.cell (p := ⟨b, off + k * 3, none⟩) hb]; exact (hcc k hkn).1
      have d2 : wr.cell? ⟨b, off + k * 3 + 1, none⟩ = some (.int .u8 (kk k : Int)) := by rw [hB.cell (p := ⟨b, off + k * 3 + 1, none⟩) hb]; exact (hcc k hkn).2.1
      have d3 : wr.cell? ⟨b, off + k * 3 + 2, none⟩ = some (.int .i64 (xx k)) := by rw [hB.cell (p := ⟨b, off + k * 3 + 2, none⟩) hb]; exact (hcc k hkn).2.2
      have d4 : wr.cell? ⟨b', off' + k * 3, none⟩ = some (.int .i64 (tt k)) := by rw [hB.cell (p := ⟨b', off' + k * 3, none⟩) hb']; exact (hcc' k hkn).1
      have d5 : wr.cell? ⟨b', off' + k * 3 + 1, none⟩ = some (.int .u8 (kk k : Int)) := by rw [hB.cell (p := ⟨b', off' + k * 3 + 1, none⟩) hb']; exact (hcc' k hkn).2.1
      have d6 : wr.cell? ⟨b', off' + k * 3 + 2, none⟩ = some (.int .i64 (xx k)) := by rw [hB.cell (p := ⟨b', off' + k * 3 + 2, none⟩) hb']; exact (hcc' k hkn).2.2
      obtain ⟨x, hx⟩ : ∃ x, x = xx k := ⟨_, rfl⟩
      obtain ⟨y, hy⟩ : ∃ y, y = kk k := ⟨_, rfl⟩
      obtain ⟨t, ht⟩ : ∃ t, t = tt k := ⟨_, rfl⟩
      rw [← hx] at d3 d6
      rw [← hy] at d2 d5
      rw [← ht] at d1 d4
      clear hy ht
      have hBd : ∀ q, Below w.heap.size w (wr.drewN q) := fun q => below_drewN hB q
      clear hx hcc hcc' hB
      go_wp2_with fail
      go_quiet (fail)
      go_wp2_with fail
      go_roundw
      case rel => exact ⟨k + 1, by omega, by go_num, hBd _⟩
      case measure => simp [intOf]; omega
    · have hkI : ¬ (k : Int) < (n : Int) := by omega
      go_wp2_with fail
      go_ret
      exact ⟨rfl, hB⟩
end Go.Proofs.YtpicgjjbpiinfaaDoor

namespace Go.Proofs.YtpicgjjbpiinfaaDoor
open Go.RowKit
set_option linter.unusedVariables false
set_option linter.unusedSimpArgs false
theorem make_i64 (n : Nat) (h : n ≤ 1048576) (w : World) : (Instr.makeSlice 55 (.int .i64 (n : Int)) (.int .i64 (n : Int))).run Tryd.prog w = .ok (.slice (some ⟨w.heap.size, 0, none⟩) n n) (w.alloc (.cells (madeCells #[.int .i64 0] n) 2)) := by
  have hi : (Tryd.prog.info? 2).map (fun i => (i.zero, i.bytes, i.size)) = some (some (.int .i64 0), 8, 1) := by kernel_rfl
  obtain ⟨i, i1, i0⟩ := Option.map_eq_some_iff.1 hi
  have i2 : i.zero = some (.int .i64 0) := congrArg (·.1) i0
  have i3 : i.bytes = 8 := congrArg (·.2.1) i0
  have i4 : i.size = 1 := congrArg (·.2.2) i0
  have := run_make (P := Tryd.prog) w 55 2 i (.int .i64 0) Tryd.underlying55 i1 i2 .i64 .i64 (n : Int) (n : Int) (by omega) (by omega) (by rw [i3]; omega) (by omega)
  rw [i4] at this
  simpa [Value.cells] using this
theorem make_val (n : Nat) (h : n ≤ 1048576) (w : World) : (Instr.makeSlice 36 (.int .i64 (n : Int)) (.int .i64 (n : Int))).run Tryd.prog w = .ok (.slice (some ⟨w.heap.size, 0, none⟩) n n) (w.alloc (.cells (madeCells #[.int .u8 0, .int .i64 0] (n * 2)) 26)) := by
  obtain ⟨i, i1, i0⟩ := Option.map_eq_some_iff.1 val_info
  have i2 : i.zero = some (.agg #[.int .u8 0, .int .i64 0]) := congrArg (·.1) i0
  have i3 : i.bytes = 16 := congrArg (·.2.1) i0
  have i4 : i.size = 2 := congrArg (·.2.2) i0
  have := run_make (P := Tryd.prog) w 36 26 i (.agg #[.int .u8 0, .int .i64 0]) Tryd.underlying36 i1 i2 .i64 .i64 (n : Int) (n : Int) (by omega) (by omega) (by rw [i3]; omega) (by omega)
  rw [i4] at this
  simpa [Value.cells] using this
theorem made2_get (n j : Nat) (h : j < n * 2) : (madeCells #[Value.int .u8 0, Value.int .i64 0] (n * 2))[j]? = some (if j % 2 = 0 then .int .u8 0 else .int .i64 0) := by
  unfold madeCells
  rw [Array.getElem?_map, Array.getElem?_range, if_pos h]
  rcases Nat.mod_two_eq_zero_or_one j with e | e <;> simp [e]
/-- what stands while samples are split: the times at g, the values at h; k of them are there. -/
structure SP (w : World) (g h n k : Nat) (tt : Nat → Int) (kk : Nat → Nat) (xx : Nat → Int) (wx : World) : Prop where
  tc : ∀ j, j < n → wx.cell? ⟨g, j, none⟩ = some (.int .i64 (if j < k then tt j else 0))
  tf : ∀ j, j < n → wx.frozen? ⟨g, j, none⟩ = false
  vk : ∀ j, j < n → wx.cell? ⟨h, j * 2, none⟩ = some (.int .u8 (if j < k then (kk j : Int) else 0))
  vx : ∀ j, j < n → wx.cell? ⟨h, j * 2 + 1, none⟩ = some (.int .i64 (if j < k then xx j else 0))
  vf : ∀ j, j < n * 2 → wx.frozen? ⟨h, j, none⟩ = false
  b : Below w.heap.size w wx
  l1 : w.heap.size ≤ g
  l2 : g ≠ h
  l3 : h < wx.heap.size
  l4 : g < wx.heap.size
  l5 : w.heap.size ≤ h
theorem SP.start (w : World) (n : Nat) (tt : Nat → Int) (kk : Nat → Nat) (xx : Nat → Int) : SP w w.heap.size (w.heap.size + 1) n 0 tt kk xx ((w.alloc (.cells (madeCells #[.int .i64 0] n) 2)).alloc (.cells (madeCells #[.int .u8 0, .int .i64 0] (n * 2)) 26)) := by
  have hz : ∀ j, j < n → (madeCells #[Value.int .i64 0] n)[j]? = some (.int .i64 0) := fun j hj => by
    rw [← Array.getElem?_toList, toList_madeCells_one]; simp [hj]
  have hB1 := below_new (Below.refl _ w) (.cells (madeCells #[.int .i64 0] n) 2)
  obtain ⟨W, hW⟩ : ∃ W, W = w.alloc (.cells (madeCells #[.int .i64 0] n) 2) := ⟨_, rfl⟩
  have hWs : W.heap.size = w.heap.size + 1 := by rw [hW]; simp
  have hB2 := below_new (Below.refl _ W) (.cells (madeCells #[.int .u8 0, .int .i64 0] (n * 2)) 26)
  have c2 : ∀ j, j < n * 2 → (W.alloc (.cells (madeCells #[.int .u8 0, .int .i64 0] (n * 2)) 26)).cell? ⟨W.heap.size, j, none⟩ = some (if j % 2 = 0 then .int .u8 0 else .int .i64 0) := fun j hj => by
    rw [cell_of_row _ W.heap.size j _ 26 (0, 0) (heap_alloc_new W _)]; exact made2_get n j hj
  have f2 : ∀ j, (W.alloc (.cells (madeCells #[.int .u8 0, .int .i64 0] (n * 2)) 26)).frozen? ⟨W.heap.size, j, none⟩ = false := fun j => frozen_of_row _ W.heap.size j _ 26 (heap_alloc_new W _)
  rw [← hW] at hB1 ⊢
  rw [hWs] at c2 f2
  refine ⟨fun j hj => ?_, fun j hj => ?_, fun j hj => ?_, fun j hj => ?_, fun j hj => f2 j, below_then hB1 hB2, Nat.le_refl _, by omega, by simp [hWs], by simp [hWs]; omega, by omega⟩
  · rw [hB2.cell (p := ⟨w.heap.size, j, none⟩) (by show w.heap.size < W.heap.size; omega), hW, cell_of_row _ w.heap.size j _ 2 (0, 0) (heap_alloc_new w _), if_neg (by omega)]; exact hz j hj
  · rw [hB2.frozen (p := ⟨w.heap.size, j, none⟩) (by show w.heap.size < W.heap.size; omega), hW]; exact frozen_of_row _ w.heap.size j _ 2 (heap_alloc_new w _)
  · rw [c2 _ (by omega), if_pos (by omega), if_neg (by omega)]
  · rw [c2 _ (by omega), if_neg (by omega), if_neg (by omega)]
theorem SP.start2 (w : World) (n : Nat) (tt : Nat → Int) (kk : Nat → Nat) (xx : Nat → Int) : SP w (w.heap.size + 1) w.heap.size n 0 tt kk xx ((w.alloc (.cells (madeCells #[.int .u8 0, .int .i64 0] (n * 2)) 26)).alloc (.cells (madeCells #[.int .i64 0] n) 2)) := by
  have hz : ∀ j, j < n → (madeCells #[Value.int .i64 0] n)[j]? = some (.int .i64 0) := fun j hj => by
    rw [← Array.getElem?_toList, toList_madeCells_one]; simp [hj]
  have hB1 := below_new (Below.refl _ w) (.cells (madeCells #[.int .u8 0, .int .i64 0] (n * 2)) 26)
  have c2 : ∀ j, j < n * 2 → (w.alloc (.cells (madeCells #[.int .u8 0, .int .i64 0] (n * 2)) 26)).cell? ⟨w.heap.size, j, none⟩ = some (if j % 2 = 0 then .int .u8 0 else .int .i64 0) := fun j hj => by
    rw [cell_of_row _ w.heap.size j _ 26 (0, 0) (heap_alloc_new w _)]; exact made2_get n j hj
  have f2 : ∀ j, (w.alloc (.cells (madeCells #[.int .u8 0, .int .i64 0] (n * 2)) 26)).frozen? ⟨w.heap.size, j, none⟩ = false := fun j => frozen_of_row _ w.heap.size j _ 26 (heap_alloc_new w _)
  obtain ⟨W, hW⟩ : ∃ W, W = w.alloc (.cells (madeCells #[.int .u8 0, .int .i64 0] (n * 2)) 26) := ⟨_, rfl⟩
  have hWs : W.heap.size = w.heap.size + 1 := by rw [hW]; simp
  rw [← hW] at hB1 c2 f2 ⊢
  have hB2 := below_new (Below.refl _ W) (.cells (madeCells #[.int .i64 0] n) 2)
  have hl : w.heap.size < W.heap.size := by omega
  rw [← hWs]
  refine ⟨fun j hj => ?_, fun j hj => ?_, fun j hj => ?_, fun j hj => ?_, fun j hj => ?_, below_then hB1 hB2, by omega, by omega, by simp; omega, by simp, Nat.le_refl _⟩
  · rw [cell_of_row _ W.heap.size j _ 2 (0, 0) (heap_alloc_new W _), if_neg (by omega)]; exact hz j hj
  · exact frozen_of_row _ W.heap.size j _ 2 (heap_alloc_new W _)
  · rw [hB2.cell (p := ⟨w.heap.size, j * 2, none⟩) hl, c2 _ (by omega), if_pos (by omega), if_neg (by omega)]
  · rw [hB2.cell (p := ⟨w.heap.size, j * 2 + 1, none⟩) hl, c2 _ (by omega), if_neg (by omega), if_neg (by omega)]
  · rw [hB2.frozen (p := ⟨w.heap.size, j, none⟩) hl]; exact f2 j
theorem SP.below {w : World} {g h n k : Nat} {tt : Nat → Int} {kk : Nat → Nat} {xx : Nat → Int} {wx w' : World} (s : SP w g h n k tt kk xx wx) (hb : Below wx.heap.size wx w') : SP w g h n k tt kk xx w' := by
  obtain ⟨tc, tf, vk, vx, vf, b, l1, l2, l3, l4, l5⟩ := s
  refine ⟨fun j hj => ?_, fun j hj => ?_, fun j hj => ?_, fun j hj => ?_, fun j hj => ?_, below_then b hb, l1, l2, Nat.lt_of_lt_of_le l3 hb.size, Nat.lt_of_lt_of_le l4 hb.size, l5⟩
  · rw [hb.cell (p := ⟨g, j, none⟩) l4]; exact tc j hj
  · rw [hb.frozen (p := ⟨g, j, none⟩) l4]; exact tf j hj
  · rw [hb.cell (p := ⟨h, j * 2, none⟩) l3]; exact vk j hj
  · rw [hb.cell (p := ⟨h, j * 2 + 1, none⟩) l3]; exact vx j hj
  · rw [hb.frozen (p := ⟨h, j, none⟩) l3]; exact vf j hj
theorem SP.put {w : World} {g h n k : Nat} {tt : Nat → Int} {kk : Nat → Nat} {xx : Nat → Int} {wx : World} (s : SP w g h n k tt kk xx wx) (hk : k < n) : SP w g h n (k + 1) tt kk xx (((wx.setCell ⟨g, k, none⟩ (.int .i64 (tt k))).setCell ⟨h, k * 2, none⟩ (.int .u8 (kk k : Int))).setCell ⟨h, k * 2 + 1, none⟩ (.int .i64 (xx k))) := by
  obtain ⟨tc, tf, vk, vx, vf, b, l1, l2, l3, l4, l5⟩ := s
  refine ⟨fun j hj => ?_, fun j hj => by simpa using tf j hj, fun j hj => ?_, fun j hj => ?_, fun j hj => by simpa using vf j hj, ((b.setCell (p := ⟨g, k, none⟩) l1 _).setCell (p := ⟨h, k * 2, none⟩) (show w.heap.size ≤ h by omega) _).setCell (p := ⟨h, k * 2 + 1, none⟩) (show w.heap.size ≤ h by omega) _, l1, l2, by simpa using l3, by simpa using l4, l5⟩
  · rw [World.cell?_setCell_other _ _ _ _ (by intro e; injection e with e1; omega), World.cell?_setCell_other _ _ _ _ (by intro e; injection e with e1; omega)]
    by_cases e : j = k
    · subst e; rw [if_pos (by omega)]; exact World.cell?_setCell_same _ _ _ (tc j hj)
    · rw [World.cell?_setCell_other _ _ _ _ (by intro e'; injection e' with e1 e2; omega), tc j hj]
      by_cases e2 : j < k
      · rw [if_pos e2, if_pos (by omega)]
      · rw [if_neg e2, if_neg (by omega)]
  · rw [World.cell?_setCell_other _ _ _ _ (by intro e; injection e with e1 e2; omega)]
    by_cases e : j = k
    · subst e; rw [if_pos (by omega)]; exact World.cell?_setCell_same _ _ _ (u := .int .u8 (if j < j then (kk j : Int) else 0)) (by rw [World.cell?_setCell_other _ _ _ _ (by intro e; injection e with e1; omega)]; exact vk j hj)
    · rw [World.cell?_setCell_other _ _ _ _ (by intro e'; injection e' with e1 e2; omega), World.cell?_setCell_other _ _ _ _ (by intro e'; injection e' with e1 e2; omega), vk j hj]
      by_cases e2 : j < k
      · rw [if_pos e2, if_pos (by omega)]
      · rw [if_neg e2, if_neg (by omega)]
  · by_cases e : j = k
    · subst e; rw [if_pos (by omega)]; exact World.cell?_setCell_same _ _ _ (u := .int .i64 (if j < j then xx j else 0)) (by rw [World.cell?_setCell_other _ _ _ _ (by intro e; injection e with e1 e2; omega), World.cell?_setCell_other _ _ _ _ (by intro e; injection e with e1; omega)]; exact vx j hj)
    · rw [World.cell?_setCell_other _ _ _ _ (by intro e'; injection e' with e1 e2; omega), World.cell?_setCell_other _ _ _ _ (by intro e'; injection e' with e1 e2; omega), World.cell?_setCell_other _ _ _ _ (by intro e'; injection e' with e1 e2; omega), vx j hj]
      by_cases e2 : j < k
      · rw [if_pos e2, if_pos (by omega)]
      · rw [if_neg e2, if_neg (by omega)]
set_option maxRecDepth 100000 in
set_option maxHeartbeats 4000000 in
theorem split_any (a : Option Addr) (n cap : Nat) (tt : Nat → Int) (kk : Nat → Nat) (xx : Nat → Int) (w : World) (h : SIn w a n tt kk xx) (hs : n ≤ 1048576) : Calls Tryd.prog 21 #[.slice a n cap] w fun e w' => ∃ g h, e = .returned (.tuple #[.slice (some ⟨g, 0, none⟩) n n, .slice (some ⟨h, 0, none⟩) n n]) ∧ IsIn w' (some ⟨g, 0, none⟩) n tt ∧ VIn w' (some ⟨h, 0, none⟩) n kk xx ∧ Below w.heap.size w w' := by
  have hmk := make_i64 n hs
  have hmk2 := make_val n hs
  have hst : Hid _ := SP.start w n tt kk xx
  have hst2 : Hid _ := SP.start2 w n tt kk xx
  have hhH : Hid (SIn w a n tt kk xx) := h
  clear h
  go_enter Tryd.func21, Tryd.ntmps21
  go_wp2_with fail
  go_cut [2, 3] from 6 to 11 (fun t v wx => ∃ g h, t = .slice (some ⟨g, 0, none⟩) n n ∧ v = .slice (some ⟨h, 0, none⟩) n n ∧ SP w g h n 0 tt kk xx wx)
  case first =>
    go_region_with (fail)
    all_goals
      go_wp2_with fail
      go_meet
      first | exact ⟨_, _, rfl, rfl, hst.out.below (Below.refl _ _).drew⟩ | exact ⟨_, _, rfl, rfl, hst2.out.below (Below.refl _ _).drew⟩
  case rest =>
    clear hst hst2 hmk hmk2
    obtain ⟨g, h, rfl, rfl, hS⟩ := hcut
    have hSH : Hid (SP w g h n 0 tt kk xx wc) := hS
    clear hS
    go_wp2_with fail
    go_loopw [14] (fun ix wr => ∃ k : Nat, k ≤ n ∧ ix = .int .i64 (k : Int) ∧ SP w g h n k tt kk xx wr) (fun ix _ => n - (intOf ix).toNat)
    case atStart => exact ⟨0, by omega, rfl, hSH.out⟩
    case round =>
      clear hSH
      obtain ⟨k, hk, rfl, hS⟩ := hrel
      by_cases hkn : k < n
      · have hkI : (k : Int) < (n : Int) := by omega
        have k1 : (0 : Int) ≤ (k : Int) := by omega
        obtain ⟨hn1, hz, hz', hc⟩ := hhH.out
        rcases hc with h0 | ⟨b, off, rfl, hb, hcc⟩
        · omega
        have hBw := hS.b
        have d1 : wr.cell? ⟨b, off + k * 3, none⟩ = some (.int .i64 (tt k)) := by rw [hBw.cell (p := ⟨b, off + k * 3, none⟩) hb]; exact (hcc k hkn).1
        have d2 : wr.cell? ⟨b, off + k * 3 + 1, none⟩ = some (.int .u8 (kk k : Int)) := by rw [hBw.cell (p := ⟨b, off + k * 3 + 1, none⟩) hb]; exact (hcc k hkn).2.1
        have d3 : wr.cell? ⟨b, off + k * 3 + 2, none⟩ = some (.int .i64 (xx k)) := by rw [hBw.cell (p := ⟨b, off + k * 3 + 2, none⟩) hb]; exact (hcc k hkn).2.2
        have e1 := hS.tc k hkn
        have e2 := hS.tf k hkn
        have e3 := hS.vk k hkn
        have e4 := hS.vx k hkn
        have e5 := hS.vf (k * 2) (by omega)
        have e6 := hS.vf (k * 2 + 1) (by omega)
        have l2 := hS.l2
        have l3 := hS.l3
        have l4 := hS.l4
        have hSH : Hid _ := hS
        clear hz hz' hcc hS hBw
        go_wp2_with fail
        go_region_with (fail)
        all_goals
          go_wp2_with fail
          go_roundw
          case rel =>
            exact ⟨k + 1, by omega, by go_num, ((hSH.out.put hkn).below (below_new (Below.refl _ _) _)).below (Below.refl _ _).drew⟩
          case measure => simp [intOf]; omega
      · obtain rfl : n = k := by omega
        have hkI : ¬ (n : Int) < (n : Int) := by omega
        obtain ⟨hn1, hz, hz', hc⟩ := hhH.out
        clear hc
        go_wp2_with fail
        simp [bodyPost, results, Tryd.results21, go_sem]
        refine ⟨g, h, ⟨rfl, rfl⟩, ⟨by omega, hz', Or.inr ⟨g, 0, rfl, hS.l4, fun i hi => ?_⟩⟩, ⟨hn1, hz, Or.inr ⟨h, 0, rfl, hS.l3, fun i hi => ⟨?_, ?_⟩⟩⟩, hS.b⟩
        · rw [Nat.zero_add, hS.tc i hi, if_pos hi]
        · rw [Nat.zero_add, hS.vk i hi, if_pos hi]
        · rw [Nat.zero_add, hS.vx i hi, if_pos hi]
end Go.Proofs.YtpicgjjbpiinfaaDoor

namespace Go.Proofs.YtpicgjjbpiinfaaDoor
open Go.RowKit
set_option linter.unusedVariables false
set_option linter.unusedSimpArgs false
/-- bytes more, their length ahead. -/
def rawOn (l : List Nat) (s : List Nat × Nat) : List Nat × Nat := (s.1 ++ uB l.length ++ l, 0)
theorem bytesL_nats (l : List Nat) : bytesL (natsOf l) l.length = l := by
  apply List.ext_getElem?
  intro i
  unfold bytesL natsOf
  rw [List.getElem?_map]
  by_cases h : i < l.length
  · rw [List.getElem?_range h]; simp [List.getD_eq_getElem?_getD, h]
  · rw [List.getElem?_eq_none (by simp; omega), List.getElem?_eq_none (by omega)]; rfl
theorem rawOn_CL {l : List Nat} {s : List Nat × Nat} (hl : ∀ y ∈ l, y < 256) (hn : l.length < 18446744073709551616) (h : CL s.1 s.2) : CL (rawOn l s).1 (rawOn l s).2 := by
  have h1 := uOn_CL hn h
  refine ⟨by simp [rawOn], fun y hy => ?_, fun h => absurd rfl h⟩
  rcases List.mem_append.1 hy with h2 | h2
  · exact h1.2.1 y h2
  · exact hl y h2
theorem in_lt {w : World} {a : Option Addr} {l : List Nat} (h : BytesIn w a l.length (natsOf l)) : ∀ y ∈ l, y < 256 := by
  rcases h.2 with h0 | ⟨b, off, e, hb, hB⟩
  · intro y hy
    rw [List.eq_nil_of_length_eq_zero h0] at hy
    cases hy
  · have := bytesL_lt (bs := natsOf l) (m := l.length) fun i hi => (hB i hi).2
    rw [bytesL_nats] at this
    exact this
theorem raw_in {N : Nat} {w1 w : World} {fr : Int} {v : Value} {n : Nat} {xs : List Value} (h : WS N w1 fr v n xs w) (hN : N = w1.heap.size) {a : Option Addr} {m : Nat} {f : Nat → Nat} (hin : BytesIn w1 a m f) :
    m = 0 ∨ ∃ b off, a = some ⟨b, off, none⟩ ∧ b < w.heap.size ∧ b ≠ N ∧ some b ≠ v.ownBlock ∧ BytesAt w b off m f := by
  rcases hin.2 with h0 | ⟨b, off, e, hb', hB⟩
  · exact Or.inl h0
  · refine Or.inr ⟨b, off, e, by have := h.sz; omega, by omega, ?_, fun i hi => ⟨by rw [h.b.cell (p := ⟨b, off + i, none⟩) (by show b < N; omega)]; exact (hB i hi).1, (hB i hi).2⟩⟩
    intro e'
    have := (h.own.lt b e'.symm).1
    omega
theorem rw_raw {N : Nat} {w1 w : World} {s : List Nat × Nat} (h : RW N w1 s w) (hN : N = w1.heap.size) (l : List Nat) (a : Option Addr) (c : Nat) (hin : BytesIn w1 a l.length (natsOf l)) (hb : s.1.length + l.length + 100 ≤ 140737488355328) : Calls Tryd.prog 22 #[.pointer (some ⟨N, 0, none⟩), .slice a l.length c] w fun e w' => e = .returned undef ∧ RW N w1 (rawOn l s) w' := by
  obtain ⟨h1, v, h2⟩ := h
  refine (wraw_fr N w1 _ v _ s.1 w h2 a l.length c (natsOf l) (raw_in h2 hN hin) (by omega)).mono ?_
  rintro e w' ⟨rfl, v', n', hW, _, _⟩
  rw [enc_append, bytesL_nats, enc_append] at hW
  have hn := hW.len
  subst hn
  exact ⟨rfl, rawOn_CL (in_lt hin) (by omega) h1, v', (show WS N w1 (((8 - 0) % 8 : Nat) : Int) v' _ _ w' from hW)⟩
theorem dw_raw {N : Nat} {w1 w : World} {s : List Nat × Nat} (h : DW N w1 s w) (hN : N = w1.heap.size) (l : List Nat) (a : Option Addr) (c : Nat) (hin : BytesIn w1 a l.length (natsOf l)) (hb : s.1.length + l.length + 100 ≤ 140737488355328) : Calls Tryd.prog 42 #[.pointer (some ⟨N, 0, none⟩), .slice a l.length c] w fun e w' => e = .returned undef ∧ DW N w1 (rawOn l s) w' := by
  obtain ⟨h1, v, h2⟩ := h
  refine (rraw_fr N w1 _ v _ _ w h2 a l.length c (natsOf l) (raw_in h2 hN hin) (by omega)).mono ?_
  rintro e w' ⟨rfl, v', n', hW, _, _⟩
  rw [enc_append, bytesL_nats, enc_append] at hW
  have hn := hW.len
  subst hn
  exact ⟨rfl, rawOn_CL (in_lt hin) (by omega) h1, v', hW⟩
def packS (tt : Nat → Int) (kk : Nat → Nat) (xx : Nat → Int) (n : Nat) : List Nat × Nat := rawOn (valsS kk xx n n).s.1 (rawOn (timesS tt n n).1 ([], 0))
def PackE (tt : Nat → Int) (kk : Nat → Nat) (xx : Nat → Int) (n : Nat) (err : Int → Value) (ok : Value) (e : Ending) (w' : World) : Prop :=
  (¬ (Rises tt n ∧ AllV kk xx n) ∧ e = .returned (.tuple #[.slice none 0 0, err 2])) ∨
  ((Rises tt n ∧ AllV kk xx n) ∧ ∃ a c, e = .returned (.tuple #[.slice a (packS tt kk xx n).1.length c, ok]) ∧ BytesIn w' a (packS tt kk xx n).1.length (natsOf (packS tt kk xx n).1))
set_option maxRecDepth 100000 in
set_option maxHeartbeats 4000000 in
theorem pack_any (a : Option Addr) (n cap : Nat) (tt : Nat → Int) (kk : Nat → Nat) (xx : Nat → Int) (w : World) (h : SIn w a n tt kk xx) (hs : n ≤ 1048576) (hct : CT w) (hg : 1 < w.heap.size) : Calls Tryd.prog 8 #[.slice a n cap] w fun e w' => PackE tt kk xx n (fun c => .iface 39 (.int .i64 c)) .nilIface e w' ∧ Below w.heap.size w w' := by
  have hSp : Hid _ := split_any a n cap tt kk xx w h hs
  have hctH : Hid (CT w) := hct
  clear h hct
  go_enter Tryd.func8, Tryd.ntmps8
  go_wp2_with fail
  refine Calls.mono hSp.out ?_
  rintro e w2 ⟨g, h, rfl, hI, hV, hB2⟩
  have hT : Hid _ := times_any (some ⟨g, 0, none⟩) n n tt w2 hI (CT_below hctH.out hB2 hg) (by have := hB2.size; omega)
  have hVH : Hid (VIn w2 (some ⟨h, 0, none⟩) n kk xx) := hV
  clear hSp hI hV
  go_wp2_with fail
  refine Calls.mono hT.out ?_
  rintro e w3 ⟨hE, hB3⟩
  have hB03 := below_then hB2 hB3
  have hVa : Hid _ := values_any (some ⟨h, 0, none⟩) n n kk xx w3 (hVH.out.below hB3 (Nat.le_refl _))
  clear hT hVH
  rcases hE with ⟨hx, _⟩ | ⟨_, hnr, rfl⟩ | ⟨_, hnr, ta, tc, rfl, hin3⟩
  · omega
  · have hnrH : Hid (¬ Rises tt n) := hnr
    clear hnr hVa hB3 hB2
    go_wp2_with fail
    simp [bodyPost, results, Tryd.results8, go_sem]
    exact ⟨Or.inl ⟨fun hx => hnrH.out hx.1, rfl⟩, hB03⟩
  · have hnrH : Hid (Rises tt n) := hnr
    have hl1 := timesS_len tt n n
    obtain ⟨sl, hsl⟩ : ∃ sl, sl = (timesS tt n n).1 := ⟨_, rfl⟩
    rw [← hsl] at hin3 hl1 ⊢
    have hslH : Hid (sl = (timesS tt n n).1) := hsl
    have hin3H : Hid (BytesIn w3 ta sl.length (natsOf sl)) := hin3
    clear hnr hin3 hsl hB2
    go_wp2_with fail
    refine Calls.mono hVa.out ?_
    rintro e w4 ⟨hE, hB4⟩
    have hB04 := below_then hB03 hB4
    clear hVa
    rcases hE with ⟨hx, _⟩ | ⟨_, hnv, rfl⟩ | ⟨_, hnv, va, vc, rfl, hin4⟩
    · omega
    · have hnvH : Hid (¬ AllV kk xx n) := hnv
      clear hnv hB3 hB4 hB03
      go_wp2_with fail
      simp [bodyPost, results, Tryd.results8, go_sem]
      exact ⟨Or.inl ⟨fun hx => hnvH.out hx.2, rfl⟩, hB04⟩
    · have hnvH : Hid (AllV kk xx n) := hnv
      have hl2 := valsS_len kk xx n n
      obtain ⟨vl, hvl⟩ : ∃ vl, vl = (valsS kk xx n n).s.1 := ⟨_, rfl⟩
      rw [← hvl] at hin4 hl2 ⊢
      have hP : Hid (packS tt kk xx n = rawOn vl (rawOn sl ([], 0))) := (by rw [hvl, hslH.out]; rfl : packS tt kk xx n = rawOn vl (rawOn sl ([], 0)))
      have hul := uB_len sl.length
      have hR1 : Hid _ := rw_raw (RW.start w4) rfl sl ta tc (hin3H.out.below hB4) (by simp; omega)
      have hR2 : Hid (∀ wx, RW w4.heap.size w4 (rawOn sl ([], 0)) wx → Calls Tryd.prog 22 #[.pointer (some ⟨w4.heap.size, 0, none⟩), .slice va vl.length vc] wx fun e w' => e = .returned undef ∧ RW w4.heap.size w4 (rawOn vl (rawOn sl ([], 0))) w') := fun wx hx => rw_raw hx rfl vl va vc hin4 (by simp [rawOn]; omega)
      have hlen : Hid ((rawOn vl (rawOn sl ([], 0))).1.length ≤ 140737488355327) := (by have hu1 := uB_len sl.length; have hu2 := uB_len vl.length; simp [rawOn]; omega : (rawOn vl (rawOn sl ([], 0))).1.length ≤ 140737488355327)
      clear hnv hB3 hB4 hB03 hin4 hvl hul hl1 hl2 hslH hin3H
      go_wp2_with fail
      refine Calls.mono hR1.out ?_
      rintro e w5 ⟨rfl, h5⟩
      have hR3 : Hid _ := hR2.out _ h5
      clear hR1 hR2 h5
      go_wp2_with fail
      refine Calls.mono hR3.out ?_
      rintro e w6 ⟨rfl, h6⟩
      have hb6 := h6.b
      obtain ⟨hCL, v, hWS⟩ := h6
      obtain ⟨S, hS⟩ : ∃ S, S = (rawOn vl (rawOn sl ([], 0))).1 := ⟨_, rfl⟩
      have hlen' := hlen.out
      have hBy : Hid _ := bytesB w4.heap.size w4 _ v S w6 (by rw [hS]; exact hWS) (by rw [hS]; exact hCL.2.1) (by rw [hS]; exact hlen')
      have hSH : Hid (S = (packS tt kk xx n).1) := (by rw [hS, hP.out] : S = (packS tt kk xx n).1)
      have hB06 : Below w.heap.size w w6 := below_then hB04 hb6
      clear hR3 hCL hWS hS hP hlen hlen' hb6
      go_wp2_with fail
      refine Calls.mono hBy.out ?_
      rintro e w7 ⟨ga, gc, rfl, hin, hB7⟩
      have hinH : Hid _ := hin
      clear hin hBy
      go_wp2_with fail
      simp [bodyPost, results, Tryd.results8, go_sem]
      refine ⟨Or.inr ⟨⟨hnrH.out, hnvH.out⟩, ga, gc, ?_, ?_⟩, below_then hB06 hB7⟩
      · rw [hSH.out]
      · rw [← hSH.out]; exact hinH.out
end Go.Proofs.YtpicgjjbpiinfaaDoor

namespace Go.Proofs.YtpicgjjbpiinfaaDoor
open Go.RowKit
set_option linter.unusedVariables false
set_option linter.unusedSimpArgs false
theorem app1I (W : World) (base : Nat) (v : Value) (m : Nat) (xs : List Value) (own : W.ownsRow base 2 1 v m xs) (hbase : base ≤ W.heap.size) (x : Int) (hbig : m + 1 ≤ 10000000) :
    ∃ g c w', (Builtin.append_ #[55, 55] 55 #[v, .slice (some ⟨W.heap.size, 0, none⟩) 1 1]).run Tryd.prog (W.alloc (.cells #[.int .i64 x] 2)) = .ok (.slice (some ⟨g, 0, none⟩) (m + 1) c) w' ∧ w'.ownsRow base 2 1 (.slice (some ⟨g, 0, none⟩) (m + 1) c) (m + 1) (xs ++ [.int .i64 x]) ∧ (W.alloc (.cells #[.int .i64 x] 2)).grownBy w' v.ownBlock ∧ (some g = v.ownBlock ∨ W.heap.size ≤ g) ∧ Below base W w' := by
  obtain ⟨i, i1, i0⟩ := Option.map_eq_some_iff.1 i64_info
  have i2 : i.zero = some (.int .i64 0) := congrArg (·.1) i0
  have i3 : i.bytes = 8 := congrArg (·.2.1) i0
  have i4 : i.size = 1 := congrArg (·.2.2) i0
  have hB0 := below_new (Below.refl _ W) (.cells #[.int .i64 x] 2)
  have own' := own.alloc (.cells #[.int .i64 x] 2)
  have hbase' : base ≤ (W.alloc (.cells #[.int .i64 x] 2)).heap.size := by simp; omega
  obtain ⟨v', w', hr, ho', hg, hnil, hwh⟩ := run_append_own_at (P := Tryd.prog) (W.alloc (.cells #[.int .i64 x] 2)) base 55 55 2 i (.int .i64 0) 1 8 Tryd.underlying55 i1 i2 i4 i3 rfl (by omega) _ m xs own' ⟨W.heap.size, 0, none⟩ 1 1 [.int .i64 x] rfl (fun j u hu => by
    cases j with
    | zero => simp at hu; subst hu; rw [add_none2]; simp [go_sem]
    | succ j => simp at hu) (by intro u hu; simp at hu; subst hu; rfl) (by simp [maxLen]; omega) (by omega) hbase'
  have hB2 : Below base (W.alloc (.cells #[.int .i64 x] 2)) w' := (Below.refl _ _).grown hg hbase' (fun k e => (own'.lt k e).1)
  rcases ho'.2 with ⟨hq, _⟩ | ⟨g, c, cur, hq, hbg, hgr, _⟩
  · have := hnil.1 hq; simp at this
  · subst hq
    refine ⟨g, c, w', hr, ho', hg, ?_, (hB0.mono hbase).trans hB2⟩
    rcases hwh with h | h
    · exact Or.inl h
    · right
      have h' : some g = some (W.alloc (.cells #[.int .i64 x] 2)).heap.size := h
      injection h' with h'
      rw [h']; simp
theorem app1V (W : World) (base : Nat) (v : Value) (m : Nat) (xs : List Value) (own : W.ownsRow base 26 2 v m xs) (hbase : base ≤ W.heap.size) (y x : Int) (hbig : m + 1 ≤ 10000000) :
    ∃ g c w', (Builtin.append_ #[36, 36] 36 #[v, .slice (some ⟨W.heap.size, 0, none⟩) 1 1]).run Tryd.prog (W.alloc (.cells #[.int .u8 y, .int .i64 x] 26)) = .ok (.slice (some ⟨g, 0, none⟩) (m + 1) c) w' ∧ w'.ownsRow base 26 2 (.slice (some ⟨g, 0, none⟩) (m + 1) c) (m + 1) (xs ++ [.int .u8 y, .int .i64 x]) ∧ (W.alloc (.cells #[.int .u8 y, .int .i64 x] 26)).grownBy w' v.ownBlock ∧ (some g = v.ownBlock ∨ W.heap.size ≤ g) ∧ Below base W w' := by
  obtain ⟨i, i1, i0⟩ := Option.map_eq_some_iff.1 val_info
  have i2 : i.zero = some (.agg #[.int .u8 0, .int .i64 0]) := congrArg (·.1) i0
  have i3 : i.bytes = 16 := congrArg (·.2.1) i0
  have i4 : i.size = 2 := congrArg (·.2.2) i0
  have hB0 := below_new (Below.refl _ W) (.cells #[.int .u8 y, .int .i64 x] 26)
  have own' := own.alloc (.cells #[.int .u8 y, .int .i64 x] 26)
  have hbase' : base ≤ (W.alloc (.cells #[.int .u8 y, .int .i64 x] 26)).heap.size := by simp; omega
  obtain ⟨v', w', hr, ho', hg, hnil, hwh⟩ := run_append_own_at (P := Tryd.prog) (W.alloc (.cells #[.int .u8 y, .int .i64 x] 26)) base 36 36 26 i (.agg #[.int .u8 0, .int .i64 0]) 2 16 Tryd.underlying36 i1 i2 i4 i3 rfl (by omega) _ m xs own' ⟨W.heap.size, 0, none⟩ 1 1 [.int .u8 y, .int .i64 x] rfl (fun j u hu => by
    cases j with
    | zero => simp at hu; subst hu; rw [add_none2]; simp [go_sem]
    | succ j =>
      cases j with
      | zero => simp at hu; subst hu; rw [add_none2]; simp [go_sem]
      | succ j => simp at hu) (by intro u hu; simp at hu; rcases hu with rfl | rfl <;> rfl) (by simp [maxLen]; omega) (by omega) hbase'
  have hB2 : Below base (W.alloc (.cells #[.int .u8 y, .int .i64 x] 26)) w' := (Below.refl _ _).grown hg hbase' (fun k e => (own'.lt k e).1)
  rcases ho'.2 with ⟨hq, _⟩ | ⟨g, c, cur, hq, hbg, hgr, _⟩
  · have := hnil.1 hq; simp at this
  · subst hq
    refine ⟨g, c, w', hr, ho', hg, ?_, (hB0.mono hbase).trans hB2⟩
    rcases hwh with h | h
    · exact Or.inl h
    · right
      have h' : some g = some (W.alloc (.cells #[.int .u8 y, .int .i64 x] 26)).heap.size := h
      injection h' with h'
      rw [h']; simp
theorem encI_succ (z : Nat → Int) (n : Nat) : encI z (n + 1) = encI z n ++ [.int .i64 (z n)] := by simp [encI, List.range_succ]
theorem encV_succ (kk : Nat → Nat) (xx : Nat → Int) (n : Nat) : encV kk xx (n + 1) = encV kk xx n ++ [.int .u8 (kk n : Int), .int .i64 (xx n)] := by
  unfold encV
  rw [show (n + 1) * 2 = n * 2 + 1 + 1 by omega, List.range_succ, List.range_succ]
  simp only [List.map_append, List.map_cons, List.map_nil, List.append_assoc, List.cons_append, List.nil_append]
  congr 1
  unfold valC
  rw [if_pos (by omega), if_neg (by omega), show n * 2 / 2 = n by omega, show (n * 2 + 1) / 2 = n by omega]
theorem own_IsIn {W : World} {base n : Nat} {v : Value} {tt : Nat → Int} (h : W.ownsRow base 2 1 v n (encI tt n)) (hn : n ≤ 1048576) (hz : ∀ i, -9223372036854775808 ≤ tt i ∧ tt i ≤ 9223372036854775807) : ∃ a c, v = .slice a n c ∧ IsIn W a n tt := by
  rcases h.2 with ⟨e, e0⟩ | ⟨g, cap, cur, e1, _⟩
  · exact ⟨none, 0, by rw [e, e0], by omega, hz, Or.inl e0⟩
  · subst e1
    have hcs := h.cells (g := g) rfl
    refine ⟨some ⟨g, 0, none⟩, cap, rfl, by omega, hz, Or.inr ⟨g, 0, rfl, (h.lt g rfl).2, fun i hi => ?_⟩⟩
    have := hcs i _ (encI_get tt n i hi)
    rw [add_none2] at this; exact this
theorem own_VIn {W : World} {base n : Nat} {v : Value} {kk : Nat → Nat} {xx : Nat → Int} (h : W.ownsRow base 26 2 v n (encV kk xx n)) (hn : n ≤ 1048576) (hz : ∀ i, kk i < 256 ∧ -9223372036854775808 ≤ xx i ∧ xx i ≤ 9223372036854775807) : ∃ a c, v = .slice a n c ∧ VIn W a n kk xx := by
  rcases h.2 with ⟨e, e0⟩ | ⟨g, cap, cur, e1, _⟩
  · exact ⟨none, 0, by rw [e, e0], by omega, hz, Or.inl e0⟩
  · subst e1
    have hcs := h.cells (g := g) rfl
    refine ⟨some ⟨g, 0, none⟩, cap, rfl, by omega, hz, Or.inr ⟨g, 0, rfl, (h.lt g rfl).2, fun i hi => ⟨?_, ?_⟩⟩⟩
    · have := hcs (i * 2) _ (encV_get kk xx n (i * 2) (by omega))
      rw [add_none2, Nat.zero_add] at this
      rw [Nat.zero_add, this]; unfold valC; rw [if_pos (by omega), show i * 2 / 2 = i by omega]
    · have := hcs (i * 2 + 1) _ (encV_get kk xx n (i * 2 + 1) (by omega))
      rw [add_none2, Nat.zero_add] at this
      rw [Nat.zero_add, this]; unfold valC; rw [if_neg (by omega), show (i * 2 + 1) / 2 = i by omega]
/-- what stands while the document takes samples apart. -/
structure DP (w0 : World) (tt : Nat → Int) (kk : Nat → Nat) (xx : Nat → Int) (k : Nat) (t v : Value) (wr : World) : Prop where
  ot : wr.ownsRow w0.heap.size 2 1 t k (encI tt k)
  ov : wr.ownsRow w0.heap.size 26 2 v k (encV kk xx k)
  ne : ∀ b, t.ownBlock = some b → v.ownBlock ≠ some b
  b : Below w0.heap.size w0 wr
theorem DP.start (w0 : World) (tt : Nat → Int) (kk : Nat → Nat) (xx : Nat → Int) : DP w0 tt kk xx 0 (.slice none 0 0) (.slice none 0 0) w0 :=
  ⟨World.ownsRow_nil _ _ _ _, World.ownsRow_nil _ _ _ _, (fun b h => by cases h), Below.refl _ _⟩
theorem DP.step {w0 : World} {tt : Nat → Int} {kk : Nat → Nat} {xx : Nat → Int} {k : Nat} {t v : Value} {wr : World} (h : DP w0 tt kk xx k t v wr) (hk : k + 1 ≤ 1048576) : ∃ g1 c1 w1 g2 c2 w2,
    (Builtin.append_ #[55, 55] 55 #[t, .slice (some ⟨wr.heap.size, 0, none⟩) 1 1]).run Tryd.prog (wr.alloc (.cells #[.int .i64 (tt k)] 2)) = .ok (.slice (some ⟨g1, 0, none⟩) (k + 1) c1) w1 ∧ Below w0.heap.size w0 w1 ∧
    (Builtin.append_ #[36, 36] 36 #[v, .slice (some ⟨w1.heap.size, 0, none⟩) 1 1]).run Tryd.prog (w1.alloc (.cells #[.int .u8 (kk k : Int), .int .i64 (xx k)] 26)) = .ok (.slice (some ⟨g2, 0, none⟩) (k + 1) c2) w2 ∧
    DP w0 tt kk xx (k + 1) (.slice (some ⟨g1, 0, none⟩) (k + 1) c1) (.slice (some ⟨g2, 0, none⟩) (k + 1) c2) w2 := by
  have hs0 := h.b.size
  obtain ⟨g1, c1, w1, r1, o1, gr1, p1, b1⟩ := app1I wr w0.heap.size t k _ h.ot hs0 (tt k) (by omega)
  have ov1 := (h.ov.alloc (.cells #[.int .i64 (tt k)] 2)).kept gr1 (by
    cases hv : v.ownBlock with
    | none => exact Or.inl rfl
    | some b => right; intro e; exact h.ne b e.symm hv)
  have hs1 := b1.size
  obtain ⟨g2, c2, w2, r2, o2, gr2, p2, b2⟩ := app1V w1 w0.heap.size v k _ ov1 (by omega) (kk k : Int) (xx k) (by omega)
  have hg1 := (o1.lt g1 rfl).2
  have hvlt : ∀ b, v.ownBlock = some b → b < wr.heap.size := fun b e => (h.ov.lt b e).2
  have hne1 : ∀ b, v.ownBlock = some b → b ≠ g1 := fun b e e' => by
    subst e'
    rcases p1 with p | p
    · exact h.ne b p.symm e
    · have := hvlt b e; omega
  have ot2 := (o1.alloc (.cells #[.int .u8 (kk k : Int), .int .i64 (xx k)] 26)).kept gr2 (by
    right; intro e; exact hne1 g1 e.symm rfl)
  refine ⟨g1, c1, w1, g2, c2, w2, r1, h.b.trans b1, r2, ⟨by rw [encI_succ]; exact ot2, by rw [encV_succ]; exact o2, fun b e e' => ?_, (h.b.trans b1).trans b2⟩⟩
  have e1 : g1 = b := by injection e
  have e2 : g2 = b := by injection e'
  subst e1
  rcases p2 with p | p
  · exact hne1 g2 p.symm e2
  · omega
end Go.Proofs.YtpicgjjbpiinfaaDoor

namespace Go.Proofs.YtpicgjjbpiinfaaDoor
open Go.RowKit
set_option linter.unusedVariables false
set_option linter.unusedSimpArgs false
theorem cl_nil : CL ([] : List Nat) 0 := ⟨by omega, by simp, by simp⟩
theorem nbits_whole (l : List Nat) : nbits (l, 0) = 8 * l.length := by simp [nbits]
theorem nbits_len {s : List Nat × Nat} (h : CL s.1 s.2) : 8 * s.1.length ≤ nbits s + 7 ∧ nbits s ≤ 8 * s.1.length := by
  obtain ⟨l, b⟩ := s
  refine ⟨?_, nbits_le l b⟩
  unfold nbits
  simp only at h ⊢
  have := h.1
  omega
theorem bitsOn_n (x c : Nat) {s : List Nat × Nat} (h : CL s.1 s.2) : CL (bitsOn x c s).1 (bitsOn x c s).2 ∧ nbits (bitsOn x c s) = nbits s + c :=
  ⟨(bitsOn_bt x c s.1 s.2 h).1, (bitsOn_bt x c s.1 s.2 h).2.1⟩
theorem uB_small (x : Nat) (h : x < 16384) : (uB x).length ≤ 2 := by
  unfold uB uBf
  split
  · simp
  · rw [List.length_cons]
    unfold uBf
    rw [if_pos (by omega)]
    simp
/-- what the law hands over: times of one step, one value. -/
def ltT (f s : Int) (i : Nat) : Int := if i < 1000 then f + (i : Int) * s else 0
theorem stepZ_lt (f s : Int) (h1 : 1 ≤ s) (h2 : s ≤ 1125899906842624) (k : Nat) (hk : 0 < k) (hk' : k < 1000) : stepZ (ltT f s) k = s.toNat := by
  obtain ⟨j, rfl⟩ : ∃ j, k = j + 1 := ⟨k - 1, by omega⟩
  unfold stepZ ltT
  rw [Nat.add_sub_cancel, if_pos hk', if_pos (by omega), show f + ((j + 1 : Nat) : Int) * s - (f + (j : Int) * s) = s by rw [Int.natCast_add, Int.add_mul]; omega]
  omega
theorem timesS_lt (f s : Int) (hf : -4611686018427387904 ≤ f ∧ f ≤ 4611686018427387904) (h1 : 1 ≤ s) (h2 : s ≤ 1125899906842624) (n : Nat) (hn : n < 16384) : ∀ k, k + 2 ≤ 1000 → CL (timesS (ltT f s) n (k + 2)).1 (timesS (ltT f s) n (k + 2)).2 ∧ nbits (timesS (ltT f s) n (k + 2)) = 8 * ((uB n).length + (uB (foldZ (ltT f s 0))).length + (uB s.toNat).length) + k := by
  intro k
  induction k with
  | zero =>
    intro _
    have e : timesS (ltT f s) n 2 = (uB n ++ uB (foldZ (ltT f s 0)) ++ uB s.toNat, 0) := by
      simp [timesS, timeOn, uOn, stepZ_lt f s h1 h2 1 (by omega) (by omega)]
    rw [Nat.zero_add, e, nbits_whole]
    refine ⟨?_, by simp [Nat.add_assoc]⟩
    have hc := uOn_CL (x := s.toNat) (s := uOn (foldZ (ltT f s 0)) (uOn n ([], 0))) (by omega) (uOn_CL (by have e0 : ltT f s 0 = f := (by simp [ltT]); rw [e0]; unfold foldZ; split <;> omega) (uOn_CL (by omega) cl_nil))
    simpa [uOn] using hc
  | succ k ih0 =>
    intro hk
    have ih := ih0 (by omega)
    have e : timesS (ltT f s) n (k + 1 + 2) = bitsOn 0 0 (bitsOn 0 1 (timesS (ltT f s) n (k + 2))) := by
      show timeOn (ltT f s) (k + 2) (timesS (ltT f s) n (k + 2)) = _
      unfold timeOn
      rw [if_neg (by omega), if_neg (by omega), stepZ_lt f s h1 h2 (k + 2) (by omega) (by omega), show k + 2 - 1 = k + 1 by omega, stepZ_lt f s h1 h2 (k + 1) (by omega) (by omega), Int.sub_self, show wrap64 0 = 0 by simp [wrap64]]
      rfl
    rw [e]
    obtain ⟨c1, b1⟩ := bitsOn_n 0 1 ih.1
    obtain ⟨c2, b2⟩ := bitsOn_n 0 0 c1
    exact ⟨c2, by rw [b2, b1, ih.2]; omega⟩
theorem valsS_lt (v : Int) (n : Nat) (hn : n < 16384) : ∀ k, (valsS (fun _ => 0) (fun _ => v) n (k + 1)).ak = 0 ∧ (valsS (fun _ => 0) (fun _ => v) n (k + 1)).ax = v ∧ CL (valsS (fun _ => 0) (fun _ => v) n (k + 1)).s.1 (valsS (fun _ => 0) (fun _ => v) n (k + 1)).s.2 ∧ 8 * (uB n).length + k + 1 ≤ nbits (valsS (fun _ => 0) (fun _ => v) n (k + 1)).s ∧ nbits (valsS (fun _ => 0) (fun _ => v) n (k + 1)).s ≤ 8 * (uB n).length + k + 72 := by
  have h0 : CL (uOn n ([], 0)).1 (uOn n ([], 0)).2 := uOn_CL (by omega) cl_nil
  have hb0 : nbits (uOn n ([], 0)) = 8 * (uB n).length := by simp [uOn, nbits_whole]
  intro k
  induction k with
  | zero =>
    by_cases hv : v = 0
    · have e : valsS (fun _ => 0) (fun _ => v) n (0 + 1) = ⟨bitsOn 0 1 (uOn n ([], 0)), 0, v, 0⟩ := by
        simp only [valsS, valStep]; rw [if_pos ⟨by first | trivial | rfl, hv⟩]
      rw [e]
      obtain ⟨c1, b1⟩ := bitsOn_n 0 1 h0
      exact ⟨rfl, rfl, c1, by simp only; omega, by simp only; omega⟩
    · have e : valsS (fun _ => 0) (fun _ => v) n (0 + 1) = ⟨stepOn (wrap64 (v - 0)) (bitsOn 2 2 (uOn n ([], 0))), 0, v, v⟩ := by
        simp only [valsS, valStep]; rw [if_neg (fun h => hv h.2), if_pos trivial]
      rw [e]
      obtain ⟨c1, b1⟩ := bitsOn_n 2 2 h0
      obtain ⟨c2, b2⟩ := bitsOn_n (sizeN (foldZ (wrap64 (v - 0))) - 1) 6 c1
      obtain ⟨c3, b3⟩ := bitsOn_n (foldZ (wrap64 (v - 0))) (sizeN (foldZ (wrap64 (v - 0)))) c2
      have hs := sizeN_le (foldZ (wrap64 (v - 0)))
      refine ⟨rfl, rfl, c3, ?_, ?_⟩
      · show _ ≤ nbits (bitsOn _ _ _); omega
      · show nbits (bitsOn _ _ _) ≤ _; omega
  | succ k ih =>
    obtain ⟨e1, e2, c, b1, b2⟩ := ih
    have e : valsS (fun _ => 0) (fun _ => v) n (k + 1 + 1) = ⟨bitsOn 0 1 (valsS (fun _ => 0) (fun _ => v) n (k + 1)).s, 0, v, (valsS (fun _ => 0) (fun _ => v) n (k + 1)).la⟩ := by
      show valStep 0 v (valsS (fun _ => 0) (fun _ => v) n (k + 1)) = _
      unfold valStep
      rw [if_pos ⟨e1.symm, e2.symm⟩]
    rw [e]
    obtain ⟨c1, d1⟩ := bitsOn_n 0 1 c
    exact ⟨rfl, rfl, c1, by simp only; omega, by simp only; omega⟩
theorem pack_lt (f s v : Int) (hf : -4611686018427387904 ≤ f ∧ f ≤ 4611686018427387904) (h1 : 1 ≤ s) (h2 : s ≤ 1125899906842624) : 200 < (packS (ltT f s) (fun _ => 0) (fun _ => v) 1000).1.length ∧ (packS (ltT f s) (fun _ => 0) (fun _ => v) 1000).1.length ≤ 300 := by
  have hT := timesS_lt f s hf h1 h2 1000 (by omega) 998 (by omega)
  have hV := valsS_lt v 1000 (by omega) 999
  rw [show 998 + 2 = 1000 from rfl] at hT
  rw [show 999 + 1 = 1000 from rfl] at hV
  obtain ⟨c1, b1⟩ := hT
  obtain ⟨_, _, c2, b2, b3⟩ := hV
  have l1 := nbits_len c1
  have l2 := nbits_len c2
  have u0 : (uB 1000).length = 2 := by decide +kernel
  have u1 := uB_len (foldZ (ltT f s 0))
  have u2 := uB_len s.toNat
  have u3 := uB_small (timesS (ltT f s) 1000 1000).1.length (by omega)
  have u4 := uB_small (valsS (fun _ => 0) (fun _ => v) 1000 1000).s.1.length (by omega)
  simp only [packS, rawOn, List.length_append, List.length_nil]
  omega
end Go.Proofs.YtpicgjjbpiinfaaDoor

namespace Go.Proofs.YtpicgjjbpiinfaaDoor
open Go.RowKit
set_option linter.unusedVariables false
set_option linter.unusedSimpArgs false
theorem app1S (W : World) (base : Nat) (v : Value) (m : Nat) (xs : List Value) (own : W.ownsRow base 28 3 v m xs) (hbase : base ≤ W.heap.size) (t y x : Int) (hbig : m + 1 ≤ 10000000) :
    ∃ g c w', (Builtin.append_ #[23, 23] 23 #[v, .slice (some ⟨W.heap.size, 0, none⟩) 1 1]).run Tryd.prog (W.alloc (.cells #[.int .i64 t, .int .u8 y, .int .i64 x] 28)) = .ok (.slice (some ⟨g, 0, none⟩) (m + 1) c) w' ∧ w'.ownsRow base 28 3 (.slice (some ⟨g, 0, none⟩) (m + 1) c) (m + 1) (xs ++ [.int .i64 t, .int .u8 y, .int .i64 x]) ∧ Below base W w' := by
  obtain ⟨i, i1, i0⟩ := Option.map_eq_some_iff.1 smp_info
  have i2 : i.zero = some (.agg #[.int .i64 0, .int .u8 0, .int .i64 0]) := congrArg (·.1) i0
  have i3 : i.bytes = 24 := congrArg (·.2.1) i0
  have i4 : i.size = 3 := congrArg (·.2.2) i0
  have hB0 := below_new (Below.refl _ W) (.cells #[.int .i64 t, .int .u8 y, .int .i64 x] 28)
  have own' := own.alloc (.cells #[.int .i64 t, .int .u8 y, .int .i64 x] 28)
  have hbase' : base ≤ (W.alloc (.cells #[.int .i64 t, .int .u8 y, .int .i64 x] 28)).heap.size := by simp; omega
  obtain ⟨v', w', hr, ho', hg, hnil, hwh⟩ := run_append_own_at (P := Tryd.prog) (W.alloc (.cells #[.int .i64 t, .int .u8 y, .int .i64 x] 28)) base 23 23 28 i (.agg #[.int .i64 0, .int .u8 0, .int .i64 0]) 3 24 Tryd.underlying23 i1 i2 i4 i3 rfl (by omega) _ m xs own' ⟨W.heap.size, 0, none⟩ 1 1 [.int .i64 t, .int .u8 y, .int .i64 x] rfl (fun j u hu => by
    rcases j with _ | _ | _ | j
    · simp at hu; subst hu; rw [add_none2]; simp [go_sem]
    · simp at hu; subst hu; rw [add_none2]; simp [go_sem]
    · simp at hu; subst hu; rw [add_none2]; simp [go_sem]
    · simp at hu) (by intro u hu; simp at hu; rcases hu with rfl | rfl | rfl <;> rfl) (by simp [maxLen]; omega) (by omega) hbase'
  have hB2 : Below base (W.alloc (.cells #[.int .i64 t, .int .u8 y, .int .i64 x] 28)) w' := (Below.refl _ _).grown hg hbase' (fun k e => (own'.lt k e).1)
  rcases ho'.2 with ⟨hq, _⟩ | ⟨g, c, cur, hq, hbg, hgr, _⟩
  · have := hnil.1 hq; simp at this
  · subst hq
    exact ⟨g, c, w', hr, ho', (hB0.mono hbase).trans hB2⟩
theorem encS_succ (tt : Nat → Int) (kk : Nat → Nat) (xx : Nat → Int) (n : Nat) : encS tt kk xx (n + 1) = encS tt kk xx n ++ [.int .i64 (tt n), .int .u8 (kk n : Int), .int .i64 (xx n)] := by
  unfold encS
  rw [show (n + 1) * 3 = n * 3 + 1 + 1 + 1 by omega, List.range_succ, List.range_succ, List.range_succ]
  simp only [List.map_append, List.map_cons, List.map_nil, List.append_assoc, List.cons_append, List.nil_append]
  congr 1
  unfold smpC
  rw [if_pos (by omega), if_neg (by omega), if_pos (by omega), if_neg (by omega), if_neg (by omega), show n * 3 / 3 = n by omega, show (n * 3 + 1) / 3 = n by omega, show (n * 3 + 1 + 1) / 3 = n by omega]
theorem own_SIn {W : World} {base n : Nat} {v : Value} {tt : Nat → Int} {kk : Nat → Nat} {xx : Nat → Int} (h : W.ownsRow base 28 3 v n (encS tt kk xx n)) (hn : n ≤ 1048576) (hz : ∀ i, kk i < 256 ∧ -9223372036854775808 ≤ xx i ∧ xx i ≤ 9223372036854775807) (hz' : ∀ i, -9223372036854775808 ≤ tt i ∧ tt i ≤ 9223372036854775807) : ∃ a c, v = .slice a n c ∧ SIn W a n tt kk xx := by
  rcases h.2 with ⟨e, e0⟩ | ⟨g, cap, cur, e1, _⟩
  · exact ⟨none, 0, by rw [e, e0], by omega, hz, hz', Or.inl e0⟩
  · subst e1
    have hcs := h.cells (g := g) rfl
    refine ⟨some ⟨g, 0, none⟩, cap, rfl, by omega, hz, hz', Or.inr ⟨g, 0, rfl, (h.lt g rfl).2, fun i hi => ⟨?_, ?_, ?_⟩⟩⟩
    · have := hcs (i * 3) _ (encS_get tt kk xx n (i * 3) (by omega))
      rw [add_none2, Nat.zero_add] at this
      rw [Nat.zero_add, this]; unfold smpC; rw [if_pos (by omega), show i * 3 / 3 = i by omega]
    · have := hcs (i * 3 + 1) _ (encS_get tt kk xx n (i * 3 + 1) (by omega))
      rw [add_none2, Nat.zero_add] at this
      rw [Nat.zero_add, this]; unfold smpC; rw [if_neg (by omega), if_pos (by omega), show (i * 3 + 1) / 3 = i by omega]
    · have := hcs (i * 3 + 2) _ (encS_get tt kk xx n (i * 3 + 2) (by omega))
      rw [add_none2, Nat.zero_add] at this
      rw [Nat.zero_add, this]; unfold smpC; rw [if_neg (by omega), if_neg (by omega), show (i * 3 + 2) / 3 = i by omega]
set_option maxRecDepth 100000 in
set_option maxHeartbeats 4000000 in
theorem little_quick (f s v : Int) (w : World) (hct : CT w) (hg : 1 < w.heap.size) (hx : s < 1 ∨ (1 ≤ s ∧ 1125899906842624 < s) ∨ (1 ≤ s ∧ s ≤ 1125899906842624 ∧ 4611686018427387904 < f) ∨ (1 ≤ s ∧ s ≤ 1125899906842624 ∧ f ≤ 4611686018427387904 ∧ f < -4611686018427387904)) : Calls Tryd.prog 3 #[.int .i64 f, .int .i64 s, .int .i64 v] w fun e w' => e = .returned (.bool true) ∧ Below w.heap.size w w' := by
  have hL : Hid _ := live_block w hct hg
  clear hct
  rcases hx with h1 | ⟨h1, h2⟩ | ⟨h1, h2, h3⟩ | ⟨h1, h2, h3, h4⟩
  · go_enter Tryd.func3, Tryd.ntmps3
    go_wp2_with fail
    refine Calls.mono hL.out ?_
    rintro e w2 ⟨rfl, hB2⟩
    go_wp2_with fail
    go_ret
    exact ⟨rfl, hB2⟩
  · have k1 : ¬ s < 1 := by omega
    go_enter Tryd.func3, Tryd.ntmps3
    go_wp2_with fail
    refine Calls.mono hL.out ?_
    rintro e w2 ⟨rfl, hB2⟩
    go_wp2_with fail
    go_ret
    exact ⟨rfl, hB2⟩
  · have k1 : ¬ s < 1 := by omega
    have k2 : ¬ 1125899906842624 < s := by omega
    go_enter Tryd.func3, Tryd.ntmps3
    go_wp2_with fail
    refine Calls.mono hL.out ?_
    rintro e w2 ⟨rfl, hB2⟩
    go_wp2_with fail
    go_ret
    exact ⟨rfl, hB2⟩
  · have k1 : ¬ s < 1 := by omega
    have k2 : ¬ 1125899906842624 < s := by omega
    have k3 : ¬ 4611686018427387904 < f := by omega
    go_enter Tryd.func3, Tryd.ntmps3
    go_wp2_with fail
    refine Calls.mono hL.out ?_
    rintro e w2 ⟨rfl, hB2⟩
    go_wp2_with fail
    go_ret
    exact ⟨rfl, hB2⟩
theorem lt_rg (f s : Int) (hf : -4611686018427387904 ≤ f ∧ f ≤ 4611686018427387904) (h1 : 1 ≤ s) (h2 : s ≤ 1125899906842624) (k : Nat) (hk : k ≤ 1000) : 0 ≤ (k : Int) * s ∧ (k : Int) * s ≤ 1125899906842624000 ∧ -9223372036854775808 ≤ f + (k : Int) * s ∧ f + (k : Int) * s ≤ 9223372036854775807 := by
  have e1 : 0 ≤ (k : Int) * s := Int.mul_nonneg (by omega) (by omega)
  have e2 : (k : Int) * s ≤ 1000 * 1125899906842624 := Int.mul_le_mul (by omega) h2 (by omega) (by omega)
  omega
theorem ltT_rg (f s : Int) (hf : -4611686018427387904 ≤ f ∧ f ≤ 4611686018427387904) (h1 : 1 ≤ s) (h2 : s ≤ 1125899906842624) (i : Nat) : -9223372036854775808 ≤ ltT f s i ∧ ltT f s i ≤ 9223372036854775807 := by
  unfold ltT
  split
  · exact (lt_rg f s hf h1 h2 i (by omega)).2.2
  · omega
theorem ltT_rises (f s : Int) (h1 : 1 ≤ s) : Rises (ltT f s) 1000 := by
  intro i hi hi'
  unfold ltT
  rw [if_pos (by omega), if_pos (by omega)]
  obtain ⟨j, rfl⟩ : ∃ j, i = j + 1 := ⟨i - 1, by omega⟩
  rw [Nat.add_sub_cancel, Int.natCast_add, Int.add_mul]
  omega
set_option maxRecDepth 100000 in
set_option maxHeartbeats 4000000 in
theorem little_walk (f s v : Int) (hv : -9223372036854775808 ≤ v ∧ v ≤ 9223372036854775807) (w : World) (hct : CT w) (hg : 1 < w.heap.size) (hf : -4611686018427387904 ≤ f ∧ f ≤ 4611686018427387904) (h1 : 1 ≤ s) (h2 : s ≤ 1125899906842624) : Calls Tryd.prog 3 #[.int .i64 f, .int .i64 s, .int .i64 v] w fun e w' => e = .returned (.bool true) ∧ Below w.heap.size w w' := by
  have k1 : ¬ s < 1 := by omega
  have k2 : ¬ 1125899906842624 < s := by omega
  have k3 : ¬ 4611686018427387904 < f := by omega
  have k4 : ¬ f < -4611686018427387904 := by omega
  have hctH : Hid (CT w) := hct
  have hst : Hid (w.ownsRow w.heap.size 28 3 (.slice none 0 0) 0 (encS (ltT f s) (fun _ => 0) (fun _ => v) 0)) := World.ownsRow_nil _ _ _ _
  clear hct
  go_enter Tryd.func3, Tryd.ntmps3
  go_wp2_with fail
  go_loopw [7, 8] (fun l i wr => ∃ k : Nat, k ≤ 1000 ∧ i = .int .i64 (k : Int) ∧ wr.ownsRow w.heap.size 28 3 l k (encS (ltT f s) (fun _ => 0) (fun _ => v) k) ∧ Below w.heap.size w wr) (fun _ i _ => 1000 - (intOf i).toNat)
  case atStart => exact ⟨0, by omega, rfl, hst.out, Below.refl _ _⟩
  case round =>
    clear hst
    obtain ⟨k, hk, rfl, hO, hB⟩ := hrel
    by_cases hkn : k < 1000
    · have hkI : (k : Int) < 1000 := by omega
      obtain ⟨r1, r2, r3, r4⟩ := lt_rg f s hf h1 h2 k (by omega)
      obtain ⟨g1, c1, w1, hr1, ho1, hb1⟩ := app1S wr w.heap.size _ k _ hO hB.size (f + (k : Int) * s) 0 v (by omega)
      have hBn := hB.trans hb1
      have ho1H : Hid (w1.ownsRow w.heap.size 28 3 (.slice (some ⟨g1, 0, none⟩) (k + 1) c1) (k + 1) (encS (ltT f s) (fun _ => 0) (fun _ => v) (k + 1))) := by
        rw [encS_succ, show ltT f s k = f + (k : Int) * s from if_pos hkn]; exact ho1
      have hr1H : Hid _ := hr1
      obtain ⟨q, hq⟩ : ∃ q, q = (k : Int) * s := ⟨_, rfl⟩
      clear hr1 ho1 hO hb1
      go_wp2_with (at_builtin; (refine wpList_append_run2 (by rfl) _ _ _ _ (by rfl) _ _ _ _ (by rfl) (by rfl) hr1H.out ?_; clear hr1H))
      go_roundw
      case rel => exact ⟨k + 1, by omega, by go_num, ho1H.out, hBn⟩
      case measure => simp [intOf]; omega
    · obtain rfl : k = 1000 := by omega
      obtain ⟨a, c, rfl, hS⟩ := own_SIn hO (by omega) (fun i => ⟨by omega, hv⟩) (ltT_rg f s hf h1 h2)
      have hP : Hid _ := pack_any a 1000 c (ltT f s) (fun _ => 0) (fun _ => v) wr hS (by omega) (CT_below hctH.out hB hg) (by have := hB.size; omega)
      have hkI : ¬ ((1000 : Nat) : Int) < 1000 := by omega
      clear hO hS
      go_wp2_with fail
      refine Calls.mono hP.out ?_
      rintro e w2 ⟨hE, hB2⟩
      have hB02 := below_then hB hB2
      have hl := pack_lt f s v hf h1 h2
      have hL : Hid _ := live_block w2 (CT_below hctH.out hB02 hg) (by have := hB02.size; omega)
      rcases hE with ⟨hx, _⟩ | ⟨_, ga, gc, rfl, hin⟩
      · exact absurd ⟨ltT_rises f s h1, fun i _ => by simp [isV]⟩ hx
      · obtain ⟨m, hm⟩ : ∃ m, m = (packS (ltT f s) (fun _ => 0) (fun _ => v) 1000).1.length := ⟨_, rfl⟩
        rw [← hm] at hl ⊢
        have l1 : (m : Int) ≤ 300 := by omega
        have l2 : 200 < (m : Int) := by omega
        clear hP hB2 hin hm hl
        go_wp2_with fail
        refine Calls.mono hL.out ?_
        rintro e w3 ⟨rfl, hB3⟩
        have hB03 := below_then hB02 hB3
        clear hL hB3
        go_wp2_with fail
        go_ret
        exact ⟨rfl, hB03⟩
theorem blockLittle_walk (f s v : Int) (hv : -9223372036854775808 ≤ v ∧ v ≤ 9223372036854775807) (w : World) (hct : CT w) (hg : 1 < w.heap.size) : Calls Tryd.prog 3 #[.int .i64 f, .int .i64 s, .int .i64 v] w fun e w' => e = .returned (.bool true) ∧ Below w.heap.size w w' := by
  by_cases h : (1 ≤ s ∧ s ≤ 1125899906842624) ∧ -4611686018427387904 ≤ f ∧ f ≤ 4611686018427387904
  · exact little_walk f s v hv w hct hg h.2 h.1.1 h.1.2
  · exact little_quick f s v w hct hg (by omega)
end Go.Proofs.YtpicgjjbpiinfaaDoor
