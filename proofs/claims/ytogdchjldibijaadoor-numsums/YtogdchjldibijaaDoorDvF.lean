
import Derived.Test.YtogdchjldibijaaDoorDvE
import Derived.Test.YtogdchjldibijaaDoorNum4
namespace Go.Proofs.YtogdchjldibijaaDoor
open Go.RowKit
set_option linter.unusedVariables false
set_option linter.unusedSimpArgs false
set_option maxRecDepth 100000 in
theorem rratio_zero (hi lo : Int) (w : World) :
    Calls Tryd.prog 20 #[.agg #[.int .i64 hi, .int .u64 lo], .int .i64 0] w fun e w' => e = .returned (.tuple #[.int .i64 0, badN 21]) ∧ Below w.heap.size w w' := by
  unfold badN
  obtain ⟨W, hW⟩ : ∃ W, W = (w.alloc (.cells #[.int .i64 hi, .int .u64 lo] 24)).alloc (.cells #[.int .i64 0, .int .i64 0, .int .i64 0, .bool false, .bool false] 35) := ⟨_, rfl⟩
  have hB0 : Below w.heap.size w W := by rw [hW]; exact below_new (below_new (Below.refl _ _) _) _
  have hsz : W.heap.size = w.heap.size + 1 + 1 := by rw [hW]; simp
  have hs0 : W.cell? ⟨w.heap.size, 0, none⟩ = some (.int .i64 hi) := by rw [hW]; simp [go_sem]
  have a0 : ∀ j v, (#[Value.int .i64 0, .int .i64 0, .int .i64 0, .bool false, .bool false] : Array Value)[j]? = some v → W.cell? ⟨w.heap.size + 1, j, none⟩ = some v := fun j v hj => by
    have hn := heap_alloc_new (w.alloc (.cells #[.int .i64 hi, .int .u64 lo] 24)) (.cells #[.int .i64 0, .int .i64 0, .int .i64 0, .bool false, .bool false] 35)
    have es : (w.alloc (.cells #[.int .i64 hi, .int .u64 lo] 24)).heap.size = w.heap.size + 1 := by simp
    rw [es] at hn
    rw [hW, cell_of_row _ (w.heap.size + 1) j _ _ (0, 0) hn]; exact hj
  have f0 : ∀ j, W.frozen? ⟨w.heap.size + 1, j, none⟩ = false := fun j => by rw [hW]; simp [go_sem]
  have hWH : Hid _ := hW
  have a0H : Hid _ := a0
  have f0H : Hid _ := f0
  clear hW a0 f0
  go_enter Tryd.func20, Tryd.ntmps20
  go_wp2_with fail
  rw [← hWH.out]
  refine (rnew_any 21 W).mono ?_
  rintro e w9 ⟨rfl, B9⟩
  have P9 : Below W.heap.size W w9 := B9
  have zz := P9.size
  have b1 : w9.cell? ⟨w.heap.size + 1, 0, none⟩ = some (.int .i64 0) := by rw [P9.cell (by simp; omega)]; exact a0H.out 0 _ rfl
  have b2 : w9.cell? ⟨w.heap.size + 1, 1, none⟩ = some (.int .i64 0) := by rw [P9.cell (by simp; omega)]; exact a0H.out 1 _ rfl
  have b3 : w9.cell? ⟨w.heap.size + 1, 2, none⟩ = some (.int .i64 0) := by rw [P9.cell (by simp; omega)]; exact a0H.out 2 _ rfl
  have b4 : w9.cell? ⟨w.heap.size + 1, 3, none⟩ = some (.bool false) := by rw [P9.cell (by simp; omega)]; exact a0H.out 3 _ rfl
  have b5 : w9.cell? ⟨w.heap.size + 1, 4, none⟩ = some (.bool false) := by rw [P9.cell (by simp; omega)]; exact a0H.out 4 _ rfl
  have g1 : w9.frozen? ⟨w.heap.size + 1, 0, none⟩ = false := by rw [P9.frozen (by simp; omega)]; exact f0H.out 0
  have g2 : w9.frozen? ⟨w.heap.size + 1, 1, none⟩ = false := by rw [P9.frozen (by simp; omega)]; exact f0H.out 1
  have g3 : w9.frozen? ⟨w.heap.size + 1, 2, none⟩ = false := by rw [P9.frozen (by simp; omega)]; exact f0H.out 2
  have g4 : w9.frozen? ⟨w.heap.size + 1, 3, none⟩ = false := by rw [P9.frozen (by simp; omega)]; exact f0H.out 3
  have g5 : w9.frozen? ⟨w.heap.size + 1, 4, none⟩ = false := by rw [P9.frozen (by simp; omega)]; exact f0H.out 4
  clear B9 a0H f0H
  go_wp2_with fail
  simp [bodyPost, results, Tryd.results20, go_sem, b1, b2, b3, b4, b5]
  exact setBad (below_then hB0 P9) (Nat.le_succ _)
theorem abv_nat (hi lo : Int) (h1 : I64 hi) (h2 : U64 lo) : ∃ V : Nat, ab (sv hi lo) = V := Int.eq_ofNat_of_zero_le (ab_le hi lo h1 h2).1
theorem abn_nat (n : Int) (hn : I64 n) (h0 : n ≠ 0) : ∃ b : Nat, ab n = b := Int.eq_ofNat_of_zero_le (by have := ab_le1 n hn h0; omega)
theorem sHL_nat (V : Nat) : sH (V : Int) = ((V / 18446744073709551616 : Nat) : Int) ∧ sL (V : Int) = ((V % 18446744073709551616 : Nat) : Int) := by unfold sH sL; omega
theorem by_neg (n : Int) (b : Nat) (hn : I64 n) (cn : n < 0) (hb : ab n = b) : IntKind.u64.wrap n = n + 18446744073709551616 ∧ IntKind.u64.wrap (-(n + 18446744073709551616)) = (b : Int) := by
  rw [ab_neg cn] at hb; unfold I64 at hn; rw [IntKind.wrap_u64, IntKind.wrap_u64]; omega
theorem by_pos (n : Int) (b : Nat) (hn : I64 n) (cn : ¬ n < 0) (hb : ab n = b) : IntKind.u64.wrap n = (b : Int) := by
  rw [ab_pos cn] at hb; unfold I64 at hn; rw [IntKind.wrap_u64]; omega
theorem rratio_lifted (hi lo n : Int) (h1 : I64 hi) (h2 : U64 lo) (hn : I64 n) (h0 : n ≠ 0) (V b : Nat) (hV : ab (sv hi lo) = V) (hb : ab n = b) : V ≤ 170141183460469231731687303715884105728 ∧ 0 < b ∧ b ≤ 9223372036854775808 ∧ quoI (sv hi lo) n = (if (hi < 0 ↔ n < 0) then ((V / b : Nat) : Int) else if V % b = 0 then -((V / b : Nat) : Int) else -((V / b : Nat) : Int) - 1) := by
  have hv := ab_le hi lo h1 h2
  have hbb := ab_le1 n hn h0
  refine ⟨by omega, by omega, by omega, ?_⟩
  unfold quoI
  rw [hV, hb]
  have hs := sv_neg hi lo h2
  have e1 : ((V : Int) / (b : Int)) = ((V / b : Nat) : Int) := by simp
  have e2 : ((V : Int) % (b : Int)) = ((V % b : Nat) : Int) := by simp
  rw [e1, e2]
  by_cases c : (hi < 0 ↔ n < 0)
  · rw [if_pos c, if_pos (hs.trans c)]
  · rw [if_neg c, if_neg (fun h => c (hs.symm.trans h))]
    by_cases d : V % b = 0
    · rw [if_pos d, if_pos (by omega)]
    · rw [if_neg d, if_neg (by omega)]
/-- what Ratio tells, of the quotient's two words and what is left. -/
def ratA (below : Bool) (qh ql r : Nat) : Int × Value :=
  if below = false then (if qh = 0 ∧ ql ≤ 9223372036854775807 then ((ql : Int), bad0) else (0, badN 20))
  else if r = 0 then (if qh = 0 ∧ ql ≤ 9223372036854775808 then (-(ql : Int), bad0) else (0, badN 20))
  else (if qh = 0 ∧ ql + 1 ≤ 9223372036854775808 then (-((ql : Int) + 1), bad0) else (0, badN 20))
theorem ratA_same (q qh ql r : Nat) (hq : q = qh * 18446744073709551616 + ql) (hl : ql < 18446744073709551616) : (sm0 (q : Int), smB (q : Int)) = ratA false qh ql r := by
  unfold ratA; rw [if_pos rfl]
  by_cases c : qh = 0 ∧ ql ≤ 9223372036854775807
  · have hv : I64 (q : Int) := by unfold I64; omega
    rw [if_pos c, sm0_yes hv, show smB (q : Int) = bad0 from if_pos hv, show (q : Int) = (ql : Int) by omega]
  · have hv : ¬ I64 (q : Int) := by unfold I64; omega
    rw [if_neg c, sm0_no hv, show smB (q : Int) = badN 20 from if_neg hv]
theorem ratA_diff (q qh ql r : Nat) (hq : q = qh * 18446744073709551616 + ql) (hl : ql < 18446744073709551616) : (sm0 (if r = 0 then -(q : Int) else -(q : Int) - 1), smB (if r = 0 then -(q : Int) else -(q : Int) - 1)) = ratA true qh ql r := by
  unfold ratA; rw [if_neg (show ¬ (true = false) by decide)]
  by_cases d : r = 0
  · rw [if_pos d, if_pos d]
    by_cases c : qh = 0 ∧ ql ≤ 9223372036854775808
    · have hv : I64 (-(q : Int)) := by unfold I64; omega
      rw [if_pos c, sm0_yes hv, show smB (-(q : Int)) = bad0 from if_pos hv, show (q : Int) = (ql : Int) by omega]
    · have hv : ¬ I64 (-(q : Int)) := by unfold I64; omega
      rw [if_neg c, sm0_no hv, show smB (-(q : Int)) = badN 20 from if_neg hv]
  · rw [if_neg d, if_neg d]
    by_cases c : qh = 0 ∧ ql + 1 ≤ 9223372036854775808
    · have hv : I64 (-(q : Int) - 1) := by unfold I64; omega
      rw [if_pos c, sm0_yes hv, show smB (-(q : Int) - 1) = bad0 from if_pos hv, show -(q : Int) - 1 = -((ql : Int) + 1) by omega]
    · have hv : ¬ I64 (-(q : Int) - 1) := by unfold I64; omega
      rw [if_neg c, sm0_no hv, show smB (-(q : Int) - 1) = badN 20 from if_neg hv]
theorem neg_word (l : Nat) (h : l ≤ 9223372036854775808) : wrap64 (IntKind.u64.wrap (-(l : Int))) = -(l : Int) := by
  rw [IntKind.wrap_u64]; unfold wrap64; omega
end Go.Proofs.YtogdchjldibijaaDoor
