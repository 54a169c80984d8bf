
import Derived.Test.YtbhohlmlmlpboaaGreatDoorSqB
import Derived.Test.YtbhohlmlmlpboaaGreatDoorRef
namespace Go.Proofs.YtbhohlmlmlpboaaGreatDoor
open Go.RowKit Go.Shelf
set_option linter.unusedVariables false
set_option linter.unusedSimpArgs false
theorem rdiv_pos (a b : Int) (ha : I64 a) (hb : I64 b) (h0 : 0 < b) (w : World) : Calls Tryz.prog 28 #[.int .i64 a, .int .i64 b] w fun e w' => e = .returned (.tuple #[.int .i64 (a / b), .agg #[.int .i64 0, .int .i64 0, .int .i64 0, .bool false, .bool false]]) ∧ Below w.heap.size w w' := by
  have H := refdiv a b ha hb (by omega) w
  rw [(quo_pos a b h0).1] at H
  have i : I64 (a / b) := by
    unfold I64 at *
    constructor
    · by_cases c : 0 ≤ a
      · have := Int.ediv_nonneg c (by omega : (0:Int) ≤ b); omega
      · have : a ≤ a / b := by
          rw [Int.le_ediv_iff_mul_le h0]
          have := Int.mul_le_mul_of_nonpos_left (a := a) (b := b) (c := 1) (by omega) (by omega)
          omega
        omega
    · by_cases c : 0 ≤ a
      · have := Int.ediv_le_self b c; omega
      · have := Int.ediv_neg_of_neg_of_pos (by omega : a < 0) h0; omega
  rw [sm0_yes i, sc_yes i] at H; exact H
theorem rmod_pos (a b : Int) (hb : I64 b) (h0 : 0 < b) (w : World) : Calls Tryz.prog 29 #[.int .i64 a, .int .i64 b] w fun e w' => e = .returned (.tuple #[.int .i64 (a % b), .agg #[.int .i64 0, .int .i64 0, .int .i64 0, .bool false, .bool false]]) ∧ Below w.heap.size w w' := by
  have H := refmod a b hb (by omega) w
  rw [(quo_pos a b h0).2] at H; exact H
/-- what is left once the noughts at the end are gone ends with none. -/
theorem trim_last (l : List UInt8) : ∀ x, (Lib.trimRightB l 48).getLast? = some x → x ≠ 48 := by
  intro x hx e
  subst e
  unfold Lib.trimRightB at hx
  rw [List.getLast?_reverse] at hx
  have := List.head?_dropWhile_not (fun b : UInt8 => b == 48) l.reverse
  rw [hx] at this; simp at this
theorem B_get (l : List UInt8) (i : Nat) (h : i < l.length) : (B l)[i]'(by rw [B_size]; exact h) = l[i] := by
  show (B l).data[i]'_ = _; simp [B]
end Go.Proofs.YtbhohlmlmlpboaaGreatDoor
