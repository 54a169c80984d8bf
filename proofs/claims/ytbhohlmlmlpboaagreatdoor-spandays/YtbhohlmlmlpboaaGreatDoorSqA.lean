
import Derived.Test.YtbhohlmlmlpboaaGreatDoorSpG
namespace Go.Proofs.YtbhohlmlmlpboaaGreatDoor
open Go.RowKit
set_option linter.unusedVariables false
set_option linter.unusedSimpArgs false
theorem ret_bool {a b : Bool} (h : a = b) : Ending.returned (.bool a) = .returned (.bool b) := by rw [h]
set_option maxRecDepth 100000 in
theorem leap_any (y : Int) (h1 : 0 ≤ y) (h2 : y ≤ 20000) (w : World) : Calls Tryz.prog 39 #[.int .i64 y] w fun e w' => e = .returned (.bool (lpB y)) ∧ w' = w := by
  by_cases c1 : y % 4 = 0
  · by_cases c2 : y % 100 = 0
    · by_cases c3 : y % 400 = 0
      all_goals
        have HL : Hid (lpB y = decide (y % 4 = 0 ∧ (y % 100 ≠ 0 ∨ y % 400 = 0))) := rfl
        have b1 : (y % 4 == 0) = true := by simp [c1]
        have b2 : (y % 100 != 0) = false := by simp [c2]
        first
          | (have b3 : (y % 400 == 0) = true := by simp [c3])
          | (have b3 : (y % 400 == 0) = false := by simp [c3])
        go_enter Tryz.func39, Tryz.ntmps39
        go_wp2
        go_ret
        exact ⟨ret_bool (by rw [HL.out]; simp [c1, c2, c3]), rfl⟩
    · have HL : Hid (lpB y = true) := by show _ = _; unfold lpB; simp [c1, c2]
      have b1 : (y % 4 == 0) = true := by simp [c1]
      have b2 : (y % 100 != 0) = true := by simp [c2]
      go_enter Tryz.func39, Tryz.ntmps39
      go_wp2
      go_ret
      exact ⟨ret_bool (by rw [HL.out]), rfl⟩
  · have HL : Hid (lpB y = false) := by show _ = _; unfold lpB; simp [c1]
    have b1 : (y % 4 == 0) = false := by simp [c1]
    go_enter Tryz.func39, Tryz.ntmps39
    go_wp2
    go_ret
    exact ⟨ret_bool (by rw [HL.out]), rfl⟩
theorem year_any (y : Int) (h1 : 0 ≤ y) (h2 : y ≤ 20000) (w : World) : Calls Tryz.prog 22 #[.int .i64 y] w fun e w' => e = .returned (.int .i64 (365 + lp y)) ∧ w' = w := by
  cases hl : lpB y with
  | true =>
    have L : Hid (∀ W, Calls Tryz.prog 39 #[.int .i64 y] W fun e w' => e = .returned (.bool true) ∧ w' = W) := fun W => by rw [← hl]; exact leap_any y h1 h2 W
    rw [lp_one hl]
    clear hl
    go_enter Tryz.func22, Tryz.ntmps22
    go_wp2_with (go_at_call 39; refine (L.out _).mono ?_; rintro e w' ⟨rfl, rfl⟩)
    go_ret
    exact ⟨rfl, rfl⟩
  | false =>
    have L : Hid (∀ W, Calls Tryz.prog 39 #[.int .i64 y] W fun e w' => e = .returned (.bool false) ∧ w' = W) := fun W => by rw [← hl]; exact leap_any y h1 h2 W
    rw [lp_zero hl]
    clear hl
    go_enter Tryz.func22, Tryz.ntmps22
    go_wp2_with (go_at_call 39; refine (L.out _).mono ?_; rintro e w' ⟨rfl, rfl⟩)
    go_ret
    exact ⟨rfl, rfl⟩
set_option maxRecDepth 100000 in
set_option maxHeartbeats 2000000 in
theorem month_any (y m : Int) (h1 : 0 ≤ y) (h2 : y ≤ 20000) (h3 : 1 ≤ m) (h4 : m ≤ 12) (w : World) : Calls Tryz.prog 20 #[.int .i64 y, .int .i64 m] w fun e w' => e = .returned (.int .i64 (lenM y m)) ∧ w' = w := by
  have hc : m = 2 ∨ m = 1 ∨ m = 3 ∨ m = 4 ∨ m = 5 ∨ m = 6 ∨ m = 7 ∨ m = 8 ∨ m = 9 ∨ m = 10 ∨ m = 11 ∨ m = 12 := by omega
  clear h3 h4
  rcases hc with e | e | e | e | e | e | e | e | e | e | e | e <;> subst e
  · cases hl : lpB y with
    | true =>
      have L : Hid (∀ W, Calls Tryz.prog 39 #[.int .i64 y] W fun e w' => e = .returned (.bool true) ∧ w' = W) := fun W => by rw [← hl]; exact leap_any y h1 h2 W
      have E : Hid (lenM y 2 = 29) := by show _ = _; unfold lenM; rw [if_pos rfl, lp_one hl]; rfl
      clear hl
      go_enter Tryz.func20, Tryz.ntmps20
      go_wp2_with (go_at_call 39; refine (L.out _).mono ?_; rintro e w' ⟨rfl, rfl⟩)
      go_ret
      exact ⟨ret_int (by rw [E.out]), rfl⟩
    | false =>
      have L : Hid (∀ W, Calls Tryz.prog 39 #[.int .i64 y] W fun e w' => e = .returned (.bool false) ∧ w' = W) := fun W => by rw [← hl]; exact leap_any y h1 h2 W
      have E : Hid (lenM y 2 = 28) := by show _ = _; unfold lenM; rw [if_pos rfl, lp_zero hl]; rfl
      clear hl
      go_enter Tryz.func20, Tryz.ntmps20
      go_wp2_with (go_at_call 39; refine (L.out _).mono ?_; rintro e w' ⟨rfl, rfl⟩)
      go_ret
      exact ⟨ret_int (by rw [E.out]), rfl⟩
  all_goals
    go_enter Tryz.func20, Tryz.ntmps20
    go_wp2
    go_ret
    exact ⟨rfl, rfl⟩
end Go.Proofs.YtbhohlmlmlpboaaGreatDoor
