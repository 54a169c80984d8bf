
import Derived.Test.YtipahdplkmmofaaGreatDoorSpG
import Derived.Test.YtipahdplkmmofaaGreatDoorSpQ
import Derived.Test.YtipahdplkmmofaaGreatDoorRef
namespace Go.Proofs.YtipahdplkmmofaaGreatDoor
open Go.RowKit
set_option linter.unusedVariables false
set_option linter.unusedSimpArgs false
theorem ret_bool {a b : Bool} (h : a = b) : Ending.returned (.bool a) = .returned (.bool b) := by rw [h]
set_option maxRecDepth 100000 in
theorem leap_any (y : Int) (h1 : 0 ≤ y) (h2 : y ≤ 20000) (w : World) : Calls Tryz.prog 84 #[.int .i64 y] w fun e w' => e = .returned (.bool (lpB y)) ∧ w' = w := by
  by_cases c1 : y % 4 = 0
  · by_cases c2 : y % 100 = 0
    · by_cases c3 : y % 400 = 0
      all_goals
        have HL : Hid (lpB y = decide (y % 4 = 0 ∧ (y % 100 ≠ 0 ∨ y % 400 = 0))) := rfl
        have b1 : (y % 4 == 0) = true := by simp [c1]
        have b2 : (y % 100 != 0) = false := by simp [c2]
        first
          | (have b3 : (y % 400 == 0) = true := by simp [c3])
          | (have b3 : (y % 400 == 0) = false := by simp [c3])
        go_enter Tryz.func84, Tryz.ntmps84
        go_wp2
        go_ret
        exact ⟨ret_bool (by rw [HL.out]; simp [c1, c2, c3]), rfl⟩
    · have HL : Hid (lpB y = true) := by show _ = _; unfold lpB; simp [c1, c2]
      have b1 : (y % 4 == 0) = true := by simp [c1]
      have b2 : (y % 100 != 0) = true := by simp [c2]
      go_enter Tryz.func84, Tryz.ntmps84
      go_wp2
      go_ret
      exact ⟨ret_bool (by rw [HL.out]), rfl⟩
  · have HL : Hid (lpB y = false) := by show _ = _; unfold lpB; simp [c1]
    have b1 : (y % 4 == 0) = false := by simp [c1]
    go_enter Tryz.func84, Tryz.ntmps84
    go_wp2
    go_ret
    exact ⟨ret_bool (by rw [HL.out]), rfl⟩
theorem year_any (y : Int) (h1 : 0 ≤ y) (h2 : y ≤ 20000) (w : World) : Calls Tryz.prog 86 #[.int .i64 y] w fun e w' => e = .returned (.int .i64 (365 + lp y)) ∧ w' = w := by
  cases hl : lpB y with
  | true =>
    have L : Hid (∀ W, Calls Tryz.prog 84 #[.int .i64 y] W fun e w' => e = .returned (.bool true) ∧ w' = W) := fun W => by rw [← hl]; exact leap_any y h1 h2 W
    rw [lp_one hl]
    clear hl
    go_enter Tryz.func86, Tryz.ntmps86
    go_wp2_with (go_at_call 84; refine (L.out _).mono ?_; rintro e w' ⟨rfl, rfl⟩)
    go_ret
    exact ⟨rfl, rfl⟩
  | false =>
    have L : Hid (∀ W, Calls Tryz.prog 84 #[.int .i64 y] W fun e w' => e = .returned (.bool false) ∧ w' = W) := fun W => by rw [← hl]; exact leap_any y h1 h2 W
    rw [lp_zero hl]
    clear hl
    go_enter Tryz.func86, Tryz.ntmps86
    go_wp2_with (go_at_call 84; refine (L.out _).mono ?_; rintro e w' ⟨rfl, rfl⟩)
    go_ret
    exact ⟨rfl, rfl⟩
set_option maxRecDepth 100000 in
set_option maxHeartbeats 2000000 in
theorem month_any (y m : Int) (h1 : 0 ≤ y) (h2 : y ≤ 20000) (h3 : 1 ≤ m) (h4 : m ≤ 12) (w : World) : Calls Tryz.prog 41 #[.int .i64 y, .int .i64 m] w fun e w' => e = .returned (.int .i64 (lenM y m)) ∧ w' = w := by
  have hc : m = 2 ∨ m = 1 ∨ m = 3 ∨ m = 4 ∨ m = 5 ∨ m = 6 ∨ m = 7 ∨ m = 8 ∨ m = 9 ∨ m = 10 ∨ m = 11 ∨ m = 12 := by omega
  clear h3 h4
  rcases hc with e | e | e | e | e | e | e | e | e | e | e | e <;> subst e
  · cases hl : lpB y with
    | true =>
      have L : Hid (∀ W, Calls Tryz.prog 84 #[.int .i64 y] W fun e w' => e = .returned (.bool true) ∧ w' = W) := fun W => by rw [← hl]; exact leap_any y h1 h2 W
      have E : Hid (lenM y 2 = 29) := by show _ = _; unfold lenM; rw [if_pos rfl, lp_one hl]; rfl
      clear hl
      go_enter Tryz.func41, Tryz.ntmps41
      go_wp2_with (go_at_call 84; refine (L.out _).mono ?_; rintro e w' ⟨rfl, rfl⟩)
      go_ret
      exact ⟨ret_int (by rw [E.out]), rfl⟩
    | false =>
      have L : Hid (∀ W, Calls Tryz.prog 84 #[.int .i64 y] W fun e w' => e = .returned (.bool false) ∧ w' = W) := fun W => by rw [← hl]; exact leap_any y h1 h2 W
      have E : Hid (lenM y 2 = 28) := by show _ = _; unfold lenM; rw [if_pos rfl, lp_zero hl]; rfl
      clear hl
      go_enter Tryz.func41, Tryz.ntmps41
      go_wp2_with (go_at_call 84; refine (L.out _).mono ?_; rintro e w' ⟨rfl, rfl⟩)
      go_ret
      exact ⟨ret_int (by rw [E.out]), rfl⟩
  all_goals
    go_enter Tryz.func41, Tryz.ntmps41
    go_wp2
    go_ret
    exact ⟨rfl, rfl⟩
end Go.Proofs.YtipahdplkmmofaaGreatDoor

namespace Go.Proofs.YtipahdplkmmofaaGreatDoor
open Go.RowKit Go.Shelf
set_option linter.unusedVariables false
set_option linter.unusedSimpArgs false
theorem rep_app (j : Nat) (l : List UInt8) : (48 : UInt8) :: (List.replicate j 48 ++ l) = List.replicate (j + 1) 48 ++ l := by rw [List.replicate_succ]; rfl
end Go.Proofs.YtipahdplkmmofaaGreatDoor

namespace Go.Proofs.YtipahdplkmmofaaGreatDoor
open Go.RowKit Go.Shelf
set_option linter.unusedVariables false
set_option linter.unusedSimpArgs false
set_option maxRecDepth 100000 in
set_option maxHeartbeats 2000000 in
theorem month_else (y m : Int) (h : m < 1 ∨ 12 < m) (w : World) : Calls Tryz.prog 41 #[.int .i64 y, .int .i64 m] w fun e w' => e = .returned (.int .i64 0) ∧ w' = w := by
  have b1 : (m == 1) = false := by rw [beq_eq_false_iff_ne]; omega
  have b2 : (m == 2) = false := by rw [beq_eq_false_iff_ne]; omega
  have b3 : (m == 3) = false := by rw [beq_eq_false_iff_ne]; omega
  have b4 : (m == 4) = false := by rw [beq_eq_false_iff_ne]; omega
  have b5 : (m == 5) = false := by rw [beq_eq_false_iff_ne]; omega
  have b6 : (m == 6) = false := by rw [beq_eq_false_iff_ne]; omega
  have b7 : (m == 7) = false := by rw [beq_eq_false_iff_ne]; omega
  have b8 : (m == 8) = false := by rw [beq_eq_false_iff_ne]; omega
  have b9 : (m == 9) = false := by rw [beq_eq_false_iff_ne]; omega
  have b10 : (m == 10) = false := by rw [beq_eq_false_iff_ne]; omega
  have b11 : (m == 11) = false := by rw [beq_eq_false_iff_ne]; omega
  have b12 : (m == 12) = false := by rw [beq_eq_false_iff_ne]; omega
  clear h
  go_enter Tryz.func41, Tryz.ntmps41
  go_wp2
  go_ret
  exact ⟨rfl, rfl⟩
set_option maxRecDepth 100000 in
set_option maxHeartbeats 4000000 in
theorem rday_any (y m d : Int) (h : dayOk y m d) (w : World) : Calls Tryz.prog 45 #[.int .i64 y, .int .i64 m, .int .i64 d] w fun e w' => e = .returned (.tuple #[.int .i64 (dayN y m d), .agg #[.int .i64 0, .int .i64 0, .int .i64 0, .bool false, .bool false]]) ∧ Below w.heap.size w w' := by
  obtain ⟨a1, a2, a3, a4, a5, a6⟩ := h
  have T0 : Hid (bgn 0 = -719528) := by show _ = _; decide
  have lk := lenM_bd y m
  have by' := bgn_bd2 y a1 (by omega)
  have lpy := lp_01 y
  have cby := cum_bd y m a3 (by omega)
  have c1 : ¬ y < 0 := by omega
  have c2 : ¬ 9999 < y := by omega
  have c3 : ¬ d < 1 := by omega
  have c4 : ¬ lenM y m < d := by omega
  have Y : Hid (∀ (i : Int) (W : World), 0 ≤ i → i ≤ 20000 → Calls Tryz.prog 86 #[.int .i64 i] W fun e w' => e = .returned (.int .i64 (365 + lp i)) ∧ w' = W) := fun i W a b => year_any i a b W
  have M : Hid (∀ (k : Int) (W : World), 1 ≤ k → k ≤ 12 → Calls Tryz.prog 41 #[.int .i64 y, .int .i64 k] W fun e w' => e = .returned (.int .i64 (lenM y k)) ∧ w' = W) := fun k W a b => month_any y k a1 (by omega) a b W
  go_enter Tryz.func45, Tryz.ntmps45
  go_wp2_with (go_at_call 41; refine (M.out _ _ a3 a4).mono ?_; rintro e w' ⟨rfl, rfl⟩)
  go_loop [8, 9] (fun k ii => ∃ i : Int, 0 ≤ i ∧ i ≤ y ∧ ii = .int .i64 i ∧ k = .int .i64 (bgn i)) (fun _ ii => (10000 - intOf ii).toNat)
  case atStart => exact ⟨0, by omega, by omega, rfl, by rw [T0.out]⟩
  case round =>
    obtain ⟨i, i1, i2, rfl, rfl⟩ := hrel
    have bb := bgn_bd2 i i1 (by omega)
    have lp1 := lp_01 i
    have BS : Hid (bgn (i + 1) = bgn i + 365 + lp i) := bgn_succ i
    by_cases hi : i < y
    · go_wp2_with (go_at_call 86; refine (Y.out _ _ i1 (by omega)).mono ?_; rintro e w' ⟨rfl, rfl⟩)
      go_round
      case rel => exact ⟨i + 1, by omega, by omega, by go_num, by rw [BS.out]; go_num⟩
      case measure => simp [intOf]; omega
    · obtain rfl : i = y := by omega
      go_wp2
      go_loop [8, 10] (fun k mm => ∃ j : Int, 1 ≤ j ∧ j ≤ m ∧ mm = .int .i64 j ∧ k = .int .i64 (bgn i + cum i j)) (fun _ mm => (20 - intOf mm).toNat)
      case atStart => exact ⟨1, by omega, by omega, rfl, by simp [cum]⟩
      case round =>
        obtain ⟨j, j1, j2, rfl, rfl⟩ := hrel
        have cb := cum_bd i j j1 (by omega)
        have lj := lenM_bd i j
        have CS : Hid (cum i (j + 1) = cum i j + lenM i j) := cum_succ i j j1 (by omega)
        by_cases hj : j < m
        · go_wp2_with (go_at_call 41; refine (M.out _ _ j1 (by omega)).mono ?_; rintro e w' ⟨rfl, rfl⟩)
          go_round
          case rel => exact ⟨j + 1, by omega, by omega, by go_num, by rw [CS.out]; go_num⟩
          case measure => simp [intOf]; omega
        · obtain rfl : j = m := by omega
          go_wp2
          simp [bodyPost, results, Tryz.results45, go_sem]
          exact ⟨by unfold dayN; omega, below_new (Below.refl _ _) _⟩
set_option maxRecDepth 100000 in
set_option maxHeartbeats 4000000 in
theorem rday_bad (y m d : Int) (h : ¬ dayOk y m d) (w : World) : Calls Tryz.prog 45 #[.int .i64 y, .int .i64 m, .int .i64 d] w fun e w' => e = .returned (.tuple #[.int .i64 0, .agg #[.int .i64 41, .int .i64 0, .int .i64 0, .bool false, .bool false]]) ∧ Below w.heap.size w w' := by
  have HN : Hid (¬ dayOk y m d) := h
  clear h
  by_cases c1 : y < 0
  · go_enter Tryz.func45, Tryz.ntmps45
    go_wp2_with (go_at_call 29; refine (refnew 41 _).mono ?_; rintro e w' ⟨rfl, o1, rfl⟩)
    simp [bodyPost, results, Tryz.results45, go_sem]
    exact below_new (below_new (Below.refl _ _) _) _
  by_cases c2 : 9999 < y
  · go_enter Tryz.func45, Tryz.ntmps45
    go_wp2_with (go_at_call 29; refine (refnew 41 _).mono ?_; rintro e w' ⟨rfl, o1, rfl⟩)
    simp [bodyPost, results, Tryz.results45, go_sem]
    exact below_new (below_new (Below.refl _ _) _) _
  by_cases c3 : d < 1
  · go_enter Tryz.func45, Tryz.ntmps45
    go_wp2_with (go_at_call 29; refine (refnew 41 _).mono ?_; rintro e w' ⟨rfl, o1, rfl⟩)
    simp [bodyPost, results, Tryz.results45, go_sem]
    exact below_new (below_new (Below.refl _ _) _) _
  obtain ⟨L, hL, M⟩ : ∃ L : Int, L < d ∧ ∀ W, Calls Tryz.prog 41 #[.int .i64 y, .int .i64 m] W fun e w' => e = .returned (.int .i64 L) ∧ w' = W := by
    by_cases cm : m < 1 ∨ 12 < m
    · exact ⟨0, by omega, fun W => month_else y m cm W⟩
    · refine ⟨lenM y m, ?_, fun W => month_any y m (by omega) (by omega) (by omega) (by omega) W⟩
      apply Decidable.byContradiction; intro hh
      exact HN.out ⟨by omega, by omega, by omega, by omega, by omega, by omega⟩
  have HM : Hid (∀ W, Calls Tryz.prog 41 #[.int .i64 y, .int .i64 m] W fun e w' => e = .returned (.int .i64 L) ∧ w' = W) := M
  clear M HN
  go_enter Tryz.func45, Tryz.ntmps45
  go_wp2_with (first | (go_at_call 41; refine (HM.out _).mono ?_; rintro e w' ⟨rfl, rfl⟩) | (go_at_call 29; refine (refnew 41 _).mono ?_; rintro e w' ⟨rfl, o1, rfl⟩))
  simp [bodyPost, results, Tryz.results45, go_sem]
  exact below_new (below_new (Below.refl _ _) _) _
end Go.Proofs.YtipahdplkmmofaaGreatDoor
