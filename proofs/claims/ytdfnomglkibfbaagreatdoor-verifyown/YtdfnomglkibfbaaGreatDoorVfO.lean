
import Derived.Test.YtdfnomglkibfbaaGreatDoorVfE
namespace Go.Proofs.YtdfnomglkibfbaaGreatDoor.Vf
open Go.RowKit
set_option linter.unusedVariables false
set_option linter.unusedSimpArgs false
set_option maxRecDepth 100000
theorem in_any (n : Int) (m : Nat) (w : World) : Calls Tryz.prog 117 #[.int .i64 n, .int .i64 (m : Int)] w fun e w' => e = .returned (.bool (inB n m)) ∧ w' = w := by
  unfold inB
  by_cases h : (0 : Int) ≤ n
  · have hd : decide ((0 : Int) ≤ n) = true := decide_eq_true h
    rw [hd, Bool.true_and]
    go_enter Tryz.func117, Tryz.ntmps117
    go_wp2
    go_ret
    exact ⟨rfl, rfl⟩
  · have hd : decide ((0 : Int) ≤ n) = false := decide_eq_false h
    rw [hd, Bool.false_and]
    go_enter Tryz.func117, Tryz.ntmps117
    go_wp2
    go_ret
    exact ⟨rfl, rfl⟩
theorem filters_any (c : Nat) (w : World) : Calls Tryz.prog 79 #[.int .u8 (c : Int)] w fun e w' => e = .returned (.bool (filB c)) ∧ w' = w := by
  unfold filB
  by_cases h : 1 ≤ c
  · have hd : decide ((1 : Int) ≤ (c : Int)) = true := decide_eq_true (by omega)
    have e : (decide (1 ≤ c) && decide (c ≤ 13)) = decide ((c : Int) ≤ 13) := by
      rw [decide_eq_true h, Bool.true_and]
      by_cases q : c ≤ 13
      · rw [decide_eq_true q, decide_eq_true (by omega)]
      · rw [decide_eq_false q, decide_eq_false (by omega)]
    rw [e]
    go_enter Tryz.func79, Tryz.ntmps79
    go_wp2
    go_ret
    exact ⟨rfl, rfl⟩
  · have hd : decide ((1 : Int) ≤ (c : Int)) = false := decide_eq_false (by omega)
    rw [decide_eq_false h, Bool.false_and]
    go_enter Tryz.func79, Tryz.ntmps79
    go_wp2
    go_ret
    exact ⟨rfl, rfl⟩
theorem outputs_any (c : Nat) (w : World) : Calls Tryz.prog 80 #[.int .u8 (c : Int)] w fun e w' => e = .returned (.bool (outB c)) ∧ w' = w := by
  unfold outB
  by_cases h : 14 ≤ c
  · have hd : decide ((14 : Int) ≤ (c : Int)) = true := decide_eq_true (by omega)
    have e : (decide (14 ≤ c) && decide (c ≤ 24)) = decide ((c : Int) ≤ 24) := by
      rw [decide_eq_true h, Bool.true_and]
      by_cases q : c ≤ 24
      · rw [decide_eq_true q, decide_eq_true (by omega)]
      · rw [decide_eq_false q, decide_eq_false (by omega)]
    rw [e]
    go_enter Tryz.func80, Tryz.ntmps80
    go_wp2
    go_ret
    exact ⟨rfl, rfl⟩
  · have hd : decide ((14 : Int) ≤ (c : Int)) = false := decide_eq_false (by omega)
    rw [decide_eq_false h, Bool.false_and]
    go_enter Tryz.func80, Tryz.ntmps80
    go_wp2
    go_ret
    exact ⟨rfl, rfl⟩
theorem moves_any (c : Nat) (h0 : 1 ≤ c) (h1 : c ≤ 24) (w : World) : Calls Tryz.prog 37 #[.int .u8 (c : Int)] w fun e w' => e = .returned (.tuple #[.int .i64 ((rowF c).tk : Int), .int .i64 ((rowF c).pt : Int)]) ∧ w' = w := by
  match c, h0, h1 with
  | 1, _, _ =>
    have e : rowF 1 = rowsL.getD 1 noR := rfl
    simp only [e, rowsL, List.getD_cons_succ, List.getD_cons_zero]
    go_enter Tryz.func37, Tryz.ntmps37
    go_wp2
    go_returns
    exact ⟨rfl, rfl⟩
  | 2, _, _ =>
    have e : rowF 2 = rowsL.getD 2 noR := rfl
    simp only [e, rowsL, List.getD_cons_succ, List.getD_cons_zero]
    go_enter Tryz.func37, Tryz.ntmps37
    go_wp2
    go_returns
    exact ⟨rfl, rfl⟩
  | 3, _, _ =>
    have e : rowF 3 = rowsL.getD 3 noR := rfl
    simp only [e, rowsL, List.getD_cons_succ, List.getD_cons_zero]
    go_enter Tryz.func37, Tryz.ntmps37
    go_wp2
    go_returns
    exact ⟨rfl, rfl⟩
  | 4, _, _ =>
    have e : rowF 4 = rowsL.getD 4 noR := rfl
    simp only [e, rowsL, List.getD_cons_succ, List.getD_cons_zero]
    go_enter Tryz.func37, Tryz.ntmps37
    go_wp2
    go_returns
    exact ⟨rfl, rfl⟩
  | 5, _, _ =>
    have e : rowF 5 = rowsL.getD 5 noR := rfl
    simp only [e, rowsL, List.getD_cons_succ, List.getD_cons_zero]
    go_enter Tryz.func37, Tryz.ntmps37
    go_wp2
    go_returns
    exact ⟨rfl, rfl⟩
  | 6, _, _ =>
    have e : rowF 6 = rowsL.getD 6 noR := rfl
    simp only [e, rowsL, List.getD_cons_succ, List.getD_cons_zero]
    go_enter Tryz.func37, Tryz.ntmps37
    go_wp2
    go_returns
    exact ⟨rfl, rfl⟩
  | 7, _, _ =>
    have e : rowF 7 = rowsL.getD 7 noR := rfl
    simp only [e, rowsL, List.getD_cons_succ, List.getD_cons_zero]
    go_enter Tryz.func37, Tryz.ntmps37
    go_wp2
    go_returns
    exact ⟨rfl, rfl⟩
  | 8, _, _ =>
    have e : rowF 8 = rowsL.getD 8 noR := rfl
    simp only [e, rowsL, List.getD_cons_succ, List.getD_cons_zero]
    go_enter Tryz.func37, Tryz.ntmps37
    go_wp2
    go_returns
    exact ⟨rfl, rfl⟩
  | 9, _, _ =>
    have e : rowF 9 = rowsL.getD 9 noR := rfl
    simp only [e, rowsL, List.getD_cons_succ, List.getD_cons_zero]
    go_enter Tryz.func37, Tryz.ntmps37
    go_wp2
    go_returns
    exact ⟨rfl, rfl⟩
  | 10, _, _ =>
    have e : rowF 10 = rowsL.getD 10 noR := rfl
    simp only [e, rowsL, List.getD_cons_succ, List.getD_cons_zero]
    go_enter Tryz.func37, Tryz.ntmps37
    go_wp2
    go_returns
    exact ⟨rfl, rfl⟩
  | 11, _, _ =>
    have e : rowF 11 = rowsL.getD 11 noR := rfl
    simp only [e, rowsL, List.getD_cons_succ, List.getD_cons_zero]
    go_enter Tryz.func37, Tryz.ntmps37
    go_wp2
    go_returns
    exact ⟨rfl, rfl⟩
  | 12, _, _ =>
    have e : rowF 12 = rowsL.getD 12 noR := rfl
    simp only [e, rowsL, List.getD_cons_succ, List.getD_cons_zero]
    go_enter Tryz.func37, Tryz.ntmps37
    go_wp2
    go_returns
    exact ⟨rfl, rfl⟩
  | 13, _, _ =>
    have e : rowF 13 = rowsL.getD 13 noR := rfl
    simp only [e, rowsL, List.getD_cons_succ, List.getD_cons_zero]
    go_enter Tryz.func37, Tryz.ntmps37
    go_wp2
    go_returns
    exact ⟨rfl, rfl⟩
  | 14, _, _ =>
    have e : rowF 14 = rowsL.getD 14 noR := rfl
    simp only [e, rowsL, List.getD_cons_succ, List.getD_cons_zero]
    go_enter Tryz.func37, Tryz.ntmps37
    go_wp2
    go_returns
    exact ⟨rfl, rfl⟩
  | 15, _, _ =>
    have e : rowF 15 = rowsL.getD 15 noR := rfl
    simp only [e, rowsL, List.getD_cons_succ, List.getD_cons_zero]
    go_enter Tryz.func37, Tryz.ntmps37
    go_wp2
    go_returns
    exact ⟨rfl, rfl⟩
  | 16, _, _ =>
    have e : rowF 16 = rowsL.getD 16 noR := rfl
    simp only [e, rowsL, List.getD_cons_succ, List.getD_cons_zero]
    go_enter Tryz.func37, Tryz.ntmps37
    go_wp2
    go_returns
    exact ⟨rfl, rfl⟩
  | 17, _, _ =>
    have e : rowF 17 = rowsL.getD 17 noR := rfl
    simp only [e, rowsL, List.getD_cons_succ, List.getD_cons_zero]
    go_enter Tryz.func37, Tryz.ntmps37
    go_wp2
    go_returns
    exact ⟨rfl, rfl⟩
  | 18, _, _ =>
    have e : rowF 18 = rowsL.getD 18 noR := rfl
    simp only [e, rowsL, List.getD_cons_succ, List.getD_cons_zero]
    go_enter Tryz.func37, Tryz.ntmps37
    go_wp2
    go_returns
    exact ⟨rfl, rfl⟩
  | 19, _, _ =>
    have e : rowF 19 = rowsL.getD 19 noR := rfl
    simp only [e, rowsL, List.getD_cons_succ, List.getD_cons_zero]
    go_enter Tryz.func37, Tryz.ntmps37
    go_wp2
    go_returns
    exact ⟨rfl, rfl⟩
  | 20, _, _ =>
    have e : rowF 20 = rowsL.getD 20 noR := rfl
    simp only [e, rowsL, List.getD_cons_succ, List.getD_cons_zero]
    go_enter Tryz.func37, Tryz.ntmps37
    go_wp2
    go_returns
    exact ⟨rfl, rfl⟩
  | 21, _, _ =>
    have e : rowF 21 = rowsL.getD 21 noR := rfl
    simp only [e, rowsL, List.getD_cons_succ, List.getD_cons_zero]
    go_enter Tryz.func37, Tryz.ntmps37
    go_wp2
    go_returns
    exact ⟨rfl, rfl⟩
  | 22, _, _ =>
    have e : rowF 22 = rowsL.getD 22 noR := rfl
    simp only [e, rowsL, List.getD_cons_succ, List.getD_cons_zero]
    go_enter Tryz.func37, Tryz.ntmps37
    go_wp2
    go_returns
    exact ⟨rfl, rfl⟩
  | 23, _, _ =>
    have e : rowF 23 = rowsL.getD 23 noR := rfl
    simp only [e, rowsL, List.getD_cons_succ, List.getD_cons_zero]
    go_enter Tryz.func37, Tryz.ntmps37
    go_wp2
    go_returns
    exact ⟨rfl, rfl⟩
  | 24, _, _ =>
    have e : rowF 24 = rowsL.getD 24 noR := rfl
    simp only [e, rowsL, List.getD_cons_succ, List.getD_cons_zero]
    go_enter Tryz.func37, Tryz.ntmps37
    go_wp2
    go_returns
    exact ⟨rfl, rfl⟩
  | c + 25, _, h => omega
end Go.Proofs.YtdfnomglkibfbaaGreatDoor.Vf
