
import Derived.Test.YtchabeebpbaaeaaGreatDoorSpLv
namespace Go.Proofs.YtchabeebpbaaeaaGreatDoor
open Go.RowKit Go.Shelf
set_option linter.unusedVariables false
set_option linter.unusedSimpArgs false
theorem next_in {y m d : Int} (h : dayOk y m d) (hl : d < lenM y m) : dayOk y m (d + 1) ∧ dayN y m (d + 1) = dayN y m d + 1 := by
  obtain ⟨a1, a2, a3, a4, a5, a6⟩ := h
  exact ⟨⟨a1, a2, a3, a4, by omega, by omega⟩, by unfold dayN; omega⟩
theorem next_month {y m d : Int} (h : dayOk y m d) (hl : ¬ d < lenM y m) (hm : m < 12) : dayOk y (m + 1) 1 ∧ dayN y (m + 1) 1 = dayN y m d + 1 := by
  obtain ⟨a1, a2, a3, a4, a5, a6⟩ := h
  have c := cum_succ y m a3 (by omega)
  have l := lenM_bd y (m + 1)
  exact ⟨⟨a1, a2, by omega, by omega, by omega, by omega⟩, by unfold dayN; omega⟩
theorem next_year {y m d : Int} (h : dayOk y m d) (hl : ¬ d < lenM y m) (hm : ¬ m < 12) (hy : y < 9999) : dayOk (y + 1) 1 1 ∧ dayN (y + 1) 1 1 = dayN y m d + 1 := by
  obtain ⟨a1, a2, a3, a4, a5, a6⟩ := h
  have e : m = 12 := by omega
  subst e
  have c := cum_succ y 12 (by omega) (by omega)
  have c2 := cum_13 y
  rw [show (12 : Int) + 1 = 13 from rfl, c2] at c
  have b := bgn_succ y
  have l := lenM_bd (y + 1) 1
  have c1 : cum (y + 1) 1 = 0 := by simp [cum]
  exact ⟨⟨by omega, by omega, by omega, by omega, by omega, by omega⟩, by unfold dayN; omega⟩
theorem last_day {y m d : Int} (h : dayOk y m d) (hl : ¬ d < lenM y m) (hm : ¬ m < 12) (hy : ¬ y < 9999) : y = 9999 ∧ m = 12 ∧ d = 31 ∧ dayN y m d = 2932896 := by
  obtain ⟨a1, a2, a3, a4, a5, a6⟩ := h
  have e : m = 12 := by omega
  have f : y = 9999 := by omega
  subst e; subst f
  have l : lenM 9999 12 = 31 := by decide
  have g : d = 31 := by omega
  subst g
  exact ⟨rfl, rfl, rfl, by decide⟩
theorem date_of (y m d n : Int) (h : dayOk y m d) (hn : dayN y m d = n) (w : World) (hM : MT w) : Calls Tryz.prog 12 #[.int .i64 n] w fun e w' => e = .returned (.tuple #[.int .i64 y, .int .i64 m, .int .i64 d]) ∧ w' = w := by
  have hb := day_bd h
  obtain ⟨e1, e2, e3⟩ := date_uniq h hn
  have H := date_any n (by omega) (by omega) w hM
  rw [← e1, ← e2, ← e3] at H
  exact H
set_option maxRecDepth 100000 in
set_option maxHeartbeats 4000000 in
theorem spanCalendar_walk (y m d : Int) (w : World) (h : SW w) : Calls Tryz.prog 3 #[.int .i64 y, .int .i64 m, .int .i64 d] w fun e w' => e = .returned (.bool true) ∧ Below w.heap.size w w' := by
  have L := fun W hW => slive_any W hW
  have HW : Hid (SW w) := h
  clear h
  by_cases hd : dayOk y m d
  · have D1 : Hid (∀ W, SW W → Calls Tryz.prog 10 #[.int .i64 y, .int .i64 m, .int .i64 d] W fun e w' => e = .returned (.tuple #[.int .i64 (dayN y m d), .nilIface]) ∧ w' = W) := fun W hW => day_any y m d hd W hW.m
    have D2 : Hid (∀ W, SW W → Calls Tryz.prog 12 #[.int .i64 (dayN y m d)] W fun e w' => e = .returned (.tuple #[.int .i64 y, .int .i64 m, .int .i64 d]) ∧ w' = W) := fun W hW => date_of y m d _ hd rfl W hW.m
    have nb := day_bd hd
    have N1 : Hid (d < lenM y m → dayOk y m (d + 1) ∧ dayN y m (d + 1) = dayN y m d + 1) := fun hl => next_in hd hl
    have N2 : Hid (¬ d < lenM y m → m < 12 → dayOk y (m + 1) 1 ∧ dayN y (m + 1) 1 = dayN y m d + 1) := fun hl hm => next_month hd hl hm
    have N3 : Hid (¬ d < lenM y m → ¬ m < 12 → y < 9999 → dayOk (y + 1) 1 1 ∧ dayN (y + 1) 1 1 = dayN y m d + 1) := fun hl hm hy => next_year hd hl hm hy
    have N4 : Hid (¬ d < lenM y m → ¬ m < 12 → ¬ y < 9999 → y = 9999 ∧ m = 12 ∧ d = 31 ∧ dayN y m d = 2932896) := fun hl hm hy => last_day hd hl hm hy
    have lb := lenM_bd y m
    have l12 : y = 9999 → m = 12 → lenM y m = 31 := fun e f => by subst e; subst f; decide
    obtain ⟨a1, a2, a3, a4, a5, a6⟩ := hd
    generalize dayN y m d = n at *
    obtain ⟨nb1, nb2⟩ := nb
    by_cases c1 : d < lenM y m
    · obtain ⟨o1, o2⟩ := N1.out c1
      have E1 : Hid (∀ W, SW W → Calls Tryz.prog 12 #[.int .i64 (n + 1)] W fun e w' => e = .returned (.tuple #[.int .i64 y, .int .i64 m, .int .i64 (d + 1)]) ∧ w' = W) := fun W hW => date_of y m (d + 1) _ o1 o2 W hW.m
      have E2 : Hid (∀ W, SW W → Calls Tryz.prog 10 #[.int .i64 y, .int .i64 m, .int .i64 (d + 1)] W fun e w' => e = .returned (.tuple #[.int .i64 (n + 1), .nilIface]) ∧ w' = W) := fun W hW => by rw [← o2]; exact day_any y m (d + 1) o1 W hW.m
      have hl : (y == 9999) = false ∨ ((y == 9999) = true ∧ (m == 12) = false) ∨ ((y == 9999) = true ∧ (m == 12) = true ∧ (d == 31) = false) := by
        by_cases f1 : y = 9999
        · by_cases f2 : m = 12
          · right; right; have := l12 f1 f2; exact ⟨by simp [f1], by simp [f2], by rw [beq_eq_false_iff_ne]; omega⟩
          · right; left; exact ⟨by simp [f1], by simp [f2]⟩
        · left; simp [f1]
      have db : d ≤ 31 := by omega
      clear o1 o2 N1 N2 N3 N4 l12 c1 lb a6
      rcases hl with hl | ⟨hl, hl2⟩ | ⟨hl, hl2, hl3⟩
      rotate_left 1
      · have e9 : y = 9999 := by simpa using hl
        subst e9
        clear hl
        go_enter Tryz.func3, Tryz.ntmps3
        go_wp2_with fail
        refine (L _ HW.out).mono ?_
        rintro e w1 ⟨rfl, B1⟩
        have W1 := HW.out.below B1
        go_wp2_with fail
        refine (D1.out _ W1).mono ?_
        rintro e w' ⟨rfl, hw⟩
        subst w'
        go_wp2_with fail
        refine (D2.out _ W1).mono ?_
        rintro e w' ⟨rfl, hw⟩
        subst w'
        go_wp2_with fail
        refine (E1.out _ W1).mono ?_
        rintro e w' ⟨rfl, hw⟩
        subst w'
        go_wp2_with fail
        refine (E2.out _ W1).mono ?_
        rintro e w' ⟨rfl, hw⟩
        subst w'
        go_wp2_with fail
        go_ret
        exact ⟨rfl, B1⟩
      · have e9 : y = 9999 := by simpa using hl
        have e10 : m = 12 := by simpa using hl2
        subst e9
        subst e10
        clear hl hl2
        go_enter Tryz.func3, Tryz.ntmps3
        go_wp2_with fail
        refine (L _ HW.out).mono ?_
        rintro e w1 ⟨rfl, B1⟩
        have W1 := HW.out.below B1
        go_wp2_with fail
        refine (D1.out _ W1).mono ?_
        rintro e w' ⟨rfl, hw⟩
        subst w'
        go_wp2_with fail
        refine (D2.out _ W1).mono ?_
        rintro e w' ⟨rfl, hw⟩
        subst w'
        go_wp2_with fail
        refine (E1.out _ W1).mono ?_
        rintro e w' ⟨rfl, hw⟩
        subst w'
        go_wp2_with fail
        refine (E2.out _ W1).mono ?_
        rintro e w' ⟨rfl, hw⟩
        subst w'
        go_wp2_with fail
        go_ret
        exact ⟨rfl, B1⟩
      all_goals
        go_enter Tryz.func3, Tryz.ntmps3
        go_wp2_with fail
        refine (L _ HW.out).mono ?_
        rintro e w1 ⟨rfl, B1⟩
        have W1 := HW.out.below B1
        go_wp2_with fail
        refine (D1.out _ W1).mono ?_
        rintro e w' ⟨rfl, hw⟩
        subst w'
        go_wp2_with fail
        refine (D2.out _ W1).mono ?_
        rintro e w' ⟨rfl, hw⟩
        subst w'
        go_wp2_with fail
        refine (E1.out _ W1).mono ?_
        rintro e w' ⟨rfl, hw⟩
        subst w'
        go_wp2_with fail
        refine (E2.out _ W1).mono ?_
        rintro e w' ⟨rfl, hw⟩
        subst w'
        go_wp2_with fail
        go_ret
        exact ⟨rfl, B1⟩
    by_cases c2 : m < 12
    · obtain ⟨o1, o2⟩ := N2.out c1 c2
      have E1 : Hid (∀ W, SW W → Calls Tryz.prog 12 #[.int .i64 (n + 1)] W fun e w' => e = .returned (.tuple #[.int .i64 y, .int .i64 (m + 1), .int .i64 1]) ∧ w' = W) := fun W hW => date_of y (m + 1) 1 _ o1 o2 W hW.m
      have E2 : Hid (∀ W, SW W → Calls Tryz.prog 10 #[.int .i64 y, .int .i64 (m + 1), .int .i64 1] W fun e w' => e = .returned (.tuple #[.int .i64 (n + 1), .nilIface]) ∧ w' = W) := fun W hW => by rw [← o2]; exact day_any y (m + 1) 1 o1 W hW.m
      have hl2 : (m == 12) = false := by rw [beq_eq_false_iff_ne]; omega
      clear o1 o2 N1 N2 N3 N4 l12 c1 lb a6
      by_cases hy : y = 9999
      all_goals
        first
          | (have hl : (y == 9999) = true := by simp [hy])
          | (have hl : (y == 9999) = false := by simp [hy])
        clear hy
        go_enter Tryz.func3, Tryz.ntmps3
        go_wp2_with fail
        refine (L _ HW.out).mono ?_
        rintro e w1 ⟨rfl, B1⟩
        have W1 := HW.out.below B1
        go_wp2_with fail
        refine (D1.out _ W1).mono ?_
        rintro e w' ⟨rfl, hw⟩
        subst w'
        go_wp2_with fail
        refine (D2.out _ W1).mono ?_
        rintro e w' ⟨rfl, hw⟩
        subst w'
        go_wp2_with fail
        refine (E1.out _ W1).mono ?_
        rintro e w' ⟨rfl, hw⟩
        subst w'
        go_wp2_with fail
        refine (E2.out _ W1).mono ?_
        rintro e w' ⟨rfl, hw⟩
        subst w'
        go_wp2_with fail
        go_ret
        exact ⟨rfl, B1⟩
    by_cases c3 : y < 9999
    · obtain ⟨o1, o2⟩ := N3.out c1 c2 c3
      have em : m = 12 := by omega
      have E1 : Hid (∀ W, SW W → Calls Tryz.prog 12 #[.int .i64 (n + 1)] W fun e w' => e = .returned (.tuple #[.int .i64 (y + 1), .int .i64 1, .int .i64 1]) ∧ w' = W) := fun W hW => date_of (y + 1) 1 1 _ o1 o2 W hW.m
      have E2 : Hid (∀ W, SW W → Calls Tryz.prog 10 #[.int .i64 (y + 1), .int .i64 1, .int .i64 1] W fun e w' => e = .returned (.tuple #[.int .i64 (n + 1), .nilIface]) ∧ w' = W) := fun W hW => by rw [← o2]; exact day_any (y + 1) 1 1 o1 W hW.m
      have hl : (y == 9999) = false := by rw [beq_eq_false_iff_ne]; omega
      have hl3 : (y + 1 == y) = false := by rw [beq_eq_false_iff_ne]; omega
      clear o1 o2 N1 N2 N3 N4 l12 c1 lb a6 a3 a4 c2
      subst em
      all_goals
        go_enter Tryz.func3, Tryz.ntmps3
        go_wp2_with fail
        refine (L _ HW.out).mono ?_
        rintro e w1 ⟨rfl, B1⟩
        have W1 := HW.out.below B1
        go_wp2_with fail
        refine (D1.out _ W1).mono ?_
        rintro e w' ⟨rfl, hw⟩
        subst w'
        go_wp2_with fail
        refine (D2.out _ W1).mono ?_
        rintro e w' ⟨rfl, hw⟩
        subst w'
        go_wp2_with fail
        refine (E1.out _ W1).mono ?_
        rintro e w' ⟨rfl, hw⟩
        subst w'
        go_wp2_with fail
        refine (E2.out _ W1).mono ?_
        rintro e w' ⟨rfl, hw⟩
        subst w'
        go_wp2_with fail
        go_ret
        exact ⟨rfl, B1⟩
    · obtain ⟨e1, e2, e3, e4⟩ := N4.out c1 c2 c3
      clear N1 N2 N3 N4 l12 c1 c2 c3 lb a6 a1 a2 a3 a4 a5
      subst e1; subst e2; subst e3; subst e4
      have E1 : Hid (∀ W, SW W → Calls Tryz.prog 12 #[.int .i64 2932897] W fun e w' => e = .returned (.tuple #[.int .i64 0, .int .i64 0, .int .i64 0]) ∧ w' = W) := fun W hW => date_bad 2932897 (by omega) W
      all_goals
        go_enter Tryz.func3, Tryz.ntmps3
        go_wp2_with fail
        refine (L _ HW.out).mono ?_
        rintro e w1 ⟨rfl, B1⟩
        have W1 := HW.out.below B1
        go_wp2_with fail
        refine (D1.out _ W1).mono ?_
        rintro e w' ⟨rfl, hw⟩
        subst w'
        go_wp2_with fail
        refine (D2.out _ W1).mono ?_
        rintro e w' ⟨rfl, hw⟩
        subst w'
        go_wp2_with fail
        refine (E1.out _ W1).mono ?_
        rintro e w' ⟨rfl, hw⟩
        subst w'
        go_wp2_with fail
        go_ret
        exact ⟨rfl, B1⟩
  · have D1 : Hid (∀ W, SW W → Calls Tryz.prog 10 #[.int .i64 y, .int .i64 m, .int .i64 d] W fun e w' => e = .returned (.tuple #[.int .i64 0, .iface 28 (.int .i64 41)]) ∧ w' = W) := fun W hW => day_bad y m d hd W hW.m
    have I1 : Hid (∀ W, SW W → Calls Tryz.prog 11 #[.iface 28 (.int .i64 41), .int .i64 41] W fun e w' => e = .returned (.bool true) ∧ Below W.heap.size W w') := fun W hW => is_any 41 41 rfl W hW.e
    clear hd
    all_goals
        go_enter Tryz.func3, Tryz.ntmps3
        go_wp2_with fail
        refine (L _ HW.out).mono ?_
        rintro e w1 ⟨rfl, B1⟩
        have W1 := HW.out.below B1
        go_wp2_with fail
        refine (D1.out _ W1).mono ?_
        rintro e w' ⟨rfl, hw⟩
        subst w'
        go_wp2_with fail
        refine (I1.out _ W1).mono ?_
        rintro e w2 ⟨rfl, B2⟩
        go_wp2_with fail
        go_ret
        exact ⟨rfl, below_then B1 B2⟩
end Go.Proofs.YtchabeebpbaaeaaGreatDoor
