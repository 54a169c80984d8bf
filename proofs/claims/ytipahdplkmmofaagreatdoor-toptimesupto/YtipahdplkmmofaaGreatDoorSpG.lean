
import Derived.Test.YtipahdplkmmofaaGreatDoorSpF
namespace Go.Proofs.YtipahdplkmmofaaGreatDoor
open Go.RowKit
set_option linter.unusedVariables false
set_option linter.unusedSimpArgs false
theorem began_0 (w : World) : Calls Tryz.prog 90 #[.int .i64 0] w fun e w' => e = .returned (.int .i64 (-719528)) ∧ w' = w := by
  have h := began_any 0 (by omega) (by omega) w
  rw [show bgn 0 = -719528 by decide] at h
  exact h
theorem began_1 (w : World) : Calls Tryz.prog 90 #[.int .i64 10000] w fun e w' => e = .returned (.int .i64 2932897) ∧ w' = w := by
  have h := began_any 10000 (by omega) (by omega) w
  rw [show bgn 10000 = 2932897 by decide] at h
  exact h
set_option maxRecDepth 100000 in
set_option maxHeartbeats 2000000 in
theorem date_bad (n : Int) (h : n < -719528 ∨ 2932897 ≤ n) (w : World) : Calls Tryz.prog 51 #[.int .i64 n] w fun e w' => e = .returned (.tuple #[.int .i64 0, .int .i64 0, .int .i64 0]) ∧ w' = w := by
  by_cases a : n < -719528
  all_goals
    first
      | have b : 2932897 ≤ n := by omega
      | skip
    clear h
    go_enter Tryz.func51, Tryz.ntmps51
    go_wp2_with (first | (go_at_call 90; with_reducible refine (began_0 _).mono ?_; rintro e w' ⟨rfl, rfl⟩) | (go_at_call 90; with_reducible refine (began_1 _).mono ?_; rintro e w' ⟨rfl, rfl⟩))
    exact bodyPost_ret (v := .tuple #[.int .i64 0, .int .i64 0, .int .i64 0]) (by simp [results, Tryz.results51, go_sem]) rfl ⟨rfl, rfl⟩
set_option maxRecDepth 100000 in
set_option maxHeartbeats 4000000 in
theorem date_lo (n g : Int) (h1 : -719528 ≤ n) (h2 : n < 2932897) (hg : (n + 719528) * 400 / 146097 = g) (ha : n < bgn g) (hy : yOf n = g - 1) (w : World) (hm : MT w) : Calls Tryz.prog 51 #[.int .i64 n] w fun e w' => e = .returned (.tuple #[.int .i64 (yOf n), .int .i64 (ymOf n), .int .i64 (ydOf n)]) ∧ w' = w := by
  have g1 : 0 ≤ g ∧ g ≤ 10000 := by omega
  obtain ⟨g1, g2⟩ := g1
  obtain ⟨y1, y2, y3, y4⟩ := yOf_ok n h1 h2
  rw [hy] at y1 y2 y3 y4
  clear hy
  have nlt : ¬ n < -719528 := by omega
  have nle : ¬ 2932897 ≤ n := by omega
  rw [bgn_succ] at y4
  have lp1 := lp_01 (g - 1)
  have bb := bgn_bd2 (g - 1) (by omega) (by omega)
  have L := fun (k : Int) (h1 : 1 ≤ k) (h2 : k ≤ 12) => length_any (g - 1) k (by omega) (by omega) h1 h2 w hm
  go_enter Tryz.func51, Tryz.ntmps51
  go_wp2_with (first | (go_at_call 90; with_reducible refine (began_0 _).mono ?_; rintro e w' ⟨rfl, rfl⟩) | (go_at_call 90; with_reducible refine (began_1 _).mono ?_; rintro e w' ⟨rfl, rfl⟩) | (go_at_call 90; refine (began_any _ (by omega) (by omega) _).mono ?_; rintro e w' ⟨rfl, rfl⟩))
  go_loop [6, 7] (fun mo da => ∃ k : Int, 1 ≤ k ∧ k ≤ 12 ∧ mo = .int .i64 k ∧ 0 ≤ n - bgn (g - 1) - cum (g - 1) k ∧ da = .int .i64 (n - bgn (g - 1) - cum (g - 1) k + 1)) (fun k _ => (12 - intOf k).toNat)
  case atStart => exact ⟨1, by omega, by omega, rfl, by simp [cum]; omega, by simp [cum]⟩
  case round =>
    obtain ⟨k, hk1, hk2, rfl, hr, rfl⟩ := hrel
    have cb := cum_bd (g - 1) k hk1 (by omega)
    have lk := lenM_bd (g - 1) k
    have cs := cum_succ (g - 1) k hk1 (by omega)
    have CS : Hid (cum (g - 1) (k + 1) = cum (g - 1) k + lenM (g - 1) k) := cs
    by_cases hlt : lenM (g - 1) k < n - bgn (g - 1) - cum (g - 1) k + 1
    · have hk : k < 12 := by
        apply Decidable.byContradiction; intro hh
        have e : k = 12 := by omega
        subst e
        have c13 := cum_13 (g - 1)
        have : (12 : Int) + 1 = 13 := rfl
        rw [this, c13] at cs
        omega
      clear cs
      go_wp2_with (go_at_call 91; refine (L _ hk1 hk2).mono ?_; rintro e w' ⟨rfl, rfl⟩)
      go_round
      case rel => exact ⟨k + 1, by omega, by omega, by go_num, by rw [CS.out]; omega, by rw [CS.out]; go_num⟩
      case measure => simp [intOf]; omega
    · have U := date_uniq (y := g - 1) (m := k) (d := n - bgn (g - 1) - cum (g - 1) k + 1) (n := n) ⟨y1, y2, hk1, hk2, by omega, by omega⟩ (by unfold dayN; omega)
      have HU : Hid (g - 1 = yOf n ∧ k = ymOf n ∧ n - bgn (g - 1) - cum (g - 1) k + 1 = ydOf n) := U
      clear U cs
      go_wp2_with (go_at_call 91; refine (L _ hk1 hk2).mono ?_; rintro e w' ⟨rfl, rfl⟩)
      refine bodyPost_ret (v := .tuple #[.int .i64 (g - 1), .int .i64 k, .int .i64 (n - bgn (g - 1) - cum (g - 1) k + 1)]) (by simp [results, Tryz.results51, go_sem]) rfl ⟨?_, rfl⟩
      obtain ⟨e1, e2, e3⟩ := HU.out
      rw [← e1, ← e2, ← e3]
set_option maxRecDepth 100000 in
set_option maxHeartbeats 4000000 in
theorem date_hi (n g : Int) (h1 : -719528 ≤ n) (h2 : n < 2932897) (hg : (n + 719528) * 400 / 146097 = g) (ha : ¬ n < bgn g) (hb : bgn (g + 1) ≤ n) (hy : yOf n = g + 1) (w : World) (hm : MT w) : Calls Tryz.prog 51 #[.int .i64 n] w fun e w' => e = .returned (.tuple #[.int .i64 (yOf n), .int .i64 (ymOf n), .int .i64 (ydOf n)]) ∧ w' = w := by
  have g1 : 0 ≤ g ∧ g ≤ 10000 := by omega
  obtain ⟨g1, g2⟩ := g1
  obtain ⟨y1, y2, y3, y4⟩ := yOf_ok n h1 h2
  rw [hy] at y1 y2 y3 y4
  clear hy
  have nlt : ¬ n < -719528 := by omega
  have nle : ¬ 2932897 ≤ n := by omega
  rw [bgn_succ] at y4
  have lp1 := lp_01 (g + 1)
  have bb := bgn_bd2 (g + 1) (by omega) (by omega)
  have L := fun (k : Int) (h1 : 1 ≤ k) (h2 : k ≤ 12) => length_any (g + 1) k (by omega) (by omega) h1 h2 w hm
  go_enter Tryz.func51, Tryz.ntmps51
  go_wp2_with (first | (go_at_call 90; with_reducible refine (began_0 _).mono ?_; rintro e w' ⟨rfl, rfl⟩) | (go_at_call 90; with_reducible refine (began_1 _).mono ?_; rintro e w' ⟨rfl, rfl⟩) | (go_at_call 90; refine (began_any _ (by omega) (by omega) _).mono ?_; rintro e w' ⟨rfl, rfl⟩))
  go_loop [6, 7] (fun mo da => ∃ k : Int, 1 ≤ k ∧ k ≤ 12 ∧ mo = .int .i64 k ∧ 0 ≤ n - bgn (g + 1) - cum (g + 1) k ∧ da = .int .i64 (n - bgn (g + 1) - cum (g + 1) k + 1)) (fun k _ => (12 - intOf k).toNat)
  case atStart => exact ⟨1, by omega, by omega, rfl, by simp [cum]; omega, by simp [cum]⟩
  case round =>
    obtain ⟨k, hk1, hk2, rfl, hr, rfl⟩ := hrel
    have cb := cum_bd (g + 1) k hk1 (by omega)
    have lk := lenM_bd (g + 1) k
    have cs := cum_succ (g + 1) k hk1 (by omega)
    have CS : Hid (cum (g + 1) (k + 1) = cum (g + 1) k + lenM (g + 1) k) := cs
    by_cases hlt : lenM (g + 1) k < n - bgn (g + 1) - cum (g + 1) k + 1
    · have hk : k < 12 := by
        apply Decidable.byContradiction; intro hh
        have e : k = 12 := by omega
        subst e
        have c13 := cum_13 (g + 1)
        have : (12 : Int) + 1 = 13 := rfl
        rw [this, c13] at cs
        omega
      clear cs
      go_wp2_with (go_at_call 91; refine (L _ hk1 hk2).mono ?_; rintro e w' ⟨rfl, rfl⟩)
      go_round
      case rel => exact ⟨k + 1, by omega, by omega, by go_num, by rw [CS.out]; omega, by rw [CS.out]; go_num⟩
      case measure => simp [intOf]; omega
    · have U := date_uniq (y := g + 1) (m := k) (d := n - bgn (g + 1) - cum (g + 1) k + 1) (n := n) ⟨y1, y2, hk1, hk2, by omega, by omega⟩ (by unfold dayN; omega)
      have HU : Hid (g + 1 = yOf n ∧ k = ymOf n ∧ n - bgn (g + 1) - cum (g + 1) k + 1 = ydOf n) := U
      clear U cs
      go_wp2_with (go_at_call 91; refine (L _ hk1 hk2).mono ?_; rintro e w' ⟨rfl, rfl⟩)
      refine bodyPost_ret (v := .tuple #[.int .i64 (g + 1), .int .i64 k, .int .i64 (n - bgn (g + 1) - cum (g + 1) k + 1)]) (by simp [results, Tryz.results51, go_sem]) rfl ⟨?_, rfl⟩
      obtain ⟨e1, e2, e3⟩ := HU.out
      rw [← e1, ← e2, ← e3]
set_option maxRecDepth 100000 in
set_option maxHeartbeats 4000000 in
theorem date_at (n g : Int) (h1 : -719528 ≤ n) (h2 : n < 2932897) (hg : (n + 719528) * 400 / 146097 = g) (ha : ¬ n < bgn g) (hb : ¬ bgn (g + 1) ≤ n) (hy : yOf n = g) (w : World) (hm : MT w) : Calls Tryz.prog 51 #[.int .i64 n] w fun e w' => e = .returned (.tuple #[.int .i64 (yOf n), .int .i64 (ymOf n), .int .i64 (ydOf n)]) ∧ w' = w := by
  have g1 : 0 ≤ g ∧ g ≤ 10000 := by omega
  obtain ⟨g1, g2⟩ := g1
  obtain ⟨y1, y2, y3, y4⟩ := yOf_ok n h1 h2
  rw [hy] at y1 y2 y3 y4
  clear hy
  have nlt : ¬ n < -719528 := by omega
  have nle : ¬ 2932897 ≤ n := by omega
  rw [bgn_succ] at y4
  have lp1 := lp_01 (g)
  have bb := bgn_bd2 (g) (by omega) (by omega)
  have L := fun (k : Int) (h1 : 1 ≤ k) (h2 : k ≤ 12) => length_any (g) k (by omega) (by omega) h1 h2 w hm
  go_enter Tryz.func51, Tryz.ntmps51
  go_wp2_with (first | (go_at_call 90; with_reducible refine (began_0 _).mono ?_; rintro e w' ⟨rfl, rfl⟩) | (go_at_call 90; with_reducible refine (began_1 _).mono ?_; rintro e w' ⟨rfl, rfl⟩) | (go_at_call 90; refine (began_any _ (by omega) (by omega) _).mono ?_; rintro e w' ⟨rfl, rfl⟩))
  go_loop [6, 7] (fun mo da => ∃ k : Int, 1 ≤ k ∧ k ≤ 12 ∧ mo = .int .i64 k ∧ 0 ≤ n - bgn (g) - cum (g) k ∧ da = .int .i64 (n - bgn (g) - cum (g) k + 1)) (fun k _ => (12 - intOf k).toNat)
  case atStart => exact ⟨1, by omega, by omega, rfl, by simp [cum]; omega, by simp [cum]⟩
  case round =>
    obtain ⟨k, hk1, hk2, rfl, hr, rfl⟩ := hrel
    have cb := cum_bd (g) k hk1 (by omega)
    have lk := lenM_bd (g) k
    have cs := cum_succ (g) k hk1 (by omega)
    have CS : Hid (cum (g) (k + 1) = cum (g) k + lenM (g) k) := cs
    by_cases hlt : lenM (g) k < n - bgn (g) - cum (g) k + 1
    · have hk : k < 12 := by
        apply Decidable.byContradiction; intro hh
        have e : k = 12 := by omega
        subst e
        have c13 := cum_13 (g)
        have : (12 : Int) + 1 = 13 := rfl
        rw [this, c13] at cs
        omega
      clear cs
      go_wp2_with (go_at_call 91; refine (L _ hk1 hk2).mono ?_; rintro e w' ⟨rfl, rfl⟩)
      go_round
      case rel => exact ⟨k + 1, by omega, by omega, by go_num, by rw [CS.out]; omega, by rw [CS.out]; go_num⟩
      case measure => simp [intOf]; omega
    · have U := date_uniq (y := g) (m := k) (d := n - bgn (g) - cum (g) k + 1) (n := n) ⟨y1, y2, hk1, hk2, by omega, by omega⟩ (by unfold dayN; omega)
      have HU : Hid (g = yOf n ∧ k = ymOf n ∧ n - bgn (g) - cum (g) k + 1 = ydOf n) := U
      clear U cs
      go_wp2_with (go_at_call 91; refine (L _ hk1 hk2).mono ?_; rintro e w' ⟨rfl, rfl⟩)
      refine bodyPost_ret (v := .tuple #[.int .i64 (g), .int .i64 k, .int .i64 (n - bgn (g) - cum (g) k + 1)]) (by simp [results, Tryz.results51, go_sem]) rfl ⟨?_, rfl⟩
      obtain ⟨e1, e2, e3⟩ := HU.out
      rw [← e1, ← e2, ← e3]
theorem date_any (n : Int) (h1 : -719528 ≤ n) (h2 : n < 2932897) (w : World) (hm : MT w) : Calls Tryz.prog 51 #[.int .i64 n] w fun e w' => e = .returned (.tuple #[.int .i64 (yOf n), .int .i64 (ymOf n), .int .i64 (ydOf n)]) ∧ w' = w := by
  by_cases ha : n < bgn ((n + 719528) * 400 / 146097)
  · exact date_lo n _ h1 h2 rfl ha (by unfold yOf; rw [if_pos ha]) w hm
  · by_cases hb : bgn ((n + 719528) * 400 / 146097 + 1) ≤ n
    · exact date_hi n _ h1 h2 rfl ha hb (by unfold yOf; rw [if_neg ha, if_pos hb]) w hm
    · exact date_at n _ h1 h2 rfl ha hb (by unfold yOf; rw [if_neg ha, if_neg hb]) w hm
end Go.Proofs.YtipahdplkmmofaaGreatDoor
