
import Derived.Test.YtbhohlmlmlpboaaGreatDoorSqB
import Derived.Test.YtbhohlmlmlpboaaGreatDoorRef
namespace Go.Proofs.YtbhohlmlmlpboaaGreatDoor
open Go.RowKit Go.Shelf
set_option linter.unusedVariables false
set_option linter.unusedSimpArgs false
set_option maxRecDepth 100000 in
set_option maxHeartbeats 4000000 in
theorem rdate_bad (n : Int) (h : n < -719528 ∨ 2932897 ≤ n) (w : World) : Calls Tryz.prog 10 #[.int .i64 n] w fun e w' => e = .returned (.tuple #[.int .i64 0, .int .i64 0, .int .i64 0]) ∧ w' = w := by
  by_cases c1 : n < -719528
  · clear h
    go_enter Tryz.func10, Tryz.ntmps10
    go_wp2
    exact bodyPost_ret (v := .tuple #[.int .i64 0, .int .i64 0, .int .i64 0]) (by simp [results, Tryz.results10, go_sem]) rfl ⟨rfl, rfl⟩
  by_cases c2 : 4000000 < n
  · clear h
    go_enter Tryz.func10, Tryz.ntmps10
    go_wp2
    exact bodyPost_ret (v := .tuple #[.int .i64 0, .int .i64 0, .int .i64 0]) (by simp [results, Tryz.results10, go_sem]) rfl ⟨rfl, rfl⟩
  have h1 : 2932897 ≤ n := by omega
  clear h
  have T0 : Hid (bgn 0 = -719528) := by show _ = _; decide
  have T1 : bgn 10000 = 2932897 := by decide
  have MN : Hid (∀ y : Int, y ≤ 9999 → bgn (y + 1) ≤ n) := by
    intro y hy
    by_cases e : y = 9999
    · subst e; rw [show (9999 : Int) + 1 = 10000 from rfl, T1]; exact h1
    · have := bgn_lt (y + 1) 10000 (by omega); omega
  clear T1
  have Y := fun (y : Int) (a : 0 ≤ y) (b : y ≤ 20000) => year_any y a b w
  go_enter Tryz.func10, Tryz.ntmps10
  go_wp2
  go_loop [5, 6] (fun l yy => ∃ y : Int, 0 ≤ y ∧ y ≤ 10000 ∧ yy = .int .i64 y ∧ l = .int .i64 (n - bgn y)) (fun _ yy => (10000 - intOf yy).toNat)
  case atStart => exact ⟨0, by omega, by omega, rfl, by rw [T0.out]; go_num⟩
  case round =>
    obtain ⟨y, y1, y2, rfl, rfl⟩ := hrel
    have bb := bgn_bd2 y y1 (by omega)
    have lp1 := lp_01 y
    have BS : Hid (bgn (y + 1) = bgn y + 365 + lp y) := bgn_succ y
    by_cases hy : y ≤ 9999
    · have hl : 365 + lp y ≤ n - bgn y := by
        have := MN.out y hy
        rw [BS.out] at this; omega
      go_wp2_with (go_at_call 22; refine (Y _ y1 (by omega)).mono ?_; rintro e w' ⟨rfl, rfl⟩)
      go_round
      case rel => exact ⟨y + 1, by omega, by omega, by go_num, by rw [BS.out]; go_num⟩
      case measure => simp [intOf]; omega
    · go_wp2
      exact bodyPost_ret (v := .tuple #[.int .i64 0, .int .i64 0, .int .i64 0]) (by simp [results, Tryz.results10, go_sem]) rfl ⟨rfl, rfl⟩
set_option maxRecDepth 100000 in
set_option maxHeartbeats 2000000 in
theorem month_else (y m : Int) (h : m < 1 ∨ 12 < m) (w : World) : Calls Tryz.prog 20 #[.int .i64 y, .int .i64 m] w fun e w' => e = .returned (.int .i64 0) ∧ w' = w := by
  have b1 : (m == 1) = false := by rw [beq_eq_false_iff_ne]; omega
  have b2 : (m == 2) = false := by rw [beq_eq_false_iff_ne]; omega
  have b3 : (m == 3) = false := by rw [beq_eq_false_iff_ne]; omega
  have b4 : (m == 4) = false := by rw [beq_eq_false_iff_ne]; omega
  have b5 : (m == 5) = false := by rw [beq_eq_false_iff_ne]; omega
  have b6 : (m == 6) = false := by rw [beq_eq_false_iff_ne]; omega
  have b7 : (m == 7) = false := by rw [beq_eq_false_iff_ne]; omega
  have b8 : (m == 8) = false := by rw [beq_eq_false_iff_ne]; omega
  have b9 : (m == 9) = false := by rw [beq_eq_false_iff_ne]; omega
  have b10 : (m == 10) = false := by rw [beq_eq_false_iff_ne]; omega
  have b11 : (m == 11) = false := by rw [beq_eq_false_iff_ne]; omega
  have b12 : (m == 12) = false := by rw [beq_eq_false_iff_ne]; omega
  clear h
  go_enter Tryz.func20, Tryz.ntmps20
  go_wp2
  go_ret
  exact ⟨rfl, rfl⟩
set_option maxRecDepth 100000 in
set_option maxHeartbeats 4000000 in
theorem rday_any (y m d : Int) (h : dayOk y m d) (w : World) : Calls Tryz.prog 7 #[.int .i64 y, .int .i64 m, .int .i64 d] w fun e w' => e = .returned (.tuple #[.int .i64 (dayN y m d), .agg #[.int .i64 0, .int .i64 0, .int .i64 0, .bool false, .bool false]]) ∧ Below w.heap.size w w' := by
  obtain ⟨a1, a2, a3, a4, a5, a6⟩ := h
  have T0 : Hid (bgn 0 = -719528) := by show _ = _; decide
  have lk := lenM_bd y m
  have by' := bgn_bd2 y a1 (by omega)
  have lpy := lp_01 y
  have cby := cum_bd y m a3 (by omega)
  have c1 : ¬ y < 0 := by omega
  have c2 : ¬ 9999 < y := by omega
  have c3 : ¬ d < 1 := by omega
  have c4 : ¬ lenM y m < d := by omega
  have Y : Hid (∀ (i : Int) (W : World), 0 ≤ i → i ≤ 20000 → Calls Tryz.prog 22 #[.int .i64 i] W fun e w' => e = .returned (.int .i64 (365 + lp i)) ∧ w' = W) := fun i W a b => year_any i a b W
  have M : Hid (∀ (k : Int) (W : World), 1 ≤ k → k ≤ 12 → Calls Tryz.prog 20 #[.int .i64 y, .int .i64 k] W fun e w' => e = .returned (.int .i64 (lenM y k)) ∧ w' = W) := fun k W a b => month_any y k a1 (by omega) a b W
  go_enter Tryz.func7, Tryz.ntmps7
  go_wp2_with (go_at_call 20; refine (M.out _ _ a3 a4).mono ?_; rintro e w' ⟨rfl, rfl⟩)
  go_loop [8, 9] (fun k ii => ∃ i : Int, 0 ≤ i ∧ i ≤ y ∧ ii = .int .i64 i ∧ k = .int .i64 (bgn i)) (fun _ ii => (10000 - intOf ii).toNat)
  case atStart => exact ⟨0, by omega, by omega, rfl, by rw [T0.out]⟩
  case round =>
    obtain ⟨i, i1, i2, rfl, rfl⟩ := hrel
    have bb := bgn_bd2 i i1 (by omega)
    have lp1 := lp_01 i
    have BS : Hid (bgn (i + 1) = bgn i + 365 + lp i) := bgn_succ i
    by_cases hi : i < y
    · go_wp2_with (go_at_call 22; refine (Y.out _ _ i1 (by omega)).mono ?_; rintro e w' ⟨rfl, rfl⟩)
      go_round
      case rel => exact ⟨i + 1, by omega, by omega, by go_num, by rw [BS.out]; go_num⟩
      case measure => simp [intOf]; omega
    · obtain rfl : i = y := by omega
      go_wp2
      go_loop [8, 10] (fun k mm => ∃ j : Int, 1 ≤ j ∧ j ≤ m ∧ mm = .int .i64 j ∧ k = .int .i64 (bgn i + cum i j)) (fun _ mm => (20 - intOf mm).toNat)
      case atStart => exact ⟨1, by omega, by omega, rfl, by simp [cum]⟩
      case round =>
        obtain ⟨j, j1, j2, rfl, rfl⟩ := hrel
        have cb := cum_bd i j j1 (by omega)
        have lj := lenM_bd i j
        have CS : Hid (cum i (j + 1) = cum i j + lenM i j) := cum_succ i j j1 (by omega)
        by_cases hj : j < m
        · go_wp2_with (go_at_call 20; refine (M.out _ _ j1 (by omega)).mono ?_; rintro e w' ⟨rfl, rfl⟩)
          go_round
          case rel => exact ⟨j + 1, by omega, by omega, by go_num, by rw [CS.out]; go_num⟩
          case measure => simp [intOf]; omega
        · obtain rfl : j = m := by omega
          go_wp2
          simp [bodyPost, results, Tryz.results7, go_sem]
          exact ⟨by unfold dayN; omega, below_new (Below.refl _ _) _⟩
set_option maxRecDepth 100000 in
set_option maxHeartbeats 4000000 in
theorem rday_bad (y m d : Int) (h : ¬ dayOk y m d) (w : World) : Calls Tryz.prog 7 #[.int .i64 y, .int .i64 m, .int .i64 d] w fun e w' => e = .returned (.tuple #[.int .i64 0, .agg #[.int .i64 41, .int .i64 0, .int .i64 0, .bool false, .bool false]]) ∧ Below w.heap.size w w' := by
  have HN : Hid (¬ dayOk y m d) := h
  clear h
  by_cases c1 : y < 0
  · go_enter Tryz.func7, Tryz.ntmps7
    go_wp2_with (go_at_call 21; refine (refnew 41 _).mono ?_; rintro e w' ⟨rfl, o1, rfl⟩)
    simp [bodyPost, results, Tryz.results7, go_sem]
    exact below_new (below_new (Below.refl _ _) _) _
  by_cases c2 : 9999 < y
  · go_enter Tryz.func7, Tryz.ntmps7
    go_wp2_with (go_at_call 21; refine (refnew 41 _).mono ?_; rintro e w' ⟨rfl, o1, rfl⟩)
    simp [bodyPost, results, Tryz.results7, go_sem]
    exact below_new (below_new (Below.refl _ _) _) _
  by_cases c3 : d < 1
  · go_enter Tryz.func7, Tryz.ntmps7
    go_wp2_with (go_at_call 21; refine (refnew 41 _).mono ?_; rintro e w' ⟨rfl, o1, rfl⟩)
    simp [bodyPost, results, Tryz.results7, go_sem]
    exact below_new (below_new (Below.refl _ _) _) _
  obtain ⟨L, hL, M⟩ : ∃ L : Int, L < d ∧ ∀ W, Calls Tryz.prog 20 #[.int .i64 y, .int .i64 m] W fun e w' => e = .returned (.int .i64 L) ∧ w' = W := by
    by_cases cm : m < 1 ∨ 12 < m
    · exact ⟨0, by omega, fun W => month_else y m cm W⟩
    · refine ⟨lenM y m, ?_, fun W => month_any y m (by omega) (by omega) (by omega) (by omega) W⟩
      apply Decidable.byContradiction; intro hh
      exact HN.out ⟨by omega, by omega, by omega, by omega, by omega, by omega⟩
  have HM : Hid (∀ W, Calls Tryz.prog 20 #[.int .i64 y, .int .i64 m] W fun e w' => e = .returned (.int .i64 L) ∧ w' = W) := M
  clear M HN
  go_enter Tryz.func7, Tryz.ntmps7
  go_wp2_with (first | (go_at_call 20; refine (HM.out _).mono ?_; rintro e w' ⟨rfl, rfl⟩) | (go_at_call 21; refine (refnew 41 _).mono ?_; rintro e w' ⟨rfl, o1, rfl⟩))
  simp [bodyPost, results, Tryz.results7, go_sem]
  exact below_new (below_new (Below.refl _ _) _) _
end Go.Proofs.YtbhohlmlmlpboaaGreatDoor
