
import Derived.Test.YtchabeebpbaaeaaGreatDoorSpLw
import Derived.Test.YtchabeebpbaaeaaGreatDoorSpO
namespace Go.Proofs.YtchabeebpbaaeaaGreatDoor
open Go.RowKit Go.Shelf
set_option linter.unusedVariables false
set_option linter.unusedSimpArgs false
set_option maxRecDepth 100000 in
theorem runit0 (w : World) : Calls Tryz.prog 24 #[.string ⟨#[119]⟩] w fun e w' => e = .returned (.int .i64 604800000000000) ∧ w' = w := by
  go_enter Tryz.func24, Tryz.ntmps24
  go_wp2
  go_ret
  exact ⟨rfl, rfl⟩
set_option maxRecDepth 100000 in
theorem runit1 (w : World) : Calls Tryz.prog 24 #[.string ⟨#[100]⟩] w fun e w' => e = .returned (.int .i64 86400000000000) ∧ w' = w := by
  go_enter Tryz.func24, Tryz.ntmps24
  go_wp2
  go_ret
  exact ⟨rfl, rfl⟩
set_option maxRecDepth 100000 in
theorem runit2 (w : World) : Calls Tryz.prog 24 #[.string ⟨#[104]⟩] w fun e w' => e = .returned (.int .i64 3600000000000) ∧ w' = w := by
  go_enter Tryz.func24, Tryz.ntmps24
  go_wp2
  go_ret
  exact ⟨rfl, rfl⟩
set_option maxRecDepth 100000 in
theorem runit3 (w : World) : Calls Tryz.prog 24 #[.string ⟨#[109]⟩] w fun e w' => e = .returned (.int .i64 60000000000) ∧ w' = w := by
  go_enter Tryz.func24, Tryz.ntmps24
  go_wp2
  go_ret
  exact ⟨rfl, rfl⟩
set_option maxRecDepth 100000 in
theorem runit4 (w : World) : Calls Tryz.prog 24 #[.string ⟨#[115]⟩] w fun e w' => e = .returned (.int .i64 1000000000) ∧ w' = w := by
  go_enter Tryz.func24, Tryz.ntmps24
  go_wp2
  go_ret
  exact ⟨rfl, rfl⟩
set_option maxRecDepth 100000 in
theorem runit5 (w : World) : Calls Tryz.prog 24 #[.string ⟨#[109, 115]⟩] w fun e w' => e = .returned (.int .i64 1000000) ∧ w' = w := by
  go_enter Tryz.func24, Tryz.ntmps24
  go_wp2
  go_ret
  exact ⟨rfl, rfl⟩
set_option maxRecDepth 100000 in
theorem runit6 (w : World) : Calls Tryz.prog 24 #[.string ⟨#[117, 115]⟩] w fun e w' => e = .returned (.int .i64 1000) ∧ w' = w := by
  go_enter Tryz.func24, Tryz.ntmps24
  go_wp2
  go_ret
  exact ⟨rfl, rfl⟩
set_option maxRecDepth 100000 in
theorem runit7 (w : World) : Calls Tryz.prog 24 #[.string ⟨#[110, 115]⟩] w fun e w' => e = .returned (.int .i64 1) ∧ w' = w := by
  go_enter Tryz.func24, Tryz.ntmps24
  go_wp2
  go_ret
  exact ⟨rfl, rfl⟩
theorem mod_neg (n z : Int) : ((-n) % z = 0) ↔ (n % z = 0) := by
  constructor
  · intro h; exact Int.emod_eq_zero_of_dvd (Int.dvd_neg.1 (Int.dvd_of_emod_eq_zero h))
  · intro h; exact Int.emod_eq_zero_of_dvd (Int.dvd_neg.2 (Int.dvd_of_emod_eq_zero h))
theorem prU_neg (n : Int) : prU (-n) = prU n := by unfold prU; simp only [mod_neg]
theorem prN_neg (n : Int) (h : n < 0) : prN n = 45 :: prN (-n) := by
  unfold prN
  rw [prU_neg]
  have hm := prU_mod n
  have us := usz_bd (prU n)
  have ex : n / usz (prU n) * usz (prU n) = n := Int.ediv_mul_cancel (Int.dvd_of_emod_eq_zero hm)
  have e1 : (-n) / usz (prU n) = - (n / usz (prU n)) := by rw [Int.neg_ediv_of_dvd (Int.dvd_of_emod_eq_zero hm)]
  have hq : n / usz (prU n) < 0 := by
    apply Decidable.byContradiction; intro hh
    have := Int.mul_nonneg (show 0 ≤ n / usz (prU n) by omega) (show 0 ≤ usz (prU n) by omega)
    omega
  rw [e1]
  unfold Lib.itoa
  rw [if_pos hq, if_neg (by omega), List.cons_append]
  congr 2
  congr 1
  omega
set_option maxRecDepth 100000 in
set_option maxHeartbeats 8000000 in
theorem rprint_pos (m : Int) (im : I64 m) (hpos : 0 < m) (w : World) (hP : PT w) : Calls Tryz.prog 14 #[.int .i64 m] w fun e w' => e = .returned (.string (B (prN m))) ∧ Below w.heap.size w w' := by
  have HP : Hid (PT w) := hP
  have HB := prU_bd m
  have h0 : (m == 0) = false := by rw [beq_eq_false_iff_ne]; omega
  have hb : (m == -9223372036854775808) = false := by rw [beq_eq_false_iff_ne]; omega
  have hn : ¬ m < 0 := by omega
  clear hP
  go_enter Tryz.func14, Tryz.ntmps14
  go_wp2
  obtain ⟨N, hN⟩ : ∃ N, w.heap.size = N := ⟨_, rfl⟩
  obtain ⟨WA, hWA⟩ : ∃ WA, w.alloc (.cells #[.string ⟨#[119]⟩, .string ⟨#[100]⟩, .string ⟨#[104]⟩, .string ⟨#[109]⟩, .string ⟨#[115]⟩, .string ⟨#[109, 115]⟩, .string ⟨#[117, 115]⟩, .string ⟨#[110, 115]⟩] 49) = WA := ⟨_, rfl⟩
  have BA : Below w.heap.size w WA := by rw [← hWA]; exact below_new (Below.refl _ _) _
  have a0 : WA.cell? ⟨N, 0, none⟩ = some (.string ⟨#[119]⟩) := by rw [← hWA, ← hN]; simp [go_sem]
  have a1 : WA.cell? ⟨N, 1, none⟩ = some (.string ⟨#[100]⟩) := by rw [← hWA, ← hN]; simp [go_sem]
  have a2 : WA.cell? ⟨N, 2, none⟩ = some (.string ⟨#[104]⟩) := by rw [← hWA, ← hN]; simp [go_sem]
  have a3 : WA.cell? ⟨N, 3, none⟩ = some (.string ⟨#[109]⟩) := by rw [← hWA, ← hN]; simp [go_sem]
  have a4 : WA.cell? ⟨N, 4, none⟩ = some (.string ⟨#[115]⟩) := by rw [← hWA, ← hN]; simp [go_sem]
  have a5 : WA.cell? ⟨N, 5, none⟩ = some (.string ⟨#[109, 115]⟩) := by rw [← hWA, ← hN]; simp [go_sem]
  have a6 : WA.cell? ⟨N, 6, none⟩ = some (.string ⟨#[117, 115]⟩) := by rw [← hWA, ← hN]; simp [go_sem]
  have a7 : WA.cell? ⟨N, 7, none⟩ = some (.string ⟨#[110, 115]⟩) := by rw [← hWA, ← hN]; simp [go_sem]
  rw [hWA, hN]
  clear hWA hN
  go_loop [4] (fun u => ∃ j : Nat, (j : Int) ≤ prU m ∧ j ≤ 7 ∧ u = .int .i64 j) (fun u => 8 - (intOf u).toNat)
  case atStart => exact ⟨0, by have := HB.1; omega, by omega, rfl⟩
  case round =>
    obtain ⟨j, hj, hj7, rfl⟩ := hrel
    clear HB
    have hc : j = 0 ∨ j = 1 ∨ j = 2 ∨ j = 3 ∨ j = 4 ∨ j = 5 ∨ j = 6 ∨ j = 7 := by omega
    rcases hc with e | e | e | e | e | e | e | e <;> subst e
    · by_cases hz : m % 604800000000000 = 0
      · have HU1 : Hid (prU m = 0) := prU_at0 hj hz
        have HT : Hid (B (prN m) = B (Lib.itoa (m / 604800000000000)) ++ (⟨#[119]⟩ : ByteArray)) := by
          show _ = _
          unfold prN; rw [HU1.out, show usz 0 = 604800000000000 from rfl, show unm 0 = [119] from rfl, ← B_app]; rfl
        have iq : I64 (m / 604800000000000) := by unfold I64 at im ⊢; omega
        have tl := itoa_len0 _ iq
        rw [← B_size] at tl
        have F : Hid (∀ W, PT W → Calls Tryz.prog 23 #[.int .i64 (m / 604800000000000), .int .i64 10] W fun e w' => e = .returned (.string (B (Lib.itoa (m / 604800000000000)))) ∧ Below W.heap.size W w') := fun W h => formB _ iq W h
        generalize B (Lib.itoa (m / 604800000000000)) = T at *
        have tw : IntKind.i64.wrap (m / 604800000000000) = m / 604800000000000 := IntWalk.i64_in _ ⟨iq.1, by have := iq.2; omega⟩
        have hzb : (m % 604800000000000 == 0) = true := by simp [hz]
        have td := tdiv_ex hz
        have c1 : ¬ 9223372036854775807 < T.size + 1 := by omega
        have SS : Below w.heap.size w WA.drew ∧ WA.drew.cell? ⟨N, 0, none⟩ = some (.string ⟨#[119]⟩) := ⟨BA.drew, a0⟩
        have HPd : Hid (PT WA.drew) := HP.out.below BA.drew
        clear hz tl hj HU1
        go_wp2_with (go_at_call 24; refine (runit0 _).mono ?_; rintro e w' ⟨rfl, hw⟩; subst w')
        go_region_held3 (fun W => Below w.heap.size w W ∧ W.cell? ⟨N, 0, none⟩ = some (.string ⟨#[119]⟩)) (first | assumption)
          (first | (go_at_call 24; (with_reducible refine Calls.mono (runit0 _) ?_); rintro e w1 ⟨rfl, hw⟩; subst w1) | (go_at_call 23; (with_reducible refine Calls.mono (F.out _ HPd.out) ?_); rintro e w2 ⟨rfl, B2⟩; have SS2 : Below w.heap.size w w2 ∧ w2.cell? ⟨N, 0, none⟩ = some (.string ⟨#[119]⟩) := ⟨below_then SS.1 B2, by rw [B2.cell (World.block_lt_of_cell? _ _ SS.2)]; exact SS.2⟩))
        all_goals
          go_wp2
          go_ret
          exact ⟨by rw [HT.out]; rfl, (by assumption : Below w.heap.size w _ ∧ _).1⟩
      · have hzb : (m % 604800000000000 == 0) = false := by simp [hz]
        have hj' := prU_no0 hj hz
        go_wp2_with (go_at_call 24; refine (runit0 _).mono ?_; rintro e w' ⟨rfl, hw⟩; subst w')
        go_round
        case rel => exact ⟨0 + 1, hj', by omega, by first | rfl | go_num⟩
        case measure => simp [intOf]
    · by_cases hz : m % 86400000000000 = 0
      · have HU1 : Hid (prU m = 1) := prU_at1 hj hz
        have HT : Hid (B (prN m) = B (Lib.itoa (m / 86400000000000)) ++ (⟨#[100]⟩ : ByteArray)) := by
          show _ = _
          unfold prN; rw [HU1.out, show usz 1 = 86400000000000 from rfl, show unm 1 = [100] from rfl, ← B_app]; rfl
        have iq : I64 (m / 86400000000000) := by unfold I64 at im ⊢; omega
        have tl := itoa_len0 _ iq
        rw [← B_size] at tl
        have F : Hid (∀ W, PT W → Calls Tryz.prog 23 #[.int .i64 (m / 86400000000000), .int .i64 10] W fun e w' => e = .returned (.string (B (Lib.itoa (m / 86400000000000)))) ∧ Below W.heap.size W w') := fun W h => formB _ iq W h
        generalize B (Lib.itoa (m / 86400000000000)) = T at *
        have tw : IntKind.i64.wrap (m / 86400000000000) = m / 86400000000000 := IntWalk.i64_in _ ⟨iq.1, by have := iq.2; omega⟩
        have hzb : (m % 86400000000000 == 0) = true := by simp [hz]
        have td := tdiv_ex hz
        have c1 : ¬ 9223372036854775807 < T.size + 1 := by omega
        have SS : Below w.heap.size w WA.drew ∧ WA.drew.cell? ⟨N, 1, none⟩ = some (.string ⟨#[100]⟩) := ⟨BA.drew, a1⟩
        have HPd : Hid (PT WA.drew) := HP.out.below BA.drew
        clear hz tl hj HU1
        go_wp2_with (go_at_call 24; refine (runit1 _).mono ?_; rintro e w' ⟨rfl, hw⟩; subst w')
        go_region_held3 (fun W => Below w.heap.size w W ∧ W.cell? ⟨N, 1, none⟩ = some (.string ⟨#[100]⟩)) (first | assumption)
          (first | (go_at_call 24; (with_reducible refine Calls.mono (runit1 _) ?_); rintro e w1 ⟨rfl, hw⟩; subst w1) | (go_at_call 23; (with_reducible refine Calls.mono (F.out _ HPd.out) ?_); rintro e w2 ⟨rfl, B2⟩; have SS2 : Below w.heap.size w w2 ∧ w2.cell? ⟨N, 1, none⟩ = some (.string ⟨#[100]⟩) := ⟨below_then SS.1 B2, by rw [B2.cell (World.block_lt_of_cell? _ _ SS.2)]; exact SS.2⟩))
        all_goals
          go_wp2
          go_ret
          exact ⟨by rw [HT.out]; rfl, (by assumption : Below w.heap.size w _ ∧ _).1⟩
      · have hzb : (m % 86400000000000 == 0) = false := by simp [hz]
        have hj' := prU_no1 hj hz
        go_wp2_with (go_at_call 24; refine (runit1 _).mono ?_; rintro e w' ⟨rfl, hw⟩; subst w')
        go_round
        case rel => exact ⟨1 + 1, hj', by omega, by first | rfl | go_num⟩
        case measure => simp [intOf]
    · by_cases hz : m % 3600000000000 = 0
      · have HU1 : Hid (prU m = 2) := prU_at2 hj hz
        have HT : Hid (B (prN m) = B (Lib.itoa (m / 3600000000000)) ++ (⟨#[104]⟩ : ByteArray)) := by
          show _ = _
          unfold prN; rw [HU1.out, show usz 2 = 3600000000000 from rfl, show unm 2 = [104] from rfl, ← B_app]; rfl
        have iq : I64 (m / 3600000000000) := by unfold I64 at im ⊢; omega
        have tl := itoa_len0 _ iq
        rw [← B_size] at tl
        have F : Hid (∀ W, PT W → Calls Tryz.prog 23 #[.int .i64 (m / 3600000000000), .int .i64 10] W fun e w' => e = .returned (.string (B (Lib.itoa (m / 3600000000000)))) ∧ Below W.heap.size W w') := fun W h => formB _ iq W h
        generalize B (Lib.itoa (m / 3600000000000)) = T at *
        have tw : IntKind.i64.wrap (m / 3600000000000) = m / 3600000000000 := IntWalk.i64_in _ ⟨iq.1, by have := iq.2; omega⟩
        have hzb : (m % 3600000000000 == 0) = true := by simp [hz]
        have td := tdiv_ex hz
        have c1 : ¬ 9223372036854775807 < T.size + 1 := by omega
        have SS : Below w.heap.size w WA.drew ∧ WA.drew.cell? ⟨N, 2, none⟩ = some (.string ⟨#[104]⟩) := ⟨BA.drew, a2⟩
        have HPd : Hid (PT WA.drew) := HP.out.below BA.drew
        clear hz tl hj HU1
        go_wp2_with (go_at_call 24; refine (runit2 _).mono ?_; rintro e w' ⟨rfl, hw⟩; subst w')
        go_region_held3 (fun W => Below w.heap.size w W ∧ W.cell? ⟨N, 2, none⟩ = some (.string ⟨#[104]⟩)) (first | assumption)
          (first | (go_at_call 24; (with_reducible refine Calls.mono (runit2 _) ?_); rintro e w1 ⟨rfl, hw⟩; subst w1) | (go_at_call 23; (with_reducible refine Calls.mono (F.out _ HPd.out) ?_); rintro e w2 ⟨rfl, B2⟩; have SS2 : Below w.heap.size w w2 ∧ w2.cell? ⟨N, 2, none⟩ = some (.string ⟨#[104]⟩) := ⟨below_then SS.1 B2, by rw [B2.cell (World.block_lt_of_cell? _ _ SS.2)]; exact SS.2⟩))
        all_goals
          go_wp2
          go_ret
          exact ⟨by rw [HT.out]; rfl, (by assumption : Below w.heap.size w _ ∧ _).1⟩
      · have hzb : (m % 3600000000000 == 0) = false := by simp [hz]
        have hj' := prU_no2 hj hz
        go_wp2_with (go_at_call 24; refine (runit2 _).mono ?_; rintro e w' ⟨rfl, hw⟩; subst w')
        go_round
        case rel => exact ⟨2 + 1, hj', by omega, by first | rfl | go_num⟩
        case measure => simp [intOf]
    · by_cases hz : m % 60000000000 = 0
      · have HU1 : Hid (prU m = 3) := prU_at3 hj hz
        have HT : Hid (B (prN m) = B (Lib.itoa (m / 60000000000)) ++ (⟨#[109]⟩ : ByteArray)) := by
          show _ = _
          unfold prN; rw [HU1.out, show usz 3 = 60000000000 from rfl, show unm 3 = [109] from rfl, ← B_app]; rfl
        have iq : I64 (m / 60000000000) := by unfold I64 at im ⊢; omega
        have tl := itoa_len0 _ iq
        rw [← B_size] at tl
        have F : Hid (∀ W, PT W → Calls Tryz.prog 23 #[.int .i64 (m / 60000000000), .int .i64 10] W fun e w' => e = .returned (.string (B (Lib.itoa (m / 60000000000)))) ∧ Below W.heap.size W w') := fun W h => formB _ iq W h
        generalize B (Lib.itoa (m / 60000000000)) = T at *
        have tw : IntKind.i64.wrap (m / 60000000000) = m / 60000000000 := IntWalk.i64_in _ ⟨iq.1, by have := iq.2; omega⟩
        have hzb : (m % 60000000000 == 0) = true := by simp [hz]
        have td := tdiv_ex hz
        have c1 : ¬ 9223372036854775807 < T.size + 1 := by omega
        have SS : Below w.heap.size w WA.drew ∧ WA.drew.cell? ⟨N, 3, none⟩ = some (.string ⟨#[109]⟩) := ⟨BA.drew, a3⟩
        have HPd : Hid (PT WA.drew) := HP.out.below BA.drew
        clear hz tl hj HU1
        go_wp2_with (go_at_call 24; refine (runit3 _).mono ?_; rintro e w' ⟨rfl, hw⟩; subst w')
        go_region_held3 (fun W => Below w.heap.size w W ∧ W.cell? ⟨N, 3, none⟩ = some (.string ⟨#[109]⟩)) (first | assumption)
          (first | (go_at_call 24; (with_reducible refine Calls.mono (runit3 _) ?_); rintro e w1 ⟨rfl, hw⟩; subst w1) | (go_at_call 23; (with_reducible refine Calls.mono (F.out _ HPd.out) ?_); rintro e w2 ⟨rfl, B2⟩; have SS2 : Below w.heap.size w w2 ∧ w2.cell? ⟨N, 3, none⟩ = some (.string ⟨#[109]⟩) := ⟨below_then SS.1 B2, by rw [B2.cell (World.block_lt_of_cell? _ _ SS.2)]; exact SS.2⟩))
        all_goals
          go_wp2
          go_ret
          exact ⟨by rw [HT.out]; rfl, (by assumption : Below w.heap.size w _ ∧ _).1⟩
      · have hzb : (m % 60000000000 == 0) = false := by simp [hz]
        have hj' := prU_no3 hj hz
        go_wp2_with (go_at_call 24; refine (runit3 _).mono ?_; rintro e w' ⟨rfl, hw⟩; subst w')
        go_round
        case rel => exact ⟨3 + 1, hj', by omega, by first | rfl | go_num⟩
        case measure => simp [intOf]
    · by_cases hz : m % 1000000000 = 0
      · have HU1 : Hid (prU m = 4) := prU_at4 hj hz
        have HT : Hid (B (prN m) = B (Lib.itoa (m / 1000000000)) ++ (⟨#[115]⟩ : ByteArray)) := by
          show _ = _
          unfold prN; rw [HU1.out, show usz 4 = 1000000000 from rfl, show unm 4 = [115] from rfl, ← B_app]; rfl
        have iq : I64 (m / 1000000000) := by unfold I64 at im ⊢; omega
        have tl := itoa_len0 _ iq
        rw [← B_size] at tl
        have F : Hid (∀ W, PT W → Calls Tryz.prog 23 #[.int .i64 (m / 1000000000), .int .i64 10] W fun e w' => e = .returned (.string (B (Lib.itoa (m / 1000000000)))) ∧ Below W.heap.size W w') := fun W h => formB _ iq W h
        generalize B (Lib.itoa (m / 1000000000)) = T at *
        have tw : IntKind.i64.wrap (m / 1000000000) = m / 1000000000 := IntWalk.i64_in _ ⟨iq.1, by have := iq.2; omega⟩
        have hzb : (m % 1000000000 == 0) = true := by simp [hz]
        have td := tdiv_ex hz
        have c1 : ¬ 9223372036854775807 < T.size + 1 := by omega
        have SS : Below w.heap.size w WA.drew ∧ WA.drew.cell? ⟨N, 4, none⟩ = some (.string ⟨#[115]⟩) := ⟨BA.drew, a4⟩
        have HPd : Hid (PT WA.drew) := HP.out.below BA.drew
        clear hz tl hj HU1
        go_wp2_with (go_at_call 24; refine (runit4 _).mono ?_; rintro e w' ⟨rfl, hw⟩; subst w')
        go_region_held3 (fun W => Below w.heap.size w W ∧ W.cell? ⟨N, 4, none⟩ = some (.string ⟨#[115]⟩)) (first | assumption)
          (first | (go_at_call 24; (with_reducible refine Calls.mono (runit4 _) ?_); rintro e w1 ⟨rfl, hw⟩; subst w1) | (go_at_call 23; (with_reducible refine Calls.mono (F.out _ HPd.out) ?_); rintro e w2 ⟨rfl, B2⟩; have SS2 : Below w.heap.size w w2 ∧ w2.cell? ⟨N, 4, none⟩ = some (.string ⟨#[115]⟩) := ⟨below_then SS.1 B2, by rw [B2.cell (World.block_lt_of_cell? _ _ SS.2)]; exact SS.2⟩))
        all_goals
          go_wp2
          go_ret
          exact ⟨by rw [HT.out]; rfl, (by assumption : Below w.heap.size w _ ∧ _).1⟩
      · have hzb : (m % 1000000000 == 0) = false := by simp [hz]
        have hj' := prU_no4 hj hz
        go_wp2_with (go_at_call 24; refine (runit4 _).mono ?_; rintro e w' ⟨rfl, hw⟩; subst w')
        go_round
        case rel => exact ⟨4 + 1, hj', by omega, by first | rfl | go_num⟩
        case measure => simp [intOf]
    · by_cases hz : m % 1000000 = 0
      · have HU1 : Hid (prU m = 5) := prU_at5 hj hz
        have HT : Hid (B (prN m) = B (Lib.itoa (m / 1000000)) ++ (⟨#[109, 115]⟩ : ByteArray)) := by
          show _ = _
          unfold prN; rw [HU1.out, show usz 5 = 1000000 from rfl, show unm 5 = [109, 115] from rfl, ← B_app]; rfl
        have iq : I64 (m / 1000000) := by unfold I64 at im ⊢; omega
        have tl := itoa_len0 _ iq
        rw [← B_size] at tl
        have F : Hid (∀ W, PT W → Calls Tryz.prog 23 #[.int .i64 (m / 1000000), .int .i64 10] W fun e w' => e = .returned (.string (B (Lib.itoa (m / 1000000)))) ∧ Below W.heap.size W w') := fun W h => formB _ iq W h
        generalize B (Lib.itoa (m / 1000000)) = T at *
        have tw : IntKind.i64.wrap (m / 1000000) = m / 1000000 := IntWalk.i64_in _ ⟨iq.1, by have := iq.2; omega⟩
        have hzb : (m % 1000000 == 0) = true := by simp [hz]
        have td := tdiv_ex hz
        have c1 : ¬ 9223372036854775807 < T.size + 2 := by omega
        have SS : Below w.heap.size w WA.drew ∧ WA.drew.cell? ⟨N, 5, none⟩ = some (.string ⟨#[109, 115]⟩) := ⟨BA.drew, a5⟩
        have HPd : Hid (PT WA.drew) := HP.out.below BA.drew
        clear hz tl hj HU1
        go_wp2_with (go_at_call 24; refine (runit5 _).mono ?_; rintro e w' ⟨rfl, hw⟩; subst w')
        go_region_held3 (fun W => Below w.heap.size w W ∧ W.cell? ⟨N, 5, none⟩ = some (.string ⟨#[109, 115]⟩)) (first | assumption)
          (first | (go_at_call 24; (with_reducible refine Calls.mono (runit5 _) ?_); rintro e w1 ⟨rfl, hw⟩; subst w1) | (go_at_call 23; (with_reducible refine Calls.mono (F.out _ HPd.out) ?_); rintro e w2 ⟨rfl, B2⟩; have SS2 : Below w.heap.size w w2 ∧ w2.cell? ⟨N, 5, none⟩ = some (.string ⟨#[109, 115]⟩) := ⟨below_then SS.1 B2, by rw [B2.cell (World.block_lt_of_cell? _ _ SS.2)]; exact SS.2⟩))
        all_goals
          go_wp2
          go_ret
          exact ⟨by rw [HT.out]; rfl, (by assumption : Below w.heap.size w _ ∧ _).1⟩
      · have hzb : (m % 1000000 == 0) = false := by simp [hz]
        have hj' := prU_no5 hj hz
        go_wp2_with (go_at_call 24; refine (runit5 _).mono ?_; rintro e w' ⟨rfl, hw⟩; subst w')
        go_round
        case rel => exact ⟨5 + 1, hj', by omega, by first | rfl | go_num⟩
        case measure => simp [intOf]
    · by_cases hz : m % 1000 = 0
      · have HU1 : Hid (prU m = 6) := prU_at6 hj hz
        have HT : Hid (B (prN m) = B (Lib.itoa (m / 1000)) ++ (⟨#[117, 115]⟩ : ByteArray)) := by
          show _ = _
          unfold prN; rw [HU1.out, show usz 6 = 1000 from rfl, show unm 6 = [117, 115] from rfl, ← B_app]; rfl
        have iq : I64 (m / 1000) := by unfold I64 at im ⊢; omega
        have tl := itoa_len0 _ iq
        rw [← B_size] at tl
        have F : Hid (∀ W, PT W → Calls Tryz.prog 23 #[.int .i64 (m / 1000), .int .i64 10] W fun e w' => e = .returned (.string (B (Lib.itoa (m / 1000)))) ∧ Below W.heap.size W w') := fun W h => formB _ iq W h
        generalize B (Lib.itoa (m / 1000)) = T at *
        have tw : IntKind.i64.wrap (m / 1000) = m / 1000 := IntWalk.i64_in _ ⟨iq.1, by have := iq.2; omega⟩
        have hzb : (m % 1000 == 0) = true := by simp [hz]
        have td := tdiv_ex hz
        have c1 : ¬ 9223372036854775807 < T.size + 2 := by omega
        have SS : Below w.heap.size w WA.drew ∧ WA.drew.cell? ⟨N, 6, none⟩ = some (.string ⟨#[117, 115]⟩) := ⟨BA.drew, a6⟩
        have HPd : Hid (PT WA.drew) := HP.out.below BA.drew
        clear hz tl hj HU1
        go_wp2_with (go_at_call 24; refine (runit6 _).mono ?_; rintro e w' ⟨rfl, hw⟩; subst w')
        go_region_held3 (fun W => Below w.heap.size w W ∧ W.cell? ⟨N, 6, none⟩ = some (.string ⟨#[117, 115]⟩)) (first | assumption)
          (first | (go_at_call 24; (with_reducible refine Calls.mono (runit6 _) ?_); rintro e w1 ⟨rfl, hw⟩; subst w1) | (go_at_call 23; (with_reducible refine Calls.mono (F.out _ HPd.out) ?_); rintro e w2 ⟨rfl, B2⟩; have SS2 : Below w.heap.size w w2 ∧ w2.cell? ⟨N, 6, none⟩ = some (.string ⟨#[117, 115]⟩) := ⟨below_then SS.1 B2, by rw [B2.cell (World.block_lt_of_cell? _ _ SS.2)]; exact SS.2⟩))
        all_goals
          go_wp2
          go_ret
          exact ⟨by rw [HT.out]; rfl, (by assumption : Below w.heap.size w _ ∧ _).1⟩
      · have hzb : (m % 1000 == 0) = false := by simp [hz]
        have hj' := prU_no6 hj hz
        go_wp2_with (go_at_call 24; refine (runit6 _).mono ?_; rintro e w' ⟨rfl, hw⟩; subst w')
        go_round
        case rel => exact ⟨6 + 1, hj', by omega, by first | rfl | go_num⟩
        case measure => simp [intOf]
    · by_cases hz : m % 1 = 0
      · have HU1 : Hid (prU m = 7) := prU_at7 hj hz
        have HT : Hid (B (prN m) = B (Lib.itoa (m)) ++ (⟨#[110, 115]⟩ : ByteArray)) := by
          show _ = _
          unfold prN; rw [HU1.out, show usz 7 = 1 from rfl, show unm 7 = [110, 115] from rfl, ← B_app, Int.ediv_one]; rfl
        have iq : I64 (m) := by unfold I64 at im ⊢; omega
        have tl := itoa_len0 _ iq
        rw [← B_size] at tl
        have F : Hid (∀ W, PT W → Calls Tryz.prog 23 #[.int .i64 (m), .int .i64 10] W fun e w' => e = .returned (.string (B (Lib.itoa (m)))) ∧ Below W.heap.size W w') := fun W h => formB _ iq W h
        generalize B (Lib.itoa (m)) = T at *
        have tw : IntKind.i64.wrap (m) = m := IntWalk.i64_in _ ⟨iq.1, by have := iq.2; omega⟩
        have hzb : (m % 1 == 0) = true := by simp [hz]
        have td := tdiv_ex hz
        have c1 : ¬ 9223372036854775807 < T.size + 2 := by omega
        have SS : Below w.heap.size w WA.drew ∧ WA.drew.cell? ⟨N, 7, none⟩ = some (.string ⟨#[110, 115]⟩) := ⟨BA.drew, a7⟩
        have HPd : Hid (PT WA.drew) := HP.out.below BA.drew
        clear hz tl hj HU1
        go_wp2_with (go_at_call 24; refine (runit7 _).mono ?_; rintro e w' ⟨rfl, hw⟩; subst w')
        go_region_held3 (fun W => Below w.heap.size w W ∧ W.cell? ⟨N, 7, none⟩ = some (.string ⟨#[110, 115]⟩)) (first | assumption)
          (first | (go_at_call 24; (with_reducible refine Calls.mono (runit7 _) ?_); rintro e w1 ⟨rfl, hw⟩; subst w1) | (go_at_call 23; (with_reducible refine Calls.mono (F.out _ HPd.out) ?_); rintro e w2 ⟨rfl, B2⟩; have SS2 : Below w.heap.size w w2 ∧ w2.cell? ⟨N, 7, none⟩ = some (.string ⟨#[110, 115]⟩) := ⟨below_then SS.1 B2, by rw [B2.cell (World.block_lt_of_cell? _ _ SS.2)]; exact SS.2⟩))
        all_goals
          go_wp2
          go_ret
          exact ⟨by rw [HT.out]; rfl, (by assumption : Below w.heap.size w _ ∧ _).1⟩
      · exfalso; omega
theorem min_text : prT (-9223372036854775808) = [45, 57, 50, 50, 51, 51, 55, 50, 48, 51, 54, 56, 53, 52, 55, 55, 53, 56, 48, 55, 110, 115] := by
  have h1 : prU (-9223372036854775807) = 7 := by decide
  have h2 : low (-9223372036854775808) = -9223372036854775807 := by decide
  unfold prT; rw [if_neg (by omega), h2]; unfold prN; rw [h1, show usz 7 = 1 from rfl, Int.ediv_one]
  unfold Lib.itoa; rw [if_pos (by omega), show (-9223372036854775807 : Int).natAbs = 9223372036854775807 from rfl]
  rw [dec_more (9223372036854775807) (by omega), dec_more (9223372036854775807 / 10) (by omega), dec_more (9223372036854775807 / 10 / 10) (by omega), dec_more (9223372036854775807 / 10 / 10 / 10) (by omega), dec_more (9223372036854775807 / 10 / 10 / 10 / 10) (by omega), dec_more (9223372036854775807 / 10 / 10 / 10 / 10 / 10) (by omega), dec_more (9223372036854775807 / 10 / 10 / 10 / 10 / 10 / 10) (by omega), dec_more (9223372036854775807 / 10 / 10 / 10 / 10 / 10 / 10 / 10) (by omega), dec_more (9223372036854775807 / 10 / 10 / 10 / 10 / 10 / 10 / 10 / 10) (by omega), dec_more (9223372036854775807 / 10 / 10 / 10 / 10 / 10 / 10 / 10 / 10 / 10) (by omega), dec_more (9223372036854775807 / 10 / 10 / 10 / 10 / 10 / 10 / 10 / 10 / 10 / 10) (by omega), dec_more (9223372036854775807 / 10 / 10 / 10 / 10 / 10 / 10 / 10 / 10 / 10 / 10 / 10) (by omega), dec_more (9223372036854775807 / 10 / 10 / 10 / 10 / 10 / 10 / 10 / 10 / 10 / 10 / 10 / 10) (by omega), dec_more (9223372036854775807 / 10 / 10 / 10 / 10 / 10 / 10 / 10 / 10 / 10 / 10 / 10 / 10 / 10) (by omega), dec_more (9223372036854775807 / 10 / 10 / 10 / 10 / 10 / 10 / 10 / 10 / 10 / 10 / 10 / 10 / 10 / 10) (by omega), dec_more (9223372036854775807 / 10 / 10 / 10 / 10 / 10 / 10 / 10 / 10 / 10 / 10 / 10 / 10 / 10 / 10 / 10) (by omega), dec_more (9223372036854775807 / 10 / 10 / 10 / 10 / 10 / 10 / 10 / 10 / 10 / 10 / 10 / 10 / 10 / 10 / 10 / 10) (by omega), dec_more (9223372036854775807 / 10 / 10 / 10 / 10 / 10 / 10 / 10 / 10 / 10 / 10 / 10 / 10 / 10 / 10 / 10 / 10 / 10) (by omega), dec_one (9223372036854775807 / 10 / 10 / 10 / 10 / 10 / 10 / 10 / 10 / 10 / 10 / 10 / 10 / 10 / 10 / 10 / 10 / 10 / 10) (by omega)]; rfl
set_option maxRecDepth 100000 in
theorem rprint_any (n : Int) (hn : I64 n) (w : World) (hP : PT w) : Calls Tryz.prog 14 #[.int .i64 n] w fun e w' => e = .returned (.string (B (prT n))) ∧ Below w.heap.size w w' := by
  by_cases h0 : n = 0
  · subst h0
    go_enter Tryz.func14, Tryz.ntmps14
    go_wp2
    go_ret
    exact ⟨rfl, Below.refl _ _⟩
  by_cases h1 : n = -9223372036854775808
  · subst h1
    rw [min_text]
    go_enter Tryz.func14, Tryz.ntmps14
    go_wp2
    go_ret
    exact ⟨rfl, Below.refl _ _⟩
  have e : prT n = prN n := by unfold prT; rw [if_neg h0]; unfold low; rw [if_neg h1]
  by_cases h2 : n < 0
  · have hk : I64 (-n) := by unfold I64 at *; omega
    have Q : Hid (∀ W, PT W → Calls Tryz.prog 14 #[.int .i64 (-n)] W fun e w' => e = .returned (.string (B (prN (-n)))) ∧ Below W.heap.size W w') := fun W hW => rprint_pos (-n) hk (by omega) W hW
    have hT : Hid (B (prT n) = (⟨#[45]⟩ : ByteArray) ++ B (prN (-n))) := by
      show _ = _
      rw [e, prN_neg n h2, show (⟨#[45]⟩ : ByteArray) = B [45] from rfl, B_app]; rfl
    have zl := prT_len (-n) hk
    rw [show prT (-n) = prN (-n) by unfold prT; rw [if_neg (by omega)]; unfold low; rw [if_neg (by unfold I64 at *; omega)], ← B_size] at zl
    generalize B (prN (-n)) = T at *
    have c1 : ¬ 9223372036854775807 < 1 + T.size := by omega
    have hb0 : (n == 0) = false := by simp [h0]
    have hb1 : (n == -9223372036854775808) = false := by simp [h1]
    unfold I64 at hn hk
    obtain ⟨n1, n2⟩ := hn
    have n3 : -9223372036854775807 ≤ n := by omega
    have HP : Hid (PT w) := hP
    clear hP e h0 h1 zl hk n1
    go_enter Tryz.func14, Tryz.ntmps14
    go_wp2_with (go_at_call 14; (with_reducible refine Calls.mono (Q.out _ HP.out) ?_); rintro e w1 ⟨rfl, B1⟩)
    go_ret
    exact ⟨by rw [hT.out]; rfl, B1⟩
  · rw [e]; exact rprint_pos n hn (by omega) w hP
set_option maxRecDepth 100000 in
theorem spanPrints_walk (n : Int) (hn : I64 n) (w : World) (h : SW w) : Calls Tryz.prog 4 #[.int .i64 n] w fun e w' => e = .returned (.bool true) ∧ Below w.heap.size w w' := by
  have L := fun W hW => slive_any W hW
  have P : Hid (∀ W, SW W → Calls Tryz.prog 13 #[.int .i64 n] W fun e w' => e = .returned (.string (B (prT n))) ∧ Below W.heap.size W w') := fun W hW => print_any n hn W hW.u hW.p
  have R : Hid (∀ W, SW W → Calls Tryz.prog 14 #[.int .i64 n] W fun e w' => e = .returned (.string (B (prT n))) ∧ Below W.heap.size W w') := fun W hW => rprint_any n hn W hW.p
  have HW : Hid (SW w) := h
  generalize B (prT n) = T at P R
  clear h
  go_enter Tryz.func4, Tryz.ntmps4
  go_wp2_with fail
  refine (L _ HW.out).mono ?_
  rintro e w1 ⟨rfl, B1⟩
  go_wp2_with fail
  refine (P.out _ (HW.out.below B1)).mono ?_
  rintro e w2 ⟨rfl, B2⟩
  have B2' := below_then B1 B2
  go_wp2_with fail
  refine (R.out _ (HW.out.below B2')).mono ?_
  rintro e w3 ⟨rfl, B3⟩
  have B3' := below_then B2' B3
  go_wp2_with fail
  go_ret
  exact ⟨rfl, B3'⟩
end Go.Proofs.YtchabeebpbaaeaaGreatDoor
