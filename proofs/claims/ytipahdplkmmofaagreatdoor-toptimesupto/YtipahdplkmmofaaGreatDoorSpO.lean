
import Derived.Test.YtipahdplkmmofaaGreatDoorSpI
import Derived.Test.YtipahdplkmmofaaGreatDoorSpL
import Derived.Test.YtipahdplkmmofaaGreatDoorSpP
namespace Go.Proofs.YtipahdplkmmofaaGreatDoor
open Go.RowKit Go.Shelf
set_option linter.unusedVariables false
set_option linter.unusedSimpArgs false
theorem tmod0 (m z : Int) : (m.tmod z = 0) ↔ (m % z = 0) := by
  constructor
  · intro h; exact Int.emod_eq_zero_of_dvd (Int.dvd_of_tmod_eq_zero h)
  · intro h; exact Int.tmod_eq_zero_of_dvd (Int.dvd_of_emod_eq_zero h)
theorem tmod_yes {m z : Int} (h : m % z = 0) : (m.tmod z != 0) = false := by simp [(tmod0 m z).2 h]
theorem tmod_no {m z : Int} (h : ¬ m % z = 0) : (m.tmod z != 0) = true := by
  have : ¬ m.tmod z = 0 := fun hh => h ((tmod0 m z).1 hh)
  simp [this]
theorem tdiv_ex {m z : Int} (h : m % z = 0) : m.tdiv z = m / z := Int.tdiv_eq_ediv_of_dvd (Int.dvd_of_emod_eq_zero h)
theorem prU_at0 {m : Int} (h : (0 : Int) ≤ prU m) (h0 : m % 604800000000000 = 0) : prU m = 0 := by
  unfold prU at *; repeat' split at h
  all_goals first | (repeat' split) <;> omega | omega
theorem prU_no0 {m : Int} (h : (0 : Int) ≤ prU m) (h0 : ¬ m % 604800000000000 = 0) : (1 : Int) ≤ prU m := by
  unfold prU at *; repeat' split at h
  all_goals first | (repeat' split) <;> omega | omega
theorem prU_at1 {m : Int} (h : (1 : Int) ≤ prU m) (h0 : m % 86400000000000 = 0) : prU m = 1 := by
  unfold prU at *; repeat' split at h
  all_goals first | (repeat' split) <;> omega | omega
theorem prU_no1 {m : Int} (h : (1 : Int) ≤ prU m) (h0 : ¬ m % 86400000000000 = 0) : (2 : Int) ≤ prU m := by
  unfold prU at *; repeat' split at h
  all_goals first | (repeat' split) <;> omega | omega
theorem prU_at2 {m : Int} (h : (2 : Int) ≤ prU m) (h0 : m % 3600000000000 = 0) : prU m = 2 := by
  unfold prU at *; repeat' split at h
  all_goals first | (repeat' split) <;> omega | omega
theorem prU_no2 {m : Int} (h : (2 : Int) ≤ prU m) (h0 : ¬ m % 3600000000000 = 0) : (3 : Int) ≤ prU m := by
  unfold prU at *; repeat' split at h
  all_goals first | (repeat' split) <;> omega | omega
theorem prU_at3 {m : Int} (h : (3 : Int) ≤ prU m) (h0 : m % 60000000000 = 0) : prU m = 3 := by
  unfold prU at *; repeat' split at h
  all_goals first | (repeat' split) <;> omega | omega
theorem prU_no3 {m : Int} (h : (3 : Int) ≤ prU m) (h0 : ¬ m % 60000000000 = 0) : (4 : Int) ≤ prU m := by
  unfold prU at *; repeat' split at h
  all_goals first | (repeat' split) <;> omega | omega
theorem prU_at4 {m : Int} (h : (4 : Int) ≤ prU m) (h0 : m % 1000000000 = 0) : prU m = 4 := by
  unfold prU at *; repeat' split at h
  all_goals first | (repeat' split) <;> omega | omega
theorem prU_no4 {m : Int} (h : (4 : Int) ≤ prU m) (h0 : ¬ m % 1000000000 = 0) : (5 : Int) ≤ prU m := by
  unfold prU at *; repeat' split at h
  all_goals first | (repeat' split) <;> omega | omega
theorem prU_at5 {m : Int} (h : (5 : Int) ≤ prU m) (h0 : m % 1000000 = 0) : prU m = 5 := by
  unfold prU at *; repeat' split at h
  all_goals first | (repeat' split) <;> omega | omega
theorem prU_no5 {m : Int} (h : (5 : Int) ≤ prU m) (h0 : ¬ m % 1000000 = 0) : (6 : Int) ≤ prU m := by
  unfold prU at *; repeat' split at h
  all_goals first | (repeat' split) <;> omega | omega
theorem prU_at6 {m : Int} (h : (6 : Int) ≤ prU m) (h0 : m % 1000 = 0) : prU m = 6 := by
  unfold prU at *; repeat' split at h
  all_goals first | (repeat' split) <;> omega | omega
theorem prU_no6 {m : Int} (h : (6 : Int) ≤ prU m) (h0 : ¬ m % 1000 = 0) : (7 : Int) ≤ prU m := by
  unfold prU at *; repeat' split at h
  all_goals first | (repeat' split) <;> omega | omega
theorem prU_at7 {m : Int} (h : (7 : Int) ≤ prU m) (h0 : m % 1 = 0) : prU m = 7 := by
  unfold prU at *; repeat' split at h
  all_goals first | (repeat' split) <;> omega | omega
set_option maxRecDepth 100000 in
set_option maxHeartbeats 8000000 in
theorem printN_any (m : Int) (im : I64 m) (h0 : (m == 0) = false) (hb : (m == -9223372036854775808) = false) (w : World) (hU : UT w) (hP : PT w) : Calls Tryz.prog 16 #[.int .i64 m] w fun e w' => e = .returned (.string (B (prN m))) ∧ Below w.heap.size w w' := by
  obtain ⟨a0, b0, a1, b1, a2, b2, a3, b3, a4, b4, a5, b5, a6, b6, a7, b7⟩ := id hU
  have HP : Hid (PT w) := hP
  have HB := prU_bd m
  clear hP hU
  · go_enter Tryz.func16, Tryz.ntmps16
    go_wp2
    go_loop [3] (fun u => ∃ j : Nat, (j : Int) ≤ prU m ∧ j ≤ 7 ∧ u = .int .i64 j) (fun u => 8 - (intOf u).toNat)
    case atStart => exact ⟨0, by have := HB.1; omega, by omega, rfl⟩
    case round =>
      obtain ⟨j, hj, hj7, rfl⟩ := hrel
      clear HB
      have hc : j = 0 ∨ j = 1 ∨ j = 2 ∨ j = 3 ∨ j = 4 ∨ j = 5 ∨ j = 6 ∨ j = 7 := by omega
      rcases hc with e | e | e | e | e | e | e | e <;> subst e
      · by_cases hz : m % 604800000000000 = 0
        · have HU1 : Hid (prU m = 0) := prU_at0 hj hz
          have HT : Hid (B (prN m) = B (Lib.itoa (m / 604800000000000)) ++ (⟨#[119]⟩ : ByteArray)) := by
            show _ = _
            unfold prN; rw [HU1.out, show usz 0 = 604800000000000 from rfl, show unm 0 = [119] from rfl, ← B_app]; rfl
          have iq : I64 (m / 604800000000000) := by unfold I64 at im ⊢; omega
          have tl := itoa_len0 _ iq
          rw [← B_size] at tl
          have F : Hid (∀ W, PT W → Calls Tryz.prog 54 #[.int .i64 (m / 604800000000000), .int .i64 10] W fun e w' => e = .returned (.string (B (Lib.itoa (m / 604800000000000)))) ∧ Below W.heap.size W w') := fun W h => formB _ iq W h
          generalize B (Lib.itoa (m / 604800000000000)) = T at *
          have ty := tmod_yes hz
          have td := tdiv_ex hz
          have tw : IntKind.i64.wrap (m / 604800000000000) = m / 604800000000000 := IntWalk.i64_in _ ⟨iq.1, by have := iq.2; omega⟩
          have c1 : ¬ 9223372036854775807 < T.size + 1 := by omega
          have SS : Below w.heap.size w w.drew ∧ w.drew.cell? ⟨0, 0, none⟩ = some (.string ⟨#[119]⟩) ∧ w.drew.cell? ⟨0, 1, none⟩ = some (.int .i64 604800000000000) := ⟨(Below.refl _ _).drew, a0, b0⟩
          have HPd : Hid (PT w.drew) := HP.out.below (Below.refl _ _).drew
          clear hz tl hj HU1
          go_wp2
          go_region_held3 (fun W => Below w.heap.size w W ∧ W.cell? ⟨0, 0, none⟩ = some (.string ⟨#[119]⟩) ∧ W.cell? ⟨0, 1, none⟩ = some (.int .i64 604800000000000)) (first | assumption)
            (first | (go_at_call 54; (with_reducible refine Calls.mono (F.out _ HPd.out) ?_); rintro e w2 ⟨rfl, B2⟩; have SS2 := keepU (by assumption) B2))
          all_goals
            go_wp2
            go_ret
            exact ⟨by rw [HT.out]; rfl, (by assumption : Below w.heap.size w _ ∧ _).1⟩
        · have tn := tmod_no hz
          have hj' := prU_no0 hj hz
          go_wp2
          go_round
          case rel => exact ⟨0 + 1, hj', by omega, by first | rfl | go_num⟩
          case measure => simp [intOf]
      · by_cases hz : m % 86400000000000 = 0
        · have HU1 : Hid (prU m = 1) := prU_at1 hj hz
          have HT : Hid (B (prN m) = B (Lib.itoa (m / 86400000000000)) ++ (⟨#[100]⟩ : ByteArray)) := by
            show _ = _
            unfold prN; rw [HU1.out, show usz 1 = 86400000000000 from rfl, show unm 1 = [100] from rfl, ← B_app]; rfl
          have iq : I64 (m / 86400000000000) := by unfold I64 at im ⊢; omega
          have tl := itoa_len0 _ iq
          rw [← B_size] at tl
          have F : Hid (∀ W, PT W → Calls Tryz.prog 54 #[.int .i64 (m / 86400000000000), .int .i64 10] W fun e w' => e = .returned (.string (B (Lib.itoa (m / 86400000000000)))) ∧ Below W.heap.size W w') := fun W h => formB _ iq W h
          generalize B (Lib.itoa (m / 86400000000000)) = T at *
          have ty := tmod_yes hz
          have td := tdiv_ex hz
          have tw : IntKind.i64.wrap (m / 86400000000000) = m / 86400000000000 := IntWalk.i64_in _ ⟨iq.1, by have := iq.2; omega⟩
          have c1 : ¬ 9223372036854775807 < T.size + 1 := by omega
          have SS : Below w.heap.size w w.drew ∧ w.drew.cell? ⟨0, 2, none⟩ = some (.string ⟨#[100]⟩) ∧ w.drew.cell? ⟨0, 3, none⟩ = some (.int .i64 86400000000000) := ⟨(Below.refl _ _).drew, a1, b1⟩
          have HPd : Hid (PT w.drew) := HP.out.below (Below.refl _ _).drew
          clear hz tl hj HU1
          go_wp2
          go_region_held3 (fun W => Below w.heap.size w W ∧ W.cell? ⟨0, 2, none⟩ = some (.string ⟨#[100]⟩) ∧ W.cell? ⟨0, 3, none⟩ = some (.int .i64 86400000000000)) (first | assumption)
            (first | (go_at_call 54; (with_reducible refine Calls.mono (F.out _ HPd.out) ?_); rintro e w2 ⟨rfl, B2⟩; have SS2 := keepU (by assumption) B2))
          all_goals
            go_wp2
            go_ret
            exact ⟨by rw [HT.out]; rfl, (by assumption : Below w.heap.size w _ ∧ _).1⟩
        · have tn := tmod_no hz
          have hj' := prU_no1 hj hz
          go_wp2
          go_round
          case rel => exact ⟨1 + 1, hj', by omega, by first | rfl | go_num⟩
          case measure => simp [intOf]
      · by_cases hz : m % 3600000000000 = 0
        · have HU1 : Hid (prU m = 2) := prU_at2 hj hz
          have HT : Hid (B (prN m) = B (Lib.itoa (m / 3600000000000)) ++ (⟨#[104]⟩ : ByteArray)) := by
            show _ = _
            unfold prN; rw [HU1.out, show usz 2 = 3600000000000 from rfl, show unm 2 = [104] from rfl, ← B_app]; rfl
          have iq : I64 (m / 3600000000000) := by unfold I64 at im ⊢; omega
          have tl := itoa_len0 _ iq
          rw [← B_size] at tl
          have F : Hid (∀ W, PT W → Calls Tryz.prog 54 #[.int .i64 (m / 3600000000000), .int .i64 10] W fun e w' => e = .returned (.string (B (Lib.itoa (m / 3600000000000)))) ∧ Below W.heap.size W w') := fun W h => formB _ iq W h
          generalize B (Lib.itoa (m / 3600000000000)) = T at *
          have ty := tmod_yes hz
          have td := tdiv_ex hz
          have tw : IntKind.i64.wrap (m / 3600000000000) = m / 3600000000000 := IntWalk.i64_in _ ⟨iq.1, by have := iq.2; omega⟩
          have c1 : ¬ 9223372036854775807 < T.size + 1 := by omega
          have SS : Below w.heap.size w w.drew ∧ w.drew.cell? ⟨0, 4, none⟩ = some (.string ⟨#[104]⟩) ∧ w.drew.cell? ⟨0, 5, none⟩ = some (.int .i64 3600000000000) := ⟨(Below.refl _ _).drew, a2, b2⟩
          have HPd : Hid (PT w.drew) := HP.out.below (Below.refl _ _).drew
          clear hz tl hj HU1
          go_wp2
          go_region_held3 (fun W => Below w.heap.size w W ∧ W.cell? ⟨0, 4, none⟩ = some (.string ⟨#[104]⟩) ∧ W.cell? ⟨0, 5, none⟩ = some (.int .i64 3600000000000)) (first | assumption)
            (first | (go_at_call 54; (with_reducible refine Calls.mono (F.out _ HPd.out) ?_); rintro e w2 ⟨rfl, B2⟩; have SS2 := keepU (by assumption) B2))
          all_goals
            go_wp2
            go_ret
            exact ⟨by rw [HT.out]; rfl, (by assumption : Below w.heap.size w _ ∧ _).1⟩
        · have tn := tmod_no hz
          have hj' := prU_no2 hj hz
          go_wp2
          go_round
          case rel => exact ⟨2 + 1, hj', by omega, by first | rfl | go_num⟩
          case measure => simp [intOf]
      · by_cases hz : m % 60000000000 = 0
        · have HU1 : Hid (prU m = 3) := prU_at3 hj hz
          have HT : Hid (B (prN m) = B (Lib.itoa (m / 60000000000)) ++ (⟨#[109]⟩ : ByteArray)) := by
            show _ = _
            unfold prN; rw [HU1.out, show usz 3 = 60000000000 from rfl, show unm 3 = [109] from rfl, ← B_app]; rfl
          have iq : I64 (m / 60000000000) := by unfold I64 at im ⊢; omega
          have tl := itoa_len0 _ iq
          rw [← B_size] at tl
          have F : Hid (∀ W, PT W → Calls Tryz.prog 54 #[.int .i64 (m / 60000000000), .int .i64 10] W fun e w' => e = .returned (.string (B (Lib.itoa (m / 60000000000)))) ∧ Below W.heap.size W w') := fun W h => formB _ iq W h
          generalize B (Lib.itoa (m / 60000000000)) = T at *
          have ty := tmod_yes hz
          have td := tdiv_ex hz
          have tw : IntKind.i64.wrap (m / 60000000000) = m / 60000000000 := IntWalk.i64_in _ ⟨iq.1, by have := iq.2; omega⟩
          have c1 : ¬ 9223372036854775807 < T.size + 1 := by omega
          have SS : Below w.heap.size w w.drew ∧ w.drew.cell? ⟨0, 6, none⟩ = some (.string ⟨#[109]⟩) ∧ w.drew.cell? ⟨0, 7, none⟩ = some (.int .i64 60000000000) := ⟨(Below.refl _ _).drew, a3, b3⟩
          have HPd : Hid (PT w.drew) := HP.out.below (Below.refl _ _).drew
          clear hz tl hj HU1
          go_wp2
          go_region_held3 (fun W => Below w.heap.size w W ∧ W.cell? ⟨0, 6, none⟩ = some (.string ⟨#[109]⟩) ∧ W.cell? ⟨0, 7, none⟩ = some (.int .i64 60000000000)) (first | assumption)
            (first | (go_at_call 54; (with_reducible refine Calls.mono (F.out _ HPd.out) ?_); rintro e w2 ⟨rfl, B2⟩; have SS2 := keepU (by assumption) B2))
          all_goals
            go_wp2
            go_ret
            exact ⟨by rw [HT.out]; rfl, (by assumption : Below w.heap.size w _ ∧ _).1⟩
        · have tn := tmod_no hz
          have hj' := prU_no3 hj hz
          go_wp2
          go_round
          case rel => exact ⟨3 + 1, hj', by omega, by first | rfl | go_num⟩
          case measure => simp [intOf]
      · by_cases hz : m % 1000000000 = 0
        · have HU1 : Hid (prU m = 4) := prU_at4 hj hz
          have HT : Hid (B (prN m) = B (Lib.itoa (m / 1000000000)) ++ (⟨#[115]⟩ : ByteArray)) := by
            show _ = _
            unfold prN; rw [HU1.out, show usz 4 = 1000000000 from rfl, show unm 4 = [115] from rfl, ← B_app]; rfl
          have iq : I64 (m / 1000000000) := by unfold I64 at im ⊢; omega
          have tl := itoa_len0 _ iq
          rw [← B_size] at tl
          have F : Hid (∀ W, PT W → Calls Tryz.prog 54 #[.int .i64 (m / 1000000000), .int .i64 10] W fun e w' => e = .returned (.string (B (Lib.itoa (m / 1000000000)))) ∧ Below W.heap.size W w') := fun W h => formB _ iq W h
          generalize B (Lib.itoa (m / 1000000000)) = T at *
          have ty := tmod_yes hz
          have td := tdiv_ex hz
          have tw : IntKind.i64.wrap (m / 1000000000) = m / 1000000000 := IntWalk.i64_in _ ⟨iq.1, by have := iq.2; omega⟩
          have c1 : ¬ 9223372036854775807 < T.size + 1 := by omega
          have SS : Below w.heap.size w w.drew ∧ w.drew.cell? ⟨0, 8, none⟩ = some (.string ⟨#[115]⟩) ∧ w.drew.cell? ⟨0, 9, none⟩ = some (.int .i64 1000000000) := ⟨(Below.refl _ _).drew, a4, b4⟩
          have HPd : Hid (PT w.drew) := HP.out.below (Below.refl _ _).drew
          clear hz tl hj HU1
          go_wp2
          go_region_held3 (fun W => Below w.heap.size w W ∧ W.cell? ⟨0, 8, none⟩ = some (.string ⟨#[115]⟩) ∧ W.cell? ⟨0, 9, none⟩ = some (.int .i64 1000000000)) (first | assumption)
            (first | (go_at_call 54; (with_reducible refine Calls.mono (F.out _ HPd.out) ?_); rintro e w2 ⟨rfl, B2⟩; have SS2 := keepU (by assumption) B2))
          all_goals
            go_wp2
            go_ret
            exact ⟨by rw [HT.out]; rfl, (by assumption : Below w.heap.size w _ ∧ _).1⟩
        · have tn := tmod_no hz
          have hj' := prU_no4 hj hz
          go_wp2
          go_round
          case rel => exact ⟨4 + 1, hj', by omega, by first | rfl | go_num⟩
          case measure => simp [intOf]
      · by_cases hz : m % 1000000 = 0
        · have HU1 : Hid (prU m = 5) := prU_at5 hj hz
          have HT : Hid (B (prN m) = B (Lib.itoa (m / 1000000)) ++ (⟨#[109, 115]⟩ : ByteArray)) := by
            show _ = _
            unfold prN; rw [HU1.out, show usz 5 = 1000000 from rfl, show unm 5 = [109, 115] from rfl, ← B_app]; rfl
          have iq : I64 (m / 1000000) := by unfold I64 at im ⊢; omega
          have tl := itoa_len0 _ iq
          rw [← B_size] at tl
          have F : Hid (∀ W, PT W → Calls Tryz.prog 54 #[.int .i64 (m / 1000000), .int .i64 10] W fun e w' => e = .returned (.string (B (Lib.itoa (m / 1000000)))) ∧ Below W.heap.size W w') := fun W h => formB _ iq W h
          generalize B (Lib.itoa (m / 1000000)) = T at *
          have ty := tmod_yes hz
          have td := tdiv_ex hz
          have tw : IntKind.i64.wrap (m / 1000000) = m / 1000000 := IntWalk.i64_in _ ⟨iq.1, by have := iq.2; omega⟩
          have c1 : ¬ 9223372036854775807 < T.size + 2 := by omega
          have SS : Below w.heap.size w w.drew ∧ w.drew.cell? ⟨0, 10, none⟩ = some (.string ⟨#[109, 115]⟩) ∧ w.drew.cell? ⟨0, 11, none⟩ = some (.int .i64 1000000) := ⟨(Below.refl _ _).drew, a5, b5⟩
          have HPd : Hid (PT w.drew) := HP.out.below (Below.refl _ _).drew
          clear hz tl hj HU1
          go_wp2
          go_region_held3 (fun W => Below w.heap.size w W ∧ W.cell? ⟨0, 10, none⟩ = some (.string ⟨#[109, 115]⟩) ∧ W.cell? ⟨0, 11, none⟩ = some (.int .i64 1000000)) (first | assumption)
            (first | (go_at_call 54; (with_reducible refine Calls.mono (F.out _ HPd.out) ?_); rintro e w2 ⟨rfl, B2⟩; have SS2 := keepU (by assumption) B2))
          all_goals
            go_wp2
            go_ret
            exact ⟨by rw [HT.out]; rfl, (by assumption : Below w.heap.size w _ ∧ _).1⟩
        · have tn := tmod_no hz
          have hj' := prU_no5 hj hz
          go_wp2
          go_round
          case rel => exact ⟨5 + 1, hj', by omega, by first | rfl | go_num⟩
          case measure => simp [intOf]
      · by_cases hz : m % 1000 = 0
        · have HU1 : Hid (prU m = 6) := prU_at6 hj hz
          have HT : Hid (B (prN m) = B (Lib.itoa (m / 1000)) ++ (⟨#[117, 115]⟩ : ByteArray)) := by
            show _ = _
            unfold prN; rw [HU1.out, show usz 6 = 1000 from rfl, show unm 6 = [117, 115] from rfl, ← B_app]; rfl
          have iq : I64 (m / 1000) := by unfold I64 at im ⊢; omega
          have tl := itoa_len0 _ iq
          rw [← B_size] at tl
          have F : Hid (∀ W, PT W → Calls Tryz.prog 54 #[.int .i64 (m / 1000), .int .i64 10] W fun e w' => e = .returned (.string (B (Lib.itoa (m / 1000)))) ∧ Below W.heap.size W w') := fun W h => formB _ iq W h
          generalize B (Lib.itoa (m / 1000)) = T at *
          have ty := tmod_yes hz
          have td := tdiv_ex hz
          have tw : IntKind.i64.wrap (m / 1000) = m / 1000 := IntWalk.i64_in _ ⟨iq.1, by have := iq.2; omega⟩
          have c1 : ¬ 9223372036854775807 < T.size + 2 := by omega
          have SS : Below w.heap.size w w.drew ∧ w.drew.cell? ⟨0, 12, none⟩ = some (.string ⟨#[117, 115]⟩) ∧ w.drew.cell? ⟨0, 13, none⟩ = some (.int .i64 1000) := ⟨(Below.refl _ _).drew, a6, b6⟩
          have HPd : Hid (PT w.drew) := HP.out.below (Below.refl _ _).drew
          clear hz tl hj HU1
          go_wp2
          go_region_held3 (fun W => Below w.heap.size w W ∧ W.cell? ⟨0, 12, none⟩ = some (.string ⟨#[117, 115]⟩) ∧ W.cell? ⟨0, 13, none⟩ = some (.int .i64 1000)) (first | assumption)
            (first | (go_at_call 54; (with_reducible refine Calls.mono (F.out _ HPd.out) ?_); rintro e w2 ⟨rfl, B2⟩; have SS2 := keepU (by assumption) B2))
          all_goals
            go_wp2
            go_ret
            exact ⟨by rw [HT.out]; rfl, (by assumption : Below w.heap.size w _ ∧ _).1⟩
        · have tn := tmod_no hz
          have hj' := prU_no6 hj hz
          go_wp2
          go_round
          case rel => exact ⟨6 + 1, hj', by omega, by first | rfl | go_num⟩
          case measure => simp [intOf]
      · by_cases hz : m % 1 = 0
        · have HU1 : Hid (prU m = 7) := prU_at7 hj hz
          have HT : Hid (B (prN m) = B (Lib.itoa (m)) ++ (⟨#[110, 115]⟩ : ByteArray)) := by
            show _ = _
            unfold prN; rw [HU1.out, show usz 7 = 1 from rfl, show unm 7 = [110, 115] from rfl, ← B_app, Int.ediv_one]; rfl
          have iq : I64 m := im
          have tl := itoa_len0 _ iq
          rw [← B_size] at tl
          have F : Hid (∀ W, PT W → Calls Tryz.prog 54 #[.int .i64 (m), .int .i64 10] W fun e w' => e = .returned (.string (B (Lib.itoa (m)))) ∧ Below W.heap.size W w') := fun W h => formB _ iq W h
          generalize B (Lib.itoa (m)) = T at *
          have tw : IntKind.i64.wrap (m) = m := IntWalk.i64_in _ ⟨iq.1, by have := iq.2; omega⟩
          have c1 : ¬ 9223372036854775807 < T.size + 2 := by omega
          have SS : Below w.heap.size w w.drew ∧ w.drew.cell? ⟨0, 14, none⟩ = some (.string ⟨#[110, 115]⟩) ∧ w.drew.cell? ⟨0, 15, none⟩ = some (.int .i64 1) := ⟨(Below.refl _ _).drew, a7, b7⟩
          have HPd : Hid (PT w.drew) := HP.out.below (Below.refl _ _).drew
          clear hz tl hj HU1
          go_wp2
          go_region_held3 (fun W => Below w.heap.size w W ∧ W.cell? ⟨0, 14, none⟩ = some (.string ⟨#[110, 115]⟩) ∧ W.cell? ⟨0, 15, none⟩ = some (.int .i64 1)) (first | assumption)
            (first | (go_at_call 54; (with_reducible refine Calls.mono (F.out _ HPd.out) ?_); rintro e w2 ⟨rfl, B2⟩; have SS2 := keepU (by assumption) B2))
          all_goals
            go_wp2
            go_ret
            exact ⟨by rw [HT.out]; rfl, (by assumption : Below w.heap.size w _ ∧ _).1⟩
        · exfalso; omega
set_option maxRecDepth 100000 in
set_option maxHeartbeats 8000000 in
theorem print_low (w : World) (hU : UT w) (hP : PT w) : Calls Tryz.prog 16 #[.int .i64 (-9223372036854775808)] w fun e w' => e = .returned (.string (B (prN (-9223372036854775807)))) ∧ Below w.heap.size w w' := by
  obtain ⟨a0, b0, a1, b1, a2, b2, a3, b3, a4, b4, a5, b5, a6, b6, a7, b7⟩ := id hU
  have HP : Hid (PT w) := hP
  have HT : Hid (B (prN (-9223372036854775807)) = B (Lib.itoa (-9223372036854775807)) ++ (⟨#[110, 115]⟩ : ByteArray)) := by
    show _ = _
    unfold prN; rw [show prU (-9223372036854775807) = 7 by decide, show usz 7 = 1 from rfl, show unm 7 = [110, 115] from rfl, ← B_app, Int.ediv_one]; rfl
  have iq : I64 (-9223372036854775807) := ⟨by omega, by omega⟩
  have tl := itoa_len0 _ iq
  rw [← B_size] at tl
  have F : Hid (∀ W, PT W → Calls Tryz.prog 54 #[.int .i64 (-9223372036854775807), .int .i64 10] W fun e w' => e = .returned (.string (B (Lib.itoa (-9223372036854775807)))) ∧ Below W.heap.size W w') := fun W h => formB _ iq W h
  generalize B (Lib.itoa (-9223372036854775807)) = T at *
  have c1 : ¬ 9223372036854775807 < T.size + 2 := by omega
  have SS : Below w.heap.size w w.drew ∧ w.drew.cell? ⟨0, 14, none⟩ = some (.string ⟨#[110, 115]⟩) ∧ w.drew.cell? ⟨0, 15, none⟩ = some (.int .i64 1) := ⟨(Below.refl _ _).drew, a7, b7⟩
  have HPd : Hid (PT w.drew) := HP.out.below (Below.refl _ _).drew
  have tw : IntKind.i64.wrap (-9223372036854775807) = -9223372036854775807 := IntWalk.i64_in _ (by omega)
  clear hP hU tl iq HP
  go_enter Tryz.func16, Tryz.ntmps16
  go_wp2
  go_loop [3] (fun u => ∃ j : Nat, j ≤ 7 ∧ u = .int .i64 j) (fun u => 8 - (intOf u).toNat)
  case atStart => exact ⟨0, by omega, rfl⟩
  case round =>
    obtain ⟨j, hj7, rfl⟩ := hrel
    have hc : j = 7 ∨ j = 0 ∨ j = 1 ∨ j = 2 ∨ j = 3 ∨ j = 4 ∨ j = 5 ∨ j = 6 := by omega
    rcases hc with e | e | e | e | e | e | e | e <;> subst e
    · go_wp2
      go_region_held3 (fun W => Below w.heap.size w W ∧ W.cell? ⟨0, 14, none⟩ = some (.string ⟨#[110, 115]⟩) ∧ W.cell? ⟨0, 15, none⟩ = some (.int .i64 1)) (first | assumption)
        (first | (go_at_call 54; (with_reducible refine Calls.mono (F.out _ HPd.out) ?_); rintro e w2 ⟨rfl, B2⟩; have SS2 := keepU (by assumption) B2))
      all_goals
        go_wp2
        go_ret
        exact ⟨by rw [HT.out]; rfl, (by assumption : Below w.heap.size w _ ∧ _).1⟩
    · go_wp2
      go_round
      case rel => exact ⟨0 + 1, by omega, by first | rfl | go_num⟩
      case measure => simp [intOf]
    · go_wp2
      go_round
      case rel => exact ⟨1 + 1, by omega, by first | rfl | go_num⟩
      case measure => simp [intOf]
    · go_wp2
      go_round
      case rel => exact ⟨2 + 1, by omega, by first | rfl | go_num⟩
      case measure => simp [intOf]
    · go_wp2
      go_round
      case rel => exact ⟨3 + 1, by omega, by first | rfl | go_num⟩
      case measure => simp [intOf]
    · go_wp2
      go_round
      case rel => exact ⟨4 + 1, by omega, by first | rfl | go_num⟩
      case measure => simp [intOf]
    · go_wp2
      go_round
      case rel => exact ⟨5 + 1, by omega, by first | rfl | go_num⟩
      case measure => simp [intOf]
    · go_wp2
      go_round
      case rel => exact ⟨6 + 1, by omega, by first | rfl | go_num⟩
      case measure => simp [intOf]
theorem print_any (n : Int) (hn : I64 n) (w : World) (hU : UT w) (hP : PT w) : Calls Tryz.prog 16 #[.int .i64 n] w fun e w' => e = .returned (.string (B (prT n))) ∧ Below w.heap.size w w' := by
  by_cases h0 : n = 0
  · subst h0
    go_enter Tryz.func16, Tryz.ntmps16
    go_wp2
    go_ret
    exact ⟨rfl, Below.refl _ _⟩
  · by_cases h1 : n = -9223372036854775808
    · subst h1
      have e : prT (-9223372036854775808) = prN (-9223372036854775807) := by unfold prT; rw [if_neg (by omega)]; rfl
      rw [e]; exact print_low w hU hP
    · have e : prT n = prN n := by unfold prT; rw [if_neg h0]; unfold low; rw [if_neg h1]
      rw [e]; exact printN_any n hn (by simp [h0]) (by simp [h1]) w hU hP
end Go.Proofs.YtipahdplkmmofaaGreatDoor
