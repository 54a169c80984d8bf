
import Derived.Test.YtipahdplkmmofaaGreatDoorSpP
namespace Go.Proofs.YtipahdplkmmofaaGreatDoor
open Go.RowKit Go.Shelf
set_option linter.unusedVariables false
set_option linter.unusedSimpArgs false
theorem trimB_len (l : List UInt8) : (Lib.trimRightB l 48).length ≤ l.length := by
  obtain ⟨j, hj⟩ := trim_zeros l
  have := congrArg List.length hj
  simp at this; omega
set_option maxRecDepth 100000 in
set_option maxHeartbeats 2000000 in
theorem fraction_any (n : Int) (hn : I64 n) (w : World) (hP : PT w) : Calls Tryz.prog 53 #[.int .i64 n] w fun e w' => e = .returned (.string (B (fracP n))) ∧ Below w.heap.size w w' := by
  by_cases h0 : n = 0
  · have e0 : Hid (B (fracP n) = ⟨#[]⟩) := by show _ = _; unfold fracP; rw [if_pos h0]; rfl
    have h1 : (n == 0) = true := by simp [h0]
    clear h0
    go_enter Tryz.func53, Tryz.ntmps53
    go_wp2
    go_ret
    exact ⟨by rw [e0.out]; rfl, Below.refl _ _⟩
  · have h1 : (n == 0) = false := by simp [h0]
    have hl := padP_len n 9 hn (by omega)
    have ht := trimB_len (padP n 9)
    have H1 : Hid (∀ W, PT W → Calls Tryz.prog 52 #[.int .i64 n, .int .i64 9] W fun e w' => e = .returned (.string (B (padP n 9))) ∧ Below W.heap.size W w') := fun W h => padded_any n 9 hn (by omega) W h
    have H2 : Hid (∀ W, Calls Tryz.prog 94 #[.string (B (padP n 9)), .string ⟨#[48]⟩] W fun e w' => e = .returned (.string (B (Lib.trimRightB (padP n 9) 48))) ∧ w' = W) := fun W => by
      have H := Tryz.strings_TrimRight_one (B (padP n 9)) 48 (by decide) W (by rw [B_size]; omega)
      rw [B_list] at H; exact H
    have hR : Hid (B (fracP n) = (⟨#[46]⟩ : ByteArray) ++ B (Lib.trimRightB (padP n 9) 48)) := by
      show _ = _
      unfold fracP; rw [if_neg h0, show (⟨#[46]⟩ : ByteArray) = B [46] from rfl, B_app]; rfl
    have s2 := B_size (Lib.trimRightB (padP n 9) 48)
    obtain ⟨P, hP'⟩ : ∃ P, P = B (padP n 9) := ⟨_, rfl⟩
    obtain ⟨T, hT⟩ : ∃ T, T = B (Lib.trimRightB (padP n 9) 48) := ⟨_, rfl⟩
    rw [← hP'] at H1 H2
    rw [← hT] at H2 hR s2
    have c1 : ¬ 9223372036854775807 < 1 + T.size := by omega
    clear hP' hT s2 hl ht h0
    have HP : Hid (PT w) := hP
    clear hP
    go_enter Tryz.func53, Tryz.ntmps53
    go_wp2_with (first | (go_at_call 52; refine (H1.out _ HP.out).mono ?_; rintro e w1 ⟨rfl, B1⟩) | (go_at_call 94; refine (H2.out _).mono ?_; rintro e w2 ⟨rfl, rfl⟩))
    go_ret
    exact ⟨by rw [hR.out]; rfl, B1⟩
theorem quo_pos (a b : Int) (h : 0 < b) : quoI a b = a / b ∧ modI a b = a % b := by
  obtain ⟨h1, h2, _⟩ := quo_mod a b (by omega)
  obtain ⟨h3, h4⟩ := h2 h
  have e := (Int.ediv_emod_unique h (a := a) (r := modI a b) (q := quoI a b)).2 ⟨by rw [Int.mul_comm] at h1; omega, h3, h4⟩
  exact ⟨e.1.symm, e.2.symm⟩
theorem div_day (t : Int) (ht : I64 t) (w : World) : Calls Tryz.prog 49 #[.int .i64 t, .int .i64 86400000000000] w fun e w' => e = .returned (.tuple #[.int .i64 (t / 86400000000000), .nilIface]) ∧ Below w.heap.size w w' := by
  have H := div_any t 86400000000000 ht ⟨by omega, by omega⟩ (by omega) w
  rw [(quo_pos t 86400000000000 (by omega)).1] at H
  have i : I64 (t / 86400000000000) := by unfold I64 at *; omega
  rw [sm0_yes i, sm1_yes i] at H; exact H
theorem mod_day (t : Int) (ht : I64 t) (w : World) : Calls Tryz.prog 50 #[.int .i64 t, .int .i64 86400000000000] w fun e w' => e = .returned (.tuple #[.int .i64 (t % 86400000000000), .nilIface]) ∧ w' = w := by
  have H := mod_any t 86400000000000 ⟨by omega, by omega⟩ (by omega) w
  rw [(quo_pos t 86400000000000 (by omega)).2] at H
  exact H
theorem frac_len (n : Int) (hn : I64 n) : (fracP n).length ≤ 30 := by
  have h1 := padP_len n 9 hn (by omega)
  have h2 := trimB_len (padP n 9)
  unfold fracP; split
  · simp
  · simp; omega
set_option maxRecDepth 100000 in
set_option maxHeartbeats 8000000 in
theorem text_any (t : Int) (ht : I64 t) (w : World) (hP : PT w) (hM : MT w) : Calls Tryz.prog 15 #[.int .i64 t] w fun e w' => e = .returned (.string (B (textP t))) ∧ Below w.heap.size w w' := by
  have ht' := ht
  unfold I64 at ht'
  have D := fun W => div_day t ht W
  have M := fun W => mod_day t ht W
  have hR : Hid (B (textP t) = B (textR (t / 86400000000000) (t % 86400000000000))) := rfl
  obtain ⟨q, hq⟩ : ∃ q, t / 86400000000000 = q := ⟨_, rfl⟩
  obtain ⟨r, hr⟩ : ∃ r, t % 86400000000000 = r := ⟨_, rfl⟩
  have q1 : -719528 ≤ q ∧ q < 2932897 := by omega
  have r1 : 0 ≤ r ∧ r < 86400000000000 := by omega
  rw [hq, hr] at hR
  simp only [hq] at D
  simp only [hr] at M
  clear hq hr ht'
  obtain ⟨q1, q2⟩ := q1
  obtain ⟨r1, r2⟩ := r1
  have DT := fun W hW => date_any q q1 q2 W hW
  obtain ⟨⟨a1, a2, a3, a4, a5, a6⟩, _⟩ := date_ok q q1 q2
  have hM' := lenM_bd (yOf q) (ymOf q)
  unfold textR at hR
  obtain ⟨y, hy⟩ : ∃ y, yOf q = y := ⟨_, rfl⟩
  obtain ⟨m, hm⟩ : ∃ m, ymOf q = m := ⟨_, rfl⟩
  obtain ⟨d, hd⟩ : ∃ d, ydOf q = d := ⟨_, rfl⟩
  simp only [hy, hm, hd] at DT hR
  rw [hy] at a1 a2
  rw [hm] at a3 a4
  rw [hd] at a5 a6
  rw [hy, hm] at a6 hM'
  clear hy hm hd
  have iy : I64 y := ⟨by omega, by omega⟩
  have im : I64 m := ⟨by omega, by omega⟩
  have id' : I64 d := ⟨by omega, by omega⟩
  have i1 : I64 (r / 3600000000000) := ⟨by omega, by omega⟩
  have i2 : I64 (r % 3600000000000 / 60000000000) := ⟨by omega, by omega⟩
  have i3 : I64 (r % 60000000000 / 1000000000) := ⟨by omega, by omega⟩
  have i4 : I64 (r % 1000000000) := ⟨by omega, by omega⟩
  have z1 := padP_len y 4 iy (by omega)
  have z2 := padP_len m 2 im (by omega)
  have z3 := padP_len d 2 id' (by omega)
  have z4 := padP_len _ 2 i1 (by omega)
  have z5 := padP_len _ 2 i2 (by omega)
  have z6 := padP_len _ 2 i3 (by omega)
  have z7 := frac_len _ i4
  have C1 : Hid (∀ W, PT W → Calls Tryz.prog 52 #[.int .i64 y, .int .i64 4] W fun e w' => e = .returned (.string (B (padP y 4))) ∧ Below W.heap.size W w') := fun W h => padded_any y 4 iy (by omega) W h
  have C2 : Hid (∀ W, PT W → Calls Tryz.prog 52 #[.int .i64 m, .int .i64 2] W fun e w' => e = .returned (.string (B (padP m 2))) ∧ Below W.heap.size W w') := fun W h => padded_any m 2 im (by omega) W h
  have C3 : Hid (∀ W, PT W → Calls Tryz.prog 52 #[.int .i64 d, .int .i64 2] W fun e w' => e = .returned (.string (B (padP d 2))) ∧ Below W.heap.size W w') := fun W h => padded_any d 2 id' (by omega) W h
  have C4 : Hid (∀ W, PT W → Calls Tryz.prog 52 #[.int .i64 (r / 3600000000000), .int .i64 2] W fun e w' => e = .returned (.string (B (padP (r / 3600000000000) 2))) ∧ Below W.heap.size W w') := fun W h => padded_any _ 2 i1 (by omega) W h
  have C5 : Hid (∀ W, PT W → Calls Tryz.prog 52 #[.int .i64 (r % 3600000000000 / 60000000000), .int .i64 2] W fun e w' => e = .returned (.string (B (padP (r % 3600000000000 / 60000000000) 2))) ∧ Below W.heap.size W w') := fun W h => padded_any _ 2 i2 (by omega) W h
  have C6 : Hid (∀ W, PT W → Calls Tryz.prog 52 #[.int .i64 (r % 60000000000 / 1000000000), .int .i64 2] W fun e w' => e = .returned (.string (B (padP (r % 60000000000 / 1000000000) 2))) ∧ Below W.heap.size W w') := fun W h => padded_any _ 2 i3 (by omega) W h
  have C7 : Hid (∀ W, PT W → Calls Tryz.prog 53 #[.int .i64 (r % 1000000000)] W fun e w' => e = .returned (.string (B (fracP (r % 1000000000)))) ∧ Below W.heap.size W w') := fun W h => fraction_any _ i4 W h
  have cons_app (c : UInt8) (l : List UInt8) : B (c :: l) = (⟨#[c]⟩ : ByteArray) ++ B l := by rw [show (⟨#[c]⟩ : ByteArray) = B [c] from rfl, B_app]; rfl
  have hS : Hid (B (textP t) = B (padP y 4) ++ (⟨#[45]⟩ : ByteArray) ++ B (padP m 2) ++ (⟨#[45]⟩ : ByteArray) ++ B (padP d 2) ++ (⟨#[84]⟩ : ByteArray) ++ B (padP (r / 3600000000000) 2) ++ (⟨#[58]⟩ : ByteArray) ++ B (padP (r % 3600000000000 / 60000000000) 2) ++ (⟨#[58]⟩ : ByteArray) ++ B (padP (r % 60000000000 / 1000000000) 2) ++ B (fracP (r % 1000000000)) ++ (⟨#[90]⟩ : ByteArray)) := by
    show _ = _
    rw [hR.out]
    simp only [← B_app, cons_app, ByteArray.append_assoc]
    rfl
  rw [← B_size] at z1 z2 z3 z4 z5 z6 z7
  generalize B (padP y 4) = P1 at *
  generalize B (padP m 2) = P2 at *
  generalize B (padP d 2) = P3 at *
  generalize B (padP (r / 3600000000000) 2) = P4 at *
  generalize B (padP (r % 3600000000000 / 60000000000) 2) = P5 at *
  generalize B (padP (r % 60000000000 / 1000000000) 2) = P6 at *
  generalize B (fracP (r % 1000000000)) = P7 at *
  have s1 : ¬ 9223372036854775807 < P1.size + 1 := by omega
  have s2 : ¬ 9223372036854775807 < P1.size + 1 + P2.size := by omega
  have s3 : ¬ 9223372036854775807 < P1.size + 1 + P2.size + 1 := by omega
  have s4 : ¬ 9223372036854775807 < P1.size + 1 + P2.size + 1 + P3.size := by omega
  have s5 : ¬ 9223372036854775807 < P1.size + 1 + P2.size + 1 + P3.size + 1 := by omega
  have s6 : ¬ 9223372036854775807 < P1.size + 1 + P2.size + 1 + P3.size + 1 + P4.size := by omega
  have s7 : ¬ 9223372036854775807 < P1.size + 1 + P2.size + 1 + P3.size + 1 + P4.size + 1 := by omega
  have s8 : ¬ 9223372036854775807 < P1.size + 1 + P2.size + 1 + P3.size + 1 + P4.size + 1 + P5.size := by omega
  have s9 : ¬ 9223372036854775807 < P1.size + 1 + P2.size + 1 + P3.size + 1 + P4.size + 1 + P5.size + 1 := by omega
  have s10 : ¬ 9223372036854775807 < P1.size + 1 + P2.size + 1 + P3.size + 1 + P4.size + 1 + P5.size + 1 + P6.size := by omega
  have s11 : ¬ 9223372036854775807 < P1.size + 1 + P2.size + 1 + P3.size + 1 + P4.size + 1 + P5.size + 1 + P6.size + P7.size := by omega
  have s12 : ¬ 9223372036854775807 < P1.size + 1 + P2.size + 1 + P3.size + 1 + P4.size + 1 + P5.size + 1 + P6.size + P7.size + 1 := by omega
  clear hR cons_app z1 z2 z3 z4 z5 z6 z7 i1 i2 i3 i4 iy im id' hM' a1 a2 a3 a4 a5 a6 q1 q2
  have HP : Hid (PT w) := hP
  have HM : Hid (MT w) := hM
  clear hP hM
  go_enter Tryz.func15, Tryz.ntmps15
  go_wp2_with fail
  refine (D _).mono ?_
  rintro e w1 ⟨rfl, B1⟩
  go_wp2_with fail
  refine (M _).mono ?_
  rintro e w1' ⟨rfl, rfl⟩
  go_wp2_with fail
  refine (DT _ (HM.out.below B1)).mono ?_
  rintro e w2' ⟨rfl, rfl⟩
  go_wp2_with fail
  refine (C1.out _ (HP.out.below B1)).mono ?_
  rintro e w2 ⟨rfl, B2⟩
  have B2' := below_then B1 B2
  clear B1 B2
  go_wp2_with fail
  refine (C2.out _ (HP.out.below B2')).mono ?_
  rintro e w3 ⟨rfl, B3⟩
  have B3' := below_then B2' B3
  clear B2' B3
  go_wp2_with fail
  refine (C3.out _ (HP.out.below B3')).mono ?_
  rintro e w4 ⟨rfl, B4⟩
  have B4' := below_then B3' B4
  clear B3' B4
  go_wp2_with fail
  refine (C4.out _ (HP.out.below B4')).mono ?_
  rintro e w5 ⟨rfl, B5⟩
  have B5' := below_then B4' B5
  clear B4' B5
  go_wp2_with fail
  refine (C5.out _ (HP.out.below B5')).mono ?_
  rintro e w6 ⟨rfl, B6⟩
  have B6' := below_then B5' B6
  clear B5' B6
  go_wp2_with fail
  refine (C6.out _ (HP.out.below B6')).mono ?_
  rintro e w7 ⟨rfl, B7⟩
  have B7' := below_then B6' B7
  clear B6' B7
  go_wp2_with fail
  refine (C7.out _ (HP.out.below B7')).mono ?_
  rintro e w8 ⟨rfl, B8⟩
  have B8' := below_then B7' B8
  clear B7' B8
  go_wp2_with fail
  go_ret
  exact ⟨by rw [hS.out]; rfl, B8'⟩
end Go.Proofs.YtipahdplkmmofaaGreatDoor
