
import Derived.Test.YtbhohlmlmlpboaaGreatDoorSqC
namespace Go.Proofs.YtbhohlmlmlpboaaGreatDoor
open Go.RowKit Go.Shelf
set_option linter.unusedVariables false
set_option linter.unusedSimpArgs false
theorem cut_list (s : ByteArray) (k : Nat) : (s.extract 0 k).data.toList = s.data.toList.take k := by
  simp [ByteArray.data_extract]
theorem end_at (TR : List UInt8) (j : Nat) (T : ByteArray) (hT : T = B (TR ++ List.replicate j 48)) (h1 : 1 ≤ TR.length) (HL : ∀ x, TR.getLast? = some x → x ≠ 48) (hi : TR.length + j - 1 < T.size) : (((T[TR.length + j - 1]).toNat : Int) == 48) = decide (j ≠ 0) := by
  subst hT
  rw [B_get _ _ (by simp; omega)]
  by_cases h : j = 0
  · subst h
    have e : (TR ++ List.replicate 0 48)[TR.length + 0 - 1]'(by simp; omega) = TR[TR.length - 1]'(by omega) := by simp
    rw [e]
    have hx := HL (TR[TR.length - 1]'(by omega)) (by rw [List.getLast?_eq_getElem?, List.getElem?_eq_getElem])
    have hy : (TR[TR.length - 1]'(by omega)).toNat ≠ 48 := fun hh => hx (UInt8.toNat_inj.1 hh)
    simp; omega
  · have e : (TR ++ List.replicate j 48)[TR.length + j - 1]'(by simp; omega) = 48 := by rw [List.getElem_append_right (by omega)]; simp
    rw [e]; simp [h]
theorem cut_end (TR : List UInt8) (i : Nat) (T : ByteArray) (hT : T = B (TR ++ List.replicate (i + 1) 48)) : T.extract 0 (TR.length + (i + 1) - 1) = B (TR ++ List.replicate i 48) := by
  subst hT
  rw [← B_of ((B (TR ++ List.replicate (i + 1) 48)).extract 0 (TR.length + (i + 1) - 1)), cut_list, B_list, List.take_append]
  congr 1
  rw [List.take_of_length_le (by omega), List.take_replicate]
  congr 2; omega
set_option maxRecDepth 100000 in
set_option maxHeartbeats 8000000 in
theorem rtext_any (t : Int) (ht : I64 t) (w : World) (hP : PT w) : Calls Tryz.prog 12 #[.int .i64 t] w fun e w' => e = .returned (.string (B (textP t))) ∧ Below w.heap.size w w' := by
  have ht' := ht
  unfold I64 at ht'
  have D1 := fun W => rdiv_pos t 1000000000 ht ⟨by omega, by omega⟩ (by omega) W
  have M1 := fun W => rmod_pos t 1000000000 ⟨by omega, by omega⟩ (by omega) W
  have D2 := fun W => rdiv_pos (t / 1000000000) 86400 ⟨by omega, by omega⟩ ⟨by omega, by omega⟩ (by omega) W
  have M2 := fun W => rmod_pos (t / 1000000000) 86400 ⟨by omega, by omega⟩ (by omega) W
  have hR : Hid (B (textP t) = B (textR (t / 86400000000000) (t % 86400000000000))) := rfl
  obtain ⟨s, hs⟩ : ∃ s, t / 1000000000 = s := ⟨_, rfl⟩
  obtain ⟨n, hn⟩ : ∃ n, t % 1000000000 = n := ⟨_, rfl⟩
  obtain ⟨q, hq⟩ : ∃ q, s / 86400 = q := ⟨_, rfl⟩
  obtain ⟨a, ha⟩ : ∃ a, s % 86400 = a := ⟨_, rfl⟩
  unfold textR at hR
  have e0 : t / 86400000000000 = q := by omega
  have e1 : t % 86400000000000 / 3600000000000 = a / 3600 := by omega
  have e2 : t % 86400000000000 % 3600000000000 / 60000000000 = a / 60 % 60 := by omega
  have e3 : t % 86400000000000 % 60000000000 / 1000000000 = a % 60 := by omega
  have e4 : t % 86400000000000 % 1000000000 = n := by omega
  rw [e0, e1, e2, e3, e4] at hR
  clear e0 e1 e2 e3 e4
  have q1 : -719528 ≤ q := by omega
  have q2 : q < 2932897 := by omega
  have r1 : 0 ≤ a := by omega
  have r2 : a < 86400 := by omega
  have n1 : 0 ≤ n := by omega
  have n2 : n < 1000000000 := by omega
  have s1' : I64 s := ⟨by omega, by omega⟩
  simp only [hs] at D1 D2 M2
  simp only [hn] at M1
  simp only [hq] at D2
  simp only [ha] at M2
  clear hs hn hq ha ht'
  have DT := fun W => rdate_any q q1 q2 W
  obtain ⟨⟨a1, a2, a3, a4, a5, a6⟩, _⟩ := date_ok q q1 q2
  have hM' := lenM_bd (yOf q) (ymOf q)
  obtain ⟨y, hy⟩ : ∃ y, yOf q = y := ⟨_, rfl⟩
  obtain ⟨m, hm⟩ : ∃ m, ymOf q = m := ⟨_, rfl⟩
  obtain ⟨d, hd⟩ : ∃ d, ydOf q = d := ⟨_, rfl⟩
  simp only [hy, hm, hd] at DT hR
  rw [hy] at a1 a2
  rw [hm] at a3 a4
  rw [hd] at a5 a6
  rw [hy, hm] at a6 hM'
  clear hy hm hd
  have iy : I64 y := ⟨by omega, by omega⟩
  have im : I64 m := ⟨by omega, by omega⟩
  have id' : I64 d := ⟨by omega, by omega⟩
  have i1 : I64 (a / 3600) := ⟨by omega, by omega⟩
  have i2 : I64 (a / 60 % 60) := ⟨by omega, by omega⟩
  have i3 : I64 (a % 60) := ⟨by omega, by omega⟩
  have i4 : I64 n := ⟨by omega, by omega⟩
  have z1 := padP_len y 4 iy (by omega)
  have z2 := padP_len m 2 im (by omega)
  have z3 := padP_len d 2 id' (by omega)
  have z4 := padP_len _ 2 i1 (by omega)
  have z5 := padP_len _ 2 i2 (by omega)
  have z6 := padP_len _ 2 i3 (by omega)
  have C1 : Hid (∀ W, PT W → Calls Tryz.prog 30 #[.int .i64 y, .int .i64 4] W fun e w' => e = .returned (.string (B (padP y 4))) ∧ Below W.heap.size W w') := fun W h => two_any y 4 iy (by omega) W h
  have C2 : Hid (∀ W, PT W → Calls Tryz.prog 30 #[.int .i64 m, .int .i64 2] W fun e w' => e = .returned (.string (B (padP m 2))) ∧ Below W.heap.size W w') := fun W h => two_any m 2 im (by omega) W h
  have C3 : Hid (∀ W, PT W → Calls Tryz.prog 30 #[.int .i64 d, .int .i64 2] W fun e w' => e = .returned (.string (B (padP d 2))) ∧ Below W.heap.size W w') := fun W h => two_any d 2 id' (by omega) W h
  have C4 : Hid (∀ W, PT W → Calls Tryz.prog 30 #[.int .i64 (a / 3600), .int .i64 2] W fun e w' => e = .returned (.string (B (padP (a / 3600) 2))) ∧ Below W.heap.size W w') := fun W h => two_any (a / 3600) 2 i1 (by omega) W h
  have C5 : Hid (∀ W, PT W → Calls Tryz.prog 30 #[.int .i64 (a / 60 % 60), .int .i64 2] W fun e w' => e = .returned (.string (B (padP (a / 60 % 60) 2))) ∧ Below W.heap.size W w') := fun W h => two_any (a / 60 % 60) 2 i2 (by omega) W h
  have C6 : Hid (∀ W, PT W → Calls Tryz.prog 30 #[.int .i64 (a % 60), .int .i64 2] W fun e w' => e = .returned (.string (B (padP (a % 60) 2))) ∧ Below W.heap.size W w') := fun W h => two_any (a % 60) 2 i3 (by omega) W h
  have C7 : Hid (∀ W, PT W → Calls Tryz.prog 30 #[.int .i64 n, .int .i64 9] W fun e w' => e = .returned (.string (B (padP n 9))) ∧ Below W.heap.size W w') := fun W h => two_any n 9 i4 (by omega) W h
  have cons_app (c : UInt8) (l : List UInt8) : B (c :: l) = (⟨#[c]⟩ : ByteArray) ++ B l := by rw [show (⟨#[c]⟩ : ByteArray) = B [c] from rfl, B_app]; rfl
  have hS : Hid (B (textP t) = B (padP y 4) ++ (⟨#[45]⟩ : ByteArray) ++ B (padP m 2) ++ (⟨#[45]⟩ : ByteArray) ++ B (padP d 2) ++ (⟨#[84]⟩ : ByteArray) ++ B (padP (a / 3600) 2) ++ (⟨#[58]⟩ : ByteArray) ++ B (padP (a / 60 % 60) 2) ++ (⟨#[58]⟩ : ByteArray) ++ B (padP (a % 60) 2) ++ (B (fracP n) ++ (⟨#[90]⟩ : ByteArray))) := by
    show _ = _
    rw [hR.out]
    simp only [← B_app, cons_app, ByteArray.append_assoc]
    rfl
  rw [← B_size] at z1 z2 z3 z4 z5 z6
  generalize B (padP y 4) = P1 at *
  generalize B (padP m 2) = P2 at *
  generalize B (padP d 2) = P3 at *
  generalize B (padP (a / 3600) 2) = P4 at *
  generalize B (padP (a / 60 % 60) 2) = P5 at *
  generalize B (padP (a % 60) 2) = P6 at *
  have s1 : ¬ 9223372036854775807 < P1.size + 1 := by omega
  have s2 : ¬ 9223372036854775807 < P1.size + 1 + P2.size := by omega
  have s3 : ¬ 9223372036854775807 < P1.size + 1 + P2.size + 1 := by omega
  have s4 : ¬ 9223372036854775807 < P1.size + 1 + P2.size + 1 + P3.size := by omega
  have s5 : ¬ 9223372036854775807 < P1.size + 1 + P2.size + 1 + P3.size + 1 := by omega
  have s6 : ¬ 9223372036854775807 < P1.size + 1 + P2.size + 1 + P3.size + 1 + P4.size := by omega
  have s7 : ¬ 9223372036854775807 < P1.size + 1 + P2.size + 1 + P3.size + 1 + P4.size + 1 := by omega
  have s8 : ¬ 9223372036854775807 < P1.size + 1 + P2.size + 1 + P3.size + 1 + P4.size + 1 + P5.size := by omega
  have s9 : ¬ 9223372036854775807 < P1.size + 1 + P2.size + 1 + P3.size + 1 + P4.size + 1 + P5.size + 1 := by omega
  have s10 : ¬ 9223372036854775807 < P1.size + 1 + P2.size + 1 + P3.size + 1 + P4.size + 1 + P5.size + 1 + P6.size := by omega
  have s11 : ¬ 9223372036854775807 < P1.size + 1 + P2.size + 1 + P3.size + 1 + P4.size + 1 + P5.size + 1 + P6.size + 1 := by omega
  clear hR cons_app i1 i2 i3 iy im id' hM' a1 a2 a3 a4 a5 a6 q1 q2
  have HP : Hid (PT w) := hP
  clear hP
  go_enter Tryz.func12, Tryz.ntmps12
  go_wp2_with fail
  refine (D1 _).mono ?_
  rintro e u1 ⟨rfl, B1⟩
  go_wp2_with fail
  refine (M1 _).mono ?_
  rintro e u2 ⟨rfl, B2⟩
  have K2 := below_then (below_new B1 _) B2
  clear B1 B2
  go_wp2_with fail
  refine (D2 _).mono ?_
  rintro e u3 ⟨rfl, B3⟩
  have K3 := below_then (below_new K2 _) B3
  clear K2 B3
  go_wp2_with fail
  refine (M2 _).mono ?_
  rintro e u4 ⟨rfl, B4⟩
  have K4 := below_then (below_new K3 _) B4
  clear K3 B4
  go_wp2_with fail
  refine (DT _).mono ?_
  rintro e u5 ⟨rfl, rfl⟩
  have K5 := below_new K4 (.cells #[.int .i64 0, .int .i64 0, .int .i64 0, .bool false, .bool false] 31)
  generalize u4.alloc (.cells #[.int .i64 0, .int .i64 0, .int .i64 0, .bool false, .bool false] 31) = w0 at *
  clear K4
  go_wp2_with fail
  refine (C1.out _ (HP.out.below K5)).mono ?_
  rintro e w1 ⟨rfl, B1⟩
  have L1 := below_then K5 B1
  clear K5 B1
  go_wp2_with fail
  refine (C2.out _ (HP.out.below L1)).mono ?_
  rintro e w2 ⟨rfl, B2⟩
  have L2 := below_then L1 B2
  clear L1 B2
  go_wp2_with fail
  refine (C3.out _ (HP.out.below L2)).mono ?_
  rintro e w3 ⟨rfl, B3⟩
  have L3 := below_then L2 B3
  clear L2 B3
  go_wp2_with fail
  refine (C4.out _ (HP.out.below L3)).mono ?_
  rintro e w4 ⟨rfl, B4⟩
  have L4 := below_then L3 B4
  clear L3 B4
  go_wp2_with fail
  refine (C5.out _ (HP.out.below L4)).mono ?_
  rintro e w5 ⟨rfl, B5⟩
  have L5 := below_then L4 B5
  clear L4 B5
  go_wp2_with fail
  refine (C6.out _ (HP.out.below L5)).mono ?_
  rintro e w6 ⟨rfl, B6⟩
  have L6 := below_then L5 B6
  clear L5 B6
  by_cases h0 : n = 0
  · have hT : Hid (B (textP t) = P1 ++ (⟨#[45]⟩ : ByteArray) ++ P2 ++ (⟨#[45]⟩ : ByteArray) ++ P3 ++ (⟨#[84]⟩ : ByteArray) ++ P4 ++ (⟨#[58]⟩ : ByteArray) ++ P5 ++ (⟨#[58]⟩ : ByteArray) ++ P6 ++ (⟨#[90]⟩ : ByteArray)) := by
      show _ = _
      rw [hS.out, show fracP n = [] by unfold fracP; rw [if_pos h0]]
      rfl
    have hlt : ¬ 0 < n := by omega
    go_wp2_with fail
    go_ret
    exact ⟨by rw [hT.out]; rfl, L6⟩
  · have hlt : 0 < n := by omega
    go_wp2_with fail
    refine (C7.out _ (HP.out.below L6)).mono ?_
    rintro e w7 ⟨rfl, B7⟩
    have L7 := below_then L6 B7
    clear L6 B7
    obtain ⟨p1, p2, p3⟩ := pad_ok n 8 n1 (by simpa using n2)
    obtain ⟨J, hJ⟩ := trim_zeros (padP n 9)
    have hla := trim_last (padP n 9)
    have hfr : Hid (fracP n = 46 :: Lib.trimRightB (padP n 9) 48) := by show _ = _; unfold fracP; rw [if_neg h0]
    have hlen : 1 ≤ (Lib.trimRightB (padP n 9) 48).length ∧ (Lib.trimRightB (padP n 9) 48).length + J = 9 := by
      have hl := congrArg List.length hJ
      rw [p1] at hl; simp at hl
      refine ⟨?_, by omega⟩
      apply Decidable.byContradiction; intro hh
      have e : Lib.trimRightB (padP n 9) 48 = [] := List.length_eq_zero_iff.1 (by omega)
      rw [e, List.nil_append] at hJ
      rw [hJ, valF_zeros] at p3; omega
    rw [hJ]
    generalize Lib.trimRightB (padP n 9) 48 = TR at *
    obtain ⟨g1, g2⟩ := hlen
    have HL : Hid (∀ x, TR.getLast? = some x → x ≠ 48) := hla
    clear hla p1 p2 p3 hJ
    go_wp2_with fail
    go_loop [15] (fun f => ∃ (j : Nat) (T : ByteArray), j ≤ 9 ∧ f = .string T ∧ T.size = TR.length + j ∧ Hid (T = B (TR ++ List.replicate j 48))) (fun f => match f with | .string T => T.size | _ => 0)
    case atStart => exact ⟨J, _, by omega, rfl, by rw [B_size]; simp, rfl⟩
    case round =>
      obtain ⟨j, T, hj, rfl, hz, hT⟩ := hrel
      have EA := end_at TR j T hT.out g1 HL.out (by omega)
      have HE : Hid ((((T[TR.length + j - 1]'(by omega)).toNat : Int) == 48) = decide (j ≠ 0)) := EA
      clear EA
      go_wp2_with fail
      · rename_i hk hc
        have hj0 : j ≠ 0 := of_decide_eq_true (HE.out.symm.trans hc)
        clear HE hc hk
        obtain ⟨i, rfl⟩ : ∃ i, j = i + 1 := ⟨j - 1, by omega⟩
        have cz := cut_end TR i T hT.out
        refine ⟨⟨i, _, by omega, rfl, ?_, cz⟩, ?_⟩
        · rw [cz, B_size]; simp
        · show (T.extract 0 (TR.length + (i + 1) - 1)).size < T.size
          rw [cz, B_size]; simp; omega
      · rename_i hk hc
        have hj0 : j = 0 := Decidable.byContradiction fun hh => by
          have := HE.out.symm.trans hc
          simp [hh] at this
        have hTT : Hid (B (textP t) = P1 ++ (⟨#[45]⟩ : ByteArray) ++ P2 ++ (⟨#[45]⟩ : ByteArray) ++ P3 ++ (⟨#[84]⟩ : ByteArray) ++ P4 ++ (⟨#[58]⟩ : ByteArray) ++ P5 ++ (⟨#[58]⟩ : ByteArray) ++ P6 ++ ((⟨#[46]⟩ : ByteArray) ++ T) ++ (⟨#[90]⟩ : ByteArray)) := by
          show _ = _
          rw [hS.out, hfr.out, hT.out, hj0, show (⟨#[46]⟩ : ByteArray) = B [46] from rfl, B_app, show [46] ++ (TR ++ List.replicate 0 48) = 46 :: TR by simp]
          simp only [ByteArray.append_assoc]
        go_ret
        exact ⟨by rw [hTT.out]; rfl, L7⟩
end Go.Proofs.YtbhohlmlmlpboaaGreatDoor
