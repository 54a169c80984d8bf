
import Derived.Test.YtchabeebpbaaeaaGreatDoorSpLw
import Derived.Test.YtchabeebpbaaeaaGreatDoorSpE
namespace Go.Proofs.YtchabeebpbaaeaaGreatDoor
open Go.RowKit Go.Shelf
set_option linter.unusedVariables false
set_option linter.unusedSimpArgs false
/-- what stands behind begins with no letter and no digit. -/
def plainB (s : ByteArray) : Prop := s.data.toList.head? ≠ some 115 ∧ cnt s.data.toList = 0
theorem plain_of (s : ByteArray) (h : s.size = 0 ∨ ∃ h : 0 < s.size, ¬ (48 ≤ (s[0].toNat : Int) ∧ (s[0].toNat : Int) ≤ 57) ∧ ¬ (97 ≤ (s[0].toNat : Int) ∧ (s[0].toNat : Int) ≤ 122)) : plainB s := by
  rcases h with h | ⟨hp, h1, h2⟩
  · have e : s.data.toList = [] := List.eq_nil_of_length_eq_zero (by rw [sz_list]; exact h)
    unfold plainB; rw [e]; exact ⟨by simp, rfl⟩
  · have hl : 0 < s.data.toList.length := by rw [sz_list]; exact hp
    have g1 : ¬ (48 ≤ (s.data.toList[0].toNat : Int) ∧ (s.data.toList[0].toNat : Int) ≤ 57) := h1
    have g2 : ¬ (97 ≤ (s.data.toList[0].toNat : Int) ∧ (s.data.toList[0].toNat : Int) ≤ 122) := h2
    clear h1 h2
    unfold plainB
    generalize s.data.toList = l at *
    cases l with
    | nil => simp at hl
    | cons c r =>
      simp only [List.getElem_cons_zero] at g1 g2
      refine ⟨?_, ?_⟩
      · simp only [List.head?_cons, ne_eq, Option.some.injEq]; intro e; subst e; exact g2 (by decide)
      · unfold cnt; rw [if_neg]; unfold isD; simp only [decide_eq_true_eq]; exact g1
theorem Bs_app (l : List UInt8) (s : ByteArray) : (B l ++ s).data.toList = l ++ s.data.toList := by
  rw [ByteArray.data_append, Array.toList_append, B_list]
set_option maxRecDepth 100000 in
set_option maxHeartbeats 4000000 in
theorem scan_e (n m : Int) (s : ByteArray) (hn : I64 n) (hm : I64 m) (hs : s.size ≤ 9223372036854775000) (w : World) (h : SW w) (n0 : ¬ n < 0) (m0 : ¬ m < 0) (hz : s.size = 0) : Calls Tryz.prog 8 #[.int .i64 n, .int .i64 m, .string s] w fun e w' => e = .returned (.bool true) ∧ Below w.heap.size w w' := by
  have L := fun W hW => slive_any W hW
  have HW : Hid (SW w) := h
  clear h
  unfold I64 at hn hm
  obtain ⟨n1, n2⟩ := hn
  obtain ⟨m1, m2⟩ := hm
  have iN : I64 n := ⟨by omega, by omega⟩
  have P1 : Hid (∀ W, SW W → Calls Tryz.prog 13 #[.int .i64 n] W fun e w' => e = .returned (.string (B (prT n))) ∧ Below W.heap.size W w') := fun W hW => print_any n iN W hW.u hW.p
  have z1 := prT_len n iN
  rw [← B_size] at z1
  have SC : Hid (plainB s → ∀ W, SW W → Calls Tryz.prog 18 #[.string (B (prT n) ++ s)] W fun e w' => e = .returned (.tuple #[.int .i64 n, .int .i64 ((B (prT n)).size : Int), .nilIface]) ∧ Below W.heap.size W w') := fun hp W hW => by
    obtain ⟨q1, q2, q3⟩ := scan_print n (by omega) (by omega) s.data.toList hp.1 hp.2
    have H := scan_any (B (prT n) ++ s) (by rw [ByteArray.size_append]; omega) n (prT n).length (by rw [Bs_app, Prod.ext_iff]; exact ⟨q2, q3⟩) W hW.u
    rw [Bs_app, q1, if_pos rfl, if_pos rfl, erV_0, ← B_size] at H
    exact H
  obtain ⟨hh, eh⟩ : ∃ hh, m % 1000 = hh := ⟨_, rfl⟩
  obtain ⟨ss, es⟩ : ∃ ss, n % 1000000000 = ss := ⟨_, rfl⟩
  have h0 : 0 ≤ hh ∧ hh < 1000 := by omega
  have s0 : 0 ≤ ss ∧ ss < 1000000000 := by omega
  obtain ⟨h01, h02⟩ := h0
  obtain ⟨s01, s02⟩ := s0
  have iH : I64 (hh * 3600000000000) := ⟨by omega, by omega⟩
  have iS : I64 ss := ⟨by omega, by omega⟩
  have P2 : Hid (∀ W, SW W → Calls Tryz.prog 13 #[.int .i64 (hh * 3600000000000)] W fun e w' => e = .returned (.string (B (prT (hh * 3600000000000)))) ∧ Below W.heap.size W w') := fun W hW => print_any _ iH W hW.u hW.p
  have P3 : Hid (∀ W, SW W → Calls Tryz.prog 13 #[.int .i64 ss] W fun e w' => e = .returned (.string (B (prT ss))) ∧ Below W.heap.size W w') := fun W hW => print_any _ iS W hW.u hW.p
  have z2 := prT_len _ iH
  have z3 := prT_len _ iS
  rw [← B_size] at z2 z3
  have PR : Hid (hh ≠ 0 → ss ≠ 0 → ¬ hh % 24 = 0 → ∀ W, SW W → Calls Tryz.prog 15 #[.string (B (prT (hh * 3600000000000)) ++ B (prT ss))] W fun e w' => e = .returned (.tuple #[.int .i64 (hh * 3600000000000 + ss), .nilIface]) ∧ Below W.heap.size W w') := fun a b c W hW => by
    obtain ⟨q1, q2⟩ := parse_two hh ss (by omega) h02 (by omega) s02 c
    have H := parse_any (B (prT (hh * 3600000000000)) ++ B (prT ss)) (by rw [ByteArray.size_append]; omega) W hW.u
    rw [Bs_app, B_list, q1, q2, erV_0] at H
    exact H
  generalize B (prT n) = T1 at *
  generalize B (prT (hh * 3600000000000)) = T2 at *
  generalize B (prT ss) = T3 at *
  have ca : ¬ 9223372036854775807 < T1.size + s.size := by omega
  have cb : ¬ 9223372036854775807 < T2.size + T3.size := by omega
  have PL : Hid (s.size = 0 ∨ (∃ h : 0 < s.size, ¬ (48 ≤ (s[0].toNat : Int) ∧ (s[0].toNat : Int) ≤ 57) ∧ ¬ (97 ≤ (s[0].toNat : Int) ∧ (s[0].toNat : Int) ≤ 122)) → plainB s) := plain_of s
  clear z1 z2 z3 iN iH iS
  have hpl : plainB s := plain_of s (Or.inl hz)
  have SD : Hid (∀ W, SW W → Calls Tryz.prog 18 #[.string (T1 ++ s)] W fun e w' => e = .returned (.tuple #[.int .i64 n, .int .i64 (T1.size : Int), .nilIface]) ∧ Below W.heap.size W w') := SC.out hpl
  clear SC hpl PL
  have hz0 : ¬ 0 < (s.size : Int) := by omega
  by_cases y1 : hh = 0
  · have y1' : (hh == 0) = true := by simp [y1]
    clear PR y1
    go_enter Tryz.func8, Tryz.ntmps8
    go_wp2_with fail
    refine (L _ HW.out).mono ?_
    rintro e w1 ⟨rfl, B1⟩
    go_wp2_with fail
    refine (P1.out _ (HW.out.below B1)).mono ?_
    rintro e w2 ⟨rfl, C2⟩
    have B2 := below_then B1 C2
    clear B1 C2
    go_wp2_with fail
    refine (SD.out _ (HW.out.below B2)).mono ?_
    rintro e w3 ⟨rfl, C3⟩
    have B3 := below_then B2 C3
    clear B2 C3
    go_wp2_with fail
    refine (P2.out _ (HW.out.below B3)).mono ?_
    rintro e w4 ⟨rfl, C4⟩
    have B4 := below_then B3 C4
    clear B3 C4
    go_wp2_with fail
    refine (P3.out _ (HW.out.below B4)).mono ?_
    rintro e w5 ⟨rfl, C5⟩
    have B5 := below_then B4 C5
    clear B4 C5
    go_wp2_with fail
    go_ret
    exact ⟨rfl, B5⟩
  have y1' : (hh == 0) = false := by simp [y1]
  by_cases y2 : ss = 0
  · have y2' : (ss == 0) = true := by simp [y2]
    clear PR y1 y2
    go_enter Tryz.func8, Tryz.ntmps8
    go_wp2_with fail
    refine (L _ HW.out).mono ?_
    rintro e w1 ⟨rfl, B1⟩
    go_wp2_with fail
    refine (P1.out _ (HW.out.below B1)).mono ?_
    rintro e w2 ⟨rfl, C2⟩
    have B2 := below_then B1 C2
    clear B1 C2
    go_wp2_with fail
    refine (SD.out _ (HW.out.below B2)).mono ?_
    rintro e w3 ⟨rfl, C3⟩
    have B3 := below_then B2 C3
    clear B2 C3
    go_wp2_with fail
    refine (P2.out _ (HW.out.below B3)).mono ?_
    rintro e w4 ⟨rfl, C4⟩
    have B4 := below_then B3 C4
    clear B3 C4
    go_wp2_with fail
    refine (P3.out _ (HW.out.below B4)).mono ?_
    rintro e w5 ⟨rfl, C5⟩
    have B5 := below_then B4 C5
    clear B4 C5
    go_wp2_with fail
    go_ret
    exact ⟨rfl, B5⟩
  have y2' : (ss == 0) = false := by simp [y2]
  by_cases y3 : hh % 24 = 0
  · clear PR y1 y2
    go_enter Tryz.func8, Tryz.ntmps8
    go_wp2_with fail
    refine (L _ HW.out).mono ?_
    rintro e w1 ⟨rfl, B1⟩
    go_wp2_with fail
    refine (P1.out _ (HW.out.below B1)).mono ?_
    rintro e w2 ⟨rfl, C2⟩
    have B2 := below_then B1 C2
    clear B1 C2
    go_wp2_with fail
    refine (SD.out _ (HW.out.below B2)).mono ?_
    rintro e w3 ⟨rfl, C3⟩
    have B3 := below_then B2 C3
    clear B2 C3
    go_wp2_with fail
    refine (P2.out _ (HW.out.below B3)).mono ?_
    rintro e w4 ⟨rfl, C4⟩
    have B4 := below_then B3 C4
    clear B3 C4
    go_wp2_with fail
    refine (P3.out _ (HW.out.below B4)).mono ?_
    rintro e w5 ⟨rfl, C5⟩
    have B5 := below_then B4 C5
    clear B4 C5
    go_wp2_with fail
    go_ret
    exact ⟨rfl, B5⟩
  · have y3' : (hh % 24 == 0) = false := by simp [y3]
    have PD : Hid (∀ W, SW W → Calls Tryz.prog 15 #[.string (T2 ++ T3)] W fun e w' => e = .returned (.tuple #[.int .i64 (hh * 3600000000000 + ss), .nilIface]) ∧ Below W.heap.size W w') := PR.out y1 y2 y3
    clear PR y1 y2 y3
    go_enter Tryz.func8, Tryz.ntmps8
    go_wp2_with fail
    refine (L _ HW.out).mono ?_
    rintro e w1 ⟨rfl, B1⟩
    go_wp2_with fail
    refine (P1.out _ (HW.out.below B1)).mono ?_
    rintro e w2 ⟨rfl, C2⟩
    have B2 := below_then B1 C2
    clear B1 C2
    go_wp2_with fail
    refine (SD.out _ (HW.out.below B2)).mono ?_
    rintro e w3 ⟨rfl, C3⟩
    have B3 := below_then B2 C3
    clear B2 C3
    go_wp2_with fail
    refine (P2.out _ (HW.out.below B3)).mono ?_
    rintro e w4 ⟨rfl, C4⟩
    have B4 := below_then B3 C4
    clear B3 C4
    go_wp2_with fail
    refine (P3.out _ (HW.out.below B4)).mono ?_
    rintro e w5 ⟨rfl, C5⟩
    have B5 := below_then B4 C5
    clear B4 C5
    go_wp2_with fail
    refine (PD.out _ (HW.out.below B5)).mono ?_
    rintro e w6 ⟨rfl, C6⟩
    have B6 := below_then B5 C6
    clear B5 C6
    go_wp2_with fail
    go_ret
    exact ⟨rfl, B6⟩
set_option maxRecDepth 100000 in
set_option maxHeartbeats 4000000 in
theorem scan_a (n m : Int) (s : ByteArray) (hn : I64 n) (hm : I64 m) (hs : s.size ≤ 9223372036854775000) (w : World) (h : SW w) (n0 : ¬ n < 0) (m0 : ¬ m < 0) (hp : 0 < s.size) (c1 : ¬ 48 ≤ (s[0].toNat : Int)) (c3 : ¬ 97 ≤ (s[0].toNat : Int)) (c5 : ¬ 65 ≤ (s[0].toNat : Int)) : Calls Tryz.prog 8 #[.int .i64 n, .int .i64 m, .string s] w fun e w' => e = .returned (.bool true) ∧ Below w.heap.size w w' := by
  have L := fun W hW => slive_any W hW
  have HW : Hid (SW w) := h
  clear h
  unfold I64 at hn hm
  obtain ⟨n1, n2⟩ := hn
  obtain ⟨m1, m2⟩ := hm
  have iN : I64 n := ⟨by omega, by omega⟩
  have P1 : Hid (∀ W, SW W → Calls Tryz.prog 13 #[.int .i64 n] W fun e w' => e = .returned (.string (B (prT n))) ∧ Below W.heap.size W w') := fun W hW => print_any n iN W hW.u hW.p
  have z1 := prT_len n iN
  rw [← B_size] at z1
  have SC : Hid (plainB s → ∀ W, SW W → Calls Tryz.prog 18 #[.string (B (prT n) ++ s)] W fun e w' => e = .returned (.tuple #[.int .i64 n, .int .i64 ((B (prT n)).size : Int), .nilIface]) ∧ Below W.heap.size W w') := fun hp W hW => by
    obtain ⟨q1, q2, q3⟩ := scan_print n (by omega) (by omega) s.data.toList hp.1 hp.2
    have H := scan_any (B (prT n) ++ s) (by rw [ByteArray.size_append]; omega) n (prT n).length (by rw [Bs_app, Prod.ext_iff]; exact ⟨q2, q3⟩) W hW.u
    rw [Bs_app, q1, if_pos rfl, if_pos rfl, erV_0, ← B_size] at H
    exact H
  obtain ⟨hh, eh⟩ : ∃ hh, m % 1000 = hh := ⟨_, rfl⟩
  obtain ⟨ss, es⟩ : ∃ ss, n % 1000000000 = ss := ⟨_, rfl⟩
  have h0 : 0 ≤ hh ∧ hh < 1000 := by omega
  have s0 : 0 ≤ ss ∧ ss < 1000000000 := by omega
  obtain ⟨h01, h02⟩ := h0
  obtain ⟨s01, s02⟩ := s0
  have iH : I64 (hh * 3600000000000) := ⟨by omega, by omega⟩
  have iS : I64 ss := ⟨by omega, by omega⟩
  have P2 : Hid (∀ W, SW W → Calls Tryz.prog 13 #[.int .i64 (hh * 3600000000000)] W fun e w' => e = .returned (.string (B (prT (hh * 3600000000000)))) ∧ Below W.heap.size W w') := fun W hW => print_any _ iH W hW.u hW.p
  have P3 : Hid (∀ W, SW W → Calls Tryz.prog 13 #[.int .i64 ss] W fun e w' => e = .returned (.string (B (prT ss))) ∧ Below W.heap.size W w') := fun W hW => print_any _ iS W hW.u hW.p
  have z2 := prT_len _ iH
  have z3 := prT_len _ iS
  rw [← B_size] at z2 z3
  have PR : Hid (hh ≠ 0 → ss ≠ 0 → ¬ hh % 24 = 0 → ∀ W, SW W → Calls Tryz.prog 15 #[.string (B (prT (hh * 3600000000000)) ++ B (prT ss))] W fun e w' => e = .returned (.tuple #[.int .i64 (hh * 3600000000000 + ss), .nilIface]) ∧ Below W.heap.size W w') := fun a b c W hW => by
    obtain ⟨q1, q2⟩ := parse_two hh ss (by omega) h02 (by omega) s02 c
    have H := parse_any (B (prT (hh * 3600000000000)) ++ B (prT ss)) (by rw [ByteArray.size_append]; omega) W hW.u
    rw [Bs_app, B_list, q1, q2, erV_0] at H
    exact H
  generalize B (prT n) = T1 at *
  generalize B (prT (hh * 3600000000000)) = T2 at *
  generalize B (prT ss) = T3 at *
  have ca : ¬ 9223372036854775807 < T1.size + s.size := by omega
  have cb : ¬ 9223372036854775807 < T2.size + T3.size := by omega
  have PL : Hid (s.size = 0 ∨ (∃ h : 0 < s.size, ¬ (48 ≤ (s[0].toNat : Int) ∧ (s[0].toNat : Int) ≤ 57) ∧ ¬ (97 ≤ (s[0].toNat : Int) ∧ (s[0].toNat : Int) ≤ 122)) → plainB s) := plain_of s
  clear z1 z2 z3 iN iH iS
  have hpl : plainB s := plain_of s (Or.inr ⟨hp, by omega, by omega⟩)
  have SD : Hid (∀ W, SW W → Calls Tryz.prog 18 #[.string (T1 ++ s)] W fun e w' => e = .returned (.tuple #[.int .i64 n, .int .i64 (T1.size : Int), .nilIface]) ∧ Below W.heap.size W w') := SC.out hpl
  clear SC hpl PL
  by_cases y1 : hh = 0
  · have y1' : (hh == 0) = true := by simp [y1]
    clear PR y1
    go_enter Tryz.func8, Tryz.ntmps8
    go_wp2_with fail
    refine (L _ HW.out).mono ?_
    rintro e w1 ⟨rfl, B1⟩
    go_wp2_with fail
    refine (P1.out _ (HW.out.below B1)).mono ?_
    rintro e w2 ⟨rfl, C2⟩
    have B2 := below_then B1 C2
    clear B1 C2
    go_wp2_with fail
    refine (SD.out _ (HW.out.below B2)).mono ?_
    rintro e w3 ⟨rfl, C3⟩
    have B3 := below_then B2 C3
    clear B2 C3
    go_wp2_with fail
    refine (P2.out _ (HW.out.below B3)).mono ?_
    rintro e w4 ⟨rfl, C4⟩
    have B4 := below_then B3 C4
    clear B3 C4
    go_wp2_with fail
    refine (P3.out _ (HW.out.below B4)).mono ?_
    rintro e w5 ⟨rfl, C5⟩
    have B5 := below_then B4 C5
    clear B4 C5
    go_wp2_with fail
    go_ret
    exact ⟨rfl, B5⟩
  have y1' : (hh == 0) = false := by simp [y1]
  by_cases y2 : ss = 0
  · have y2' : (ss == 0) = true := by simp [y2]
    clear PR y1 y2
    go_enter Tryz.func8, Tryz.ntmps8
    go_wp2_with fail
    refine (L _ HW.out).mono ?_
    rintro e w1 ⟨rfl, B1⟩
    go_wp2_with fail
    refine (P1.out _ (HW.out.below B1)).mono ?_
    rintro e w2 ⟨rfl, C2⟩
    have B2 := below_then B1 C2
    clear B1 C2
    go_wp2_with fail
    refine (SD.out _ (HW.out.below B2)).mono ?_
    rintro e w3 ⟨rfl, C3⟩
    have B3 := below_then B2 C3
    clear B2 C3
    go_wp2_with fail
    refine (P2.out _ (HW.out.below B3)).mono ?_
    rintro e w4 ⟨rfl, C4⟩
    have B4 := below_then B3 C4
    clear B3 C4
    go_wp2_with fail
    refine (P3.out _ (HW.out.below B4)).mono ?_
    rintro e w5 ⟨rfl, C5⟩
    have B5 := below_then B4 C5
    clear B4 C5
    go_wp2_with fail
    go_ret
    exact ⟨rfl, B5⟩
  have y2' : (ss == 0) = false := by simp [y2]
  by_cases y3 : hh % 24 = 0
  · clear PR y1 y2
    go_enter Tryz.func8, Tryz.ntmps8
    go_wp2_with fail
    refine (L _ HW.out).mono ?_
    rintro e w1 ⟨rfl, B1⟩
    go_wp2_with fail
    refine (P1.out _ (HW.out.below B1)).mono ?_
    rintro e w2 ⟨rfl, C2⟩
    have B2 := below_then B1 C2
    clear B1 C2
    go_wp2_with fail
    refine (SD.out _ (HW.out.below B2)).mono ?_
    rintro e w3 ⟨rfl, C3⟩
    have B3 := below_then B2 C3
    clear B2 C3
    go_wp2_with fail
    refine (P2.out _ (HW.out.below B3)).mono ?_
    rintro e w4 ⟨rfl, C4⟩
    have B4 := below_then B3 C4
    clear B3 C4
    go_wp2_with fail
    refine (P3.out _ (HW.out.below B4)).mono ?_
    rintro e w5 ⟨rfl, C5⟩
    have B5 := below_then B4 C5
    clear B4 C5
    go_wp2_with fail
    go_ret
    exact ⟨rfl, B5⟩
  · have y3' : (hh % 24 == 0) = false := by simp [y3]
    have PD : Hid (∀ W, SW W → Calls Tryz.prog 15 #[.string (T2 ++ T3)] W fun e w' => e = .returned (.tuple #[.int .i64 (hh * 3600000000000 + ss), .nilIface]) ∧ Below W.heap.size W w') := PR.out y1 y2 y3
    clear PR y1 y2 y3
    go_enter Tryz.func8, Tryz.ntmps8
    go_wp2_with fail
    refine (L _ HW.out).mono ?_
    rintro e w1 ⟨rfl, B1⟩
    go_wp2_with fail
    refine (P1.out _ (HW.out.below B1)).mono ?_
    rintro e w2 ⟨rfl, C2⟩
    have B2 := below_then B1 C2
    clear B1 C2
    go_wp2_with fail
    refine (SD.out _ (HW.out.below B2)).mono ?_
    rintro e w3 ⟨rfl, C3⟩
    have B3 := below_then B2 C3
    clear B2 C3
    go_wp2_with fail
    refine (P2.out _ (HW.out.below B3)).mono ?_
    rintro e w4 ⟨rfl, C4⟩
    have B4 := below_then B3 C4
    clear B3 C4
    go_wp2_with fail
    refine (P3.out _ (HW.out.below B4)).mono ?_
    rintro e w5 ⟨rfl, C5⟩
    have B5 := below_then B4 C5
    clear B4 C5
    go_wp2_with fail
    refine (PD.out _ (HW.out.below B5)).mono ?_
    rintro e w6 ⟨rfl, C6⟩
    have B6 := below_then B5 C6
    clear B5 C6
    go_wp2_with fail
    go_ret
    exact ⟨rfl, B6⟩
set_option maxRecDepth 100000 in
set_option maxHeartbeats 4000000 in
theorem scan_b (n m : Int) (s : ByteArray) (hn : I64 n) (hm : I64 m) (hs : s.size ≤ 9223372036854775000) (w : World) (h : SW w) (n0 : ¬ n < 0) (m0 : ¬ m < 0) (hp : 0 < s.size) (c1 : 48 ≤ (s[0].toNat : Int)) (c2 : ¬ (s[0].toNat : Int) ≤ 57) (c3 : ¬ 97 ≤ (s[0].toNat : Int)) (c5 : ¬ 65 ≤ (s[0].toNat : Int)) : Calls Tryz.prog 8 #[.int .i64 n, .int .i64 m, .string s] w fun e w' => e = .returned (.bool true) ∧ Below w.heap.size w w' := by
  have L := fun W hW => slive_any W hW
  have HW : Hid (SW w) := h
  clear h
  unfold I64 at hn hm
  obtain ⟨n1, n2⟩ := hn
  obtain ⟨m1, m2⟩ := hm
  have iN : I64 n := ⟨by omega, by omega⟩
  have P1 : Hid (∀ W, SW W → Calls Tryz.prog 13 #[.int .i64 n] W fun e w' => e = .returned (.string (B (prT n))) ∧ Below W.heap.size W w') := fun W hW => print_any n iN W hW.u hW.p
  have z1 := prT_len n iN
  rw [← B_size] at z1
  have SC : Hid (plainB s → ∀ W, SW W → Calls Tryz.prog 18 #[.string (B (prT n) ++ s)] W fun e w' => e = .returned (.tuple #[.int .i64 n, .int .i64 ((B (prT n)).size : Int), .nilIface]) ∧ Below W.heap.size W w') := fun hp W hW => by
    obtain ⟨q1, q2, q3⟩ := scan_print n (by omega) (by omega) s.data.toList hp.1 hp.2
    have H := scan_any (B (prT n) ++ s) (by rw [ByteArray.size_append]; omega) n (prT n).length (by rw [Bs_app, Prod.ext_iff]; exact ⟨q2, q3⟩) W hW.u
    rw [Bs_app, q1, if_pos rfl, if_pos rfl, erV_0, ← B_size] at H
    exact H
  obtain ⟨hh, eh⟩ : ∃ hh, m % 1000 = hh := ⟨_, rfl⟩
  obtain ⟨ss, es⟩ : ∃ ss, n % 1000000000 = ss := ⟨_, rfl⟩
  have h0 : 0 ≤ hh ∧ hh < 1000 := by omega
  have s0 : 0 ≤ ss ∧ ss < 1000000000 := by omega
  obtain ⟨h01, h02⟩ := h0
  obtain ⟨s01, s02⟩ := s0
  have iH : I64 (hh * 3600000000000) := ⟨by omega, by omega⟩
  have iS : I64 ss := ⟨by omega, by omega⟩
  have P2 : Hid (∀ W, SW W → Calls Tryz.prog 13 #[.int .i64 (hh * 3600000000000)] W fun e w' => e = .returned (.string (B (prT (hh * 3600000000000)))) ∧ Below W.heap.size W w') := fun W hW => print_any _ iH W hW.u hW.p
  have P3 : Hid (∀ W, SW W → Calls Tryz.prog 13 #[.int .i64 ss] W fun e w' => e = .returned (.string (B (prT ss))) ∧ Below W.heap.size W w') := fun W hW => print_any _ iS W hW.u hW.p
  have z2 := prT_len _ iH
  have z3 := prT_len _ iS
  rw [← B_size] at z2 z3
  have PR : Hid (hh ≠ 0 → ss ≠ 0 → ¬ hh % 24 = 0 → ∀ W, SW W → Calls Tryz.prog 15 #[.string (B (prT (hh * 3600000000000)) ++ B (prT ss))] W fun e w' => e = .returned (.tuple #[.int .i64 (hh * 3600000000000 + ss), .nilIface]) ∧ Below W.heap.size W w') := fun a b c W hW => by
    obtain ⟨q1, q2⟩ := parse_two hh ss (by omega) h02 (by omega) s02 c
    have H := parse_any (B (prT (hh * 3600000000000)) ++ B (prT ss)) (by rw [ByteArray.size_append]; omega) W hW.u
    rw [Bs_app, B_list, q1, q2, erV_0] at H
    exact H
  generalize B (prT n) = T1 at *
  generalize B (prT (hh * 3600000000000)) = T2 at *
  generalize B (prT ss) = T3 at *
  have ca : ¬ 9223372036854775807 < T1.size + s.size := by omega
  have cb : ¬ 9223372036854775807 < T2.size + T3.size := by omega
  have PL : Hid (s.size = 0 ∨ (∃ h : 0 < s.size, ¬ (48 ≤ (s[0].toNat : Int) ∧ (s[0].toNat : Int) ≤ 57) ∧ ¬ (97 ≤ (s[0].toNat : Int) ∧ (s[0].toNat : Int) ≤ 122)) → plainB s) := plain_of s
  clear z1 z2 z3 iN iH iS
  have hpl : plainB s := plain_of s (Or.inr ⟨hp, by omega, by omega⟩)
  have SD : Hid (∀ W, SW W → Calls Tryz.prog 18 #[.string (T1 ++ s)] W fun e w' => e = .returned (.tuple #[.int .i64 n, .int .i64 (T1.size : Int), .nilIface]) ∧ Below W.heap.size W w') := SC.out hpl
  clear SC hpl PL
  by_cases y1 : hh = 0
  · have y1' : (hh == 0) = true := by simp [y1]
    clear PR y1
    go_enter Tryz.func8, Tryz.ntmps8
    go_wp2_with fail
    refine (L _ HW.out).mono ?_
    rintro e w1 ⟨rfl, B1⟩
    go_wp2_with fail
    refine (P1.out _ (HW.out.below B1)).mono ?_
    rintro e w2 ⟨rfl, C2⟩
    have B2 := below_then B1 C2
    clear B1 C2
    go_wp2_with fail
    refine (SD.out _ (HW.out.below B2)).mono ?_
    rintro e w3 ⟨rfl, C3⟩
    have B3 := below_then B2 C3
    clear B2 C3
    go_wp2_with fail
    refine (P2.out _ (HW.out.below B3)).mono ?_
    rintro e w4 ⟨rfl, C4⟩
    have B4 := below_then B3 C4
    clear B3 C4
    go_wp2_with fail
    refine (P3.out _ (HW.out.below B4)).mono ?_
    rintro e w5 ⟨rfl, C5⟩
    have B5 := below_then B4 C5
    clear B4 C5
    go_wp2_with fail
    go_ret
    exact ⟨rfl, B5⟩
  have y1' : (hh == 0) = false := by simp [y1]
  by_cases y2 : ss = 0
  · have y2' : (ss == 0) = true := by simp [y2]
    clear PR y1 y2
    go_enter Tryz.func8, Tryz.ntmps8
    go_wp2_with fail
    refine (L _ HW.out).mono ?_
    rintro e w1 ⟨rfl, B1⟩
    go_wp2_with fail
    refine (P1.out _ (HW.out.below B1)).mono ?_
    rintro e w2 ⟨rfl, C2⟩
    have B2 := below_then B1 C2
    clear B1 C2
    go_wp2_with fail
    refine (SD.out _ (HW.out.below B2)).mono ?_
    rintro e w3 ⟨rfl, C3⟩
    have B3 := below_then B2 C3
    clear B2 C3
    go_wp2_with fail
    refine (P2.out _ (HW.out.below B3)).mono ?_
    rintro e w4 ⟨rfl, C4⟩
    have B4 := below_then B3 C4
    clear B3 C4
    go_wp2_with fail
    refine (P3.out _ (HW.out.below B4)).mono ?_
    rintro e w5 ⟨rfl, C5⟩
    have B5 := below_then B4 C5
    clear B4 C5
    go_wp2_with fail
    go_ret
    exact ⟨rfl, B5⟩
  have y2' : (ss == 0) = false := by simp [y2]
  by_cases y3 : hh % 24 = 0
  · clear PR y1 y2
    go_enter Tryz.func8, Tryz.ntmps8
    go_wp2_with fail
    refine (L _ HW.out).mono ?_
    rintro e w1 ⟨rfl, B1⟩
    go_wp2_with fail
    refine (P1.out _ (HW.out.below B1)).mono ?_
    rintro e w2 ⟨rfl, C2⟩
    have B2 := below_then B1 C2
    clear B1 C2
    go_wp2_with fail
    refine (SD.out _ (HW.out.below B2)).mono ?_
    rintro e w3 ⟨rfl, C3⟩
    have B3 := below_then B2 C3
    clear B2 C3
    go_wp2_with fail
    refine (P2.out _ (HW.out.below B3)).mono ?_
    rintro e w4 ⟨rfl, C4⟩
    have B4 := below_then B3 C4
    clear B3 C4
    go_wp2_with fail
    refine (P3.out _ (HW.out.below B4)).mono ?_
    rintro e w5 ⟨rfl, C5⟩
    have B5 := below_then B4 C5
    clear B4 C5
    go_wp2_with fail
    go_ret
    exact ⟨rfl, B5⟩
  · have y3' : (hh % 24 == 0) = false := by simp [y3]
    have PD : Hid (∀ W, SW W → Calls Tryz.prog 15 #[.string (T2 ++ T3)] W fun e w' => e = .returned (.tuple #[.int .i64 (hh * 3600000000000 + ss), .nilIface]) ∧ Below W.heap.size W w') := PR.out y1 y2 y3
    clear PR y1 y2 y3
    go_enter Tryz.func8, Tryz.ntmps8
    go_wp2_with fail
    refine (L _ HW.out).mono ?_
    rintro e w1 ⟨rfl, B1⟩
    go_wp2_with fail
    refine (P1.out _ (HW.out.below B1)).mono ?_
    rintro e w2 ⟨rfl, C2⟩
    have B2 := below_then B1 C2
    clear B1 C2
    go_wp2_with fail
    refine (SD.out _ (HW.out.below B2)).mono ?_
    rintro e w3 ⟨rfl, C3⟩
    have B3 := below_then B2 C3
    clear B2 C3
    go_wp2_with fail
    refine (P2.out _ (HW.out.below B3)).mono ?_
    rintro e w4 ⟨rfl, C4⟩
    have B4 := below_then B3 C4
    clear B3 C4
    go_wp2_with fail
    refine (P3.out _ (HW.out.below B4)).mono ?_
    rintro e w5 ⟨rfl, C5⟩
    have B5 := below_then B4 C5
    clear B4 C5
    go_wp2_with fail
    refine (PD.out _ (HW.out.below B5)).mono ?_
    rintro e w6 ⟨rfl, C6⟩
    have B6 := below_then B5 C6
    clear B5 C6
    go_wp2_with fail
    go_ret
    exact ⟨rfl, B6⟩
set_option maxRecDepth 100000 in
set_option maxHeartbeats 4000000 in
theorem scan_c (n m : Int) (s : ByteArray) (hn : I64 n) (hm : I64 m) (hs : s.size ≤ 9223372036854775000) (w : World) (h : SW w) (n0 : ¬ n < 0) (m0 : ¬ m < 0) (hp : 0 < s.size) (c1 : 48 ≤ (s[0].toNat : Int)) (c2 : ¬ (s[0].toNat : Int) ≤ 57) (c3 : ¬ 97 ≤ (s[0].toNat : Int)) (c5 : 65 ≤ (s[0].toNat : Int)) (c6 : ¬ (s[0].toNat : Int) ≤ 90) : Calls Tryz.prog 8 #[.int .i64 n, .int .i64 m, .string s] w fun e w' => e = .returned (.bool true) ∧ Below w.heap.size w w' := by
  have L := fun W hW => slive_any W hW
  have HW : Hid (SW w) := h
  clear h
  unfold I64 at hn hm
  obtain ⟨n1, n2⟩ := hn
  obtain ⟨m1, m2⟩ := hm
  have iN : I64 n := ⟨by omega, by omega⟩
  have P1 : Hid (∀ W, SW W → Calls Tryz.prog 13 #[.int .i64 n] W fun e w' => e = .returned (.string (B (prT n))) ∧ Below W.heap.size W w') := fun W hW => print_any n iN W hW.u hW.p
  have z1 := prT_len n iN
  rw [← B_size] at z1
  have SC : Hid (plainB s → ∀ W, SW W → Calls Tryz.prog 18 #[.string (B (prT n) ++ s)] W fun e w' => e = .returned (.tuple #[.int .i64 n, .int .i64 ((B (prT n)).size : Int), .nilIface]) ∧ Below W.heap.size W w') := fun hp W hW => by
    obtain ⟨q1, q2, q3⟩ := scan_print n (by omega) (by omega) s.data.toList hp.1 hp.2
    have H := scan_any (B (prT n) ++ s) (by rw [ByteArray.size_append]; omega) n (prT n).length (by rw [Bs_app, Prod.ext_iff]; exact ⟨q2, q3⟩) W hW.u
    rw [Bs_app, q1, if_pos rfl, if_pos rfl, erV_0, ← B_size] at H
    exact H
  obtain ⟨hh, eh⟩ : ∃ hh, m % 1000 = hh := ⟨_, rfl⟩
  obtain ⟨ss, es⟩ : ∃ ss, n % 1000000000 = ss := ⟨_, rfl⟩
  have h0 : 0 ≤ hh ∧ hh < 1000 := by omega
  have s0 : 0 ≤ ss ∧ ss < 1000000000 := by omega
  obtain ⟨h01, h02⟩ := h0
  obtain ⟨s01, s02⟩ := s0
  have iH : I64 (hh * 3600000000000) := ⟨by omega, by omega⟩
  have iS : I64 ss := ⟨by omega, by omega⟩
  have P2 : Hid (∀ W, SW W → Calls Tryz.prog 13 #[.int .i64 (hh * 3600000000000)] W fun e w' => e = .returned (.string (B (prT (hh * 3600000000000)))) ∧ Below W.heap.size W w') := fun W hW => print_any _ iH W hW.u hW.p
  have P3 : Hid (∀ W, SW W → Calls Tryz.prog 13 #[.int .i64 ss] W fun e w' => e = .returned (.string (B (prT ss))) ∧ Below W.heap.size W w') := fun W hW => print_any _ iS W hW.u hW.p
  have z2 := prT_len _ iH
  have z3 := prT_len _ iS
  rw [← B_size] at z2 z3
  have PR : Hid (hh ≠ 0 → ss ≠ 0 → ¬ hh % 24 = 0 → ∀ W, SW W → Calls Tryz.prog 15 #[.string (B (prT (hh * 3600000000000)) ++ B (prT ss))] W fun e w' => e = .returned (.tuple #[.int .i64 (hh * 3600000000000 + ss), .nilIface]) ∧ Below W.heap.size W w') := fun a b c W hW => by
    obtain ⟨q1, q2⟩ := parse_two hh ss (by omega) h02 (by omega) s02 c
    have H := parse_any (B (prT (hh * 3600000000000)) ++ B (prT ss)) (by rw [ByteArray.size_append]; omega) W hW.u
    rw [Bs_app, B_list, q1, q2, erV_0] at H
    exact H
  generalize B (prT n) = T1 at *
  generalize B (prT (hh * 3600000000000)) = T2 at *
  generalize B (prT ss) = T3 at *
  have ca : ¬ 9223372036854775807 < T1.size + s.size := by omega
  have cb : ¬ 9223372036854775807 < T2.size + T3.size := by omega
  have PL : Hid (s.size = 0 ∨ (∃ h : 0 < s.size, ¬ (48 ≤ (s[0].toNat : Int) ∧ (s[0].toNat : Int) ≤ 57) ∧ ¬ (97 ≤ (s[0].toNat : Int) ∧ (s[0].toNat : Int) ≤ 122)) → plainB s) := plain_of s
  clear z1 z2 z3 iN iH iS
  have hpl : plainB s := plain_of s (Or.inr ⟨hp, by omega, by omega⟩)
  have SD : Hid (∀ W, SW W → Calls Tryz.prog 18 #[.string (T1 ++ s)] W fun e w' => e = .returned (.tuple #[.int .i64 n, .int .i64 (T1.size : Int), .nilIface]) ∧ Below W.heap.size W w') := SC.out hpl
  clear SC hpl PL
  by_cases y1 : hh = 0
  · have y1' : (hh == 0) = true := by simp [y1]
    clear PR y1
    go_enter Tryz.func8, Tryz.ntmps8
    go_wp2_with fail
    refine (L _ HW.out).mono ?_
    rintro e w1 ⟨rfl, B1⟩
    go_wp2_with fail
    refine (P1.out _ (HW.out.below B1)).mono ?_
    rintro e w2 ⟨rfl, C2⟩
    have B2 := below_then B1 C2
    clear B1 C2
    go_wp2_with fail
    refine (SD.out _ (HW.out.below B2)).mono ?_
    rintro e w3 ⟨rfl, C3⟩
    have B3 := below_then B2 C3
    clear B2 C3
    go_wp2_with fail
    refine (P2.out _ (HW.out.below B3)).mono ?_
    rintro e w4 ⟨rfl, C4⟩
    have B4 := below_then B3 C4
    clear B3 C4
    go_wp2_with fail
    refine (P3.out _ (HW.out.below B4)).mono ?_
    rintro e w5 ⟨rfl, C5⟩
    have B5 := below_then B4 C5
    clear B4 C5
    go_wp2_with fail
    go_ret
    exact ⟨rfl, B5⟩
  have y1' : (hh == 0) = false := by simp [y1]
  by_cases y2 : ss = 0
  · have y2' : (ss == 0) = true := by simp [y2]
    clear PR y1 y2
    go_enter Tryz.func8, Tryz.ntmps8
    go_wp2_with fail
    refine (L _ HW.out).mono ?_
    rintro e w1 ⟨rfl, B1⟩
    go_wp2_with fail
    refine (P1.out _ (HW.out.below B1)).mono ?_
    rintro e w2 ⟨rfl, C2⟩
    have B2 := below_then B1 C2
    clear B1 C2
    go_wp2_with fail
    refine (SD.out _ (HW.out.below B2)).mono ?_
    rintro e w3 ⟨rfl, C3⟩
    have B3 := below_then B2 C3
    clear B2 C3
    go_wp2_with fail
    refine (P2.out _ (HW.out.below B3)).mono ?_
    rintro e w4 ⟨rfl, C4⟩
    have B4 := below_then B3 C4
    clear B3 C4
    go_wp2_with fail
    refine (P3.out _ (HW.out.below B4)).mono ?_
    rintro e w5 ⟨rfl, C5⟩
    have B5 := below_then B4 C5
    clear B4 C5
    go_wp2_with fail
    go_ret
    exact ⟨rfl, B5⟩
  have y2' : (ss == 0) = false := by simp [y2]
  by_cases y3 : hh % 24 = 0
  · clear PR y1 y2
    go_enter Tryz.func8, Tryz.ntmps8
    go_wp2_with fail
    refine (L _ HW.out).mono ?_
    rintro e w1 ⟨rfl, B1⟩
    go_wp2_with fail
    refine (P1.out _ (HW.out.below B1)).mono ?_
    rintro e w2 ⟨rfl, C2⟩
    have B2 := below_then B1 C2
    clear B1 C2
    go_wp2_with fail
    refine (SD.out _ (HW.out.below B2)).mono ?_
    rintro e w3 ⟨rfl, C3⟩
    have B3 := below_then B2 C3
    clear B2 C3
    go_wp2_with fail
    refine (P2.out _ (HW.out.below B3)).mono ?_
    rintro e w4 ⟨rfl, C4⟩
    have B4 := below_then B3 C4
    clear B3 C4
    go_wp2_with fail
    refine (P3.out _ (HW.out.below B4)).mono ?_
    rintro e w5 ⟨rfl, C5⟩
    have B5 := below_then B4 C5
    clear B4 C5
    go_wp2_with fail
    go_ret
    exact ⟨rfl, B5⟩
  · have y3' : (hh % 24 == 0) = false := by simp [y3]
    have PD : Hid (∀ W, SW W → Calls Tryz.prog 15 #[.string (T2 ++ T3)] W fun e w' => e = .returned (.tuple #[.int .i64 (hh * 3600000000000 + ss), .nilIface]) ∧ Below W.heap.size W w') := PR.out y1 y2 y3
    clear PR y1 y2 y3
    go_enter Tryz.func8, Tryz.ntmps8
    go_wp2_with fail
    refine (L _ HW.out).mono ?_
    rintro e w1 ⟨rfl, B1⟩
    go_wp2_with fail
    refine (P1.out _ (HW.out.below B1)).mono ?_
    rintro e w2 ⟨rfl, C2⟩
    have B2 := below_then B1 C2
    clear B1 C2
    go_wp2_with fail
    refine (SD.out _ (HW.out.below B2)).mono ?_
    rintro e w3 ⟨rfl, C3⟩
    have B3 := below_then B2 C3
    clear B2 C3
    go_wp2_with fail
    refine (P2.out _ (HW.out.below B3)).mono ?_
    rintro e w4 ⟨rfl, C4⟩
    have B4 := below_then B3 C4
    clear B3 C4
    go_wp2_with fail
    refine (P3.out _ (HW.out.below B4)).mono ?_
    rintro e w5 ⟨rfl, C5⟩
    have B5 := below_then B4 C5
    clear B4 C5
    go_wp2_with fail
    refine (PD.out _ (HW.out.below B5)).mono ?_
    rintro e w6 ⟨rfl, C6⟩
    have B6 := below_then B5 C6
    clear B5 C6
    go_wp2_with fail
    go_ret
    exact ⟨rfl, B6⟩
set_option maxRecDepth 100000 in
set_option maxHeartbeats 4000000 in
theorem scan_d (n m : Int) (s : ByteArray) (hn : I64 n) (hm : I64 m) (hs : s.size ≤ 9223372036854775000) (w : World) (h : SW w) (n0 : ¬ n < 0) (m0 : ¬ m < 0) (hp : 0 < s.size) (c1 : 48 ≤ (s[0].toNat : Int)) (c2 : ¬ (s[0].toNat : Int) ≤ 57) (c3 : 97 ≤ (s[0].toNat : Int)) (c4 : ¬ (s[0].toNat : Int) ≤ 122) (c5 : 65 ≤ (s[0].toNat : Int)) (c6 : ¬ (s[0].toNat : Int) ≤ 90) : Calls Tryz.prog 8 #[.int .i64 n, .int .i64 m, .string s] w fun e w' => e = .returned (.bool true) ∧ Below w.heap.size w w' := by
  have L := fun W hW => slive_any W hW
  have HW : Hid (SW w) := h
  clear h
  unfold I64 at hn hm
  obtain ⟨n1, n2⟩ := hn
  obtain ⟨m1, m2⟩ := hm
  have iN : I64 n := ⟨by omega, by omega⟩
  have P1 : Hid (∀ W, SW W → Calls Tryz.prog 13 #[.int .i64 n] W fun e w' => e = .returned (.string (B (prT n))) ∧ Below W.heap.size W w') := fun W hW => print_any n iN W hW.u hW.p
  have z1 := prT_len n iN
  rw [← B_size] at z1
  have SC : Hid (plainB s → ∀ W, SW W → Calls Tryz.prog 18 #[.string (B (prT n) ++ s)] W fun e w' => e = .returned (.tuple #[.int .i64 n, .int .i64 ((B (prT n)).size : Int), .nilIface]) ∧ Below W.heap.size W w') := fun hp W hW => by
    obtain ⟨q1, q2, q3⟩ := scan_print n (by omega) (by omega) s.data.toList hp.1 hp.2
    have H := scan_any (B (prT n) ++ s) (by rw [ByteArray.size_append]; omega) n (prT n).length (by rw [Bs_app, Prod.ext_iff]; exact ⟨q2, q3⟩) W hW.u
    rw [Bs_app, q1, if_pos rfl, if_pos rfl, erV_0, ← B_size] at H
    exact H
  obtain ⟨hh, eh⟩ : ∃ hh, m % 1000 = hh := ⟨_, rfl⟩
  obtain ⟨ss, es⟩ : ∃ ss, n % 1000000000 = ss := ⟨_, rfl⟩
  have h0 : 0 ≤ hh ∧ hh < 1000 := by omega
  have s0 : 0 ≤ ss ∧ ss < 1000000000 := by omega
  obtain ⟨h01, h02⟩ := h0
  obtain ⟨s01, s02⟩ := s0
  have iH : I64 (hh * 3600000000000) := ⟨by omega, by omega⟩
  have iS : I64 ss := ⟨by omega, by omega⟩
  have P2 : Hid (∀ W, SW W → Calls Tryz.prog 13 #[.int .i64 (hh * 3600000000000)] W fun e w' => e = .returned (.string (B (prT (hh * 3600000000000)))) ∧ Below W.heap.size W w') := fun W hW => print_any _ iH W hW.u hW.p
  have P3 : Hid (∀ W, SW W → Calls Tryz.prog 13 #[.int .i64 ss] W fun e w' => e = .returned (.string (B (prT ss))) ∧ Below W.heap.size W w') := fun W hW => print_any _ iS W hW.u hW.p
  have z2 := prT_len _ iH
  have z3 := prT_len _ iS
  rw [← B_size] at z2 z3
  have PR : Hid (hh ≠ 0 → ss ≠ 0 → ¬ hh % 24 = 0 → ∀ W, SW W → Calls Tryz.prog 15 #[.string (B (prT (hh * 3600000000000)) ++ B (prT ss))] W fun e w' => e = .returned (.tuple #[.int .i64 (hh * 3600000000000 + ss), .nilIface]) ∧ Below W.heap.size W w') := fun a b c W hW => by
    obtain ⟨q1, q2⟩ := parse_two hh ss (by omega) h02 (by omega) s02 c
    have H := parse_any (B (prT (hh * 3600000000000)) ++ B (prT ss)) (by rw [ByteArray.size_append]; omega) W hW.u
    rw [Bs_app, B_list, q1, q2, erV_0] at H
    exact H
  generalize B (prT n) = T1 at *
  generalize B (prT (hh * 3600000000000)) = T2 at *
  generalize B (prT ss) = T3 at *
  have ca : ¬ 9223372036854775807 < T1.size + s.size := by omega
  have cb : ¬ 9223372036854775807 < T2.size + T3.size := by omega
  have PL : Hid (s.size = 0 ∨ (∃ h : 0 < s.size, ¬ (48 ≤ (s[0].toNat : Int) ∧ (s[0].toNat : Int) ≤ 57) ∧ ¬ (97 ≤ (s[0].toNat : Int) ∧ (s[0].toNat : Int) ≤ 122)) → plainB s) := plain_of s
  clear z1 z2 z3 iN iH iS
  have hpl : plainB s := plain_of s (Or.inr ⟨hp, by omega, by omega⟩)
  have SD : Hid (∀ W, SW W → Calls Tryz.prog 18 #[.string (T1 ++ s)] W fun e w' => e = .returned (.tuple #[.int .i64 n, .int .i64 (T1.size : Int), .nilIface]) ∧ Below W.heap.size W w') := SC.out hpl
  clear SC hpl PL
  by_cases y1 : hh = 0
  · have y1' : (hh == 0) = true := by simp [y1]
    clear PR y1
    go_enter Tryz.func8, Tryz.ntmps8
    go_wp2_with fail
    refine (L _ HW.out).mono ?_
    rintro e w1 ⟨rfl, B1⟩
    go_wp2_with fail
    refine (P1.out _ (HW.out.below B1)).mono ?_
    rintro e w2 ⟨rfl, C2⟩
    have B2 := below_then B1 C2
    clear B1 C2
    go_wp2_with fail
    refine (SD.out _ (HW.out.below B2)).mono ?_
    rintro e w3 ⟨rfl, C3⟩
    have B3 := below_then B2 C3
    clear B2 C3
    go_wp2_with fail
    refine (P2.out _ (HW.out.below B3)).mono ?_
    rintro e w4 ⟨rfl, C4⟩
    have B4 := below_then B3 C4
    clear B3 C4
    go_wp2_with fail
    refine (P3.out _ (HW.out.below B4)).mono ?_
    rintro e w5 ⟨rfl, C5⟩
    have B5 := below_then B4 C5
    clear B4 C5
    go_wp2_with fail
    go_ret
    exact ⟨rfl, B5⟩
  have y1' : (hh == 0) = false := by simp [y1]
  by_cases y2 : ss = 0
  · have y2' : (ss == 0) = true := by simp [y2]
    clear PR y1 y2
    go_enter Tryz.func8, Tryz.ntmps8
    go_wp2_with fail
    refine (L _ HW.out).mono ?_
    rintro e w1 ⟨rfl, B1⟩
    go_wp2_with fail
    refine (P1.out _ (HW.out.below B1)).mono ?_
    rintro e w2 ⟨rfl, C2⟩
    have B2 := below_then B1 C2
    clear B1 C2
    go_wp2_with fail
    refine (SD.out _ (HW.out.below B2)).mono ?_
    rintro e w3 ⟨rfl, C3⟩
    have B3 := below_then B2 C3
    clear B2 C3
    go_wp2_with fail
    refine (P2.out _ (HW.out.below B3)).mono ?_
    rintro e w4 ⟨rfl, C4⟩
    have B4 := below_then B3 C4
    clear B3 C4
    go_wp2_with fail
    refine (P3.out _ (HW.out.below B4)).mono ?_
    rintro e w5 ⟨rfl, C5⟩
    have B5 := below_then B4 C5
    clear B4 C5
    go_wp2_with fail
    go_ret
    exact ⟨rfl, B5⟩
  have y2' : (ss == 0) = false := by simp [y2]
  by_cases y3 : hh % 24 = 0
  · clear PR y1 y2
    go_enter Tryz.func8, Tryz.ntmps8
    go_wp2_with fail
    refine (L _ HW.out).mono ?_
    rintro e w1 ⟨rfl, B1⟩
    go_wp2_with fail
    refine (P1.out _ (HW.out.below B1)).mono ?_
    rintro e w2 ⟨rfl, C2⟩
    have B2 := below_then B1 C2
    clear B1 C2
    go_wp2_with fail
    refine (SD.out _ (HW.out.below B2)).mono ?_
    rintro e w3 ⟨rfl, C3⟩
    have B3 := below_then B2 C3
    clear B2 C3
    go_wp2_with fail
    refine (P2.out _ (HW.out.below B3)).mono ?_
    rintro e w4 ⟨rfl, C4⟩
    have B4 := below_then B3 C4
    clear B3 C4
    go_wp2_with fail
    refine (P3.out _ (HW.out.below B4)).mono ?_
    rintro e w5 ⟨rfl, C5⟩
    have B5 := below_then B4 C5
    clear B4 C5
    go_wp2_with fail
    go_ret
    exact ⟨rfl, B5⟩
  · have y3' : (hh % 24 == 0) = false := by simp [y3]
    have PD : Hid (∀ W, SW W → Calls Tryz.prog 15 #[.string (T2 ++ T3)] W fun e w' => e = .returned (.tuple #[.int .i64 (hh * 3600000000000 + ss), .nilIface]) ∧ Below W.heap.size W w') := PR.out y1 y2 y3
    clear PR y1 y2 y3
    go_enter Tryz.func8, Tryz.ntmps8
    go_wp2_with fail
    refine (L _ HW.out).mono ?_
    rintro e w1 ⟨rfl, B1⟩
    go_wp2_with fail
    refine (P1.out _ (HW.out.below B1)).mono ?_
    rintro e w2 ⟨rfl, C2⟩
    have B2 := below_then B1 C2
    clear B1 C2
    go_wp2_with fail
    refine (SD.out _ (HW.out.below B2)).mono ?_
    rintro e w3 ⟨rfl, C3⟩
    have B3 := below_then B2 C3
    clear B2 C3
    go_wp2_with fail
    refine (P2.out _ (HW.out.below B3)).mono ?_
    rintro e w4 ⟨rfl, C4⟩
    have B4 := below_then B3 C4
    clear B3 C4
    go_wp2_with fail
    refine (P3.out _ (HW.out.below B4)).mono ?_
    rintro e w5 ⟨rfl, C5⟩
    have B5 := below_then B4 C5
    clear B4 C5
    go_wp2_with fail
    refine (PD.out _ (HW.out.below B5)).mono ?_
    rintro e w6 ⟨rfl, C6⟩
    have B6 := below_then B5 C6
    clear B5 C6
    go_wp2_with fail
    go_ret
    exact ⟨rfl, B6⟩
set_option maxRecDepth 100000 in
set_option maxHeartbeats 4000000 in
theorem spanScan_walk (n m : Int) (s : ByteArray) (hn : I64 n) (hm : I64 m) (hs : s.size ≤ 9223372036854775000) (w : World) (h : SW w) : Calls Tryz.prog 8 #[.int .i64 n, .int .i64 m, .string s] w fun e w' => e = .returned (.bool true) ∧ Below w.heap.size w w' := by
  by_cases n0 : n < 0
  · have L := fun W hW => slive_any W hW
    have HW : Hid (SW w) := h
    clear h
    go_enter Tryz.func8, Tryz.ntmps8
    go_wp2_with (go_at_call 9; refine (L _ HW.out).mono ?_; rintro e w1 ⟨rfl, B1⟩)
    go_ret
    exact ⟨rfl, B1⟩
  by_cases m0 : m < 0
  · have L := fun W hW => slive_any W hW
    have HW : Hid (SW w) := h
    clear h
    go_enter Tryz.func8, Tryz.ntmps8
    go_wp2_with (go_at_call 9; refine (L _ HW.out).mono ?_; rintro e w1 ⟨rfl, B1⟩)
    go_ret
    exact ⟨rfl, B1⟩
  by_cases hz : s.size = 0
  · exact scan_e n m s hn hm hs w h n0 m0 hz
  have hp : 0 < s.size := by omega
  by_cases c1 : 48 ≤ (s[0].toNat : Int)
  · by_cases c2 : (s[0].toNat : Int) ≤ 57
    · have L := fun W hW => slive_any W hW
      have HW : Hid (SW w) := h
      clear h hz
      have hpI : 0 < (s.size : Int) := by omega
      go_enter Tryz.func8, Tryz.ntmps8
      go_wp2_with (go_at_call 9; refine (L _ HW.out).mono ?_; rintro e w1 ⟨rfl, B1⟩)
      go_ret
      exact ⟨rfl, B1⟩
    · by_cases c3 : 97 ≤ (s[0].toNat : Int)
      · by_cases c4 : (s[0].toNat : Int) ≤ 122
        · have L := fun W hW => slive_any W hW
          have HW : Hid (SW w) := h
          clear h hz
          have hpI : 0 < (s.size : Int) := by omega
          go_enter Tryz.func8, Tryz.ntmps8
          go_wp2_with (go_at_call 9; refine (L _ HW.out).mono ?_; rintro e w1 ⟨rfl, B1⟩)
          go_ret
          exact ⟨rfl, B1⟩
        · exact scan_d n m s hn hm hs w h n0 m0 hp c1 c2 c3 c4 (by omega) (by omega)
      · by_cases c5 : 65 ≤ (s[0].toNat : Int)
        · by_cases c6 : (s[0].toNat : Int) ≤ 90
          · have L := fun W hW => slive_any W hW
            have HW : Hid (SW w) := h
            clear h hz
            have hpI : 0 < (s.size : Int) := by omega
            go_enter Tryz.func8, Tryz.ntmps8
            go_wp2_with (go_at_call 9; refine (L _ HW.out).mono ?_; rintro e w1 ⟨rfl, B1⟩)
            go_ret
            exact ⟨rfl, B1⟩
          · exact scan_c n m s hn hm hs w h n0 m0 hp c1 c2 c3 c5 c6
        · exact scan_b n m s hn hm hs w h n0 m0 hp c1 c2 c3 c5
  · exact scan_a n m s hn hm hs w h n0 m0 hp c1 (by omega) (by omega)
end Go.Proofs.YtchabeebpbaaeaaGreatDoor
