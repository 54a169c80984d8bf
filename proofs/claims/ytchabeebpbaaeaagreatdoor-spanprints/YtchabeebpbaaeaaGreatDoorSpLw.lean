
import Derived.Test.YtchabeebpbaaeaaGreatDoorSpLv
namespace Go.Proofs.YtchabeebpbaaeaaGreatDoor
open Go.RowKit Go.Shelf
set_option linter.unusedVariables false
set_option linter.unusedSimpArgs false
theorem prT_len (n : Int) (hn : I64 n) : (prT n).length ≤ 30 := by
  unfold prT
  split
  · simp
  · unfold prN
    have hb := prU_bd (low n)
    have us := usz_bd (prU (low n))
    have hl : I64 (low n) := by unfold I64 low at *; split <;> omega
    have iq : I64 (low n / usz (prU (low n))) := by
      unfold I64 at *
      constructor
      · have := Int.le_ediv_of_mul_le (c := usz (prU (low n))) (by omega) (show -9223372036854775808 * usz (prU (low n)) ≤ low n by omega); omega
      · have : low n / usz (prU (low n)) ≤ 9223372036854775807 := by
          apply Int.ediv_le_of_le_mul (by omega)
          omega
        omega
    have h1 := itoa_len0 _ iq
    have h2 := (unit_of (prU (low n)) hb.1 hb.2 [] (by simp)).2.1
    have h3 : unl (prU (low n)) ≤ 2 := by unfold unl; split <;> omega
    rw [List.length_append]; omega
theorem text_len (t : Int) (ht : I64 t) : (textP t).length ≤ 200 := by
  unfold I64 at ht
  have q1 : -719528 ≤ t / 86400000000000 ∧ t / 86400000000000 < 2932897 := by omega
  obtain ⟨⟨a1, a2, a3, a4, a5, a6⟩, _⟩ := date_ok (t / 86400000000000) q1.1 q1.2
  have hM' := lenM_bd (yOf (t / 86400000000000)) (ymOf (t / 86400000000000))
  have z1 := padP_len (yOf (t / 86400000000000)) 4 ⟨by omega, by omega⟩ (by omega)
  have z2 := padP_len (ymOf (t / 86400000000000)) 2 ⟨by omega, by omega⟩ (by omega)
  have z3 := padP_len (ydOf (t / 86400000000000)) 2 ⟨by omega, by omega⟩ (by omega)
  have z4 := padP_len (t % 86400000000000 / 3600000000000) 2 ⟨by omega, by omega⟩ (by omega)
  have z5 := padP_len (t % 86400000000000 % 3600000000000 / 60000000000) 2 ⟨by omega, by omega⟩ (by omega)
  have z6 := padP_len (t % 86400000000000 % 60000000000 / 1000000000) 2 ⟨by omega, by omega⟩ (by omega)
  have z7 := frac_len (t % 86400000000000 % 1000000000) ⟨by omega, by omega⟩
  unfold textP textR
  simp only [List.length_append, List.length_cons, List.length_nil]
  omega
/-- a time as a text, read: that time. -/
theorem tm_text (t : Int) (ht : I64 t) : tmRes (textP t) = .returned (.tuple #[.int .i64 t, .nilIface]) := by
  obtain ⟨h1, h2⟩ := time_text t ht.1 ht.2
  unfold tmRes
  unfold tmE at h1
  rw [h2] at h1 ⊢
  split at h1
  · cases h1
  · rename_i hh
    rw [if_neg hh, nE_yes ht]
set_option maxRecDepth 100000 in
theorem spanBack_walk (n : Int) (hn : I64 n) (w : World) (h : SW w) : Calls Tryz.prog 5 #[.int .i64 n] w fun e w' => e = .returned (.bool true) ∧ Below w.heap.size w w' := by
  have L := fun W hW => slive_any W hW
  have P : Hid (∀ W, SW W → Calls Tryz.prog 13 #[.int .i64 n] W fun e w' => e = .returned (.string (B (prT n))) ∧ Below W.heap.size W w') := fun W hW => print_any n hn W hW.u hW.p
  have R : Hid (∀ W, SW W → Calls Tryz.prog 15 #[.string (B (prT n))] W fun e w' => e = .returned (.tuple #[.int .i64 (low n), .nilIface]) ∧ Below W.heap.size W w') := fun W hW => by
    have H := parse_any (B (prT n)) (by rw [B_size]; have := prT_len n hn; omega) W hW.u
    obtain ⟨h1, h2⟩ := prT_back n hn.1 hn.2
    rw [B_list, h1, h2, erV_0] at H; exact H
  have HW : Hid (SW w) := h
  generalize B (prT n) = T at P R
  clear h
  by_cases hl : n = -9223372036854775808
  · have e1 : low n = -9223372036854775807 := by unfold low; rw [if_pos hl]
    rw [e1] at R
    clear e1
    subst hl
    go_enter Tryz.func5, Tryz.ntmps5
    go_wp2_with (first | (go_at_call 9; refine (L _ HW.out).mono ?_; rintro e w1 ⟨rfl, B1⟩) | (go_at_call 13; refine (P.out _ (HW.out.below B1)).mono ?_; rintro e w2 ⟨rfl, B2⟩; have B2' := below_then B1 B2) | (go_at_call 15; refine (R.out _ (HW.out.below B2')).mono ?_; rintro e w3 ⟨rfl, B3⟩; have B3' := below_then B2' B3))
    go_ret
    exact ⟨rfl, B3'⟩
  · have e1 : low n = n := by unfold low; rw [if_neg hl]
    rw [e1] at R
    clear e1 hl
    go_enter Tryz.func5, Tryz.ntmps5
    go_wp2_with (first | (go_at_call 9; refine (L _ HW.out).mono ?_; rintro e w1 ⟨rfl, B1⟩) | (go_at_call 13; refine (P.out _ (HW.out.below B1)).mono ?_; rintro e w2 ⟨rfl, B2⟩; have B2' := below_then B1 B2) | (go_at_call 15; refine (R.out _ (HW.out.below B2')).mono ?_; rintro e w3 ⟨rfl, B3⟩; have B3' := below_then B2' B3))
    go_ret
    exact ⟨rfl, B3'⟩
set_option maxRecDepth 100000 in
theorem spanTimeBack_walk (t : Int) (ht : I64 t) (w : World) (h : SW w) : Calls Tryz.prog 6 #[.int .i64 t] w fun e w' => e = .returned (.bool true) ∧ Below w.heap.size w w' := by
  have L := fun W hW => slive_any W hW
  have P : Hid (∀ W, SW W → Calls Tryz.prog 17 #[.int .i64 t] W fun e w' => e = .returned (.string (B (textP t))) ∧ Below W.heap.size W w') := fun W hW => text_any t ht W hW.p hW.m
  have R : Hid (∀ W, SW W → Calls Tryz.prog 16 #[.string (B (textP t))] W fun e w' => e = .returned (.tuple #[.int .i64 t, .nilIface]) ∧ Below W.heap.size W w') := fun W hW => by
    have H := time_any (B (textP t)) (by rw [B_size]; have := text_len t ht; omega) W hW.m
    rw [B_list, tm_text t ht] at H; exact H
  have HW : Hid (SW w) := h
  generalize B (textP t) = T at P R
  clear h
  go_enter Tryz.func6, Tryz.ntmps6
  go_wp2_with (first | (go_at_call 9; refine (L _ HW.out).mono ?_; rintro e w1 ⟨rfl, B1⟩) | (go_at_call 17; refine (P.out _ (HW.out.below B1)).mono ?_; rintro e w2 ⟨rfl, B2⟩; have B2' := below_then B1 B2) | (go_at_call 16; refine (R.out _ (HW.out.below B2')).mono ?_; rintro e w3 ⟨rfl, B3⟩; have B3' := below_then B2' B3))
  go_ret
  exact ⟨rfl, B3'⟩
set_option maxRecDepth 100000 in
theorem spanOnly_walk (s : ByteArray) (hs : s.size ≤ 9223372036854775807) (w : World) (h : SW w) : Calls Tryz.prog 7 #[.string s] w fun e w' => e = .returned (.bool true) ∧ Below w.heap.size w w' := by
  have L := fun W hW => slive_any W hW
  have HW : Hid (SW w) := h
  clear h
  have C : (∃ p : Int, tmRes s.data.toList = .returned (.tuple #[.int .i64 0, .iface 88 (.agg #[.int .i64 p, .iface 28 (.int .i64 41)])])) ∨ tmRes s.data.toList = .returned (.tuple #[.int .i64 0, .iface 28 (.int .i64 20)]) ∨ ∃ t, I64 t ∧ tmRes s.data.toList = .returned (.tuple #[.int .i64 t, .nilIface]) := by
    unfold tmRes
    split
    · exact Or.inl ⟨_, rfl⟩
    · by_cases hv : I64 (nsC (goT s.data.toList).1)
      · exact Or.inr (Or.inr ⟨_, hv, nE_yes hv⟩)
      · exact Or.inr (Or.inl (nE_no hv))
  have T0 : ∀ W, SW W → Calls Tryz.prog 16 #[.string s] W fun e w' => e = tmRes s.data.toList ∧ Below W.heap.size W w' := fun W hW => time_any s hs W hW.m
  rcases C with ⟨p, e⟩ | e | ⟨t, ht, e⟩
  · rw [e] at T0
    clear e
    have T : Hid (∀ W, SW W → Calls Tryz.prog 16 #[.string s] W fun e w' => e = .returned (.tuple #[.int .i64 0, .iface 88 (.agg #[.int .i64 p, .iface 28 (.int .i64 41)])]) ∧ Below W.heap.size W w') := T0
    clear T0
    go_enter Tryz.func7, Tryz.ntmps7
    go_wp2_with (first | (go_at_call 9; refine (L _ HW.out).mono ?_; rintro e w1 ⟨rfl, B1⟩) | (go_at_call 16; refine (T.out _ (HW.out.below B1)).mono ?_; rintro e w2 ⟨rfl, B2⟩; have B2' := below_then B1 B2))
    go_ret
    exact ⟨rfl, B2'⟩
  · rw [e] at T0
    clear e
    have T : Hid (∀ W, SW W → Calls Tryz.prog 16 #[.string s] W fun e w' => e = .returned (.tuple #[.int .i64 0, .iface 28 (.int .i64 20)]) ∧ Below W.heap.size W w') := T0
    clear T0
    go_enter Tryz.func7, Tryz.ntmps7
    go_wp2_with (first | (go_at_call 9; refine (L _ HW.out).mono ?_; rintro e w1 ⟨rfl, B1⟩) | (go_at_call 16; refine (T.out _ (HW.out.below B1)).mono ?_; rintro e w2 ⟨rfl, B2⟩; have B2' := below_then B1 B2))
    go_ret
    exact ⟨rfl, B2'⟩
  · rw [e] at T0
    clear e
    have T : Hid (∀ W, SW W → Calls Tryz.prog 16 #[.string s] W fun e w' => e = .returned (.tuple #[.int .i64 t, .nilIface]) ∧ Below W.heap.size W w') := T0
    clear T0
    have P : Hid (∀ W, SW W → Calls Tryz.prog 17 #[.int .i64 t] W fun e w' => e = .returned (.string (B (textP t))) ∧ Below W.heap.size W w') := fun W hW => text_any t ht W hW.p hW.m
    have R : Hid (∀ W, SW W → Calls Tryz.prog 16 #[.string (B (textP t))] W fun e w' => e = .returned (.tuple #[.int .i64 t, .nilIface]) ∧ Below W.heap.size W w') := fun W hW => by
      have H := time_any (B (textP t)) (by rw [B_size]; have := text_len t ht; omega) W hW.m
      rw [B_list, tm_text t ht] at H; exact H
    generalize B (textP t) = X at P R
    go_enter Tryz.func7, Tryz.ntmps7
    go_wp2_with fail
    refine (L _ HW.out).mono ?_
    rintro e w1 ⟨rfl, B1⟩
    go_wp2_with fail
    refine (T.out _ (HW.out.below B1)).mono ?_
    rintro e w2 ⟨rfl, B2⟩
    have B2' := below_then B1 B2
    go_wp2_with fail
    refine (P.out _ (HW.out.below B2')).mono ?_
    rintro e w3 ⟨rfl, B3⟩
    have B3' := below_then B2' B3
    go_wp2_with fail
    refine (R.out _ (HW.out.below B3')).mono ?_
    rintro e w4 ⟨rfl, B4⟩
    have B4' := below_then B3' B4
    go_wp2_with fail
    go_ret
    exact ⟨rfl, B4'⟩
end Go.Proofs.YtchabeebpbaaeaaGreatDoor
