
import Derived.Test.YtjiiafmbneehhaaDoorSpI
namespace Go.Proofs.YtjiiafmbneehhaaDoor
open Go.RowKit Go.Shelf
set_option linter.unusedVariables false
set_option linter.unusedSimpArgs false
theorem pfx_call (s : ByteArray) (d k : Nat) (b : Bool) (h : pfx (s.data.toList.drop d) k = b) (W : World) : Calls Tryd.prog 19 #[.string (s.extract d s.size), .string ⟨(unm k).toArray⟩] W fun e w' => e = .returned (.bool b) ∧ w' = W := by
  have H := Tryd.strings_HasPrefix (s.extract d s.size) ⟨(unm k).toArray⟩ W
  rw [ex_list] at H
  rw [← h]; exact H
set_option maxRecDepth 100000 in
set_option maxHeartbeats 4000000 in
theorem part_any (s : ByteArray) (hs : s.size ≤ 9223372036854775807) (w : World) (hU : UT w) : Calls Tryd.prog 39 #[.string s] w fun e w' => e = .returned (.tuple #[.int .i64 ((cnt s.data.toList : Nat) : Int), .int .i64 (parU s.data.toList)]) ∧ Below w.heap.size w w' := by
  have cl := cnt_le s.data.toList
  rw [sz_list] at cl
  obtain ⟨d, hd⟩ : ∃ d, cnt s.data.toList = d := ⟨_, rfl⟩
  have C := fun (W : World) => count_any s hs W
  rw [hd] at cl
  have HP0 : d = 0 → Hid (parU s.data.toList = -1) := fun h => by show _ = _; unfold parU; rw [hd, if_pos h]
  have HP1 : d ≠ 0 → Hid (parU s.data.toList = bst (s.data.toList.drop d) 8) := fun h => by show _ = _; unfold parU; rw [hd, if_neg h, bst_all]
  simp only [hd] at C ⊢
  clear hd
  by_cases h0 : d = 0
  · have HP := HP0 h0
    clear HP0 HP1
    subst h0
    go_enter Tryd.func39, Tryd.ntmps39
    go_wp2_with (go_at_call 46; refine (C _).mono ?_; rintro e w' ⟨rfl, rfl⟩)
    go_ret2
    exact ⟨by rw [HP.out]; rfl, Below.refl _ _⟩
  have HP2 := HP1 h0
  clear HP0 HP1
  have hd0 : ((d : Int) == 0) = false := by simpa using h0
  have hdb : ¬ (s.size : Int) < d := by omega
  obtain ⟨a0, b0, a1, b1, a2, b2, a3, b3, a4, b4, a5, b5, a6, b6, a7, b7⟩ := id hU
  have ul := hU.lt
  have ix0 := uidx0
  have ix1 := uidx1
  have ix2 := uidx2
  have ix3 := uidx3
  have ix4 := uidx4
  have ix5 := uidx5
  have ix6 := uidx6
  have ix7 := uidx7
  go_enter Tryd.func39, Tryd.ntmps39
  go_wp2_with (go_at_call 46; refine (C _).mono ?_; rintro e w' ⟨rfl, rfl⟩)
  go_loopw [3, 13] (fun u i wr => ∃ k : Nat, k ≤ 8 ∧ i = .int .i64 k ∧ u = .int .i64 (bst (s.data.toList.drop d) k) ∧ Below w'.heap.size w' wr) (fun _ i _ => 8 - (intOf i).toNat)
  case atStart => exact ⟨0, by omega, rfl, rfl, Below.refl _ _⟩
  case round =>
    obtain ⟨k, hk, rfl, rfl, hB⟩ := hrel
    have hU2 := hU.below hB
    have ul2 := hU2.lt
    have hz := hB.size
    obtain ⟨c0, d0, c1, d1, c2, d2, c3, d3, c4, d4, c5, d5, c6, d6, c7, d7⟩ := id hU2
    by_cases h8 : k = 8
    · subst h8
      clear hU hU2
      go_wp2
      go_ret2
      exact ⟨by rw [HP2.out]; rfl, hB⟩
    have hc : k = 0 ∨ k = 1 ∨ k = 2 ∨ k = 3 ∨ k = 4 ∨ k = 5 ∨ k = 6 ∨ k = 7 := by omega
    clear hU hU2 a0 b0 a1 b1 a2 b2 a3 b3 a4 b4 a5 b5 a6 b6 a7 b7
    rcases hc with e | e | e | e | e | e | e | e <;> subst e
    · cases hp : pfx (s.data.toList.drop d) 0 with
      | true =>
        have HN : Hid (bst (s.data.toList.drop d) (0 + 1) = ((0 : Nat) : Int)) := bst_yes _ _ (by omega) hp
        have HO : bst (s.data.toList.drop d) 0 = (-1) := bst_pre _ _ (by omega) hp
        rw [HO]
        have PC : Hid (∀ W, Calls Tryd.prog 19 #[.string (s.extract d s.size), .string ⟨#[119]⟩] W fun e w' => e = .returned (.bool true) ∧ w' = W) := pfx_call s d 0 true hp
        clear HO hp
        go_wp2
        go_quiet ((go_at_call 19; exact Calls.quiet_of_same (PC.out _)))
        go_wp2
        go_roundw
        case rel => exact ⟨0 + 1, by omega, by first | rfl | go_num, by rw [HN.out], below_drewN (below_new hB _) _⟩
        case measure => simp [intOf]
      | false =>
        have HN : Hid (bst (s.data.toList.drop d) (0 + 1) = bst (s.data.toList.drop d) 0) := bst_no _ _ hp
        have PC : Hid (∀ W, Calls Tryd.prog 19 #[.string (s.extract d s.size), .string ⟨#[119]⟩] W fun e w' => e = .returned (.bool false) ∧ w' = W) := pfx_call s d 0 false hp
        clear hp
        obtain ⟨U, eU⟩ : ∃ U, bst (s.data.toList.drop d) 0 = U := ⟨_, rfl⟩
        rw [eU] at HN ⊢
        clear eU
        go_wp2
        go_quiet ((go_at_call 19; exact Calls.quiet_of_same (PC.out _)))
        go_wp2
        go_roundw
        case rel => exact ⟨0 + 1, by omega, by first | rfl | go_num, by rw [HN.out], below_drewN (below_new hB _) _⟩
        case measure => simp [intOf]
    · cases hp : pfx (s.data.toList.drop d) 1 with
      | true =>
        have HN : Hid (bst (s.data.toList.drop d) (1 + 1) = ((1 : Nat) : Int)) := bst_yes _ _ (by omega) hp
        have HO : bst (s.data.toList.drop d) 1 = (-1) := bst_pre _ _ (by omega) hp
        rw [HO]
        have PC : Hid (∀ W, Calls Tryd.prog 19 #[.string (s.extract d s.size), .string ⟨#[100]⟩] W fun e w' => e = .returned (.bool true) ∧ w' = W) := pfx_call s d 1 true hp
        clear HO hp
        go_wp2
        go_quiet ((go_at_call 19; exact Calls.quiet_of_same (PC.out _)))
        go_wp2
        go_roundw
        case rel => exact ⟨1 + 1, by omega, by first | rfl | go_num, by rw [HN.out], below_drewN (below_new hB _) _⟩
        case measure => simp [intOf]
      | false =>
        have HN : Hid (bst (s.data.toList.drop d) (1 + 1) = bst (s.data.toList.drop d) 1) := bst_no _ _ hp
        have PC : Hid (∀ W, Calls Tryd.prog 19 #[.string (s.extract d s.size), .string ⟨#[100]⟩] W fun e w' => e = .returned (.bool false) ∧ w' = W) := pfx_call s d 1 false hp
        clear hp
        obtain ⟨U, eU⟩ : ∃ U, bst (s.data.toList.drop d) 1 = U := ⟨_, rfl⟩
        rw [eU] at HN ⊢
        clear eU
        go_wp2
        go_quiet ((go_at_call 19; exact Calls.quiet_of_same (PC.out _)))
        go_wp2
        go_roundw
        case rel => exact ⟨1 + 1, by omega, by first | rfl | go_num, by rw [HN.out], below_drewN (below_new hB _) _⟩
        case measure => simp [intOf]
    · cases hp : pfx (s.data.toList.drop d) 2 with
      | true =>
        have HN : Hid (bst (s.data.toList.drop d) (2 + 1) = ((2 : Nat) : Int)) := bst_yes _ _ (by omega) hp
        have HO : bst (s.data.toList.drop d) 2 = (-1) := bst_pre _ _ (by omega) hp
        rw [HO]
        have PC : Hid (∀ W, Calls Tryd.prog 19 #[.string (s.extract d s.size), .string ⟨#[104]⟩] W fun e w' => e = .returned (.bool true) ∧ w' = W) := pfx_call s d 2 true hp
        clear HO hp
        go_wp2
        go_quiet ((go_at_call 19; exact Calls.quiet_of_same (PC.out _)))
        go_wp2
        go_roundw
        case rel => exact ⟨2 + 1, by omega, by first | rfl | go_num, by rw [HN.out], below_drewN (below_new hB _) _⟩
        case measure => simp [intOf]
      | false =>
        have HN : Hid (bst (s.data.toList.drop d) (2 + 1) = bst (s.data.toList.drop d) 2) := bst_no _ _ hp
        have PC : Hid (∀ W, Calls Tryd.prog 19 #[.string (s.extract d s.size), .string ⟨#[104]⟩] W fun e w' => e = .returned (.bool false) ∧ w' = W) := pfx_call s d 2 false hp
        clear hp
        obtain ⟨U, eU⟩ : ∃ U, bst (s.data.toList.drop d) 2 = U := ⟨_, rfl⟩
        rw [eU] at HN ⊢
        clear eU
        go_wp2
        go_quiet ((go_at_call 19; exact Calls.quiet_of_same (PC.out _)))
        go_wp2
        go_roundw
        case rel => exact ⟨2 + 1, by omega, by first | rfl | go_num, by rw [HN.out], below_drewN (below_new hB _) _⟩
        case measure => simp [intOf]
    · cases hp : pfx (s.data.toList.drop d) 3 with
      | true =>
        have HN : Hid (bst (s.data.toList.drop d) (3 + 1) = ((3 : Nat) : Int)) := bst_yes _ _ (by omega) hp
        have HO : bst (s.data.toList.drop d) 3 = (-1) := bst_pre _ _ (by omega) hp
        rw [HO]
        have PC : Hid (∀ W, Calls Tryd.prog 19 #[.string (s.extract d s.size), .string ⟨#[109]⟩] W fun e w' => e = .returned (.bool true) ∧ w' = W) := pfx_call s d 3 true hp
        clear HO hp
        go_wp2
        go_quiet ((go_at_call 19; exact Calls.quiet_of_same (PC.out _)))
        go_wp2
        go_roundw
        case rel => exact ⟨3 + 1, by omega, by first | rfl | go_num, by rw [HN.out], below_drewN (below_new hB _) _⟩
        case measure => simp [intOf]
      | false =>
        have HN : Hid (bst (s.data.toList.drop d) (3 + 1) = bst (s.data.toList.drop d) 3) := bst_no _ _ hp
        have PC : Hid (∀ W, Calls Tryd.prog 19 #[.string (s.extract d s.size), .string ⟨#[109]⟩] W fun e w' => e = .returned (.bool false) ∧ w' = W) := pfx_call s d 3 false hp
        clear hp
        obtain ⟨U, eU⟩ : ∃ U, bst (s.data.toList.drop d) 3 = U := ⟨_, rfl⟩
        rw [eU] at HN ⊢
        clear eU
        go_wp2
        go_quiet ((go_at_call 19; exact Calls.quiet_of_same (PC.out _)))
        go_wp2
        go_roundw
        case rel => exact ⟨3 + 1, by omega, by first | rfl | go_num, by rw [HN.out], below_drewN (below_new hB _) _⟩
        case measure => simp [intOf]
    · cases hp : pfx (s.data.toList.drop d) 4 with
      | true =>
        have HN : Hid (bst (s.data.toList.drop d) (4 + 1) = ((4 : Nat) : Int)) := bst_yes _ _ (by omega) hp
        have HO : bst (s.data.toList.drop d) 4 = (-1) := bst_pre _ _ (by omega) hp
        rw [HO]
        have PC : Hid (∀ W, Calls Tryd.prog 19 #[.string (s.extract d s.size), .string ⟨#[115]⟩] W fun e w' => e = .returned (.bool true) ∧ w' = W) := pfx_call s d 4 true hp
        clear HO hp
        go_wp2
        go_quiet ((go_at_call 19; exact Calls.quiet_of_same (PC.out _)))
        go_wp2
        go_roundw
        case rel => exact ⟨4 + 1, by omega, by first | rfl | go_num, by rw [HN.out], below_drewN (below_new hB _) _⟩
        case measure => simp [intOf]
      | false =>
        have HN : Hid (bst (s.data.toList.drop d) (4 + 1) = bst (s.data.toList.drop d) 4) := bst_no _ _ hp
        have PC : Hid (∀ W, Calls Tryd.prog 19 #[.string (s.extract d s.size), .string ⟨#[115]⟩] W fun e w' => e = .returned (.bool false) ∧ w' = W) := pfx_call s d 4 false hp
        clear hp
        obtain ⟨U, eU⟩ : ∃ U, bst (s.data.toList.drop d) 4 = U := ⟨_, rfl⟩
        rw [eU] at HN ⊢
        clear eU
        go_wp2
        go_quiet ((go_at_call 19; exact Calls.quiet_of_same (PC.out _)))
        go_wp2
        go_roundw
        case rel => exact ⟨4 + 1, by omega, by first | rfl | go_num, by rw [HN.out], below_drewN (below_new hB _) _⟩
        case measure => simp [intOf]
    · cases hp : pfx (s.data.toList.drop d) 5 with
      | true =>
        have HN : Hid (bst (s.data.toList.drop d) (5 + 1) = ((5 : Nat) : Int)) := bst_yes _ _ (by omega) hp
        have HO : bst (s.data.toList.drop d) 5 = 3 := bst_pre _ _ (by omega) hp
        rw [HO]
        have PC : Hid (∀ W, Calls Tryd.prog 19 #[.string (s.extract d s.size), .string ⟨#[109, 115]⟩] W fun e w' => e = .returned (.bool true) ∧ w' = W) := pfx_call s d 5 true hp
        clear HO hp
        go_wp2
        go_quiet ((go_at_call 19; exact Calls.quiet_of_same (PC.out _)))
        go_wp2
        go_roundw
        case rel => exact ⟨5 + 1, by omega, by first | rfl | go_num, by rw [HN.out], below_drewN (below_new hB _) _⟩
        case measure => simp [intOf]
      | false =>
        have HN : Hid (bst (s.data.toList.drop d) (5 + 1) = bst (s.data.toList.drop d) 5) := bst_no _ _ hp
        have PC : Hid (∀ W, Calls Tryd.prog 19 #[.string (s.extract d s.size), .string ⟨#[109, 115]⟩] W fun e w' => e = .returned (.bool false) ∧ w' = W) := pfx_call s d 5 false hp
        clear hp
        obtain ⟨U, eU⟩ : ∃ U, bst (s.data.toList.drop d) 5 = U := ⟨_, rfl⟩
        rw [eU] at HN ⊢
        clear eU
        go_wp2
        go_quiet ((go_at_call 19; exact Calls.quiet_of_same (PC.out _)))
        go_wp2
        go_roundw
        case rel => exact ⟨5 + 1, by omega, by first | rfl | go_num, by rw [HN.out], below_drewN (below_new hB _) _⟩
        case measure => simp [intOf]
    · cases hp : pfx (s.data.toList.drop d) 6 with
      | true =>
        have HN : Hid (bst (s.data.toList.drop d) (6 + 1) = ((6 : Nat) : Int)) := bst_yes _ _ (by omega) hp
        have HO : bst (s.data.toList.drop d) 6 = (-1) := bst_pre _ _ (by omega) hp
        rw [HO]
        have PC : Hid (∀ W, Calls Tryd.prog 19 #[.string (s.extract d s.size), .string ⟨#[117, 115]⟩] W fun e w' => e = .returned (.bool true) ∧ w' = W) := pfx_call s d 6 true hp
        clear HO hp
        go_wp2
        go_quiet ((go_at_call 19; exact Calls.quiet_of_same (PC.out _)))
        go_wp2
        go_roundw
        case rel => exact ⟨6 + 1, by omega, by first | rfl | go_num, by rw [HN.out], below_drewN (below_new hB _) _⟩
        case measure => simp [intOf]
      | false =>
        have HN : Hid (bst (s.data.toList.drop d) (6 + 1) = bst (s.data.toList.drop d) 6) := bst_no _ _ hp
        have PC : Hid (∀ W, Calls Tryd.prog 19 #[.string (s.extract d s.size), .string ⟨#[117, 115]⟩] W fun e w' => e = .returned (.bool false) ∧ w' = W) := pfx_call s d 6 false hp
        clear hp
        obtain ⟨U, eU⟩ : ∃ U, bst (s.data.toList.drop d) 6 = U := ⟨_, rfl⟩
        rw [eU] at HN ⊢
        clear eU
        go_wp2
        go_quiet ((go_at_call 19; exact Calls.quiet_of_same (PC.out _)))
        go_wp2
        go_roundw
        case rel => exact ⟨6 + 1, by omega, by first | rfl | go_num, by rw [HN.out], below_drewN (below_new hB _) _⟩
        case measure => simp [intOf]
    · cases hp : pfx (s.data.toList.drop d) 7 with
      | true =>
        have HN : Hid (bst (s.data.toList.drop d) (7 + 1) = ((7 : Nat) : Int)) := bst_yes _ _ (by omega) hp
        have HO : bst (s.data.toList.drop d) 7 = (-1) := bst_pre _ _ (by omega) hp
        rw [HO]
        have PC : Hid (∀ W, Calls Tryd.prog 19 #[.string (s.extract d s.size), .string ⟨#[110, 115]⟩] W fun e w' => e = .returned (.bool true) ∧ w' = W) := pfx_call s d 7 true hp
        clear HO hp
        go_wp2
        go_quiet ((go_at_call 19; exact Calls.quiet_of_same (PC.out _)))
        go_wp2
        go_roundw
        case rel => exact ⟨7 + 1, by omega, by first | rfl | go_num, by rw [HN.out], below_drewN (below_new hB _) _⟩
        case measure => simp [intOf]
      | false =>
        have HN : Hid (bst (s.data.toList.drop d) (7 + 1) = bst (s.data.toList.drop d) 7) := bst_no _ _ hp
        have PC : Hid (∀ W, Calls Tryd.prog 19 #[.string (s.extract d s.size), .string ⟨#[110, 115]⟩] W fun e w' => e = .returned (.bool false) ∧ w' = W) := pfx_call s d 7 false hp
        clear hp
        obtain ⟨U, eU⟩ : ∃ U, bst (s.data.toList.drop d) 7 = U := ⟨_, rfl⟩
        rw [eU] at HN ⊢
        clear eU
        go_wp2
        go_quiet ((go_at_call 19; exact Calls.quiet_of_same (PC.out _)))
        go_wp2
        go_roundw
        case rel => exact ⟨7 + 1, by omega, by first | rfl | go_num, by rw [HN.out], below_drewN (below_new hB _) _⟩
        case measure => simp [intOf]
end Go.Proofs.YtjiiafmbneehhaaDoor
