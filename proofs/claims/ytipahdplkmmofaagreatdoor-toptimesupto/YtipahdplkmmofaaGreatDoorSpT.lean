
import Derived.Test.YtipahdplkmmofaaGreatDoorSpS
namespace Go.Proofs.YtipahdplkmmofaaGreatDoor
open Go.RowKit Go.Shelf
set_option linter.unusedVariables false
set_option linter.unusedSimpArgs false
theorem pre_call (s : ByteArray) (x : UInt8) (b : Bool) (h : decide (s.data.toList.head? = some x) = b) (w : World) : Calls Tryz.prog 103 #[.string s, .string ⟨#[x]⟩] w fun e w' => e = .returned (.bool b) ∧ w' = w := by
  have H := Tryz.strings_HasPrefix s ⟨#[x]⟩ w
  rw [show (⟨#[x]⟩ : ByteArray).data.toList = [x] from rfl, pre_one, h] at H
  exact H
theorem head_len {l : List UInt8} {x : UInt8} (h : l.head? = some x) : 1 ≤ l.length := by
  cases l with
  | nil => simp at h
  | cons => simp
set_option maxRecDepth 100000 in
theorem let1_any (C : Nat) (k : Clk) (s : ByteArray) (a : Nat) (x : UInt8) (na : a ≠ C) (w : World) (ha : w.cell? ⟨a, 0, none⟩ = some (.string ⟨#[x]⟩)) (hk : CK C k w) :
    Calls Tryz.prog 109 #[.string s, .pointer (some ⟨a, 0, none⟩)] w fun e w' => PPost C k (letPc x) s.data.toList w e w' := by
  have hz : (⟨#[x]⟩ : ByteArray).size = 1 := rfl
  by_cases h : s.data.toList.head? = some x
  · have H := fun W => pre_call s x true (decide_eq_true h) W
    have HN : Hid (letPc x k s.data.toList = some (k, 1)) := by show _ = _; unfold letPc; rw [if_pos h]
    have HL : Hid (1 ≤ s.data.toList.length) := head_len h
    clear h
    go_enter Tryz.func109, Tryz.ntmps109
    go_wp2_with (go_at_call 103; refine (H _).mono ?_; rintro e w' ⟨rfl, rfl⟩)
    go_ret
    exact Or.inr ⟨k, 1, HN.out, HL.out, rfl, hk, grown_refl _ _⟩
  · have H := fun W => pre_call s x false (decide_eq_false h) W
    have HN : Hid (letPc x k s.data.toList = none) := by show _ = _; unfold letPc; rw [if_neg h]
    clear h
    go_enter Tryz.func109, Tryz.ntmps109
    go_wp2_with (go_at_call 103; refine (H _).mono ?_; rintro e w' ⟨rfl, rfl⟩)
    go_ret
    exact Or.inl ⟨HN.out, rfl, hk, grown_refl _ _⟩
theorem byte_eq (c x : UInt8) : ((c.toNat : Int) == (x.toNat : Int)) = decide (c = x) := by
  by_cases h : c = x
  · subst h; simp
  · have : ¬ c.toNat = x.toNat := fun e => h (UInt8.toNat_inj.1 e)
    simp [h]; omega
theorem head_at (s : ByteArray) (h : 0 < s.size) : s.data.toList.head? = some s[0] := by
  have hl : 0 < s.data.toList.length := by rw [sz_list]; exact h
  rw [List.head?_eq_getElem?, List.getElem?_eq_getElem hl]; rfl
theorem byte_head (s : ByteArray) (h : 0 < s.size) (x : UInt8) (n : Int) (hn : (x.toNat : Int) = n) : ((s[0].toNat : Int) == n) = decide (s.data.toList.head? = some x) := by
  subst hn
  rw [head_at s h, byte_eq]; simp
set_option maxRecDepth 100000 in
set_option maxHeartbeats 2000000 in
theorem zone1_any (C : Nat) (k : Clk) (s : ByteArray) (w : World) (hk : CK C k w) :
    Calls Tryz.prog 79 #[.pointer (some ⟨C, 0, none⟩), .string s] w fun e w' => PPost C k zonePc s.data.toList w e w' := by
  obtain ⟨k7, f7⟩ := hk 7 (by omega)
  have HK : Hid (CK C k w) := hk
  clear hk
  by_cases h0 : s.size = 0
  · have e0 : s = ⟨#[]⟩ := by
      have : s.data.toList = [] := List.eq_nil_of_length_eq_zero (by rw [sz_list]; exact h0)
      rw [ByteArray.ext_iff]; apply Array.ext'; rw [this]
    have HN : Hid (zonePc k s.data.toList = none) := by show _ = _; rw [e0]; rfl
    subst e0
    go_enter Tryz.func79, Tryz.ntmps79
    go_wp2
    go_ret
    exact Or.inl ⟨HN.out, rfl, HK.out, grown_refl _ _⟩
  have hp : 0 < s.size := by omega
  have hne : s.toList.isEmpty = false := by
    rw [ByteArray.toList_eq]; cases hl : s.data.toList with
    | nil => rw [← sz_list, hl] at hp; simp at hp
    | cons => rfl
  have HL : Hid (1 ≤ s.data.toList.length) := by show _ ≤ _; rw [sz_list]; omega
  have b1 := byte_head s hp 90 90 rfl
  have b2 := byte_head s hp 43 43 rfl
  have b3 := byte_head s hp 45 45 rfl
  by_cases z1 : s.data.toList.head? = some 90
  · have HN : Hid (zonePc k s.data.toList = some (setC 7 0 k, 1)) := by show _ = _; unfold zonePc; rw [if_pos z1]; rfl
    rw [decide_eq_true z1] at b1
    clear b2 b3 z1
    go_enter Tryz.func79, Tryz.ntmps79
    go_wp2
    go_ret
    exact Or.inr ⟨setC 7 0 k, 1, HN.out, HL.out, rfl, HK.out.set 7 (by omega) 0, grown_set _ _ _ _⟩
  rw [decide_eq_false z1] at b1
  by_cases z2 : s.data.toList.head? = some 43
  · have HN : Hid (zonePc k s.data.toList = some (setC 7 1 k, 1)) := by show _ = _; unfold zonePc; rw [if_neg z1, if_pos z2]; rfl
    rw [decide_eq_true z2] at b2
    clear b3 z1 z2
    go_enter Tryz.func79, Tryz.ntmps79
    go_wp2
    go_ret
    exact Or.inr ⟨setC 7 1 k, 1, HN.out, HL.out, rfl, HK.out.set 7 (by omega) 1, grown_set _ _ _ _⟩
  rw [decide_eq_false z2] at b2
  by_cases z3 : s.data.toList.head? = some 45
  · have HN : Hid (zonePc k s.data.toList = some (setC 7 (-1) k, 1)) := by show _ = _; unfold zonePc; rw [if_neg z1, if_neg z2, if_pos z3]; rfl
    rw [decide_eq_true z3] at b3
    clear z1 z2 z3
    go_enter Tryz.func79, Tryz.ntmps79
    go_wp2
    go_ret
    exact Or.inr ⟨setC 7 (-1) k, 1, HN.out, HL.out, rfl, HK.out.set 7 (by omega) (-1), grown_set _ _ _ _⟩
  have HN : Hid (zonePc k s.data.toList = none) := by show _ = _; unfold zonePc; rw [if_neg z1, if_neg z2, if_neg z3]
  rw [decide_eq_false z3] at b3
  clear z1 z2 z3
  go_enter Tryz.func79, Tryz.ntmps79
  go_wp2
  go_ret
  exact Or.inl ⟨HN.out, rfl, HK.out, grown_refl _ _⟩
end Go.Proofs.YtipahdplkmmofaaGreatDoor
