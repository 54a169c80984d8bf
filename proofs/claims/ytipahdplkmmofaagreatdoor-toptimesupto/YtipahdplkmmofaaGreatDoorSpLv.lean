
import Derived.Test.YtipahdplkmmofaaGreatDoorSpZ
import Derived.Test.YtipahdplkmmofaaGreatDoorSpN
import Derived.Test.YtipahdplkmmofaaGreatDoorSpO
import Derived.Test.YtipahdplkmmofaaGreatDoorSpQ
import Derived.Test.YtipahdplkmmofaaGreatDoorIs
namespace Go.Proofs.YtipahdplkmmofaaGreatDoor
open Go.RowKit Go.Shelf
set_option linter.unusedVariables false
set_option linter.unusedSimpArgs false
/-- what the laws of span want of the world. -/
structure SW (w : World) : Prop where
  u : UT w
  m : MT w
  p : PT w
  e : ET w
theorem SW.below {w w' : World} (h : SW w) (hb : Below w.heap.size w w') : SW w' := ⟨h.u.below hb, h.m.below hb, h.p.below hb, ET_below h.e hb⟩
theorem lv1 : spV [49, 104, 51, 48, 109] = 5400000000000 ∧ spE [49, 104, 51, 48, 109] = 0 := by decide
theorem lv2 : spV [49, 109, 49, 104] = 0 ∧ spE [49, 109, 49, 104] = 40 := by decide
theorem lv3 : (goT [49, 57, 55, 48, 45, 48, 49, 45, 48, 49, 84, 48, 48, 58, 48, 48, 58, 48, 49, 90]).2 = (20, true) ∧ nsC (goT [49, 57, 55, 48, 45, 48, 49, 45, 48, 49, 84, 48, 48, 58, 48, 48, 58, 48, 49, 90]).1 = 1000000000 := by decide
theorem lv3' : tmRes [49, 57, 55, 48, 45, 48, 49, 45, 48, 49, 84, 48, 48, 58, 48, 48, 58, 48, 49, 90] = .returned (.tuple #[.int .i64 1000000000, .nilIface]) := by
  obtain ⟨h1, h2⟩ := lv3
  unfold tmRes
  rw [h2]
  have e1 : (goT [49, 57, 55, 48, 45, 48, 49, 45, 48, 49, 84, 48, 48, 58, 48, 48, 58, 48, 49, 90]).2.2 = true := by rw [h1]
  have e2 : (goT [49, 57, 55, 48, 45, 48, 49, 45, 48, 49, 84, 48, 48, 58, 48, 48, 58, 48, 49, 90]).2.1 = 20 := by rw [h1]
  rw [e1, e2, if_neg (by simp)]
  exact nE_yes ⟨by omega, by omega⟩
theorem dec_one (u : Nat) (h : u < 10) : Lib.decDigits u = [UInt8.ofNat (48 + u)] := by rw [Lib.decDigits, dif_pos h]
theorem dec_more (u : Nat) (h : ¬ u < 10) : Lib.decDigits u = Lib.decDigits (u / 10) ++ [UInt8.ofNat (48 + u % 10)] := by rw [Lib.decDigits, dif_neg h]
theorem itoa_nat (n : Nat) : Lib.itoa (n : Int) = Lib.decDigits n := by unfold Lib.itoa; rw [if_neg (by omega)]; rfl
theorem d90 : Lib.itoa 90 = [57, 48] := by rw [show (90 : Int) = ((90 : Nat) : Int) from rfl, itoa_nat, dec_more 90 (by omega), dec_one (90 / 10) (by omega)]; rfl
theorem lv4 : prT 5400000000000 = [57, 48, 109] := by
  have h1 : prU 5400000000000 = 3 := by decide
  have h2 : low 5400000000000 = 5400000000000 := by decide
  unfold prT; rw [if_neg (by omega), h2]; unfold prN; rw [h1, show usz 3 = 60000000000 from rfl, show (5400000000000 : Int) / 60000000000 = 90 by decide, d90]; rfl
theorem d0 : Lib.itoa 0 = [48] := by rw [show (0 : Int) = ((0 : Nat) : Int) from rfl, itoa_nat, dec_one 0 (by omega)]; rfl
theorem d1 : Lib.itoa 1 = [49] := by rw [show (1 : Int) = ((1 : Nat) : Int) from rfl, itoa_nat, dec_one 1 (by omega)]; rfl
theorem d1970 : Lib.itoa 1970 = [49, 57, 55, 48] := by
  rw [show (1970 : Int) = ((1970 : Nat) : Int) from rfl, itoa_nat, dec_more 1970 (by omega), dec_more (1970 / 10) (by omega), dec_more (1970 / 10 / 10) (by omega), dec_one (1970 / 10 / 10 / 10) (by omega)]; rfl
theorem lv5 : textP 0 = [49, 57, 55, 48, 45, 48, 49, 45, 48, 49, 84, 48, 48, 58, 48, 48, 58, 48, 48, 90] := by
  have h1 : yOf 0 = 1970 := by decide
  have h2 : ymOf 0 = 1 := by decide
  have h3 : ydOf 0 = 1 := by decide
  have p1 : padP 1970 4 = [49, 57, 55, 48] := by unfold padP; rw [d1970]; rfl
  have p2 : padP 1 2 = [48, 49] := by unfold padP; rw [d1]; rfl
  have p3 : padP 0 2 = [48, 48] := by unfold padP; rw [d0]; rfl
  have p4 : fracP 0 = [] := by unfold fracP; rw [if_pos rfl]
  unfold textP textR
  rw [show (0 : Int) / 86400000000000 = 0 from rfl, show (0 : Int) % 86400000000000 = 0 from rfl, h1, h2, h3, show (0 : Int) / 3600000000000 = 0 from rfl, show (0 : Int) % 3600000000000 = 0 from rfl, show (0 : Int) / 60000000000 = 0 from rfl, show (0 : Int) % 60000000000 = 0 from rfl, show (0 : Int) / 1000000000 = 0 from rfl, show (0 : Int) % 1000000000 = 0 from rfl, p1, p2, p3, p4]
  rfl
set_option maxRecDepth 100000 in
set_option maxHeartbeats 4000000 in
theorem slive_any (w : World) (h : SW w) : Calls Tryz.prog 6 #[] w fun e w' => e = .returned (.bool true) ∧ Below w.heap.size w w' := by
  have A1 : Hid (∀ W, SW W → Calls Tryz.prog 7 #[.string ⟨#[49, 104, 51, 48, 109]⟩] W fun e w' => e = .returned (.tuple #[.int .i64 5400000000000, .nilIface]) ∧ Below W.heap.size W w') := fun W hW => by
    have H := parse_any ⟨#[49, 104, 51, 48, 109]⟩ (by decide) W hW.u
    rw [show (⟨#[49, 104, 51, 48, 109]⟩ : ByteArray).data.toList = [49, 104, 51, 48, 109] from rfl, lv1.1, lv1.2, erV_0] at H; exact H
  have A2 : Hid (∀ W, SW W → Calls Tryz.prog 7 #[.string ⟨#[49, 109, 49, 104]⟩] W fun e w' => e = .returned (.tuple #[.int .i64 0, .iface 27 (.int .i64 40)]) ∧ Below W.heap.size W w') := fun W hW => by
    have H := parse_any ⟨#[49, 109, 49, 104]⟩ (by decide) W hW.u
    rw [show (⟨#[49, 109, 49, 104]⟩ : ByteArray).data.toList = [49, 109, 49, 104] from rfl, lv2.1, lv2.2, erV_40] at H; exact H
  have A3 : Hid (∀ W, SW W → Calls Tryz.prog 12 #[.string ⟨#[49, 57, 55, 48, 45, 48, 49, 45, 48, 49, 84, 48, 48, 58, 48, 48, 58, 48, 49, 90]⟩] W fun e w' => e = .returned (.tuple #[.int .i64 1000000000, .nilIface]) ∧ Below W.heap.size W w') := fun W hW => by
    have H := time_any ⟨#[49, 57, 55, 48, 45, 48, 49, 45, 48, 49, 84, 48, 48, 58, 48, 48, 58, 48, 49, 90]⟩ (by decide) W hW.m
    rw [show (⟨#[49, 57, 55, 48, 45, 48, 49, 45, 48, 49, 84, 48, 48, 58, 48, 48, 58, 48, 49, 90]⟩ : ByteArray).data.toList = [49, 57, 55, 48, 45, 48, 49, 45, 48, 49, 84, 48, 48, 58, 48, 48, 58, 48, 49, 90] from rfl, lv3'] at H; exact H
  have A4 : Hid (∀ W, SW W → Calls Tryz.prog 24 #[.iface 27 (.int .i64 40), .int .i64 40] W fun e w' => e = .returned (.bool true) ∧ Below W.heap.size W w') := fun W hW => is_any 40 40 rfl W hW.e
  have A5 : Hid (∀ W, SW W → Calls Tryz.prog 16 #[.int .i64 5400000000000] W fun e w' => e = .returned (.string ⟨#[57, 48, 109]⟩) ∧ Below W.heap.size W w') := fun W hW => by
    have H := print_any 5400000000000 ⟨by omega, by omega⟩ W hW.u hW.p
    rw [lv4] at H; exact H
  have A6 : Hid (∀ W, SW W → Calls Tryz.prog 15 #[.int .i64 0] W fun e w' => e = .returned (.string ⟨#[49, 57, 55, 48, 45, 48, 49, 45, 48, 49, 84, 48, 48, 58, 48, 48, 58, 48, 48, 90]⟩) ∧ Below W.heap.size W w') := fun W hW => by
    have H := text_any 0 ⟨by omega, by omega⟩ W hW.p hW.m
    rw [lv5] at H; exact H
  have HW : Hid (SW w) := h
  clear h
  go_enter Tryz.func6, Tryz.ntmps6
  go_wp2_with fail
  refine (A1.out _ HW.out).mono ?_
  rintro e w1 ⟨rfl, B1⟩
  go_wp2_with fail
  refine (A2.out _ (HW.out.below B1)).mono ?_
  rintro e w2 ⟨rfl, B2⟩
  have B2' := below_then B1 B2
  go_wp2_with fail
  refine (A3.out _ (HW.out.below B2')).mono ?_
  rintro e w3 ⟨rfl, B3⟩
  have B3' := below_then B2' B3
  go_wp2_with fail
  refine (A4.out _ (HW.out.below B3')).mono ?_
  rintro e w4 ⟨rfl, B4⟩
  have B4' := below_then B3' B4
  go_wp2_with fail
  refine (A5.out _ (HW.out.below B4')).mono ?_
  rintro e w5 ⟨rfl, B5⟩
  have B5' := below_then B4' B5
  go_wp2_with fail
  refine (A6.out _ (HW.out.below B5')).mono ?_
  rintro e w6 ⟨rfl, B6⟩
  have B6' := below_then B5' B6
  go_wp2_with fail
  go_ret
  exact ⟨rfl, B6'⟩
end Go.Proofs.YtipahdplkmmofaaGreatDoor
