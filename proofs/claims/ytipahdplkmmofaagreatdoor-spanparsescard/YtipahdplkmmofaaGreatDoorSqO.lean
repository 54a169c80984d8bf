
import Derived.Test.YtipahdplkmmofaaGreatDoorSqN
import Derived.Test.YtipahdplkmmofaaGreatDoorSpLv
import Derived.Test.YtipahdplkmmofaaGreatDoorSame
namespace Go.Proofs.YtipahdplkmmofaaGreatDoor
open Go.RowKit Go.Shelf
set_option linter.unusedVariables false
set_option linter.unusedSimpArgs false
theorem same_er (c : Int) (W : World) (h : ET W) : Calls Tryz.prog 9 #[erV c, .agg #[.int .i64 c, .int .i64 0, .int .i64 0, .bool false, .bool false]] W fun e w' => e = .returned (.bool true) ∧ Below W.heap.size W w' := by
  by_cases hc : c = 0
  · subst hc; exact same_nil W
  · have e : erV c = .iface 27 (.int .i64 c) := if_neg hc
    rw [e]
    exact same_err c (by simp [hc]) W h
set_option maxRecDepth 100000 in
set_option maxHeartbeats 4000000 in
theorem spanParses_walk (s : ByteArray) (hs : s.size ≤ 281474976710656) (w : World) (h : SW w) : Calls Tryz.prog 3 #[.string s] w fun e w' => e = .returned (.bool true) ∧ Below w.heap.size w w' := by
  have L := fun W hW => slive_any W hW
  obtain ⟨v, k, hR⟩ : ∃ v k, rdAll s.data.toList = (v, k) := ⟨_, _, rfl⟩
  obtain ⟨n1, en⟩ : ∃ n, spV s.data.toList = n := ⟨_, rfl⟩
  obtain ⟨c1, ec⟩ : ∃ c, spE s.data.toList = c := ⟨_, rfl⟩
  obtain ⟨c2, ec2⟩ : ∃ c, scE s.data.toList = c := ⟨_, rfl⟩
  obtain ⟨a2, ea2⟩ : ∃ a, (if scE s.data.toList = 0 then v else 0) = a := ⟨_, rfl⟩
  obtain ⟨b2, eb2⟩ : ∃ b, (if scE s.data.toList = 0 then (k : Int) else 0) = b := ⟨_, rfl⟩
  obtain ⟨E1, hE1⟩ : ∃ E, erV c1 = E := ⟨_, rfl⟩
  obtain ⟨E2, hE2⟩ : ∃ E, erV c2 = E := ⟨_, rfl⟩
  have P1 : Hid (∀ W, SW W → Calls Tryz.prog 7 #[.string s] W fun e w' => e = .returned (.tuple #[.int .i64 n1, E1]) ∧ Below W.heap.size W w') := fun W hW => by
    have H := parse_any s (by omega) W hW.u
    rw [en, ec, hE1] at H; exact H
  have P2 : Hid (∀ W, Calls Tryz.prog 8 #[.string s] W fun e w' => e = .returned (.tuple #[.int .i64 n1, .agg #[.int .i64 c1, .int .i64 0, .int .i64 0, .bool false, .bool false]]) ∧ Below W.heap.size W w') := fun W => by
    have H := rparse4_any s hs W
    rw [en, ec] at H; exact H
  have P3 : Hid (∀ W, ET W → Calls Tryz.prog 9 #[E1, .agg #[.int .i64 c1, .int .i64 0, .int .i64 0, .bool false, .bool false]] W fun e w' => e = .returned (.bool true) ∧ Below W.heap.size W w') := fun W hW => by
    have H := same_er c1 W hW
    rw [hE1] at H; exact H
  have Q1 : Hid (∀ W, SW W → Calls Tryz.prog 10 #[.string s] W fun e w' => e = .returned (.tuple #[.int .i64 a2, .int .i64 b2, E2]) ∧ Below W.heap.size W w') := fun W hW => by
    have H := scan_any s (by omega) v k hR W hW.u
    rw [ea2, eb2, ec2, hE2] at H; exact H
  have Q2 : Hid (∀ W, Calls Tryz.prog 11 #[.string s] W fun e w' => e = .returned (.tuple #[.int .i64 a2, .int .i64 b2, .agg #[.int .i64 c2, .int .i64 0, .int .i64 0, .bool false, .bool false]]) ∧ Below W.heap.size W w') := fun W => by
    have H := rscan_any s hs v k hR W
    rw [ea2, eb2, ec2] at H; exact H
  have Q3 : Hid (∀ W, ET W → Calls Tryz.prog 9 #[E2, .agg #[.int .i64 c2, .int .i64 0, .int .i64 0, .bool false, .bool false]] W fun e w' => e = .returned (.bool true) ∧ Below W.heap.size W w') := fun W hW => by
    have H := same_er c2 W hW
    rw [hE2] at H; exact H
  have HW : Hid (SW w) := h
  clear h hE1 hE2 en ec ec2 ea2 eb2 hR
  go_enter Tryz.func3, Tryz.ntmps3
  go_wp2_with fail
  refine (L _ HW.out).mono ?_
  rintro e w1 ⟨rfl, B1⟩
  go_wp2_with fail
  refine (P1.out _ (HW.out.below B1)).mono ?_
  rintro e w2 ⟨rfl, B2⟩
  have K2 := below_then B1 B2
  clear B1 B2
  go_wp2_with fail
  refine (P2.out _).mono ?_
  rintro e w3 ⟨rfl, B3⟩
  have K3 := below_then K2 B3
  have S3 : Hid (SW w3) := HW.out.below K3
  have K4 := below_new K3 (.cells #[.int .i64 c1, .int .i64 0, .int .i64 0, .bool false, .bool false] 29)
  have F4 := B5.new w3 c1 0 0 false false w3.heap.size rfl
  have z4 : w.heap.size ≤ w3.heap.size := K3.size
  clear K2 K3 B3
  go_wp2_with fail
  generalize w3.alloc (.cells #[.int .i64 c1, .int .i64 0, .int .i64 0, .bool false, .bool false] 29) = w4 at *
  generalize w3.heap.size = N' at *
  have S4 : Hid (SW w4) := HW.out.below K4
  refine (P3.out _ S4.out.e).mono ?_
  rintro e w5 ⟨rfl, B5'⟩
  have K5 := below_then K4 B5'
  have F5 := F4.keep B5' F4.1
  clear K4 B5' F4 S3 S4
  have S5 : Hid (SW w5) := HW.out.below K5
  have HF5 : Hid (B5 w5 N' c1 0 0 false false) := F5
  clear F5
  go_wp2_with fail
  refine (Q1.out _ S5.out).mono ?_
  rintro e w6 ⟨rfl, B6⟩
  have K6 := below_then K5 B6
  have HF6 : Hid (B5 w6 N' c1 0 0 false false) := HF5.out.keep B6 HF5.out.1
  clear K5 B6 S5 HF5
  go_wp2_with fail
  refine (Q2.out _).mono ?_
  rintro e w7 ⟨rfl, B7⟩
  have K7 := below_then K6 B7
  have F7 := HF6.out.keep B7 HF6.out.1
  have F8 := F7.set c2 0 0 false false
  have K8 := setBad (v0 := .int .i64 c2) (v1 := .int .i64 0) (v2 := .int .i64 0) (v3 := .bool false) (v4 := .bool false) K7 z4
  obtain ⟨_, ⟨t1, t2, t3, t4, t5⟩, f1, f2, f3, f4, f5⟩ := F7
  clear K6 B7 HF6 K7
  go_wp2_with fail
  generalize ((((w7.setCell ⟨N', 0, none⟩ (.int .i64 c2)).setCell ⟨N', 1, none⟩ (.int .i64 0)).setCell ⟨N', 2, none⟩ (.int .i64 0)).setCell ⟨N', 3, none⟩ (.bool false)).setCell ⟨N', 4, none⟩ (.bool false) = w8 at *
  have S8 : Hid (SW w8) := HW.out.below K8
  refine (Q3.out _ S8.out.e).mono ?_
  rintro e w9 ⟨rfl, B9⟩
  have K9 := below_then K8 B9
  go_wp2_with fail
  go_ret
  exact ⟨rfl, K9⟩
end Go.Proofs.YtipahdplkmmofaaGreatDoor
