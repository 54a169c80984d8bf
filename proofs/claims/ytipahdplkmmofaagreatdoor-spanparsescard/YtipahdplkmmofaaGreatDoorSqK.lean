
import Derived.Test.YtipahdplkmmofaaGreatDoorSqJ
import Derived.LoopTactic
import Derived.BigQuiet
namespace Go.Proofs.YtipahdplkmmofaaGreatDoor
open Go.RowKit
set_option linter.unusedVariables false
set_option linter.unusedSimpArgs false
def unF (T : ByteArray) : Int := if T = ⟨#[110, 115]⟩ then 1 else if T = ⟨#[117, 115]⟩ then 1000 else if T = ⟨#[109, 115]⟩ then 1000000 else if T = ⟨#[115]⟩ then 1000000000 else if T = ⟨#[109]⟩ then 60000000000 else if T = ⟨#[104]⟩ then 3600000000000 else if T = ⟨#[100]⟩ then 86400000000000 else if T = ⟨#[119]⟩ then 604800000000000 else 0
theorem ba_eq (a b : Array UInt8) : ((⟨a⟩ : ByteArray) = ⟨b⟩) ↔ a = b := ⟨fun h => by injection h, fun h => by rw [h]⟩
theorem unF_two (T : ByteArray) (a b : UInt8) (h : T.data.toList = [a, b]) : unF T = un2 a b := by
  obtain ⟨⟨l⟩⟩ := T
  simp only at h
  subst h
  unfold unF un2
  simp only [ba_eq, List.toArray_eq_iff, Array.mk.injEq, List.cons.injEq, and_true, List.cons_ne_nil, and_false, if_false, reduceCtorEq]
  by_cases hb : b = 115
  · simp [hb]
  · simp [hb]
theorem unF_one (T : ByteArray) (a : UInt8) (h : T.data.toList = [a]) : unF T = un1 a := by
  obtain ⟨⟨l⟩⟩ := T
  simp only at h
  subst h
  unfold unF un1
  simp only [ba_eq, Array.mk.injEq, List.cons.injEq, and_true, List.cons_ne_nil, and_false, if_false, reduceCtorEq, List.nil_eq]
theorem ba_ne2 {T : ByteArray} {l : List UInt8} (h : ¬ T = ⟨⟨l⟩⟩) : (T.toList == l) = false := by
  rw [beq_eq_false_iff_ne]
  intro e
  rw [Lib.toList_data] at e
  exact h (by obtain ⟨⟨t⟩⟩ := T; simp only at e; rw [e])
set_option maxRecDepth 100000 in
theorem unit4_any (T : ByteArray) (w : World) : Calls Tryz.prog 69 #[.string T] w fun e w' => e = .returned (.int .i64 (unF T)) ∧ w' = w := by
  have H : ∀ r, Hid (unF T = r) → Hid (unF T = r) := fun _ h => h
  by_cases c1 : T = ⟨#[110, 115]⟩
  · subst c1; have E : Hid (unF ⟨#[110, 115]⟩ = 1) := by show _ = _; decide
    go_enter Tryz.func69, Tryz.ntmps69
    go_wp2
    go_ret
    exact ⟨by rw [E.out]; rfl, rfl⟩
  by_cases c2 : T = ⟨#[117, 115]⟩
  · subst c2; have E : Hid (unF ⟨#[117, 115]⟩ = 1000) := by show _ = _; decide
    go_enter Tryz.func69, Tryz.ntmps69
    go_wp2
    go_ret
    exact ⟨by rw [E.out]; rfl, rfl⟩
  by_cases c3 : T = ⟨#[109, 115]⟩
  · subst c3; have E : Hid (unF ⟨#[109, 115]⟩ = 1000000) := by show _ = _; decide
    go_enter Tryz.func69, Tryz.ntmps69
    go_wp2
    go_ret
    exact ⟨by rw [E.out]; rfl, rfl⟩
  by_cases c4 : T = ⟨#[115]⟩
  · subst c4; have E : Hid (unF ⟨#[115]⟩ = 1000000000) := by show _ = _; decide
    go_enter Tryz.func69, Tryz.ntmps69
    go_wp2
    go_ret
    exact ⟨by rw [E.out]; rfl, rfl⟩
  by_cases c5 : T = ⟨#[109]⟩
  · subst c5; have E : Hid (unF ⟨#[109]⟩ = 60000000000) := by show _ = _; decide
    go_enter Tryz.func69, Tryz.ntmps69
    go_wp2
    go_ret
    exact ⟨by rw [E.out]; rfl, rfl⟩
  by_cases c6 : T = ⟨#[104]⟩
  · subst c6; have E : Hid (unF ⟨#[104]⟩ = 3600000000000) := by show _ = _; decide
    go_enter Tryz.func69, Tryz.ntmps69
    go_wp2
    go_ret
    exact ⟨by rw [E.out]; rfl, rfl⟩
  by_cases c7 : T = ⟨#[100]⟩
  · subst c7; have E : Hid (unF ⟨#[100]⟩ = 86400000000000) := by show _ = _; decide
    go_enter Tryz.func69, Tryz.ntmps69
    go_wp2
    go_ret
    exact ⟨by rw [E.out]; rfl, rfl⟩
  by_cases c8 : T = ⟨#[119]⟩
  · subst c8; have E : Hid (unF ⟨#[119]⟩ = 604800000000000) := by show _ = _; decide
    go_enter Tryz.func69, Tryz.ntmps69
    go_wp2
    go_ret
    exact ⟨by rw [E.out]; rfl, rfl⟩
  have E : Hid (unF T = 0) := by show _ = _; unfold unF; rw [if_neg c1, if_neg c2, if_neg c3, if_neg c4, if_neg c5, if_neg c6, if_neg c7, if_neg c8]
  have d1 : (T.toList == [110, 115]) = false := ba_ne2 c1
  have d2 : (T.toList == [117, 115]) = false := ba_ne2 c2
  have d3 : (T.toList == [109, 115]) = false := ba_ne2 c3
  have d4 : (T.toList == [115]) = false := ba_ne2 c4
  have d5 : (T.toList == [109]) = false := ba_ne2 c5
  have d6 : (T.toList == [104]) = false := ba_ne2 c6
  have d7 : (T.toList == [100]) = false := ba_ne2 c7
  have d8 : (T.toList == [119]) = false := ba_ne2 c8
  go_enter Tryz.func69, Tryz.ntmps69
  go_wp2
  go_ret
  exact ⟨by rw [E.out]; rfl, rfl⟩
theorem digit_any (c : UInt8) (w : World) : Calls Tryz.prog 68 #[.int .u8 (c.toNat : Int)] w fun e w' => e = .returned (.bool (isD c)) ∧ w' = w := by
  have HL : Hid (isD c = decide (48 ≤ (c.toNat : Int) ∧ (c.toNat : Int) ≤ 57)) := rfl
  by_cases c1 : 48 ≤ (c.toNat : Int)
  · by_cases c2 : (c.toNat : Int) ≤ 57
    · go_enter Tryz.func68, Tryz.ntmps68
      go_wp2
      go_ret
      exact ⟨by rw [HL.out, decide_eq_true ⟨c1, c2⟩]; rfl, rfl⟩
    · go_enter Tryz.func68, Tryz.ntmps68
      go_wp2
      go_ret
      exact ⟨by rw [HL.out, decide_eq_false (by omega)]; rfl, rfl⟩
  · go_enter Tryz.func68, Tryz.ntmps68
    go_wp2
    go_ret
    exact ⟨by rw [HL.out, decide_eq_false (by omega)]; rfl, rfl⟩
end Go.Proofs.YtipahdplkmmofaaGreatDoor
