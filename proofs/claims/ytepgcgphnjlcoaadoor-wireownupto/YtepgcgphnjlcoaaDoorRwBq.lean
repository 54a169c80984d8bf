
import Derived.Test.YtepgcgphnjlcoaaDoorRwAq
namespace Go.Proofs.YtepgcgphnjlcoaaDoor
open Go.RowKit
set_option linter.unusedVariables false
set_option linter.unusedSimpArgs false
section
variable {N : Nat} {w1 : World} {a : Option Addr} {n cap p r : Nat} {bs : Nat → Nat} {w : World}
theorem starts_ok (h : RR N w1 a n cap bs p r none w) (hr : ¬ (r ≠ 0 ∧ bs (p - 1) % 2 ^ r ≠ 0)) : Calls Tryd.prog 74 #[.pointer (some ⟨N, 0, none⟩)] w fun e w' => e = .returned (.bool true) ∧ RR N w1 a n cap bs p r none w' ∧ RF N w w' := by
  have hd : decide (r ≠ 0 ∧ bs (p - 1) % 2 ^ r ≠ 0) = false := decide_eq_false hr
  have hS : Hid _ := sound_any h
  have hR := ragged_any h
  rw [hd] at hR
  have hRH : Hid _ := hR
  clear hR hd h hr
  go_enter Tryd.func74, Tryd.ntmps74
  go_wp2_with fail
  refine Calls.mono hS.out ?_
  rintro e w2 ⟨rfl, hw2⟩
  have hw3 := hw2.symm
  subst hw3
  go_wp2_with fail
  refine Calls.mono hRH.out ?_
  rintro e w3 ⟨rfl, h3, F3⟩
  go_wp2_with fail
  go_ret
  exact ⟨rfl, h3, F3⟩
theorem has_ok (h : RR N w1 a n cap bs p r none w) (m : Nat) (z : Int) (hz : z = (m : Int)) (hm : p + m ≤ n) : Calls Tryd.prog 75 #[.pointer (some ⟨N, 0, none⟩), .int .i64 z] w fun e w' => e = .returned (.bool true) ∧ RR N w1 a n cap bs p r none w' ∧ RF N w w' := by
  subst hz
  have hL : Hid _ := left_any h
  have hI : ¬ (n : Int) - (p : Int) < (m : Int) := by omega
  clear h
  go_enter Tryd.func75, Tryd.ntmps75
  go_wp2_with fail
  refine Calls.mono hL.out ?_
  rintro e w3 ⟨rfl, h3, F3⟩
  go_wp2_with fail
  go_ret
  exact ⟨rfl, h3, F3⟩
end
end Go.Proofs.YtepgcgphnjlcoaaDoor
