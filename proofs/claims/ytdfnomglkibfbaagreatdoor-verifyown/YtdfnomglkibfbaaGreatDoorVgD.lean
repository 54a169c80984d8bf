
import Derived.Test.YtdfnomglkibfbaaGreatDoorVgC
namespace Go.Proofs.YtdfnomglkibfbaaGreatDoor.Vf
open Go.RowKit
set_option linter.unusedVariables false
set_option linter.unusedSimpArgs false
set_option maxRecDepth 100000
def listB (l : List ByteArray) : Bool := decide ((1 : Int) ≤ (l.length : Int)) && decide ((l.length : Int) ≤ 64) && l.all textB
theorem list_any (l : List ByteArray) (a : Option Addr) (c : Nat) (hn : l.length ≤ 1152921504606846976) (w : World) (hT : UT w) (h : StIn w a l) : Calls Tryz.prog 102 #[.slice a l.length c] w fun e w' => e = .returned (.bool (listB l)) ∧ Below w.heap.size w w' := by
  have k : Hid (Calls Tryz.prog 95 #[.slice a l.length c, .func (.func 100) #[] #[]] w fun e w' => e = .returned (.bool (l.all textB)) ∧ Below w.heap.size w w') := all_val l a c hn w hT h
  unfold listB
  generalize l.all textB = v at k ⊢
  clear hT h hn
  generalize l.length = n at *
  by_cases h1 : (1 : Int) ≤ (n : Int)
  · have d1 : decide ((1 : Int) ≤ (n : Int)) = true := decide_eq_true h1
    by_cases h2 : (n : Int) ≤ 64
    · have d2 : decide ((n : Int) ≤ 64) = true := decide_eq_true h2
      rw [d1, d2]
      go_enter Tryz.func102, Tryz.ntmps102
      go_wp2_with (go_at_call 95; with_reducible refine Calls.mono k.out ?_; rintro e w' ⟨rfl, hb⟩)
      go_ret
      exact ⟨by simp, hb⟩
    · have d2 : decide ((n : Int) ≤ 64) = false := decide_eq_false h2
      rw [d1, d2]
      clear k
      go_enter Tryz.func102, Tryz.ntmps102
      go_wp2_with fail
      go_ret
      exact ⟨by simp, Below.refl _ _⟩
  · have d1 : decide ((1 : Int) ≤ (n : Int)) = false := decide_eq_false h1
    rw [d1]
    clear k
    go_enter Tryz.func102, Tryz.ntmps102
    go_wp2_with fail
    go_ret
    exact ⟨by simp, Below.refl _ _⟩
end Go.Proofs.YtdfnomglkibfbaaGreatDoor.Vf
