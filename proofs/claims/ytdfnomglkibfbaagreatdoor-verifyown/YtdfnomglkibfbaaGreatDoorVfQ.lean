
import Derived.Test.YtdfnomglkibfbaaGreatDoorVfP
namespace Go.Proofs.YtdfnomglkibfbaaGreatDoor.Vf
open Go.RowKit
set_option linter.unusedVariables false
set_option linter.unusedSimpArgs false
set_option maxRecDepth 100000
theorem operands_none (p : PrH) (c : Nat) (a b : Int) (ra : Bool) (w : World) (h3 : c ≠ 3) (h4 : c ≠ 4) (h5 : c ≠ 5) (h6 : c ≠ 6) (h10 : c ≠ 10) (h11 : c ≠ 11) (h14 : c ≠ 14) (h15 : c ≠ 15) (h16 : c ≠ 16) (h23 : c ≠ 23) : Calls Tryz.prog 82 #[p.v, InP.v ⟨c, a, b⟩] w fun e w' => e = .returned (.bool (opsD p.sz ra ⟨c, a, b⟩)) ∧ Below w.heap.size w w' := by
  have e : opsD p.sz ra ⟨c, a, b⟩ = (decide (a = 0) && decide (b = 0)) := by
    unfold opsD
    simp only [h3, h4, h5, h6, h10, h11, h14, h15, h16, h23, or_self, if_false]
  rw [e]
  have q3 : ¬ (c : Int) = 3 := by omega
  have q4 : ¬ (c : Int) = 4 := by omega
  have q5 : ¬ (c : Int) = 5 := by omega
  have q6 : ¬ (c : Int) = 6 := by omega
  have q10 : ¬ (c : Int) = 10 := by omega
  have q11 : ¬ (c : Int) = 11 := by omega
  have q14 : ¬ (c : Int) = 14 := by omega
  have q15 : ¬ (c : Int) = 15 := by omega
  have q16 : ¬ (c : Int) = 16 := by omega
  have q23 : ¬ (c : Int) = 23 := by omega
  clear h3 h4 h5 h6 h10 h11 h14 h15 h16 h23 e
  unfold PrH.v InP.v
  dsimp only
  generalize (c : Int) = ci at *
  by_cases h : a = 0
  · subst h
    have e0 : (decide ((0 : Int) = 0) && decide (b = 0)) = decide (b = 0) := by simp
    rw [e0]
    go_enter Tryz.func82, Tryz.ntmps82
    go_wp2
    go_ret
    exact ⟨by first | rfl | simp | (congr 1), ((Below.refl _ w).alloc (Nat.le_refl _) _).alloc (by simp) _⟩
  · have e0 : (decide (a = 0) && decide (b = 0)) = false := by simp [h]
    rw [e0]
    go_enter Tryz.func82, Tryz.ntmps82
    go_wp2
    go_ret
    exact ⟨by first | rfl | simp | (congr 1), ((Below.refl _ w).alloc (Nat.le_refl _) _).alloc (by simp) _⟩
end Go.Proofs.YtdfnomglkibfbaaGreatDoor.Vf
