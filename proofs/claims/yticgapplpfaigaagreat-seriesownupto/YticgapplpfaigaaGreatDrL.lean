
import Derived.Test.YticgapplpfaigaaGreatDrK
import Derived.Test.YticgapplpfaigaaGreatSrX
namespace Go.Proofs.YticgapplpfaigaaGreat
open Go.RowKit
set_option linter.unusedVariables false
set_option linter.unusedSimpArgs false
theorem SS.low {N B C : Nat} {v : Value} {l : List Smp} {w : World} (h : SS N C v l w) (hc : B ≤ C) : SS N B v l w := ⟨h.c0, h.f0, h.row.mono hc, h.ne, h.hN, Nat.le_trans hc h.hB, h.hk, h.hr, h.hn⟩
/-- how much steps can lay in. -/
def sumL (st : Nat → Stp) : Nat → Nat
  | 0 => 0
  | k + 1 => sumL st k + (st k).ls.length + 1
theorem sumL_mono (st : Nat → Stp) {k n : Nat} (h : k ≤ n) : sumL st k ≤ sumL st n := by
  induction n with
  | zero => have : k = 0 := by omega
            rw [this]; exact Nat.le_refl _
  | succ n ih =>
    rcases Nat.lt_or_ge n k with h1 | h1
    · have : k = n + 1 := by omega
      rw [this]; exact Nat.le_refl _
    · have := ih h1; simp only [sumL]; omega
theorem sumL_ge (st : Nat → Stp) : ∀ n, n ≤ sumL st n
  | 0 => Nat.le_refl _
  | n + 1 => by have := sumL_ge st n; simp only [sumL]; omega
/-- what steps make, from samples on. -/
def runF (X : List Smp) (st : Nat → Stp) : Nat → List Smp
  | 0 => X
  | k + 1 => run1 (runF X st k) (st k)
theorem run1_rise {X : List Smp} (h : Rise X) (s : Stp) : Rise (run1 X s) := by
  unfold run1
  split
  · exact putL_rise h _
  · split
    · exact cutL_rise h _
    · split
      · exact List.Pairwise.sublist (cut_sub X _ _ (Nat.le_max_left _ _)) h
      · split
        · have := (putAll_spec h s.ls s.ls.length (Nat.le_refl _)).1
          rw [List.take_length] at this; exact this
        · exact h
theorem runF_rise {X : List Smp} (h : Rise X) (st : Nat → Stp) : ∀ k, Rise (runF X st k)
  | 0 => h
  | k + 1 => run1_rise (runF_rise h st k) _
theorem runF_len {X : List Smp} (h : Rise X) (st : Nat → Stp) : ∀ k, (runF X st k).length ≤ X.length + sumL st k
  | 0 => by simp [runF, sumL]
  | k + 1 => by
    have h1 := runF_len h st k
    have h2 := run1_len (runF_rise h st k) (st k)
    simp only [runF, sumL]; omega
theorem TW.start {w w1 w2 : World} {S R : Nat} {B : Nat} (h1 : SS S S (.slice none 0 0) [] w1) (h2 : SS R R (.slice none 0 0) [] w2) (hb : Below w1.heap.size w1 w2) (hS : B ≤ S) (hR : w1.heap.size ≤ R) : TW S R B (.slice none 0 0) (.slice none 0 0) [] [] w2 := by
  have hN := h1.hN
  exact ⟨(h1.below hb).low hS, h2.low (by omega), by omega, by simp [Value.ownBlock], by simp [Value.ownBlock], by simp [Value.ownBlock]⟩
end Go.Proofs.YticgapplpfaigaaGreat
