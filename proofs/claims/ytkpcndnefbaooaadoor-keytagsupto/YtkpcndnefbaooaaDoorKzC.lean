
import Derived.Test.YtkpcndnefbaooaaDoorKzB
import Derived.Test.YtkpcndnefbaooaaDoorKyF
namespace Go.Proofs.YtkpcndnefbaooaaDoor
open Go.RowKit Go.Shelf
set_option linter.unusedVariables false
set_option linter.unusedSimpArgs false
def rst (l : List TagP) (k : Nat) : Bool := risB (l.drop (k - 1)) && !(l.drop k).any oddB
theorem rst_zero {l : List TagP} {t : TagP} (ht : l[0]? = some t) : rst l 0 = (columnB t.1 && cleanB t.2 256 && rst l 1) := by
  obtain ⟨h1, rfl⟩ := List.getElem?_eq_some_iff.1 ht
  unfold rst
  rw [show (l.drop 0).any oddB = (oddB l[0] || (l.drop 1).any oddB) by rw [List.drop_eq_getElem_cons h1, List.any_cons]]
  unfold oddB
  cases columnB l[0].1 <;> cases cleanB l[0].2 256 <;> simp [Bool.and_comm]
theorem rst_succ {l : List TagP} {k : Nat} {t u : TagP} (ht : l[k]? = some t) (hu : l[k + 1]? = some u) : rst l (k + 1) = (columnB u.1 && cleanB u.2 256 && Op.bytesLess t.1.toList u.1.toList && rst l (k + 2)) := by
  have h := risB_step ht hu
  obtain ⟨h2, rfl⟩ := List.getElem?_eq_some_iff.1 hu
  unfold rst
  rw [show (l.drop (k + 1)).any oddB = (oddB l[k + 1] || (l.drop (k + 2)).any oddB) by rw [List.drop_eq_getElem_cons h2, List.any_cons], show k + 1 - 1 = k by omega, show k + 2 - 1 = k + 1 by omega, h, less_str]
  unfold oddB
  cases columnB l[k + 1].1 <;> cases cleanB l[k + 1].2 256 <;> cases decide (strC t.1 l[k + 1].1 < 0) <;> simp
theorem rst_end {l : List TagP} {k : Nat} (h : l.length ≤ k) : rst l k = true := by
  unfold rst
  rw [risB_end (by omega), List.drop_eq_nil_of_le h]; rfl
theorem rst_tags (l : List TagP) : tagsB l = (decide (l.length ≤ 8) && rst l 0) := by
  unfold tagsB rst; simp [Bool.and_assoc]
theorem BdAt.drewN {W : World} {N : Nat} (h : BdAt W N) : ∀ q, BdAt (W.drewN q) N
  | 0 => h
  | q + 1 => (BdAt.drewN h q : BdAt _ N)
end Go.Proofs.YtkpcndnefbaooaaDoor
