
import Derived.Test.YtdfnomglkibfbaaGreatDoorKyE
namespace Go.Proofs.YtdfnomglkibfbaaGreatDoor
open Go.RowKit Go.Shelf
set_option linter.unusedVariables false
set_option linter.unusedSimpArgs false
theorem risB_step {l : List TagP} {k : Nat} {t u : TagP} (ht : l[k]? = some t) (hu : l[k + 1]? = some u) : risB (l.drop k) = (decide (strC t.1 u.1 < 0) && risB (l.drop (k + 1))) := by
  obtain ⟨h1, rfl⟩ := List.getElem?_eq_some_iff.1 ht
  obtain ⟨h2, rfl⟩ := List.getElem?_eq_some_iff.1 hu
  rw [List.drop_eq_getElem_cons h1, List.drop_eq_getElem_cons h2]
  rfl
theorem risB_end {l : List TagP} {k : Nat} (h : l.length ≤ k + 1) : risB (l.drop k) = true := by
  by_cases h1 : l.length ≤ k
  · rw [List.drop_eq_nil_of_le h1]; rfl
  · rw [List.drop_eq_getElem_cons (by omega), List.drop_eq_nil_of_le h]; rfl
theorem any_drop_step {l : List TagP} {k : Nat} {t : TagP} (ht : l[k]? = some t) : (l.drop k).any oddB = (oddB t || (l.drop (k + 1)).any oddB) := by
  obtain ⟨h1, rfl⟩ := List.getElem?_eq_some_iff.1 ht
  rw [List.drop_eq_getElem_cons h1]
  rfl
end Go.Proofs.YtdfnomglkibfbaaGreatDoor
