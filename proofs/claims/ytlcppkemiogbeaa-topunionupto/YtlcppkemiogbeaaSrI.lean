
import Derived.Test.YtlcppkemiogbeaaSrH
namespace Go.Proofs.Ytlcppkemiogbeaa.Ser
open Go.RowKit
set_option linter.unusedVariables false
set_option linter.unusedSimpArgs false
theorem own_keep {w w' : World} {B n : Nat} {v : Value} {xs : List Value} (h : w.ownsRow B 35 3 v n xs) (hk : ∀ g, v.ownBlock = some g → w'.heap[g]? = w.heap[g]?) : w'.ownsRow B 35 3 v n xs := by
  refine ⟨h.1, ?_⟩
  rcases h.2 with h2 | ⟨g, cap, cur, e1, e2, e3, e4⟩
  · exact Or.inl h2
  · exact Or.inr ⟨g, cap, cur, e1, e2, by rw [hk g (by rw [e1]; rfl)]; exact e3, e4⟩
/-- without the one of a time. -/
def cutL (l : List Smp) (t : Int) : List Smp := if hasT l t = true then l.take (ahd l t) ++ l.drop (ahd l t + 1) else l
theorem cutL_mem {l : List Smp} (h : Rise l) (t : Int) (x : Smp) : x ∈ cutL l t ↔ x ∈ l ∧ x.t ≠ t := by
  unfold cutL
  split
  · rename_i hh
    obtain ⟨y, hy, hyt⟩ := (hasT_iff h t).1 hh
    rw [List.mem_append]
    constructor
    · rintro (hx | hx)
      · obtain ⟨j, hj⟩ := List.getElem?_of_mem hx
        rw [List.getElem?_take] at hj
        split at hj
        · rename_i hlt
          have := (ahd_iff h t hj).1 hlt
          exact ⟨List.mem_of_getElem? hj, by omega⟩
        · cases hj
      · obtain ⟨j, hj⟩ := List.getElem?_of_mem hx
        rw [List.getElem?_drop] at hj
        have := h.lt (by omega) hy hj
        exact ⟨List.mem_of_getElem? hj, by omega⟩
    · rintro ⟨hx, hne⟩
      obtain ⟨j, hj⟩ := List.getElem?_of_mem hx
      rcases Nat.lt_trichotomy j (ahd l t) with hlt | he | hgt
      · refine Or.inl (List.mem_of_getElem? (i := j) ?_)
        rw [List.getElem?_take, if_pos hlt]; exact hj
      · subst he; rw [hy] at hj; cases hj; exact absurd hyt hne
      · refine Or.inr (List.mem_of_getElem? (i := j - (ahd l t + 1)) ?_)
        rw [List.getElem?_drop, show ahd l t + 1 + (j - (ahd l t + 1)) = j by omega]; exact hj
  · rename_i hh
    have hf : hasT l t = false := by simpa using hh
    exact ⟨fun hx => ⟨hx, hasT_false hf x hx⟩, fun hx => hx.1⟩
end Go.Proofs.Ytlcppkemiogbeaa.Ser
