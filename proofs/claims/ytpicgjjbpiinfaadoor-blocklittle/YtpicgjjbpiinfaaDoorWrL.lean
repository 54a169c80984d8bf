
import Derived.Test.YtpicgjjbpiinfaaDoorWrD
import Derived.Lib.SlBytesConst
namespace Go.Proofs.YtpicgjjbpiinfaaDoor
open Go.RowKit
set_option linter.unusedVariables false
set_option linter.unusedSimpArgs false
def natsOf (l : List Nat) (i : Nat) : Nat := l.getD i 0
theorem bytes_own {w : World} {base g cap n : Nat} {l : List Nat} (h : w.ownsRow base 5 1 (.slice (some ⟨g, 0, none⟩) n cap) n (enc l)) (hl : ∀ x ∈ l, x < 256) : BytesAt w g 0 n (natsOf l) := fun i hi => by
  have e := h.1
  simp [enc] at e
  have h0 := h.cellAt i (by omega)
  have hi' : i < l.length := by omega
  constructor
  · rw [Nat.zero_add, h0]; simp [enc, natsOf, hi', List.getD_eq_getElem?_getD]
  · simp [natsOf, hi', List.getD_eq_getElem?_getD]; exact hl _ (List.getElem_mem hi')
theorem bytes_new (w : World) (l : List Nat) (cs : Array Value) (fr : Nat × Nat) (hcs : cs = (enc l).toArray) (hl : ∀ x ∈ l, x < 256) : BytesAt (w.alloc (.cells cs 5 fr)) w.heap.size 0 l.length (natsOf l) := by
  subst hcs
  intro i hi
  constructor
  · rw [Nat.zero_add, cell_of_row _ w.heap.size i (enc l).toArray 5 fr (heap_alloc_new w _)]
    simp [enc, natsOf, hi, List.getD_eq_getElem?_getD]
  · simp [natsOf, hi, List.getD_eq_getElem?_getD]; exact hl _ (List.getElem_mem hi)
theorem BytesAt.below {w w' : World} {g off n : Nat} {bs : Nat → Nat} {B : Nat} (h : BytesAt w g off n bs) (hb : Below B w w') (hg : g < B) : BytesAt w' g off n bs := fun i hi => by
  obtain ⟨h1, h2⟩ := h i hi
  exact ⟨by rw [hb.cell (p := ⟨g, off + i, none⟩) hg]; exact h1, h2⟩
end Go.Proofs.YtpicgjjbpiinfaaDoor
