
import Derived.Test.YtbojljmacheccaaGreatDoorKyC
namespace Go.Proofs.YtbojljmacheccaaGreatDoor
open Go.RowKit Go.Shelf
set_option linter.unusedVariables false
set_option linter.unusedSimpArgs false
def UT (w : World) : Prop := Lib.Utf8Tabs 3 4 w
theorem cell_lt {w : World} {p : Addr} {v : Value} (h : w.cell? p = some v) : p.block < w.heap.size := by
  rcases Nat.lt_or_ge p.block w.heap.size with h2 | h2
  · exact h2
  · simp [World.cell?, Array.getElem?_eq_none h2] at h
theorem UT.below {w w' : World} {B : Nat} (h : UT w) (hb : Below B w w') (hB : w.heap.size ≤ B) : UT w' := by
  obtain ⟨h1, h2⟩ := h
  refine ⟨fun c hc => ?_, fun i hi => ⟨?_, ?_⟩⟩
  · have := h1 c hc
    rw [hb.cell (p := ⟨3, c, none⟩) (Nat.lt_of_lt_of_le (cell_lt this) hB)]; exact this
  · have := (h2 i hi).1
    rw [hb.cell (p := ⟨4, 2 * i, none⟩) (Nat.lt_of_lt_of_le (cell_lt this) hB)]; exact this
  · have := (h2 i hi).2
    rw [hb.cell (p := ⟨4, 2 * i + 1, none⟩) (Nat.lt_of_lt_of_le (cell_lt this) hB)]; exact this
end Go.Proofs.YtbojljmacheccaaGreatDoor
