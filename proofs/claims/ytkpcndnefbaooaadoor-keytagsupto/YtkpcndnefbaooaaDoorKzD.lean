
import Derived.Test.YtkpcndnefbaooaaDoorKzC
import Derived.Test.YtkpcndnefbaooaaDoorKyG
namespace Go.Proofs.YtkpcndnefbaooaaDoor
open Go.RowKit Go.Shelf
set_option linter.unusedVariables false
set_option linter.unusedSimpArgs false
def RT (w : World) (a : Option Addr) (n c : Nat) (sf : ByteArray) (W : World) : Prop := W.cell? ⟨w.heap.size, 1, none⟩ = some (.slice a n c) ∧ W.cell? ⟨w.heap.size, 2, none⟩ = some (.string sf) ∧ w.heap.size + 1 < W.heap.size ∧ BdAt W (w.heap.size + 1) ∧ Below w.heap.size w W
theorem RT.below {w W W' : World} {a : Option Addr} {n c : Nat} {sf : ByteArray} (h : RT w a n c sf W) (hb : Below W.heap.size W W') : RT w a n c sf W' := by
  obtain ⟨h1, h2, h3, h4, h5⟩ := h
  refine ⟨?_, ?_, Nat.lt_of_lt_of_le h3 hb.size, h4.below hb, h5.trans (hb.mono h5.size)⟩
  · rw [hb.cell (p := ⟨w.heap.size, 1, none⟩) (show w.heap.size < _ by omega)]; exact h1
  · rw [hb.cell (p := ⟨w.heap.size, 2, none⟩) (show w.heap.size < _ by omega)]; exact h2
theorem RT.alloc {w W : World} {a : Option Addr} {n c : Nat} {sf : ByteArray} (h : RT w a n c sf W) (o : Obj) : RT w a n c sf (W.alloc o) := h.below ((Below.refl _ W).alloc (Nat.le_refl _) o)
end Go.Proofs.YtkpcndnefbaooaaDoor
