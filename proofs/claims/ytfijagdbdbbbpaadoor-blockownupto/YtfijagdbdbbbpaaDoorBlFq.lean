
import Derived.Test.YtfijagdbdbbbpaaDoorBlEq
import Derived.Test.YtfijagdbdbbbpaaDoorSameq
namespace Go.Proofs.YtfijagdbdbbbpaaDoor
open Go.RowKit
set_option linter.unusedVariables false
set_option linter.unusedSimpArgs false
theorem bad_put (w W : World) (hB : Below w.heap.size w W) (x0 x1 x2 x3 x4 : Value) : Below w.heap.size w (((((W.setCell ⟨w.heap.size, 0, none⟩ x0).setCell ⟨w.heap.size, 1, none⟩ x1).setCell ⟨w.heap.size, 2, none⟩ x2).setCell ⟨w.heap.size, 3, none⟩ x3).setCell ⟨w.heap.size, 4, none⟩ x4) := by
  have bb : ∀ (W : World) (j : Nat) (x : Value), Below w.heap.size w W → Below w.heap.size w (W.setCell ⟨w.heap.size, j, none⟩ x) := fun W j x hW => hW.setCell (p := ⟨w.heap.size, j, none⟩) (Nat.le_refl _) _
  exact bb _ _ _ (bb _ _ _ (bb _ _ _ (bb _ _ _ (bb _ _ _ hB))))
theorem bytesIn_z {W : World} {q j m : Nat} {x : Value} {a : Option Addr} {f : Nat → Nat} (hne : m = 0 ∨ ∃ g o, a = some ⟨g, o, none⟩ ∧ q < g) (h : BytesIn W a m f) : BytesIn (W.setCell ⟨q, j, none⟩ x) a m f := by
  refine ⟨h.1, ?_⟩
  rcases h.2 with h0 | ⟨b, off, e, hb, hB⟩
  · exact Or.inl h0
  · rcases hne with h0 | ⟨g, o, e', hg⟩
    · exact Or.inl h0
    · rw [e] at e'
      injection e' with e'
      injection e' with e' _
      subst e'
      exact Or.inr ⟨b, off, e, by simpa using hb, fun i hi => ⟨by rw [World.cell?_setCell_other _ _ _ _ (by intro e; injection e with e1; omega)]; exact (hB i hi).1, (hB i hi).2⟩⟩
/-- a struct of an error's five cells at z. -/
structure BZ (z : Nat) (w : World) : Prop where
  z0 : w.cell? ⟨z, 0, none⟩ = some (.int .i64 0)
  z1 : w.cell? ⟨z, 1, none⟩ = some (.int .i64 0)
  z2 : w.cell? ⟨z, 2, none⟩ = some (.int .i64 0)
  z3 : w.cell? ⟨z, 3, none⟩ = some (.bool false)
  z4 : w.cell? ⟨z, 4, none⟩ = some (.bool false)
  y0 : w.frozen? ⟨z, 0, none⟩ = false
  y1 : w.frozen? ⟨z, 1, none⟩ = false
  y2 : w.frozen? ⟨z, 2, none⟩ = false
  y3 : w.frozen? ⟨z, 3, none⟩ = false
  y4 : w.frozen? ⟨z, 4, none⟩ = false
theorem BZ.of {z : Nat} {w w' : World} (h : BZ z w) (hk : w'.heap[z]? = w.heap[z]?) : BZ z w' := by
  obtain ⟨z0, z1, z2, z3, z4, y0, y1, y2, y3, y4⟩ := h
  refine ⟨?_, ?_, ?_, ?_, ?_, ?_, ?_, ?_, ?_, ?_⟩
  · rw [World.cell?_of_block (w := w) hk]; exact z0
  · rw [World.cell?_of_block (w := w) hk]; exact z1
  · rw [World.cell?_of_block (w := w) hk]; exact z2
  · rw [World.cell?_of_block (w := w) hk]; exact z3
  · rw [World.cell?_of_block (w := w) hk]; exact z4
  · rw [World.frozen?_of_block (w := w) hk]; exact y0
  · rw [World.frozen?_of_block (w := w) hk]; exact y1
  · rw [World.frozen?_of_block (w := w) hk]; exact y2
  · rw [World.frozen?_of_block (w := w) hk]; exact y3
  · rw [World.frozen?_of_block (w := w) hk]; exact y4
end Go.Proofs.YtfijagdbdbbbpaaDoor
