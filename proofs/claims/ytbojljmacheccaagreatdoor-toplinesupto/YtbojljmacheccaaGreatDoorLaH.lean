
import Derived.Test.YtbojljmacheccaaGreatDoorLaD
import Derived.Test.YtbojljmacheccaaGreatDoorLaF
namespace Go.Proofs.YtbojljmacheccaaGreatDoor.Ln
open Go.RowKit Go.Shelf
attribute [local go_sem] Oper.semAt_some
set_option linter.unusedVariables false
set_option linter.unusedSimpArgs false
set_option maxRecDepth 100000
/-! ### the document's reader in memory. -/
def bcL (fl : Option Int) : Int := if fl = none then 0 else 60
def RdE (N : Nat) (s : ByteArray) (st : DSt) (W : World) : Prop := N < W.heap.size ∧ (W.cell? ⟨N, 0, none⟩ = some (.string s) ∧ W.cell? ⟨N, 1, none⟩ = some (.int .i64 (st.1 : Int)) ∧ W.cell? ⟨N, 2, none⟩ = some (.int .i64 (bcL st.2)) ∧ W.cell? ⟨N, 3, none⟩ = some (.int .i64 (st.2.getD 0)) ∧ W.cell? ⟨N, 4, none⟩ = some (.int .i64 0) ∧ W.cell? ⟨N, 5, none⟩ = some (.bool st.2.isSome) ∧ W.cell? ⟨N, 6, none⟩ = some (.bool false)) ∧ ∀ i, i < 7 → W.frozen? ⟨N, i, none⟩ = false
theorem RdE.below {N B : Nat} {s : ByteArray} {st : DSt} {W W' : World} (h : RdE N s st W) (hb : Below B W W') (hN : N < B) : RdE N s st W' := by
  obtain ⟨h0, ⟨h1, h2, h3, h4, h5, h6, h7⟩, h8⟩ := h
  have c : ∀ o, W'.cell? ⟨N, o, none⟩ = W.cell? ⟨N, o, none⟩ := fun o => hb.cell (p := ⟨N, o, none⟩) hN
  exact ⟨Nat.lt_of_lt_of_le h0 hb.size, ⟨by rw [c]; exact h1, by rw [c]; exact h2, by rw [c]; exact h3, by rw [c]; exact h4, by rw [c]; exact h5, by rw [c]; exact h6, by rw [c]; exact h7⟩, fun i hi => by rw [hb.frozen (p := ⟨N, i, none⟩) hN]; exact h8 i hi⟩
theorem RdE.set1 {N : Nat} {s : ByteArray} {st : DSt} {W : World} (h : RdE N s st W) (j : Nat) : RdE N s (j, st.2) (W.setCell ⟨N, 1, none⟩ (.int .i64 (j : Int))) := by
  obtain ⟨h0, ⟨h1, h2, h3, h4, h5, h6, h7⟩, h8⟩ := h
  exact ⟨by simpa using h0, ⟨by simp [go_sem, h1], World.cell?_setCell_same _ _ _ h2, by simp [go_sem, h3], by simp [go_sem, h4], by simp [go_sem, h5], by simp [go_sem, h6], by simp [go_sem, h7]⟩, fun i hi => by have := h8 i hi; simp [go_sem, this]⟩
end Go.Proofs.YtbojljmacheccaaGreatDoor.Ln

namespace Go.Proofs.YtbojljmacheccaaGreatDoor.Ln
open Go.RowKit Go.Shelf
attribute [local go_sem] Oper.semAt_some
set_option linter.unusedVariables false
set_option linter.unusedSimpArgs false
set_option maxRecDepth 100000
/-! ### the document's reader: fail, is, must, piece, number. -/
end Go.Proofs.YtbojljmacheccaaGreatDoor.Ln
