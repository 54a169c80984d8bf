
import Derived.Test.YtkpcndnefbaooaaDoorKyZ
import Derived.Test.YtkpcndnefbaooaaDoorKyM
namespace Go.Proofs.YtkpcndnefbaooaaDoor
open Go.RowKit Go.Shelf
set_option linter.unusedVariables false
set_option linter.unusedSimpArgs false
def bdV (n : Int) : Value := .agg #[.int .i64 n, .int .i64 0, .int .i64 0, .bool false, .bool false]
theorem setBad {B : Nat} {a w : World} {N : Nat} {v0 v1 v2 v3 v4 : Value} (h : Below B a w) (hN : B ≤ N) : Below B a (((((w.setCell ⟨N, 0, none⟩ v0).setCell ⟨N, 1, none⟩ v1).setCell ⟨N, 2, none⟩ v2).setCell ⟨N, 3, none⟩ v3).setCell ⟨N, 4, none⟩ v4) :=
  ((((h.setCell (p := ⟨N, 0, none⟩) hN _).setCell (p := ⟨N, 1, none⟩) hN _).setCell (p := ⟨N, 2, none⟩) hN _).setCell (p := ⟨N, 3, none⟩) hN _).setCell (p := ⟨N, 4, none⟩) hN _
def BdAt (W : World) (N : Nat) : Prop := N < W.heap.size ∧ W.cell? ⟨N, 0, none⟩ = some (.int .i64 0) ∧ W.cell? ⟨N, 1, none⟩ = some (.int .i64 0) ∧ W.cell? ⟨N, 2, none⟩ = some (.int .i64 0) ∧ W.cell? ⟨N, 3, none⟩ = some (.bool false) ∧ W.cell? ⟨N, 4, none⟩ = some (.bool false) ∧ ∀ j, W.frozen? ⟨N, j, none⟩ = false
theorem BdAt.below {W W' : World} {N : Nat} (h : BdAt W N) (hb : Below W.heap.size W W') : BdAt W' N := by
  obtain ⟨h0, h1, h2, h3, h4, h5, h6⟩ := h
  refine ⟨Nat.lt_of_lt_of_le h0 hb.size, ?_, ?_, ?_, ?_, ?_, fun j => ?_⟩
  · rw [hb.cell (p := ⟨N, 0, none⟩) h0]; exact h1
  · rw [hb.cell (p := ⟨N, 1, none⟩) h0]; exact h2
  · rw [hb.cell (p := ⟨N, 2, none⟩) h0]; exact h3
  · rw [hb.cell (p := ⟨N, 3, none⟩) h0]; exact h4
  · rw [hb.cell (p := ⟨N, 4, none⟩) h0]; exact h5
  · rw [hb.frozen (p := ⟨N, j, none⟩) h0]; exact h6 j
theorem mk_byte (x : UInt8) : mkL.contains x = (decide (x.toNat = 44) || decide (x.toNat = 32) || decide (x.toNat = 61) || decide (x.toNat = 92)) := by
  have : ∀ n : Fin 256, mkL.contains (UInt8.ofNat n.val) = (decide (n.val = 44) || decide (n.val = 32) || decide (n.val = 61) || decide (n.val = 92)) := by decide +kernel
  have h := this ⟨x.toNat, UInt8.toNat_lt x⟩
  simpa using h
end Go.Proofs.YtkpcndnefbaooaaDoor
