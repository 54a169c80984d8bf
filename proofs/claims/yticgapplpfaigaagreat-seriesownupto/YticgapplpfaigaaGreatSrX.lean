
import Derived.Test.YticgapplpfaigaaGreatSrW
namespace Go.Proofs.YticgapplpfaigaaGreat
open Go.RowKit
set_option linter.unusedVariables false
set_option linter.unusedSimpArgs false
theorem StIn.below {w w' : World} {a : Option Addr} {n : Nat} {st : Nat → Stp} (h : StIn w a n st) (hB : Below w.heap.size w w') : StIn w' a n st := by
  refine ⟨h.1, h.2.1, ?_⟩
  rcases h.2.2 with h0 | ⟨b, off, e, hb, hc⟩
  · exact Or.inl h0
  · refine Or.inr ⟨b, off, e, Nat.lt_of_lt_of_le hb hB.size, fun i hi => ?_⟩
    obtain ⟨b', off', e', _, r⟩ := StIn.cells h hB hi
    rw [e] at e'; cases e'
    exact r
end Go.Proofs.YticgapplpfaigaaGreat
