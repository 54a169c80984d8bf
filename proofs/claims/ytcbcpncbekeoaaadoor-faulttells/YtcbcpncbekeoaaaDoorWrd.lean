
import Derived.Test.YtcbcpncbekeoaaaDoorMadeA
import Derived.ProofKit
import Derived.OpenShut
import Derived.Deep.SlicePairs
import Derived.Lib.SmallJoins
namespace Go.Proofs.YtcbcpncbekeoaaaDoor
open Go.ChangeShapes Go.WideShapes Go.ChangeAt Go.RowKit
set_option linter.unusedVariables false
set_option maxRecDepth 100000 in
/-- the wraps of a shape, as they are read. -/
theorem wraps_read {H : Type} {enc : TypeId × Value → H} {W : World} {v : Value} {y : DataW H × List MemPlace} {fuel : Nat}
    (hf : DataW.trod enc Tryd.prog W 0 (fun _ => true) true fuel 23 [v] = some y) :
    ∃ a len cap K N, v = .slice a len cap ∧ WrapsAt W a len K N ∧ len ≤ 9223372036854775807 ∧ ∀ i, i < len → (Lit.int .i64 (N i)).wf = true := by
  rcases Go.Deep.open_slice_pairs Tryd.underlying23 Tryd.underlying41 (by kernel_rfl) rfl rfl (by kernel_rfl) (by kernel_rfl) hf with ⟨hcs, hx⟩ | ⟨a, len, cap, m, n, V0, V1, D0, D1, P0, P1, hcs, _, hl, hm, hmeq, hx, hall⟩
  · simp at hcs
    subst hcs
    exact ⟨none, 0, 0, fun _ => 0, fun _ => 0, rfl, Or.inl rfl, by omega, fun i hi => absurd hi (by omega)⟩
  · simp at hcs
    subst hcs
    simp only [if_true] at hmeq
    have hm' : len ≤ m := by omega
    have hml : len ≤ 9223372036854775807 := by have : maxLen = 9223372036854775807 := rfl; omega
    have key : ∀ i, i < m → ∃ k n, V0 i = .int .i64 k ∧ V1 i = .int .i64 n ∧ (Lit.int .i64 n).wf = true := fun i hi => by
      obtain ⟨_, _, t0, t1⟩ := hall i hi
      obtain ⟨k, e0, _, _⟩ := DataW.trod_int Tryd.underlying3 t0
      obtain ⟨n, e1, _, w1⟩ := DataW.trod_int Tryd.underlying3 t1
      simp at e0 e1
      exact ⟨k, n, e0, e1, w1⟩
    refine ⟨some a, len, cap, fun i => intOf (V0 i), fun i => intOf (V1 i), rfl, ?_, hml, fun i hi => ?_⟩
    · rcases Nat.eq_zero_or_pos len with h0 | h0
      · exact Or.inl h0
      · right
        obtain ⟨b, off, spot⟩ := a
        have hspot : spot = none := by simpa [Addr.add] using World.cell?_spot (hall 0 (by omega)).1
        subst hspot
        refine ⟨b, off, rfl, ?_, fun i hi => ?_⟩
        · have h' := (hall 0 (by omega)).1
          rw [Go.WideShapes.add_plain] at h'
          rcases Nat.lt_or_ge b W.heap.size with h2 | h2
          · exact h2
          · simp [World.cell?, Array.getElem?_eq_none h2] at h'
        · obtain ⟨k, n, e0, e1, _⟩ := key i (by omega)
          obtain ⟨c0, c1, _, _⟩ := hall i (by omega)
          rw [Go.WideShapes.add_plain] at c0 c1
          refine ⟨?_, ?_⟩
          · show _ = some (Value.int .i64 (intOf (V0 i))); rw [c0, e0]; rfl
          · show _ = some (Value.int .i64 (intOf (V1 i))); rw [← Nat.add_assoc] at c1; rw [c1, e1]; rfl
    · obtain ⟨k, n, e0, e1, w⟩ := key i (by omega)
      show (Lit.int .i64 (intOf (V1 i))).wf = true
      rw [e1]; exact w
end Go.Proofs.YtcbcpncbekeoaaaDoor
