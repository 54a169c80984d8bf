
import Derived.Test.YtkpcndnefbaooaaDoorKyR
import Derived.SizedLaws
namespace Go.Proofs.YtkpcndnefbaooaaDoor
open Go.ChangeShapes Go.WideShapes Go.ChangeAt Go.RowKit
set_option linter.unusedVariables false
set_option maxRecDepth 100000 in
/-- what tags weigh bounds how many there are. -/
theorem tags_small {H : Type} {enc : TypeId × Value → H} {W : World} {a : Option Addr} {n cap : Nat} {y : DataW H × List MemPlace} {fuel : Nat}
    (hf : DataW.trod enc Tryd.prog W 0 (fun _ => true) true fuel 22 [.slice a n cap] = some y) (hw : ∀ k ∈ y.1.weights Tryd.prog 22, k ≤ reachBytes) : n ≤ 4398046511000 := by
  rcases Go.Deep.open_slice_pairs Tryd.underlying22 Tryd.underlying34 (by kernel_rfl) rfl rfl (by kernel_rfl) (by kernel_rfl) hf with ⟨hcs, hx⟩ | ⟨a', len, cap', m, n', V0, V1, D0, D1, P0, P1, hcs, _, hl, hm, hmeq, hx, hall⟩
  · simp at hcs
    omega
  · simp at hcs
    obtain ⟨_, rfl, rfl⟩ := hcs
    have hd : y.1 = .slice ((List.range n).map fun i => .agg [D0 i, D1 i]) ((List.range (m - n)).map fun j => .agg [D0 (n + j), D1 (n + j)]) := congrArg (·.1) hx
    have hb : Tryd.prog.bytesOf 34 = 32 := by kernel_rfl
    have h1 := hw ((((List.range n).map fun i => (DataW.agg [D0 i, D1 i] : DataW H)).length + ((List.range (m - n)).map fun j => (DataW.agg [D0 (n + j), D1 (n + j)] : DataW H)).length) * Tryd.prog.bytesOf 34) (by rw [hd]; simp [DataW.weights, Tryd.underlying22])
    rw [hb, List.length_map, List.length_map, List.length_range, List.length_range] at h1
    have : reachBytes = 140737488351232 := by decide
    omega
theorem tags_in_ser {H : Type} {x y z : DataW H} {n : Nat} (hn : n ∈ y.weights Tryd.prog 22) : n ∈ (DataW.agg [x, y, z]).weights Tryd.prog 37 := by
  simp [DataW.weights, Tryd.underlying37, DataW.weightsEach, hn]
end Go.Proofs.YtkpcndnefbaooaaDoor
