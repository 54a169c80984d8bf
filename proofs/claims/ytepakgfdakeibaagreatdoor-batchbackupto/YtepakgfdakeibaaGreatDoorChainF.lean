
import Derived.Test.YtepakgfdakeibaaGreatDoorAsM
import Derived.Test.YtepakgfdakeibaaGreatDoorBase
namespace Go.Proofs.YtepakgfdakeibaaGreatDoor
open Go.RowKit Go.Extern.Stop Go.Stop Go.Extern
set_option linter.unusedVariables false

/-- the first link of a kind, and what it wraps. -/
def findK (k : Bool) : List (Bool × Int) → Option (Int × List (Bool × Int))
  | [] => none
  | (j, n) :: l => if j = k then some (n, l) else findK k l
theorem valueOfI (x y : Value) (w : World) : (ReflectliteValue.unpack (.iface 119 (.agg #[x, y]))).run Tryz.prog w
    = .ok (.agg #[.pointer (some ⟨4, 119, none⟩), .pointer (some ⟨w.heap.size, 0, none⟩), .int .u64 153]) (w.alloc (.cells #[x, y] 119)) := by kernel_rfl
theorem noAsI (v : Value) (x : TypeId) (w : World) : (Instr.typeAssert (.iface 119 v) x 129 true).run Tryz.prog w = .ok (.tuple #[.nilIface, .bool false]) w := run_typeAssert_lacksB Tryz.underlying129 (by kernel_rfl) (by kernel_rfl) v x w
theorem unwrapsI (v : Value) (x : TypeId) (w : World) : (Instr.typeAssert (.iface 119 v) x 132 true).run Tryz.prog w = .ok (.tuple #[.iface 119 v, .bool true]) w := run_typeAssert_hasB Tryz.underlying132 (by kernel_rfl) v x w
theorem methodUnwrapI (v : Value) (w : World) : (Go.method 288 119 v "Unwrap").run Tryz.prog w = .ok (129, v) w := by kernel_rfl
theorem unwrapI (x y : Value) (w : World) : Calls Tryz.prog 129 #[.agg #[x, y]] w fun e w' => e = .returned y ∧ w' = w.alloc (.cells #[x, y] 119) := by
  go_enter Tryz.func129, Tryz.ntmps129
  go_wp2
  go_ret
  exact ⟨rfl, rfl⟩
theorem sizeI (w : World) : (sizeOf 119).run Tryz.prog w = .ok 2 w := by kernel_rfl
theorem setI (tb to : Nat) (b : Nat) (x y u v : Value) (W : World) (hx : W.cell? ⟨b, 0, none⟩ = some x) (hy : W.cell? ⟨b, 1, none⟩ = some y) (h0 : W.cell? ⟨tb, to, none⟩ = some u) (h1 : W.cell? ⟨tb, to + 1, none⟩ = some v) (f0 : W.frozen? ⟨tb, to, none⟩ = false) (f1 : W.frozen? ⟨tb, to + 1, none⟩ = false) (ox : x.oneCell' = true) (oy : y.oneCell' = true) :
    (ReflectliteValue.set #[.agg #[.pointer (some ⟨4, 119, none⟩), .pointer (some ⟨tb, to, none⟩), .int .u64 409], .agg #[.pointer (some ⟨4, 119, none⟩), .pointer (some ⟨b, 0, none⟩), .int .u64 153]]).run Tryz.prog W
      = .ok (.tuple #[]) ((W.setCell ⟨tb, to, none⟩ x).setCell ⟨tb, to + 1, none⟩ y) := by
  have hc : (W.setCell ⟨tb, to, none⟩ x).cell? ⟨tb, to + 1, none⟩ = some v := by rw [World.cell?_setCell_other _ _ _ _ (by simp)]; exact h1
  rw [rls _ _ Tryz.prog W 119 119 ⟨tb, to, none⟩ ⟨b, 0, none⟩ 409 153 (partsAI ⟨tb, to, none⟩ W) (partsI ⟨b, 0, none⟩ W) (by decide) (.agg #[x, y]) (by simp [loadVar, isAgg, underlying, Tryz.underlying119, loadCells, loadCellsFrom, Addr.add, hx, hy, Result.andThen]) (directI W)]
  simp [storeVar, Value.cells, storeCells, Addr.add, Result.andThen]
  rw [run_store Tryz.prog W ⟨tb, to, none⟩ _ _ ox]
  simp [h0, f0]
  rw [run_store Tryz.prog _ ⟨tb, to + 1, none⟩ _ _ oy]
  simp [hc, f1]
theorem assignableIE (w : World) : (ReflectliteType.relation "AssignableTo" ReflectliteType.assignableTo #[.agg #[.pointer (some ⟨4, 119, none⟩)], .iface 124 (.agg #[.pointer (some ⟨4, 34, none⟩)])]).run Tryz.prog w = .ok (.bool false) w := by kernel_rfl
end Go.Proofs.YtepakgfdakeibaaGreatDoor

