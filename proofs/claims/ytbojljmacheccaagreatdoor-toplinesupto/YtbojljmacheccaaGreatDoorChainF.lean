
import Derived.Test.YtbojljmacheccaaGreatDoorAsM
import Derived.Test.YtbojljmacheccaaGreatDoorBase
namespace Go.Proofs.YtbojljmacheccaaGreatDoor
open Go.RowKit Go.Extern.Stop Go.Stop Go.Extern
set_option linter.unusedVariables false

/-- an error: links (true: an api.In, false: an api.At; with its number), the outermost first; at the bottom an api.Errno. -/
def errV : List (Bool × Int) → Int → Value
  | [], c => .iface 33 (.int .i64 c)
  | (false, n) :: l, c => .iface 105 (.agg #[.int .i64 n, errV l c])
  | (true, n) :: l, c => .iface 107 (.agg #[.int .i64 n, errV l c])
/-- the first link of a kind, and what it wraps. -/
def findK (k : Bool) : List (Bool × Int) → Option (Int × List (Bool × Int))
  | [] => none
  | (j, n) :: l => if j = k then some (n, l) else findK k l
theorem errV_one (l : List (Bool × Int)) (c : Int) : (errV l c).oneCell' = true := by
  rcases l with _ | ⟨⟨k, n⟩, l⟩
  · rfl
  · cases k <;> rfl
theorem errV_notnil (l : List (Bool × Int)) (c : Int) (w : World) : (binOp .eql 26 (errV l c) .nilIface).run Tryz.prog w = .ok (.bool false) w := by
  rcases l with _ | ⟨⟨k, n⟩, l⟩
  · exact run_eql_held_nil _ _ _ _ (by kernel_rfl)
  · cases k
    · exact run_eql_held_nil _ _ _ _ (by kernel_rfl)
    · exact run_eql_held_nil _ _ _ _ (by kernel_rfl)
theorem errV_guard (l : List (Bool × Int)) (c : Int) (x : Operand) (w : World) : (eqGuard .eql 26 x (.const .nilIface) (errV l c) .nilIface).run Tryz.prog w = .ok () w := by
  rcases l with _ | ⟨⟨k, n⟩, l⟩
  · rfl
  · cases k <;> rfl

theorem valueOfA (x y : Value) (w : World) : (ReflectliteValue.unpack (.iface 105 (.agg #[x, y]))).run Tryz.prog w
    = .ok (.agg #[.pointer (some ⟨9, 105, none⟩), .pointer (some ⟨w.heap.size, 0, none⟩), .int .u64 153]) (w.alloc (.cells #[x, y] 105)) := by kernel_rfl
theorem setA (tb tq : Nat) (b : Nat) (x y u v : Value) (W : World) (hx : W.cell? ⟨b, 0, none⟩ = some x) (hy : W.cell? ⟨b, 1, none⟩ = some y) (h0 : W.cell? ⟨tb, tq, none⟩ = some u) (h1 : W.cell? ⟨tb, tq + 1, none⟩ = some v) (f0 : W.frozen? ⟨tb, tq, none⟩ = false) (f1 : W.frozen? ⟨tb, tq + 1, none⟩ = false) (ox : x.oneCell' = true) (oy : y.oneCell' = true) :
    (ReflectliteValue.set #[.agg #[.pointer (some ⟨9, 105, none⟩), .pointer (some ⟨tb, tq, none⟩), .int .u64 409], .agg #[.pointer (some ⟨9, 105, none⟩), .pointer (some ⟨b, 0, none⟩), .int .u64 153]]).run Tryz.prog W
      = .ok (.tuple #[]) ((W.setCell ⟨tb, tq, none⟩ x).setCell ⟨tb, tq + 1, none⟩ y) := by
  have hc : (W.setCell ⟨tb, tq, none⟩ x).cell? ⟨tb, tq + 1, none⟩ = some v := by rw [World.cell?_setCell_other _ _ _ _ (by simp)]; exact h1
  rw [rls _ _ Tryz.prog W 105 105 ⟨tb, tq, none⟩ ⟨b, 0, none⟩ 409 153 (partsAA ⟨tb, tq, none⟩ W) (partsA ⟨b, 0, none⟩ W) (by decide) (.agg #[x, y]) (by simp [loadVar, isAgg, underlying, Tryz.underlying105, loadCells, loadCellsFrom, Addr.add, hx, hy, Result.andThen]) (directA W)]
  simp [storeVar, Value.cells, storeCells, Addr.add, Result.andThen]
  rw [run_store Tryz.prog W ⟨tb, tq, none⟩ _ _ ox]
  simp [h0, f0]
  rw [run_store Tryz.prog _ ⟨tb, tq + 1, none⟩ _ _ oy]
  simp [hc, f1]

theorem noAsI (v : Value) (x : TypeId) (w : World) : (Instr.typeAssert (.iface 107 v) x 265 true).run Tryz.prog w = .ok (.tuple #[.nilIface, .bool false]) w := run_typeAssert_lacksB Tryz.underlying265 (by kernel_rfl) (by kernel_rfl) v x w
theorem unwrapsI (v : Value) (x : TypeId) (w : World) : (Instr.typeAssert (.iface 107 v) x 268 true).run Tryz.prog w = .ok (.tuple #[.iface 107 v, .bool true]) w := run_typeAssert_hasB Tryz.underlying268 (by kernel_rfl) v x w
theorem methodUnwrapI (v : Value) (w : World) : (Go.method 460 107 v "Unwrap").run Tryz.prog w = .ok (237, v) w := by kernel_rfl
theorem unwrapI (x y : Value) (w : World) : Calls Tryz.prog 237 #[.agg #[x, y]] w fun e w' => e = .returned y ∧ w' = w.alloc (.cells #[x, y] 107) := by
  go_enter Tryz.func237, Tryz.ntmps237
  go_wp2
  go_ret
  exact ⟨rfl, rfl⟩
theorem assignableIA (w : World) : (ReflectliteType.relation "AssignableTo" ReflectliteType.assignableTo #[.agg #[.pointer (some ⟨9, 107, none⟩)], .iface 260 (.agg #[.pointer (some ⟨9, 105, none⟩)])]).run Tryz.prog w = .ok (.bool false) w := by kernel_rfl
end Go.Proofs.YtbojljmacheccaaGreatDoor

