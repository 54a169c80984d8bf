
import Derived.Test.YtfpfeecoideedaaGreatDoorAsM
import Derived.Test.YtfpfeecoideedaaGreatDoorBase
namespace Go.Proofs.YtfpfeecoideedaaGreatDoor
open Go.RowKit Go.Extern.Stop Go.Stop Go.Extern
set_option linter.unusedVariables false

/-- an error: links (true: an api.In, false: an api.At; with its number), the outermost first; at the bottom an api.Errno. -/
def errV : List (Bool × Int) → Int → Value
  | [], c => .iface 29 (.int .i64 c)
  | (false, n) :: l, c => .iface 94 (.agg #[.int .i64 n, errV l c])
  | (true, n) :: l, c => .iface 96 (.agg #[.int .i64 n, errV l c])
/-- the first link of a kind, and what it wraps. -/
def findK (k : Bool) : List (Bool × Int) → Option (Int × List (Bool × Int))
  | [] => none
  | (j, n) :: l => if j = k then some (n, l) else findK k l
theorem errV_one (l : List (Bool × Int)) (c : Int) : (errV l c).oneCell' = true := by
  rcases l with _ | ⟨⟨k, n⟩, l⟩
  · rfl
  · cases k <;> rfl
theorem errV_notnil (l : List (Bool × Int)) (c : Int) (w : World) : (binOp .eql 26 (errV l c) .nilIface).run Tryz.prog w = .ok (.bool false) w := by
  rcases l with _ | ⟨⟨k, n⟩, l⟩
  · exact run_eql_held_nil _ _ _ _ (by kernel_rfl)
  · cases k
    · exact run_eql_held_nil _ _ _ _ (by kernel_rfl)
    · exact run_eql_held_nil _ _ _ _ (by kernel_rfl)
theorem errV_guard (l : List (Bool × Int)) (c : Int) (x : Operand) (w : World) : (eqGuard .eql 26 x (.const .nilIface) (errV l c) .nilIface).run Tryz.prog w = .ok () w := by
  rcases l with _ | ⟨⟨k, n⟩, l⟩
  · rfl
  · cases k <;> rfl

theorem valueOfA (x y : Value) (w : World) : (ReflectliteValue.unpack (.iface 94 (.agg #[x, y]))).run Tryz.prog w
    = .ok (.agg #[.pointer (some ⟨4, 94, none⟩), .pointer (some ⟨w.heap.size, 0, none⟩), .int .u64 153]) (w.alloc (.cells #[x, y] 94)) := by kernel_rfl
theorem noAsA (v : Value) (x : TypeId) (w : World) : (Instr.typeAssert (.iface 94 v) x 238 true).run Tryz.prog w = .ok (.tuple #[.nilIface, .bool false]) w := run_typeAssert_lacksB Tryz.underlying238 (by kernel_rfl) (by kernel_rfl) v x w
theorem unwrapsA (v : Value) (x : TypeId) (w : World) : (Instr.typeAssert (.iface 94 v) x 241 true).run Tryz.prog w = .ok (.tuple #[.iface 94 v, .bool true]) w := run_typeAssert_hasB Tryz.underlying241 (by kernel_rfl) v x w
theorem methodUnwrapA (v : Value) (w : World) : (Go.method 397 94 v "Unwrap").run Tryz.prog w = .ok (158, v) w := by kernel_rfl
theorem unwrapA (x y : Value) (w : World) : Calls Tryz.prog 158 #[.agg #[x, y]] w fun e w' => e = .returned y ∧ w' = w.alloc (.cells #[x, y] 94) := by
  go_enter Tryz.func158, Tryz.ntmps158
  go_wp2
  go_ret
  exact ⟨rfl, rfl⟩
theorem sizeA (w : World) : (sizeOf 94).run Tryz.prog w = .ok 2 w := by kernel_rfl
theorem setA (tb to : Nat) (b : Nat) (x y u v : Value) (W : World) (hx : W.cell? ⟨b, 0, none⟩ = some x) (hy : W.cell? ⟨b, 1, none⟩ = some y) (h0 : W.cell? ⟨tb, to, none⟩ = some u) (h1 : W.cell? ⟨tb, to + 1, none⟩ = some v) (f0 : W.frozen? ⟨tb, to, none⟩ = false) (f1 : W.frozen? ⟨tb, to + 1, none⟩ = false) (ox : x.oneCell' = true) (oy : y.oneCell' = true) :
    (ReflectliteValue.set #[.agg #[.pointer (some ⟨4, 94, none⟩), .pointer (some ⟨tb, to, none⟩), .int .u64 409], .agg #[.pointer (some ⟨4, 94, none⟩), .pointer (some ⟨b, 0, none⟩), .int .u64 153]]).run Tryz.prog W
      = .ok (.tuple #[]) ((W.setCell ⟨tb, to, none⟩ x).setCell ⟨tb, to + 1, none⟩ y) := by
  have hc : (W.setCell ⟨tb, to, none⟩ x).cell? ⟨tb, to + 1, none⟩ = some v := by rw [World.cell?_setCell_other _ _ _ _ (by simp)]; exact h1
  rw [rls _ _ Tryz.prog W 94 94 ⟨tb, to, none⟩ ⟨b, 0, none⟩ 409 153 (partsAA ⟨tb, to, none⟩ W) (partsA ⟨b, 0, none⟩ W) (by decide) (.agg #[x, y]) (by simp [loadVar, isAgg, underlying, Tryz.underlying94, loadCells, loadCellsFrom, Addr.add, hx, hy, Result.andThen]) (directA W)]
  simp [storeVar, Value.cells, storeCells, Addr.add, Result.andThen]
  rw [run_store Tryz.prog W ⟨tb, to, none⟩ _ _ ox]
  simp [h0, f0]
  rw [run_store Tryz.prog _ ⟨tb, to + 1, none⟩ _ _ oy]
  simp [hc, f1]

theorem valueOfI (x y : Value) (w : World) : (ReflectliteValue.unpack (.iface 96 (.agg #[x, y]))).run Tryz.prog w
    = .ok (.agg #[.pointer (some ⟨4, 96, none⟩), .pointer (some ⟨w.heap.size, 0, none⟩), .int .u64 153]) (w.alloc (.cells #[x, y] 96)) := by kernel_rfl
theorem noAsI (v : Value) (x : TypeId) (w : World) : (Instr.typeAssert (.iface 96 v) x 238 true).run Tryz.prog w = .ok (.tuple #[.nilIface, .bool false]) w := run_typeAssert_lacksB Tryz.underlying238 (by kernel_rfl) (by kernel_rfl) v x w
theorem unwrapsI (v : Value) (x : TypeId) (w : World) : (Instr.typeAssert (.iface 96 v) x 241 true).run Tryz.prog w = .ok (.tuple #[.iface 96 v, .bool true]) w := run_typeAssert_hasB Tryz.underlying241 (by kernel_rfl) v x w
theorem methodUnwrapI (v : Value) (w : World) : (Go.method 397 96 v "Unwrap").run Tryz.prog w = .ok (160, v) w := by kernel_rfl
theorem unwrapI (x y : Value) (w : World) : Calls Tryz.prog 160 #[.agg #[x, y]] w fun e w' => e = .returned y ∧ w' = w.alloc (.cells #[x, y] 96) := by
  go_enter Tryz.func160, Tryz.ntmps160
  go_wp2
  go_ret
  exact ⟨rfl, rfl⟩
theorem sizeI (w : World) : (sizeOf 96).run Tryz.prog w = .ok 2 w := by kernel_rfl
theorem setI (tb to : Nat) (b : Nat) (x y u v : Value) (W : World) (hx : W.cell? ⟨b, 0, none⟩ = some x) (hy : W.cell? ⟨b, 1, none⟩ = some y) (h0 : W.cell? ⟨tb, to, none⟩ = some u) (h1 : W.cell? ⟨tb, to + 1, none⟩ = some v) (f0 : W.frozen? ⟨tb, to, none⟩ = false) (f1 : W.frozen? ⟨tb, to + 1, none⟩ = false) (ox : x.oneCell' = true) (oy : y.oneCell' = true) :
    (ReflectliteValue.set #[.agg #[.pointer (some ⟨4, 96, none⟩), .pointer (some ⟨tb, to, none⟩), .int .u64 409], .agg #[.pointer (some ⟨4, 96, none⟩), .pointer (some ⟨b, 0, none⟩), .int .u64 153]]).run Tryz.prog W
      = .ok (.tuple #[]) ((W.setCell ⟨tb, to, none⟩ x).setCell ⟨tb, to + 1, none⟩ y) := by
  have hc : (W.setCell ⟨tb, to, none⟩ x).cell? ⟨tb, to + 1, none⟩ = some v := by rw [World.cell?_setCell_other _ _ _ _ (by simp)]; exact h1
  rw [rls _ _ Tryz.prog W 96 96 ⟨tb, to, none⟩ ⟨b, 0, none⟩ 409 153 (partsAI ⟨tb, to, none⟩ W) (partsI ⟨b, 0, none⟩ W) (by decide) (.agg #[x, y]) (by simp [loadVar, isAgg, underlying, Tryz.underlying96, loadCells, loadCellsFrom, Addr.add, hx, hy, Result.andThen]) (directI W)]
  simp [storeVar, Value.cells, storeCells, Addr.add, Result.andThen]
  rw [run_store Tryz.prog W ⟨tb, to, none⟩ _ _ ox]
  simp [h0, f0]
  rw [run_store Tryz.prog _ ⟨tb, to + 1, none⟩ _ _ oy]
  simp [hc, f1]
theorem assignableAE (w : World) : (ReflectliteType.relation "AssignableTo" ReflectliteType.assignableTo #[.agg #[.pointer (some ⟨4, 94, none⟩)], .iface 233 (.agg #[.pointer (some ⟨4, 29, none⟩)])]).run Tryz.prog w = .ok (.bool false) w := by kernel_rfl
theorem assignableAI (w : World) : (ReflectliteType.relation "AssignableTo" ReflectliteType.assignableTo #[.agg #[.pointer (some ⟨4, 94, none⟩)], .iface 233 (.agg #[.pointer (some ⟨4, 96, none⟩)])]).run Tryz.prog w = .ok (.bool false) w := by kernel_rfl
theorem assignableIE (w : World) : (ReflectliteType.relation "AssignableTo" ReflectliteType.assignableTo #[.agg #[.pointer (some ⟨4, 96, none⟩)], .iface 233 (.agg #[.pointer (some ⟨4, 29, none⟩)])]).run Tryz.prog w = .ok (.bool false) w := by kernel_rfl
theorem assignableIA (w : World) : (ReflectliteType.relation "AssignableTo" ReflectliteType.assignableTo #[.agg #[.pointer (some ⟨4, 96, none⟩)], .iface 233 (.agg #[.pointer (some ⟨4, 94, none⟩)])]).run Tryz.prog w = .ok (.bool false) w := by kernel_rfl
end Go.Proofs.YtfpfeecoideedaaGreatDoor

