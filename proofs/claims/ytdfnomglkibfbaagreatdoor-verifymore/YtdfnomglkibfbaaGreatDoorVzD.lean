
import Derived.Test.YtdfnomglkibfbaaGreatDoorAsC
import Derived.Test.YtdfnomglkibfbaaGreatDoorBase
import Derived.Deep.LoopGhost
import Derived.Test.YtdfnomglkibfbaaGreatDoorVzA
import Derived.Test.YtdfnomglkibfbaaGreatDoorVzC
namespace Go.Proofs.YtdfnomglkibfbaaGreatDoor
open Go.RowKit Go.Extern.Stop Go.Stop Go.Extern

theorem assignableEA (w : World) : (ReflectliteType.relation "AssignableTo" ReflectliteType.assignableTo #[.agg #[.pointer (some ⟨4, 34, none⟩)], .iface 221 (.agg #[.pointer (some ⟨4, 93, none⟩)])]).run Tryz.prog w = .ok (.bool false) w := by kernel_rfl
theorem assignableEI (w : World) : (ReflectliteType.relation "AssignableTo" ReflectliteType.assignableTo #[.agg #[.pointer (some ⟨4, 34, none⟩)], .iface 221 (.agg #[.pointer (some ⟨4, 95, none⟩)])]).run Tryz.prog w = .ok (.bool false) w := by kernel_rfl


theorem noAsE (v : Value) (x : TypeId) (w : World) : (Instr.typeAssert (.iface 34 v) x 226 true).run Tryz.prog w = .ok (.tuple #[.nilIface, .bool false]) w := run_typeAssert_lacksB Tryz.underlying226 (by kernel_rfl) (by kernel_rfl) v x w
theorem noUnwrapE (v : Value) (x : TypeId) (w : World) : (Instr.typeAssert (.iface 34 v) x 229 true).run Tryz.prog w = .ok (.tuple #[.nilIface, .bool false]) w := run_typeAssert_lacksB Tryz.underlying229 (by kernel_rfl) (by kernel_rfl) v x w
theorem noUnwrapsE (v : Value) (x : TypeId) (w : World) : (Instr.typeAssert (.iface 34 v) x 231 true).run Tryz.prog w = .ok (.tuple #[.nilIface, .bool false]) w := run_typeAssert_lacksB Tryz.underlying231 (by kernel_rfl) (by kernel_rfl) v x w

set_option maxHeartbeats 4000000 in
/-- errors.As(an Errno, &at): it is not found. -/
theorem as_EA (c : Int) (t : Addr) (w : World) (hg : ET w) :
    Calls Tryz.prog 26 #[.iface 34 (.int .i64 c), .iface 98 (.pointer (some t))] w fun ev w' => ev = .returned (.bool false) ∧ w' = ((w.alloc (.cells #[.pointer (some t)] 98)).alloc (.cells #[.pointer (some ⟨4, 98, none⟩), .pointer (some ⟨w.heap.size, 0, none⟩), .int .u64 150] 115)).alloc (.cells #[.pointer (some ⟨4, 98, none⟩), .pointer (some ⟨w.heap.size, 0, none⟩), .int .u64 150] 115) := by
  unfold ET at hg
  have h1 := ext_valueOf; have h2 := ext_type; have h3 := ext_isNil; have h4 := ext_kind; have h5 := ext_telem; have h6 := ext_implements; have h7 := ext_typeOf; have h8 := ext_assignable; have h9 := ext_velem
  have tO := typeOfE; have na := noAsE; have nu := noUnwrapE; have nus := noUnwrapsE
  have mA := methodAssignableTo
  have aE := assignableEA
  have f6 := valueOfPA
  have f7 := typePA
  have mK := methodKind
  have mE := methodElem
  have mI := methodImplements
  have k27 := kindPA
  have k25 := kindA
  have e27 := elemPA
  have i25 := implementsA
  have n8 := isNilPA ⟨w.heap.size, 0, none⟩ t ((w.alloc (.cells #[.pointer (some t)] 98)).alloc (.cells #[.pointer (some ⟨4, 98, none⟩), .pointer (some ⟨w.heap.size, 0, none⟩), .int .u64 150] 115)) (by simp)
  have hlt : 0 < w.heap.size := by
    rcases Nat.lt_or_ge 0 w.heap.size with h | h
    · exact h
    · simp [World.cell?, Array.getElem?_eq_none h] at hg
  have hg2 : ((w.alloc (.cells #[.pointer (some t)] 98)).alloc (.cells #[.pointer (some ⟨4, 98, none⟩), .pointer (some ⟨w.heap.size, 0, none⟩), .int .u64 150] 115)).cell? ⟨0, 0, none⟩ = some (.iface 221 (.agg #[.pointer (some ⟨4, 32, none⟩)])) := by
    rw [World.cell?_alloc_lt _ _ ⟨0, 0, none⟩ (by simp <;> omega), World.cell?_alloc_lt _ _ ⟨0, 0, none⟩ hlt]; exact hg
  go_enter Tryz.func26, Tryz.ntmps26
  go_wp2
  refine wp_loop_rounds 1 ?_
  rw [rounds_succ]
  go_wp2
  go_ret
  exact ⟨rfl, rfl⟩

set_option maxHeartbeats 4000000 in
/-- errors.As(an Errno, &at): it is not found. -/
theorem as_EI (c : Int) (t : Addr) (w : World) (hg : ET w) :
    Calls Tryz.prog 26 #[.iface 34 (.int .i64 c), .iface 99 (.pointer (some t))] w fun ev w' => ev = .returned (.bool false) ∧ w' = ((w.alloc (.cells #[.pointer (some t)] 99)).alloc (.cells #[.pointer (some ⟨4, 99, none⟩), .pointer (some ⟨w.heap.size, 0, none⟩), .int .u64 150] 115)).alloc (.cells #[.pointer (some ⟨4, 99, none⟩), .pointer (some ⟨w.heap.size, 0, none⟩), .int .u64 150] 115) := by
  unfold ET at hg
  have h1 := ext_valueOf; have h2 := ext_type; have h3 := ext_isNil; have h4 := ext_kind; have h5 := ext_telem; have h6 := ext_implements; have h7 := ext_typeOf; have h8 := ext_assignable; have h9 := ext_velem
  have tO := typeOfE; have na := noAsE; have nu := noUnwrapE; have nus := noUnwrapsE
  have mA := methodAssignableTo
  have aE := assignableEI
  have f6 := valueOfPI
  have f7 := typePI
  have mK := methodKind
  have mE := methodElem
  have mI := methodImplements
  have k27 := kindPI
  have k25 := kindI
  have e27 := elemPI
  have i25 := implementsI
  have n8 := isNilPI ⟨w.heap.size, 0, none⟩ t ((w.alloc (.cells #[.pointer (some t)] 99)).alloc (.cells #[.pointer (some ⟨4, 99, none⟩), .pointer (some ⟨w.heap.size, 0, none⟩), .int .u64 150] 115)) (by simp)
  have hlt : 0 < w.heap.size := by
    rcases Nat.lt_or_ge 0 w.heap.size with h | h
    · exact h
    · simp [World.cell?, Array.getElem?_eq_none h] at hg
  have hg2 : ((w.alloc (.cells #[.pointer (some t)] 99)).alloc (.cells #[.pointer (some ⟨4, 99, none⟩), .pointer (some ⟨w.heap.size, 0, none⟩), .int .u64 150] 115)).cell? ⟨0, 0, none⟩ = some (.iface 221 (.agg #[.pointer (some ⟨4, 32, none⟩)])) := by
    rw [World.cell?_alloc_lt _ _ ⟨0, 0, none⟩ (by simp <;> omega), World.cell?_alloc_lt _ _ ⟨0, 0, none⟩ hlt]; exact hg
  go_enter Tryz.func26, Tryz.ntmps26
  go_wp2
  refine wp_loop_rounds 1 ?_
  rw [rounds_succ]
  go_wp2
  go_ret
  exact ⟨rfl, rfl⟩
end Go.Proofs.YtdfnomglkibfbaaGreatDoor

namespace Go.Proofs.YtdfnomglkibfbaaGreatDoor
open Go.RowKit Go.Extern.Stop Go.Stop Go.Extern
set_option linter.unusedVariables false

/-- an error: links (true: an api.In, false: an api.At; with its number), the outermost first; at the bottom an api.Errno. -/
def errV : List (Bool × Int) → Int → Value
  | [], c => .iface 34 (.int .i64 c)
  | (false, n) :: l, c => .iface 93 (.agg #[.int .i64 n, errV l c])
  | (true, n) :: l, c => .iface 95 (.agg #[.int .i64 n, errV l c])
/-- the first link of a kind, and what it wraps. -/
def findK (k : Bool) : List (Bool × Int) → Option (Int × List (Bool × Int))
  | [] => none
  | (j, n) :: l => if j = k then some (n, l) else findK k l
theorem errV_one (l : List (Bool × Int)) (c : Int) : (errV l c).oneCell' = true := by
  rcases l with _ | ⟨⟨k, n⟩, l⟩
  · rfl
  · cases k <;> rfl
theorem errV_notnil (l : List (Bool × Int)) (c : Int) (w : World) : (binOp .eql 32 (errV l c) .nilIface).run Tryz.prog w = .ok (.bool false) w := by
  rcases l with _ | ⟨⟨k, n⟩, l⟩
  · exact run_eql_held_nil _ _ _ _ (by kernel_rfl)
  · cases k
    · exact run_eql_held_nil _ _ _ _ (by kernel_rfl)
    · exact run_eql_held_nil _ _ _ _ (by kernel_rfl)
theorem errV_guard (l : List (Bool × Int)) (c : Int) (x : Operand) (w : World) : (eqGuard .eql 32 x (.const .nilIface) (errV l c) .nilIface).run Tryz.prog w = .ok () w := by
  rcases l with _ | ⟨⟨k, n⟩, l⟩
  · rfl
  · cases k <;> rfl

theorem valueOfA (x y : Value) (w : World) : (ReflectliteValue.unpack (.iface 93 (.agg #[x, y]))).run Tryz.prog w
    = .ok (.agg #[.pointer (some ⟨4, 93, none⟩), .pointer (some ⟨w.heap.size, 0, none⟩), .int .u64 153]) (w.alloc (.cells #[x, y] 93)) := by kernel_rfl
theorem noAsA (v : Value) (x : TypeId) (w : World) : (Instr.typeAssert (.iface 93 v) x 226 true).run Tryz.prog w = .ok (.tuple #[.nilIface, .bool false]) w := run_typeAssert_lacksB Tryz.underlying226 (by kernel_rfl) (by kernel_rfl) v x w
theorem unwrapsA (v : Value) (x : TypeId) (w : World) : (Instr.typeAssert (.iface 93 v) x 229 true).run Tryz.prog w = .ok (.tuple #[.iface 93 v, .bool true]) w := run_typeAssert_hasB Tryz.underlying229 (by kernel_rfl) v x w
theorem methodUnwrapA (v : Value) (w : World) : (Go.method 437 93 v "Unwrap").run Tryz.prog w = .ok (187, v) w := by kernel_rfl
theorem unwrapA (x y : Value) (w : World) : Calls Tryz.prog 187 #[.agg #[x, y]] w fun e w' => e = .returned y ∧ w' = w.alloc (.cells #[x, y] 93) := by
  go_enter Tryz.func187, Tryz.ntmps187
  go_wp2
  go_ret
  exact ⟨rfl, rfl⟩
theorem sizeA (w : World) : (sizeOf 93).run Tryz.prog w = .ok 2 w := by kernel_rfl
theorem setA (tb tq : Nat) (b : Nat) (x y u v : Value) (W : World) (hx : W.cell? ⟨b, 0, none⟩ = some x) (hy : W.cell? ⟨b, 1, none⟩ = some y) (h0 : W.cell? ⟨tb, tq, none⟩ = some u) (h1 : W.cell? ⟨tb, tq + 1, none⟩ = some v) (f0 : W.frozen? ⟨tb, tq, none⟩ = false) (f1 : W.frozen? ⟨tb, tq + 1, none⟩ = false) (ox : x.oneCell' = true) (oy : y.oneCell' = true) :
    (ReflectliteValue.set #[.agg #[.pointer (some ⟨4, 93, none⟩), .pointer (some ⟨tb, tq, none⟩), .int .u64 409], .agg #[.pointer (some ⟨4, 93, none⟩), .pointer (some ⟨b, 0, none⟩), .int .u64 153]]).run Tryz.prog W
      = .ok (.tuple #[]) ((W.setCell ⟨tb, tq, none⟩ x).setCell ⟨tb, tq + 1, none⟩ y) := by
  have hc : (W.setCell ⟨tb, tq, none⟩ x).cell? ⟨tb, tq + 1, none⟩ = some v := by rw [World.cell?_setCell_other _ _ _ _ (by simp)]; exact h1
  rw [rls _ _ Tryz.prog W 93 93 ⟨tb, tq, none⟩ ⟨b, 0, none⟩ 409 153 (partsAA ⟨tb, tq, none⟩ W) (partsA ⟨b, 0, none⟩ W) (by decide) (.agg #[x, y]) (by simp [loadVar, isAgg, underlying, Tryz.underlying93, loadCells, loadCellsFrom, Addr.add, hx, hy, Result.andThen]) (directA W)]
  simp [storeVar, Value.cells, storeCells, Addr.add, Result.andThen]
  rw [run_store Tryz.prog W ⟨tb, tq, none⟩ _ _ ox]
  simp [h0, f0]
  rw [run_store Tryz.prog _ ⟨tb, tq + 1, none⟩ _ _ oy]
  simp [hc, f1]

theorem valueOfI (x y : Value) (w : World) : (ReflectliteValue.unpack (.iface 95 (.agg #[x, y]))).run Tryz.prog w
    = .ok (.agg #[.pointer (some ⟨4, 95, none⟩), .pointer (some ⟨w.heap.size, 0, none⟩), .int .u64 153]) (w.alloc (.cells #[x, y] 95)) := by kernel_rfl
theorem noAsI (v : Value) (x : TypeId) (w : World) : (Instr.typeAssert (.iface 95 v) x 226 true).run Tryz.prog w = .ok (.tuple #[.nilIface, .bool false]) w := run_typeAssert_lacksB Tryz.underlying226 (by kernel_rfl) (by kernel_rfl) v x w
theorem unwrapsI (v : Value) (x : TypeId) (w : World) : (Instr.typeAssert (.iface 95 v) x 229 true).run Tryz.prog w = .ok (.tuple #[.iface 95 v, .bool true]) w := run_typeAssert_hasB Tryz.underlying229 (by kernel_rfl) v x w
theorem methodUnwrapI (v : Value) (w : World) : (Go.method 437 95 v "Unwrap").run Tryz.prog w = .ok (189, v) w := by kernel_rfl
theorem unwrapI (x y : Value) (w : World) : Calls Tryz.prog 189 #[.agg #[x, y]] w fun e w' => e = .returned y ∧ w' = w.alloc (.cells #[x, y] 95) := by
  go_enter Tryz.func189, Tryz.ntmps189
  go_wp2
  go_ret
  exact ⟨rfl, rfl⟩
theorem sizeI (w : World) : (sizeOf 95).run Tryz.prog w = .ok 2 w := by kernel_rfl
theorem setI (tb tq : Nat) (b : Nat) (x y u v : Value) (W : World) (hx : W.cell? ⟨b, 0, none⟩ = some x) (hy : W.cell? ⟨b, 1, none⟩ = some y) (h0 : W.cell? ⟨tb, tq, none⟩ = some u) (h1 : W.cell? ⟨tb, tq + 1, none⟩ = some v) (f0 : W.frozen? ⟨tb, tq, none⟩ = false) (f1 : W.frozen? ⟨tb, tq + 1, none⟩ = false) (ox : x.oneCell' = true) (oy : y.oneCell' = true) :
    (ReflectliteValue.set #[.agg #[.pointer (some ⟨4, 95, none⟩), .pointer (some ⟨tb, tq, none⟩), .int .u64 409], .agg #[.pointer (some ⟨4, 95, none⟩), .pointer (some ⟨b, 0, none⟩), .int .u64 153]]).run Tryz.prog W
      = .ok (.tuple #[]) ((W.setCell ⟨tb, tq, none⟩ x).setCell ⟨tb, tq + 1, none⟩ y) := by
  have hc : (W.setCell ⟨tb, tq, none⟩ x).cell? ⟨tb, tq + 1, none⟩ = some v := by rw [World.cell?_setCell_other _ _ _ _ (by simp)]; exact h1
  rw [rls _ _ Tryz.prog W 95 95 ⟨tb, tq, none⟩ ⟨b, 0, none⟩ 409 153 (partsAI ⟨tb, tq, none⟩ W) (partsI ⟨b, 0, none⟩ W) (by decide) (.agg #[x, y]) (by simp [loadVar, isAgg, underlying, Tryz.underlying95, loadCells, loadCellsFrom, Addr.add, hx, hy, Result.andThen]) (directI W)]
  simp [storeVar, Value.cells, storeCells, Addr.add, Result.andThen]
  rw [run_store Tryz.prog W ⟨tb, tq, none⟩ _ _ ox]
  simp [h0, f0]
  rw [run_store Tryz.prog _ ⟨tb, tq + 1, none⟩ _ _ oy]
  simp [hc, f1]
theorem assignableAE (w : World) : (ReflectliteType.relation "AssignableTo" ReflectliteType.assignableTo #[.agg #[.pointer (some ⟨4, 93, none⟩)], .iface 221 (.agg #[.pointer (some ⟨4, 34, none⟩)])]).run Tryz.prog w = .ok (.bool false) w := by kernel_rfl
theorem assignableAI (w : World) : (ReflectliteType.relation "AssignableTo" ReflectliteType.assignableTo #[.agg #[.pointer (some ⟨4, 93, none⟩)], .iface 221 (.agg #[.pointer (some ⟨4, 95, none⟩)])]).run Tryz.prog w = .ok (.bool false) w := by kernel_rfl
theorem assignableIE (w : World) : (ReflectliteType.relation "AssignableTo" ReflectliteType.assignableTo #[.agg #[.pointer (some ⟨4, 95, none⟩)], .iface 221 (.agg #[.pointer (some ⟨4, 34, none⟩)])]).run Tryz.prog w = .ok (.bool false) w := by kernel_rfl
theorem assignableIA (w : World) : (ReflectliteType.relation "AssignableTo" ReflectliteType.assignableTo #[.agg #[.pointer (some ⟨4, 95, none⟩)], .iface 221 (.agg #[.pointer (some ⟨4, 93, none⟩)])]).run Tryz.prog w = .ok (.bool false) w := by kernel_rfl
end Go.Proofs.YtdfnomglkibfbaaGreatDoor


namespace Go.Proofs.YtdfnomglkibfbaaGreatDoor
open Go.RowKit Go.Extern.Stop Go.Stop Go.Extern
set_option linter.unusedVariables false
set_option linter.unusedSimpArgs false

set_option maxRecDepth 100000 in
set_option maxHeartbeats 8000000 in
/-- errors.As(a chain, &e): its number is found. -/
theorem chain_E (l : List (Bool × Int)) (c : Int) (t : Addr) (old : Value) (w : World) (hg : ET w) (ht0 : w.cell? t = some old) (hf0 : w.frozen? t = false) :
    Calls Tryz.prog 26 #[errV l c, .iface 97 (.pointer (some t))] w fun ev w' => ev = .returned (.bool true) ∧ ∃ w1, Below w.heap.size w w1 ∧ w' = w1.setCell t (.int .i64 c) := by
  have hlt := ET_lt hg
  unfold ET at hg
  have h1 := ext_valueOf; have h2 := ext_type; have h3 := ext_isNil; have h4 := ext_kind; have h5 := ext_telem; have h6 := ext_implements; have h7 := ext_typeOf; have h8 := ext_assignable; have h9 := ext_velem; have h10 := ext_set
  have mA := methodAssignableTo
  have f6 := valueOfPE
  have f7 := typePE
  have mK := methodKind
  have mE := methodElem
  have mI := methodImplements
  have k27 := kindPE
  have k25 := kindE
  have e27 := elemPE
  have i25 := implementsE
  have n8 := isNilPE ⟨w.heap.size, 0, none⟩ t ((w.alloc (.cells #[.pointer (some t)] 97)).alloc (.cells #[.pointer (some ⟨4, 97, none⟩), .pointer (some ⟨w.heap.size, 0, none⟩), .int .u64 150] 115)) (by simp)
  have hg2 : ((w.alloc (.cells #[.pointer (some t)] 97)).alloc (.cells #[.pointer (some ⟨4, 97, none⟩), .pointer (some ⟨w.heap.size, 0, none⟩), .int .u64 150] 115)).cell? ⟨0, 0, none⟩ = some (.iface 221 (.agg #[.pointer (some ⟨4, 32, none⟩)])) := by
    rw [World.cell?_alloc_lt _ _ ⟨0, 0, none⟩ (by simp <;> omega), World.cell?_alloc_lt _ _ ⟨0, 0, none⟩ hlt]; exact hg
  have htl : t.block < w.heap.size := by
    rcases Nat.lt_or_ge t.block w.heap.size with h | h
    · exact h
    · simp [World.cell?, Array.getElem?_eq_none h] at ht0
  have enn := errV_notnil l c
  have egd := errV_guard l c
  go_enter Tryz.func26, Tryz.ntmps26
  go_wp2
  go_loopg [0] l.length (fun k x wx => ∃ l', x = errV l' c ∧ k = l'.length ∧ Below (w.heap.size + 3) (((w.alloc (.cells #[.pointer (some t)] 97)).alloc (.cells #[.pointer (some ⟨4, 97, none⟩), .pointer (some ⟨w.heap.size, 0, none⟩), .int .u64 150] 115)).alloc (.cells #[.pointer (some ⟨4, 97, none⟩), .pointer (some ⟨w.heap.size, 0, none⟩), .int .u64 150] 115)) wx)
  case atStart => exact ⟨l, rfl, rfl, Below.refl _ _⟩
  case round =>
    obtain ⟨l', rfl, rfl, hB⟩ := hrel
    have hs : w.heap.size + 3 ≤ wr.heap.size := by have := hB.size; simp at this; omega
    have x0 : wr.cell? ⟨w.heap.size, 0, none⟩ = some (.pointer (some t)) := by rw [hB.cell (p := ⟨w.heap.size, 0, none⟩) (by simp)]; simp [go_sem, World.cell?_alloc_past]
    have y0 : wr.cell? ⟨w.heap.size + 1 + 1, 0, none⟩ = some (.pointer (some ⟨4, 97, none⟩)) := by rw [hB.cell (p := ⟨w.heap.size + 1 + 1, 0, none⟩) (by simp)]; simp [go_sem, World.cell?_alloc_past]
    have y1 : wr.cell? ⟨w.heap.size + 1 + 1, 1, none⟩ = some (.pointer (some ⟨w.heap.size, 0, none⟩)) := by rw [hB.cell (p := ⟨w.heap.size + 1 + 1, 1, none⟩) (by simp)]; simp [go_sem, World.cell?_alloc_past]
    have y2 : wr.cell? ⟨w.heap.size + 1 + 1, 2, none⟩ = some (.int .u64 150) := by rw [hB.cell (p := ⟨w.heap.size + 1 + 1, 2, none⟩) (by simp)]; simp [go_sem, World.cell?_alloc_past]
    have tc : wr.cell? t = some old := by
      rw [hB.cell (p := t) (by omega), World.cell?_alloc_lt _ _ t (by simp; omega), World.cell?_alloc_lt _ _ t (by simp; omega), World.cell?_alloc_lt _ _ t htl]; exact ht0
    have tf : wr.frozen? t = false := by
      rw [hB.frozen (p := t) (by omega), World.frozen?_alloc_old _ _ t (by simp; omega), World.frozen?_alloc_old _ _ t (by simp; omega), World.frozen?_alloc_old _ _ t (by omega)]; exact hf0
    have hBw : Below w.heap.size w wr := (below_new (below_new (below_new (Below.refl _ _) _) _) _).trans (hB.mono (by omega))
    rcases l' with _ | ⟨⟨k, n⟩, rest⟩
    · simp only [errV]
      have tO := typeOfE
      have aE := assignableE
      have vE := valueOfE
      have el := elemVE ⟨w.heap.size, 0, none⟩ t wr x0
      have st := setE t ⟨wr.heap.size, 0, none⟩ c old (wr.alloc (.cells #[.int .i64 c] 34)) (by simp) (by rw [World.cell?_alloc_lt _ _ t (by omega)]; exact tc) (by rw [World.frozen?_alloc_old _ _ t (by omega)]; exact tf)
      go_wp2
      go_ret
      exact ⟨rfl, _, below_new hBw _, rfl⟩
    · have enr := errV_notnil rest c
      have egr := errV_guard rest c
      cases k
      · simp only [errV]
        have tO := typeOfA
        have aE := assignableAE
        have nA := noAsA
        have uA := unwrapsA
        have mU := methodUnwrapA
        go_wp2_with (go_at_call 187; refine (unwrapA _ _ _).mono ?_; rintro e w' ⟨rfl, rfl⟩)
        go_roundg rest.length
        case measure => simp
        case rel => exact ⟨rest, rfl, rfl, hB.alloc (by omega) _⟩
      · simp only [errV]
        have tO := typeOfI
        have aE := assignableIE
        have nA := noAsI
        have uA := unwrapsI
        have mU := methodUnwrapI
        go_wp2_with (go_at_call 189; refine (unwrapI _ _ _).mono ?_; rintro e w' ⟨rfl, rfl⟩)
        go_roundg rest.length
        case measure => simp
        case rel => exact ⟨rest, rfl, rfl, hB.alloc (by omega) _⟩
end Go.Proofs.YtdfnomglkibfbaaGreatDoor

namespace Go.Proofs.YtdfnomglkibfbaaGreatDoor.Vf
open Go.RowKit
set_option linter.unusedVariables false
set_option linter.unusedSimpArgs false
set_option maxRecDepth 100000
theorem isAt_any (x c e : Int) (he : (e == 0) = false) (w : World) (hg : ET w) : Calls Tryz.prog 25 #[atE x c, .int .i64 e] w fun ev w' => ev = .returned (.bool (c == e)) ∧ Below w.heap.size w w' := by
  have hlt := ET_lt hg
  have b1 : Below w.heap.size w (w.alloc (.cells #[.int .i64 0] 34)) := (Below.refl _ w).alloc (Nat.le_refl _) _
  have hgA : ET (w.alloc (.cells #[.int .i64 0] 34)) := ET_below hg b1
  have cA : Hid (Calls Tryz.prog 26 #[atE x c, .iface 97 (.pointer (some ⟨w.heap.size, 0, none⟩))] (w.alloc (.cells #[.int .i64 0] 34)) fun ev w' => ev = .returned (.bool true) ∧ w'.cell? ⟨w.heap.size, 0, none⟩ = some (.int .i64 c) ∧ Below w.heap.size w w') := (chain_E [(false, x)] c ⟨w.heap.size, 0, none⟩ (.int .i64 0) _ hgA (by simp [go_sem]) (by simp [go_sem])).mono (fun ev w' hh => by
    obtain ⟨h1, w1, h2, rfl⟩ := hh
    have s1 : w.heap.size < (w.alloc (.cells #[.int .i64 0] 34)).heap.size := by simp
    have k0 : w1.cell? ⟨w.heap.size, 0, none⟩ = some (.int .i64 0) := by
      rw [h2.cell (p := ⟨w.heap.size, 0, none⟩) s1]; simp [go_sem]
    exact ⟨h1, by simp [go_sem, k0], (b1.trans (h2.mono b1.size)).setCell (p := ⟨w.heap.size, 0, none⟩) (Nat.le_refl _) _⟩)
  unfold atE at cA
  unfold atE
  clear hg hgA b1 hlt
  go_enter Tryz.func25, Tryz.ntmps25
  go_wp2_with fail
  with_reducible refine Calls.mono cA.out ?_
  rintro ev w' ⟨rfl, k0, bb⟩
  clear cA
  go_wp2
  go_ret
  exact ⟨rfl, bb⟩
end Go.Proofs.YtdfnomglkibfbaaGreatDoor.Vf

namespace Go.Proofs.YtdfnomglkibfbaaGreatDoor.Vf
open Go.RowKit
set_option linter.unusedVariables false
set_option linter.unusedSimpArgs false
set_option maxRecDepth 100000
set_option maxHeartbeats 4000000 in
theorem sameInts_any (n : Nat) (hn : n ≤ 65536) (a b ca cb : Nat) (F : Nat → Int) (w : World) (ha : ∀ k, k < n → w.cell? ⟨a, k, none⟩ = some (.int .i64 (F k))) (hb : ∀ k, k < n → w.cell? ⟨b, k, none⟩ = some (.int .i64 (F k))) : Calls Tryz.prog 16 #[.slice (some ⟨a, 0, none⟩) n ca, .slice (some ⟨b, 0, none⟩) n cb] w fun e w' => e = .returned (.bool true) ∧ Below w.heap.size w w' := by
  have haH : Hid (∀ k, k < n → w.cell? ⟨a, k, none⟩ = some (.int .i64 (F k))) := ha
  have hbH : Hid (∀ k, k < n → w.cell? ⟨b, k, none⟩ = some (.int .i64 (F k))) := hb
  clear ha hb
  go_enter Tryz.func16, Tryz.ntmps16
  go_wp2_with fail
  go_loopw [5] (fun v5 wr => ∃ k m : Nat, v5 = .int .i64 (k : Int) ∧ k ≤ n ∧ wr = w.drewN m) (fun v5 _ => n - (intOf v5).toNat)
  case atStart => exact ⟨0, 0, rfl, Nat.zero_le _, rfl⟩
  case round =>
    obtain ⟨k, m, rfl, hkn, rfl⟩ := hrel
    have k0 : (0 : Int) ≤ (k : Int) := by omega
    by_cases hk : k < n
    · have kI : (k : Int) < (n : Int) := by omega
      have kw : IntKind.i64.wrap ((k : Int) + 1) = ((k + 1 : Nat) : Int) := IntWalk.i64_in _ (by omega)
      have c1 : w.cell? ⟨a, 0 + k, none⟩ = some (.int .i64 (F k)) := by rw [Nat.zero_add]; exact haH.out k hk
      have c2 : w.cell? ⟨b, 0 + k, none⟩ = some (.int .i64 (F k)) := by rw [Nat.zero_add]; exact hbH.out k hk
      have c3 := haH.out k hk
      have c4 := hbH.out k hk
      go_wp2_with fail
      go_quiet (fail)
      go_wp2_with fail
      exact ⟨⟨k + 1, m + nq, by first | rfl | (rw [kw]), hk, by first | rfl | (rw [World.drewN_drewN])⟩, by first | (simp [intOf]; done) | (simp [intOf]; omega)⟩
    · have kI : ¬ (k : Int) < (n : Int) := by omega
      go_wp2_with fail
      go_ret
      exact ⟨rfl, bl_drewN (Below.refl _ w) m⟩
/-- a program that passes. -/
def smP (s n : Nat) : PrH := ⟨⟨#[99, 112, 117]⟩, ⟨#[116]⟩, 1, 0, ⟨none, 0, 0⟩, ⟨some ⟨s + 1, 0, none⟩, 1, 1⟩, ⟨some ⟨s + 2, 0, none⟩, 1, 1⟩, ⟨none, 0, 0⟩, ⟨none, 0, 0⟩, ⟨none, 0, 0⟩, ⟨none, 0, 0⟩, ⟨none, 0, 0⟩, ⟨some ⟨s + 3, 0, none⟩, n, 2⟩, ⟨some ⟨s + 4, 0, none⟩, 3, 3⟩⟩
def smL (l : List InP) : PrL := ⟨[], [(4, ⟨#[118]⟩)], [⟨#[109]⟩], [], [], [], l, [⟨14, 0, 0⟩, ⟨23, 0, 0⟩, ⟨24, 0, 0⟩]⟩
def sm2 : List InP := [⟨1, 0, 0⟩, ⟨13, 0, 0⟩]
def sm1 : List InP := [⟨1, 0, 0⟩]
theorem smN (s : Nat) : PrN (smP s 2) (smL sm2) := by
  refine ⟨rfl, rfl, rfl, rfl, rfl, rfl, rfl, rfl, ?_, ?_, ?_, ?_, ?_, ?_, ?_, ?_⟩ <;> simp [smL, sm2]
theorem smN1 (s : Nat) : PrN (smP s 1) (smL sm1) := by
  refine ⟨rfl, rfl, rfl, rfl, rfl, rfl, rfl, rfl, ?_, ?_, ?_, ?_, ?_, ?_, ?_, ?_⟩ <;> simp [smL, sm1]
theorem smC {l : List InP} (hl : l = sm2 ∨ l = sm1) : ∀ (j : Nat) (t : InP), l[j]? = some t → t.c < 256 := by
  intro j t h
  have hm := List.mem_of_getElem? h
  rcases hl with rfl | rfl
  · simp [sm2] at hm; rcases hm with rfl | rfl <;> decide
  · simp [sm1] at hm; subst hm; decide
theorem smO (l : List InP) : ∀ (j : Nat) (t : InP), (smL l).output[j]? = some t → t.c < 256 := by
  intro j t h
  have hm := List.mem_of_getElem? h
  simp [smL] at hm
  rcases hm with rfl | rfl | rfl <;> decide
/-- what lies in memory of it. -/
def SmW (w W : World) : Prop := Below w.heap.size w W ∧ PrIn W (smP w.heap.size 2) (smL sm2)
theorem PrIn.one {W : World} {s : Nat} (h : PrIn W (smP s 2) (smL sm2)) : PrIn W (smP s 1) (smL sm1) := by
  refine ⟨h.groups, h.accs, h.alias, h.names, h.texts, h.lists, ?_, h.output⟩
  rcases h.filter with q | ⟨b, off, h1, h2, h3⟩
  · simp [smL, sm2] at q
  · refine Or.inr ⟨b, off, h1, h2, fun i t ht => h3 i t ?_⟩
    have hi : i = 0 := by
      have := (List.getElem?_eq_some_iff.1 ht).1
      simp [smL, sm1] at this
      exact this
    subst hi
    simpa [smL, sm1, sm2] using ht
theorem sm_mem (w : World) (o : Obj) : SmW w (((((w.alloc o).alloc (.cells #[.int .u8 4, .string ⟨#[118]⟩] 55)).alloc (.cells #[.string ⟨#[109]⟩] 9)).alloc (.cells #[.int .u8 1, .int .i64 0, .int .i64 0, .int .u8 13, .int .i64 0, .int .i64 0] 59)).alloc (.cells #[.int .u8 14, .int .i64 0, .int .i64 0, .int .u8 23, .int .i64 0, .int .i64 0, .int .u8 24, .int .i64 0, .int .i64 0] 59)) := by
  have b : Below w.heap.size w (((((w.alloc o).alloc (.cells #[.int .u8 4, .string ⟨#[118]⟩] 55)).alloc (.cells #[.string ⟨#[109]⟩] 9)).alloc (.cells #[.int .u8 1, .int .i64 0, .int .i64 0, .int .u8 13, .int .i64 0, .int .i64 0] 59)).alloc (.cells #[.int .u8 14, .int .i64 0, .int .i64 0, .int .u8 23, .int .i64 0, .int .i64 0, .int .u8 24, .int .i64 0, .int .i64 0] 59)) := ((((((Below.refl _ w).alloc (Nat.le_refl _) o).alloc (by simp) _).alloc (by simp; omega) _).alloc (by simp; omega) _).alloc (by simp; omega) _)
  have z : (((((w.alloc o).alloc (.cells #[.int .u8 4, .string ⟨#[118]⟩] 55)).alloc (.cells #[.string ⟨#[109]⟩] 9)).alloc (.cells #[.int .u8 1, .int .i64 0, .int .i64 0, .int .u8 13, .int .i64 0, .int .i64 0] 59)).alloc (.cells #[.int .u8 14, .int .i64 0, .int .i64 0, .int .u8 23, .int .i64 0, .int .i64 0, .int .u8 24, .int .i64 0, .int .i64 0] 59)).heap.size = w.heap.size + 5 := by simp
  refine ⟨b, Or.inl rfl, Or.inr ⟨w.heap.size + 1, 0, rfl, by rw [z]; omega, fun i t ht => ?_⟩, Or.inr ⟨w.heap.size + 2, 0, rfl, by rw [z]; omega, fun i t ht => ?_⟩, Or.inl rfl, Or.inl rfl, Or.inl rfl, Or.inr ⟨w.heap.size + 3, 0, rfl, by rw [z]; omega, fun i t ht => ?_⟩, Or.inr ⟨w.heap.size + 4, 0, rfl, by rw [z]; omega, fun i t ht => ?_⟩⟩
  · match i, ht with
    | 0, ht => simp [smL] at ht; subst ht; simp [go_sem]
    | i + 1, ht => simp [smL] at ht
  · match i, ht with
    | 0, ht => simp [smL] at ht; subst ht; simp [go_sem]
    | i + 1, ht => simp [smL] at ht
  · match i, ht with
    | 0, ht => simp [smL, sm2] at ht; subst ht; simp [go_sem]
    | 1, ht => simp [smL, sm2] at ht; subst ht; simp [go_sem]
    | i + 2, ht => simp [smL, sm2] at ht
  · match i, ht with
    | 0, ht => simp [smL] at ht; subst ht; simp [go_sem]
    | 1, ht => simp [smL] at ht; subst ht; simp [go_sem]
    | 2, ht => simp [smL] at ht; subst ht; simp [go_sem]
    | i + 3, ht => simp [smL] at ht
set_option maxHeartbeats 4000000 in
theorem small_any (w : World) : Calls Tryz.prog 22 #[] w fun e w' => e = .returned (smP w.heap.size 2).v ∧ SmW w w' := by
  have hm : Hid (∀ o, SmW w (((((w.alloc o).alloc (.cells #[.int .u8 4, .string ⟨#[118]⟩] 55)).alloc (.cells #[.string ⟨#[109]⟩] 9)).alloc (.cells #[.int .u8 1, .int .i64 0, .int .i64 0, .int .u8 13, .int .i64 0, .int .i64 0] 59)).alloc (.cells #[.int .u8 14, .int .i64 0, .int .i64 0, .int .u8 23, .int .i64 0, .int .i64 0, .int .u8 24, .int .i64 0, .int .i64 0] 59))) := sm_mem w
  unfold smP PrH.v
  go_enter Tryz.func22, Tryz.ntmps22
  go_wp2_with fail
  go_returns
  exact ⟨rfl, hm.out _⟩
theorem sm_res (s : Nat) : resP (smP s 2) (smL sm2) = none := by kernel_rfl
theorem sm_res1 (s : Nat) : resP (smP s 1) (smL sm1) = some (193, some 1) := by kernel_rfl
theorem sm_hgt : (hgtP sm2 0 m0 []).1 = [0, 1] := by kernel_rfl
end Go.Proofs.YtdfnomglkibfbaaGreatDoor.Vf

namespace Go.Proofs.YtdfnomglkibfbaaGreatDoor.Vf
open Go.RowKit
set_option linter.unusedVariables false
set_option linter.unusedSimpArgs false
set_option maxRecDepth 100000
/-- the small program in a box of one's own. -/
structure SB (w : World) (B n : Nat) (W : World) : Prop where
  m : SmW w W
  l : w.heap.size ≤ B
  lt : B < W.heap.size
  f : W.frozen? ⟨B, 12, none⟩ = false
  x0 : W.cell? ⟨B, 0, none⟩ = some (.string ⟨#[99, 112, 117]⟩)
  x1 : W.cell? ⟨B, 1, none⟩ = some (.string ⟨#[116]⟩)
  x2 : W.cell? ⟨B, 2, none⟩ = some (.int .i64 1)
  x3 : W.cell? ⟨B, 3, none⟩ = some (.int .i64 0)
  x4 : W.cell? ⟨B, 4, none⟩ = some (.slice none 0 0)
  x5 : W.cell? ⟨B, 5, none⟩ = some (.slice (some ⟨w.heap.size + 1, 0, none⟩) 1 1)
  x6 : W.cell? ⟨B, 6, none⟩ = some (.slice (some ⟨w.heap.size + 2, 0, none⟩) 1 1)
  x7 : W.cell? ⟨B, 7, none⟩ = some (.slice none 0 0)
  x8 : W.cell? ⟨B, 8, none⟩ = some (.slice none 0 0)
  x9 : W.cell? ⟨B, 9, none⟩ = some (.slice none 0 0)
  x10 : W.cell? ⟨B, 10, none⟩ = some (.slice none 0 0)
  x11 : W.cell? ⟨B, 11, none⟩ = some (.slice none 0 0)
  x12 : W.cell? ⟨B, 12, none⟩ = some (.slice (some ⟨w.heap.size + 3, 0, none⟩) n 2)
  x13 : W.cell? ⟨B, 13, none⟩ = some (.slice (some ⟨w.heap.size + 4, 0, none⟩) 3 3)

theorem SmW.below {w W W' : World} (h : SmW w W) (hb : Below W.heap.size W W') : SmW w W' := ⟨h.1.trans (hb.mono h.1.size), h.2.below hb (Nat.le_refl _)⟩
theorem SB.below {w W W' : World} {B n : Nat} (h : SB w B n W) (hb : Below W.heap.size W W') : SB w B n W' := by
  have e : ∀ k, W'.cell? ⟨B, k, none⟩ = W.cell? ⟨B, k, none⟩ := fun k => hb.cell (p := ⟨B, k, none⟩) h.lt
  exact ⟨h.m.below hb, h.l, Nat.lt_of_lt_of_le h.lt hb.size, by rw [hb.frozen (p := ⟨B, 12, none⟩) h.lt]; exact h.f, by rw [e]; exact h.x0, by rw [e]; exact h.x1, by rw [e]; exact h.x2, by rw [e]; exact h.x3, by rw [e]; exact h.x4, by rw [e]; exact h.x5, by rw [e]; exact h.x6, by rw [e]; exact h.x7, by rw [e]; exact h.x8, by rw [e]; exact h.x9, by rw [e]; exact h.x10, by rw [e]; exact h.x11, by rw [e]; exact h.x12, by rw [e]; exact h.x13⟩
theorem SB.new {w W : World} (h : SmW w W) : SB w W.heap.size 2 (W.alloc (.cells #[.string ⟨#[99, 112, 117]⟩, .string ⟨#[116]⟩, .int .i64 1, .int .i64 0, .slice none 0 0, .slice (some ⟨w.heap.size + 1, 0, none⟩) 1 1, .slice (some ⟨w.heap.size + 2, 0, none⟩) 1 1, .slice none 0 0, .slice none 0 0, .slice none 0 0, .slice none 0 0, .slice none 0 0, .slice (some ⟨w.heap.size + 3, 0, none⟩) 2 2, .slice (some ⟨w.heap.size + 4, 0, none⟩) 3 3] 28)) := by
  refine ⟨h.below ((Below.refl _ _).alloc (Nat.le_refl _) _), h.1.size, by simp, ?_, ?_, ?_, ?_, ?_, ?_, ?_, ?_, ?_, ?_, ?_, ?_, ?_, ?_, ?_⟩ <;> simp [go_sem]
theorem SB.cut {w W V : World} (hm : SmW w V) (hV : Below V.heap.size V W) (h : SB w V.heap.size 2 W) : SB w V.heap.size 1 (W.setCell ⟨V.heap.size, 12, none⟩ (.slice (some ⟨w.heap.size + 3, 0, none⟩) 1 2)) := by
  have b : Below V.heap.size V (W.setCell ⟨V.heap.size, 12, none⟩ (.slice (some ⟨w.heap.size + 3, 0, none⟩) 1 2)) := hV.setCell (p := ⟨V.heap.size, 12, none⟩) (Nat.le_refl _) _
  refine ⟨hm.below b, h.l, by simpa using h.lt, ?_, ?_, ?_, ?_, ?_, ?_, ?_, ?_, ?_, ?_, ?_, ?_, ?_, ?_, ?_⟩ <;> simp [go_sem, h.f, h.x0, h.x1, h.x2, h.x3, h.x4, h.x5, h.x6, h.x7, h.x8, h.x9, h.x10, h.x11, h.x12, h.x13]
set_option maxHeartbeats 8000000 in
theorem live_any (w : World) (hU : UT w) (hR : RT w) (hE : ET w) : Calls Tryz.prog 8 #[] w fun e w' => e = .returned (.bool true) ∧ Below w.heap.size w w' := by
  have c1 : Hid (Calls Tryz.prog 22 #[] w fun e w' => e = .returned (.agg #[.string ⟨#[99, 112, 117]⟩, .string ⟨#[116]⟩, .int .i64 1, .int .i64 0, .slice none 0 0, .slice (some ⟨w.heap.size + 1, 0, none⟩) 1 1, .slice (some ⟨w.heap.size + 2, 0, none⟩) 1 1, .slice none 0 0, .slice none 0 0, .slice none 0 0, .slice none 0 0, .slice none 0 0, .slice (some ⟨w.heap.size + 3, 0, none⟩) 2 2, .slice (some ⟨w.heap.size + 4, 0, none⟩) 3 3]) ∧ SmW w w') := small_any w
  have c2 : Hid (∀ W, SmW w W → Calls Tryz.prog 12 #[.agg #[.string ⟨#[99, 112, 117]⟩, .string ⟨#[116]⟩, .int .i64 1, .int .i64 0, .slice none 0 0, .slice (some ⟨w.heap.size + 1, 0, none⟩) 1 1, .slice (some ⟨w.heap.size + 2, 0, none⟩) 1 1, .slice none 0 0, .slice none 0 0, .slice none 0 0, .slice none 0 0, .slice none 0 0, .slice (some ⟨w.heap.size + 3, 0, none⟩) 2 2, .slice (some ⟨w.heap.size + 4, 0, none⟩) 3 3]] W fun e w' => (∃ b1, e = .returned (.tuple #[.slice (some ⟨b1, 0, none⟩) 2 2, .nilIface]) ∧ Hid (w'.cell? ⟨b1, 0, none⟩ = some (.int .i64 0) ∧ w'.cell? ⟨b1, 1, none⟩ = some (.int .i64 1) ∧ W.heap.size ≤ b1 ∧ b1 < w'.heap.size)) ∧ Below W.heap.size W w') := fun W hW => (heights_none (smP w.heap.size 2) (smL sm2) (smN _) (smC (Or.inl rfl)) (smO _) W (hU.below hW.1 (Nat.le_refl _)) (hR.below hW.1 hR.lt) hW.2 (sm_res _)).mono (fun e w' hh => by
    obtain ⟨⟨b1, l1, h1, h2⟩, h3⟩ := hh
    refine ⟨⟨b1, h1, ?_, ?_, l1, h2.1⟩, h3⟩
    · have := (h2.2 0 (by show 0 < 2; omega)).1
      rw [show (smL sm2).filter = sm2 from rfl, sm_hgt] at this
      exact this
    · have := (h2.2 1 (by show 1 < 2; omega)).1
      rw [show (smL sm2).filter = sm2 from rfl, sm_hgt] at this
      exact this)
  have c3 : Hid (∀ W, SmW w W → Calls Tryz.prog 10 #[.agg #[.string ⟨#[99, 112, 117]⟩, .string ⟨#[116]⟩, .int .i64 1, .int .i64 0, .slice none 0 0, .slice (some ⟨w.heap.size + 1, 0, none⟩) 1 1, .slice (some ⟨w.heap.size + 2, 0, none⟩) 1 1, .slice none 0 0, .slice none 0 0, .slice none 0 0, .slice none 0 0, .slice none 0 0, .slice (some ⟨w.heap.size + 3, 0, none⟩) 1 2, .slice (some ⟨w.heap.size + 4, 0, none⟩) 3 3]] W fun e w' => e = .returned (atE 1 193) ∧ Below W.heap.size W w') := fun W hW => by
    have := program_any (smP w.heap.size 1) (smL sm1) (smN1 _) (smC (Or.inr rfl)) (smO _) W (hU.below hW.1 (Nat.le_refl _)) (hR.below hW.1 hR.lt) hW.2.one
    rw [sm_res1] at this
    exact this
  have c4 : Hid (∀ W, SmW w W → Calls Tryz.prog 25 #[atE 1 193, .int .i64 193] W fun e w' => e = .returned (.bool true) ∧ Below W.heap.size W w') := fun W hW => isAt_any 1 193 193 (by decide) W (ET_below hE hW.1)
  have c5 : Hid (∀ W a b, (W.cell? ⟨a, 0, none⟩ = some (.int .i64 0) ∧ W.cell? ⟨a, 1, none⟩ = some (.int .i64 1)) → (W.cell? ⟨b, 0, none⟩ = some (.int .i64 0) ∧ W.cell? ⟨b, 1, none⟩ = some (.int .i64 1)) → Calls Tryz.prog 16 #[.slice (some ⟨a, 0, none⟩) 2 2, .slice (some ⟨b, 0, none⟩) 2 2] W fun e w' => e = .returned (.bool true) ∧ Below W.heap.size W w') := fun W a b ha hb => sameInts_any 2 (by omega) a b 2 2 (fun k => k) W (fun k hk => by
      match k, hk with
      | 0, _ => exact ha.1
      | 1, _ => exact ha.2) (fun k hk => by
      match k, hk with
      | 0, _ => exact hb.1
      | 1, _ => exact hb.2)
  clear hU hR hE
  go_enter Tryz.func8, Tryz.ntmps8
  go_wp2_with fail
  with_reducible refine Calls.mono c1.out ?_
  rintro e w1 ⟨rfl, s1⟩
  have s1H : Hid (SmW w w1) := s1
  have sb2 : Hid (SB w w1.heap.size 2 (w1.alloc (.cells #[.string ⟨#[99, 112, 117]⟩, .string ⟨#[116]⟩, .int .i64 1, .int .i64 0, .slice none 0 0, .slice (some ⟨w.heap.size + 1, 0, none⟩) 1 1, .slice (some ⟨w.heap.size + 2, 0, none⟩) 1 1, .slice none 0 0, .slice none 0 0, .slice none 0 0, .slice none 0 0, .slice none 0 0, .slice (some ⟨w.heap.size + 3, 0, none⟩) 2 2, .slice (some ⟨w.heap.size + 4, 0, none⟩) 3 3] 28))) := SB.new s1
  have b2 : Hid (Below w1.heap.size w1 (w1.alloc (.cells #[.string ⟨#[99, 112, 117]⟩, .string ⟨#[116]⟩, .int .i64 1, .int .i64 0, .slice none 0 0, .slice (some ⟨w.heap.size + 1, 0, none⟩) 1 1, .slice (some ⟨w.heap.size + 2, 0, none⟩) 1 1, .slice none 0 0, .slice none 0 0, .slice none 0 0, .slice none 0 0, .slice none 0 0, .slice (some ⟨w.heap.size + 3, 0, none⟩) 2 2, .slice (some ⟨w.heap.size + 4, 0, none⟩) 3 3] 28))) := (Below.refl _ _).alloc (Nat.le_refl _) _
  clear s1 c1
  go_wp2_with fail
  with_reducible refine Calls.mono (c2.out _ sb2.out.m) ?_
  rintro e w3 ⟨⟨b1, rfl, k1⟩, b3⟩
  have sb3 : Hid (SB w w1.heap.size 2 w3) := sb2.out.below b3
  have b13 : Hid (Below w1.heap.size w1 w3) := b2.out.trans (b3.mono b2.out.size)
  have nb : b1 ≠ w1.heap.size := by have := k1.out.2.2.1; simp at this; omega
  clear b3 b2 sb2 c2
  have f12 := sb3.out.f
  have x12 := sb3.out.x12
  have l3 := sb3.out.lt
  have sb4 : Hid (SB w w1.heap.size 1 (w3.setCell ⟨w1.heap.size, 12, none⟩ (.slice (some ⟨w.heap.size + 3, 0, none⟩) 1 2))) := SB.cut s1H.out b13.out sb3.out
  have k4 : Hid ((w3.setCell ⟨w1.heap.size, 12, none⟩ (.slice (some ⟨w.heap.size + 3, 0, none⟩) 1 2)).cell? ⟨b1, 0, none⟩ = some (.int .i64 0) ∧ (w3.setCell ⟨w1.heap.size, 12, none⟩ (.slice (some ⟨w.heap.size + 3, 0, none⟩) 1 2)).cell? ⟨b1, 1, none⟩ = some (.int .i64 1) ∧ b1 < (w3.setCell ⟨w1.heap.size, 12, none⟩ (.slice (some ⟨w.heap.size + 3, 0, none⟩) 1 2)).heap.size) := by
    refine ⟨?_, ?_, by simpa using k1.out.2.2.2⟩
    · rw [World.cell?_setCell_other _ _ _ _ (by intro h; injection h; omega)]; exact k1.out.1
    · rw [World.cell?_setCell_other _ _ _ _ (by intro h; injection h; omega)]; exact k1.out.2.1
  clear sb3 k1 s1H b13
  go_wp2_with fail
  clear f12 x12 l3
  have hsz : Hid ((w3.setCell ⟨w1.heap.size, 12, none⟩ (.slice (some ⟨w.heap.size + 3, 0, none⟩) 1 2)).heap.size = w3.heap.size) := hid (by simp)
  generalize World.setCell w3 _ _ = W4 at sb4 k4 hsz ⊢
  have b5 : Below W4.heap.size W4 (W4.alloc (.cells #[.int .i64 0, .int .i64 1] 3)) := (Below.refl _ _).alloc (Nat.le_refl _) _
  have sb5 : Hid (SB w w1.heap.size 1 (W4.alloc (.cells #[.int .i64 0, .int .i64 1] 3))) := sb4.out.below b5
  have k5 : Hid ((W4.alloc (.cells #[.int .i64 0, .int .i64 1] 3)).cell? ⟨b1, 0, none⟩ = some (.int .i64 0) ∧ (W4.alloc (.cells #[.int .i64 0, .int .i64 1] 3)).cell? ⟨b1, 1, none⟩ = some (.int .i64 1)) := ⟨by rw [b5.cell (p := ⟨b1, 0, none⟩) k4.out.2.2]; exact k4.out.1, by rw [b5.cell (p := ⟨b1, 1, none⟩) k4.out.2.2]; exact k4.out.2.1⟩
  have k6 : Hid ((W4.alloc (.cells #[.int .i64 0, .int .i64 1] 3)).cell? ⟨w3.heap.size, 0, none⟩ = some (.int .i64 0) ∧ (W4.alloc (.cells #[.int .i64 0, .int .i64 1] 3)).cell? ⟨w3.heap.size, 1, none⟩ = some (.int .i64 1)) := ⟨by rw [← hsz.out]; simp [go_sem], by rw [← hsz.out]; simp [go_sem]⟩
  clear b5 sb4 k4
  with_reducible refine Calls.mono (c5.out _ _ _ k5.out k6.out) ?_
  rintro e w6 ⟨rfl, b6⟩
  have sb6 : Hid (SB w w1.heap.size 1 w6) := sb5.out.below b6
  clear b6 sb5 k5 k6 c5
  obtain ⟨_, _, l6, _, y0, y1, y2, y3, y4, y5, y6, y7, y8, y9, y10, y11, y12, y13⟩ := sb6.out
  go_wp2_with fail
  clear l6 y0 y1 y2 y3 y4 y5 y6 y7 y8 y9 y10 y11 y12 y13
  with_reducible refine Calls.mono (c3.out _ sb6.out.m) ?_
  rintro e w7 ⟨rfl, b7⟩
  have sb7 : Hid (SB w w1.heap.size 1 w7) := sb6.out.below b7
  clear b7 sb6 c3
  unfold atE at c4
  unfold atE
  go_wp2_with fail
  with_reducible refine Calls.mono (c4.out _ sb7.out.m) ?_
  rintro e w8 ⟨rfl, b8⟩
  have sb8 : Hid (SB w w1.heap.size 1 w8) := sb7.out.below b8
  clear b8 sb7 c4
  go_wp2_with fail
  go_ret
  exact ⟨rfl, sb8.out.m.1⟩
end Go.Proofs.YtdfnomglkibfbaaGreatDoor.Vf
