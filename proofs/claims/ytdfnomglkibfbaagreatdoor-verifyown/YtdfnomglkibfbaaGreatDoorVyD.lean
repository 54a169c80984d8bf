
import Derived.Test.YtdfnomglkibfbaaGreatDoorAsC
import Derived.Test.YtdfnomglkibfbaaGreatDoorBase
import Derived.Deep.LoopGhost
import Derived.Test.YtdfnomglkibfbaaGreatDoorVzA
import Derived.Test.YtdfnomglkibfbaaGreatDoorVzC
import Derived.ProofKit
import Derived.OpenShut
import Derived.Carry
import Derived.Deep.SlicePairs
import Derived.Lib.SmallJoins
import Derived.Lib.LaidU8
import Derived.Deep.RegionWith
namespace Go.Proofs.YtdfnomglkibfbaaGreatDoor
open Go.RowKit Go.Extern.Stop Go.Stop Go.Extern

theorem assignableEA (w : World) : (ReflectliteType.relation "AssignableTo" ReflectliteType.assignableTo #[.agg #[.pointer (some ⟨4, 34, none⟩)], .iface 221 (.agg #[.pointer (some ⟨4, 93, none⟩)])]).run Tryz.prog w = .ok (.bool false) w := by kernel_rfl
theorem assignableEI (w : World) : (ReflectliteType.relation "AssignableTo" ReflectliteType.assignableTo #[.agg #[.pointer (some ⟨4, 34, none⟩)], .iface 221 (.agg #[.pointer (some ⟨4, 95, none⟩)])]).run Tryz.prog w = .ok (.bool false) w := by kernel_rfl


theorem noAsE (v : Value) (x : TypeId) (w : World) : (Instr.typeAssert (.iface 34 v) x 226 true).run Tryz.prog w = .ok (.tuple #[.nilIface, .bool false]) w := run_typeAssert_lacksB Tryz.underlying226 (by kernel_rfl) (by kernel_rfl) v x w
theorem noUnwrapE (v : Value) (x : TypeId) (w : World) : (Instr.typeAssert (.iface 34 v) x 229 true).run Tryz.prog w = .ok (.tuple #[.nilIface, .bool false]) w := run_typeAssert_lacksB Tryz.underlying229 (by kernel_rfl) (by kernel_rfl) v x w
theorem noUnwrapsE (v : Value) (x : TypeId) (w : World) : (Instr.typeAssert (.iface 34 v) x 231 true).run Tryz.prog w = .ok (.tuple #[.nilIface, .bool false]) w := run_typeAssert_lacksB Tryz.underlying231 (by kernel_rfl) (by kernel_rfl) v x w

set_option maxHeartbeats 4000000 in
/-- errors.As(an Errno, &at): it is not found. -/
theorem as_EA (c : Int) (t : Addr) (w : World) (hg : ET w) :
    Calls Tryz.prog 26 #[.iface 34 (.int .i64 c), .iface 98 (.pointer (some t))] w fun ev w' => ev = .returned (.bool false) ∧ w' = ((w.alloc (.cells #[.pointer (some t)] 98)).alloc (.cells #[.pointer (some ⟨4, 98, none⟩), .pointer (some ⟨w.heap.size, 0, none⟩), .int .u64 150] 115)).alloc (.cells #[.pointer (some ⟨4, 98, none⟩), .pointer (some ⟨w.heap.size, 0, none⟩), .int .u64 150] 115) := by
  unfold ET at hg
  have h1 := ext_valueOf; have h2 := ext_type; have h3 := ext_isNil; have h4 := ext_kind; have h5 := ext_telem; have h6 := ext_implements; have h7 := ext_typeOf; have h8 := ext_assignable; have h9 := ext_velem
  have tO := typeOfE; have na := noAsE; have nu := noUnwrapE; have nus := noUnwrapsE
  have mA := methodAssignableTo
  have aE := assignableEA
  have f6 := valueOfPA
  have f7 := typePA
  have mK := methodKind
  have mE := methodElem
  have mI := methodImplements
  have k27 := kindPA
  have k25 := kindA
  have e27 := elemPA
  have i25 := implementsA
  have n8 := isNilPA ⟨w.heap.size, 0, none⟩ t ((w.alloc (.cells #[.pointer (some t)] 98)).alloc (.cells #[.pointer (some ⟨4, 98, none⟩), .pointer (some ⟨w.heap.size, 0, none⟩), .int .u64 150] 115)) (by simp)
  have hlt : 0 < w.heap.size := by
    rcases Nat.lt_or_ge 0 w.heap.size with h | h
    · exact h
    · simp [World.cell?, Array.getElem?_eq_none h] at hg
  have hg2 : ((w.alloc (.cells #[.pointer (some t)] 98)).alloc (.cells #[.pointer (some ⟨4, 98, none⟩), .pointer (some ⟨w.heap.size, 0, none⟩), .int .u64 150] 115)).cell? ⟨0, 0, none⟩ = some (.iface 221 (.agg #[.pointer (some ⟨4, 32, none⟩)])) := by
    rw [World.cell?_alloc_lt _ _ ⟨0, 0, none⟩ (by simp <;> omega), World.cell?_alloc_lt _ _ ⟨0, 0, none⟩ hlt]; exact hg
  go_enter Tryz.func26, Tryz.ntmps26
  go_wp2
  refine wp_loop_rounds 1 ?_
  rw [rounds_succ]
  go_wp2
  go_ret
  exact ⟨rfl, rfl⟩

set_option maxHeartbeats 4000000 in
/-- errors.As(an Errno, &at): it is not found. -/
theorem as_EI (c : Int) (t : Addr) (w : World) (hg : ET w) :
    Calls Tryz.prog 26 #[.iface 34 (.int .i64 c), .iface 99 (.pointer (some t))] w fun ev w' => ev = .returned (.bool false) ∧ w' = ((w.alloc (.cells #[.pointer (some t)] 99)).alloc (.cells #[.pointer (some ⟨4, 99, none⟩), .pointer (some ⟨w.heap.size, 0, none⟩), .int .u64 150] 115)).alloc (.cells #[.pointer (some ⟨4, 99, none⟩), .pointer (some ⟨w.heap.size, 0, none⟩), .int .u64 150] 115) := by
  unfold ET at hg
  have h1 := ext_valueOf; have h2 := ext_type; have h3 := ext_isNil; have h4 := ext_kind; have h5 := ext_telem; have h6 := ext_implements; have h7 := ext_typeOf; have h8 := ext_assignable; have h9 := ext_velem
  have tO := typeOfE; have na := noAsE; have nu := noUnwrapE; have nus := noUnwrapsE
  have mA := methodAssignableTo
  have aE := assignableEI
  have f6 := valueOfPI
  have f7 := typePI
  have mK := methodKind
  have mE := methodElem
  have mI := methodImplements
  have k27 := kindPI
  have k25 := kindI
  have e27 := elemPI
  have i25 := implementsI
  have n8 := isNilPI ⟨w.heap.size, 0, none⟩ t ((w.alloc (.cells #[.pointer (some t)] 99)).alloc (.cells #[.pointer (some ⟨4, 99, none⟩), .pointer (some ⟨w.heap.size, 0, none⟩), .int .u64 150] 115)) (by simp)
  have hlt : 0 < w.heap.size := by
    rcases Nat.lt_or_ge 0 w.heap.size with h | h
    · exact h
    · simp [World.cell?, Array.getElem?_eq_none h] at hg
  have hg2 : ((w.alloc (.cells #[.pointer (some t)] 99)).alloc (.cells #[.pointer (some ⟨4, 99, none⟩), .pointer (some ⟨w.heap.size, 0, none⟩), .int .u64 150] 115)).cell? ⟨0, 0, none⟩ = some (.iface 221 (.agg #[.pointer (some ⟨4, 32, none⟩)])) := by
    rw [World.cell?_alloc_lt _ _ ⟨0, 0, none⟩ (by simp <;> omega), World.cell?_alloc_lt _ _ ⟨0, 0, none⟩ hlt]; exact hg
  go_enter Tryz.func26, Tryz.ntmps26
  go_wp2
  refine wp_loop_rounds 1 ?_
  rw [rounds_succ]
  go_wp2
  go_ret
  exact ⟨rfl, rfl⟩
end Go.Proofs.YtdfnomglkibfbaaGreatDoor

namespace Go.Proofs.YtdfnomglkibfbaaGreatDoor
open Go.RowKit Go.Extern.Stop Go.Stop Go.Extern
set_option linter.unusedVariables false

/-- an error: links (true: an api.In, false: an api.At; with its number), the outermost first; at the bottom an api.Errno. -/
def errV : List (Bool × Int) → Int → Value
  | [], c => .iface 34 (.int .i64 c)
  | (false, n) :: l, c => .iface 93 (.agg #[.int .i64 n, errV l c])
  | (true, n) :: l, c => .iface 95 (.agg #[.int .i64 n, errV l c])
/-- the first link of a kind, and what it wraps. -/
def findK (k : Bool) : List (Bool × Int) → Option (Int × List (Bool × Int))
  | [] => none
  | (j, n) :: l => if j = k then some (n, l) else findK k l
theorem errV_one (l : List (Bool × Int)) (c : Int) : (errV l c).oneCell' = true := by
  rcases l with _ | ⟨⟨k, n⟩, l⟩
  · rfl
  · cases k <;> rfl
theorem errV_notnil (l : List (Bool × Int)) (c : Int) (w : World) : (binOp .eql 32 (errV l c) .nilIface).run Tryz.prog w = .ok (.bool false) w := by
  rcases l with _ | ⟨⟨k, n⟩, l⟩
  · exact run_eql_held_nil _ _ _ _ (by kernel_rfl)
  · cases k
    · exact run_eql_held_nil _ _ _ _ (by kernel_rfl)
    · exact run_eql_held_nil _ _ _ _ (by kernel_rfl)
theorem errV_guard (l : List (Bool × Int)) (c : Int) (x : Operand) (w : World) : (eqGuard .eql 32 x (.const .nilIface) (errV l c) .nilIface).run Tryz.prog w = .ok () w := by
  rcases l with _ | ⟨⟨k, n⟩, l⟩
  · rfl
  · cases k <;> rfl

theorem valueOfA (x y : Value) (w : World) : (ReflectliteValue.unpack (.iface 93 (.agg #[x, y]))).run Tryz.prog w
    = .ok (.agg #[.pointer (some ⟨4, 93, none⟩), .pointer (some ⟨w.heap.size, 0, none⟩), .int .u64 153]) (w.alloc (.cells #[x, y] 93)) := by kernel_rfl
theorem noAsA (v : Value) (x : TypeId) (w : World) : (Instr.typeAssert (.iface 93 v) x 226 true).run Tryz.prog w = .ok (.tuple #[.nilIface, .bool false]) w := run_typeAssert_lacksB Tryz.underlying226 (by kernel_rfl) (by kernel_rfl) v x w
theorem unwrapsA (v : Value) (x : TypeId) (w : World) : (Instr.typeAssert (.iface 93 v) x 229 true).run Tryz.prog w = .ok (.tuple #[.iface 93 v, .bool true]) w := run_typeAssert_hasB Tryz.underlying229 (by kernel_rfl) v x w
theorem methodUnwrapA (v : Value) (w : World) : (Go.method 437 93 v "Unwrap").run Tryz.prog w = .ok (187, v) w := by kernel_rfl
theorem unwrapA (x y : Value) (w : World) : Calls Tryz.prog 187 #[.agg #[x, y]] w fun e w' => e = .returned y ∧ w' = w.alloc (.cells #[x, y] 93) := by
  go_enter Tryz.func187, Tryz.ntmps187
  go_wp2
  go_ret
  exact ⟨rfl, rfl⟩
theorem sizeA (w : World) : (sizeOf 93).run Tryz.prog w = .ok 2 w := by kernel_rfl
theorem setA (tb tq : Nat) (b : Nat) (x y u v : Value) (W : World) (hx : W.cell? ⟨b, 0, none⟩ = some x) (hy : W.cell? ⟨b, 1, none⟩ = some y) (h0 : W.cell? ⟨tb, tq, none⟩ = some u) (h1 : W.cell? ⟨tb, tq + 1, none⟩ = some v) (f0 : W.frozen? ⟨tb, tq, none⟩ = false) (f1 : W.frozen? ⟨tb, tq + 1, none⟩ = false) (ox : x.oneCell' = true) (oy : y.oneCell' = true) :
    (ReflectliteValue.set #[.agg #[.pointer (some ⟨4, 93, none⟩), .pointer (some ⟨tb, tq, none⟩), .int .u64 409], .agg #[.pointer (some ⟨4, 93, none⟩), .pointer (some ⟨b, 0, none⟩), .int .u64 153]]).run Tryz.prog W
      = .ok (.tuple #[]) ((W.setCell ⟨tb, tq, none⟩ x).setCell ⟨tb, tq + 1, none⟩ y) := by
  have hc : (W.setCell ⟨tb, tq, none⟩ x).cell? ⟨tb, tq + 1, none⟩ = some v := by rw [World.cell?_setCell_other _ _ _ _ (by simp)]; exact h1
  rw [rls _ _ Tryz.prog W 93 93 ⟨tb, tq, none⟩ ⟨b, 0, none⟩ 409 153 (partsAA ⟨tb, tq, none⟩ W) (partsA ⟨b, 0, none⟩ W) (by decide) (.agg #[x, y]) (by simp [loadVar, isAgg, underlying, Tryz.underlying93, loadCells, loadCellsFrom, Addr.add, hx, hy, Result.andThen]) (directA W)]
  simp [storeVar, Value.cells, storeCells, Addr.add, Result.andThen]
  rw [run_store Tryz.prog W ⟨tb, tq, none⟩ _ _ ox]
  simp [h0, f0]
  rw [run_store Tryz.prog _ ⟨tb, tq + 1, none⟩ _ _ oy]
  simp [hc, f1]

theorem valueOfI (x y : Value) (w : World) : (ReflectliteValue.unpack (.iface 95 (.agg #[x, y]))).run Tryz.prog w
    = .ok (.agg #[.pointer (some ⟨4, 95, none⟩), .pointer (some ⟨w.heap.size, 0, none⟩), .int .u64 153]) (w.alloc (.cells #[x, y] 95)) := by kernel_rfl
theorem noAsI (v : Value) (x : TypeId) (w : World) : (Instr.typeAssert (.iface 95 v) x 226 true).run Tryz.prog w = .ok (.tuple #[.nilIface, .bool false]) w := run_typeAssert_lacksB Tryz.underlying226 (by kernel_rfl) (by kernel_rfl) v x w
theorem unwrapsI (v : Value) (x : TypeId) (w : World) : (Instr.typeAssert (.iface 95 v) x 229 true).run Tryz.prog w = .ok (.tuple #[.iface 95 v, .bool true]) w := run_typeAssert_hasB Tryz.underlying229 (by kernel_rfl) v x w
theorem methodUnwrapI (v : Value) (w : World) : (Go.method 437 95 v "Unwrap").run Tryz.prog w = .ok (189, v) w := by kernel_rfl
theorem unwrapI (x y : Value) (w : World) : Calls Tryz.prog 189 #[.agg #[x, y]] w fun e w' => e = .returned y ∧ w' = w.alloc (.cells #[x, y] 95) := by
  go_enter Tryz.func189, Tryz.ntmps189
  go_wp2
  go_ret
  exact ⟨rfl, rfl⟩
theorem sizeI (w : World) : (sizeOf 95).run Tryz.prog w = .ok 2 w := by kernel_rfl
theorem setI (tb tq : Nat) (b : Nat) (x y u v : Value) (W : World) (hx : W.cell? ⟨b, 0, none⟩ = some x) (hy : W.cell? ⟨b, 1, none⟩ = some y) (h0 : W.cell? ⟨tb, tq, none⟩ = some u) (h1 : W.cell? ⟨tb, tq + 1, none⟩ = some v) (f0 : W.frozen? ⟨tb, tq, none⟩ = false) (f1 : W.frozen? ⟨tb, tq + 1, none⟩ = false) (ox : x.oneCell' = true) (oy : y.oneCell' = true) :
    (ReflectliteValue.set #[.agg #[.pointer (some ⟨4, 95, none⟩), .pointer (some ⟨tb, tq, none⟩), .int .u64 409], .agg #[.pointer (some ⟨4, 95, none⟩), .pointer (some ⟨b, 0, none⟩), .int .u64 153]]).run Tryz.prog W
      = .ok (.tuple #[]) ((W.setCell ⟨tb, tq, none⟩ x).setCell ⟨tb, tq + 1, none⟩ y) := by
  have hc : (W.setCell ⟨tb, tq, none⟩ x).cell? ⟨tb, tq + 1, none⟩ = some v := by rw [World.cell?_setCell_other _ _ _ _ (by simp)]; exact h1
  rw [rls _ _ Tryz.prog W 95 95 ⟨tb, tq, none⟩ ⟨b, 0, none⟩ 409 153 (partsAI ⟨tb, tq, none⟩ W) (partsI ⟨b, 0, none⟩ W) (by decide) (.agg #[x, y]) (by simp [loadVar, isAgg, underlying, Tryz.underlying95, loadCells, loadCellsFrom, Addr.add, hx, hy, Result.andThen]) (directI W)]
  simp [storeVar, Value.cells, storeCells, Addr.add, Result.andThen]
  rw [run_store Tryz.prog W ⟨tb, tq, none⟩ _ _ ox]
  simp [h0, f0]
  rw [run_store Tryz.prog _ ⟨tb, tq + 1, none⟩ _ _ oy]
  simp [hc, f1]
theorem assignableAE (w : World) : (ReflectliteType.relation "AssignableTo" ReflectliteType.assignableTo #[.agg #[.pointer (some ⟨4, 93, none⟩)], .iface 221 (.agg #[.pointer (some ⟨4, 34, none⟩)])]).run Tryz.prog w = .ok (.bool false) w := by kernel_rfl
theorem assignableAI (w : World) : (ReflectliteType.relation "AssignableTo" ReflectliteType.assignableTo #[.agg #[.pointer (some ⟨4, 93, none⟩)], .iface 221 (.agg #[.pointer (some ⟨4, 95, none⟩)])]).run Tryz.prog w = .ok (.bool false) w := by kernel_rfl
theorem assignableIE (w : World) : (ReflectliteType.relation "AssignableTo" ReflectliteType.assignableTo #[.agg #[.pointer (some ⟨4, 95, none⟩)], .iface 221 (.agg #[.pointer (some ⟨4, 34, none⟩)])]).run Tryz.prog w = .ok (.bool false) w := by kernel_rfl
theorem assignableIA (w : World) : (ReflectliteType.relation "AssignableTo" ReflectliteType.assignableTo #[.agg #[.pointer (some ⟨4, 95, none⟩)], .iface 221 (.agg #[.pointer (some ⟨4, 93, none⟩)])]).run Tryz.prog w = .ok (.bool false) w := by kernel_rfl
end Go.Proofs.YtdfnomglkibfbaaGreatDoor


namespace Go.Proofs.YtdfnomglkibfbaaGreatDoor
open Go.RowKit Go.Extern.Stop Go.Stop Go.Extern
set_option linter.unusedVariables false
set_option linter.unusedSimpArgs false

set_option maxRecDepth 100000 in
set_option maxHeartbeats 8000000 in
/-- errors.As(a chain, &e): its number is found. -/
theorem chain_E (l : List (Bool × Int)) (c : Int) (t : Addr) (old : Value) (w : World) (hg : ET w) (ht0 : w.cell? t = some old) (hf0 : w.frozen? t = false) :
    Calls Tryz.prog 26 #[errV l c, .iface 97 (.pointer (some t))] w fun ev w' => ev = .returned (.bool true) ∧ ∃ w1, Below w.heap.size w w1 ∧ w' = w1.setCell t (.int .i64 c) := by
  have hlt := ET_lt hg
  unfold ET at hg
  have h1 := ext_valueOf; have h2 := ext_type; have h3 := ext_isNil; have h4 := ext_kind; have h5 := ext_telem; have h6 := ext_implements; have h7 := ext_typeOf; have h8 := ext_assignable; have h9 := ext_velem; have h10 := ext_set
  have mA := methodAssignableTo
  have f6 := valueOfPE
  have f7 := typePE
  have mK := methodKind
  have mE := methodElem
  have mI := methodImplements
  have k27 := kindPE
  have k25 := kindE
  have e27 := elemPE
  have i25 := implementsE
  have n8 := isNilPE ⟨w.heap.size, 0, none⟩ t ((w.alloc (.cells #[.pointer (some t)] 97)).alloc (.cells #[.pointer (some ⟨4, 97, none⟩), .pointer (some ⟨w.heap.size, 0, none⟩), .int .u64 150] 115)) (by simp)
  have hg2 : ((w.alloc (.cells #[.pointer (some t)] 97)).alloc (.cells #[.pointer (some ⟨4, 97, none⟩), .pointer (some ⟨w.heap.size, 0, none⟩), .int .u64 150] 115)).cell? ⟨0, 0, none⟩ = some (.iface 221 (.agg #[.pointer (some ⟨4, 32, none⟩)])) := by
    rw [World.cell?_alloc_lt _ _ ⟨0, 0, none⟩ (by simp <;> omega), World.cell?_alloc_lt _ _ ⟨0, 0, none⟩ hlt]; exact hg
  have htl : t.block < w.heap.size := by
    rcases Nat.lt_or_ge t.block w.heap.size with h | h
    · exact h
    · simp [World.cell?, Array.getElem?_eq_none h] at ht0
  have enn := errV_notnil l c
  have egd := errV_guard l c
  go_enter Tryz.func26, Tryz.ntmps26
  go_wp2
  go_loopg [0] l.length (fun k x wx => ∃ l', x = errV l' c ∧ k = l'.length ∧ Below (w.heap.size + 3) (((w.alloc (.cells #[.pointer (some t)] 97)).alloc (.cells #[.pointer (some ⟨4, 97, none⟩), .pointer (some ⟨w.heap.size, 0, none⟩), .int .u64 150] 115)).alloc (.cells #[.pointer (some ⟨4, 97, none⟩), .pointer (some ⟨w.heap.size, 0, none⟩), .int .u64 150] 115)) wx)
  case atStart => exact ⟨l, rfl, rfl, Below.refl _ _⟩
  case round =>
    obtain ⟨l', rfl, rfl, hB⟩ := hrel
    have hs : w.heap.size + 3 ≤ wr.heap.size := by have := hB.size; simp at this; omega
    have x0 : wr.cell? ⟨w.heap.size, 0, none⟩ = some (.pointer (some t)) := by rw [hB.cell (p := ⟨w.heap.size, 0, none⟩) (by simp)]; simp [go_sem, World.cell?_alloc_past]
    have y0 : wr.cell? ⟨w.heap.size + 1 + 1, 0, none⟩ = some (.pointer (some ⟨4, 97, none⟩)) := by rw [hB.cell (p := ⟨w.heap.size + 1 + 1, 0, none⟩) (by simp)]; simp [go_sem, World.cell?_alloc_past]
    have y1 : wr.cell? ⟨w.heap.size + 1 + 1, 1, none⟩ = some (.pointer (some ⟨w.heap.size, 0, none⟩)) := by rw [hB.cell (p := ⟨w.heap.size + 1 + 1, 1, none⟩) (by simp)]; simp [go_sem, World.cell?_alloc_past]
    have y2 : wr.cell? ⟨w.heap.size + 1 + 1, 2, none⟩ = some (.int .u64 150) := by rw [hB.cell (p := ⟨w.heap.size + 1 + 1, 2, none⟩) (by simp)]; simp [go_sem, World.cell?_alloc_past]
    have tc : wr.cell? t = some old := by
      rw [hB.cell (p := t) (by omega), World.cell?_alloc_lt _ _ t (by simp; omega), World.cell?_alloc_lt _ _ t (by simp; omega), World.cell?_alloc_lt _ _ t htl]; exact ht0
    have tf : wr.frozen? t = false := by
      rw [hB.frozen (p := t) (by omega), World.frozen?_alloc_old _ _ t (by simp; omega), World.frozen?_alloc_old _ _ t (by simp; omega), World.frozen?_alloc_old _ _ t (by omega)]; exact hf0
    have hBw : Below w.heap.size w wr := (below_new (below_new (below_new (Below.refl _ _) _) _) _).trans (hB.mono (by omega))
    rcases l' with _ | ⟨⟨k, n⟩, rest⟩
    · simp only [errV]
      have tO := typeOfE
      have aE := assignableE
      have vE := valueOfE
      have el := elemVE ⟨w.heap.size, 0, none⟩ t wr x0
      have st := setE t ⟨wr.heap.size, 0, none⟩ c old (wr.alloc (.cells #[.int .i64 c] 34)) (by simp) (by rw [World.cell?_alloc_lt _ _ t (by omega)]; exact tc) (by rw [World.frozen?_alloc_old _ _ t (by omega)]; exact tf)
      go_wp2
      go_ret
      exact ⟨rfl, _, below_new hBw _, rfl⟩
    · have enr := errV_notnil rest c
      have egr := errV_guard rest c
      cases k
      · simp only [errV]
        have tO := typeOfA
        have aE := assignableAE
        have nA := noAsA
        have uA := unwrapsA
        have mU := methodUnwrapA
        go_wp2_with (go_at_call 187; refine (unwrapA _ _ _).mono ?_; rintro e w' ⟨rfl, rfl⟩)
        go_roundg rest.length
        case measure => simp
        case rel => exact ⟨rest, rfl, rfl, hB.alloc (by omega) _⟩
      · simp only [errV]
        have tO := typeOfI
        have aE := assignableIE
        have nA := noAsI
        have uA := unwrapsI
        have mU := methodUnwrapI
        go_wp2_with (go_at_call 189; refine (unwrapI _ _ _).mono ?_; rintro e w' ⟨rfl, rfl⟩)
        go_roundg rest.length
        case measure => simp
        case rel => exact ⟨rest, rfl, rfl, hB.alloc (by omega) _⟩
end Go.Proofs.YtdfnomglkibfbaaGreatDoor

namespace Go.Proofs.YtdfnomglkibfbaaGreatDoor.Vf
open Go.RowKit
set_option linter.unusedVariables false
set_option linter.unusedSimpArgs false
set_option maxRecDepth 100000
theorem isAt_any (x c e : Int) (he : (e == 0) = false) (w : World) (hg : ET w) : Calls Tryz.prog 25 #[atE x c, .int .i64 e] w fun ev w' => ev = .returned (.bool (c == e)) ∧ Below w.heap.size w w' := by
  have hlt := ET_lt hg
  have b1 : Below w.heap.size w (w.alloc (.cells #[.int .i64 0] 34)) := (Below.refl _ w).alloc (Nat.le_refl _) _
  have hgA : ET (w.alloc (.cells #[.int .i64 0] 34)) := ET_below hg b1
  have cA : Hid (Calls Tryz.prog 26 #[atE x c, .iface 97 (.pointer (some ⟨w.heap.size, 0, none⟩))] (w.alloc (.cells #[.int .i64 0] 34)) fun ev w' => ev = .returned (.bool true) ∧ w'.cell? ⟨w.heap.size, 0, none⟩ = some (.int .i64 c) ∧ Below w.heap.size w w') := (chain_E [(false, x)] c ⟨w.heap.size, 0, none⟩ (.int .i64 0) _ hgA (by simp [go_sem]) (by simp [go_sem])).mono (fun ev w' hh => by
    obtain ⟨h1, w1, h2, rfl⟩ := hh
    have s1 : w.heap.size < (w.alloc (.cells #[.int .i64 0] 34)).heap.size := by simp
    have k0 : w1.cell? ⟨w.heap.size, 0, none⟩ = some (.int .i64 0) := by
      rw [h2.cell (p := ⟨w.heap.size, 0, none⟩) s1]; simp [go_sem]
    exact ⟨h1, by simp [go_sem, k0], (b1.trans (h2.mono b1.size)).setCell (p := ⟨w.heap.size, 0, none⟩) (Nat.le_refl _) _⟩)
  unfold atE at cA
  unfold atE
  clear hg hgA b1 hlt
  go_enter Tryz.func25, Tryz.ntmps25
  go_wp2_with fail
  with_reducible refine Calls.mono cA.out ?_
  rintro ev w' ⟨rfl, k0, bb⟩
  clear cA
  go_wp2
  go_ret
  exact ⟨rfl, bb⟩
end Go.Proofs.YtdfnomglkibfbaaGreatDoor.Vf

namespace Go.Proofs.YtdfnomglkibfbaaGreatDoor.Vf
open Go.RowKit
set_option linter.unusedVariables false
set_option linter.unusedSimpArgs false
set_option maxRecDepth 100000
set_option maxHeartbeats 4000000 in
theorem sameInts_any (n : Nat) (hn : n ≤ 65536) (a b ca cb : Nat) (F : Nat → Int) (w : World) (ha : ∀ k, k < n → w.cell? ⟨a, k, none⟩ = some (.int .i64 (F k))) (hb : ∀ k, k < n → w.cell? ⟨b, k, none⟩ = some (.int .i64 (F k))) : Calls Tryz.prog 16 #[.slice (some ⟨a, 0, none⟩) n ca, .slice (some ⟨b, 0, none⟩) n cb] w fun e w' => e = .returned (.bool true) ∧ Below w.heap.size w w' := by
  have haH : Hid (∀ k, k < n → w.cell? ⟨a, k, none⟩ = some (.int .i64 (F k))) := ha
  have hbH : Hid (∀ k, k < n → w.cell? ⟨b, k, none⟩ = some (.int .i64 (F k))) := hb
  clear ha hb
  go_enter Tryz.func16, Tryz.ntmps16
  go_wp2_with fail
  go_loopw [5] (fun v5 wr => ∃ k m : Nat, v5 = .int .i64 (k : Int) ∧ k ≤ n ∧ wr = w.drewN m) (fun v5 _ => n - (intOf v5).toNat)
  case atStart => exact ⟨0, 0, rfl, Nat.zero_le _, rfl⟩
  case round =>
    obtain ⟨k, m, rfl, hkn, rfl⟩ := hrel
    have k0 : (0 : Int) ≤ (k : Int) := by omega
    by_cases hk : k < n
    · have kI : (k : Int) < (n : Int) := by omega
      have kw : IntKind.i64.wrap ((k : Int) + 1) = ((k + 1 : Nat) : Int) := IntWalk.i64_in _ (by omega)
      have c1 : w.cell? ⟨a, 0 + k, none⟩ = some (.int .i64 (F k)) := by rw [Nat.zero_add]; exact haH.out k hk
      have c2 : w.cell? ⟨b, 0 + k, none⟩ = some (.int .i64 (F k)) := by rw [Nat.zero_add]; exact hbH.out k hk
      have c3 := haH.out k hk
      have c4 := hbH.out k hk
      go_wp2_with fail
      go_quiet (fail)
      go_wp2_with fail
      exact ⟨⟨k + 1, m + nq, by first | rfl | (rw [kw]), hk, by first | rfl | (rw [World.drewN_drewN])⟩, by first | (simp [intOf]; done) | (simp [intOf]; omega)⟩
    · have kI : ¬ (k : Int) < (n : Int) := by omega
      go_wp2_with fail
      go_ret
      exact ⟨rfl, bl_drewN (Below.refl _ w) m⟩
/-- a program that passes. -/
def smP (s n : Nat) : PrH := ⟨⟨#[99, 112, 117]⟩, ⟨#[116]⟩, 1, 0, ⟨none, 0, 0⟩, ⟨some ⟨s + 1, 0, none⟩, 1, 1⟩, ⟨some ⟨s + 2, 0, none⟩, 1, 1⟩, ⟨none, 0, 0⟩, ⟨none, 0, 0⟩, ⟨none, 0, 0⟩, ⟨none, 0, 0⟩, ⟨none, 0, 0⟩, ⟨some ⟨s + 3, 0, none⟩, n, 2⟩, ⟨some ⟨s + 4, 0, none⟩, 3, 3⟩⟩
def smL (l : List InP) : PrL := ⟨[], [(4, ⟨#[118]⟩)], [⟨#[109]⟩], [], [], [], l, [⟨14, 0, 0⟩, ⟨23, 0, 0⟩, ⟨24, 0, 0⟩]⟩
def sm2 : List InP := [⟨1, 0, 0⟩, ⟨13, 0, 0⟩]
def sm1 : List InP := [⟨1, 0, 0⟩]
theorem smN (s : Nat) : PrN (smP s 2) (smL sm2) := by
  refine ⟨rfl, rfl, rfl, rfl, rfl, rfl, rfl, rfl, ?_, ?_, ?_, ?_, ?_, ?_, ?_, ?_⟩ <;> simp [smL, sm2]
theorem smN1 (s : Nat) : PrN (smP s 1) (smL sm1) := by
  refine ⟨rfl, rfl, rfl, rfl, rfl, rfl, rfl, rfl, ?_, ?_, ?_, ?_, ?_, ?_, ?_, ?_⟩ <;> simp [smL, sm1]
theorem smC {l : List InP} (hl : l = sm2 ∨ l = sm1) : ∀ (j : Nat) (t : InP), l[j]? = some t → t.c < 256 := by
  intro j t h
  have hm := List.mem_of_getElem? h
  rcases hl with rfl | rfl
  · simp [sm2] at hm; rcases hm with rfl | rfl <;> decide
  · simp [sm1] at hm; subst hm; decide
theorem smO (l : List InP) : ∀ (j : Nat) (t : InP), (smL l).output[j]? = some t → t.c < 256 := by
  intro j t h
  have hm := List.mem_of_getElem? h
  simp [smL] at hm
  rcases hm with rfl | rfl | rfl <;> decide
/-- what lies in memory of it. -/
def SmW (w W : World) : Prop := Below w.heap.size w W ∧ PrIn W (smP w.heap.size 2) (smL sm2)
theorem PrIn.one {W : World} {s : Nat} (h : PrIn W (smP s 2) (smL sm2)) : PrIn W (smP s 1) (smL sm1) := by
  refine ⟨h.groups, h.accs, h.alias, h.names, h.texts, h.lists, ?_, h.output⟩
  rcases h.filter with q | ⟨b, off, h1, h2, h3⟩
  · simp [smL, sm2] at q
  · refine Or.inr ⟨b, off, h1, h2, fun i t ht => h3 i t ?_⟩
    have hi : i = 0 := by
      have := (List.getElem?_eq_some_iff.1 ht).1
      simp [smL, sm1] at this
      exact this
    subst hi
    simpa [smL, sm1, sm2] using ht
theorem sm_mem (w : World) (o : Obj) : SmW w (((((w.alloc o).alloc (.cells #[.int .u8 4, .string ⟨#[118]⟩] 55)).alloc (.cells #[.string ⟨#[109]⟩] 9)).alloc (.cells #[.int .u8 1, .int .i64 0, .int .i64 0, .int .u8 13, .int .i64 0, .int .i64 0] 59)).alloc (.cells #[.int .u8 14, .int .i64 0, .int .i64 0, .int .u8 23, .int .i64 0, .int .i64 0, .int .u8 24, .int .i64 0, .int .i64 0] 59)) := by
  have b : Below w.heap.size w (((((w.alloc o).alloc (.cells #[.int .u8 4, .string ⟨#[118]⟩] 55)).alloc (.cells #[.string ⟨#[109]⟩] 9)).alloc (.cells #[.int .u8 1, .int .i64 0, .int .i64 0, .int .u8 13, .int .i64 0, .int .i64 0] 59)).alloc (.cells #[.int .u8 14, .int .i64 0, .int .i64 0, .int .u8 23, .int .i64 0, .int .i64 0, .int .u8 24, .int .i64 0, .int .i64 0] 59)) := ((((((Below.refl _ w).alloc (Nat.le_refl _) o).alloc (by simp) _).alloc (by simp; omega) _).alloc (by simp; omega) _).alloc (by simp; omega) _)
  have z : (((((w.alloc o).alloc (.cells #[.int .u8 4, .string ⟨#[118]⟩] 55)).alloc (.cells #[.string ⟨#[109]⟩] 9)).alloc (.cells #[.int .u8 1, .int .i64 0, .int .i64 0, .int .u8 13, .int .i64 0, .int .i64 0] 59)).alloc (.cells #[.int .u8 14, .int .i64 0, .int .i64 0, .int .u8 23, .int .i64 0, .int .i64 0, .int .u8 24, .int .i64 0, .int .i64 0] 59)).heap.size = w.heap.size + 5 := by simp
  refine ⟨b, Or.inl rfl, Or.inr ⟨w.heap.size + 1, 0, rfl, by rw [z]; omega, fun i t ht => ?_⟩, Or.inr ⟨w.heap.size + 2, 0, rfl, by rw [z]; omega, fun i t ht => ?_⟩, Or.inl rfl, Or.inl rfl, Or.inl rfl, Or.inr ⟨w.heap.size + 3, 0, rfl, by rw [z]; omega, fun i t ht => ?_⟩, Or.inr ⟨w.heap.size + 4, 0, rfl, by rw [z]; omega, fun i t ht => ?_⟩⟩
  · match i, ht with
    | 0, ht => simp [smL] at ht; subst ht; simp [go_sem]
    | i + 1, ht => simp [smL] at ht
  · match i, ht with
    | 0, ht => simp [smL] at ht; subst ht; simp [go_sem]
    | i + 1, ht => simp [smL] at ht
  · match i, ht with
    | 0, ht => simp [smL, sm2] at ht; subst ht; simp [go_sem]
    | 1, ht => simp [smL, sm2] at ht; subst ht; simp [go_sem]
    | i + 2, ht => simp [smL, sm2] at ht
  · match i, ht with
    | 0, ht => simp [smL] at ht; subst ht; simp [go_sem]
    | 1, ht => simp [smL] at ht; subst ht; simp [go_sem]
    | 2, ht => simp [smL] at ht; subst ht; simp [go_sem]
    | i + 3, ht => simp [smL] at ht
set_option maxHeartbeats 4000000 in
theorem small_any (w : World) : Calls Tryz.prog 22 #[] w fun e w' => e = .returned (smP w.heap.size 2).v ∧ SmW w w' := by
  have hm : Hid (∀ o, SmW w (((((w.alloc o).alloc (.cells #[.int .u8 4, .string ⟨#[118]⟩] 55)).alloc (.cells #[.string ⟨#[109]⟩] 9)).alloc (.cells #[.int .u8 1, .int .i64 0, .int .i64 0, .int .u8 13, .int .i64 0, .int .i64 0] 59)).alloc (.cells #[.int .u8 14, .int .i64 0, .int .i64 0, .int .u8 23, .int .i64 0, .int .i64 0, .int .u8 24, .int .i64 0, .int .i64 0] 59))) := sm_mem w
  unfold smP PrH.v
  go_enter Tryz.func22, Tryz.ntmps22
  go_wp2_with fail
  go_returns
  exact ⟨rfl, hm.out _⟩
theorem sm_res (s : Nat) : resP (smP s 2) (smL sm2) = none := by kernel_rfl
theorem sm_res1 (s : Nat) : resP (smP s 1) (smL sm1) = some (193, some 1) := by kernel_rfl
theorem sm_hgt : (hgtP sm2 0 m0 []).1 = [0, 1] := by kernel_rfl
end Go.Proofs.YtdfnomglkibfbaaGreatDoor.Vf

namespace Go.Proofs.YtdfnomglkibfbaaGreatDoor.Vf
open Go.RowKit
set_option linter.unusedVariables false
set_option linter.unusedSimpArgs false
set_option maxRecDepth 100000
/-- the small program in a box of one's own. -/
structure SB (w : World) (B n : Nat) (W : World) : Prop where
  m : SmW w W
  l : w.heap.size ≤ B
  lt : B < W.heap.size
  f : W.frozen? ⟨B, 12, none⟩ = false
  x0 : W.cell? ⟨B, 0, none⟩ = some (.string ⟨#[99, 112, 117]⟩)
  x1 : W.cell? ⟨B, 1, none⟩ = some (.string ⟨#[116]⟩)
  x2 : W.cell? ⟨B, 2, none⟩ = some (.int .i64 1)
  x3 : W.cell? ⟨B, 3, none⟩ = some (.int .i64 0)
  x4 : W.cell? ⟨B, 4, none⟩ = some (.slice none 0 0)
  x5 : W.cell? ⟨B, 5, none⟩ = some (.slice (some ⟨w.heap.size + 1, 0, none⟩) 1 1)
  x6 : W.cell? ⟨B, 6, none⟩ = some (.slice (some ⟨w.heap.size + 2, 0, none⟩) 1 1)
  x7 : W.cell? ⟨B, 7, none⟩ = some (.slice none 0 0)
  x8 : W.cell? ⟨B, 8, none⟩ = some (.slice none 0 0)
  x9 : W.cell? ⟨B, 9, none⟩ = some (.slice none 0 0)
  x10 : W.cell? ⟨B, 10, none⟩ = some (.slice none 0 0)
  x11 : W.cell? ⟨B, 11, none⟩ = some (.slice none 0 0)
  x12 : W.cell? ⟨B, 12, none⟩ = some (.slice (some ⟨w.heap.size + 3, 0, none⟩) n 2)
  x13 : W.cell? ⟨B, 13, none⟩ = some (.slice (some ⟨w.heap.size + 4, 0, none⟩) 3 3)

theorem SmW.below {w W W' : World} (h : SmW w W) (hb : Below W.heap.size W W') : SmW w W' := ⟨h.1.trans (hb.mono h.1.size), h.2.below hb (Nat.le_refl _)⟩
theorem SB.below {w W W' : World} {B n : Nat} (h : SB w B n W) (hb : Below W.heap.size W W') : SB w B n W' := by
  have e : ∀ k, W'.cell? ⟨B, k, none⟩ = W.cell? ⟨B, k, none⟩ := fun k => hb.cell (p := ⟨B, k, none⟩) h.lt
  exact ⟨h.m.below hb, h.l, Nat.lt_of_lt_of_le h.lt hb.size, by rw [hb.frozen (p := ⟨B, 12, none⟩) h.lt]; exact h.f, by rw [e]; exact h.x0, by rw [e]; exact h.x1, by rw [e]; exact h.x2, by rw [e]; exact h.x3, by rw [e]; exact h.x4, by rw [e]; exact h.x5, by rw [e]; exact h.x6, by rw [e]; exact h.x7, by rw [e]; exact h.x8, by rw [e]; exact h.x9, by rw [e]; exact h.x10, by rw [e]; exact h.x11, by rw [e]; exact h.x12, by rw [e]; exact h.x13⟩
theorem SB.new {w W : World} (h : SmW w W) : SB w W.heap.size 2 (W.alloc (.cells #[.string ⟨#[99, 112, 117]⟩, .string ⟨#[116]⟩, .int .i64 1, .int .i64 0, .slice none 0 0, .slice (some ⟨w.heap.size + 1, 0, none⟩) 1 1, .slice (some ⟨w.heap.size + 2, 0, none⟩) 1 1, .slice none 0 0, .slice none 0 0, .slice none 0 0, .slice none 0 0, .slice none 0 0, .slice (some ⟨w.heap.size + 3, 0, none⟩) 2 2, .slice (some ⟨w.heap.size + 4, 0, none⟩) 3 3] 28)) := by
  refine ⟨h.below ((Below.refl _ _).alloc (Nat.le_refl _) _), h.1.size, by simp, ?_, ?_, ?_, ?_, ?_, ?_, ?_, ?_, ?_, ?_, ?_, ?_, ?_, ?_, ?_⟩ <;> simp [go_sem]
theorem SB.cut {w W V : World} (hm : SmW w V) (hV : Below V.heap.size V W) (h : SB w V.heap.size 2 W) : SB w V.heap.size 1 (W.setCell ⟨V.heap.size, 12, none⟩ (.slice (some ⟨w.heap.size + 3, 0, none⟩) 1 2)) := by
  have b : Below V.heap.size V (W.setCell ⟨V.heap.size, 12, none⟩ (.slice (some ⟨w.heap.size + 3, 0, none⟩) 1 2)) := hV.setCell (p := ⟨V.heap.size, 12, none⟩) (Nat.le_refl _) _
  refine ⟨hm.below b, h.l, by simpa using h.lt, ?_, ?_, ?_, ?_, ?_, ?_, ?_, ?_, ?_, ?_, ?_, ?_, ?_, ?_, ?_⟩ <;> simp [go_sem, h.f, h.x0, h.x1, h.x2, h.x3, h.x4, h.x5, h.x6, h.x7, h.x8, h.x9, h.x10, h.x11, h.x12, h.x13]
set_option maxHeartbeats 8000000 in
theorem live_any (w : World) (hU : UT w) (hR : RT w) (hE : ET w) : Calls Tryz.prog 8 #[] w fun e w' => e = .returned (.bool true) ∧ Below w.heap.size w w' := by
  have c1 : Hid (Calls Tryz.prog 22 #[] w fun e w' => e = .returned (.agg #[.string ⟨#[99, 112, 117]⟩, .string ⟨#[116]⟩, .int .i64 1, .int .i64 0, .slice none 0 0, .slice (some ⟨w.heap.size + 1, 0, none⟩) 1 1, .slice (some ⟨w.heap.size + 2, 0, none⟩) 1 1, .slice none 0 0, .slice none 0 0, .slice none 0 0, .slice none 0 0, .slice none 0 0, .slice (some ⟨w.heap.size + 3, 0, none⟩) 2 2, .slice (some ⟨w.heap.size + 4, 0, none⟩) 3 3]) ∧ SmW w w') := small_any w
  have c2 : Hid (∀ W, SmW w W → Calls Tryz.prog 12 #[.agg #[.string ⟨#[99, 112, 117]⟩, .string ⟨#[116]⟩, .int .i64 1, .int .i64 0, .slice none 0 0, .slice (some ⟨w.heap.size + 1, 0, none⟩) 1 1, .slice (some ⟨w.heap.size + 2, 0, none⟩) 1 1, .slice none 0 0, .slice none 0 0, .slice none 0 0, .slice none 0 0, .slice none 0 0, .slice (some ⟨w.heap.size + 3, 0, none⟩) 2 2, .slice (some ⟨w.heap.size + 4, 0, none⟩) 3 3]] W fun e w' => (∃ b1, e = .returned (.tuple #[.slice (some ⟨b1, 0, none⟩) 2 2, .nilIface]) ∧ Hid (w'.cell? ⟨b1, 0, none⟩ = some (.int .i64 0) ∧ w'.cell? ⟨b1, 1, none⟩ = some (.int .i64 1) ∧ W.heap.size ≤ b1 ∧ b1 < w'.heap.size)) ∧ Below W.heap.size W w') := fun W hW => (heights_none (smP w.heap.size 2) (smL sm2) (smN _) (smC (Or.inl rfl)) (smO _) W (hU.below hW.1 (Nat.le_refl _)) (hR.below hW.1 hR.lt) hW.2 (sm_res _)).mono (fun e w' hh => by
    obtain ⟨⟨b1, l1, h1, h2⟩, h3⟩ := hh
    refine ⟨⟨b1, h1, ?_, ?_, l1, h2.1⟩, h3⟩
    · have := (h2.2 0 (by show 0 < 2; omega)).1
      rw [show (smL sm2).filter = sm2 from rfl, sm_hgt] at this
      exact this
    · have := (h2.2 1 (by show 1 < 2; omega)).1
      rw [show (smL sm2).filter = sm2 from rfl, sm_hgt] at this
      exact this)
  have c3 : Hid (∀ W, SmW w W → Calls Tryz.prog 10 #[.agg #[.string ⟨#[99, 112, 117]⟩, .string ⟨#[116]⟩, .int .i64 1, .int .i64 0, .slice none 0 0, .slice (some ⟨w.heap.size + 1, 0, none⟩) 1 1, .slice (some ⟨w.heap.size + 2, 0, none⟩) 1 1, .slice none 0 0, .slice none 0 0, .slice none 0 0, .slice none 0 0, .slice none 0 0, .slice (some ⟨w.heap.size + 3, 0, none⟩) 1 2, .slice (some ⟨w.heap.size + 4, 0, none⟩) 3 3]] W fun e w' => e = .returned (atE 1 193) ∧ Below W.heap.size W w') := fun W hW => by
    have := program_any (smP w.heap.size 1) (smL sm1) (smN1 _) (smC (Or.inr rfl)) (smO _) W (hU.below hW.1 (Nat.le_refl _)) (hR.below hW.1 hR.lt) hW.2.one
    rw [sm_res1] at this
    exact this
  have c4 : Hid (∀ W, SmW w W → Calls Tryz.prog 25 #[atE 1 193, .int .i64 193] W fun e w' => e = .returned (.bool true) ∧ Below W.heap.size W w') := fun W hW => isAt_any 1 193 193 (by decide) W (ET_below hE hW.1)
  have c5 : Hid (∀ W a b, (W.cell? ⟨a, 0, none⟩ = some (.int .i64 0) ∧ W.cell? ⟨a, 1, none⟩ = some (.int .i64 1)) → (W.cell? ⟨b, 0, none⟩ = some (.int .i64 0) ∧ W.cell? ⟨b, 1, none⟩ = some (.int .i64 1)) → Calls Tryz.prog 16 #[.slice (some ⟨a, 0, none⟩) 2 2, .slice (some ⟨b, 0, none⟩) 2 2] W fun e w' => e = .returned (.bool true) ∧ Below W.heap.size W w') := fun W a b ha hb => sameInts_any 2 (by omega) a b 2 2 (fun k => k) W (fun k hk => by
      match k, hk with
      | 0, _ => exact ha.1
      | 1, _ => exact ha.2) (fun k hk => by
      match k, hk with
      | 0, _ => exact hb.1
      | 1, _ => exact hb.2)
  clear hU hR hE
  go_enter Tryz.func8, Tryz.ntmps8
  go_wp2_with fail
  with_reducible refine Calls.mono c1.out ?_
  rintro e w1 ⟨rfl, s1⟩
  have s1H : Hid (SmW w w1) := s1
  have sb2 : Hid (SB w w1.heap.size 2 (w1.alloc (.cells #[.string ⟨#[99, 112, 117]⟩, .string ⟨#[116]⟩, .int .i64 1, .int .i64 0, .slice none 0 0, .slice (some ⟨w.heap.size + 1, 0, none⟩) 1 1, .slice (some ⟨w.heap.size + 2, 0, none⟩) 1 1, .slice none 0 0, .slice none 0 0, .slice none 0 0, .slice none 0 0, .slice none 0 0, .slice (some ⟨w.heap.size + 3, 0, none⟩) 2 2, .slice (some ⟨w.heap.size + 4, 0, none⟩) 3 3] 28))) := SB.new s1
  have b2 : Hid (Below w1.heap.size w1 (w1.alloc (.cells #[.string ⟨#[99, 112, 117]⟩, .string ⟨#[116]⟩, .int .i64 1, .int .i64 0, .slice none 0 0, .slice (some ⟨w.heap.size + 1, 0, none⟩) 1 1, .slice (some ⟨w.heap.size + 2, 0, none⟩) 1 1, .slice none 0 0, .slice none 0 0, .slice none 0 0, .slice none 0 0, .slice none 0 0, .slice (some ⟨w.heap.size + 3, 0, none⟩) 2 2, .slice (some ⟨w.heap.size + 4, 0, none⟩) 3 3] 28))) := (Below.refl _ _).alloc (Nat.le_refl _) _
  clear s1 c1
  go_wp2_with fail
  with_reducible refine Calls.mono (c2.out _ sb2.out.m) ?_
  rintro e w3 ⟨⟨b1, rfl, k1⟩, b3⟩
  have sb3 : Hid (SB w w1.heap.size 2 w3) := sb2.out.below b3
  have b13 : Hid (Below w1.heap.size w1 w3) := b2.out.trans (b3.mono b2.out.size)
  have nb : b1 ≠ w1.heap.size := by have := k1.out.2.2.1; simp at this; omega
  clear b3 b2 sb2 c2
  have f12 := sb3.out.f
  have x12 := sb3.out.x12
  have l3 := sb3.out.lt
  have sb4 : Hid (SB w w1.heap.size 1 (w3.setCell ⟨w1.heap.size, 12, none⟩ (.slice (some ⟨w.heap.size + 3, 0, none⟩) 1 2))) := SB.cut s1H.out b13.out sb3.out
  have k4 : Hid ((w3.setCell ⟨w1.heap.size, 12, none⟩ (.slice (some ⟨w.heap.size + 3, 0, none⟩) 1 2)).cell? ⟨b1, 0, none⟩ = some (.int .i64 0) ∧ (w3.setCell ⟨w1.heap.size, 12, none⟩ (.slice (some ⟨w.heap.size + 3, 0, none⟩) 1 2)).cell? ⟨b1, 1, none⟩ = some (.int .i64 1) ∧ b1 < (w3.setCell ⟨w1.heap.size, 12, none⟩ (.slice (some ⟨w.heap.size + 3, 0, none⟩) 1 2)).heap.size) := by
    refine ⟨?_, ?_, by simpa using k1.out.2.2.2⟩
    · rw [World.cell?_setCell_other _ _ _ _ (by intro h; injection h; omega)]; exact k1.out.1
    · rw [World.cell?_setCell_other _ _ _ _ (by intro h; injection h; omega)]; exact k1.out.2.1
  clear sb3 k1 s1H b13
  go_wp2_with fail
  clear f12 x12 l3
  have hsz : Hid ((w3.setCell ⟨w1.heap.size, 12, none⟩ (.slice (some ⟨w.heap.size + 3, 0, none⟩) 1 2)).heap.size = w3.heap.size) := hid (by simp)
  generalize World.setCell w3 _ _ = W4 at sb4 k4 hsz ⊢
  have b5 : Below W4.heap.size W4 (W4.alloc (.cells #[.int .i64 0, .int .i64 1] 3)) := (Below.refl _ _).alloc (Nat.le_refl _) _
  have sb5 : Hid (SB w w1.heap.size 1 (W4.alloc (.cells #[.int .i64 0, .int .i64 1] 3))) := sb4.out.below b5
  have k5 : Hid ((W4.alloc (.cells #[.int .i64 0, .int .i64 1] 3)).cell? ⟨b1, 0, none⟩ = some (.int .i64 0) ∧ (W4.alloc (.cells #[.int .i64 0, .int .i64 1] 3)).cell? ⟨b1, 1, none⟩ = some (.int .i64 1)) := ⟨by rw [b5.cell (p := ⟨b1, 0, none⟩) k4.out.2.2]; exact k4.out.1, by rw [b5.cell (p := ⟨b1, 1, none⟩) k4.out.2.2]; exact k4.out.2.1⟩
  have k6 : Hid ((W4.alloc (.cells #[.int .i64 0, .int .i64 1] 3)).cell? ⟨w3.heap.size, 0, none⟩ = some (.int .i64 0) ∧ (W4.alloc (.cells #[.int .i64 0, .int .i64 1] 3)).cell? ⟨w3.heap.size, 1, none⟩ = some (.int .i64 1)) := ⟨by rw [← hsz.out]; simp [go_sem], by rw [← hsz.out]; simp [go_sem]⟩
  clear b5 sb4 k4
  with_reducible refine Calls.mono (c5.out _ _ _ k5.out k6.out) ?_
  rintro e w6 ⟨rfl, b6⟩
  have sb6 : Hid (SB w w1.heap.size 1 w6) := sb5.out.below b6
  clear b6 sb5 k5 k6 c5
  obtain ⟨_, _, l6, _, y0, y1, y2, y3, y4, y5, y6, y7, y8, y9, y10, y11, y12, y13⟩ := sb6.out
  go_wp2_with fail
  clear l6 y0 y1 y2 y3 y4 y5 y6 y7 y8 y9 y10 y11 y12 y13
  with_reducible refine Calls.mono (c3.out _ sb6.out.m) ?_
  rintro e w7 ⟨rfl, b7⟩
  have sb7 : Hid (SB w w1.heap.size 1 w7) := sb6.out.below b7
  clear b7 sb6 c3
  unfold atE at c4
  unfold atE
  go_wp2_with fail
  with_reducible refine Calls.mono (c4.out _ sb7.out.m) ?_
  rintro e w8 ⟨rfl, b8⟩
  have sb8 : Hid (SB w w1.heap.size 1 w8) := sb7.out.below b8
  clear b8 sb7 c4
  go_wp2_with fail
  go_ret
  exact ⟨rfl, sb8.out.m.1⟩
end Go.Proofs.YtdfnomglkibfbaaGreatDoor.Vf

namespace Go.Proofs.YtdfnomglkibfbaaGreatDoor.Vf
open Go.ChangeShapes Go.WideShapes Go.ChangeAt Go.RowKit Go.Joins
set_option linter.unusedVariables false
set_option linter.unusedSimpArgs false
set_option maxRecDepth 100000
theorem RT_of_reads {W : World} (h : Lib.VarReads Tryz.prog W "weir/verify.rows" Rows.laid_weir_verify_rows) : RT W := by
  obtain ⟨g, t, cs, fuel, p, hg, ht, hvar, hd⟩ := h
  obtain rfl := Option.some.inj (rows_global.symm.trans hg)
  obtain rfl := Option.some.inj (rows_type.symm.trans ht)
  obtain ⟨xs, m, hk, hx, hcl, hxl, hff⟩ := DataW.trod_array Tryz.underlying250 hd
  rw [rows_cells] at hcl
  simp only [rows_cell] at hff
  have hx1 := congrArg (·.1) hx
  rw [laid_rows] at hx1
  have hx2 : rowsL.map rowD = xs.map (·.1) := by simpa using hx1
  intro c hc j hj
  have hxc : c < xs.length := by omega
  have e1 := hff c hc
  rw [List.getElem?_eq_getElem hxc] at e1
  have e2 : (xs[c]).1 = rowD (rowF c) := by
    have a := congrArg (fun l => l[c]?) hx2
    simp only [List.getElem?_map] at a
    rw [List.getElem?_eq_getElem hxc] at a
    have hrl : c < rowsL.length := by simpa [rowsL] using hc
    rw [List.getElem?_eq_getElem hrl] at a
    simp only [Option.map_some, Option.some.injEq] at a
    rw [← a]
    unfold rowF
    rw [List.getD_eq_getElem?_getD, List.getElem?_eq_getElem hrl]; rfl
  have e3 := row_trod e1 e2
  have h0 := World.var?_cell rows_global hvar (c * 6 + j)
  rw [h0, ← e3, List.getElem?_take_of_lt hj, List.getElem?_drop]
  simp
theorem weightsAll_mem {H : Type} {P : Program} {e : TypeId} {k : Nat} : ∀ {l : List (DataW H)} {d : DataW H}, d ∈ l → k ∈ d.weights P e → k ∈ DataW.weightsAll P e l
  | x :: r, d, hd, hk => by
    unfold DataW.weightsAll
    rcases List.mem_cons.1 hd with rfl | hd
    · exact List.mem_append_left _ hk
    · exact List.mem_append_right _ (weightsAll_mem hd hk)
theorem add_at (b off i : Nat) : (⟨b, off, none⟩ : Addr).add i = ⟨b, off + i, none⟩ := by unfold Addr.add; split <;> simp_all
/-- a slice, as it is read: c cells an element, each as Q says. -/
theorem sl_read {H : Type} {enc : TypeId × Value → H} {W : World} {v : Value} {y : DataW H × List MemPlace} {fuel : Nat} {T E : TypeId} {α : Type} [Inhabited α]
    (hu : Tryz.prog.underlying T = some (.slice E)) (c : Nat) (hce : Tryz.prog.cellsOf E = c) (hc0 : 0 < c) (hby : 1 ≤ Tryz.prog.bytesOf E) (Q : α → List Value → Prop)
    (hf : DataW.trod enc Tryz.prog W 0 (fun _ => true) true fuel T [v] = some y) (hw : ∀ k ∈ y.1.weights Tryz.prog T, k ≤ reachBytes)
    (hel : ∀ n cs' z, DataW.trod enc Tryz.prog W 0 (fun _ => true) true n E cs' = some z → cs'.length = c → (∀ k ∈ z.1.weights Tryz.prog E, k ≤ reachBytes) → ∃ x : α, Q x cs') :
    ∃ a l cap, v = .slice a l.length cap ∧ (l = [] ∨ ∃ b off, a = some ⟨b, off, none⟩ ∧ b < W.heap.size ∧ ∀ i t, l[i]? = some t → ∃ cs', Q t cs' ∧ cs'.length = c ∧ ∀ j, j < c → W.cell? ⟨b, off + i * c + j, none⟩ = cs'[j]?) ∧ l.length ≤ 1152921504606846976 := by
  rcases Go.Deep.open_slice hu hf with ⟨hcs, hx⟩ | ⟨a, len, cap, m, n, D, Pl, hcs, hb, hl, hm, hmm, hx, hall⟩
  · simp at hcs
    subst hcs
    exact ⟨none, [], 0, rfl, Or.inl rfl, by simp⟩
  · simp at hcs
    subst hcs
    simp only [if_true] at hmm
    subst hmm
    have hd : y.1 = .slice ((List.range len).map D) ((List.range (m - len)).map fun j => D (len + j)) := congrArg (·.1) hx
    have hlen : len ≤ 1152921504606846976 := by
      have h1 := hw ((((List.range len).map D).length + ((List.range (m - len)).map fun j => D (len + j)).length) * Tryz.prog.bytesOf E) (by rw [hd]; simp [DataW.weights, hu])
      rw [List.length_map, List.length_map, List.length_range, List.length_range] at h1
      have h2 : reachBytes = 140737488351232 := by decide
      have h3 : len ≤ (len + (m - len)) * Tryz.prog.bytesOf E := Nat.le_trans (by omega) (Nat.le_mul_of_pos_right _ hby)
      omega
    have each : ∀ i, i < len → ∃ x : α, ∃ cs', Q x cs' ∧ cs'.length = c ∧ ∀ j, j < c → W.cell? (a.add (i * c + j)) = cs'[j]? := by
      intro i hi
      obtain ⟨cs', h1, h2⟩ := hall i (by omega)
      rw [hce] at h1
      obtain ⟨_, hlen', hcell⟩ := World.cells?_some h1
      obtain ⟨x, hx'⟩ := hel n cs' _ h2 hlen' (fun k hk => hw k (by
        rw [hd]
        unfold DataW.weights
        rw [hu]
        exact List.mem_cons_of_mem _ (List.mem_append_left _ (weightsAll_mem (List.mem_map.2 ⟨i, List.mem_range.2 hi, rfl⟩) hk))))
      refine ⟨x, cs', hx', hlen', fun j hj => ?_⟩
      have := hcell j (by omega)
      rw [Go.Deep.add_add] at this
      exact this
    obtain ⟨g, hg⟩ : ∃ g : Nat → α, ∀ i, i < len → ∃ cs', Q (g i) cs' ∧ cs'.length = c ∧ ∀ j, j < c → W.cell? (a.add (i * c + j)) = cs'[j]? := ⟨fun i => if hi : i < len then Classical.choose (each i hi) else default, fun i hi => by simp only [hi, dif_pos]; exact Classical.choose_spec (each i hi)⟩
    refine ⟨some a, (List.range len).map g, m, by simp, ?_, by simpa using hlen⟩
    rcases Nat.eq_zero_or_pos len with h0 | h0
    · exact Or.inl (by rw [h0]; rfl)
    · right
      obtain ⟨b, off, spot⟩ := a
      obtain ⟨cs0, _, l0, k0⟩ := hg 0 h0
      have k00 := k0 0 hc0
      obtain ⟨v0, hv0⟩ : ∃ v0, cs0[0]? = some v0 := ⟨_, List.getElem?_eq_getElem (by omega)⟩
      rw [hv0] at k00
      have hspot : spot = none := by simpa [Addr.add] using World.cell?_spot k00
      subst hspot
      refine ⟨b, off, rfl, ?_, fun i t ht => ?_⟩
      · rw [add_at] at k00
        exact World.block_lt_of_cell? _ _ k00
      · rw [List.getElem?_map, Option.map_eq_some_iff] at ht
        obtain ⟨i', hi', rfl⟩ := ht
        have hlt := (List.getElem?_eq_some_iff.1 hi').1
        rw [List.length_range] at hlt
        rw [List.getElem?_range hlt] at hi'
        injection hi' with hi'
        subst hi'
        obtain ⟨cs', q1, q2, q3⟩ := hg i hlt
        refine ⟨cs', q1, q2, fun j hj => ?_⟩
        have := q3 j hj
        rw [add_at] at this
        rw [Nat.add_assoc]
        exact this
theorem strs_read {H : Type} {enc : TypeId × Value → H} {W : World} {v : Value} {y : DataW H × List MemPlace} {fuel : Nat}
    (hf : DataW.trod enc Tryz.prog W 0 (fun _ => true) true fuel 22 [v] = some y) (hw : ∀ k ∈ y.1.weights Tryz.prog 22, k ≤ reachBytes) :
    ∃ a l cap, v = .slice a l.length cap ∧ StIn W a l ∧ l.length ≤ 1152921504606846976 := by
  haveI : Inhabited ByteArray := ⟨⟨#[]⟩⟩
  obtain ⟨a, l, cap, h1, h2, h3⟩ := sl_read (α := ByteArray) Tryz.underlying22 1 (by kernel_rfl) (by omega) (of_decide_eq_true (by kernel_rfl)) (fun s cs => cs = [.string s]) hf hw (fun n cs' z hz hl _ => by
    match cs', hl with
    | [v], _ =>
      obtain ⟨s, e, _⟩ := DataW.trod_string Tryz.underlying9 hz
      exact ⟨s, e⟩)
  refine ⟨a, l, cap, h1, ?_, h3⟩
  rcases h2 with h2 | ⟨b, off, e1, e2, e3⟩
  · exact Or.inl h2
  · refine Or.inr ⟨b, off, e1, e2, fun i t ht => ?_⟩
    obtain ⟨cs', q1, q2, q3⟩ := e3 i t ht
    have := q3 0 (by omega)
    rw [q1] at this
    simpa using this
theorem accs_read {H : Type} {enc : TypeId × Value → H} {W : World} {v : Value} {y : DataW H × List MemPlace} {fuel : Nat}
    (hf : DataW.trod enc Tryz.prog W 0 (fun _ => true) true fuel 23 [v] = some y) (hw : ∀ k ∈ y.1.weights Tryz.prog 23, k ≤ reachBytes) :
    ∃ a l cap, v = .slice a l.length cap ∧ AcIn W a l ∧ l.length ≤ 1152921504606846976 := by
  haveI : Inhabited AcP := ⟨(0, ⟨#[]⟩)⟩
  obtain ⟨a, l, cap, h1, h2, h3⟩ := sl_read (α := AcP) Tryz.underlying23 2 (by kernel_rfl) (by omega) (of_decide_eq_true (by kernel_rfl)) (fun s cs => cs = [.int .u8 (s.1 : Int), .string s.2]) hf hw (fun n cs' z hz hl _ => by
    obtain ⟨xs, k, hk, hxy, _, hxl, hff⟩ := DataW.trod_struct Tryz.underlying55 hz
    match xs, hxl, cs', hl with
    | [y0, y1], _, [v0, v1], _ =>
      have cs : Tryz.prog.cellsOf 9 = 1 := by kernel_rfl
      have cu : Tryz.prog.cellsOf 53 = 1 := by kernel_rfl
      have g0 : DataW.trod enc Tryz.prog W 0 (fun _ => true) true k 53 (List.take (Tryz.prog.cellsOf 53) [v0, v1]) = some y0 := hff 0 _ rfl
      have g1 : DataW.trod enc Tryz.prog W 0 (fun _ => true) true k 9 (List.take (Tryz.prog.cellsOf 9) [v1]) = some y1 := hff 1 _ rfl
      rw [cu] at g0
      rw [cs] at g1
      simp only [List.take_succ_cons, List.take_zero] at g0 g1
      obtain ⟨k0, e0, _, w0⟩ := DataW.trod_int Tryz.underlying53 g0
      obtain ⟨s1, e1, _, w1⟩ := DataW.trod_string Tryz.underlying9 g1
      simp at e0 e1
      subst e0 e1
      have wb := bounds_u8 w0
      exact ⟨(k0.toNat, s1), by simp only; rw [Int.toNat_of_nonneg (by omega)]⟩)
  refine ⟨a, l, cap, h1, ?_, h3⟩
  rcases h2 with h2 | ⟨b, off, e1, e2, e3⟩
  · exact Or.inl h2
  · refine Or.inr ⟨b, off, e1, e2, fun i t ht => ?_⟩
    obtain ⟨cs', q1, q2, q3⟩ := e3 i t ht
    have r0 := q3 0 (by omega)
    have r1 := q3 1 (by omega)
    rw [q1] at r0 r1
    exact ⟨by simpa using r0, by simpa using r1⟩
theorem ins_read {H : Type} {enc : TypeId × Value → H} {W : World} {v : Value} {y : DataW H × List MemPlace} {fuel : Nat}
    (hf : DataW.trod enc Tryz.prog W 0 (fun _ => true) true fuel 26 [v] = some y) (hw : ∀ k ∈ y.1.weights Tryz.prog 26, k ≤ reachBytes) :
    ∃ a l cap, v = .slice a l.length cap ∧ InIn W a l ∧ l.length ≤ 1152921504606846976 ∧ ∀ (j : Nat) (t : InP), l[j]? = some t → t.c < 256 := by
  haveI : Inhabited InP := ⟨⟨0, 0, 0⟩⟩
  obtain ⟨a, l, cap, h1, h2, h3⟩ := sl_read (α := InP) Tryz.underlying26 3 (by kernel_rfl) (by omega) (of_decide_eq_true (by kernel_rfl)) (fun s cs => cs = [.int .u8 (s.c : Int), .int .i64 s.a, .int .i64 s.b] ∧ s.c < 256) hf hw (fun n cs' z hz hl _ => by
    obtain ⟨xs, k, hk, hxy, _, hxl, hff⟩ := DataW.trod_struct Tryz.underlying59 hz
    match xs, hxl, cs', hl with
    | [y0, y1, y2], _, [v0, v1, v2], _ =>
      have ci : Tryz.prog.cellsOf 3 = 1 := by kernel_rfl
      have cu : Tryz.prog.cellsOf 57 = 1 := by kernel_rfl
      have g0 : DataW.trod enc Tryz.prog W 0 (fun _ => true) true k 57 (List.take (Tryz.prog.cellsOf 57) [v0, v1, v2]) = some y0 := hff 0 _ rfl
      have g1 : DataW.trod enc Tryz.prog W 0 (fun _ => true) true k 3 (List.take (Tryz.prog.cellsOf 3) [v1, v2]) = some y1 := hff 1 _ rfl
      have g2 : DataW.trod enc Tryz.prog W 0 (fun _ => true) true k 3 (List.take (Tryz.prog.cellsOf 3) [v2]) = some y2 := hff 2 _ rfl
      rw [cu] at g0
      rw [ci] at g1 g2
      simp only [List.take_succ_cons, List.take_zero] at g0 g1 g2
      obtain ⟨k0, e0, _, w0⟩ := DataW.trod_int Tryz.underlying57 g0
      obtain ⟨k1, e1, _, w1⟩ := DataW.trod_int Tryz.underlying3 g1
      obtain ⟨k2, e2, _, w2⟩ := DataW.trod_int Tryz.underlying3 g2
      simp at e0 e1 e2
      subst e0 e1 e2
      have wb := bounds_u8 w0
      exact ⟨⟨k0.toNat, k1, k2⟩, by simp only; rw [Int.toNat_of_nonneg (by omega)], by simp only; omega⟩)
  refine ⟨a, l, cap, h1, ?_, h3, fun j t ht => ?_⟩
  · rcases h2 with h2 | ⟨b, off, e1, e2, e3⟩
    · exact Or.inl h2
    · refine Or.inr ⟨b, off, e1, e2, fun i t ht => ?_⟩
      obtain ⟨cs', q1, q2, q3⟩ := e3 i t ht
      have r0 := q3 0 (by omega)
      have r1 := q3 1 (by omega)
      have r2 := q3 2 (by omega)
      rw [q1.1] at r0 r1 r2
      exact ⟨by simpa using r0, by simpa using r1, by simpa using r2⟩
  · rcases h2 with h2 | ⟨b, off, e1, e2, e3⟩
    · rw [h2] at ht; simp at ht
    · obtain ⟨cs', q1, q2, q3⟩ := e3 j t ht
      exact q1.2
theorem lists_read {H : Type} {enc : TypeId × Value → H} {W : World} {v : Value} {y : DataW H × List MemPlace} {fuel : Nat}
    (hf : DataW.trod enc Tryz.prog W 0 (fun _ => true) true fuel 24 [v] = some y) (hw : ∀ k ∈ y.1.weights Tryz.prog 24, k ≤ reachBytes) :
    ∃ a l cap, v = .slice a l.length cap ∧ LsIn W a l ∧ l.length ≤ 1152921504606846976 := by
  obtain ⟨a, l, cap, h1, h2, h3⟩ := sl_read (α := List ByteArray) Tryz.underlying24 1 (by kernel_rfl) (by omega) (of_decide_eq_true (by kernel_rfl)) (fun s cs => s.length ≤ 1152921504606846976 ∧ ∃ x c, cs = [.slice x s.length c] ∧ StIn W x s) hf hw (fun n cs' z hz hl hzw => by
    match cs', hl with
    | [v], _ =>
      obtain ⟨x, s, c, e1, e2, e3⟩ := strs_read hz hzw
      exact ⟨s, e3, x, c, by rw [e1], e2⟩)
  refine ⟨a, l, cap, h1, ?_, h3⟩
  rcases h2 with h2 | ⟨b, off, e1, e2, e3⟩
  · exact Or.inl h2
  · refine Or.inr ⟨b, off, e1, e2, fun i t ht => ?_⟩
    obtain ⟨cs', ⟨q0, x, c, q1, q4⟩, q2, q3⟩ := e3 i t ht
    have := q3 0 (by omega)
    rw [q1] at this
    exact ⟨q0, x, c, by simpa using this, q4⟩
theorem ints_any {H : Type} {enc : TypeId × Value → H} {W : World} {v : Value} {y : DataW H × List MemPlace} {fuel : Nat}
    (hf : DataW.trod enc Tryz.prog W 0 (fun _ => true) true fuel 25 [v] = some y) : ∃ a n cap, v = .slice a n cap := by
  rcases Go.Deep.open_slice Tryz.underlying25 hf with ⟨hcs, hx⟩ | ⟨a, len, cap, m, n, D, Pl, hcs, _⟩
  · simp at hcs; exact ⟨_, _, _, hcs⟩
  · simp at hcs; exact ⟨_, _, _, hcs⟩
theorem len14 {α : Type} : ∀ {l : List α}, l.length = 14 → ∃ a0 a1 a2 a3 a4 a5 a6 a7 a8 a9 a10 a11 a12 a13, l = [a0, a1, a2, a3, a4, a5, a6, a7, a8, a9, a10, a11, a12, a13]
  | [a0, a1, a2, a3, a4, a5, a6, a7, a8, a9, a10, a11, a12, a13], _ => ⟨a0, a1, a2, a3, a4, a5, a6, a7, a8, a9, a10, a11, a12, a13, rfl⟩
/-- a program by value, opened. -/
theorem prog_open {H : Type} {enc : TypeId × Value → H} {W : World} {v : Value} {b0 : Nat} {d : DataW H} {p : List MemPlace} (hv : Value.okWide Tryz.prog W .any b0 28 v) (h : DataW.Trod enc Tryz.prog W 0 (fun _ => true) true 28 v d p) :
    ∃ (c0 c1 c2 c3 c4 c5 c6 c7 c8 c9 c10 c11 c12 c13 : Value) (y0 y1 y2 y3 y4 y5 y6 y7 y8 y9 y10 y11 y12 y13 : DataW H × List MemPlace) (n : Nat), v = .agg #[c0, c1, c2, c3, c4, c5, c6, c7, c8, c9, c10, c11, c12, c13] ∧ d = .agg [y0.1, y1.1, y2.1, y3.1, y4.1, y5.1, y6.1, y7.1, y8.1, y9.1, y10.1, y11.1, y12.1, y13.1] ∧ DataW.trod enc Tryz.prog W 0 (fun _ => true) true n 9 [c0] = some y0 ∧ DataW.trod enc Tryz.prog W 0 (fun _ => true) true n 9 [c1] = some y1 ∧ DataW.trod enc Tryz.prog W 0 (fun _ => true) true n 2 [c2] = some y2 ∧ DataW.trod enc Tryz.prog W 0 (fun _ => true) true n 2 [c3] = some y3 ∧ DataW.trod enc Tryz.prog W 0 (fun _ => true) true n 22 [c4] = some y4 ∧ DataW.trod enc Tryz.prog W 0 (fun _ => true) true n 23 [c5] = some y5 ∧ DataW.trod enc Tryz.prog W 0 (fun _ => true) true n 22 [c6] = some y6 ∧ DataW.trod enc Tryz.prog W 0 (fun _ => true) true n 22 [c7] = some y7 ∧ DataW.trod enc Tryz.prog W 0 (fun _ => true) true n 22 [c8] = some y8 ∧ DataW.trod enc Tryz.prog W 0 (fun _ => true) true n 24 [c9] = some y9 ∧ DataW.trod enc Tryz.prog W 0 (fun _ => true) true n 25 [c10] = some y10 ∧ DataW.trod enc Tryz.prog W 0 (fun _ => true) true n 25 [c11] = some y11 ∧ DataW.trod enc Tryz.prog W 0 (fun _ => true) true n 26 [c12] = some y12 ∧ DataW.trod enc Tryz.prog W 0 (fun _ => true) true n 26 [c13] = some y13 := by
  obtain ⟨cs, rfl, hsz⟩ := okWide_struct Tryz.underlying28 hv
  have hC : Tryz.prog.cellsOf 28 = 14 := by kernel_rfl
  obtain ⟨c0, c1, c2, c3, c4, c5, c6, c7, c8, c9, c10, c11, c12, c13, hcs⟩ := len14 (l := cs.toList) (by rw [Array.length_toList]; exact hsz.trans hC)
  obtain rfl : cs = #[c0, c1, c2, c3, c4, c5, c6, c7, c8, c9, c10, c11, c12, c13] := by cases cs; simp_all
  obtain ⟨fuel, hf⟩ := h
  obtain ⟨xs, n, _, hx, _, hlen, hff⟩ := DataW.trod_struct Tryz.underlying28 hf
  have hl14 : xs.length = 14 := hlen
  obtain ⟨y0, y1, y2, y3, y4, y5, y6, y7, y8, y9, y10, y11, y12, y13, rfl⟩ := len14 hl14
  have k0 : Tryz.prog.cellsOf 9 = 1 := by kernel_rfl
  have k1 : Tryz.prog.cellsOf 9 = 1 := by kernel_rfl
  have k2 : Tryz.prog.cellsOf 2 = 1 := by kernel_rfl
  have k3 : Tryz.prog.cellsOf 2 = 1 := by kernel_rfl
  have k4 : Tryz.prog.cellsOf 22 = 1 := by kernel_rfl
  have k5 : Tryz.prog.cellsOf 23 = 1 := by kernel_rfl
  have k6 : Tryz.prog.cellsOf 22 = 1 := by kernel_rfl
  have k7 : Tryz.prog.cellsOf 22 = 1 := by kernel_rfl
  have k8 : Tryz.prog.cellsOf 22 = 1 := by kernel_rfl
  have k9 : Tryz.prog.cellsOf 24 = 1 := by kernel_rfl
  have k10 : Tryz.prog.cellsOf 25 = 1 := by kernel_rfl
  have k11 : Tryz.prog.cellsOf 25 = 1 := by kernel_rfl
  have k12 : Tryz.prog.cellsOf 26 = 1 := by kernel_rfl
  have k13 : Tryz.prog.cellsOf 26 = 1 := by kernel_rfl
  have g0 : DataW.trod enc Tryz.prog W 0 (fun _ => true) true n 9 (List.take (Tryz.prog.cellsOf 9) [c0, c1, c2, c3, c4, c5, c6, c7, c8, c9, c10, c11, c12, c13]) = some y0 := hff 0 _ rfl
  rw [k0] at g0
  simp only [List.take_succ_cons, List.take_zero] at g0
  have g1 : DataW.trod enc Tryz.prog W 0 (fun _ => true) true n 9 (List.take (Tryz.prog.cellsOf 9) [c1, c2, c3, c4, c5, c6, c7, c8, c9, c10, c11, c12, c13]) = some y1 := hff 1 _ rfl
  rw [k1] at g1
  simp only [List.take_succ_cons, List.take_zero] at g1
  have g2 : DataW.trod enc Tryz.prog W 0 (fun _ => true) true n 2 (List.take (Tryz.prog.cellsOf 2) [c2, c3, c4, c5, c6, c7, c8, c9, c10, c11, c12, c13]) = some y2 := hff 2 _ rfl
  rw [k2] at g2
  simp only [List.take_succ_cons, List.take_zero] at g2
  have g3 : DataW.trod enc Tryz.prog W 0 (fun _ => true) true n 2 (List.take (Tryz.prog.cellsOf 2) [c3, c4, c5, c6, c7, c8, c9, c10, c11, c12, c13]) = some y3 := hff 3 _ rfl
  rw [k3] at g3
  simp only [List.take_succ_cons, List.take_zero] at g3
  have g4 : DataW.trod enc Tryz.prog W 0 (fun _ => true) true n 22 (List.take (Tryz.prog.cellsOf 22) [c4, c5, c6, c7, c8, c9, c10, c11, c12, c13]) = some y4 := hff 4 _ rfl
  rw [k4] at g4
  simp only [List.take_succ_cons, List.take_zero] at g4
  have g5 : DataW.trod enc Tryz.prog W 0 (fun _ => true) true n 23 (List.take (Tryz.prog.cellsOf 23) [c5, c6, c7, c8, c9, c10, c11, c12, c13]) = some y5 := hff 5 _ rfl
  rw [k5] at g5
  simp only [List.take_succ_cons, List.take_zero] at g5
  have g6 : DataW.trod enc Tryz.prog W 0 (fun _ => true) true n 22 (List.take (Tryz.prog.cellsOf 22) [c6, c7, c8, c9, c10, c11, c12, c13]) = some y6 := hff 6 _ rfl
  rw [k6] at g6
  simp only [List.take_succ_cons, List.take_zero] at g6
  have g7 : DataW.trod enc Tryz.prog W 0 (fun _ => true) true n 22 (List.take (Tryz.prog.cellsOf 22) [c7, c8, c9, c10, c11, c12, c13]) = some y7 := hff 7 _ rfl
  rw [k7] at g7
  simp only [List.take_succ_cons, List.take_zero] at g7
  have g8 : DataW.trod enc Tryz.prog W 0 (fun _ => true) true n 22 (List.take (Tryz.prog.cellsOf 22) [c8, c9, c10, c11, c12, c13]) = some y8 := hff 8 _ rfl
  rw [k8] at g8
  simp only [List.take_succ_cons, List.take_zero] at g8
  have g9 : DataW.trod enc Tryz.prog W 0 (fun _ => true) true n 24 (List.take (Tryz.prog.cellsOf 24) [c9, c10, c11, c12, c13]) = some y9 := hff 9 _ rfl
  rw [k9] at g9
  simp only [List.take_succ_cons, List.take_zero] at g9
  have g10 : DataW.trod enc Tryz.prog W 0 (fun _ => true) true n 25 (List.take (Tryz.prog.cellsOf 25) [c10, c11, c12, c13]) = some y10 := hff 10 _ rfl
  rw [k10] at g10
  simp only [List.take_succ_cons, List.take_zero] at g10
  have g11 : DataW.trod enc Tryz.prog W 0 (fun _ => true) true n 25 (List.take (Tryz.prog.cellsOf 25) [c11, c12, c13]) = some y11 := hff 11 _ rfl
  rw [k11] at g11
  simp only [List.take_succ_cons, List.take_zero] at g11
  have g12 : DataW.trod enc Tryz.prog W 0 (fun _ => true) true n 26 (List.take (Tryz.prog.cellsOf 26) [c12, c13]) = some y12 := hff 12 _ rfl
  rw [k12] at g12
  simp only [List.take_succ_cons, List.take_zero] at g12
  have g13 : DataW.trod enc Tryz.prog W 0 (fun _ => true) true n 26 (List.take (Tryz.prog.cellsOf 26) [c13]) = some y13 := hff 13 _ rfl
  rw [k13] at g13
  simp only [List.take_succ_cons, List.take_zero] at g13
  simp only [Prod.mk.injEq] at hx
  exact ⟨c0, c1, c2, c3, c4, c5, c6, c7, c8, c9, c10, c11, c12, c13, y0, y1, y2, y3, y4, y5, y6, y7, y8, y9, y10, y11, y12, y13, n, rfl, by rw [hx.1]; rfl, g0, g1, g2, g3, g4, g5, g6, g7, g8, g9, g10, g11, g12, g13⟩
theorem in_prog4 {H : Type} {d0 d1 d2 d3 d4 d5 d6 d7 d8 d9 d10 d11 d12 d13 : DataW H} {k : Nat} (hk : k ∈ (d4).weights Tryz.prog 22) : k ∈ (DataW.agg [d0, d1, d2, d3, d4, d5, d6, d7, d8, d9, d10, d11, d12, d13]).weights Tryz.prog 28 := by
  simp [DataW.weights, Tryz.underlying28, DataW.weightsEach, hk]
theorem in_prog5 {H : Type} {d0 d1 d2 d3 d4 d5 d6 d7 d8 d9 d10 d11 d12 d13 : DataW H} {k : Nat} (hk : k ∈ (d5).weights Tryz.prog 23) : k ∈ (DataW.agg [d0, d1, d2, d3, d4, d5, d6, d7, d8, d9, d10, d11, d12, d13]).weights Tryz.prog 28 := by
  simp [DataW.weights, Tryz.underlying28, DataW.weightsEach, hk]
theorem in_prog6 {H : Type} {d0 d1 d2 d3 d4 d5 d6 d7 d8 d9 d10 d11 d12 d13 : DataW H} {k : Nat} (hk : k ∈ (d6).weights Tryz.prog 22) : k ∈ (DataW.agg [d0, d1, d2, d3, d4, d5, d6, d7, d8, d9, d10, d11, d12, d13]).weights Tryz.prog 28 := by
  simp [DataW.weights, Tryz.underlying28, DataW.weightsEach, hk]
theorem in_prog7 {H : Type} {d0 d1 d2 d3 d4 d5 d6 d7 d8 d9 d10 d11 d12 d13 : DataW H} {k : Nat} (hk : k ∈ (d7).weights Tryz.prog 22) : k ∈ (DataW.agg [d0, d1, d2, d3, d4, d5, d6, d7, d8, d9, d10, d11, d12, d13]).weights Tryz.prog 28 := by
  simp [DataW.weights, Tryz.underlying28, DataW.weightsEach, hk]
theorem in_prog8 {H : Type} {d0 d1 d2 d3 d4 d5 d6 d7 d8 d9 d10 d11 d12 d13 : DataW H} {k : Nat} (hk : k ∈ (d8).weights Tryz.prog 22) : k ∈ (DataW.agg [d0, d1, d2, d3, d4, d5, d6, d7, d8, d9, d10, d11, d12, d13]).weights Tryz.prog 28 := by
  simp [DataW.weights, Tryz.underlying28, DataW.weightsEach, hk]
theorem in_prog9 {H : Type} {d0 d1 d2 d3 d4 d5 d6 d7 d8 d9 d10 d11 d12 d13 : DataW H} {k : Nat} (hk : k ∈ (d9).weights Tryz.prog 24) : k ∈ (DataW.agg [d0, d1, d2, d3, d4, d5, d6, d7, d8, d9, d10, d11, d12, d13]).weights Tryz.prog 28 := by
  simp [DataW.weights, Tryz.underlying28, DataW.weightsEach, hk]
theorem in_prog10 {H : Type} {d0 d1 d2 d3 d4 d5 d6 d7 d8 d9 d10 d11 d12 d13 : DataW H} {k : Nat} (hk : k ∈ (d10).weights Tryz.prog 25) : k ∈ (DataW.agg [d0, d1, d2, d3, d4, d5, d6, d7, d8, d9, d10, d11, d12, d13]).weights Tryz.prog 28 := by
  simp [DataW.weights, Tryz.underlying28, DataW.weightsEach, hk]
theorem in_prog11 {H : Type} {d0 d1 d2 d3 d4 d5 d6 d7 d8 d9 d10 d11 d12 d13 : DataW H} {k : Nat} (hk : k ∈ (d11).weights Tryz.prog 25) : k ∈ (DataW.agg [d0, d1, d2, d3, d4, d5, d6, d7, d8, d9, d10, d11, d12, d13]).weights Tryz.prog 28 := by
  simp [DataW.weights, Tryz.underlying28, DataW.weightsEach, hk]
theorem in_prog12 {H : Type} {d0 d1 d2 d3 d4 d5 d6 d7 d8 d9 d10 d11 d12 d13 : DataW H} {k : Nat} (hk : k ∈ (d12).weights Tryz.prog 26) : k ∈ (DataW.agg [d0, d1, d2, d3, d4, d5, d6, d7, d8, d9, d10, d11, d12, d13]).weights Tryz.prog 28 := by
  simp [DataW.weights, Tryz.underlying28, DataW.weightsEach, hk]
theorem in_prog13 {H : Type} {d0 d1 d2 d3 d4 d5 d6 d7 d8 d9 d10 d11 d12 d13 : DataW H} {k : Nat} (hk : k ∈ (d13).weights Tryz.prog 26) : k ∈ (DataW.agg [d0, d1, d2, d3, d4, d5, d6, d7, d8, d9, d10, d11, d12, d13]).weights Tryz.prog 28 := by
  simp [DataW.weights, Tryz.underlying28, DataW.weightsEach, hk]
end Go.Proofs.YtdfnomglkibfbaaGreatDoor.Vf

namespace Go.Proofs.YtdfnomglkibfbaaGreatDoor
open Go.RowKit Go.Extern.Stop Go.Stop Go.Extern
set_option linter.unusedVariables false
set_option linter.unusedSimpArgs false

set_option maxRecDepth 100000 in
set_option maxHeartbeats 8000000 in
/-- errors.As(a chain, &t), where there is such a link. -/
theorem chain_A_hit (l : List (Bool × Int)) (c n : Int) (r : List (Bool × Int)) (hf : findK false l = some (n, r)) (tb to_ : Nat) (u v : Value) (w : World) (hg : ET w) (ht0 : w.cell? ⟨tb, to_, none⟩ = some u) (ht1 : w.cell? ⟨tb, to_ + 1, none⟩ = some v) (hf0 : w.frozen? ⟨tb, to_, none⟩ = false) (hf1 : w.frozen? ⟨tb, to_ + 1, none⟩ = false) :
    Calls Tryz.prog 26 #[errV l c, .iface 98 (.pointer (some ⟨tb, to_, none⟩))] w fun ev w' => ev = .returned (.bool true) ∧ ∃ w1, Below w.heap.size w w1 ∧ w' = (w1.setCell ⟨tb, to_, none⟩ (.int .i64 n)).setCell ⟨tb, to_ + 1, none⟩ (errV r c) := by
  have HF : Hid (findK false l = some (n, r)) := hf
  clear hf
  have hlt := ET_lt hg
  unfold ET at hg
  have h1 := ext_valueOf; have h2 := ext_type; have h3 := ext_isNil; have h4 := ext_kind; have h5 := ext_telem; have h6 := ext_implements; have h7 := ext_typeOf; have h8 := ext_assignable; have h9 := ext_velem; have h10 := ext_set
  have mA := methodAssignableTo
  have f6 := valueOfPA
  have f7 := typePA
  have mK := methodKind
  have mE := methodElem
  have mI := methodImplements
  have k27 := kindPA
  have k25 := kindA
  have e27 := elemPA
  have i25 := implementsA
  have n8 := isNilPA ⟨w.heap.size, 0, none⟩ ⟨tb, to_, none⟩ ((w.alloc (.cells #[.pointer (some ⟨tb, to_, none⟩)] 98)).alloc (.cells #[.pointer (some ⟨4, 98, none⟩), .pointer (some ⟨w.heap.size, 0, none⟩), .int .u64 150] 115)) (by simp)
  have hg2 : ((w.alloc (.cells #[.pointer (some ⟨tb, to_, none⟩)] 98)).alloc (.cells #[.pointer (some ⟨4, 98, none⟩), .pointer (some ⟨w.heap.size, 0, none⟩), .int .u64 150] 115)).cell? ⟨0, 0, none⟩ = some (.iface 221 (.agg #[.pointer (some ⟨4, 32, none⟩)])) := by
    rw [World.cell?_alloc_lt _ _ ⟨0, 0, none⟩ (by simp <;> omega), World.cell?_alloc_lt _ _ ⟨0, 0, none⟩ hlt]; exact hg
  have htl : tb < w.heap.size := by
    rcases Nat.lt_or_ge tb w.heap.size with h | h
    · exact h
    · simp [World.cell?, Array.getElem?_eq_none h] at ht0
  have enn := errV_notnil l c
  have egd := errV_guard l c
  go_enter Tryz.func26, Tryz.ntmps26
  go_wp2
  go_loopg [0] l.length (fun k x wx => ∃ l', x = errV l' c ∧ k = l'.length ∧ Hid (findK false l' = some (n, r)) ∧ Below (w.heap.size + 3) (((w.alloc (.cells #[.pointer (some ⟨tb, to_, none⟩)] 98)).alloc (.cells #[.pointer (some ⟨4, 98, none⟩), .pointer (some ⟨w.heap.size, 0, none⟩), .int .u64 150] 115)).alloc (.cells #[.pointer (some ⟨4, 98, none⟩), .pointer (some ⟨w.heap.size, 0, none⟩), .int .u64 150] 115)) wx)
  case atStart => exact ⟨l, rfl, rfl, HF, Below.refl _ _⟩
  case round =>
    obtain ⟨l', rfl, rfl, HG, hB⟩ := hrel
    have hs : w.heap.size + 3 ≤ wr.heap.size := by have := hB.size; simp at this; omega
    have hBw : Below w.heap.size w wr := (below_new (below_new (below_new (Below.refl _ _) _) _) _).trans (hB.mono (by omega))
    have x0 : wr.cell? ⟨w.heap.size, 0, none⟩ = some (.pointer (some ⟨tb, to_, none⟩)) := by rw [hB.cell (p := ⟨w.heap.size, 0, none⟩) (by simp)]; simp [go_sem, World.cell?_alloc_past]
    have y0 : wr.cell? ⟨w.heap.size + 1 + 1, 0, none⟩ = some (.pointer (some ⟨4, 98, none⟩)) := by rw [hB.cell (p := ⟨w.heap.size + 1 + 1, 0, none⟩) (by simp)]; simp [go_sem, World.cell?_alloc_past]
    have y1 : wr.cell? ⟨w.heap.size + 1 + 1, 1, none⟩ = some (.pointer (some ⟨w.heap.size, 0, none⟩)) := by rw [hB.cell (p := ⟨w.heap.size + 1 + 1, 1, none⟩) (by simp)]; simp [go_sem, World.cell?_alloc_past]
    have y2 : wr.cell? ⟨w.heap.size + 1 + 1, 2, none⟩ = some (.int .u64 150) := by rw [hB.cell (p := ⟨w.heap.size + 1 + 1, 2, none⟩) (by simp)]; simp [go_sem, World.cell?_alloc_past]
    have tcel : ∀ o, wr.cell? ⟨tb, o, none⟩ = w.cell? ⟨tb, o, none⟩ := fun o => by
      rw [hB.cell (p := ⟨tb, o, none⟩) (by simp; omega), World.cell?_alloc_lt _ _ ⟨tb, o, none⟩ (by simp; omega), World.cell?_alloc_lt _ _ ⟨tb, o, none⟩ (by simp; omega), World.cell?_alloc_lt _ _ ⟨tb, o, none⟩ htl]
    have tfro : ∀ o, wr.frozen? ⟨tb, o, none⟩ = w.frozen? ⟨tb, o, none⟩ := fun o => by
      rw [hB.frozen (p := ⟨tb, o, none⟩) (by simp; omega), World.frozen?_alloc_old _ _ ⟨tb, o, none⟩ (by simp; omega), World.frozen?_alloc_old _ _ ⟨tb, o, none⟩ (by simp; omega), World.frozen?_alloc_old _ _ ⟨tb, o, none⟩ (by simp; omega)]
    rcases l' with _ | ⟨⟨k, m⟩, rest⟩
    · exact absurd HG.out (by simp [findK])
    · have enr := errV_notnil rest c
      have egr := errV_guard rest c
      by_cases hk : k = false
      · subst hk
        have hfo := HG.out
        simp only [findK, if_true, Option.some.injEq, Prod.mk.injEq] at hfo
        obtain ⟨rfl, rfl⟩ := hfo
        simp only [errV]
        have tO := typeOfA
        have aE := assignableA
        have vE := valueOfA
        have el := elemVA ⟨w.heap.size, 0, none⟩ ⟨tb, to_, none⟩ wr x0
        have hlw : tb < wr.heap.size := by omega
        have st := setA tb to_ wr.heap.size (.int .i64 m) (errV rest c) u v (wr.alloc (.cells #[.int .i64 m, errV rest c] 93)) (by simp) (by simp) (by rw [World.cell?_alloc_lt _ _ ⟨tb, to_, none⟩ hlw, tcel]; exact ht0) (by rw [World.cell?_alloc_lt _ _ ⟨tb, to_ + 1, none⟩ hlw, tcel]; exact ht1) (by rw [World.frozen?_alloc_old _ _ ⟨tb, to_, none⟩ (by simp; omega), tfro]; exact hf0) (by rw [World.frozen?_alloc_old _ _ ⟨tb, to_ + 1, none⟩ (by simp; omega), tfro]; exact hf1) rfl (errV_one _ _)
        clear tcel tfro
        go_wp2
        go_ret
        refine ⟨rfl, wr.alloc (.cells #[.int .i64 m, errV rest c] 93), below_new hBw _, ?_⟩
        rw [World.setCell_alloc_past _ _ _ _ hlw, World.setCell_alloc_past _ _ _ _ (by simpa using hlw)]
      · have hk2 : k = true := by cases k <;> first | rfl | exact absurd rfl hk
        subst hk2
        have HH : Hid (findK false rest = some (n, r)) := (by have := HG.out; simpa [findK] using this : findK false rest = some (n, r))
        simp only [errV]
        have tO := typeOfI
        have aE := assignableIA
        have nA := noAsI
        have uA := unwrapsI
        have mU := methodUnwrapI
        clear tcel tfro
        go_wp2_with (go_at_call 189; refine (unwrapI _ _ _).mono ?_; rintro e w' ⟨rfl, rfl⟩)
        go_roundg rest.length
        case measure => simp
        case rel => exact ⟨rest, rfl, rfl, HH, hB.alloc (by omega) _⟩
end Go.Proofs.YtdfnomglkibfbaaGreatDoor


namespace Go.Proofs.YtdfnomglkibfbaaGreatDoor
open Go.RowKit Go.Extern.Stop Go.Stop Go.Extern
set_option linter.unusedVariables false
set_option linter.unusedSimpArgs false

set_option maxRecDepth 100000 in
set_option maxHeartbeats 8000000 in
/-- errors.As(a chain, &t), where there is no such link. -/
theorem chain_A_miss (l : List (Bool × Int)) (c : Int) (hf : findK false l = none) (t : Addr) (w : World) (hg : ET w) :
    Calls Tryz.prog 26 #[errV l c, .iface 98 (.pointer (some t))] w fun ev w' => ev = .returned (.bool false) ∧ Below w.heap.size w w' := by
  have HF : Hid (findK false l = none) := hf
  clear hf
  have hlt := ET_lt hg
  unfold ET at hg
  have h1 := ext_valueOf; have h2 := ext_type; have h3 := ext_isNil; have h4 := ext_kind; have h5 := ext_telem; have h6 := ext_implements; have h7 := ext_typeOf; have h8 := ext_assignable; have h9 := ext_velem; have h10 := ext_set
  have mA := methodAssignableTo
  have f6 := valueOfPA
  have f7 := typePA
  have mK := methodKind
  have mE := methodElem
  have mI := methodImplements
  have k27 := kindPA
  have k25 := kindA
  have e27 := elemPA
  have i25 := implementsA
  have n8 := isNilPA ⟨w.heap.size, 0, none⟩ t ((w.alloc (.cells #[.pointer (some t)] 98)).alloc (.cells #[.pointer (some ⟨4, 98, none⟩), .pointer (some ⟨w.heap.size, 0, none⟩), .int .u64 150] 115)) (by simp)
  have hg2 : ((w.alloc (.cells #[.pointer (some t)] 98)).alloc (.cells #[.pointer (some ⟨4, 98, none⟩), .pointer (some ⟨w.heap.size, 0, none⟩), .int .u64 150] 115)).cell? ⟨0, 0, none⟩ = some (.iface 221 (.agg #[.pointer (some ⟨4, 32, none⟩)])) := by
    rw [World.cell?_alloc_lt _ _ ⟨0, 0, none⟩ (by simp <;> omega), World.cell?_alloc_lt _ _ ⟨0, 0, none⟩ hlt]; exact hg
  have enn := errV_notnil l c
  have egd := errV_guard l c
  go_enter Tryz.func26, Tryz.ntmps26
  go_wp2
  go_loopg [0] l.length (fun k x wx => ∃ l', x = errV l' c ∧ k = l'.length ∧ Hid (findK false l' = none) ∧ Below (w.heap.size + 3) (((w.alloc (.cells #[.pointer (some t)] 98)).alloc (.cells #[.pointer (some ⟨4, 98, none⟩), .pointer (some ⟨w.heap.size, 0, none⟩), .int .u64 150] 115)).alloc (.cells #[.pointer (some ⟨4, 98, none⟩), .pointer (some ⟨w.heap.size, 0, none⟩), .int .u64 150] 115)) wx)
  case atStart => exact ⟨l, rfl, rfl, HF, Below.refl _ _⟩
  case round =>
    obtain ⟨l', rfl, rfl, HG, hB⟩ := hrel
    have hs : w.heap.size + 3 ≤ wr.heap.size := by have := hB.size; simp at this; omega
    have hBw : Below w.heap.size w wr := (below_new (below_new (below_new (Below.refl _ _) _) _) _).trans (hB.mono (by omega))
    rcases l' with _ | ⟨⟨k, m⟩, rest⟩
    · simp only [errV]
      have tO := typeOfE
      have aE := assignableEA
      have nA := noAsE
      have nU := noUnwrapE
      have nUs := noUnwrapsE
      go_wp2
      go_ret
      exact ⟨rfl, hBw⟩
    · have enr := errV_notnil rest c
      have egr := errV_guard rest c
      by_cases hk : k = false
      · subst hk
        exact absurd HG.out (by simp [findK])
      · have hk2 : k = true := by cases k <;> first | rfl | exact absurd rfl hk
        subst hk2
        have HH : Hid (findK false rest = none) := (by have := HG.out; simpa [findK] using this : findK false rest = none)
        simp only [errV]
        have tO := typeOfI
        have aE := assignableIA
        have nA := noAsI
        have uA := unwrapsI
        have mU := methodUnwrapI
        go_wp2_with (go_at_call 189; refine (unwrapI _ _ _).mono ?_; rintro e w' ⟨rfl, rfl⟩)
        go_roundg rest.length
        case measure => simp
        case rel => exact ⟨rest, rfl, rfl, HH, hB.alloc (by omega) _⟩
end Go.Proofs.YtdfnomglkibfbaaGreatDoor


namespace Go.Proofs.YtdfnomglkibfbaaGreatDoor
open Go.RowKit Go.Extern.Stop Go.Stop Go.Extern
set_option linter.unusedVariables false
set_option linter.unusedSimpArgs false

set_option maxRecDepth 100000 in
set_option maxHeartbeats 8000000 in
/-- errors.As(a chain, &t), where there is such a link. -/
theorem chain_I_hit (l : List (Bool × Int)) (c n : Int) (r : List (Bool × Int)) (hf : findK true l = some (n, r)) (tb to_ : Nat) (u v : Value) (w : World) (hg : ET w) (ht0 : w.cell? ⟨tb, to_, none⟩ = some u) (ht1 : w.cell? ⟨tb, to_ + 1, none⟩ = some v) (hf0 : w.frozen? ⟨tb, to_, none⟩ = false) (hf1 : w.frozen? ⟨tb, to_ + 1, none⟩ = false) :
    Calls Tryz.prog 26 #[errV l c, .iface 99 (.pointer (some ⟨tb, to_, none⟩))] w fun ev w' => ev = .returned (.bool true) ∧ ∃ w1, Below w.heap.size w w1 ∧ w' = (w1.setCell ⟨tb, to_, none⟩ (.int .i64 n)).setCell ⟨tb, to_ + 1, none⟩ (errV r c) := by
  have HF : Hid (findK true l = some (n, r)) := hf
  clear hf
  have hlt := ET_lt hg
  unfold ET at hg
  have h1 := ext_valueOf; have h2 := ext_type; have h3 := ext_isNil; have h4 := ext_kind; have h5 := ext_telem; have h6 := ext_implements; have h7 := ext_typeOf; have h8 := ext_assignable; have h9 := ext_velem; have h10 := ext_set
  have mA := methodAssignableTo
  have f6 := valueOfPI
  have f7 := typePI
  have mK := methodKind
  have mE := methodElem
  have mI := methodImplements
  have k27 := kindPI
  have k25 := kindI
  have e27 := elemPI
  have i25 := implementsI
  have n8 := isNilPI ⟨w.heap.size, 0, none⟩ ⟨tb, to_, none⟩ ((w.alloc (.cells #[.pointer (some ⟨tb, to_, none⟩)] 99)).alloc (.cells #[.pointer (some ⟨4, 99, none⟩), .pointer (some ⟨w.heap.size, 0, none⟩), .int .u64 150] 115)) (by simp)
  have hg2 : ((w.alloc (.cells #[.pointer (some ⟨tb, to_, none⟩)] 99)).alloc (.cells #[.pointer (some ⟨4, 99, none⟩), .pointer (some ⟨w.heap.size, 0, none⟩), .int .u64 150] 115)).cell? ⟨0, 0, none⟩ = some (.iface 221 (.agg #[.pointer (some ⟨4, 32, none⟩)])) := by
    rw [World.cell?_alloc_lt _ _ ⟨0, 0, none⟩ (by simp <;> omega), World.cell?_alloc_lt _ _ ⟨0, 0, none⟩ hlt]; exact hg
  have htl : tb < w.heap.size := by
    rcases Nat.lt_or_ge tb w.heap.size with h | h
    · exact h
    · simp [World.cell?, Array.getElem?_eq_none h] at ht0
  have enn := errV_notnil l c
  have egd := errV_guard l c
  go_enter Tryz.func26, Tryz.ntmps26
  go_wp2
  go_loopg [0] l.length (fun k x wx => ∃ l', x = errV l' c ∧ k = l'.length ∧ Hid (findK true l' = some (n, r)) ∧ Below (w.heap.size + 3) (((w.alloc (.cells #[.pointer (some ⟨tb, to_, none⟩)] 99)).alloc (.cells #[.pointer (some ⟨4, 99, none⟩), .pointer (some ⟨w.heap.size, 0, none⟩), .int .u64 150] 115)).alloc (.cells #[.pointer (some ⟨4, 99, none⟩), .pointer (some ⟨w.heap.size, 0, none⟩), .int .u64 150] 115)) wx)
  case atStart => exact ⟨l, rfl, rfl, HF, Below.refl _ _⟩
  case round =>
    obtain ⟨l', rfl, rfl, HG, hB⟩ := hrel
    have hs : w.heap.size + 3 ≤ wr.heap.size := by have := hB.size; simp at this; omega
    have hBw : Below w.heap.size w wr := (below_new (below_new (below_new (Below.refl _ _) _) _) _).trans (hB.mono (by omega))
    have x0 : wr.cell? ⟨w.heap.size, 0, none⟩ = some (.pointer (some ⟨tb, to_, none⟩)) := by rw [hB.cell (p := ⟨w.heap.size, 0, none⟩) (by simp)]; simp [go_sem, World.cell?_alloc_past]
    have y0 : wr.cell? ⟨w.heap.size + 1 + 1, 0, none⟩ = some (.pointer (some ⟨4, 99, none⟩)) := by rw [hB.cell (p := ⟨w.heap.size + 1 + 1, 0, none⟩) (by simp)]; simp [go_sem, World.cell?_alloc_past]
    have y1 : wr.cell? ⟨w.heap.size + 1 + 1, 1, none⟩ = some (.pointer (some ⟨w.heap.size, 0, none⟩)) := by rw [hB.cell (p := ⟨w.heap.size + 1 + 1, 1, none⟩) (by simp)]; simp [go_sem, World.cell?_alloc_past]
    have y2 : wr.cell? ⟨w.heap.size + 1 + 1, 2, none⟩ = some (.int .u64 150) := by rw [hB.cell (p := ⟨w.heap.size + 1 + 1, 2, none⟩) (by simp)]; simp [go_sem, World.cell?_alloc_past]
    have tcel : ∀ o, wr.cell? ⟨tb, o, none⟩ = w.cell? ⟨tb, o, none⟩ := fun o => by
      rw [hB.cell (p := ⟨tb, o, none⟩) (by simp; omega), World.cell?_alloc_lt _ _ ⟨tb, o, none⟩ (by simp; omega), World.cell?_alloc_lt _ _ ⟨tb, o, none⟩ (by simp; omega), World.cell?_alloc_lt _ _ ⟨tb, o, none⟩ htl]
    have tfro : ∀ o, wr.frozen? ⟨tb, o, none⟩ = w.frozen? ⟨tb, o, none⟩ := fun o => by
      rw [hB.frozen (p := ⟨tb, o, none⟩) (by simp; omega), World.frozen?_alloc_old _ _ ⟨tb, o, none⟩ (by simp; omega), World.frozen?_alloc_old _ _ ⟨tb, o, none⟩ (by simp; omega), World.frozen?_alloc_old _ _ ⟨tb, o, none⟩ (by simp; omega)]
    rcases l' with _ | ⟨⟨k, m⟩, rest⟩
    · exact absurd HG.out (by simp [findK])
    · have enr := errV_notnil rest c
      have egr := errV_guard rest c
      by_cases hk : k = true
      · subst hk
        have hfo := HG.out
        simp only [findK, if_true, Option.some.injEq, Prod.mk.injEq] at hfo
        obtain ⟨rfl, rfl⟩ := hfo
        simp only [errV]
        have tO := typeOfI
        have aE := assignableI
        have vE := valueOfI
        have el := elemVI ⟨w.heap.size, 0, none⟩ ⟨tb, to_, none⟩ wr x0
        have hlw : tb < wr.heap.size := by omega
        have st := setI tb to_ wr.heap.size (.int .i64 m) (errV rest c) u v (wr.alloc (.cells #[.int .i64 m, errV rest c] 95)) (by simp) (by simp) (by rw [World.cell?_alloc_lt _ _ ⟨tb, to_, none⟩ hlw, tcel]; exact ht0) (by rw [World.cell?_alloc_lt _ _ ⟨tb, to_ + 1, none⟩ hlw, tcel]; exact ht1) (by rw [World.frozen?_alloc_old _ _ ⟨tb, to_, none⟩ (by simp; omega), tfro]; exact hf0) (by rw [World.frozen?_alloc_old _ _ ⟨tb, to_ + 1, none⟩ (by simp; omega), tfro]; exact hf1) rfl (errV_one _ _)
        clear tcel tfro
        go_wp2
        go_ret
        refine ⟨rfl, wr.alloc (.cells #[.int .i64 m, errV rest c] 95), below_new hBw _, ?_⟩
        rw [World.setCell_alloc_past _ _ _ _ hlw, World.setCell_alloc_past _ _ _ _ (by simpa using hlw)]
      · have hk2 : k = false := by cases k <;> first | rfl | exact absurd rfl hk
        subst hk2
        have HH : Hid (findK true rest = some (n, r)) := (by have := HG.out; simpa [findK] using this : findK true rest = some (n, r))
        simp only [errV]
        have tO := typeOfA
        have aE := assignableAI
        have nA := noAsA
        have uA := unwrapsA
        have mU := methodUnwrapA
        clear tcel tfro
        go_wp2_with (go_at_call 187; refine (unwrapA _ _ _).mono ?_; rintro e w' ⟨rfl, rfl⟩)
        go_roundg rest.length
        case measure => simp
        case rel => exact ⟨rest, rfl, rfl, HH, hB.alloc (by omega) _⟩
end Go.Proofs.YtdfnomglkibfbaaGreatDoor


namespace Go.Proofs.YtdfnomglkibfbaaGreatDoor
open Go.RowKit Go.Extern.Stop Go.Stop Go.Extern
set_option linter.unusedVariables false
set_option linter.unusedSimpArgs false

set_option maxRecDepth 100000 in
set_option maxHeartbeats 8000000 in
/-- errors.As(a chain, &t), where there is no such link. -/
theorem chain_I_miss (l : List (Bool × Int)) (c : Int) (hf : findK true l = none) (t : Addr) (w : World) (hg : ET w) :
    Calls Tryz.prog 26 #[errV l c, .iface 99 (.pointer (some t))] w fun ev w' => ev = .returned (.bool false) ∧ Below w.heap.size w w' := by
  have HF : Hid (findK true l = none) := hf
  clear hf
  have hlt := ET_lt hg
  unfold ET at hg
  have h1 := ext_valueOf; have h2 := ext_type; have h3 := ext_isNil; have h4 := ext_kind; have h5 := ext_telem; have h6 := ext_implements; have h7 := ext_typeOf; have h8 := ext_assignable; have h9 := ext_velem; have h10 := ext_set
  have mA := methodAssignableTo
  have f6 := valueOfPI
  have f7 := typePI
  have mK := methodKind
  have mE := methodElem
  have mI := methodImplements
  have k27 := kindPI
  have k25 := kindI
  have e27 := elemPI
  have i25 := implementsI
  have n8 := isNilPI ⟨w.heap.size, 0, none⟩ t ((w.alloc (.cells #[.pointer (some t)] 99)).alloc (.cells #[.pointer (some ⟨4, 99, none⟩), .pointer (some ⟨w.heap.size, 0, none⟩), .int .u64 150] 115)) (by simp)
  have hg2 : ((w.alloc (.cells #[.pointer (some t)] 99)).alloc (.cells #[.pointer (some ⟨4, 99, none⟩), .pointer (some ⟨w.heap.size, 0, none⟩), .int .u64 150] 115)).cell? ⟨0, 0, none⟩ = some (.iface 221 (.agg #[.pointer (some ⟨4, 32, none⟩)])) := by
    rw [World.cell?_alloc_lt _ _ ⟨0, 0, none⟩ (by simp <;> omega), World.cell?_alloc_lt _ _ ⟨0, 0, none⟩ hlt]; exact hg
  have enn := errV_notnil l c
  have egd := errV_guard l c
  go_enter Tryz.func26, Tryz.ntmps26
  go_wp2
  go_loopg [0] l.length (fun k x wx => ∃ l', x = errV l' c ∧ k = l'.length ∧ Hid (findK true l' = none) ∧ Below (w.heap.size + 3) (((w.alloc (.cells #[.pointer (some t)] 99)).alloc (.cells #[.pointer (some ⟨4, 99, none⟩), .pointer (some ⟨w.heap.size, 0, none⟩), .int .u64 150] 115)).alloc (.cells #[.pointer (some ⟨4, 99, none⟩), .pointer (some ⟨w.heap.size, 0, none⟩), .int .u64 150] 115)) wx)
  case atStart => exact ⟨l, rfl, rfl, HF, Below.refl _ _⟩
  case round =>
    obtain ⟨l', rfl, rfl, HG, hB⟩ := hrel
    have hs : w.heap.size + 3 ≤ wr.heap.size := by have := hB.size; simp at this; omega
    have hBw : Below w.heap.size w wr := (below_new (below_new (below_new (Below.refl _ _) _) _) _).trans (hB.mono (by omega))
    rcases l' with _ | ⟨⟨k, m⟩, rest⟩
    · simp only [errV]
      have tO := typeOfE
      have aE := assignableEI
      have nA := noAsE
      have nU := noUnwrapE
      have nUs := noUnwrapsE
      go_wp2
      go_ret
      exact ⟨rfl, hBw⟩
    · have enr := errV_notnil rest c
      have egr := errV_guard rest c
      by_cases hk : k = true
      · subst hk
        exact absurd HG.out (by simp [findK])
      · have hk2 : k = false := by cases k <;> first | rfl | exact absurd rfl hk
        subst hk2
        have HH : Hid (findK true rest = none) := (by have := HG.out; simpa [findK] using this : findK true rest = none)
        simp only [errV]
        have tO := typeOfA
        have aE := assignableAI
        have nA := noAsA
        have uA := unwrapsA
        have mU := methodUnwrapA
        go_wp2_with (go_at_call 187; refine (unwrapA _ _ _).mono ?_; rintro e w' ⟨rfl, rfl⟩)
        go_roundg rest.length
        case measure => simp
        case rel => exact ⟨rest, rfl, rfl, HH, hB.alloc (by omega) _⟩
end Go.Proofs.YtdfnomglkibfbaaGreatDoor


namespace Go.Proofs.YtdfnomglkibfbaaGreatDoor
open Go.RowKit
set_option linter.unusedVariables false
set_option linter.unusedSimpArgs false

/-- the variables of weirboth.Same: the document's error at N, e at N + 1, at at N + 2, in at N + 3. -/
structure St (w : World) (c A I : Int) (P Q : Bool) (e a a' i i' : Value) (v : World) : Prop where
  n0 : v.cell? ⟨w.heap.size, 0, none⟩ = some (.int .i64 c)
  n1 : v.cell? ⟨w.heap.size, 1, none⟩ = some (.int .i64 A)
  n2 : v.cell? ⟨w.heap.size, 2, none⟩ = some (.int .i64 I)
  n3 : v.cell? ⟨w.heap.size, 3, none⟩ = some (.bool P)
  n4 : v.cell? ⟨w.heap.size, 4, none⟩ = some (.bool Q)
  ce : v.cell? ⟨w.heap.size + 1, 0, none⟩ = some e
  ca : v.cell? ⟨w.heap.size + 1 + 1, 0, none⟩ = some a
  ca' : v.cell? ⟨w.heap.size + 1 + 1, 1, none⟩ = some a'
  ci : v.cell? ⟨w.heap.size + 1 + 1 + 1, 0, none⟩ = some i
  ci' : v.cell? ⟨w.heap.size + 1 + 1 + 1, 1, none⟩ = some i'
  fe : v.frozen? ⟨w.heap.size + 1, 0, none⟩ = false
  fa : v.frozen? ⟨w.heap.size + 1 + 1, 0, none⟩ = false
  fa' : v.frozen? ⟨w.heap.size + 1 + 1, 1, none⟩ = false
  fi : v.frozen? ⟨w.heap.size + 1 + 1 + 1, 0, none⟩ = false
  fi' : v.frozen? ⟨w.heap.size + 1 + 1 + 1, 1, none⟩ = false
  b : Below w.heap.size w v
  g : ET v
  z : w.heap.size + 3 < v.heap.size
theorem St.below {w v v' : World} {c A I : Int} {P Q : Bool} {e a a' i i' : Value} (h : St w c A I P Q e a a' i i' v) (hb : Below v.heap.size v v') : St w c A I P Q e a a' i i' v' := by
  obtain ⟨n0, n1, n2, n3, n4, ce, ca, ca', ci, ci', fe, fa, fa', fi, fi', b, g, z⟩ := h
  have cc : ∀ (p : Nat) (o : Nat), p ≤ w.heap.size + 3 → v'.cell? ⟨p, o, none⟩ = v.cell? ⟨p, o, none⟩ := fun p o hp => hb.cell (p := ⟨p, o, none⟩) (by simp; omega)
  have ff : ∀ (p : Nat) (o : Nat), p ≤ w.heap.size + 3 → v'.frozen? ⟨p, o, none⟩ = v.frozen? ⟨p, o, none⟩ := fun p o hp => hb.frozen (p := ⟨p, o, none⟩) (by simp; omega)
  have hs := hb.size
  refine ⟨?_, ?_, ?_, ?_, ?_, ?_, ?_, ?_, ?_, ?_, ?_, ?_, ?_, ?_, ?_, b.trans (hb.mono (by omega)), ET_below g hb, by omega⟩
  · rw [cc _ _ (by omega)]; exact n0
  · rw [cc _ _ (by omega)]; exact n1
  · rw [cc _ _ (by omega)]; exact n2
  · rw [cc _ _ (by omega)]; exact n3
  · rw [cc _ _ (by omega)]; exact n4
  · rw [cc _ _ (by omega)]; exact ce
  · rw [cc _ _ (by omega)]; exact ca
  · rw [cc _ _ (by omega)]; exact ca'
  · rw [cc _ _ (by omega)]; exact ci
  · rw [cc _ _ (by omega)]; exact ci'
  · rw [ff _ _ (by omega)]; exact fe
  · rw [ff _ _ (by omega)]; exact fa
  · rw [ff _ _ (by omega)]; exact fa'
  · rw [ff _ _ (by omega)]; exact fi
  · rw [ff _ _ (by omega)]; exact fi'
theorem ET_set {w : World} (h : ET w) (p : Addr) (x : Value) (hp : p.block ≠ 0) : ET (w.setCell p x) := by
  unfold ET at *
  rw [World.cell?_setCell_other _ _ _ _ (by intro e; rw [e] at hp; exact hp rfl)]; exact h
theorem St.drew {w v : World} {c A I : Int} {P Q : Bool} {e a a' i i' : Value} (h : St w c A I P Q e a a' i i' v) : St w c A I P Q e a a' i i' v.drew :=
  ⟨h.n0, h.n1, h.n2, h.n3, h.n4, h.ce, h.ca, h.ca', h.ci, h.ci', h.fe, h.fa, h.fa', h.fi, h.fi', h.b.drew, h.g, h.z⟩
theorem St.setE {w v : World} {c A I : Int} {P Q : Bool} {e a a' i i' : Value} (h : St w c A I P Q e a a' i i' v) (hw : 0 < w.heap.size) (x : Value) : St w c A I P Q x a a' i i' (v.setCell ⟨w.heap.size + 1, 0, none⟩ x) := by
  obtain ⟨n0, n1, n2, n3, n4, ce, ca, ca', ci, ci', fe, fa, fa', fi, fi', b, g, z⟩ := h
  have ot : ∀ p o, p ≠ w.heap.size + 1 → (v.setCell ⟨w.heap.size + 1, 0, none⟩ x).cell? ⟨p, o, none⟩ = v.cell? ⟨p, o, none⟩ := fun p o hp => World.cell?_setCell_other _ _ _ _ (by intro e; injection e with e1; omega)
  refine ⟨?_, ?_, ?_, ?_, ?_, World.cell?_setCell_same _ _ _ ce, ?_, ?_, ?_, ?_, by simpa using fe, by simpa using fa, by simpa using fa', by simpa using fi, by simpa using fi', b.setCell (by simp) _, ET_set g _ _ (show w.heap.size + 1 ≠ 0 by omega), by simpa using z⟩
  all_goals (rw [ot _ _ (by omega)]; assumption)
theorem St.setA {w v : World} {c A I : Int} {P Q : Bool} {e a a' i i' : Value} (h : St w c A I P Q e a a' i i' v) (hw : 0 < w.heap.size) (x y : Value) : St w c A I P Q e x y i i' ((v.setCell ⟨w.heap.size + 1 + 1, 0, none⟩ x).setCell ⟨w.heap.size + 1 + 1, 0 + 1, none⟩ y) := by
  obtain ⟨n0, n1, n2, n3, n4, ce, ca, ca', ci, ci', fe, fa, fa', fi, fi', b, g, z⟩ := h
  have ot : ∀ p o, p ≠ w.heap.size + 1 + 1 → ((v.setCell ⟨w.heap.size + 1 + 1, 0, none⟩ x).setCell ⟨w.heap.size + 1 + 1, 0 + 1, none⟩ y).cell? ⟨p, o, none⟩ = v.cell? ⟨p, o, none⟩ := fun p o hp => by
    rw [World.cell?_setCell_other _ _ _ _ (by intro e; injection e with e1; omega), World.cell?_setCell_other _ _ _ _ (by intro e; injection e with e1; omega)]
  refine ⟨?_, ?_, ?_, ?_, ?_, ?_, ?_, ?_, ?_, ?_, by simpa using fe, by simpa using fa, by simpa using fa', by simpa using fi, by simpa using fi', (b.setCell (p := ⟨w.heap.size + 1 + 1, 0, none⟩) (show w.heap.size ≤ w.heap.size + 1 + 1 by omega) _).setCell (p := ⟨w.heap.size + 1 + 1, 0 + 1, none⟩) (show w.heap.size ≤ w.heap.size + 1 + 1 by omega) _, ET_set (ET_set g _ _ (show w.heap.size + 1 + 1 ≠ 0 by omega)) _ _ (show w.heap.size + 1 + 1 ≠ 0 by omega), by simpa using z⟩
  case refine_7 => rw [World.cell?_setCell_other _ _ _ _ (by simp)]; exact World.cell?_setCell_same _ _ _ ca
  case refine_8 => exact World.cell?_setCell_same _ _ _ (u := a') (by rw [World.cell?_setCell_other _ _ _ _ (by simp)]; exact ca')
  all_goals (rw [ot _ _ (by omega)]; assumption)
theorem St.setI {w v : World} {c A I : Int} {P Q : Bool} {e a a' i i' : Value} (h : St w c A I P Q e a a' i i' v) (hw : 0 < w.heap.size) (x y : Value) : St w c A I P Q e a a' x y ((v.setCell ⟨w.heap.size + 1 + 1 + 1, 0, none⟩ x).setCell ⟨w.heap.size + 1 + 1 + 1, 0 + 1, none⟩ y) := by
  obtain ⟨n0, n1, n2, n3, n4, ce, ca, ca', ci, ci', fe, fa, fa', fi, fi', b, g, z⟩ := h
  have ot : ∀ p o, p ≠ w.heap.size + 1 + 1 + 1 → ((v.setCell ⟨w.heap.size + 1 + 1 + 1, 0, none⟩ x).setCell ⟨w.heap.size + 1 + 1 + 1, 0 + 1, none⟩ y).cell? ⟨p, o, none⟩ = v.cell? ⟨p, o, none⟩ := fun p o hp => by
    rw [World.cell?_setCell_other _ _ _ _ (by intro e; injection e with e1; omega), World.cell?_setCell_other _ _ _ _ (by intro e; injection e with e1; omega)]
  refine ⟨?_, ?_, ?_, ?_, ?_, ?_, ?_, ?_, ?_, ?_, by simpa using fe, by simpa using fa, by simpa using fa', by simpa using fi, by simpa using fi', (b.setCell (p := ⟨w.heap.size + 1 + 1 + 1, 0, none⟩) (show w.heap.size ≤ w.heap.size + 1 + 1 + 1 by omega) _).setCell (p := ⟨w.heap.size + 1 + 1 + 1, 0 + 1, none⟩) (show w.heap.size ≤ w.heap.size + 1 + 1 + 1 by omega) _, ET_set (ET_set g _ _ (show w.heap.size + 1 + 1 + 1 ≠ 0 by omega)) _ _ (show w.heap.size + 1 + 1 + 1 ≠ 0 by omega), by simpa using z⟩
  case refine_9 => rw [World.cell?_setCell_other _ _ _ _ (by simp)]; exact World.cell?_setCell_same _ _ _ ci
  case refine_10 => exact World.cell?_setCell_same _ _ _ (u := i') (by rw [World.cell?_setCell_other _ _ _ _ (by simp)]; exact ci')
  all_goals (rw [ot _ _ (by omega)]; assumption)
theorem St.start (w : World) (hg : ET w) (c A I : Int) (P Q : Bool) : St w c A I P Q (.int .i64 0) (.int .i64 0) .nilIface (.int .i64 0) .nilIface
    ((((w.alloc (.cells #[.int .i64 c, .int .i64 A, .int .i64 I, .bool P, .bool Q] 36)).alloc (.cells #[.int .i64 0] 34)).alloc (.cells #[.int .i64 0, .nilIface] 93)).alloc (.cells #[.int .i64 0, .nilIface] 95)) := by
  refine ⟨?_, ?_, ?_, ?_, ?_, ?_, ?_, ?_, ?_, ?_, ?_, ?_, ?_, ?_, ?_, below_new (below_new (below_new (below_new (Below.refl _ _) _) _) _) _, ET_alloc (ET_alloc (ET_alloc (ET_alloc hg _) _) _) _, by simp⟩
  all_goals simp [go_sem, World.cell?_alloc_past, World.frozen?_alloc_past]

set_option maxRecDepth 100000 in
set_option maxHeartbeats 8000000 in
theorem sameC_hit_hit (l : List (Bool × Int)) (c : Int) (hc : (c == 0) = false) (n : Int) (r : List (Bool × Int)) (hA : findK false l = some (n, r)) (m : Int) (s : List (Bool × Int)) (hI : findK true l = some (m, s)) (w : World) (hg : ET w) :
    Calls Tryz.prog 9 #[errV l c, .agg #[.int .i64 c, .int .i64 n, .int .i64 m, .bool true, .bool true]] w fun e w' => e = .returned (.bool true) ∧ Below w.heap.size w w' := by
  have hlt := ET_lt hg
  have HA : Hid _ := hA
  have HI : Hid _ := hI
  clear hA hI
  have enn := errV_notnil l c
  have egd := errV_guard l c
  go_enter Tryz.func9, Tryz.ntmps9
  go_wp2_with fail
  refine (chain_E l c ⟨w.heap.size + 1, 0, none⟩ (.int .i64 0) _ ?_ ?_ ?_).mono ?_
  · exact (St.start w hg c n m true true).g
  · exact (St.start w hg c n m true true).ce
  · exact (St.start w hg c n m true true).fe
  rintro ev v1 ⟨rfl, w1, hB1, hw1⟩
  have S1 := ((St.start w hg c n m true true).below hB1).setE hlt (.int .i64 c)
  rw [← hw1] at S1
  clear hw1
  obtain ⟨r0, r1, r2, r3, r4, re, ra, ra', ri, ri', ze, za, za', zi, zi', zb, zg, zz⟩ := id S1
  go_wp2_with fail
  go_region_with (first | (go_at_call 26; (with_reducible refine (chain_A_hit l c n r HA.out (w.heap.size + 1 + 1) 0 (.int .i64 0) .nilIface _ ?_ ?_ ?_ ?_ ?_).mono ?_); exact S1.g; exact S1.ca; exact S1.ca'; exact S1.fa; exact S1.fa'; rintro ev v2 ⟨rfl, w2, hB2, hw2⟩; have S2 := (S1.drew.below hB2).setA hlt (.int .i64 n) (errV r c); rw [← hw2] at S2; clear hw2; obtain ⟨s0, s1, s2, s3, s4, se, sa, sa', si, si', xe, xa, xa', xi, xi', xb, xg, xz⟩ := id S2) | (go_at_call 26; (with_reducible refine (chain_I_hit l c m s HI.out (w.heap.size + 1 + 1 + 1) 0 (.int .i64 0) .nilIface _ ?_ ?_ ?_ ?_ ?_).mono ?_); exact S2.g; exact S2.ci; exact S2.ci'; exact S2.fi; exact S2.fi'; rintro ev v3 ⟨rfl, w3, hB3, hw3⟩; have S3 := (S2.below hB3).setI hlt (.int .i64 m) (errV s c); rw [← hw3] at S3; clear hw3; obtain ⟨t0, t1, t2, t3, t4, te, ta, ta', ti, ti', ye, ya, ya', yi, yi', yb, yg, yz⟩ := id S3))
  all_goals
    go_wp2
    go_ret
    exact ⟨rfl, yb⟩

set_option maxRecDepth 100000 in
set_option maxHeartbeats 8000000 in
theorem sameC_hit_miss (l : List (Bool × Int)) (c : Int) (hc : (c == 0) = false) (n : Int) (r : List (Bool × Int)) (hA : findK false l = some (n, r)) (hI : findK true l = none) (w : World) (hg : ET w) :
    Calls Tryz.prog 9 #[errV l c, .agg #[.int .i64 c, .int .i64 n, .int .i64 0, .bool true, .bool false]] w fun e w' => e = .returned (.bool true) ∧ Below w.heap.size w w' := by
  have hlt := ET_lt hg
  have HA : Hid _ := hA
  have HI : Hid _ := hI
  clear hA hI
  have enn := errV_notnil l c
  have egd := errV_guard l c
  go_enter Tryz.func9, Tryz.ntmps9
  go_wp2_with fail
  refine (chain_E l c ⟨w.heap.size + 1, 0, none⟩ (.int .i64 0) _ ?_ ?_ ?_).mono ?_
  · exact (St.start w hg c n 0 true false).g
  · exact (St.start w hg c n 0 true false).ce
  · exact (St.start w hg c n 0 true false).fe
  rintro ev v1 ⟨rfl, w1, hB1, hw1⟩
  have S1 := ((St.start w hg c n 0 true false).below hB1).setE hlt (.int .i64 c)
  rw [← hw1] at S1
  clear hw1
  obtain ⟨r0, r1, r2, r3, r4, re, ra, ra', ri, ri', ze, za, za', zi, zi', zb, zg, zz⟩ := id S1
  go_wp2_with fail
  go_region_with (first | (go_at_call 26; (with_reducible refine (chain_A_hit l c n r HA.out (w.heap.size + 1 + 1) 0 (.int .i64 0) .nilIface _ ?_ ?_ ?_ ?_ ?_).mono ?_); exact S1.g; exact S1.ca; exact S1.ca'; exact S1.fa; exact S1.fa'; rintro ev v2 ⟨rfl, w2, hB2, hw2⟩; have S2 := (S1.drew.below hB2).setA hlt (.int .i64 n) (errV r c); rw [← hw2] at S2; clear hw2; obtain ⟨s0, s1, s2, s3, s4, se, sa, sa', si, si', xe, xa, xa', xi, xi', xb, xg, xz⟩ := id S2) | (go_at_call 26; (with_reducible refine (chain_I_miss l c HI.out ⟨w.heap.size + 1 + 1 + 1, 0, none⟩ _ ?_).mono ?_); exact S2.g; rintro ev v3 ⟨rfl, hB3⟩; have S3 := S2.below hB3; obtain ⟨t0, t1, t2, t3, t4, te, ta, ta', ti, ti', ye, ya, ya', yi, yi', yb, yg, yz⟩ := id S3))
  all_goals
    go_wp2
    go_ret
    exact ⟨rfl, yb⟩

set_option maxRecDepth 100000 in
set_option maxHeartbeats 8000000 in
theorem sameC_miss_hit (l : List (Bool × Int)) (c : Int) (hc : (c == 0) = false) (hA : findK false l = none) (m : Int) (s : List (Bool × Int)) (hI : findK true l = some (m, s)) (w : World) (hg : ET w) :
    Calls Tryz.prog 9 #[errV l c, .agg #[.int .i64 c, .int .i64 0, .int .i64 m, .bool false, .bool true]] w fun e w' => e = .returned (.bool true) ∧ Below w.heap.size w w' := by
  have hlt := ET_lt hg
  have HA : Hid _ := hA
  have HI : Hid _ := hI
  clear hA hI
  have enn := errV_notnil l c
  have egd := errV_guard l c
  go_enter Tryz.func9, Tryz.ntmps9
  go_wp2_with fail
  refine (chain_E l c ⟨w.heap.size + 1, 0, none⟩ (.int .i64 0) _ ?_ ?_ ?_).mono ?_
  · exact (St.start w hg c 0 m false true).g
  · exact (St.start w hg c 0 m false true).ce
  · exact (St.start w hg c 0 m false true).fe
  rintro ev v1 ⟨rfl, w1, hB1, hw1⟩
  have S1 := ((St.start w hg c 0 m false true).below hB1).setE hlt (.int .i64 c)
  rw [← hw1] at S1
  clear hw1
  obtain ⟨r0, r1, r2, r3, r4, re, ra, ra', ri, ri', ze, za, za', zi, zi', zb, zg, zz⟩ := id S1
  go_wp2_with fail
  go_region_with (first | (go_at_call 26; (with_reducible refine (chain_A_miss l c HA.out ⟨w.heap.size + 1 + 1, 0, none⟩ _ ?_).mono ?_); exact S1.g; rintro ev v2 ⟨rfl, hB2⟩; have S2 := S1.drew.below hB2; obtain ⟨s0, s1, s2, s3, s4, se, sa, sa', si, si', xe, xa, xa', xi, xi', xb, xg, xz⟩ := id S2) | (go_at_call 26; (with_reducible refine (chain_I_hit l c m s HI.out (w.heap.size + 1 + 1 + 1) 0 (.int .i64 0) .nilIface _ ?_ ?_ ?_ ?_ ?_).mono ?_); exact S2.g; exact S2.ci; exact S2.ci'; exact S2.fi; exact S2.fi'; rintro ev v3 ⟨rfl, w3, hB3, hw3⟩; have S3 := (S2.below hB3).setI hlt (.int .i64 m) (errV s c); rw [← hw3] at S3; clear hw3; obtain ⟨t0, t1, t2, t3, t4, te, ta, ta', ti, ti', ye, ya, ya', yi, yi', yb, yg, yz⟩ := id S3))
  all_goals
    go_wp2
    go_ret
    exact ⟨rfl, yb⟩

set_option maxRecDepth 100000 in
set_option maxHeartbeats 8000000 in
theorem sameC_miss_miss (l : List (Bool × Int)) (c : Int) (hc : (c == 0) = false) (hA : findK false l = none) (hI : findK true l = none) (w : World) (hg : ET w) :
    Calls Tryz.prog 9 #[errV l c, .agg #[.int .i64 c, .int .i64 0, .int .i64 0, .bool false, .bool false]] w fun e w' => e = .returned (.bool true) ∧ Below w.heap.size w w' := by
  have hlt := ET_lt hg
  have HA : Hid _ := hA
  have HI : Hid _ := hI
  clear hA hI
  have enn := errV_notnil l c
  have egd := errV_guard l c
  go_enter Tryz.func9, Tryz.ntmps9
  go_wp2_with fail
  refine (chain_E l c ⟨w.heap.size + 1, 0, none⟩ (.int .i64 0) _ ?_ ?_ ?_).mono ?_
  · exact (St.start w hg c 0 0 false false).g
  · exact (St.start w hg c 0 0 false false).ce
  · exact (St.start w hg c 0 0 false false).fe
  rintro ev v1 ⟨rfl, w1, hB1, hw1⟩
  have S1 := ((St.start w hg c 0 0 false false).below hB1).setE hlt (.int .i64 c)
  rw [← hw1] at S1
  clear hw1
  obtain ⟨r0, r1, r2, r3, r4, re, ra, ra', ri, ri', ze, za, za', zi, zi', zb, zg, zz⟩ := id S1
  go_wp2_with fail
  go_region_with (first | (go_at_call 26; (with_reducible refine (chain_A_miss l c HA.out ⟨w.heap.size + 1 + 1, 0, none⟩ _ ?_).mono ?_); exact S1.g; rintro ev v2 ⟨rfl, hB2⟩; have S2 := S1.drew.below hB2; obtain ⟨s0, s1, s2, s3, s4, se, sa, sa', si, si', xe, xa, xa', xi, xi', xb, xg, xz⟩ := id S2) | (go_at_call 26; (with_reducible refine (chain_I_miss l c HI.out ⟨w.heap.size + 1 + 1 + 1, 0, none⟩ _ ?_).mono ?_); exact S2.g; rintro ev v3 ⟨rfl, hB3⟩; have S3 := S2.below hB3; obtain ⟨t0, t1, t2, t3, t4, te, ta, ta', ti, ti', ye, ya, ya', yi, yi', yb, yg, yz⟩ := id S3))
  all_goals
    go_wp2
    go_ret
    exact ⟨rfl, yb⟩
end Go.Proofs.YtdfnomglkibfbaaGreatDoor


namespace Go.Proofs.YtdfnomglkibfbaaGreatDoor.Vf
open Go.RowKit
set_option linter.unusedVariables false
set_option linter.unusedSimpArgs false
set_option maxRecDepth 100000
theorem sameNil (w : World) : Calls Tryz.prog 9 #[.nilIface, badV 0 0 false] w fun e w' => e = .returned (.bool true) ∧ Below w.heap.size w w' := by
  unfold badV
  go_enter Tryz.func9, Tryz.ntmps9
  go_wp2
  go_ret
  exact ⟨rfl, by first | exact (Below.refl _ w).alloc (Nat.le_refl _) _ | exact Below.refl _ _⟩
theorem same_res (r : Option (Int × Option Int)) (hr : ∀ c x, r = some (c, x) → c ≠ 0) (w : World) (hg : ET w) : Calls Tryz.prog 9 #[errV r, badR r] w fun e w' => e = .returned (.bool true) ∧ Below w.heap.size w w' := by
  cases r with
  | none => exact sameNil w
  | some x =>
    obtain ⟨c, x⟩ := x
    have hc : (c == 0) = false := by rw [beq_eq_false_iff_ne]; exact hr c x rfl
    cases x with
    | none => exact sameC_miss_miss [] c hc rfl rfl w hg
    | some x => exact sameC_hit_miss [(false, x)] c hc x [] rfl rfl w hg
end Go.Proofs.YtdfnomglkibfbaaGreatDoor.Vf

