
import Derived.Test.YtdfnomglkibfbaaGreatDoorAsC
import Derived.Test.YtdfnomglkibfbaaGreatDoorBase
import Derived.Deep.LoopGhost
import Derived.Deep.RegionWith
namespace Go.Proofs.YtdfnomglkibfbaaGreatDoor
open Go.RowKit Go.Extern.Stop Go.Stop Go.Extern

theorem assignableEA (w : World) : (ReflectliteType.relation "AssignableTo" ReflectliteType.assignableTo #[.agg #[.pointer (some ⟨4, 34, none⟩)], .iface 221 (.agg #[.pointer (some ⟨4, 93, none⟩)])]).run Tryz.prog w = .ok (.bool false) w := by kernel_rfl
theorem assignableEI (w : World) : (ReflectliteType.relation "AssignableTo" ReflectliteType.assignableTo #[.agg #[.pointer (some ⟨4, 34, none⟩)], .iface 221 (.agg #[.pointer (some ⟨4, 95, none⟩)])]).run Tryz.prog w = .ok (.bool false) w := by kernel_rfl


theorem noAsE (v : Value) (x : TypeId) (w : World) : (Instr.typeAssert (.iface 34 v) x 226 true).run Tryz.prog w = .ok (.tuple #[.nilIface, .bool false]) w := run_typeAssert_lacksB Tryz.underlying226 (by kernel_rfl) (by kernel_rfl) v x w
theorem noUnwrapE (v : Value) (x : TypeId) (w : World) : (Instr.typeAssert (.iface 34 v) x 229 true).run Tryz.prog w = .ok (.tuple #[.nilIface, .bool false]) w := run_typeAssert_lacksB Tryz.underlying229 (by kernel_rfl) (by kernel_rfl) v x w
theorem noUnwrapsE (v : Value) (x : TypeId) (w : World) : (Instr.typeAssert (.iface 34 v) x 231 true).run Tryz.prog w = .ok (.tuple #[.nilIface, .bool false]) w := run_typeAssert_lacksB Tryz.underlying231 (by kernel_rfl) (by kernel_rfl) v x w

set_option maxHeartbeats 4000000 in
/-- errors.As(an Errno, &at): it is not found. -/
theorem as_EA (c : Int) (t : Addr) (w : World) (hg : ET w) :
    Calls Tryz.prog 26 #[.iface 34 (.int .i64 c), .iface 98 (.pointer (some t))] w fun ev w' => ev = .returned (.bool false) ∧ w' = ((w.alloc (.cells #[.pointer (some t)] 98)).alloc (.cells #[.pointer (some ⟨4, 98, none⟩), .pointer (some ⟨w.heap.size, 0, none⟩), .int .u64 150] 115)).alloc (.cells #[.pointer (some ⟨4, 98, none⟩), .pointer (some ⟨w.heap.size, 0, none⟩), .int .u64 150] 115) := by
  unfold ET at hg
  have h1 := ext_valueOf; have h2 := ext_type; have h3 := ext_isNil; have h4 := ext_kind; have h5 := ext_telem; have h6 := ext_implements; have h7 := ext_typeOf; have h8 := ext_assignable; have h9 := ext_velem
  have tO := typeOfE; have na := noAsE; have nu := noUnwrapE; have nus := noUnwrapsE
  have mA := methodAssignableTo
  have aE := assignableEA
  have f6 := valueOfPA
  have f7 := typePA
  have mK := methodKind
  have mE := methodElem
  have mI := methodImplements
  have k27 := kindPA
  have k25 := kindA
  have e27 := elemPA
  have i25 := implementsA
  have n8 := isNilPA ⟨w.heap.size, 0, none⟩ t ((w.alloc (.cells #[.pointer (some t)] 98)).alloc (.cells #[.pointer (some ⟨4, 98, none⟩), .pointer (some ⟨w.heap.size, 0, none⟩), .int .u64 150] 115)) (by simp)
  have hlt : 0 < w.heap.size := by
    rcases Nat.lt_or_ge 0 w.heap.size with h | h
    · exact h
    · simp [World.cell?, Array.getElem?_eq_none h] at hg
  have hg2 : ((w.alloc (.cells #[.pointer (some t)] 98)).alloc (.cells #[.pointer (some ⟨4, 98, none⟩), .pointer (some ⟨w.heap.size, 0, none⟩), .int .u64 150] 115)).cell? ⟨0, 0, none⟩ = some (.iface 221 (.agg #[.pointer (some ⟨4, 32, none⟩)])) := by
    rw [World.cell?_alloc_lt _ _ ⟨0, 0, none⟩ (by simp <;> omega), World.cell?_alloc_lt _ _ ⟨0, 0, none⟩ hlt]; exact hg
  go_enter Tryz.func26, Tryz.ntmps26
  go_wp2
  refine wp_loop_rounds 1 ?_
  rw [rounds_succ]
  go_wp2
  go_ret
  exact ⟨rfl, rfl⟩

set_option maxHeartbeats 4000000 in
/-- errors.As(an Errno, &at): it is not found. -/
theorem as_EI (c : Int) (t : Addr) (w : World) (hg : ET w) :
    Calls Tryz.prog 26 #[.iface 34 (.int .i64 c), .iface 99 (.pointer (some t))] w fun ev w' => ev = .returned (.bool false) ∧ w' = ((w.alloc (.cells #[.pointer (some t)] 99)).alloc (.cells #[.pointer (some ⟨4, 99, none⟩), .pointer (some ⟨w.heap.size, 0, none⟩), .int .u64 150] 115)).alloc (.cells #[.pointer (some ⟨4, 99, none⟩), .pointer (some ⟨w.heap.size, 0, none⟩), .int .u64 150] 115) := by
  unfold ET at hg
  have h1 := ext_valueOf; have h2 := ext_type; have h3 := ext_isNil; have h4 := ext_kind; have h5 := ext_telem; have h6 := ext_implements; have h7 := ext_typeOf; have h8 := ext_assignable; have h9 := ext_velem
  have tO := typeOfE; have na := noAsE; have nu := noUnwrapE; have nus := noUnwrapsE
  have mA := methodAssignableTo
  have aE := assignableEI
  have f6 := valueOfPI
  have f7 := typePI
  have mK := methodKind
  have mE := methodElem
  have mI := methodImplements
  have k27 := kindPI
  have k25 := kindI
  have e27 := elemPI
  have i25 := implementsI
  have n8 := isNilPI ⟨w.heap.size, 0, none⟩ t ((w.alloc (.cells #[.pointer (some t)] 99)).alloc (.cells #[.pointer (some ⟨4, 99, none⟩), .pointer (some ⟨w.heap.size, 0, none⟩), .int .u64 150] 115)) (by simp)
  have hlt : 0 < w.heap.size := by
    rcases Nat.lt_or_ge 0 w.heap.size with h | h
    · exact h
    · simp [World.cell?, Array.getElem?_eq_none h] at hg
  have hg2 : ((w.alloc (.cells #[.pointer (some t)] 99)).alloc (.cells #[.pointer (some ⟨4, 99, none⟩), .pointer (some ⟨w.heap.size, 0, none⟩), .int .u64 150] 115)).cell? ⟨0, 0, none⟩ = some (.iface 221 (.agg #[.pointer (some ⟨4, 32, none⟩)])) := by
    rw [World.cell?_alloc_lt _ _ ⟨0, 0, none⟩ (by simp <;> omega), World.cell?_alloc_lt _ _ ⟨0, 0, none⟩ hlt]; exact hg
  go_enter Tryz.func26, Tryz.ntmps26
  go_wp2
  refine wp_loop_rounds 1 ?_
  rw [rounds_succ]
  go_wp2
  go_ret
  exact ⟨rfl, rfl⟩
end Go.Proofs.YtdfnomglkibfbaaGreatDoor

namespace Go.Proofs.YtdfnomglkibfbaaGreatDoor
open Go.RowKit Go.Extern.Stop Go.Stop Go.Extern
set_option linter.unusedVariables false

/-- an error: links (true: an api.In, false: an api.At; with its number), the outermost first; at the bottom an api.Errno. -/
def errV : List (Bool × Int) → Int → Value
  | [], c => .iface 34 (.int .i64 c)
  | (false, n) :: l, c => .iface 93 (.agg #[.int .i64 n, errV l c])
  | (true, n) :: l, c => .iface 95 (.agg #[.int .i64 n, errV l c])
/-- the first link of a kind, and what it wraps. -/
def findK (k : Bool) : List (Bool × Int) → Option (Int × List (Bool × Int))
  | [] => none
  | (j, n) :: l => if j = k then some (n, l) else findK k l
theorem errV_one (l : List (Bool × Int)) (c : Int) : (errV l c).oneCell' = true := by
  rcases l with _ | ⟨⟨k, n⟩, l⟩
  · rfl
  · cases k <;> rfl
theorem errV_notnil (l : List (Bool × Int)) (c : Int) (w : World) : (binOp .eql 32 (errV l c) .nilIface).run Tryz.prog w = .ok (.bool false) w := by
  rcases l with _ | ⟨⟨k, n⟩, l⟩
  · exact run_eql_held_nil _ _ _ _ (by kernel_rfl)
  · cases k
    · exact run_eql_held_nil _ _ _ _ (by kernel_rfl)
    · exact run_eql_held_nil _ _ _ _ (by kernel_rfl)
theorem errV_guard (l : List (Bool × Int)) (c : Int) (x : Operand) (w : World) : (eqGuard .eql 32 x (.const .nilIface) (errV l c) .nilIface).run Tryz.prog w = .ok () w := by
  rcases l with _ | ⟨⟨k, n⟩, l⟩
  · rfl
  · cases k <;> rfl

theorem valueOfA (x y : Value) (w : World) : (ReflectliteValue.unpack (.iface 93 (.agg #[x, y]))).run Tryz.prog w
    = .ok (.agg #[.pointer (some ⟨4, 93, none⟩), .pointer (some ⟨w.heap.size, 0, none⟩), .int .u64 153]) (w.alloc (.cells #[x, y] 93)) := by kernel_rfl
theorem noAsA (v : Value) (x : TypeId) (w : World) : (Instr.typeAssert (.iface 93 v) x 226 true).run Tryz.prog w = .ok (.tuple #[.nilIface, .bool false]) w := run_typeAssert_lacksB Tryz.underlying226 (by kernel_rfl) (by kernel_rfl) v x w
theorem unwrapsA (v : Value) (x : TypeId) (w : World) : (Instr.typeAssert (.iface 93 v) x 229 true).run Tryz.prog w = .ok (.tuple #[.iface 93 v, .bool true]) w := run_typeAssert_hasB Tryz.underlying229 (by kernel_rfl) v x w
theorem methodUnwrapA (v : Value) (w : World) : (Go.method 437 93 v "Unwrap").run Tryz.prog w = .ok (187, v) w := by kernel_rfl
theorem unwrapA (x y : Value) (w : World) : Calls Tryz.prog 187 #[.agg #[x, y]] w fun e w' => e = .returned y ∧ w' = w.alloc (.cells #[x, y] 93) := by
  go_enter Tryz.func187, Tryz.ntmps187
  go_wp2
  go_ret
  exact ⟨rfl, rfl⟩
theorem sizeA (w : World) : (sizeOf 93).run Tryz.prog w = .ok 2 w := by kernel_rfl
theorem setA (tb to : Nat) (b : Nat) (x y u v : Value) (W : World) (hx : W.cell? ⟨b, 0, none⟩ = some x) (hy : W.cell? ⟨b, 1, none⟩ = some y) (h0 : W.cell? ⟨tb, to, none⟩ = some u) (h1 : W.cell? ⟨tb, to + 1, none⟩ = some v) (f0 : W.frozen? ⟨tb, to, none⟩ = false) (f1 : W.frozen? ⟨tb, to + 1, none⟩ = false) (ox : x.oneCell' = true) (oy : y.oneCell' = true) :
    (ReflectliteValue.set #[.agg #[.pointer (some ⟨4, 93, none⟩), .pointer (some ⟨tb, to, none⟩), .int .u64 409], .agg #[.pointer (some ⟨4, 93, none⟩), .pointer (some ⟨b, 0, none⟩), .int .u64 153]]).run Tryz.prog W
      = .ok (.tuple #[]) ((W.setCell ⟨tb, to, none⟩ x).setCell ⟨tb, to + 1, none⟩ y) := by
  have hc : (W.setCell ⟨tb, to, none⟩ x).cell? ⟨tb, to + 1, none⟩ = some v := by rw [World.cell?_setCell_other _ _ _ _ (by simp)]; exact h1
  rw [rls _ _ Tryz.prog W 93 93 ⟨tb, to, none⟩ ⟨b, 0, none⟩ 409 153 (partsAA ⟨tb, to, none⟩ W) (partsA ⟨b, 0, none⟩ W) (by decide) (.agg #[x, y]) (by simp [loadVar, isAgg, underlying, Tryz.underlying93, loadCells, loadCellsFrom, Addr.add, hx, hy, Result.andThen]) (directA W)]
  simp [storeVar, Value.cells, storeCells, Addr.add, Result.andThen]
  rw [run_store Tryz.prog W ⟨tb, to, none⟩ _ _ ox]
  simp [h0, f0]
  rw [run_store Tryz.prog _ ⟨tb, to + 1, none⟩ _ _ oy]
  simp [hc, f1]

theorem valueOfI (x y : Value) (w : World) : (ReflectliteValue.unpack (.iface 95 (.agg #[x, y]))).run Tryz.prog w
    = .ok (.agg #[.pointer (some ⟨4, 95, none⟩), .pointer (some ⟨w.heap.size, 0, none⟩), .int .u64 153]) (w.alloc (.cells #[x, y] 95)) := by kernel_rfl
theorem noAsI (v : Value) (x : TypeId) (w : World) : (Instr.typeAssert (.iface 95 v) x 226 true).run Tryz.prog w = .ok (.tuple #[.nilIface, .bool false]) w := run_typeAssert_lacksB Tryz.underlying226 (by kernel_rfl) (by kernel_rfl) v x w
theorem unwrapsI (v : Value) (x : TypeId) (w : World) : (Instr.typeAssert (.iface 95 v) x 229 true).run Tryz.prog w = .ok (.tuple #[.iface 95 v, .bool true]) w := run_typeAssert_hasB Tryz.underlying229 (by kernel_rfl) v x w
theorem methodUnwrapI (v : Value) (w : World) : (Go.method 437 95 v "Unwrap").run Tryz.prog w = .ok (189, v) w := by kernel_rfl
theorem unwrapI (x y : Value) (w : World) : Calls Tryz.prog 189 #[.agg #[x, y]] w fun e w' => e = .returned y ∧ w' = w.alloc (.cells #[x, y] 95) := by
  go_enter Tryz.func189, Tryz.ntmps189
  go_wp2
  go_ret
  exact ⟨rfl, rfl⟩
theorem sizeI (w : World) : (sizeOf 95).run Tryz.prog w = .ok 2 w := by kernel_rfl
theorem setI (tb to : Nat) (b : Nat) (x y u v : Value) (W : World) (hx : W.cell? ⟨b, 0, none⟩ = some x) (hy : W.cell? ⟨b, 1, none⟩ = some y) (h0 : W.cell? ⟨tb, to, none⟩ = some u) (h1 : W.cell? ⟨tb, to + 1, none⟩ = some v) (f0 : W.frozen? ⟨tb, to, none⟩ = false) (f1 : W.frozen? ⟨tb, to + 1, none⟩ = false) (ox : x.oneCell' = true) (oy : y.oneCell' = true) :
    (ReflectliteValue.set #[.agg #[.pointer (some ⟨4, 95, none⟩), .pointer (some ⟨tb, to, none⟩), .int .u64 409], .agg #[.pointer (some ⟨4, 95, none⟩), .pointer (some ⟨b, 0, none⟩), .int .u64 153]]).run Tryz.prog W
      = .ok (.tuple #[]) ((W.setCell ⟨tb, to, none⟩ x).setCell ⟨tb, to + 1, none⟩ y) := by
  have hc : (W.setCell ⟨tb, to, none⟩ x).cell? ⟨tb, to + 1, none⟩ = some v := by rw [World.cell?_setCell_other _ _ _ _ (by simp)]; exact h1
  rw [rls _ _ Tryz.prog W 95 95 ⟨tb, to, none⟩ ⟨b, 0, none⟩ 409 153 (partsAI ⟨tb, to, none⟩ W) (partsI ⟨b, 0, none⟩ W) (by decide) (.agg #[x, y]) (by simp [loadVar, isAgg, underlying, Tryz.underlying95, loadCells, loadCellsFrom, Addr.add, hx, hy, Result.andThen]) (directI W)]
  simp [storeVar, Value.cells, storeCells, Addr.add, Result.andThen]
  rw [run_store Tryz.prog W ⟨tb, to, none⟩ _ _ ox]
  simp [h0, f0]
  rw [run_store Tryz.prog _ ⟨tb, to + 1, none⟩ _ _ oy]
  simp [hc, f1]
theorem assignableAE (w : World) : (ReflectliteType.relation "AssignableTo" ReflectliteType.assignableTo #[.agg #[.pointer (some ⟨4, 93, none⟩)], .iface 221 (.agg #[.pointer (some ⟨4, 34, none⟩)])]).run Tryz.prog w = .ok (.bool false) w := by kernel_rfl
theorem assignableAI (w : World) : (ReflectliteType.relation "AssignableTo" ReflectliteType.assignableTo #[.agg #[.pointer (some ⟨4, 93, none⟩)], .iface 221 (.agg #[.pointer (some ⟨4, 95, none⟩)])]).run Tryz.prog w = .ok (.bool false) w := by kernel_rfl
theorem assignableIE (w : World) : (ReflectliteType.relation "AssignableTo" ReflectliteType.assignableTo #[.agg #[.pointer (some ⟨4, 95, none⟩)], .iface 221 (.agg #[.pointer (some ⟨4, 34, none⟩)])]).run Tryz.prog w = .ok (.bool false) w := by kernel_rfl
theorem assignableIA (w : World) : (ReflectliteType.relation "AssignableTo" ReflectliteType.assignableTo #[.agg #[.pointer (some ⟨4, 95, none⟩)], .iface 221 (.agg #[.pointer (some ⟨4, 93, none⟩)])]).run Tryz.prog w = .ok (.bool false) w := by kernel_rfl
end Go.Proofs.YtdfnomglkibfbaaGreatDoor


namespace Go.Proofs.YtdfnomglkibfbaaGreatDoor
open Go.RowKit Go.Extern.Stop Go.Stop Go.Extern
set_option linter.unusedVariables false
set_option linter.unusedSimpArgs false

set_option maxRecDepth 100000 in
set_option maxHeartbeats 8000000 in
/-- errors.As(a chain, &e): its number is found. -/
theorem chain_E (l : List (Bool × Int)) (c : Int) (t : Addr) (old : Value) (w : World) (hg : ET w) (ht0 : w.cell? t = some old) (hf0 : w.frozen? t = false) :
    Calls Tryz.prog 26 #[errV l c, .iface 97 (.pointer (some t))] w fun ev w' => ev = .returned (.bool true) ∧ ∃ w1, Below w.heap.size w w1 ∧ w' = w1.setCell t (.int .i64 c) := by
  have hlt := ET_lt hg
  unfold ET at hg
  have h1 := ext_valueOf; have h2 := ext_type; have h3 := ext_isNil; have h4 := ext_kind; have h5 := ext_telem; have h6 := ext_implements; have h7 := ext_typeOf; have h8 := ext_assignable; have h9 := ext_velem; have h10 := ext_set
  have mA := methodAssignableTo
  have f6 := valueOfPE
  have f7 := typePE
  have mK := methodKind
  have mE := methodElem
  have mI := methodImplements
  have k27 := kindPE
  have k25 := kindE
  have e27 := elemPE
  have i25 := implementsE
  have n8 := isNilPE ⟨w.heap.size, 0, none⟩ t ((w.alloc (.cells #[.pointer (some t)] 97)).alloc (.cells #[.pointer (some ⟨4, 97, none⟩), .pointer (some ⟨w.heap.size, 0, none⟩), .int .u64 150] 115)) (by simp)
  have hg2 : ((w.alloc (.cells #[.pointer (some t)] 97)).alloc (.cells #[.pointer (some ⟨4, 97, none⟩), .pointer (some ⟨w.heap.size, 0, none⟩), .int .u64 150] 115)).cell? ⟨0, 0, none⟩ = some (.iface 221 (.agg #[.pointer (some ⟨4, 32, none⟩)])) := by
    rw [World.cell?_alloc_lt _ _ ⟨0, 0, none⟩ (by simp <;> omega), World.cell?_alloc_lt _ _ ⟨0, 0, none⟩ hlt]; exact hg
  have htl : t.block < w.heap.size := by
    rcases Nat.lt_or_ge t.block w.heap.size with h | h
    · exact h
    · simp [World.cell?, Array.getElem?_eq_none h] at ht0
  have enn := errV_notnil l c
  have egd := errV_guard l c
  go_enter Tryz.func26, Tryz.ntmps26
  go_wp2
  go_loopg [0] l.length (fun k x wx => ∃ l', x = errV l' c ∧ k = l'.length ∧ Below (w.heap.size + 3) (((w.alloc (.cells #[.pointer (some t)] 97)).alloc (.cells #[.pointer (some ⟨4, 97, none⟩), .pointer (some ⟨w.heap.size, 0, none⟩), .int .u64 150] 115)).alloc (.cells #[.pointer (some ⟨4, 97, none⟩), .pointer (some ⟨w.heap.size, 0, none⟩), .int .u64 150] 115)) wx)
  case atStart => exact ⟨l, rfl, rfl, Below.refl _ _⟩
  case round =>
    obtain ⟨l', rfl, rfl, hB⟩ := hrel
    have hs : w.heap.size + 3 ≤ wr.heap.size := by have := hB.size; simp at this; omega
    have x0 : wr.cell? ⟨w.heap.size, 0, none⟩ = some (.pointer (some t)) := by rw [hB.cell (p := ⟨w.heap.size, 0, none⟩) (by simp)]; simp [go_sem, World.cell?_alloc_past]
    have y0 : wr.cell? ⟨w.heap.size + 1 + 1, 0, none⟩ = some (.pointer (some ⟨4, 97, none⟩)) := by rw [hB.cell (p := ⟨w.heap.size + 1 + 1, 0, none⟩) (by simp)]; simp [go_sem, World.cell?_alloc_past]
    have y1 : wr.cell? ⟨w.heap.size + 1 + 1, 1, none⟩ = some (.pointer (some ⟨w.heap.size, 0, none⟩)) := by rw [hB.cell (p := ⟨w.heap.size + 1 + 1, 1, none⟩) (by simp)]; simp [go_sem, World.cell?_alloc_past]
    have y2 : wr.cell? ⟨w.heap.size + 1 + 1, 2, none⟩ = some (.int .u64 150) := by rw [hB.cell (p := ⟨w.heap.size + 1 + 1, 2, none⟩) (by simp)]; simp [go_sem, World.cell?_alloc_past]
    have tc : wr.cell? t = some old := by
      rw [hB.cell (p := t) (by omega), World.cell?_alloc_lt _ _ t (by simp; omega), World.cell?_alloc_lt _ _ t (by simp; omega), World.cell?_alloc_lt _ _ t htl]; exact ht0
    have tf : wr.frozen? t = false := by
      rw [hB.frozen (p := t) (by omega), World.frozen?_alloc_old _ _ t (by simp; omega), World.frozen?_alloc_old _ _ t (by simp; omega), World.frozen?_alloc_old _ _ t (by omega)]; exact hf0
    have hBw : Below w.heap.size w wr := (below_new (below_new (below_new (Below.refl _ _) _) _) _).trans (hB.mono (by omega))
    rcases l' with _ | ⟨⟨k, n⟩, rest⟩
    · simp only [errV]
      have tO := typeOfE
      have aE := assignableE
      have vE := valueOfE
      have el := elemVE ⟨w.heap.size, 0, none⟩ t wr x0
      have st := setE t ⟨wr.heap.size, 0, none⟩ c old (wr.alloc (.cells #[.int .i64 c] 34)) (by simp) (by rw [World.cell?_alloc_lt _ _ t (by omega)]; exact tc) (by rw [World.frozen?_alloc_old _ _ t (by omega)]; exact tf)
      go_wp2
      go_ret
      exact ⟨rfl, _, below_new hBw _, rfl⟩
    · have enr := errV_notnil rest c
      have egr := errV_guard rest c
      cases k
      · simp only [errV]
        have tO := typeOfA
        have aE := assignableAE
        have nA := noAsA
        have uA := unwrapsA
        have mU := methodUnwrapA
        go_wp2_with (go_at_call 187; refine (unwrapA _ _ _).mono ?_; rintro e w' ⟨rfl, rfl⟩)
        go_roundg rest.length
        case measure => simp
        case rel => exact ⟨rest, rfl, rfl, hB.alloc (by omega) _⟩
      · simp only [errV]
        have tO := typeOfI
        have aE := assignableIE
        have nA := noAsI
        have uA := unwrapsI
        have mU := methodUnwrapI
        go_wp2_with (go_at_call 189; refine (unwrapI _ _ _).mono ?_; rintro e w' ⟨rfl, rfl⟩)
        go_roundg rest.length
        case measure => simp
        case rel => exact ⟨rest, rfl, rfl, hB.alloc (by omega) _⟩
end Go.Proofs.YtdfnomglkibfbaaGreatDoor

namespace Go.Proofs.YtdfnomglkibfbaaGreatDoor
open Go.RowKit Go.Extern.Stop Go.Stop Go.Extern
set_option linter.unusedVariables false
set_option linter.unusedSimpArgs false

set_option maxRecDepth 100000 in
set_option maxHeartbeats 8000000 in
/-- errors.As(a chain, &t), where there is such a link. -/
theorem chain_A_hit (l : List (Bool × Int)) (c n : Int) (r : List (Bool × Int)) (hf : findK false l = some (n, r)) (tb to : Nat) (u v : Value) (w : World) (hg : ET w) (ht0 : w.cell? ⟨tb, to, none⟩ = some u) (ht1 : w.cell? ⟨tb, to + 1, none⟩ = some v) (hf0 : w.frozen? ⟨tb, to, none⟩ = false) (hf1 : w.frozen? ⟨tb, to + 1, none⟩ = false) :
    Calls Tryz.prog 26 #[errV l c, .iface 98 (.pointer (some ⟨tb, to, none⟩))] w fun ev w' => ev = .returned (.bool true) ∧ ∃ w1, Below w.heap.size w w1 ∧ w' = (w1.setCell ⟨tb, to, none⟩ (.int .i64 n)).setCell ⟨tb, to + 1, none⟩ (errV r c) := by
  have HF : Hid (findK false l = some (n, r)) := hf
  clear hf
  have hlt := ET_lt hg
  unfold ET at hg
  have h1 := ext_valueOf; have h2 := ext_type; have h3 := ext_isNil; have h4 := ext_kind; have h5 := ext_telem; have h6 := ext_implements; have h7 := ext_typeOf; have h8 := ext_assignable; have h9 := ext_velem; have h10 := ext_set
  have mA := methodAssignableTo
  have f6 := valueOfPA
  have f7 := typePA
  have mK := methodKind
  have mE := methodElem
  have mI := methodImplements
  have k27 := kindPA
  have k25 := kindA
  have e27 := elemPA
  have i25 := implementsA
  have n8 := isNilPA ⟨w.heap.size, 0, none⟩ ⟨tb, to, none⟩ ((w.alloc (.cells #[.pointer (some ⟨tb, to, none⟩)] 98)).alloc (.cells #[.pointer (some ⟨4, 98, none⟩), .pointer (some ⟨w.heap.size, 0, none⟩), .int .u64 150] 115)) (by simp)
  have hg2 : ((w.alloc (.cells #[.pointer (some ⟨tb, to, none⟩)] 98)).alloc (.cells #[.pointer (some ⟨4, 98, none⟩), .pointer (some ⟨w.heap.size, 0, none⟩), .int .u64 150] 115)).cell? ⟨0, 0, none⟩ = some (.iface 221 (.agg #[.pointer (some ⟨4, 32, none⟩)])) := by
    rw [World.cell?_alloc_lt _ _ ⟨0, 0, none⟩ (by simp <;> omega), World.cell?_alloc_lt _ _ ⟨0, 0, none⟩ hlt]; exact hg
  have htl : tb < w.heap.size := by
    rcases Nat.lt_or_ge tb w.heap.size with h | h
    · exact h
    · simp [World.cell?, Array.getElem?_eq_none h] at ht0
  have enn := errV_notnil l c
  have egd := errV_guard l c
  go_enter Tryz.func26, Tryz.ntmps26
  go_wp2
  go_loopg [0] l.length (fun k x wx => ∃ l', x = errV l' c ∧ k = l'.length ∧ Hid (findK false l' = some (n, r)) ∧ Below (w.heap.size + 3) (((w.alloc (.cells #[.pointer (some ⟨tb, to, none⟩)] 98)).alloc (.cells #[.pointer (some ⟨4, 98, none⟩), .pointer (some ⟨w.heap.size, 0, none⟩), .int .u64 150] 115)).alloc (.cells #[.pointer (some ⟨4, 98, none⟩), .pointer (some ⟨w.heap.size, 0, none⟩), .int .u64 150] 115)) wx)
  case atStart => exact ⟨l, rfl, rfl, HF, Below.refl _ _⟩
  case round =>
    obtain ⟨l', rfl, rfl, HG, hB⟩ := hrel
    have hs : w.heap.size + 3 ≤ wr.heap.size := by have := hB.size; simp at this; omega
    have hBw : Below w.heap.size w wr := (below_new (below_new (below_new (Below.refl _ _) _) _) _).trans (hB.mono (by omega))
    have x0 : wr.cell? ⟨w.heap.size, 0, none⟩ = some (.pointer (some ⟨tb, to, none⟩)) := by rw [hB.cell (p := ⟨w.heap.size, 0, none⟩) (by simp)]; simp [go_sem, World.cell?_alloc_past]
    have y0 : wr.cell? ⟨w.heap.size + 1 + 1, 0, none⟩ = some (.pointer (some ⟨4, 98, none⟩)) := by rw [hB.cell (p := ⟨w.heap.size + 1 + 1, 0, none⟩) (by simp)]; simp [go_sem, World.cell?_alloc_past]
    have y1 : wr.cell? ⟨w.heap.size + 1 + 1, 1, none⟩ = some (.pointer (some ⟨w.heap.size, 0, none⟩)) := by rw [hB.cell (p := ⟨w.heap.size + 1 + 1, 1, none⟩) (by simp)]; simp [go_sem, World.cell?_alloc_past]
    have y2 : wr.cell? ⟨w.heap.size + 1 + 1, 2, none⟩ = some (.int .u64 150) := by rw [hB.cell (p := ⟨w.heap.size + 1 + 1, 2, none⟩) (by simp)]; simp [go_sem, World.cell?_alloc_past]
    have tcel : ∀ o, wr.cell? ⟨tb, o, none⟩ = w.cell? ⟨tb, o, none⟩ := fun o => by
      rw [hB.cell (p := ⟨tb, o, none⟩) (by simp; omega), World.cell?_alloc_lt _ _ ⟨tb, o, none⟩ (by simp; omega), World.cell?_alloc_lt _ _ ⟨tb, o, none⟩ (by simp; omega), World.cell?_alloc_lt _ _ ⟨tb, o, none⟩ htl]
    have tfro : ∀ o, wr.frozen? ⟨tb, o, none⟩ = w.frozen? ⟨tb, o, none⟩ := fun o => by
      rw [hB.frozen (p := ⟨tb, o, none⟩) (by simp; omega), World.frozen?_alloc_old _ _ ⟨tb, o, none⟩ (by simp; omega), World.frozen?_alloc_old _ _ ⟨tb, o, none⟩ (by simp; omega), World.frozen?_alloc_old _ _ ⟨tb, o, none⟩ (by simp; omega)]
    rcases l' with _ | ⟨⟨k, m⟩, rest⟩
    · exact absurd HG.out (by simp [findK])
    · have enr := errV_notnil rest c
      have egr := errV_guard rest c
      by_cases hk : k = false
      · subst hk
        have hfo := HG.out
        simp only [findK, if_true, Option.some.injEq, Prod.mk.injEq] at hfo
        obtain ⟨rfl, rfl⟩ := hfo
        simp only [errV]
        have tO := typeOfA
        have aE := assignableA
        have vE := valueOfA
        have el := elemVA ⟨w.heap.size, 0, none⟩ ⟨tb, to, none⟩ wr x0
        have hlw : tb < wr.heap.size := by omega
        have st := setA tb to wr.heap.size (.int .i64 m) (errV rest c) u v (wr.alloc (.cells #[.int .i64 m, errV rest c] 93)) (by simp) (by simp) (by rw [World.cell?_alloc_lt _ _ ⟨tb, to, none⟩ hlw, tcel]; exact ht0) (by rw [World.cell?_alloc_lt _ _ ⟨tb, to + 1, none⟩ hlw, tcel]; exact ht1) (by rw [World.frozen?_alloc_old _ _ ⟨tb, to, none⟩ (by simp; omega), tfro]; exact hf0) (by rw [World.frozen?_alloc_old _ _ ⟨tb, to + 1, none⟩ (by simp; omega), tfro]; exact hf1) rfl (errV_one _ _)
        clear tcel tfro
        go_wp2
        go_ret
        refine ⟨rfl, wr.alloc (.cells #[.int .i64 m, errV rest c] 93), below_new hBw _, ?_⟩
        rw [World.setCell_alloc_past _ _ _ _ hlw, World.setCell_alloc_past _ _ _ _ (by simpa using hlw)]
      · have hk2 : k = true := by cases k <;> first | rfl | exact absurd rfl hk
        subst hk2
        have HH : Hid (findK false rest = some (n, r)) := (by have := HG.out; simpa [findK] using this : findK false rest = some (n, r))
        simp only [errV]
        have tO := typeOfI
        have aE := assignableIA
        have nA := noAsI
        have uA := unwrapsI
        have mU := methodUnwrapI
        clear tcel tfro
        go_wp2_with (go_at_call 189; refine (unwrapI _ _ _).mono ?_; rintro e w' ⟨rfl, rfl⟩)
        go_roundg rest.length
        case measure => simp
        case rel => exact ⟨rest, rfl, rfl, HH, hB.alloc (by omega) _⟩
end Go.Proofs.YtdfnomglkibfbaaGreatDoor


namespace Go.Proofs.YtdfnomglkibfbaaGreatDoor
open Go.RowKit Go.Extern.Stop Go.Stop Go.Extern
set_option linter.unusedVariables false
set_option linter.unusedSimpArgs false

set_option maxRecDepth 100000 in
set_option maxHeartbeats 8000000 in
/-- errors.As(a chain, &t), where there is no such link. -/
theorem chain_A_miss (l : List (Bool × Int)) (c : Int) (hf : findK false l = none) (t : Addr) (w : World) (hg : ET w) :
    Calls Tryz.prog 26 #[errV l c, .iface 98 (.pointer (some t))] w fun ev w' => ev = .returned (.bool false) ∧ Below w.heap.size w w' := by
  have HF : Hid (findK false l = none) := hf
  clear hf
  have hlt := ET_lt hg
  unfold ET at hg
  have h1 := ext_valueOf; have h2 := ext_type; have h3 := ext_isNil; have h4 := ext_kind; have h5 := ext_telem; have h6 := ext_implements; have h7 := ext_typeOf; have h8 := ext_assignable; have h9 := ext_velem; have h10 := ext_set
  have mA := methodAssignableTo
  have f6 := valueOfPA
  have f7 := typePA
  have mK := methodKind
  have mE := methodElem
  have mI := methodImplements
  have k27 := kindPA
  have k25 := kindA
  have e27 := elemPA
  have i25 := implementsA
  have n8 := isNilPA ⟨w.heap.size, 0, none⟩ t ((w.alloc (.cells #[.pointer (some t)] 98)).alloc (.cells #[.pointer (some ⟨4, 98, none⟩), .pointer (some ⟨w.heap.size, 0, none⟩), .int .u64 150] 115)) (by simp)
  have hg2 : ((w.alloc (.cells #[.pointer (some t)] 98)).alloc (.cells #[.pointer (some ⟨4, 98, none⟩), .pointer (some ⟨w.heap.size, 0, none⟩), .int .u64 150] 115)).cell? ⟨0, 0, none⟩ = some (.iface 221 (.agg #[.pointer (some ⟨4, 32, none⟩)])) := by
    rw [World.cell?_alloc_lt _ _ ⟨0, 0, none⟩ (by simp <;> omega), World.cell?_alloc_lt _ _ ⟨0, 0, none⟩ hlt]; exact hg
  have enn := errV_notnil l c
  have egd := errV_guard l c
  go_enter Tryz.func26, Tryz.ntmps26
  go_wp2
  go_loopg [0] l.length (fun k x wx => ∃ l', x = errV l' c ∧ k = l'.length ∧ Hid (findK false l' = none) ∧ Below (w.heap.size + 3) (((w.alloc (.cells #[.pointer (some t)] 98)).alloc (.cells #[.pointer (some ⟨4, 98, none⟩), .pointer (some ⟨w.heap.size, 0, none⟩), .int .u64 150] 115)).alloc (.cells #[.pointer (some ⟨4, 98, none⟩), .pointer (some ⟨w.heap.size, 0, none⟩), .int .u64 150] 115)) wx)
  case atStart => exact ⟨l, rfl, rfl, HF, Below.refl _ _⟩
  case round =>
    obtain ⟨l', rfl, rfl, HG, hB⟩ := hrel
    have hs : w.heap.size + 3 ≤ wr.heap.size := by have := hB.size; simp at this; omega
    have hBw : Below w.heap.size w wr := (below_new (below_new (below_new (Below.refl _ _) _) _) _).trans (hB.mono (by omega))
    rcases l' with _ | ⟨⟨k, m⟩, rest⟩
    · simp only [errV]
      have tO := typeOfE
      have aE := assignableEA
      have nA := noAsE
      have nU := noUnwrapE
      have nUs := noUnwrapsE
      go_wp2
      go_ret
      exact ⟨rfl, hBw⟩
    · have enr := errV_notnil rest c
      have egr := errV_guard rest c
      by_cases hk : k = false
      · subst hk
        exact absurd HG.out (by simp [findK])
      · have hk2 : k = true := by cases k <;> first | rfl | exact absurd rfl hk
        subst hk2
        have HH : Hid (findK false rest = none) := (by have := HG.out; simpa [findK] using this : findK false rest = none)
        simp only [errV]
        have tO := typeOfI
        have aE := assignableIA
        have nA := noAsI
        have uA := unwrapsI
        have mU := methodUnwrapI
        go_wp2_with (go_at_call 189; refine (unwrapI _ _ _).mono ?_; rintro e w' ⟨rfl, rfl⟩)
        go_roundg rest.length
        case measure => simp
        case rel => exact ⟨rest, rfl, rfl, HH, hB.alloc (by omega) _⟩
end Go.Proofs.YtdfnomglkibfbaaGreatDoor


namespace Go.Proofs.YtdfnomglkibfbaaGreatDoor
open Go.RowKit Go.Extern.Stop Go.Stop Go.Extern
set_option linter.unusedVariables false
set_option linter.unusedSimpArgs false

set_option maxRecDepth 100000 in
set_option maxHeartbeats 8000000 in
/-- errors.As(a chain, &t), where there is such a link. -/
theorem chain_I_hit (l : List (Bool × Int)) (c n : Int) (r : List (Bool × Int)) (hf : findK true l = some (n, r)) (tb to : Nat) (u v : Value) (w : World) (hg : ET w) (ht0 : w.cell? ⟨tb, to, none⟩ = some u) (ht1 : w.cell? ⟨tb, to + 1, none⟩ = some v) (hf0 : w.frozen? ⟨tb, to, none⟩ = false) (hf1 : w.frozen? ⟨tb, to + 1, none⟩ = false) :
    Calls Tryz.prog 26 #[errV l c, .iface 99 (.pointer (some ⟨tb, to, none⟩))] w fun ev w' => ev = .returned (.bool true) ∧ ∃ w1, Below w.heap.size w w1 ∧ w' = (w1.setCell ⟨tb, to, none⟩ (.int .i64 n)).setCell ⟨tb, to + 1, none⟩ (errV r c) := by
  have HF : Hid (findK true l = some (n, r)) := hf
  clear hf
  have hlt := ET_lt hg
  unfold ET at hg
  have h1 := ext_valueOf; have h2 := ext_type; have h3 := ext_isNil; have h4 := ext_kind; have h5 := ext_telem; have h6 := ext_implements; have h7 := ext_typeOf; have h8 := ext_assignable; have h9 := ext_velem; have h10 := ext_set
  have mA := methodAssignableTo
  have f6 := valueOfPI
  have f7 := typePI
  have mK := methodKind
  have mE := methodElem
  have mI := methodImplements
  have k27 := kindPI
  have k25 := kindI
  have e27 := elemPI
  have i25 := implementsI
  have n8 := isNilPI ⟨w.heap.size, 0, none⟩ ⟨tb, to, none⟩ ((w.alloc (.cells #[.pointer (some ⟨tb, to, none⟩)] 99)).alloc (.cells #[.pointer (some ⟨4, 99, none⟩), .pointer (some ⟨w.heap.size, 0, none⟩), .int .u64 150] 115)) (by simp)
  have hg2 : ((w.alloc (.cells #[.pointer (some ⟨tb, to, none⟩)] 99)).alloc (.cells #[.pointer (some ⟨4, 99, none⟩), .pointer (some ⟨w.heap.size, 0, none⟩), .int .u64 150] 115)).cell? ⟨0, 0, none⟩ = some (.iface 221 (.agg #[.pointer (some ⟨4, 32, none⟩)])) := by
    rw [World.cell?_alloc_lt _ _ ⟨0, 0, none⟩ (by simp <;> omega), World.cell?_alloc_lt _ _ ⟨0, 0, none⟩ hlt]; exact hg
  have htl : tb < w.heap.size := by
    rcases Nat.lt_or_ge tb w.heap.size with h | h
    · exact h
    · simp [World.cell?, Array.getElem?_eq_none h] at ht0
  have enn := errV_notnil l c
  have egd := errV_guard l c
  go_enter Tryz.func26, Tryz.ntmps26
  go_wp2
  go_loopg [0] l.length (fun k x wx => ∃ l', x = errV l' c ∧ k = l'.length ∧ Hid (findK true l' = some (n, r)) ∧ Below (w.heap.size + 3) (((w.alloc (.cells #[.pointer (some ⟨tb, to, none⟩)] 99)).alloc (.cells #[.pointer (some ⟨4, 99, none⟩), .pointer (some ⟨w.heap.size, 0, none⟩), .int .u64 150] 115)).alloc (.cells #[.pointer (some ⟨4, 99, none⟩), .pointer (some ⟨w.heap.size, 0, none⟩), .int .u64 150] 115)) wx)
  case atStart => exact ⟨l, rfl, rfl, HF, Below.refl _ _⟩
  case round =>
    obtain ⟨l', rfl, rfl, HG, hB⟩ := hrel
    have hs : w.heap.size + 3 ≤ wr.heap.size := by have := hB.size; simp at this; omega
    have hBw : Below w.heap.size w wr := (below_new (below_new (below_new (Below.refl _ _) _) _) _).trans (hB.mono (by omega))
    have x0 : wr.cell? ⟨w.heap.size, 0, none⟩ = some (.pointer (some ⟨tb, to, none⟩)) := by rw [hB.cell (p := ⟨w.heap.size, 0, none⟩) (by simp)]; simp [go_sem, World.cell?_alloc_past]
    have y0 : wr.cell? ⟨w.heap.size + 1 + 1, 0, none⟩ = some (.pointer (some ⟨4, 99, none⟩)) := by rw [hB.cell (p := ⟨w.heap.size + 1 + 1, 0, none⟩) (by simp)]; simp [go_sem, World.cell?_alloc_past]
    have y1 : wr.cell? ⟨w.heap.size + 1 + 1, 1, none⟩ = some (.pointer (some ⟨w.heap.size, 0, none⟩)) := by rw [hB.cell (p := ⟨w.heap.size + 1 + 1, 1, none⟩) (by simp)]; simp [go_sem, World.cell?_alloc_past]
    have y2 : wr.cell? ⟨w.heap.size + 1 + 1, 2, none⟩ = some (.int .u64 150) := by rw [hB.cell (p := ⟨w.heap.size + 1 + 1, 2, none⟩) (by simp)]; simp [go_sem, World.cell?_alloc_past]
    have tcel : ∀ o, wr.cell? ⟨tb, o, none⟩ = w.cell? ⟨tb, o, none⟩ := fun o => by
      rw [hB.cell (p := ⟨tb, o, none⟩) (by simp; omega), World.cell?_alloc_lt _ _ ⟨tb, o, none⟩ (by simp; omega), World.cell?_alloc_lt _ _ ⟨tb, o, none⟩ (by simp; omega), World.cell?_alloc_lt _ _ ⟨tb, o, none⟩ htl]
    have tfro : ∀ o, wr.frozen? ⟨tb, o, none⟩ = w.frozen? ⟨tb, o, none⟩ := fun o => by
      rw [hB.frozen (p := ⟨tb, o, none⟩) (by simp; omega), World.frozen?_alloc_old _ _ ⟨tb, o, none⟩ (by simp; omega), World.frozen?_alloc_old _ _ ⟨tb, o, none⟩ (by simp; omega), World.frozen?_alloc_old _ _ ⟨tb, o, none⟩ (by simp; omega)]
    rcases l' with _ | ⟨⟨k, m⟩, rest⟩
    · exact absurd HG.out (by simp [findK])
    · have enr := errV_notnil rest c
      have egr := errV_guard rest c
      by_cases hk : k = true
      · subst hk
        have hfo := HG.out
        simp only [findK, if_true, Option.some.injEq, Prod.mk.injEq] at hfo
        obtain ⟨rfl, rfl⟩ := hfo
        simp only [errV]
        have tO := typeOfI
        have aE := assignableI
        have vE := valueOfI
        have el := elemVI ⟨w.heap.size, 0, none⟩ ⟨tb, to, none⟩ wr x0
        have hlw : tb < wr.heap.size := by omega
        have st := setI tb to wr.heap.size (.int .i64 m) (errV rest c) u v (wr.alloc (.cells #[.int .i64 m, errV rest c] 95)) (by simp) (by simp) (by rw [World.cell?_alloc_lt _ _ ⟨tb, to, none⟩ hlw, tcel]; exact ht0) (by rw [World.cell?_alloc_lt _ _ ⟨tb, to + 1, none⟩ hlw, tcel]; exact ht1) (by rw [World.frozen?_alloc_old _ _ ⟨tb, to, none⟩ (by simp; omega), tfro]; exact hf0) (by rw [World.frozen?_alloc_old _ _ ⟨tb, to + 1, none⟩ (by simp; omega), tfro]; exact hf1) rfl (errV_one _ _)
        clear tcel tfro
        go_wp2
        go_ret
        refine ⟨rfl, wr.alloc (.cells #[.int .i64 m, errV rest c] 95), below_new hBw _, ?_⟩
        rw [World.setCell_alloc_past _ _ _ _ hlw, World.setCell_alloc_past _ _ _ _ (by simpa using hlw)]
      · have hk2 : k = false := by cases k <;> first | rfl | exact absurd rfl hk
        subst hk2
        have HH : Hid (findK true rest = some (n, r)) := (by have := HG.out; simpa [findK] using this : findK true rest = some (n, r))
        simp only [errV]
        have tO := typeOfA
        have aE := assignableAI
        have nA := noAsA
        have uA := unwrapsA
        have mU := methodUnwrapA
        clear tcel tfro
        go_wp2_with (go_at_call 187; refine (unwrapA _ _ _).mono ?_; rintro e w' ⟨rfl, rfl⟩)
        go_roundg rest.length
        case measure => simp
        case rel => exact ⟨rest, rfl, rfl, HH, hB.alloc (by omega) _⟩
end Go.Proofs.YtdfnomglkibfbaaGreatDoor


namespace Go.Proofs.YtdfnomglkibfbaaGreatDoor
open Go.RowKit Go.Extern.Stop Go.Stop Go.Extern
set_option linter.unusedVariables false
set_option linter.unusedSimpArgs false

set_option maxRecDepth 100000 in
set_option maxHeartbeats 8000000 in
/-- errors.As(a chain, &t), where there is no such link. -/
theorem chain_I_miss (l : List (Bool × Int)) (c : Int) (hf : findK true l = none) (t : Addr) (w : World) (hg : ET w) :
    Calls Tryz.prog 26 #[errV l c, .iface 99 (.pointer (some t))] w fun ev w' => ev = .returned (.bool false) ∧ Below w.heap.size w w' := by
  have HF : Hid (findK true l = none) := hf
  clear hf
  have hlt := ET_lt hg
  unfold ET at hg
  have h1 := ext_valueOf; have h2 := ext_type; have h3 := ext_isNil; have h4 := ext_kind; have h5 := ext_telem; have h6 := ext_implements; have h7 := ext_typeOf; have h8 := ext_assignable; have h9 := ext_velem; have h10 := ext_set
  have mA := methodAssignableTo
  have f6 := valueOfPI
  have f7 := typePI
  have mK := methodKind
  have mE := methodElem
  have mI := methodImplements
  have k27 := kindPI
  have k25 := kindI
  have e27 := elemPI
  have i25 := implementsI
  have n8 := isNilPI ⟨w.heap.size, 0, none⟩ t ((w.alloc (.cells #[.pointer (some t)] 99)).alloc (.cells #[.pointer (some ⟨4, 99, none⟩), .pointer (some ⟨w.heap.size, 0, none⟩), .int .u64 150] 115)) (by simp)
  have hg2 : ((w.alloc (.cells #[.pointer (some t)] 99)).alloc (.cells #[.pointer (some ⟨4, 99, none⟩), .pointer (some ⟨w.heap.size, 0, none⟩), .int .u64 150] 115)).cell? ⟨0, 0, none⟩ = some (.iface 221 (.agg #[.pointer (some ⟨4, 32, none⟩)])) := by
    rw [World.cell?_alloc_lt _ _ ⟨0, 0, none⟩ (by simp <;> omega), World.cell?_alloc_lt _ _ ⟨0, 0, none⟩ hlt]; exact hg
  have enn := errV_notnil l c
  have egd := errV_guard l c
  go_enter Tryz.func26, Tryz.ntmps26
  go_wp2
  go_loopg [0] l.length (fun k x wx => ∃ l', x = errV l' c ∧ k = l'.length ∧ Hid (findK true l' = none) ∧ Below (w.heap.size + 3) (((w.alloc (.cells #[.pointer (some t)] 99)).alloc (.cells #[.pointer (some ⟨4, 99, none⟩), .pointer (some ⟨w.heap.size, 0, none⟩), .int .u64 150] 115)).alloc (.cells #[.pointer (some ⟨4, 99, none⟩), .pointer (some ⟨w.heap.size, 0, none⟩), .int .u64 150] 115)) wx)
  case atStart => exact ⟨l, rfl, rfl, HF, Below.refl _ _⟩
  case round =>
    obtain ⟨l', rfl, rfl, HG, hB⟩ := hrel
    have hs : w.heap.size + 3 ≤ wr.heap.size := by have := hB.size; simp at this; omega
    have hBw : Below w.heap.size w wr := (below_new (below_new (below_new (Below.refl _ _) _) _) _).trans (hB.mono (by omega))
    rcases l' with _ | ⟨⟨k, m⟩, rest⟩
    · simp only [errV]
      have tO := typeOfE
      have aE := assignableEI
      have nA := noAsE
      have nU := noUnwrapE
      have nUs := noUnwrapsE
      go_wp2
      go_ret
      exact ⟨rfl, hBw⟩
    · have enr := errV_notnil rest c
      have egr := errV_guard rest c
      by_cases hk : k = true
      · subst hk
        exact absurd HG.out (by simp [findK])
      · have hk2 : k = false := by cases k <;> first | rfl | exact absurd rfl hk
        subst hk2
        have HH : Hid (findK true rest = none) := (by have := HG.out; simpa [findK] using this : findK true rest = none)
        simp only [errV]
        have tO := typeOfA
        have aE := assignableAI
        have nA := noAsA
        have uA := unwrapsA
        have mU := methodUnwrapA
        go_wp2_with (go_at_call 187; refine (unwrapA _ _ _).mono ?_; rintro e w' ⟨rfl, rfl⟩)
        go_roundg rest.length
        case measure => simp
        case rel => exact ⟨rest, rfl, rfl, HH, hB.alloc (by omega) _⟩
end Go.Proofs.YtdfnomglkibfbaaGreatDoor


namespace Go.Proofs.YtdfnomglkibfbaaGreatDoor
open Go.RowKit
set_option linter.unusedVariables false
set_option linter.unusedSimpArgs false

/-- the variables of weirboth.Same: the document's error at N, e at N + 1, at at N + 2, in at N + 3. -/
structure St (w : World) (c A I : Int) (P Q : Bool) (e a a' i i' : Value) (v : World) : Prop where
  n0 : v.cell? ⟨w.heap.size, 0, none⟩ = some (.int .i64 c)
  n1 : v.cell? ⟨w.heap.size, 1, none⟩ = some (.int .i64 A)
  n2 : v.cell? ⟨w.heap.size, 2, none⟩ = some (.int .i64 I)
  n3 : v.cell? ⟨w.heap.size, 3, none⟩ = some (.bool P)
  n4 : v.cell? ⟨w.heap.size, 4, none⟩ = some (.bool Q)
  ce : v.cell? ⟨w.heap.size + 1, 0, none⟩ = some e
  ca : v.cell? ⟨w.heap.size + 1 + 1, 0, none⟩ = some a
  ca' : v.cell? ⟨w.heap.size + 1 + 1, 1, none⟩ = some a'
  ci : v.cell? ⟨w.heap.size + 1 + 1 + 1, 0, none⟩ = some i
  ci' : v.cell? ⟨w.heap.size + 1 + 1 + 1, 1, none⟩ = some i'
  fe : v.frozen? ⟨w.heap.size + 1, 0, none⟩ = false
  fa : v.frozen? ⟨w.heap.size + 1 + 1, 0, none⟩ = false
  fa' : v.frozen? ⟨w.heap.size + 1 + 1, 1, none⟩ = false
  fi : v.frozen? ⟨w.heap.size + 1 + 1 + 1, 0, none⟩ = false
  fi' : v.frozen? ⟨w.heap.size + 1 + 1 + 1, 1, none⟩ = false
  b : Below w.heap.size w v
  g : ET v
  z : w.heap.size + 3 < v.heap.size
theorem St.below {w v v' : World} {c A I : Int} {P Q : Bool} {e a a' i i' : Value} (h : St w c A I P Q e a a' i i' v) (hb : Below v.heap.size v v') : St w c A I P Q e a a' i i' v' := by
  obtain ⟨n0, n1, n2, n3, n4, ce, ca, ca', ci, ci', fe, fa, fa', fi, fi', b, g, z⟩ := h
  have cc : ∀ (p : Nat) (o : Nat), p ≤ w.heap.size + 3 → v'.cell? ⟨p, o, none⟩ = v.cell? ⟨p, o, none⟩ := fun p o hp => hb.cell (p := ⟨p, o, none⟩) (by simp; omega)
  have ff : ∀ (p : Nat) (o : Nat), p ≤ w.heap.size + 3 → v'.frozen? ⟨p, o, none⟩ = v.frozen? ⟨p, o, none⟩ := fun p o hp => hb.frozen (p := ⟨p, o, none⟩) (by simp; omega)
  have hs := hb.size
  refine ⟨?_, ?_, ?_, ?_, ?_, ?_, ?_, ?_, ?_, ?_, ?_, ?_, ?_, ?_, ?_, b.trans (hb.mono (by omega)), ET_below g hb, by omega⟩
  · rw [cc _ _ (by omega)]; exact n0
  · rw [cc _ _ (by omega)]; exact n1
  · rw [cc _ _ (by omega)]; exact n2
  · rw [cc _ _ (by omega)]; exact n3
  · rw [cc _ _ (by omega)]; exact n4
  · rw [cc _ _ (by omega)]; exact ce
  · rw [cc _ _ (by omega)]; exact ca
  · rw [cc _ _ (by omega)]; exact ca'
  · rw [cc _ _ (by omega)]; exact ci
  · rw [cc _ _ (by omega)]; exact ci'
  · rw [ff _ _ (by omega)]; exact fe
  · rw [ff _ _ (by omega)]; exact fa
  · rw [ff _ _ (by omega)]; exact fa'
  · rw [ff _ _ (by omega)]; exact fi
  · rw [ff _ _ (by omega)]; exact fi'
theorem ET_set {w : World} (h : ET w) (p : Addr) (x : Value) (hp : p.block ≠ 0) : ET (w.setCell p x) := by
  unfold ET at *
  rw [World.cell?_setCell_other _ _ _ _ (by intro e; rw [e] at hp; exact hp rfl)]; exact h
theorem St.drew {w v : World} {c A I : Int} {P Q : Bool} {e a a' i i' : Value} (h : St w c A I P Q e a a' i i' v) : St w c A I P Q e a a' i i' v.drew :=
  ⟨h.n0, h.n1, h.n2, h.n3, h.n4, h.ce, h.ca, h.ca', h.ci, h.ci', h.fe, h.fa, h.fa', h.fi, h.fi', h.b.drew, h.g, h.z⟩
theorem St.setE {w v : World} {c A I : Int} {P Q : Bool} {e a a' i i' : Value} (h : St w c A I P Q e a a' i i' v) (hw : 0 < w.heap.size) (x : Value) : St w c A I P Q x a a' i i' (v.setCell ⟨w.heap.size + 1, 0, none⟩ x) := by
  obtain ⟨n0, n1, n2, n3, n4, ce, ca, ca', ci, ci', fe, fa, fa', fi, fi', b, g, z⟩ := h
  have ot : ∀ p o, p ≠ w.heap.size + 1 → (v.setCell ⟨w.heap.size + 1, 0, none⟩ x).cell? ⟨p, o, none⟩ = v.cell? ⟨p, o, none⟩ := fun p o hp => World.cell?_setCell_other _ _ _ _ (by intro e; injection e with e1; omega)
  refine ⟨?_, ?_, ?_, ?_, ?_, World.cell?_setCell_same _ _ _ ce, ?_, ?_, ?_, ?_, by simpa using fe, by simpa using fa, by simpa using fa', by simpa using fi, by simpa using fi', b.setCell (by simp) _, ET_set g _ _ (show w.heap.size + 1 ≠ 0 by omega), by simpa using z⟩
  all_goals (rw [ot _ _ (by omega)]; assumption)
theorem St.setA {w v : World} {c A I : Int} {P Q : Bool} {e a a' i i' : Value} (h : St w c A I P Q e a a' i i' v) (hw : 0 < w.heap.size) (x y : Value) : St w c A I P Q e x y i i' ((v.setCell ⟨w.heap.size + 1 + 1, 0, none⟩ x).setCell ⟨w.heap.size + 1 + 1, 0 + 1, none⟩ y) := by
  obtain ⟨n0, n1, n2, n3, n4, ce, ca, ca', ci, ci', fe, fa, fa', fi, fi', b, g, z⟩ := h
  have ot : ∀ p o, p ≠ w.heap.size + 1 + 1 → ((v.setCell ⟨w.heap.size + 1 + 1, 0, none⟩ x).setCell ⟨w.heap.size + 1 + 1, 0 + 1, none⟩ y).cell? ⟨p, o, none⟩ = v.cell? ⟨p, o, none⟩ := fun p o hp => by
    rw [World.cell?_setCell_other _ _ _ _ (by intro e; injection e with e1; omega), World.cell?_setCell_other _ _ _ _ (by intro e; injection e with e1; omega)]
  refine ⟨?_, ?_, ?_, ?_, ?_, ?_, ?_, ?_, ?_, ?_, by simpa using fe, by simpa using fa, by simpa using fa', by simpa using fi, by simpa using fi', (b.setCell (p := ⟨w.heap.size + 1 + 1, 0, none⟩) (show w.heap.size ≤ w.heap.size + 1 + 1 by omega) _).setCell (p := ⟨w.heap.size + 1 + 1, 0 + 1, none⟩) (show w.heap.size ≤ w.heap.size + 1 + 1 by omega) _, ET_set (ET_set g _ _ (show w.heap.size + 1 + 1 ≠ 0 by omega)) _ _ (show w.heap.size + 1 + 1 ≠ 0 by omega), by simpa using z⟩
  case refine_7 => rw [World.cell?_setCell_other _ _ _ _ (by simp)]; exact World.cell?_setCell_same _ _ _ ca
  case refine_8 => exact World.cell?_setCell_same _ _ _ (u := a') (by rw [World.cell?_setCell_other _ _ _ _ (by simp)]; exact ca')
  all_goals (rw [ot _ _ (by omega)]; assumption)
theorem St.setI {w v : World} {c A I : Int} {P Q : Bool} {e a a' i i' : Value} (h : St w c A I P Q e a a' i i' v) (hw : 0 < w.heap.size) (x y : Value) : St w c A I P Q e a a' x y ((v.setCell ⟨w.heap.size + 1 + 1 + 1, 0, none⟩ x).setCell ⟨w.heap.size + 1 + 1 + 1, 0 + 1, none⟩ y) := by
  obtain ⟨n0, n1, n2, n3, n4, ce, ca, ca', ci, ci', fe, fa, fa', fi, fi', b, g, z⟩ := h
  have ot : ∀ p o, p ≠ w.heap.size + 1 + 1 + 1 → ((v.setCell ⟨w.heap.size + 1 + 1 + 1, 0, none⟩ x).setCell ⟨w.heap.size + 1 + 1 + 1, 0 + 1, none⟩ y).cell? ⟨p, o, none⟩ = v.cell? ⟨p, o, none⟩ := fun p o hp => by
    rw [World.cell?_setCell_other _ _ _ _ (by intro e; injection e with e1; omega), World.cell?_setCell_other _ _ _ _ (by intro e; injection e with e1; omega)]
  refine ⟨?_, ?_, ?_, ?_, ?_, ?_, ?_, ?_, ?_, ?_, by simpa using fe, by simpa using fa, by simpa using fa', by simpa using fi, by simpa using fi', (b.setCell (p := ⟨w.heap.size + 1 + 1 + 1, 0, none⟩) (show w.heap.size ≤ w.heap.size + 1 + 1 + 1 by omega) _).setCell (p := ⟨w.heap.size + 1 + 1 + 1, 0 + 1, none⟩) (show w.heap.size ≤ w.heap.size + 1 + 1 + 1 by omega) _, ET_set (ET_set g _ _ (show w.heap.size + 1 + 1 + 1 ≠ 0 by omega)) _ _ (show w.heap.size + 1 + 1 + 1 ≠ 0 by omega), by simpa using z⟩
  case refine_9 => rw [World.cell?_setCell_other _ _ _ _ (by simp)]; exact World.cell?_setCell_same _ _ _ ci
  case refine_10 => exact World.cell?_setCell_same _ _ _ (u := i') (by rw [World.cell?_setCell_other _ _ _ _ (by simp)]; exact ci')
  all_goals (rw [ot _ _ (by omega)]; assumption)
theorem St.start (w : World) (hg : ET w) (c A I : Int) (P Q : Bool) : St w c A I P Q (.int .i64 0) (.int .i64 0) .nilIface (.int .i64 0) .nilIface
    ((((w.alloc (.cells #[.int .i64 c, .int .i64 A, .int .i64 I, .bool P, .bool Q] 36)).alloc (.cells #[.int .i64 0] 34)).alloc (.cells #[.int .i64 0, .nilIface] 93)).alloc (.cells #[.int .i64 0, .nilIface] 95)) := by
  refine ⟨?_, ?_, ?_, ?_, ?_, ?_, ?_, ?_, ?_, ?_, ?_, ?_, ?_, ?_, ?_, below_new (below_new (below_new (below_new (Below.refl _ _) _) _) _) _, ET_alloc (ET_alloc (ET_alloc (ET_alloc hg _) _) _) _, by simp⟩
  all_goals simp [go_sem, World.cell?_alloc_past, World.frozen?_alloc_past]

set_option maxRecDepth 100000 in
set_option maxHeartbeats 8000000 in
theorem sameC_hit_hit (l : List (Bool × Int)) (c : Int) (hc : (c == 0) = false) (n : Int) (r : List (Bool × Int)) (hA : findK false l = some (n, r)) (m : Int) (s : List (Bool × Int)) (hI : findK true l = some (m, s)) (w : World) (hg : ET w) :
    Calls Tryz.prog 9 #[errV l c, .agg #[.int .i64 c, .int .i64 n, .int .i64 m, .bool true, .bool true]] w fun e w' => e = .returned (.bool true) ∧ Below w.heap.size w w' := by
  have hlt := ET_lt hg
  have HA : Hid _ := hA
  have HI : Hid _ := hI
  clear hA hI
  have enn := errV_notnil l c
  have egd := errV_guard l c
  go_enter Tryz.func9, Tryz.ntmps9
  go_wp2_with fail
  refine (chain_E l c ⟨w.heap.size + 1, 0, none⟩ (.int .i64 0) _ ?_ ?_ ?_).mono ?_
  · exact (St.start w hg c n m true true).g
  · exact (St.start w hg c n m true true).ce
  · exact (St.start w hg c n m true true).fe
  rintro ev v1 ⟨rfl, w1, hB1, hw1⟩
  have S1 := ((St.start w hg c n m true true).below hB1).setE hlt (.int .i64 c)
  rw [← hw1] at S1
  clear hw1
  obtain ⟨r0, r1, r2, r3, r4, re, ra, ra', ri, ri', ze, za, za', zi, zi', zb, zg, zz⟩ := id S1
  go_wp2_with fail
  go_region_with (first | (go_at_call 26; (with_reducible refine (chain_A_hit l c n r HA.out (w.heap.size + 1 + 1) 0 (.int .i64 0) .nilIface _ ?_ ?_ ?_ ?_ ?_).mono ?_); exact S1.g; exact S1.ca; exact S1.ca'; exact S1.fa; exact S1.fa'; rintro ev v2 ⟨rfl, w2, hB2, hw2⟩; have S2 := (S1.drew.below hB2).setA hlt (.int .i64 n) (errV r c); rw [← hw2] at S2; clear hw2; obtain ⟨s0, s1, s2, s3, s4, se, sa, sa', si, si', xe, xa, xa', xi, xi', xb, xg, xz⟩ := id S2) | (go_at_call 26; (with_reducible refine (chain_I_hit l c m s HI.out (w.heap.size + 1 + 1 + 1) 0 (.int .i64 0) .nilIface _ ?_ ?_ ?_ ?_ ?_).mono ?_); exact S2.g; exact S2.ci; exact S2.ci'; exact S2.fi; exact S2.fi'; rintro ev v3 ⟨rfl, w3, hB3, hw3⟩; have S3 := (S2.below hB3).setI hlt (.int .i64 m) (errV s c); rw [← hw3] at S3; clear hw3; obtain ⟨t0, t1, t2, t3, t4, te, ta, ta', ti, ti', ye, ya, ya', yi, yi', yb, yg, yz⟩ := id S3))
  all_goals
    go_wp2
    go_ret
    exact ⟨rfl, yb⟩

set_option maxRecDepth 100000 in
set_option maxHeartbeats 8000000 in
theorem sameC_hit_miss (l : List (Bool × Int)) (c : Int) (hc : (c == 0) = false) (n : Int) (r : List (Bool × Int)) (hA : findK false l = some (n, r)) (hI : findK true l = none) (w : World) (hg : ET w) :
    Calls Tryz.prog 9 #[errV l c, .agg #[.int .i64 c, .int .i64 n, .int .i64 0, .bool true, .bool false]] w fun e w' => e = .returned (.bool true) ∧ Below w.heap.size w w' := by
  have hlt := ET_lt hg
  have HA : Hid _ := hA
  have HI : Hid _ := hI
  clear hA hI
  have enn := errV_notnil l c
  have egd := errV_guard l c
  go_enter Tryz.func9, Tryz.ntmps9
  go_wp2_with fail
  refine (chain_E l c ⟨w.heap.size + 1, 0, none⟩ (.int .i64 0) _ ?_ ?_ ?_).mono ?_
  · exact (St.start w hg c n 0 true false).g
  · exact (St.start w hg c n 0 true false).ce
  · exact (St.start w hg c n 0 true false).fe
  rintro ev v1 ⟨rfl, w1, hB1, hw1⟩
  have S1 := ((St.start w hg c n 0 true false).below hB1).setE hlt (.int .i64 c)
  rw [← hw1] at S1
  clear hw1
  obtain ⟨r0, r1, r2, r3, r4, re, ra, ra', ri, ri', ze, za, za', zi, zi', zb, zg, zz⟩ := id S1
  go_wp2_with fail
  go_region_with (first | (go_at_call 26; (with_reducible refine (chain_A_hit l c n r HA.out (w.heap.size + 1 + 1) 0 (.int .i64 0) .nilIface _ ?_ ?_ ?_ ?_ ?_).mono ?_); exact S1.g; exact S1.ca; exact S1.ca'; exact S1.fa; exact S1.fa'; rintro ev v2 ⟨rfl, w2, hB2, hw2⟩; have S2 := (S1.drew.below hB2).setA hlt (.int .i64 n) (errV r c); rw [← hw2] at S2; clear hw2; obtain ⟨s0, s1, s2, s3, s4, se, sa, sa', si, si', xe, xa, xa', xi, xi', xb, xg, xz⟩ := id S2) | (go_at_call 26; (with_reducible refine (chain_I_miss l c HI.out ⟨w.heap.size + 1 + 1 + 1, 0, none⟩ _ ?_).mono ?_); exact S2.g; rintro ev v3 ⟨rfl, hB3⟩; have S3 := S2.below hB3; obtain ⟨t0, t1, t2, t3, t4, te, ta, ta', ti, ti', ye, ya, ya', yi, yi', yb, yg, yz⟩ := id S3))
  all_goals
    go_wp2
    go_ret
    exact ⟨rfl, yb⟩

set_option maxRecDepth 100000 in
set_option maxHeartbeats 8000000 in
theorem sameC_miss_hit (l : List (Bool × Int)) (c : Int) (hc : (c == 0) = false) (hA : findK false l = none) (m : Int) (s : List (Bool × Int)) (hI : findK true l = some (m, s)) (w : World) (hg : ET w) :
    Calls Tryz.prog 9 #[errV l c, .agg #[.int .i64 c, .int .i64 0, .int .i64 m, .bool false, .bool true]] w fun e w' => e = .returned (.bool true) ∧ Below w.heap.size w w' := by
  have hlt := ET_lt hg
  have HA : Hid _ := hA
  have HI : Hid _ := hI
  clear hA hI
  have enn := errV_notnil l c
  have egd := errV_guard l c
  go_enter Tryz.func9, Tryz.ntmps9
  go_wp2_with fail
  refine (chain_E l c ⟨w.heap.size + 1, 0, none⟩ (.int .i64 0) _ ?_ ?_ ?_).mono ?_
  · exact (St.start w hg c 0 m false true).g
  · exact (St.start w hg c 0 m false true).ce
  · exact (St.start w hg c 0 m false true).fe
  rintro ev v1 ⟨rfl, w1, hB1, hw1⟩
  have S1 := ((St.start w hg c 0 m false true).below hB1).setE hlt (.int .i64 c)
  rw [← hw1] at S1
  clear hw1
  obtain ⟨r0, r1, r2, r3, r4, re, ra, ra', ri, ri', ze, za, za', zi, zi', zb, zg, zz⟩ := id S1
  go_wp2_with fail
  go_region_with (first | (go_at_call 26; (with_reducible refine (chain_A_miss l c HA.out ⟨w.heap.size + 1 + 1, 0, none⟩ _ ?_).mono ?_); exact S1.g; rintro ev v2 ⟨rfl, hB2⟩; have S2 := S1.drew.below hB2; obtain ⟨s0, s1, s2, s3, s4, se, sa, sa', si, si', xe, xa, xa', xi, xi', xb, xg, xz⟩ := id S2) | (go_at_call 26; (with_reducible refine (chain_I_hit l c m s HI.out (w.heap.size + 1 + 1 + 1) 0 (.int .i64 0) .nilIface _ ?_ ?_ ?_ ?_ ?_).mono ?_); exact S2.g; exact S2.ci; exact S2.ci'; exact S2.fi; exact S2.fi'; rintro ev v3 ⟨rfl, w3, hB3, hw3⟩; have S3 := (S2.below hB3).setI hlt (.int .i64 m) (errV s c); rw [← hw3] at S3; clear hw3; obtain ⟨t0, t1, t2, t3, t4, te, ta, ta', ti, ti', ye, ya, ya', yi, yi', yb, yg, yz⟩ := id S3))
  all_goals
    go_wp2
    go_ret
    exact ⟨rfl, yb⟩

set_option maxRecDepth 100000 in
set_option maxHeartbeats 8000000 in
theorem sameC_miss_miss (l : List (Bool × Int)) (c : Int) (hc : (c == 0) = false) (hA : findK false l = none) (hI : findK true l = none) (w : World) (hg : ET w) :
    Calls Tryz.prog 9 #[errV l c, .agg #[.int .i64 c, .int .i64 0, .int .i64 0, .bool false, .bool false]] w fun e w' => e = .returned (.bool true) ∧ Below w.heap.size w w' := by
  have hlt := ET_lt hg
  have HA : Hid _ := hA
  have HI : Hid _ := hI
  clear hA hI
  have enn := errV_notnil l c
  have egd := errV_guard l c
  go_enter Tryz.func9, Tryz.ntmps9
  go_wp2_with fail
  refine (chain_E l c ⟨w.heap.size + 1, 0, none⟩ (.int .i64 0) _ ?_ ?_ ?_).mono ?_
  · exact (St.start w hg c 0 0 false false).g
  · exact (St.start w hg c 0 0 false false).ce
  · exact (St.start w hg c 0 0 false false).fe
  rintro ev v1 ⟨rfl, w1, hB1, hw1⟩
  have S1 := ((St.start w hg c 0 0 false false).below hB1).setE hlt (.int .i64 c)
  rw [← hw1] at S1
  clear hw1
  obtain ⟨r0, r1, r2, r3, r4, re, ra, ra', ri, ri', ze, za, za', zi, zi', zb, zg, zz⟩ := id S1
  go_wp2_with fail
  go_region_with (first | (go_at_call 26; (with_reducible refine (chain_A_miss l c HA.out ⟨w.heap.size + 1 + 1, 0, none⟩ _ ?_).mono ?_); exact S1.g; rintro ev v2 ⟨rfl, hB2⟩; have S2 := S1.drew.below hB2; obtain ⟨s0, s1, s2, s3, s4, se, sa, sa', si, si', xe, xa, xa', xi, xi', xb, xg, xz⟩ := id S2) | (go_at_call 26; (with_reducible refine (chain_I_miss l c HI.out ⟨w.heap.size + 1 + 1 + 1, 0, none⟩ _ ?_).mono ?_); exact S2.g; rintro ev v3 ⟨rfl, hB3⟩; have S3 := S2.below hB3; obtain ⟨t0, t1, t2, t3, t4, te, ta, ta', ti, ti', ye, ya, ya', yi, yi', yb, yg, yz⟩ := id S3))
  all_goals
    go_wp2
    go_ret
    exact ⟨rfl, yb⟩
end Go.Proofs.YtdfnomglkibfbaaGreatDoor

