
import Derived.Test.YtcbcpncbekeoaaaDoorChainF
namespace Go.Proofs.YtcbcpncbekeoaaaDoor
open Go.RowKit Go.Extern.Stop Go.Stop Go.Extern
set_option linter.unusedVariables false
theorem typeOfR (v : Value) (w : World) : (ReflectliteType.typeOf #[.iface 47 v]).run Tryd.prog w = .ok (.iface 86 (.agg #[.pointer (some ⟨4, 47, none⟩)])) w := by kernel_rfl
theorem typeOfF (v : Value) (w : World) : (ReflectliteType.typeOf #[.iface 61 v]).run Tryd.prog w = .ok (.iface 86 (.agg #[.pointer (some ⟨4, 61, none⟩)])) w := by kernel_rfl
theorem assignableRE (w : World) : (ReflectliteType.relation "AssignableTo" ReflectliteType.assignableTo #[.agg #[.pointer (some ⟨4, 47, none⟩)], .iface 86 (.agg #[.pointer (some ⟨4, 22, none⟩)])]).run Tryd.prog w = .ok (.bool false) w := by kernel_rfl
theorem assignableRA (w : World) : (ReflectliteType.relation "AssignableTo" ReflectliteType.assignableTo #[.agg #[.pointer (some ⟨4, 47, none⟩)], .iface 86 (.agg #[.pointer (some ⟨4, 43, none⟩)])]).run Tryd.prog w = .ok (.bool false) w := by kernel_rfl
theorem assignableRI (w : World) : (ReflectliteType.relation "AssignableTo" ReflectliteType.assignableTo #[.agg #[.pointer (some ⟨4, 47, none⟩)], .iface 86 (.agg #[.pointer (some ⟨4, 45, none⟩)])]).run Tryd.prog w = .ok (.bool false) w := by kernel_rfl
theorem assignableFE (w : World) : (ReflectliteType.relation "AssignableTo" ReflectliteType.assignableTo #[.agg #[.pointer (some ⟨4, 61, none⟩)], .iface 86 (.agg #[.pointer (some ⟨4, 22, none⟩)])]).run Tryd.prog w = .ok (.bool false) w := by kernel_rfl
theorem assignableFA (w : World) : (ReflectliteType.relation "AssignableTo" ReflectliteType.assignableTo #[.agg #[.pointer (some ⟨4, 61, none⟩)], .iface 86 (.agg #[.pointer (some ⟨4, 43, none⟩)])]).run Tryd.prog w = .ok (.bool false) w := by kernel_rfl
theorem assignableFI (w : World) : (ReflectliteType.relation "AssignableTo" ReflectliteType.assignableTo #[.agg #[.pointer (some ⟨4, 61, none⟩)], .iface 86 (.agg #[.pointer (some ⟨4, 45, none⟩)])]).run Tryd.prog w = .ok (.bool false) w := by kernel_rfl
theorem noAsR (v : Value) (x : TypeId) (w : World) : (Instr.typeAssert (.iface 47 v) x 91 true).run Tryd.prog w = .ok (.tuple #[.nilIface, .bool false]) w := run_typeAssert_lacksB Tryd.underlying91 (by kernel_rfl) (by kernel_rfl) v x w
theorem noAsF (v : Value) (x : TypeId) (w : World) : (Instr.typeAssert (.iface 61 v) x 91 true).run Tryd.prog w = .ok (.tuple #[.nilIface, .bool false]) w := run_typeAssert_lacksB Tryd.underlying91 (by kernel_rfl) (by kernel_rfl) v x w
theorem noUnwrapF (v : Value) (x : TypeId) (w : World) : (Instr.typeAssert (.iface 61 v) x 94 true).run Tryd.prog w = .ok (.tuple #[.nilIface, .bool false]) w := run_typeAssert_lacksB Tryd.underlying94 (by kernel_rfl) (by kernel_rfl) v x w
theorem noUnwrapsF (v : Value) (x : TypeId) (w : World) : (Instr.typeAssert (.iface 61 v) x 96 true).run Tryd.prog w = .ok (.tuple #[.nilIface, .bool false]) w := run_typeAssert_lacksB Tryd.underlying96 (by kernel_rfl) (by kernel_rfl) v x w
theorem unwrapsR (v : Value) (x : TypeId) (w : World) : (Instr.typeAssert (.iface 47 v) x 94 true).run Tryd.prog w = .ok (.tuple #[.iface 47 v, .bool true]) w := run_typeAssert_hasB Tryd.underlying94 (by kernel_rfl) v x w
theorem methodUnwrapR (v : Value) (w : World) : (Go.method 249 47 v "Unwrap").run Tryd.prog w = .ok (74, v) w := by kernel_rfl
theorem unwrapR (y : Value) (w : World) : Calls Tryd.prog 74 #[.agg #[y]] w fun e w' => e = .returned y ∧ w' = w.alloc (.cells #[y] 47) := by
  go_enter Tryd.func74, Tryd.ntmps74
  go_wp2
  go_ret
  exact ⟨rfl, rfl⟩
/-- an error: at its bottom a number, or an error of another kind; links (0: an api.At, 1: an api.In, else one that says nothing), the outermost first. -/
def errW : List (Nat × Int) → Int ⊕ Nat → Value
  | [], .inl c => .iface 22 (.int .i64 c)
  | [], .inr F => .iface 61 (.pointer (some ⟨F, 0, none⟩))
  | (0, n) :: l, b => .iface 43 (.agg #[.int .i64 n, errW l b])
  | (1, n) :: l, b => .iface 45 (.agg #[.int .i64 n, errW l b])
  | (k + 2, n) :: l, b => .iface 47 (.agg #[errW l b])
def findW (k : Nat) : List (Nat × Int) → Option (Int × List (Nat × Int))
  | [] => none
  | (j, n) :: l => if j = k then some (n, l) else findW k l
theorem errW_iface (l : List (Nat × Int)) (b : Int ⊕ Nat) : ∃ t v, errW l b = .iface t v := by
  rcases l with _ | ⟨⟨_ | _ | k, n⟩, l⟩
  · cases b <;> exact ⟨_, _, rfl⟩
  · exact ⟨_, _, rfl⟩
  · exact ⟨_, _, rfl⟩
  · exact ⟨_, _, rfl⟩
theorem errW_one (l : List (Nat × Int)) (b : Int ⊕ Nat) : (errW l b).oneCell' = true := by
  obtain ⟨t, v, h⟩ := errW_iface l b; rw [h]; rfl
theorem errW_notnil (l : List (Nat × Int)) (b : Int ⊕ Nat) (w : World) : (binOp .eql 27 (errW l b) .nilIface).run Tryd.prog w = .ok (.bool false) w := by
  obtain ⟨t, v, h⟩ := errW_iface l b; rw [h]; exact run_eql_held_nil _ _ _ _ (by kernel_rfl)
theorem errW_guard (l : List (Nat × Int)) (b : Int ⊕ Nat) (x : Operand) (w : World) : (eqGuard .eql 27 x (.const .nilIface) (errW l b) .nilIface).run Tryd.prog w = .ok () w := by
  obtain ⟨t, v, h⟩ := errW_iface l b; rw [h]; rfl
end Go.Proofs.YtcbcpncbekeoaaaDoor
