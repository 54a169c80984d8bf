
import Derived.Test.YtepakgfdakeibaaGreatDoorAsC
namespace Go.Proofs.YtepakgfdakeibaaGreatDoor
open Go.RowKit Go.Extern.Stop Go.Stop Go.Extern

theorem assignableEI (w : World) : (ReflectliteType.relation "AssignableTo" ReflectliteType.assignableTo #[.agg #[.pointer (some ⟨4, 34, none⟩)], .iface 124 (.agg #[.pointer (some ⟨4, 119, none⟩)])]).run Tryz.prog w = .ok (.bool false) w := by kernel_rfl


theorem noAsE (v : Value) (x : TypeId) (w : World) : (Instr.typeAssert (.iface 34 v) x 129 true).run Tryz.prog w = .ok (.tuple #[.nilIface, .bool false]) w := run_typeAssert_lacksB Tryz.underlying129 (by kernel_rfl) (by kernel_rfl) v x w
theorem noUnwrapE (v : Value) (x : TypeId) (w : World) : (Instr.typeAssert (.iface 34 v) x 132 true).run Tryz.prog w = .ok (.tuple #[.nilIface, .bool false]) w := run_typeAssert_lacksB Tryz.underlying132 (by kernel_rfl) (by kernel_rfl) v x w
theorem noUnwrapsE (v : Value) (x : TypeId) (w : World) : (Instr.typeAssert (.iface 34 v) x 134 true).run Tryz.prog w = .ok (.tuple #[.nilIface, .bool false]) w := run_typeAssert_lacksB Tryz.underlying134 (by kernel_rfl) (by kernel_rfl) v x w

end Go.Proofs.YtepakgfdakeibaaGreatDoor
