
import Derived.Test.YtkpcndnefbaooaaDoorAsC
namespace Go.Proofs.YtkpcndnefbaooaaDoor
open Go.RowKit Go.Extern.Stop Go.Stop Go.Extern

theorem noAsE (v : Value) (x : TypeId) (w : World) : (Instr.typeAssert (.iface 42 v) x 99 true).run Tryd.prog w = .ok (.tuple #[.nilIface, .bool false]) w := run_typeAssert_lacksB Tryd.underlying99 (by kernel_rfl) (by kernel_rfl) v x w
theorem noUnwrapE (v : Value) (x : TypeId) (w : World) : (Instr.typeAssert (.iface 42 v) x 102 true).run Tryd.prog w = .ok (.tuple #[.nilIface, .bool false]) w := run_typeAssert_lacksB Tryd.underlying102 (by kernel_rfl) (by kernel_rfl) v x w
theorem noUnwrapsE (v : Value) (x : TypeId) (w : World) : (Instr.typeAssert (.iface 42 v) x 104 true).run Tryd.prog w = .ok (.tuple #[.nilIface, .bool false]) w := run_typeAssert_lacksB Tryd.underlying104 (by kernel_rfl) (by kernel_rfl) v x w

end Go.Proofs.YtkpcndnefbaooaaDoor
