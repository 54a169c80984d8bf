
import Derived.Test.YtjiiafmbneehhaaDoorSpH
import Derived.BigQuiet
import Derived.Deep.QuietTactic
namespace Go.Proofs.YtjiiafmbneehhaaDoor
open Go.RowKit Go.Shelf
set_option linter.unusedVariables false
set_option linter.unusedSimpArgs false
/-- the units, as they lie. -/
structure UT (w : World) : Prop where
  n0 : w.cell? ⟨0, 0, none⟩ = some (.string ⟨#[119]⟩)
  z0 : w.cell? ⟨0, 1, none⟩ = some (.int .i64 604800000000000)
  n1 : w.cell? ⟨0, 2, none⟩ = some (.string ⟨#[100]⟩)
  z1 : w.cell? ⟨0, 3, none⟩ = some (.int .i64 86400000000000)
  n2 : w.cell? ⟨0, 4, none⟩ = some (.string ⟨#[104]⟩)
  z2 : w.cell? ⟨0, 5, none⟩ = some (.int .i64 3600000000000)
  n3 : w.cell? ⟨0, 6, none⟩ = some (.string ⟨#[109]⟩)
  z3 : w.cell? ⟨0, 7, none⟩ = some (.int .i64 60000000000)
  n4 : w.cell? ⟨0, 8, none⟩ = some (.string ⟨#[115]⟩)
  z4 : w.cell? ⟨0, 9, none⟩ = some (.int .i64 1000000000)
  n5 : w.cell? ⟨0, 10, none⟩ = some (.string ⟨#[109, 115]⟩)
  z5 : w.cell? ⟨0, 11, none⟩ = some (.int .i64 1000000)
  n6 : w.cell? ⟨0, 12, none⟩ = some (.string ⟨#[117, 115]⟩)
  z6 : w.cell? ⟨0, 13, none⟩ = some (.int .i64 1000)
  n7 : w.cell? ⟨0, 14, none⟩ = some (.string ⟨#[110, 115]⟩)
  z7 : w.cell? ⟨0, 15, none⟩ = some (.int .i64 1)
theorem UT.lt {w : World} (h : UT w) : 0 < w.heap.size := World.block_lt_of_cell? _ _ h.n0
theorem UT.below {w w' : World} (h : UT w) (hb : Below w.heap.size w w') : UT w' := by
  have hl := h.lt
  obtain ⟨a0, b0, a1, b1, a2, b2, a3, b3, a4, b4, a5, b5, a6, b6, a7, b7⟩ := h
  constructor <;> (rw [hb.cell hl]; assumption)
def uarr : Value := .agg #[.string ⟨#[119]⟩, .int .i64 604800000000000, .string ⟨#[100]⟩, .int .i64 86400000000000, .string ⟨#[104]⟩, .int .i64 3600000000000, .string ⟨#[109]⟩, .int .i64 60000000000, .string ⟨#[115]⟩, .int .i64 1000000000, .string ⟨#[109, 115]⟩, .int .i64 1000000, .string ⟨#[117, 115]⟩, .int .i64 1000, .string ⟨#[110, 115]⟩, .int .i64 1]
theorem uidx0 (w : World) : (Instr.index 75 (.agg #[.string ⟨#[119]⟩, .int .i64 604800000000000, .string ⟨#[100]⟩, .int .i64 86400000000000, .string ⟨#[104]⟩, .int .i64 3600000000000, .string ⟨#[109]⟩, .int .i64 60000000000, .string ⟨#[115]⟩, .int .i64 1000000000, .string ⟨#[109, 115]⟩, .int .i64 1000000, .string ⟨#[117, 115]⟩, .int .i64 1000, .string ⟨#[110, 115]⟩, .int .i64 1]) (.int .i64 0)).run Tryd.prog w = .ok (.agg #[.string ⟨#[119]⟩, .int .i64 604800000000000]) w := by kernel_rfl
theorem uidx1 (w : World) : (Instr.index 75 (.agg #[.string ⟨#[119]⟩, .int .i64 604800000000000, .string ⟨#[100]⟩, .int .i64 86400000000000, .string ⟨#[104]⟩, .int .i64 3600000000000, .string ⟨#[109]⟩, .int .i64 60000000000, .string ⟨#[115]⟩, .int .i64 1000000000, .string ⟨#[109, 115]⟩, .int .i64 1000000, .string ⟨#[117, 115]⟩, .int .i64 1000, .string ⟨#[110, 115]⟩, .int .i64 1]) (.int .i64 1)).run Tryd.prog w = .ok (.agg #[.string ⟨#[100]⟩, .int .i64 86400000000000]) w := by kernel_rfl
theorem uidx2 (w : World) : (Instr.index 75 (.agg #[.string ⟨#[119]⟩, .int .i64 604800000000000, .string ⟨#[100]⟩, .int .i64 86400000000000, .string ⟨#[104]⟩, .int .i64 3600000000000, .string ⟨#[109]⟩, .int .i64 60000000000, .string ⟨#[115]⟩, .int .i64 1000000000, .string ⟨#[109, 115]⟩, .int .i64 1000000, .string ⟨#[117, 115]⟩, .int .i64 1000, .string ⟨#[110, 115]⟩, .int .i64 1]) (.int .i64 2)).run Tryd.prog w = .ok (.agg #[.string ⟨#[104]⟩, .int .i64 3600000000000]) w := by kernel_rfl
theorem uidx3 (w : World) : (Instr.index 75 (.agg #[.string ⟨#[119]⟩, .int .i64 604800000000000, .string ⟨#[100]⟩, .int .i64 86400000000000, .string ⟨#[104]⟩, .int .i64 3600000000000, .string ⟨#[109]⟩, .int .i64 60000000000, .string ⟨#[115]⟩, .int .i64 1000000000, .string ⟨#[109, 115]⟩, .int .i64 1000000, .string ⟨#[117, 115]⟩, .int .i64 1000, .string ⟨#[110, 115]⟩, .int .i64 1]) (.int .i64 3)).run Tryd.prog w = .ok (.agg #[.string ⟨#[109]⟩, .int .i64 60000000000]) w := by kernel_rfl
theorem uidx4 (w : World) : (Instr.index 75 (.agg #[.string ⟨#[119]⟩, .int .i64 604800000000000, .string ⟨#[100]⟩, .int .i64 86400000000000, .string ⟨#[104]⟩, .int .i64 3600000000000, .string ⟨#[109]⟩, .int .i64 60000000000, .string ⟨#[115]⟩, .int .i64 1000000000, .string ⟨#[109, 115]⟩, .int .i64 1000000, .string ⟨#[117, 115]⟩, .int .i64 1000, .string ⟨#[110, 115]⟩, .int .i64 1]) (.int .i64 4)).run Tryd.prog w = .ok (.agg #[.string ⟨#[115]⟩, .int .i64 1000000000]) w := by kernel_rfl
theorem uidx5 (w : World) : (Instr.index 75 (.agg #[.string ⟨#[119]⟩, .int .i64 604800000000000, .string ⟨#[100]⟩, .int .i64 86400000000000, .string ⟨#[104]⟩, .int .i64 3600000000000, .string ⟨#[109]⟩, .int .i64 60000000000, .string ⟨#[115]⟩, .int .i64 1000000000, .string ⟨#[109, 115]⟩, .int .i64 1000000, .string ⟨#[117, 115]⟩, .int .i64 1000, .string ⟨#[110, 115]⟩, .int .i64 1]) (.int .i64 5)).run Tryd.prog w = .ok (.agg #[.string ⟨#[109, 115]⟩, .int .i64 1000000]) w := by kernel_rfl
theorem uidx6 (w : World) : (Instr.index 75 (.agg #[.string ⟨#[119]⟩, .int .i64 604800000000000, .string ⟨#[100]⟩, .int .i64 86400000000000, .string ⟨#[104]⟩, .int .i64 3600000000000, .string ⟨#[109]⟩, .int .i64 60000000000, .string ⟨#[115]⟩, .int .i64 1000000000, .string ⟨#[109, 115]⟩, .int .i64 1000000, .string ⟨#[117, 115]⟩, .int .i64 1000, .string ⟨#[110, 115]⟩, .int .i64 1]) (.int .i64 6)).run Tryd.prog w = .ok (.agg #[.string ⟨#[117, 115]⟩, .int .i64 1000]) w := by kernel_rfl
theorem uidx7 (w : World) : (Instr.index 75 (.agg #[.string ⟨#[119]⟩, .int .i64 604800000000000, .string ⟨#[100]⟩, .int .i64 86400000000000, .string ⟨#[104]⟩, .int .i64 3600000000000, .string ⟨#[109]⟩, .int .i64 60000000000, .string ⟨#[115]⟩, .int .i64 1000000000, .string ⟨#[109, 115]⟩, .int .i64 1000000, .string ⟨#[117, 115]⟩, .int .i64 1000, .string ⟨#[110, 115]⟩, .int .i64 1]) (.int .i64 7)).run Tryd.prog w = .ok (.agg #[.string ⟨#[110, 115]⟩, .int .i64 1]) w := by kernel_rfl
end Go.Proofs.YtjiiafmbneehhaaDoor
