
import Derived.Test.YtdfnomglkibfbaaGreatDoorRows
import Derived.Test.YtdfnomglkibfbaaGreatDoorVfA
import Derived.MakeChecks
import Derived.ProofKit
import Derived.OpenShut
import Derived.Deep.SlicePairs
import Derived.Lib.SmallJoins
namespace Go.Proofs.YtdfnomglkibfbaaGreatDoor
open Go.ChangeShapes Go.WideShapes Go.ChangeAt Go.RowKit
set_option linter.unusedVariables false
set_option linter.unusedSimpArgs false
namespace Vf
/-- a row's six cells. -/
def rowV (r : RwP) : List Value := [.int .u8 r.of, .int .i64 r.tk, .int .i64 r.pt, .int .u8 r.a, .int .u8 r.b, .bool r.en]
/-- the table of rows. -/
def RT (w : World) : Prop := ∀ c, c < 25 → ∀ j, j < 6 → w.cell? ⟨1, c * 6 + j, none⟩ = (rowV (rowF c))[j]?
theorem rows_global : Tryz.prog.globalNamed "weir/verify.rows" = some 1 := by kernel_rfl
theorem rows_type : (Tryz.prog.globals[1]?).map (·.type) = some 250 := by kernel_rfl
theorem rows_cells : Tryz.prog.cellsOf 250 = 150 := by kernel_rfl
theorem rows_cell : Tryz.prog.cellsOf 245 = 6 := by kernel_rfl
def rowD {H : Type} (r : RwP) : DataW H := .agg [.lit (.int .u8 r.of), .lit (.int .i64 r.tk), .lit (.int .i64 r.pt), .lit (.int .u8 r.a), .lit (.int .u8 r.b), .lit (.bool r.en)]
theorem laid_rows {H : Type} : (Rows.laid_weir_verify_rows : DataW H) = .agg (rowsL.map rowD) := rfl
theorem len6 {α : Type} : ∀ {l : List α}, l.length = 6 → ∃ a b c d e f, l = [a, b, c, d, e, f]
  | [a, b, c, d, e, f], _ => ⟨a, b, c, d, e, f, rfl⟩
/-- a row, as it is read. -/
theorem row_trod {H : Type} {enc : TypeId × Value → H} {w : World} {base : Nat} {sp : Nat → Bool} {held : Bool} {fuel : Nat} {cs : List Value} {y : DataW H × List MemPlace} {r : RwP}
    (h : DataW.trod enc Tryz.prog w base sp held fuel 245 cs = some y) (hr : y.1 = rowD r) : cs = rowV r := by
  obtain ⟨xs, k, hk, hxy, hcl, hxl, hff⟩ := DataW.trod_struct Tryz.underlying245 h
  rw [rows_cell] at hcl
  have hx6 : xs.length = 6 := hxl
  clear hxl
  obtain ⟨y0, y1, y2, y3, y4, y5, rfl⟩ := len6 hx6
  obtain ⟨v0, v1, v2, v3, v4, v5, rfl⟩ := len6 hcl
  · skip
    have ci : Tryz.prog.cellsOf 3 = 1 := by kernel_rfl
    have cm : Tryz.prog.cellsOf 125 = 1 := by kernel_rfl
    have co : Tryz.prog.cellsOf 243 = 1 := by kernel_rfl
    have cb : Tryz.prog.cellsOf 4 = 1 := by kernel_rfl
    have g0 : DataW.trod enc Tryz.prog w base sp held k 125 (List.take (Tryz.prog.cellsOf 125) [v0, v1, v2, v3, v4, v5]) = some y0 := hff 0 _ rfl
    have g1 : DataW.trod enc Tryz.prog w base sp held k 3 (List.take (Tryz.prog.cellsOf 3) [v1, v2, v3, v4, v5]) = some y1 := hff 1 _ rfl
    have g2 : DataW.trod enc Tryz.prog w base sp held k 3 (List.take (Tryz.prog.cellsOf 3) [v2, v3, v4, v5]) = some y2 := hff 2 _ rfl
    have g3 : DataW.trod enc Tryz.prog w base sp held k 243 (List.take (Tryz.prog.cellsOf 243) [v3, v4, v5]) = some y3 := hff 3 _ rfl
    have g4 : DataW.trod enc Tryz.prog w base sp held k 243 (List.take (Tryz.prog.cellsOf 243) [v4, v5]) = some y4 := hff 4 _ rfl
    have g5 : DataW.trod enc Tryz.prog w base sp held k 4 (List.take (Tryz.prog.cellsOf 4) [v5]) = some y5 := hff 5 _ rfl
    rw [cm] at g0
    rw [ci] at g1 g2
    rw [co] at g3 g4
    rw [cb] at g5
    simp only [List.take_succ_cons, List.take_zero] at g0 g1 g2 g3 g4 g5
    obtain ⟨k0, e0, f0, _⟩ := DataW.trod_int Tryz.underlying125 g0
    obtain ⟨k1, e1, f1, _⟩ := DataW.trod_int Tryz.underlying3 g1
    obtain ⟨k2, e2, f2, _⟩ := DataW.trod_int Tryz.underlying3 g2
    obtain ⟨k3, e3, f3, _⟩ := DataW.trod_int Tryz.underlying243 g3
    obtain ⟨k4, e4, f4, _⟩ := DataW.trod_int Tryz.underlying243 g4
    obtain ⟨k5, e5, f5⟩ := DataW.trod_bool Tryz.underlying4 g5
    have hy : y.1 = .agg [y0.1, y1.1, y2.1, y3.1, y4.1, y5.1] := by simpa using congrArg (·.1) hxy
    rw [hy, f0, f1, f2, f3, f4, f5] at hr
    simp only [List.cons.injEq, and_true] at e0 e1 e2 e3 e4 e5
    simp only [rowD, DataW.agg.injEq, List.cons.injEq, DataW.lit.injEq, Lit.int.injEq, Lit.bool.injEq, true_and, and_true] at hr
    obtain ⟨h0, h1, h2, h3, h4, h5⟩ := hr
    rw [e0, e1, e2, e3, e4, e5, h0, h1, h2, h3, h4, h5]
    rfl
theorem RT_of_laid {W : World} (h : laidMet Tryz.prog [("weir/verify.rows", Rows.laid_weir_verify_rows)] W) : RT W := by
  obtain ⟨ps, ⟨g, t, cs, fuel, p, q, hg, ht, hvar, hd, _, _⟩, _⟩ := h
  obtain rfl := Option.some.inj (rows_global.symm.trans hg)
  obtain rfl := Option.some.inj (rows_type.symm.trans ht)
  obtain ⟨xs, m, hk, hx, hcl, hxl, hff⟩ := DataW.trod_array Tryz.underlying250 hd
  rw [rows_cells] at hcl
  simp only [rows_cell] at hff
  have hx1 := congrArg (·.1) hx
  rw [laid_rows] at hx1
  have hx2 : rowsL.map rowD = xs.map (·.1) := by simpa using hx1
  intro c hc j hj
  have hxc : c < xs.length := by omega
  have e1 := hff c hc
  rw [List.getElem?_eq_getElem hxc] at e1
  have e2 : (xs[c]).1 = rowD (rowF c) := by
    have a := congrArg (fun l => l[c]?) hx2
    simp only [List.getElem?_map] at a
    rw [List.getElem?_eq_getElem hxc] at a
    have hrl : c < rowsL.length := by simpa [rowsL] using hc
    rw [List.getElem?_eq_getElem hrl] at a
    simp only [Option.map_some, Option.some.injEq] at a
    rw [← a]
    unfold rowF
    rw [List.getD_eq_getElem?_getD, List.getElem?_eq_getElem hrl]; rfl
  have e3 := row_trod e1 e2
  have h0 := World.var?_cell rows_global hvar (c * 6 + j)
  rw [h0, ← e3, List.getElem?_take_of_lt hj, List.getElem?_drop]
  simp
theorem RT.lt {W : World} (h : RT W) : 1 < W.heap.size := World.block_lt_of_cell? _ _ (h 0 (by omega) 0 (by omega))
end Vf
end Go.Proofs.YtdfnomglkibfbaaGreatDoor
