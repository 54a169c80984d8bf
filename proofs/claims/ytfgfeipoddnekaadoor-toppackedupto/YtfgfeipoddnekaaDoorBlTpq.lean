
import Derived.Test.YtfgfeipoddnekaaDoorRows
import Derived.Test.YtfgfeipoddnekaaDoorBuU
import Derived.MakeChecks
import Derived.ProofKit
import Derived.OpenShut
import Derived.Deep.SlicePairs
import Derived.Lib.SmallJoins
namespace Go.Proofs.YtfgfeipoddnekaaDoor
open Go.ChangeShapes Go.WideShapes Go.ChangeAt Go.RowKit
set_option linter.unusedVariables false
set_option linter.unusedSimpArgs false
theorem cls_global : Tryd.prog.globalNamed "weir/block.classes" = some 0 := by kernel_rfl
theorem cls_type : (Tryd.prog.globals[0]?).map (·.type) = some 122 := by kernel_rfl
theorem cls_cells : Tryd.prog.cellsOf 122 = 12 := by kernel_rfl
theorem cls_cell : Tryd.prog.cellsOf 121 = 3 := by kernel_rfl
def clsCells : Array Value := #[.int .i64 0, .int .i64 0, .int .i64 0, .int .i64 (-63), .int .i64 64, .int .i64 7, .int .i64 (-255), .int .i64 256, .int .i64 9, .int .i64 (-2047), .int .i64 2048, .int .i64 12]
/-- a class, as it is read. -/
theorem cls_trod {H : Type} {enc : TypeId × Value → H} {w : World} {base : Nat} {sp : Nat → Bool} {held : Bool} {fuel : Nat} {v0 v1 v2 : Value} {y : DataW H × List MemPlace}
    (h : DataW.trod enc Tryd.prog w base sp held fuel 121 [v0, v1, v2] = some y) : ∃ k0 k1 k2, v0 = .int .i64 k0 ∧ v1 = .int .i64 k1 ∧ v2 = .int .i64 k2 ∧ y.1 = .agg [.lit (.int .i64 k0), .lit (.int .i64 k1), .lit (.int .i64 k2)] := by
  obtain ⟨xs, k, hk, hxy, _, hxl, hff⟩ := DataW.trod_struct Tryd.underlying121 h
  match xs, hxl with
  | [y0, y1, y2], _ =>
    have ci : Tryd.prog.cellsOf 3 = 1 := by kernel_rfl
    have cl : Tryd.prog.cellsOf 2 = 1 := by kernel_rfl
    have g0 : DataW.trod enc Tryd.prog w base sp held k 2 (List.take (Tryd.prog.cellsOf 2) [v0, v1, v2]) = some y0 := hff 0 _ rfl
    have g1 : DataW.trod enc Tryd.prog w base sp held k 2 (List.take (Tryd.prog.cellsOf 2) [v1, v2]) = some y1 := hff 1 _ rfl
    have g2 : DataW.trod enc Tryd.prog w base sp held k 3 (List.take (Tryd.prog.cellsOf 3) [v2]) = some y2 := hff 2 _ rfl
    rw [cl] at g0 g1
    rw [ci] at g2
    simp only [List.take_succ_cons, List.take_zero] at g0 g1 g2
    obtain ⟨k0, e0, f0, _⟩ := DataW.trod_int Tryd.underlying2 g0
    obtain ⟨k1, e1, f1, _⟩ := DataW.trod_int Tryd.underlying2 g1
    obtain ⟨k2, e2, f2, _⟩ := DataW.trod_int Tryd.underlying3 g2
    simp at e0 e1 e2
    subst e0 e1 e2
    refine ⟨k0, k1, k2, rfl, rfl, rfl, ?_⟩
    have hy : y.1 = .agg [y0.1, y1.1, y2.1] := by simpa using congrArg (·.1) hxy
    rw [hy, f0, f1, f2]
set_option maxRecDepth 100000 in
set_option maxHeartbeats 2000000 in
theorem cls_var {W : World} (h : laidMet Tryd.prog [("weir/block.classes", Rows.laid_weir_block_classes)] W) : W.var? Tryd.prog "weir/block.classes" = some clsCells := by
  obtain ⟨ps, ⟨g, t, cs, fuel, p, q, hg, ht, hvar, hd, _, _⟩, _⟩ := h
  obtain rfl := Option.some.inj (cls_global.symm.trans hg)
  obtain rfl := Option.some.inj (cls_type.symm.trans ht)
  rw [hvar]
  congr 1
  obtain ⟨l⟩ := cs
  cases fuel with
  | zero => simp [DataW.trod] at hd
  | succ fuel =>
    simp only [DataW.trod, Tryd.underlying122, cls_cells, cls_cell] at hd
    split at hd
    · rename_i hl
      obtain ⟨c0, c1, c2, c3, c4, c5, c6, c7, c8, c9, c10, c11, rfl⟩ : ∃ c0 c1 c2 c3 c4 c5 c6 c7 c8 c9 c10 c11, l = [c0, c1, c2, c3, c4, c5, c6, c7, c8, c9, c10, c11] := by
        match l, hl with
        | [a0, a1, a2, a3, a4, a5, a6, a7, a8, a9, a10, a11], _ => exact ⟨a0, a1, a2, a3, a4, a5, a6, a7, a8, a9, a10, a11, rfl⟩
      have e : List.range 4 = [0, 1, 2, 3] := rfl
      rw [e] at hd
      simp only [Option.map_eq_some_iff, List.mapM_cons, List.mapM_nil, Option.bind_eq_bind, Option.bind_eq_some_iff, Option.pure_def, Option.some.injEq] at hd
      obtain ⟨xs, ⟨y0, h0, _, ⟨y1, h1, _, ⟨y2, h2, _, ⟨y3, h3, _, rfl, rfl⟩, rfl⟩, rfl⟩, rfl⟩, hx⟩ := hd
      obtain ⟨p0, p1, p2, rfl, rfl, rfl, f0⟩ := cls_trod h0
      obtain ⟨q0, q1, q2, rfl, rfl, rfl, f1⟩ := cls_trod h1
      obtain ⟨r0, r1, r2, rfl, rfl, rfl, f2⟩ := cls_trod h2
      obtain ⟨s0, s1, s2, rfl, rfl, rfl, f3⟩ := cls_trod h3
      have hx1 := congrArg (·.1) hx
      simp [Rows.laid_weir_block_classes, f0, f1, f2, f3] at hx1
      obtain ⟨⟨rfl, rfl, rfl⟩, ⟨rfl, rfl, rfl⟩, ⟨rfl, rfl, rfl⟩, ⟨rfl, rfl, rfl⟩⟩ := hx1
      rfl
    · cases hd
theorem clsCells_at : ∀ i, i < 12 → clsCells[i]? = some (.int .i64 (clsV i))
  | 0, _ => rfl
  | 1, _ => rfl
  | 2, _ => rfl
  | 3, _ => rfl
  | 4, _ => rfl
  | 5, _ => rfl
  | 6, _ => rfl
  | 7, _ => rfl
  | 8, _ => rfl
  | 9, _ => rfl
  | 10, _ => rfl
  | 11, _ => rfl
  | i + 12, h => absurd h (by omega)
theorem CT_of_laid {W : World} (h : laidMet Tryd.prog [("weir/block.classes", Rows.laid_weir_block_classes)] W) : CT W := fun i hi => by
  have h0 := World.var?_cell cls_global (cls_var h) i
  rw [clsCells_at i hi] at h0
  exact h0
theorem CT.lt {W : World} (h : CT W) : 0 < W.heap.size := World.block_lt_of_cell? _ _ (h 0 (by omega))
end Go.Proofs.YtfgfeipoddnekaaDoor
