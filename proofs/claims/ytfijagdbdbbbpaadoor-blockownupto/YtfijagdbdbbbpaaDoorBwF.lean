
import Derived.Test.YtfijagdbdbbbpaaDoorRows
import Derived.Test.YtfijagdbdbbbpaaDoorBuU
import Derived.MakeChecks
import Derived.ProofKit
import Derived.OpenShut
import Derived.Deep.SlicePairs
import Derived.Lib.SmallJoins
import Derived.Test.YtfijagdbdbbbpaaDoorBuM
namespace Go.Proofs.YtfijagdbdbbbpaaDoor
open Go.ChangeShapes Go.WideShapes Go.ChangeAt Go.RowKit
set_option linter.unusedVariables false
set_option linter.unusedSimpArgs false
theorem cls_global : Tryd.prog.globalNamed "weir/block.classes" = some 0 := by kernel_rfl
theorem cls_type : (Tryd.prog.globals[0]?).map (·.type) = some 110 := by kernel_rfl
theorem cls_cells : Tryd.prog.cellsOf 110 = 12 := by kernel_rfl
theorem cls_cell : Tryd.prog.cellsOf 109 = 3 := by kernel_rfl
def clsCells : Array Value := #[.int .i64 0, .int .i64 0, .int .i64 0, .int .i64 (-63), .int .i64 64, .int .i64 7, .int .i64 (-255), .int .i64 256, .int .i64 9, .int .i64 (-2047), .int .i64 2048, .int .i64 12]
/-- a class, as it is read. -/
theorem cls_trod {H : Type} {enc : TypeId × Value → H} {w : World} {base : Nat} {sp : Nat → Bool} {held : Bool} {fuel : Nat} {v0 v1 v2 : Value} {y : DataW H × List MemPlace}
    (h : DataW.trod enc Tryd.prog w base sp held fuel 109 [v0, v1, v2] = some y) : ∃ k0 k1 k2, v0 = .int .i64 k0 ∧ v1 = .int .i64 k1 ∧ v2 = .int .i64 k2 ∧ y.1 = .agg [.lit (.int .i64 k0), .lit (.int .i64 k1), .lit (.int .i64 k2)] := by
  obtain ⟨xs, k, hk, hxy, _, hxl, hff⟩ := DataW.trod_struct Tryd.underlying109 h
  match xs, hxl with
  | [y0, y1, y2], _ =>
    have ci : Tryd.prog.cellsOf 3 = 1 := by kernel_rfl
    have cl : Tryd.prog.cellsOf 2 = 1 := by kernel_rfl
    have g0 : DataW.trod enc Tryd.prog w base sp held k 2 (List.take (Tryd.prog.cellsOf 2) [v0, v1, v2]) = some y0 := hff 0 _ rfl
    have g1 : DataW.trod enc Tryd.prog w base sp held k 2 (List.take (Tryd.prog.cellsOf 2) [v1, v2]) = some y1 := hff 1 _ rfl
    have g2 : DataW.trod enc Tryd.prog w base sp held k 3 (List.take (Tryd.prog.cellsOf 3) [v2]) = some y2 := hff 2 _ rfl
    rw [cl] at g0 g1
    rw [ci] at g2
    simp only [List.take_succ_cons, List.take_zero] at g0 g1 g2
    obtain ⟨k0, e0, f0, _⟩ := DataW.trod_int Tryd.underlying2 g0
    obtain ⟨k1, e1, f1, _⟩ := DataW.trod_int Tryd.underlying2 g1
    obtain ⟨k2, e2, f2, _⟩ := DataW.trod_int Tryd.underlying3 g2
    simp at e0 e1 e2
    subst e0 e1 e2
    refine ⟨k0, k1, k2, rfl, rfl, rfl, ?_⟩
    have hy : y.1 = .agg [y0.1, y1.1, y2.1] := by simpa using congrArg (·.1) hxy
    rw [hy, f0, f1, f2]
set_option maxRecDepth 100000 in
set_option maxHeartbeats 2000000 in
theorem cls_var {W : World} (h : laidMet Tryd.prog [("weir/block.classes", Rows.laid_weir_block_classes)] W) : W.var? Tryd.prog "weir/block.classes" = some clsCells := by
  obtain ⟨ps, ⟨g, t, cs, fuel, p, q, hg, ht, hvar, hd, _, _⟩, _⟩ := h
  obtain rfl := Option.some.inj (cls_global.symm.trans hg)
  obtain rfl := Option.some.inj (cls_type.symm.trans ht)
  rw [hvar]
  congr 1
  obtain ⟨l⟩ := cs
  cases fuel with
  | zero => simp [DataW.trod] at hd
  | succ fuel =>
    simp only [DataW.trod, Tryd.underlying110, cls_cells, cls_cell] at hd
    split at hd
    · rename_i hl
      obtain ⟨c0, c1, c2, c3, c4, c5, c6, c7, c8, c9, c10, c11, rfl⟩ : ∃ c0 c1 c2 c3 c4 c5 c6 c7 c8 c9 c10 c11, l = [c0, c1, c2, c3, c4, c5, c6, c7, c8, c9, c10, c11] := by
        match l, hl with
        | [a0, a1, a2, a3, a4, a5, a6, a7, a8, a9, a10, a11], _ => exact ⟨a0, a1, a2, a3, a4, a5, a6, a7, a8, a9, a10, a11, rfl⟩
      have e : List.range 4 = [0, 1, 2, 3] := rfl
      rw [e] at hd
      simp only [Option.map_eq_some_iff, List.mapM_cons, List.mapM_nil, Option.bind_eq_bind, Option.bind_eq_some_iff, Option.pure_def, Option.some.injEq] at hd
      obtain ⟨xs, ⟨y0, h0, _, ⟨y1, h1, _, ⟨y2, h2, _, ⟨y3, h3, _, rfl, rfl⟩, rfl⟩, rfl⟩, rfl⟩, hx⟩ := hd
      obtain ⟨p0, p1, p2, rfl, rfl, rfl, f0⟩ := cls_trod h0
      obtain ⟨q0, q1, q2, rfl, rfl, rfl, f1⟩ := cls_trod h1
      obtain ⟨r0, r1, r2, rfl, rfl, rfl, f2⟩ := cls_trod h2
      obtain ⟨s0, s1, s2, rfl, rfl, rfl, f3⟩ := cls_trod h3
      have hx1 := congrArg (·.1) hx
      simp [Rows.laid_weir_block_classes, f0, f1, f2, f3] at hx1
      obtain ⟨⟨rfl, rfl, rfl⟩, ⟨rfl, rfl, rfl⟩, ⟨rfl, rfl, rfl⟩, ⟨rfl, rfl, rfl⟩⟩ := hx1
      rfl
    · cases hd
theorem clsCells_at : ∀ i, i < 12 → clsCells[i]? = some (.int .i64 (clsV i))
  | 0, _ => rfl
  | 1, _ => rfl
  | 2, _ => rfl
  | 3, _ => rfl
  | 4, _ => rfl
  | 5, _ => rfl
  | 6, _ => rfl
  | 7, _ => rfl
  | 8, _ => rfl
  | 9, _ => rfl
  | 10, _ => rfl
  | 11, _ => rfl
  | i + 12, h => absurd h (by omega)
theorem CT_of_laid {W : World} (h : laidMet Tryd.prog [("weir/block.classes", Rows.laid_weir_block_classes)] W) : CT W := fun i hi => by
  have h0 := World.var?_cell cls_global (cls_var h) i
  rw [clsCells_at i hi] at h0
  exact h0
theorem CT.lt {W : World} (h : CT W) : 0 < W.heap.size := World.block_lt_of_cell? _ _ (h 0 (by omega))
end Go.Proofs.YtfijagdbdbbbpaaDoor

namespace Go.Proofs.YtfijagdbdbbbpaaDoor
open Go.ChangeShapes Go.WideShapes Go.ChangeAt Go.RowKit
set_option linter.unusedVariables false
set_option linter.unusedSimpArgs false
theorem bulk_appV {H : Type} (a b : List (DataW H)) : Rows.uptoBulkAll (a ++ b) = Rows.uptoBulkAll a + Rows.uptoBulkAll b := by
  induction a with
  | nil => simp [Rows.uptoBulkAll]
  | cons x a ih => simp [Rows.uptoBulkAll, ih]; omega
theorem bulk_posV {H : Type} (d : DataW H) : 1 ≤ Rows.uptoBulk d := by
  cases d <;> first | (simp [Rows.uptoBulk]; done) | (rename_i q; cases q <;> simp [Rows.uptoBulk])
theorem choose_belowV {α : Type} [Inhabited α] {p : Nat → α → Prop} {m : Nat} (h : ∀ i, i < m → ∃ x, p i x) : ∃ f : Nat → α, ∀ i, i < m → p i (f i) :=
  ⟨fun i => if hi : i < m then Classical.choose (h i hi) else default, fun i hi => by simp only [hi, dif_pos]; exact Classical.choose_spec (h i hi)⟩
set_option maxRecDepth 100000 in
/-- a slice of samples, by its bulk. -/
theorem smps_bulk {H : Type} {enc : TypeId × Value → H} {W : World} {v : Value} {y : DataW H × List MemPlace} {fuel : Nat}
    (hf : DataW.trod enc Tryd.prog W 0 (fun _ => true) true fuel 22 [v] = some y) (hbk : Rows.uptoBulk y.1 ≤ 1048576) :
    ∃ a len cap tt kk xx, v = .slice a len cap ∧ len ≤ 1048576 ∧ SIn W a len tt kk xx := by
  rcases Go.Deep.open_slice Tryd.underlying22 hf with ⟨hcs, hx⟩ | ⟨a, len, cap, m, n, D, Pl, hcs, hb, hl, hm, hmm, hx, hall⟩
  · simp at hcs
    subst hcs
    exact ⟨none, 0, 0, fun _ => 0, fun _ => 0, fun _ => 0, rfl, by omega, by omega, fun _ => by simp, fun _ => by simp, Or.inl rfl⟩
  · simp at hcs
    subst hcs
    simp only [if_true] at hmm
    subst hmm
    have hce : Tryd.prog.cellsOf 59 = 3 := by kernel_rfl
    have hcv : Tryd.prog.cellsOf 57 = 2 := by kernel_rfl
    have hy1 : y.1 = .slice ((List.range len).map D) ((List.range (m - len)).map fun j => D (len + j)) := by rw [hx]
    have hbe : Rows.uptoBulkAll ((List.range len).map D) ≤ 1048576 := by
      rw [hy1] at hbk; simp only [Rows.uptoBulk] at hbk; omega
    have hlen0 : ∀ k, k ≤ Rows.uptoBulkAll ((List.range k).map D) := by
      intro k
      induction k with
      | zero => simp
      | succ k ih =>
        rw [List.range_succ, List.map_append, bulk_appV]
        simp only [List.map_cons, List.map_nil, Rows.uptoBulkAll]
        have := bulk_posV (D k)
        omega
    have hll := hlen0 len
    have each : ∀ i, i < len → ∃ q : Int × Nat × Int, (W.cell? (a.add (i * 3)) = some (.int .i64 q.1) ∧ W.cell? (a.add (i * 3 + 1)) = some (.int .u8 (q.2.1 : Int)) ∧ W.cell? (a.add (i * 3 + 2)) = some (.int .i64 q.2.2)) ∧ (q.2.1 < 256 ∧ -9223372036854775808 ≤ q.2.2 ∧ q.2.2 ≤ 9223372036854775807) ∧ -9223372036854775808 ≤ q.1 ∧ q.1 ≤ 9223372036854775807 := by
      intro i hi
      obtain ⟨cs', h1, h2⟩ := hall i (by omega)
      rw [hce] at h1
      obtain ⟨_, hlen, hcell⟩ := World.cells?_some h1
      obtain ⟨xs, k, hk, hxy, _, hxl, hff⟩ := DataW.trod_struct Tryd.underlying59 h2
      match xs, hxl, cs', hlen with
      | [y0, y1], _, [v0, v1, v2], _ =>
        have ci : Tryd.prog.cellsOf 55 = 1 := by kernel_rfl
        have cu : Tryd.prog.cellsOf 2 = 1 := by kernel_rfl
        have g0 : DataW.trod enc Tryd.prog W 0 (fun _ => true) true k 2 (List.take (Tryd.prog.cellsOf 2) [v0, v1, v2]) = some y0 := hff 0 _ rfl
        have g1 : DataW.trod enc Tryd.prog W 0 (fun _ => true) true k 57 (List.take (Tryd.prog.cellsOf 57) [v1, v2]) = some y1 := hff 1 _ rfl
        rw [cu] at g0
        rw [hcv] at g1
        simp only [List.take_succ_cons, List.take_zero] at g0 g1
        obtain ⟨xs', k', hk', hxy', _, hxl', hff'⟩ := DataW.trod_struct Tryd.underlying57 g1
        match xs', hxl' with
        | [u0, u1], _ =>
          have g2 : DataW.trod enc Tryd.prog W 0 (fun _ => true) true k' 55 (List.take (Tryd.prog.cellsOf 55) [v1, v2]) = some u0 := hff' 0 _ rfl
          have g3 : DataW.trod enc Tryd.prog W 0 (fun _ => true) true k' 2 (List.take (Tryd.prog.cellsOf 2) [v2]) = some u1 := hff' 1 _ rfl
          rw [ci] at g2
          rw [cu] at g3
          simp only [List.take_succ_cons, List.take_zero] at g2 g3
          obtain ⟨kt, et, _, wt⟩ := DataW.trod_int Tryd.underlying2 g0
          obtain ⟨k0, e0, _, w0⟩ := DataW.trod_int Tryd.underlying55 g2
          obtain ⟨k1, e1, _, w1⟩ := DataW.trod_int Tryd.underlying2 g3
          simp at et e0 e1
          subst et e0 e1
          have r0 := hcell 0 (by omega)
          have r1 := hcell 1 (by omega)
          have r2 := hcell 2 (by omega)
          rw [Go.Deep.add_add] at r0 r1 r2
          have hwt := bounds_i64 wt
          have hw0 := bounds_u8 w0
          have hw1 := bounds_i64 w1
          refine ⟨(kt, k0.toNat, k1), ⟨by simpa using r0, ?_, by simpa using r2⟩, ⟨show k0.toNat < 256 by omega, hw1⟩, hwt⟩
          have ek : ((k0.toNat : Nat) : Int) = k0 := by omega
          simpa [ek] using r1
    obtain ⟨q, hq⟩ := choose_belowV each
    refine ⟨some a, len, m, fun i => if i < len then (q i).1 else 0, fun i => if i < len then (q i).2.1 else 0, fun i => if i < len then (q i).2.2 else 0, rfl, by omega, by omega, fun i => ?_, fun i => ?_, ?_⟩
    · by_cases hi : i < len
      · have := (hq i hi).2.1
        simp only [hi, if_true]
        exact this
      · simp [hi]
    · by_cases hi : i < len
      · have := (hq i hi).2.2
        simp only [hi, if_true]
        exact this
      · simp [hi]
    · rcases Nat.eq_zero_or_pos len with h0 | h0
      · exact Or.inl h0
      · right
        obtain ⟨b, off, spot⟩ := a
        have hspot : spot = none := by simpa [Addr.add] using World.cell?_spot (hq 0 h0).1.1
        subst hspot
        refine ⟨b, off, rfl, ?_, fun i hi => ?_⟩
        · have h' := (hq 0 h0).1.1
          rw [Go.WideShapes.add_plain] at h'
          rcases Nat.lt_or_ge b W.heap.size with h2 | h2
          · exact h2
          · simp [World.cell?, Array.getElem?_eq_none h2] at h'
        · obtain ⟨⟨c0, c1, c2⟩, _⟩ := hq i hi
          rw [Go.WideShapes.add_plain] at c0 c1 c2
          rw [← Nat.add_assoc] at c1 c2
          simp only [hi, if_true]
          exact ⟨c0, c1, c2⟩
end Go.Proofs.YtfijagdbdbbbpaaDoor
