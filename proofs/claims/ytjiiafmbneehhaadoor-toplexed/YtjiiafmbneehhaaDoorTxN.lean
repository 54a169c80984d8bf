
import Derived.Test.YtjiiafmbneehhaaDoorRows
import Derived.Test.YtjiiafmbneehhaaDoorTxM
import Derived.ProofKit
import Derived.Lib.LaidU8
import Derived.Lib.LaidTab
namespace Go.Proofs.YtjiiafmbneehhaaDoor.Lx
open Go.ChangeShapes Go.WideShapes Go.ChangeAt Go.RowKit
set_option linter.unusedVariables false
set_option linter.unusedSimpArgs false
theorem iface_of_trod {P : Program} {w : World} {fuel : Nat} {t : TypeId} {k : TypeDesc} {cs : List Value} {s : String} {d : DataW Unit} {p : List MemPlace} {ms}
    (ht : P.underlying t = some (.interface ms)) (h : DataW.trod (fun _ => ()) P w 0 (fun _ => true) false fuel t cs = some (.iface s d, p)) : ∃ te pe, cs = [.iface te pe] := by
  cases fuel with
  | zero => simp [DataW.trod] at h
  | succ fuel =>
    rcases cs with _ | ⟨c, _ | ⟨c', r⟩⟩
    · simp [DataW.trod, ht] at h
    · cases c <;> simp [DataW.trod, ht] at h
      exact ⟨_, _, rfl⟩
    · simp [DataW.trod, ht] at h
theorem uni_global : Tryd.prog.globalNamed "weir/span.units" = some 0 := by kernel_rfl
theorem uni_type : (Tryd.prog.globals[0]?).map (·.type) = some 75 := by kernel_rfl
theorem uni_cells : Tryd.prog.cellsOf 75 = 16 := by kernel_rfl
theorem uni_cell : Tryd.prog.cellsOf 74 = 2 := by kernel_rfl
theorem uni_trod {H : Type} {enc : TypeId × Value → H} {w : World} {base : Nat} {sp : Nat → Bool} {held : Bool} {fuel : Nat} {v0 v1 : Value} {y : DataW H × List MemPlace}
    (h : DataW.trod enc Tryd.prog w base sp held fuel 74 [v0, v1] = some y) : ∃ (s : ByteArray) (k : Int), v0 = .string s ∧ v1 = .int .i64 k ∧ y.1 = .agg [.lit (.string s.data.toList), .lit (.int .i64 k)] := by
  obtain ⟨xs, k, hk, hxy, _, hxl, hff⟩ := DataW.trod_struct Tryd.underlying74 h
  match xs, hxl with
  | [y0, y1], _ =>
    have ci : Tryd.prog.cellsOf 9 = 1 := by kernel_rfl
    have cl : Tryd.prog.cellsOf 2 = 1 := by kernel_rfl
    have g0 : DataW.trod enc Tryd.prog w base sp held k 9 (List.take (Tryd.prog.cellsOf 9) [v0, v1]) = some y0 := hff 0 _ rfl
    have g1 : DataW.trod enc Tryd.prog w base sp held k 2 (List.take (Tryd.prog.cellsOf 2) [v1]) = some y1 := hff 1 _ rfl
    rw [ci] at g0
    rw [cl] at g1
    simp only [List.take_succ_cons, List.take_zero] at g0 g1
    obtain ⟨s0, e0, f0, _⟩ := DataW.trod_string Tryd.underlying9 g0
    obtain ⟨k1, e1, f1, _⟩ := DataW.trod_int Tryd.underlying2 g1
    simp at e0 e1
    subst e0 e1
    refine ⟨s0, k1, rfl, rfl, ?_⟩
    have hy : y.1 = .agg [y0.1, y1.1] := by simpa using congrArg (·.1) hxy
    rw [hy, f0, f1]
theorem bytes_of {s : ByteArray} {l : List UInt8} (h : s.data.toList = l) : s = ⟨l.toArray⟩ := by
  rw [ByteArray.ext_iff]; apply Array.ext'; rw [h]
def uniCells : Array Value := #[.string ⟨#[119]⟩, .int .i64 604800000000000, .string ⟨#[100]⟩, .int .i64 86400000000000, .string ⟨#[104]⟩, .int .i64 3600000000000, .string ⟨#[109]⟩, .int .i64 60000000000, .string ⟨#[115]⟩, .int .i64 1000000000, .string ⟨#[109, 115]⟩, .int .i64 1000000, .string ⟨#[117, 115]⟩, .int .i64 1000, .string ⟨#[110, 115]⟩, .int .i64 1]
set_option maxRecDepth 100000 in
set_option maxHeartbeats 2000000 in
theorem uni_var {W : World} (h : Lib.VarReads Tryd.prog W "weir/span.units" Rows.laid_weir_span_units) : W.var? Tryd.prog "weir/span.units" = some uniCells := by
  obtain ⟨g, t, cs, fuel, p, hg, ht, hvar, hd⟩ := h
  obtain rfl := Option.some.inj (uni_global.symm.trans hg)
  obtain rfl := Option.some.inj (uni_type.symm.trans ht)
  rw [hvar]
  congr 1
  obtain ⟨l⟩ := cs
  cases fuel with
  | zero => simp [DataW.trod] at hd
  | succ fuel =>
    simp only [DataW.trod, Tryd.underlying75, uni_cells, uni_cell] at hd
    split at hd
    · rename_i hl
      obtain ⟨a0, b0, a1, b1, a2, b2, a3, b3, a4, b4, a5, b5, a6, b6, a7, b7, rfl⟩ : ∃ a0 b0 a1 b1 a2 b2 a3 b3 a4 b4 a5 b5 a6 b6 a7 b7, l = [a0, b0, a1, b1, a2, b2, a3, b3, a4, b4, a5, b5, a6, b6, a7, b7] := by
        match l, hl with
        | [a0, b0, a1, b1, a2, b2, a3, b3, a4, b4, a5, b5, a6, b6, a7, b7], _ => exact ⟨a0, b0, a1, b1, a2, b2, a3, b3, a4, b4, a5, b5, a6, b6, a7, b7, rfl⟩
      have e : List.range 8 = [0, 1, 2, 3, 4, 5, 6, 7] := rfl
      rw [e] at hd
      simp only [Option.map_eq_some_iff, List.mapM_cons, List.mapM_nil, Option.bind_eq_bind, Option.bind_eq_some_iff, Option.pure_def, Option.some.injEq] at hd
      obtain ⟨xs, ⟨y0, h0, _, ⟨y1, h1, _, ⟨y2, h2, _, ⟨y3, h3, _, ⟨y4, h4, _, ⟨y5, h5, _, ⟨y6, h6, _, ⟨y7, h7, _, rfl, rfl⟩, rfl⟩, rfl⟩, rfl⟩, rfl⟩, rfl⟩, rfl⟩, rfl⟩, hx⟩ := hd
      obtain ⟨s0, k0, rfl, rfl, f0⟩ := uni_trod h0
      obtain ⟨s1, k1, rfl, rfl, f1⟩ := uni_trod h1
      obtain ⟨s2, k2, rfl, rfl, f2⟩ := uni_trod h2
      obtain ⟨s3, k3, rfl, rfl, f3⟩ := uni_trod h3
      obtain ⟨s4, k4, rfl, rfl, f4⟩ := uni_trod h4
      obtain ⟨s5, k5, rfl, rfl, f5⟩ := uni_trod h5
      obtain ⟨s6, k6, rfl, rfl, f6⟩ := uni_trod h6
      obtain ⟨s7, k7, rfl, rfl, f7⟩ := uni_trod h7
      have hx1 := congrArg (·.1) hx
      simp [Rows.laid_weir_span_units, f0, f1, f2, f3, f4, f5, f6, f7] at hx1
      obtain ⟨⟨c0, rfl⟩, ⟨c1, rfl⟩, ⟨c2, rfl⟩, ⟨c3, rfl⟩, ⟨c4, rfl⟩, ⟨c5, rfl⟩, ⟨c6, rfl⟩, ⟨c7, rfl⟩⟩ := hx1
      obtain rfl := bytes_of c0; obtain rfl := bytes_of c1; obtain rfl := bytes_of c2; obtain rfl := bytes_of c3; obtain rfl := bytes_of c4; obtain rfl := bytes_of c5; obtain rfl := bytes_of c6; obtain rfl := bytes_of c7
      rfl
    · cases hd
theorem UT_of {W : World} (h : Lib.VarReads Tryd.prog W "weir/span.units" Rows.laid_weir_span_units) : UT W := by
  have hv := World.var?_cell uni_global (uni_var h)
  have z0 := hv 0
  have z1 := hv 1
  have z2 := hv 2
  have z3 := hv 3
  have z4 := hv 4
  have z5 := hv 5
  have z6 := hv 6
  have z7 := hv 7
  have z8 := hv 8
  have z9 := hv 9
  have z10 := hv 10
  have z11 := hv 11
  have z12 := hv 12
  have z13 := hv 13
  have z14 := hv 14
  have z15 := hv 15
  exact ⟨z0, z1, z2, z3, z4, z5, z6, z7, z8, z9, z10, z11, z12, z13, z14, z15⟩
theorem syn_global : Tryd.prog.globalNamed "strconv.ErrSyntax" = some 2 := by kernel_rfl
theorem rng_global : Tryd.prog.globalNamed "strconv.ErrRange" = some 3 := by kernel_rfl
theorem syn_type : (Tryd.prog.globals[2]?).map (·.type) = some 24 := by kernel_rfl
theorem rng_type : (Tryd.prog.globals[3]?).map (·.type) = some 24 := by kernel_rfl
theorem syn_of {W : World} (h : Lib.VarReads Tryd.prog W "strconv.ErrSyntax" Rows.laid_strconv_ErrSyntax) : ∃ ev, W.cell? ⟨2, 0, none⟩ = some ev ∧ (ev = .nilIface ∨ ∃ te pe, ev = .iface te pe) := by
  obtain ⟨g2, t2, cs2, f2, p2, hg2, ht2, hv2, hd2⟩ := h
  obtain rfl := Option.some.inj (syn_global.symm.trans hg2)
  obtain rfl := Option.some.inj (syn_type.symm.trans ht2)
  obtain ⟨te, pe, hcs⟩ := iface_of_trod (k := .string) Tryd.underlying24 hd2
  have h0 := World.var?_cell syn_global hv2 0
  refine ⟨.iface te pe, ?_, Or.inr ⟨te, pe, rfl⟩⟩
  rw [h0, ← Array.getElem?_toList, hcs]; rfl
theorem rng_of {W : World} (h : Lib.VarReads Tryd.prog W "strconv.ErrRange" Rows.laid_strconv_ErrRange) : ∃ ev, W.cell? ⟨3, 0, none⟩ = some ev ∧ (ev = .nilIface ∨ ∃ te pe, ev = .iface te pe) := by
  obtain ⟨g2, t2, cs2, f2, p2, hg2, ht2, hv2, hd2⟩ := h
  obtain rfl := Option.some.inj (rng_global.symm.trans hg2)
  obtain rfl := Option.some.inj (rng_type.symm.trans ht2)
  obtain ⟨te, pe, hcs⟩ := iface_of_trod (k := .string) Tryd.underlying24 hd2
  have h0 := World.var?_cell rng_global hv2 0
  refine ⟨.iface te pe, ?_, Or.inr ⟨te, pe, rfl⟩⟩
  rw [h0, ← Array.getElem?_toList, hcs]; rfl
theorem pt_of {W : World} (h : laidMet Tryd.prog Rows.topLexedRow.laid W) : PT W := by
  have r1 := Lib.laidMet.reads h (n := "strconv.ErrRange") (d := Rows.laid_strconv_ErrRange) (by simp [Rows.topLexedRow])
  have r2 := Lib.laidMet.reads h (n := "strconv.ErrSyntax") (d := Rows.laid_strconv_ErrSyntax) (by simp [Rows.topLexedRow])
  have r3 := Lib.laidMet.reads h (n := "weir/span.units") (d := Rows.laid_weir_span_units) (by simp [Rows.topLexedRow])
  have u := UT_of r3
  have s := syn_of r2
  have q := rng_of r1
  obtain ⟨e1, c1, i1⟩ := s
  obtain ⟨e2, c2, i2⟩ := q
  exact ⟨u, u.lt, ⟨e1, c1, i1⟩, World.block_lt_of_cell? _ _ c1, ⟨e2, c2, i2⟩, World.block_lt_of_cell? _ _ c2⟩
end Go.Proofs.YtjiiafmbneehhaaDoor.Lx
