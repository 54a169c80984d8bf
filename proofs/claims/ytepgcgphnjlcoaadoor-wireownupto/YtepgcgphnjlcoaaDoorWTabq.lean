
import Derived.Test.YtepgcgphnjlcoaaDoorRows
import Derived.Test.YtepgcgphnjlcoaaDoorWrLq
import Derived.MakeChecks
import Derived.ProofKit
namespace Go.Proofs.YtepgcgphnjlcoaaDoor
open Go.ChangeShapes Go.WideShapes Go.RowKit
set_option linter.unusedVariables false
theorem sums_global : Tryd.prog.globalNamed "weir/wire.sums" = some 0 := by kernel_rfl
theorem sums_type : (Tryd.prog.globals[0]?).map (·.type) = some 102 := by kernel_rfl
theorem sums_cells : Tryd.prog.cellsOf 102 = 16 := by kernel_rfl
theorem sums_cell : Tryd.prog.cellsOf 80 = 1 := by kernel_rfl
theorem u32_of_trod {H : Type} {enc : TypeId × Value → H} {P : Program} {w : World} {base : Nat} {sp : Nat → Bool} {held : Bool} {fuel : Nat} {t : TypeId} {k : IntKind} {c : Value} {y : DataW H × List MemPlace}
    (ht : P.underlying t = some (.int k)) (h : DataW.trod enc P w base sp held fuel t [c] = some y) : ∃ n, c = .int k n ∧ y = (.lit (.int k n), []) := by
  cases fuel with
  | zero => simp [DataW.trod] at h
  | succ fuel =>
    cases c <;> simp [DataW.trod, ht] at h
    rename_i k' n
    obtain ⟨⟨rfl, _⟩, rfl⟩ := h
    exact ⟨n, rfl, rfl⟩
def sumCells : Array Value := #[.int .u32 0, .int .u32 498536548, .int .u32 997073096, .int .u32 651767980, .int .u32 1994146192, .int .u32 1802195444, .int .u32 1303535960, .int .u32 1342533948, .int .u32 3988292384, .int .u32 4027552580, .int .u32 3604390888, .int .u32 3412177804, .int .u32 2607071920, .int .u32 2262029012, .int .u32 2685067896, .int .u32 3183342108]
set_option maxRecDepth 100000 in
set_option maxHeartbeats 2000000 in
theorem sums_var {W : World} (h : laidMet Tryd.prog [("weir/wire.sums", Rows.laid_weir_wire_sums)] W) : W.var? Tryd.prog "weir/wire.sums" = some sumCells := by
  obtain ⟨ps, ⟨g, t, cs, fuel, p, q, hg, ht, hvar, hd, _, _⟩, _⟩ := h
  obtain rfl := Option.some.inj (sums_global.symm.trans hg)
  obtain rfl := Option.some.inj (sums_type.symm.trans ht)
  rw [hvar]
  congr 1
  obtain ⟨l⟩ := cs
  cases fuel with
  | zero => simp [DataW.trod] at hd
  | succ fuel =>
    simp only [DataW.trod, Tryd.underlying102, sums_cells, sums_cell] at hd
    split at hd
    · rename_i hl
      obtain ⟨c0, c1, c2, c3, c4, c5, c6, c7, c8, c9, c10, c11, c12, c13, c14, c15, rfl⟩ : ∃ c0 c1 c2 c3 c4 c5 c6 c7 c8 c9 c10 c11 c12 c13 c14 c15, l = [c0, c1, c2, c3, c4, c5, c6, c7, c8, c9, c10, c11, c12, c13, c14, c15] := by
        match l, hl with
        | [a0, a1, a2, a3, a4, a5, a6, a7, a8, a9, a10, a11, a12, a13, a14, a15], _ => exact ⟨a0, a1, a2, a3, a4, a5, a6, a7, a8, a9, a10, a11, a12, a13, a14, a15, rfl⟩
      have e : List.range 16 = [0, 1, 2, 3, 4, 5, 6, 7, 8, 9, 10, 11, 12, 13, 14, 15] := rfl
      rw [e] at hd
      simp only [Option.map_eq_some_iff, List.mapM_cons, List.mapM_nil, Option.bind_eq_bind, Option.bind_eq_some_iff, Option.pure_def, Option.some.injEq] at hd
      obtain ⟨xs, ⟨y0, h0, _, ⟨y1, h1, _, ⟨y2, h2, _, ⟨y3, h3, _, ⟨y4, h4, _, ⟨y5, h5, _, ⟨y6, h6, _, ⟨y7, h7, _, ⟨y8, h8, _, ⟨y9, h9, _, ⟨y10, h10, _, ⟨y11, h11, _, ⟨y12, h12, _, ⟨y13, h13, _, ⟨y14, h14, _, ⟨y15, h15, _, rfl, rfl⟩, rfl⟩, rfl⟩, rfl⟩, rfl⟩, rfl⟩, rfl⟩, rfl⟩, rfl⟩, rfl⟩, rfl⟩, rfl⟩, rfl⟩, rfl⟩, rfl⟩, rfl⟩, hx⟩ := hd
      obtain ⟨n0, rfl, rfl⟩ := u32_of_trod Tryd.underlying80 h0
      obtain ⟨n1, rfl, rfl⟩ := u32_of_trod Tryd.underlying80 h1
      obtain ⟨n2, rfl, rfl⟩ := u32_of_trod Tryd.underlying80 h2
      obtain ⟨n3, rfl, rfl⟩ := u32_of_trod Tryd.underlying80 h3
      obtain ⟨n4, rfl, rfl⟩ := u32_of_trod Tryd.underlying80 h4
      obtain ⟨n5, rfl, rfl⟩ := u32_of_trod Tryd.underlying80 h5
      obtain ⟨n6, rfl, rfl⟩ := u32_of_trod Tryd.underlying80 h6
      obtain ⟨n7, rfl, rfl⟩ := u32_of_trod Tryd.underlying80 h7
      obtain ⟨n8, rfl, rfl⟩ := u32_of_trod Tryd.underlying80 h8
      obtain ⟨n9, rfl, rfl⟩ := u32_of_trod Tryd.underlying80 h9
      obtain ⟨n10, rfl, rfl⟩ := u32_of_trod Tryd.underlying80 h10
      obtain ⟨n11, rfl, rfl⟩ := u32_of_trod Tryd.underlying80 h11
      obtain ⟨n12, rfl, rfl⟩ := u32_of_trod Tryd.underlying80 h12
      obtain ⟨n13, rfl, rfl⟩ := u32_of_trod Tryd.underlying80 h13
      obtain ⟨n14, rfl, rfl⟩ := u32_of_trod Tryd.underlying80 h14
      obtain ⟨n15, rfl, rfl⟩ := u32_of_trod Tryd.underlying80 h15
      simp [Rows.laid_weir_wire_sums] at hx
      obtain ⟨⟨rfl, rfl, rfl, rfl, rfl, rfl, rfl, rfl, rfl, rfl, rfl, rfl, rfl, rfl, rfl, rfl⟩, _⟩ := hx
      rfl
    · cases hd
theorem sumCells_at : ∀ i, i < 16 → sumCells[i]? = some (.int .u32 (tabN i))
  | 0, _ => rfl
  | 1, _ => rfl
  | 2, _ => rfl
  | 3, _ => rfl
  | 4, _ => rfl
  | 5, _ => rfl
  | 6, _ => rfl
  | 7, _ => rfl
  | 8, _ => rfl
  | 9, _ => rfl
  | 10, _ => rfl
  | 11, _ => rfl
  | 12, _ => rfl
  | 13, _ => rfl
  | 14, _ => rfl
  | 15, _ => rfl
  | i + 16, h => absurd h (by omega)
theorem ST_of_laid {W : World} (h : laidMet Tryd.prog [("weir/wire.sums", Rows.laid_weir_wire_sums)] W) : ST W := fun i hi => by
  have h0 := World.var?_cell sums_global (sums_var h) i
  rw [sumCells_at i hi] at h0
  exact h0
end Go.Proofs.YtepgcgphnjlcoaaDoor
