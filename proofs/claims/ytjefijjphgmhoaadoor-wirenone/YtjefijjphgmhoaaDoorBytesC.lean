
import Derived.Test.YtjefijjphgmhoaaDoorWBytes
namespace Go.Proofs.YtjefijjphgmhoaaDoor
open Go.ChangeShapes Go.WideShapes Go.ChangeAt Go.RowKit
set_option linter.unusedVariables false
theorem weight_in3 {H : Type} {P : Program} {t : TypeId} {f0 f1 f2 : Field} {d0 d1 d2 : DataW H} (hs : P.underlying t = some (.struct #[f0, f1, f2])) {n : Nat} (hn : n ∈ d2.weights P f2.type) : n ∈ (DataW.agg [d0, d1, d2]).weights P t := by
  simp [DataW.weights, DataW.weightsEach, hs, hn]
theorem weight_in4 {H : Type} {P : Program} {t : TypeId} {f0 f1 f2 f3 : Field} {d0 d1 d2 d3 : DataW H} (hs : P.underlying t = some (.struct #[f0, f1, f2, f3])) {n : Nat} (hn : n ∈ d3.weights P f3.type) : n ∈ (DataW.agg [d0, d1, d2, d3]).weights P t := by
  simp [DataW.weights, DataW.weightsEach, hs, hn]
set_option maxRecDepth 100000 in
/-- a slice of bytes that lies in a struct, as it is read. -/
theorem bytes_cell {H : Type} {enc : TypeId × Value → H} {t e : TypeId} {W : World} {v : Value} {y : DataW H × List MemPlace} {fuel : Nat}
    (ht : Tryd.prog.underlying t = some (.slice e)) (he : Tryd.prog.underlying e = some (.int .u8)) (hc : Tryd.prog.cellsOf e = 1) (hb : 1 ≤ Tryd.prog.bytesOf e)
    (hf : DataW.trod enc Tryd.prog W 0 (fun _ => true) true fuel t [v] = some y) (hw : ∀ n ∈ y.1.weights Tryd.prog t, n ≤ reachBytes) :
    ∃ a len cap bs, v = .slice a len cap ∧ BytesIn W a len bs := by
  rcases open_ints ht he hc hf with ⟨hcs, hx⟩ | ⟨a', len, cap, zs, hcs, _, hl, hm, hzl, hx, hcell, hwz⟩
  · simp at hcs
    subst hcs
    exact ⟨none, 0, 0, fun _ => 0, rfl, by omega, Or.inl rfl⟩
  · simp at hcs
    subst hcs
    simp at hzl
    have hsm : len ≤ 140737488355327 := by
      have hd : y.1 = .slice (lits .u8 (zs.take len)) (lits .u8 (zs.drop len)) := congrArg (·.1) hx
      have h1 := hw (((lits (H := H) .u8 (zs.take len)).length + (lits (H := H) .u8 (zs.drop len)).length) * Tryd.prog.bytesOf e) (by rw [hd]; simp [DataW.weights, ht])
      rw [lits_len, lits_len, List.length_take, List.length_drop] at h1
      have h2 : cap ≤ cap * Tryd.prog.bytesOf e := Nat.le_mul_of_pos_right _ hb
      have e1 : min len zs.length + (zs.length - len) = cap := by omega
      rw [e1] at h1
      have : reachBytes ≤ 140737488355327 := by decide
      omega
    refine ⟨some a', len, cap, fun i => (zs.getD i 0).toNat, rfl, hsm, ?_⟩
    rcases Nat.eq_zero_or_pos len with h0 | h0
    · exact Or.inl h0
    · right
      obtain ⟨b, off, rfl, hc'⟩ := ints_at hcell (by omega)
      refine ⟨b, off, rfl, ?_, fun i hi => ?_⟩
      · have := hc' 0 (by omega)
        rcases Nat.lt_or_ge b W.heap.size with h' | h'
        · exact h'
        · simp [World.cell?, Array.getElem?_eq_none h'] at this
      · have hi' : i < zs.length := by omega
        have hm2 : zs.getD i 0 ∈ zs := by rw [List.getD_eq_getElem?_getD, List.getElem?_eq_getElem hi']; exact List.getElem_mem hi'
        have hb8 := bounds_u8 (hwz (zs.getD i 0) hm2)
        have h0 := hc' i hi'
        have e0 : (((zs.getD i 0).toNat : Nat) : Int) = zs.getD i 0 := by omega
        exact ⟨by rw [e0]; exact h0, show (zs.getD i 0).toNat < 256 by omega⟩
set_option maxRecDepth 100000 in
/-- the same, with how long it may be. -/
theorem bytes_cell2 {H : Type} {enc : TypeId × Value → H} {t e : TypeId} {W : World} {v : Value} {y : DataW H × List MemPlace} {fuel : Nat}
    (ht : Tryd.prog.underlying t = some (.slice e)) (he : Tryd.prog.underlying e = some (.int .u8)) (hc : Tryd.prog.cellsOf e = 1) (hb : 1 ≤ Tryd.prog.bytesOf e)
    (hf : DataW.trod enc Tryd.prog W 0 (fun _ => true) true fuel t [v] = some y) (hw : ∀ n ∈ y.1.weights Tryd.prog t, n ≤ reachBytes) :
    ∃ a len cap bs, v = .slice a len cap ∧ BytesIn W a len bs ∧ len ≤ 140737488351232 := by
  rcases open_ints ht he hc hf with ⟨hcs, hx⟩ | ⟨a', len, cap, zs, hcs, _, hl, hm, hzl, hx, hcell, hwz⟩
  · simp at hcs
    subst hcs
    exact ⟨none, 0, 0, fun _ => 0, rfl, ⟨by omega, Or.inl rfl⟩, by omega⟩
  · simp at hcs
    subst hcs
    simp at hzl
    have hsm : len ≤ 140737488351232 := by
      have hd : y.1 = .slice (lits .u8 (zs.take len)) (lits .u8 (zs.drop len)) := congrArg (·.1) hx
      have h1 := hw (((lits (H := H) .u8 (zs.take len)).length + (lits (H := H) .u8 (zs.drop len)).length) * Tryd.prog.bytesOf e) (by rw [hd]; simp [DataW.weights, ht])
      rw [lits_len, lits_len, List.length_take, List.length_drop] at h1
      have h2 : cap ≤ cap * Tryd.prog.bytesOf e := Nat.le_mul_of_pos_right _ hb
      have e1 : min len zs.length + (zs.length - len) = cap := by omega
      rw [e1] at h1
      have : reachBytes ≤ 140737488351232 := by decide
      omega
    refine ⟨some a', len, cap, fun i => (zs.getD i 0).toNat, rfl, ⟨by omega, ?_⟩, hsm⟩
    rcases Nat.eq_zero_or_pos len with h0 | h0
    · exact Or.inl h0
    · right
      obtain ⟨b, off, rfl, hc'⟩ := ints_at hcell (by omega)
      refine ⟨b, off, rfl, ?_, fun i hi => ?_⟩
      · have := hc' 0 (by omega)
        rcases Nat.lt_or_ge b W.heap.size with h' | h'
        · exact h'
        · simp [World.cell?, Array.getElem?_eq_none h'] at this
      · have hi' : i < zs.length := by omega
        have hm2 : zs.getD i 0 ∈ zs := by rw [List.getD_eq_getElem?_getD, List.getElem?_eq_getElem hi']; exact List.getElem_mem hi'
        have hb8 := bounds_u8 (hwz (zs.getD i 0) hm2)
        have h0 := hc' i hi'
        have e0 : (((zs.getD i 0).toNat : Nat) : Int) = zs.getD i 0 := by omega
        exact ⟨by rw [e0]; exact h0, show (zs.getD i 0).toNat < 256 by omega⟩
end Go.Proofs.YtjefijjphgmhoaaDoor
