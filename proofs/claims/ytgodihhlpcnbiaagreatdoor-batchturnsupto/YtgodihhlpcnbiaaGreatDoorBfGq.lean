
import Derived.Test.YtgodihhlpcnbiaaGreatDoorBgB
import Derived.Test.YtgodihhlpcnbiaaGreatDoorBfFq
namespace Go.Proofs.YtgodihhlpcnbiaaGreatDoor
open Go.ChangeShapes Go.WideShapes Go.ChangeAt Go.RowKit
set_option linter.unusedVariables false
set_option linter.unusedSimpArgs false
set_option maxRecDepth 100000 in
/-- numbers, as they are read, by their bulk. -/
theorem intsl_bulk {H : Type} {enc : TypeId × Value → H} {W : World} {v : Value} {y : DataW H × List MemPlace} {fuel : Nat}
    (hf : DataW.trod enc Tryz.prog W 0 (fun _ => true) true fuel 42 [v] = some y) (hbk : Rows.uptoBulk y.1 ≤ 1048576) :
    ∃ a l cap, v = .slice a (List.length l) cap ∧ NmIn W a l ∧ l.length ≤ cap ∧ l.length ≤ 1048576 ∧ ∀ x ∈ l, -9223372036854775808 ≤ x ∧ x ≤ 9223372036854775807 := by
  rcases Go.Deep.open_slice Tryz.underlying42 hf with ⟨hcs, hx⟩ | ⟨a, len, cap, m, n, D, Pl, hcs, hb, hl, hm, hmm, hx, hall⟩
  · simp at hcs
    subst hcs
    exact ⟨none, [], 0, rfl, Or.inl rfl, by simp, by simp, by simp⟩
  · simp at hcs
    subst hcs
    simp only [if_true] at hmm
    subst hmm
    have hce : Tryz.prog.cellsOf 3 = 1 := by kernel_rfl
    have hy1 : y.1 = .slice ((List.range len).map D) ((List.range (m - len)).map fun j => D (len + j)) := by rw [hx]
    have hbe : Rows.uptoBulkAll ((List.range len).map D) ≤ 1048576 := by
      rw [hy1] at hbk; simp only [Rows.uptoBulk] at hbk; omega
    have hsz : len ≤ 1048576 := by have := bulk_lenW ((List.range len).map D); simp at this; omega
    have each : ∀ i, i < len → ∃ q : Int, W.cell? (a.add i) = some (.int .i64 q) ∧ -9223372036854775808 ≤ q ∧ q ≤ 9223372036854775807 := by
      intro i hi
      obtain ⟨cs', h1, h2⟩ := hall i (by omega)
      rw [hce] at h1
      obtain ⟨_, hlen, hcell⟩ := World.cells?_some h1
      match cs', hlen with
      | [v0], _ =>
        obtain ⟨n3, e3, _, w3⟩ := DataW.trod_int Tryz.underlying3 h2
        simp at e3
        subst e3
        have r0 := hcell 0 (by omega)
        rw [Go.Deep.add_add] at r0
        have b := bounds_i64 w3
        exact ⟨n3, by simpa using r0, by omega, by omega⟩
    obtain ⟨q, hq⟩ := choose_belowW each
    refine ⟨some a, (List.range len).map q, m, by simp, ?_, by simpa using hl, by simpa using hsz, fun x hx => ?_⟩
    · rcases Nat.eq_zero_or_pos len with h0 | h0
      · exact Or.inl (by rw [h0]; rfl)
      · right
        obtain ⟨b, off, spot⟩ := a
        have hspot : spot = none := by simpa [Addr.add] using World.cell?_spot (hq 0 h0).1
        subst hspot
        refine ⟨b, off, rfl, ?_, fun i s hs => ?_⟩
        · have h' := (hq 0 h0).1
          rw [tag_add] at h'
          rcases Nat.lt_or_ge b W.heap.size with h2 | h2
          · exact h2
          · simp [World.cell?, Array.getElem?_eq_none h2] at h'
        · have hi : i < len := by have := (List.getElem?_eq_some_iff.1 hs).1; simpa using this
          have es : s = q i := by
            rw [List.getElem?_map, List.getElem?_range hi] at hs
            simpa using hs.symm
          subst es
          have r0 := (hq i hi).1
          rw [tag_add] at r0
          exact r0
    · simp only [List.mem_map, List.mem_range] at hx
      obtain ⟨i, hi, rfl⟩ := hx
      exact (hq i hi).2
end Go.Proofs.YtgodihhlpcnbiaaGreatDoor
