
import Derived.Test.YtnfpommplokemaaSums
import Derived.ProofKit
import Derived.OpenShut
namespace Go.Proofs.Ytnfpommplokemaa
open Go.ChangeShapes Go.WideShapes Go.ChangeAt Go.RowKit
set_option linter.unusedVariables false

/-- a slice of numbers (int64 or int), as it is read. -/
def IntsAt (w : World) (a : Option Addr) (len : Nat) (z : Nat → Int) : Prop :=
  len ≤ 9223372036854775807 ∧ (∀ i, I64 (z i)) ∧ (len = 0 ∨ ∃ b off, a = some ⟨b, off, none⟩ ∧ b < w.heap.size ∧ ∀ i, i < len → w.cell? ⟨b, off + i, none⟩ = some (.int .i64 (z i)))

set_option maxRecDepth 100000 in
theorem ints_read {H : Type} {enc : TypeId × Value → H} {t e : TypeId} {W : World} {base : Nat} {r : Reach} {v : Value} {d : DataW H} {p : List MemPlace}
    (ht : Try.prog.underlying t = some (.slice e)) (he : Try.prog.underlying e = some (.int .i64)) (hc : Try.prog.cellsOf e = 1)
    (hv : Value.okWide Try.prog W r base t v) (h : DataW.Trod enc Try.prog W 0 (fun _ => true) true t v d p) :
    ∃ a len cap z, v = .slice a len cap ∧ IntsAt W a len z := by
  obtain ⟨a, len, cap, rfl⟩ := okWide_slice ht hv
  obtain ⟨fuel, hf⟩ := h
  have hz1 : I64 0 := by unfold I64; omega
  have hz0 : ∀ i : Nat, I64 ((fun _ => 0 : Nat → Int) i) := fun _ => hz1
  rcases open_ints ht he hc hf with ⟨hcs, hx⟩ | ⟨a', len', cap', zs, hcs, _, hl, hm, hzl, hx, hcell, hwz⟩
  · simp [Value.cells] at hcs
    obtain ⟨rfl, rfl, rfl⟩ := hcs
    exact ⟨none, 0, 0, fun _ => 0, rfl, by omega, hz0, Or.inl rfl⟩
  · simp [Value.cells] at hcs
    obtain ⟨rfl, rfl, rfl⟩ := hcs
    simp at hzl
    unfold maxLen at hm
    refine ⟨some a', len, cap, fun i => zs.getD i 0, rfl, by omega, fun i => ?_, ?_⟩
    · rcases Nat.lt_or_ge i zs.length with hi | hi
      · show I64 (zs.getD i 0)
        have hm2 : zs.getD i 0 ∈ zs := by rw [List.getD_eq_getElem?_getD, List.getElem?_eq_getElem hi]; exact List.getElem_mem hi
        have := bounds_i64 (hwz (zs.getD i 0) hm2)
        unfold I64; omega
      · show I64 (zs.getD i 0)
        rw [List.getD_eq_getElem?_getD, List.getElem?_eq_none hi]; exact hz1
    · rcases Nat.eq_zero_or_pos len with h0 | h0
      · exact Or.inl h0
      · right
        obtain ⟨b, off, rfl, hc'⟩ := ints_at hcell (by omega)
        refine ⟨b, off, rfl, ?_, fun i hi => hc' i (by omega)⟩
        have := hc' 0 (by omega)
        rcases Nat.lt_or_ge b W.heap.size with h' | h'
        · exact h'
        · simp [World.cell?, Array.getElem?_eq_none h'] at this
end Go.Proofs.Ytnfpommplokemaa
