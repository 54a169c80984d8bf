
import Derived.Test.YtnfpommplokemaaInts
import Derived.SizedLaws
namespace Go.Proofs.Ytnfpommplokemaa
open Go.ChangeShapes Go.WideShapes Go.ChangeAt Go.RowKit
set_option linter.unusedVariables false
theorem lits_len (k : IntKind) {H : Type} (l : List Int) : (lits (H := H) k l).length = l.length := by unfold lits; simp
/-- what a slice of numbers weighs bounds its length. -/
theorem ints_small {H : Type} {enc : TypeId × Value → H} {t e : TypeId} {W : World} {a : Option Addr} {len cap : Nat} {d : DataW H} {p : List MemPlace}
    (ht : Try.prog.underlying t = some (.slice e)) (he : Try.prog.underlying e = some (.int .i64)) (hc : Try.prog.cellsOf e = 1) (hb : 1 ≤ Try.prog.bytesOf e)
    (h : DataW.Trod enc Try.prog W 0 (fun _ => true) true t (.slice a len cap) d p) (hw : ∀ n ∈ d.weights Try.prog t, n ≤ reachBytes) : len ≤ 281474976710656 := by
  obtain ⟨fuel, hf⟩ := h
  rcases open_ints ht he hc hf with ⟨hcs, hx⟩ | ⟨a', len', cap', zs, hcs, _, hl, hm, hzl, hx, hcell, hwz⟩
  · simp [Value.cells] at hcs
    obtain ⟨_, rfl, _⟩ := hcs
    omega
  · simp [Value.cells] at hcs
    obtain ⟨_, rfl, rfl⟩ := hcs
    simp at hzl
    have hd : d = .slice (lits .i64 (zs.take len)) (lits .i64 (zs.drop len)) := congrArg (·.1) hx
    have h1 := hw (((lits (H := H) .i64 (zs.take len)).length + (lits (H := H) .i64 (zs.drop len)).length) * Try.prog.bytesOf e) (by rw [hd]; simp [DataW.weights, ht])
    rw [lits_len, lits_len, List.length_take, List.length_drop] at h1
    have h2 : cap ≤ cap * Try.prog.bytesOf e := Nat.le_mul_of_pos_right _ hb
    have e1 : min len zs.length + (zs.length - len) = cap := by omega
    rw [e1] at h1
    have : reachBytes ≤ 281474976710656 := by decide
    omega
end Go.Proofs.Ytnfpommplokemaa
