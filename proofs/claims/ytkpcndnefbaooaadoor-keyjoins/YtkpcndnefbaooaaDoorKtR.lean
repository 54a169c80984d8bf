
import Derived.Test.YtkpcndnefbaooaaDoorKqR
import Derived.Test.YtkpcndnefbaooaaDoorKtA
import Derived.Deep.Strs
namespace Go.Proofs.YtkpcndnefbaooaaDoor
open Go.ChangeShapes Go.WideShapes Go.ChangeAt Go.RowKit
set_option linter.unusedVariables false
set_option maxRecDepth 100000 in
/-- texts, as they are read. -/
theorem strs_read {H : Type} {enc : TypeId × Value → H} {W : World} {v : Value} {y : DataW H × List MemPlace} {fuel : Nat}
    (hf : DataW.trod enc Tryd.prog W 0 (fun _ => true) true fuel 23 [v] = some y) :
    ∃ a l cap, v = .slice a l.length cap ∧ StIn W a l ∧ l.length ≤ 9223372036854775807 := by
  rcases Go.Deep.open_strs Tryd.underlying23 Tryd.underlying9 (by kernel_rfl) hf with ⟨hcs, hx⟩ | ⟨a, len, cap, m, Sx, hcs, _, hl, hm, hmeq, hx, hall⟩
  · simp at hcs
    subst hcs
    exact ⟨none, [], 0, rfl, Or.inl rfl, by simp⟩
  · simp at hcs
    subst hcs
    simp only [if_true] at hmeq
    have hml : len ≤ 9223372036854775807 := by have : maxLen = 9223372036854775807 := rfl; omega
    refine ⟨some a, (List.range len).map Sx, cap, by simp, ?_, by simpa using hml⟩
    rcases Nat.eq_zero_or_pos len with h0 | h0
    · subst h0; exact Or.inl rfl
    · right
      obtain ⟨b, off, spot⟩ := a
      have hspot : spot = none := by simpa [Addr.add] using World.cell?_spot (hall 0 (by omega)).1
      subst hspot
      refine ⟨b, off, rfl, ?_, fun i t ht => ?_⟩
      · have h' := (hall 0 (by omega)).1
        rw [Go.WideShapes.add_plain] at h'
        rcases Nat.lt_or_ge b W.heap.size with h2 | h2
        · exact h2
        · simp [World.cell?, Array.getElem?_eq_none h2] at h'
      · have hi : i < len := by
          have := (List.getElem?_eq_some_iff.1 ht).1
          simpa using this
        have et : t = Sx i := by
          rw [List.getElem?_map, List.getElem?_range hi] at ht
          simpa using ht.symm
        subst et
        have c0 := (hall i (by omega)).1
        rw [Go.WideShapes.add_plain] at c0
        exact c0
set_option maxRecDepth 100000 in
/-- what texts weigh bounds how many there are. -/
theorem strs_small {H : Type} {enc : TypeId × Value → H} {W : World} {a : Option Addr} {n cap : Nat} {y : DataW H × List MemPlace} {fuel : Nat}
    (hf : DataW.trod enc Tryd.prog W 0 (fun _ => true) true fuel 23 [.slice a n cap] = some y) (hw : ∀ k ∈ y.1.weights Tryd.prog 23, k ≤ reachBytes) : n ≤ 8796093022208 := by
  rcases Go.Deep.open_strs Tryd.underlying23 Tryd.underlying9 (by kernel_rfl) hf with ⟨hcs, hx⟩ | ⟨a', len, cap', m, Sx, hcs, _, hl, hm, hmeq, hx, hall⟩
  · simp at hcs
    omega
  · simp at hcs
    obtain ⟨_, rfl, rfl⟩ := hcs
    have hd : y.1 = .slice ((List.range n).map fun i => .lit (.string (Sx i).data.toList)) ((List.range (m - n)).map fun j => .lit (.string (Sx (n + j)).data.toList)) := congrArg (·.1) hx
    have hb : Tryd.prog.bytesOf 9 = 16 := by kernel_rfl
    have h1 := hw ((((List.range n).map fun i => (DataW.lit (.string (Sx i).data.toList) : DataW H)).length + ((List.range (m - n)).map fun j => (DataW.lit (.string (Sx (n + j)).data.toList) : DataW H)).length) * Tryd.prog.bytesOf 9) (by rw [hd]; simp [DataW.weights, Tryd.underlying23])
    rw [hb, List.length_map, List.length_map, List.length_range, List.length_range] at h1
    have : reachBytes = 140737488351232 := by decide
    omega
end Go.Proofs.YtkpcndnefbaooaaDoor
