
import Derived.Test.YteckdodmddmijaaGreatDoorProg
import Derived.Test.YteckdodmddmijaaGreatDoorShelf
import Derived.Test.YteckdodmddmijaaGreatDoorKyA
import Derived.WalkKit
import Derived.Laws.BitsAllLaws
import Derived.BigQuiet
import Derived.Laws.OwnMore
import Derived.Deep.AppendLies
import Derived.OwnWalk
import Derived.LoopTactic
import Derived.Below
import Derived.Deep.RegionHeld3
import Derived.WalkLawsBesides
namespace Go.Proofs.YteckdodmddmijaaGreatDoor
open Go.RowKit
set_option linter.unusedVariables false
set_option linter.unusedSimpArgs false
/-- tags that lie in memory. -/
def TgIn (w : World) (a : Option Addr) (l : List TagP) : Prop := l = [] ∨ ∃ b off, a = some ⟨b, off, none⟩ ∧ b < w.heap.size ∧ ∀ i t, l[i]? = some t → w.cell? ⟨b, off + i * 2, none⟩ = some (.string t.1) ∧ w.cell? ⟨b, off + i * 2 + 1, none⟩ = some (.string t.2)
theorem TgIn.below {w w' : World} {a : Option Addr} {l : List TagP} (h : TgIn w a l) (hB : Below w.heap.size w w') : TgIn w' a l := by
  rcases h with h | ⟨b, off, ha, hb, hc⟩
  · exact Or.inl h
  · refine Or.inr ⟨b, off, ha, by have := hB.size; omega, fun i t ht => ?_⟩
    rw [hB.cell (p := ⟨b, off + i * 2, none⟩) hb, hB.cell (p := ⟨b, off + i * 2 + 1, none⟩) hb]
    exact hc i t ht
def tagV (t : TagP) : Value := .agg #[.string t.1, .string t.2]
def twoT (w : World) (a1 a2 b1 b2 : ByteArray) : World := (w.alloc (.cells #[.string a1, .string a2] 103)).alloc (.cells #[.string b1, .string b2] 103)
theorem twoT_below (w : World) (a1 a2 b1 b2 : ByteArray) : Below w.heap.size w (twoT w a1 a2 b1 b2) := ((Below.refl _ w).alloc (Nat.le_refl _) _).alloc (by simp) _
theorem lexC_step {l m : List TagP} {k : Nat} {t u : TagP} (ht : l[k]? = some t) (hu : m[k]? = some u) : lexC tagC (l.drop k) (m.drop k) = if tagC t u = 0 then lexC tagC (l.drop (k + 1)) (m.drop (k + 1)) else tagC t u := by
  obtain ⟨h1, rfl⟩ := List.getElem?_eq_some_iff.1 ht
  obtain ⟨h2, rfl⟩ := List.getElem?_eq_some_iff.1 hu
  rw [List.drop_eq_getElem_cons h1, List.drop_eq_getElem_cons h2]
  rfl
theorem lexC_ends {l m : List TagP} {k : Nat} (h : l.length ≤ k ∨ m.length ≤ k) (hl : k ≤ l.length) (hm : k ≤ m.length) : lexC tagC (l.drop k) (m.drop k) = if l.length < m.length then -1 else if m.length < l.length then 1 else 0 := by
  by_cases h1 : l.length ≤ k
  · have : l.drop k = [] := List.drop_eq_nil_of_le h1
    rw [this]
    by_cases h2 : m.length ≤ k
    · rw [List.drop_eq_nil_of_le h2, if_neg (by omega), if_neg (by omega)]; rfl
    · rw [List.drop_eq_getElem_cons (by omega), if_pos (by omega)]; rfl
  · have h2 : m.length ≤ k := by omega
    rw [List.drop_eq_nil_of_le h2, List.drop_eq_getElem_cons (by omega), if_neg (by omega), if_pos (by omega)]; rfl
theorem TgIn.at {w wr : World} {a : Option Addr} {l : List TagP} (h : TgIn w a l) (hB : Below w.heap.size w wr) {k : Nat} {t : TagP} (ht : l[k]? = some t) : ∃ b off, a = some ⟨b, off, none⟩ ∧ b < w.heap.size ∧ wr.cell? ⟨b, off + k * 2, none⟩ = some (.string t.1) ∧ wr.cell? ⟨b, off + k * 2 + 1, none⟩ = some (.string t.2) := by
  rcases h with h0 | ⟨b, off, e, hb, hc⟩
  · rw [h0] at ht; simp at ht
  · exact ⟨b, off, e, hb, by rw [hB.cell (p := ⟨b, off + k * 2, none⟩) hb]; exact (hc k t ht).1, by rw [hB.cell (p := ⟨b, off + k * 2 + 1, none⟩) hb]; exact (hc k t ht).2⟩
end Go.Proofs.YteckdodmddmijaaGreatDoor
