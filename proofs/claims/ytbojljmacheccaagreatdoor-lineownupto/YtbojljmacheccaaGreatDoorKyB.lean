
import Derived.Test.YtbojljmacheccaaGreatDoorProg
import Derived.Test.YtbojljmacheccaaGreatDoorShelf
import Derived.Test.YtbojljmacheccaaGreatDoorKyA
import Derived.WalkKit
import Derived.Laws.BitsAllLaws
import Derived.BigQuiet
import Derived.Laws.OwnMore
import Derived.Deep.AppendLies
import Derived.OwnWalk
import Derived.LoopTactic
import Derived.Below
import Derived.Deep.RegionHeld3
import Derived.WalkLawsBesides
namespace Go.Proofs.YtbojljmacheccaaGreatDoor
open Go.RowKit
set_option linter.unusedVariables false
set_option linter.unusedSimpArgs false
/-- tags that lie in memory. -/
def TgIn (w : World) (a : Option Addr) (l : List TagP) : Prop := l = [] ∨ ∃ b off, a = some ⟨b, off, none⟩ ∧ b < w.heap.size ∧ ∀ i t, l[i]? = some t → w.cell? ⟨b, off + i * 2, none⟩ = some (.string t.1) ∧ w.cell? ⟨b, off + i * 2 + 1, none⟩ = some (.string t.2)
theorem TgIn.below {w w' : World} {a : Option Addr} {l : List TagP} (h : TgIn w a l) (hB : Below w.heap.size w w') : TgIn w' a l := by
  rcases h with h | ⟨b, off, ha, hb, hc⟩
  · exact Or.inl h
  · refine Or.inr ⟨b, off, ha, by have := hB.size; omega, fun i t ht => ?_⟩
    rw [hB.cell (p := ⟨b, off + i * 2, none⟩) hb, hB.cell (p := ⟨b, off + i * 2 + 1, none⟩) hb]
    exact hc i t ht
def tagV (t : TagP) : Value := .agg #[.string t.1, .string t.2]
theorem TgIn.at {w wr : World} {a : Option Addr} {l : List TagP} (h : TgIn w a l) (hB : Below w.heap.size w wr) {k : Nat} {t : TagP} (ht : l[k]? = some t) : ∃ b off, a = some ⟨b, off, none⟩ ∧ b < w.heap.size ∧ wr.cell? ⟨b, off + k * 2, none⟩ = some (.string t.1) ∧ wr.cell? ⟨b, off + k * 2 + 1, none⟩ = some (.string t.2) := by
  rcases h with h0 | ⟨b, off, e, hb, hc⟩
  · rw [h0] at ht; simp at ht
  · exact ⟨b, off, e, hb, by rw [hB.cell (p := ⟨b, off + k * 2, none⟩) hb]; exact (hc k t ht).1, by rw [hB.cell (p := ⟨b, off + k * 2 + 1, none⟩) hb]; exact (hc k t ht).2⟩
end Go.Proofs.YtbojljmacheccaaGreatDoor
