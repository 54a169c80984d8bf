
import Derived.Lib.Bytealg
import Derived.WalkLawsBesides
namespace Go.Proofs.YtbojljmacheccaaGreatDoor
open Go.RowKit
set_option linter.unusedVariables false
set_option linter.unusedSimpArgs false
/-- an order told by -1, 0, 1. -/
structure IsCmp {α : Type} (c : α → α → Int) : Prop where
  range : ∀ a b, c a b = -1 ∨ c a b = 0 ∨ c a b = 1
  flip : ∀ a b, c b a = - c a b
  zero : ∀ a b, c a b = 0 ↔ a = b
  trans : ∀ a b d, c a b ≤ 0 → c b d ≤ 0 → c a d ≤ 0
theorem IsCmp.lt {α : Type} {c : α → α → Int} (h : IsCmp c) {a b d : α} (h1 : c a b < 0) (h2 : c b d ≤ 0) : c a d < 0 := by
  have h3 := h.trans a b d (by omega) h2
  rcases h.range a d with e | e | e
  · omega
  · have := (h.zero a d).1 e
    subst this
    have := h.flip a b
    omega
  · omega
abbrev TagP := ByteArray × ByteArray
end Go.Proofs.YtbojljmacheccaaGreatDoor
