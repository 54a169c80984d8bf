
import Derived.Test.YtbojljmacheccaaGreatDoorLwWq
import Derived.Test.YtbojljmacheccaaGreatDoorLwYq
import Derived.Test.YtbojljmacheccaaGreatDoorLaG
import Derived.Deep.LoopGhost
import Derived.Deep.Cut
import Derived.Deep.CutRange
import Derived.Deep.CutBlock
namespace Go.Proofs.YtbojljmacheccaaGreatDoor.Ln
open Go.RowKit Go.Shelf
attribute [local go_sem] Oper.semAt_some
set_option linter.unusedVariables false
set_option linter.unusedSimpArgs false
set_option maxRecDepth 100000
/-! ### the document's One. -/
theorem feed_next : ∀ (l : By) (i : Nat) (c : UInt8), feedAt (l.take i) = none → l[i]? = some c → c ≠ 10 → feedAt (l.take (i + 1)) = none := fun l i c h hc h10 => by
  rw [List.take_add_one, hc, feed_app]
  exact ⟨h, by rw [show (some c).toList = [c] from rfl, feed_cons]; exact ⟨h10, rfl⟩⟩
theorem feed_hit : ∀ (l : By) (i : Nat), feedAt (l.take i) = none → l[i]? = some 10 → feedAt l = some i
  | [], i, _, h => by simp at h
  | c :: r, 0, _, h => by
    simp at h; subst h
    show (if (10 : UInt8) = 10 then some 0 else _) = _
    rw [if_pos rfl]
  | c :: r, i + 1, h, hc => by
    rw [List.take_succ_cons, feed_cons] at h
    have ih := feed_hit r i h.2 (by simpa using hc)
    show (if c = 10 then some 0 else (feedAt r).map (· + 1)) = _
    rw [if_neg h.1, ih]; rfl
theorem feed_end (l : By) (i : Nat) (h : feedAt (l.take i) = none) (hl : l.length ≤ i) : feedAt l = none := by rw [List.take_of_length_le hl] at h; exact h
theorem bd_cells {W : World} {M : Nat} (h : W.heap[M]? = some bdO) : (W.cell? ⟨M, 0, none⟩ = some (.int .i64 0) ∧ W.cell? ⟨M, 1, none⟩ = some (.int .i64 0) ∧ W.cell? ⟨M, 2, none⟩ = some (.int .i64 0) ∧ W.cell? ⟨M, 3, none⟩ = some (.bool false) ∧ W.cell? ⟨M, 4, none⟩ = some (.bool false)) ∧ W.frozen? ⟨M, 0, none⟩ = false ∧ W.frozen? ⟨M, 1, none⟩ = false ∧ W.frozen? ⟨M, 2, none⟩ = false ∧ W.frozen? ⟨M, 3, none⟩ = false ∧ W.frozen? ⟨M, 4, none⟩ = false := by
  refine ⟨⟨?_, ?_, ?_, ?_, ?_⟩, ?_, ?_, ?_, ?_, ?_⟩ <;> simp [World.cell?, World.frozen?, h, bdO]
end Go.Proofs.YtbojljmacheccaaGreatDoor.Ln
