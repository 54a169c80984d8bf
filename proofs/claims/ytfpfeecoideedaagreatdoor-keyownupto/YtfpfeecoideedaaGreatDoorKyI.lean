
import Derived.Test.YtfpfeecoideedaaGreatDoorKyH
import Derived.RangeFuncNested
import Derived.RangeFuncBound
import Derived.RangeFuncCalls
import Derived.RangeFuncLeaves
import Derived.Shelf.Abstract
import Derived.Shelf.RegionOpen
import Derived.OwnWalkIn
import Derived.TacticsInMore
import Derived.LoopNIn
import Derived.LoopIn
namespace Go.Proofs.YtfpfeecoideedaaGreatDoor
open Go.RowKit Go.Shelf
attribute [local go_sem] Oper.semAt_some
set_option linter.unusedVariables false
set_option linter.unusedSimpArgs false
def mkS : ByteArray := ⟨#[44, 32, 61, 92]⟩
/-- strings.IndexAny tells the first mark of a text. -/
def MkOk (t : ByteArray) : Prop := ∀ W, Calls Tryz.prog 117 #[.string t, .string ⟨#[44, 32, 61, 92]⟩] W fun e w' => e = .returned (.int .i64 (idxM t.data.toList)) ∧ Below W.heap.size W w'
theorem mk_ascii (t : ByteArray) (h : t.size < 4294967281) (ha : ∀ (j : Nat) b, t.data.toList[j]? = some b → b.toNat < 128) : MkOk t := fun W => by
  refine Tryz.strings_IndexAny_laid t ⟨#[44, 32, 61, 92]⟩ W h (by decide) ha ?_
  intro j b hb
  have : b ∈ mkL := List.mem_of_getElem? hb
  simp [mkL] at this
  rcases this with rfl | rfl | rfl | rfl <;> decide
set_option maxRecDepth 100000 in
theorem isMark_any (t : ByteArray) (h : MkOk t) (w : World) : Calls Tryz.prog 94 #[.string t] w fun e w' => e = .returned (.bool (decide (0 ≤ idxM t.data.toList))) ∧ Below w.heap.size w w' := by
  have c : Hid (∀ W, Calls Tryz.prog 117 #[.string t, .string ⟨#[44, 32, 61, 92]⟩] W fun e w' => e = .returned (.int .i64 (idxM t.data.toList)) ∧ Below W.heap.size W w') := h
  generalize idxM t.data.toList = i at c ⊢
  have d : Hid (∀ W, Calls Tryz.prog 118 #[.string t, .string ⟨#[44, 32, 61, 92]⟩] W fun e w' => e = .returned (.bool (decide (0 ≤ i))) ∧ Below W.heap.size W w') := by
    intro W
    go_enter Tryz.func118, Tryz.ntmps118
    go_wp2_with (go_at_call 117; with_reducible refine Calls.mono (c.out _) ?_; rintro e w' ⟨rfl, hb⟩)
    go_ret
    exact ⟨rfl, hb⟩
  clear c h
  go_enter Tryz.func94, Tryz.ntmps94
  go_wp2_with (go_at_call 118; with_reducible refine Calls.mono (d.out _) ?_; rintro e w' ⟨rfl, hb⟩)
  go_ret
  exact ⟨rfl, hb⟩
set_option maxRecDepth 100000 in
theorem pieces_any (s : ByteArray) (w : World) : Calls Tryz.prog 93 #[.string s] w fun e w' => e = .returned (.func (.func 116) #[] #[.pointer (some ⟨w.heap.size, 0, none⟩)]) ∧ w' = w.alloc (.cells #[.string s] 9) := by
  go_enter Tryz.func93, Tryz.ntmps93
  go_wp2_with fail
  go_ret
  exact ⟨rfl, rfl⟩
end Go.Proofs.YtfpfeecoideedaaGreatDoor
