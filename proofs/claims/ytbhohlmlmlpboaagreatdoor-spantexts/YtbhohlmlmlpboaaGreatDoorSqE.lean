
import Derived.Test.YtbhohlmlmlpboaaGreatDoorSqD
import Derived.Test.YtbhohlmlmlpboaaGreatDoorSpLv
namespace Go.Proofs.YtbhohlmlmlpboaaGreatDoor
open Go.RowKit Go.Shelf
set_option linter.unusedVariables false
set_option linter.unusedSimpArgs false
set_option maxRecDepth 100000 in
theorem spanTexts_walk (n : Int) (hn : I64 n) (w : World) (h : SW w) : Calls Tryz.prog 4 #[.int .i64 n] w fun e w' => e = .returned (.bool true) ∧ Below w.heap.size w w' := by
  have L := fun W hW => slive_any W hW
  have P : Hid (∀ W, SW W → Calls Tryz.prog 11 #[.int .i64 n] W fun e w' => e = .returned (.string (B (textP n))) ∧ Below W.heap.size W w') := fun W hW => text_any n hn W hW.p hW.m
  have R : Hid (∀ W, SW W → Calls Tryz.prog 12 #[.int .i64 n] W fun e w' => e = .returned (.string (B (textP n))) ∧ Below W.heap.size W w') := fun W hW => rtext_any n hn W hW.p
  have HW : Hid (SW w) := h
  generalize B (textP n) = T at P R
  clear h
  go_enter Tryz.func4, Tryz.ntmps4
  go_wp2_with fail
  refine (L _ HW.out).mono ?_
  rintro e w1 ⟨rfl, B1⟩
  go_wp2_with fail
  refine (P.out _ (HW.out.below B1)).mono ?_
  rintro e w2 ⟨rfl, B2⟩
  have B2' := below_then B1 B2
  go_wp2_with fail
  refine (R.out _ (HW.out.below B2')).mono ?_
  rintro e w3 ⟨rfl, B3⟩
  have B3' := below_then B2' B3
  go_wp2_with fail
  go_ret
  exact ⟨rfl, B3'⟩
end Go.Proofs.YtbhohlmlmlpboaaGreatDoor
