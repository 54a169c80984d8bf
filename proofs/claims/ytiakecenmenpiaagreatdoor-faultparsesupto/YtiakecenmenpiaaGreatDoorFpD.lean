
import Derived.Test.YtiakecenmenpiaaGreatDoorFpC
import Derived.Test.YtiakecenmenpiaaGreatDoorFpD0
namespace Go.Proofs.YtiakecenmenpiaaGreatDoor
open Go.RowKit
set_option linter.unusedVariables false
set_option linter.unusedSimpArgs false
def fI (l : List (Bool × Int)) : Option Int := (findK true l).map (·.1)
def fA (l : List (Bool × Int)) : Option Int := (findK false l).map (·.1)
theorem lab_len (word : List UInt8) (o : Option Int) (ho : OkI o) : (lab word o).length ≤ word.length + 23 := by
  cases o with
  | none => simp [lab]
  | some n => have := itoa_len n (ho n rfl).1 (ho n rfl).2; simp [lab, csp]; omega
theorem indexV (l : List (Bool × Int)) (c : Int) (w : World) (hg : ET w) : Calls Tryz.prog 23 #[errV l c] w fun e w' => e = .returned (.tuple #[.int .i64 ((fI l).getD 0), .bool (fI l).isSome]) ∧ Below w.heap.size w w' := by
  have h := index_chain l c w hg
  rw [show (findK true l).isSome = (fI l).isSome by unfold fI; simp] at h
  exact h
theorem placeV (l : List (Bool × Int)) (c : Int) (w : World) (hg : ET w) : Calls Tryz.prog 25 #[errV l c] w fun e w' => e = .returned (.tuple #[.int .i64 ((fA l).getD 0), .bool (fA l).isSome]) ∧ Below w.heap.size w w' := by
  have h := place_chain l c w hg
  rw [show (findK false l).isSome = (fA l).isSome by unfold fA; simp] at h
  exact h
end Go.Proofs.YtiakecenmenpiaaGreatDoor
