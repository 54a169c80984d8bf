
import Derived.Test.YtiakecenmenpiaaGreatDoorChainF
import Derived.Deep.RegionWith
namespace Go.Proofs.YtiakecenmenpiaaGreatDoor
open Go.RowKit
set_option linter.unusedVariables false
set_option linter.unusedSimpArgs false

/-! ### fault.New, At, In, and the document's, at a number that is none and at any other -/
theorem new_zero (w : World) : Calls Tryz.prog 10 #[.int .i64 0] w fun e w' => e = .returned .nilIface ∧ w' = w := by
  go_enter Tryz.func10, Tryz.ntmps10
  go_wp2
  go_ret
  exact ⟨rfl, rfl⟩
theorem at_zero (p : Int) (w : World) : Calls Tryz.prog 15 #[.int .i64 p, .int .i64 0] w fun e w' => e = .returned .nilIface ∧ w' = w := by
  go_enter Tryz.func15, Tryz.ntmps15
  go_wp2
  go_ret
  exact ⟨rfl, rfl⟩
theorem in_nil (i : Int) (w : World) : Calls Tryz.prog 21 #[.int .i64 i, .nilIface] w fun e w' => e = .returned .nilIface ∧ w' = w := by
  go_enter Tryz.func21, Tryz.ntmps21
  go_wp2
  go_ret
  exact ⟨rfl, rfl⟩
theorem in_chain (i : Int) (l : List (Bool × Int)) (c : Int) (w : World) : Calls Tryz.prog 21 #[.int .i64 i, errV l c] w fun e w' => e = .returned (errV ((true, i) :: l) c) ∧ w' = w := by
  have enn := errV_notnil l c
  have egd := errV_guard l c
  have eon := errV_one l c
  rcases l with _ | ⟨⟨k, n⟩, l⟩
  · go_enter Tryz.func21, Tryz.ntmps21
    simp only [errV] at *
    go_wp2
    go_ret
    exact ⟨rfl, rfl⟩
  · cases k
    all_goals
      go_enter Tryz.func21, Tryz.ntmps21
      simp only [errV] at *
      go_wp2
      go_ret
      exact ⟨rfl, rfl⟩
theorem refnew (c : Int) (w : World) : Calls Tryz.prog 14 #[.int .i64 c] w fun e w' => e = .returned (.agg #[.int .i64 c, .int .i64 0, .int .i64 0, .bool false, .bool false]) ∧ Below w.heap.size w w' := by
  go_enter Tryz.func14, Tryz.ntmps14
  go_wp2
  simp [bodyPost, results, Tryz.results14, go_sem]
  exact below_new (Below.refl _ _) _
theorem refat_zero (p : Int) (w : World) : Calls Tryz.prog 16 #[.int .i64 p, .int .i64 0] w fun e w' => e = .returned (.agg #[.int .i64 0, .int .i64 0, .int .i64 0, .bool false, .bool false]) ∧ Below w.heap.size w w' := by
  go_enter Tryz.func16, Tryz.ntmps16
  go_wp2
  simp [bodyPost, results, Tryz.results16, go_sem]
  all_goals first | exact below_new (Below.refl _ _) _ | exact Below.refl _ _
end Go.Proofs.YtiakecenmenpiaaGreatDoor
