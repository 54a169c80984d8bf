
import Derived.Test.YtiakecenmenpiaaDoorChainF
import Derived.Deep.RegionWith
namespace Go.Proofs.YtiakecenmenpiaaDoor
open Go.RowKit
set_option linter.unusedVariables false
set_option linter.unusedSimpArgs false

/-! ### fault.New, At, In, and the document's, at a number that is none and at any other -/
theorem new_zero (w : World) : Calls Tryd.prog 13 #[.int .i64 0] w fun e w' => e = .returned .nilIface ∧ w' = w := by
  go_enter Tryd.func13, Tryd.ntmps13
  go_wp2
  go_ret
  exact ⟨rfl, rfl⟩
theorem at_zero (p : Int) (w : World) : Calls Tryd.prog 5 #[.int .i64 p, .int .i64 0] w fun e w' => e = .returned .nilIface ∧ w' = w := by
  go_enter Tryd.func5, Tryd.ntmps5
  go_wp2
  go_ret
  exact ⟨rfl, rfl⟩
theorem in_nil (i : Int) (w : World) : Calls Tryd.prog 4 #[.int .i64 i, .nilIface] w fun e w' => e = .returned .nilIface ∧ w' = w := by
  go_enter Tryd.func4, Tryd.ntmps4
  go_wp2
  go_ret
  exact ⟨rfl, rfl⟩
theorem in_chain (i : Int) (l : List (Bool × Int)) (c : Int) (w : World) : Calls Tryd.prog 4 #[.int .i64 i, errV l c] w fun e w' => e = .returned (errV ((true, i) :: l) c) ∧ w' = w := by
  have enn := errV_notnil l c
  have egd := errV_guard l c
  have eon := errV_one l c
  rcases l with _ | ⟨⟨k, n⟩, l⟩
  · go_enter Tryd.func4, Tryd.ntmps4
    simp only [errV] at *
    go_wp2
    go_ret
    exact ⟨rfl, rfl⟩
  · cases k
    all_goals
      go_enter Tryd.func4, Tryd.ntmps4
      simp only [errV] at *
      go_wp2
      go_ret
      exact ⟨rfl, rfl⟩
theorem refat_zero (p : Int) (w : World) : Calls Tryd.prog 20 #[.int .i64 p, .int .i64 0] w fun e w' => e = .returned (.agg #[.int .i64 0, .int .i64 0, .int .i64 0, .bool false, .bool false]) ∧ Below w.heap.size w w' := by
  go_enter Tryd.func20, Tryd.ntmps20
  go_wp2
  simp [bodyPost, results, Tryd.results20, go_sem]
  all_goals first | exact below_new (Below.refl _ _) _ | exact Below.refl _ _
end Go.Proofs.YtiakecenmenpiaaDoor
