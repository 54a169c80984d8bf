import Derived.Test.YtncddkgdkooigaaDoorChainF
import Derived.Deep.RegionWith
namespace Go.Proofs.YtncddkgdkooigaaDoor
open Go.RowKit
set_option linter.unusedVariables false
set_option linter.unusedSimpArgs false

/-! ### fault.New, At, In, and the document's, at a number that is none and at any other -/
theorem new_zero (w : World) : Calls Tryd.prog 11 #[.int .i64 0] w fun e w' => e = .returned .nilIface ∧ w' = w := by
  go_enter Tryd.func11, Tryd.ntmps11
  go_wp2
  go_ret
  exact ⟨rfl, rfl⟩
theorem at_zero (p : Int) (w : World) : Calls Tryd.prog 13 #[.int .i64 p, .int .i64 0] w fun e w' => e = .returned .nilIface ∧ w' = w := by
  go_enter Tryd.func13, Tryd.ntmps13
  go_wp2
  go_ret
  exact ⟨rfl, rfl⟩
theorem in_nil (i : Int) (w : World) : Calls Tryd.prog 15 #[.int .i64 i, .nilIface] w fun e w' => e = .returned .nilIface ∧ w' = w := by
  go_enter Tryd.func15, Tryd.ntmps15
  go_wp2
  go_ret
  exact ⟨rfl, rfl⟩
theorem in_chain (i : Int) (l : List (Bool × Int)) (c : Int) (w : World) : Calls Tryd.prog 15 #[.int .i64 i, errV l c] w fun e w' => e = .returned (errV ((true, i) :: l) c) ∧ w' = w := by
  have enn := errV_notnil l c
  have egd := errV_guard l c
  have eon := errV_one l c
  rcases l with _ | ⟨⟨k, n⟩, l⟩
  · go_enter Tryd.func15, Tryd.ntmps15
    simp only [errV] at *
    go_wp2
    go_ret
    exact ⟨rfl, rfl⟩
  · cases k
    all_goals
      go_enter Tryd.func15, Tryd.ntmps15
      simp only [errV] at *
      go_wp2
      go_ret
      exact ⟨rfl, rfl⟩
theorem refnew (c : Int) (w : World) : Calls Tryd.prog 12 #[.int .i64 c] w fun e w' => e = .returned (.agg #[.int .i64 c, .int .i64 0, .int .i64 0, .bool false, .bool false]) ∧ Below w.heap.size w w' := by
  go_enter Tryd.func12, Tryd.ntmps12
  go_wp2
  simp [bodyPost, results, Tryd.results12, go_sem]
  exact below_new (Below.refl _ _) _
theorem refat_zero (p : Int) (w : World) : Calls Tryd.prog 14 #[.int .i64 p, .int .i64 0] w fun e w' => e = .returned (.agg #[.int .i64 0, .int .i64 0, .int .i64 0, .bool false, .bool false]) ∧ Below w.heap.size w w' := by
  go_enter Tryd.func14, Tryd.ntmps14
  go_wp2
  simp [bodyPost, results, Tryd.results14, go_sem]
  all_goals first | exact below_new (Below.refl _ _) _ | exact Below.refl _ _
theorem refin_zero (i : Int) (A I : Int) (P Q : Bool) (w : World) : Calls Tryd.prog 16 #[.int .i64 i, .agg #[.int .i64 0, .int .i64 A, .int .i64 I, .bool P, .bool Q]] w fun e w' => e = .returned (.agg #[.int .i64 0, .int .i64 0, .int .i64 0, .bool false, .bool false]) ∧ Below w.heap.size w w' := by
  go_enter Tryd.func16, Tryd.ntmps16
  go_wp2
  simp [bodyPost, results, Tryd.results16, go_sem]
  all_goals first | exact below_new (Below.refl _ _) _ | exact below_new (below_new (Below.refl _ _) _) _
theorem refin_any (i c : Int) (h : (c == 0) = false) (A I : Int) (P Q : Bool) (w : World) : Calls Tryd.prog 16 #[.int .i64 i, .agg #[.int .i64 c, .int .i64 A, .int .i64 I, .bool P, .bool Q]] w fun e w' => e = .returned (.agg #[.int .i64 c, .int .i64 A, .int .i64 i, .bool P, .bool true]) ∧ Below w.heap.size w w' := by
  go_enter Tryd.func16, Tryd.ntmps16
  go_wp2
  simp [bodyPost, results, Tryd.results16, go_sem]
  exact below_new (below_new (Below.refl _ _) _) _
end Go.Proofs.YtncddkgdkooigaaDoor
