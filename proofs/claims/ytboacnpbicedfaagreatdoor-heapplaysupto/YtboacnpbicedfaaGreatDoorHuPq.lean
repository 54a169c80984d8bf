
import Derived.Test.YtboacnpbicedfaaGreatDoorByJ
import Derived.Test.YtboacnpbicedfaaGreatDoorSameDq
namespace Go.Proofs.YtboacnpbicedfaaGreatDoor.Hp
open Go.RowKit Go.Maps
set_option linter.unusedVariables false
set_option linter.unusedSimpArgs false
set_option maxRecDepth 100000
/-- both tell no error. -/
theorem same_none (w : World) : Calls Tryz.prog 11 #[.nilIface, bV 0] w fun e w' => e = .returned (.bool true) ∧ Below w.heap.size w w' := by
  unfold bV
  go_enter Tryz.func11, Tryz.ntmps11
  go_wp2_with fail
  go_ret
  exact ⟨rfl, by first | exact (Below.refl _ w).alloc (Nat.le_refl _) _ | exact ((((Below.refl _ w).alloc (Nat.le_refl _) _).alloc (by simp) _).alloc (by simp) _).alloc (by simp) _⟩
/-- both tell an error of a number. -/
theorem same_num (c : Int) (hc : (c == 0) = false) (w : World) (hg : ET w) : Calls Tryz.prog 11 #[.iface 41 (.int .i64 c), bV c] w fun e w' => e = .returned (.bool true) ∧ Below w.heap.size w w' := by
  have := sameC_miss_miss [] c hc rfl rfl w hg
  unfold errV at this
  exact this
/-- both tell which entry was known. -/
theorem same_in (j : Int) (w : World) (hg : ET w) : Calls Tryz.prog 11 #[.iface 71 (.agg #[.int .i64 j, .iface 41 (.int .i64 5)]), .agg #[.int .i64 5, .int .i64 0, .int .i64 j, .bool false, .bool true]] w fun e w' => e = .returned (.bool true) ∧ Below w.heap.size w w' := by
  have := sameC_miss_hit [(true, j)] 5 (by decide) rfl j [] rfl w hg
  unfold errV errV at this
  exact this
end Go.Proofs.YtboacnpbicedfaaGreatDoor.Hp
