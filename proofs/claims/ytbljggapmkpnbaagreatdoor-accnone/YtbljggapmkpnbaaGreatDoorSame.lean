
import Derived.Test.YtbljggapmkpnbaaGreatDoorAsM
import Derived.Test.YtbljggapmkpnbaaGreatDoorBase
import Derived.Deep.RegionWith
namespace Go.Proofs.YtbljggapmkpnbaaGreatDoor
open Go.RowKit
set_option linter.unusedVariables false

/-- an error of a number alone, as the document tells it. -/
def badV (c : Int) : Value := .agg #[.int .i64 c, .int .i64 0, .int .i64 0, .bool false, .bool false]

/-- errors.As(an Errno, &at or &in): it is not found. -/
theorem as_miss (c : Int) (PT : TypeId) (t : Addr) (w : World) (hP : PT = 86 ∨ PT = 87) (hg : ET w) :
    Calls Tryz.prog 31 #[.iface 59 (.int .i64 c), .iface PT (.pointer (some t))] w fun ev w' => ev = .returned (.bool false) ∧ ∃ c1 c2 c3 : Obj, w' = ((w.alloc c1).alloc c2).alloc c3 := by
  rcases hP with rfl | rfl
  · refine (as_EA c t w hg).mono ?_
    rintro e w' ⟨rfl, rfl⟩
    exact ⟨rfl, _, _, _, rfl⟩
  · refine (as_EI c t w hg).mono ?_
    rintro e w' ⟨rfl, rfl⟩
    exact ⟨rfl, _, _, _, rfl⟩

set_option maxRecDepth 100000 in
set_option maxHeartbeats 2000000 in
theorem same_err (c : Int) (hc : (c == 0) = false) (w : World) (hg : ET w) : Calls Tryz.prog 19 #[.iface 59 (.int .i64 c), .agg #[.int .i64 c, .int .i64 0, .int .i64 0, .bool false, .bool false]] w fun e w' => e = .returned (.bool true) ∧ Below w.heap.size w w' := by
  have hgA : ∀ o1 o2 o3 o4, ET ((((w.alloc o1).alloc o2).alloc o3).alloc o4) := fun o1 o2 o3 o4 => ET_alloc (ET_alloc (ET_alloc (ET_alloc hg _) _) _) _
  go_enter Tryz.func19, Tryz.ntmps19
  go_wp2_with fail
  refine (as_EE c ⟨w.heap.size + 1, 0, none⟩ (.int .i64 0) _ (hgA _ _ _ _) (by simp [go_sem, World.cell?_alloc_past]) (by simp [go_sem])).mono ?_
  rintro ev w1 ⟨rfl, rfl⟩
  go_wp2_with fail
  go_region_with (first | (go_at_call 31; refine (as_miss c _ _ _ ?_ ?_).mono ?_; (first | exact Or.inl rfl | exact Or.inr rfl); (repeat (first | with_reducible exact hg | with_reducible apply ET_drew | with_reducible apply ET_alloc)); rintro ev w1 ⟨rfl, o1, o2, o3, rfl⟩))
  all_goals
    go_wp2
    go_ret
    refine ⟨rfl, ?_⟩
    repeat (first | with_reducible exact Below.refl _ _ | with_reducible apply Below.drew | with_reducible apply below_new)

end Go.Proofs.YtbljggapmkpnbaaGreatDoor
