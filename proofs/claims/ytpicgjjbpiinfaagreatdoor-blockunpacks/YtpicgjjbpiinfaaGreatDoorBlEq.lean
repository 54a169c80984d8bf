
import Derived.Test.YtpicgjjbpiinfaaGreatDoorBuJ
namespace Go.Proofs.YtpicgjjbpiinfaaGreatDoor
open Go.RowKit
set_option linter.unusedVariables false
set_option linter.unusedSimpArgs false
/-- what is added to a turn. -/
def addC (d : Int) : Int := if d = 0 then 0 else if -63 ≤ d ∧ d ≤ 64 then 63 else if -255 ≤ d ∧ d ≤ 256 then 255 else if -2047 ≤ d ∧ d ≤ 2048 then 2047 else 0
theorem addC_eq (d : Int) (hd : -9223372036854775808 ≤ d ∧ d ≤ 9223372036854775807) : IntKind.u64.wrap (wrap64 (d + addC d)) = ((turnC d : Nat) : Int) := by
  rw [IntKind.wrap_u64]
  unfold addC turnC wrap64
  repeat' split <;> try omega
theorem turnC_lt (d : Int) : turnC d < 18446744073709551616 := by unfold turnC; repeat' split <;> try omega
theorem turnB_le (d : Int) : turnB d ≤ 4 := by unfold turnB; repeat' split <;> try omega
theorem turnD_le (d : Int) : turnD d ≤ 64 := by unfold turnD; repeat' split <;> try omega
theorem turnA_lt (d : Int) : turnA d < 100 := by unfold turnA; repeat' split <;> try omega
theorem broughtN_nat (k : Nat) (h : k ≤ 64) : broughtN (k : Int) = k := by unfold broughtN; rw [if_neg (by omega), if_neg (by omega)]; omega
set_option maxRecDepth 100000 in
set_option maxHeartbeats 2000000 in
theorem class_any (d : Int) (w : World) : Calls Tryz.prog 67 #[.int .i64 d] w fun e w' => e = .returned (.tuple #[.int .u64 (turnA d : Int), .int .i64 (turnB d : Int), .int .i64 (addC d), .int .i64 (turnD d : Int)]) ∧ w' = w := by
  by_cases e0 : d = 0
  · rw [show turnA d = 0 by unfold turnA; rw [if_pos e0], show turnB d = 1 by unfold turnB; rw [if_pos e0], show addC d = 0 by unfold addC; rw [if_pos e0], show turnD d = 0 by unfold turnD; rw [if_pos e0]]
    subst e0
    go_enter Tryz.func67, Tryz.ntmps67
    go_wp2_with fail
    simp [bodyPost, results, Tryz.results67, go_sem]
  by_cases e1 : -63 ≤ d ∧ d ≤ 64
  · rw [show turnA d = 2 by unfold turnA; rw [if_neg e0, if_pos e1], show turnB d = 2 by unfold turnB; rw [if_neg e0, if_pos e1], show addC d = 63 by unfold addC; rw [if_neg e0, if_pos e1], show turnD d = 7 by unfold turnD; rw [if_neg e0, if_pos e1]]
    obtain ⟨c1, c2⟩ := e1
    all_goals first
      | (exfalso; omega)
      | (go_enter Tryz.func67, Tryz.ntmps67; go_wp2_with fail; all_goals first | (exfalso; omega) | (simp [bodyPost, results, Tryz.results67, go_sem]; done))
  by_cases e2 : -255 ≤ d ∧ d ≤ 256
  · rw [show turnA d = 6 by unfold turnA; rw [if_neg e0, if_neg e1, if_pos e2], show turnB d = 3 by unfold turnB; rw [if_neg e0, if_neg e1, if_pos e2], show addC d = 255 by unfold addC; rw [if_neg e0, if_neg e1, if_pos e2], show turnD d = 9 by unfold turnD; rw [if_neg e0, if_neg e1, if_pos e2]]
    have f1 : d < -63 ∨ 64 < d := by omega
    obtain ⟨c1, c2⟩ := e2
    clear e1
    rcases f1 with f1 | f1
    all_goals first
      | (exfalso; omega)
      | (go_enter Tryz.func67, Tryz.ntmps67; go_wp2_with fail; all_goals first | (exfalso; omega) | (simp [bodyPost, results, Tryz.results67, go_sem]; done))
  by_cases e3 : -2047 ≤ d ∧ d ≤ 2048
  · rw [show turnA d = 14 by unfold turnA; rw [if_neg e0, if_neg e1, if_neg e2, if_pos e3], show turnB d = 4 by unfold turnB; rw [if_neg e0, if_neg e1, if_neg e2], show addC d = 2047 by unfold addC; rw [if_neg e0, if_neg e1, if_neg e2, if_pos e3], show turnD d = 12 by unfold turnD; rw [if_neg e0, if_neg e1, if_neg e2, if_pos e3]]
    have f1 : d < -63 ∨ 64 < d := by omega
    have f2 : d < -255 ∨ 256 < d := by omega
    obtain ⟨c1, c2⟩ := e3
    clear e1 e2
    rcases f1 with f1 | f1
    all_goals rcases f2 with f2 | f2
    all_goals first
      | (exfalso; omega)
      | (go_enter Tryz.func67, Tryz.ntmps67; go_wp2_with fail; all_goals first | (exfalso; omega) | (simp [bodyPost, results, Tryz.results67, go_sem]; done))
  rw [show turnA d = 15 by unfold turnA; rw [if_neg e0, if_neg e1, if_neg e2, if_neg e3], show turnB d = 4 by unfold turnB; rw [if_neg e0, if_neg e1, if_neg e2], show addC d = 0 by unfold addC; rw [if_neg e0, if_neg e1, if_neg e2, if_neg e3], show turnD d = 64 by unfold turnD; rw [if_neg e0, if_neg e1, if_neg e2, if_neg e3]]
  have f1 : d < -63 ∨ 64 < d := by omega
  have f2 : d < -255 ∨ 256 < d := by omega
  have f3 : d < -2047 ∨ 2048 < d := by omega
  clear e1 e2 e3
  rcases f1 with f1 | f1
  all_goals rcases f2 with f2 | f2
  all_goals rcases f3 with f3 | f3
  all_goals first
    | (exfalso; omega)
    | (go_enter Tryz.func67, Tryz.ntmps67; go_wp2_with fail; all_goals first | (exfalso; omega) | (simp [bodyPost, results, Tryz.results67, go_sem]; done))
end Go.Proofs.YtpicgjjbpiinfaaGreatDoor
