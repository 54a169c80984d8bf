
import Derived.Test.YtpicgjjbpiinfaaDoorBlI
import Derived.Test.YtpicgjjbpiinfaaDoorSame
import Derived.BigQuiet
namespace Go.Proofs.YtpicgjjbpiinfaaDoor
open Go.RowKit
set_option linter.unusedVariables false
set_option linter.unusedSimpArgs false
theorem same_nilB (w : World) : Calls Tryd.prog 12 #[.nilIface, badV 0] w fun e w' => e = .returned (.bool true) ∧ Below w.heap.size w w' := by
  have hB := below_new (Below.refl _ w) (.cells #[.int .i64 0, .int .i64 0, .int .i64 0, .bool false, .bool false] 41)
  have hBH : Hid _ := hB
  unfold badV
  clear hB
  go_enter Tryd.func12, Tryd.ntmps12
  go_wp2_with fail
  go_ret
  exact ⟨rfl, hBH.out⟩
end Go.Proofs.YtpicgjjbpiinfaaDoor
