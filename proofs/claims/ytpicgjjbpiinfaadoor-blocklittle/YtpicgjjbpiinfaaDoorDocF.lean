
import Derived.Test.YtpicgjjbpiinfaaDoorDocW
namespace Go.Proofs.YtpicgjjbpiinfaaDoor
open Go.RowKit
set_option linter.unusedVariables false
set_option linter.unusedSimpArgs false
theorem be4_at (v : Nat) : be4 v = [v / 2 ^ 24 % 256, v / 2 ^ 16 % 256, v / 2 ^ 8 % 256, v / 2 ^ 0 % 256] := by simp [be4]
end Go.Proofs.YtpicgjjbpiinfaaDoor
