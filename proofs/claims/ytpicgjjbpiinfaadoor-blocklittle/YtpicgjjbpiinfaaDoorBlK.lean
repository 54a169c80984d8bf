
import Derived.Test.YtpicgjjbpiinfaaDoorBlJ
namespace Go.Proofs.YtpicgjjbpiinfaaDoor
open Go.RowKit
set_option linter.unusedVariables false
set_option linter.unusedSimpArgs false
end Go.Proofs.YtpicgjjbpiinfaaDoor
