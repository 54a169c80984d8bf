
import Derived.Test.YtpkoakafkfaehaaDoorBuL
namespace Go.Proofs.YtpkoakafkfaehaaDoor
open Go.RowKit
set_option linter.unusedVariables false
set_option linter.unusedSimpArgs false
end Go.Proofs.YtpkoakafkfaehaaDoor
