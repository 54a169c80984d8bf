
import Derived.Test.YtlcppkemiogbeaaSoH
import Derived.Test.YtlcppkemiogbeaaSoI
namespace Go.Proofs.Ytlcppkemiogbeaa.So
open Go.RowKit
set_option linter.unusedVariables false
set_option linter.unusedSimpArgs false
end Go.Proofs.Ytlcppkemiogbeaa.So
