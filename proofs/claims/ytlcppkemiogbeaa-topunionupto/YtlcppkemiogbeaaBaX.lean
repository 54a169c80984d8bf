
import Derived.Test.YtlcppkemiogbeaaBaW
import Derived.Test.YtlcppkemiogbeaaKqA
namespace Go.Proofs.Ytlcppkemiogbeaa
open Go.RowKit _root_.Go.Proofs.Ytlcppkemiogbeaa.So
set_option linter.unusedVariables false
set_option linter.unusedSimpArgs false
end Go.Proofs.Ytlcppkemiogbeaa
