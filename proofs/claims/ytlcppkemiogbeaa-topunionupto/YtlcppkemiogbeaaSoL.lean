
import Derived.Test.YtlcppkemiogbeaaSoJ
import Derived.Test.YtlcppkemiogbeaaSoK
namespace Go.Proofs.Ytlcppkemiogbeaa.So
open Go.RowKit
end Go.Proofs.Ytlcppkemiogbeaa.So
