
import Derived.Test.YtjiiafmbneehhaaDoorSpF
namespace Go.Proofs.YtjiiafmbneehhaaDoor
open Go.RowKit
set_option linter.unusedVariables false
set_option linter.unusedSimpArgs false
end Go.Proofs.YtjiiafmbneehhaaDoor
