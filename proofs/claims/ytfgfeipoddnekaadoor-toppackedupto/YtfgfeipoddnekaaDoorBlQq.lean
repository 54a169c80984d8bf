
import Derived.Test.YtfgfeipoddnekaaDoorBuL
namespace Go.Proofs.YtfgfeipoddnekaaDoor
open Go.RowKit
set_option linter.unusedVariables false
set_option linter.unusedSimpArgs false
end Go.Proofs.YtfgfeipoddnekaaDoor
