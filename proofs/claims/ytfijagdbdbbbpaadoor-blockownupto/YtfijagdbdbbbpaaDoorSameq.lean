
import Derived.Test.YtfijagdbdbbbpaaDoorAsMq
import Derived.Test.YtfijagdbdbbbpaaDoorBaseq
import Derived.Deep.RegionWith
namespace Go.Proofs.YtfijagdbdbbbpaaDoor
open Go.RowKit
set_option linter.unusedVariables false

/-- an error of a number alone, as the document tells it. -/
def badV (c : Int) : Value := .agg #[.int .i64 c, .int .i64 0, .int .i64 0, .bool false, .bool false]

end Go.Proofs.YtfijagdbdbbbpaaDoor
