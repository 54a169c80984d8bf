
import Derived.Test.YtfijagdbdbbbpaaDoorAsCq
namespace Go.Proofs.YtfijagdbdbbbpaaDoor
open Go.RowKit Go.Extern.Stop Go.Stop Go.Extern

end Go.Proofs.YtfijagdbdbbbpaaDoor
