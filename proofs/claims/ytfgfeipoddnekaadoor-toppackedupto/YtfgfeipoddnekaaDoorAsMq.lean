
import Derived.Test.YtfgfeipoddnekaaDoorAsCq
namespace Go.Proofs.YtfgfeipoddnekaaDoor
open Go.RowKit Go.Extern.Stop Go.Stop Go.Extern

end Go.Proofs.YtfgfeipoddnekaaDoor
