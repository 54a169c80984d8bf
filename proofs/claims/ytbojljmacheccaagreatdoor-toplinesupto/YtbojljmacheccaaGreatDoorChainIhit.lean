
import Derived.Test.YtbojljmacheccaaGreatDoorChainF
import Derived.Deep.LoopGhost
namespace Go.Proofs.YtbojljmacheccaaGreatDoor
open Go.RowKit Go.Extern.Stop Go.Stop Go.Extern
set_option linter.unusedVariables false
set_option linter.unusedSimpArgs false

end Go.Proofs.YtbojljmacheccaaGreatDoor

