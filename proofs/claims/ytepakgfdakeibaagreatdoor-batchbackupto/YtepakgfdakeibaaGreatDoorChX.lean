
import Derived.Test.YtepakgfdakeibaaGreatDoorChainF
import Derived.Deep.LoopGhost
namespace Go.Proofs.YtepakgfdakeibaaGreatDoor
open Go.RowKit Go.Extern.Stop Go.Stop Go.Extern
set_option linter.unusedVariables false
set_option linter.unusedSimpArgs false

end Go.Proofs.YtepakgfdakeibaaGreatDoor

namespace Go.Proofs.YtepakgfdakeibaaGreatDoor
open Go.RowKit Go.Extern.Stop Go.Stop Go.Extern
set_option linter.unusedVariables false
set_option linter.unusedSimpArgs false

end Go.Proofs.YtepakgfdakeibaaGreatDoor


namespace Go.Proofs.YtepakgfdakeibaaGreatDoor
open Go.RowKit Go.Extern.Stop Go.Stop Go.Extern
set_option linter.unusedVariables false
set_option linter.unusedSimpArgs false

end Go.Proofs.YtepakgfdakeibaaGreatDoor


namespace Go.Proofs.YtepakgfdakeibaaGreatDoor
open Go.RowKit Go.Extern.Stop Go.Stop Go.Extern
set_option linter.unusedVariables false
set_option linter.unusedSimpArgs false

end Go.Proofs.YtepakgfdakeibaaGreatDoor


namespace Go.Proofs.YtepakgfdakeibaaGreatDoor
open Go.RowKit Go.Extern.Stop Go.Stop Go.Extern
set_option linter.unusedVariables false
set_option linter.unusedSimpArgs false

end Go.Proofs.YtepakgfdakeibaaGreatDoor

