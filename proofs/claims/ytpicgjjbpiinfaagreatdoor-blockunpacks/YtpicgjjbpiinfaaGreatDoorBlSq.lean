
import Derived.Test.YtpicgjjbpiinfaaGreatDoorBuM
import Derived.BigQuiet
namespace Go.Proofs.YtpicgjjbpiinfaaGreatDoor
open Go.RowKit
set_option linter.unusedVariables false
set_option linter.unusedSimpArgs false
end Go.Proofs.YtpicgjjbpiinfaaGreatDoor
