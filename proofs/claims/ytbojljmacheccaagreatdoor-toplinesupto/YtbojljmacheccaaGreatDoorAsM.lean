
import Derived.Test.YtbojljmacheccaaGreatDoorAsC
namespace Go.Proofs.YtbojljmacheccaaGreatDoor
open Go.RowKit Go.Extern.Stop Go.Stop Go.Extern

end Go.Proofs.YtbojljmacheccaaGreatDoor
