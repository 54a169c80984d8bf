
import Derived.Test.YtbojljmacheccaaGreatDoorKyB
namespace Go.Proofs.YtbojljmacheccaaGreatDoor
open Go.RowKit
set_option linter.unusedVariables false
set_option linter.unusedSimpArgs false
theorem bdrewN {B : Nat} {a w : World} (h : Below B a w) : ∀ q, Below B a (w.drewN q)
  | 0 => h
  | q + 1 => (bdrewN h q).drew
end Go.Proofs.YtbojljmacheccaaGreatDoor
