
import Derived.Test.YteckdodmddmijaaGreatDoorKyB
namespace Go.Proofs.YteckdodmddmijaaGreatDoor
open Go.RowKit
set_option linter.unusedVariables false
set_option linter.unusedSimpArgs false
/-- a series that lies in memory. -/
def SerIn (w : World) (a : Option Addr) (s : SerP) : Prop := TgIn w a s.t ∧ s.t.length ≤ 9223372036854775807
theorem bdrewN {B : Nat} {a w : World} (h : Below B a w) : ∀ q, Below B a (w.drewN q)
  | 0 => h
  | q + 1 => (bdrewN h q).drew
end Go.Proofs.YteckdodmddmijaaGreatDoor
