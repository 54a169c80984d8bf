
import Derived.Test.YtdfnomglkibfbaaGreatDoorKyF
namespace Go.Proofs.YtdfnomglkibfbaaGreatDoor
open Go.RowKit Go.Shelf
set_option linter.unusedVariables false
set_option linter.unusedSimpArgs false
/-- what is wrong with a series: the number of the error; 0: nothing. -/
def rightN (s : SerP) : Int := if cleanB s.m 64 then (if tagsB s.t then (if columnB s.f then 0 else 50) else 52) else 50
def erN (n : Int) : Value := if n = 0 then .nilIface else .iface 34 (.int .i64 n)
end Go.Proofs.YtdfnomglkibfbaaGreatDoor
