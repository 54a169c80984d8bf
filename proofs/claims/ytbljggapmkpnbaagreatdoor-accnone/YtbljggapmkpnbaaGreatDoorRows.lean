/-
  NARROWER THAN 'FOR EVERY INPUT', by the rows' own cells (each row's printed sentence says how): AccNone: laid · AccBounds: laid · AccBack: laid · AccWays: laid.
  DERIVED. THE GIVEN ROWS OF THIS SEAT. 4 by the template 'for every input the law returns true; each argument reads behind the call as it read before'; 0 by the template 'total and deterministic' (their statements: YtbljggapmkpnbaaGreatDoorTotals.lean).
  GIVEN WITH THE SEED: the statements are not yours to turn. If you find one false, say at which input.
  Laid BY PROGRAM, IN A SANDBOX (cutbox-rows.mjs): the forced cells as the released guide's own fill.sh prints them over the translation ba62bace33023292… (all of the seat's roots in one cut). By AI agents, Wed Nov 11 2026. No macro, syntax, notation, axiom, sorry.
-/
import Derived.Test.YtbljggapmkpnbaaGreatDoorChecked
import GoSem.Claim
import GoSem.ClaimJoined
import GoSem.ClaimMapViews
import Derived.JoinedTies
import Derived.KernelRfl
namespace Go.Proofs.YtbljggapmkpnbaaGreatDoor
/- THE CELL 'sum', in the pinned program and in every row, IS THE sha256 OF THE DUMP (.gsa) THAT YtbljggapmkpnbaaGreatDoorProg.lean LOADS. Nothing in Lean hashes anything: it is a label: what it is worth is what the hold of that sum in a sandbox is worth. -/
noncomputable def Tryz.pinned : Pinned := { name := "ytbljggapmkpnbaagreatdoor", sum := "ba62bace3302329266ed3700c006564847cba08ed6449b23cf75f946c6e6623d", checked := Tryz.checked }
namespace Rows
def none {H : Type} : Left H := { results := [], args := [] }

/- WHAT THE LISTED PACKAGE-LEVEL VARIABLES READ AS WHEN THE CALL BEGINS. Each datum BY PROGRAM (the guide's laid-datum.mjs) off the statement by which the dump's own 'gosem.cut.vars' lays the variable. In a bare row this is a premise. The card (YtbljggapmkpnbaaGreatDoorCards.lean) ties it to the program's text. -/
def laid_errors_errorType {H : Type} : DataW H := .iface "internal/reflectlite.rtype" (.agg [.ptr (.lit (.string [101, 114, 114, 111, 114]))])

/-- 'weirlaw22.AccNone': WHATEVER THE INPUT: true; the input reads as it did. -/
def accNoneSpec : ChangeSpec := { name := "accNone", fn := fun _ => fun
  | [d] => { results := [.lit (.bool true)], args := [d] }
  | _ => none }
def accNoneRow : OpenClaim := { program := "ytbljggapmkpnbaagreatdoor", sum := "ba62bace3302329266ed3700c006564847cba08ed6449b23cf75f946c6e6623d", func := "weir/weirlaw22.AccNone", spec := "accNone", inPlace := ["internal/reflectlite.ValueOf", "(internal/reflectlite.Value).Type", "(internal/reflectlite.Value).IsNil", "internal/reflectlite.TypeOf", "(internal/reflectlite.Value).Elem", "(internal/reflectlite.Value).Set", "maps.clone"], unfollowed := true, recurses := true, named := ["errors.errorType"], plainKeys := false, apart := false, laid := [("errors.errorType", laid_errors_errorType)] }
def AccNoneSaid : Prop := accNoneRow.holds Tryz.pinned (OpenSpec.ofChange accNoneSpec)

/-- ITS FALSE NEIGHBOUR: 'it returns false'. Refute it at one input. -/
def accNoneWrong : ChangeSpec := { name := "accNone", fn := fun _ => fun
  | [d] => { results := [.lit (.bool false)], args := [d] }
  | _ => none }
def AccNoneWrongFalsely : Prop := accNoneRow.holds Tryz.pinned (OpenSpec.ofChange accNoneWrong)

/-- 'weirlaw22.AccBounds': WHATEVER THE INPUT: true; the input reads as it did. -/
def accBoundsSpec : ChangeSpec := { name := "accBounds", fn := fun _ => fun
  | [d] => { results := [.lit (.bool true)], args := [d] }
  | _ => none }
def accBoundsRow : OpenClaim := { program := "ytbljggapmkpnbaagreatdoor", sum := "ba62bace3302329266ed3700c006564847cba08ed6449b23cf75f946c6e6623d", func := "weir/weirlaw22.AccBounds", spec := "accBounds", inPlace := ["internal/reflectlite.ValueOf", "(internal/reflectlite.Value).Type", "(internal/reflectlite.Value).IsNil", "internal/reflectlite.TypeOf", "(internal/reflectlite.Value).Elem", "(internal/reflectlite.Value).Set"], unfollowed := true, recurses := true, named := ["errors.errorType"], plainKeys := false, apart := false, laid := [("errors.errorType", laid_errors_errorType)] }
def AccBoundsSaid : Prop := accBoundsRow.holds Tryz.pinned (OpenSpec.ofChange accBoundsSpec)

/-- ITS FALSE NEIGHBOUR: 'it returns false'. Refute it at one input. -/
def accBoundsWrong : ChangeSpec := { name := "accBounds", fn := fun _ => fun
  | [d] => { results := [.lit (.bool false)], args := [d] }
  | _ => none }
def AccBoundsWrongFalsely : Prop := accBoundsRow.holds Tryz.pinned (OpenSpec.ofChange accBoundsWrong)

/-- 'weirlaw22.AccBack': WHATEVER THE INPUT: true; the input reads as it did. -/
def accBackSpec : ChangeSpec := { name := "accBack", fn := fun _ => fun
  | [d1, d2, d3] => { results := [.lit (.bool true)], args := [d1, d2, d3] }
  | _ => none }
def accBackRow : OpenClaim := { program := "ytbljggapmkpnbaagreatdoor", sum := "ba62bace3302329266ed3700c006564847cba08ed6449b23cf75f946c6e6623d", func := "weir/weirlaw22.AccBack", spec := "accBack", inPlace := ["internal/reflectlite.ValueOf", "(internal/reflectlite.Value).Type", "(internal/reflectlite.Value).IsNil", "internal/reflectlite.TypeOf", "(internal/reflectlite.Value).Elem", "(internal/reflectlite.Value).Set"], unfollowed := true, recurses := true, named := ["errors.errorType"], plainKeys := false, apart := false, laid := [("errors.errorType", laid_errors_errorType)] }
def AccBackSaid : Prop := accBackRow.holds Tryz.pinned (OpenSpec.ofChange accBackSpec)

/-- ITS FALSE NEIGHBOUR: 'it returns false'. Refute it at one input. -/
def accBackWrong : ChangeSpec := { name := "accBack", fn := fun _ => fun
  | [d1, d2, d3] => { results := [.lit (.bool false)], args := [d1, d2, d3] }
  | _ => none }
def AccBackWrongFalsely : Prop := accBackRow.holds Tryz.pinned (OpenSpec.ofChange accBackWrong)

/-- 'weirlaw22.AccWays': WHATEVER THE INPUT: true; the input reads as it did. -/
def accWaysSpec : ChangeSpec := { name := "accWays", fn := fun _ => fun
  | [d1, d2] => { results := [.lit (.bool true)], args := [d1, d2] }
  | _ => none }
def accWaysRow : OpenClaim := { program := "ytbljggapmkpnbaagreatdoor", sum := "ba62bace3302329266ed3700c006564847cba08ed6449b23cf75f946c6e6623d", func := "weir/weirlaw22.AccWays", spec := "accWays", inPlace := ["internal/reflectlite.ValueOf", "(internal/reflectlite.Value).Type", "(internal/reflectlite.Value).IsNil", "internal/reflectlite.TypeOf", "(internal/reflectlite.Value).Elem", "(internal/reflectlite.Value).Set"], unfollowed := true, recurses := true, named := ["errors.errorType"], plainKeys := false, apart := false, laid := [("errors.errorType", laid_errors_errorType)] }
def AccWaysSaid : Prop := accWaysRow.holds Tryz.pinned (OpenSpec.ofChange accWaysSpec)

/-- ITS FALSE NEIGHBOUR: 'it returns false'. Refute it at one input. -/
def accWaysWrong : ChangeSpec := { name := "accWays", fn := fun _ => fun
  | [d1, d2] => { results := [.lit (.bool false)], args := [d1, d2] }
  | _ => none }
def AccWaysWrongFalsely : Prop := accWaysRow.holds Tryz.pinned (OpenSpec.ofChange accWaysWrong)

/- THE SECOND FORM. 'bulk': how many values and letters a reading holds, each counted each time it is reached (what is shared counts as often as it is met; a slice's spare places count too). A statement '..UptoSaid' is the law's where the arguments, and the package variables that the reading takes, are together of bulk at most 1048576: NARROWER than '..Said'. Prove '..Said' where nothing that the law and all that it calls make is longer than what came in: it says more and counts as full. Else prove '..UptoSaid'. A law counts once. -/
mutual
def uptoBulk {H : Type} : DataW H → Nat
  | .lit (.string bytes) => bytes.length + 1
  | .lit _ => 1
  | .nil => 1
  | .ptr d => uptoBulk d + 1
  | .slice elems spare => uptoBulkAll elems + uptoBulkAll spare + 1
  | .agg parts => uptoBulkAll parts + 1
  | .iface _ d => uptoBulk d + 1
  | .map entries => uptoBulkEntries entries + 1
  | .held _ => 1
def uptoBulkAll {H : Type} : List (DataW H) → Nat
  | [] => 0
  | d :: r => uptoBulk d + uptoBulkAll r
def uptoBulkEntries {H : Type} : List (Lit × DataW H) → Nat
  | [] => 0
  | x :: r => uptoBulkEntry x + uptoBulkEntries r
def uptoBulkEntry {H : Type} : Lit × DataW H → Nat
  | (.string bytes, d) => bytes.length + uptoBulk d + 1
  | (_, d) => uptoBulk d + 1
 end
def uptoSmall : (H : Type) → List (DataW H) → Bool := fun _ ds => decide (uptoBulkAll ds ≤ 1048576)
def OpenSpec.upto (s : _root_.Go.ChangeSpec) : _root_.Go.OpenSpec := { _root_.Go.OpenSpec.ofChange s with cond := some uptoSmall }

/-- 'weirlaw22.AccNone', WHERE WHAT IT READS IS OF BULK AT MOST 1048576: true; the input reads as it did. -/
def accNoneUptoRow : OpenClaim := { program := "ytbljggapmkpnbaagreatdoor", sum := "ba62bace3302329266ed3700c006564847cba08ed6449b23cf75f946c6e6623d", func := "weir/weirlaw22.AccNone", spec := "accNone", inPlace := ["internal/reflectlite.ValueOf", "(internal/reflectlite.Value).Type", "(internal/reflectlite.Value).IsNil", "internal/reflectlite.TypeOf", "(internal/reflectlite.Value).Elem", "(internal/reflectlite.Value).Set", "maps.clone"], unfollowed := true, recurses := true, named := ["errors.errorType"], plainKeys := false, apart := false, laid := [("errors.errorType", laid_errors_errorType)], narrowed := true }
def AccNoneUptoSaid : Prop := accNoneUptoRow.holds Tryz.pinned (OpenSpec.upto accNoneSpec)

/-- 'weirlaw22.AccBounds', WHERE WHAT IT READS IS OF BULK AT MOST 1048576: true; the input reads as it did. -/
def accBoundsUptoRow : OpenClaim := { program := "ytbljggapmkpnbaagreatdoor", sum := "ba62bace3302329266ed3700c006564847cba08ed6449b23cf75f946c6e6623d", func := "weir/weirlaw22.AccBounds", spec := "accBounds", inPlace := ["internal/reflectlite.ValueOf", "(internal/reflectlite.Value).Type", "(internal/reflectlite.Value).IsNil", "internal/reflectlite.TypeOf", "(internal/reflectlite.Value).Elem", "(internal/reflectlite.Value).Set"], unfollowed := true, recurses := true, named := ["errors.errorType"], plainKeys := false, apart := false, laid := [("errors.errorType", laid_errors_errorType)], narrowed := true }
def AccBoundsUptoSaid : Prop := accBoundsUptoRow.holds Tryz.pinned (OpenSpec.upto accBoundsSpec)

/-- 'weirlaw22.AccBack', WHERE WHAT IT READS IS OF BULK AT MOST 1048576: true; the input reads as it did. -/
def accBackUptoRow : OpenClaim := { program := "ytbljggapmkpnbaagreatdoor", sum := "ba62bace3302329266ed3700c006564847cba08ed6449b23cf75f946c6e6623d", func := "weir/weirlaw22.AccBack", spec := "accBack", inPlace := ["internal/reflectlite.ValueOf", "(internal/reflectlite.Value).Type", "(internal/reflectlite.Value).IsNil", "internal/reflectlite.TypeOf", "(internal/reflectlite.Value).Elem", "(internal/reflectlite.Value).Set"], unfollowed := true, recurses := true, named := ["errors.errorType"], plainKeys := false, apart := false, laid := [("errors.errorType", laid_errors_errorType)], narrowed := true }
def AccBackUptoSaid : Prop := accBackUptoRow.holds Tryz.pinned (OpenSpec.upto accBackSpec)

/-- 'weirlaw22.AccWays', WHERE WHAT IT READS IS OF BULK AT MOST 1048576: true; the input reads as it did. -/
def accWaysUptoRow : OpenClaim := { program := "ytbljggapmkpnbaagreatdoor", sum := "ba62bace3302329266ed3700c006564847cba08ed6449b23cf75f946c6e6623d", func := "weir/weirlaw22.AccWays", spec := "accWays", inPlace := ["internal/reflectlite.ValueOf", "(internal/reflectlite.Value).Type", "(internal/reflectlite.Value).IsNil", "internal/reflectlite.TypeOf", "(internal/reflectlite.Value).Elem", "(internal/reflectlite.Value).Set"], unfollowed := true, recurses := true, named := ["errors.errorType"], plainKeys := false, apart := false, laid := [("errors.errorType", laid_errors_errorType)], narrowed := true }
def AccWaysUptoSaid : Prop := accWaysUptoRow.holds Tryz.pinned (OpenSpec.upto accWaysSpec)

end Rows
end Go.Proofs.YtbljggapmkpnbaaGreatDoor
