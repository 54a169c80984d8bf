/-
  NARROWER THAN 'FOR EVERY INPUT', by the rows' own cells (each row's printed sentence says how): BlockUnTimes: laid · BlockUnpacks: laid.
  DERIVED. THE GIVEN ROWS OF THIS SEAT. 2 by the template 'for every input the law returns true; each argument reads behind the call as it read before'; 0 by the template 'total and deterministic' (their statements: YtpicgjjbpiinfaaGreatDoorTotals.lean).
  GIVEN WITH THE SEED: the statements are not yours to turn. If you find one false, say at which input.
  Laid BY PROGRAM, IN A SANDBOX (cutbox-rows.mjs): the forced cells as the released guide's own fill.sh prints them over the translation 781827f8233f14b7… (all of the seat's roots in one cut). By AI agents, Wed Nov 11 2026. No macro, syntax, notation, axiom, sorry.
-/
import Derived.Test.YtpicgjjbpiinfaaGreatDoorChecked
import GoSem.Claim
import GoSem.ClaimJoined
import GoSem.ClaimMapViews
import Derived.JoinedTies
import Derived.KernelRfl
namespace Go.Proofs.YtpicgjjbpiinfaaGreatDoor
/- THE CELL 'sum', in the pinned program and in every row, IS THE sha256 OF THE DUMP (.gsa) THAT YtpicgjjbpiinfaaGreatDoorProg.lean LOADS. Nothing in Lean hashes anything: it is a label: what it is worth is what the hold of that sum in a sandbox is worth. -/
noncomputable def Tryz.pinned : Pinned := { name := "ytpicgjjbpiinfaagreatdoor", sum := "781827f8233f14b75d72c900ae5d32c68a81efbc5d10902c14f732d2f16c136a", checked := Tryz.checked }
namespace Rows
def none {H : Type} : Left H := { results := [], args := [] }

/- WHAT THE LISTED PACKAGE-LEVEL VARIABLES READ AS WHEN THE CALL BEGINS. Each datum BY PROGRAM (the guide's laid-datum.mjs) off the statement by which the dump's own 'gosem.cut.vars' lays the variable. In a bare row this is a premise. The card (YtpicgjjbpiinfaaGreatDoorCards.lean) ties it to the program's text. -/
def laid_errors_errorType {H : Type} : DataW H := .iface "internal/reflectlite.rtype" (.agg [.ptr (.lit (.string [101, 114, 114, 111, 114]))])
def laid_weir_block_classes {H : Type} : DataW H := .agg [.agg [.lit (.int .i64 0), .lit (.int .i64 0), .lit (.int .i64 0)], .agg [.lit (.int .i64 (-63)), .lit (.int .i64 64), .lit (.int .i64 7)], .agg [.lit (.int .i64 (-255)), .lit (.int .i64 256), .lit (.int .i64 9)], .agg [.lit (.int .i64 (-2047)), .lit (.int .i64 2048), .lit (.int .i64 12)]]

/-- 'weirlaw09.BlockUnTimes': WHATEVER THE INPUT: true; the input reads as it did. -/
def blockUnTimesSpec : ChangeSpec := { name := "blockUnTimes", fn := fun _ => fun
  | [d] => { results := [.lit (.bool true)], args := [d] }
  | _ => none }
def blockUnTimesRow : OpenClaim := { program := "ytpicgjjbpiinfaagreatdoor", sum := "781827f8233f14b75d72c900ae5d32c68a81efbc5d10902c14f732d2f16c136a", func := "weir/weirlaw09.BlockUnTimes", spec := "blockUnTimes", inPlace := ["internal/reflectlite.ValueOf", "(internal/reflectlite.Value).Type", "(internal/reflectlite.Value).IsNil", "internal/reflectlite.TypeOf", "(internal/reflectlite.Value).Elem", "(internal/reflectlite.Value).Set"], unfollowed := true, recurses := true, named := ["weir/block.classes", "errors.errorType"], apart := false, laid := [("errors.errorType", laid_errors_errorType), ("weir/block.classes", laid_weir_block_classes)] }
def BlockUnTimesSaid : Prop := blockUnTimesRow.holds Tryz.pinned (OpenSpec.ofChange blockUnTimesSpec)

/-- ITS FALSE NEIGHBOUR: 'it returns false'. Refute it at one input. -/
def blockUnTimesWrong : ChangeSpec := { name := "blockUnTimes", fn := fun _ => fun
  | [d] => { results := [.lit (.bool false)], args := [d] }
  | _ => none }
def BlockUnTimesWrongFalsely : Prop := blockUnTimesRow.holds Tryz.pinned (OpenSpec.ofChange blockUnTimesWrong)

/-- 'weirlaw09.BlockUnpacks': WHATEVER THE INPUT: true; the input reads as it did. -/
def blockUnpacksSpec : ChangeSpec := { name := "blockUnpacks", fn := fun _ => fun
  | [d] => { results := [.lit (.bool true)], args := [d] }
  | _ => none }
def blockUnpacksRow : OpenClaim := { program := "ytpicgjjbpiinfaagreatdoor", sum := "781827f8233f14b75d72c900ae5d32c68a81efbc5d10902c14f732d2f16c136a", func := "weir/weirlaw09.BlockUnpacks", spec := "blockUnpacks", inPlace := ["internal/reflectlite.ValueOf", "(internal/reflectlite.Value).Type", "(internal/reflectlite.Value).IsNil", "internal/reflectlite.TypeOf", "(internal/reflectlite.Value).Elem", "(internal/reflectlite.Value).Set"], unfollowed := true, recurses := true, named := ["weir/block.classes", "errors.errorType"], apart := false, laid := [("errors.errorType", laid_errors_errorType), ("weir/block.classes", laid_weir_block_classes)] }
def BlockUnpacksSaid : Prop := blockUnpacksRow.holds Tryz.pinned (OpenSpec.ofChange blockUnpacksSpec)

/-- ITS FALSE NEIGHBOUR: 'it returns false'. Refute it at one input. -/
def blockUnpacksWrong : ChangeSpec := { name := "blockUnpacks", fn := fun _ => fun
  | [d] => { results := [.lit (.bool false)], args := [d] }
  | _ => none }
def BlockUnpacksWrongFalsely : Prop := blockUnpacksRow.holds Tryz.pinned (OpenSpec.ofChange blockUnpacksWrong)

/- THE SECOND FORM. 'bulk': how many values and letters a reading holds, each counted each time it is reached (what is shared counts as often as it is met; a slice's spare places count too). A statement '..UptoSaid' is the law's where the arguments, and the package variables that the reading takes, are together of bulk at most 1048576: NARROWER than '..Said'. Prove '..Said' where nothing that the law and all that it calls make is longer than what came in: it says more and counts as full. Else prove '..UptoSaid'. A law counts once. -/
mutual
def uptoBulk {H : Type} : DataW H → Nat
  | .lit (.string bytes) => bytes.length + 1
  | .lit _ => 1
  | .nil => 1
  | .ptr d => uptoBulk d + 1
  | .slice elems spare => uptoBulkAll elems + uptoBulkAll spare + 1
  | .agg parts => uptoBulkAll parts + 1
  | .iface _ d => uptoBulk d + 1
  | .map entries => uptoBulkEntries entries + 1
  | .held _ => 1
def uptoBulkAll {H : Type} : List (DataW H) → Nat
  | [] => 0
  | d :: r => uptoBulk d + uptoBulkAll r
def uptoBulkEntries {H : Type} : List (Lit × DataW H) → Nat
  | [] => 0
  | x :: r => uptoBulkEntry x + uptoBulkEntries r
def uptoBulkEntry {H : Type} : Lit × DataW H → Nat
  | (.string bytes, d) => bytes.length + uptoBulk d + 1
  | (_, d) => uptoBulk d + 1
 end
def uptoSmall : (H : Type) → List (DataW H) → Bool := fun _ ds => decide (uptoBulkAll ds ≤ 1048576)
def OpenSpec.upto (s : _root_.Go.ChangeSpec) : _root_.Go.OpenSpec := { _root_.Go.OpenSpec.ofChange s with cond := some uptoSmall }

/-- 'weirlaw09.BlockUnTimes', WHERE WHAT IT READS IS OF BULK AT MOST 1048576: true; the input reads as it did. -/
def blockUnTimesUptoRow : OpenClaim := { program := "ytpicgjjbpiinfaagreatdoor", sum := "781827f8233f14b75d72c900ae5d32c68a81efbc5d10902c14f732d2f16c136a", func := "weir/weirlaw09.BlockUnTimes", spec := "blockUnTimes", inPlace := ["internal/reflectlite.ValueOf", "(internal/reflectlite.Value).Type", "(internal/reflectlite.Value).IsNil", "internal/reflectlite.TypeOf", "(internal/reflectlite.Value).Elem", "(internal/reflectlite.Value).Set"], unfollowed := true, recurses := true, named := ["weir/block.classes", "errors.errorType"], apart := false, laid := [("errors.errorType", laid_errors_errorType), ("weir/block.classes", laid_weir_block_classes)], narrowed := true }
def BlockUnTimesUptoSaid : Prop := blockUnTimesUptoRow.holds Tryz.pinned (OpenSpec.upto blockUnTimesSpec)

/-- 'weirlaw09.BlockUnpacks', WHERE WHAT IT READS IS OF BULK AT MOST 1048576: true; the input reads as it did. -/
def blockUnpacksUptoRow : OpenClaim := { program := "ytpicgjjbpiinfaagreatdoor", sum := "781827f8233f14b75d72c900ae5d32c68a81efbc5d10902c14f732d2f16c136a", func := "weir/weirlaw09.BlockUnpacks", spec := "blockUnpacks", inPlace := ["internal/reflectlite.ValueOf", "(internal/reflectlite.Value).Type", "(internal/reflectlite.Value).IsNil", "internal/reflectlite.TypeOf", "(internal/reflectlite.Value).Elem", "(internal/reflectlite.Value).Set"], unfollowed := true, recurses := true, named := ["weir/block.classes", "errors.errorType"], apart := false, laid := [("errors.errorType", laid_errors_errorType), ("weir/block.classes", laid_weir_block_classes)], narrowed := true }
def BlockUnpacksUptoSaid : Prop := blockUnpacksUptoRow.holds Tryz.pinned (OpenSpec.upto blockUnpacksSpec)

end Rows
end Go.Proofs.YtpicgjjbpiinfaaGreatDoor
