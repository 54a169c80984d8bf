/-
  NARROWER THAN 'FOR EVERY INPUT', by the rows' own cells (each row's printed sentence says how): BlockLittle: laid · BlockUnValues: laid · BlockBack: laid · BlockOnly: laid.
  DERIVED. THE GIVEN ROWS OF THIS SEAT. 4 by the template 'for every input the law returns true; each argument reads behind the call as it read before'; 0 by the template 'total and deterministic' (their statements: YtpicgjjbpiinfaaDoorTotals.lean).
  GIVEN WITH THE SEED: the statements are not yours to turn. If you find one false, say at which input.
  Laid BY PROGRAM, IN A SANDBOX (cutbox-rows.mjs): the forced cells as the released guide's own fill.sh prints them over the translation b6dafdbcdf53b8ad… (all of the seat's roots in one cut). By AI agents, Wed Nov 11 2026. No macro, syntax, notation, axiom, sorry.
-/
import Derived.Test.YtpicgjjbpiinfaaDoorChecked
import GoSem.Claim
import GoSem.ClaimJoined
import GoSem.ClaimMapViews
import Derived.JoinedTies
import Derived.KernelRfl
namespace Go.Proofs.YtpicgjjbpiinfaaDoor
/- THE CELL 'sum', in the pinned program and in every row, IS THE sha256 OF THE DUMP (.gsa) THAT YtpicgjjbpiinfaaDoorProg.lean LOADS. Nothing in Lean hashes anything: it is a label: what it is worth is what the hold of that sum in a sandbox is worth. -/
noncomputable def Tryd.pinned : Pinned := { name := "ytpicgjjbpiinfaadoor", sum := "b6dafdbcdf53b8ad44f76990e8057ff01423642d046370c0d8e0a60d88e076a4", checked := Tryd.checked }
namespace Rows
def none {H : Type} : Left H := { results := [], args := [] }

/- WHAT THE LISTED PACKAGE-LEVEL VARIABLES READ AS WHEN THE CALL BEGINS. Each datum BY PROGRAM (the guide's laid-datum.mjs) off the statement by which the dump's own 'gosem.cut.vars' lays the variable. In a bare row this is a premise. The card (YtpicgjjbpiinfaaDoorCards.lean) ties it to the program's text. -/
def laid_weir_block_classes {H : Type} : DataW H := .agg [.agg [.lit (.int .i64 0), .lit (.int .i64 0), .lit (.int .i64 0)], .agg [.lit (.int .i64 (-63)), .lit (.int .i64 64), .lit (.int .i64 7)], .agg [.lit (.int .i64 (-255)), .lit (.int .i64 256), .lit (.int .i64 9)], .agg [.lit (.int .i64 (-2047)), .lit (.int .i64 2048), .lit (.int .i64 12)]]
def laid_errors_errorType {H : Type} : DataW H := .iface "internal/reflectlite.rtype" (.agg [.ptr (.lit (.string [101, 114, 114, 111, 114]))])

/-- 'weirlaw09.BlockLittle': WHATEVER THE INPUT: true; the input reads as it did. -/
def blockLittleSpec : ChangeSpec := { name := "blockLittle", fn := fun _ => fun
  | [d1, d2, d3] => { results := [.lit (.bool true)], args := [d1, d2, d3] }
  | _ => none }
def blockLittleRow : OpenClaim := { program := "ytpicgjjbpiinfaadoor", sum := "b6dafdbcdf53b8ad44f76990e8057ff01423642d046370c0d8e0a60d88e076a4", func := "weir/weirlaw09.BlockLittle", spec := "blockLittle", unfollowed := true, recurses := true, named := ["weir/block.classes"], apart := false, laid := [("weir/block.classes", laid_weir_block_classes)] }
def BlockLittleSaid : Prop := blockLittleRow.holds Tryd.pinned (OpenSpec.ofChange blockLittleSpec)

/-- ITS FALSE NEIGHBOUR: 'it returns false'. Refute it at one input. -/
def blockLittleWrong : ChangeSpec := { name := "blockLittle", fn := fun _ => fun
  | [d1, d2, d3] => { results := [.lit (.bool false)], args := [d1, d2, d3] }
  | _ => none }
def BlockLittleWrongFalsely : Prop := blockLittleRow.holds Tryd.pinned (OpenSpec.ofChange blockLittleWrong)

/-- 'weirlaw09.BlockUnValues': WHATEVER THE INPUT: true; the input reads as it did. -/
def blockUnValuesSpec : ChangeSpec := { name := "blockUnValues", fn := fun _ => fun
  | [d] => { results := [.lit (.bool true)], args := [d] }
  | _ => none }
def blockUnValuesRow : OpenClaim := { program := "ytpicgjjbpiinfaadoor", sum := "b6dafdbcdf53b8ad44f76990e8057ff01423642d046370c0d8e0a60d88e076a4", func := "weir/weirlaw09.BlockUnValues", spec := "blockUnValues", inPlace := ["internal/reflectlite.ValueOf", "(internal/reflectlite.Value).Type", "(internal/reflectlite.Value).IsNil", "internal/reflectlite.TypeOf", "(internal/reflectlite.Value).Elem", "(internal/reflectlite.Value).Set"], unfollowed := true, recurses := true, named := ["weir/block.classes", "errors.errorType"], apart := false, laid := [("errors.errorType", laid_errors_errorType), ("weir/block.classes", laid_weir_block_classes)] }
def BlockUnValuesSaid : Prop := blockUnValuesRow.holds Tryd.pinned (OpenSpec.ofChange blockUnValuesSpec)

/-- ITS FALSE NEIGHBOUR: 'it returns false'. Refute it at one input. -/
def blockUnValuesWrong : ChangeSpec := { name := "blockUnValues", fn := fun _ => fun
  | [d] => { results := [.lit (.bool false)], args := [d] }
  | _ => none }
def BlockUnValuesWrongFalsely : Prop := blockUnValuesRow.holds Tryd.pinned (OpenSpec.ofChange blockUnValuesWrong)

/-- 'weirlaw09.BlockBack': WHATEVER THE INPUT: true; the input reads as it did. -/
def blockBackSpec : ChangeSpec := { name := "blockBack", fn := fun _ => fun
  | [d] => { results := [.lit (.bool true)], args := [d] }
  | _ => none }
def blockBackRow : OpenClaim := { program := "ytpicgjjbpiinfaadoor", sum := "b6dafdbcdf53b8ad44f76990e8057ff01423642d046370c0d8e0a60d88e076a4", func := "weir/weirlaw09.BlockBack", spec := "blockBack", unfollowed := true, recurses := true, named := ["weir/block.classes"], apart := false, laid := [("weir/block.classes", laid_weir_block_classes)] }
def BlockBackSaid : Prop := blockBackRow.holds Tryd.pinned (OpenSpec.ofChange blockBackSpec)

/-- ITS FALSE NEIGHBOUR: 'it returns false'. Refute it at one input. -/
def blockBackWrong : ChangeSpec := { name := "blockBack", fn := fun _ => fun
  | [d] => { results := [.lit (.bool false)], args := [d] }
  | _ => none }
def BlockBackWrongFalsely : Prop := blockBackRow.holds Tryd.pinned (OpenSpec.ofChange blockBackWrong)

/-- 'weirlaw09.BlockOnly': WHATEVER THE INPUT: true; the input reads as it did. -/
def blockOnlySpec : ChangeSpec := { name := "blockOnly", fn := fun _ => fun
  | [d] => { results := [.lit (.bool true)], args := [d] }
  | _ => none }
def blockOnlyRow : OpenClaim := { program := "ytpicgjjbpiinfaadoor", sum := "b6dafdbcdf53b8ad44f76990e8057ff01423642d046370c0d8e0a60d88e076a4", func := "weir/weirlaw09.BlockOnly", spec := "blockOnly", unfollowed := true, recurses := true, named := ["weir/block.classes"], apart := false, laid := [("weir/block.classes", laid_weir_block_classes)] }
def BlockOnlySaid : Prop := blockOnlyRow.holds Tryd.pinned (OpenSpec.ofChange blockOnlySpec)

/-- ITS FALSE NEIGHBOUR: 'it returns false'. Refute it at one input. -/
def blockOnlyWrong : ChangeSpec := { name := "blockOnly", fn := fun _ => fun
  | [d] => { results := [.lit (.bool false)], args := [d] }
  | _ => none }
def BlockOnlyWrongFalsely : Prop := blockOnlyRow.holds Tryd.pinned (OpenSpec.ofChange blockOnlyWrong)

/- THE SECOND FORM. 'bulk': how many values and letters a reading holds, each counted each time it is reached (what is shared counts as often as it is met; a slice's spare places count too). A statement '..UptoSaid' is the law's where the arguments, and the package variables that the reading takes, are together of bulk at most 1048576: NARROWER than '..Said'. Prove '..Said' where nothing that the law and all that it calls make is longer than what came in: it says more and counts as full. Else prove '..UptoSaid'. A law counts once. -/
mutual
def uptoBulk {H : Type} : DataW H → Nat
  | .lit (.string bytes) => bytes.length + 1
  | .lit _ => 1
  | .nil => 1
  | .ptr d => uptoBulk d + 1
  | .slice elems spare => uptoBulkAll elems + uptoBulkAll spare + 1
  | .agg parts => uptoBulkAll parts + 1
  | .iface _ d => uptoBulk d + 1
  | .map entries => uptoBulkEntries entries + 1
  | .held _ => 1
def uptoBulkAll {H : Type} : List (DataW H) → Nat
  | [] => 0
  | d :: r => uptoBulk d + uptoBulkAll r
def uptoBulkEntries {H : Type} : List (Lit × DataW H) → Nat
  | [] => 0
  | x :: r => uptoBulkEntry x + uptoBulkEntries r
def uptoBulkEntry {H : Type} : Lit × DataW H → Nat
  | (.string bytes, d) => bytes.length + uptoBulk d + 1
  | (_, d) => uptoBulk d + 1
 end
def uptoSmall : (H : Type) → List (DataW H) → Bool := fun _ ds => decide (uptoBulkAll ds ≤ 1048576)
def OpenSpec.upto (s : _root_.Go.ChangeSpec) : _root_.Go.OpenSpec := { _root_.Go.OpenSpec.ofChange s with cond := some uptoSmall }

/-- 'weirlaw09.BlockLittle', WHERE WHAT IT READS IS OF BULK AT MOST 1048576: true; the input reads as it did. -/
def blockLittleUptoRow : OpenClaim := { program := "ytpicgjjbpiinfaadoor", sum := "b6dafdbcdf53b8ad44f76990e8057ff01423642d046370c0d8e0a60d88e076a4", func := "weir/weirlaw09.BlockLittle", spec := "blockLittle", unfollowed := true, recurses := true, named := ["weir/block.classes"], apart := false, laid := [("weir/block.classes", laid_weir_block_classes)], narrowed := true }
def BlockLittleUptoSaid : Prop := blockLittleUptoRow.holds Tryd.pinned (OpenSpec.upto blockLittleSpec)

/-- 'weirlaw09.BlockUnValues', WHERE WHAT IT READS IS OF BULK AT MOST 1048576: true; the input reads as it did. -/
def blockUnValuesUptoRow : OpenClaim := { program := "ytpicgjjbpiinfaadoor", sum := "b6dafdbcdf53b8ad44f76990e8057ff01423642d046370c0d8e0a60d88e076a4", func := "weir/weirlaw09.BlockUnValues", spec := "blockUnValues", inPlace := ["internal/reflectlite.ValueOf", "(internal/reflectlite.Value).Type", "(internal/reflectlite.Value).IsNil", "internal/reflectlite.TypeOf", "(internal/reflectlite.Value).Elem", "(internal/reflectlite.Value).Set"], unfollowed := true, recurses := true, named := ["weir/block.classes", "errors.errorType"], apart := false, laid := [("errors.errorType", laid_errors_errorType), ("weir/block.classes", laid_weir_block_classes)], narrowed := true }
def BlockUnValuesUptoSaid : Prop := blockUnValuesUptoRow.holds Tryd.pinned (OpenSpec.upto blockUnValuesSpec)

/-- 'weirlaw09.BlockBack', WHERE WHAT IT READS IS OF BULK AT MOST 1048576: true; the input reads as it did. -/
def blockBackUptoRow : OpenClaim := { program := "ytpicgjjbpiinfaadoor", sum := "b6dafdbcdf53b8ad44f76990e8057ff01423642d046370c0d8e0a60d88e076a4", func := "weir/weirlaw09.BlockBack", spec := "blockBack", unfollowed := true, recurses := true, named := ["weir/block.classes"], apart := false, laid := [("weir/block.classes", laid_weir_block_classes)], narrowed := true }
def BlockBackUptoSaid : Prop := blockBackUptoRow.holds Tryd.pinned (OpenSpec.upto blockBackSpec)

/-- 'weirlaw09.BlockOnly', WHERE WHAT IT READS IS OF BULK AT MOST 1048576: true; the input reads as it did. -/
def blockOnlyUptoRow : OpenClaim := { program := "ytpicgjjbpiinfaadoor", sum := "b6dafdbcdf53b8ad44f76990e8057ff01423642d046370c0d8e0a60d88e076a4", func := "weir/weirlaw09.BlockOnly", spec := "blockOnly", unfollowed := true, recurses := true, named := ["weir/block.classes"], apart := false, laid := [("weir/block.classes", laid_weir_block_classes)], narrowed := true }
def BlockOnlyUptoSaid : Prop := blockOnlyUptoRow.holds Tryd.pinned (OpenSpec.upto blockOnlySpec)

end Rows
end Go.Proofs.YtpicgjjbpiinfaaDoor
