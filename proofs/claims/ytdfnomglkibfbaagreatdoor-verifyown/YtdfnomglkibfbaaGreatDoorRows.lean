/-
  NARROWER THAN 'FOR EVERY INPUT', by the rows' own cells (each row's printed sentence says how): VerifyPasses: laid · VerifyHeights: laid · VerifySound: laid · VerifyMore: laid · VerifyOwn: laid.
  DERIVED. THE GIVEN ROWS OF THIS SEAT. 5 by the template 'for every input the law returns true; each argument reads behind the call as it read before'; 0 by the template 'total and deterministic' (their statements: YtdfnomglkibfbaaGreatDoorTotals.lean).
  GIVEN WITH THE SEED: the statements are not yours to turn. If you find one false, say at which input.
  Laid BY PROGRAM, IN A SANDBOX (cutbox-rows.mjs): the forced cells as the released guide's own fill.sh prints them over the translation 9700e4a38b72d1bb… (all of the seat's roots in one cut). By AI agents, Wed Nov 11 2026. No macro, syntax, notation, axiom, sorry.
-/
import Derived.Test.YtdfnomglkibfbaaGreatDoorChecked
import GoSem.PinnedTables
import GoSem.Claim
import GoSem.ClaimJoined
import GoSem.ClaimMapViews
import Derived.JoinedTies
import Derived.KernelRfl
namespace Go.Proofs.YtdfnomglkibfbaaGreatDoor
/- THE CELL 'sum', in the pinned program and in every row, IS THE sha256 OF THE DUMP (.gsa) THAT YtdfnomglkibfbaaGreatDoorProg.lean LOADS. Nothing in Lean hashes anything: it is a label: what it is worth is what the hold of that sum in a sandbox is worth. -/
noncomputable def Tryz.pinned : Pinned := { name := "ytdfnomglkibfbaagreatdoor", sum := "9700e4a38b72d1bb76651fe65f9c873635f3cdbdd827379c736d15a7e7850b3e", checked := Tryz.checked }
namespace Rows
def none {H : Type} : Left H := { results := [], args := [] }

/- WHAT THE LISTED PACKAGE-LEVEL VARIABLES READ AS WHEN THE CALL BEGINS. Each datum BY PROGRAM (the guide's laid-datum.mjs) off the statement by which the dump's own 'gosem.cut.vars' lays the variable. In a bare row this is a premise. The card (YtdfnomglkibfbaaGreatDoorCards.lean) ties it to the program's text. -/
def laid_unicode_utf8_acceptRanges {H : Type} : DataW H := .agg [.agg [.lit (.int .u8 128), .lit (.int .u8 191)], .agg [.lit (.int .u8 160), .lit (.int .u8 191)], .agg [.lit (.int .u8 128), .lit (.int .u8 159)], .agg [.lit (.int .u8 144), .lit (.int .u8 191)], .agg [.lit (.int .u8 128), .lit (.int .u8 143)], .agg [.lit (.int .u8 0), .lit (.int .u8 0)], .agg [.lit (.int .u8 0), .lit (.int .u8 0)], .agg [.lit (.int .u8 0), .lit (.int .u8 0)], .agg [.lit (.int .u8 0), .lit (.int .u8 0)], .agg [.lit (.int .u8 0), .lit (.int .u8 0)], .agg [.lit (.int .u8 0), .lit (.int .u8 0)], .agg [.lit (.int .u8 0), .lit (.int .u8 0)], .agg [.lit (.int .u8 0), .lit (.int .u8 0)], .agg [.lit (.int .u8 0), .lit (.int .u8 0)], .agg [.lit (.int .u8 0), .lit (.int .u8 0)], .agg [.lit (.int .u8 0), .lit (.int .u8 0)]]
def laid_errors_errorType {H : Type} : DataW H := .iface "internal/reflectlite.rtype" (.agg [.ptr (.lit (.string [101, 114, 114, 111, 114]))])
def laid_weir_verify_rows {H : Type} : DataW H := .agg [.agg [.lit (.int .u8 0), .lit (.int .i64 0), .lit (.int .i64 0), .lit (.int .u8 0), .lit (.int .u8 0), .lit (.bool false)], .agg [.lit (.int .u8 1), .lit (.int .i64 0), .lit (.int .i64 1), .lit (.int .u8 0), .lit (.int .u8 0), .lit (.bool false)], .agg [.lit (.int .u8 1), .lit (.int .i64 0), .lit (.int .i64 1), .lit (.int .u8 0), .lit (.int .u8 0), .lit (.bool false)], .agg [.lit (.int .u8 1), .lit (.int .i64 0), .lit (.int .i64 1), .lit (.int .u8 1), .lit (.int .u8 2), .lit (.bool false)], .agg [.lit (.int .u8 1), .lit (.int .i64 0), .lit (.int .i64 1), .lit (.int .u8 1), .lit (.int .u8 3), .lit (.bool false)], .agg [.lit (.int .u8 1), .lit (.int .i64 0), .lit (.int .i64 1), .lit (.int .u8 1), .lit (.int .u8 1), .lit (.bool false)], .agg [.lit (.int .u8 1), .lit (.int .i64 0), .lit (.int .i64 1), .lit (.int .u8 5), .lit (.int .u8 4), .lit (.bool false)], .agg [.lit (.int .u8 1), .lit (.int .i64 1), .lit (.int .i64 1), .lit (.int .u8 0), .lit (.int .u8 0), .lit (.bool false)], .agg [.lit (.int .u8 1), .lit (.int .i64 2), .lit (.int .i64 1), .lit (.int .u8 0), .lit (.int .u8 0), .lit (.bool false)], .agg [.lit (.int .u8 1), .lit (.int .i64 2), .lit (.int .i64 1), .lit (.int .u8 0), .lit (.int .u8 0), .lit (.bool false)], .agg [.lit (.int .u8 1), .lit (.int .i64 1), .lit (.int .i64 1), .lit (.int .u8 9), .lit (.int .u8 0), .lit (.bool false)], .agg [.lit (.int .u8 1), .lit (.int .i64 1), .lit (.int .i64 1), .lit (.int .u8 9), .lit (.int .u8 0), .lit (.bool false)], .agg [.lit (.int .u8 1), .lit (.int .i64 1), .lit (.int .i64 0), .lit (.int .u8 0), .lit (.int .u8 0), .lit (.bool false)], .agg [.lit (.int .u8 1), .lit (.int .i64 1), .lit (.int .i64 0), .lit (.int .u8 0), .lit (.int .u8 0), .lit (.bool true)], .agg [.lit (.int .u8 2), .lit (.int .i64 0), .lit (.int .i64 1), .lit (.int .u8 6), .lit (.int .u8 0), .lit (.bool false)], .agg [.lit (.int .u8 2), .lit (.int .i64 0), .lit (.int .i64 1), .lit (.int .u8 7), .lit (.int .u8 0), .lit (.bool false)], .agg [.lit (.int .u8 2), .lit (.int .i64 0), .lit (.int .i64 1), .lit (.int .u8 6), .lit (.int .u8 6), .lit (.bool false)], .agg [.lit (.int .u8 2), .lit (.int .i64 1), .lit (.int .i64 1), .lit (.int .u8 0), .lit (.int .u8 0), .lit (.bool false)], .agg [.lit (.int .u8 2), .lit (.int .i64 2), .lit (.int .i64 1), .lit (.int .u8 0), .lit (.int .u8 0), .lit (.bool false)], .agg [.lit (.int .u8 2), .lit (.int .i64 2), .lit (.int .i64 1), .lit (.int .u8 0), .lit (.int .u8 0), .lit (.bool false)], .agg [.lit (.int .u8 2), .lit (.int .i64 2), .lit (.int .i64 1), .lit (.int .u8 0), .lit (.int .u8 0), .lit (.bool false)], .agg [.lit (.int .u8 2), .lit (.int .i64 2), .lit (.int .i64 1), .lit (.int .u8 0), .lit (.int .u8 0), .lit (.bool false)], .agg [.lit (.int .u8 2), .lit (.int .i64 2), .lit (.int .i64 1), .lit (.int .u8 0), .lit (.int .u8 0), .lit (.bool false)], .agg [.lit (.int .u8 2), .lit (.int .i64 1), .lit (.int .i64 0), .lit (.int .u8 8), .lit (.int .u8 0), .lit (.bool false)], .agg [.lit (.int .u8 2), .lit (.int .i64 0), .lit (.int .i64 0), .lit (.int .u8 0), .lit (.int .u8 0), .lit (.bool true)]]
/-- One of Go's own tables, pinned by name: the form's constant. -/
def laid_unicode_utf8_first : DataW Unit := Go.Pinned.utf8First

/-- 'weirlaw19.VerifyPasses': WHATEVER THE INPUT: true; the input reads as it did. -/
def verifyPassesSpec : ChangeSpec := { name := "verifyPasses", fn := fun _ => fun
  | [d] => { results := [.lit (.bool true)], args := [d] }
  | _ => none }
def verifyPassesRow : OpenClaim := { program := "ytdfnomglkibfbaagreatdoor", sum := "9700e4a38b72d1bb76651fe65f9c873635f3cdbdd827379c736d15a7e7850b3e", func := "weir/weirlaw19.VerifyPasses", spec := "verifyPasses", inPlace := ["internal/reflectlite.ValueOf", "(internal/reflectlite.Value).Type", "(internal/reflectlite.Value).IsNil", "internal/reflectlite.TypeOf", "(internal/reflectlite.Value).Elem", "(internal/reflectlite.Value).Set"], unfollowed := true, recurses := true, named := ["unicode/utf8.first", "unicode/utf8.acceptRanges", "weir/verify.rows", "errors.errorType"], apart := false, laid := [("unicode/utf8.acceptRanges", laid_unicode_utf8_acceptRanges), ("errors.errorType", laid_errors_errorType), ("weir/verify.rows", laid_weir_verify_rows), ("unicode/utf8.first", laid_unicode_utf8_first)] }
def VerifyPassesSaid : Prop := verifyPassesRow.holds Tryz.pinned (OpenSpec.ofChange verifyPassesSpec)

/-- ITS FALSE NEIGHBOUR: 'it returns false'. Refute it at one input. -/
def verifyPassesWrong : ChangeSpec := { name := "verifyPasses", fn := fun _ => fun
  | [d] => { results := [.lit (.bool false)], args := [d] }
  | _ => none }
def VerifyPassesWrongFalsely : Prop := verifyPassesRow.holds Tryz.pinned (OpenSpec.ofChange verifyPassesWrong)

/-- 'weirlaw19.VerifyHeights': WHATEVER THE INPUT: true; the input reads as it did. -/
def verifyHeightsSpec : ChangeSpec := { name := "verifyHeights", fn := fun _ => fun
  | [d] => { results := [.lit (.bool true)], args := [d] }
  | _ => none }
def verifyHeightsRow : OpenClaim := { program := "ytdfnomglkibfbaagreatdoor", sum := "9700e4a38b72d1bb76651fe65f9c873635f3cdbdd827379c736d15a7e7850b3e", func := "weir/weirlaw19.VerifyHeights", spec := "verifyHeights", inPlace := ["internal/reflectlite.ValueOf", "(internal/reflectlite.Value).Type", "(internal/reflectlite.Value).IsNil", "internal/reflectlite.TypeOf", "(internal/reflectlite.Value).Elem", "(internal/reflectlite.Value).Set"], unfollowed := true, recurses := true, named := ["unicode/utf8.first", "unicode/utf8.acceptRanges", "weir/verify.rows", "errors.errorType"], apart := false, laid := [("unicode/utf8.acceptRanges", laid_unicode_utf8_acceptRanges), ("errors.errorType", laid_errors_errorType), ("weir/verify.rows", laid_weir_verify_rows), ("unicode/utf8.first", laid_unicode_utf8_first)] }
def VerifyHeightsSaid : Prop := verifyHeightsRow.holds Tryz.pinned (OpenSpec.ofChange verifyHeightsSpec)

/-- ITS FALSE NEIGHBOUR: 'it returns false'. Refute it at one input. -/
def verifyHeightsWrong : ChangeSpec := { name := "verifyHeights", fn := fun _ => fun
  | [d] => { results := [.lit (.bool false)], args := [d] }
  | _ => none }
def VerifyHeightsWrongFalsely : Prop := verifyHeightsRow.holds Tryz.pinned (OpenSpec.ofChange verifyHeightsWrong)

/-- 'weirlaw19.VerifySound': WHATEVER THE INPUT: true; the input reads as it did. -/
def verifySoundSpec : ChangeSpec := { name := "verifySound", fn := fun _ => fun
  | [d1, d2] => { results := [.lit (.bool true)], args := [d1, d2] }
  | _ => none }
def verifySoundRow : OpenClaim := { program := "ytdfnomglkibfbaagreatdoor", sum := "9700e4a38b72d1bb76651fe65f9c873635f3cdbdd827379c736d15a7e7850b3e", func := "weir/weirlaw19.VerifySound", spec := "verifySound", inPlace := ["internal/reflectlite.ValueOf", "(internal/reflectlite.Value).Type", "(internal/reflectlite.Value).IsNil", "internal/reflectlite.TypeOf", "(internal/reflectlite.Value).Elem", "(internal/reflectlite.Value).Set"], unfollowed := true, recurses := true, named := ["unicode/utf8.first", "unicode/utf8.acceptRanges", "weir/verify.rows", "errors.errorType"], apart := false, laid := [("unicode/utf8.acceptRanges", laid_unicode_utf8_acceptRanges), ("errors.errorType", laid_errors_errorType), ("weir/verify.rows", laid_weir_verify_rows), ("unicode/utf8.first", laid_unicode_utf8_first)] }
def VerifySoundSaid : Prop := verifySoundRow.holds Tryz.pinned (OpenSpec.ofChange verifySoundSpec)

/-- ITS FALSE NEIGHBOUR: 'it returns false'. Refute it at one input. -/
def verifySoundWrong : ChangeSpec := { name := "verifySound", fn := fun _ => fun
  | [d1, d2] => { results := [.lit (.bool false)], args := [d1, d2] }
  | _ => none }
def VerifySoundWrongFalsely : Prop := verifySoundRow.holds Tryz.pinned (OpenSpec.ofChange verifySoundWrong)

/-- 'weirlaw19.VerifyMore': WHATEVER THE INPUT: true; the input reads as it did. -/
def verifyMoreSpec : ChangeSpec := { name := "verifyMore", fn := fun _ => fun
  | [d1, d2, d3] => { results := [.lit (.bool true)], args := [d1, d2, d3] }
  | _ => none }
def verifyMoreRow : OpenClaim := { program := "ytdfnomglkibfbaagreatdoor", sum := "9700e4a38b72d1bb76651fe65f9c873635f3cdbdd827379c736d15a7e7850b3e", func := "weir/weirlaw19.VerifyMore", spec := "verifyMore", inPlace := ["internal/reflectlite.ValueOf", "(internal/reflectlite.Value).Type", "(internal/reflectlite.Value).IsNil", "internal/reflectlite.TypeOf", "(internal/reflectlite.Value).Elem", "(internal/reflectlite.Value).Set"], unfollowed := true, recurses := true, named := ["unicode/utf8.first", "unicode/utf8.acceptRanges", "weir/verify.rows", "errors.errorType"], apart := false, laid := [("unicode/utf8.acceptRanges", laid_unicode_utf8_acceptRanges), ("errors.errorType", laid_errors_errorType), ("weir/verify.rows", laid_weir_verify_rows), ("unicode/utf8.first", laid_unicode_utf8_first)] }
def VerifyMoreSaid : Prop := verifyMoreRow.holds Tryz.pinned (OpenSpec.ofChange verifyMoreSpec)

/-- ITS FALSE NEIGHBOUR: 'it returns false'. Refute it at one input. -/
def verifyMoreWrong : ChangeSpec := { name := "verifyMore", fn := fun _ => fun
  | [d1, d2, d3] => { results := [.lit (.bool false)], args := [d1, d2, d3] }
  | _ => none }
def VerifyMoreWrongFalsely : Prop := verifyMoreRow.holds Tryz.pinned (OpenSpec.ofChange verifyMoreWrong)

/-- 'weirlaw19.VerifyOwn': WHATEVER THE INPUT: true; the input reads as it did. -/
def verifyOwnSpec : ChangeSpec := { name := "verifyOwn", fn := fun _ => fun
  | [d] => { results := [.lit (.bool true)], args := [d] }
  | _ => none }
def verifyOwnRow : OpenClaim := { program := "ytdfnomglkibfbaagreatdoor", sum := "9700e4a38b72d1bb76651fe65f9c873635f3cdbdd827379c736d15a7e7850b3e", func := "weir/weirlaw19.VerifyOwn", spec := "verifyOwn", inPlace := ["internal/reflectlite.ValueOf", "(internal/reflectlite.Value).Type", "(internal/reflectlite.Value).IsNil", "internal/reflectlite.TypeOf", "(internal/reflectlite.Value).Elem", "(internal/reflectlite.Value).Set"], unfollowed := true, recurses := true, named := ["unicode/utf8.first", "unicode/utf8.acceptRanges", "weir/verify.rows", "errors.errorType"], apart := false, laid := [("unicode/utf8.acceptRanges", laid_unicode_utf8_acceptRanges), ("errors.errorType", laid_errors_errorType), ("weir/verify.rows", laid_weir_verify_rows), ("unicode/utf8.first", laid_unicode_utf8_first)] }
def VerifyOwnSaid : Prop := verifyOwnRow.holds Tryz.pinned (OpenSpec.ofChange verifyOwnSpec)

/-- ITS FALSE NEIGHBOUR: 'it returns false'. Refute it at one input. -/
def verifyOwnWrong : ChangeSpec := { name := "verifyOwn", fn := fun _ => fun
  | [d] => { results := [.lit (.bool false)], args := [d] }
  | _ => none }
def VerifyOwnWrongFalsely : Prop := verifyOwnRow.holds Tryz.pinned (OpenSpec.ofChange verifyOwnWrong)

/- THE SECOND FORM. 'bulk': how many values and letters a reading holds, each counted each time it is reached (what is shared counts as often as it is met; a slice's spare places count too). A statement '..UptoSaid' is the law's where the arguments, and the package variables that the reading takes, are together of bulk at most 1048576: NARROWER than '..Said'. Prove '..Said' where nothing that the law and all that it calls make is longer than what came in: it says more and counts as full. Else prove '..UptoSaid'. A law counts once. -/
mutual
def uptoBulk {H : Type} : DataW H → Nat
  | .lit (.string bytes) => bytes.length + 1
  | .lit _ => 1
  | .nil => 1
  | .ptr d => uptoBulk d + 1
  | .slice elems spare => uptoBulkAll elems + uptoBulkAll spare + 1
  | .agg parts => uptoBulkAll parts + 1
  | .iface _ d => uptoBulk d + 1
  | .map entries => uptoBulkEntries entries + 1
  | .held _ => 1
def uptoBulkAll {H : Type} : List (DataW H) → Nat
  | [] => 0
  | d :: r => uptoBulk d + uptoBulkAll r
def uptoBulkEntries {H : Type} : List (Lit × DataW H) → Nat
  | [] => 0
  | x :: r => uptoBulkEntry x + uptoBulkEntries r
def uptoBulkEntry {H : Type} : Lit × DataW H → Nat
  | (.string bytes, d) => bytes.length + uptoBulk d + 1
  | (_, d) => uptoBulk d + 1
 end
def uptoSmall : (H : Type) → List (DataW H) → Bool := fun _ ds => decide (uptoBulkAll ds ≤ 1048576)
def OpenSpec.upto (s : _root_.Go.ChangeSpec) : _root_.Go.OpenSpec := { _root_.Go.OpenSpec.ofChange s with cond := some uptoSmall }

/-- 'weirlaw19.VerifyPasses', WHERE WHAT IT READS IS OF BULK AT MOST 1048576: true; the input reads as it did. -/
def verifyPassesUptoRow : OpenClaim := { program := "ytdfnomglkibfbaagreatdoor", sum := "9700e4a38b72d1bb76651fe65f9c873635f3cdbdd827379c736d15a7e7850b3e", func := "weir/weirlaw19.VerifyPasses", spec := "verifyPasses", inPlace := ["internal/reflectlite.ValueOf", "(internal/reflectlite.Value).Type", "(internal/reflectlite.Value).IsNil", "internal/reflectlite.TypeOf", "(internal/reflectlite.Value).Elem", "(internal/reflectlite.Value).Set"], unfollowed := true, recurses := true, named := ["unicode/utf8.first", "unicode/utf8.acceptRanges", "weir/verify.rows", "errors.errorType"], apart := false, laid := [("unicode/utf8.acceptRanges", laid_unicode_utf8_acceptRanges), ("errors.errorType", laid_errors_errorType), ("weir/verify.rows", laid_weir_verify_rows), ("unicode/utf8.first", laid_unicode_utf8_first)], narrowed := true }
def VerifyPassesUptoSaid : Prop := verifyPassesUptoRow.holds Tryz.pinned (OpenSpec.upto verifyPassesSpec)

/-- 'weirlaw19.VerifyHeights', WHERE WHAT IT READS IS OF BULK AT MOST 1048576: true; the input reads as it did. -/
def verifyHeightsUptoRow : OpenClaim := { program := "ytdfnomglkibfbaagreatdoor", sum := "9700e4a38b72d1bb76651fe65f9c873635f3cdbdd827379c736d15a7e7850b3e", func := "weir/weirlaw19.VerifyHeights", spec := "verifyHeights", inPlace := ["internal/reflectlite.ValueOf", "(internal/reflectlite.Value).Type", "(internal/reflectlite.Value).IsNil", "internal/reflectlite.TypeOf", "(internal/reflectlite.Value).Elem", "(internal/reflectlite.Value).Set"], unfollowed := true, recurses := true, named := ["unicode/utf8.first", "unicode/utf8.acceptRanges", "weir/verify.rows", "errors.errorType"], apart := false, laid := [("unicode/utf8.acceptRanges", laid_unicode_utf8_acceptRanges), ("errors.errorType", laid_errors_errorType), ("weir/verify.rows", laid_weir_verify_rows), ("unicode/utf8.first", laid_unicode_utf8_first)], narrowed := true }
def VerifyHeightsUptoSaid : Prop := verifyHeightsUptoRow.holds Tryz.pinned (OpenSpec.upto verifyHeightsSpec)

/-- 'weirlaw19.VerifySound', WHERE WHAT IT READS IS OF BULK AT MOST 1048576: true; the input reads as it did. -/
def verifySoundUptoRow : OpenClaim := { program := "ytdfnomglkibfbaagreatdoor", sum := "9700e4a38b72d1bb76651fe65f9c873635f3cdbdd827379c736d15a7e7850b3e", func := "weir/weirlaw19.VerifySound", spec := "verifySound", inPlace := ["internal/reflectlite.ValueOf", "(internal/reflectlite.Value).Type", "(internal/reflectlite.Value).IsNil", "internal/reflectlite.TypeOf", "(internal/reflectlite.Value).Elem", "(internal/reflectlite.Value).Set"], unfollowed := true, recurses := true, named := ["unicode/utf8.first", "unicode/utf8.acceptRanges", "weir/verify.rows", "errors.errorType"], apart := false, laid := [("unicode/utf8.acceptRanges", laid_unicode_utf8_acceptRanges), ("errors.errorType", laid_errors_errorType), ("weir/verify.rows", laid_weir_verify_rows), ("unicode/utf8.first", laid_unicode_utf8_first)], narrowed := true }
def VerifySoundUptoSaid : Prop := verifySoundUptoRow.holds Tryz.pinned (OpenSpec.upto verifySoundSpec)

/-- 'weirlaw19.VerifyMore', WHERE WHAT IT READS IS OF BULK AT MOST 1048576: true; the input reads as it did. -/
def verifyMoreUptoRow : OpenClaim := { program := "ytdfnomglkibfbaagreatdoor", sum := "9700e4a38b72d1bb76651fe65f9c873635f3cdbdd827379c736d15a7e7850b3e", func := "weir/weirlaw19.VerifyMore", spec := "verifyMore", inPlace := ["internal/reflectlite.ValueOf", "(internal/reflectlite.Value).Type", "(internal/reflectlite.Value).IsNil", "internal/reflectlite.TypeOf", "(internal/reflectlite.Value).Elem", "(internal/reflectlite.Value).Set"], unfollowed := true, recurses := true, named := ["unicode/utf8.first", "unicode/utf8.acceptRanges", "weir/verify.rows", "errors.errorType"], apart := false, laid := [("unicode/utf8.acceptRanges", laid_unicode_utf8_acceptRanges), ("errors.errorType", laid_errors_errorType), ("weir/verify.rows", laid_weir_verify_rows), ("unicode/utf8.first", laid_unicode_utf8_first)], narrowed := true }
def VerifyMoreUptoSaid : Prop := verifyMoreUptoRow.holds Tryz.pinned (OpenSpec.upto verifyMoreSpec)

/-- 'weirlaw19.VerifyOwn', WHERE WHAT IT READS IS OF BULK AT MOST 1048576: true; the input reads as it did. -/
def verifyOwnUptoRow : OpenClaim := { program := "ytdfnomglkibfbaagreatdoor", sum := "9700e4a38b72d1bb76651fe65f9c873635f3cdbdd827379c736d15a7e7850b3e", func := "weir/weirlaw19.VerifyOwn", spec := "verifyOwn", inPlace := ["internal/reflectlite.ValueOf", "(internal/reflectlite.Value).Type", "(internal/reflectlite.Value).IsNil", "internal/reflectlite.TypeOf", "(internal/reflectlite.Value).Elem", "(internal/reflectlite.Value).Set"], unfollowed := true, recurses := true, named := ["unicode/utf8.first", "unicode/utf8.acceptRanges", "weir/verify.rows", "errors.errorType"], apart := false, laid := [("unicode/utf8.acceptRanges", laid_unicode_utf8_acceptRanges), ("errors.errorType", laid_errors_errorType), ("weir/verify.rows", laid_weir_verify_rows), ("unicode/utf8.first", laid_unicode_utf8_first)], narrowed := true }
def VerifyOwnUptoSaid : Prop := verifyOwnUptoRow.holds Tryz.pinned (OpenSpec.upto verifyOwnSpec)

end Rows
end Go.Proofs.YtdfnomglkibfbaaGreatDoor
