/-
  No cell of these rows narrows 'for every input' (looked for: loops, veiled, ifaces, maps, wideKeys, modest, calm, conditions, laid).
  DERIVED. THE GIVEN ROWS OF THIS SEAT. 4 by the template 'for every input the law returns true; each argument reads behind the call as it read before'; 0 by the template 'total and deterministic' (their statements: YtfncgpojoccgfaaTotals.lean).
  GIVEN WITH THE SEED: the statements are not yours to turn. If you find one false, say at which input.
  Laid BY PROGRAM, IN A SANDBOX (cutbox-rows.mjs): the forced cells as the released guide's own fill.sh prints them over the translation 4fdd494d6e4aaa98… (all of the seat's roots in one cut). By AI agents, Wed Nov 11 2026. No macro, syntax, notation, axiom, sorry.
-/
import Derived.Test.YtfncgpojoccgfaaChecked
import GoSem.Claim
import GoSem.ClaimJoined
import GoSem.ClaimMapViews
import Derived.JoinedTies
import Derived.KernelRfl
namespace Go.Proofs.Ytfncgpojoccgfaa
/- THE CELL 'sum', in the pinned program and in every row, IS THE sha256 OF THE DUMP (.gsa) THAT YtfncgpojoccgfaaProg.lean LOADS. Nothing in Lean hashes anything: it is a label: what it is worth is what the hold of that sum in a sandbox is worth. -/
noncomputable def Try.pinned : Pinned := { name := "ytfncgpojoccgfaa", sum := "4fdd494d6e4aaa98d7c193a0a14c580d99d39e7c62fc2acdd750548225843c60", checked := Try.checked }
namespace Rows
def none {H : Type} : Left H := { results := [], args := [] }

/-- 'weirlaw08.SeriesPlays': WHATEVER THE INPUT: true; the input reads as it did. -/
def seriesPlaysSpec : ChangeSpec := { name := "seriesPlays", fn := fun _ => fun
  | [d] => { results := [.lit (.bool true)], args := [d] }
  | _ => none }
def seriesPlaysRow : OpenClaim := { program := "ytfncgpojoccgfaa", sum := "4fdd494d6e4aaa98d7c193a0a14c580d99d39e7c62fc2acdd750548225843c60", func := "weir/weirlaw08.SeriesPlays", spec := "seriesPlays", unfollowed := true, recurses := true, apart := false }
def SeriesPlaysSaid : Prop := seriesPlaysRow.holds Try.pinned (OpenSpec.ofChange seriesPlaysSpec)

/-- ITS FALSE NEIGHBOUR: 'it returns false'. Refute it at one input. -/
def seriesPlaysWrong : ChangeSpec := { name := "seriesPlays", fn := fun _ => fun
  | [d] => { results := [.lit (.bool false)], args := [d] }
  | _ => none }
def SeriesPlaysWrongFalsely : Prop := seriesPlaysRow.holds Try.pinned (OpenSpec.ofChange seriesPlaysWrong)

/-- 'weirlaw08.SeriesSeldom': WHATEVER THE INPUT: true; the input reads as it did. -/
def seriesSeldomSpec : ChangeSpec := { name := "seriesSeldom", fn := fun _ => fun
  | [d] => { results := [.lit (.bool true)], args := [d] }
  | _ => none }
def seriesSeldomRow : OpenClaim := { program := "ytfncgpojoccgfaa", sum := "4fdd494d6e4aaa98d7c193a0a14c580d99d39e7c62fc2acdd750548225843c60", func := "weir/weirlaw08.SeriesSeldom", spec := "seriesSeldom", unfollowed := true, recurses := true, apart := false }
def SeriesSeldomSaid : Prop := seriesSeldomRow.holds Try.pinned (OpenSpec.ofChange seriesSeldomSpec)

/-- ITS FALSE NEIGHBOUR: 'it returns false'. Refute it at one input. -/
def seriesSeldomWrong : ChangeSpec := { name := "seriesSeldom", fn := fun _ => fun
  | [d] => { results := [.lit (.bool false)], args := [d] }
  | _ => none }
def SeriesSeldomWrongFalsely : Prop := seriesSeldomRow.holds Try.pinned (OpenSpec.ofChange seriesSeldomWrong)

/-- 'weirlaw08.SeriesFork': WHATEVER THE INPUT: true; the input reads as it did. -/
def seriesForkSpec : ChangeSpec := { name := "seriesFork", fn := fun _ => fun
  | [d1, d2, d3] => { results := [.lit (.bool true)], args := [d1, d2, d3] }
  | _ => none }
def seriesForkRow : OpenClaim := { program := "ytfncgpojoccgfaa", sum := "4fdd494d6e4aaa98d7c193a0a14c580d99d39e7c62fc2acdd750548225843c60", func := "weir/weirlaw08.SeriesFork", spec := "seriesFork", unfollowed := true, recurses := true, apart := false }
def SeriesForkSaid : Prop := seriesForkRow.holds Try.pinned (OpenSpec.ofChange seriesForkSpec)

/-- ITS FALSE NEIGHBOUR: 'it returns false'. Refute it at one input. -/
def seriesForkWrong : ChangeSpec := { name := "seriesFork", fn := fun _ => fun
  | [d1, d2, d3] => { results := [.lit (.bool false)], args := [d1, d2, d3] }
  | _ => none }
def SeriesForkWrongFalsely : Prop := seriesForkRow.holds Try.pinned (OpenSpec.ofChange seriesForkWrong)

/-- 'weirlaw08.SeriesWalks': WHATEVER THE INPUT: true; the input reads as it did. -/
def seriesWalksSpec : ChangeSpec := { name := "seriesWalks", fn := fun _ => fun
  | [d] => { results := [.lit (.bool true)], args := [d] }
  | _ => none }
def seriesWalksRow : OpenClaim := { program := "ytfncgpojoccgfaa", sum := "4fdd494d6e4aaa98d7c193a0a14c580d99d39e7c62fc2acdd750548225843c60", func := "weir/weirlaw08.SeriesWalks", spec := "seriesWalks", unfollowed := true, recurses := true, apart := false }
def SeriesWalksSaid : Prop := seriesWalksRow.holds Try.pinned (OpenSpec.ofChange seriesWalksSpec)

/-- ITS FALSE NEIGHBOUR: 'it returns false'. Refute it at one input. -/
def seriesWalksWrong : ChangeSpec := { name := "seriesWalks", fn := fun _ => fun
  | [d] => { results := [.lit (.bool false)], args := [d] }
  | _ => none }
def SeriesWalksWrongFalsely : Prop := seriesWalksRow.holds Try.pinned (OpenSpec.ofChange seriesWalksWrong)

/- THE SECOND FORM. 'bulk': how many values and letters a reading holds, each counted each time it is reached (what is shared counts as often as it is met; a slice's spare places count too). A statement '..UptoSaid' is the law's where the arguments, and the package variables that the reading takes, are together of bulk at most 1048576: NARROWER than '..Said'. Prove '..Said' where nothing that the law and all that it calls make is longer than what came in: it says more and counts as full. Else prove '..UptoSaid'. A law counts once. -/
mutual
def uptoBulk {H : Type} : DataW H → Nat
  | .lit (.string bytes) => bytes.length + 1
  | .lit _ => 1
  | .nil => 1
  | .ptr d => uptoBulk d + 1
  | .slice elems spare => uptoBulkAll elems + uptoBulkAll spare + 1
  | .agg parts => uptoBulkAll parts + 1
  | .iface _ d => uptoBulk d + 1
  | .map entries => uptoBulkEntries entries + 1
  | .held _ => 1
def uptoBulkAll {H : Type} : List (DataW H) → Nat
  | [] => 0
  | d :: r => uptoBulk d + uptoBulkAll r
def uptoBulkEntries {H : Type} : List (Lit × DataW H) → Nat
  | [] => 0
  | x :: r => uptoBulkEntry x + uptoBulkEntries r
def uptoBulkEntry {H : Type} : Lit × DataW H → Nat
  | (.string bytes, d) => bytes.length + uptoBulk d + 1
  | (_, d) => uptoBulk d + 1
 end
def uptoSmall : (H : Type) → List (DataW H) → Bool := fun _ ds => decide (uptoBulkAll ds ≤ 1048576)
def OpenSpec.upto (s : _root_.Go.ChangeSpec) : _root_.Go.OpenSpec := { _root_.Go.OpenSpec.ofChange s with cond := some uptoSmall }

/-- 'weirlaw08.SeriesPlays', WHERE WHAT IT READS IS OF BULK AT MOST 1048576: true; the input reads as it did. -/
def seriesPlaysUptoRow : OpenClaim := { program := "ytfncgpojoccgfaa", sum := "4fdd494d6e4aaa98d7c193a0a14c580d99d39e7c62fc2acdd750548225843c60", func := "weir/weirlaw08.SeriesPlays", spec := "seriesPlays", unfollowed := true, recurses := true, apart := false, narrowed := true }
def SeriesPlaysUptoSaid : Prop := seriesPlaysUptoRow.holds Try.pinned (OpenSpec.upto seriesPlaysSpec)

/-- 'weirlaw08.SeriesSeldom', WHERE WHAT IT READS IS OF BULK AT MOST 1048576: true; the input reads as it did. -/
def seriesSeldomUptoRow : OpenClaim := { program := "ytfncgpojoccgfaa", sum := "4fdd494d6e4aaa98d7c193a0a14c580d99d39e7c62fc2acdd750548225843c60", func := "weir/weirlaw08.SeriesSeldom", spec := "seriesSeldom", unfollowed := true, recurses := true, apart := false, narrowed := true }
def SeriesSeldomUptoSaid : Prop := seriesSeldomUptoRow.holds Try.pinned (OpenSpec.upto seriesSeldomSpec)

/-- 'weirlaw08.SeriesFork', WHERE WHAT IT READS IS OF BULK AT MOST 1048576: true; the input reads as it did. -/
def seriesForkUptoRow : OpenClaim := { program := "ytfncgpojoccgfaa", sum := "4fdd494d6e4aaa98d7c193a0a14c580d99d39e7c62fc2acdd750548225843c60", func := "weir/weirlaw08.SeriesFork", spec := "seriesFork", unfollowed := true, recurses := true, apart := false, narrowed := true }
def SeriesForkUptoSaid : Prop := seriesForkUptoRow.holds Try.pinned (OpenSpec.upto seriesForkSpec)

/-- 'weirlaw08.SeriesWalks', WHERE WHAT IT READS IS OF BULK AT MOST 1048576: true; the input reads as it did. -/
def seriesWalksUptoRow : OpenClaim := { program := "ytfncgpojoccgfaa", sum := "4fdd494d6e4aaa98d7c193a0a14c580d99d39e7c62fc2acdd750548225843c60", func := "weir/weirlaw08.SeriesWalks", spec := "seriesWalks", unfollowed := true, recurses := true, apart := false, narrowed := true }
def SeriesWalksUptoSaid : Prop := seriesWalksUptoRow.holds Try.pinned (OpenSpec.upto seriesWalksSpec)

end Rows
end Go.Proofs.Ytfncgpojoccgfaa
