
import Derived.Test.YtbojljmacheccaaGreatDoorLaK
import Derived.Test.YtbojljmacheccaaGreatDoorLaI
namespace Go.Proofs.YtbojljmacheccaaGreatDoor.Ln
open Go.RowKit Go.Shelf
attribute [local go_sem] Oper.semAt_some
set_option linter.unusedVariables false
set_option linter.unusedSimpArgs false
set_option maxRecDepth 100000
def QD (s : ByteArray) (n fr i : Nat) (ps : List Pt) : Prop := (∃ pre g, ParD s n fr i pre ps g) ∨ (i = s.size + 1 ∧ parO s.data.toList = .ok ps)
/-- while the document goes through the text. -/
structure StD (w : World) (s : ByteArray) (n fr i : Nat) (v : Value) (L : List PtQ) (ps : List Pt) (W : World) : Prop where
  q : QD s n fr i ps
  bl : Below w.heap.size w W
  m : W.heap[w.heap.size]? = some bdO
  op : OPl W (w.heap.size + 1) v L
  eq : L.map (·.p) = ps.map ptB
  few : L.length ≤ i
  nl : n ≤ i
theorem StD.below {w : World} {s : ByteArray} {n fr i : Nat} {v : Value} {L : List PtQ} {ps : List Pt} {W W' : World} (h : StD w s n fr i v L ps W) (hb : Below W.heap.size W W') {n2 fr2 i2 : Nat} (hq : QD s n2 fr2 i2 ps) (h1 : i ≤ i2) (h2 : n2 ≤ i2) : StD w s n2 fr2 i2 v L ps W' :=
  ⟨hq, h.bl.trans (hb.mono h.bl.size), (hb.block _ (Array.getElem?_eq_some_iff.1 h.m).1).trans h.m, h.op.below hb, h.eq, Nat.le_trans h.few h1, h2⟩
end Go.Proofs.YtbojljmacheccaaGreatDoor.Ln

namespace Go.Proofs.YtbojljmacheccaaGreatDoor.Ln
open Go.RowKit Go.Shelf
attribute [local go_sem] Oper.semAt_some
set_option linter.unusedVariables false
set_option linter.unusedSimpArgs false
set_option maxRecDepth 100000
/-! ### LineParses. -/
end Go.Proofs.YtbojljmacheccaaGreatDoor.Ln
