
import Derived.Test.YtcbcpncbekeoaaaDoorChainG
import Derived.LoopTactic
import Derived.Deep.CutRange
namespace Go.Proofs.YtcbcpncbekeoaaaDoor
open Go.RowKit
set_option linter.unusedVariables false
set_option linter.unusedSimpArgs false
def kindN (k : Int) : Nat := if k = 0 then 0 else if k = 1 then 1 else 2
/-- the layers of a shape, from the number k on. -/
def lnk (K N : Nat → Int) (len k : Nat) : List (Nat × Int) := ((List.range len).map fun i => (kindN (K i), N i)).drop k
theorem lnk_end (K N : Nat → Int) (len : Nat) : lnk K N len len = [] := by unfold lnk; rw [List.drop_eq_nil_of_le (by simp)]
theorem lnk_cons (K N : Nat → Int) (len k : Nat) (h : k < len) : lnk K N len k = (kindN (K k), N k) :: lnk K N len (k + 1) := by
  unfold lnk
  rw [List.drop_eq_getElem_cons (by simpa using h)]
  simp
def fW (k : Nat) (l : List (Nat × Int)) : Option Int := (findW k l).map (·.1)
theorem fW_nil (k : Nat) : fW k [] = none := rfl
theorem fW_hit (k : Nat) (n : Int) (l : List (Nat × Int)) : fW k ((k, n) :: l) = some n := by unfold fW; simp [findW]
theorem fW_miss (k j : Nat) (n : Int) (l : List (Nat × Int)) (h : j ≠ k) : fW k ((j, n) :: l) = fW k l := by unfold fW; simp [findW, h]
/-- the wraps of a shape, as they lie. -/
def WrapsAt (w : World) (a : Option Addr) (len : Nat) (K N : Nat → Int) : Prop :=
  len = 0 ∨ ∃ b off, a = some ⟨b, off, none⟩ ∧ b < w.heap.size ∧ ∀ i, i < len → w.cell? ⟨b, off + i * 2, none⟩ = some (.int .i64 (K i)) ∧ w.cell? ⟨b, off + i * 2 + 1, none⟩ = some (.int .i64 (N i))
end Go.Proofs.YtcbcpncbekeoaaaDoor
