
import Derived.Test.YtfijagdbdbbbpaaDoorBuJ
namespace Go.Proofs.YtfijagdbdbbbpaaDoor
open Go.RowKit
set_option linter.unusedVariables false
set_option linter.unusedSimpArgs false
/-- what is added to a turn. -/
def addC (d : Int) : Int := if d = 0 then 0 else if -63 ≤ d ∧ d ≤ 64 then 63 else if -255 ≤ d ∧ d ≤ 256 then 255 else if -2047 ≤ d ∧ d ≤ 2048 then 2047 else 0
theorem addC_eq (d : Int) (hd : -9223372036854775808 ≤ d ∧ d ≤ 9223372036854775807) : IntKind.u64.wrap (wrap64 (d + addC d)) = ((turnC d : Nat) : Int) := by
  rw [IntKind.wrap_u64]
  unfold addC turnC wrap64
  repeat' split <;> try omega
theorem turnC_lt (d : Int) : turnC d < 18446744073709551616 := by unfold turnC; repeat' split <;> try omega
theorem turnB_le (d : Int) : turnB d ≤ 4 := by unfold turnB; repeat' split <;> try omega
theorem turnD_le (d : Int) : turnD d ≤ 64 := by unfold turnD; repeat' split <;> try omega
theorem turnA_lt (d : Int) : turnA d < 100 := by unfold turnA; repeat' split <;> try omega
theorem broughtN_nat (k : Nat) (h : k ≤ 64) : broughtN (k : Int) = k := by unfold broughtN; rw [if_neg (by omega), if_neg (by omega)]; omega
end Go.Proofs.YtfijagdbdbbbpaaDoor
