
import Derived.Test.YtfijagdbdbbbpaaDoorBuH
import Derived.Deep.RegionHeld3
namespace Go.Proofs.YtfijagdbdbbbpaaDoor
open Go.RowKit
set_option linter.unusedVariables false
set_option linter.unusedSimpArgs false
theorem rdB_small (bs : Nat → Nat) (q : Nat) : ∀ c, rdB bs q c < 2 ^ c := by
  intro c
  induction c with
  | zero => simp [rdB]
  | succ c ih =>
    have : bs ((q + c) / 8) / 2 ^ (7 - (q + c) % 8) % 2 < 2 := Nat.mod_lt _ (by omega)
    simp only [rdB, Nat.pow_succ]; omega
section
variable {N : Nat} {w1 : World} {a : Option Addr} {n cap p r : Nat} {bs : Nat → Nat} {fv : Option (Int × Int)} {w : World}
end
end Go.Proofs.YtfijagdbdbbbpaaDoor
