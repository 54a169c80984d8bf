
import Derived.Test.YtipahdplkmmofaaGreatDoorWwBq
import Derived.Deep.RegionHeld3
namespace Go.Proofs.YtipahdplkmmofaaGreatDoor.Wi
open Go.RowKit
set_option linter.unusedVariables false
set_option linter.unusedSimpArgs false
theorem lowest_z (x r now : Nat) (hx : x < 18446744073709551616) (hk : now ≤ 8) (z y : Int) (hz : z = ((x / 2 ^ r : Nat) : Int)) (hy : y = (now : Int)) (w : World) : Calls Tryz.prog 100 #[.int .u64 z, .int .i64 y] w fun e w' => e = .returned (.int .u8 ((x / 2 ^ r % 2 ^ now : Nat) : Int)) ∧ w' = w := by
  subst hz hy
  exact lowest_any _ now (Nat.lt_of_le_of_lt (Nat.div_le_self _ _) hx) hk w
end Go.Proofs.YtipahdplkmmofaaGreatDoor.Wi
