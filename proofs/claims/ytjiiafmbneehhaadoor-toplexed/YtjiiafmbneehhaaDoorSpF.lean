
import Derived.Test.YtjiiafmbneehhaaDoorNum4
import Derived.Test.YtjiiafmbneehhaaDoorSpA
import Derived.LoopTactic
namespace Go.Proofs.YtjiiafmbneehhaaDoor
open Go.RowKit
set_option linter.unusedVariables false
set_option linter.unusedSimpArgs false
theorem ret_int {k : IntKind} {a b : Int} (h : a = b) : Ending.returned (.int k a) = .returned (.int k b) := by rw [h]
theorem ret_tup2 {k : IntKind} {a b : Int} {v : Value} (h : a = b) : Ending.returned (.tuple #[.int k a, v]) = .returned (.tuple #[.int k b, v]) := by rw [h]
theorem bgn_bd2 (y : Int) (h1 : 0 ≤ y) (h2 : y ≤ 10001) : -719528 ≤ bgn y ∧ bgn y ≤ 3000000 := by unfold bgn; omega
end Go.Proofs.YtjiiafmbneehhaaDoor
