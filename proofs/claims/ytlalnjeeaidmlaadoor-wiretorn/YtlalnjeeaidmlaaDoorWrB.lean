
import Derived.Test.YtlalnjeeaidmlaaDoorWrA
namespace Go.Proofs.YtlalnjeeaidmlaaDoor
open Go.RowKit
set_option linter.unusedVariables false
set_option linter.unusedSimpArgs false
/-! ### a number without sign, as bytes -/
def enc (l : List Nat) : List Value := l.map fun (b : Nat) => Value.int .u8 (b : Int)
def uBf : Nat → Nat → List Nat
  | 0, v => [v]
  | f + 1, v => if v < 128 then [v] else (v % 128 + 128) :: uBf f (v / 128)
/-- the bytes of v, below 2^64. -/
def uB (v : Nat) : List Nat := uBf 10 v
theorem uBf_len (f v : Nat) : (uBf f v).length ≤ f + 1 := by
  induction f generalizing v with
  | zero => simp [uBf]
  | succ f ih => unfold uBf; split <;> simp; exact ih _
theorem or128 (a : Nat) (h : a < 256) : bits .or .u8 (a : Int) 128 = ((a % 128 + 128 : Nat) : Int) := by
  have h1 := u8_or_nat a 128 h (by omega)
  have h2 : ∀ a, a < 256 → a ||| 128 = a % 128 + 128 := by decide +kernel
  rw [h2 a h] at h1
  exact h1
end Go.Proofs.YtlalnjeeaidmlaaDoor
