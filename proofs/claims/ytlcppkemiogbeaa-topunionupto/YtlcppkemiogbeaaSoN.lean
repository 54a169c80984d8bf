
import Derived.Test.YtlcppkemiogbeaaSoM
namespace Go.Proofs.Ytlcppkemiogbeaa.So
open Go.RowKit
set_option linter.unusedVariables false
set_option linter.unusedSimpArgs false
theorem TR.congr {w : World} {b off n : Nat} {F G : Nat → Tg} (h : TR w b off n F) (e : ∀ k, k < n → F k = G k) : TR w b off n G := ⟨h.1, fun k hk => by rw [← e k hk]; exact h.2 k hk⟩
theorem TR.less {w : World} {b off n m : Nat} {F : Nat → Tg} (h : TR w b off n F) (hm : m ≤ n) : TR w b off m F := ⟨h.1, fun k hk => h.2 k (by omega)⟩
/-- reversed as far as i from both ends. -/
def rv (F : Nat → Tg) (n i : Nat) : Nat → Tg := fun k => if k < i ∨ (n ≤ k + i ∧ k < n) then F (n - 1 - k) else F k
theorem rv_zero (F : Nat → Tg) (n : Nat) : rv F n 0 = F := by
  funext k; unfold rv; rw [if_neg (by omega)]
theorem rv_step (F : Nat → Tg) (n i : Nat) (h : i + i + 1 < n) : sw (rv F n i) i (n - 1 - i) = rv F n (i + 1) := by
  funext k
  unfold sw rv
  repeat' split
  all_goals first | rfl | (exfalso; omega) | (congr 1; omega)
theorem rv_end (F : Nat → Tg) (n i : Nat) (h : n ≤ i + i + 1) (k : Nat) (hk : k < n) : rv F n i k = F (n - 1 - k) := by
  unfold rv
  split
  · rfl
  · congr 1; omega
theorem ba_dec (a b : ByteArray) : (a.toList == b.toList) = decide (a = b) := by
  by_cases h : a = b
  · subst h; simp
  · rw [decide_eq_false h, beq_eq_false_iff_ne]
    intro e
    rw [ByteArray.toList_eq, ByteArray.toList_eq] at e
    exact h (ByteArray.ext (Array.ext' e))
end Go.Proofs.Ytlcppkemiogbeaa.So
