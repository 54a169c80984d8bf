
import Derived.Test.YtlcppkemiogbeaaSoF
namespace Go.Proofs.Ytlcppkemiogbeaa.So
open Go.RowKit
set_option linter.unusedVariables false
set_option linter.unusedSimpArgs false
/-- a tag and where it stood. -/
abbrev En := Tg × Nat
def fs (f : Nat → En) : Nat → Tg := fun k => (f k).1
theorem fs_rot (f : Nat → En) (a m b : Nat) : fs (rot f a m b) = rot (fs f) a m b := by
  funext k; unfold fs rot; repeat' split
  all_goals rfl
theorem fs_sw (f : Nat → En) (i j : Nat) : fs (sw f i j) = sw (fs f) i j := by
  funext k; unfold fs sw; repeat' split
  all_goals rfl
/-- what a function value answers of two tags. -/
def CmpA (g : Nat) (c : Tg → Tg → Int) : Prop := ∀ (x y : Tg) (W : World), Calls Try.prog g #[.agg #[.string x.1, .string x.2], .agg #[.string y.1, .string y.2]] W fun e w' => e = .returned (.int .i64 (c x y)) ∧ Below W.heap.size W w'
abbrev ltE (c : Tg → Tg → Int) : En → En → Bool := fun x y => decide (c x.1 y.1 < 0)
end Go.Proofs.Ytlcppkemiogbeaa.So
