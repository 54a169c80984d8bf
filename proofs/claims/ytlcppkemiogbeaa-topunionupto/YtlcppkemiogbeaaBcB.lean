
import Derived.Test.YtlcppkemiogbeaaBcA
namespace Go.Proofs.Ytlcppkemiogbeaa
open Go.RowKit _root_.Go.Proofs.Ytlcppkemiogbeaa.So
set_option linter.unusedVariables false
set_option linter.unusedSimpArgs false
/-- of two rows, one behind the other. -/
theorem odD_app (l m : List WrP) : odD (l ++ m) = mgD (odD l) (odD m) := by
  obtain ⟨a1, a2⟩ := odD_ok _ l (Nat.le_refl _)
  obtain ⟨b1, b2⟩ := odD_ok _ m (Nat.le_refl _)
  obtain ⟨c1, c2⟩ := odD_ok _ (l ++ m) (Nat.le_refl _)
  obtain ⟨m1, m2⟩ := mgD_ok _ _ _ (Nat.le_refl _) a1 b1
  refine sw_uniq _ _ c1 m1 fun e => ?_
  rw [c2 e, LW.app, m2 e, a2 e, b2 e]
  constructor
  · rintro (h | ⟨h, h2⟩)
    · exact Or.inl h
    · exact Or.inr ⟨h, fun y hy => h2 y ((b2 y).1 hy).mem⟩
  · rintro (h | ⟨h, h2⟩)
    · exact Or.inl h
    · exact Or.inr ⟨h, fun y hy h0 => by
        obtain ⟨z, hz, e2⟩ := LW.ex hy
        exact h2 z ((b2 z).2 hz) (by rw [wC_left z h0]; exact e2)⟩
end Go.Proofs.Ytlcppkemiogbeaa
