
import Derived.Test.YtlcppkemiogbeaaBcB
namespace Go.Proofs.Ytlcppkemiogbeaa
open Go.RowKit _root_.Go.Proofs.Ytlcppkemiogbeaa.So
set_option linter.unusedVariables false
set_option linter.unusedSimpArgs false
theorem LW_sw : ∀ {l : List WrP}, SW l → ∀ e, LW l e ↔ e ∈ l
  | [], _, e => by simp [LW]
  | x :: l, h, e => by
    obtain ⟨h1, h2⟩ := List.pairwise_cons.1 h
    rw [LW.cons, LW_sw h2 e, List.mem_cons]
    constructor
    · rintro (⟨rfl, _⟩ | h3)
      · exact Or.inl rfl
      · exact Or.inr h3
    · rintro (rfl | h3)
      · exact Or.inl ⟨rfl, fun y hy h0 => by have := h1 y hy; omega⟩
      · exact Or.inr h3
theorem odD_sw (l : List WrP) : SW (odD l) := (odD_ok _ l (Nat.le_refl _)).1
theorem odD_idem (l : List WrP) : odD (odD l) = odD l := by
  obtain ⟨c1, c2⟩ := odD_ok _ (odD l) (Nat.le_refl _)
  exact sw_uniq _ _ c1 (odD_sw l) fun e => by rw [c2 e, LW_sw (odD_sw l)]
theorem odD_two_is (l m : List WrP) : odD (odD l ++ odD m) = odD (l ++ m) := by rw [odD_app, odD_app, odD_idem, odD_idem]
theorem odD_nil (l : List WrP) : 0 < (odD l).length ↔ 0 < l.length := by
  constructor
  · intro h; have := odD_len l; omega
  · intro h
    rcases l with _ | ⟨x, l⟩
    · simp at h
    · obtain ⟨z, hz, _⟩ := LW.ex (l := x :: l) (y := x) (by simp)
      have := (odD_ok _ (x :: l) (Nat.le_refl _)).2 z
      exact List.length_pos_of_mem (this.2 hz)
theorem odD_tags (l : List WrP) (h : ∀ x ∈ l, x.s.t.length ≤ 4398046511104) : ∀ x ∈ odD l, x.s.t.length ≤ 4398046511104 := fun x hx => h x (((odD_ok _ l (Nat.le_refl _)).2 x).1 hx).mem
theorem wC_m1 {x y : WrP} (h : wC x y < 0) : wC x y = -1 ∧ wC y x = 1 := by
  have h1 : wC x y = -1 ∨ wC x y = 0 ∨ wC x y = 1 := kC_is.range _ _
  have := wC_flip x y
  omega
end Go.Proofs.Ytlcppkemiogbeaa
