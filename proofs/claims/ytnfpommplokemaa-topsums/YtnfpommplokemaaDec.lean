
import Derived.Test.YtnfpommplokemaaNum1
namespace Go.Proofs.Ytnfpommplokemaa
set_option linter.unusedVariables false
/-- the digits of a number, the greatest first. -/
def digs : Nat → Nat → List Nat
  | 0, v => [v % 10]
  | f + 1, v => if v < 10 then [v] else digs f (v / 10) ++ [v % 10]
theorem digs_ne (f v : Nat) : digs f v ≠ [] := by
  cases f with
  | zero => simp [digs]
  | succ f => unfold digs; split <;> simp
theorem digs_lt (f v : Nat) : ∀ x ∈ digs f v, x < 10 := by
  induction f generalizing v with
  | zero => intro x hx; simp [digs] at hx; omega
  | succ f ih =>
    intro x hx; unfold digs at hx
    split at hx
    · simp at hx; omega
    · rcases List.mem_append.1 hx with hx | hx
      · exact ih _ x hx
      · simp at hx; omega
theorem digs_len (f v : Nat) : (digs f v).length ≤ f + 1 := by
  induction f generalizing v with
  | zero => simp [digs]
  | succ f ih => unfold digs; split; simp; simp; exact ih _
def val (l : List Nat) : Nat := l.foldl (fun a d => a * 10 + d) 0
theorem val_snoc (l : List Nat) (d : Nat) : val (l ++ [d]) = val l * 10 + d := by simp [val]
theorem val_digs (f v : Nat) (h : v < 10 ^ (f + 1)) : val (digs f v) = v := by
  induction f generalizing v with
  | zero => simp [digs, val]; omega
  | succ f ih =>
    unfold digs; split
    · simp [val]
    · rw [val_snoc, ih (v / 10) (by rw [Nat.pow_succ] at h; omega)]; omega
theorem val_le_snoc (l : List Nat) (d : Nat) : val l ≤ val (l ++ [d]) := by rw [val_snoc]; omega
theorem fold_ge (l : List Nat) (a : Nat) : a ≤ l.foldl (fun a d => a * 10 + d) a := by
  induction l generalizing a with
  | nil => exact Nat.le_refl _
  | cons d l ih => exact Nat.le_trans (by omega) (ih (a * 10 + d))
theorem val_take (l : List Nat) (k : Nat) : val (l.take k) ≤ val l := by
  have h : val l = (l.drop k).foldl (fun a d => a * 10 + d) (val (l.take k)) := by
    unfold val; rw [← List.foldl_append, List.take_append_drop]
  rw [h]; exact fold_ge _ _
theorem val_step (l : List Nat) (k : Nat) (h : k < l.length) : val (l.take (k + 1)) = val (l.take k) * 10 + l.getD k 0 := by
  rw [List.take_add_one, List.getElem?_eq_getElem h]
  simp only [Option.toList]
  rw [val_snoc, List.getD_eq_getElem?_getD, List.getElem?_eq_getElem h]; rfl
/-- the digits of v, below 10^39. -/
def decD (v : Nat) : List Nat := digs 38 v
/-- behind k digits R is left; T are they. -/
def prS (V k R : Nat) (T : List Nat) : Prop :=
  T.length = k ∧ R < 10 ^ (39 - k) ∧ k ≤ 39 ∧ (∀ x ∈ T, x < 10) ∧ ((R = 0 ∧ 0 < k ∧ decD V = T) ∨ ((R ≠ 0 ∨ k = 0) ∧ k ≤ 38 ∧ decD V = digs (38 - k) R ++ T))
theorem prS_start (V : Nat) (h : V < 10 ^ 39) : prS V 0 V [] := ⟨rfl, h, by omega, by simp, Or.inr ⟨Or.inr rfl, by omega, by simp [decD]⟩⟩
theorem prS_step {V k R : Nat} {T : List Nat} (h : prS V k R T) (hc : R ≠ 0 ∨ k = 0) : prS V (k + 1) (R / 10) (R % 10 :: T) ∧ k ≤ 38 := by
  obtain ⟨h1, h2, h3, h4, h5⟩ := h
  rcases h5 with ⟨a, b, _⟩ | ⟨_, hk, hD⟩
  · omega
  refine ⟨⟨by simp [h1], ?_, by omega, ?_, ?_⟩, hk⟩
  · have e : 39 - k = (39 - (k + 1)) + 1 := by omega
    rw [e, Nat.pow_succ] at h2
    omega
  · intro x hx
    rcases List.mem_cons.1 hx with rfl | hx
    · omega
    · exact h4 x hx
  · by_cases hR : R < 10
    · left
      refine ⟨by omega, by omega, ?_⟩
      rw [hD, show digs (38 - k) R = [R] by
        cases hf : 38 - k with
        | zero => simp [digs]; omega
        | succ f => simp [digs, hR]]
      simp; omega
    · right
      have hk37 : k ≤ 37 := by
        rcases Nat.lt_or_ge k 38 with h | h
        · omega
        · obtain rfl : k = 38 := by omega
          simp at h2; omega
      refine ⟨Or.inl (by omega), by omega, ?_⟩
      rw [hD]
      have e : 38 - k = (38 - (k + 1)) + 1 := by omega
      rw [e]
      simp [digs, hR]
theorem prS_end {V k R : Nat} {T : List Nat} (h : prS V k R T) (hR : R = 0) (hk : k ≠ 0) : T = decD V := by
  obtain ⟨h1, h2, h3, h4, h5⟩ := h
  rcases h5 with ⟨_, _, hD⟩ | ⟨a, _, _⟩
  · exact hD.symm
  · omega
theorem decD_len (v : Nat) : (decD v).length ≤ 39 := digs_len 38 v
theorem decD_lt (v : Nat) : ∀ x ∈ decD v, x < 10 := digs_lt 38 v
theorem val_decD (v : Nat) (h : v < 10 ^ 39) : val (decD v) = v := val_digs 38 v h
end Go.Proofs.Ytnfpommplokemaa
