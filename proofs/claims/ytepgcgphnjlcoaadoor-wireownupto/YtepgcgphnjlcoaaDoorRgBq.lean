
import Derived.Test.YtepgcgphnjlcoaaDoorRgAq
namespace Go.Proofs.YtepgcgphnjlcoaaDoor
open Go.RowKit
set_option linter.unusedVariables false
set_option linter.unusedSimpArgs false
/-- the fault where m whole bytes are read. -/
def beginF (bs : Nat → Nat) (n p r m : Nat) (fv : Option (Int × Int)) : Option (Int × Int) := if (startF bs p r fv).isSome then startF bs p r fv else hasF n p m none
/-- a number: where it goes wrong, or what it says and how many bytes it has. -/
def numS (bs : Nat → Nat) (n p : Nat) : Nat → Nat → Nat → (Int × Int) ⊕ (Nat × Nat)
  | 0, _, _ => .inl (0, 0)
  | f + 1, s, v => if n < p + (s + 1) then .inl ((n : Int), 30)
    else if (s = 9 ∧ 1 < bs (p + s)) ∨ (0 < s ∧ bs (p + s) = 0) then .inl (((p + s : Nat) : Int), 31)
    else if bs (p + s) < 128 then .inr (v + bs (p + s) % 128 * 128 ^ s, s + 1) else numS bs n p f (s + 1) (v + bs (p + s) % 128 * 128 ^ s)
theorem uBf_more : ∀ (f v : Nat), v < 128 ^ (f + 1) → uBf (f + 1) v = uBf f v := by
  intro f
  induction f with
  | zero => intro v h; simp at h; simp [uBf, h]
  | succ f ih =>
    intro v h
    by_cases hv : v < 128
    · simp [uBf, hv]
    · have h1 : uBf (f + 1 + 1) v = (v % 128 + 128) :: uBf (f + 1) (v / 128) := by conv => lhs; unfold uBf; rw [if_neg hv]
      have h2 : uBf (f + 1) v = (v % 128 + 128) :: uBf f (v / 128) := by conv => lhs; unfold uBf; rw [if_neg hv]
      rw [h1, h2, ih (v / 128) (by rw [Nat.div_lt_iff_lt_mul (by omega)]; rw [Nat.pow_succ] at h; omega)]
/-- what is read as a number is written so. -/
theorem numS_ok (bs : Nat → Nat) (n p : Nat) (hbs : ∀ i, i < n → bs i < 256) : ∀ (f s v x l : Nat), s + f = 10 → v < 128 ^ s → numS bs n p f s v = .inr (x, l) →
    ∃ X, x = v + X * 128 ^ s ∧ l = s + (uBf (f - 1) X).length ∧ p + l ≤ n ∧ (∀ i, i < (uBf (f - 1) X).length → bs (p + s + i) = (uBf (f - 1) X).getD i 0) ∧ (0 < s → X ≠ 0) ∧ x < 18446744073709551616 ∧ X < 128 ^ f := by
  intro f
  induction f with
  | zero => intro s v x l _ _ h; simp [numS] at h
  | succ f ih =>
    intro s v x l hsf hv h
    unfold numS at h
    by_cases h1 : n < p + (s + 1)
    · rw [if_pos h1] at h; cases h
    rw [if_neg h1] at h
    by_cases h2 : (s = 9 ∧ 1 < bs (p + s)) ∨ (0 < s ∧ bs (p + s) = 0)
    · rw [if_pos h2] at h; cases h
    rw [if_neg h2] at h
    by_cases h3 : bs (p + s) < 128
    · rw [if_pos h3] at h
      obtain ⟨rfl, rfl⟩ : v + bs (p + s) % 128 * 128 ^ s = x ∧ s + 1 = l := by simpa using h
      have hy : bs (p + s) % 128 = bs (p + s) := Nat.mod_eq_of_lt h3
      have hu : uBf f (bs (p + s)) = [bs (p + s)] := by cases f <;> simp [uBf, h3]
      refine ⟨bs (p + s), by rw [hy], by rw [show f + 1 - 1 = f by omega, hu]; rfl, by omega, ?_, fun h0 e => h2 (Or.inr ⟨h0, e⟩), ?_, ?_⟩
      · rw [show f + 1 - 1 = f by omega, hu]
        intro i hi
        simp at hi
        subst hi
        simp
      · rw [hy]
        by_cases h9 : s = 9
        · have : bs (p + s) ≤ 1 := by omega
          subst h9
          have : bs (p + 9) = 0 ∨ bs (p + 9) = 1 := by omega
          rcases this with e | e <;> rw [e] <;> omega
        · have h10 : v + bs (p + s) * 128 ^ s < 128 ^ (s + 1) := by
            have hle : bs (p + s) * 128 ^ s ≤ 127 * 128 ^ s := Nat.mul_le_mul_right _ (by omega)
            rw [Nat.pow_succ]; omega
          have h11 : 128 ^ (s + 1) ≤ 128 ^ 9 := Nat.pow_le_pow_right (by omega) (by omega)
          omega
      · have : 128 ^ 1 ≤ 128 ^ (f + 1) := Nat.pow_le_pow_right (by omega) (by omega)
        omega
    · rw [if_neg h3] at h
      have hlt : v + bs (p + s) % 128 * 128 ^ s < 128 ^ (s + 1) := by
        have : bs (p + s) % 128 < 128 := Nat.mod_lt _ (by omega)
        have hle : bs (p + s) % 128 * 128 ^ s ≤ 127 * 128 ^ s := Nat.mul_le_mul_right _ (by omega)
        rw [Nat.pow_succ]; omega
      obtain ⟨X, hx, hl, hn, hb, h0, hxx, hXf⟩ := ih (s + 1) _ x l (by omega) hlt h
      have hX0 := h0 (by omega)
      have hy256 := hbs (p + s) (by omega)
      obtain ⟨y, hy⟩ : ∃ y, y = bs (p + s) := ⟨_, rfl⟩
      rw [← hy] at h3 hlt hx hy256
      have hym : y % 128 = y - 128 := by omega
      cases f with
      | zero => simp [numS] at h
      | succ g =>
        simp only [Nat.add_sub_cancel] at hl hb ⊢
        have hXX : 128 ≤ y - 128 + 128 * X := by omega
        have hd : (y - 128 + 128 * X) / 128 = X := by omega
        have hmm : (y - 128 + 128 * X) % 128 = y - 128 := by omega
        have hu : uBf (g + 1) (y - 128 + 128 * X) = y :: uBf g X := by
          conv => lhs; unfold uBf
          rw [if_neg (by omega), hd, hmm, show y - 128 + 128 = y by omega]
        refine ⟨y - 128 + 128 * X, ?_, by rw [hu]; simp; omega, hn, ?_, fun _ => by omega, hxx, ?_⟩
        · rw [hx, hym, Nat.pow_succ, Nat.add_mul, Nat.mul_comm 128 X, Nat.mul_assoc X 128, Nat.mul_comm 128 (128 ^ s)]; omega
        · rw [hu]
          intro i hi
          rcases i with _ | i
          · simp [← hy]
          · have := hb i (by simpa using hi)
            rw [List.getD_cons_succ, ← this]
            congr 1; omega
        · rw [Nat.pow_succ]; omega
end Go.Proofs.YtepgcgphnjlcoaaDoor
