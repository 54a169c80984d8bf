
import Derived.Test.YtjiiafmbneehhaaDoorNum3
namespace Go.Proofs.YtjiiafmbneehhaaDoor
open Go.RowKit Go.Shelf

theorem quo_over (v n : Int) (hn : 1 ≤ ab n) (hov : ab n ≤ sH (ab v)) : ¬ I64 (quoI v n) := by
  have h1 : 18446744073709551616 * ab n ≤ ab v := by unfold sH at hov; omega
  have h2 : 18446744073709551616 ≤ ab v / ab n := (Int.le_ediv_iff_mul_le (by omega)).2 h1
  unfold I64 quoI
  generalize ab v / ab n = q at *
  split
  · omega
  · split <;> omega

theorem tmod_ab (a b : Int) : a.tmod b = if a < 0 then -(ab a % ab b) else ab a % ab b := by
  have key : ∀ x y : Int, 0 ≤ x → x.tmod y = x % ab y := by
    intro x y hx
    rw [Int.tmod_eq_emod_of_nonneg hx]
    unfold ab; split
    · rw [Int.emod_neg]
    · rfl
  by_cases h : a < 0
  · rw [if_pos h, ab_neg h]
    have := key (-a) b (by omega)
    rw [Int.neg_tmod] at this
    omega
  · rw [if_neg h, ab_pos h]
    exact key a b (by omega)

theorem quo_mod (a b : Int) (h0 : b ≠ 0) : quoI a b * b + modI a b = a ∧ (0 < b → 0 ≤ modI a b ∧ modI a b < b) ∧ (b < 0 → b < modI a b ∧ modI a b ≤ 0) := by
  have hB : 0 < ab b := by unfold ab; split <;> omega
  have e := Int.mul_ediv_add_emod (ab a) (ab b)
  have r1 := Int.emod_nonneg (ab a) (show ab b ≠ 0 by omega)
  have r2 := Int.emod_lt_of_pos (ab a) hB
  have ht := tmod_ab a b
  unfold quoI modI
  rw [ht]
  generalize ab a % ab b = r at *
  generalize ab a / ab b = q at *
  have fin : ∀ (Q M : Int), Q * b + M = a → (0 < b → 0 ≤ M ∧ M < b) → (b < 0 → b < M ∧ M ≤ 0) → Q * b + M = a ∧ (0 < b → 0 ≤ M ∧ M < b) ∧ (b < 0 → b < M ∧ M ≤ 0) := fun Q M x y z => ⟨x, y, z⟩
  by_cases ha : a < 0 <;> by_cases hb : b < 0
  · rw [ab_neg ha, ab_neg hb] at *
    have hp : q * b = -(-b * q) := by rw [Int.neg_mul, Int.neg_neg, Int.mul_comm]
    generalize hpp : -b * q = p at *
    rw [if_pos (show (a < 0 ↔ b < 0) by simp [ha, hb]), if_pos ha]
    by_cases hr : r = 0
    · rw [if_pos (Or.inl (by omega))]; exact fin _ _ (by omega) (by omega) (by omega)
    · rw [if_pos (Or.inr (by omega))]; exact fin _ _ (by omega) (by omega) (by omega)
  · rw [ab_neg ha, ab_pos hb] at *
    have hp : -q * b = -(b * q) := by rw [Int.neg_mul, Int.mul_comm]
    have hp1 : (-q - 1) * b = -(b * q) - b := by rw [Int.sub_mul, hp, Int.one_mul]
    generalize hpp : b * q = p at *
    rw [if_neg (show ¬ (a < 0 ↔ b < 0) by simp [ha, hb]), if_pos ha]
    by_cases hr : r = 0
    · rw [if_pos hr, if_pos (Or.inl (by omega))]; exact fin _ _ (by omega) (by omega) (by omega)
    · rw [if_neg hr, if_neg (by omega)]; exact fin _ _ (by omega) (by omega) (by omega)
  · rw [ab_pos ha, ab_neg hb] at *
    have hp : -q * b = -b * q := by rw [Int.neg_mul, Int.neg_mul, Int.mul_comm]
    have hp1 : (-q - 1) * b = -b * q - b := by rw [Int.sub_mul, hp, Int.one_mul]
    generalize hpp : -b * q = p at *
    rw [if_neg (show ¬ (a < 0 ↔ b < 0) by simp [ha, hb]), if_neg ha]
    by_cases hr : r = 0
    · rw [if_pos hr, if_pos (Or.inl (by omega))]; exact fin _ _ (by omega) (by omega) (by omega)
    · rw [if_neg hr, if_neg (by omega)]; exact fin _ _ (by omega) (by omega) (by omega)
  · rw [ab_pos ha, ab_pos hb] at *
    have hp : q * b = b * q := Int.mul_comm _ _
    generalize hpp : b * q = p at *
    rw [if_pos (show (a < 0 ↔ b < 0) by simp [ha, hb]), if_neg ha]
    by_cases hr : r = 0
    · rw [if_pos (Or.inl (by omega))]; exact fin _ _ (by omega) (by omega) (by omega)
    · rw [if_pos (Or.inr (by omega))]; exact fin _ _ (by omega) (by omega) (by omega)

theorem quo_big (a b : Int) (ha : I64 a) (hb : I64 b) (h0 : b ≠ 0) (h : ¬ I64 (quoI a b)) : a = -9223372036854775808 ∧ b = -1 := by
  unfold I64 at *
  have hB : 0 < ab b := by unfold ab; split <;> omega
  have hle : ab a / ab b ≤ ab a := Int.ediv_le_self _ (by unfold ab; split <;> omega)
  have h0' : 0 ≤ ab a / ab b := Int.ediv_nonneg (by unfold ab; split <;> omega) (by omega)
  have hb1 : ab b = 1 ∨ ab a / ab b ≤ ab a / 2 := by
    by_cases c : ab b = 1
    · exact Or.inl c
    · right
      have hh : ab a / ab b < ab a / 2 + 1 := by
        apply Int.ediv_lt_of_lt_mul hB
        have : 2 * (ab a / 2 + 1) ≤ (ab a / 2 + 1) * ab b := by
          rw [Int.mul_comm 2]; exact Int.mul_le_mul_of_nonneg_left (by omega) (by unfold ab; split <;> omega)
        omega
      omega
  unfold quoI at h
  have hmod : ab b = 1 → ab a % ab b = 0 := fun c => by rw [c]; omega
  have hdiv : ab b = 1 → ab a / ab b = ab a := fun c => by rw [c]; omega
  generalize ab a % ab b = r at *
  generalize ab a / ab b = q at *
  unfold ab at *
  by_cases x1 : a < 0 <;> by_cases x2 : b < 0 <;> simp only [x1, x2, if_true, if_false, iff_self, iff_true, iff_false, not_true] at h hle hb1 hmod hdiv h0' ⊢
  all_goals first | omega | (split at h <;> omega)
end Go.Proofs.YtjiiafmbneehhaaDoor
