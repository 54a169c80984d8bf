
import Derived.Test.YtipahdplkmmofaaGreatDoorNum4
namespace Go.Proofs.YtipahdplkmmofaaGreatDoor
open Go.RowKit Go.Shelf
set_option linter.unusedVariables false

/-- the number of the error of an answer that must be an int64. -/
def sc (v : Int) : Int := if -9223372036854775808 ≤ v ∧ v < 9223372036854775808 then 0 else 20
theorem sc_yes {v : Int} (h : I64 v) : sc v = 0 := if_pos h
theorem sc_no {v : Int} (h : ¬ I64 v) : sc v = 20 := if_neg h

theorem refnew (c : Int) (w : World) : Calls Tryz.prog 29 #[.int .i64 c] w fun e w' => e = .returned (.agg #[.int .i64 c, .int .i64 0, .int .i64 0, .bool false, .bool false]) ∧ ∃ c1 : Array Value, w' = w.alloc (.cells c1 29) := by
  go_enter Tryz.func29, Tryz.ntmps29
  go_wp2
  simp [bodyPost, results, Tryz.results29, go_sem]
  exact ⟨_, rfl⟩

theorem wrap_in (v : Int) (h : I64 v) : wrap64 v = v := by unfold I64 at h; unfold wrap64; omega
theorem wrap_hi (v : Int) (h : ¬ I64 v) (h1 : 0 < v) (h2 : v < 18446744073709551616) : wrap64 v = v - 18446744073709551616 := by unfold I64 at h; unfold wrap64; omega
theorem wrap_lo (v : Int) (h : ¬ I64 v) (h1 : v < 0) (h2 : -18446744073709551616 ≤ v) : wrap64 v = v + 18446744073709551616 := by unfold I64 at h; unfold wrap64; omega


theorem quo_tdiv (a b : Int) (h0 : b ≠ 0) : quoI a b = if a.tmod b = 0 ∨ (a < 0 ↔ b < 0) then a.tdiv b else a.tdiv b - 1 := by
  have ht := tmod_ab a b
  have hB : 0 < ab b := by unfold ab; split <;> omega
  have e := Int.mul_ediv_add_emod (ab a) (ab b)
  have em := Int.mul_tdiv_add_tmod a b
  have q0 : 0 ≤ ab a / ab b := Int.ediv_nonneg (by unfold ab; split <;> omega) (by omega)
  have key : a.tdiv b = if (a < 0 ↔ b < 0) then ab a / ab b else -(ab a / ab b) := by
    have hb' : b * a.tdiv b = b * (if (a < 0 ↔ b < 0) then ab a / ab b else -(ab a / ab b)) := by
      by_cases ha : a < 0 <;> by_cases hb : b < 0
      · rw [if_pos ha] at ht
        rw [if_pos (show (a < 0 ↔ b < 0) by simp [ha, hb])]
        rw [ab_neg ha, ab_neg hb] at ht e q0 ⊢
        have : -b * (-a / -b) = -(b * (-a / -b)) := Int.neg_mul _ _
        omega
      · rw [if_pos ha] at ht
        rw [if_neg (show ¬ (a < 0 ↔ b < 0) by simp [ha, hb])]
        rw [ab_neg ha, ab_pos hb] at ht e q0 ⊢
        rw [Int.mul_neg]
        omega
      · rw [if_neg ha] at ht
        rw [if_neg (show ¬ (a < 0 ↔ b < 0) by simp [ha, hb])]
        rw [ab_pos ha, ab_neg hb] at ht e q0 ⊢
        have : -b * (a / -b) = -(b * (a / -b)) := Int.neg_mul _ _
        rw [Int.mul_neg]
        omega
      · rw [if_neg ha] at ht
        rw [if_pos (show (a < 0 ↔ b < 0) by simp [ha, hb])]
        rw [ab_pos ha, ab_pos hb] at ht e q0 ⊢
        omega
    exact Int.eq_of_mul_eq_mul_left h0 hb'
  have hz : a.tmod b = 0 ↔ ab a % ab b = 0 := by rw [ht]; split <;> omega
  unfold quoI
  rw [key]
  by_cases hs : (a < 0 ↔ b < 0)
  · rw [if_pos hs, if_pos (Or.inr hs), if_pos hs]
  · rw [if_neg hs, if_neg hs]
    by_cases hr : ab a % ab b = 0
    · rw [if_pos hr, if_pos (Or.inl (hz.2 hr))]
    · rw [if_neg hr, if_neg (by intro h; rcases h with h | h; exact hr (hz.1 h); exact hs h)]
end Go.Proofs.YtipahdplkmmofaaGreatDoor
