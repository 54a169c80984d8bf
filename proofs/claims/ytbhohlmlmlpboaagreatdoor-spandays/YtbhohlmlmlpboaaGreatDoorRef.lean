
import Derived.Test.YtbhohlmlmlpboaaGreatDoorNum4
namespace Go.Proofs.YtbhohlmlmlpboaaGreatDoor
open Go.RowKit Go.Shelf
set_option linter.unusedVariables false

/-- the number of the error of an answer that must be an int64. -/
def sc (v : Int) : Int := if -9223372036854775808 ≤ v ∧ v < 9223372036854775808 then 0 else 20
theorem sc_yes {v : Int} (h : I64 v) : sc v = 0 := if_pos h
theorem sc_no {v : Int} (h : ¬ I64 v) : sc v = 20 := if_neg h

theorem refnew (c : Int) (w : World) : Calls Tryz.prog 21 #[.int .i64 c] w fun e w' => e = .returned (.agg #[.int .i64 c, .int .i64 0, .int .i64 0, .bool false, .bool false]) ∧ ∃ c1 : Array Value, w' = w.alloc (.cells c1 31) := by
  go_enter Tryz.func21, Tryz.ntmps21
  go_wp2
  simp [bodyPost, results, Tryz.results21, go_sem]
  exact ⟨_, rfl⟩

theorem wrap_in (v : Int) (h : I64 v) : wrap64 v = v := by unfold I64 at h; unfold wrap64; omega
theorem wrap_hi (v : Int) (h : ¬ I64 v) (h1 : 0 < v) (h2 : v < 18446744073709551616) : wrap64 v = v - 18446744073709551616 := by unfold I64 at h; unfold wrap64; omega
theorem wrap_lo (v : Int) (h : ¬ I64 v) (h1 : v < 0) (h2 : -18446744073709551616 ≤ v) : wrap64 v = v + 18446744073709551616 := by unfold I64 at h; unfold wrap64; omega


theorem refmod_zero (a : Int) (w : World) : Calls Tryz.prog 29 #[.int .i64 a, .int .i64 0] w fun e w' => e = .returned (.tuple #[.int .i64 0, .agg #[.int .i64 21, .int .i64 0, .int .i64 0, .bool false, .bool false]]) ∧ Below w.heap.size w w' := by
  go_enter Tryz.func29, Tryz.ntmps29
  go_wp2_with (go_at_call 21; refine (refnew 21 _).mono ?_; rintro e w' ⟨rfl, o1, rfl⟩)
  simp [bodyPost, results, Tryz.results29, go_sem]
  exact below_new (below_new (Below.refl _ _) _) _
theorem refmod (a b : Int) (hb : I64 b) (hb0 : b ≠ 0) (w : World) : Calls Tryz.prog 29 #[.int .i64 a, .int .i64 b] w fun e w' => e = .returned (.tuple #[.int .i64 (modI a b), .agg #[.int .i64 0, .int .i64 0, .int .i64 0, .bool false, .bool false]]) ∧ Below w.heap.size w w' := by
  have h0 : (b == 0) = false := by rw [beq_eq_false_iff_ne]; exact hb0
  by_cases hm1 : b = -1
  · subst hm1
    have e : modI a (-1) = 0 := by have := (quo_mod a (-1) (by omega)).2.2 (by omega); omega
    rw [e]
    go_enter Tryz.func29, Tryz.ntmps29
    go_wp2
    simp [bodyPost, results, Tryz.results29, go_sem]
    exact below_new (Below.refl _ _) _
  obtain ⟨hb1, hb2⟩ := hb
  have h1 : (b == -1) = false := by rw [beq_eq_false_iff_ne]; exact hm1
  obtain ⟨t1, t2⟩ := tmod_abs a b hb0
  have hw : wrap64 (a.tmod b) = a.tmod b := by unfold wrap64; omega
  have HF : Hid (modI a b = if a.tmod b = 0 ∨ (a.tmod b < 0 ↔ b < 0) then a.tmod b else a.tmod b + b) := rfl
  have m1 : -9223372036854775808 ≤ a.tmod b := by omega
  have m2 : a.tmod b ≤ 9223372036854775807 := by omega
  clear t1 t2
  by_cases c0 : a.tmod b = 0
  · have c1 : (a.tmod b != 0) = false := by simp [c0]
    have HR : Hid (modI a b = a.tmod b) := (by rw [HF.out, if_pos (Or.inl c0)] : modI a b = a.tmod b)
    clear c0 HF
    go_enter Tryz.func29, Tryz.ntmps29
    go_wp2
    simp [bodyPost, results, Tryz.results29, go_sem]
    exact ⟨HR.out.symm, below_new (Below.refl _ _) _⟩
  · have c1 : (a.tmod b != 0) = true := by simp [c0]
    by_cases c2 : a.tmod b < 0 <;> by_cases c3 : b < 0
    · have HR : Hid (modI a b = a.tmod b) := (by rw [HF.out, if_pos (Or.inr (by simp [c2, c3]))] : modI a b = a.tmod b)
      clear c0 HF
      go_enter Tryz.func29, Tryz.ntmps29
      go_wp2
      simp [bodyPost, results, Tryz.results29, go_sem]
      exact ⟨HR.out.symm, below_new (Below.refl _ _) _⟩
    · have HR : Hid (modI a b = a.tmod b + b) := (by rw [HF.out, if_neg (by simp [c0, c2, c3])] : modI a b = a.tmod b + b)
      clear c0 HF
      go_enter Tryz.func29, Tryz.ntmps29
      go_wp2
      simp [bodyPost, results, Tryz.results29, go_sem]
      exact ⟨HR.out.symm, below_new (Below.refl _ _) _⟩
    · have HR : Hid (modI a b = a.tmod b + b) := (by rw [HF.out, if_neg (by simp [c0, c2, c3])] : modI a b = a.tmod b + b)
      clear c0 HF
      go_enter Tryz.func29, Tryz.ntmps29
      go_wp2
      simp [bodyPost, results, Tryz.results29, go_sem]
      exact ⟨HR.out.symm, below_new (Below.refl _ _) _⟩
    · have HR : Hid (modI a b = a.tmod b) := (by rw [HF.out, if_pos (Or.inr (by simp [c2, c3]))] : modI a b = a.tmod b)
      clear c0 HF
      go_enter Tryz.func29, Tryz.ntmps29
      go_wp2
      simp [bodyPost, results, Tryz.results29, go_sem]
      exact ⟨HR.out.symm, below_new (Below.refl _ _) _⟩

/-! ### the document's quotient -/
theorem quo_tdiv (a b : Int) (h0 : b ≠ 0) : quoI a b = if a.tmod b = 0 ∨ (a < 0 ↔ b < 0) then a.tdiv b else a.tdiv b - 1 := by
  have ht := tmod_ab a b
  have hB : 0 < ab b := by unfold ab; split <;> omega
  have e := Int.mul_ediv_add_emod (ab a) (ab b)
  have em := Int.mul_tdiv_add_tmod a b
  have q0 : 0 ≤ ab a / ab b := Int.ediv_nonneg (by unfold ab; split <;> omega) (by omega)
  have key : a.tdiv b = if (a < 0 ↔ b < 0) then ab a / ab b else -(ab a / ab b) := by
    have hb' : b * a.tdiv b = b * (if (a < 0 ↔ b < 0) then ab a / ab b else -(ab a / ab b)) := by
      by_cases ha : a < 0 <;> by_cases hb : b < 0
      · rw [if_pos ha] at ht
        rw [if_pos (show (a < 0 ↔ b < 0) by simp [ha, hb])]
        rw [ab_neg ha, ab_neg hb] at ht e q0 ⊢
        have : -b * (-a / -b) = -(b * (-a / -b)) := Int.neg_mul _ _
        omega
      · rw [if_pos ha] at ht
        rw [if_neg (show ¬ (a < 0 ↔ b < 0) by simp [ha, hb])]
        rw [ab_neg ha, ab_pos hb] at ht e q0 ⊢
        rw [Int.mul_neg]
        omega
      · rw [if_neg ha] at ht
        rw [if_neg (show ¬ (a < 0 ↔ b < 0) by simp [ha, hb])]
        rw [ab_pos ha, ab_neg hb] at ht e q0 ⊢
        have : -b * (a / -b) = -(b * (a / -b)) := Int.neg_mul _ _
        rw [Int.mul_neg]
        omega
      · rw [if_neg ha] at ht
        rw [if_pos (show (a < 0 ↔ b < 0) by simp [ha, hb])]
        rw [ab_pos ha, ab_pos hb] at ht e q0 ⊢
        omega
    exact Int.eq_of_mul_eq_mul_left h0 hb'
  have hz : a.tmod b = 0 ↔ ab a % ab b = 0 := by rw [ht]; split <;> omega
  unfold quoI
  rw [key]
  by_cases hs : (a < 0 ↔ b < 0)
  · rw [if_pos hs, if_pos (Or.inr hs), if_pos hs]
  · rw [if_neg hs, if_neg hs]
    by_cases hr : ab a % ab b = 0
    · rw [if_pos hr, if_pos (Or.inl (hz.2 hr))]
    · rw [if_neg hr, if_neg (by intro h; rcases h with h | h; exact hr (hz.1 h); exact hs h)]
theorem refdiv_zero (a : Int) (w : World) : Calls Tryz.prog 28 #[.int .i64 a, .int .i64 0] w fun e w' => e = .returned (.tuple #[.int .i64 0, .agg #[.int .i64 21, .int .i64 0, .int .i64 0, .bool false, .bool false]]) ∧ Below w.heap.size w w' := by
  go_enter Tryz.func28, Tryz.ntmps28
  go_wp2_with (go_at_call 21; refine (refnew 21 _).mono ?_; rintro e w' ⟨rfl, o1, rfl⟩)
  simp [bodyPost, results, Tryz.results28, go_sem]
  exact below_new (below_new (Below.refl _ _) _) _
theorem refdiv_over (w : World) : Calls Tryz.prog 28 #[.int .i64 (-9223372036854775808), .int .i64 (-1)] w fun e w' => e = .returned (.tuple #[.int .i64 0, .agg #[.int .i64 20, .int .i64 0, .int .i64 0, .bool false, .bool false]]) ∧ Below w.heap.size w w' := by
  go_enter Tryz.func28, Tryz.ntmps28
  go_wp2_with (go_at_call 21; refine (refnew 20 _).mono ?_; rintro e w' ⟨rfl, o1, rfl⟩)
  simp [bodyPost, results, Tryz.results28, go_sem]
  exact below_new (below_new (Below.refl _ _) _) _
/-- the walk, the two numbers of Go named. -/
theorem refdiv_in (a b t : Int) (hb0 : b ≠ 0) (hs : (a == -9223372036854775808) = false ∨ ((a == -9223372036854775808) = true ∧ (b == -1) = false)) (ht : wrap64 (a.tdiv b) = t) (t1 : -9223372036854775808 < t) (t2 : t ≤ 9223372036854775807)
    (q : Int) (h : ((a.tmod b != 0) = false ∧ q = t) ∨ ((a.tmod b != 0) = true ∧ (decide (a < 0) == decide (b < 0)) = true ∧ q = t) ∨ ((a.tmod b != 0) = true ∧ (decide (a < 0) == decide (b < 0)) = false ∧ q = t - 1)) (w : World) :
    Calls Tryz.prog 28 #[.int .i64 a, .int .i64 b] w fun e w' => e = .returned (.tuple #[.int .i64 q, .agg #[.int .i64 0, .int .i64 0, .int .i64 0, .bool false, .bool false]]) ∧ Below w.heap.size w w' := by
  have h0 : (b == 0) = false := by rw [beq_eq_false_iff_ne]; exact hb0
  rcases hs with hs | ⟨hs, hs2⟩ <;> rcases h with ⟨c1, rfl⟩ | ⟨c1, c2, rfl⟩ | ⟨c1, c2, rfl⟩
  all_goals
    go_enter Tryz.func28, Tryz.ntmps28
    go_wp2
    simp [bodyPost, results, Tryz.results28, go_sem]
    first | exact below_new (Below.refl _ _) _ | exact ⟨ht, below_new (Below.refl _ _) _⟩
theorem refdiv_in' (a b t : Int) (hb0 : b ≠ 0) (hs : (a == -9223372036854775808) = false ∨ ((a == -9223372036854775808) = true ∧ (b == -1) = false)) (ht : wrap64 (a.tdiv b) = t) (ht6 : I64 t)
    (q : Int) (h : ((a.tmod b != 0) = false ∧ q = t) ∨ ((a.tmod b != 0) = true ∧ (decide (a < 0) == decide (b < 0)) = true ∧ q = t)) (w : World) :
    Calls Tryz.prog 28 #[.int .i64 a, .int .i64 b] w fun e w' => e = .returned (.tuple #[.int .i64 q, .agg #[.int .i64 0, .int .i64 0, .int .i64 0, .bool false, .bool false]]) ∧ Below w.heap.size w w' := by
  have h0 : (b == 0) = false := by rw [beq_eq_false_iff_ne]; exact hb0
  rcases hs with hs | ⟨hs, hs2⟩ <;> rcases h with ⟨c1, rfl⟩ | ⟨c1, c2, rfl⟩
  all_goals
    go_enter Tryz.func28, Tryz.ntmps28
    go_wp2
    simp [bodyPost, results, Tryz.results28, go_sem]
    first | exact below_new (Below.refl _ _) _ | exact ⟨ht, below_new (Below.refl _ _) _⟩
theorem refdiv (a b : Int) (ha : I64 a) (hb : I64 b) (h0 : b ≠ 0) (w : World) : Calls Tryz.prog 28 #[.int .i64 a, .int .i64 b] w fun e w' => e = .returned (.tuple #[.int .i64 (sm0 (quoI a b)), .agg #[.int .i64 (sc (quoI a b)), .int .i64 0, .int .i64 0, .bool false, .bool false]]) ∧ Below w.heap.size w w' := by
  by_cases hq : I64 (quoI a b)
  · rw [sm0_yes hq, sc_yes hq]
    have hsp : (a == -9223372036854775808) = false ∨ ((a == -9223372036854775808) = true ∧ (b == -1) = false) := by
      by_cases c : a = -9223372036854775808
      · right
        refine ⟨by simp [c], ?_⟩
        rw [beq_eq_false_iff_ne]
        intro d; subst c; subst d
        exact absurd hq (by unfold I64; decide)
      · left; rw [beq_eq_false_iff_ne]; exact c
    have hk := quo_tdiv a b h0
    by_cases c0 : a.tmod b = 0
    · have e : quoI a b = a.tdiv b := by rw [hk, if_pos (Or.inl c0)]
      rw [e]; rw [e] at hq
      exact refdiv_in' a b _ h0 hsp (wrap_in _ hq) hq _ (Or.inl ⟨by simp [c0], rfl⟩) w
    · by_cases c1 : (a < 0 ↔ b < 0)
      · have e : quoI a b = a.tdiv b := by rw [hk, if_pos (Or.inr c1)]
        rw [e]; rw [e] at hq
        exact refdiv_in' a b _ h0 hsp (wrap_in _ hq) hq _ (Or.inr ⟨by simp [c0], by by_cases c : b < 0 <;> simp [c, c1], rfl⟩) w
      · have e : quoI a b = a.tdiv b - 1 := by rw [hk, if_neg (by intro h; rcases h with h | h; exact c0 h; exact c1 h)]
        have q0 : 0 ≤ ab a / ab b := Int.ediv_nonneg (by unfold ab; split <;> omega) (by unfold ab; split <;> omega)
        have hle : quoI a b ≤ 0 := by unfold quoI; rw [if_neg c1]; split <;> omega
        have hq2 : I64 (a.tdiv b) ∧ -9223372036854775808 < a.tdiv b := by unfold I64 at hq ⊢; omega
        rw [e]
        exact refdiv_in a b _ h0 hsp (wrap_in _ hq2.1) hq2.2 (by have := hq2.1; unfold I64 at this; omega) _ (Or.inr (Or.inr ⟨by simp [c0], by by_cases c : b < 0 <;> by_cases d : a < 0 <;> simp_all, rfl⟩)) w
  · obtain ⟨rfl, rfl⟩ := quo_big a b ha hb h0 hq
    rw [sm0_no hq, sc_no hq]
    exact refdiv_over w
end Go.Proofs.YtbhohlmlmlpboaaGreatDoor
