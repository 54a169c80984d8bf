import Derived.Test.YtncddkgdkooigabDoorMul
namespace Go.Proofs.YtncddkgdkooigabDoor
open Go.RowKit Go.Shelf
set_option linter.unusedVariables false
set_option linter.unusedSimpArgs false

def NS (a b : Int) : Prop := ((a == -1) = false ∧ (b == -1) = false) ∨ ((a == -1) = false ∧ (b == -1) = true ∧ (a == -9223372036854775808) = false) ∨ ((a == -1) = true ∧ (b == -9223372036854775808) = false ∧ (b == -1) = false) ∨ ((a == -1) = true ∧ (b == -9223372036854775808) = false ∧ (b == -1) = true ∧ (a == -9223372036854775808) = false)
set_option maxHeartbeats 1000000 in
theorem refmul_in (a b p t : Int) (c1 : (a == 0) = false) (c2 : (b == 0) = false) (h0 : b ≠ 0) (hp : wrap64 (a * b) = p) (ht : wrap64 (p.tdiv b) = t) (hs : NS a b) (he : (t != a) = false) (w : World) : Calls Tryd.prog 23 #[.int .i64 a, .int .i64 b] w fun e w' => e = .returned (.tuple #[.int .i64 p, .agg #[.int .i64 0, .int .i64 0, .int .i64 0, .bool false, .bool false]]) ∧ Below w.heap.size w w' := by
  rcases hs with ⟨c3, c4⟩ | ⟨c3, c4, c5⟩ | ⟨c3, c4, c5⟩ | ⟨c3, c4, c5, c6⟩
  all_goals
    go_enter Tryd.func23, Tryd.ntmps23
    go_wp2
    simp [bodyPost, results, Tryd.results23, go_sem]
    first | exact below_new (Below.refl _ _) _ | exact ⟨hp, below_new (Below.refl _ _) _⟩
set_option maxHeartbeats 1000000 in
theorem refmul_over2 (a b p t : Int) (c1 : (a == 0) = false) (c2 : (b == 0) = false) (h0 : b ≠ 0) (hp : wrap64 (a * b) = p) (ht : wrap64 (p.tdiv b) = t) (hs : NS a b) (he : (t != a) = true) (w : World) : Calls Tryd.prog 23 #[.int .i64 a, .int .i64 b] w fun e w' => e = .returned (.tuple #[.int .i64 0, .agg #[.int .i64 20, .int .i64 0, .int .i64 0, .bool false, .bool false]]) ∧ Below w.heap.size w w' := by
  rcases hs with ⟨c3, c4⟩ | ⟨c3, c4, c5⟩ | ⟨c3, c4, c5⟩ | ⟨c3, c4, c5, c6⟩
  all_goals
    go_enter Tryd.func23, Tryd.ntmps23
    go_wp2_with (go_at_call 59; refine (refnew 20 _).mono ?_; rintro e w' ⟨rfl, o1, rfl⟩)
    simp [bodyPost, results, Tryd.results23, go_sem]
    exact below_new (below_new (Below.refl _ _) _) _

/-- the quotient of what went round is another number. -/
theorem mul_round (a b p : Int) (ha : I64 a) (hb : I64 b) (h0 : b ≠ 0) (hp : wrap64 (a * b) = p) (hn : ¬ I64 (a * b)) (hsp : ¬ (b = -1 ∧ a = -9223372036854775808)) : wrap64 (p.tdiv b) ≠ a := by
  intro hq
  have hp6 : I64 p := by rw [← hp]; exact I64_wrap64 _
  have em := Int.mul_tdiv_add_tmod p b
  obtain ⟨t1, t2⟩ := tmod_abs p b h0
  have hle : (p.tdiv b).natAbs ≤ p.natAbs := by rw [Int.natAbs_tdiv]; exact Nat.div_le_self _ _
  by_cases hx : I64 (p.tdiv b)
  · rw [wrap_in _ hx] at hq
    rw [hq, Int.mul_comm] at em
    generalize a * b = m at *
    unfold I64 at *
    unfold wrap64 at hp
    omega
  · -- p = -2^63, b = -1
    have hpv : p.tdiv b = 9223372036854775808 := by unfold I64 at hx hp6; omega
    rw [hpv] at hq em
    have ha' : a = -9223372036854775808 := by unfold wrap64 at hq; omega
    have hb' : b = -1 := by unfold I64 at hp6 hb; omega
    exact hsp ⟨hb', ha'⟩
theorem NS_of (a b : Int) (h1 : ¬ (a = -1 ∧ b = -9223372036854775808)) (h2 : ¬ (b = -1 ∧ a = -9223372036854775808)) : NS a b := by
  unfold NS
  by_cases x1 : a = -1 <;> by_cases x2 : b = -1 <;> by_cases x3 : a = -9223372036854775808 <;> by_cases x4 : b = -9223372036854775808 <;> simp_all
theorem refneg' (a : Int) (ha : I64 a) (w : World) : Calls Tryd.prog 25 #[.int .i64 a] w fun e w' => e = .returned (.tuple #[.int .i64 (sm0 (-a)), .agg #[.int .i64 (sc (-a)), .int .i64 0, .int .i64 0, .bool false, .bool false]]) ∧ Below w.heap.size w w' := by
  have h := refneg a ha w
  rw [Int.zero_sub] at h
  exact h
theorem refmul (a b : Int) (ha : I64 a) (hb : I64 b) (w : World) : Calls Tryd.prog 23 #[.int .i64 a, .int .i64 b] w fun e w' => e = .returned (.tuple #[.int .i64 (sm0 (a * b)), .agg #[.int .i64 (sc (a * b)), .int .i64 0, .int .i64 0, .bool false, .bool false]]) ∧ Below w.heap.size w w' := by
  have hz : I64 0 := by unfold I64; omega
  by_cases c1 : a = 0
  · rw [c1, Int.zero_mul, sm0_yes hz, sc_yes hz]; exact refmul_zero 0 b (Or.inl rfl) w
  by_cases c2 : b = 0
  · rw [c2, Int.mul_zero, sm0_yes hz, sc_yes hz]; exact refmul_zero a 0 (Or.inr ⟨by rw [beq_eq_false_iff_ne]; exact c1, rfl⟩) w
  have d1 : (a == 0) = false := by rw [beq_eq_false_iff_ne]; exact c1
  have d2 : (b == 0) = false := by rw [beq_eq_false_iff_ne]; exact c2
  by_cases s1 : a = -1 ∧ b = -9223372036854775808
  · obtain ⟨rfl, rfl⟩ := s1
    have hn : ¬ I64 (-1 * -9223372036854775808) := by unfold I64; omega
    rw [sm0_no hn, sc_no hn]
    exact refmul_over1 _ _ rfl rfl (Or.inl ⟨rfl, rfl⟩) w
  by_cases s2 : b = -1 ∧ a = -9223372036854775808
  · obtain ⟨rfl, rfl⟩ := s2
    have hn : ¬ I64 (-9223372036854775808 * -1) := by unfold I64; omega
    rw [sm0_no hn, sc_no hn]
    exact refmul_over1 _ _ rfl rfl (Or.inr (Or.inr ⟨rfl, rfl, rfl⟩)) w
  have hs := NS_of a b s1 s2
  by_cases hq : I64 (a * b)
  · rw [sm0_yes hq, sc_yes hq]
    have e1 : (a * b).tdiv b = a := Int.mul_tdiv_cancel a c2
    exact refmul_in a b _ a d1 d2 c2 (wrap_in _ hq) (by rw [e1]; exact wrap_in _ ha) hs (by simp) w
  · rw [sm0_no hq, sc_no hq]
    exact refmul_over2 a b _ _ d1 d2 c2 rfl rfl hs (by rw [bne_iff_ne]; exact mul_round a b _ ha hb c2 rfl hq s2) w
end Go.Proofs.YtncddkgdkooigabDoor
