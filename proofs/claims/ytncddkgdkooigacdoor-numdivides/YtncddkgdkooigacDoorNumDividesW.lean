import Derived.Test.YtncddkgdkooigacDoorIs
namespace Go.Proofs.YtncddkgdkooigacDoor
open Go.RowKit Go.Shelf

theorem I64_mod (a b : Int) (hb : I64 b) (h0 : b ≠ 0) : -9223372036854775808 ≤ modI a b ∧ modI a b ≤ 9223372036854775807 := by
  have h := (quo_mod a b h0).2
  unfold I64 at hb
  rcases Int.lt_or_lt_of_ne h0 with c | c
  · have := h.2 c; omega
  · have := h.1 c; omega
theorem wrap_back (q b m a : Int) (h : q * b + m = a) (ha : I64 a) : wrap64 (wrap64 (q * b) + m) = a := by
  generalize q * b = p at *
  unfold I64 at ha; unfold wrap64; omega

theorem divides_zero (a : Int) (ha : I64 a) (w : World) (hg : ET w) : Calls Tryd.prog 4 #[.int .i64 a, .int .i64 0] w fun e w' => e = .returned (.bool true) ∧ Below w.heap.size w w' := by
  go_enter Tryd.func4, Tryd.ntmps4
  go_wp2_with fail
  refine (live_any _ hg).mono ?_
  rintro e w1 ⟨rfl, hb1⟩
  go_wp2_with fail
  refine (div_zero a ha _).mono ?_
  rintro e w2 ⟨rfl, hb2⟩
  have hb12 := below_then hb1 hb2
  go_wp2_with fail
  refine (mod_zero a _).mono ?_
  rintro e w3 ⟨rfl, rfl⟩
  go_wp2_with fail
  refine (is_any 21 21 rfl _ (ET_below hg hb12)).mono ?_
  rintro e w4 ⟨rfl, hb4⟩
  have hb14 := below_then hb12 hb4
  go_wp2_with fail
  refine (is_any 21 21 rfl _ (ET_below hg hb14)).mono ?_
  rintro e w5 ⟨rfl, hb5⟩
  go_wp2
  go_ret
  exact ⟨rfl, below_then hb14 hb5⟩

theorem divides_over (w : World) (hg : ET w) : Calls Tryd.prog 4 #[.int .i64 (-9223372036854775808), .int .i64 (-1)] w fun e w' => e = .returned (.bool true) ∧ Below w.heap.size w w' := by
  have hq : ¬ I64 (quoI (-9223372036854775808) (-1)) := by unfold I64; decide
  have e1 := sm0_no hq
  have e2 := sm1_no hq
  have e3 : modI (-9223372036854775808) (-1) = 0 := by decide
  go_enter Tryd.func4, Tryd.ntmps4
  go_wp2_with fail
  refine (live_any _ hg).mono ?_
  rintro e w1 ⟨rfl, hb1⟩
  go_wp2_with fail
  refine (div_any (-9223372036854775808) (-1) ⟨by omega, by omega⟩ ⟨by omega, by omega⟩ (by omega) _).mono ?_
  rintro e w2 ⟨rfl, hb2⟩
  have hb12 := below_then hb1 hb2
  go_wp2_with fail
  refine (mod_any (-9223372036854775808) (-1) ⟨by omega, by omega⟩ (by omega) _).mono ?_
  rintro e w3 ⟨rfl, rfl⟩
  go_wp2_with fail
  refine (is_any 20 20 rfl _ (ET_below hg hb12)).mono ?_
  rintro e w4 ⟨rfl, hb4⟩
  go_wp2
  go_ret
  exact ⟨rfl, below_then hb12 hb4⟩

theorem divides_in (a b : Int) (ha : I64 a) (hb : I64 b) (h0 : b ≠ 0) (hq : I64 (quoI a b)) (w : World) (hg : ET w) : Calls Tryd.prog 4 #[.int .i64 a, .int .i64 b] w fun e w' => e = .returned (.bool true) ∧ Below w.heap.size w w' := by
  have c0 : (b == 0) = false := by rw [beq_eq_false_iff_ne]; exact h0
  have e1 := sm0_yes hq
  have e2 := sm1_yes hq
  obtain ⟨hqm, hpos, hneg⟩ := quo_mod a b h0
  have e3 := wrap_back _ _ _ _ hqm ha
  obtain ⟨hm1, hm2⟩ := I64_mod a b hb h0
  clear hqm
  rcases Int.lt_or_lt_of_ne h0 with c | c
  · obtain ⟨r1, r2⟩ := hneg c
    clear hneg hpos
    have c1 : ¬ 0 < b := by omega
    have c2 : ¬ 0 < modI a b := by omega
    have c3 : ¬ modI a b ≤ b := by omega
    go_enter Tryd.func4, Tryd.ntmps4
    go_wp2_with fail
    refine (live_any _ hg).mono ?_
    rintro e w1 ⟨rfl, hb1⟩
    go_wp2_with fail
    refine (div_any a b ha hb h0 _).mono ?_
    rintro e w2 ⟨rfl, hb2⟩
    have hb12 := below_then hb1 hb2
    go_wp2_with fail
    refine (mod_any a b hb h0 _).mono ?_
    rintro e w3 ⟨rfl, rfl⟩
    go_wp2_with fail
    go_ret
    exact ⟨rfl, hb12⟩
  · obtain ⟨r1, r2⟩ := hpos c
    clear hneg hpos
    have c1 : ¬ b < 0 := by omega
    have c2 : ¬ modI a b < 0 := by omega
    have c3 : ¬ b ≤ modI a b := by omega
    go_enter Tryd.func4, Tryd.ntmps4
    go_wp2_with fail
    refine (live_any _ hg).mono ?_
    rintro e w1 ⟨rfl, hb1⟩
    go_wp2_with fail
    refine (div_any a b ha hb h0 _).mono ?_
    rintro e w2 ⟨rfl, hb2⟩
    have hb12 := below_then hb1 hb2
    go_wp2_with fail
    refine (mod_any a b hb h0 _).mono ?_
    rintro e w3 ⟨rfl, rfl⟩
    go_wp2_with fail
    go_ret
    exact ⟨rfl, hb12⟩
theorem numDivides_walk (a b : Int) (ha : I64 a) (hb : I64 b) (w : World) (hg : ET w) : Calls Tryd.prog 4 #[.int .i64 a, .int .i64 b] w fun e w' => e = .returned (.bool true) ∧ Below w.heap.size w w' := by
  by_cases h0 : b = 0
  · subst h0; exact divides_zero a ha w hg
  · by_cases hq : I64 (quoI a b)
    · exact divides_in a b ha hb h0 hq w hg
    · obtain ⟨rfl, rfl⟩ := quo_big a b ha hb h0 hq
      exact divides_over w hg
end Go.Proofs.YtncddkgdkooigacDoor
