import Derived.Test.YtncddkgdkooigabDoorIs
namespace Go.Proofs.YtncddkgdkooigabDoor
open Go.RowKit Go.Shelf
set_option linter.unusedVariables false

/-! ### windows -/
def into (t E O : Int) : Int := (t - O) % E
theorem mod_pos (t E : Int) (h : 0 < E) : modI t E = t % E := by
  obtain ⟨e, hp, _⟩ := quo_mod t E (by omega)
  have hr := hp h
  rw [← e, Int.add_comm, Int.mul_comm, Int.add_mul_emod_self_left, Int.emod_eq_of_lt hr.1 hr.2]
  rw [Int.mul_comm, Int.add_comm, e]
theorem into_range (t E O : Int) (h : 0 < E) : 0 ≤ into t E O ∧ into t E O < E := ⟨Int.emod_nonneg _ (by omega), Int.emod_lt_of_pos _ h⟩
theorem into_lo (t E O : Int) (h : 0 < E) (h1 : 0 ≤ O) (h2 : O < E) (hc : ¬ t % E - O < 0) : into t E O = t % E - O := by
  have r1 := Int.emod_nonneg t (show E ≠ 0 by omega)
  have r2 := Int.emod_lt_of_pos t h
  have e := Int.mul_ediv_add_emod t E
  unfold into
  have e2 : t - O = (t % E - O) + E * (t / E) := by omega
  rw [e2, Int.add_mul_emod_self_left, Int.emod_eq_of_lt (by omega) (by omega)]
theorem into_hi (t E O : Int) (h : 0 < E) (h1 : 0 ≤ O) (h2 : O < E) (hc : t % E - O < 0) : into t E O = t % E - O + E := by
  have r1 := Int.emod_nonneg t (show E ≠ 0 by omega)
  have r2 := Int.emod_lt_of_pos t h
  have e := Int.mul_ediv_add_emod t E
  unfold into
  have e2 : t - O = (t % E - O + E) + E * (t / E - 1) := by rw [Int.mul_sub, Int.mul_one]; omega
  rw [e2, Int.add_mul_emod_self_left, Int.emod_eq_of_lt (by omega) (by omega)]
theorem into_back (t E O more : Int) (h : 0 < E) (h1 : 0 ≤ more) (h2 : more < E) : into (t - into t E O + more) E O = more := by
  unfold into
  have e := Int.mul_ediv_add_emod (t - O) E
  have e2 : t - (t - O) % E + more - O = more + E * ((t - O) / E) := by omega
  rw [e2, Int.add_mul_emod_self_left, Int.emod_eq_of_lt h1 h2]

def WinBad (E O : Int) : Prop := E < 1 ∨ (¬ E < 1 ∧ O < 0) ∨ (¬ E < 1 ∧ ¬ O < 0 ∧ E ≤ O)
theorem window_bad (t E O : Int) (h : WinBad E O) (w : World) :
    Calls Tryd.prog 45 #[.int .i64 t, .int .i64 E, .int .i64 O] w fun e w' => e = .returned (.tuple #[.int .i64 0, .iface 22 (.int .i64 2)]) ∧ Below w.heap.size w w' := by
  rcases h with c1 | ⟨c1, c2⟩ | ⟨c1, c2, c3⟩
  all_goals
    go_enter Tryd.func45, Tryd.ntmps45
    go_wp2_with (go_at_call 50; refine (new_any 2 rfl _).mono ?_; rintro e w' ⟨rfl, rfl⟩)
    go_ret2
    exact ⟨rfl, Below.refl _ _⟩
theorem window_any (t E O : Int) (ht : I64 t) (hE : I64 E) (h : 0 < E) (h1 : 0 ≤ O) (h2 : O < E) (w : World) :
    Calls Tryd.prog 45 #[.int .i64 t, .int .i64 E, .int .i64 O] w fun e w' => e = .returned (.tuple #[.int .i64 (sm0 (t - into t E O)), sm1 (t - into t E O)]) ∧ Below w.heap.size w w' := by
  have em := mod_pos t E h
  have r1 := Int.emod_nonneg t (show E ≠ 0 by omega)
  have r2 := Int.emod_lt_of_pos t h
  have hE' := hE
  unfold I64 at hE'
  have hI : I64 (into t E O) := by have := into_range t E O h; unfold I64; omega
  have c1 : ¬ E < 1 := by omega
  have c2 : ¬ O < 0 := by omega
  have c3 : ¬ E ≤ O := by omega
  have b1 : t % E ≤ 9223372036854775807 := by omega
  by_cases c4 : t % E - O < 0
  · have ei := into_hi t E O h h1 h2 c4
    have HI : Hid (into t E O = t % E - O + E) := ei
    clear ei
    go_enter Tryd.func45, Tryd.ntmps45
    go_wp2_with fail
    refine (mod_any t E hE (by omega) _).mono ?_
    rintro e w1 ⟨rfl, rfl⟩
    go_wp2_with fail
    rw [← HI.out]
    refine (sub_any t (into t E O) ht hI _).mono ?_
    rintro e w2 ⟨rfl, hb2⟩
    go_wp2
    go_ret2
    exact ⟨rfl, hb2⟩
  · have ei := into_lo t E O h h1 h2 c4
    have HI : Hid (into t E O = t % E - O) := ei
    clear ei
    go_enter Tryd.func45, Tryd.ntmps45
    go_wp2_with fail
    refine (mod_any t E hE (by omega) _).mono ?_
    rintro e w1 ⟨rfl, rfl⟩
    go_wp2_with fail
    rw [← HI.out]
    refine (sub_any t (into t E O) ht hI _).mono ?_
    rintro e w2 ⟨rfl, hb2⟩
    go_wp2
    go_ret2
    exact ⟨rfl, hb2⟩
theorem u64_diff (t s : Int) (h : 0 ≤ t - s) (h2 : t - s < 9223372036854775808) : IntKind.u64.wrap (IntKind.u64.wrap t - IntKind.u64.wrap s) = t - s := by
  rw [IntKind.wrap_u64, IntKind.wrap_u64, IntKind.wrap_u64]; omega
theorem u64_same (t : Int) (h : 0 ≤ t) (h2 : t < 9223372036854775808) : IntKind.u64.wrap t = t := by
  rw [IntKind.wrap_u64]; omega
end Go.Proofs.YtncddkgdkooigabDoor
