import Derived.Test.YtncddkgdkooigacDoorWin
namespace Go.Proofs.YtncddkgdkooigacDoor
open Go.RowKit Go.Shelf
set_option linter.unusedVariables false

set_option maxHeartbeats 1000000 in
theorem winlaw_bad (t E O M : Int) (h : WinBad E O) (w : World) (hg : ET w) :
    Calls Tryd.prog 6 #[.agg #[.int .i64 t, .int .i64 E, .int .i64 O, .int .i64 M]] w fun e w' => e = .returned (.bool true) ∧ Below w.heap.size w w' := by
  have hgA : ∀ o, ET (w.alloc o) := fun o => ET_alloc hg o
  have h' := h
  rcases h' with c1 | ⟨c1, c2⟩ | ⟨c1, c2, c3⟩
  all_goals
    go_enter Tryd.func6, Tryd.ntmps6
    go_wp2_with fail
    refine (live_any _ (hgA _)).mono ?_
    rintro e w1 ⟨rfl, hb1⟩
    obtain ⟨hc1, hf1⟩ := bcell hb1
    go_wp2_with fail
    refine (window_bad t E O h _).mono ?_
    rintro e w2 ⟨rfl, hb2⟩
    have hb12 := below_then hb1 hb2
    go_wp2_with fail
    refine (is_any 2 2 rfl _ (ET_below (hgA _) hb12)).mono ?_
    rintro e w3 ⟨rfl, hb3⟩
    go_wp2
    go_ret
    exact ⟨rfl, below_then (below_then (below_new (Below.refl _ _) _) hb12) hb3⟩

theorem u64_diff (t s : Int) (h : 0 ≤ t - s) (h2 : t - s < 9223372036854775808) : IntKind.u64.wrap (IntKind.u64.wrap t - IntKind.u64.wrap s) = t - s := by
  rw [IntKind.wrap_u64, IntKind.wrap_u64, IntKind.wrap_u64]; omega
theorem u64_same (t : Int) (h : 0 ≤ t) (h2 : t < 9223372036854775808) : IntKind.u64.wrap t = t := by
  rw [IntKind.wrap_u64]; omega

/-- the window's beginning is outside. -/
theorem winlaw_over (t E O M : Int) (ht : I64 t) (hE : I64 E) (h : 0 < E) (h1 : 0 ≤ O) (h2 : O < E) (hs : ¬ I64 (t - into t E O)) (w : World) (hg : ET w) :
    Calls Tryd.prog 6 #[.agg #[.int .i64 t, .int .i64 E, .int .i64 O, .int .i64 M]] w fun e w' => e = .returned (.bool true) ∧ Below w.heap.size w w' := by
  have hgA : ∀ o, ET (w.alloc o) := fun o => ET_alloc hg o
  obtain ⟨i1, i2⟩ := into_range t E O h
  have c1 : ¬ E < 1 := by omega
  have c2 : ¬ O < 0 := by omega
  have c3 : ¬ E ≤ O := by omega
  have e1 := sm0_no hs
  have e2 := sm1_no hs
  have c4 : t < -9223372036854775808 + E := by unfold I64 at ht hs; omega
  have hE' := hE
  unfold I64 at hE'
  go_enter Tryd.func6, Tryd.ntmps6
  go_wp2_with fail
  refine (live_any _ (hgA _)).mono ?_
  rintro e w1 ⟨rfl, hb1⟩
  obtain ⟨hc1, hf1⟩ := bcell hb1
  go_wp2_with fail
  refine (window_any t E O ht hE h h1 h2 _).mono ?_
  rintro e w2 ⟨rfl, hb2⟩
  have hb12 := below_then hb1 hb2
  go_wp2_with fail
  refine (is_any 20 20 rfl _ (ET_below (hgA _) hb12)).mono ?_
  rintro e w3 ⟨rfl, hb3⟩
  go_wp2
  go_ret
  exact ⟨rfl, below_then (below_then (below_new (Below.refl _ _) _) hb12) hb3⟩

set_option maxHeartbeats 2000000 in
/-- another time of the same window is not asked for. -/
theorem winlaw_out (t E O M : Int) (ht : I64 t) (hE : I64 E) (hM : I64 M) (h : 0 < E) (h1 : 0 ≤ O) (h2 : O < E) (hs : I64 (t - into t E O))
    (hm : M < 0 ∨ (¬ M < 0 ∧ E ≤ M) ∨ (¬ M < 0 ∧ ¬ E ≤ M ∧ 9223372036854775807 - M < t - into t E O)) (w : World) (hg : ET w) :
    Calls Tryd.prog 6 #[.agg #[.int .i64 t, .int .i64 E, .int .i64 O, .int .i64 M]] w fun e w' => e = .returned (.bool true) ∧ Below w.heap.size w w' := by
  have hgA : ∀ o, ET (w.alloc o) := fun o => ET_alloc hg o
  obtain ⟨i1, i2⟩ := into_range t E O h
  have c1 : ¬ E < 1 := by omega
  have c2 : ¬ O < 0 := by omega
  have c3 : ¬ E ≤ O := by omega
  have e1 := sm0_yes hs
  have e2 := sm1_yes hs
  have HI : Hid (t - (t - into t E O) = into t E O) := (by omega : t - (t - into t E O) = into t E O)
  have hE' := hE
  have hM' := hM
  unfold I64 at hE' hM'
  have e3 : IntKind.u64.wrap (IntKind.u64.wrap t - IntKind.u64.wrap (t - into t E O)) = into t E O := by rw [u64_diff _ _ (by omega) (by omega)]; exact HI.out
  have e4 := u64_same E (by omega) (by omega)
  have c4 : ¬ t < t - into t E O := by omega
  have c5 : ¬ E ≤ into t E O := by omega
  rcases hm with c6 | ⟨c6, c7⟩ | ⟨c6, c7, c8⟩
  all_goals
    go_enter Tryd.func6, Tryd.ntmps6
    go_wp2_with fail
    refine (live_any _ (hgA _)).mono ?_
    rintro e w1 ⟨rfl, hb1⟩
    obtain ⟨hc1, hf1⟩ := bcell hb1
    go_wp2_with fail
    refine (window_any t E O ht hE h h1 h2 _).mono ?_
    rintro e w2 ⟨rfl, hb2⟩
    have hb12 := below_then hb1 hb2
    go_wp2_with fail
    go_ret
    exact ⟨rfl, below_then (below_new (Below.refl _ _) _) hb12⟩

set_option maxHeartbeats 1000000 in
theorem winlaw_in (t E O M : Int) (ht : I64 t) (hE : I64 E) (h : 0 < E) (h1 : 0 ≤ O) (h2 : O < E) (hs : I64 (t - into t E O))
    (c6 : ¬ M < 0) (c7 : ¬ E ≤ M) (c8 : ¬ 9223372036854775807 - M < t - into t E O) (w : World) (hg : ET w) :
    Calls Tryd.prog 6 #[.agg #[.int .i64 t, .int .i64 E, .int .i64 O, .int .i64 M]] w fun e w' => e = .returned (.bool true) ∧ Below w.heap.size w w' := by
  have hgA : ∀ o, ET (w.alloc o) := fun o => ET_alloc hg o
  obtain ⟨i1, i2⟩ := into_range t E O h
  have c1 : ¬ E < 1 := by omega
  have c2 : ¬ O < 0 := by omega
  have c3 : ¬ E ≤ O := by omega
  have e1 := sm0_yes hs
  have e2 := sm1_yes hs
  have HI : Hid (t - (t - into t E O) = into t E O) := (by omega : t - (t - into t E O) = into t E O)
  have hE' := hE
  unfold I64 at hE'
  have e3 : IntKind.u64.wrap (IntKind.u64.wrap t - IntKind.u64.wrap (t - into t E O)) = into t E O := by rw [u64_diff _ _ (by omega) (by omega)]; exact HI.out
  have e4 := u64_same E (by omega) (by omega)
  have c4 : ¬ t < t - into t E O := by omega
  have c5 : ¬ E ≤ into t E O := by omega
  have hT : I64 (t - into t E O + M) := by unfold I64 at hs ⊢; omega
  have hT' := hT
  have hs' := hs
  unfold I64 at hT' hs'
  have HB : Hid (into (t - into t E O + M) E O = M) := into_back t E O M h (by omega) (by omega)
  have HZ : Hid (t - into t E O + M - M = t - into t E O) := (by omega : t - into t E O + M - M = t - into t E O)
  go_enter Tryd.func6, Tryd.ntmps6
  go_wp2_with fail
  refine (live_any _ (hgA _)).mono ?_
  rintro e w1 ⟨rfl, hb1⟩
  obtain ⟨hc1, hf1⟩ := bcell hb1
  go_wp2_with fail
  refine (window_any t E O ht hE h h1 h2 _).mono ?_
  rintro e w2 ⟨rfl, hb2⟩
  have hb12 := below_then hb1 hb2
  go_wp2_with fail
  refine (window_any (t - into t E O + M) E O hT hE h h1 h2 _).mono ?_
  rw [HB.out, HZ.out, e1, e2]
  rintro e w3 ⟨rfl, hb3⟩
  go_wp2
  go_ret
  exact ⟨rfl, below_then (below_then (below_new (Below.refl _ _) _) hb12) hb3⟩

theorem numWindow_walk (t E O M : Int) (ht : I64 t) (hE : I64 E) (_hO : I64 O) (hM : I64 M) (w : World) (hg : ET w) :
    Calls Tryd.prog 6 #[.agg #[.int .i64 t, .int .i64 E, .int .i64 O, .int .i64 M]] w fun e w' => e = .returned (.bool true) ∧ Below w.heap.size w w' := by
  by_cases c1 : E < 1
  · exact winlaw_bad t E O M (Or.inl c1) w hg
  by_cases c2 : O < 0
  · exact winlaw_bad t E O M (Or.inr (Or.inl ⟨c1, c2⟩)) w hg
  by_cases c3 : E ≤ O
  · exact winlaw_bad t E O M (Or.inr (Or.inr ⟨c1, c2, c3⟩)) w hg
  by_cases hs : I64 (t - into t E O)
  · by_cases c6 : M < 0
    · exact winlaw_out t E O M ht hE hM (by omega) (by omega) (by omega) hs (Or.inl c6) w hg
    by_cases c7 : E ≤ M
    · exact winlaw_out t E O M ht hE hM (by omega) (by omega) (by omega) hs (Or.inr (Or.inl ⟨c6, c7⟩)) w hg
    by_cases c8 : 9223372036854775807 - M < t - into t E O
    · exact winlaw_out t E O M ht hE hM (by omega) (by omega) (by omega) hs (Or.inr (Or.inr ⟨c6, c7, c8⟩)) w hg
    · exact winlaw_in t E O M ht hE (by omega) (by omega) (by omega) hs c6 c7 c8 w hg
  · exact winlaw_over t E O M ht hE (by omega) (by omega) (by omega) hs w hg
end Go.Proofs.YtncddkgdkooigacDoor
