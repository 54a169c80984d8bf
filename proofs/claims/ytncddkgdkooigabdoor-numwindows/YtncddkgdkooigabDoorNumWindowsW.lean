import Derived.Test.YtncddkgdkooigabDoorNumReckonsW
import Derived.Test.YtncddkgdkooigabDoorWin
import Derived.LoopTactic
namespace Go.Proofs.YtncddkgdkooigabDoor
open Go.RowKit Go.Shelf
set_option linter.unusedVariables false

theorem refwin_bad (t E O : Int) (h : WinBad E O) (w : World) :
    Calls Tryd.prog 46 #[.int .i64 t, .int .i64 E, .int .i64 O] w fun e w' => e = .returned (.tuple #[.int .i64 0, .agg #[.int .i64 2, .int .i64 0, .int .i64 0, .bool false, .bool false]]) ∧ Below w.heap.size w w' := by
  rcases h with c1 | ⟨c1, c2⟩ | ⟨c1, c2, c3⟩
  all_goals
    go_enter Tryd.func46, Tryd.ntmps46
    go_wp2_with (go_at_call 59; refine (refnew 2 _).mono ?_; rintro e w' ⟨rfl, o1, rfl⟩)
    simp [bodyPost, results, Tryd.results46, go_sem]
    exact below_new (below_new (Below.refl _ _) _) _
set_option maxRecDepth 100000 in
set_option maxHeartbeats 2000000 in
theorem refwin (t E O : Int) (ht : I64 t) (hE : I64 E) (h : 0 < E) (h1 : 0 ≤ O) (h2 : O < E) (w : World) :
    Calls Tryd.prog 46 #[.int .i64 t, .int .i64 E, .int .i64 O] w fun e w' => e = .returned (.tuple #[.int .i64 (sm0 (t - into t E O)), .agg #[.int .i64 (sc (t - into t E O)), .int .i64 0, .int .i64 0, .bool false, .bool false]]) ∧ Below w.heap.size w w' := by
  have em := mod_pos t E h
  have r1 := Int.emod_nonneg t (show E ≠ 0 by omega)
  have r2 := Int.emod_lt_of_pos t h
  have hE' := hE
  unfold I64 at hE'
  have hI : I64 (into t E O) := by have := into_range t E O h; unfold I64; omega
  have c1 : ¬ E < 1 := by omega
  have c2 : ¬ O < 0 := by omega
  have c3 : ¬ E ≤ O := by omega
  have b1 : t % E ≤ 9223372036854775807 := by omega
  have HI : Hid (into t E O = if t % E - O < 0 then t % E - O + E else t % E - O) := by
    by_cases c4 : t % E - O < 0
    · rw [if_pos c4]; exact into_hi t E O h h1 h2 c4
    · rw [if_neg c4]; exact into_lo t E O h h1 h2 c4
  by_cases c4 : t % E - O < 0
  all_goals
    have HJ := HI.out
    first | rw [if_pos c4] at HJ | rw [if_neg c4] at HJ
    have HK : Hid (into t E O = _) := HJ
    clear HJ HI
    go_enter Tryd.func46, Tryd.ntmps46
    go_wp2_with fail
    refine (refmod t E hE (by omega) _).mono ?_
    rintro e w1 ⟨rfl, hb1⟩
    have C1 := (BadC.start w 0 38).below hb1
    go_wp2_with fail
    rw [← HK.out]
    refine (refsub t (into t E O) ht hI _).mono ?_
    rintro e w2 ⟨rfl, hb2⟩
    have hN : w.heap.size < w1.heap.size := C1.z
    have hb12 : Below w1.heap.size w1 w2 := below_then (below_new (Below.refl _ _) _) hb2
    have C2 := C1.below hb12
    obtain ⟨b0, b1', b2, b3, b4, f0, f1, f2, f3, f4, z⟩ := C1.below hb12
    go_wp2
    have C3 : BadC w.heap.size (sc (t - into t E O)) (putBad w.heap.size (sc (t - into t E O)) w2) := BadC.put C2 _
    have B3 : Below w.heap.size w (putBad w.heap.size (sc (t - into t E O)) w2) := below_put (below_then (below_then (below_new (Below.refl _ _) _) hb1) hb12) (Nat.le_refl _) _
    obtain ⟨d0, d1, d2, d3, d4, _, _, _, _, _, _⟩ := C3
    unfold putBad at d0 d1 d2 d3 d4 B3
    simp [bodyPost, results, Tryd.results46, go_sem, d0, d1, d2, d3, d4]
    exact B3

/-! ### Log -/
def logI (n : Int) : Int := if n < 1 then 0 else (Lib.bitLen n.toNat : Int) - 1
theorem log_any (n : Int) (hn : I64 n) (w : World) : Calls Tryd.prog 47 #[.int .i64 n] w fun e w' => e = .returned (.int .i64 (logI n)) ∧ w' = w := by
  obtain ⟨n1, n2⟩ := hn
  by_cases h : n < 1
  · rw [show logI n = 0 from if_pos h]
    go_enter Tryd.func47, Tryd.ntmps47
    go_wp2
    go_ret
    exact ⟨rfl, rfl⟩
  · rw [show logI n = (Lib.bitLen n.toNat : Int) - 1 from if_neg h]
    have e1 : IntKind.u64.wrap n = n := u64_same n (by omega) (by omega)
    have hL := Lib.bitLen_le n.toNat 64 (Nat.le_refl _) (by omega)
    have HL : (Lib.bitLen n.toNat : Int) ≤ 64 := by omega
    go_enter Tryd.func47, Tryd.ntmps47
    go_wp2_with fail
    refine (Tryd.bits_Len n _ (by omega) (by omega)).mono ?_
    rintro e w1 ⟨rfl, rfl⟩
    go_wp2
    go_ret
    exact ⟨rfl, rfl⟩
theorem bitLen_one : Lib.bitLen 1 = 1 := by decide
theorem log_half (m : Int) (h : 1 < m) (h2 : m ≤ 9223372036854775807) : logI m = logI (m / 2) + 1 := by
  unfold logI
  rw [if_neg (by omega), if_neg (by omega)]
  have e := Lib.bitLen_half m.toNat (by omega) (by omega)
  have e2 : (m / 2).toNat = m.toNat / 2 := by omega
  rw [e2, e]; omega
set_option maxHeartbeats 1000000 in
theorem reflog (n : Int) (hn : I64 n) (w : World) : Calls Tryd.prog 48 #[.int .i64 n] w fun e w' => e = .returned (.int .i64 (logI n)) ∧ w' = w := by
  obtain ⟨n1, n2⟩ := hn
  have hl0 : ∀ m : Int, m ≤ 9223372036854775807 → 0 ≤ logI m ∧ logI m ≤ 63 := by
    intro m hm; unfold logI; split
    · omega
    · have := Lib.bitLen_le m.toNat 63 (by omega) (by omega)
      have h1 : 1 ≤ Lib.bitLen m.toNat := (Lib.bitLenAux_bounds 64 m.toNat (by omega) (by omega)).1
      omega
  have hb := hl0 n (by omega)
  go_enter Tryd.func48, Tryd.ntmps48
  go_wp2
  go_loop [0, 3] (fun x y => ∃ m k : Int, x = .int .i64 m ∧ y = .int .i64 k ∧ m ≤ n ∧ 0 ≤ k ∧ (k + logI m = logI n)) (fun x _ => (intOf x).toNat)
  case atStart => exact ⟨n, 0, rfl, rfl, Int.le_refl _, Int.le_refl _, by omega⟩
  case round =>
    obtain ⟨m, k, rfl, rfl, hm, hk, he⟩ := hrel
    have hlm := hl0 m (by omega)
    by_cases c : 1 < m
    · have hh := log_half m c (by omega)
      have HE : Hid (k + 1 + logI (m / 2) = logI n) := (by omega : k + 1 + logI (m / 2) = logI n)
      have hk2 : k ≤ 63 := by omega
      clear he hh
      go_wp2
      go_round
      case rel => exact ⟨m / 2, k + 1, rfl, rfl, by omega, by omega, HE.out⟩
      case measure => simp [intOf]; omega
    · have hz : logI m = 0 := by
        unfold logI; split
        · rfl
        · have : m = 1 := by omega
          subst this; decide
      have HE : Hid (k = logI n) := (by omega : k = logI n)
      clear he hz
      go_wp2
      go_ret
      exact ⟨by rw [← HE.out]; rfl, rfl⟩

/-! ### the law -/
set_option maxRecDepth 100000 in
set_option maxHeartbeats 4000000 in
theorem windows_bad (t E O n : Int) (h : WinBad E O) (hn : I64 n) (w : World) (hg : ET w) :
    Calls Tryd.prog 7 #[.agg #[.int .i64 t, .int .i64 E, .int .i64 O, .int .i64 n]] w fun e w' => e = .returned (.bool true) ∧ Below w.heap.size w w' := by
  have hgA : ∀ o, ET (w.alloc o) := fun o => ET_alloc hg o
  go_enter Tryd.func7, Tryd.ntmps7
  go_wp2_with fail
  refine (live_any _ (hgA _)).mono ?_
  rintro e w1 ⟨rfl, hb1⟩
  obtain ⟨hc1, hf1⟩ := bcell hb1
  go_wp2_with fail
  refine (window_bad t E O h _).mono ?_
  rintro e w2 ⟨rfl, hb2⟩
  have hb12 := below_then hb1 hb2
  go_wp2_with fail
  refine (refwin_bad t E O h _).mono ?_
  rintro e w3 ⟨rfl, hb3⟩
  have hb13 := below_then hb12 hb3
  go_wp2_with fail
  refine (law_same_err 0 2 rfl _ (ET_alloc (ET_below (hgA _) hb13) _)).mono ?_
  rintro e w4 ⟨rfl, hb4⟩
  go_wp2_with fail
  refine (log_any n hn _).mono ?_
  rintro e w5 ⟨rfl, rfl⟩
  go_wp2_with fail
  refine (reflog n hn _).mono ?_
  rintro e w6 ⟨rfl, rfl⟩
  go_wp2
  go_ret
  exact ⟨rfl, below_then (below_new (below_then (below_new (Below.refl _ _) _) hb13) _) hb4⟩
set_option maxRecDepth 100000 in
set_option maxHeartbeats 4000000 in
theorem windows_ok (t E O n : Int) (ht : I64 t) (hE : I64 E) (h : 0 < E) (h1 : 0 ≤ O) (h2 : O < E) (hn : I64 n) (w : World) (hg : ET w) :
    Calls Tryd.prog 7 #[.agg #[.int .i64 t, .int .i64 E, .int .i64 O, .int .i64 n]] w fun e w' => e = .returned (.bool true) ∧ Below w.heap.size w w' := by
  have hgA : ∀ o, ET (w.alloc o) := fun o => ET_alloc hg o
  go_enter Tryd.func7, Tryd.ntmps7
  go_wp2_with fail
  refine (live_any _ (hgA _)).mono ?_
  rintro e w1 ⟨rfl, hb1⟩
  obtain ⟨hc1, hf1⟩ := bcell hb1
  go_wp2_with fail
  refine (window_any t E O ht hE h h1 h2 _).mono ?_
  rintro e w2 ⟨rfl, hb2⟩
  have hb12 := below_then hb1 hb2
  go_wp2_with fail
  refine (refwin t E O ht hE h h1 h2 _).mono ?_
  rintro e w3 ⟨rfl, hb3⟩
  have hb13 := below_then hb12 hb3
  go_wp2_with fail
  refine (law_same (t - into t E O) _ (ET_alloc (ET_below (hgA _) hb13) _)).mono ?_
  rintro e w4 ⟨rfl, hb4⟩
  go_wp2_with fail
  refine (log_any n hn _).mono ?_
  rintro e w5 ⟨rfl, rfl⟩
  go_wp2_with fail
  refine (reflog n hn _).mono ?_
  rintro e w6 ⟨rfl, rfl⟩
  go_wp2
  go_ret
  exact ⟨rfl, below_then (below_new (below_then (below_new (Below.refl _ _) _) hb13) _) hb4⟩
theorem numWindows_walk (t E O n : Int) (ht : I64 t) (hE : I64 E) (_hO : I64 O) (hn : I64 n) (w : World) (hg : ET w) :
    Calls Tryd.prog 7 #[.agg #[.int .i64 t, .int .i64 E, .int .i64 O, .int .i64 n]] w fun e w' => e = .returned (.bool true) ∧ Below w.heap.size w w' := by
  by_cases c1 : E < 1
  · exact windows_bad t E O n (Or.inl c1) hn w hg
  by_cases c2 : O < 0
  · exact windows_bad t E O n (Or.inr (Or.inl ⟨c1, c2⟩)) hn w hg
  by_cases c3 : E ≤ O
  · exact windows_bad t E O n (Or.inr (Or.inr ⟨c1, c2, c3⟩)) hn w hg
  exact windows_ok t E O n ht hE (by omega) (by omega) (by omega) hn w hg
end Go.Proofs.YtncddkgdkooigabDoor
