
import Derived.Test.YtpanldgfjipmjaaDoorBlR
import Derived.Test.YtpanldgfjipmjaaDoorBlH
import Derived.BigQuiet
namespace Go.Proofs.YtpanldgfjipmjaaDoor
open Go.RowKit
set_option linter.unusedVariables false
set_option linter.unusedSimpArgs false
set_option maxRecDepth 100000 in
set_option maxHeartbeats 4000000 in
theorem sameValues_any (a1 a2 : Option Addr) (n c1 c2 : Nat) (kk : Nat → Nat) (xx : Nat → Int) (w : World) (h1 : VIn w a1 n kk xx) (h2 : VIn w a2 n kk xx) : Calls Tryd.prog 15 #[.slice a1 n c1, .slice a2 n c2] w fun e w' => e = .returned (.bool true) ∧ Below w.heap.size w w' := by
  obtain ⟨hn, hz, hc1⟩ := h1
  obtain ⟨_, _, hc2⟩ := h2
  go_enter Tryd.func15, Tryd.ntmps15
  go_wp2_with fail
  go_loopw [5] (fun i wr => ∃ k : Nat, k ≤ n ∧ i = .int .i64 (k : Int) ∧ Below w.heap.size w wr) (fun i _ => n - (intOf i).toNat)
  case atStart => exact ⟨0, by omega, rfl, Below.refl _ _⟩
  case round =>
    obtain ⟨k, hk, rfl, hB⟩ := hrel
    by_cases hkn : k < n
    · have hkI : (k : Int) < (n : Int) := by omega
      have k1 : (0 : Int) ≤ (k : Int) := by omega
      rcases hc1 with h0 | ⟨b, off, rfl, hb, hcc⟩
      · omega
      rcases hc2 with h0 | ⟨b', off', rfl, hb', hcc'⟩
      · omega
      have d1 : wr.cell? ⟨b, off + k * 2, none⟩ = some (.int .u8 (kk k : Int)) := by rw [hB.cell (p := ⟨b, off + k * 2, none⟩) hb]; exact (hcc k hkn).1
      have d2 : wr.cell? ⟨b, off + k * 2 + 1, none⟩ = some (.int .i64 (xx k)) := by rw [hB.cell (p := ⟨b, off + k * 2 + 1, none⟩) hb]; exact (hcc k hkn).2
      have d3 : wr.cell? ⟨b', off' + k * 2, none⟩ = some (.int .u8 (kk k : Int)) := by rw [hB.cell (p := ⟨b', off' + k * 2, none⟩) hb']; exact (hcc' k hkn).1
      have d4 : wr.cell? ⟨b', off' + k * 2 + 1, none⟩ = some (.int .i64 (xx k)) := by rw [hB.cell (p := ⟨b', off' + k * 2 + 1, none⟩) hb']; exact (hcc' k hkn).2
      obtain ⟨x, hx⟩ : ∃ x, x = xx k := ⟨_, rfl⟩
      obtain ⟨y, hy⟩ : ∃ y, y = kk k := ⟨_, rfl⟩
      rw [← hx] at d2 d4
      rw [← hy] at d1 d3
      clear hy
      have hBd : ∀ q, Below w.heap.size w (wr.drewN q) := fun q => below_drewN hB q
      clear hx hcc hcc' hB
      go_wp2_with fail
      go_quiet (fail)
      go_wp2_with fail
      go_roundw
      case rel => exact ⟨k + 1, by omega, by go_num, hBd _⟩
      case measure => simp [intOf]; omega
    · have hkI : ¬ (k : Int) < (n : Int) := by omega
      go_wp2_with fail
      go_ret
      exact ⟨rfl, hB⟩
set_option maxRecDepth 100000 in
set_option maxHeartbeats 4000000 in
theorem blockValues_walk (a : Option Addr) (n cap : Nat) (kk : Nat → Nat) (xx : Nat → Int) (w : World) (h : VIn w a n kk xx) (hs : n ≤ 1048576) (hct : CT w) (hg : 0 < w.heap.size) (het : ET w) : Calls Tryd.prog 4 #[.slice a n cap] w fun e w' => e = .returned (.bool true) ∧ Below w.heap.size w w' := by
  obtain ⟨g1, c1, w1, g2, c2, w2, hr1, hr2, hc2, hg2, hgb, hown, h77a, h77, hB2⟩ := own_copyV w a n cap kk xx h hs
  have hr1H : Hid _ := hr1
  have hr2H : Hid _ := hr2
  have hownH : Hid (VIn w2 (some ⟨g2, 0, none⟩) n kk xx) := hown
  have hhH : Hid (VIn w a n kk xx) := h
  have hctH : Hid (CT w) := hct
  have hetH : Hid (ET w) := het
  have h77H : Hid _ := And.intro h77a h77
  have k1 : (0 : Int) ≤ (n : Int) := by omega
  have k2 : (n : Int) ≤ (c2 : Int) := by omega
  have k3 : (n : Int) ≤ (n : Int) + 1 := by omega
  have k4 : n ≤ c2 := by omega
  have hT : Hid _ := values_any (some ⟨g2, 0, none⟩) n c2 kk xx w2 hown
  clear hr1 hr2 hown h hct het h77 h77a
  go_enter Tryd.func4, Tryd.ntmps4
  go_wp2_with (at_builtin; first | (refine wpList_append_run2 (by rfl) _ _ _ _ (by rfl) _ _ _ _ (by rfl) (by rfl) hr1H.out ?_; clear hr1H) | (refine wpList_append_run2 (by rfl) _ _ _ _ (by rfl) _ _ _ _ (by rfl) (by rfl) hr2H.out ?_; clear hr2H))
  refine Calls.mono hT.out ?_
  rintro e w3 ⟨hE, hB3⟩
  have hB03 := below_then hB2 hB3
  have hD : Hid _ := dvalues_any a n cap kk xx w3 (hhH.out.below hB03 (Nat.le_refl _))
  clear hT
  rcases hE with ⟨h, _⟩ | ⟨_, hnr, rfl⟩ | ⟨_, hnr, ta, tc, rfl, hin3⟩
  · omega
  · have hnrH : Hid (¬ AllV kk xx n) := hnr
    clear hnr
    go_wp2_with fail
    refine Calls.mono hD.out ?_
    rintro e w4 ⟨hE, hB4⟩
    have hB04 := below_then hB03 hB4
    have hB24 := below_then hB3 hB4
    clear hD hB4 hB3
    rcases hE with ⟨h, _⟩ | ⟨_, _, rfl⟩ | ⟨_, hr, _⟩
    · omega
    · simp only [badV]
      go_wp2_with fail
      have hBz := below_new (Below.refl _ w4) (.cells #[.int .i64 2, .int .i64 0, .int .i64 0, .bool false, .bool false] 30)
      have hBz4 := below_then hB04 hBz
      have hLi : Hid _ := live_block _ (CT_below hctH.out hBz4 hg) (by have := hBz4.size; omega)
      refine Calls.mono hLi.out ?_
      rintro e w5 ⟨rfl, hB5⟩
      have hzl : w4.heap.size < (w4.alloc (.cells #[.int .i64 2, .int .i64 0, .int .i64 0, .bool false, .bool false] 30)).heap.size := by simp
      have cz : ∀ j, w5.cell? ⟨w4.heap.size, j, none⟩ = (w4.alloc (.cells #[.int .i64 2, .int .i64 0, .int .i64 0, .bool false, .bool false] 30)).cell? ⟨w4.heap.size, j, none⟩ := fun j => hB5.cell (p := ⟨w4.heap.size, j, none⟩) hzl
      have z0 : w5.cell? ⟨w4.heap.size, 0, none⟩ = some (.int .i64 2) := by rw [cz]; simp [go_sem]
      have z1 : w5.cell? ⟨w4.heap.size, 1, none⟩ = some (.int .i64 0) := by rw [cz]; simp [go_sem]
      have z2 : w5.cell? ⟨w4.heap.size, 2, none⟩ = some (.int .i64 0) := by rw [cz]; simp [go_sem]
      have z3 : w5.cell? ⟨w4.heap.size, 3, none⟩ = some (.bool false) := by rw [cz]; simp [go_sem]
      have z4 : w5.cell? ⟨w4.heap.size, 4, none⟩ = some (.bool false) := by rw [cz]; simp [go_sem]
      have hB45 := below_then hBz hB5
      have hB05 := below_then hB04 hB45
      have hSe : Hid _ := same_err 2 rfl w5 (ET_below hetH.out hB05)
      clear hLi hB5 cz hzl hBz hBz4
      go_wp2_with fail
      refine Calls.mono hSe.out ?_
      rintro e w6 ⟨rfl, hB6⟩
      have hB46 := below_then hB45 hB6
      have hB06 := below_then hB05 hB6
      have hSm : Hid _ := same_in none none 0 0 0 (fun _ => 0) w6 ⟨by omega, Or.inl rfl⟩ ⟨by omega, Or.inl rfl⟩
      clear hSe hB6 z0 z1 z2 z3 z4
      go_wp2_with fail
      refine Calls.mono hSm.out ?_
      rintro e w7 ⟨rfl, hB7⟩
      have hB47 := below_then hB46 hB7
      have hB07 := below_then hB06 hB7
      have hB27 := below_then hB24 hB47
      have hTm : Hid _ := sameValues_any (some ⟨g2, 0, none⟩) a n c2 cap kk xx w7 (hownH.out.below hB27 (Nat.le_refl _)) (hhH.out.below hB07 (Nat.le_refl _))
      clear hSm hB7
      go_wp2_with fail
      refine Calls.mono hTm.out ?_
      rintro e w8 ⟨rfl, hB8⟩
      have hB28 := below_then hB27 hB8
      have hB08 := below_then hB07 hB8
      have d77a : w8.cell? ⟨g2, n * 2, none⟩ = some (.int .u8 0) := by rw [hB28.cell (p := ⟨g2, n * 2, none⟩) hg2]; exact h77H.out.1
      have d77 : w8.cell? ⟨g2, n * 2 + 1, none⟩ = some (.int .i64 77) := by rw [hB28.cell (p := ⟨g2, n * 2 + 1, none⟩) hg2]; exact h77H.out.2
      clear hTm hB8
      go_wp2_with fail
      go_ret
      exact ⟨rfl, hB08⟩
    · exact absurd hr hnrH.out
  · have hnrH : Hid (AllV kk xx n) := hnr
    obtain ⟨sl, hsl⟩ : ∃ sl, sl = (valsS kk xx n n).s.1 := ⟨_, rfl⟩
    rw [← hsl] at hin3 ⊢
    have hslH : Hid (sl = (valsS kk xx n n).s.1) := hsl
    have hin3H : Hid (BytesIn w3 ta sl.length (natsOf sl)) := hin3
    clear hnr hin3 hsl
    go_wp2_with fail
    refine Calls.mono hD.out ?_
    rintro e w4 ⟨hE, hB4⟩
    have hB04 := below_then hB03 hB4
    have hB24 := below_then hB3 hB4
    have hB34 := hB4
    clear hD hB4 hB3
    rcases hE with ⟨h, _⟩ | ⟨_, hr, _⟩ | ⟨_, _, da, dc, rfl, hin4⟩
    · omega
    · exact absurd hnrH.out hr
    · rw [← hslH.out] at hin4 ⊢
      have hin4H : Hid (BytesIn w4 da sl.length (natsOf sl)) := hin4
      clear hin4
      simp only [badV]
      go_wp2_with fail
      have hBz := below_new (Below.refl _ w4) (.cells #[.int .i64 0, .int .i64 0, .int .i64 0, .bool false, .bool false] 30)
      have hBz4 := below_then hB04 hBz
      have hLi : Hid _ := live_block _ (CT_below hctH.out hBz4 hg) (by have := hBz4.size; omega)
      refine Calls.mono hLi.out ?_
      rintro e w5 ⟨rfl, hB5⟩
      have hzl : w4.heap.size < (w4.alloc (.cells #[.int .i64 0, .int .i64 0, .int .i64 0, .bool false, .bool false] 30)).heap.size := by simp
      have cz : ∀ j, w5.cell? ⟨w4.heap.size, j, none⟩ = (w4.alloc (.cells #[.int .i64 0, .int .i64 0, .int .i64 0, .bool false, .bool false] 30)).cell? ⟨w4.heap.size, j, none⟩ := fun j => hB5.cell (p := ⟨w4.heap.size, j, none⟩) hzl
      have z0 : w5.cell? ⟨w4.heap.size, 0, none⟩ = some (.int .i64 0) := by rw [cz]; simp [go_sem]
      have z1 : w5.cell? ⟨w4.heap.size, 1, none⟩ = some (.int .i64 0) := by rw [cz]; simp [go_sem]
      have z2 : w5.cell? ⟨w4.heap.size, 2, none⟩ = some (.int .i64 0) := by rw [cz]; simp [go_sem]
      have z3 : w5.cell? ⟨w4.heap.size, 3, none⟩ = some (.bool false) := by rw [cz]; simp [go_sem]
      have z4 : w5.cell? ⟨w4.heap.size, 4, none⟩ = some (.bool false) := by rw [cz]; simp [go_sem]
      have hB45 := below_then hBz hB5
      have hB05 := below_then hB04 hB45
      have hSe : Hid _ := same_nilB w5
      clear hLi hB5 cz hzl hBz hBz4
      go_wp2_with fail
      refine Calls.mono hSe.out ?_
      rintro e w6 ⟨rfl, hB6⟩
      have hB46 := below_then hB45 hB6
      have hB06 := below_then hB05 hB6
      have hSm : Hid _ := same_in ta da sl.length tc dc (natsOf sl) w6 ((hin3H.out.below hB34).below hB46) (hin4H.out.below hB46)
      clear hSe hB6 z0 z1 z2 z3 z4
      go_wp2_with fail
      refine Calls.mono hSm.out ?_
      rintro e w7 ⟨rfl, hB7⟩
      have hB47 := below_then hB46 hB7
      have hB07 := below_then hB06 hB7
      have hB27 := below_then hB24 hB47
      have hTm : Hid _ := sameValues_any (some ⟨g2, 0, none⟩) a n c2 cap kk xx w7 (hownH.out.below hB27 (Nat.le_refl _)) (hhH.out.below hB07 (Nat.le_refl _))
      clear hSm hB7
      go_wp2_with fail
      refine Calls.mono hTm.out ?_
      rintro e w8 ⟨rfl, hB8⟩
      have hB28 := below_then hB27 hB8
      have hB08 := below_then hB07 hB8
      have d77a : w8.cell? ⟨g2, n * 2, none⟩ = some (.int .u8 0) := by rw [hB28.cell (p := ⟨g2, n * 2, none⟩) hg2]; exact h77H.out.1
      have d77 : w8.cell? ⟨g2, n * 2 + 1, none⟩ = some (.int .i64 77) := by rw [hB28.cell (p := ⟨g2, n * 2 + 1, none⟩) hg2]; exact h77H.out.2
      clear hTm hB8
      go_wp2_with fail
      go_ret
      exact ⟨rfl, hB08⟩
end Go.Proofs.YtpanldgfjipmjaaDoor
