
import Derived.Test.YtpanldgfjipmjaaDoorBlJ
namespace Go.Proofs.YtpanldgfjipmjaaDoor
open Go.RowKit
set_option linter.unusedVariables false
set_option linter.unusedSimpArgs false
set_option maxRecDepth 100000 in
set_option maxHeartbeats 4000000 in
theorem blockTimes_walk (a : Option Addr) (n cap : Nat) (z : Nat → Int) (w : World) (h : IsIn w a n z) (hs : n ≤ 1048576) (hct : CT w) (hg : 0 < w.heap.size) (het : ET w) : Calls Tryd.prog 3 #[.slice a n cap] w fun e w' => e = .returned (.bool true) ∧ Below w.heap.size w w' := by
  obtain ⟨g1, c1, w1, g2, c2, w2, hr1, hr2, hc2, hg2, hgb, hcells, h77, hB2⟩ := own_copy w a n cap z h hs
  have hr1H : Hid _ := hr1
  have hr2H : Hid _ := hr2
  have hown : IsIn w2 (some ⟨g2, 0, none⟩) n z := ⟨h.1, h.2.1, Or.inr ⟨g2, 0, rfl, hg2, fun i hi => by rw [Nat.zero_add]; exact hcells i hi⟩⟩
  have hownH : Hid (IsIn w2 (some ⟨g2, 0, none⟩) n z) := hown
  have hhH : Hid (IsIn w a n z) := h
  have hctH : Hid (CT w) := hct
  have hetH : Hid (ET w) := het
  have h77H : Hid _ := h77
  have k1 : (0 : Int) ≤ (n : Int) := by omega
  have k2 : (n : Int) ≤ (c2 : Int) := by omega
  have k3 : (n : Int) ≤ (n : Int) + 1 := by omega
  have k4 : n ≤ c2 := by omega
  have hT : Hid _ := times_any (some ⟨g2, 0, none⟩) n c2 z w2 hown (CT_below hct hB2 hg) (by have := hB2.size; omega)
  clear hr1 hr2 hown h hct het hcells h77
  go_enter Tryd.func3, Tryd.ntmps3
  go_wp2_with (at_builtin; first | (refine wpList_append_run2 (by rfl) _ _ _ _ (by rfl) _ _ _ _ (by rfl) (by rfl) hr1H.out ?_; clear hr1H) | (refine wpList_append_run2 (by rfl) _ _ _ _ (by rfl) _ _ _ _ (by rfl) (by rfl) hr2H.out ?_; clear hr2H))
  refine Calls.mono hT.out ?_
  rintro e w3 ⟨hE, hB3⟩
  have hB03 := below_then hB2 hB3
  have hD : Hid _ := dtimes_any a n cap z w3 (hhH.out.below hB03 (Nat.le_refl _))
  clear hT
  rcases hE with ⟨h, _⟩ | ⟨_, hnr, rfl⟩ | ⟨_, hnr, ta, tc, rfl, hin3⟩
  · omega
  · have hnrH : Hid (¬ Rises z n) := hnr
    clear hnr
    go_wp2_with fail
    refine Calls.mono hD.out ?_
    rintro e w4 ⟨hE, hB4⟩
    have hB04 := below_then hB03 hB4
    have hB24 := below_then hB3 hB4
    clear hD hB4 hB3
    rcases hE with ⟨h, _⟩ | ⟨_, _, rfl⟩ | ⟨_, hr, _⟩
    · omega
    · simp only [badV]
      go_wp2_with fail
      have hBz := below_new (Below.refl _ w4) (.cells #[.int .i64 2, .int .i64 0, .int .i64 0, .bool false, .bool false] 30)
      have hBz4 := below_then hB04 hBz
      have hLi : Hid _ := live_block _ (CT_below hctH.out hBz4 hg) (by have := hBz4.size; omega)
      refine Calls.mono hLi.out ?_
      rintro e w5 ⟨rfl, hB5⟩
      have hzl : w4.heap.size < (w4.alloc (.cells #[.int .i64 2, .int .i64 0, .int .i64 0, .bool false, .bool false] 30)).heap.size := by simp
      have cz : ∀ j, w5.cell? ⟨w4.heap.size, j, none⟩ = (w4.alloc (.cells #[.int .i64 2, .int .i64 0, .int .i64 0, .bool false, .bool false] 30)).cell? ⟨w4.heap.size, j, none⟩ := fun j => hB5.cell (p := ⟨w4.heap.size, j, none⟩) hzl
      have z0 : w5.cell? ⟨w4.heap.size, 0, none⟩ = some (.int .i64 2) := by rw [cz]; simp [go_sem]
      have z1 : w5.cell? ⟨w4.heap.size, 1, none⟩ = some (.int .i64 0) := by rw [cz]; simp [go_sem]
      have z2 : w5.cell? ⟨w4.heap.size, 2, none⟩ = some (.int .i64 0) := by rw [cz]; simp [go_sem]
      have z3 : w5.cell? ⟨w4.heap.size, 3, none⟩ = some (.bool false) := by rw [cz]; simp [go_sem]
      have z4 : w5.cell? ⟨w4.heap.size, 4, none⟩ = some (.bool false) := by rw [cz]; simp [go_sem]
      have hB45 := below_then hBz hB5
      have hB05 := below_then hB04 hB45
      have hSe : Hid _ := same_err 2 rfl w5 (ET_below hetH.out hB05)
      clear hLi hB5 cz hzl hBz hBz4
      go_wp2_with fail
      refine Calls.mono hSe.out ?_
      rintro e w6 ⟨rfl, hB6⟩
      have hB46 := below_then hB45 hB6
      have hB06 := below_then hB05 hB6
      have hSm : Hid _ := same_in none none 0 0 0 (fun _ => 0) w6 ⟨by omega, Or.inl rfl⟩ ⟨by omega, Or.inl rfl⟩
      clear hSe hB6 z0 z1 z2 z3 z4
      go_wp2_with fail
      refine Calls.mono hSm.out ?_
      rintro e w7 ⟨rfl, hB7⟩
      have hB47 := below_then hB46 hB7
      have hB07 := below_then hB06 hB7
      have hB27 := below_then hB24 hB47
      have hTm : Hid _ := sameTimes_any (some ⟨g2, 0, none⟩) a n c2 cap z w7 (hownH.out.below hB27 (Nat.le_refl _)) (hhH.out.below hB07 (Nat.le_refl _))
      clear hSm hB7
      go_wp2_with fail
      refine Calls.mono hTm.out ?_
      rintro e w8 ⟨rfl, hB8⟩
      have hB28 := below_then hB27 hB8
      have hB08 := below_then hB07 hB8
      have d77 : w8.cell? ⟨g2, n, none⟩ = some (.int .i64 77) := by rw [hB28.cell (p := ⟨g2, n, none⟩) hg2]; exact h77H.out
      clear hTm hB8
      go_wp2_with fail
      go_ret
      exact ⟨rfl, hB08⟩
    · exact absurd hr hnrH.out
  · have hnrH : Hid (Rises z n) := hnr
    obtain ⟨sl, hsl⟩ : ∃ sl, sl = (timesS z n n).1 := ⟨_, rfl⟩
    rw [← hsl] at hin3 ⊢
    have hslH : Hid (sl = (timesS z n n).1) := hsl
    have hin3H : Hid (BytesIn w3 ta sl.length (natsOf sl)) := hin3
    clear hnr hin3 hsl
    go_wp2_with fail
    refine Calls.mono hD.out ?_
    rintro e w4 ⟨hE, hB4⟩
    have hB04 := below_then hB03 hB4
    have hB24 := below_then hB3 hB4
    have hB34 := hB4
    clear hD hB4 hB3
    rcases hE with ⟨h, _⟩ | ⟨_, hr, _⟩ | ⟨_, _, da, dc, rfl, hin4⟩
    · omega
    · exact absurd hnrH.out hr
    · rw [← hslH.out] at hin4 ⊢
      have hin4H : Hid (BytesIn w4 da sl.length (natsOf sl)) := hin4
      clear hin4
      simp only [badV]
      go_wp2_with fail
      have hBz := below_new (Below.refl _ w4) (.cells #[.int .i64 0, .int .i64 0, .int .i64 0, .bool false, .bool false] 30)
      have hBz4 := below_then hB04 hBz
      have hLi : Hid _ := live_block _ (CT_below hctH.out hBz4 hg) (by have := hBz4.size; omega)
      refine Calls.mono hLi.out ?_
      rintro e w5 ⟨rfl, hB5⟩
      have hzl : w4.heap.size < (w4.alloc (.cells #[.int .i64 0, .int .i64 0, .int .i64 0, .bool false, .bool false] 30)).heap.size := by simp
      have cz : ∀ j, w5.cell? ⟨w4.heap.size, j, none⟩ = (w4.alloc (.cells #[.int .i64 0, .int .i64 0, .int .i64 0, .bool false, .bool false] 30)).cell? ⟨w4.heap.size, j, none⟩ := fun j => hB5.cell (p := ⟨w4.heap.size, j, none⟩) hzl
      have z0 : w5.cell? ⟨w4.heap.size, 0, none⟩ = some (.int .i64 0) := by rw [cz]; simp [go_sem]
      have z1 : w5.cell? ⟨w4.heap.size, 1, none⟩ = some (.int .i64 0) := by rw [cz]; simp [go_sem]
      have z2 : w5.cell? ⟨w4.heap.size, 2, none⟩ = some (.int .i64 0) := by rw [cz]; simp [go_sem]
      have z3 : w5.cell? ⟨w4.heap.size, 3, none⟩ = some (.bool false) := by rw [cz]; simp [go_sem]
      have z4 : w5.cell? ⟨w4.heap.size, 4, none⟩ = some (.bool false) := by rw [cz]; simp [go_sem]
      have hB45 := below_then hBz hB5
      have hB05 := below_then hB04 hB45
      have hSe : Hid _ := same_nilB w5
      clear hLi hB5 cz hzl hBz hBz4
      go_wp2_with fail
      refine Calls.mono hSe.out ?_
      rintro e w6 ⟨rfl, hB6⟩
      have hB46 := below_then hB45 hB6
      have hB06 := below_then hB05 hB6
      have hSm : Hid _ := same_in ta da sl.length tc dc (natsOf sl) w6 ((hin3H.out.below hB34).below hB46) (hin4H.out.below hB46)
      clear hSe hB6 z0 z1 z2 z3 z4
      go_wp2_with fail
      refine Calls.mono hSm.out ?_
      rintro e w7 ⟨rfl, hB7⟩
      have hB47 := below_then hB46 hB7
      have hB07 := below_then hB06 hB7
      have hB27 := below_then hB24 hB47
      have hTm : Hid _ := sameTimes_any (some ⟨g2, 0, none⟩) a n c2 cap z w7 (hownH.out.below hB27 (Nat.le_refl _)) (hhH.out.below hB07 (Nat.le_refl _))
      clear hSm hB7
      go_wp2_with fail
      refine Calls.mono hTm.out ?_
      rintro e w8 ⟨rfl, hB8⟩
      have hB28 := below_then hB27 hB8
      have hB08 := below_then hB07 hB8
      have d77 : w8.cell? ⟨g2, n, none⟩ = some (.int .i64 77) := by rw [hB28.cell (p := ⟨g2, n, none⟩) hg2]; exact h77H.out
      clear hTm hB8
      go_wp2_with fail
      go_ret
      exact ⟨rfl, hB08⟩
end Go.Proofs.YtpanldgfjipmjaaDoor
