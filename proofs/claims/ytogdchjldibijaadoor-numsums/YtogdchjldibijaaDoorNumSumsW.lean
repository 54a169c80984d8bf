
import Derived.Test.YtogdchjldibijaaDoorDvH
import Derived.Test.YtogdchjldibijaaDoorSame
import Derived.Deep.RegionHeld3
import Derived.Deep.Cut
namespace Go.Proofs.YtogdchjldibijaaDoor
open Go.RowKit
set_option linter.unusedVariables false
set_option linter.unusedSimpArgs false
theorem plusB (hi lo n : Int) (h2 : U64 lo) (hn : I64 n) (w : World) : Calls Tryd.prog 8 #[.agg #[.int .i64 hi, .int .u64 lo], .int .i64 n] w fun e w' => e = .returned (.agg #[.int .i64 (sH (wr (sv hi lo + n))), .int .u64 (sL (wr (sv hi lo + n)))]) ∧ Below w.heap.size w w' := by
  refine (plus_any hi lo n h2 hn w).mono ?_
  rintro e w' ⟨rfl, c1, c2, c3, c4, rfl⟩
  exact ⟨rfl, below_new (below_new (below_new (below_new (Below.refl _ _) _) _) _) _⟩
theorem keep4 {W wx w' : World} {S : Nat} {ah al bh bl : Value} (hS : S + 1 < W.heap.size) (B : Below wx.heap.size wx w')
    (h : Below W.heap.size W wx ∧ wx.cell? ⟨S, 0, none⟩ = some ah ∧ wx.cell? ⟨S, 1, none⟩ = some al ∧ wx.cell? ⟨S + 1, 0, none⟩ = some bh ∧ wx.cell? ⟨S + 1, 1, none⟩ = some bl) :
    Below W.heap.size W w' ∧ w'.cell? ⟨S, 0, none⟩ = some ah ∧ w'.cell? ⟨S, 1, none⟩ = some al ∧ w'.cell? ⟨S + 1, 0, none⟩ = some bh ∧ w'.cell? ⟨S + 1, 1, none⟩ = some bl := by
  obtain ⟨h0, h1, h2, h3, h4⟩ := h
  have hz := h0.size
  refine ⟨below_then h0 B, ?_, ?_, ?_, ?_⟩
  · rw [B.cell (by simp; omega)]; exact h1
  · rw [B.cell (by simp; omega)]; exact h2
  · rw [B.cell (by simp; omega)]; exact h3
  · rw [B.cell (by simp; omega)]; exact h4
theorem three_of (v : Int) : ∃ (A E : Value) (C : Int), (A = .int .i64 (sm0 v) ∧ E = sm1 v ∧ smB v = .agg #[.int .i64 C, .int .i64 0, .int .i64 0, .bool false, .bool false]) ∧ ∀ w : World, ET w → Calls Tryd.prog 18 #[A, E, A, .agg #[.int .i64 C, .int .i64 0, .int .i64 0, .bool false, .bool false]] w fun e w' => e = .returned (.bool true) ∧ Below w.heap.size w w' := by
  by_cases hv : I64 v
  · refine ⟨_, _, 0, ⟨rfl, rfl, if_pos hv⟩, fun w hg => ?_⟩
    rw [sm1_yes hv]; exact law_same_nil _ w
  · refine ⟨_, _, 20, ⟨rfl, rfl, if_neg hv⟩, fun w hg => ?_⟩
    rw [sm1_no hv]; exact law_same_err _ 20 rfl w hg
theorem small3 (ah al : Int) (h1 : I64 ah) (h2 : U64 al) : ∃ (A : Int) (E : Value) (C : Int), (∀ w : World, Calls Tryd.prog 16 #[.agg #[.int .i64 ah, .int .u64 al]] w fun e w' => e = .returned (.tuple #[.int .i64 A, E]) ∧ Below w.heap.size w w') ∧
    (∀ w : World, Calls Tryd.prog 17 #[.agg #[.int .i64 ah, .int .u64 al]] w fun e w' => e = .returned (.tuple #[.int .i64 A, .agg #[.int .i64 C, .int .i64 0, .int .i64 0, .bool false, .bool false]]) ∧ Below w.heap.size w w') ∧
    ∀ w : World, ET w → Calls Tryd.prog 18 #[.int .i64 A, E, .int .i64 A, .agg #[.int .i64 C, .int .i64 0, .int .i64 0, .bool false, .bool false]] w fun e w' => e = .returned (.bool true) ∧ Below w.heap.size w w' := by
  obtain ⟨A, E, C, ⟨rfl, rfl, hC⟩, hs⟩ := three_of (sv ah al)
  refine ⟨_, _, C, fun w => small_any ah al h2 w, fun w => ?_, hs⟩
  rw [← hC]; exact rsmall_any ah al h1 h2 w
theorem ratio3 (ah al n : Int) (h1 : I64 ah) (h2 : U64 al) (hn : I64 n) : ∃ (A : Int) (E : Value) (C : Int), (∀ w : World, Calls Tryd.prog 19 #[.agg #[.int .i64 ah, .int .u64 al], .int .i64 n] w fun e w' => e = .returned (.tuple #[.int .i64 A, E]) ∧ Below w.heap.size w w') ∧
    (∀ w : World, Calls Tryd.prog 20 #[.agg #[.int .i64 ah, .int .u64 al], .int .i64 n] w fun e w' => e = .returned (.tuple #[.int .i64 A, .agg #[.int .i64 C, .int .i64 0, .int .i64 0, .bool false, .bool false]]) ∧ Below w.heap.size w w') ∧
    ∀ w : World, ET w → Calls Tryd.prog 18 #[.int .i64 A, E, .int .i64 A, .agg #[.int .i64 C, .int .i64 0, .int .i64 0, .bool false, .bool false]] w fun e w' => e = .returned (.bool true) ∧ Below w.heap.size w w' := by
  by_cases h0 : n = 0
  · subst h0
    refine ⟨0, .iface 33 (.int .i64 21), 21, fun w => ?_, fun w => rratio_zero ah al w, fun w hg => law_same_err 0 21 rfl w hg⟩
    refine (ratio_zero ah al w).mono ?_
    rintro e w' ⟨rfl, hb⟩
    first | exact ⟨rfl, hb⟩ | (subst hb; exact ⟨rfl, below_new (Below.refl _ _) _⟩) | (obtain ⟨c, rfl⟩ := hb; exact ⟨rfl, below_new (Below.refl _ _) _⟩)
  · obtain ⟨A, E, C, ⟨rfl, rfl, hC⟩, hs⟩ := three_of (quoI (sv ah al) n)
    refine ⟨_, _, C, fun w => ratio_full ah al n h1 h2 hn h0 w, fun w => ?_, hs⟩
    rw [← hC]; exact rratio_any ah al n h1 h2 hn h0 w
set_option maxRecDepth 100000 in
set_option maxHeartbeats 8000000 in
theorem numSums_region (ah al bh bl n : Int) (h1 : I64 ah) (h2 : U64 al) (h3 : I64 bh) (h4 : U64 bl) (hn : I64 n) (w : World) (hg : ET w) :
    Calls Tryd.prog 3 #[.agg #[.int .i64 ah, .int .u64 al], .agg #[.int .i64 bh, .int .u64 bl], .int .i64 n] w fun e w' => e = .returned (.bool true) ∧ Below w.heap.size w w' := by
  obtain ⟨W, hW⟩ : ∃ W, W = (w.alloc (.cells #[.int .i64 ah, .int .u64 al] 24)).alloc (.cells #[.int .i64 bh, .int .u64 bl] 24) := ⟨_, rfl⟩
  have hB0 : Below w.heap.size w W := by rw [hW]; exact below_new (below_new (Below.refl _ _) _) _
  have hsz : W.heap.size = w.heap.size + 1 + 1 := by rw [hW]; simp
  have hS2 : w.heap.size + 1 < W.heap.size := by omega
  have hS0 : Below W.heap.size W W ∧ W.cell? ⟨w.heap.size, 0, none⟩ = some (.int .i64 ah) ∧ W.cell? ⟨w.heap.size, 1, none⟩ = some (.int .u64 al) ∧ W.cell? ⟨w.heap.size + 1, 0, none⟩ = some (.int .i64 bh) ∧ W.cell? ⟨w.heap.size + 1, 1, none⟩ = some (.int .u64 bl) := by
    rw [hW]; exact ⟨Below.refl _ _, by simp [go_sem], by simp [go_sem], by simp [go_sem], by simp [go_sem]⟩
  have gW := ET_below hg hB0
  have hWH : Hid _ := hW
  have hpp := plusB ah al n h2 hn
  have hrp := rplus_any ah al n h1 h2 hn
  have hmm := minus_any ah al n h2 hn
  have hrm := rminus_any ah al n h1 h2 hn
  have hcc := cmp_any ah al bh bl h2 h4
  have hrc := rcmp_any ah al bh bl h2 h4
  have hc0 := cmp_any ah al ah al h2 h2
  have hpr := print_any ah al h1 h2
  have hrr := rprint_any ah al h1 h2
  rw [show cmpI (sv ah al) (sv ah al) = 0 by unfold cmpI; rw [if_neg (by omega), if_neg (by omega)]] at hc0
  obtain ⟨P0, e0⟩ : ∃ z, z = sH (wr (sv ah al + n)) := ⟨_, rfl⟩
  obtain ⟨P1, e1⟩ : ∃ z, z = sL (wr (sv ah al + n)) := ⟨_, rfl⟩
  obtain ⟨M0, e2⟩ : ∃ z, z = sH (wr (sv ah al - n)) := ⟨_, rfl⟩
  obtain ⟨M1, e3⟩ : ∃ z, z = sL (wr (sv ah al - n)) := ⟨_, rfl⟩
  obtain ⟨C, e4⟩ : ∃ z, z = cmpI (sv ah al) (sv bh bl) := ⟨_, rfl⟩
  obtain ⟨T, e5⟩ : ∃ z, z = decS (sv ah al) := ⟨_, rfl⟩
  rw [← e0, ← e1] at hpp hrp
  rw [← e2, ← e3] at hmm hrm
  rw [← e4] at hcc hrc
  rw [← e5] at hpr hrr
  obtain ⟨A1, E1, C1, k1, k2, k3⟩ := small3 ah al h1 h2
  obtain ⟨A2, E2, C2, k4, k5, k6⟩ := ratio3 ah al n h1 h2 hn
  have hsmH : Hid _ := k1
  have hrsH : Hid _ := k2
  have hs1H : Hid _ := k3
  have hraH : Hid _ := k4
  have hrrH2 : Hid _ := k5
  have hs2H : Hid _ := k6
  clear k1 k2 k3 k4 k5 k6
  have hppH : Hid _ := hpp
  have hrpH : Hid _ := hrp
  have hmmH : Hid _ := hmm
  have hrmH : Hid _ := hrm
  have hccH : Hid _ := hcc
  have hrcH : Hid _ := hrc
  have hc0H : Hid _ := hc0
  have hprH : Hid _ := hpr
  have hrrH : Hid _ := hrr
  clear hW hpp hrp hmm hrm hcc hrc hc0 hpr hrr e0 e1 e2 e3 e4 e5
  go_enter Tryd.func3, Tryd.ntmps3
  go_wp2_with fail
  rw [← hWH.out]
  refine (live_any W gW).mono ?_
  rintro e w1 ⟨rfl, B1⟩
  have S1 := keep4 hS2 B1 hS0
  have S1d : Below W.heap.size W w1.drew ∧ w1.drew.cell? ⟨w.heap.size, 0, none⟩ = some (.int .i64 ah) ∧ w1.drew.cell? ⟨w.heap.size, 1, none⟩ = some (.int .u64 al) ∧ w1.drew.cell? ⟨w.heap.size + 1, 0, none⟩ = some (.int .i64 bh) ∧ w1.drew.cell? ⟨w.heap.size + 1, 1, none⟩ = some (.int .u64 bl) := ⟨S1.1.drew, S1.2⟩
  clear hS0 B1
  go_upto_region 3 with fail
  go_cut [50] from 13 (fun s wx => s = .bool false ∧ Below W.heap.size W wx ∧ wx.cell? ⟨w.heap.size, 0, none⟩ = some (.int .i64 ah) ∧ wx.cell? ⟨w.heap.size, 1, none⟩ = some (.int .u64 al) ∧ wx.cell? ⟨w.heap.size + 1, 0, none⟩ = some (.int .i64 bh) ∧ wx.cell? ⟨w.heap.size + 1, 1, none⟩ = some (.int .u64 bl))
  case first =>
    go_region_held3 (fun w' => Below W.heap.size W w' ∧ w'.cell? ⟨w.heap.size, 0, none⟩ = some (.int .i64 ah) ∧ w'.cell? ⟨w.heap.size, 1, none⟩ = some (.int .u64 al) ∧ w'.cell? ⟨w.heap.size + 1, 0, none⟩ = some (.int .i64 bh) ∧ w'.cell? ⟨w.heap.size + 1, 1, none⟩ = some (.int .u64 bl)) (first | assumption)
      (first
        | (go_at_call 8; (with_reducible refine Calls.mono (hppH.out _) ?_); rintro e w' ⟨rfl, BB⟩; have SS := keep4 hS2 BB (by assumption))
        | (go_at_call 9; (with_reducible refine Calls.mono (hrpH.out _) ?_); rintro e w' ⟨rfl, BB⟩; have SS := keep4 hS2 BB (by assumption))
        | (go_at_call 10; (with_reducible refine Calls.mono (hmmH.out _) ?_); rintro e w' ⟨rfl, BB⟩; have SS := keep4 hS2 BB (by assumption))
        | (go_at_call 11; (with_reducible refine Calls.mono (hrmH.out _) ?_); rintro e w' ⟨rfl, BB⟩; have SS := keep4 hS2 BB (by assumption))
        | (go_at_call 12; (with_reducible refine Calls.mono (hc0H.out _) ?_); rintro e w' ⟨rfl, BB⟩; have SS := keep4 hS2 BB (by assumption))
        | (go_at_call 12; (with_reducible refine Calls.mono (hccH.out _) ?_); rintro e w' ⟨rfl, BB⟩; have SS := keep4 hS2 BB (by assumption))
        | (go_at_call 13; (with_reducible refine Calls.mono (hrcH.out _) ?_); rintro e w' ⟨rfl, BB⟩; have SS := keep4 hS2 BB (by assumption))
        | (go_at_call 14; (with_reducible refine Calls.mono (hprH.out _) ?_); rintro e w' ⟨rfl, BB⟩; have SS := keep4 hS2 BB (by assumption))
        | (go_at_call 15; (with_reducible refine Calls.mono (hrrH.out _) ?_); rintro e w' ⟨rfl, BB⟩; have SS := keep4 hS2 BB (by assumption)))
    all_goals (go_wp2_with fail; go_meet; exact ⟨rfl, by assumption⟩)
  case rest =>
    obtain ⟨rfl, S2⟩ := hcut
    clear S1 S1d
    obtain ⟨P2, s0, s1, o0, o1⟩ := S2
    go_wp2_with fail
    refine (hsmH.out _).mono ?_
    rintro e w3 ⟨rfl, B3⟩
    have P3 := below_then P2 B3
    have z2 := P2.size
    have z3 := P3.size
    have t0 : w3.cell? ⟨w.heap.size, 0, none⟩ = some (.int .i64 ah) := by rw [B3.cell (by simp; omega)]; exact s0
    have t1 : w3.cell? ⟨w.heap.size, 1, none⟩ = some (.int .u64 al) := by rw [B3.cell (by simp; omega)]; exact s1
    go_wp2_with fail
    refine (hrsH.out _).mono ?_
    rintro e w4 ⟨rfl, B4⟩
    have P4 := below_then P3 B4
    have P4' : Below W.heap.size W (w4.alloc (.cells #[.int .i64 C1, .int .i64 0, .int .i64 0, .bool false, .bool false] 35)) := below_new P4 _
    have z4 := P4.size
    have v0 : w4.cell? ⟨w.heap.size, 0, none⟩ = some (.int .i64 ah) := by rw [B4.cell (by simp; omega)]; exact t0
    have v1 : w4.cell? ⟨w.heap.size, 1, none⟩ = some (.int .u64 al) := by rw [B4.cell (by simp; omega)]; exact t1
    clear s0 s1 o0 o1 t0 t1 B3 B4
    go_wp2_with fail
    refine (hs1H.out _ (ET_below gW P4')).mono ?_
    rintro e w5 ⟨rfl, B5⟩
    have P5 := below_then P4' B5
    have z5 := P5.size
    have zz : (w4.alloc (.cells #[.int .i64 C1, .int .i64 0, .int .i64 0, .bool false, .bool false] 35)).heap.size = w4.heap.size + 1 := by simp
    have z55 := B5.size
    have u0 : w5.cell? ⟨w.heap.size, 0, none⟩ = some (.int .i64 ah) := by rw [B5.cell (by rw [zz]; simp; omega), World.cell?_alloc_lt _ _ ⟨w.heap.size, 0, none⟩ (by simp; omega)]; exact v0
    have u1 : w5.cell? ⟨w.heap.size, 1, none⟩ = some (.int .u64 al) := by rw [B5.cell (by rw [zz]; simp; omega), World.cell?_alloc_lt _ _ ⟨w.heap.size, 1, none⟩ (by simp; omega)]; exact v1
    have q : ∀ j, w5.cell? ⟨w4.heap.size, j, none⟩ = (w4.alloc (.cells #[.int .i64 C1, .int .i64 0, .int .i64 0, .bool false, .bool false] 35)).cell? ⟨w4.heap.size, j, none⟩ := fun j => B5.cell (by rw [zz]; simp)
    have qf : ∀ j, w5.frozen? ⟨w4.heap.size, j, none⟩ = false := fun j => by rw [B5.frozen (by rw [zz]; simp)]; simp [go_sem]
    have q0 : w5.cell? ⟨w4.heap.size, 0, none⟩ = some (.int .i64 C1) := by rw [q]; simp [go_sem]
    have q1 : w5.cell? ⟨w4.heap.size, 1, none⟩ = some (.int .i64 0) := by rw [q]; simp [go_sem]
    have q2 : w5.cell? ⟨w4.heap.size, 2, none⟩ = some (.int .i64 0) := by rw [q]; simp [go_sem]
    have q3 : w5.cell? ⟨w4.heap.size, 3, none⟩ = some (.bool false) := by rw [q]; simp [go_sem]
    have q4 : w5.cell? ⟨w4.heap.size, 4, none⟩ = some (.bool false) := by rw [q]; simp [go_sem]
    have qlt : w4.heap.size < w5.heap.size := by omega
    have qfH : Hid _ := qf
    clear v0 v1 q qf zz
    go_wp2_with fail
    refine (hraH.out _).mono ?_
    rintro e w6 ⟨rfl, B6⟩
    have P6 := below_then P5 B6
    have z6 := B6.size
    have x0 : w6.cell? ⟨w.heap.size, 0, none⟩ = some (.int .i64 ah) := by rw [B6.cell (by simp; omega)]; exact u0
    have x1 : w6.cell? ⟨w.heap.size, 1, none⟩ = some (.int .u64 al) := by rw [B6.cell (by simp; omega)]; exact u1
    go_wp2_with fail
    refine (hrrH2.out _).mono ?_
    rintro e w7 ⟨rfl, B7⟩
    have B57 := below_then B6 B7
    have P7 := below_then P6 B7
    have z7 := B57.size
    have y0 : w7.cell? ⟨w4.heap.size, 0, none⟩ = some (.int .i64 C1) := by rw [B57.cell (by simp; omega)]; exact q0
    have y1 : w7.cell? ⟨w4.heap.size, 1, none⟩ = some (.int .i64 0) := by rw [B57.cell (by simp; omega)]; exact q1
    have y2 : w7.cell? ⟨w4.heap.size, 2, none⟩ = some (.int .i64 0) := by rw [B57.cell (by simp; omega)]; exact q2
    have y3 : w7.cell? ⟨w4.heap.size, 3, none⟩ = some (.bool false) := by rw [B57.cell (by simp; omega)]; exact q3
    have y4 : w7.cell? ⟨w4.heap.size, 4, none⟩ = some (.bool false) := by rw [B57.cell (by simp; omega)]; exact q4
    have f0 : w7.frozen? ⟨w4.heap.size, 0, none⟩ = false := by rw [B57.frozen (by simp; omega)]; exact qfH.out 0
    have f1 : w7.frozen? ⟨w4.heap.size, 1, none⟩ = false := by rw [B57.frozen (by simp; omega)]; exact qfH.out 1
    have f2 : w7.frozen? ⟨w4.heap.size, 2, none⟩ = false := by rw [B57.frozen (by simp; omega)]; exact qfH.out 2
    have f3 : w7.frozen? ⟨w4.heap.size, 3, none⟩ = false := by rw [B57.frozen (by simp; omega)]; exact qfH.out 3
    have f4 : w7.frozen? ⟨w4.heap.size, 4, none⟩ = false := by rw [B57.frozen (by simp; omega)]; exact qfH.out 4
    have P8 := setBad (N := w4.heap.size) (v0 := .int .i64 C2) (v1 := .int .i64 0) (v2 := .int .i64 0) (v3 := .bool false) (v4 := .bool false) P7 z4
    clear x0 x1 q0 q1 q2 q3 q4 u0 u1 B6 B7 B5
    go_wp2_with fail
    refine (hs2H.out _ (ET_below gW P8)).mono ?_
    rintro e w9 ⟨rfl, B9⟩
    have P9 := below_then P8 B9
    go_wp2_with fail
    go_ret
    exact ⟨rfl, below_then hB0 P9⟩
end Go.Proofs.YtogdchjldibijaaDoor
