
import Derived.Test.YtpicgjjbpiinfaaGreatDoorBuH
import Derived.Deep.RegionHeld3
namespace Go.Proofs.YtpicgjjbpiinfaaGreatDoor
open Go.RowKit
set_option linter.unusedVariables false
set_option linter.unusedSimpArgs false
theorem rdB_small (bs : Nat → Nat) (q : Nat) : ∀ c, rdB bs q c < 2 ^ c := by
  intro c
  induction c with
  | zero => simp [rdB]
  | succ c ih =>
    have : bs ((q + c) / 8) / 2 ^ (7 - (q + c) % 8) % 2 < 2 := Nat.mod_lt _ (by omega)
    simp only [rdB, Nat.pow_succ]; omega
section
variable {N : Nat} {w1 : World} {a : Option Addr} {n cap p r : Nat} {bs : Nat → Nat} {fv : Option (Int × Int)} {w : World}
set_option maxRecDepth 100000 in
set_option maxHeartbeats 4000000 in
theorem dBits_bad (x : Int × Int) (h : QR N w1 a n cap bs p r (some x) w) (k : Int) : Calls Tryz.prog 60 #[.pointer (some ⟨N, 0, none⟩), .int .i64 k] w fun e w' => e = .returned (.int .u64 0) ∧ QR N w1 a n cap bs p r (some x) w' ∧ RF N w w' := by
  have c0 := h.c0
  have c1 := h.c1
  have c2 := h.c2
  have c3 := h.c3
  have hpn := h.pn
  have hnb := h.nb
  have hr8 := h.r8
  have hrp := h.rp
  have hx := h.fe x rfl
  obtain ⟨x1, x2⟩ := x
  simp only [fcd] at c3 hx
  obtain ⟨bt, hbt⟩ : ∃ bt, bt = (8 - r) % 8 := ⟨_, rfl⟩
  rw [← hbt] at c2
  have hb8 : bt < 8 := by omega
  have hbtH : Hid (bt = (8 - r) % 8) := hbt
  have hH : Hid _ := h
  have hck := broughtN_le k
  obtain ⟨c, hc⟩ : ∃ c, c = broughtN k := ⟨_, rfl⟩
  have hbr : Hid (∀ w', Calls Tryz.prog 88 #[.int .i64 k] w' fun e w'' => e = .returned (.int .i64 (c : Int)) ∧ w'' = w') := fun w' => by rw [hc]; exact rbrought k w'
  rw [← hc] at hck
  skip
  have hcH : Hid (c = broughtN k) := hc
  clear h hc
  have j1 : IntKind.i64.wrap ((n : Int) - (p : Int)) = (n : Int) - (p : Int) := IntWalk.i64_in _ (by omega)
  have j2 : IntKind.i64.wrap (8 * ((n : Int) - (p : Int))) = 8 * ((n : Int) - (p : Int)) := IntWalk.i64_in _ (by omega)
  have j3 : IntKind.i64.wrap (8 - (bt : Int)) = 8 - (bt : Int) := IntWalk.i64_in _ (by omega)
  have j4 : IntKind.i64.wrap (8 * ((n : Int) - (p : Int)) + (8 - (bt : Int))) = 8 * ((n : Int) - (p : Int)) + (8 - (bt : Int)) := IntWalk.i64_in _ (by omega)
  skip
  clear hbt
  go_enter Tryz.func60, Tryz.ntmps60
  go_wp2_with fail
  refine Calls.mono (hbr.out _) ?_
  rintro e w2 ⟨rfl, hw⟩
  have hw' := hw.symm
  subst hw'
  clear hw
  rcases Nat.eq_zero_or_pos bt with hb0 | hb0
  · have hbI : ¬ (0 : Int) < (bt : Int) := by omega
    clear hb0
    go_wp2_with fail
    go_quiet (fail)
    go_wp2_with fail
    all_goals first
      | (exfalso; omega)
      | (go_ret; exact ⟨rfl, hH.out.drewN _, RF.drewN _ _⟩)
  · have hbI : (0 : Int) < (bt : Int) := by omega
    go_wp2_with fail
    go_quiet (fail)
    go_wp2_with fail
    all_goals first
      | (exfalso; omega)
      | (go_ret; exact ⟨rfl, hH.out.drewN _, RF.drewN _ _⟩)
set_option maxRecDepth 100000 in
set_option maxHeartbeats 4000000 in
theorem dBits_short (h : QR N w1 a n cap bs p r none w) (k : Int) (hsh : 8 * n < 8 * p - r + broughtN k) : Calls Tryz.prog 60 #[.pointer (some ⟨N, 0, none⟩), .int .i64 k] w fun e w' => e = .returned (.int .u64 0) ∧ QR N w1 a n cap bs p r (some ((n : Int), 30)) w' ∧ RF N w w' := by
  have c0 := h.c0
  have c1 := h.c1
  have c2 := h.c2
  have c3 := h.c3
  have hpn := h.pn
  have hnb := h.nb
  have hr8 := h.r8
  have hrp := h.rp
  simp only [fcd] at c3
  obtain ⟨bt, hbt⟩ : ∃ bt, bt = (8 - r) % 8 := ⟨_, rfl⟩
  rw [← hbt] at c2
  have hb8 : bt < 8 := by omega
  have hbtH : Hid (bt = (8 - r) % 8) := hbt
  have hH : Hid _ := h
  have hck := broughtN_le k
  obtain ⟨c, hc⟩ : ∃ c, c = broughtN k := ⟨_, rfl⟩
  have hbr : Hid (∀ w', Calls Tryz.prog 88 #[.int .i64 k] w' fun e w'' => e = .returned (.int .i64 (c : Int)) ∧ w'' = w') := fun w' => by rw [hc]; exact rbrought k w'
  rw [← hc] at hck
  rw [← hc] at hsh
  have hcH : Hid (c = broughtN k) := hc
  clear h hc
  have j1 : IntKind.i64.wrap ((n : Int) - (p : Int)) = (n : Int) - (p : Int) := IntWalk.i64_in _ (by omega)
  have j2 : IntKind.i64.wrap (8 * ((n : Int) - (p : Int))) = 8 * ((n : Int) - (p : Int)) := IntWalk.i64_in _ (by omega)
  have j3 : IntKind.i64.wrap (8 - (bt : Int)) = 8 - (bt : Int) := IntWalk.i64_in _ (by omega)
  have j4 : IntKind.i64.wrap (8 * ((n : Int) - (p : Int)) + (8 - (bt : Int))) = 8 * ((n : Int) - (p : Int)) + (8 - (bt : Int)) := IntWalk.i64_in _ (by omega)
  skip
  clear hbt
  go_enter Tryz.func60, Tryz.ntmps60
  go_wp2_with fail
  refine Calls.mono (hbr.out _) ?_
  rintro e w2 ⟨rfl, hw⟩
  have hw' := hw.symm
  subst hw'
  clear hw
  rcases Nat.eq_zero_or_pos bt with hb0 | hb0
  · have hbI : ¬ (0 : Int) < (bt : Int) := by omega
    have hlt : 8 * ((n : Int) - (p : Int)) < (c : Int) := by have := hbtH.out; omega
    clear hb0
    go_wp2_with fail
    go_quiet (fail)
    go_wp2_with fail
    all_goals first
      | (exfalso; omega)
      | skip
    refine Calls.mono (dAt_any (n : Int) 30 rfl _) ?_
    rintro e w3 ⟨rfl, hB3⟩
    obtain ⟨h3, F3⟩ := (hH.out.drewN _).after hB3
    have hFl3 : Hid _ := dFail_new h3 (n : Int) 30 rfl
    clear h3
    go_wp2_with fail
    refine Calls.mono hFl3.out ?_
    rintro e w4 ⟨rfl, h4, F4⟩
    have d3 := h4.c3
    simp only [fcd] at d3
    have h4H : Hid _ := h4
    clear h4
    go_wp2_with fail
    go_ret
    exact ⟨rfl, h4H.out, ((RF.drewN _ _).trans F3).trans F4⟩
  · have hbI : (0 : Int) < (bt : Int) := by omega
    have hlt : 8 * ((n : Int) - (p : Int)) + (8 - (bt : Int)) < (c : Int) := by have := hbtH.out; omega
    go_wp2_with fail
    go_quiet (fail)
    go_wp2_with fail
    all_goals first
      | (exfalso; omega)
      | skip
    refine Calls.mono (dAt_any (n : Int) 30 rfl _) ?_
    rintro e w3 ⟨rfl, hB3⟩
    obtain ⟨h3, F3⟩ := (hH.out.drewN _).after hB3
    have hFl3 : Hid _ := dFail_new h3 (n : Int) 30 rfl
    clear h3
    go_wp2_with fail
    refine Calls.mono hFl3.out ?_
    rintro e w4 ⟨rfl, h4, F4⟩
    have d3 := h4.c3
    simp only [fcd] at d3
    have h4H : Hid _ := h4
    clear h4
    go_wp2_with fail
    go_ret
    exact ⟨rfl, h4H.out, ((RF.drewN _ _).trans F3).trans F4⟩
set_option maxRecDepth 100000 in
set_option maxHeartbeats 8000000 in
theorem dBits_ok (h : QR N w1 a n cap bs p r none w) (k : Int) (q : Nat) (hq : q + r = 8 * p) (hsh : q + broughtN k ≤ 8 * n) : Calls Tryz.prog 60 #[.pointer (some ⟨N, 0, none⟩), .int .i64 k] w fun e w' => e = .returned (.int .u64 (rdB bs q (broughtN k) : Int)) ∧ (∃ p' r', QR N w1 a n cap bs p' r' none w' ∧ r' < 8 ∧ q + broughtN k + r' = 8 * p') ∧ RF N w w' := by
  have c0 := h.c0
  have c1 := h.c1
  have c2 := h.c2
  have c3 := h.c3
  have hpn := h.pn
  have hnb := h.nb
  have hr8 := h.r8
  have hrp := h.rp
  simp only [fcd] at c3
  obtain ⟨bt, hbt⟩ : ∃ bt, bt = (8 - r) % 8 := ⟨_, rfl⟩
  rw [← hbt] at c2
  have hb8 : bt < 8 := by omega
  have hbtH : Hid (bt = (8 - r) % 8) := hbt
  have hH : Hid _ := h
  have hck := broughtN_le k
  obtain ⟨c, hc⟩ : ∃ c, c = broughtN k := ⟨_, rfl⟩
  have hbr : Hid (∀ w', Calls Tryz.prog 88 #[.int .i64 k] w' fun e w'' => e = .returned (.int .i64 (c : Int)) ∧ w'' = w') := fun w' => by rw [hc]; exact rbrought k w'
  rw [← hc] at hck
  rw [← hc] at hsh ⊢
  have hqH : Hid (q + r = 8 * p) := hq
  have hcH : Hid (c = broughtN k) := hc
  clear h hc
  have j1 : IntKind.i64.wrap ((n : Int) - (p : Int)) = (n : Int) - (p : Int) := IntWalk.i64_in _ (by omega)
  have j2 : IntKind.i64.wrap (8 * ((n : Int) - (p : Int))) = 8 * ((n : Int) - (p : Int)) := IntWalk.i64_in _ (by omega)
  have j3 : IntKind.i64.wrap (8 - (bt : Int)) = 8 - (bt : Int) := IntWalk.i64_in _ (by omega)
  have j4 : IntKind.i64.wrap (8 * ((n : Int) - (p : Int)) + (8 - (bt : Int))) = 8 * ((n : Int) - (p : Int)) + (8 - (bt : Int)) := IntWalk.i64_in _ (by omega)
  skip
  clear hbt
  go_enter Tryz.func60, Tryz.ntmps60
  go_wp2_with fail
  refine Calls.mono (hbr.out _) ?_
  rintro e w2 ⟨rfl, hw⟩
  have hw' := hw.symm
  subst hw'
  clear hw
  rcases Nat.eq_zero_or_pos bt with hb0 | hb0
  · have hbI : ¬ (0 : Int) < (bt : Int) := by omega
    have hlt : ¬ 8 * ((n : Int) - (p : Int)) < (c : Int) := by have := hbtH.out; omega
    clear hb0 hq
    go_wp2_with fail
    go_quiet (fail)
    go_wp2_with fail
    all_goals first
      | (exfalso; omega)
      | skip
    go_loopw [6, 7] (fun v i wr => ∃ j P R : Nat, j ≤ c ∧ v = .int .u64 (rdB bs q j : Int) ∧ i = .int .i64 (j : Int) ∧ QR N w1 a n cap bs P R none wr ∧ q + j + R = 8 * P ∧ RF N w wr) (fun _ i _ => c - (intOf i).toNat)
    case atStart => exact ⟨0, p, r, by omega, rfl, rfl, hH.out.drewN _, by have := hqH.out; omega, RF.drewN _ _⟩
    case round =>
      clear c0 c1 c2 c3 hrp
      obtain ⟨j, P, R, hj, rfl, rfl, hW, hps, hF⟩ := hrel
      by_cases hjc : j < c
      · have hjI : (j : Int) < (c : Int) := by omega
        have c0 := hW.c0
        have c1 := hW.c1
        have c2 := hW.c2
        have f1 := hW.f1
        have f2 := hW.f2
        have hR8 := hW.r8
        have hPn := hW.pn
        have hsm := rdB_small bs q j
        have hen : rdB bs q (j + 1) = 2 * rdB bs q j + bs ((q + j) / 8) / 2 ^ (7 - (q + j) % 8) % 2 := rfl
        have hp2 : 2 ^ j ≤ 2 ^ 63 := Nat.pow_le_pow_right (by omega) (by omega)
        have hV63 : rdB bs q j < 9223372036854775808 := Nat.lt_of_lt_of_le hsm hp2
        obtain ⟨V, hVV⟩ : ∃ V, V = rdB bs q j := ⟨_, rfl⟩
        rw [← hVV] at hen hV63 ⊢
        have hpsH : Hid (q + j + R = 8 * P) := hps
        have hWH : Hid _ := hW
        rcases hW.row with h0 | ⟨b, off, rfl, hb, hbN, hB⟩
        · exfalso; have := hqH.out; omega
        by_cases hR0 : R = 0
        · subst hR0
          simp only [Nat.sub_zero, Nat.mod_self] at c2
          have hPn' : P < n := by omega
          obtain ⟨hc, hylt⟩ := hB P hPn'
          have e1 : (q + j) / 8 = P := by omega
          have e2 : (q + j) % 8 = 0 := by omega
          rw [e1, e2] at hen
          have hS : ∀ nq, QR N w1 (some ⟨b, off, none⟩) n cap bs (P + 1) 7 none (((wr.setCell ⟨N, 1, none⟩ (.int .i64 ((P : Int) + 1))).drewN nq).setCell ⟨N, 2, none⟩ (.int .i64 1)) := fun nq => by
            have h1 := ((hW.setP (P + 1) (by omega) (by omega)).drewN nq).setR 7 (by omega) (by omega)
            rw [show ((P + 1 : Nat) : Int) = (P : Int) + 1 by omega, show (((8 - 7) % 8 : Nat) : Int) = 1 from rfl] at h1
            exact h1
          have hSF : ∀ nq, RF N wr (((wr.setCell ⟨N, 1, none⟩ (.int .i64 ((P : Int) + 1))).drewN nq).setCell ⟨N, 2, none⟩ (.int .i64 1)) := fun nq => ((RF.set wr 1 _).trans (RF.drewN _ nq)).trans (RF.set _ 2 _)
          obtain ⟨y, hy⟩ : ∃ y, y = bs P := ⟨_, rfl⟩
          rw [← hy] at hc hylt hen
          have hSH : Hid _ := hS
          have hSFH : Hid _ := hSF
          have hc' : (wr.setCell ⟨N, 1, none⟩ (.int .i64 ((P : Int) + 1))).cell? ⟨b, off + P, none⟩ = some (.int .u8 (y : Int)) := by rw [World.cell?_setCell_other _ _ _ _ (by intro e; injection e with e1; omega)]; exact hc
          have k1 : (0 : Int) ≤ (P : Int) := by omega
          have k2 : (P : Int) < (n : Int) := by omega
          have hen' : Hid _ := hen
          clear hS hSF hB hy hen hW hVV hsm e1 e2 hps
          go_wp2_with fail
          go_quiet (fail)
          go_wp2_with fail
          refine ⟨⟨j + 1, P + 1, 7, by omega, ?_, by go_num, hSH.out _, by have := hpsH.out; omega, hF.trans (hSFH.out _)⟩, by simp [intOf]; omega⟩
          rw [hen'.out]
          congr 1
        · have hP0 := hW.rp hR0
          obtain ⟨Q, hQ⟩ : ∃ Q, Q = P - 1 := ⟨_, rfl⟩
          obtain ⟨B, hBd⟩ : ∃ B, B = 8 - R := ⟨_, rfl⟩
          obtain ⟨s, hs⟩ : ∃ s, s = R - 1 := ⟨_, rfl⟩
          obtain ⟨B2, hB2⟩ : ∃ B2, B2 = (8 - s) % 8 := ⟨_, rfl⟩
          rw [show (8 - R) % 8 = B by omega] at c2
          obtain ⟨hc, hylt⟩ := hB Q (by omega)
          have e1 : (q + j) / 8 = Q := by omega
          have e2 : 7 - (q + j) % 8 = s := by omega
          rw [e1, e2] at hen
          have hS : ∀ nq, QR N w1 (some ⟨b, off, none⟩) n cap bs P s none ((wr.drewN nq).setCell ⟨N, 2, none⟩ (.int .i64 (B2 : Int))) := fun nq => by
            have h1 := (hW.drewN nq).setR s (by omega) (by omega)
            rw [← hB2] at h1
            exact h1
          have hSF : ∀ nq, RF N wr ((wr.drewN nq).setCell ⟨N, 2, none⟩ (.int .i64 (B2 : Int))) := fun nq => (RF.drewN _ nq).trans (RF.set _ 2 _)
          obtain ⟨y, hy⟩ : ∃ y, y = bs Q := ⟨_, rfl⟩
          rw [← hy] at hc hylt hen
          have hSH : Hid _ := hS
          have hSFH : Hid _ := hSF
          have k1 : (0 : Int) ≤ (Q : Int) := by omega
          have k2 : (Q : Int) < (n : Int) := by omega
          have k3 : (P : Int) - 1 = (Q : Int) := by omega
          have k4 : (7 : Int) - (B : Int) = (s : Int) := by omega
          have k5 : ¬ (B : Int) = 0 := by omega
          have k5' : ¬ B = 0 := by omega
          have k6 : ((B : Int) + 1) % 8 = (B2 : Int) := by omega
          have k7 : ((B : Int) + 1).tmod 8 = (B2 : Int) := by rw [Int.tmod_eq_emod_of_nonneg (by omega)]; omega
          have k8 : IntKind.i64.wrap ((B : Int) + 1) = (B : Int) + 1 := IntWalk.i64_in _ (by omega)
          obtain ⟨Y, hY⟩ : ∃ Y, Y = y / 2 ^ s := ⟨_, rfl⟩
          have hYI : (y : Int) / 2 ^ s = (Y : Int) := by rw [hY]; simp
          have hYl : Y < 256 := by rw [hY]; exact Nat.lt_of_le_of_lt (Nat.div_le_self _ _) hylt
          rw [← hY] at hen
          have hen' : Hid _ := hen
          have hsH : Hid _ := hs
          have hrestH : Hid (q + (j + 1) + s = 8 * P) := (by omega : q + (j + 1) + s = 8 * P)
          clear hS hSF hB hy hen hW hVV hsm e1 e2 hps hQ hBd hs hB2 hY
          go_wp2_with fail
          go_quiet (fail)
          go_wp2_with fail
          refine ⟨⟨j + 1, P, s, by omega, ?_, by go_num, hSH.out _, hrestH.out, hF.trans (hSFH.out _)⟩, by simp [intOf]; omega⟩
          rw [hen'.out]
          congr 1
      · obtain rfl : j = c := by omega
        have hWH : Hid _ := hW
        have hR8 := hW.r8
        have hpsH : Hid (q + j + R = 8 * P) := hps
        obtain ⟨V, hVV⟩ : ∃ V, V = rdB bs q j := ⟨_, rfl⟩
        rw [← hVV]
        clear hW hps
        go_wp2_with fail
        go_ret
        exact ⟨by rw [hVV]; rfl, ⟨P, R, hWH.out, hR8, hpsH.out⟩, hF⟩
  · have hbI : (0 : Int) < (bt : Int) := by omega
    have hlt : ¬ 8 * ((n : Int) - (p : Int)) + (8 - (bt : Int)) < (c : Int) := by have := hbtH.out; omega
    clear hq
    go_wp2_with fail
    go_quiet (fail)
    go_wp2_with fail
    all_goals first
      | (exfalso; omega)
      | skip
    go_loopw [6, 7] (fun v i wr => ∃ j P R : Nat, j ≤ c ∧ v = .int .u64 (rdB bs q j : Int) ∧ i = .int .i64 (j : Int) ∧ QR N w1 a n cap bs P R none wr ∧ q + j + R = 8 * P ∧ RF N w wr) (fun _ i _ => c - (intOf i).toNat)
    case atStart => exact ⟨0, p, r, by omega, rfl, rfl, hH.out.drewN _, by have := hqH.out; omega, RF.drewN _ _⟩
    case round =>
      clear c0 c1 c2 c3 hrp
      obtain ⟨j, P, R, hj, rfl, rfl, hW, hps, hF⟩ := hrel
      by_cases hjc : j < c
      · have hjI : (j : Int) < (c : Int) := by omega
        have c0 := hW.c0
        have c1 := hW.c1
        have c2 := hW.c2
        have f1 := hW.f1
        have f2 := hW.f2
        have hR8 := hW.r8
        have hPn := hW.pn
        have hsm := rdB_small bs q j
        have hen : rdB bs q (j + 1) = 2 * rdB bs q j + bs ((q + j) / 8) / 2 ^ (7 - (q + j) % 8) % 2 := rfl
        have hp2 : 2 ^ j ≤ 2 ^ 63 := Nat.pow_le_pow_right (by omega) (by omega)
        have hV63 : rdB bs q j < 9223372036854775808 := Nat.lt_of_lt_of_le hsm hp2
        obtain ⟨V, hVV⟩ : ∃ V, V = rdB bs q j := ⟨_, rfl⟩
        rw [← hVV] at hen hV63 ⊢
        have hpsH : Hid (q + j + R = 8 * P) := hps
        have hWH : Hid _ := hW
        rcases hW.row with h0 | ⟨b, off, rfl, hb, hbN, hB⟩
        · exfalso; have := hqH.out; omega
        by_cases hR0 : R = 0
        · subst hR0
          simp only [Nat.sub_zero, Nat.mod_self] at c2
          have hPn' : P < n := by omega
          obtain ⟨hc, hylt⟩ := hB P hPn'
          have e1 : (q + j) / 8 = P := by omega
          have e2 : (q + j) % 8 = 0 := by omega
          rw [e1, e2] at hen
          have hS : ∀ nq, QR N w1 (some ⟨b, off, none⟩) n cap bs (P + 1) 7 none (((wr.setCell ⟨N, 1, none⟩ (.int .i64 ((P : Int) + 1))).drewN nq).setCell ⟨N, 2, none⟩ (.int .i64 1)) := fun nq => by
            have h1 := ((hW.setP (P + 1) (by omega) (by omega)).drewN nq).setR 7 (by omega) (by omega)
            rw [show ((P + 1 : Nat) : Int) = (P : Int) + 1 by omega, show (((8 - 7) % 8 : Nat) : Int) = 1 from rfl] at h1
            exact h1
          have hSF : ∀ nq, RF N wr (((wr.setCell ⟨N, 1, none⟩ (.int .i64 ((P : Int) + 1))).drewN nq).setCell ⟨N, 2, none⟩ (.int .i64 1)) := fun nq => ((RF.set wr 1 _).trans (RF.drewN _ nq)).trans (RF.set _ 2 _)
          obtain ⟨y, hy⟩ : ∃ y, y = bs P := ⟨_, rfl⟩
          rw [← hy] at hc hylt hen
          have hSH : Hid _ := hS
          have hSFH : Hid _ := hSF
          have hc' : (wr.setCell ⟨N, 1, none⟩ (.int .i64 ((P : Int) + 1))).cell? ⟨b, off + P, none⟩ = some (.int .u8 (y : Int)) := by rw [World.cell?_setCell_other _ _ _ _ (by intro e; injection e with e1; omega)]; exact hc
          have k1 : (0 : Int) ≤ (P : Int) := by omega
          have k2 : (P : Int) < (n : Int) := by omega
          have hen' : Hid _ := hen
          clear hS hSF hB hy hen hW hVV hsm e1 e2 hps
          go_wp2_with fail
          go_quiet (fail)
          go_wp2_with fail
          refine ⟨⟨j + 1, P + 1, 7, by omega, ?_, by go_num, hSH.out _, by have := hpsH.out; omega, hF.trans (hSFH.out _)⟩, by simp [intOf]; omega⟩
          rw [hen'.out]
          congr 1
        · have hP0 := hW.rp hR0
          obtain ⟨Q, hQ⟩ : ∃ Q, Q = P - 1 := ⟨_, rfl⟩
          obtain ⟨B, hBd⟩ : ∃ B, B = 8 - R := ⟨_, rfl⟩
          obtain ⟨s, hs⟩ : ∃ s, s = R - 1 := ⟨_, rfl⟩
          obtain ⟨B2, hB2⟩ : ∃ B2, B2 = (8 - s) % 8 := ⟨_, rfl⟩
          rw [show (8 - R) % 8 = B by omega] at c2
          obtain ⟨hc, hylt⟩ := hB Q (by omega)
          have e1 : (q + j) / 8 = Q := by omega
          have e2 : 7 - (q + j) % 8 = s := by omega
          rw [e1, e2] at hen
          have hS : ∀ nq, QR N w1 (some ⟨b, off, none⟩) n cap bs P s none ((wr.drewN nq).setCell ⟨N, 2, none⟩ (.int .i64 (B2 : Int))) := fun nq => by
            have h1 := (hW.drewN nq).setR s (by omega) (by omega)
            rw [← hB2] at h1
            exact h1
          have hSF : ∀ nq, RF N wr ((wr.drewN nq).setCell ⟨N, 2, none⟩ (.int .i64 (B2 : Int))) := fun nq => (RF.drewN _ nq).trans (RF.set _ 2 _)
          obtain ⟨y, hy⟩ : ∃ y, y = bs Q := ⟨_, rfl⟩
          rw [← hy] at hc hylt hen
          have hSH : Hid _ := hS
          have hSFH : Hid _ := hSF
          have k1 : (0 : Int) ≤ (Q : Int) := by omega
          have k2 : (Q : Int) < (n : Int) := by omega
          have k3 : (P : Int) - 1 = (Q : Int) := by omega
          have k4 : (7 : Int) - (B : Int) = (s : Int) := by omega
          have k5 : ¬ (B : Int) = 0 := by omega
          have k5' : ¬ B = 0 := by omega
          have k6 : ((B : Int) + 1) % 8 = (B2 : Int) := by omega
          have k7 : ((B : Int) + 1).tmod 8 = (B2 : Int) := by rw [Int.tmod_eq_emod_of_nonneg (by omega)]; omega
          have k8 : IntKind.i64.wrap ((B : Int) + 1) = (B : Int) + 1 := IntWalk.i64_in _ (by omega)
          obtain ⟨Y, hY⟩ : ∃ Y, Y = y / 2 ^ s := ⟨_, rfl⟩
          have hYI : (y : Int) / 2 ^ s = (Y : Int) := by rw [hY]; simp
          have hYl : Y < 256 := by rw [hY]; exact Nat.lt_of_le_of_lt (Nat.div_le_self _ _) hylt
          rw [← hY] at hen
          have hen' : Hid _ := hen
          have hsH : Hid _ := hs
          have hrestH : Hid (q + (j + 1) + s = 8 * P) := (by omega : q + (j + 1) + s = 8 * P)
          clear hS hSF hB hy hen hW hVV hsm e1 e2 hps hQ hBd hs hB2 hY
          go_wp2_with fail
          go_quiet (fail)
          go_wp2_with fail
          refine ⟨⟨j + 1, P, s, by omega, ?_, by go_num, hSH.out _, hrestH.out, hF.trans (hSFH.out _)⟩, by simp [intOf]; omega⟩
          rw [hen'.out]
          congr 1
      · obtain rfl : j = c := by omega
        have hWH : Hid _ := hW
        have hR8 := hW.r8
        have hpsH : Hid (q + j + R = 8 * P) := hps
        obtain ⟨V, hVV⟩ : ∃ V, V = rdB bs q j := ⟨_, rfl⟩
        rw [← hVV]
        clear hW hps
        go_wp2_with fail
        go_ret
        exact ⟨by rw [hVV]; rfl, ⟨P, R, hWH.out, hR8, hpsH.out⟩, hF⟩
theorem dBits_gen (h : QR N w1 a n cap bs p r fv w) (k : Int) : Calls Tryz.prog 60 #[.pointer (some ⟨N, 0, none⟩), .int .i64 k] w fun e w' => (∃ p' r' fv' v, BitsG bs n p r (broughtN k) fv p' r' fv' v ∧ e = .returned (.int .u64 (v : Int)) ∧ QR N w1 a n cap bs p' r' fv' w') ∧ RF N w w' := by
  cases fv with
  | some x =>
    refine (dBits_bad x h k).mono ?_
    rintro e w' ⟨rfl, h2, F⟩
    exact ⟨⟨p, r, some x, 0, Or.inl ⟨by simp, rfl, rfl, rfl, rfl⟩, rfl, h2⟩, F⟩
  | none =>
    by_cases hm : 8 * p - r + broughtN k ≤ 8 * n
    · have hq : 8 * p - r + r = 8 * p := by
        by_cases h0 : r = 0
        · omega
        · have := h.rp h0; have := h.r8; omega
      refine (dBits_ok h k (8 * p - r) hq hm).mono ?_
      rintro e w' ⟨rfl, ⟨p', r', h2, h3, h4⟩, F⟩
      exact ⟨⟨p', r', none, _, Or.inr (Or.inr ⟨rfl, hm, rfl, rfl, h3, h4⟩), rfl, h2⟩, F⟩
    · refine (dBits_short h k (by omega)).mono ?_
      rintro e w' ⟨rfl, h2, F⟩
      exact ⟨⟨p, r, some ((n : Int), 30), 0, Or.inr (Or.inl ⟨rfl, by omega, rfl, rfl, rfl, rfl⟩), rfl, h2⟩, F⟩
end
end Go.Proofs.YtpicgjjbpiinfaaGreatDoor
