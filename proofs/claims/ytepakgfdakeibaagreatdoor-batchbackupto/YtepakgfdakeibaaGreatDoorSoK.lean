
import Derived.Test.YtepakgfdakeibaaGreatDoorSoH
import Derived.Test.YtepakgfdakeibaaGreatDoorSoI
namespace Go.Proofs.YtepakgfdakeibaaGreatDoor.So
open Go.RowKit
set_option linter.unusedVariables false
set_option linter.unusedSimpArgs false
set_option maxRecDepth 100000 in
set_option maxHeartbeats 16000000 in
theorem sym_low (R : En → En → Prop) (c : Tg → Tg → Int) (hC : CmpA 50 c) (tr : ∀ x y z, R x y → R y z → R x z) (b off n cap : Nat) (hn : n ≤ 4611686018427387904) (N : Nat)
    (ih : ∀ (a m d : Nat) (f : Nat → En) (w : World), d - a ≤ N → a < m → m < d → d ≤ n → TR w b off n (fs f) → Xs R (ltE c) a m d f → Sd R a m f → Sd R m d f → Calls Tryz.prog 95 #[.slice (some ⟨b, off, none⟩) n cap, .int .i64 (a : Int), .int .i64 (m : Int), .int .i64 (d : Int), .func (.func 50) #[] #[]] w fun e w' => e = .returned undef ∧ ∃ g, Pr a d f g ∧ Sd R a d g ∧ TR w' b off n (fs g) ∧ OB b w w')
    (a m d : Nat) (f : Nat → En) (w : World) (hN : d - a ≤ N + 1) (ham : a < m) (hmd : m < d) (hdn : d ≤ n) (h : TR w b off n (fs f)) (X : Xs R (ltE c) a m d f) (L : Sd R a m f) (Rr : Sd R m d f) (h1 : ¬ m = a + 1) (h2 : ¬ d = m + 1) (hgt : ¬ (a + d) / 2 < m) :
    Calls Tryz.prog 95 #[.slice (some ⟨b, off, none⟩) n cap, .int .i64 (a : Int), .int .i64 (m : Int), .int .i64 (d : Int), .func (.func 50) #[] #[]] w fun e w' => e = .returned undef ∧ ∃ g, Pr a d f g ∧ Sd R a d g ∧ TR w' b off n (fs g) ∧ OB b w w' := by
  have H0 : Hid (TR w b off n (fs f)) := h
  have HX : Hid (Xs R (ltE c) a m d f) := X
  have LH : Hid (Sd R a m f) := L
  have RH : Hid (Sd R m d f) := Rr
  have HC : Hid (CmpA 50 c) := hC
  have IH : Hid (∀ (a m d : Nat) (f : Nat → En) (w : World), d - a ≤ N → a < m → m < d → d ≤ n → TR w b off n (fs f) → Xs R (ltE c) a m d f → Sd R a m f → Sd R m d f → Calls Tryz.prog 95 #[.slice (some ⟨b, off, none⟩) n cap, .int .i64 (a : Int), .int .i64 (m : Int), .int .i64 (d : Int), .func (.func 50) #[] #[]] w fun e w' => e = .returned undef ∧ ∃ g, Pr a d f g ∧ Sd R a d g ∧ TR w' b off n (fs g) ∧ OB b w w') := ih
  have sr := s0_r0 ham hmd
  have y1 : IntKind.i64.wrap ((m : Int) - (a : Int)) = (m : Int) - (a : Int) := IntWalk.i64_in _ (by omega)
  have y2 : (((m : Int) - (a : Int)) == 1) = false := by rw [beq_eq_false_iff_ne]; omega
  have y3 : IntKind.i64.wrap ((d : Int) - (m : Int)) = (d : Int) - (m : Int) := IntWalk.i64_in _ (by omega)
  have y4 : (((d : Int) - (m : Int)) == 1) = false := by rw [beq_eq_false_iff_ne]; omega
  have v1 : IntKind.i64.wrap ((a : Int) + (d : Int)) = (a : Int) + (d : Int) := IntWalk.i64_in _ (by omega)
  have v2 : IntKind.u64.wrap ((a : Int) + (d : Int)) = (a : Int) + (d : Int) := by rw [IntKind.wrap_u64]; omega
  have v3 : IntKind.i64.wrap (((a : Int) + (d : Int)) / 2 + (m : Int)) = ((a : Int) + (d : Int)) / 2 + (m : Int) := IntWalk.i64_in _ (by omega)
  have v4 : IntKind.i64.wrap (((a : Int) + (d : Int)) / 2 + (m : Int) - 1) = ((a : Int) + (d : Int)) / 2 + (m : Int) - 1 := IntWalk.i64_in _ (by omega)
  have v5 : IntKind.i64.wrap (((a : Int) + (d : Int)) / 2 + (m : Int) - (d : Int)) = ((a : Int) + (d : Int)) / 2 + (m : Int) - (d : Int) := IntWalk.i64_in _ (by omega)
  have gI : ¬ ((a : Int) + (d : Int)) / 2 < (m : Int) := by omega
  obtain ⟨M, hM⟩ : ∃ M : Nat, M = (a + d) / 2 := ⟨_, rfl⟩
  obtain ⟨p, hp⟩ : ∃ p : Nat, p = M + m - 1 := ⟨_, rfl⟩
  obtain ⟨nn, hnn⟩ : ∃ nn : Nat, nn = M + m := ⟨_, rfl⟩
  have MIH : Hid (((a : Int) + (d : Int)) / 2 = (M : Int)) := by show _ = _; omega
  have pIH : Hid ((M : Int) + (m : Int) - 1 = (p : Int)) := by show _ = _; omega
  have nIH : Hid ((M : Int) + (m : Int) = (nn : Int)) := by show _ = _; omega
  have pNH : Hid ((a + d) / 2 + m - 1 = p) := by show _ = _; omega
  have MNH : Hid (M = (a + d) / 2) := hM
  have nNH : Hid (nn = M + m) := hnn
  have hM1 : a ≤ M := by omega
  have hM2 : M ≤ d := by omega
  have hM3 : M - a ≤ N := by omega
  have hM4 : d - M ≤ N := by omega
  have st1 : Hid ((a : Int) = ((s0 a m d : Nat) : Int)) := by show _ = _; unfold s0; rw [if_neg hgt]; try omega
  have st2 : Hid ((m : Int) = ((r0 a m d : Nat) : Int)) := by show _ = _; unfold r0; rw [if_neg hgt]; try omega
  clear h X L Rr hC ih hM hp hnn
  go_enter Tryz.func95, Tryz.ntmps95
  go_wp2_with fail
  rw [MIH.out]
  rw [pIH.out, nIH.out]
  go_loopw [20, 21] (fun vi vj wr => ∃ s r : Nat, vi = .int .i64 (s : Int) ∧ vj = .int .i64 (r : Int) ∧ s0 a m d ≤ s ∧ s ≤ r ∧ r ≤ r0 a m d ∧ (∀ k, s0 a m d ≤ k → k < s → R (f k) (f ((a + d) / 2 + m - 1 - k))) ∧ (∀ k, r ≤ k → k < r0 a m d → R (f ((a + d) / 2 + m - 1 - k)) (f k)) ∧ TR wr b off n (fs f) ∧ OB b w wr) (fun vi vj _ => (intOf vj).toNat - (intOf vi).toNat)
  case atStart => exact ⟨s0 a m d, r0 a m d, by rw [st1.out], by rw [st2.out], Nat.le_refl _, sr.1, Nat.le_refl _, fun k _ _ => by omega, fun k _ _ => by omega, H0.out, OB.refl _ _⟩
  case round =>
    clear H0
    obtain ⟨s, r, rfl, rfl, mi, ij, jd, lo, hi, hT, hO⟩ := hrel
    have hTH : Hid (TR wr b off n (fs f)) := hT
    have hOH : Hid (OB b w wr) := hO
    have loH : Hid (∀ k, s0 a m d ≤ k → k < s → R (f k) (f ((a + d) / 2 + m - 1 - k))) := lo
    have hiH : Hid (∀ k, r ≤ k → k < r0 a m d → R (f ((a + d) / 2 + m - 1 - k)) (f k)) := hi
    by_cases hij : s < r
    · have hijI : (s : Int) < (r : Int) := by omega
      have u1 : IntKind.i64.wrap ((s : Int) + (r : Int)) = (s : Int) + (r : Int) := IntWalk.i64_in _ (by omega)
      have u2 : IntKind.u64.wrap ((s : Int) + (r : Int)) = (s : Int) + (r : Int) := by rw [IntKind.wrap_u64]; omega
      obtain ⟨q, hq⟩ : ∃ q : Nat, q = (s + r) / 2 := ⟨_, rfl⟩
      have hqI : Hid (((s : Int) + (r : Int)) / 2 = (q : Int)) := by show _ = _; omega
      have qi : s ≤ q := by omega
      have qj : q < r := by omega
      clear hq
      have qin := s0_in ham hmd (show s0 a m d ≤ q by omega) (show q < r0 a m d by omega)
      have pq : (a + d) / 2 + m - 1 - q = p - q := by rw [pNH.out]
      rw [pq] at qin
      have qp : q ≤ p := by omega
      have q0 : (0 : Int) ≤ (q : Int) := by omega
      have q1 : (q : Int) < (n : Int) := by omega
      have t1 : ((p : Int) - (q : Int)).toNat = p - q := by omega
      have t2 : (0 : Int) ≤ (p : Int) - (q : Int) := by omega
      have t3 : (p : Int) - (q : Int) < (n : Int) := by omega
      have t4 : (q : Int) ≤ (p : Int) := by omega
      have t5 : IntKind.i64.wrap ((p : Int) - (q : Int)) = (p : Int) - (q : Int) := IntWalk.i64_in _ (by omega)
      obtain ⟨⟨a1, a2⟩, _, _⟩ := hT.2 (p - q) (by omega)
      obtain ⟨⟨b1, b2⟩, _, _⟩ := hT.2 q (by omega)
      have bl : b < wr.heap.size := hT.1
      have hx := HX.out q (p - q) qin.1 qin.2.1 qin.2.2.1 qin.2.2.2
      have CH := HC.out (fs f (p - q)) (fs f q)
      have CH : Hid _ := CH
      have ltv : ltE c (f (p - q)) (f q) = decide (c (fs f (p - q)) (fs f q) < 0) := rfl
      rw [ltv] at hx
      have hxH : Hid _ := hx
      have pqH : Hid ((a + d) / 2 + m - 1 - q = p - q) := pq
      generalize c (fs f (p - q)) (fs f q) = cv at CH hxH
      generalize fs f (p - q) = x at a1 a2 CH
      generalize fs f q = y at b1 b2 CH
      clear hT hO lo hi hx ltv pq qin
      by_cases hcc : cv < 0
      · have hcc2 : decide (cv < 0) = true := decide_eq_true hcc
        have hRH : Hid (R (f (p - q)) (f q)) := hxH.out.1 hcc2
        go_wp2_with fail
        rw [hqI.out]
        refine wp_region_noPanic ?_
        refine wp_region_held_drew (S := fun W => (W.cell? ⟨b, off + (p - q) * 2, none⟩ = some (.string x.1) ∧ W.cell? ⟨b, off + (p - q) * 2 + 1, none⟩ = some (.string x.2)) ∧ W.cell? ⟨b, off + q * 2, none⟩ = some (.string y.1) ∧ W.cell? ⟨b, off + q * 2 + 1, none⟩ = some (.string y.2)) (by kernel_rfl) ⟨⟨a1, a2⟩, b1, b2⟩ (fun hHeld => ?_)
        refine zT 0 (v := ?_) rfl ?_ ?_
        rotate_left 1
        · (intro w0 hSw; (try dsimp only at hSw); obtain ⟨⟨s1, s2⟩, s3, s4⟩ := hSw; go_simp; try with_reducible rfl)
        (try simp only [z1, z2, z3]); (try simp only [Act.put, z4, z5, z6])
        refine zT 1 (v := ?_) rfl ?_ ?_
        rotate_left 1
        · (intro w0 hSw; (try dsimp only at hSw); obtain ⟨⟨s1, s2⟩, s3, s4⟩ := hSw; go_simp; try with_reducible rfl)
        (try simp only [z1, z2, z3]); (try simp only [Act.put, z4, z5, z6])
        refine zT 2 (v := ?_) rfl ?_ ?_
        rotate_left 1
        · (intro w0 hSw; (try dsimp only at hSw); obtain ⟨⟨s1, s2⟩, s3, s4⟩ := hSw; go_simp; try with_reducible rfl)
        (try simp only [z1, z2, z3]); (try simp only [Act.put, z4, z5, z6])
        refine zT 3 (v := ?_) rfl ?_ ?_
        rotate_left 1
        · (intro w0 hSw; (try dsimp only at hSw); obtain ⟨⟨s1, s2⟩, s3, s4⟩ := hSw; go_simp; try with_reducible rfl)
        (try simp only [z1, z2, z3]); (try simp only [Act.put, z4, z5, z6])
        refine zT 4 (v := ?_) rfl ?_ ?_
        rotate_left 1
        · (intro w0 hSw; (try dsimp only at hSw); obtain ⟨⟨s1, s2⟩, s3, s4⟩ := hSw; go_simp; try with_reducible rfl)
        (try simp only [z1, z2, z3]); (try simp only [Act.put, z4, z5, z6])
        refine zT 5 (v := ?_) rfl ?_ ?_
        rotate_left 1
        · (intro w0 hSw; (try dsimp only at hSw); obtain ⟨⟨s1, s2⟩, s3, s4⟩ := hSw; go_simp; try with_reducible rfl)
        (try simp only [z1, z2, z3]); (try simp only [Act.put, z4, z5, z6])
        refine zT 6 (v := ?_) rfl ?_ ?_
        rotate_left 1
        · (intro w0 hSw; (try dsimp only at hSw); obtain ⟨⟨s1, s2⟩, s3, s4⟩ := hSw; go_simp; try with_reducible rfl)
        (try simp only [z1, z2, z3]); (try simp only [Act.put, z4, z5, z6])
        refine zT 7 (v := ?_) rfl ?_ ?_
        rotate_left 1
        · (intro w0 hSw; (try dsimp only at hSw); obtain ⟨⟨s1, s2⟩, s3, s4⟩ := hSw; go_simp; try with_reducible rfl)
        (try simp only [z1, z2, z3]); (try simp only [Act.put, z4, z5, z6])
        refine zT 8 (v := ?_) rfl ?_ ?_
        rotate_left 1
        · (intro w0 hSw; (try dsimp only at hSw); obtain ⟨⟨s1, s2⟩, s3, s4⟩ := hSw; go_simp; try with_reducible rfl)
        (try simp only [z1, z2, z3]); (try simp only [Act.put, z4, z5, z6])
        refine zT 9 (v := ?_) rfl ?_ ?_
        rotate_left 1
        · (intro w0 hSw; (try dsimp only at hSw); obtain ⟨⟨s1, s2⟩, s3, s4⟩ := hSw; go_simp; try with_reducible rfl)
        (try simp only [z1, z2, z3]); (try simp only [Act.put, z4, z5, z6])
        refine zT 10 (v := ?_) rfl ?_ ?_
        rotate_left 1
        · (intro w0 hSw; (try dsimp only at hSw); obtain ⟨⟨s1, s2⟩, s3, s4⟩ := hSw; go_simp; try with_reducible rfl)
        (try simp only [z1, z2, z3]); (try simp only [Act.put, z4, z5, z6])
        refine wpAnyH_ready (rs := [11]) (by kernel_rfl) (by simp) ?_
        refine AllReadyH.cons (o := _) rfl (fun K hK => ?_) AllReadyH.nil
        go_simp
        refine Calls.mono (CH.out _) ?_
        rintro e w' ⟨rfl, BB⟩
        try dsimp only
        refine hK _ _ ?_ (fun hHeld => ?_)
        · exact ⟨⟨by rw [BB.cell (p := ⟨b, off + (p - q) * 2, none⟩) bl]; exact a1, by rw [BB.cell (p := ⟨b, off + (p - q) * 2 + 1, none⟩) bl]; exact a2⟩, by rw [BB.cell (p := ⟨b, off + q * 2, none⟩) bl]; exact b1, by rw [BB.cell (p := ⟨b, off + q * 2 + 1, none⟩) bl]; exact b2⟩
        clear hK K
        (try simp only [z1, z2, z3]); (try simp only [Act.put, z4, z5, z6])
        refine zT 12 (v := ?_) rfl ?_ ?_
        rotate_left 1
        · (intro w0 hSw; (try dsimp only at hSw); obtain ⟨⟨s1, s2⟩, s3, s4⟩ := hSw; go_simp; try with_reducible rfl)
        (try simp only [z1, z2, z3]); (try simp only [Act.put, z4, z5, z6])
        refine zT 13 (v := ?_) rfl ?_ ?_
        rotate_left 1
        · (intro w0 hSw; (try dsimp only at hSw); obtain ⟨⟨s1, s2⟩, s3, s4⟩ := hSw; go_simp; try with_reducible rfl)
        (try simp only [z1, z2, z3]); (try simp only [Act.put, z4, z5, z6])
        refine wpAnyH_done (by kernel_rfl) ?_ _
        refine NoPanic.normal ?_
        have T2H : Hid (TR w' b off n (fs f)) := TR.below (show TR wr.drew b off n (fs f) from hTH.out) BB
        have O2 : Hid (OB b w w') := (show OB b w wr.drew from hOH.out.drew).trans (OB.below BB)
        clear a1 a2 b1 b2 BB
        go_wp2_with fail
        exact ⟨⟨s, q, rfl, by first | rfl | simp, mi, by omega, by omega, loH.out, find_hi tr ham hmd LH.out RH.out (by omega) (by omega) (by rw [pqH.out]; exact hRH.out), T2H.out, O2.out⟩, by simp [intOf]; omega⟩
      · have hcc2 : decide (cv < 0) = false := decide_eq_false hcc
        have hRH : Hid (R (f q) (f (p - q))) := hxH.out.2 hcc2
        go_wp2_with fail
        rw [hqI.out]
        refine wp_region_noPanic ?_
        refine wp_region_held_drew (S := fun W => (W.cell? ⟨b, off + (p - q) * 2, none⟩ = some (.string x.1) ∧ W.cell? ⟨b, off + (p - q) * 2 + 1, none⟩ = some (.string x.2)) ∧ W.cell? ⟨b, off + q * 2, none⟩ = some (.string y.1) ∧ W.cell? ⟨b, off + q * 2 + 1, none⟩ = some (.string y.2)) (by kernel_rfl) ⟨⟨a1, a2⟩, b1, b2⟩ (fun hHeld => ?_)
        refine zT 0 (v := ?_) rfl ?_ ?_
        rotate_left 1
        · (intro w0 hSw; (try dsimp only at hSw); obtain ⟨⟨s1, s2⟩, s3, s4⟩ := hSw; go_simp; try with_reducible rfl)
        (try simp only [z1, z2, z3]); (try simp only [Act.put, z4, z5, z6])
        refine zT 1 (v := ?_) rfl ?_ ?_
        rotate_left 1
        · (intro w0 hSw; (try dsimp only at hSw); obtain ⟨⟨s1, s2⟩, s3, s4⟩ := hSw; go_simp; try with_reducible rfl)
        (try simp only [z1, z2, z3]); (try simp only [Act.put, z4, z5, z6])
        refine zT 2 (v := ?_) rfl ?_ ?_
        rotate_left 1
        · (intro w0 hSw; (try dsimp only at hSw); obtain ⟨⟨s1, s2⟩, s3, s4⟩ := hSw; go_simp; try with_reducible rfl)
        (try simp only [z1, z2, z3]); (try simp only [Act.put, z4, z5, z6])
        refine zT 3 (v := ?_) rfl ?_ ?_
        rotate_left 1
        · (intro w0 hSw; (try dsimp only at hSw); obtain ⟨⟨s1, s2⟩, s3, s4⟩ := hSw; go_simp; try with_reducible rfl)
        (try simp only [z1, z2, z3]); (try simp only [Act.put, z4, z5, z6])
        refine zT 4 (v := ?_) rfl ?_ ?_
        rotate_left 1
        · (intro w0 hSw; (try dsimp only at hSw); obtain ⟨⟨s1, s2⟩, s3, s4⟩ := hSw; go_simp; try with_reducible rfl)
        (try simp only [z1, z2, z3]); (try simp only [Act.put, z4, z5, z6])
        refine zT 5 (v := ?_) rfl ?_ ?_
        rotate_left 1
        · (intro w0 hSw; (try dsimp only at hSw); obtain ⟨⟨s1, s2⟩, s3, s4⟩ := hSw; go_simp; try with_reducible rfl)
        (try simp only [z1, z2, z3]); (try simp only [Act.put, z4, z5, z6])
        refine zT 6 (v := ?_) rfl ?_ ?_
        rotate_left 1
        · (intro w0 hSw; (try dsimp only at hSw); obtain ⟨⟨s1, s2⟩, s3, s4⟩ := hSw; go_simp; try with_reducible rfl)
        (try simp only [z1, z2, z3]); (try simp only [Act.put, z4, z5, z6])
        refine zT 7 (v := ?_) rfl ?_ ?_
        rotate_left 1
        · (intro w0 hSw; (try dsimp only at hSw); obtain ⟨⟨s1, s2⟩, s3, s4⟩ := hSw; go_simp; try with_reducible rfl)
        (try simp only [z1, z2, z3]); (try simp only [Act.put, z4, z5, z6])
        refine zT 8 (v := ?_) rfl ?_ ?_
        rotate_left 1
        · (intro w0 hSw; (try dsimp only at hSw); obtain ⟨⟨s1, s2⟩, s3, s4⟩ := hSw; go_simp; try with_reducible rfl)
        (try simp only [z1, z2, z3]); (try simp only [Act.put, z4, z5, z6])
        refine zT 9 (v := ?_) rfl ?_ ?_
        rotate_left 1
        · (intro w0 hSw; (try dsimp only at hSw); obtain ⟨⟨s1, s2⟩, s3, s4⟩ := hSw; go_simp; try with_reducible rfl)
        (try simp only [z1, z2, z3]); (try simp only [Act.put, z4, z5, z6])
        refine zT 10 (v := ?_) rfl ?_ ?_
        rotate_left 1
        · (intro w0 hSw; (try dsimp only at hSw); obtain ⟨⟨s1, s2⟩, s3, s4⟩ := hSw; go_simp; try with_reducible rfl)
        (try simp only [z1, z2, z3]); (try simp only [Act.put, z4, z5, z6])
        refine wpAnyH_ready (rs := [11]) (by kernel_rfl) (by simp) ?_
        refine AllReadyH.cons (o := _) rfl (fun K hK => ?_) AllReadyH.nil
        go_simp
        refine Calls.mono (CH.out _) ?_
        rintro e w' ⟨rfl, BB⟩
        try dsimp only
        refine hK _ _ ?_ (fun hHeld => ?_)
        · exact ⟨⟨by rw [BB.cell (p := ⟨b, off + (p - q) * 2, none⟩) bl]; exact a1, by rw [BB.cell (p := ⟨b, off + (p - q) * 2 + 1, none⟩) bl]; exact a2⟩, by rw [BB.cell (p := ⟨b, off + q * 2, none⟩) bl]; exact b1, by rw [BB.cell (p := ⟨b, off + q * 2 + 1, none⟩) bl]; exact b2⟩
        clear hK K
        (try simp only [z1, z2, z3]); (try simp only [Act.put, z4, z5, z6])
        refine zT 12 (v := ?_) rfl ?_ ?_
        rotate_left 1
        · (intro w0 hSw; (try dsimp only at hSw); obtain ⟨⟨s1, s2⟩, s3, s4⟩ := hSw; go_simp; try with_reducible rfl)
        (try simp only [z1, z2, z3]); (try simp only [Act.put, z4, z5, z6])
        refine zT 13 (v := ?_) rfl ?_ ?_
        rotate_left 1
        · (intro w0 hSw; (try dsimp only at hSw); obtain ⟨⟨s1, s2⟩, s3, s4⟩ := hSw; go_simp; try with_reducible rfl)
        (try simp only [z1, z2, z3]); (try simp only [Act.put, z4, z5, z6])
        refine wpAnyH_done (by kernel_rfl) ?_ _
        refine NoPanic.normal ?_
        have T2H : Hid (TR w' b off n (fs f)) := TR.below (show TR wr.drew b off n (fs f) from hTH.out) BB
        have O2 : Hid (OB b w w') := (show OB b w wr.drew from hOH.out.drew).trans (OB.below BB)
        have qw : IntKind.i64.wrap ((q : Int) + 1) = ((q + 1 : Nat) : Int) := IntWalk.i64_in _ (by omega)
        clear a1 a2 b1 b2 BB
        go_wp2_with fail
        exact ⟨⟨q + 1, r, by first | rfl | simp, rfl, by omega, by omega, jd, fun k k1 k2 => find_lo tr ham hmd LH.out RH.out (show s0 a m d ≤ q by omega) (by omega) (by rw [pqH.out]; exact hRH.out) k k1 (by omega), hiH.out, T2H.out, O2.out⟩, by simp [intOf]; omega⟩
    · have hije : s = r := by omega
      subst hije
      clear hij
      have hijI : ¬ (s : Int) < (s : Int) := by omega
      have sq := s0_end ham hmd mi jd
      have MO := mid_ok tr ham hmd LH.out RH.out HX.out mi jd lo hi
      rw [← MNH.out] at MO sq
      obtain ⟨e, he⟩ : ∃ e, e = M + m - s := ⟨_, rfl⟩
      rw [← he] at MO sq
      obtain ⟨g0, hg0⟩ : ∃ g0, g0 = rot f s m e := ⟨_, rfl⟩
      rw [← hg0] at MO
      have enH : Hid ((e : Int) = (nn : Int) - (s : Int)) := by show _ = _; have := nNH.out; omega
      have hg0H : Hid (g0 = rot f s m e) := hg0
      have P0H : Hid (Pr a d f g0) := by rw [hg0]; exact (rot_pr f sq.2.1 sq.2.2.2.2.1).wide sq.1 sq.2.2.2.2.2
      have HVH : Hid (∀ i j, a ≤ i → i < M → M ≤ j → j < d → R (g0 i) (g0 j)) := MO.2.2
      have Sd2H : Hid (∀ g1, Pr a M g0 g1 → Sd R M e g1 ∧ Sd R e d g1) := fun g1 P => by
        constructor
        · intro i j x y z; rw [P.out (k := i) (by omega), P.out (k := j) (by omega)]; exact MO.2.1.1 i j x y z
        · intro i j x y z; rw [P.out (k := i) (by omega), P.out (k := j) (by omega)]; exact MO.2.1.2.1 i j x y z
      have X2H : Hid (∀ g1, Pr a M g0 g1 → Xs R (ltE c) M e d g1) := fun g1 P i j x y z v => by
        rw [P.out (k := i) (by omega), P.out (k := j) (by omega)]; exact MO.2.1.2.2 i j x y z v
      have MOH : Hid ((Sd R a s g0 ∧ Sd R s M g0 ∧ Xs R (ltE c) a s M g0) ∧ True) := ⟨MO.1, trivial⟩
      have es : IntKind.i64.wrap ((nn : Int) - (s : Int)) = (nn : Int) - (s : Int) := IntWalk.i64_in _ (by have := enH.out; omega)
      obtain ⟨k1, k2, k3, k4, k5, k6⟩ := sq
      clear MO hT hO lo hi hg0 he
      by_cases c1 : s < m
      · have c1I : (s : Int) < (m : Int) := by omega
        by_cases c2 : m < e
        · have c2I : (m : Int) < (nn : Int) - (s : Int) := by have := enH.out; omega
          have CC : Hid (Calls Tryz.prog 103 #[.slice (some ⟨b, off, none⟩) n cap, .int .i64 (s : Int), .int .i64 (m : Int), .int .i64 ((nn : Int) - (s : Int)), .func (.func 50) #[] #[]] wr fun e w' => e = .returned undef ∧ TR w' b off n (fs g0) ∧ OB b wr w') := by
            have := rotate_any b off n cap (fs f) s m e (.func (.func 50) #[] #[]) wr hTH.out c1 c2 (by omega) hn
            rw [enH.out, ← fs_rot, ← hg0H.out] at this; exact this
          go_wp2_with fail
          refine Calls.mono CC.out ?_
          rintro e' w1 ⟨rfl, T0, O0⟩
          have T0H : Hid (TR w1 b off n (fs g0)) := T0
          have O0H : Hid (OB b w w1) := hOH.out.trans O0
          clear T0 O0 CC
          by_cases l1 : a < s
          · have l1I : (a : Int) < (s : Int) := by omega
            by_cases l2 : s < M
            · have l2I : (s : Int) < (M : Int) := by omega
              have CC : Hid (Calls Tryz.prog 95 #[.slice (some ⟨b, off, none⟩) n cap, .int .i64 (a : Int), .int .i64 (s : Int), .int .i64 (M : Int), .func (.func 50) #[] #[]] w1 fun e w' => e = .returned undef ∧ ∃ g, Pr a M g0 g ∧ Sd R a M g ∧ TR w' b off n (fs g) ∧ OB b w1 w') :=
                IH.out a s M g0 w1 (by omega) l1 l2 (by omega) T0H.out MOH.out.1.2.2 MOH.out.1.1 MOH.out.1.2.1
              go_wp2_with fail
              refine Calls.mono CC.out ?_
              rintro e' w2 ⟨rfl, g1, P1, S1, T1, O1⟩
              have T1H : Hid (TR w2 b off n (fs g1)) := T1
              have P1H : Hid (Pr a M g0 g1) := P1
              have S1H : Hid (Sd R a M g1) := S1
              have O1H : Hid (OB b w w2) := O0H.out.trans O1
              clear T1 P1 S1 CC O1
              by_cases r1 : M < e
              · have r1I : (M : Int) < (nn : Int) - (s : Int) := by have := enH.out; omega
                by_cases r2 : e < d
                · have r2I : (nn : Int) - (s : Int) < (d : Int) := by have := enH.out; omega
                  have CC : Hid (Calls Tryz.prog 95 #[.slice (some ⟨b, off, none⟩) n cap, .int .i64 (M : Int), .int .i64 ((nn : Int) - (s : Int)), .int .i64 (d : Int), .func (.func 50) #[] #[]] w2 fun e w' => e = .returned undef ∧ ∃ g, Pr M d g1 g ∧ Sd R M d g ∧ TR w' b off n (fs g) ∧ OB b w2 w') := by
                    have := IH.out M e d g1 w2 (by omega) r1 r2 hdn T1H.out (X2H.out g1 P1H.out) (Sd2H.out g1 P1H.out).1 (Sd2H.out g1 P1H.out).2
                    rw [enH.out] at this; exact this
                  go_wp2_with fail
                  refine Calls.mono CC.out ?_
                  rintro e' w3 ⟨rfl, g2, P2, S2, T2, O2⟩
                  have T2H : Hid _ := T2
                  have P2H : Hid (Pr M d g1 g2) := P2
                  have S2H : Hid (Sd R M d g2) := S2
                  clear T2 P2 S2 CC
                  go_wp2_with fail
                  all_goals (first | go_end0 | (simp only [Exit.inBlock, Exit.then]; refine bodyPost_ret (results_none rfl _ _ _) rfl ?_) | refine bodyPost_ret (results_none rfl _ _ _) rfl ?_)
                  all_goals exact ⟨rfl, g2, (P0H.out.trans (halves_ok hM1 hM2 HVH.out P1H.out S1H.out P2H.out S2H.out).2), (halves_ok hM1 hM2 HVH.out P1H.out S1H.out P2H.out S2H.out).1, T2H.out, O1H.out.trans O2⟩
                · have r2I : ¬ (nn : Int) - (s : Int) < (d : Int) := by have := enH.out; omega
                  have S2H : Hid (Sd R M d g1) := by
                    have ee : e = d := by omega
                    have := (Sd2H.out g1 P1H.out).1
                    rw [ee] at this; exact this
                  go_wp2_with fail
                  all_goals (first | go_end0 | (simp only [Exit.inBlock, Exit.then]; refine bodyPost_ret (results_none rfl _ _ _) rfl ?_) | refine bodyPost_ret (results_none rfl _ _ _) rfl ?_)
                  all_goals exact ⟨rfl, g1, (P0H.out.trans (halves_ok hM1 hM2 HVH.out P1H.out S1H.out (Pr.refl _ _ _) S2H.out).2), (halves_ok hM1 hM2 HVH.out P1H.out S1H.out (Pr.refl _ _ _) S2H.out).1, T1H.out, O1H.out⟩
              · have r1I : ¬ (M : Int) < (nn : Int) - (s : Int) := by have := enH.out; omega
                have S2H : Hid (Sd R M d g1) := by
                  have ee : e = M := by omega
                  have := (Sd2H.out g1 P1H.out).2
                  rw [ee] at this; exact this
                go_wp2_with fail
                all_goals (first | go_end0 | (simp only [Exit.inBlock, Exit.then]; refine bodyPost_ret (results_none rfl _ _ _) rfl ?_) | refine bodyPost_ret (results_none rfl _ _ _) rfl ?_)
                all_goals exact ⟨rfl, g1, (P0H.out.trans (halves_ok hM1 hM2 HVH.out P1H.out S1H.out (Pr.refl _ _ _) S2H.out).2), (halves_ok hM1 hM2 HVH.out P1H.out S1H.out (Pr.refl _ _ _) S2H.out).1, T1H.out, O1H.out⟩
            · have l2I : ¬ (s : Int) < (M : Int) := by omega
              obtain ⟨g1, hg1⟩ : ∃ g1, g1 = g0 := ⟨_, rfl⟩
              have T1H : Hid (TR w1 b off n (fs g1)) := by rw [hg1]; exact T0H
              have P1H : Hid (Pr a M g0 g1) := by rw [hg1]; exact Pr.refl _ _ _
              have S1H : Hid (Sd R a M g1) := by
                have ee : s = M := by omega
                have := MOH.out.1.1
                rw [hg1]; rw [ee] at this; exact this
              have O1H : Hid (OB b w w1) := O0H
              clear hg1
              by_cases r1 : M < e
              · have r1I : (M : Int) < (nn : Int) - (s : Int) := by have := enH.out; omega
                by_cases r2 : e < d
                · have r2I : (nn : Int) - (s : Int) < (d : Int) := by have := enH.out; omega
                  have CC : Hid (Calls Tryz.prog 95 #[.slice (some ⟨b, off, none⟩) n cap, .int .i64 (M : Int), .int .i64 ((nn : Int) - (s : Int)), .int .i64 (d : Int), .func (.func 50) #[] #[]] w1 fun e w' => e = .returned undef ∧ ∃ g, Pr M d g1 g ∧ Sd R M d g ∧ TR w' b off n (fs g) ∧ OB b w1 w') := by
                    have := IH.out M e d g1 w1 (by omega) r1 r2 hdn T1H.out (X2H.out g1 P1H.out) (Sd2H.out g1 P1H.out).1 (Sd2H.out g1 P1H.out).2
                    rw [enH.out] at this; exact this
                  go_wp2_with fail
                  refine Calls.mono CC.out ?_
                  rintro e' w3 ⟨rfl, g2, P2, S2, T2, O2⟩
                  have T2H : Hid _ := T2
                  have P2H : Hid (Pr M d g1 g2) := P2
                  have S2H : Hid (Sd R M d g2) := S2
                  clear T2 P2 S2 CC
                  go_wp2_with fail
                  all_goals (first | go_end0 | (simp only [Exit.inBlock, Exit.then]; refine bodyPost_ret (results_none rfl _ _ _) rfl ?_) | refine bodyPost_ret (results_none rfl _ _ _) rfl ?_)
                  all_goals exact ⟨rfl, g2, (P0H.out.trans (halves_ok hM1 hM2 HVH.out P1H.out S1H.out P2H.out S2H.out).2), (halves_ok hM1 hM2 HVH.out P1H.out S1H.out P2H.out S2H.out).1, T2H.out, O1H.out.trans O2⟩
                · have r2I : ¬ (nn : Int) - (s : Int) < (d : Int) := by have := enH.out; omega
                  have S2H : Hid (Sd R M d g1) := by
                    have ee : e = d := by omega
                    have := (Sd2H.out g1 P1H.out).1
                    rw [ee] at this; exact this
                  go_wp2_with fail
                  all_goals (first | go_end0 | (simp only [Exit.inBlock, Exit.then]; refine bodyPost_ret (results_none rfl _ _ _) rfl ?_) | refine bodyPost_ret (results_none rfl _ _ _) rfl ?_)
                  all_goals exact ⟨rfl, g1, (P0H.out.trans (halves_ok hM1 hM2 HVH.out P1H.out S1H.out (Pr.refl _ _ _) S2H.out).2), (halves_ok hM1 hM2 HVH.out P1H.out S1H.out (Pr.refl _ _ _) S2H.out).1, T1H.out, O1H.out⟩
              · have r1I : ¬ (M : Int) < (nn : Int) - (s : Int) := by have := enH.out; omega
                have S2H : Hid (Sd R M d g1) := by
                  have ee : e = M := by omega
                  have := (Sd2H.out g1 P1H.out).2
                  rw [ee] at this; exact this
                go_wp2_with fail
                all_goals (first | go_end0 | (simp only [Exit.inBlock, Exit.then]; refine bodyPost_ret (results_none rfl _ _ _) rfl ?_) | refine bodyPost_ret (results_none rfl _ _ _) rfl ?_)
                all_goals exact ⟨rfl, g1, (P0H.out.trans (halves_ok hM1 hM2 HVH.out P1H.out S1H.out (Pr.refl _ _ _) S2H.out).2), (halves_ok hM1 hM2 HVH.out P1H.out S1H.out (Pr.refl _ _ _) S2H.out).1, T1H.out, O1H.out⟩
          · have l1I : ¬ (a : Int) < (s : Int) := by omega
            obtain ⟨g1, hg1⟩ : ∃ g1, g1 = g0 := ⟨_, rfl⟩
            have T1H : Hid (TR w1 b off n (fs g1)) := by rw [hg1]; exact T0H
            have P1H : Hid (Pr a M g0 g1) := by rw [hg1]; exact Pr.refl _ _ _
            have S1H : Hid (Sd R a M g1) := by
              have ee : s = a := by omega
              have := MOH.out.1.2.1
              rw [hg1]; rw [ee] at this; exact this
            have O1H : Hid (OB b w w1) := O0H
            clear hg1
            by_cases r1 : M < e
            · have r1I : (M : Int) < (nn : Int) - (s : Int) := by have := enH.out; omega
              by_cases r2 : e < d
              · have r2I : (nn : Int) - (s : Int) < (d : Int) := by have := enH.out; omega
                have CC : Hid (Calls Tryz.prog 95 #[.slice (some ⟨b, off, none⟩) n cap, .int .i64 (M : Int), .int .i64 ((nn : Int) - (s : Int)), .int .i64 (d : Int), .func (.func 50) #[] #[]] w1 fun e w' => e = .returned undef ∧ ∃ g, Pr M d g1 g ∧ Sd R M d g ∧ TR w' b off n (fs g) ∧ OB b w1 w') := by
                  have := IH.out M e d g1 w1 (by omega) r1 r2 hdn T1H.out (X2H.out g1 P1H.out) (Sd2H.out g1 P1H.out).1 (Sd2H.out g1 P1H.out).2
                  rw [enH.out] at this; exact this
                go_wp2_with fail
                refine Calls.mono CC.out ?_
                rintro e' w3 ⟨rfl, g2, P2, S2, T2, O2⟩
                have T2H : Hid _ := T2
                have P2H : Hid (Pr M d g1 g2) := P2
                have S2H : Hid (Sd R M d g2) := S2
                clear T2 P2 S2 CC
                go_wp2_with fail
                all_goals (first | go_end0 | (simp only [Exit.inBlock, Exit.then]; refine bodyPost_ret (results_none rfl _ _ _) rfl ?_) | refine bodyPost_ret (results_none rfl _ _ _) rfl ?_)
                all_goals exact ⟨rfl, g2, (P0H.out.trans (halves_ok hM1 hM2 HVH.out P1H.out S1H.out P2H.out S2H.out).2), (halves_ok hM1 hM2 HVH.out P1H.out S1H.out P2H.out S2H.out).1, T2H.out, O1H.out.trans O2⟩
              · have r2I : ¬ (nn : Int) - (s : Int) < (d : Int) := by have := enH.out; omega
                have S2H : Hid (Sd R M d g1) := by
                  have ee : e = d := by omega
                  have := (Sd2H.out g1 P1H.out).1
                  rw [ee] at this; exact this
                go_wp2_with fail
                all_goals (first | go_end0 | (simp only [Exit.inBlock, Exit.then]; refine bodyPost_ret (results_none rfl _ _ _) rfl ?_) | refine bodyPost_ret (results_none rfl _ _ _) rfl ?_)
                all_goals exact ⟨rfl, g1, (P0H.out.trans (halves_ok hM1 hM2 HVH.out P1H.out S1H.out (Pr.refl _ _ _) S2H.out).2), (halves_ok hM1 hM2 HVH.out P1H.out S1H.out (Pr.refl _ _ _) S2H.out).1, T1H.out, O1H.out⟩
            · have r1I : ¬ (M : Int) < (nn : Int) - (s : Int) := by have := enH.out; omega
              have S2H : Hid (Sd R M d g1) := by
                have ee : e = M := by omega
                have := (Sd2H.out g1 P1H.out).2
                rw [ee] at this; exact this
              go_wp2_with fail
              all_goals (first | go_end0 | (simp only [Exit.inBlock, Exit.then]; refine bodyPost_ret (results_none rfl _ _ _) rfl ?_) | refine bodyPost_ret (results_none rfl _ _ _) rfl ?_)
              all_goals exact ⟨rfl, g1, (P0H.out.trans (halves_ok hM1 hM2 HVH.out P1H.out S1H.out (Pr.refl _ _ _) S2H.out).2), (halves_ok hM1 hM2 HVH.out P1H.out S1H.out (Pr.refl _ _ _) S2H.out).1, T1H.out, O1H.out⟩
        · have c2I : ¬ (m : Int) < (nn : Int) - (s : Int) := by have := enH.out; omega
          have T0H : Hid (TR wr b off n (fs g0)) := by
            have : g0 = f := by rw [hg0H.out]; exact rot_none f (Or.inr (by omega)) (by omega) (by omega)
            rw [this]; exact hTH
          have O0H : Hid (OB b w wr) := hOH
          by_cases l1 : a < s
          · have l1I : (a : Int) < (s : Int) := by omega
            by_cases l2 : s < M
            · have l2I : (s : Int) < (M : Int) := by omega
              have CC : Hid (Calls Tryz.prog 95 #[.slice (some ⟨b, off, none⟩) n cap, .int .i64 (a : Int), .int .i64 (s : Int), .int .i64 (M : Int), .func (.func 50) #[] #[]] wr fun e w' => e = .returned undef ∧ ∃ g, Pr a M g0 g ∧ Sd R a M g ∧ TR w' b off n (fs g) ∧ OB b wr w') :=
                IH.out a s M g0 wr (by omega) l1 l2 (by omega) T0H.out MOH.out.1.2.2 MOH.out.1.1 MOH.out.1.2.1
              go_wp2_with fail
              refine Calls.mono CC.out ?_
              rintro e' w2 ⟨rfl, g1, P1, S1, T1, O1⟩
              have T1H : Hid (TR w2 b off n (fs g1)) := T1
              have P1H : Hid (Pr a M g0 g1) := P1
              have S1H : Hid (Sd R a M g1) := S1
              have O1H : Hid (OB b w w2) := O0H.out.trans O1
              clear T1 P1 S1 CC O1
              by_cases r1 : M < e
              · have r1I : (M : Int) < (nn : Int) - (s : Int) := by have := enH.out; omega
                by_cases r2 : e < d
                · have r2I : (nn : Int) - (s : Int) < (d : Int) := by have := enH.out; omega
                  have CC : Hid (Calls Tryz.prog 95 #[.slice (some ⟨b, off, none⟩) n cap, .int .i64 (M : Int), .int .i64 ((nn : Int) - (s : Int)), .int .i64 (d : Int), .func (.func 50) #[] #[]] w2 fun e w' => e = .returned undef ∧ ∃ g, Pr M d g1 g ∧ Sd R M d g ∧ TR w' b off n (fs g) ∧ OB b w2 w') := by
                    have := IH.out M e d g1 w2 (by omega) r1 r2 hdn T1H.out (X2H.out g1 P1H.out) (Sd2H.out g1 P1H.out).1 (Sd2H.out g1 P1H.out).2
                    rw [enH.out] at this; exact this
                  go_wp2_with fail
                  refine Calls.mono CC.out ?_
                  rintro e' w3 ⟨rfl, g2, P2, S2, T2, O2⟩
                  have T2H : Hid _ := T2
                  have P2H : Hid (Pr M d g1 g2) := P2
                  have S2H : Hid (Sd R M d g2) := S2
                  clear T2 P2 S2 CC
                  go_wp2_with fail
                  all_goals (first | go_end0 | (simp only [Exit.inBlock, Exit.then]; refine bodyPost_ret (results_none rfl _ _ _) rfl ?_) | refine bodyPost_ret (results_none rfl _ _ _) rfl ?_)
                  all_goals exact ⟨rfl, g2, (P0H.out.trans (halves_ok hM1 hM2 HVH.out P1H.out S1H.out P2H.out S2H.out).2), (halves_ok hM1 hM2 HVH.out P1H.out S1H.out P2H.out S2H.out).1, T2H.out, O1H.out.trans O2⟩
                · have r2I : ¬ (nn : Int) - (s : Int) < (d : Int) := by have := enH.out; omega
                  have S2H : Hid (Sd R M d g1) := by
                    have ee : e = d := by omega
                    have := (Sd2H.out g1 P1H.out).1
                    rw [ee] at this; exact this
                  go_wp2_with fail
                  all_goals (first | go_end0 | (simp only [Exit.inBlock, Exit.then]; refine bodyPost_ret (results_none rfl _ _ _) rfl ?_) | refine bodyPost_ret (results_none rfl _ _ _) rfl ?_)
                  all_goals exact ⟨rfl, g1, (P0H.out.trans (halves_ok hM1 hM2 HVH.out P1H.out S1H.out (Pr.refl _ _ _) S2H.out).2), (halves_ok hM1 hM2 HVH.out P1H.out S1H.out (Pr.refl _ _ _) S2H.out).1, T1H.out, O1H.out⟩
              · have r1I : ¬ (M : Int) < (nn : Int) - (s : Int) := by have := enH.out; omega
                have S2H : Hid (Sd R M d g1) := by
                  have ee : e = M := by omega
                  have := (Sd2H.out g1 P1H.out).2
                  rw [ee] at this; exact this
                go_wp2_with fail
                all_goals (first | go_end0 | (simp only [Exit.inBlock, Exit.then]; refine bodyPost_ret (results_none rfl _ _ _) rfl ?_) | refine bodyPost_ret (results_none rfl _ _ _) rfl ?_)
                all_goals exact ⟨rfl, g1, (P0H.out.trans (halves_ok hM1 hM2 HVH.out P1H.out S1H.out (Pr.refl _ _ _) S2H.out).2), (halves_ok hM1 hM2 HVH.out P1H.out S1H.out (Pr.refl _ _ _) S2H.out).1, T1H.out, O1H.out⟩
            · have l2I : ¬ (s : Int) < (M : Int) := by omega
              obtain ⟨g1, hg1⟩ : ∃ g1, g1 = g0 := ⟨_, rfl⟩
              have T1H : Hid (TR wr b off n (fs g1)) := by rw [hg1]; exact T0H
              have P1H : Hid (Pr a M g0 g1) := by rw [hg1]; exact Pr.refl _ _ _
              have S1H : Hid (Sd R a M g1) := by
                have ee : s = M := by omega
                have := MOH.out.1.1
                rw [hg1]; rw [ee] at this; exact this
              have O1H : Hid (OB b w wr) := O0H
              clear hg1
              by_cases r1 : M < e
              · have r1I : (M : Int) < (nn : Int) - (s : Int) := by have := enH.out; omega
                by_cases r2 : e < d
                · have r2I : (nn : Int) - (s : Int) < (d : Int) := by have := enH.out; omega
                  have CC : Hid (Calls Tryz.prog 95 #[.slice (some ⟨b, off, none⟩) n cap, .int .i64 (M : Int), .int .i64 ((nn : Int) - (s : Int)), .int .i64 (d : Int), .func (.func 50) #[] #[]] wr fun e w' => e = .returned undef ∧ ∃ g, Pr M d g1 g ∧ Sd R M d g ∧ TR w' b off n (fs g) ∧ OB b wr w') := by
                    have := IH.out M e d g1 wr (by omega) r1 r2 hdn T1H.out (X2H.out g1 P1H.out) (Sd2H.out g1 P1H.out).1 (Sd2H.out g1 P1H.out).2
                    rw [enH.out] at this; exact this
                  go_wp2_with fail
                  refine Calls.mono CC.out ?_
                  rintro e' w3 ⟨rfl, g2, P2, S2, T2, O2⟩
                  have T2H : Hid _ := T2
                  have P2H : Hid (Pr M d g1 g2) := P2
                  have S2H : Hid (Sd R M d g2) := S2
                  clear T2 P2 S2 CC
                  go_wp2_with fail
                  all_goals (first | go_end0 | (simp only [Exit.inBlock, Exit.then]; refine bodyPost_ret (results_none rfl _ _ _) rfl ?_) | refine bodyPost_ret (results_none rfl _ _ _) rfl ?_)
                  all_goals exact ⟨rfl, g2, (P0H.out.trans (halves_ok hM1 hM2 HVH.out P1H.out S1H.out P2H.out S2H.out).2), (halves_ok hM1 hM2 HVH.out P1H.out S1H.out P2H.out S2H.out).1, T2H.out, O1H.out.trans O2⟩
                · have r2I : ¬ (nn : Int) - (s : Int) < (d : Int) := by have := enH.out; omega
                  have S2H : Hid (Sd R M d g1) := by
                    have ee : e = d := by omega
                    have := (Sd2H.out g1 P1H.out).1
                    rw [ee] at this; exact this
                  go_wp2_with fail
                  all_goals (first | go_end0 | (simp only [Exit.inBlock, Exit.then]; refine bodyPost_ret (results_none rfl _ _ _) rfl ?_) | refine bodyPost_ret (results_none rfl _ _ _) rfl ?_)
                  all_goals exact ⟨rfl, g1, (P0H.out.trans (halves_ok hM1 hM2 HVH.out P1H.out S1H.out (Pr.refl _ _ _) S2H.out).2), (halves_ok hM1 hM2 HVH.out P1H.out S1H.out (Pr.refl _ _ _) S2H.out).1, T1H.out, O1H.out⟩
              · have r1I : ¬ (M : Int) < (nn : Int) - (s : Int) := by have := enH.out; omega
                have S2H : Hid (Sd R M d g1) := by
                  have ee : e = M := by omega
                  have := (Sd2H.out g1 P1H.out).2
                  rw [ee] at this; exact this
                go_wp2_with fail
                all_goals (first | go_end0 | (simp only [Exit.inBlock, Exit.then]; refine bodyPost_ret (results_none rfl _ _ _) rfl ?_) | refine bodyPost_ret (results_none rfl _ _ _) rfl ?_)
                all_goals exact ⟨rfl, g1, (P0H.out.trans (halves_ok hM1 hM2 HVH.out P1H.out S1H.out (Pr.refl _ _ _) S2H.out).2), (halves_ok hM1 hM2 HVH.out P1H.out S1H.out (Pr.refl _ _ _) S2H.out).1, T1H.out, O1H.out⟩
          · have l1I : ¬ (a : Int) < (s : Int) := by omega
            obtain ⟨g1, hg1⟩ : ∃ g1, g1 = g0 := ⟨_, rfl⟩
            have T1H : Hid (TR wr b off n (fs g1)) := by rw [hg1]; exact T0H
            have P1H : Hid (Pr a M g0 g1) := by rw [hg1]; exact Pr.refl _ _ _
            have S1H : Hid (Sd R a M g1) := by
              have ee : s = a := by omega
              have := MOH.out.1.2.1
              rw [hg1]; rw [ee] at this; exact this
            have O1H : Hid (OB b w wr) := O0H
            clear hg1
            by_cases r1 : M < e
            · have r1I : (M : Int) < (nn : Int) - (s : Int) := by have := enH.out; omega
              by_cases r2 : e < d
              · have r2I : (nn : Int) - (s : Int) < (d : Int) := by have := enH.out; omega
                have CC : Hid (Calls Tryz.prog 95 #[.slice (some ⟨b, off, none⟩) n cap, .int .i64 (M : Int), .int .i64 ((nn : Int) - (s : Int)), .int .i64 (d : Int), .func (.func 50) #[] #[]] wr fun e w' => e = .returned undef ∧ ∃ g, Pr M d g1 g ∧ Sd R M d g ∧ TR w' b off n (fs g) ∧ OB b wr w') := by
                  have := IH.out M e d g1 wr (by omega) r1 r2 hdn T1H.out (X2H.out g1 P1H.out) (Sd2H.out g1 P1H.out).1 (Sd2H.out g1 P1H.out).2
                  rw [enH.out] at this; exact this
                go_wp2_with fail
                refine Calls.mono CC.out ?_
                rintro e' w3 ⟨rfl, g2, P2, S2, T2, O2⟩
                have T2H : Hid _ := T2
                have P2H : Hid (Pr M d g1 g2) := P2
                have S2H : Hid (Sd R M d g2) := S2
                clear T2 P2 S2 CC
                go_wp2_with fail
                all_goals (first | go_end0 | (simp only [Exit.inBlock, Exit.then]; refine bodyPost_ret (results_none rfl _ _ _) rfl ?_) | refine bodyPost_ret (results_none rfl _ _ _) rfl ?_)
                all_goals exact ⟨rfl, g2, (P0H.out.trans (halves_ok hM1 hM2 HVH.out P1H.out S1H.out P2H.out S2H.out).2), (halves_ok hM1 hM2 HVH.out P1H.out S1H.out P2H.out S2H.out).1, T2H.out, O1H.out.trans O2⟩
              · have r2I : ¬ (nn : Int) - (s : Int) < (d : Int) := by have := enH.out; omega
                have S2H : Hid (Sd R M d g1) := by
                  have ee : e = d := by omega
                  have := (Sd2H.out g1 P1H.out).1
                  rw [ee] at this; exact this
                go_wp2_with fail
                all_goals (first | go_end0 | (simp only [Exit.inBlock, Exit.then]; refine bodyPost_ret (results_none rfl _ _ _) rfl ?_) | refine bodyPost_ret (results_none rfl _ _ _) rfl ?_)
                all_goals exact ⟨rfl, g1, (P0H.out.trans (halves_ok hM1 hM2 HVH.out P1H.out S1H.out (Pr.refl _ _ _) S2H.out).2), (halves_ok hM1 hM2 HVH.out P1H.out S1H.out (Pr.refl _ _ _) S2H.out).1, T1H.out, O1H.out⟩
            · have r1I : ¬ (M : Int) < (nn : Int) - (s : Int) := by have := enH.out; omega
              have S2H : Hid (Sd R M d g1) := by
                have ee : e = M := by omega
                have := (Sd2H.out g1 P1H.out).2
                rw [ee] at this; exact this
              go_wp2_with fail
              all_goals (first | go_end0 | (simp only [Exit.inBlock, Exit.then]; refine bodyPost_ret (results_none rfl _ _ _) rfl ?_) | refine bodyPost_ret (results_none rfl _ _ _) rfl ?_)
              all_goals exact ⟨rfl, g1, (P0H.out.trans (halves_ok hM1 hM2 HVH.out P1H.out S1H.out (Pr.refl _ _ _) S2H.out).2), (halves_ok hM1 hM2 HVH.out P1H.out S1H.out (Pr.refl _ _ _) S2H.out).1, T1H.out, O1H.out⟩
      · have c1I : ¬ (s : Int) < (m : Int) := by omega
        have T0H : Hid (TR wr b off n (fs g0)) := by
          have : g0 = f := by rw [hg0H.out]; exact rot_none f (Or.inl (by omega)) (by omega) (by omega)
          rw [this]; exact hTH
        have O0H : Hid (OB b w wr) := hOH
        by_cases l1 : a < s
        · have l1I : (a : Int) < (s : Int) := by omega
          by_cases l2 : s < M
          · have l2I : (s : Int) < (M : Int) := by omega
            have CC : Hid (Calls Tryz.prog 95 #[.slice (some ⟨b, off, none⟩) n cap, .int .i64 (a : Int), .int .i64 (s : Int), .int .i64 (M : Int), .func (.func 50) #[] #[]] wr fun e w' => e = .returned undef ∧ ∃ g, Pr a M g0 g ∧ Sd R a M g ∧ TR w' b off n (fs g) ∧ OB b wr w') :=
              IH.out a s M g0 wr (by omega) l1 l2 (by omega) T0H.out MOH.out.1.2.2 MOH.out.1.1 MOH.out.1.2.1
            go_wp2_with fail
            refine Calls.mono CC.out ?_
            rintro e' w2 ⟨rfl, g1, P1, S1, T1, O1⟩
            have T1H : Hid (TR w2 b off n (fs g1)) := T1
            have P1H : Hid (Pr a M g0 g1) := P1
            have S1H : Hid (Sd R a M g1) := S1
            have O1H : Hid (OB b w w2) := O0H.out.trans O1
            clear T1 P1 S1 CC O1
            by_cases r1 : M < e
            · have r1I : (M : Int) < (nn : Int) - (s : Int) := by have := enH.out; omega
              by_cases r2 : e < d
              · have r2I : (nn : Int) - (s : Int) < (d : Int) := by have := enH.out; omega
                have CC : Hid (Calls Tryz.prog 95 #[.slice (some ⟨b, off, none⟩) n cap, .int .i64 (M : Int), .int .i64 ((nn : Int) - (s : Int)), .int .i64 (d : Int), .func (.func 50) #[] #[]] w2 fun e w' => e = .returned undef ∧ ∃ g, Pr M d g1 g ∧ Sd R M d g ∧ TR w' b off n (fs g) ∧ OB b w2 w') := by
                  have := IH.out M e d g1 w2 (by omega) r1 r2 hdn T1H.out (X2H.out g1 P1H.out) (Sd2H.out g1 P1H.out).1 (Sd2H.out g1 P1H.out).2
                  rw [enH.out] at this; exact this
                go_wp2_with fail
                refine Calls.mono CC.out ?_
                rintro e' w3 ⟨rfl, g2, P2, S2, T2, O2⟩
                have T2H : Hid _ := T2
                have P2H : Hid (Pr M d g1 g2) := P2
                have S2H : Hid (Sd R M d g2) := S2
                clear T2 P2 S2 CC
                go_wp2_with fail
                all_goals (first | go_end0 | (simp only [Exit.inBlock, Exit.then]; refine bodyPost_ret (results_none rfl _ _ _) rfl ?_) | refine bodyPost_ret (results_none rfl _ _ _) rfl ?_)
                all_goals exact ⟨rfl, g2, (P0H.out.trans (halves_ok hM1 hM2 HVH.out P1H.out S1H.out P2H.out S2H.out).2), (halves_ok hM1 hM2 HVH.out P1H.out S1H.out P2H.out S2H.out).1, T2H.out, O1H.out.trans O2⟩
              · have r2I : ¬ (nn : Int) - (s : Int) < (d : Int) := by have := enH.out; omega
                have S2H : Hid (Sd R M d g1) := by
                  have ee : e = d := by omega
                  have := (Sd2H.out g1 P1H.out).1
                  rw [ee] at this; exact this
                go_wp2_with fail
                all_goals (first | go_end0 | (simp only [Exit.inBlock, Exit.then]; refine bodyPost_ret (results_none rfl _ _ _) rfl ?_) | refine bodyPost_ret (results_none rfl _ _ _) rfl ?_)
                all_goals exact ⟨rfl, g1, (P0H.out.trans (halves_ok hM1 hM2 HVH.out P1H.out S1H.out (Pr.refl _ _ _) S2H.out).2), (halves_ok hM1 hM2 HVH.out P1H.out S1H.out (Pr.refl _ _ _) S2H.out).1, T1H.out, O1H.out⟩
            · have r1I : ¬ (M : Int) < (nn : Int) - (s : Int) := by have := enH.out; omega
              have S2H : Hid (Sd R M d g1) := by
                have ee : e = M := by omega
                have := (Sd2H.out g1 P1H.out).2
                rw [ee] at this; exact this
              go_wp2_with fail
              all_goals (first | go_end0 | (simp only [Exit.inBlock, Exit.then]; refine bodyPost_ret (results_none rfl _ _ _) rfl ?_) | refine bodyPost_ret (results_none rfl _ _ _) rfl ?_)
              all_goals exact ⟨rfl, g1, (P0H.out.trans (halves_ok hM1 hM2 HVH.out P1H.out S1H.out (Pr.refl _ _ _) S2H.out).2), (halves_ok hM1 hM2 HVH.out P1H.out S1H.out (Pr.refl _ _ _) S2H.out).1, T1H.out, O1H.out⟩
          · have l2I : ¬ (s : Int) < (M : Int) := by omega
            obtain ⟨g1, hg1⟩ : ∃ g1, g1 = g0 := ⟨_, rfl⟩
            have T1H : Hid (TR wr b off n (fs g1)) := by rw [hg1]; exact T0H
            have P1H : Hid (Pr a M g0 g1) := by rw [hg1]; exact Pr.refl _ _ _
            have S1H : Hid (Sd R a M g1) := by
              have ee : s = M := by omega
              have := MOH.out.1.1
              rw [hg1]; rw [ee] at this; exact this
            have O1H : Hid (OB b w wr) := O0H
            clear hg1
            by_cases r1 : M < e
            · have r1I : (M : Int) < (nn : Int) - (s : Int) := by have := enH.out; omega
              by_cases r2 : e < d
              · have r2I : (nn : Int) - (s : Int) < (d : Int) := by have := enH.out; omega
                have CC : Hid (Calls Tryz.prog 95 #[.slice (some ⟨b, off, none⟩) n cap, .int .i64 (M : Int), .int .i64 ((nn : Int) - (s : Int)), .int .i64 (d : Int), .func (.func 50) #[] #[]] wr fun e w' => e = .returned undef ∧ ∃ g, Pr M d g1 g ∧ Sd R M d g ∧ TR w' b off n (fs g) ∧ OB b wr w') := by
                  have := IH.out M e d g1 wr (by omega) r1 r2 hdn T1H.out (X2H.out g1 P1H.out) (Sd2H.out g1 P1H.out).1 (Sd2H.out g1 P1H.out).2
                  rw [enH.out] at this; exact this
                go_wp2_with fail
                refine Calls.mono CC.out ?_
                rintro e' w3 ⟨rfl, g2, P2, S2, T2, O2⟩
                have T2H : Hid _ := T2
                have P2H : Hid (Pr M d g1 g2) := P2
                have S2H : Hid (Sd R M d g2) := S2
                clear T2 P2 S2 CC
                go_wp2_with fail
                all_goals (first | go_end0 | (simp only [Exit.inBlock, Exit.then]; refine bodyPost_ret (results_none rfl _ _ _) rfl ?_) | refine bodyPost_ret (results_none rfl _ _ _) rfl ?_)
                all_goals exact ⟨rfl, g2, (P0H.out.trans (halves_ok hM1 hM2 HVH.out P1H.out S1H.out P2H.out S2H.out).2), (halves_ok hM1 hM2 HVH.out P1H.out S1H.out P2H.out S2H.out).1, T2H.out, O1H.out.trans O2⟩
              · have r2I : ¬ (nn : Int) - (s : Int) < (d : Int) := by have := enH.out; omega
                have S2H : Hid (Sd R M d g1) := by
                  have ee : e = d := by omega
                  have := (Sd2H.out g1 P1H.out).1
                  rw [ee] at this; exact this
                go_wp2_with fail
                all_goals (first | go_end0 | (simp only [Exit.inBlock, Exit.then]; refine bodyPost_ret (results_none rfl _ _ _) rfl ?_) | refine bodyPost_ret (results_none rfl _ _ _) rfl ?_)
                all_goals exact ⟨rfl, g1, (P0H.out.trans (halves_ok hM1 hM2 HVH.out P1H.out S1H.out (Pr.refl _ _ _) S2H.out).2), (halves_ok hM1 hM2 HVH.out P1H.out S1H.out (Pr.refl _ _ _) S2H.out).1, T1H.out, O1H.out⟩
            · have r1I : ¬ (M : Int) < (nn : Int) - (s : Int) := by have := enH.out; omega
              have S2H : Hid (Sd R M d g1) := by
                have ee : e = M := by omega
                have := (Sd2H.out g1 P1H.out).2
                rw [ee] at this; exact this
              go_wp2_with fail
              all_goals (first | go_end0 | (simp only [Exit.inBlock, Exit.then]; refine bodyPost_ret (results_none rfl _ _ _) rfl ?_) | refine bodyPost_ret (results_none rfl _ _ _) rfl ?_)
              all_goals exact ⟨rfl, g1, (P0H.out.trans (halves_ok hM1 hM2 HVH.out P1H.out S1H.out (Pr.refl _ _ _) S2H.out).2), (halves_ok hM1 hM2 HVH.out P1H.out S1H.out (Pr.refl _ _ _) S2H.out).1, T1H.out, O1H.out⟩
        · have l1I : ¬ (a : Int) < (s : Int) := by omega
          obtain ⟨g1, hg1⟩ : ∃ g1, g1 = g0 := ⟨_, rfl⟩
          have T1H : Hid (TR wr b off n (fs g1)) := by rw [hg1]; exact T0H
          have P1H : Hid (Pr a M g0 g1) := by rw [hg1]; exact Pr.refl _ _ _
          have S1H : Hid (Sd R a M g1) := by
            have ee : s = a := by omega
            have := MOH.out.1.2.1
            rw [hg1]; rw [ee] at this; exact this
          have O1H : Hid (OB b w wr) := O0H
          clear hg1
          by_cases r1 : M < e
          · have r1I : (M : Int) < (nn : Int) - (s : Int) := by have := enH.out; omega
            by_cases r2 : e < d
            · have r2I : (nn : Int) - (s : Int) < (d : Int) := by have := enH.out; omega
              have CC : Hid (Calls Tryz.prog 95 #[.slice (some ⟨b, off, none⟩) n cap, .int .i64 (M : Int), .int .i64 ((nn : Int) - (s : Int)), .int .i64 (d : Int), .func (.func 50) #[] #[]] wr fun e w' => e = .returned undef ∧ ∃ g, Pr M d g1 g ∧ Sd R M d g ∧ TR w' b off n (fs g) ∧ OB b wr w') := by
                have := IH.out M e d g1 wr (by omega) r1 r2 hdn T1H.out (X2H.out g1 P1H.out) (Sd2H.out g1 P1H.out).1 (Sd2H.out g1 P1H.out).2
                rw [enH.out] at this; exact this
              go_wp2_with fail
              refine Calls.mono CC.out ?_
              rintro e' w3 ⟨rfl, g2, P2, S2, T2, O2⟩
              have T2H : Hid _ := T2
              have P2H : Hid (Pr M d g1 g2) := P2
              have S2H : Hid (Sd R M d g2) := S2
              clear T2 P2 S2 CC
              go_wp2_with fail
              all_goals (first | go_end0 | (simp only [Exit.inBlock, Exit.then]; refine bodyPost_ret (results_none rfl _ _ _) rfl ?_) | refine bodyPost_ret (results_none rfl _ _ _) rfl ?_)
              all_goals exact ⟨rfl, g2, (P0H.out.trans (halves_ok hM1 hM2 HVH.out P1H.out S1H.out P2H.out S2H.out).2), (halves_ok hM1 hM2 HVH.out P1H.out S1H.out P2H.out S2H.out).1, T2H.out, O1H.out.trans O2⟩
            · have r2I : ¬ (nn : Int) - (s : Int) < (d : Int) := by have := enH.out; omega
              have S2H : Hid (Sd R M d g1) := by
                have ee : e = d := by omega
                have := (Sd2H.out g1 P1H.out).1
                rw [ee] at this; exact this
              go_wp2_with fail
              all_goals (first | go_end0 | (simp only [Exit.inBlock, Exit.then]; refine bodyPost_ret (results_none rfl _ _ _) rfl ?_) | refine bodyPost_ret (results_none rfl _ _ _) rfl ?_)
              all_goals exact ⟨rfl, g1, (P0H.out.trans (halves_ok hM1 hM2 HVH.out P1H.out S1H.out (Pr.refl _ _ _) S2H.out).2), (halves_ok hM1 hM2 HVH.out P1H.out S1H.out (Pr.refl _ _ _) S2H.out).1, T1H.out, O1H.out⟩
          · have r1I : ¬ (M : Int) < (nn : Int) - (s : Int) := by have := enH.out; omega
            have S2H : Hid (Sd R M d g1) := by
              have ee : e = M := by omega
              have := (Sd2H.out g1 P1H.out).2
              rw [ee] at this; exact this
            go_wp2_with fail
            all_goals (first | go_end0 | (simp only [Exit.inBlock, Exit.then]; refine bodyPost_ret (results_none rfl _ _ _) rfl ?_) | refine bodyPost_ret (results_none rfl _ _ _) rfl ?_)
            all_goals exact ⟨rfl, g1, (P0H.out.trans (halves_ok hM1 hM2 HVH.out P1H.out S1H.out (Pr.refl _ _ _) S2H.out).2), (halves_ok hM1 hM2 HVH.out P1H.out S1H.out (Pr.refl _ _ _) S2H.out).1, T1H.out, O1H.out⟩
end Go.Proofs.YtepakgfdakeibaaGreatDoor.So
