
import Derived.Test.YtbojljmacheccaaGreatDoorZz
import Derived.Test.YtbojljmacheccaaGreatDoorLaQ
import Derived.Test.YtbojljmacheccaaGreatDoorLaD
namespace Go.Proofs.YtbojljmacheccaaGreatDoor.So
open Go.RowKit
set_option linter.unusedVariables false
set_option linter.unusedSimpArgs false
set_option maxRecDepth 100000 in
set_option maxHeartbeats 16000000 in
theorem sym_big (R : En → En → Prop) (c : Tg → Tg → Int) (hC : CmpA 85 c) (tr : ∀ x y z, R x y → R y z → R x z) (b off n cap : Nat) (hn : n ≤ 4611686018427387904) (N : Nat)
    (ih : ∀ (a m d : Nat) (f : Nat → En) (w : World), d - a ≤ N → a < m → m < d → d ≤ n → TR w b off n (fs f) → Xs R (ltE c) a m d f → Sd R a m f → Sd R m d f → Calls Tryz.prog 159 #[.slice (some ⟨b, off, none⟩) n cap, .int .i64 (a : Int), .int .i64 (m : Int), .int .i64 (d : Int), .func (.func 85) #[] #[]] w fun e w' => e = .returned undef ∧ ∃ g, Pr a d f g ∧ Sd R a d g ∧ TR w' b off n (fs g) ∧ OB b w w')
    (a m d : Nat) (f : Nat → En) (w : World) (hN : d - a ≤ N + 1) (ham : a < m) (hmd : m < d) (hdn : d ≤ n) (h : TR w b off n (fs f)) (X : Xs R (ltE c) a m d f) (L : Sd R a m f) (Rr : Sd R m d f) (h1 : ¬ m = a + 1) (h2 : ¬ d = m + 1) (hgt : (a + d) / 2 < m) :
    Calls Tryz.prog 159 #[.slice (some ⟨b, off, none⟩) n cap, .int .i64 (a : Int), .int .i64 (m : Int), .int .i64 (d : Int), .func (.func 85) #[] #[]] w fun e w' => e = .returned undef ∧ ∃ g, Pr a d f g ∧ Sd R a d g ∧ TR w' b off n (fs g) ∧ OB b w w' := by
  have H0 : Hid (TR w b off n (fs f)) := h
  have HX : Hid (Xs R (ltE c) a m d f) := X
  have LH : Hid (Sd R a m f) := L
  have RH : Hid (Sd R m d f) := Rr
  have HC : Hid (CmpA 85 c) := hC
  have IH : Hid (∀ (a m d : Nat) (f : Nat → En) (w : World), d - a ≤ N → a < m → m < d → d ≤ n → TR w b off n (fs f) → Xs R (ltE c) a m d f → Sd R a m f → Sd R m d f → Calls Tryz.prog 159 #[.slice (some ⟨b, off, none⟩) n cap, .int .i64 (a : Int), .int .i64 (m : Int), .int .i64 (d : Int), .func (.func 85) #[] #[]] w fun e w' => e = .returned undef ∧ ∃ g, Pr a d f g ∧ Sd R a d g ∧ TR w' b off n (fs g) ∧ OB b w w') := ih
  have sr := s0_r0 ham hmd
  have y1 : IntKind.i64.wrap ((m : Int) - (a : Int)) = (m : Int) - (a : Int) := IntWalk.i64_in _ (by omega)
  have y2 : (((m : Int) - (a : Int)) == 1) = false := by rw [beq_eq_false_iff_ne]; omega
  have y3 : IntKind.i64.wrap ((d : Int) - (m : Int)) = (d : Int) - (m : Int) := IntWalk.i64_in _ (by omega)
  have y4 : (((d : Int) - (m : Int)) == 1) = false := by rw [beq_eq_false_iff_ne]; omega
  have v1 : IntKind.i64.wrap ((a : Int) + (d : Int)) = (a : Int) + (d : Int) := IntWalk.i64_in _ (by omega)
  have v2 : IntKind.u64.wrap ((a : Int) + (d : Int)) = (a : Int) + (d : Int) := by rw [IntKind.wrap_u64]; omega
  have v3 : IntKind.i64.wrap (((a : Int) + (d : Int)) / 2 + (m : Int)) = ((a : Int) + (d : Int)) / 2 + (m : Int) := IntWalk.i64_in _ (by omega)
  have v4 : IntKind.i64.wrap (((a : Int) + (d : Int)) / 2 + (m : Int) - 1) = ((a : Int) + (d : Int)) / 2 + (m : Int) - 1 := IntWalk.i64_in _ (by omega)
  have v5 : IntKind.i64.wrap (((a : Int) + (d : Int)) / 2 + (m : Int) - (d : Int)) = ((a : Int) + (d : Int)) / 2 + (m : Int) - (d : Int) := IntWalk.i64_in _ (by omega)
  have gI : ((a : Int) + (d : Int)) / 2 < (m : Int) := by omega
  obtain ⟨M, hM⟩ : ∃ M : Nat, M = (a + d) / 2 := ⟨_, rfl⟩
  obtain ⟨p, hp⟩ : ∃ p : Nat, p = M + m - 1 := ⟨_, rfl⟩
  obtain ⟨nn, hnn⟩ : ∃ nn : Nat, nn = M + m := ⟨_, rfl⟩
  have MIH : Hid (((a : Int) + (d : Int)) / 2 = (M : Int)) := by show _ = _; omega
  have pIH : Hid ((M : Int) + (m : Int) - 1 = (p : Int)) := by show _ = _; omega
  have nIH : Hid ((M : Int) + (m : Int) = (nn : Int)) := by show _ = _; omega
  have pNH : Hid ((a + d) / 2 + m - 1 = p) := by show _ = _; omega
  have MNH : Hid (M = (a + d) / 2) := hM
  have nNH : Hid (nn = M + m) := hnn
  have hM1 : a ≤ M := by omega
  have hM2 : M ≤ d := by omega
  have hM3 : M - a ≤ N := by omega
  have hM4 : d - M ≤ N := by omega
  have st1 : Hid ((nn : Int) - (d : Int) = ((s0 a m d : Nat) : Int)) := by show _ = _; unfold s0; rw [if_pos hgt]; try omega
  have st2 : Hid ((M : Int) = ((r0 a m d : Nat) : Int)) := by show _ = _; unfold r0; rw [if_pos hgt]; try omega
  clear h X L Rr hC ih hM hp hnn
  go_enter Tryz.func159, Tryz.ntmps159
  go_wp2_with fail
  rw [MIH.out]
  rw [pIH.out, nIH.out]
  go_loopw [20, 21] (fun vi vj wr => ∃ s r : Nat, vi = .int .i64 (s : Int) ∧ vj = .int .i64 (r : Int) ∧ s0 a m d ≤ s ∧ s ≤ r ∧ r ≤ r0 a m d ∧ (∀ k, s0 a m d ≤ k → k < s → R (f k) (f ((a + d) / 2 + m - 1 - k))) ∧ (∀ k, r ≤ k → k < r0 a m d → R (f ((a + d) / 2 + m - 1 - k)) (f k)) ∧ TR wr b off n (fs f) ∧ OB b w wr) (fun vi vj _ => (intOf vj).toNat - (intOf vi).toNat)
  case atStart => exact ⟨s0 a m d, r0 a m d, by rw [st1.out], by rw [st2.out], Nat.le_refl _, sr.1, Nat.le_refl _, fun k _ _ => by omega, fun k _ _ => by omega, H0.out, OB.refl _ _⟩
  case round =>
    clear H0
    obtain ⟨s, r, rfl, rfl, mi, ij, jd, lo, hi, hT, hO⟩ := hrel
    have hTH : Hid (TR wr b off n (fs f)) := hT
    have hOH : Hid (OB b w wr) := hO
    have loH : Hid (∀ k, s0 a m d ≤ k → k < s → R (f k) (f ((a + d) / 2 + m - 1 - k))) := lo
    have hiH : Hid (∀ k, r ≤ k → k < r0 a m d → R (f ((a + d) / 2 + m - 1 - k)) (f k)) := hi
    by_cases hij : s < r
    · have hijI : (s : Int) < (r : Int) := by omega
      have u1 : IntKind.i64.wrap ((s : Int) + (r : Int)) = (s : Int) + (r : Int) := IntWalk.i64_in _ (by omega)
      have u2 : IntKind.u64.wrap ((s : Int) + (r : Int)) = (s : Int) + (r : Int) := by rw [IntKind.wrap_u64]; omega
      obtain ⟨q, hq⟩ : ∃ q : Nat, q = (s + r) / 2 := ⟨_, rfl⟩
      have hqI : Hid (((s : Int) + (r : Int)) / 2 = (q : Int)) := by show _ = _; omega
      have qi : s ≤ q := by omega
      have qj : q < r := by omega
      clear hq
      have qin := s0_in ham hmd (show s0 a m d ≤ q by omega) (show q < r0 a m d by omega)
      have pq : (a + d) / 2 + m - 1 - q = p - q := by rw [pNH.out]
      rw [pq] at qin
      have qp : q ≤ p := by omega
      have q0 : (0 : Int) ≤ (q : Int) := by omega
      have q1 : (q : Int) < (n : Int) := by omega
      have t1 : ((p : Int) - (q : Int)).toNat = p - q := by omega
      have t2 : (0 : Int) ≤ (p : Int) - (q : Int) := by omega
      have t3 : (p : Int) - (q : Int) < (n : Int) := by omega
      have t4 : (q : Int) ≤ (p : Int) := by omega
      have t5 : IntKind.i64.wrap ((p : Int) - (q : Int)) = (p : Int) - (q : Int) := IntWalk.i64_in _ (by omega)
      obtain ⟨⟨a1, a2⟩, _, _⟩ := hT.2 (p - q) (by omega)
      obtain ⟨⟨b1, b2⟩, _, _⟩ := hT.2 q (by omega)
      have bl : b < wr.heap.size := hT.1
      have hx := HX.out q (p - q) qin.1 qin.2.1 qin.2.2.1 qin.2.2.2
      have CH := HC.out (fs f (p - q)) (fs f q)
      have CH : Hid _ := CH
      have ltv : ltE c (f (p - q)) (f q) = decide (c (fs f (p - q)) (fs f q) < 0) := rfl
      rw [ltv] at hx
      have hxH : Hid _ := hx
      have pqH : Hid ((a + d) / 2 + m - 1 - q = p - q) := pq
      generalize c (fs f (p - q)) (fs f q) = cv at CH hxH
      generalize fs f (p - q) = x at a1 a2 CH
      generalize fs f q = y at b1 b2 CH
      clear hT hO lo hi hx ltv pq qin
      by_cases hcc : cv < 0
      · have hcc2 : decide (cv < 0) = true := decide_eq_true hcc
        have hRH : Hid (R (f (p - q)) (f q)) := hxH.out.1 hcc2
        go_wp2_with fail
        rw [hqI.out]
        refine wp_region_noPanic ?_
        refine wp_region_held_drew (S := fun W => (W.cell? ⟨b, off + (p - q) * 2, none⟩ = some (.string x.1) ∧ W.cell? ⟨b, off + (p - q) * 2 + 1, none⟩ = some (.string x.2)) ∧ W.cell? ⟨b, off + q * 2, none⟩ = some (.string y.1) ∧ W.cell? ⟨b, off + q * 2 + 1, none⟩ = some (.string y.2)) (by kernel_rfl) ⟨⟨a1, a2⟩, b1, b2⟩ (fun hHeld => ?_)
        refine zT 0 (v := ?_) rfl ?_ ?_
        rotate_left 1
        · (intro w0 hSw; (try dsimp only at hSw); obtain ⟨⟨s1, s2⟩, s3, s4⟩ := hSw; go_simp; try with_reducible rfl)
        (try simp only [z1, z2, z3]); (try simp only [Act.put, z4, z5, z6])
        refine zT 1 (v := ?_) rfl ?_ ?_
        rotate_left 1
        · (intro w0 hSw; (try dsimp only at hSw); obtain ⟨⟨s1, s2⟩, s3, s4⟩ := hSw; go_simp; try with_reducible rfl)
        (try simp only [z1, z2, z3]); (try simp only [Act.put, z4, z5, z6])
        refine zT 2 (v := ?_) rfl ?_ ?_
        rotate_left 1
        · (intro w0 hSw; (try dsimp only at hSw); obtain ⟨⟨s1, s2⟩, s3, s4⟩ := hSw; go_simp; try with_reducible rfl)
        (try simp only [z1, z2, z3]); (try simp only [Act.put, z4, z5, z6])
        refine zT 3 (v := ?_) rfl ?_ ?_
        rotate_left 1
        · (intro w0 hSw; (try dsimp only at hSw); obtain ⟨⟨s1, s2⟩, s3, s4⟩ := hSw; go_simp; try with_reducible rfl)
        (try simp only [z1, z2, z3]); (try simp only [Act.put, z4, z5, z6])
        refine zT 4 (v := ?_) rfl ?_ ?_
        rotate_left 1
        · (intro w0 hSw; (try dsimp only at hSw); obtain ⟨⟨s1, s2⟩, s3, s4⟩ := hSw; go_simp; try with_reducible rfl)
        (try simp only [z1, z2, z3]); (try simp only [Act.put, z4, z5, z6])
        refine zT 5 (v := ?_) rfl ?_ ?_
        rotate_left 1
        · (intro w0 hSw; (try dsimp only at hSw); obtain ⟨⟨s1, s2⟩, s3, s4⟩ := hSw; go_simp; try with_reducible rfl)
        (try simp only [z1, z2, z3]); (try simp only [Act.put, z4, z5, z6])
        refine zT 6 (v := ?_) rfl ?_ ?_
        rotate_left 1
        · (intro w0 hSw; (try dsimp only at hSw); obtain ⟨⟨s1, s2⟩, s3, s4⟩ := hSw; go_simp; try with_reducible rfl)
        (try simp only [z1, z2, z3]); (try simp only [Act.put, z4, z5, z6])
        refine zT 7 (v := ?_) rfl ?_ ?_
        rotate_left 1
        · (intro w0 hSw; (try dsimp only at hSw); obtain ⟨⟨s1, s2⟩, s3, s4⟩ := hSw; go_simp; try with_reducible rfl)
        (try simp only [z1, z2, z3]); (try simp only [Act.put, z4, z5, z6])
        refine zT 8 (v := ?_) rfl ?_ ?_
        rotate_left 1
        · (intro w0 hSw; (try dsimp only at hSw); obtain ⟨⟨s1, s2⟩, s3, s4⟩ := hSw; go_simp; try with_reducible rfl)
        (try simp only [z1, z2, z3]); (try simp only [Act.put, z4, z5, z6])
        refine zT 9 (v := ?_) rfl ?_ ?_
        rotate_left 1
        · (intro w0 hSw; (try dsimp only at hSw); obtain ⟨⟨s1, s2⟩, s3, s4⟩ := hSw; go_simp; try with_reducible rfl)
        (try simp only [z1, z2, z3]); (try simp only [Act.put, z4, z5, z6])
        refine zT 10 (v := ?_) rfl ?_ ?_
        rotate_left 1
        · (intro w0 hSw; (try dsimp only at hSw); obtain ⟨⟨s1, s2⟩, s3, s4⟩ := hSw; go_simp; try with_reducible rfl)
        (try simp only [z1, z2, z3]); (try simp only [Act.put, z4, z5, z6])
        refine wpAnyH_ready (rs := [11]) (by kernel_rfl) (by simp) ?_
        refine AllReadyH.cons (o := _) rfl (fun K hK => ?_) AllReadyH.nil
        go_simp
        refine Calls.mono (CH.out _) ?_
        rintro e w' ⟨rfl, BB⟩
        try dsimp only
        refine hK _ _ ?_ (fun hHeld => ?_)
        · exact ⟨⟨by rw [BB.cell (p := ⟨b, off + (p - q) * 2, none⟩) bl]; exact a1, by rw [BB.cell (p := ⟨b, off + (p - q) * 2 + 1, none⟩) bl]; exact a2⟩, by rw [BB.cell (p := ⟨b, off + q * 2, none⟩) bl]; exact b1, by rw [BB.cell (p := ⟨b, off + q * 2 + 1, none⟩) bl]; exact b2⟩
        clear hK K
        (try simp only [z1, z2, z3]); (try simp only [Act.put, z4, z5, z6])
        refine zT 12 (v := ?_) rfl ?_ ?_
        rotate_left 1
        · (intro w0 hSw; (try dsimp only at hSw); obtain ⟨⟨s1, s2⟩, s3, s4⟩ := hSw; go_simp; try with_reducible rfl)
        (try simp only [z1, z2, z3]); (try simp only [Act.put, z4, z5, z6])
        refine zT 13 (v := ?_) rfl ?_ ?_
        rotate_left 1
        · (intro w0 hSw; (try dsimp only at hSw); obtain ⟨⟨s1, s2⟩, s3, s4⟩ := hSw; go_simp; try with_reducible rfl)
        (try simp only [z1, z2, z3]); (try simp only [Act.put, z4, z5, z6])
        refine wpAnyH_done (by kernel_rfl) ?_ _
        refine NoPanic.normal ?_
        have T2H : Hid (TR w' b off n (fs f)) := TR.below (show TR wr.drew b off n (fs f) from hTH.out) BB
        have O2 : Hid (OB b w w') := (show OB b w wr.drew from hOH.out.drew).trans (OB.below BB)
        clear a1 a2 b1 b2 BB
        go_wp2_with fail
        exact ⟨⟨s, q, rfl, by first | rfl | simp, mi, by omega, by omega, loH.out, find_hi tr ham hmd LH.out RH.out (by omega) (by omega) (by rw [pqH.out]; exact hRH.out), T2H.out, O2.out⟩, by simp [intOf]; omega⟩
      · have hcc2 : decide (cv < 0) = false := decide_eq_false hcc
        have hRH : Hid (R (f q) (f (p - q))) := hxH.out.2 hcc2
        go_wp2_with fail
        rw [hqI.out]
        refine wp_region_noPanic ?_
        refine wp_region_held_drew (S := fun W => (W.cell? ⟨b, off + (p - q) * 2, none⟩ = some (.string x.1) ∧ W.cell? ⟨b, off + (p - q) * 2 + 1, none⟩ = some (.string x.2)) ∧ W.cell? ⟨b, off + q * 2, none⟩ = some (.string y.1) ∧ W.cell? ⟨b, off + q * 2 + 1, none⟩ = some (.string y.2)) (by kernel_rfl) ⟨⟨a1, a2⟩, b1, b2⟩ (fun hHeld => ?_)
        refine zT 0 (v := ?_) rfl ?_ ?_
        rotate_left 1
        · (intro w0 hSw; (try dsimp only at hSw); obtain ⟨⟨s1, s2⟩, s3, s4⟩ := hSw; go_simp; try with_reducible rfl)
        (try simp only [z1, z2, z3]); (try simp only [Act.put, z4, z5, z6])
        refine zT 1 (v := ?_) rfl ?_ ?_
        rotate_left 1
        · (intro w0 hSw; (try dsimp only at hSw); obtain ⟨⟨s1, s2⟩, s3, s4⟩ := hSw; go_simp; try with_reducible rfl)
        (try simp only [z1, z2, z3]); (try simp only [Act.put, z4, z5, z6])
        refine zT 2 (v := ?_) rfl ?_ ?_
        rotate_left 1
        · (intro w0 hSw; (try dsimp only at hSw); obtain ⟨⟨s1, s2⟩, s3, s4⟩ := hSw; go_simp; try with_reducible rfl)
        (try simp only [z1, z2, z3]); (try simp only [Act.put, z4, z5, z6])
        refine zT 3 (v := ?_) rfl ?_ ?_
        rotate_left 1
        · (intro w0 hSw; (try dsimp only at hSw); obtain ⟨⟨s1, s2⟩, s3, s4⟩ := hSw; go_simp; try with_reducible rfl)
        (try simp only [z1, z2, z3]); (try simp only [Act.put, z4, z5, z6])
        refine zT 4 (v := ?_) rfl ?_ ?_
        rotate_left 1
        · (intro w0 hSw; (try dsimp only at hSw); obtain ⟨⟨s1, s2⟩, s3, s4⟩ := hSw; go_simp; try with_reducible rfl)
        (try simp only [z1, z2, z3]); (try simp only [Act.put, z4, z5, z6])
        refine zT 5 (v := ?_) rfl ?_ ?_
        rotate_left 1
        · (intro w0 hSw; (try dsimp only at hSw); obtain ⟨⟨s1, s2⟩, s3, s4⟩ := hSw; go_simp; try with_reducible rfl)
        (try simp only [z1, z2, z3]); (try simp only [Act.put, z4, z5, z6])
        refine zT 6 (v := ?_) rfl ?_ ?_
        rotate_left 1
        · (intro w0 hSw; (try dsimp only at hSw); obtain ⟨⟨s1, s2⟩, s3, s4⟩ := hSw; go_simp; try with_reducible rfl)
        (try simp only [z1, z2, z3]); (try simp only [Act.put, z4, z5, z6])
        refine zT 7 (v := ?_) rfl ?_ ?_
        rotate_left 1
        · (intro w0 hSw; (try dsimp only at hSw); obtain ⟨⟨s1, s2⟩, s3, s4⟩ := hSw; go_simp; try with_reducible rfl)
        (try simp only [z1, z2, z3]); (try simp only [Act.put, z4, z5, z6])
        refine zT 8 (v := ?_) rfl ?_ ?_
        rotate_left 1
        · (intro w0 hSw; (try dsimp only at hSw); obtain ⟨⟨s1, s2⟩, s3, s4⟩ := hSw; go_simp; try with_reducible rfl)
        (try simp only [z1, z2, z3]); (try simp only [Act.put, z4, z5, z6])
        refine zT 9 (v := ?_) rfl ?_ ?_
        rotate_left 1
        · (intro w0 hSw; (try dsimp only at hSw); obtain ⟨⟨s1, s2⟩, s3, s4⟩ := hSw; go_simp; try with_reducible rfl)
        (try simp only [z1, z2, z3]); (try simp only [Act.put, z4, z5, z6])
        refine zT 10 (v := ?_) rfl ?_ ?_
        rotate_left 1
        · (intro w0 hSw; (try dsimp only at hSw); obtain ⟨⟨s1, s2⟩, s3, s4⟩ := hSw; go_simp; try with_reducible rfl)
        (try simp only [z1, z2, z3]); (try simp only [Act.put, z4, z5, z6])
        refine wpAnyH_ready (rs := [11]) (by kernel_rfl) (by simp) ?_
        refine AllReadyH.cons (o := _) rfl (fun K hK => ?_) AllReadyH.nil
        go_simp
        refine Calls.mono (CH.out _) ?_
        rintro e w' ⟨rfl, BB⟩
        try dsimp only
        refine hK _ _ ?_ (fun hHeld => ?_)
        · exact ⟨⟨by rw [BB.cell (p := ⟨b, off + (p - q) * 2, none⟩) bl]; exact a1, by rw [BB.cell (p := ⟨b, off + (p - q) * 2 + 1, none⟩) bl]; exact a2⟩, by rw [BB.cell (p := ⟨b, off + q * 2, none⟩) bl]; exact b1, by rw [BB.cell (p := ⟨b, off + q * 2 + 1, none⟩) bl]; exact b2⟩
        clear hK K
        (try simp only [z1, z2, z3]); (try simp only [Act.put, z4, z5, z6])
        refine zT 12 (v := ?_) rfl ?_ ?_
        rotate_left 1
        · (intro w0 hSw; (try dsimp only at hSw); obtain ⟨⟨s1, s2⟩, s3, s4⟩ := hSw; go_simp; try with_reducible rfl)
        (try simp only [z1, z2, z3]); (try simp only [Act.put, z4, z5, z6])
        refine zT 13 (v := ?_) rfl ?_ ?_
        rotate_left 1
        · (intro w0 hSw; (try dsimp only at hSw); obtain ⟨⟨s1, s2⟩, s3, s4⟩ := hSw; go_simp; try with_reducible rfl)
        (try simp only [z1, z2, z3]); (try simp only [Act.put, z4, z5, z6])
        refine wpAnyH_done (by kernel_rfl) ?_ _
        refine NoPanic.normal ?_
        have T2H : Hid (TR w' b off n (fs f)) := TR.below (show TR wr.drew b off n (fs f) from hTH.out) BB
        have O2 : Hid (OB b w w') := (show OB b w wr.drew from hOH.out.drew).trans (OB.below BB)
        have qw : IntKind.i64.wrap ((q : Int) + 1) = ((q + 1 : Nat) : Int) := IntWalk.i64_in _ (by omega)
        clear a1 a2 b1 b2 BB
        go_wp2_with fail
        exact ⟨⟨q + 1, r, by first | rfl | simp, rfl, by omega, by omega, jd, fun k k1 k2 => find_lo tr ham hmd LH.out RH.out (show s0 a m d ≤ q by omega) (by omega) (by rw [pqH.out]; exact hRH.out) k k1 (by omega), hiH.out, T2H.out, O2.out⟩, by simp [intOf]; omega⟩
    · have hije : s = r := by omega
      subst hije
      clear hij
      have hijI : ¬ (s : Int) < (s : Int) := by omega
      have sq := s0_end ham hmd mi jd
      have MO := mid_ok tr ham hmd LH.out RH.out HX.out mi jd lo hi
      rw [← MNH.out] at MO sq
      obtain ⟨e, he⟩ : ∃ e, e = M + m - s := ⟨_, rfl⟩
      rw [← he] at MO sq
      obtain ⟨g0, hg0⟩ : ∃ g0, g0 = rot f s m e := ⟨_, rfl⟩
      rw [← hg0] at MO
      have enH : Hid ((e : Int) = (nn : Int) - (s : Int)) := by show _ = _; have := nNH.out; omega
      have hg0H : Hid (g0 = rot f s m e) := hg0
      have P0H : Hid (Pr a d f g0) := by rw [hg0]; exact (rot_pr f sq.2.1 sq.2.2.2.2.1).wide sq.1 sq.2.2.2.2.2
      have HVH : Hid (∀ i j, a ≤ i → i < M → M ≤ j → j < d → R (g0 i) (g0 j)) := MO.2.2
      have Sd2H : Hid (∀ g1, Pr a M g0 g1 → Sd R M e g1 ∧ Sd R e d g1) := fun g1 P => by
        constructor
        · intro i j x y z; rw [P.out (k := i) (by omega), P.out (k := j) (by omega)]; exact MO.2.1.1 i j x y z
        · intro i j x y z; rw [P.out (k := i) (by omega), P.out (k := j) (by omega)]; exact MO.2.1.2.1 i j x y z
      have X2H : Hid (∀ g1, Pr a M g0 g1 → Xs R (ltE c) M e d g1) := fun g1 P i j x y z v => by
        rw [P.out (k := i) (by omega), P.out (k := j) (by omega)]; exact MO.2.1.2.2 i j x y z v
      have MOH : Hid ((Sd R a s g0 ∧ Sd R s M g0 ∧ Xs R (ltE c) a s M g0) ∧ True) := ⟨MO.1, trivial⟩
      have es : IntKind.i64.wrap ((nn : Int) - (s : Int)) = (nn : Int) - (s : Int) := IntWalk.i64_in _ (by have := enH.out; omega)
      obtain ⟨k1, k2, k3, k4, k5, k6⟩ := sq
      clear MO hT hO lo hi hg0 he
      by_cases c1 : s < m
      · have c1I : (s : Int) < (m : Int) := by omega
        by_cases c2 : m < e
        · have c2I : (m : Int) < (nn : Int) - (s : Int) := by have := enH.out; omega
          have CC : Hid (Calls Tryz.prog 186 #[.slice (some ⟨b, off, none⟩) n cap, .int .i64 (s : Int), .int .i64 (m : Int), .int .i64 ((nn : Int) - (s : Int)), .func (.func 85) #[] #[]] wr fun e w' => e = .returned undef ∧ TR w' b off n (fs g0) ∧ OB b wr w') := by
            have := rotate_any b off n cap (fs f) s m e (.func (.func 85) #[] #[]) wr hTH.out c1 c2 (by omega) hn
            rw [enH.out, ← fs_rot, ← hg0H.out] at this; exact this
          go_wp2_with fail
          refine Calls.mono CC.out ?_
          rintro e' w1 ⟨rfl, T0, O0⟩
          have T0H : Hid (TR w1 b off n (fs g0)) := T0
          have O0H : Hid (OB b w w1) := hOH.out.trans O0
          clear T0 O0 CC
          by_cases l1 : a < s
          · have l1I : (a : Int) < (s : Int) := by omega
            by_cases l2 : s < M
            · have l2I : (s : Int) < (M : Int) := by omega
              have CC : Hid (Calls Tryz.prog 159 #[.slice (some ⟨b, off, none⟩) n cap, .int .i64 (a : Int), .int .i64 (s : Int), .int .i64 (M : Int), .func (.func 85) #[] #[]] w1 fun e w' => e = .returned undef ∧ ∃ g, Pr a M g0 g ∧ Sd R a M g ∧ TR w' b off n (fs g) ∧ OB b w1 w') :=
                IH.out a s M g0 w1 (by omega) l1 l2 (by omega) T0H.out MOH.out.1.2.2 MOH.out.1.1 MOH.out.1.2.1
              go_wp2_with fail
              refine Calls.mono CC.out ?_
              rintro e' w2 ⟨rfl, g1, P1, S1, T1, O1⟩
              have T1H : Hid (TR w2 b off n (fs g1)) := T1
              have P1H : Hid (Pr a M g0 g1) := P1
              have S1H : Hid (Sd R a M g1) := S1
              have O1H : Hid (OB b w w2) := O0H.out.trans O1
              clear T1 P1 S1 CC O1
              by_cases r1 : M < e
              · have r1I : (M : Int) < (nn : Int) - (s : Int) := by have := enH.out; omega
                by_cases r2 : e < d
                · have r2I : (nn : Int) - (s : Int) < (d : Int) := by have := enH.out; omega
                  have CC : Hid (Calls Tryz.prog 159 #[.slice (some ⟨b, off, none⟩) n cap, .int .i64 (M : Int), .int .i64 ((nn : Int) - (s : Int)), .int .i64 (d : Int), .func (.func 85) #[] #[]] w2 fun e w' => e = .returned undef ∧ ∃ g, Pr M d g1 g ∧ Sd R M d g ∧ TR w' b off n (fs g) ∧ OB b w2 w') := by
                    have := IH.out M e d g1 w2 (by omega) r1 r2 hdn T1H.out (X2H.out g1 P1H.out) (Sd2H.out g1 P1H.out).1 (Sd2H.out g1 P1H.out).2
                    rw [enH.out] at this; exact this
                  go_wp2_with fail
                  refine Calls.mono CC.out ?_
                  rintro e' w3 ⟨rfl, g2, P2, S2, T2, O2⟩
                  have T2H : Hid _ := T2
                  have P2H : Hid (Pr M d g1 g2) := P2
                  have S2H : Hid (Sd R M d g2) := S2
                  clear T2 P2 S2 CC
                  go_wp2_with fail
                  all_goals (first | go_end0 | (simp only [Exit.inBlock, Exit.then]; refine bodyPost_ret (results_none rfl _ _ _) rfl ?_) | refine bodyPost_ret (results_none rfl _ _ _) rfl ?_)
                  all_goals exact ⟨rfl, g2, (P0H.out.trans (halves_ok hM1 hM2 HVH.out P1H.out S1H.out P2H.out S2H.out).2), (halves_ok hM1 hM2 HVH.out P1H.out S1H.out P2H.out S2H.out).1, T2H.out, O1H.out.trans O2⟩
                · have r2I : ¬ (nn : Int) - (s : Int) < (d : Int) := by have := enH.out; omega
                  have S2H : Hid (Sd R M d g1) := by
                    have ee : e = d := by omega
                    have := (Sd2H.out g1 P1H.out).1
                    rw [ee] at this; exact this
                  go_wp2_with fail
                  all_goals (first | go_end0 | (simp only [Exit.inBlock, Exit.then]; refine bodyPost_ret (results_none rfl _ _ _) rfl ?_) | refine bodyPost_ret (results_none rfl _ _ _) rfl ?_)
                  all_goals exact ⟨rfl, g1, (P0H.out.trans (halves_ok hM1 hM2 HVH.out P1H.out S1H.out (Pr.refl _ _ _) S2H.out).2), (halves_ok hM1 hM2 HVH.out P1H.out S1H.out (Pr.refl _ _ _) S2H.out).1, T1H.out, O1H.out⟩
              · have r1I : ¬ (M : Int) < (nn : Int) - (s : Int) := by have := enH.out; omega
                have S2H : Hid (Sd R M d g1) := by
                  have ee : e = M := by omega
                  have := (Sd2H.out g1 P1H.out).2
                  rw [ee] at this; exact this
                go_wp2_with fail
                all_goals (first | go_end0 | (simp only [Exit.inBlock, Exit.then]; refine bodyPost_ret (results_none rfl _ _ _) rfl ?_) | refine bodyPost_ret (results_none rfl _ _ _) rfl ?_)
                all_goals exact ⟨rfl, g1, (P0H.out.trans (halves_ok hM1 hM2 HVH.out P1H.out S1H.out (Pr.refl _ _ _) S2H.out).2), (halves_ok hM1 hM2 HVH.out P1H.out S1H.out (Pr.refl _ _ _) S2H.out).1, T1H.out, O1H.out⟩
            · have l2I : ¬ (s : Int) < (M : Int) := by omega
              obtain ⟨g1, hg1⟩ : ∃ g1, g1 = g0 := ⟨_, rfl⟩
              have T1H : Hid (TR w1 b off n (fs g1)) := by rw [hg1]; exact T0H
              have P1H : Hid (Pr a M g0 g1) := by rw [hg1]; exact Pr.refl _ _ _
              have S1H : Hid (Sd R a M g1) := by
                have ee : s = M := by omega
                have := MOH.out.1.1
                rw [hg1]; rw [ee] at this; exact this
              have O1H : Hid (OB b w w1) := O0H
              clear hg1
              by_cases r1 : M < e
              · have r1I : (M : Int) < (nn : Int) - (s : Int) := by have := enH.out; omega
                by_cases r2 : e < d
                · have r2I : (nn : Int) - (s : Int) < (d : Int) := by have := enH.out; omega
                  have CC : Hid (Calls Tryz.prog 159 #[.slice (some ⟨b, off, none⟩) n cap, .int .i64 (M : Int), .int .i64 ((nn : Int) - (s : Int)), .int .i64 (d : Int), .func (.func 85) #[] #[]] w1 fun e w' => e = .returned undef ∧ ∃ g, Pr M d g1 g ∧ Sd R M d g ∧ TR w' b off n (fs g) ∧ OB b w1 w') := by
                    have := IH.out M e d g1 w1 (by omega) r1 r2 hdn T1H.out (X2H.out g1 P1H.out) (Sd2H.out g1 P1H.out).1 (Sd2H.out g1 P1H.out).2
                    rw [enH.out] at this; exact this
                  go_wp2_with fail
                  refine Calls.mono CC.out ?_
                  rintro e' w3 ⟨rfl, g2, P2, S2, T2, O2⟩
                  have T2H : Hid _ := T2
                  have P2H : Hid (Pr M d g1 g2) := P2
                  have S2H : Hid (Sd R M d g2) := S2
                  clear T2 P2 S2 CC
                  go_wp2_with fail
                  all_goals (first | go_end0 | (simp only [Exit.inBlock, Exit.then]; refine bodyPost_ret (results_none rfl _ _ _) rfl ?_) | refine bodyPost_ret (results_none rfl _ _ _) rfl ?_)
                  all_goals exact ⟨rfl, g2, (P0H.out.trans (halves_ok hM1 hM2 HVH.out P1H.out S1H.out P2H.out S2H.out).2), (halves_ok hM1 hM2 HVH.out P1H.out S1H.out P2H.out S2H.out).1, T2H.out, O1H.out.trans O2⟩
                · have r2I : ¬ (nn : Int) - (s : Int) < (d : Int) := by have := enH.out; omega
                  have S2H : Hid (Sd R M d g1) := by
                    have ee : e = d := by omega
                    have := (Sd2H.out g1 P1H.out).1
                    rw [ee] at this; exact this
                  go_wp2_with fail
                  all_goals (first | go_end0 | (simp only [Exit.inBlock, Exit.then]; refine bodyPost_ret (results_none rfl _ _ _) rfl ?_) | refine bodyPost_ret (results_none rfl _ _ _) rfl ?_)
                  all_goals exact ⟨rfl, g1, (P0H.out.trans (halves_ok hM1 hM2 HVH.out P1H.out S1H.out (Pr.refl _ _ _) S2H.out).2), (halves_ok hM1 hM2 HVH.out P1H.out S1H.out (Pr.refl _ _ _) S2H.out).1, T1H.out, O1H.out⟩
              · have r1I : ¬ (M : Int) < (nn : Int) - (s : Int) := by have := enH.out; omega
                have S2H : Hid (Sd R M d g1) := by
                  have ee : e = M := by omega
                  have := (Sd2H.out g1 P1H.out).2
                  rw [ee] at this; exact this
                go_wp2_with fail
                all_goals (first | go_end0 | (simp only [Exit.inBlock, Exit.then]; refine bodyPost_ret (results_none rfl _ _ _) rfl ?_) | refine bodyPost_ret (results_none rfl _ _ _) rfl ?_)
                all_goals exact ⟨rfl, g1, (P0H.out.trans (halves_ok hM1 hM2 HVH.out P1H.out S1H.out (Pr.refl _ _ _) S2H.out).2), (halves_ok hM1 hM2 HVH.out P1H.out S1H.out (Pr.refl _ _ _) S2H.out).1, T1H.out, O1H.out⟩
          · have l1I : ¬ (a : Int) < (s : Int) := by omega
            obtain ⟨g1, hg1⟩ : ∃ g1, g1 = g0 := ⟨_, rfl⟩
            have T1H : Hid (TR w1 b off n (fs g1)) := by rw [hg1]; exact T0H
            have P1H : Hid (Pr a M g0 g1) := by rw [hg1]; exact Pr.refl _ _ _
            have S1H : Hid (Sd R a M g1) := by
              have ee : s = a := by omega
              have := MOH.out.1.2.1
              rw [hg1]; rw [ee] at this; exact this
            have O1H : Hid (OB b w w1) := O0H
            clear hg1
            by_cases r1 : M < e
            · have r1I : (M : Int) < (nn : Int) - (s : Int) := by have := enH.out; omega
              by_cases r2 : e < d
              · have r2I : (nn : Int) - (s : Int) < (d : Int) := by have := enH.out; omega
                have CC : Hid (Calls Tryz.prog 159 #[.slice (some ⟨b, off, none⟩) n cap, .int .i64 (M : Int), .int .i64 ((nn : Int) - (s : Int)), .int .i64 (d : Int), .func (.func 85) #[] #[]] w1 fun e w' => e = .returned undef ∧ ∃ g, Pr M d g1 g ∧ Sd R M d g ∧ TR w' b off n (fs g) ∧ OB b w1 w') := by
                  have := IH.out M e d g1 w1 (by omega) r1 r2 hdn T1H.out (X2H.out g1 P1H.out) (Sd2H.out g1 P1H.out).1 (Sd2H.out g1 P1H.out).2
                  rw [enH.out] at this; exact this
                go_wp2_with fail
                refine Calls.mono CC.out ?_
                rintro e' w3 ⟨rfl, g2, P2, S2, T2, O2⟩
                have T2H : Hid _ := T2
                have P2H : Hid (Pr M d g1 g2) := P2
                have S2H : Hid (Sd R M d g2) := S2
                clear T2 P2 S2 CC
                go_wp2_with fail
                all_goals (first | go_end0 | (simp only [Exit.inBlock, Exit.then]; refine bodyPost_ret (results_none rfl _ _ _) rfl ?_) | refine bodyPost_ret (results_none rfl _ _ _) rfl ?_)
                all_goals exact ⟨rfl, g2, (P0H.out.trans (halves_ok hM1 hM2 HVH.out P1H.out S1H.out P2H.out S2H.out).2), (halves_ok hM1 hM2 HVH.out P1H.out S1H.out P2H.out S2H.out).1, T2H.out, O1H.out.trans O2⟩
              · have r2I : ¬ (nn : Int) - (s : Int) < (d : Int) := by have := enH.out; omega
                have S2H : Hid (Sd R M d g1) := by
                  have ee : e = d := by omega
                  have := (Sd2H.out g1 P1H.out).1
                  rw [ee] at this; exact this
                go_wp2_with fail
                all_goals (first | go_end0 | (simp only [Exit.inBlock, Exit.then]; refine bodyPost_ret (results_none rfl _ _ _) rfl ?_) | refine bodyPost_ret (results_none rfl _ _ _) rfl ?_)
                all_goals exact ⟨rfl, g1, (P0H.out.trans (halves_ok hM1 hM2 HVH.out P1H.out S1H.out (Pr.refl _ _ _) S2H.out).2), (halves_ok hM1 hM2 HVH.out P1H.out S1H.out (Pr.refl _ _ _) S2H.out).1, T1H.out, O1H.out⟩
            · have r1I : ¬ (M : Int) < (nn : Int) - (s : Int) := by have := enH.out; omega
              have S2H : Hid (Sd R M d g1) := by
                have ee : e = M := by omega
                have := (Sd2H.out g1 P1H.out).2
                rw [ee] at this; exact this
              go_wp2_with fail
              all_goals (first | go_end0 | (simp only [Exit.inBlock, Exit.then]; refine bodyPost_ret (results_none rfl _ _ _) rfl ?_) | refine bodyPost_ret (results_none rfl _ _ _) rfl ?_)
              all_goals exact ⟨rfl, g1, (P0H.out.trans (halves_ok hM1 hM2 HVH.out P1H.out S1H.out (Pr.refl _ _ _) S2H.out).2), (halves_ok hM1 hM2 HVH.out P1H.out S1H.out (Pr.refl _ _ _) S2H.out).1, T1H.out, O1H.out⟩
        · have c2I : ¬ (m : Int) < (nn : Int) - (s : Int) := by have := enH.out; omega
          have T0H : Hid (TR wr b off n (fs g0)) := by
            have : g0 = f := by rw [hg0H.out]; exact rot_none f (Or.inr (by omega)) (by omega) (by omega)
            rw [this]; exact hTH
          have O0H : Hid (OB b w wr) := hOH
          by_cases l1 : a < s
          · have l1I : (a : Int) < (s : Int) := by omega
            by_cases l2 : s < M
            · have l2I : (s : Int) < (M : Int) := by omega
              have CC : Hid (Calls Tryz.prog 159 #[.slice (some ⟨b, off, none⟩) n cap, .int .i64 (a : Int), .int .i64 (s : Int), .int .i64 (M : Int), .func (.func 85) #[] #[]] wr fun e w' => e = .returned undef ∧ ∃ g, Pr a M g0 g ∧ Sd R a M g ∧ TR w' b off n (fs g) ∧ OB b wr w') :=
                IH.out a s M g0 wr (by omega) l1 l2 (by omega) T0H.out MOH.out.1.2.2 MOH.out.1.1 MOH.out.1.2.1
              go_wp2_with fail
              refine Calls.mono CC.out ?_
              rintro e' w2 ⟨rfl, g1, P1, S1, T1, O1⟩
              have T1H : Hid (TR w2 b off n (fs g1)) := T1
              have P1H : Hid (Pr a M g0 g1) := P1
              have S1H : Hid (Sd R a M g1) := S1
              have O1H : Hid (OB b w w2) := O0H.out.trans O1
              clear T1 P1 S1 CC O1
              by_cases r1 : M < e
              · have r1I : (M : Int) < (nn : Int) - (s : Int) := by have := enH.out; omega
                by_cases r2 : e < d
                · have r2I : (nn : Int) - (s : Int) < (d : Int) := by have := enH.out; omega
                  have CC : Hid (Calls Tryz.prog 159 #[.slice (some ⟨b, off, none⟩) n cap, .int .i64 (M : Int), .int .i64 ((nn : Int) - (s : Int)), .int .i64 (d : Int), .func (.func 85) #[] #[]] w2 fun e w' => e = .returned undef ∧ ∃ g, Pr M d g1 g ∧ Sd R M d g ∧ TR w' b off n (fs g) ∧ OB b w2 w') := by
                    have := IH.out M e d g1 w2 (by omega) r1 r2 hdn T1H.out (X2H.out g1 P1H.out) (Sd2H.out g1 P1H.out).1 (Sd2H.out g1 P1H.out).2
                    rw [enH.out] at this; exact this
                  go_wp2_with fail
                  refine Calls.mono CC.out ?_
                  rintro e' w3 ⟨rfl, g2, P2, S2, T2, O2⟩
                  have T2H : Hid _ := T2
                  have P2H : Hid (Pr M d g1 g2) := P2
                  have S2H : Hid (Sd R M d g2) := S2
                  clear T2 P2 S2 CC
                  go_wp2_with fail
                  all_goals (first | go_end0 | (simp only [Exit.inBlock, Exit.then]; refine bodyPost_ret (results_none rfl _ _ _) rfl ?_) | refine bodyPost_ret (results_none rfl _ _ _) rfl ?_)
                  all_goals exact ⟨rfl, g2, (P0H.out.trans (halves_ok hM1 hM2 HVH.out P1H.out S1H.out P2H.out S2H.out).2), (halves_ok hM1 hM2 HVH.out P1H.out S1H.out P2H.out S2H.out).1, T2H.out, O1H.out.trans O2⟩
                · have r2I : ¬ (nn : Int) - (s : Int) < (d : Int) := by have := enH.out; omega
                  have S2H : Hid (Sd R M d g1) := by
                    have ee : e = d := by omega
                    have := (Sd2H.out g1 P1H.out).1
                    rw [ee] at this; exact this
                  go_wp2_with fail
                  all_goals (first | go_end0 | (simp only [Exit.inBlock, Exit.then]; refine bodyPost_ret (results_none rfl _ _ _) rfl ?_) | refine bodyPost_ret (results_none rfl _ _ _) rfl ?_)
                  all_goals exact ⟨rfl, g1, (P0H.out.trans (halves_ok hM1 hM2 HVH.out P1H.out S1H.out (Pr.refl _ _ _) S2H.out).2), (halves_ok hM1 hM2 HVH.out P1H.out S1H.out (Pr.refl _ _ _) S2H.out).1, T1H.out, O1H.out⟩
              · have r1I : ¬ (M : Int) < (nn : Int) - (s : Int) := by have := enH.out; omega
                have S2H : Hid (Sd R M d g1) := by
                  have ee : e = M := by omega
                  have := (Sd2H.out g1 P1H.out).2
                  rw [ee] at this; exact this
                go_wp2_with fail
                all_goals (first | go_end0 | (simp only [Exit.inBlock, Exit.then]; refine bodyPost_ret (results_none rfl _ _ _) rfl ?_) | refine bodyPost_ret (results_none rfl _ _ _) rfl ?_)
                all_goals exact ⟨rfl, g1, (P0H.out.trans (halves_ok hM1 hM2 HVH.out P1H.out S1H.out (Pr.refl _ _ _) S2H.out).2), (halves_ok hM1 hM2 HVH.out P1H.out S1H.out (Pr.refl _ _ _) S2H.out).1, T1H.out, O1H.out⟩
            · have l2I : ¬ (s : Int) < (M : Int) := by omega
              obtain ⟨g1, hg1⟩ : ∃ g1, g1 = g0 := ⟨_, rfl⟩
              have T1H : Hid (TR wr b off n (fs g1)) := by rw [hg1]; exact T0H
              have P1H : Hid (Pr a M g0 g1) := by rw [hg1]; exact Pr.refl _ _ _
              have S1H : Hid (Sd R a M g1) := by
                have ee : s = M := by omega
                have := MOH.out.1.1
                rw [hg1]; rw [ee] at this; exact this
              have O1H : Hid (OB b w wr) := O0H
              clear hg1
              by_cases r1 : M < e
              · have r1I : (M : Int) < (nn : Int) - (s : Int) := by have := enH.out; omega
                by_cases r2 : e < d
                · have r2I : (nn : Int) - (s : Int) < (d : Int) := by have := enH.out; omega
                  have CC : Hid (Calls Tryz.prog 159 #[.slice (some ⟨b, off, none⟩) n cap, .int .i64 (M : Int), .int .i64 ((nn : Int) - (s : Int)), .int .i64 (d : Int), .func (.func 85) #[] #[]] wr fun e w' => e = .returned undef ∧ ∃ g, Pr M d g1 g ∧ Sd R M d g ∧ TR w' b off n (fs g) ∧ OB b wr w') := by
                    have := IH.out M e d g1 wr (by omega) r1 r2 hdn T1H.out (X2H.out g1 P1H.out) (Sd2H.out g1 P1H.out).1 (Sd2H.out g1 P1H.out).2
                    rw [enH.out] at this; exact this
                  go_wp2_with fail
                  refine Calls.mono CC.out ?_
                  rintro e' w3 ⟨rfl, g2, P2, S2, T2, O2⟩
                  have T2H : Hid _ := T2
                  have P2H : Hid (Pr M d g1 g2) := P2
                  have S2H : Hid (Sd R M d g2) := S2
                  clear T2 P2 S2 CC
                  go_wp2_with fail
                  all_goals (first | go_end0 | (simp only [Exit.inBlock, Exit.then]; refine bodyPost_ret (results_none rfl _ _ _) rfl ?_) | refine bodyPost_ret (results_none rfl _ _ _) rfl ?_)
                  all_goals exact ⟨rfl, g2, (P0H.out.trans (halves_ok hM1 hM2 HVH.out P1H.out S1H.out P2H.out S2H.out).2), (halves_ok hM1 hM2 HVH.out P1H.out S1H.out P2H.out S2H.out).1, T2H.out, O1H.out.trans O2⟩
                · have r2I : ¬ (nn : Int) - (s : Int) < (d : Int) := by have := enH.out; omega
                  have S2H : Hid (Sd R M d g1) := by
                    have ee : e = d := by omega
                    have := (Sd2H.out g1 P1H.out).1
                    rw [ee] at this; exact this
                  go_wp2_with fail
                  all_goals (first | go_end0 | (simp only [Exit.inBlock, Exit.then]; refine bodyPost_ret (results_none rfl _ _ _) rfl ?_) | refine bodyPost_ret (results_none rfl _ _ _) rfl ?_)
                  all_goals exact ⟨rfl, g1, (P0H.out.trans (halves_ok hM1 hM2 HVH.out P1H.out S1H.out (Pr.refl _ _ _) S2H.out).2), (halves_ok hM1 hM2 HVH.out P1H.out S1H.out (Pr.refl _ _ _) S2H.out).1, T1H.out, O1H.out⟩
              · have r1I : ¬ (M : Int) < (nn : Int) - (s : Int) := by have := enH.out; omega
                have S2H : Hid (Sd R M d g1) := by
                  have ee : e = M := by omega
                  have := (Sd2H.out g1 P1H.out).2
                  rw [ee] at this; exact this
                go_wp2_with fail
                all_goals (first | go_end0 | (simp only [Exit.inBlock, Exit.then]; refine bodyPost_ret (results_none rfl _ _ _) rfl ?_) | refine bodyPost_ret (results_none rfl _ _ _) rfl ?_)
                all_goals exact ⟨rfl, g1, (P0H.out.trans (halves_ok hM1 hM2 HVH.out P1H.out S1H.out (Pr.refl _ _ _) S2H.out).2), (halves_ok hM1 hM2 HVH.out P1H.out S1H.out (Pr.refl _ _ _) S2H.out).1, T1H.out, O1H.out⟩
          · have l1I : ¬ (a : Int) < (s : Int) := by omega
            obtain ⟨g1, hg1⟩ : ∃ g1, g1 = g0 := ⟨_, rfl⟩
            have T1H : Hid (TR wr b off n (fs g1)) := by rw [hg1]; exact T0H
            have P1H : Hid (Pr a M g0 g1) := by rw [hg1]; exact Pr.refl _ _ _
            have S1H : Hid (Sd R a M g1) := by
              have ee : s = a := by omega
              have := MOH.out.1.2.1
              rw [hg1]; rw [ee] at this; exact this
            have O1H : Hid (OB b w wr) := O0H
            clear hg1
            by_cases r1 : M < e
            · have r1I : (M : Int) < (nn : Int) - (s : Int) := by have := enH.out; omega
              by_cases r2 : e < d
              · have r2I : (nn : Int) - (s : Int) < (d : Int) := by have := enH.out; omega
                have CC : Hid (Calls Tryz.prog 159 #[.slice (some ⟨b, off, none⟩) n cap, .int .i64 (M : Int), .int .i64 ((nn : Int) - (s : Int)), .int .i64 (d : Int), .func (.func 85) #[] #[]] wr fun e w' => e = .returned undef ∧ ∃ g, Pr M d g1 g ∧ Sd R M d g ∧ TR w' b off n (fs g) ∧ OB b wr w') := by
                  have := IH.out M e d g1 wr (by omega) r1 r2 hdn T1H.out (X2H.out g1 P1H.out) (Sd2H.out g1 P1H.out).1 (Sd2H.out g1 P1H.out).2
                  rw [enH.out] at this; exact this
                go_wp2_with fail
                refine Calls.mono CC.out ?_
                rintro e' w3 ⟨rfl, g2, P2, S2, T2, O2⟩
                have T2H : Hid _ := T2
                have P2H : Hid (Pr M d g1 g2) := P2
                have S2H : Hid (Sd R M d g2) := S2
                clear T2 P2 S2 CC
                go_wp2_with fail
                all_goals (first | go_end0 | (simp only [Exit.inBlock, Exit.then]; refine bodyPost_ret (results_none rfl _ _ _) rfl ?_) | refine bodyPost_ret (results_none rfl _ _ _) rfl ?_)
                all_goals exact ⟨rfl, g2, (P0H.out.trans (halves_ok hM1 hM2 HVH.out P1H.out S1H.out P2H.out S2H.out).2), (halves_ok hM1 hM2 HVH.out P1H.out S1H.out P2H.out S2H.out).1, T2H.out, O1H.out.trans O2⟩
              · have r2I : ¬ (nn : Int) - (s : Int) < (d : Int) := by have := enH.out; omega
                have S2H : Hid (Sd R M d g1) := by
                  have ee : e = d := by omega
                  have := (Sd2H.out g1 P1H.out).1
                  rw [ee] at this; exact this
                go_wp2_with fail
                all_goals (first | go_end0 | (simp only [Exit.inBlock, Exit.then]; refine bodyPost_ret (results_none rfl _ _ _) rfl ?_) | refine bodyPost_ret (results_none rfl _ _ _) rfl ?_)
                all_goals exact ⟨rfl, g1, (P0H.out.trans (halves_ok hM1 hM2 HVH.out P1H.out S1H.out (Pr.refl _ _ _) S2H.out).2), (halves_ok hM1 hM2 HVH.out P1H.out S1H.out (Pr.refl _ _ _) S2H.out).1, T1H.out, O1H.out⟩
            · have r1I : ¬ (M : Int) < (nn : Int) - (s : Int) := by have := enH.out; omega
              have S2H : Hid (Sd R M d g1) := by
                have ee : e = M := by omega
                have := (Sd2H.out g1 P1H.out).2
                rw [ee] at this; exact this
              go_wp2_with fail
              all_goals (first | go_end0 | (simp only [Exit.inBlock, Exit.then]; refine bodyPost_ret (results_none rfl _ _ _) rfl ?_) | refine bodyPost_ret (results_none rfl _ _ _) rfl ?_)
              all_goals exact ⟨rfl, g1, (P0H.out.trans (halves_ok hM1 hM2 HVH.out P1H.out S1H.out (Pr.refl _ _ _) S2H.out).2), (halves_ok hM1 hM2 HVH.out P1H.out S1H.out (Pr.refl _ _ _) S2H.out).1, T1H.out, O1H.out⟩
      · have c1I : ¬ (s : Int) < (m : Int) := by omega
        have T0H : Hid (TR wr b off n (fs g0)) := by
          have : g0 = f := by rw [hg0H.out]; exact rot_none f (Or.inl (by omega)) (by omega) (by omega)
          rw [this]; exact hTH
        have O0H : Hid (OB b w wr) := hOH
        by_cases l1 : a < s
        · have l1I : (a : Int) < (s : Int) := by omega
          by_cases l2 : s < M
          · have l2I : (s : Int) < (M : Int) := by omega
            have CC : Hid (Calls Tryz.prog 159 #[.slice (some ⟨b, off, none⟩) n cap, .int .i64 (a : Int), .int .i64 (s : Int), .int .i64 (M : Int), .func (.func 85) #[] #[]] wr fun e w' => e = .returned undef ∧ ∃ g, Pr a M g0 g ∧ Sd R a M g ∧ TR w' b off n (fs g) ∧ OB b wr w') :=
              IH.out a s M g0 wr (by omega) l1 l2 (by omega) T0H.out MOH.out.1.2.2 MOH.out.1.1 MOH.out.1.2.1
            go_wp2_with fail
            refine Calls.mono CC.out ?_
            rintro e' w2 ⟨rfl, g1, P1, S1, T1, O1⟩
            have T1H : Hid (TR w2 b off n (fs g1)) := T1
            have P1H : Hid (Pr a M g0 g1) := P1
            have S1H : Hid (Sd R a M g1) := S1
            have O1H : Hid (OB b w w2) := O0H.out.trans O1
            clear T1 P1 S1 CC O1
            by_cases r1 : M < e
            · have r1I : (M : Int) < (nn : Int) - (s : Int) := by have := enH.out; omega
              by_cases r2 : e < d
              · have r2I : (nn : Int) - (s : Int) < (d : Int) := by have := enH.out; omega
                have CC : Hid (Calls Tryz.prog 159 #[.slice (some ⟨b, off, none⟩) n cap, .int .i64 (M : Int), .int .i64 ((nn : Int) - (s : Int)), .int .i64 (d : Int), .func (.func 85) #[] #[]] w2 fun e w' => e = .returned undef ∧ ∃ g, Pr M d g1 g ∧ Sd R M d g ∧ TR w' b off n (fs g) ∧ OB b w2 w') := by
                  have := IH.out M e d g1 w2 (by omega) r1 r2 hdn T1H.out (X2H.out g1 P1H.out) (Sd2H.out g1 P1H.out).1 (Sd2H.out g1 P1H.out).2
                  rw [enH.out] at this; exact this
                go_wp2_with fail
                refine Calls.mono CC.out ?_
                rintro e' w3 ⟨rfl, g2, P2, S2, T2, O2⟩
                have T2H : Hid _ := T2
                have P2H : Hid (Pr M d g1 g2) := P2
                have S2H : Hid (Sd R M d g2) := S2
                clear T2 P2 S2 CC
                go_wp2_with fail
                all_goals (first | go_end0 | (simp only [Exit.inBlock, Exit.then]; refine bodyPost_ret (results_none rfl _ _ _) rfl ?_) | refine bodyPost_ret (results_none rfl _ _ _) rfl ?_)
                all_goals exact ⟨rfl, g2, (P0H.out.trans (halves_ok hM1 hM2 HVH.out P1H.out S1H.out P2H.out S2H.out).2), (halves_ok hM1 hM2 HVH.out P1H.out S1H.out P2H.out S2H.out).1, T2H.out, O1H.out.trans O2⟩
              · have r2I : ¬ (nn : Int) - (s : Int) < (d : Int) := by have := enH.out; omega
                have S2H : Hid (Sd R M d g1) := by
                  have ee : e = d := by omega
                  have := (Sd2H.out g1 P1H.out).1
                  rw [ee] at this; exact this
                go_wp2_with fail
                all_goals (first | go_end0 | (simp only [Exit.inBlock, Exit.then]; refine bodyPost_ret (results_none rfl _ _ _) rfl ?_) | refine bodyPost_ret (results_none rfl _ _ _) rfl ?_)
                all_goals exact ⟨rfl, g1, (P0H.out.trans (halves_ok hM1 hM2 HVH.out P1H.out S1H.out (Pr.refl _ _ _) S2H.out).2), (halves_ok hM1 hM2 HVH.out P1H.out S1H.out (Pr.refl _ _ _) S2H.out).1, T1H.out, O1H.out⟩
            · have r1I : ¬ (M : Int) < (nn : Int) - (s : Int) := by have := enH.out; omega
              have S2H : Hid (Sd R M d g1) := by
                have ee : e = M := by omega
                have := (Sd2H.out g1 P1H.out).2
                rw [ee] at this; exact this
              go_wp2_with fail
              all_goals (first | go_end0 | (simp only [Exit.inBlock, Exit.then]; refine bodyPost_ret (results_none rfl _ _ _) rfl ?_) | refine bodyPost_ret (results_none rfl _ _ _) rfl ?_)
              all_goals exact ⟨rfl, g1, (P0H.out.trans (halves_ok hM1 hM2 HVH.out P1H.out S1H.out (Pr.refl _ _ _) S2H.out).2), (halves_ok hM1 hM2 HVH.out P1H.out S1H.out (Pr.refl _ _ _) S2H.out).1, T1H.out, O1H.out⟩
          · have l2I : ¬ (s : Int) < (M : Int) := by omega
            obtain ⟨g1, hg1⟩ : ∃ g1, g1 = g0 := ⟨_, rfl⟩
            have T1H : Hid (TR wr b off n (fs g1)) := by rw [hg1]; exact T0H
            have P1H : Hid (Pr a M g0 g1) := by rw [hg1]; exact Pr.refl _ _ _
            have S1H : Hid (Sd R a M g1) := by
              have ee : s = M := by omega
              have := MOH.out.1.1
              rw [hg1]; rw [ee] at this; exact this
            have O1H : Hid (OB b w wr) := O0H
            clear hg1
            by_cases r1 : M < e
            · have r1I : (M : Int) < (nn : Int) - (s : Int) := by have := enH.out; omega
              by_cases r2 : e < d
              · have r2I : (nn : Int) - (s : Int) < (d : Int) := by have := enH.out; omega
                have CC : Hid (Calls Tryz.prog 159 #[.slice (some ⟨b, off, none⟩) n cap, .int .i64 (M : Int), .int .i64 ((nn : Int) - (s : Int)), .int .i64 (d : Int), .func (.func 85) #[] #[]] wr fun e w' => e = .returned undef ∧ ∃ g, Pr M d g1 g ∧ Sd R M d g ∧ TR w' b off n (fs g) ∧ OB b wr w') := by
                  have := IH.out M e d g1 wr (by omega) r1 r2 hdn T1H.out (X2H.out g1 P1H.out) (Sd2H.out g1 P1H.out).1 (Sd2H.out g1 P1H.out).2
                  rw [enH.out] at this; exact this
                go_wp2_with fail
                refine Calls.mono CC.out ?_
                rintro e' w3 ⟨rfl, g2, P2, S2, T2, O2⟩
                have T2H : Hid _ := T2
                have P2H : Hid (Pr M d g1 g2) := P2
                have S2H : Hid (Sd R M d g2) := S2
                clear T2 P2 S2 CC
                go_wp2_with fail
                all_goals (first | go_end0 | (simp only [Exit.inBlock, Exit.then]; refine bodyPost_ret (results_none rfl _ _ _) rfl ?_) | refine bodyPost_ret (results_none rfl _ _ _) rfl ?_)
                all_goals exact ⟨rfl, g2, (P0H.out.trans (halves_ok hM1 hM2 HVH.out P1H.out S1H.out P2H.out S2H.out).2), (halves_ok hM1 hM2 HVH.out P1H.out S1H.out P2H.out S2H.out).1, T2H.out, O1H.out.trans O2⟩
              · have r2I : ¬ (nn : Int) - (s : Int) < (d : Int) := by have := enH.out; omega
                have S2H : Hid (Sd R M d g1) := by
                  have ee : e = d := by omega
                  have := (Sd2H.out g1 P1H.out).1
                  rw [ee] at this; exact this
                go_wp2_with fail
                all_goals (first | go_end0 | (simp only [Exit.inBlock, Exit.then]; refine bodyPost_ret (results_none rfl _ _ _) rfl ?_) | refine bodyPost_ret (results_none rfl _ _ _) rfl ?_)
                all_goals exact ⟨rfl, g1, (P0H.out.trans (halves_ok hM1 hM2 HVH.out P1H.out S1H.out (Pr.refl _ _ _) S2H.out).2), (halves_ok hM1 hM2 HVH.out P1H.out S1H.out (Pr.refl _ _ _) S2H.out).1, T1H.out, O1H.out⟩
            · have r1I : ¬ (M : Int) < (nn : Int) - (s : Int) := by have := enH.out; omega
              have S2H : Hid (Sd R M d g1) := by
                have ee : e = M := by omega
                have := (Sd2H.out g1 P1H.out).2
                rw [ee] at this; exact this
              go_wp2_with fail
              all_goals (first | go_end0 | (simp only [Exit.inBlock, Exit.then]; refine bodyPost_ret (results_none rfl _ _ _) rfl ?_) | refine bodyPost_ret (results_none rfl _ _ _) rfl ?_)
              all_goals exact ⟨rfl, g1, (P0H.out.trans (halves_ok hM1 hM2 HVH.out P1H.out S1H.out (Pr.refl _ _ _) S2H.out).2), (halves_ok hM1 hM2 HVH.out P1H.out S1H.out (Pr.refl _ _ _) S2H.out).1, T1H.out, O1H.out⟩
        · have l1I : ¬ (a : Int) < (s : Int) := by omega
          obtain ⟨g1, hg1⟩ : ∃ g1, g1 = g0 := ⟨_, rfl⟩
          have T1H : Hid (TR wr b off n (fs g1)) := by rw [hg1]; exact T0H
          have P1H : Hid (Pr a M g0 g1) := by rw [hg1]; exact Pr.refl _ _ _
          have S1H : Hid (Sd R a M g1) := by
            have ee : s = a := by omega
            have := MOH.out.1.2.1
            rw [hg1]; rw [ee] at this; exact this
          have O1H : Hid (OB b w wr) := O0H
          clear hg1
          by_cases r1 : M < e
          · have r1I : (M : Int) < (nn : Int) - (s : Int) := by have := enH.out; omega
            by_cases r2 : e < d
            · have r2I : (nn : Int) - (s : Int) < (d : Int) := by have := enH.out; omega
              have CC : Hid (Calls Tryz.prog 159 #[.slice (some ⟨b, off, none⟩) n cap, .int .i64 (M : Int), .int .i64 ((nn : Int) - (s : Int)), .int .i64 (d : Int), .func (.func 85) #[] #[]] wr fun e w' => e = .returned undef ∧ ∃ g, Pr M d g1 g ∧ Sd R M d g ∧ TR w' b off n (fs g) ∧ OB b wr w') := by
                have := IH.out M e d g1 wr (by omega) r1 r2 hdn T1H.out (X2H.out g1 P1H.out) (Sd2H.out g1 P1H.out).1 (Sd2H.out g1 P1H.out).2
                rw [enH.out] at this; exact this
              go_wp2_with fail
              refine Calls.mono CC.out ?_
              rintro e' w3 ⟨rfl, g2, P2, S2, T2, O2⟩
              have T2H : Hid _ := T2
              have P2H : Hid (Pr M d g1 g2) := P2
              have S2H : Hid (Sd R M d g2) := S2
              clear T2 P2 S2 CC
              go_wp2_with fail
              all_goals (first | go_end0 | (simp only [Exit.inBlock, Exit.then]; refine bodyPost_ret (results_none rfl _ _ _) rfl ?_) | refine bodyPost_ret (results_none rfl _ _ _) rfl ?_)
              all_goals exact ⟨rfl, g2, (P0H.out.trans (halves_ok hM1 hM2 HVH.out P1H.out S1H.out P2H.out S2H.out).2), (halves_ok hM1 hM2 HVH.out P1H.out S1H.out P2H.out S2H.out).1, T2H.out, O1H.out.trans O2⟩
            · have r2I : ¬ (nn : Int) - (s : Int) < (d : Int) := by have := enH.out; omega
              have S2H : Hid (Sd R M d g1) := by
                have ee : e = d := by omega
                have := (Sd2H.out g1 P1H.out).1
                rw [ee] at this; exact this
              go_wp2_with fail
              all_goals (first | go_end0 | (simp only [Exit.inBlock, Exit.then]; refine bodyPost_ret (results_none rfl _ _ _) rfl ?_) | refine bodyPost_ret (results_none rfl _ _ _) rfl ?_)
              all_goals exact ⟨rfl, g1, (P0H.out.trans (halves_ok hM1 hM2 HVH.out P1H.out S1H.out (Pr.refl _ _ _) S2H.out).2), (halves_ok hM1 hM2 HVH.out P1H.out S1H.out (Pr.refl _ _ _) S2H.out).1, T1H.out, O1H.out⟩
          · have r1I : ¬ (M : Int) < (nn : Int) - (s : Int) := by have := enH.out; omega
            have S2H : Hid (Sd R M d g1) := by
              have ee : e = M := by omega
              have := (Sd2H.out g1 P1H.out).2
              rw [ee] at this; exact this
            go_wp2_with fail
            all_goals (first | go_end0 | (simp only [Exit.inBlock, Exit.then]; refine bodyPost_ret (results_none rfl _ _ _) rfl ?_) | refine bodyPost_ret (results_none rfl _ _ _) rfl ?_)
            all_goals exact ⟨rfl, g1, (P0H.out.trans (halves_ok hM1 hM2 HVH.out P1H.out S1H.out (Pr.refl _ _ _) S2H.out).2), (halves_ok hM1 hM2 HVH.out P1H.out S1H.out (Pr.refl _ _ _) S2H.out).1, T1H.out, O1H.out⟩
end Go.Proofs.YtbojljmacheccaaGreatDoor.So

namespace Go.Proofs.YtbojljmacheccaaGreatDoor.So
open Go.RowKit
set_option linter.unusedVariables false
set_option linter.unusedSimpArgs false
set_option maxRecDepth 100000 in
set_option maxHeartbeats 16000000 in
theorem sym_low (R : En → En → Prop) (c : Tg → Tg → Int) (hC : CmpA 85 c) (tr : ∀ x y z, R x y → R y z → R x z) (b off n cap : Nat) (hn : n ≤ 4611686018427387904) (N : Nat)
    (ih : ∀ (a m d : Nat) (f : Nat → En) (w : World), d - a ≤ N → a < m → m < d → d ≤ n → TR w b off n (fs f) → Xs R (ltE c) a m d f → Sd R a m f → Sd R m d f → Calls Tryz.prog 159 #[.slice (some ⟨b, off, none⟩) n cap, .int .i64 (a : Int), .int .i64 (m : Int), .int .i64 (d : Int), .func (.func 85) #[] #[]] w fun e w' => e = .returned undef ∧ ∃ g, Pr a d f g ∧ Sd R a d g ∧ TR w' b off n (fs g) ∧ OB b w w')
    (a m d : Nat) (f : Nat → En) (w : World) (hN : d - a ≤ N + 1) (ham : a < m) (hmd : m < d) (hdn : d ≤ n) (h : TR w b off n (fs f)) (X : Xs R (ltE c) a m d f) (L : Sd R a m f) (Rr : Sd R m d f) (h1 : ¬ m = a + 1) (h2 : ¬ d = m + 1) (hgt : ¬ (a + d) / 2 < m) :
    Calls Tryz.prog 159 #[.slice (some ⟨b, off, none⟩) n cap, .int .i64 (a : Int), .int .i64 (m : Int), .int .i64 (d : Int), .func (.func 85) #[] #[]] w fun e w' => e = .returned undef ∧ ∃ g, Pr a d f g ∧ Sd R a d g ∧ TR w' b off n (fs g) ∧ OB b w w' := by
  have H0 : Hid (TR w b off n (fs f)) := h
  have HX : Hid (Xs R (ltE c) a m d f) := X
  have LH : Hid (Sd R a m f) := L
  have RH : Hid (Sd R m d f) := Rr
  have HC : Hid (CmpA 85 c) := hC
  have IH : Hid (∀ (a m d : Nat) (f : Nat → En) (w : World), d - a ≤ N → a < m → m < d → d ≤ n → TR w b off n (fs f) → Xs R (ltE c) a m d f → Sd R a m f → Sd R m d f → Calls Tryz.prog 159 #[.slice (some ⟨b, off, none⟩) n cap, .int .i64 (a : Int), .int .i64 (m : Int), .int .i64 (d : Int), .func (.func 85) #[] #[]] w fun e w' => e = .returned undef ∧ ∃ g, Pr a d f g ∧ Sd R a d g ∧ TR w' b off n (fs g) ∧ OB b w w') := ih
  have sr := s0_r0 ham hmd
  have y1 : IntKind.i64.wrap ((m : Int) - (a : Int)) = (m : Int) - (a : Int) := IntWalk.i64_in _ (by omega)
  have y2 : (((m : Int) - (a : Int)) == 1) = false := by rw [beq_eq_false_iff_ne]; omega
  have y3 : IntKind.i64.wrap ((d : Int) - (m : Int)) = (d : Int) - (m : Int) := IntWalk.i64_in _ (by omega)
  have y4 : (((d : Int) - (m : Int)) == 1) = false := by rw [beq_eq_false_iff_ne]; omega
  have v1 : IntKind.i64.wrap ((a : Int) + (d : Int)) = (a : Int) + (d : Int) := IntWalk.i64_in _ (by omega)
  have v2 : IntKind.u64.wrap ((a : Int) + (d : Int)) = (a : Int) + (d : Int) := by rw [IntKind.wrap_u64]; omega
  have v3 : IntKind.i64.wrap (((a : Int) + (d : Int)) / 2 + (m : Int)) = ((a : Int) + (d : Int)) / 2 + (m : Int) := IntWalk.i64_in _ (by omega)
  have v4 : IntKind.i64.wrap (((a : Int) + (d : Int)) / 2 + (m : Int) - 1) = ((a : Int) + (d : Int)) / 2 + (m : Int) - 1 := IntWalk.i64_in _ (by omega)
  have v5 : IntKind.i64.wrap (((a : Int) + (d : Int)) / 2 + (m : Int) - (d : Int)) = ((a : Int) + (d : Int)) / 2 + (m : Int) - (d : Int) := IntWalk.i64_in _ (by omega)
  have gI : ¬ ((a : Int) + (d : Int)) / 2 < (m : Int) := by omega
  obtain ⟨M, hM⟩ : ∃ M : Nat, M = (a + d) / 2 := ⟨_, rfl⟩
  obtain ⟨p, hp⟩ : ∃ p : Nat, p = M + m - 1 := ⟨_, rfl⟩
  obtain ⟨nn, hnn⟩ : ∃ nn : Nat, nn = M + m := ⟨_, rfl⟩
  have MIH : Hid (((a : Int) + (d : Int)) / 2 = (M : Int)) := by show _ = _; omega
  have pIH : Hid ((M : Int) + (m : Int) - 1 = (p : Int)) := by show _ = _; omega
  have nIH : Hid ((M : Int) + (m : Int) = (nn : Int)) := by show _ = _; omega
  have pNH : Hid ((a + d) / 2 + m - 1 = p) := by show _ = _; omega
  have MNH : Hid (M = (a + d) / 2) := hM
  have nNH : Hid (nn = M + m) := hnn
  have hM1 : a ≤ M := by omega
  have hM2 : M ≤ d := by omega
  have hM3 : M - a ≤ N := by omega
  have hM4 : d - M ≤ N := by omega
  have st1 : Hid ((a : Int) = ((s0 a m d : Nat) : Int)) := by show _ = _; unfold s0; rw [if_neg hgt]; try omega
  have st2 : Hid ((m : Int) = ((r0 a m d : Nat) : Int)) := by show _ = _; unfold r0; rw [if_neg hgt]; try omega
  clear h X L Rr hC ih hM hp hnn
  go_enter Tryz.func159, Tryz.ntmps159
  go_wp2_with fail
  rw [MIH.out]
  rw [pIH.out, nIH.out]
  go_loopw [20, 21] (fun vi vj wr => ∃ s r : Nat, vi = .int .i64 (s : Int) ∧ vj = .int .i64 (r : Int) ∧ s0 a m d ≤ s ∧ s ≤ r ∧ r ≤ r0 a m d ∧ (∀ k, s0 a m d ≤ k → k < s → R (f k) (f ((a + d) / 2 + m - 1 - k))) ∧ (∀ k, r ≤ k → k < r0 a m d → R (f ((a + d) / 2 + m - 1 - k)) (f k)) ∧ TR wr b off n (fs f) ∧ OB b w wr) (fun vi vj _ => (intOf vj).toNat - (intOf vi).toNat)
  case atStart => exact ⟨s0 a m d, r0 a m d, by rw [st1.out], by rw [st2.out], Nat.le_refl _, sr.1, Nat.le_refl _, fun k _ _ => by omega, fun k _ _ => by omega, H0.out, OB.refl _ _⟩
  case round =>
    clear H0
    obtain ⟨s, r, rfl, rfl, mi, ij, jd, lo, hi, hT, hO⟩ := hrel
    have hTH : Hid (TR wr b off n (fs f)) := hT
    have hOH : Hid (OB b w wr) := hO
    have loH : Hid (∀ k, s0 a m d ≤ k → k < s → R (f k) (f ((a + d) / 2 + m - 1 - k))) := lo
    have hiH : Hid (∀ k, r ≤ k → k < r0 a m d → R (f ((a + d) / 2 + m - 1 - k)) (f k)) := hi
    by_cases hij : s < r
    · have hijI : (s : Int) < (r : Int) := by omega
      have u1 : IntKind.i64.wrap ((s : Int) + (r : Int)) = (s : Int) + (r : Int) := IntWalk.i64_in _ (by omega)
      have u2 : IntKind.u64.wrap ((s : Int) + (r : Int)) = (s : Int) + (r : Int) := by rw [IntKind.wrap_u64]; omega
      obtain ⟨q, hq⟩ : ∃ q : Nat, q = (s + r) / 2 := ⟨_, rfl⟩
      have hqI : Hid (((s : Int) + (r : Int)) / 2 = (q : Int)) := by show _ = _; omega
      have qi : s ≤ q := by omega
      have qj : q < r := by omega
      clear hq
      have qin := s0_in ham hmd (show s0 a m d ≤ q by omega) (show q < r0 a m d by omega)
      have pq : (a + d) / 2 + m - 1 - q = p - q := by rw [pNH.out]
      rw [pq] at qin
      have qp : q ≤ p := by omega
      have q0 : (0 : Int) ≤ (q : Int) := by omega
      have q1 : (q : Int) < (n : Int) := by omega
      have t1 : ((p : Int) - (q : Int)).toNat = p - q := by omega
      have t2 : (0 : Int) ≤ (p : Int) - (q : Int) := by omega
      have t3 : (p : Int) - (q : Int) < (n : Int) := by omega
      have t4 : (q : Int) ≤ (p : Int) := by omega
      have t5 : IntKind.i64.wrap ((p : Int) - (q : Int)) = (p : Int) - (q : Int) := IntWalk.i64_in _ (by omega)
      obtain ⟨⟨a1, a2⟩, _, _⟩ := hT.2 (p - q) (by omega)
      obtain ⟨⟨b1, b2⟩, _, _⟩ := hT.2 q (by omega)
      have bl : b < wr.heap.size := hT.1
      have hx := HX.out q (p - q) qin.1 qin.2.1 qin.2.2.1 qin.2.2.2
      have CH := HC.out (fs f (p - q)) (fs f q)
      have CH : Hid _ := CH
      have ltv : ltE c (f (p - q)) (f q) = decide (c (fs f (p - q)) (fs f q) < 0) := rfl
      rw [ltv] at hx
      have hxH : Hid _ := hx
      have pqH : Hid ((a + d) / 2 + m - 1 - q = p - q) := pq
      generalize c (fs f (p - q)) (fs f q) = cv at CH hxH
      generalize fs f (p - q) = x at a1 a2 CH
      generalize fs f q = y at b1 b2 CH
      clear hT hO lo hi hx ltv pq qin
      by_cases hcc : cv < 0
      · have hcc2 : decide (cv < 0) = true := decide_eq_true hcc
        have hRH : Hid (R (f (p - q)) (f q)) := hxH.out.1 hcc2
        go_wp2_with fail
        rw [hqI.out]
        refine wp_region_noPanic ?_
        refine wp_region_held_drew (S := fun W => (W.cell? ⟨b, off + (p - q) * 2, none⟩ = some (.string x.1) ∧ W.cell? ⟨b, off + (p - q) * 2 + 1, none⟩ = some (.string x.2)) ∧ W.cell? ⟨b, off + q * 2, none⟩ = some (.string y.1) ∧ W.cell? ⟨b, off + q * 2 + 1, none⟩ = some (.string y.2)) (by kernel_rfl) ⟨⟨a1, a2⟩, b1, b2⟩ (fun hHeld => ?_)
        refine zT 0 (v := ?_) rfl ?_ ?_
        rotate_left 1
        · (intro w0 hSw; (try dsimp only at hSw); obtain ⟨⟨s1, s2⟩, s3, s4⟩ := hSw; go_simp; try with_reducible rfl)
        (try simp only [z1, z2, z3]); (try simp only [Act.put, z4, z5, z6])
        refine zT 1 (v := ?_) rfl ?_ ?_
        rotate_left 1
        · (intro w0 hSw; (try dsimp only at hSw); obtain ⟨⟨s1, s2⟩, s3, s4⟩ := hSw; go_simp; try with_reducible rfl)
        (try simp only [z1, z2, z3]); (try simp only [Act.put, z4, z5, z6])
        refine zT 2 (v := ?_) rfl ?_ ?_
        rotate_left 1
        · (intro w0 hSw; (try dsimp only at hSw); obtain ⟨⟨s1, s2⟩, s3, s4⟩ := hSw; go_simp; try with_reducible rfl)
        (try simp only [z1, z2, z3]); (try simp only [Act.put, z4, z5, z6])
        refine zT 3 (v := ?_) rfl ?_ ?_
        rotate_left 1
        · (intro w0 hSw; (try dsimp only at hSw); obtain ⟨⟨s1, s2⟩, s3, s4⟩ := hSw; go_simp; try with_reducible rfl)
        (try simp only [z1, z2, z3]); (try simp only [Act.put, z4, z5, z6])
        refine zT 4 (v := ?_) rfl ?_ ?_
        rotate_left 1
        · (intro w0 hSw; (try dsimp only at hSw); obtain ⟨⟨s1, s2⟩, s3, s4⟩ := hSw; go_simp; try with_reducible rfl)
        (try simp only [z1, z2, z3]); (try simp only [Act.put, z4, z5, z6])
        refine zT 5 (v := ?_) rfl ?_ ?_
        rotate_left 1
        · (intro w0 hSw; (try dsimp only at hSw); obtain ⟨⟨s1, s2⟩, s3, s4⟩ := hSw; go_simp; try with_reducible rfl)
        (try simp only [z1, z2, z3]); (try simp only [Act.put, z4, z5, z6])
        refine zT 6 (v := ?_) rfl ?_ ?_
        rotate_left 1
        · (intro w0 hSw; (try dsimp only at hSw); obtain ⟨⟨s1, s2⟩, s3, s4⟩ := hSw; go_simp; try with_reducible rfl)
        (try simp only [z1, z2, z3]); (try simp only [Act.put, z4, z5, z6])
        refine zT 7 (v := ?_) rfl ?_ ?_
        rotate_left 1
        · (intro w0 hSw; (try dsimp only at hSw); obtain ⟨⟨s1, s2⟩, s3, s4⟩ := hSw; go_simp; try with_reducible rfl)
        (try simp only [z1, z2, z3]); (try simp only [Act.put, z4, z5, z6])
        refine zT 8 (v := ?_) rfl ?_ ?_
        rotate_left 1
        · (intro w0 hSw; (try dsimp only at hSw); obtain ⟨⟨s1, s2⟩, s3, s4⟩ := hSw; go_simp; try with_reducible rfl)
        (try simp only [z1, z2, z3]); (try simp only [Act.put, z4, z5, z6])
        refine zT 9 (v := ?_) rfl ?_ ?_
        rotate_left 1
        · (intro w0 hSw; (try dsimp only at hSw); obtain ⟨⟨s1, s2⟩, s3, s4⟩ := hSw; go_simp; try with_reducible rfl)
        (try simp only [z1, z2, z3]); (try simp only [Act.put, z4, z5, z6])
        refine zT 10 (v := ?_) rfl ?_ ?_
        rotate_left 1
        · (intro w0 hSw; (try dsimp only at hSw); obtain ⟨⟨s1, s2⟩, s3, s4⟩ := hSw; go_simp; try with_reducible rfl)
        (try simp only [z1, z2, z3]); (try simp only [Act.put, z4, z5, z6])
        refine wpAnyH_ready (rs := [11]) (by kernel_rfl) (by simp) ?_
        refine AllReadyH.cons (o := _) rfl (fun K hK => ?_) AllReadyH.nil
        go_simp
        refine Calls.mono (CH.out _) ?_
        rintro e w' ⟨rfl, BB⟩
        try dsimp only
        refine hK _ _ ?_ (fun hHeld => ?_)
        · exact ⟨⟨by rw [BB.cell (p := ⟨b, off + (p - q) * 2, none⟩) bl]; exact a1, by rw [BB.cell (p := ⟨b, off + (p - q) * 2 + 1, none⟩) bl]; exact a2⟩, by rw [BB.cell (p := ⟨b, off + q * 2, none⟩) bl]; exact b1, by rw [BB.cell (p := ⟨b, off + q * 2 + 1, none⟩) bl]; exact b2⟩
        clear hK K
        (try simp only [z1, z2, z3]); (try simp only [Act.put, z4, z5, z6])
        refine zT 12 (v := ?_) rfl ?_ ?_
        rotate_left 1
        · (intro w0 hSw; (try dsimp only at hSw); obtain ⟨⟨s1, s2⟩, s3, s4⟩ := hSw; go_simp; try with_reducible rfl)
        (try simp only [z1, z2, z3]); (try simp only [Act.put, z4, z5, z6])
        refine zT 13 (v := ?_) rfl ?_ ?_
        rotate_left 1
        · (intro w0 hSw; (try dsimp only at hSw); obtain ⟨⟨s1, s2⟩, s3, s4⟩ := hSw; go_simp; try with_reducible rfl)
        (try simp only [z1, z2, z3]); (try simp only [Act.put, z4, z5, z6])
        refine wpAnyH_done (by kernel_rfl) ?_ _
        refine NoPanic.normal ?_
        have T2H : Hid (TR w' b off n (fs f)) := TR.below (show TR wr.drew b off n (fs f) from hTH.out) BB
        have O2 : Hid (OB b w w') := (show OB b w wr.drew from hOH.out.drew).trans (OB.below BB)
        clear a1 a2 b1 b2 BB
        go_wp2_with fail
        exact ⟨⟨s, q, rfl, by first | rfl | simp, mi, by omega, by omega, loH.out, find_hi tr ham hmd LH.out RH.out (by omega) (by omega) (by rw [pqH.out]; exact hRH.out), T2H.out, O2.out⟩, by simp [intOf]; omega⟩
      · have hcc2 : decide (cv < 0) = false := decide_eq_false hcc
        have hRH : Hid (R (f q) (f (p - q))) := hxH.out.2 hcc2
        go_wp2_with fail
        rw [hqI.out]
        refine wp_region_noPanic ?_
        refine wp_region_held_drew (S := fun W => (W.cell? ⟨b, off + (p - q) * 2, none⟩ = some (.string x.1) ∧ W.cell? ⟨b, off + (p - q) * 2 + 1, none⟩ = some (.string x.2)) ∧ W.cell? ⟨b, off + q * 2, none⟩ = some (.string y.1) ∧ W.cell? ⟨b, off + q * 2 + 1, none⟩ = some (.string y.2)) (by kernel_rfl) ⟨⟨a1, a2⟩, b1, b2⟩ (fun hHeld => ?_)
        refine zT 0 (v := ?_) rfl ?_ ?_
        rotate_left 1
        · (intro w0 hSw; (try dsimp only at hSw); obtain ⟨⟨s1, s2⟩, s3, s4⟩ := hSw; go_simp; try with_reducible rfl)
        (try simp only [z1, z2, z3]); (try simp only [Act.put, z4, z5, z6])
        refine zT 1 (v := ?_) rfl ?_ ?_
        rotate_left 1
        · (intro w0 hSw; (try dsimp only at hSw); obtain ⟨⟨s1, s2⟩, s3, s4⟩ := hSw; go_simp; try with_reducible rfl)
        (try simp only [z1, z2, z3]); (try simp only [Act.put, z4, z5, z6])
        refine zT 2 (v := ?_) rfl ?_ ?_
        rotate_left 1
        · (intro w0 hSw; (try dsimp only at hSw); obtain ⟨⟨s1, s2⟩, s3, s4⟩ := hSw; go_simp; try with_reducible rfl)
        (try simp only [z1, z2, z3]); (try simp only [Act.put, z4, z5, z6])
        refine zT 3 (v := ?_) rfl ?_ ?_
        rotate_left 1
        · (intro w0 hSw; (try dsimp only at hSw); obtain ⟨⟨s1, s2⟩, s3, s4⟩ := hSw; go_simp; try with_reducible rfl)
        (try simp only [z1, z2, z3]); (try simp only [Act.put, z4, z5, z6])
        refine zT 4 (v := ?_) rfl ?_ ?_
        rotate_left 1
        · (intro w0 hSw; (try dsimp only at hSw); obtain ⟨⟨s1, s2⟩, s3, s4⟩ := hSw; go_simp; try with_reducible rfl)
        (try simp only [z1, z2, z3]); (try simp only [Act.put, z4, z5, z6])
        refine zT 5 (v := ?_) rfl ?_ ?_
        rotate_left 1
        · (intro w0 hSw; (try dsimp only at hSw); obtain ⟨⟨s1, s2⟩, s3, s4⟩ := hSw; go_simp; try with_reducible rfl)
        (try simp only [z1, z2, z3]); (try simp only [Act.put, z4, z5, z6])
        refine zT 6 (v := ?_) rfl ?_ ?_
        rotate_left 1
        · (intro w0 hSw; (try dsimp only at hSw); obtain ⟨⟨s1, s2⟩, s3, s4⟩ := hSw; go_simp; try with_reducible rfl)
        (try simp only [z1, z2, z3]); (try simp only [Act.put, z4, z5, z6])
        refine zT 7 (v := ?_) rfl ?_ ?_
        rotate_left 1
        · (intro w0 hSw; (try dsimp only at hSw); obtain ⟨⟨s1, s2⟩, s3, s4⟩ := hSw; go_simp; try with_reducible rfl)
        (try simp only [z1, z2, z3]); (try simp only [Act.put, z4, z5, z6])
        refine zT 8 (v := ?_) rfl ?_ ?_
        rotate_left 1
        · (intro w0 hSw; (try dsimp only at hSw); obtain ⟨⟨s1, s2⟩, s3, s4⟩ := hSw; go_simp; try with_reducible rfl)
        (try simp only [z1, z2, z3]); (try simp only [Act.put, z4, z5, z6])
        refine zT 9 (v := ?_) rfl ?_ ?_
        rotate_left 1
        · (intro w0 hSw; (try dsimp only at hSw); obtain ⟨⟨s1, s2⟩, s3, s4⟩ := hSw; go_simp; try with_reducible rfl)
        (try simp only [z1, z2, z3]); (try simp only [Act.put, z4, z5, z6])
        refine zT 10 (v := ?_) rfl ?_ ?_
        rotate_left 1
        · (intro w0 hSw; (try dsimp only at hSw); obtain ⟨⟨s1, s2⟩, s3, s4⟩ := hSw; go_simp; try with_reducible rfl)
        (try simp only [z1, z2, z3]); (try simp only [Act.put, z4, z5, z6])
        refine wpAnyH_ready (rs := [11]) (by kernel_rfl) (by simp) ?_
        refine AllReadyH.cons (o := _) rfl (fun K hK => ?_) AllReadyH.nil
        go_simp
        refine Calls.mono (CH.out _) ?_
        rintro e w' ⟨rfl, BB⟩
        try dsimp only
        refine hK _ _ ?_ (fun hHeld => ?_)
        · exact ⟨⟨by rw [BB.cell (p := ⟨b, off + (p - q) * 2, none⟩) bl]; exact a1, by rw [BB.cell (p := ⟨b, off + (p - q) * 2 + 1, none⟩) bl]; exact a2⟩, by rw [BB.cell (p := ⟨b, off + q * 2, none⟩) bl]; exact b1, by rw [BB.cell (p := ⟨b, off + q * 2 + 1, none⟩) bl]; exact b2⟩
        clear hK K
        (try simp only [z1, z2, z3]); (try simp only [Act.put, z4, z5, z6])
        refine zT 12 (v := ?_) rfl ?_ ?_
        rotate_left 1
        · (intro w0 hSw; (try dsimp only at hSw); obtain ⟨⟨s1, s2⟩, s3, s4⟩ := hSw; go_simp; try with_reducible rfl)
        (try simp only [z1, z2, z3]); (try simp only [Act.put, z4, z5, z6])
        refine zT 13 (v := ?_) rfl ?_ ?_
        rotate_left 1
        · (intro w0 hSw; (try dsimp only at hSw); obtain ⟨⟨s1, s2⟩, s3, s4⟩ := hSw; go_simp; try with_reducible rfl)
        (try simp only [z1, z2, z3]); (try simp only [Act.put, z4, z5, z6])
        refine wpAnyH_done (by kernel_rfl) ?_ _
        refine NoPanic.normal ?_
        have T2H : Hid (TR w' b off n (fs f)) := TR.below (show TR wr.drew b off n (fs f) from hTH.out) BB
        have O2 : Hid (OB b w w') := (show OB b w wr.drew from hOH.out.drew).trans (OB.below BB)
        have qw : IntKind.i64.wrap ((q : Int) + 1) = ((q + 1 : Nat) : Int) := IntWalk.i64_in _ (by omega)
        clear a1 a2 b1 b2 BB
        go_wp2_with fail
        exact ⟨⟨q + 1, r, by first | rfl | simp, rfl, by omega, by omega, jd, fun k k1 k2 => find_lo tr ham hmd LH.out RH.out (show s0 a m d ≤ q by omega) (by omega) (by rw [pqH.out]; exact hRH.out) k k1 (by omega), hiH.out, T2H.out, O2.out⟩, by simp [intOf]; omega⟩
    · have hije : s = r := by omega
      subst hije
      clear hij
      have hijI : ¬ (s : Int) < (s : Int) := by omega
      have sq := s0_end ham hmd mi jd
      have MO := mid_ok tr ham hmd LH.out RH.out HX.out mi jd lo hi
      rw [← MNH.out] at MO sq
      obtain ⟨e, he⟩ : ∃ e, e = M + m - s := ⟨_, rfl⟩
      rw [← he] at MO sq
      obtain ⟨g0, hg0⟩ : ∃ g0, g0 = rot f s m e := ⟨_, rfl⟩
      rw [← hg0] at MO
      have enH : Hid ((e : Int) = (nn : Int) - (s : Int)) := by show _ = _; have := nNH.out; omega
      have hg0H : Hid (g0 = rot f s m e) := hg0
      have P0H : Hid (Pr a d f g0) := by rw [hg0]; exact (rot_pr f sq.2.1 sq.2.2.2.2.1).wide sq.1 sq.2.2.2.2.2
      have HVH : Hid (∀ i j, a ≤ i → i < M → M ≤ j → j < d → R (g0 i) (g0 j)) := MO.2.2
      have Sd2H : Hid (∀ g1, Pr a M g0 g1 → Sd R M e g1 ∧ Sd R e d g1) := fun g1 P => by
        constructor
        · intro i j x y z; rw [P.out (k := i) (by omega), P.out (k := j) (by omega)]; exact MO.2.1.1 i j x y z
        · intro i j x y z; rw [P.out (k := i) (by omega), P.out (k := j) (by omega)]; exact MO.2.1.2.1 i j x y z
      have X2H : Hid (∀ g1, Pr a M g0 g1 → Xs R (ltE c) M e d g1) := fun g1 P i j x y z v => by
        rw [P.out (k := i) (by omega), P.out (k := j) (by omega)]; exact MO.2.1.2.2 i j x y z v
      have MOH : Hid ((Sd R a s g0 ∧ Sd R s M g0 ∧ Xs R (ltE c) a s M g0) ∧ True) := ⟨MO.1, trivial⟩
      have es : IntKind.i64.wrap ((nn : Int) - (s : Int)) = (nn : Int) - (s : Int) := IntWalk.i64_in _ (by have := enH.out; omega)
      obtain ⟨k1, k2, k3, k4, k5, k6⟩ := sq
      clear MO hT hO lo hi hg0 he
      by_cases c1 : s < m
      · have c1I : (s : Int) < (m : Int) := by omega
        by_cases c2 : m < e
        · have c2I : (m : Int) < (nn : Int) - (s : Int) := by have := enH.out; omega
          have CC : Hid (Calls Tryz.prog 186 #[.slice (some ⟨b, off, none⟩) n cap, .int .i64 (s : Int), .int .i64 (m : Int), .int .i64 ((nn : Int) - (s : Int)), .func (.func 85) #[] #[]] wr fun e w' => e = .returned undef ∧ TR w' b off n (fs g0) ∧ OB b wr w') := by
            have := rotate_any b off n cap (fs f) s m e (.func (.func 85) #[] #[]) wr hTH.out c1 c2 (by omega) hn
            rw [enH.out, ← fs_rot, ← hg0H.out] at this; exact this
          go_wp2_with fail
          refine Calls.mono CC.out ?_
          rintro e' w1 ⟨rfl, T0, O0⟩
          have T0H : Hid (TR w1 b off n (fs g0)) := T0
          have O0H : Hid (OB b w w1) := hOH.out.trans O0
          clear T0 O0 CC
          by_cases l1 : a < s
          · have l1I : (a : Int) < (s : Int) := by omega
            by_cases l2 : s < M
            · have l2I : (s : Int) < (M : Int) := by omega
              have CC : Hid (Calls Tryz.prog 159 #[.slice (some ⟨b, off, none⟩) n cap, .int .i64 (a : Int), .int .i64 (s : Int), .int .i64 (M : Int), .func (.func 85) #[] #[]] w1 fun e w' => e = .returned undef ∧ ∃ g, Pr a M g0 g ∧ Sd R a M g ∧ TR w' b off n (fs g) ∧ OB b w1 w') :=
                IH.out a s M g0 w1 (by omega) l1 l2 (by omega) T0H.out MOH.out.1.2.2 MOH.out.1.1 MOH.out.1.2.1
              go_wp2_with fail
              refine Calls.mono CC.out ?_
              rintro e' w2 ⟨rfl, g1, P1, S1, T1, O1⟩
              have T1H : Hid (TR w2 b off n (fs g1)) := T1
              have P1H : Hid (Pr a M g0 g1) := P1
              have S1H : Hid (Sd R a M g1) := S1
              have O1H : Hid (OB b w w2) := O0H.out.trans O1
              clear T1 P1 S1 CC O1
              by_cases r1 : M < e
              · have r1I : (M : Int) < (nn : Int) - (s : Int) := by have := enH.out; omega
                by_cases r2 : e < d
                · have r2I : (nn : Int) - (s : Int) < (d : Int) := by have := enH.out; omega
                  have CC : Hid (Calls Tryz.prog 159 #[.slice (some ⟨b, off, none⟩) n cap, .int .i64 (M : Int), .int .i64 ((nn : Int) - (s : Int)), .int .i64 (d : Int), .func (.func 85) #[] #[]] w2 fun e w' => e = .returned undef ∧ ∃ g, Pr M d g1 g ∧ Sd R M d g ∧ TR w' b off n (fs g) ∧ OB b w2 w') := by
                    have := IH.out M e d g1 w2 (by omega) r1 r2 hdn T1H.out (X2H.out g1 P1H.out) (Sd2H.out g1 P1H.out).1 (Sd2H.out g1 P1H.out).2
                    rw [enH.out] at this; exact this
                  go_wp2_with fail
                  refine Calls.mono CC.out ?_
                  rintro e' w3 ⟨rfl, g2, P2, S2, T2, O2⟩
                  have T2H : Hid _ := T2
                  have P2H : Hid (Pr M d g1 g2) := P2
                  have S2H : Hid (Sd R M d g2) := S2
                  clear T2 P2 S2 CC
                  go_wp2_with fail
                  all_goals (first | go_end0 | (simp only [Exit.inBlock, Exit.then]; refine bodyPost_ret (results_none rfl _ _ _) rfl ?_) | refine bodyPost_ret (results_none rfl _ _ _) rfl ?_)
                  all_goals exact ⟨rfl, g2, (P0H.out.trans (halves_ok hM1 hM2 HVH.out P1H.out S1H.out P2H.out S2H.out).2), (halves_ok hM1 hM2 HVH.out P1H.out S1H.out P2H.out S2H.out).1, T2H.out, O1H.out.trans O2⟩
                · have r2I : ¬ (nn : Int) - (s : Int) < (d : Int) := by have := enH.out; omega
                  have S2H : Hid (Sd R M d g1) := by
                    have ee : e = d := by omega
                    have := (Sd2H.out g1 P1H.out).1
                    rw [ee] at this; exact this
                  go_wp2_with fail
                  all_goals (first | go_end0 | (simp only [Exit.inBlock, Exit.then]; refine bodyPost_ret (results_none rfl _ _ _) rfl ?_) | refine bodyPost_ret (results_none rfl _ _ _) rfl ?_)
                  all_goals exact ⟨rfl, g1, (P0H.out.trans (halves_ok hM1 hM2 HVH.out P1H.out S1H.out (Pr.refl _ _ _) S2H.out).2), (halves_ok hM1 hM2 HVH.out P1H.out S1H.out (Pr.refl _ _ _) S2H.out).1, T1H.out, O1H.out⟩
              · have r1I : ¬ (M : Int) < (nn : Int) - (s : Int) := by have := enH.out; omega
                have S2H : Hid (Sd R M d g1) := by
                  have ee : e = M := by omega
                  have := (Sd2H.out g1 P1H.out).2
                  rw [ee] at this; exact this
                go_wp2_with fail
                all_goals (first | go_end0 | (simp only [Exit.inBlock, Exit.then]; refine bodyPost_ret (results_none rfl _ _ _) rfl ?_) | refine bodyPost_ret (results_none rfl _ _ _) rfl ?_)
                all_goals exact ⟨rfl, g1, (P0H.out.trans (halves_ok hM1 hM2 HVH.out P1H.out S1H.out (Pr.refl _ _ _) S2H.out).2), (halves_ok hM1 hM2 HVH.out P1H.out S1H.out (Pr.refl _ _ _) S2H.out).1, T1H.out, O1H.out⟩
            · have l2I : ¬ (s : Int) < (M : Int) := by omega
              obtain ⟨g1, hg1⟩ : ∃ g1, g1 = g0 := ⟨_, rfl⟩
              have T1H : Hid (TR w1 b off n (fs g1)) := by rw [hg1]; exact T0H
              have P1H : Hid (Pr a M g0 g1) := by rw [hg1]; exact Pr.refl _ _ _
              have S1H : Hid (Sd R a M g1) := by
                have ee : s = M := by omega
                have := MOH.out.1.1
                rw [hg1]; rw [ee] at this; exact this
              have O1H : Hid (OB b w w1) := O0H
              clear hg1
              by_cases r1 : M < e
              · have r1I : (M : Int) < (nn : Int) - (s : Int) := by have := enH.out; omega
                by_cases r2 : e < d
                · have r2I : (nn : Int) - (s : Int) < (d : Int) := by have := enH.out; omega
                  have CC : Hid (Calls Tryz.prog 159 #[.slice (some ⟨b, off, none⟩) n cap, .int .i64 (M : Int), .int .i64 ((nn : Int) - (s : Int)), .int .i64 (d : Int), .func (.func 85) #[] #[]] w1 fun e w' => e = .returned undef ∧ ∃ g, Pr M d g1 g ∧ Sd R M d g ∧ TR w' b off n (fs g) ∧ OB b w1 w') := by
                    have := IH.out M e d g1 w1 (by omega) r1 r2 hdn T1H.out (X2H.out g1 P1H.out) (Sd2H.out g1 P1H.out).1 (Sd2H.out g1 P1H.out).2
                    rw [enH.out] at this; exact this
                  go_wp2_with fail
                  refine Calls.mono CC.out ?_
                  rintro e' w3 ⟨rfl, g2, P2, S2, T2, O2⟩
                  have T2H : Hid _ := T2
                  have P2H : Hid (Pr M d g1 g2) := P2
                  have S2H : Hid (Sd R M d g2) := S2
                  clear T2 P2 S2 CC
                  go_wp2_with fail
                  all_goals (first | go_end0 | (simp only [Exit.inBlock, Exit.then]; refine bodyPost_ret (results_none rfl _ _ _) rfl ?_) | refine bodyPost_ret (results_none rfl _ _ _) rfl ?_)
                  all_goals exact ⟨rfl, g2, (P0H.out.trans (halves_ok hM1 hM2 HVH.out P1H.out S1H.out P2H.out S2H.out).2), (halves_ok hM1 hM2 HVH.out P1H.out S1H.out P2H.out S2H.out).1, T2H.out, O1H.out.trans O2⟩
                · have r2I : ¬ (nn : Int) - (s : Int) < (d : Int) := by have := enH.out; omega
                  have S2H : Hid (Sd R M d g1) := by
                    have ee : e = d := by omega
                    have := (Sd2H.out g1 P1H.out).1
                    rw [ee] at this; exact this
                  go_wp2_with fail
                  all_goals (first | go_end0 | (simp only [Exit.inBlock, Exit.then]; refine bodyPost_ret (results_none rfl _ _ _) rfl ?_) | refine bodyPost_ret (results_none rfl _ _ _) rfl ?_)
                  all_goals exact ⟨rfl, g1, (P0H.out.trans (halves_ok hM1 hM2 HVH.out P1H.out S1H.out (Pr.refl _ _ _) S2H.out).2), (halves_ok hM1 hM2 HVH.out P1H.out S1H.out (Pr.refl _ _ _) S2H.out).1, T1H.out, O1H.out⟩
              · have r1I : ¬ (M : Int) < (nn : Int) - (s : Int) := by have := enH.out; omega
                have S2H : Hid (Sd R M d g1) := by
                  have ee : e = M := by omega
                  have := (Sd2H.out g1 P1H.out).2
                  rw [ee] at this; exact this
                go_wp2_with fail
                all_goals (first | go_end0 | (simp only [Exit.inBlock, Exit.then]; refine bodyPost_ret (results_none rfl _ _ _) rfl ?_) | refine bodyPost_ret (results_none rfl _ _ _) rfl ?_)
                all_goals exact ⟨rfl, g1, (P0H.out.trans (halves_ok hM1 hM2 HVH.out P1H.out S1H.out (Pr.refl _ _ _) S2H.out).2), (halves_ok hM1 hM2 HVH.out P1H.out S1H.out (Pr.refl _ _ _) S2H.out).1, T1H.out, O1H.out⟩
          · have l1I : ¬ (a : Int) < (s : Int) := by omega
            obtain ⟨g1, hg1⟩ : ∃ g1, g1 = g0 := ⟨_, rfl⟩
            have T1H : Hid (TR w1 b off n (fs g1)) := by rw [hg1]; exact T0H
            have P1H : Hid (Pr a M g0 g1) := by rw [hg1]; exact Pr.refl _ _ _
            have S1H : Hid (Sd R a M g1) := by
              have ee : s = a := by omega
              have := MOH.out.1.2.1
              rw [hg1]; rw [ee] at this; exact this
            have O1H : Hid (OB b w w1) := O0H
            clear hg1
            by_cases r1 : M < e
            · have r1I : (M : Int) < (nn : Int) - (s : Int) := by have := enH.out; omega
              by_cases r2 : e < d
              · have r2I : (nn : Int) - (s : Int) < (d : Int) := by have := enH.out; omega
                have CC : Hid (Calls Tryz.prog 159 #[.slice (some ⟨b, off, none⟩) n cap, .int .i64 (M : Int), .int .i64 ((nn : Int) - (s : Int)), .int .i64 (d : Int), .func (.func 85) #[] #[]] w1 fun e w' => e = .returned undef ∧ ∃ g, Pr M d g1 g ∧ Sd R M d g ∧ TR w' b off n (fs g) ∧ OB b w1 w') := by
                  have := IH.out M e d g1 w1 (by omega) r1 r2 hdn T1H.out (X2H.out g1 P1H.out) (Sd2H.out g1 P1H.out).1 (Sd2H.out g1 P1H.out).2
                  rw [enH.out] at this; exact this
                go_wp2_with fail
                refine Calls.mono CC.out ?_
                rintro e' w3 ⟨rfl, g2, P2, S2, T2, O2⟩
                have T2H : Hid _ := T2
                have P2H : Hid (Pr M d g1 g2) := P2
                have S2H : Hid (Sd R M d g2) := S2
                clear T2 P2 S2 CC
                go_wp2_with fail
                all_goals (first | go_end0 | (simp only [Exit.inBlock, Exit.then]; refine bodyPost_ret (results_none rfl _ _ _) rfl ?_) | refine bodyPost_ret (results_none rfl _ _ _) rfl ?_)
                all_goals exact ⟨rfl, g2, (P0H.out.trans (halves_ok hM1 hM2 HVH.out P1H.out S1H.out P2H.out S2H.out).2), (halves_ok hM1 hM2 HVH.out P1H.out S1H.out P2H.out S2H.out).1, T2H.out, O1H.out.trans O2⟩
              · have r2I : ¬ (nn : Int) - (s : Int) < (d : Int) := by have := enH.out; omega
                have S2H : Hid (Sd R M d g1) := by
                  have ee : e = d := by omega
                  have := (Sd2H.out g1 P1H.out).1
                  rw [ee] at this; exact this
                go_wp2_with fail
                all_goals (first | go_end0 | (simp only [Exit.inBlock, Exit.then]; refine bodyPost_ret (results_none rfl _ _ _) rfl ?_) | refine bodyPost_ret (results_none rfl _ _ _) rfl ?_)
                all_goals exact ⟨rfl, g1, (P0H.out.trans (halves_ok hM1 hM2 HVH.out P1H.out S1H.out (Pr.refl _ _ _) S2H.out).2), (halves_ok hM1 hM2 HVH.out P1H.out S1H.out (Pr.refl _ _ _) S2H.out).1, T1H.out, O1H.out⟩
            · have r1I : ¬ (M : Int) < (nn : Int) - (s : Int) := by have := enH.out; omega
              have S2H : Hid (Sd R M d g1) := by
                have ee : e = M := by omega
                have := (Sd2H.out g1 P1H.out).2
                rw [ee] at this; exact this
              go_wp2_with fail
              all_goals (first | go_end0 | (simp only [Exit.inBlock, Exit.then]; refine bodyPost_ret (results_none rfl _ _ _) rfl ?_) | refine bodyPost_ret (results_none rfl _ _ _) rfl ?_)
              all_goals exact ⟨rfl, g1, (P0H.out.trans (halves_ok hM1 hM2 HVH.out P1H.out S1H.out (Pr.refl _ _ _) S2H.out).2), (halves_ok hM1 hM2 HVH.out P1H.out S1H.out (Pr.refl _ _ _) S2H.out).1, T1H.out, O1H.out⟩
        · have c2I : ¬ (m : Int) < (nn : Int) - (s : Int) := by have := enH.out; omega
          have T0H : Hid (TR wr b off n (fs g0)) := by
            have : g0 = f := by rw [hg0H.out]; exact rot_none f (Or.inr (by omega)) (by omega) (by omega)
            rw [this]; exact hTH
          have O0H : Hid (OB b w wr) := hOH
          by_cases l1 : a < s
          · have l1I : (a : Int) < (s : Int) := by omega
            by_cases l2 : s < M
            · have l2I : (s : Int) < (M : Int) := by omega
              have CC : Hid (Calls Tryz.prog 159 #[.slice (some ⟨b, off, none⟩) n cap, .int .i64 (a : Int), .int .i64 (s : Int), .int .i64 (M : Int), .func (.func 85) #[] #[]] wr fun e w' => e = .returned undef ∧ ∃ g, Pr a M g0 g ∧ Sd R a M g ∧ TR w' b off n (fs g) ∧ OB b wr w') :=
                IH.out a s M g0 wr (by omega) l1 l2 (by omega) T0H.out MOH.out.1.2.2 MOH.out.1.1 MOH.out.1.2.1
              go_wp2_with fail
              refine Calls.mono CC.out ?_
              rintro e' w2 ⟨rfl, g1, P1, S1, T1, O1⟩
              have T1H : Hid (TR w2 b off n (fs g1)) := T1
              have P1H : Hid (Pr a M g0 g1) := P1
              have S1H : Hid (Sd R a M g1) := S1
              have O1H : Hid (OB b w w2) := O0H.out.trans O1
              clear T1 P1 S1 CC O1
              by_cases r1 : M < e
              · have r1I : (M : Int) < (nn : Int) - (s : Int) := by have := enH.out; omega
                by_cases r2 : e < d
                · have r2I : (nn : Int) - (s : Int) < (d : Int) := by have := enH.out; omega
                  have CC : Hid (Calls Tryz.prog 159 #[.slice (some ⟨b, off, none⟩) n cap, .int .i64 (M : Int), .int .i64 ((nn : Int) - (s : Int)), .int .i64 (d : Int), .func (.func 85) #[] #[]] w2 fun e w' => e = .returned undef ∧ ∃ g, Pr M d g1 g ∧ Sd R M d g ∧ TR w' b off n (fs g) ∧ OB b w2 w') := by
                    have := IH.out M e d g1 w2 (by omega) r1 r2 hdn T1H.out (X2H.out g1 P1H.out) (Sd2H.out g1 P1H.out).1 (Sd2H.out g1 P1H.out).2
                    rw [enH.out] at this; exact this
                  go_wp2_with fail
                  refine Calls.mono CC.out ?_
                  rintro e' w3 ⟨rfl, g2, P2, S2, T2, O2⟩
                  have T2H : Hid _ := T2
                  have P2H : Hid (Pr M d g1 g2) := P2
                  have S2H : Hid (Sd R M d g2) := S2
                  clear T2 P2 S2 CC
                  go_wp2_with fail
                  all_goals (first | go_end0 | (simp only [Exit.inBlock, Exit.then]; refine bodyPost_ret (results_none rfl _ _ _) rfl ?_) | refine bodyPost_ret (results_none rfl _ _ _) rfl ?_)
                  all_goals exact ⟨rfl, g2, (P0H.out.trans (halves_ok hM1 hM2 HVH.out P1H.out S1H.out P2H.out S2H.out).2), (halves_ok hM1 hM2 HVH.out P1H.out S1H.out P2H.out S2H.out).1, T2H.out, O1H.out.trans O2⟩
                · have r2I : ¬ (nn : Int) - (s : Int) < (d : Int) := by have := enH.out; omega
                  have S2H : Hid (Sd R M d g1) := by
                    have ee : e = d := by omega
                    have := (Sd2H.out g1 P1H.out).1
                    rw [ee] at this; exact this
                  go_wp2_with fail
                  all_goals (first | go_end0 | (simp only [Exit.inBlock, Exit.then]; refine bodyPost_ret (results_none rfl _ _ _) rfl ?_) | refine bodyPost_ret (results_none rfl _ _ _) rfl ?_)
                  all_goals exact ⟨rfl, g1, (P0H.out.trans (halves_ok hM1 hM2 HVH.out P1H.out S1H.out (Pr.refl _ _ _) S2H.out).2), (halves_ok hM1 hM2 HVH.out P1H.out S1H.out (Pr.refl _ _ _) S2H.out).1, T1H.out, O1H.out⟩
              · have r1I : ¬ (M : Int) < (nn : Int) - (s : Int) := by have := enH.out; omega
                have S2H : Hid (Sd R M d g1) := by
                  have ee : e = M := by omega
                  have := (Sd2H.out g1 P1H.out).2
                  rw [ee] at this; exact this
                go_wp2_with fail
                all_goals (first | go_end0 | (simp only [Exit.inBlock, Exit.then]; refine bodyPost_ret (results_none rfl _ _ _) rfl ?_) | refine bodyPost_ret (results_none rfl _ _ _) rfl ?_)
                all_goals exact ⟨rfl, g1, (P0H.out.trans (halves_ok hM1 hM2 HVH.out P1H.out S1H.out (Pr.refl _ _ _) S2H.out).2), (halves_ok hM1 hM2 HVH.out P1H.out S1H.out (Pr.refl _ _ _) S2H.out).1, T1H.out, O1H.out⟩
            · have l2I : ¬ (s : Int) < (M : Int) := by omega
              obtain ⟨g1, hg1⟩ : ∃ g1, g1 = g0 := ⟨_, rfl⟩
              have T1H : Hid (TR wr b off n (fs g1)) := by rw [hg1]; exact T0H
              have P1H : Hid (Pr a M g0 g1) := by rw [hg1]; exact Pr.refl _ _ _
              have S1H : Hid (Sd R a M g1) := by
                have ee : s = M := by omega
                have := MOH.out.1.1
                rw [hg1]; rw [ee] at this; exact this
              have O1H : Hid (OB b w wr) := O0H
              clear hg1
              by_cases r1 : M < e
              · have r1I : (M : Int) < (nn : Int) - (s : Int) := by have := enH.out; omega
                by_cases r2 : e < d
                · have r2I : (nn : Int) - (s : Int) < (d : Int) := by have := enH.out; omega
                  have CC : Hid (Calls Tryz.prog 159 #[.slice (some ⟨b, off, none⟩) n cap, .int .i64 (M : Int), .int .i64 ((nn : Int) - (s : Int)), .int .i64 (d : Int), .func (.func 85) #[] #[]] wr fun e w' => e = .returned undef ∧ ∃ g, Pr M d g1 g ∧ Sd R M d g ∧ TR w' b off n (fs g) ∧ OB b wr w') := by
                    have := IH.out M e d g1 wr (by omega) r1 r2 hdn T1H.out (X2H.out g1 P1H.out) (Sd2H.out g1 P1H.out).1 (Sd2H.out g1 P1H.out).2
                    rw [enH.out] at this; exact this
                  go_wp2_with fail
                  refine Calls.mono CC.out ?_
                  rintro e' w3 ⟨rfl, g2, P2, S2, T2, O2⟩
                  have T2H : Hid _ := T2
                  have P2H : Hid (Pr M d g1 g2) := P2
                  have S2H : Hid (Sd R M d g2) := S2
                  clear T2 P2 S2 CC
                  go_wp2_with fail
                  all_goals (first | go_end0 | (simp only [Exit.inBlock, Exit.then]; refine bodyPost_ret (results_none rfl _ _ _) rfl ?_) | refine bodyPost_ret (results_none rfl _ _ _) rfl ?_)
                  all_goals exact ⟨rfl, g2, (P0H.out.trans (halves_ok hM1 hM2 HVH.out P1H.out S1H.out P2H.out S2H.out).2), (halves_ok hM1 hM2 HVH.out P1H.out S1H.out P2H.out S2H.out).1, T2H.out, O1H.out.trans O2⟩
                · have r2I : ¬ (nn : Int) - (s : Int) < (d : Int) := by have := enH.out; omega
                  have S2H : Hid (Sd R M d g1) := by
                    have ee : e = d := by omega
                    have := (Sd2H.out g1 P1H.out).1
                    rw [ee] at this; exact this
                  go_wp2_with fail
                  all_goals (first | go_end0 | (simp only [Exit.inBlock, Exit.then]; refine bodyPost_ret (results_none rfl _ _ _) rfl ?_) | refine bodyPost_ret (results_none rfl _ _ _) rfl ?_)
                  all_goals exact ⟨rfl, g1, (P0H.out.trans (halves_ok hM1 hM2 HVH.out P1H.out S1H.out (Pr.refl _ _ _) S2H.out).2), (halves_ok hM1 hM2 HVH.out P1H.out S1H.out (Pr.refl _ _ _) S2H.out).1, T1H.out, O1H.out⟩
              · have r1I : ¬ (M : Int) < (nn : Int) - (s : Int) := by have := enH.out; omega
                have S2H : Hid (Sd R M d g1) := by
                  have ee : e = M := by omega
                  have := (Sd2H.out g1 P1H.out).2
                  rw [ee] at this; exact this
                go_wp2_with fail
                all_goals (first | go_end0 | (simp only [Exit.inBlock, Exit.then]; refine bodyPost_ret (results_none rfl _ _ _) rfl ?_) | refine bodyPost_ret (results_none rfl _ _ _) rfl ?_)
                all_goals exact ⟨rfl, g1, (P0H.out.trans (halves_ok hM1 hM2 HVH.out P1H.out S1H.out (Pr.refl _ _ _) S2H.out).2), (halves_ok hM1 hM2 HVH.out P1H.out S1H.out (Pr.refl _ _ _) S2H.out).1, T1H.out, O1H.out⟩
          · have l1I : ¬ (a : Int) < (s : Int) := by omega
            obtain ⟨g1, hg1⟩ : ∃ g1, g1 = g0 := ⟨_, rfl⟩
            have T1H : Hid (TR wr b off n (fs g1)) := by rw [hg1]; exact T0H
            have P1H : Hid (Pr a M g0 g1) := by rw [hg1]; exact Pr.refl _ _ _
            have S1H : Hid (Sd R a M g1) := by
              have ee : s = a := by omega
              have := MOH.out.1.2.1
              rw [hg1]; rw [ee] at this; exact this
            have O1H : Hid (OB b w wr) := O0H
            clear hg1
            by_cases r1 : M < e
            · have r1I : (M : Int) < (nn : Int) - (s : Int) := by have := enH.out; omega
              by_cases r2 : e < d
              · have r2I : (nn : Int) - (s : Int) < (d : Int) := by have := enH.out; omega
                have CC : Hid (Calls Tryz.prog 159 #[.slice (some ⟨b, off, none⟩) n cap, .int .i64 (M : Int), .int .i64 ((nn : Int) - (s : Int)), .int .i64 (d : Int), .func (.func 85) #[] #[]] wr fun e w' => e = .returned undef ∧ ∃ g, Pr M d g1 g ∧ Sd R M d g ∧ TR w' b off n (fs g) ∧ OB b wr w') := by
                  have := IH.out M e d g1 wr (by omega) r1 r2 hdn T1H.out (X2H.out g1 P1H.out) (Sd2H.out g1 P1H.out).1 (Sd2H.out g1 P1H.out).2
                  rw [enH.out] at this; exact this
                go_wp2_with fail
                refine Calls.mono CC.out ?_
                rintro e' w3 ⟨rfl, g2, P2, S2, T2, O2⟩
                have T2H : Hid _ := T2
                have P2H : Hid (Pr M d g1 g2) := P2
                have S2H : Hid (Sd R M d g2) := S2
                clear T2 P2 S2 CC
                go_wp2_with fail
                all_goals (first | go_end0 | (simp only [Exit.inBlock, Exit.then]; refine bodyPost_ret (results_none rfl _ _ _) rfl ?_) | refine bodyPost_ret (results_none rfl _ _ _) rfl ?_)
                all_goals exact ⟨rfl, g2, (P0H.out.trans (halves_ok hM1 hM2 HVH.out P1H.out S1H.out P2H.out S2H.out).2), (halves_ok hM1 hM2 HVH.out P1H.out S1H.out P2H.out S2H.out).1, T2H.out, O1H.out.trans O2⟩
              · have r2I : ¬ (nn : Int) - (s : Int) < (d : Int) := by have := enH.out; omega
                have S2H : Hid (Sd R M d g1) := by
                  have ee : e = d := by omega
                  have := (Sd2H.out g1 P1H.out).1
                  rw [ee] at this; exact this
                go_wp2_with fail
                all_goals (first | go_end0 | (simp only [Exit.inBlock, Exit.then]; refine bodyPost_ret (results_none rfl _ _ _) rfl ?_) | refine bodyPost_ret (results_none rfl _ _ _) rfl ?_)
                all_goals exact ⟨rfl, g1, (P0H.out.trans (halves_ok hM1 hM2 HVH.out P1H.out S1H.out (Pr.refl _ _ _) S2H.out).2), (halves_ok hM1 hM2 HVH.out P1H.out S1H.out (Pr.refl _ _ _) S2H.out).1, T1H.out, O1H.out⟩
            · have r1I : ¬ (M : Int) < (nn : Int) - (s : Int) := by have := enH.out; omega
              have S2H : Hid (Sd R M d g1) := by
                have ee : e = M := by omega
                have := (Sd2H.out g1 P1H.out).2
                rw [ee] at this; exact this
              go_wp2_with fail
              all_goals (first | go_end0 | (simp only [Exit.inBlock, Exit.then]; refine bodyPost_ret (results_none rfl _ _ _) rfl ?_) | refine bodyPost_ret (results_none rfl _ _ _) rfl ?_)
              all_goals exact ⟨rfl, g1, (P0H.out.trans (halves_ok hM1 hM2 HVH.out P1H.out S1H.out (Pr.refl _ _ _) S2H.out).2), (halves_ok hM1 hM2 HVH.out P1H.out S1H.out (Pr.refl _ _ _) S2H.out).1, T1H.out, O1H.out⟩
      · have c1I : ¬ (s : Int) < (m : Int) := by omega
        have T0H : Hid (TR wr b off n (fs g0)) := by
          have : g0 = f := by rw [hg0H.out]; exact rot_none f (Or.inl (by omega)) (by omega) (by omega)
          rw [this]; exact hTH
        have O0H : Hid (OB b w wr) := hOH
        by_cases l1 : a < s
        · have l1I : (a : Int) < (s : Int) := by omega
          by_cases l2 : s < M
          · have l2I : (s : Int) < (M : Int) := by omega
            have CC : Hid (Calls Tryz.prog 159 #[.slice (some ⟨b, off, none⟩) n cap, .int .i64 (a : Int), .int .i64 (s : Int), .int .i64 (M : Int), .func (.func 85) #[] #[]] wr fun e w' => e = .returned undef ∧ ∃ g, Pr a M g0 g ∧ Sd R a M g ∧ TR w' b off n (fs g) ∧ OB b wr w') :=
              IH.out a s M g0 wr (by omega) l1 l2 (by omega) T0H.out MOH.out.1.2.2 MOH.out.1.1 MOH.out.1.2.1
            go_wp2_with fail
            refine Calls.mono CC.out ?_
            rintro e' w2 ⟨rfl, g1, P1, S1, T1, O1⟩
            have T1H : Hid (TR w2 b off n (fs g1)) := T1
            have P1H : Hid (Pr a M g0 g1) := P1
            have S1H : Hid (Sd R a M g1) := S1
            have O1H : Hid (OB b w w2) := O0H.out.trans O1
            clear T1 P1 S1 CC O1
            by_cases r1 : M < e
            · have r1I : (M : Int) < (nn : Int) - (s : Int) := by have := enH.out; omega
              by_cases r2 : e < d
              · have r2I : (nn : Int) - (s : Int) < (d : Int) := by have := enH.out; omega
                have CC : Hid (Calls Tryz.prog 159 #[.slice (some ⟨b, off, none⟩) n cap, .int .i64 (M : Int), .int .i64 ((nn : Int) - (s : Int)), .int .i64 (d : Int), .func (.func 85) #[] #[]] w2 fun e w' => e = .returned undef ∧ ∃ g, Pr M d g1 g ∧ Sd R M d g ∧ TR w' b off n (fs g) ∧ OB b w2 w') := by
                  have := IH.out M e d g1 w2 (by omega) r1 r2 hdn T1H.out (X2H.out g1 P1H.out) (Sd2H.out g1 P1H.out).1 (Sd2H.out g1 P1H.out).2
                  rw [enH.out] at this; exact this
                go_wp2_with fail
                refine Calls.mono CC.out ?_
                rintro e' w3 ⟨rfl, g2, P2, S2, T2, O2⟩
                have T2H : Hid _ := T2
                have P2H : Hid (Pr M d g1 g2) := P2
                have S2H : Hid (Sd R M d g2) := S2
                clear T2 P2 S2 CC
                go_wp2_with fail
                all_goals (first | go_end0 | (simp only [Exit.inBlock, Exit.then]; refine bodyPost_ret (results_none rfl _ _ _) rfl ?_) | refine bodyPost_ret (results_none rfl _ _ _) rfl ?_)
                all_goals exact ⟨rfl, g2, (P0H.out.trans (halves_ok hM1 hM2 HVH.out P1H.out S1H.out P2H.out S2H.out).2), (halves_ok hM1 hM2 HVH.out P1H.out S1H.out P2H.out S2H.out).1, T2H.out, O1H.out.trans O2⟩
              · have r2I : ¬ (nn : Int) - (s : Int) < (d : Int) := by have := enH.out; omega
                have S2H : Hid (Sd R M d g1) := by
                  have ee : e = d := by omega
                  have := (Sd2H.out g1 P1H.out).1
                  rw [ee] at this; exact this
                go_wp2_with fail
                all_goals (first | go_end0 | (simp only [Exit.inBlock, Exit.then]; refine bodyPost_ret (results_none rfl _ _ _) rfl ?_) | refine bodyPost_ret (results_none rfl _ _ _) rfl ?_)
                all_goals exact ⟨rfl, g1, (P0H.out.trans (halves_ok hM1 hM2 HVH.out P1H.out S1H.out (Pr.refl _ _ _) S2H.out).2), (halves_ok hM1 hM2 HVH.out P1H.out S1H.out (Pr.refl _ _ _) S2H.out).1, T1H.out, O1H.out⟩
            · have r1I : ¬ (M : Int) < (nn : Int) - (s : Int) := by have := enH.out; omega
              have S2H : Hid (Sd R M d g1) := by
                have ee : e = M := by omega
                have := (Sd2H.out g1 P1H.out).2
                rw [ee] at this; exact this
              go_wp2_with fail
              all_goals (first | go_end0 | (simp only [Exit.inBlock, Exit.then]; refine bodyPost_ret (results_none rfl _ _ _) rfl ?_) | refine bodyPost_ret (results_none rfl _ _ _) rfl ?_)
              all_goals exact ⟨rfl, g1, (P0H.out.trans (halves_ok hM1 hM2 HVH.out P1H.out S1H.out (Pr.refl _ _ _) S2H.out).2), (halves_ok hM1 hM2 HVH.out P1H.out S1H.out (Pr.refl _ _ _) S2H.out).1, T1H.out, O1H.out⟩
          · have l2I : ¬ (s : Int) < (M : Int) := by omega
            obtain ⟨g1, hg1⟩ : ∃ g1, g1 = g0 := ⟨_, rfl⟩
            have T1H : Hid (TR wr b off n (fs g1)) := by rw [hg1]; exact T0H
            have P1H : Hid (Pr a M g0 g1) := by rw [hg1]; exact Pr.refl _ _ _
            have S1H : Hid (Sd R a M g1) := by
              have ee : s = M := by omega
              have := MOH.out.1.1
              rw [hg1]; rw [ee] at this; exact this
            have O1H : Hid (OB b w wr) := O0H
            clear hg1
            by_cases r1 : M < e
            · have r1I : (M : Int) < (nn : Int) - (s : Int) := by have := enH.out; omega
              by_cases r2 : e < d
              · have r2I : (nn : Int) - (s : Int) < (d : Int) := by have := enH.out; omega
                have CC : Hid (Calls Tryz.prog 159 #[.slice (some ⟨b, off, none⟩) n cap, .int .i64 (M : Int), .int .i64 ((nn : Int) - (s : Int)), .int .i64 (d : Int), .func (.func 85) #[] #[]] wr fun e w' => e = .returned undef ∧ ∃ g, Pr M d g1 g ∧ Sd R M d g ∧ TR w' b off n (fs g) ∧ OB b wr w') := by
                  have := IH.out M e d g1 wr (by omega) r1 r2 hdn T1H.out (X2H.out g1 P1H.out) (Sd2H.out g1 P1H.out).1 (Sd2H.out g1 P1H.out).2
                  rw [enH.out] at this; exact this
                go_wp2_with fail
                refine Calls.mono CC.out ?_
                rintro e' w3 ⟨rfl, g2, P2, S2, T2, O2⟩
                have T2H : Hid _ := T2
                have P2H : Hid (Pr M d g1 g2) := P2
                have S2H : Hid (Sd R M d g2) := S2
                clear T2 P2 S2 CC
                go_wp2_with fail
                all_goals (first | go_end0 | (simp only [Exit.inBlock, Exit.then]; refine bodyPost_ret (results_none rfl _ _ _) rfl ?_) | refine bodyPost_ret (results_none rfl _ _ _) rfl ?_)
                all_goals exact ⟨rfl, g2, (P0H.out.trans (halves_ok hM1 hM2 HVH.out P1H.out S1H.out P2H.out S2H.out).2), (halves_ok hM1 hM2 HVH.out P1H.out S1H.out P2H.out S2H.out).1, T2H.out, O1H.out.trans O2⟩
              · have r2I : ¬ (nn : Int) - (s : Int) < (d : Int) := by have := enH.out; omega
                have S2H : Hid (Sd R M d g1) := by
                  have ee : e = d := by omega
                  have := (Sd2H.out g1 P1H.out).1
                  rw [ee] at this; exact this
                go_wp2_with fail
                all_goals (first | go_end0 | (simp only [Exit.inBlock, Exit.then]; refine bodyPost_ret (results_none rfl _ _ _) rfl ?_) | refine bodyPost_ret (results_none rfl _ _ _) rfl ?_)
                all_goals exact ⟨rfl, g1, (P0H.out.trans (halves_ok hM1 hM2 HVH.out P1H.out S1H.out (Pr.refl _ _ _) S2H.out).2), (halves_ok hM1 hM2 HVH.out P1H.out S1H.out (Pr.refl _ _ _) S2H.out).1, T1H.out, O1H.out⟩
            · have r1I : ¬ (M : Int) < (nn : Int) - (s : Int) := by have := enH.out; omega
              have S2H : Hid (Sd R M d g1) := by
                have ee : e = M := by omega
                have := (Sd2H.out g1 P1H.out).2
                rw [ee] at this; exact this
              go_wp2_with fail
              all_goals (first | go_end0 | (simp only [Exit.inBlock, Exit.then]; refine bodyPost_ret (results_none rfl _ _ _) rfl ?_) | refine bodyPost_ret (results_none rfl _ _ _) rfl ?_)
              all_goals exact ⟨rfl, g1, (P0H.out.trans (halves_ok hM1 hM2 HVH.out P1H.out S1H.out (Pr.refl _ _ _) S2H.out).2), (halves_ok hM1 hM2 HVH.out P1H.out S1H.out (Pr.refl _ _ _) S2H.out).1, T1H.out, O1H.out⟩
        · have l1I : ¬ (a : Int) < (s : Int) := by omega
          obtain ⟨g1, hg1⟩ : ∃ g1, g1 = g0 := ⟨_, rfl⟩
          have T1H : Hid (TR wr b off n (fs g1)) := by rw [hg1]; exact T0H
          have P1H : Hid (Pr a M g0 g1) := by rw [hg1]; exact Pr.refl _ _ _
          have S1H : Hid (Sd R a M g1) := by
            have ee : s = a := by omega
            have := MOH.out.1.2.1
            rw [hg1]; rw [ee] at this; exact this
          have O1H : Hid (OB b w wr) := O0H
          clear hg1
          by_cases r1 : M < e
          · have r1I : (M : Int) < (nn : Int) - (s : Int) := by have := enH.out; omega
            by_cases r2 : e < d
            · have r2I : (nn : Int) - (s : Int) < (d : Int) := by have := enH.out; omega
              have CC : Hid (Calls Tryz.prog 159 #[.slice (some ⟨b, off, none⟩) n cap, .int .i64 (M : Int), .int .i64 ((nn : Int) - (s : Int)), .int .i64 (d : Int), .func (.func 85) #[] #[]] wr fun e w' => e = .returned undef ∧ ∃ g, Pr M d g1 g ∧ Sd R M d g ∧ TR w' b off n (fs g) ∧ OB b wr w') := by
                have := IH.out M e d g1 wr (by omega) r1 r2 hdn T1H.out (X2H.out g1 P1H.out) (Sd2H.out g1 P1H.out).1 (Sd2H.out g1 P1H.out).2
                rw [enH.out] at this; exact this
              go_wp2_with fail
              refine Calls.mono CC.out ?_
              rintro e' w3 ⟨rfl, g2, P2, S2, T2, O2⟩
              have T2H : Hid _ := T2
              have P2H : Hid (Pr M d g1 g2) := P2
              have S2H : Hid (Sd R M d g2) := S2
              clear T2 P2 S2 CC
              go_wp2_with fail
              all_goals (first | go_end0 | (simp only [Exit.inBlock, Exit.then]; refine bodyPost_ret (results_none rfl _ _ _) rfl ?_) | refine bodyPost_ret (results_none rfl _ _ _) rfl ?_)
              all_goals exact ⟨rfl, g2, (P0H.out.trans (halves_ok hM1 hM2 HVH.out P1H.out S1H.out P2H.out S2H.out).2), (halves_ok hM1 hM2 HVH.out P1H.out S1H.out P2H.out S2H.out).1, T2H.out, O1H.out.trans O2⟩
            · have r2I : ¬ (nn : Int) - (s : Int) < (d : Int) := by have := enH.out; omega
              have S2H : Hid (Sd R M d g1) := by
                have ee : e = d := by omega
                have := (Sd2H.out g1 P1H.out).1
                rw [ee] at this; exact this
              go_wp2_with fail
              all_goals (first | go_end0 | (simp only [Exit.inBlock, Exit.then]; refine bodyPost_ret (results_none rfl _ _ _) rfl ?_) | refine bodyPost_ret (results_none rfl _ _ _) rfl ?_)
              all_goals exact ⟨rfl, g1, (P0H.out.trans (halves_ok hM1 hM2 HVH.out P1H.out S1H.out (Pr.refl _ _ _) S2H.out).2), (halves_ok hM1 hM2 HVH.out P1H.out S1H.out (Pr.refl _ _ _) S2H.out).1, T1H.out, O1H.out⟩
          · have r1I : ¬ (M : Int) < (nn : Int) - (s : Int) := by have := enH.out; omega
            have S2H : Hid (Sd R M d g1) := by
              have ee : e = M := by omega
              have := (Sd2H.out g1 P1H.out).2
              rw [ee] at this; exact this
            go_wp2_with fail
            all_goals (first | go_end0 | (simp only [Exit.inBlock, Exit.then]; refine bodyPost_ret (results_none rfl _ _ _) rfl ?_) | refine bodyPost_ret (results_none rfl _ _ _) rfl ?_)
            all_goals exact ⟨rfl, g1, (P0H.out.trans (halves_ok hM1 hM2 HVH.out P1H.out S1H.out (Pr.refl _ _ _) S2H.out).2), (halves_ok hM1 hM2 HVH.out P1H.out S1H.out (Pr.refl _ _ _) S2H.out).1, T1H.out, O1H.out⟩
end Go.Proofs.YtbojljmacheccaaGreatDoor.So

namespace Go.Proofs.YtbojljmacheccaaGreatDoor.So
open Go.RowKit
/-- symMerge: two rows in order, side by side, are one. -/
theorem sym_any (R : En → En → Prop) (c : Tg → Tg → Int) (hC : CmpA 85 c) (tr : ∀ x y z, R x y → R y z → R x z) (b off n cap : Nat) (hn : n ≤ 4611686018427387904) : ∀ (N a m d : Nat) (f : Nat → En) (w : World), d - a ≤ N → a < m → m < d → d ≤ n → TR w b off n (fs f) → Xs R (ltE c) a m d f → Sd R a m f → Sd R m d f →
    Calls Tryz.prog 159 #[.slice (some ⟨b, off, none⟩) n cap, .int .i64 (a : Int), .int .i64 (m : Int), .int .i64 (d : Int), .func (.func 85) #[] #[]] w fun e w' => e = .returned undef ∧ ∃ g, Pr a d f g ∧ Sd R a d g ∧ TR w' b off n (fs g) ∧ OB b w w' := by
  intro N
  induction N with
  | zero => intro a m d f w h1 h2 h3; omega
  | succ N ih =>
    intro a m d f w hN ham hmd hdn hT X L M
    by_cases e1 : m = a + 1
    · subst e1; exact sym_up R c hC b off n cap f a d w hT hmd hdn hn X M tr
    · by_cases e2 : d = m + 1
      · subst e2; exact sym_dn R c hC b off n cap f a m w hT (by omega) hdn hn X L tr
      · by_cases g : (a + d) / 2 < m
        · exact sym_big R c hC tr b off n cap hn N ih a m d f w hN ham hmd hdn hT X L M e1 e2 g
        · exact sym_low R c hC tr b off n cap hn N ih a m d f w hN ham hmd hdn hT X L M e1 e2 g
end Go.Proofs.YtbojljmacheccaaGreatDoor.So

namespace Go.Proofs.YtbojljmacheccaaGreatDoor.So
open Go.RowKit
set_option linter.unusedVariables false
set_option linter.unusedSimpArgs false
/-- blocks of 20, the first p in order, the rest as it was. -/
structure L1 (R : En → En → Prop) (c : Tg → Tg → Int) (n p : Nat) (f g : Nat → En) : Prop where
  pr : Pr 0 n f g
  blk : Blk R 20 n (p * 20) g
  cut : Cut R (ltE c) 20 n g
  same : ∀ k, p * 20 ≤ k → g k = f k
theorem L1.start {R : En → En → Prop} {c : Tg → Tg → Int} {n : Nat} {f : Nat → En} (X : Xall R (ltE c) n f) : L1 R c n 0 f f :=
  ⟨Pr.refl _ _ _, by rw [Nat.zero_mul]; exact Blk.zero _ _ _, X.cut _, fun _ _ => rfl⟩
theorem L1.more {R : En → En → Prop} {c : Tg → Tg → Int} {n p : Nat} {f g g' : Nat → En} (h : L1 R c n p f g) (hp : Pr (p * 20) (min ((p + 1) * 20) n) g g') (hg : Sd R (p * 20) (min ((p + 1) * 20) n) g') : L1 R c n (p + 1) f g' :=
  ⟨h.pr.trans (hp.wide (Nat.zero_le _) (Nat.min_le_right _ _)), h.blk.more hp hg, h.cut.pr hp (Nat.le_refl _) (Nat.min_le_left _ _) (Nat.min_le_right _ _), fun k hk => by rw [hp.out (k := k) (by omega)]; exact h.same k (by omega)⟩
theorem L1.xs {R : En → En → Prop} {c : Tg → Tg → Int} {n p : Nat} {f g : Nat → En} (h : L1 R c n p f g) (X : Xall R (ltE c) n f) : ∀ i j, p * 20 ≤ i → i < j → j < n → (ltE c (g j) (g i) = true → R (g j) (g i)) ∧ (ltE c (g j) (g i) = false → R (g i) (g j)) := fun i j x y z => by
  rw [h.same i x, h.same j (by omega)]; exact X i j y z
/-- blocks of s in order. -/
structure L2 (R : En → En → Prop) (c : Tg → Tg → Int) (n s : Nat) (f g : Nat → En) : Prop where
  pr : Pr 0 n f g
  blk : Blk R s n n g
  cut : Cut R (ltE c) s n g
theorem L1.done {R : En → En → Prop} {c : Tg → Tg → Int} {n p : Nat} {f g : Nat → En} (h : L1 R c n p f g) (hn : n ≤ p * 20) : L2 R c n 20 f g := ⟨h.pr, fun q hq => h.blk q (by omega), h.cut⟩
/-- of them the first p pairs merged, the rest as it was. -/
structure L3 (R : En → En → Prop) (c : Tg → Tg → Int) (n s p : Nat) (f g0 g : Nat → En) : Prop where
  was : L2 R c n s f g0
  pr : Pr 0 n f g
  mrg : Mrg R s n p g
  cut : Cut R (ltE c) (s * 2) n g
  same : ∀ k, p * (s * 2) ≤ k → g k = g0 k
theorem L2.start {R : En → En → Prop} {c : Tg → Tg → Int} {n s : Nat} {f g : Nat → En} (h : L2 R c n s f g) : L3 R c n s 0 f g g := ⟨h, h.pr, h.blk.mrg, h.cut.twice, fun _ _ => rfl⟩
theorem L3.xs {R : En → En → Prop} {c : Tg → Tg → Int} {n s p : Nat} {f g0 g : Nat → En} (h : L3 R c n s p f g0 g) : Xs R (ltE c) (p * (s * 2)) (p * (s * 2) + s) n g := fun i j x y z v => by
  have := h.was.cut (2 * p + 1)
  rw [show (2 * p + 1) * s = p * (s * 2) + s by rw [Nat.add_mul, Nat.one_mul, Nat.mul_comm 2 p, Nat.mul_assoc, Nat.mul_comm 2 s]] at this
  rw [h.same i x, h.same j (by omega)]
  exact this i j (Nat.zero_le _) y z v
theorem L3.more {R : En → En → Prop} {c : Tg → Tg → Int} {n s p : Nat} {f g0 g g' : Nat → En} (h : L3 R c n s p f g0 g) (hp : Pr (p * (s * 2)) (min (p * (s * 2) + s * 2) n) g g') (hg : Sd R (p * (s * 2)) (min (p * (s * 2) + s * 2) n) g') : L3 R c n s (p + 1) f g0 g' :=
  have e1 : (p + 1) * (s * 2) = p * (s * 2) + s * 2 := by rw [Nat.add_mul, Nat.one_mul]
  ⟨h.was, h.pr.trans (hp.wide (Nat.zero_le _) (Nat.min_le_right _ _)), h.mrg.more hp hg, h.cut.pr hp (Nat.le_refl _) (by rw [e1]; exact Nat.min_le_left _ _) (Nat.min_le_right _ _), fun k hk => by rw [e1] at hk; rw [hp.out (k := k) (by omega)]; exact h.same k (by omega)⟩
theorem L3.done {R : En → En → Prop} {c : Tg → Tg → Int} {n s p : Nat} {f g0 g : Nat → En} (h : L3 R c n s p f g0 g) (hn : n ≤ p * (s * 2)) : L2 R c n (s * 2) f g := ⟨h.pr, h.mrg.done hn, h.cut⟩
/-- the tail is one block: nothing is to be merged. -/
theorem L3.tail {R : En → En → Prop} {c : Tg → Tg → Int} {n s p : Nat} {f g0 g : Nat → En} (h : L3 R c n s p f g0 g) (hn : n ≤ p * (s * 2) + s) : L2 R c n (s * 2) f g := by
  have h1 := h.mrg.parts.1
  rw [Nat.min_eq_right hn] at h1
  refine (h.more (g' := g) (Pr.refl _ _ _) (by rw [Nat.min_eq_right (by omega)]; exact h1)).done ?_
  rw [Nat.add_mul, Nat.one_mul]; omega
set_option maxRecDepth 100000 in
set_option maxHeartbeats 4000000 in
/-- slices.SortStableFunc's work. -/
theorem stable_any (R : En → En → Prop) (c : Tg → Tg → Int) (hC : CmpA 85 c) (tr : ∀ x y z, R x y → R y z → R x z) (b off n cap : Nat) (hn : n ≤ 1152921504606846976) (f : Nat → En) (w : World) (hT : TR w b off n (fs f)) (X : Xall R (ltE c) n f) :
    Calls Tryz.prog 129 #[.slice (some ⟨b, off, none⟩) n cap, .int .i64 (n : Int), .func (.func 85) #[] #[]] w fun e w' => e = .returned undef ∧ ∃ g, Pr 0 n f g ∧ Sd R 0 n g ∧ TR w' b off n (fs g) ∧ OB b w w' := by
  have H0 : Hid (TR w b off n (fs f)) := hT
  have HX : Hid (Xall R (ltE c) n f) := X
  have HC : Hid (CmpA 85 c) := hC
  clear hT X hC
  go_enter Tryz.func129, Tryz.ntmps129
  go_wp2_with fail
  go_loopw [7, 8] (fun va vb wr => ∃ (A B : Nat) (g : Nat → En), va = .int .i64 (A : Int) ∧ vb = .int .i64 (B : Int) ∧ A ≤ n ∧ Hid (B = A + 20 ∧ ∃ p, A = p * 20 ∧ L1 R c n p f g) ∧ TR wr b off n (fs g) ∧ OB b w wr) (fun va _ _ => n - (intOf va).toNat)
  case atStart => exact ⟨0, 20, f, rfl, rfl, Nat.zero_le _, ⟨rfl, 0, rfl, L1.start HX.out⟩, H0.out, OB.refl _ _⟩
  case round =>
    clear H0
    obtain ⟨A, B, g, rfl, rfl, hA, hL, hT, hO⟩ := hrel
    have hTH : Hid (TR wr b off n (fs g)) := hT
    have hOH : Hid (OB b w wr) := hO
    clear hT hO
    by_cases hB : B ≤ n
    · have hBI : (B : Int) ≤ (n : Int) := by omega
      have C : Hid (Calls Tryz.prog 158 #[.slice (some ⟨b, off, none⟩) n cap, .int .i64 (A : Int), .int .i64 (B : Int), .func (.func 85) #[] #[]] wr fun e w' => e = .returned undef ∧ ∃ g', Pr A B g g' ∧ Sd R A B g' ∧ TR w' b off n (fs g') ∧ OB b wr w') := by
        obtain ⟨e1, p, e2, l1⟩ := hL.out
        exact insert_any R c HC.out b off n cap g A B wr hTH.out (by omega) hB (by omega) (fun i j x y z => l1.xs HX.out i j (by omega) y (by omega)) tr
      have kw : IntKind.i64.wrap ((B : Int) + 20) = ((B + 20 : Nat) : Int) := IntWalk.i64_in _ (by omega)
      go_wp2_with fail
      refine Calls.mono C.out ?_
      rintro e w2 ⟨rfl, g', P2, S2, T2, O2⟩
      have T2H : Hid (TR w2 b off n (fs g')) := T2
      have nx : Hid (∃ p, B = p * 20 ∧ L1 R c n p f g') := by
        obtain ⟨e1, p, e2, l1⟩ := hL.out
        have e3 : min ((p + 1) * 20) n = B := by omega
        refine ⟨p + 1, by omega, l1.more ?_ ?_⟩
        · rw [e3, ← e2]; exact P2
        · rw [e3, ← e2]; exact S2
      have O3 : Hid (OB b w w2) := hOH.out.trans O2
      have dm : Hid (A < B) := by obtain ⟨e1, _⟩ := hL.out; show A < B; omega
      clear T2 O2 P2 S2 C hL hTH hOH
      go_wp2_with fail
      exact ⟨⟨B, B + 20, g', rfl, by first | rfl | simp, hB, ⟨rfl, nx.out⟩, T2H.out, O3.out⟩, by have := dm.out; simp [intOf]; omega⟩
    · have hBI : ¬ (B : Int) ≤ (n : Int) := by omega
      have C : Hid (Calls Tryz.prog 158 #[.slice (some ⟨b, off, none⟩) n cap, .int .i64 (A : Int), .int .i64 (n : Int), .func (.func 85) #[] #[]] wr fun e w' => e = .returned undef ∧ ∃ g', Pr A n g g' ∧ Sd R A n g' ∧ TR w' b off n (fs g') ∧ OB b wr w') := by
        obtain ⟨e1, p, e2, l1⟩ := hL.out
        exact insert_any R c HC.out b off n cap g A n wr hTH.out (by omega) (Nat.le_refl _) (by omega) (fun i j x y z => l1.xs HX.out i j (by omega) y (by omega)) tr
      go_wp2_with fail
      refine Calls.mono C.out ?_
      rintro e w2 ⟨rfl, g', P2, S2, T2, O2⟩
      have T2H : Hid (TR w2 b off n (fs g')) := T2
      have nx : Hid (L2 R c n 20 f g') := by
        obtain ⟨e1, p, e2, l1⟩ := hL.out
        have e3 : min ((p + 1) * 20) n = n := by omega
        refine (l1.more (g' := g') ?_ ?_).done (by omega)
        · rw [e3, ← e2]; exact P2
        · rw [e3, ← e2]; exact S2
      have O3 : Hid (OB b w w2) := hOH.out.trans O2
      clear T2 O2 P2 S2 C hL hTH hOH hBI hB HX
      go_wp2_with fail
      go_loopw [6, 7, 8] (fun vs va vb wr => ∃ (s : Nat) (g : Nat → En), vs = .int .i64 (s : Int) ∧ 20 ≤ s ∧ s ≤ 2 * n + 20 ∧ Hid (L2 R c n s f g) ∧ TR wr b off n (fs g) ∧ OB b w wr) (fun vs _ _ _ => n - (intOf vs).toNat)
      case atStart => exact ⟨20, g', rfl, by omega, by omega, nx, T2H.out, O3.out⟩
      case round =>
        clear T2H nx O3
        rename_i va vb
        obtain ⟨s, g, rfl, hs1, hs2, hL, hT, hO⟩ := hrel
        have hTH : Hid (TR wr b off n (fs g)) := hT
        have hOH : Hid (OB b w wr) := hO
        clear hT hO
        by_cases hsn : s < n
        · have hsI : (s : Int) < (n : Int) := by omega
          have u1 : IntKind.i64.wrap (2 * (s : Int)) = 2 * (s : Int) := IntWalk.i64_in _ (by omega)
          have u2 : IntKind.i64.wrap ((s : Int) * 2) = (s : Int) * 2 := IntWalk.i64_in _ (by omega)
          go_wp2_with fail
          go_loopw [7, 8] (fun va vb wr => ∃ (A B : Nat) (h : Nat → En), va = .int .i64 (A : Int) ∧ vb = .int .i64 (B : Int) ∧ A ≤ n ∧ Hid (B = A + s * 2 ∧ ∃ p, A = p * (s * 2) ∧ L3 R c n s p f g h) ∧ TR wr b off n (fs h) ∧ OB b w wr) (fun va _ _ => n - (intOf va).toNat)
          case atStart => exact ⟨0, 2 * s, g, rfl, by congr 1, Nat.zero_le _, ⟨by omega, 0, by omega, hL.out.start⟩, hTH.out, hOH.out⟩
          case round =>
            clear hTH hOH hL
            obtain ⟨A, B, h, rfl, rfl, hA, hM, hT, hO⟩ := hrel
            have hTH : Hid (TR wr b off n (fs h)) := hT
            have hOH : Hid (OB b w wr) := hO
            clear hT hO
            have v1 : IntKind.i64.wrap ((A : Int) + (s : Int)) = (A : Int) + (s : Int) := IntWalk.i64_in _ (by omega)
            by_cases hB : B ≤ n
            · have hBI : (B : Int) ≤ (n : Int) := by omega
              have C : Hid (Calls Tryz.prog 159 #[.slice (some ⟨b, off, none⟩) n cap, .int .i64 (A : Int), .int .i64 ((A : Int) + (s : Int)), .int .i64 (B : Int), .func (.func 85) #[] #[]] wr fun e w' => e = .returned undef ∧ ∃ g', Pr A B h g' ∧ Sd R A B g' ∧ TR w' b off n (fs g') ∧ OB b wr w') := by
                obtain ⟨e1, p, e2, l3⟩ := hM.out
                have x1 := l3.xs
                obtain ⟨x2, x3⟩ := l3.mrg.parts
                rw [← e2] at x1 x2 x3
                have := sym_any R c HC.out tr b off n cap (by omega) (B - A) A (A + s) B h wr (Nat.le_refl _) (by omega) (by omega) hB hTH.out (x1.sub (Nat.le_refl _) hB) (x2.sub (Nat.le_refl _) (by omega)) (x3.sub (Nat.le_refl _) (by omega))
                rw [show ((A + s : Nat) : Int) = (A : Int) + (s : Int) by omega] at this
                exact this
              have v2 : IntKind.i64.wrap ((B : Int) + 2 * (s : Int)) = (B : Int) + 2 * (s : Int) := IntWalk.i64_in _ (by omega)
              go_wp2_with fail
              refine Calls.mono C.out ?_
              rintro e w2 ⟨rfl, g', P2, S2, T2, O2⟩
              have T2H : Hid (TR w2 b off n (fs g')) := T2
              have nx : Hid (∃ p, B = p * (s * 2) ∧ L3 R c n s p f g g') := by
                obtain ⟨e1, p, e2, l3⟩ := hM.out
                have e3 : min (p * (s * 2) + s * 2) n = B := by omega
                refine ⟨p + 1, by rw [Nat.add_mul, Nat.one_mul]; omega, l3.more ?_ ?_⟩
                · rw [e3, ← e2]; exact P2
                · rw [e3, ← e2]; exact S2
              have O3 : Hid (OB b w w2) := hOH.out.trans O2
              have dm : Hid (A < B) := by obtain ⟨e1, _⟩ := hM.out; show A < B; omega
              clear T2 O2 P2 S2 C hM hTH hOH
              go_wp2_with fail
              exact ⟨⟨B, B + 2 * s, g', rfl, by congr 1, hB, ⟨by omega, nx.out⟩, T2H.out, O3.out⟩, by have := dm.out; simp [intOf]; omega⟩
            · have hBI : ¬ (B : Int) ≤ (n : Int) := by omega
              by_cases hm : A + s < n
              · have hmI : (A : Int) + (s : Int) < (n : Int) := by omega
                have C : Hid (Calls Tryz.prog 159 #[.slice (some ⟨b, off, none⟩) n cap, .int .i64 (A : Int), .int .i64 ((A : Int) + (s : Int)), .int .i64 (n : Int), .func (.func 85) #[] #[]] wr fun e w' => e = .returned undef ∧ ∃ g', Pr A n h g' ∧ Sd R A n g' ∧ TR w' b off n (fs g') ∧ OB b wr w') := by
                  obtain ⟨e1, p, e2, l3⟩ := hM.out
                  have x1 := l3.xs
                  obtain ⟨x2, x3⟩ := l3.mrg.parts
                  rw [← e2] at x1 x2 x3
                  have := sym_any R c HC.out tr b off n cap (by omega) (n - A) A (A + s) n h wr (Nat.le_refl _) (by omega) (by omega) (Nat.le_refl _) hTH.out x1 (x2.sub (Nat.le_refl _) (by omega)) (x3.sub (Nat.le_refl _) (by omega))
                  rw [show ((A + s : Nat) : Int) = (A : Int) + (s : Int) by omega] at this
                  exact this
                go_wp2_with fail
                refine Calls.mono C.out ?_
                rintro e w2 ⟨rfl, g', P2, S2, T2, O2⟩
                have T2H : Hid (TR w2 b off n (fs g')) := T2
                have nx : Hid (L2 R c n (s * 2) f g') := by
                  obtain ⟨e1, p, e2, l3⟩ := hM.out
                  have e3 : min (p * (s * 2) + s * 2) n = n := by omega
                  refine (l3.more (g' := g') ?_ ?_).done (by rw [Nat.add_mul, Nat.one_mul]; omega)
                  · rw [e3, ← e2]; exact P2
                  · rw [e3, ← e2]; exact S2
                have O3 : Hid (OB b w w2) := hOH.out.trans O2
                clear T2 O2 P2 S2 C hM hTH hOH
                go_wp2_with fail
                exact ⟨⟨s * 2, g', by congr 1, by omega, by omega, nx, T2H.out, O3.out⟩, by simp [intOf]; omega⟩
              · have hmI : ¬ (A : Int) + (s : Int) < (n : Int) := by omega
                have nx : Hid (L2 R c n (s * 2) f h) := by
                  obtain ⟨e1, p, e2, l3⟩ := hM.out
                  exact l3.tail (by omega)
                go_wp2_with fail
                exact ⟨⟨s * 2, h, by congr 1, by omega, by omega, nx, hTH.out, hOH.out⟩, by simp [intOf]; omega⟩
        · have hsI : ¬ (s : Int) < (n : Int) := by omega
          have fin : Hid (Pr 0 n f g ∧ Sd R 0 n g) := ⟨hL.out.pr, hL.out.blk.whole (by omega)⟩
          go_wp2_with fail
          go_end0
          exact ⟨rfl, g, fin.out.1, fin.out.2, hTH.out, hOH.out⟩
end Go.Proofs.YtbojljmacheccaaGreatDoor.So

namespace Go.Proofs.YtbojljmacheccaaGreatDoor.So
open Go.RowKit
set_option linter.unusedVariables false
set_option linter.unusedSimpArgs false
theorem TR.congr {w : World} {b off n : Nat} {F G : Nat → Tg} (h : TR w b off n F) (e : ∀ k, k < n → F k = G k) : TR w b off n G := ⟨h.1, fun k hk => by rw [← e k hk]; exact h.2 k hk⟩
theorem TR.less {w : World} {b off n m : Nat} {F : Nat → Tg} (h : TR w b off n F) (hm : m ≤ n) : TR w b off m F := ⟨h.1, fun k hk => h.2 k (by omega)⟩
/-- reversed as far as i from both ends. -/
def rv (F : Nat → Tg) (n i : Nat) : Nat → Tg := fun k => if k < i ∨ (n ≤ k + i ∧ k < n) then F (n - 1 - k) else F k
theorem rv_zero (F : Nat → Tg) (n : Nat) : rv F n 0 = F := by
  funext k; unfold rv; rw [if_neg (by omega)]
theorem rv_step (F : Nat → Tg) (n i : Nat) (h : i + i + 1 < n) : sw (rv F n i) i (n - 1 - i) = rv F n (i + 1) := by
  funext k
  unfold sw rv
  repeat' split
  all_goals first | rfl | (exfalso; omega) | (congr 1; omega)
theorem rv_end (F : Nat → Tg) (n i : Nat) (h : n ≤ i + i + 1) (k : Nat) (hk : k < n) : rv F n i k = F (n - 1 - k) := by
  unfold rv
  split
  · rfl
  · congr 1; omega
theorem ba_dec (a b : ByteArray) : (a.toList == b.toList) = decide (a = b) := by
  by_cases h : a = b
  · subst h; simp
  · rw [decide_eq_false h, beq_eq_false_iff_ne]
    intro e
    rw [ByteArray.toList_eq, ByteArray.toList_eq] at e
    exact h (ByteArray.ext (Array.ext' e))
set_option maxRecDepth 100000 in
theorem sameKey_any (x y : Tg) (w : World) : Calls Tryz.prog 87 #[.agg #[.string x.1, .string x.2], .agg #[.string y.1, .string y.2]] w fun e w' => e = .returned (.bool (decide (x.1 = y.1))) ∧ Below w.heap.size w w' := by
  obtain ⟨a1, a2⟩ := x
  obtain ⟨b1, b2⟩ := y
  have B2 : ∀ o p, Below w.heap.size w ((w.alloc o).alloc p) := fun o p => ((Below.refl _ w).alloc (Nat.le_refl _) o).alloc (by simp) p
  go_enter Tryz.func87, Tryz.ntmps87
  go_wp2_with fail
  go_ret
  exact ⟨by rw [← ba_dec]; rfl, B2 _ _⟩
set_option maxRecDepth 100000 in
set_option maxHeartbeats 2000000 in
theorem reverse_any (b off n cap : Nat) (F : Nat → Tg) (w : World) (h : TR w b off n F) (hn : n ≤ 4611686018427387904) :
    Calls Tryz.prog 83 #[.slice (some ⟨b, off, none⟩) n cap] w fun e w' => e = .returned undef ∧ TR w' b off n (fun k => F (n - 1 - k)) ∧ OB b w w' := by
  have H0 : Hid (TR w b off n F) := h
  clear h
  have z1 : IntKind.i64.wrap ((n : Int) - 1) = (n : Int) - 1 := IntWalk.i64_in _ (by omega)
  go_enter Tryz.func83, Tryz.ntmps83
  go_wp2_with fail
  go_loopw [2, 3] (fun vi vj wr => ∃ (i : Nat) (J : Int), vi = .int .i64 (i : Int) ∧ vj = .int .i64 J ∧ Hid (J = (n : Int) - 1 - (i : Int)) ∧ i ≤ n ∧ TR wr b off n (rv F n i) ∧ OB b w wr) (fun vi vj _ => (intOf vj - intOf vi).toNat)
  case atStart => exact ⟨0, (n : Int) - 1, rfl, rfl, by show _ = _; omega, Nat.zero_le _, by rw [rv_zero]; exact H0.out, OB.refl _ _⟩
  case round =>
    clear H0 z1
    obtain ⟨i, J, rfl, rfl, hJ, hin, hT, hO⟩ := hrel
    by_cases hc : (i : Int) < J
    · obtain ⟨j, hj⟩ : ∃ j : Nat, J = (j : Int) := ⟨J.toNat, by have := hJ.out; omega⟩
      subst hj
      have hij : i < j := by omega
      have hjn : j < n := by have := hJ.out; omega
      have e : Hid (sw (rv F n i) i j = rv F n (i + 1)) := by
        have := rv_step F n i (by have := hJ.out; omega)
        rw [show n - 1 - i = j by have := hJ.out; omega] at this
        exact this
      generalize rv F n i = G at hT e
      obtain ⟨⟨a1, a2⟩, a3, a4⟩ := hT.2 i (by omega)
      obtain ⟨⟨b1, b2⟩, b3, b4⟩ := hT.2 j (by omega)
      have i1 : (0 : Int) ≤ (i : Int) := by omega
      have i2 : (i : Int) < (n : Int) := by omega
      have j1 : (0 : Int) ≤ (j : Int) := by omega
      have j2 : (j : Int) < (n : Int) := by omega
      have ij : ¬ i = j := by omega
      have ij2 : ¬ j = i := by omega
      have q1 : ¬ off + i * 2 = off + j * 2 := by omega
      have q2 : ¬ off + i * 2 = off + j * 2 + 1 := by omega
      have q3 : ¬ off + i * 2 + 1 = off + j * 2 := by omega
      have q4 : ¬ off + i * 2 + 1 = off + j * 2 + 1 := by omega
      have kw : IntKind.i64.wrap ((i : Int) + 1) = ((i + 1 : Nat) : Int) := IntWalk.i64_in _ (by omega)
      have kj : IntKind.i64.wrap ((j : Int) - 1) = (j : Int) - 1 := IntWalk.i64_in _ (by omega)
      have hTH : Hid (TR wr b off n G) := hT
      have hOH : Hid (OB b w wr) := hO
      clear hT hO
      go_wp2_with fail
      go_region
      have hT2 : TR ((((wr.setCell ⟨b, off + i * 2, none⟩ (.string (G j).1)).setCell ⟨b, off + i * 2 + 1, none⟩ (.string (G j).2)).setCell ⟨b, off + j * 2, none⟩ (.string (G i).1)).setCell ⟨b, off + j * 2 + 1, none⟩ (.string (G i).2)) b off n (rv F n (i + 1)) := by
        rw [← e.out, sw_upd2]
        exact TR.set (TR.set (show TR wr b off n G from hTH.out) (show i < n by omega) _ _) (show j < n by omega) _ _
      have hO2 : OB b w ((((wr.setCell ⟨b, off + i * 2, none⟩ (.string (G j).1)).setCell ⟨b, off + i * 2 + 1, none⟩ (.string (G j).2)).setCell ⟨b, off + j * 2, none⟩ (.string (G i).1)).setCell ⟨b, off + j * 2 + 1, none⟩ (.string (G i).2)) := (((hOH.out.trans (OB.set _ _ _)).trans (OB.set _ _ _)).trans (OB.set _ _ _)).trans (OB.set _ _ _)
      generalize ((((wr.setCell ⟨b, off + i * 2, none⟩ (.string (G j).1)).setCell ⟨b, off + i * 2 + 1, none⟩ (.string (G j).2)).setCell ⟨b, off + j * 2, none⟩ (.string (G i).1)).setCell ⟨b, off + j * 2 + 1, none⟩ (.string (G i).2)) = W2 at hT2 hO2 ⊢
      have hT2H : Hid (TR W2 b off n (rv F n (i + 1))) := hT2
      have hO2H : Hid (OB b w W2) := hO2
      clear hT2 hO2 hTH hOH e a1 a2 a3 a4 b1 b2 b3 b4
      go_wp2_with fail
      exact ⟨⟨i + 1, (j : Int) - 1, by first | rfl | simp, rfl, by have := hJ.out; show _ = _; omega, by omega, hT2H.out, hO2H.out.drew⟩, by simp [intOf]; omega⟩
    · have fin : Hid (TR wr b off n (fun k => F (n - 1 - k))) := hT.congr (rv_end F n i (by have := hJ.out; omega))
      have hOH : Hid (OB b w wr) := hO
      clear hT hO
      go_wp2_with fail
      go_end0
      exact ⟨rfl, fin.out, hOH.out⟩
set_option maxRecDepth 100000 in
theorem sortStable_any (R : En → En → Prop) (c : Tg → Tg → Int) (hC : CmpA 85 c) (tr : ∀ x y z, R x y → R y z → R x z) (b off n cap : Nat) (hn : n ≤ 1152921504606846976) (f : Nat → En) (w : World) (hT : TR w b off n (fs f)) (X : Xall R (ltE c) n f) :
    Calls Tryz.prog 84 #[.slice (some ⟨b, off, none⟩) n cap, .func (.func 85) #[] #[]] w fun e w' => e = .returned undef ∧ ∃ g, Pr 0 n f g ∧ Sd R 0 n g ∧ TR w' b off n (fs g) ∧ OB b w w' := by
  have C : Hid _ := stable_any R c hC tr b off n cap hn f w hT X
  clear hC hT X
  go_enter Tryz.func84, Tryz.ntmps84
  go_wp2_with fail
  refine Calls.mono C.out ?_
  rintro e w2 ⟨rfl, hh⟩
  have hhH : Hid _ := hh
  clear hh C
  go_wp2_with fail
  go_end0
  exact ⟨rfl, hhH.out⟩
end Go.Proofs.YtbojljmacheccaaGreatDoor.So

namespace Go.Proofs.YtbojljmacheccaaGreatDoor.So
open Go.RowKit
set_option linter.unusedVariables false
set_option linter.unusedSimpArgs false
/-! ### what CompactFunc leaves -/
theorem fsts_plain (F : Nat → Tg) : ∀ k, (∀ i, 1 ≤ i → i < k → (F (i - 1)).1 ≠ (F i).1) → fsts F k = (List.range k).map F
  | 0, _ => rfl
  | k + 1, h => by
    unfold fsts
    rw [fsts_plain F k fun i a b => h i a (by omega), List.range_succ, List.map_append]
    congr 1
    rcases Nat.eq_zero_or_pos k with e | e
    · rw [if_pos (Or.inl e)]; rfl
    · rw [if_pos (Or.inr (h k e (by omega)))]; rfl
theorem fsts_skip (F : Nat → Tg) {p : Nat} (hp : 1 ≤ p) (h : (F p).1 = (F (p - 1)).1) : fsts F (p + 1) = fsts F p := by
  conv => lhs; unfold fsts
  rw [if_neg (by rintro (e | e); omega; exact e h.symm), List.append_nil]
theorem fsts_new (F : Nat → Tg) {p : Nat} (h : (F p).1 ≠ (F (p - 1)).1) : fsts F (p + 1) = fsts F p ++ [F p] := by
  conv => lhs; unfold fsts
  rw [if_pos (Or.inr fun e => h e.symm)]
/-- the row while it is made: the first k are what is kept of the first p, the rest as it was. -/
structure CS (F H : Nat → Tg) (p k : Nat) : Prop where
  is : (List.range k).map H = fsts F p
  rest : ∀ i, k ≤ i → H i = F i
theorem CS.skip {F H : Nat → Tg} {p k : Nat} (h : CS F H p k) (hp : 1 ≤ p) (e : (F p).1 = (F (p - 1)).1) : CS F H (p + 1) k := ⟨by rw [fsts_skip F hp e]; exact h.is, h.rest⟩
theorem CS.new {F H : Nat → Tg} {p k : Nat} (h : CS F H p k) (e : (F p).1 ≠ (F (p - 1)).1) : CS F (upd H k (F p)) (p + 1) (k + 1) := by
  refine ⟨?_, fun i hi => ?_⟩
  · rw [fsts_new F e, ← h.is, List.range_succ, List.map_append]
    congr 1
    · apply List.map_congr_left
      intro i hi
      unfold upd
      rw [if_neg (by have := List.mem_range.1 hi; omega)]
    · simp [upd]
  · unfold upd
    rw [if_neg (by omega)]
    exact h.rest i (by omega)
/-- clear of a row of tags. -/
theorem tag_infoS : (Tryz.prog.info? 102).map (fun i => (i.zero, i.bytes, i.size)) = some (some (.agg #[.string ⟨#[]⟩, .string ⟨#[]⟩]), 32, 2) := by kernel_rfl
def noS (n : Nat) : List Value := List.replicate (n * 2) (.string ⟨#[]⟩)
theorem run_clearT (w : World) (ty : TypeId) (b o n c : Nat) (hn : 0 < n) (hc : ∀ j, j < n * 2 → (w.cell? ⟨b, o + j, none⟩).isSome = true) (hf : ∀ j, j < n * 2 → w.frozen? ⟨b, o + j, none⟩ = false) :
    (Builtin.clear_ #[29] ty #[.slice (some ⟨b, o, none⟩) n c]).run Tryz.prog w = .ok (.tuple #[]) (w.setCells b o (noS n)) := by
  obtain ⟨i, i1, i0⟩ := Option.map_eq_some_iff.1 tag_infoS
  have i2 : i.zero = some (.agg #[.string ⟨#[]⟩, .string ⟨#[]⟩]) := congrArg (·.1) i0
  have hv : ∀ w, (zeroValue 102).run Tryz.prog w = .ok (.agg #[.string ⟨#[]⟩, .string ⟨#[]⟩]) w := fun w => by simp [zeroValue, typeInfo, i1, i2]
  have hz : (Value.agg #[.string ⟨#[]⟩, .string ⟨#[]⟩]).cells = #[.string ⟨#[]⟩, .string ⟨#[]⟩] := by kernel_rfl
  have hzc : (Builtin.zeroCells (Value.agg #[.string ⟨#[]⟩, .string ⟨#[]⟩]).cells n).toList = noS n := by
    rw [hz]
    unfold noS
    simp [Builtin.zeroCells]
    apply List.ext_getElem
    · simp
    · intro i h1 h2
      rcases (by omega : i % 2 = 0 ∨ i % 2 = 1) with q | q <;> simp [q]
  have hst := run_storeCells_cells (P := Tryz.prog) b o (noS n) 0 w (by simpa [noS] using hc) (by simpa [noS] using hf) (by intro v hv'; rw [List.eq_of_mem_replicate hv']; rfl)
  simp only [Nat.add_zero] at hst
  obtain ⟨m, rfl⟩ : ∃ m, n = m + 1 := ⟨n - 1, by omega⟩
  simp [Builtin.clear_, run_underlying Tryz.underlying29, hv, hzc, hst]
theorem OB.sets {b : Nat} : ∀ (vs : List Value) (o : Nat) (w : World), OB b w (w.setCells b o vs)
  | [], _, w => OB.refl b w
  | v :: r, o, w => (OB.set w o v).trans (OB.sets r (o + 1) _)
theorem TR.cleared {w : World} {b off n k : Nat} {F : Nat → Tg} (h : TR w b off n F) (hk : k ≤ n) (vs : List Value) : TR (w.setCells b (off + k * 2) vs) b off k F := by
  refine ⟨Nat.lt_of_lt_of_le h.1 (OB.sets vs _ w).size, fun i hi => ?_⟩
  obtain ⟨⟨h1, h2⟩, h3, h4⟩ := h.2 i (by omega)
  refine ⟨⟨?_, ?_⟩, by rw [World.frozen?_setCells]; exact h3, by rw [World.frozen?_setCells]; exact h4⟩
  · rw [World.cell?_setCells_out _ _ _ _ _ (fun _ _ => Or.inl (by show off + i * 2 < _; omega))]; exact h1
  · rw [World.cell?_setCells_out _ _ _ _ _ (fun _ _ => Or.inl (by show off + i * 2 + 1 < _; omega))]; exact h2
set_option maxRecDepth 100000 in
set_option maxHeartbeats 4000000 in
theorem compact_any (b off n cap : Nat) (F : Nat → Tg) (w : World) (h : TR w b off n F) (hn : n ≤ 4611686018427387904) (hcap : n ≤ cap) :
    Calls Tryz.prog 86 #[.slice (some ⟨b, off, none⟩) n cap, .func (.func 87) #[] #[]] w fun e w' => ∃ (m : Nat) (G : Nat → Tg), e = .returned (.slice (some ⟨b, off, none⟩) m cap) ∧ m ≤ n ∧ TR w' b off m G ∧ (List.range m).map G = fsts F n ∧ OB b w w' := by
  have H0 : Hid (TR w b off n F) := h
  clear h
  by_cases hs : n < 2
  · have hsI : (n : Int) < 2 := by omega
    go_enter Tryz.func86, Tryz.ntmps86
    go_wp2_with fail
    go_ret
    exact ⟨n, F, rfl, Nat.le_refl _, H0.out, (fsts_plain F n fun i a b => by omega).symm, OB.refl _ _⟩
  · have hsI : ¬ (n : Int) < 2 := by omega
    go_enter Tryz.func86, Tryz.ntmps86
    go_wp2_with fail
    go_loopw [5] (fun vk wr => ∃ k : Nat, vk = .int .i64 (k : Int) ∧ 1 ≤ k ∧ k ≤ n ∧ Hid (∀ i, 1 ≤ i → i < k → (F (i - 1)).1 ≠ (F i).1) ∧ TR wr b off n F ∧ OB b w wr) (fun vk _ => n - (intOf vk).toNat)
    case atStart => exact ⟨1, rfl, Nat.le_refl _, by omega, fun i a b => by omega, H0.out, OB.refl _ _⟩
    case round =>
      clear H0 hsI
      obtain ⟨k, rfl, k1, kn, hall, hT, hO⟩ := hrel
      have hTH : Hid (TR wr b off n F) := hT
      have hOH : Hid (OB b w wr) := hO
      clear hO
      by_cases hk : k < n
      · have hkI : (k : Int) < (n : Int) := by omega
        have kw : IntKind.i64.wrap ((k : Int) + 1) = ((k + 1 : Nat) : Int) := IntWalk.i64_in _ (by omega)
        have kv : IntKind.i64.wrap ((k : Int) - 1) = (k : Int) - 1 := IntWalk.i64_in _ (by omega)
        have k0 : (0 : Int) ≤ (k : Int) := by omega
        have k2 : (0 : Int) ≤ (k : Int) - 1 := by omega
        have k3 : (k : Int) - 1 < (n : Int) := by omega
        have k4 : (1 : Int) ≤ (k : Int) := by omega
        obtain ⟨⟨a1, a2⟩, _, _⟩ := hT.2 k (by omega)
        obtain ⟨⟨b1, b2⟩, _, _⟩ := hT.2 (k - 1) (by omega)
        have bl : b < wr.heap.size := hT.1
        have CH := sameKey_any (F k) (F (k - 1))
        have hx : Hid (decide ((F k).1 = (F (k - 1)).1) = decide ((F k).1 = (F (k - 1)).1)) := rfl
        obtain ⟨bv, hbv⟩ : ∃ bv, decide ((F k).1 = (F (k - 1)).1) = bv := ⟨_, rfl⟩
        rw [hbv] at CH
        have hbH : Hid (decide ((F k).1 = (F (k - 1)).1) = bv) := hbv
        have CH : Hid _ := CH
        generalize F k = x at a1 a2 CH
        generalize F (k - 1) = y at b1 b2 CH
        clear hT hbv hx
        cases bv with
        | false =>
          go_wp2_with fail
          refine wp_region_noPanic ?_
          refine wp_region_held_drew (S := fun W => (W.cell? ⟨b, off + k * 2, none⟩ = some (.string x.1) ∧ W.cell? ⟨b, off + k * 2 + 1, none⟩ = some (.string x.2)) ∧ W.cell? ⟨b, off + (k - 1) * 2, none⟩ = some (.string y.1) ∧ W.cell? ⟨b, off + (k - 1) * 2 + 1, none⟩ = some (.string y.2)) (by kernel_rfl) ⟨⟨a1, a2⟩, b1, b2⟩ (fun hHeld => ?_)
          refine zT 0 (v := ?_) rfl ?_ ?_
          rotate_left 1
          · (intro w0 hSw; (try dsimp only at hSw); obtain ⟨⟨s1, s2⟩, s3, s4⟩ := hSw; go_simp; try with_reducible rfl)
          (try simp only [z1, z2, z3]); (try simp only [Act.put, z4, z5, z6])
          refine zT 1 (v := ?_) rfl ?_ ?_
          rotate_left 1
          · (intro w0 hSw; (try dsimp only at hSw); obtain ⟨⟨s1, s2⟩, s3, s4⟩ := hSw; go_simp; try with_reducible rfl)
          (try simp only [z1, z2, z3]); (try simp only [Act.put, z4, z5, z6])
          refine zT 2 (v := ?_) rfl ?_ ?_
          rotate_left 1
          · (intro w0 hSw; (try dsimp only at hSw); obtain ⟨⟨s1, s2⟩, s3, s4⟩ := hSw; go_simp; try with_reducible rfl)
          (try simp only [z1, z2, z3]); (try simp only [Act.put, z4, z5, z6])
          refine zT 3 (v := ?_) rfl ?_ ?_
          rotate_left 1
          · (intro w0 hSw; (try dsimp only at hSw); obtain ⟨⟨s1, s2⟩, s3, s4⟩ := hSw; go_simp; try with_reducible rfl)
          (try simp only [z1, z2, z3]); (try simp only [Act.put, z4, z5, z6])
          refine zT 4 (v := ?_) rfl ?_ ?_
          rotate_left 1
          · (intro w0 hSw; (try dsimp only at hSw); obtain ⟨⟨s1, s2⟩, s3, s4⟩ := hSw; go_simp; try with_reducible rfl)
          (try simp only [z1, z2, z3]); (try simp only [Act.put, z4, z5, z6])
          refine zT 5 (v := ?_) rfl ?_ ?_
          rotate_left 1
          · (intro w0 hSw; (try dsimp only at hSw); obtain ⟨⟨s1, s2⟩, s3, s4⟩ := hSw; go_simp; try with_reducible rfl)
          (try simp only [z1, z2, z3]); (try simp only [Act.put, z4, z5, z6])
          refine zT 6 (v := ?_) rfl ?_ ?_
          rotate_left 1
          · (intro w0 hSw; (try dsimp only at hSw); obtain ⟨⟨s1, s2⟩, s3, s4⟩ := hSw; go_simp; try with_reducible rfl)
          (try simp only [z1, z2, z3]); (try simp only [Act.put, z4, z5, z6])
          refine zT 7 (v := ?_) rfl ?_ ?_
          rotate_left 1
          · (intro w0 hSw; (try dsimp only at hSw); obtain ⟨⟨s1, s2⟩, s3, s4⟩ := hSw; go_simp; try with_reducible rfl)
          (try simp only [z1, z2, z3]); (try simp only [Act.put, z4, z5, z6])
          refine zT 8 (v := ?_) rfl ?_ ?_
          rotate_left 1
          · (intro w0 hSw; (try dsimp only at hSw); obtain ⟨⟨s1, s2⟩, s3, s4⟩ := hSw; go_simp; try with_reducible rfl)
          (try simp only [z1, z2, z3]); (try simp only [Act.put, z4, z5, z6])
          refine zT 9 (v := ?_) rfl ?_ ?_
          rotate_left 1
          · (intro w0 hSw; (try dsimp only at hSw); obtain ⟨⟨s1, s2⟩, s3, s4⟩ := hSw; go_simp; try with_reducible rfl)
          (try simp only [z1, z2, z3]); (try simp only [Act.put, z4, z5, z6])
          refine wpAnyH_ready (rs := [10]) (by kernel_rfl) (by simp) ?_
          refine AllReadyH.cons (o := _) rfl (fun K hK => ?_) AllReadyH.nil
          go_simp
          refine Calls.mono (CH.out _) ?_
          rintro e w' ⟨rfl, BB⟩
          try dsimp only
          refine hK _ _ ?_ (fun hHeld => ?_)
          · exact ⟨⟨by rw [BB.cell (p := ⟨b, off + k * 2, none⟩) bl]; exact a1, by rw [BB.cell (p := ⟨b, off + k * 2 + 1, none⟩) bl]; exact a2⟩, by rw [BB.cell (p := ⟨b, off + (k - 1) * 2, none⟩) bl]; exact b1, by rw [BB.cell (p := ⟨b, off + (k - 1) * 2 + 1, none⟩) bl]; exact b2⟩
          clear hK K
          (try simp only [z1, z2, z3]); (try simp only [Act.put, z4, z5, z6])
          refine wpAnyH_done (by kernel_rfl) ?_ _
          refine NoPanic.normal ?_
          have T2H : Hid (TR w' b off n F) := TR.below (show TR wr.drew b off n F from hTH.out) BB
          have O2 : Hid (OB b w w') := (show OB b w wr.drew from hOH.out.drew).trans (OB.below BB)
          have nx : Hid (∀ i, 1 ≤ i → i < k + 1 → (F (i - 1)).1 ≠ (F i).1) := fun i i1 i2 => by
            by_cases c : i < k
            · exact hall.out i i1 c
            · have : i = k := by omega
              subst this
              exact fun e => of_decide_eq_false hbH.out e.symm
          clear a1 a2 b1 b2 BB hTH hOH hall hbH CH
          go_wp2_with fail
          exact ⟨⟨k + 1, by first | rfl | simp, by omega, by omega, nx, T2H.out, O2.out⟩, by simp [intOf]; omega⟩
        | true =>
          go_wp2_with fail
          refine wp_region_noPanic ?_
          refine wp_region_held_drew (S := fun W => (W.cell? ⟨b, off + k * 2, none⟩ = some (.string x.1) ∧ W.cell? ⟨b, off + k * 2 + 1, none⟩ = some (.string x.2)) ∧ W.cell? ⟨b, off + (k - 1) * 2, none⟩ = some (.string y.1) ∧ W.cell? ⟨b, off + (k - 1) * 2 + 1, none⟩ = some (.string y.2)) (by kernel_rfl) ⟨⟨a1, a2⟩, b1, b2⟩ (fun hHeld => ?_)
          refine zT 0 (v := ?_) rfl ?_ ?_
          rotate_left 1
          · (intro w0 hSw; (try dsimp only at hSw); obtain ⟨⟨s1, s2⟩, s3, s4⟩ := hSw; go_simp; try with_reducible rfl)
          (try simp only [z1, z2, z3]); (try simp only [Act.put, z4, z5, z6])
          refine zT 1 (v := ?_) rfl ?_ ?_
          rotate_left 1
          · (intro w0 hSw; (try dsimp only at hSw); obtain ⟨⟨s1, s2⟩, s3, s4⟩ := hSw; go_simp; try with_reducible rfl)
          (try simp only [z1, z2, z3]); (try simp only [Act.put, z4, z5, z6])
          refine zT 2 (v := ?_) rfl ?_ ?_
          rotate_left 1
          · (intro w0 hSw; (try dsimp only at hSw); obtain ⟨⟨s1, s2⟩, s3, s4⟩ := hSw; go_simp; try with_reducible rfl)
          (try simp only [z1, z2, z3]); (try simp only [Act.put, z4, z5, z6])
          refine zT 3 (v := ?_) rfl ?_ ?_
          rotate_left 1
          · (intro w0 hSw; (try dsimp only at hSw); obtain ⟨⟨s1, s2⟩, s3, s4⟩ := hSw; go_simp; try with_reducible rfl)
          (try simp only [z1, z2, z3]); (try simp only [Act.put, z4, z5, z6])
          refine zT 4 (v := ?_) rfl ?_ ?_
          rotate_left 1
          · (intro w0 hSw; (try dsimp only at hSw); obtain ⟨⟨s1, s2⟩, s3, s4⟩ := hSw; go_simp; try with_reducible rfl)
          (try simp only [z1, z2, z3]); (try simp only [Act.put, z4, z5, z6])
          refine zT 5 (v := ?_) rfl ?_ ?_
          rotate_left 1
          · (intro w0 hSw; (try dsimp only at hSw); obtain ⟨⟨s1, s2⟩, s3, s4⟩ := hSw; go_simp; try with_reducible rfl)
          (try simp only [z1, z2, z3]); (try simp only [Act.put, z4, z5, z6])
          refine zT 6 (v := ?_) rfl ?_ ?_
          rotate_left 1
          · (intro w0 hSw; (try dsimp only at hSw); obtain ⟨⟨s1, s2⟩, s3, s4⟩ := hSw; go_simp; try with_reducible rfl)
          (try simp only [z1, z2, z3]); (try simp only [Act.put, z4, z5, z6])
          refine zT 7 (v := ?_) rfl ?_ ?_
          rotate_left 1
          · (intro w0 hSw; (try dsimp only at hSw); obtain ⟨⟨s1, s2⟩, s3, s4⟩ := hSw; go_simp; try with_reducible rfl)
          (try simp only [z1, z2, z3]); (try simp only [Act.put, z4, z5, z6])
          refine zT 8 (v := ?_) rfl ?_ ?_
          rotate_left 1
          · (intro w0 hSw; (try dsimp only at hSw); obtain ⟨⟨s1, s2⟩, s3, s4⟩ := hSw; go_simp; try with_reducible rfl)
          (try simp only [z1, z2, z3]); (try simp only [Act.put, z4, z5, z6])
          refine zT 9 (v := ?_) rfl ?_ ?_
          rotate_left 1
          · (intro w0 hSw; (try dsimp only at hSw); obtain ⟨⟨s1, s2⟩, s3, s4⟩ := hSw; go_simp; try with_reducible rfl)
          (try simp only [z1, z2, z3]); (try simp only [Act.put, z4, z5, z6])
          refine wpAnyH_ready (rs := [10]) (by kernel_rfl) (by simp) ?_
          refine AllReadyH.cons (o := _) rfl (fun K hK => ?_) AllReadyH.nil
          go_simp
          refine Calls.mono (CH.out _) ?_
          rintro e w' ⟨rfl, BB⟩
          try dsimp only
          refine hK _ _ ?_ (fun hHeld => ?_)
          · exact ⟨⟨by rw [BB.cell (p := ⟨b, off + k * 2, none⟩) bl]; exact a1, by rw [BB.cell (p := ⟨b, off + k * 2 + 1, none⟩) bl]; exact a2⟩, by rw [BB.cell (p := ⟨b, off + (k - 1) * 2, none⟩) bl]; exact b1, by rw [BB.cell (p := ⟨b, off + (k - 1) * 2 + 1, none⟩) bl]; exact b2⟩
          clear hK K
          (try simp only [z1, z2, z3]); (try simp only [Act.put, z4, z5, z6])
          refine wpAnyH_done (by kernel_rfl) ?_ _
          refine NoPanic.normal ?_
          have T2H : Hid (TR w' b off n F) := TR.below (show TR wr.drew b off n F from hTH.out) BB
          have O2 : Hid (OB b w w') := (show OB b w wr.drew from hOH.out.drew).trans (OB.below BB)
          have cs0 : Hid (CS F F (k + 1) k) := (CS.mk (fsts_plain F k hall.out).symm (fun _ _ => rfl) : CS F F k k).skip k1 (of_decide_eq_true hbH.out)
          clear a1 a2 b1 b2 BB hTH hOH hall hbH CH
          have kc : (k : Int) ≤ (cap : Int) := by omega
          go_wp2_with fail
          generalize hl : n - k = l
          generalize ho : off + k * 2 = o2
          have hlH : Hid (n - k = l) := hl
          have hoH : Hid (off + k * 2 = o2) := ho
          clear hl ho kc kw kv k0 k2 k3 k4 bl hHeld
          go_loopw [5, 7] (fun vk vq wr => ∃ (m q : Nat) (H : Nat → Tg), vk = .int .i64 (m : Int) ∧ vq = .int .i64 (q : Int) ∧ k ≤ m ∧ 1 ≤ q ∧ q ≤ l ∧ m + 1 ≤ k + q ∧ Hid (CS F H (k + q) m) ∧ TR wr b off n H ∧ OB b w wr) (fun _ vq _ => l - (intOf vq).toNat)
          case atStart => exact ⟨k, 1, F, rfl, rfl, Nat.le_refl _, Nat.le_refl _, by have := hlH.out; omega, by omega, cs0, T2H.out, O2.out⟩
          case round =>
            clear T2H O2 cs0
            obtain ⟨m, q, H, rfl, rfl, m1, q1, q2, m2, hcs, hT, hO⟩ := hrel
            have hTH : Hid (TR wr b off n H) := hT
            have hOH : Hid (OB b w wr) := hO
            clear hO
            by_cases hq : q < l
            · have hqI : (q : Int) < (l : Int) := by omega
              have kw : IntKind.i64.wrap ((q : Int) + 1) = ((q + 1 : Nat) : Int) := IntWalk.i64_in _ (by have := hlH.out; omega)
              have kv : IntKind.i64.wrap ((q : Int) - 1) = (q : Int) - 1 := IntWalk.i64_in _ (by have := hlH.out; omega)
              have k0 : (0 : Int) ≤ (q : Int) := by omega
              have k2 : (0 : Int) ≤ (q : Int) - 1 := by omega
              have k3 : (q : Int) - 1 < (l : Int) := by omega
              have k4 : (1 : Int) ≤ (q : Int) := by omega
              obtain ⟨⟨a1, a2⟩, _, _⟩ := hT.2 (k + q) (by have := hlH.out; omega)
              obtain ⟨⟨b1, b2⟩, _, _⟩ := hT.2 (k + q - 1) (by have := hlH.out; omega)
              rw [show off + (k + q) * 2 = o2 + q * 2 by have := hoH.out; omega] at a1 a2
              rw [show off + (k + q - 1) * 2 = o2 + (q - 1) * 2 by have := hoH.out; omega] at b1 b2
              rw [hcs.out.rest (k + q) (by omega)] at a1 a2
              rw [hcs.out.rest (k + q - 1) (by omega)] at b1 b2
              have bl : b < wr.heap.size := hT.1
              have CH0 := sameKey_any (F (k + q)) (F (k + q - 1))
              obtain ⟨bv, hbv⟩ : ∃ bv, decide ((F (k + q)).1 = (F (k + q - 1)).1) = bv := ⟨_, rfl⟩
              rw [hbv] at CH0
              have hbH : Hid (decide ((F (k + q)).1 = (F (k + q - 1)).1) = bv) := hbv
              have CH : Hid _ := CH0
              have hnew : Hid ((F (k + q)).1 ≠ (F (k + q - 1)).1 → CS F (upd H m (F (k + q))) (k + q + 1) (m + 1)) := fun e => hcs.out.new e
              have hsk : Hid ((F (k + q)).1 = (F (k + q - 1)).1 → CS F H (k + q + 1) m) := fun e => hcs.out.skip (by omega) e
              generalize F (k + q) = x at a1 a2 CH hbH hnew hsk
              generalize F (k + q - 1) = y at b1 b2 CH hbH hnew hsk
              clear hT hbv CH0 hcs
              cases bv with
              | true =>
                go_wp2_with fail
                refine wp_region_noPanic ?_
                refine wp_region_held_drew (S := fun W => (W.cell? ⟨b, o2 + q * 2, none⟩ = some (.string x.1) ∧ W.cell? ⟨b, o2 + q * 2 + 1, none⟩ = some (.string x.2)) ∧ W.cell? ⟨b, o2 + (q - 1) * 2, none⟩ = some (.string y.1) ∧ W.cell? ⟨b, o2 + (q - 1) * 2 + 1, none⟩ = some (.string y.2)) (by kernel_rfl) ⟨⟨a1, a2⟩, b1, b2⟩ (fun hHeld => ?_)
                refine zT 0 (v := ?_) rfl ?_ ?_
                rotate_left 1
                · (intro w0 hSw; (try dsimp only at hSw); obtain ⟨⟨s1, s2⟩, s3, s4⟩ := hSw; go_simp; try with_reducible rfl)
                (try simp only [z1, z2, z3]); (try simp only [Act.put, z4, z5, z6])
                refine zT 1 (v := ?_) rfl ?_ ?_
                rotate_left 1
                · (intro w0 hSw; (try dsimp only at hSw); obtain ⟨⟨s1, s2⟩, s3, s4⟩ := hSw; go_simp; try with_reducible rfl)
                (try simp only [z1, z2, z3]); (try simp only [Act.put, z4, z5, z6])
                refine zT 2 (v := ?_) rfl ?_ ?_
                rotate_left 1
                · (intro w0 hSw; (try dsimp only at hSw); obtain ⟨⟨s1, s2⟩, s3, s4⟩ := hSw; go_simp; try with_reducible rfl)
                (try simp only [z1, z2, z3]); (try simp only [Act.put, z4, z5, z6])
                refine zT 3 (v := ?_) rfl ?_ ?_
                rotate_left 1
                · (intro w0 hSw; (try dsimp only at hSw); obtain ⟨⟨s1, s2⟩, s3, s4⟩ := hSw; go_simp; try with_reducible rfl)
                (try simp only [z1, z2, z3]); (try simp only [Act.put, z4, z5, z6])
                refine zT 4 (v := ?_) rfl ?_ ?_
                rotate_left 1
                · (intro w0 hSw; (try dsimp only at hSw); obtain ⟨⟨s1, s2⟩, s3, s4⟩ := hSw; go_simp; try with_reducible rfl)
                (try simp only [z1, z2, z3]); (try simp only [Act.put, z4, z5, z6])
                refine zT 5 (v := ?_) rfl ?_ ?_
                rotate_left 1
                · (intro w0 hSw; (try dsimp only at hSw); obtain ⟨⟨s1, s2⟩, s3, s4⟩ := hSw; go_simp; try with_reducible rfl)
                (try simp only [z1, z2, z3]); (try simp only [Act.put, z4, z5, z6])
                refine zT 6 (v := ?_) rfl ?_ ?_
                rotate_left 1
                · (intro w0 hSw; (try dsimp only at hSw); obtain ⟨⟨s1, s2⟩, s3, s4⟩ := hSw; go_simp; try with_reducible rfl)
                (try simp only [z1, z2, z3]); (try simp only [Act.put, z4, z5, z6])
                refine zT 7 (v := ?_) rfl ?_ ?_
                rotate_left 1
                · (intro w0 hSw; (try dsimp only at hSw); obtain ⟨⟨s1, s2⟩, s3, s4⟩ := hSw; go_simp; try with_reducible rfl)
                (try simp only [z1, z2, z3]); (try simp only [Act.put, z4, z5, z6])
                refine zT 8 (v := ?_) rfl ?_ ?_
                rotate_left 1
                · (intro w0 hSw; (try dsimp only at hSw); obtain ⟨⟨s1, s2⟩, s3, s4⟩ := hSw; go_simp; try with_reducible rfl)
                (try simp only [z1, z2, z3]); (try simp only [Act.put, z4, z5, z6])
                refine zT 9 (v := ?_) rfl ?_ ?_
                rotate_left 1
                · (intro w0 hSw; (try dsimp only at hSw); obtain ⟨⟨s1, s2⟩, s3, s4⟩ := hSw; go_simp; try with_reducible rfl)
                (try simp only [z1, z2, z3]); (try simp only [Act.put, z4, z5, z6])
                refine wpAnyH_ready (rs := [10]) (by kernel_rfl) (by simp) ?_
                refine AllReadyH.cons (o := _) rfl (fun K hK => ?_) AllReadyH.nil
                go_simp
                refine Calls.mono (CH.out _) ?_
                rintro e w' ⟨rfl, BB⟩
                try dsimp only
                refine hK _ _ ?_ (fun hHeld => ?_)
                · exact ⟨⟨by rw [BB.cell (p := ⟨b, o2 + q * 2, none⟩) bl]; exact a1, by rw [BB.cell (p := ⟨b, o2 + q * 2 + 1, none⟩) bl]; exact a2⟩, by rw [BB.cell (p := ⟨b, o2 + (q - 1) * 2, none⟩) bl]; exact b1, by rw [BB.cell (p := ⟨b, o2 + (q - 1) * 2 + 1, none⟩) bl]; exact b2⟩
                clear hK K
                (try simp only [z1, z2, z3]); (try simp only [Act.put, z4, z5, z6])
                refine zT 11 (v := ?_) rfl ?_ ?_
                rotate_left 1
                · (intro w0 hSw; (try dsimp only at hSw); obtain ⟨⟨s1, s2⟩, s3, s4⟩ := hSw; go_simp; try with_reducible rfl)
                (try simp only [z1, z2, z3]); (try simp only [Act.put, z4, z5, z6])
                refine wpAnyH_done (by kernel_rfl) ?_ _
                refine NoPanic.normal ?_
                have T2H : Hid (TR w' b off n H) := TR.below (show TR wr.drew b off n H from hTH.out) BB
                have O2 : Hid (OB b w w') := (show OB b w wr.drew from hOH.out.drew).trans (OB.below BB)
                have nx : Hid (CS F H (k + (q + 1)) m) := hsk.out (of_decide_eq_true hbH.out)
                clear a1 a2 b1 b2 BB hTH hOH hbH CH hnew hsk
                go_wp2_with fail
                exact ⟨⟨m, q + 1, H, rfl, by first | rfl | simp, m1, by omega, by omega, by omega, nx, T2H.out, O2.out⟩, by simp [intOf]; omega⟩
              | false =>
                go_wp2_with fail
                refine wp_region_noPanic ?_
                refine wp_region_held_drew (S := fun W => (W.cell? ⟨b, o2 + q * 2, none⟩ = some (.string x.1) ∧ W.cell? ⟨b, o2 + q * 2 + 1, none⟩ = some (.string x.2)) ∧ W.cell? ⟨b, o2 + (q - 1) * 2, none⟩ = some (.string y.1) ∧ W.cell? ⟨b, o2 + (q - 1) * 2 + 1, none⟩ = some (.string y.2)) (by kernel_rfl) ⟨⟨a1, a2⟩, b1, b2⟩ (fun hHeld => ?_)
                refine zT 0 (v := ?_) rfl ?_ ?_
                rotate_left 1
                · (intro w0 hSw; (try dsimp only at hSw); obtain ⟨⟨s1, s2⟩, s3, s4⟩ := hSw; go_simp; try with_reducible rfl)
                (try simp only [z1, z2, z3]); (try simp only [Act.put, z4, z5, z6])
                refine zT 1 (v := ?_) rfl ?_ ?_
                rotate_left 1
                · (intro w0 hSw; (try dsimp only at hSw); obtain ⟨⟨s1, s2⟩, s3, s4⟩ := hSw; go_simp; try with_reducible rfl)
                (try simp only [z1, z2, z3]); (try simp only [Act.put, z4, z5, z6])
                refine zT 2 (v := ?_) rfl ?_ ?_
                rotate_left 1
                · (intro w0 hSw; (try dsimp only at hSw); obtain ⟨⟨s1, s2⟩, s3, s4⟩ := hSw; go_simp; try with_reducible rfl)
                (try simp only [z1, z2, z3]); (try simp only [Act.put, z4, z5, z6])
                refine zT 3 (v := ?_) rfl ?_ ?_
                rotate_left 1
                · (intro w0 hSw; (try dsimp only at hSw); obtain ⟨⟨s1, s2⟩, s3, s4⟩ := hSw; go_simp; try with_reducible rfl)
                (try simp only [z1, z2, z3]); (try simp only [Act.put, z4, z5, z6])
                refine zT 4 (v := ?_) rfl ?_ ?_
                rotate_left 1
                · (intro w0 hSw; (try dsimp only at hSw); obtain ⟨⟨s1, s2⟩, s3, s4⟩ := hSw; go_simp; try with_reducible rfl)
                (try simp only [z1, z2, z3]); (try simp only [Act.put, z4, z5, z6])
                refine zT 5 (v := ?_) rfl ?_ ?_
                rotate_left 1
                · (intro w0 hSw; (try dsimp only at hSw); obtain ⟨⟨s1, s2⟩, s3, s4⟩ := hSw; go_simp; try with_reducible rfl)
                (try simp only [z1, z2, z3]); (try simp only [Act.put, z4, z5, z6])
                refine zT 6 (v := ?_) rfl ?_ ?_
                rotate_left 1
                · (intro w0 hSw; (try dsimp only at hSw); obtain ⟨⟨s1, s2⟩, s3, s4⟩ := hSw; go_simp; try with_reducible rfl)
                (try simp only [z1, z2, z3]); (try simp only [Act.put, z4, z5, z6])
                refine zT 7 (v := ?_) rfl ?_ ?_
                rotate_left 1
                · (intro w0 hSw; (try dsimp only at hSw); obtain ⟨⟨s1, s2⟩, s3, s4⟩ := hSw; go_simp; try with_reducible rfl)
                (try simp only [z1, z2, z3]); (try simp only [Act.put, z4, z5, z6])
                refine zT 8 (v := ?_) rfl ?_ ?_
                rotate_left 1
                · (intro w0 hSw; (try dsimp only at hSw); obtain ⟨⟨s1, s2⟩, s3, s4⟩ := hSw; go_simp; try with_reducible rfl)
                (try simp only [z1, z2, z3]); (try simp only [Act.put, z4, z5, z6])
                refine zT 9 (v := ?_) rfl ?_ ?_
                rotate_left 1
                · (intro w0 hSw; (try dsimp only at hSw); obtain ⟨⟨s1, s2⟩, s3, s4⟩ := hSw; go_simp; try with_reducible rfl)
                (try simp only [z1, z2, z3]); (try simp only [Act.put, z4, z5, z6])
                refine wpAnyH_ready (rs := [10]) (by kernel_rfl) (by simp) ?_
                refine AllReadyH.cons (o := _) rfl (fun K hK => ?_) AllReadyH.nil
                go_simp
                refine Calls.mono (CH.out _) ?_
                rintro e w' ⟨rfl, BB⟩
                try dsimp only
                refine hK _ _ ?_ (fun hHeld => ?_)
                · exact ⟨⟨by rw [BB.cell (p := ⟨b, o2 + q * 2, none⟩) bl]; exact a1, by rw [BB.cell (p := ⟨b, o2 + q * 2 + 1, none⟩) bl]; exact a2⟩, by rw [BB.cell (p := ⟨b, o2 + (q - 1) * 2, none⟩) bl]; exact b1, by rw [BB.cell (p := ⟨b, o2 + (q - 1) * 2 + 1, none⟩) bl]; exact b2⟩
                clear hK K
                (try simp only [z1, z2, z3]); (try simp only [Act.put, z4, z5, z6])
                refine zT 11 (v := ?_) rfl ?_ ?_
                rotate_left 1
                · (intro w0 hSw; (try dsimp only at hSw); obtain ⟨⟨s1, s2⟩, s3, s4⟩ := hSw; go_simp; try with_reducible rfl)
                (try simp only [z1, z2, z3]); (try simp only [Act.put, z4, z5, z6])
                refine wpAnyH_done (by kernel_rfl) ?_ _
                refine NoPanic.normal ?_
                have T2 : TR w' b off n H := TR.below (show TR wr.drew b off n H from hTH.out) BB
                have O2 : Hid (OB b w w') := (show OB b w wr.drew from hOH.out.drew).trans (OB.below BB)
                have nx : Hid (CS F (upd H m x) (k + (q + 1)) (m + 1)) := hnew.out (of_decide_eq_false hbH.out)
                obtain ⟨⟨⟨c1, c2⟩, _⟩, _⟩ : (((w'.cell? ⟨b, o2 + q * 2, none⟩ = some (.string x.1) ∧ w'.cell? ⟨b, o2 + q * 2 + 1, none⟩ = some (.string x.2)) ∧ True) ∧ True) := ⟨⟨by first | exact hHeld.1 | (rename_i hh; exact hh.1), trivial⟩, trivial⟩
                have mn : m < n := by have := hlH.out; omega
                obtain ⟨⟨d1, d2⟩, d3, d4⟩ := T2.2 m mn
                have m0 : (0 : Int) ≤ (m : Int) := by omega
                have mI : (m : Int) < (n : Int) := by omega
                have mw : IntKind.i64.wrap ((m : Int) + 1) = ((m + 1 : Nat) : Int) := IntWalk.i64_in _ (by omega)
                have hT2 : Hid (TR ((w'.setCell ⟨b, off + m * 2, none⟩ (.string x.1)).setCell ⟨b, off + m * 2 + 1, none⟩ (.string x.2)) b off n (upd H m x)) := T2.set mn x.1 x.2
                have hO2 : Hid (OB b w ((w'.setCell ⟨b, off + m * 2, none⟩ (.string x.1)).setCell ⟨b, off + m * 2 + 1, none⟩ (.string x.2))) := (O2.out.trans (OB.set _ _ _)).trans (OB.set _ _ _)
                clear a1 a2 b1 b2 BB hTH hOH hbH CH hnew hsk T2 O2
                go_wp2_with fail
                exact ⟨⟨m + 1, q + 1, upd H m x, by first | rfl | simp, by first | rfl | simp, by omega, by omega, by omega, by omega, nx, hT2.out, hO2.out⟩, by simp [intOf]; omega⟩
            · have hqI : ¬ (q : Int) < (l : Int) := by omega
              have mn : m < n := by have := hlH.out; omega
              have fin : Hid ((List.range m).map H = fsts F n) := by
                have := hcs.out.is
                rw [show k + q = n by have := hlH.out; omega] at this
                exact this
              have m0 : (0 : Int) ≤ (m : Int) := by omega
              have mc : (m : Int) ≤ (cap : Int) := by omega
              have mI : (m : Int) ≤ (n : Int) := by omega
              have hcl : ∀ ty, (Builtin.clear_ #[29] ty #[.slice (some ⟨b, off + m * 2, none⟩) (n - m) (cap - m)]).run Tryz.prog wr = .ok (.tuple #[]) (wr.setCells b (off + m * 2) (noS (n - m))) := fun ty => run_clearT wr ty b (off + m * 2) (n - m) (cap - m) (by omega)
                (fun j hj => by
                  obtain ⟨⟨d1, d2⟩, d3, d4⟩ := hT.2 (m + j / 2) (by omega)
                  rcases (by omega : j % 2 = 0 ∨ j % 2 = 1) with e | e
                  · rw [show off + m * 2 + j = off + (m + j / 2) * 2 by omega, d1]; rfl
                  · rw [show off + m * 2 + j = off + (m + j / 2) * 2 + 1 by omega, d2]; rfl)
                (fun j hj => by
                  obtain ⟨⟨d1, d2⟩, d3, d4⟩ := hT.2 (m + j / 2) (by omega)
                  rcases (by omega : j % 2 = 0 ∨ j % 2 = 1) with e | e
                  · rw [show off + m * 2 + j = off + (m + j / 2) * 2 by omega]; exact d3
                  · rw [show off + m * 2 + j = off + (m + j / 2) * 2 + 1 by omega]; exact d4)
              have hT2 : Hid (TR (wr.setCells b (off + m * 2) (noS (n - m))) b off m H) := hT.cleared (by omega) _
              have hO2 : Hid (OB b w (wr.setCells b (off + m * 2) (noS (n - m)))) := hOH.out.trans (OB.sets _ _ _)
              clear hT hTH hOH hcs
              go_wp2_with fail
              go_ret
              first | exact ⟨m, rfl, by omega, H, hT2.out, fin.out, hO2.out⟩ | exact ⟨m, H, rfl, by omega, hT2.out, fin.out, hO2.out⟩
      · have hkI : ¬ (k : Int) < (n : Int) := by omega
        obtain rfl : k = n := by omega
        have fin : Hid ((List.range k).map F = fsts F k) := (fsts_plain F k hall.out).symm
        clear hT
        go_wp2_with fail
        go_ret
        exact ⟨k, rfl, Nat.le_refl _, F, hTH.out, fin.out, hOH.out⟩
end Go.Proofs.YtbojljmacheccaaGreatDoor.So

namespace Go.Proofs.YtbojljmacheccaaGreatDoor.So
open Go.RowKit
set_option linter.unusedVariables false
set_option linter.unusedSimpArgs false
theorem wpList_append_runS {P : Program} {ops : Array Oper} {rest : List Oper} {o : Oper} {a : Act} {Q : Exit → Act → World → Prop} {w : World} (hgd : o.guard = none) (s x : Operand) (t : TypeId)
    (ho : o.op = .call { callee := .builtin .append, args := #[s, x], argTypes := #[t, t] }) (v y v' : Value) (w' : World) (hs : a.eval s = v) (hx : a.eval x = y) (hr : (Builtin.append_ #[t, t] o.type #[v, y]).run P w = .ok v' w')
    (h : wpList P ops Q rest (a.put o.dst v') w') : wpList P ops Q (o :: rest) a w := by
  refine wpList_plain hgd fun K hK => ?_
  unfold Oper.wp execOp
  simp only [ho, resolve, invoke, builtin, Sem.run_bind, Sem.run_pure, Result.andThen_ok, List.map_toArray, List.map_cons, List.map_nil, hs, hx, hr]
  exact hK _ _ h
def noT : Tg := (⟨#[]⟩, ⟨#[]⟩)
def atT (l : List TagP) : Nat → Tg := fun k => l.getD k noT
theorem atT_map (l : List TagP) : (List.range l.length).map (atT l) = l := by
  apply List.ext_getElem
  · simp
  · intro i h1 h2
    simp [atT, List.getD_eq_getElem?_getD, List.getElem?_eq_getElem h2]
theorem OT.tr {w : World} {B g cap : Nat} {l : List TagP} (h : OT w B (.slice (some ⟨g, 0, none⟩) l.length cap) l) : TR w g 0 l.length (atT l) := by
  refine ⟨(World.ownsRow.lt h g rfl).2, fun k hk => ?_⟩
  have hs : l[k]? = some (atT l k) := by simp [atT, List.getD_eq_getElem?_getD, List.getElem?_eq_getElem hk]
  obtain ⟨e1, e2⟩ := encT_get l k _ hs
  have hcs := World.ownsRow.cells h (g := g) rfl
  have k1 := hcs _ _ e1
  have k2 := hcs _ _ e2
  rw [tag_add, Nat.zero_add] at k1 k2
  rw [Nat.zero_add]
  exact ⟨⟨k1, k2⟩, World.ownsRow.frozenAt h _, World.ownsRow.frozenAt h _⟩
theorem TR.tin {w : World} {b off m : Nat} {G : Nat → Tg} (h : TR w b off m G) : TgIn w (some ⟨b, off, none⟩) ((List.range m).map G) := by
  refine Or.inr ⟨b, off, rfl, h.1, fun i t ht => ?_⟩
  rw [List.getElem?_map, Option.map_eq_some_iff] at ht
  obtain ⟨j, h1, rfl⟩ := ht
  obtain ⟨h2, h3⟩ := List.getElem?_eq_some_iff.1 h1
  simp at h3 h2
  subst h3
  exact (h.2 i h2).1
/-- the order of keys. -/
def kl (a b : ByteArray) : Bool := decide (strC a b < 0)
theorem kl_ko : KO kl where
  irr := fun a => decide_eq_false (by rw [(strC_is.zero a a).2 rfl]; omega)
  tr := fun a b c h1 h2 => decide_eq_true (strC_is.lt (of_decide_eq_true h1) (by have := of_decide_eq_true h2; omega))
  tot := fun a b => by
    rcases strC_is.range a b with h | h | h
    · exact Or.inl (decide_eq_true (by omega))
    · exact Or.inr (Or.inl ((strC_is.zero a b).1 h))
    · exact Or.inr (Or.inr (decide_eq_true (by rw [strC_is.flip a b]; omega)))
/-- tags in order, of each key the last. -/
def sortT (l : List TagP) : List TagP := srtD kl l
def cK : Tg → Tg → Int := fun x y => strC x.1 y.1
theorem cK_any : CmpA 85 cK := fun x y W => (compareKeys_any x.1 x.2 y.1 y.2 W).mono fun e w' h => ⟨h.1, by rw [h.2]; exact twoT_below W x.1 x.2 y.1 y.2⟩
set_option maxRecDepth 100000 in
set_option maxHeartbeats 4000000 in
theorem cloneT_any (ad : Addr) (c : Nat) (l : List TagP) (w : World) (h : TgIn w (some ad) l) (hn : l.length ≤ 4398046511104) :
    Calls Tryz.prog 82 #[.slice (some ad) l.length c] w fun e w' => ∃ g cap, e = .returned (.slice (some ⟨g, 0, none⟩) l.length cap) ∧ w.heap.size ≤ g ∧ l.length ≤ cap ∧ OT w' w.heap.size (.slice (some ⟨g, 0, none⟩) l.length cap) l ∧ Below w.heap.size w w' := by
  have q29 : ∀ (w : World) (a : Option Addr) (n c n' c' : Nat), (binOp .eql 29 (.slice a n c) (.slice none n' c')).run Tryz.prog w = .ok (.bool a.isNone) w := fun w a n c n' c' => Lib.run_eql_slice_nil w _ _ a n c n' c' Tryz.underlying29
  have hB0 : Below w.heap.size w (w.alloc (.cells #[] 102)) := (Below.refl _ w).alloc (Nat.le_refl _) _
  have own0 : OT (w.alloc (.cells #[] 102)) w.heap.size (.slice (some ⟨w.heap.size, 0, none⟩) 0 0) [] := by
    have := World.ownsRow_made (e := 102) (size := 2) (base := w.heap.size) w #[] 0 (by simp) (by simp [maxLen]) rfl
    simpa [OT, encT] using this
  obtain ⟨v', w', hr, ho, hg, hat⟩ := appT _ w.heap.size _ [] l own0 (by simp) (some ad) c (h.below hB0) (by simp; omega)
  rw [List.nil_append] at ho
  have hb : Below w.heap.size w w' := hB0.trans (grown_below own0 (by simp) hg)
  have hrep : ∃ g cap, v' = .slice (some ⟨g, 0, none⟩) l.length cap ∧ w.heap.size ≤ g ∧ l.length ≤ cap := by
    rcases ho.2 with ⟨e, e0⟩ | ⟨g, cap, cur, e1, e2, _, hc, _⟩
    · exfalso
      rw [e] at hat
      rcases hat with e | e <;> cases e
    · exact ⟨g, cap, e1, e2, hc⟩
  obtain ⟨g, cap, rfl, hgB, hcap⟩ := hrep
  have fin : Hid (w.heap.size ≤ g ∧ l.length ≤ cap ∧ OT w' w.heap.size (.slice (some ⟨g, 0, none⟩) l.length cap) l ∧ Below w.heap.size w w') := ⟨hgB, hcap, ho, hb⟩
  have hrH : Hid (∀ W, W = w.alloc (.cells #[] 102) → (Builtin.append_ #[29, 29] 29 #[.slice (some ⟨w.heap.size, 0, none⟩) 0 0, .slice (some ad) l.length c]).run Tryz.prog W = .ok (.slice (some ⟨g, 0, none⟩) l.length cap) w') := fun W e => by subst e; exact hr
  clear hr ho hg hat hb own0 hB0 h hn hgB hcap
  generalize l.length = n at *
  go_enter Tryz.func82, Tryz.ntmps82
  go_wp2_with (at_builtin; refine wpList_append_runS (by rfl) _ _ _ (by rfl) _ _ _ _ (by rfl) (by rfl) (hrH.out _ rfl) ?_)
  go_ret
  exact ⟨g, cap, rfl, fin.out⟩
set_option maxRecDepth 100000 in
theorem cloneT_nil (c : Nat) (w : World) : Calls Tryz.prog 82 #[.slice none 0 c] w fun e w' => e = .returned (.slice none 0 0) ∧ w' = w := by
  have q29 : ∀ (w : World) (a : Option Addr) (n c n' c' : Nat), (binOp .eql 29 (.slice a n c) (.slice none n' c')).run Tryz.prog w = .ok (.bool a.isNone) w := fun w a n c n' c' => Lib.run_eql_slice_nil w _ _ a n c n' c' Tryz.underlying29
  go_enter Tryz.func82, Tryz.ntmps82
  go_wp2_with fail
  go_ret
  exact ⟨rfl, rfl⟩
set_option maxRecDepth 100000 in
theorem reverse_nil (w : World) : Calls Tryz.prog 83 #[.slice none 0 0] w fun e w' => e = .returned undef ∧ w' = w := by
  go_enter Tryz.func83, Tryz.ntmps83
  go_wp2_with fail
  go_loopw [2, 3] (fun vi vj wr => vi = .int .i64 0 ∧ vj = .int .i64 (-1) ∧ wr = w) (fun _ _ _ => 0)
  case atStart => exact ⟨rfl, rfl, rfl⟩
  case round =>
    obtain ⟨rfl, rfl, rfl⟩ := hrel
    go_wp2_with fail
    go_end0
    exact ⟨rfl, rfl⟩
set_option maxRecDepth 100000 in
theorem insert_nil (w : World) : Calls Tryz.prog 158 #[.slice none 0 0, .int .i64 0, .int .i64 0, .func (.func 85) #[] #[]] w fun e w' => e = .returned undef ∧ w' = w := by
  go_enter Tryz.func158, Tryz.ntmps158
  go_wp2_with fail
  go_loopw [8] (fun vi wr => vi = .int .i64 1 ∧ wr = w) (fun _ _ => 0)
  case atStart => exact ⟨rfl, rfl⟩
  case round =>
    obtain ⟨rfl, rfl⟩ := hrel
    go_wp2_with fail
    go_end0
    exact ⟨rfl, rfl⟩
set_option maxRecDepth 100000 in
theorem stable_nil (w : World) : Calls Tryz.prog 129 #[.slice none 0 0, .int .i64 0, .func (.func 85) #[] #[]] w fun e w' => e = .returned undef ∧ w' = w := by
  go_enter Tryz.func129, Tryz.ntmps129
  go_wp2_with fail
  go_loopw [7, 8] (fun va vb wr => va = .int .i64 0 ∧ vb = .int .i64 20 ∧ wr = w) (fun _ _ _ => 0)
  case atStart => exact ⟨rfl, rfl, rfl⟩
  case round =>
    obtain ⟨rfl, rfl, hw⟩ := hrel
    subst hw
    go_wp2_with fail
    refine Calls.mono (insert_nil _) ?_
    rintro e w2 ⟨rfl, hw⟩
    subst hw
    go_wp2_with fail
    go_loopw [6, 7, 8] (fun vs va vb wr => vs = .int .i64 20 ∧ wr = w2) (fun _ _ _ _ => 0)
    case atStart => exact ⟨rfl, rfl⟩
    case round =>
      obtain ⟨rfl, hw⟩ := hrel
      subst hw
      go_wp2_with fail
      go_end0
      exact ⟨rfl, rfl⟩
set_option maxRecDepth 100000 in
theorem sortStable_nil (w : World) : Calls Tryz.prog 84 #[.slice none 0 0, .func (.func 85) #[] #[]] w fun e w' => e = .returned undef ∧ w' = w := by
  go_enter Tryz.func84, Tryz.ntmps84
  go_wp2_with fail
  refine Calls.mono (stable_nil _) ?_
  rintro e w2 ⟨rfl, hw⟩
  subst hw
  go_wp2_with fail
  go_end0
  exact ⟨rfl, rfl⟩
set_option maxRecDepth 100000 in
theorem compact_nil (w : World) : Calls Tryz.prog 86 #[.slice none 0 0, .func (.func 87) #[] #[]] w fun e w' => e = .returned (.slice none 0 0) ∧ w' = w := by
  go_enter Tryz.func86, Tryz.ntmps86
  go_wp2_with fail
  go_ret
  exact ⟨rfl, rfl⟩
/-- the block of a row of tags. -/
def ShT (w : World) (g cap : Nat) : Prop := ∃ cur : Array Value, w.heap[g]? = some (.cells cur 102 (0, 0)) ∧ cap ≤ maxLen ∧ cur.size = cap * 2
theorem OT.shp {w : World} {B g n cap : Nat} {l : List TagP} (h : OT w B (.slice (some ⟨g, 0, none⟩) n cap) l) : ShT w g cap := by
  rcases h.2 with ⟨e, _⟩ | ⟨g', cap', cur, e1, _, hg, _, hm, hs, _⟩
  · cases e
  · injection e1 with e1 e2 e3
    injection e1 with e1
    injection e1 with e1
    subst e1 e3
    exact ⟨cur, hg, hm, hs⟩
theorem ShT.ob {w w' : World} {g cap : Nat} (h : ShT w g cap) (o : OB g w w') : ShT w' g cap := by
  obtain ⟨cur, hg, hm, hs⟩ := h
  obtain ⟨c', h1, h2⟩ := o.shp cur _ hg
  exact ⟨c', h1, hm, h2.trans hs⟩
theorem ShT.own {w : World} {B g m cap : Nat} {G : Nat → Tg} (h : ShT w g cap) (t : TR w g 0 m G) (hc : m ≤ cap) (hB : B ≤ g) : OT w B (.slice (some ⟨g, 0, none⟩) m cap) ((List.range m).map G) := by
  obtain ⟨cur, hg, hm, hs⟩ := h
  have ln : ((List.range m).map G).length = m := by simp
  refine ⟨by rw [encT_len], Or.inr ⟨g, cap, cur, by rw [ln], hB, hg, by rw [ln]; exact hc, hm, hs, ?_⟩⟩
  rw [ln]
  apply List.ext_getElem?
  intro j
  rw [List.getElem?_take]
  by_cases hj : j < m * 2
  · rw [if_pos hj, Array.getElem?_toList]
    have hk : j / 2 < m := by omega
    have hget : ((List.range m).map G)[j / 2]? = some (G (j / 2)) := by simp [hk]
    obtain ⟨e1, e2⟩ := encT_get _ _ _ hget
    obtain ⟨⟨t1, t2⟩, _, _⟩ := t.2 (j / 2) hk
    rw [cell_of_row _ g _ cur _ (0, 0) hg] at t1 t2
    rw [Nat.zero_add] at t1 t2
    rcases Nat.mod_two_eq_zero_or_one j with c | c
    · have ej : j = j / 2 * 2 := by omega
      rw [ej, t1, e1]
    · have ej : j = j / 2 * 2 + 1 := by omega
      rw [ej, t2, e2]
  · rw [if_neg hj]
    exact (List.getElem?_eq_none (by rw [encT_len, ln]; omega)).symm
/-- what is told owns its block. -/
def OwnR (w w' : World) (e : Ending) (l : List TagP) : Prop := ∃ v, e = .returned v ∧ OT w' w.heap.size v (sortT l)
/-- what Sort tells: none, or a row of its own. -/
def SortedR (w w' : World) (e : Ending) (l : List TagP) : Prop :=
  (l = [] ∧ e = .returned (.slice none 0 0)) ∨ ∃ (g m cap : Nat) (G : Nat → Tg), e = .returned (.slice (some ⟨g, 0, none⟩) m cap) ∧ w.heap.size ≤ g ∧ m ≤ cap ∧ TR w' g 0 m G ∧ (List.range m).map G = sortT l
set_option maxRecDepth 100000 in
set_option maxHeartbeats 4000000 in
theorem sortO_any (a : Option Addr) (c : Nat) (l : List TagP) (w : World) (h : TgIn w a l) (hn : l.length ≤ 4398046511104) :
    Calls Tryz.prog 22 #[.slice a l.length c] w fun e w' => (SortedR w w' e l ∧ OwnR w w' e l) ∧ Below w.heap.size w w' := by
  cases a with
  | none =>
    obtain rfl : l = [] := by
      rcases h with e | ⟨b, off, e, _⟩
      · exact e
      · cases e
    show Calls Tryz.prog 22 #[.slice none 0 c] w _
    go_enter Tryz.func22, Tryz.ntmps22
    go_wp2_with fail
    refine Calls.mono (cloneT_nil _ _) ?_
    rintro e w2 ⟨rfl, hw⟩
    subst hw
    go_wp2_with fail
    refine Calls.mono (reverse_nil _) ?_
    rintro e w2 ⟨rfl, hw⟩
    subst hw
    go_wp2_with fail
    refine Calls.mono (sortStable_nil _) ?_
    rintro e w2 ⟨rfl, hw⟩
    subst hw
    go_wp2_with fail
    refine Calls.mono (compact_nil _) ?_
    rintro e w2 ⟨rfl, hw⟩
    subst hw
    go_wp2_with fail
    go_ret
    exact ⟨⟨Or.inl ⟨rfl, rfl⟩, ⟨_, rfl, OT.nil _ _⟩⟩, Below.refl _ _⟩
  | some ad =>
    have C1 : Hid _ := cloneT_any ad c l w h hn
    have hs : Hid (sortT l = sortT l) := rfl
    obtain ⟨n, hnl⟩ : ∃ n, l.length = n := ⟨_, rfl⟩
    rw [hnl] at C1 hn ⊢
    have hnH : Hid (l.length = n) := hnl
    clear h hnl hs
    go_enter Tryz.func22, Tryz.ntmps22
    go_wp2_with fail
    refine Calls.mono C1.out ?_
    rintro e w1 ⟨g, cap, rfl, hg, hcap, ho, hb⟩
    have T1 : TR w1 g 0 n (atT l) := by
      have := hnH.out
      subst this
      exact OT.tr ho
    have H1 : Hid (ShT w1 g cap) := by
      have := hnH.out
      subst this
      exact OT.shp ho
    have B1 : Hid (Below w.heap.size w w1) := hb
    have C2 : Hid _ := reverse_any g 0 n cap (atT l) w1 T1 (by omega)
    clear ho hb T1 C1
    go_wp2_with fail
    refine Calls.mono C2.out ?_
    rintro e w2 ⟨rfl, T2, O2⟩
    have C3 : Hid _ := sortStable_any (RT kl) cK cK_any (RT_tr kl_ko) g 0 n cap (by omega) (fun k => (atT l (n - 1 - k), k)) w2 T2 (RT_all kl_ko (fun k => atT l (n - 1 - k)) n)
    have B2 : Hid (Below w.heap.size w w2) := O2.into B1.out hg B1.out.size
    have H2 : Hid (ShT w2 g cap) := H1.out.ob O2
    clear T2 O2 C2 B1 H1
    go_wp2_with fail
    refine Calls.mono C3.out ?_
    rintro e w3 ⟨rfl, f, P3, S3, T3, O3⟩
    have B3 : Hid (Below w.heap.size w w3) := O3.into B2.out hg B2.out.size
    have C4 : Hid _ := compact_any g 0 n cap (fs f) w3 T3 (by omega) hcap
    have is : Hid (fsts (fs f) n = sortT l) := by
      have := sort_is kl_ko (atT l) n f S3 P3
      rw [← hnH.out, atT_map] at this
      rw [← hnH.out]
      exact this
    have H3 : Hid (ShT w3 g cap) := H2.out.ob O3
    clear P3 S3 T3 O3 C3 B2 H2
    go_wp2_with fail
    refine Calls.mono C4.out ?_
    rintro e w4 ⟨m, G, rfl, hm, T4, hG, O4⟩
    have fin : Hid ((SortedR w w4 (.returned (.slice (some ⟨g, 0, none⟩) m cap)) l ∧ OwnR w w4 (.returned (.slice (some ⟨g, 0, none⟩) m cap)) l) ∧ Below w.heap.size w w4) := ⟨⟨Or.inr ⟨g, m, cap, G, rfl, hg, by omega, T4, hG.trans is.out⟩, ⟨_, rfl, by rw [← hG.trans is.out]; exact (H3.out.ob O4).own T4 (by omega) hg⟩⟩, O4.into B3.out hg B3.out.size⟩
    clear T4 hG O4 C4 B3 is H3
    go_wp2_with fail
    go_ret
    exact fin.out
theorem sort_any (a : Option Addr) (c : Nat) (l : List TagP) (w : World) (h : TgIn w a l) (hn : l.length ≤ 4398046511104) :
    Calls Tryz.prog 22 #[.slice a l.length c] w fun e w' => SortedR w w' e l ∧ Below w.heap.size w w' :=
  (sortO_any a c l w h hn).mono fun e w' h => ⟨h.1.1, h.2⟩
end Go.Proofs.YtbojljmacheccaaGreatDoor.So
