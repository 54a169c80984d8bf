
import Derived.Test.YtepakgfdakeibaaGreatDoorSoG
namespace Go.Proofs.YtepakgfdakeibaaGreatDoor.So
open Go.RowKit
set_option linter.unusedVariables false
set_option linter.unusedSimpArgs false
set_option maxRecDepth 100000 in
set_option maxHeartbeats 4000000 in
/-- symMerge of one entry and a row. -/
theorem sym_up (R : En → En → Prop) (c : Tg → Tg → Int) (hC : CmpA 50 c) (b off n cap : Nat) (f : Nat → En) (a d : Nat) (w : World) (h : TR w b off n (fs f)) (ha : a + 1 < d) (hd : d ≤ n) (hn : n ≤ 4611686018427387904)
    (X : Xs R (ltE c) a (a + 1) d f) (S : Sd R (a + 1) d f) (tr : ∀ x y z, R x y → R y z → R x z) :
    Calls Tryz.prog 95 #[.slice (some ⟨b, off, none⟩) n cap, .int .i64 (a : Int), .int .i64 ((a + 1 : Nat) : Int), .int .i64 (d : Int), .func (.func 50) #[] #[]] w fun e w' => e = .returned undef ∧ ∃ g, Pr a d f g ∧ Sd R a d g ∧ TR w' b off n (fs g) ∧ OB b w w' := by
  have H0 : Hid (TR w b off n (fs f)) := h
  have HX : Hid (Xs R (ltE c) a (a + 1) d f) := X
  have HS : Hid (Sd R (a + 1) d f) := S
  have HC : Hid (CmpA 50 c) := hC
  clear h X hC S
  have z0 : ((a + 1 : Nat) : Int) - (a : Int) = 1 := by omega
  generalize hm : a + 1 = m at *
  have z1 : IntKind.i64.wrap ((m : Int) - (a : Int)) = 1 := by rw [z0]; rfl
  have z2 : (((m : Int) - (a : Int)) == 1) = true := by rw [z0]; rfl
  go_enter Tryz.func95, Tryz.ntmps95
  go_wp2_with fail
  go_loopw [10, 11] (fun vi vj wr => ∃ i j : Nat, vi = .int .i64 (i : Int) ∧ vj = .int .i64 (j : Int) ∧ m ≤ i ∧ i ≤ j ∧ j ≤ d ∧ (∀ k, m ≤ k → k < i → R (f k) (f a)) ∧ (∀ k, j ≤ k → k < d → R (f a) (f k)) ∧ TR wr b off n (fs f) ∧ OB b w wr) (fun vi vj _ => (intOf vj).toNat - (intOf vi).toNat)
  case atStart => exact ⟨m, d, rfl, rfl, Nat.le_refl _, by omega, Nat.le_refl _, fun k _ _ => by omega, fun k _ _ => by omega, H0.out, OB.refl _ _⟩
  case round =>
    clear H0
    obtain ⟨i, j, rfl, rfl, mi, ij, jd, lo, hi, hT, hO⟩ := hrel
    by_cases hij : i < j
    · have hijI : (i : Int) < (j : Int) := by omega
      have u1 : IntKind.i64.wrap ((i : Int) + (j : Int)) = (i : Int) + (j : Int) := IntWalk.i64_in _ (by omega)
      have u2 : IntKind.u64.wrap ((i : Int) + (j : Int)) = (i : Int) + (j : Int) := by rw [IntKind.wrap_u64]; omega
      obtain ⟨q, hq⟩ : ∃ q : Nat, q = (i + j) / 2 := ⟨_, rfl⟩
      have hqI : Hid (((i : Int) + (j : Int)) / 2 = (q : Int)) := by show _ = _; omega
      have qi : i ≤ q := by omega
      have qj : q < j := by omega
      clear hq
      have q0 : (0 : Int) ≤ (q : Int) := by omega
      have q1 : (q : Int) < (n : Int) := by omega
      have p0 : (0 : Int) ≤ (a : Int) := by omega
      have p1 : (a : Int) < (n : Int) := by omega
      obtain ⟨⟨a1, a2⟩, _, _⟩ := hT.2 q (by omega)
      obtain ⟨⟨b1, b2⟩, _, _⟩ := hT.2 a (by omega)
      have hTH : Hid (TR wr b off n (fs f)) := hT
      have hOH : Hid (OB b w wr) := hO
      have loH : Hid (∀ k, m ≤ k → k < i → R (f k) (f a)) := lo
      have hiH : Hid (∀ k, j ≤ k → k < d → R (f a) (f k)) := hi
      have bl : b < wr.heap.size := hT.1
      have hx := HX.out a q (Nat.le_refl _) (by omega) (by omega) (by omega)
      have CH := HC.out (fs f q) (fs f a)
      have CH : Hid _ := CH
      have ltv : ltE c (f q) (f a) = decide (c (fs f q) (fs f a) < 0) := rfl
      rw [ltv] at hx
      have hxH : Hid _ := hx
      generalize c (fs f q) (fs f a) = cv at CH hxH
      generalize fs f q = x at a1 a2 CH
      generalize fs f a = y at b1 b2 CH
      clear hT hO lo hi hx ltv
      by_cases hcc : cv < 0
      · have hcc2 : decide (cv < 0) = true := decide_eq_true hcc
        have hRH : Hid (R (f q) (f a)) := hxH.out.1 hcc2
        go_wp2_with fail
        rw [hqI.out]
        refine wp_region_noPanic ?_
        refine wp_region_held_drew (S := fun W => (W.cell? ⟨b, off + q * 2, none⟩ = some (.string x.1) ∧ W.cell? ⟨b, off + q * 2 + 1, none⟩ = some (.string x.2)) ∧ W.cell? ⟨b, off + a * 2, none⟩ = some (.string y.1) ∧ W.cell? ⟨b, off + a * 2 + 1, none⟩ = some (.string y.2)) (by kernel_rfl) ⟨⟨a1, a2⟩, b1, b2⟩ (fun hHeld => ?_)
        refine zT 0 (v := ?_) rfl ?_ ?_
        rotate_left 1
        · (intro w0 hSw; (try dsimp only at hSw); obtain ⟨⟨s1, s2⟩, s3, s4⟩ := hSw; go_simp; try with_reducible rfl)
        (try simp only [z1, z2, z3]); (try simp only [Act.put, z4, z5, z6])
        refine zT 1 (v := ?_) rfl ?_ ?_
        rotate_left 1
        · (intro w0 hSw; (try dsimp only at hSw); obtain ⟨⟨s1, s2⟩, s3, s4⟩ := hSw; go_simp; try with_reducible rfl)
        (try simp only [z1, z2, z3]); (try simp only [Act.put, z4, z5, z6])
        refine zT 2 (v := ?_) rfl ?_ ?_
        rotate_left 1
        · (intro w0 hSw; (try dsimp only at hSw); obtain ⟨⟨s1, s2⟩, s3, s4⟩ := hSw; go_simp; try with_reducible rfl)
        (try simp only [z1, z2, z3]); (try simp only [Act.put, z4, z5, z6])
        refine zT 3 (v := ?_) rfl ?_ ?_
        rotate_left 1
        · (intro w0 hSw; (try dsimp only at hSw); obtain ⟨⟨s1, s2⟩, s3, s4⟩ := hSw; go_simp; try with_reducible rfl)
        (try simp only [z1, z2, z3]); (try simp only [Act.put, z4, z5, z6])
        refine zT 4 (v := ?_) rfl ?_ ?_
        rotate_left 1
        · (intro w0 hSw; (try dsimp only at hSw); obtain ⟨⟨s1, s2⟩, s3, s4⟩ := hSw; go_simp; try with_reducible rfl)
        (try simp only [z1, z2, z3]); (try simp only [Act.put, z4, z5, z6])
        refine zT 5 (v := ?_) rfl ?_ ?_
        rotate_left 1
        · (intro w0 hSw; (try dsimp only at hSw); obtain ⟨⟨s1, s2⟩, s3, s4⟩ := hSw; go_simp; try with_reducible rfl)
        (try simp only [z1, z2, z3]); (try simp only [Act.put, z4, z5, z6])
        refine zT 6 (v := ?_) rfl ?_ ?_
        rotate_left 1
        · (intro w0 hSw; (try dsimp only at hSw); obtain ⟨⟨s1, s2⟩, s3, s4⟩ := hSw; go_simp; try with_reducible rfl)
        (try simp only [z1, z2, z3]); (try simp only [Act.put, z4, z5, z6])
        refine zT 7 (v := ?_) rfl ?_ ?_
        rotate_left 1
        · (intro w0 hSw; (try dsimp only at hSw); obtain ⟨⟨s1, s2⟩, s3, s4⟩ := hSw; go_simp; try with_reducible rfl)
        (try simp only [z1, z2, z3]); (try simp only [Act.put, z4, z5, z6])
        refine zT 8 (v := ?_) rfl ?_ ?_
        rotate_left 1
        · (intro w0 hSw; (try dsimp only at hSw); obtain ⟨⟨s1, s2⟩, s3, s4⟩ := hSw; go_simp; try with_reducible rfl)
        (try simp only [z1, z2, z3]); (try simp only [Act.put, z4, z5, z6])
        refine wpAnyH_ready (rs := [9]) (by kernel_rfl) (by simp) ?_
        refine AllReadyH.cons (o := _) rfl (fun K hK => ?_) AllReadyH.nil
        go_simp
        refine Calls.mono (CH.out _) ?_
        rintro e w' ⟨rfl, BB⟩
        try dsimp only
        refine hK _ _ ?_ (fun hHeld => ?_)
        · exact ⟨⟨by rw [BB.cell (p := ⟨b, off + q * 2, none⟩) bl]; exact a1, by rw [BB.cell (p := ⟨b, off + q * 2 + 1, none⟩) bl]; exact a2⟩, by rw [BB.cell (p := ⟨b, off + a * 2, none⟩) bl]; exact b1, by rw [BB.cell (p := ⟨b, off + a * 2 + 1, none⟩) bl]; exact b2⟩
        clear hK K
        (try simp only [z1, z2, z3]); (try simp only [Act.put, z4, z5, z6])
        refine zT 10 (v := ?_) rfl ?_ ?_
        rotate_left 1
        · (intro w0 hSw; (try dsimp only at hSw); obtain ⟨⟨s1, s2⟩, s3, s4⟩ := hSw; go_simp; try with_reducible rfl)
        (try simp only [z1, z2, z3]); (try simp only [Act.put, z4, z5, z6])
        refine wpAnyH_done (by kernel_rfl) ?_ _
        refine NoPanic.normal ?_
        have T2H : Hid (TR w' b off n (fs f)) := TR.below (show TR wr.drew b off n (fs f) from hTH.out) BB
        have O2 : Hid (OB b w w') := (show OB b w wr.drew from hOH.out.drew).trans (OB.below BB)
        have qw : IntKind.i64.wrap ((q : Int) + 1) = ((q + 1 : Nat) : Int) := IntWalk.i64_in _ (by omega)
        clear a1 a2 b1 b2 BB
        go_wp2_with fail
        exact ⟨⟨q + 1, j, by first | rfl | simp, rfl, by omega, by omega, jd, fun k k1 k2 => HS.out.dn tr k1 (show k ≤ q by omega) (by omega) hRH.out, hiH.out, T2H.out, O2.out⟩, by simp [intOf]; omega⟩
      · have hcc2 : decide (cv < 0) = false := decide_eq_false hcc
        have hRH : Hid (R (f a) (f q)) := hxH.out.2 hcc2
        go_wp2_with fail
        rw [hqI.out]
        refine wp_region_noPanic ?_
        refine wp_region_held_drew (S := fun W => (W.cell? ⟨b, off + q * 2, none⟩ = some (.string x.1) ∧ W.cell? ⟨b, off + q * 2 + 1, none⟩ = some (.string x.2)) ∧ W.cell? ⟨b, off + a * 2, none⟩ = some (.string y.1) ∧ W.cell? ⟨b, off + a * 2 + 1, none⟩ = some (.string y.2)) (by kernel_rfl) ⟨⟨a1, a2⟩, b1, b2⟩ (fun hHeld => ?_)
        refine zT 0 (v := ?_) rfl ?_ ?_
        rotate_left 1
        · (intro w0 hSw; (try dsimp only at hSw); obtain ⟨⟨s1, s2⟩, s3, s4⟩ := hSw; go_simp; try with_reducible rfl)
        (try simp only [z1, z2, z3]); (try simp only [Act.put, z4, z5, z6])
        refine zT 1 (v := ?_) rfl ?_ ?_
        rotate_left 1
        · (intro w0 hSw; (try dsimp only at hSw); obtain ⟨⟨s1, s2⟩, s3, s4⟩ := hSw; go_simp; try with_reducible rfl)
        (try simp only [z1, z2, z3]); (try simp only [Act.put, z4, z5, z6])
        refine zT 2 (v := ?_) rfl ?_ ?_
        rotate_left 1
        · (intro w0 hSw; (try dsimp only at hSw); obtain ⟨⟨s1, s2⟩, s3, s4⟩ := hSw; go_simp; try with_reducible rfl)
        (try simp only [z1, z2, z3]); (try simp only [Act.put, z4, z5, z6])
        refine zT 3 (v := ?_) rfl ?_ ?_
        rotate_left 1
        · (intro w0 hSw; (try dsimp only at hSw); obtain ⟨⟨s1, s2⟩, s3, s4⟩ := hSw; go_simp; try with_reducible rfl)
        (try simp only [z1, z2, z3]); (try simp only [Act.put, z4, z5, z6])
        refine zT 4 (v := ?_) rfl ?_ ?_
        rotate_left 1
        · (intro w0 hSw; (try dsimp only at hSw); obtain ⟨⟨s1, s2⟩, s3, s4⟩ := hSw; go_simp; try with_reducible rfl)
        (try simp only [z1, z2, z3]); (try simp only [Act.put, z4, z5, z6])
        refine zT 5 (v := ?_) rfl ?_ ?_
        rotate_left 1
        · (intro w0 hSw; (try dsimp only at hSw); obtain ⟨⟨s1, s2⟩, s3, s4⟩ := hSw; go_simp; try with_reducible rfl)
        (try simp only [z1, z2, z3]); (try simp only [Act.put, z4, z5, z6])
        refine zT 6 (v := ?_) rfl ?_ ?_
        rotate_left 1
        · (intro w0 hSw; (try dsimp only at hSw); obtain ⟨⟨s1, s2⟩, s3, s4⟩ := hSw; go_simp; try with_reducible rfl)
        (try simp only [z1, z2, z3]); (try simp only [Act.put, z4, z5, z6])
        refine zT 7 (v := ?_) rfl ?_ ?_
        rotate_left 1
        · (intro w0 hSw; (try dsimp only at hSw); obtain ⟨⟨s1, s2⟩, s3, s4⟩ := hSw; go_simp; try with_reducible rfl)
        (try simp only [z1, z2, z3]); (try simp only [Act.put, z4, z5, z6])
        refine zT 8 (v := ?_) rfl ?_ ?_
        rotate_left 1
        · (intro w0 hSw; (try dsimp only at hSw); obtain ⟨⟨s1, s2⟩, s3, s4⟩ := hSw; go_simp; try with_reducible rfl)
        (try simp only [z1, z2, z3]); (try simp only [Act.put, z4, z5, z6])
        refine wpAnyH_ready (rs := [9]) (by kernel_rfl) (by simp) ?_
        refine AllReadyH.cons (o := _) rfl (fun K hK => ?_) AllReadyH.nil
        go_simp
        refine Calls.mono (CH.out _) ?_
        rintro e w' ⟨rfl, BB⟩
        try dsimp only
        refine hK _ _ ?_ (fun hHeld => ?_)
        · exact ⟨⟨by rw [BB.cell (p := ⟨b, off + q * 2, none⟩) bl]; exact a1, by rw [BB.cell (p := ⟨b, off + q * 2 + 1, none⟩) bl]; exact a2⟩, by rw [BB.cell (p := ⟨b, off + a * 2, none⟩) bl]; exact b1, by rw [BB.cell (p := ⟨b, off + a * 2 + 1, none⟩) bl]; exact b2⟩
        clear hK K
        (try simp only [z1, z2, z3]); (try simp only [Act.put, z4, z5, z6])
        refine zT 10 (v := ?_) rfl ?_ ?_
        rotate_left 1
        · (intro w0 hSw; (try dsimp only at hSw); obtain ⟨⟨s1, s2⟩, s3, s4⟩ := hSw; go_simp; try with_reducible rfl)
        (try simp only [z1, z2, z3]); (try simp only [Act.put, z4, z5, z6])
        refine wpAnyH_done (by kernel_rfl) ?_ _
        refine NoPanic.normal ?_
        have T2H : Hid (TR w' b off n (fs f)) := TR.below (show TR wr.drew b off n (fs f) from hTH.out) BB
        have O2 : Hid (OB b w w') := (show OB b w wr.drew from hOH.out.drew).trans (OB.below BB)
        clear a1 a2 b1 b2 BB
        go_wp2_with fail
        exact ⟨⟨i, q, rfl, by first | rfl | simp, mi, by omega, by omega, loH.out, fun k k1 k2 => HS.out.up tr (by omega) k1 k2 hRH.out, T2H.out, O2.out⟩, by simp [intOf]; omega⟩
    · have hije : i = j := by omega
      subst hije
      clear hij
      have hijI : ¬ (i : Int) < (i : Int) := by omega
      have fin : Hid (Pr a d f (rot f a m i) ∧ Sd R a d (rot f a m i)) := by
        subst hm
        exact ⟨(rot_pr f (by omega) mi).wide (Nat.le_refl _) jd, one_up mi jd HS.out lo hi⟩
      have hTH : Hid (TR wr b off n (fs (rot f a m m))) := by
        subst hm
        show TR wr b off n _
        rw [rot_start]; exact hT
      have hOH : Hid (OB b w wr) := hO
      have v1 : IntKind.i64.wrap ((i : Int) - 1) = (i : Int) - 1 := IntWalk.i64_in _ (by omega)
      clear hT hO lo hi
      go_wp2_with fail
      go_loopw [13] (fun vk wr => ∃ k : Nat, vk = .int .i64 (k : Int) ∧ a ≤ k ∧ k + 1 ≤ i ∧ TR wr b off n (fs (rot f a m (k + 1))) ∧ OB b w wr) (fun vk _ => i - (intOf vk).toNat)
      case atStart => exact ⟨a, rfl, Nat.le_refl _, by omega, by rw [hm]; exact hTH.out, hOH.out⟩
      case round =>
        clear hTH hOH
        obtain ⟨k, rfl, ak, ki, hT, hO⟩ := hrel
        by_cases hk : k + 1 < i
        · have hkI : (k : Int) < (i : Int) - 1 := by omega
          obtain ⟨⟨a1, a2⟩, a3, a4⟩ := hT.2 k (by omega)
          obtain ⟨⟨b1, b2⟩, b3, b4⟩ := hT.2 (k + 1) (by omega)
          obtain ⟨x, hx⟩ : ∃ x, x = fs (rot f a m (k + 1)) k := ⟨_, rfl⟩
          obtain ⟨y, hy⟩ : ∃ y, y = fs (rot f a m (k + 1)) (k + 1) := ⟨_, rfl⟩
          rw [← hx] at a1 a2
          rw [← hy] at b1 b2
          have hxH : Hid _ := hx
          have hyH : Hid _ := hy
          have hTH : Hid (TR wr b off n (fs (rot f a m (k + 1)))) := hT
          have hOH : Hid (OB b w wr) := hO
          clear hT hO hx hy
          have w1 : IntKind.i64.wrap ((k : Int) + 1) = (k : Int) + 1 := IntWalk.i64_in _ (by omega)
          have i1 : (0 : Int) ≤ (k : Int) := by omega
          have i2 : (k : Int) < (n : Int) := by omega
          have j1 : (0 : Int) ≤ (k : Int) + 1 := by omega
          have j2 : (k : Int) + 1 < (n : Int) := by omega
          have q1 : ¬ off + k * 2 = off + (k + 1) * 2 := by omega
          have q2 : ¬ off + k * 2 = off + (k + 1) * 2 + 1 := by omega
          have q3 : ¬ off + k * 2 + 1 = off + (k + 1) * 2 := by omega
          have q4 : ¬ off + k * 2 + 1 = off + (k + 1) * 2 + 1 := by omega
          go_wp2_with fail
          go_region
          have T3 : TR ((((wr.setCell ⟨b, off + k * 2, none⟩ (.string y.1)).setCell ⟨b, off + k * 2 + 1, none⟩ (.string y.2)).setCell ⟨b, off + (k + 1) * 2, none⟩ (.string x.1)).setCell ⟨b, off + (k + 1) * 2 + 1, none⟩ (.string x.2)) b off n (fs (rot f a m (k + 1 + 1))) := by
            have e := rot_fwd f a k ak
            rw [hm] at e
            rw [show k + 1 + 1 = k + 2 from rfl, ← e, fs_sw, sw_upd2, ← hxH.out, ← hyH.out]
            exact TR.set (TR.set hTH.out (show k < n by omega) _ _) (show k + 1 < n by omega) _ _
          have O3 : OB b w ((((wr.setCell ⟨b, off + k * 2, none⟩ (.string y.1)).setCell ⟨b, off + k * 2 + 1, none⟩ (.string y.2)).setCell ⟨b, off + (k + 1) * 2, none⟩ (.string x.1)).setCell ⟨b, off + (k + 1) * 2 + 1, none⟩ (.string x.2)) := (((hOH.out.trans (OB.set _ _ _)).trans (OB.set _ _ _)).trans (OB.set _ _ _)).trans (OB.set _ _ _)
          generalize ((((wr.setCell ⟨b, off + k * 2, none⟩ (.string y.1)).setCell ⟨b, off + k * 2 + 1, none⟩ (.string y.2)).setCell ⟨b, off + (k + 1) * 2, none⟩ (.string x.1)).setCell ⟨b, off + (k + 1) * 2 + 1, none⟩ (.string x.2)) = W3 at T3 O3 ⊢
          have T3H : Hid (TR W3 b off n (fs (rot f a m (k + 1 + 1)))) := T3
          have O3H : Hid (OB b w W3) := O3
          clear T3 O3 a1 a2 a3 a4 b1 b2 b3 b4
          go_wp2_with fail
          exact ⟨⟨k + 1, by first | rfl | simp, by omega, by omega, T3H.out, O3H.out.drew⟩, by simp [intOf]; omega⟩
        · have hke : k + 1 = i := by omega
          rw [hke] at hT
          have hkI : ¬ (k : Int) < (i : Int) - 1 := by omega
          have hTH : Hid (TR wr b off n (fs (rot f a m i))) := hT
          have hOH : Hid (OB b w wr) := hO
          clear hT hO hke
          go_wp2_with fail
          first | go_end0 | (simp only [Exit.inBlock, Exit.then]; refine bodyPost_ret (results_none rfl _ _ _) rfl ?_) | refine bodyPost_ret (results_none rfl _ _ _) rfl ?_
          exact ⟨rfl, _, fin.out.1, fin.out.2, hTH.out, hOH.out⟩
end Go.Proofs.YtepakgfdakeibaaGreatDoor.So
