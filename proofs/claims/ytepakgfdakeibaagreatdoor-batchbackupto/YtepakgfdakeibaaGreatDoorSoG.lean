
import Derived.Test.YtepakgfdakeibaaGreatDoorSoF
namespace Go.Proofs.YtepakgfdakeibaaGreatDoor.So
open Go.RowKit
set_option linter.unusedVariables false
set_option linter.unusedSimpArgs false
/-- a tag and where it stood. -/
abbrev En := Tg × Nat
def fs (f : Nat → En) : Nat → Tg := fun k => (f k).1
theorem fs_rot (f : Nat → En) (a m b : Nat) : fs (rot f a m b) = rot (fs f) a m b := by
  funext k; unfold fs rot; repeat' split
  all_goals rfl
theorem fs_sw (f : Nat → En) (i j : Nat) : fs (sw f i j) = sw (fs f) i j := by
  funext k; unfold fs sw; repeat' split
  all_goals rfl
/-- what a function value answers of two tags. -/
def CmpA (g : Nat) (c : Tg → Tg → Int) : Prop := ∀ (x y : Tg) (W : World), Calls Tryz.prog g #[.agg #[.string x.1, .string x.2], .agg #[.string y.1, .string y.2]] W fun e w' => e = .returned (.int .i64 (c x y)) ∧ Below W.heap.size W w'
abbrev ltE (c : Tg → Tg → Int) : En → En → Bool := fun x y => decide (c x.1 y.1 < 0)
set_option maxRecDepth 100000 in
set_option maxHeartbeats 4000000 in
theorem insert_any (R : En → En → Prop) (c : Tg → Tg → Int) (hC : CmpA 50 c) (b off n cap : Nat) (f : Nat → En) (a d : Nat) (w : World) (h : TR w b off n (fs f)) (ha : a ≤ d) (hd : d ≤ n) (hn : n ≤ 4611686018427387904)
    (X : ∀ i j, a ≤ i → i < j → j < d → (ltE c (f j) (f i) = true → R (f j) (f i)) ∧ (ltE c (f j) (f i) = false → R (f i) (f j))) (tr : ∀ x y z, R x y → R y z → R x z) :
    Calls Tryz.prog 94 #[.slice (some ⟨b, off, none⟩) n cap, .int .i64 (a : Int), .int .i64 (d : Int), .func (.func 50) #[] #[]] w fun e w' => e = .returned undef ∧ ∃ g, Pr a d f g ∧ Sd R a d g ∧ TR w' b off n (fs g) ∧ OB b w w' := by
  have H0 : Hid (TR w b off n (fs f)) := h
  have HX : Hid _ := X
  have HC : Hid (CmpA 50 c) := hC
  have z1 : IntKind.i64.wrap ((a : Int) + 1) = ((a + 1 : Nat) : Int) := IntWalk.i64_in _ (by omega)
  clear h X hC
  go_enter Tryz.func94, Tryz.ntmps94
  go_wp2_with fail
  go_loopw [8] (fun vi wr => ∃ (i : Nat) (g : Nat → En), vi = .int .i64 (i : Int) ∧ a < i ∧ (i ≤ d ∨ i = a + 1) ∧ Pr a (min i d) f g ∧ Sd R a (min i d) g ∧ TR wr b off n (fs g) ∧ OB b w wr) (fun vi _ => d + 1 - (intOf vi).toNat)
  case atStart => exact ⟨a + 1, f, by first | rfl | (congr 1), by omega, Or.inr rfl, Pr.refl _ _ _, Sd.none (by omega) _, H0.out, OB.refl _ _⟩
  case round =>
    clear H0 z1
    obtain ⟨i, g, rfl, hai, hi, hP, hS, hT, hO⟩ := hrel
    have hTH : Hid (TR wr b off n (fs g)) := hT
    have hOH : Hid (OB b w wr) := hO
    have hPH : Hid (Pr a (min i d) f g) := hP
    have hSH : Hid (Sd R a (min i d) g) := hS
    clear hT hO hP hS
    by_cases hid : i < d
    · have hidI : (i : Int) < (d : Int) := by omega
      have hX2 : Hid (∀ k, a ≤ k → k < i → (ltE c (g i) (g k) = true → R (g i) (g k)) ∧ (ltE c (g i) (g k) = false → R (g k) (g i))) := by
        have e1 : g i = f i := hPH.out.out (by omega)
        have hm : min i d = i := by omega
        have hp := hPH.out
        rw [hm] at hp
        show ∀ k, a ≤ k → k < i → _
        rw [e1]
        exact hp.all (P := fun e => (ltE c (f i) e = true → R (f i) e) ∧ (ltE c (f i) e = false → R e (f i))) fun k k1 k2 => HX.out k i k1 k2 hid
      have hm : min i d = i := by omega
      rw [hm] at hPH hSH
      go_wp2_with fail
      go_loopw [9] (fun vj wq => ∃ j : Nat, vj = .int .i64 (j : Int) ∧ a ≤ j ∧ j ≤ i ∧ (∀ k, j ≤ k → k < i → R (g i) (g k)) ∧ TR wq b off n (fs (rot g j i (i + 1))) ∧ OB b w wq) (fun vj _ => (intOf vj).toNat)
      case atStart => exact ⟨i, rfl, by omega, Nat.le_refl _, fun k _ _ => by omega, by rw [rot_end]; exact hTH.out, hOH.out⟩
      case round =>
        clear hTH hOH
        obtain ⟨j, rfl, haj, hji, hlo, hT, hO⟩ := hrel
        have hTH : Hid (TR wr b off n (fs (rot g j i (i + 1)))) := hT
        have hOH : Hid (OB b w wr) := hO
        have hloH : Hid (∀ k, j ≤ k → k < i → R (g i) (g k)) := hlo
        clear hlo
        obtain ⟨gj, gl⟩ := rot_bwd_at g hji
        have kw : IntKind.i64.wrap ((i : Int) + 1) = ((i + 1 : Nat) : Int) := IntWalk.i64_in _ (by omega)
        have done : Hid ((∀ k, a ≤ k → k < j → R (g k) (g i)) → ∀ W, TR W b off n (fs (rot g j i (i + 1))) → OB b w W → ∃ (i' : Nat) (g' : Nat → En), Value.int .i64 ((i + 1 : Nat) : Int) = .int .i64 (i' : Int) ∧ a < i' ∧ (i' ≤ d ∨ i' = a + 1) ∧ Pr a (min i' d) f g' ∧ Sd R a (min i' d) g' ∧ TR W b off n (fs g') ∧ OB b w W) := fun hl W T O => by
          refine ⟨i + 1, rot g j i (i + 1), rfl, by omega, by omega, ?_, ?_, T, O⟩
          · rw [show min (i + 1) d = i + 1 by omega]
            exact (hPH.out.wide (Nat.le_refl _) (by omega)).trans ((rot_pr g hji (by omega)).wide haj (Nat.le_refl _))
          · rw [show min (i + 1) d = i + 1 by omega]
            exact one_dn haj hji hSH.out hl hloH.out
        by_cases hja : a < j
        · have hjaI : (a : Int) < (j : Int) := by omega
          obtain ⟨⟨a1, a2⟩, a3, a4⟩ := hT.2 j (by omega)
          obtain ⟨⟨b1, b2⟩, b3, b4⟩ := hT.2 (j - 1) (by omega)
          have ej : fs (rot g j i (i + 1)) j = (g i).1 := by unfold fs; rw [gj]
          have ep : fs (rot g j i (i + 1)) (j - 1) = (g (j - 1)).1 := by unfold fs; rw [gl _ (by omega)]
          rw [ej] at a1 a2
          rw [ep] at b1 b2
          have C := HC.out (g i).1 (g (j - 1)).1
          have hx := hX2.out (j - 1) (by omega) (by omega)
          have ltv : ltE c (g i) (g (j - 1)) = decide (c (g i).1 (g (j - 1)).1 < 0) := rfl
          rw [ltv] at hx
          have CH : Hid (∀ W, Calls Tryz.prog 50 #[.agg #[.string (g i).1.1, .string (g i).1.2], .agg #[.string (g (j - 1)).1.1, .string (g (j - 1)).1.2]] W fun e w' => e = .returned (.int .i64 (c (g i).1 (g (j - 1)).1)) ∧ Below W.heap.size W w') := C
          have hxH : Hid _ := hx
          obtain ⟨cv, hcv⟩ : ∃ cv, cv = c (g i).1 (g (j - 1)).1 := ⟨_, rfl⟩
          rw [← hcv] at CH hxH
          have tn : ((j : Int) - 1).toNat = j - 1 := by omega
          have i1 : (0 : Int) ≤ (j : Int) := by omega
          have i2 : (j : Int) < (n : Int) := by omega
          have i3 : (0 : Int) ≤ (j : Int) - 1 := by omega
          have i4 : (j : Int) - 1 < (n : Int) := by omega
          have i5 : (1 : Int) ≤ (j : Int) := by omega
          have jw : IntKind.i64.wrap ((j : Int) - 1) = (j : Int) - 1 := IntWalk.i64_in _ (by omega)
          clear hT hO C hx hcv ltv ej ep gj gl
          obtain ⟨x, hx⟩ : ∃ x, x = (g i).1 := ⟨_, rfl⟩
          obtain ⟨y, hy⟩ : ∃ y, y = (g (j - 1)).1 := ⟨_, rfl⟩
          rw [← hx] at a1 a2 CH
          rw [← hy] at b1 b2 CH
          have hxy : Hid (fs (rot g j i (i + 1)) j = x ∧ fs (rot g j i (i + 1)) (j - 1) = y) := by
            obtain ⟨gj, gl⟩ := rot_bwd_at g hji
            exact ⟨by unfold fs; rw [gj, hx], by unfold fs; rw [gl _ (by omega), hy]⟩
          clear hx hy
          have bl : b < wr.heap.size := hTH.out.1
          by_cases hcc : cv < 0
          · have hcc2 : decide (cv < 0) = true := decide_eq_true hcc
            have hR := hxH.out.1 hcc2
            have hRH : Hid (R (g i) (g (j - 1))) := hR
            clear hR
            go_wp2_with fail
            refine wp_region_noPanic ?_
            refine wp_region_held_drew (S := (fun W => (W.cell? ⟨b, off + j * 2, none⟩ = some (.string x.1) ∧ W.cell? ⟨b, off + j * 2 + 1, none⟩ = some (.string x.2)) ∧ W.cell? ⟨b, off + (j - 1) * 2, none⟩ = some (.string y.1) ∧ W.cell? ⟨b, off + (j - 1) * 2 + 1, none⟩ = some (.string y.2))) (by kernel_rfl) ⟨⟨a1, a2⟩, b1, b2⟩ (fun hHeld => ?_)
            refine zT 0 (v := ?_) rfl ?_ ?_
            rotate_left 1
            · (intro w0 hSw; (try dsimp only at hSw); obtain ⟨⟨s1, s2⟩, s3, s4⟩ := hSw; go_simp; try with_reducible rfl)
            (try simp only [z1, z2, z3]); (try simp only [Act.put, z4, z5, z6])
            refine zT 1 (v := ?_) rfl ?_ ?_
            rotate_left 1
            · (intro w0 hSw; (try dsimp only at hSw); obtain ⟨⟨s1, s2⟩, s3, s4⟩ := hSw; go_simp; try with_reducible rfl)
            (try simp only [z1, z2, z3]); (try simp only [Act.put, z4, z5, z6])
            refine zT 2 (v := ?_) rfl ?_ ?_
            rotate_left 1
            · (intro w0 hSw; (try dsimp only at hSw); obtain ⟨⟨s1, s2⟩, s3, s4⟩ := hSw; go_simp; try with_reducible rfl)
            (try simp only [z1, z2, z3]); (try simp only [Act.put, z4, z5, z6])
            refine zT 3 (v := ?_) rfl ?_ ?_
            rotate_left 1
            · (intro w0 hSw; (try dsimp only at hSw); obtain ⟨⟨s1, s2⟩, s3, s4⟩ := hSw; go_simp; try with_reducible rfl)
            (try simp only [z1, z2, z3]); (try simp only [Act.put, z4, z5, z6])
            refine zT 4 (v := ?_) rfl ?_ ?_
            rotate_left 1
            · (intro w0 hSw; (try dsimp only at hSw); obtain ⟨⟨s1, s2⟩, s3, s4⟩ := hSw; go_simp; try with_reducible rfl)
            (try simp only [z1, z2, z3]); (try simp only [Act.put, z4, z5, z6])
            refine zT 5 (v := ?_) rfl ?_ ?_
            rotate_left 1
            · (intro w0 hSw; (try dsimp only at hSw); obtain ⟨⟨s1, s2⟩, s3, s4⟩ := hSw; go_simp; try with_reducible rfl)
            (try simp only [z1, z2, z3]); (try simp only [Act.put, z4, z5, z6])
            refine zT 6 (v := ?_) rfl ?_ ?_
            rotate_left 1
            · (intro w0 hSw; (try dsimp only at hSw); obtain ⟨⟨s1, s2⟩, s3, s4⟩ := hSw; go_simp; try with_reducible rfl)
            (try simp only [z1, z2, z3]); (try simp only [Act.put, z4, z5, z6])
            refine zT 7 (v := ?_) rfl ?_ ?_
            rotate_left 1
            · (intro w0 hSw; (try dsimp only at hSw); obtain ⟨⟨s1, s2⟩, s3, s4⟩ := hSw; go_simp; try with_reducible rfl)
            (try simp only [z1, z2, z3]); (try simp only [Act.put, z4, z5, z6])
            refine zT 8 (v := ?_) rfl ?_ ?_
            rotate_left 1
            · (intro w0 hSw; (try dsimp only at hSw); obtain ⟨⟨s1, s2⟩, s3, s4⟩ := hSw; go_simp; try with_reducible rfl)
            (try simp only [z1, z2, z3]); (try simp only [Act.put, z4, z5, z6])
            refine zT 9 (v := ?_) rfl ?_ ?_
            rotate_left 1
            · (intro w0 hSw; (try dsimp only at hSw); obtain ⟨⟨s1, s2⟩, s3, s4⟩ := hSw; go_simp; try with_reducible rfl)
            (try simp only [z1, z2, z3]); (try simp only [Act.put, z4, z5, z6])
            refine zT 10 (v := ?_) rfl ?_ ?_
            rotate_left 1
            · (intro w0 hSw; (try dsimp only at hSw); obtain ⟨⟨s1, s2⟩, s3, s4⟩ := hSw; go_simp; try with_reducible rfl)
            (try simp only [z1, z2, z3]); (try simp only [Act.put, z4, z5, z6])
            refine zT 11 (v := ?_) rfl ?_ ?_
            rotate_left 1
            · (intro w0 hSw; (try dsimp only at hSw); obtain ⟨⟨s1, s2⟩, s3, s4⟩ := hSw; go_simp; try with_reducible rfl)
            (try simp only [z1, z2, z3]); (try simp only [Act.put, z4, z5, z6])
            refine zT 12 (v := ?_) rfl ?_ ?_
            rotate_left 1
            · (intro w0 hSw; (try dsimp only at hSw); obtain ⟨⟨s1, s2⟩, s3, s4⟩ := hSw; go_simp; try with_reducible rfl)
            (try simp only [z1, z2, z3]); (try simp only [Act.put, z4, z5, z6])
            refine zT 13 (v := ?_) rfl ?_ ?_
            rotate_left 1
            · (intro w0 hSw; (try dsimp only at hSw); obtain ⟨⟨s1, s2⟩, s3, s4⟩ := hSw; go_simp; try with_reducible rfl)
            (try simp only [z1, z2, z3]); (try simp only [Act.put, z4, z5, z6])
            refine wpAnyH_ready (rs := [14]) (by kernel_rfl) (by simp) ?_
            refine AllReadyH.cons (o := _) rfl (fun K hK => ?_) AllReadyH.nil
            go_simp
            refine Calls.mono (CH.out _) ?_
            rintro e w' ⟨rfl, BB⟩
            try dsimp only
            refine hK _ _ ?_ (fun hHeld => ?_)
            · exact ⟨⟨by rw [BB.cell (p := ⟨b, off + j * 2, none⟩) bl]; exact a1, by rw [BB.cell (p := ⟨b, off + j * 2 + 1, none⟩) bl]; exact a2⟩, by rw [BB.cell (p := ⟨b, off + (j - 1) * 2, none⟩) bl]; exact b1, by rw [BB.cell (p := ⟨b, off + (j - 1) * 2 + 1, none⟩) bl]; exact b2⟩
            clear hK K
            (try simp only [z1, z2, z3]); (try simp only [Act.put, z4, z5, z6])
            refine zT 15 (v := ?_) rfl ?_ ?_
            rotate_left 1
            · (intro w0 hSw; (try dsimp only at hSw); obtain ⟨⟨s1, s2⟩, s3, s4⟩ := hSw; go_simp; try with_reducible rfl)
            (try simp only [z1, z2, z3]); (try simp only [Act.put, z4, z5, z6])
            refine zT 16 (v := ?_) rfl ?_ ?_
            rotate_left 1
            · (intro w0 hSw; (try dsimp only at hSw); obtain ⟨⟨s1, s2⟩, s3, s4⟩ := hSw; go_simp; try with_reducible rfl)
            (try simp only [z1, z2, z3]); (try simp only [Act.put, z4, z5, z6])
            refine wpAnyH_done (by kernel_rfl) ?_ _
            refine NoPanic.normal ?_
            have T2 : TR w' b off n (fs (rot g j i (i + 1))) := TR.below (show TR wr.drew b off n (fs (rot g j i (i + 1))) from hTH.out) BB
            have O2 : Hid (OB b w w') := (show OB b w wr.drew from hOH.out.drew).trans (OB.below BB)
            obtain ⟨⟨c1, c2⟩, c3, c4⟩ := T2.2 j (by omega)
            obtain ⟨⟨d1, d2⟩, d3, d4⟩ := T2.2 (j - 1) (by omega)
            rw [hxy.out.1] at c1 c2
            rw [hxy.out.2] at d1 d2
            have T2H : Hid (TR w' b off n (fs (rot g j i (i + 1)))) := T2
            have q1 : ¬ off + j * 2 = off + (j - 1) * 2 := by omega
            have q2 : ¬ off + j * 2 = off + (j - 1) * 2 + 1 := by omega
            have q3 : ¬ off + j * 2 + 1 = off + (j - 1) * 2 := by omega
            have q4 : ¬ off + j * 2 + 1 = off + (j - 1) * 2 + 1 := by omega
            have q5 : ¬ j = j - 1 := by omega
            clear T2 a1 a2 a3 a4 b1 b2 b3 b4 BB
            go_wp2_with fail
            go_region
            have T3 : TR ((((w'.setCell ⟨b, off + j * 2, none⟩ (.string y.1)).setCell ⟨b, off + j * 2 + 1, none⟩ (.string y.2)).setCell ⟨b, off + (j - 1) * 2, none⟩ (.string x.1)).setCell ⟨b, off + (j - 1) * 2 + 1, none⟩ (.string x.2)) b off n (fs (rot g (j - 1) i (i + 1))) := by
              rw [← rot_bwd g i j (by omega) hji, fs_sw, sw_upd2, hxy.out.1, hxy.out.2]
              exact TR.set (TR.set T2H.out (show j < n by omega) _ _) (show j - 1 < n by omega) _ _
            have O3 : OB b w ((((w'.setCell ⟨b, off + j * 2, none⟩ (.string y.1)).setCell ⟨b, off + j * 2 + 1, none⟩ (.string y.2)).setCell ⟨b, off + (j - 1) * 2, none⟩ (.string x.1)).setCell ⟨b, off + (j - 1) * 2 + 1, none⟩ (.string x.2)) := (((O2.out.trans (OB.set _ _ _)).trans (OB.set _ _ _)).trans (OB.set _ _ _)).trans (OB.set _ _ _)
            generalize ((((w'.setCell ⟨b, off + j * 2, none⟩ (.string y.1)).setCell ⟨b, off + j * 2 + 1, none⟩ (.string y.2)).setCell ⟨b, off + (j - 1) * 2, none⟩ (.string x.1)).setCell ⟨b, off + (j - 1) * 2 + 1, none⟩ (.string x.2)) = W3 at T3 O3 ⊢
            have T3H : Hid (TR W3 b off n (fs (rot g (j - 1) i (i + 1)))) := T3
            have O3H : Hid (OB b w W3) := O3
            clear T3 O3 T2H O2 c1 c2 c3 c4 d1 d2 d3 d4
            go_wp2_with fail
            exact ⟨⟨j - 1, by congr 1; omega, by omega, by omega, fun k k1 k2 => by
              rcases Nat.lt_or_ge k j with kk | kk
              · have : k = j - 1 := by omega
                subst this; exact hRH.out
              · exact hloH.out k kk k2, T3H.out, O3H.out.drew⟩, by simp [intOf]; omega⟩
          · have hcc2 : decide (cv < 0) = false := decide_eq_false hcc
            have hR := hxH.out.2 hcc2
            have hRH : Hid (R (g (j - 1)) (g i)) := hR
            clear hR
            go_wp2_with fail
            refine wp_region_noPanic ?_
            refine wp_region_held_drew (S := (fun W => (W.cell? ⟨b, off + j * 2, none⟩ = some (.string x.1) ∧ W.cell? ⟨b, off + j * 2 + 1, none⟩ = some (.string x.2)) ∧ W.cell? ⟨b, off + (j - 1) * 2, none⟩ = some (.string y.1) ∧ W.cell? ⟨b, off + (j - 1) * 2 + 1, none⟩ = some (.string y.2))) (by kernel_rfl) ⟨⟨a1, a2⟩, b1, b2⟩ (fun hHeld => ?_)
            refine zT 0 (v := ?_) rfl ?_ ?_
            rotate_left 1
            · (intro w0 hSw; (try dsimp only at hSw); obtain ⟨⟨s1, s2⟩, s3, s4⟩ := hSw; go_simp; try with_reducible rfl)
            (try simp only [z1, z2, z3]); (try simp only [Act.put, z4, z5, z6])
            refine zT 1 (v := ?_) rfl ?_ ?_
            rotate_left 1
            · (intro w0 hSw; (try dsimp only at hSw); obtain ⟨⟨s1, s2⟩, s3, s4⟩ := hSw; go_simp; try with_reducible rfl)
            (try simp only [z1, z2, z3]); (try simp only [Act.put, z4, z5, z6])
            refine zT 2 (v := ?_) rfl ?_ ?_
            rotate_left 1
            · (intro w0 hSw; (try dsimp only at hSw); obtain ⟨⟨s1, s2⟩, s3, s4⟩ := hSw; go_simp; try with_reducible rfl)
            (try simp only [z1, z2, z3]); (try simp only [Act.put, z4, z5, z6])
            refine zT 3 (v := ?_) rfl ?_ ?_
            rotate_left 1
            · (intro w0 hSw; (try dsimp only at hSw); obtain ⟨⟨s1, s2⟩, s3, s4⟩ := hSw; go_simp; try with_reducible rfl)
            (try simp only [z1, z2, z3]); (try simp only [Act.put, z4, z5, z6])
            refine zT 4 (v := ?_) rfl ?_ ?_
            rotate_left 1
            · (intro w0 hSw; (try dsimp only at hSw); obtain ⟨⟨s1, s2⟩, s3, s4⟩ := hSw; go_simp; try with_reducible rfl)
            (try simp only [z1, z2, z3]); (try simp only [Act.put, z4, z5, z6])
            refine zT 5 (v := ?_) rfl ?_ ?_
            rotate_left 1
            · (intro w0 hSw; (try dsimp only at hSw); obtain ⟨⟨s1, s2⟩, s3, s4⟩ := hSw; go_simp; try with_reducible rfl)
            (try simp only [z1, z2, z3]); (try simp only [Act.put, z4, z5, z6])
            refine zT 6 (v := ?_) rfl ?_ ?_
            rotate_left 1
            · (intro w0 hSw; (try dsimp only at hSw); obtain ⟨⟨s1, s2⟩, s3, s4⟩ := hSw; go_simp; try with_reducible rfl)
            (try simp only [z1, z2, z3]); (try simp only [Act.put, z4, z5, z6])
            refine zT 7 (v := ?_) rfl ?_ ?_
            rotate_left 1
            · (intro w0 hSw; (try dsimp only at hSw); obtain ⟨⟨s1, s2⟩, s3, s4⟩ := hSw; go_simp; try with_reducible rfl)
            (try simp only [z1, z2, z3]); (try simp only [Act.put, z4, z5, z6])
            refine zT 8 (v := ?_) rfl ?_ ?_
            rotate_left 1
            · (intro w0 hSw; (try dsimp only at hSw); obtain ⟨⟨s1, s2⟩, s3, s4⟩ := hSw; go_simp; try with_reducible rfl)
            (try simp only [z1, z2, z3]); (try simp only [Act.put, z4, z5, z6])
            refine zT 9 (v := ?_) rfl ?_ ?_
            rotate_left 1
            · (intro w0 hSw; (try dsimp only at hSw); obtain ⟨⟨s1, s2⟩, s3, s4⟩ := hSw; go_simp; try with_reducible rfl)
            (try simp only [z1, z2, z3]); (try simp only [Act.put, z4, z5, z6])
            refine zT 10 (v := ?_) rfl ?_ ?_
            rotate_left 1
            · (intro w0 hSw; (try dsimp only at hSw); obtain ⟨⟨s1, s2⟩, s3, s4⟩ := hSw; go_simp; try with_reducible rfl)
            (try simp only [z1, z2, z3]); (try simp only [Act.put, z4, z5, z6])
            refine zT 11 (v := ?_) rfl ?_ ?_
            rotate_left 1
            · (intro w0 hSw; (try dsimp only at hSw); obtain ⟨⟨s1, s2⟩, s3, s4⟩ := hSw; go_simp; try with_reducible rfl)
            (try simp only [z1, z2, z3]); (try simp only [Act.put, z4, z5, z6])
            refine zT 12 (v := ?_) rfl ?_ ?_
            rotate_left 1
            · (intro w0 hSw; (try dsimp only at hSw); obtain ⟨⟨s1, s2⟩, s3, s4⟩ := hSw; go_simp; try with_reducible rfl)
            (try simp only [z1, z2, z3]); (try simp only [Act.put, z4, z5, z6])
            refine zT 13 (v := ?_) rfl ?_ ?_
            rotate_left 1
            · (intro w0 hSw; (try dsimp only at hSw); obtain ⟨⟨s1, s2⟩, s3, s4⟩ := hSw; go_simp; try with_reducible rfl)
            (try simp only [z1, z2, z3]); (try simp only [Act.put, z4, z5, z6])
            refine wpAnyH_ready (rs := [14]) (by kernel_rfl) (by simp) ?_
            refine AllReadyH.cons (o := _) rfl (fun K hK => ?_) AllReadyH.nil
            go_simp
            refine Calls.mono (CH.out _) ?_
            rintro e w' ⟨rfl, BB⟩
            try dsimp only
            refine hK _ _ ?_ (fun hHeld => ?_)
            · exact ⟨⟨by rw [BB.cell (p := ⟨b, off + j * 2, none⟩) bl]; exact a1, by rw [BB.cell (p := ⟨b, off + j * 2 + 1, none⟩) bl]; exact a2⟩, by rw [BB.cell (p := ⟨b, off + (j - 1) * 2, none⟩) bl]; exact b1, by rw [BB.cell (p := ⟨b, off + (j - 1) * 2 + 1, none⟩) bl]; exact b2⟩
            clear hK K
            (try simp only [z1, z2, z3]); (try simp only [Act.put, z4, z5, z6])
            refine zT 15 (v := ?_) rfl ?_ ?_
            rotate_left 1
            · (intro w0 hSw; (try dsimp only at hSw); obtain ⟨⟨s1, s2⟩, s3, s4⟩ := hSw; go_simp; try with_reducible rfl)
            (try simp only [z1, z2, z3]); (try simp only [Act.put, z4, z5, z6])
            refine zT 16 (v := ?_) rfl ?_ ?_
            rotate_left 1
            · (intro w0 hSw; (try dsimp only at hSw); obtain ⟨⟨s1, s2⟩, s3, s4⟩ := hSw; go_simp; try with_reducible rfl)
            (try simp only [z1, z2, z3]); (try simp only [Act.put, z4, z5, z6])
            refine wpAnyH_done (by kernel_rfl) ?_ _
            refine NoPanic.normal ?_
            have T2H : Hid (TR w' b off n (fs (rot g j i (i + 1)))) := TR.below (show TR wr.drew b off n (fs (rot g j i (i + 1))) from hTH.out) BB
            have O2 : Hid (OB b w w') := (show OB b w wr.drew from hOH.out.drew).trans (OB.below BB)
            clear a1 a2 a3 a4 b1 b2 b3 b4 BB
            go_wp2_with fail
            exact ⟨done.out (fun k k1 k2 => hSH.out.dn tr k1 (show k ≤ j - 1 by omega) (by omega) hRH.out) _ T2H.out O2.out, by simp [intOf]; omega⟩
        · have hja2 : ¬ (a : Int) < (j : Int) := by omega
          have hja3 : decide ((a : Int) < (j : Int)) = false := decide_eq_false hja2
          clear hT hO gj gl
          go_wp2_with fail
          go_quiet (fail)
          go_wp2_with fail
          exact ⟨done.out (fun k k1 k2 => by omega) _ hTH.out ⟨hOH.out.size, hOH.out.keep, hOH.out.same⟩, by simp [intOf]; omega⟩
    · have hie : ¬ (i : Int) < (d : Int) := by omega
      have hm : min i d = d := by omega
      rw [hm] at hPH hSH
      go_wp2_with fail
      go_end0
      exact ⟨rfl, g, hPH.out, hSH.out, hTH.out, hOH.out⟩
end Go.Proofs.YtepakgfdakeibaaGreatDoor.So
