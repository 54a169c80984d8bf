
import Derived.Test.YtdfnomglkibfbaaGreatDoorVzG
import Derived.BigQuiet
import Derived.Deep.Cut
import Derived.BigRegion
namespace Go.Proofs.YtdfnomglkibfbaaGreatDoor.Vf
open Go.RowKit
set_option linter.unusedVariables false
set_option linter.unusedSimpArgs false
set_option maxRecDepth 100000
/-- what a run tells. -/
def RunR (w : World) (l : List InP) (h : Nat → Int) (e : Ending) (w' : World) : Prop := ∃ (r : List Nat) (v7 v8 : Value), e = .returned (.tuple #[v7, v8, .bool true]) ∧ I6.OE w' w.heap.size v7 (nat2 r) ∧ I6.OE w' w.heap.size v8 (r.map h) ∧ r.length ≤ l.length ∧ ∀ j ∈ r, j < l.length ∧ j ∉ deadL l
set_option maxHeartbeats 64000000 in
theorem run_any (l : List InP) (h : Nat → Int) (H : HOk l h) (F : Fil l) (J : Jmp l) (EN : ∀ (j : Nat) (t : InP), l[j]? = some t → (t.c = 13 ↔ j + 1 = l.length)) (hp : 0 < l.length) (hn : l.length ≤ 65536) (a : Option Addr) (c : Nat) (tr : List Bool) (xt : Option Addr) (ct : Nat) (htl : tr.length ≤ 1152921504606846976) (w : World) (hI : InIn w a l) (hT : BL.In w xt tr) : Calls Tryz.prog 21 #[.slice a l.length c, .slice xt tr.length ct] w fun e w' => RunR w l h e w' ∧ Below w.heap.size w w' := by
  have STP : Hid (∀ (k : Nat) (s : List Bool) (t : InP) (b : Bool) (j : Nat), RnS l h k s → l[k]? = some t → ((j = k + 1 ∧ j < l.length ∧ ((t.c = 10 ∨ t.c = 11) → s.getD (s.length - 1) false ≠ decide (t.c = 11))) ∨ (j = t.a.toNat ∧ (t.c = 10 ∨ t.c = 11) ∧ s.getD (s.length - 1) false = decide (t.c = 11))) → k < j ∧ RnS l h j (stepB t.c b s)) := fun k s t b j r ht hj => r.step H F J ht b hj
  have FC : Hid (∀ (k : Nat) (t : InP) (s : List Bool), l[k]? = some t → RnS l h k s → (1 ≤ t.c ∧ t.c ≤ 13) ∧ (rowF t.c).tk ≤ s.length ∧ s.length ≤ 65000 ∧ (t.c = 13 → s.length = 1) ∧ (t.c ≠ 13 → k + 1 < l.length)) := fun k t s ht r => by
    have e1 := r.len
    have e2 := H.tk k t ht
    have e3 := H.low k r.lt
    refine ⟨F k t ht, by omega, by omega, fun q => ?_, fun q => ?_⟩
    · have e4 := H.en k t ht (by rw [q]; rfl)
      rw [q] at e4
      unfold bhd at e4
      simp [rowF, rowsL] at e4
      omega
    · have := EN k t ht
      have := r.lt
      omega
  have JC : Hid (∀ (k : Nat) (t : InP), l[k]? = some t → (t.c = 10 ∨ t.c = 11) → 0 ≤ t.a ∧ t.a < (l.length : Int)) := fun k t ht q => by
    have := J k t ht (by rcases q with q | q <;> rw [q] <;> rfl)
    omega
  have MV : Hid (∀ (k : Nat) (t : InP) (W : World), l[k]? = some t → Calls Tryz.prog 37 #[.int .u8 (t.c : Int)] W fun e w' => e = .returned (.tuple #[.int .i64 ((rowF t.c).tk : Int), .int .i64 ((rowF t.c).pt : Int)]) ∧ w' = W) := fun k t W ht => moves_any t.c (F k t ht).1 (by have := (F k t ht).2; omega) W
  have hIH : Hid (InIn w a l) := hI
  have hTH : Hid (BL.In w xt tr) := hT
  have rs0 : Hid (RnS l h 0 []) := RnS.start H hp
  obtain ⟨n, hnn⟩ : ∃ n, l.length = n := ⟨_, rfl⟩
  have hnH : Hid (l.length = n) := hnn
  obtain ⟨tn, htn⟩ : ∃ tn, tr.length = tn := ⟨_, rfl⟩
  have htnH : Hid (tr.length = tn) := htn
  rw [hnn] at hn ⊢
  rw [htn] at htl ⊢
  have st0 : Hid (R3 w [] [] [] (.slice none 0 0) (.slice none 0 0) (.slice none 0 0) w) := ⟨Below.refl _ _, I6.OE.nil _ _, I6.OE.nil _ _, BL.OE.nil _ _, fun x hx => (by cases hx), fun x hx => (by cases hx)⟩
  clear hnn htn hI hT H F J EN hp
  go_enter Tryz.func21, Tryz.ntmps21
  go_wp2_with fail
  go_loopw [7, 8, 9, 10, 11] (fun v7 v8 v9 v10 v11 wr => ∃ (k q : Nat) (r : List Nat) (s : List Bool) (a7 : Option Addr) (n7 c7 : Nat) (a8 : Option Addr) (n8 c8 : Nat) (a9 : Option Addr) (c9 : Nat), v7 = .slice a7 n7 c7 ∧ v8 = .slice a8 n8 c8 ∧ v9 = .slice a9 s.length c9 ∧ v10 = .int .i64 (q : Int) ∧ v11 = .int .i64 (k : Int) ∧ q ≤ k ∧ Hid (R3 w r (r.map h) s (.slice a7 n7 c7) (.slice a8 n8 c8) (.slice a9 s.length c9) wr ∧ RnS l h k s ∧ r.length ≤ k ∧ ∀ j ∈ r, j < l.length ∧ j ∉ deadL l)) (fun _ _ _ _ v11 _ => n - (intOf v11).toNat)
  case atStart => exact ⟨0, 0, [], [], none, 0, 0, none, 0, 0, none, 0, rfl, rfl, rfl, rfl, rfl, Nat.le_refl _, st0.out, rs0.out, Nat.le_refl _, fun j hj => (by cases hj)⟩
  case round =>
    clear st0 rs0
    obtain ⟨k, q, r, s, a7, n7, c7, a8, n8, c8, a9, c9, rfl, rfl, rfl, rfl, rfl, hqk, hX⟩ := hrel
    have k0 : (0 : Int) ≤ (k : Int) := by omega
    have q0 : (0 : Int) ≤ (q : Int) := by omega
    have klt : k < l.length := hX.out.2.1.lt
    obtain ⟨t, et⟩ : ∃ t, l[k]? = some t := ⟨_, List.getElem?_eq_getElem klt⟩
    have kn : k < n := by rw [← hnH.out]; exact klt
    have kI : (k : Int) < (n : Int) := by omega
    have kw : IntKind.i64.wrap ((k : Int) + 1) = (k : Int) + 1 := IntWalk.i64_in _ (by omega)
    have qw : IntKind.i64.wrap ((q : Int) + 1) = (q : Int) + 1 := IntWalk.i64_in _ (by omega)
    obtain ⟨⟨f1, f2⟩, f3, f4, f5, f6⟩ := FC.out k t s et hX.out.2.1
    obtain ⟨v7', w1, hr1, R1⟩ := hX.out.1.app7 k (by have := hX.out.2.2.1; omega)
    obtain ⟨a7', c7', ev7, zz1⟩ := R1.o7.ein
    have hlr : (r.map h).length ≤ 65536 := by rw [List.length_map]; have := hX.out.2.2.1; omega
    obtain ⟨v8', w2, hr2, R2⟩ := R1.app8 (s.length : Int) hlr
    obtain ⟨a8', c8', ev8, zz2⟩ := R2.o8.ein
    have R2H : Hid (R3 w (r ++ [k]) ((r ++ [k]).map h) s v7' v8' (.slice a9 s.length c9) w2) := by
      have e : (r ++ [k]).map h = r.map h ++ [(s.length : Int)] := by rw [List.map_append, hX.out.2.1.len]; rfl
      rw [e]; exact R2
    have hrH1 : Hid (∀ W' y', W' = wr.alloc (.cells #[.int .i64 (k : Int)] 3) → y' = Value.slice (some ⟨wr.heap.size, 0, none⟩) 1 1 → (Builtin.append_ #[39, 39] 39 #[.slice a7 n7 c7, y']).run Tryz.prog W' = .ok v7' w1) := fun W' y' e1 e2 => by rw [e1, e2]; exact hr1
    have hrH2 : Hid (∀ W' y', W' = w1.alloc (.cells #[.int .i64 (s.length : Int)] 3) → y' = Value.slice (some ⟨w1.heap.size, 0, none⟩) 1 1 → (Builtin.append_ #[39, 39] 39 #[.slice a8 n8 c8, y']).run Tryz.prog W' = .ok v8' w2) := fun W' y' e1 e2 => by rw [e1, e2]; exact hr2
    have PL : Hid ((r ++ [k]).length ≤ k + 1 ∧ ∀ j ∈ r ++ [k], j < l.length ∧ j ∉ deadL l) := by
      refine (⟨by rw [List.length_append]; have := hX.out.2.2.1; simp; omega, fun j hj => ?_⟩ : (r ++ [k]).length ≤ k + 1 ∧ ∀ j ∈ r ++ [k], j < l.length ∧ j ∉ deadL l)
      rcases List.mem_append.1 hj with hj | hj
      · exact hX.out.2.2.2 j hj
      · simp at hj; subst hj; exact ⟨klt, hX.out.2.1.alive⟩
    have RS : Hid (RnS l h k s) := hX.out.2.1
    have etH : Hid (l[k]? = some t) := et
    obtain ⟨g, off, t', et', ea, gl, x1, x2, x3⟩ := (hIH.out.below R2.b (Nat.le_refl _)).at (k := k) klt
    rw [et] at et'
    injection et' with et'
    subst et'
    subst ea
    have cM := MV.out k t w2 et
    rw [ev7, ev8] at R2H
    rw [ev7] at hrH1
    rw [ev8] at hrH2
    have tkI : ¬ (s.length : Int) < ((rowF t.c).tk : Int) := by omega
    have jc := JC.out k t et
    rw [hnH.out] at jc
    clear zz1 zz2 hX hr1 hr2 R1 R2 et ev7 ev8 hlr MV FC JC
    generalize hR : r ++ [k] = rk at *
    generalize hL7 : (nat2 rk).length = m7 at *
    obtain ⟨m8, hm8⟩ : ∃ m8, (List.map h r ++ [(s.length : Int)]).length = m8 := ⟨_, rfl⟩
    rw [hm8] at R2H hrH2
    have cMH : Hid _ := cM
    obtain ⟨tc, ta, tb⟩ := t
    simp only at f1 f2 f3 f5 f6 x1 x2 x3 tkI jc
    have cN : Hid (Calls Tryz.prog 37 #[.int .u8 (tc : Int)] w2 fun e w' => e = .returned (.tuple #[.int .i64 ((rowF tc).tk : Int), .int .i64 ((rowF tc).pt : Int)]) ∧ w' = w2) := cMH.out
    clear cMH cM hR hL7 hm8
    obtain ⟨tkL, tkE⟩ : ∃ tkL, (rowF tc).tk = tkL := ⟨_, rfl⟩
    rw [tkE] at cN tkI f3
    generalize (rowF tc).pt = ptL at *
    go_wp2_with (first | (at_builtin; refine append_run (.tmp 22) (.tmp 24) (by rfl) _ (by rfl) _ _ _ _ (by rfl) (by rfl) (hrH1.out _ _ (by first | rfl | simp) (by first | rfl | simp)) ?_) | (at_builtin; refine append_run (.tmp 26) (.tmp 29) (by rfl) _ (by rfl) _ _ _ _ (by rfl) (by rfl) (hrH2.out _ _ (by first | rfl | simp) (by first | rfl | simp)) ?_))
    clear hrH1 hrH2
    with_reducible refine Calls.mono cN.out ?_
    rintro e w3 ⟨rfl, rfl⟩
    clear cN
    go_upto_region 13 with fail
    have jc2 := jc
    obtain ⟨sn, hsn⟩ : ∃ sn, s.length = sn := ⟨_, rfl⟩
    have snH : Hid (s.length = sn) := hsn
    have f5' := f5
    rw [hsn] at R2H f4 f5 ⊢
    have f3' : tkL ≤ sn := by rw [← hsn]; exact f3
    clear hsn tkI jc f3
    have tkH : Hid ((rowF tc).tk = tkL) := tkE
    clear tkE
    have hc13 : tc = 1 ∨ tc = 2 ∨ tc = 3 ∨ tc = 4 ∨ tc = 5 ∨ tc = 6 ∨ tc = 7 ∨ tc = 8 ∨ tc = 9 ∨ tc = 10 ∨ tc = 11 ∨ tc = 12 ∨ tc = 13 := by omega
    clear f1 f2
    rcases hc13 with rfl | rfl | rfl | rfl | rfl | rfl | rfl | rfl | rfl | rfl | rfl | rfl | rfl
    · as_aux_lemma =>
        have kl : k + 1 < l.length := f6 (by decide)
        have kn1 : k + 1 < n := by rw [← hnH.out]; exact kl
        obtain ⟨v9, w4, hr9, R9⟩ := R2H.out.app9 true (by rw [snH.out]; omega)
        obtain ⟨a9', c9', ev9, zz⟩ := R9.o9.ein
        obtain ⟨s', hs'⟩ : ∃ s', stepB 1 true s = s' := ⟨_, rfl⟩
        have es : s ++ [true] = s' := by rw [← hs', stepB_push (by decide) (by decide)]; simp
        rw [es] at R9 ev9
        rw [ev9] at R9 hr9
        have hrH9 : Hid (∀ W' y', W' = w3.alloc (.cells #[.bool true] 4) → y' = Value.slice (some ⟨w3.heap.size, 0, none⟩) 1 1 → (Builtin.append_ #[49, 49] 49 #[.slice a9 sn c9, y']).run Tryz.prog W' = .ok (.slice a9' s'.length c9') w4) := fun W' y' e1 e2 => by rw [e1, e2]; exact hr9
        have NX : Hid (R3 w rk (rk.map h) s' (.slice a7' m7 c7') (.slice a8' m8 c8') (.slice a9' s'.length c9') w4 ∧ RnS l h (k + 1) s' ∧ rk.length ≤ k + 1 ∧ ∀ j ∈ rk, j < l.length ∧ j ∉ deadL l) := by
          refine (⟨R9, ?_, PL.out⟩ : _ ∧ _ ∧ _)
          have := (STP.out k s _ true (k + 1) RS.out etH.out (Or.inl ⟨rfl, kl, fun q => by simp at q⟩)).2
          rw [hs'] at this
          exact this
        clear zz es hr9 R9 hs' R2H PL STP RS etH ev9
        go_wp2_with (at_builtin; refine append_run (.tmp 54) (.tmp 61) (by rfl) _ (by rfl) _ _ _ _ (by rfl) (by rfl) (hrH9.out _ _ (by first | rfl | simp) (by first | rfl | simp)) ?_)
        exact ⟨⟨k + 1, q, rk, s', a7', m7, c7', a8', m8, c8', a9', c9', rfl, rfl, rfl, by first | rfl | (rw [qw]; rfl), by first | rfl | (rw [kw]; rfl), by omega, NX⟩, by first | (simp [intOf]; done) | (simp [intOf]; omega)⟩
    · as_aux_lemma =>
        have kl : k + 1 < l.length := f6 (by decide)
        have kn1 : k + 1 < n := by rw [← hnH.out]; exact kl
        obtain ⟨v9, w4, hr9, R9⟩ := R2H.out.app9 false (by rw [snH.out]; omega)
        obtain ⟨a9', c9', ev9, zz⟩ := R9.o9.ein
        obtain ⟨s', hs'⟩ : ∃ s', stepB 2 false s = s' := ⟨_, rfl⟩
        have es : s ++ [false] = s' := by rw [← hs', stepB_push (by decide) (by decide)]; simp
        rw [es] at R9 ev9
        rw [ev9] at R9 hr9
        have hrH9 : Hid (∀ W' y', W' = w3.alloc (.cells #[.bool false] 4) → y' = Value.slice (some ⟨w3.heap.size, 0, none⟩) 1 1 → (Builtin.append_ #[49, 49] 49 #[.slice a9 sn c9, y']).run Tryz.prog W' = .ok (.slice a9' s'.length c9') w4) := fun W' y' e1 e2 => by rw [e1, e2]; exact hr9
        have NX : Hid (R3 w rk (rk.map h) s' (.slice a7' m7 c7') (.slice a8' m8 c8') (.slice a9' s'.length c9') w4 ∧ RnS l h (k + 1) s' ∧ rk.length ≤ k + 1 ∧ ∀ j ∈ rk, j < l.length ∧ j ∉ deadL l) := by
          refine (⟨R9, ?_, PL.out⟩ : _ ∧ _ ∧ _)
          have := (STP.out k s _ false (k + 1) RS.out etH.out (Or.inl ⟨rfl, kl, fun q => by simp at q⟩)).2
          rw [hs'] at this
          exact this
        clear zz es hr9 R9 hs' R2H PL STP RS etH ev9
        go_wp2_with (at_builtin; refine append_run (.tmp 54) (.tmp 61) (by rfl) _ (by rfl) _ _ _ _ (by rfl) (by rfl) (hrH9.out _ _ (by first | rfl | simp) (by first | rfl | simp)) ?_)
        exact ⟨⟨k + 1, q, rk, s', a7', m7, c7', a8', m8, c8', a9', c9', rfl, rfl, rfl, by first | rfl | (rw [qw]; rfl), by first | rfl | (rw [kw]; rfl), by omega, NX⟩, by first | (simp [intOf]; done) | (simp [intOf]; omega)⟩
    · as_aux_lemma =>
        have kl : k + 1 < l.length := f6 (by decide)
        have kn1 : k + 1 < n := by rw [← hnH.out]; exact kl
        rcases Nat.eq_zero_or_pos tn with t0 | t0
        · subst t0
          obtain ⟨v9, w4, hr9, R9⟩ := R2H.out.app9 false (by rw [snH.out]; omega)
          obtain ⟨a9', c9', ev9, zz⟩ := R9.o9.ein
          obtain ⟨s', hs'⟩ : ∃ s', stepB 3 false s = s' := ⟨_, rfl⟩
          have es : s ++ [false] = s' := by rw [← hs', stepB_push (by decide) (by decide)]; simp
          rw [es] at R9 ev9
          rw [ev9] at R9 hr9
          have hrH9 : Hid (∀ W' y', W' = w3.alloc (.cells #[.bool false] 4) → y' = Value.slice (some ⟨w3.heap.size, 0, none⟩) 1 1 → (Builtin.append_ #[49, 49] 49 #[.slice a9 sn c9, y']).run Tryz.prog W' = .ok (.slice a9' s'.length c9') w4) := fun W' y' e1 e2 => by rw [e1, e2]; exact hr9
          have NX : Hid (R3 w rk (rk.map h) s' (.slice a7' m7 c7') (.slice a8' m8 c8') (.slice a9' s'.length c9') w4 ∧ RnS l h (k + 1) s' ∧ rk.length ≤ k + 1 ∧ ∀ j ∈ rk, j < l.length ∧ j ∉ deadL l) := by
            refine (⟨R9, ?_, PL.out⟩ : _ ∧ _ ∧ _)
            have := (STP.out k s _ false (k + 1) RS.out etH.out (Or.inl ⟨rfl, kl, fun q => by simp at q⟩)).2
            rw [hs'] at this
            exact this
          clear zz es hr9 R9 hs' R2H PL STP RS etH ev9
          go_wp2_with (at_builtin; refine append_run (.tmp 82) (.tmp 84) (by rfl) _ (by rfl) _ _ _ _ (by rfl) (by rfl) (hrH9.out _ _ (by first | rfl | simp) (by first | rfl | simp)) ?_)
          exact ⟨⟨k + 1, q + 1, rk, s', a7', m7, c7', a8', m8, c8', a9', c9', rfl, rfl, rfl, by first | rfl | (rw [qw]; rfl), by first | rfl | (rw [kw]; rfl), by omega, NX⟩, by first | (simp [intOf]; done) | (simp [intOf]; omega)⟩
        · have ql : q % tn < tr.length := by rw [htnH.out]; exact Nat.mod_lt _ t0
          obtain ⟨tb, tf, tv, etv, rfl, _, ctv⟩ := (hTH.out.below R2H.out.b (Nat.le_refl _)).get ql
          have tI : (0 : Int) < (tn : Int) := by omega
          have tne : ¬ (tn : Int) = 0 := by omega
          have tnn : ¬ tn = 0 := by omega
          have rm : (q : Int).tmod (tn : Int) = ((q % tn : Nat) : Int) := by rw [Int.tmod_eq_emod_of_nonneg (by omega)]; omega
          have rm1 : (0 : Int) ≤ ((q % tn : Nat) : Int) := by omega
          have rm2 : ((q % tn : Nat) : Int) < (tn : Int) := by rw [htnH.out] at ql; omega
          unfold BL.vl at ctv
          clear etv ql
          generalize q % tn = qm at *
          obtain ⟨v9, w4, hr9, R9⟩ := R2H.out.app9 tv (by rw [snH.out]; omega)
          obtain ⟨a9', c9', ev9, zz⟩ := R9.o9.ein
          obtain ⟨s', hs'⟩ : ∃ s', stepB 3 tv s = s' := ⟨_, rfl⟩
          have es : s ++ [tv] = s' := by rw [← hs', stepB_push (by decide) (by decide)]; simp
          rw [es] at R9 ev9
          rw [ev9] at R9 hr9
          have hrH9 : Hid (∀ W' y', W' = w3.alloc (.cells #[.bool tv] 4) → y' = Value.slice (some ⟨w3.heap.size, 0, none⟩) 1 1 → (Builtin.append_ #[49, 49] 49 #[.slice a9 sn c9, y']).run Tryz.prog W' = .ok (.slice a9' s'.length c9') w4) := fun W' y' e1 e2 => by rw [e1, e2]; exact hr9
          have NX : Hid (R3 w rk (rk.map h) s' (.slice a7' m7 c7') (.slice a8' m8 c8') (.slice a9' s'.length c9') w4 ∧ RnS l h (k + 1) s' ∧ rk.length ≤ k + 1 ∧ ∀ j ∈ rk, j < l.length ∧ j ∉ deadL l) := by
            refine (⟨R9, ?_, PL.out⟩ : _ ∧ _ ∧ _)
            have := (STP.out k s _ tv (k + 1) RS.out etH.out (Or.inl ⟨rfl, kl, fun q => by simp at q⟩)).2
            rw [hs'] at this
            exact this
          clear zz es hr9 R9 hs' R2H PL STP RS etH ev9
          go_wp2_with (at_builtin; refine append_run (.tmp 82) (.tmp 84) (by rfl) _ (by rfl) _ _ _ _ (by rfl) (by rfl) (hrH9.out _ _ (by first | rfl | simp) (by first | rfl | simp)) ?_)
          exact ⟨⟨k + 1, q + 1, rk, s', a7', m7, c7', a8', m8, c8', a9', c9', rfl, rfl, rfl, by first | rfl | (rw [qw]; rfl), by first | rfl | (rw [kw]; rfl), by omega, NX⟩, by first | (simp [intOf]; done) | (simp [intOf]; omega)⟩
    · as_aux_lemma =>
        have kl : k + 1 < l.length := f6 (by decide)
        have kn1 : k + 1 < n := by rw [← hnH.out]; exact kl
        rcases Nat.eq_zero_or_pos tn with t0 | t0
        · subst t0
          obtain ⟨v9, w4, hr9, R9⟩ := R2H.out.app9 false (by rw [snH.out]; omega)
          obtain ⟨a9', c9', ev9, zz⟩ := R9.o9.ein
          obtain ⟨s', hs'⟩ : ∃ s', stepB 4 false s = s' := ⟨_, rfl⟩
          have es : s ++ [false] = s' := by rw [← hs', stepB_push (by decide) (by decide)]; simp
          rw [es] at R9 ev9
          rw [ev9] at R9 hr9
          have hrH9 : Hid (∀ W' y', W' = w3.alloc (.cells #[.bool false] 4) → y' = Value.slice (some ⟨w3.heap.size, 0, none⟩) 1 1 → (Builtin.append_ #[49, 49] 49 #[.slice a9 sn c9, y']).run Tryz.prog W' = .ok (.slice a9' s'.length c9') w4) := fun W' y' e1 e2 => by rw [e1, e2]; exact hr9
          have NX : Hid (R3 w rk (rk.map h) s' (.slice a7' m7 c7') (.slice a8' m8 c8') (.slice a9' s'.length c9') w4 ∧ RnS l h (k + 1) s' ∧ rk.length ≤ k + 1 ∧ ∀ j ∈ rk, j < l.length ∧ j ∉ deadL l) := by
            refine (⟨R9, ?_, PL.out⟩ : _ ∧ _ ∧ _)
            have := (STP.out k s _ false (k + 1) RS.out etH.out (Or.inl ⟨rfl, kl, fun q => by simp at q⟩)).2
            rw [hs'] at this
            exact this
          clear zz es hr9 R9 hs' R2H PL STP RS etH ev9
          go_wp2_with (at_builtin; refine append_run (.tmp 82) (.tmp 84) (by rfl) _ (by rfl) _ _ _ _ (by rfl) (by rfl) (hrH9.out _ _ (by first | rfl | simp) (by first | rfl | simp)) ?_)
          exact ⟨⟨k + 1, q + 1, rk, s', a7', m7, c7', a8', m8, c8', a9', c9', rfl, rfl, rfl, by first | rfl | (rw [qw]; rfl), by first | rfl | (rw [kw]; rfl), by omega, NX⟩, by first | (simp [intOf]; done) | (simp [intOf]; omega)⟩
        · have ql : q % tn < tr.length := by rw [htnH.out]; exact Nat.mod_lt _ t0
          obtain ⟨tb, tf, tv, etv, rfl, _, ctv⟩ := (hTH.out.below R2H.out.b (Nat.le_refl _)).get ql
          have tI : (0 : Int) < (tn : Int) := by omega
          have tne : ¬ (tn : Int) = 0 := by omega
          have tnn : ¬ tn = 0 := by omega
          have rm : (q : Int).tmod (tn : Int) = ((q % tn : Nat) : Int) := by rw [Int.tmod_eq_emod_of_nonneg (by omega)]; omega
          have rm1 : (0 : Int) ≤ ((q % tn : Nat) : Int) := by omega
          have rm2 : ((q % tn : Nat) : Int) < (tn : Int) := by rw [htnH.out] at ql; omega
          unfold BL.vl at ctv
          clear etv ql
          generalize q % tn = qm at *
          obtain ⟨v9, w4, hr9, R9⟩ := R2H.out.app9 tv (by rw [snH.out]; omega)
          obtain ⟨a9', c9', ev9, zz⟩ := R9.o9.ein
          obtain ⟨s', hs'⟩ : ∃ s', stepB 4 tv s = s' := ⟨_, rfl⟩
          have es : s ++ [tv] = s' := by rw [← hs', stepB_push (by decide) (by decide)]; simp
          rw [es] at R9 ev9
          rw [ev9] at R9 hr9
          have hrH9 : Hid (∀ W' y', W' = w3.alloc (.cells #[.bool tv] 4) → y' = Value.slice (some ⟨w3.heap.size, 0, none⟩) 1 1 → (Builtin.append_ #[49, 49] 49 #[.slice a9 sn c9, y']).run Tryz.prog W' = .ok (.slice a9' s'.length c9') w4) := fun W' y' e1 e2 => by rw [e1, e2]; exact hr9
          have NX : Hid (R3 w rk (rk.map h) s' (.slice a7' m7 c7') (.slice a8' m8 c8') (.slice a9' s'.length c9') w4 ∧ RnS l h (k + 1) s' ∧ rk.length ≤ k + 1 ∧ ∀ j ∈ rk, j < l.length ∧ j ∉ deadL l) := by
            refine (⟨R9, ?_, PL.out⟩ : _ ∧ _ ∧ _)
            have := (STP.out k s _ tv (k + 1) RS.out etH.out (Or.inl ⟨rfl, kl, fun q => by simp at q⟩)).2
            rw [hs'] at this
            exact this
          clear zz es hr9 R9 hs' R2H PL STP RS etH ev9
          go_wp2_with (at_builtin; refine append_run (.tmp 82) (.tmp 84) (by rfl) _ (by rfl) _ _ _ _ (by rfl) (by rfl) (hrH9.out _ _ (by first | rfl | simp) (by first | rfl | simp)) ?_)
          exact ⟨⟨k + 1, q + 1, rk, s', a7', m7, c7', a8', m8, c8', a9', c9', rfl, rfl, rfl, by first | rfl | (rw [qw]; rfl), by first | rfl | (rw [kw]; rfl), by omega, NX⟩, by first | (simp [intOf]; done) | (simp [intOf]; omega)⟩
    · as_aux_lemma =>
        have kl : k + 1 < l.length := f6 (by decide)
        have kn1 : k + 1 < n := by rw [← hnH.out]; exact kl
        rcases Nat.eq_zero_or_pos tn with t0 | t0
        · subst t0
          obtain ⟨v9, w4, hr9, R9⟩ := R2H.out.app9 false (by rw [snH.out]; omega)
          obtain ⟨a9', c9', ev9, zz⟩ := R9.o9.ein
          obtain ⟨s', hs'⟩ : ∃ s', stepB 5 false s = s' := ⟨_, rfl⟩
          have es : s ++ [false] = s' := by rw [← hs', stepB_push (by decide) (by decide)]; simp
          rw [es] at R9 ev9
          rw [ev9] at R9 hr9
          have hrH9 : Hid (∀ W' y', W' = w3.alloc (.cells #[.bool false] 4) → y' = Value.slice (some ⟨w3.heap.size, 0, none⟩) 1 1 → (Builtin.append_ #[49, 49] 49 #[.slice a9 sn c9, y']).run Tryz.prog W' = .ok (.slice a9' s'.length c9') w4) := fun W' y' e1 e2 => by rw [e1, e2]; exact hr9
          have NX : Hid (R3 w rk (rk.map h) s' (.slice a7' m7 c7') (.slice a8' m8 c8') (.slice a9' s'.length c9') w4 ∧ RnS l h (k + 1) s' ∧ rk.length ≤ k + 1 ∧ ∀ j ∈ rk, j < l.length ∧ j ∉ deadL l) := by
            refine (⟨R9, ?_, PL.out⟩ : _ ∧ _ ∧ _)
            have := (STP.out k s _ false (k + 1) RS.out etH.out (Or.inl ⟨rfl, kl, fun q => by simp at q⟩)).2
            rw [hs'] at this
            exact this
          clear zz es hr9 R9 hs' R2H PL STP RS etH ev9
          go_wp2_with (at_builtin; refine append_run (.tmp 82) (.tmp 84) (by rfl) _ (by rfl) _ _ _ _ (by rfl) (by rfl) (hrH9.out _ _ (by first | rfl | simp) (by first | rfl | simp)) ?_)
          exact ⟨⟨k + 1, q + 1, rk, s', a7', m7, c7', a8', m8, c8', a9', c9', rfl, rfl, rfl, by first | rfl | (rw [qw]; rfl), by first | rfl | (rw [kw]; rfl), by omega, NX⟩, by first | (simp [intOf]; done) | (simp [intOf]; omega)⟩
        · have ql : q % tn < tr.length := by rw [htnH.out]; exact Nat.mod_lt _ t0
          obtain ⟨tb, tf, tv, etv, rfl, _, ctv⟩ := (hTH.out.below R2H.out.b (Nat.le_refl _)).get ql
          have tI : (0 : Int) < (tn : Int) := by omega
          have tne : ¬ (tn : Int) = 0 := by omega
          have tnn : ¬ tn = 0 := by omega
          have rm : (q : Int).tmod (tn : Int) = ((q % tn : Nat) : Int) := by rw [Int.tmod_eq_emod_of_nonneg (by omega)]; omega
          have rm1 : (0 : Int) ≤ ((q % tn : Nat) : Int) := by omega
          have rm2 : ((q % tn : Nat) : Int) < (tn : Int) := by rw [htnH.out] at ql; omega
          unfold BL.vl at ctv
          clear etv ql
          generalize q % tn = qm at *
          obtain ⟨v9, w4, hr9, R9⟩ := R2H.out.app9 tv (by rw [snH.out]; omega)
          obtain ⟨a9', c9', ev9, zz⟩ := R9.o9.ein
          obtain ⟨s', hs'⟩ : ∃ s', stepB 5 tv s = s' := ⟨_, rfl⟩
          have es : s ++ [tv] = s' := by rw [← hs', stepB_push (by decide) (by decide)]; simp
          rw [es] at R9 ev9
          rw [ev9] at R9 hr9
          have hrH9 : Hid (∀ W' y', W' = w3.alloc (.cells #[.bool tv] 4) → y' = Value.slice (some ⟨w3.heap.size, 0, none⟩) 1 1 → (Builtin.append_ #[49, 49] 49 #[.slice a9 sn c9, y']).run Tryz.prog W' = .ok (.slice a9' s'.length c9') w4) := fun W' y' e1 e2 => by rw [e1, e2]; exact hr9
          have NX : Hid (R3 w rk (rk.map h) s' (.slice a7' m7 c7') (.slice a8' m8 c8') (.slice a9' s'.length c9') w4 ∧ RnS l h (k + 1) s' ∧ rk.length ≤ k + 1 ∧ ∀ j ∈ rk, j < l.length ∧ j ∉ deadL l) := by
            refine (⟨R9, ?_, PL.out⟩ : _ ∧ _ ∧ _)
            have := (STP.out k s _ tv (k + 1) RS.out etH.out (Or.inl ⟨rfl, kl, fun q => by simp at q⟩)).2
            rw [hs'] at this
            exact this
          clear zz es hr9 R9 hs' R2H PL STP RS etH ev9
          go_wp2_with (at_builtin; refine append_run (.tmp 82) (.tmp 84) (by rfl) _ (by rfl) _ _ _ _ (by rfl) (by rfl) (hrH9.out _ _ (by first | rfl | simp) (by first | rfl | simp)) ?_)
          exact ⟨⟨k + 1, q + 1, rk, s', a7', m7, c7', a8', m8, c8', a9', c9', rfl, rfl, rfl, by first | rfl | (rw [qw]; rfl), by first | rfl | (rw [kw]; rfl), by omega, NX⟩, by first | (simp [intOf]; done) | (simp [intOf]; omega)⟩
    · as_aux_lemma =>
        have kl : k + 1 < l.length := f6 (by decide)
        have kn1 : k + 1 < n := by rw [← hnH.out]; exact kl
        rcases Nat.eq_zero_or_pos tn with t0 | t0
        · subst t0
          obtain ⟨v9, w4, hr9, R9⟩ := R2H.out.app9 false (by rw [snH.out]; omega)
          obtain ⟨a9', c9', ev9, zz⟩ := R9.o9.ein
          obtain ⟨s', hs'⟩ : ∃ s', stepB 6 false s = s' := ⟨_, rfl⟩
          have es : s ++ [false] = s' := by rw [← hs', stepB_push (by decide) (by decide)]; simp
          rw [es] at R9 ev9
          rw [ev9] at R9 hr9
          have hrH9 : Hid (∀ W' y', W' = w3.alloc (.cells #[.bool false] 4) → y' = Value.slice (some ⟨w3.heap.size, 0, none⟩) 1 1 → (Builtin.append_ #[49, 49] 49 #[.slice a9 sn c9, y']).run Tryz.prog W' = .ok (.slice a9' s'.length c9') w4) := fun W' y' e1 e2 => by rw [e1, e2]; exact hr9
          have NX : Hid (R3 w rk (rk.map h) s' (.slice a7' m7 c7') (.slice a8' m8 c8') (.slice a9' s'.length c9') w4 ∧ RnS l h (k + 1) s' ∧ rk.length ≤ k + 1 ∧ ∀ j ∈ rk, j < l.length ∧ j ∉ deadL l) := by
            refine (⟨R9, ?_, PL.out⟩ : _ ∧ _ ∧ _)
            have := (STP.out k s _ false (k + 1) RS.out etH.out (Or.inl ⟨rfl, kl, fun q => by simp at q⟩)).2
            rw [hs'] at this
            exact this
          clear zz es hr9 R9 hs' R2H PL STP RS etH ev9
          go_wp2_with (at_builtin; refine append_run (.tmp 82) (.tmp 84) (by rfl) _ (by rfl) _ _ _ _ (by rfl) (by rfl) (hrH9.out _ _ (by first | rfl | simp) (by first | rfl | simp)) ?_)
          exact ⟨⟨k + 1, q + 1, rk, s', a7', m7, c7', a8', m8, c8', a9', c9', rfl, rfl, rfl, by first | rfl | (rw [qw]; rfl), by first | rfl | (rw [kw]; rfl), by omega, NX⟩, by first | (simp [intOf]; done) | (simp [intOf]; omega)⟩
        · have ql : q % tn < tr.length := by rw [htnH.out]; exact Nat.mod_lt _ t0
          obtain ⟨tb, tf, tv, etv, rfl, _, ctv⟩ := (hTH.out.below R2H.out.b (Nat.le_refl _)).get ql
          have tI : (0 : Int) < (tn : Int) := by omega
          have tne : ¬ (tn : Int) = 0 := by omega
          have tnn : ¬ tn = 0 := by omega
          have rm : (q : Int).tmod (tn : Int) = ((q % tn : Nat) : Int) := by rw [Int.tmod_eq_emod_of_nonneg (by omega)]; omega
          have rm1 : (0 : Int) ≤ ((q % tn : Nat) : Int) := by omega
          have rm2 : ((q % tn : Nat) : Int) < (tn : Int) := by rw [htnH.out] at ql; omega
          unfold BL.vl at ctv
          clear etv ql
          generalize q % tn = qm at *
          obtain ⟨v9, w4, hr9, R9⟩ := R2H.out.app9 tv (by rw [snH.out]; omega)
          obtain ⟨a9', c9', ev9, zz⟩ := R9.o9.ein
          obtain ⟨s', hs'⟩ : ∃ s', stepB 6 tv s = s' := ⟨_, rfl⟩
          have es : s ++ [tv] = s' := by rw [← hs', stepB_push (by decide) (by decide)]; simp
          rw [es] at R9 ev9
          rw [ev9] at R9 hr9
          have hrH9 : Hid (∀ W' y', W' = w3.alloc (.cells #[.bool tv] 4) → y' = Value.slice (some ⟨w3.heap.size, 0, none⟩) 1 1 → (Builtin.append_ #[49, 49] 49 #[.slice a9 sn c9, y']).run Tryz.prog W' = .ok (.slice a9' s'.length c9') w4) := fun W' y' e1 e2 => by rw [e1, e2]; exact hr9
          have NX : Hid (R3 w rk (rk.map h) s' (.slice a7' m7 c7') (.slice a8' m8 c8') (.slice a9' s'.length c9') w4 ∧ RnS l h (k + 1) s' ∧ rk.length ≤ k + 1 ∧ ∀ j ∈ rk, j < l.length ∧ j ∉ deadL l) := by
            refine (⟨R9, ?_, PL.out⟩ : _ ∧ _ ∧ _)
            have := (STP.out k s _ tv (k + 1) RS.out etH.out (Or.inl ⟨rfl, kl, fun q => by simp at q⟩)).2
            rw [hs'] at this
            exact this
          clear zz es hr9 R9 hs' R2H PL STP RS etH ev9
          go_wp2_with (at_builtin; refine append_run (.tmp 82) (.tmp 84) (by rfl) _ (by rfl) _ _ _ _ (by rfl) (by rfl) (hrH9.out _ _ (by first | rfl | simp) (by first | rfl | simp)) ?_)
          exact ⟨⟨k + 1, q + 1, rk, s', a7', m7, c7', a8', m8, c8', a9', c9', rfl, rfl, rfl, by first | rfl | (rw [qw]; rfl), by first | rfl | (rw [kw]; rfl), by omega, NX⟩, by first | (simp [intOf]; done) | (simp [intOf]; omega)⟩
    · as_aux_lemma =>
        have kl : k + 1 < l.length := f6 (by decide)
        have kn1 : k + 1 < n := by rw [← hnH.out]; exact kl
        have tk1 : tkL = 1 := by rw [← tkH.out]; rfl
        obtain ⟨m, hm⟩ : ∃ m, sn = m + 1 := ⟨sn - 1, by omega⟩
        obtain ⟨g9, rfl, hc9⟩ := R2H.out.o9.top (by rw [snH.out]; omega)
        rw [snH.out] at hc9
        have m0 : (0 : Int) ≤ (m : Int) := by omega
        have mc : (m : Int) ≤ (c9 : Int) := by omega
        have mcN : m ≤ c9 := by omega
        have mn : (m : Int) < (sn : Int) := by omega
        have mw : IntKind.i64.wrap ((sn : Int) - 1) = (m : Int) := by rw [hm, show ((m + 1 : Nat) : Int) - 1 = (m : Int) by omega]; exact IntWalk.i64_in _ (by omega)
        obtain ⟨x, ex⟩ : ∃ x, s[m]? = some x := ⟨_, List.getElem?_eq_getElem (by rw [snH.out]; omega)⟩
        have gx : s.getD (s.length - 1) false = x := by rw [snH.out, hm, Nat.add_sub_cancel, List.getD_eq_getElem?_getD, ex]; rfl
        have lt : (s.take m).length = m := by rw [List.length_take, snH.out]; omega
        have inT : BL.In w3.drew (some ⟨g9, 0, none⟩) (s.take m) := by
          refine BL.In.take ?_ m
          obtain ⟨a', c', e', _, i', _⟩ := (R2H.out.below ((Below.refl _ w3).drew)).o9.ein
          injection e' with e1 e2 e3
          rw [e1]; exact i'
        obtain ⟨v9, w4, hr9, o9n, b4⟩ := BL.app_full w3.drew ⟨g9, 0, none⟩ m (s.take m) lt inT (!x) 49 (by omega)
        have R9 := (R2H.out.below ((Below.refl _ w3).drew)).new9 b4 o9n
        obtain ⟨a9', c9', ev9, zz⟩ := R9.o9.ein
        obtain ⟨s', hs'⟩ : ∃ s', stepB 7 false s = s' := ⟨_, rfl⟩
        have es : s.take m ++ [(!x)] = s' := by rw [← hs', stepB_not, gx, snH.out, hm, Nat.add_sub_cancel]; try rfl
        have bW4 : Below w3.drew.heap.size w3.drew w4 := b4
        rw [es] at R9 ev9
        rw [ev9] at R9 hr9
        have hr9' : (Builtin.append_ #[49, 49] 49 #[.slice (some ⟨g9, 0, none⟩) m m, .slice (some ⟨w3.heap.size, 0, none⟩) 1 1]).run Tryz.prog ((w3.alloc (.cells #[.bool (!x)] 4)).drew) = .ok (.slice a9' s'.length c9') w4 := hr9
        clear inT b4 o9n hr9
        have NX : Hid (R3 w rk (rk.map h) s' (.slice a7' m7 c7') (.slice a8' m8 c8') (.slice a9' s'.length c9') w4 ∧ RnS l h (k + 1) s' ∧ rk.length ≤ k + 1 ∧ ∀ j ∈ rk, j < l.length ∧ j ∉ deadL l) := by
          refine (⟨R9, ?_, PL.out⟩ : _ ∧ _ ∧ _)
          have := (STP.out k s _ false (k + 1) RS.out etH.out (Or.inl ⟨rfl, kl, fun q => by simp at q⟩)).2
          rw [hs'] at this
          exact this
        have SA : w3.cell? ⟨g9, m, none⟩ = some (.bool x) := R2H.out.o9.cell ex
        have SB : w3.drew.cell? ⟨g9, m, none⟩ = some (.bool x) := (R2H.out.below ((Below.refl _ w3).drew)).o9.cell ex
        have SC : (w3.alloc (.cells #[.bool (!x)] 4)).drew.cell? ⟨g9, m, none⟩ = some (.bool x) := (R2H.out.below (((Below.refl _ w3).alloc (Nat.le_refl _) (.cells #[.bool (!x)] 4)).drew)).o9.cell ex
        have SD : w4.cell? ⟨g9, m, none⟩ = some (.bool x) := (R2H.out.below (((Below.refl _ w3).drew).trans bW4)).o9.cell ex
        clear zz es R9 hs' R2H PL STP RS etH ev9 hm gx ex lt
        go_wp2_with fail
        refine wp_region_noPanic ?_
        refine wp_region_held_drew (S := fun W => W.cell? ⟨g9, m, none⟩ = some (.bool x)) (by kernel_rfl) SB (fun hHeld => ?_)
        refine wpAnyH_take (i := 0) (oi := _) (v := ?_) rfl (by kernel_rfl) (by kernel_rfl) (by kernel_rfl) (fun _ _ _ h => h) (Or.inl ⟨by rfl, ?_⟩) (by assumption) ?_
        rotate_left 1
        · (intro w0 hSw; (try dsimp only at hSw); obtain s0 := hSw; go_simp; try with_reducible rfl)
        (try simp only [List.getElem_toArray, List.getElem_cons_succ, List.getElem_cons_zero]); (try simp only [Act.put, List.setIfInBounds_toArray, List.set_cons_zero, List.set_cons_succ])
        refine wpAnyH_take (i := 1) (oi := _) (v := ?_) rfl (by kernel_rfl) (by kernel_rfl) (by kernel_rfl) (fun _ _ _ h => h) (Or.inl ⟨by rfl, ?_⟩) (by assumption) ?_
        rotate_left 1
        · (intro w0 hSw; (try dsimp only at hSw); obtain s0 := hSw; go_simp; try with_reducible rfl)
        (try simp only [List.getElem_toArray, List.getElem_cons_succ, List.getElem_cons_zero]); (try simp only [Act.put, List.setIfInBounds_toArray, List.set_cons_zero, List.set_cons_succ])
        refine wpAnyH_take (i := 2) (oi := _) (v := ?_) rfl (by kernel_rfl) (by kernel_rfl) (by kernel_rfl) (fun _ _ _ h => h) (Or.inl ⟨by rfl, ?_⟩) (by assumption) ?_
        rotate_left 1
        · (intro w0 hSw; (try dsimp only at hSw); obtain s0 := hSw; go_simp; try with_reducible rfl)
        (try simp only [List.getElem_toArray, List.getElem_cons_succ, List.getElem_cons_zero]); (try simp only [Act.put, List.setIfInBounds_toArray, List.set_cons_zero, List.set_cons_succ])
        refine wpAnyH_take (i := 3) (oi := _) (v := ?_) rfl (by kernel_rfl) (by kernel_rfl) (by kernel_rfl) (fun _ _ _ h => h) (Or.inl ⟨by rfl, ?_⟩) (by assumption) ?_
        rotate_left 1
        · (intro w0 hSw; (try dsimp only at hSw); obtain s0 := hSw; go_simp; try with_reducible rfl)
        (try simp only [List.getElem_toArray, List.getElem_cons_succ, List.getElem_cons_zero]); (try simp only [Act.put, List.setIfInBounds_toArray, List.set_cons_zero, List.set_cons_succ])
        refine wpAnyH_take (i := 4) (oi := _) (v := ?_) rfl (by kernel_rfl) (by kernel_rfl) (by kernel_rfl) (fun _ _ _ h => h) (Or.inl ⟨by rfl, ?_⟩) (by assumption) ?_
        rotate_left 1
        · (intro w0 hSw; (try dsimp only at hSw); obtain s0 := hSw; go_simp; try with_reducible rfl)
        (try simp only [List.getElem_toArray, List.getElem_cons_succ, List.getElem_cons_zero]); (try simp only [Act.put, List.setIfInBounds_toArray, List.set_cons_zero, List.set_cons_succ])
        refine wpAnyH_take (i := 5) (oi := _) (v := ?_) rfl (by kernel_rfl) (by kernel_rfl) (by kernel_rfl) (fun _ _ _ h => h) (Or.inl ⟨by rfl, ?_⟩) (by assumption) ?_
        rotate_left 1
        · (intro w0 hSw; (try dsimp only at hSw); obtain s0 := hSw; go_simp; try with_reducible rfl)
        (try simp only [List.getElem_toArray, List.getElem_cons_succ, List.getElem_cons_zero]); (try simp only [Act.put, List.setIfInBounds_toArray, List.set_cons_zero, List.set_cons_succ])
        refine wpAnyH_take (i := 6) (oi := _) (v := ?_) rfl (by kernel_rfl) (by kernel_rfl) (by kernel_rfl) (fun _ _ _ h => h) (Or.inl ⟨by rfl, ?_⟩) (by assumption) ?_
        rotate_left 1
        · (intro w0 hSw; (try dsimp only at hSw); obtain s0 := hSw; go_simp; try with_reducible rfl)
        (try simp only [List.getElem_toArray, List.getElem_cons_succ, List.getElem_cons_zero]); (try simp only [Act.put, List.setIfInBounds_toArray, List.set_cons_zero, List.set_cons_succ])
        refine wpAnyH_take (i := 7) (oi := _) (v := ?_) rfl (by kernel_rfl) (by kernel_rfl) (by kernel_rfl) (fun _ _ _ h => h) (Or.inl ⟨by rfl, ?_⟩) (by assumption) ?_
        rotate_left 1
        · (intro w0 hSw; (try dsimp only at hSw); obtain s0 := hSw; go_simp; try with_reducible rfl)
        (try simp only [List.getElem_toArray, List.getElem_cons_succ, List.getElem_cons_zero]); (try simp only [Act.put, List.setIfInBounds_toArray, List.set_cons_zero, List.set_cons_succ])
        refine wpAnyH_take (i := 8) (oi := _) (v := ?_) rfl (by kernel_rfl) (by kernel_rfl) (by kernel_rfl) (fun _ _ _ h => h) (Or.inl ⟨by rfl, ?_⟩) (by assumption) ?_
        rotate_left 1
        · (intro w0 hSw; (try dsimp only at hSw); obtain s0 := hSw; go_simp; try with_reducible rfl)
        (try simp only [List.getElem_toArray, List.getElem_cons_succ, List.getElem_cons_zero]); (try simp only [Act.put, List.setIfInBounds_toArray, List.set_cons_zero, List.set_cons_succ])
        refine wpAnyH_take (i := 9) (oi := _) (v := ?_) rfl (by kernel_rfl) (by kernel_rfl) (by kernel_rfl) (fun _ _ _ h => h) (Or.inl ⟨by rfl, ?_⟩) (by assumption) ?_
        rotate_left 1
        · (intro w0 hSw; (try dsimp only at hSw); obtain s0 := hSw; go_simp; try with_reducible rfl)
        (try simp only [List.getElem_toArray, List.getElem_cons_succ, List.getElem_cons_zero]); (try simp only [Act.put, List.setIfInBounds_toArray, List.set_cons_zero, List.set_cons_succ])
        refine wpAnyH_take (i := 10) (oi := _) (v := ?_) rfl (by kernel_rfl) (by kernel_rfl) (by kernel_rfl) (fun _ _ _ h => h) (Or.inl ⟨by rfl, ?_⟩) (by assumption) ?_
        rotate_left 1
        · (intro w0 hSw; (try dsimp only at hSw); obtain s0 := hSw; go_simp; try with_reducible rfl)
        (try simp only [List.getElem_toArray, List.getElem_cons_succ, List.getElem_cons_zero]); (try simp only [Act.put, List.setIfInBounds_toArray, List.set_cons_zero, List.set_cons_succ])
        refine wpAnyH_take (i := 11) (oi := _) (v := ?_) rfl (by kernel_rfl) (by kernel_rfl) (by kernel_rfl) (fun _ _ _ h => h) (Or.inl ⟨by rfl, ?_⟩) (by assumption) ?_
        rotate_left 1
        · (intro w0 hSw; (try dsimp only at hSw); obtain s0 := hSw; go_simp; try with_reducible rfl)
        (try simp only [List.getElem_toArray, List.getElem_cons_succ, List.getElem_cons_zero]); (try simp only [Act.put, List.setIfInBounds_toArray, List.set_cons_zero, List.set_cons_succ])
        refine wpAnyH_ready (rs := [12]) (by kernel_rfl) (by simp) ?_
        refine AllReadyH.cons (o := _) rfl (fun K hK => ?_) AllReadyH.nil
        go_simp
        try dsimp only
        refine hK _ _ SC (fun hHeld => ?_)
        clear hK K
        (try simp only [List.getElem_toArray, List.getElem_cons_succ, List.getElem_cons_zero]); (try simp only [Act.put, List.setIfInBounds_toArray, List.set_cons_zero, List.set_cons_succ])
        refine wpAnyH_ready (rs := [13]) (by kernel_rfl) (by simp) ?_
        refine AllReadyH.cons (o := _) rfl (fun K hK => ?_) AllReadyH.nil
        refine step_append_runG rfl (.tmp 93) (.tmp 100) 49 rfl _ _ _ _ rfl rfl hr9' ?_
        refine hK _ _ SD (fun hHeld => ?_)
        clear hK K
        (try simp only [List.getElem_toArray, List.getElem_cons_succ, List.getElem_cons_zero]); (try simp only [Act.put, List.setIfInBounds_toArray, List.set_cons_zero, List.set_cons_succ])
        refine wpAnyH_take (i := 14) (oi := _) (v := ?_) rfl (by kernel_rfl) (by kernel_rfl) (by kernel_rfl) (fun _ _ _ h => h) (Or.inl ⟨by rfl, ?_⟩) (by assumption) ?_
        rotate_left 1
        · (intro w0 hSw; (try dsimp only at hSw); obtain s0 := hSw; go_simp; try with_reducible rfl)
        (try simp only [List.getElem_toArray, List.getElem_cons_succ, List.getElem_cons_zero]); (try simp only [Act.put, List.setIfInBounds_toArray, List.set_cons_zero, List.set_cons_succ])
        refine wpAnyH_done (by kernel_rfl) ?_ _
        refine NoPanic.normal ?_
        clear hr9' SA SB SC SD hHeld
        go_wp2_with fail
        exact ⟨⟨k + 1, q, rk, s', a7', m7, c7', a8', m8, c8', a9', c9', rfl, rfl, rfl, by first | rfl | (rw [qw]; rfl), by first | rfl | (rw [kw]; rfl), by omega, NX⟩, by first | (simp [intOf]; done) | (simp [intOf]; omega)⟩
    · as_aux_lemma =>
        have kl : k + 1 < l.length := f6 (by decide)
        have kn1 : k + 1 < n := by rw [← hnH.out]; exact kl
        have tk1 : tkL = 2 := by rw [← tkH.out]; rfl
        obtain ⟨m, hm⟩ : ∃ m, sn = m + 2 := ⟨sn - 2, by omega⟩
        obtain ⟨g9, rfl, hc9⟩ := R2H.out.o9.top (by rw [snH.out]; omega)
        rw [snH.out] at hc9
        have m0 : (0 : Int) ≤ (m : Int) := by omega
        have mc : (m : Int) ≤ (c9 : Int) := by omega
        have mcN : m ≤ c9 := by omega
        have mn : (m : Int) < (sn : Int) := by omega
        have mw : IntKind.i64.wrap ((sn : Int) - 2) = (m : Int) := by rw [hm, show ((m + 2 : Nat) : Int) - 2 = (m : Int) by omega]; exact IntWalk.i64_in _ (by omega)
        have mw1 : IntKind.i64.wrap ((sn : Int) - 1) = ((m + 1 : Nat) : Int) := by rw [hm, show ((m + 2 : Nat) : Int) - 1 = ((m + 1 : Nat) : Int) by omega]; exact IntWalk.i64_in _ (by omega)
        have m10 : (0 : Int) ≤ ((m + 1 : Nat) : Int) := by omega
        have m1n : ((m + 1 : Nat) : Int) < (sn : Int) := by omega
        obtain ⟨x, ex⟩ : ∃ x, s[m]? = some x := ⟨_, List.getElem?_eq_getElem (by rw [snH.out]; omega)⟩
        obtain ⟨y, ey⟩ : ∃ y, s[m + 1]? = some y := ⟨_, List.getElem?_eq_getElem (by rw [snH.out]; omega)⟩
        have gx : s.getD (s.length - 2) false = x := by rw [snH.out, hm, Nat.add_sub_cancel, List.getD_eq_getElem?_getD, ex]; rfl
        have gy : s.getD (s.length - 1) false = y := by rw [snH.out, hm, show m + 2 - 1 = m + 1 by omega, List.getD_eq_getElem?_getD, ey]; rfl
        have lt : (s.take m).length = m := by rw [List.length_take, snH.out]; omega
        obtain ⟨m1, hm1⟩ : ∃ m1, m + 1 = m1 := ⟨_, rfl⟩
        rw [hm1] at ey mw1 m10 m1n
        clear hm1
        cases x with
        | true =>
          have inT : BL.In w3.drew (some ⟨g9, 0, none⟩) (s.take m) := by
            refine BL.In.take ?_ m
            obtain ⟨a', c', e', _, i', _⟩ := (R2H.out.below ((Below.refl _ w3).drew)).o9.ein
            injection e' with e1 e2 e3
            rw [e1]; exact i'
          obtain ⟨v9, w4, hr9, o9n, b4⟩ := BL.app_full w3.drew ⟨g9, 0, none⟩ m (s.take m) lt inT y 49 (by omega)
          have R9 := (R2H.out.below ((Below.refl _ w3).drew)).new9 b4 o9n
          obtain ⟨a9', c9', ev9, zz⟩ := R9.o9.ein
          obtain ⟨s', hs'⟩ : ∃ s', stepB 8 false s = s' := ⟨_, rfl⟩
          have es : s.take m ++ [y] = s' := by rw [← hs', stepB_and _ _ (by rw [snH.out]; omega), gx, gy, snH.out, hm, Nat.add_sub_cancel]; try rfl
          have bW4 : Below w3.drew.heap.size w3.drew w4 := b4
          rw [es] at R9 ev9
          rw [ev9] at R9 hr9
          have hr9' : (Builtin.append_ #[49, 49] 49 #[.slice (some ⟨g9, 0, none⟩) m m, .slice (some ⟨w3.heap.size, 0, none⟩) 1 1]).run Tryz.prog ((w3.alloc (.cells #[.bool y] 4)).drew) = .ok (.slice a9' s'.length c9') w4 := hr9
          clear inT b4 o9n hr9
          have NX : Hid (R3 w rk (rk.map h) s' (.slice a7' m7 c7') (.slice a8' m8 c8') (.slice a9' s'.length c9') w4 ∧ RnS l h (k + 1) s' ∧ rk.length ≤ k + 1 ∧ ∀ j ∈ rk, j < l.length ∧ j ∉ deadL l) := by
            refine (⟨R9, ?_, PL.out⟩ : _ ∧ _ ∧ _)
            have := (STP.out k s _ false (k + 1) RS.out etH.out (Or.inl ⟨rfl, kl, fun q => by simp at q⟩)).2
            rw [hs'] at this
            exact this
          have SA : w3.cell? ⟨g9, m, none⟩ = some (.bool true) ∧ w3.cell? ⟨g9, m1, none⟩ = some (.bool y) := ⟨R2H.out.o9.cell ex, R2H.out.o9.cell ey⟩
          have SB : w3.drew.cell? ⟨g9, m, none⟩ = some (.bool true) ∧ w3.drew.cell? ⟨g9, m1, none⟩ = some (.bool y) := ⟨(R2H.out.below ((Below.refl _ w3).drew)).o9.cell ex, (R2H.out.below ((Below.refl _ w3).drew)).o9.cell ey⟩
          have SC : (w3.alloc (.cells #[.bool y] 4)).drew.cell? ⟨g9, m, none⟩ = some (.bool true) ∧ (w3.alloc (.cells #[.bool y] 4)).drew.cell? ⟨g9, m1, none⟩ = some (.bool y) := ⟨(R2H.out.below (((Below.refl _ w3).alloc (Nat.le_refl _) (.cells #[.bool y] 4)).drew)).o9.cell ex, (R2H.out.below (((Below.refl _ w3).alloc (Nat.le_refl _) (.cells #[.bool y] 4)).drew)).o9.cell ey⟩
          have SD : w4.cell? ⟨g9, m, none⟩ = some (.bool true) ∧ w4.cell? ⟨g9, m1, none⟩ = some (.bool y) := ⟨(R2H.out.below (((Below.refl _ w3).drew).trans bW4)).o9.cell ex, (R2H.out.below (((Below.refl _ w3).drew).trans bW4)).o9.cell ey⟩
          clear zz es R9 hs' R2H PL STP RS etH ev9 hm gx gy ex ey lt
          go_wp2_with fail
          refine wp_region_noPanic ?_
          refine wp_region_held_drew (S := fun W => W.cell? ⟨g9, m, none⟩ = some (.bool true) ∧ W.cell? ⟨g9, m1, none⟩ = some (.bool y)) (by kernel_rfl) SB (fun hHeld => ?_)
          refine wpAnyH_take (i := 0) (oi := _) (v := ?_) rfl (by kernel_rfl) (by kernel_rfl) (by kernel_rfl) (fun _ _ _ h => h) (Or.inl ⟨by rfl, ?_⟩) (by assumption) ?_
          rotate_left 1
          · (intro w0 hSw; (try dsimp only at hSw); obtain ⟨s0, s1⟩ := hSw; go_simp; try with_reducible rfl)
          (try simp only [List.getElem_toArray, List.getElem_cons_succ, List.getElem_cons_zero]); (try simp only [Act.put, List.setIfInBounds_toArray, List.set_cons_zero, List.set_cons_succ])
          refine wpAnyH_take (i := 1) (oi := _) (v := ?_) rfl (by kernel_rfl) (by kernel_rfl) (by kernel_rfl) (fun _ _ _ h => h) (Or.inl ⟨by rfl, ?_⟩) (by assumption) ?_
          rotate_left 1
          · (intro w0 hSw; (try dsimp only at hSw); obtain ⟨s0, s1⟩ := hSw; go_simp; try with_reducible rfl)
          (try simp only [List.getElem_toArray, List.getElem_cons_succ, List.getElem_cons_zero]); (try simp only [Act.put, List.setIfInBounds_toArray, List.set_cons_zero, List.set_cons_succ])
          refine wpAnyH_take (i := 2) (oi := _) (v := ?_) rfl (by kernel_rfl) (by kernel_rfl) (by kernel_rfl) (fun _ _ _ h => h) (Or.inl ⟨by rfl, ?_⟩) (by assumption) ?_
          rotate_left 1
          · (intro w0 hSw; (try dsimp only at hSw); obtain ⟨s0, s1⟩ := hSw; go_simp; try with_reducible rfl)
          (try simp only [List.getElem_toArray, List.getElem_cons_succ, List.getElem_cons_zero]); (try simp only [Act.put, List.setIfInBounds_toArray, List.set_cons_zero, List.set_cons_succ])
          refine wpAnyH_take (i := 3) (oi := _) (v := ?_) rfl (by kernel_rfl) (by kernel_rfl) (by kernel_rfl) (fun _ _ _ h => h) (Or.inl ⟨by rfl, ?_⟩) (by assumption) ?_
          rotate_left 1
          · (intro w0 hSw; (try dsimp only at hSw); obtain ⟨s0, s1⟩ := hSw; go_simp; try with_reducible rfl)
          (try simp only [List.getElem_toArray, List.getElem_cons_succ, List.getElem_cons_zero]); (try simp only [Act.put, List.setIfInBounds_toArray, List.set_cons_zero, List.set_cons_succ])
          refine wpAnyH_take (i := 4) (oi := _) (v := ?_) rfl (by kernel_rfl) (by kernel_rfl) (by kernel_rfl) (fun _ _ _ h => h) (Or.inl ⟨by rfl, ?_⟩) (by assumption) ?_
          rotate_left 1
          · (intro w0 hSw; (try dsimp only at hSw); obtain ⟨s0, s1⟩ := hSw; go_simp; try with_reducible rfl)
          (try simp only [List.getElem_toArray, List.getElem_cons_succ, List.getElem_cons_zero]); (try simp only [Act.put, List.setIfInBounds_toArray, List.set_cons_zero, List.set_cons_succ])
          refine wpAnyH_take (i := 5) (oi := _) (v := ?_) rfl (by kernel_rfl) (by kernel_rfl) (by kernel_rfl) (fun _ _ _ h => h) (Or.inl ⟨by rfl, ?_⟩) (by assumption) ?_
          rotate_left 1
          · (intro w0 hSw; (try dsimp only at hSw); obtain ⟨s0, s1⟩ := hSw; go_simp; try with_reducible rfl)
          (try simp only [List.getElem_toArray, List.getElem_cons_succ, List.getElem_cons_zero]); (try simp only [Act.put, List.setIfInBounds_toArray, List.set_cons_zero, List.set_cons_succ])
          refine wpAnyH_take (i := 6) (oi := _) (v := ?_) rfl (by kernel_rfl) (by kernel_rfl) (by kernel_rfl) (fun _ _ _ h => h) (Or.inl ⟨by rfl, ?_⟩) (by assumption) ?_
          rotate_left 1
          · (intro w0 hSw; (try dsimp only at hSw); obtain ⟨s0, s1⟩ := hSw; go_simp; try with_reducible rfl)
          (try simp only [List.getElem_toArray, List.getElem_cons_succ, List.getElem_cons_zero]); (try simp only [Act.put, List.setIfInBounds_toArray, List.set_cons_zero, List.set_cons_succ])
          refine wpAnyH_take (i := 7) (oi := _) (v := ?_) rfl (by kernel_rfl) (by kernel_rfl) (by kernel_rfl) (fun _ _ _ h => h) (Or.inl ⟨by rfl, ?_⟩) (by assumption) ?_
          rotate_left 1
          · (intro w0 hSw; (try dsimp only at hSw); obtain ⟨s0, s1⟩ := hSw; go_simp; try with_reducible rfl)
          (try simp only [List.getElem_toArray, List.getElem_cons_succ, List.getElem_cons_zero]); (try simp only [Act.put, List.setIfInBounds_toArray, List.set_cons_zero, List.set_cons_succ])
          refine wpAnyH_take (i := 8) (oi := _) (v := ?_) rfl (by kernel_rfl) (by kernel_rfl) (by kernel_rfl) (fun _ _ _ h => h) (Or.inl ⟨by rfl, ?_⟩) (by assumption) ?_
          rotate_left 1
          · (intro w0 hSw; (try dsimp only at hSw); obtain ⟨s0, s1⟩ := hSw; go_simp; try with_reducible rfl)
          (try simp only [List.getElem_toArray, List.getElem_cons_succ, List.getElem_cons_zero]); (try simp only [Act.put, List.setIfInBounds_toArray, List.set_cons_zero, List.set_cons_succ])
          refine wpAnyH_take (i := 9) (oi := _) (v := ?_) rfl (by kernel_rfl) (by kernel_rfl) (by kernel_rfl) (fun _ _ _ h => h) (Or.inl ⟨by rfl, ?_⟩) (by assumption) ?_
          rotate_left 1
          · (intro w0 hSw; (try dsimp only at hSw); obtain ⟨s0, s1⟩ := hSw; go_simp; try with_reducible rfl)
          (try simp only [List.getElem_toArray, List.getElem_cons_succ, List.getElem_cons_zero]); (try simp only [Act.put, List.setIfInBounds_toArray, List.set_cons_zero, List.set_cons_succ])
          refine wpAnyH_take (i := 10) (oi := _) (v := ?_) rfl (by kernel_rfl) (by kernel_rfl) (by kernel_rfl) (fun _ _ _ h => h) (Or.inl ⟨by rfl, ?_⟩) (by assumption) ?_
          rotate_left 1
          · (intro w0 hSw; (try dsimp only at hSw); obtain ⟨s0, s1⟩ := hSw; go_simp; try with_reducible rfl)
          (try simp only [List.getElem_toArray, List.getElem_cons_succ, List.getElem_cons_zero]); (try simp only [Act.put, List.setIfInBounds_toArray, List.set_cons_zero, List.set_cons_succ])
          refine wpAnyH_take (i := 11) (oi := _) (v := ?_) rfl (by kernel_rfl) (by kernel_rfl) (by kernel_rfl) (fun _ _ _ h => h) (Or.inl ⟨by rfl, ?_⟩) (by assumption) ?_
          rotate_left 1
          · (intro w0 hSw; (try dsimp only at hSw); obtain ⟨s0, s1⟩ := hSw; go_simp; try with_reducible rfl)
          (try simp only [List.getElem_toArray, List.getElem_cons_succ, List.getElem_cons_zero]); (try simp only [Act.put, List.setIfInBounds_toArray, List.set_cons_zero, List.set_cons_succ])
          refine wpAnyH_take (i := 12) (oi := _) (v := ?_) rfl (by kernel_rfl) (by kernel_rfl) (by kernel_rfl) (fun _ _ _ h => h) (Or.inl ⟨by rfl, ?_⟩) (by assumption) ?_
          rotate_left 1
          · (intro w0 hSw; (try dsimp only at hSw); obtain ⟨s0, s1⟩ := hSw; go_simp; try with_reducible rfl)
          (try simp only [List.getElem_toArray, List.getElem_cons_succ, List.getElem_cons_zero]); (try simp only [Act.put, List.setIfInBounds_toArray, List.set_cons_zero, List.set_cons_succ])
          refine wpAnyH_take (i := 13) (oi := _) (v := ?_) rfl (by kernel_rfl) (by kernel_rfl) (by kernel_rfl) (fun _ _ _ h => h) (Or.inl ⟨by rfl, ?_⟩) (by assumption) ?_
          rotate_left 1
          · (intro w0 hSw; (try dsimp only at hSw); obtain ⟨s0, s1⟩ := hSw; go_simp; try with_reducible rfl)
          (try simp only [List.getElem_toArray, List.getElem_cons_succ, List.getElem_cons_zero]); (try simp only [Act.put, List.setIfInBounds_toArray, List.set_cons_zero, List.set_cons_succ])
          refine wpAnyH_take (i := 14) (oi := _) (v := ?_) rfl (by kernel_rfl) (by kernel_rfl) (by kernel_rfl) (fun _ _ _ h => h) (Or.inl ⟨by rfl, ?_⟩) (by assumption) ?_
          rotate_left 1
          · (intro w0 hSw; (try dsimp only at hSw); obtain ⟨s0, s1⟩ := hSw; go_simp; try with_reducible rfl)
          (try simp only [List.getElem_toArray, List.getElem_cons_succ, List.getElem_cons_zero]); (try simp only [Act.put, List.setIfInBounds_toArray, List.set_cons_zero, List.set_cons_succ])
          refine wpAnyH_take (i := 15) (oi := _) (v := ?_) rfl (by kernel_rfl) (by kernel_rfl) (by kernel_rfl) (fun _ _ _ h => h) (Or.inl ⟨by rfl, ?_⟩) (by assumption) ?_
          rotate_left 1
          · (intro w0 hSw; (try dsimp only at hSw); obtain ⟨s0, s1⟩ := hSw; go_simp; try with_reducible rfl)
          (try simp only [List.getElem_toArray, List.getElem_cons_succ, List.getElem_cons_zero]); (try simp only [Act.put, List.setIfInBounds_toArray, List.set_cons_zero, List.set_cons_succ])
          refine wpAnyH_take (i := 16) (oi := _) (v := ?_) rfl (by kernel_rfl) (by kernel_rfl) (by kernel_rfl) (fun _ _ _ h => h) (Or.inl ⟨by rfl, ?_⟩) (by assumption) ?_
          rotate_left 1
          · (intro w0 hSw; (try dsimp only at hSw); obtain ⟨s0, s1⟩ := hSw; go_simp; try with_reducible rfl)
          (try simp only [List.getElem_toArray, List.getElem_cons_succ, List.getElem_cons_zero]); (try simp only [Act.put, List.setIfInBounds_toArray, List.set_cons_zero, List.set_cons_succ])
          refine wpAnyH_take (i := 17) (oi := _) (v := ?_) rfl (by kernel_rfl) (by kernel_rfl) (by kernel_rfl) (fun _ _ _ h => h) (Or.inl ⟨by rfl, ?_⟩) (by assumption) ?_
          rotate_left 1
          · (intro w0 hSw; (try dsimp only at hSw); obtain ⟨s0, s1⟩ := hSw; go_simp; try with_reducible rfl)
          (try simp only [List.getElem_toArray, List.getElem_cons_succ, List.getElem_cons_zero]); (try simp only [Act.put, List.setIfInBounds_toArray, List.set_cons_zero, List.set_cons_succ])
          refine wpAnyH_ready (rs := [18]) (by kernel_rfl) (by simp) ?_
          refine AllReadyH.cons (o := _) rfl (fun K hK => ?_) AllReadyH.nil
          go_simp
          try dsimp only
          refine hK _ _ SC (fun hHeld => ?_)
          clear hK K
          (try simp only [List.getElem_toArray, List.getElem_cons_succ, List.getElem_cons_zero]); (try simp only [Act.put, List.setIfInBounds_toArray, List.set_cons_zero, List.set_cons_succ])
          refine wpAnyH_ready (rs := [19]) (by kernel_rfl) (by simp) ?_
          refine AllReadyH.cons (o := _) rfl (fun K hK => ?_) AllReadyH.nil
          refine step_append_runG rfl (.tmp 109) (.tmp 122) 49 rfl _ _ _ _ rfl rfl hr9' ?_
          refine hK _ _ SD (fun hHeld => ?_)
          clear hK K
          (try simp only [List.getElem_toArray, List.getElem_cons_succ, List.getElem_cons_zero]); (try simp only [Act.put, List.setIfInBounds_toArray, List.set_cons_zero, List.set_cons_succ])
          refine wpAnyH_take (i := 20) (oi := _) (v := ?_) rfl (by kernel_rfl) (by kernel_rfl) (by kernel_rfl) (fun _ _ _ h => h) (Or.inl ⟨by rfl, ?_⟩) (by assumption) ?_
          rotate_left 1
          · (intro w0 hSw; (try dsimp only at hSw); obtain ⟨s0, s1⟩ := hSw; go_simp; try with_reducible rfl)
          (try simp only [List.getElem_toArray, List.getElem_cons_succ, List.getElem_cons_zero]); (try simp only [Act.put, List.setIfInBounds_toArray, List.set_cons_zero, List.set_cons_succ])
          refine wpAnyH_done (by kernel_rfl) ?_ _
          refine NoPanic.normal ?_
          clear hr9' SA SB SC SD hHeld
          go_wp2_with fail
          exact ⟨⟨k + 1, q, rk, s', a7', m7, c7', a8', m8, c8', a9', c9', rfl, rfl, rfl, by first | rfl | (rw [qw]; rfl), by first | rfl | (rw [kw]; rfl), by omega, NX⟩, by first | (simp [intOf]; done) | (simp [intOf]; omega)⟩
        | false =>
          have inT : BL.In w3.drew (some ⟨g9, 0, none⟩) (s.take m) := by
            refine BL.In.take ?_ m
            obtain ⟨a', c', e', _, i', _⟩ := (R2H.out.below ((Below.refl _ w3).drew)).o9.ein
            injection e' with e1 e2 e3
            rw [e1]; exact i'
          obtain ⟨v9, w4, hr9, o9n, b4⟩ := BL.app_full w3.drew ⟨g9, 0, none⟩ m (s.take m) lt inT false 49 (by omega)
          have R9 := (R2H.out.below ((Below.refl _ w3).drew)).new9 b4 o9n
          obtain ⟨a9', c9', ev9, zz⟩ := R9.o9.ein
          obtain ⟨s', hs'⟩ : ∃ s', stepB 8 false s = s' := ⟨_, rfl⟩
          have es : s.take m ++ [false] = s' := by rw [← hs', stepB_and _ _ (by rw [snH.out]; omega), gx, gy, snH.out, hm, Nat.add_sub_cancel]; try rfl
          have bW4 : Below w3.drew.heap.size w3.drew w4 := b4
          rw [es] at R9 ev9
          rw [ev9] at R9 hr9
          have hr9' : (Builtin.append_ #[49, 49] 49 #[.slice (some ⟨g9, 0, none⟩) m m, .slice (some ⟨w3.heap.size, 0, none⟩) 1 1]).run Tryz.prog ((w3.alloc (.cells #[.bool false] 4)).drew) = .ok (.slice a9' s'.length c9') w4 := hr9
          clear inT b4 o9n hr9
          have NX : Hid (R3 w rk (rk.map h) s' (.slice a7' m7 c7') (.slice a8' m8 c8') (.slice a9' s'.length c9') w4 ∧ RnS l h (k + 1) s' ∧ rk.length ≤ k + 1 ∧ ∀ j ∈ rk, j < l.length ∧ j ∉ deadL l) := by
            refine (⟨R9, ?_, PL.out⟩ : _ ∧ _ ∧ _)
            have := (STP.out k s _ false (k + 1) RS.out etH.out (Or.inl ⟨rfl, kl, fun q => by simp at q⟩)).2
            rw [hs'] at this
            exact this
          have SA : w3.cell? ⟨g9, m, none⟩ = some (.bool false) ∧ w3.cell? ⟨g9, m1, none⟩ = some (.bool y) := ⟨R2H.out.o9.cell ex, R2H.out.o9.cell ey⟩
          have SB : w3.drew.cell? ⟨g9, m, none⟩ = some (.bool false) ∧ w3.drew.cell? ⟨g9, m1, none⟩ = some (.bool y) := ⟨(R2H.out.below ((Below.refl _ w3).drew)).o9.cell ex, (R2H.out.below ((Below.refl _ w3).drew)).o9.cell ey⟩
          have SC : (w3.alloc (.cells #[.bool false] 4)).drew.cell? ⟨g9, m, none⟩ = some (.bool false) ∧ (w3.alloc (.cells #[.bool false] 4)).drew.cell? ⟨g9, m1, none⟩ = some (.bool y) := ⟨(R2H.out.below (((Below.refl _ w3).alloc (Nat.le_refl _) (.cells #[.bool false] 4)).drew)).o9.cell ex, (R2H.out.below (((Below.refl _ w3).alloc (Nat.le_refl _) (.cells #[.bool false] 4)).drew)).o9.cell ey⟩
          have SD : w4.cell? ⟨g9, m, none⟩ = some (.bool false) ∧ w4.cell? ⟨g9, m1, none⟩ = some (.bool y) := ⟨(R2H.out.below (((Below.refl _ w3).drew).trans bW4)).o9.cell ex, (R2H.out.below (((Below.refl _ w3).drew).trans bW4)).o9.cell ey⟩
          clear zz es R9 hs' R2H PL STP RS etH ev9 hm gx gy ex ey lt
          go_wp2_with fail
          refine wp_region_noPanic ?_
          refine wp_region_held_drew (S := fun W => W.cell? ⟨g9, m, none⟩ = some (.bool false) ∧ W.cell? ⟨g9, m1, none⟩ = some (.bool y)) (by kernel_rfl) SB (fun hHeld => ?_)
          refine wpAnyH_take (i := 0) (oi := _) (v := ?_) rfl (by kernel_rfl) (by kernel_rfl) (by kernel_rfl) (fun _ _ _ h => h) (Or.inl ⟨by rfl, ?_⟩) (by assumption) ?_
          rotate_left 1
          · (intro w0 hSw; (try dsimp only at hSw); obtain ⟨s0, s1⟩ := hSw; go_simp; try with_reducible rfl)
          (try simp only [List.getElem_toArray, List.getElem_cons_succ, List.getElem_cons_zero]); (try simp only [Act.put, List.setIfInBounds_toArray, List.set_cons_zero, List.set_cons_succ])
          refine wpAnyH_take (i := 1) (oi := _) (v := ?_) rfl (by kernel_rfl) (by kernel_rfl) (by kernel_rfl) (fun _ _ _ h => h) (Or.inl ⟨by rfl, ?_⟩) (by assumption) ?_
          rotate_left 1
          · (intro w0 hSw; (try dsimp only at hSw); obtain ⟨s0, s1⟩ := hSw; go_simp; try with_reducible rfl)
          (try simp only [List.getElem_toArray, List.getElem_cons_succ, List.getElem_cons_zero]); (try simp only [Act.put, List.setIfInBounds_toArray, List.set_cons_zero, List.set_cons_succ])
          refine wpAnyH_take (i := 2) (oi := _) (v := ?_) rfl (by kernel_rfl) (by kernel_rfl) (by kernel_rfl) (fun _ _ _ h => h) (Or.inl ⟨by rfl, ?_⟩) (by assumption) ?_
          rotate_left 1
          · (intro w0 hSw; (try dsimp only at hSw); obtain ⟨s0, s1⟩ := hSw; go_simp; try with_reducible rfl)
          (try simp only [List.getElem_toArray, List.getElem_cons_succ, List.getElem_cons_zero]); (try simp only [Act.put, List.setIfInBounds_toArray, List.set_cons_zero, List.set_cons_succ])
          refine wpAnyH_take (i := 3) (oi := _) (v := ?_) rfl (by kernel_rfl) (by kernel_rfl) (by kernel_rfl) (fun _ _ _ h => h) (Or.inl ⟨by rfl, ?_⟩) (by assumption) ?_
          rotate_left 1
          · (intro w0 hSw; (try dsimp only at hSw); obtain ⟨s0, s1⟩ := hSw; go_simp; try with_reducible rfl)
          (try simp only [List.getElem_toArray, List.getElem_cons_succ, List.getElem_cons_zero]); (try simp only [Act.put, List.setIfInBounds_toArray, List.set_cons_zero, List.set_cons_succ])
          refine wpAnyH_take (i := 4) (oi := _) (v := ?_) rfl (by kernel_rfl) (by kernel_rfl) (by kernel_rfl) (fun _ _ _ h => h) (Or.inl ⟨by rfl, ?_⟩) (by assumption) ?_
          rotate_left 1
          · (intro w0 hSw; (try dsimp only at hSw); obtain ⟨s0, s1⟩ := hSw; go_simp; try with_reducible rfl)
          (try simp only [List.getElem_toArray, List.getElem_cons_succ, List.getElem_cons_zero]); (try simp only [Act.put, List.setIfInBounds_toArray, List.set_cons_zero, List.set_cons_succ])
          refine wpAnyH_take (i := 5) (oi := _) (v := ?_) rfl (by kernel_rfl) (by kernel_rfl) (by kernel_rfl) (fun _ _ _ h => h) (Or.inl ⟨by rfl, ?_⟩) (by assumption) ?_
          rotate_left 1
          · (intro w0 hSw; (try dsimp only at hSw); obtain ⟨s0, s1⟩ := hSw; go_simp; try with_reducible rfl)
          (try simp only [List.getElem_toArray, List.getElem_cons_succ, List.getElem_cons_zero]); (try simp only [Act.put, List.setIfInBounds_toArray, List.set_cons_zero, List.set_cons_succ])
          refine wpAnyH_take (i := 6) (oi := _) (v := ?_) rfl (by kernel_rfl) (by kernel_rfl) (by kernel_rfl) (fun _ _ _ h => h) (Or.inl ⟨by rfl, ?_⟩) (by assumption) ?_
          rotate_left 1
          · (intro w0 hSw; (try dsimp only at hSw); obtain ⟨s0, s1⟩ := hSw; go_simp; try with_reducible rfl)
          (try simp only [List.getElem_toArray, List.getElem_cons_succ, List.getElem_cons_zero]); (try simp only [Act.put, List.setIfInBounds_toArray, List.set_cons_zero, List.set_cons_succ])
          refine wpAnyH_take (i := 7) (oi := _) (v := ?_) rfl (by kernel_rfl) (by kernel_rfl) (by kernel_rfl) (fun _ _ _ h => h) (Or.inl ⟨by rfl, ?_⟩) (by assumption) ?_
          rotate_left 1
          · (intro w0 hSw; (try dsimp only at hSw); obtain ⟨s0, s1⟩ := hSw; go_simp; try with_reducible rfl)
          (try simp only [List.getElem_toArray, List.getElem_cons_succ, List.getElem_cons_zero]); (try simp only [Act.put, List.setIfInBounds_toArray, List.set_cons_zero, List.set_cons_succ])
          refine wpAnyH_take (i := 8) (oi := _) (v := ?_) rfl (by kernel_rfl) (by kernel_rfl) (by kernel_rfl) (fun _ _ _ h => h) (Or.inl ⟨by rfl, ?_⟩) (by assumption) ?_
          rotate_left 1
          · (intro w0 hSw; (try dsimp only at hSw); obtain ⟨s0, s1⟩ := hSw; go_simp; try with_reducible rfl)
          (try simp only [List.getElem_toArray, List.getElem_cons_succ, List.getElem_cons_zero]); (try simp only [Act.put, List.setIfInBounds_toArray, List.set_cons_zero, List.set_cons_succ])
          refine wpAnyH_take (i := 9) (oi := _) (v := ?_) rfl (by kernel_rfl) (by kernel_rfl) (by kernel_rfl) (fun _ _ _ h => h) (Or.inl ⟨by rfl, ?_⟩) (by assumption) ?_
          rotate_left 1
          · (intro w0 hSw; (try dsimp only at hSw); obtain ⟨s0, s1⟩ := hSw; go_simp; try with_reducible rfl)
          (try simp only [List.getElem_toArray, List.getElem_cons_succ, List.getElem_cons_zero]); (try simp only [Act.put, List.setIfInBounds_toArray, List.set_cons_zero, List.set_cons_succ])
          refine wpAnyH_take (i := 10) (oi := _) (v := ?_) rfl (by kernel_rfl) (by kernel_rfl) (by kernel_rfl) (fun _ _ _ h => h) (Or.inl ⟨by rfl, ?_⟩) (by assumption) ?_
          rotate_left 1
          · (intro w0 hSw; (try dsimp only at hSw); obtain ⟨s0, s1⟩ := hSw; go_simp; try with_reducible rfl)
          (try simp only [List.getElem_toArray, List.getElem_cons_succ, List.getElem_cons_zero]); (try simp only [Act.put, List.setIfInBounds_toArray, List.set_cons_zero, List.set_cons_succ])
          refine wpAnyH_take (i := 11) (oi := _) (v := ?_) rfl (by kernel_rfl) (by kernel_rfl) (by kernel_rfl) (fun _ _ _ h => h) (Or.inl ⟨by rfl, ?_⟩) (by assumption) ?_
          rotate_left 1
          · (intro w0 hSw; (try dsimp only at hSw); obtain ⟨s0, s1⟩ := hSw; go_simp; try with_reducible rfl)
          (try simp only [List.getElem_toArray, List.getElem_cons_succ, List.getElem_cons_zero]); (try simp only [Act.put, List.setIfInBounds_toArray, List.set_cons_zero, List.set_cons_succ])
          refine wpAnyH_take (i := 12) (oi := _) (v := undef) rfl (by kernel_rfl) (by kernel_rfl) (by kernel_rfl) (fun _ _ _ h => h) (Or.inr ⟨by rfl, rfl⟩) (by assumption) ?_
          (try simp only [List.getElem_toArray, List.getElem_cons_succ, List.getElem_cons_zero]); (try simp only [Act.put, List.setIfInBounds_toArray, List.set_cons_zero, List.set_cons_succ])
          refine wpAnyH_take (i := 13) (oi := _) (v := undef) rfl (by kernel_rfl) (by kernel_rfl) (by kernel_rfl) (fun _ _ _ h => h) (Or.inr ⟨by rfl, rfl⟩) (by assumption) ?_
          (try simp only [List.getElem_toArray, List.getElem_cons_succ, List.getElem_cons_zero]); (try simp only [Act.put, List.setIfInBounds_toArray, List.set_cons_zero, List.set_cons_succ])
          refine wpAnyH_take (i := 14) (oi := _) (v := undef) rfl (by kernel_rfl) (by kernel_rfl) (by kernel_rfl) (fun _ _ _ h => h) (Or.inr ⟨by rfl, rfl⟩) (by assumption) ?_
          (try simp only [List.getElem_toArray, List.getElem_cons_succ, List.getElem_cons_zero]); (try simp only [Act.put, List.setIfInBounds_toArray, List.set_cons_zero, List.set_cons_succ])
          refine wpAnyH_take (i := 15) (oi := _) (v := undef) rfl (by kernel_rfl) (by kernel_rfl) (by kernel_rfl) (fun _ _ _ h => h) (Or.inr ⟨by rfl, rfl⟩) (by assumption) ?_
          (try simp only [List.getElem_toArray, List.getElem_cons_succ, List.getElem_cons_zero]); (try simp only [Act.put, List.setIfInBounds_toArray, List.set_cons_zero, List.set_cons_succ])
          refine wpAnyH_take (i := 16) (oi := _) (v := undef) rfl (by kernel_rfl) (by kernel_rfl) (by kernel_rfl) (fun _ _ _ h => h) (Or.inr ⟨by rfl, rfl⟩) (by assumption) ?_
          (try simp only [List.getElem_toArray, List.getElem_cons_succ, List.getElem_cons_zero]); (try simp only [Act.put, List.setIfInBounds_toArray, List.set_cons_zero, List.set_cons_succ])
          refine wpAnyH_take (i := 17) (oi := _) (v := ?_) rfl (by kernel_rfl) (by kernel_rfl) (by kernel_rfl) (fun _ _ _ h => h) (Or.inl ⟨by rfl, ?_⟩) (by assumption) ?_
          rotate_left 1
          · (intro w0 hSw; (try dsimp only at hSw); obtain ⟨s0, s1⟩ := hSw; go_simp; try with_reducible rfl)
          (try simp only [List.getElem_toArray, List.getElem_cons_succ, List.getElem_cons_zero]); (try simp only [Act.put, List.setIfInBounds_toArray, List.set_cons_zero, List.set_cons_succ])
          refine wpAnyH_ready (rs := [18]) (by kernel_rfl) (by simp) ?_
          refine AllReadyH.cons (o := _) rfl (fun K hK => ?_) AllReadyH.nil
          go_simp
          try dsimp only
          refine hK _ _ SC (fun hHeld => ?_)
          clear hK K
          (try simp only [List.getElem_toArray, List.getElem_cons_succ, List.getElem_cons_zero]); (try simp only [Act.put, List.setIfInBounds_toArray, List.set_cons_zero, List.set_cons_succ])
          refine wpAnyH_ready (rs := [19]) (by kernel_rfl) (by simp) ?_
          refine AllReadyH.cons (o := _) rfl (fun K hK => ?_) AllReadyH.nil
          refine step_append_runG rfl (.tmp 109) (.tmp 122) 49 rfl _ _ _ _ rfl rfl hr9' ?_
          refine hK _ _ SD (fun hHeld => ?_)
          clear hK K
          (try simp only [List.getElem_toArray, List.getElem_cons_succ, List.getElem_cons_zero]); (try simp only [Act.put, List.setIfInBounds_toArray, List.set_cons_zero, List.set_cons_succ])
          refine wpAnyH_take (i := 20) (oi := _) (v := ?_) rfl (by kernel_rfl) (by kernel_rfl) (by kernel_rfl) (fun _ _ _ h => h) (Or.inl ⟨by rfl, ?_⟩) (by assumption) ?_
          rotate_left 1
          · (intro w0 hSw; (try dsimp only at hSw); obtain ⟨s0, s1⟩ := hSw; go_simp; try with_reducible rfl)
          (try simp only [List.getElem_toArray, List.getElem_cons_succ, List.getElem_cons_zero]); (try simp only [Act.put, List.setIfInBounds_toArray, List.set_cons_zero, List.set_cons_succ])
          refine wpAnyH_done (by kernel_rfl) ?_ _
          refine NoPanic.normal ?_
          clear hr9' SA SB SC SD hHeld
          go_wp2_with fail
          exact ⟨⟨k + 1, q, rk, s', a7', m7, c7', a8', m8, c8', a9', c9', rfl, rfl, rfl, by first | rfl | (rw [qw]; rfl), by first | rfl | (rw [kw]; rfl), by omega, NX⟩, by first | (simp [intOf]; done) | (simp [intOf]; omega)⟩
    · as_aux_lemma =>
        have kl : k + 1 < l.length := f6 (by decide)
        have kn1 : k + 1 < n := by rw [← hnH.out]; exact kl
        have tk1 : tkL = 2 := by rw [← tkH.out]; rfl
        obtain ⟨m, hm⟩ : ∃ m, sn = m + 2 := ⟨sn - 2, by omega⟩
        obtain ⟨g9, rfl, hc9⟩ := R2H.out.o9.top (by rw [snH.out]; omega)
        rw [snH.out] at hc9
        have m0 : (0 : Int) ≤ (m : Int) := by omega
        have mc : (m : Int) ≤ (c9 : Int) := by omega
        have mcN : m ≤ c9 := by omega
        have mn : (m : Int) < (sn : Int) := by omega
        have mw : IntKind.i64.wrap ((sn : Int) - 2) = (m : Int) := by rw [hm, show ((m + 2 : Nat) : Int) - 2 = (m : Int) by omega]; exact IntWalk.i64_in _ (by omega)
        have mw1 : IntKind.i64.wrap ((sn : Int) - 1) = ((m + 1 : Nat) : Int) := by rw [hm, show ((m + 2 : Nat) : Int) - 1 = ((m + 1 : Nat) : Int) by omega]; exact IntWalk.i64_in _ (by omega)
        have m10 : (0 : Int) ≤ ((m + 1 : Nat) : Int) := by omega
        have m1n : ((m + 1 : Nat) : Int) < (sn : Int) := by omega
        obtain ⟨x, ex⟩ : ∃ x, s[m]? = some x := ⟨_, List.getElem?_eq_getElem (by rw [snH.out]; omega)⟩
        obtain ⟨y, ey⟩ : ∃ y, s[m + 1]? = some y := ⟨_, List.getElem?_eq_getElem (by rw [snH.out]; omega)⟩
        have gx : s.getD (s.length - 2) false = x := by rw [snH.out, hm, Nat.add_sub_cancel, List.getD_eq_getElem?_getD, ex]; rfl
        have gy : s.getD (s.length - 1) false = y := by rw [snH.out, hm, show m + 2 - 1 = m + 1 by omega, List.getD_eq_getElem?_getD, ey]; rfl
        have lt : (s.take m).length = m := by rw [List.length_take, snH.out]; omega
        obtain ⟨m1, hm1⟩ : ∃ m1, m + 1 = m1 := ⟨_, rfl⟩
        rw [hm1] at ey mw1 m10 m1n
        clear hm1
        cases x with
        | true =>
          have inT : BL.In w3.drew (some ⟨g9, 0, none⟩) (s.take m) := by
            refine BL.In.take ?_ m
            obtain ⟨a', c', e', _, i', _⟩ := (R2H.out.below ((Below.refl _ w3).drew)).o9.ein
            injection e' with e1 e2 e3
            rw [e1]; exact i'
          obtain ⟨v9, w4, hr9, o9n, b4⟩ := BL.app_full w3.drew ⟨g9, 0, none⟩ m (s.take m) lt inT true 49 (by omega)
          have R9 := (R2H.out.below ((Below.refl _ w3).drew)).new9 b4 o9n
          obtain ⟨a9', c9', ev9, zz⟩ := R9.o9.ein
          obtain ⟨s', hs'⟩ : ∃ s', stepB 9 false s = s' := ⟨_, rfl⟩
          have es : s.take m ++ [true] = s' := by rw [← hs', stepB_or _ _ (by rw [snH.out]; omega), gx, gy, snH.out, hm, Nat.add_sub_cancel]; try rfl
          have bW4 : Below w3.drew.heap.size w3.drew w4 := b4
          rw [es] at R9 ev9
          rw [ev9] at R9 hr9
          have hr9' : (Builtin.append_ #[49, 49] 49 #[.slice (some ⟨g9, 0, none⟩) m m, .slice (some ⟨w3.heap.size, 0, none⟩) 1 1]).run Tryz.prog ((w3.alloc (.cells #[.bool true] 4)).drew) = .ok (.slice a9' s'.length c9') w4 := hr9
          clear inT b4 o9n hr9
          have NX : Hid (R3 w rk (rk.map h) s' (.slice a7' m7 c7') (.slice a8' m8 c8') (.slice a9' s'.length c9') w4 ∧ RnS l h (k + 1) s' ∧ rk.length ≤ k + 1 ∧ ∀ j ∈ rk, j < l.length ∧ j ∉ deadL l) := by
            refine (⟨R9, ?_, PL.out⟩ : _ ∧ _ ∧ _)
            have := (STP.out k s _ false (k + 1) RS.out etH.out (Or.inl ⟨rfl, kl, fun q => by simp at q⟩)).2
            rw [hs'] at this
            exact this
          have SA : w3.cell? ⟨g9, m, none⟩ = some (.bool true) ∧ w3.cell? ⟨g9, m1, none⟩ = some (.bool y) := ⟨R2H.out.o9.cell ex, R2H.out.o9.cell ey⟩
          have SB : w3.drew.cell? ⟨g9, m, none⟩ = some (.bool true) ∧ w3.drew.cell? ⟨g9, m1, none⟩ = some (.bool y) := ⟨(R2H.out.below ((Below.refl _ w3).drew)).o9.cell ex, (R2H.out.below ((Below.refl _ w3).drew)).o9.cell ey⟩
          have SC : (w3.alloc (.cells #[.bool true] 4)).drew.cell? ⟨g9, m, none⟩ = some (.bool true) ∧ (w3.alloc (.cells #[.bool true] 4)).drew.cell? ⟨g9, m1, none⟩ = some (.bool y) := ⟨(R2H.out.below (((Below.refl _ w3).alloc (Nat.le_refl _) (.cells #[.bool true] 4)).drew)).o9.cell ex, (R2H.out.below (((Below.refl _ w3).alloc (Nat.le_refl _) (.cells #[.bool true] 4)).drew)).o9.cell ey⟩
          have SD : w4.cell? ⟨g9, m, none⟩ = some (.bool true) ∧ w4.cell? ⟨g9, m1, none⟩ = some (.bool y) := ⟨(R2H.out.below (((Below.refl _ w3).drew).trans bW4)).o9.cell ex, (R2H.out.below (((Below.refl _ w3).drew).trans bW4)).o9.cell ey⟩
          clear zz es R9 hs' R2H PL STP RS etH ev9 hm gx gy ex ey lt
          go_wp2_with fail
          refine wp_region_noPanic ?_
          refine wp_region_held_drew (S := fun W => W.cell? ⟨g9, m, none⟩ = some (.bool true) ∧ W.cell? ⟨g9, m1, none⟩ = some (.bool y)) (by kernel_rfl) SB (fun hHeld => ?_)
          refine wpAnyH_take (i := 0) (oi := _) (v := ?_) rfl (by kernel_rfl) (by kernel_rfl) (by kernel_rfl) (fun _ _ _ h => h) (Or.inl ⟨by rfl, ?_⟩) (by assumption) ?_
          rotate_left 1
          · (intro w0 hSw; (try dsimp only at hSw); obtain ⟨s0, s1⟩ := hSw; go_simp; try with_reducible rfl)
          (try simp only [List.getElem_toArray, List.getElem_cons_succ, List.getElem_cons_zero]); (try simp only [Act.put, List.setIfInBounds_toArray, List.set_cons_zero, List.set_cons_succ])
          refine wpAnyH_take (i := 1) (oi := _) (v := ?_) rfl (by kernel_rfl) (by kernel_rfl) (by kernel_rfl) (fun _ _ _ h => h) (Or.inl ⟨by rfl, ?_⟩) (by assumption) ?_
          rotate_left 1
          · (intro w0 hSw; (try dsimp only at hSw); obtain ⟨s0, s1⟩ := hSw; go_simp; try with_reducible rfl)
          (try simp only [List.getElem_toArray, List.getElem_cons_succ, List.getElem_cons_zero]); (try simp only [Act.put, List.setIfInBounds_toArray, List.set_cons_zero, List.set_cons_succ])
          refine wpAnyH_take (i := 2) (oi := _) (v := ?_) rfl (by kernel_rfl) (by kernel_rfl) (by kernel_rfl) (fun _ _ _ h => h) (Or.inl ⟨by rfl, ?_⟩) (by assumption) ?_
          rotate_left 1
          · (intro w0 hSw; (try dsimp only at hSw); obtain ⟨s0, s1⟩ := hSw; go_simp; try with_reducible rfl)
          (try simp only [List.getElem_toArray, List.getElem_cons_succ, List.getElem_cons_zero]); (try simp only [Act.put, List.setIfInBounds_toArray, List.set_cons_zero, List.set_cons_succ])
          refine wpAnyH_take (i := 3) (oi := _) (v := ?_) rfl (by kernel_rfl) (by kernel_rfl) (by kernel_rfl) (fun _ _ _ h => h) (Or.inl ⟨by rfl, ?_⟩) (by assumption) ?_
          rotate_left 1
          · (intro w0 hSw; (try dsimp only at hSw); obtain ⟨s0, s1⟩ := hSw; go_simp; try with_reducible rfl)
          (try simp only [List.getElem_toArray, List.getElem_cons_succ, List.getElem_cons_zero]); (try simp only [Act.put, List.setIfInBounds_toArray, List.set_cons_zero, List.set_cons_succ])
          refine wpAnyH_take (i := 4) (oi := _) (v := ?_) rfl (by kernel_rfl) (by kernel_rfl) (by kernel_rfl) (fun _ _ _ h => h) (Or.inl ⟨by rfl, ?_⟩) (by assumption) ?_
          rotate_left 1
          · (intro w0 hSw; (try dsimp only at hSw); obtain ⟨s0, s1⟩ := hSw; go_simp; try with_reducible rfl)
          (try simp only [List.getElem_toArray, List.getElem_cons_succ, List.getElem_cons_zero]); (try simp only [Act.put, List.setIfInBounds_toArray, List.set_cons_zero, List.set_cons_succ])
          refine wpAnyH_take (i := 5) (oi := _) (v := ?_) rfl (by kernel_rfl) (by kernel_rfl) (by kernel_rfl) (fun _ _ _ h => h) (Or.inl ⟨by rfl, ?_⟩) (by assumption) ?_
          rotate_left 1
          · (intro w0 hSw; (try dsimp only at hSw); obtain ⟨s0, s1⟩ := hSw; go_simp; try with_reducible rfl)
          (try simp only [List.getElem_toArray, List.getElem_cons_succ, List.getElem_cons_zero]); (try simp only [Act.put, List.setIfInBounds_toArray, List.set_cons_zero, List.set_cons_succ])
          refine wpAnyH_take (i := 6) (oi := _) (v := ?_) rfl (by kernel_rfl) (by kernel_rfl) (by kernel_rfl) (fun _ _ _ h => h) (Or.inl ⟨by rfl, ?_⟩) (by assumption) ?_
          rotate_left 1
          · (intro w0 hSw; (try dsimp only at hSw); obtain ⟨s0, s1⟩ := hSw; go_simp; try with_reducible rfl)
          (try simp only [List.getElem_toArray, List.getElem_cons_succ, List.getElem_cons_zero]); (try simp only [Act.put, List.setIfInBounds_toArray, List.set_cons_zero, List.set_cons_succ])
          refine wpAnyH_take (i := 7) (oi := _) (v := ?_) rfl (by kernel_rfl) (by kernel_rfl) (by kernel_rfl) (fun _ _ _ h => h) (Or.inl ⟨by rfl, ?_⟩) (by assumption) ?_
          rotate_left 1
          · (intro w0 hSw; (try dsimp only at hSw); obtain ⟨s0, s1⟩ := hSw; go_simp; try with_reducible rfl)
          (try simp only [List.getElem_toArray, List.getElem_cons_succ, List.getElem_cons_zero]); (try simp only [Act.put, List.setIfInBounds_toArray, List.set_cons_zero, List.set_cons_succ])
          refine wpAnyH_take (i := 8) (oi := _) (v := ?_) rfl (by kernel_rfl) (by kernel_rfl) (by kernel_rfl) (fun _ _ _ h => h) (Or.inl ⟨by rfl, ?_⟩) (by assumption) ?_
          rotate_left 1
          · (intro w0 hSw; (try dsimp only at hSw); obtain ⟨s0, s1⟩ := hSw; go_simp; try with_reducible rfl)
          (try simp only [List.getElem_toArray, List.getElem_cons_succ, List.getElem_cons_zero]); (try simp only [Act.put, List.setIfInBounds_toArray, List.set_cons_zero, List.set_cons_succ])
          refine wpAnyH_take (i := 9) (oi := _) (v := ?_) rfl (by kernel_rfl) (by kernel_rfl) (by kernel_rfl) (fun _ _ _ h => h) (Or.inl ⟨by rfl, ?_⟩) (by assumption) ?_
          rotate_left 1
          · (intro w0 hSw; (try dsimp only at hSw); obtain ⟨s0, s1⟩ := hSw; go_simp; try with_reducible rfl)
          (try simp only [List.getElem_toArray, List.getElem_cons_succ, List.getElem_cons_zero]); (try simp only [Act.put, List.setIfInBounds_toArray, List.set_cons_zero, List.set_cons_succ])
          refine wpAnyH_take (i := 10) (oi := _) (v := ?_) rfl (by kernel_rfl) (by kernel_rfl) (by kernel_rfl) (fun _ _ _ h => h) (Or.inl ⟨by rfl, ?_⟩) (by assumption) ?_
          rotate_left 1
          · (intro w0 hSw; (try dsimp only at hSw); obtain ⟨s0, s1⟩ := hSw; go_simp; try with_reducible rfl)
          (try simp only [List.getElem_toArray, List.getElem_cons_succ, List.getElem_cons_zero]); (try simp only [Act.put, List.setIfInBounds_toArray, List.set_cons_zero, List.set_cons_succ])
          refine wpAnyH_take (i := 11) (oi := _) (v := ?_) rfl (by kernel_rfl) (by kernel_rfl) (by kernel_rfl) (fun _ _ _ h => h) (Or.inl ⟨by rfl, ?_⟩) (by assumption) ?_
          rotate_left 1
          · (intro w0 hSw; (try dsimp only at hSw); obtain ⟨s0, s1⟩ := hSw; go_simp; try with_reducible rfl)
          (try simp only [List.getElem_toArray, List.getElem_cons_succ, List.getElem_cons_zero]); (try simp only [Act.put, List.setIfInBounds_toArray, List.set_cons_zero, List.set_cons_succ])
          refine wpAnyH_take (i := 12) (oi := _) (v := undef) rfl (by kernel_rfl) (by kernel_rfl) (by kernel_rfl) (fun _ _ _ h => h) (Or.inr ⟨by rfl, rfl⟩) (by assumption) ?_
          (try simp only [List.getElem_toArray, List.getElem_cons_succ, List.getElem_cons_zero]); (try simp only [Act.put, List.setIfInBounds_toArray, List.set_cons_zero, List.set_cons_succ])
          refine wpAnyH_take (i := 13) (oi := _) (v := undef) rfl (by kernel_rfl) (by kernel_rfl) (by kernel_rfl) (fun _ _ _ h => h) (Or.inr ⟨by rfl, rfl⟩) (by assumption) ?_
          (try simp only [List.getElem_toArray, List.getElem_cons_succ, List.getElem_cons_zero]); (try simp only [Act.put, List.setIfInBounds_toArray, List.set_cons_zero, List.set_cons_succ])
          refine wpAnyH_take (i := 14) (oi := _) (v := undef) rfl (by kernel_rfl) (by kernel_rfl) (by kernel_rfl) (fun _ _ _ h => h) (Or.inr ⟨by rfl, rfl⟩) (by assumption) ?_
          (try simp only [List.getElem_toArray, List.getElem_cons_succ, List.getElem_cons_zero]); (try simp only [Act.put, List.setIfInBounds_toArray, List.set_cons_zero, List.set_cons_succ])
          refine wpAnyH_take (i := 15) (oi := _) (v := undef) rfl (by kernel_rfl) (by kernel_rfl) (by kernel_rfl) (fun _ _ _ h => h) (Or.inr ⟨by rfl, rfl⟩) (by assumption) ?_
          (try simp only [List.getElem_toArray, List.getElem_cons_succ, List.getElem_cons_zero]); (try simp only [Act.put, List.setIfInBounds_toArray, List.set_cons_zero, List.set_cons_succ])
          refine wpAnyH_take (i := 16) (oi := _) (v := undef) rfl (by kernel_rfl) (by kernel_rfl) (by kernel_rfl) (fun _ _ _ h => h) (Or.inr ⟨by rfl, rfl⟩) (by assumption) ?_
          (try simp only [List.getElem_toArray, List.getElem_cons_succ, List.getElem_cons_zero]); (try simp only [Act.put, List.setIfInBounds_toArray, List.set_cons_zero, List.set_cons_succ])
          refine wpAnyH_take (i := 17) (oi := _) (v := ?_) rfl (by kernel_rfl) (by kernel_rfl) (by kernel_rfl) (fun _ _ _ h => h) (Or.inl ⟨by rfl, ?_⟩) (by assumption) ?_
          rotate_left 1
          · (intro w0 hSw; (try dsimp only at hSw); obtain ⟨s0, s1⟩ := hSw; go_simp; try with_reducible rfl)
          (try simp only [List.getElem_toArray, List.getElem_cons_succ, List.getElem_cons_zero]); (try simp only [Act.put, List.setIfInBounds_toArray, List.set_cons_zero, List.set_cons_succ])
          refine wpAnyH_ready (rs := [18]) (by kernel_rfl) (by simp) ?_
          refine AllReadyH.cons (o := _) rfl (fun K hK => ?_) AllReadyH.nil
          go_simp
          try dsimp only
          refine hK _ _ SC (fun hHeld => ?_)
          clear hK K
          (try simp only [List.getElem_toArray, List.getElem_cons_succ, List.getElem_cons_zero]); (try simp only [Act.put, List.setIfInBounds_toArray, List.set_cons_zero, List.set_cons_succ])
          refine wpAnyH_ready (rs := [19]) (by kernel_rfl) (by simp) ?_
          refine AllReadyH.cons (o := _) rfl (fun K hK => ?_) AllReadyH.nil
          refine step_append_runG rfl (.tmp 131) (.tmp 144) 49 rfl _ _ _ _ rfl rfl hr9' ?_
          refine hK _ _ SD (fun hHeld => ?_)
          clear hK K
          (try simp only [List.getElem_toArray, List.getElem_cons_succ, List.getElem_cons_zero]); (try simp only [Act.put, List.setIfInBounds_toArray, List.set_cons_zero, List.set_cons_succ])
          refine wpAnyH_take (i := 20) (oi := _) (v := ?_) rfl (by kernel_rfl) (by kernel_rfl) (by kernel_rfl) (fun _ _ _ h => h) (Or.inl ⟨by rfl, ?_⟩) (by assumption) ?_
          rotate_left 1
          · (intro w0 hSw; (try dsimp only at hSw); obtain ⟨s0, s1⟩ := hSw; go_simp; try with_reducible rfl)
          (try simp only [List.getElem_toArray, List.getElem_cons_succ, List.getElem_cons_zero]); (try simp only [Act.put, List.setIfInBounds_toArray, List.set_cons_zero, List.set_cons_succ])
          refine wpAnyH_done (by kernel_rfl) ?_ _
          refine NoPanic.normal ?_
          clear hr9' SA SB SC SD hHeld
          go_wp2_with fail
          exact ⟨⟨k + 1, q, rk, s', a7', m7, c7', a8', m8, c8', a9', c9', rfl, rfl, rfl, by first | rfl | (rw [qw]; rfl), by first | rfl | (rw [kw]; rfl), by omega, NX⟩, by first | (simp [intOf]; done) | (simp [intOf]; omega)⟩
        | false =>
          have inT : BL.In w3.drew (some ⟨g9, 0, none⟩) (s.take m) := by
            refine BL.In.take ?_ m
            obtain ⟨a', c', e', _, i', _⟩ := (R2H.out.below ((Below.refl _ w3).drew)).o9.ein
            injection e' with e1 e2 e3
            rw [e1]; exact i'
          obtain ⟨v9, w4, hr9, o9n, b4⟩ := BL.app_full w3.drew ⟨g9, 0, none⟩ m (s.take m) lt inT y 49 (by omega)
          have R9 := (R2H.out.below ((Below.refl _ w3).drew)).new9 b4 o9n
          obtain ⟨a9', c9', ev9, zz⟩ := R9.o9.ein
          obtain ⟨s', hs'⟩ : ∃ s', stepB 9 false s = s' := ⟨_, rfl⟩
          have es : s.take m ++ [y] = s' := by rw [← hs', stepB_or _ _ (by rw [snH.out]; omega), gx, gy, snH.out, hm, Nat.add_sub_cancel]; try rfl
          have bW4 : Below w3.drew.heap.size w3.drew w4 := b4
          rw [es] at R9 ev9
          rw [ev9] at R9 hr9
          have hr9' : (Builtin.append_ #[49, 49] 49 #[.slice (some ⟨g9, 0, none⟩) m m, .slice (some ⟨w3.heap.size, 0, none⟩) 1 1]).run Tryz.prog ((w3.alloc (.cells #[.bool y] 4)).drew) = .ok (.slice a9' s'.length c9') w4 := hr9
          clear inT b4 o9n hr9
          have NX : Hid (R3 w rk (rk.map h) s' (.slice a7' m7 c7') (.slice a8' m8 c8') (.slice a9' s'.length c9') w4 ∧ RnS l h (k + 1) s' ∧ rk.length ≤ k + 1 ∧ ∀ j ∈ rk, j < l.length ∧ j ∉ deadL l) := by
            refine (⟨R9, ?_, PL.out⟩ : _ ∧ _ ∧ _)
            have := (STP.out k s _ false (k + 1) RS.out etH.out (Or.inl ⟨rfl, kl, fun q => by simp at q⟩)).2
            rw [hs'] at this
            exact this
          have SA : w3.cell? ⟨g9, m, none⟩ = some (.bool false) ∧ w3.cell? ⟨g9, m1, none⟩ = some (.bool y) := ⟨R2H.out.o9.cell ex, R2H.out.o9.cell ey⟩
          have SB : w3.drew.cell? ⟨g9, m, none⟩ = some (.bool false) ∧ w3.drew.cell? ⟨g9, m1, none⟩ = some (.bool y) := ⟨(R2H.out.below ((Below.refl _ w3).drew)).o9.cell ex, (R2H.out.below ((Below.refl _ w3).drew)).o9.cell ey⟩
          have SC : (w3.alloc (.cells #[.bool y] 4)).drew.cell? ⟨g9, m, none⟩ = some (.bool false) ∧ (w3.alloc (.cells #[.bool y] 4)).drew.cell? ⟨g9, m1, none⟩ = some (.bool y) := ⟨(R2H.out.below (((Below.refl _ w3).alloc (Nat.le_refl _) (.cells #[.bool y] 4)).drew)).o9.cell ex, (R2H.out.below (((Below.refl _ w3).alloc (Nat.le_refl _) (.cells #[.bool y] 4)).drew)).o9.cell ey⟩
          have SD : w4.cell? ⟨g9, m, none⟩ = some (.bool false) ∧ w4.cell? ⟨g9, m1, none⟩ = some (.bool y) := ⟨(R2H.out.below (((Below.refl _ w3).drew).trans bW4)).o9.cell ex, (R2H.out.below (((Below.refl _ w3).drew).trans bW4)).o9.cell ey⟩
          clear zz es R9 hs' R2H PL STP RS etH ev9 hm gx gy ex ey lt
          go_wp2_with fail
          refine wp_region_noPanic ?_
          refine wp_region_held_drew (S := fun W => W.cell? ⟨g9, m, none⟩ = some (.bool false) ∧ W.cell? ⟨g9, m1, none⟩ = some (.bool y)) (by kernel_rfl) SB (fun hHeld => ?_)
          refine wpAnyH_take (i := 0) (oi := _) (v := ?_) rfl (by kernel_rfl) (by kernel_rfl) (by kernel_rfl) (fun _ _ _ h => h) (Or.inl ⟨by rfl, ?_⟩) (by assumption) ?_
          rotate_left 1
          · (intro w0 hSw; (try dsimp only at hSw); obtain ⟨s0, s1⟩ := hSw; go_simp; try with_reducible rfl)
          (try simp only [List.getElem_toArray, List.getElem_cons_succ, List.getElem_cons_zero]); (try simp only [Act.put, List.setIfInBounds_toArray, List.set_cons_zero, List.set_cons_succ])
          refine wpAnyH_take (i := 1) (oi := _) (v := ?_) rfl (by kernel_rfl) (by kernel_rfl) (by kernel_rfl) (fun _ _ _ h => h) (Or.inl ⟨by rfl, ?_⟩) (by assumption) ?_
          rotate_left 1
          · (intro w0 hSw; (try dsimp only at hSw); obtain ⟨s0, s1⟩ := hSw; go_simp; try with_reducible rfl)
          (try simp only [List.getElem_toArray, List.getElem_cons_succ, List.getElem_cons_zero]); (try simp only [Act.put, List.setIfInBounds_toArray, List.set_cons_zero, List.set_cons_succ])
          refine wpAnyH_take (i := 2) (oi := _) (v := ?_) rfl (by kernel_rfl) (by kernel_rfl) (by kernel_rfl) (fun _ _ _ h => h) (Or.inl ⟨by rfl, ?_⟩) (by assumption) ?_
          rotate_left 1
          · (intro w0 hSw; (try dsimp only at hSw); obtain ⟨s0, s1⟩ := hSw; go_simp; try with_reducible rfl)
          (try simp only [List.getElem_toArray, List.getElem_cons_succ, List.getElem_cons_zero]); (try simp only [Act.put, List.setIfInBounds_toArray, List.set_cons_zero, List.set_cons_succ])
          refine wpAnyH_take (i := 3) (oi := _) (v := ?_) rfl (by kernel_rfl) (by kernel_rfl) (by kernel_rfl) (fun _ _ _ h => h) (Or.inl ⟨by rfl, ?_⟩) (by assumption) ?_
          rotate_left 1
          · (intro w0 hSw; (try dsimp only at hSw); obtain ⟨s0, s1⟩ := hSw; go_simp; try with_reducible rfl)
          (try simp only [List.getElem_toArray, List.getElem_cons_succ, List.getElem_cons_zero]); (try simp only [Act.put, List.setIfInBounds_toArray, List.set_cons_zero, List.set_cons_succ])
          refine wpAnyH_take (i := 4) (oi := _) (v := ?_) rfl (by kernel_rfl) (by kernel_rfl) (by kernel_rfl) (fun _ _ _ h => h) (Or.inl ⟨by rfl, ?_⟩) (by assumption) ?_
          rotate_left 1
          · (intro w0 hSw; (try dsimp only at hSw); obtain ⟨s0, s1⟩ := hSw; go_simp; try with_reducible rfl)
          (try simp only [List.getElem_toArray, List.getElem_cons_succ, List.getElem_cons_zero]); (try simp only [Act.put, List.setIfInBounds_toArray, List.set_cons_zero, List.set_cons_succ])
          refine wpAnyH_take (i := 5) (oi := _) (v := ?_) rfl (by kernel_rfl) (by kernel_rfl) (by kernel_rfl) (fun _ _ _ h => h) (Or.inl ⟨by rfl, ?_⟩) (by assumption) ?_
          rotate_left 1
          · (intro w0 hSw; (try dsimp only at hSw); obtain ⟨s0, s1⟩ := hSw; go_simp; try with_reducible rfl)
          (try simp only [List.getElem_toArray, List.getElem_cons_succ, List.getElem_cons_zero]); (try simp only [Act.put, List.setIfInBounds_toArray, List.set_cons_zero, List.set_cons_succ])
          refine wpAnyH_take (i := 6) (oi := _) (v := ?_) rfl (by kernel_rfl) (by kernel_rfl) (by kernel_rfl) (fun _ _ _ h => h) (Or.inl ⟨by rfl, ?_⟩) (by assumption) ?_
          rotate_left 1
          · (intro w0 hSw; (try dsimp only at hSw); obtain ⟨s0, s1⟩ := hSw; go_simp; try with_reducible rfl)
          (try simp only [List.getElem_toArray, List.getElem_cons_succ, List.getElem_cons_zero]); (try simp only [Act.put, List.setIfInBounds_toArray, List.set_cons_zero, List.set_cons_succ])
          refine wpAnyH_take (i := 7) (oi := _) (v := ?_) rfl (by kernel_rfl) (by kernel_rfl) (by kernel_rfl) (fun _ _ _ h => h) (Or.inl ⟨by rfl, ?_⟩) (by assumption) ?_
          rotate_left 1
          · (intro w0 hSw; (try dsimp only at hSw); obtain ⟨s0, s1⟩ := hSw; go_simp; try with_reducible rfl)
          (try simp only [List.getElem_toArray, List.getElem_cons_succ, List.getElem_cons_zero]); (try simp only [Act.put, List.setIfInBounds_toArray, List.set_cons_zero, List.set_cons_succ])
          refine wpAnyH_take (i := 8) (oi := _) (v := ?_) rfl (by kernel_rfl) (by kernel_rfl) (by kernel_rfl) (fun _ _ _ h => h) (Or.inl ⟨by rfl, ?_⟩) (by assumption) ?_
          rotate_left 1
          · (intro w0 hSw; (try dsimp only at hSw); obtain ⟨s0, s1⟩ := hSw; go_simp; try with_reducible rfl)
          (try simp only [List.getElem_toArray, List.getElem_cons_succ, List.getElem_cons_zero]); (try simp only [Act.put, List.setIfInBounds_toArray, List.set_cons_zero, List.set_cons_succ])
          refine wpAnyH_take (i := 9) (oi := _) (v := ?_) rfl (by kernel_rfl) (by kernel_rfl) (by kernel_rfl) (fun _ _ _ h => h) (Or.inl ⟨by rfl, ?_⟩) (by assumption) ?_
          rotate_left 1
          · (intro w0 hSw; (try dsimp only at hSw); obtain ⟨s0, s1⟩ := hSw; go_simp; try with_reducible rfl)
          (try simp only [List.getElem_toArray, List.getElem_cons_succ, List.getElem_cons_zero]); (try simp only [Act.put, List.setIfInBounds_toArray, List.set_cons_zero, List.set_cons_succ])
          refine wpAnyH_take (i := 10) (oi := _) (v := ?_) rfl (by kernel_rfl) (by kernel_rfl) (by kernel_rfl) (fun _ _ _ h => h) (Or.inl ⟨by rfl, ?_⟩) (by assumption) ?_
          rotate_left 1
          · (intro w0 hSw; (try dsimp only at hSw); obtain ⟨s0, s1⟩ := hSw; go_simp; try with_reducible rfl)
          (try simp only [List.getElem_toArray, List.getElem_cons_succ, List.getElem_cons_zero]); (try simp only [Act.put, List.setIfInBounds_toArray, List.set_cons_zero, List.set_cons_succ])
          refine wpAnyH_take (i := 11) (oi := _) (v := ?_) rfl (by kernel_rfl) (by kernel_rfl) (by kernel_rfl) (fun _ _ _ h => h) (Or.inl ⟨by rfl, ?_⟩) (by assumption) ?_
          rotate_left 1
          · (intro w0 hSw; (try dsimp only at hSw); obtain ⟨s0, s1⟩ := hSw; go_simp; try with_reducible rfl)
          (try simp only [List.getElem_toArray, List.getElem_cons_succ, List.getElem_cons_zero]); (try simp only [Act.put, List.setIfInBounds_toArray, List.set_cons_zero, List.set_cons_succ])
          refine wpAnyH_take (i := 12) (oi := _) (v := ?_) rfl (by kernel_rfl) (by kernel_rfl) (by kernel_rfl) (fun _ _ _ h => h) (Or.inl ⟨by rfl, ?_⟩) (by assumption) ?_
          rotate_left 1
          · (intro w0 hSw; (try dsimp only at hSw); obtain ⟨s0, s1⟩ := hSw; go_simp; try with_reducible rfl)
          (try simp only [List.getElem_toArray, List.getElem_cons_succ, List.getElem_cons_zero]); (try simp only [Act.put, List.setIfInBounds_toArray, List.set_cons_zero, List.set_cons_succ])
          refine wpAnyH_take (i := 13) (oi := _) (v := ?_) rfl (by kernel_rfl) (by kernel_rfl) (by kernel_rfl) (fun _ _ _ h => h) (Or.inl ⟨by rfl, ?_⟩) (by assumption) ?_
          rotate_left 1
          · (intro w0 hSw; (try dsimp only at hSw); obtain ⟨s0, s1⟩ := hSw; go_simp; try with_reducible rfl)
          (try simp only [List.getElem_toArray, List.getElem_cons_succ, List.getElem_cons_zero]); (try simp only [Act.put, List.setIfInBounds_toArray, List.set_cons_zero, List.set_cons_succ])
          refine wpAnyH_take (i := 14) (oi := _) (v := ?_) rfl (by kernel_rfl) (by kernel_rfl) (by kernel_rfl) (fun _ _ _ h => h) (Or.inl ⟨by rfl, ?_⟩) (by assumption) ?_
          rotate_left 1
          · (intro w0 hSw; (try dsimp only at hSw); obtain ⟨s0, s1⟩ := hSw; go_simp; try with_reducible rfl)
          (try simp only [List.getElem_toArray, List.getElem_cons_succ, List.getElem_cons_zero]); (try simp only [Act.put, List.setIfInBounds_toArray, List.set_cons_zero, List.set_cons_succ])
          refine wpAnyH_take (i := 15) (oi := _) (v := ?_) rfl (by kernel_rfl) (by kernel_rfl) (by kernel_rfl) (fun _ _ _ h => h) (Or.inl ⟨by rfl, ?_⟩) (by assumption) ?_
          rotate_left 1
          · (intro w0 hSw; (try dsimp only at hSw); obtain ⟨s0, s1⟩ := hSw; go_simp; try with_reducible rfl)
          (try simp only [List.getElem_toArray, List.getElem_cons_succ, List.getElem_cons_zero]); (try simp only [Act.put, List.setIfInBounds_toArray, List.set_cons_zero, List.set_cons_succ])
          refine wpAnyH_take (i := 16) (oi := _) (v := ?_) rfl (by kernel_rfl) (by kernel_rfl) (by kernel_rfl) (fun _ _ _ h => h) (Or.inl ⟨by rfl, ?_⟩) (by assumption) ?_
          rotate_left 1
          · (intro w0 hSw; (try dsimp only at hSw); obtain ⟨s0, s1⟩ := hSw; go_simp; try with_reducible rfl)
          (try simp only [List.getElem_toArray, List.getElem_cons_succ, List.getElem_cons_zero]); (try simp only [Act.put, List.setIfInBounds_toArray, List.set_cons_zero, List.set_cons_succ])
          refine wpAnyH_take (i := 17) (oi := _) (v := ?_) rfl (by kernel_rfl) (by kernel_rfl) (by kernel_rfl) (fun _ _ _ h => h) (Or.inl ⟨by rfl, ?_⟩) (by assumption) ?_
          rotate_left 1
          · (intro w0 hSw; (try dsimp only at hSw); obtain ⟨s0, s1⟩ := hSw; go_simp; try with_reducible rfl)
          (try simp only [List.getElem_toArray, List.getElem_cons_succ, List.getElem_cons_zero]); (try simp only [Act.put, List.setIfInBounds_toArray, List.set_cons_zero, List.set_cons_succ])
          refine wpAnyH_ready (rs := [18]) (by kernel_rfl) (by simp) ?_
          refine AllReadyH.cons (o := _) rfl (fun K hK => ?_) AllReadyH.nil
          go_simp
          try dsimp only
          refine hK _ _ SC (fun hHeld => ?_)
          clear hK K
          (try simp only [List.getElem_toArray, List.getElem_cons_succ, List.getElem_cons_zero]); (try simp only [Act.put, List.setIfInBounds_toArray, List.set_cons_zero, List.set_cons_succ])
          refine wpAnyH_ready (rs := [19]) (by kernel_rfl) (by simp) ?_
          refine AllReadyH.cons (o := _) rfl (fun K hK => ?_) AllReadyH.nil
          refine step_append_runG rfl (.tmp 131) (.tmp 144) 49 rfl _ _ _ _ rfl rfl hr9' ?_
          refine hK _ _ SD (fun hHeld => ?_)
          clear hK K
          (try simp only [List.getElem_toArray, List.getElem_cons_succ, List.getElem_cons_zero]); (try simp only [Act.put, List.setIfInBounds_toArray, List.set_cons_zero, List.set_cons_succ])
          refine wpAnyH_take (i := 20) (oi := _) (v := ?_) rfl (by kernel_rfl) (by kernel_rfl) (by kernel_rfl) (fun _ _ _ h => h) (Or.inl ⟨by rfl, ?_⟩) (by assumption) ?_
          rotate_left 1
          · (intro w0 hSw; (try dsimp only at hSw); obtain ⟨s0, s1⟩ := hSw; go_simp; try with_reducible rfl)
          (try simp only [List.getElem_toArray, List.getElem_cons_succ, List.getElem_cons_zero]); (try simp only [Act.put, List.setIfInBounds_toArray, List.set_cons_zero, List.set_cons_succ])
          refine wpAnyH_done (by kernel_rfl) ?_ _
          refine NoPanic.normal ?_
          clear hr9' SA SB SC SD hHeld
          go_wp2_with fail
          exact ⟨⟨k + 1, q, rk, s', a7', m7, c7', a8', m8, c8', a9', c9', rfl, rfl, rfl, by first | rfl | (rw [qw]; rfl), by first | rfl | (rw [kw]; rfl), by omega, NX⟩, by first | (simp [intOf]; done) | (simp [intOf]; omega)⟩
    · as_aux_lemma =>
        have kl : k + 1 < l.length := f6 (by decide)
        have kn1 : k + 1 < n := by rw [← hnH.out]; exact kl
        have tk1 : tkL = 1 := by rw [← tkH.out]; rfl
        obtain ⟨m, hm⟩ : ∃ m, sn = m + 1 := ⟨sn - 1, by omega⟩
        obtain ⟨g9, rfl, hc9⟩ := R2H.out.o9.top (by rw [snH.out]; omega)
        rw [snH.out] at hc9
        have m0 : (0 : Int) ≤ (m : Int) := by omega
        have mc : (m : Int) ≤ (c9 : Int) := by omega
        have mcN : m ≤ c9 := by omega
        have mn : (m : Int) < (sn : Int) := by omega
        have mw : IntKind.i64.wrap ((sn : Int) - 1) = (m : Int) := by rw [hm, show ((m + 1 : Nat) : Int) - 1 = (m : Int) by omega]; exact IntWalk.i64_in _ (by omega)
        obtain ⟨x, ex⟩ : ∃ x, s[m]? = some x := ⟨_, List.getElem?_eq_getElem (by rw [snH.out]; omega)⟩
        have gx : s.getD (s.length - 1) false = x := by rw [snH.out, hm, Nat.add_sub_cancel, List.getD_eq_getElem?_getD, ex]; rfl
        obtain ⟨s', hs'⟩ : ∃ s', stepB 10 false s = s' := ⟨_, rfl⟩
        have es : s = s' := by rw [← hs', stepB_jump (by decide) _ _ (by rw [snH.out]; omega)]
        have esl : s'.length = sn := by rw [← es]; exact snH.out
        have R9 := R2H.out.below ((Below.refl _ w3).drew)
        rw [es] at R9
        have SA := R2H.out.o9.cell ex
        have SB := (R2H.out.below ((Below.refl _ w3).drew)).o9.cell ex
        unfold BL.vl at SA SB
        have y1 : w3.drew.cell? ⟨g, off + k * 3, none⟩ = some (.int .u8 10) := x1
        have y2 : w3.drew.cell? ⟨g, off + k * 3 + 1, none⟩ = some (.int .i64 ta) := x2
        obtain ⟨ja, rfl⟩ : ∃ ja : Nat, ta = (ja : Int) := ⟨ta.toNat, by have := jc2 (by decide); omega⟩
        have jan : ja < n := by have := jc2 (by decide); omega
        have jw1 : IntKind.i64.wrap ((ja : Int) - 1) = (ja : Int) - 1 := IntWalk.i64_in _ (by omega)
        have jw2 : IntKind.i64.wrap ((ja : Int) - 1 + 1) = (ja : Int) := by rw [show (ja : Int) - 1 + 1 = (ja : Int) by omega]; exact IntWalk.i64_in _ (by omega)
        have jw3 : IntKind.i64.wrap (ja : Int) = (ja : Int) := IntWalk.i64_in _ (by omega)
        clear jc2
        cases x with
        | true =>
          have NX : Hid (R3 w rk (rk.map h) s' (.slice a7' m7 c7') (.slice a8' m8 c8') (.slice (some ⟨g9, 0, none⟩) s'.length c9) w3.drew ∧ RnS l h (k + 1) s' ∧ rk.length ≤ k + 1 ∧ ∀ j ∈ rk, j < l.length ∧ j ∉ deadL l) := by
            have a := STP.out k s _ false (k + 1) RS.out etH.out (Or.inl ⟨rfl, kl, fun _ => by rw [gx]; simp⟩)
            rw [hs'] at a
            have pl1 : rk.length ≤ k + 1 := by have := PL.out.1; have := a.1; omega
            have pl2 : R3 w rk (rk.map h) s' (.slice a7' m7 c7') (.slice a8' m8 c8') (.slice (some ⟨g9, 0, none⟩) s'.length c9) w3.drew := by rw [esl]; exact R9
            exact (⟨pl2, a.2, pl1, PL.out.2⟩ : _ ∧ _ ∧ _ ∧ _)
          clear es R9 hs' R2H PL STP RS etH hm gx ex
          go_wp2_with fail
          go_region
          all_goals go_wp2_with fail
          all_goals exact ⟨⟨k + 1, q, rk, s', a7', m7, c7', a8', m8, c8', some ⟨g9, 0, none⟩, c9, rfl, rfl, by first | rfl | (rw [esl]), rfl, by first | rfl | (rw [kw]; rfl), by omega, NX⟩, by first | (simp [intOf]; done) | (simp [intOf]; omega)⟩
        | false =>
          have NX : Hid (R3 w rk (rk.map h) s' (.slice a7' m7 c7') (.slice a8' m8 c8') (.slice (some ⟨g9, 0, none⟩) s'.length c9) w3.drew ∧ RnS l h (ja) s' ∧ rk.length ≤ ja ∧ ∀ j ∈ rk, j < l.length ∧ j ∉ deadL l) := by
            have a := STP.out k s _ false (ja) RS.out etH.out (Or.inr ⟨by simp, by simp, by rw [gx]; simp⟩)
            rw [hs'] at a
            have pl1 : rk.length ≤ ja := by have := PL.out.1; have := a.1; omega
            have pl2 : R3 w rk (rk.map h) s' (.slice a7' m7 c7') (.slice a8' m8 c8') (.slice (some ⟨g9, 0, none⟩) s'.length c9) w3.drew := by rw [esl]; exact R9
            exact (⟨pl2, a.2, pl1, PL.out.2⟩ : _ ∧ _ ∧ _ ∧ _)
          have kj : k < ja := by have a := (STP.out k s _ false ja RS.out etH.out (Or.inr ⟨by simp, by simp, by rw [gx]; simp⟩)).1; exact a
          clear es R9 hs' R2H PL STP RS etH hm gx ex
          go_wp2_with fail
          go_region
          all_goals go_wp2_with fail
          all_goals exact ⟨⟨ja, q, rk, s', a7', m7, c7', a8', m8, c8', some ⟨g9, 0, none⟩, c9, rfl, rfl, by first | rfl | (rw [esl]), rfl, by first | rfl | (rw [kw]; rfl), by omega, NX⟩, by first | (simp [intOf]; done) | (simp [intOf]; omega)⟩
    · as_aux_lemma =>
        have kl : k + 1 < l.length := f6 (by decide)
        have kn1 : k + 1 < n := by rw [← hnH.out]; exact kl
        have tk1 : tkL = 1 := by rw [← tkH.out]; rfl
        obtain ⟨m, hm⟩ : ∃ m, sn = m + 1 := ⟨sn - 1, by omega⟩
        obtain ⟨g9, rfl, hc9⟩ := R2H.out.o9.top (by rw [snH.out]; omega)
        rw [snH.out] at hc9
        have m0 : (0 : Int) ≤ (m : Int) := by omega
        have mc : (m : Int) ≤ (c9 : Int) := by omega
        have mcN : m ≤ c9 := by omega
        have mn : (m : Int) < (sn : Int) := by omega
        have mw : IntKind.i64.wrap ((sn : Int) - 1) = (m : Int) := by rw [hm, show ((m + 1 : Nat) : Int) - 1 = (m : Int) by omega]; exact IntWalk.i64_in _ (by omega)
        obtain ⟨x, ex⟩ : ∃ x, s[m]? = some x := ⟨_, List.getElem?_eq_getElem (by rw [snH.out]; omega)⟩
        have gx : s.getD (s.length - 1) false = x := by rw [snH.out, hm, Nat.add_sub_cancel, List.getD_eq_getElem?_getD, ex]; rfl
        obtain ⟨s', hs'⟩ : ∃ s', stepB 11 false s = s' := ⟨_, rfl⟩
        have es : s = s' := by rw [← hs', stepB_jump (by decide) _ _ (by rw [snH.out]; omega)]
        have esl : s'.length = sn := by rw [← es]; exact snH.out
        have R9 := R2H.out.below ((Below.refl _ w3).drew)
        rw [es] at R9
        have SA := R2H.out.o9.cell ex
        have SB := (R2H.out.below ((Below.refl _ w3).drew)).o9.cell ex
        unfold BL.vl at SA SB
        have y1 : w3.drew.cell? ⟨g, off + k * 3, none⟩ = some (.int .u8 11) := x1
        have y2 : w3.drew.cell? ⟨g, off + k * 3 + 1, none⟩ = some (.int .i64 ta) := x2
        obtain ⟨ja, rfl⟩ : ∃ ja : Nat, ta = (ja : Int) := ⟨ta.toNat, by have := jc2 (by decide); omega⟩
        have jan : ja < n := by have := jc2 (by decide); omega
        have jw1 : IntKind.i64.wrap ((ja : Int) - 1) = (ja : Int) - 1 := IntWalk.i64_in _ (by omega)
        have jw2 : IntKind.i64.wrap ((ja : Int) - 1 + 1) = (ja : Int) := by rw [show (ja : Int) - 1 + 1 = (ja : Int) by omega]; exact IntWalk.i64_in _ (by omega)
        have jw3 : IntKind.i64.wrap (ja : Int) = (ja : Int) := IntWalk.i64_in _ (by omega)
        clear jc2
        cases x with
        | true =>
          have NX : Hid (R3 w rk (rk.map h) s' (.slice a7' m7 c7') (.slice a8' m8 c8') (.slice (some ⟨g9, 0, none⟩) s'.length c9) w3.drew ∧ RnS l h (ja) s' ∧ rk.length ≤ ja ∧ ∀ j ∈ rk, j < l.length ∧ j ∉ deadL l) := by
            have a := STP.out k s _ false (ja) RS.out etH.out (Or.inr ⟨by simp, by simp, by rw [gx]; simp⟩)
            rw [hs'] at a
            have pl1 : rk.length ≤ ja := by have := PL.out.1; have := a.1; omega
            have pl2 : R3 w rk (rk.map h) s' (.slice a7' m7 c7') (.slice a8' m8 c8') (.slice (some ⟨g9, 0, none⟩) s'.length c9) w3.drew := by rw [esl]; exact R9
            exact (⟨pl2, a.2, pl1, PL.out.2⟩ : _ ∧ _ ∧ _ ∧ _)
          have kj : k < ja := by have a := (STP.out k s _ false ja RS.out etH.out (Or.inr ⟨by simp, by simp, by rw [gx]; simp⟩)).1; exact a
          clear es R9 hs' R2H PL STP RS etH hm gx ex
          go_wp2_with fail
          go_region
          all_goals go_wp2_with fail
          all_goals exact ⟨⟨ja, q, rk, s', a7', m7, c7', a8', m8, c8', some ⟨g9, 0, none⟩, c9, rfl, rfl, by first | rfl | (rw [esl]), rfl, by first | rfl | (rw [kw]; rfl), by omega, NX⟩, by first | (simp [intOf]; done) | (simp [intOf]; omega)⟩
        | false =>
          have NX : Hid (R3 w rk (rk.map h) s' (.slice a7' m7 c7') (.slice a8' m8 c8') (.slice (some ⟨g9, 0, none⟩) s'.length c9) w3.drew ∧ RnS l h (k + 1) s' ∧ rk.length ≤ k + 1 ∧ ∀ j ∈ rk, j < l.length ∧ j ∉ deadL l) := by
            have a := STP.out k s _ false (k + 1) RS.out etH.out (Or.inl ⟨rfl, kl, fun _ => by rw [gx]; simp⟩)
            rw [hs'] at a
            have pl1 : rk.length ≤ k + 1 := by have := PL.out.1; have := a.1; omega
            have pl2 : R3 w rk (rk.map h) s' (.slice a7' m7 c7') (.slice a8' m8 c8') (.slice (some ⟨g9, 0, none⟩) s'.length c9) w3.drew := by rw [esl]; exact R9
            exact (⟨pl2, a.2, pl1, PL.out.2⟩ : _ ∧ _ ∧ _ ∧ _)
          clear es R9 hs' R2H PL STP RS etH hm gx ex
          go_wp2_with fail
          go_region
          all_goals go_wp2_with fail
          all_goals exact ⟨⟨k + 1, q, rk, s', a7', m7, c7', a8', m8, c8', some ⟨g9, 0, none⟩, c9, rfl, rfl, by first | rfl | (rw [esl]), rfl, by first | rfl | (rw [kw]; rfl), by omega, NX⟩, by first | (simp [intOf]; done) | (simp [intOf]; omega)⟩
    · as_aux_lemma =>
        have kl : k + 1 < l.length := f6 (by decide)
        have kn1 : k + 1 < n := by rw [← hnH.out]; exact kl
        have tk1 : tkL = 1 := by rw [← tkH.out]; rfl
        obtain ⟨m, hm⟩ : ∃ m, sn = m + 1 := ⟨sn - 1, by omega⟩
        obtain ⟨g9, rfl, hc9⟩ := R2H.out.o9.top (by rw [snH.out]; omega)
        rw [snH.out] at hc9
        have m0 : (0 : Int) ≤ (m : Int) := by omega
        have mc : (m : Int) ≤ (c9 : Int) := by omega
        have mcN : m ≤ c9 := by omega
        have mn : (m : Int) < (sn : Int) := by omega
        have mw : IntKind.i64.wrap ((sn : Int) - 1) = (m : Int) := by rw [hm, show ((m + 1 : Nat) : Int) - 1 = (m : Int) by omega]; exact IntWalk.i64_in _ (by omega)
        obtain ⟨s', hs'⟩ : ∃ s', stepB 12 false s = s' := ⟨_, rfl⟩
        have es : s.take m = s' := by rw [← hs', stepB_pop, snH.out, hm, Nat.add_sub_cancel]
        have esl : s'.length = m := by rw [← es, List.length_take, snH.out]; omega
        have R9 := R2H.out.cut9 (m := m) (by rw [snH.out]; omega)
        rw [es] at R9
        have NX : Hid (R3 w rk (rk.map h) s' (.slice a7' m7 c7') (.slice a8' m8 c8') (.slice (some ⟨g9, 0, none⟩) s'.length c9) w3 ∧ RnS l h (k + 1) s' ∧ rk.length ≤ k + 1 ∧ ∀ j ∈ rk, j < l.length ∧ j ∉ deadL l) := by
          have a := STP.out k s _ false (k + 1) RS.out etH.out (Or.inl ⟨rfl, kl, fun q => by simp at q⟩)
          rw [hs'] at a
          have pl1 : rk.length ≤ k + 1 := by have := PL.out.1; have := a.1; omega
          have pl2 : R3 w rk (rk.map h) s' (.slice a7' m7 c7') (.slice a8' m8 c8') (.slice (some ⟨g9, 0, none⟩) s'.length c9) w3 := by rw [esl]; exact R9
          exact (⟨pl2, a.2, pl1, PL.out.2⟩ : _ ∧ _ ∧ _ ∧ _)
        clear es R9 hs' R2H PL STP RS etH hm
        go_wp2_with fail
        exact ⟨⟨k + 1, q, rk, s', a7', m7, c7', a8', m8, c8', some ⟨g9, 0, none⟩, c9, rfl, rfl, by first | rfl | (rw [esl]), rfl, by first | rfl | (rw [kw]; rfl), by omega, NX⟩, by first | (simp [intOf]; done) | (simp [intOf]; omega)⟩
    · as_aux_lemma =>
        have e1 : s.length = 1 := f5' rfl
        have es : sn = 1 := by rw [← snH.out]; exact e1
        subst es
        have fin : Hid (∃ (r : List Nat) (v7 v8 : Value), (.slice a7' m7 c7' : Value) = v7 ∧ (.slice a8' m8 c8' : Value) = v8 ∧ I6.OE w3 w.heap.size v7 (nat2 r) ∧ I6.OE w3 w.heap.size v8 (r.map h) ∧ r.length ≤ l.length ∧ (∀ j ∈ r, j < l.length ∧ j ∉ deadL l) ∧ Below w.heap.size w w3) := ⟨rk, _, _, rfl, rfl, R2H.out.o7, R2H.out.o8, by have := PL.out.1; omega, PL.out.2, R2H.out.b⟩
        clear R2H PL STP RS etH
        go_wp2_with fail
        go_returns
        obtain ⟨r, v7, v8, e7, e8, p1, p2, p3, p4, p5⟩ := fin.out
        exact ⟨⟨r, v7, v8, by rw [← e7, ← e8]; rfl, p1, p2, p3, p4⟩, p5⟩
end Go.Proofs.YtdfnomglkibfbaaGreatDoor.Vf
