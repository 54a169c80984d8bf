
import Derived.Test.YtgodihhlpcnbiaaGreatDoorBdF
import Derived.Test.YtgodihhlpcnbiaaGreatDoorBdB
import Derived.Test.YtgodihhlpcnbiaaGreatDoorBdC
import Derived.Test.YtgodihhlpcnbiaaGreatDoorBcKq
namespace Go.Proofs.YtgodihhlpcnbiaaGreatDoor
open Go.RowKit _root_.Go.Proofs.YtgodihhlpcnbiaaGreatDoor.So
set_option linter.unusedVariables false
set_option linter.unusedSimpArgs false
theorem fieldBadW (a b c d e : Value) (w : World) : (Instr.field 31 (.agg #[a, b, c, d, e]) 0).run Tryz.prog w = .ok a w := by kernel_rfl
theorem mergeL (l m : List PtP) : odD (odD (flatL l) ++ odD (flatL m)) = odD (flatL (l ++ m)) := by rw [flatL_app, odD_two_is]
set_option maxRecDepth 100000 in
set_option maxHeartbeats 16000000 in
theorem batchMerges_walk (a a2 : Option Addr) (c c2 : Nat) (l m : List PtP) (w : World) (ha : PsIn w a l) (hb : PsIn w a2 m) (hl : l.length ≤ 268435456) (hm : m.length ≤ 268435456) (htl : ∀ p ∈ l, p.t.length ≤ 4398046511103) (htm : ∀ p ∈ m, p.t.length ≤ 4398046511103) (hT : UT w) (hE : ET w) :
    Calls Tryz.prog 5 #[.slice a l.length c, .slice a2 m.length c2] w fun e w' => e = .returned (.bool true) ∧ Below w.heap.size w w' := by
  have htl' : ∀ p ∈ l, p.t.length ≤ 4398046511104 := fun p hp => by have := htl p hp; omega
  have htm' : ∀ p ∈ m, p.t.length ≤ 4398046511104 := fun p hp => by have := htm p hp; omega
  have cF1 : Hid (Calls Tryz.prog 13 #[.slice a l.length c] w fun e w' => FlA w w' l e) := flat_any a c l w ha (by omega) htl' hT
  have cF2 : Hid (∀ W, Below w.heap.size w W → Calls Tryz.prog 13 #[.slice a2 m.length c2] W fun e w' => FlA W w' m e) := fun W hW => flat_any a2 c2 m W (hb.below hW) (by omega) htm' (hT.below hW (Nat.le_refl _))
  have fA : Hid (∀ W, Below w.heap.size w W → ∃ a5 z5 c5 w5 a6 z6 c6 w6, (Builtin.append_ #[22, 22] 22 #[.slice (some ⟨W.heap.size, 0, none⟩) 0 0, .slice a l.length c]).run Tryz.prog (W.alloc (.cells #[] 46)) = .ok (.slice a5 z5 c5) w5 ∧ (Builtin.append_ #[22, 22] 22 #[.slice a5 z5 c5, .slice a2 m.length c2]).run Tryz.prog w5 = .ok (.slice a6 z6 c6) w6 ∧ Below W.heap.size W w6 ∧ Calls Tryz.prog 13 #[.slice a6 z6 c6] w6 fun e w' => FlA w6 w' (l ++ m) e) := fun W hW => by
    obtain ⟨v5, w5, M5, r5, m5, S5⟩ := appP W _ _ _ (CpS.empty W) a c l (ha.below hW) (by simp; omega)
    obtain ⟨a5, c5, e5, _⟩ := S5.slice
    rw [List.nil_append] at S5 e5
    have l5 : M5.length = l.length := by rw [← m5, List.length_map]
    obtain ⟨v6, w6, M6, r6, m6, S6⟩ := appP W w5 v5 M5 S5 a2 c2 m (hb.below hW) (by omega)
    obtain ⟨a6, c6, e6, _, p6⟩ := S6.psin
    have l6 : (M5 ++ M6).length = (l ++ m).length := by rw [List.length_append, List.length_append, ← m5, ← m6, List.length_map, List.length_map]
    rw [List.map_append, m5, m6] at p6
    subst e5
    rw [l6] at e6
    subst e6
    have B6 := hW.trans (S6.bl.mono hW.size)
    refine ⟨a5, _, c5, w5, a6, _, c6, w6, r5, r6, S6.bl, ?_⟩
    exact flat_any a6 c6 (l ++ m) w6 p6 (by rw [List.length_append]; omega) (fun p hp => (List.mem_append.1 hp).elim (htl' p) (htm' p)) (hT.below B6 (Nat.le_refl _))
  have cL : Hid (∀ W, Below w.heap.size w W → Calls Tryz.prog 8 #[] W fun e w' => e = .returned (.bool true) ∧ Below W.heap.size W w') := fun W hW => blive_any W (hT.below hW (Nat.le_refl _)) (ET_below hE hW)
  have cC1 : Hid (∀ W, Below w.heap.size w W → Calls Tryz.prog 11 #[.slice a l.length c] W fun e w' => e = .returned (chkB l) ∧ Below W.heap.size W w') := fun W hW => rcheck_any a c l W (ha.below hW) (by omega) htl
  have cC2 : Hid (∀ W, Below w.heap.size w W → Calls Tryz.prog 11 #[.slice a2 m.length c2] W fun e w' => e = .returned (chkB m) ∧ Below W.heap.size W w') := fun W hW => rcheck_any a2 c2 m W (hb.below hW) (by omega) htm
  have cM : Hid (chkOk l → chkOk m → ∀ W a3 z3 c3 a4 z4 c4, z3 = (odD (flatL l)).length → WIn W a3 (odD (flatL l)) → z4 = (odD (flatL m)).length → WIn W a4 (odD (flatL m)) → Calls Tryz.prog 16 #[.slice a3 z3 c3, .slice a4 z4 c4] W fun e w' => ∃ a z c, e = .returned (.slice a z c) ∧ z = (odD (flatL (l ++ m))).length ∧ z ≤ c ∧ WIn w' a (odD (flatL (l ++ m))) ∧ Below W.heap.size W w') := fun k1 k2 W a3 z3 c3 a4 z4 c4 e3 h3 e4 h4 => by
    subst e3 e4
    have f1 := flatL_few (l := l) fun p hp => right_few (badP_none k1.2 p hp)
    have f2 := flatL_few (l := m) fun p hp => right_few (badP_none k2.2 p hp)
    have g1 := odD_len (flatL l)
    have g2 := odD_len (flatL m)
    have := (bmerge_any a3 a4 c3 c4 (odD (flatL l)) (odD (flatL m)) W h3 h4 (by have := k1.1; have := k2.1; omega) (odD_tags _ (flatL_tags htl')) (odD_tags _ (flatL_tags htm'))).mono fun e w' hh => odR_two hh
    rwa [mergeL] at this
  have cS : Hid (chkOk (l ++ m) → ∀ W a' a3 z z' c' c3, z = (odD (flatL (l ++ m))).length → z' = (odD (flatL (l ++ m))).length → WIn W a' (odD (flatL (l ++ m))) → WIn W a3 (odD (flatL (l ++ m))) → Calls Tryz.prog 15 #[.slice a' z c', .slice a3 z' c3] W fun e w' => e = .returned (.bool true) ∧ Below W.heap.size W w') := fun k W a' a3 z z' c' c3 e e' h1 h2 => by
    subst e e'
    have f1 := flatL_few (l := l ++ m) fun p hp => right_few (badP_none k.2 p hp)
    have g1 := odD_len (flatL (l ++ m))
    exact sameWrites_true a' a3 c' c3 _ W h1 h2 (by have := k.1; omega)
  have nn : Hid (l.length ≤ 268435456 ∧ m.length ≤ 268435456) := ⟨hl, hm⟩
  have hap : Hid (chkOk l → chkOk m → (chkOk (l ++ m) ↔ l.length + m.length ≤ 10000)) := fun h1 h2 => chkOk_app h1 h2
  have v3 : Hid (10000 < l.length + m.length → chkV (l ++ m) = .iface 29 (.int .i64 6)) := fun h => by unfold chkV; rw [if_pos (by rw [List.length_append]; exact h)]
  clear ha hb hl hm htl htm htl' htm' hT hE
  generalize l.length = n1 at *
  generalize m.length = n2 at *
  go_enter Tryz.func5, Tryz.ntmps5
  go_wp2_with fail
  refine Calls.mono cF1.out ?_
  rintro e w1 ⟨a3, z3, c3, V1, rfl, b1, k1, j1⟩
  have b1H : Hid (Below w.heap.size w w1) := b1
  have K1 : Hid ((chkOk l → V1 = .nilIface ∧ z3 = (odD (flatL l)).length ∧ z3 ≤ c3 ∧ WIn w1 a3 (odD (flatL l))) ∧ (¬ chkOk l → a3 = none ∧ z3 = 0 ∧ V1 = chkV l)) := ⟨k1, j1⟩
  clear b1 k1 j1 cF1
  go_wp2_with fail
  refine Calls.mono (cF2.out _ b1H.out) ?_
  rintro e w2 ⟨a4, z4, c4, V2, rfl, b2, k2, j2⟩
  have b2H : Hid (Below w.heap.size w w2) := b1H.out.trans (b2.mono b1H.out.size)
  have K1 : Hid ((chkOk l → V1 = .nilIface ∧ z3 = (odD (flatL l)).length ∧ z3 ≤ c3 ∧ WIn w2 a3 (odD (flatL l))) ∧ (¬ chkOk l → a3 = none ∧ z3 = 0 ∧ V1 = chkV l)) := ⟨fun h => let q := K1.out.1 h; ⟨q.1, q.2.1, q.2.2.1, q.2.2.2.below b2⟩, K1.out.2⟩
  have K2 : Hid ((chkOk m → V2 = .nilIface ∧ z4 = (odD (flatL m)).length ∧ z4 ≤ c4 ∧ WIn w2 a4 (odD (flatL m))) ∧ (¬ chkOk m → a4 = none ∧ z4 = 0 ∧ V2 = chkV m)) := ⟨k2, j2⟩
  clear b2 k2 j2 cF2 b1H
  obtain ⟨a5, z5, c5, w5, a6, z6, c6, w6, r5, r6, b6, C6⟩ := fA.out w2 b2H.out
  have r5H : Hid (∀ W N, W = w2.alloc (.cells #[] 46) → N = w2.heap.size → (Builtin.append_ #[22, 22] 22 #[.slice (some ⟨N, 0, none⟩) 0 0, .slice a n1 c]).run Tryz.prog W = .ok (.slice a5 z5 c5) w5) := fun W N e e' => by subst e; subst e'; exact r5
  have r6H : Hid (∀ W, W = w5 → (Builtin.append_ #[22, 22] 22 #[.slice a5 z5 c5, .slice a2 n2 c2]).run Tryz.prog W = .ok (.slice a6 z6 c6) w6) := fun W e => by subst e; exact r6
  have C6H : Hid (Calls Tryz.prog 13 #[.slice a6 z6 c6] w6 fun e w' => FlA w6 w' (l ++ m) e) := C6
  have K1 : Hid ((chkOk l → V1 = .nilIface ∧ z3 = (odD (flatL l)).length ∧ z3 ≤ c3 ∧ WIn w6 a3 (odD (flatL l))) ∧ (¬ chkOk l → a3 = none ∧ z3 = 0 ∧ V1 = chkV l)) := ⟨fun h => let q := K1.out.1 h; ⟨q.1, q.2.1, q.2.2.1, q.2.2.2.below b6⟩, K1.out.2⟩
  have K2 : Hid ((chkOk m → V2 = .nilIface ∧ z4 = (odD (flatL m)).length ∧ z4 ≤ c4 ∧ WIn w6 a4 (odD (flatL m))) ∧ (¬ chkOk m → a4 = none ∧ z4 = 0 ∧ V2 = chkV m)) := ⟨fun h => let q := K2.out.1 h; ⟨q.1, q.2.1, q.2.2.1, q.2.2.2.below b6⟩, K2.out.2⟩
  have b6H : Hid (Below w.heap.size w w6) := b2H.out.trans (b6.mono b2H.out.size)
  clear r5 r6 b6 C6 fA b2H
  go_wp2_with (first | (at_builtin; refine wpList_append_runB (by rfl) _ _ _ (by rfl) _ _ _ _ (by rfl) (by rfl) (r5H.out _ _ (by first | rfl | simp) (by first | rfl | simp)) ?_) | (at_builtin; refine wpList_append_runB (by rfl) _ _ _ (by rfl) _ _ _ _ (by rfl) (by rfl) (r6H.out _ (by first | rfl | simp)) ?_))
  refine Calls.mono C6H.out ?_
  rintro e w7 ⟨a7, z7, c7, V3, rfl, b7, k3, j3⟩
  have b7H : Hid (Below w.heap.size w w7) := b6H.out.trans (b7.mono b6H.out.size)
  have K1 : Hid ((chkOk l → V1 = .nilIface ∧ z3 = (odD (flatL l)).length ∧ z3 ≤ c3 ∧ WIn w7 a3 (odD (flatL l))) ∧ (¬ chkOk l → a3 = none ∧ z3 = 0 ∧ V1 = chkV l)) := ⟨fun h => let q := K1.out.1 h; ⟨q.1, q.2.1, q.2.2.1, q.2.2.2.below b7⟩, K1.out.2⟩
  have K2 : Hid ((chkOk m → V2 = .nilIface ∧ z4 = (odD (flatL m)).length ∧ z4 ≤ c4 ∧ WIn w7 a4 (odD (flatL m))) ∧ (¬ chkOk m → a4 = none ∧ z4 = 0 ∧ V2 = chkV m)) := ⟨fun h => let q := K2.out.1 h; ⟨q.1, q.2.1, q.2.2.1, q.2.2.2.below b7⟩, K2.out.2⟩
  have K3 : Hid ((chkOk (l ++ m) → V3 = .nilIface ∧ z7 = (odD (flatL (l ++ m))).length ∧ z7 ≤ c7 ∧ WIn w7 a7 (odD (flatL (l ++ m)))) ∧ (¬ chkOk (l ++ m) → a7 = none ∧ z7 = 0 ∧ V3 = chkV (l ++ m))) := ⟨k3, j3⟩
  clear b7 k3 j3 C6H r5H r6H b6H
  by_cases h1 : chkOk l
  · have V1e : V1 = .nilIface := (K1.out.1 h1).1
    subst V1e
    by_cases h2 : chkOk m
    · have V2e : V2 = .nilIface := (K2.out.1 h2).1
      subst V2e
      by_cases h3 : n1 + n2 ≤ 10000
      · have h4 := (hap.out h1 h2).2 h3
        have V3e : V3 = .nilIface := (K3.out.1 h4).1
        subst V3e
        have cX : Hid _ := cM.out h1 h2
        have cY : Hid _ := cS.out h4
        have k1 := K1.out.1 h1
        have k2 := K2.out.1 h2
        have k3 := K3.out.1 h4
        have J : Hid (z3 = (odD (flatL l)).length ∧ WIn w7 a3 (odD (flatL l)) ∧ z4 = (odD (flatL m)).length ∧ WIn w7 a4 (odD (flatL m)) ∧ z7 = (odD (flatL (l ++ m))).length ∧ WIn w7 a7 (odD (flatL (l ++ m)))) := ⟨k1.2.1, k1.2.2.2, k2.2.1, k2.2.2.2, k3.2.1, k3.2.2.2⟩
        clear k1 k2 k3 K1 K2 K3 cM cS hap v3 h1 h2 h4 cC1 cC2
        go_wp2_with fail
        refine Calls.mono (cL.out _ b7H.out) ?_
        rintro e w8 ⟨rfl, b8⟩
        have b8H : Hid (Below w.heap.size w w8) := b7H.out.trans (b8.mono b7H.out.size)
        have b8J : Hid (_ → _) := fun (j : z3 = (odD (flatL l)).length ∧ WIn w7 a3 (odD (flatL l)) ∧ z4 = (odD (flatL m)).length ∧ WIn w7 a4 (odD (flatL m)) ∧ z7 = (odD (flatL (l ++ m))).length ∧ WIn w7 a7 (odD (flatL (l ++ m)))) => (⟨j.1, j.2.1.below b8, j.2.2.1, j.2.2.2.1.below b8, j.2.2.2.2.1, j.2.2.2.2.2.below b8⟩ : z3 = (odD (flatL l)).length ∧ WIn w8 a3 (odD (flatL l)) ∧ z4 = (odD (flatL m)).length ∧ WIn w8 a4 (odD (flatL m)) ∧ z7 = (odD (flatL (l ++ m))).length ∧ WIn w8 a7 (odD (flatL (l ++ m))))
        clear b8 cL
        have J8 : Hid (z3 = (odD (flatL l)).length ∧ WIn w8 a3 (odD (flatL l)) ∧ z4 = (odD (flatL m)).length ∧ WIn w8 a4 (odD (flatL m)) ∧ z7 = (odD (flatL (l ++ m))).length ∧ WIn w8 a7 (odD (flatL (l ++ m)))) := b8J.out J.out
        clear J b8J
        go_wp2_with fail
        refine Calls.mono (cX.out w8 a3 z3 c3 a4 z4 c4 J8.out.1 J8.out.2.1 J8.out.2.2.1 J8.out.2.2.2.1) ?_
        rintro e w9 ⟨a9, z9, c9, rfl, e9, _, r9, b9⟩
        have cZ : Hid _ := cY.out w9 a9 a7 z9 z7 c9 c7 e9 J8.out.2.2.2.2.1 r9 (J8.out.2.2.2.2.2.below b9)
        have b9H : Hid (Below w.heap.size w w9) := b8H.out.trans (b9.mono b8H.out.size)
        clear e9 r9 b9 J8 cX cY b8H
        go_wp2_with fail
        refine Calls.mono cZ.out ?_
        rintro e w10 ⟨rfl, b10⟩
        have b10H : Hid (Below w.heap.size w w10) := b9H.out.trans (b10.mono b9H.out.size)
        clear b10 cZ b9H
        go_wp2_with fail
        go_ret
        exact ⟨by first | rfl | simp, b10H.out⟩
      · have h4 : ¬ chkOk (l ++ m) := fun h => h3 ((hap.out h1 h2).1 h)
        have V3e : V3 = .iface 29 (.int .i64 6) := by rw [(K3.out.2 h4).2.2]; exact v3.out (by omega)
        subst V3e
        have hB1 := chkB_ok h1
        have hB2 := chkB_ok h2
        have nb := nn.out
        have wn : IntKind.i64.wrap ((n1 : Int) + (n2 : Int)) = (n1 : Int) + (n2 : Int) := IntWalk.i64_in _ (by omega)
        have gt : (10000 : Int) < (n1 : Int) + (n2 : Int) := by omega
        clear K1 K2 K3 cM cS hap v3 h1 h2 h3 h4 nb
        go_wp2_with fail
        refine Calls.mono (cL.out _ b7H.out) ?_
        rintro e w8 ⟨rfl, b8⟩
        have b8H : Hid (Below w.heap.size w w8) := b7H.out.trans (b8.mono b7H.out.size)
        clear b8 cL
        have C1 : Hid _ := cC1.out w8 b8H.out
        rw [hB1] at C1
        clear cC1
        go_wp2_with fail
        refine Calls.mono C1.out ?_
        rintro e w9 ⟨rfl, b9⟩
        have b9H : Hid (Below w.heap.size w w9) := b8H.out.trans (b9.mono b8H.out.size)
        clear b9 C1
        have C2 : Hid _ := cC2.out w9 b9H.out
        rw [hB2] at C2
        clear cC2
        go_wp2_with (simp only [fieldBadW])
        refine Calls.mono C2.out ?_
        rintro e w10 ⟨rfl, b10⟩
        have b10H : Hid (Below w.heap.size w w10) := b9H.out.trans (b10.mono b9H.out.size)
        clear b10 C2
        go_wp2_with (simp only [fieldBadW])
        go_ret
        exact ⟨by first | rfl | simp, b10H.out⟩
    · have V2e := (K2.out.2 h2).2.2
      have hB1 := chkB_ok h1
      obtain ⟨N, I, q, hN, hB2⟩ := chkB_bad h2
      have hNb : (N == 0) = false := by simpa using hN
      have two := chkV_two h2
      rw [← V2e] at two
      clear K1 K2 K3 cM cS hap v3 h1 h2 V2e
      rcases two with e | ⟨i, x, e⟩
      · subst e
        go_wp2_with fail
        refine Calls.mono (cL.out _ b7H.out) ?_
        rintro e w8 ⟨rfl, b8⟩
        have b8H : Hid (Below w.heap.size w w8) := b7H.out.trans (b8.mono b7H.out.size)
        clear b8 cL
        have C1 : Hid _ := cC1.out w8 b8H.out
        rw [hB1] at C1
        clear cC1
        go_wp2_with fail
        refine Calls.mono C1.out ?_
        rintro e w9 ⟨rfl, b9⟩
        have b9H : Hid (Below w.heap.size w w9) := b8H.out.trans (b9.mono b8H.out.size)
        clear b9 C1
        have C2 : Hid _ := cC2.out w9 b9H.out
        rw [hB2] at C2
        clear cC2
        go_wp2_with (simp only [fieldBadW])
        refine Calls.mono C2.out ?_
        rintro e w10 ⟨rfl, b10⟩
        have b10H : Hid (Below w.heap.size w w10) := b9H.out.trans (b10.mono b9H.out.size)
        clear b10 C2
        go_wp2_with (simp only [fieldBadW])
        go_ret
        exact ⟨by first | rfl | simp, b10H.out⟩
      · subst e
        go_wp2_with fail
        refine Calls.mono (cL.out _ b7H.out) ?_
        rintro e w8 ⟨rfl, b8⟩
        have b8H : Hid (Below w.heap.size w w8) := b7H.out.trans (b8.mono b7H.out.size)
        clear b8 cL
        have C1 : Hid _ := cC1.out w8 b8H.out
        rw [hB1] at C1
        clear cC1
        go_wp2_with fail
        refine Calls.mono C1.out ?_
        rintro e w9 ⟨rfl, b9⟩
        have b9H : Hid (Below w.heap.size w w9) := b8H.out.trans (b9.mono b8H.out.size)
        clear b9 C1
        have C2 : Hid _ := cC2.out w9 b9H.out
        rw [hB2] at C2
        clear cC2
        go_wp2_with (simp only [fieldBadW])
        refine Calls.mono C2.out ?_
        rintro e w10 ⟨rfl, b10⟩
        have b10H : Hid (Below w.heap.size w w10) := b9H.out.trans (b10.mono b9H.out.size)
        clear b10 C2
        go_wp2_with (simp only [fieldBadW])
        go_ret
        exact ⟨by first | rfl | simp, b10H.out⟩
  · have V1e := (K1.out.2 h1).2.2
    obtain ⟨N, I, q, hN, hB1⟩ := chkB_bad h1
    have hNb : (N == 0) = false := by simpa using hN
    have two := chkV_two h1
    rw [← V1e] at two
    clear K1 K2 K3 cM cS hap v3 h1 V1e
    rcases two with e | ⟨i, x, e⟩
    · subst e
      go_wp2_with fail
      refine Calls.mono (cL.out _ b7H.out) ?_
      rintro e w8 ⟨rfl, b8⟩
      have b8H : Hid (Below w.heap.size w w8) := b7H.out.trans (b8.mono b7H.out.size)
      clear b8 cL
      have C1 : Hid _ := cC1.out w8 b8H.out
      rw [hB1] at C1
      clear cC1
      go_wp2_with fail
      refine Calls.mono C1.out ?_
      rintro e w9 ⟨rfl, b9⟩
      have b9H : Hid (Below w.heap.size w w9) := b8H.out.trans (b9.mono b8H.out.size)
      clear b9 C1
      go_wp2_with (simp only [fieldBadW])
      go_ret
      exact ⟨by first | rfl | simp, b9H.out⟩
    · subst e
      go_wp2_with fail
      refine Calls.mono (cL.out _ b7H.out) ?_
      rintro e w8 ⟨rfl, b8⟩
      have b8H : Hid (Below w.heap.size w w8) := b7H.out.trans (b8.mono b7H.out.size)
      clear b8 cL
      have C1 : Hid _ := cC1.out w8 b8H.out
      rw [hB1] at C1
      clear cC1
      go_wp2_with fail
      refine Calls.mono C1.out ?_
      rintro e w9 ⟨rfl, b9⟩
      have b9H : Hid (Below w.heap.size w w9) := b8H.out.trans (b9.mono b8H.out.size)
      clear b9 C1
      go_wp2_with (simp only [fieldBadW])
      go_ret
      exact ⟨by first | rfl | simp, b9H.out⟩
end Go.Proofs.YtgodihhlpcnbiaaGreatDoor
