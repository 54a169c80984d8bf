
import Derived.Test.YtfijagdbdbbbpaaDoorBuO
namespace Go.Proofs.YtfijagdbdbbbpaaDoor
open Go.RowKit
set_option linter.unusedVariables false
set_option linter.unusedSimpArgs false
theorem VR.start {w2 : World} {N : Nat} {a : Option Addr} {n cap : Nat} {bs : Nat → Nat} {s : PS} (hR : RB N w2 a n cap bs s w2) : VR N w2 a n cap bs w2.heap.size s 0 0 [] (.slice none 0 0) (w2.alloc (.cells #[.int .u8 0, .int .i64 0] 57)) := by
  have hB := below_new (Below.refl _ w2) (.cells #[.int .u8 0, .int .i64 0] 57)
  have hrow : n = 0 ∨ ∀ b off, a = some ⟨b, off, none⟩ → b < w2.heap.size := by
    rcases hR.1.row with h0 | ⟨b, off, e, hb, _⟩
    · exact Or.inl h0
    · exact Or.inr fun b' off' e' => by rw [e] at e'; injection e' with e'; injection e' with e1; omega
  exact ⟨hR.above hB hR.1.sz hrow, by simp [go_sem], by simp [go_sem], by simp [go_sem], by simp [go_sem], World.ownsRow_nil _ _ _ _, hR.1.sz, hrow, by simp⟩
theorem numS_empty (bs : Nat → Nat) (n : Nat) (h : n = 0) : ∃ q, numS bs n 0 10 0 0 = .inl q := by
  subst h
  exact ⟨(0, 30), by unfold numS; simp⟩
theorem lastV_empty (bs : Nat → Nat) (n : Nat) (h : n = 0) : doneF bs n (lastV bs n).s.p (lastV bs n).s.r (lastV bs n).s.fv ≠ none := by
  obtain ⟨q, hq⟩ := numS_empty bs n h
  have hT : uintT bs n 1048576 ⟨0, 0, none⟩ = (⟨0, 0, some q⟩, 0) := by
    unfold uintT
    rw [if_neg (by simp [startF, ragb])]
    simp only [hq]
  have e : lastV bs n = ⟨⟨0, 0, some q⟩, 0, 0, 0, []⟩ := by unfold lastV; rw [hT]; rfl
  rw [e]
  simp [doneF, startF]
set_option maxRecDepth 100000 in
set_option maxHeartbeats 8000000 in
theorem unValues_any (ba : Option Addr) (bc : Nat) (B : List Nat) (w : World) (h : BytesIn w ba B.length (natsOf B)) (hc : ba = none → bc = 0) : Calls Tryd.prog 35 #[.slice ba B.length bc] w fun e w' => UnVE (natsOf B) B.length fvV (.iface 77 (.int .i64 90)) .nilIface e w' ∧ Below w.heap.size w w' := by
  have hN : Hid _ := newR_in ba bc B w h hc
  have hbH : Hid (BytesIn w ba B.length (natsOf B)) := h
  clear h
  go_enter Tryd.func35, Tryd.ntmps35
  go_wp2_with fail
  refine Calls.mono hN.out ?_
  rintro e w2 ⟨N, a, cap, rfl, hNw, hR, hB2⟩
  have hst := VR.start (s := ⟨0, 0, none⟩) (⟨hR, by show 0 < 8; omega⟩ : RB N w2 a B.length cap (natsOf B) ⟨0, 0, none⟩ w2)
  have hcnt0 := count_any hst.rb
  obtain ⟨cn, s0, hcs, hcn, hcnt⟩ : ∃ cn s0, uintT (natsOf B) B.length 1048576 ⟨0, 0, none⟩ = (s0, cn) ∧ cn ≤ 1048576 ∧ Hid (Calls Tryd.prog 27 #[.pointer (some ⟨N, 0, none⟩)] (w2.alloc (.cells #[.int .u8 0, .int .i64 0] 57)) fun e w' => e = .returned (.int .i64 (cn : Int)) ∧ RB N w2 a B.length cap (natsOf B) s0 w' ∧ RF N (w2.alloc (.cells #[.int .u8 0, .int .i64 0] 57)) w') :=
    ⟨(uintT (natsOf B) B.length 1048576 ⟨0, 0, none⟩).2, (uintT (natsOf B) B.length 1048576 ⟨0, 0, none⟩).1, rfl, uintT_le _ _ _ _, hcnt0⟩
  have hlast : Hid (lastV (natsOf B) B.length = readV (natsOf B) B.length s0 cn) := (by unfold lastV; rw [hcs] : lastV (natsOf B) B.length = readV (natsOf B) B.length s0 cn)
  have hstH : Hid _ := hst
  clear hN hcnt0 hst hR hcs
  go_wp2_with fail
  refine Calls.mono hcnt.out ?_
  rintro e w3 ⟨rfl, hR3, hF3⟩
  have hV3 : Hid _ := hstH.out.rd hR3 hF3
  clear hcnt hstH hR3 hF3
  go_wp2_with fail
  go_loopw [5, 7, 8] (fun l la i wr => ∃ k : Nat, k ≤ cn ∧ i = .int .i64 (k : Int) ∧ la = .int .i64 (readV (natsOf B) B.length s0 k).la ∧ (readV (natsOf B) B.length s0 k).L.length = k ∧ VR N w2 a B.length cap (natsOf B) w2.heap.size (readV (natsOf B) B.length s0 k).s (readV (natsOf B) B.length s0 k).ak (readV (natsOf B) B.length s0 k).ax (readV (natsOf B) B.length s0 k).L l wr) (fun _ _ i _ => cn - (intOf i).toNat)
  case atStart => exact ⟨0, by omega, rfl, rfl, rfl, hV3.out⟩
  case round =>
    clear hV3
    obtain ⟨k, hk, rfl, rfl, hLk, hV⟩ := hrel
    obtain ⟨u, hu⟩ : ∃ u, u = readV (natsOf B) B.length s0 k := ⟨_, rfl⟩
    rw [← hu] at hV hLk ⊢
    by_cases hkn : k < cn
    · have hkI : (k : Int) < (cn : Int) := by omega
      have hfa : Hid _ := fault_any hV.rb.1
      by_cases hfv : u.s.fv = none
      · rw [hfv] at hfa
        have hnext : Hid (readV (natsOf B) B.length s0 (k + 1) = stepV (natsOf B) B.length u) := (by
          show (if (readV (natsOf B) B.length s0 k).s.fv.isSome then _ else _) = _
          rw [← hu, hfv]; rfl : readV (natsOf B) B.length s0 (k + 1) = stepV (natsOf B) B.length u)
        have hVH : Hid _ := hV
        have hla := (readV_ok (natsOf B) B.length s0 k).l
        rw [← hu] at hla
        clear hV hu
        go_wp2_with fail
        refine Calls.mono hfa.out ?_
        rintro e w4 ⟨rfl, hw⟩
        have hw' := hw.symm
        subst hw'
        clear hw hfa
        simp only [fvV]
        go_wp2_with fail
        rcases rb_bit hVH.out.rb with ⟨s1, e1, hC⟩ | ⟨s1, e1, hC⟩
        · refine Calls.mono hC.out ?_
          rintro e w5 ⟨rfl, hR5, hF5⟩
          have hVp := hVH.out.rd hR5 hF5
          obtain ⟨g, c, w9, hr, hV9⟩ := hVp.app (by omega) (u.ak : Int) rfl
          rw [hLk] at hr hV9
          have d0 := hVp.c0
          have d1 := hVp.c1
          have hrH : Hid _ := hr
          have hV9H : Hid _ := hV9
          have hstep : Hid (stepV (natsOf B) B.length u = ⟨s1, u.ak, u.ax, u.la, u.L ++ [(u.ak, u.ax)]⟩) := (by unfold stepV; rw [e1]; rfl : stepV (natsOf B) B.length u = ⟨s1, u.ak, u.ax, u.la, u.L ++ [(u.ak, u.ax)]⟩)
          clear hC hVH hR5 hF5 hVp hr hV9 e1
          go_wp2_with (at_builtin; (refine wpList_append_run2 (by rfl) _ _ _ _ (by rfl) _ _ _ _ (by rfl) (by rfl) hrH.out ?_; clear hrH))
          go_roundw
          case rel =>
            refine ⟨k + 1, by omega, by go_num, ?_, ?_, ?_⟩
            · rw [hnext.out, hstep.out]
            · rw [hnext.out, hstep.out]; simp; omega
            · rw [hnext.out, hstep.out]; exact hV9H.out
          case measure => simp [intOf]; omega

        · refine Calls.mono hC.out ?_
          rintro e w5 ⟨rfl, hR5, hF5⟩
          have hV5 := hVH.out.rd hR5 hF5
          clear hC hVH hR5 hF5
          rcases rb_bit hV5.rb with ⟨s2, e2, hC⟩ | ⟨s2, e2, hC⟩
          · have hV5H : Hid _ := hV5
            clear hV5
            go_wp2_with fail
            refine Calls.mono hC.out ?_
            rintro e w6 ⟨rfl, hR6, hF6⟩
            have hV6 := hV5H.out.rd hR6 hF6
            obtain ⟨d, s3, e3, hS⟩ : ∃ d s3, stepT (natsOf B) B.length s2 = (s3, d) ∧ Hid (Calls Tryd.prog 82 #[.pointer (some ⟨N, 0, none⟩)] w6 fun e w' => e = .returned (.int .i64 d) ∧ RB N w2 a B.length cap (natsOf B) s3 w' ∧ RF N w6 w') := ⟨(stepT (natsOf B) B.length s2).2, (stepT (natsOf B) B.length s2).1, rfl, bstep_any hV6.rb⟩
            have hV6H : Hid _ := hV6
            clear hC hV5H hR6 hF6 hV6
            go_wp2_with fail
            refine Calls.mono hS.out ?_
            rintro e w7 ⟨rfl, hR7, hF7⟩
            have hV7 := hV6H.out.rd hR7 hF7
            have f0 := hV7.f0
            have f1 := hV7.f1
            have d0 := hV7.c0
            have d1 := hV7.c1
            obtain ⟨g, c, w9, hr, hV9⟩ := hV7.putApp (by omega) 0 (wrap64 (u.la + d)) 0 rfl
            rw [hLk] at hr hV9
            have hrH : Hid _ := hr
            have hV9H : Hid _ := hV9
            have hstep : Hid (stepV (natsOf B) B.length u = ⟨s3, 0, wrap64 (u.la + d), wrap64 (u.la + d), u.L ++ [(0, wrap64 (u.la + d))]⟩) := (by unfold stepV; rw [e1, if_neg (by simp), e2, if_pos rfl, e3] : stepV (natsOf B) B.length u = ⟨s3, 0, wrap64 (u.la + d), wrap64 (u.la + d), u.L ++ [(0, wrap64 (u.la + d))]⟩)
            clear hS hV6H hR7 hF7 hV7 hr hV9 e1 e2 e3
            go_wp2_with (at_builtin; (refine wpList_append_run2 (by rfl) _ _ _ _ (by rfl) _ _ _ _ (by rfl) (by rfl) hrH.out ?_; clear hrH))
            go_roundw
            case rel =>
              refine ⟨k + 1, by omega, by go_num, ?_, ?_, ?_⟩
              · rw [hnext.out, hstep.out]
              · rw [hnext.out, hstep.out]; simp; omega
              · rw [hnext.out, hstep.out]; exact hV9H.out
            case measure => simp [intOf]; omega

          · have hV5H : Hid _ := hV5
            clear hV5
            go_wp2_with fail
            refine Calls.mono hC.out ?_
            rintro e w6 ⟨rfl, hR6, hF6⟩
            have hV6 := hV5H.out.rd hR6 hF6
            clear hC hV5H hR6 hF6
            rcases rb_bit hV6.rb with ⟨s3, e3, hC⟩ | ⟨s3, e3, hC⟩
            · have hV6H : Hid _ := hV6
              clear hV6
              go_wp2_with fail
              refine Calls.mono hC.out ?_
              rintro e w7 ⟨rfl, hR7, hF7⟩
              have hV7 := hV6H.out.rd hR7 hF7
              have f0 := hV7.f0
              have f1 := hV7.f1
              have d0 := hV7.c0
              have d1 := hV7.c1
              obtain ⟨g, c, w9, hr, hV9⟩ := hV7.putApp (by omega) 1 0 1 rfl
              rw [hLk] at hr hV9
              have hrH : Hid _ := hr
              have hV9H : Hid _ := hV9
              have hstep : Hid (stepV (natsOf B) B.length u = ⟨s3, 1, 0, u.la, u.L ++ [(1, 0)]⟩) := (by unfold stepV; rw [e1, if_neg (by simp), e2, if_neg (by simp), e3]; rfl : stepV (natsOf B) B.length u = ⟨s3, 1, 0, u.la, u.L ++ [(1, 0)]⟩)
              clear hC hV6H hR7 hF7 hV7 hr hV9 e1 e2 e3
              go_wp2_with (at_builtin; (refine wpList_append_run2 (by rfl) _ _ _ _ (by rfl) _ _ _ _ (by rfl) (by rfl) hrH.out ?_; clear hrH))
              go_roundw
              case rel =>
                refine ⟨k + 1, by omega, by go_num, ?_, ?_, ?_⟩
                · rw [hnext.out, hstep.out]
                · rw [hnext.out, hstep.out]; simp; omega
                · rw [hnext.out, hstep.out]; exact hV9H.out
              case measure => simp [intOf]; omega
            · have hV6H : Hid _ := hV6
              clear hV6
              go_wp2_with fail
              refine Calls.mono hC.out ?_
              rintro e w7 ⟨rfl, hR7, hF7⟩
              have hV7 := hV6H.out.rd hR7 hF7
              have f0 := hV7.f0
              have f1 := hV7.f1
              have d0 := hV7.c0
              have d1 := hV7.c1
              obtain ⟨g, c, w9, hr, hV9⟩ := hV7.putApp (by omega) 2 0 2 rfl
              rw [hLk] at hr hV9
              have hrH : Hid _ := hr
              have hV9H : Hid _ := hV9
              have hstep : Hid (stepV (natsOf B) B.length u = ⟨s3, 2, 0, u.la, u.L ++ [(2, 0)]⟩) := (by unfold stepV; rw [e1, if_neg (by simp), e2, if_neg (by simp), e3]; rfl : stepV (natsOf B) B.length u = ⟨s3, 2, 0, u.la, u.L ++ [(2, 0)]⟩)
              clear hC hV6H hR7 hF7 hV7 hr hV9 e1 e2 e3
              go_wp2_with (at_builtin; (refine wpList_append_run2 (by rfl) _ _ _ _ (by rfl) _ _ _ _ (by rfl) (by rfl) hrH.out ?_; clear hrH))
              go_roundw
              case rel =>
                refine ⟨k + 1, by omega, by go_num, ?_, ?_, ?_⟩
                · rw [hnext.out, hstep.out]
                · rw [hnext.out, hstep.out]; simp; omega
                · rw [hnext.out, hstep.out]; exact hV9H.out
              case measure => simp [intOf]; omega
      · have hsome : u.s.fv.isSome = true := by
          cases hh : u.s.fv with
          | none => exact absurd hh hfv
          | some x => rfl
        obtain ⟨x, hx⟩ := Option.isSome_iff_exists.1 hsome
        have hlast2 : Hid (lastV (natsOf B) B.length = u) := (by
          rw [hlast.out, hu, show cn = k + (cn - k) by omega]; exact readV_stay (by rw [← hu]; exact hsome) _ : lastV (natsOf B) B.length = u)
        have hlenP : u.s.fv = none → u.L.length = cn := fun h => absurd h hfv
        rw [hx] at hfa
        obtain ⟨x1, x2⟩ := x
        have hVq : Hid _ := hV
        have huH : Hid _ := hu
        clear hV hu hlenP
        go_wp2_with fail
        refine Calls.mono hfa.out ?_
        rintro e w4 ⟨rfl, hw⟩
        have hw' := hw.symm
        subst hw'
        clear hw hfa
        simp only [fvV]
        go_wp2_with fail
        have hV := hVq.out
        have hu := huH.out
        have hlenP : u.s.fv = none → u.L.length = cn := fun h => absurd h hfv
        clear hVq huH hfv hsome hx
        have hD : Hid _ := done_gen hV.rb.1
        have hVH : Hid _ := hV
        have hok := (readV_ok (natsOf B) B.length s0 k)
        rw [← hu] at hok
        have hlen : Hid (u.s.fv = none → u.L.length = cn) := (hlenP : u.s.fv = none → u.L.length = cn)
        have hokH : Hid _ := hok
        have hLn : u.L.length ≤ 1048576 := by omega
        clear hV hok hu hlenP hLk
        go_wp2_with fail
        refine Calls.mono hD.out ?_
        rintro e w5 ⟨rfl, hR5, hF5⟩
        have hV5 := hVH.out.rd (⟨hR5, hVH.out.rb.2⟩ : RB N w2 a B.length cap (natsOf B) u.s w5) hF5
        have hB05 : Below w.heap.size w w5 := hB2.trans (hV5.rb.1.b.mono hNw)
        clear hD hVH hR5 hF5
        cases hdn : doneF (natsOf B) B.length u.s.p u.s.r u.s.fv with
        | some x =>
          have hdH : Hid _ := hdn
          obtain ⟨x1, x2⟩ := x
          clear hV5 hdn
          simp only [fvV]
          go_wp2_with fail
          simp [bodyPost, results, Tryd.results35, go_sem]
          exact ⟨UnVE.fault hlast2.out hdH.out rfl, hB05⟩
        | none =>
          have hdH : Hid _ := hdn
          obtain ⟨la, lc, hl5, hVI⟩ := own_VIn hV5.own hLn (fun i => (okL_rg hokH.out.L i).2)
          subst hl5
          have hpos : 0 < B.length := by
            rcases Nat.eq_zero_or_pos B.length with h0 | h0
            · exact absurd hdn (by rw [← hlast2.out]; exact lastV_empty _ _ h0)
            · exact h0
          have hAl : Hid _ := aloneV_any la u.L.length lc (kkL u.L) (xxL u.L) ba B.length bc (natsOf B) w5 hVI hLn (fun i _ => (okL_rg hokH.out.L i).1) (hbH.out.below hB05) hpos
          have hVIH : Hid _ := hVI
          clear hV5 hdn hVI
          simp only [fvV]
          go_wp2_with fail
          refine Calls.mono hAl.out ?_
          rintro e w6 ⟨hE, hB6⟩
          have hB06 := below_then hB05 hB6
          clear hAl
          rcases hE with ⟨hq, rfl⟩ | ⟨hq, rfl⟩
          · have hqH : Hid _ := hq
            clear hq
            go_wp2_with fail
            simp [bodyPost, results, Tryd.results35, go_sem]
            exact ⟨UnVE.good hlast2.out hdH.out hqH.out rfl (VIn.below hVIH.out hB6 (Nat.le_refl _)), hB06⟩
          · have hqH : Hid _ := hq
            clear hq
            go_wp2_with fail
            simp [bodyPost, results, Tryd.results35, go_sem]
            exact ⟨UnVE.worse hlast2.out hdH.out hqH.out rfl, hB06⟩
    · obtain rfl : k = cn := by omega
      have hkI : ¬ (k : Int) < (k : Int) := by omega
      have hlast2 : Hid (lastV (natsOf B) B.length = u) := (by rw [hlast.out, hu] : lastV (natsOf B) B.length = u)
      have hlenP : u.s.fv = none → u.L.length = k := fun _ => hLk
      have hD : Hid _ := done_gen hV.rb.1
      have hVH : Hid _ := hV
      have hok := (readV_ok (natsOf B) B.length s0 k)
      rw [← hu] at hok
      have hlen : Hid (u.s.fv = none → u.L.length = k) := (hlenP : u.s.fv = none → u.L.length = k)
      have hokH : Hid _ := hok
      have hLn : u.L.length ≤ 1048576 := by omega
      clear hV hok hu hlenP hLk
      go_wp2_with fail
      refine Calls.mono hD.out ?_
      rintro e w5 ⟨rfl, hR5, hF5⟩
      have hV5 := hVH.out.rd (⟨hR5, hVH.out.rb.2⟩ : RB N w2 a B.length cap (natsOf B) u.s w5) hF5
      have hB05 : Below w.heap.size w w5 := hB2.trans (hV5.rb.1.b.mono hNw)
      clear hD hVH hR5 hF5
      cases hdn : doneF (natsOf B) B.length u.s.p u.s.r u.s.fv with
      | some x =>
        have hdH : Hid _ := hdn
        obtain ⟨x1, x2⟩ := x
        clear hV5 hdn
        simp only [fvV]
        go_wp2_with fail
        simp [bodyPost, results, Tryd.results35, go_sem]
        exact ⟨UnVE.fault hlast2.out hdH.out rfl, hB05⟩
      | none =>
        have hdH : Hid _ := hdn
        obtain ⟨la, lc, hl5, hVI⟩ := own_VIn hV5.own hLn (fun i => (okL_rg hokH.out.L i).2)
        subst hl5
        have hpos : 0 < B.length := by
          rcases Nat.eq_zero_or_pos B.length with h0 | h0
          · exact absurd hdn (by rw [← hlast2.out]; exact lastV_empty _ _ h0)
          · exact h0
        have hAl : Hid _ := aloneV_any la u.L.length lc (kkL u.L) (xxL u.L) ba B.length bc (natsOf B) w5 hVI hLn (fun i _ => (okL_rg hokH.out.L i).1) (hbH.out.below hB05) hpos
        have hVIH : Hid _ := hVI
        clear hV5 hdn hVI
        simp only [fvV]
        go_wp2_with fail
        refine Calls.mono hAl.out ?_
        rintro e w6 ⟨hE, hB6⟩
        have hB06 := below_then hB05 hB6
        clear hAl
        rcases hE with ⟨hq, rfl⟩ | ⟨hq, rfl⟩
        · have hqH : Hid _ := hq
          clear hq
          go_wp2_with fail
          simp [bodyPost, results, Tryd.results35, go_sem]
          exact ⟨UnVE.good hlast2.out hdH.out hqH.out rfl (VIn.below hVIH.out hB6 (Nat.le_refl _)), hB06⟩
        · have hqH : Hid _ := hq
          clear hq
          go_wp2_with fail
          simp [bodyPost, results, Tryd.results35, go_sem]
          exact ⟨UnVE.worse hlast2.out hdH.out hqH.out rfl, hB06⟩
end Go.Proofs.YtfijagdbdbbbpaaDoor
