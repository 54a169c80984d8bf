
import Derived.Test.YtpicgjjbpiinfaaGreatDoorBuP
namespace Go.Proofs.YtpicgjjbpiinfaaGreatDoor
open Go.RowKit
set_option linter.unusedVariables false
set_option linter.unusedSimpArgs false
theorem doneF_fe {bs : Nat → Nat} {n p r : Nat} {fv : Option (Int × Int)} (h : ∀ x, fv = some x → (x.2 == 0) = false) : ∀ x, doneF bs n p r fv = some x → (x.2 == 0) = false := by
  intro x hx
  unfold doneF startF at hx
  cases fv with
  | some y => exact h x (by simpa using hx)
  | none =>
    by_cases hg : ragb bs p r = true
    · simp [hg] at hx; rw [← hx]; rfl
    · by_cases hp : p < n
      · simp [hg, hp] at hx; rw [← hx]; rfl
      · simp [hg, hp] at hx
theorem vin_z {W : World} {q j m : Nat} {x : Value} {a : Option Addr} {kk : Nat → Nat} {xx : Nat → Int} (hne : m = 0 ∨ ∃ g o, a = some ⟨g, o, none⟩ ∧ q < g) (h : VIn W a m kk xx) : VIn (W.setCell ⟨q, j, none⟩ x) a m kk xx := by
  obtain ⟨h1, h2, h3⟩ := h
  refine ⟨h1, h2, ?_⟩
  rcases h3 with h0 | ⟨b, off, e, hb, hc⟩
  · exact Or.inl h0
  · rcases hne with h0 | ⟨g, o, e2, hg⟩
    · exact Or.inl h0
    · have eb : b = g := by rw [e] at e2; injection e2 with e2; injection e2
      refine Or.inr ⟨b, off, e, by simpa using hb, fun i hi => ⟨?_, ?_⟩⟩
      · rw [World.cell?_setCell_other _ _ _ _ (by intro h; injection h with h1; omega)]; exact (hc i hi).1
      · rw [World.cell?_setCell_other _ _ _ _ (by intro h; injection h with h1; omega)]; exact (hc i hi).2
theorem own_row {W : World} {base m sz : Nat} {e : TypeId} {v : Value} {xs : List Value} (h : W.ownsRow base e sz v m xs) : m = 0 ∨ ∃ g c, v = .slice (some ⟨g, 0, none⟩) m c ∧ base ≤ g := by
  rcases h.2 with ⟨_, h2⟩ | ⟨g, cap, cur, e1, e2, _⟩
  · exact Or.inl h2
  · exact Or.inr ⟨g, cap, e1, e2⟩
theorem fieldBad (a b c d e : Value) (w : World) : (Instr.field 31 (.agg #[a, b, c, d, e]) 0).run Tryz.prog w = .ok a w := by kernel_rfl
theorem dsum_wrap (la d : Int) : wrap64 (IntKind.u64.wrap (IntKind.u64.wrap la + IntKind.u64.wrap d)) = wrap64 (la + d) := by
  have e : ∀ x, IntKind.u64.wrap x = x % 18446744073709551616 := fun x => rfl
  rw [e, e, e]
  unfold wrap64; omega
set_option maxRecDepth 100000 in
set_option maxHeartbeats 8000000 in
theorem dUnValues_any (ba : Option Addr) (bc : Nat) (B : List Nat) (w : World) (h : BytesIn w ba B.length (natsOf B)) : Calls Tryz.prog 42 #[.slice ba B.length bc] w fun e w' => UnVE (natsOf B) B.length fvB (badV 90) (badV 0) e w' ∧ Below w.heap.size w w' := by
  have e6 := fieldBad
  have hz0 := BZ.start w
  have hB0 := below_new (Below.refl _ w) (.cells #[.int .i64 0, .int .i64 0, .int .i64 0, .bool false, .bool false] 31)
  have hql : w.heap.size < (w.alloc (.cells #[.int .i64 0, .int .i64 0, .int .i64 0, .bool false, .bool false] 31)).heap.size := by simp
  have hbH : Hid (BytesIn w ba B.length (natsOf B)) := h
  obtain ⟨w0, hw0⟩ : ∃ w0, w0 = w.alloc (.cells #[.int .i64 0, .int .i64 0, .int .i64 0, .bool false, .bool false] 31) := ⟨_, rfl⟩
  have hN : Hid _ := dNew_any ba B.length bc (natsOf B) w0 (by rw [hw0]; exact h.below hB0)
  clear h
  go_enter Tryz.func42, Tryz.ntmps42
  go_wp2_with fail
  rw [← hw0] at hz0 hB0 hql ⊢
  have hz0H : Hid (BZ w.heap.size w0) := hz0
  clear hz0 hw0
  refine Calls.mono hN.out ?_
  rintro e w2 ⟨rfl, ⟨a, cap, hR, _⟩, hB2⟩
  obtain ⟨cn, s0, hcs, hcn, hcnt⟩ := qb_uintL (s := ⟨0, 0, none⟩) hR 1048576 (by omega)
  have hlast : Hid (lastV (natsOf B) B.length = readV (natsOf B) B.length s0 cn) := (by unfold lastV; rw [hcs] : lastV (natsOf B) B.length = readV (natsOf B) B.length s0 cn)
  clear hN hR hcs
  go_wp2_with fail
  refine Calls.mono hcnt.out ?_
  rintro e w3 ⟨rfl, hR3, hF3⟩
  have hV3 : Hid _ := VQ.start hR3
  clear hcnt hR3 hF3
  go_wp2_with fail
  go_loopw [6, 8, 9] (fun l la i wr => ∃ k : Nat, k ≤ cn ∧ i = .int .i64 (k : Int) ∧ la = .int .i64 (readV (natsOf B) B.length s0 k).la ∧ (readV (natsOf B) B.length s0 k).L.length = k ∧ VQ w0.heap.size w0 a B.length cap (natsOf B) w3.heap.size (readV (natsOf B) B.length s0 k).s (readV (natsOf B) B.length s0 k).ak (readV (natsOf B) B.length s0 k).ax (readV (natsOf B) B.length s0 k).L l wr) (fun _ _ i _ => cn - (intOf i).toNat)
  case atStart => exact ⟨0, by omega, rfl, rfl, rfl, hV3.out⟩
  case round =>
    clear hV3
    obtain ⟨k, hk, rfl, rfl, hLk, hV⟩ := hrel
    obtain ⟨u, hu⟩ : ∃ u, u = readV (natsOf B) B.length s0 k := ⟨_, rfl⟩
    rw [← hu] at hV hLk ⊢
    by_cases hkn : k < cn
    · have hkI : (k : Int) < (cn : Int) := by omega
      have hfa : Hid _ := dFault_gen hV.rb
      have hfe := QR.fe hV.rb
      by_cases hfv : u.s.fv = none
      · rw [hfv] at hfa
        have hnext : Hid (readV (natsOf B) B.length s0 (k + 1) = stepV (natsOf B) B.length u) := (by
          show (if (readV (natsOf B) B.length s0 k).s.fv.isSome then _ else _) = _
          rw [← hu, hfv]; rfl : readV (natsOf B) B.length s0 (k + 1) = stepV (natsOf B) B.length u)
        have hV0 : Hid _ := hV
        have hla := (readV_ok (natsOf B) B.length s0 k).l
        rw [← hu] at hla
        clear hV hu hfe
        go_wp2_with fail
        refine Calls.mono hfa.out ?_
        rintro e w4 ⟨rfl, hB4⟩
        have hVH : Hid _ := hV0.out.below hB4
        clear hfa hB4 hV0
        simp only [fvB, fcd, fpl, Option.isSome]
        go_wp2_with fail
        rcases qb_bit hVH.out.rb with ⟨s1, e1, hC⟩ | ⟨s1, e1, hC⟩
        · refine Calls.mono hC.out ?_
          rintro e w5 ⟨rfl, hR5, hF5⟩
          have hVp := hVH.out.rd hR5 hF5
          obtain ⟨g, c, w9, hr, hV9⟩ := hVp.app (by omega) (u.ak : Int) rfl
          rw [hLk] at hr hV9
          have d0 := hVp.c0
          have d1 := hVp.c1
          have hrH : Hid _ := hr
          have hV9H : Hid _ := hV9
          have hstep : Hid (stepV (natsOf B) B.length u = ⟨s1, u.ak, u.ax, u.la, u.L ++ [(u.ak, u.ax)]⟩) := (by unfold stepV; rw [e1]; rfl : stepV (natsOf B) B.length u = ⟨s1, u.ak, u.ax, u.la, u.L ++ [(u.ak, u.ax)]⟩)
          clear hC hVH hR5 hF5 hVp hr hV9 e1
          go_wp2_with (at_builtin; (refine wpList_append_run2 (by rfl) _ _ _ _ (by rfl) _ _ _ _ (by rfl) (by rfl) hrH.out ?_; clear hrH))
          go_roundw
          case rel =>
            refine ⟨k + 1, by omega, by go_num, ?_, ?_, ?_⟩
            · rw [hnext.out, hstep.out]
            · rw [hnext.out, hstep.out]; simp; omega
            · rw [hnext.out, hstep.out]; exact hV9H.out
          case measure => simp [intOf]; omega

        · refine Calls.mono hC.out ?_
          rintro e w5 ⟨rfl, hR5, hF5⟩
          have hV5 := hVH.out.rd hR5 hF5
          clear hC hVH hR5 hF5
          rcases qb_bit hV5.rb with ⟨s2, e2, hC⟩ | ⟨s2, e2, hC⟩
          · have hV5H : Hid _ := hV5
            clear hV5
            go_wp2_with fail
            refine Calls.mono hC.out ?_
            rintro e w6 ⟨rfl, hR6, hF6⟩
            have hV6 := hV5H.out.rd hR6 hF6
            obtain ⟨c6, s3, e3, h6, hS⟩ := qb_bitsL hV6.rb 6 6 rfl (by omega)
            have h6' : c6 < 64 := h6
            have hV6H : Hid _ := hV6
            clear hC hV5H hR6 hF6 hV6
            go_wp2_with fail
            refine Calls.mono hS.out ?_
            rintro e w7 ⟨rfl, hR7, hF7⟩
            have hV7 := hV6H.out.rd hR7 hF7
            obtain ⟨v, s4, e4, h7, hT⟩ := qb_bitsL hV7.rb ((c6 : Int) + 1) (c6 + 1) (by omega) (by omega)
            have hv64 : v < 18446744073709551616 := two64 (c6 + 1) v (by omega) h7
            have hV7H : Hid _ := hV7
            clear hS hV6H hR7 hF7 hV7
            go_wp2_with fail
            refine Calls.mono hT.out ?_
            rintro e w8 ⟨rfl, hR8, hF8⟩
            have hV8 := hV7H.out.rd hR8 hF8
            have hU : Hid _ := dUnfold v hv64 w8
            have hd := unfoldN_rg v hv64
            obtain ⟨d, hdd⟩ : ∃ d, d = unfoldN v := ⟨_, rfl⟩
            rw [← hdd] at hd
            have hddH : Hid _ := hdd
            have hV8H : Hid _ := hV8
            clear hT hV7H hR8 hF8 hV8 hdd
            go_wp2_with fail
            refine Calls.mono hU.out ?_
            rintro e w9 ⟨rfl, hw⟩
            have hw' := hw.symm
            subst hw'
            clear hw hU
            rw [← hddH.out]
            have f0 := hV8H.out.f0
            have f1 := hV8H.out.f1
            have d0 := hV8H.out.c0
            have d1 := hV8H.out.c1
            obtain ⟨g, c, w9, hr, hV9⟩ := hV8H.out.putApp (by omega) 0 (wrap64 (u.la + d)) 0 rfl
            rw [hLk] at hr hV9
            have hrH : Hid _ := hr
            have hV9H : Hid _ := hV9
            have hstep : Hid (stepV (natsOf B) B.length u = ⟨s4, 0, wrap64 (u.la + d), wrap64 (u.la + d), u.L ++ [(0, wrap64 (u.la + d))]⟩) := (by unfold stepV stepT; rw [e1, if_neg (by simp), e2, if_pos rfl]; simp only [e3, e4, ← hddH.out] : stepV (natsOf B) B.length u = ⟨s4, 0, wrap64 (u.la + d), wrap64 (u.la + d), u.L ++ [(0, wrap64 (u.la + d))]⟩)
            clear hV8H hr hV9 e1 e2 e3 e4 hddH
            have hsw := dsum_wrap u.la d
            go_wp2_with (at_builtin; (refine wpList_append_run2 (by rfl) _ _ _ _ (by rfl) _ _ _ _ (by rfl) (by rfl) hrH.out ?_; clear hrH))
            go_roundw
            case rel =>
              refine ⟨k + 1, by omega, by go_num, ?_, ?_, ?_⟩
              · rw [hnext.out, hstep.out]
              · rw [hnext.out, hstep.out]; simp; omega
              · rw [hnext.out, hstep.out]; exact hV9H.out
            case measure => simp [intOf]; omega

          · have hV5H : Hid _ := hV5
            clear hV5
            go_wp2_with fail
            refine Calls.mono hC.out ?_
            rintro e w6 ⟨rfl, hR6, hF6⟩
            have hV6 := hV5H.out.rd hR6 hF6
            clear hC hV5H hR6 hF6
            rcases qb_bit hV6.rb with ⟨s3, e3, hC⟩ | ⟨s3, e3, hC⟩
            · have hV6H : Hid _ := hV6
              clear hV6
              go_wp2_with fail
              refine Calls.mono hC.out ?_
              rintro e w7 ⟨rfl, hR7, hF7⟩
              have hV7 := hV6H.out.rd hR7 hF7
              have f0 := hV7.f0
              have f1 := hV7.f1
              have d0 := hV7.c0
              have d1 := hV7.c1
              obtain ⟨g, c, w9, hr, hV9⟩ := hV7.putApp (by omega) 1 0 1 rfl
              rw [hLk] at hr hV9
              have hrH : Hid _ := hr
              have hV9H : Hid _ := hV9
              have hstep : Hid (stepV (natsOf B) B.length u = ⟨s3, 1, 0, u.la, u.L ++ [(1, 0)]⟩) := (by unfold stepV; rw [e1, if_neg (by simp), e2, if_neg (by simp), e3]; rfl : stepV (natsOf B) B.length u = ⟨s3, 1, 0, u.la, u.L ++ [(1, 0)]⟩)
              clear hC hV6H hR7 hF7 hV7 hr hV9 e1 e2 e3
              go_wp2_with (at_builtin; (refine wpList_append_run2 (by rfl) _ _ _ _ (by rfl) _ _ _ _ (by rfl) (by rfl) hrH.out ?_; clear hrH))
              go_roundw
              case rel =>
                refine ⟨k + 1, by omega, by go_num, ?_, ?_, ?_⟩
                · rw [hnext.out, hstep.out]
                · rw [hnext.out, hstep.out]; simp; omega
                · rw [hnext.out, hstep.out]; exact hV9H.out
              case measure => simp [intOf]; omega
            · have hV6H : Hid _ := hV6
              clear hV6
              go_wp2_with fail
              refine Calls.mono hC.out ?_
              rintro e w7 ⟨rfl, hR7, hF7⟩
              have hV7 := hV6H.out.rd hR7 hF7
              have f0 := hV7.f0
              have f1 := hV7.f1
              have d0 := hV7.c0
              have d1 := hV7.c1
              obtain ⟨g, c, w9, hr, hV9⟩ := hV7.putApp (by omega) 2 0 2 rfl
              rw [hLk] at hr hV9
              have hrH : Hid _ := hr
              have hV9H : Hid _ := hV9
              have hstep : Hid (stepV (natsOf B) B.length u = ⟨s3, 2, 0, u.la, u.L ++ [(2, 0)]⟩) := (by unfold stepV; rw [e1, if_neg (by simp), e2, if_neg (by simp), e3]; rfl : stepV (natsOf B) B.length u = ⟨s3, 2, 0, u.la, u.L ++ [(2, 0)]⟩)
              clear hC hV6H hR7 hF7 hV7 hr hV9 e1 e2 e3
              go_wp2_with (at_builtin; (refine wpList_append_run2 (by rfl) _ _ _ _ (by rfl) _ _ _ _ (by rfl) (by rfl) hrH.out ?_; clear hrH))
              go_roundw
              case rel =>
                refine ⟨k + 1, by omega, by go_num, ?_, ?_, ?_⟩
                · rw [hnext.out, hstep.out]
                · rw [hnext.out, hstep.out]; simp; omega
                · rw [hnext.out, hstep.out]; exact hV9H.out
              case measure => simp [intOf]; omega
      · have hsome : u.s.fv.isSome = true := by
          cases hh : u.s.fv with
          | none => exact absurd hh hfv
          | some x => rfl
        obtain ⟨x, hx⟩ := Option.isSome_iff_exists.1 hsome
        have hlast2 : Hid (lastV (natsOf B) B.length = u) := (by
          rw [hlast.out, hu, show cn = k + (cn - k) by omega]; exact readV_stay (by rw [← hu]; exact hsome) _ : lastV (natsOf B) B.length = u)
        have hx2 := hfe x hx
        rw [hx] at hfa
        obtain ⟨x1, x2⟩ := x
        have hx2' : ¬ x2 = 0 := by intro h; subst h; simp at hx2
        have hVq : Hid _ := hV
        have huH : Hid _ := hu
        clear hV hu hfe hx2
        go_wp2_with fail
        refine Calls.mono hfa.out ?_
        rintro e w4 ⟨rfl, hB4⟩
        have hV4 : Hid _ := hVq.out.below hB4
        clear hfa hB4 hVq
        simp only [fvB, fcd, fpl, Option.isSome]
        go_wp2_with fail
        have hV := hV4.out
        have hu := huH.out
        clear hV4 huH hfv hsome hx hx2'
        have hD : Hid _ := dDone_rf hV.rb
        have hok := (readV_ok (natsOf B) B.length s0 k)
        rw [← hu] at hok
        have hokH : Hid _ := hok
        have hLn : u.L.length ≤ 1048576 := by omega
        have hown : Hid _ := hV.own
        have hNz := hV.hN
        have hwr := hV.hz
        have hbN : Hid (Below w0.heap.size w0 _) := QR.b hV.rb
        have hfe2 := doneF_fe (bs := natsOf B) (n := B.length) (p := u.s.p) (r := u.s.r) (QR.fe hV.rb)
        clear hV hok hu hLk
        go_wp2_with fail
        refine Calls.mono hD.out ?_
        rintro e w5 ⟨rfl, hB5, hF5⟩
        have hB05 : Below w0.heap.size w0 w5 := hbN.out.trans hB5
        have hBw5 : Below w.heap.size w w5 := hB0.trans (hB05.mono (Nat.le_of_lt hql))
        have hz5 := hz0H.out.of (hB05.block w.heap.size hql)
        have hq5 : w.heap.size < w5.heap.size := Nat.lt_of_lt_of_le hql hB05.size
        have hown5 := own_RF hown.out hF5 (by omega)
        clear hD hB5 hF5 hown hbN
        cases hdn : doneF (natsOf B) B.length u.s.p u.s.r u.s.fv with
        | some x =>
          have hdH : Hid _ := hdn
          have hx2 := hfe2 x hdn
          obtain ⟨x1, x2⟩ := x
          have hx2' : ¬ x2 = 0 := by intro h; subst h; simp at hx2
          obtain ⟨z0, z1, z2, z3, z4, y0, y1, y2, y3, y4⟩ := hz5
          have hBw5H : Hid _ := hBw5
          clear hown5 hdn hfe2 hBw5 hB05 hz0H
          simp only [fvB, fcd, fpl, Option.isSome]
          go_wp2_with fail
          go_region_with (fail)
          all_goals
            go_wp2_with fail
            simp [bodyPost, results, Tryz.results42, go_sem, z0, z1, z2, z3, z4, y0, y1, y2, y3, y4, World.cell?_alloc_lt, hq5]
            exact ⟨UnVE.fault hlast2.out hdH.out rfl, (below_new (bad_put w w5 hBw5H.out _ _ _ _ _) _).drew⟩
        | none =>
          have hdH : Hid _ := hdn
          have hpos : 0 < B.length := by
            rcases Nat.eq_zero_or_pos B.length with h0 | h0
            · exact absurd hdn (by rw [← hlast2.out]; exact lastV_empty _ _ h0)
            · exact h0
          have hBz := below_new (Below.refl _ w5) (.cells #[.int .i64 0, .int .i64 0, .int .i64 0, .bool false, .bool false] 31)
          have hown6 := hown5.alloc (.cells #[.int .i64 0, .int .i64 0, .int .i64 0, .bool false, .bool false] 31)
          have hrow := own_row hown6
          obtain ⟨la, lc, hl5, hVI⟩ := own_VIn hown6 hLn (fun i => (okL_rg hokH.out.L i).2)
          subst hl5
          have hlg : Hid (u.L.length = 0 ∨ ∃ g o, la = some ⟨g, o, none⟩ ∧ w.heap.size < g) := (by
            rcases hrow with h0 | ⟨g, c, e, hg⟩
            · exact Or.inl h0
            · injection e with e1; exact Or.inr ⟨g, 0, e1, by omega⟩ : u.L.length = 0 ∨ ∃ g o, la = some ⟨g, o, none⟩ ∧ w.heap.size < g)
          have hVa : Hid _ := dvalues_any la u.L.length lc (kkL u.L) (xxL u.L) _ hVI
          have hVIH : Hid _ := hVI
          have hz5H : Hid _ := hz5
          have hBw6 := below_then hBw5 hBz
          clear hown5 hdn hfe2 hB05 hz0H hown6 hrow hVI hz5
          simp only [fvB, fcd, fpl, Option.isSome]
          go_wp2_with fail
          refine Calls.mono hVa.out ?_
          rintro e w6 ⟨hE, hB6⟩
          clear hVa
          have hBw7 := below_then hBw6 hB6
          rcases hE with ⟨hx, _⟩ | ⟨_, hx, _⟩ | ⟨_, _, ga, gc, rfl, hin⟩
          · omega
          · exact absurd (fun i _ => (okL_rg hokH.out.L i).1) hx
          · have hvp : 0 < (valsS (kkL u.L) (xxL u.L) u.L.length u.L.length).s.1.length := valsS_pos _ _ _ _
            have hBz6 := below_new (Below.refl _ w6) (.cells #[.int .i64 0, .int .i64 0, .int .i64 0, .bool false, .bool false] 31)
            have hBw8 := below_then hBw7 hBz6
            have hq : Hid _ := dsame_in (c1 := gc) (c2 := bc) (hin.below hBz6) (hbH.out.below hBw8) hvp hpos
            have hF : Hid _ := docNew 90
            have hz6 := ((hz5H.out.of (hBz.block w.heap.size hq5)).of (hB6.block w.heap.size (by simp; omega)))
            have hq6 : w.heap.size < w6.heap.size := by have := hBw7.size; have := hB6.size; simp at this; omega
            have hz8 := hz6.of (hBz6.block w.heap.size hq6)
            have hVI8 := VIn.below (VIn.below hVIH.out hB6 (Nat.le_refl _)) hBz6 (Nat.le_refl _)
            obtain ⟨V, hV'⟩ : ∃ V, V = (valsS (kkL u.L) (xxL u.L) u.L.length u.L.length).s.1 := ⟨_, rfl⟩
            rw [← hV'] at hq hvp hin ⊢
            have e1 : bytesL (natsOf V) V.length = V := bytesL_nats V
            have hVH : Hid (V = (valsS (kkL u.L) (xxL u.L) u.L.length u.L.length).s.1) := hV'
            have hVI8H : Hid _ := hVI8
            have hz8H : Hid _ := hz8
            have hBw8H : Hid _ := hBw8
            have hzb : Hid _ := BZ.start w6
            clear hV' hin hVIH hz5H hBz hB6 hz6 hz8 hVI8 hBw8 hBw7 hBw6 hBw5 hBz6
            simp only [badV]
            go_wp2_with fail
            refine Calls.mono hq.out ?_
            rintro e w9 ⟨rfl, hw⟩
            subst hw
            clear hq hzb
            rw [e1]
            obtain ⟨w8, hw8⟩ : ∃ w8, w8 = w6.alloc (.cells #[.int .i64 0, .int .i64 0, .int .i64 0, .bool false, .bool false] 31) := ⟨_, rfl⟩
            have hVI8 := hVI8H.out
            have hz8 := hz8H.out
            have hBw8 := hBw8H.out
            have hq8 : w.heap.size < w8.heap.size := by rw [hw8]; simp; omega
            rw [← hw8] at hVI8 hz8 hBw8 ⊢
            have hVI9 : Hid _ := hVI8
            have hBw9 : Hid _ := hBw8
            by_cases hc : V = bytesL (natsOf B) B.length
            · rw [decide_eq_true hc]
              have hcH : Hid (V = bytesL (natsOf B) B.length) := hc
              obtain ⟨z0, z1, z2, z3, z4, y0, y1, y2, y3, y4⟩ := hz8
              clear hc hVI8H hz8H hBw8H hVI8 hBw8 hw8 hF e1
              go_wp2_with fail
              simp [bodyPost, results, Tryz.results42, go_sem, z0, z1, z2, z3, z4, y0, y1, y2, y3, y4, World.cell?_alloc_lt, hq8]
              exact ⟨UnVE.good hlast2.out hdH.out (by rw [← hVH.out]; exact hcH.out) rfl (vin_z hlg.out (vin_z hlg.out (vin_z hlg.out (vin_z hlg.out (vin_z hlg.out hVI9.out))))), bad_put w w8 hBw9.out _ _ _ _ _⟩
            · rw [decide_eq_false hc]
              have hcH : Hid (V ≠ bytesL (natsOf B) B.length) := hc
              clear hc hVI8H hz8H hBw8H hVI8 hBw8 hw8 e1
              have hz8H : Hid _ := hz8
              clear hz8
              go_wp2_with fail
              refine Calls.mono (hF.out _) ?_
              rintro e w9 ⟨rfl, hB9⟩
              obtain ⟨z0, z1, z2, z3, z4, y0, y1, y2, y3, y4⟩ := hz8H.out.of (hB9.block w.heap.size hq8)
              have hBwA : Hid _ := below_then hBw9.out hB9
              have hq9 : w.heap.size < w9.heap.size := by have := hB9.size; omega
              clear hF hz8H hB9
              simp only [badV]
              go_wp2_with fail
              simp [bodyPost, results, Tryz.results42, go_sem, z0, z1, z2, z3, z4, y0, y1, y2, y3, y4, World.cell?_alloc_lt, hq9]
              exact ⟨UnVE.worse hlast2.out hdH.out (by rw [← hVH.out]; exact hcH.out) rfl, bad_put w w9 hBwA.out _ _ _ _ _⟩
    · obtain rfl : k = cn := by omega
      have hkI : ¬ (k : Int) < (k : Int) := by omega
      have hlast2 : Hid (lastV (natsOf B) B.length = u) := (by rw [hlast.out, hu] : lastV (natsOf B) B.length = u)
      have hD : Hid _ := dDone_rf hV.rb
      have hok := (readV_ok (natsOf B) B.length s0 k)
      rw [← hu] at hok
      have hokH : Hid _ := hok
      have hLn : u.L.length ≤ 1048576 := by omega
      have hown : Hid _ := hV.own
      have hNz := hV.hN
      have hwr := hV.hz
      have hbN : Hid (Below w0.heap.size w0 _) := QR.b hV.rb
      have hfe2 := doneF_fe (bs := natsOf B) (n := B.length) (p := u.s.p) (r := u.s.r) (QR.fe hV.rb)
      clear hV hok hu hLk
      go_wp2_with fail
      refine Calls.mono hD.out ?_
      rintro e w5 ⟨rfl, hB5, hF5⟩
      have hB05 : Below w0.heap.size w0 w5 := hbN.out.trans hB5
      have hBw5 : Below w.heap.size w w5 := hB0.trans (hB05.mono (Nat.le_of_lt hql))
      have hz5 := hz0H.out.of (hB05.block w.heap.size hql)
      have hq5 : w.heap.size < w5.heap.size := Nat.lt_of_lt_of_le hql hB05.size
      have hown5 := own_RF hown.out hF5 (by omega)
      clear hD hB5 hF5 hown hbN
      cases hdn : doneF (natsOf B) B.length u.s.p u.s.r u.s.fv with
      | some x =>
        have hdH : Hid _ := hdn
        have hx2 := hfe2 x hdn
        obtain ⟨x1, x2⟩ := x
        have hx2' : ¬ x2 = 0 := by intro h; subst h; simp at hx2
        obtain ⟨z0, z1, z2, z3, z4, y0, y1, y2, y3, y4⟩ := hz5
        have hBw5H : Hid _ := hBw5
        clear hown5 hdn hfe2 hBw5 hB05 hz0H
        simp only [fvB, fcd, fpl, Option.isSome]
        go_wp2_with fail
        go_region_with (fail)
        all_goals
          go_wp2_with fail
          simp [bodyPost, results, Tryz.results42, go_sem, z0, z1, z2, z3, z4, y0, y1, y2, y3, y4, World.cell?_alloc_lt, hq5]
          exact ⟨UnVE.fault hlast2.out hdH.out rfl, (below_new (bad_put w w5 hBw5H.out _ _ _ _ _) _).drew⟩
      | none =>
        have hdH : Hid _ := hdn
        have hpos : 0 < B.length := by
          rcases Nat.eq_zero_or_pos B.length with h0 | h0
          · exact absurd hdn (by rw [← hlast2.out]; exact lastV_empty _ _ h0)
          · exact h0
        have hBz := below_new (Below.refl _ w5) (.cells #[.int .i64 0, .int .i64 0, .int .i64 0, .bool false, .bool false] 31)
        have hown6 := hown5.alloc (.cells #[.int .i64 0, .int .i64 0, .int .i64 0, .bool false, .bool false] 31)
        have hrow := own_row hown6
        obtain ⟨la, lc, hl5, hVI⟩ := own_VIn hown6 hLn (fun i => (okL_rg hokH.out.L i).2)
        subst hl5
        have hlg : Hid (u.L.length = 0 ∨ ∃ g o, la = some ⟨g, o, none⟩ ∧ w.heap.size < g) := (by
          rcases hrow with h0 | ⟨g, c, e, hg⟩
          · exact Or.inl h0
          · injection e with e1; exact Or.inr ⟨g, 0, e1, by omega⟩ : u.L.length = 0 ∨ ∃ g o, la = some ⟨g, o, none⟩ ∧ w.heap.size < g)
        have hVa : Hid _ := dvalues_any la u.L.length lc (kkL u.L) (xxL u.L) _ hVI
        have hVIH : Hid _ := hVI
        have hz5H : Hid _ := hz5
        have hBw6 := below_then hBw5 hBz
        clear hown5 hdn hfe2 hB05 hz0H hown6 hrow hVI hz5
        simp only [fvB, fcd, fpl, Option.isSome]
        go_wp2_with fail
        refine Calls.mono hVa.out ?_
        rintro e w6 ⟨hE, hB6⟩
        clear hVa
        have hBw7 := below_then hBw6 hB6
        rcases hE with ⟨hx, _⟩ | ⟨_, hx, _⟩ | ⟨_, _, ga, gc, rfl, hin⟩
        · omega
        · exact absurd (fun i _ => (okL_rg hokH.out.L i).1) hx
        · have hvp : 0 < (valsS (kkL u.L) (xxL u.L) u.L.length u.L.length).s.1.length := valsS_pos _ _ _ _
          have hBz6 := below_new (Below.refl _ w6) (.cells #[.int .i64 0, .int .i64 0, .int .i64 0, .bool false, .bool false] 31)
          have hBw8 := below_then hBw7 hBz6
          have hq : Hid _ := dsame_in (c1 := gc) (c2 := bc) (hin.below hBz6) (hbH.out.below hBw8) hvp hpos
          have hF : Hid _ := docNew 90
          have hz6 := ((hz5H.out.of (hBz.block w.heap.size hq5)).of (hB6.block w.heap.size (by simp; omega)))
          have hq6 : w.heap.size < w6.heap.size := by have := hBw7.size; have := hB6.size; simp at this; omega
          have hz8 := hz6.of (hBz6.block w.heap.size hq6)
          have hVI8 := VIn.below (VIn.below hVIH.out hB6 (Nat.le_refl _)) hBz6 (Nat.le_refl _)
          obtain ⟨V, hV'⟩ : ∃ V, V = (valsS (kkL u.L) (xxL u.L) u.L.length u.L.length).s.1 := ⟨_, rfl⟩
          rw [← hV'] at hq hvp hin ⊢
          have e1 : bytesL (natsOf V) V.length = V := bytesL_nats V
          have hVH : Hid (V = (valsS (kkL u.L) (xxL u.L) u.L.length u.L.length).s.1) := hV'
          have hVI8H : Hid _ := hVI8
          have hz8H : Hid _ := hz8
          have hBw8H : Hid _ := hBw8
          have hzb : Hid _ := BZ.start w6
          clear hV' hin hVIH hz5H hBz hB6 hz6 hz8 hVI8 hBw8 hBw7 hBw6 hBw5 hBz6
          simp only [badV]
          go_wp2_with fail
          refine Calls.mono hq.out ?_
          rintro e w9 ⟨rfl, hw⟩
          subst hw
          clear hq hzb
          rw [e1]
          obtain ⟨w8, hw8⟩ : ∃ w8, w8 = w6.alloc (.cells #[.int .i64 0, .int .i64 0, .int .i64 0, .bool false, .bool false] 31) := ⟨_, rfl⟩
          have hVI8 := hVI8H.out
          have hz8 := hz8H.out
          have hBw8 := hBw8H.out
          have hq8 : w.heap.size < w8.heap.size := by rw [hw8]; simp; omega
          rw [← hw8] at hVI8 hz8 hBw8 ⊢
          have hVI9 : Hid _ := hVI8
          have hBw9 : Hid _ := hBw8
          by_cases hc : V = bytesL (natsOf B) B.length
          · rw [decide_eq_true hc]
            have hcH : Hid (V = bytesL (natsOf B) B.length) := hc
            obtain ⟨z0, z1, z2, z3, z4, y0, y1, y2, y3, y4⟩ := hz8
            clear hc hVI8H hz8H hBw8H hVI8 hBw8 hw8 hF e1
            go_wp2_with fail
            simp [bodyPost, results, Tryz.results42, go_sem, z0, z1, z2, z3, z4, y0, y1, y2, y3, y4, World.cell?_alloc_lt, hq8]
            exact ⟨UnVE.good hlast2.out hdH.out (by rw [← hVH.out]; exact hcH.out) rfl (vin_z hlg.out (vin_z hlg.out (vin_z hlg.out (vin_z hlg.out (vin_z hlg.out hVI9.out))))), bad_put w w8 hBw9.out _ _ _ _ _⟩
          · rw [decide_eq_false hc]
            have hcH : Hid (V ≠ bytesL (natsOf B) B.length) := hc
            clear hc hVI8H hz8H hBw8H hVI8 hBw8 hw8 e1
            have hz8H : Hid _ := hz8
            clear hz8
            go_wp2_with fail
            refine Calls.mono (hF.out _) ?_
            rintro e w9 ⟨rfl, hB9⟩
            obtain ⟨z0, z1, z2, z3, z4, y0, y1, y2, y3, y4⟩ := hz8H.out.of (hB9.block w.heap.size hq8)
            have hBwA : Hid _ := below_then hBw9.out hB9
            have hq9 : w.heap.size < w9.heap.size := by have := hB9.size; omega
            clear hF hz8H hB9
            simp only [badV]
            go_wp2_with fail
            simp [bodyPost, results, Tryz.results42, go_sem, z0, z1, z2, z3, z4, y0, y1, y2, y3, y4, World.cell?_alloc_lt, hq9]
            exact ⟨UnVE.worse hlast2.out hdH.out (by rw [← hVH.out]; exact hcH.out) rfl, bad_put w w9 hBwA.out _ _ _ _ _⟩
end Go.Proofs.YtpicgjjbpiinfaaGreatDoor
