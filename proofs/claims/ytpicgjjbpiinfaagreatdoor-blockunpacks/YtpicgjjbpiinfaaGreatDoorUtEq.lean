
import Derived.Test.YtpicgjjbpiinfaaGreatDoorUtDq
namespace Go.Proofs.YtpicgjjbpiinfaaGreatDoor
open Go.RowKit
set_option linter.unusedVariables false
set_option linter.unusedSimpArgs false
theorem readT_last (bs : Nat → Nat) (n : Nat) (s0 : PS) : ∀ k, (readT bs n s0 k).L ≠ [] → ttL (readT bs n s0 k).L ((readT bs n s0 k).L.length - 1) = (readT bs n s0 k).la := by
  intro k
  induction k with
  | zero => intro h; exact absurd rfl h
  | succ k ih =>
    have e : readT bs n s0 (k + 1) = if (readT bs n s0 k).s.fv.isSome then readT bs n s0 k else timeT bs n k (readT bs n s0 k) := rfl
    rw [e]
    split
    · exact ih
    · intro _
      have app : ∀ (L : List Int) (x : Int), ttL (L ++ [x]) ((L ++ [x]).length - 1) = x := fun L x => by unfold ttL; simp [List.getD_eq_getElem?_getD]
      unfold timeT
      split
      · exact app _ _
      · split
        · exact app _ _
        · exact app _ _
theorem isin_z {W : World} {q j m : Nat} {x : Value} {a : Option Addr} {z : Nat → Int} (hne : m = 0 ∨ ∃ g o, a = some ⟨g, o, none⟩ ∧ q < g) (h : IsIn W a m z) : IsIn (W.setCell ⟨q, j, none⟩ x) a m z := by
  obtain ⟨h1, h2, h3⟩ := h
  refine ⟨h1, h2, ?_⟩
  rcases h3 with h0 | ⟨b, off, e, hb, hc⟩
  · exact Or.inl h0
  · rcases hne with h0 | ⟨g, o, e2, hg⟩
    · exact Or.inl h0
    · have eb : b = g := by rw [e] at e2; injection e2 with e2; injection e2
      exact Or.inr ⟨b, off, e, by simpa using hb, fun i hi => by rw [World.cell?_setCell_other _ _ _ _ (by intro h; injection h with h1; omega)]; exact hc i hi⟩
set_option maxRecDepth 100000 in
set_option maxHeartbeats 8000000 in
theorem dUnTimes_any (ba : Option Addr) (bc : Nat) (B : List Nat) (w : World) (h : BytesIn w ba B.length (natsOf B)) : Calls Tryz.prog 7 #[.slice ba B.length bc] w fun e w' => UnTE (natsOf B) B.length fvB (badV 90) (badV 0) e w' ∧ Below w.heap.size w w' := by
  have e6 := fieldBad
  have hz0 := BZ.start w
  have hB0 := below_new (Below.refl _ w) (.cells #[.int .i64 0, .int .i64 0, .int .i64 0, .bool false, .bool false] 31)
  have hql : w.heap.size < (w.alloc (.cells #[.int .i64 0, .int .i64 0, .int .i64 0, .bool false, .bool false] 31)).heap.size := by simp
  have hbH : Hid (BytesIn w ba B.length (natsOf B)) := h
  obtain ⟨w0, hw0⟩ : ∃ w0, w0 = w.alloc (.cells #[.int .i64 0, .int .i64 0, .int .i64 0, .bool false, .bool false] 31) := ⟨_, rfl⟩
  have hN : Hid _ := dNew_any ba B.length bc (natsOf B) w0 (by rw [hw0]; exact h.below hB0)
  clear h
  go_enter Tryz.func7, Tryz.ntmps7
  go_wp2_with fail
  rw [← hw0] at hz0 hB0 hql ⊢
  have hz0H : Hid (BZ w.heap.size w0) := hz0
  clear hz0 hw0
  refine Calls.mono hN.out ?_
  rintro e w2 ⟨rfl, ⟨a, cap, hR, _⟩, hB2⟩
  obtain ⟨cn, s0, hcs, hcn, hcnt⟩ := qb_uintL (s := ⟨0, 0, none⟩) hR 1048576 (by omega)
  have hlast : Hid (lastT (natsOf B) B.length = readT (natsOf B) B.length s0 cn) := (by unfold lastT; rw [hcs] : lastT (natsOf B) B.length = readT (natsOf B) B.length s0 cn)
  clear hN hR hcs
  go_wp2_with fail
  refine Calls.mono hcnt.out ?_
  rintro e w3 ⟨rfl, hR3, hF3⟩
  have hV3 : Hid _ := TQ.start hR3
  clear hcnt hR3 hF3
  go_wp2_with fail
  go_loopw [6, 7, 8] (fun l gp i wr => ∃ k : Nat, k ≤ cn ∧ i = .int .i64 (k : Int) ∧ gp = .int .u64 ((readT (natsOf B) B.length s0 k).gap : Int) ∧ (readT (natsOf B) B.length s0 k).L.length = k ∧ TQ w0.heap.size w0 a B.length cap (natsOf B) w3.heap.size (readT (natsOf B) B.length s0 k).s (readT (natsOf B) B.length s0 k).L l wr) (fun _ _ i _ => cn - (intOf i).toNat)
  case atStart => exact ⟨0, by omega, rfl, rfl, rfl, hV3.out⟩
  case round =>
    clear hV3
    obtain ⟨k, hk, rfl, rfl, hLk, hV⟩ := hrel
    obtain ⟨u, hu⟩ : ∃ u, u = readT (natsOf B) B.length s0 k := ⟨_, rfl⟩
    rw [← hu] at hV hLk ⊢
    by_cases hkn : k < cn
    · have hkI : (k : Int) < (cn : Int) := by omega
      have hfa : Hid _ := dFault_gen hV.rb
      have hfe := QR.fe hV.rb
      by_cases hfv : u.s.fv = none
      · rw [hfv] at hfa
        have hnext : Hid (readT (natsOf B) B.length s0 (k + 1) = timeT (natsOf B) B.length k u) := (by
          show (if (readT (natsOf B) B.length s0 k).s.fv.isSome then _ else _) = _
          rw [← hu, hfv]; rfl : readT (natsOf B) B.length s0 (k + 1) = timeT (natsOf B) B.length k u)
        have hV0 : Hid _ := hV
        have hLkH : Hid (u.L.length = k) := hLk
        have hok := readT_ok (natsOf B) B.length s0 k
        have hlst := readT_last (natsOf B) B.length s0 k
        rw [← hu] at hok hlst
        obtain ⟨hgp, hla, _⟩ := hok
        clear hV hu hfe
        go_wp2_with fail
        refine Calls.mono hfa.out ?_
        rintro e w4 ⟨rfl, hB4⟩
        have hVH : Hid _ := hV0.out.below hB4
        clear hfa hB4 hV0
        simp only [fvB, fcd, fpl, Option.isSome]
        have hk3 : k = 0 ∨ k = 1 ∨ 2 ≤ k := by omega
        rcases hk3 with rfl | rfl | hk2
        · simp only [show ((0 : Nat) : Int) = 0 from rfl]
          obtain ⟨v, s1, e1, hv, hC⟩ : ∃ v s1, uintT (natsOf B) B.length 18446744073709551615 u.s = (s1, v) ∧ v < 18446744073709551616 ∧ Hid (Calls Tryz.prog 28 #[.pointer (some ⟨w0.heap.size, 0, none⟩)] w4 fun e w' => e = .returned (.int .i64 (unfoldN v)) ∧ QB w0.heap.size w0 a B.length cap (natsOf B) s1 w' ∧ RF w0.heap.size w4 w') := ⟨(uintT (natsOf B) B.length 18446744073709551615 u.s).2, (uintT (natsOf B) B.length 18446744073709551615 u.s).1, rfl, uintT_64 _ _ _, qb_int hVH.out.rb⟩
          obtain ⟨d, hdd⟩ : ∃ d, d = unfoldN v := ⟨_, rfl⟩
          have hstep : Hid (timeT (natsOf B) B.length 0 u = ⟨s1, u.gap, d, u.L ++ [d]⟩) := (by unfold timeT; rw [if_pos rfl, e1, hdd] : timeT (natsOf B) B.length 0 u = ⟨s1, u.gap, d, u.L ++ [d]⟩)
          have hddH : Hid _ := hdd
          clear e1 hdd hlst
          go_wp2_with fail
          refine Calls.mono hC.out ?_
          rintro e w5 ⟨rfl, hR5, hF5⟩
          rw [← hddH.out]
          have hV5 := hVH.out.rd hR5 hF5
          obtain ⟨g, c, w9, hr, hV9⟩ := hV5.app (by have := hLkH.out; omega) d
          rw [hLkH.out] at hr hV9
          have hrH : Hid _ := hr
          have hV9H : Hid _ := hV9
          clear hC hVH hR5 hF5 hV5 hr hV9 hddH
          go_wp2_with (at_builtin; (refine wpList_append_run2 (by rfl) _ _ _ _ (by rfl) _ _ _ _ (by rfl) (by rfl) hrH.out ?_; clear hrH))
          go_roundw
          case rel =>
            refine ⟨0 + 1, by omega, by first | rfl | go_num, ?_, ?_, ?_⟩
            · rw [hnext.out, hstep.out]
            · rw [hnext.out, hstep.out]; show (u.L ++ [_]).length = _; rw [List.length_append, hLkH.out]; rfl
            · rw [hnext.out, hstep.out]; exact hV9H.out
          case measure => simp [intOf]; omega
        · simp only [show ((1 : Nat) : Int) = 1 from rfl]
          obtain ⟨v, s1, e1, hv, hC⟩ := qb_uintL hVH.out.rb 18446744073709551615 (by omega)
          have hstep : Hid (timeT (natsOf B) B.length 1 u = ⟨s1, v, wrap64 (u.la + (v : Int)), u.L ++ [wrap64 (u.la + (v : Int))]⟩) := (by unfold timeT; rw [if_neg (by omega), if_pos rfl, e1] : timeT (natsOf B) B.length 1 u = ⟨s1, v, wrap64 (u.la + (v : Int)), u.L ++ [wrap64 (u.la + (v : Int))]⟩)
          clear e1
          simp only [show ((18446744073709551615 : Nat) : Int) = 18446744073709551615 from rfl] at hC
          have hlstH : Hid _ := hlst
          clear hlst
          go_wp2_with fail
          refine Calls.mono hC.out ?_
          rintro e w5 ⟨rfl, hR5, hF5⟩
          have hlst := hlstH.out
          have hV5 := hVH.out.rd hR5 hF5
          obtain ⟨g0, c0, hl0, hg0⟩ : ∃ g0 c0, u6 = .slice (some ⟨g0, 0, none⟩) 1 c0 ∧ w5.cell? ⟨g0, 0, none⟩ = some (.int .i64 u.la) := by
            have hrow := own_row hV5.own
            rw [hLkH.out] at hrow
            rcases hrow with h0 | ⟨g0, c0, e0, _⟩
            · omega
            · refine ⟨g0, c0, e0, ?_⟩
              have hcs := hV5.own.cells (g := g0) (by rw [e0]; rfl)
              have := hcs (0) _ (encI_get (ttL u.L) u.L.length (0) (by rw [hLkH.out]; omega))
              rw [add_none2, Nat.zero_add] at this
              rw [this]
              have hl1 := hlst (fun h => by rw [h] at hLkH; have := hLkH.out; simp at this; try omega)
              rw [hLkH.out] at hl1
              rw [hl1]

          subst hl0
          obtain ⟨g, c, w9, hr, hV9⟩ := hV5.app (by have := hLkH.out; omega) (wrap64 (u.la + (v : Int)))
          rw [hLkH.out] at hr hV9
          have hrH : Hid _ := hr
          have hV9H : Hid _ := hV9
          have k1 : wrap64 (IntKind.u64.wrap (IntKind.u64.wrap u.la + (v : Int))) = wrap64 (u.la + (v : Int)) := by rw [IntKind.wrap_u64, IntKind.wrap_u64]; unfold wrap64; omega
          clear hC hVH hR5 hF5 hV5 hr hV9 hlst hlstH
          go_wp2_with (at_builtin; (refine wpList_append_run2 (by rfl) _ _ _ _ (by rfl) _ _ _ _ (by rfl) (by rfl) hrH.out ?_; clear hrH))
          go_roundw
          case rel =>
            refine ⟨1 + 1, by omega, by first | rfl | go_num, ?_, ?_, ?_⟩
            · rw [hnext.out, hstep.out]
            · rw [hnext.out, hstep.out]; show (u.L ++ [_]).length = _; rw [List.length_append, hLkH.out]; rfl
            · rw [hnext.out, hstep.out]; exact hV9H.out
          case measure => simp [intOf]; omega
        · have hn0 : ¬ (k : Int) = 0 := by omega
          have hn1 : ¬ (k : Int) = 1 := by omega
          obtain ⟨d, s1, e1, hC⟩ : ∃ d s1, turnT (natsOf B) B.length u.s = (s1, d) ∧ Hid (Calls Tryz.prog 29 #[.pointer (some ⟨w0.heap.size, 0, none⟩)] w4 fun e w' => e = .returned (.int .u64 (d % 18446744073709551616)) ∧ QB w0.heap.size w0 a B.length cap (natsOf B) s1 w' ∧ RF w0.heap.size w4 w') := ⟨(turnT (natsOf B) B.length u.s).2, (turnT (natsOf B) B.length u.s).1, rfl, dstep_any hVH.out.rb⟩
          obtain ⟨G, hG⟩ : ∃ G : Nat, G = (((u.gap : Int) + d) % 18446744073709551616).toNat := ⟨_, rfl⟩
          have hGI : (G : Int) = ((u.gap : Int) + d) % 18446744073709551616 := by omega
          have hstep : Hid (timeT (natsOf B) B.length k u = ⟨s1, G, wrap64 (u.la + (G : Int)), u.L ++ [wrap64 (u.la + (G : Int))]⟩) := (by unfold timeT; rw [if_neg (by omega), if_neg (by omega), e1, hG] : timeT (natsOf B) B.length k u = ⟨s1, G, wrap64 (u.la + (G : Int)), u.L ++ [wrap64 (u.la + (G : Int))]⟩)
          clear e1 hG
          have hGH : Hid _ := hGI
          have hlstH : Hid _ := hlst
          clear hGI hlst
          go_wp2_with fail
          refine Calls.mono hC.out ?_
          rintro e w5 ⟨rfl, hR5, hF5⟩
          have hlst := hlstH.out
          have hV5 := hVH.out.rd hR5 hF5
          obtain ⟨g0, c0, hl0, hg0⟩ : ∃ g0 c0, u6 = .slice (some ⟨g0, 0, none⟩) k c0 ∧ w5.cell? ⟨g0, k - 1, none⟩ = some (.int .i64 u.la) := by
            have hrow := own_row hV5.own
            rw [hLkH.out] at hrow
            rcases hrow with h0 | ⟨g0, c0, e0, _⟩
            · omega
            · refine ⟨g0, c0, e0, ?_⟩
              have hcs := hV5.own.cells (g := g0) (by rw [e0]; rfl)
              have := hcs (k - 1) _ (encI_get (ttL u.L) u.L.length (k - 1) (by rw [hLkH.out]; omega))
              rw [add_none2, Nat.zero_add] at this
              rw [this]
              have hl1 := hlst (fun h => by rw [h] at hLkH; have := hLkH.out; simp at this; try omega)
              rw [hLkH.out] at hl1
              rw [hl1]

          subst hl0
          obtain ⟨g, c, w9, hr, hV9⟩ := hV5.app (by have := hLkH.out; omega) (wrap64 (u.la + (G : Int)))
          rw [hLkH.out] at hr hV9
          have hrH : Hid _ := hr
          have hV9H : Hid _ := hV9
          have k0 : IntKind.u64.wrap ((u.gap : Int) + d % 18446744073709551616) = (G : Int) := by rw [IntKind.wrap_u64, hGH.out]; omega
          have k1 : wrap64 (IntKind.u64.wrap (IntKind.u64.wrap u.la + (G : Int))) = wrap64 (u.la + (G : Int)) := by rw [IntKind.wrap_u64, IntKind.wrap_u64]; unfold wrap64; omega
          have k2 : (k : Int) - 1 = ((k - 1 : Nat) : Int) := by omega
          have k3 : ((k - 1 : Nat) : Int) < (k : Int) := by omega
          have k4 : (0 : Int) ≤ ((k - 1 : Nat) : Int) := by omega
          clear hC hVH hR5 hF5 hV5 hr hV9 hlst hlstH
          go_wp2_with (at_builtin; (refine wpList_append_run2 (by rfl) _ _ _ _ (by rfl) _ _ _ _ (by rfl) (by rfl) hrH.out ?_; clear hrH))
          go_roundw
          case rel =>
            refine ⟨k + 1, by omega, by first | rfl | go_num, ?_, ?_, ?_⟩
            · rw [hnext.out, hstep.out]
            · rw [hnext.out, hstep.out]; show (u.L ++ [_]).length = _; rw [List.length_append, hLkH.out]; rfl
            · rw [hnext.out, hstep.out]; exact hV9H.out
          case measure => simp [intOf]; omega
      · have hsome : u.s.fv.isSome = true := by
          cases hh : u.s.fv with
          | none => exact absurd hh hfv
          | some x => rfl
        obtain ⟨x, hx⟩ := Option.isSome_iff_exists.1 hsome
        have hlast2 : Hid (lastT (natsOf B) B.length = u) := (by
          rw [hlast.out, hu, show cn = k + (cn - k) by omega]; exact readT_stay (by rw [← hu]; exact hsome) _ : lastT (natsOf B) B.length = u)
        have hx2 := hfe x hx
        rw [hx] at hfa
        obtain ⟨x1, x2⟩ := x
        have hx2' : ¬ x2 = 0 := by intro h; subst h; simp at hx2
        have hVq : Hid _ := hV
        have huH : Hid _ := hu
        clear hV hu hfe hx2
        go_wp2_with fail
        refine Calls.mono hfa.out ?_
        rintro e w4 ⟨rfl, hB4⟩
        have hV4 : Hid _ := hVq.out.below hB4
        clear hfa hB4 hVq
        simp only [fvB, fcd, fpl, Option.isSome]
        go_wp2_with fail
        have hV := hV4.out
        have hu := huH.out
        clear hV4 huH hfv hsome hx hx2'
        have hD : Hid _ := dDone_rf hV.rb
        have hok := (readT_ok (natsOf B) B.length s0 k)
        rw [← hu] at hok
        have hokH : Hid _ := hok
        have hLn : u.L.length ≤ 1048576 := by omega
        have hown : Hid _ := hV.own
        have hNz := hV.hN
        have hwr := hV.hB
        have hbN : Hid (Below w0.heap.size w0 _) := QR.b hV.rb
        have hfe2 := doneF_fe (bs := natsOf B) (n := B.length) (p := u.s.p) (r := u.s.r) (QR.fe hV.rb)
        clear hV hok hu hLk
        go_wp2_with fail
        refine Calls.mono hD.out ?_
        rintro e w5 ⟨rfl, hB5, hF5⟩
        have hB05 : Below w0.heap.size w0 w5 := hbN.out.trans hB5
        have hBw5 : Below w.heap.size w w5 := hB0.trans (hB05.mono (Nat.le_of_lt hql))
        have hz5 := hz0H.out.of (hB05.block w.heap.size hql)
        have hq5 : w.heap.size < w5.heap.size := Nat.lt_of_lt_of_le hql hB05.size
        have hown5 := own_RF hown.out hF5 (by omega)
        clear hD hB5 hF5 hown hbN
        cases hdn : doneF (natsOf B) B.length u.s.p u.s.r u.s.fv with
        | some x =>
          have hdH : Hid _ := hdn
          have hx2 := hfe2 x hdn
          obtain ⟨x1, x2⟩ := x
          have hx2' : ¬ x2 = 0 := by intro h; subst h; simp at hx2
          obtain ⟨z0, z1, z2, z3, z4, y0, y1, y2, y3, y4⟩ := hz5
          have hBw5H : Hid _ := hBw5
          clear hown5 hdn hfe2 hBw5 hB05 hz0H
          simp only [fvB, fcd, fpl, Option.isSome]
          go_wp2_with fail
          go_region_with (fail)
          all_goals
            go_wp2_with fail
            simp [bodyPost, results, Tryz.results7, go_sem, z0, z1, z2, z3, z4, y0, y1, y2, y3, y4, World.cell?_alloc_lt, hq5]
            exact ⟨UnTE.fault hlast2.out hdH.out rfl, (below_new (bad_put w w5 hBw5H.out _ _ _ _ _) _).drew⟩
        | none =>
          have hdH : Hid _ := hdn
          have hpos : 0 < B.length := by
            rcases Nat.eq_zero_or_pos B.length with h0 | h0
            · exact absurd hdn (by rw [← hlast2.out]; exact lastT_empty _ _ h0)
            · exact h0
          have hBz := below_new (Below.refl _ w5) (.cells #[.int .i64 0, .int .i64 0, .int .i64 0, .bool false, .bool false] 31)
          have hown6 := hown5.alloc (.cells #[.int .i64 0, .int .i64 0, .int .i64 0, .bool false, .bool false] 31)
          have hrow := own_row hown6
          obtain ⟨la, lc, hl5, hVI⟩ := own_IsIn hown6 hLn (ttL_rg hokH.out.L)
          subst hl5
          have hlg : Hid (u.L.length = 0 ∨ ∃ g o, la = some ⟨g, o, none⟩ ∧ w.heap.size < g) := (by
            rcases hrow with h0 | ⟨g, c, e, hg⟩
            · exact Or.inl h0
            · injection e with e1; exact Or.inr ⟨g, 0, e1, by omega⟩ : u.L.length = 0 ∨ ∃ g o, la = some ⟨g, o, none⟩ ∧ w.heap.size < g)
          have hVa : Hid _ := dtimes_any la u.L.length lc (ttL u.L) _ hVI
          have hVIH : Hid _ := hVI
          have hz5H : Hid _ := hz5
          have hBw6 := below_then hBw5 hBz
          clear hown5 hdn hfe2 hB05 hz0H hown6 hrow hVI hz5
          simp only [fvB, fcd, fpl, Option.isSome]
          go_wp2_with fail
          refine Calls.mono hVa.out ?_
          rintro e w6 ⟨hE, hB6⟩
          clear hVa
          have hBw7 := below_then hBw6 hB6
          rcases hE with ⟨hx, _⟩ | ⟨_, hx, rfl⟩ | ⟨_, hrs, ga, gc, rfl, hin⟩
          · omega
          · have hcH : Hid (¬ (Rises (ttL u.L) u.L.length ∧ (timesS (ttL u.L) u.L.length u.L.length).1 = bytesL (natsOf B) B.length)) := (fun h => hx h.1 : ¬ (Rises (ttL u.L) u.L.length ∧ (timesS (ttL u.L) u.L.length u.L.length).1 = bytesL (natsOf B) B.length))
            have hz6 := ((hz5H.out.of (hBz.block w.heap.size hq5)).of (hB6.block w.heap.size (by simp; omega)))
            have hq6 : w.heap.size < w6.heap.size := by have := hBw7.size; have := hB6.size; simp at this; omega
            have hBz6 := below_new (Below.refl _ w6) (.cells #[.int .i64 2, .int .i64 0, .int .i64 0, .bool false, .bool false] 31)
            have hBw8 : Hid _ := below_then hBw7 hBz6
            have hz8 : Hid _ := hz6.of (hBz6.block w.heap.size hq6)
            have hq8 : w.heap.size < (w6.alloc (.cells #[.int .i64 2, .int .i64 0, .int .i64 0, .bool false, .bool false] 31)).heap.size := by simp; omega
            have hF : Hid _ := docNew 90
            clear hx hVIH hz5H hBz hB6 hz6 hBw7 hBw6 hBw5 hBz6
            simp only [badV]
            go_wp2_with fail
            refine Calls.mono (hF.out _) ?_
            rintro e w9 ⟨rfl, hB9⟩
            obtain ⟨z0, z1, z2, z3, z4, y0, y1, y2, y3, y4⟩ := hz8.out.of (hB9.block w.heap.size hq8)
            have hBwA : Hid _ := below_then hBw8.out hB9
            have hq9 : w.heap.size < w9.heap.size := by have := hB9.size; omega
            clear hF hz8 hB9
            simp only [badV]
            go_wp2_with fail
            simp [bodyPost, results, Tryz.results7, go_sem, z0, z1, z2, z3, z4, y0, y1, y2, y3, y4, World.cell?_alloc_lt, hq9]
            exact ⟨UnTE.worse hlast2.out hdH.out hcH.out rfl, bad_put w w9 hBwA.out _ _ _ _ _⟩
          · have hrsH : Hid (Rises (ttL u.L) u.L.length) := hrs
            clear hrs
            have hvp : 0 < (timesS (ttL u.L) u.L.length u.L.length).1.length := timesS_pos _ _ _
            have hBz6 := below_new (Below.refl _ w6) (.cells #[.int .i64 0, .int .i64 0, .int .i64 0, .bool false, .bool false] 31)
            have hBw8 := below_then hBw7 hBz6
            have hq : Hid _ := dsame_in (c1 := gc) (c2 := bc) (hin.below hBz6) (hbH.out.below hBw8) hvp hpos
            have hF : Hid _ := docNew 90
            have hz6 := ((hz5H.out.of (hBz.block w.heap.size hq5)).of (hB6.block w.heap.size (by simp; omega)))
            have hq6 : w.heap.size < w6.heap.size := by have := hBw7.size; have := hB6.size; simp at this; omega
            have hz8 := hz6.of (hBz6.block w.heap.size hq6)
            have hVI8 := IsIn.below (IsIn.below hVIH.out hB6 (Nat.le_refl _)) hBz6 (Nat.le_refl _)
            obtain ⟨V, hV'⟩ : ∃ V, V = (timesS (ttL u.L) u.L.length u.L.length).1 := ⟨_, rfl⟩
            rw [← hV'] at hq hvp hin ⊢
            have e1 : bytesL (natsOf V) V.length = V := bytesL_nats V
            have hVH : Hid (V = (timesS (ttL u.L) u.L.length u.L.length).1) := hV'
            have hVI8H : Hid _ := hVI8
            have hz8H : Hid _ := hz8
            have hBw8H : Hid _ := hBw8
            have hzb : Hid _ := BZ.start w6
            clear hV' hin hVIH hz5H hBz hB6 hz6 hz8 hVI8 hBw8 hBw7 hBw6 hBw5 hBz6
            simp only [badV]
            go_wp2_with fail
            refine Calls.mono hq.out ?_
            rintro e w9 ⟨rfl, hw⟩
            subst hw
            clear hq hzb
            rw [e1]
            obtain ⟨w8, hw8⟩ : ∃ w8, w8 = w6.alloc (.cells #[.int .i64 0, .int .i64 0, .int .i64 0, .bool false, .bool false] 31) := ⟨_, rfl⟩
            have hVI8 := hVI8H.out
            have hz8 := hz8H.out
            have hBw8 := hBw8H.out
            have hq8 : w.heap.size < w8.heap.size := by rw [hw8]; simp; omega
            rw [← hw8] at hVI8 hz8 hBw8 ⊢
            have hVI9 : Hid _ := hVI8
            have hBw9 : Hid _ := hBw8
            by_cases hc : V = bytesL (natsOf B) B.length
            · rw [decide_eq_true hc]
              have hcH : Hid (V = bytesL (natsOf B) B.length) := hc
              obtain ⟨z0, z1, z2, z3, z4, y0, y1, y2, y3, y4⟩ := hz8
              clear hc hVI8H hz8H hBw8H hVI8 hBw8 hw8 hF e1
              go_wp2_with fail
              simp [bodyPost, results, Tryz.results7, go_sem, z0, z1, z2, z3, z4, y0, y1, y2, y3, y4, World.cell?_alloc_lt, hq8]
              exact ⟨UnTE.good hlast2.out hdH.out ⟨hrsH.out, by rw [← hVH.out]; exact hcH.out⟩ rfl (isin_z hlg.out (isin_z hlg.out (isin_z hlg.out (isin_z hlg.out (isin_z hlg.out hVI9.out))))), bad_put w w8 hBw9.out _ _ _ _ _⟩
            · rw [decide_eq_false hc]
              have hcH : Hid (V ≠ bytesL (natsOf B) B.length) := hc
              clear hc hVI8H hz8H hBw8H hVI8 hBw8 hw8 e1
              have hz8H : Hid _ := hz8
              clear hz8
              go_wp2_with fail
              refine Calls.mono (hF.out _) ?_
              rintro e w9 ⟨rfl, hB9⟩
              obtain ⟨z0, z1, z2, z3, z4, y0, y1, y2, y3, y4⟩ := hz8H.out.of (hB9.block w.heap.size hq8)
              have hBwA : Hid _ := below_then hBw9.out hB9
              have hq9 : w.heap.size < w9.heap.size := by have := hB9.size; omega
              clear hF hz8H hB9
              simp only [badV]
              go_wp2_with fail
              simp [bodyPost, results, Tryz.results7, go_sem, z0, z1, z2, z3, z4, y0, y1, y2, y3, y4, World.cell?_alloc_lt, hq9]
              exact ⟨UnTE.worse hlast2.out hdH.out (fun h => hcH.out (by rw [hVH.out]; exact h.2)) rfl, bad_put w w9 hBwA.out _ _ _ _ _⟩
    · obtain rfl : k = cn := by omega
      have hkI : ¬ (k : Int) < (k : Int) := by omega
      have hlast2 : Hid (lastT (natsOf B) B.length = u) := (by rw [hlast.out, hu] : lastT (natsOf B) B.length = u)
      have hD : Hid _ := dDone_rf hV.rb
      have hok := (readT_ok (natsOf B) B.length s0 k)
      rw [← hu] at hok
      have hokH : Hid _ := hok
      have hLn : u.L.length ≤ 1048576 := by omega
      have hown : Hid _ := hV.own
      have hNz := hV.hN
      have hwr := hV.hB
      have hbN : Hid (Below w0.heap.size w0 _) := QR.b hV.rb
      have hfe2 := doneF_fe (bs := natsOf B) (n := B.length) (p := u.s.p) (r := u.s.r) (QR.fe hV.rb)
      clear hV hok hu hLk
      go_wp2_with fail
      refine Calls.mono hD.out ?_
      rintro e w5 ⟨rfl, hB5, hF5⟩
      have hB05 : Below w0.heap.size w0 w5 := hbN.out.trans hB5
      have hBw5 : Below w.heap.size w w5 := hB0.trans (hB05.mono (Nat.le_of_lt hql))
      have hz5 := hz0H.out.of (hB05.block w.heap.size hql)
      have hq5 : w.heap.size < w5.heap.size := Nat.lt_of_lt_of_le hql hB05.size
      have hown5 := own_RF hown.out hF5 (by omega)
      clear hD hB5 hF5 hown hbN
      cases hdn : doneF (natsOf B) B.length u.s.p u.s.r u.s.fv with
      | some x =>
        have hdH : Hid _ := hdn
        have hx2 := hfe2 x hdn
        obtain ⟨x1, x2⟩ := x
        have hx2' : ¬ x2 = 0 := by intro h; subst h; simp at hx2
        obtain ⟨z0, z1, z2, z3, z4, y0, y1, y2, y3, y4⟩ := hz5
        have hBw5H : Hid _ := hBw5
        clear hown5 hdn hfe2 hBw5 hB05 hz0H
        simp only [fvB, fcd, fpl, Option.isSome]
        go_wp2_with fail
        go_region_with (fail)
        all_goals
          go_wp2_with fail
          simp [bodyPost, results, Tryz.results7, go_sem, z0, z1, z2, z3, z4, y0, y1, y2, y3, y4, World.cell?_alloc_lt, hq5]
          exact ⟨UnTE.fault hlast2.out hdH.out rfl, (below_new (bad_put w w5 hBw5H.out _ _ _ _ _) _).drew⟩
      | none =>
        have hdH : Hid _ := hdn
        have hpos : 0 < B.length := by
          rcases Nat.eq_zero_or_pos B.length with h0 | h0
          · exact absurd hdn (by rw [← hlast2.out]; exact lastT_empty _ _ h0)
          · exact h0
        have hBz := below_new (Below.refl _ w5) (.cells #[.int .i64 0, .int .i64 0, .int .i64 0, .bool false, .bool false] 31)
        have hown6 := hown5.alloc (.cells #[.int .i64 0, .int .i64 0, .int .i64 0, .bool false, .bool false] 31)
        have hrow := own_row hown6
        obtain ⟨la, lc, hl5, hVI⟩ := own_IsIn hown6 hLn (ttL_rg hokH.out.L)
        subst hl5
        have hlg : Hid (u.L.length = 0 ∨ ∃ g o, la = some ⟨g, o, none⟩ ∧ w.heap.size < g) := (by
          rcases hrow with h0 | ⟨g, c, e, hg⟩
          · exact Or.inl h0
          · injection e with e1; exact Or.inr ⟨g, 0, e1, by omega⟩ : u.L.length = 0 ∨ ∃ g o, la = some ⟨g, o, none⟩ ∧ w.heap.size < g)
        have hVa : Hid _ := dtimes_any la u.L.length lc (ttL u.L) _ hVI
        have hVIH : Hid _ := hVI
        have hz5H : Hid _ := hz5
        have hBw6 := below_then hBw5 hBz
        clear hown5 hdn hfe2 hB05 hz0H hown6 hrow hVI hz5
        simp only [fvB, fcd, fpl, Option.isSome]
        go_wp2_with fail
        refine Calls.mono hVa.out ?_
        rintro e w6 ⟨hE, hB6⟩
        clear hVa
        have hBw7 := below_then hBw6 hB6
        rcases hE with ⟨hx, _⟩ | ⟨_, hx, rfl⟩ | ⟨_, hrs, ga, gc, rfl, hin⟩
        · omega
        · have hcH : Hid (¬ (Rises (ttL u.L) u.L.length ∧ (timesS (ttL u.L) u.L.length u.L.length).1 = bytesL (natsOf B) B.length)) := (fun h => hx h.1 : ¬ (Rises (ttL u.L) u.L.length ∧ (timesS (ttL u.L) u.L.length u.L.length).1 = bytesL (natsOf B) B.length))
          have hz6 := ((hz5H.out.of (hBz.block w.heap.size hq5)).of (hB6.block w.heap.size (by simp; omega)))
          have hq6 : w.heap.size < w6.heap.size := by have := hBw7.size; have := hB6.size; simp at this; omega
          have hBz6 := below_new (Below.refl _ w6) (.cells #[.int .i64 2, .int .i64 0, .int .i64 0, .bool false, .bool false] 31)
          have hBw8 : Hid _ := below_then hBw7 hBz6
          have hz8 : Hid _ := hz6.of (hBz6.block w.heap.size hq6)
          have hq8 : w.heap.size < (w6.alloc (.cells #[.int .i64 2, .int .i64 0, .int .i64 0, .bool false, .bool false] 31)).heap.size := by simp; omega
          have hF : Hid _ := docNew 90
          clear hx hVIH hz5H hBz hB6 hz6 hBw7 hBw6 hBw5 hBz6
          simp only [badV]
          go_wp2_with fail
          refine Calls.mono (hF.out _) ?_
          rintro e w9 ⟨rfl, hB9⟩
          obtain ⟨z0, z1, z2, z3, z4, y0, y1, y2, y3, y4⟩ := hz8.out.of (hB9.block w.heap.size hq8)
          have hBwA : Hid _ := below_then hBw8.out hB9
          have hq9 : w.heap.size < w9.heap.size := by have := hB9.size; omega
          clear hF hz8 hB9
          simp only [badV]
          go_wp2_with fail
          simp [bodyPost, results, Tryz.results7, go_sem, z0, z1, z2, z3, z4, y0, y1, y2, y3, y4, World.cell?_alloc_lt, hq9]
          exact ⟨UnTE.worse hlast2.out hdH.out hcH.out rfl, bad_put w w9 hBwA.out _ _ _ _ _⟩
        · have hrsH : Hid (Rises (ttL u.L) u.L.length) := hrs
          clear hrs
          have hvp : 0 < (timesS (ttL u.L) u.L.length u.L.length).1.length := timesS_pos _ _ _
          have hBz6 := below_new (Below.refl _ w6) (.cells #[.int .i64 0, .int .i64 0, .int .i64 0, .bool false, .bool false] 31)
          have hBw8 := below_then hBw7 hBz6
          have hq : Hid _ := dsame_in (c1 := gc) (c2 := bc) (hin.below hBz6) (hbH.out.below hBw8) hvp hpos
          have hF : Hid _ := docNew 90
          have hz6 := ((hz5H.out.of (hBz.block w.heap.size hq5)).of (hB6.block w.heap.size (by simp; omega)))
          have hq6 : w.heap.size < w6.heap.size := by have := hBw7.size; have := hB6.size; simp at this; omega
          have hz8 := hz6.of (hBz6.block w.heap.size hq6)
          have hVI8 := IsIn.below (IsIn.below hVIH.out hB6 (Nat.le_refl _)) hBz6 (Nat.le_refl _)
          obtain ⟨V, hV'⟩ : ∃ V, V = (timesS (ttL u.L) u.L.length u.L.length).1 := ⟨_, rfl⟩
          rw [← hV'] at hq hvp hin ⊢
          have e1 : bytesL (natsOf V) V.length = V := bytesL_nats V
          have hVH : Hid (V = (timesS (ttL u.L) u.L.length u.L.length).1) := hV'
          have hVI8H : Hid _ := hVI8
          have hz8H : Hid _ := hz8
          have hBw8H : Hid _ := hBw8
          have hzb : Hid _ := BZ.start w6
          clear hV' hin hVIH hz5H hBz hB6 hz6 hz8 hVI8 hBw8 hBw7 hBw6 hBw5 hBz6
          simp only [badV]
          go_wp2_with fail
          refine Calls.mono hq.out ?_
          rintro e w9 ⟨rfl, hw⟩
          subst hw
          clear hq hzb
          rw [e1]
          obtain ⟨w8, hw8⟩ : ∃ w8, w8 = w6.alloc (.cells #[.int .i64 0, .int .i64 0, .int .i64 0, .bool false, .bool false] 31) := ⟨_, rfl⟩
          have hVI8 := hVI8H.out
          have hz8 := hz8H.out
          have hBw8 := hBw8H.out
          have hq8 : w.heap.size < w8.heap.size := by rw [hw8]; simp; omega
          rw [← hw8] at hVI8 hz8 hBw8 ⊢
          have hVI9 : Hid _ := hVI8
          have hBw9 : Hid _ := hBw8
          by_cases hc : V = bytesL (natsOf B) B.length
          · rw [decide_eq_true hc]
            have hcH : Hid (V = bytesL (natsOf B) B.length) := hc
            obtain ⟨z0, z1, z2, z3, z4, y0, y1, y2, y3, y4⟩ := hz8
            clear hc hVI8H hz8H hBw8H hVI8 hBw8 hw8 hF e1
            go_wp2_with fail
            simp [bodyPost, results, Tryz.results7, go_sem, z0, z1, z2, z3, z4, y0, y1, y2, y3, y4, World.cell?_alloc_lt, hq8]
            exact ⟨UnTE.good hlast2.out hdH.out ⟨hrsH.out, by rw [← hVH.out]; exact hcH.out⟩ rfl (isin_z hlg.out (isin_z hlg.out (isin_z hlg.out (isin_z hlg.out (isin_z hlg.out hVI9.out))))), bad_put w w8 hBw9.out _ _ _ _ _⟩
          · rw [decide_eq_false hc]
            have hcH : Hid (V ≠ bytesL (natsOf B) B.length) := hc
            clear hc hVI8H hz8H hBw8H hVI8 hBw8 hw8 e1
            have hz8H : Hid _ := hz8
            clear hz8
            go_wp2_with fail
            refine Calls.mono (hF.out _) ?_
            rintro e w9 ⟨rfl, hB9⟩
            obtain ⟨z0, z1, z2, z3, z4, y0, y1, y2, y3, y4⟩ := hz8H.out.of (hB9.block w.heap.size hq8)
            have hBwA : Hid _ := below_then hBw9.out hB9
            have hq9 : w.heap.size < w9.heap.size := by have := hB9.size; omega
            clear hF hz8H hB9
            simp only [badV]
            go_wp2_with fail
            simp [bodyPost, results, Tryz.results7, go_sem, z0, z1, z2, z3, z4, y0, y1, y2, y3, y4, World.cell?_alloc_lt, hq9]
            exact ⟨UnTE.worse hlast2.out hdH.out (fun h => hcH.out (by rw [hVH.out]; exact h.2)) rfl, bad_put w w9 hBwA.out _ _ _ _ _⟩
end Go.Proofs.YtpicgjjbpiinfaaGreatDoor
