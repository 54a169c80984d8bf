
import Derived.Test.YtdfnomglkibfbaaGreatDoorVgH
import Derived.Test.YtdfnomglkibfbaaGreatDoorVzA
import Derived.BigQuiet
import Derived.BigGuardPart
namespace Go.Proofs.YtdfnomglkibfbaaGreatDoor.Vf
open Go.RowKit
set_option linter.unusedVariables false
set_option linter.unusedSimpArgs false
set_option maxRecDepth 100000
set_option maxHeartbeats 8000000 in
theorem each_f (p : PrH) (acc : List AcP) (hacc : p.accs.n = acc.length) (l : List InP) (a : Option Addr) (c : Nat) (hn : l.length ≤ 1152921504606846976) (begin_ : Nat) (hbe : begin_ ≤ 1152921504606846976) (w : World) (hA : AcIn w p.accs.a acc) (hI : InIn w a l) : Calls Tryz.prog 30 #[p.v, .slice a l.length c, .int .i64 (begin_ : Int), .int .u8 13] w fun e w' => e = .returned (bdO begin_ (eachD p.sz true acc l)) ∧ Below w.heap.size w w' := by
  obtain ⟨V, hV⟩ : ∃ V, bdO begin_ (eachD p.sz true acc l) = V := ⟨_, rfl⟩
  obtain ⟨bad, hbd⟩ : ∃ bad, (fun (k : Nat) (i : InP) => badD p.sz 13 (k : Int) ((l.length : Int) - 1) (raOf acc i.a i.b) i) = bad := ⟨_, rfl⟩
  have hbdH : Hid (bad = fun (k : Nat) (i : InP) => badD p.sz 13 (k : Int) ((l.length : Int) - 1) (raOf acc i.a i.b) i) := hbd.symm
  have hVH : Hid (V = bdO begin_ (match firstBad bad l 0 with | some x => some x | none => if (l.getLast?.map fun i => i.c) = some 13 then none else some (l.length, 193))) := by rw [← hV, ← hbd]; rfl
  rw [hV]
  clear hV hbd
  have cO : Hid (∀ (i : InP) W, Below w.heap.size w W → Calls Tryz.prog 82 #[.agg p.cells, .agg #[.int .u8 (i.c : Int), .int .i64 i.a, .int .i64 i.b]] W fun e w' => e = .returned (.bool (opsD p.sz (raOf acc i.a i.b) i)) ∧ GR W w') := fun i W hW => operands_gr p acc hacc i W (hA.below hW (Nat.le_refl _))
  have hIH : Hid (InIn w a l) := hI
  have nH : Hid (l.length = l.length) := rfl
  have e0 := EW.new w p
  have e0H : Hid (EW w p ((w.alloc (.cells p.cells 28)).alloc (.cells #[.int .i64 0, .int .i64 0, .int .i64 0, .bool false, .bool false] 36))) := e0
  clear hA hI e0 hacc
  obtain ⟨n, hnn⟩ : ∃ n, l.length = n := ⟨_, rfl⟩
  have hnH : Hid (l.length = n) := hnn
  rw [hnn] at hn ⊢
  clear hnn nH
  unfold PrH.v
  unfold PrH.cells at cO e0H
  go_enter Tryz.func30, Tryz.ntmps30
  go_wp2_with fail
  generalize hW : World.alloc (World.alloc w _) _ = W1 at e0H ⊢
  clear hW
  go_loopw [9] (fun v9 wr => ∃ k : Nat, v9 = .int .i64 (k : Int) ∧ k ≤ n ∧ Hid (firstBad bad (l.drop k) k = firstBad bad l 0) ∧ Hid (EW w p wr)) (fun v9 _ => n - (intOf v9).toNat)
  case atStart => exact ⟨0, rfl, Nat.zero_le _, rfl, e0H⟩
  case round =>
    clear e0H
    obtain ⟨k, rfl, hkn, hfb, hew⟩ := hrel
    have k0 : (0 : Int) ≤ (k : Int) := by omega
    by_cases hk : k < n
    · have kI : (k : Int) < (n : Int) := by omega
      have kw : IntKind.i64.wrap ((k : Int) + 1) = ((k + 1 : Nat) : Int) := IntWalk.i64_in _ (by omega)
      have bw : IntKind.i64.wrap ((begin_ : Int) + (k : Int)) = (begin_ : Int) + (k : Int) := IntWalk.i64_in _ (by omega)
      have lw : IntKind.i64.wrap ((n : Int) - 1) = (n : Int) - 1 := by rw [IntWalk.i64_in _ (by omega)]
      obtain ⟨g, off, t, et, rfl, gl, c1, c2, c3⟩ := (hIH.out.below hew.out.1 (Nat.le_refl _)).at (k := k) (by rw [hnH.out]; exact hk)
      obtain ⟨tc, ta, tb⟩ := t
      have ST : Hid (firstBad bad l 0 = if bad k ⟨tc, ta, tb⟩ = 0 then firstBad bad (l.drop (k + 1)) (k + 1) else some (k, bad k ⟨tc, ta, tb⟩)) := by rw [← hfb.out]; exact first_drop et
      have VK : Hid (bad k ⟨tc, ta, tb⟩ ≠ 0 → V = badV (bad k ⟨tc, ta, tb⟩) ((begin_ : Int) + (k : Int)) true) := fun h => by rw [hVH.out, ST.out, if_neg h]; rfl
      have NXT : Hid (bad k ⟨tc, ta, tb⟩ = 0 → firstBad bad (l.drop (k + 1)) (k + 1) = firstBad bad l 0) := fun h => by rw [ST.out, if_pos h]
      have hb : Hid (bad k ⟨tc, ta, tb⟩ = badD p.sz 13 k ((n : Int) - 1) (raOf acc ta tb) ⟨tc, ta, tb⟩) := hid (by rw [hbdH.out, ← hnH.out])
      have cK := cO.out ⟨tc, ta, tb⟩
      generalize bad k ⟨tc, ta, tb⟩ = bk at VK NXT hb
      have fC : Hid (∀ W, Calls Tryz.prog 79 #[.int .u8 (tc : Int)] W fun e w' => e = .returned (.bool (filB tc)) ∧ W = w') := fun W => (filters_any tc W).mono (fun _ _ h => ⟨h.1, h.2.symm⟩)
      have cAt : Hid (∀ (e : Int) W, (e == 0) = false → Calls Tryz.prog 81 #[.int .i64 ((begin_ : Int) + (k : Int)), .int .i64 e] W fun ev w' => ev = .returned (badV e ((begin_ : Int) + (k : Int)) true) ∧ Below W.heap.size W w') := fun e W he => refAt_any _ e he W
      have etH : Hid (l[k]? = some ⟨tc, ta, tb⟩) := et
      clear et hfb ST
      obtain ⟨fv, hfv⟩ : ∃ fv, filB tc = fv := ⟨_, rfl⟩
      rw [hfv] at fC
      obtain ⟨ov, hov⟩ : ∃ ov, opsD p.sz (raOf acc ta tb) ⟨tc, ta, tb⟩ = ov := ⟨_, rfl⟩
      rw [hov] at cK
      have cKH : Hid (∀ W, Below w.heap.size w W → Calls Tryz.prog 82 #[_, .agg #[.int .u8 (tc : Int), .int .i64 ta, .int .i64 tb]] W fun e w' => e = .returned (.bool ov) ∧ GR W w') := cK
      clear cK
      have hb2 : Hid (bk = if fv = false then 180 else if ov = false then 192 else if (tc == 10 || tc == 11) && (decide (ta ≤ (k : Int)) || decide ((n : Int) - 1 < ta)) then 191 else if tc == 13 && decide ((k : Int) < (n : Int) - 1) then 193 else 0) := hid (by
        rw [hb.out]; unfold badD; rw [← hfv, ← hov]
        cases filB tc <;> cases opsD p.sz (raOf acc ta tb) ⟨tc, ta, tb⟩ <;> simp)
      clear hb hfv hov
      have cG : Hid (∀ W, GR wr W → Calls Tryz.prog 82 #[.agg #[.string p.from_, .string p.into, .int .i64 p.every, .int .i64 p.offset, .slice p.groups.a p.groups.n p.groups.c, .slice p.accs.a p.accs.n p.accs.c, .slice p.alias.a p.alias.n p.alias.c, .slice p.names.a p.names.n p.names.c, .slice p.texts.a p.texts.n p.texts.c, .slice p.lists.a p.lists.n p.lists.c, .slice p.times.a p.times.n p.times.c, .slice p.ints.a p.ints.n p.ints.c, .slice p.filter.a p.filter.n p.filter.c, .slice p.output.a p.output.n p.output.c], .agg #[.int .u8 (tc : Int), .int .i64 ta, .int .i64 tb]] W fun e w' => e = .returned (.bool ov) ∧ GR W w') := fun W hW => cKH.out W (hew.out.1.trans (hW.below.mono hew.out.1.size))
      clear cKH
      by_cases h10 : tc = 10
      · have d10 : decide ((tc : Int) = 10) = true := decide_eq_true (by omega)
        have b10 : ((tc : Int) == 10) = true := by rw [beq_iff_eq]; omega
        have d11 : decide ((tc : Int) = 11) = false := decide_eq_false (by omega)
        have b11 : ((tc : Int) == 11) = false := by rw [beq_eq_false_iff_ne]; omega
        have d13 : decide ((tc : Int) = 13) = false := decide_eq_false (by omega)
        have b13 : ((tc : Int) == 13) = false := by rw [beq_eq_false_iff_ne]; omega
        cases fv with
        | false =>
          have hbad : bk = 180 := by rw [hb2.out]; simp
          have VV : Hid (V = .agg #[.int .i64 180, .int .i64 ((begin_ : Int) + (k : Int)), .int .i64 0, .bool true, .bool false]) := by rw [VK.out (by rw [hbad]; decide), hbad]; rfl
          clear hb2 hbad VK NXT hVH hIH hbdH etH cO cG h10
          go_wp2_with (first
            | (go_at_call 79; with_reducible refine Calls.mono (fC.out _) ?_; rintro e w' ⟨rfl, rfl⟩))
          with_reducible refine Calls.mono (cAt.out 180 _ rfl) ?_
          rintro e w5 ⟨rfl, b5⟩
          have e5 : Hid (EW w p w5) := hew.out.below b5
          clear b5 hew cAt fC
          obtain ⟨W2, hst0, y0, y1, y2, y3, y4, bb0⟩ := store_bad e5.out.2.2 180 ((begin_ : Int) + (k : Int)) true
          have hst : Hid ((Instr.storeAt 36 (.pointer (some ⟨w.heap.size + 1, 0, none⟩)) (.agg #[.int .i64 180, .int .i64 ((begin_ : Int) + (k : Int)), .int .i64 0, .bool true, .bool false])).run Tryz.prog w5 = .ok () W2) := hst0
          have finB : Hid (Below w.heap.size w W2) := bb0 _ _ e5.out.1 (by omega)
          clear hst0 bb0 e5
          unfold badV
          go_wp2_with (refine wpList_store_run (by rfl) _ _ _ (by rfl) _ _ _ (by rfl) (by rfl) hst.out ?_)
          clear hst
          simp [bodyPost, results, Tryz.results30, go_sem, y0, y1, y2, y3, y4]
          exact ⟨VV.out.symm, finB.out⟩
        | true =>
          cases ov with
          | false =>
            have hbad : bk = 192 := by rw [hb2.out]; simp [*]
            have VV : Hid (V = .agg #[.int .i64 192, .int .i64 ((begin_ : Int) + (k : Int)), .int .i64 0, .bool true, .bool false]) := by rw [VK.out (by rw [hbad]; decide), hbad]; rfl
            clear hb2 hbad VK NXT hVH hIH hbdH etH cO  h10
            go_wp2_with (first
              | (go_at_call 79; with_reducible refine Calls.mono (fC.out _) ?_; rintro e w' ⟨rfl, rfl⟩))
            obtain ⟨_, ⟨_, x0, x1, x2, x3, x4, x5, x6, x7, x8, x9, x10, x11, x12, x13⟩, _⟩ := hew.out
            have X0 := gcell x0
            have X1 := gcell x1
            have X2 := gcell x2
            have X3 := gcell x3
            have X4 := gcell x4
            have X5 := gcell x5
            have X6 := gcell x6
            have X7 := gcell x7
            have X8 := gcell x8
            have X9 := gcell x9
            have X10 := gcell x10
            have X11 := gcell x11
            have X12 := gcell x12
            have X13 := gcell x13
            have C1 := gcell c1
            have C2 := gcell c2
            have C3 := gcell c3
            have mixed : Tryz.prog.follows .mixedOrders = true := by kernel_rfl
            have eg : ∀ args w, (callFunc 82 args).run Tryz.prog w = .ok (.enter 82 args) w := enters_of Tryz.func82 (by kernel_rfl) rfl
            clear x0 x1 x2 x3 x4 x5 x6 x7 x8 x9 x10 x11 x12 x13
            refine Go.wp_region_quiet_grown (by assumption) (by kernel_rfl) ?_
            repeat (go_big_quiet_step (first | (go_at_fn 82; refine Calls.grown_of (cG.out _ ⟨_, _, rfl⟩))))
            refine Go.wpQuiet_nil ?_
            intro _ hw'
            obtain ⟨⟨nq, osq⟩, hw''⟩ := hw'
            subst hw''
            clear X0 X1 X2 X3 X4 X5 X6 X7 X8 X9 X10 X11 X12 X13
            have d2 := C2 nq osq
            have ew9H : Hid (EW w p (Sort.grow (wr.drewN nq) osq)) := hew.out.below (GR.below ⟨nq, osq, rfl⟩)
            clear C1 C2 C3 c1 c2 c3 cG
            generalize Sort.grow (wr.drewN nq) osq = W9 at *
            go_wp2_with fail
            with_reducible refine Calls.mono (cAt.out 192 _ rfl) ?_
            rintro e w5 ⟨rfl, b5⟩
            have e5 : Hid (EW w p w5) := ew9H.out.below b5
            clear b5 hew cAt fC
            obtain ⟨W2, hst0, y0, y1, y2, y3, y4, bb0⟩ := store_bad e5.out.2.2 192 ((begin_ : Int) + (k : Int)) true
            have hst : Hid ((Instr.storeAt 36 (.pointer (some ⟨w.heap.size + 1, 0, none⟩)) (.agg #[.int .i64 192, .int .i64 ((begin_ : Int) + (k : Int)), .int .i64 0, .bool true, .bool false])).run Tryz.prog w5 = .ok () W2) := hst0
            have finB : Hid (Below w.heap.size w W2) := bb0 _ _ e5.out.1 (by omega)
            clear hst0 bb0 e5
            unfold badV
            go_wp2_with (refine wpList_store_run (by rfl) _ _ _ (by rfl) _ _ _ (by rfl) (by rfl) hst.out ?_)
            clear hst
            simp [bodyPost, results, Tryz.results30, go_sem, y0, y1, y2, y3, y4]
            exact ⟨VV.out.symm, finB.out⟩
          | true =>
            by_cases j1 : ta ≤ (k : Int)
            · have dj1 : decide (ta ≤ (k : Int)) = true := decide_eq_true j1
              have hbad : bk = 191 := by rw [hb2.out]; simp [*]
              have VV : Hid (V = .agg #[.int .i64 191, .int .i64 ((begin_ : Int) + (k : Int)), .int .i64 0, .bool true, .bool false]) := by rw [VK.out (by rw [hbad]; decide), hbad]; rfl
              clear hb2 hbad VK NXT hVH hIH hbdH etH cO  h10
              go_wp2_with (first
                | (go_at_call 79; with_reducible refine Calls.mono (fC.out _) ?_; rintro e w' ⟨rfl, rfl⟩))
              obtain ⟨_, ⟨_, x0, x1, x2, x3, x4, x5, x6, x7, x8, x9, x10, x11, x12, x13⟩, _⟩ := hew.out
              have X0 := gcell x0
              have X1 := gcell x1
              have X2 := gcell x2
              have X3 := gcell x3
              have X4 := gcell x4
              have X5 := gcell x5
              have X6 := gcell x6
              have X7 := gcell x7
              have X8 := gcell x8
              have X9 := gcell x9
              have X10 := gcell x10
              have X11 := gcell x11
              have X12 := gcell x12
              have X13 := gcell x13
              have C1 := gcell c1
              have C2 := gcell c2
              have C3 := gcell c3
              have mixed : Tryz.prog.follows .mixedOrders = true := by kernel_rfl
              have eg : ∀ args w, (callFunc 82 args).run Tryz.prog w = .ok (.enter 82 args) w := enters_of Tryz.func82 (by kernel_rfl) rfl
              clear x0 x1 x2 x3 x4 x5 x6 x7 x8 x9 x10 x11 x12 x13
              refine Go.wp_region_quiet_grown (by assumption) (by kernel_rfl) ?_
              repeat (go_big_quiet_step (first | (go_at_fn 82; refine Calls.grown_of (cG.out _ ⟨_, _, rfl⟩))))
              refine Go.wpQuiet_nil ?_
              intro _ hw'
              obtain ⟨⟨nq, osq⟩, hw''⟩ := hw'
              subst hw''
              clear X0 X1 X2 X3 X4 X5 X6 X7 X8 X9 X10 X11 X12 X13
              have d2 := C2 nq osq
              have ew9H : Hid (EW w p (Sort.grow (wr.drewN nq) osq)) := hew.out.below (GR.below ⟨nq, osq, rfl⟩)
              clear C1 C2 C3 c1 c2 c3 cG
              generalize Sort.grow (wr.drewN nq) osq = W9 at *
              go_wp2_with fail
              with_reducible refine Calls.mono (cAt.out 191 _ rfl) ?_
              rintro e w5 ⟨rfl, b5⟩
              have e5 : Hid (EW w p w5) := ew9H.out.below b5
              clear b5 hew cAt fC
              obtain ⟨W2, hst0, y0, y1, y2, y3, y4, bb0⟩ := store_bad e5.out.2.2 191 ((begin_ : Int) + (k : Int)) true
              have hst : Hid ((Instr.storeAt 36 (.pointer (some ⟨w.heap.size + 1, 0, none⟩)) (.agg #[.int .i64 191, .int .i64 ((begin_ : Int) + (k : Int)), .int .i64 0, .bool true, .bool false])).run Tryz.prog w5 = .ok () W2) := hst0
              have finB : Hid (Below w.heap.size w W2) := bb0 _ _ e5.out.1 (by omega)
              clear hst0 bb0 e5
              unfold badV
              go_wp2_with (refine wpList_store_run (by rfl) _ _ _ (by rfl) _ _ _ (by rfl) (by rfl) hst.out ?_)
              clear hst
              simp [bodyPost, results, Tryz.results30, go_sem, y0, y1, y2, y3, y4]
              exact ⟨VV.out.symm, finB.out⟩
            have dj1 : decide (ta ≤ (k : Int)) = false := decide_eq_false j1
            by_cases j2 : (n : Int) ≤ ta
            · have j3 : (n : Int) - 1 < ta := by omega
              have dj2 : decide ((n : Int) ≤ ta) = true := decide_eq_true j2
              have hbad : bk = 191 := by rw [hb2.out]; simp [*]
              have VV : Hid (V = .agg #[.int .i64 191, .int .i64 ((begin_ : Int) + (k : Int)), .int .i64 0, .bool true, .bool false]) := by rw [VK.out (by rw [hbad]; decide), hbad]; rfl
              clear hb2 hbad VK NXT hVH hIH hbdH etH cO  h10
              go_wp2_with (first
                | (go_at_call 79; with_reducible refine Calls.mono (fC.out _) ?_; rintro e w' ⟨rfl, rfl⟩))
              obtain ⟨_, ⟨_, x0, x1, x2, x3, x4, x5, x6, x7, x8, x9, x10, x11, x12, x13⟩, _⟩ := hew.out
              have X0 := gcell x0
              have X1 := gcell x1
              have X2 := gcell x2
              have X3 := gcell x3
              have X4 := gcell x4
              have X5 := gcell x5
              have X6 := gcell x6
              have X7 := gcell x7
              have X8 := gcell x8
              have X9 := gcell x9
              have X10 := gcell x10
              have X11 := gcell x11
              have X12 := gcell x12
              have X13 := gcell x13
              have C1 := gcell c1
              have C2 := gcell c2
              have C3 := gcell c3
              have mixed : Tryz.prog.follows .mixedOrders = true := by kernel_rfl
              have eg : ∀ args w, (callFunc 82 args).run Tryz.prog w = .ok (.enter 82 args) w := enters_of Tryz.func82 (by kernel_rfl) rfl
              clear x0 x1 x2 x3 x4 x5 x6 x7 x8 x9 x10 x11 x12 x13
              refine Go.wp_region_quiet_grown (by assumption) (by kernel_rfl) ?_
              repeat (go_big_quiet_step (first | (go_at_fn 82; refine Calls.grown_of (cG.out _ ⟨_, _, rfl⟩))))
              refine Go.wpQuiet_nil ?_
              intro _ hw'
              obtain ⟨⟨nq, osq⟩, hw''⟩ := hw'
              subst hw''
              clear X0 X1 X2 X3 X4 X5 X6 X7 X8 X9 X10 X11 X12 X13
              have d2 := C2 nq osq
              have ew9H : Hid (EW w p (Sort.grow (wr.drewN nq) osq)) := hew.out.below (GR.below ⟨nq, osq, rfl⟩)
              clear C1 C2 C3 c1 c2 c3 cG
              generalize Sort.grow (wr.drewN nq) osq = W9 at *
              go_wp2_with fail
              with_reducible refine Calls.mono (cAt.out 191 _ rfl) ?_
              rintro e w5 ⟨rfl, b5⟩
              have e5 : Hid (EW w p w5) := ew9H.out.below b5
              clear b5 hew cAt fC
              obtain ⟨W2, hst0, y0, y1, y2, y3, y4, bb0⟩ := store_bad e5.out.2.2 191 ((begin_ : Int) + (k : Int)) true
              have hst : Hid ((Instr.storeAt 36 (.pointer (some ⟨w.heap.size + 1, 0, none⟩)) (.agg #[.int .i64 191, .int .i64 ((begin_ : Int) + (k : Int)), .int .i64 0, .bool true, .bool false])).run Tryz.prog w5 = .ok () W2) := hst0
              have finB : Hid (Below w.heap.size w W2) := bb0 _ _ e5.out.1 (by omega)
              clear hst0 bb0 e5
              unfold badV
              go_wp2_with (refine wpList_store_run (by rfl) _ _ _ (by rfl) _ _ _ (by rfl) (by rfl) hst.out ?_)
              clear hst
              simp [bodyPost, results, Tryz.results30, go_sem, y0, y1, y2, y3, y4]
              exact ⟨VV.out.symm, finB.out⟩
            have j3 : ¬ (n : Int) - 1 < ta := by omega
            have dj2 : decide ((n : Int) ≤ ta) = false := decide_eq_false j2
            have hne : ¬ tc = 13 := by omega
            have hbad : bk = 0 := by rw [hb2.out]; simp [*]
            have NX : Hid (firstBad bad (l.drop (k + 1)) (k + 1) = firstBad bad l 0) := NXT.out hbad
            clear hb2 hbad VK NXT hVH hIH hbdH etH cO  h10
            go_wp2_with (first
              | (go_at_call 79; with_reducible refine Calls.mono (fC.out _) ?_; rintro e w' ⟨rfl, rfl⟩))
            obtain ⟨_, ⟨_, x0, x1, x2, x3, x4, x5, x6, x7, x8, x9, x10, x11, x12, x13⟩, _⟩ := hew.out
            have X0 := gcell x0
            have X1 := gcell x1
            have X2 := gcell x2
            have X3 := gcell x3
            have X4 := gcell x4
            have X5 := gcell x5
            have X6 := gcell x6
            have X7 := gcell x7
            have X8 := gcell x8
            have X9 := gcell x9
            have X10 := gcell x10
            have X11 := gcell x11
            have X12 := gcell x12
            have X13 := gcell x13
            have C1 := gcell c1
            have C2 := gcell c2
            have C3 := gcell c3
            have mixed : Tryz.prog.follows .mixedOrders = true := by kernel_rfl
            have eg : ∀ args w, (callFunc 82 args).run Tryz.prog w = .ok (.enter 82 args) w := enters_of Tryz.func82 (by kernel_rfl) rfl
            clear x0 x1 x2 x3 x4 x5 x6 x7 x8 x9 x10 x11 x12 x13
            refine Go.wp_region_quiet_grown (by assumption) (by kernel_rfl) ?_
            repeat (go_big_quiet_step (first | (go_at_fn 82; refine Calls.grown_of (cG.out _ ⟨_, _, rfl⟩))))
            refine Go.wpQuiet_nil ?_
            intro _ hw'
            obtain ⟨⟨nq, osq⟩, hw''⟩ := hw'
            subst hw''
            clear X0 X1 X2 X3 X4 X5 X6 X7 X8 X9 X10 X11 X12 X13
            have d2 := C2 nq osq
            have ew9H : Hid (EW w p (Sort.grow (wr.drewN nq) osq)) := hew.out.below (GR.below ⟨nq, osq, rfl⟩)
            clear C1 C2 C3 c1 c2 c3 cG
            generalize Sort.grow (wr.drewN nq) osq = W9 at *
            go_wp2_with fail
            exact ⟨⟨k + 1, by first | rfl | (rw [kw]), by omega, NX, ew9H⟩, by first | (simp [intOf]; done) | (simp [intOf]; omega)⟩
      by_cases h11 : tc = 11
      · have d10 : decide ((tc : Int) = 10) = false := decide_eq_false (by omega)
        have b10 : ((tc : Int) == 10) = false := by rw [beq_eq_false_iff_ne]; omega
        have d11 : decide ((tc : Int) = 11) = true := decide_eq_true (by omega)
        have b11 : ((tc : Int) == 11) = true := by rw [beq_iff_eq]; omega
        have d13 : decide ((tc : Int) = 13) = false := decide_eq_false (by omega)
        have b13 : ((tc : Int) == 13) = false := by rw [beq_eq_false_iff_ne]; omega
        cases fv with
        | false =>
          have hbad : bk = 180 := by rw [hb2.out]; simp
          have VV : Hid (V = .agg #[.int .i64 180, .int .i64 ((begin_ : Int) + (k : Int)), .int .i64 0, .bool true, .bool false]) := by rw [VK.out (by rw [hbad]; decide), hbad]; rfl
          clear hb2 hbad VK NXT hVH hIH hbdH etH cO cG h11
          go_wp2_with (first
            | (go_at_call 79; with_reducible refine Calls.mono (fC.out _) ?_; rintro e w' ⟨rfl, rfl⟩))
          with_reducible refine Calls.mono (cAt.out 180 _ rfl) ?_
          rintro e w5 ⟨rfl, b5⟩
          have e5 : Hid (EW w p w5) := hew.out.below b5
          clear b5 hew cAt fC
          obtain ⟨W2, hst0, y0, y1, y2, y3, y4, bb0⟩ := store_bad e5.out.2.2 180 ((begin_ : Int) + (k : Int)) true
          have hst : Hid ((Instr.storeAt 36 (.pointer (some ⟨w.heap.size + 1, 0, none⟩)) (.agg #[.int .i64 180, .int .i64 ((begin_ : Int) + (k : Int)), .int .i64 0, .bool true, .bool false])).run Tryz.prog w5 = .ok () W2) := hst0
          have finB : Hid (Below w.heap.size w W2) := bb0 _ _ e5.out.1 (by omega)
          clear hst0 bb0 e5
          unfold badV
          go_wp2_with (refine wpList_store_run (by rfl) _ _ _ (by rfl) _ _ _ (by rfl) (by rfl) hst.out ?_)
          clear hst
          simp [bodyPost, results, Tryz.results30, go_sem, y0, y1, y2, y3, y4]
          exact ⟨VV.out.symm, finB.out⟩
        | true =>
          cases ov with
          | false =>
            have hbad : bk = 192 := by rw [hb2.out]; simp [*]
            have VV : Hid (V = .agg #[.int .i64 192, .int .i64 ((begin_ : Int) + (k : Int)), .int .i64 0, .bool true, .bool false]) := by rw [VK.out (by rw [hbad]; decide), hbad]; rfl
            clear hb2 hbad VK NXT hVH hIH hbdH etH cO  h11
            go_wp2_with (first
              | (go_at_call 79; with_reducible refine Calls.mono (fC.out _) ?_; rintro e w' ⟨rfl, rfl⟩))
            obtain ⟨_, ⟨_, x0, x1, x2, x3, x4, x5, x6, x7, x8, x9, x10, x11, x12, x13⟩, _⟩ := hew.out
            have X0 := gcell x0
            have X1 := gcell x1
            have X2 := gcell x2
            have X3 := gcell x3
            have X4 := gcell x4
            have X5 := gcell x5
            have X6 := gcell x6
            have X7 := gcell x7
            have X8 := gcell x8
            have X9 := gcell x9
            have X10 := gcell x10
            have X11 := gcell x11
            have X12 := gcell x12
            have X13 := gcell x13
            have C1 := gcell c1
            have C2 := gcell c2
            have C3 := gcell c3
            have mixed : Tryz.prog.follows .mixedOrders = true := by kernel_rfl
            have eg : ∀ args w, (callFunc 82 args).run Tryz.prog w = .ok (.enter 82 args) w := enters_of Tryz.func82 (by kernel_rfl) rfl
            clear x0 x1 x2 x3 x4 x5 x6 x7 x8 x9 x10 x11 x12 x13
            refine Go.wp_region_quiet_grown (by assumption) (by kernel_rfl) ?_
            repeat (go_big_quiet_step (first | (go_at_fn 82; refine Calls.grown_of (cG.out _ ⟨_, _, rfl⟩))))
            refine Go.wpQuiet_nil ?_
            intro _ hw'
            obtain ⟨⟨nq, osq⟩, hw''⟩ := hw'
            subst hw''
            clear X0 X1 X2 X3 X4 X5 X6 X7 X8 X9 X10 X11 X12 X13
            have d2 := C2 nq osq
            have ew9H : Hid (EW w p (Sort.grow (wr.drewN nq) osq)) := hew.out.below (GR.below ⟨nq, osq, rfl⟩)
            clear C1 C2 C3 c1 c2 c3 cG
            generalize Sort.grow (wr.drewN nq) osq = W9 at *
            go_wp2_with fail
            with_reducible refine Calls.mono (cAt.out 192 _ rfl) ?_
            rintro e w5 ⟨rfl, b5⟩
            have e5 : Hid (EW w p w5) := ew9H.out.below b5
            clear b5 hew cAt fC
            obtain ⟨W2, hst0, y0, y1, y2, y3, y4, bb0⟩ := store_bad e5.out.2.2 192 ((begin_ : Int) + (k : Int)) true
            have hst : Hid ((Instr.storeAt 36 (.pointer (some ⟨w.heap.size + 1, 0, none⟩)) (.agg #[.int .i64 192, .int .i64 ((begin_ : Int) + (k : Int)), .int .i64 0, .bool true, .bool false])).run Tryz.prog w5 = .ok () W2) := hst0
            have finB : Hid (Below w.heap.size w W2) := bb0 _ _ e5.out.1 (by omega)
            clear hst0 bb0 e5
            unfold badV
            go_wp2_with (refine wpList_store_run (by rfl) _ _ _ (by rfl) _ _ _ (by rfl) (by rfl) hst.out ?_)
            clear hst
            simp [bodyPost, results, Tryz.results30, go_sem, y0, y1, y2, y3, y4]
            exact ⟨VV.out.symm, finB.out⟩
          | true =>
            by_cases j1 : ta ≤ (k : Int)
            · have dj1 : decide (ta ≤ (k : Int)) = true := decide_eq_true j1
              have hbad : bk = 191 := by rw [hb2.out]; simp [*]
              have VV : Hid (V = .agg #[.int .i64 191, .int .i64 ((begin_ : Int) + (k : Int)), .int .i64 0, .bool true, .bool false]) := by rw [VK.out (by rw [hbad]; decide), hbad]; rfl
              clear hb2 hbad VK NXT hVH hIH hbdH etH cO  h11
              go_wp2_with (first
                | (go_at_call 79; with_reducible refine Calls.mono (fC.out _) ?_; rintro e w' ⟨rfl, rfl⟩))
              obtain ⟨_, ⟨_, x0, x1, x2, x3, x4, x5, x6, x7, x8, x9, x10, x11, x12, x13⟩, _⟩ := hew.out
              have X0 := gcell x0
              have X1 := gcell x1
              have X2 := gcell x2
              have X3 := gcell x3
              have X4 := gcell x4
              have X5 := gcell x5
              have X6 := gcell x6
              have X7 := gcell x7
              have X8 := gcell x8
              have X9 := gcell x9
              have X10 := gcell x10
              have X11 := gcell x11
              have X12 := gcell x12
              have X13 := gcell x13
              have C1 := gcell c1
              have C2 := gcell c2
              have C3 := gcell c3
              have mixed : Tryz.prog.follows .mixedOrders = true := by kernel_rfl
              have eg : ∀ args w, (callFunc 82 args).run Tryz.prog w = .ok (.enter 82 args) w := enters_of Tryz.func82 (by kernel_rfl) rfl
              clear x0 x1 x2 x3 x4 x5 x6 x7 x8 x9 x10 x11 x12 x13
              refine Go.wp_region_quiet_grown (by assumption) (by kernel_rfl) ?_
              repeat (go_big_quiet_step (first | (go_at_fn 82; refine Calls.grown_of (cG.out _ ⟨_, _, rfl⟩))))
              refine Go.wpQuiet_nil ?_
              intro _ hw'
              obtain ⟨⟨nq, osq⟩, hw''⟩ := hw'
              subst hw''
              clear X0 X1 X2 X3 X4 X5 X6 X7 X8 X9 X10 X11 X12 X13
              have d2 := C2 nq osq
              have ew9H : Hid (EW w p (Sort.grow (wr.drewN nq) osq)) := hew.out.below (GR.below ⟨nq, osq, rfl⟩)
              clear C1 C2 C3 c1 c2 c3 cG
              generalize Sort.grow (wr.drewN nq) osq = W9 at *
              go_wp2_with fail
              with_reducible refine Calls.mono (cAt.out 191 _ rfl) ?_
              rintro e w5 ⟨rfl, b5⟩
              have e5 : Hid (EW w p w5) := ew9H.out.below b5
              clear b5 hew cAt fC
              obtain ⟨W2, hst0, y0, y1, y2, y3, y4, bb0⟩ := store_bad e5.out.2.2 191 ((begin_ : Int) + (k : Int)) true
              have hst : Hid ((Instr.storeAt 36 (.pointer (some ⟨w.heap.size + 1, 0, none⟩)) (.agg #[.int .i64 191, .int .i64 ((begin_ : Int) + (k : Int)), .int .i64 0, .bool true, .bool false])).run Tryz.prog w5 = .ok () W2) := hst0
              have finB : Hid (Below w.heap.size w W2) := bb0 _ _ e5.out.1 (by omega)
              clear hst0 bb0 e5
              unfold badV
              go_wp2_with (refine wpList_store_run (by rfl) _ _ _ (by rfl) _ _ _ (by rfl) (by rfl) hst.out ?_)
              clear hst
              simp [bodyPost, results, Tryz.results30, go_sem, y0, y1, y2, y3, y4]
              exact ⟨VV.out.symm, finB.out⟩
            have dj1 : decide (ta ≤ (k : Int)) = false := decide_eq_false j1
            by_cases j2 : (n : Int) ≤ ta
            · have j3 : (n : Int) - 1 < ta := by omega
              have dj2 : decide ((n : Int) ≤ ta) = true := decide_eq_true j2
              have hbad : bk = 191 := by rw [hb2.out]; simp [*]
              have VV : Hid (V = .agg #[.int .i64 191, .int .i64 ((begin_ : Int) + (k : Int)), .int .i64 0, .bool true, .bool false]) := by rw [VK.out (by rw [hbad]; decide), hbad]; rfl
              clear hb2 hbad VK NXT hVH hIH hbdH etH cO  h11
              go_wp2_with (first
                | (go_at_call 79; with_reducible refine Calls.mono (fC.out _) ?_; rintro e w' ⟨rfl, rfl⟩))
              obtain ⟨_, ⟨_, x0, x1, x2, x3, x4, x5, x6, x7, x8, x9, x10, x11, x12, x13⟩, _⟩ := hew.out
              have X0 := gcell x0
              have X1 := gcell x1
              have X2 := gcell x2
              have X3 := gcell x3
              have X4 := gcell x4
              have X5 := gcell x5
              have X6 := gcell x6
              have X7 := gcell x7
              have X8 := gcell x8
              have X9 := gcell x9
              have X10 := gcell x10
              have X11 := gcell x11
              have X12 := gcell x12
              have X13 := gcell x13
              have C1 := gcell c1
              have C2 := gcell c2
              have C3 := gcell c3
              have mixed : Tryz.prog.follows .mixedOrders = true := by kernel_rfl
              have eg : ∀ args w, (callFunc 82 args).run Tryz.prog w = .ok (.enter 82 args) w := enters_of Tryz.func82 (by kernel_rfl) rfl
              clear x0 x1 x2 x3 x4 x5 x6 x7 x8 x9 x10 x11 x12 x13
              refine Go.wp_region_quiet_grown (by assumption) (by kernel_rfl) ?_
              repeat (go_big_quiet_step (first | (go_at_fn 82; refine Calls.grown_of (cG.out _ ⟨_, _, rfl⟩))))
              refine Go.wpQuiet_nil ?_
              intro _ hw'
              obtain ⟨⟨nq, osq⟩, hw''⟩ := hw'
              subst hw''
              clear X0 X1 X2 X3 X4 X5 X6 X7 X8 X9 X10 X11 X12 X13
              have d2 := C2 nq osq
              have ew9H : Hid (EW w p (Sort.grow (wr.drewN nq) osq)) := hew.out.below (GR.below ⟨nq, osq, rfl⟩)
              clear C1 C2 C3 c1 c2 c3 cG
              generalize Sort.grow (wr.drewN nq) osq = W9 at *
              go_wp2_with fail
              with_reducible refine Calls.mono (cAt.out 191 _ rfl) ?_
              rintro e w5 ⟨rfl, b5⟩
              have e5 : Hid (EW w p w5) := ew9H.out.below b5
              clear b5 hew cAt fC
              obtain ⟨W2, hst0, y0, y1, y2, y3, y4, bb0⟩ := store_bad e5.out.2.2 191 ((begin_ : Int) + (k : Int)) true
              have hst : Hid ((Instr.storeAt 36 (.pointer (some ⟨w.heap.size + 1, 0, none⟩)) (.agg #[.int .i64 191, .int .i64 ((begin_ : Int) + (k : Int)), .int .i64 0, .bool true, .bool false])).run Tryz.prog w5 = .ok () W2) := hst0
              have finB : Hid (Below w.heap.size w W2) := bb0 _ _ e5.out.1 (by omega)
              clear hst0 bb0 e5
              unfold badV
              go_wp2_with (refine wpList_store_run (by rfl) _ _ _ (by rfl) _ _ _ (by rfl) (by rfl) hst.out ?_)
              clear hst
              simp [bodyPost, results, Tryz.results30, go_sem, y0, y1, y2, y3, y4]
              exact ⟨VV.out.symm, finB.out⟩
            have j3 : ¬ (n : Int) - 1 < ta := by omega
            have dj2 : decide ((n : Int) ≤ ta) = false := decide_eq_false j2
            have hne : ¬ tc = 13 := by omega
            have hbad : bk = 0 := by rw [hb2.out]; simp [*]
            have NX : Hid (firstBad bad (l.drop (k + 1)) (k + 1) = firstBad bad l 0) := NXT.out hbad
            clear hb2 hbad VK NXT hVH hIH hbdH etH cO  h11
            go_wp2_with (first
              | (go_at_call 79; with_reducible refine Calls.mono (fC.out _) ?_; rintro e w' ⟨rfl, rfl⟩))
            obtain ⟨_, ⟨_, x0, x1, x2, x3, x4, x5, x6, x7, x8, x9, x10, x11, x12, x13⟩, _⟩ := hew.out
            have X0 := gcell x0
            have X1 := gcell x1
            have X2 := gcell x2
            have X3 := gcell x3
            have X4 := gcell x4
            have X5 := gcell x5
            have X6 := gcell x6
            have X7 := gcell x7
            have X8 := gcell x8
            have X9 := gcell x9
            have X10 := gcell x10
            have X11 := gcell x11
            have X12 := gcell x12
            have X13 := gcell x13
            have C1 := gcell c1
            have C2 := gcell c2
            have C3 := gcell c3
            have mixed : Tryz.prog.follows .mixedOrders = true := by kernel_rfl
            have eg : ∀ args w, (callFunc 82 args).run Tryz.prog w = .ok (.enter 82 args) w := enters_of Tryz.func82 (by kernel_rfl) rfl
            clear x0 x1 x2 x3 x4 x5 x6 x7 x8 x9 x10 x11 x12 x13
            refine Go.wp_region_quiet_grown (by assumption) (by kernel_rfl) ?_
            repeat (go_big_quiet_step (first | (go_at_fn 82; refine Calls.grown_of (cG.out _ ⟨_, _, rfl⟩))))
            refine Go.wpQuiet_nil ?_
            intro _ hw'
            obtain ⟨⟨nq, osq⟩, hw''⟩ := hw'
            subst hw''
            clear X0 X1 X2 X3 X4 X5 X6 X7 X8 X9 X10 X11 X12 X13
            have d2 := C2 nq osq
            have ew9H : Hid (EW w p (Sort.grow (wr.drewN nq) osq)) := hew.out.below (GR.below ⟨nq, osq, rfl⟩)
            clear C1 C2 C3 c1 c2 c3 cG
            generalize Sort.grow (wr.drewN nq) osq = W9 at *
            go_wp2_with fail
            exact ⟨⟨k + 1, by first | rfl | (rw [kw]), by omega, NX, ew9H⟩, by first | (simp [intOf]; done) | (simp [intOf]; omega)⟩
      by_cases h13 : tc = 13
      · have d10 : decide ((tc : Int) = 10) = false := decide_eq_false (by omega)
        have b10 : ((tc : Int) == 10) = false := by rw [beq_eq_false_iff_ne]; omega
        have d11 : decide ((tc : Int) = 11) = false := decide_eq_false (by omega)
        have b11 : ((tc : Int) == 11) = false := by rw [beq_eq_false_iff_ne]; omega
        have d13 : decide ((tc : Int) = 13) = true := decide_eq_true (by omega)
        have b13 : ((tc : Int) == 13) = true := by rw [beq_iff_eq]; omega
        cases fv with
        | false =>
          have hbad : bk = 180 := by rw [hb2.out]; simp
          have VV : Hid (V = .agg #[.int .i64 180, .int .i64 ((begin_ : Int) + (k : Int)), .int .i64 0, .bool true, .bool false]) := by rw [VK.out (by rw [hbad]; decide), hbad]; rfl
          clear hb2 hbad VK NXT hVH hIH hbdH etH cO cG h13
          go_wp2_with (first
            | (go_at_call 79; with_reducible refine Calls.mono (fC.out _) ?_; rintro e w' ⟨rfl, rfl⟩))
          with_reducible refine Calls.mono (cAt.out 180 _ rfl) ?_
          rintro e w5 ⟨rfl, b5⟩
          have e5 : Hid (EW w p w5) := hew.out.below b5
          clear b5 hew cAt fC
          obtain ⟨W2, hst0, y0, y1, y2, y3, y4, bb0⟩ := store_bad e5.out.2.2 180 ((begin_ : Int) + (k : Int)) true
          have hst : Hid ((Instr.storeAt 36 (.pointer (some ⟨w.heap.size + 1, 0, none⟩)) (.agg #[.int .i64 180, .int .i64 ((begin_ : Int) + (k : Int)), .int .i64 0, .bool true, .bool false])).run Tryz.prog w5 = .ok () W2) := hst0
          have finB : Hid (Below w.heap.size w W2) := bb0 _ _ e5.out.1 (by omega)
          clear hst0 bb0 e5
          unfold badV
          go_wp2_with (refine wpList_store_run (by rfl) _ _ _ (by rfl) _ _ _ (by rfl) (by rfl) hst.out ?_)
          clear hst
          simp [bodyPost, results, Tryz.results30, go_sem, y0, y1, y2, y3, y4]
          exact ⟨VV.out.symm, finB.out⟩
        | true =>
          cases ov with
          | false =>
            have hbad : bk = 192 := by rw [hb2.out]; simp [*]
            have VV : Hid (V = .agg #[.int .i64 192, .int .i64 ((begin_ : Int) + (k : Int)), .int .i64 0, .bool true, .bool false]) := by rw [VK.out (by rw [hbad]; decide), hbad]; rfl
            clear hb2 hbad VK NXT hVH hIH hbdH etH cO  h13
            go_wp2_with (first
              | (go_at_call 79; with_reducible refine Calls.mono (fC.out _) ?_; rintro e w' ⟨rfl, rfl⟩))
            obtain ⟨_, ⟨_, x0, x1, x2, x3, x4, x5, x6, x7, x8, x9, x10, x11, x12, x13⟩, _⟩ := hew.out
            have X0 := gcell x0
            have X1 := gcell x1
            have X2 := gcell x2
            have X3 := gcell x3
            have X4 := gcell x4
            have X5 := gcell x5
            have X6 := gcell x6
            have X7 := gcell x7
            have X8 := gcell x8
            have X9 := gcell x9
            have X10 := gcell x10
            have X11 := gcell x11
            have X12 := gcell x12
            have X13 := gcell x13
            have C1 := gcell c1
            have C2 := gcell c2
            have C3 := gcell c3
            have mixed : Tryz.prog.follows .mixedOrders = true := by kernel_rfl
            have eg : ∀ args w, (callFunc 82 args).run Tryz.prog w = .ok (.enter 82 args) w := enters_of Tryz.func82 (by kernel_rfl) rfl
            clear x0 x1 x2 x3 x4 x5 x6 x7 x8 x9 x10 x11 x12 x13
            refine Go.wp_region_quiet_grown (by assumption) (by kernel_rfl) ?_
            repeat (go_big_quiet_step (first | (go_at_fn 82; refine Calls.grown_of (cG.out _ ⟨_, _, rfl⟩))))
            refine Go.wpQuiet_nil ?_
            intro _ hw'
            obtain ⟨⟨nq, osq⟩, hw''⟩ := hw'
            subst hw''
            clear X0 X1 X2 X3 X4 X5 X6 X7 X8 X9 X10 X11 X12 X13
            have d2 := C2 nq osq
            have ew9H : Hid (EW w p (Sort.grow (wr.drewN nq) osq)) := hew.out.below (GR.below ⟨nq, osq, rfl⟩)
            clear C1 C2 C3 c1 c2 c3 cG
            generalize Sort.grow (wr.drewN nq) osq = W9 at *
            go_wp2_with fail
            with_reducible refine Calls.mono (cAt.out 192 _ rfl) ?_
            rintro e w5 ⟨rfl, b5⟩
            have e5 : Hid (EW w p w5) := ew9H.out.below b5
            clear b5 hew cAt fC
            obtain ⟨W2, hst0, y0, y1, y2, y3, y4, bb0⟩ := store_bad e5.out.2.2 192 ((begin_ : Int) + (k : Int)) true
            have hst : Hid ((Instr.storeAt 36 (.pointer (some ⟨w.heap.size + 1, 0, none⟩)) (.agg #[.int .i64 192, .int .i64 ((begin_ : Int) + (k : Int)), .int .i64 0, .bool true, .bool false])).run Tryz.prog w5 = .ok () W2) := hst0
            have finB : Hid (Below w.heap.size w W2) := bb0 _ _ e5.out.1 (by omega)
            clear hst0 bb0 e5
            unfold badV
            go_wp2_with (refine wpList_store_run (by rfl) _ _ _ (by rfl) _ _ _ (by rfl) (by rfl) hst.out ?_)
            clear hst
            simp [bodyPost, results, Tryz.results30, go_sem, y0, y1, y2, y3, y4]
            exact ⟨VV.out.symm, finB.out⟩
          | true =>
            by_cases j1 : (k : Int) < (n : Int) - 1
            · have dj1 : decide ((k : Int) < (n : Int) - 1) = true := decide_eq_true j1
              have hbad : bk = 193 := by rw [hb2.out]; simp [*]
              have VV : Hid (V = .agg #[.int .i64 193, .int .i64 ((begin_ : Int) + (k : Int)), .int .i64 0, .bool true, .bool false]) := by rw [VK.out (by rw [hbad]; decide), hbad]; rfl
              clear hb2 hbad VK NXT hVH hIH hbdH etH cO  h13
              go_wp2_with (first
                | (go_at_call 79; with_reducible refine Calls.mono (fC.out _) ?_; rintro e w' ⟨rfl, rfl⟩))
              obtain ⟨_, ⟨_, x0, x1, x2, x3, x4, x5, x6, x7, x8, x9, x10, x11, x12, x13⟩, _⟩ := hew.out
              have X0 := gcell x0
              have X1 := gcell x1
              have X2 := gcell x2
              have X3 := gcell x3
              have X4 := gcell x4
              have X5 := gcell x5
              have X6 := gcell x6
              have X7 := gcell x7
              have X8 := gcell x8
              have X9 := gcell x9
              have X10 := gcell x10
              have X11 := gcell x11
              have X12 := gcell x12
              have X13 := gcell x13
              have C1 := gcell c1
              have C2 := gcell c2
              have C3 := gcell c3
              have mixed : Tryz.prog.follows .mixedOrders = true := by kernel_rfl
              have eg : ∀ args w, (callFunc 82 args).run Tryz.prog w = .ok (.enter 82 args) w := enters_of Tryz.func82 (by kernel_rfl) rfl
              clear x0 x1 x2 x3 x4 x5 x6 x7 x8 x9 x10 x11 x12 x13
              refine Go.wp_region_quiet_grown (by assumption) (by kernel_rfl) ?_
              repeat (go_big_quiet_step (first | (go_at_fn 82; refine Calls.grown_of (cG.out _ ⟨_, _, rfl⟩))))
              refine Go.wpQuiet_nil ?_
              intro _ hw'
              obtain ⟨⟨nq, osq⟩, hw''⟩ := hw'
              subst hw''
              clear X0 X1 X2 X3 X4 X5 X6 X7 X8 X9 X10 X11 X12 X13
              have d2 := C2 nq osq
              have ew9H : Hid (EW w p (Sort.grow (wr.drewN nq) osq)) := hew.out.below (GR.below ⟨nq, osq, rfl⟩)
              clear C1 C2 C3 c1 c2 c3 cG
              generalize Sort.grow (wr.drewN nq) osq = W9 at *
              go_wp2_with fail
              with_reducible refine Calls.mono (cAt.out 193 _ rfl) ?_
              rintro e w5 ⟨rfl, b5⟩
              have e5 : Hid (EW w p w5) := ew9H.out.below b5
              clear b5 hew cAt fC
              obtain ⟨W2, hst0, y0, y1, y2, y3, y4, bb0⟩ := store_bad e5.out.2.2 193 ((begin_ : Int) + (k : Int)) true
              have hst : Hid ((Instr.storeAt 36 (.pointer (some ⟨w.heap.size + 1, 0, none⟩)) (.agg #[.int .i64 193, .int .i64 ((begin_ : Int) + (k : Int)), .int .i64 0, .bool true, .bool false])).run Tryz.prog w5 = .ok () W2) := hst0
              have finB : Hid (Below w.heap.size w W2) := bb0 _ _ e5.out.1 (by omega)
              clear hst0 bb0 e5
              unfold badV
              go_wp2_with (refine wpList_store_run (by rfl) _ _ _ (by rfl) _ _ _ (by rfl) (by rfl) hst.out ?_)
              clear hst
              simp [bodyPost, results, Tryz.results30, go_sem, y0, y1, y2, y3, y4]
              exact ⟨VV.out.symm, finB.out⟩
            have dj1 : decide ((k : Int) < (n : Int) - 1) = false := decide_eq_false j1
            have hbad : bk = 0 := by rw [hb2.out]; simp [*]
            have NX : Hid (firstBad bad (l.drop (k + 1)) (k + 1) = firstBad bad l 0) := NXT.out hbad
            clear hb2 hbad VK NXT hVH hIH hbdH etH cO  h13
            go_wp2_with (first
              | (go_at_call 79; with_reducible refine Calls.mono (fC.out _) ?_; rintro e w' ⟨rfl, rfl⟩))
            obtain ⟨_, ⟨_, x0, x1, x2, x3, x4, x5, x6, x7, x8, x9, x10, x11, x12, x13⟩, _⟩ := hew.out
            have X0 := gcell x0
            have X1 := gcell x1
            have X2 := gcell x2
            have X3 := gcell x3
            have X4 := gcell x4
            have X5 := gcell x5
            have X6 := gcell x6
            have X7 := gcell x7
            have X8 := gcell x8
            have X9 := gcell x9
            have X10 := gcell x10
            have X11 := gcell x11
            have X12 := gcell x12
            have X13 := gcell x13
            have C1 := gcell c1
            have C2 := gcell c2
            have C3 := gcell c3
            have mixed : Tryz.prog.follows .mixedOrders = true := by kernel_rfl
            have eg : ∀ args w, (callFunc 82 args).run Tryz.prog w = .ok (.enter 82 args) w := enters_of Tryz.func82 (by kernel_rfl) rfl
            clear x0 x1 x2 x3 x4 x5 x6 x7 x8 x9 x10 x11 x12 x13
            refine Go.wp_region_quiet_grown (by assumption) (by kernel_rfl) ?_
            repeat (go_big_quiet_step (first | (go_at_fn 82; refine Calls.grown_of (cG.out _ ⟨_, _, rfl⟩))))
            refine Go.wpQuiet_nil ?_
            intro _ hw'
            obtain ⟨⟨nq, osq⟩, hw''⟩ := hw'
            subst hw''
            clear X0 X1 X2 X3 X4 X5 X6 X7 X8 X9 X10 X11 X12 X13
            have d2 := C2 nq osq
            have ew9H : Hid (EW w p (Sort.grow (wr.drewN nq) osq)) := hew.out.below (GR.below ⟨nq, osq, rfl⟩)
            clear C1 C2 C3 c1 c2 c3 cG
            generalize Sort.grow (wr.drewN nq) osq = W9 at *
            go_wp2_with fail
            exact ⟨⟨k + 1, by first | rfl | (rw [kw]), by omega, NX, ew9H⟩, by first | (simp [intOf]; done) | (simp [intOf]; omega)⟩
      have d10 : decide ((tc : Int) = 10) = false := decide_eq_false (by omega)
      have b10 : ((tc : Int) == 10) = false := by rw [beq_eq_false_iff_ne]; omega
      have d11 : decide ((tc : Int) = 11) = false := decide_eq_false (by omega)
      have b11 : ((tc : Int) == 11) = false := by rw [beq_eq_false_iff_ne]; omega
      have d13 : decide ((tc : Int) = 13) = false := decide_eq_false (by omega)
      have b13 : ((tc : Int) == 13) = false := by rw [beq_eq_false_iff_ne]; omega
      cases fv with
      | false =>
        have hbad : bk = 180 := by rw [hb2.out]; simp
        have VV : Hid (V = .agg #[.int .i64 180, .int .i64 ((begin_ : Int) + (k : Int)), .int .i64 0, .bool true, .bool false]) := by rw [VK.out (by rw [hbad]; decide), hbad]; rfl
        clear hb2 hbad VK NXT hVH hIH hbdH etH cO cG 
        go_wp2_with (first
          | (go_at_call 79; with_reducible refine Calls.mono (fC.out _) ?_; rintro e w' ⟨rfl, rfl⟩))
        with_reducible refine Calls.mono (cAt.out 180 _ rfl) ?_
        rintro e w5 ⟨rfl, b5⟩
        have e5 : Hid (EW w p w5) := hew.out.below b5
        clear b5 hew cAt fC
        obtain ⟨W2, hst0, y0, y1, y2, y3, y4, bb0⟩ := store_bad e5.out.2.2 180 ((begin_ : Int) + (k : Int)) true
        have hst : Hid ((Instr.storeAt 36 (.pointer (some ⟨w.heap.size + 1, 0, none⟩)) (.agg #[.int .i64 180, .int .i64 ((begin_ : Int) + (k : Int)), .int .i64 0, .bool true, .bool false])).run Tryz.prog w5 = .ok () W2) := hst0
        have finB : Hid (Below w.heap.size w W2) := bb0 _ _ e5.out.1 (by omega)
        clear hst0 bb0 e5
        unfold badV
        go_wp2_with (refine wpList_store_run (by rfl) _ _ _ (by rfl) _ _ _ (by rfl) (by rfl) hst.out ?_)
        clear hst
        simp [bodyPost, results, Tryz.results30, go_sem, y0, y1, y2, y3, y4]
        exact ⟨VV.out.symm, finB.out⟩
      | true =>
        cases ov with
        | false =>
          have hbad : bk = 192 := by rw [hb2.out]; simp [*]
          have VV : Hid (V = .agg #[.int .i64 192, .int .i64 ((begin_ : Int) + (k : Int)), .int .i64 0, .bool true, .bool false]) := by rw [VK.out (by rw [hbad]; decide), hbad]; rfl
          clear hb2 hbad VK NXT hVH hIH hbdH etH cO  
          go_wp2_with (first
            | (go_at_call 79; with_reducible refine Calls.mono (fC.out _) ?_; rintro e w' ⟨rfl, rfl⟩))
          obtain ⟨_, ⟨_, x0, x1, x2, x3, x4, x5, x6, x7, x8, x9, x10, x11, x12, x13⟩, _⟩ := hew.out
          have X0 := gcell x0
          have X1 := gcell x1
          have X2 := gcell x2
          have X3 := gcell x3
          have X4 := gcell x4
          have X5 := gcell x5
          have X6 := gcell x6
          have X7 := gcell x7
          have X8 := gcell x8
          have X9 := gcell x9
          have X10 := gcell x10
          have X11 := gcell x11
          have X12 := gcell x12
          have X13 := gcell x13
          have C1 := gcell c1
          have C2 := gcell c2
          have C3 := gcell c3
          have mixed : Tryz.prog.follows .mixedOrders = true := by kernel_rfl
          have eg : ∀ args w, (callFunc 82 args).run Tryz.prog w = .ok (.enter 82 args) w := enters_of Tryz.func82 (by kernel_rfl) rfl
          clear x0 x1 x2 x3 x4 x5 x6 x7 x8 x9 x10 x11 x12 x13
          refine Go.wp_region_quiet_grown (by assumption) (by kernel_rfl) ?_
          repeat (go_big_quiet_step (first | (go_at_fn 82; refine Calls.grown_of (cG.out _ ⟨_, _, rfl⟩))))
          refine Go.wpQuiet_nil ?_
          intro _ hw'
          obtain ⟨⟨nq, osq⟩, hw''⟩ := hw'
          subst hw''
          clear X0 X1 X2 X3 X4 X5 X6 X7 X8 X9 X10 X11 X12 X13
          have d2 := C2 nq osq
          have ew9H : Hid (EW w p (Sort.grow (wr.drewN nq) osq)) := hew.out.below (GR.below ⟨nq, osq, rfl⟩)
          clear C1 C2 C3 c1 c2 c3 cG
          generalize Sort.grow (wr.drewN nq) osq = W9 at *
          go_wp2_with fail
          with_reducible refine Calls.mono (cAt.out 192 _ rfl) ?_
          rintro e w5 ⟨rfl, b5⟩
          have e5 : Hid (EW w p w5) := ew9H.out.below b5
          clear b5 hew cAt fC
          obtain ⟨W2, hst0, y0, y1, y2, y3, y4, bb0⟩ := store_bad e5.out.2.2 192 ((begin_ : Int) + (k : Int)) true
          have hst : Hid ((Instr.storeAt 36 (.pointer (some ⟨w.heap.size + 1, 0, none⟩)) (.agg #[.int .i64 192, .int .i64 ((begin_ : Int) + (k : Int)), .int .i64 0, .bool true, .bool false])).run Tryz.prog w5 = .ok () W2) := hst0
          have finB : Hid (Below w.heap.size w W2) := bb0 _ _ e5.out.1 (by omega)
          clear hst0 bb0 e5
          unfold badV
          go_wp2_with (refine wpList_store_run (by rfl) _ _ _ (by rfl) _ _ _ (by rfl) (by rfl) hst.out ?_)
          clear hst
          simp [bodyPost, results, Tryz.results30, go_sem, y0, y1, y2, y3, y4]
          exact ⟨VV.out.symm, finB.out⟩
        | true =>
          have hbad : bk = 0 := by rw [hb2.out]; simp [*]
          have NX : Hid (firstBad bad (l.drop (k + 1)) (k + 1) = firstBad bad l 0) := NXT.out hbad
          clear hb2 hbad VK NXT hVH hIH hbdH etH cO  
          go_wp2_with (first
            | (go_at_call 79; with_reducible refine Calls.mono (fC.out _) ?_; rintro e w' ⟨rfl, rfl⟩))
          obtain ⟨_, ⟨_, x0, x1, x2, x3, x4, x5, x6, x7, x8, x9, x10, x11, x12, x13⟩, _⟩ := hew.out
          have X0 := gcell x0
          have X1 := gcell x1
          have X2 := gcell x2
          have X3 := gcell x3
          have X4 := gcell x4
          have X5 := gcell x5
          have X6 := gcell x6
          have X7 := gcell x7
          have X8 := gcell x8
          have X9 := gcell x9
          have X10 := gcell x10
          have X11 := gcell x11
          have X12 := gcell x12
          have X13 := gcell x13
          have C1 := gcell c1
          have C2 := gcell c2
          have C3 := gcell c3
          have mixed : Tryz.prog.follows .mixedOrders = true := by kernel_rfl
          have eg : ∀ args w, (callFunc 82 args).run Tryz.prog w = .ok (.enter 82 args) w := enters_of Tryz.func82 (by kernel_rfl) rfl
          clear x0 x1 x2 x3 x4 x5 x6 x7 x8 x9 x10 x11 x12 x13
          refine Go.wp_region_quiet_grown (by assumption) (by kernel_rfl) ?_
          repeat (go_big_quiet_step (first | (go_at_fn 82; refine Calls.grown_of (cG.out _ ⟨_, _, rfl⟩))))
          refine Go.wpQuiet_nil ?_
          intro _ hw'
          obtain ⟨⟨nq, osq⟩, hw''⟩ := hw'
          subst hw''
          clear X0 X1 X2 X3 X4 X5 X6 X7 X8 X9 X10 X11 X12 X13
          have d2 := C2 nq osq
          have ew9H : Hid (EW w p (Sort.grow (wr.drewN nq) osq)) := hew.out.below (GR.below ⟨nq, osq, rfl⟩)
          clear C1 C2 C3 c1 c2 c3 cG
          generalize Sort.grow (wr.drewN nq) osq = W9 at *
          go_wp2_with fail
          exact ⟨⟨k + 1, by first | rfl | (rw [kw]), by omega, NX, ew9H⟩, by first | (simp [intOf]; done) | (simp [intOf]; omega)⟩
    · have kI : ¬ (k : Int) < (n : Int) := by omega
      have ekn : k = n := by omega
      have hV2 : Hid (V = bdO begin_ (if (l.getLast?.map fun i => i.c) = some 13 then none else some (n, 193))) := by
        have h2 := hfb.out
        rw [List.drop_eq_nil_of_le (by rw [hnH.out]; omega)] at h2
        rw [hVH.out, ← h2, ← hnH.out]; rfl
      have bw2 : IntKind.i64.wrap ((begin_ : Int) + (n : Int)) = (begin_ : Int) + (n : Int) := IntWalk.i64_in _ (by omega)
      have cAt : Hid (∀ W, Calls Tryz.prog 81 #[.int .i64 ((begin_ : Int) + (n : Int)), .int .i64 193] W fun ev w' => ev = .returned (badV 193 ((begin_ : Int) + (n : Int)) true) ∧ Below W.heap.size W w') := fun W => refAt_any _ 193 (by decide) W
      rcases Nat.eq_zero_or_pos n with h0 | h0
      · have VV : Hid (V = .agg #[.int .i64 193, .int .i64 ((begin_ : Int) + (n : Int)), .int .i64 0, .bool true, .bool false]) := by
          rw [hV2.out, List.length_eq_zero_iff.1 (hnH.out.trans h0)]; rfl
        have h0I : ((n : Int) == 0) = true := by rw [h0]; rfl
        have h0d : decide ((n : Int) = 0) = true := by rw [h0]; rfl
        clear hV2 hVH hfb cO hIH hbdH hnH h0 ekn
        go_wp2_with fail
        with_reducible refine Calls.mono (cAt.out _) ?_
        rintro e w5 ⟨rfl, b5⟩
        have e5 : Hid (EW w p w5) := hew.out.below b5
        clear b5 hew cAt
        obtain ⟨W2, hst0, y0, y1, y2, y3, y4, bb0⟩ := store_bad e5.out.2.2 193 ((begin_ : Int) + (n : Int)) true
        have hst : Hid ((Instr.storeAt 36 (.pointer (some ⟨w.heap.size + 1, 0, none⟩)) (.agg #[.int .i64 193, .int .i64 ((begin_ : Int) + (n : Int)), .int .i64 0, .bool true, .bool false])).run Tryz.prog w5 = .ok () W2) := hst0
        have finB : Hid (Below w.heap.size w W2) := bb0 _ _ e5.out.1 (by omega)
        clear hst0 bb0 e5
        unfold badV
        go_wp2_with (refine wpList_store_run (by rfl) _ _ _ (by rfl) _ _ _ (by rfl) (by rfl) hst.out ?_)
        clear hst
        simp [bodyPost, results, Tryz.results30, go_sem, y0, y1, y2, y3, y4]
        exact ⟨VV.out.symm, finB.out⟩
      · have h0I : ((n : Int) == 0) = false := by rw [beq_eq_false_iff_ne]; omega
        have h0d : decide ((n : Int) = 0) = false := decide_eq_false (by omega)
        have lw : IntKind.i64.wrap ((n : Int) - 1) = ((n - 1 : Nat) : Int) := by rw [IntWalk.i64_in _ (by omega)]; omega
        have l1 : ((n - 1 : Nat) : Int) < (n : Int) := by omega
        have l2 : (0 : Int) ≤ ((n - 1 : Nat) : Int) := by omega
        obtain ⟨g, off, t, et, rfl, gl, c1, c2, c3⟩ := (hIH.out.below hew.out.1 (Nat.le_refl _)).at (k := n - 1) (by rw [hnH.out]; omega)
        obtain ⟨tc, ta, tb⟩ := t
        have hlast : l.getLast? = some ⟨tc, ta, tb⟩ := by rw [List.getLast?_eq_getElem?, hnH.out]; exact et
        obtain ⟨m, hm⟩ : ∃ m, n - 1 = m := ⟨_, rfl⟩
        rw [hm] at lw l1 l2 c1 c2 c3
        have lw2 : IntKind.i64.wrap ((n : Int) - 1) = (m : Int) := lw
        by_cases hc : tc = 13
        · have VV : Hid (V = .agg #[.int .i64 0, .int .i64 0, .int .i64 0, .bool false, .bool false]) := by
            rw [hV2.out, hlast]; simp only [Option.map_some, hc, if_true]; rfl
          have d1 : decide ((tc : Int) = 13) = true := decide_eq_true (by omega)
          have d2 : ((tc : Int) == 13) = true := by rw [beq_iff_eq]; omega
          subst hc
          clear hV2 hVH hfb cO hIH hbdH hnH h0 ekn hlast et cAt lw hm gl
          obtain ⟨W2, hst0, y0, y1, y2, y3, y4, bb0⟩ := store_bad hew.out.2.2 0 0 false
          have hst : Hid ((Instr.storeAt 36 (.pointer (some ⟨w.heap.size + 1, 0, none⟩)) (.agg #[.int .i64 0, .int .i64 0, .int .i64 0, .bool false, .bool false])).run Tryz.prog wr = .ok () W2) := hst0
          have finB : Hid (Below w.heap.size w W2) := bb0 _ _ hew.out.1 (by omega)
          clear hst0 bb0 hew
          go_wp2_with (refine wpList_store_run (by rfl) _ _ _ (by rfl) _ _ _ (by rfl) (by rfl) hst.out ?_)
          clear hst
          simp [bodyPost, results, Tryz.results30, go_sem, y0, y1, y2, y3, y4]
          exact ⟨VV.out.symm, finB.out⟩
        · have VV : Hid (V = .agg #[.int .i64 193, .int .i64 ((begin_ : Int) + (n : Int)), .int .i64 0, .bool true, .bool false]) := by
            rw [hV2.out, hlast]; simp only [Option.map_some, Option.some.injEq, hc, if_false]; rfl
          have d1 : decide ((tc : Int) = 13) = false := decide_eq_false (by omega)
          have d2 : ((tc : Int) == 13) = false := by rw [beq_eq_false_iff_ne]; omega
          have d3 : ¬ (tc : Int) = 13 := by omega
          clear hV2 hVH hfb cO hIH hbdH hnH h0 ekn hlast et lw hm gl hc
          go_wp2_with fail
          with_reducible refine Calls.mono (cAt.out _) ?_
          rintro e w5 ⟨rfl, b5⟩
          have e5 : Hid (EW w p w5) := hew.out.below b5
          clear b5 hew cAt
          obtain ⟨W2, hst0, y0, y1, y2, y3, y4, bb0⟩ := store_bad e5.out.2.2 193 ((begin_ : Int) + (n : Int)) true
          have hst : Hid ((Instr.storeAt 36 (.pointer (some ⟨w.heap.size + 1, 0, none⟩)) (.agg #[.int .i64 193, .int .i64 ((begin_ : Int) + (n : Int)), .int .i64 0, .bool true, .bool false])).run Tryz.prog w5 = .ok () W2) := hst0
          have finB : Hid (Below w.heap.size w W2) := bb0 _ _ e5.out.1 (by omega)
          clear hst0 bb0 e5
          unfold badV
          go_wp2_with (refine wpList_store_run (by rfl) _ _ _ (by rfl) _ _ _ (by rfl) (by rfl) hst.out ?_)
          clear hst
          simp [bodyPost, results, Tryz.results30, go_sem, y0, y1, y2, y3, y4]
          exact ⟨VV.out.symm, finB.out⟩
end Go.Proofs.YtdfnomglkibfbaaGreatDoor.Vf
