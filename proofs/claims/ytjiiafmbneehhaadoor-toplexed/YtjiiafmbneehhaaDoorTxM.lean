
import Derived.Test.YtjiiafmbneehhaaDoorTxL
namespace Go.Proofs.YtjiiafmbneehhaaDoor.Lx
open Go.RowKit Go.Shelf
set_option linter.unusedVariables false
set_option linter.unusedSimpArgs false
set_option maxRecDepth 100000
set_option maxHeartbeats 2000000 in
theorem topLexed_walk (s : ByteArray) (w : World) (hP : PT w) : Calls Tryd.prog 3 #[.string s] w fun e w' => e = .returned (.bool true) ∧ Below w.heap.size w w' := by
  by_cases hlt : s.size ≤ 4000
  · have c1 := lall_short s hlt w hP
    unfold AR at c1
    cases hL : lexL nmL (s.size + 1) (bL s) with
    | none =>
      rw [hL] at c1
      have c1H := hid c1
      have hs0 : (0 : Int) < (s.size : Int) := by
        rcases Nat.eq_zero_or_pos s.size with h | h
        · exfalso
          have : bL s = [] := List.eq_nil_of_length_eq_zero (by rw [bL_len]; exact h)
          rw [this, h] at hL
          exact absurd hL (by decide)
        · omega
      clear c1 hL hP
      go_enter Tryd.func3, Tryd.ntmps3
      go_wp2_with fail
      with_reducible refine Calls.mono c1H.out ?_
      rintro e w2 ⟨⟨q, c, rfl⟩, b2⟩
      unfold atE
      have B2 := hid b2
      clear b2 c1H
      go_wp2_with fail
      go_ret
      refine ⟨?_, B2.out⟩
      show Ending.returned (.bool (decide (0 < s.size))) = _
      rw [decide_eq_true (by omega)]
    | some ts =>
      rw [hL] at c1
      have c1H := hid c1
      have hsum := lex_sum nm_45 _ _ _ hL
      rw [bL_len] at hsum
      have hag := hid (lex_again nm_45 hL)
      obtain ⟨us, hus, _⟩ := lex_valid nm_45 _ _ _ hL
      have hne : 0 < ts.length := by rw [hus, List.length_append]; show 0 < us.length + 1; omega
      clear hus c1 hL
      have tq : Hid (∀ (T : ByteArray), T.size ≤ 1048576 → ∀ W, Calls Tryd.prog 5 #[.string T] W fun e w' => ∃ S, e = .returned (.string S) ∧ bL S = 34 :: (escL 34 (bL T) ++ [34]) ∧ w' = W) := fun T hT W => tquoted_any T hT W
      have tt : Hid (∀ (T : ByteArray), T.size ≤ 1048576 → ∀ W, Calls Tryd.prog 6 #[.string T] W fun e w' => ∃ S, e = .returned (.string S) ∧ bL S = 39 :: (escL 39 (bL T) ++ [39]) ∧ Below W.heap.size W w') := fun T hT W => text_any T hT W
      have cA : Hid (∀ (S : ByteArray) W, Below w.heap.size w W → if S.size ≤ 4000 then Calls Tryd.prog 4 #[.string S] W fun e w' => AR S W.heap.size e w' ∧ Below W.heap.size W w' else Calls Tryd.prog 4 #[.string S] W fun e w' => e = .returned (.tuple #[.slice none 0 0, .iface 33 (.int .i64 6)]) ∧ w' = W) := fun S W hb => by
        by_cases h : S.size ≤ 4000
        · rw [if_pos h]; exact lall_short S h W (hP.on hb)
        · rw [if_neg h]; exact lall_long S h W
      clear hP
      go_enter Tryd.func3, Tryd.ntmps3
      go_wp2_with fail
      with_reducible refine Calls.mono c1H.out ?_
      rintro e w2 ⟨⟨v, L, rfl, hO, hLt, hLn⟩, b2⟩
      obtain ⟨a, cap, rfl, hcap, hin⟩ := hO.tin
      have hlen : ts.length = L.length := by rw [← hLt, List.length_map]
      obtain ⟨b, off, rfl, hb, hc⟩ : ∃ b off, a = some ⟨b, off, none⟩ ∧ b < w2.heap.size ∧ ∀ (i : Nat) (x : TkP), L[i]? = some x → w2.cell? ⟨b, off + i * 4, none⟩ = some (.int .u8 (x.k : Int)) ∧ w2.cell? ⟨b, off + i * 4 + 1, none⟩ = some (.string x.t) ∧ w2.cell? ⟨b, off + i * 4 + 2, none⟩ = some (.int .i64 x.n) ∧ w2.cell? ⟨b, off + i * 4 + 3, none⟩ = some (.int .i64 x.p) := by
        rcases hin with h | h
        · rw [h] at hlen; simp at hlen; rw [hlen] at hne; simp at hne
        · exact h
      have B2 := hid b2
      have hcH := hid hc
      have hrn := rnd_le ts
      have tot : Hid ((rndL ts).length ≤ 20003) := hid (by omega)
      have hgetH : Hid (∀ i, i < L.length → ∃ x t, L[i]? = some x ∧ ts[i]? = some t ∧ t = tkO x ∧ x.t.size ≤ 1048576 ∧ rndL (ts.take (i + 1)) = rndL (ts.take i) ++ (renL t ++ [32]) ∧ (rndL (ts.take i)).length + (renL t).length + 1 ≤ 20003) := fun i hi => by
        have e1 : L[i]? = some L[i] := List.getElem?_eq_getElem hi
        have e2 : ts[i]? = some (tkO L[i]) := by rw [← hLt, List.getElem?_map, e1]; rfl
        have e3 := rnd_take ts i _ e2
        have e4 := sum_get ts i _ e2
        have e5 := rnd_pre ts (i + 1)
        have e6 := tot.out
        refine ⟨_, _, e1, e2, rfl, ?_, e3, ?_⟩
        · have : (bL L[i].t).length ≤ sumT ts := e4
          rw [bL_len] at this
          omega
        · rw [e3, List.length_append, List.length_append] at e5
          simp only [List.length_cons, List.length_nil] at e5
          omega
      have hLtH := hid hLt
      have hLnH := hid hLn
      have hlenH := hid hlen
      have hneH : 0 < L.length := by omega
      have hbH := hid hb
      clear b2 hc hrn hin hO c1H hsum hLt hLn hlen hne hb hcap
      go_wp2_with fail
      go_loopw [5, 6] (fun v5 v6 wr => ∃ (i : Nat) (S : ByteArray), v5 = .string S ∧ v6 = .int .i64 (i : Int) ∧ i ≤ L.length ∧ Hid (bL S = rndL (ts.take i)) ∧ Hid (Below w2.heap.size w2 wr)) (fun _ v6 _ => L.length - (intOf v6).toNat)
      case atStart => exact ⟨0, ⟨#[]⟩, rfl, rfl, Nat.zero_le _, rfl, Below.refl _ _⟩
      case round =>
        obtain ⟨i, S, rfl, rfl, hi, hS, hW⟩ := hrel
        have i0 : (0 : Int) ≤ (i : Int) := by omega
        by_cases hiL : i < L.length
        · obtain ⟨x, t, g1, g2, g3, g4, g5, g6⟩ := hgetH.out i hiL
          have iI : (i : Int) < (L.length : Int) := by omega
          have iw : IntKind.i64.wrap ((i : Int) + 1) = ((i + 1 : Nat) : Int) := IntWalk.i64_in _ (by have := hLnH.out; omega)
          obtain ⟨d0, d1, d2, d3⟩ := hcH.out i x g1
          have kp : ∀ o, wr.cell? ⟨b, o, none⟩ = w2.cell? ⟨b, o, none⟩ := fun o => hW.out.cell (p := ⟨b, o, none⟩) hbH.out
          rw [← kp] at d0 d1
          clear hag tot hgetH hcH kp d2 d3 cA hLtH g1 g2
          by_cases h2 : x.k = 2
          · have q1 : ((x.k : Int) == 2) = true := beq_iff_eq.2 (by omega)
            have q2 : decide ((x.k : Int) = 2) = true := decide_eq_true (by omega)
            have rt : renL t = 34 :: (escL 34 (bL x.t) ++ [34]) := by
              rw [g3]; unfold renL; show (if x.k = 2 then _ else _) = _
              rw [if_pos h2]; rfl
            have cq := tq.out x.t g4 wr
            have cqH := hid cq
            have rtH := hid rt
            have g3H := hid g3
            clear cq rt g3 h2
            go_wp2_with fail
            with_reducible refine Calls.mono cqH.out ?_
            rintro e w3 ⟨U, rfl, hU, hw⟩
            rw [← rtH.out] at hU
            subst hw
            have a1 : ∀ W, (Op.stringOp .add U ⟨#[32]⟩).run Tryd.prog W = .ok (.string (U ++ ⟨#[32]⟩)) W := fun W => cat_run _ _ (by rw [hU]; show (renL t).length + 1 ≤ _; omega) W
            have a2 : ∀ W, (Op.stringOp .add S (U ++ ⟨#[32]⟩)).run Tryd.prog W = .ok (.string (S ++ (U ++ ⟨#[32]⟩))) W := fun W => cat_run _ _ (by rw [bL_app, hU, hS.out, List.length_append]; show (rndL (ts.take i)).length + ((renL t).length + 1) ≤ _; omega) W
            have NX : Hid (bL (S ++ (U ++ ⟨#[32]⟩)) = rndL (ts.take (i + 1))) := hid (by rw [bL_app, bL_app, hU, hS.out, g5]; rfl)
            have hUH := hid hU
            clear hU cqH 
            go_wp2_with (first | simp only [a1, a2])
            exact ⟨⟨i + 1, _, rfl, by first | rfl | (rw [iw]), hiL, NX, hW⟩, by first | (simp [intOf]; done) | (simp [intOf]; omega)⟩
          · have p1 : ((x.k : Int) == 2) = false := beq_eq_false_iff_ne.2 (by omega)
            have p2 : decide ((x.k : Int) = 2) = false := decide_eq_false (by omega)
            by_cases h3 : x.k = 3
            · have q1 : ((x.k : Int) == 3) = true := beq_iff_eq.2 (by omega)
              have q2 : decide ((x.k : Int) = 3) = true := decide_eq_true (by omega)
              have rt : renL t = 39 :: (escL 39 (bL x.t) ++ [39]) := by
                rw [g3]; unfold renL; show (if x.k = 2 then _ else _) = _
                rw [if_neg h2]; show (if x.k = 3 then _ else _) = _; rw [if_pos h3]; rfl
              have cq := tt.out x.t g4 wr
              have cqH := hid cq
              have rtH := hid rt
              have g3H := hid g3
              clear cq rt g3 h2 h3
              go_wp2_with fail
              with_reducible refine Calls.mono cqH.out ?_
              rintro e w3 ⟨U, rfl, hU, b3⟩
              rw [← rtH.out] at hU
              have B3 := hid (hW.out.trans (b3.mono hW.out.size))
              have a1 : ∀ W, (Op.stringOp .add U ⟨#[32]⟩).run Tryd.prog W = .ok (.string (U ++ ⟨#[32]⟩)) W := fun W => cat_run _ _ (by rw [hU]; show (renL t).length + 1 ≤ _; omega) W
              have a2 : ∀ W, (Op.stringOp .add S (U ++ ⟨#[32]⟩)).run Tryd.prog W = .ok (.string (S ++ (U ++ ⟨#[32]⟩))) W := fun W => cat_run _ _ (by rw [bL_app, hU, hS.out, List.length_append]; show (rndL (ts.take i)).length + ((renL t).length + 1) ≤ _; omega) W
              have NX : Hid (bL (S ++ (U ++ ⟨#[32]⟩)) = rndL (ts.take (i + 1))) := hid (by rw [bL_app, bL_app, hU, hS.out, g5]; rfl)
              have hUH := hid hU
              clear hU cqH b3
              go_wp2_with (first | simp only [a1, a2])
              exact ⟨⟨i + 1, _, rfl, by first | rfl | (rw [iw]), hiL, NX, B3⟩, by first | (simp [intOf]; done) | (simp [intOf]; omega)⟩
            · have p3 : ((x.k : Int) == 3) = false := beq_eq_false_iff_ne.2 (by omega)
              have p4 : decide ((x.k : Int) = 3) = false := decide_eq_false (by omega)
              have rt : renL t = bL x.t := by
                rw [g3]; unfold renL; show (if x.k = 2 then _ else _) = _
                rw [if_neg h2]; show (if x.k = 3 then _ else _) = _
                rw [if_neg h3]; rfl
              obtain ⟨U, hUx⟩ : ∃ U, x.t = U := ⟨_, rfl⟩
              rw [hUx] at d1 rt
              have hU : bL U = renL t := rt.symm
              have a1 : ∀ W, (Op.stringOp .add U ⟨#[32]⟩).run Tryd.prog W = .ok (.string (U ++ ⟨#[32]⟩)) W := fun W => cat_run _ _ (by rw [hU]; show (renL t).length + 1 ≤ _; omega) W
              have a2 : ∀ W, (Op.stringOp .add S (U ++ ⟨#[32]⟩)).run Tryd.prog W = .ok (.string (S ++ (U ++ ⟨#[32]⟩))) W := fun W => cat_run _ _ (by rw [bL_app, hU, hS.out, List.length_append]; show (rndL (ts.take i)).length + ((renL t).length + 1) ≤ _; omega) W
              have NX : Hid (bL (S ++ (U ++ ⟨#[32]⟩)) = rndL (ts.take (i + 1))) := hid (by rw [bL_app, bL_app, hU, hS.out, g5]; rfl)
              have hUH := hid hU
              clear hU rt g3 hUx h2 h3
              go_wp2_with (first | simp only [a1, a2])
              exact ⟨⟨i + 1, _, rfl, by first | rfl | (rw [iw]), hiL, NX, hW⟩, by first | (simp [intOf]; done) | (simp [intOf]; omega)⟩
        · have hiE : i = L.length := by omega
          have iI : ¬ (i : Int) < (L.length : Int) := by omega
          have eS : bL S = rndL ts := by rw [hS.out, hiE, ← hlenH.out, List.take_length]
          have hWw := B2.out.trans (hW.out.mono B2.out.size)
          have c2 := cA.out S wr hWw
          have eSl : S.size = (rndL ts).length := by rw [← eS, bL_len]
          by_cases hS4 : S.size ≤ 4000
          · rw [if_pos hS4] at c2
            unfold AR at c2
            rw [eS, eSl, hag.out] at c2
            have c2H := hid c2
            have k4 : ¬ (4000 : Int) < (S.size : Int) := by omega
            clear c2 cA hag tot hgetH tq tt eS eSl hS hS4 hWw
            go_wp2_with fail
            with_reducible refine Calls.mono c2H.out ?_
            rintro e w4 ⟨⟨v2, L2, rfl, hO2, hLt2, hLn2⟩, b4⟩
            obtain ⟨a2, cap2, rfl, hcap2, hin2⟩ := hO2.tin
            have hlen2 : L2.length = L.length := by rw [← hlenH.out, ← hLt2, List.length_map]
            obtain ⟨b', off', rfl, hb', hc'⟩ : ∃ b' off', a2 = some ⟨b', off', none⟩ ∧ b' < w4.heap.size ∧ ∀ (i : Nat) (x : TkP), L2[i]? = some x → w4.cell? ⟨b', off' + i * 4, none⟩ = some (.int .u8 (x.k : Int)) ∧ w4.cell? ⟨b', off' + i * 4 + 1, none⟩ = some (.string x.t) ∧ w4.cell? ⟨b', off' + i * 4 + 2, none⟩ = some (.int .i64 x.n) ∧ w4.cell? ⟨b', off' + i * 4 + 3, none⟩ = some (.int .i64 x.p) := by
              rcases hin2 with h | h
              · rw [h] at hlen2; simp at hlen2; omega
              · exact h
            rw [hlen2]
            have W24 := hW.out.trans (b4.mono hW.out.size)
            have both : Hid (∀ j, j < L.length → ∃ x : TkP, (w4.cell? ⟨b, off + j * 4, none⟩ = some (.int .u8 (x.k : Int)) ∧ w4.cell? ⟨b, off + j * 4 + 1, none⟩ = some (.string x.t) ∧ w4.cell? ⟨b, off + j * 4 + 2, none⟩ = some (.int .i64 x.n)) ∧ (w4.cell? ⟨b', off' + j * 4, none⟩ = some (.int .u8 (x.k : Int)) ∧ w4.cell? ⟨b', off' + j * 4 + 1, none⟩ = some (.string x.t) ∧ w4.cell? ⟨b', off' + j * 4 + 2, none⟩ = some (.int .i64 x.n))) := fun j hj => by
              have e1 : L[j]? = some L[j] := List.getElem?_eq_getElem hj
              have hj2 : j < L2.length := by omega
              have e2 : L2[j]? = some L2[j] := List.getElem?_eq_getElem hj2
              have f1 : ts[j]? = some (tkO L[j]) := by rw [← hLtH.out, List.getElem?_map, e1]; rfl
              have f2 : ts[j]? = some (tkO L2[j]) := by rw [← hLt2, List.getElem?_map, e2]; rfl
              rw [f1] at f2
              injection f2 with f2
              unfold tkO at f2
              injection f2 with m1 m2 m3
              have m4 := bL_inj m2
              obtain ⟨d0, d1, d2, d3⟩ := hcH.out j _ e1
              obtain ⟨u0, u1, u2, u3⟩ := hc' j _ e2
              have kp : ∀ o, w4.cell? ⟨b, o, none⟩ = w2.cell? ⟨b, o, none⟩ := fun o => W24.cell (p := ⟨b, o, none⟩) hbH.out
              rw [← kp] at d0 d1 d2
              rw [← m1] at u0
              rw [← m4] at u1
              rw [← m3] at u2
              exact ⟨L[j], ⟨d0, d1, d2⟩, ⟨u0, u1, u2⟩⟩
            have hb4 : b < w4.heap.size := Nat.lt_of_lt_of_le hbH.out W24.size
            have hbA := hid hb4
            have hbB := hid hb'
            have BB := hid (B2.out.trans (W24.mono B2.out.size))
            clear hc' hin2 hO2 hLt2 hLn2 hcap2 hlen2 c2H b4 W24 hb4 hb' hcH hLtH hW hbH B2
            go_wp2_with fail
            go_loopw [8] (fun v8 wr => ∃ j : Nat, v8 = .int .i64 (j : Int) ∧ j ≤ L.length ∧ Hid (Below w4.heap.size w4 wr)) (fun v8 _ => L.length - (intOf v8).toNat)
            case atStart => exact ⟨0, rfl, Nat.zero_le _, Below.refl _ _⟩
            case round =>
              obtain ⟨j, rfl, hj, hQ⟩ := hrel
              have j0 : (0 : Int) ≤ (j : Int) := by omega
              by_cases hjL : j < L.length
              · have jI : (j : Int) < (L.length : Int) := by omega
                have jw : IntKind.i64.wrap ((j : Int) + 1) = ((j + 1 : Nat) : Int) := IntWalk.i64_in _ (by have := hLnH.out; omega)
                obtain ⟨x, ⟨d0, d1, d2⟩, ⟨u0, u1, u2⟩⟩ := both.out j hjL
                have kp : ∀ o, wr.cell? ⟨b, o, none⟩ = w4.cell? ⟨b, o, none⟩ := fun o => hQ.out.cell (p := ⟨b, o, none⟩) hbA.out
                have kq : ∀ o, wr.cell? ⟨b', o, none⟩ = w4.cell? ⟨b', o, none⟩ := fun o => hQ.out.cell (p := ⟨b', o, none⟩) hbB.out
                rw [← kp] at d0 d1 d2
                rw [← kq] at u0 u1 u2
                have QN : Hid (∀ q, Below w4.heap.size w4 (wr.drewN q)) := hid fun q => ⟨hQ.out.os, hQ.out.tape, hQ.out.output, hQ.out.size, hQ.out.block⟩
                clear both kp kq hQ
                go_wp2_with fail
                go_quiet (fail)
                go_wp2_with fail
                exact ⟨⟨j + 1, by first | rfl | (rw [jw]), hjL, QN.out _⟩, by first | (simp [intOf]; done) | (simp [intOf]; omega)⟩
              · have jI : ¬ (j : Int) < (L.length : Int) := by omega
                have hz : decide ((0 : Int) < (L.length : Int)) = true := decide_eq_true (by omega)
                have QQ := hid (BB.out.trans (hQ.out.mono BB.out.size))
                clear both hQ
                go_wp2_with fail
                go_ret
                refine ⟨?_, QQ.out⟩
                first | rfl | (show Ending.returned (.bool (decide (0 < L.length))) = _; rw [decide_eq_true hneH])
          · rw [if_neg hS4] at c2
            have c2H := hid c2
            have k4 : (4000 : Int) < (S.size : Int) := by omega
            have k5 : 4000 < S.size := by omega
            have hWH := hid hWw
            clear c2 cA hag tot hgetH tq tt eS eSl hS hS4 hWw hcH hLtH hlenH
            go_wp2_with fail
            with_reducible refine Calls.mono c2H.out ?_
            rintro e w4 ⟨rfl, hw⟩
            subst hw
            go_wp2_with fail
            go_ret
            refine ⟨?_, hWH.out⟩
            first | rfl | (show Ending.returned (.bool (decide (4000 < S.size))) = _; rw [decide_eq_true k5])
  · have c1 := hid (lall_long s hlt w)
    have hs0 : (0 : Int) < (s.size : Int) := by omega
    clear hP
    go_enter Tryd.func3, Tryd.ntmps3
    go_wp2_with fail
    with_reducible refine Calls.mono c1.out ?_
    rintro e w2 ⟨rfl, hw⟩
    subst hw
    go_wp2_with fail
    go_ret
    refine ⟨?_, Below.refl _ _⟩
    show Ending.returned (.bool (decide (0 < s.size))) = _
    rw [decide_eq_true (by omega)]
end Go.Proofs.YtjiiafmbneehhaaDoor.Lx
