
import Derived.Test.YtdfnomglkibfbaaGreatDoorVzA
import Derived.Test.YtdfnomglkibfbaaGreatDoorVgI
import Derived.Test.YtdfnomglkibfbaaGreatDoorVgJq
import Derived.Test.YtdfnomglkibfbaaGreatDoorVgKq
import Derived.Test.YtdfnomglkibfbaaGreatDoorVyE
import Derived.BigRegion
import Derived.Deep.RegionHeld3
import Derived.Test.YtdfnomglkibfbaaGreatDoorVzC
import Derived.BigQuiet
import Derived.Test.YtdfnomglkibfbaaGreatDoorVyD
import Derived.Test.YtdfnomglkibfbaaGreatDoorRows
import Derived.Test.YtdfnomglkibfbaaGreatDoorCards
import Derived.Test.YtdfnomglkibfbaaGreatDoorTie
import Derived.ProofKit
import Derived.LaidMore
import Derived.LaidHandle
import Derived.OpenShut
import Derived.Carry
import Derived.Lib.SmallJoins
import Derived.Stop.Joined
import Derived.SevenTiedAt
import Derived.PinnedBridge
import Derived.Lay
import Derived.Lib.LaidU8T
import Derived.Lib.LaidIn
namespace Go.Proofs.YtdfnomglkibfbaaGreatDoor.Vf
open Go.RowKit
set_option linter.unusedVariables false
set_option linter.unusedSimpArgs false
set_option maxRecDepth 100000
theorem hd_len2 {p : PrH} {q : PrL} (hN : PrN p q) (h : hdB p q = true) : p.filter.n ≤ 65536 ∧ p.output.n ≤ 65536 ∧ p.alias.n ≤ 65536 := by
  unfold hdB at h
  simp only [Bool.and_eq_true, decide_eq_true_eq] at h
  have h1 := hN.filter
  have h2 := hN.output
  have h3 := hN.alias
  omega
set_option maxHeartbeats 16000000 in
theorem refProgram_any (p : PrH) (q : PrL) (hN : PrN p q) (w : World) (h : PrIn w p q) : Calls Tryz.prog 11 #[p.v] w fun e w' => e = .returned (badR (resD p q)) ∧ Below w.heap.size w w' := by
  have hIH : Hid (∀ W, EW w p W → PrIn W p q) := fun W hW => h.below hW.1 (Nat.le_refl _)
  have cH0 : ∀ W, EW w p W → Calls Tryz.prog 28 #[.agg #[.string p.from_, .string p.into, .int .i64 p.every, .int .i64 p.offset, .slice p.groups.a p.groups.n p.groups.c, .slice p.accs.a p.accs.n p.accs.c, .slice p.alias.a p.alias.n p.alias.c, .slice p.names.a p.names.n p.names.c, .slice p.texts.a p.texts.n p.texts.c, .slice p.lists.a p.lists.n p.lists.c, .slice p.times.a p.times.n p.times.c, .slice p.ints.a p.ints.n p.ints.c, .slice p.filter.a p.filter.n p.filter.c, .slice p.output.a p.output.n p.output.c]] W fun e w' => e = .returned (.bool (hdB p q)) ∧ Below W.heap.size W w' := fun W hW => head_any p q hN W (hIH.out W hW)
  have cE10 : hdB p q = true → ∀ W, EW w p W → Calls Tryz.prog 30 #[.agg #[.string p.from_, .string p.into, .int .i64 p.every, .int .i64 p.offset, .slice p.groups.a p.groups.n p.groups.c, .slice p.accs.a p.accs.n p.accs.c, .slice p.alias.a p.alias.n p.alias.c, .slice p.names.a p.names.n p.names.c, .slice p.texts.a p.texts.n p.texts.c, .slice p.lists.a p.lists.n p.lists.c, .slice p.times.a p.times.n p.times.c, .slice p.ints.a p.ints.n p.ints.c, .slice p.filter.a p.filter.n p.filter.c, .slice p.output.a p.output.n p.output.c], .slice p.filter.a p.filter.n p.filter.c, .int .i64 0, .int .u8 13] W fun e w' => e = .returned (bdO 0 (eachD p.sz true q.accs q.filter)) ∧ Below W.heap.size W w' := fun hd W hW => by
    have := each_f p q.accs hN.accs q.filter p.filter.a p.filter.c hN.filter1 0 (by omega) W (hIH.out W hW).accs (hIH.out W hW).filter
    rw [← hN.filter] at this
    exact this
  have cE20 : hdB p q = true → ∀ W, EW w p W → Calls Tryz.prog 30 #[.agg #[.string p.from_, .string p.into, .int .i64 p.every, .int .i64 p.offset, .slice p.groups.a p.groups.n p.groups.c, .slice p.accs.a p.accs.n p.accs.c, .slice p.alias.a p.alias.n p.alias.c, .slice p.names.a p.names.n p.names.c, .slice p.texts.a p.texts.n p.texts.c, .slice p.lists.a p.lists.n p.lists.c, .slice p.times.a p.times.n p.times.c, .slice p.ints.a p.ints.n p.ints.c, .slice p.filter.a p.filter.n p.filter.c, .slice p.output.a p.output.n p.output.c], .slice p.output.a p.output.n p.output.c, .int .i64 (p.filter.n : Int), .int .u8 24] W fun e w' => e = .returned (bdO p.filter.n (eachD p.sz false q.accs q.output)) ∧ Below W.heap.size W w' := fun hd W hW => by
    have hl := hd_len2 hN hd
    have := each_o p q.accs hN.accs q.output p.output.a p.output.c hN.output1 p.filter.n (by omega) W (hIH.out W hW).accs (hIH.out W hW).output
    rw [← hN.output] at this
    exact this
  have cH10 : hdB p q = true → eachD p.sz true q.accs q.filter = none → ∀ W, EW w p W → Calls Tryz.prog 31 #[.slice p.filter.a p.filter.n p.filter.c, .int .i64 0] W fun e w' => HtR W p.filter.n 0 (hgtD q.filter 0 s0) e w' ∧ Below W.heap.size W w' := fun hd he W hW => by
    have hl := hd_len2 hN hd
    rw [← each_same] at he
    have e1 := hN.filter
    have := dheights_any q.filter (fmd_of he) p.filter.a p.filter.c (by omega) 0 (by omega) W (hIH.out W hW).filter
    rw [← e1] at this
    exact this
  have cH20 : hdB p q = true → eachD p.sz false q.accs q.output = none → ∀ W, EW w p W → Calls Tryz.prog 31 #[.slice p.output.a p.output.n p.output.c, .int .i64 (p.filter.n : Int)] W fun e w' => HtR W p.output.n p.filter.n (hgtD q.output 0 s0) e w' ∧ Below W.heap.size W w' := fun hd he W hW => by
    have hl := hd_len2 hN hd
    rw [← each_same] at he
    have e1 := hN.output
    have := dheights_any q.output (fmd_of he) p.output.a p.output.c (by omega) p.filter.n (by omega) W (hIH.out W hW).output
    rw [← e1] at this
    exact this
  have cM0 : hdB p q = true → ∀ W, EW w p W → Calls Tryz.prog 32 #[.agg #[.string p.from_, .string p.into, .int .i64 p.every, .int .i64 p.offset, .slice p.groups.a p.groups.n p.groups.c, .slice p.accs.a p.accs.n p.accs.c, .slice p.alias.a p.alias.n p.alias.c, .slice p.names.a p.names.n p.names.c, .slice p.texts.a p.texts.n p.texts.c, .slice p.lists.a p.lists.n p.lists.c, .slice p.times.a p.times.n p.times.c, .slice p.ints.a p.ints.n p.ints.c, .slice p.filter.a p.filter.n p.filter.c, .slice p.output.a p.output.n p.output.c]] W fun e w' => e = .returned (.bool (emitB p.alias.n q.output)) ∧ Below W.heap.size W w' := fun hd W hW => by
    have hl := hd_len2 hN hd
    exact emitted_any p q.output hN.output hN.output1 (by omega) W (hIH.out W hW).output
  have RES : Hid (resD p q = resOf (hdB p q) (eachD p.sz true q.accs q.filter) (eachD p.sz false q.accs q.output) (hgtD q.filter 0 s0).2 (hgtD q.output 0 s0).2 p.filter.n (emitB p.alias.n q.output)) := rfl
  have ne1 : Hid (∀ k e, eachD p.sz true q.accs q.filter = some (k, e) → e ≠ 0) := fun k e h => eachD_ne h
  have ne2 : Hid (∀ k e, eachD p.sz false q.accs q.output = some (k, e) → e ≠ 0) := fun k e h => eachD_ne h
  obtain ⟨⟨g1, r1⟩, hG1⟩ : ∃ G, hgtD q.filter 0 s0 = G := ⟨_, rfl⟩
  obtain ⟨⟨g2, r2⟩, hG2⟩ : ∃ G, hgtD q.output 0 s0 = G := ⟨_, rfl⟩
  rw [hG1] at cH10 RES
  rw [hG2] at cH20 RES
  generalize resD p q = r at *
  generalize hdB p q = hd at *
  generalize eachD p.sz true q.accs q.filter = E1 at *
  generalize eachD p.sz false q.accs q.output = E2 at *
  generalize emitB p.alias.n q.output = em at *
  clear hG1 hG2 h hN hIH
  obtain ⟨V, hV⟩ : ∃ V, badR r = V := ⟨_, rfl⟩
  have VV0 : Hid (badR r = V) := hV
  rw [hV]
  clear hV
  have cH : Hid (∀ W, EW w p W → Calls Tryz.prog 28 #[.agg #[.string p.from_, .string p.into, .int .i64 p.every, .int .i64 p.offset, .slice p.groups.a p.groups.n p.groups.c, .slice p.accs.a p.accs.n p.accs.c, .slice p.alias.a p.alias.n p.alias.c, .slice p.names.a p.names.n p.names.c, .slice p.texts.a p.texts.n p.texts.c, .slice p.lists.a p.lists.n p.lists.c, .slice p.times.a p.times.n p.times.c, .slice p.ints.a p.ints.n p.ints.c, .slice p.filter.a p.filter.n p.filter.c, .slice p.output.a p.output.n p.output.c]] W fun e w' => e = .returned (.bool hd) ∧ Below W.heap.size W w') := cH0
  have cN : Hid (∀ (e : Int) W, Calls Tryz.prog 29 #[.int .i64 e] W fun ev w' => ev = .returned (.agg #[.int .i64 e, .int .i64 0, .int .i64 0, .bool false, .bool false]) ∧ Below W.heap.size W w') := fun e W => refNew_any e W
  have e0 := EW.new w p
  have e0H : Hid (EW w p ((w.alloc (.cells p.cells 28)).alloc (.cells #[.int .i64 0, .int .i64 0, .int .i64 0, .bool false, .bool false] 36))) := e0
  clear e0 cH0
  unfold PrH.v
  unfold PrH.cells at e0H
  go_enter Tryz.func11, Tryz.ntmps11
  go_wp2_with fail
  generalize World.alloc (World.alloc w _) _ = W1 at e0H ⊢
  with_reducible refine Calls.mono (cH.out _ e0H.out) ?_
  rintro e w2 ⟨rfl, b2⟩
  have e2 : Hid (EW w p w2) := e0H.out.below b2
  clear cH e0H b2
  cases hd with
  | false =>
    clear cE10 cE20 cH10 cH20 cM0 ne1 ne2
    go_wp2_with fail
    with_reducible refine Calls.mono (cN.out _ _) ?_
    rintro e w3 ⟨rfl, b3⟩
    have e3 : Hid (EW w p w3) := e2.out.below b3
    clear b3 e2 cN
    have VV : Hid (V = .agg #[.int .i64 192, .int .i64 0, .int .i64 0, .bool false, .bool false]) := by rw [← VV0.out, show r = some (192, none) from RES.out]; rfl
    obtain ⟨W9, hst0, u0, u1, u2, u3, u4, bb0⟩ := store_bad e3.out.2.2 (192) (0) false
    have hst : Hid ((Instr.storeAt 36 (.pointer (some ⟨w.heap.size + 1, 0, none⟩)) (.agg #[.int .i64 192, .int .i64 0, .int .i64 0, .bool false, .bool false])).run Tryz.prog w3 = .ok () W9) := hst0
    have finB : Hid (Below w.heap.size w W9) := bb0 _ _ e3.out.1 (by omega)
    clear hst0 bb0 VV0 RES
    go_wp2_with (refine wpList_store_run (by rfl) _ _ _ (by rfl) _ _ _ (by rfl) (by rfl) hst.out ?_)
    clear hst
    simp [bodyPost, results, Tryz.results11, go_sem, u0, u1, u2, u3, u4]
    exact ⟨VV.out.symm, finB.out⟩
  | true =>
    have cE1 : Hid (∀ W, EW w p W → Calls Tryz.prog 30 #[.agg #[.string p.from_, .string p.into, .int .i64 p.every, .int .i64 p.offset, .slice p.groups.a p.groups.n p.groups.c, .slice p.accs.a p.accs.n p.accs.c, .slice p.alias.a p.alias.n p.alias.c, .slice p.names.a p.names.n p.names.c, .slice p.texts.a p.texts.n p.texts.c, .slice p.lists.a p.lists.n p.lists.c, .slice p.times.a p.times.n p.times.c, .slice p.ints.a p.ints.n p.ints.c, .slice p.filter.a p.filter.n p.filter.c, .slice p.output.a p.output.n p.output.c], .slice p.filter.a p.filter.n p.filter.c, .int .i64 0, .int .u8 13] W fun e w' => e = .returned (bdO 0 E1) ∧ Below W.heap.size W w') := cE10 rfl
    have cE2 : Hid (∀ W, EW w p W → Calls Tryz.prog 30 #[.agg #[.string p.from_, .string p.into, .int .i64 p.every, .int .i64 p.offset, .slice p.groups.a p.groups.n p.groups.c, .slice p.accs.a p.accs.n p.accs.c, .slice p.alias.a p.alias.n p.alias.c, .slice p.names.a p.names.n p.names.c, .slice p.texts.a p.texts.n p.texts.c, .slice p.lists.a p.lists.n p.lists.c, .slice p.times.a p.times.n p.times.c, .slice p.ints.a p.ints.n p.ints.c, .slice p.filter.a p.filter.n p.filter.c, .slice p.output.a p.output.n p.output.c], .slice p.output.a p.output.n p.output.c, .int .i64 (p.filter.n : Int), .int .u8 24] W fun e w' => e = .returned (bdO p.filter.n E2) ∧ Below W.heap.size W w') := cE20 rfl
    have cH1 : Hid (E1 = none → ∀ W, EW w p W → Calls Tryz.prog 31 #[.slice p.filter.a p.filter.n p.filter.c, .int .i64 0] W fun e w' => HtR W p.filter.n 0 (g1, r1) e w' ∧ Below W.heap.size W w') := cH10 rfl
    have cH2 : Hid (E2 = none → ∀ W, EW w p W → Calls Tryz.prog 31 #[.slice p.output.a p.output.n p.output.c, .int .i64 (p.filter.n : Int)] W fun e w' => HtR W p.output.n p.filter.n (g2, r2) e w' ∧ Below W.heap.size W w') := cH20 rfl
    have cM : Hid (∀ W, EW w p W → Calls Tryz.prog 32 #[.agg #[.string p.from_, .string p.into, .int .i64 p.every, .int .i64 p.offset, .slice p.groups.a p.groups.n p.groups.c, .slice p.accs.a p.accs.n p.accs.c, .slice p.alias.a p.alias.n p.alias.c, .slice p.names.a p.names.n p.names.c, .slice p.texts.a p.texts.n p.texts.c, .slice p.lists.a p.lists.n p.lists.c, .slice p.times.a p.times.n p.times.c, .slice p.ints.a p.ints.n p.ints.c, .slice p.filter.a p.filter.n p.filter.c, .slice p.output.a p.output.n p.output.c]] W fun e w' => e = .returned (.bool em) ∧ Below W.heap.size W w') := cM0 rfl
    clear cE10 cE20 cH10 cH20 cM0
    obtain ⟨_, ⟨zp, y0, y1, y2, y3, y4, y5, y6, y7, y8, y9, y10, y11, y12, y13⟩, _⟩ := e2.out
    go_wp2_with fail
    clear zp y0 y1 y2 y3 y4 y5 y6 y7 y8 y9 y10 y11 y12 y13
    with_reducible refine Calls.mono (cE1.out _ e2.out) ?_
    rintro e w3 ⟨rfl, b3⟩
    have e3 : Hid (EW w p w3) := e2.out.below b3
    clear b3 e2 cE1
    cases E1 with
    | some x =>
      obtain ⟨xk, xe⟩ := x
      have xn : xe ≠ 0 := ne1.out xk xe rfl
      have xb : (xe != 0) = true := by simpa using xn
      have xd : decide (xe = 0) = false := decide_eq_false xn
      rw [show bdO 0 (some (xk, xe)) = .agg #[.int .i64 xe, .int .i64 (xk : Int), .int .i64 0, .bool true, .bool false] by simp [bdO, badV]]
      have e4 : Hid (EW w p (w3.alloc (.cells #[.int .i64 xe, .int .i64 (xk : Int), .int .i64 0, .bool true, .bool false] 36))) := e3.out.below ((Below.refl _ _).alloc (Nat.le_refl _) _)
      clear ne1 ne2 cE2 cH1 cH2 cM cN e3
      have VV : Hid (V = .agg #[.int .i64 xe, .int .i64 (xk : Int), .int .i64 0, .bool true, .bool false]) := by rw [← VV0.out, show r = some (xe, some (xk : Int)) from by rw [RES.out]; simp [resOf]]; rfl
      obtain ⟨W9, hst0, u0, u1, u2, u3, u4, bb0⟩ := store_bad e4.out.2.2 (xe) ((xk : Int)) true
      have hst : Hid ((Instr.storeAt 36 (.pointer (some ⟨w.heap.size + 1, 0, none⟩)) (.agg #[.int .i64 xe, .int .i64 (xk : Int), .int .i64 0, .bool true, .bool false])).run Tryz.prog (w3.alloc (.cells #[.int .i64 xe, .int .i64 (xk : Int), .int .i64 0, .bool true, .bool false] 36)) = .ok () W9) := hst0
      have finB : Hid (Below w.heap.size w W9) := bb0 _ _ e4.out.1 (by omega)
      clear hst0 bb0 VV0 RES
      go_wp2_with (refine wpList_store_run (by rfl) _ _ _ (by rfl) _ _ _ (by rfl) (by rfl) hst.out ?_)
      clear hst
      simp [bodyPost, results, Tryz.results11, go_sem, u0, u1, u2, u3, u4]
      exact ⟨VV.out.symm, finB.out⟩
    | none =>
      rw [show bdO 0 none = .agg #[.int .i64 0, .int .i64 0, .int .i64 0, .bool false, .bool false] from rfl]
      have e4 : Hid (EW w p (w3.alloc (.cells #[.int .i64 0, .int .i64 0, .int .i64 0, .bool false, .bool false] 36))) := e3.out.below ((Below.refl _ _).alloc (Nat.le_refl _) _)
      clear e3
      obtain ⟨_, ⟨zp, y0, y1, y2, y3, y4, y5, y6, y7, y8, y9, y10, y11, y12, y13⟩, _⟩ := e4.out
      go_wp2_with fail
      clear zp y0 y1 y2 y3 y4 y5 y6 y7 y8 y9 y10 y11 y12 y13
      with_reducible refine Calls.mono (cE2.out _ e4.out) ?_
      rintro e w5 ⟨rfl, b5⟩
      have e5 : Hid (EW w p w5) := e4.out.below b5
      clear b5 e4 cE2
      have ch1 : Hid (∀ W, EW w p W → Calls Tryz.prog 31 #[.slice p.filter.a p.filter.n p.filter.c, .int .i64 0] W fun e w' => HtR W p.filter.n 0 (g1, r1) e w' ∧ Below W.heap.size W w') := cH1.out (by first | trivial | rfl)
      clear cH1
      cases E2 with
      | some x =>
        obtain ⟨xk, xe⟩ := x
        have xn : xe ≠ 0 := ne2.out xk xe rfl
        have xb : (xe != 0) = true := by simpa using xn
        have xd : decide (xe = 0) = false := decide_eq_false xn
        rw [show bdO p.filter.n (some (xk, xe)) = .agg #[.int .i64 xe, .int .i64 ((p.filter.n : Int) + (xk : Int)), .int .i64 0, .bool true, .bool false] from rfl]
        have e6 : Hid (EW w p (w5.alloc (.cells #[.int .i64 xe, .int .i64 ((p.filter.n : Int) + (xk : Int)), .int .i64 0, .bool true, .bool false] 36))) := e5.out.below ((Below.refl _ _).alloc (Nat.le_refl _) _)
        clear ne1 ne2 ch1 cH2 cM cN e5
        have VV : Hid (V = .agg #[.int .i64 xe, .int .i64 ((p.filter.n : Int) + (xk : Int)), .int .i64 0, .bool true, .bool false]) := by rw [← VV0.out, show r = some (xe, some ((p.filter.n : Int) + (xk : Int))) from by rw [RES.out]; rfl]; rfl
        obtain ⟨W9, hst0, u0, u1, u2, u3, u4, bb0⟩ := store_bad e6.out.2.2 (xe) (((p.filter.n : Int) + (xk : Int))) true
        have hst : Hid ((Instr.storeAt 36 (.pointer (some ⟨w.heap.size + 1, 0, none⟩)) (.agg #[.int .i64 xe, .int .i64 ((p.filter.n : Int) + (xk : Int)), .int .i64 0, .bool true, .bool false])).run Tryz.prog (w5.alloc (.cells #[.int .i64 xe, .int .i64 ((p.filter.n : Int) + (xk : Int)), .int .i64 0, .bool true, .bool false] 36)) = .ok () W9) := hst0
        have finB : Hid (Below w.heap.size w W9) := bb0 _ _ e6.out.1 (by omega)
        clear hst0 bb0 VV0 RES
        go_wp2_with (refine wpList_store_run (by rfl) _ _ _ (by rfl) _ _ _ (by rfl) (by rfl) hst.out ?_)
        clear hst
        simp [bodyPost, results, Tryz.results11, go_sem, u0, u1, u2, u3, u4]
        exact ⟨VV.out.symm, finB.out⟩
      | none =>
        rw [show bdO p.filter.n none = .agg #[.int .i64 0, .int .i64 0, .int .i64 0, .bool false, .bool false] from rfl]
        have e6 : Hid (EW w p (w5.alloc (.cells #[.int .i64 0, .int .i64 0, .int .i64 0, .bool false, .bool false] 36))) := e5.out.below ((Below.refl _ _).alloc (Nat.le_refl _) _)
        clear e5 ne1 ne2
        have ch2 : Hid (∀ W, EW w p W → Calls Tryz.prog 31 #[.slice p.output.a p.output.n p.output.c, .int .i64 (p.filter.n : Int)] W fun e w' => HtR W p.output.n p.filter.n (g2, r2) e w' ∧ Below W.heap.size W w') := cH2.out (by first | trivial | rfl)
        clear cH2
        obtain ⟨_, ⟨zp, y0, y1, y2, y3, y4, y5, y6, y7, y8, y9, y10, y11, y12, y13⟩, _⟩ := e6.out
        go_wp2_with fail
        clear zp y0 y1 y2 y3 y4 y5 y6 y7 y8 y9 y10 y11 y12 y13
        with_reducible refine Calls.mono (ch1.out _ e6.out) ?_
        rintro e w7 ⟨hpr, bn⟩
        have e7 : Hid (EW w p w7) := e6.out.below bn
        clear bn e6 ch1
        unfold HtR at hpr
        cases r1 with
        | some xk =>
          dsimp only at hpr
          rw [show badV 190 (((0 : Nat) : Int) + (xk : Int)) true = .agg #[.int .i64 190, .int .i64 (xk : Int), .int .i64 0, .bool true, .bool false] by simp [badV]] at hpr
          subst hpr
          have e8 : Hid (EW w p (w7.alloc (.cells #[.int .i64 190, .int .i64 (xk : Int), .int .i64 0, .bool true, .bool false] 36))) := e7.out.below ((Below.refl _ _).alloc (Nat.le_refl _) _)
          clear e7 cN cM ch2
          have VV : Hid (V = .agg #[.int .i64 190, .int .i64 (xk : Int), .int .i64 0, .bool true, .bool false]) := by rw [← VV0.out, show r = some (190, some (xk : Int)) from by rw [RES.out]; simp [resOf]]; rfl
          obtain ⟨W9, hst0, u0, u1, u2, u3, u4, bb0⟩ := store_bad e8.out.2.2 (190) ((xk : Int)) true
          have hst : Hid ((Instr.storeAt 36 (.pointer (some ⟨w.heap.size + 1, 0, none⟩)) (.agg #[.int .i64 190, .int .i64 (xk : Int), .int .i64 0, .bool true, .bool false])).run Tryz.prog (w7.alloc (.cells #[.int .i64 190, .int .i64 (xk : Int), .int .i64 0, .bool true, .bool false] 36)) = .ok () W9) := hst0
          have finB : Hid (Below w.heap.size w W9) := bb0 _ _ e8.out.1 (by omega)
          clear hst0 bb0 VV0 RES
          go_wp2_with (refine wpList_store_run (by rfl) _ _ _ (by rfl) _ _ _ (by rfl) (by rfl) hst.out ?_)
          clear hst
          simp [bodyPost, results, Tryz.results11, go_sem, u0, u1, u2, u3, u4]
          exact ⟨VV.out.symm, finB.out⟩
        | none =>
          dsimp only at hpr
          obtain ⟨ob, lob, hpr, _⟩ := hpr
          rw [show badV 0 0 false = .agg #[.int .i64 0, .int .i64 0, .int .i64 0, .bool false, .bool false] from rfl] at hpr
          subst hpr
          have e8 : Hid (EW w p (w7.alloc (.cells #[.int .i64 0, .int .i64 0, .int .i64 0, .bool false, .bool false] 36))) := e7.out.below ((Below.refl _ _).alloc (Nat.le_refl _) _)
          clear e7
          obtain ⟨_, ⟨zp, y0, y1, y2, y3, y4, y5, y6, y7, y8, y9, y10, y11, y12, y13⟩, _⟩ := e8.out
          go_wp2_with fail
          clear zp y0 y1 y2 y3 y4 y5 y6 y7 y8 y9 y10 y11 y12 y13
          with_reducible refine Calls.mono (ch2.out _ e8.out) ?_
          rintro e w9 ⟨hpr, bn⟩
          have e9 : Hid (EW w p w9) := e8.out.below bn
          clear bn e8 ch2
          unfold HtR at hpr
          cases r2 with
          | some xk =>
            dsimp only at hpr
            rw [show badV 190 ((p.filter.n : Int) + (xk : Int)) true = .agg #[.int .i64 190, .int .i64 ((p.filter.n : Int) + (xk : Int)), .int .i64 0, .bool true, .bool false] by simp [badV]] at hpr
            subst hpr
            have e10 : Hid (EW w p (w9.alloc (.cells #[.int .i64 190, .int .i64 ((p.filter.n : Int) + (xk : Int)), .int .i64 0, .bool true, .bool false] 36))) := e9.out.below ((Below.refl _ _).alloc (Nat.le_refl _) _)
            clear e9 cN cM
            have VV : Hid (V = .agg #[.int .i64 190, .int .i64 ((p.filter.n : Int) + (xk : Int)), .int .i64 0, .bool true, .bool false]) := by rw [← VV0.out, show r = some (190, some ((p.filter.n : Int) + (xk : Int))) from by rw [RES.out]; rfl]; rfl
            obtain ⟨W9, hst0, u0, u1, u2, u3, u4, bb0⟩ := store_bad e10.out.2.2 (190) (((p.filter.n : Int) + (xk : Int))) true
            have hst : Hid ((Instr.storeAt 36 (.pointer (some ⟨w.heap.size + 1, 0, none⟩)) (.agg #[.int .i64 190, .int .i64 ((p.filter.n : Int) + (xk : Int)), .int .i64 0, .bool true, .bool false])).run Tryz.prog (w9.alloc (.cells #[.int .i64 190, .int .i64 ((p.filter.n : Int) + (xk : Int)), .int .i64 0, .bool true, .bool false] 36)) = .ok () W9) := hst0
            have finB : Hid (Below w.heap.size w W9) := bb0 _ _ e10.out.1 (by omega)
            clear hst0 bb0 VV0 RES
            go_wp2_with (refine wpList_store_run (by rfl) _ _ _ (by rfl) _ _ _ (by rfl) (by rfl) hst.out ?_)
            clear hst
            simp [bodyPost, results, Tryz.results11, go_sem, u0, u1, u2, u3, u4]
            exact ⟨VV.out.symm, finB.out⟩
          | none =>
            dsimp only at hpr
            obtain ⟨ob2, lob2, hpr, _⟩ := hpr
            rw [show badV 0 0 false = .agg #[.int .i64 0, .int .i64 0, .int .i64 0, .bool false, .bool false] from rfl] at hpr
            subst hpr
            have e10 : Hid (EW w p (w9.alloc (.cells #[.int .i64 0, .int .i64 0, .int .i64 0, .bool false, .bool false] 36))) := e9.out.below ((Below.refl _ _).alloc (Nat.le_refl _) _)
            clear e9
            obtain ⟨_, ⟨zp, y0, y1, y2, y3, y4, y5, y6, y7, y8, y9, y10, y11, y12, y13⟩, _⟩ := e10.out
            go_wp2_with fail
            clear zp y0 y1 y2 y3 y4 y5 y6 y7 y8 y9 y10 y11 y12 y13
            with_reducible refine Calls.mono (cM.out _ e10.out) ?_
            rintro e w11 ⟨rfl, b11⟩
            have e11 : Hid (EW w p w11) := e10.out.below b11
            clear b11 e10 cM
            cases em with
            | false =>
              go_wp2_with fail
              with_reducible refine Calls.mono (cN.out _ _) ?_
              rintro e w12 ⟨rfl, b12⟩
              have e12 : Hid (EW w p w12) := e11.out.below b12
              clear b12 e11 cN
              have VV : Hid (V = .agg #[.int .i64 193, .int .i64 0, .int .i64 0, .bool false, .bool false]) := by rw [← VV0.out, show r = some (193, none) from by rw [RES.out]; rfl]; rfl
              obtain ⟨W9, hst0, u0, u1, u2, u3, u4, bb0⟩ := store_bad e12.out.2.2 (193) (0) false
              have hst : Hid ((Instr.storeAt 36 (.pointer (some ⟨w.heap.size + 1, 0, none⟩)) (.agg #[.int .i64 193, .int .i64 0, .int .i64 0, .bool false, .bool false])).run Tryz.prog w12 = .ok () W9) := hst0
              have finB : Hid (Below w.heap.size w W9) := bb0 _ _ e12.out.1 (by omega)
              clear hst0 bb0 VV0 RES
              go_wp2_with (refine wpList_store_run (by rfl) _ _ _ (by rfl) _ _ _ (by rfl) (by rfl) hst.out ?_)
              clear hst
              simp [bodyPost, results, Tryz.results11, go_sem, u0, u1, u2, u3, u4]
              exact ⟨VV.out.symm, finB.out⟩
            | true =>
              have VV : Hid (V = .agg #[.int .i64 0, .int .i64 0, .int .i64 0, .bool false, .bool false]) := by rw [← VV0.out, show r = none from by rw [RES.out]; rfl]; rfl
              obtain ⟨W9, hst0, u0, u1, u2, u3, u4, bb0⟩ := store_bad e11.out.2.2 (0) (0) false
              have hst : Hid ((Instr.storeAt 36 (.pointer (some ⟨w.heap.size + 1, 0, none⟩)) (.agg #[.int .i64 0, .int .i64 0, .int .i64 0, .bool false, .bool false])).run Tryz.prog w11 = .ok () W9) := hst0
              have finB : Hid (Below w.heap.size w W9) := bb0 _ _ e11.out.1 (by omega)
              clear hst0 bb0 VV0 RES
              go_wp2_with (refine wpList_store_run (by rfl) _ _ _ (by rfl) _ _ _ (by rfl) (by rfl) hst.out ?_)
              clear hst
              simp [bodyPost, results, Tryz.results11, go_sem, u0, u1, u2, u3, u4]
              exact ⟨VV.out.symm, finB.out⟩
end Go.Proofs.YtdfnomglkibfbaaGreatDoor.Vf

namespace Go.Proofs.YtdfnomglkibfbaaGreatDoor.Vf
open Go.RowKit
set_option linter.unusedVariables false
set_option linter.unusedSimpArgs false
set_option maxRecDepth 100000
/-- a row told by a function is a list in memory. -/
theorem RW.inl {w : World} {b n : Nat} {F : Nat → Int} (h : RW w b n (fun j => .int .i64 (F j))) {l : List Int} (hl : l.length = n) (hv : ∀ j, j < n → l.getD j 0 = F j) : I6.In w (some ⟨b, 0, none⟩) l := by
  refine Or.inr ⟨b, 0, rfl, h.1, fun i t ht => ?_⟩
  obtain ⟨hi, _⟩ := List.getElem?_eq_some_iff.1 ht
  rw [Nat.zero_add, (h.2 i (by omega)).1]
  have := hv i (by omega)
  rw [List.getD_eq_getElem?_getD, ht] at this
  simp at this
  rw [this]; rfl
/-- what is told of heights and rises: both sides' numbers. -/
def hL (r : Option (Int × Option Int)) (l : List InP) : List Int := if r = none then (hgtP l 0 m0 []).1 else []
/-- what is told: a list, and an error's value. -/
def LsR (w : World) (V : Value) (L : List Int) (e : Ending) (w' : World) : Prop := ∃ a c, e = .returned (.tuple #[.slice a L.length c, V]) ∧ I6.In w' a L ∧ ∀ b off, a = some ⟨b, off, none⟩ → w.heap.size ≤ b
theorem res_ne (p : PrH) (q : PrL) : ∀ c x, resD p q = some (c, x) → c ≠ 0 := by
  intro c x h
  unfold resD resOf at h
  cases hd : hdB p q with
  | false => rw [hd] at h; simp at h; omega
  | true =>
    rw [hd] at h
    simp only [Bool.true_eq_false, if_false] at h
    cases e1 : eachD p.sz true q.accs q.filter with
    | some y =>
      rw [e1] at h
      obtain ⟨k, e⟩ := y
      simp at h
      rw [← h.1]; exact eachD_ne e1
    | none =>
      rw [e1] at h
      simp only at h
      cases e2 : eachD p.sz false q.accs q.output with
      | some y =>
        rw [e2] at h
        obtain ⟨k, e⟩ := y
        simp at h
        rw [← h.1]; exact eachD_ne e2
      | none =>
        rw [e2] at h
        simp only at h
        cases h1 : (hgtD q.filter 0 s0).2 with
        | some k => rw [h1] at h; simp at h; omega
        | none =>
          rw [h1] at h
          simp only at h
          cases h2 : (hgtD q.output 0 s0).2 with
          | some k => rw [h2] at h; simp at h; omega
          | none =>
            rw [h2] at h
            simp only at h
            split at h
            · cases h
            · simp at h; omega
theorem bad_is (r : Option (Int × Option Int)) (hr : ∀ c x, r = some (c, x) → c ≠ 0) : ∃ c x b, badR r = badV c x b ∧ (r = none → c = 0 ∧ x = 0 ∧ b = false) ∧ (r ≠ none → c ≠ 0) := by
  cases r with
  | none => exact ⟨0, 0, false, rfl, fun _ => ⟨rfl, rfl, rfl⟩, fun h => absurd rfl h⟩
  | some y =>
    obtain ⟨c, x⟩ := y
    cases x with
    | none => exact ⟨c, 0, false, rfl, fun h => (by simp at h), fun _ => hr c _ rfl⟩
    | some x => exact ⟨c, x, true, rfl, fun h => (by simp at h), fun _ => hr c _ rfl⟩
set_option maxHeartbeats 8000000 in
theorem refHeights_any (p : PrH) (q : PrL) (hN : PrN p q) (w : World) (h : PrIn w p q) : Calls Tryz.prog 13 #[p.v] w fun e w' => LsR w (badR (resD p q)) (hL (resD p q) q.filter) e w' ∧ Below w.heap.size w w' := by
  have cP0 : ∀ W, EW w p W → Calls Tryz.prog 11 #[.agg #[.string p.from_, .string p.into, .int .i64 p.every, .int .i64 p.offset, .slice p.groups.a p.groups.n p.groups.c, .slice p.accs.a p.accs.n p.accs.c, .slice p.alias.a p.alias.n p.alias.c, .slice p.names.a p.names.n p.names.c, .slice p.texts.a p.texts.n p.texts.c, .slice p.lists.a p.lists.n p.lists.c, .slice p.times.a p.times.n p.times.c, .slice p.ints.a p.ints.n p.ints.c, .slice p.filter.a p.filter.n p.filter.c, .slice p.output.a p.output.n p.output.c]] W fun e w' => e = .returned (badR (resD p q)) ∧ Below W.heap.size W w' := fun W hW => refProgram_any p q hN W (h.below hW.1 (Nat.le_refl _))
  have cH : Hid (resD p q = none → ∀ W, EW w p W → Calls Tryz.prog 31 #[.slice p.filter.a p.filter.n p.filter.c, .int .i64 0] W fun e w' => (∃ ob c, W.heap.size ≤ ob ∧ e = .returned (.tuple #[.slice (some ⟨ob, 0, none⟩) (hL (resD p q) q.filter).length c, .agg #[.int .i64 0, .int .i64 0, .int .i64 0, .bool false, .bool false]]) ∧ RW w' ob (hL (resD p q) q.filter).length (fun j => .int .i64 ((hL (resD p q) q.filter).getD j 0))) ∧ Below W.heap.size W w') := fun hr W hW => by
    have ps := pas_of (p := p) (q := q) (by rw [res_same]; exact hr)
    have hl : q.filter.length ≤ 65536 := by have := hd_len2 hN ps.hd; have := hN.filter; omega
    have F := fmd_of ps.e1
    have e1 := hN.filter
    have hn : (hgtD q.filter 0 s0).2 = none := by rw [← hgt0 F]; exact ps.h1
    have e2 := hgt_len0 ps.h1
    have e3 : hL (resD p q) q.filter = (hgtP q.filter 0 m0 []).1 := by unfold hL; rw [if_pos hr]
    rw [e3, e2, ← e1]
    have := dheights_any q.filter F p.filter.a p.filter.c hl 0 (by omega) W (h.below hW.1 (Nat.le_refl _)).filter
    rw [← e1] at this
    refine this.mono (fun e w' hh => ⟨?_, hh.2⟩)
    have hp := hh.1
    unfold HtR at hp
    rw [hn] at hp
    obtain ⟨ob, h1, h2, h3⟩ := hp
    exact ⟨ob, _, h1, h2, h3.congr (fun j hj => by rw [hgt_vals0 F ps.h1 j (by omega)])⟩
  obtain ⟨c, x, b, eV, en, es⟩ := bad_is (resD p q) (res_ne p q)
  have eVH : Hid (badR (resD p q) = badV c x b) := eV
  rw [eV] at cP0 ⊢
  have e0 := EW.new w p
  have e0H : Hid (EW w p ((w.alloc (.cells p.cells 28)).alloc (.cells #[.int .i64 0, .int .i64 0, .int .i64 0, .bool false, .bool false] 36))) := e0
  have cP : Hid (∀ W, EW w p W → Calls Tryz.prog 11 #[.agg #[.string p.from_, .string p.into, .int .i64 p.every, .int .i64 p.offset, .slice p.groups.a p.groups.n p.groups.c, .slice p.accs.a p.accs.n p.accs.c, .slice p.alias.a p.alias.n p.alias.c, .slice p.names.a p.names.n p.names.c, .slice p.texts.a p.texts.n p.texts.c, .slice p.lists.a p.lists.n p.lists.c, .slice p.times.a p.times.n p.times.c, .slice p.ints.a p.ints.n p.ints.c, .slice p.filter.a p.filter.n p.filter.c, .slice p.output.a p.output.n p.output.c]] W fun e w' => e = .returned (.agg #[.int .i64 c, .int .i64 x, .int .i64 0, .bool b, .bool false]) ∧ Below W.heap.size W w') := cP0
  have nN : Hid (resD p q ≠ none → hL (resD p q) q.filter = []) := fun hne => by unfold hL; rw [if_neg hne]
  clear e0 cP0 h hN eV eVH
  unfold PrH.v
  unfold PrH.cells at e0H
  generalize resD p q = r at *
  generalize hL r q.filter = LL at *
  go_enter Tryz.func13, Tryz.ntmps13
  go_wp2_with fail
  generalize World.alloc (World.alloc w _) _ = W1 at e0H ⊢
  with_reducible refine Calls.mono (cP.out _ e0H.out) ?_
  rintro e w2 ⟨rfl, b2⟩
  have e2 : Hid (EW w p w2) := e0H.out.below b2
  clear cP e0H b2
  have zl2 : Hid (w.heap.size + 1 < w2.heap.size ∧ Bd5 w2 (w.heap.size + 1) ∧ Below w.heap.size w w2) := ⟨e2.out.2.2.1, e2.out.2.2, e2.out.1⟩
  have e4 : Hid (EW w p (w2.alloc (.cells #[.int .i64 c, .int .i64 x, .int .i64 0, .bool b, .bool false] 36))) := e2.out.below ((Below.refl _ _).alloc (Nat.le_refl _) _)
  clear e2
  by_cases hr : r = none
  · obtain ⟨rfl, rfl, rfl⟩ := en hr
    have cH1 : Hid (∀ W, EW w p W → Calls Tryz.prog 31 #[.slice p.filter.a p.filter.n p.filter.c, .int .i64 0] W fun e w' => (∃ ob c, W.heap.size ≤ ob ∧ e = .returned (.tuple #[.slice (some ⟨ob, 0, none⟩) LL.length c, .agg #[.int .i64 0, .int .i64 0, .int .i64 0, .bool false, .bool false]]) ∧ RW w' ob LL.length (fun j => .int .i64 (LL.getD j 0))) ∧ Below W.heap.size W w') := cH.out hr
    clear cH en es nN
    obtain ⟨_, ⟨zp, y0, y1, y2, y3, y4, y5, y6, y7, y8, y9, y10, y11, y12, y13⟩, _⟩ := e4.out
    go_wp2_with fail
    clear zp y0 y1 y2 y3 y4 y5 y6 y7 y8 y9 y10 y11 y12 y13
    with_reducible refine Calls.mono (cH1.out _ e4.out) ?_
    rintro e w5 ⟨⟨ob, cc, lob, rfl, hin⟩, b5⟩
    have e5 : Hid (EW w p w5) := e4.out.below b5
    have lobH : Hid (w.heap.size ≤ ob) := Nat.le_trans e4.out.1.size lob
    have hne : w.heap.size + 1 ≠ ob := by have := e4.out.2.2.1; omega
    obtain ⟨W9, hst0, u0, u1, u2, u3, u4, bb0, hin9⟩ := store_bad2 e5.out.2.2 hin hne 0 0 false
    clear hin b5 e4 cH1 lob hne
    have hst : Hid ((Instr.storeAt 36 (.pointer (some ⟨w.heap.size + 1, 0, none⟩)) (.agg #[.int .i64 0, .int .i64 0, .int .i64 0, .bool false, .bool false])).run Tryz.prog w5 = .ok () W9) := hst0
    have finB : Hid (Below w.heap.size w W9) := bb0 _ _ e5.out.1 (by omega)
    have finI : Hid (I6.In W9 (some ⟨ob, 0, none⟩) LL) := hin9.inl rfl (fun j hj => rfl)
    clear hst0 bb0 hin9
    go_wp2_with (refine wpList_store_run (by rfl) _ _ _ (by rfl) _ _ _ (by rfl) (by rfl) hst.out ?_)
    clear hst
    simp [bodyPost, results, Tryz.results13, go_sem, u0, u1, u2, u3, u4]
    exact ⟨⟨_, cc, rfl, finI.out, fun b off e => by injection e with e; injection e with e; have := lobH.out; omega⟩, finB.out⟩
  · have hc := es hr
    have xb : (c != 0) = true := by simpa using hc
    have xd : decide (c = 0) = false := decide_eq_false hc
    have nl := nN.out hr
    subst nl
    clear cH en es nN
    obtain ⟨zb, zf, k0, k1, k2, k3, k4⟩ := zl2.out.2.1
    have f0 := zf 0 (by omega)
    have f1 := zf 1 (by omega)
    have f2 := zf 2 (by omega)
    have f3 := zf 3 (by omega)
    have f4 := zf 4 (by omega)
    have zl : w.heap.size + 1 < w2.heap.size := zl2.out.1
    have zn : ¬ w.heap.size + 1 = w2.heap.size := by omega
    have zn2 : ¬ w2.heap.size = w.heap.size + 1 := by omega
    have finB : Hid (∀ o, Below w.heap.size w ((((((w2.setCell ⟨w.heap.size + 1, 0, none⟩ (.int .i64 c)).setCell ⟨w.heap.size + 1, 1, none⟩ (.int .i64 x)).setCell ⟨w.heap.size + 1, 2, none⟩ (.int .i64 0)).setCell ⟨w.heap.size + 1, 3, none⟩ (.bool b)).setCell ⟨w.heap.size + 1, 4, none⟩ (.bool false)).alloc o).drew) := fun o => by
      have h0 := set5_below zl2.out.2.2 (Nat.le_succ w.heap.size) (.int .i64 c) (.int .i64 x) (.int .i64 0) (.bool b) (.bool false)
      exact (h0.alloc h0.size o).drew
    have ub : Below w2.heap.size (((((w2.setCell ⟨w.heap.size + 1, 0, none⟩ (.int .i64 c)).setCell ⟨w.heap.size + 1, 1, none⟩ (.int .i64 x)).setCell ⟨w.heap.size + 1, 2, none⟩ (.int .i64 0)).setCell ⟨w.heap.size + 1, 3, none⟩ (.bool b)).setCell ⟨w.heap.size + 1, 4, none⟩ (.bool false)) (World.alloc (((((w2.setCell ⟨w.heap.size + 1, 0, none⟩ (.int .i64 c)).setCell ⟨w.heap.size + 1, 1, none⟩ (.int .i64 x)).setCell ⟨w.heap.size + 1, 2, none⟩ (.int .i64 0)).setCell ⟨w.heap.size + 1, 3, none⟩ (.bool b)).setCell ⟨w.heap.size + 1, 4, none⟩ (.bool false)) (.cells #[.int .i64 c, .int .i64 x, .int .i64 0, .bool b, .bool false] 36)) := (Below.refl _ _).alloc (by simp) _
    have u0 : (World.alloc (((((w2.setCell ⟨w.heap.size + 1, 0, none⟩ (.int .i64 c)).setCell ⟨w.heap.size + 1, 1, none⟩ (.int .i64 x)).setCell ⟨w.heap.size + 1, 2, none⟩ (.int .i64 0)).setCell ⟨w.heap.size + 1, 3, none⟩ (.bool b)).setCell ⟨w.heap.size + 1, 4, none⟩ (.bool false)) (.cells #[.int .i64 c, .int .i64 x, .int .i64 0, .bool b, .bool false] 36)).cell? ⟨w.heap.size + 1, 0, none⟩ = some (.int .i64 c) := by rw [ub.cell (p := ⟨w.heap.size + 1, 0, none⟩) zl]; simp [go_sem, k0, k1, k2, k3, k4]
    have u1 : (World.alloc (((((w2.setCell ⟨w.heap.size + 1, 0, none⟩ (.int .i64 c)).setCell ⟨w.heap.size + 1, 1, none⟩ (.int .i64 x)).setCell ⟨w.heap.size + 1, 2, none⟩ (.int .i64 0)).setCell ⟨w.heap.size + 1, 3, none⟩ (.bool b)).setCell ⟨w.heap.size + 1, 4, none⟩ (.bool false)) (.cells #[.int .i64 c, .int .i64 x, .int .i64 0, .bool b, .bool false] 36)).cell? ⟨w.heap.size + 1, 1, none⟩ = some (.int .i64 x) := by rw [ub.cell (p := ⟨w.heap.size + 1, 1, none⟩) zl]; simp [go_sem, k0, k1, k2, k3, k4]
    have u2 : (World.alloc (((((w2.setCell ⟨w.heap.size + 1, 0, none⟩ (.int .i64 c)).setCell ⟨w.heap.size + 1, 1, none⟩ (.int .i64 x)).setCell ⟨w.heap.size + 1, 2, none⟩ (.int .i64 0)).setCell ⟨w.heap.size + 1, 3, none⟩ (.bool b)).setCell ⟨w.heap.size + 1, 4, none⟩ (.bool false)) (.cells #[.int .i64 c, .int .i64 x, .int .i64 0, .bool b, .bool false] 36)).cell? ⟨w.heap.size + 1, 2, none⟩ = some (.int .i64 0) := by rw [ub.cell (p := ⟨w.heap.size + 1, 2, none⟩) zl]; simp [go_sem, k0, k1, k2, k3, k4]
    have u3 : (World.alloc (((((w2.setCell ⟨w.heap.size + 1, 0, none⟩ (.int .i64 c)).setCell ⟨w.heap.size + 1, 1, none⟩ (.int .i64 x)).setCell ⟨w.heap.size + 1, 2, none⟩ (.int .i64 0)).setCell ⟨w.heap.size + 1, 3, none⟩ (.bool b)).setCell ⟨w.heap.size + 1, 4, none⟩ (.bool false)) (.cells #[.int .i64 c, .int .i64 x, .int .i64 0, .bool b, .bool false] 36)).cell? ⟨w.heap.size + 1, 3, none⟩ = some (.bool b) := by rw [ub.cell (p := ⟨w.heap.size + 1, 3, none⟩) zl]; simp [go_sem, k0, k1, k2, k3, k4]
    have u4 : (World.alloc (((((w2.setCell ⟨w.heap.size + 1, 0, none⟩ (.int .i64 c)).setCell ⟨w.heap.size + 1, 1, none⟩ (.int .i64 x)).setCell ⟨w.heap.size + 1, 2, none⟩ (.int .i64 0)).setCell ⟨w.heap.size + 1, 3, none⟩ (.bool b)).setCell ⟨w.heap.size + 1, 4, none⟩ (.bool false)) (.cells #[.int .i64 c, .int .i64 x, .int .i64 0, .bool b, .bool false] 36)).cell? ⟨w.heap.size + 1, 4, none⟩ = some (.bool false) := by rw [ub.cell (p := ⟨w.heap.size + 1, 4, none⟩) zl]; simp [go_sem, k0, k1, k2, k3, k4]
    clear ub
    clear zl2
    clear zf e4 zb
    go_wp2_with fail
    go_region
    all_goals (try go_wp2_with fail)
    all_goals simp [bodyPost, results, Tryz.results13, go_sem, u0, u1, u2, u3, u4]
    all_goals exact ⟨⟨none, 0, rfl, Or.inl rfl, fun b off e => by cases e⟩, finB.out _⟩
set_option maxHeartbeats 8000000 in
theorem refRises_any (p : PrH) (q : PrL) (hN : PrN p q) (w : World) (h : PrIn w p q) : Calls Tryz.prog 15 #[p.v] w fun e w' => LsR w (badR (resD p q)) (hL (resD p q) q.output) e w' ∧ Below w.heap.size w w' := by
  have cP0 : ∀ W, EW w p W → Calls Tryz.prog 11 #[.agg #[.string p.from_, .string p.into, .int .i64 p.every, .int .i64 p.offset, .slice p.groups.a p.groups.n p.groups.c, .slice p.accs.a p.accs.n p.accs.c, .slice p.alias.a p.alias.n p.alias.c, .slice p.names.a p.names.n p.names.c, .slice p.texts.a p.texts.n p.texts.c, .slice p.lists.a p.lists.n p.lists.c, .slice p.times.a p.times.n p.times.c, .slice p.ints.a p.ints.n p.ints.c, .slice p.filter.a p.filter.n p.filter.c, .slice p.output.a p.output.n p.output.c]] W fun e w' => e = .returned (badR (resD p q)) ∧ Below W.heap.size W w' := fun W hW => refProgram_any p q hN W (h.below hW.1 (Nat.le_refl _))
  have cH : Hid (resD p q = none → ∀ W, EW w p W → Calls Tryz.prog 31 #[.slice p.output.a p.output.n p.output.c, .int .i64 0] W fun e w' => (∃ ob c, W.heap.size ≤ ob ∧ e = .returned (.tuple #[.slice (some ⟨ob, 0, none⟩) (hL (resD p q) q.output).length c, .agg #[.int .i64 0, .int .i64 0, .int .i64 0, .bool false, .bool false]]) ∧ RW w' ob (hL (resD p q) q.output).length (fun j => .int .i64 ((hL (resD p q) q.output).getD j 0))) ∧ Below W.heap.size W w') := fun hr W hW => by
    have ps := pas_of (p := p) (q := q) (by rw [res_same]; exact hr)
    have hl : q.output.length ≤ 65536 := by have := hd_len2 hN ps.hd; have := hN.output; omega
    have F := fmd_of ps.e2
    have e1 := hN.output
    have hn : (hgtD q.output 0 s0).2 = none := by rw [← hgt0 F]; exact ps.h2
    have e2 := hgt_len0 ps.h2
    have e3 : hL (resD p q) q.output = (hgtP q.output 0 m0 []).1 := by unfold hL; rw [if_pos hr]
    rw [e3, e2, ← e1]
    have := dheights_any q.output F p.output.a p.output.c hl 0 (by omega) W (h.below hW.1 (Nat.le_refl _)).output
    rw [← e1] at this
    refine this.mono (fun e w' hh => ⟨?_, hh.2⟩)
    have hp := hh.1
    unfold HtR at hp
    rw [hn] at hp
    obtain ⟨ob, h1, h2, h3⟩ := hp
    exact ⟨ob, _, h1, h2, h3.congr (fun j hj => by rw [hgt_vals0 F ps.h2 j (by omega)])⟩
  obtain ⟨c, x, b, eV, en, es⟩ := bad_is (resD p q) (res_ne p q)
  have eVH : Hid (badR (resD p q) = badV c x b) := eV
  rw [eV] at cP0 ⊢
  have e0 := EW.new w p
  have e0H : Hid (EW w p ((w.alloc (.cells p.cells 28)).alloc (.cells #[.int .i64 0, .int .i64 0, .int .i64 0, .bool false, .bool false] 36))) := e0
  have cP : Hid (∀ W, EW w p W → Calls Tryz.prog 11 #[.agg #[.string p.from_, .string p.into, .int .i64 p.every, .int .i64 p.offset, .slice p.groups.a p.groups.n p.groups.c, .slice p.accs.a p.accs.n p.accs.c, .slice p.alias.a p.alias.n p.alias.c, .slice p.names.a p.names.n p.names.c, .slice p.texts.a p.texts.n p.texts.c, .slice p.lists.a p.lists.n p.lists.c, .slice p.times.a p.times.n p.times.c, .slice p.ints.a p.ints.n p.ints.c, .slice p.filter.a p.filter.n p.filter.c, .slice p.output.a p.output.n p.output.c]] W fun e w' => e = .returned (.agg #[.int .i64 c, .int .i64 x, .int .i64 0, .bool b, .bool false]) ∧ Below W.heap.size W w') := cP0
  have nN : Hid (resD p q ≠ none → hL (resD p q) q.output = []) := fun hne => by unfold hL; rw [if_neg hne]
  clear e0 cP0 h hN eV eVH
  unfold PrH.v
  unfold PrH.cells at e0H
  generalize resD p q = r at *
  generalize hL r q.output = LL at *
  go_enter Tryz.func15, Tryz.ntmps15
  go_wp2_with fail
  generalize World.alloc (World.alloc w _) _ = W1 at e0H ⊢
  with_reducible refine Calls.mono (cP.out _ e0H.out) ?_
  rintro e w2 ⟨rfl, b2⟩
  have e2 : Hid (EW w p w2) := e0H.out.below b2
  clear cP e0H b2
  have zl2 : Hid (w.heap.size + 1 < w2.heap.size ∧ Bd5 w2 (w.heap.size + 1) ∧ Below w.heap.size w w2) := ⟨e2.out.2.2.1, e2.out.2.2, e2.out.1⟩
  have e4 : Hid (EW w p (w2.alloc (.cells #[.int .i64 c, .int .i64 x, .int .i64 0, .bool b, .bool false] 36))) := e2.out.below ((Below.refl _ _).alloc (Nat.le_refl _) _)
  clear e2
  by_cases hr : r = none
  · obtain ⟨rfl, rfl, rfl⟩ := en hr
    have cH1 : Hid (∀ W, EW w p W → Calls Tryz.prog 31 #[.slice p.output.a p.output.n p.output.c, .int .i64 0] W fun e w' => (∃ ob c, W.heap.size ≤ ob ∧ e = .returned (.tuple #[.slice (some ⟨ob, 0, none⟩) LL.length c, .agg #[.int .i64 0, .int .i64 0, .int .i64 0, .bool false, .bool false]]) ∧ RW w' ob LL.length (fun j => .int .i64 (LL.getD j 0))) ∧ Below W.heap.size W w') := cH.out hr
    clear cH en es nN
    obtain ⟨_, ⟨zp, y0, y1, y2, y3, y4, y5, y6, y7, y8, y9, y10, y11, y12, y13⟩, _⟩ := e4.out
    go_wp2_with fail
    clear zp y0 y1 y2 y3 y4 y5 y6 y7 y8 y9 y10 y11 y12 y13
    with_reducible refine Calls.mono (cH1.out _ e4.out) ?_
    rintro e w5 ⟨⟨ob, cc, lob, rfl, hin⟩, b5⟩
    have e5 : Hid (EW w p w5) := e4.out.below b5
    have lobH : Hid (w.heap.size ≤ ob) := Nat.le_trans e4.out.1.size lob
    have hne : w.heap.size + 1 ≠ ob := by have := e4.out.2.2.1; omega
    obtain ⟨W9, hst0, u0, u1, u2, u3, u4, bb0, hin9⟩ := store_bad2 e5.out.2.2 hin hne 0 0 false
    clear hin b5 e4 cH1 lob hne
    have hst : Hid ((Instr.storeAt 36 (.pointer (some ⟨w.heap.size + 1, 0, none⟩)) (.agg #[.int .i64 0, .int .i64 0, .int .i64 0, .bool false, .bool false])).run Tryz.prog w5 = .ok () W9) := hst0
    have finB : Hid (Below w.heap.size w W9) := bb0 _ _ e5.out.1 (by omega)
    have finI : Hid (I6.In W9 (some ⟨ob, 0, none⟩) LL) := hin9.inl rfl (fun j hj => rfl)
    clear hst0 bb0 hin9
    go_wp2_with (refine wpList_store_run (by rfl) _ _ _ (by rfl) _ _ _ (by rfl) (by rfl) hst.out ?_)
    clear hst
    simp [bodyPost, results, Tryz.results15, go_sem, u0, u1, u2, u3, u4]
    exact ⟨⟨_, cc, rfl, finI.out, fun b off e => by injection e with e; injection e with e; have := lobH.out; omega⟩, finB.out⟩
  · have hc := es hr
    have xb : (c != 0) = true := by simpa using hc
    have xd : decide (c = 0) = false := decide_eq_false hc
    have nl := nN.out hr
    subst nl
    clear cH en es nN
    obtain ⟨zb, zf, k0, k1, k2, k3, k4⟩ := zl2.out.2.1
    have f0 := zf 0 (by omega)
    have f1 := zf 1 (by omega)
    have f2 := zf 2 (by omega)
    have f3 := zf 3 (by omega)
    have f4 := zf 4 (by omega)
    have zl : w.heap.size + 1 < w2.heap.size := zl2.out.1
    have zn : ¬ w.heap.size + 1 = w2.heap.size := by omega
    have zn2 : ¬ w2.heap.size = w.heap.size + 1 := by omega
    have finB : Hid (∀ o, Below w.heap.size w ((((((w2.setCell ⟨w.heap.size + 1, 0, none⟩ (.int .i64 c)).setCell ⟨w.heap.size + 1, 1, none⟩ (.int .i64 x)).setCell ⟨w.heap.size + 1, 2, none⟩ (.int .i64 0)).setCell ⟨w.heap.size + 1, 3, none⟩ (.bool b)).setCell ⟨w.heap.size + 1, 4, none⟩ (.bool false)).alloc o).drew) := fun o => by
      have h0 := set5_below zl2.out.2.2 (Nat.le_succ w.heap.size) (.int .i64 c) (.int .i64 x) (.int .i64 0) (.bool b) (.bool false)
      exact (h0.alloc h0.size o).drew
    have ub : Below w2.heap.size (((((w2.setCell ⟨w.heap.size + 1, 0, none⟩ (.int .i64 c)).setCell ⟨w.heap.size + 1, 1, none⟩ (.int .i64 x)).setCell ⟨w.heap.size + 1, 2, none⟩ (.int .i64 0)).setCell ⟨w.heap.size + 1, 3, none⟩ (.bool b)).setCell ⟨w.heap.size + 1, 4, none⟩ (.bool false)) (World.alloc (((((w2.setCell ⟨w.heap.size + 1, 0, none⟩ (.int .i64 c)).setCell ⟨w.heap.size + 1, 1, none⟩ (.int .i64 x)).setCell ⟨w.heap.size + 1, 2, none⟩ (.int .i64 0)).setCell ⟨w.heap.size + 1, 3, none⟩ (.bool b)).setCell ⟨w.heap.size + 1, 4, none⟩ (.bool false)) (.cells #[.int .i64 c, .int .i64 x, .int .i64 0, .bool b, .bool false] 36)) := (Below.refl _ _).alloc (by simp) _
    have u0 : (World.alloc (((((w2.setCell ⟨w.heap.size + 1, 0, none⟩ (.int .i64 c)).setCell ⟨w.heap.size + 1, 1, none⟩ (.int .i64 x)).setCell ⟨w.heap.size + 1, 2, none⟩ (.int .i64 0)).setCell ⟨w.heap.size + 1, 3, none⟩ (.bool b)).setCell ⟨w.heap.size + 1, 4, none⟩ (.bool false)) (.cells #[.int .i64 c, .int .i64 x, .int .i64 0, .bool b, .bool false] 36)).cell? ⟨w.heap.size + 1, 0, none⟩ = some (.int .i64 c) := by rw [ub.cell (p := ⟨w.heap.size + 1, 0, none⟩) zl]; simp [go_sem, k0, k1, k2, k3, k4]
    have u1 : (World.alloc (((((w2.setCell ⟨w.heap.size + 1, 0, none⟩ (.int .i64 c)).setCell ⟨w.heap.size + 1, 1, none⟩ (.int .i64 x)).setCell ⟨w.heap.size + 1, 2, none⟩ (.int .i64 0)).setCell ⟨w.heap.size + 1, 3, none⟩ (.bool b)).setCell ⟨w.heap.size + 1, 4, none⟩ (.bool false)) (.cells #[.int .i64 c, .int .i64 x, .int .i64 0, .bool b, .bool false] 36)).cell? ⟨w.heap.size + 1, 1, none⟩ = some (.int .i64 x) := by rw [ub.cell (p := ⟨w.heap.size + 1, 1, none⟩) zl]; simp [go_sem, k0, k1, k2, k3, k4]
    have u2 : (World.alloc (((((w2.setCell ⟨w.heap.size + 1, 0, none⟩ (.int .i64 c)).setCell ⟨w.heap.size + 1, 1, none⟩ (.int .i64 x)).setCell ⟨w.heap.size + 1, 2, none⟩ (.int .i64 0)).setCell ⟨w.heap.size + 1, 3, none⟩ (.bool b)).setCell ⟨w.heap.size + 1, 4, none⟩ (.bool false)) (.cells #[.int .i64 c, .int .i64 x, .int .i64 0, .bool b, .bool false] 36)).cell? ⟨w.heap.size + 1, 2, none⟩ = some (.int .i64 0) := by rw [ub.cell (p := ⟨w.heap.size + 1, 2, none⟩) zl]; simp [go_sem, k0, k1, k2, k3, k4]
    have u3 : (World.alloc (((((w2.setCell ⟨w.heap.size + 1, 0, none⟩ (.int .i64 c)).setCell ⟨w.heap.size + 1, 1, none⟩ (.int .i64 x)).setCell ⟨w.heap.size + 1, 2, none⟩ (.int .i64 0)).setCell ⟨w.heap.size + 1, 3, none⟩ (.bool b)).setCell ⟨w.heap.size + 1, 4, none⟩ (.bool false)) (.cells #[.int .i64 c, .int .i64 x, .int .i64 0, .bool b, .bool false] 36)).cell? ⟨w.heap.size + 1, 3, none⟩ = some (.bool b) := by rw [ub.cell (p := ⟨w.heap.size + 1, 3, none⟩) zl]; simp [go_sem, k0, k1, k2, k3, k4]
    have u4 : (World.alloc (((((w2.setCell ⟨w.heap.size + 1, 0, none⟩ (.int .i64 c)).setCell ⟨w.heap.size + 1, 1, none⟩ (.int .i64 x)).setCell ⟨w.heap.size + 1, 2, none⟩ (.int .i64 0)).setCell ⟨w.heap.size + 1, 3, none⟩ (.bool b)).setCell ⟨w.heap.size + 1, 4, none⟩ (.bool false)) (.cells #[.int .i64 c, .int .i64 x, .int .i64 0, .bool b, .bool false] 36)).cell? ⟨w.heap.size + 1, 4, none⟩ = some (.bool false) := by rw [ub.cell (p := ⟨w.heap.size + 1, 4, none⟩) zl]; simp [go_sem, k0, k1, k2, k3, k4]
    clear ub
    clear zl2
    clear zf e4 zb
    go_wp2_with fail
    go_region
    all_goals (try go_wp2_with fail)
    all_goals simp [bodyPost, results, Tryz.results15, go_sem, u0, u1, u2, u3, u4]
    all_goals exact ⟨⟨none, 0, rfl, Or.inl rfl, fun b off e => by cases e⟩, finB.out _⟩
/-- a bound that is told. -/
def bF (r : Option (Int × Option Int)) (n : Nat) : Int := if r = none then (n : Int) else 0
set_option maxHeartbeats 8000000 in
theorem refBound_any (p : PrH) (q : PrL) (hN : PrN p q) (w : World) (h : PrIn w p q) : Calls Tryz.prog 18 #[p.v] w fun e w' => e = .returned (.tuple #[.int .i64 (bF (resD p q) p.filter.n), .int .i64 (bF (resD p q) p.output.n), badR (resD p q)]) ∧ Below w.heap.size w w' := by
  have cP0 : ∀ W, EW w p W → Calls Tryz.prog 11 #[.agg #[.string p.from_, .string p.into, .int .i64 p.every, .int .i64 p.offset, .slice p.groups.a p.groups.n p.groups.c, .slice p.accs.a p.accs.n p.accs.c, .slice p.alias.a p.alias.n p.alias.c, .slice p.names.a p.names.n p.names.c, .slice p.texts.a p.texts.n p.texts.c, .slice p.lists.a p.lists.n p.lists.c, .slice p.times.a p.times.n p.times.c, .slice p.ints.a p.ints.n p.ints.c, .slice p.filter.a p.filter.n p.filter.c, .slice p.output.a p.output.n p.output.c]] W fun e w' => e = .returned (badR (resD p q)) ∧ Below W.heap.size W w' := fun W hW => refProgram_any p q hN W (h.below hW.1 (Nat.le_refl _))
  obtain ⟨c, x, b, eV, en, es⟩ := bad_is (resD p q) (res_ne p q)
  have eVH : Hid (badR (resD p q) = badV c x b) := eV
  rw [eV] at cP0 ⊢
  have e0 := EW.new w p
  have e0H : Hid (EW w p ((w.alloc (.cells p.cells 28)).alloc (.cells #[.int .i64 0, .int .i64 0, .int .i64 0, .bool false, .bool false] 36))) := e0
  have cP : Hid (∀ W, EW w p W → Calls Tryz.prog 11 #[.agg #[.string p.from_, .string p.into, .int .i64 p.every, .int .i64 p.offset, .slice p.groups.a p.groups.n p.groups.c, .slice p.accs.a p.accs.n p.accs.c, .slice p.alias.a p.alias.n p.alias.c, .slice p.names.a p.names.n p.names.c, .slice p.texts.a p.texts.n p.texts.c, .slice p.lists.a p.lists.n p.lists.c, .slice p.times.a p.times.n p.times.c, .slice p.ints.a p.ints.n p.ints.c, .slice p.filter.a p.filter.n p.filter.c, .slice p.output.a p.output.n p.output.c]] W fun e w' => e = .returned (.agg #[.int .i64 c, .int .i64 x, .int .i64 0, .bool b, .bool false]) ∧ Below W.heap.size W w') := cP0
  have nX : Hid (∀ n, (resD p q ≠ none → bF (resD p q) n = 0) ∧ (resD p q = none → bF (resD p q) n = (n : Int))) := fun n => ⟨fun hne => by unfold bF; rw [if_neg hne], fun hn => by unfold bF; rw [if_pos hn]⟩
  clear e0 cP0 h hN eV eVH
  unfold PrH.v
  unfold PrH.cells at e0H
  generalize resD p q = r at *
  generalize hX : bF r p.filter.n = X at *
  generalize hZ : bF r p.output.n = Z at *
  have hXH : Hid (bF r p.filter.n = X) := hX
  have hZH : Hid (bF r p.output.n = Z) := hZ
  clear hX hZ
  go_enter Tryz.func18, Tryz.ntmps18
  go_wp2_with fail
  generalize World.alloc (World.alloc w _) _ = W1 at e0H ⊢
  with_reducible refine Calls.mono (cP.out _ e0H.out) ?_
  rintro e w2 ⟨rfl, b2⟩
  have e2 : Hid (EW w p w2) := e0H.out.below b2
  clear cP e0H b2
  have zl2 : Hid (w.heap.size + 1 < w2.heap.size ∧ Bd5 w2 (w.heap.size + 1) ∧ Below w.heap.size w w2) := ⟨e2.out.2.2.1, e2.out.2.2, e2.out.1⟩
  have zp2 : Hid (PB w2 w.heap.size p) := e2.out.2.1
  have e4 : Hid (EW w p (w2.alloc (.cells #[.int .i64 c, .int .i64 x, .int .i64 0, .bool b, .bool false] 36))) := e2.out.below ((Below.refl _ _).alloc (Nat.le_refl _) _)
  clear e2
  by_cases hr : r = none
  · obtain ⟨rfl, rfl, rfl⟩ := en hr
    have e1 : X = (p.filter.n : Int) := by rw [← hXH.out]; exact (nX.out _).2 hr
    have e3 : Z = (p.output.n : Int) := by rw [← hZH.out]; exact (nX.out _).2 hr
    subst e1 e3
    clear en es nX hXH hZH
    obtain ⟨zb, zf, k0, k1, k2, k3, k4⟩ := zl2.out.2.1
    have f0 := zf 0 (by omega)
    have f1 := zf 1 (by omega)
    have f2 := zf 2 (by omega)
    have f3 := zf 3 (by omega)
    have f4 := zf 4 (by omega)
    have zl : w.heap.size + 1 < w2.heap.size := zl2.out.1
    have zn : ¬ w.heap.size + 1 = w2.heap.size := by omega
    have zn2 : ¬ w2.heap.size = w.heap.size + 1 := by omega
    have finB : Hid (∀ o, Below w.heap.size w ((((((w2.setCell ⟨w.heap.size + 1, 0, none⟩ (.int .i64 0)).setCell ⟨w.heap.size + 1, 1, none⟩ (.int .i64 0)).setCell ⟨w.heap.size + 1, 2, none⟩ (.int .i64 0)).setCell ⟨w.heap.size + 1, 3, none⟩ (.bool false)).setCell ⟨w.heap.size + 1, 4, none⟩ (.bool false)).alloc o).drew) := fun o => by
      have h0 := set5_below zl2.out.2.2 (Nat.le_succ w.heap.size) (.int .i64 0) (.int .i64 0) (.int .i64 0) (.bool false) (.bool false)
      exact (h0.alloc h0.size o).drew
    have ub : Below w2.heap.size (((((w2.setCell ⟨w.heap.size + 1, 0, none⟩ (.int .i64 0)).setCell ⟨w.heap.size + 1, 1, none⟩ (.int .i64 0)).setCell ⟨w.heap.size + 1, 2, none⟩ (.int .i64 0)).setCell ⟨w.heap.size + 1, 3, none⟩ (.bool false)).setCell ⟨w.heap.size + 1, 4, none⟩ (.bool false)) (World.alloc (((((w2.setCell ⟨w.heap.size + 1, 0, none⟩ (.int .i64 0)).setCell ⟨w.heap.size + 1, 1, none⟩ (.int .i64 0)).setCell ⟨w.heap.size + 1, 2, none⟩ (.int .i64 0)).setCell ⟨w.heap.size + 1, 3, none⟩ (.bool false)).setCell ⟨w.heap.size + 1, 4, none⟩ (.bool false)) (.cells #[.int .i64 0, .int .i64 0, .int .i64 0, .bool false, .bool false] 36)) := (Below.refl _ _).alloc (by simp) _
    have u0 : (World.alloc (((((w2.setCell ⟨w.heap.size + 1, 0, none⟩ (.int .i64 0)).setCell ⟨w.heap.size + 1, 1, none⟩ (.int .i64 0)).setCell ⟨w.heap.size + 1, 2, none⟩ (.int .i64 0)).setCell ⟨w.heap.size + 1, 3, none⟩ (.bool false)).setCell ⟨w.heap.size + 1, 4, none⟩ (.bool false)) (.cells #[.int .i64 0, .int .i64 0, .int .i64 0, .bool false, .bool false] 36)).cell? ⟨w.heap.size + 1, 0, none⟩ = some (.int .i64 0) := by rw [ub.cell (p := ⟨w.heap.size + 1, 0, none⟩) zl]; simp [go_sem, k0, k1, k2, k3, k4]
    have u1 : (World.alloc (((((w2.setCell ⟨w.heap.size + 1, 0, none⟩ (.int .i64 0)).setCell ⟨w.heap.size + 1, 1, none⟩ (.int .i64 0)).setCell ⟨w.heap.size + 1, 2, none⟩ (.int .i64 0)).setCell ⟨w.heap.size + 1, 3, none⟩ (.bool false)).setCell ⟨w.heap.size + 1, 4, none⟩ (.bool false)) (.cells #[.int .i64 0, .int .i64 0, .int .i64 0, .bool false, .bool false] 36)).cell? ⟨w.heap.size + 1, 1, none⟩ = some (.int .i64 0) := by rw [ub.cell (p := ⟨w.heap.size + 1, 1, none⟩) zl]; simp [go_sem, k0, k1, k2, k3, k4]
    have u2 : (World.alloc (((((w2.setCell ⟨w.heap.size + 1, 0, none⟩ (.int .i64 0)).setCell ⟨w.heap.size + 1, 1, none⟩ (.int .i64 0)).setCell ⟨w.heap.size + 1, 2, none⟩ (.int .i64 0)).setCell ⟨w.heap.size + 1, 3, none⟩ (.bool false)).setCell ⟨w.heap.size + 1, 4, none⟩ (.bool false)) (.cells #[.int .i64 0, .int .i64 0, .int .i64 0, .bool false, .bool false] 36)).cell? ⟨w.heap.size + 1, 2, none⟩ = some (.int .i64 0) := by rw [ub.cell (p := ⟨w.heap.size + 1, 2, none⟩) zl]; simp [go_sem, k0, k1, k2, k3, k4]
    have u3 : (World.alloc (((((w2.setCell ⟨w.heap.size + 1, 0, none⟩ (.int .i64 0)).setCell ⟨w.heap.size + 1, 1, none⟩ (.int .i64 0)).setCell ⟨w.heap.size + 1, 2, none⟩ (.int .i64 0)).setCell ⟨w.heap.size + 1, 3, none⟩ (.bool false)).setCell ⟨w.heap.size + 1, 4, none⟩ (.bool false)) (.cells #[.int .i64 0, .int .i64 0, .int .i64 0, .bool false, .bool false] 36)).cell? ⟨w.heap.size + 1, 3, none⟩ = some (.bool false) := by rw [ub.cell (p := ⟨w.heap.size + 1, 3, none⟩) zl]; simp [go_sem, k0, k1, k2, k3, k4]
    have u4 : (World.alloc (((((w2.setCell ⟨w.heap.size + 1, 0, none⟩ (.int .i64 0)).setCell ⟨w.heap.size + 1, 1, none⟩ (.int .i64 0)).setCell ⟨w.heap.size + 1, 2, none⟩ (.int .i64 0)).setCell ⟨w.heap.size + 1, 3, none⟩ (.bool false)).setCell ⟨w.heap.size + 1, 4, none⟩ (.bool false)) (.cells #[.int .i64 0, .int .i64 0, .int .i64 0, .bool false, .bool false] 36)).cell? ⟨w.heap.size + 1, 4, none⟩ = some (.bool false) := by rw [ub.cell (p := ⟨w.heap.size + 1, 4, none⟩) zl]; simp [go_sem, k0, k1, k2, k3, k4]
    clear ub
    obtain ⟨zp, y0, y1, y2, y3, y4, y5, y6, y7, y8, y9, y10, y11, y12, y13⟩ := zp2.out
    have zl0 : w.heap.size < w2.heap.size := zp
    clear zp2 zp y0 y1 y2 y3 y4 y5 y6 y7 y8 y9 y10 y11
    clear zl2
    clear zf e4 zb
    go_wp2_with fail
    go_region
    all_goals (try go_wp2_with fail)
    all_goals simp [bodyPost, results, Tryz.results18, go_sem, u0, u1, u2, u3, u4]
    all_goals exact ⟨rfl, finB.out _⟩
  · have hc := es hr
    have xb : (c != 0) = true := by simpa using hc
    have xd : decide (c = 0) = false := decide_eq_false hc
    have e1 : X = 0 := by rw [← hXH.out]; exact (nX.out _).1 hr
    have e3 : Z = 0 := by rw [← hZH.out]; exact (nX.out _).1 hr
    subst e1 e3
    clear en es nX hXH hZH
    obtain ⟨zb, zf, k0, k1, k2, k3, k4⟩ := zl2.out.2.1
    have f0 := zf 0 (by omega)
    have f1 := zf 1 (by omega)
    have f2 := zf 2 (by omega)
    have f3 := zf 3 (by omega)
    have f4 := zf 4 (by omega)
    have zl : w.heap.size + 1 < w2.heap.size := zl2.out.1
    have zn : ¬ w.heap.size + 1 = w2.heap.size := by omega
    have zn2 : ¬ w2.heap.size = w.heap.size + 1 := by omega
    have finB : Hid (∀ o, Below w.heap.size w ((((((w2.setCell ⟨w.heap.size + 1, 0, none⟩ (.int .i64 c)).setCell ⟨w.heap.size + 1, 1, none⟩ (.int .i64 x)).setCell ⟨w.heap.size + 1, 2, none⟩ (.int .i64 0)).setCell ⟨w.heap.size + 1, 3, none⟩ (.bool b)).setCell ⟨w.heap.size + 1, 4, none⟩ (.bool false)).alloc o).drew) := fun o => by
      have h0 := set5_below zl2.out.2.2 (Nat.le_succ w.heap.size) (.int .i64 c) (.int .i64 x) (.int .i64 0) (.bool b) (.bool false)
      exact (h0.alloc h0.size o).drew
    have ub : Below w2.heap.size (((((w2.setCell ⟨w.heap.size + 1, 0, none⟩ (.int .i64 c)).setCell ⟨w.heap.size + 1, 1, none⟩ (.int .i64 x)).setCell ⟨w.heap.size + 1, 2, none⟩ (.int .i64 0)).setCell ⟨w.heap.size + 1, 3, none⟩ (.bool b)).setCell ⟨w.heap.size + 1, 4, none⟩ (.bool false)) (World.alloc (((((w2.setCell ⟨w.heap.size + 1, 0, none⟩ (.int .i64 c)).setCell ⟨w.heap.size + 1, 1, none⟩ (.int .i64 x)).setCell ⟨w.heap.size + 1, 2, none⟩ (.int .i64 0)).setCell ⟨w.heap.size + 1, 3, none⟩ (.bool b)).setCell ⟨w.heap.size + 1, 4, none⟩ (.bool false)) (.cells #[.int .i64 c, .int .i64 x, .int .i64 0, .bool b, .bool false] 36)) := (Below.refl _ _).alloc (by simp) _
    have u0 : (World.alloc (((((w2.setCell ⟨w.heap.size + 1, 0, none⟩ (.int .i64 c)).setCell ⟨w.heap.size + 1, 1, none⟩ (.int .i64 x)).setCell ⟨w.heap.size + 1, 2, none⟩ (.int .i64 0)).setCell ⟨w.heap.size + 1, 3, none⟩ (.bool b)).setCell ⟨w.heap.size + 1, 4, none⟩ (.bool false)) (.cells #[.int .i64 c, .int .i64 x, .int .i64 0, .bool b, .bool false] 36)).cell? ⟨w.heap.size + 1, 0, none⟩ = some (.int .i64 c) := by rw [ub.cell (p := ⟨w.heap.size + 1, 0, none⟩) zl]; simp [go_sem, k0, k1, k2, k3, k4]
    have u1 : (World.alloc (((((w2.setCell ⟨w.heap.size + 1, 0, none⟩ (.int .i64 c)).setCell ⟨w.heap.size + 1, 1, none⟩ (.int .i64 x)).setCell ⟨w.heap.size + 1, 2, none⟩ (.int .i64 0)).setCell ⟨w.heap.size + 1, 3, none⟩ (.bool b)).setCell ⟨w.heap.size + 1, 4, none⟩ (.bool false)) (.cells #[.int .i64 c, .int .i64 x, .int .i64 0, .bool b, .bool false] 36)).cell? ⟨w.heap.size + 1, 1, none⟩ = some (.int .i64 x) := by rw [ub.cell (p := ⟨w.heap.size + 1, 1, none⟩) zl]; simp [go_sem, k0, k1, k2, k3, k4]
    have u2 : (World.alloc (((((w2.setCell ⟨w.heap.size + 1, 0, none⟩ (.int .i64 c)).setCell ⟨w.heap.size + 1, 1, none⟩ (.int .i64 x)).setCell ⟨w.heap.size + 1, 2, none⟩ (.int .i64 0)).setCell ⟨w.heap.size + 1, 3, none⟩ (.bool b)).setCell ⟨w.heap.size + 1, 4, none⟩ (.bool false)) (.cells #[.int .i64 c, .int .i64 x, .int .i64 0, .bool b, .bool false] 36)).cell? ⟨w.heap.size + 1, 2, none⟩ = some (.int .i64 0) := by rw [ub.cell (p := ⟨w.heap.size + 1, 2, none⟩) zl]; simp [go_sem, k0, k1, k2, k3, k4]
    have u3 : (World.alloc (((((w2.setCell ⟨w.heap.size + 1, 0, none⟩ (.int .i64 c)).setCell ⟨w.heap.size + 1, 1, none⟩ (.int .i64 x)).setCell ⟨w.heap.size + 1, 2, none⟩ (.int .i64 0)).setCell ⟨w.heap.size + 1, 3, none⟩ (.bool b)).setCell ⟨w.heap.size + 1, 4, none⟩ (.bool false)) (.cells #[.int .i64 c, .int .i64 x, .int .i64 0, .bool b, .bool false] 36)).cell? ⟨w.heap.size + 1, 3, none⟩ = some (.bool b) := by rw [ub.cell (p := ⟨w.heap.size + 1, 3, none⟩) zl]; simp [go_sem, k0, k1, k2, k3, k4]
    have u4 : (World.alloc (((((w2.setCell ⟨w.heap.size + 1, 0, none⟩ (.int .i64 c)).setCell ⟨w.heap.size + 1, 1, none⟩ (.int .i64 x)).setCell ⟨w.heap.size + 1, 2, none⟩ (.int .i64 0)).setCell ⟨w.heap.size + 1, 3, none⟩ (.bool b)).setCell ⟨w.heap.size + 1, 4, none⟩ (.bool false)) (.cells #[.int .i64 c, .int .i64 x, .int .i64 0, .bool b, .bool false] 36)).cell? ⟨w.heap.size + 1, 4, none⟩ = some (.bool false) := by rw [ub.cell (p := ⟨w.heap.size + 1, 4, none⟩) zl]; simp [go_sem, k0, k1, k2, k3, k4]
    clear ub
    clear zl2
    clear zf e4 zb
    go_wp2_with fail
    go_region
    all_goals (try go_wp2_with fail)
    all_goals simp [bodyPost, results, Tryz.results18, go_sem, u0, u1, u2, u3, u4]
    all_goals exact ⟨rfl, finB.out _⟩
end Go.Proofs.YtdfnomglkibfbaaGreatDoor.Vf

namespace Go.Proofs.YtdfnomglkibfbaaGreatDoor.Vf
open Go.RowKit
set_option linter.unusedVariables false
set_option linter.unusedSimpArgs false
set_option maxRecDepth 100000
set_option maxHeartbeats 8000000 in
theorem aft_1 (s : List Int) (hn : s.length ≤ 65536) (a : Option Addr) (cc : Nat) (ta tb : Int) (w : World) (hI : I6.In w a s) : Calls Tryz.prog 35 #[.agg #[.int .u8 1, .int .i64 ta, .int .i64 tb], .slice a s.length cc] w fun e w' => ∃ v, e = .returned v ∧ I6.OE w' w.heap.size v (certD 1 s) ∧ Below w.heap.size w w' := by
  have b0 : Below w.heap.size w (w.alloc (.cells #[.int .u8 1, .int .i64 ta, .int .i64 tb] 59)) := (Below.refl _ w).alloc (Nat.le_refl _) _
  obtain ⟨v1, w1, hr1, o1, g1, _⟩ := I6.app _ w.heap.size (.slice none 0 0) [] s (I6.OE.nil (w.alloc (.cells #[.int .u8 1, .int .i64 ta, .int .i64 tb] 59)) w.heap.size) b0.size a cc 39 (hI.below b0 (Nat.le_refl _)) (by rw [List.length_nil]; omega)
  have b1 : Below w.heap.size w w1 := b0.trans (I6.grown_below (I6.OE.nil _ _) b0.size g1)
  rw [List.nil_append] at o1
  have h1H : Hid (∀ W' y', W' = w.alloc (.cells #[.int .u8 1, .int .i64 ta, .int .i64 tb] 59) → y' = Value.slice a s.length cc → (Builtin.append_ #[39, 39] 39 #[.slice none 0 0, y']).run Tryz.prog W' = .ok v1 w1) := fun W' y' e1 e2 => by rw [e1, e2]; exact hr1
  obtain ⟨v2, w2, hr2, o2, g2, b2, _⟩ := I6.app_one w1 w.heap.size v1 s o1 b1.size 2 39 (by omega)
  have fin : Hid (I6.OE w2 w.heap.size v2 (certD 1 s) ∧ Below w.heap.size w w2) := ⟨o2, b1.trans b2⟩
  have h2H : Hid (∀ W' y', W' = w1.alloc (.cells #[.int .i64 2] 3) → y' = Value.slice (some ⟨w1.heap.size, 0, none⟩) 1 1 → (Builtin.append_ #[39, 39] 39 #[v1, y']).run Tryz.prog W' = .ok v2 w2) := fun W' y' e1 e2 => by rw [e1, e2]; exact hr2
  clear hr2 o2 g2 b2
  clear hr1 o1 g1 b1 b0 hI
  generalize s.length = n at hn h1H ⊢
  go_enter Tryz.func35, Tryz.ntmps35
  go_wp2_with (at_builtin; first | (refine append_runN (.tmp 13) (.tmp 14) (by rfl) _ (by rfl) _ _ _ _ (by rfl) (by rfl) (h1H.out _ _ (by first | rfl | simp) (by first | rfl | simp)) ?_) | (refine append_runN (.tmp 15) (.tmp 16) (by rfl) _ (by rfl) _ _ _ _ (by rfl) (by rfl) (h2H.out _ _ (by first | rfl | simp) (by first | rfl | simp)) ?_))
  go_ret
  exact ⟨_, rfl, fin.out⟩
set_option maxHeartbeats 8000000 in
theorem aft_2 (s : List Int) (hn : s.length ≤ 65536) (a : Option Addr) (cc : Nat) (ta tb : Int) (w : World) (hI : I6.In w a s) : Calls Tryz.prog 35 #[.agg #[.int .u8 2, .int .i64 ta, .int .i64 tb], .slice a s.length cc] w fun e w' => ∃ v, e = .returned v ∧ I6.OE w' w.heap.size v (certD 2 s) ∧ Below w.heap.size w w' := by
  have b0 : Below w.heap.size w (w.alloc (.cells #[.int .u8 2, .int .i64 ta, .int .i64 tb] 59)) := (Below.refl _ w).alloc (Nat.le_refl _) _
  obtain ⟨v1, w1, hr1, o1, g1, _⟩ := I6.app _ w.heap.size (.slice none 0 0) [] s (I6.OE.nil (w.alloc (.cells #[.int .u8 2, .int .i64 ta, .int .i64 tb] 59)) w.heap.size) b0.size a cc 39 (hI.below b0 (Nat.le_refl _)) (by rw [List.length_nil]; omega)
  have b1 : Below w.heap.size w w1 := b0.trans (I6.grown_below (I6.OE.nil _ _) b0.size g1)
  rw [List.nil_append] at o1
  have h1H : Hid (∀ W' y', W' = w.alloc (.cells #[.int .u8 2, .int .i64 ta, .int .i64 tb] 59) → y' = Value.slice a s.length cc → (Builtin.append_ #[39, 39] 39 #[.slice none 0 0, y']).run Tryz.prog W' = .ok v1 w1) := fun W' y' e1 e2 => by rw [e1, e2]; exact hr1
  obtain ⟨v2, w2, hr2, o2, g2, b2, _⟩ := I6.app_one w1 w.heap.size v1 s o1 b1.size 1 39 (by omega)
  have fin : Hid (I6.OE w2 w.heap.size v2 (certD 2 s) ∧ Below w.heap.size w w2) := ⟨o2, b1.trans b2⟩
  have h2H : Hid (∀ W' y', W' = w1.alloc (.cells #[.int .i64 1] 3) → y' = Value.slice (some ⟨w1.heap.size, 0, none⟩) 1 1 → (Builtin.append_ #[39, 39] 39 #[v1, y']).run Tryz.prog W' = .ok v2 w2) := fun W' y' e1 e2 => by rw [e1, e2]; exact hr2
  clear hr2 o2 g2 b2
  clear hr1 o1 g1 b1 b0 hI
  generalize s.length = n at hn h1H ⊢
  go_enter Tryz.func35, Tryz.ntmps35
  go_wp2_with (at_builtin; first | (refine append_runN (.tmp 20) (.tmp 21) (by rfl) _ (by rfl) _ _ _ _ (by rfl) (by rfl) (h1H.out _ _ (by first | rfl | simp) (by first | rfl | simp)) ?_) | (refine append_runN (.tmp 22) (.tmp 23) (by rfl) _ (by rfl) _ _ _ _ (by rfl) (by rfl) (h2H.out _ _ (by first | rfl | simp) (by first | rfl | simp)) ?_))
  go_ret
  exact ⟨_, rfl, fin.out⟩
set_option maxHeartbeats 8000000 in
theorem aft_3 (s : List Int) (hn : s.length ≤ 65536) (a : Option Addr) (cc : Nat) (ta tb : Int) (w : World) (hI : I6.In w a s) : Calls Tryz.prog 35 #[.agg #[.int .u8 3, .int .i64 ta, .int .i64 tb], .slice a s.length cc] w fun e w' => ∃ v, e = .returned v ∧ I6.OE w' w.heap.size v (certD 3 s) ∧ Below w.heap.size w w' := by
  have b0 : Below w.heap.size w (w.alloc (.cells #[.int .u8 3, .int .i64 ta, .int .i64 tb] 59)) := (Below.refl _ w).alloc (Nat.le_refl _) _
  obtain ⟨v1, w1, hr1, o1, g1, _⟩ := I6.app _ w.heap.size (.slice none 0 0) [] s (I6.OE.nil (w.alloc (.cells #[.int .u8 3, .int .i64 ta, .int .i64 tb] 59)) w.heap.size) b0.size a cc 39 (hI.below b0 (Nat.le_refl _)) (by rw [List.length_nil]; omega)
  have b1 : Below w.heap.size w w1 := b0.trans (I6.grown_below (I6.OE.nil _ _) b0.size g1)
  rw [List.nil_append] at o1
  have h1H : Hid (∀ W' y', W' = w.alloc (.cells #[.int .u8 3, .int .i64 ta, .int .i64 tb] 59) → y' = Value.slice a s.length cc → (Builtin.append_ #[39, 39] 39 #[.slice none 0 0, y']).run Tryz.prog W' = .ok v1 w1) := fun W' y' e1 e2 => by rw [e1, e2]; exact hr1
  obtain ⟨v2, w2, hr2, o2, g2, b2, _⟩ := I6.app_one w1 w.heap.size v1 s o1 b1.size 0 39 (by omega)
  have fin : Hid (I6.OE w2 w.heap.size v2 (certD 3 s) ∧ Below w.heap.size w w2) := ⟨o2, b1.trans b2⟩
  have h2H : Hid (∀ W' y', W' = w1.alloc (.cells #[.int .i64 0] 3) → y' = Value.slice (some ⟨w1.heap.size, 0, none⟩) 1 1 → (Builtin.append_ #[39, 39] 39 #[v1, y']).run Tryz.prog W' = .ok v2 w2) := fun W' y' e1 e2 => by rw [e1, e2]; exact hr2
  clear hr2 o2 g2 b2
  clear hr1 o1 g1 b1 b0 hI
  generalize s.length = n at hn h1H ⊢
  go_enter Tryz.func35, Tryz.ntmps35
  go_wp2_with (at_builtin; first | (refine append_runN (.tmp 101) (.tmp 102) (by rfl) _ (by rfl) _ _ _ _ (by rfl) (by rfl) (h1H.out _ _ (by first | rfl | simp) (by first | rfl | simp)) ?_) | (refine append_runN (.tmp 103) (.tmp 104) (by rfl) _ (by rfl) _ _ _ _ (by rfl) (by rfl) (h2H.out _ _ (by first | rfl | simp) (by first | rfl | simp)) ?_))
  go_ret
  exact ⟨_, rfl, fin.out⟩
set_option maxHeartbeats 8000000 in
theorem aft_4 (s : List Int) (hn : s.length ≤ 65536) (a : Option Addr) (cc : Nat) (ta tb : Int) (w : World) (hI : I6.In w a s) : Calls Tryz.prog 35 #[.agg #[.int .u8 4, .int .i64 ta, .int .i64 tb], .slice a s.length cc] w fun e w' => ∃ v, e = .returned v ∧ I6.OE w' w.heap.size v (certD 4 s) ∧ Below w.heap.size w w' := by
  have b0 : Below w.heap.size w (w.alloc (.cells #[.int .u8 4, .int .i64 ta, .int .i64 tb] 59)) := (Below.refl _ w).alloc (Nat.le_refl _) _
  obtain ⟨v1, w1, hr1, o1, g1, _⟩ := I6.app _ w.heap.size (.slice none 0 0) [] s (I6.OE.nil (w.alloc (.cells #[.int .u8 4, .int .i64 ta, .int .i64 tb] 59)) w.heap.size) b0.size a cc 39 (hI.below b0 (Nat.le_refl _)) (by rw [List.length_nil]; omega)
  have b1 : Below w.heap.size w w1 := b0.trans (I6.grown_below (I6.OE.nil _ _) b0.size g1)
  rw [List.nil_append] at o1
  have h1H : Hid (∀ W' y', W' = w.alloc (.cells #[.int .u8 4, .int .i64 ta, .int .i64 tb] 59) → y' = Value.slice a s.length cc → (Builtin.append_ #[39, 39] 39 #[.slice none 0 0, y']).run Tryz.prog W' = .ok v1 w1) := fun W' y' e1 e2 => by rw [e1, e2]; exact hr1
  obtain ⟨v2, w2, hr2, o2, g2, b2, _⟩ := I6.app_one w1 w.heap.size v1 s o1 b1.size 0 39 (by omega)
  have fin : Hid (I6.OE w2 w.heap.size v2 (certD 4 s) ∧ Below w.heap.size w w2) := ⟨o2, b1.trans b2⟩
  have h2H : Hid (∀ W' y', W' = w1.alloc (.cells #[.int .i64 0] 3) → y' = Value.slice (some ⟨w1.heap.size, 0, none⟩) 1 1 → (Builtin.append_ #[39, 39] 39 #[v1, y']).run Tryz.prog W' = .ok v2 w2) := fun W' y' e1 e2 => by rw [e1, e2]; exact hr2
  clear hr2 o2 g2 b2
  clear hr1 o1 g1 b1 b0 hI
  generalize s.length = n at hn h1H ⊢
  go_enter Tryz.func35, Tryz.ntmps35
  go_wp2_with (at_builtin; first | (refine append_runN (.tmp 101) (.tmp 102) (by rfl) _ (by rfl) _ _ _ _ (by rfl) (by rfl) (h1H.out _ _ (by first | rfl | simp) (by first | rfl | simp)) ?_) | (refine append_runN (.tmp 103) (.tmp 104) (by rfl) _ (by rfl) _ _ _ _ (by rfl) (by rfl) (h2H.out _ _ (by first | rfl | simp) (by first | rfl | simp)) ?_))
  go_ret
  exact ⟨_, rfl, fin.out⟩
set_option maxHeartbeats 8000000 in
theorem aft_5 (s : List Int) (hn : s.length ≤ 65536) (a : Option Addr) (cc : Nat) (ta tb : Int) (w : World) (hI : I6.In w a s) : Calls Tryz.prog 35 #[.agg #[.int .u8 5, .int .i64 ta, .int .i64 tb], .slice a s.length cc] w fun e w' => ∃ v, e = .returned v ∧ I6.OE w' w.heap.size v (certD 5 s) ∧ Below w.heap.size w w' := by
  have b0 : Below w.heap.size w (w.alloc (.cells #[.int .u8 5, .int .i64 ta, .int .i64 tb] 59)) := (Below.refl _ w).alloc (Nat.le_refl _) _
  obtain ⟨v1, w1, hr1, o1, g1, _⟩ := I6.app _ w.heap.size (.slice none 0 0) [] s (I6.OE.nil (w.alloc (.cells #[.int .u8 5, .int .i64 ta, .int .i64 tb] 59)) w.heap.size) b0.size a cc 39 (hI.below b0 (Nat.le_refl _)) (by rw [List.length_nil]; omega)
  have b1 : Below w.heap.size w w1 := b0.trans (I6.grown_below (I6.OE.nil _ _) b0.size g1)
  rw [List.nil_append] at o1
  have h1H : Hid (∀ W' y', W' = w.alloc (.cells #[.int .u8 5, .int .i64 ta, .int .i64 tb] 59) → y' = Value.slice a s.length cc → (Builtin.append_ #[39, 39] 39 #[.slice none 0 0, y']).run Tryz.prog W' = .ok v1 w1) := fun W' y' e1 e2 => by rw [e1, e2]; exact hr1
  obtain ⟨v2, w2, hr2, o2, g2, b2, _⟩ := I6.app_one w1 w.heap.size v1 s o1 b1.size 0 39 (by omega)
  have fin : Hid (I6.OE w2 w.heap.size v2 (certD 5 s) ∧ Below w.heap.size w w2) := ⟨o2, b1.trans b2⟩
  have h2H : Hid (∀ W' y', W' = w1.alloc (.cells #[.int .i64 0] 3) → y' = Value.slice (some ⟨w1.heap.size, 0, none⟩) 1 1 → (Builtin.append_ #[39, 39] 39 #[v1, y']).run Tryz.prog W' = .ok v2 w2) := fun W' y' e1 e2 => by rw [e1, e2]; exact hr2
  clear hr2 o2 g2 b2
  clear hr1 o1 g1 b1 b0 hI
  generalize s.length = n at hn h1H ⊢
  go_enter Tryz.func35, Tryz.ntmps35
  go_wp2_with (at_builtin; first | (refine append_runN (.tmp 101) (.tmp 102) (by rfl) _ (by rfl) _ _ _ _ (by rfl) (by rfl) (h1H.out _ _ (by first | rfl | simp) (by first | rfl | simp)) ?_) | (refine append_runN (.tmp 103) (.tmp 104) (by rfl) _ (by rfl) _ _ _ _ (by rfl) (by rfl) (h2H.out _ _ (by first | rfl | simp) (by first | rfl | simp)) ?_))
  go_ret
  exact ⟨_, rfl, fin.out⟩
set_option maxHeartbeats 8000000 in
theorem aft_6 (s : List Int) (hn : s.length ≤ 65536) (a : Option Addr) (cc : Nat) (ta tb : Int) (w : World) (hI : I6.In w a s) : Calls Tryz.prog 35 #[.agg #[.int .u8 6, .int .i64 ta, .int .i64 tb], .slice a s.length cc] w fun e w' => ∃ v, e = .returned v ∧ I6.OE w' w.heap.size v (certD 6 s) ∧ Below w.heap.size w w' := by
  have b0 : Below w.heap.size w (w.alloc (.cells #[.int .u8 6, .int .i64 ta, .int .i64 tb] 59)) := (Below.refl _ w).alloc (Nat.le_refl _) _
  obtain ⟨v1, w1, hr1, o1, g1, _⟩ := I6.app _ w.heap.size (.slice none 0 0) [] s (I6.OE.nil (w.alloc (.cells #[.int .u8 6, .int .i64 ta, .int .i64 tb] 59)) w.heap.size) b0.size a cc 39 (hI.below b0 (Nat.le_refl _)) (by rw [List.length_nil]; omega)
  have b1 : Below w.heap.size w w1 := b0.trans (I6.grown_below (I6.OE.nil _ _) b0.size g1)
  rw [List.nil_append] at o1
  have h1H : Hid (∀ W' y', W' = w.alloc (.cells #[.int .u8 6, .int .i64 ta, .int .i64 tb] 59) → y' = Value.slice a s.length cc → (Builtin.append_ #[39, 39] 39 #[.slice none 0 0, y']).run Tryz.prog W' = .ok v1 w1) := fun W' y' e1 e2 => by rw [e1, e2]; exact hr1
  obtain ⟨v2, w2, hr2, o2, g2, b2, _⟩ := I6.app_one w1 w.heap.size v1 s o1 b1.size 0 39 (by omega)
  have fin : Hid (I6.OE w2 w.heap.size v2 (certD 6 s) ∧ Below w.heap.size w w2) := ⟨o2, b1.trans b2⟩
  have h2H : Hid (∀ W' y', W' = w1.alloc (.cells #[.int .i64 0] 3) → y' = Value.slice (some ⟨w1.heap.size, 0, none⟩) 1 1 → (Builtin.append_ #[39, 39] 39 #[v1, y']).run Tryz.prog W' = .ok v2 w2) := fun W' y' e1 e2 => by rw [e1, e2]; exact hr2
  clear hr2 o2 g2 b2
  clear hr1 o1 g1 b1 b0 hI
  generalize s.length = n at hn h1H ⊢
  go_enter Tryz.func35, Tryz.ntmps35
  go_wp2_with (at_builtin; first | (refine append_runN (.tmp 101) (.tmp 102) (by rfl) _ (by rfl) _ _ _ _ (by rfl) (by rfl) (h1H.out _ _ (by first | rfl | simp) (by first | rfl | simp)) ?_) | (refine append_runN (.tmp 103) (.tmp 104) (by rfl) _ (by rfl) _ _ _ _ (by rfl) (by rfl) (h2H.out _ _ (by first | rfl | simp) (by first | rfl | simp)) ?_))
  go_ret
  exact ⟨_, rfl, fin.out⟩
set_option maxHeartbeats 8000000 in
theorem aft_10 (s : List Int) (hn : s.length ≤ 65536) (a : Option Addr) (cc : Nat) (ta tb : Int) (w : World) (hI : I6.In w a s) : Calls Tryz.prog 35 #[.agg #[.int .u8 10, .int .i64 ta, .int .i64 tb], .slice a s.length cc] w fun e w' => ∃ v, e = .returned v ∧ I6.OE w' w.heap.size v (certD 10 s) ∧ Below w.heap.size w w' := by
  have b0 : Below w.heap.size w (w.alloc (.cells #[.int .u8 10, .int .i64 ta, .int .i64 tb] 59)) := (Below.refl _ w).alloc (Nat.le_refl _) _
  obtain ⟨v1, w1, hr1, o1, g1, _⟩ := I6.app _ w.heap.size (.slice none 0 0) [] s (I6.OE.nil (w.alloc (.cells #[.int .u8 10, .int .i64 ta, .int .i64 tb] 59)) w.heap.size) b0.size a cc 39 (hI.below b0 (Nat.le_refl _)) (by rw [List.length_nil]; omega)
  have b1 : Below w.heap.size w w1 := b0.trans (I6.grown_below (I6.OE.nil _ _) b0.size g1)
  rw [List.nil_append] at o1
  have h1H : Hid (∀ W' y', W' = w.alloc (.cells #[.int .u8 10, .int .i64 ta, .int .i64 tb] 59) → y' = Value.slice a s.length cc → (Builtin.append_ #[39, 39] 39 #[.slice none 0 0, y']).run Tryz.prog W' = .ok v1 w1) := fun W' y' e1 e2 => by rw [e1, e2]; exact hr1
  have fin : Hid (I6.OE w1 w.heap.size v1 (certD 10 s) ∧ Below w.heap.size w w1) := ⟨o1, b1⟩
  clear hr1 o1 g1 b1 b0 hI
  generalize s.length = n at hn h1H ⊢
  go_enter Tryz.func35, Tryz.ntmps35
  go_wp2_with (at_builtin; first | (refine append_runN (.tmp 89) (.tmp 90) (by rfl) _ (by rfl) _ _ _ _ (by rfl) (by rfl) (h1H.out _ _ (by first | rfl | simp) (by first | rfl | simp)) ?_))
  go_ret
  exact ⟨_, rfl, fin.out⟩
set_option maxHeartbeats 8000000 in
theorem aft_11 (s : List Int) (hn : s.length ≤ 65536) (a : Option Addr) (cc : Nat) (ta tb : Int) (w : World) (hI : I6.In w a s) : Calls Tryz.prog 35 #[.agg #[.int .u8 11, .int .i64 ta, .int .i64 tb], .slice a s.length cc] w fun e w' => ∃ v, e = .returned v ∧ I6.OE w' w.heap.size v (certD 11 s) ∧ Below w.heap.size w w' := by
  have b0 : Below w.heap.size w (w.alloc (.cells #[.int .u8 11, .int .i64 ta, .int .i64 tb] 59)) := (Below.refl _ w).alloc (Nat.le_refl _) _
  obtain ⟨v1, w1, hr1, o1, g1, _⟩ := I6.app _ w.heap.size (.slice none 0 0) [] s (I6.OE.nil (w.alloc (.cells #[.int .u8 11, .int .i64 ta, .int .i64 tb] 59)) w.heap.size) b0.size a cc 39 (hI.below b0 (Nat.le_refl _)) (by rw [List.length_nil]; omega)
  have b1 : Below w.heap.size w w1 := b0.trans (I6.grown_below (I6.OE.nil _ _) b0.size g1)
  rw [List.nil_append] at o1
  have h1H : Hid (∀ W' y', W' = w.alloc (.cells #[.int .u8 11, .int .i64 ta, .int .i64 tb] 59) → y' = Value.slice a s.length cc → (Builtin.append_ #[39, 39] 39 #[.slice none 0 0, y']).run Tryz.prog W' = .ok v1 w1) := fun W' y' e1 e2 => by rw [e1, e2]; exact hr1
  have fin : Hid (I6.OE w1 w.heap.size v1 (certD 11 s) ∧ Below w.heap.size w w1) := ⟨o1, b1⟩
  clear hr1 o1 g1 b1 b0 hI
  generalize s.length = n at hn h1H ⊢
  go_enter Tryz.func35, Tryz.ntmps35
  go_wp2_with (at_builtin; first | (refine append_runN (.tmp 89) (.tmp 90) (by rfl) _ (by rfl) _ _ _ _ (by rfl) (by rfl) (h1H.out _ _ (by first | rfl | simp) (by first | rfl | simp)) ?_))
  go_ret
  exact ⟨_, rfl, fin.out⟩
set_option maxHeartbeats 8000000 in
theorem aft_12 (s : List Int) (m : Nat) (hm : s.length = m + 1) (hn : s.length ≤ 65536) (b off : Nat) (cc : Nat) (hcc : s.length ≤ cc) (ta tb : Int) (w : World) (hI : I6.In w (some ⟨b, off, none⟩) s) : Calls Tryz.prog 35 #[.agg #[.int .u8 12, .int .i64 ta, .int .i64 tb], .slice (some ⟨b, off, none⟩) s.length cc] w fun e w' => ∃ v, e = .returned v ∧ I6.OE w' w.heap.size v (certD 12 s) ∧ Below w.heap.size w w' := by
  have b0 : Below w.heap.size w (w.alloc (.cells #[.int .u8 12, .int .i64 ta, .int .i64 tb] 59)) := (Below.refl _ w).alloc (Nat.le_refl _) _
  have lm : (s.take m).length = m := by rw [List.length_take]; omega
  obtain ⟨v1, w1, hr1, o1, g1, _⟩ := I6.app _ w.heap.size (.slice none 0 0) [] (s.take m) (I6.OE.nil (w.alloc (.cells #[.int .u8 12, .int .i64 ta, .int .i64 tb] 59)) w.heap.size) b0.size (some ⟨b, off, none⟩) cc 39 ((hI.below b0 (Nat.le_refl _)).take m) (by rw [List.length_nil, lm]; omega)
  have b1 : Below w.heap.size w w1 := b0.trans (I6.grown_below (I6.OE.nil _ _) b0.size g1)
  rw [List.nil_append] at o1
  rw [lm] at hr1
  have e1 : certD 12 s = s.take m := by
    show s.take (s.length - 1) = _
    rw [hm]; rfl
  have h1H : Hid (∀ W' y', W' = w.alloc (.cells #[.int .u8 12, .int .i64 ta, .int .i64 tb] 59) → y' = Value.slice (some ⟨b, off, none⟩) m cc → (Builtin.append_ #[39, 39] 39 #[.slice none 0 0, y']).run Tryz.prog W' = .ok v1 w1) := fun W' y' e1 e2 => by rw [e1, e2]; exact hr1
  have fin : Hid (I6.OE w1 w.heap.size v1 (certD 12 s) ∧ Below w.heap.size w w1) := ⟨by rw [e1]; exact o1, b1⟩
  clear hr1 o1 g1 b1 b0 hI lm e1
  have hw : IntKind.i64.wrap ((s.length : Int) - 1) = (m : Int) := by rw [hm, show ((m + 1 : Nat) : Int) - 1 = (m : Int) by omega]; exact IntWalk.i64_in _ (by omega)
  have m0 : (0 : Int) ≤ (m : Int) := by omega
  have mn : (m : Int) ≤ (s.length : Int) := by omega
  have mc : (m : Int) ≤ (cc : Int) := by omega
  have nc : (s.length : Int) ≤ (cc : Int) := by omega
  have mcN : m ≤ cc := by omega
  have cm : ¬ cc = m := by omega
  clear hm hcc
  generalize s.length = n at hn hw mn nc ⊢
  go_enter Tryz.func35, Tryz.ntmps35
  go_wp2_with (at_builtin; first | (refine append_runN (.tmp 95) (.tmp 99) (by rfl) _ (by rfl) _ _ _ _ (by rfl) (by rfl) (h1H.out _ _ (by first | rfl | simp) (by first | rfl | simp)) ?_))
  go_ret
  exact ⟨_, rfl, fin.out⟩
set_option maxHeartbeats 8000000 in
theorem aft_13 (s : List Int) (m : Nat) (hm : s.length = m + 1) (hn : s.length ≤ 65536) (b off : Nat) (cc : Nat) (hcc : s.length ≤ cc) (ta tb : Int) (w : World) (hI : I6.In w (some ⟨b, off, none⟩) s) : Calls Tryz.prog 35 #[.agg #[.int .u8 13, .int .i64 ta, .int .i64 tb], .slice (some ⟨b, off, none⟩) s.length cc] w fun e w' => ∃ v, e = .returned v ∧ I6.OE w' w.heap.size v (certD 13 s) ∧ Below w.heap.size w w' := by
  have b0 : Below w.heap.size w (w.alloc (.cells #[.int .u8 13, .int .i64 ta, .int .i64 tb] 59)) := (Below.refl _ w).alloc (Nat.le_refl _) _
  have lm : (s.take m).length = m := by rw [List.length_take]; omega
  obtain ⟨v1, w1, hr1, o1, g1, _⟩ := I6.app _ w.heap.size (.slice none 0 0) [] (s.take m) (I6.OE.nil (w.alloc (.cells #[.int .u8 13, .int .i64 ta, .int .i64 tb] 59)) w.heap.size) b0.size (some ⟨b, off, none⟩) cc 39 ((hI.below b0 (Nat.le_refl _)).take m) (by rw [List.length_nil, lm]; omega)
  have b1 : Below w.heap.size w w1 := b0.trans (I6.grown_below (I6.OE.nil _ _) b0.size g1)
  rw [List.nil_append] at o1
  rw [lm] at hr1
  have e1 : certD 13 s = s.take m := by
    show s.take (s.length - 1) = _
    rw [hm]; rfl
  have h1H : Hid (∀ W' y', W' = w.alloc (.cells #[.int .u8 13, .int .i64 ta, .int .i64 tb] 59) → y' = Value.slice (some ⟨b, off, none⟩) m cc → (Builtin.append_ #[39, 39] 39 #[.slice none 0 0, y']).run Tryz.prog W' = .ok v1 w1) := fun W' y' e1 e2 => by rw [e1, e2]; exact hr1
  have fin : Hid (I6.OE w1 w.heap.size v1 (certD 13 s) ∧ Below w.heap.size w w1) := ⟨by rw [e1]; exact o1, b1⟩
  clear hr1 o1 g1 b1 b0 hI lm e1
  have hw : IntKind.i64.wrap ((s.length : Int) - 1) = (m : Int) := by rw [hm, show ((m + 1 : Nat) : Int) - 1 = (m : Int) by omega]; exact IntWalk.i64_in _ (by omega)
  have m0 : (0 : Int) ≤ (m : Int) := by omega
  have mn : (m : Int) ≤ (s.length : Int) := by omega
  have mc : (m : Int) ≤ (cc : Int) := by omega
  have nc : (s.length : Int) ≤ (cc : Int) := by omega
  have mcN : m ≤ cc := by omega
  have cm : ¬ cc = m := by omega
  clear hm hcc
  generalize s.length = n at hn hw mn nc ⊢
  go_enter Tryz.func35, Tryz.ntmps35
  go_wp2_with (at_builtin; first | (refine append_runN (.tmp 95) (.tmp 99) (by rfl) _ (by rfl) _ _ _ _ (by rfl) (by rfl) (h1H.out _ _ (by first | rfl | simp) (by first | rfl | simp)) ?_))
  go_ret
  exact ⟨_, rfl, fin.out⟩
end Go.Proofs.YtdfnomglkibfbaaGreatDoor.Vf

namespace Go.Proofs.YtdfnomglkibfbaaGreatDoor.Vf
open Go.RowKit
set_option linter.unusedVariables false
set_option linter.unusedSimpArgs false
set_option maxRecDepth 100000
theorem step_append_runD {P : Program} {ops : Array Oper} {o : Oper} {a : Act} {w : World} {K : Act → World → Prop} {Q : Exit → Act → World → Prop} {E : Prop}
    (hg : o.guard = none) (s x : Operand) (t : TypeId) (hop : o.op = Op.call { callee := Callee.builtin Builtin.append, args := #[s, x], argTypes := #[t, t] })
    (v y v' : Value) (w' : World) (hs : a.eval s = v) (hx : a.eval x = y) (hr : (Builtin.append_ #[t, t] o.type #[v, y]).run P w = .ok v' w') (hK : K (a.put o.dst v') w') :
    if Region.wanted o (yielded ops a.tmps) = true then Oper.wp P o a w K Q else E := by
  have hw : Region.wanted o (yielded ops a.tmps) = true := by simp [Region.wanted, hg]
  rw [if_pos hw]
  unfold Oper.wp execOp
  simp only [hop, resolve, invoke, builtin, Sem.run_bind, Sem.run_pure, Result.andThen_ok, List.map_toArray, List.map_cons, List.map_nil, hs, hx, hr]
  exact hK
set_option maxHeartbeats 8000000 in
theorem aft_7 (s : List Int) (m : Nat) (hm : s.length = m + 1) (hn : s.length ≤ 65536) (b off : Nat) (cc : Nat) (hcc : s.length ≤ cc) (ta tb : Int) (w : World) (hI : I6.In w (some ⟨b, off, none⟩) s) : Calls Tryz.prog 35 #[.agg #[.int .u8 7, .int .i64 ta, .int .i64 tb], .slice (some ⟨b, off, none⟩) s.length cc] w fun e w' => ∃ v, e = .returned v ∧ I6.OE w' w.heap.size v (certD 7 s) ∧ Below w.heap.size w w' := by
  have b0 : Below w.heap.size w (w.alloc (.cells #[.int .u8 7, .int .i64 ta, .int .i64 tb] 59)).drew := ((Below.refl _ w).alloc (Nat.le_refl _) _).drew
  have lm : (s.take m).length = m := by rw [List.length_take]; omega
  obtain ⟨x0, et0⟩ : ∃ t, s[m + 0]? = some t := ⟨_, List.getElem?_eq_getElem (by omega)⟩
  have cb0 : Hid (∀ W, Below w.heap.size w W → W.cell? ⟨b, off + (m + 0), none⟩ = some (.int .i64 x0)) := fun W hW => by
    rcases hI with h | ⟨b', off', e, hb, hc⟩
    · rw [h] at et0; simp at et0
    · injection e with e
      injection e with e1 e2
      subst e1 e2
      rw [hW.cell (p := ⟨b, off + (m + 0), none⟩) hb]
      exact hc _ _ et0
  obtain ⟨v1, w1, hr1, o1, g1, _⟩ := I6.app _ w.heap.size (.slice none 0 0) [] (s.take m) (I6.OE.nil (w.alloc (.cells #[.int .u8 7, .int .i64 ta, .int .i64 tb] 59)).drew w.heap.size) b0.size (some ⟨b, off, none⟩) cc 39 ((hI.below b0 (Nat.le_refl _)).take m) (by rw [List.length_nil, lm]; omega)
  have b1 : Below w.heap.size w w1 := b0.trans (I6.grown_below (I6.OE.nil _ _) b0.size g1)
  rw [List.nil_append] at o1
  rw [lm] at hr1
  obtain ⟨y, hy⟩ : ∃ y, notD x0 = y := ⟨_, rfl⟩
  have e1 : certD 7 s = s.take m ++ [y] := by
    rw [← hy]
    show s.take (s.length - 1) ++ [notD (s.getD (s.length - 1) 0)] = _
    rw [hm, show m + 1 - 1 = m + 0 by omega, List.getD_eq_getElem?_getD, et0]; rfl
  obtain ⟨v2, w2, hr2, o2, g2, b2, _⟩ := I6.app_one w1 w.heap.size v1 (s.take m) o1 b1.size y 39 (by rw [lm]; omega)
  have fin : Hid (I6.OE w2 w.heap.size v2 (certD 7 s) ∧ Below w.heap.size w w2) := ⟨by rw [e1]; exact o2, b1.trans b2⟩
  have h1H : Hid (∀ W' y', W' = (w.alloc (.cells #[.int .u8 7, .int .i64 ta, .int .i64 tb] 59)).drew → y' = Value.slice (some ⟨b, off, none⟩) m cc → (Builtin.append_ #[39, 39] 39 #[.slice none 0 0, y']).run Tryz.prog W' = .ok v1 w1) := fun W' y' e1 e2 => by rw [e1, e2]; exact hr1
  have h2H : Hid (∀ W' y', W' = w1.alloc (.cells #[.int .i64 y] 3) → y' = Value.slice (some ⟨w1.heap.size, 0, none⟩) 1 1 → (Builtin.append_ #[39, 39] 39 #[v1, y']).run Tryz.prog W' = .ok v2 w2) := fun W' y' e1 e2 => by rw [e1, e2]; exact hr2
  have ba : Below w.heap.size w (w1.alloc (.cells #[.int .i64 y] 3)) := b1.alloc b1.size _
  have SS0 : (w.alloc (.cells #[.int .u8 7, .int .i64 ta, .int .i64 tb] 59)).drew.cell? ⟨b, off + m, none⟩ = some (.int .i64 x0) := cb0.out _ (b0)
  have SS1 : w1.cell? ⟨b, off + m, none⟩ = some (.int .i64 x0) := cb0.out _ (b1)
  have SS2 : (w1.alloc (.cells #[.int .i64 y] 3)).cell? ⟨b, off + m, none⟩ = some (.int .i64 x0) := cb0.out _ (ba)
  have SS3 : w2.cell? ⟨b, off + m, none⟩ = some (.int .i64 x0) := cb0.out _ (fin.out.2)
  have cN : Hid (∀ (v : Int) W, Calls Tryz.prog 88 #[.int .i64 v] W fun e w' => e = .returned (.int .i64 (notD v)) ∧ w' = W) := fun v W => refNot_any v W
  have cB : Hid (∀ (v u : Int) W, Calls Tryz.prog 89 #[.int .i64 v, .int .i64 u] W fun e w' => e = .returned (.int .i64 (bothD v u)) ∧ w' = W) := fun v u W => refBoth_any v u W
  clear hr1 o1 g1 b1 b0 hI lm e1 hr2 o2 g2 b2 ba et0 cb0
  have hw : IntKind.i64.wrap ((s.length : Int) - 1) = (m : Int) := by rw [hm, show ((m + 1 : Nat) : Int) - 1 = (m : Int) by omega]; exact IntWalk.i64_in _ (by omega)
  have m0 : (0 : Int) ≤ (m : Int) := by omega
  have mn : (m : Int) ≤ (s.length : Int) := by omega
  have mn2 : (m : Int) < (s.length : Int) := by omega
  have mc : (m : Int) ≤ (cc : Int) := by omega
  have nc : (s.length : Int) ≤ (cc : Int) := by omega
  have mcN : m ≤ cc := by omega
  have cm : ¬ cc = m := by omega
  clear hm hcc
  generalize s.length = n at hn hw mn mn2 nc ⊢
  go_enter Tryz.func35, Tryz.ntmps35
  go_wp2_with fail
  go_region_held3 (fun W => W.cell? ⟨b, off + m, none⟩ = some (.int .i64 x0)) (first | with_reducible assumption)
    (first
      | (refine step_append_runD rfl (.tmp 27) (.tmp 31) 39 rfl _ _ _ _ rfl rfl (h1H.out _ _ (by first | rfl | simp) (by first | rfl | simp)) ?_)
      | (refine step_append_runD rfl (.tmp 32) (.tmp 39) 39 rfl _ _ _ _ rfl rfl (h2H.out _ _ (by first | rfl | (rw [← hy]; rfl)) (by first | rfl | simp)) ?_)
      | (go_at_call 88; (with_reducible refine Calls.mono (cN.out _ _) ?_); rintro e w' ⟨rfl, rfl⟩)
      | (go_at_call 89; (with_reducible refine Calls.mono (cB.out _ _ _) ?_); rintro e w' ⟨rfl, rfl⟩))
  all_goals go_wp2_with fail
  all_goals go_ret
  all_goals exact ⟨_, rfl, fin.out⟩
set_option maxHeartbeats 8000000 in
theorem aft_8 (s : List Int) (m : Nat) (hm : s.length = m + 2) (hn : s.length ≤ 65536) (b off : Nat) (cc : Nat) (hcc : s.length ≤ cc) (ta tb : Int) (w : World) (hI : I6.In w (some ⟨b, off, none⟩) s) : Calls Tryz.prog 35 #[.agg #[.int .u8 8, .int .i64 ta, .int .i64 tb], .slice (some ⟨b, off, none⟩) s.length cc] w fun e w' => ∃ v, e = .returned v ∧ I6.OE w' w.heap.size v (certD 8 s) ∧ Below w.heap.size w w' := by
  have b0 : Below w.heap.size w (w.alloc (.cells #[.int .u8 8, .int .i64 ta, .int .i64 tb] 59)).drew := ((Below.refl _ w).alloc (Nat.le_refl _) _).drew
  have lm : (s.take m).length = m := by rw [List.length_take]; omega
  obtain ⟨x0, et0⟩ : ∃ t, s[m + 0]? = some t := ⟨_, List.getElem?_eq_getElem (by omega)⟩
  have cb0 : Hid (∀ W, Below w.heap.size w W → W.cell? ⟨b, off + (m + 0), none⟩ = some (.int .i64 x0)) := fun W hW => by
    rcases hI with h | ⟨b', off', e, hb, hc⟩
    · rw [h] at et0; simp at et0
    · injection e with e
      injection e with e1 e2
      subst e1 e2
      rw [hW.cell (p := ⟨b, off + (m + 0), none⟩) hb]
      exact hc _ _ et0
  obtain ⟨x1, et1⟩ : ∃ t, s[m + 1]? = some t := ⟨_, List.getElem?_eq_getElem (by omega)⟩
  have cb1 : Hid (∀ W, Below w.heap.size w W → W.cell? ⟨b, off + (m + 1), none⟩ = some (.int .i64 x1)) := fun W hW => by
    rcases hI with h | ⟨b', off', e, hb, hc⟩
    · rw [h] at et1; simp at et1
    · injection e with e
      injection e with e1 e2
      subst e1 e2
      rw [hW.cell (p := ⟨b, off + (m + 1), none⟩) hb]
      exact hc _ _ et1
  obtain ⟨v1, w1, hr1, o1, g1, _⟩ := I6.app _ w.heap.size (.slice none 0 0) [] (s.take m) (I6.OE.nil (w.alloc (.cells #[.int .u8 8, .int .i64 ta, .int .i64 tb] 59)).drew w.heap.size) b0.size (some ⟨b, off, none⟩) cc 39 ((hI.below b0 (Nat.le_refl _)).take m) (by rw [List.length_nil, lm]; omega)
  have b1 : Below w.heap.size w w1 := b0.trans (I6.grown_below (I6.OE.nil _ _) b0.size g1)
  rw [List.nil_append] at o1
  rw [lm] at hr1
  obtain ⟨y, hy⟩ : ∃ y, bothD x0 x1 = y := ⟨_, rfl⟩
  have e1 : certD 8 s = s.take m ++ [y] := by
    rw [← hy]
    show s.take (s.length - 2) ++ [bothD (s.getD (s.length - 2) 0) (s.getD (s.length - 1) 0)] = _
    rw [hm, show m + 2 - 2 = m + 0 by omega, show m + 2 - 1 = m + 1 by omega, List.getD_eq_getElem?_getD, List.getD_eq_getElem?_getD, et0, et1]; rfl
  obtain ⟨v2, w2, hr2, o2, g2, b2, _⟩ := I6.app_one w1 w.heap.size v1 (s.take m) o1 b1.size y 39 (by rw [lm]; omega)
  have fin : Hid (I6.OE w2 w.heap.size v2 (certD 8 s) ∧ Below w.heap.size w w2) := ⟨by rw [e1]; exact o2, b1.trans b2⟩
  have h1H : Hid (∀ W' y', W' = (w.alloc (.cells #[.int .u8 8, .int .i64 ta, .int .i64 tb] 59)).drew → y' = Value.slice (some ⟨b, off, none⟩) m cc → (Builtin.append_ #[39, 39] 39 #[.slice none 0 0, y']).run Tryz.prog W' = .ok v1 w1) := fun W' y' e1 e2 => by rw [e1, e2]; exact hr1
  have h2H : Hid (∀ W' y', W' = w1.alloc (.cells #[.int .i64 y] 3) → y' = Value.slice (some ⟨w1.heap.size, 0, none⟩) 1 1 → (Builtin.append_ #[39, 39] 39 #[v1, y']).run Tryz.prog W' = .ok v2 w2) := fun W' y' e1 e2 => by rw [e1, e2]; exact hr2
  have ba : Below w.heap.size w (w1.alloc (.cells #[.int .i64 y] 3)) := b1.alloc b1.size _
  have SS0 : (w.alloc (.cells #[.int .u8 8, .int .i64 ta, .int .i64 tb] 59)).drew.cell? ⟨b, off + m, none⟩ = some (.int .i64 x0) ∧ (w.alloc (.cells #[.int .u8 8, .int .i64 ta, .int .i64 tb] 59)).drew.cell? ⟨b, off + (m + 1), none⟩ = some (.int .i64 x1) := ⟨cb0.out _ (b0), cb1.out _ (b0)⟩
  have SS1 : w1.cell? ⟨b, off + m, none⟩ = some (.int .i64 x0) ∧ w1.cell? ⟨b, off + (m + 1), none⟩ = some (.int .i64 x1) := ⟨cb0.out _ (b1), cb1.out _ (b1)⟩
  have SS2 : (w1.alloc (.cells #[.int .i64 y] 3)).cell? ⟨b, off + m, none⟩ = some (.int .i64 x0) ∧ (w1.alloc (.cells #[.int .i64 y] 3)).cell? ⟨b, off + (m + 1), none⟩ = some (.int .i64 x1) := ⟨cb0.out _ (ba), cb1.out _ (ba)⟩
  have SS3 : w2.cell? ⟨b, off + m, none⟩ = some (.int .i64 x0) ∧ w2.cell? ⟨b, off + (m + 1), none⟩ = some (.int .i64 x1) := ⟨cb0.out _ (fin.out.2), cb1.out _ (fin.out.2)⟩
  have cN : Hid (∀ (v : Int) W, Calls Tryz.prog 88 #[.int .i64 v] W fun e w' => e = .returned (.int .i64 (notD v)) ∧ w' = W) := fun v W => refNot_any v W
  have cB : Hid (∀ (v u : Int) W, Calls Tryz.prog 89 #[.int .i64 v, .int .i64 u] W fun e w' => e = .returned (.int .i64 (bothD v u)) ∧ w' = W) := fun v u W => refBoth_any v u W
  clear hr1 o1 g1 b1 b0 hI lm e1 hr2 o2 g2 b2 ba et0 cb0 et1 cb1
  have hw : IntKind.i64.wrap ((s.length : Int) - 2) = (m : Int) := by rw [hm, show ((m + 2 : Nat) : Int) - 2 = (m : Int) by omega]; exact IntWalk.i64_in _ (by omega)
  have m0 : (0 : Int) ≤ (m : Int) := by omega
  have mn : (m : Int) ≤ (s.length : Int) := by omega
  have mn2 : (m : Int) < (s.length : Int) := by omega
  have mc : (m : Int) ≤ (cc : Int) := by omega
  have nc : (s.length : Int) ≤ (cc : Int) := by omega
  have mcN : m ≤ cc := by omega
  have cm : ¬ cc = m := by omega
  have hw1 : IntKind.i64.wrap ((s.length : Int) - 1) = ((m + 1 : Nat) : Int) := by rw [hm, show ((m + 2 : Nat) : Int) - 1 = ((m + 1 : Nat) : Int) by omega]; exact IntWalk.i64_in _ (by omega)
  have p0 : (0 : Int) ≤ ((m + 1 : Nat) : Int) := by omega
  have pn : ((m + 1 : Nat) : Int) < (s.length : Int) := by omega
  have p0' : (0 : Int) ≤ (m : Int) + 1 := by omega
  have pn' : (m : Int) + 1 < (s.length : Int) := by omega
  clear hm hcc
  generalize s.length = n at hn hw mn mn2 nc hw1 pn pn' ⊢
  go_enter Tryz.func35, Tryz.ntmps35
  go_wp2_with fail
  go_region_held3 (fun W => W.cell? ⟨b, off + m, none⟩ = some (.int .i64 x0) ∧ W.cell? ⟨b, off + (m + 1), none⟩ = some (.int .i64 x1)) (first | with_reducible assumption)
    (first
      | (refine step_append_runD rfl (.tmp 43) (.tmp 47) 39 rfl _ _ _ _ rfl rfl (h1H.out _ _ (by first | rfl | simp) (by first | rfl | simp)) ?_)
      | (refine step_append_runD rfl (.tmp 48) (.tmp 60) 39 rfl _ _ _ _ rfl rfl (h2H.out _ _ (by first | rfl | (rw [← hy]; rfl)) (by first | rfl | simp)) ?_)
      | (go_at_call 88; (with_reducible refine Calls.mono (cN.out _ _) ?_); rintro e w' ⟨rfl, rfl⟩)
      | (go_at_call 89; (with_reducible refine Calls.mono (cB.out _ _ _) ?_); rintro e w' ⟨rfl, rfl⟩))
  all_goals go_wp2_with fail
  all_goals go_ret
  all_goals exact ⟨_, rfl, fin.out⟩
set_option maxHeartbeats 8000000 in
theorem aft_9 (s : List Int) (m : Nat) (hm : s.length = m + 2) (hn : s.length ≤ 65536) (b off : Nat) (cc : Nat) (hcc : s.length ≤ cc) (ta tb : Int) (w : World) (hI : I6.In w (some ⟨b, off, none⟩) s) : Calls Tryz.prog 35 #[.agg #[.int .u8 9, .int .i64 ta, .int .i64 tb], .slice (some ⟨b, off, none⟩) s.length cc] w fun e w' => ∃ v, e = .returned v ∧ I6.OE w' w.heap.size v (certD 9 s) ∧ Below w.heap.size w w' := by
  have b0 : Below w.heap.size w (w.alloc (.cells #[.int .u8 9, .int .i64 ta, .int .i64 tb] 59)).drew := ((Below.refl _ w).alloc (Nat.le_refl _) _).drew
  have lm : (s.take m).length = m := by rw [List.length_take]; omega
  obtain ⟨x0, et0⟩ : ∃ t, s[m + 0]? = some t := ⟨_, List.getElem?_eq_getElem (by omega)⟩
  have cb0 : Hid (∀ W, Below w.heap.size w W → W.cell? ⟨b, off + (m + 0), none⟩ = some (.int .i64 x0)) := fun W hW => by
    rcases hI with h | ⟨b', off', e, hb, hc⟩
    · rw [h] at et0; simp at et0
    · injection e with e
      injection e with e1 e2
      subst e1 e2
      rw [hW.cell (p := ⟨b, off + (m + 0), none⟩) hb]
      exact hc _ _ et0
  obtain ⟨x1, et1⟩ : ∃ t, s[m + 1]? = some t := ⟨_, List.getElem?_eq_getElem (by omega)⟩
  have cb1 : Hid (∀ W, Below w.heap.size w W → W.cell? ⟨b, off + (m + 1), none⟩ = some (.int .i64 x1)) := fun W hW => by
    rcases hI with h | ⟨b', off', e, hb, hc⟩
    · rw [h] at et1; simp at et1
    · injection e with e
      injection e with e1 e2
      subst e1 e2
      rw [hW.cell (p := ⟨b, off + (m + 1), none⟩) hb]
      exact hc _ _ et1
  obtain ⟨v1, w1, hr1, o1, g1, _⟩ := I6.app _ w.heap.size (.slice none 0 0) [] (s.take m) (I6.OE.nil (w.alloc (.cells #[.int .u8 9, .int .i64 ta, .int .i64 tb] 59)).drew w.heap.size) b0.size (some ⟨b, off, none⟩) cc 39 ((hI.below b0 (Nat.le_refl _)).take m) (by rw [List.length_nil, lm]; omega)
  have b1 : Below w.heap.size w w1 := b0.trans (I6.grown_below (I6.OE.nil _ _) b0.size g1)
  rw [List.nil_append] at o1
  rw [lm] at hr1
  obtain ⟨y, hy⟩ : ∃ y, notD (bothD (notD x0) (notD x1)) = y := ⟨_, rfl⟩
  have e1 : certD 9 s = s.take m ++ [y] := by
    rw [← hy]
    show s.take (s.length - 2) ++ [notD (bothD (notD (s.getD (s.length - 2) 0)) (notD (s.getD (s.length - 1) 0)))] = _
    rw [hm, show m + 2 - 2 = m + 0 by omega, show m + 2 - 1 = m + 1 by omega, List.getD_eq_getElem?_getD, List.getD_eq_getElem?_getD, et0, et1]; rfl
  obtain ⟨v2, w2, hr2, o2, g2, b2, _⟩ := I6.app_one w1 w.heap.size v1 (s.take m) o1 b1.size y 39 (by rw [lm]; omega)
  have fin : Hid (I6.OE w2 w.heap.size v2 (certD 9 s) ∧ Below w.heap.size w w2) := ⟨by rw [e1]; exact o2, b1.trans b2⟩
  have h1H : Hid (∀ W' y', W' = (w.alloc (.cells #[.int .u8 9, .int .i64 ta, .int .i64 tb] 59)).drew → y' = Value.slice (some ⟨b, off, none⟩) m cc → (Builtin.append_ #[39, 39] 39 #[.slice none 0 0, y']).run Tryz.prog W' = .ok v1 w1) := fun W' y' e1 e2 => by rw [e1, e2]; exact hr1
  have h2H : Hid (∀ W' y', W' = w1.alloc (.cells #[.int .i64 y] 3) → y' = Value.slice (some ⟨w1.heap.size, 0, none⟩) 1 1 → (Builtin.append_ #[39, 39] 39 #[v1, y']).run Tryz.prog W' = .ok v2 w2) := fun W' y' e1 e2 => by rw [e1, e2]; exact hr2
  have ba : Below w.heap.size w (w1.alloc (.cells #[.int .i64 y] 3)) := b1.alloc b1.size _
  have SS0 : (w.alloc (.cells #[.int .u8 9, .int .i64 ta, .int .i64 tb] 59)).drew.cell? ⟨b, off + m, none⟩ = some (.int .i64 x0) ∧ (w.alloc (.cells #[.int .u8 9, .int .i64 ta, .int .i64 tb] 59)).drew.cell? ⟨b, off + (m + 1), none⟩ = some (.int .i64 x1) := ⟨cb0.out _ (b0), cb1.out _ (b0)⟩
  have SS1 : w1.cell? ⟨b, off + m, none⟩ = some (.int .i64 x0) ∧ w1.cell? ⟨b, off + (m + 1), none⟩ = some (.int .i64 x1) := ⟨cb0.out _ (b1), cb1.out _ (b1)⟩
  have SS2 : (w1.alloc (.cells #[.int .i64 y] 3)).cell? ⟨b, off + m, none⟩ = some (.int .i64 x0) ∧ (w1.alloc (.cells #[.int .i64 y] 3)).cell? ⟨b, off + (m + 1), none⟩ = some (.int .i64 x1) := ⟨cb0.out _ (ba), cb1.out _ (ba)⟩
  have SS3 : w2.cell? ⟨b, off + m, none⟩ = some (.int .i64 x0) ∧ w2.cell? ⟨b, off + (m + 1), none⟩ = some (.int .i64 x1) := ⟨cb0.out _ (fin.out.2), cb1.out _ (fin.out.2)⟩
  have cN : Hid (∀ (v : Int) W, Calls Tryz.prog 88 #[.int .i64 v] W fun e w' => e = .returned (.int .i64 (notD v)) ∧ w' = W) := fun v W => refNot_any v W
  have cB : Hid (∀ (v u : Int) W, Calls Tryz.prog 89 #[.int .i64 v, .int .i64 u] W fun e w' => e = .returned (.int .i64 (bothD v u)) ∧ w' = W) := fun v u W => refBoth_any v u W
  clear hr1 o1 g1 b1 b0 hI lm e1 hr2 o2 g2 b2 ba et0 cb0 et1 cb1
  have hw : IntKind.i64.wrap ((s.length : Int) - 2) = (m : Int) := by rw [hm, show ((m + 2 : Nat) : Int) - 2 = (m : Int) by omega]; exact IntWalk.i64_in _ (by omega)
  have m0 : (0 : Int) ≤ (m : Int) := by omega
  have mn : (m : Int) ≤ (s.length : Int) := by omega
  have mn2 : (m : Int) < (s.length : Int) := by omega
  have mc : (m : Int) ≤ (cc : Int) := by omega
  have nc : (s.length : Int) ≤ (cc : Int) := by omega
  have mcN : m ≤ cc := by omega
  have cm : ¬ cc = m := by omega
  have hw1 : IntKind.i64.wrap ((s.length : Int) - 1) = ((m + 1 : Nat) : Int) := by rw [hm, show ((m + 2 : Nat) : Int) - 1 = ((m + 1 : Nat) : Int) by omega]; exact IntWalk.i64_in _ (by omega)
  have p0 : (0 : Int) ≤ ((m + 1 : Nat) : Int) := by omega
  have pn : ((m + 1 : Nat) : Int) < (s.length : Int) := by omega
  have p0' : (0 : Int) ≤ (m : Int) + 1 := by omega
  have pn' : (m : Int) + 1 < (s.length : Int) := by omega
  clear hm hcc
  generalize s.length = n at hn hw mn mn2 nc hw1 pn pn' ⊢
  go_enter Tryz.func35, Tryz.ntmps35
  go_wp2_with fail
  go_region_held3 (fun W => W.cell? ⟨b, off + m, none⟩ = some (.int .i64 x0) ∧ W.cell? ⟨b, off + (m + 1), none⟩ = some (.int .i64 x1)) (first | with_reducible assumption)
    (first
      | (refine step_append_runD rfl (.tmp 64) (.tmp 68) 39 rfl _ _ _ _ rfl rfl (h1H.out _ _ (by first | rfl | simp) (by first | rfl | simp)) ?_)
      | (refine step_append_runD rfl (.tmp 69) (.tmp 84) 39 rfl _ _ _ _ rfl rfl (h2H.out _ _ (by first | rfl | (rw [← hy]; rfl)) (by first | rfl | simp)) ?_)
      | (go_at_call 88; (with_reducible refine Calls.mono (cN.out _ _) ?_); rintro e w' ⟨rfl, rfl⟩)
      | (go_at_call 89; (with_reducible refine Calls.mono (cB.out _ _ _) ?_); rintro e w' ⟨rfl, rfl⟩))
  all_goals go_wp2_with fail
  all_goals go_ret
  all_goals exact ⟨_, rfl, fin.out⟩
end Go.Proofs.YtdfnomglkibfbaaGreatDoor.Vf

namespace Go.Proofs.YtdfnomglkibfbaaGreatDoor.Vf
open Go.RowKit
set_option linter.unusedVariables false
set_option linter.unusedSimpArgs false
set_option maxRecDepth 100000
/-- the document's stack behind any instruction. -/
theorem after_any (tc : Nat) (ta tb : Int) (s : List Int) (h1 : 1 ≤ tc) (h2 : tc ≤ 13) (tk : (rowF tc).tk ≤ s.length) (hn : s.length ≤ 65536) (a : Option Addr) (cc : Nat) (hcc : s.length ≤ cc) (w : World) (hI : I6.In w a s) : Calls Tryz.prog 35 #[.agg #[.int .u8 (tc : Int), .int .i64 ta, .int .i64 tb], .slice a s.length cc] w fun e w' => ∃ v, e = .returned v ∧ I6.OE w' w.heap.size v (certD tc s) ∧ Below w.heap.size w w' := by
  have top : ∀ k, 1 ≤ k → k ≤ s.length → ∃ b off m, a = some ⟨b, off, none⟩ ∧ s.length = m + k := fun k k1 hk => by
    rcases hI with h | ⟨b, off, h, _⟩
    · rw [h] at hk; simp at hk; omega
    · exact ⟨b, off, s.length - k, h, by omega⟩
  match tc, h1, h2 with
  | 1, _, _ => exact aft_1 s hn a cc ta tb w hI
  | 2, _, _ => exact aft_2 s hn a cc ta tb w hI
  | 3, _, _ => exact aft_3 s hn a cc ta tb w hI
  | 4, _, _ => exact aft_4 s hn a cc ta tb w hI
  | 5, _, _ => exact aft_5 s hn a cc ta tb w hI
  | 6, _, _ => exact aft_6 s hn a cc ta tb w hI
  | 7, _, _ => obtain ⟨b, off, m, rfl, hm⟩ := top 1 (by omega) tk; exact aft_7 s m hm hn b off cc hcc ta tb w hI
  | 8, _, _ => obtain ⟨b, off, m, rfl, hm⟩ := top 2 (by omega) tk; exact aft_8 s m hm hn b off cc hcc ta tb w hI
  | 9, _, _ => obtain ⟨b, off, m, rfl, hm⟩ := top 2 (by omega) tk; exact aft_9 s m hm hn b off cc hcc ta tb w hI
  | 10, _, _ => exact aft_10 s hn a cc ta tb w hI
  | 11, _, _ => exact aft_11 s hn a cc ta tb w hI
  | 12, _, _ => obtain ⟨b, off, m, rfl, hm⟩ := top 1 (by omega) tk; exact aft_12 s m hm hn b off cc hcc ta tb w hI
  | 13, _, _ => obtain ⟨b, off, m, rfl, hm⟩ := top 1 (by omega) tk; exact aft_13 s m hm hn b off cc hcc ta tb w hI
  | c + 14, _, h => omega
end Go.Proofs.YtdfnomglkibfbaaGreatDoor.Vf

namespace Go.Proofs.YtdfnomglkibfbaaGreatDoor.Vf
open Go.RowKit
set_option linter.unusedVariables false
set_option linter.unusedSimpArgs false
set_option maxRecDepth 100000
theorem lit1 (w : World) (x : Int) : I6.OE (w.alloc (.cells #[.int .i64 x] 3)) w.heap.size (.slice (some ⟨w.heap.size, 0, none⟩) 1 1) [x] := ⟨by simp, Or.inr ⟨w.heap.size, 1, _, rfl, Nat.le_refl _, heap_alloc_new w _, Nat.le_refl _, by decide, by simp, by simp [I6.vl]⟩⟩
theorem lit2 (w : World) (x y : Int) : I6.OE (w.alloc (.cells #[.int .i64 x, .int .i64 y] 3)) w.heap.size (.slice (some ⟨w.heap.size, 0, none⟩) 2 2) [x, y] := ⟨by simp, Or.inr ⟨w.heap.size, 2, _, rfl, Nat.le_refl _, heap_alloc_new w _, Nat.le_refl _, by decide, by simp, by simp [I6.vl]⟩⟩
set_option maxHeartbeats 8000000 in
theorem ways_any (l : List InP) (k : Nat) (tc : Nat) (ta tb : Int) (s : List Int) (ht : l[k]? = some ⟨tc, ta, tb⟩) (hn : l.length ≤ 65536) (hs : s.length ≤ 65536) (htr : ∀ x ∈ s, Tr x) (h1 : (tc = 10 ∨ tc = 11) → 1 ≤ s.length ∧ 0 ≤ ta ∧ k + 1 < l.length) (a y : Option Addr) (c cy : Nat) (w : World) (hI : InIn w a l) (hS : I6.In w y (s.map dT)) :
    Calls Tryz.prog 34 #[.slice a l.length c, .int .i64 (k : Int), .slice y s.length cy] w fun e w' => ∃ v, e = .returned v ∧ I6.OE w' w.heap.size v (nat2 (waysD l k ⟨tc, ta, tb⟩ s)) ∧ Below w.heap.size w w' := by
  have hk : k < l.length := (List.getElem?_eq_some_iff.1 ht).1
  obtain ⟨g, off, t, et, ea, gl, c1, c2, c3⟩ := hI.at (k := k) hk
  rw [ht] at et
  injection et with et
  subst et
  subst ea
  simp only at c1 c2 c3
  have b1 : ∀ o : Obj, Below w.heap.size w (w.alloc o) := fun o => (Below.refl _ w).alloc (Nat.le_refl _) _
  have k0 : (0 : Int) ≤ (k : Int) := by omega
  have kI : (k : Int) < (l.length : Int) := by omega
  have kw : IntKind.i64.wrap ((k : Int) + 1) = (k : Int) + 1 := IntWalk.i64_in _ (by omega)
  by_cases hj : tc = 10 ∨ tc = 11
  · obtain ⟨s1, a0, kl⟩ := h1 hj
    obtain ⟨ja, rfl⟩ : ∃ ja : Nat, ta = (ja : Int) := ⟨ta.toNat, by omega⟩
    obtain ⟨yb, yo, x', ex, rfl, _, cx⟩ := hS.get (k := s.length - 1) (by rw [List.length_map]; omega)
    rw [List.getElem?_map, Option.map_eq_some_iff] at ex
    obtain ⟨x, ex, rfl⟩ := ex
    have e : s.getD (s.length - 1) 0 = x := by rw [List.getD_eq_getElem?_getD, ex]; rfl
    have tx : Tr x := htr _ (List.mem_of_getElem? ex)
    unfold I6.vl at cx
    obtain ⟨m, hm⟩ : ∃ m, s.length = m + 1 := ⟨s.length - 1, by omega⟩
    have hw : IntKind.i64.wrap (((m + 1 : Nat) : Int) - 1) = (m : Int) := by rw [show ((m + 1 : Nat) : Int) - 1 = (m : Int) by omega]; exact IntWalk.i64_in _ (by omega)
    have m0 : (0 : Int) ≤ (m : Int) := by omega
    have m1 : (m : Int) < ((m + 1 : Nat) : Int) := by omega
    have W0 : Hid (waysD l k ⟨tc, (ja : Int), tb⟩ s = (if leadG tc s = true then [k + 1] else []) ++ (if leadJ tc s = true then [ja] else [])) := by
      unfold waysD
      rw [if_pos hj]
      rfl
    unfold leadG leadJ at W0
    rw [e] at W0
    rw [hm] at cx ⊢
    simp only [Nat.add_sub_cancel] at cx
    have hw2 : wrap64 (m : Int) = (m : Int) := IntWalk.wrap64_in _ (by omega)
    clear h1 e ex hS htr hs hI ht hm s1 a0
    have cN : Hid (∀ (v : Int) W, Calls Tryz.prog 88 #[.int .i64 v] W fun e w' => e = .returned (.int .i64 (notD v)) ∧ w' = W) := fun v W => refNot_any v W
    unfold Tr at tx
    rcases hj with rfl | rfl
    · rcases tx with rfl | rfl | rfl
      · as_aux_lemma =>
        have cx' : w.cell? ⟨yb, yo + m, none⟩ = some (.int .i64 1) := cx
        have fin : Hid (I6.OE (w.alloc (.cells #[.int .i64 (ja : Int)] 3)) w.heap.size (.slice (some ⟨w.heap.size, 0, none⟩) 1 1) (nat2 (waysD l k ⟨10, (ja : Int), tb⟩ s)) ∧ Below w.heap.size w (w.alloc (.cells #[.int .i64 (ja : Int)] 3))) := by
          rw [W0.out]
          exact ⟨lit1 w (ja : Int), b1 _⟩
        clear cx W0 b1
        go_enter Tryz.func34, Tryz.ntmps34
        go_wp2_with fail
        go_ret
        exact ⟨_, rfl, fin.out⟩
      · as_aux_lemma =>
        have cx' : w.cell? ⟨yb, yo + m, none⟩ = some (.int .i64 0) := cx
        have fin : Hid (I6.OE (w.alloc (.cells #[.int .i64 ((k : Int) + 1), .int .i64 (ja : Int)] 3)) w.heap.size (.slice (some ⟨w.heap.size, 0, none⟩) 2 2) (nat2 (waysD l k ⟨10, (ja : Int), tb⟩ s)) ∧ Below w.heap.size w (w.alloc (.cells #[.int .i64 ((k : Int) + 1), .int .i64 (ja : Int)] 3))) := by
          rw [W0.out]
          exact ⟨lit2 w ((k : Int) + 1) (ja : Int), b1 _⟩
        clear cx W0 b1
        go_enter Tryz.func34, Tryz.ntmps34
        go_wp2_with fail
        go_ret
        exact ⟨_, rfl, fin.out⟩
      · as_aux_lemma =>
        have cx' : w.cell? ⟨yb, yo + m, none⟩ = some (.int .i64 2) := cx
        have fin : Hid (I6.OE (w.alloc (.cells #[.int .i64 ((k : Int) + 1)] 3)) w.heap.size (.slice (some ⟨w.heap.size, 0, none⟩) 1 1) (nat2 (waysD l k ⟨10, (ja : Int), tb⟩ s)) ∧ Below w.heap.size w (w.alloc (.cells #[.int .i64 ((k : Int) + 1)] 3))) := by
          rw [W0.out]
          exact ⟨lit1 w ((k : Int) + 1), b1 _⟩
        clear cx W0 b1
        go_enter Tryz.func34, Tryz.ntmps34
        go_wp2_with fail
        go_ret
        exact ⟨_, rfl, fin.out⟩
    · rcases tx with rfl | rfl | rfl
      · as_aux_lemma =>
        have cx' : w.cell? ⟨yb, yo + m, none⟩ = some (.int .i64 1) := cx
        have fin : Hid (I6.OE (w.alloc (.cells #[.int .i64 ((k : Int) + 1)] 3)) w.heap.size (.slice (some ⟨w.heap.size, 0, none⟩) 1 1) (nat2 (waysD l k ⟨11, (ja : Int), tb⟩ s)) ∧ Below w.heap.size w (w.alloc (.cells #[.int .i64 ((k : Int) + 1)] 3))) := by
          rw [W0.out]
          exact ⟨lit1 w ((k : Int) + 1), b1 _⟩
        clear cx W0 b1
        go_enter Tryz.func34, Tryz.ntmps34
        go_wp2_with fail
        with_reducible refine Calls.mono (cN.out 1 _) ?_
        rintro e w2 ⟨rfl, rfl⟩
        have en : notD 1 = 2 := rfl
        rw [en]
        go_wp2_with fail
        go_ret
        exact ⟨_, rfl, fin.out⟩
      · as_aux_lemma =>
        have cx' : w.cell? ⟨yb, yo + m, none⟩ = some (.int .i64 0) := cx
        have fin : Hid (I6.OE (w.alloc (.cells #[.int .i64 ((k : Int) + 1), .int .i64 (ja : Int)] 3)) w.heap.size (.slice (some ⟨w.heap.size, 0, none⟩) 2 2) (nat2 (waysD l k ⟨11, (ja : Int), tb⟩ s)) ∧ Below w.heap.size w (w.alloc (.cells #[.int .i64 ((k : Int) + 1), .int .i64 (ja : Int)] 3))) := by
          rw [W0.out]
          exact ⟨lit2 w ((k : Int) + 1) (ja : Int), b1 _⟩
        clear cx W0 b1
        go_enter Tryz.func34, Tryz.ntmps34
        go_wp2_with fail
        with_reducible refine Calls.mono (cN.out 0 _) ?_
        rintro e w2 ⟨rfl, rfl⟩
        have en : notD 0 = 0 := rfl
        rw [en]
        go_wp2_with fail
        go_ret
        exact ⟨_, rfl, fin.out⟩
      · as_aux_lemma =>
        have cx' : w.cell? ⟨yb, yo + m, none⟩ = some (.int .i64 2) := cx
        have fin : Hid (I6.OE (w.alloc (.cells #[.int .i64 (ja : Int)] 3)) w.heap.size (.slice (some ⟨w.heap.size, 0, none⟩) 1 1) (nat2 (waysD l k ⟨11, (ja : Int), tb⟩ s)) ∧ Below w.heap.size w (w.alloc (.cells #[.int .i64 (ja : Int)] 3))) := by
          rw [W0.out]
          exact ⟨lit1 w (ja : Int), b1 _⟩
        clear cx W0 b1
        go_enter Tryz.func34, Tryz.ntmps34
        go_wp2_with fail
        with_reducible refine Calls.mono (cN.out 2 _) ?_
        rintro e w2 ⟨rfl, rfl⟩
        have en : notD 2 = 1 := rfl
        rw [en]
        go_wp2_with fail
        go_ret
        exact ⟨_, rfl, fin.out⟩
  · have n1 : ¬ (tc : Int) = 10 := by omega
    have n2 : ¬ (tc : Int) = 11 := by omega
    have q1 : ((tc : Int) == 10) = false := beq_eq_false_iff_ne.2 n1
    have q2 : ((tc : Int) == 11) = false := beq_eq_false_iff_ne.2 n2
    by_cases hl : k + 1 < l.length
    · as_aux_lemma =>
      have hlI : (k : Int) + 1 < (l.length : Int) := by omega
      have fin : Hid (I6.OE (w.alloc (.cells #[.int .i64 ((k : Int) + 1)] 3)) w.heap.size (.slice (some ⟨w.heap.size, 0, none⟩) 1 1) (nat2 (waysD l k ⟨tc, ta, tb⟩ s)) ∧ Below w.heap.size w (w.alloc (.cells #[.int .i64 ((k : Int) + 1)] 3))) := by
        unfold waysD
        rw [if_neg hj, if_pos hl]
        exact ⟨lit1 w ((k : Int) + 1), b1 _⟩
      clear b1 hS htr hI ht h1 hj hk
      generalize l.length = n at *
      go_enter Tryz.func34, Tryz.ntmps34
      go_wp2_with fail
      go_ret
      exact ⟨_, rfl, fin.out⟩
    · as_aux_lemma =>
      have hlI : ¬ (k : Int) + 1 < (l.length : Int) := by omega
      have fin : Hid (I6.OE w w.heap.size (.slice none 0 0) (nat2 (waysD l k ⟨tc, ta, tb⟩ s)) ∧ Below w.heap.size w w) := by
        unfold waysD
        rw [if_neg hj, if_neg hl]
        exact ⟨I6.OE.nil _ _, Below.refl _ _⟩
      clear b1 hS htr hI ht h1 hj hk
      generalize l.length = n at *
      go_enter Tryz.func34, Tryz.ntmps34
      go_wp2_with fail
      go_ret
      exact ⟨_, rfl, fin.out⟩
end Go.Proofs.YtdfnomglkibfbaaGreatDoor.Vf

namespace Go.Proofs.YtdfnomglkibfbaaGreatDoor.Vf
open Go.RowKit
set_option linter.unusedVariables false
set_option linter.unusedSimpArgs false
set_option maxRecDepth 100000
def dL (r : Option (Int × Option Int)) (l : List InP) : List Int := if r = none then nat2 (deadL l) else []
theorem dmD_lt (l : List InP) : ∀ k, k ≤ l.length → (dmD l k).2.length ≤ k
  | 0, _ => Nat.le_refl _
  | k + 1, hk => by
    have d := dmD_lt l k (by omega)
    obtain ⟨t, ht⟩ : ∃ t, l[k]? = some t := ⟨_, List.getElem?_eq_getElem (by omega)⟩
    cases hm : (dmD l k).1 k with
    | none => rw [dmD_none ht hm]; simp; omega
    | some s => rw [dmD_some ht hm]; simp only; omega
theorem set_two (W : World) (A : Array Value) (T : TypeId) (o : Obj) (v : Value) : ((W.alloc (.cells A T)).alloc o).setCell ⟨W.heap.size, 0, none⟩ v = (W.alloc (.cells (A.setIfInBounds 0 v) T)).alloc o := by simp [go_sem]
/-- what stands at a place that is reached. -/
structure DSt (l : List InP) (k : Nat) (t : InP) (s : List Int) : Prop where
  tk : (rowF t.c).tk ≤ s.length
  tr : ∀ x ∈ s, Tr x
  ln : s.length ≤ 65536
  cl : (certP t.c s).length ≤ 65536
  c1 : 1 ≤ t.c
  c2 : t.c ≤ 13
  j1 : (t.c = 10 ∨ t.c = 11) → 1 ≤ s.length ∧ 0 ≤ t.a ∧ k + 1 < l.length
  wy : ∀ j, j ∈ waysD l k t s → k < j ∧ j < l.length
  lw : LN (dmD l k).1 (certP t.c s) (waysD l k t s)
theorem dst_of {l : List InP} {h : Nat → Int} (H : HOk l h) (F : Fil l) (J : Jmp l) {k : Nat} {t : InP} {s : List Int} (ht : l[k]? = some t) (hm : (dmD l k).1 k = some s) : DSt l k t s := by
  have hk : k < l.length := (List.getElem?_eq_some_iff.1 ht).1
  have hm' : (dmP l k).1 k = some s := by rw [← (dm_same F k (by omega)).2 k (Nat.le_refl _) hk]; exact hm
  have so := sto_of H F J ht hm'
  obtain ⟨w1, w2⟩ := ways_ok H F J ht hm'
  refine ⟨so.tk, so.tr, so.ln, so.cl, so.c1, so.c2, fun q => ?_, w1, w2⟩
  have a9 : (rowF t.c).a = 9 := by rcases q with q | q <;> rw [q] <;> rfl
  obtain ⟨j1, j2⟩ := J k t ht a9
  exact ⟨so.l1 q, by omega, by omega⟩
set_option maxHeartbeats 16000000 in
theorem refDead_any (p : PrH) (q : PrL) (hN : PrN p q) (w : World) (h : PrIn w p q) : Calls Tryz.prog 20 #[p.v] w fun e w' => LsR w (badR (resD p q)) (dL (resD p q) q.filter) e w' ∧ Below w.heap.size w w' := by
  have cP0 : ∀ W, EW w p W → Calls Tryz.prog 11 #[.agg #[.string p.from_, .string p.into, .int .i64 p.every, .int .i64 p.offset, .slice p.groups.a p.groups.n p.groups.c, .slice p.accs.a p.accs.n p.accs.c, .slice p.alias.a p.alias.n p.alias.c, .slice p.names.a p.names.n p.names.c, .slice p.texts.a p.texts.n p.texts.c, .slice p.lists.a p.lists.n p.lists.c, .slice p.times.a p.times.n p.times.c, .slice p.ints.a p.ints.n p.ints.c, .slice p.filter.a p.filter.n p.filter.c, .slice p.output.a p.output.n p.output.c]] W fun e w' => e = .returned (badR (resD p q)) ∧ Below W.heap.size W w' := fun W hW => refProgram_any p q hN W (h.below hW.1 (Nat.le_refl _))
  have STO : Hid (resD p q = none → (0 < q.filter.length ∧ q.filter.length ≤ 65536 ∧ (dmD q.filter q.filter.length).2 = deadL q.filter) ∧ ∀ (k : Nat) (t : InP) (s : List Int), q.filter[k]? = some t → (dmD q.filter k).1 k = some s → DSt q.filter k t s) := fun hr => by
    have ps := pas_of (p := p) (q := q) (by rw [res_same]; exact hr)
    exact ⟨⟨ps.pos, ps.len hN, dead_same ps.fil⟩, fun k t s ht hm => dst_of ps.hok ps.fil ps.jmp ht hm⟩
  have FIL : Hid (resD p q = none → Fil q.filter) := fun hr => (pas_of (p := p) (q := q) (by rw [res_same]; exact hr)).fil
  have hIH : Hid (∀ W, Below w.heap.size w W → InIn W p.filter.a q.filter) := fun W hb => (h.below hb (Nat.le_refl _)).filter
  have hnN : Hid (p.filter.n = q.filter.length) := hN.filter
  obtain ⟨c, x, b, eV, en, es⟩ := bad_is (resD p q) (res_ne p q)
  have eVH : Hid (badR (resD p q) = badV c x b) := eV
  rw [eV] at cP0 ⊢
  have e0 := EW.new w p
  have e0H : Hid (EW w p ((w.alloc (.cells p.cells 28)).alloc (.cells #[.int .i64 0, .int .i64 0, .int .i64 0, .bool false, .bool false] 36))) := e0
  have cP : Hid (∀ W, EW w p W → Calls Tryz.prog 11 #[.agg #[.string p.from_, .string p.into, .int .i64 p.every, .int .i64 p.offset, .slice p.groups.a p.groups.n p.groups.c, .slice p.accs.a p.accs.n p.accs.c, .slice p.alias.a p.alias.n p.alias.c, .slice p.names.a p.names.n p.names.c, .slice p.texts.a p.texts.n p.texts.c, .slice p.lists.a p.lists.n p.lists.c, .slice p.times.a p.times.n p.times.c, .slice p.ints.a p.ints.n p.ints.c, .slice p.filter.a p.filter.n p.filter.c, .slice p.output.a p.output.n p.output.c]] W fun e w' => e = .returned (.agg #[.int .i64 c, .int .i64 x, .int .i64 0, .bool b, .bool false]) ∧ Below W.heap.size W w') := cP0
  have nN : Hid (resD p q ≠ none → dL (resD p q) q.filter = []) := fun hne => by unfold dL; rw [if_neg hne]
  have nS : Hid (resD p q = none → dL (resD p q) q.filter = nat2 (deadL q.filter)) := fun hne => by unfold dL; rw [if_pos hne]
  clear e0 cP0 h hN eV eVH
  unfold PrH.v
  unfold PrH.cells at e0H
  generalize resD p q = r at *
  generalize q.filter = l at *
  generalize dL r l = LL at *
  go_enter Tryz.func20, Tryz.ntmps20
  go_wp2_with fail
  generalize World.alloc (World.alloc w _) _ = W1 at e0H ⊢
  with_reducible refine Calls.mono (cP.out _ e0H.out) ?_
  rintro e w2 ⟨rfl, b2⟩
  have e2 : Hid (EW w p w2) := e0H.out.below b2
  clear cP e0H b2
  have zl2 : Hid (w.heap.size + 1 < w2.heap.size ∧ Bd5 w2 (w.heap.size + 1) ∧ Below w.heap.size w w2) := ⟨e2.out.2.2.1, e2.out.2.2, e2.out.1⟩
  have e4 : Hid (EW w p (w2.alloc (.cells #[.int .i64 c, .int .i64 x, .int .i64 0, .bool b, .bool false] 36))) := e2.out.below ((Below.refl _ _).alloc (Nat.le_refl _) _)
  clear e2
  by_cases hr : r = none
  · obtain ⟨rfl, rfl, rfl⟩ := en hr
    obtain ⟨⟨pos, len, same⟩, DST⟩ := STO.out hr
    have DSTH : Hid (∀ (k : Nat) (t : InP) (s : List Int), l[k]? = some t → (dmD l k).1 k = some s → DSt l k t s) := DST
    have DLT : Hid (∀ k, k ≤ l.length → (dmD l k).2.length ≤ k) := dmD_lt l
    have sameH : Hid ((dmD l l.length).2 = deadL l) := same
    have nl : Hid (LL = nat2 (deadL l)) := nS.out hr
    have FILH : Hid (Fil l) := FIL.out hr
    clear en es nN nS STO DST same hr FIL
    obtain ⟨n, hn⟩ : ∃ n, p.filter.n = n := ⟨_, rfl⟩
    have hnH : Hid (l.length = n) := by rw [← hnN.out]; exact hn
    have pos' : 0 < n := by rw [← hnH.out]; exact pos
    have len' : n ≤ 65536 := by rw [← hnH.out]; exact len
    clear pos len hnN
    have posI : (0 : Int) < (n : Int) := by omega
    have mk1 : ∀ W, (Instr.makeSlice 49 (.int .i64 (n : Int)) (.int .i64 (n : Int))).run Tryz.prog W = .ok (.slice (some ⟨W.heap.size, 0, none⟩) n n) (W.alloc (.cells (madeCells #[.bool false] n) 4)) := fun W => make_bool n (by omega) W
    have mk2 : ∀ W, (Instr.makeSlice 62 (.int .i64 (n : Int)) (.int .i64 (n : Int))).run Tryz.prog W = .ok (.slice (some ⟨W.heap.size, 0, none⟩) n n) (W.alloc (.cells (madeCells #[.slice none 0 0] n) 39)) := fun W => make_rows n (by omega) W
    obtain ⟨_, ⟨zp, y0, y1, y2, y3, y4, y5, y6, y7, y8, y9, y10, y11, y12, y13⟩, _⟩ := e4.out
    rw [hn] at y12
    clear zp y0 y1 y2 y3 y4 y5 y6 y7 y8 y9 y10 y11 y13
    have sz0 : Hid (w.heap.size + 1 < w2.heap.size) := zl2.out.1
    clear zl2
    go_upto_region 4 with fail
    have nz : w2.heap.size + 1 = (w2.alloc (.cells #[.int .i64 0, .int .i64 0, .int .i64 0, .bool false, .bool false] 36)).heap.size := by simp
    generalize World.alloc w2 _ = W4 at *
    have r1 := RW.made W4 n (.bool false) 4
    have b1 : Below (W4.heap.size + 1) (W4.alloc (.cells (madeCells #[.bool false] n) 4)) ((W4.alloc (.cells (madeCells #[.bool false] n) 4)).alloc (.cells (madeCells #[.slice none 0 0] n) 39)) := (Below.refl _ _).alloc (by simp) _
    obtain ⟨x1, x2⟩ := (r1.below b1 (by omega)).2 0 pos'
    have D0 : Hid (DQ W4 W4.heap.size (W4.heap.size + 1) n (dmD l 0).1 (.slice none 0 0) (dmD l 0).2 ((W4.alloc (.cells ((madeCells #[.bool false] n).setIfInBounds 0 (.bool true)) 4)).alloc (.cells (madeCells #[.slice none 0 0] n) 39))) := by
      have h0 := DQ.start (Below.refl _ W4) l n pos'
      rw [set_two] at h0
      exact h0
    clear r1 b1 sz0 nz
    go_wp2_with fail
    clear x1 x2 y12 mk1 mk2
    generalize hW : World.alloc (World.alloc W4 _) _ = W5 at D0 ⊢
    clear hW
    generalize hC : W4.heap.size = C at D0 ⊢
    clear hC
    obtain ⟨S, hS⟩ : ∃ S, C + 1 = S := ⟨_, rfl⟩
    rw [hS] at D0 ⊢
    clear hS
    generalize p.filter.a = fa at *
    generalize p.filter.c = fc at *
    have e4B : Hid (Below w.heap.size w W4) := e4.out.1
    go_loopw [8, 9] (fun v8 v9 wr => ∃ (k : Nat) (na : Option Addr) (nn nc : Nat), v8 = .slice na nn nc ∧ v9 = .int .i64 (k : Int) ∧ k ≤ n ∧ Hid (DQ W4 C S n (dmD l k).1 (.slice na nn nc) (dmD l k).2 wr)) (fun _ v9 _ => n - (intOf v9).toNat)
    case atStart => exact ⟨0, none, 0, 0, rfl, rfl, Nat.zero_le _, D0⟩
    case round =>
      clear D0
      obtain ⟨k, na, nn, nc, rfl, rfl, hkn, hD⟩ := hrel
      obtain ⟨wo, hwo⟩ : ∃ wo : World, wo = wr := ⟨_, rfl⟩
      subst hwo
      have k0 : (0 : Int) ≤ (k : Int) := by omega
      by_cases hk : k < n
      · have kI : (k : Int) < (n : Int) := by omega
        have kw : IntKind.i64.wrap ((k : Int) + 1) = ((k + 1 : Nat) : Int) := IntWalk.i64_in _ (by omega)
        have bO : Below w.heap.size w wo := e4B.out.trans (hD.out.b.mono e4B.out.size)
        have inI : InIn wo fa l := hIH.out _ bO
        obtain ⟨g, off, t, et, ea, gl, c1, c2, c3⟩ := inI.at (k := k) (by rw [hnH.out]; exact hk)
        obtain ⟨tc, ta, tb⟩ := t
        obtain ⟨q1, q2⟩ := hD.out.co.2 k hk
        dsimp only at q1
        cases hm : (dmD l k).1 k with
        | none =>
          rw [hm] at q1
          have q1' : wo.cell? ⟨C, k, none⟩ = some (.bool false) := q1
          obtain ⟨v', w', hr, hx⟩ := hD.out.app k (by have := DLT.out k (by rw [hnH.out]; omega); omega)
          obtain ⟨na', nc', ev, _⟩ := hx.ou.ein
          have hrH : Hid (∀ W' y', W' = wo.alloc (.cells #[.int .i64 (k : Int)] 3) → y' = Value.slice (some ⟨wo.heap.size, 0, none⟩) 1 1 → (Builtin.append_ #[39, 39] 39 #[.slice na nn nc, y']).run Tryz.prog W' = .ok v' w') := fun W' y' e1 e2 => by rw [e1, e2]; exact hr
          have NX : Hid (DQ W4 C S n (dmD l (k + 1)).1 v' (dmD l (k + 1)).2 w') := by
            rw [dmD_none et hm]
            exact hx
          rw [ev] at NX hrH
          clear hr hx ev q1 q2 hD et ea gl c1 c2 c3 inI bO hm
          go_wp2_with (at_builtin; refine append_run (.tmp 41) (.tmp 43) (by rfl) _ (by rfl) _ _ _ _ (by rfl) (by rfl) (hrH.out _ _ (by first | rfl | simp) (by first | rfl | simp)) ?_)
          exact ⟨⟨k + 1, _, _, _, rfl, by first | rfl | (rw [kw]), by omega, NX⟩, by first | (simp [intOf]; done) | (simp [intOf]; omega)⟩
        | some s =>
          rw [hm] at q1
          have q1' : wo.cell? ⟨C, k, none⟩ = some (.bool true) := q1
          have st := DSTH.out k _ s et hm
          obtain ⟨G, hG1, hG2⟩ := hD.out.st
          obtain ⟨a2, cc2, e2, l2, i2, lo2⟩ := hG2 k hk
          have q3 := (hG1.2 k hk).1
          rw [hm] at e2 l2 i2
          simp only [Option.getD_some] at e2 l2 i2
          rw [e2] at q3
          have sml : (s.map dT).length = s.length := List.length_map ..
          have cW0 := ways_any l k tc ta tb s et (by rw [hnH.out]; exact len') st.ln st.tr st.j1 fa a2 fc cc2 wo inI i2
          rw [hnH.out] at cW0
          obtain ⟨nx, hnx⟩ : ∃ nx, waysD l k ⟨tc, ta, tb⟩ s = nx := ⟨_, rfl⟩
          rw [hnx] at cW0
          obtain ⟨cs, hcs⟩ : ∃ cs, certP tc s = cs := ⟨_, rfl⟩
          have nxl : nx.length ≤ 2 := by rw [← hnx]; exact ways_len l k _ s
          have NXE : Hid (∀ nv W, DQ W4 C S n (bringsT cs (nx.take nx.length) (dmD l k).1) nv (dmD l k).2 W → DQ W4 C S n (dmD l (k + 1)).1 nv (dmD l (k + 1)).2 W) := fun nv W h => by
            rw [dmD_some et hm]
            simp only
            rw [hnx, hcs]
            rw [List.take_length] at h
            exact h
          have WY : Hid (∀ j, j ∈ nx → j < n) := fun j hj => by
            rw [← hnx] at hj
            have := (st.wy j hj).2
            rw [hnH.out] at this
            exact this
          have clH : Hid (cs.length ≤ 65536) := by rw [← hcs]; exact st.cl
          have cW : Hid (Calls Tryz.prog 34 #[.slice fa n fc, .int .i64 (k : Int), .slice a2 s.length cc2] wo fun e w' => ∃ ax nl cx, e = .returned (.slice ax nl cx) ∧ Hid (nl = nx.length ∧ I6.OE w' wo.heap.size (.slice ax nl cx) (nat2 nx) ∧ Below wo.heap.size wo w')) := cW0.mono (fun e w' ⟨v, h1, h2, h3⟩ => by
            obtain ⟨ax, cx, ev, _⟩ := h2.ein
            have hl : (nat2 nx).length = nx.length := by unfold nat2; simp
            rw [ev] at h1 h2
            exact ⟨ax, _, cx, h1, hl, h2, h3⟩)
          have cA : Hid (∀ W, Below wo.heap.size wo W → Calls Tryz.prog 35 #[.agg #[.int .u8 (tc : Int), .int .i64 ta, .int .i64 tb], .slice a2 s.length cc2] W fun e w' => ∃ ac nl cx, e = .returned (.slice ac nl cx) ∧ Hid (nl = cs.length ∧ I6.OE w' wo.heap.size (.slice ac nl cx) (cs.map dT)) ∧ Below W.heap.size W w') := fun W hW => by
            have h0 := after_any tc ta tb (s.map dT) st.c1 st.c2 (by rw [sml]; exact st.tk) (by rw [sml]; exact st.ln) a2 cc2 (by rw [sml]; exact l2) W (i2.below hW (Nat.le_refl _))
            rw [sml, certD_eq st.c1 st.c2 st.tk st.tr, hcs] at h0
            exact h0.mono (fun e w' ⟨v, h1, h2, h3⟩ => by
              obtain ⟨ax, cx, ev, _⟩ := h2.ein
              have hl : (cs.map dT).length = cs.length := List.length_map ..
              rw [ev] at h1 h2
              exact ⟨ax, _, cx, h1, ⟨hl, h2.mono hW.size⟩, h3⟩)
          have NQ0 : Hid (∀ W ax nl cx ac n2 c2, Below wo.heap.size wo W → I6.OE W wo.heap.size (.slice ax nl cx) (nat2 nx) → I6.OE W wo.heap.size (.slice ac n2 c2) (cs.map dT) → NQ W4 C S n (dmD l k).1 (.slice na nn nc) (dmD l k).2 wo.heap.size nx (.slice ax nl cx) (.slice ac n2 c2) cs 0 W) := fun W ax nl cx ac n2 c2 hb h1 h2 => by
            refine ⟨hD.out.below hb, h1, h2, hD.out.lt, fun x hx => (hD.out.nvl x hx).2, ?_, ?_⟩
            · have := st.lw
              rw [hnx, hcs] at this
              exact this
            · rw [← hcs]; exact cert_tr st.tr
          have lC : C < wo.heap.size := by have := hD.out.cs; have := hD.out.lt; omega
          have lS : S < wo.heap.size := hD.out.lt
          have SC : Hid (∀ W, Below wo.heap.size wo W → W.cell? ⟨g, off + k * 3, none⟩ = some (.int .u8 (tc : Int)) ∧ W.cell? ⟨g, off + k * 3 + 1, none⟩ = some (.int .i64 ta) ∧ W.cell? ⟨g, off + k * 3 + 2, none⟩ = some (.int .i64 tb) ∧ W.cell? ⟨S, k, none⟩ = some (.slice a2 s.length cc2)) := fun W hW => ⟨by rw [hW.cell (p := ⟨g, off + k * 3, none⟩) gl]; exact c1, by rw [hW.cell (p := ⟨g, off + k * 3 + 1, none⟩) gl]; exact c2, by rw [hW.cell (p := ⟨g, off + k * 3 + 2, none⟩) gl]; exact c3, by rw [hW.cell (p := ⟨S, k, none⟩) lS]; exact q3⟩
          clear q1 q2 hD et gl c1 c2 c3 inI bO hm st hG1 hG2 e2 l2 i2 lo2 sml cW0 hnx hcs lC lS
          subst ea
          go_wp2_with fail
          with_reducible refine Calls.mono cW.out ?_
          rintro e w5 ⟨ax, nl, cx, rfl, hX⟩
          clear cW q1' q3
          have SD := SC.out w5.drew hX.out.2.2.drew
          have b5 : Below wo.heap.size wo w5.drew := hX.out.2.2.drew
          go_wp2_with fail
          go_region_held3 (fun W => W.cell? ⟨g, off + k * 3, none⟩ = some (.int .u8 (tc : Int)) ∧ W.cell? ⟨g, off + k * 3 + 1, none⟩ = some (.int .i64 ta) ∧ W.cell? ⟨g, off + k * 3 + 2, none⟩ = some (.int .i64 tb) ∧ W.cell? ⟨S, k, none⟩ = some (.slice a2 s.length cc2)) (first | with_reducible assumption)
            (first | (go_at_call 35; (with_reducible refine Calls.mono (cA.out _ b5) ?_); rintro e w6 ⟨ac, n2, c2, rfl, hY, b6⟩; have SE := SC.out w6 (b5.trans (b6.mono b5.size))))
          have nlH : Hid (nl = nx.length ∧ n2 = cs.length) := ⟨hX.out.1, hY.out.1⟩
          have NQ1 : Hid (NQ W4 C S n (dmD l k).1 (.slice na nn nc) (dmD l k).2 wo.heap.size nx (.slice ax nl cx) (.slice ac n2 c2) cs 0 w6) := NQ0.out _ _ _ _ _ _ _ (b5.trans (b6.mono b5.size)) (hX.out.2.1.below (((Below.refl _ w5).drew).trans b6) (Nat.le_refl _)) hY.out.2
          clear SD SE SC b6 b5 cA hX hY NQ0
          go_wp2_with fail
          obtain ⟨n1, n2'⟩ := nlH.out
          subst n1 n2'
          generalize hnxn : nx.length = nxn at *
          have nxH : Hid (nx.length = nxn) := hnxn
          generalize hcn : cs.length = cn at *
          have cnH : Hid (cs.length = cn) := hcn
          clear hnxn hcn nlH
          go_loopw [12] (fun v12 wr => ∃ i : Nat, v12 = .int .i64 (i : Int) ∧ i ≤ nxn ∧ Hid (NQ W4 C S n (dmD l k).1 (.slice na nn nc) (dmD l k).2 wo.heap.size nx (.slice ax nxn cx) (.slice ac cn c2) cs i wr)) (fun v12 _ => nxn - (intOf v12).toNat)
          case atStart => exact ⟨0, rfl, Nat.zero_le _, NQ1⟩
          case round =>
            clear NQ1
            obtain ⟨i, rfl, hin, hQ⟩ := hrel
            have i0 : (0 : Int) ≤ (i : Int) := by omega
            by_cases hi : i < nxn
            · have iI : (i : Int) < (nxn : Int) := by omega
              have iw : IntKind.i64.wrap ((i : Int) + 1) = ((i + 1 : Nat) : Int) := IntWalk.i64_in _ (by omega)
              obtain ⟨to_, hto⟩ : ∃ t, nx[i]? = some t := ⟨_, List.getElem?_eq_getElem (by rw [nxH.out]; exact hi)⟩
              have htn : to_ < n := WY.out to_ (List.mem_of_getElem? hto)
              have tI : (to_ : Int) < (n : Int) := by omega
              have t0 : (0 : Int) ≤ (to_ : Int) := by omega
              obtain ⟨a', c', e', _, inx, _⟩ := hQ.out.x.ein
              injection e' with e1 e2 e3
              subst e1 e3
              have hnx2 : (nat2 nx)[i]? = some (to_ : Int) := by unfold nat2; rw [List.getElem?_map, hto]; rfl
              obtain ⟨bx, ox, u, eu, ebx, _, cu⟩ := inx.get (k := i) (by rw [← e2]; exact hi)
              rw [hnx2] at eu
              injection eu with eu
              subst eu
              unfold I6.vl at cu
              obtain ⟨q1, q2⟩ := hQ.out.dq.co.2 to_ htn
              dsimp only at q1
              obtain ⟨G, hG1, hG2⟩ := hQ.out.dq.st
              obtain ⟨a3, cc3, e4', l3, i3, lo3⟩ := hG2 to_ htn
              obtain ⟨q3, q4⟩ := hG1.2 to_ htn
              rw [e4'] at q3
              obtain ⟨_, _, e6, _, inc, _⟩ := hQ.out.o.ein
              injection e6 with e7 e8 e9
              rw [← e7] at inc
              have LNo := LN.brings hQ.out.tr (nx.take i) hQ.out.ln (fun q hq => List.mem_of_mem_take hq) to_ (List.mem_of_getElem? hto)
              have lC : C < wr.heap.size := by have := hQ.out.dq.cs; have := hQ.out.dq.lt; omega
              have lS : S < wr.heap.size := hQ.out.dq.lt
              have cm : (cs.map dT).length = cn := by rw [List.length_map]; exact cnH.out
              obtain ⟨come, hcome⟩ : ∃ b, (bringsT cs (nx.take i) (dmD l k).1 to_).isSome = b := ⟨_, rfl⟩
              obtain ⟨n3, hn3⟩ : ∃ m, ((bringsT cs (nx.take i) (dmD l k).1 to_).getD []).length = m := ⟨_, rfl⟩
              have ME : meetD (if come = true then some (((bringsT cs (nx.take i) (dmD l k).1 to_).getD []).map dT) else none) (cs.map dT) = meetD ((bringsT cs (nx.take i) (dmD l k).1 to_).map (List.map dT)) (cs.map dT) := by
                rw [← hcome]
                cases bringsT cs (nx.take i) (dmD l k).1 to_ with
                | none => rfl
                | some o => rfl
              have LE : come = true → (((bringsT cs (nx.take i) (dmD l k).1 to_).getD []).map dT).length = (cs.map dT).length := fun hc => by
                rw [← hcome] at hc
                cases hb : bringsT cs (nx.take i) (dmD l k).1 to_ with
                | none => rw [hb] at hc; cases hc
                | some o =>
                  have := (LNo o hb).1
                  simp only [Option.getD_some, List.length_map]
                  exact this
              have cJ : Hid (∀ W, Below wr.heap.size wr W → Calls Tryz.prog 36 #[.bool come, .slice a3 n3 cc3, .slice ac cn c2] W fun e w' => ∃ aj nj cj, e = .returned (.slice aj nj cj) ∧ Below W.heap.size W w' ∧ I6.OE w' wr.heap.size (.slice aj nj cj) (meetD ((bringsT cs (nx.take i) (dmD l k).1 to_).map (List.map dT)) (cs.map dT))) := fun W hW => by
                have h0 := joined_any come (((bringsT cs (nx.take i) (dmD l k).1 to_).getD []).map dT) (cs.map dT) LE (by rw [cm]; exact clH.out) a3 ac cc3 c2 W (i3.below hW (Nat.le_refl _)) (inc.below hW (Nat.le_refl _))
                rw [ME, List.length_map, hn3, cm] at h0
                exact h0.mono (fun e w' ⟨v, h1, h2, h3⟩ => by
                  obtain ⟨aj, cj, ev, _⟩ := h2.ein
                  rw [ev] at h1 h2
                  exact ⟨aj, _, cj, h1, h3, h2.mono hW.size⟩)
              have SC : Hid (∀ W, Below wr.heap.size wr W → W.cell? ⟨C, to_, none⟩ = some (.bool come) ∧ W.cell? ⟨S, to_, none⟩ = some (.slice a3 n3 cc3) ∧ W.frozen? ⟨S, to_, none⟩ = false ∧ W.frozen? ⟨C, to_, none⟩ = false) := fun W hW => ⟨by rw [hW.cell (p := ⟨C, to_, none⟩) lC, ← hcome]; exact q1, by rw [hW.cell (p := ⟨S, to_, none⟩) lS, ← hn3]; exact q3, by rw [hW.frozen (p := ⟨S, to_, none⟩) lS]; exact q4, by rw [hW.frozen (p := ⟨C, to_, none⟩) lC]; exact q2⟩
              have cne : ¬ S = C := by have := hQ.out.dq.cs; omega
              have cne2 : ¬ C = S := by have := hQ.out.dq.cs; omega
              have NXQ : Hid (∀ W v, Below wr.heap.size wr W → I6.OE W wr.heap.size v (meetD ((bringsT cs (nx.take i) (dmD l k).1 to_).map (List.map dT)) (cs.map dT)) → NQ W4 C S n (dmD l k).1 (.slice na nn nc) (dmD l k).2 wo.heap.size nx (.slice ax nxn cx) (.slice ac cn c2) cs (i + 1) ((W.setCell ⟨S, to_, none⟩ v).setCell ⟨C, to_, none⟩ (.bool true))) := fun W v hb hv => hQ.out.step hb hto htn hv
              clear hQ hto inx hnx2 q1 q2 G hG1 hG2 e4' l3 i3 lo3 q3 q4 e7 e8 e9 inc LNo lC lS cm hcome hn3 ME LE e2
              subst ebx
              go_wp2_with fail
              obtain ⟨s1, s2, s3, s4⟩ := SC.out wr.drew (Below.refl _ wr).drew
              have bD : Below wr.heap.size wr wr.drew := (Below.refl _ wr).drew
              go_region_with (first | (go_at_call 36; refine Calls.mono (cJ.out _ bD) ?_; rintro e w7 ⟨aj, nj, cj, rfl, b7, oj⟩; obtain ⟨u1, u2, u3, u4⟩ := SC.out w7 (bD.trans (b7.mono bD.size))))
              all_goals
                have NX7 : Hid (NQ W4 C S n (dmD l k).1 (.slice na nn nc) (dmD l k).2 wo.heap.size nx (.slice (some ⟨bx, ox, none⟩) nxn cx) (.slice ac cn c2) cs (i + 1) ((w7.setCell ⟨S, to_, none⟩ (.slice aj nj cj)).setCell ⟨C, to_, none⟩ (.bool true))) := NXQ.out w7 _ (bD.trans (b7.mono bD.size)) oj
                clear oj b7 NXQ cJ SC bD s1 s2 s3 s4 NXE
                go_wp2_with fail
                exact ⟨⟨i + 1, by first | rfl | (rw [iw]), hi, NX7⟩, by first | (simp [intOf]; done) | (simp [intOf]; omega)⟩
            · have iI : ¬ (i : Int) < (nxn : Int) := by omega
              obtain rfl : i = nxn := by omega
              have NX : Hid (DQ W4 C S n (dmD l (k + 1)).1 (.slice na nn nc) (dmD l (k + 1)).2 wr) := NXE.out _ _ hQ.out.dq
              clear hQ NXE
              go_wp2_with fail
              exact ⟨⟨k + 1, na, nn, nc, rfl, by first | rfl | (rw [kw]), by omega, NX⟩, by first | (simp [intOf]; done) | (simp [intOf]; omega)⟩
      · have kI : ¬ (k : Int) < (n : Int) := by omega
        obtain rfl : k = n := by omega
        have eW : EW w p wo := e4.out.below hD.out.b
        have bd : BB wo (w.heap.size + 1) 0 0 false := eW.2.2
        obtain ⟨W9, hst0, u0, bb0, hz, hkk, _⟩ := bd.store
        have hst : Hid ((Instr.storeAt 36 (.pointer (some ⟨w.heap.size + 1, 0, none⟩)) (.agg #[.int .i64 0, .int .i64 0, .int .i64 0, .bool false, .bool false])).run Tryz.prog wo = .ok () W9) := hst0
        have finB : Hid (Below w.heap.size w W9) := bb0 _ _ eW.1 (Nat.le_succ _)
        have lo := hD.out.lo
        have lcs := hD.out.cs
        have lw : w.heap.size + 1 < W4.heap.size := e4.out.2.2.1
        have LLe : LL = nat2 (dmD l k).2 := by
          have e1 := nl.out
          have e2 := sameH.out
          rw [hnH.out] at e2
          rw [e1, e2]
        obtain ⟨a', c', e', _, hin, hloc⟩ := hD.out.ou.ein
        injection e' with e1 e2 e3
        have finI : Hid (nn = LL.length ∧ I6.In W9 na LL ∧ ∀ b off, na = some ⟨b, off, none⟩ → w.heap.size ≤ b) := by
          refine ⟨by rw [e2, LLe], ?_, fun b off e => ?_⟩
          · rw [LLe, e1]
            refine hin.keep (by rw [hz]; exact Nat.le_refl _) (fun b off e _ => hkk b ?_)
            rcases hloc with h | ⟨b', h, h5, _⟩
            · rw [h] at e; cases e
            · rw [h] at e; injection e with e; injection e with e; omega
          · rw [e1] at e
            rcases hloc with h | ⟨b', h, h5, _⟩
            · rw [h] at e; cases e
            · rw [h] at e; injection e with e; injection e with e; omega
        obtain ⟨_, _, z0, z1, z2, z3, z4⟩ := u0
        clear hst0 bb0 hz hkk lo lcs lw LLe e1 e2 e3 hin hloc hD eW bd DSTH DLT sameH nl FILH hIH e4
        obtain ⟨f1, f2, f3⟩ := finI.out
        subst f1
        go_wp2_with (refine wpList_store_run (by rfl) _ _ _ (by rfl) _ _ _ (by rfl) (by rfl) hst.out ?_)
        clear hst
        simp [bodyPost, results, Tryz.results20, go_sem, z0, z1, z2, z3, z4]
        exact ⟨⟨_, _, rfl, f2, f3⟩, finB.out⟩
  · have hc := es hr
    have xb : (c != 0) = true := by simpa using hc
    have xd : decide (c = 0) = false := decide_eq_false hc
    have nl := nN.out hr
    subst nl
    clear en es nN nS STO FIL hIH hnN
    obtain ⟨zb, zf, k0, k1, k2, k3, k4⟩ := zl2.out.2.1
    have f0 := zf 0 (by omega)
    have f1 := zf 1 (by omega)
    have f2 := zf 2 (by omega)
    have f3 := zf 3 (by omega)
    have f4 := zf 4 (by omega)
    have zl : w.heap.size + 1 < w2.heap.size := zl2.out.1
    have zn : ¬ w.heap.size + 1 = w2.heap.size := by omega
    have zn2 : ¬ w2.heap.size = w.heap.size + 1 := by omega
    have finB : Hid (∀ o, Below w.heap.size w ((((((w2.setCell ⟨w.heap.size + 1, 0, none⟩ (.int .i64 c)).setCell ⟨w.heap.size + 1, 1, none⟩ (.int .i64 x)).setCell ⟨w.heap.size + 1, 2, none⟩ (.int .i64 0)).setCell ⟨w.heap.size + 1, 3, none⟩ (.bool b)).setCell ⟨w.heap.size + 1, 4, none⟩ (.bool false)).alloc o).drew) := fun o => by
      have h0 := set5_below zl2.out.2.2 (Nat.le_succ w.heap.size) (.int .i64 c) (.int .i64 x) (.int .i64 0) (.bool b) (.bool false)
      exact (h0.alloc h0.size o).drew
    have ub : Below w2.heap.size (((((w2.setCell ⟨w.heap.size + 1, 0, none⟩ (.int .i64 c)).setCell ⟨w.heap.size + 1, 1, none⟩ (.int .i64 x)).setCell ⟨w.heap.size + 1, 2, none⟩ (.int .i64 0)).setCell ⟨w.heap.size + 1, 3, none⟩ (.bool b)).setCell ⟨w.heap.size + 1, 4, none⟩ (.bool false)) (World.alloc (((((w2.setCell ⟨w.heap.size + 1, 0, none⟩ (.int .i64 c)).setCell ⟨w.heap.size + 1, 1, none⟩ (.int .i64 x)).setCell ⟨w.heap.size + 1, 2, none⟩ (.int .i64 0)).setCell ⟨w.heap.size + 1, 3, none⟩ (.bool b)).setCell ⟨w.heap.size + 1, 4, none⟩ (.bool false)) (.cells #[.int .i64 c, .int .i64 x, .int .i64 0, .bool b, .bool false] 36)) := (Below.refl _ _).alloc (by simp) _
    have u0 : (World.alloc (((((w2.setCell ⟨w.heap.size + 1, 0, none⟩ (.int .i64 c)).setCell ⟨w.heap.size + 1, 1, none⟩ (.int .i64 x)).setCell ⟨w.heap.size + 1, 2, none⟩ (.int .i64 0)).setCell ⟨w.heap.size + 1, 3, none⟩ (.bool b)).setCell ⟨w.heap.size + 1, 4, none⟩ (.bool false)) (.cells #[.int .i64 c, .int .i64 x, .int .i64 0, .bool b, .bool false] 36)).cell? ⟨w.heap.size + 1, 0, none⟩ = some (.int .i64 c) := by rw [ub.cell (p := ⟨w.heap.size + 1, 0, none⟩) zl]; simp [go_sem, k0, k1, k2, k3, k4]
    have u1 : (World.alloc (((((w2.setCell ⟨w.heap.size + 1, 0, none⟩ (.int .i64 c)).setCell ⟨w.heap.size + 1, 1, none⟩ (.int .i64 x)).setCell ⟨w.heap.size + 1, 2, none⟩ (.int .i64 0)).setCell ⟨w.heap.size + 1, 3, none⟩ (.bool b)).setCell ⟨w.heap.size + 1, 4, none⟩ (.bool false)) (.cells #[.int .i64 c, .int .i64 x, .int .i64 0, .bool b, .bool false] 36)).cell? ⟨w.heap.size + 1, 1, none⟩ = some (.int .i64 x) := by rw [ub.cell (p := ⟨w.heap.size + 1, 1, none⟩) zl]; simp [go_sem, k0, k1, k2, k3, k4]
    have u2 : (World.alloc (((((w2.setCell ⟨w.heap.size + 1, 0, none⟩ (.int .i64 c)).setCell ⟨w.heap.size + 1, 1, none⟩ (.int .i64 x)).setCell ⟨w.heap.size + 1, 2, none⟩ (.int .i64 0)).setCell ⟨w.heap.size + 1, 3, none⟩ (.bool b)).setCell ⟨w.heap.size + 1, 4, none⟩ (.bool false)) (.cells #[.int .i64 c, .int .i64 x, .int .i64 0, .bool b, .bool false] 36)).cell? ⟨w.heap.size + 1, 2, none⟩ = some (.int .i64 0) := by rw [ub.cell (p := ⟨w.heap.size + 1, 2, none⟩) zl]; simp [go_sem, k0, k1, k2, k3, k4]
    have u3 : (World.alloc (((((w2.setCell ⟨w.heap.size + 1, 0, none⟩ (.int .i64 c)).setCell ⟨w.heap.size + 1, 1, none⟩ (.int .i64 x)).setCell ⟨w.heap.size + 1, 2, none⟩ (.int .i64 0)).setCell ⟨w.heap.size + 1, 3, none⟩ (.bool b)).setCell ⟨w.heap.size + 1, 4, none⟩ (.bool false)) (.cells #[.int .i64 c, .int .i64 x, .int .i64 0, .bool b, .bool false] 36)).cell? ⟨w.heap.size + 1, 3, none⟩ = some (.bool b) := by rw [ub.cell (p := ⟨w.heap.size + 1, 3, none⟩) zl]; simp [go_sem, k0, k1, k2, k3, k4]
    have u4 : (World.alloc (((((w2.setCell ⟨w.heap.size + 1, 0, none⟩ (.int .i64 c)).setCell ⟨w.heap.size + 1, 1, none⟩ (.int .i64 x)).setCell ⟨w.heap.size + 1, 2, none⟩ (.int .i64 0)).setCell ⟨w.heap.size + 1, 3, none⟩ (.bool b)).setCell ⟨w.heap.size + 1, 4, none⟩ (.bool false)) (.cells #[.int .i64 c, .int .i64 x, .int .i64 0, .bool b, .bool false] 36)).cell? ⟨w.heap.size + 1, 4, none⟩ = some (.bool false) := by rw [ub.cell (p := ⟨w.heap.size + 1, 4, none⟩) zl]; simp [go_sem, k0, k1, k2, k3, k4]
    clear ub
    clear zl2
    clear zf e4 zb
    go_wp2_with fail
    go_region
    all_goals (try go_wp2_with fail)
    all_goals simp [bodyPost, results, Tryz.results20, go_sem, u0, u1, u2, u3, u4]
    all_goals exact ⟨⟨none, 0, rfl, Or.inl rfl, fun b off e => by cases e⟩, finB.out _⟩
end Go.Proofs.YtdfnomglkibfbaaGreatDoor.Vf

namespace Go.Proofs.YtdfnomglkibfbaaGreatDoor.Vf
open Go.RowKit
set_option linter.unusedVariables false
set_option linter.unusedSimpArgs false
set_option maxRecDepth 100000
/-- what Heights tells. -/
def HeightsR (w : World) (p : PrH) (q : PrL) (r : Option (Int × Option Int)) (e : Ending) (w' : World) : Prop := match r with
  | some x => e = .returned (.tuple #[.slice none 0 0, errV (some x)])
  | none => ∃ b1, w.heap.size ≤ b1 ∧ e = .returned (.tuple #[.slice (some ⟨b1, 0, none⟩) p.filter.n p.filter.n, .nilIface]) ∧ RI w' b1 p.filter.n (fun j => .int .i64 ((hgtP q.filter 0 m0 []).1.getD j 0))
set_option maxHeartbeats 4000000 in
theorem Heights_any (p : PrH) (q : PrL) (hN : PrN p q) (hcf : ∀ (j : Nat) (t : InP), q.filter[j]? = some t → t.c < 256) (hco : ∀ (j : Nat) (t : InP), q.output[j]? = some t → t.c < 256) (w : World) (hT : UT w) (hR : RT w) (h : PrIn w p q) : Calls Tryz.prog 12 #[p.v] w fun e w' => HeightsR w p q (resP p q) e w' ∧ Below w.heap.size w w' := by
  have b1 : Below w.heap.size w (w.alloc (.cells p.cells 28)) := (Below.refl _ w).alloc (Nat.le_refl _) _
  have c0 := (climbed_any p q hN hcf hco _ (hT.below b1 (Nat.le_refl _)) (hR.below b1 hR.lt) (h.below b1 (Nat.le_refl _)))
  cases hr : resP p q with
  | some x =>
    have c1 : Hid (Calls Tryz.prog 27 #[p.v] (w.alloc (.cells p.cells 28)) fun e w' => e = .returned (.tuple #[.slice none 0 0, .slice none 0 0, errV (some x)]) ∧ Below w.heap.size w w') := c0.mono (fun e w' hh => by
      refine ⟨?_, b1.trans (hh.2.mono b1.size)⟩
      have h1 := hh.1
      unfold ClR at h1
      rw [hr] at h1
      exact h1)
    unfold HeightsR
    dsimp only
    clear c0 hT hR h b1 hN hcf hco hr
    generalize errV (some x) = ve at *
    unfold PrH.v PrH.cells at c1
    unfold PrH.v
    go_enter Tryz.func12, Tryz.ntmps12
    go_wp2_with fail
    with_reducible refine Calls.mono c1.out ?_
    rintro e w' ⟨rfl, bb⟩
    clear c1
    go_wp2_with fail
    go_returns
    exact ⟨rfl, bb⟩
  | none =>
    have c1 : Hid (Calls Tryz.prog 27 #[p.v] (w.alloc (.cells p.cells 28)) fun e w' => (∃ g o1 n1 k1 o2 n2 k2, e = .returned (.tuple #[.slice o1 n1 k1, .slice o2 n2 k2, .nilIface]) ∧ (.slice (some ⟨g, 0, none⟩) p.filter.n p.filter.n : Value) = .slice o1 n1 k1 ∧ w.heap.size ≤ g ∧ Hid (RI w' g p.filter.n (fun j => .int .i64 ((hgtP q.filter 0 m0 []).1.getD j 0)))) ∧ Below w.heap.size w w') := c0.mono (fun e w' hh => by
      refine ⟨?_, b1.trans (hh.2.mono b1.size)⟩
      have h1 := hh.1
      unfold ClR at h1
      rw [hr] at h1
      obtain ⟨g1, g2, l1, l2, h2, h3, h4⟩ := h1
      exact ⟨g1, _, _, _, _, _, _, h2, rfl, Nat.le_trans b1.size l1, h3⟩)
    unfold HeightsR
    dsimp only
    clear c0 hT hR h b1 hN hcf hco hr
    unfold PrH.v PrH.cells at c1
    unfold PrH.v
    go_enter Tryz.func12, Tryz.ntmps12
    go_wp2_with fail
    with_reducible refine Calls.mono c1.out ?_
    rintro e w' ⟨⟨g, o1, n1, k1, o2, n2, k2, rfl, ev, hl, hrw⟩, bb⟩
    clear c1
    go_wp2_with fail
    go_returns
    exact ⟨⟨g, hl, rfl, hrw.out⟩, bb⟩
/-- what Rises tells. -/
def RisesR (w : World) (p : PrH) (q : PrL) (r : Option (Int × Option Int)) (e : Ending) (w' : World) : Prop := match r with
  | some x => e = .returned (.tuple #[.slice none 0 0, errV (some x)])
  | none => ∃ b1, w.heap.size ≤ b1 ∧ e = .returned (.tuple #[.slice (some ⟨b1, 0, none⟩) p.output.n p.output.n, .nilIface]) ∧ RI w' b1 p.output.n (fun j => .int .i64 ((hgtP q.output 0 m0 []).1.getD j 0))
set_option maxHeartbeats 4000000 in
theorem Rises_any (p : PrH) (q : PrL) (hN : PrN p q) (hcf : ∀ (j : Nat) (t : InP), q.filter[j]? = some t → t.c < 256) (hco : ∀ (j : Nat) (t : InP), q.output[j]? = some t → t.c < 256) (w : World) (hT : UT w) (hR : RT w) (h : PrIn w p q) : Calls Tryz.prog 14 #[p.v] w fun e w' => RisesR w p q (resP p q) e w' ∧ Below w.heap.size w w' := by
  have b1 : Below w.heap.size w (w.alloc (.cells p.cells 28)) := (Below.refl _ w).alloc (Nat.le_refl _) _
  have c0 := (climbed_any p q hN hcf hco _ (hT.below b1 (Nat.le_refl _)) (hR.below b1 hR.lt) (h.below b1 (Nat.le_refl _)))
  cases hr : resP p q with
  | some x =>
    have c1 : Hid (Calls Tryz.prog 27 #[p.v] (w.alloc (.cells p.cells 28)) fun e w' => e = .returned (.tuple #[.slice none 0 0, .slice none 0 0, errV (some x)]) ∧ Below w.heap.size w w') := c0.mono (fun e w' hh => by
      refine ⟨?_, b1.trans (hh.2.mono b1.size)⟩
      have h1 := hh.1
      unfold ClR at h1
      rw [hr] at h1
      exact h1)
    unfold RisesR
    dsimp only
    clear c0 hT hR h b1 hN hcf hco hr
    generalize errV (some x) = ve at *
    unfold PrH.v PrH.cells at c1
    unfold PrH.v
    go_enter Tryz.func14, Tryz.ntmps14
    go_wp2_with fail
    with_reducible refine Calls.mono c1.out ?_
    rintro e w' ⟨rfl, bb⟩
    clear c1
    go_wp2_with fail
    go_returns
    exact ⟨rfl, bb⟩
  | none =>
    have c1 : Hid (Calls Tryz.prog 27 #[p.v] (w.alloc (.cells p.cells 28)) fun e w' => (∃ g o1 n1 k1 o2 n2 k2, e = .returned (.tuple #[.slice o1 n1 k1, .slice o2 n2 k2, .nilIface]) ∧ (.slice (some ⟨g, 0, none⟩) p.output.n p.output.n : Value) = .slice o2 n2 k2 ∧ w.heap.size ≤ g ∧ Hid (RI w' g p.output.n (fun j => .int .i64 ((hgtP q.output 0 m0 []).1.getD j 0)))) ∧ Below w.heap.size w w') := c0.mono (fun e w' hh => by
      refine ⟨?_, b1.trans (hh.2.mono b1.size)⟩
      have h1 := hh.1
      unfold ClR at h1
      rw [hr] at h1
      obtain ⟨g1, g2, l1, l2, h2, h3, h4⟩ := h1
      exact ⟨g2, _, _, _, _, _, _, h2, rfl, Nat.le_trans b1.size l2, h4⟩)
    unfold RisesR
    dsimp only
    clear c0 hT hR h b1 hN hcf hco hr
    unfold PrH.v PrH.cells at c1
    unfold PrH.v
    go_enter Tryz.func14, Tryz.ntmps14
    go_wp2_with fail
    with_reducible refine Calls.mono c1.out ?_
    rintro e w' ⟨⟨g, o1, n1, k1, o2, n2, k2, rfl, ev, hl, hrw⟩, bb⟩
    clear c1
    go_wp2_with fail
    go_returns
    exact ⟨⟨g, hl, rfl, hrw.out⟩, bb⟩
/-- what Bound tells. -/
def BoundR (p : PrH) (r : Option (Int × Option Int)) (e : Ending) : Prop := match r with
  | some x => e = .returned (.tuple #[.int .i64 0, .int .i64 0, errV (some x)])
  | none => e = .returned (.tuple #[.int .i64 (p.filter.n : Int), .int .i64 (p.output.n : Int), .nilIface])
set_option maxHeartbeats 4000000 in
theorem Bound_any (p : PrH) (q : PrL) (hN : PrN p q) (hcf : ∀ (j : Nat) (t : InP), q.filter[j]? = some t → t.c < 256) (hco : ∀ (j : Nat) (t : InP), q.output[j]? = some t → t.c < 256) (w : World) (hT : UT w) (hR : RT w) (h : PrIn w p q) : Calls Tryz.prog 17 #[p.v] w fun e w' => BoundR p (resP p q) e ∧ Below w.heap.size w w' := by
  have cP : Hid (∀ W, EH w p W → Calls Tryz.prog 10 #[.agg #[.string p.from_, .string p.into, .int .i64 p.every, .int .i64 p.offset, .slice p.groups.a p.groups.n p.groups.c, .slice p.accs.a p.accs.n p.accs.c, .slice p.alias.a p.alias.n p.alias.c, .slice p.names.a p.names.n p.names.c, .slice p.texts.a p.texts.n p.texts.c, .slice p.lists.a p.lists.n p.lists.c, .slice p.times.a p.times.n p.times.c, .slice p.ints.a p.ints.n p.ints.c, .slice p.filter.a p.filter.n p.filter.c, .slice p.output.a p.output.n p.output.c]] W fun e w' => e = .returned (errV (resP p q)) ∧ EH w p w') := fun W hW => (program_any p q hN hcf hco W (hT.below hW.1 (Nat.le_refl _)) (hR.below hW.1 hR.lt) (h.below hW.1 (Nat.le_refl _))).mono (fun e w' hh => ⟨hh.1, hW.below hh.2⟩)
  have E0 : Hid (EH w p (w.alloc (.cells p.cells 28))) := EH.new w p
  clear hT hR h hN hcf hco
  unfold BoundR
  cases hr : resP p q with
  | some x =>
    rw [hr] at cP
    dsimp only
    clear hr
    obtain ⟨xc, xp⟩ := x
    cases xp with
    | none =>
      unfold errV at cP
      unfold errV
      unfold PrH.cells at E0
      unfold PrH.v
      go_enter Tryz.func17, Tryz.ntmps17
      go_wp2_with fail
      generalize World.alloc w _ = W1 at E0 ⊢
      with_reducible refine Calls.mono (cP.out _ E0.out) ?_
      rintro e w2 ⟨rfl, e2⟩
      clear cP E0
      have e2H : Hid (EH w p w2) := e2
      clear e2
      go_wp2_with fail
      go_returns
      exact ⟨rfl, e2H.out.1⟩
    | some xp =>
      unfold errV atE at cP
      unfold errV atE
      unfold PrH.cells at E0
      unfold PrH.v
      go_enter Tryz.func17, Tryz.ntmps17
      go_wp2_with fail
      generalize World.alloc w _ = W1 at E0 ⊢
      with_reducible refine Calls.mono (cP.out _ E0.out) ?_
      rintro e w2 ⟨rfl, e2⟩
      clear cP E0
      have e2H : Hid (EH w p w2) := e2
      clear e2
      go_wp2_with fail
      go_returns
      exact ⟨rfl, e2H.out.1⟩
  | none =>
    rw [hr] at cP
    dsimp only
    unfold errV at cP
    clear hr
    unfold PrH.cells at E0
    unfold PrH.v
    go_enter Tryz.func17, Tryz.ntmps17
    go_wp2_with fail
    generalize World.alloc w _ = W1 at E0 ⊢
    with_reducible refine Calls.mono (cP.out _ E0.out) ?_
    rintro e w2 ⟨rfl, e2⟩
    clear cP E0
    obtain ⟨zp, y0, y1, y2, y3, y4, y5, y6, y7, y8, y9, y10, y11, y12, y13⟩ := e2.2
    have fin : Hid (Below w.heap.size w w2) := e2.1
    clear e2 y0 y1 y2 y3 y4 y5 y6 y7 y8 y9 y10 y11
    go_wp2_with fail
    go_quiet (fail)
    go_wp2_with fail
    go_returns
    exact ⟨rfl, bl_drewN fin.out nq⟩
/-- what Dead tells. -/
def DeadR (w : World) (q : PrL) (r : Option (Int × Option Int)) (e : Ending) (w' : World) : Prop := match r with
  | some x => e = .returned (.tuple #[.slice none 0 0, errV (some x)])
  | none => ∃ v, e = .returned (.tuple #[v, .nilIface]) ∧ I6.OE w' w.heap.size v (nat2 (deadL q.filter))
set_option maxHeartbeats 4000000 in
theorem Dead_any (p : PrH) (q : PrL) (hN : PrN p q) (hcf : ∀ (j : Nat) (t : InP), q.filter[j]? = some t → t.c < 256) (hco : ∀ (j : Nat) (t : InP), q.output[j]? = some t → t.c < 256) (w : World) (hT : UT w) (hR : RT w) (h : PrIn w p q) : Calls Tryz.prog 19 #[p.v] w fun e w' => DeadR w q (resP p q) e w' ∧ Below w.heap.size w w' := by
  have cP : Hid (∀ W, EH w p W → Calls Tryz.prog 10 #[.agg #[.string p.from_, .string p.into, .int .i64 p.every, .int .i64 p.offset, .slice p.groups.a p.groups.n p.groups.c, .slice p.accs.a p.accs.n p.accs.c, .slice p.alias.a p.alias.n p.alias.c, .slice p.names.a p.names.n p.names.c, .slice p.texts.a p.texts.n p.texts.c, .slice p.lists.a p.lists.n p.lists.c, .slice p.times.a p.times.n p.times.c, .slice p.ints.a p.ints.n p.ints.c, .slice p.filter.a p.filter.n p.filter.c, .slice p.output.a p.output.n p.output.c]] W fun e w' => e = .returned (errV (resP p q)) ∧ EH w p w') := fun W hW => (program_any p q hN hcf hco W (hT.below hW.1 (Nat.le_refl _)) (hR.below hW.1 hR.lt) (h.below hW.1 (Nat.le_refl _))).mono (fun e w' hh => ⟨hh.1, hW.below hh.2⟩)
  have E0 : Hid (EH w p (w.alloc (.cells p.cells 28))) := EH.new w p
  have cD : Hid (resP p q = none → ∀ W, EH w p W → Calls Tryz.prog 33 #[.slice p.filter.a p.filter.n p.filter.c] W fun e w' => ∃ v, e = .returned v ∧ I6.OE w' w.heap.size v (nat2 (deadL q.filter)) ∧ Below w.heap.size w w') := fun hr W hW => by
    have ps := pas_of hr
    have := dead_any q.filter _ ps.hok ps.fil ps.jmp hcf p.filter.a p.filter.c (ps.len hN) W (hR.below hW.1 hR.lt) (h.below hW.1 (Nat.le_refl _)).filter
    rw [← hN.filter] at this
    exact this.mono (fun e w' ⟨v, h1, h2, h3⟩ => ⟨v, h1, h2.mono hW.1.size, hW.1.trans (h3.mono hW.1.size)⟩)
  clear hT hR h hN hcf hco
  unfold DeadR
  cases hr : resP p q with
  | some x =>
    rw [hr] at cP
    dsimp only
    clear hr
    obtain ⟨xc, xp⟩ := x
    cases xp with
    | none =>
      unfold errV at cP
      unfold errV
      unfold PrH.cells at E0
      unfold PrH.v
      go_enter Tryz.func19, Tryz.ntmps19
      go_wp2_with fail
      generalize World.alloc w _ = W1 at E0 ⊢
      with_reducible refine Calls.mono (cP.out _ E0.out) ?_
      rintro e w2 ⟨rfl, e2⟩
      clear cP E0
      have e2H : Hid (EH w p w2) := e2
      clear e2
      go_wp2_with fail
      go_returns
      exact ⟨rfl, e2H.out.1⟩
    | some xp =>
      unfold errV atE at cP
      unfold errV atE
      unfold PrH.cells at E0
      unfold PrH.v
      go_enter Tryz.func19, Tryz.ntmps19
      go_wp2_with fail
      generalize World.alloc w _ = W1 at E0 ⊢
      with_reducible refine Calls.mono (cP.out _ E0.out) ?_
      rintro e w2 ⟨rfl, e2⟩
      clear cP E0
      have e2H : Hid (EH w p w2) := e2
      clear e2
      go_wp2_with fail
      go_returns
      exact ⟨rfl, e2H.out.1⟩
  | none =>
    have cE : Hid (∀ W, EH w p W → Calls Tryz.prog 33 #[.slice p.filter.a p.filter.n p.filter.c] W fun e w' => ∃ v, e = .returned v ∧ I6.OE w' w.heap.size v (nat2 (deadL q.filter)) ∧ Below w.heap.size w w') := cD.out hr
    rw [hr] at cP
    dsimp only
    unfold errV at cP
    clear hr cD
    unfold PrH.cells at E0
    unfold PrH.v
    go_enter Tryz.func19, Tryz.ntmps19
    go_wp2_with fail
    generalize World.alloc w _ = W1 at E0 ⊢
    with_reducible refine Calls.mono (cP.out _ E0.out) ?_
    rintro e w2 ⟨rfl, e2⟩
    clear cP E0
    obtain ⟨zp, y0, y1, y2, y3, y4, y5, y6, y7, y8, y9, y10, y11, y12, y13⟩ := e2.2
    have e2H : Hid (EH w p w2) := e2
    clear e2 y0 y1 y2 y3 y4 y5 y6 y7 y8 y9 y10 y11
    go_wp2_with fail
    with_reducible refine Calls.mono (cE.out _ e2H.out) ?_
    rintro e w3 ⟨v, rfl, o3, b3⟩
    have fin : Hid (I6.OE w3 w.heap.size v (nat2 (deadL q.filter)) ∧ Below w.heap.size w w3) := ⟨o3, b3⟩
    clear cE o3 b3 e2H
    go_wp2_with fail
    go_returns
    exact ⟨⟨_, rfl, fin.out.1⟩, fin.out.2⟩
end Go.Proofs.YtdfnomglkibfbaaGreatDoor.Vf

namespace Go.Proofs.YtdfnomglkibfbaaGreatDoor.Vf
open Go.RowKit
set_option linter.unusedVariables false
set_option linter.unusedSimpArgs false
set_option maxRecDepth 100000
set_option maxHeartbeats 4000000 in
/-- the same numbers, wherever they lie. -/
theorem sameIn_any (l : List Int) (hn : l.length ≤ 65536) (x y : Option Addr) (cx cy : Nat) (w : World) (hx : I6.In w x l) (hy : I6.In w y l) : Calls Tryz.prog 16 #[.slice x l.length cx, .slice y l.length cy] w fun e w' => e = .returned (.bool true) ∧ Below w.heap.size w w' := by
  have hxH : Hid (I6.In w x l) := hx
  have hyH : Hid (I6.In w y l) := hy
  clear hx hy
  obtain ⟨n, hnn⟩ : ∃ n, l.length = n := ⟨_, rfl⟩
  have nH : Hid (l.length = n) := hnn
  rw [hnn] at hn ⊢
  clear hnn
  go_enter Tryz.func16, Tryz.ntmps16
  go_wp2_with fail
  go_loopw [5] (fun v5 wr => ∃ k m : Nat, v5 = .int .i64 (k : Int) ∧ k ≤ n ∧ wr = w.drewN m) (fun v5 _ => n - (intOf v5).toNat)
  case atStart => exact ⟨0, 0, rfl, Nat.zero_le _, rfl⟩
  case round =>
    obtain ⟨k, m, rfl, hkn, rfl⟩ := hrel
    have k0 : (0 : Int) ≤ (k : Int) := by omega
    by_cases hk : k < n
    · have kI : (k : Int) < (n : Int) := by omega
      have kw : IntKind.i64.wrap ((k : Int) + 1) = ((k + 1 : Nat) : Int) := IntWalk.i64_in _ (by omega)
      obtain ⟨b1, o1, t1, et1, rfl, _, c1⟩ := hxH.out.get (k := k) (by rw [nH.out]; exact hk)
      obtain ⟨b2, o2, t2, et2, rfl, _, c2⟩ := hyH.out.get (k := k) (by rw [nH.out]; exact hk)
      rw [et1] at et2
      injection et2 with et2
      subst et2
      unfold I6.vl at c1 c2
      clear et1
      go_wp2_with fail
      go_quiet (fail)
      go_wp2_with fail
      exact ⟨⟨k + 1, m + nq, by first | rfl | (rw [kw]), hk, by first | rfl | (rw [World.drewN_drewN])⟩, by first | (simp [intOf]; done) | (simp [intOf]; omega)⟩
    · have kI : ¬ (k : Int) < (n : Int) := by omega
      go_wp2_with fail
      go_ret
      exact ⟨rfl, bl_drewN (Below.refl _ w) m⟩
set_option maxHeartbeats 16000000 in
theorem verifyHeights_walk (p : PrH) (q : PrL) (hN : PrN p q) (hcf : ∀ (j : Nat) (t : InP), q.filter[j]? = some t → t.c < 256) (hco : ∀ (j : Nat) (t : InP), q.output[j]? = some t → t.c < 256) (w : World) (hU : UT w) (hR : RT w) (hE : ET w) (h : PrIn w p q) : Calls Tryz.prog 4 #[p.v] w fun e w' => e = .returned (.bool true) ∧ Below w.heap.size w w' := by
  have hIH : ∀ W, EH w p W → UT W ∧ RT W ∧ ET W ∧ PrIn W p q := fun W hW => ⟨hU.below hW.1 (Nat.le_refl _), hR.below hW.1 hR.lt, ET_below hE hW.1, h.below hW.1 (Nat.le_refl _)⟩
  have cL : Hid (∀ W, Below w.heap.size w W → Calls Tryz.prog 8 #[] W fun e w' => e = .returned (.bool true) ∧ Below W.heap.size W w') := fun W hW => live_any W (hU.below hW (Nat.le_refl _)) (hR.below hW hR.lt) (ET_below hE hW)
  have cS0 : ∀ W, Below w.heap.size w W → Calls Tryz.prog 9 #[errV (resP p q), badR (resD p q)] W fun e w' => e = .returned (.bool true) ∧ Below W.heap.size W w' := fun W hW => by
    rw [res_same]
    exact same_res (resD p q) (res_ne p q) W (ET_below hE hW)
  have len : (hL (resD p q) q.filter).length ≤ 65536 ∧ (hL (resD p q) q.output).length ≤ 65536 ∧ (dL (resD p q) q.filter).length ≤ 65536 := by
    unfold hL dL
    by_cases hr : resD p q = none
    · have ps := pas_of (p := p) (q := q) (by rw [res_same]; exact hr)
      have hl := hd_len2 hN ps.hd
      have h1 := hN.filter
      have h2 := hN.output
      rw [if_pos hr, if_pos hr, if_pos hr, hgt_len0 ps.h1, hgt_len0 ps.h2]
      have h3 := (dead_lt (l := q.filter) q.filter.length (Nat.le_refl _)).2
      have h4 : (nat2 (deadL q.filter)).length = (deadL q.filter).length := by unfold nat2; simp
      have h5 : (deadL q.filter).length ≤ q.filter.length := h3
      omega
    · rw [if_neg hr, if_neg hr, if_neg hr]; simp
  have cHeights0 : ∀ W, EH w p W → Calls Tryz.prog 12 #[.agg #[.string p.from_, .string p.into, .int .i64 p.every, .int .i64 p.offset, .slice p.groups.a p.groups.n p.groups.c, .slice p.accs.a p.accs.n p.accs.c, .slice p.alias.a p.alias.n p.alias.c, .slice p.names.a p.names.n p.names.c, .slice p.texts.a p.texts.n p.texts.c, .slice p.lists.a p.lists.n p.lists.c, .slice p.times.a p.times.n p.times.c, .slice p.ints.a p.ints.n p.ints.c, .slice p.filter.a p.filter.n p.filter.c, .slice p.output.a p.output.n p.output.c]] W fun e w' => LsR W (errV (resP p q)) (hL (resD p q) q.filter) e w' ∧ Below W.heap.size W w' := fun W hW => by
    obtain ⟨i1, i2, i3, i4⟩ := hIH W hW
    refine (Heights_any p q hN hcf hco W i1 i2 i4).mono (fun e w' hh => ⟨?_, hh.2⟩)
    have h1 := hh.1
    unfold HeightsR at h1
    unfold hL
    rw [← res_same]
    cases hr : resP p q with
    | some y =>
      rw [hr] at h1
      rw [if_neg (by simp)]
      exact ⟨none, 0, h1, Or.inl rfl, fun b off e => by cases e⟩
    | none =>
      rw [hr] at h1
      obtain ⟨b1, l1, h2, h3⟩ := h1
      have ps := pas_of hr
      have e2 := hgt_len0 ps.h1
      have e1 := hN.filter
      rw [if_pos rfl]
      exact ⟨_, _, by rw [e2, ← e1]; exact h2, h3.rw.inl (by rw [e2, e1]) (fun j hj => rfl), fun b off e => by injection e with e; injection e with e; omega⟩
  have dHeights0 : ∀ W, EH w p W → Calls Tryz.prog 13 #[.agg #[.string p.from_, .string p.into, .int .i64 p.every, .int .i64 p.offset, .slice p.groups.a p.groups.n p.groups.c, .slice p.accs.a p.accs.n p.accs.c, .slice p.alias.a p.alias.n p.alias.c, .slice p.names.a p.names.n p.names.c, .slice p.texts.a p.texts.n p.texts.c, .slice p.lists.a p.lists.n p.lists.c, .slice p.times.a p.times.n p.times.c, .slice p.ints.a p.ints.n p.ints.c, .slice p.filter.a p.filter.n p.filter.c, .slice p.output.a p.output.n p.output.c]] W fun e w' => LsR W (badR (resD p q)) (hL (resD p q) q.filter) e w' ∧ Below W.heap.size W w' := fun W hW => refHeights_any p q hN W (hIH W hW).2.2.2
  have cRises0 : ∀ W, EH w p W → Calls Tryz.prog 14 #[.agg #[.string p.from_, .string p.into, .int .i64 p.every, .int .i64 p.offset, .slice p.groups.a p.groups.n p.groups.c, .slice p.accs.a p.accs.n p.accs.c, .slice p.alias.a p.alias.n p.alias.c, .slice p.names.a p.names.n p.names.c, .slice p.texts.a p.texts.n p.texts.c, .slice p.lists.a p.lists.n p.lists.c, .slice p.times.a p.times.n p.times.c, .slice p.ints.a p.ints.n p.ints.c, .slice p.filter.a p.filter.n p.filter.c, .slice p.output.a p.output.n p.output.c]] W fun e w' => LsR W (errV (resP p q)) (hL (resD p q) q.output) e w' ∧ Below W.heap.size W w' := fun W hW => by
    obtain ⟨i1, i2, i3, i4⟩ := hIH W hW
    refine (Rises_any p q hN hcf hco W i1 i2 i4).mono (fun e w' hh => ⟨?_, hh.2⟩)
    have h1 := hh.1
    unfold RisesR at h1
    unfold hL
    rw [← res_same]
    cases hr : resP p q with
    | some y =>
      rw [hr] at h1
      rw [if_neg (by simp)]
      exact ⟨none, 0, h1, Or.inl rfl, fun b off e => by cases e⟩
    | none =>
      rw [hr] at h1
      obtain ⟨b1, l1, h2, h3⟩ := h1
      have ps := pas_of hr
      have e2 := hgt_len0 ps.h2
      have e1 := hN.output
      rw [if_pos rfl]
      exact ⟨_, _, by rw [e2, ← e1]; exact h2, h3.rw.inl (by rw [e2, e1]) (fun j hj => rfl), fun b off e => by injection e with e; injection e with e; omega⟩
  have dRises0 : ∀ W, EH w p W → Calls Tryz.prog 15 #[.agg #[.string p.from_, .string p.into, .int .i64 p.every, .int .i64 p.offset, .slice p.groups.a p.groups.n p.groups.c, .slice p.accs.a p.accs.n p.accs.c, .slice p.alias.a p.alias.n p.alias.c, .slice p.names.a p.names.n p.names.c, .slice p.texts.a p.texts.n p.texts.c, .slice p.lists.a p.lists.n p.lists.c, .slice p.times.a p.times.n p.times.c, .slice p.ints.a p.ints.n p.ints.c, .slice p.filter.a p.filter.n p.filter.c, .slice p.output.a p.output.n p.output.c]] W fun e w' => LsR W (badR (resD p q)) (hL (resD p q) q.output) e w' ∧ Below W.heap.size W w' := fun W hW => refRises_any p q hN W (hIH W hW).2.2.2
  have cDead0 : ∀ W, EH w p W → Calls Tryz.prog 19 #[.agg #[.string p.from_, .string p.into, .int .i64 p.every, .int .i64 p.offset, .slice p.groups.a p.groups.n p.groups.c, .slice p.accs.a p.accs.n p.accs.c, .slice p.alias.a p.alias.n p.alias.c, .slice p.names.a p.names.n p.names.c, .slice p.texts.a p.texts.n p.texts.c, .slice p.lists.a p.lists.n p.lists.c, .slice p.times.a p.times.n p.times.c, .slice p.ints.a p.ints.n p.ints.c, .slice p.filter.a p.filter.n p.filter.c, .slice p.output.a p.output.n p.output.c]] W fun e w' => LsR W (errV (resP p q)) (dL (resD p q) q.filter) e w' ∧ Below W.heap.size W w' := fun W hW => by
    obtain ⟨i1, i2, i3, i4⟩ := hIH W hW
    refine (Dead_any p q hN hcf hco W i1 i2 i4).mono (fun e w' hh => ⟨?_, hh.2⟩)
    have h1 := hh.1
    unfold DeadR at h1
    unfold dL
    rw [← res_same]
    cases hr : resP p q with
    | some y =>
      rw [hr] at h1
      rw [if_neg (by simp)]
      exact ⟨none, 0, h1, Or.inl rfl, fun b off e => by cases e⟩
    | none =>
      rw [hr] at h1
      obtain ⟨v, h2, h3⟩ := h1
      obtain ⟨a, cap, rfl, _, h4, h5⟩ := h3.ein
      rw [if_pos rfl]
      refine ⟨a, cap, h2, h4, fun b off e => ?_⟩
      rcases h5 with h5 | ⟨b', h5, h6, _⟩
      · rw [h5] at e; cases e
      · rw [h5] at e; injection e with e; injection e with e; omega
  have dDead0 : ∀ W, EH w p W → Calls Tryz.prog 20 #[.agg #[.string p.from_, .string p.into, .int .i64 p.every, .int .i64 p.offset, .slice p.groups.a p.groups.n p.groups.c, .slice p.accs.a p.accs.n p.accs.c, .slice p.alias.a p.alias.n p.alias.c, .slice p.names.a p.names.n p.names.c, .slice p.texts.a p.texts.n p.texts.c, .slice p.lists.a p.lists.n p.lists.c, .slice p.times.a p.times.n p.times.c, .slice p.ints.a p.ints.n p.ints.c, .slice p.filter.a p.filter.n p.filter.c, .slice p.output.a p.output.n p.output.c]] W fun e w' => LsR W (badR (resD p q)) (dL (resD p q) q.filter) e w' ∧ Below W.heap.size W w' := fun W hW => refDead_any p q hN W (hIH W hW).2.2.2
  have cBound0 : ∀ W, EH w p W → Calls Tryz.prog 17 #[.agg #[.string p.from_, .string p.into, .int .i64 p.every, .int .i64 p.offset, .slice p.groups.a p.groups.n p.groups.c, .slice p.accs.a p.accs.n p.accs.c, .slice p.alias.a p.alias.n p.alias.c, .slice p.names.a p.names.n p.names.c, .slice p.texts.a p.texts.n p.texts.c, .slice p.lists.a p.lists.n p.lists.c, .slice p.times.a p.times.n p.times.c, .slice p.ints.a p.ints.n p.ints.c, .slice p.filter.a p.filter.n p.filter.c, .slice p.output.a p.output.n p.output.c]] W fun e w' => e = .returned (.tuple #[.int .i64 (bF (resD p q) p.filter.n), .int .i64 (bF (resD p q) p.output.n), errV (resP p q)]) ∧ Below W.heap.size W w' := fun W hW => by
    obtain ⟨i1, i2, i3, i4⟩ := hIH W hW
    refine (Bound_any p q hN hcf hco W i1 i2 i4).mono (fun e w' hh => ⟨?_, hh.2⟩)
    have h1 := hh.1
    unfold BoundR at h1
    unfold bF
    rw [← res_same]
    cases hr : resP p q with
    | some y => rw [hr] at h1; rw [if_neg (by simp), if_neg (by simp)]; exact h1
    | none => rw [hr] at h1; rw [if_pos rfl, if_pos rfl]; exact h1
  have dBound0 : ∀ W, EH w p W → Calls Tryz.prog 18 #[.agg #[.string p.from_, .string p.into, .int .i64 p.every, .int .i64 p.offset, .slice p.groups.a p.groups.n p.groups.c, .slice p.accs.a p.accs.n p.accs.c, .slice p.alias.a p.alias.n p.alias.c, .slice p.names.a p.names.n p.names.c, .slice p.texts.a p.texts.n p.texts.c, .slice p.lists.a p.lists.n p.lists.c, .slice p.times.a p.times.n p.times.c, .slice p.ints.a p.ints.n p.ints.c, .slice p.filter.a p.filter.n p.filter.c, .slice p.output.a p.output.n p.output.c]] W fun e w' => e = .returned (.tuple #[.int .i64 (bF (resD p q) p.filter.n), .int .i64 (bF (resD p q) p.output.n), badR (resD p q)]) ∧ Below W.heap.size W w' := fun W hW => refBound_any p q hN W (hIH W hW).2.2.2
  obtain ⟨c, x, b, eV, en, es⟩ := bad_is (resD p q) (res_ne p q)
  rw [eV] at cS0 dHeights0 dRises0 dDead0 dBound0
  generalize errV (resP p q) = ve at *
  generalize hL (resD p q) q.filter = L1 at *
  generalize hL (resD p q) q.output = L2 at *
  generalize dL (resD p q) q.filter = L3 at *
  generalize bF (resD p q) p.filter.n = X at *
  generalize bF (resD p q) p.output.n = Z at *
  have E0 : Hid (EH w p (w.alloc (.cells p.cells 28))) := EH.new w p
  obtain ⟨ln1, ln2, ln3⟩ := len
  have cHeights : Hid (∀ W, EH w p W → Calls Tryz.prog 12 #[.agg #[.string p.from_, .string p.into, .int .i64 p.every, .int .i64 p.offset, .slice p.groups.a p.groups.n p.groups.c, .slice p.accs.a p.accs.n p.accs.c, .slice p.alias.a p.alias.n p.alias.c, .slice p.names.a p.names.n p.names.c, .slice p.texts.a p.texts.n p.texts.c, .slice p.lists.a p.lists.n p.lists.c, .slice p.times.a p.times.n p.times.c, .slice p.ints.a p.ints.n p.ints.c, .slice p.filter.a p.filter.n p.filter.c, .slice p.output.a p.output.n p.output.c]] W fun e w' => (∃ a cc n, e = .returned (.tuple #[.slice a n cc, ve]) ∧ n = L1.length ∧ Hid (I6.In w' a L1 ∧ ∀ b off, a = some ⟨b, off, none⟩ → W.heap.size ≤ b)) ∧ Below W.heap.size W w') := fun W hW => (cHeights0 W hW).mono (fun e w' hh => ⟨by obtain ⟨a, cc, h1, h2, h3⟩ := hh.1; exact ⟨a, cc, _, h1, rfl, h2, h3⟩, hh.2⟩)
  have dHeights : Hid (∀ W, EH w p W → Calls Tryz.prog 13 #[.agg #[.string p.from_, .string p.into, .int .i64 p.every, .int .i64 p.offset, .slice p.groups.a p.groups.n p.groups.c, .slice p.accs.a p.accs.n p.accs.c, .slice p.alias.a p.alias.n p.alias.c, .slice p.names.a p.names.n p.names.c, .slice p.texts.a p.texts.n p.texts.c, .slice p.lists.a p.lists.n p.lists.c, .slice p.times.a p.times.n p.times.c, .slice p.ints.a p.ints.n p.ints.c, .slice p.filter.a p.filter.n p.filter.c, .slice p.output.a p.output.n p.output.c]] W fun e w' => (∃ a cc n, e = .returned (.tuple #[.slice a n cc, (.agg #[.int .i64 c, .int .i64 x, .int .i64 0, .bool b, .bool false])]) ∧ n = L1.length ∧ Hid (I6.In w' a L1 ∧ ∀ b off, a = some ⟨b, off, none⟩ → W.heap.size ≤ b)) ∧ Below W.heap.size W w') := fun W hW => (dHeights0 W hW).mono (fun e w' hh => ⟨by obtain ⟨a, cc, h1, h2, h3⟩ := hh.1; exact ⟨a, cc, _, h1, rfl, h2, h3⟩, hh.2⟩)
  have cRises : Hid (∀ W, EH w p W → Calls Tryz.prog 14 #[.agg #[.string p.from_, .string p.into, .int .i64 p.every, .int .i64 p.offset, .slice p.groups.a p.groups.n p.groups.c, .slice p.accs.a p.accs.n p.accs.c, .slice p.alias.a p.alias.n p.alias.c, .slice p.names.a p.names.n p.names.c, .slice p.texts.a p.texts.n p.texts.c, .slice p.lists.a p.lists.n p.lists.c, .slice p.times.a p.times.n p.times.c, .slice p.ints.a p.ints.n p.ints.c, .slice p.filter.a p.filter.n p.filter.c, .slice p.output.a p.output.n p.output.c]] W fun e w' => (∃ a cc n, e = .returned (.tuple #[.slice a n cc, ve]) ∧ n = L2.length ∧ Hid (I6.In w' a L2 ∧ ∀ b off, a = some ⟨b, off, none⟩ → W.heap.size ≤ b)) ∧ Below W.heap.size W w') := fun W hW => (cRises0 W hW).mono (fun e w' hh => ⟨by obtain ⟨a, cc, h1, h2, h3⟩ := hh.1; exact ⟨a, cc, _, h1, rfl, h2, h3⟩, hh.2⟩)
  have dRises : Hid (∀ W, EH w p W → Calls Tryz.prog 15 #[.agg #[.string p.from_, .string p.into, .int .i64 p.every, .int .i64 p.offset, .slice p.groups.a p.groups.n p.groups.c, .slice p.accs.a p.accs.n p.accs.c, .slice p.alias.a p.alias.n p.alias.c, .slice p.names.a p.names.n p.names.c, .slice p.texts.a p.texts.n p.texts.c, .slice p.lists.a p.lists.n p.lists.c, .slice p.times.a p.times.n p.times.c, .slice p.ints.a p.ints.n p.ints.c, .slice p.filter.a p.filter.n p.filter.c, .slice p.output.a p.output.n p.output.c]] W fun e w' => (∃ a cc n, e = .returned (.tuple #[.slice a n cc, (.agg #[.int .i64 c, .int .i64 x, .int .i64 0, .bool b, .bool false])]) ∧ n = L2.length ∧ Hid (I6.In w' a L2 ∧ ∀ b off, a = some ⟨b, off, none⟩ → W.heap.size ≤ b)) ∧ Below W.heap.size W w') := fun W hW => (dRises0 W hW).mono (fun e w' hh => ⟨by obtain ⟨a, cc, h1, h2, h3⟩ := hh.1; exact ⟨a, cc, _, h1, rfl, h2, h3⟩, hh.2⟩)
  have cDead : Hid (∀ W, EH w p W → Calls Tryz.prog 19 #[.agg #[.string p.from_, .string p.into, .int .i64 p.every, .int .i64 p.offset, .slice p.groups.a p.groups.n p.groups.c, .slice p.accs.a p.accs.n p.accs.c, .slice p.alias.a p.alias.n p.alias.c, .slice p.names.a p.names.n p.names.c, .slice p.texts.a p.texts.n p.texts.c, .slice p.lists.a p.lists.n p.lists.c, .slice p.times.a p.times.n p.times.c, .slice p.ints.a p.ints.n p.ints.c, .slice p.filter.a p.filter.n p.filter.c, .slice p.output.a p.output.n p.output.c]] W fun e w' => (∃ a cc n, e = .returned (.tuple #[.slice a n cc, ve]) ∧ n = L3.length ∧ Hid (I6.In w' a L3 ∧ ∀ b off, a = some ⟨b, off, none⟩ → W.heap.size ≤ b)) ∧ Below W.heap.size W w') := fun W hW => (cDead0 W hW).mono (fun e w' hh => ⟨by obtain ⟨a, cc, h1, h2, h3⟩ := hh.1; exact ⟨a, cc, _, h1, rfl, h2, h3⟩, hh.2⟩)
  have dDead : Hid (∀ W, EH w p W → Calls Tryz.prog 20 #[.agg #[.string p.from_, .string p.into, .int .i64 p.every, .int .i64 p.offset, .slice p.groups.a p.groups.n p.groups.c, .slice p.accs.a p.accs.n p.accs.c, .slice p.alias.a p.alias.n p.alias.c, .slice p.names.a p.names.n p.names.c, .slice p.texts.a p.texts.n p.texts.c, .slice p.lists.a p.lists.n p.lists.c, .slice p.times.a p.times.n p.times.c, .slice p.ints.a p.ints.n p.ints.c, .slice p.filter.a p.filter.n p.filter.c, .slice p.output.a p.output.n p.output.c]] W fun e w' => (∃ a cc n, e = .returned (.tuple #[.slice a n cc, (.agg #[.int .i64 c, .int .i64 x, .int .i64 0, .bool b, .bool false])]) ∧ n = L3.length ∧ Hid (I6.In w' a L3 ∧ ∀ b off, a = some ⟨b, off, none⟩ → W.heap.size ≤ b)) ∧ Below W.heap.size W w') := fun W hW => (dDead0 W hW).mono (fun e w' hh => ⟨by obtain ⟨a, cc, h1, h2, h3⟩ := hh.1; exact ⟨a, cc, _, h1, rfl, h2, h3⟩, hh.2⟩)
  have cBound : Hid (∀ W, EH w p W → Calls Tryz.prog 17 #[.agg #[.string p.from_, .string p.into, .int .i64 p.every, .int .i64 p.offset, .slice p.groups.a p.groups.n p.groups.c, .slice p.accs.a p.accs.n p.accs.c, .slice p.alias.a p.alias.n p.alias.c, .slice p.names.a p.names.n p.names.c, .slice p.texts.a p.texts.n p.texts.c, .slice p.lists.a p.lists.n p.lists.c, .slice p.times.a p.times.n p.times.c, .slice p.ints.a p.ints.n p.ints.c, .slice p.filter.a p.filter.n p.filter.c, .slice p.output.a p.output.n p.output.c]] W fun e w' => e = .returned (.tuple #[.int .i64 X, .int .i64 Z, ve]) ∧ Below W.heap.size W w') := cBound0
  have dBound : Hid (∀ W, EH w p W → Calls Tryz.prog 18 #[.agg #[.string p.from_, .string p.into, .int .i64 p.every, .int .i64 p.offset, .slice p.groups.a p.groups.n p.groups.c, .slice p.accs.a p.accs.n p.accs.c, .slice p.alias.a p.alias.n p.alias.c, .slice p.names.a p.names.n p.names.c, .slice p.texts.a p.texts.n p.texts.c, .slice p.lists.a p.lists.n p.lists.c, .slice p.times.a p.times.n p.times.c, .slice p.ints.a p.ints.n p.ints.c, .slice p.filter.a p.filter.n p.filter.c, .slice p.output.a p.output.n p.output.c]] W fun e w' => e = .returned (.tuple #[.int .i64 X, .int .i64 Z, (.agg #[.int .i64 c, .int .i64 x, .int .i64 0, .bool b, .bool false])]) ∧ Below W.heap.size W w') := dBound0
  have cS : Hid (∀ W, Below w.heap.size w W → Calls Tryz.prog 9 #[ve, (.agg #[.int .i64 c, .int .i64 x, .int .i64 0, .bool b, .bool false])] W fun e w' => e = .returned (.bool true) ∧ Below W.heap.size W w') := cS0
  have cI : Hid (∀ (l : List Int) (n : Nat) (x y : Option Addr) (cx cy : Nat) W, l.length ≤ 65536 → n = l.length → I6.In W x l → I6.In W y l → Calls Tryz.prog 16 #[.slice x n cx, .slice y n cy] W fun e w' => e = .returned (.bool true) ∧ Below W.heap.size W w') := fun l n x y cx cy W h1 h2 h3 h4 => by rw [h2]; exact sameIn_any l h1 x y cx cy W h3 h4
  have lnH : Hid (L1.length ≤ 65536 ∧ L2.length ≤ 65536 ∧ L3.length ≤ 65536) := ⟨ln1, ln2, ln3⟩
  clear ln1 ln2 ln3 cS0 cHeights0 dHeights0 cRises0 dRises0 cDead0 dDead0 cBound0 dBound0 hIH hU hR hE h hN hcf hco eV en es
  unfold PrH.cells at E0
  unfold PrH.v
  go_enter Tryz.func4, Tryz.ntmps4
  go_wp2_with fail
  generalize World.alloc w _ = W1 at E0 ⊢
  obtain ⟨_, zp, y0, y1, y2, y3, y4, y5, y6, y7, y8, y9, y10, y11, y12, y13⟩ := E0.out
  go_wp2_with fail
  clear zp y0 y1 y2 y3 y4 y5 y6 y7 y8 y9 y10 y11 y12 y13
  with_reducible refine Calls.mono (cHeights.out _ E0.out) ?_
  rintro e w1 ⟨⟨a1, c1, n1, rfl, en1, i10⟩, bb⟩
  have l1 : Hid (∀ kb off, a1 = some ⟨kb, off, none⟩ → W1.heap.size ≤ kb) := i10.out.2
  have en1H : Hid (n1 = L1.length) := en1
  clear en1
  have i1x : Hid (I6.In w1 a1 L1) := i10.out.1
  clear i10 cHeights
  have E0' : Hid (EH w p w1) := E0.out.below bb
  clear E0 bb
  obtain ⟨_, zp, y0, y1, y2, y3, y4, y5, y6, y7, y8, y9, y10, y11, y12, y13⟩ := E0'.out
  go_wp2_with fail
  clear zp y0 y1 y2 y3 y4 y5 y6 y7 y8 y9 y10 y11 y12 y13
  with_reducible refine Calls.mono (dHeights.out _ E0'.out) ?_
  rintro e w2 ⟨⟨a2, c2, n2, rfl, en2, i20⟩, bb⟩
  have l2 : Hid (∀ kb off, a2 = some ⟨kb, off, none⟩ → w1.heap.size ≤ kb) := i20.out.2
  have en2H : Hid (n2 = L1.length) := en2
  clear en2
  have i2x : Hid (I6.In w2 a2 L1) := i20.out.1
  clear i20 dHeights
  have i1x' : Hid (I6.In w2 a1 L1) := i1x.out.below bb (Nat.le_refl _)
  have E0'' : Hid (EH w p w2) := E0'.out.below bb
  clear i1x E0' bb
  have s6 : Hid (BB (w2.alloc (.cells #[.int .i64 c, .int .i64 x, .int .i64 0, .bool b, .bool false] 36)) w2.heap.size c x b) := BB.new w2 c x b
  have bb : Below w2.heap.size w2 (w2.alloc (.cells #[.int .i64 c, .int .i64 x, .int .i64 0, .bool b, .bool false] 36)) := (Below.refl _ _).alloc (Nat.le_refl _) _
  have lo6 : Hid (w.heap.size ≤ w2.heap.size) := E0''.out.1.size
  have i1x'' : Hid (I6.In (w2.alloc (.cells #[.int .i64 c, .int .i64 x, .int .i64 0, .bool b, .bool false] 36)) a1 L1) := i1x'.out.below bb (Nat.le_refl _)
  have i2x' : Hid (I6.In (w2.alloc (.cells #[.int .i64 c, .int .i64 x, .int .i64 0, .bool b, .bool false] 36)) a2 L1) := i2x.out.below bb (Nat.le_refl _)
  have E0''' : Hid (EH w p (w2.alloc (.cells #[.int .i64 c, .int .i64 x, .int .i64 0, .bool b, .bool false] 36))) := E0''.out.below bb
  clear i1x' i2x E0'' bb
  obtain ⟨_, zp, y0, y1, y2, y3, y4, y5, y6, y7, y8, y9, y10, y11, y12, y13⟩ := E0'''.out
  go_wp2_with fail
  clear zp y0 y1 y2 y3 y4 y5 y6 y7 y8 y9 y10 y11 y12 y13
  with_reducible refine Calls.mono (cRises.out _ E0'''.out) ?_
  rintro e w3 ⟨⟨a3, c3, n3, rfl, en3, i30⟩, bb⟩
  have l3 : Hid (∀ kb off, a3 = some ⟨kb, off, none⟩ → (w2.alloc (.cells #[.int .i64 c, .int .i64 x, .int .i64 0, .bool b, .bool false] 36)).heap.size ≤ kb) := i30.out.2
  have en3H : Hid (n3 = L2.length) := en3
  clear en3
  have i3x : Hid (I6.In w3 a3 L2) := i30.out.1
  clear i30 cRises
  have i1x''' : Hid (I6.In w3 a1 L1) := i1x''.out.below bb (Nat.le_refl _)
  have i2x'' : Hid (I6.In w3 a2 L1) := i2x'.out.below bb (Nat.le_refl _)
  have s6' : Hid (BB w3 w2.heap.size c x b) := s6.out.below bb s6.out.1
  have E0'''' : Hid (EH w p w3) := E0'''.out.below bb
  clear i1x'' i2x' s6 E0''' bb
  obtain ⟨_, zp, y0, y1, y2, y3, y4, y5, y6, y7, y8, y9, y10, y11, y12, y13⟩ := E0''''.out
  go_wp2_with fail
  clear zp y0 y1 y2 y3 y4 y5 y6 y7 y8 y9 y10 y11 y12 y13
  with_reducible refine Calls.mono (dRises.out _ E0''''.out) ?_
  rintro e w4 ⟨⟨a4, c4, n4, rfl, en4, i40⟩, bb⟩
  have l4 : Hid (∀ kb off, a4 = some ⟨kb, off, none⟩ → w3.heap.size ≤ kb) := i40.out.2
  have en4H : Hid (n4 = L2.length) := en4
  clear en4
  have i4x : Hid (I6.In w4 a4 L2) := i40.out.1
  clear i40 dRises
  have i1x'''' : Hid (I6.In w4 a1 L1) := i1x'''.out.below bb (Nat.le_refl _)
  have i2x''' : Hid (I6.In w4 a2 L1) := i2x''.out.below bb (Nat.le_refl _)
  have s6'' : Hid (BB w4 w2.heap.size c x b) := s6'.out.below bb s6'.out.1
  have i3x' : Hid (I6.In w4 a3 L2) := i3x.out.below bb (Nat.le_refl _)
  have E0''''' : Hid (EH w p w4) := E0''''.out.below bb
  clear i1x''' i2x'' s6' i3x E0'''' bb
  have s10 : Hid (BB (w4.alloc (.cells #[.int .i64 c, .int .i64 x, .int .i64 0, .bool b, .bool false] 36)) w4.heap.size c x b) := BB.new w4 c x b
  have bb : Below w4.heap.size w4 (w4.alloc (.cells #[.int .i64 c, .int .i64 x, .int .i64 0, .bool b, .bool false] 36)) := (Below.refl _ _).alloc (Nat.le_refl _) _
  have lo10 : Hid (w.heap.size ≤ w4.heap.size) := E0'''''.out.1.size
  have i1x''''' : Hid (I6.In (w4.alloc (.cells #[.int .i64 c, .int .i64 x, .int .i64 0, .bool b, .bool false] 36)) a1 L1) := i1x''''.out.below bb (Nat.le_refl _)
  have i2x'''' : Hid (I6.In (w4.alloc (.cells #[.int .i64 c, .int .i64 x, .int .i64 0, .bool b, .bool false] 36)) a2 L1) := i2x'''.out.below bb (Nat.le_refl _)
  have s6''' : Hid (BB (w4.alloc (.cells #[.int .i64 c, .int .i64 x, .int .i64 0, .bool b, .bool false] 36)) w2.heap.size c x b) := s6''.out.below bb s6''.out.1
  have i3x'' : Hid (I6.In (w4.alloc (.cells #[.int .i64 c, .int .i64 x, .int .i64 0, .bool b, .bool false] 36)) a3 L2) := i3x'.out.below bb (Nat.le_refl _)
  have i4x' : Hid (I6.In (w4.alloc (.cells #[.int .i64 c, .int .i64 x, .int .i64 0, .bool b, .bool false] 36)) a4 L2) := i4x.out.below bb (Nat.le_refl _)
  have E0'''''' : Hid (EH w p (w4.alloc (.cells #[.int .i64 c, .int .i64 x, .int .i64 0, .bool b, .bool false] 36))) := E0'''''.out.below bb
  clear i1x'''' i2x''' s6'' i3x' i4x E0''''' bb
  have q12 : n1 = n2 := by rw [en2H.out, en1H.out]
  subst q12
  have q34 : n3 = n4 := by rw [en4H.out, en3H.out]
  subst q34
  clear en2H en4H l1 l2 l3 l4
  obtain ⟨z1, z2, z3, z4, z5, z6, z7⟩ := s6'''.out
  go_wp2_with fail
  clear z1 z2 z3 z4 z5 z6 z7
  have bw : Below w.heap.size w (w4.alloc (.cells #[.int .i64 c, .int .i64 x, .int .i64 0, .bool b, .bool false] 36)) := E0''''''.out.1
  with_reducible refine Calls.mono (cS.out _ bw) ?_
  rintro e w5 ⟨rfl, bb⟩
  clear bw
  have i1x'''''' : Hid (I6.In w5 a1 L1) := i1x'''''.out.below bb (Nat.le_refl _)
  have i2x''''' : Hid (I6.In w5 a2 L1) := i2x''''.out.below bb (Nat.le_refl _)
  have s6'''' : Hid (BB w5 w2.heap.size c x b) := s6'''.out.below bb s6'''.out.1
  have i3x''' : Hid (I6.In w5 a3 L2) := i3x''.out.below bb (Nat.le_refl _)
  have i4x'' : Hid (I6.In w5 a4 L2) := i4x'.out.below bb (Nat.le_refl _)
  have s10' : Hid (BB w5 w4.heap.size c x b) := s10.out.below bb s10.out.1
  have E0''''''' : Hid (EH w p w5) := E0''''''.out.below bb
  clear i1x''''' i2x'''' s6''' i3x'' i4x' s10 E0'''''' bb
  obtain ⟨z1, z2, z3, z4, z5, z6, z7⟩ := s10'.out
  go_wp2_with fail
  clear z1 z2 z3 z4 z5 z6 z7
  have bw : Below w.heap.size w w5 := E0'''''''.out.1
  with_reducible refine Calls.mono (cS.out _ bw) ?_
  rintro e w6 ⟨rfl, bb⟩
  clear bw
  have i1x''''''' : Hid (I6.In w6 a1 L1) := i1x''''''.out.below bb (Nat.le_refl _)
  have i2x'''''' : Hid (I6.In w6 a2 L1) := i2x'''''.out.below bb (Nat.le_refl _)
  have s6''''' : Hid (BB w6 w2.heap.size c x b) := s6''''.out.below bb s6''''.out.1
  have i3x'''' : Hid (I6.In w6 a3 L2) := i3x'''.out.below bb (Nat.le_refl _)
  have i4x''' : Hid (I6.In w6 a4 L2) := i4x''.out.below bb (Nat.le_refl _)
  have s10'' : Hid (BB w6 w4.heap.size c x b) := s10'.out.below bb s10'.out.1
  have E0'''''''' : Hid (EH w p w6) := E0'''''''.out.below bb
  clear i1x'''''' i2x''''' s6'''' i3x''' i4x'' s10' E0''''''' bb
  go_wp2_with fail
  with_reducible refine Calls.mono (cI.out L1 n1 _ _ _ _ _ lnH.out.1 en1H.out i1x'''''''.out i2x''''''.out) ?_
  rintro e w7 ⟨rfl, bb⟩
  have i1x'''''''' : Hid (I6.In w7 a1 L1) := i1x'''''''.out.below bb (Nat.le_refl _)
  have i2x''''''' : Hid (I6.In w7 a2 L1) := i2x''''''.out.below bb (Nat.le_refl _)
  have s6'''''' : Hid (BB w7 w2.heap.size c x b) := s6'''''.out.below bb s6'''''.out.1
  have i3x''''' : Hid (I6.In w7 a3 L2) := i3x''''.out.below bb (Nat.le_refl _)
  have i4x'''' : Hid (I6.In w7 a4 L2) := i4x'''.out.below bb (Nat.le_refl _)
  have s10''' : Hid (BB w7 w4.heap.size c x b) := s10''.out.below bb s10''.out.1
  have E0''''''''' : Hid (EH w p w7) := E0''''''''.out.below bb
  clear i1x''''''' i2x'''''' s6''''' i3x'''' i4x''' s10'' E0'''''''' bb
  go_wp2_with fail
  with_reducible refine Calls.mono (cI.out L2 n3 _ _ _ _ _ lnH.out.2.1 en3H.out i3x'''''.out i4x''''.out) ?_
  rintro e w8 ⟨rfl, bb⟩
  have i1x''''''''' : Hid (I6.In w8 a1 L1) := i1x''''''''.out.below bb (Nat.le_refl _)
  have i2x'''''''' : Hid (I6.In w8 a2 L1) := i2x'''''''.out.below bb (Nat.le_refl _)
  have s6''''''' : Hid (BB w8 w2.heap.size c x b) := s6''''''.out.below bb s6''''''.out.1
  have i3x'''''' : Hid (I6.In w8 a3 L2) := i3x'''''.out.below bb (Nat.le_refl _)
  have i4x''''' : Hid (I6.In w8 a4 L2) := i4x''''.out.below bb (Nat.le_refl _)
  have s10'''' : Hid (BB w8 w4.heap.size c x b) := s10'''.out.below bb s10'''.out.1
  have E0'''''''''' : Hid (EH w p w8) := E0'''''''''.out.below bb
  clear i1x'''''''' i2x''''''' s6'''''' i3x''''' i4x'''' s10''' E0''''''''' bb
  clear i1x'''''''''
  clear i2x''''''''
  clear i3x''''''
  clear i4x'''''
  clear s10''''
  clear en1H en3H
  obtain ⟨_, zp, y0, y1, y2, y3, y4, y5, y6, y7, y8, y9, y10, y11, y12, y13⟩ := E0''''''''''.out
  go_wp2_with fail
  clear zp y0 y1 y2 y3 y4 y5 y6 y7 y8 y9 y10 y11 y12 y13
  with_reducible refine Calls.mono (cBound.out _ E0''''''''''.out) ?_
  rintro e w9 ⟨rfl, bb⟩
  clear cBound
  have s6'''''''' : Hid (BB w9 w2.heap.size c x b) := s6'''''''.out.below bb s6'''''''.out.1
  have E0''''''''''' : Hid (EH w p w9) := E0''''''''''.out.below bb
  clear s6''''''' E0'''''''''' bb
  obtain ⟨_, zp, y0, y1, y2, y3, y4, y5, y6, y7, y8, y9, y10, y11, y12, y13⟩ := E0'''''''''''.out
  go_wp2_with fail
  clear zp y0 y1 y2 y3 y4 y5 y6 y7 y8 y9 y10 y11 y12 y13
  with_reducible refine Calls.mono (dBound.out _ E0'''''''''''.out) ?_
  rintro e w10 ⟨rfl, bb⟩
  clear dBound
  have s6''''''''' : Hid (BB w10 w2.heap.size c x b) := s6''''''''.out.below bb s6''''''''.out.1
  have E0'''''''''''' : Hid (EH w p w10) := E0'''''''''''.out.below bb
  clear s6'''''''' E0''''''''''' bb
  have ne616 : Hid (w2.heap.size < w10.heap.size) := s6'''''''''.out.1
  have s16 : Hid (BB (w10.alloc (.cells #[.int .i64 c, .int .i64 x, .int .i64 0, .bool b, .bool false] 36)) w10.heap.size c x b) := BB.new w10 c x b
  have bb : Below w10.heap.size w10 (w10.alloc (.cells #[.int .i64 c, .int .i64 x, .int .i64 0, .bool b, .bool false] 36)) := (Below.refl _ _).alloc (Nat.le_refl _) _
  have lo16 : Hid (w.heap.size ≤ w10.heap.size) := E0''''''''''''.out.1.size
  have s6'''''''''' : Hid (BB (w10.alloc (.cells #[.int .i64 c, .int .i64 x, .int .i64 0, .bool b, .bool false] 36)) w2.heap.size c x b) := s6'''''''''.out.below bb s6'''''''''.out.1
  have E0''''''''''''' : Hid (EH w p (w10.alloc (.cells #[.int .i64 c, .int .i64 x, .int .i64 0, .bool b, .bool false] 36))) := E0''''''''''''.out.below bb
  clear s6''''''''' E0'''''''''''' bb
  have gl5 : Hid (w2.heap.size < (w10.alloc (.cells #[.int .i64 c, .int .i64 x, .int .i64 0, .bool b, .bool false] 36)).heap.size) := s6''''''''''.out.1
  obtain ⟨_, zp, y0, y1, y2, y3, y4, y5, y6, y7, y8, y9, y10, y11, y12, y13⟩ := E0'''''''''''''.out
  go_wp2_with fail
  clear zp y0 y1 y2 y3 y4 y5 y6 y7 y8 y9 y10 y11 y12 y13
  with_reducible refine Calls.mono (cDead.out _ E0'''''''''''''.out) ?_
  rintro e w11 ⟨⟨a5, c5, n5, rfl, en5, i50⟩, bb⟩
  have l5 : Hid (∀ kb off, a5 = some ⟨kb, off, none⟩ → (w10.alloc (.cells #[.int .i64 c, .int .i64 x, .int .i64 0, .bool b, .bool false] 36)).heap.size ≤ kb) := i50.out.2
  have en5H : Hid (n5 = L3.length) := en5
  clear en5
  have i5x : Hid (I6.In w11 a5 L3) := i50.out.1
  clear i50 cDead
  have s6''''''''''' : Hid (BB w11 w2.heap.size c x b) := s6''''''''''.out.below bb s6''''''''''.out.1
  have s16' : Hid (BB w11 w10.heap.size c x b) := s16.out.below bb s16.out.1
  have E0'''''''''''''' : Hid (EH w p w11) := E0'''''''''''''.out.below bb
  clear s6'''''''''' s16 E0''''''''''''' bb
  have gl6 : Hid (w2.heap.size < w11.heap.size) := s6'''''''''''.out.1
  obtain ⟨_, zp, y0, y1, y2, y3, y4, y5, y6, y7, y8, y9, y10, y11, y12, y13⟩ := E0''''''''''''''.out
  go_wp2_with fail
  clear zp y0 y1 y2 y3 y4 y5 y6 y7 y8 y9 y10 y11 y12 y13
  with_reducible refine Calls.mono (dDead.out _ E0''''''''''''''.out) ?_
  rintro e w12 ⟨⟨a6, c6, n6, rfl, en6, i60⟩, bb⟩
  have l6 : Hid (∀ kb off, a6 = some ⟨kb, off, none⟩ → w11.heap.size ≤ kb) := i60.out.2
  have en6H : Hid (n6 = L3.length) := en6
  clear en6
  have i6x : Hid (I6.In w12 a6 L3) := i60.out.1
  clear i60 dDead
  have s6'''''''''''' : Hid (BB w12 w2.heap.size c x b) := s6'''''''''''.out.below bb s6'''''''''''.out.1
  have s16'' : Hid (BB w12 w10.heap.size c x b) := s16'.out.below bb s16'.out.1
  have i5x' : Hid (I6.In w12 a5 L3) := i5x.out.below bb (Nat.le_refl _)
  have E0''''''''''''''' : Hid (EH w p w12) := E0''''''''''''''.out.below bb
  clear s6''''''''''' s16' i5x E0'''''''''''''' bb
  have q56 : n5 = n6 := by rw [en6H.out, en5H.out]
  subst q56
  obtain ⟨W9, hst0, u0, bb0, hz, hk, hfar⟩ := s6''''''''''''.out.store
  have hst : Hid ((Instr.storeAt 36 (.pointer (some ⟨w2.heap.size, 0, none⟩)) (.agg #[.int .i64 c, .int .i64 x, .int .i64 0, .bool b, .bool false])).run Tryz.prog w12 = .ok () W9) := hst0
  have s6 : Hid (BB W9 (w2.heap.size) c x b) := u0
  have s16 : Hid (BB W9 (w10.heap.size) c x b) := hfar _ _ _ _ (by have := ne616.out; omega) s16''.out
  have bel : Hid (Below w.heap.size w W9) := bb0 _ _ E0'''''''''''''''.out.1 lo6.out
  have i5 : Hid (I6.In W9 a5 L3) := i5x'.out.keep (by rw [hz]; exact Nat.le_refl _) (fun b off e _ => hk b (by have := l5.out b off e; have := gl5.out; omega))
  have i6 : Hid (I6.In W9 a6 L3) := i6x.out.keep (by rw [hz]; exact Nat.le_refl _) (fun b off e _ => hk b (by have := l6.out b off e; have := gl6.out; omega))
  clear hst0 u0 bb0 hz hk hfar l5 l6 gl5 gl6 lo6 lo10 lo16 s6'''''''''''' s16'' i5x' i6x E0''''''''''''''' ne616 en6H
  go_wp2_with (refine wpList_store_run (by rfl) _ _ _ (by rfl) _ _ _ (by rfl) (by rfl) hst.out ?_)
  clear hst
  with_reducible refine Calls.mono (cL.out _ bel.out) ?_
  rintro e w13 ⟨rfl, bb⟩
  have s6' : Hid (BB w13 w2.heap.size c x b) := s6.out.below bb s6.out.1
  have s16' : Hid (BB w13 w10.heap.size c x b) := s16.out.below bb s16.out.1
  have bel' : Hid (Below w.heap.size w w13) := bel.out.trans (bb.mono bel.out.size)
  have i5' : Hid (I6.In w13 a5 L3) := i5.out.below bb (Nat.le_refl _)
  have i6' : Hid (I6.In w13 a6 L3) := i6.out.below bb (Nat.le_refl _)
  clear s6 s16 bel i5 i6 bb
  obtain ⟨z1, z2, z3, z4, z5, z6, z7⟩ := s16'.out
  go_wp2_with fail
  clear z1 z2 z3 z4 z5 z6 z7
  have bw : Below w.heap.size w w13 := bel'.out
  with_reducible refine Calls.mono (cS.out _ bw) ?_
  rintro e w14 ⟨rfl, bb⟩
  clear bw
  have s6'' : Hid (BB w14 w2.heap.size c x b) := s6'.out.below bb s6'.out.1
  have s16'' : Hid (BB w14 w10.heap.size c x b) := s16'.out.below bb s16'.out.1
  have bel'' : Hid (Below w.heap.size w w14) := bel'.out.trans (bb.mono bel'.out.size)
  have i5'' : Hid (I6.In w14 a5 L3) := i5'.out.below bb (Nat.le_refl _)
  have i6'' : Hid (I6.In w14 a6 L3) := i6'.out.below bb (Nat.le_refl _)
  clear s6' s16' bel' i5' i6' bb
  go_wp2_with fail
  with_reducible refine Calls.mono (cI.out L3 n5 _ _ _ _ _ lnH.out.2.2 en5H.out i5''.out i6''.out) ?_
  rintro e w15 ⟨rfl, bb⟩
  have s6''' : Hid (BB w15 w2.heap.size c x b) := s6''.out.below bb s6''.out.1
  have s16''' : Hid (BB w15 w10.heap.size c x b) := s16''.out.below bb s16''.out.1
  have bel''' : Hid (Below w.heap.size w w15) := bel''.out.trans (bb.mono bel''.out.size)
  have i5''' : Hid (I6.In w15 a5 L3) := i5''.out.below bb (Nat.le_refl _)
  have i6''' : Hid (I6.In w15 a6 L3) := i6''.out.below bb (Nat.le_refl _)
  clear s6'' s16'' bel'' i5'' i6'' bb
  obtain ⟨z1, z2, z3, z4, z5, z6, z7⟩ := s6'''.out
  go_wp2_with fail
  clear z1 z2 z3 z4 z5 z6 z7
  have bw : Below w.heap.size w w15 := bel'''.out
  with_reducible refine Calls.mono (cS.out _ bw) ?_
  rintro e w16 ⟨rfl, bb⟩
  clear bw
  have s6'''' : Hid (BB w16 w2.heap.size c x b) := s6'''.out.below bb s6'''.out.1
  have s16'''' : Hid (BB w16 w10.heap.size c x b) := s16'''.out.below bb s16'''.out.1
  have bel'''' : Hid (Below w.heap.size w w16) := bel'''.out.trans (bb.mono bel'''.out.size)
  have i5'''' : Hid (I6.In w16 a5 L3) := i5'''.out.below bb (Nat.le_refl _)
  have i6'''' : Hid (I6.In w16 a6 L3) := i6'''.out.below bb (Nat.le_refl _)
  clear s6''' s16''' bel''' i5''' i6''' bb
  go_wp2_with fail
  go_ret
  exact ⟨rfl, bel''''.out⟩
end Go.Proofs.YtdfnomglkibfbaaGreatDoor.Vf

namespace Go.Proofs.YtdfnomglkibfbaaGreatDoor
open Go.ChangeShapes Go.WideShapes Go.ChangeAt Go.RowKit Go.Joins
set_option linter.unusedVariables false

theorem verifyHeights_own : ownKnob Tryz.prog.godebug = none := by kernel_rfl
theorem verifyHeights_laidOut : laidOutB Tryz.prog = true := by kernel_rfl
theorem verifyHeights_et : Tryz.prog.globalNamed "errors.errorType" = some 0 := by kernel_rfl
theorem verifyHeights_rt : (Tryz.prog.cutTypes.find? (·.1 == "internal/reflectlite.rtype")).map (·.2) = some 221 := by kernel_rfl
theorem verifyHeights_oneRow : ((List.range 337).filter fun t => Tryz.prog.rowNamed t [101, 114, 114, 111, 114]) = [32] := by kernel_rfl
theorem verifyHeights_size : Tryz.prog.types.size = 337 := by kernel_rfl
theorem verifyHeights_parts {W : World} (h : laidMetH Tryz.prog Rows.verifyHeightsRow.laid W) : laidMet Tryz.prog [("unicode/utf8.acceptRanges", Rows.laid_unicode_utf8_acceptRanges), ("weir/verify.rows", Rows.laid_weir_verify_rows), ("unicode/utf8.first", Rows.laid_unicode_utf8_first)] W ∧ handlesMet Tryz.prog [("errors.errorType", Rows.laid_errors_errorType)] W := h
theorem verifyHeights_handle {W : World} (h : laidMetH Tryz.prog Rows.verifyHeightsRow.laid W) : ET W := by
  obtain ⟨name, u, ty, e1, e2, e3, e4, e5⟩ := (verifyHeights_parts h).2 _ (List.mem_singleton.2 rfl)
  have en : name = [101, 114, 114, 111, 114] := (Option.some.inj e1).symm
  subst en
  obtain rfl := Option.some.inj (verifyHeights_rt.symm.trans e2)
  have hm : ty ∈ (List.range 337).filter fun t => Tryz.prog.rowNamed t [101, 114, 114, 111, 114] := List.mem_filter.2 ⟨List.mem_range.2 (by rw [← verifyHeights_size]; exact e3), e4⟩
  rw [verifyHeights_oneRow] at hm
  obtain rfl := List.mem_singleton.1 hm
  have hh : typeHandle Tryz.prog 32 = .pointer (some ⟨4, 32, none⟩) := by kernel_rfl
  rw [hh] at e5
  unfold ET
  simpa using World.var?_cell verifyHeights_et e5 0
theorem verifyHeights_x8 : U8Extra Tryz.prog Tryz.laysValid_ren := ⟨by kernel_rfl, by kernel_rfl, by kernel_rfl, by kernel_rfl, by kernel_rfl, by kernel_rfl, by kernel_rfl⟩
theorem verifyHeights_acc : (Rows.laid_unicode_utf8_acceptRanges : DataW Unit) = Lib.acceptData := by kernel_rfl
theorem verifyHeights_fst : (Rows.laid_unicode_utf8_first : DataW Unit) = Lib.firstData := Pinned.utf8First_eq
theorem verifyHeights_tabs {W : World} (h : laidMetH Tryz.prog Rows.verifyHeightsRow.laid W) : UT W := by
  have h1 := (verifyHeights_parts h).1
  have r3 := Lib.laidMet.reads h1 (n := "unicode/utf8.first") (d := Rows.laid_unicode_utf8_first) (by simp)
  have r4 := Lib.laidMet.reads h1 (n := "unicode/utf8.acceptRanges") (d := Rows.laid_unicode_utf8_acceptRanges) (by simp)
  rw [verifyHeights_fst] at r3
  rw [verifyHeights_acc] at r4
  exact utf8Tabs_of_readsT (U8Types.of196 Tryz.laysValid) verifyHeights_x8 r3 r4
theorem verifyHeights_rows {W : World} (h : laidMetH Tryz.prog Rows.verifyHeightsRow.laid W) : Vf.RT W := Vf.RT_of_reads (Lib.laidMet.reads (verifyHeights_parts h).1 (n := "weir/verify.rows") (d := Rows.laid_weir_verify_rows) (by simp))
noncomputable def verifyHeights_wit (os : Os) : World := (World.doorLaid Tryz.prog 400 os).layVars Tryz.prog [("unicode/utf8.first", Rows.laid_unicode_utf8_first)]
theorem verifyHeights_door (os : Os) (args : Array Value) : laidMetH Tryz.prog Rows.verifyHeightsRow.laid ((verifyHeights_wit os).forCall (fun _ _ => 0) ⟨#[], args, []⟩).memory := by
  refine laidMetH_of_parts3 (fuel := 8) ?_ (by kernel_rfl) (by kernel_rfl)
  refine laidMet_layVars (w0 := World.doorLaid Tryz.prog 400 os) ["unicode/utf8.first"] [3, 1] (by kernel_rfl) (by kernel_rfl) (by kernel_rfl) ?_
  exact LaidIn.of_run _ 8 (by kernel_rfl) (by kernel_rfl) (by kernel_rfl) (by kernel_rfl)
set_option maxRecDepth 100000 in
theorem verifyHeights_lifted (os : Os) (started : os.Started) (H : Type) (enc : TypeId × Value → H) :
    ReturnsInHanded {} Tryz.checked os 4 .any (fun w args => (Rows.verifyHeightsSpec.pre enc Tryz.prog Tryz.f4 [] false w args ∧ laidMetH Tryz.prog Rows.verifyHeightsRow.laid w) ∧ sizedMet enc Tryz.prog Tryz.f4 (OpenSpec.ofChange Rows.verifyHeightsSpec) false w args)
      (Rows.verifyHeightsSpec.post enc Tryz.prog Tryz.f4 false true false false) := by
  refine returnsInHanded_of_change_and (C := Tryz.checked) (X := fun w _ => laidMetH Tryz.prog Rows.verifyHeightsRow.laid w) (fun _ _ _ hh h => h.of_heap hh) verifyHeights_own started (by kernel_rfl) Tryz.func4
    (ChangeSpec.witness_shaped (enc := enc) (C := Tryz.checked) (os := os) (X := fun w _ => laidMetH Tryz.prog Rows.verifyHeightsRow.laid w) false (verifyHeights_wit os) #[.agg #[.string ⟨#[]⟩, .string ⟨#[]⟩, .int .i64 0, .int .i64 0, .slice none 0 0, .slice none 0 0, .slice none 0 0, .slice none 0 0, .slice none 0 0, .slice none 0 0, .slice none 0 0, .slice none 0 0, .slice none 0 0, .slice none 0 0]] 8 (World.layVars_os _ _ _) (World.shaped_of_ZipB (by kernel_rfl) (by kernel_rfl)) (by kernel_rfl) (by kernel_rfl) (by kernel_rfl) (verifyHeights_door os _)) ?_
  intro W base args ds gs before hval0 hW _ hSz hL _
  have hval : ∀ (j : Nat) t v, Tryz.f4.params[j]? = some t → args[j]? = some v → Value.okWide Tryz.prog W .any base t v := hval0
  have hW' := hW
  obtain ⟨p, q, hA0, hV, rfl, hfz, hnd⟩ := hW
  have hA : DataW.TrodAll enc Tryz.prog W 0 (fun _ => true) true Tryz.f4.params.toList args.toList ds p := hA0
  rw [Tryz.params4] at hA hval
  obtain ⟨v0, vs0, d0, ds0, p0, q0, hargs, rfl, rfl, h0, r0⟩ := trodAll_cons hA
  obtain ⟨rfl, rfl, rfl⟩ := trodAll_nil r0
  obtain rfl : args = #[v0] := by cases args; simp_all
  obtain ⟨rfl, rfl⟩ := trodVars_none hV
  have k0 := h0
  have lt0 : ∀ x ∈ p0, x.block < W.heap.size := fun x hx => hW'.lt x (by simp [hx])
  obtain ⟨q0, q1, q2, q3, q4, q5, q6, q7, q8, q9, q10, q11, q12, q13, y0, y1, y2, y3, y4, y5, y6, y7, y8, y9, y10, y11, y12, y13, m0, rfl, rfl, g0, g1, g2, g3, g4, g5, g6, g7, g8, g9, g10, g11, g12, g13⟩ := Vf.prog_open (hval 0 28 v0 rfl rfl) h0
  have hS : ∀ k ∈ (DataW.agg [y0.1, y1.1, y2.1, y3.1, y4.1, y5.1, y6.1, y7.1, y8.1, y9.1, y10.1, y11.1, y12.1, y13.1] : DataW H).weights Tryz.prog 28, k ≤ reachBytes := fun k hk => by simpa using List.all_eq_true.1 hSz k (DataW.weights_mem_each (j := 0) (by kernel_rfl) rfl k hk)
  obtain ⟨s0, e0, _⟩ := DataW.trod_string Tryz.underlying9 g0
  obtain ⟨s1, e1, _⟩ := DataW.trod_string Tryz.underlying9 g1
  obtain ⟨i2, e2, _⟩ := DataW.trod_int Tryz.underlying2 g2
  obtain ⟨i3, e3, _⟩ := DataW.trod_int Tryz.underlying2 g3
  simp at e0 e1 e2 e3
  subst e0 e1 e2 e3
  obtain ⟨a4, l4, c4, rfl, in4, n4⟩ := Vf.strs_read g4 (fun k hk => hS k (Vf.in_prog4 hk))
  obtain ⟨a5, l5, c5, rfl, in5, n5⟩ := Vf.accs_read g5 (fun k hk => hS k (Vf.in_prog5 hk))
  obtain ⟨a6, l6, c6, rfl, in6, n6⟩ := Vf.strs_read g6 (fun k hk => hS k (Vf.in_prog6 hk))
  obtain ⟨a7, l7, c7, rfl, in7, n7⟩ := Vf.strs_read g7 (fun k hk => hS k (Vf.in_prog7 hk))
  obtain ⟨a8, l8, c8, rfl, in8, n8⟩ := Vf.strs_read g8 (fun k hk => hS k (Vf.in_prog8 hk))
  obtain ⟨a9, l9, c9, rfl, in9, n9⟩ := Vf.lists_read g9 (fun k hk => hS k (Vf.in_prog9 hk))
  obtain ⟨a12, l12, c12, rfl, in12, n12, cb12⟩ := Vf.ins_read g12 (fun k hk => hS k (Vf.in_prog12 hk))
  obtain ⟨a13, l13, c13, rfl, in13, n13, cb13⟩ := Vf.ins_read g13 (fun k hk => hS k (Vf.in_prog13 hk))
  obtain ⟨a10, l10, c10, rfl⟩ := Vf.ints_any g10
  obtain ⟨a11, l11, c11, rfl⟩ := Vf.ints_any g11
  clear hA0 hval0
  have hU : UT W := verifyHeights_tabs hL
  have hE : ET W := verifyHeights_handle hL
  have hR : Vf.RT W := verifyHeights_rows hL
  refine (Vf.verifyHeights_walk ⟨s0, s1, i2, i3, ⟨a4, l4.length, c4⟩, ⟨a5, l5.length, c5⟩, ⟨a6, l6.length, c6⟩, ⟨a7, l7.length, c7⟩, ⟨a8, l8.length, c8⟩, ⟨a9, l9.length, c9⟩, ⟨a10, l10, c10⟩, ⟨a11, l11, c11⟩, ⟨a12, l12.length, c12⟩, ⟨a13, l13.length, c13⟩⟩ ⟨l4, l5, l6, l7, l8, l9, l12, l13⟩ ⟨rfl, rfl, rfl, rfl, rfl, rfl, rfl, rfl, n4, n5, n6, n7, n8, n9, n12, n13⟩ cb12 cb13 W hU hR hE ⟨in4, in5, in6, in7, in8, in9, in12, in13⟩).mono fun e W' ⟨he, hg⟩ => ?_
  subst he
  exact ⟨_, rfl, _, _, _, [], (p0 ++ []), [], hW', trodAll_cons_mk (shut_bool Tryz.underlying4 _) trodAll_mk0, (trodAll_cons_mk (Below.trod verifyHeights_laidOut (by kernel_rfl) (of_decide_eq_true (by kernel_rfl)) k0 hg lt0) trodAll_mk0), rfl, hg.frame _, fun h => by cases h⟩

theorem verifyHeights_row : Rows.VerifyHeightsSaid :=
  OpenClaim.holds_of_wide 4 Tryz.f4 rfl rfl rfl rfl rfl rfl rfl ⟨rfl, rfl, rfl, rfl, rfl⟩ rfl rfl rfl rfl rfl (by kernel_rfl) Tryz.func4 (by kernel_rfl)
    (of_decide_eq_true (by kernel_rfl)) (by unfold Func.isWrapper; first | (rw [if_pos (by decide +kernel)]; kernel_rfl) | (rw [if_neg (by decide +kernel)]; exact ⟨rfl, rfl⟩))
    (fun os started H enc _ => verifyHeights_lifted os started H enc)

theorem verifyHeights_holds : Rows.VerifyHeightsCardSaid :=
  Claim7.holds_tied_plain_at .later [] [.data, .handle, .data, .pinned] true Rows.verifyHeightsCard.stood.harness true
    verifyHeights_row (fun _ h => by cases h) (by kernel_rfl) (fun _ h => by cases h) verifyHeights_row_tie rfl ⟨rfl, rfl⟩ (by kernel_rfl) rfl
    (fun f fn hf hfn => by
      obtain rfl : f = 4 := Option.some.inj ((show Tryz.prog.funcNamed Rows.verifyHeightsRow.func = some 4 by kernel_rfl).symm.trans hf) |>.symm
      obtain rfl : fn = Tryz.f4 := (Option.some.inj (Tryz.func4.symm.trans hfn)).symm
      exact ⟨by kernel_rfl, fun j t ht => by
        rw [Tryz.params4] at ht
        have hm : t ∈ [28] := by simpa using Array.mem_of_getElem? ht
        have hall : ([28].all fun u => !Tryz.prog.wantsStandIn u) = true := by kernel_rfl
        exact (show Tryz.prog.wantsStandIn t = false by simpa using List.all_eq_true.1 hall t hm)⟩)
    (by kernel_rfl)
#print axioms verifyHeights_holds
end Go.Proofs.YtdfnomglkibfbaaGreatDoor

