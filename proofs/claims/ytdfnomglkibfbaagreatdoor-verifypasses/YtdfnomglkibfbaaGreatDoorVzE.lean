
import Derived.Test.YtdfnomglkibfbaaGreatDoorVzA
import Derived.Test.YtdfnomglkibfbaaGreatDoorVgI
import Derived.Test.YtdfnomglkibfbaaGreatDoorVgJq
import Derived.Test.YtdfnomglkibfbaaGreatDoorVgKq
import Derived.Test.YtdfnomglkibfbaaGreatDoorVzD
import Derived.Test.YtdfnomglkibfbaaGreatDoorVzC
import Derived.ProofKit
import Derived.OpenShut
import Derived.Carry
import Derived.Deep.SlicePairs
import Derived.Lib.SmallJoins
import Derived.Lib.LaidU8
import Derived.Test.YtdfnomglkibfbaaGreatDoorRows
import Derived.Test.YtdfnomglkibfbaaGreatDoorCards
import Derived.Test.YtdfnomglkibfbaaGreatDoorTie
import Derived.LaidMore
import Derived.LaidHandle
import Derived.Stop.Joined
import Derived.SevenTiedAt
import Derived.PinnedBridge
import Derived.Lay
import Derived.Lib.LaidU8T
import Derived.Lib.LaidIn
namespace Go.Proofs.YtdfnomglkibfbaaGreatDoor.Vf
open Go.RowKit
set_option linter.unusedVariables false
set_option linter.unusedSimpArgs false
set_option maxRecDepth 100000
theorem hd_len2 {p : PrH} {q : PrL} (hN : PrN p q) (h : hdB p q = true) : p.filter.n ≤ 65536 ∧ p.output.n ≤ 65536 ∧ p.alias.n ≤ 65536 := by
  unfold hdB at h
  simp only [Bool.and_eq_true, decide_eq_true_eq] at h
  have h1 := hN.filter
  have h2 := hN.output
  have h3 := hN.alias
  omega
set_option maxHeartbeats 16000000 in
theorem refProgram_any (p : PrH) (q : PrL) (hN : PrN p q) (w : World) (h : PrIn w p q) : Calls Tryz.prog 11 #[p.v] w fun e w' => e = .returned (badR (resD p q)) ∧ Below w.heap.size w w' := by
  have hIH : Hid (∀ W, EW w p W → PrIn W p q) := fun W hW => h.below hW.1 (Nat.le_refl _)
  have cH0 : ∀ W, EW w p W → Calls Tryz.prog 28 #[.agg #[.string p.from_, .string p.into, .int .i64 p.every, .int .i64 p.offset, .slice p.groups.a p.groups.n p.groups.c, .slice p.accs.a p.accs.n p.accs.c, .slice p.alias.a p.alias.n p.alias.c, .slice p.names.a p.names.n p.names.c, .slice p.texts.a p.texts.n p.texts.c, .slice p.lists.a p.lists.n p.lists.c, .slice p.times.a p.times.n p.times.c, .slice p.ints.a p.ints.n p.ints.c, .slice p.filter.a p.filter.n p.filter.c, .slice p.output.a p.output.n p.output.c]] W fun e w' => e = .returned (.bool (hdB p q)) ∧ Below W.heap.size W w' := fun W hW => head_any p q hN W (hIH.out W hW)
  have cE10 : hdB p q = true → ∀ W, EW w p W → Calls Tryz.prog 30 #[.agg #[.string p.from_, .string p.into, .int .i64 p.every, .int .i64 p.offset, .slice p.groups.a p.groups.n p.groups.c, .slice p.accs.a p.accs.n p.accs.c, .slice p.alias.a p.alias.n p.alias.c, .slice p.names.a p.names.n p.names.c, .slice p.texts.a p.texts.n p.texts.c, .slice p.lists.a p.lists.n p.lists.c, .slice p.times.a p.times.n p.times.c, .slice p.ints.a p.ints.n p.ints.c, .slice p.filter.a p.filter.n p.filter.c, .slice p.output.a p.output.n p.output.c], .slice p.filter.a p.filter.n p.filter.c, .int .i64 0, .int .u8 13] W fun e w' => e = .returned (bdO 0 (eachD p.sz true q.accs q.filter)) ∧ Below W.heap.size W w' := fun hd W hW => by
    have := each_f p q.accs hN.accs q.filter p.filter.a p.filter.c hN.filter1 0 (by omega) W (hIH.out W hW).accs (hIH.out W hW).filter
    rw [← hN.filter] at this
    exact this
  have cE20 : hdB p q = true → ∀ W, EW w p W → Calls Tryz.prog 30 #[.agg #[.string p.from_, .string p.into, .int .i64 p.every, .int .i64 p.offset, .slice p.groups.a p.groups.n p.groups.c, .slice p.accs.a p.accs.n p.accs.c, .slice p.alias.a p.alias.n p.alias.c, .slice p.names.a p.names.n p.names.c, .slice p.texts.a p.texts.n p.texts.c, .slice p.lists.a p.lists.n p.lists.c, .slice p.times.a p.times.n p.times.c, .slice p.ints.a p.ints.n p.ints.c, .slice p.filter.a p.filter.n p.filter.c, .slice p.output.a p.output.n p.output.c], .slice p.output.a p.output.n p.output.c, .int .i64 (p.filter.n : Int), .int .u8 24] W fun e w' => e = .returned (bdO p.filter.n (eachD p.sz false q.accs q.output)) ∧ Below W.heap.size W w' := fun hd W hW => by
    have hl := hd_len2 hN hd
    have := each_o p q.accs hN.accs q.output p.output.a p.output.c hN.output1 p.filter.n (by omega) W (hIH.out W hW).accs (hIH.out W hW).output
    rw [← hN.output] at this
    exact this
  have cH10 : hdB p q = true → eachD p.sz true q.accs q.filter = none → ∀ W, EW w p W → Calls Tryz.prog 31 #[.slice p.filter.a p.filter.n p.filter.c, .int .i64 0] W fun e w' => HtR W p.filter.n 0 (hgtD q.filter 0 s0) e w' ∧ Below W.heap.size W w' := fun hd he W hW => by
    have hl := hd_len2 hN hd
    rw [← each_same] at he
    have e1 := hN.filter
    have := dheights_any q.filter (fmd_of he) p.filter.a p.filter.c (by omega) 0 (by omega) W (hIH.out W hW).filter
    rw [← e1] at this
    exact this
  have cH20 : hdB p q = true → eachD p.sz false q.accs q.output = none → ∀ W, EW w p W → Calls Tryz.prog 31 #[.slice p.output.a p.output.n p.output.c, .int .i64 (p.filter.n : Int)] W fun e w' => HtR W p.output.n p.filter.n (hgtD q.output 0 s0) e w' ∧ Below W.heap.size W w' := fun hd he W hW => by
    have hl := hd_len2 hN hd
    rw [← each_same] at he
    have e1 := hN.output
    have := dheights_any q.output (fmd_of he) p.output.a p.output.c (by omega) p.filter.n (by omega) W (hIH.out W hW).output
    rw [← e1] at this
    exact this
  have cM0 : hdB p q = true → ∀ W, EW w p W → Calls Tryz.prog 32 #[.agg #[.string p.from_, .string p.into, .int .i64 p.every, .int .i64 p.offset, .slice p.groups.a p.groups.n p.groups.c, .slice p.accs.a p.accs.n p.accs.c, .slice p.alias.a p.alias.n p.alias.c, .slice p.names.a p.names.n p.names.c, .slice p.texts.a p.texts.n p.texts.c, .slice p.lists.a p.lists.n p.lists.c, .slice p.times.a p.times.n p.times.c, .slice p.ints.a p.ints.n p.ints.c, .slice p.filter.a p.filter.n p.filter.c, .slice p.output.a p.output.n p.output.c]] W fun e w' => e = .returned (.bool (emitB p.alias.n q.output)) ∧ Below W.heap.size W w' := fun hd W hW => by
    have hl := hd_len2 hN hd
    exact emitted_any p q.output hN.output hN.output1 (by omega) W (hIH.out W hW).output
  have RES : Hid (resD p q = resOf (hdB p q) (eachD p.sz true q.accs q.filter) (eachD p.sz false q.accs q.output) (hgtD q.filter 0 s0).2 (hgtD q.output 0 s0).2 p.filter.n (emitB p.alias.n q.output)) := rfl
  have ne1 : Hid (∀ k e, eachD p.sz true q.accs q.filter = some (k, e) → e ≠ 0) := fun k e h => eachD_ne h
  have ne2 : Hid (∀ k e, eachD p.sz false q.accs q.output = some (k, e) → e ≠ 0) := fun k e h => eachD_ne h
  obtain ⟨⟨g1, r1⟩, hG1⟩ : ∃ G, hgtD q.filter 0 s0 = G := ⟨_, rfl⟩
  obtain ⟨⟨g2, r2⟩, hG2⟩ : ∃ G, hgtD q.output 0 s0 = G := ⟨_, rfl⟩
  rw [hG1] at cH10 RES
  rw [hG2] at cH20 RES
  generalize resD p q = r at *
  generalize hdB p q = hd at *
  generalize eachD p.sz true q.accs q.filter = E1 at *
  generalize eachD p.sz false q.accs q.output = E2 at *
  generalize emitB p.alias.n q.output = em at *
  clear hG1 hG2 h hN hIH
  obtain ⟨V, hV⟩ : ∃ V, badR r = V := ⟨_, rfl⟩
  have VV0 : Hid (badR r = V) := hV
  rw [hV]
  clear hV
  have cH : Hid (∀ W, EW w p W → Calls Tryz.prog 28 #[.agg #[.string p.from_, .string p.into, .int .i64 p.every, .int .i64 p.offset, .slice p.groups.a p.groups.n p.groups.c, .slice p.accs.a p.accs.n p.accs.c, .slice p.alias.a p.alias.n p.alias.c, .slice p.names.a p.names.n p.names.c, .slice p.texts.a p.texts.n p.texts.c, .slice p.lists.a p.lists.n p.lists.c, .slice p.times.a p.times.n p.times.c, .slice p.ints.a p.ints.n p.ints.c, .slice p.filter.a p.filter.n p.filter.c, .slice p.output.a p.output.n p.output.c]] W fun e w' => e = .returned (.bool hd) ∧ Below W.heap.size W w') := cH0
  have cN : Hid (∀ (e : Int) W, Calls Tryz.prog 29 #[.int .i64 e] W fun ev w' => ev = .returned (.agg #[.int .i64 e, .int .i64 0, .int .i64 0, .bool false, .bool false]) ∧ Below W.heap.size W w') := fun e W => refNew_any e W
  have e0 := EW.new w p
  have e0H : Hid (EW w p ((w.alloc (.cells p.cells 28)).alloc (.cells #[.int .i64 0, .int .i64 0, .int .i64 0, .bool false, .bool false] 36))) := e0
  clear e0 cH0
  unfold PrH.v
  unfold PrH.cells at e0H
  go_enter Tryz.func11, Tryz.ntmps11
  go_wp2_with fail
  generalize World.alloc (World.alloc w _) _ = W1 at e0H ⊢
  with_reducible refine Calls.mono (cH.out _ e0H.out) ?_
  rintro e w2 ⟨rfl, b2⟩
  have e2 : Hid (EW w p w2) := e0H.out.below b2
  clear cH e0H b2
  cases hd with
  | false =>
    clear cE10 cE20 cH10 cH20 cM0 ne1 ne2
    go_wp2_with fail
    with_reducible refine Calls.mono (cN.out _ _) ?_
    rintro e w3 ⟨rfl, b3⟩
    have e3 : Hid (EW w p w3) := e2.out.below b3
    clear b3 e2 cN
    have VV : Hid (V = .agg #[.int .i64 192, .int .i64 0, .int .i64 0, .bool false, .bool false]) := by rw [← VV0.out, show r = some (192, none) from RES.out]; rfl
    obtain ⟨W9, hst0, u0, u1, u2, u3, u4, bb0⟩ := store_bad e3.out.2.2 (192) (0) false
    have hst : Hid ((Instr.storeAt 36 (.pointer (some ⟨w.heap.size + 1, 0, none⟩)) (.agg #[.int .i64 192, .int .i64 0, .int .i64 0, .bool false, .bool false])).run Tryz.prog w3 = .ok () W9) := hst0
    have finB : Hid (Below w.heap.size w W9) := bb0 _ _ e3.out.1 (by omega)
    clear hst0 bb0 VV0 RES
    go_wp2_with (refine wpList_store_run (by rfl) _ _ _ (by rfl) _ _ _ (by rfl) (by rfl) hst.out ?_)
    clear hst
    simp [bodyPost, results, Tryz.results11, go_sem, u0, u1, u2, u3, u4]
    exact ⟨VV.out.symm, finB.out⟩
  | true =>
    have cE1 : Hid (∀ W, EW w p W → Calls Tryz.prog 30 #[.agg #[.string p.from_, .string p.into, .int .i64 p.every, .int .i64 p.offset, .slice p.groups.a p.groups.n p.groups.c, .slice p.accs.a p.accs.n p.accs.c, .slice p.alias.a p.alias.n p.alias.c, .slice p.names.a p.names.n p.names.c, .slice p.texts.a p.texts.n p.texts.c, .slice p.lists.a p.lists.n p.lists.c, .slice p.times.a p.times.n p.times.c, .slice p.ints.a p.ints.n p.ints.c, .slice p.filter.a p.filter.n p.filter.c, .slice p.output.a p.output.n p.output.c], .slice p.filter.a p.filter.n p.filter.c, .int .i64 0, .int .u8 13] W fun e w' => e = .returned (bdO 0 E1) ∧ Below W.heap.size W w') := cE10 rfl
    have cE2 : Hid (∀ W, EW w p W → Calls Tryz.prog 30 #[.agg #[.string p.from_, .string p.into, .int .i64 p.every, .int .i64 p.offset, .slice p.groups.a p.groups.n p.groups.c, .slice p.accs.a p.accs.n p.accs.c, .slice p.alias.a p.alias.n p.alias.c, .slice p.names.a p.names.n p.names.c, .slice p.texts.a p.texts.n p.texts.c, .slice p.lists.a p.lists.n p.lists.c, .slice p.times.a p.times.n p.times.c, .slice p.ints.a p.ints.n p.ints.c, .slice p.filter.a p.filter.n p.filter.c, .slice p.output.a p.output.n p.output.c], .slice p.output.a p.output.n p.output.c, .int .i64 (p.filter.n : Int), .int .u8 24] W fun e w' => e = .returned (bdO p.filter.n E2) ∧ Below W.heap.size W w') := cE20 rfl
    have cH1 : Hid (E1 = none → ∀ W, EW w p W → Calls Tryz.prog 31 #[.slice p.filter.a p.filter.n p.filter.c, .int .i64 0] W fun e w' => HtR W p.filter.n 0 (g1, r1) e w' ∧ Below W.heap.size W w') := cH10 rfl
    have cH2 : Hid (E2 = none → ∀ W, EW w p W → Calls Tryz.prog 31 #[.slice p.output.a p.output.n p.output.c, .int .i64 (p.filter.n : Int)] W fun e w' => HtR W p.output.n p.filter.n (g2, r2) e w' ∧ Below W.heap.size W w') := cH20 rfl
    have cM : Hid (∀ W, EW w p W → Calls Tryz.prog 32 #[.agg #[.string p.from_, .string p.into, .int .i64 p.every, .int .i64 p.offset, .slice p.groups.a p.groups.n p.groups.c, .slice p.accs.a p.accs.n p.accs.c, .slice p.alias.a p.alias.n p.alias.c, .slice p.names.a p.names.n p.names.c, .slice p.texts.a p.texts.n p.texts.c, .slice p.lists.a p.lists.n p.lists.c, .slice p.times.a p.times.n p.times.c, .slice p.ints.a p.ints.n p.ints.c, .slice p.filter.a p.filter.n p.filter.c, .slice p.output.a p.output.n p.output.c]] W fun e w' => e = .returned (.bool em) ∧ Below W.heap.size W w') := cM0 rfl
    clear cE10 cE20 cH10 cH20 cM0
    obtain ⟨_, ⟨zp, y0, y1, y2, y3, y4, y5, y6, y7, y8, y9, y10, y11, y12, y13⟩, _⟩ := e2.out
    go_wp2_with fail
    clear zp y0 y1 y2 y3 y4 y5 y6 y7 y8 y9 y10 y11 y12 y13
    with_reducible refine Calls.mono (cE1.out _ e2.out) ?_
    rintro e w3 ⟨rfl, b3⟩
    have e3 : Hid (EW w p w3) := e2.out.below b3
    clear b3 e2 cE1
    cases E1 with
    | some x =>
      obtain ⟨xk, xe⟩ := x
      have xn : xe ≠ 0 := ne1.out xk xe rfl
      have xb : (xe != 0) = true := by simpa using xn
      have xd : decide (xe = 0) = false := decide_eq_false xn
      rw [show bdO 0 (some (xk, xe)) = .agg #[.int .i64 xe, .int .i64 (xk : Int), .int .i64 0, .bool true, .bool false] by simp [bdO, badV]]
      have e4 : Hid (EW w p (w3.alloc (.cells #[.int .i64 xe, .int .i64 (xk : Int), .int .i64 0, .bool true, .bool false] 36))) := e3.out.below ((Below.refl _ _).alloc (Nat.le_refl _) _)
      clear ne1 ne2 cE2 cH1 cH2 cM cN e3
      have VV : Hid (V = .agg #[.int .i64 xe, .int .i64 (xk : Int), .int .i64 0, .bool true, .bool false]) := by rw [← VV0.out, show r = some (xe, some (xk : Int)) from by rw [RES.out]; simp [resOf]]; rfl
      obtain ⟨W9, hst0, u0, u1, u2, u3, u4, bb0⟩ := store_bad e4.out.2.2 (xe) ((xk : Int)) true
      have hst : Hid ((Instr.storeAt 36 (.pointer (some ⟨w.heap.size + 1, 0, none⟩)) (.agg #[.int .i64 xe, .int .i64 (xk : Int), .int .i64 0, .bool true, .bool false])).run Tryz.prog (w3.alloc (.cells #[.int .i64 xe, .int .i64 (xk : Int), .int .i64 0, .bool true, .bool false] 36)) = .ok () W9) := hst0
      have finB : Hid (Below w.heap.size w W9) := bb0 _ _ e4.out.1 (by omega)
      clear hst0 bb0 VV0 RES
      go_wp2_with (refine wpList_store_run (by rfl) _ _ _ (by rfl) _ _ _ (by rfl) (by rfl) hst.out ?_)
      clear hst
      simp [bodyPost, results, Tryz.results11, go_sem, u0, u1, u2, u3, u4]
      exact ⟨VV.out.symm, finB.out⟩
    | none =>
      rw [show bdO 0 none = .agg #[.int .i64 0, .int .i64 0, .int .i64 0, .bool false, .bool false] from rfl]
      have e4 : Hid (EW w p (w3.alloc (.cells #[.int .i64 0, .int .i64 0, .int .i64 0, .bool false, .bool false] 36))) := e3.out.below ((Below.refl _ _).alloc (Nat.le_refl _) _)
      clear e3
      obtain ⟨_, ⟨zp, y0, y1, y2, y3, y4, y5, y6, y7, y8, y9, y10, y11, y12, y13⟩, _⟩ := e4.out
      go_wp2_with fail
      clear zp y0 y1 y2 y3 y4 y5 y6 y7 y8 y9 y10 y11 y12 y13
      with_reducible refine Calls.mono (cE2.out _ e4.out) ?_
      rintro e w5 ⟨rfl, b5⟩
      have e5 : Hid (EW w p w5) := e4.out.below b5
      clear b5 e4 cE2
      have ch1 : Hid (∀ W, EW w p W → Calls Tryz.prog 31 #[.slice p.filter.a p.filter.n p.filter.c, .int .i64 0] W fun e w' => HtR W p.filter.n 0 (g1, r1) e w' ∧ Below W.heap.size W w') := cH1.out (by first | trivial | rfl)
      clear cH1
      cases E2 with
      | some x =>
        obtain ⟨xk, xe⟩ := x
        have xn : xe ≠ 0 := ne2.out xk xe rfl
        have xb : (xe != 0) = true := by simpa using xn
        have xd : decide (xe = 0) = false := decide_eq_false xn
        rw [show bdO p.filter.n (some (xk, xe)) = .agg #[.int .i64 xe, .int .i64 ((p.filter.n : Int) + (xk : Int)), .int .i64 0, .bool true, .bool false] from rfl]
        have e6 : Hid (EW w p (w5.alloc (.cells #[.int .i64 xe, .int .i64 ((p.filter.n : Int) + (xk : Int)), .int .i64 0, .bool true, .bool false] 36))) := e5.out.below ((Below.refl _ _).alloc (Nat.le_refl _) _)
        clear ne1 ne2 ch1 cH2 cM cN e5
        have VV : Hid (V = .agg #[.int .i64 xe, .int .i64 ((p.filter.n : Int) + (xk : Int)), .int .i64 0, .bool true, .bool false]) := by rw [← VV0.out, show r = some (xe, some ((p.filter.n : Int) + (xk : Int))) from by rw [RES.out]; rfl]; rfl
        obtain ⟨W9, hst0, u0, u1, u2, u3, u4, bb0⟩ := store_bad e6.out.2.2 (xe) (((p.filter.n : Int) + (xk : Int))) true
        have hst : Hid ((Instr.storeAt 36 (.pointer (some ⟨w.heap.size + 1, 0, none⟩)) (.agg #[.int .i64 xe, .int .i64 ((p.filter.n : Int) + (xk : Int)), .int .i64 0, .bool true, .bool false])).run Tryz.prog (w5.alloc (.cells #[.int .i64 xe, .int .i64 ((p.filter.n : Int) + (xk : Int)), .int .i64 0, .bool true, .bool false] 36)) = .ok () W9) := hst0
        have finB : Hid (Below w.heap.size w W9) := bb0 _ _ e6.out.1 (by omega)
        clear hst0 bb0 VV0 RES
        go_wp2_with (refine wpList_store_run (by rfl) _ _ _ (by rfl) _ _ _ (by rfl) (by rfl) hst.out ?_)
        clear hst
        simp [bodyPost, results, Tryz.results11, go_sem, u0, u1, u2, u3, u4]
        exact ⟨VV.out.symm, finB.out⟩
      | none =>
        rw [show bdO p.filter.n none = .agg #[.int .i64 0, .int .i64 0, .int .i64 0, .bool false, .bool false] from rfl]
        have e6 : Hid (EW w p (w5.alloc (.cells #[.int .i64 0, .int .i64 0, .int .i64 0, .bool false, .bool false] 36))) := e5.out.below ((Below.refl _ _).alloc (Nat.le_refl _) _)
        clear e5 ne1 ne2
        have ch2 : Hid (∀ W, EW w p W → Calls Tryz.prog 31 #[.slice p.output.a p.output.n p.output.c, .int .i64 (p.filter.n : Int)] W fun e w' => HtR W p.output.n p.filter.n (g2, r2) e w' ∧ Below W.heap.size W w') := cH2.out (by first | trivial | rfl)
        clear cH2
        obtain ⟨_, ⟨zp, y0, y1, y2, y3, y4, y5, y6, y7, y8, y9, y10, y11, y12, y13⟩, _⟩ := e6.out
        go_wp2_with fail
        clear zp y0 y1 y2 y3 y4 y5 y6 y7 y8 y9 y10 y11 y12 y13
        with_reducible refine Calls.mono (ch1.out _ e6.out) ?_
        rintro e w7 ⟨hpr, bn⟩
        have e7 : Hid (EW w p w7) := e6.out.below bn
        clear bn e6 ch1
        unfold HtR at hpr
        cases r1 with
        | some xk =>
          dsimp only at hpr
          rw [show badV 190 (((0 : Nat) : Int) + (xk : Int)) true = .agg #[.int .i64 190, .int .i64 (xk : Int), .int .i64 0, .bool true, .bool false] by simp [badV]] at hpr
          subst hpr
          have e8 : Hid (EW w p (w7.alloc (.cells #[.int .i64 190, .int .i64 (xk : Int), .int .i64 0, .bool true, .bool false] 36))) := e7.out.below ((Below.refl _ _).alloc (Nat.le_refl _) _)
          clear e7 cN cM ch2
          have VV : Hid (V = .agg #[.int .i64 190, .int .i64 (xk : Int), .int .i64 0, .bool true, .bool false]) := by rw [← VV0.out, show r = some (190, some (xk : Int)) from by rw [RES.out]; simp [resOf]]; rfl
          obtain ⟨W9, hst0, u0, u1, u2, u3, u4, bb0⟩ := store_bad e8.out.2.2 (190) ((xk : Int)) true
          have hst : Hid ((Instr.storeAt 36 (.pointer (some ⟨w.heap.size + 1, 0, none⟩)) (.agg #[.int .i64 190, .int .i64 (xk : Int), .int .i64 0, .bool true, .bool false])).run Tryz.prog (w7.alloc (.cells #[.int .i64 190, .int .i64 (xk : Int), .int .i64 0, .bool true, .bool false] 36)) = .ok () W9) := hst0
          have finB : Hid (Below w.heap.size w W9) := bb0 _ _ e8.out.1 (by omega)
          clear hst0 bb0 VV0 RES
          go_wp2_with (refine wpList_store_run (by rfl) _ _ _ (by rfl) _ _ _ (by rfl) (by rfl) hst.out ?_)
          clear hst
          simp [bodyPost, results, Tryz.results11, go_sem, u0, u1, u2, u3, u4]
          exact ⟨VV.out.symm, finB.out⟩
        | none =>
          dsimp only at hpr
          obtain ⟨ob, lob, hpr, _⟩ := hpr
          rw [show badV 0 0 false = .agg #[.int .i64 0, .int .i64 0, .int .i64 0, .bool false, .bool false] from rfl] at hpr
          subst hpr
          have e8 : Hid (EW w p (w7.alloc (.cells #[.int .i64 0, .int .i64 0, .int .i64 0, .bool false, .bool false] 36))) := e7.out.below ((Below.refl _ _).alloc (Nat.le_refl _) _)
          clear e7
          obtain ⟨_, ⟨zp, y0, y1, y2, y3, y4, y5, y6, y7, y8, y9, y10, y11, y12, y13⟩, _⟩ := e8.out
          go_wp2_with fail
          clear zp y0 y1 y2 y3 y4 y5 y6 y7 y8 y9 y10 y11 y12 y13
          with_reducible refine Calls.mono (ch2.out _ e8.out) ?_
          rintro e w9 ⟨hpr, bn⟩
          have e9 : Hid (EW w p w9) := e8.out.below bn
          clear bn e8 ch2
          unfold HtR at hpr
          cases r2 with
          | some xk =>
            dsimp only at hpr
            rw [show badV 190 ((p.filter.n : Int) + (xk : Int)) true = .agg #[.int .i64 190, .int .i64 ((p.filter.n : Int) + (xk : Int)), .int .i64 0, .bool true, .bool false] by simp [badV]] at hpr
            subst hpr
            have e10 : Hid (EW w p (w9.alloc (.cells #[.int .i64 190, .int .i64 ((p.filter.n : Int) + (xk : Int)), .int .i64 0, .bool true, .bool false] 36))) := e9.out.below ((Below.refl _ _).alloc (Nat.le_refl _) _)
            clear e9 cN cM
            have VV : Hid (V = .agg #[.int .i64 190, .int .i64 ((p.filter.n : Int) + (xk : Int)), .int .i64 0, .bool true, .bool false]) := by rw [← VV0.out, show r = some (190, some ((p.filter.n : Int) + (xk : Int))) from by rw [RES.out]; rfl]; rfl
            obtain ⟨W9, hst0, u0, u1, u2, u3, u4, bb0⟩ := store_bad e10.out.2.2 (190) (((p.filter.n : Int) + (xk : Int))) true
            have hst : Hid ((Instr.storeAt 36 (.pointer (some ⟨w.heap.size + 1, 0, none⟩)) (.agg #[.int .i64 190, .int .i64 ((p.filter.n : Int) + (xk : Int)), .int .i64 0, .bool true, .bool false])).run Tryz.prog (w9.alloc (.cells #[.int .i64 190, .int .i64 ((p.filter.n : Int) + (xk : Int)), .int .i64 0, .bool true, .bool false] 36)) = .ok () W9) := hst0
            have finB : Hid (Below w.heap.size w W9) := bb0 _ _ e10.out.1 (by omega)
            clear hst0 bb0 VV0 RES
            go_wp2_with (refine wpList_store_run (by rfl) _ _ _ (by rfl) _ _ _ (by rfl) (by rfl) hst.out ?_)
            clear hst
            simp [bodyPost, results, Tryz.results11, go_sem, u0, u1, u2, u3, u4]
            exact ⟨VV.out.symm, finB.out⟩
          | none =>
            dsimp only at hpr
            obtain ⟨ob2, lob2, hpr, _⟩ := hpr
            rw [show badV 0 0 false = .agg #[.int .i64 0, .int .i64 0, .int .i64 0, .bool false, .bool false] from rfl] at hpr
            subst hpr
            have e10 : Hid (EW w p (w9.alloc (.cells #[.int .i64 0, .int .i64 0, .int .i64 0, .bool false, .bool false] 36))) := e9.out.below ((Below.refl _ _).alloc (Nat.le_refl _) _)
            clear e9
            obtain ⟨_, ⟨zp, y0, y1, y2, y3, y4, y5, y6, y7, y8, y9, y10, y11, y12, y13⟩, _⟩ := e10.out
            go_wp2_with fail
            clear zp y0 y1 y2 y3 y4 y5 y6 y7 y8 y9 y10 y11 y12 y13
            with_reducible refine Calls.mono (cM.out _ e10.out) ?_
            rintro e w11 ⟨rfl, b11⟩
            have e11 : Hid (EW w p w11) := e10.out.below b11
            clear b11 e10 cM
            cases em with
            | false =>
              go_wp2_with fail
              with_reducible refine Calls.mono (cN.out _ _) ?_
              rintro e w12 ⟨rfl, b12⟩
              have e12 : Hid (EW w p w12) := e11.out.below b12
              clear b12 e11 cN
              have VV : Hid (V = .agg #[.int .i64 193, .int .i64 0, .int .i64 0, .bool false, .bool false]) := by rw [← VV0.out, show r = some (193, none) from by rw [RES.out]; rfl]; rfl
              obtain ⟨W9, hst0, u0, u1, u2, u3, u4, bb0⟩ := store_bad e12.out.2.2 (193) (0) false
              have hst : Hid ((Instr.storeAt 36 (.pointer (some ⟨w.heap.size + 1, 0, none⟩)) (.agg #[.int .i64 193, .int .i64 0, .int .i64 0, .bool false, .bool false])).run Tryz.prog w12 = .ok () W9) := hst0
              have finB : Hid (Below w.heap.size w W9) := bb0 _ _ e12.out.1 (by omega)
              clear hst0 bb0 VV0 RES
              go_wp2_with (refine wpList_store_run (by rfl) _ _ _ (by rfl) _ _ _ (by rfl) (by rfl) hst.out ?_)
              clear hst
              simp [bodyPost, results, Tryz.results11, go_sem, u0, u1, u2, u3, u4]
              exact ⟨VV.out.symm, finB.out⟩
            | true =>
              have VV : Hid (V = .agg #[.int .i64 0, .int .i64 0, .int .i64 0, .bool false, .bool false]) := by rw [← VV0.out, show r = none from by rw [RES.out]; rfl]; rfl
              obtain ⟨W9, hst0, u0, u1, u2, u3, u4, bb0⟩ := store_bad e11.out.2.2 (0) (0) false
              have hst : Hid ((Instr.storeAt 36 (.pointer (some ⟨w.heap.size + 1, 0, none⟩)) (.agg #[.int .i64 0, .int .i64 0, .int .i64 0, .bool false, .bool false])).run Tryz.prog w11 = .ok () W9) := hst0
              have finB : Hid (Below w.heap.size w W9) := bb0 _ _ e11.out.1 (by omega)
              clear hst0 bb0 VV0 RES
              go_wp2_with (refine wpList_store_run (by rfl) _ _ _ (by rfl) _ _ _ (by rfl) (by rfl) hst.out ?_)
              clear hst
              simp [bodyPost, results, Tryz.results11, go_sem, u0, u1, u2, u3, u4]
              exact ⟨VV.out.symm, finB.out⟩
end Go.Proofs.YtdfnomglkibfbaaGreatDoor.Vf

namespace Go.Proofs.YtdfnomglkibfbaaGreatDoor.Vf
open Go.RowKit
set_option linter.unusedVariables false
set_option linter.unusedSimpArgs false
set_option maxRecDepth 100000
theorem sameNil (w : World) : Calls Tryz.prog 9 #[.nilIface, badV 0 0 false] w fun e w' => e = .returned (.bool true) ∧ Below w.heap.size w w' := by
  unfold badV
  go_enter Tryz.func9, Tryz.ntmps9
  go_wp2
  go_ret
  exact ⟨rfl, by first | exact (Below.refl _ w).alloc (Nat.le_refl _) _ | exact Below.refl _ _⟩
theorem same_res (r : Option (Int × Option Int)) (hr : ∀ c x, r = some (c, x) → c ≠ 0) (w : World) (hg : ET w) : Calls Tryz.prog 9 #[errV r, badR r] w fun e w' => e = .returned (.bool true) ∧ Below w.heap.size w w' := by
  cases r with
  | none => exact sameNil w
  | some x =>
    obtain ⟨c, x⟩ := x
    have hc : (c == 0) = false := by rw [beq_eq_false_iff_ne]; exact hr c x rfl
    cases x with
    | none => exact sameC_miss_miss [] c hc rfl rfl w hg
    | some x => exact sameC_hit_miss [(false, x)] c hc x [] rfl rfl w hg
theorem isAt_any (x c e : Int) (he : (e == 0) = false) (w : World) (hg : ET w) : Calls Tryz.prog 25 #[atE x c, .int .i64 e] w fun ev w' => ev = .returned (.bool (c == e)) ∧ Below w.heap.size w w' := by
  have hlt := ET_lt hg
  have b1 : Below w.heap.size w (w.alloc (.cells #[.int .i64 0] 34)) := (Below.refl _ w).alloc (Nat.le_refl _) _
  have hgA : ET (w.alloc (.cells #[.int .i64 0] 34)) := ET_below hg b1
  have cA : Hid (Calls Tryz.prog 26 #[atE x c, .iface 97 (.pointer (some ⟨w.heap.size, 0, none⟩))] (w.alloc (.cells #[.int .i64 0] 34)) fun ev w' => ev = .returned (.bool true) ∧ w'.cell? ⟨w.heap.size, 0, none⟩ = some (.int .i64 c) ∧ Below w.heap.size w w') := (chain_E [(false, x)] c ⟨w.heap.size, 0, none⟩ (.int .i64 0) _ hgA (by simp [go_sem]) (by simp [go_sem])).mono (fun ev w' hh => by
    obtain ⟨h1, w1, h2, rfl⟩ := hh
    have s1 : w.heap.size < (w.alloc (.cells #[.int .i64 0] 34)).heap.size := by simp
    have k0 : w1.cell? ⟨w.heap.size, 0, none⟩ = some (.int .i64 0) := by
      rw [h2.cell (p := ⟨w.heap.size, 0, none⟩) s1]; simp [go_sem]
    exact ⟨h1, by simp [go_sem, k0], (b1.trans (h2.mono b1.size)).setCell (p := ⟨w.heap.size, 0, none⟩) (Nat.le_refl _) _⟩)
  unfold atE at cA
  unfold atE
  clear hg hgA b1 hlt
  go_enter Tryz.func25, Tryz.ntmps25
  go_wp2_with fail
  with_reducible refine Calls.mono cA.out ?_
  rintro ev w' ⟨rfl, k0, bb⟩
  clear cA
  go_wp2
  go_ret
  exact ⟨rfl, bb⟩
theorem res_ne (p : PrH) (q : PrL) : ∀ c x, resD p q = some (c, x) → c ≠ 0 := by
  intro c x h
  unfold resD resOf at h
  cases hd : hdB p q with
  | false => rw [hd] at h; simp at h; omega
  | true =>
    rw [hd] at h
    simp only [Bool.true_eq_false, if_false] at h
    cases e1 : eachD p.sz true q.accs q.filter with
    | some y =>
      rw [e1] at h
      obtain ⟨k, e⟩ := y
      simp at h
      rw [← h.1]; exact eachD_ne e1
    | none =>
      rw [e1] at h
      simp only at h
      cases e2 : eachD p.sz false q.accs q.output with
      | some y =>
        rw [e2] at h
        obtain ⟨k, e⟩ := y
        simp at h
        rw [← h.1]; exact eachD_ne e2
      | none =>
        rw [e2] at h
        simp only at h
        cases h1 : (hgtD q.filter 0 s0).2 with
        | some k => rw [h1] at h; simp at h; omega
        | none =>
          rw [h1] at h
          simp only at h
          cases h2 : (hgtD q.output 0 s0).2 with
          | some k => rw [h2] at h; simp at h; omega
          | none =>
            rw [h2] at h
            simp only at h
            split at h
            · cases h
            · simp at h; omega
end Go.Proofs.YtdfnomglkibfbaaGreatDoor.Vf

namespace Go.Proofs.YtdfnomglkibfbaaGreatDoor.Vf
open Go.RowKit
set_option linter.unusedVariables false
set_option linter.unusedSimpArgs false
set_option maxRecDepth 100000
set_option maxHeartbeats 4000000 in
theorem sameInts_any (n : Nat) (hn : n ≤ 65536) (a b ca cb : Nat) (F : Nat → Int) (w : World) (ha : ∀ k, k < n → w.cell? ⟨a, k, none⟩ = some (.int .i64 (F k))) (hb : ∀ k, k < n → w.cell? ⟨b, k, none⟩ = some (.int .i64 (F k))) : Calls Tryz.prog 16 #[.slice (some ⟨a, 0, none⟩) n ca, .slice (some ⟨b, 0, none⟩) n cb] w fun e w' => e = .returned (.bool true) ∧ Below w.heap.size w w' := by
  have haH : Hid (∀ k, k < n → w.cell? ⟨a, k, none⟩ = some (.int .i64 (F k))) := ha
  have hbH : Hid (∀ k, k < n → w.cell? ⟨b, k, none⟩ = some (.int .i64 (F k))) := hb
  clear ha hb
  go_enter Tryz.func16, Tryz.ntmps16
  go_wp2_with fail
  go_loopw [5] (fun v5 wr => ∃ k m : Nat, v5 = .int .i64 (k : Int) ∧ k ≤ n ∧ wr = w.drewN m) (fun v5 _ => n - (intOf v5).toNat)
  case atStart => exact ⟨0, 0, rfl, Nat.zero_le _, rfl⟩
  case round =>
    obtain ⟨k, m, rfl, hkn, rfl⟩ := hrel
    have k0 : (0 : Int) ≤ (k : Int) := by omega
    by_cases hk : k < n
    · have kI : (k : Int) < (n : Int) := by omega
      have kw : IntKind.i64.wrap ((k : Int) + 1) = ((k + 1 : Nat) : Int) := IntWalk.i64_in _ (by omega)
      have c1 : w.cell? ⟨a, 0 + k, none⟩ = some (.int .i64 (F k)) := by rw [Nat.zero_add]; exact haH.out k hk
      have c2 : w.cell? ⟨b, 0 + k, none⟩ = some (.int .i64 (F k)) := by rw [Nat.zero_add]; exact hbH.out k hk
      have c3 := haH.out k hk
      have c4 := hbH.out k hk
      go_wp2_with fail
      go_quiet (fail)
      go_wp2_with fail
      exact ⟨⟨k + 1, m + nq, by first | rfl | (rw [kw]), hk, by first | rfl | (rw [World.drewN_drewN])⟩, by first | (simp [intOf]; done) | (simp [intOf]; omega)⟩
    · have kI : ¬ (k : Int) < (n : Int) := by omega
      go_wp2_with fail
      go_ret
      exact ⟨rfl, bl_drewN (Below.refl _ w) m⟩
/-- a program that passes. -/
def smP (s n : Nat) : PrH := ⟨⟨#[99, 112, 117]⟩, ⟨#[116]⟩, 1, 0, ⟨none, 0, 0⟩, ⟨some ⟨s + 1, 0, none⟩, 1, 1⟩, ⟨some ⟨s + 2, 0, none⟩, 1, 1⟩, ⟨none, 0, 0⟩, ⟨none, 0, 0⟩, ⟨none, 0, 0⟩, ⟨none, 0, 0⟩, ⟨none, 0, 0⟩, ⟨some ⟨s + 3, 0, none⟩, n, 2⟩, ⟨some ⟨s + 4, 0, none⟩, 3, 3⟩⟩
def smL (l : List InP) : PrL := ⟨[], [(4, ⟨#[118]⟩)], [⟨#[109]⟩], [], [], [], l, [⟨14, 0, 0⟩, ⟨23, 0, 0⟩, ⟨24, 0, 0⟩]⟩
def sm2 : List InP := [⟨1, 0, 0⟩, ⟨13, 0, 0⟩]
def sm1 : List InP := [⟨1, 0, 0⟩]
theorem smN (s : Nat) : PrN (smP s 2) (smL sm2) := by
  refine ⟨rfl, rfl, rfl, rfl, rfl, rfl, rfl, rfl, ?_, ?_, ?_, ?_, ?_, ?_, ?_, ?_⟩ <;> simp [smL, sm2]
theorem smN1 (s : Nat) : PrN (smP s 1) (smL sm1) := by
  refine ⟨rfl, rfl, rfl, rfl, rfl, rfl, rfl, rfl, ?_, ?_, ?_, ?_, ?_, ?_, ?_, ?_⟩ <;> simp [smL, sm1]
theorem smC {l : List InP} (hl : l = sm2 ∨ l = sm1) : ∀ (j : Nat) (t : InP), l[j]? = some t → t.c < 256 := by
  intro j t h
  have hm := List.mem_of_getElem? h
  rcases hl with rfl | rfl
  · simp [sm2] at hm; rcases hm with rfl | rfl <;> decide
  · simp [sm1] at hm; subst hm; decide
theorem smO (l : List InP) : ∀ (j : Nat) (t : InP), (smL l).output[j]? = some t → t.c < 256 := by
  intro j t h
  have hm := List.mem_of_getElem? h
  simp [smL] at hm
  rcases hm with rfl | rfl | rfl <;> decide
/-- what lies in memory of it. -/
def SmW (w W : World) : Prop := Below w.heap.size w W ∧ PrIn W (smP w.heap.size 2) (smL sm2)
theorem PrIn.one {W : World} {s : Nat} (h : PrIn W (smP s 2) (smL sm2)) : PrIn W (smP s 1) (smL sm1) := by
  refine ⟨h.groups, h.accs, h.alias, h.names, h.texts, h.lists, ?_, h.output⟩
  rcases h.filter with q | ⟨b, off, h1, h2, h3⟩
  · simp [smL, sm2] at q
  · refine Or.inr ⟨b, off, h1, h2, fun i t ht => h3 i t ?_⟩
    have hi : i = 0 := by
      have := (List.getElem?_eq_some_iff.1 ht).1
      simp [smL, sm1] at this
      exact this
    subst hi
    simpa [smL, sm1, sm2] using ht
theorem sm_mem (w : World) (o : Obj) : SmW w (((((w.alloc o).alloc (.cells #[.int .u8 4, .string ⟨#[118]⟩] 55)).alloc (.cells #[.string ⟨#[109]⟩] 9)).alloc (.cells #[.int .u8 1, .int .i64 0, .int .i64 0, .int .u8 13, .int .i64 0, .int .i64 0] 59)).alloc (.cells #[.int .u8 14, .int .i64 0, .int .i64 0, .int .u8 23, .int .i64 0, .int .i64 0, .int .u8 24, .int .i64 0, .int .i64 0] 59)) := by
  have b : Below w.heap.size w (((((w.alloc o).alloc (.cells #[.int .u8 4, .string ⟨#[118]⟩] 55)).alloc (.cells #[.string ⟨#[109]⟩] 9)).alloc (.cells #[.int .u8 1, .int .i64 0, .int .i64 0, .int .u8 13, .int .i64 0, .int .i64 0] 59)).alloc (.cells #[.int .u8 14, .int .i64 0, .int .i64 0, .int .u8 23, .int .i64 0, .int .i64 0, .int .u8 24, .int .i64 0, .int .i64 0] 59)) := ((((((Below.refl _ w).alloc (Nat.le_refl _) o).alloc (by simp) _).alloc (by simp; omega) _).alloc (by simp; omega) _).alloc (by simp; omega) _)
  have z : (((((w.alloc o).alloc (.cells #[.int .u8 4, .string ⟨#[118]⟩] 55)).alloc (.cells #[.string ⟨#[109]⟩] 9)).alloc (.cells #[.int .u8 1, .int .i64 0, .int .i64 0, .int .u8 13, .int .i64 0, .int .i64 0] 59)).alloc (.cells #[.int .u8 14, .int .i64 0, .int .i64 0, .int .u8 23, .int .i64 0, .int .i64 0, .int .u8 24, .int .i64 0, .int .i64 0] 59)).heap.size = w.heap.size + 5 := by simp
  refine ⟨b, Or.inl rfl, Or.inr ⟨w.heap.size + 1, 0, rfl, by rw [z]; omega, fun i t ht => ?_⟩, Or.inr ⟨w.heap.size + 2, 0, rfl, by rw [z]; omega, fun i t ht => ?_⟩, Or.inl rfl, Or.inl rfl, Or.inl rfl, Or.inr ⟨w.heap.size + 3, 0, rfl, by rw [z]; omega, fun i t ht => ?_⟩, Or.inr ⟨w.heap.size + 4, 0, rfl, by rw [z]; omega, fun i t ht => ?_⟩⟩
  · match i, ht with
    | 0, ht => simp [smL] at ht; subst ht; simp [go_sem]
    | i + 1, ht => simp [smL] at ht
  · match i, ht with
    | 0, ht => simp [smL] at ht; subst ht; simp [go_sem]
    | i + 1, ht => simp [smL] at ht
  · match i, ht with
    | 0, ht => simp [smL, sm2] at ht; subst ht; simp [go_sem]
    | 1, ht => simp [smL, sm2] at ht; subst ht; simp [go_sem]
    | i + 2, ht => simp [smL, sm2] at ht
  · match i, ht with
    | 0, ht => simp [smL] at ht; subst ht; simp [go_sem]
    | 1, ht => simp [smL] at ht; subst ht; simp [go_sem]
    | 2, ht => simp [smL] at ht; subst ht; simp [go_sem]
    | i + 3, ht => simp [smL] at ht
set_option maxHeartbeats 4000000 in
theorem small_any (w : World) : Calls Tryz.prog 22 #[] w fun e w' => e = .returned (smP w.heap.size 2).v ∧ SmW w w' := by
  have hm : Hid (∀ o, SmW w (((((w.alloc o).alloc (.cells #[.int .u8 4, .string ⟨#[118]⟩] 55)).alloc (.cells #[.string ⟨#[109]⟩] 9)).alloc (.cells #[.int .u8 1, .int .i64 0, .int .i64 0, .int .u8 13, .int .i64 0, .int .i64 0] 59)).alloc (.cells #[.int .u8 14, .int .i64 0, .int .i64 0, .int .u8 23, .int .i64 0, .int .i64 0, .int .u8 24, .int .i64 0, .int .i64 0] 59))) := sm_mem w
  unfold smP PrH.v
  go_enter Tryz.func22, Tryz.ntmps22
  go_wp2_with fail
  go_returns
  exact ⟨rfl, hm.out _⟩
theorem sm_res (s : Nat) : resP (smP s 2) (smL sm2) = none := by kernel_rfl
theorem sm_res1 (s : Nat) : resP (smP s 1) (smL sm1) = some (193, some 1) := by kernel_rfl
theorem sm_hgt : (hgtP sm2 0 m0 []).1 = [0, 1] := by kernel_rfl
end Go.Proofs.YtdfnomglkibfbaaGreatDoor.Vf

namespace Go.Proofs.YtdfnomglkibfbaaGreatDoor.Vf
open Go.RowKit
set_option linter.unusedVariables false
set_option linter.unusedSimpArgs false
set_option maxRecDepth 100000
/-- the small program in a box of one's own. -/
structure SB (w : World) (B n : Nat) (W : World) : Prop where
  m : SmW w W
  l : w.heap.size ≤ B
  lt : B < W.heap.size
  f : W.frozen? ⟨B, 12, none⟩ = false
  x0 : W.cell? ⟨B, 0, none⟩ = some (.string ⟨#[99, 112, 117]⟩)
  x1 : W.cell? ⟨B, 1, none⟩ = some (.string ⟨#[116]⟩)
  x2 : W.cell? ⟨B, 2, none⟩ = some (.int .i64 1)
  x3 : W.cell? ⟨B, 3, none⟩ = some (.int .i64 0)
  x4 : W.cell? ⟨B, 4, none⟩ = some (.slice none 0 0)
  x5 : W.cell? ⟨B, 5, none⟩ = some (.slice (some ⟨w.heap.size + 1, 0, none⟩) 1 1)
  x6 : W.cell? ⟨B, 6, none⟩ = some (.slice (some ⟨w.heap.size + 2, 0, none⟩) 1 1)
  x7 : W.cell? ⟨B, 7, none⟩ = some (.slice none 0 0)
  x8 : W.cell? ⟨B, 8, none⟩ = some (.slice none 0 0)
  x9 : W.cell? ⟨B, 9, none⟩ = some (.slice none 0 0)
  x10 : W.cell? ⟨B, 10, none⟩ = some (.slice none 0 0)
  x11 : W.cell? ⟨B, 11, none⟩ = some (.slice none 0 0)
  x12 : W.cell? ⟨B, 12, none⟩ = some (.slice (some ⟨w.heap.size + 3, 0, none⟩) n 2)
  x13 : W.cell? ⟨B, 13, none⟩ = some (.slice (some ⟨w.heap.size + 4, 0, none⟩) 3 3)

theorem SmW.below {w W W' : World} (h : SmW w W) (hb : Below W.heap.size W W') : SmW w W' := ⟨h.1.trans (hb.mono h.1.size), h.2.below hb (Nat.le_refl _)⟩
theorem SB.below {w W W' : World} {B n : Nat} (h : SB w B n W) (hb : Below W.heap.size W W') : SB w B n W' := by
  have e : ∀ k, W'.cell? ⟨B, k, none⟩ = W.cell? ⟨B, k, none⟩ := fun k => hb.cell (p := ⟨B, k, none⟩) h.lt
  exact ⟨h.m.below hb, h.l, Nat.lt_of_lt_of_le h.lt hb.size, by rw [hb.frozen (p := ⟨B, 12, none⟩) h.lt]; exact h.f, by rw [e]; exact h.x0, by rw [e]; exact h.x1, by rw [e]; exact h.x2, by rw [e]; exact h.x3, by rw [e]; exact h.x4, by rw [e]; exact h.x5, by rw [e]; exact h.x6, by rw [e]; exact h.x7, by rw [e]; exact h.x8, by rw [e]; exact h.x9, by rw [e]; exact h.x10, by rw [e]; exact h.x11, by rw [e]; exact h.x12, by rw [e]; exact h.x13⟩
theorem SB.new {w W : World} (h : SmW w W) : SB w W.heap.size 2 (W.alloc (.cells #[.string ⟨#[99, 112, 117]⟩, .string ⟨#[116]⟩, .int .i64 1, .int .i64 0, .slice none 0 0, .slice (some ⟨w.heap.size + 1, 0, none⟩) 1 1, .slice (some ⟨w.heap.size + 2, 0, none⟩) 1 1, .slice none 0 0, .slice none 0 0, .slice none 0 0, .slice none 0 0, .slice none 0 0, .slice (some ⟨w.heap.size + 3, 0, none⟩) 2 2, .slice (some ⟨w.heap.size + 4, 0, none⟩) 3 3] 28)) := by
  refine ⟨h.below ((Below.refl _ _).alloc (Nat.le_refl _) _), h.1.size, by simp, ?_, ?_, ?_, ?_, ?_, ?_, ?_, ?_, ?_, ?_, ?_, ?_, ?_, ?_, ?_⟩ <;> simp [go_sem]
theorem SB.cut {w W V : World} (hm : SmW w V) (hV : Below V.heap.size V W) (h : SB w V.heap.size 2 W) : SB w V.heap.size 1 (W.setCell ⟨V.heap.size, 12, none⟩ (.slice (some ⟨w.heap.size + 3, 0, none⟩) 1 2)) := by
  have b : Below V.heap.size V (W.setCell ⟨V.heap.size, 12, none⟩ (.slice (some ⟨w.heap.size + 3, 0, none⟩) 1 2)) := hV.setCell (p := ⟨V.heap.size, 12, none⟩) (Nat.le_refl _) _
  refine ⟨hm.below b, h.l, by simpa using h.lt, ?_, ?_, ?_, ?_, ?_, ?_, ?_, ?_, ?_, ?_, ?_, ?_, ?_, ?_, ?_⟩ <;> simp [go_sem, h.f, h.x0, h.x1, h.x2, h.x3, h.x4, h.x5, h.x6, h.x7, h.x8, h.x9, h.x10, h.x11, h.x12, h.x13]
set_option maxHeartbeats 8000000 in
theorem live_any (w : World) (hU : UT w) (hR : RT w) (hE : ET w) : Calls Tryz.prog 8 #[] w fun e w' => e = .returned (.bool true) ∧ Below w.heap.size w w' := by
  have c1 : Hid (Calls Tryz.prog 22 #[] w fun e w' => e = .returned (.agg #[.string ⟨#[99, 112, 117]⟩, .string ⟨#[116]⟩, .int .i64 1, .int .i64 0, .slice none 0 0, .slice (some ⟨w.heap.size + 1, 0, none⟩) 1 1, .slice (some ⟨w.heap.size + 2, 0, none⟩) 1 1, .slice none 0 0, .slice none 0 0, .slice none 0 0, .slice none 0 0, .slice none 0 0, .slice (some ⟨w.heap.size + 3, 0, none⟩) 2 2, .slice (some ⟨w.heap.size + 4, 0, none⟩) 3 3]) ∧ SmW w w') := small_any w
  have c2 : Hid (∀ W, SmW w W → Calls Tryz.prog 12 #[.agg #[.string ⟨#[99, 112, 117]⟩, .string ⟨#[116]⟩, .int .i64 1, .int .i64 0, .slice none 0 0, .slice (some ⟨w.heap.size + 1, 0, none⟩) 1 1, .slice (some ⟨w.heap.size + 2, 0, none⟩) 1 1, .slice none 0 0, .slice none 0 0, .slice none 0 0, .slice none 0 0, .slice none 0 0, .slice (some ⟨w.heap.size + 3, 0, none⟩) 2 2, .slice (some ⟨w.heap.size + 4, 0, none⟩) 3 3]] W fun e w' => (∃ b1, e = .returned (.tuple #[.slice (some ⟨b1, 0, none⟩) 2 2, .nilIface]) ∧ Hid (w'.cell? ⟨b1, 0, none⟩ = some (.int .i64 0) ∧ w'.cell? ⟨b1, 1, none⟩ = some (.int .i64 1) ∧ W.heap.size ≤ b1 ∧ b1 < w'.heap.size)) ∧ Below W.heap.size W w') := fun W hW => (heights_none (smP w.heap.size 2) (smL sm2) (smN _) (smC (Or.inl rfl)) (smO _) W (hU.below hW.1 (Nat.le_refl _)) (hR.below hW.1 hR.lt) hW.2 (sm_res _)).mono (fun e w' hh => by
    obtain ⟨⟨b1, l1, h1, h2⟩, h3⟩ := hh
    refine ⟨⟨b1, h1, ?_, ?_, l1, h2.1⟩, h3⟩
    · have := (h2.2 0 (by show 0 < 2; omega)).1
      rw [show (smL sm2).filter = sm2 from rfl, sm_hgt] at this
      exact this
    · have := (h2.2 1 (by show 1 < 2; omega)).1
      rw [show (smL sm2).filter = sm2 from rfl, sm_hgt] at this
      exact this)
  have c3 : Hid (∀ W, SmW w W → Calls Tryz.prog 10 #[.agg #[.string ⟨#[99, 112, 117]⟩, .string ⟨#[116]⟩, .int .i64 1, .int .i64 0, .slice none 0 0, .slice (some ⟨w.heap.size + 1, 0, none⟩) 1 1, .slice (some ⟨w.heap.size + 2, 0, none⟩) 1 1, .slice none 0 0, .slice none 0 0, .slice none 0 0, .slice none 0 0, .slice none 0 0, .slice (some ⟨w.heap.size + 3, 0, none⟩) 1 2, .slice (some ⟨w.heap.size + 4, 0, none⟩) 3 3]] W fun e w' => e = .returned (atE 1 193) ∧ Below W.heap.size W w') := fun W hW => by
    have := program_any (smP w.heap.size 1) (smL sm1) (smN1 _) (smC (Or.inr rfl)) (smO _) W (hU.below hW.1 (Nat.le_refl _)) (hR.below hW.1 hR.lt) hW.2.one
    rw [sm_res1] at this
    exact this
  have c4 : Hid (∀ W, SmW w W → Calls Tryz.prog 25 #[atE 1 193, .int .i64 193] W fun e w' => e = .returned (.bool true) ∧ Below W.heap.size W w') := fun W hW => isAt_any 1 193 193 (by decide) W (ET_below hE hW.1)
  have c5 : Hid (∀ W a b, (W.cell? ⟨a, 0, none⟩ = some (.int .i64 0) ∧ W.cell? ⟨a, 1, none⟩ = some (.int .i64 1)) → (W.cell? ⟨b, 0, none⟩ = some (.int .i64 0) ∧ W.cell? ⟨b, 1, none⟩ = some (.int .i64 1)) → Calls Tryz.prog 16 #[.slice (some ⟨a, 0, none⟩) 2 2, .slice (some ⟨b, 0, none⟩) 2 2] W fun e w' => e = .returned (.bool true) ∧ Below W.heap.size W w') := fun W a b ha hb => sameInts_any 2 (by omega) a b 2 2 (fun k => k) W (fun k hk => by
      match k, hk with
      | 0, _ => exact ha.1
      | 1, _ => exact ha.2) (fun k hk => by
      match k, hk with
      | 0, _ => exact hb.1
      | 1, _ => exact hb.2)
  clear hU hR hE
  go_enter Tryz.func8, Tryz.ntmps8
  go_wp2_with fail
  with_reducible refine Calls.mono c1.out ?_
  rintro e w1 ⟨rfl, s1⟩
  have s1H : Hid (SmW w w1) := s1
  have sb2 : Hid (SB w w1.heap.size 2 (w1.alloc (.cells #[.string ⟨#[99, 112, 117]⟩, .string ⟨#[116]⟩, .int .i64 1, .int .i64 0, .slice none 0 0, .slice (some ⟨w.heap.size + 1, 0, none⟩) 1 1, .slice (some ⟨w.heap.size + 2, 0, none⟩) 1 1, .slice none 0 0, .slice none 0 0, .slice none 0 0, .slice none 0 0, .slice none 0 0, .slice (some ⟨w.heap.size + 3, 0, none⟩) 2 2, .slice (some ⟨w.heap.size + 4, 0, none⟩) 3 3] 28))) := SB.new s1
  have b2 : Hid (Below w1.heap.size w1 (w1.alloc (.cells #[.string ⟨#[99, 112, 117]⟩, .string ⟨#[116]⟩, .int .i64 1, .int .i64 0, .slice none 0 0, .slice (some ⟨w.heap.size + 1, 0, none⟩) 1 1, .slice (some ⟨w.heap.size + 2, 0, none⟩) 1 1, .slice none 0 0, .slice none 0 0, .slice none 0 0, .slice none 0 0, .slice none 0 0, .slice (some ⟨w.heap.size + 3, 0, none⟩) 2 2, .slice (some ⟨w.heap.size + 4, 0, none⟩) 3 3] 28))) := (Below.refl _ _).alloc (Nat.le_refl _) _
  clear s1 c1
  go_wp2_with fail
  with_reducible refine Calls.mono (c2.out _ sb2.out.m) ?_
  rintro e w3 ⟨⟨b1, rfl, k1⟩, b3⟩
  have sb3 : Hid (SB w w1.heap.size 2 w3) := sb2.out.below b3
  have b13 : Hid (Below w1.heap.size w1 w3) := b2.out.trans (b3.mono b2.out.size)
  have nb : b1 ≠ w1.heap.size := by have := k1.out.2.2.1; simp at this; omega
  clear b3 b2 sb2 c2
  have f12 := sb3.out.f
  have x12 := sb3.out.x12
  have l3 := sb3.out.lt
  have sb4 : Hid (SB w w1.heap.size 1 (w3.setCell ⟨w1.heap.size, 12, none⟩ (.slice (some ⟨w.heap.size + 3, 0, none⟩) 1 2))) := SB.cut s1H.out b13.out sb3.out
  have k4 : Hid ((w3.setCell ⟨w1.heap.size, 12, none⟩ (.slice (some ⟨w.heap.size + 3, 0, none⟩) 1 2)).cell? ⟨b1, 0, none⟩ = some (.int .i64 0) ∧ (w3.setCell ⟨w1.heap.size, 12, none⟩ (.slice (some ⟨w.heap.size + 3, 0, none⟩) 1 2)).cell? ⟨b1, 1, none⟩ = some (.int .i64 1) ∧ b1 < (w3.setCell ⟨w1.heap.size, 12, none⟩ (.slice (some ⟨w.heap.size + 3, 0, none⟩) 1 2)).heap.size) := by
    refine ⟨?_, ?_, by simpa using k1.out.2.2.2⟩
    · rw [World.cell?_setCell_other _ _ _ _ (by intro h; injection h; omega)]; exact k1.out.1
    · rw [World.cell?_setCell_other _ _ _ _ (by intro h; injection h; omega)]; exact k1.out.2.1
  clear sb3 k1 s1H b13
  go_wp2_with fail
  clear f12 x12 l3
  have hsz : Hid ((w3.setCell ⟨w1.heap.size, 12, none⟩ (.slice (some ⟨w.heap.size + 3, 0, none⟩) 1 2)).heap.size = w3.heap.size) := hid (by simp)
  generalize World.setCell w3 _ _ = W4 at sb4 k4 hsz ⊢
  have b5 : Below W4.heap.size W4 (W4.alloc (.cells #[.int .i64 0, .int .i64 1] 3)) := (Below.refl _ _).alloc (Nat.le_refl _) _
  have sb5 : Hid (SB w w1.heap.size 1 (W4.alloc (.cells #[.int .i64 0, .int .i64 1] 3))) := sb4.out.below b5
  have k5 : Hid ((W4.alloc (.cells #[.int .i64 0, .int .i64 1] 3)).cell? ⟨b1, 0, none⟩ = some (.int .i64 0) ∧ (W4.alloc (.cells #[.int .i64 0, .int .i64 1] 3)).cell? ⟨b1, 1, none⟩ = some (.int .i64 1)) := ⟨by rw [b5.cell (p := ⟨b1, 0, none⟩) k4.out.2.2]; exact k4.out.1, by rw [b5.cell (p := ⟨b1, 1, none⟩) k4.out.2.2]; exact k4.out.2.1⟩
  have k6 : Hid ((W4.alloc (.cells #[.int .i64 0, .int .i64 1] 3)).cell? ⟨w3.heap.size, 0, none⟩ = some (.int .i64 0) ∧ (W4.alloc (.cells #[.int .i64 0, .int .i64 1] 3)).cell? ⟨w3.heap.size, 1, none⟩ = some (.int .i64 1)) := ⟨by rw [← hsz.out]; simp [go_sem], by rw [← hsz.out]; simp [go_sem]⟩
  clear b5 sb4 k4
  with_reducible refine Calls.mono (c5.out _ _ _ k5.out k6.out) ?_
  rintro e w6 ⟨rfl, b6⟩
  have sb6 : Hid (SB w w1.heap.size 1 w6) := sb5.out.below b6
  clear b6 sb5 k5 k6 c5
  obtain ⟨_, _, l6, _, y0, y1, y2, y3, y4, y5, y6, y7, y8, y9, y10, y11, y12, y13⟩ := sb6.out
  go_wp2_with fail
  clear l6 y0 y1 y2 y3 y4 y5 y6 y7 y8 y9 y10 y11 y12 y13
  with_reducible refine Calls.mono (c3.out _ sb6.out.m) ?_
  rintro e w7 ⟨rfl, b7⟩
  have sb7 : Hid (SB w w1.heap.size 1 w7) := sb6.out.below b7
  clear b7 sb6 c3
  unfold atE at c4
  unfold atE
  go_wp2_with fail
  with_reducible refine Calls.mono (c4.out _ sb7.out.m) ?_
  rintro e w8 ⟨rfl, b8⟩
  have sb8 : Hid (SB w w1.heap.size 1 w8) := sb7.out.below b8
  clear b8 sb7 c4
  go_wp2_with fail
  go_ret
  exact ⟨rfl, sb8.out.m.1⟩
end Go.Proofs.YtdfnomglkibfbaaGreatDoor.Vf

namespace Go.Proofs.YtdfnomglkibfbaaGreatDoor.Vf
open Go.RowKit
set_option linter.unusedVariables false
set_option linter.unusedSimpArgs false
set_option maxRecDepth 100000
set_option maxHeartbeats 8000000 in
theorem verifyPasses_walk (p : PrH) (q : PrL) (hN : PrN p q) (hcf : ∀ (j : Nat) (t : InP), q.filter[j]? = some t → t.c < 256) (hco : ∀ (j : Nat) (t : InP), q.output[j]? = some t → t.c < 256) (w : World) (hU : UT w) (hR : RT w) (hE : ET w) (h : PrIn w p q) : Calls Tryz.prog 3 #[p.v] w fun e w' => e = .returned (.bool true) ∧ Below w.heap.size w w' := by
  have hK : Hid (∀ W, EH w p W → EH w p W ∧ W.cell? ⟨w.heap.size, 0, none⟩ = some (.string p.from_) ∧ W.cell? ⟨w.heap.size, 1, none⟩ = some (.string p.into) ∧ W.cell? ⟨w.heap.size, 2, none⟩ = some (.int .i64 p.every) ∧ W.cell? ⟨w.heap.size, 3, none⟩ = some (.int .i64 p.offset) ∧ W.cell? ⟨w.heap.size, 4, none⟩ = some (.slice p.groups.a p.groups.n p.groups.c) ∧ W.cell? ⟨w.heap.size, 5, none⟩ = some (.slice p.accs.a p.accs.n p.accs.c) ∧ W.cell? ⟨w.heap.size, 6, none⟩ = some (.slice p.alias.a p.alias.n p.alias.c) ∧ W.cell? ⟨w.heap.size, 7, none⟩ = some (.slice p.names.a p.names.n p.names.c) ∧ W.cell? ⟨w.heap.size, 8, none⟩ = some (.slice p.texts.a p.texts.n p.texts.c) ∧ W.cell? ⟨w.heap.size, 9, none⟩ = some (.slice p.lists.a p.lists.n p.lists.c) ∧ W.cell? ⟨w.heap.size, 10, none⟩ = some (.slice p.times.a p.times.n p.times.c) ∧ W.cell? ⟨w.heap.size, 11, none⟩ = some (.slice p.ints.a p.ints.n p.ints.c) ∧ W.cell? ⟨w.heap.size, 12, none⟩ = some (.slice p.filter.a p.filter.n p.filter.c) ∧ W.cell? ⟨w.heap.size, 13, none⟩ = some (.slice p.output.a p.output.n p.output.c)) := fun W hW => by
    obtain ⟨_, _, x0, x1, x2, x3, x4, x5, x6, x7, x8, x9, x10, x11, x12, x13⟩ := id hW
    exact ⟨hW, x0, x1, x2, x3, x4, x5, x6, x7, x8, x9, x10, x11, x12, x13⟩
  have cL : Hid (∀ W, EH w p W → Calls Tryz.prog 8 #[] W fun e w' => e = .returned (.bool true) ∧ EH w p w') := fun W hW => (live_any W (hU.below hW.1 (Nat.le_refl _)) (hR.below hW.1 hR.lt) (ET_below hE hW.1)).mono (fun e w' hh => ⟨hh.1, hW.below hh.2⟩)
  have cP0 : ∀ W, EH w p W → Calls Tryz.prog 10 #[.agg #[.string p.from_, .string p.into, .int .i64 p.every, .int .i64 p.offset, .slice p.groups.a p.groups.n p.groups.c, .slice p.accs.a p.accs.n p.accs.c, .slice p.alias.a p.alias.n p.alias.c, .slice p.names.a p.names.n p.names.c, .slice p.texts.a p.texts.n p.texts.c, .slice p.lists.a p.lists.n p.lists.c, .slice p.times.a p.times.n p.times.c, .slice p.ints.a p.ints.n p.ints.c, .slice p.filter.a p.filter.n p.filter.c, .slice p.output.a p.output.n p.output.c]] W fun e w' => e = .returned (errV (resP p q)) ∧ EH w p w' := fun W hW => (program_any p q hN hcf hco W (hU.below hW.1 (Nat.le_refl _)) (hR.below hW.1 hR.lt) (h.below hW.1 (Nat.le_refl _))).mono (fun e w' hh => ⟨hh.1, hW.below hh.2⟩)
  have cD0 : ∀ W, EH w p W → Calls Tryz.prog 11 #[.agg #[.string p.from_, .string p.into, .int .i64 p.every, .int .i64 p.offset, .slice p.groups.a p.groups.n p.groups.c, .slice p.accs.a p.accs.n p.accs.c, .slice p.alias.a p.alias.n p.alias.c, .slice p.names.a p.names.n p.names.c, .slice p.texts.a p.texts.n p.texts.c, .slice p.lists.a p.lists.n p.lists.c, .slice p.times.a p.times.n p.times.c, .slice p.ints.a p.ints.n p.ints.c, .slice p.filter.a p.filter.n p.filter.c, .slice p.output.a p.output.n p.output.c]] W fun e w' => e = .returned (badR (resD p q)) ∧ EH w p w' := fun W hW => (refProgram_any p q hN W (h.below hW.1 (Nat.le_refl _))).mono (fun e w' hh => ⟨hh.1, hW.below hh.2⟩)
  have cS0 : ∀ W, EH w p W → Calls Tryz.prog 9 #[errV (resP p q), badR (resD p q)] W fun e w' => e = .returned (.bool true) ∧ EH w p w' := fun W hW => by
    rw [res_same]
    exact (same_res (resD p q) (res_ne p q) W (ET_below hE hW.1)).mono (fun e w' hh => ⟨hh.1, hW.below hh.2⟩)
  generalize errV (resP p q) = ve at *
  generalize badR (resD p q) = vb at *
  have cP : Hid (∀ W, EH w p W → Calls Tryz.prog 10 #[.agg #[.string p.from_, .string p.into, .int .i64 p.every, .int .i64 p.offset, .slice p.groups.a p.groups.n p.groups.c, .slice p.accs.a p.accs.n p.accs.c, .slice p.alias.a p.alias.n p.alias.c, .slice p.names.a p.names.n p.names.c, .slice p.texts.a p.texts.n p.texts.c, .slice p.lists.a p.lists.n p.lists.c, .slice p.times.a p.times.n p.times.c, .slice p.ints.a p.ints.n p.ints.c, .slice p.filter.a p.filter.n p.filter.c, .slice p.output.a p.output.n p.output.c]] W fun e w' => e = .returned ve ∧ EH w p w') := cP0
  have cD : Hid (∀ W, EH w p W → Calls Tryz.prog 11 #[.agg #[.string p.from_, .string p.into, .int .i64 p.every, .int .i64 p.offset, .slice p.groups.a p.groups.n p.groups.c, .slice p.accs.a p.accs.n p.accs.c, .slice p.alias.a p.alias.n p.alias.c, .slice p.names.a p.names.n p.names.c, .slice p.texts.a p.texts.n p.texts.c, .slice p.lists.a p.lists.n p.lists.c, .slice p.times.a p.times.n p.times.c, .slice p.ints.a p.ints.n p.ints.c, .slice p.filter.a p.filter.n p.filter.c, .slice p.output.a p.output.n p.output.c]] W fun e w' => e = .returned vb ∧ EH w p w') := cD0
  have cS : Hid (∀ W, EH w p W → Calls Tryz.prog 9 #[ve, vb] W fun e w' => e = .returned (.bool true) ∧ EH w p w') := cS0
  have E0 : Hid (EH w p (w.alloc (.cells p.cells 28))) := EH.new w p
  clear cP0 cD0 cS0 hU hR hE h hN hcf hco
  unfold PrH.cells at E0
  unfold PrH.v
  go_enter Tryz.func3, Tryz.ntmps3
  go_wp2_with fail
  generalize World.alloc w _ = W1 at E0 ⊢
  have hSS := hK.out _ (E0.out.below ((Below.refl _ W1).drew))
  go_region_held3 (fun W => EH w p W ∧ W.cell? ⟨w.heap.size, 0, none⟩ = some (.string p.from_) ∧ W.cell? ⟨w.heap.size, 1, none⟩ = some (.string p.into) ∧ W.cell? ⟨w.heap.size, 2, none⟩ = some (.int .i64 p.every) ∧ W.cell? ⟨w.heap.size, 3, none⟩ = some (.int .i64 p.offset) ∧ W.cell? ⟨w.heap.size, 4, none⟩ = some (.slice p.groups.a p.groups.n p.groups.c) ∧ W.cell? ⟨w.heap.size, 5, none⟩ = some (.slice p.accs.a p.accs.n p.accs.c) ∧ W.cell? ⟨w.heap.size, 6, none⟩ = some (.slice p.alias.a p.alias.n p.alias.c) ∧ W.cell? ⟨w.heap.size, 7, none⟩ = some (.slice p.names.a p.names.n p.names.c) ∧ W.cell? ⟨w.heap.size, 8, none⟩ = some (.slice p.texts.a p.texts.n p.texts.c) ∧ W.cell? ⟨w.heap.size, 9, none⟩ = some (.slice p.lists.a p.lists.n p.lists.c) ∧ W.cell? ⟨w.heap.size, 10, none⟩ = some (.slice p.times.a p.times.n p.times.c) ∧ W.cell? ⟨w.heap.size, 11, none⟩ = some (.slice p.ints.a p.ints.n p.ints.c) ∧ W.cell? ⟨w.heap.size, 12, none⟩ = some (.slice p.filter.a p.filter.n p.filter.c) ∧ W.cell? ⟨w.heap.size, 13, none⟩ = some (.slice p.output.a p.output.n p.output.c)) (first | with_reducible assumption)
    (first
      | (go_at_call 8; (with_reducible refine Calls.mono (cL.out _ (by with_reducible assumption : EH w p _ ∧ _).1) ?_); rintro e w' ⟨rfl, EE⟩; have SS := hK.out _ EE)
      | (go_at_call 10; (with_reducible refine Calls.mono (cP.out _ (by with_reducible assumption : EH w p _ ∧ _).1) ?_); rintro e w' ⟨rfl, EE⟩; have SS := hK.out _ EE)
      | (go_at_call 11; (with_reducible refine Calls.mono (cD.out _ (by with_reducible assumption : EH w p _ ∧ _).1) ?_); rintro e w' ⟨rfl, EE⟩; have SS := hK.out _ EE)
      | (go_at_call 9; (with_reducible refine Calls.mono (cS.out _ (by with_reducible assumption : EH w p _ ∧ _).1) ?_); rintro e w' ⟨rfl, EE⟩; have SS := hK.out _ EE))
  all_goals go_wp2_with fail
  all_goals go_ret
  all_goals exact ⟨rfl, (by assumption : EH w p _).1⟩
end Go.Proofs.YtdfnomglkibfbaaGreatDoor.Vf

namespace Go.Proofs.YtdfnomglkibfbaaGreatDoor.Vf
open Go.ChangeShapes Go.WideShapes Go.ChangeAt Go.RowKit Go.Joins
set_option linter.unusedVariables false
set_option linter.unusedSimpArgs false
set_option maxRecDepth 100000
theorem RT_of_reads {W : World} (h : Lib.VarReads Tryz.prog W "weir/verify.rows" Rows.laid_weir_verify_rows) : RT W := by
  obtain ⟨g, t, cs, fuel, p, hg, ht, hvar, hd⟩ := h
  obtain rfl := Option.some.inj (rows_global.symm.trans hg)
  obtain rfl := Option.some.inj (rows_type.symm.trans ht)
  obtain ⟨xs, m, hk, hx, hcl, hxl, hff⟩ := DataW.trod_array Tryz.underlying250 hd
  rw [rows_cells] at hcl
  simp only [rows_cell] at hff
  have hx1 := congrArg (·.1) hx
  rw [laid_rows] at hx1
  have hx2 : rowsL.map rowD = xs.map (·.1) := by simpa using hx1
  intro c hc j hj
  have hxc : c < xs.length := by omega
  have e1 := hff c hc
  rw [List.getElem?_eq_getElem hxc] at e1
  have e2 : (xs[c]).1 = rowD (rowF c) := by
    have a := congrArg (fun l => l[c]?) hx2
    simp only [List.getElem?_map] at a
    rw [List.getElem?_eq_getElem hxc] at a
    have hrl : c < rowsL.length := by simpa [rowsL] using hc
    rw [List.getElem?_eq_getElem hrl] at a
    simp only [Option.map_some, Option.some.injEq] at a
    rw [← a]
    unfold rowF
    rw [List.getD_eq_getElem?_getD, List.getElem?_eq_getElem hrl]; rfl
  have e3 := row_trod e1 e2
  have h0 := World.var?_cell rows_global hvar (c * 6 + j)
  rw [h0, ← e3, List.getElem?_take_of_lt hj, List.getElem?_drop]
  simp
theorem weightsAll_mem {H : Type} {P : Program} {e : TypeId} {k : Nat} : ∀ {l : List (DataW H)} {d : DataW H}, d ∈ l → k ∈ d.weights P e → k ∈ DataW.weightsAll P e l
  | x :: r, d, hd, hk => by
    unfold DataW.weightsAll
    rcases List.mem_cons.1 hd with rfl | hd
    · exact List.mem_append_left _ hk
    · exact List.mem_append_right _ (weightsAll_mem hd hk)
theorem add_at (b off i : Nat) : (⟨b, off, none⟩ : Addr).add i = ⟨b, off + i, none⟩ := by unfold Addr.add; split <;> simp_all
/-- a slice, as it is read: c cells an element, each as Q says. -/
theorem sl_read {H : Type} {enc : TypeId × Value → H} {W : World} {v : Value} {y : DataW H × List MemPlace} {fuel : Nat} {T E : TypeId} {α : Type} [Inhabited α]
    (hu : Tryz.prog.underlying T = some (.slice E)) (c : Nat) (hce : Tryz.prog.cellsOf E = c) (hc0 : 0 < c) (hby : 1 ≤ Tryz.prog.bytesOf E) (Q : α → List Value → Prop)
    (hf : DataW.trod enc Tryz.prog W 0 (fun _ => true) true fuel T [v] = some y) (hw : ∀ k ∈ y.1.weights Tryz.prog T, k ≤ reachBytes)
    (hel : ∀ n cs' z, DataW.trod enc Tryz.prog W 0 (fun _ => true) true n E cs' = some z → cs'.length = c → (∀ k ∈ z.1.weights Tryz.prog E, k ≤ reachBytes) → ∃ x : α, Q x cs') :
    ∃ a l cap, v = .slice a l.length cap ∧ (l = [] ∨ ∃ b off, a = some ⟨b, off, none⟩ ∧ b < W.heap.size ∧ ∀ i t, l[i]? = some t → ∃ cs', Q t cs' ∧ cs'.length = c ∧ ∀ j, j < c → W.cell? ⟨b, off + i * c + j, none⟩ = cs'[j]?) ∧ l.length ≤ 1152921504606846976 := by
  rcases Go.Deep.open_slice hu hf with ⟨hcs, hx⟩ | ⟨a, len, cap, m, n, D, Pl, hcs, hb, hl, hm, hmm, hx, hall⟩
  · simp at hcs
    subst hcs
    exact ⟨none, [], 0, rfl, Or.inl rfl, by simp⟩
  · simp at hcs
    subst hcs
    simp only [if_true] at hmm
    subst hmm
    have hd : y.1 = .slice ((List.range len).map D) ((List.range (m - len)).map fun j => D (len + j)) := congrArg (·.1) hx
    have hlen : len ≤ 1152921504606846976 := by
      have h1 := hw ((((List.range len).map D).length + ((List.range (m - len)).map fun j => D (len + j)).length) * Tryz.prog.bytesOf E) (by rw [hd]; simp [DataW.weights, hu])
      rw [List.length_map, List.length_map, List.length_range, List.length_range] at h1
      have h2 : reachBytes = 140737488351232 := by decide
      have h3 : len ≤ (len + (m - len)) * Tryz.prog.bytesOf E := Nat.le_trans (by omega) (Nat.le_mul_of_pos_right _ hby)
      omega
    have each : ∀ i, i < len → ∃ x : α, ∃ cs', Q x cs' ∧ cs'.length = c ∧ ∀ j, j < c → W.cell? (a.add (i * c + j)) = cs'[j]? := by
      intro i hi
      obtain ⟨cs', h1, h2⟩ := hall i (by omega)
      rw [hce] at h1
      obtain ⟨_, hlen', hcell⟩ := World.cells?_some h1
      obtain ⟨x, hx'⟩ := hel n cs' _ h2 hlen' (fun k hk => hw k (by
        rw [hd]
        unfold DataW.weights
        rw [hu]
        exact List.mem_cons_of_mem _ (List.mem_append_left _ (weightsAll_mem (List.mem_map.2 ⟨i, List.mem_range.2 hi, rfl⟩) hk))))
      refine ⟨x, cs', hx', hlen', fun j hj => ?_⟩
      have := hcell j (by omega)
      rw [Go.Deep.add_add] at this
      exact this
    obtain ⟨g, hg⟩ : ∃ g : Nat → α, ∀ i, i < len → ∃ cs', Q (g i) cs' ∧ cs'.length = c ∧ ∀ j, j < c → W.cell? (a.add (i * c + j)) = cs'[j]? := ⟨fun i => if hi : i < len then Classical.choose (each i hi) else default, fun i hi => by simp only [hi, dif_pos]; exact Classical.choose_spec (each i hi)⟩
    refine ⟨some a, (List.range len).map g, m, by simp, ?_, by simpa using hlen⟩
    rcases Nat.eq_zero_or_pos len with h0 | h0
    · exact Or.inl (by rw [h0]; rfl)
    · right
      obtain ⟨b, off, spot⟩ := a
      obtain ⟨cs0, _, l0, k0⟩ := hg 0 h0
      have k00 := k0 0 hc0
      obtain ⟨v0, hv0⟩ : ∃ v0, cs0[0]? = some v0 := ⟨_, List.getElem?_eq_getElem (by omega)⟩
      rw [hv0] at k00
      have hspot : spot = none := by simpa [Addr.add] using World.cell?_spot k00
      subst hspot
      refine ⟨b, off, rfl, ?_, fun i t ht => ?_⟩
      · rw [add_at] at k00
        exact World.block_lt_of_cell? _ _ k00
      · rw [List.getElem?_map, Option.map_eq_some_iff] at ht
        obtain ⟨i', hi', rfl⟩ := ht
        have hlt := (List.getElem?_eq_some_iff.1 hi').1
        rw [List.length_range] at hlt
        rw [List.getElem?_range hlt] at hi'
        injection hi' with hi'
        subst hi'
        obtain ⟨cs', q1, q2, q3⟩ := hg i hlt
        refine ⟨cs', q1, q2, fun j hj => ?_⟩
        have := q3 j hj
        rw [add_at] at this
        rw [Nat.add_assoc]
        exact this
theorem strs_read {H : Type} {enc : TypeId × Value → H} {W : World} {v : Value} {y : DataW H × List MemPlace} {fuel : Nat}
    (hf : DataW.trod enc Tryz.prog W 0 (fun _ => true) true fuel 22 [v] = some y) (hw : ∀ k ∈ y.1.weights Tryz.prog 22, k ≤ reachBytes) :
    ∃ a l cap, v = .slice a l.length cap ∧ StIn W a l ∧ l.length ≤ 1152921504606846976 := by
  haveI : Inhabited ByteArray := ⟨⟨#[]⟩⟩
  obtain ⟨a, l, cap, h1, h2, h3⟩ := sl_read (α := ByteArray) Tryz.underlying22 1 (by kernel_rfl) (by omega) (of_decide_eq_true (by kernel_rfl)) (fun s cs => cs = [.string s]) hf hw (fun n cs' z hz hl _ => by
    match cs', hl with
    | [v], _ =>
      obtain ⟨s, e, _⟩ := DataW.trod_string Tryz.underlying9 hz
      exact ⟨s, e⟩)
  refine ⟨a, l, cap, h1, ?_, h3⟩
  rcases h2 with h2 | ⟨b, off, e1, e2, e3⟩
  · exact Or.inl h2
  · refine Or.inr ⟨b, off, e1, e2, fun i t ht => ?_⟩
    obtain ⟨cs', q1, q2, q3⟩ := e3 i t ht
    have := q3 0 (by omega)
    rw [q1] at this
    simpa using this
theorem accs_read {H : Type} {enc : TypeId × Value → H} {W : World} {v : Value} {y : DataW H × List MemPlace} {fuel : Nat}
    (hf : DataW.trod enc Tryz.prog W 0 (fun _ => true) true fuel 23 [v] = some y) (hw : ∀ k ∈ y.1.weights Tryz.prog 23, k ≤ reachBytes) :
    ∃ a l cap, v = .slice a l.length cap ∧ AcIn W a l ∧ l.length ≤ 1152921504606846976 := by
  haveI : Inhabited AcP := ⟨(0, ⟨#[]⟩)⟩
  obtain ⟨a, l, cap, h1, h2, h3⟩ := sl_read (α := AcP) Tryz.underlying23 2 (by kernel_rfl) (by omega) (of_decide_eq_true (by kernel_rfl)) (fun s cs => cs = [.int .u8 (s.1 : Int), .string s.2]) hf hw (fun n cs' z hz hl _ => by
    obtain ⟨xs, k, hk, hxy, _, hxl, hff⟩ := DataW.trod_struct Tryz.underlying55 hz
    match xs, hxl, cs', hl with
    | [y0, y1], _, [v0, v1], _ =>
      have cs : Tryz.prog.cellsOf 9 = 1 := by kernel_rfl
      have cu : Tryz.prog.cellsOf 53 = 1 := by kernel_rfl
      have g0 : DataW.trod enc Tryz.prog W 0 (fun _ => true) true k 53 (List.take (Tryz.prog.cellsOf 53) [v0, v1]) = some y0 := hff 0 _ rfl
      have g1 : DataW.trod enc Tryz.prog W 0 (fun _ => true) true k 9 (List.take (Tryz.prog.cellsOf 9) [v1]) = some y1 := hff 1 _ rfl
      rw [cu] at g0
      rw [cs] at g1
      simp only [List.take_succ_cons, List.take_zero] at g0 g1
      obtain ⟨k0, e0, _, w0⟩ := DataW.trod_int Tryz.underlying53 g0
      obtain ⟨s1, e1, _, w1⟩ := DataW.trod_string Tryz.underlying9 g1
      simp at e0 e1
      subst e0 e1
      have wb := bounds_u8 w0
      exact ⟨(k0.toNat, s1), by simp only; rw [Int.toNat_of_nonneg (by omega)]⟩)
  refine ⟨a, l, cap, h1, ?_, h3⟩
  rcases h2 with h2 | ⟨b, off, e1, e2, e3⟩
  · exact Or.inl h2
  · refine Or.inr ⟨b, off, e1, e2, fun i t ht => ?_⟩
    obtain ⟨cs', q1, q2, q3⟩ := e3 i t ht
    have r0 := q3 0 (by omega)
    have r1 := q3 1 (by omega)
    rw [q1] at r0 r1
    exact ⟨by simpa using r0, by simpa using r1⟩
theorem ins_read {H : Type} {enc : TypeId × Value → H} {W : World} {v : Value} {y : DataW H × List MemPlace} {fuel : Nat}
    (hf : DataW.trod enc Tryz.prog W 0 (fun _ => true) true fuel 26 [v] = some y) (hw : ∀ k ∈ y.1.weights Tryz.prog 26, k ≤ reachBytes) :
    ∃ a l cap, v = .slice a l.length cap ∧ InIn W a l ∧ l.length ≤ 1152921504606846976 ∧ ∀ (j : Nat) (t : InP), l[j]? = some t → t.c < 256 := by
  haveI : Inhabited InP := ⟨⟨0, 0, 0⟩⟩
  obtain ⟨a, l, cap, h1, h2, h3⟩ := sl_read (α := InP) Tryz.underlying26 3 (by kernel_rfl) (by omega) (of_decide_eq_true (by kernel_rfl)) (fun s cs => cs = [.int .u8 (s.c : Int), .int .i64 s.a, .int .i64 s.b] ∧ s.c < 256) hf hw (fun n cs' z hz hl _ => by
    obtain ⟨xs, k, hk, hxy, _, hxl, hff⟩ := DataW.trod_struct Tryz.underlying59 hz
    match xs, hxl, cs', hl with
    | [y0, y1, y2], _, [v0, v1, v2], _ =>
      have ci : Tryz.prog.cellsOf 3 = 1 := by kernel_rfl
      have cu : Tryz.prog.cellsOf 57 = 1 := by kernel_rfl
      have g0 : DataW.trod enc Tryz.prog W 0 (fun _ => true) true k 57 (List.take (Tryz.prog.cellsOf 57) [v0, v1, v2]) = some y0 := hff 0 _ rfl
      have g1 : DataW.trod enc Tryz.prog W 0 (fun _ => true) true k 3 (List.take (Tryz.prog.cellsOf 3) [v1, v2]) = some y1 := hff 1 _ rfl
      have g2 : DataW.trod enc Tryz.prog W 0 (fun _ => true) true k 3 (List.take (Tryz.prog.cellsOf 3) [v2]) = some y2 := hff 2 _ rfl
      rw [cu] at g0
      rw [ci] at g1 g2
      simp only [List.take_succ_cons, List.take_zero] at g0 g1 g2
      obtain ⟨k0, e0, _, w0⟩ := DataW.trod_int Tryz.underlying57 g0
      obtain ⟨k1, e1, _, w1⟩ := DataW.trod_int Tryz.underlying3 g1
      obtain ⟨k2, e2, _, w2⟩ := DataW.trod_int Tryz.underlying3 g2
      simp at e0 e1 e2
      subst e0 e1 e2
      have wb := bounds_u8 w0
      exact ⟨⟨k0.toNat, k1, k2⟩, by simp only; rw [Int.toNat_of_nonneg (by omega)], by simp only; omega⟩)
  refine ⟨a, l, cap, h1, ?_, h3, fun j t ht => ?_⟩
  · rcases h2 with h2 | ⟨b, off, e1, e2, e3⟩
    · exact Or.inl h2
    · refine Or.inr ⟨b, off, e1, e2, fun i t ht => ?_⟩
      obtain ⟨cs', q1, q2, q3⟩ := e3 i t ht
      have r0 := q3 0 (by omega)
      have r1 := q3 1 (by omega)
      have r2 := q3 2 (by omega)
      rw [q1.1] at r0 r1 r2
      exact ⟨by simpa using r0, by simpa using r1, by simpa using r2⟩
  · rcases h2 with h2 | ⟨b, off, e1, e2, e3⟩
    · rw [h2] at ht; simp at ht
    · obtain ⟨cs', q1, q2, q3⟩ := e3 j t ht
      exact q1.2
theorem lists_read {H : Type} {enc : TypeId × Value → H} {W : World} {v : Value} {y : DataW H × List MemPlace} {fuel : Nat}
    (hf : DataW.trod enc Tryz.prog W 0 (fun _ => true) true fuel 24 [v] = some y) (hw : ∀ k ∈ y.1.weights Tryz.prog 24, k ≤ reachBytes) :
    ∃ a l cap, v = .slice a l.length cap ∧ LsIn W a l ∧ l.length ≤ 1152921504606846976 := by
  obtain ⟨a, l, cap, h1, h2, h3⟩ := sl_read (α := List ByteArray) Tryz.underlying24 1 (by kernel_rfl) (by omega) (of_decide_eq_true (by kernel_rfl)) (fun s cs => s.length ≤ 1152921504606846976 ∧ ∃ x c, cs = [.slice x s.length c] ∧ StIn W x s) hf hw (fun n cs' z hz hl hzw => by
    match cs', hl with
    | [v], _ =>
      obtain ⟨x, s, c, e1, e2, e3⟩ := strs_read hz hzw
      exact ⟨s, e3, x, c, by rw [e1], e2⟩)
  refine ⟨a, l, cap, h1, ?_, h3⟩
  rcases h2 with h2 | ⟨b, off, e1, e2, e3⟩
  · exact Or.inl h2
  · refine Or.inr ⟨b, off, e1, e2, fun i t ht => ?_⟩
    obtain ⟨cs', ⟨q0, x, c, q1, q4⟩, q2, q3⟩ := e3 i t ht
    have := q3 0 (by omega)
    rw [q1] at this
    exact ⟨q0, x, c, by simpa using this, q4⟩
theorem ints_any {H : Type} {enc : TypeId × Value → H} {W : World} {v : Value} {y : DataW H × List MemPlace} {fuel : Nat}
    (hf : DataW.trod enc Tryz.prog W 0 (fun _ => true) true fuel 25 [v] = some y) : ∃ a n cap, v = .slice a n cap := by
  rcases Go.Deep.open_slice Tryz.underlying25 hf with ⟨hcs, hx⟩ | ⟨a, len, cap, m, n, D, Pl, hcs, _⟩
  · simp at hcs; exact ⟨_, _, _, hcs⟩
  · simp at hcs; exact ⟨_, _, _, hcs⟩
theorem len14 {α : Type} : ∀ {l : List α}, l.length = 14 → ∃ a0 a1 a2 a3 a4 a5 a6 a7 a8 a9 a10 a11 a12 a13, l = [a0, a1, a2, a3, a4, a5, a6, a7, a8, a9, a10, a11, a12, a13]
  | [a0, a1, a2, a3, a4, a5, a6, a7, a8, a9, a10, a11, a12, a13], _ => ⟨a0, a1, a2, a3, a4, a5, a6, a7, a8, a9, a10, a11, a12, a13, rfl⟩
/-- a program by value, opened. -/
theorem prog_open {H : Type} {enc : TypeId × Value → H} {W : World} {v : Value} {b0 : Nat} {d : DataW H} {p : List MemPlace} (hv : Value.okWide Tryz.prog W .any b0 28 v) (h : DataW.Trod enc Tryz.prog W 0 (fun _ => true) true 28 v d p) :
    ∃ (c0 c1 c2 c3 c4 c5 c6 c7 c8 c9 c10 c11 c12 c13 : Value) (y0 y1 y2 y3 y4 y5 y6 y7 y8 y9 y10 y11 y12 y13 : DataW H × List MemPlace) (n : Nat), v = .agg #[c0, c1, c2, c3, c4, c5, c6, c7, c8, c9, c10, c11, c12, c13] ∧ d = .agg [y0.1, y1.1, y2.1, y3.1, y4.1, y5.1, y6.1, y7.1, y8.1, y9.1, y10.1, y11.1, y12.1, y13.1] ∧ DataW.trod enc Tryz.prog W 0 (fun _ => true) true n 9 [c0] = some y0 ∧ DataW.trod enc Tryz.prog W 0 (fun _ => true) true n 9 [c1] = some y1 ∧ DataW.trod enc Tryz.prog W 0 (fun _ => true) true n 2 [c2] = some y2 ∧ DataW.trod enc Tryz.prog W 0 (fun _ => true) true n 2 [c3] = some y3 ∧ DataW.trod enc Tryz.prog W 0 (fun _ => true) true n 22 [c4] = some y4 ∧ DataW.trod enc Tryz.prog W 0 (fun _ => true) true n 23 [c5] = some y5 ∧ DataW.trod enc Tryz.prog W 0 (fun _ => true) true n 22 [c6] = some y6 ∧ DataW.trod enc Tryz.prog W 0 (fun _ => true) true n 22 [c7] = some y7 ∧ DataW.trod enc Tryz.prog W 0 (fun _ => true) true n 22 [c8] = some y8 ∧ DataW.trod enc Tryz.prog W 0 (fun _ => true) true n 24 [c9] = some y9 ∧ DataW.trod enc Tryz.prog W 0 (fun _ => true) true n 25 [c10] = some y10 ∧ DataW.trod enc Tryz.prog W 0 (fun _ => true) true n 25 [c11] = some y11 ∧ DataW.trod enc Tryz.prog W 0 (fun _ => true) true n 26 [c12] = some y12 ∧ DataW.trod enc Tryz.prog W 0 (fun _ => true) true n 26 [c13] = some y13 := by
  obtain ⟨cs, rfl, hsz⟩ := okWide_struct Tryz.underlying28 hv
  have hC : Tryz.prog.cellsOf 28 = 14 := by kernel_rfl
  obtain ⟨c0, c1, c2, c3, c4, c5, c6, c7, c8, c9, c10, c11, c12, c13, hcs⟩ := len14 (l := cs.toList) (by rw [Array.length_toList]; exact hsz.trans hC)
  obtain rfl : cs = #[c0, c1, c2, c3, c4, c5, c6, c7, c8, c9, c10, c11, c12, c13] := by cases cs; simp_all
  obtain ⟨fuel, hf⟩ := h
  obtain ⟨xs, n, _, hx, _, hlen, hff⟩ := DataW.trod_struct Tryz.underlying28 hf
  have hl14 : xs.length = 14 := hlen
  obtain ⟨y0, y1, y2, y3, y4, y5, y6, y7, y8, y9, y10, y11, y12, y13, rfl⟩ := len14 hl14
  have k0 : Tryz.prog.cellsOf 9 = 1 := by kernel_rfl
  have k1 : Tryz.prog.cellsOf 9 = 1 := by kernel_rfl
  have k2 : Tryz.prog.cellsOf 2 = 1 := by kernel_rfl
  have k3 : Tryz.prog.cellsOf 2 = 1 := by kernel_rfl
  have k4 : Tryz.prog.cellsOf 22 = 1 := by kernel_rfl
  have k5 : Tryz.prog.cellsOf 23 = 1 := by kernel_rfl
  have k6 : Tryz.prog.cellsOf 22 = 1 := by kernel_rfl
  have k7 : Tryz.prog.cellsOf 22 = 1 := by kernel_rfl
  have k8 : Tryz.prog.cellsOf 22 = 1 := by kernel_rfl
  have k9 : Tryz.prog.cellsOf 24 = 1 := by kernel_rfl
  have k10 : Tryz.prog.cellsOf 25 = 1 := by kernel_rfl
  have k11 : Tryz.prog.cellsOf 25 = 1 := by kernel_rfl
  have k12 : Tryz.prog.cellsOf 26 = 1 := by kernel_rfl
  have k13 : Tryz.prog.cellsOf 26 = 1 := by kernel_rfl
  have g0 : DataW.trod enc Tryz.prog W 0 (fun _ => true) true n 9 (List.take (Tryz.prog.cellsOf 9) [c0, c1, c2, c3, c4, c5, c6, c7, c8, c9, c10, c11, c12, c13]) = some y0 := hff 0 _ rfl
  rw [k0] at g0
  simp only [List.take_succ_cons, List.take_zero] at g0
  have g1 : DataW.trod enc Tryz.prog W 0 (fun _ => true) true n 9 (List.take (Tryz.prog.cellsOf 9) [c1, c2, c3, c4, c5, c6, c7, c8, c9, c10, c11, c12, c13]) = some y1 := hff 1 _ rfl
  rw [k1] at g1
  simp only [List.take_succ_cons, List.take_zero] at g1
  have g2 : DataW.trod enc Tryz.prog W 0 (fun _ => true) true n 2 (List.take (Tryz.prog.cellsOf 2) [c2, c3, c4, c5, c6, c7, c8, c9, c10, c11, c12, c13]) = some y2 := hff 2 _ rfl
  rw [k2] at g2
  simp only [List.take_succ_cons, List.take_zero] at g2
  have g3 : DataW.trod enc Tryz.prog W 0 (fun _ => true) true n 2 (List.take (Tryz.prog.cellsOf 2) [c3, c4, c5, c6, c7, c8, c9, c10, c11, c12, c13]) = some y3 := hff 3 _ rfl
  rw [k3] at g3
  simp only [List.take_succ_cons, List.take_zero] at g3
  have g4 : DataW.trod enc Tryz.prog W 0 (fun _ => true) true n 22 (List.take (Tryz.prog.cellsOf 22) [c4, c5, c6, c7, c8, c9, c10, c11, c12, c13]) = some y4 := hff 4 _ rfl
  rw [k4] at g4
  simp only [List.take_succ_cons, List.take_zero] at g4
  have g5 : DataW.trod enc Tryz.prog W 0 (fun _ => true) true n 23 (List.take (Tryz.prog.cellsOf 23) [c5, c6, c7, c8, c9, c10, c11, c12, c13]) = some y5 := hff 5 _ rfl
  rw [k5] at g5
  simp only [List.take_succ_cons, List.take_zero] at g5
  have g6 : DataW.trod enc Tryz.prog W 0 (fun _ => true) true n 22 (List.take (Tryz.prog.cellsOf 22) [c6, c7, c8, c9, c10, c11, c12, c13]) = some y6 := hff 6 _ rfl
  rw [k6] at g6
  simp only [List.take_succ_cons, List.take_zero] at g6
  have g7 : DataW.trod enc Tryz.prog W 0 (fun _ => true) true n 22 (List.take (Tryz.prog.cellsOf 22) [c7, c8, c9, c10, c11, c12, c13]) = some y7 := hff 7 _ rfl
  rw [k7] at g7
  simp only [List.take_succ_cons, List.take_zero] at g7
  have g8 : DataW.trod enc Tryz.prog W 0 (fun _ => true) true n 22 (List.take (Tryz.prog.cellsOf 22) [c8, c9, c10, c11, c12, c13]) = some y8 := hff 8 _ rfl
  rw [k8] at g8
  simp only [List.take_succ_cons, List.take_zero] at g8
  have g9 : DataW.trod enc Tryz.prog W 0 (fun _ => true) true n 24 (List.take (Tryz.prog.cellsOf 24) [c9, c10, c11, c12, c13]) = some y9 := hff 9 _ rfl
  rw [k9] at g9
  simp only [List.take_succ_cons, List.take_zero] at g9
  have g10 : DataW.trod enc Tryz.prog W 0 (fun _ => true) true n 25 (List.take (Tryz.prog.cellsOf 25) [c10, c11, c12, c13]) = some y10 := hff 10 _ rfl
  rw [k10] at g10
  simp only [List.take_succ_cons, List.take_zero] at g10
  have g11 : DataW.trod enc Tryz.prog W 0 (fun _ => true) true n 25 (List.take (Tryz.prog.cellsOf 25) [c11, c12, c13]) = some y11 := hff 11 _ rfl
  rw [k11] at g11
  simp only [List.take_succ_cons, List.take_zero] at g11
  have g12 : DataW.trod enc Tryz.prog W 0 (fun _ => true) true n 26 (List.take (Tryz.prog.cellsOf 26) [c12, c13]) = some y12 := hff 12 _ rfl
  rw [k12] at g12
  simp only [List.take_succ_cons, List.take_zero] at g12
  have g13 : DataW.trod enc Tryz.prog W 0 (fun _ => true) true n 26 (List.take (Tryz.prog.cellsOf 26) [c13]) = some y13 := hff 13 _ rfl
  rw [k13] at g13
  simp only [List.take_succ_cons, List.take_zero] at g13
  simp only [Prod.mk.injEq] at hx
  exact ⟨c0, c1, c2, c3, c4, c5, c6, c7, c8, c9, c10, c11, c12, c13, y0, y1, y2, y3, y4, y5, y6, y7, y8, y9, y10, y11, y12, y13, n, rfl, by rw [hx.1]; rfl, g0, g1, g2, g3, g4, g5, g6, g7, g8, g9, g10, g11, g12, g13⟩
theorem in_prog4 {H : Type} {d0 d1 d2 d3 d4 d5 d6 d7 d8 d9 d10 d11 d12 d13 : DataW H} {k : Nat} (hk : k ∈ (d4).weights Tryz.prog 22) : k ∈ (DataW.agg [d0, d1, d2, d3, d4, d5, d6, d7, d8, d9, d10, d11, d12, d13]).weights Tryz.prog 28 := by
  simp [DataW.weights, Tryz.underlying28, DataW.weightsEach, hk]
theorem in_prog5 {H : Type} {d0 d1 d2 d3 d4 d5 d6 d7 d8 d9 d10 d11 d12 d13 : DataW H} {k : Nat} (hk : k ∈ (d5).weights Tryz.prog 23) : k ∈ (DataW.agg [d0, d1, d2, d3, d4, d5, d6, d7, d8, d9, d10, d11, d12, d13]).weights Tryz.prog 28 := by
  simp [DataW.weights, Tryz.underlying28, DataW.weightsEach, hk]
theorem in_prog6 {H : Type} {d0 d1 d2 d3 d4 d5 d6 d7 d8 d9 d10 d11 d12 d13 : DataW H} {k : Nat} (hk : k ∈ (d6).weights Tryz.prog 22) : k ∈ (DataW.agg [d0, d1, d2, d3, d4, d5, d6, d7, d8, d9, d10, d11, d12, d13]).weights Tryz.prog 28 := by
  simp [DataW.weights, Tryz.underlying28, DataW.weightsEach, hk]
theorem in_prog7 {H : Type} {d0 d1 d2 d3 d4 d5 d6 d7 d8 d9 d10 d11 d12 d13 : DataW H} {k : Nat} (hk : k ∈ (d7).weights Tryz.prog 22) : k ∈ (DataW.agg [d0, d1, d2, d3, d4, d5, d6, d7, d8, d9, d10, d11, d12, d13]).weights Tryz.prog 28 := by
  simp [DataW.weights, Tryz.underlying28, DataW.weightsEach, hk]
theorem in_prog8 {H : Type} {d0 d1 d2 d3 d4 d5 d6 d7 d8 d9 d10 d11 d12 d13 : DataW H} {k : Nat} (hk : k ∈ (d8).weights Tryz.prog 22) : k ∈ (DataW.agg [d0, d1, d2, d3, d4, d5, d6, d7, d8, d9, d10, d11, d12, d13]).weights Tryz.prog 28 := by
  simp [DataW.weights, Tryz.underlying28, DataW.weightsEach, hk]
theorem in_prog9 {H : Type} {d0 d1 d2 d3 d4 d5 d6 d7 d8 d9 d10 d11 d12 d13 : DataW H} {k : Nat} (hk : k ∈ (d9).weights Tryz.prog 24) : k ∈ (DataW.agg [d0, d1, d2, d3, d4, d5, d6, d7, d8, d9, d10, d11, d12, d13]).weights Tryz.prog 28 := by
  simp [DataW.weights, Tryz.underlying28, DataW.weightsEach, hk]
theorem in_prog10 {H : Type} {d0 d1 d2 d3 d4 d5 d6 d7 d8 d9 d10 d11 d12 d13 : DataW H} {k : Nat} (hk : k ∈ (d10).weights Tryz.prog 25) : k ∈ (DataW.agg [d0, d1, d2, d3, d4, d5, d6, d7, d8, d9, d10, d11, d12, d13]).weights Tryz.prog 28 := by
  simp [DataW.weights, Tryz.underlying28, DataW.weightsEach, hk]
theorem in_prog11 {H : Type} {d0 d1 d2 d3 d4 d5 d6 d7 d8 d9 d10 d11 d12 d13 : DataW H} {k : Nat} (hk : k ∈ (d11).weights Tryz.prog 25) : k ∈ (DataW.agg [d0, d1, d2, d3, d4, d5, d6, d7, d8, d9, d10, d11, d12, d13]).weights Tryz.prog 28 := by
  simp [DataW.weights, Tryz.underlying28, DataW.weightsEach, hk]
theorem in_prog12 {H : Type} {d0 d1 d2 d3 d4 d5 d6 d7 d8 d9 d10 d11 d12 d13 : DataW H} {k : Nat} (hk : k ∈ (d12).weights Tryz.prog 26) : k ∈ (DataW.agg [d0, d1, d2, d3, d4, d5, d6, d7, d8, d9, d10, d11, d12, d13]).weights Tryz.prog 28 := by
  simp [DataW.weights, Tryz.underlying28, DataW.weightsEach, hk]
theorem in_prog13 {H : Type} {d0 d1 d2 d3 d4 d5 d6 d7 d8 d9 d10 d11 d12 d13 : DataW H} {k : Nat} (hk : k ∈ (d13).weights Tryz.prog 26) : k ∈ (DataW.agg [d0, d1, d2, d3, d4, d5, d6, d7, d8, d9, d10, d11, d12, d13]).weights Tryz.prog 28 := by
  simp [DataW.weights, Tryz.underlying28, DataW.weightsEach, hk]
end Go.Proofs.YtdfnomglkibfbaaGreatDoor.Vf

namespace Go.Proofs.YtdfnomglkibfbaaGreatDoor
open Go.ChangeShapes Go.WideShapes Go.ChangeAt Go.RowKit Go.Joins
set_option linter.unusedVariables false

theorem verifyPasses_own : ownKnob Tryz.prog.godebug = none := by kernel_rfl
theorem verifyPasses_laidOut : laidOutB Tryz.prog = true := by kernel_rfl
theorem verifyPasses_et : Tryz.prog.globalNamed "errors.errorType" = some 0 := by kernel_rfl
theorem verifyPasses_rt : (Tryz.prog.cutTypes.find? (·.1 == "internal/reflectlite.rtype")).map (·.2) = some 221 := by kernel_rfl
theorem verifyPasses_oneRow : ((List.range 337).filter fun t => Tryz.prog.rowNamed t [101, 114, 114, 111, 114]) = [32] := by kernel_rfl
theorem verifyPasses_size : Tryz.prog.types.size = 337 := by kernel_rfl
theorem verifyPasses_parts {W : World} (h : laidMetH Tryz.prog Rows.verifyPassesRow.laid W) : laidMet Tryz.prog [("unicode/utf8.acceptRanges", Rows.laid_unicode_utf8_acceptRanges), ("weir/verify.rows", Rows.laid_weir_verify_rows), ("unicode/utf8.first", Rows.laid_unicode_utf8_first)] W ∧ handlesMet Tryz.prog [("errors.errorType", Rows.laid_errors_errorType)] W := h
theorem verifyPasses_handle {W : World} (h : laidMetH Tryz.prog Rows.verifyPassesRow.laid W) : ET W := by
  obtain ⟨name, u, ty, e1, e2, e3, e4, e5⟩ := (verifyPasses_parts h).2 _ (List.mem_singleton.2 rfl)
  have en : name = [101, 114, 114, 111, 114] := (Option.some.inj e1).symm
  subst en
  obtain rfl := Option.some.inj (verifyPasses_rt.symm.trans e2)
  have hm : ty ∈ (List.range 337).filter fun t => Tryz.prog.rowNamed t [101, 114, 114, 111, 114] := List.mem_filter.2 ⟨List.mem_range.2 (by rw [← verifyPasses_size]; exact e3), e4⟩
  rw [verifyPasses_oneRow] at hm
  obtain rfl := List.mem_singleton.1 hm
  have hh : typeHandle Tryz.prog 32 = .pointer (some ⟨4, 32, none⟩) := by kernel_rfl
  rw [hh] at e5
  unfold ET
  simpa using World.var?_cell verifyPasses_et e5 0
theorem verifyPasses_x8 : U8Extra Tryz.prog Tryz.laysValid_ren := ⟨by kernel_rfl, by kernel_rfl, by kernel_rfl, by kernel_rfl, by kernel_rfl, by kernel_rfl, by kernel_rfl⟩
theorem verifyPasses_acc : (Rows.laid_unicode_utf8_acceptRanges : DataW Unit) = Lib.acceptData := by kernel_rfl
theorem verifyPasses_fst : (Rows.laid_unicode_utf8_first : DataW Unit) = Lib.firstData := Pinned.utf8First_eq
theorem verifyPasses_tabs {W : World} (h : laidMetH Tryz.prog Rows.verifyPassesRow.laid W) : UT W := by
  have h1 := (verifyPasses_parts h).1
  have r3 := Lib.laidMet.reads h1 (n := "unicode/utf8.first") (d := Rows.laid_unicode_utf8_first) (by simp)
  have r4 := Lib.laidMet.reads h1 (n := "unicode/utf8.acceptRanges") (d := Rows.laid_unicode_utf8_acceptRanges) (by simp)
  rw [verifyPasses_fst] at r3
  rw [verifyPasses_acc] at r4
  exact utf8Tabs_of_readsT (U8Types.of196 Tryz.laysValid) verifyPasses_x8 r3 r4
theorem verifyPasses_rows {W : World} (h : laidMetH Tryz.prog Rows.verifyPassesRow.laid W) : Vf.RT W := Vf.RT_of_reads (Lib.laidMet.reads (verifyPasses_parts h).1 (n := "weir/verify.rows") (d := Rows.laid_weir_verify_rows) (by simp))
noncomputable def verifyPasses_wit (os : Os) : World := (World.doorLaid Tryz.prog 400 os).layVars Tryz.prog [("unicode/utf8.first", Rows.laid_unicode_utf8_first)]
theorem verifyPasses_door (os : Os) (args : Array Value) : laidMetH Tryz.prog Rows.verifyPassesRow.laid ((verifyPasses_wit os).forCall (fun _ _ => 0) ⟨#[], args, []⟩).memory := by
  refine laidMetH_of_parts3 (fuel := 8) ?_ (by kernel_rfl) (by kernel_rfl)
  refine laidMet_layVars (w0 := World.doorLaid Tryz.prog 400 os) ["unicode/utf8.first"] [3, 1] (by kernel_rfl) (by kernel_rfl) (by kernel_rfl) ?_
  exact LaidIn.of_run _ 8 (by kernel_rfl) (by kernel_rfl) (by kernel_rfl) (by kernel_rfl)
set_option maxRecDepth 100000 in
theorem verifyPasses_lifted (os : Os) (started : os.Started) (H : Type) (enc : TypeId × Value → H) :
    ReturnsInHanded {} Tryz.checked os 3 .any (fun w args => (Rows.verifyPassesSpec.pre enc Tryz.prog Tryz.f3 [] false w args ∧ laidMetH Tryz.prog Rows.verifyPassesRow.laid w) ∧ sizedMet enc Tryz.prog Tryz.f3 (OpenSpec.ofChange Rows.verifyPassesSpec) false w args)
      (Rows.verifyPassesSpec.post enc Tryz.prog Tryz.f3 false true false false) := by
  refine returnsInHanded_of_change_and (C := Tryz.checked) (X := fun w _ => laidMetH Tryz.prog Rows.verifyPassesRow.laid w) (fun _ _ _ hh h => h.of_heap hh) verifyPasses_own started (by kernel_rfl) Tryz.func3
    (ChangeSpec.witness_shaped (enc := enc) (C := Tryz.checked) (os := os) (X := fun w _ => laidMetH Tryz.prog Rows.verifyPassesRow.laid w) false (verifyPasses_wit os) #[.agg #[.string ⟨#[]⟩, .string ⟨#[]⟩, .int .i64 0, .int .i64 0, .slice none 0 0, .slice none 0 0, .slice none 0 0, .slice none 0 0, .slice none 0 0, .slice none 0 0, .slice none 0 0, .slice none 0 0, .slice none 0 0, .slice none 0 0]] 8 (World.layVars_os _ _ _) (World.shaped_of_ZipB (by kernel_rfl) (by kernel_rfl)) (by kernel_rfl) (by kernel_rfl) (by kernel_rfl) (verifyPasses_door os _)) ?_
  intro W base args ds gs before hval0 hW _ hSz hL _
  have hval : ∀ (j : Nat) t v, Tryz.f3.params[j]? = some t → args[j]? = some v → Value.okWide Tryz.prog W .any base t v := hval0
  have hW' := hW
  obtain ⟨p, q, hA0, hV, rfl, hfz, hnd⟩ := hW
  have hA : DataW.TrodAll enc Tryz.prog W 0 (fun _ => true) true Tryz.f3.params.toList args.toList ds p := hA0
  rw [Tryz.params3] at hA hval
  obtain ⟨v0, vs0, d0, ds0, p0, q0, hargs, rfl, rfl, h0, r0⟩ := trodAll_cons hA
  obtain ⟨rfl, rfl, rfl⟩ := trodAll_nil r0
  obtain rfl : args = #[v0] := by cases args; simp_all
  obtain ⟨rfl, rfl⟩ := trodVars_none hV
  have k0 := h0
  have lt0 : ∀ x ∈ p0, x.block < W.heap.size := fun x hx => hW'.lt x (by simp [hx])
  obtain ⟨q0, q1, q2, q3, q4, q5, q6, q7, q8, q9, q10, q11, q12, q13, y0, y1, y2, y3, y4, y5, y6, y7, y8, y9, y10, y11, y12, y13, m0, rfl, rfl, g0, g1, g2, g3, g4, g5, g6, g7, g8, g9, g10, g11, g12, g13⟩ := Vf.prog_open (hval 0 28 v0 rfl rfl) h0
  have hS : ∀ k ∈ (DataW.agg [y0.1, y1.1, y2.1, y3.1, y4.1, y5.1, y6.1, y7.1, y8.1, y9.1, y10.1, y11.1, y12.1, y13.1] : DataW H).weights Tryz.prog 28, k ≤ reachBytes := fun k hk => by simpa using List.all_eq_true.1 hSz k (DataW.weights_mem_each (j := 0) (by kernel_rfl) rfl k hk)
  obtain ⟨s0, e0, _⟩ := DataW.trod_string Tryz.underlying9 g0
  obtain ⟨s1, e1, _⟩ := DataW.trod_string Tryz.underlying9 g1
  obtain ⟨i2, e2, _⟩ := DataW.trod_int Tryz.underlying2 g2
  obtain ⟨i3, e3, _⟩ := DataW.trod_int Tryz.underlying2 g3
  simp at e0 e1 e2 e3
  subst e0 e1 e2 e3
  obtain ⟨a4, l4, c4, rfl, in4, n4⟩ := Vf.strs_read g4 (fun k hk => hS k (Vf.in_prog4 hk))
  obtain ⟨a5, l5, c5, rfl, in5, n5⟩ := Vf.accs_read g5 (fun k hk => hS k (Vf.in_prog5 hk))
  obtain ⟨a6, l6, c6, rfl, in6, n6⟩ := Vf.strs_read g6 (fun k hk => hS k (Vf.in_prog6 hk))
  obtain ⟨a7, l7, c7, rfl, in7, n7⟩ := Vf.strs_read g7 (fun k hk => hS k (Vf.in_prog7 hk))
  obtain ⟨a8, l8, c8, rfl, in8, n8⟩ := Vf.strs_read g8 (fun k hk => hS k (Vf.in_prog8 hk))
  obtain ⟨a9, l9, c9, rfl, in9, n9⟩ := Vf.lists_read g9 (fun k hk => hS k (Vf.in_prog9 hk))
  obtain ⟨a12, l12, c12, rfl, in12, n12, cb12⟩ := Vf.ins_read g12 (fun k hk => hS k (Vf.in_prog12 hk))
  obtain ⟨a13, l13, c13, rfl, in13, n13, cb13⟩ := Vf.ins_read g13 (fun k hk => hS k (Vf.in_prog13 hk))
  obtain ⟨a10, l10, c10, rfl⟩ := Vf.ints_any g10
  obtain ⟨a11, l11, c11, rfl⟩ := Vf.ints_any g11
  clear hA0 hval0
  have hU : UT W := verifyPasses_tabs hL
  have hE : ET W := verifyPasses_handle hL
  have hR : Vf.RT W := verifyPasses_rows hL
  refine (Vf.verifyPasses_walk ⟨s0, s1, i2, i3, ⟨a4, l4.length, c4⟩, ⟨a5, l5.length, c5⟩, ⟨a6, l6.length, c6⟩, ⟨a7, l7.length, c7⟩, ⟨a8, l8.length, c8⟩, ⟨a9, l9.length, c9⟩, ⟨a10, l10, c10⟩, ⟨a11, l11, c11⟩, ⟨a12, l12.length, c12⟩, ⟨a13, l13.length, c13⟩⟩ ⟨l4, l5, l6, l7, l8, l9, l12, l13⟩ ⟨rfl, rfl, rfl, rfl, rfl, rfl, rfl, rfl, n4, n5, n6, n7, n8, n9, n12, n13⟩ cb12 cb13 W hU hR hE ⟨in4, in5, in6, in7, in8, in9, in12, in13⟩).mono fun e W' ⟨he, hg⟩ => ?_
  subst he
  exact ⟨_, rfl, _, _, _, [], (p0 ++ []), [], hW', trodAll_cons_mk (shut_bool Tryz.underlying4 _) trodAll_mk0, (trodAll_cons_mk (Below.trod verifyPasses_laidOut (by kernel_rfl) (of_decide_eq_true (by kernel_rfl)) k0 hg lt0) trodAll_mk0), rfl, hg.frame _, fun h => by cases h⟩

theorem verifyPasses_row : Rows.VerifyPassesSaid :=
  OpenClaim.holds_of_wide 3 Tryz.f3 rfl rfl rfl rfl rfl rfl rfl ⟨rfl, rfl, rfl, rfl, rfl⟩ rfl rfl rfl rfl rfl (by kernel_rfl) Tryz.func3 (by kernel_rfl)
    (of_decide_eq_true (by kernel_rfl)) (by unfold Func.isWrapper; first | (rw [if_pos (by decide +kernel)]; kernel_rfl) | (rw [if_neg (by decide +kernel)]; exact ⟨rfl, rfl⟩))
    (fun os started H enc _ => verifyPasses_lifted os started H enc)

theorem verifyPasses_holds : Rows.VerifyPassesCardSaid :=
  Claim7.holds_tied_plain_at .later [] [.data, .handle, .data, .pinned] true Rows.verifyPassesCard.stood.harness true
    verifyPasses_row (fun _ h => by cases h) (by kernel_rfl) (fun _ h => by cases h) verifyPasses_row_tie rfl ⟨rfl, rfl⟩ (by kernel_rfl) rfl
    (fun f fn hf hfn => by
      obtain rfl : f = 3 := Option.some.inj ((show Tryz.prog.funcNamed Rows.verifyPassesRow.func = some 3 by kernel_rfl).symm.trans hf) |>.symm
      obtain rfl : fn = Tryz.f3 := (Option.some.inj (Tryz.func3.symm.trans hfn)).symm
      exact ⟨by kernel_rfl, fun j t ht => by
        rw [Tryz.params3] at ht
        have hm : t ∈ [28] := by simpa using Array.mem_of_getElem? ht
        have hall : ([28].all fun u => !Tryz.prog.wantsStandIn u) = true := by kernel_rfl
        exact (show Tryz.prog.wantsStandIn t = false by simpa using List.all_eq_true.1 hall t hm)⟩)
    (by kernel_rfl)
#print axioms verifyPasses_holds
end Go.Proofs.YtdfnomglkibfbaaGreatDoor

