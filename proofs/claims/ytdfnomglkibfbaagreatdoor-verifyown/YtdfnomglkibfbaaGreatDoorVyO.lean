
import Derived.Test.YtdfnomglkibfbaaGreatDoorVzC
import Derived.Test.YtdfnomglkibfbaaGreatDoorVyE
import Derived.BigQuiet
import Derived.Test.YtdfnomglkibfbaaGreatDoorVzA
import Derived.Test.YtdfnomglkibfbaaGreatDoorVgI
import Derived.Test.YtdfnomglkibfbaaGreatDoorVgJq
import Derived.Test.YtdfnomglkibfbaaGreatDoorVgKq
import Derived.Test.YtdfnomglkibfbaaGreatDoorProg
import Derived.Deep.AppendLies
import Derived.ProofKit
import Derived.OpenShut
import Derived.WalkSmall
import Derived.WalkKit
import Derived.Below
import Derived.Laws.IdiomCopy
import Derived.Test.YtdfnomglkibfbaaGreatDoorVyD
import Derived.Deep.RegionHeld3
import Derived.Laws.StructEq
import Derived.Test.YtdfnomglkibfbaaGreatDoorRows
import Derived.Test.YtdfnomglkibfbaaGreatDoorCards
import Derived.Test.YtdfnomglkibfbaaGreatDoorTie
import Derived.LaidMore
import Derived.LaidHandle
import Derived.Carry
import Derived.Lib.SmallJoins
import Derived.Stop.Joined
import Derived.SevenTiedAt
import Derived.PinnedBridge
import Derived.Lay
import Derived.Lib.LaidU8T
import Derived.Lib.LaidIn
namespace Go.Proofs.YtdfnomglkibfbaaGreatDoor.Vf
open Go.RowKit
set_option linter.unusedVariables false
set_option linter.unusedSimpArgs false
set_option maxRecDepth 100000
/-- what Heights tells. -/
def HeightsR (w : World) (p : PrH) (q : PrL) (r : Option (Int × Option Int)) (e : Ending) (w' : World) : Prop := match r with
  | some x => e = .returned (.tuple #[.slice none 0 0, errV (some x)])
  | none => ∃ b1, w.heap.size ≤ b1 ∧ e = .returned (.tuple #[.slice (some ⟨b1, 0, none⟩) p.filter.n p.filter.n, .nilIface]) ∧ RI w' b1 p.filter.n (fun j => .int .i64 ((hgtP q.filter 0 m0 []).1.getD j 0))
set_option maxHeartbeats 4000000 in
theorem Heights_any (p : PrH) (q : PrL) (hN : PrN p q) (hcf : ∀ (j : Nat) (t : InP), q.filter[j]? = some t → t.c < 256) (hco : ∀ (j : Nat) (t : InP), q.output[j]? = some t → t.c < 256) (w : World) (hT : UT w) (hR : RT w) (h : PrIn w p q) : Calls Tryz.prog 12 #[p.v] w fun e w' => HeightsR w p q (resP p q) e w' ∧ Below w.heap.size w w' := by
  have b1 : Below w.heap.size w (w.alloc (.cells p.cells 28)) := (Below.refl _ w).alloc (Nat.le_refl _) _
  have c0 := (climbed_any p q hN hcf hco _ (hT.below b1 (Nat.le_refl _)) (hR.below b1 hR.lt) (h.below b1 (Nat.le_refl _)))
  cases hr : resP p q with
  | some x =>
    have c1 : Hid (Calls Tryz.prog 27 #[p.v] (w.alloc (.cells p.cells 28)) fun e w' => e = .returned (.tuple #[.slice none 0 0, .slice none 0 0, errV (some x)]) ∧ Below w.heap.size w w') := c0.mono (fun e w' hh => by
      refine ⟨?_, b1.trans (hh.2.mono b1.size)⟩
      have h1 := hh.1
      unfold ClR at h1
      rw [hr] at h1
      exact h1)
    unfold HeightsR
    dsimp only
    clear c0 hT hR h b1 hN hcf hco hr
    generalize errV (some x) = ve at *
    unfold PrH.v PrH.cells at c1
    unfold PrH.v
    go_enter Tryz.func12, Tryz.ntmps12
    go_wp2_with fail
    with_reducible refine Calls.mono c1.out ?_
    rintro e w' ⟨rfl, bb⟩
    clear c1
    go_wp2_with fail
    go_returns
    exact ⟨rfl, bb⟩
  | none =>
    have c1 : Hid (Calls Tryz.prog 27 #[p.v] (w.alloc (.cells p.cells 28)) fun e w' => (∃ g o1 n1 k1 o2 n2 k2, e = .returned (.tuple #[.slice o1 n1 k1, .slice o2 n2 k2, .nilIface]) ∧ (.slice (some ⟨g, 0, none⟩) p.filter.n p.filter.n : Value) = .slice o1 n1 k1 ∧ w.heap.size ≤ g ∧ Hid (RI w' g p.filter.n (fun j => .int .i64 ((hgtP q.filter 0 m0 []).1.getD j 0)))) ∧ Below w.heap.size w w') := c0.mono (fun e w' hh => by
      refine ⟨?_, b1.trans (hh.2.mono b1.size)⟩
      have h1 := hh.1
      unfold ClR at h1
      rw [hr] at h1
      obtain ⟨g1, g2, l1, l2, h2, h3, h4⟩ := h1
      exact ⟨g1, _, _, _, _, _, _, h2, rfl, Nat.le_trans b1.size l1, h3⟩)
    unfold HeightsR
    dsimp only
    clear c0 hT hR h b1 hN hcf hco hr
    unfold PrH.v PrH.cells at c1
    unfold PrH.v
    go_enter Tryz.func12, Tryz.ntmps12
    go_wp2_with fail
    with_reducible refine Calls.mono c1.out ?_
    rintro e w' ⟨⟨g, o1, n1, k1, o2, n2, k2, rfl, ev, hl, hrw⟩, bb⟩
    clear c1
    go_wp2_with fail
    go_returns
    exact ⟨⟨g, hl, rfl, hrw.out⟩, bb⟩
/-- what Rises tells. -/
def RisesR (w : World) (p : PrH) (q : PrL) (r : Option (Int × Option Int)) (e : Ending) (w' : World) : Prop := match r with
  | some x => e = .returned (.tuple #[.slice none 0 0, errV (some x)])
  | none => ∃ b1, w.heap.size ≤ b1 ∧ e = .returned (.tuple #[.slice (some ⟨b1, 0, none⟩) p.output.n p.output.n, .nilIface]) ∧ RI w' b1 p.output.n (fun j => .int .i64 ((hgtP q.output 0 m0 []).1.getD j 0))
set_option maxHeartbeats 4000000 in
theorem Rises_any (p : PrH) (q : PrL) (hN : PrN p q) (hcf : ∀ (j : Nat) (t : InP), q.filter[j]? = some t → t.c < 256) (hco : ∀ (j : Nat) (t : InP), q.output[j]? = some t → t.c < 256) (w : World) (hT : UT w) (hR : RT w) (h : PrIn w p q) : Calls Tryz.prog 14 #[p.v] w fun e w' => RisesR w p q (resP p q) e w' ∧ Below w.heap.size w w' := by
  have b1 : Below w.heap.size w (w.alloc (.cells p.cells 28)) := (Below.refl _ w).alloc (Nat.le_refl _) _
  have c0 := (climbed_any p q hN hcf hco _ (hT.below b1 (Nat.le_refl _)) (hR.below b1 hR.lt) (h.below b1 (Nat.le_refl _)))
  cases hr : resP p q with
  | some x =>
    have c1 : Hid (Calls Tryz.prog 27 #[p.v] (w.alloc (.cells p.cells 28)) fun e w' => e = .returned (.tuple #[.slice none 0 0, .slice none 0 0, errV (some x)]) ∧ Below w.heap.size w w') := c0.mono (fun e w' hh => by
      refine ⟨?_, b1.trans (hh.2.mono b1.size)⟩
      have h1 := hh.1
      unfold ClR at h1
      rw [hr] at h1
      exact h1)
    unfold RisesR
    dsimp only
    clear c0 hT hR h b1 hN hcf hco hr
    generalize errV (some x) = ve at *
    unfold PrH.v PrH.cells at c1
    unfold PrH.v
    go_enter Tryz.func14, Tryz.ntmps14
    go_wp2_with fail
    with_reducible refine Calls.mono c1.out ?_
    rintro e w' ⟨rfl, bb⟩
    clear c1
    go_wp2_with fail
    go_returns
    exact ⟨rfl, bb⟩
  | none =>
    have c1 : Hid (Calls Tryz.prog 27 #[p.v] (w.alloc (.cells p.cells 28)) fun e w' => (∃ g o1 n1 k1 o2 n2 k2, e = .returned (.tuple #[.slice o1 n1 k1, .slice o2 n2 k2, .nilIface]) ∧ (.slice (some ⟨g, 0, none⟩) p.output.n p.output.n : Value) = .slice o2 n2 k2 ∧ w.heap.size ≤ g ∧ Hid (RI w' g p.output.n (fun j => .int .i64 ((hgtP q.output 0 m0 []).1.getD j 0)))) ∧ Below w.heap.size w w') := c0.mono (fun e w' hh => by
      refine ⟨?_, b1.trans (hh.2.mono b1.size)⟩
      have h1 := hh.1
      unfold ClR at h1
      rw [hr] at h1
      obtain ⟨g1, g2, l1, l2, h2, h3, h4⟩ := h1
      exact ⟨g2, _, _, _, _, _, _, h2, rfl, Nat.le_trans b1.size l2, h4⟩)
    unfold RisesR
    dsimp only
    clear c0 hT hR h b1 hN hcf hco hr
    unfold PrH.v PrH.cells at c1
    unfold PrH.v
    go_enter Tryz.func14, Tryz.ntmps14
    go_wp2_with fail
    with_reducible refine Calls.mono c1.out ?_
    rintro e w' ⟨⟨g, o1, n1, k1, o2, n2, k2, rfl, ev, hl, hrw⟩, bb⟩
    clear c1
    go_wp2_with fail
    go_returns
    exact ⟨⟨g, hl, rfl, hrw.out⟩, bb⟩
/-- what Bound tells. -/
def BoundR (p : PrH) (r : Option (Int × Option Int)) (e : Ending) : Prop := match r with
  | some x => e = .returned (.tuple #[.int .i64 0, .int .i64 0, errV (some x)])
  | none => e = .returned (.tuple #[.int .i64 (p.filter.n : Int), .int .i64 (p.output.n : Int), .nilIface])
set_option maxHeartbeats 4000000 in
theorem Bound_any (p : PrH) (q : PrL) (hN : PrN p q) (hcf : ∀ (j : Nat) (t : InP), q.filter[j]? = some t → t.c < 256) (hco : ∀ (j : Nat) (t : InP), q.output[j]? = some t → t.c < 256) (w : World) (hT : UT w) (hR : RT w) (h : PrIn w p q) : Calls Tryz.prog 17 #[p.v] w fun e w' => BoundR p (resP p q) e ∧ Below w.heap.size w w' := by
  have cP : Hid (∀ W, EH w p W → Calls Tryz.prog 10 #[.agg #[.string p.from_, .string p.into, .int .i64 p.every, .int .i64 p.offset, .slice p.groups.a p.groups.n p.groups.c, .slice p.accs.a p.accs.n p.accs.c, .slice p.alias.a p.alias.n p.alias.c, .slice p.names.a p.names.n p.names.c, .slice p.texts.a p.texts.n p.texts.c, .slice p.lists.a p.lists.n p.lists.c, .slice p.times.a p.times.n p.times.c, .slice p.ints.a p.ints.n p.ints.c, .slice p.filter.a p.filter.n p.filter.c, .slice p.output.a p.output.n p.output.c]] W fun e w' => e = .returned (errV (resP p q)) ∧ EH w p w') := fun W hW => (program_any p q hN hcf hco W (hT.below hW.1 (Nat.le_refl _)) (hR.below hW.1 hR.lt) (h.below hW.1 (Nat.le_refl _))).mono (fun e w' hh => ⟨hh.1, hW.below hh.2⟩)
  have E0 : Hid (EH w p (w.alloc (.cells p.cells 28))) := EH.new w p
  clear hT hR h hN hcf hco
  unfold BoundR
  cases hr : resP p q with
  | some x =>
    rw [hr] at cP
    dsimp only
    clear hr
    obtain ⟨xc, xp⟩ := x
    cases xp with
    | none =>
      unfold errV at cP
      unfold errV
      unfold PrH.cells at E0
      unfold PrH.v
      go_enter Tryz.func17, Tryz.ntmps17
      go_wp2_with fail
      generalize World.alloc w _ = W1 at E0 ⊢
      with_reducible refine Calls.mono (cP.out _ E0.out) ?_
      rintro e w2 ⟨rfl, e2⟩
      clear cP E0
      have e2H : Hid (EH w p w2) := e2
      clear e2
      go_wp2_with fail
      go_returns
      exact ⟨rfl, e2H.out.1⟩
    | some xp =>
      unfold errV atE at cP
      unfold errV atE
      unfold PrH.cells at E0
      unfold PrH.v
      go_enter Tryz.func17, Tryz.ntmps17
      go_wp2_with fail
      generalize World.alloc w _ = W1 at E0 ⊢
      with_reducible refine Calls.mono (cP.out _ E0.out) ?_
      rintro e w2 ⟨rfl, e2⟩
      clear cP E0
      have e2H : Hid (EH w p w2) := e2
      clear e2
      go_wp2_with fail
      go_returns
      exact ⟨rfl, e2H.out.1⟩
  | none =>
    rw [hr] at cP
    dsimp only
    unfold errV at cP
    clear hr
    unfold PrH.cells at E0
    unfold PrH.v
    go_enter Tryz.func17, Tryz.ntmps17
    go_wp2_with fail
    generalize World.alloc w _ = W1 at E0 ⊢
    with_reducible refine Calls.mono (cP.out _ E0.out) ?_
    rintro e w2 ⟨rfl, e2⟩
    clear cP E0
    obtain ⟨zp, y0, y1, y2, y3, y4, y5, y6, y7, y8, y9, y10, y11, y12, y13⟩ := e2.2
    have fin : Hid (Below w.heap.size w w2) := e2.1
    clear e2 y0 y1 y2 y3 y4 y5 y6 y7 y8 y9 y10 y11
    go_wp2_with fail
    go_quiet (fail)
    go_wp2_with fail
    go_returns
    exact ⟨rfl, bl_drewN fin.out nq⟩
/-- what Dead tells. -/
def DeadR (w : World) (q : PrL) (r : Option (Int × Option Int)) (e : Ending) (w' : World) : Prop := match r with
  | some x => e = .returned (.tuple #[.slice none 0 0, errV (some x)])
  | none => ∃ v, e = .returned (.tuple #[v, .nilIface]) ∧ I6.OE w' w.heap.size v (nat2 (deadL q.filter))
set_option maxHeartbeats 4000000 in
theorem Dead_any (p : PrH) (q : PrL) (hN : PrN p q) (hcf : ∀ (j : Nat) (t : InP), q.filter[j]? = some t → t.c < 256) (hco : ∀ (j : Nat) (t : InP), q.output[j]? = some t → t.c < 256) (w : World) (hT : UT w) (hR : RT w) (h : PrIn w p q) : Calls Tryz.prog 19 #[p.v] w fun e w' => DeadR w q (resP p q) e w' ∧ Below w.heap.size w w' := by
  have cP : Hid (∀ W, EH w p W → Calls Tryz.prog 10 #[.agg #[.string p.from_, .string p.into, .int .i64 p.every, .int .i64 p.offset, .slice p.groups.a p.groups.n p.groups.c, .slice p.accs.a p.accs.n p.accs.c, .slice p.alias.a p.alias.n p.alias.c, .slice p.names.a p.names.n p.names.c, .slice p.texts.a p.texts.n p.texts.c, .slice p.lists.a p.lists.n p.lists.c, .slice p.times.a p.times.n p.times.c, .slice p.ints.a p.ints.n p.ints.c, .slice p.filter.a p.filter.n p.filter.c, .slice p.output.a p.output.n p.output.c]] W fun e w' => e = .returned (errV (resP p q)) ∧ EH w p w') := fun W hW => (program_any p q hN hcf hco W (hT.below hW.1 (Nat.le_refl _)) (hR.below hW.1 hR.lt) (h.below hW.1 (Nat.le_refl _))).mono (fun e w' hh => ⟨hh.1, hW.below hh.2⟩)
  have E0 : Hid (EH w p (w.alloc (.cells p.cells 28))) := EH.new w p
  have cD : Hid (resP p q = none → ∀ W, EH w p W → Calls Tryz.prog 33 #[.slice p.filter.a p.filter.n p.filter.c] W fun e w' => ∃ v, e = .returned v ∧ I6.OE w' w.heap.size v (nat2 (deadL q.filter)) ∧ Below w.heap.size w w') := fun hr W hW => by
    have ps := pas_of hr
    have := dead_any q.filter _ ps.hok ps.fil ps.jmp hcf p.filter.a p.filter.c (ps.len hN) W (hR.below hW.1 hR.lt) (h.below hW.1 (Nat.le_refl _)).filter
    rw [← hN.filter] at this
    exact this.mono (fun e w' ⟨v, h1, h2, h3⟩ => ⟨v, h1, h2.mono hW.1.size, hW.1.trans (h3.mono hW.1.size)⟩)
  clear hT hR h hN hcf hco
  unfold DeadR
  cases hr : resP p q with
  | some x =>
    rw [hr] at cP
    dsimp only
    clear hr
    obtain ⟨xc, xp⟩ := x
    cases xp with
    | none =>
      unfold errV at cP
      unfold errV
      unfold PrH.cells at E0
      unfold PrH.v
      go_enter Tryz.func19, Tryz.ntmps19
      go_wp2_with fail
      generalize World.alloc w _ = W1 at E0 ⊢
      with_reducible refine Calls.mono (cP.out _ E0.out) ?_
      rintro e w2 ⟨rfl, e2⟩
      clear cP E0
      have e2H : Hid (EH w p w2) := e2
      clear e2
      go_wp2_with fail
      go_returns
      exact ⟨rfl, e2H.out.1⟩
    | some xp =>
      unfold errV atE at cP
      unfold errV atE
      unfold PrH.cells at E0
      unfold PrH.v
      go_enter Tryz.func19, Tryz.ntmps19
      go_wp2_with fail
      generalize World.alloc w _ = W1 at E0 ⊢
      with_reducible refine Calls.mono (cP.out _ E0.out) ?_
      rintro e w2 ⟨rfl, e2⟩
      clear cP E0
      have e2H : Hid (EH w p w2) := e2
      clear e2
      go_wp2_with fail
      go_returns
      exact ⟨rfl, e2H.out.1⟩
  | none =>
    have cE : Hid (∀ W, EH w p W → Calls Tryz.prog 33 #[.slice p.filter.a p.filter.n p.filter.c] W fun e w' => ∃ v, e = .returned v ∧ I6.OE w' w.heap.size v (nat2 (deadL q.filter)) ∧ Below w.heap.size w w') := cD.out hr
    rw [hr] at cP
    dsimp only
    unfold errV at cP
    clear hr cD
    unfold PrH.cells at E0
    unfold PrH.v
    go_enter Tryz.func19, Tryz.ntmps19
    go_wp2_with fail
    generalize World.alloc w _ = W1 at E0 ⊢
    with_reducible refine Calls.mono (cP.out _ E0.out) ?_
    rintro e w2 ⟨rfl, e2⟩
    clear cP E0
    obtain ⟨zp, y0, y1, y2, y3, y4, y5, y6, y7, y8, y9, y10, y11, y12, y13⟩ := e2.2
    have e2H : Hid (EH w p w2) := e2
    clear e2 y0 y1 y2 y3 y4 y5 y6 y7 y8 y9 y10 y11
    go_wp2_with fail
    with_reducible refine Calls.mono (cE.out _ e2H.out) ?_
    rintro e w3 ⟨v, rfl, o3, b3⟩
    have fin : Hid (I6.OE w3 w.heap.size v (nat2 (deadL q.filter)) ∧ Below w.heap.size w w3) := ⟨o3, b3⟩
    clear cE o3 b3 e2H
    go_wp2_with fail
    go_returns
    exact ⟨⟨_, rfl, fin.out.1⟩, fin.out.2⟩
end Go.Proofs.YtdfnomglkibfbaaGreatDoor.Vf

namespace Go.Proofs.YtdfnomglkibfbaaGreatDoor.Vf
open Go.RowKit
set_option linter.unusedVariables false
set_option linter.unusedSimpArgs false
set_option maxRecDepth 100000
theorem hd_len2 {p : PrH} {q : PrL} (hN : PrN p q) (h : hdB p q = true) : p.filter.n ≤ 65536 ∧ p.output.n ≤ 65536 ∧ p.alias.n ≤ 65536 := by
  unfold hdB at h
  simp only [Bool.and_eq_true, decide_eq_true_eq] at h
  have h1 := hN.filter
  have h2 := hN.output
  have h3 := hN.alias
  omega
set_option maxHeartbeats 16000000 in
theorem refProgram_any (p : PrH) (q : PrL) (hN : PrN p q) (w : World) (h : PrIn w p q) : Calls Tryz.prog 11 #[p.v] w fun e w' => e = .returned (badR (resD p q)) ∧ Below w.heap.size w w' := by
  have hIH : Hid (∀ W, EW w p W → PrIn W p q) := fun W hW => h.below hW.1 (Nat.le_refl _)
  have cH0 : ∀ W, EW w p W → Calls Tryz.prog 28 #[.agg #[.string p.from_, .string p.into, .int .i64 p.every, .int .i64 p.offset, .slice p.groups.a p.groups.n p.groups.c, .slice p.accs.a p.accs.n p.accs.c, .slice p.alias.a p.alias.n p.alias.c, .slice p.names.a p.names.n p.names.c, .slice p.texts.a p.texts.n p.texts.c, .slice p.lists.a p.lists.n p.lists.c, .slice p.times.a p.times.n p.times.c, .slice p.ints.a p.ints.n p.ints.c, .slice p.filter.a p.filter.n p.filter.c, .slice p.output.a p.output.n p.output.c]] W fun e w' => e = .returned (.bool (hdB p q)) ∧ Below W.heap.size W w' := fun W hW => head_any p q hN W (hIH.out W hW)
  have cE10 : hdB p q = true → ∀ W, EW w p W → Calls Tryz.prog 30 #[.agg #[.string p.from_, .string p.into, .int .i64 p.every, .int .i64 p.offset, .slice p.groups.a p.groups.n p.groups.c, .slice p.accs.a p.accs.n p.accs.c, .slice p.alias.a p.alias.n p.alias.c, .slice p.names.a p.names.n p.names.c, .slice p.texts.a p.texts.n p.texts.c, .slice p.lists.a p.lists.n p.lists.c, .slice p.times.a p.times.n p.times.c, .slice p.ints.a p.ints.n p.ints.c, .slice p.filter.a p.filter.n p.filter.c, .slice p.output.a p.output.n p.output.c], .slice p.filter.a p.filter.n p.filter.c, .int .i64 0, .int .u8 13] W fun e w' => e = .returned (bdO 0 (eachD p.sz true q.accs q.filter)) ∧ Below W.heap.size W w' := fun hd W hW => by
    have := each_f p q.accs hN.accs q.filter p.filter.a p.filter.c hN.filter1 0 (by omega) W (hIH.out W hW).accs (hIH.out W hW).filter
    rw [← hN.filter] at this
    exact this
  have cE20 : hdB p q = true → ∀ W, EW w p W → Calls Tryz.prog 30 #[.agg #[.string p.from_, .string p.into, .int .i64 p.every, .int .i64 p.offset, .slice p.groups.a p.groups.n p.groups.c, .slice p.accs.a p.accs.n p.accs.c, .slice p.alias.a p.alias.n p.alias.c, .slice p.names.a p.names.n p.names.c, .slice p.texts.a p.texts.n p.texts.c, .slice p.lists.a p.lists.n p.lists.c, .slice p.times.a p.times.n p.times.c, .slice p.ints.a p.ints.n p.ints.c, .slice p.filter.a p.filter.n p.filter.c, .slice p.output.a p.output.n p.output.c], .slice p.output.a p.output.n p.output.c, .int .i64 (p.filter.n : Int), .int .u8 24] W fun e w' => e = .returned (bdO p.filter.n (eachD p.sz false q.accs q.output)) ∧ Below W.heap.size W w' := fun hd W hW => by
    have hl := hd_len2 hN hd
    have := each_o p q.accs hN.accs q.output p.output.a p.output.c hN.output1 p.filter.n (by omega) W (hIH.out W hW).accs (hIH.out W hW).output
    rw [← hN.output] at this
    exact this
  have cH10 : hdB p q = true → eachD p.sz true q.accs q.filter = none → ∀ W, EW w p W → Calls Tryz.prog 31 #[.slice p.filter.a p.filter.n p.filter.c, .int .i64 0] W fun e w' => HtR W p.filter.n 0 (hgtD q.filter 0 s0) e w' ∧ Below W.heap.size W w' := fun hd he W hW => by
    have hl := hd_len2 hN hd
    rw [← each_same] at he
    have e1 := hN.filter
    have := dheights_any q.filter (fmd_of he) p.filter.a p.filter.c (by omega) 0 (by omega) W (hIH.out W hW).filter
    rw [← e1] at this
    exact this
  have cH20 : hdB p q = true → eachD p.sz false q.accs q.output = none → ∀ W, EW w p W → Calls Tryz.prog 31 #[.slice p.output.a p.output.n p.output.c, .int .i64 (p.filter.n : Int)] W fun e w' => HtR W p.output.n p.filter.n (hgtD q.output 0 s0) e w' ∧ Below W.heap.size W w' := fun hd he W hW => by
    have hl := hd_len2 hN hd
    rw [← each_same] at he
    have e1 := hN.output
    have := dheights_any q.output (fmd_of he) p.output.a p.output.c (by omega) p.filter.n (by omega) W (hIH.out W hW).output
    rw [← e1] at this
    exact this
  have cM0 : hdB p q = true → ∀ W, EW w p W → Calls Tryz.prog 32 #[.agg #[.string p.from_, .string p.into, .int .i64 p.every, .int .i64 p.offset, .slice p.groups.a p.groups.n p.groups.c, .slice p.accs.a p.accs.n p.accs.c, .slice p.alias.a p.alias.n p.alias.c, .slice p.names.a p.names.n p.names.c, .slice p.texts.a p.texts.n p.texts.c, .slice p.lists.a p.lists.n p.lists.c, .slice p.times.a p.times.n p.times.c, .slice p.ints.a p.ints.n p.ints.c, .slice p.filter.a p.filter.n p.filter.c, .slice p.output.a p.output.n p.output.c]] W fun e w' => e = .returned (.bool (emitB p.alias.n q.output)) ∧ Below W.heap.size W w' := fun hd W hW => by
    have hl := hd_len2 hN hd
    exact emitted_any p q.output hN.output hN.output1 (by omega) W (hIH.out W hW).output
  have RES : Hid (resD p q = resOf (hdB p q) (eachD p.sz true q.accs q.filter) (eachD p.sz false q.accs q.output) (hgtD q.filter 0 s0).2 (hgtD q.output 0 s0).2 p.filter.n (emitB p.alias.n q.output)) := rfl
  have ne1 : Hid (∀ k e, eachD p.sz true q.accs q.filter = some (k, e) → e ≠ 0) := fun k e h => eachD_ne h
  have ne2 : Hid (∀ k e, eachD p.sz false q.accs q.output = some (k, e) → e ≠ 0) := fun k e h => eachD_ne h
  obtain ⟨⟨g1, r1⟩, hG1⟩ : ∃ G, hgtD q.filter 0 s0 = G := ⟨_, rfl⟩
  obtain ⟨⟨g2, r2⟩, hG2⟩ : ∃ G, hgtD q.output 0 s0 = G := ⟨_, rfl⟩
  rw [hG1] at cH10 RES
  rw [hG2] at cH20 RES
  generalize resD p q = r at *
  generalize hdB p q = hd at *
  generalize eachD p.sz true q.accs q.filter = E1 at *
  generalize eachD p.sz false q.accs q.output = E2 at *
  generalize emitB p.alias.n q.output = em at *
  clear hG1 hG2 h hN hIH
  obtain ⟨V, hV⟩ : ∃ V, badR r = V := ⟨_, rfl⟩
  have VV0 : Hid (badR r = V) := hV
  rw [hV]
  clear hV
  have cH : Hid (∀ W, EW w p W → Calls Tryz.prog 28 #[.agg #[.string p.from_, .string p.into, .int .i64 p.every, .int .i64 p.offset, .slice p.groups.a p.groups.n p.groups.c, .slice p.accs.a p.accs.n p.accs.c, .slice p.alias.a p.alias.n p.alias.c, .slice p.names.a p.names.n p.names.c, .slice p.texts.a p.texts.n p.texts.c, .slice p.lists.a p.lists.n p.lists.c, .slice p.times.a p.times.n p.times.c, .slice p.ints.a p.ints.n p.ints.c, .slice p.filter.a p.filter.n p.filter.c, .slice p.output.a p.output.n p.output.c]] W fun e w' => e = .returned (.bool hd) ∧ Below W.heap.size W w') := cH0
  have cN : Hid (∀ (e : Int) W, Calls Tryz.prog 29 #[.int .i64 e] W fun ev w' => ev = .returned (.agg #[.int .i64 e, .int .i64 0, .int .i64 0, .bool false, .bool false]) ∧ Below W.heap.size W w') := fun e W => refNew_any e W
  have e0 := EW.new w p
  have e0H : Hid (EW w p ((w.alloc (.cells p.cells 28)).alloc (.cells #[.int .i64 0, .int .i64 0, .int .i64 0, .bool false, .bool false] 36))) := e0
  clear e0 cH0
  unfold PrH.v
  unfold PrH.cells at e0H
  go_enter Tryz.func11, Tryz.ntmps11
  go_wp2_with fail
  generalize World.alloc (World.alloc w _) _ = W1 at e0H ⊢
  with_reducible refine Calls.mono (cH.out _ e0H.out) ?_
  rintro e w2 ⟨rfl, b2⟩
  have e2 : Hid (EW w p w2) := e0H.out.below b2
  clear cH e0H b2
  cases hd with
  | false =>
    clear cE10 cE20 cH10 cH20 cM0 ne1 ne2
    go_wp2_with fail
    with_reducible refine Calls.mono (cN.out _ _) ?_
    rintro e w3 ⟨rfl, b3⟩
    have e3 : Hid (EW w p w3) := e2.out.below b3
    clear b3 e2 cN
    have VV : Hid (V = .agg #[.int .i64 192, .int .i64 0, .int .i64 0, .bool false, .bool false]) := by rw [← VV0.out, show r = some (192, none) from RES.out]; rfl
    obtain ⟨W9, hst0, u0, u1, u2, u3, u4, bb0⟩ := store_bad e3.out.2.2 (192) (0) false
    have hst : Hid ((Instr.storeAt 36 (.pointer (some ⟨w.heap.size + 1, 0, none⟩)) (.agg #[.int .i64 192, .int .i64 0, .int .i64 0, .bool false, .bool false])).run Tryz.prog w3 = .ok () W9) := hst0
    have finB : Hid (Below w.heap.size w W9) := bb0 _ _ e3.out.1 (by omega)
    clear hst0 bb0 VV0 RES
    go_wp2_with (refine wpList_store_run (by rfl) _ _ _ (by rfl) _ _ _ (by rfl) (by rfl) hst.out ?_)
    clear hst
    simp [bodyPost, results, Tryz.results11, go_sem, u0, u1, u2, u3, u4]
    exact ⟨VV.out.symm, finB.out⟩
  | true =>
    have cE1 : Hid (∀ W, EW w p W → Calls Tryz.prog 30 #[.agg #[.string p.from_, .string p.into, .int .i64 p.every, .int .i64 p.offset, .slice p.groups.a p.groups.n p.groups.c, .slice p.accs.a p.accs.n p.accs.c, .slice p.alias.a p.alias.n p.alias.c, .slice p.names.a p.names.n p.names.c, .slice p.texts.a p.texts.n p.texts.c, .slice p.lists.a p.lists.n p.lists.c, .slice p.times.a p.times.n p.times.c, .slice p.ints.a p.ints.n p.ints.c, .slice p.filter.a p.filter.n p.filter.c, .slice p.output.a p.output.n p.output.c], .slice p.filter.a p.filter.n p.filter.c, .int .i64 0, .int .u8 13] W fun e w' => e = .returned (bdO 0 E1) ∧ Below W.heap.size W w') := cE10 rfl
    have cE2 : Hid (∀ W, EW w p W → Calls Tryz.prog 30 #[.agg #[.string p.from_, .string p.into, .int .i64 p.every, .int .i64 p.offset, .slice p.groups.a p.groups.n p.groups.c, .slice p.accs.a p.accs.n p.accs.c, .slice p.alias.a p.alias.n p.alias.c, .slice p.names.a p.names.n p.names.c, .slice p.texts.a p.texts.n p.texts.c, .slice p.lists.a p.lists.n p.lists.c, .slice p.times.a p.times.n p.times.c, .slice p.ints.a p.ints.n p.ints.c, .slice p.filter.a p.filter.n p.filter.c, .slice p.output.a p.output.n p.output.c], .slice p.output.a p.output.n p.output.c, .int .i64 (p.filter.n : Int), .int .u8 24] W fun e w' => e = .returned (bdO p.filter.n E2) ∧ Below W.heap.size W w') := cE20 rfl
    have cH1 : Hid (E1 = none → ∀ W, EW w p W → Calls Tryz.prog 31 #[.slice p.filter.a p.filter.n p.filter.c, .int .i64 0] W fun e w' => HtR W p.filter.n 0 (g1, r1) e w' ∧ Below W.heap.size W w') := cH10 rfl
    have cH2 : Hid (E2 = none → ∀ W, EW w p W → Calls Tryz.prog 31 #[.slice p.output.a p.output.n p.output.c, .int .i64 (p.filter.n : Int)] W fun e w' => HtR W p.output.n p.filter.n (g2, r2) e w' ∧ Below W.heap.size W w') := cH20 rfl
    have cM : Hid (∀ W, EW w p W → Calls Tryz.prog 32 #[.agg #[.string p.from_, .string p.into, .int .i64 p.every, .int .i64 p.offset, .slice p.groups.a p.groups.n p.groups.c, .slice p.accs.a p.accs.n p.accs.c, .slice p.alias.a p.alias.n p.alias.c, .slice p.names.a p.names.n p.names.c, .slice p.texts.a p.texts.n p.texts.c, .slice p.lists.a p.lists.n p.lists.c, .slice p.times.a p.times.n p.times.c, .slice p.ints.a p.ints.n p.ints.c, .slice p.filter.a p.filter.n p.filter.c, .slice p.output.a p.output.n p.output.c]] W fun e w' => e = .returned (.bool em) ∧ Below W.heap.size W w') := cM0 rfl
    clear cE10 cE20 cH10 cH20 cM0
    obtain ⟨_, ⟨zp, y0, y1, y2, y3, y4, y5, y6, y7, y8, y9, y10, y11, y12, y13⟩, _⟩ := e2.out
    go_wp2_with fail
    clear zp y0 y1 y2 y3 y4 y5 y6 y7 y8 y9 y10 y11 y12 y13
    with_reducible refine Calls.mono (cE1.out _ e2.out) ?_
    rintro e w3 ⟨rfl, b3⟩
    have e3 : Hid (EW w p w3) := e2.out.below b3
    clear b3 e2 cE1
    cases E1 with
    | some x =>
      obtain ⟨xk, xe⟩ := x
      have xn : xe ≠ 0 := ne1.out xk xe rfl
      have xb : (xe != 0) = true := by simpa using xn
      have xd : decide (xe = 0) = false := decide_eq_false xn
      rw [show bdO 0 (some (xk, xe)) = .agg #[.int .i64 xe, .int .i64 (xk : Int), .int .i64 0, .bool true, .bool false] by simp [bdO, badV]]
      have e4 : Hid (EW w p (w3.alloc (.cells #[.int .i64 xe, .int .i64 (xk : Int), .int .i64 0, .bool true, .bool false] 36))) := e3.out.below ((Below.refl _ _).alloc (Nat.le_refl _) _)
      clear ne1 ne2 cE2 cH1 cH2 cM cN e3
      have VV : Hid (V = .agg #[.int .i64 xe, .int .i64 (xk : Int), .int .i64 0, .bool true, .bool false]) := by rw [← VV0.out, show r = some (xe, some (xk : Int)) from by rw [RES.out]; simp [resOf]]; rfl
      obtain ⟨W9, hst0, u0, u1, u2, u3, u4, bb0⟩ := store_bad e4.out.2.2 (xe) ((xk : Int)) true
      have hst : Hid ((Instr.storeAt 36 (.pointer (some ⟨w.heap.size + 1, 0, none⟩)) (.agg #[.int .i64 xe, .int .i64 (xk : Int), .int .i64 0, .bool true, .bool false])).run Tryz.prog (w3.alloc (.cells #[.int .i64 xe, .int .i64 (xk : Int), .int .i64 0, .bool true, .bool false] 36)) = .ok () W9) := hst0
      have finB : Hid (Below w.heap.size w W9) := bb0 _ _ e4.out.1 (by omega)
      clear hst0 bb0 VV0 RES
      go_wp2_with (refine wpList_store_run (by rfl) _ _ _ (by rfl) _ _ _ (by rfl) (by rfl) hst.out ?_)
      clear hst
      simp [bodyPost, results, Tryz.results11, go_sem, u0, u1, u2, u3, u4]
      exact ⟨VV.out.symm, finB.out⟩
    | none =>
      rw [show bdO 0 none = .agg #[.int .i64 0, .int .i64 0, .int .i64 0, .bool false, .bool false] from rfl]
      have e4 : Hid (EW w p (w3.alloc (.cells #[.int .i64 0, .int .i64 0, .int .i64 0, .bool false, .bool false] 36))) := e3.out.below ((Below.refl _ _).alloc (Nat.le_refl _) _)
      clear e3
      obtain ⟨_, ⟨zp, y0, y1, y2, y3, y4, y5, y6, y7, y8, y9, y10, y11, y12, y13⟩, _⟩ := e4.out
      go_wp2_with fail
      clear zp y0 y1 y2 y3 y4 y5 y6 y7 y8 y9 y10 y11 y12 y13
      with_reducible refine Calls.mono (cE2.out _ e4.out) ?_
      rintro e w5 ⟨rfl, b5⟩
      have e5 : Hid (EW w p w5) := e4.out.below b5
      clear b5 e4 cE2
      have ch1 : Hid (∀ W, EW w p W → Calls Tryz.prog 31 #[.slice p.filter.a p.filter.n p.filter.c, .int .i64 0] W fun e w' => HtR W p.filter.n 0 (g1, r1) e w' ∧ Below W.heap.size W w') := cH1.out (by first | trivial | rfl)
      clear cH1
      cases E2 with
      | some x =>
        obtain ⟨xk, xe⟩ := x
        have xn : xe ≠ 0 := ne2.out xk xe rfl
        have xb : (xe != 0) = true := by simpa using xn
        have xd : decide (xe = 0) = false := decide_eq_false xn
        rw [show bdO p.filter.n (some (xk, xe)) = .agg #[.int .i64 xe, .int .i64 ((p.filter.n : Int) + (xk : Int)), .int .i64 0, .bool true, .bool false] from rfl]
        have e6 : Hid (EW w p (w5.alloc (.cells #[.int .i64 xe, .int .i64 ((p.filter.n : Int) + (xk : Int)), .int .i64 0, .bool true, .bool false] 36))) := e5.out.below ((Below.refl _ _).alloc (Nat.le_refl _) _)
        clear ne1 ne2 ch1 cH2 cM cN e5
        have VV : Hid (V = .agg #[.int .i64 xe, .int .i64 ((p.filter.n : Int) + (xk : Int)), .int .i64 0, .bool true, .bool false]) := by rw [← VV0.out, show r = some (xe, some ((p.filter.n : Int) + (xk : Int))) from by rw [RES.out]; rfl]; rfl
        obtain ⟨W9, hst0, u0, u1, u2, u3, u4, bb0⟩ := store_bad e6.out.2.2 (xe) (((p.filter.n : Int) + (xk : Int))) true
        have hst : Hid ((Instr.storeAt 36 (.pointer (some ⟨w.heap.size + 1, 0, none⟩)) (.agg #[.int .i64 xe, .int .i64 ((p.filter.n : Int) + (xk : Int)), .int .i64 0, .bool true, .bool false])).run Tryz.prog (w5.alloc (.cells #[.int .i64 xe, .int .i64 ((p.filter.n : Int) + (xk : Int)), .int .i64 0, .bool true, .bool false] 36)) = .ok () W9) := hst0
        have finB : Hid (Below w.heap.size w W9) := bb0 _ _ e6.out.1 (by omega)
        clear hst0 bb0 VV0 RES
        go_wp2_with (refine wpList_store_run (by rfl) _ _ _ (by rfl) _ _ _ (by rfl) (by rfl) hst.out ?_)
        clear hst
        simp [bodyPost, results, Tryz.results11, go_sem, u0, u1, u2, u3, u4]
        exact ⟨VV.out.symm, finB.out⟩
      | none =>
        rw [show bdO p.filter.n none = .agg #[.int .i64 0, .int .i64 0, .int .i64 0, .bool false, .bool false] from rfl]
        have e6 : Hid (EW w p (w5.alloc (.cells #[.int .i64 0, .int .i64 0, .int .i64 0, .bool false, .bool false] 36))) := e5.out.below ((Below.refl _ _).alloc (Nat.le_refl _) _)
        clear e5 ne1 ne2
        have ch2 : Hid (∀ W, EW w p W → Calls Tryz.prog 31 #[.slice p.output.a p.output.n p.output.c, .int .i64 (p.filter.n : Int)] W fun e w' => HtR W p.output.n p.filter.n (g2, r2) e w' ∧ Below W.heap.size W w') := cH2.out (by first | trivial | rfl)
        clear cH2
        obtain ⟨_, ⟨zp, y0, y1, y2, y3, y4, y5, y6, y7, y8, y9, y10, y11, y12, y13⟩, _⟩ := e6.out
        go_wp2_with fail
        clear zp y0 y1 y2 y3 y4 y5 y6 y7 y8 y9 y10 y11 y12 y13
        with_reducible refine Calls.mono (ch1.out _ e6.out) ?_
        rintro e w7 ⟨hpr, bn⟩
        have e7 : Hid (EW w p w7) := e6.out.below bn
        clear bn e6 ch1
        unfold HtR at hpr
        cases r1 with
        | some xk =>
          dsimp only at hpr
          rw [show badV 190 (((0 : Nat) : Int) + (xk : Int)) true = .agg #[.int .i64 190, .int .i64 (xk : Int), .int .i64 0, .bool true, .bool false] by simp [badV]] at hpr
          subst hpr
          have e8 : Hid (EW w p (w7.alloc (.cells #[.int .i64 190, .int .i64 (xk : Int), .int .i64 0, .bool true, .bool false] 36))) := e7.out.below ((Below.refl _ _).alloc (Nat.le_refl _) _)
          clear e7 cN cM ch2
          have VV : Hid (V = .agg #[.int .i64 190, .int .i64 (xk : Int), .int .i64 0, .bool true, .bool false]) := by rw [← VV0.out, show r = some (190, some (xk : Int)) from by rw [RES.out]; simp [resOf]]; rfl
          obtain ⟨W9, hst0, u0, u1, u2, u3, u4, bb0⟩ := store_bad e8.out.2.2 (190) ((xk : Int)) true
          have hst : Hid ((Instr.storeAt 36 (.pointer (some ⟨w.heap.size + 1, 0, none⟩)) (.agg #[.int .i64 190, .int .i64 (xk : Int), .int .i64 0, .bool true, .bool false])).run Tryz.prog (w7.alloc (.cells #[.int .i64 190, .int .i64 (xk : Int), .int .i64 0, .bool true, .bool false] 36)) = .ok () W9) := hst0
          have finB : Hid (Below w.heap.size w W9) := bb0 _ _ e8.out.1 (by omega)
          clear hst0 bb0 VV0 RES
          go_wp2_with (refine wpList_store_run (by rfl) _ _ _ (by rfl) _ _ _ (by rfl) (by rfl) hst.out ?_)
          clear hst
          simp [bodyPost, results, Tryz.results11, go_sem, u0, u1, u2, u3, u4]
          exact ⟨VV.out.symm, finB.out⟩
        | none =>
          dsimp only at hpr
          obtain ⟨ob, lob, hpr, _⟩ := hpr
          rw [show badV 0 0 false = .agg #[.int .i64 0, .int .i64 0, .int .i64 0, .bool false, .bool false] from rfl] at hpr
          subst hpr
          have e8 : Hid (EW w p (w7.alloc (.cells #[.int .i64 0, .int .i64 0, .int .i64 0, .bool false, .bool false] 36))) := e7.out.below ((Below.refl _ _).alloc (Nat.le_refl _) _)
          clear e7
          obtain ⟨_, ⟨zp, y0, y1, y2, y3, y4, y5, y6, y7, y8, y9, y10, y11, y12, y13⟩, _⟩ := e8.out
          go_wp2_with fail
          clear zp y0 y1 y2 y3 y4 y5 y6 y7 y8 y9 y10 y11 y12 y13
          with_reducible refine Calls.mono (ch2.out _ e8.out) ?_
          rintro e w9 ⟨hpr, bn⟩
          have e9 : Hid (EW w p w9) := e8.out.below bn
          clear bn e8 ch2
          unfold HtR at hpr
          cases r2 with
          | some xk =>
            dsimp only at hpr
            rw [show badV 190 ((p.filter.n : Int) + (xk : Int)) true = .agg #[.int .i64 190, .int .i64 ((p.filter.n : Int) + (xk : Int)), .int .i64 0, .bool true, .bool false] by simp [badV]] at hpr
            subst hpr
            have e10 : Hid (EW w p (w9.alloc (.cells #[.int .i64 190, .int .i64 ((p.filter.n : Int) + (xk : Int)), .int .i64 0, .bool true, .bool false] 36))) := e9.out.below ((Below.refl _ _).alloc (Nat.le_refl _) _)
            clear e9 cN cM
            have VV : Hid (V = .agg #[.int .i64 190, .int .i64 ((p.filter.n : Int) + (xk : Int)), .int .i64 0, .bool true, .bool false]) := by rw [← VV0.out, show r = some (190, some ((p.filter.n : Int) + (xk : Int))) from by rw [RES.out]; rfl]; rfl
            obtain ⟨W9, hst0, u0, u1, u2, u3, u4, bb0⟩ := store_bad e10.out.2.2 (190) (((p.filter.n : Int) + (xk : Int))) true
            have hst : Hid ((Instr.storeAt 36 (.pointer (some ⟨w.heap.size + 1, 0, none⟩)) (.agg #[.int .i64 190, .int .i64 ((p.filter.n : Int) + (xk : Int)), .int .i64 0, .bool true, .bool false])).run Tryz.prog (w9.alloc (.cells #[.int .i64 190, .int .i64 ((p.filter.n : Int) + (xk : Int)), .int .i64 0, .bool true, .bool false] 36)) = .ok () W9) := hst0
            have finB : Hid (Below w.heap.size w W9) := bb0 _ _ e10.out.1 (by omega)
            clear hst0 bb0 VV0 RES
            go_wp2_with (refine wpList_store_run (by rfl) _ _ _ (by rfl) _ _ _ (by rfl) (by rfl) hst.out ?_)
            clear hst
            simp [bodyPost, results, Tryz.results11, go_sem, u0, u1, u2, u3, u4]
            exact ⟨VV.out.symm, finB.out⟩
          | none =>
            dsimp only at hpr
            obtain ⟨ob2, lob2, hpr, _⟩ := hpr
            rw [show badV 0 0 false = .agg #[.int .i64 0, .int .i64 0, .int .i64 0, .bool false, .bool false] from rfl] at hpr
            subst hpr
            have e10 : Hid (EW w p (w9.alloc (.cells #[.int .i64 0, .int .i64 0, .int .i64 0, .bool false, .bool false] 36))) := e9.out.below ((Below.refl _ _).alloc (Nat.le_refl _) _)
            clear e9
            obtain ⟨_, ⟨zp, y0, y1, y2, y3, y4, y5, y6, y7, y8, y9, y10, y11, y12, y13⟩, _⟩ := e10.out
            go_wp2_with fail
            clear zp y0 y1 y2 y3 y4 y5 y6 y7 y8 y9 y10 y11 y12 y13
            with_reducible refine Calls.mono (cM.out _ e10.out) ?_
            rintro e w11 ⟨rfl, b11⟩
            have e11 : Hid (EW w p w11) := e10.out.below b11
            clear b11 e10 cM
            cases em with
            | false =>
              go_wp2_with fail
              with_reducible refine Calls.mono (cN.out _ _) ?_
              rintro e w12 ⟨rfl, b12⟩
              have e12 : Hid (EW w p w12) := e11.out.below b12
              clear b12 e11 cN
              have VV : Hid (V = .agg #[.int .i64 193, .int .i64 0, .int .i64 0, .bool false, .bool false]) := by rw [← VV0.out, show r = some (193, none) from by rw [RES.out]; rfl]; rfl
              obtain ⟨W9, hst0, u0, u1, u2, u3, u4, bb0⟩ := store_bad e12.out.2.2 (193) (0) false
              have hst : Hid ((Instr.storeAt 36 (.pointer (some ⟨w.heap.size + 1, 0, none⟩)) (.agg #[.int .i64 193, .int .i64 0, .int .i64 0, .bool false, .bool false])).run Tryz.prog w12 = .ok () W9) := hst0
              have finB : Hid (Below w.heap.size w W9) := bb0 _ _ e12.out.1 (by omega)
              clear hst0 bb0 VV0 RES
              go_wp2_with (refine wpList_store_run (by rfl) _ _ _ (by rfl) _ _ _ (by rfl) (by rfl) hst.out ?_)
              clear hst
              simp [bodyPost, results, Tryz.results11, go_sem, u0, u1, u2, u3, u4]
              exact ⟨VV.out.symm, finB.out⟩
            | true =>
              have VV : Hid (V = .agg #[.int .i64 0, .int .i64 0, .int .i64 0, .bool false, .bool false]) := by rw [← VV0.out, show r = none from by rw [RES.out]; rfl]; rfl
              obtain ⟨W9, hst0, u0, u1, u2, u3, u4, bb0⟩ := store_bad e11.out.2.2 (0) (0) false
              have hst : Hid ((Instr.storeAt 36 (.pointer (some ⟨w.heap.size + 1, 0, none⟩)) (.agg #[.int .i64 0, .int .i64 0, .int .i64 0, .bool false, .bool false])).run Tryz.prog w11 = .ok () W9) := hst0
              have finB : Hid (Below w.heap.size w W9) := bb0 _ _ e11.out.1 (by omega)
              clear hst0 bb0 VV0 RES
              go_wp2_with (refine wpList_store_run (by rfl) _ _ _ (by rfl) _ _ _ (by rfl) (by rfl) hst.out ?_)
              clear hst
              simp [bodyPost, results, Tryz.results11, go_sem, u0, u1, u2, u3, u4]
              exact ⟨VV.out.symm, finB.out⟩
end Go.Proofs.YtdfnomglkibfbaaGreatDoor.Vf

namespace Go.Proofs.YtdfnomglkibfbaaGreatDoor
open Go.RowKit
set_option linter.unusedVariables false
set_option linter.unusedSimpArgs false
section
variable {P : Program} (w : World)
/-- rows stay where a block is laid, and nothing else. -/
theorem rows_alloc (o : Obj) (e : TypeId) (size base' n0 : Nat) (u : Value) (ys : List Value) (hu : w.ownsRow base' e size u n0 ys) : (w.drew.alloc o).ownsRow base' e size u n0 ys := by
  rcases hu.2 with ⟨q, q0⟩ | ⟨g, cap, cur, e1, e2, e3, e4⟩
  · exact ⟨hu.1, Or.inl ⟨q, q0⟩⟩
  · exact ⟨hu.1, Or.inr ⟨g, cap, cur, e1, e2, by rw [show (w.drew.alloc o).heap[g]? = w.heap[g]? from by first | exact heap_alloc_old w.drew o g (Array.getElem?_eq_some_iff.1 e3).1 | exact heap_alloc_old w.drew o (Array.getElem?_eq_some_iff.1 e3).1]; exact e3, e4⟩⟩
/-- a row of the same block that is not longer than what is written behind. -/
theorem rows_room {g n : Nat} {e : TypeId} {size : Nat} {cur : Array Value} {news : List Value} (hg : w.heap[g]? = some (.cells cur e (0, 0))) (hfit : n * size + news.length ≤ cur.size) (base' n0 : Nat) (u : Value) (ys : List Value) (hu : w.ownsRow base' e size u n0 ys) (hle : u.ownBlock = some g → n0 ≤ n) : (w.setRow g (cur.toList.take (n * size) ++ news ++ cur.toList.drop (n * size + news.length)).toArray).ownsRow base' e size u n0 ys := by
  by_cases hb : u.ownBlock = some g
  · rcases hu.2 with ⟨q, q0⟩ | ⟨g2, cap2, cur2, e1, e2, e3, e4, e5, e6, e7⟩
    · rw [q] at hb; cases hb
    · subst e1
      have : g2 = g := by simpa [Value.ownBlock] using hb
      subst this
      rw [hg] at e3
      injection e3 with e3
      injection e3 with e3 _ _
      subst e3
      have hmul : n0 * size ≤ n * size := Nat.mul_le_mul_right _ (hle hb)
      have htl : (cur.toList.take (n * size)).length = n * size := by rw [List.length_take, Array.length_toList]; omega
      have hsz2 : (cur.toList.take (n * size) ++ news ++ cur.toList.drop (n * size + news.length)).toArray.size = cur.size := by simp; omega
      refine ⟨hu.1, Or.inr ⟨g2, cap2, _, rfl, e2, setRow_heap w g2 cur _ e _ hg, e4, e5, by rw [hsz2]; exact e6, ?_⟩⟩
      simp only
      rw [List.append_assoc, List.take_append_of_le_length (by omega), List.take_take, Nat.min_eq_left hmul]
      exact e7
  · exact World.ownsRow.kept hu (show w.grownBy _ (some g) from ⟨rfl, rfl, rfl, by simp, fun k _ hk => setRow_other w g k _ (fun e => hk (by rw [e]))⟩) (Or.inr hb)
/-- an append to a row of one's own: what it tells, and that every other row stays that is no longer than this one. -/
theorem append_keeps (base : Nat) (t ty e : TypeId) (i : TypeInfo) (z : Value) (ht : P.underlying t = some (.slice e)) (hi : P.info? e = some i) (hz : i.zero = some z) (hzs : z.cells.size = i.size) (hsz : 0 < i.size)
    (v : Value) (n : Nat) (xs : List Value) (hown : w.ownsRow base e i.size v n xs)
    (a : Addr) (m c : Nat) (news : List Value) (hl : news.length = m * i.size) (hnews : ∀ j u, news[j]? = some u → w.cell? (a.add j) = some u) (h1 : ∀ u ∈ news, u.oneCell' = true)
    (hm0 : 0 < m) (h63 : n + m ≤ maxLen) (hbytes : (n + m) * i.bytes ≤ 140737488355328) (hbase : base ≤ w.heap.size) :
    ∃ v' w', (Builtin.append_ #[t, t] ty #[v, .slice (some a) m c]).run P w = .ok v' w' ∧ w'.ownsRow base e i.size v' (n + m) (xs ++ news) ∧ w.grownBy w' v.ownBlock ∧ (v'.ownBlock = v.ownBlock ∨ v'.ownBlock = some w.heap.size) ∧
      ∀ base' u n0 ys, w.ownsRow base' e i.size u n0 ys → (u.ownBlock = v.ownBlock → n0 ≤ n) → w'.ownsRow base' e i.size u n0 ys := by
  have hsmall : n + m ≤ 9223372036854775807 := by simp only [maxLen] at h63; omega
  obtain ⟨v', w', hr, ho, hg, _⟩ := run_append_own (P := P) w base t ty e i z i.size i.bytes ht hi hz rfl rfl hzs hsz v n xs hown a m c news hl hnews h1 h63 hbytes hbase
  refine ⟨v', w', hr, ho, hg, ?_⟩
  rcases hown.2 with ⟨rfl, rfl⟩ | ⟨g, cap, cur, rfl, hbg, hgc, hnc, hcm, hcs, htake⟩
  · have h2 := run_append_nil (P := P) w t ty e i z ht hi hz a m c news hl hnews (by omega) (by omega) (by rw [Nat.zero_add] at hbytes; omega)
    rw [hr] at h2
    injection h2 with e1 e2
    subst e1 e2
    exact ⟨Or.inr rfl, fun base' u n0 ys hu _ => rows_alloc w _ e i.size base' n0 u ys hu⟩
  · by_cases hroom : n + m ≤ cap
    · have hfit : n * i.size + news.length ≤ cur.size := by rw [hl, hcs, ← Nat.add_mul]; exact Nat.mul_le_mul_right _ hroom
      have h2 := run_append_room (P := P) w t ty e i ht hi g n cap cur hgc a m c news hl hnews h1 hroom hfit
      rw [hr] at h2
      injection h2 with e1 e2
      subst e1 e2
      exact ⟨Or.inl rfl, fun base' u n0 ys hu hle => rows_room w hgc hfit base' n0 u ys hu (fun q => hle q)⟩
    · have h2 := run_append_grow (P := P) w t ty e i z ht hi hz ⟨g, 0, none⟩ n cap xs hown.1 (hown.cells (g := g) rfl) a m c news hl hnews (by omega) (by omega) (growslice_fits (by omega) hbytes)
      rw [hr] at h2
      injection h2 with e1 e2
      subst e1 e2
      exact ⟨Or.inr rfl, fun base' u n0 ys hu _ => rows_alloc w _ e i.size base' n0 u ys hu⟩
end
end Go.Proofs.YtdfnomglkibfbaaGreatDoor

namespace Go.Proofs.YtdfnomglkibfbaaGreatDoor.Bk2
open Go.RowKit
set_option linter.unusedVariables false
set_option linter.unusedSimpArgs false
set_option maxRecDepth 100000
theorem below_trans {w w1 w2 : World} {n : Nat} (h : Below n w w1) (k : Below n w1 w2) : Below n w w2 := ⟨k.os.trans h.os, k.tape.trans h.tape, k.output.trans h.output, Nat.le_trans h.size k.size, fun j hj => (k.block j hj).trans (h.block j hj)⟩
theorem below_less {w w1 : World} {n m : Nat} (h : Below n w w1) (hm : m ≤ n) : Below m w w1 := ⟨h.os, h.tape, h.output, h.size, fun j hj => h.block j (by omega)⟩
theorem add_lt0 (b o j : Nat) : (⟨b, o, none⟩ : Addr).add j = ⟨b, o + j, none⟩ := by
  simp [Addr.add]
/-- the mark of a number. -/
def xx (i : Nat) : Value := .int .i64 (-7 - (i : Int))
theorem el_info : (Tryz.prog.info? 3).map (fun i => (i.zero, i.bytes, i.size)) = some (some (.int .i64 0), 8, 1) := by kernel_rfl
theorem news1 {W : World} {K : Nat} {x : Value} (hx : W.cell? ⟨K, 0, none⟩ = some x) : ∀ j u, [x][j]? = some u → W.cell? ((⟨K, 0, none⟩ : Addr).add j) = some u := fun j u hj => by
  rcases j with _ | j
  · simp at hj; subst hj; rw [add_lt0]; exact hx
  · simp at hj
/-- a row of one's own. -/
def OE (w : World) (B : Nat) (v : Value) (l : List Value) : Prop := w.ownsRow B 3 1 v l.length l
theorem OE.below {w w' : World} {B C : Nat} {v : Value} {l : List Value} (h : OE w B v l) (hb : Below C w w') (hC : w.heap.size ≤ C) : OE w' B v l := by
  refine ⟨h.1, ?_⟩
  rcases h.2 with h2 | ⟨g, cap, cur, e1, e2, e3, e4⟩
  · exact Or.inl h2
  · exact Or.inr ⟨g, cap, cur, e1, e2, by rw [hb.block g (Nat.lt_of_lt_of_le (Array.getElem?_eq_some_iff.1 e3).1 hC)]; exact e3, e4⟩
theorem OE.bound {w : World} {B : Nat} {v : Value} {l : List Value} (h : OE w B v l) {k : Nat} (e : v.ownBlock = some k) : B ≤ k ∧ k < w.heap.size := World.ownsRow.lt h k e
def rep (Lf : Nat → List Value) (j : Nat) : List Value := List.replicate (Lf j).length (xx j)
def rep2 (Lf : Nat → List Value) (j k : Nat) : List Value := List.replicate ((Lf j).length + k) (xx j)
theorem rep2_succ (Lf : Nat → List Value) (j k : Nat) : rep2 Lf j (k + 1) = rep2 Lf j k ++ [xx j] := by unfold rep2; rw [← Nat.add_assoc, List.replicate_succ']
theorem rep2_zero (Lf : Nat → List Value) (j : Nat) : rep2 Lf j 0 = rep Lf j := rfl
theorem get_rep (n : Nat) (x : Value) {i : Nat} (h : i < n) : (List.replicate n x)[i]? = some x := by simp [List.getElem?_replicate, h]
/-- while the rows are written over. -/
def L1 (Lf : Nat → List Value) (i k j : Nat) : List Value := if j < i then rep Lf j else if j = i then List.replicate k (xx j) ++ (Lf j).drop k else Lf j
theorem L1_start (Lf : Nat → List Value) (j : Nat) : L1 Lf 0 0 j = Lf j := by
  unfold L1
  rw [if_neg (by omega)]
  split
  · simp
  · rfl
theorem L1_next (Lf : Nat → List Value) (i j : Nat) : L1 Lf i (Lf i).length j = L1 Lf (i + 1) 0 j := by
  unfold L1
  by_cases h1 : j < i
  · rw [if_pos h1, if_pos (by omega)]
  · rw [if_neg h1]
    by_cases h2 : j = i
    · subst h2; rw [if_pos rfl, if_pos (by omega)]; simp [rep]
    · rw [if_neg h2, if_neg (by omega)]
      split
      · simp
      · rfl
theorem L1_len (Lf : Nat → List Value) {i k : Nat} (h : k ≤ (Lf i).length) (j : Nat) : (L1 Lf i k j).length = (Lf j).length := by
  unfold L1
  split
  · simp [rep]
  · split
    · rename_i e; subst e; simp; omega
    · rfl
theorem L1_set (Lf : Nat → List Value) {i k : Nat} (h : k < (Lf i).length) : (L1 Lf i k i).set k (xx i) = L1 Lf i (k + 1) i := by
  unfold L1
  rw [if_neg (by omega), if_pos rfl, if_neg (by omega), if_pos rfl]
  rw [List.set_append_right _ _ (by simp)]
  simp only [List.length_replicate, Nat.sub_self]
  rw [List.drop_eq_getElem_cons h, List.set_cons_zero, List.replicate_succ']
  simp
theorem L1_other (Lf : Nat → List Value) {i k j : Nat} (h : j ≠ i) : L1 Lf i (k + 1) j = L1 Lf i k j := by
  unfold L1
  rw [if_neg h, if_neg h]
theorem L1_end (Lf : Nat → List Value) {m j : Nat} (h : j < m) : L1 Lf m 0 j = rep Lf j := by unfold L1; rw [if_pos h]
theorem OE.formO {w : World} {B : Nat} {v : Value} {l : List Value} (h : OE w B v l) : ∃ a c, v = .slice a l.length c ∧ l.length ≤ c ∧ (0 < l.length → ∃ g, a = some ⟨g, 0, none⟩) := by
  rcases h.2 with ⟨e, e0⟩ | ⟨g, cap, cur, e1, _, _, hc, _⟩
  · exact ⟨none, 0, by rw [e, e0], by omega, fun q => by omega⟩
  · exact ⟨_, cap, e1, hc, fun _ => ⟨g, rfl⟩⟩
/-! headers -/
def hdr (V : Nat → Value) (m : Nat) : List Value := (List.range m).map V
theorem hdr_len (V : Nat → Value) (m : Nat) : (hdr V m).length = m := by simp [hdr]
theorem hdr_get (V : Nat → Value) {i m : Nat} (h : i < m) : (hdr V m)[i]? = some (V i) := by simp [hdr, h]
theorem hdr_snoc (V : Nat → Value) (m : Nat) (g : Value) : hdr (fun j => if j = m then g else V j) (m + 1) = hdr V m ++ [g] := by
  unfold hdr
  rw [List.range_succ, List.map_append]
  congr 1
  · apply List.map_congr_left
    intro j hj
    have := List.mem_range.1 hj
    rw [if_neg (by omega)]
  · simp
abbrev HRw (w : World) (B : Nat) (v : Value) (m : Nat) (V : Nat → Value) : Prop := w.ownsRow B 39 1 v m (hdr V m)
theorem HRw.form {w : World} {B m : Nat} {v : Value} {V : Nat → Value} (h : HRw w B v m V) : ∃ a c, v = .slice a m c ∧ (0 < m → ∃ g, a = some ⟨g, 0, none⟩ ∧ v.ownBlock = some g ∧ ∀ i, i < m → w.cell? ⟨g, i, none⟩ = some (V i)) := by
  rcases h.2 with ⟨e, e0⟩ | ⟨g, cap, cur, e1, _⟩
  · exact ⟨none, 0, by rw [e, e0], fun q => by omega⟩
  · refine ⟨some ⟨g, 0, none⟩, cap, e1, fun _ => ⟨g, rfl, by rw [e1]; rfl, fun i hi => ?_⟩⟩
    have := World.ownsRow.cells h (g := g) (by rw [e1]; rfl) i (V i) (hdr_get V hi)
    rw [add_lt0, Nat.zero_add] at this
    exact this
theorem en_info2 : (Tryz.prog.info? 39).map (fun i => (i.zero, i.bytes, i.size)) = some (some (.slice none 0 0), 24, 1) := by kernel_rfl
/-! what is left as it was -/
structure BF (V : Nat → Value) (m : Nat) (w w' : World) : Prop where
  size : w.heap.size ≤ w'.heap.size
  keep : ∀ k, k < w.heap.size → (∀ i, i < m → (V i).ownBlock ≠ some k) → w'.heap[k]? = w.heap[k]?
  same : w'.os = w.os ∧ w'.tape = w.tape ∧ w'.output = w.output
theorem BF.refl (V : Nat → Value) (m : Nat) (w : World) : BF V m w w := ⟨Nat.le_refl _, fun _ _ _ => rfl, rfl, rfl, rfl⟩
theorem BF.step {V : Nat → Value} {m : Nat} {w w1 w2 : World} {o : Option Nat} (h : BF V m w w1) (g : w1.grownBy w2 o) (ho : ∀ k, o = some k → k < w.heap.size → ∃ i, i < m ∧ (V i).ownBlock = some k) : BF V m w w2 :=
  ⟨Nat.le_trans h.size g.size, fun k hk q => by
    rw [g.block k (Nat.lt_of_lt_of_le hk h.size) (fun e => by
      obtain ⟨i, hi, e2⟩ := ho k e.symm hk
      exact q i hi e2)]
    exact h.keep k hk q, g.os.trans h.same.1, g.tape.trans h.same.2.1, g.output.trans h.same.2.2⟩
theorem BF.below {V : Nat → Value} {m : Nat} {w w1 w2 : World} (h : BF V m w w1) (b : Below w1.heap.size w1 w2) : BF V m w w2 :=
  ⟨Nat.le_trans h.size b.size, fun k hk q => by rw [b.block k (Nat.lt_of_lt_of_le hk h.size)]; exact h.keep k hk q, b.os.trans h.same.1, b.tape.trans h.same.2.1, b.output.trans h.same.2.2⟩
/-- where the book and its rows lie. -/
structure SPV (w0 : World) (N C m : Nat) (V : Nat → Value) (hv : Value) : Prop where
  nC : N < C
  nw : N < w0.heap.size
  cw : C ≤ w0.heap.size
  vb : ∀ i, i < m → ∀ k, (V i).ownBlock = some k → C ≤ k ∧ k < w0.heap.size
  hb : ∀ k, hv.ownBlock = some k → C ≤ k ∧ k < w0.heap.size
  dis : ∀ i j, i < m → j < m → i ≠ j → ∀ k, (V i).ownBlock = some k → (V j).ownBlock ≠ some k
  hd : ∀ i, i < m → ∀ k, (V i).ownBlock = some k → hv.ownBlock ≠ some k
/-- the book's headers and rows. -/
structure AS (w0 : World) (N C m : Nat) (V : Nat → Value) (hv : Value) (G : Nat → List Value) (wr : World) : Prop where
  cF : wr.cell? ⟨N, 2, none⟩ = some hv
  hr : HRw wr C hv m V
  rows : ∀ j, j < m → OE wr C (V j) (G j)
  bf : BF V m w0 wr
theorem HRw.below {w w' : World} {B C m : Nat} {v : Value} {V : Nat → Value} (h : HRw w B v m V) (hb : Below C w w') (hC : w.heap.size ≤ C) : HRw w' B v m V := by
  refine ⟨h.1, ?_⟩
  rcases h.2 with h2 | ⟨g, cap, cur, e1, e2, e3, e4⟩
  · exact Or.inl h2
  · exact Or.inr ⟨g, cap, cur, e1, e2, by rw [hb.block g (Nat.lt_of_lt_of_le (Array.getElem?_eq_some_iff.1 e3).1 hC)]; exact e3, e4⟩
theorem AS.below {w0 wr w' : World} {N C m : Nat} {V : Nat → Value} {hv : Value} {G : Nat → List Value} (h : AS w0 N C m V hv G wr) (s : SPV w0 N C m V hv) (hb : Below wr.heap.size wr w') : AS w0 N C m V hv G w' :=
  ⟨by rw [hb.cell (p := ⟨N, 2, none⟩) (Nat.lt_of_lt_of_le s.nw h.bf.size)]; exact h.cF, h.hr.below hb (Nat.le_refl _), fun j hj => (h.rows j hj).below hb (Nat.le_refl _), h.bf.below hb⟩
/-- a row of the book written: the others stay. -/
theorem AS.put {w0 wr : World} {N C m i k g n cap : Nat} {V : Nat → Value} {hv : Value} {G G' : Nat → List Value} (h : AS w0 N C m V hv G wr) (s : SPV w0 N C m V hv) (hi : i < m) (hV : V i = .slice (some ⟨g, 0, none⟩) n cap) (hk : k < (G i).length) (x : Value) (hG : G' i = (G i).set k x) (hG2 : ∀ j, j < m → j ≠ i → G' j = G j) :
    AS w0 N C m V hv G' (wr.setCell ⟨g, k, none⟩ x) := by
  have o := h.rows i hi
  have hV2 : (V i).ownBlock = some g := by rw [hV]; rfl
  rw [hV] at o
  obtain ⟨_, _, e1, _⟩ := o.formO
  injection e1 with _ e2 _
  subst e2
  have t2 := World.ownsRow.stored o k x
  have gg : wr.grownBy (wr.setCell ⟨g, k, none⟩ x) (some g) := t2.2
  have gN : N ≠ g := by have := (s.vb i hi g hV2).1; have := s.nC; omega
  refine ⟨?_, World.ownsRow.kept h.hr gg (Or.inr (s.hd i hi g hV2)), fun j hj => ?_, h.bf.step gg (fun q e _ => ⟨i, hi, by rw [hV2]; exact e⟩)⟩
  · rw [World.cell?_of_block (w := wr) (a := ⟨N, 2, none⟩) (gg.block N (Nat.lt_of_lt_of_le s.nw h.bf.size) (fun e => gN (by injection e)))]
    exact h.cF
  · by_cases c : j = i
    · subst c
      rw [hG, hV]
      unfold OE
      rw [List.length_set]
      exact t2.1
    · rw [hG2 j hj c]
      exact World.ownsRow.kept (h.rows j hj) gg (Or.inr (fun e => s.dis i j hi hj (fun q => c q.symm) g hV2 e))
/-- while the rows are grown: those behind it are in A, told by av. -/
structure P2 (w0 : World) (N C m : Nat) (V : Nat → Value) (hv : Value) (Lf : Nat → List Value) (S0 i : Nat) (A : Nat → Value) (av : Value) (wr : World) : Prop where
  st : AS w0 N C m V hv (rep Lf) wr
  alls : ∀ j, j < i → OE wr C (A j) (rep2 Lf j 20)
  ab : ∀ j, j < i → ∀ k, (A j).ownBlock = some k → (V j).ownBlock = some k ∨ S0 ≤ k
  ar : HRw wr S0 av i A
  aA : ∀ j, j < i → ∀ k, (A j).ownBlock = some k → av.ownBlock ≠ some k
  s0 : S0 ≤ wr.heap.size
  w0 : w0.heap.size ≤ S0
theorem P2.below {w0 wr w' : World} {N C m S0 i : Nat} {V A : Nat → Value} {hv av : Value} {Lf : Nat → List Value} (h : P2 w0 N C m V hv Lf S0 i A av wr) (s : SPV w0 N C m V hv) (hb : Below wr.heap.size wr w') : P2 w0 N C m V hv Lf S0 i A av w' :=
  ⟨h.st.below s hb, fun j hj => (h.alls j hj).below hb (Nat.le_refl _), h.ab, h.ar.below hb (Nat.le_refl _), h.aA, Nat.le_trans h.s0 hb.size, h.w0⟩
/-- the one in hand. -/
structure PG (w0 : World) (N C m : Nat) (V : Nat → Value) (hv : Value) (Lf : Nat → List Value) (S0 i : Nat) (A : Nat → Value) (av : Value) (E k : Nat) (g : Value) (wr : World) : Prop where
  p : P2 w0 N C m V hv Lf S0 i A av wr
  go : OE wr C g (rep2 Lf i k)
  gb : ∀ q, g.ownBlock = some q → (V i).ownBlock = some q ∨ E ≤ q
  aE : ∀ j, j < i → ∀ q, (A j).ownBlock = some q → q < E
  vE : ∀ q, av.ownBlock = some q → S0 ≤ q ∧ q < E
  sE : S0 ≤ E
  Ew : E ≤ wr.heap.size
theorem PG.below {w0 wr w' : World} {N C m S0 i E k : Nat} {V A : Nat → Value} {hv av g : Value} {Lf : Nat → List Value} (h : PG w0 N C m V hv Lf S0 i A av E k g wr) (s : SPV w0 N C m V hv) (hb : Below wr.heap.size wr w') : PG w0 N C m V hv Lf S0 i A av E k g w' :=
  ⟨h.p.below s hb, h.go.below hb (Nat.le_refl _), h.gb, h.aE, h.vE, h.sE, Nat.le_trans h.Ew hb.size⟩
theorem PG.start {w0 wr : World} {N C m S0 i : Nat} {V A : Nat → Value} {hv av : Value} {Lf : Nat → List Value} (h : P2 w0 N C m V hv Lf S0 i A av wr) (hi : i < m) : PG w0 N C m V hv Lf S0 i A av wr.heap.size 0 (V i) wr :=
  ⟨h, by rw [rep2_zero]; exact h.st.rows i hi, fun q e => Or.inl e, fun j hj q e => ((h.alls j hj).bound e).2, fun q e => World.ownsRow.lt h.ar q e, h.s0, Nat.le_refl _⟩
theorem PG.grow {w0 wr : World} {N C m S0 i E k : Nat} {V A : Nat → Value} {hv av g : Value} {Lf : Nat → List Value} (h0 : PG w0 N C m V hv Lf S0 i A av E k g wr) (s : SPV w0 N C m V hv) (hi : i < m) (hn : (Lf i).length ≤ 268435456) (hk : k ≤ 20) :
    ∃ g' w', (Builtin.append_ #[39, 39] 39 #[g, .slice (some ⟨wr.heap.size, 0, none⟩) 1 1]).run Tryz.prog (wr.alloc (.cells #[xx i] 3)) = .ok g' w' ∧ PG w0 N C m V hv Lf S0 i A av E (k + 1) g' w' := by
  obtain ⟨W, hW⟩ : ∃ W, W = wr.alloc (.cells #[xx i] 3) := ⟨_, rfl⟩
  have bW : Below wr.heap.size wr W := by rw [hW]; exact (Below.refl _ wr).alloc (Nat.le_refl _) _
  have sW : W.heap.size = wr.heap.size + 1 := by rw [hW]; simp
  have hE : W.cell? ⟨wr.heap.size, 0, none⟩ = some (xx i) := by rw [hW]; simp [go_sem]
  rw [← hW]
  have h := h0.below s bW
  obtain ⟨inf, i1, i0⟩ := Option.map_eq_some_iff.1 el_info
  have i2 : inf.zero = some (.int .i64 0) := congrArg (·.1) i0
  have i3 : inf.bytes = 8 := congrArg (·.2.1) i0
  have i4 : inf.size = 1 := congrArg (·.2.2) i0
  have hml : maxLen = 9223372036854775807 := by decide
  have lg : (rep2 Lf i k).length = (Lf i).length + k := by simp [rep2]
  have own : W.ownsRow C 3 inf.size g (rep2 Lf i k).length (rep2 Lf i k) := by rw [i4]; exact h.go
  have cw := s.cw
  have w0S := h.p.w0
  have sz := h.p.st.bf.size
  obtain ⟨g', w', hr, ho, hg, hb, hk'⟩ := append_keeps (P := Tryz.prog) W C 39 39 3 inf (.int .i64 0) Tryz.underlying39 i1 i2 (by rw [i4]; rfl) (by omega) g _ _ own ⟨wr.heap.size, 0, none⟩ 1 1 [xx i] (by rw [i4]; rfl) (news1 hE) (fun u hu => by simp at hu; subst hu; rfl) (by omega) (by rw [lg]; omega) (by rw [lg, i3]; omega) (by omega)
  rw [i4] at ho hk'
  have gC : ∀ q, g.ownBlock = some q → C ≤ q := fun q e => (h.go.bound e).1
  have gN : ∀ q, g.ownBlock = some q → q ≠ N := fun q e => by have := gC q e; have := s.nC; omega
  have gV : ∀ j, j < m → j ≠ i → ∀ q, g.ownBlock = some q → (V j).ownBlock ≠ some q := fun j hj hne q e e2 => by
    rcases h.gb q e with c | c
    · exact s.dis i j hi hj (fun q => hne q.symm) q c e2
    · have := (s.vb j hj q e2).2; have := h.sE; omega
  have gH : ∀ q, g.ownBlock = some q → hv.ownBlock ≠ some q := fun q e e2 => by
    rcases h.gb q e with c | c
    · exact s.hd i hi q c e2
    · have := (s.hb q e2).2; have := h.sE; omega
  have gA : ∀ j, j < i → ∀ q, g.ownBlock = some q → (A j).ownBlock ≠ some q := fun j hj q e e2 => by
    have lt := h.aE j hj q e2
    rcases h.gb q e with c | c
    · rcases h.p.ab j hj q e2 with d | d
      · exact s.dis i j hi (by omega) (by omega) q c d
      · have := (s.vb i hi q c).2; omega
    · omega
  have gv : ∀ q, g.ownBlock = some q → av.ownBlock ≠ some q := fun q e e2 => by
    obtain ⟨q1, q2⟩ := h.vE q e2
    rcases h.gb q e with c | c
    · have := (s.vb i hi q c).2; omega
    · omega
  have oth : ∀ (v : Value), (∀ q, g.ownBlock = some q → v.ownBlock ≠ some q) → v.ownBlock = none ∨ v.ownBlock ≠ g.ownBlock := fun v hq => by
    cases hv0 : v.ownBlock with
    | none => exact Or.inl rfl
    | some k => exact Or.inr (fun e => hq k e.symm hv0)
  refine ⟨g', w', hr, ⟨⟨⟨?_, World.ownsRow.kept h.p.st.hr hg (oth hv gH), fun j hj => ?_, h.p.st.bf.step hg (fun q e hq => ?_)⟩, fun j hj => ?_, h.p.ab, World.ownsRow.kept h.p.ar hg (oth av gv), h.p.aA, Nat.le_trans h.p.s0 hg.size, h.p.w0⟩, ?_, fun q e => ?_, h.aE, h.vE, h.sE, Nat.le_trans h.Ew hg.size⟩⟩
  · rw [World.cell?_of_block (w := W) (a := ⟨N, 2, none⟩) (hg.block N (by have := s.nw; omega) (fun e => gN N e.symm rfl))]
    exact h.p.st.cF
  · refine hk' C (V j) _ _ (h.p.st.rows j hj) (fun e => ?_)
    by_cases c : j = i
    · subst c; rw [lg]; simp [rep]
    · cases hg0 : g.ownBlock with
      | some q => exact absurd (by rw [e, hg0]) (gV j hj c q hg0)
      | none =>
        have hz : (rep Lf j).length = 0 := by
          rcases (h.p.st.rows j hj).2 with ⟨_, z⟩ | ⟨_, _, _, z, _⟩
          · exact z
          · rw [z, hg0] at e; cases e
        omega
  · rcases h.gb q e with c | c
    · exact ⟨i, hi, c⟩
    · have := h.sE; omega
  · refine hk' C (A j) _ _ (h.p.alls j hj) (fun e => ?_)
    cases hg0 : g.ownBlock with
    | some q => exact absurd (by rw [e, hg0]) (gA j hj q hg0)
    | none =>
      have hz : (rep2 Lf j 20).length = 0 := by
        rcases (h.p.alls j hj).2 with ⟨_, z⟩ | ⟨_, _, _, z, _⟩
        · exact z
        · rw [z, hg0] at e; cases e
      omega
  · rw [rep2_succ]
    unfold OE
    rw [List.length_append]
    exact ho
  · rcases hb with c | c
    · exact h.gb q (by rw [← c]; exact e)
    · rw [c] at e; injection e with e; have := h.Ew; exact Or.inr (by omega)
/-- the grown one behind the others. -/
theorem PG.next {w0 wr : World} {N C m S0 i E : Nat} {V A : Nat → Value} {hv av g : Value} {Lf : Nat → List Value} (h0 : PG w0 N C m V hv Lf S0 i A av E 20 g wr) (s : SPV w0 N C m V hv) (hi : i < m) (hm : m ≤ 4194304) :
    ∃ av' w', (Builtin.append_ #[62, 62] 62 #[av, .slice (some ⟨wr.heap.size, 0, none⟩) 1 1]).run Tryz.prog (wr.alloc (.cells #[g] 39)) = .ok av' w' ∧ P2 w0 N C m V hv Lf S0 (i + 1) (fun j => if j = i then g else A j) av' w' := by
  obtain ⟨W, hW⟩ : ∃ W, W = wr.alloc (.cells #[g] 39) := ⟨_, rfl⟩
  have bW : Below wr.heap.size wr W := by rw [hW]; exact (Below.refl _ wr).alloc (Nat.le_refl _) _
  have sW : W.heap.size = wr.heap.size + 1 := by rw [hW]; simp
  have hc : W.cell? ⟨wr.heap.size, 0, none⟩ = some g := by rw [hW]; simp [go_sem]
  rw [← hW]
  have h := h0.below s bW
  obtain ⟨inf, i1, i0⟩ := Option.map_eq_some_iff.1 en_info2
  have i2 : inf.zero = some (.slice none 0 0) := congrArg (·.1) i0
  have i3 : inf.bytes = 24 := congrArg (·.2.1) i0
  have i4 : inf.size = 1 := congrArg (·.2.2) i0
  have hml : maxLen = 9223372036854775807 := by decide
  have own : W.ownsRow S0 39 inf.size av i (hdr A i) := by rw [i4]; exact h.p.ar
  have cw := s.cw
  have g1 : g.oneCell' = true := by
    obtain ⟨a, c, e, _⟩ := h.go.formO
    rw [e]; rfl
  obtain ⟨av', w', hr, ho, hg, hb, _⟩ := append_keeps (P := Tryz.prog) W S0 62 62 39 inf (.slice none 0 0) Tryz.underlying62 i1 i2 (by rw [i4]; rfl) (by omega) av _ _ own ⟨wr.heap.size, 0, none⟩ 1 1 [g] (by rw [i4]; rfl) (fun j u hj => by
    have : j = 0 := by have := (List.getElem?_eq_some_iff.1 hj).1; simp at this; omega
    subst this
    simp at hj
    subst hj
    exact hc) (fun u hu => by simp at hu; subst hu; exact g1) (by omega) (by omega) (by rw [i3]; omega) h.p.s0
  rw [i4] at ho
  have w0S := h.p.w0
  have sz := h.p.st.bf.size
  have vS : ∀ q, av.ownBlock = some q → S0 ≤ q ∧ q < E := h.vE
  have oth : ∀ (v : Value), (∀ q, v.ownBlock = some q → av.ownBlock ≠ some q) → v.ownBlock = none ∨ v.ownBlock ≠ av.ownBlock := fun v hq => by
    cases hv0 : v.ownBlock with
    | none => exact Or.inl rfl
    | some k => exact Or.inr (fun e => hq k hv0 e.symm)
  have low : ∀ q, q < w0.heap.size → av.ownBlock ≠ some q := fun q hq e => by have := (vS q e).1; omega
  have gav : ∀ q, g.ownBlock = some q → av.ownBlock ≠ some q := fun q e e2 => by
    obtain ⟨q1, q2⟩ := vS q e2
    rcases h.gb q e with c | c
    · have := (s.vb i hi q c).2; omega
    · omega
  have gS : ∀ q, g.ownBlock = some q → (V i).ownBlock = some q ∨ S0 ≤ q := fun q e => by
    rcases h.gb q e with c | c
    · exact Or.inl c
    · exact Or.inr (Nat.le_trans h.sE c)
  refine ⟨av', w', hr, ⟨⟨?_, World.ownsRow.kept h.p.st.hr hg (oth hv fun q e => low q (s.hb q e).2), fun j hj => World.ownsRow.kept (h.p.st.rows j hj) hg (oth (V j) fun q e => low q (s.vb j hj q e).2), h.p.st.bf.step hg (fun q e hq => absurd e (low q hq))⟩, fun j hj => ?_, fun j hj k e => ?_, ?_, fun j hj k e => ?_, Nat.le_trans h.p.s0 hg.size, h.p.w0⟩⟩
  · rw [World.cell?_of_block (w := W) (a := ⟨N, 2, none⟩) (hg.block N (by have := s.nw; omega) (fun e => low N s.nw e.symm))]
    exact h.p.st.cF
  · by_cases c : j = i
    · subst c
      simp only [if_true]
      exact World.ownsRow.kept h.go hg (oth g gav)
    · rw [if_neg c]
      exact World.ownsRow.kept (h.p.alls j (by omega)) hg (oth (A j) fun q e => h.p.aA j (by omega) q e)
  · by_cases c : j = i
    · subst c
      simp only [if_true] at e
      exact gS k e
    · rw [if_neg c] at e
      exact h.p.ab j (by omega) k e
  · show w'.ownsRow S0 39 1 av' (i + 1) (hdr (fun j => if j = i then g else A j) (i + 1))
    rw [hdr_snoc]
    exact ho
  · rcases hb with q | q
    · rw [q]
      by_cases c : j = i
      · subst c; simp only [if_true] at e; exact gav k e
      · rw [if_neg c] at e; exact h.p.aA j (by omega) k e
    · rw [q]
      intro e2
      injection e2 with e2
      by_cases c : j = i
      · subst c; simp only [if_true] at e; have := (h.go.bound e).2; omega
      · rw [if_neg c] at e; have := ((h.p.alls j (by omega)).bound e).2; omega
/-- a book in memory: what it has taken. -/
structure BK (O : Nat → Value) (N C m : Nat) (V : Nat → Value) (hv : Value) (G : Nat → List Value) (w : World) : Prop where
  sp : SPV w N C m V hv
  st : AS w N C m V hv G w
  nil : ∀ j, j < 28 → j ≠ 2 → w.cell? ⟨N, j, none⟩ = some (O j)
  fz : ∀ j, w.frozen? ⟨N, j, none⟩ = false
theorem BK.below {O : Nat → Value} {N C m : Nat} {V : Nat → Value} {hv : Value} {G : Nat → List Value} {w w' : World} (h : BK O N C m V hv G w) (hb : Below w.heap.size w w') : BK O N C m V hv G w' := by
  have s := h.st.below h.sp hb
  have sz := hb.size
  refine ⟨⟨h.sp.nC, by have := h.sp.nw; omega, by have := h.sp.cw; omega, fun i hi k e => by have := h.sp.vb i hi k e; omega, fun k e => by have := h.sp.hb k e; omega, h.sp.dis, h.sp.hd⟩, ⟨s.cF, s.hr, s.rows, BF.refl _ _ _⟩, fun j hj hne => ?_, fun j => ?_⟩
  · rw [hb.cell (p := ⟨N, j, none⟩) h.sp.nw]; exact h.nil j hj hne
  · rw [hb.frozen (p := ⟨N, j, none⟩) h.sp.nw]; exact h.fz j
theorem BK.start (w : World) : BK (fun _ => .slice none 0 0) w.heap.size (w.heap.size + 1) 0 (fun _ => undef) (.slice none 0 0) (fun _ => []) (w.alloc (.cells (Array.replicate 28 (.slice none 0 0)) 89)) := by
  have c : ∀ j, j < 28 → (w.alloc (.cells (Array.replicate 28 (.slice none 0 0)) 89)).cell? ⟨w.heap.size, j, none⟩ = some (.slice none 0 0) := fun j hj => by
    rw [World.cell?_alloc_at _ _ _ _ rfl, Array.getElem?_replicate, if_pos hj]
  refine ⟨⟨by omega, by simp, by simp, fun i hi => by omega, fun k e => (by cases e), fun i j hi => by omega, fun i hi => by omega⟩, ⟨c 2 (by omega), ⟨rfl, Or.inl ⟨rfl, rfl⟩⟩, fun j hj => by omega, BF.refl _ _ _⟩, fun j hj _ => c j hj, fun j => World.frozen?_alloc_at _ _ _ _ rfl⟩
/-- what a Take leaves. -/
def FRB (N : Nat) (w : World) (hv hv' : Value) (w' : World) : Prop := w.heap.size ≤ w'.heap.size ∧ (∀ k, k < w.heap.size → k ≠ N → hv.ownBlock ≠ some k → w'.heap[k]? = w.heap[k]?) ∧ ∀ k, hv'.ownBlock = some k → hv.ownBlock = some k ∨ w.heap.size ≤ k
/-- a list kept. -/
theorem BK.take {O : Nat → Value} {N C m : Nat} {V : Nat → Value} {hv : Value} {G : Nat → List Value} {w : World} {B : Nat} {v : Value} {l : List Value} (h0 : BK O N C m V hv G w) (o0 : OE w B v l) (hB : ∀ k, v.ownBlock = some k → C ≤ k ∧ hv.ownBlock ≠ some k ∧ ∀ j, j < m → (V j).ownBlock ≠ some k) (hm : m ≤ 4194304) :
    ∃ hv' w', (Builtin.append_ #[62, 62] 62 #[hv, .slice (some ⟨w.heap.size, 0, none⟩) 1 1]).run Tryz.prog (w.alloc (.cells #[v] 39)) = .ok hv' w' ∧ w'.cell? ⟨N, 2, none⟩ = some hv ∧ w'.frozen? ⟨N, 2, none⟩ = false ∧ BK O N C (m + 1) (fun j => if j = m then v else V j) hv' (fun j => if j = m then l else G j) (w'.setCell ⟨N, 2, none⟩ hv') ∧ Below N w (w'.setCell ⟨N, 2, none⟩ hv') ∧ FRB N w hv hv' (w'.setCell ⟨N, 2, none⟩ hv') := by
  obtain ⟨W, hW⟩ : ∃ W, W = w.alloc (.cells #[v] 39) := ⟨_, rfl⟩
  have bW : Below w.heap.size w W := by rw [hW]; exact (Below.refl _ w).alloc (Nat.le_refl _) _
  have sW : W.heap.size = w.heap.size + 1 := by rw [hW]; simp
  have hc : W.cell? ⟨w.heap.size, 0, none⟩ = some v := by rw [hW]; simp [go_sem]
  rw [← hW]
  have h := h0.below bW
  have o := o0.below bW (Nat.le_refl _)
  have vlt : ∀ k, v.ownBlock = some k → k < w.heap.size := fun k e => (o0.bound e).2
  have hlt0 : ∀ k, hv.ownBlock = some k → k < w.heap.size := fun k e => (h0.sp.hb k e).2
  have nw0 := h0.sp.nw
  obtain ⟨inf, i1, i0⟩ := Option.map_eq_some_iff.1 en_info2
  have i2 : inf.zero = some (.slice none 0 0) := congrArg (·.1) i0
  have i3 : inf.bytes = 24 := congrArg (·.2.1) i0
  have i4 : inf.size = 1 := congrArg (·.2.2) i0
  have hml : maxLen = 9223372036854775807 := by decide
  have own : W.ownsRow C 39 inf.size hv m (hdr V m) := by rw [i4]; exact h.st.hr
  have v1 : v.oneCell' = true := by
    obtain ⟨a, c, e, _⟩ := o.formO
    rw [e]; rfl
  obtain ⟨hv', w', hr, ho, hg, hb, _⟩ := append_keeps (P := Tryz.prog) W C 62 62 39 inf (.slice none 0 0) Tryz.underlying62 i1 i2 (by rw [i4]; rfl) (by omega) hv _ _ own ⟨w.heap.size, 0, none⟩ 1 1 [v] (by rw [i4]; rfl) (fun j u hj => by
    have : j = 0 := by have := (List.getElem?_eq_some_iff.1 hj).1; simp at this; omega
    subst this
    simp at hj
    subst hj
    exact hc) (fun u hu => by simp at hu; subst hu; exact v1) (by omega) (by omega) (by rw [i3]; omega) h.sp.cw
  rw [i4, ← hdr_snoc] at ho
  have hN : hv.ownBlock ≠ some N := fun e => by have := (h.sp.hb N e).1; have := h.sp.nC; omega
  have kN : w'.heap[N]? = W.heap[N]? := hg.block N h.sp.nw (fun e => hN e.symm)
  have cN : ∀ j, w'.cell? ⟨N, j, none⟩ = W.cell? ⟨N, j, none⟩ := fun j => World.cell?_of_block (w := W) (a := ⟨N, j, none⟩) kN
  have zN : ∀ j, w'.frozen? ⟨N, j, none⟩ = W.frozen? ⟨N, j, none⟩ := fun j => World.frozen?_of_block (w := W) (a := ⟨N, j, none⟩) kN
  have cF : w'.cell? ⟨N, 2, none⟩ = some hv := by rw [cN]; exact h.st.cF
  obtain ⟨W3, hW3⟩ : ∃ W3, W3 = w'.setCell ⟨N, 2, none⟩ hv' := ⟨_, rfl⟩
  have g3 : w'.grownBy W3 (some N) := by rw [hW3]; exact ⟨rfl, rfl, rfl, by simp, fun k hk q => Below.heap_setCell _ _ _ _ (fun e => q (by rw [e]))⟩
  have s3 : W3.heap.size = w'.heap.size := by rw [hW3]; simp
  have hvb : ∀ k, hv'.ownBlock = some k → C ≤ k ∧ k < W3.heap.size := fun k e => by rw [s3]; exact World.ownsRow.lt ho k e
  have hvn : ∀ k, hv'.ownBlock = some k → hv.ownBlock = some k ∨ k = W.heap.size := fun k e => by
    rcases hb with q | q
    · exact Or.inl (by rw [← q]; exact e)
    · rw [q] at e; injection e with e; exact Or.inr e.symm
  have cw := h.sp.cw
  have nC := h.sp.nC
  have sz := hg.size
  have oth : ∀ (u : Value), (∀ q, u.ownBlock = some q → hv.ownBlock ≠ some q) → u.ownBlock = none ∨ u.ownBlock ≠ hv.ownBlock := fun u hq => by
    cases hv0 : u.ownBlock with
    | none => exact Or.inl rfl
    | some k => exact Or.inr (fun e => hq k hv0 e.symm)
  have rowK : ∀ (u : Value) (B' : Nat) (l' : List Value), OE W B' u l' → (∀ q, u.ownBlock = some q → C ≤ q ∧ hv.ownBlock ≠ some q) → OE W3 B' u l' := fun u B' l' hu hq => World.ownsRow.kept (World.ownsRow.kept hu hg (oth u fun q e => (hq q e).2)) g3 (by
    cases hv0 : u.ownBlock with
    | none => exact Or.inl rfl
    | some k => exact Or.inr (fun e => by injection e with e; have := (hq k hv0).1; omega))
  have up : ∀ (u : Value) (B' : Nat) (l' : List Value), OE W3 B' u l' → (∀ q, u.ownBlock = some q → C ≤ q) → OE W3 C u l' := fun u B' l' hu hq => by
    refine ⟨hu.1, ?_⟩
    rcases hu.2 with h2 | ⟨g, cap, cur, e1, e2, e3⟩
    · exact Or.inl h2
    · exact Or.inr ⟨g, cap, cur, e1, hq g (by rw [e1]; rfl), e3⟩
  refine ⟨hv', w', hr, cF, by rw [zN]; exact h.fz 2, ?_⟩
  rw [← hW3]
  refine ⟨⟨⟨nC, by have := h.sp.nw; omega, by omega, fun i hi k e => ?_, hvb, fun i j hi hj hne k e e2 => ?_, fun i hi k e e2 => ?_⟩, ⟨?_, World.ownsRow.kept ho g3 (by
    cases hv0 : hv'.ownBlock with
    | none => exact Or.inl rfl
    | some k => exact Or.inr (fun e => by injection e with e; have := (hvb k hv0).1; omega)), fun j hj => ?_, BF.refl _ _ _⟩, fun j hj hne => ?_, fun j => ?_⟩, ?_, ?_⟩
  · by_cases c : i = m
    · simp only [if_pos c] at e; have := vlt k e; exact ⟨(hB k e).1, by omega⟩
    · simp only [if_neg c] at e; have := h0.sp.vb i (by omega) k e; omega
  · by_cases c : i = m
    · simp only [if_pos c] at e
      simp only [if_neg (show ¬ j = m by omega)] at e2
      exact (hB k e).2.2 j (by omega) e2
    · simp only [if_neg c] at e
      by_cases c2 : j = m
      · simp only [if_pos c2] at e2; exact (hB k e2).2.2 i (by omega) e
      · simp only [if_neg c2] at e2; exact h.sp.dis i j (by omega) (by omega) hne k e e2
  · by_cases c : i = m
    · simp only [if_pos c] at e
      rcases hvn k e2 with q | q
      · exact (hB k e).2.1 q
      · have := vlt k e; omega
    · simp only [if_neg c] at e
      rcases hvn k e2 with q | q
      · exact h.sp.hd i (by omega) k e q
      · have := (h0.sp.vb i (by omega) k e).2; omega
  · rw [hW3]; exact World.cell?_setCell_same _ _ _ cF
  · by_cases c : j = m
    · simp only [if_pos c]
      exact up v B l (rowK v B l o (fun q e => ⟨(hB q e).1, (hB q e).2.1⟩)) (fun q e => (hB q e).1)
    · simp only [if_neg c]
      exact rowK (V j) C _ (h.st.rows j (by omega)) (fun q e => ⟨(h.sp.vb j (by omega) q e).1, h.sp.hd j (by omega) q e⟩)
  · rw [hW3, World.cell?_setCell_other _ _ _ _ (by intro e; injection e; omega), cN]; exact h.nil j hj hne
  · rw [hW3, World.frozen?_setCell, zN]; exact h.fz j
  · have b1 : Below N w W := below_less bW (by omega)
    have b2 : Below N W w' := (Below.refl N W).grown hg (by omega) (fun k e => by have := (h.sp.hb k e).1; omega)
    have b3 : Below N w' W3 := (Below.refl N w').grown g3 (by omega) (fun k e => by injection e with e; omega)
    exact below_trans (below_trans b1 b2) b3
  · refine ⟨by omega, fun k hk hne hh => ?_, fun k e => ?_⟩
    · rw [g3.block k (by omega) (fun e => hne (by injection e)), hg.block k (by omega) (fun e => hh e.symm)]
      exact bW.block k hk
    · rcases hvn k e with q | q
      · exact Or.inl q
      · exact Or.inr (by omega)
end Go.Proofs.YtdfnomglkibfbaaGreatDoor.Bk2


namespace Go.Proofs.YtdfnomglkibfbaaGreatDoor.Bk2
open Go.RowKit
set_option linter.unusedVariables false
set_option linter.unusedSimpArgs false
set_option maxRecDepth 100000
theorem wpList_append_runB {P : Program} {ops : Array Oper} {rest : List Oper} {o : Oper} {a : Act} {Q : Exit → Act → World → Prop} {w : World} (hgd : o.guard = none) (s x : Operand) (t : TypeId)
    (ho : o.op = .call { callee := .builtin .append, args := #[s, x], argTypes := #[t, t] }) (v y v' : Value) (w' : World) (hs : a.eval s = v) (hx : a.eval x = y) (hr : (Builtin.append_ #[t, t] o.type #[v, y]).run P w = .ok v' w')
    (h : wpList P ops Q rest (a.put o.dst v') w') : wpList P ops Q (o :: rest) a w := by
  refine wpList_plain hgd fun K hK => ?_
  unfold Oper.wp execOp
  simp only [ho, resolve, invoke, builtin, Sem.run_bind, Sem.run_pure, Result.andThen_ok, List.map_toArray, List.map_cons, List.map_nil, hs, hx, hr]
  exact hK _ _ h
theorem nums_t (i n : Nat) (h : i < n) (hn : n ≤ 4398046511104) : (0 : Int) ≤ (i : Int) ∧ (i : Int) < (n : Int) ∧ IntKind.i64.wrap ((i : Int) + 1) = ((i + 1 : Nat) : Int) := ⟨by omega, by omega, IntWalk.i64_in _ (by omega)⟩
/-- a mark's number, as it is reckoned. -/
theorem nums_m (i : Nat) (h : i < 4398046511104) : xx i = .int .i64 (-7 - (i : Int)) ∧ IntKind.i64.wrap (-7 - (i : Int)) = -7 - (i : Int) ∧ wrap64 (-7 - (i : Int)) = -7 - (i : Int) := ⟨rfl, IntWalk.i64_in _ (by omega), IntWalk.wrap64_in _ (by omega)⟩
set_option maxHeartbeats 32000000 in
theorem aloneInts_any {w : World} {N C m : Nat} {V : Nat → Value} {hv : Value} {Lf : Nat → List Value} (sp : SPV w N C m V hv) (st : AS w N C m V hv Lf w) (hm : m ≤ 4194304) (hn : ∀ j, j < m → (Lf j).length ≤ 268435456) :
    Calls Tryz.prog 40 #[.pointer (some ⟨N, 0, none⟩)] w fun e w' => e = .returned (.bool true) ∧ BF V m w w' := by
  obtain ⟨ah, ch, rfl, hgh⟩ := st.hr.form
  have spH : Hid _ := sp
  have ghH : Hid (0 < m → ∃ hb, ah = some ⟨hb, 0, none⟩) := fun q => by
    obtain ⟨g, e, _⟩ := hgh q
    exact ⟨g, e⟩
  have hnH : Hid _ := hn
  have HC : Hid (∀ G W, AS w N C m V (.slice ah m ch) G W → ∀ hb, ah = some ⟨hb, 0, none⟩ → ∀ i, i < m → W.cell? ⟨hb, i, none⟩ = some (V i)) := fun G W s hb e i hi => by
    obtain ⟨a, c, e1, h2⟩ := s.hr.form
    obtain ⟨g, e3, _, h4⟩ := h2 (by omega)
    injection e1 with q1 _ _
    rw [← q1, e] at e3
    injection e3 with e3
    injection e3 with e3
    subst e3
    exact h4 i hi
  have st0 : Hid (AS w N C m V (.slice ah m ch) (L1 Lf 0 0) w) := ⟨st.cF, st.hr, fun j hj => by rw [L1_start]; exact st.rows j hj, st.bf⟩
  clear sp st hgh hn
  go_enter Tryz.func40, Tryz.ntmps40
  go_wp2_with fail
  go_loopw [3] (fun v3 wr => ∃ (i : Nat), v3 = .int .i64 (i : Int) ∧ i ≤ m ∧ Hid (AS w N C m V (.slice ah m ch) (L1 Lf i 0) wr)) (fun v3 _ => m - (intOf v3).toNat)
  case atStart => exact ⟨0, rfl, Nat.zero_le _, st0⟩
  case round =>
    clear st0
    obtain ⟨i, rfl, hil, hS⟩ := hrel
    have cF := hS.out.cF
    by_cases hi : i < m
    · obtain ⟨i0, iI, iw⟩ := nums_t i m hi (by omega)
      have nn := hnH.out i hi
      obtain ⟨n, hnE⟩ : ∃ n, n = (Lf i).length := ⟨_, rfl⟩
      rw [← hnE] at nn
      have o := hS.out.rows i hi
      obtain ⟨ai, ci, hVi, _, hgi⟩ := o.formO
      rw [L1_len Lf (Nat.zero_le _), ← hnE] at hVi hgi
      have VH : Hid (V i = .slice ai n ci) := hVi
      have LH : Hid (n = (Lf i).length) := hnE
      have giH : Hid (0 < n → ∃ g, ai = some ⟨g, 0, none⟩) := hgi
      obtain ⟨hb, rfl⟩ := ghH.out (by omega)
      clear o hVi hgi hnE
      go_wp2_with fail
      clear cF
      go_loopw [4] (fun v4 wx => ∃ (k : Nat), v4 = .int .i64 (k : Int) ∧ k ≤ n ∧ Hid (AS w N C m V (.slice (some ⟨hb, 0, none⟩) m ch) (L1 Lf i k) wx)) (fun v4 _ => n - (intOf v4).toNat)
      case atStart => exact ⟨0, rfl, Nat.zero_le _, hS⟩
      case round =>
        clear hS
        obtain ⟨k, rfl, hkl, hS⟩ := hrel
        have cF := hS.out.cF
        have hci := HC.out _ _ hS.out hb rfl i hi
        rw [VH.out] at hci
        by_cases hk : k < n
        · obtain ⟨k0, kI, kw⟩ := nums_t k n hk (by omega)
          obtain ⟨g, rfl⟩ := giH.out (by omega)
          obtain ⟨ex, m1, m2⟩ := nums_m i (by omega)
          obtain ⟨⟨y, d0⟩, z0, NX⟩ : (∃ y : Value, wr.cell? ⟨g, k, none⟩ = some y) ∧ wr.frozen? ⟨g, k, none⟩ = false ∧ Hid (AS w N C m V (.slice (some ⟨hb, 0, none⟩) m ch) (L1 Lf i (k + 1)) (wr.setCell ⟨g, k, none⟩ (.int .i64 (-7 - (i : Int))))) := by
            have s2 := hS.out
            have ll := L1_len Lf (i := i) (k := k) (by rw [← LH.out]; omega) i
            have o := s2.rows i hi
            rw [VH.out] at o
            have hcs := World.ownsRow.cells o (g := g) rfl
            have hk2 : k < (L1 Lf i k i).length := by rw [ll, ← LH.out]; exact hk
            have k1 := hcs k _ (List.getElem?_eq_getElem hk2)
            rw [add_lt0, Nat.zero_add] at k1
            have fz : ∀ q, wr.frozen? ⟨g, q, none⟩ = false := fun q => by
              obtain ⟨_, _, e3, _⟩ := o.formO
              injection e3 with _ e4 _
              rw [e4] at o
              exact World.ownsRow.frozenAt o q
            refine ⟨⟨_, k1⟩, fz _, ?_⟩
            have s3 := s2.put spH.out hi VH.out hk2 (xx i) (L1_set Lf (by rw [← LH.out]; exact hk)).symm (fun j hj q => L1_other Lf q)
            rw [ex] at s3
            exact s3
          clear hS ex
          go_wp2_with fail
          exact ⟨⟨k + 1, by first | rfl | go_num, hk, NX⟩, by first | (simp [intOf]; done) | (simp [intOf]; omega)⟩
        · have hlt : ¬ (k : Int) < (n : Int) := by omega
          have hS2 : Hid (AS w N C m V (.slice (some ⟨hb, 0, none⟩) m ch) (L1 Lf (i + 1) 0) wr) := by
            have s := hS.out
            have e : k = (Lf i).length := by have := LH.out; omega
            exact ⟨s.cF, s.hr, fun j hj => by have := s.rows j hj; rw [e, L1_next] at this; exact this, s.bf⟩
          clear hS
          go_wp2_with fail
          exact ⟨⟨i + 1, by first | rfl | go_num, hi, hS2⟩, by first | (simp [intOf]; done) | (simp [intOf]; omega)⟩
    · have hlt : ¬ (i : Int) < (m : Int) := by omega
      obtain ⟨S0, hS0⟩ : ∃ S0, S0 = wr.heap.size := ⟨_, rfl⟩
      have P0 : Hid (P2 w N C m V (.slice ah m ch) Lf S0 0 V (.slice none 0 0) wr) := by
        have s := hS.out
        have e : i = m := by omega
        refine ⟨⟨s.cF, s.hr, fun j hj => by have := s.rows j hj; rw [e, L1_end Lf hj] at this; exact this, s.bf⟩, fun j hj => by omega, fun j hj => by omega, ⟨rfl, Or.inl ⟨rfl, rfl⟩⟩, fun j hj => by omega, by omega, by rw [hS0]; exact s.bf.size⟩
      have lenV : Hid (∀ (W : World) (G : Nat → List Value), AS w N C m V (.slice ah m ch) G W → ∀ j, j < m → ∃ a c, V j = .slice a (G j).length c ∧ (0 < (G j).length → ∃ g, a = some ⟨g, 0, none⟩)) := fun W G s j hj => by
        obtain ⟨a, c, e, _, h⟩ := (s.rows j hj).formO
        exact ⟨a, c, e, h⟩
      clear hS hS0 hil hi
      go_wp2_with fail
      clear cF
      go_loopw [5, 6] (fun v5 v6 wx => ∃ (i : Nat) (A : Nat → Value), v6 = .int .i64 (i : Int) ∧ i ≤ m ∧ Hid (P2 w N C m V (.slice ah m ch) Lf S0 i A v5 wx)) (fun _ v6 _ => m - (intOf v6).toNat)
      case atStart => exact ⟨0, V, rfl, Nat.zero_le _, P0⟩
      case round =>
        clear P0
        obtain ⟨i, A, rfl, hil, hP⟩ := hrel
        obtain ⟨aa, ca, rfl, hga⟩ := hP.out.ar.form
        have cF := hP.out.st.cF
        by_cases hi : i < m
        · obtain ⟨i0, iI, iw⟩ := nums_t i m hi (by omega)
          have nn := hnH.out i hi
          obtain ⟨hb, rfl⟩ := ghH.out (by omega)
          have hci := HC.out _ _ hP.out.st hb rfl i hi
          obtain ⟨av, cv, hVi, _⟩ := lenV.out _ _ hP.out.st i hi
          have PG0 : Hid (PG w N C m V (.slice (some ⟨hb, 0, none⟩) m ch) Lf S0 i A (.slice aa i ca) wr.heap.size 0 (V i) wr) := PG.start hP.out hi
          rw [hVi] at hci PG0
          clear hP hVi hga
          generalize wr.heap.size = E at PG0
          go_wp2_with fail
          clear cF hci
          go_loopw [7, 8] (fun v7 v8 wx => ∃ (k : Nat), v8 = .int .i64 (k : Int) ∧ k ≤ 20 ∧ Hid (PG w N C m V (.slice (some ⟨hb, 0, none⟩) m ch) Lf S0 i A (.slice aa i ca) E k v7 wx)) (fun _ v8 _ => 20 - (intOf v8).toNat)
          case atStart => exact ⟨0, rfl, by omega, PG0⟩
          case round =>
            clear PG0
            obtain ⟨k, rfl, hkl, hG⟩ := hrel
            obtain ⟨ag, cg, rfl, _, _⟩ := hG.out.go.formO
            by_cases hk : k < 20
            · obtain ⟨k0, kI, kw⟩ := nums_t k 20 hk (by omega)
              have kI2 : (k : Int) < 20 := by omega
              obtain ⟨ex, m1, m2⟩ := nums_m i (by omega)
              obtain ⟨g', w4, hr, pg⟩ := hG.out.grow spH.out hi nn (by omega)
              rw [ex] at hr
              have hrH : Hid (∀ W, W = wr.alloc (.cells #[.int .i64 (-7 - (i : Int))] 3) → (Builtin.append_ #[39, 39] 39 #[.slice ag (rep2 Lf i k).length cg, .slice (some ⟨wr.heap.size, 0, none⟩) 1 1]).run Tryz.prog W = .ok g' w4) := fun W e => by subst e; exact hr
              have pgH : Hid _ := pg
              clear hG hr pg ex
              generalize (rep2 Lf i k).length = ng at *
              go_wp2_with (at_builtin; refine wpList_append_runB (by rfl) _ _ _ (by rfl) _ _ _ _ (by rfl) (by rfl) (hrH.out _ rfl) ?_)
              exact ⟨⟨k + 1, by first | rfl | go_num, by omega, pgH⟩, by first | (simp [intOf]; done) | (simp [intOf]; omega)⟩
            · have hke : k = 20 := by omega
              have hlt2 : ¬ (k : Int) < 20 := by omega
              have PN : Hid (∃ av' w', (Builtin.append_ #[62, 62] 62 #[.slice aa i ca, .slice (some ⟨wr.heap.size, 0, none⟩) 1 1]).run Tryz.prog (wr.alloc (.cells #[.slice ag (rep2 Lf i k).length cg] 39)) = .ok av' w' ∧ P2 w N C m V (.slice (some ⟨hb, 0, none⟩) m ch) Lf S0 (i + 1) (fun j => if j = i then .slice ag (rep2 Lf i k).length cg else A j) av' w') := by
                have := hG.out
                rw [hke] at this ⊢
                exact this.next spH.out hi hm
              obtain ⟨av', w5, hr, p2⟩ := PN.out
              have hrH : Hid (∀ W, W = wr.alloc (.cells #[.slice ag (rep2 Lf i k).length cg] 39) → (Builtin.append_ #[62, 62] 62 #[.slice aa i ca, .slice (some ⟨wr.heap.size, 0, none⟩) 1 1]).run Tryz.prog W = .ok av' w5) := fun W e => by subst e; exact hr
              have p2H : Hid (∃ A', P2 w N C m V (.slice (some ⟨hb, 0, none⟩) m ch) Lf S0 (i + 1) A' av' w5) := ⟨_, p2⟩
              clear PN hr p2 hG hke
              generalize (rep2 Lf i k).length = ng at *
              go_wp2_with (at_builtin; refine wpList_append_runB (by rfl) _ _ _ (by rfl) _ _ _ _ (by rfl) (by rfl) (hrH.out _ rfl) ?_)
              obtain ⟨A', p3⟩ := p2H.out
              exact ⟨⟨i + 1, A', by first | rfl | go_num, hi, p3⟩, by first | (simp [intOf]; done) | (simp [intOf]; omega)⟩
        · have hlt2 : ¬ (i : Int) < (m : Int) := by omega
          obtain rfl : m = i := by omega
          have hcA : Hid (∀ W, P2 w N C m V (.slice ah m ch) Lf S0 m A (.slice aa m ca) W → ∀ j, j < m → ∃ ga aj cj, aa = some ⟨ga, 0, none⟩ ∧ W.cell? ⟨ga, j, none⟩ = some (.slice aj ((Lf j).length + 20) cj) ∧ ∃ g, aj = some ⟨g, 0, none⟩ ∧ ∀ k, k < (Lf j).length + 20 → W.cell? ⟨g, k, none⟩ = some (xx j)) := fun W p j hj => by
            obtain ⟨a, c, e1, h2⟩ := p.ar.form
            obtain ⟨ga, e3, _, h4⟩ := h2 (by omega)
            injection e1 with q1 _ _
            have o := p.alls j hj
            have ll : (rep2 Lf j 20).length = (Lf j).length + 20 := by simp [rep2]
            obtain ⟨aj, cj, e5, _, h6⟩ := o.formO
            obtain ⟨g, rfl⟩ := h6 (by omega)
            refine ⟨ga, _, cj, by rw [q1, e3], by rw [h4 j hj, e5, ll], g, rfl, fun k hk => ?_⟩
            rw [e5] at o
            have hcs := World.ownsRow.cells o (g := g) rfl
            have k1 := hcs k (xx j) (get_rep _ _ hk)
            rw [add_lt0, Nat.zero_add] at k1
            exact k1
          have hcB : Hid (∀ W, P2 w N C m V (.slice ah m ch) Lf S0 m A (.slice aa m ca) W → ∀ j, j < m → ∃ hb aj cj, ah = some ⟨hb, 0, none⟩ ∧ W.cell? ⟨N, 2, none⟩ = some (.slice ah m ch) ∧ W.cell? ⟨hb, j, none⟩ = some (.slice aj (Lf j).length cj) ∧ (0 < (Lf j).length → ∃ g, aj = some ⟨g, 0, none⟩ ∧ ∀ k, k < (Lf j).length → W.cell? ⟨g, k, none⟩ = some (xx j))) := fun W p j hj => by
            obtain ⟨hb, eh⟩ := ghH.out (by omega)
            have hc := HC.out _ _ p.st hb eh j hj
            have o := p.st.rows j hj
            have ll : (rep Lf j).length = (Lf j).length := by simp [rep]
            obtain ⟨aj, cj, e5, _, h6⟩ := o.formO
            rw [e5, ll] at hc
            refine ⟨hb, aj, cj, eh, p.st.cF, hc, fun q => ?_⟩
            obtain ⟨g, rfl⟩ := h6 (by omega)
            refine ⟨g, rfl, fun k hk => ?_⟩
            rw [e5] at o
            have hcs := World.ownsRow.cells o (g := g) rfl
            have k1 := hcs k (xx j) (get_rep _ _ hk)
            rw [add_lt0, Nat.zero_add] at k1
            exact k1
          have hP3 : Hid _ := hP
          clear hP hga HC lenV hil hi ghH
          go_wp2_with fail
          clear cF
          go_loopw [9] (fun v9 wx => ∃ (i : Nat), v9 = .int .i64 (i : Int) ∧ i ≤ m ∧ Hid (P2 w N C m V (.slice ah m ch) Lf S0 m A (.slice aa m ca) wx)) (fun v9 _ => m - (intOf v9).toNat)
          case atStart => exact ⟨0, rfl, Nat.zero_le _, hP3⟩
          case round =>
            clear hP3
            obtain ⟨i, rfl, hil, hP⟩ := hrel
            by_cases hi : i < m
            · obtain ⟨i0, iI, iw⟩ := nums_t i m hi (by omega)
              have nn := hnH.out i hi
              obtain ⟨n, hnE⟩ : ∃ n, n = (Lf i).length := ⟨_, rfl⟩
              have FA : Hid (∀ W, P2 w N C m V (.slice ah m ch) Lf S0 m A (.slice aa m ca) W → ∃ ga aj cj, aa = some ⟨ga, 0, none⟩ ∧ W.cell? ⟨ga, i, none⟩ = some (.slice aj (n + 20) cj) ∧ ∃ g, aj = some ⟨g, 0, none⟩ ∧ ∀ k, k < n + 20 → W.cell? ⟨g, k, none⟩ = some (xx i)) := fun W p => by rw [hnE]; exact hcA.out W p i hi
              have FB : Hid (∀ W, P2 w N C m V (.slice ah m ch) Lf S0 m A (.slice aa m ca) W → ∃ hb aj cj, ah = some ⟨hb, 0, none⟩ ∧ W.cell? ⟨N, 2, none⟩ = some (.slice ah m ch) ∧ W.cell? ⟨hb, i, none⟩ = some (.slice aj n cj) ∧ (0 < n → ∃ g, aj = some ⟨g, 0, none⟩ ∧ ∀ k, k < n → W.cell? ⟨g, k, none⟩ = some (xx i))) := fun W p => by rw [hnE]; exact hcB.out W p i hi
              rw [← hnE] at nn
              clear hnE
              obtain ⟨ex, m1, m2⟩ := nums_m i (by omega)
              rw [ex] at FA FB
              clear ex
              go_wp2_with fail
              go_loopw [10] (fun v10 wx => ∃ (k : Nat), v10 = .int .i64 (k : Int) ∧ k ≤ n + 20 ∧ Hid (P2 w N C m V (.slice ah m ch) Lf S0 m A (.slice aa m ca) wx)) (fun v10 _ => n + 20 - (intOf v10).toNat)
              case atStart => exact ⟨0, rfl, Nat.zero_le _, hP⟩
              case round =>
                clear hP
                obtain ⟨k, rfl, hkl, hP⟩ := hrel
                obtain ⟨ga, aj, cj, rfl, e1, g, rfl, e2⟩ := FA.out wr hP.out
                by_cases hk : k < n + 20
                · obtain ⟨k0, kI, kw⟩ := nums_t k (n + 20) hk (by omega)
                  have e3 := e2 k hk
                  clear e2
                  go_wp2_with fail
                  exact ⟨⟨k + 1, by first | rfl | go_num, by omega, hP⟩, by first | (simp [intOf]; done) | (simp [intOf]; omega)⟩
                · have hlt3 : ¬ (k : Int) < ((n + 20 : Nat) : Int) := by omega
                  clear e2
                  go_wp2_with fail
                  clear e1
                  go_loopw [12] (fun v12 wx => ∃ (q : Nat), v12 = .int .i64 (q : Int) ∧ q ≤ n ∧ Hid (P2 w N C m V (.slice ah m ch) Lf S0 m A (.slice (some ⟨ga, 0, none⟩) m ca) wx)) (fun v12 _ => n - (intOf v12).toNat)
                  case atStart => exact ⟨0, rfl, Nat.zero_le _, hP⟩
                  case round =>
                    clear hP
                    obtain ⟨q, rfl, hql, hP⟩ := hrel
                    obtain ⟨hb, aj2, cj2, rfl, e0, e1, e2⟩ := FB.out wr hP.out
                    by_cases hq : q < n
                    · obtain ⟨q0, qI, qw⟩ := nums_t q n hq (by omega)
                      obtain ⟨g2, rfl, e5⟩ := e2 (by omega)
                      have e3 := e5 q hq
                      clear e2 e5
                      go_wp2_with fail
                      exact ⟨⟨q + 1, by first | rfl | go_num, hq, hP⟩, by first | (simp [intOf]; done) | (simp [intOf]; omega)⟩
                    · have hlt4 : ¬ (q : Int) < (n : Int) := by omega
                      clear e2
                      go_wp2_with fail
                      exact ⟨⟨i + 1, by first | rfl | go_num, hi, hP⟩, by first | (simp [intOf]; done) | (simp [intOf]; omega)⟩
            · have hlt5 : ¬ (i : Int) < (m : Int) := by omega
              have fin : Hid (BF V m w wr) := hP.out.st.bf
              clear hP
              go_wp2_with fail
              go_ret
              exact ⟨rfl, fin.out⟩
end Go.Proofs.YtdfnomglkibfbaaGreatDoor.Bk2


namespace Go.Proofs.YtdfnomglkibfbaaGreatDoor
open Go.RowKit
set_option linter.unusedVariables false
set_option linter.unusedSimpArgs false
set_option maxRecDepth 100000 in
theorem aloneBytes_none (N : Nat) (w : World) (h : w.cell? ⟨N, 0, none⟩ = some (.slice none 0 0)) : Calls Tryz.prog 38 #[.pointer (some ⟨N, 0, none⟩)] w fun e w' => e = .returned (.bool true) ∧ Below w.heap.size w w' := by
  go_enter Tryz.func38, Tryz.ntmps38
  go_wp2_with fail
  go_loopw [3] (fun i wr => i = .int .i64 0 ∧ wr = w) (fun _ _ => 0)
  case atStart => exact ⟨rfl, rfl⟩
  case round =>
    obtain ⟨rfl, hw⟩ := hrel
    have hw' := hw.symm
    subst hw'
    clear hw
    go_wp2_with fail
    go_loopw [5, 6] (fun al i wx => al = .slice none 0 0 ∧ i = .int .i64 0 ∧ wx = w) (fun _ _ _ => 0)
    case atStart => exact ⟨rfl, rfl, rfl⟩
    case round =>
      obtain ⟨rfl, rfl, hw⟩ := hrel
      have hw' := hw.symm
      subst hw'
      clear hw
      go_wp2_with fail
      go_loopw [9] (fun i wx => i = .int .i64 0 ∧ wx = w) (fun _ _ => 0)
      case atStart => exact ⟨rfl, rfl⟩
      case round =>
        obtain ⟨rfl, hw⟩ := hrel
        have hw' := hw.symm
        subst hw'
        clear hw
        go_wp2_with fail
        go_ret
        exact ⟨rfl, Below.refl _ _⟩
set_option maxRecDepth 100000 in
theorem aloneTexts_none (N : Nat) (w : World) (h : w.cell? ⟨N, 1, none⟩ = some (.slice none 0 0)) : Calls Tryz.prog 39 #[.pointer (some ⟨N, 0, none⟩)] w fun e w' => e = .returned (.bool true) ∧ Below w.heap.size w w' := by
  go_enter Tryz.func39, Tryz.ntmps39
  go_wp2_with fail
  go_loopw [3] (fun i wr => i = .int .i64 0 ∧ wr = w) (fun _ _ => 0)
  case atStart => exact ⟨rfl, rfl⟩
  case round =>
    obtain ⟨rfl, hw⟩ := hrel
    have hw' := hw.symm
    subst hw'
    clear hw
    go_wp2_with fail
    go_loopw [5, 6] (fun al i wx => al = .slice none 0 0 ∧ i = .int .i64 0 ∧ wx = w) (fun _ _ _ => 0)
    case atStart => exact ⟨rfl, rfl, rfl⟩
    case round =>
      obtain ⟨rfl, rfl, hw⟩ := hrel
      have hw' := hw.symm
      subst hw'
      clear hw
      go_wp2_with fail
      go_loopw [9] (fun i wx => i = .int .i64 0 ∧ wx = w) (fun _ _ => 0)
      case atStart => exact ⟨rfl, rfl⟩
      case round =>
        obtain ⟨rfl, hw⟩ := hrel
        have hw' := hw.symm
        subst hw'
        clear hw
        go_wp2_with fail
        go_ret
        exact ⟨rfl, Below.refl _ _⟩
set_option maxRecDepth 100000 in
theorem aloneInts_none (N : Nat) (w : World) (h : w.cell? ⟨N, 2, none⟩ = some (.slice none 0 0)) : Calls Tryz.prog 40 #[.pointer (some ⟨N, 0, none⟩)] w fun e w' => e = .returned (.bool true) ∧ Below w.heap.size w w' := by
  go_enter Tryz.func40, Tryz.ntmps40
  go_wp2_with fail
  go_loopw [3] (fun i wr => i = .int .i64 0 ∧ wr = w) (fun _ _ => 0)
  case atStart => exact ⟨rfl, rfl⟩
  case round =>
    obtain ⟨rfl, hw⟩ := hrel
    have hw' := hw.symm
    subst hw'
    clear hw
    go_wp2_with fail
    go_loopw [5, 6] (fun al i wx => al = .slice none 0 0 ∧ i = .int .i64 0 ∧ wx = w) (fun _ _ _ => 0)
    case atStart => exact ⟨rfl, rfl, rfl⟩
    case round =>
      obtain ⟨rfl, rfl, hw⟩ := hrel
      have hw' := hw.symm
      subst hw'
      clear hw
      go_wp2_with fail
      go_loopw [9] (fun i wx => i = .int .i64 0 ∧ wx = w) (fun _ _ => 0)
      case atStart => exact ⟨rfl, rfl⟩
      case round =>
        obtain ⟨rfl, hw⟩ := hrel
        have hw' := hw.symm
        subst hw'
        clear hw
        go_wp2_with fail
        go_ret
        exact ⟨rfl, Below.refl _ _⟩
set_option maxRecDepth 100000 in
theorem aloneInt64s_none (N : Nat) (w : World) (h : w.cell? ⟨N, 3, none⟩ = some (.slice none 0 0)) : Calls Tryz.prog 41 #[.pointer (some ⟨N, 0, none⟩)] w fun e w' => e = .returned (.bool true) ∧ Below w.heap.size w w' := by
  go_enter Tryz.func41, Tryz.ntmps41
  go_wp2_with fail
  go_loopw [3] (fun i wr => i = .int .i64 0 ∧ wr = w) (fun _ _ => 0)
  case atStart => exact ⟨rfl, rfl⟩
  case round =>
    obtain ⟨rfl, hw⟩ := hrel
    have hw' := hw.symm
    subst hw'
    clear hw
    go_wp2_with fail
    go_loopw [5, 6] (fun al i wx => al = .slice none 0 0 ∧ i = .int .i64 0 ∧ wx = w) (fun _ _ _ => 0)
    case atStart => exact ⟨rfl, rfl, rfl⟩
    case round =>
      obtain ⟨rfl, rfl, hw⟩ := hrel
      have hw' := hw.symm
      subst hw'
      clear hw
      go_wp2_with fail
      go_loopw [9] (fun i wx => i = .int .i64 0 ∧ wx = w) (fun _ _ => 0)
      case atStart => exact ⟨rfl, rfl⟩
      case round =>
        obtain ⟨rfl, hw⟩ := hrel
        have hw' := hw.symm
        subst hw'
        clear hw
        go_wp2_with fail
        go_ret
        exact ⟨rfl, Below.refl _ _⟩
set_option maxRecDepth 100000 in
theorem aloneUint64s_none (N : Nat) (w : World) (h : w.cell? ⟨N, 4, none⟩ = some (.slice none 0 0)) : Calls Tryz.prog 42 #[.pointer (some ⟨N, 0, none⟩)] w fun e w' => e = .returned (.bool true) ∧ Below w.heap.size w w' := by
  go_enter Tryz.func42, Tryz.ntmps42
  go_wp2_with fail
  go_loopw [3] (fun i wr => i = .int .i64 0 ∧ wr = w) (fun _ _ => 0)
  case atStart => exact ⟨rfl, rfl⟩
  case round =>
    obtain ⟨rfl, hw⟩ := hrel
    have hw' := hw.symm
    subst hw'
    clear hw
    go_wp2_with fail
    go_loopw [5, 6] (fun al i wx => al = .slice none 0 0 ∧ i = .int .i64 0 ∧ wx = w) (fun _ _ _ => 0)
    case atStart => exact ⟨rfl, rfl, rfl⟩
    case round =>
      obtain ⟨rfl, rfl, hw⟩ := hrel
      have hw' := hw.symm
      subst hw'
      clear hw
      go_wp2_with fail
      go_loopw [9] (fun i wx => i = .int .i64 0 ∧ wx = w) (fun _ _ => 0)
      case atStart => exact ⟨rfl, rfl⟩
      case round =>
        obtain ⟨rfl, hw⟩ := hrel
        have hw' := hw.symm
        subst hw'
        clear hw
        go_wp2_with fail
        go_ret
        exact ⟨rfl, Below.refl _ _⟩
set_option maxRecDepth 100000 in
theorem aloneTags_none (N : Nat) (w : World) (h : w.cell? ⟨N, 5, none⟩ = some (.slice none 0 0)) : Calls Tryz.prog 43 #[.pointer (some ⟨N, 0, none⟩)] w fun e w' => e = .returned (.bool true) ∧ Below w.heap.size w w' := by
  go_enter Tryz.func43, Tryz.ntmps43
  go_wp2_with fail
  go_loopw [3] (fun i wr => i = .int .i64 0 ∧ wr = w) (fun _ _ => 0)
  case atStart => exact ⟨rfl, rfl⟩
  case round =>
    obtain ⟨rfl, hw⟩ := hrel
    have hw' := hw.symm
    subst hw'
    clear hw
    go_wp2_with fail
    go_loopw [5, 6] (fun al i wx => al = .slice none 0 0 ∧ i = .int .i64 0 ∧ wx = w) (fun _ _ _ => 0)
    case atStart => exact ⟨rfl, rfl, rfl⟩
    case round =>
      obtain ⟨rfl, rfl, hw⟩ := hrel
      have hw' := hw.symm
      subst hw'
      clear hw
      go_wp2_with fail
      go_loopw [9] (fun i wx => i = .int .i64 0 ∧ wx = w) (fun _ _ => 0)
      case atStart => exact ⟨rfl, rfl⟩
      case round =>
        obtain ⟨rfl, hw⟩ := hrel
        have hw' := hw.symm
        subst hw'
        clear hw
        go_wp2_with fail
        go_ret
        exact ⟨rfl, Below.refl _ _⟩
set_option maxRecDepth 100000 in
theorem aloneFields_none (N : Nat) (w : World) (h : w.cell? ⟨N, 6, none⟩ = some (.slice none 0 0)) : Calls Tryz.prog 44 #[.pointer (some ⟨N, 0, none⟩)] w fun e w' => e = .returned (.bool true) ∧ Below w.heap.size w w' := by
  go_enter Tryz.func44, Tryz.ntmps44
  go_wp2_with fail
  go_loopw [3] (fun i wr => i = .int .i64 0 ∧ wr = w) (fun _ _ => 0)
  case atStart => exact ⟨rfl, rfl⟩
  case round =>
    obtain ⟨rfl, hw⟩ := hrel
    have hw' := hw.symm
    subst hw'
    clear hw
    go_wp2_with fail
    go_loopw [5, 6] (fun al i wx => al = .slice none 0 0 ∧ i = .int .i64 0 ∧ wx = w) (fun _ _ _ => 0)
    case atStart => exact ⟨rfl, rfl, rfl⟩
    case round =>
      obtain ⟨rfl, rfl, hw⟩ := hrel
      have hw' := hw.symm
      subst hw'
      clear hw
      go_wp2_with fail
      go_loopw [9] (fun i wx => i = .int .i64 0 ∧ wx = w) (fun _ _ => 0)
      case atStart => exact ⟨rfl, rfl⟩
      case round =>
        obtain ⟨rfl, hw⟩ := hrel
        have hw' := hw.symm
        subst hw'
        clear hw
        go_wp2_with fail
        go_ret
        exact ⟨rfl, Below.refl _ _⟩
set_option maxRecDepth 100000 in
theorem aloneSamples_none (N : Nat) (w : World) (h : w.cell? ⟨N, 7, none⟩ = some (.slice none 0 0)) : Calls Tryz.prog 45 #[.pointer (some ⟨N, 0, none⟩)] w fun e w' => e = .returned (.bool true) ∧ Below w.heap.size w w' := by
  go_enter Tryz.func45, Tryz.ntmps45
  go_wp2_with fail
  go_loopw [3] (fun i wr => i = .int .i64 0 ∧ wr = w) (fun _ _ => 0)
  case atStart => exact ⟨rfl, rfl⟩
  case round =>
    obtain ⟨rfl, hw⟩ := hrel
    have hw' := hw.symm
    subst hw'
    clear hw
    go_wp2_with fail
    go_loopw [5, 6] (fun al i wx => al = .slice none 0 0 ∧ i = .int .i64 0 ∧ wx = w) (fun _ _ _ => 0)
    case atStart => exact ⟨rfl, rfl, rfl⟩
    case round =>
      obtain ⟨rfl, rfl, hw⟩ := hrel
      have hw' := hw.symm
      subst hw'
      clear hw
      go_wp2_with fail
      go_loopw [9] (fun i wx => i = .int .i64 0 ∧ wx = w) (fun _ _ => 0)
      case atStart => exact ⟨rfl, rfl⟩
      case round =>
        obtain ⟨rfl, hw⟩ := hrel
        have hw' := hw.symm
        subst hw'
        clear hw
        go_wp2_with fail
        go_ret
        exact ⟨rfl, Below.refl _ _⟩
set_option maxRecDepth 100000 in
theorem aloneNodes_none (N : Nat) (w : World) (h : w.cell? ⟨N, 8, none⟩ = some (.slice none 0 0)) : Calls Tryz.prog 46 #[.pointer (some ⟨N, 0, none⟩)] w fun e w' => e = .returned (.bool true) ∧ Below w.heap.size w w' := by
  go_enter Tryz.func46, Tryz.ntmps46
  go_wp2_with fail
  go_loopw [3] (fun i wr => i = .int .i64 0 ∧ wr = w) (fun _ _ => 0)
  case atStart => exact ⟨rfl, rfl⟩
  case round =>
    obtain ⟨rfl, hw⟩ := hrel
    have hw' := hw.symm
    subst hw'
    clear hw
    go_wp2_with fail
    go_loopw [5, 6] (fun al i wx => al = .slice none 0 0 ∧ i = .int .i64 0 ∧ wx = w) (fun _ _ _ => 0)
    case atStart => exact ⟨rfl, rfl, rfl⟩
    case round =>
      obtain ⟨rfl, rfl, hw⟩ := hrel
      have hw' := hw.symm
      subst hw'
      clear hw
      go_wp2_with fail
      go_loopw [9] (fun i wx => i = .int .i64 0 ∧ wx = w) (fun _ _ => 0)
      case atStart => exact ⟨rfl, rfl⟩
      case round =>
        obtain ⟨rfl, hw⟩ := hrel
        have hw' := hw.symm
        subst hw'
        clear hw
        go_wp2_with fail
        go_ret
        exact ⟨rfl, Below.refl _ _⟩
set_option maxRecDepth 100000 in
theorem aloneLabels_none (N : Nat) (w : World) (h : w.cell? ⟨N, 9, none⟩ = some (.slice none 0 0)) : Calls Tryz.prog 47 #[.pointer (some ⟨N, 0, none⟩)] w fun e w' => e = .returned (.bool true) ∧ Below w.heap.size w w' := by
  go_enter Tryz.func47, Tryz.ntmps47
  go_wp2_with fail
  go_loopw [3] (fun i wr => i = .int .i64 0 ∧ wr = w) (fun _ _ => 0)
  case atStart => exact ⟨rfl, rfl⟩
  case round =>
    obtain ⟨rfl, hw⟩ := hrel
    have hw' := hw.symm
    subst hw'
    clear hw
    go_wp2_with fail
    go_loopw [5, 6] (fun al i wx => al = .slice none 0 0 ∧ i = .int .i64 0 ∧ wx = w) (fun _ _ _ => 0)
    case atStart => exact ⟨rfl, rfl, rfl⟩
    case round =>
      obtain ⟨rfl, rfl, hw⟩ := hrel
      have hw' := hw.symm
      subst hw'
      clear hw
      go_wp2_with fail
      go_loopw [9] (fun i wx => i = .int .i64 0 ∧ wx = w) (fun _ _ => 0)
      case atStart => exact ⟨rfl, rfl⟩
      case round =>
        obtain ⟨rfl, hw⟩ := hrel
        have hw' := hw.symm
        subst hw'
        clear hw
        go_wp2_with fail
        go_ret
        exact ⟨rfl, Below.refl _ _⟩
set_option maxRecDepth 100000 in
theorem aloneAccs_none (N : Nat) (w : World) (h : w.cell? ⟨N, 10, none⟩ = some (.slice none 0 0)) : Calls Tryz.prog 48 #[.pointer (some ⟨N, 0, none⟩)] w fun e w' => e = .returned (.bool true) ∧ Below w.heap.size w w' := by
  go_enter Tryz.func48, Tryz.ntmps48
  go_wp2_with fail
  go_loopw [3] (fun i wr => i = .int .i64 0 ∧ wr = w) (fun _ _ => 0)
  case atStart => exact ⟨rfl, rfl⟩
  case round =>
    obtain ⟨rfl, hw⟩ := hrel
    have hw' := hw.symm
    subst hw'
    clear hw
    go_wp2_with fail
    go_loopw [5, 6] (fun al i wx => al = .slice none 0 0 ∧ i = .int .i64 0 ∧ wx = w) (fun _ _ _ => 0)
    case atStart => exact ⟨rfl, rfl, rfl⟩
    case round =>
      obtain ⟨rfl, rfl, hw⟩ := hrel
      have hw' := hw.symm
      subst hw'
      clear hw
      go_wp2_with fail
      go_loopw [9] (fun i wx => i = .int .i64 0 ∧ wx = w) (fun _ _ => 0)
      case atStart => exact ⟨rfl, rfl⟩
      case round =>
        obtain ⟨rfl, hw⟩ := hrel
        have hw' := hw.symm
        subst hw'
        clear hw
        go_wp2_with fail
        go_ret
        exact ⟨rfl, Below.refl _ _⟩
set_option maxRecDepth 100000 in
theorem aloneInses_none (N : Nat) (w : World) (h : w.cell? ⟨N, 11, none⟩ = some (.slice none 0 0)) : Calls Tryz.prog 49 #[.pointer (some ⟨N, 0, none⟩)] w fun e w' => e = .returned (.bool true) ∧ Below w.heap.size w w' := by
  go_enter Tryz.func49, Tryz.ntmps49
  go_wp2_with fail
  go_loopw [3] (fun i wr => i = .int .i64 0 ∧ wr = w) (fun _ _ => 0)
  case atStart => exact ⟨rfl, rfl⟩
  case round =>
    obtain ⟨rfl, hw⟩ := hrel
    have hw' := hw.symm
    subst hw'
    clear hw
    go_wp2_with fail
    go_loopw [5, 6] (fun al i wx => al = .slice none 0 0 ∧ i = .int .i64 0 ∧ wx = w) (fun _ _ _ => 0)
    case atStart => exact ⟨rfl, rfl, rfl⟩
    case round =>
      obtain ⟨rfl, rfl, hw⟩ := hrel
      have hw' := hw.symm
      subst hw'
      clear hw
      go_wp2_with fail
      go_loopw [9] (fun i wx => i = .int .i64 0 ∧ wx = w) (fun _ _ => 0)
      case atStart => exact ⟨rfl, rfl⟩
      case round =>
        obtain ⟨rfl, hw⟩ := hrel
        have hw' := hw.symm
        subst hw'
        clear hw
        go_wp2_with fail
        go_ret
        exact ⟨rfl, Below.refl _ _⟩
set_option maxRecDepth 100000 in
theorem aloneEntries_none (N : Nat) (w : World) (h : w.cell? ⟨N, 12, none⟩ = some (.slice none 0 0)) : Calls Tryz.prog 50 #[.pointer (some ⟨N, 0, none⟩)] w fun e w' => e = .returned (.bool true) ∧ Below w.heap.size w w' := by
  go_enter Tryz.func50, Tryz.ntmps50
  go_wp2_with fail
  go_loopw [3] (fun i wr => i = .int .i64 0 ∧ wr = w) (fun _ _ => 0)
  case atStart => exact ⟨rfl, rfl⟩
  case round =>
    obtain ⟨rfl, hw⟩ := hrel
    have hw' := hw.symm
    subst hw'
    clear hw
    go_wp2_with fail
    go_loopw [5, 6] (fun al i wx => al = .slice none 0 0 ∧ i = .int .i64 0 ∧ wx = w) (fun _ _ _ => 0)
    case atStart => exact ⟨rfl, rfl, rfl⟩
    case round =>
      obtain ⟨rfl, rfl, hw⟩ := hrel
      have hw' := hw.symm
      subst hw'
      clear hw
      go_wp2_with fail
      go_loopw [9] (fun i wx => i = .int .i64 0 ∧ wx = w) (fun _ _ => 0)
      case atStart => exact ⟨rfl, rfl⟩
      case round =>
        obtain ⟨rfl, hw⟩ := hrel
        have hw' := hw.symm
        subst hw'
        clear hw
        go_wp2_with fail
        go_ret
        exact ⟨rfl, Below.refl _ _⟩
set_option maxRecDepth 100000 in
theorem aloneTold_none (N : Nat) (w : World) (h : w.cell? ⟨N, 13, none⟩ = some (.slice none 0 0)) : Calls Tryz.prog 51 #[.pointer (some ⟨N, 0, none⟩)] w fun e w' => e = .returned (.bool true) ∧ Below w.heap.size w w' := by
  go_enter Tryz.func51, Tryz.ntmps51
  go_wp2_with fail
  go_loopw [3] (fun i wr => i = .int .i64 0 ∧ wr = w) (fun _ _ => 0)
  case atStart => exact ⟨rfl, rfl⟩
  case round =>
    obtain ⟨rfl, hw⟩ := hrel
    have hw' := hw.symm
    subst hw'
    clear hw
    go_wp2_with fail
    go_loopw [5, 6] (fun al i wx => al = .slice none 0 0 ∧ i = .int .i64 0 ∧ wx = w) (fun _ _ _ => 0)
    case atStart => exact ⟨rfl, rfl, rfl⟩
    case round =>
      obtain ⟨rfl, rfl, hw⟩ := hrel
      have hw' := hw.symm
      subst hw'
      clear hw
      go_wp2_with fail
      go_loopw [9] (fun i wx => i = .int .i64 0 ∧ wx = w) (fun _ _ => 0)
      case atStart => exact ⟨rfl, rfl⟩
      case round =>
        obtain ⟨rfl, hw⟩ := hrel
        have hw' := hw.symm
        subst hw'
        clear hw
        go_wp2_with fail
        go_ret
        exact ⟨rfl, Below.refl _ _⟩
set_option maxRecDepth 100000 in
theorem aloneTokens_none (N : Nat) (w : World) (h : w.cell? ⟨N, 14, none⟩ = some (.slice none 0 0)) : Calls Tryz.prog 52 #[.pointer (some ⟨N, 0, none⟩)] w fun e w' => e = .returned (.bool true) ∧ Below w.heap.size w w' := by
  go_enter Tryz.func52, Tryz.ntmps52
  go_wp2_with fail
  go_loopw [3] (fun i wr => i = .int .i64 0 ∧ wr = w) (fun _ _ => 0)
  case atStart => exact ⟨rfl, rfl⟩
  case round =>
    obtain ⟨rfl, hw⟩ := hrel
    have hw' := hw.symm
    subst hw'
    clear hw
    go_wp2_with fail
    go_loopw [5, 6] (fun al i wx => al = .slice none 0 0 ∧ i = .int .i64 0 ∧ wx = w) (fun _ _ _ => 0)
    case atStart => exact ⟨rfl, rfl, rfl⟩
    case round =>
      obtain ⟨rfl, rfl, hw⟩ := hrel
      have hw' := hw.symm
      subst hw'
      clear hw
      go_wp2_with fail
      go_loopw [9] (fun i wx => i = .int .i64 0 ∧ wx = w) (fun _ _ => 0)
      case atStart => exact ⟨rfl, rfl⟩
      case round =>
        obtain ⟨rfl, hw⟩ := hrel
        have hw' := hw.symm
        subst hw'
        clear hw
        go_wp2_with fail
        go_ret
        exact ⟨rfl, Below.refl _ _⟩
set_option maxRecDepth 100000 in
theorem aloneSlots_none (N : Nat) (w : World) (h : w.cell? ⟨N, 15, none⟩ = some (.slice none 0 0)) : Calls Tryz.prog 53 #[.pointer (some ⟨N, 0, none⟩)] w fun e w' => e = .returned (.bool true) ∧ Below w.heap.size w w' := by
  go_enter Tryz.func53, Tryz.ntmps53
  go_wp2_with fail
  go_loopw [3] (fun i wr => i = .int .i64 0 ∧ wr = w) (fun _ _ => 0)
  case atStart => exact ⟨rfl, rfl⟩
  case round =>
    obtain ⟨rfl, hw⟩ := hrel
    have hw' := hw.symm
    subst hw'
    clear hw
    go_wp2_with fail
    go_loopw [5, 6] (fun al i wx => al = .slice none 0 0 ∧ i = .int .i64 0 ∧ wx = w) (fun _ _ _ => 0)
    case atStart => exact ⟨rfl, rfl, rfl⟩
    case round =>
      obtain ⟨rfl, rfl, hw⟩ := hrel
      have hw' := hw.symm
      subst hw'
      clear hw
      go_wp2_with fail
      go_loopw [9] (fun i wx => i = .int .i64 0 ∧ wx = w) (fun _ _ => 0)
      case atStart => exact ⟨rfl, rfl⟩
      case round =>
        obtain ⟨rfl, hw⟩ := hrel
        have hw' := hw.symm
        subst hw'
        clear hw
        go_wp2_with fail
        go_ret
        exact ⟨rfl, Below.refl _ _⟩
set_option maxRecDepth 100000 in
theorem aloneFates_none (N : Nat) (w : World) (h : w.cell? ⟨N, 16, none⟩ = some (.slice none 0 0)) : Calls Tryz.prog 54 #[.pointer (some ⟨N, 0, none⟩)] w fun e w' => e = .returned (.bool true) ∧ Below w.heap.size w w' := by
  go_enter Tryz.func54, Tryz.ntmps54
  go_wp2_with fail
  go_loopw [3] (fun i wr => i = .int .i64 0 ∧ wr = w) (fun _ _ => 0)
  case atStart => exact ⟨rfl, rfl⟩
  case round =>
    obtain ⟨rfl, hw⟩ := hrel
    have hw' := hw.symm
    subst hw'
    clear hw
    go_wp2_with fail
    go_loopw [5, 6] (fun al i wx => al = .slice none 0 0 ∧ i = .int .i64 0 ∧ wx = w) (fun _ _ _ => 0)
    case atStart => exact ⟨rfl, rfl, rfl⟩
    case round =>
      obtain ⟨rfl, rfl, hw⟩ := hrel
      have hw' := hw.symm
      subst hw'
      clear hw
      go_wp2_with fail
      go_loopw [9] (fun i wx => i = .int .i64 0 ∧ wx = w) (fun _ _ => 0)
      case atStart => exact ⟨rfl, rfl⟩
      case round =>
        obtain ⟨rfl, hw⟩ := hrel
        have hw' := hw.symm
        subst hw'
        clear hw
        go_wp2_with fail
        go_ret
        exact ⟨rfl, Below.refl _ _⟩
set_option maxRecDepth 100000 in
theorem alonePoints_none (N : Nat) (w : World) (h : w.cell? ⟨N, 17, none⟩ = some (.slice none 0 0)) : Calls Tryz.prog 55 #[.pointer (some ⟨N, 0, none⟩)] w fun e w' => e = .returned (.bool true) ∧ Below w.heap.size w w' := by
  go_enter Tryz.func55, Tryz.ntmps55
  go_wp2_with fail
  go_loopw [3] (fun i wr => i = .int .i64 0 ∧ wr = w) (fun _ _ => 0)
  case atStart => exact ⟨rfl, rfl⟩
  case round =>
    obtain ⟨rfl, hw⟩ := hrel
    have hw' := hw.symm
    subst hw'
    clear hw
    go_wp2_with fail
    go_loopw [5, 6] (fun al i wx => al = .slice none 0 0 ∧ i = .int .i64 0 ∧ wx = w) (fun _ _ _ => 0)
    case atStart => exact ⟨rfl, rfl, rfl⟩
    case round =>
      obtain ⟨rfl, rfl, hw⟩ := hrel
      have hw' := hw.symm
      subst hw'
      clear hw
      go_wp2_with fail
      go_loopw [9] (fun i wx => i = .int .i64 0 ∧ wx = w) (fun _ _ => 0)
      case atStart => exact ⟨rfl, rfl⟩
      case round =>
        obtain ⟨rfl, hw⟩ := hrel
        have hw' := hw.symm
        subst hw'
        clear hw
        go_wp2_with fail
        go_ret
        exact ⟨rfl, Below.refl _ _⟩
set_option maxRecDepth 100000 in
theorem aloneWrites_none (N : Nat) (w : World) (h : w.cell? ⟨N, 18, none⟩ = some (.slice none 0 0)) : Calls Tryz.prog 56 #[.pointer (some ⟨N, 0, none⟩)] w fun e w' => e = .returned (.bool true) ∧ Below w.heap.size w w' := by
  go_enter Tryz.func56, Tryz.ntmps56
  go_wp2_with fail
  go_loopw [3] (fun i wr => i = .int .i64 0 ∧ wr = w) (fun _ _ => 0)
  case atStart => exact ⟨rfl, rfl⟩
  case round =>
    obtain ⟨rfl, hw⟩ := hrel
    have hw' := hw.symm
    subst hw'
    clear hw
    go_wp2_with fail
    go_loopw [5, 6] (fun al i wx => al = .slice none 0 0 ∧ i = .int .i64 0 ∧ wx = w) (fun _ _ _ => 0)
    case atStart => exact ⟨rfl, rfl, rfl⟩
    case round =>
      obtain ⟨rfl, rfl, hw⟩ := hrel
      have hw' := hw.symm
      subst hw'
      clear hw
      go_wp2_with fail
      go_loopw [9] (fun i wx => i = .int .i64 0 ∧ wx = w) (fun _ _ => 0)
      case atStart => exact ⟨rfl, rfl⟩
      case round =>
        obtain ⟨rfl, hw⟩ := hrel
        have hw' := hw.symm
        subst hw'
        clear hw
        go_wp2_with fail
        go_ret
        exact ⟨rfl, Below.refl _ _⟩
set_option maxRecDepth 100000 in
theorem aloneDeltas_none (N : Nat) (w : World) (h : w.cell? ⟨N, 19, none⟩ = some (.slice none 0 0)) : Calls Tryz.prog 57 #[.pointer (some ⟨N, 0, none⟩)] w fun e w' => e = .returned (.bool true) ∧ Below w.heap.size w w' := by
  go_enter Tryz.func57, Tryz.ntmps57
  go_wp2_with fail
  go_loopw [3] (fun i wr => i = .int .i64 0 ∧ wr = w) (fun _ _ => 0)
  case atStart => exact ⟨rfl, rfl⟩
  case round =>
    obtain ⟨rfl, hw⟩ := hrel
    have hw' := hw.symm
    subst hw'
    clear hw
    go_wp2_with fail
    go_loopw [5, 6] (fun al i wx => al = .slice none 0 0 ∧ i = .int .i64 0 ∧ wx = w) (fun _ _ _ => 0)
    case atStart => exact ⟨rfl, rfl, rfl⟩
    case round =>
      obtain ⟨rfl, rfl, hw⟩ := hrel
      have hw' := hw.symm
      subst hw'
      clear hw
      go_wp2_with fail
      go_loopw [9] (fun i wx => i = .int .i64 0 ∧ wx = w) (fun _ _ => 0)
      case atStart => exact ⟨rfl, rfl⟩
      case round =>
        obtain ⟨rfl, hw⟩ := hrel
        have hw' := hw.symm
        subst hw'
        clear hw
        go_wp2_with fail
        go_ret
        exact ⟨rfl, Below.refl _ _⟩
set_option maxRecDepth 100000 in
theorem aloneSeriesList_none (N : Nat) (w : World) (h : w.cell? ⟨N, 20, none⟩ = some (.slice none 0 0)) : Calls Tryz.prog 58 #[.pointer (some ⟨N, 0, none⟩)] w fun e w' => e = .returned (.bool true) ∧ Below w.heap.size w w' := by
  go_enter Tryz.func58, Tryz.ntmps58
  go_wp2_with fail
  go_loopw [3] (fun i wr => i = .int .i64 0 ∧ wr = w) (fun _ _ => 0)
  case atStart => exact ⟨rfl, rfl⟩
  case round =>
    obtain ⟨rfl, hw⟩ := hrel
    have hw' := hw.symm
    subst hw'
    clear hw
    go_wp2_with fail
    go_loopw [5, 6] (fun al i wx => al = .slice none 0 0 ∧ i = .int .i64 0 ∧ wx = w) (fun _ _ _ => 0)
    case atStart => exact ⟨rfl, rfl, rfl⟩
    case round =>
      obtain ⟨rfl, rfl, hw⟩ := hrel
      have hw' := hw.symm
      subst hw'
      clear hw
      go_wp2_with fail
      go_loopw [9] (fun i wx => i = .int .i64 0 ∧ wx = w) (fun _ _ => 0)
      case atStart => exact ⟨rfl, rfl⟩
      case round =>
        obtain ⟨rfl, hw⟩ := hrel
        have hw' := hw.symm
        subst hw'
        clear hw
        go_wp2_with fail
        go_ret
        exact ⟨rfl, Below.refl _ _⟩
set_option maxRecDepth 100000 in
theorem aloneItems_none (N : Nat) (w : World) (h : w.cell? ⟨N, 21, none⟩ = some (.slice none 0 0)) : Calls Tryz.prog 59 #[.pointer (some ⟨N, 0, none⟩)] w fun e w' => e = .returned (.bool true) ∧ Below w.heap.size w w' := by
  go_enter Tryz.func59, Tryz.ntmps59
  go_wp2_with fail
  go_loopw [3] (fun i wr => i = .int .i64 0 ∧ wr = w) (fun _ _ => 0)
  case atStart => exact ⟨rfl, rfl⟩
  case round =>
    obtain ⟨rfl, hw⟩ := hrel
    have hw' := hw.symm
    subst hw'
    clear hw
    go_wp2_with fail
    go_loopw [5, 6] (fun al i wx => al = .slice none 0 0 ∧ i = .int .i64 0 ∧ wx = w) (fun _ _ _ => 0)
    case atStart => exact ⟨rfl, rfl, rfl⟩
    case round =>
      obtain ⟨rfl, rfl, hw⟩ := hrel
      have hw' := hw.symm
      subst hw'
      clear hw
      go_wp2_with fail
      go_loopw [9] (fun i wx => i = .int .i64 0 ∧ wx = w) (fun _ _ => 0)
      case atStart => exact ⟨rfl, rfl⟩
      case round =>
        obtain ⟨rfl, hw⟩ := hrel
        have hw' := hw.symm
        subst hw'
        clear hw
        go_wp2_with fail
        go_ret
        exact ⟨rfl, Below.refl _ _⟩
set_option maxRecDepth 100000 in
theorem aloneTables_none (N : Nat) (w : World) (h : w.cell? ⟨N, 22, none⟩ = some (.slice none 0 0)) : Calls Tryz.prog 60 #[.pointer (some ⟨N, 0, none⟩)] w fun e w' => e = .returned (.bool true) ∧ Below w.heap.size w w' := by
  go_enter Tryz.func60, Tryz.ntmps60
  go_wp2_with fail
  go_loopw [3] (fun i wr => i = .int .i64 0 ∧ wr = w) (fun _ _ => 0)
  case atStart => exact ⟨rfl, rfl⟩
  case round =>
    obtain ⟨rfl, hw⟩ := hrel
    have hw' := hw.symm
    subst hw'
    clear hw
    go_wp2_with fail
    go_loopw [5, 6] (fun al i wx => al = .slice none 0 0 ∧ i = .int .i64 0 ∧ wx = w) (fun _ _ _ => 0)
    case atStart => exact ⟨rfl, rfl, rfl⟩
    case round =>
      obtain ⟨rfl, rfl, hw⟩ := hrel
      have hw' := hw.symm
      subst hw'
      clear hw
      go_wp2_with fail
      go_loopw [9] (fun i wx => i = .int .i64 0 ∧ wx = w) (fun _ _ => 0)
      case atStart => exact ⟨rfl, rfl⟩
      case round =>
        obtain ⟨rfl, hw⟩ := hrel
        have hw' := hw.symm
        subst hw'
        clear hw
        go_wp2_with fail
        go_ret
        exact ⟨rfl, Below.refl _ _⟩
set_option maxRecDepth 100000 in
theorem aloneOuts_none (N : Nat) (w : World) (h : w.cell? ⟨N, 23, none⟩ = some (.slice none 0 0)) : Calls Tryz.prog 61 #[.pointer (some ⟨N, 0, none⟩)] w fun e w' => e = .returned (.bool true) ∧ Below w.heap.size w w' := by
  go_enter Tryz.func61, Tryz.ntmps61
  go_wp2_with fail
  go_loopw [3] (fun i wr => i = .int .i64 0 ∧ wr = w) (fun _ _ => 0)
  case atStart => exact ⟨rfl, rfl⟩
  case round =>
    obtain ⟨rfl, hw⟩ := hrel
    have hw' := hw.symm
    subst hw'
    clear hw
    go_wp2_with fail
    go_loopw [5, 6] (fun al i wx => al = .slice none 0 0 ∧ i = .int .i64 0 ∧ wx = w) (fun _ _ _ => 0)
    case atStart => exact ⟨rfl, rfl, rfl⟩
    case round =>
      obtain ⟨rfl, rfl, hw⟩ := hrel
      have hw' := hw.symm
      subst hw'
      clear hw
      go_wp2_with fail
      go_loopw [9] (fun i wx => i = .int .i64 0 ∧ wx = w) (fun _ _ => 0)
      case atStart => exact ⟨rfl, rfl⟩
      case round =>
        obtain ⟨rfl, hw⟩ := hrel
        have hw' := hw.symm
        subst hw'
        clear hw
        go_wp2_with fail
        go_ret
        exact ⟨rfl, Below.refl _ _⟩
set_option maxRecDepth 100000 in
theorem aloneTextLists_none (N : Nat) (w : World) (h : w.cell? ⟨N, 24, none⟩ = some (.slice none 0 0)) : Calls Tryz.prog 62 #[.pointer (some ⟨N, 0, none⟩)] w fun e w' => e = .returned (.bool true) ∧ Below w.heap.size w w' := by
  go_enter Tryz.func62, Tryz.ntmps62
  go_wp2_with fail
  go_loopw [3] (fun i wr => i = .int .i64 0 ∧ wr = w) (fun _ _ => 0)
  case atStart => exact ⟨rfl, rfl⟩
  case round =>
    obtain ⟨rfl, hw⟩ := hrel
    have hw' := hw.symm
    subst hw'
    clear hw
    go_wp2_with fail
    go_loopw [5, 6] (fun al i wx => al = .slice none 0 0 ∧ i = .int .i64 0 ∧ wx = w) (fun _ _ _ => 0)
    case atStart => exact ⟨rfl, rfl, rfl⟩
    case round =>
      obtain ⟨rfl, rfl, hw⟩ := hrel
      have hw' := hw.symm
      subst hw'
      clear hw
      go_wp2_with fail
      go_loopw [9] (fun i wx => i = .int .i64 0 ∧ wx = w) (fun _ _ => 0)
      case atStart => exact ⟨rfl, rfl⟩
      case round =>
        obtain ⟨rfl, hw⟩ := hrel
        have hw' := hw.symm
        subst hw'
        clear hw
        go_wp2_with fail
        go_ret
        exact ⟨rfl, Below.refl _ _⟩
set_option maxRecDepth 100000 in
theorem aloneCells_none (N : Nat) (w : World) (h : w.cell? ⟨N, 25, none⟩ = some (.slice none 0 0)) : Calls Tryz.prog 63 #[.pointer (some ⟨N, 0, none⟩)] w fun e w' => e = .returned (.bool true) ∧ Below w.heap.size w w' := by
  go_enter Tryz.func63, Tryz.ntmps63
  go_wp2_with fail
  go_loopw [3] (fun i wr => i = .int .i64 0 ∧ wr = w) (fun _ _ => 0)
  case atStart => exact ⟨rfl, rfl⟩
  case round =>
    obtain ⟨rfl, hw⟩ := hrel
    have hw' := hw.symm
    subst hw'
    clear hw
    go_wp2_with fail
    go_loopw [5, 6] (fun al i wx => al = .slice none 0 0 ∧ i = .int .i64 0 ∧ wx = w) (fun _ _ _ => 0)
    case atStart => exact ⟨rfl, rfl, rfl⟩
    case round =>
      obtain ⟨rfl, rfl, hw⟩ := hrel
      have hw' := hw.symm
      subst hw'
      clear hw
      go_wp2_with fail
      go_loopw [9] (fun i wx => i = .int .i64 0 ∧ wx = w) (fun _ _ => 0)
      case atStart => exact ⟨rfl, rfl⟩
      case round =>
        obtain ⟨rfl, hw⟩ := hrel
        have hw' := hw.symm
        subst hw'
        clear hw
        go_wp2_with fail
        go_ret
        exact ⟨rfl, Below.refl _ _⟩
set_option maxRecDepth 100000 in
theorem aloneRows_none (N : Nat) (w : World) (h : w.cell? ⟨N, 26, none⟩ = some (.slice none 0 0)) : Calls Tryz.prog 64 #[.pointer (some ⟨N, 0, none⟩)] w fun e w' => e = .returned (.bool true) ∧ Below w.heap.size w w' := by
  go_enter Tryz.func64, Tryz.ntmps64
  go_wp2_with fail
  go_loopw [3] (fun i wr => i = .int .i64 0 ∧ wr = w) (fun _ _ => 0)
  case atStart => exact ⟨rfl, rfl⟩
  case round =>
    obtain ⟨rfl, hw⟩ := hrel
    have hw' := hw.symm
    subst hw'
    clear hw
    go_wp2_with fail
    go_loopw [5, 6] (fun al i wx => al = .slice none 0 0 ∧ i = .int .i64 0 ∧ wx = w) (fun _ _ _ => 0)
    case atStart => exact ⟨rfl, rfl, rfl⟩
    case round =>
      obtain ⟨rfl, rfl, hw⟩ := hrel
      have hw' := hw.symm
      subst hw'
      clear hw
      go_wp2_with fail
      go_loopw [9] (fun i wx => i = .int .i64 0 ∧ wx = w) (fun _ _ => 0)
      case atStart => exact ⟨rfl, rfl⟩
      case round =>
        obtain ⟨rfl, hw⟩ := hrel
        have hw' := hw.symm
        subst hw'
        clear hw
        go_wp2_with fail
        go_ret
        exact ⟨rfl, Below.refl _ _⟩
set_option maxRecDepth 100000 in
theorem aloneImages_none (N : Nat) (w : World) (h : w.cell? ⟨N, 27, none⟩ = some (.slice none 0 0)) : Calls Tryz.prog 65 #[.pointer (some ⟨N, 0, none⟩)] w fun e w' => e = .returned (.bool true) ∧ Below w.heap.size w w' := by
  go_enter Tryz.func65, Tryz.ntmps65
  go_wp2_with fail
  go_loopw [3] (fun i wr => i = .int .i64 0 ∧ wr = w) (fun _ _ => 0)
  case atStart => exact ⟨rfl, rfl⟩
  case round =>
    obtain ⟨rfl, hw⟩ := hrel
    have hw' := hw.symm
    subst hw'
    clear hw
    go_wp2_with fail
    go_loopw [5, 6] (fun al i wx => al = .slice none 0 0 ∧ i = .int .i64 0 ∧ wx = w) (fun _ _ _ => 0)
    case atStart => exact ⟨rfl, rfl, rfl⟩
    case round =>
      obtain ⟨rfl, rfl, hw⟩ := hrel
      have hw' := hw.symm
      subst hw'
      clear hw
      go_wp2_with fail
      go_loopw [9] (fun i wx => i = .int .i64 0 ∧ wx = w) (fun _ _ => 0)
      case atStart => exact ⟨rfl, rfl⟩
      case round =>
        obtain ⟨rfl, hw⟩ := hrel
        have hw' := hw.symm
        subst hw'
        clear hw
        go_wp2_with fail
        go_ret
        exact ⟨rfl, Below.refl _ _⟩
end Go.Proofs.YtdfnomglkibfbaaGreatDoor

namespace Go.Proofs.YtdfnomglkibfbaaGreatDoor.Mb
open Go.RowKit
set_option linter.unusedVariables false
set_option linter.unusedSimpArgs false
set_option maxRecDepth 100000
theorem row_kept {w w' : World} {B size n : Nat} {e : TypeId} {v : Value} {xs : List Value} (h : w.ownsRow B e size v n xs) (hb : ∀ g, v.ownBlock = some g → w'.heap[g]? = w.heap[g]?) : w'.ownsRow B e size v n xs := by
  refine ⟨h.1, ?_⟩
  rcases h.2 with h2 | ⟨g, cap, cur, e1, e2, e3, e4⟩
  · exact Or.inl h2
  · exact Or.inr ⟨g, cap, cur, e1, e2, by rw [hb g (by rw [e1]; rfl)]; exact e3, e4⟩
/-- the blocks of one field. -/
def own (hv : Value) (V : Nat → Value) (m q : Nat) : Prop := hv.ownBlock = some q ∨ ∃ j, j < m ∧ (V j).ownBlock = some q
def upd {α : Type} (f : Nat) (x : α) (F : Nat → α) (j : Nat) : α := if j = f then x else F j
theorem upd_at {α : Type} (f : Nat) (x : α) (F : Nat → α) : upd f x F f = x := if_pos rfl
theorem upd_ne {α : Type} {f j : Nat} (h : j ≠ f) (x : α) (F : Nat → α) : upd f x F j = F j := if_neg h
/-- a row more. -/
def snoc (m : Nat) (v : Value) (V : Nat → Value) (j : Nat) : Value := if j = m then v else V j
theorem own_upd {F m s : Nat} {M : Nat → Nat} {V : Nat → Nat → Value} {H : Nat → Value} {v h' : Value} (hm : m = M F) (hown : ∀ k, h'.ownBlock = some k → (H F).ownBlock = some k ∨ s ≤ k) (f q : Nat) (e : own (upd F h' H f) (upd F (snoc m v (V F)) V f) (upd F (m + 1) M f) q) : own (H f) (V f) (M f) q ∨ (f = F ∧ (v.ownBlock = some q ∨ s ≤ q)) := by
  by_cases c : f = F
  · subst c
    simp only [upd_at] at e
    rcases e with e | ⟨j, hj, e⟩
    · rcases hown q e with a | a
      · exact Or.inl (Or.inl a)
      · exact Or.inr ⟨rfl, Or.inr a⟩
    · by_cases hjm : j = m
      · simp only [snoc, if_pos hjm] at e; exact Or.inr ⟨rfl, Or.inl e⟩
      · simp only [snoc, if_neg hjm] at e; exact Or.inl (Or.inr ⟨j, by omega, e⟩)
  · simp only [upd_ne c] at e; exact Or.inl e
theorem sep_upd {F m s : Nat} {M : Nat → Nat} {V : Nat → Nat → Value} {H : Nat → Value} {v h' : Value} (hm : m = M F) (hown : ∀ k, h'.ownBlock = some k → (H F).ownBlock = some k ∨ s ≤ k) (sep : ∀ f g, f ≠ g → ∀ q, own (H f) (V f) (M f) q → ¬ own (H g) (V g) (M g) q) (lt : ∀ f q, own (H f) (V f) (M f) q → q < s) (hf : ∀ q, v.ownBlock = some q → ∀ f, ¬ own (H f) (V f) (M f) q) :
    ∀ f g, f ≠ g → ∀ q, own (upd F h' H f) (upd F (snoc m v (V F)) V f) (upd F (m + 1) M f) q → ¬ own (upd F h' H g) (upd F (snoc m v (V F)) V g) (upd F (m + 1) M g) q := by
  intro f g hne q e1 e2
  rcases own_upd hm hown f q e1 with a | ⟨a0, a⟩ <;> rcases own_upd hm hown g q e2 with b | ⟨b0, b⟩
  · exact sep f g hne q a b
  · rcases b with b | b
    · exact hf q b f a
    · have := lt f q a; omega
  · rcases a with a | a
    · exact hf q a g b
    · have := lt g q b; omega
  · exact hne (a0.trans b0.symm)
/-- what a Take leaves. -/
structure FR (N : Nat) (w : World) (hv hv' : Value) (w' : World) : Prop where
  size : w.heap.size ≤ w'.heap.size
  keep : ∀ k, k < w.heap.size → k ≠ N → hv.ownBlock ≠ some k → w'.heap[k]? = w.heap[k]?
  own : ∀ k, hv'.ownBlock = some k → hv.ownBlock = some k ∨ w.heap.size ≤ k
  same : w'.os = w.os ∧ w'.tape = w.tape ∧ w'.output = w.output
theorem move2 {O O' : Nat → Value} {N C m : Nat} {V : Nat → Value} {hv : Value} {G : Nat → List (Value)} {w w' : World} (h : Bk2.BK O N C m V hv G w) (sz : w.heap.size ≤ w'.heap.size) (cF : w'.cell? ⟨N, 2, none⟩ = some hv) (oth : ∀ j, j < 28 → j ≠ 2 → w'.cell? ⟨N, j, none⟩ = some (O' j)) (fz : ∀ j, w'.frozen? ⟨N, j, none⟩ = false) (k : ∀ q, own hv V m q → w'.heap[q]? = w.heap[q]?) : Bk2.BK O' N C m V hv G w' :=
  ⟨⟨h.sp.nC, by have := h.sp.nw; omega, by have := h.sp.cw; omega, fun i hi k e => by have := h.sp.vb i hi k e; omega, fun k e => by have := h.sp.hb k e; omega, h.sp.dis, h.sp.hd⟩, ⟨cF, row_kept h.st.hr (fun q e => k q (Or.inl e)), fun j hj => row_kept (h.st.rows j hj) (fun q e => k q (Or.inr ⟨j, hj, e⟩)), Bk2.BF.refl _ _ _⟩, oth, fz⟩
theorem lt2 {O : Nat → Value} {N C m : Nat} {V : Nat → Value} {hv : Value} {G : Nat → List (Value)} {w : World} (h : Bk2.BK O N C m V hv G w) {q : Nat} (e : own hv V m q) : C ≤ q ∧ q < w.heap.size := by
  rcases e with e | ⟨j, hj, e⟩
  · exact h.sp.hb q e
  · exact h.sp.vb j hj q e
/-- a book. -/
structure MB (N C : Nat) (M : Nat → Nat) (V : Nat → Nat → Value) (H : Nat → Value) (w : World) : Prop where
  b2 : ∃ G, Bk2.BK H N C (M 2) (V 2) (H 2) G w ∧ ∀ j, j < M 2 → (G j).length ≤ 268435456
  sep : ∀ f g, f ≠ g → ∀ q, own (H f) (V f) (M f) q → ¬ own (H g) (V g) (M g) q
  rest : ∀ j, j ≠ 2 → M j = 0 ∧ H j = .slice none 0 0
theorem MB.nC {N C : Nat} {M : Nat → Nat} {V : Nat → Nat → Value} {H : Nat → Value} {w : World} (h : MB N C M V H w) : N < C ∧ N < w.heap.size ∧ C ≤ w.heap.size := by
  obtain ⟨G, b, _⟩ := h.b2
  exact ⟨b.sp.nC, b.sp.nw, b.sp.cw⟩
theorem MB.lt {N C : Nat} {M : Nat → Nat} {V : Nat → Nat → Value} {H : Nat → Value} {w : World} (h : MB N C M V H w) (f : Nat) {q : Nat} (e : own (H f) (V f) (M f) q) : C ≤ q ∧ q < w.heap.size := by
  by_cases c2 : f = 2
  · subst c2
    obtain ⟨G, b, _⟩ := h.b2
    exact lt2 b e
  · skip
    obtain ⟨m0, h0⟩ := h.rest f c2
    rw [m0, h0] at e
    rcases e with e | ⟨j, hj, _⟩
    · simp [Value.ownBlock] at e
    · omega
theorem MB.cell {N C : Nat} {M : Nat → Nat} {V : Nat → Nat → Value} {H : Nat → Value} {w : World} (h : MB N C M V H w) (j : Nat) (hj : j < 28) : w.cell? ⟨N, j, none⟩ = some (H j) := by
  obtain ⟨G, b, _⟩ := h.b2
  by_cases c : j = 2
  · subst c; exact b.st.cF
  · exact b.nil j hj c
theorem MB.fz {N C : Nat} {M : Nat → Nat} {V : Nat → Nat → Value} {H : Nat → Value} {w : World} (h : MB N C M V H w) (j : Nat) : w.frozen? ⟨N, j, none⟩ = false := by
  obtain ⟨G, b, _⟩ := h.b2
  exact b.fz j
/-- a book, where its blocks are as they were. -/
theorem MB.keep {N C : Nat} {M : Nat → Nat} {V : Nat → Nat → Value} {H : Nat → Value} {w w' : World} (h : MB N C M V H w) (sz : w.heap.size ≤ w'.heap.size) (kN : w'.heap[N]? = w.heap[N]?) (k : ∀ f q, own (H f) (V f) (M f) q → w'.heap[q]? = w.heap[q]?) : MB N C M V H w' := by
  have cc : ∀ j, w'.cell? ⟨N, j, none⟩ = w.cell? ⟨N, j, none⟩ := fun j => World.cell?_of_block (w := w) (a := ⟨N, j, none⟩) kN
  have zz : ∀ j, w'.frozen? ⟨N, j, none⟩ = false := fun j => by rw [World.frozen?_of_block (w := w) (a := ⟨N, j, none⟩) kN]; exact h.fz j
  refine ⟨?_, h.sep, h.rest⟩
  · obtain ⟨G, b, l⟩ := h.b2
    exact ⟨G, move2 b sz (by rw [cc]; exact b.st.cF) (fun j hj hn => by rw [cc]; exact b.nil j hj hn) zz (k 2), l⟩
set_option maxHeartbeats 4000000 in
theorem ftake2 {O : Nat → Value} {N C m : Nat} {V : Nat → Value} {hv : Value} {G : Nat → List (Value)} {w : World} {B : Nat} {v : Value} {l : List (Value)} (h0 : Bk2.BK O N C m V hv G w) (o0 : Bk2.OE w B v l) (hB : ∀ k, v.ownBlock = some k → C ≤ k ∧ hv.ownBlock ≠ some k ∧ ∀ j, j < m → (V j).ownBlock ≠ some k) (hm : m ≤ 4194304) :
    Calls Tryz.prog 23 #[.pointer (some ⟨N, 0, none⟩), v] w fun e w' => e = .returned undef ∧ ∃ hv', Bk2.BK O N C (m + 1) (fun j => if j = m then v else V j) hv' (fun j => if j = m then l else G j) w' ∧ Below N w w' ∧ Bk2.FRB N w hv hv' w' := by
  obtain ⟨hv', w', hr, cF', z12', bk, bb, fb⟩ := h0.take o0 hB hm
  have cF := h0.st.cF
  obtain ⟨ah, ch, e1, _⟩ := h0.st.hr.form
  obtain ⟨av, cv, e2, _⟩ := o0.formO
  have hrH : Hid (∀ W, W = w.alloc (.cells #[v] 39) → (Builtin.append_ #[62, 62] 62 #[hv, .slice (some ⟨w.heap.size, 0, none⟩) 1 1]).run Tryz.prog W = .ok hv' w') := fun W e => by subst e; exact hr
  obtain ⟨ah2, ch2, e3, _⟩ := bk.st.hr.form
  have fin : Hid (∃ hv', Bk2.BK O N C (m + 1) (fun j => if j = m then v else V j) hv' (fun j => if j = m then l else G j) (w'.setCell ⟨N, 2, none⟩ (.slice ah2 (m + 1) ch2)) ∧ Below N w (w'.setCell ⟨N, 2, none⟩ (.slice ah2 (m + 1) ch2)) ∧ Bk2.FRB N w hv hv' (w'.setCell ⟨N, 2, none⟩ (.slice ah2 (m + 1) ch2))) := ⟨hv', by rw [← e3]; exact bk, by rw [← e3]; exact bb, by rw [← e3]; exact fb⟩
  subst e1 e3
  generalize l.length = nl at *
  subst e2
  clear h0 o0 hB hr bk bb fb
  go_enter Tryz.func23, Tryz.ntmps23
  go_wp2_with (at_builtin; refine Bk2.wpList_append_runB (by rfl) _ _ _ (by rfl) _ _ _ _ (by rfl) (by rfl) (hrH.out _ rfl) ?_)
  simp [bodyPost, results, Tryz.results23, go_sem]
  obtain ⟨x, f1, f2⟩ := fin.out
  exact ⟨rfl, x, f1, f2⟩
theorem MB.took2 {N C : Nat} {M : Nat → Nat} {V : Nat → Nat → Value} {H : Nat → Value} {w w' : World} {v h' : Value} {l : List (Value)} {G : Nat → List (Value)} (h : MB N C M V H w) (hG : ∀ j, j < M 2 → (G j).length ≤ 268435456) (hl : l.length ≤ 268435456) (hf : ∀ q, v.ownBlock = some q → C ≤ q ∧ ∀ f, ¬ own (H f) (V f) (M f) q) (bk : Bk2.BK H N C (M 2 + 1) (fun j => if j = M 2 then v else V 2 j) h' (fun j => if j = M 2 then l else G j) w') (fb : FR N w (H 2) h' w') :
    MB N C (upd 2 (M 2 + 1) M) (upd 2 (snoc (M 2) v (V 2)) V) (upd 2 h' H) w' := by
  have nC := h.nC
  have cellO : ∀ j, j < 28 → j ≠ 2 → w'.cell? ⟨N, j, none⟩ = some (H j) := bk.nil
  have kp : ∀ g, g ≠ 2 → ∀ q, own (H g) (V g) (M g) q → w'.heap[q]? = w.heap[q]? := fun g hg q e => fb.keep q (h.lt g e).2 (by have := (h.lt g e).1; omega) (fun c => h.sep g 2 hg q e (Or.inl c))
  have oc : ∀ j, j < 28 → w'.cell? ⟨N, j, none⟩ = some (upd 2 h' H j) := fun j hj => by
    by_cases c : j = 2
    · subst c; rw [upd_at]; exact bk.st.cF
    · rw [upd_ne c]; exact cellO j hj c
  refine ⟨?_, sep_upd rfl fb.own h.sep (fun f q e => (h.lt f e).2) (fun q e => (hf q e).2), fun j c2 => by rw [upd_ne c2, upd_ne c2]; exact h.rest j c2⟩
  · simp only [upd_at]
    refine ⟨fun j => if j = M 2 then l else G j, move2 bk (Nat.le_refl _) bk.st.cF (fun j hj hn => oc j hj) bk.fz (fun _ _ => rfl), fun j hj => ?_⟩
    by_cases c : j = M 2
    · simp only [if_pos c]; exact hl
    · simp only [if_neg c]; exact hG j (by omega)
theorem MB.take2 {N C : Nat} {M : Nat → Nat} {V : Nat → Nat → Value} {H : Nat → Value} {w : World} {B : Nat} {v : Value} {l : List (Value)} (h : MB N C M V H w) (o : Bk2.OE w B v l) (hl : l.length ≤ 268435456) (hf : ∀ q, v.ownBlock = some q → C ≤ q ∧ ∀ f, ¬ own (H f) (V f) (M f) q) (hm : M 2 ≤ 4194304) :
    Calls Tryz.prog 23 #[.pointer (some ⟨N, 0, none⟩), v] w fun e w' => e = .returned undef ∧ ∃ h', MB N C (upd 2 (M 2 + 1) M) (upd 2 (snoc (M 2) v (V 2)) V) (upd 2 h' H) w' ∧ FR N w (H 2) h' w' := by
  obtain ⟨G, b, hG⟩ := h.b2
  refine (ftake2 b o (fun q e => ⟨(hf q e).1, fun c => (hf q e).2 2 (Or.inl c), fun j hj c => (hf q e).2 2 (Or.inr ⟨j, hj, c⟩)⟩) hm).mono fun e w' ⟨e1, h', bk, bN, fb⟩ => ⟨e1, h', ?_⟩
  have fr : FR N w (H 2) h' w' := ⟨fb.1, fb.2.1, fb.2.2, bN.os, bN.tape, bN.output⟩
  exact ⟨h.took2 hG hl hf bk fr, fr⟩
/-- what is left as it was. -/
structure FM (P : Nat → Prop) (w W : World) : Prop where
  size : w.heap.size ≤ W.heap.size
  keep : ∀ k, k < w.heap.size → ¬ P k → W.heap[k]? = w.heap[k]?
  same : W.os = w.os ∧ W.tape = w.tape ∧ W.output = w.output
def PV (V : Nat → Value) (m q : Nat) : Prop := ∃ j, j < m ∧ (V j).ownBlock = some q
/-- the rows of the fields ahead of k. -/
def RK (V : Nat → Nat → Value) (M : Nat → Nat) (k q : Nat) : Prop := ∃ f, f < k ∧ PV (V f) (M f) q
theorem FM.below {V : Nat → Nat → Value} {M : Nat → Nat} {k : Nat} {w W W' : World} (h : FM (RK V M k) w W) (b : Below W.heap.size W W') : FM (RK V M (k + 1)) w W' := ⟨Nat.le_trans h.size b.size, fun q hq c => by rw [b.block q (Nat.lt_of_lt_of_le hq h.size)]; exact h.keep q hq (fun ⟨f, hf, e⟩ => c ⟨f, by omega, e⟩), b.os.trans h.same.1, b.tape.trans h.same.2.1, b.output.trans h.same.2.2⟩
theorem FM.more {V : Nat → Nat → Value} {M : Nat → Nat} {k : Nat} {w W W' : World} (h : FM (RK V M k) w W) (s : W.heap.size ≤ W'.heap.size) (kp : ∀ q, q < W.heap.size → ¬ PV (V k) (M k) q → W'.heap[q]? = W.heap[q]?) (e : W'.os = W.os ∧ W'.tape = W.tape ∧ W'.output = W.output) : FM (RK V M (k + 1)) w W' := ⟨Nat.le_trans h.size s, fun q hq hn => by rw [kp q (Nat.lt_of_lt_of_le hq h.size) (fun c => hn ⟨k, by omega, c⟩)]; exact h.keep q hq (fun ⟨f, hf, c⟩ => hn ⟨f, by omega, c⟩), e.1.trans h.same.1, e.2.1.trans h.same.2.1, e.2.2.trans h.same.2.2⟩
theorem FM.refl (V : Nat → Nat → Value) (M : Nat → Nat) (w : World) : FM (RK V M 0) w w := ⟨Nat.le_refl _, fun _ _ _ => rfl, rfl, rfl, rfl⟩
theorem setCells_grown (N : Nat) (W : World) : ∀ (vs : List Value) (o : Nat), W.grownBy (W.setCells N o vs) (some N)
  | [], o => ⟨rfl, rfl, rfl, Nat.le_refl _, fun _ _ _ => rfl⟩
  | v :: r, o => by
    have h := setCells_grown N (W.setCell ⟨N, o, none⟩ v) r (o + 1)
    have g : W.grownBy (W.setCell ⟨N, o, none⟩ v) (some N) := ⟨rfl, rfl, rfl, by simp, fun k hk q => Below.heap_setCell _ _ _ _ (fun e => q (by rw [e]))⟩
    exact ⟨h.os.trans g.os, h.tape.trans g.tape, h.output.trans g.output, Nat.le_trans g.size h.size, fun k hk q => by rw [show (W.setCells N o (v :: r)) = (W.setCell ⟨N, o, none⟩ v).setCells N (o + 1) r from rfl, h.block k (Nat.lt_of_lt_of_le hk g.size) q]; exact g.block k hk q⟩
theorem wpList_store_run {P : Program} {ops : Array Oper} {rest : List Oper} {o : Oper} {a : Act} {Q : Exit → Act → World → Prop} {w : World} (hgd : o.guard = none) (p x : Operand) (t : TypeId)
    (ho : o.op = .store t p x) (v y : Value) (w' : World) (hs : a.eval p = v) (hx : a.eval x = y) (hr : (Instr.storeAt t v y).run P w = .ok () w')
    (h : wpList P ops Q rest (a.put o.dst undef) w') : wpList P ops Q (o :: rest) a w := by
  refine wpList_plain hgd fun K hK => ?_
  unfold Oper.wp execOp
  simp only [ho, Sem.run_bind, Sem.run_pure, Result.andThen_ok, hs, hx, hr]
  exact hK _ _ h
theorem store_book (N : Nat) (W : World) (hc : ∀ j, j < 28 → (W.cell? ⟨N, j, none⟩).isSome = true) (hz : ∀ j, W.frozen? ⟨N, j, none⟩ = false) : (Instr.storeAt 89 (.pointer (some ⟨N, 0, none⟩)) (.agg (Array.replicate 28 (.slice none 0 0)))).run Tryz.prog W = .ok () (W.setCells N 0 (List.replicate 28 (.slice none 0 0))) := by
  have h := run_storeCells_cells (P := Tryz.prog) N 0 (List.replicate 28 (.slice none 0 0)) 0 W (fun j hj => by rw [List.length_replicate] at hj; first | exact hc j hj | (simpa using hc j hj)) (fun j hj => hz _) (fun v hv => by rw [List.eq_of_mem_replicate hv]; rfl)
  have e : (Value.agg (Array.replicate 28 (Value.slice none 0 0))).cells.toList = List.replicate 28 (.slice none 0 0) := rfl
  have s : (Value.agg (Array.replicate 28 (Value.slice none 0 0))).cells.size = 28 := rfl
  unfold Instr.storeAt storeVar
  simp only [Sem.run_bind, e, s, Tryz.sizeOf89, Result.andThen_ok]
  rw [show (Instr.sureAddr (.pointer (some ⟨N, 0, none⟩))).run Tryz.prog W = .ok ⟨N, 0, none⟩ W from rfl]
  simp only [Result.andThen_ok]
  exact h
set_option maxHeartbeats 32000000 in
theorem alone_any {N C : Nat} {M : Nat → Nat} {V : Nat → Nat → Value} {H : Nat → Value} {w : World} (h : MB N C M V H w) (hm : ∀ f, M f ≤ 4194304) :
    Calls Tryz.prog 24 #[.pointer (some ⟨N, 0, none⟩)] w fun e w' => e = .returned (.bool true) ∧ FM (fun q => RK V M 28 q ∨ q = N) w w' := by
  have nC := h.nC
  have NR : ∀ k, ¬ RK V M k N := fun k ⟨f, _, j, hj, e⟩ => by have := (h.lt f (Or.inr ⟨j, hj, e⟩)).1; omega
  have HK : ∀ {k W}, FM (RK V M k) w W → W.heap[N]? = w.heap[N]? := fun {k W} hW => hW.keep N nC.2.1 (NR k)
  have CN : ∀ {k W}, FM (RK V M k) w W → ∀ j, W.cell? ⟨N, j, none⟩ = w.cell? ⟨N, j, none⟩ := fun hW j => World.cell?_of_block (w := w) (a := ⟨N, j, none⟩) (HK hW)
  have ZN : ∀ {k W}, FM (RK V M k) w W → ∀ j, W.frozen? ⟨N, j, none⟩ = false := fun hW j => by rw [World.frozen?_of_block (w := w) (a := ⟨N, j, none⟩) (HK hW)]; exact h.fz j
  have nil : ∀ j, j ≠ 2 → j < 28 → w.cell? ⟨N, j, none⟩ = some (.slice none 0 0) := fun j c2 hj => by rw [h.cell j hj, (h.rest j c2).2]
  have KR : ∀ {k W}, FM (RK V M k) w W → ∀ q, own (H k) (V k) (M k) q → W.heap[q]? = w.heap[q]? := fun {k W} hW q e => hW.keep q (h.lt k e).2 (fun ⟨f, hf, j, hj, c⟩ => h.sep f k (by omega) q (Or.inr ⟨j, hj, c⟩) e)
  have K0 : Hid (∀ W, FM (RK V M 0) w W → Calls Tryz.prog 38 #[.pointer (some ⟨N, 0, none⟩)] W fun e w' => e = .returned (.bool true) ∧ FM (RK V M 1) w w') := fun W hW => (aloneBytes_none N W (by rw [CN hW]; exact nil 0 (by omega) (by omega))).mono fun e w' hh => ⟨hh.1, hW.below hh.2⟩
  have K1 : Hid (∀ W, FM (RK V M 1) w W → Calls Tryz.prog 39 #[.pointer (some ⟨N, 0, none⟩)] W fun e w' => e = .returned (.bool true) ∧ FM (RK V M 2) w w') := fun W hW => (aloneTexts_none N W (by rw [CN hW]; exact nil 1 (by omega) (by omega))).mono fun e w' hh => ⟨hh.1, hW.below hh.2⟩
  have K2 : Hid (∀ W, FM (RK V M 2) w W → Calls Tryz.prog 40 #[.pointer (some ⟨N, 0, none⟩)] W fun e w' => e = .returned (.bool true) ∧ FM (RK V M 3) w w') := fun W hW => by
    obtain ⟨G, b0, l0⟩ := h.b2
    have b := move2 (O' := H) b0 hW.size (by rw [CN hW]; exact b0.st.cF) (fun j hj hn => by rw [CN hW]; exact b0.nil j hj hn) (ZN hW) (KR hW)
    exact (Bk2.aloneInts_any b.sp b.st (hm 2) l0).mono fun e w' ⟨e1, bf⟩ => ⟨e1, hW.more bf.size (fun q hq hn => bf.keep q hq (fun i hi c => hn ⟨i, hi, c⟩)) bf.same⟩
  have K3 : Hid (∀ W, FM (RK V M 3) w W → Calls Tryz.prog 41 #[.pointer (some ⟨N, 0, none⟩)] W fun e w' => e = .returned (.bool true) ∧ FM (RK V M 4) w w') := fun W hW => (aloneInt64s_none N W (by rw [CN hW]; exact nil 3 (by omega) (by omega))).mono fun e w' hh => ⟨hh.1, hW.below hh.2⟩
  have K4 : Hid (∀ W, FM (RK V M 4) w W → Calls Tryz.prog 42 #[.pointer (some ⟨N, 0, none⟩)] W fun e w' => e = .returned (.bool true) ∧ FM (RK V M 5) w w') := fun W hW => (aloneUint64s_none N W (by rw [CN hW]; exact nil 4 (by omega) (by omega))).mono fun e w' hh => ⟨hh.1, hW.below hh.2⟩
  have K5 : Hid (∀ W, FM (RK V M 5) w W → Calls Tryz.prog 43 #[.pointer (some ⟨N, 0, none⟩)] W fun e w' => e = .returned (.bool true) ∧ FM (RK V M 6) w w') := fun W hW => (aloneTags_none N W (by rw [CN hW]; exact nil 5 (by omega) (by omega))).mono fun e w' hh => ⟨hh.1, hW.below hh.2⟩
  have K6 : Hid (∀ W, FM (RK V M 6) w W → Calls Tryz.prog 44 #[.pointer (some ⟨N, 0, none⟩)] W fun e w' => e = .returned (.bool true) ∧ FM (RK V M 7) w w') := fun W hW => (aloneFields_none N W (by rw [CN hW]; exact nil 6 (by omega) (by omega))).mono fun e w' hh => ⟨hh.1, hW.below hh.2⟩
  have K7 : Hid (∀ W, FM (RK V M 7) w W → Calls Tryz.prog 45 #[.pointer (some ⟨N, 0, none⟩)] W fun e w' => e = .returned (.bool true) ∧ FM (RK V M 8) w w') := fun W hW => (aloneSamples_none N W (by rw [CN hW]; exact nil 7 (by omega) (by omega))).mono fun e w' hh => ⟨hh.1, hW.below hh.2⟩
  have K8 : Hid (∀ W, FM (RK V M 8) w W → Calls Tryz.prog 46 #[.pointer (some ⟨N, 0, none⟩)] W fun e w' => e = .returned (.bool true) ∧ FM (RK V M 9) w w') := fun W hW => (aloneNodes_none N W (by rw [CN hW]; exact nil 8 (by omega) (by omega))).mono fun e w' hh => ⟨hh.1, hW.below hh.2⟩
  have K9 : Hid (∀ W, FM (RK V M 9) w W → Calls Tryz.prog 47 #[.pointer (some ⟨N, 0, none⟩)] W fun e w' => e = .returned (.bool true) ∧ FM (RK V M 10) w w') := fun W hW => (aloneLabels_none N W (by rw [CN hW]; exact nil 9 (by omega) (by omega))).mono fun e w' hh => ⟨hh.1, hW.below hh.2⟩
  have K10 : Hid (∀ W, FM (RK V M 10) w W → Calls Tryz.prog 48 #[.pointer (some ⟨N, 0, none⟩)] W fun e w' => e = .returned (.bool true) ∧ FM (RK V M 11) w w') := fun W hW => (aloneAccs_none N W (by rw [CN hW]; exact nil 10 (by omega) (by omega))).mono fun e w' hh => ⟨hh.1, hW.below hh.2⟩
  have K11 : Hid (∀ W, FM (RK V M 11) w W → Calls Tryz.prog 49 #[.pointer (some ⟨N, 0, none⟩)] W fun e w' => e = .returned (.bool true) ∧ FM (RK V M 12) w w') := fun W hW => (aloneInses_none N W (by rw [CN hW]; exact nil 11 (by omega) (by omega))).mono fun e w' hh => ⟨hh.1, hW.below hh.2⟩
  have K12 : Hid (∀ W, FM (RK V M 12) w W → Calls Tryz.prog 50 #[.pointer (some ⟨N, 0, none⟩)] W fun e w' => e = .returned (.bool true) ∧ FM (RK V M 13) w w') := fun W hW => (aloneEntries_none N W (by rw [CN hW]; exact nil 12 (by omega) (by omega))).mono fun e w' hh => ⟨hh.1, hW.below hh.2⟩
  have K13 : Hid (∀ W, FM (RK V M 13) w W → Calls Tryz.prog 51 #[.pointer (some ⟨N, 0, none⟩)] W fun e w' => e = .returned (.bool true) ∧ FM (RK V M 14) w w') := fun W hW => (aloneTold_none N W (by rw [CN hW]; exact nil 13 (by omega) (by omega))).mono fun e w' hh => ⟨hh.1, hW.below hh.2⟩
  have K14 : Hid (∀ W, FM (RK V M 14) w W → Calls Tryz.prog 52 #[.pointer (some ⟨N, 0, none⟩)] W fun e w' => e = .returned (.bool true) ∧ FM (RK V M 15) w w') := fun W hW => (aloneTokens_none N W (by rw [CN hW]; exact nil 14 (by omega) (by omega))).mono fun e w' hh => ⟨hh.1, hW.below hh.2⟩
  have K15 : Hid (∀ W, FM (RK V M 15) w W → Calls Tryz.prog 53 #[.pointer (some ⟨N, 0, none⟩)] W fun e w' => e = .returned (.bool true) ∧ FM (RK V M 16) w w') := fun W hW => (aloneSlots_none N W (by rw [CN hW]; exact nil 15 (by omega) (by omega))).mono fun e w' hh => ⟨hh.1, hW.below hh.2⟩
  have K16 : Hid (∀ W, FM (RK V M 16) w W → Calls Tryz.prog 54 #[.pointer (some ⟨N, 0, none⟩)] W fun e w' => e = .returned (.bool true) ∧ FM (RK V M 17) w w') := fun W hW => (aloneFates_none N W (by rw [CN hW]; exact nil 16 (by omega) (by omega))).mono fun e w' hh => ⟨hh.1, hW.below hh.2⟩
  have K17 : Hid (∀ W, FM (RK V M 17) w W → Calls Tryz.prog 55 #[.pointer (some ⟨N, 0, none⟩)] W fun e w' => e = .returned (.bool true) ∧ FM (RK V M 18) w w') := fun W hW => (alonePoints_none N W (by rw [CN hW]; exact nil 17 (by omega) (by omega))).mono fun e w' hh => ⟨hh.1, hW.below hh.2⟩
  have K18 : Hid (∀ W, FM (RK V M 18) w W → Calls Tryz.prog 56 #[.pointer (some ⟨N, 0, none⟩)] W fun e w' => e = .returned (.bool true) ∧ FM (RK V M 19) w w') := fun W hW => (aloneWrites_none N W (by rw [CN hW]; exact nil 18 (by omega) (by omega))).mono fun e w' hh => ⟨hh.1, hW.below hh.2⟩
  have K19 : Hid (∀ W, FM (RK V M 19) w W → Calls Tryz.prog 57 #[.pointer (some ⟨N, 0, none⟩)] W fun e w' => e = .returned (.bool true) ∧ FM (RK V M 20) w w') := fun W hW => (aloneDeltas_none N W (by rw [CN hW]; exact nil 19 (by omega) (by omega))).mono fun e w' hh => ⟨hh.1, hW.below hh.2⟩
  have K20 : Hid (∀ W, FM (RK V M 20) w W → Calls Tryz.prog 58 #[.pointer (some ⟨N, 0, none⟩)] W fun e w' => e = .returned (.bool true) ∧ FM (RK V M 21) w w') := fun W hW => (aloneSeriesList_none N W (by rw [CN hW]; exact nil 20 (by omega) (by omega))).mono fun e w' hh => ⟨hh.1, hW.below hh.2⟩
  have K21 : Hid (∀ W, FM (RK V M 21) w W → Calls Tryz.prog 59 #[.pointer (some ⟨N, 0, none⟩)] W fun e w' => e = .returned (.bool true) ∧ FM (RK V M 22) w w') := fun W hW => (aloneItems_none N W (by rw [CN hW]; exact nil 21 (by omega) (by omega))).mono fun e w' hh => ⟨hh.1, hW.below hh.2⟩
  have K22 : Hid (∀ W, FM (RK V M 22) w W → Calls Tryz.prog 60 #[.pointer (some ⟨N, 0, none⟩)] W fun e w' => e = .returned (.bool true) ∧ FM (RK V M 23) w w') := fun W hW => (aloneTables_none N W (by rw [CN hW]; exact nil 22 (by omega) (by omega))).mono fun e w' hh => ⟨hh.1, hW.below hh.2⟩
  have K23 : Hid (∀ W, FM (RK V M 23) w W → Calls Tryz.prog 61 #[.pointer (some ⟨N, 0, none⟩)] W fun e w' => e = .returned (.bool true) ∧ FM (RK V M 24) w w') := fun W hW => (aloneOuts_none N W (by rw [CN hW]; exact nil 23 (by omega) (by omega))).mono fun e w' hh => ⟨hh.1, hW.below hh.2⟩
  have K24 : Hid (∀ W, FM (RK V M 24) w W → Calls Tryz.prog 62 #[.pointer (some ⟨N, 0, none⟩)] W fun e w' => e = .returned (.bool true) ∧ FM (RK V M 25) w w') := fun W hW => (aloneTextLists_none N W (by rw [CN hW]; exact nil 24 (by omega) (by omega))).mono fun e w' hh => ⟨hh.1, hW.below hh.2⟩
  have K25 : Hid (∀ W, FM (RK V M 25) w W → Calls Tryz.prog 63 #[.pointer (some ⟨N, 0, none⟩)] W fun e w' => e = .returned (.bool true) ∧ FM (RK V M 26) w w') := fun W hW => (aloneCells_none N W (by rw [CN hW]; exact nil 25 (by omega) (by omega))).mono fun e w' hh => ⟨hh.1, hW.below hh.2⟩
  have K26 : Hid (∀ W, FM (RK V M 26) w W → Calls Tryz.prog 64 #[.pointer (some ⟨N, 0, none⟩)] W fun e w' => e = .returned (.bool true) ∧ FM (RK V M 27) w w') := fun W hW => (aloneRows_none N W (by rw [CN hW]; exact nil 26 (by omega) (by omega))).mono fun e w' hh => ⟨hh.1, hW.below hh.2⟩
  have K27 : Hid (∀ W, FM (RK V M 27) w W → Calls Tryz.prog 65 #[.pointer (some ⟨N, 0, none⟩)] W fun e w' => e = .returned (.bool true) ∧ FM (RK V M 28) w w') := fun W hW => (aloneImages_none N W (by rw [CN hW]; exact nil 27 (by omega) (by omega))).mono fun e w' hh => ⟨hh.1, hW.below hh.2⟩
  have FIN : Hid (∀ W, FM (RK V M 28) w W → (∀ j, j < 28 → (W.cell? ⟨N, j, none⟩).isSome = true) ∧ (∀ j, W.frozen? ⟨N, j, none⟩ = false) ∧ FM (fun q => RK V M 28 q ∨ q = N) w (W.setCells N 0 (List.replicate 28 (.slice none 0 0)))) := fun W hW => ⟨fun j hj => by
    rw [CN hW, h.cell j hj]; rfl, ZN hW, by
    have g := setCells_grown N W (List.replicate 28 (.slice none 0 0)) 0
    exact ⟨Nat.le_trans hW.size g.size, fun q hq hn => by rw [g.block q (Nat.lt_of_lt_of_le hq hW.size) (fun e => hn (Or.inr (by injection e)))]; exact hW.keep q hq (fun c => hn (Or.inl c)), g.os.trans hW.same.1, g.tape.trans hW.same.2.1, g.output.trans hW.same.2.2⟩⟩
  have B0 : Hid _ := FM.refl V M w
  clear HK CN ZN KR h nil nC NR hm
  go_enter Tryz.func24, Tryz.ntmps24
  go_wp2_with fail
  refine Calls.mono (K0.out _ B0.out) ?_
  rintro e w0 ⟨rfl, b0⟩
  have B1 : Hid _ := b0
  clear b0 K0 B0
  go_wp2_with fail
  refine Calls.mono (K1.out _ B1.out) ?_
  rintro e w1 ⟨rfl, b1⟩
  have B2 : Hid _ := b1
  clear b1 K1 B1
  go_wp2_with fail
  refine Calls.mono (K2.out _ B2.out) ?_
  rintro e w2 ⟨rfl, b2⟩
  have B3 : Hid _ := b2
  clear b2 K2 B2
  go_wp2_with fail
  refine Calls.mono (K3.out _ B3.out) ?_
  rintro e w3 ⟨rfl, b3⟩
  have B4 : Hid _ := b3
  clear b3 K3 B3
  go_wp2_with fail
  refine Calls.mono (K4.out _ B4.out) ?_
  rintro e w4 ⟨rfl, b4⟩
  have B5 : Hid _ := b4
  clear b4 K4 B4
  go_wp2_with fail
  refine Calls.mono (K5.out _ B5.out) ?_
  rintro e w5 ⟨rfl, b5⟩
  have B6 : Hid _ := b5
  clear b5 K5 B5
  go_wp2_with fail
  refine Calls.mono (K6.out _ B6.out) ?_
  rintro e w6 ⟨rfl, b6⟩
  have B7 : Hid _ := b6
  clear b6 K6 B6
  go_wp2_with fail
  refine Calls.mono (K7.out _ B7.out) ?_
  rintro e w7 ⟨rfl, b7⟩
  have B8 : Hid _ := b7
  clear b7 K7 B7
  go_wp2_with fail
  refine Calls.mono (K8.out _ B8.out) ?_
  rintro e w8 ⟨rfl, b8⟩
  have B9 : Hid _ := b8
  clear b8 K8 B8
  go_wp2_with fail
  refine Calls.mono (K9.out _ B9.out) ?_
  rintro e w9 ⟨rfl, b9⟩
  have B10 : Hid _ := b9
  clear b9 K9 B9
  go_wp2_with fail
  refine Calls.mono (K10.out _ B10.out) ?_
  rintro e w10 ⟨rfl, b10⟩
  have B11 : Hid _ := b10
  clear b10 K10 B10
  go_wp2_with fail
  refine Calls.mono (K11.out _ B11.out) ?_
  rintro e w11 ⟨rfl, b11⟩
  have B12 : Hid _ := b11
  clear b11 K11 B11
  go_wp2_with fail
  refine Calls.mono (K12.out _ B12.out) ?_
  rintro e w12 ⟨rfl, b12⟩
  have B13 : Hid _ := b12
  clear b12 K12 B12
  go_wp2_with fail
  refine Calls.mono (K13.out _ B13.out) ?_
  rintro e w13 ⟨rfl, b13⟩
  have B14 : Hid _ := b13
  clear b13 K13 B13
  go_wp2_with fail
  refine Calls.mono (K14.out _ B14.out) ?_
  rintro e w14 ⟨rfl, b14⟩
  have B15 : Hid _ := b14
  clear b14 K14 B14
  go_wp2_with fail
  refine Calls.mono (K15.out _ B15.out) ?_
  rintro e w15 ⟨rfl, b15⟩
  have B16 : Hid _ := b15
  clear b15 K15 B15
  go_wp2_with fail
  refine Calls.mono (K16.out _ B16.out) ?_
  rintro e w16 ⟨rfl, b16⟩
  have B17 : Hid _ := b16
  clear b16 K16 B16
  go_wp2_with fail
  refine Calls.mono (K17.out _ B17.out) ?_
  rintro e w17 ⟨rfl, b17⟩
  have B18 : Hid _ := b17
  clear b17 K17 B17
  go_wp2_with fail
  refine Calls.mono (K18.out _ B18.out) ?_
  rintro e w18 ⟨rfl, b18⟩
  have B19 : Hid _ := b18
  clear b18 K18 B18
  go_wp2_with fail
  refine Calls.mono (K19.out _ B19.out) ?_
  rintro e w19 ⟨rfl, b19⟩
  have B20 : Hid _ := b19
  clear b19 K19 B19
  go_wp2_with fail
  refine Calls.mono (K20.out _ B20.out) ?_
  rintro e w20 ⟨rfl, b20⟩
  have B21 : Hid _ := b20
  clear b20 K20 B20
  go_wp2_with fail
  refine Calls.mono (K21.out _ B21.out) ?_
  rintro e w21 ⟨rfl, b21⟩
  have B22 : Hid _ := b21
  clear b21 K21 B21
  go_wp2_with fail
  refine Calls.mono (K22.out _ B22.out) ?_
  rintro e w22 ⟨rfl, b22⟩
  have B23 : Hid _ := b22
  clear b22 K22 B22
  go_wp2_with fail
  refine Calls.mono (K23.out _ B23.out) ?_
  rintro e w23 ⟨rfl, b23⟩
  have B24 : Hid _ := b23
  clear b23 K23 B23
  go_wp2_with fail
  refine Calls.mono (K24.out _ B24.out) ?_
  rintro e w24 ⟨rfl, b24⟩
  have B25 : Hid _ := b24
  clear b24 K24 B24
  go_wp2_with fail
  refine Calls.mono (K25.out _ B25.out) ?_
  rintro e w25 ⟨rfl, b25⟩
  have B26 : Hid _ := b25
  clear b25 K25 B25
  go_wp2_with fail
  refine Calls.mono (K26.out _ B26.out) ?_
  rintro e w26 ⟨rfl, b26⟩
  have B27 : Hid _ := b26
  clear b26 K26 B26
  go_wp2_with fail
  refine Calls.mono (K27.out _ B27.out) ?_
  rintro e w27 ⟨rfl, b27⟩
  have B28 : Hid _ := b27
  clear b27 K27 B27
  obtain ⟨dd, zz, ff⟩ := FIN.out w27 B28.out
  have fin : Hid _ := ff
  have hst : Hid _ := store_book N w27 dd zz
  clear dd zz ff FIN B28
  go_wp2_with (refine wpList_store_run (by rfl) (.tmp 116) (.tmp 115) 89 (by rfl) _ _ _ (by rfl) (by rfl) hst.out ?_)
  go_ret
  exact ⟨rfl, fin.out⟩
/-- a book, what it owns told by a bound. -/
structure BB (N C n : Nat) (Own : Nat → Prop) (w : World) : Prop where
  mb : ∃ M V H, MB N C M V H w ∧ (∀ f, M f ≤ n) ∧ ∀ f q, own (H f) (V f) (M f) q → Own q
  at_ : Own N
  lt : ∀ q, Own q → q < w.heap.size
  nC : N < C ∧ C ≤ w.heap.size
/-- what is not the book's stays. -/
structure KO (Own : Nat → Prop) (w w' : World) : Prop where
  size : w.heap.size ≤ w'.heap.size
  keep : ∀ q, q < w.heap.size → ¬ Own q → w'.heap[q]? = w.heap[q]?
  same : w'.os = w.os ∧ w'.tape = w.tape ∧ w'.output = w.output
theorem KO.refl (Own : Nat → Prop) (w : World) : KO Own w w := ⟨Nat.le_refl _, fun _ _ _ => rfl, rfl, rfl, rfl⟩
theorem KO.below {Own : Nat → Prop} {w w' : World} {K : Nat} (h : KO Own w w') (hK : K ≤ w.heap.size) (hn : ∀ q, q < K → ¬ Own q) : Below K w w' := ⟨h.same.1, h.same.2.1, h.same.2.2, h.size, fun q hq => h.keep q (by omega) (hn q hq)⟩
theorem BB.keep {N C n : Nat} {Own : Nat → Prop} {w w' : World} (h : BB N C n Own w) (sz : w.heap.size ≤ w'.heap.size) (k : ∀ q, Own q → q < w.heap.size → w'.heap[q]? = w.heap[q]?) : BB N C n Own w' := by
  obtain ⟨⟨M, V, H, mb, hn, ho⟩, a, lt, nC⟩ := h
  exact ⟨⟨M, V, H, mb.keep sz (k N a mb.nC.2.1) (fun f q e => k q (ho f q e) (mb.lt f e).2), hn, ho⟩, a, fun q e => by have := lt q e; omega, by omega⟩
theorem BB.below {N C n : Nat} {Own : Nat → Prop} {w w' : World} (h : BB N C n Own w) (b : Below w.heap.size w w') : BB N C n Own w' := h.keep b.size (fun q _ hq => b.block q hq)
theorem BB.more {N C n n' : Nat} {Own Own' : Nat → Prop} {w : World} (h : BB N C n Own w) (hn : n ≤ n') (ho : ∀ q, Own q → Own' q) (lt : ∀ q, Own' q → q < w.heap.size) : BB N C n' Own' w := by
  obtain ⟨⟨M, V, H, mb, h1, h2⟩, a, _, nC⟩ := h
  exact ⟨⟨M, V, H, mb, fun f => Nat.le_trans (h1 f) hn, fun f q e => ho q (h2 f q e)⟩, ho N a, lt, nC⟩
theorem BB.empty {N C : Nat} {w : World} (hN : N < C) (hC : C ≤ w.heap.size) (hc : ∀ j, j < 28 → w.cell? ⟨N, j, none⟩ = some (.slice none 0 0)) (hz : ∀ j, w.frozen? ⟨N, j, none⟩ = false) : BB N C 0 (fun q => q = N) w := by
  have no : ∀ q, ¬ own (.slice none 0 0) (fun _ => undef) 0 q := fun q e => by
    rcases e with e | ⟨j, hj, _⟩
    · simp [Value.ownBlock] at e
    · omega
  refine ⟨⟨fun _ => 0, fun _ _ => undef, fun _ => .slice none 0 0, ⟨?_, fun f g _ q e => absurd e (no q), fun j _ => ⟨rfl, rfl⟩⟩, fun _ => Nat.le_refl _, fun f q e => absurd e (no q)⟩, rfl, fun q e => by omega, by omega⟩
  · exact ⟨fun _ => [], ⟨⟨hN, by omega, hC, fun i hi => by omega, fun k e => (by cases e), fun i j hi => by omega, fun i hi => by omega⟩, ⟨hc 2 (by omega), ⟨rfl, Or.inl ⟨rfl, rfl⟩⟩, fun j hj => by omega, Bk2.BF.refl _ _ _⟩, fun j hj _ => hc j hj, hz⟩, fun j hj => by omega⟩
theorem BB.start (w : World) : BB w.heap.size (w.heap.size + 1) 0 (fun q => q = w.heap.size) (w.alloc (.cells (Array.replicate 28 (.slice none 0 0)) 89)) :=
  BB.empty (by omega) (by simp) (fun j hj => by rw [World.cell?_alloc_at _ _ _ _ rfl, Array.getElem?_replicate, if_pos hj]) (fun j => World.frozen?_alloc_at _ _ _ _ rfl)
theorem BB.take2 {N C n B : Nat} {Own : Nat → Prop} {w : World} {v : Value} {l : List (Value)} (h : BB N C n Own w) (o : Bk2.OE w B v l) (hl : l.length ≤ 268435456) (hv : ∀ q, v.ownBlock = some q → C ≤ q ∧ ¬ Own q) (hn : n ≤ 4194304) :
    Calls Tryz.prog 23 #[.pointer (some ⟨N, 0, none⟩), v] w fun e w' => e = .returned undef ∧ BB N C (n + 1) (fun q => Own q ∨ v.ownBlock = some q ∨ (w.heap.size ≤ q ∧ q < w'.heap.size)) w' ∧ KO Own w w' := by
  obtain ⟨⟨M, V, H, mb, h1, h2⟩, a, lt, nC⟩ := h
  refine (mb.take2 o hl (fun q e => ⟨(hv q e).1, fun g c => (hv q e).2 (h2 g q c)⟩) (by have := h1 2; omega)).mono fun e w' ⟨e1, h', mb', fr⟩ => ⟨e1, ⟨⟨_, _, _, mb', fun g => ?_, fun g q e => ?_⟩, Or.inl a, fun q e => ?_, by have := fr.size; omega⟩, ⟨fr.size, fun q hq hn => fr.keep q hq (fun c => hn (c ▸ a)) (fun c => hn (h2 2 q (Or.inl c))), fr.same⟩⟩
  · by_cases c : g = 2
    · subst c; rw [upd_at]; have := h1 2; omega
    · rw [upd_ne c]; have := h1 g; omega
  · rcases own_upd rfl fr.own g q e with c | ⟨_, c | c⟩
    · exact Or.inl (h2 g q c)
    · exact Or.inr (Or.inl c)
    · exact Or.inr (Or.inr ⟨c, (mb'.lt g e).2⟩)
  · rcases e with e | e | e
    · have := lt q e; have := fr.size; omega
    · have := (o.bound e).2; have := fr.size; omega
    · exact e.2
theorem BB.alone {N C n : Nat} {Own : Nat → Prop} {w : World} (h : BB N C n Own w) (hn : n ≤ 4194304) :
    Calls Tryz.prog 24 #[.pointer (some ⟨N, 0, none⟩)] w fun e w' => e = .returned (.bool true) ∧ KO Own w w' := by
  obtain ⟨⟨M, V, H, mb, h1, h2⟩, a, lt, nC⟩ := h
  refine (alone_any mb (fun f => Nat.le_trans (h1 f) hn)).mono fun e w' ⟨e1, fm⟩ => ⟨e1, fm.size, fun q hq c => fm.keep q hq (fun d => ?_), fm.same⟩
  rcases d with ⟨f, _, j, hj, e⟩ | d
  · exact c (h2 f q (Or.inr ⟨j, hj, e⟩))
  · exact c (d ▸ a)
end Go.Proofs.YtdfnomglkibfbaaGreatDoor.Mb

namespace Go.Proofs.YtdfnomglkibfbaaGreatDoor.Vf
open Go.RowKit
set_option linter.unusedVariables false
set_option linter.unusedSimpArgs false
set_option maxRecDepth 100000
theorem res_ne (p : PrH) (q : PrL) : ∀ c x, resD p q = some (c, x) → c ≠ 0 := by
  intro c x h
  unfold resD resOf at h
  cases hd : hdB p q with
  | false => rw [hd] at h; simp at h; omega
  | true =>
    rw [hd] at h
    simp only [Bool.true_eq_false, if_false] at h
    cases e1 : eachD p.sz true q.accs q.filter with
    | some y =>
      rw [e1] at h
      obtain ⟨k, e⟩ := y
      simp at h
      rw [← h.1]; exact eachD_ne e1
    | none =>
      rw [e1] at h
      simp only at h
      cases e2 : eachD p.sz false q.accs q.output with
      | some y =>
        rw [e2] at h
        obtain ⟨k, e⟩ := y
        simp at h
        rw [← h.1]; exact eachD_ne e2
      | none =>
        rw [e2] at h
        simp only at h
        cases h1 : (hgtD q.filter 0 s0).2 with
        | some k => rw [h1] at h; simp at h; omega
        | none =>
          rw [h1] at h
          simp only at h
          cases h2 : (hgtD q.output 0 s0).2 with
          | some k => rw [h2] at h; simp at h; omega
          | none =>
            rw [h2] at h
            simp only at h
            split at h
            · cases h
            · simp at h; omega
theorem bad_is (r : Option (Int × Option Int)) (hr : ∀ c x, r = some (c, x) → c ≠ 0) : ∃ c x b, badR r = badV c x b ∧ (r = none → c = 0 ∧ x = 0 ∧ b = false) ∧ (r ≠ none → c ≠ 0) := by
  cases r with
  | none => exact ⟨0, 0, false, rfl, fun _ => ⟨rfl, rfl, rfl⟩, fun h => absurd rfl h⟩
  | some y =>
    obtain ⟨c, x⟩ := y
    cases x with
    | none => exact ⟨c, 0, false, rfl, fun h => (by simp at h), fun _ => hr c _ rfl⟩
    | some x => exact ⟨c, x, true, rfl, fun h => (by simp at h), fun _ => hr c _ rfl⟩
end Go.Proofs.YtdfnomglkibfbaaGreatDoor.Vf

namespace Go.Proofs.YtdfnomglkibfbaaGreatDoor.Vf
open Go.RowKit
set_option linter.unusedVariables false
set_option linter.unusedSimpArgs false
set_option maxRecDepth 100000
theorem eq_bad (c x : Int) (b : Bool) (w : World) : (binOp .eql 36 (.agg #[.int .i64 c, .int .i64 x, .int .i64 0, .bool b, .bool false]) (.agg #[.int .i64 c, .int .i64 x, .int .i64 0, .bool b, .bool false])).run Tryz.prog w = .ok (.bool true) w := by
  have hS : Tryz.prog.underlying 36 = some (.struct (Tryz.prog.fieldsOf 36)) := by kernel_rfl
  have hp : Tryz.prog.stoodInHeld 36 = false := by kernel_rfl
  rw [run_eql_struct, show (10000 : Nat) = 9999 + 1 from rfl, run_equalIn_agg w 9999 36 _ _ hS hp]
  simp only [Program.fieldsOf, Tryz.underlying36]
  go_simp
theorem oe2_of {w : World} {B : Nat} {v : Value} {l : List Int} (h : I6.OE w B v l) : Bk2.OE w B v (l.map fun x => .int .i64 x) := by
  unfold Bk2.OE
  rw [List.length_map]
  exact h
theorem RI.oe {w : World} {b n B : Nat} {F : Nat → Int} (h : RI w b n (fun j => .int .i64 (F j))) (hB : B ≤ b) (hn : n ≤ 65536) : I6.OE w B (.slice (some ⟨b, 0, none⟩) n n) ((List.range n).map F) := by
  obtain ⟨h1, h2, cells, hg, hs⟩ := h
  have ln : ((List.range n).map F).length = n := by simp
  refine ⟨by rw [Nat.mul_one]; simp, Or.inr ⟨b, n, cells, by rw [ln], hB, hg, by rw [ln]; exact Nat.le_refl _, Nat.le_trans hn (by decide), by rw [hs, Nat.mul_one], ?_⟩⟩
  rw [ln, Nat.mul_one]
  apply List.ext_getElem?
  intro j
  rw [List.getElem?_take]
  by_cases hj : j < n
  · rw [if_pos hj, Array.getElem?_toList]
    have t := (h2 j hj).1
    rw [cell_of_row _ b _ cells _ (0, 0) hg] at t
    rw [t]
    simp [hj, I6.vl]
  · rw [if_neg hj]
    exact (List.getElem?_eq_none (by simp; omega)).symm
/-- an error's cells in a box. -/
def WA (W : World) (g : Nat) (c x : Int) (b : Bool) : Prop := g < W.heap.size ∧ W.cell? ⟨g, 0, none⟩ = some (.int .i64 c) ∧ W.cell? ⟨g, 1, none⟩ = some (.int .i64 x) ∧ W.cell? ⟨g, 2, none⟩ = some (.int .i64 0) ∧ W.cell? ⟨g, 3, none⟩ = some (.bool b) ∧ W.cell? ⟨g, 4, none⟩ = some (.bool false)
theorem WA.keep {W W' : World} {g : Nat} {c x : Int} {b : Bool} (h : WA W g c x b) (hz : W.heap.size ≤ W'.heap.size) (hk : W'.heap[g]? = W.heap[g]?) : WA W' g c x b := by
  obtain ⟨h1, h2, h3, h4, h5, h6⟩ := h
  exact ⟨by omega, by rw [World.cell?_of_block (w := W) hk]; exact h2, by rw [World.cell?_of_block (w := W) hk]; exact h3, by rw [World.cell?_of_block (w := W) hk]; exact h4, by rw [World.cell?_of_block (w := W) hk]; exact h5, by rw [World.cell?_of_block (w := W) hk]; exact h6⟩
/-- beside the book. -/
structure XJ (w : World) (p : PrH) (g : Nat) (c x : Int) (b : Bool) (W : World) : Prop where
  eh : EH w p W
  wa : WA W g c x b
theorem XJ.below {w W W' : World} {p : PrH} {g : Nat} {c x : Int} {b : Bool} (h : XJ w p g c x b W) (hb : Below W.heap.size W W') : XJ w p g c x b W' := ⟨h.eh.below hb, h.wa.keep hb.size (hb.block g h.wa.1)⟩
/-- with the book. -/
structure OJ (w : World) (p : PrH) (N g n : Nat) (c x : Int) (b : Bool) (W : World) : Prop where
  x : XJ w p g c x b W
  j : ∃ Own, Mb.BB N (N + 1) n Own W ∧ ∀ q, Own q → N ≤ q ∧ q ≠ g
  l1 : w.heap.size < N
  l2 : N < g
theorem OJ.below {w W W' : World} {p : PrH} {N g n : Nat} {c x : Int} {b : Bool} (h : OJ w p N g n c x b W) (hb : Below W.heap.size W W') : OJ w p N g n c x b W' := by
  obtain ⟨O, bb, hi⟩ := h.j
  exact ⟨h.x.below hb, ⟨O, bb.below hb, hi⟩, h.l1, h.l2⟩
theorem XJ.ko {w W W' : World} {p : PrH} {N g n : Nat} {c x : Int} {b : Bool} (h : OJ w p N g n c x b W) {Own : Nat → Prop} (bb : Mb.BB N (N + 1) n Own W) (hi : ∀ q, Own q → N ≤ q ∧ q ≠ g) (k : Mb.KO Own W W') : XJ w p g c x b W' := by
  have nC := bb.nC
  have b := k.below (K := N) (by omega) (fun q hq c => by have := hi q c; omega)
  refine ⟨⟨h.x.eh.1.trans (b.mono (by have := h.l1; omega)), h.x.eh.2.below b h.l1⟩, h.x.wa.keep k.size (k.keep g h.x.wa.1 (fun c => (hi g c).2 rfl))⟩
/-- with the book, what it owns named. -/
structure OW (w : World) (p : PrH) (N g n : Nat) (c x : Int) (b : Bool) (Own : Nat → Prop) (W : World) : Prop where
  x : XJ w p g c x b W
  bb : Mb.BB N (N + 1) n Own W
  hi : ∀ q, Own q → N ≤ q ∧ q ≠ g
  l1 : w.heap.size < N
  l2 : N < g
theorem OJ.ow {w W : World} {p : PrH} {N g n : Nat} {c x : Int} {b : Bool} (h : OJ w p N g n c x b W) : ∃ Own, OW w p N g n c x b Own W := by
  obtain ⟨O, bb, hi⟩ := h.j
  exact ⟨O, h.x, bb, hi, h.l1, h.l2⟩
theorem OW.oj {w W : World} {p : PrH} {N g n : Nat} {c x : Int} {b : Bool} {Own : Nat → Prop} (h : OW w p N g n c x b Own W) : OJ w p N g n c x b W := ⟨h.x, ⟨_, h.bb, h.hi⟩, h.l1, h.l2⟩
theorem OW.below {w W W' : World} {p : PrH} {N g n : Nat} {c x : Int} {b : Bool} {Own : Nat → Prop} (h : OW w p N g n c x b Own W) (hb : Below W.heap.size W W') : OW w p N g n c x b Own W' := ⟨h.x.below hb, h.bb.below hb, h.hi, h.l1, h.l2⟩
/-- a row that waits to be taken. -/
def Pn (N g : Nat) (Own : Nat → Prop) (W : World) (v : Value) : Prop := ∃ B l, I6.OE W B v l ∧ l.length ≤ 65536 ∧ ∀ q, v.ownBlock = some q → N + 1 ≤ q ∧ q ≠ g ∧ ¬ Own q
/-- rows that wait. -/
def TP (w : World) (p : PrH) (N g n : Nat) (c x : Int) (b : Bool) (vs : List Value) (W : World) : Prop := ∃ Own, OW w p N g n c x b Own W ∧ (∀ v, v ∈ vs → Pn N g Own W v) ∧ vs.Pairwise (fun u v => ∀ q, v.ownBlock = some q → u.ownBlock ≠ some q)
theorem TP.start {w W : World} {p : PrH} {N g n : Nat} {c x : Int} {b : Bool} (h : OJ w p N g n c x b W) : TP w p N g n c x b [] W := by
  obtain ⟨O, h⟩ := h.ow
  exact ⟨O, h, fun v hv => by simp at hv, List.Pairwise.nil⟩
theorem TP.done {w W : World} {p : PrH} {N g n : Nat} {c x : Int} {b : Bool} (h : TP w p N g n c x b [] W) : OJ w p N g n c x b W := by
  obtain ⟨O, h, _⟩ := h
  exact h.oj
theorem TP.xj {w W : World} {p : PrH} {N g n : Nat} {c x : Int} {b : Bool} {vs : List Value} (h : TP w p N g n c x b vs W) : XJ w p g c x b W := by
  obtain ⟨O, h, _⟩ := h
  exact h.x
theorem TP.add {w W W' : World} {p : PrH} {N g n : Nat} {c x : Int} {b : Bool} {vs : List Value} (h : TP w p N g n c x b vs W) (hb : Below W.heap.size W W') {v : Value} {l : List Int} (o : I6.OE W' W.heap.size v l) (hl : l.length ≤ 65536) : TP w p N g n c x b (vs ++ [v]) W' := by
  obtain ⟨O, h, hp, hd⟩ := h
  have nC := h.bb.nC
  have gl := h.x.wa.1
  refine ⟨O, h.below hb, fun u hu => ?_, ?_⟩
  · rcases List.mem_append.1 hu with hu | hu
    · obtain ⟨B, l', h1, h2, h3⟩ := hp u hu
      exact ⟨B, l', h1.below hb (Nat.le_refl _), h2, h3⟩
    · simp at hu
      subst hu
      exact ⟨_, l, o, hl, fun q e => ⟨by have := (o.bound e).1; omega, by have := (o.bound e).1; omega, fun cc => by have := h.bb.lt q cc; have := (o.bound e).1; omega⟩⟩
  · refine List.pairwise_append.2 ⟨hd, List.pairwise_singleton _ _, fun u hu v' hv' => ?_⟩
    simp at hv'
    subst hv'
    intro q e1 e2
    obtain ⟨B, l', h1, _⟩ := hp u hu
    have := (h1.bound e2).2
    have := (o.bound e1).1
    omega
theorem TP.take {w W : World} {p : PrH} {N g n : Nat} {c x : Int} {b : Bool} {v : Value} {vs : List Value} (h : TP w p N g n c x b (v :: vs) W) (hn : n ≤ 4194304) :
    Calls Tryz.prog 23 #[.pointer (some ⟨N, 0, none⟩), v] W fun e w' => e = .returned undef ∧ TP w p N g (n + 1) c x b vs w' := by
  obtain ⟨O, h, hp, hd⟩ := h
  obtain ⟨B, l, o, hl, hv⟩ := hp v (List.mem_cons_self ..)
  obtain ⟨d1, d2⟩ := List.pairwise_cons.1 hd
  have gl := h.x.wa.1
  refine (h.bb.take2 (oe2_of o) (by rw [List.length_map]; omega) (fun q e => ⟨(hv q e).1, (hv q e).2.2⟩) hn).mono fun e w' ⟨e1, b1, k⟩ => ⟨e1, _, ⟨XJ.ko h.oj h.bb h.hi k, b1, fun q cc => ?_, h.l1, h.l2⟩, fun u hu => ?_, d2⟩
  · have := h.l2
    rcases cc with cc | cc | cc
    · exact h.hi q cc
    · have := hv q cc; omega
    · omega
  · obtain ⟨B', l', h1, h2, h3⟩ := hp u (List.mem_cons_of_mem _ hu)
    refine ⟨B', l', h1.keep fun q e => k.keep q (h1.bound e).2 (h3 q e).2.2, h2, fun q e => ⟨(h3 q e).1, (h3 q e).2.1, fun cc => ?_⟩⟩
    rcases cc with cc | cc | cc
    · exact (h3 q e).2.2 cc
    · exact d1 u hu q e cc
    · have := (h1.bound e).2; omega
theorem OJ.alone {w W : World} {p : PrH} {N g n : Nat} {c x : Int} {b : Bool} (h : OJ w p N g n c x b W) (hn : n ≤ 4194304) :
    Calls Tryz.prog 24 #[.pointer (some ⟨N, 0, none⟩)] W fun e w' => e = .returned (.bool true) ∧ XJ w p g c x b w' := by
  obtain ⟨O, bb, hi⟩ := h.j
  exact (bb.alone hn).mono fun e w' ⟨e1, k⟩ => ⟨e1, XJ.ko h bb hi k⟩
theorem OJ.start {w W : World} {p : PrH} {g : Nat} {c x : Int} {b : Bool} (h : EH w p W) (hg : W.heap.size < g) {W' : World} (b' : Below (W.heap.size + 1) (W.alloc (.cells (Array.replicate 28 (.slice none 0 0)) 89)) W') (wa : WA W' g c x b) : OJ w p W.heap.size g 0 c x b W' := by
  have e1 : EH w p (W.alloc (.cells (Array.replicate 28 (.slice none 0 0)) 89)) := h.below ((Below.refl _ _).alloc (Nat.le_refl _) _)
  have sz : (W.alloc (.cells (Array.replicate 28 (.slice none 0 0)) 89)).heap.size = W.heap.size + 1 := by simp
  have b2 : Below (W.alloc (.cells (Array.replicate 28 (.slice none 0 0)) 89)).heap.size (W.alloc (.cells (Array.replicate 28 (.slice none 0 0)) 89)) W' := by rw [sz]; exact b'
  exact ⟨⟨e1.below b2, wa⟩, ⟨_, (Mb.BB.start W).below b2, fun q e => by omega⟩, h.2.1, hg⟩
set_option maxHeartbeats 16000000 in
theorem verifyOwn_walk (p : PrH) (q : PrL) (hN : PrN p q) (hcf : ∀ (j : Nat) (t : InP), q.filter[j]? = some t → t.c < 256) (hco : ∀ (j : Nat) (t : InP), q.output[j]? = some t → t.c < 256) (w : World) (hU : UT w) (hR : RT w) (hE : ET w) (h : PrIn w p q) : Calls Tryz.prog 7 #[p.v] w fun e w' => e = .returned (.bool true) ∧ Below w.heap.size w w' := by
  have hIH : ∀ W, EH w p W → UT W ∧ RT W ∧ ET W ∧ PrIn W p q := fun W hW => ⟨hU.below hW.1 (Nat.le_refl _), hR.below hW.1 hR.lt, ET_below hE hW.1, h.below hW.1 (Nat.le_refl _)⟩
  have ln : resP p q = none → p.filter.n ≤ 65536 ∧ p.output.n ≤ 65536 ∧ (nat2 (deadL q.filter)).length ≤ 65536 := fun hr => by
    have ps := pas_of hr
    have hl := hd_len2 hN ps.hd
    have h1 := hN.filter
    have h3 := (dead_lt (l := q.filter) q.filter.length (Nat.le_refl _)).2
    have h4 : (nat2 (deadL q.filter)).length = (deadL q.filter).length := by unfold nat2; simp
    have h5 : (deadL q.filter).length ≤ q.filter.length := h3
    omega
  have cHeights0 : ∀ W, EH w p W → Calls Tryz.prog 12 #[.agg #[.string p.from_, .string p.into, .int .i64 p.every, .int .i64 p.offset, .slice p.groups.a p.groups.n p.groups.c, .slice p.accs.a p.accs.n p.accs.c, .slice p.alias.a p.alias.n p.alias.c, .slice p.names.a p.names.n p.names.c, .slice p.texts.a p.texts.n p.texts.c, .slice p.lists.a p.lists.n p.lists.c, .slice p.times.a p.times.n p.times.c, .slice p.ints.a p.ints.n p.ints.c, .slice p.filter.a p.filter.n p.filter.c, .slice p.output.a p.output.n p.output.c]] W fun e w' => (∃ a n cc, e = .returned (.tuple #[.slice a n cc, errV (resP p q)]) ∧ ∃ l, I6.OE w' W.heap.size (.slice a n cc) l ∧ l.length ≤ 65536) ∧ Below W.heap.size W w' := fun W hW => by
    obtain ⟨i1, i2, i3, i4⟩ := hIH W hW
    refine (Heights_any p q hN hcf hco W i1 i2 i4).mono (fun e w' hh => ⟨?_, hh.2⟩)
    have h1 := hh.1
    unfold HeightsR at h1
    cases hr : resP p q with
    | some y => rw [hr] at h1; exact ⟨none, 0, 0, h1, [], I6.OE.nil _ _, Nat.zero_le _⟩
    | none =>
      rw [hr] at h1
      obtain ⟨b1, l1, h2, h3⟩ := h1
      exact ⟨_, _, _, h2, _, RI.oe h3 l1 (by have := ln hr; omega), by have := ln hr; simp; omega⟩
  have cRises0 : ∀ W, EH w p W → Calls Tryz.prog 14 #[.agg #[.string p.from_, .string p.into, .int .i64 p.every, .int .i64 p.offset, .slice p.groups.a p.groups.n p.groups.c, .slice p.accs.a p.accs.n p.accs.c, .slice p.alias.a p.alias.n p.alias.c, .slice p.names.a p.names.n p.names.c, .slice p.texts.a p.texts.n p.texts.c, .slice p.lists.a p.lists.n p.lists.c, .slice p.times.a p.times.n p.times.c, .slice p.ints.a p.ints.n p.ints.c, .slice p.filter.a p.filter.n p.filter.c, .slice p.output.a p.output.n p.output.c]] W fun e w' => (∃ a n cc, e = .returned (.tuple #[.slice a n cc, errV (resP p q)]) ∧ ∃ l, I6.OE w' W.heap.size (.slice a n cc) l ∧ l.length ≤ 65536) ∧ Below W.heap.size W w' := fun W hW => by
    obtain ⟨i1, i2, i3, i4⟩ := hIH W hW
    refine (Rises_any p q hN hcf hco W i1 i2 i4).mono (fun e w' hh => ⟨?_, hh.2⟩)
    have h1 := hh.1
    unfold RisesR at h1
    cases hr : resP p q with
    | some y => rw [hr] at h1; exact ⟨none, 0, 0, h1, [], I6.OE.nil _ _, Nat.zero_le _⟩
    | none =>
      rw [hr] at h1
      obtain ⟨b1, l1, h2, h3⟩ := h1
      exact ⟨_, _, _, h2, _, RI.oe h3 l1 (by have := ln hr; omega), by have := ln hr; simp; omega⟩
  have cDead0 : ∀ W, EH w p W → Calls Tryz.prog 19 #[.agg #[.string p.from_, .string p.into, .int .i64 p.every, .int .i64 p.offset, .slice p.groups.a p.groups.n p.groups.c, .slice p.accs.a p.accs.n p.accs.c, .slice p.alias.a p.alias.n p.alias.c, .slice p.names.a p.names.n p.names.c, .slice p.texts.a p.texts.n p.texts.c, .slice p.lists.a p.lists.n p.lists.c, .slice p.times.a p.times.n p.times.c, .slice p.ints.a p.ints.n p.ints.c, .slice p.filter.a p.filter.n p.filter.c, .slice p.output.a p.output.n p.output.c]] W fun e w' => (∃ a n cc, e = .returned (.tuple #[.slice a n cc, errV (resP p q)]) ∧ ∃ l, I6.OE w' W.heap.size (.slice a n cc) l ∧ l.length ≤ 65536) ∧ Below W.heap.size W w' := fun W hW => by
    obtain ⟨i1, i2, i3, i4⟩ := hIH W hW
    refine (Dead_any p q hN hcf hco W i1 i2 i4).mono (fun e w' hh => ⟨?_, hh.2⟩)
    have h1 := hh.1
    unfold DeadR at h1
    cases hr : resP p q with
    | some y => rw [hr] at h1; exact ⟨none, 0, 0, h1, [], I6.OE.nil _ _, Nat.zero_le _⟩
    | none =>
      rw [hr] at h1
      obtain ⟨v, h2, h3⟩ := h1
      obtain ⟨a, cap, rfl, _⟩ := h3.ein
      exact ⟨_, _, _, h2, _, h3, (ln hr).2.2⟩
  have cL0 : ∀ W, EH w p W → Calls Tryz.prog 8 #[] W fun e w' => e = .returned (.bool true) ∧ Below W.heap.size W w' := fun W hW => live_any W (hIH W hW).1 (hIH W hW).2.1 (hIH W hW).2.2.1
  have cP0 : ∀ W, EH w p W → Calls Tryz.prog 11 #[.agg #[.string p.from_, .string p.into, .int .i64 p.every, .int .i64 p.offset, .slice p.groups.a p.groups.n p.groups.c, .slice p.accs.a p.accs.n p.accs.c, .slice p.alias.a p.alias.n p.alias.c, .slice p.names.a p.names.n p.names.c, .slice p.texts.a p.texts.n p.texts.c, .slice p.lists.a p.lists.n p.lists.c, .slice p.times.a p.times.n p.times.c, .slice p.ints.a p.ints.n p.ints.c, .slice p.filter.a p.filter.n p.filter.c, .slice p.output.a p.output.n p.output.c]] W fun e w' => e = .returned (badR (resD p q)) ∧ Below W.heap.size W w' := fun W hW => refProgram_any p q hN W (hIH W hW).2.2.2
  obtain ⟨c, x, b, eV, _, _⟩ := bad_is (resD p q) (res_ne p q)
  rw [eV] at cP0
  generalize errV (resP p q) = ve at *
  have E0 : Hid (EH w p (w.alloc (.cells p.cells 28))) := EH.new w p
  have cHeights : Hid (∀ N g n vs W, TP w p N g n c x b vs W → Calls Tryz.prog 12 #[.agg #[.string p.from_, .string p.into, .int .i64 p.every, .int .i64 p.offset, .slice p.groups.a p.groups.n p.groups.c, .slice p.accs.a p.accs.n p.accs.c, .slice p.alias.a p.alias.n p.alias.c, .slice p.names.a p.names.n p.names.c, .slice p.texts.a p.texts.n p.texts.c, .slice p.lists.a p.lists.n p.lists.c, .slice p.times.a p.times.n p.times.c, .slice p.ints.a p.ints.n p.ints.c, .slice p.filter.a p.filter.n p.filter.c, .slice p.output.a p.output.n p.output.c]] W fun e w' => ∃ a m cc, e = .returned (.tuple #[.slice a m cc, ve]) ∧ TP w p N g n c x b (vs ++ [.slice a m cc]) w') := fun N g n vs W hW => (cHeights0 W hW.xj.eh).mono (fun e w' ⟨⟨a, m, cc, h1, l, h2, h3⟩, h4⟩ => ⟨a, m, cc, h1, hW.add h4 h2 h3⟩)
  have cRises : Hid (∀ N g n vs W, TP w p N g n c x b vs W → Calls Tryz.prog 14 #[.agg #[.string p.from_, .string p.into, .int .i64 p.every, .int .i64 p.offset, .slice p.groups.a p.groups.n p.groups.c, .slice p.accs.a p.accs.n p.accs.c, .slice p.alias.a p.alias.n p.alias.c, .slice p.names.a p.names.n p.names.c, .slice p.texts.a p.texts.n p.texts.c, .slice p.lists.a p.lists.n p.lists.c, .slice p.times.a p.times.n p.times.c, .slice p.ints.a p.ints.n p.ints.c, .slice p.filter.a p.filter.n p.filter.c, .slice p.output.a p.output.n p.output.c]] W fun e w' => ∃ a m cc, e = .returned (.tuple #[.slice a m cc, ve]) ∧ TP w p N g n c x b (vs ++ [.slice a m cc]) w') := fun N g n vs W hW => (cRises0 W hW.xj.eh).mono (fun e w' ⟨⟨a, m, cc, h1, l, h2, h3⟩, h4⟩ => ⟨a, m, cc, h1, hW.add h4 h2 h3⟩)
  have cDead : Hid (∀ N g n vs W, TP w p N g n c x b vs W → Calls Tryz.prog 19 #[.agg #[.string p.from_, .string p.into, .int .i64 p.every, .int .i64 p.offset, .slice p.groups.a p.groups.n p.groups.c, .slice p.accs.a p.accs.n p.accs.c, .slice p.alias.a p.alias.n p.alias.c, .slice p.names.a p.names.n p.names.c, .slice p.texts.a p.texts.n p.texts.c, .slice p.lists.a p.lists.n p.lists.c, .slice p.times.a p.times.n p.times.c, .slice p.ints.a p.ints.n p.ints.c, .slice p.filter.a p.filter.n p.filter.c, .slice p.output.a p.output.n p.output.c]] W fun e w' => ∃ a m cc, e = .returned (.tuple #[.slice a m cc, ve]) ∧ TP w p N g n c x b (vs ++ [.slice a m cc]) w') := fun N g n vs W hW => (cDead0 W hW.xj.eh).mono (fun e w' ⟨⟨a, m, cc, h1, l, h2, h3⟩, h4⟩ => ⟨a, m, cc, h1, hW.add h4 h2 h3⟩)
  have cP1 : Hid (∀ W, EH w p W → Calls Tryz.prog 11 #[.agg #[.string p.from_, .string p.into, .int .i64 p.every, .int .i64 p.offset, .slice p.groups.a p.groups.n p.groups.c, .slice p.accs.a p.accs.n p.accs.c, .slice p.alias.a p.alias.n p.alias.c, .slice p.names.a p.names.n p.names.c, .slice p.texts.a p.texts.n p.texts.c, .slice p.lists.a p.lists.n p.lists.c, .slice p.times.a p.times.n p.times.c, .slice p.ints.a p.ints.n p.ints.c, .slice p.filter.a p.filter.n p.filter.c, .slice p.output.a p.output.n p.output.c]] W fun e w' => e = .returned (.agg #[.int .i64 c, .int .i64 x, .int .i64 0, .bool b, .bool false]) ∧ Below W.heap.size W w') := cP0
  have cP : Hid (∀ g W, XJ w p g c x b W → Calls Tryz.prog 11 #[.agg #[.string p.from_, .string p.into, .int .i64 p.every, .int .i64 p.offset, .slice p.groups.a p.groups.n p.groups.c, .slice p.accs.a p.accs.n p.accs.c, .slice p.alias.a p.alias.n p.alias.c, .slice p.names.a p.names.n p.names.c, .slice p.texts.a p.texts.n p.texts.c, .slice p.lists.a p.lists.n p.lists.c, .slice p.times.a p.times.n p.times.c, .slice p.ints.a p.ints.n p.ints.c, .slice p.filter.a p.filter.n p.filter.c, .slice p.output.a p.output.n p.output.c]] W fun e w' => e = .returned (.agg #[.int .i64 c, .int .i64 x, .int .i64 0, .bool b, .bool false]) ∧ XJ w p g c x b w') := fun g W hW => (cP0 W hW.eh).mono (fun e w' hh => ⟨hh.1, hW.below hh.2⟩)
  have cL : Hid (∀ N g n W, OJ w p N g n c x b W → Calls Tryz.prog 8 #[] W fun e w' => e = .returned (.bool true) ∧ OJ w p N g n c x b w') := fun N g n W hW => (cL0 W hW.x.eh).mono (fun e w' hh => ⟨hh.1, hW.below hh.2⟩)
  have hK : Hid (∀ g W, XJ w p g c x b W → XJ w p g c x b W ∧ W.cell? ⟨w.heap.size, 0, none⟩ = some (.string p.from_) ∧ W.cell? ⟨w.heap.size, 1, none⟩ = some (.string p.into) ∧ W.cell? ⟨w.heap.size, 2, none⟩ = some (.int .i64 p.every) ∧ W.cell? ⟨w.heap.size, 3, none⟩ = some (.int .i64 p.offset) ∧ W.cell? ⟨w.heap.size, 4, none⟩ = some (.slice p.groups.a p.groups.n p.groups.c) ∧ W.cell? ⟨w.heap.size, 5, none⟩ = some (.slice p.accs.a p.accs.n p.accs.c) ∧ W.cell? ⟨w.heap.size, 6, none⟩ = some (.slice p.alias.a p.alias.n p.alias.c) ∧ W.cell? ⟨w.heap.size, 7, none⟩ = some (.slice p.names.a p.names.n p.names.c) ∧ W.cell? ⟨w.heap.size, 8, none⟩ = some (.slice p.texts.a p.texts.n p.texts.c) ∧ W.cell? ⟨w.heap.size, 9, none⟩ = some (.slice p.lists.a p.lists.n p.lists.c) ∧ W.cell? ⟨w.heap.size, 10, none⟩ = some (.slice p.times.a p.times.n p.times.c) ∧ W.cell? ⟨w.heap.size, 11, none⟩ = some (.slice p.ints.a p.ints.n p.ints.c) ∧ W.cell? ⟨w.heap.size, 12, none⟩ = some (.slice p.filter.a p.filter.n p.filter.c) ∧ W.cell? ⟨w.heap.size, 13, none⟩ = some (.slice p.output.a p.output.n p.output.c) ∧ W.cell? ⟨g, 0, none⟩ = some (.int .i64 c) ∧ W.cell? ⟨g, 1, none⟩ = some (.int .i64 x) ∧ W.cell? ⟨g, 2, none⟩ = some (.int .i64 0) ∧ W.cell? ⟨g, 3, none⟩ = some (.bool b) ∧ W.cell? ⟨g, 4, none⟩ = some (.bool false)) := fun g W hW => by
    obtain ⟨_, _, x0, x1, x2, x3, x4, x5, x6, x7, x8, x9, x10, x11, x12, x13⟩ := id hW.eh
    obtain ⟨_, z0, z1, z2, z3, z4⟩ := id hW.wa
    exact ⟨hW, x0, x1, x2, x3, x4, x5, x6, x7, x8, x9, x10, x11, x12, x13, z0, z1, z2, z3, z4⟩
  clear cHeights0 cRises0 cDead0 cL0 cP0 hIH hU hR hE h hN hcf hco eV ln
  unfold PrH.cells at E0
  unfold PrH.v
  go_enter Tryz.func7, Tryz.ntmps7
  go_upto_region 1 with fail
  generalize World.alloc w _ = W1 at E0 ⊢
  have bk : Below W1.heap.size W1 (W1.alloc (.cells #[.slice none 0 0, .slice none 0 0, .slice none 0 0, .slice none 0 0, .slice none 0 0, .slice none 0 0, .slice none 0 0, .slice none 0 0, .slice none 0 0, .slice none 0 0, .slice none 0 0, .slice none 0 0, .slice none 0 0, .slice none 0 0, .slice none 0 0, .slice none 0 0, .slice none 0 0, .slice none 0 0, .slice none 0 0, .slice none 0 0, .slice none 0 0, .slice none 0 0, .slice none 0 0, .slice none 0 0, .slice none 0 0, .slice none 0 0, .slice none 0 0, .slice none 0 0] 89)) := (Below.refl _ _).alloc (Nat.le_refl _) _
  have E1 : Hid (EH w p (W1.alloc (.cells #[.slice none 0 0, .slice none 0 0, .slice none 0 0, .slice none 0 0, .slice none 0 0, .slice none 0 0, .slice none 0 0, .slice none 0 0, .slice none 0 0, .slice none 0 0, .slice none 0 0, .slice none 0 0, .slice none 0 0, .slice none 0 0, .slice none 0 0, .slice none 0 0, .slice none 0 0, .slice none 0 0, .slice none 0 0, .slice none 0 0, .slice none 0 0, .slice none 0 0, .slice none 0 0, .slice none 0 0, .slice none 0 0, .slice none 0 0, .slice none 0 0, .slice none 0 0] 89))) := E0.out.below bk
  have sz : Hid ((W1.alloc (.cells #[.slice none 0 0, .slice none 0 0, .slice none 0 0, .slice none 0 0, .slice none 0 0, .slice none 0 0, .slice none 0 0, .slice none 0 0, .slice none 0 0, .slice none 0 0, .slice none 0 0, .slice none 0 0, .slice none 0 0, .slice none 0 0, .slice none 0 0, .slice none 0 0, .slice none 0 0, .slice none 0 0, .slice none 0 0, .slice none 0 0, .slice none 0 0, .slice none 0 0, .slice none 0 0, .slice none 0 0, .slice none 0 0, .slice none 0 0, .slice none 0 0, .slice none 0 0] 89)).heap.size = W1.heap.size + 1) := hid (by simp)
  have ST : Hid (∀ g W', W1.heap.size < g → Below (W1.heap.size + 1) (W1.alloc (.cells #[.slice none 0 0, .slice none 0 0, .slice none 0 0, .slice none 0 0, .slice none 0 0, .slice none 0 0, .slice none 0 0, .slice none 0 0, .slice none 0 0, .slice none 0 0, .slice none 0 0, .slice none 0 0, .slice none 0 0, .slice none 0 0, .slice none 0 0, .slice none 0 0, .slice none 0 0, .slice none 0 0, .slice none 0 0, .slice none 0 0, .slice none 0 0, .slice none 0 0, .slice none 0 0, .slice none 0 0, .slice none 0 0, .slice none 0 0, .slice none 0 0, .slice none 0 0] 89)) W' → WA W' g c x b → OJ w p W1.heap.size g 0 c x b W') := fun g W' hg hb hw => OJ.start E0.out hg hb hw
  clear bk E0
  go_upto_region 2 with fail
  generalize World.alloc W1 _ = W2 at E1 sz ST ⊢
  generalize W1.heap.size = N at sz ST ⊢
  obtain ⟨_, zp, y0, y1, y2, y3, y4, y5, y6, y7, y8, y9, y10, y11, y12, y13⟩ := E1.out
  go_wp2_with fail
  clear zp y0 y1 y2 y3 y4 y5 y6 y7 y8 y9 y10 y11 y12 y13
  with_reducible refine Calls.mono (cP1.out _ E1.out) ?_
  rintro e w3 ⟨rfl, b3⟩
  have J0 : Hid (OJ w p N w3.heap.size 0 c x b (w3.alloc (.cells #[.int .i64 c, .int .i64 x, .int .i64 0, .bool b, .bool false] 36))) := by
    have s2 := sz.out
    have s3 := b3.size
    have ba : Below w3.heap.size w3 (w3.alloc (.cells #[.int .i64 c, .int .i64 x, .int .i64 0, .bool b, .bool false] 36)) := (Below.refl _ _).alloc (Nat.le_refl _) _
    refine ST.out _ _ (by omega) ((b3.trans (ba.mono s3)).mono (by omega)) ⟨by simp, ?_, ?_, ?_, ?_, ?_⟩ <;> simp [go_sem]
  clear ST sz E1 b3 cP1
  go_upto_region 3 with fail
  generalize w3.heap.size = g at J0 ⊢
  generalize World.alloc w3 _ = W4 at J0 ⊢
  go_wp2_with fail
  go_loopw [5] (fun v5 wr => ∃ k : Nat, v5 = .int .i64 (k : Int) ∧ k ≤ 2 ∧ Hid (OJ w p N g (3 * k) c x b wr)) (fun v5 _ => 2 - (intOf v5).toNat)
  case atStart => exact ⟨0, rfl, by omega, J0⟩
  case round =>
    clear J0
    obtain ⟨k, rfl, hk2, hJ⟩ := hrel
    have kw : IntKind.i64.wrap ((k : Int) + 1) = ((k + 1 : Nat) : Int) := IntWalk.i64_in _ (by omega)
    by_cases hk : k < 2
    · have hkI : (k : Int) < 2 := by omega
      have hcn : Hid (3 * k + 3 ≤ 4194304) := by show 3 * k + 3 ≤ 4194304; omega
      have T0 : Hid (TP w p N g (3 * k) c x b [] wr) := TP.start hJ.out
      clear hJ
      obtain ⟨_, zp, y0, y1, y2, y3, y4, y5, y6, y7, y8, y9, y10, y11, y12, y13⟩ := T0.out.xj.eh
      go_wp2_with fail
      clear zp y0 y1 y2 y3 y4 y5 y6 y7 y8 y9 y10 y11 y12 y13
      with_reducible refine Calls.mono (cHeights.out _ _ _ _ _ T0.out) ?_
      rintro e w5 ⟨a1, m1, c1, rfl, t1⟩
      have T1 : Hid (TP w p N g (3 * k) c x b [.slice a1 m1 c1] w5) := t1
      clear t1 T0
      obtain ⟨_, zp, y0, y1, y2, y3, y4, y5, y6, y7, y8, y9, y10, y11, y12, y13⟩ := T1.out.xj.eh
      go_wp2_with fail
      clear zp y0 y1 y2 y3 y4 y5 y6 y7 y8 y9 y10 y11 y12 y13
      with_reducible refine Calls.mono (cRises.out _ _ _ _ _ T1.out) ?_
      rintro e w6 ⟨a2, m2, c2, rfl, t2⟩
      have T2 : Hid (TP w p N g (3 * k) c x b [.slice a1 m1 c1, .slice a2 m2 c2] w6) := t2
      clear t2 T1
      obtain ⟨_, zp, y0, y1, y2, y3, y4, y5, y6, y7, y8, y9, y10, y11, y12, y13⟩ := T2.out.xj.eh
      go_wp2_with fail
      clear zp y0 y1 y2 y3 y4 y5 y6 y7 y8 y9 y10 y11 y12 y13
      with_reducible refine Calls.mono (cDead.out _ _ _ _ _ T2.out) ?_
      rintro e w7 ⟨a3, m3, c3, rfl, t3⟩
      have T3 : Hid (TP w p N g (3 * k) c x b [.slice a1 m1 c1, .slice a2 m2 c2, .slice a3 m3 c3] w7) := t3
      clear t3 T2
      go_wp2_with fail
      with_reducible refine Calls.mono (T3.out.take (by have := hcn.out; omega)) ?_
      rintro e w8 ⟨rfl, t4⟩
      have T4 : Hid (TP w p N g (3 * k + 1) c x b [.slice a2 m2 c2, .slice a3 m3 c3] w8) := t4
      clear t4 T3
      go_wp2_with fail
      with_reducible refine Calls.mono (T4.out.take (by have := hcn.out; omega)) ?_
      rintro e w9 ⟨rfl, t5⟩
      have T5 : Hid (TP w p N g (3 * k + 1 + 1) c x b [.slice a3 m3 c3] w9) := t5
      clear t5 T4
      go_wp2_with fail
      with_reducible refine Calls.mono (T5.out.take (by have := hcn.out; omega)) ?_
      rintro e wa ⟨rfl, t6⟩
      have NX : Hid (OJ w p N g (3 * (k + 1)) c x b wa) := by
        have e3 : 3 * k + 1 + 1 + 1 = 3 * (k + 1) := by omega
        rw [e3] at t6
        exact t6.done
      clear t6 T5 hcn
      go_wp2_with fail
      exact ⟨⟨k + 1, by first | rfl | (rw [kw]), by omega, NX⟩, by first | (simp [intOf]; done) | (simp [intOf]; omega)⟩
    · have hkI : ¬ (k : Int) < 2 := by omega
      obtain rfl : k = 2 := by omega
      have eqB : ∀ W, (binOp .eql 36 (.agg #[.int .i64 c, .int .i64 x, .int .i64 0, .bool b, .bool false]) (.agg #[.int .i64 c, .int .i64 x, .int .i64 0, .bool b, .bool false])).run Tryz.prog W = .ok (.bool true) W := fun W => eq_bad c x b W
      have OO : Hid (OJ w p N g 6 c x b wr.drew) := hJ.out.below ((Below.refl _ _).drew)
      have SS := hK.out _ _ OO.out.x
      clear hJ kw cHeights cRises cDead
      go_wp2_with fail
      go_region_held3 (fun W => XJ w p g c x b W ∧ W.cell? ⟨w.heap.size, 0, none⟩ = some (.string p.from_) ∧ W.cell? ⟨w.heap.size, 1, none⟩ = some (.string p.into) ∧ W.cell? ⟨w.heap.size, 2, none⟩ = some (.int .i64 p.every) ∧ W.cell? ⟨w.heap.size, 3, none⟩ = some (.int .i64 p.offset) ∧ W.cell? ⟨w.heap.size, 4, none⟩ = some (.slice p.groups.a p.groups.n p.groups.c) ∧ W.cell? ⟨w.heap.size, 5, none⟩ = some (.slice p.accs.a p.accs.n p.accs.c) ∧ W.cell? ⟨w.heap.size, 6, none⟩ = some (.slice p.alias.a p.alias.n p.alias.c) ∧ W.cell? ⟨w.heap.size, 7, none⟩ = some (.slice p.names.a p.names.n p.names.c) ∧ W.cell? ⟨w.heap.size, 8, none⟩ = some (.slice p.texts.a p.texts.n p.texts.c) ∧ W.cell? ⟨w.heap.size, 9, none⟩ = some (.slice p.lists.a p.lists.n p.lists.c) ∧ W.cell? ⟨w.heap.size, 10, none⟩ = some (.slice p.times.a p.times.n p.times.c) ∧ W.cell? ⟨w.heap.size, 11, none⟩ = some (.slice p.ints.a p.ints.n p.ints.c) ∧ W.cell? ⟨w.heap.size, 12, none⟩ = some (.slice p.filter.a p.filter.n p.filter.c) ∧ W.cell? ⟨w.heap.size, 13, none⟩ = some (.slice p.output.a p.output.n p.output.c) ∧ W.cell? ⟨g, 0, none⟩ = some (.int .i64 c) ∧ W.cell? ⟨g, 1, none⟩ = some (.int .i64 x) ∧ W.cell? ⟨g, 2, none⟩ = some (.int .i64 0) ∧ W.cell? ⟨g, 3, none⟩ = some (.bool b) ∧ W.cell? ⟨g, 4, none⟩ = some (.bool false)) (first | with_reducible assumption)
        (first
          | (go_at_call 8; (with_reducible refine Calls.mono (cL.out _ _ _ _ OO.out) ?_); rintro e w' ⟨rfl, O1⟩; have OO1 : Hid (OJ w p N g 6 c x b w') := O1; have SS1 := hK.out _ _ O1.x; clear O1)
          | (go_at_call 24; (with_reducible refine Calls.mono (OO1.out.alone (by omega)) ?_); rintro e w' ⟨rfl, EE⟩; have SS2 := hK.out _ _ EE)
          | (go_at_call 11; (with_reducible refine Calls.mono (cP.out _ _ EE) ?_); rintro e w' ⟨rfl, EF⟩; have SS3 := hK.out _ _ EF))
      all_goals go_wp2_with fail
      all_goals go_ret
      all_goals exact ⟨rfl, EF.eh.1⟩
end Go.Proofs.YtdfnomglkibfbaaGreatDoor.Vf

namespace Go.Proofs.YtdfnomglkibfbaaGreatDoor
open Go.ChangeShapes Go.WideShapes Go.ChangeAt Go.RowKit Go.Joins
set_option linter.unusedVariables false

theorem verifyOwn_own : ownKnob Tryz.prog.godebug = none := by kernel_rfl
theorem verifyOwn_laidOut : laidOutB Tryz.prog = true := by kernel_rfl
theorem verifyOwn_et : Tryz.prog.globalNamed "errors.errorType" = some 0 := by kernel_rfl
theorem verifyOwn_rt : (Tryz.prog.cutTypes.find? (·.1 == "internal/reflectlite.rtype")).map (·.2) = some 221 := by kernel_rfl
theorem verifyOwn_oneRow : ((List.range 337).filter fun t => Tryz.prog.rowNamed t [101, 114, 114, 111, 114]) = [32] := by kernel_rfl
theorem verifyOwn_size : Tryz.prog.types.size = 337 := by kernel_rfl
theorem verifyOwn_parts {W : World} (h : laidMetH Tryz.prog Rows.verifyOwnRow.laid W) : laidMet Tryz.prog [("unicode/utf8.acceptRanges", Rows.laid_unicode_utf8_acceptRanges), ("weir/verify.rows", Rows.laid_weir_verify_rows), ("unicode/utf8.first", Rows.laid_unicode_utf8_first)] W ∧ handlesMet Tryz.prog [("errors.errorType", Rows.laid_errors_errorType)] W := h
theorem verifyOwn_handle {W : World} (h : laidMetH Tryz.prog Rows.verifyOwnRow.laid W) : ET W := by
  obtain ⟨name, u, ty, e1, e2, e3, e4, e5⟩ := (verifyOwn_parts h).2 _ (List.mem_singleton.2 rfl)
  have en : name = [101, 114, 114, 111, 114] := (Option.some.inj e1).symm
  subst en
  obtain rfl := Option.some.inj (verifyOwn_rt.symm.trans e2)
  have hm : ty ∈ (List.range 337).filter fun t => Tryz.prog.rowNamed t [101, 114, 114, 111, 114] := List.mem_filter.2 ⟨List.mem_range.2 (by rw [← verifyOwn_size]; exact e3), e4⟩
  rw [verifyOwn_oneRow] at hm
  obtain rfl := List.mem_singleton.1 hm
  have hh : typeHandle Tryz.prog 32 = .pointer (some ⟨4, 32, none⟩) := by kernel_rfl
  rw [hh] at e5
  unfold ET
  simpa using World.var?_cell verifyOwn_et e5 0
theorem verifyOwn_x8 : U8Extra Tryz.prog Tryz.laysValid_ren := ⟨by kernel_rfl, by kernel_rfl, by kernel_rfl, by kernel_rfl, by kernel_rfl, by kernel_rfl, by kernel_rfl⟩
theorem verifyOwn_acc : (Rows.laid_unicode_utf8_acceptRanges : DataW Unit) = Lib.acceptData := by kernel_rfl
theorem verifyOwn_fst : (Rows.laid_unicode_utf8_first : DataW Unit) = Lib.firstData := Pinned.utf8First_eq
theorem verifyOwn_tabs {W : World} (h : laidMetH Tryz.prog Rows.verifyOwnRow.laid W) : UT W := by
  have h1 := (verifyOwn_parts h).1
  have r3 := Lib.laidMet.reads h1 (n := "unicode/utf8.first") (d := Rows.laid_unicode_utf8_first) (by simp)
  have r4 := Lib.laidMet.reads h1 (n := "unicode/utf8.acceptRanges") (d := Rows.laid_unicode_utf8_acceptRanges) (by simp)
  rw [verifyOwn_fst] at r3
  rw [verifyOwn_acc] at r4
  exact utf8Tabs_of_readsT (U8Types.of196 Tryz.laysValid) verifyOwn_x8 r3 r4
theorem verifyOwn_rows {W : World} (h : laidMetH Tryz.prog Rows.verifyOwnRow.laid W) : Vf.RT W := Vf.RT_of_reads (Lib.laidMet.reads (verifyOwn_parts h).1 (n := "weir/verify.rows") (d := Rows.laid_weir_verify_rows) (by simp))
noncomputable def verifyOwn_wit (os : Os) : World := (World.doorLaid Tryz.prog 400 os).layVars Tryz.prog [("unicode/utf8.first", Rows.laid_unicode_utf8_first)]
theorem verifyOwn_door (os : Os) (args : Array Value) : laidMetH Tryz.prog Rows.verifyOwnRow.laid ((verifyOwn_wit os).forCall (fun _ _ => 0) ⟨#[], args, []⟩).memory := by
  refine laidMetH_of_parts3 (fuel := 8) ?_ (by kernel_rfl) (by kernel_rfl)
  refine laidMet_layVars (w0 := World.doorLaid Tryz.prog 400 os) ["unicode/utf8.first"] [3, 1] (by kernel_rfl) (by kernel_rfl) (by kernel_rfl) ?_
  exact LaidIn.of_run _ 8 (by kernel_rfl) (by kernel_rfl) (by kernel_rfl) (by kernel_rfl)
set_option maxRecDepth 100000 in
theorem verifyOwn_lifted (os : Os) (started : os.Started) (H : Type) (enc : TypeId × Value → H) :
    ReturnsInHanded {} Tryz.checked os 7 .any (fun w args => (Rows.verifyOwnSpec.pre enc Tryz.prog Tryz.f7 [] false w args ∧ laidMetH Tryz.prog Rows.verifyOwnRow.laid w) ∧ sizedMet enc Tryz.prog Tryz.f7 (OpenSpec.ofChange Rows.verifyOwnSpec) false w args)
      (Rows.verifyOwnSpec.post enc Tryz.prog Tryz.f7 false true false false) := by
  refine returnsInHanded_of_change_and (C := Tryz.checked) (X := fun w _ => laidMetH Tryz.prog Rows.verifyOwnRow.laid w) (fun _ _ _ hh h => h.of_heap hh) verifyOwn_own started (by kernel_rfl) Tryz.func7
    (ChangeSpec.witness_shaped (enc := enc) (C := Tryz.checked) (os := os) (X := fun w _ => laidMetH Tryz.prog Rows.verifyOwnRow.laid w) false (verifyOwn_wit os) #[.agg #[.string ⟨#[]⟩, .string ⟨#[]⟩, .int .i64 0, .int .i64 0, .slice none 0 0, .slice none 0 0, .slice none 0 0, .slice none 0 0, .slice none 0 0, .slice none 0 0, .slice none 0 0, .slice none 0 0, .slice none 0 0, .slice none 0 0]] 8 (World.layVars_os _ _ _) (World.shaped_of_ZipB (by kernel_rfl) (by kernel_rfl)) (by kernel_rfl) (by kernel_rfl) (by kernel_rfl) (verifyOwn_door os _)) ?_
  intro W base args ds gs before hval0 hW _ hSz hL _
  have hval : ∀ (j : Nat) t v, Tryz.f7.params[j]? = some t → args[j]? = some v → Value.okWide Tryz.prog W .any base t v := hval0
  have hW' := hW
  obtain ⟨p, q, hA0, hV, rfl, hfz, hnd⟩ := hW
  have hA : DataW.TrodAll enc Tryz.prog W 0 (fun _ => true) true Tryz.f7.params.toList args.toList ds p := hA0
  rw [Tryz.params7] at hA hval
  obtain ⟨v0, vs0, d0, ds0, p0, q0, hargs, rfl, rfl, h0, r0⟩ := trodAll_cons hA
  obtain ⟨rfl, rfl, rfl⟩ := trodAll_nil r0
  obtain rfl : args = #[v0] := by cases args; simp_all
  obtain ⟨rfl, rfl⟩ := trodVars_none hV
  have k0 := h0
  have lt0 : ∀ x ∈ p0, x.block < W.heap.size := fun x hx => hW'.lt x (by simp [hx])
  obtain ⟨q0, q1, q2, q3, q4, q5, q6, q7, q8, q9, q10, q11, q12, q13, y0, y1, y2, y3, y4, y5, y6, y7, y8, y9, y10, y11, y12, y13, m0, rfl, rfl, g0, g1, g2, g3, g4, g5, g6, g7, g8, g9, g10, g11, g12, g13⟩ := Vf.prog_open (hval 0 28 v0 rfl rfl) h0
  have hS : ∀ k ∈ (DataW.agg [y0.1, y1.1, y2.1, y3.1, y4.1, y5.1, y6.1, y7.1, y8.1, y9.1, y10.1, y11.1, y12.1, y13.1] : DataW H).weights Tryz.prog 28, k ≤ reachBytes := fun k hk => by simpa using List.all_eq_true.1 hSz k (DataW.weights_mem_each (j := 0) (by kernel_rfl) rfl k hk)
  obtain ⟨s0, e0, _⟩ := DataW.trod_string Tryz.underlying9 g0
  obtain ⟨s1, e1, _⟩ := DataW.trod_string Tryz.underlying9 g1
  obtain ⟨i2, e2, _⟩ := DataW.trod_int Tryz.underlying2 g2
  obtain ⟨i3, e3, _⟩ := DataW.trod_int Tryz.underlying2 g3
  simp at e0 e1 e2 e3
  subst e0 e1 e2 e3
  obtain ⟨a4, l4, c4, rfl, in4, n4⟩ := Vf.strs_read g4 (fun k hk => hS k (Vf.in_prog4 hk))
  obtain ⟨a5, l5, c5, rfl, in5, n5⟩ := Vf.accs_read g5 (fun k hk => hS k (Vf.in_prog5 hk))
  obtain ⟨a6, l6, c6, rfl, in6, n6⟩ := Vf.strs_read g6 (fun k hk => hS k (Vf.in_prog6 hk))
  obtain ⟨a7, l7, c7, rfl, in7, n7⟩ := Vf.strs_read g7 (fun k hk => hS k (Vf.in_prog7 hk))
  obtain ⟨a8, l8, c8, rfl, in8, n8⟩ := Vf.strs_read g8 (fun k hk => hS k (Vf.in_prog8 hk))
  obtain ⟨a9, l9, c9, rfl, in9, n9⟩ := Vf.lists_read g9 (fun k hk => hS k (Vf.in_prog9 hk))
  obtain ⟨a12, l12, c12, rfl, in12, n12, cb12⟩ := Vf.ins_read g12 (fun k hk => hS k (Vf.in_prog12 hk))
  obtain ⟨a13, l13, c13, rfl, in13, n13, cb13⟩ := Vf.ins_read g13 (fun k hk => hS k (Vf.in_prog13 hk))
  obtain ⟨a10, l10, c10, rfl⟩ := Vf.ints_any g10
  obtain ⟨a11, l11, c11, rfl⟩ := Vf.ints_any g11
  clear hA0 hval0
  have hU : UT W := verifyOwn_tabs hL
  have hE : ET W := verifyOwn_handle hL
  have hR : Vf.RT W := verifyOwn_rows hL
  refine (Vf.verifyOwn_walk ⟨s0, s1, i2, i3, ⟨a4, l4.length, c4⟩, ⟨a5, l5.length, c5⟩, ⟨a6, l6.length, c6⟩, ⟨a7, l7.length, c7⟩, ⟨a8, l8.length, c8⟩, ⟨a9, l9.length, c9⟩, ⟨a10, l10, c10⟩, ⟨a11, l11, c11⟩, ⟨a12, l12.length, c12⟩, ⟨a13, l13.length, c13⟩⟩ ⟨l4, l5, l6, l7, l8, l9, l12, l13⟩ ⟨rfl, rfl, rfl, rfl, rfl, rfl, rfl, rfl, n4, n5, n6, n7, n8, n9, n12, n13⟩ cb12 cb13 W hU hR hE ⟨in4, in5, in6, in7, in8, in9, in12, in13⟩).mono fun e W' ⟨he, hg⟩ => ?_
  subst he
  exact ⟨_, rfl, _, _, _, [], (p0 ++ []), [], hW', trodAll_cons_mk (shut_bool Tryz.underlying4 _) trodAll_mk0, (trodAll_cons_mk (Below.trod verifyOwn_laidOut (by kernel_rfl) (of_decide_eq_true (by kernel_rfl)) k0 hg lt0) trodAll_mk0), rfl, hg.frame _, fun h => by cases h⟩

theorem verifyOwn_row : Rows.VerifyOwnSaid :=
  OpenClaim.holds_of_wide 7 Tryz.f7 rfl rfl rfl rfl rfl rfl rfl ⟨rfl, rfl, rfl, rfl, rfl⟩ rfl rfl rfl rfl rfl (by kernel_rfl) Tryz.func7 (by kernel_rfl)
    (of_decide_eq_true (by kernel_rfl)) (by unfold Func.isWrapper; first | (rw [if_pos (by decide +kernel)]; kernel_rfl) | (rw [if_neg (by decide +kernel)]; exact ⟨rfl, rfl⟩))
    (fun os started H enc _ => verifyOwn_lifted os started H enc)

theorem verifyOwn_holds : Rows.VerifyOwnCardSaid :=
  Claim7.holds_tied_plain_at .later [] [.data, .handle, .data, .pinned] true Rows.verifyOwnCard.stood.harness true
    verifyOwn_row (fun _ h => by cases h) (by kernel_rfl) (fun _ h => by cases h) verifyOwn_row_tie rfl ⟨rfl, rfl⟩ (by kernel_rfl) rfl
    (fun f fn hf hfn => by
      obtain rfl : f = 7 := Option.some.inj ((show Tryz.prog.funcNamed Rows.verifyOwnRow.func = some 7 by kernel_rfl).symm.trans hf) |>.symm
      obtain rfl : fn = Tryz.f7 := (Option.some.inj (Tryz.func7.symm.trans hfn)).symm
      exact ⟨by kernel_rfl, fun j t ht => by
        rw [Tryz.params7] at ht
        have hm : t ∈ [28] := by simpa using Array.mem_of_getElem? ht
        have hall : ([28].all fun u => !Tryz.prog.wantsStandIn u) = true := by kernel_rfl
        exact (show Tryz.prog.wantsStandIn t = false by simpa using List.all_eq_true.1 hall t hm)⟩)
    (by kernel_rfl)
#print axioms verifyOwn_holds
end Go.Proofs.YtdfnomglkibfbaaGreatDoor

