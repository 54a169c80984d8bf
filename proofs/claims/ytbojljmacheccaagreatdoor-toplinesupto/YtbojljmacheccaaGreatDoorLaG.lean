
import Derived.Test.YtbojljmacheccaaGreatDoorLwRq
import Derived.Tactics
import Derived.Tactics2
import Derived.Defers
import Derived.Recover
import Derived.Laws.Pointers
import Derived.Test.YtbojljmacheccaaGreatDoorLaB
import Derived.Test.YtbojljmacheccaaGreatDoorChainE
import Derived.Test.YtbojljmacheccaaGreatDoorLaD
import Derived.BigQuiet
import Derived.Deep.RegionHeld3
namespace Go.Proofs.YtbojljmacheccaaGreatDoor.Ln
open Go.RowKit Go.Shelf
attribute [local go_sem] Oper.semAt_some
set_option linter.unusedVariables false
set_option linter.unusedSimpArgs false
set_option maxRecDepth 100000
theorem catch_idle (E : Nat) (w : World) :
    CallsD Tryz.prog 46 #[.pointer (some ⟨E, 0, none⟩)] .returning w fun e u' w' => e = .returned (.tuple #[]) ∧ u' = .returning ∧ w' = w := by
  refine callsD_of_wpS Tryz.func46 rfl fun c₀ cs hu => ?_
  simp only [Tryz.ntmps46, List.size_toArray, List.length_cons, List.length_nil, Nat.reduceAdd, Nat.reduceSub, Array.replicate_succ, Array.replicate_zero, List.push_toArray, List.append_toArray, List.nil_append, List.cons_append]
  apply wpS_seq
  apply wpS_region
  simp [wpOpsS, go_sem, recoverD, hu, Exit.thenS]
  refine wpS_of_wp ?_
  go_wp2_with fail
  cases c₀
  simp_all [bodyPostS, results, Tryz.results46]
def guX (p : Int) : Value := .agg #[atL p]
theorem catch_panicking (E : Nat) (p : Int) (v0 : Value) (older : List PanicEntry) (w : World) (hc : w.cell? ⟨E, 0, none⟩ = some v0) (hz : w.frozen? ⟨E, 0, none⟩ = false) (hE : E < w.heap.size) :
    CallsD Tryz.prog 46 #[.pointer (some ⟨E, 0, none⟩)] (.panicking ({ v := .iface 127 (guX p), recovered := false } :: older)) w fun e u' w' =>
      e = .returned (.tuple #[]) ∧ u' = .panicking ({ v := .iface 127 (guX p), recovered := true } :: older) ∧ w' = (w.setCell ⟨E, 0, none⟩ (atL p)).alloc (.cells #[atL p] 127) := by
  refine callsD_of_wpS Tryz.func46 rfl fun c₀ cs hu => ?_
  simp only [Tryz.ntmps46, List.size_toArray, List.length_cons, List.length_nil, Nat.reduceAdd, Nat.reduceSub, Array.replicate_succ, Array.replicate_zero, List.push_toArray, List.append_toArray, List.nil_append, List.cons_append]
  apply wpS_seq
  apply wpS_region
  simp [wpOpsS, go_sem, recoverD, hu, Exit.thenS]
  refine wpS_of_wp ?_
  have e1 : guX p = .agg #[.iface 105 (atX p)] := rfl
  have e2 : atL p = .iface 105 (atX p) := rfl
  have hta : ∀ (x : Value) (W : World), (Instr.typeAssert (.iface 127 x) 20 127 true).run Tryz.prog W = .ok (.tuple #[x, .bool true]) W := fun x W => by kernel_rfl
  rw [e1, e2]
  go_wp2_with fail
  cases c₀
  simp_all [bodyPostS, results, Tryz.results46]
def errL : Option Int → Value
  | none => .iface 33 (.int .i64 6)
  | some p => atL p
def zeroP : Value := .agg #[.string ⟨#[]⟩, .slice none 0 0, .slice none 0 0, .int .i64 0]
/-- how One ends. -/
def EndO (w : World) (l : By) (e : Ending) (w' : World) : Prop := match one8 unK nvL l with
  | .ok p => ∃ vt vf, e = .returned (.tuple #[.agg #[.string (ba p.m), vt, vf, .int .i64 p.t], .nilIface]) ∧ OT w' w.heap.size vt (p.tags.map tgB) ∧ OF w' w.heap.size vf (p.fs.map fdB) ∧ (∀ b, vt.ownBlock = some b → vf.ownBlock ≠ some b) ∧ Below w.heap.size w w'
  | .error q => e = .returned (.tuple #[zeroP, errL q]) ∧ Below w.heap.size w w'
theorem fnew_l (w : World) : Calls Tryz.prog 31 #[.int .i64 6] w fun e w' => e = .returned (.iface 33 (.int .i64 6)) ∧ w' = w := by
  go_enter Tryz.func31, Tryz.ntmps31
  go_wp2
  go_ret
  exact ⟨rfl, rfl⟩
set_option maxHeartbeats 4000000 in
theorem one_any (s : ByteArray) (w : World) (hg : LT w) (hs : s.size ≤ 9223372036854775807) : Calls Tryz.prog 15 #[.string s] w fun e w' => EndO w s.data.toList e w' := by
  have hmf : ∀ (fn : Fn) (first cap : Array Value) (w : World), (Instr.makeFunc fn first cap).run Tryz.prog w = .ok (.func fn first cap) w := fun _ _ _ _ => rfl
  have B0 : Below w.heap.size w ((w.alloc ptO).alloc (.cells #[.nilIface] 26)) := ((Below.refl _ w).alloc (Nat.le_refl _) _).alloc (by simp) _
  have M0 : ((w.alloc ptO).alloc (.cells #[.nilIface] 26)).heap[w.heap.size]? = some ptO := by rw [Below.heap_alloc _ _ _ (by simp)]; exact World.alloc_heap_new w _
  have M1 : ((w.alloc ptO).alloc (.cells #[.nilIface] 26)).heap[w.heap.size + 1]? = some (.cells #[.nilIface] 26) := by
    have := World.alloc_heap_new (w.alloc ptO) (.cells #[.nilIface] 26)
    simpa using this
  have hlen := lenB s
  obtain ⟨l, hl⟩ : ∃ l, s.data.toList = l := ⟨_, rfl⟩
  by_cases hbig : 8192 < s.size
  · have e0 : one8 unK nvL s.data.toList = .error none := by unfold one8; rw [if_pos (by rw [hlen]; exact hbig)]
    obtain ⟨PST, hPST⟩ : ∃ PST : Ending → World → Prop, (fun e w' => EndO w s.data.toList e w') = PST := ⟨_, rfl⟩
    have PE : Hid (∀ w1, Below w.heap.size w w1 → PST (.returned (.tuple #[.agg #[.string ⟨#[]⟩, .slice none 0 0, .slice none 0 0, .int .i64 0], .iface 33 (.int .i64 6)])) w1) := fun w1 b => by rw [← hPST]; show EndO w _ _ _; unfold EndO; rw [e0]; exact ⟨rfl, b⟩
    rw [hPST]
    have cX : Hid (∀ W, Calls Tryz.prog 31 #[.int .i64 6] W fun e w' => e = .returned (.iface 33 (.int .i64 6)) ∧ w' = W) := fnew_l
    have hI : (8192 : Int) < (s.size : Int) := by omega
    clear hPST e0 hl
    go_enter_defers Tryz.func15, Tryz.ntmps15
    go_wp2_with fail
    refine Calls.mono (cX.out _) ?_
    rintro e w1 ⟨rfl, hw⟩
    subst hw
    go_wp2_with fail
    have F := PE.out _ (((Below.refl _ w).alloc (Nat.le_refl _) (.cells #[.string ⟨#[]⟩, .slice none 0 0, .slice none 0 0, .int .i64 0] 32)).alloc (by simp) (.cells #[.iface 33 (.int .i64 6)] 26))
    have FH : Hid (PST (.returned (.tuple #[.agg #[.string ⟨#[]⟩, .slice none 0 0, .slice none 0 0, .int .i64 0], .iface 33 (.int .i64 6)])) ((w.alloc (.cells #[.string ⟨#[]⟩, .slice none 0 0, .slice none 0 0, .int .i64 0] 32)).alloc (.cells #[.iface 33 (.int .i64 6)] 26))) := F
    clear F
    simp [bodyPostD, Leaves, settle, results, Tryz.results15, go_sem]
    exact FH.out
  · have hI : ¬ (8192 : Int) < (s.size : Int) := by omega
    have e8 : one8 unK nvL s.data.toList = match oneL unK nvL s.data.toList with
      | .error e => .error (some e)
      | .ok p => .ok p := by unfold one8; rw [if_neg (by rw [hlen]; exact hbig)]; cases oneL unK nvL s.data.toList <;> rfl
    have cR : ∀ W, Below w.heap.size w W → Calls Tryz.prog 47 #[.string s] W fun e w' => EndR W s.data.toList e w' := fun W b => read_any s W (hg.on b) (by omega)
    obtain ⟨PST, hPST⟩ : ∃ PST : Ending → World → Prop, (fun e w' => EndO w s.data.toList e w') = PST := ⟨_, rfl⟩
    obtain ⟨W0, hW0⟩ : ∃ W0, (w.alloc ptO).alloc (.cells #[.nilIface] 26) = W0 := ⟨_, rfl⟩
    have hW0H : Hid ((w.alloc (.cells #[.string ⟨#[]⟩, .slice none 0 0, .slice none 0 0, .int .i64 0] 32)).alloc (.cells #[.nilIface] 26) = W0) := hW0
    have hz : W0.heap.size = w.heap.size + 2 := by rw [← hW0]; simp
    rw [hW0] at B0 M0 M1
    have cR0 := cR W0 B0
    unfold EndR at cR0
    cases ho : oneL unK nvL s.data.toList with
    | error q =>
      rw [ho] at cR0 e8
      have cRH : Hid (Calls Tryz.prog 47 #[.string s] W0 fun e w' => e = .panicked (pnL q) ∧ Below W0.heap.size W0 w') := cR0
      have PE : Hid (∀ w1, Below w.heap.size w w1 → PST (.returned (.tuple #[.agg #[.string ⟨#[]⟩, .slice none 0 0, .slice none 0 0, .int .i64 0], atL q])) w1) := fun w1 b => by rw [← hPST]; show EndO w _ _ _; unfold EndO; rw [e8]; exact ⟨rfl, b⟩
      rw [hPST]
      have keep : Hid (∀ w1, Below W0.heap.size W0 w1 → w1.heap[w.heap.size]? = some ptO ∧ w1.heap[w.heap.size + 1]? = some (.cells #[.nilIface] 26) ∧ Below w.heap.size w w1) := fun w1 b => ⟨(b.block _ (by omega)).trans M0, (b.block _ (by omega)).trans M1, B0.trans (b.mono (by omega))⟩
      clear cR cR0 hPST hW0 ho e8 hl B0 M0 M1
      go_enter_defers Tryz.func15, Tryz.ntmps15
      go_wp2_with fail
      rw [hW0H.out]
      refine Calls.mono cRH.out ?_
      rintro e w1 ⟨rfl, B1⟩
      obtain ⟨M2, M3, B2⟩ := keep.out _ B1
      obtain ⟨⟨q0, q1, q2, q3⟩, z0, z1, z2, z3⟩ := pt_cells M2
      have c1 : w1.cell? ⟨w.heap.size + 1, 0, none⟩ = some .nilIface := by simp [World.cell?, M3]
      have f1 : w1.frozen? ⟨w.heap.size + 1, 0, none⟩ = false := by simp [World.frozen?, M3]
      have hs1 : w.heap.size + 1 < w1.heap.size := (Array.getElem?_eq_some_iff.1 M3).1
      have B2H : Hid (Below w.heap.size w w1) := B2
      clear B1 B2 keep M2 M3 hz
      go_wp2_with fail
      refine leaves_cons (f := 46) (args := #[.pointer (some ⟨w.heap.size + 1, 0, none⟩)]) (by simp) (by simp [go_sem]) ?_
      refine (catch_panicking (w.heap.size + 1) q .nilIface [] w1 c1 f1 hs1).mono ?_
      rintro e u' w'' ⟨rfl, rfl, rfl⟩
      have F := PE.out _ ((B2H.out.setCell (p := ⟨w.heap.size + 1, 0, none⟩) (Nat.le_succ _) (atL q)).alloc (by have := B2H.out.size; simp; omega) (.cells #[atL q] 127))
      have FH : Hid (PST (.returned (.tuple #[.agg #[.string ⟨#[]⟩, .slice none 0 0, .slice none 0 0, .int .i64 0], atL q])) ((w1.setCell ⟨w.heap.size + 1, 0, none⟩ (atL q)).alloc (.cells #[atL q] 127))) := F
      have hs0 : w.heap.size < w1.heap.size := by omega
      clear F
      simp [Leaves, settle, results, Tryz.results15, go_sem, q0, q1, q2, q3, c1, hs1, hs0]
      exact FH.out
    | ok p =>
      rw [ho] at cR0 e8
      have cRH : Hid (Calls Tryz.prog 47 #[.string s] W0 fun e w' => ∃ vt vf, e = .returned (.agg #[.string (ba p.m), vt, vf, .int .i64 p.t]) ∧ OT w' W0.heap.size vt (p.tags.map tgB) ∧ OF w' W0.heap.size vf (p.fs.map fdB) ∧ (∀ b, vt.ownBlock = some b → vf.ownBlock ≠ some b) ∧ Below W0.heap.size W0 w') := cR0
      have keep : Hid (∀ w1, Below W0.heap.size W0 w1 → w1.heap[w.heap.size]? = some ptO ∧ w1.heap[w.heap.size + 1]? = some (.cells #[.nilIface] 26) ∧ Below w.heap.size w w1) := fun w1 b => ⟨(b.block _ (by omega)).trans M0, (b.block _ (by omega)).trans M1, B0.trans (b.mono (by omega))⟩
      have PO : Hid (∀ vt vf w1, OT w1 W0.heap.size vt (p.tags.map tgB) → OF w1 W0.heap.size vf (p.fs.map fdB) → (∀ b, vt.ownBlock = some b → vf.ownBlock ≠ some b) → Below w.heap.size w w1 → PST (.returned (.tuple #[.agg #[.string (ba p.m), vt, vf, .int .i64 p.t], .nilIface])) (((((w1.setCell ⟨w.heap.size, 0, none⟩ (.string (ba p.m))).setCell ⟨w.heap.size, 1, none⟩ vt).setCell ⟨w.heap.size, 2, none⟩ vf).setCell ⟨w.heap.size, 3, none⟩ (.int .i64 p.t)).setCell ⟨w.heap.size + 1, 0, none⟩ .nilIface)) := fun vt vf w1 ht hf ha b => by
        rw [← hPST]
        show EndO w _ _ _
        unfold EndO
        rw [e8]
        have g1 : w1.grownBy ((((w1.setCell ⟨w.heap.size, 0, none⟩ (.string (ba p.m))).setCell ⟨w.heap.size, 1, none⟩ vt).setCell ⟨w.heap.size, 2, none⟩ vf).setCell ⟨w.heap.size, 3, none⟩ (.int .i64 p.t)) (some w.heap.size) := grown_trans (grown_trans (grown_trans (grown_set _ _ 0 _) (grown_set _ _ 1 _)) (grown_set _ _ 2 _)) (grown_set _ _ 3 _)
        have t1 := OT.keepW ht g1 (fun b eb q => by have := (OT.boundW ht eb).1; injection q; omega)
        have f1 := OF.keepW hf g1 (fun b eb q => by have := (OF.bound hf eb).1; injection q; omega)
        have g2 := grown_set ((((w1.setCell ⟨w.heap.size, 0, none⟩ (.string (ba p.m))).setCell ⟨w.heap.size, 1, none⟩ vt).setCell ⟨w.heap.size, 2, none⟩ vf).setCell ⟨w.heap.size, 3, none⟩ (.int .i64 p.t)) (w.heap.size + 1) 0 .nilIface
        have t2 := OT.keepW t1 g2 (fun b eb q => by have := (OT.boundW t1 eb).1; injection q; omega)
        have f2 := OF.keepW f1 g2 (fun b eb q => by have := (OF.bound f1 eb).1; injection q; omega)
        exact ⟨vt, vf, rfl, OT.monoL t2 (by omega), OF.monoL f2 (by omega), ha, ((((b.setCell (p := ⟨w.heap.size, 0, none⟩) (Nat.le_refl _) _).setCell (p := ⟨w.heap.size, 1, none⟩) (Nat.le_refl _) _).setCell (p := ⟨w.heap.size, 2, none⟩) (Nat.le_refl _) _).setCell (p := ⟨w.heap.size, 3, none⟩) (Nat.le_refl _) _).setCell (p := ⟨w.heap.size + 1, 0, none⟩) (Nat.le_succ _) _⟩
      rw [hPST]
      generalize ba p.m = mb at *
      generalize p.t = tm at *
      clear cR cR0 hPST hW0 ho e8 hl B0 M0 M1
      go_enter_defers Tryz.func15, Tryz.ntmps15
      go_wp2_with fail
      rw [hW0H.out]
      refine Calls.mono cRH.out ?_
      rintro e w1 ⟨vt, vf, rfl, hot, hof, hap, B1⟩
      obtain ⟨M2, M3, B2⟩ := keep.out _ B1
      obtain ⟨⟨q0, q1, q2, q3⟩, z0, z1, z2, z3⟩ := pt_cells M2
      have c1 : w1.cell? ⟨w.heap.size + 1, 0, none⟩ = some .nilIface := by simp [World.cell?, M3]
      have f1 : w1.frozen? ⟨w.heap.size + 1, 0, none⟩ = false := by simp [World.frozen?, M3]
      have F := PO.out vt vf w1 hot hof hap B2
      obtain ⟨a1, n1, d1, ev1⟩ := OT.sliceL hot
      obtain ⟨a2, n2, d2, ev2⟩ := OF.sliceL hof
      subst ev1
      subst ev2
      have FH : Hid (PST (.returned (.tuple #[.agg #[.string mb, .slice a1 n1 d1, .slice a2 n2 d2, .int .i64 tm], .nilIface])) (((((w1.setCell ⟨w.heap.size, 0, none⟩ (.string mb)).setCell ⟨w.heap.size, 1, none⟩ (.slice a1 n1 d1)).setCell ⟨w.heap.size, 2, none⟩ (.slice a2 n2 d2)).setCell ⟨w.heap.size, 3, none⟩ (.int .i64 tm)).setCell ⟨w.heap.size + 1, 0, none⟩ .nilIface)) := F
      clear B1 B2 keep M2 M3 hz F PO hot hof hap cRH
      go_wp2_with fail
      refine leaves_cons (f := 46) (args := #[.pointer (some ⟨w.heap.size + 1, 0, none⟩)]) (by simp) (by simp [go_sem]) ?_
      refine (catch_idle (w.heap.size + 1) _).mono ?_
      rintro e u' w'' ⟨rfl, rfl, rfl⟩
      simp [Leaves, settle, results, Tryz.results15, go_sem, q0, q1, q2, q3, c1]
      exact FH.out
end Go.Proofs.YtbojljmacheccaaGreatDoor.Ln

namespace Go.Proofs.YtbojljmacheccaaGreatDoor.Ln
open Go.RowKit Go.Shelf
attribute [local go_sem] Oper.semAt_some
set_option linter.unusedVariables false
set_option linter.unusedSimpArgs false
set_option maxRecDepth 100000
/-! ### plain points -/
def wordL (s : ByteArray) : Bool := decide (s.data.toList ≠ []) && decide (feedAt s.data.toList = none)
theorem isE_of {s : ByteArray} {l : By} (h : s.data.toList = l) : s.toList.isEmpty = l.isEmpty := by rw [Lib.toList_data, h]
theorem wordly_any (s : ByteArray) (w : World) : Calls Tryz.prog 101 #[.string s] w fun e w' => e = .returned (.bool (wordL s)) ∧ w' = w := by
  have cC : Hid (∀ W, Calls Tryz.prog 140 #[.string s, .string ⟨#[10]⟩] W fun e w' => e = .returned (.bool (decide (0 ≤ Lib.indexByte s.data.toList 10))) ∧ w' = W) := fun W => Tryz.strings_Contains_one s 10 W
  have hf := feed_none s.data.toList
  unfold wordL
  by_cases h0 : s.data.toList = []
  · have e1 := isE_of h0
    rw [decide_eq_false (by simp [h0]), Bool.false_and]
    have e2 : s = ⟨#[]⟩ := (nil_ba s).1 h0
    subst e2
    clear hf h0 e1
    go_enter Tryz.func101, Tryz.ntmps101
    go_wp2_with fail
    go_ret
    exact ⟨rfl, rfl⟩
  · have e1 : s.toList.isEmpty = false := by
      rw [Lib.toList_data]
      cases hq : s.data.toList with
      | nil => exact absurd hq h0
      | cons a r => rfl
    rw [decide_eq_true h0, Bool.true_and]
    have e2 : decide (feedAt s.data.toList = none) = !decide (0 ≤ Lib.indexByte s.data.toList 10) := by
      rw [Bool.eq_iff_iff]
      simp only [decide_eq_true_eq, Bool.not_eq_true', decide_eq_false_iff_not]
      rw [← hf]; omega
    rw [e2]
    generalize decide (0 ≤ Lib.indexByte s.data.toList 10) = bb at *
    clear hf h0 e2
    go_enter Tryz.func101, Tryz.ntmps101
    go_wp2_with (go_at_call 140; with_reducible refine Calls.mono (cC.out _) ?_; rintro e w1 ⟨rfl, rfl⟩)
    go_ret
    exact ⟨rfl, rfl⟩
def tagW1 (t : TagP) : Bool := wordL t.1 && wordL t.2
def plainL (p : PtP) : Bool := wordL p.m && !decide (p.m.data.toList.head? = some 35) && decide (p.f ≠ []) && p.t.all tagW1 && p.f.all (fun f => wordL f.1)
theorem all_step {α : Type} {f : α → Bool} {l : List α} {k : Nat} {x : α} (hx : l[k]? = some x) (h : (l.take k).all f = true) (hf : f x = true) : (l.take (k + 1)).all f = true := by
  rw [List.take_add_one, hx, List.all_append, h]
  simp [hf]
theorem all_bad {α : Type} {f : α → Bool} {l : List α} {k : Nat} {x : α} (hx : l[k]? = some x) (hf : f x = false) : l.all f = false := by
  rw [List.all_eq_false]
  exact ⟨x, List.mem_of_getElem? hx, by rw [hf]; simp⟩
set_option maxHeartbeats 8000000 in
theorem plain_any (p : PtP) (ta fa : Option Addr) (tc fc : Nat) (w : World) (hp : PtIn w ta fa fc p) : Calls Tryz.prog 30 #[.agg #[.string p.m, .slice ta p.t.length tc, .slice fa p.f.length fc, .int .i64 p.tm]] w fun e w' => e = .returned (.bool (plainL p)) ∧ Below w.heap.size w w' := by
  obtain ⟨hT, hTl, hF, hFl, hFc⟩ := hp
  obtain ⟨pm, pt, pf, ptm⟩ := p
  dsimp only at hT hTl hF hFl hFc ⊢
  have cH : Hid (∀ W, Calls Tryz.prog 45 #[.string pm, .string ⟨#[35]⟩] W fun e w' => e = .returned (.bool (decide (pm.data.toList.head? = some 35))) ∧ w' = W) := fun W => by
    have := Tryz.strings_HasPrefix pm ⟨#[35]⟩ W
    have e := pre_one pm.data.toList 0 35
    rw [List.drop_zero] at e
    rw [show (⟨#[35]⟩ : ByteArray).data.toList = [35] from rfl, e, show pm.data.toList[0]? = pm.data.toList.head? by cases pm.data.toList <;> rfl] at this
    exact this
  have cY : Hid (∀ s W, Calls Tryz.prog 101 #[.string s] W fun e w' => e = .returned (.bool (wordL s)) ∧ w' = W) := wordly_any
  obtain ⟨R, hR⟩ : ∃ R, plainL ⟨pm, pt, pf, ptm⟩ = R := ⟨_, rfl⟩
  have hRH : Hid (plainL ⟨pm, pt, pf, ptm⟩ = R) := hR
  rw [hR]
  clear hR
  have hTH : Hid (TgIn w ta pt) := hT
  have hFH : Hid (FdIn w fa pf) := hF
  obtain ⟨n, hn⟩ : ∃ n, pt.length = n := ⟨_, rfl⟩
  obtain ⟨m, hm⟩ : ∃ m, pf.length = m := ⟨_, rfl⟩
  have hnH : Hid (pt.length = n) := hn
  have hmH : Hid (pf.length = m) := hm
  rw [hn] at hTl ⊢
  rw [hm] at hFl hFc ⊢
  obtain ⟨W1, hW1⟩ : ∃ W1, w.alloc (.cells #[.string pm, .slice ta n tc, .slice fa m fc, .int .i64 ptm] 32) = W1 := ⟨_, rfl⟩
  have B1 : Hid (Below w.heap.size w W1) := by rw [← hW1]; exact (Below.refl _ w).alloc (Nat.le_refl _) _
  have z1 : Hid (W1.heap.size = w.heap.size + 1) := by show _ = _; rw [← hW1]; simp
  have x0 : W1.cell? ⟨w.heap.size, 0, none⟩ = some (.string pm) := by rw [← hW1]; simp [go_sem]
  have x1 : W1.cell? ⟨w.heap.size, 1, none⟩ = some (.slice ta n tc) := by rw [← hW1]; simp [go_sem]
  have x2 : W1.cell? ⟨w.heap.size, 2, none⟩ = some (.slice fa m fc) := by rw [← hW1]; simp [go_sem]
  have hW1H : Hid (w.alloc (.cells #[.string pm, .slice ta n tc, .slice fa m fc, .int .i64 ptm] 32) = W1) := hW1
  clear hW1 hT hF hn hm
  by_cases g1 : wordL pm = true
  rotate_left 1
  · have g1' : wordL pm = false := by simpa using g1
    have eR : R = false := by rw [← hRH.out]; unfold plainL; rw [show wordL (PtP.m ⟨pm, pt, pf, ptm⟩) = false from g1']; simp
    subst eR
    have cY2 : Hid (∀ W, Calls Tryz.prog 101 #[.string pm] W fun e w' => e = .returned (.bool false) ∧ w' = W) := fun W => by have := cY.out pm W; rw [g1'] at this; exact this
    clear g1 g1'
    go_enter Tryz.func30, Tryz.ntmps30
    go_wp2_with fail
    rw [hW1H.out]
    refine Calls.mono (cY2.out _) ?_
    rintro e w2 ⟨rfl, hw⟩
    subst hw
    go_wp2_with fail
    go_ret
    exact ⟨rfl, B1.out⟩
  have cY2 : Hid (∀ W, Calls Tryz.prog 101 #[.string pm] W fun e w' => e = .returned (.bool true) ∧ w' = W) := fun W => by have := cY.out pm W; rw [g1] at this; exact this
  by_cases g2 : pm.data.toList.head? = some 35
  · have eR : R = false := by rw [← hRH.out]; unfold plainL; simp [g2]
    subst eR
    have cH2 : Hid (∀ W, Calls Tryz.prog 45 #[.string pm, .string ⟨#[35]⟩] W fun e w' => e = .returned (.bool true) ∧ w' = W) := fun W => by have := cH.out W; rw [decide_eq_true g2] at this; exact this
    clear g1 g2
    go_enter Tryz.func30, Tryz.ntmps30
    go_wp2_with fail
    rw [hW1H.out]
    refine Calls.mono (cY2.out _) ?_
    rintro e w2 ⟨rfl, hw⟩
    subst hw
    go_wp2_with fail
    refine Calls.mono (cH2.out _) ?_
    rintro e w2 ⟨rfl, hw⟩
    subst hw
    go_wp2_with fail
    go_ret
    exact ⟨rfl, B1.out⟩
  have cH2 : Hid (∀ W, Calls Tryz.prog 45 #[.string pm, .string ⟨#[35]⟩] W fun e w' => e = .returned (.bool false) ∧ w' = W) := fun W => by have := cH.out W; rw [decide_eq_false g2] at this; exact this
  by_cases g3 : m = 0
  · have eR : R = false := by
      rw [← hRH.out]; unfold plainL
      have : pf = [] := List.eq_nil_of_length_eq_zero (hmH.out.trans g3)
      simp [this]
    subst eR
    have mI : ((m : Int) == 0) = true := by simp [g3]
    clear g1 g2 g3
    go_enter Tryz.func30, Tryz.ntmps30
    go_wp2_with fail
    rw [hW1H.out]
    refine Calls.mono (cY2.out _) ?_
    rintro e w2 ⟨rfl, hw⟩
    subst hw
    go_wp2_with fail
    refine Calls.mono (cH2.out _) ?_
    rintro e w2 ⟨rfl, hw⟩
    subst hw
    go_wp2_with fail
    go_ret
    exact ⟨rfl, B1.out⟩
  have eR : Hid (R = (pt.all tagW1 && pf.all (fun f => wordL f.1))) := by
    show _ = _
    rw [← hRH.out]; unfold plainL
    have : pf ≠ [] := fun q => g3 (by rw [← hmH.out, q]; rfl)
    simp [g1, g2, this]
  have mI : ((m : Int) == 0) = false := beq_eq_false_iff_ne.2 (by omega)
  clear g1 g2 g3 hRH cH
  have bx : Hid (∀ wr, Below (w.heap.size + 1) W1 wr → Below w.heap.size w wr ∧ wr.cell? ⟨w.heap.size, 1, none⟩ = some (.slice ta n tc) ∧ wr.cell? ⟨w.heap.size, 2, none⟩ = some (.slice fa m fc)) := fun wr b => ⟨B1.out.trans (b.mono (Nat.le_succ _)), by rw [b.cell (p := ⟨w.heap.size, 1, none⟩) (Nat.lt_succ_self _)]; exact x1, by rw [b.cell (p := ⟨w.heap.size, 2, none⟩) (Nat.lt_succ_self _)]; exact x2⟩
  have b0 : Hid (Below (w.heap.size + 1) W1 W1) := Below.refl _ _
  go_enter Tryz.func30, Tryz.ntmps30
  go_wp2_with fail
  rw [hW1H.out]
  refine Calls.mono (cY2.out _) ?_
  rintro e w2 ⟨rfl, hw⟩
  subst hw
  go_wp2_with fail
  refine Calls.mono (cH2.out _) ?_
  rintro e w2 ⟨rfl, hw⟩
  subst hw
  go_wp2_with fail
  go_loopw [25] (fun i wr => ∃ k : Nat, i = .int .i64 (k : Int) ∧ k ≤ n ∧ Hid ((pt.take k).all tagW1 = true) ∧ Hid (Below (w.heap.size + 1) w2 wr)) (fun i _ => n - (intOf i).toNat)
  case atStart => exact ⟨0, rfl, Nat.zero_le _, by show List.all _ _ = true; simp, b0⟩
  case round =>
    obtain ⟨k, rfl, kn, hal, hb⟩ := hrel
    clear b0
    obtain ⟨bw, y1, y2⟩ := bx.out _ hb.out
    have bwH : Hid (Below w.heap.size w wr) := bw
    clear bw
    by_cases hk : k < n
    · have hkI : (k : Int) < (n : Int) := by omega
      have k0 : (0 : Int) ≤ (k : Int) := by omega
      obtain ⟨t, ht⟩ : ∃ t, pt[k]? = some t := ⟨_, List.getElem?_eq_getElem (by have := hnH.out; omega)⟩
      obtain ⟨b1, o1, rfl, hb1, t1, t2⟩ := hTH.out.at bwH.out ht
      have htH : Hid (pt[k]? = some t) := ht
      clear ht
      obtain ⟨K, V⟩ := t
      dsimp only at t1 t2
      have wi : IntKind.i64.wrap ((k : Int) + 1) = ((k + 1 : Nat) : Int) := IntWalk.i64_in _ (by omega)
      have hb1' : b1 < wr.heap.size := Nat.lt_of_lt_of_le hb1 bwH.out.size
      go_wp2_with fail
      have bE : Hid (Below w.heap.size w (wr.alloc (.cells #[.string K, .string V] 102)) ∧ Below (w.heap.size + 1) w2 (wr.alloc (.cells #[.string K, .string V] 102))) := ⟨bwH.out.alloc bwH.out.size _, hb.out.alloc (by have := hb.out.size; have := z1.out; omega) _⟩
      by_cases gt : tagW1 (K, V) = true
      · have gK : wordL K = true ∧ wordL V = true := by unfold tagW1 at gt; simpa using gt
        have cK : Hid (∀ W, Calls Tryz.prog 101 #[.string K] W fun e w' => e = .returned (.bool true) ∧ w' = W) := fun W => by have := cY.out K W; rw [gK.1] at this; exact this
        have cV : Hid (∀ W, Calls Tryz.prog 101 #[.string V] W fun e w' => e = .returned (.bool true) ∧ w' = W) := fun W => by have := cY.out V W; rw [gK.2] at this; exact this
        have hal2 : Hid ((pt.take (k + 1)).all tagW1 = true) := all_step htH.out hal.out gt
        clear gt gK
        refine Calls.mono (cK.out _) ?_
        rintro e w3 ⟨rfl, hw⟩
        subst hw
        go_wp2_with fail
        refine Calls.mono (cV.out _) ?_
        rintro e w3 ⟨rfl, hw⟩
        subst hw
        go_wp2_with fail
        exact ⟨⟨k + 1, by first | rfl | simp, by omega, hal2, bE.out.2⟩, by simp [intOf]; omega⟩
      · have gt' : tagW1 (K, V) = false := by simpa using gt
        have eR2 : R = false := by rw [eR.out, all_bad htH.out gt']; rfl
        subst eR2
        by_cases gK : wordL K = true
        · have gV : wordL V = false := by unfold tagW1 at gt'; simpa [gK] using gt'
          have cK : Hid (∀ W, Calls Tryz.prog 101 #[.string K] W fun e w' => e = .returned (.bool true) ∧ w' = W) := fun W => by have := cY.out K W; rw [gK] at this; exact this
          have cV : Hid (∀ W, Calls Tryz.prog 101 #[.string V] W fun e w' => e = .returned (.bool false) ∧ w' = W) := fun W => by have := cY.out V W; rw [gV] at this; exact this
          clear gt gt' gK gV
          refine Calls.mono (cK.out _) ?_
          rintro e w3 ⟨rfl, hw⟩
          subst hw
          go_wp2_with fail
          refine Calls.mono (cV.out _) ?_
          rintro e w3 ⟨rfl, hw⟩
          subst hw
          go_wp2_with fail
          go_ret
          exact ⟨rfl, bE.out.1⟩
        · have gK' : wordL K = false := by simpa using gK
          have cK : Hid (∀ W, Calls Tryz.prog 101 #[.string K] W fun e w' => e = .returned (.bool false) ∧ w' = W) := fun W => by have := cY.out K W; rw [gK'] at this; exact this
          clear gt gt' gK gK'
          refine Calls.mono (cK.out _) ?_
          rintro e w3 ⟨rfl, hw⟩
          subst hw
          go_wp2_with fail
          go_ret
          exact ⟨rfl, bE.out.1⟩
    · have hkI : ¬ (k : Int) < (n : Int) := by omega
      have eR2 : Hid (R = pf.all (fun f => wordL f.1)) := by
        show _ = _
        rw [eR.out]
        have : pt.take k = pt := List.take_of_length_le (by have := hnH.out; omega)
        rw [← this, hal.out]; simp
      clear eR hal
      go_wp2_with fail
      go_loopw [43] (fun i wr => ∃ k : Nat, i = .int .i64 (k : Int) ∧ k ≤ m ∧ Hid ((pf.take k).all (fun f => wordL f.1) = true) ∧ Hid (Below (w.heap.size + 1) w2 wr)) (fun i _ => m - (intOf i).toNat)
      case atStart => exact ⟨0, rfl, Nat.zero_le _, by show List.all _ _ = true; simp, hb⟩
      case round =>
        clear hkI hk kn y1 y2 bwH hb
        obtain ⟨k, rfl, kn, hal, hb⟩ := hrel
        obtain ⟨bw, y1, y2⟩ := bx.out _ hb.out
        have bwH : Hid (Below w.heap.size w wr) := bw
        clear bw
        by_cases hk : k < m
        · have hkI : (k : Int) < (m : Int) := by omega
          have k0 : (0 : Int) ≤ (k : Int) := by omega
          obtain ⟨t, ht⟩ : ∃ t, pf[k]? = some t := ⟨_, List.getElem?_eq_getElem (by have := hmH.out; omega)⟩
          obtain ⟨b1, o1, rfl, hb1, t1, t2⟩ := hFH.out.at bwH.out ht
          have htH : Hid (pf[k]? = some t) := ht
          clear ht
          obtain ⟨K, V⟩ := t
          dsimp only at t1 t2
          have wi : IntKind.i64.wrap ((k : Int) + 1) = ((k + 1 : Nat) : Int) := IntWalk.i64_in _ (by omega)
          have hb1' : b1 < wr.heap.size := Nat.lt_of_lt_of_le hb1 bwH.out.size
          have bE : Hid (Below w.heap.size w (wr.alloc (.cells #[.string K, .int .i64 V] 86)) ∧ Below (w.heap.size + 1) w2 (wr.alloc (.cells #[.string K, .int .i64 V] 86))) := ⟨bwH.out.alloc bwH.out.size _, hb.out.alloc (by have := hb.out.size; have := z1.out; omega) _⟩
          go_wp2_with fail
          by_cases gK : wordL K = true
          · have cK : Hid (∀ W, Calls Tryz.prog 101 #[.string K] W fun e w' => e = .returned (.bool true) ∧ w' = W) := fun W => by have := cY.out K W; rw [gK] at this; exact this
            have hal2 : Hid ((pf.take (k + 1)).all (fun f => wordL f.1) = true) := all_step htH.out hal.out gK
            clear gK
            refine Calls.mono (cK.out _) ?_
            rintro e w3 ⟨rfl, hw⟩
            subst hw
            go_wp2_with fail
            exact ⟨⟨k + 1, by first | rfl | simp, by omega, hal2, bE.out.2⟩, by simp [intOf]; omega⟩
          · have gK' : wordL K = false := by simpa using gK
            have cK : Hid (∀ W, Calls Tryz.prog 101 #[.string K] W fun e w' => e = .returned (.bool false) ∧ w' = W) := fun W => by have := cY.out K W; rw [gK'] at this; exact this
            have eR3 : R = false := by rw [eR2.out]; exact all_bad htH.out gK'
            subst eR3
            clear gK gK'
            refine Calls.mono (cK.out _) ?_
            rintro e w3 ⟨rfl, hw⟩
            subst hw
            go_wp2_with fail
            go_ret
            exact ⟨rfl, bE.out.1⟩
        · have hkI : ¬ (k : Int) < (m : Int) := by omega
          have eR3 : R = true := by
            rw [eR2.out]
            have : pf.take k = pf := List.take_of_length_le (by have := hmH.out; omega)
            rw [← this, hal.out]
          subst eR3
          go_wp2_with fail
          go_ret
          exact ⟨rfl, bwH.out⟩
end Go.Proofs.YtbojljmacheccaaGreatDoor.Ln

namespace Go.Proofs.YtbojljmacheccaaGreatDoor.Ln
open Go.RowKit Go.Shelf
attribute [local go_sem] Oper.semAt_some
set_option linter.unusedVariables false
set_option linter.unusedSimpArgs false
set_option maxRecDepth 100000
/-- while a line is written: the Builder at b, where W1 ends. -/
structure PW (W1 : World) (b : Nat) (bs : By) (W : World) : Prop where
  bu : Lib.IsBuilderF 115 5 b b (Lib.byteCells bs) W
  bl : Below b W1 W
  lt : b < W.heap.size
theorem PW.below {W1 W W' : World} {b : Nat} {bs : By} (h : PW W1 b bs W) (hb : Below W.heap.size W W') : PW W1 b bs W' :=
  ⟨builder_below h.bu hb, h.bl.trans (hb.mono (Nat.le_of_lt h.lt)), Nat.lt_of_lt_of_le h.lt hb.size⟩
theorem PW.new (W1 : World) : PW W1 W1.heap.size [] (W1.alloc (.cells #[.pointer none, .slice none 0 0] 115)) :=
  ⟨builder_new W1, (Below.refl _ W1).alloc (Nat.le_refl _) _, by simp⟩
theorem PW.esc {W1 W : World} {b : Nat} {bs : By} (h : PW W1 b bs W) (t : ByteArray) (ht : t.size ≤ 1048576) :
    Calls Tryz.prog 96 #[.string t] W fun e w' => e = .returned (.string ⟨(escL t.data.toList).toArray⟩) ∧ PW W1 b bs w' ∧ Below W.heap.size W w' :=
  (escape_any t W ht (fun a b => mk_extract _ (by omega) a b)).mono fun e w' ⟨h1, h2⟩ => ⟨h1, h.below h2, h2⟩
theorem PW.form {W1 W : World} {b : Nat} {bs : By} (h : PW W1 b bs W) (n : Int) (hn : I64L n) (w : World) (hg : LT w) (hw : Below w.heap.size w W) :
    Calls Tryz.prog 36 #[.int .i64 n, .int .i64 10] W fun e w' => e = .returned (.string ⟨(Lib.itoa n).toArray⟩) ∧ PW W1 b bs w' ∧ Below W.heap.size W w' :=
  (form_l n hn W (hg.on hw)).mono fun e w' ⟨h1, h2⟩ => ⟨h1, h.below h2, h2⟩
theorem PW.write {W1 W : World} {b : Nat} {bs : By} (h : PW W1 b bs W) (t : ByteArray) (ht : bs.length + t.size ≤ 140737488355328) :
    Calls Tryz.prog 39 #[.pointer (some ⟨b, 0, none⟩), .string t] W fun e w' => (∃ q : Int, e = .returned (.tuple #[.int .i64 q, .nilIface])) ∧ PW W1 b (bs ++ t.data.toList) w' ∧ Lib.OthersKept 5 (some b) W w' := by
  refine (Tryz.Builder_WriteString_k b b (Lib.byteCells bs) t W h.bu (by rw [Lib.byteCells_length]; exact ht) (Nat.le_of_lt h.lt)).mono ?_
  rintro e w' ⟨rfl, k1, k2, k3⟩
  exact ⟨⟨_, rfl⟩, ⟨by rw [cells_append]; exact .inr k1, h.bl.trans k2, Nat.lt_of_lt_of_le h.lt k2.size⟩, k3⟩
theorem PW.text {W1 W : World} {b : Nat} {bs : By} (h : PW W1 b bs W) :
    Calls Tryz.prog 40 #[.pointer (some ⟨b, 0, none⟩)] W fun e w' => e = .returned (.string ⟨bs.toArray⟩) ∧ Below b W1 w' := by
  refine (Tryz.Builder_String_any_k b b bs W h.bu (Nat.le_of_lt h.lt)).mono ?_
  rintro e w' ⟨rfl, k1, k2, k3⟩
  exact ⟨rfl, h.bl.trans k2⟩
/-! what is written of a point in memory. -/
def tW (t : TagP) : By := 44 :: (escL t.1.data.toList ++ 61 :: escL t.2.data.toList)
def fW (f : FdP) : By := escL f.1.data.toList ++ 61 :: (Lib.itoa f.2 ++ [105])
def fsW : Bool → List FdP → By
  | _, [] => []
  | b, f :: r => (if b then 32 else 44) :: fW f ++ fsW false r
def ptW (p : PtP) : By := escL p.m.data.toList ++ p.t.flatMap tW ++ fsW true p.f ++ 32 :: Lib.itoa p.tm
theorem tagsW_of : ∀ l : List TagP, tagsW escL (l.map fun t => (t.1.data.toList, t.2.data.toList)) = l.flatMap tW
  | [] => rfl
  | t :: r => by
    rw [List.map_cons, List.flatMap_cons]
    show tagW escL _ ++ tagsW escL _ = _
    rw [tagsW_of r]; rfl
theorem moreW_of : ∀ l : List FdP, moreW escL Lib.itoa (l.map fun f => (f.1.data.toList, f.2)) = fsW false l
  | [] => rfl
  | f :: r => by
    rw [List.map_cons]
    show 44 :: fieldW escL Lib.itoa _ ++ moreW escL Lib.itoa _ = _
    rw [moreW_of r]; rfl
theorem ptW_of (p : PtP) : ptW p = lineW escL Lib.itoa (ptL p) := by
  obtain ⟨m, t, f, tm⟩ := p
  unfold ptW lineW ptL
  dsimp only
  rw [tagsW_of]
  have e : fieldsW escL Lib.itoa (f.map fun f => (f.1.data.toList, f.2)) = fsW true f := by
    cases f with
    | nil => rfl
    | cons x r =>
      rw [List.map_cons]
      show 32 :: fieldW escL Lib.itoa _ ++ moreW escL Lib.itoa _ = _
      rw [moreW_of r]; rfl
  rw [e]
  simp
theorem fsW_snoc : ∀ (l : List FdP) (b : Bool) (f : FdP), fsW b (l ++ [f]) = fsW b l ++ (if b && l.isEmpty then 32 else 44) :: fW f
  | [], b, f => by
    show fsW b [f] = _
    cases b <;> simp [fsW]
  | x :: r, b, f => by
    show (if b then 32 else 44) :: fW x ++ fsW false (r ++ [f]) = _
    rw [fsW_snoc r false f]
    simp [fsW]
theorem tW_len (t : TagP) (h : t.1.size ≤ 1048576 ∧ t.2.size ≤ 1048576) : (tW t).length ≤ 4194306 := by
  unfold tW
  have h1 := escL_len t.1.data.toList
  have h2 := escL_len t.2.data.toList
  rw [← Lib.size_eq] at h1 h2
  simp
  omega
theorem tsW_len : ∀ (l : List TagP), (∀ t ∈ l, t.1.size ≤ 1048576 ∧ t.2.size ≤ 1048576) → (l.flatMap tW).length ≤ l.length * 4194306
  | [], _ => by simp
  | t :: r, h => by
    rw [List.flatMap_cons, List.length_append, List.length_cons, Nat.succ_mul]
    have h1 := tsW_len r (fun x hx => h x (List.mem_cons_of_mem _ hx))
    have h2 := tW_len t (h t (List.mem_cons_self ..))
    omega
theorem itoa_len (n : Int) (hn : I64L n) : (Lib.itoa n).length ≤ 64 := by
  have d : ∀ (k u : Nat), u < 10 ^ k → (Lib.decDigits u).length ≤ k + 1 := by
    intro k
    induction k with
    | zero =>
      intro u hu
      rw [Lib.decDigits]
      split
      · simp
      · omega
    | succ k ih =>
      intro u hu
      rw [Lib.decDigits]
      split
      · simp
      · rw [List.length_append, List.length_singleton]
        have := ih (u / 10) (by rw [Nat.div_lt_iff_lt_mul (by omega)]; rw [Nat.pow_succ] at hu; exact hu)
        omega
  unfold I64L at hn
  have e20 : (10 : Nat) ^ 20 = 100000000000000000000 := by decide
  unfold Lib.itoa
  split
  · have := d 20 n.natAbs (by omega)
    simp; omega
  · have := d 20 n.toNat (by omega)
    omega
theorem fW_len (f : FdP) (h : f.1.size ≤ 1048576 ∧ I64L f.2) : (fW f).length ≤ 2097300 := by
  unfold fW
  have h1 := escL_len f.1.data.toList
  rw [← Lib.size_eq] at h1
  have h2 := itoa_len f.2 h.2
  simp
  omega
theorem fsW_len : ∀ (l : List FdP) (b : Bool), (∀ t ∈ l, t.1.size ≤ 1048576 ∧ I64L t.2) → (fsW b l).length ≤ l.length * 2097301
  | [], _, _ => by simp [fsW]
  | t :: r, b, h => by
    show ((if b then 32 else 44) :: fW t ++ fsW false r).length ≤ _
    have h1 := fsW_len r false (fun x hx => h x (List.mem_cons_of_mem _ hx))
    have h2 := fW_len t (h t (List.mem_cons_self ..))
    rw [List.length_append, List.length_cons, List.length_cons, Nat.succ_mul]
    omega
/-- a point that is not too great. -/
structure PtS (p : PtP) : Prop where
  m : p.m.size ≤ 1048576
  tn : p.t.length ≤ 1048576
  fn : p.f.length ≤ 1048576
  t : ∀ t ∈ p.t, t.1.size ≤ 1048576 ∧ t.2.size ≤ 1048576
  f : ∀ t ∈ p.f, t.1.size ≤ 1048576 ∧ I64L t.2
  tm : I64L p.tm
end Go.Proofs.YtbojljmacheccaaGreatDoor.Ln

namespace Go.Proofs.YtbojljmacheccaaGreatDoor.Ln
open Go.RowKit Go.Shelf
attribute [local go_sem] Oper.semAt_some
set_option linter.unusedVariables false
set_option linter.unusedSimpArgs false
set_option maxRecDepth 100000
theorem cat_l (a b : ByteArray) (h : (a.size : Int) + (b.size : Int) ≤ 8388608) (W : World) : (Op.stringOp .add a b).run Tryz.prog W = .ok (.string (a ++ b)) W := run_string_add W a b (by omega) (by omega)
theorem sz1 (l : By) : (⟨l.toArray⟩ : ByteArray).size = l.length := rfl
set_option maxHeartbeats 8000000 in
theorem write_any (p : PtP) (ta fa : Option Addr) (tc fc : Nat) (w : World) (hp : PtIn w ta fa fc p) (hS : PtS p) (hg : LT w) : Calls Tryz.prog 32 #[.agg #[.string p.m, .slice ta p.t.length tc, .slice fa p.f.length fc, .int .i64 p.tm]] w fun e w' => e = .returned (.string ⟨(ptW p).toArray⟩) ∧ Below w.heap.size w w' := by
  obtain ⟨hT, _, hF, hFl, hFc⟩ := hp
  have hSH : Hid (PtS p) := hS
  obtain ⟨R, hR⟩ : ∃ R, ptW p = R := ⟨_, rfl⟩
  have hRH : Hid (escL p.m.data.toList ++ p.t.flatMap tW ++ fsW true p.f ++ 32 :: Lib.itoa p.tm = R) := hR
  rw [hR]
  clear hR hS
  obtain ⟨pm, pt, pf, ptm⟩ := p
  dsimp only at hT hF hFl hFc hRH ⊢
  have hTH : Hid (TgIn w ta pt) := hT
  have hFH : Hid (FdIn w fa pf) := hF
  obtain ⟨n, hn⟩ : ∃ n, pt.length = n := ⟨_, rfl⟩
  obtain ⟨m, hm⟩ : ∃ m, pf.length = m := ⟨_, rfl⟩
  have hnH : Hid (pt.length = n) := hn
  have hmH : Hid (pf.length = m) := hm
  have hnB : n ≤ 1048576 := by rw [← hn]; exact hSH.out.tn
  have hmB : m ≤ 1048576 := by rw [← hm]; exact hSH.out.fn
  rw [hn]
  rw [hm] at hFl hFc ⊢
  obtain ⟨W1, hW1⟩ : ∃ W1, w.alloc (.cells #[.string pm, .slice ta n tc, .slice fa m fc, .int .i64 ptm] 32) = W1 := ⟨_, rfl⟩
  have B1 : Hid (Below w.heap.size w W1) := by rw [← hW1]; exact (Below.refl _ w).alloc (Nat.le_refl _) _
  have z1 : W1.heap.size = w.heap.size + 1 := by rw [← hW1]; simp
  have x0 : W1.cell? ⟨w.heap.size, 0, none⟩ = some (.string pm) := by rw [← hW1]; simp [go_sem]
  have x1 : W1.cell? ⟨w.heap.size, 1, none⟩ = some (.slice ta n tc) := by rw [← hW1]; simp [go_sem]
  have x2 : W1.cell? ⟨w.heap.size, 2, none⟩ = some (.slice fa m fc) := by rw [← hW1]; simp [go_sem]
  have x3 : W1.cell? ⟨w.heap.size, 3, none⟩ = some (.int .i64 ptm) := by rw [← hW1]; simp [go_sem]
  have hW1H : Hid (w.alloc (.cells #[.string pm, .slice ta n tc, .slice fa m fc, .int .i64 ptm] 32) = W1) := hW1
  have N0 := PW.new W1
  rw [z1] at N0
  obtain ⟨W2, hW2⟩ : ∃ W2, W1.alloc (.cells #[.pointer none, .slice none 0 0] 115) = W2 := ⟨_, rfl⟩
  have hW2H : Hid (W1.alloc (.cells #[.pointer none, .slice none 0 0] 115) = W2) := hW2
  rw [hW2] at N0
  obtain ⟨b, hb⟩ : ∃ b, w.heap.size + 1 = b := ⟨_, rfl⟩
  rw [hb] at N0
  have hbM : w.heap.size < b := by omega
  have bx : Hid (∀ bs wr, PW W1 b bs wr → Below w.heap.size w wr ∧ wr.cell? ⟨w.heap.size, 0, none⟩ = some (.string pm) ∧ wr.cell? ⟨w.heap.size, 1, none⟩ = some (.slice ta n tc) ∧ wr.cell? ⟨w.heap.size, 2, none⟩ = some (.slice fa m fc) ∧ wr.cell? ⟨w.heap.size, 3, none⟩ = some (.int .i64 ptm)) := fun bs wr h => ⟨B1.out.trans (h.bl.mono (by omega)), by rw [h.bl.cell (p := ⟨w.heap.size, 0, none⟩) hbM]; exact x0, by rw [h.bl.cell (p := ⟨w.heap.size, 1, none⟩) hbM]; exact x1, by rw [h.bl.cell (p := ⟨w.heap.size, 2, none⟩) hbM]; exact x2, by rw [h.bl.cell (p := ⟨w.heap.size, 3, none⟩) hbM]; exact x3⟩
  have x0' : W2.cell? ⟨w.heap.size, 0, none⟩ = some (.string pm) := (bx.out _ _ N0).2.1
  have hEl := escL_len pm.data.toList
  rw [← Lib.size_eq] at hEl
  have cE := N0.esc pm hSH.out.m
  obtain ⟨E, hE⟩ : ∃ E, escL pm.data.toList = E := ⟨_, rfl⟩
  rw [hE] at cE hEl hRH
  have cEH : Hid (Calls Tryz.prog 96 #[.string pm] W2 fun e w' => e = .returned (.string ⟨E.toArray⟩) ∧ PW W1 b [] w' ∧ Below W2.heap.size W2 w') := cE
  have hElH : Hid (E.length ≤ 2097152) := by have := hSH.out.m; show E.length ≤ _; dsimp only at this; omega
  have hbS : Hid (W1.heap.size = b ∧ w.heap.size + 1 = b) := ⟨by omega, hb⟩
  clear hW1 hT hF hn hm hW2 z1 x0 x1 x2 x3 hEl hE cE N0
  go_enter Tryz.func32, Tryz.ntmps32
  go_wp2_with fail
  rw [hW1H.out]
  try rw [hW2H.out]
  try rw [hbS.out.1]
  try rw [hbS.out.2]
  refine Calls.mono cEH.out ?_
  rintro e w2 ⟨rfl, P2, b2⟩
  have cW := P2.write ⟨E.toArray⟩ (by have := hElH.out; rw [sz1]; simp; omega)
  have cWH : Hid (Calls Tryz.prog 39 #[.pointer (some ⟨b, 0, none⟩), .string ⟨E.toArray⟩] w2 fun e w' => (∃ q : Int, e = .returned (.tuple #[.int .i64 q, .nilIface])) ∧ PW W1 b E w' ∧ Lib.OthersKept 5 (some b) w2 w') := cW
  clear P2 b2 cW x0' cEH
  go_wp2_with fail
  refine Calls.mono cWH.out ?_
  rintro e w3 ⟨⟨q, rfl⟩, P3, _⟩
  obtain ⟨_, _, y1, _, _⟩ := bx.out _ _ P3
  have P3H : Hid (PW W1 b E w3) := P3
  clear P3 cWH
  go_wp2_with fail
  go_loopw [16] (fun i wr => ∃ (k : Nat) (bs : By), i = .int .i64 (k : Int) ∧ k ≤ n ∧ Hid (bs = E ++ (pt.take k).flatMap tW) ∧ Hid (PW W1 b bs wr)) (fun i _ => n - (intOf i).toNat)
  case atStart => exact ⟨0, E, rfl, Nat.zero_le _, by show E = E ++ _; simp, P3H⟩
  case round =>
    clear P3H y1
    obtain ⟨k, bs, rfl, kn, hbs, hp⟩ := hrel
    have hlb : Hid (bs.length ≤ 4398050705408) := by
      show bs.length ≤ _
      rw [hbs.out, List.length_append]
      have h1 := hElH.out
      have h2 := tsW_len (pt.take k) (fun t ht => hSH.out.t t (List.mem_of_mem_take ht))
      have h3 : (pt.take k).length ≤ 1048576 := by rw [List.length_take]; omega
      have h4 := Nat.mul_le_mul_right 4194306 h3
      omega
    by_cases hk : k < n
    · have hkI : (k : Int) < (n : Int) := by omega
      have k0 : (0 : Int) ≤ (k : Int) := by omega
      obtain ⟨t, ht⟩ : ∃ t, pt[k]? = some t := ⟨_, List.getElem?_eq_getElem (by have := hnH.out; omega)⟩
      obtain ⟨b1, o1, rfl, hb1, t1, t2⟩ := hTH.out.at (bx.out _ _ hp.out).1 ht
      have hsz := hSH.out.t t (List.mem_of_getElem? ht)
      have hbs2 : Hid (bs ++ tW t = E ++ (pt.take (k + 1)).flatMap tW) := by
        show bs ++ tW t = _
        rw [hbs.out, List.take_add_one, ht, List.flatMap_append]
        simp
      clear ht
      obtain ⟨K, V⟩ := t
      dsimp only at t1 t2 hsz
      have wi : IntKind.i64.wrap ((k : Int) + 1) = ((k + 1 : Nat) : Int) := IntWalk.i64_in _ (by omega)
      have hb1' : b1 < wr.heap.size := Nat.lt_of_lt_of_le hb1 (bx.out _ _ hp.out).1.size
      have hh0 : Hid ((wr.alloc (.cells #[.string K, .string V] 102)).drew.heap[wr.heap.size]? = some (.cells #[.string K, .string V] 102)) := World.alloc_heap_new wr _
      have hbw : wr.heap.size ≠ b := by have := hp.out.lt; omega
      have hcel : Hid (∀ W : World, W.heap[wr.heap.size]? = some (.cells #[.string K, .string V] 102) → W.cell? ⟨wr.heap.size, 0, none⟩ = some (.string K) ∧ W.cell? ⟨wr.heap.size, 1, none⟩ = some (.string V)) := fun W h => ⟨by rw [Lib.cell_of_heap h]; rfl, by rw [Lib.cell_of_heap h]; rfl⟩
      have hKeep : Hid (∀ W W' : World, W.heap[wr.heap.size]? = some (.cells #[.string K, .string V] 102) → Lib.OthersKept 5 (some b) W W' → W'.heap[wr.heap.size]? = some (.cells #[.string K, .string V] 102)) := fun W W' h hO => hO _ _ h (by simpa using hbw) (by intro c fz e; cases e)
      have hKp2 : Hid (∀ W W' : World, W.heap[wr.heap.size]? = some (.cells #[.string K, .string V] 102) → Below W.heap.size W W' → W'.heap[wr.heap.size]? = some (.cells #[.string K, .string V] 102)) := fun W W' h hO => (hO.block _ (Array.getElem?_eq_some_iff.1 h).1).trans h
      have hp0 : Hid (PW W1 b bs (wr.alloc (.cells #[.string K, .string V] 102)).drew) := hp.out.below (((Below.refl _ wr).alloc (Nat.le_refl _) _).drew)
      have S0 : (wr.alloc (.cells #[.string K, .string V] 102)).cell? ⟨wr.heap.size, 0, none⟩ = some (.string K) ∧ (wr.alloc (.cells #[.string K, .string V] 102)).cell? ⟨wr.heap.size, 1, none⟩ = some (.string V) := ⟨by simp [go_sem], by simp [go_sem]⟩
      have hKl := escL_len K.data.toList
      have hVl := escL_len V.data.toList
      rw [← Lib.size_eq] at hKl hVl
      have hbs3 : Hid (bs ++ 44 :: (escL K.data.toList ++ 61 :: escL V.data.toList) = E ++ (pt.take (k + 1)).flatMap tW) := hbs2.out
      have cK := hp0.out.esc K hsz.1
      have cV : Hid (∀ W, PW W1 b bs W → Calls Tryz.prog 96 #[.string V] W fun e w' => e = .returned (.string ⟨(escL V.data.toList).toArray⟩) ∧ PW W1 b bs w' ∧ Below W.heap.size W w') := fun W hW => hW.esc V hsz.2
      clear hbs2
      generalize escL K.data.toList = EK at cK hKl hbs3
      generalize escL V.data.toList = EV at cV hVl hbs3
      have cKH : Hid (Calls Tryz.prog 96 #[.string K] (wr.alloc (.cells #[.string K, .string V] 102)).drew fun e w' => e = .returned (.string ⟨EK.toArray⟩) ∧ PW W1 b bs w' ∧ Below (wr.alloc (.cells #[.string K, .string V] 102)).drew.heap.size (wr.alloc (.cells #[.string K, .string V] 102)).drew w') := cK
      have hTx : (((⟨#[44]⟩ : ByteArray) ++ ⟨EK.toArray⟩ ++ ⟨#[61]⟩) ++ (⟨EV.toArray⟩ : ByteArray)).data.toList = 44 :: (EK ++ 61 :: EV) := by
        simp [ByteArray.data_append]
      have cW : Hid (∀ W, PW W1 b bs W → Calls Tryz.prog 39 #[.pointer (some ⟨b, 0, none⟩), .string (((⟨#[44]⟩ : ByteArray) ++ ⟨EK.toArray⟩ ++ ⟨#[61]⟩) ++ (⟨EV.toArray⟩ : ByteArray))] W fun e w' => (∃ q : Int, e = .returned (.tuple #[.int .i64 q, .nilIface])) ∧ PW W1 b (bs ++ 44 :: (EK ++ 61 :: EV)) w' ∧ Lib.OthersKept 5 (some b) W w') := fun W hW => (hW.write _ (by
        have h1 := hlb.out
        rw [Lib.size_eq, hTx]
        simp
        omega)).mono fun e w' ⟨h1, h2, h3⟩ => ⟨h1, hTx ▸ h2, h3⟩
      have q1 : ∀ W, (Op.stringOp .add ⟨#[44]⟩ ⟨EK.toArray⟩).run Tryz.prog W = .ok (.string (⟨#[44]⟩ ++ ⟨EK.toArray⟩)) W := fun W => cat_l _ _ (by have e1 : (⟨#[44]⟩ : ByteArray).size = 1 := rfl; have e2 := sz1 EK; omega) W
      have q2 : ∀ W, (Op.stringOp .add (⟨#[44]⟩ ++ ⟨EK.toArray⟩) ⟨#[61]⟩).run Tryz.prog W = .ok (.string (⟨#[44]⟩ ++ ⟨EK.toArray⟩ ++ ⟨#[61]⟩)) W := fun W => cat_l _ _ (by rw [ByteArray.size_append]; have e1 : (⟨#[44]⟩ : ByteArray).size = 1 := rfl; have e2 := sz1 EK; have e3 : (⟨#[61]⟩ : ByteArray).size = 1 := rfl; omega) W
      have q3 : ∀ W, (Op.stringOp .add (⟨#[44]⟩ ++ ⟨EK.toArray⟩ ++ ⟨#[61]⟩) ⟨EV.toArray⟩).run Tryz.prog W = .ok (.string (⟨#[44]⟩ ++ ⟨EK.toArray⟩ ++ ⟨#[61]⟩ ++ ⟨EV.toArray⟩)) W := fun W => cat_l _ _ (by rw [ByteArray.size_append, ByteArray.size_append]; have e1 : (⟨#[44]⟩ : ByteArray).size = 1 := rfl; have e2 := sz1 EK; have e3 : (⟨#[61]⟩ : ByteArray).size = 1 := rfl; have e4 := sz1 EV; omega) W
      clear hTx hKl hVl cK hsz
      go_wp2_with fail
      go_region_held3 (fun W => W.cell? ⟨wr.heap.size, 0, none⟩ = some (.string K) ∧ W.cell? ⟨wr.heap.size, 1, none⟩ = some (.string V)) (first | assumption)
        (first
          | (go_at_call 96; (with_reducible refine Calls.mono cKH.out ?_); rintro e4 w4 ⟨rfl, hp4, hb4⟩; have hh4 : Hid (w4.heap[wr.heap.size]? = some (.cells #[.string K, .string V] 102)) := hKp2.out _ _ hh0.out hb4; have S4 := hcel.out w4 hh4.out)
          | (go_at_call 96; (with_reducible refine Calls.mono (cV.out _ hp4) ?_); rintro e5 w5 ⟨rfl, hp5, hb5⟩; have hh5 : Hid (w5.heap[wr.heap.size]? = some (.cells #[.string K, .string V] 102)) := hKp2.out _ _ hh4.out hb5; have S5 := hcel.out w5 hh5.out)
          | (go_at_call 39; (with_reducible refine Calls.mono (cW.out _ hp5) ?_); rintro e6 w6 ⟨⟨q, rfl⟩, hp6, hO6⟩; have S6 := hcel.out w6 (hKeep.out _ _ hh5.out hO6)))
      all_goals
        have hp6H : Hid (PW W1 b (bs ++ 44 :: (EK ++ 61 :: EV)) w6) := hp6
        go_wp2_with fail
        go_round
      case measure => simp only [intOf]; omega
      case rel => exact ⟨k + 1, _, by simp, by omega, hbs3, hp6H⟩
    · have hkI : ¬ (k : Int) < (n : Int) := by omega
      have hbsE : Hid (bs = E ++ pt.flatMap tW) := by have := hbs.out; rw [List.take_of_length_le (by have := hnH.out; omega)] at this; exact this
      have hend : Hid (bs ++ fsW true pf ++ 32 :: Lib.itoa ptm = R) := by show _ = _; rw [hbsE.out]; exact hRH.out
      obtain ⟨_, _, _, y2, _⟩ := bx.out _ _ hp.out
      clear hbs hbsE
      go_wp2_with fail
      clear y2
      have hBT : Hid (bs ++ fsW true (pf.take 0) = bs) := by show _ = _; simp [fsW]
      have hp2 : Hid (PW W1 b (bs ++ fsW true (pf.take 0)) wr) := by show PW W1 b (bs ++ fsW true (pf.take 0)) wr; rw [hBT.out]; exact hp.out
      obtain ⟨BT, hBTe⟩ : ∃ BT, bs = BT := ⟨_, rfl⟩
      rw [hBTe] at hlb hend hp2
      clear hBT hp hBTe hkI hk kn
      go_loopw [6, 34] (fun a i wr => ∃ (k : Nat) (c : UInt8) (bs : By), a = .string ⟨#[c]⟩ ∧ i = .int .i64 (k : Int) ∧ k ≤ m ∧ Hid (c = if k = 0 then 32 else 44) ∧ Hid (bs = BT ++ fsW true (pf.take k)) ∧ Hid (PW W1 b bs wr)) (fun _ i _ => m - (intOf i).toNat)
      case atStart => exact ⟨0, 32, _, rfl, rfl, Nat.zero_le _, rfl, rfl, hp2⟩
      case round =>
        clear hp2
        obtain ⟨k, c, bs, rfl, rfl, kn, hc, hbs, hp⟩ := hrel
        have hlb2 : Hid (bs.length ≤ 6597230198784) := by
          show bs.length ≤ _
          rw [hbs.out, List.length_append]
          have h1 := hlb.out
          have h2 := fsW_len (pf.take k) true (fun t ht => hSH.out.f t (List.mem_of_mem_take ht))
          have h3 : (pf.take k).length ≤ 1048576 := by rw [List.length_take]; omega
          have h4 := Nat.mul_le_mul_right 2097301 h3
          omega
        by_cases hk : k < m
        · have hkI : (k : Int) < (m : Int) := by omega
          have k0 : (0 : Int) ≤ (k : Int) := by omega
          obtain ⟨t, ht⟩ : ∃ t, pf[k]? = some t := ⟨_, List.getElem?_eq_getElem (by have := hmH.out; omega)⟩
          obtain ⟨b1, o1, rfl, hb1, t1, t2⟩ := hFH.out.at (bx.out _ _ hp.out).1 ht
          have hsz := hSH.out.f t (List.mem_of_getElem? ht)
          have hbs2 : Hid (bs ++ c :: fW t = BT ++ fsW true (pf.take (k + 1))) := by
            show bs ++ c :: fW t = _
            have e5 : (if (true && (pf.take k).isEmpty) = true then (32 : UInt8) else 44) = c := by
              rw [hc.out]
              have hlen5 : (pf.take k).length = k := by rw [List.length_take]; have := hmH.out; omega
              by_cases k5 : k = 0
              · subst k5; simp
              · rw [if_neg k5, if_neg]
                cases hq : pf.take k with
                | nil => rw [hq] at hlen5; exact absurd hlen5.symm k5
                | cons a r => simp
            rw [hbs.out, List.take_add_one, ht]
            show _ = BT ++ fsW true (pf.take k ++ [t])
            rw [fsW_snoc, e5]
            simp
          clear ht
          obtain ⟨K, V⟩ := t
          dsimp only at t1 t2 hsz
          have wi : IntKind.i64.wrap ((k : Int) + 1) = ((k + 1 : Nat) : Int) := IntWalk.i64_in _ (by omega)
          have hb1' : b1 < wr.heap.size := Nat.lt_of_lt_of_le hb1 (bx.out _ _ hp.out).1.size
          have hh0 : Hid ((wr.alloc (.cells #[.string K, .int .i64 V] 86)).drew.heap[wr.heap.size]? = some (.cells #[.string K, .int .i64 V] 86)) := World.alloc_heap_new wr _
          have hbw : wr.heap.size ≠ b := by have := hp.out.lt; omega
          have hcel : Hid (∀ W : World, W.heap[wr.heap.size]? = some (.cells #[.string K, .int .i64 V] 86) → W.cell? ⟨wr.heap.size, 0, none⟩ = some (.string K) ∧ W.cell? ⟨wr.heap.size, 1, none⟩ = some (.int .i64 V)) := fun W h => ⟨by rw [Lib.cell_of_heap h]; rfl, by rw [Lib.cell_of_heap h]; rfl⟩
          have hKeep : Hid (∀ W W' : World, W.heap[wr.heap.size]? = some (.cells #[.string K, .int .i64 V] 86) → Lib.OthersKept 5 (some b) W W' → W'.heap[wr.heap.size]? = some (.cells #[.string K, .int .i64 V] 86)) := fun W W' h hO => hO _ _ h (by simpa using hbw) (by intro c fz e; cases e)
          have hKp2 : Hid (∀ W W' : World, W.heap[wr.heap.size]? = some (.cells #[.string K, .int .i64 V] 86) → Below W.heap.size W W' → W'.heap[wr.heap.size]? = some (.cells #[.string K, .int .i64 V] 86)) := fun W W' h hO => (hO.block _ (Array.getElem?_eq_some_iff.1 h).1).trans h
          have hp0 : Hid (PW W1 b bs (wr.alloc (.cells #[.string K, .int .i64 V] 86)).drew) := hp.out.below (((Below.refl _ wr).alloc (Nat.le_refl _) _).drew)
          have S0 : (wr.alloc (.cells #[.string K, .int .i64 V] 86)).cell? ⟨wr.heap.size, 0, none⟩ = some (.string K) ∧ (wr.alloc (.cells #[.string K, .int .i64 V] 86)).cell? ⟨wr.heap.size, 1, none⟩ = some (.int .i64 V) := ⟨by simp [go_sem], by simp [go_sem]⟩
          have hKl := escL_len K.data.toList
          rw [← Lib.size_eq] at hKl
          have hDl := itoa_len V hsz.2
          have hbs3 : Hid (bs ++ c :: (escL K.data.toList ++ 61 :: (Lib.itoa V ++ [105])) = BT ++ fsW true (pf.take (k + 1))) := hbs2.out
          have cK := hp0.out.esc K hsz.1
          have cV : Hid (∀ W, PW W1 b bs W → Calls Tryz.prog 36 #[.int .i64 V, .int .i64 10] W fun e w' => e = .returned (.string ⟨(Lib.itoa V).toArray⟩) ∧ PW W1 b bs w' ∧ Below W.heap.size W w') := fun W hW => hW.form V hsz.2 w hg (bx.out _ _ hW).1
          clear hbs2
          generalize escL K.data.toList = EK at cK hKl hbs3
          generalize Lib.itoa V = D at cV hDl hbs3
          have cKH : Hid (Calls Tryz.prog 96 #[.string K] (wr.alloc (.cells #[.string K, .int .i64 V] 86)).drew fun e w' => e = .returned (.string ⟨EK.toArray⟩) ∧ PW W1 b bs w' ∧ Below (wr.alloc (.cells #[.string K, .int .i64 V] 86)).drew.heap.size (wr.alloc (.cells #[.string K, .int .i64 V] 86)).drew w') := cK
          have hTx : (⟨#[c]⟩ ++ ⟨EK.toArray⟩ ++ ⟨#[61]⟩ ++ ⟨D.toArray⟩ ++ ⟨#[105]⟩ : ByteArray).data.toList = c :: (EK ++ 61 :: (D ++ [105])) := by
            simp [ByteArray.data_append]
          have cW : Hid (∀ W, PW W1 b bs W → Calls Tryz.prog 39 #[.pointer (some ⟨b, 0, none⟩), .string (⟨#[c]⟩ ++ ⟨EK.toArray⟩ ++ ⟨#[61]⟩ ++ ⟨D.toArray⟩ ++ ⟨#[105]⟩)] W fun e w' => (∃ q : Int, e = .returned (.tuple #[.int .i64 q, .nilIface])) ∧ PW W1 b (bs ++ c :: (EK ++ 61 :: (D ++ [105]))) w' ∧ Lib.OthersKept 5 (some b) W w') := fun W hW => (hW.write _ (by
            have h1 := hlb2.out
            rw [Lib.size_eq, hTx]
            simp
            omega)).mono fun e w' ⟨h1, h2, h3⟩ => ⟨h1, hTx ▸ h2, h3⟩
          have q1 : ∀ W, (Op.stringOp .add ⟨#[c]⟩ ⟨EK.toArray⟩).run Tryz.prog W = .ok (.string (⟨#[c]⟩ ++ ⟨EK.toArray⟩)) W := fun W => cat_l _ _ (by (try simp only [ByteArray.size_append]); have e1 : (⟨#[c]⟩ : ByteArray).size = 1 := rfl; have e2 := sz1 EK; have e3 : (⟨#[61]⟩ : ByteArray).size = 1 := rfl; have e4 := sz1 D; have e5 : (⟨#[105]⟩ : ByteArray).size = 1 := rfl; omega) W
          have q2 : ∀ W, (Op.stringOp .add (⟨#[c]⟩ ++ ⟨EK.toArray⟩) ⟨#[61]⟩).run Tryz.prog W = .ok (.string (⟨#[c]⟩ ++ ⟨EK.toArray⟩ ++ ⟨#[61]⟩)) W := fun W => cat_l _ _ (by (try simp only [ByteArray.size_append]); have e1 : (⟨#[c]⟩ : ByteArray).size = 1 := rfl; have e2 := sz1 EK; have e3 : (⟨#[61]⟩ : ByteArray).size = 1 := rfl; have e4 := sz1 D; have e5 : (⟨#[105]⟩ : ByteArray).size = 1 := rfl; omega) W
          have q3 : ∀ W, (Op.stringOp .add (⟨#[c]⟩ ++ ⟨EK.toArray⟩ ++ ⟨#[61]⟩) ⟨D.toArray⟩).run Tryz.prog W = .ok (.string (⟨#[c]⟩ ++ ⟨EK.toArray⟩ ++ ⟨#[61]⟩ ++ ⟨D.toArray⟩)) W := fun W => cat_l _ _ (by (try simp only [ByteArray.size_append]); have e1 : (⟨#[c]⟩ : ByteArray).size = 1 := rfl; have e2 := sz1 EK; have e3 : (⟨#[61]⟩ : ByteArray).size = 1 := rfl; have e4 := sz1 D; have e5 : (⟨#[105]⟩ : ByteArray).size = 1 := rfl; omega) W
          have q4 : ∀ W, (Op.stringOp .add (⟨#[c]⟩ ++ ⟨EK.toArray⟩ ++ ⟨#[61]⟩ ++ ⟨D.toArray⟩) ⟨#[105]⟩).run Tryz.prog W = .ok (.string (⟨#[c]⟩ ++ ⟨EK.toArray⟩ ++ ⟨#[61]⟩ ++ ⟨D.toArray⟩ ++ ⟨#[105]⟩)) W := fun W => cat_l _ _ (by (try simp only [ByteArray.size_append]); have e1 : (⟨#[c]⟩ : ByteArray).size = 1 := rfl; have e2 := sz1 EK; have e3 : (⟨#[61]⟩ : ByteArray).size = 1 := rfl; have e4 := sz1 D; have e5 : (⟨#[105]⟩ : ByteArray).size = 1 := rfl; omega) W
          clear hTx hKl hDl cK hsz
          go_wp2_with fail
          go_region_held3 (fun W => W.cell? ⟨wr.heap.size, 0, none⟩ = some (.string K) ∧ W.cell? ⟨wr.heap.size, 1, none⟩ = some (.int .i64 V)) (first | assumption)
            (first
              | (go_at_call 96; (with_reducible refine Calls.mono cKH.out ?_); rintro e4 w4 ⟨rfl, hp4, hb4⟩; have hh4 : Hid (w4.heap[wr.heap.size]? = some (.cells #[.string K, .int .i64 V] 86)) := hKp2.out _ _ hh0.out hb4; have S4 := hcel.out w4 hh4.out)
              | (go_at_call 36; (with_reducible refine Calls.mono (cV.out _ hp4) ?_); rintro e5 w5 ⟨rfl, hp5, hb5⟩; have hh5 : Hid (w5.heap[wr.heap.size]? = some (.cells #[.string K, .int .i64 V] 86)) := hKp2.out _ _ hh4.out hb5; have S5 := hcel.out w5 hh5.out)
              | (go_at_call 39; (with_reducible refine Calls.mono (cW.out _ hp5) ?_); rintro e6 w6 ⟨⟨q, rfl⟩, hp6, hO6⟩; have S6 := hcel.out w6 (hKeep.out _ _ hh5.out hO6)))
          all_goals
            have hp6H : Hid (PW W1 b (bs ++ c :: (EK ++ 61 :: (D ++ [105]))) w6) := hp6
            go_wp2_with fail
            go_round
          case measure => simp only [intOf]; omega
          case rel => exact ⟨k + 1, 44, _, rfl, by simp, by omega, (by show (44 : UInt8) = _; rw [if_neg (Nat.succ_ne_zero k)]), hbs3, hp6H⟩
        · have hkI : ¬ (k : Int) < (m : Int) := by omega
          have hend2 : Hid (bs ++ 32 :: Lib.itoa ptm = R) := by
            show _ = _
            have := hbs.out
            rw [List.take_of_length_le (by have := hmH.out; omega)] at this
            rw [this]; exact hend.out
          obtain ⟨_, _, _, _, y3⟩ := bx.out _ _ hp.out
          have hDl := itoa_len ptm hSH.out.tm
          have cV : Hid (Calls Tryz.prog 36 #[.int .i64 ptm, .int .i64 10] wr fun e w' => e = .returned (.string ⟨(Lib.itoa ptm).toArray⟩) ∧ PW W1 b bs w' ∧ Below wr.heap.size wr w') := hp.out.form ptm hSH.out.tm w hg (bx.out _ _ hp.out).1
          generalize Lib.itoa ptm = D at cV hDl hend2
          have q1 : ∀ W, (Op.stringOp .add ⟨#[32]⟩ ⟨D.toArray⟩).run Tryz.prog W = .ok (.string (⟨#[32]⟩ ++ ⟨D.toArray⟩)) W := fun W => cat_l _ _ (by have e1 : (⟨#[32]⟩ : ByteArray).size = 1 := rfl; have e2 := sz1 D; omega) W
          have hTx : ((⟨#[32]⟩ : ByteArray) ++ ⟨D.toArray⟩).data.toList = 32 :: D := by simp [ByteArray.data_append]
          have cW : Hid (∀ W, PW W1 b bs W → Calls Tryz.prog 39 #[.pointer (some ⟨b, 0, none⟩), .string ((⟨#[32]⟩ : ByteArray) ++ ⟨D.toArray⟩)] W fun e w' => (∃ q : Int, e = .returned (.tuple #[.int .i64 q, .nilIface])) ∧ PW W1 b R w') := fun W hW => (hW.write _ (by
            have h1 := hlb2.out
            rw [Lib.size_eq, hTx]
            simp
            omega)).mono fun e w' ⟨h1, h2, h3⟩ => ⟨h1, by rw [hTx, hend2.out] at h2; exact h2⟩
          have cT : Hid (∀ W, PW W1 b R W → Calls Tryz.prog 40 #[.pointer (some ⟨b, 0, none⟩)] W fun e w' => e = .returned (.string ⟨R.toArray⟩) ∧ Below b W1 w') := fun W hW => hW.text
          have hfin : Hid (∀ w', Below b W1 w' → Below w.heap.size w w') := fun w' h => B1.out.trans (h.mono (by omega))
          clear hTx hDl
          go_wp2_with (first
            | (go_at_call 36; (with_reducible refine Calls.mono cV.out ?_); rintro e4 w4 ⟨rfl, hp4, hb4⟩)
            | (go_at_call 39; (with_reducible refine Calls.mono (cW.out _ hp4) ?_); rintro e6 w6 ⟨⟨q, rfl⟩, hp6⟩)
            | (go_at_call 40; (with_reducible refine Calls.mono (cT.out _ hp6) ?_); rintro e7 w7 ⟨rfl, hb7⟩))
          go_ret
          exact ⟨rfl, hfin.out _ hb7⟩
end Go.Proofs.YtbojljmacheccaaGreatDoor.Ln

namespace Go.Proofs.YtbojljmacheccaaGreatDoor
open Go.RowKit Go.Shelf
set_option linter.unusedVariables false
set_option linter.unusedSimpArgs false
end Go.Proofs.YtbojljmacheccaaGreatDoor

namespace Go.Proofs.YtbojljmacheccaaGreatDoor.Ln
open Go.RowKit Go.Shelf
attribute [local go_sem] Oper.semAt_some
set_option linter.unusedVariables false
set_option linter.unusedSimpArgs false
set_option maxRecDepth 100000
/-! ### Print; the law's live. -/
abbrev ptV (p : PtP) (ta : Option Addr) (tc : Nat) (fa : Option Addr) (fc : Nat) : Value := .agg #[.string p.m, .slice ta p.t.length tc, .slice fa p.f.length fc, .int .i64 p.tm]
/-- what Print tells of a point. -/
def prL (p : PtP) : Except Int By := if plainL p then (if 8192 < (ptW p).length then .error 6 else .ok (ptW p)) else .error 60
def prV : Except Int By → Value
  | .ok t => .tuple #[.string ⟨t.toArray⟩, .nilIface]
  | .error n => .tuple #[.string ⟨#[]⟩, .iface 33 (.int .i64 n)]
theorem fnew_n (n : Int) (hn : n = 6 ∨ n = 60) (w : World) : Calls Tryz.prog 31 #[.int .i64 n] w fun e w' => e = .returned (.iface 33 (.int .i64 n)) ∧ w' = w := by
  rcases hn with rfl | rfl
  · exact fnew_l w
  · go_enter Tryz.func31, Tryz.ntmps31
    go_wp2
    go_ret
    exact ⟨rfl, rfl⟩
set_option maxHeartbeats 4000000 in
theorem print_l (p : PtP) (ta fa : Option Addr) (tc fc : Nat) (w : World) (hp : PtIn w ta fa fc p) (hS : PtS p) (hg : LT w) : Calls Tryz.prog 8 #[ptV p ta tc fa fc] w fun e w' => e = .returned (prV (prL p)) ∧ Below w.heap.size w w' := by
  obtain ⟨W1, hW1⟩ : ∃ W1, w.alloc (.cells #[.string p.m, .slice ta p.t.length tc, .slice fa p.f.length fc, .int .i64 p.tm] 32) = W1 := ⟨_, rfl⟩
  have B1 : Below w.heap.size w W1 := by rw [← hW1]; exact (Below.refl _ w).alloc (Nat.le_refl _) _
  have M1 : W1.heap[w.heap.size]? = some (.cells #[.string p.m, .slice ta p.t.length tc, .slice fa p.f.length fc, .int .i64 p.tm] 32) := by rw [← hW1]; exact World.alloc_heap_new w _
  have cel : Hid (∀ W2 : World, Below W1.heap.size W1 W2 → (W2.cell? ⟨w.heap.size, 0, none⟩ = some (.string p.m) ∧ W2.cell? ⟨w.heap.size, 1, none⟩ = some (.slice ta p.t.length tc) ∧ W2.cell? ⟨w.heap.size, 2, none⟩ = some (.slice fa p.f.length fc) ∧ W2.cell? ⟨w.heap.size, 3, none⟩ = some (.int .i64 p.tm)) ∧ Below w.heap.size w W2) := fun W2 b => by
    have e := (b.block _ (Array.getElem?_eq_some_iff.1 M1).1).trans M1
    exact ⟨⟨by rw [Lib.cell_of_heap e]; rfl, by rw [Lib.cell_of_heap e]; rfl, by rw [Lib.cell_of_heap e]; rfl, by rw [Lib.cell_of_heap e]; rfl⟩, B1.trans (b.mono B1.size)⟩
  have cP : Hid (Calls Tryz.prog 30 #[.agg #[.string p.m, .slice ta p.t.length tc, .slice fa p.f.length fc, .int .i64 p.tm]] W1 fun e w' => e = .returned (.bool (plainL p)) ∧ Below W1.heap.size W1 w') := plain_any p ta fa tc fc W1 (hp.below B1)
  have cW : Hid (∀ W2, Below W1.heap.size W1 W2 → Calls Tryz.prog 32 #[.agg #[.string p.m, .slice ta p.t.length tc, .slice fa p.f.length fc, .int .i64 p.tm]] W2 fun e w' => e = .returned (.string ⟨(ptW p).toArray⟩) ∧ Below W1.heap.size W1 w') := fun W2 b => (write_any p ta fa tc fc W2 (hp.below (cel.out W2 b).2) hS (hg.on (cel.out W2 b).2)).mono fun e w' q => ⟨q.1, b.trans (q.2.mono b.size)⟩
  have hWH : Hid (w.alloc (.cells #[.string p.m, .slice ta p.t.length tc, .slice fa p.f.length fc, .int .i64 p.tm] 32) = W1) := hW1
  have c0 := (cel.out W1 (Below.refl _ _)).1
  have hfin : Hid (∀ W2, Below W1.heap.size W1 W2 → Below w.heap.size w W2) := fun W2 b => (cel.out W2 b).2
  have eP : Hid (prL p = if plainL p then (if 8192 < (ptW p).length then .error 6 else .ok (ptW p)) else .error 60) := rfl
  obtain ⟨R, hR⟩ : ∃ R, prL p = R := ⟨_, rfl⟩
  rw [hR] at eP ⊢
  obtain ⟨T, hT⟩ : ∃ T, ptW p = T := ⟨_, rfl⟩
  rw [hT] at cW eP
  obtain ⟨b, hb⟩ : ∃ b, plainL p = b := ⟨_, rfl⟩
  rw [hb] at cP eP
  obtain ⟨x0, x1, x2, x3⟩ := c0
  obtain ⟨PST, hPST⟩ : ∃ PST : Ending → World → Prop, (fun e w' => e = .returned (prV R) ∧ Below w.heap.size w w') = PST := ⟨_, rfl⟩
  have PE : Hid (∀ n w1, R = .error n → Below w.heap.size w w1 → PST (.returned (.tuple #[.string ⟨#[]⟩, .iface 33 (.int .i64 n)])) w1) := fun n w1 e b => by rw [← hPST, e]; exact ⟨rfl, b⟩
  have PO : Hid (∀ t w1, R = .ok t → Below w.heap.size w w1 → PST (.returned (.tuple #[.string ⟨t.toArray⟩, .nilIface])) w1) := fun n w1 e b => by rw [← hPST, e]; exact ⟨rfl, b⟩
  rw [hPST]
  clear hR hT hb hW1 M1 B1 hp hS hg hPST
  unfold ptV
  generalize p.t.length = nt at *
  generalize p.f.length = nf at *
  generalize p.m = pm at *
  generalize p.tm = pt at *
  cases b with
  | false =>
    have e : R = .error 60 := eP.out
    have FH : Hid (∀ w1, Below w.heap.size w w1 → PST (.returned (.tuple #[.string ⟨#[]⟩, .iface 33 (.int .i64 60)])) w1) := fun w1 b => PE.out 60 w1 e b
    clear e eP PE PO
    go_enter Tryz.func8, Tryz.ntmps8
    go_wp2_with fail
    rw [hWH.out]
    refine Calls.mono cP.out ?_
    rintro e w1 ⟨rfl, B2⟩
    go_wp2_with fail
    refine Calls.mono (fnew_n 60 (Or.inr rfl) w1) ?_
    rintro e w2 ⟨rfl, hw⟩
    subst hw
    go_wp2_with fail
    simp [bodyPost, results, Tryz.results8, go_sem]
    exact FH.out _ (hfin.out _ B2)
  | true =>
    go_enter Tryz.func8, Tryz.ntmps8
    go_wp2_with fail
    rw [hWH.out]
    refine Calls.mono cP.out ?_
    rintro e w1 ⟨rfl, B2⟩
    obtain ⟨⟨y0, y1, y2, y3⟩, _⟩ := cel.out _ B2
    go_wp2_with fail
    refine Calls.mono (cW.out _ B2) ?_
    rintro e w2 ⟨rfl, B3⟩
    have hTz : (⟨T.toArray⟩ : ByteArray).size = T.length := rfl
    by_cases h8 : 8192 < T.length
    · have e : R = .error 6 := by rw [eP.out, if_pos trivial, if_pos h8]
      have FH : Hid (∀ w1, Below w.heap.size w w1 → PST (.returned (.tuple #[.string ⟨#[]⟩, .iface 33 (.int .i64 6)])) w1) := fun w1 b => PE.out 6 w1 e b
      clear e eP PE PO
      have h8I : (8192 : Int) < ((⟨T.toArray⟩ : ByteArray).size : Int) := by omega
      have h8J : (8192 : Int) < (T.length : Int) := by omega
      clear hTz
      go_wp2_with fail
      refine Calls.mono (fnew_n 6 (Or.inl rfl) w2) ?_
      rintro e w3 ⟨rfl, hw⟩
      subst hw
      go_wp2_with fail
      simp [bodyPost, results, Tryz.results8, go_sem]
      exact FH.out _ (hfin.out _ B3)
    · have e : R = .ok T := by rw [eP.out, if_pos trivial, if_neg h8]
      have FH : Hid (∀ w1, Below w.heap.size w w1 → PST (.returned (.tuple #[.string ⟨T.toArray⟩, .nilIface])) w1) := fun w1 b => PO.out T w1 e b
      clear e eP PE PO
      have h8I : ¬ (8192 : Int) < ((⟨T.toArray⟩ : ByteArray).size : Int) := by omega
      have h8J : ¬ (8192 : Int) < (T.length : Int) := by omega
      clear hTz
      go_wp2_with fail
      simp [bodyPost, results, Tryz.results8, go_sem]
      exact FH.out _ (hfin.out _ B3)
end Go.Proofs.YtbojljmacheccaaGreatDoor.Ln

namespace Go.Proofs.YtbojljmacheccaaGreatDoor.Ln
open Go.RowKit Go.Shelf
attribute [local go_sem] Oper.semAt_some
set_option linter.unusedVariables false
set_option linter.unusedSimpArgs false
set_option maxRecDepth 100000
/-! ### points held side by side: nothing is made and nothing written. -/
theorem belowQ (w : World) (q : Nat) : Below w.heap.size w (w.drewN q) := bdrewN (Below.refl _ w) q
end Go.Proofs.YtbojljmacheccaaGreatDoor.Ln
