
import Derived.Test.YtepgcgphnjlcoaaDoorBzA
import Derived.Test.YtepgcgphnjlcoaaDoorBkEhq
import Derived.Laws.IdiomCopy
namespace Go.Proofs.YtepgcgphnjlcoaaDoor.Bk
open Go.RowKit
set_option linter.unusedVariables false
set_option linter.unusedSimpArgs false
set_option maxRecDepth 100000
set_option maxHeartbeats 4000000 in
theorem take_any' {N C m : Nat} {V : Nat → Value} {hv : Value} {G : Nat → List Value} {w : World} {B : Nat} {v : Value} {l : List Value} (h0 : BK N C m V hv G w) (o0 : OE w B v l) (hB : ∀ k, v.ownBlock = some k → C ≤ k ∧ hv.ownBlock ≠ some k ∧ ∀ j, j < m → (V j).ownBlock ≠ some k) (hm : m ≤ 4194304) :
    Calls Tryd.prog 5 #[.pointer (some ⟨N, 0, none⟩), v] w fun e w' => e = .returned undef ∧ ∃ hv', BK N C (m + 1) (fun j => if j = m then v else V j) hv' (fun j => if j = m then l else G j) w' ∧ Below N w w' ∧ FRB N w hv hv' w' := by
  obtain ⟨hv', w', hr, cF', z12', bk, bb, fb⟩ := h0.take o0 hB hm
  have cF := h0.st.cF
  obtain ⟨ah, ch, e1, _⟩ := h0.st.hr.form
  obtain ⟨av, cv, e2, _⟩ := o0.formO
  have hrH : Hid (∀ W, W = w.alloc (.cells #[v] 23) → (Builtin.append_ #[30, 30] 30 #[hv, .slice (some ⟨w.heap.size, 0, none⟩) 1 1]).run Tryd.prog W = .ok hv' w') := fun W e => by subst e; exact hr
  obtain ⟨ah2, ch2, e3, _⟩ := bk.st.hr.form
  have fin : Hid (∃ hv', BK N C (m + 1) (fun j => if j = m then v else V j) hv' (fun j => if j = m then l else G j) (w'.setCell ⟨N, 0, none⟩ (.slice ah2 (m + 1) ch2)) ∧ Below N w (w'.setCell ⟨N, 0, none⟩ (.slice ah2 (m + 1) ch2)) ∧ FRB N w hv hv' (w'.setCell ⟨N, 0, none⟩ (.slice ah2 (m + 1) ch2))) := ⟨hv', by rw [← e3]; exact bk, by rw [← e3]; exact bb, by rw [← e3]; exact fb⟩
  subst e1 e3
  generalize l.length = nl at *
  subst e2
  clear h0 o0 hB hr bk bb fb
  go_enter Tryd.func5, Tryd.ntmps5
  go_wp2_with (at_builtin; refine wpList_append_runB (by rfl) _ _ _ (by rfl) _ _ _ _ (by rfl) (by rfl) (hrH.out _ rfl) ?_)
  simp [bodyPost, results, Tryd.results5, go_sem]
  obtain ⟨x, f1, f2⟩ := fin.out
  exact ⟨rfl, x, f1, f2⟩
/-- behind Alone: all but the book and its rows is as it was. -/
structure AF (N m : Nat) (V : Nat → Value) (w w' : World) : Prop where
  size : w.heap.size ≤ w'.heap.size
  keep : ∀ k, k < w.heap.size → k ≠ N → (∀ i, i < m → (V i).ownBlock ≠ some k) → w'.heap[k]? = w.heap[k]?
  same : w'.os = w.os ∧ w'.tape = w.tape ∧ w'.output = w.output
theorem BF.af {N m : Nat} {V : Nat → Value} {w w1 w2 : World} (h : BF V m w w1) (g : w1.grownBy w2 (some N)) : AF N m V w w2 :=
  ⟨Nat.le_trans h.size g.size, fun k hk hne q => by
    rw [g.block k (Nat.lt_of_lt_of_le hk h.size) (fun e => hne (by injection e))]
    exact h.keep k hk q, g.os.trans h.same.1, g.tape.trans h.same.2.1, g.output.trans h.same.2.2⟩
theorem setCells_grown (N : Nat) (W : World) : ∀ (vs : List Value) (o : Nat), W.grownBy (W.setCells N o vs) (some N)
  | [], o => ⟨rfl, rfl, rfl, Nat.le_refl _, fun _ _ _ => rfl⟩
  | v :: r, o => by
    have h := setCells_grown N (W.setCell ⟨N, o, none⟩ v) r (o + 1)
    have g : W.grownBy (W.setCell ⟨N, o, none⟩ v) (some N) := ⟨rfl, rfl, rfl, by simp, fun k hk q => Below.heap_setCell _ _ _ _ (fun e => q (by rw [e]))⟩
    exact ⟨h.os.trans g.os, h.tape.trans g.tape, h.output.trans g.output, Nat.le_trans g.size h.size, fun k hk q => by rw [show (W.setCells N o (v :: r)) = (W.setCell ⟨N, o, none⟩ v).setCells N (o + 1) r from rfl, h.block k (Nat.lt_of_lt_of_le hk g.size) q]; exact g.block k hk q⟩
theorem wpList_store_run {P : Program} {ops : Array Oper} {rest : List Oper} {o : Oper} {a : Act} {Q : Exit → Act → World → Prop} {w : World} (hgd : o.guard = none) (p x : Operand) (t : TypeId)
    (ho : o.op = .store t p x) (v y : Value) (w' : World) (hs : a.eval p = v) (hx : a.eval x = y) (hr : (Instr.storeAt t v y).run P w = .ok () w')
    (h : wpList P ops Q rest (a.put o.dst undef) w') : wpList P ops Q (o :: rest) a w := by
  refine wpList_plain hgd fun K hK => ?_
  unfold Oper.wp execOp
  simp only [ho, Sem.run_bind, Sem.run_pure, Result.andThen_ok, hs, hx, hr]
  exact hK _ _ h
theorem store_book (N : Nat) (W : World) (hc : ∀ j, j < 28 → (W.cell? ⟨N, j, none⟩).isSome = true) (hz : ∀ j, W.frozen? ⟨N, j, none⟩ = false) : (Instr.storeAt 59 (.pointer (some ⟨N, 0, none⟩)) (.agg (Array.replicate 28 (.slice none 0 0)))).run Tryd.prog W = .ok () (W.setCells N 0 (List.replicate 28 (.slice none 0 0))) := by
  have h := run_storeCells_cells (P := Tryd.prog) N 0 (List.replicate 28 (.slice none 0 0)) 0 W (fun j hj => by rw [List.length_replicate] at hj; first | exact hc j hj | (simpa using hc j hj)) (fun j hj => hz _) (fun v hv => by rw [List.eq_of_mem_replicate hv]; rfl)
  have e : (Value.agg (Array.replicate 28 (Value.slice none 0 0))).cells.toList = List.replicate 28 (.slice none 0 0) := rfl
  have s : (Value.agg (Array.replicate 28 (Value.slice none 0 0))).cells.size = 28 := rfl
  unfold Instr.storeAt storeVar
  simp only [Sem.run_bind, e, s, Tryd.sizeOf59, Result.andThen_ok]
  rw [show (Instr.sureAddr (.pointer (some ⟨N, 0, none⟩))).run Tryd.prog W = .ok ⟨N, 0, none⟩ W from rfl]
  simp only [Result.andThen_ok]
  exact h
set_option maxHeartbeats 32000000 in
theorem alone_any {N C m : Nat} {V : Nat → Value} {hv : Value} {G : Nat → List Value} {w : World} (h : BK N C m V hv G w) (hm : m ≤ 4194304) (hn : ∀ j, j < m → (G j).length ≤ 268435456) :
    Calls Tryd.prog 12 #[.pointer (some ⟨N, 0, none⟩)] w fun e w' => e = .returned (.bool true) ∧ AF N m V w w' := by
  have KN : ∀ W, BF V m w W → W.heap[N]? = w.heap[N]? := fun W hW => hW.keep N h.sp.nw (fun i hi e => by have := (h.sp.vb i hi N e).1; have := h.sp.nC; omega)
  have CN : ∀ W, BF V m w W → ∀ j, W.cell? ⟨N, j, none⟩ = w.cell? ⟨N, j, none⟩ := fun W hW j => World.cell?_of_block (w := w) (a := ⟨N, j, none⟩) (KN W hW)
  have ZN : ∀ W, BF V m w W → ∀ j, W.frozen? ⟨N, j, none⟩ = false := fun W hW j => by rw [World.frozen?_of_block (w := w) (a := ⟨N, j, none⟩) (KN W hW)]; exact h.fz j
  have cF := h.st.cF
  have K0 : Hid (Calls Tryd.prog 35 #[.pointer (some ⟨N, 0, none⟩)] w fun e w' => e = .returned (.bool true) ∧ BF V m w w') := aloneBytes_any h.sp h.st hm hn
  have K1 : Hid (∀ W, BF V m w W → Calls Tryd.prog 36 #[.pointer (some ⟨N, 0, none⟩)] W fun e w' => e = .returned (.bool true) ∧ BF V m w w') := fun W hW => (aloneTexts_none N W (by rw [CN W hW]; exact h.nil 1 (by omega) (by omega))).mono fun e w' hh => ⟨hh.1, hW.below hh.2⟩
  have K2 : Hid (∀ W, BF V m w W → Calls Tryd.prog 37 #[.pointer (some ⟨N, 0, none⟩)] W fun e w' => e = .returned (.bool true) ∧ BF V m w w') := fun W hW => (aloneInts_none N W (by rw [CN W hW]; exact h.nil 2 (by omega) (by omega))).mono fun e w' hh => ⟨hh.1, hW.below hh.2⟩
  have K3 : Hid (∀ W, BF V m w W → Calls Tryd.prog 38 #[.pointer (some ⟨N, 0, none⟩)] W fun e w' => e = .returned (.bool true) ∧ BF V m w w') := fun W hW => (aloneInt64s_none N W (by rw [CN W hW]; exact h.nil 3 (by omega) (by omega))).mono fun e w' hh => ⟨hh.1, hW.below hh.2⟩
  have K4 : Hid (∀ W, BF V m w W → Calls Tryd.prog 39 #[.pointer (some ⟨N, 0, none⟩)] W fun e w' => e = .returned (.bool true) ∧ BF V m w w') := fun W hW => (aloneUint64s_none N W (by rw [CN W hW]; exact h.nil 4 (by omega) (by omega))).mono fun e w' hh => ⟨hh.1, hW.below hh.2⟩
  have K5 : Hid (∀ W, BF V m w W → Calls Tryd.prog 40 #[.pointer (some ⟨N, 0, none⟩)] W fun e w' => e = .returned (.bool true) ∧ BF V m w w') := fun W hW => (aloneTags_none N W (by rw [CN W hW]; exact h.nil 5 (by omega) (by omega))).mono fun e w' hh => ⟨hh.1, hW.below hh.2⟩
  have K6 : Hid (∀ W, BF V m w W → Calls Tryd.prog 41 #[.pointer (some ⟨N, 0, none⟩)] W fun e w' => e = .returned (.bool true) ∧ BF V m w w') := fun W hW => (aloneFields_none N W (by rw [CN W hW]; exact h.nil 6 (by omega) (by omega))).mono fun e w' hh => ⟨hh.1, hW.below hh.2⟩
  have K7 : Hid (∀ W, BF V m w W → Calls Tryd.prog 42 #[.pointer (some ⟨N, 0, none⟩)] W fun e w' => e = .returned (.bool true) ∧ BF V m w w') := fun W hW => (aloneSamples_none N W (by rw [CN W hW]; exact h.nil 7 (by omega) (by omega))).mono fun e w' hh => ⟨hh.1, hW.below hh.2⟩
  have K8 : Hid (∀ W, BF V m w W → Calls Tryd.prog 43 #[.pointer (some ⟨N, 0, none⟩)] W fun e w' => e = .returned (.bool true) ∧ BF V m w w') := fun W hW => (aloneNodes_none N W (by rw [CN W hW]; exact h.nil 8 (by omega) (by omega))).mono fun e w' hh => ⟨hh.1, hW.below hh.2⟩
  have K9 : Hid (∀ W, BF V m w W → Calls Tryd.prog 44 #[.pointer (some ⟨N, 0, none⟩)] W fun e w' => e = .returned (.bool true) ∧ BF V m w w') := fun W hW => (aloneLabels_none N W (by rw [CN W hW]; exact h.nil 9 (by omega) (by omega))).mono fun e w' hh => ⟨hh.1, hW.below hh.2⟩
  have K10 : Hid (∀ W, BF V m w W → Calls Tryd.prog 45 #[.pointer (some ⟨N, 0, none⟩)] W fun e w' => e = .returned (.bool true) ∧ BF V m w w') := fun W hW => (aloneAccs_none N W (by rw [CN W hW]; exact h.nil 10 (by omega) (by omega))).mono fun e w' hh => ⟨hh.1, hW.below hh.2⟩
  have K11 : Hid (∀ W, BF V m w W → Calls Tryd.prog 46 #[.pointer (some ⟨N, 0, none⟩)] W fun e w' => e = .returned (.bool true) ∧ BF V m w w') := fun W hW => (aloneInses_none N W (by rw [CN W hW]; exact h.nil 11 (by omega) (by omega))).mono fun e w' hh => ⟨hh.1, hW.below hh.2⟩
  have K12 : Hid (∀ W, BF V m w W → Calls Tryd.prog 47 #[.pointer (some ⟨N, 0, none⟩)] W fun e w' => e = .returned (.bool true) ∧ BF V m w w') := fun W hW => (aloneEntries_none N W (by rw [CN W hW]; exact h.nil 12 (by omega) (by omega))).mono fun e w' hh => ⟨hh.1, hW.below hh.2⟩
  have K13 : Hid (∀ W, BF V m w W → Calls Tryd.prog 48 #[.pointer (some ⟨N, 0, none⟩)] W fun e w' => e = .returned (.bool true) ∧ BF V m w w') := fun W hW => (aloneTold_none N W (by rw [CN W hW]; exact h.nil 13 (by omega) (by omega))).mono fun e w' hh => ⟨hh.1, hW.below hh.2⟩
  have K14 : Hid (∀ W, BF V m w W → Calls Tryd.prog 49 #[.pointer (some ⟨N, 0, none⟩)] W fun e w' => e = .returned (.bool true) ∧ BF V m w w') := fun W hW => (aloneTokens_none N W (by rw [CN W hW]; exact h.nil 14 (by omega) (by omega))).mono fun e w' hh => ⟨hh.1, hW.below hh.2⟩
  have K15 : Hid (∀ W, BF V m w W → Calls Tryd.prog 50 #[.pointer (some ⟨N, 0, none⟩)] W fun e w' => e = .returned (.bool true) ∧ BF V m w w') := fun W hW => (aloneSlots_none N W (by rw [CN W hW]; exact h.nil 15 (by omega) (by omega))).mono fun e w' hh => ⟨hh.1, hW.below hh.2⟩
  have K16 : Hid (∀ W, BF V m w W → Calls Tryd.prog 51 #[.pointer (some ⟨N, 0, none⟩)] W fun e w' => e = .returned (.bool true) ∧ BF V m w w') := fun W hW => (aloneFates_none N W (by rw [CN W hW]; exact h.nil 16 (by omega) (by omega))).mono fun e w' hh => ⟨hh.1, hW.below hh.2⟩
  have K17 : Hid (∀ W, BF V m w W → Calls Tryd.prog 52 #[.pointer (some ⟨N, 0, none⟩)] W fun e w' => e = .returned (.bool true) ∧ BF V m w w') := fun W hW => (alonePoints_none N W (by rw [CN W hW]; exact h.nil 17 (by omega) (by omega))).mono fun e w' hh => ⟨hh.1, hW.below hh.2⟩
  have K18 : Hid (∀ W, BF V m w W → Calls Tryd.prog 53 #[.pointer (some ⟨N, 0, none⟩)] W fun e w' => e = .returned (.bool true) ∧ BF V m w w') := fun W hW => (aloneWrites_none N W (by rw [CN W hW]; exact h.nil 18 (by omega) (by omega))).mono fun e w' hh => ⟨hh.1, hW.below hh.2⟩
  have K19 : Hid (∀ W, BF V m w W → Calls Tryd.prog 54 #[.pointer (some ⟨N, 0, none⟩)] W fun e w' => e = .returned (.bool true) ∧ BF V m w w') := fun W hW => (aloneDeltas_none N W (by rw [CN W hW]; exact h.nil 19 (by omega) (by omega))).mono fun e w' hh => ⟨hh.1, hW.below hh.2⟩
  have K20 : Hid (∀ W, BF V m w W → Calls Tryd.prog 55 #[.pointer (some ⟨N, 0, none⟩)] W fun e w' => e = .returned (.bool true) ∧ BF V m w w') := fun W hW => (aloneSeriesList_none N W (by rw [CN W hW]; exact h.nil 20 (by omega) (by omega))).mono fun e w' hh => ⟨hh.1, hW.below hh.2⟩
  have K21 : Hid (∀ W, BF V m w W → Calls Tryd.prog 56 #[.pointer (some ⟨N, 0, none⟩)] W fun e w' => e = .returned (.bool true) ∧ BF V m w w') := fun W hW => (aloneItems_none N W (by rw [CN W hW]; exact h.nil 21 (by omega) (by omega))).mono fun e w' hh => ⟨hh.1, hW.below hh.2⟩
  have K22 : Hid (∀ W, BF V m w W → Calls Tryd.prog 57 #[.pointer (some ⟨N, 0, none⟩)] W fun e w' => e = .returned (.bool true) ∧ BF V m w w') := fun W hW => (aloneTables_none N W (by rw [CN W hW]; exact h.nil 22 (by omega) (by omega))).mono fun e w' hh => ⟨hh.1, hW.below hh.2⟩
  have K23 : Hid (∀ W, BF V m w W → Calls Tryd.prog 58 #[.pointer (some ⟨N, 0, none⟩)] W fun e w' => e = .returned (.bool true) ∧ BF V m w w') := fun W hW => (aloneOuts_none N W (by rw [CN W hW]; exact h.nil 23 (by omega) (by omega))).mono fun e w' hh => ⟨hh.1, hW.below hh.2⟩
  have K24 : Hid (∀ W, BF V m w W → Calls Tryd.prog 59 #[.pointer (some ⟨N, 0, none⟩)] W fun e w' => e = .returned (.bool true) ∧ BF V m w w') := fun W hW => (aloneTextLists_none N W (by rw [CN W hW]; exact h.nil 24 (by omega) (by omega))).mono fun e w' hh => ⟨hh.1, hW.below hh.2⟩
  have K25 : Hid (∀ W, BF V m w W → Calls Tryd.prog 60 #[.pointer (some ⟨N, 0, none⟩)] W fun e w' => e = .returned (.bool true) ∧ BF V m w w') := fun W hW => (aloneCells_none N W (by rw [CN W hW]; exact h.nil 25 (by omega) (by omega))).mono fun e w' hh => ⟨hh.1, hW.below hh.2⟩
  have K26 : Hid (∀ W, BF V m w W → Calls Tryd.prog 61 #[.pointer (some ⟨N, 0, none⟩)] W fun e w' => e = .returned (.bool true) ∧ BF V m w w') := fun W hW => (aloneRows_none N W (by rw [CN W hW]; exact h.nil 26 (by omega) (by omega))).mono fun e w' hh => ⟨hh.1, hW.below hh.2⟩
  have K27 : Hid (∀ W, BF V m w W → Calls Tryd.prog 62 #[.pointer (some ⟨N, 0, none⟩)] W fun e w' => e = .returned (.bool true) ∧ BF V m w w') := fun W hW => (aloneImages_none N W (by rw [CN W hW]; exact h.nil 27 (by omega) (by omega))).mono fun e w' hh => ⟨hh.1, hW.below hh.2⟩
  have FIN : Hid (∀ W, BF V m w W → (∀ j, j < 28 → (W.cell? ⟨N, j, none⟩).isSome = true) ∧ (∀ j, W.frozen? ⟨N, j, none⟩ = false) ∧ AF N m V w (W.setCells N 0 (List.replicate 28 (.slice none 0 0)))) := fun W hW => ⟨fun j hj => by
    rw [CN W hW]
    by_cases c : j = 0
    · rw [c, cF]; rfl
    · rw [h.nil j hj c]; rfl, ZN W hW, hW.af (setCells_grown N W _ 0)⟩
  clear KN CN ZN h hn cF
  go_enter Tryd.func12, Tryd.ntmps12
  go_wp2_with fail
  refine Calls.mono K0.out ?_
  rintro e w0 ⟨rfl, b0⟩
  have B1 : Hid _ := b0
  clear b0 K0
  go_wp2_with fail
  refine Calls.mono (K1.out _ B1.out) ?_
  rintro e w1 ⟨rfl, b1⟩
  have B2 : Hid _ := b1
  clear b1 K1 B1
  go_wp2_with fail
  refine Calls.mono (K2.out _ B2.out) ?_
  rintro e w2 ⟨rfl, b2⟩
  have B3 : Hid _ := b2
  clear b2 K2 B2
  go_wp2_with fail
  refine Calls.mono (K3.out _ B3.out) ?_
  rintro e w3 ⟨rfl, b3⟩
  have B4 : Hid _ := b3
  clear b3 K3 B3
  go_wp2_with fail
  refine Calls.mono (K4.out _ B4.out) ?_
  rintro e w4 ⟨rfl, b4⟩
  have B5 : Hid _ := b4
  clear b4 K4 B4
  go_wp2_with fail
  refine Calls.mono (K5.out _ B5.out) ?_
  rintro e w5 ⟨rfl, b5⟩
  have B6 : Hid _ := b5
  clear b5 K5 B5
  go_wp2_with fail
  refine Calls.mono (K6.out _ B6.out) ?_
  rintro e w6 ⟨rfl, b6⟩
  have B7 : Hid _ := b6
  clear b6 K6 B6
  go_wp2_with fail
  refine Calls.mono (K7.out _ B7.out) ?_
  rintro e w7 ⟨rfl, b7⟩
  have B8 : Hid _ := b7
  clear b7 K7 B7
  go_wp2_with fail
  refine Calls.mono (K8.out _ B8.out) ?_
  rintro e w8 ⟨rfl, b8⟩
  have B9 : Hid _ := b8
  clear b8 K8 B8
  go_wp2_with fail
  refine Calls.mono (K9.out _ B9.out) ?_
  rintro e w9 ⟨rfl, b9⟩
  have B10 : Hid _ := b9
  clear b9 K9 B9
  go_wp2_with fail
  refine Calls.mono (K10.out _ B10.out) ?_
  rintro e w10 ⟨rfl, b10⟩
  have B11 : Hid _ := b10
  clear b10 K10 B10
  go_wp2_with fail
  refine Calls.mono (K11.out _ B11.out) ?_
  rintro e w11 ⟨rfl, b11⟩
  have B12 : Hid _ := b11
  clear b11 K11 B11
  go_wp2_with fail
  refine Calls.mono (K12.out _ B12.out) ?_
  rintro e w12 ⟨rfl, b12⟩
  have B13 : Hid _ := b12
  clear b12 K12 B12
  go_wp2_with fail
  refine Calls.mono (K13.out _ B13.out) ?_
  rintro e w13 ⟨rfl, b13⟩
  have B14 : Hid _ := b13
  clear b13 K13 B13
  go_wp2_with fail
  refine Calls.mono (K14.out _ B14.out) ?_
  rintro e w14 ⟨rfl, b14⟩
  have B15 : Hid _ := b14
  clear b14 K14 B14
  go_wp2_with fail
  refine Calls.mono (K15.out _ B15.out) ?_
  rintro e w15 ⟨rfl, b15⟩
  have B16 : Hid _ := b15
  clear b15 K15 B15
  go_wp2_with fail
  refine Calls.mono (K16.out _ B16.out) ?_
  rintro e w16 ⟨rfl, b16⟩
  have B17 : Hid _ := b16
  clear b16 K16 B16
  go_wp2_with fail
  refine Calls.mono (K17.out _ B17.out) ?_
  rintro e w17 ⟨rfl, b17⟩
  have B18 : Hid _ := b17
  clear b17 K17 B17
  go_wp2_with fail
  refine Calls.mono (K18.out _ B18.out) ?_
  rintro e w18 ⟨rfl, b18⟩
  have B19 : Hid _ := b18
  clear b18 K18 B18
  go_wp2_with fail
  refine Calls.mono (K19.out _ B19.out) ?_
  rintro e w19 ⟨rfl, b19⟩
  have B20 : Hid _ := b19
  clear b19 K19 B19
  go_wp2_with fail
  refine Calls.mono (K20.out _ B20.out) ?_
  rintro e w20 ⟨rfl, b20⟩
  have B21 : Hid _ := b20
  clear b20 K20 B20
  go_wp2_with fail
  refine Calls.mono (K21.out _ B21.out) ?_
  rintro e w21 ⟨rfl, b21⟩
  have B22 : Hid _ := b21
  clear b21 K21 B21
  go_wp2_with fail
  refine Calls.mono (K22.out _ B22.out) ?_
  rintro e w22 ⟨rfl, b22⟩
  have B23 : Hid _ := b22
  clear b22 K22 B22
  go_wp2_with fail
  refine Calls.mono (K23.out _ B23.out) ?_
  rintro e w23 ⟨rfl, b23⟩
  have B24 : Hid _ := b23
  clear b23 K23 B23
  go_wp2_with fail
  refine Calls.mono (K24.out _ B24.out) ?_
  rintro e w24 ⟨rfl, b24⟩
  have B25 : Hid _ := b24
  clear b24 K24 B24
  go_wp2_with fail
  refine Calls.mono (K25.out _ B25.out) ?_
  rintro e w25 ⟨rfl, b25⟩
  have B26 : Hid _ := b25
  clear b25 K25 B25
  go_wp2_with fail
  refine Calls.mono (K26.out _ B26.out) ?_
  rintro e w26 ⟨rfl, b26⟩
  have B27 : Hid _ := b26
  clear b26 K26 B26
  go_wp2_with fail
  refine Calls.mono (K27.out _ B27.out) ?_
  rintro e w27 ⟨rfl, b27⟩
  have B28 : Hid _ := b27
  clear b27 K27 B27
  obtain ⟨dd, zz, ff⟩ := FIN.out w27 B28.out
  have fin : Hid _ := ff
  have hst : Hid _ := store_book N w27 dd zz
  clear dd zz ff FIN B28
  go_wp2_with (refine wpList_store_run (by rfl) (.tmp 116) (.tmp 115) 59 (by rfl) _ _ _ (by rfl) (by rfl) hst.out ?_)
  go_ret
  exact ⟨rfl, fin.out⟩
end Go.Proofs.YtepgcgphnjlcoaaDoor.Bk
