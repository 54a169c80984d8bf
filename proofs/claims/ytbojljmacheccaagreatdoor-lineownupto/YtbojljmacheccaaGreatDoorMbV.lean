
import Derived.Test.YtbojljmacheccaaGreatDoorMbL
namespace Go.Proofs.YtbojljmacheccaaGreatDoor.Mb
open Go.RowKit
set_option linter.unusedVariables false
set_option linter.unusedSimpArgs false
set_option maxRecDepth 100000
/-- behind some Takes: Q is what was taken, k how many lists at most of one kind. -/
structure TS (N C : Nat) (M : Nat → Nat) (V : Nat → Nat → Value) (H : Nat → Value) (w : World) (Q : Nat → Prop) (k : Nat) (wr : World) (M' : Nat → Nat) (V' : Nat → Nat → Value) (H' : Nat → Value) : Prop where
  mb : MB N C M' V' H' wr
  mm : ∀ f, M' f ≤ M f + k
  ow : ∀ f q, own (H' f) (V' f) (M' f) q → own (H f) (V f) (M f) q ∨ Q q ∨ w.heap.size ≤ q
  hd : ∀ f q, (H' f).ownBlock = some q → (H f).ownBlock = some q ∨ w.heap.size ≤ q
  sz : w.heap.size ≤ wr.heap.size
  kp : ∀ q, q < w.heap.size → q ≠ N → (∀ f, (H f).ownBlock ≠ some q) → wr.heap[q]? = w.heap[q]?
  sm : wr.os = w.os ∧ wr.tape = w.tape ∧ wr.output = w.output
theorem TS.refl {N C : Nat} {M : Nat → Nat} {V : Nat → Nat → Value} {H : Nat → Value} {w : World} (h : MB N C M V H w) : TS N C M V H w (fun _ => False) 0 w M V H :=
  ⟨h, fun _ => Nat.le_refl _, fun _ _ e => Or.inl e, fun _ _ e => Or.inl e, Nat.le_refl _, fun _ _ _ _ => rfl, rfl, rfl, rfl⟩
theorem TS.step {N C k : Nat} {M M' : Nat → Nat} {V V' : Nat → Nat → Value} {H H' : Nat → Value} {Q Q' : Nat → Prop} {x h' : Value} {w wr w' : World} (F : Nat) (h : TS N C M V H w Q k wr M' V' H') (mb' : MB N C (upd F (M' F + 1) M') (upd F (snoc (M' F) x (V' F)) V') (upd F h' H') w') (fr : FR N wr (H' F) h' w') (hQ : ∀ q, Q q ∨ x.ownBlock = some q → Q' q) :
    TS N C M V H w Q' (k + 1) w' (upd F (M' F + 1) M') (upd F (snoc (M' F) x (V' F)) V') (upd F h' H') := by
  refine ⟨mb', fun f => ?_, fun f q e => ?_, fun f q e => ?_, Nat.le_trans h.sz fr.size, fun q hq hN hn => ?_, fr.same.1.trans h.sm.1, fr.same.2.1.trans h.sm.2.1, fr.same.2.2.trans h.sm.2.2⟩
  · by_cases c : f = F
    · subst c; rw [upd_at]; have := h.mm f; omega
    · rw [upd_ne c]; have := h.mm f; omega
  · rcases own_upd rfl fr.own f q e with c | ⟨_, c | c⟩
    · rcases h.ow f q c with d | d | d
      · exact Or.inl d
      · exact Or.inr (Or.inl (hQ q (Or.inl d)))
      · exact Or.inr (Or.inr d)
    · exact Or.inr (Or.inl (hQ q (Or.inr c)))
    · exact Or.inr (Or.inr (Nat.le_trans h.sz c))
  · by_cases c : f = F
    · subst c
      rw [upd_at] at e
      rcases fr.own q e with d | d
      · exact h.hd f q d
      · exact Or.inr (Nat.le_trans h.sz d)
    · rw [upd_ne c] at e; exact h.hd f q e
  · rw [fr.keep q (Nat.lt_of_lt_of_le hq h.sz) hN (fun c => ?_)]
    · exact h.kp q hq hN hn
    · rcases h.hd F q c with d | d
      · exact hn F d
      · omega
theorem TS.move {N C k k' : Nat} {M M' : Nat → Nat} {V V' : Nat → Nat → Value} {H H' : Nat → Value} {Q Q' : Nat → Prop} {w wr : World} (h : TS N C M V H w Q k wr M' V' H') (hk : k ≤ k') (hQ : ∀ q, Q q → Q' q) : TS N C M V H w Q' k' wr M' V' H' :=
  ⟨h.mb, fun f => by have := h.mm f; omega, fun f q e => by
    rcases h.ow f q e with d | d | d
    · exact Or.inl d
    · exact Or.inr (Or.inl (hQ q d))
    · exact Or.inr (Or.inr d), h.hd, h.sz, h.kp, h.sm⟩
theorem TS.take5 {N C B k : Nat} {M M' : Nat → Nat} {V V' : Nat → Nat → Value} {H H' : Nat → Value} {Q Q' : Nat → Prop} {x : Value} {lx : List (Bk5.E2)} {w wr : World} (h : TS N C M V H w Q k wr M' V' H') (hN : N < w.heap.size) (o : Bk5.OE w B x lx) (hl : lx.length ≤ 268435456) (hx : ∀ q, x.ownBlock = some q → C ≤ q ∧ (∀ f, ¬ own (H f) (V f) (M f) q) ∧ ¬ Q q) (hNC : N < C) (hQ : ∀ q, Q q ∨ x.ownBlock = some q → Q' q) (hm : M 5 + k ≤ 4194304) :
    Calls Tryz.prog 48 #[.pointer (some ⟨N, 0, none⟩), x] wr fun e w' => e = .returned undef ∧ ∃ M' V' H', TS N C M V H w Q' (k + 1) w' M' V' H' := by
  have o2 : Bk5.OE wr B x lx := row_kept o (fun q e => h.kp q (o.bound e).2 (by have := (hx q e).1; omega) (fun f c => (hx q e).2.1 f (Or.inl c)))
  refine (h.mb.take5 o2 hl (fun q e => ⟨(hx q e).1, fun f c => ?_⟩) (by have := h.mm 5; omega)).mono fun e w' ⟨e1, h', mb', fr⟩ => ⟨e1, _, _, _, h.step 5 mb' fr hQ⟩
  rcases h.ow f q c with d | d | d
  · exact (hx q e).2.1 f d
  · exact (hx q e).2.2 d
  · have := (o.bound e).2; omega
theorem TS.take6 {N C B k : Nat} {M M' : Nat → Nat} {V V' : Nat → Nat → Value} {H H' : Nat → Value} {Q Q' : Nat → Prop} {x : Value} {lx : List (Bk6.EK)} {w wr : World} (h : TS N C M V H w Q k wr M' V' H') (hN : N < w.heap.size) (o : Bk6.OE w B x lx) (hl : lx.length ≤ 268435456) (hx : ∀ q, x.ownBlock = some q → C ≤ q ∧ (∀ f, ¬ own (H f) (V f) (M f) q) ∧ ¬ Q q) (hNC : N < C) (hQ : ∀ q, Q q ∨ x.ownBlock = some q → Q' q) (hm : M 6 + k ≤ 4194304) :
    Calls Tryz.prog 49 #[.pointer (some ⟨N, 0, none⟩), x] wr fun e w' => e = .returned undef ∧ ∃ M' V' H', TS N C M V H w Q' (k + 1) w' M' V' H' := by
  have o2 : Bk6.OE wr B x lx := row_kept o (fun q e => h.kp q (o.bound e).2 (by have := (hx q e).1; omega) (fun f c => (hx q e).2.1 f (Or.inl c)))
  refine (h.mb.take6 o2 hl (fun q e => ⟨(hx q e).1, fun f c => ?_⟩) (by have := h.mm 6; omega)).mono fun e w' ⟨e1, h', mb', fr⟩ => ⟨e1, _, _, _, h.step 6 mb' fr hQ⟩
  rcases h.ow f q c with d | d | d
  · exact (hx q e).2.1 f d
  · exact (hx q e).2.2 d
  · have := (o.bound e).2; omega
/-- what a row and all that lies in its first k places own. -/
def Q17 (v : Value) (l : List Bk17.EK) (k : Nat) (q : Nat) : Prop := v.ownBlock = some q ∨ ∃ (j : Nat) (x : Bk17.EK), j < k ∧ l[j]? = some x ∧ (x.2.1.ownBlock = some q ∨ x.2.2.1.ownBlock = some q)
set_option maxHeartbeats 4000000 in
theorem MB.take17 {N C B : Nat} {M : Nat → Nat} {V : Nat → Nat → Value} {H : Nat → Value} {w : World} {v : Value} {l : List Bk17.EK} (h : MB N C M V H w) (o : Bk17.OE w B v l) (hl : l.length ≤ 1048576) (o5 : ∀ x ∈ l, ∃ lx, Bk5.OE w B x.2.1 lx ∧ lx.length ≤ 268435456) (o6 : ∀ x ∈ l, ∃ lx, Bk6.OE w B x.2.2.1 lx ∧ lx.length ≤ 268435456)
    (hf : ∀ q, Q17 v l l.length q → C ≤ q ∧ ∀ f, ¬ own (H f) (V f) (M f) q) (hd1 : ∀ (q : Nat), v.ownBlock = some q → ∀ x ∈ l, ¬ (x.2.1.ownBlock = some q ∨ x.2.2.1.ownBlock = some q)) (hd2 : ∀ (i j : Nat) (x y : Bk17.EK) (q : Nat), i < j → l[i]? = some x → l[j]? = some y → (x.2.1.ownBlock = some q ∨ x.2.2.1.ownBlock = some q) → ¬ (y.2.1.ownBlock = some q ∨ y.2.2.1.ownBlock = some q)) (hd3 : ∀ x ∈ l, ∀ q, x.2.1.ownBlock = some q → x.2.2.1.ownBlock ≠ some q) (hm : ∀ f, M f + 2 * l.length + 1 ≤ 4194304) :
    Calls Tryz.prog 16 #[.pointer (some ⟨N, 0, none⟩), v] w fun e w' => e = .returned undef ∧ ∃ M' V' H', TS N C M V H w (Q17 v l l.length) (2 * l.length + 1) w' M' V' H' := by
  have nC := h.nC
  have hfv : ∀ q, v.ownBlock = some q → C ≤ q ∧ ∀ f, ¬ own (H f) (V f) (M f) q := fun q e => hf q (Or.inl e)
  obtain ⟨G, b, hG⟩ := h.b17
  obtain ⟨hv', w', hr, cF', zF', bk, bb, fb⟩ := b.take o (fun q e => ⟨(hfv q e).1, fun c => (hfv q e).2 17 (Or.inl c), fun j hj c => (hfv q e).2 17 (Or.inr ⟨j, hj, c⟩)⟩) (by have := hm 17; omega)
  have cF := b.st.cF
  obtain ⟨ah, ch, e1, _⟩ := b.st.hr.form
  obtain ⟨av, cv, e2, _, ga⟩ := o.formO
  obtain ⟨ah2, ch2, e3, _⟩ := bk.st.hr.form
  have T0 : Hid (∃ M' V' H', TS N C M V H w (Q17 v l 0) (2 * 0 + 1) (w'.setCell ⟨N, 17, none⟩ (.slice ah2 (M 17 + 1) ch2)) M' V' H') := by
    rw [← e3]
    have fr : FR N w (H 17) hv' (w'.setCell ⟨N, 17, none⟩ hv') := ⟨fb.1, fb.2.1, fb.2.2, bb.os, bb.tape, bb.output⟩
    exact ⟨_, _, _, ((TS.refl h).step 17 (h.took17 hG (by omega) hfv bk fr) fr (fun q e => by
      rcases e with e | e
      · cases e
      · exact Or.inl e)).move (by omega) (fun _ e => e)⟩
  have CL : Hid (∀ (Q : Nat → Prop) (k : Nat) (W : World) (M' : Nat → Nat) (V' : Nat → Nat → Value) (H' : Nat → Value), TS N C M V H w Q k W M' V' H' → ∀ (g : Nat), av = some ⟨g, 0, none⟩ → ∀ (i : Nat) (x : Bk17.EK), l[i]? = some x → W.cell? ⟨g, i * 4 + 1, none⟩ = some x.2.1 ∧ W.cell? ⟨g, i * 4 + 2, none⟩ = some x.2.2.1) := fun Q k W M' V' H' t g eg i x hx => by
    have oe : Bk17.OE W B v l := row_kept o (fun q e => t.kp q (o.bound e).2 (by have := (hfv q e).1; omega) (fun f c => (hfv q e).2 f (Or.inl c)))
    have hcs := World.ownsRow.cells oe (g := g) (by rw [e2, eg]; rfl)
    obtain ⟨g0, g1, g2, g3⟩ := Bk17.enc_get l i x hx
    have k1 := hcs _ _ g1
    rw [Bk17.add_lt0, Nat.zero_add] at k1
    have k2 := hcs _ _ g2
    rw [Bk17.add_lt0, Nat.zero_add] at k2
    exact ⟨k1, k2⟩
  have TK0 : Hid (∀ (k : Nat) (W : World) (M' : Nat → Nat) (V' : Nat → Nat → Value) (H' : Nat → Value) (x : Bk17.EK), TS N C M V H w (Q17 v l k) (2 * k + 1) W M' V' H' → l[k]? = some x → Calls Tryz.prog 48 #[.pointer (some ⟨N, 0, none⟩), x.2.1] W fun e W' => e = .returned undef ∧ ∃ M' V' H', TS N C M V H w (fun q => Q17 v l k q ∨ x.2.1.ownBlock = some q) (2 * k + 2) W' M' V' H') := fun k W M' V' H' x t hk => by
    have hkl := (List.getElem?_eq_some_iff.1 hk).1
    obtain ⟨lx, ox, hlx⟩ := o5 x (List.mem_of_getElem? hk)
    refine (t.take5 (Q' := fun q => Q17 v l k q ∨ x.2.1.ownBlock = some q) nC.2.1 ox hlx (fun q e => ⟨(hf q (Or.inr ⟨k, x, hkl, hk, Or.inl e⟩)).1, (hf q (Or.inr ⟨k, x, hkl, hk, Or.inl e⟩)).2, fun c => ?_⟩) nC.1 (fun q c => c) (by have := hm 5; omega)).mono fun e W' ⟨e1, M1, V1, H1, t1⟩ => ⟨e1, M1, V1, H1, t1.move (by omega) (fun _ e => e)⟩
    rcases c with c | ⟨j, y, hj, hy, c⟩
    · exact hd1 q c x (List.mem_of_getElem? hk) (Or.inl e)
    · exact hd2 j k y x q hj hy hk c (Or.inl e)
  have TK1 : Hid (∀ (k : Nat) (W : World) (M' : Nat → Nat) (V' : Nat → Nat → Value) (H' : Nat → Value) (x : Bk17.EK), TS N C M V H w (fun q => Q17 v l k q ∨ x.2.1.ownBlock = some q) (2 * k + 2) W M' V' H' → l[k]? = some x → Calls Tryz.prog 49 #[.pointer (some ⟨N, 0, none⟩), x.2.2.1] W fun e W' => e = .returned undef ∧ ∃ M' V' H', TS N C M V H w (Q17 v l (k + 1)) (2 * (k + 1) + 1) W' M' V' H') := fun k W M' V' H' x t hk => by
    have hkl := (List.getElem?_eq_some_iff.1 hk).1
    obtain ⟨lx, ox, hlx⟩ := o6 x (List.mem_of_getElem? hk)
    refine (t.take6 (Q' := Q17 v l (k + 1)) nC.2.1 ox hlx (fun q e => ⟨(hf q (Or.inr ⟨k, x, hkl, hk, Or.inr e⟩)).1, (hf q (Or.inr ⟨k, x, hkl, hk, Or.inr e⟩)).2, fun c => ?_⟩) nC.1 (fun q c => ?_) (by have := hm 6; omega)).mono fun e W' ⟨e1, M1, V1, H1, t1⟩ => ⟨e1, M1, V1, H1, t1.move (by omega) (fun _ e => e)⟩
    · rcases c with (c | ⟨j, y, hj, hy, c⟩) | c
      · exact hd1 q c x (List.mem_of_getElem? hk) (Or.inr e)
      · exact hd2 j k y x q hj hy hk c (Or.inr e)
      · exact hd3 x (List.mem_of_getElem? hk) q c e
    · rcases c with ((c | ⟨j, y, hj, hy, c⟩) | c) | c
      · exact Or.inl c
      · exact Or.inr ⟨j, y, by omega, hy, c⟩
      · exact Or.inr ⟨k, x, by omega, hk, Or.inl c⟩
      · exact Or.inr ⟨k, x, by omega, hk, Or.inr c⟩
  have SL : Hid (∀ (i : Nat) (x : Bk17.EK), l[i]? = some x → (∃ a z c, x.2.1 = .slice a z c) ∧ (∃ a z c, x.2.2.1 = .slice a z c)) := fun i x hx => by
    obtain ⟨l5, q5, _⟩ := o5 x (List.mem_of_getElem? hx)
    obtain ⟨a5, c5, f5, _⟩ := q5.formO
    obtain ⟨l6, q6, _⟩ := o6 x (List.mem_of_getElem? hx)
    obtain ⟨a6, c6, f6, _⟩ := q6.formO
    exact ⟨⟨_, _, _, f5⟩, ⟨_, _, _, f6⟩⟩
  have GA : Hid (0 < l.length → ∃ g, av = some ⟨g, 0, none⟩) := ga
  have hrH : Hid (∀ W, W = w.alloc (.cells #[v] 22) → (Builtin.append_ #[61, 61] 61 #[H 17, .slice (some ⟨w.heap.size, 0, none⟩) 1 1]).run Tryz.prog W = .ok hv' w') := fun W e => by subst e; exact hr
  rw [e1] at hrH cF
  rw [e3] at hrH
  rw [e1] at cF'
  have lH : Hid (∃ n, n = l.length ∧ v = .slice av n cv) := ⟨_, rfl, e2⟩
  clear h o hf bk bb fb hr b hG e1 e3 hd1 hd2 hd3 hfv o5 o6 ga hm nC
  obtain ⟨n, hn, hv⟩ := lH.out
  have hgl : Hid (∀ i, i < n → ∃ x, l[i]? = some x) := fun i hi => ⟨_, List.getElem?_eq_getElem (by omega)⟩
  rw [← hn] at hl GA ⊢
  clear lH hn e2
  rw [hv] at hrH
  rw [show (#[.pointer (some ⟨N, 0, none⟩), v] : Array Value) = #[.pointer (some ⟨N, 0, none⟩), .slice av n cv] by rw [hv]]
  clear hv
  generalize M 17 = mF at *
  go_enter Tryz.func16, Tryz.ntmps16
  go_wp2_with (at_builtin; refine Bk17.wpList_append_runB (by rfl) _ _ _ (by rfl) _ _ _ _ (by rfl) (by rfl) (hrH.out _ rfl) ?_)
  go_loopw [4] (fun v2 wx => ∃ (i : Nat), v2 = .int .i64 (i : Int) ∧ i ≤ n ∧ Hid (∃ M' V' H', TS N C M V H w (Q17 v l i) (2 * i + 1) wx M' V' H')) (fun v2 _ => n - (intOf v2).toNat)
  case atStart => exact ⟨0, rfl, Nat.zero_le _, T0⟩
  case round =>
    clear T0 cF hrH cF' zF'
    obtain ⟨i, rfl, hil, hS⟩ := hrel
    by_cases hi : i < n
    · obtain ⟨i0, iI, iw⟩ := Bk17.nums_t i n hi (by omega)
      obtain ⟨x, hx⟩ := hgl.out i hi
      have hxH : Hid (l[i]? = some x) := hx
      obtain ⟨g, rfl⟩ := GA.out (by omega)
      have sl := SL.out i x hx
      obtain ⟨M', V', H', t⟩ := hS.out
      have cc := CL.out _ _ _ _ _ _ t g rfl i x hx
      have tk : Hid _ := TK0.out _ _ _ _ _ _ t hx
      obtain ⟨⟨a5, z5, c5, s5⟩, a6, z6, c6, s6⟩ := sl
      obtain ⟨cc, _⟩ := cc
      have s5H : Hid (x.2.1 = .slice a5 z5 c5) := s5
      have s6H : Hid (x.2.2.1 = .slice a6 z6 c6) := s6
      rw [s5] at cc tk
      clear t hS hx s5 s6
      go_wp2_with fail
      refine Calls.mono tk.out ?_
      rintro e w5 ⟨rfl, t5⟩
      rw [← s5H.out] at t5
      obtain ⟨M5, V5, H5, t6⟩ := t5
      have c2 := (CL.out _ _ _ _ _ _ t6 g rfl i x hxH.out).2
      have tk2 : Hid _ := TK1.out _ _ _ _ _ _ t6 hxH.out
      rw [s6H.out] at c2 tk2
      clear t6 tk cc s5H s6H
      go_wp2_with fail
      refine Calls.mono tk2.out ?_
      rintro e w7 ⟨rfl, t7⟩
      have TZ : Hid _ := t7
      clear t7 tk2 c2 hxH
      go_wp2_with fail
      exact ⟨⟨i + 1, by first | rfl | go_num, hi, TZ⟩, by first | (simp [intOf]; done) | (simp [intOf]; omega)⟩
    · have hlt : ¬ (i : Int) < (n : Int) := by omega
      obtain rfl : n = i := by omega
      go_wp2_with fail
      simp [bodyPost, results, Tryz.results16, go_sem]
      first | exact ⟨rfl, hS.out⟩ | (have q := hS.out; simp only [Nat.one_mul] at q; exact ⟨rfl, q⟩)
theorem BB.take17 {N C n B : Nat} {Own : Nat → Prop} {w : World} {v : Value} {l : List Bk17.EK} (h : BB N C n Own w) (o : Bk17.OE w B v l) (hl : l.length ≤ 1048576) (o5 : ∀ x ∈ l, ∃ lx, Bk5.OE w B x.2.1 lx ∧ lx.length ≤ 268435456) (o6 : ∀ x ∈ l, ∃ lx, Bk6.OE w B x.2.2.1 lx ∧ lx.length ≤ 268435456)
    (hf : ∀ q, Q17 v l l.length q → C ≤ q ∧ ¬ Own q ∧ q < w.heap.size) (hd1 : ∀ (q : Nat), v.ownBlock = some q → ∀ x ∈ l, ¬ (x.2.1.ownBlock = some q ∨ x.2.2.1.ownBlock = some q)) (hd2 : ∀ (i j : Nat) (x y : Bk17.EK) (q : Nat), i < j → l[i]? = some x → l[j]? = some y → (x.2.1.ownBlock = some q ∨ x.2.2.1.ownBlock = some q) → ¬ (y.2.1.ownBlock = some q ∨ y.2.2.1.ownBlock = some q)) (hd3 : ∀ x ∈ l, ∀ q, x.2.1.ownBlock = some q → x.2.2.1.ownBlock ≠ some q) (hn : n + 2 * l.length + 1 ≤ 4194304) :
    Calls Tryz.prog 16 #[.pointer (some ⟨N, 0, none⟩), v] w fun e w' => e = .returned undef ∧ BB N C (n + 2 * l.length + 1) (fun q => Own q ∨ Q17 v l l.length q ∨ (w.heap.size ≤ q ∧ q < w'.heap.size)) w' ∧ KO Own w w' := by
  obtain ⟨⟨M, V, H, mb, h1, h2⟩, a, lt, nC⟩ := h
  refine (mb.take17 o hl o5 o6 (fun q e => ⟨(hf q e).1, fun g c => (hf q e).2.1 (h2 g q c)⟩) hd1 hd2 hd3 (fun f => by have := h1 f; omega)).mono fun e w' ⟨e1, M', V', H', t⟩ => ⟨e1, ⟨⟨_, _, _, t.mb, fun g => ?_, fun g q e => ?_⟩, Or.inl a, fun q e => ?_, by have := t.sz; omega⟩, ⟨t.sz, fun q hq hn => t.kp q hq (fun c => hn (c ▸ a)) (fun f c => hn (h2 f q (Or.inl c))), t.sm⟩⟩
  · have := t.mm g; have := h1 g; omega
  · rcases t.ow g q e with c | c | c
    · exact Or.inl (h2 g q c)
    · exact Or.inr (Or.inl c)
    · exact Or.inr (Or.inr ⟨c, (t.mb.lt g e).2⟩)
  · have := t.sz
    rcases e with e | e | e
    · have := lt q e; omega
    · have := (hf q e).2.2; omega
    · exact e.2
end Go.Proofs.YtbojljmacheccaaGreatDoor.Mb

