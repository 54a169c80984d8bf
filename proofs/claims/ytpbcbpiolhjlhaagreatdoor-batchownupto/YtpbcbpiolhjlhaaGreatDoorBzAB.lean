
import Derived.Test.YtpbcbpiolhjlhaaGreatDoorMbBq
import Derived.Test.YtpbcbpiolhjlhaaGreatDoorProg

namespace Go.Proofs.YtpbcbpiolhjlhaaGreatDoor.Mb
open Go.RowKit
set_option linter.unusedVariables false
set_option linter.unusedSimpArgs false
set_option maxRecDepth 100000
/-- behind some Takes: Q is what was taken, k how many lists at most of one kind. -/
structure TS (N C : Nat) (M : Nat → Nat) (V : Nat → Nat → Value) (H : Nat → Value) (w : World) (Q : Nat → Prop) (k : Nat) (wr : World) (M' : Nat → Nat) (V' : Nat → Nat → Value) (H' : Nat → Value) : Prop where
  mb : MB N C M' V' H' wr
  mm : ∀ f, M' f ≤ M f + k
  ow : ∀ f q, own (H' f) (V' f) (M' f) q → own (H f) (V f) (M f) q ∨ Q q ∨ w.heap.size ≤ q
  hd : ∀ f q, (H' f).ownBlock = some q → (H f).ownBlock = some q ∨ w.heap.size ≤ q
  sz : w.heap.size ≤ wr.heap.size
  kp : ∀ q, q < w.heap.size → q ≠ N → (∀ f, (H f).ownBlock ≠ some q) → wr.heap[q]? = w.heap[q]?
  sm : wr.os = w.os ∧ wr.tape = w.tape ∧ wr.output = w.output
theorem TS.refl {N C : Nat} {M : Nat → Nat} {V : Nat → Nat → Value} {H : Nat → Value} {w : World} (h : MB N C M V H w) : TS N C M V H w (fun _ => False) 0 w M V H :=
  ⟨h, fun _ => Nat.le_refl _, fun _ _ e => Or.inl e, fun _ _ e => Or.inl e, Nat.le_refl _, fun _ _ _ _ => rfl, rfl, rfl, rfl⟩
theorem TS.step {N C k : Nat} {M M' : Nat → Nat} {V V' : Nat → Nat → Value} {H H' : Nat → Value} {Q Q' : Nat → Prop} {x h' : Value} {w wr w' : World} (F : Nat) (h : TS N C M V H w Q k wr M' V' H') (mb' : MB N C (upd F (M' F + 1) M') (upd F (snoc (M' F) x (V' F)) V') (upd F h' H') w') (fr : FR N wr (H' F) h' w') (hQ : ∀ q, Q q ∨ x.ownBlock = some q → Q' q) :
    TS N C M V H w Q' (k + 1) w' (upd F (M' F + 1) M') (upd F (snoc (M' F) x (V' F)) V') (upd F h' H') := by
  refine ⟨mb', fun f => ?_, fun f q e => ?_, fun f q e => ?_, Nat.le_trans h.sz fr.size, fun q hq hN hn => ?_, fr.same.1.trans h.sm.1, fr.same.2.1.trans h.sm.2.1, fr.same.2.2.trans h.sm.2.2⟩
  · by_cases c : f = F
    · subst c; rw [upd_at]; have := h.mm f; omega
    · rw [upd_ne c]; have := h.mm f; omega
  · rcases own_upd rfl fr.own f q e with c | ⟨_, c | c⟩
    · rcases h.ow f q c with d | d | d
      · exact Or.inl d
      · exact Or.inr (Or.inl (hQ q (Or.inl d)))
      · exact Or.inr (Or.inr d)
    · exact Or.inr (Or.inl (hQ q (Or.inr c)))
    · exact Or.inr (Or.inr (Nat.le_trans h.sz c))
  · by_cases c : f = F
    · subst c
      rw [upd_at] at e
      rcases fr.own q e with d | d
      · exact h.hd f q d
      · exact Or.inr (Nat.le_trans h.sz d)
    · rw [upd_ne c] at e; exact h.hd f q e
  · rw [fr.keep q (Nat.lt_of_lt_of_le hq h.sz) hN (fun c => ?_)]
    · exact h.kp q hq hN hn
    · rcases h.hd F q c with d | d
      · exact hn F d
      · omega
theorem TS.move {N C k k' : Nat} {M M' : Nat → Nat} {V V' : Nat → Nat → Value} {H H' : Nat → Value} {Q Q' : Nat → Prop} {w wr : World} (h : TS N C M V H w Q k wr M' V' H') (hk : k ≤ k') (hQ : ∀ q, Q q → Q' q) : TS N C M V H w Q' k' wr M' V' H' :=
  ⟨h.mb, fun f => by have := h.mm f; omega, fun f q e => by
    rcases h.ow f q e with d | d | d
    · exact Or.inl d
    · exact Or.inr (Or.inl (hQ q d))
    · exact Or.inr (Or.inr d), h.hd, h.sz, h.kp, h.sm⟩
theorem TS.take5 {N C B k : Nat} {M M' : Nat → Nat} {V V' : Nat → Nat → Value} {H H' : Nat → Value} {Q Q' : Nat → Prop} {x : Value} {lx : List (Bk5.E2)} {w wr : World} (h : TS N C M V H w Q k wr M' V' H') (hN : N < w.heap.size) (o : Bk5.OE w B x lx) (hl : lx.length ≤ 268435456) (hx : ∀ q, x.ownBlock = some q → C ≤ q ∧ (∀ f, ¬ own (H f) (V f) (M f) q) ∧ ¬ Q q) (hNC : N < C) (hQ : ∀ q, Q q ∨ x.ownBlock = some q → Q' q) (hm : M 5 + k ≤ 4194304) :
    Calls Tryz.prog 17 #[.pointer (some ⟨N, 0, none⟩), x] wr fun e w' => e = .returned undef ∧ ∃ M' V' H', TS N C M V H w Q' (k + 1) w' M' V' H' := by
  have o2 : Bk5.OE wr B x lx := row_kept o (fun q e => h.kp q (o.bound e).2 (by have := (hx q e).1; omega) (fun f c => (hx q e).2.1 f (Or.inl c)))
  refine (h.mb.take5 o2 hl (fun q e => ⟨(hx q e).1, fun f c => ?_⟩) (by have := h.mm 5; omega)).mono fun e w' ⟨e1, h', mb', fr⟩ => ⟨e1, _, _, _, h.step 5 mb' fr hQ⟩
  rcases h.ow f q c with d | d | d
  · exact (hx q e).2.1 f d
  · exact (hx q e).2.2 d
  · have := (o.bound e).2; omega
theorem TS.take6 {N C B k : Nat} {M M' : Nat → Nat} {V V' : Nat → Nat → Value} {H H' : Nat → Value} {Q Q' : Nat → Prop} {x : Value} {lx : List (Bk6.EK)} {w wr : World} (h : TS N C M V H w Q k wr M' V' H') (hN : N < w.heap.size) (o : Bk6.OE w B x lx) (hl : lx.length ≤ 268435456) (hx : ∀ q, x.ownBlock = some q → C ≤ q ∧ (∀ f, ¬ own (H f) (V f) (M f) q) ∧ ¬ Q q) (hNC : N < C) (hQ : ∀ q, Q q ∨ x.ownBlock = some q → Q' q) (hm : M 6 + k ≤ 4194304) :
    Calls Tryz.prog 23 #[.pointer (some ⟨N, 0, none⟩), x] wr fun e w' => e = .returned undef ∧ ∃ M' V' H', TS N C M V H w Q' (k + 1) w' M' V' H' := by
  have o2 : Bk6.OE wr B x lx := row_kept o (fun q e => h.kp q (o.bound e).2 (by have := (hx q e).1; omega) (fun f c => (hx q e).2.1 f (Or.inl c)))
  refine (h.mb.take6 o2 hl (fun q e => ⟨(hx q e).1, fun f c => ?_⟩) (by have := h.mm 6; omega)).mono fun e w' ⟨e1, h', mb', fr⟩ => ⟨e1, _, _, _, h.step 6 mb' fr hQ⟩
  rcases h.ow f q c with d | d | d
  · exact (hx q e).2.1 f d
  · exact (hx q e).2.2 d
  · have := (o.bound e).2; omega
/-- what a row and all that lies in its first k places own. -/
def Q18 (v : Value) (l : List Bk18.EK) (k : Nat) (q : Nat) : Prop := v.ownBlock = some q ∨ ∃ (j : Nat) (x : Bk18.EK), j < k ∧ l[j]? = some x ∧ (x.2.1.ownBlock = some q)
set_option maxHeartbeats 4000000 in
theorem MB.take18 {N C B : Nat} {M : Nat → Nat} {V : Nat → Nat → Value} {H : Nat → Value} {w : World} {v : Value} {l : List Bk18.EK} (h : MB N C M V H w) (o : Bk18.OE w B v l) (hl : l.length ≤ 1048576) (o5 : ∀ x ∈ l, ∃ lx, Bk5.OE w B x.2.1 lx ∧ lx.length ≤ 268435456)
    (hf : ∀ q, Q18 v l l.length q → C ≤ q ∧ ∀ f, ¬ own (H f) (V f) (M f) q) (hd1 : ∀ (q : Nat), v.ownBlock = some q → ∀ x ∈ l, ¬ (x.2.1.ownBlock = some q)) (hd2 : ∀ (i j : Nat) (x y : Bk18.EK) (q : Nat), i < j → l[i]? = some x → l[j]? = some y → (x.2.1.ownBlock = some q) → ¬ (y.2.1.ownBlock = some q)) (hm : ∀ f, M f + 1 * l.length + 1 ≤ 4194304) :
    Calls Tryz.prog 6 #[.pointer (some ⟨N, 0, none⟩), v] w fun e w' => e = .returned undef ∧ ∃ M' V' H', TS N C M V H w (Q18 v l l.length) (1 * l.length + 1) w' M' V' H' := by
  have nC := h.nC
  have hfv : ∀ q, v.ownBlock = some q → C ≤ q ∧ ∀ f, ¬ own (H f) (V f) (M f) q := fun q e => hf q (Or.inl e)
  obtain ⟨G, b, hG⟩ := h.b18
  obtain ⟨hv', w', hr, cF', zF', bk, bb, fb⟩ := b.take o (fun q e => ⟨(hfv q e).1, fun c => (hfv q e).2 18 (Or.inl c), fun j hj c => (hfv q e).2 18 (Or.inr ⟨j, hj, c⟩)⟩) (by have := hm 18; omega)
  have cF := b.st.cF
  obtain ⟨ah, ch, e1, _⟩ := b.st.hr.form
  obtain ⟨av, cv, e2, _, ga⟩ := o.formO
  obtain ⟨ah2, ch2, e3, _⟩ := bk.st.hr.form
  have T0 : Hid (∃ M' V' H', TS N C M V H w (Q18 v l 0) (1 * 0 + 1) (w'.setCell ⟨N, 18, none⟩ (.slice ah2 (M 18 + 1) ch2)) M' V' H') := by
    rw [← e3]
    have fr : FR N w (H 18) hv' (w'.setCell ⟨N, 18, none⟩ hv') := ⟨fb.1, fb.2.1, fb.2.2, bb.os, bb.tape, bb.output⟩
    exact ⟨_, _, _, ((TS.refl h).step 18 (h.took18 hG (by omega) hfv bk fr) fr (fun q e => by
      rcases e with e | e
      · cases e
      · exact Or.inl e)).move (by omega) (fun _ e => e)⟩
  have CL : Hid (∀ (Q : Nat → Prop) (k : Nat) (W : World) (M' : Nat → Nat) (V' : Nat → Nat → Value) (H' : Nat → Value), TS N C M V H w Q k W M' V' H' → ∀ (g : Nat), av = some ⟨g, 0, none⟩ → ∀ (i : Nat) (x : Bk18.EK), l[i]? = some x → W.cell? ⟨g, i * 6 + 1, none⟩ = some x.2.1) := fun Q k W M' V' H' t g eg i x hx => by
    have oe : Bk18.OE W B v l := row_kept o (fun q e => t.kp q (o.bound e).2 (by have := (hfv q e).1; omega) (fun f c => (hfv q e).2 f (Or.inl c)))
    have hcs := World.ownsRow.cells oe (g := g) (by rw [e2, eg]; rfl)
    obtain ⟨g0, g1, g2, g3, g4, g5⟩ := Bk18.enc_get l i x hx
    have k1 := hcs _ _ g1
    rw [Bk18.add_lt0, Nat.zero_add] at k1
    exact k1
  have TK0 : Hid (∀ (k : Nat) (W : World) (M' : Nat → Nat) (V' : Nat → Nat → Value) (H' : Nat → Value) (x : Bk18.EK), TS N C M V H w (Q18 v l k) (1 * k + 1) W M' V' H' → l[k]? = some x → Calls Tryz.prog 17 #[.pointer (some ⟨N, 0, none⟩), x.2.1] W fun e W' => e = .returned undef ∧ ∃ M' V' H', TS N C M V H w (Q18 v l (k + 1)) (1 * (k + 1) + 1) W' M' V' H') := fun k W M' V' H' x t hk => by
    have hkl := (List.getElem?_eq_some_iff.1 hk).1
    obtain ⟨lx, ox, hlx⟩ := o5 x (List.mem_of_getElem? hk)
    refine (t.take5 (Q' := Q18 v l (k + 1)) nC.2.1 ox hlx (fun q e => ⟨(hf q (Or.inr ⟨k, x, hkl, hk, e⟩)).1, (hf q (Or.inr ⟨k, x, hkl, hk, e⟩)).2, fun c => ?_⟩) nC.1 (fun q c => ?_) (by have := hm 5; omega)).mono fun e W' ⟨e1, M1, V1, H1, t1⟩ => ⟨e1, M1, V1, H1, t1.move (by omega) (fun _ e => e)⟩
    · rcases c with c | ⟨j, y, hj, hy, c⟩
      · exact hd1 q c x (List.mem_of_getElem? hk) e
      · exact hd2 j k y x q hj hy hk c e
    · rcases c with (c | ⟨j, y, hj, hy, c⟩) | c
      · exact Or.inl c
      · exact Or.inr ⟨j, y, by omega, hy, c⟩
      · exact Or.inr ⟨k, x, by omega, hk, c⟩
  have SL : Hid (∀ (i : Nat) (x : Bk18.EK), l[i]? = some x → (∃ a z c, x.2.1 = .slice a z c)) := fun i x hx => by
    obtain ⟨l5, q5, _⟩ := o5 x (List.mem_of_getElem? hx)
    obtain ⟨a5, c5, f5, _⟩ := q5.formO
    exact ⟨_, _, _, f5⟩
  have GA : Hid (0 < l.length → ∃ g, av = some ⟨g, 0, none⟩) := ga
  have hrH : Hid (∀ W, W = w.alloc (.cells #[v] 23) → (Builtin.append_ #[43, 43] 43 #[H 18, .slice (some ⟨w.heap.size, 0, none⟩) 1 1]).run Tryz.prog W = .ok hv' w') := fun W e => by subst e; exact hr
  rw [e1] at hrH cF
  rw [e3] at hrH
  rw [e1] at cF'
  have lH : Hid (∃ n, n = l.length ∧ v = .slice av n cv) := ⟨_, rfl, e2⟩
  clear h o hf bk bb fb hr b hG e1 e3 hd1 hd2  hfv o5 ga hm nC
  obtain ⟨n, hn, hv⟩ := lH.out
  have hgl : Hid (∀ i, i < n → ∃ x, l[i]? = some x) := fun i hi => ⟨_, List.getElem?_eq_getElem (by omega)⟩
  rw [← hn] at hl GA ⊢
  clear lH hn e2
  rw [hv] at hrH
  rw [show (#[.pointer (some ⟨N, 0, none⟩), v] : Array Value) = #[.pointer (some ⟨N, 0, none⟩), .slice av n cv] by rw [hv]]
  clear hv
  generalize M 18 = mF at *
  go_enter Tryz.func6, Tryz.ntmps6
  go_wp2_with (at_builtin; refine Bk18.wpList_append_runB (by rfl) _ _ _ (by rfl) _ _ _ _ (by rfl) (by rfl) (hrH.out _ rfl) ?_)
  go_loopw [4] (fun v2 wx => ∃ (i : Nat), v2 = .int .i64 (i : Int) ∧ i ≤ n ∧ Hid (∃ M' V' H', TS N C M V H w (Q18 v l i) (1 * i + 1) wx M' V' H')) (fun v2 _ => n - (intOf v2).toNat)
  case atStart => exact ⟨0, rfl, Nat.zero_le _, T0⟩
  case round =>
    clear T0 cF hrH cF' zF'
    obtain ⟨i, rfl, hil, hS⟩ := hrel
    by_cases hi : i < n
    · obtain ⟨i0, iI, iw⟩ := Bk18.nums_t i n hi (by omega)
      obtain ⟨x, hx⟩ := hgl.out i hi
      have hxH : Hid (l[i]? = some x) := hx
      obtain ⟨g, rfl⟩ := GA.out (by omega)
      have sl := SL.out i x hx
      obtain ⟨M', V', H', t⟩ := hS.out
      have cc := CL.out _ _ _ _ _ _ t g rfl i x hx
      have tk : Hid _ := TK0.out _ _ _ _ _ _ t hx
      obtain ⟨a5, z5, c5, s5⟩ := sl
      rw [s5] at cc tk
      clear t hS hx s5
      go_wp2_with fail
      refine Calls.mono tk.out ?_
      rintro e w5 ⟨rfl, t5⟩
      have TZ : Hid _ := t5
      clear t5 tk cc hxH
      go_wp2_with fail
      exact ⟨⟨i + 1, by first | rfl | go_num, hi, TZ⟩, by first | (simp [intOf]; done) | (simp [intOf]; omega)⟩
    · have hlt : ¬ (i : Int) < (n : Int) := by omega
      obtain rfl : n = i := by omega
      go_wp2_with fail
      simp [bodyPost, results, Tryz.results6, go_sem]
      first | exact ⟨rfl, hS.out⟩ | (have q := hS.out; simp only [Nat.one_mul] at q; exact ⟨rfl, q⟩)
theorem BB.take18 {N C n B : Nat} {Own : Nat → Prop} {w : World} {v : Value} {l : List Bk18.EK} (h : BB N C n Own w) (o : Bk18.OE w B v l) (hl : l.length ≤ 1048576) (o5 : ∀ x ∈ l, ∃ lx, Bk5.OE w B x.2.1 lx ∧ lx.length ≤ 268435456)
    (hf : ∀ q, Q18 v l l.length q → C ≤ q ∧ ¬ Own q ∧ q < w.heap.size) (hd1 : ∀ (q : Nat), v.ownBlock = some q → ∀ x ∈ l, ¬ (x.2.1.ownBlock = some q)) (hd2 : ∀ (i j : Nat) (x y : Bk18.EK) (q : Nat), i < j → l[i]? = some x → l[j]? = some y → (x.2.1.ownBlock = some q) → ¬ (y.2.1.ownBlock = some q)) (hn : n + 1 * l.length + 1 ≤ 4194304) :
    Calls Tryz.prog 6 #[.pointer (some ⟨N, 0, none⟩), v] w fun e w' => e = .returned undef ∧ BB N C (n + 1 * l.length + 1) (fun q => Own q ∨ Q18 v l l.length q ∨ (w.heap.size ≤ q ∧ q < w'.heap.size)) w' ∧ KO Own w w' := by
  obtain ⟨⟨M, V, H, mb, h1, h2⟩, a, lt, nC⟩ := h
  refine (mb.take18 o hl o5 (fun q e => ⟨(hf q e).1, fun g c => (hf q e).2.1 (h2 g q c)⟩) hd1 hd2  (fun f => by have := h1 f; omega)).mono fun e w' ⟨e1, M', V', H', t⟩ => ⟨e1, ⟨⟨_, _, _, t.mb, fun g => ?_, fun g q e => ?_⟩, Or.inl a, fun q e => ?_, by have := t.sz; omega⟩, ⟨t.sz, fun q hq hn => t.kp q hq (fun c => hn (c ▸ a)) (fun f c => hn (h2 f q (Or.inl c))), t.sm⟩⟩
  · have := t.mm g; have := h1 g; omega
  · rcases t.ow g q e with c | c | c
    · exact Or.inl (h2 g q c)
    · exact Or.inr (Or.inl c)
    · exact Or.inr (Or.inr ⟨c, (t.mb.lt g e).2⟩)
  · have := t.sz
    rcases e with e | e | e
    · have := lt q e; omega
    · have := (hf q e).2.2; omega
    · exact e.2
/-- what a row and all that lies in its first k places own. -/
def Q17 (v : Value) (l : List Bk17.EK) (k : Nat) (q : Nat) : Prop := v.ownBlock = some q ∨ ∃ (j : Nat) (x : Bk17.EK), j < k ∧ l[j]? = some x ∧ (x.2.1.ownBlock = some q ∨ x.2.2.1.ownBlock = some q)
set_option maxHeartbeats 4000000 in
theorem MB.take17 {N C B : Nat} {M : Nat → Nat} {V : Nat → Nat → Value} {H : Nat → Value} {w : World} {v : Value} {l : List Bk17.EK} (h : MB N C M V H w) (o : Bk17.OE w B v l) (hl : l.length ≤ 1048576) (o5 : ∀ x ∈ l, ∃ lx, Bk5.OE w B x.2.1 lx ∧ lx.length ≤ 268435456) (o6 : ∀ x ∈ l, ∃ lx, Bk6.OE w B x.2.2.1 lx ∧ lx.length ≤ 268435456)
    (hf : ∀ q, Q17 v l l.length q → C ≤ q ∧ ∀ f, ¬ own (H f) (V f) (M f) q) (hd1 : ∀ (q : Nat), v.ownBlock = some q → ∀ x ∈ l, ¬ (x.2.1.ownBlock = some q ∨ x.2.2.1.ownBlock = some q)) (hd2 : ∀ (i j : Nat) (x y : Bk17.EK) (q : Nat), i < j → l[i]? = some x → l[j]? = some y → (x.2.1.ownBlock = some q ∨ x.2.2.1.ownBlock = some q) → ¬ (y.2.1.ownBlock = some q ∨ y.2.2.1.ownBlock = some q)) (hd3 : ∀ x ∈ l, ∀ q, x.2.1.ownBlock = some q → x.2.2.1.ownBlock ≠ some q) (hm : ∀ f, M f + 2 * l.length + 1 ≤ 4194304) :
    Calls Tryz.prog 9 #[.pointer (some ⟨N, 0, none⟩), v] w fun e w' => e = .returned undef ∧ ∃ M' V' H', TS N C M V H w (Q17 v l l.length) (2 * l.length + 1) w' M' V' H' := by
  have nC := h.nC
  have hfv : ∀ q, v.ownBlock = some q → C ≤ q ∧ ∀ f, ¬ own (H f) (V f) (M f) q := fun q e => hf q (Or.inl e)
  obtain ⟨G, b, hG⟩ := h.b17
  obtain ⟨hv', w', hr, cF', zF', bk, bb, fb⟩ := b.take o (fun q e => ⟨(hfv q e).1, fun c => (hfv q e).2 17 (Or.inl c), fun j hj c => (hfv q e).2 17 (Or.inr ⟨j, hj, c⟩)⟩) (by have := hm 17; omega)
  have cF := b.st.cF
  obtain ⟨ah, ch, e1, _⟩ := b.st.hr.form
  obtain ⟨av, cv, e2, _, ga⟩ := o.formO
  obtain ⟨ah2, ch2, e3, _⟩ := bk.st.hr.form
  have T0 : Hid (∃ M' V' H', TS N C M V H w (Q17 v l 0) (2 * 0 + 1) (w'.setCell ⟨N, 17, none⟩ (.slice ah2 (M 17 + 1) ch2)) M' V' H') := by
    rw [← e3]
    have fr : FR N w (H 17) hv' (w'.setCell ⟨N, 17, none⟩ hv') := ⟨fb.1, fb.2.1, fb.2.2, bb.os, bb.tape, bb.output⟩
    exact ⟨_, _, _, ((TS.refl h).step 17 (h.took17 hG (by omega) hfv bk fr) fr (fun q e => by
      rcases e with e | e
      · cases e
      · exact Or.inl e)).move (by omega) (fun _ e => e)⟩
  have CL : Hid (∀ (Q : Nat → Prop) (k : Nat) (W : World) (M' : Nat → Nat) (V' : Nat → Nat → Value) (H' : Nat → Value), TS N C M V H w Q k W M' V' H' → ∀ (g : Nat), av = some ⟨g, 0, none⟩ → ∀ (i : Nat) (x : Bk17.EK), l[i]? = some x → W.cell? ⟨g, i * 4 + 1, none⟩ = some x.2.1 ∧ W.cell? ⟨g, i * 4 + 2, none⟩ = some x.2.2.1) := fun Q k W M' V' H' t g eg i x hx => by
    have oe : Bk17.OE W B v l := row_kept o (fun q e => t.kp q (o.bound e).2 (by have := (hfv q e).1; omega) (fun f c => (hfv q e).2 f (Or.inl c)))
    have hcs := World.ownsRow.cells oe (g := g) (by rw [e2, eg]; rfl)
    obtain ⟨g0, g1, g2, g3⟩ := Bk17.enc_get l i x hx
    have k1 := hcs _ _ g1
    rw [Bk17.add_lt0, Nat.zero_add] at k1
    have k2 := hcs _ _ g2
    rw [Bk17.add_lt0, Nat.zero_add] at k2
    exact ⟨k1, k2⟩
  have TK0 : Hid (∀ (k : Nat) (W : World) (M' : Nat → Nat) (V' : Nat → Nat → Value) (H' : Nat → Value) (x : Bk17.EK), TS N C M V H w (Q17 v l k) (2 * k + 1) W M' V' H' → l[k]? = some x → Calls Tryz.prog 17 #[.pointer (some ⟨N, 0, none⟩), x.2.1] W fun e W' => e = .returned undef ∧ ∃ M' V' H', TS N C M V H w (fun q => Q17 v l k q ∨ x.2.1.ownBlock = some q) (2 * k + 2) W' M' V' H') := fun k W M' V' H' x t hk => by
    have hkl := (List.getElem?_eq_some_iff.1 hk).1
    obtain ⟨lx, ox, hlx⟩ := o5 x (List.mem_of_getElem? hk)
    refine (t.take5 (Q' := fun q => Q17 v l k q ∨ x.2.1.ownBlock = some q) nC.2.1 ox hlx (fun q e => ⟨(hf q (Or.inr ⟨k, x, hkl, hk, Or.inl e⟩)).1, (hf q (Or.inr ⟨k, x, hkl, hk, Or.inl e⟩)).2, fun c => ?_⟩) nC.1 (fun q c => c) (by have := hm 5; omega)).mono fun e W' ⟨e1, M1, V1, H1, t1⟩ => ⟨e1, M1, V1, H1, t1.move (by omega) (fun _ e => e)⟩
    rcases c with c | ⟨j, y, hj, hy, c⟩
    · exact hd1 q c x (List.mem_of_getElem? hk) (Or.inl e)
    · exact hd2 j k y x q hj hy hk c (Or.inl e)
  have TK1 : Hid (∀ (k : Nat) (W : World) (M' : Nat → Nat) (V' : Nat → Nat → Value) (H' : Nat → Value) (x : Bk17.EK), TS N C M V H w (fun q => Q17 v l k q ∨ x.2.1.ownBlock = some q) (2 * k + 2) W M' V' H' → l[k]? = some x → Calls Tryz.prog 23 #[.pointer (some ⟨N, 0, none⟩), x.2.2.1] W fun e W' => e = .returned undef ∧ ∃ M' V' H', TS N C M V H w (Q17 v l (k + 1)) (2 * (k + 1) + 1) W' M' V' H') := fun k W M' V' H' x t hk => by
    have hkl := (List.getElem?_eq_some_iff.1 hk).1
    obtain ⟨lx, ox, hlx⟩ := o6 x (List.mem_of_getElem? hk)
    refine (t.take6 (Q' := Q17 v l (k + 1)) nC.2.1 ox hlx (fun q e => ⟨(hf q (Or.inr ⟨k, x, hkl, hk, Or.inr e⟩)).1, (hf q (Or.inr ⟨k, x, hkl, hk, Or.inr e⟩)).2, fun c => ?_⟩) nC.1 (fun q c => ?_) (by have := hm 6; omega)).mono fun e W' ⟨e1, M1, V1, H1, t1⟩ => ⟨e1, M1, V1, H1, t1.move (by omega) (fun _ e => e)⟩
    · rcases c with (c | ⟨j, y, hj, hy, c⟩) | c
      · exact hd1 q c x (List.mem_of_getElem? hk) (Or.inr e)
      · exact hd2 j k y x q hj hy hk c (Or.inr e)
      · exact hd3 x (List.mem_of_getElem? hk) q c e
    · rcases c with ((c | ⟨j, y, hj, hy, c⟩) | c) | c
      · exact Or.inl c
      · exact Or.inr ⟨j, y, by omega, hy, c⟩
      · exact Or.inr ⟨k, x, by omega, hk, Or.inl c⟩
      · exact Or.inr ⟨k, x, by omega, hk, Or.inr c⟩
  have SL : Hid (∀ (i : Nat) (x : Bk17.EK), l[i]? = some x → (∃ a z c, x.2.1 = .slice a z c) ∧ (∃ a z c, x.2.2.1 = .slice a z c)) := fun i x hx => by
    obtain ⟨l5, q5, _⟩ := o5 x (List.mem_of_getElem? hx)
    obtain ⟨a5, c5, f5, _⟩ := q5.formO
    obtain ⟨l6, q6, _⟩ := o6 x (List.mem_of_getElem? hx)
    obtain ⟨a6, c6, f6, _⟩ := q6.formO
    exact ⟨⟨_, _, _, f5⟩, ⟨_, _, _, f6⟩⟩
  have GA : Hid (0 < l.length → ∃ g, av = some ⟨g, 0, none⟩) := ga
  have hrH : Hid (∀ W, W = w.alloc (.cells #[v] 22) → (Builtin.append_ #[42, 42] 42 #[H 17, .slice (some ⟨w.heap.size, 0, none⟩) 1 1]).run Tryz.prog W = .ok hv' w') := fun W e => by subst e; exact hr
  rw [e1] at hrH cF
  rw [e3] at hrH
  rw [e1] at cF'
  have lH : Hid (∃ n, n = l.length ∧ v = .slice av n cv) := ⟨_, rfl, e2⟩
  clear h o hf bk bb fb hr b hG e1 e3 hd1 hd2 hd3 hfv o5 o6 ga hm nC
  obtain ⟨n, hn, hv⟩ := lH.out
  have hgl : Hid (∀ i, i < n → ∃ x, l[i]? = some x) := fun i hi => ⟨_, List.getElem?_eq_getElem (by omega)⟩
  rw [← hn] at hl GA ⊢
  clear lH hn e2
  rw [hv] at hrH
  rw [show (#[.pointer (some ⟨N, 0, none⟩), v] : Array Value) = #[.pointer (some ⟨N, 0, none⟩), .slice av n cv] by rw [hv]]
  clear hv
  generalize M 17 = mF at *
  go_enter Tryz.func9, Tryz.ntmps9
  go_wp2_with (at_builtin; refine Bk17.wpList_append_runB (by rfl) _ _ _ (by rfl) _ _ _ _ (by rfl) (by rfl) (hrH.out _ rfl) ?_)
  go_loopw [4] (fun v2 wx => ∃ (i : Nat), v2 = .int .i64 (i : Int) ∧ i ≤ n ∧ Hid (∃ M' V' H', TS N C M V H w (Q17 v l i) (2 * i + 1) wx M' V' H')) (fun v2 _ => n - (intOf v2).toNat)
  case atStart => exact ⟨0, rfl, Nat.zero_le _, T0⟩
  case round =>
    clear T0 cF hrH cF' zF'
    obtain ⟨i, rfl, hil, hS⟩ := hrel
    by_cases hi : i < n
    · obtain ⟨i0, iI, iw⟩ := Bk17.nums_t i n hi (by omega)
      obtain ⟨x, hx⟩ := hgl.out i hi
      have hxH : Hid (l[i]? = some x) := hx
      obtain ⟨g, rfl⟩ := GA.out (by omega)
      have sl := SL.out i x hx
      obtain ⟨M', V', H', t⟩ := hS.out
      have cc := CL.out _ _ _ _ _ _ t g rfl i x hx
      have tk : Hid _ := TK0.out _ _ _ _ _ _ t hx
      obtain ⟨⟨a5, z5, c5, s5⟩, a6, z6, c6, s6⟩ := sl
      obtain ⟨cc, _⟩ := cc
      have s5H : Hid (x.2.1 = .slice a5 z5 c5) := s5
      have s6H : Hid (x.2.2.1 = .slice a6 z6 c6) := s6
      rw [s5] at cc tk
      clear t hS hx s5 s6
      go_wp2_with fail
      refine Calls.mono tk.out ?_
      rintro e w5 ⟨rfl, t5⟩
      rw [← s5H.out] at t5
      obtain ⟨M5, V5, H5, t6⟩ := t5
      have c2 := (CL.out _ _ _ _ _ _ t6 g rfl i x hxH.out).2
      have tk2 : Hid _ := TK1.out _ _ _ _ _ _ t6 hxH.out
      rw [s6H.out] at c2 tk2
      clear t6 tk cc s5H s6H
      go_wp2_with fail
      refine Calls.mono tk2.out ?_
      rintro e w7 ⟨rfl, t7⟩
      have TZ : Hid _ := t7
      clear t7 tk2 c2 hxH
      go_wp2_with fail
      exact ⟨⟨i + 1, by first | rfl | go_num, hi, TZ⟩, by first | (simp [intOf]; done) | (simp [intOf]; omega)⟩
    · have hlt : ¬ (i : Int) < (n : Int) := by omega
      obtain rfl : n = i := by omega
      go_wp2_with fail
      simp [bodyPost, results, Tryz.results9, go_sem]
      first | exact ⟨rfl, hS.out⟩ | (have q := hS.out; simp only [Nat.one_mul] at q; exact ⟨rfl, q⟩)
theorem BB.take17 {N C n B : Nat} {Own : Nat → Prop} {w : World} {v : Value} {l : List Bk17.EK} (h : BB N C n Own w) (o : Bk17.OE w B v l) (hl : l.length ≤ 1048576) (o5 : ∀ x ∈ l, ∃ lx, Bk5.OE w B x.2.1 lx ∧ lx.length ≤ 268435456) (o6 : ∀ x ∈ l, ∃ lx, Bk6.OE w B x.2.2.1 lx ∧ lx.length ≤ 268435456)
    (hf : ∀ q, Q17 v l l.length q → C ≤ q ∧ ¬ Own q ∧ q < w.heap.size) (hd1 : ∀ (q : Nat), v.ownBlock = some q → ∀ x ∈ l, ¬ (x.2.1.ownBlock = some q ∨ x.2.2.1.ownBlock = some q)) (hd2 : ∀ (i j : Nat) (x y : Bk17.EK) (q : Nat), i < j → l[i]? = some x → l[j]? = some y → (x.2.1.ownBlock = some q ∨ x.2.2.1.ownBlock = some q) → ¬ (y.2.1.ownBlock = some q ∨ y.2.2.1.ownBlock = some q)) (hd3 : ∀ x ∈ l, ∀ q, x.2.1.ownBlock = some q → x.2.2.1.ownBlock ≠ some q) (hn : n + 2 * l.length + 1 ≤ 4194304) :
    Calls Tryz.prog 9 #[.pointer (some ⟨N, 0, none⟩), v] w fun e w' => e = .returned undef ∧ BB N C (n + 2 * l.length + 1) (fun q => Own q ∨ Q17 v l l.length q ∨ (w.heap.size ≤ q ∧ q < w'.heap.size)) w' ∧ KO Own w w' := by
  obtain ⟨⟨M, V, H, mb, h1, h2⟩, a, lt, nC⟩ := h
  refine (mb.take17 o hl o5 o6 (fun q e => ⟨(hf q e).1, fun g c => (hf q e).2.1 (h2 g q c)⟩) hd1 hd2 hd3 (fun f => by have := h1 f; omega)).mono fun e w' ⟨e1, M', V', H', t⟩ => ⟨e1, ⟨⟨_, _, _, t.mb, fun g => ?_, fun g q e => ?_⟩, Or.inl a, fun q e => ?_, by have := t.sz; omega⟩, ⟨t.sz, fun q hq hn => t.kp q hq (fun c => hn (c ▸ a)) (fun f c => hn (h2 f q (Or.inl c))), t.sm⟩⟩
  · have := t.mm g; have := h1 g; omega
  · rcases t.ow g q e with c | c | c
    · exact Or.inl (h2 g q c)
    · exact Or.inr (Or.inl c)
    · exact Or.inr (Or.inr ⟨c, (t.mb.lt g e).2⟩)
  · have := t.sz
    rcases e with e | e | e
    · have := lt q e; omega
    · have := (hf q e).2.2; omega
    · exact e.2
end Go.Proofs.YtpbcbpiolhjlhaaGreatDoor.Mb



namespace Go.Proofs.YtpbcbpiolhjlhaaGreatDoor.So
/-! ### plain: rows that are swapped, turned and merged in place (what slices.SortStableFunc does) -/
set_option linter.unusedVariables false
variable {α : Type}
/-- g is f with the places of [a, b) in another order. -/
def Pr (a b : Nat) (f g : Nat → α) : Prop := ∃ s t : Nat → Nat, (∀ k, g k = f (s k)) ∧ (∀ k, a ≤ k → k < b → a ≤ s k ∧ s k < b) ∧ (∀ k, ¬ (a ≤ k ∧ k < b) → s k = k) ∧ (∀ k, s (t k) = k) ∧ (∀ k, t (s k) = k)
theorem Pr.refl (a b : Nat) (f : Nat → α) : Pr a b f f := ⟨id, id, fun _ => rfl, fun k h1 h2 => ⟨h1, h2⟩, fun _ _ => rfl, fun _ => rfl, fun _ => rfl⟩
theorem Pr.trans {a b : Nat} {f g h : Nat → α} (x : Pr a b f g) (y : Pr a b g h) : Pr a b f h := by
  obtain ⟨s, t, x1, x2, x3, x4, x5⟩ := x
  obtain ⟨s', t', y1, y2, y3, y4, y5⟩ := y
  refine ⟨fun k => s (s' k), fun k => t' (t k), fun k => by rw [y1, x1], fun k h1 h2 => ?_, fun k h => ?_, fun k => by show s (s' (t' (t k))) = k; rw [y4, x4], fun k => by show t' (t (s (s' k))) = k; rw [x5, y5]⟩
  · have := y2 k h1 h2; exact x2 _ this.1 this.2
  · show s (s' k) = k; rw [y3 k h, x3 k h]
theorem Pr.wide {a b a' b' : Nat} {f g : Nat → α} (x : Pr a b f g) (h1 : a' ≤ a) (h2 : b ≤ b') : Pr a' b' f g := by
  obtain ⟨s, t, x1, x2, x3, x4, x5⟩ := x
  refine ⟨s, t, x1, fun k h3 h4 => ?_, fun k h => x3 k (by omega), x4, x5⟩
  by_cases h : a ≤ k ∧ k < b
  · have := x2 k h.1 h.2; omega
  · rw [x3 k h]; omega
theorem Pr.out {a b : Nat} {f g : Nat → α} (x : Pr a b f g) {k : Nat} (h : ¬ (a ≤ k ∧ k < b)) : g k = f k := by
  obtain ⟨s, t, x1, x2, x3, x4, x5⟩ := x
  rw [x1, x3 k h]
theorem Pr.all {a b : Nat} {f g : Nat → α} (x : Pr a b f g) {P : α → Prop} (h : ∀ k, a ≤ k → k < b → P (f k)) (k : Nat) (h1 : a ≤ k) (h2 : k < b) : P (g k) := by
  obtain ⟨s, t, x1, x2, x3, x4, x5⟩ := x
  have := x2 k h1 h2
  rw [x1]; exact h _ this.1 this.2
theorem Pr.back {a b : Nat} {f g : Nat → α} (x : Pr a b f g) (k : Nat) (h1 : a ≤ k) (h2 : k < b) : ∃ j, a ≤ j ∧ j < b ∧ g j = f k := by
  obtain ⟨s, t, x1, x2, x3, x4, x5⟩ := x
  refine ⟨t k, ?_⟩
  by_cases h : a ≤ t k ∧ t k < b
  · exact ⟨h.1, h.2, by rw [x1, x4]⟩
  · have := x3 _ h
    rw [x4] at this
    omega
/-! ### swaps -/
def sw (f : Nat → α) (i j : Nat) : Nat → α := fun k => if k = i then f j else if k = j then f i else f k
theorem sw_pr {a b : Nat} (f : Nat → α) {i j : Nat} (h1 : a ≤ i) (h2 : i < b) (h3 : a ≤ j) (h4 : j < b) : Pr a b f (sw f i j) := by
  refine ⟨fun k => if k = i then j else if k = j then i else k, fun k => if k = i then j else if k = j then i else k, fun k => ?_, fun k x y => ?_, fun k x => ?_, fun k => ?_, fun k => ?_⟩
  · unfold sw; dsimp only; split
    · rfl
    · split <;> rfl
  · dsimp only; split <;> (try split) <;> omega
  · dsimp only; rw [if_neg (by omega), if_neg (by omega)]
  · dsimp only; split <;> (try split) <;> (try split) <;> (try split) <;> omega
  · dsimp only; split <;> (try split) <;> (try split) <;> (try split) <;> omega
/-- two ranges of n places, apart, swapped. -/
def swR (f : Nat → α) (x y n : Nat) : Nat → α := fun k => if x ≤ k ∧ k < x + n then f (k - x + y) else if y ≤ k ∧ k < y + n then f (k - y + x) else f k
theorem swR_zero (f : Nat → α) (x y : Nat) : swR f x y 0 = f := by
  funext k; unfold swR; rw [if_neg (by omega), if_neg (by omega)]
theorem swR_succ (f : Nat → α) (x y n : Nat) (h : x + n < y) : sw (swR f x y n) (x + n) (y + n) = swR f x y (n + 1) := by
  funext k
  unfold sw swR
  repeat' split
  all_goals first | rfl | (exfalso; omega) | (congr 1; omega)
/-! ### a row turned: [a, m) and [m, b) change places -/
def rot (f : Nat → α) (a m b : Nat) : Nat → α := fun k => if a ≤ k ∧ k < a + (b - m) then f (k + (m - a)) else if a + (b - m) ≤ k ∧ k < b then f (k - (b - m)) else f k
theorem rot_pr (f : Nat → α) {a m b : Nat} (h1 : a ≤ m) (h2 : m ≤ b) : Pr a b f (rot f a m b) := by
  refine ⟨fun k => if a ≤ k ∧ k < a + (b - m) then k + (m - a) else if a + (b - m) ≤ k ∧ k < b then k - (b - m) else k, fun k => if a ≤ k ∧ k < a + (m - a) then k + (b - m) else if a + (m - a) ≤ k ∧ k < b then k - (m - a) else k, fun k => ?_, fun k x y => ?_, fun k x => ?_, fun k => ?_, fun k => ?_⟩
  · unfold rot; dsimp only; split
    · rfl
    · split <;> rfl
  · dsimp only; split <;> (try split) <;> omega
  · dsimp only; rw [if_neg (by omega), if_neg (by omega)]
  · dsimp only; split <;> (try split) <;> (try split) <;> (try split) <;> omega
  · dsimp only; split <;> (try split) <;> (try split) <;> (try split) <;> omega
theorem rot_none (f : Nat → α) {a m b : Nat} (h : a = m ∨ m = b) (h1 : a ≤ m) (h2 : m ≤ b) : rot f a m b = f := by
  funext k
  unfold rot
  split
  · rename_i hk; rcases h with h | h
    · congr 1; omega
    · omega
  · split
    · rename_i hk; rcases h with h | h
      · omega
      · congr 1; omega
    · rfl
theorem rot_more (f : Nat → α) {a m b : Nat} (h1 : a ≤ m) (h2 : m ≤ b) (h : b - m < m - a) : rot (swR f a m (b - m)) (a + (b - m)) m b = rot f a m b := by
  funext k
  unfold rot swR
  repeat' split
  all_goals first | rfl | (exfalso; omega) | (congr 1; omega)
theorem rot_less (f : Nat → α) {a m b : Nat} (h1 : a ≤ m) (h2 : m ≤ b) (h : m - a < b - m) : rot (swR f a (b - (m - a)) (m - a)) a m (b - (m - a)) = rot f a m b := by
  funext k
  unfold rot swR
  repeat' split
  all_goals first | rfl | (exfalso; omega) | (congr 1; omega)
theorem rot_even (f : Nat → α) {a m b : Nat} (h1 : a ≤ m) (h2 : m ≤ b) (h : m - a = b - m) : swR f a m (m - a) = rot f a m b := by
  funext k
  unfold rot swR
  repeat' split
  all_goals first | rfl | (exfalso; omega) | (congr 1; omega)
end Go.Proofs.YtpbcbpiolhjlhaaGreatDoor.So


namespace Go.Proofs.YtpbcbpiolhjlhaaGreatDoor.So
set_option linter.unusedVariables false
/-! ### plain: a heap in an array (batch's sink) -/
variable {β : Type} {lt : β → β → Bool}
/-- from r on each stands ahead of its kids. -/
def HP (lt : β → β → Bool) (r m : Nat) (h : Nat → β) : Prop := ∀ i c, r ≤ i → c < m → (c = 2 * i + 1 ∨ c = 2 * i + 2) → lt (h i) (h c) = true
/-- but at k; what stands above k is ahead of k's kids. -/
def HX (lt : β → β → Bool) (r k m : Nat) (h : Nat → β) : Prop := (∀ i c, r ≤ i → i ≠ k → c < m → (c = 2 * i + 1 ∨ c = 2 * i + 2) → lt (h i) (h c) = true) ∧ ∀ p c, r ≤ p → (k = 2 * p + 1 ∨ k = 2 * p + 2) → c < m → (c = 2 * k + 1 ∨ c = 2 * k + 2) → lt (h p) (h c) = true
/-- of two of them one is ahead. -/
def Tt (lt : β → β → Bool) (m : Nat) (h : Nat → β) : Prop := ∀ i j, i < m → j < m → i ≠ j → lt (h i) (h j) = true ∨ lt (h j) (h i) = true
theorem HX.start {r m : Nat} {h : Nat → β} (p : HP lt (r + 1) m h) : HX lt r r m h := ⟨fun i c a b x y => p i c (by omega) x y, fun p c a b => by omega⟩
theorem HX.top {m : Nat} {h g : Nat → β} (p : HP lt 0 m h) (m' : Nat) (hm : m' ≤ m) (e : ∀ i, 0 < i → i < m' → g i = h i) : HX lt 0 0 m' g := ⟨fun i c a b x y => by
  rw [e i (by omega) (by omega), e c (by omega) x]; exact p i c (by omega) (by omega) y, fun p c a b => by omega⟩
/-- k stands where it must. -/
theorem HX.done {r k m : Nat} {h : Nat → β} (p : HX lt r k m h) (q : ∀ c, c < m → (c = 2 * k + 1 ∨ c = 2 * k + 2) → lt (h k) (h c) = true) : HP lt r m h := fun i c a b x => by
  by_cases e : i = k
  · subst e; exact q c b x
  · exact p.1 i c a e b x
theorem sw_l (f : Nat → β) {i j : Nat} : sw f i j i = f j := by unfold sw; rw [if_pos rfl]
theorem sw_r (f : Nat → β) {i j : Nat} : sw f i j j = f i := by unfold sw; split <;> simp_all
theorem sw_o (f : Nat → β) {i j k : Nat} (a : k ≠ i) (b : k ≠ j) : sw f i j k = f k := by unfold sw; rw [if_neg a, if_neg b]
/-- k and its kid c, the one that is ahead, change places. -/
theorem HX.step (tr : ∀ x y z, lt x y = true → lt y z = true → lt x z = true) {r k c m : Nat} {h : Nat → β} (hrk : r ≤ k) (p : HX lt r k m h) (hc : c < m) (hk : c = 2 * k + 1 ∨ c = 2 * k + 2) (a1 : lt (h c) (h k) = true)
    (a2 : ∀ d, d < m → (d = 2 * k + 1 ∨ d = 2 * k + 2) → d ≠ c → lt (h c) (h d) = true) : HX lt r c m (sw h k c) := by
  have ck : c ≠ k := by omega
  refine ⟨fun i d a b x y => ?_, fun q d a b x y => ?_⟩
  · by_cases e : i = k
    · subst e
      rw [sw_l]
      by_cases f : d = c
      · subst f; rw [sw_r]; exact a1
      · rw [sw_o _ (by omega) f]; exact a2 d x y f
    · rw [sw_o _ e b]
      by_cases f : d = k
      · subst f
        rw [sw_l]; exact p.2 i c a (by omega) hc hk
      · by_cases g : d = c
        · omega
        · rw [sw_o _ f g]; exact p.1 i d a e x y
  · have e : q = k := by omega
    subst e
    rw [sw_l, sw_o _ (by omega) (by omega)]
    exact p.1 c d (by omega) ck x y
theorem HP.none (m : Nat) (h : Nat → β) : HP lt m m h := fun i c a b x => by omega
/-- the first one is ahead of all others. -/
theorem HP.least (tr : ∀ x y z, lt x y = true → lt y z = true → lt x z = true) {m : Nat} {h : Nat → β} (p : HP lt 0 m h) : ∀ i, i < m → i = 0 ∨ lt (h 0) (h i) = true := by
  intro i
  induction i using Nat.strongRecOn with
  | _ i ih =>
    intro hi
    by_cases e : i = 0
    · exact Or.inl e
    · right
      have h1 := p ((i - 1) / 2) i (Nat.zero_le _) hi (by omega)
      rcases ih ((i - 1) / 2) (by omega) (by omega) with q | q
      · rw [q] at h1; exact h1
      · exact tr _ _ _ q h1
end Go.Proofs.YtpbcbpiolhjlhaaGreatDoor.So


namespace Go.Proofs.YtpbcbpiolhjlhaaGreatDoor.So
set_option linter.unusedVariables false
/-! ### plain: pieces in order, laid into a heap, taken off (batch's sorted) -/
variable {ah : Nat → Nat → Bool}
/-- an order of the places below n. -/
structure AO (ah : Nat → Nat → Bool) (n : Nat) : Prop where
  irr : ∀ i, i < n → ah i i = false
  tr : ∀ i j k, ah i j = true → ah j k = true → ah i k = true
  tot : ∀ i j, i < n → j < n → i ≠ j → ah i j = true ∨ ah j i = true
/-- a piece: the places [s, e), in order. -/
abbrev Pc := Nat × Nat
def Run (ah : Nat → Nat → Bool) (p : Pc) : Prop := p.1 < p.2 ∧ ∀ j, p.1 < j → j < p.2 → ah (j - 1) j = true
theorem Run.ahead {n : Nat} (o : AO ah n) {p : Pc} (h : Run ah p) : ∀ j, p.1 < j → j < p.2 → ah p.1 j = true := by
  intro j
  induction j with
  | zero => intro a; omega
  | succ j ih =>
    intro a b
    have h1 := h.2 (j + 1) a b
    rw [Nat.add_sub_cancel] at h1
    by_cases c : p.1 = j
    · rw [c]; exact h1
    · exact o.tr _ _ _ (ih (by omega) (by omega)) h1
def hl (ah : Nat → Nat → Bool) : Pc → Pc → Bool := fun x y => ah x.1 y.1
/-- m pieces, apart, of places below n. -/
structure Ps (ah : Nat → Nat → Bool) (n m : Nat) (h : Nat → Pc) : Prop where
  run : ∀ i, i < m → Run ah (h i) ∧ (h i).2 ≤ n
  apart : ∀ i j p, i < m → j < m → i ≠ j → (h i).1 ≤ p → p < (h i).2 → ¬ ((h j).1 ≤ p ∧ p < (h j).2)
def Rem (m : Nat) (h : Nat → Pc) (p : Nat) : Prop := ∃ i, i < m ∧ (h i).1 ≤ p ∧ p < (h i).2
theorem Ps.tt {n m : Nat} {h : Nat → Pc} (o : AO ah n) (q : Ps ah n m h) : Tt (hl ah) m h := fun i j hi hj hne => by
  have a := q.run i hi
  have b := q.run j hj
  refine o.tot _ _ (by have := a.1.1; omega) (by have := b.1.1; omega) fun e => ?_
  exact q.apart i j (h i).1 hi hj hne (Nat.le_refl _) a.1.1 ⟨by omega, by have := b.1.1; omega⟩
theorem Ps.pr {n m : Nat} {h g : Nat → Pc} (q : Ps ah n m h) (p : Pr 0 m h g) : Ps ah n m g := by
  obtain ⟨s, u, x1, x2, x3, x4, x5⟩ := p
  refine ⟨fun i hi => by rw [x1]; exact q.run _ (x2 i (Nat.zero_le _) hi).2, fun i j p hi hj hne => ?_⟩
  rw [x1, x1]
  exact q.apart _ _ p (x2 i (Nat.zero_le _) hi).2 (x2 j (Nat.zero_le _) hj).2 (fun e => hne (by have := congrArg u e; rw [x5, x5] at this; exact this))
theorem Rem.pr {m : Nat} {h g : Nat → Pc} (p : Pr 0 m h g) (x : Nat) : Rem m g x ↔ Rem m h x := by
  constructor
  · rintro ⟨i, hi, a, b⟩
    obtain ⟨s, u, x1, x2, x3, x4, x5⟩ := p
    rw [x1] at a b
    exact ⟨s i, (x2 i (Nat.zero_le _) hi).2, a, b⟩
  · rintro ⟨i, hi, a, b⟩
    obtain ⟨j, _, hj, e⟩ := p.back i (Nat.zero_le _) hi
    exact ⟨j, hj, by rw [e]; exact a, by rw [e]; exact b⟩
/-- what stands while the first of all is taken off: out is in order, ahead of all that remain; each place is in just one of both. -/
structure So1 (ah : Nat → Nat → Bool) (n m : Nat) (h : Nat → Pc) (out : List Nat) : Prop where
  ps : Ps ah n m h
  ord : out.Pairwise fun x y => ah x y = true
  fore : ∀ x p, x ∈ out → Rem m h p → ah x p = true
  all : ∀ p, p < n ↔ (p ∈ out ∨ Rem m h p)
theorem So1.pr {n m : Nat} {h g : Nat → Pc} {out : List Nat} (s : So1 ah n m h out) (p : Pr 0 m h g) : So1 ah n m g out :=
  ⟨s.ps.pr p, s.ord, fun x q a b => s.fore x q a ((Rem.pr p q).1 b), fun q => by rw [s.all q, Rem.pr p q]⟩
/-- the first of all. -/
theorem So1.first {n m : Nat} {h : Nat → Pc} {out : List Nat} (o : AO ah n) (s : So1 ah n m h out) (hp : HP (hl ah) 0 m h) (hm : 0 < m) : ∀ p, Rem m h p → p = (h 0).1 ∨ ah (h 0).1 p = true := by
  rintro p ⟨i, hi, a, b⟩
  have hr := s.ps.run i hi
  rcases hp.least (fun x y z => o.tr x.1 y.1 z.1) i hi with e | e
  · subst e
    by_cases c : p = (h 0).1
    · exact Or.inl c
    · exact Or.inr (hr.1.ahead o p (by omega) b)
  · right
    by_cases c : p = (h i).1
    · rw [c]; exact e
    · exact o.tr _ _ _ e (hr.1.ahead o p (by omega) b)
/-- of the first piece more is left. -/
theorem So1.more {n m : Nat} {h g : Nat → Pc} {out : List Nat} (o : AO ah n) (s : So1 ah n m h out) (hp : HP (hl ah) 0 m h) (hm : 0 < m) (h1 : (h 0).1 + 1 < (h 0).2) (g0 : g 0 = ((h 0).1 + 1, (h 0).2)) (ge : ∀ i, 0 < i → i < m → g i = h i) : So1 ah n m g (out ++ [(h 0).1]) := by
  have fst := s.first o hp hm
  have rg : ∀ p, Rem m g p ↔ (Rem m h p ∧ p ≠ (h 0).1) := fun p => by
    constructor
    · rintro ⟨i, hi, a, b⟩
      by_cases e : i = 0
      · subst e; rw [g0] at a b; simp only at a b
        exact ⟨⟨0, hm, by omega, b⟩, by omega⟩
      · rw [ge i (by omega) hi] at a b
        exact ⟨⟨i, hi, a, b⟩, fun q => s.ps.apart i 0 p hi hm e a b ⟨by omega, by omega⟩⟩
    · rintro ⟨⟨i, hi, a, b⟩, ne⟩
      by_cases e : i = 0
      · subst e; exact ⟨0, hm, by rw [g0]; show _ + 1 ≤ p; omega, by rw [g0]; exact b⟩
      · exact ⟨i, hi, by rw [ge i (by omega) hi]; exact a, by rw [ge i (by omega) hi]; exact b⟩
  refine ⟨⟨fun i hi => ?_, fun i j p hi hj hne a b c => ?_⟩, ?_, fun x p hx hr => ?_, fun p => ?_⟩
  · by_cases e : i = 0
    · subst e
      have := s.ps.run 0 hm
      rw [g0]
      exact ⟨⟨h1, fun j a b => this.1.2 j (by simp only at a; omega) b⟩, this.2⟩
    · rw [ge i (by omega) hi]; exact s.ps.run i hi
  · have wide : ∀ k, k < m → (g k).1 ≤ p → p < (g k).2 → (h k).1 ≤ p ∧ p < (h k).2 := fun k hk x y => by
      by_cases e : k = 0
      · subst e; rw [g0] at x y; simp only at x y; exact ⟨by omega, y⟩
      · rw [ge k (by omega) hk] at x y; exact ⟨x, y⟩
    have w1 := wide i hi a b
    exact s.ps.apart i j p hi hj hne w1.1 w1.2 (wide j hj c.1 c.2)
  · rw [List.pairwise_append]
    refine ⟨s.ord, List.pairwise_singleton _ _, fun x hx y hy => ?_⟩
    rw [List.mem_singleton.1 hy]
    exact s.fore x _ hx ⟨0, hm, Nat.le_refl _, by omega⟩
  · obtain ⟨r, ne⟩ := (rg p).1 hr
    rcases List.mem_append.1 hx with e | e
    · exact s.fore x p e r
    · rw [List.mem_singleton.1 e]
      exact (fst p r).resolve_left ne
  · rw [s.all p, List.mem_append, List.mem_singleton, rg p]
    constructor
    · rintro (a | a)
      · exact Or.inl (Or.inl a)
      · by_cases e : p = (h 0).1
        · exact Or.inl (Or.inr e)
        · exact Or.inr ⟨a, e⟩
    · rintro ((a | a) | ⟨a, _⟩)
      · exact Or.inl a
      · right; rw [a]; exact ⟨0, hm, Nat.le_refl _, by omega⟩
      · exact Or.inr a
/-- the first piece is spent: the last one takes its place. -/
theorem So1.less {n m : Nat} {h g : Nat → Pc} {out : List Nat} (o : AO ah n) (s : So1 ah n (m + 1) h out) (hp : HP (hl ah) 0 (m + 1) h) (h1 : (h 0).2 = (h 0).1 + 1) (g0 : 0 < m → g 0 = h m) (ge : ∀ i, 0 < i → i < m → g i = h i) : So1 ah n m g (out ++ [(h 0).1]) := by
  have hm : 0 < m + 1 := by omega
  have fst := s.first o hp hm
  have gi : ∀ i, i < m → ∃ k, 0 < k ∧ k < m + 1 ∧ g i = h k ∧ (k = i ∨ (i = 0 ∧ k = m)) := fun i hi => by
    by_cases e : i = 0
    · subst e; exact ⟨m, hi, by omega, g0 hi, Or.inr ⟨rfl, rfl⟩⟩
    · exact ⟨i, by omega, by omega, ge i (by omega) hi, Or.inl rfl⟩
  have rg : ∀ p, Rem m g p ↔ (Rem (m + 1) h p ∧ p ≠ (h 0).1) := fun p => by
    constructor
    · rintro ⟨i, hi, a, b⟩
      obtain ⟨k, k0, k1, e, _⟩ := gi i hi
      rw [e] at a b
      exact ⟨⟨k, k1, a, b⟩, fun q => s.ps.apart k 0 p k1 hm (by omega) a b ⟨by omega, by omega⟩⟩
    · rintro ⟨⟨i, hi, a, b⟩, ne⟩
      have i0 : i ≠ 0 := fun e => by subst e; omega
      by_cases e : i = m
      · subst e; exact ⟨0, by omega, by rw [g0 (by omega)]; exact a, by rw [g0 (by omega)]; exact b⟩
      · exact ⟨i, by omega, by rw [ge i (by omega) (by omega)]; exact a, by rw [ge i (by omega) (by omega)]; exact b⟩
  refine ⟨⟨fun i hi => ?_, fun i j p hi hj hne a b c => ?_⟩, ?_, fun x p hx hr => ?_, fun p => ?_⟩
  · obtain ⟨k, k0, k1, e, _⟩ := gi i hi
    rw [e]; exact s.ps.run k k1
  · obtain ⟨k, k0, k1, e, e2⟩ := gi i hi
    obtain ⟨l, l0, l1, f, f2⟩ := gi j hj
    rw [e] at a b
    rw [f] at c
    exact s.ps.apart k l p k1 l1 (by omega) a b c
  · rw [List.pairwise_append]
    refine ⟨s.ord, List.pairwise_singleton _ _, fun x hx y hy => ?_⟩
    rw [List.mem_singleton.1 hy]
    exact s.fore x _ hx ⟨0, hm, Nat.le_refl _, by omega⟩
  · obtain ⟨r, ne⟩ := (rg p).1 hr
    rcases List.mem_append.1 hx with e | e
    · exact s.fore x p e r
    · rw [List.mem_singleton.1 e]
      exact (fst p r).resolve_left ne
  · rw [s.all p, List.mem_append, List.mem_singleton, rg p]
    constructor
    · rintro (a | a)
      · exact Or.inl (Or.inl a)
      · by_cases e : p = (h 0).1
        · exact Or.inl (Or.inr e)
        · exact Or.inr ⟨a, e⟩
    · rintro ((a | a) | ⟨a, _⟩)
      · exact Or.inl a
      · right; rw [a]; exact ⟨0, hm, Nat.le_refl _, by omega⟩
      · exact Or.inr a
/-- what sorted tells: the places in order. -/
structure Sorted1 (ah : Nat → Nat → Bool) (n : Nat) (out : List Nat) : Prop where
  ord : out.Pairwise fun x y => ah x y = true
  all : ∀ p, p ∈ out ↔ p < n
theorem So1.done {n : Nat} {h : Nat → Pc} {out : List Nat} (s : So1 ah n 0 h out) : Sorted1 ah n out :=
  ⟨s.ord, fun p => by rw [s.all p]; exact ⟨Or.inl, fun a => a.resolve_right (by rintro ⟨i, hi, _⟩; omega)⟩⟩
/-- pieces of the first x places, cut as they come. -/
structure Cts (ah : Nat → Nat → Bool) (n m x : Nat) (h : Nat → Pc) : Prop where
  ps : Ps ah n m h
  upto : ∀ p, Rem m h p ↔ p < x
theorem Cts.zero (n : Nat) (h : Nat → Pc) : Cts ah n 0 0 h := ⟨⟨fun i hi => by omega, fun i j p hi => by omega⟩, fun p => ⟨fun ⟨i, hi, _⟩ => by omega, fun a => by omega⟩⟩
theorem Cts.more {n m x y : Nat} {h g : Nat → Pc} (c : Cts ah n m x h) (ge : ∀ i, i < m → g i = h i) (gm : g m = (x, y)) (r : Run ah (x, y)) (hy : y ≤ n) : Cts ah n (m + 1) y g := by
  have in_lt : ∀ i p, i < m → (h i).1 ≤ p → p < (h i).2 → p < x := fun i p hi a b => (c.upto p).1 ⟨i, hi, a, b⟩
  refine ⟨⟨fun i hi => ?_, fun i j p hi hj hne a b d => ?_⟩, fun p => ?_⟩
  · by_cases e : i = m
    · subst e; rw [gm]; exact ⟨r, hy⟩
    · rw [ge i (by omega)]; exact c.ps.run i (by omega)
  · by_cases e : i = m
    · subst e
      rw [gm] at a b
      rw [ge j (by omega)] at d
      have := in_lt j p (by omega) d.1 d.2
      simp only at a; omega
    · rw [ge i (by omega)] at a b
      have h1 := in_lt i p (by omega) a b
      by_cases f : j = m
      · subst f; rw [gm] at d; have := d.1; simp only at this; omega
      · rw [ge j (by omega)] at d
        exact c.ps.apart i j p (by omega) (by omega) hne a b d
  · constructor
    · rintro ⟨i, hi, a, b⟩
      by_cases e : i = m
      · subst e; rw [gm] at b; exact b
      · rw [ge i (by omega)] at a b
        have := in_lt i p (by omega) a b
        have := r.1; simp only at this; omega
    · intro hp
      by_cases e : p < x
      · obtain ⟨i, hi, a, b⟩ := (c.upto p).2 e
        exact ⟨i, by omega, by rw [ge i hi]; exact a, by rw [ge i hi]; exact b⟩
      · exact ⟨m, by omega, by rw [gm]; show x ≤ p; omega, by rw [gm]; exact hp⟩
theorem Cts.start {n m : Nat} {h : Nat → Pc} (c : Cts ah n m n h) : So1 ah n m h [] := ⟨c.ps, List.Pairwise.nil, fun x p hx => absurd hx (by simp), fun p => ⟨fun a => Or.inr ((c.upto p).2 a), fun a => (c.upto p).1 (a.resolve_left (by simp))⟩⟩
end Go.Proofs.YtpbcbpiolhjlhaaGreatDoor.So


namespace Go.Proofs.YtpbcbpiolhjlhaaGreatDoor.So
set_option linter.unusedVariables false
variable {α : Type} {R : α → α → Prop} {lt : α → α → Bool}
/-- [a, b) stands in order. -/
def Sd (R : α → α → Prop) (a b : Nat) (f : Nat → α) : Prop := ∀ i j, a ≤ i → i < j → j < b → R (f i) (f j)
/-- of [a, m) and [m, b) lt tells which is ahead. -/
def Xs (R : α → α → Prop) (lt : α → α → Bool) (a m b : Nat) (f : Nat → α) : Prop := ∀ i j, a ≤ i → i < m → m ≤ j → j < b → (lt (f j) (f i) = true → R (f j) (f i)) ∧ (lt (f j) (f i) = false → R (f i) (f j))
theorem Sd.sub {a b a' b' : Nat} {f : Nat → α} (h : Sd R a b f) (h1 : a ≤ a') (h2 : b' ≤ b) : Sd R a' b' f := fun i j x y z => h i j (by omega) y (by omega)
theorem Sd.up {a b : Nat} {f : Nat → α} (tr : ∀ x y z, R x y → R y z → R x z) (h : Sd R a b f) {i j : Nat} {x : α} (h1 : a ≤ i) (h2 : i ≤ j) (h3 : j < b) (hx : R x (f i)) : R x (f j) := by
  rcases Nat.lt_or_ge i j with c | c
  · exact tr _ _ _ hx (h i j h1 c h3)
  · have : i = j := by omega
    subst this; exact hx
theorem Sd.dn {a b : Nat} {f : Nat → α} (tr : ∀ x y z, R x y → R y z → R x z) (h : Sd R a b f) {i j : Nat} {x : α} (h1 : a ≤ i) (h2 : i ≤ j) (h3 : j < b) (hx : R (f j) x) : R (f i) x := by
  rcases Nat.lt_or_ge i j with c | c
  · exact tr _ _ _ (h i j h1 c h3) hx
  · have : i = j := by omega
    subst this; exact hx
theorem Sd.none {a b : Nat} (h : b ≤ a + 1) (f : Nat → α) : Sd R a b f := fun i j x y z => by omega
/-- two rows in order, all of the one ahead of all of the other. -/
theorem Sd.join {a m b : Nat} {f : Nat → α} (h1 : Sd R a m f) (h2 : Sd R m b f) (h : ∀ i j, a ≤ i → i < m → m ≤ j → j < b → R (f i) (f j)) : Sd R a b f := fun i j x y z => by
  by_cases c : j < m
  · exact h1 i j x y c
  · by_cases d : i < m
    · exact h i j x d (by omega) z
    · exact h2 i j (by omega) y z
/-- behind a turn of [s, m, e): where each place comes from. -/
theorem rot_at (f : Nat → α) {s m e : Nat} (h1 : s ≤ m) (h2 : m ≤ e) : (∀ k, k < s → rot f s m e k = f k) ∧ (∀ k, s ≤ k → k < s + (e - m) → rot f s m e k = f (k + (m - s))) ∧ (∀ k, s + (e - m) ≤ k → k < e → rot f s m e k = f (k - (e - m))) ∧ (∀ k, e ≤ k → rot f s m e k = f k) := by
  refine ⟨fun k h => ?_, fun k x y => ?_, fun k x y => ?_, fun k h => ?_⟩ <;> unfold rot
  · rw [if_neg (by omega), if_neg (by omega)]
  · rw [if_pos ⟨x, y⟩]
  · rw [if_neg (by omega), if_pos ⟨x, y⟩]
  · rw [if_neg (by omega), if_neg (by omega)]
/-! ### symMerge's middle -/
def s0 (a m b : Nat) : Nat := if (a + b) / 2 < m then (a + b) / 2 + m - b else a
def r0 (a m b : Nat) : Nat := if (a + b) / 2 < m then (a + b) / 2 else m
theorem s0_r0 {a m b : Nat} (h1 : a < m) (h2 : m < b) : s0 a m b ≤ r0 a m b ∧ a ≤ s0 a m b ∧ r0 a m b ≤ m ∧ r0 a m b ≤ (a + b) / 2 := by
  unfold s0 r0; split <;> omega
/-- the two places that are held against each other lie in their rows. -/
theorem s0_in {a m b c : Nat} (h1 : a < m) (h2 : m < b) (h3 : s0 a m b ≤ c) (h4 : c < r0 a m b) : a ≤ c ∧ c < m ∧ m ≤ (a + b) / 2 + m - 1 - c ∧ (a + b) / 2 + m - 1 - c < b := by
  unfold s0 at h3; unfold r0 at h4
  by_cases c0 : (a + b) / 2 < m
  · rw [if_pos c0] at h3 h4; omega
  · rw [if_neg c0] at h3 h4; omega
theorem s0_end {a m b s : Nat} (h1 : a < m) (h2 : m < b) (h3 : s0 a m b ≤ s) (h4 : s ≤ r0 a m b) : a ≤ s ∧ s ≤ m ∧ s ≤ (a + b) / 2 ∧ (a + b) / 2 ≤ (a + b) / 2 + m - s ∧ m ≤ (a + b) / 2 + m - s ∧ (a + b) / 2 + m - s ≤ b := by
  unfold s0 at h3; unfold r0 at h4
  by_cases c0 : (a + b) / 2 < m
  · rw [if_pos c0] at h3 h4; omega
  · rw [if_neg c0] at h3 h4; omega
/-- the search for the place: what it found at c tells of all on that side. -/
theorem find_lo (tr : ∀ x y z, R x y → R y z → R x z) {a m b : Nat} {f : Nat → α} (h1 : a < m) (h2 : m < b) (L : Sd R a m f) (M : Sd R m b f) {c : Nat} (h3 : s0 a m b ≤ c) (h4 : c < r0 a m b) (h : R (f c) (f ((a + b) / 2 + m - 1 - c))) :
    ∀ k, s0 a m b ≤ k → k ≤ c → R (f k) (f ((a + b) / 2 + m - 1 - k)) := fun k x y => by
  have i1 := s0_in h1 h2 h3 h4
  have i2 := s0_in h1 h2 x (by omega)
  exact M.up tr i1.2.2.1 (by omega) i2.2.2.2 (L.dn tr i2.1 y i1.2.1 h)
theorem find_hi (tr : ∀ x y z, R x y → R y z → R x z) {a m b : Nat} {f : Nat → α} (h1 : a < m) (h2 : m < b) (L : Sd R a m f) (M : Sd R m b f) {c : Nat} (h3 : s0 a m b ≤ c) (h4 : c < r0 a m b) (h : R (f ((a + b) / 2 + m - 1 - c)) (f c)) :
    ∀ k, c ≤ k → k < r0 a m b → R (f ((a + b) / 2 + m - 1 - k)) (f k) := fun k x y => by
  have i1 := s0_in h1 h2 h3 h4
  have i2 := s0_in h1 h2 (show s0 a m b ≤ k by omega) y
  exact M.dn tr i2.2.2.1 (by omega) i1.2.2.2 (L.up tr i1.1 x i2.2.1 h)
/-- the row turned at the place found: its two halves each two rows in order, all of the first half ahead of all of the second. -/
theorem mid_ok (tr : ∀ x y z, R x y → R y z → R x z) {a m b s : Nat} {f : Nat → α} (h1 : a < m) (h2 : m < b) (L : Sd R a m f) (M : Sd R m b f) (X : Xs R lt a m b f) (h3 : s0 a m b ≤ s) (h4 : s ≤ r0 a m b)
    (lo : ∀ c, s0 a m b ≤ c → c < s → R (f c) (f ((a + b) / 2 + m - 1 - c))) (hi : ∀ c, s ≤ c → c < r0 a m b → R (f ((a + b) / 2 + m - 1 - c)) (f c)) :
    (Sd R a s (rot f s m ((a + b) / 2 + m - s)) ∧ Sd R s ((a + b) / 2) (rot f s m ((a + b) / 2 + m - s)) ∧ Xs R lt a s ((a + b) / 2) (rot f s m ((a + b) / 2 + m - s))) ∧
    (Sd R ((a + b) / 2) ((a + b) / 2 + m - s) (rot f s m ((a + b) / 2 + m - s)) ∧ Sd R ((a + b) / 2 + m - s) b (rot f s m ((a + b) / 2 + m - s)) ∧ Xs R lt ((a + b) / 2) ((a + b) / 2 + m - s) b (rot f s m ((a + b) / 2 + m - s))) ∧
    (∀ i j, a ≤ i → i < (a + b) / 2 → (a + b) / 2 ≤ j → j < b → R (rot f s m ((a + b) / 2 + m - s) i) (rot f s m ((a + b) / 2 + m - s) j)) := by
  obtain ⟨e1, e2, e3, e4, e5, e6⟩ := s0_end h1 h2 h3 h4
  have q0 : s = s0 a m b → s = a ∨ (a + b) / 2 + m - s = b := fun e => by unfold s0 at e; split at e <;> omega
  have q1 : s = r0 a m b → s = (a + b) / 2 ∨ s = m := fun e => by unfold r0 at e; split at e <;> omega
  generalize hd : (a + b) / 2 = d at *
  generalize ht : d + m - s = t at *
  obtain ⟨g1, g2, g3, g4⟩ := rot_at f e2 e5
  have ed : s + (t - m) = d := by omega
  rw [ed] at g2 g3
  have cr1 : ∀ i j, a ≤ i → i < s → t ≤ j → j < b → R (f i) (f j) := fun i j x y z v => by
    rcases Nat.lt_or_ge (s0 a m b) s with c | c
    · have := lo (s - 1) (by omega) (by omega)
      rw [show d + m - 1 - (s - 1) = t by omega] at this
      exact M.up tr (by omega) z v (L.dn tr x (by omega) (by omega) this)
    · have := q0 (by omega); omega
  have cr2 : ∀ i j, m ≤ i → i < t → s ≤ j → j < m → R (f i) (f j) := fun i j x y z v => by
    rcases Nat.lt_or_ge s (r0 a m b) with c | c
    · have := hi s (by omega) c
      rw [show d + m - 1 - s = t - 1 by omega] at this
      exact M.dn tr x (by omega) (by omega) (L.up tr (by omega) z v this)
    · have := q1 (by omega); omega
  refine ⟨⟨fun i j x y z => ?_, fun i j x y z => ?_, fun i j x y z v => ?_⟩, ⟨fun i j x y z => ?_, fun i j x y z => ?_, fun i j x y z v => ?_⟩, fun i j x y z v => ?_⟩
  · rw [g1 i (by omega), g1 j z]; exact L i j x y (by omega)
  · rw [g2 i x (by omega), g2 j (by omega) z]; exact M _ _ (by omega) (by omega) (by omega)
  · rw [g1 i y, g2 j z v]; exact X _ _ x (by omega) (by omega) (by omega)
  · rw [g3 i x (by omega), g3 j (by omega) z]; exact L _ _ (by omega) (by omega) (by omega)
  · rw [g4 i x, g4 j (by omega)]; exact M i j (by omega) y z
  · rw [g3 i x y, g4 j z]; exact X _ _ (by omega) (by omega) (by omega) v
  · by_cases c : i < s
    · rw [g1 i c]
      by_cases e : j < t
      · rw [g3 j z e]; exact L _ _ x (by omega) (by omega)
      · rw [g4 j (by omega)]; exact cr1 i j x c (by omega) v
    · rw [g2 i (by omega) y]
      by_cases e : j < t
      · rw [g3 j z e]; exact cr2 _ _ (by omega) (by omega) (by omega) (by omega)
      · rw [g4 j (by omega)]; exact M _ _ (by omega) (by omega) v
/-- its two halves put into order, each in its own places: the whole. -/
theorem halves_ok {a d b : Nat} {f g h : Nat → α} (h1 : a ≤ d) (h2 : d ≤ b) (hx : ∀ i j, a ≤ i → i < d → d ≤ j → j < b → R (f i) (f j)) (p : Pr a d f g) (sg : Sd R a d g) (q : Pr d b g h) (sh : Sd R d b h) : Sd R a b h ∧ Pr a b f h := by
  refine ⟨Sd.join (fun i j x y z => ?_) sh fun i j x y z v => ?_, (p.wide (Nat.le_refl _) h2).trans (q.wide h1 (Nat.le_refl _))⟩
  · rw [q.out (by omega), q.out (by omega)]; exact sg i j x y z
  · rw [q.out (k := i) (by omega)]
    have k1 : ∀ k, a ≤ k → k < d → R (g k) (h j) := p.all (P := fun e => R e (h j)) fun k x y => by
      have : ∀ l, d ≤ l → l < b → R (f k) (h l) := q.all (P := fun e => R (f k) e) fun l x' y' => by rw [p.out (by omega)]; exact hx k l x y x' y'
      exact this j z v
    exact k1 i x y
end Go.Proofs.YtpbcbpiolhjlhaaGreatDoor.So
