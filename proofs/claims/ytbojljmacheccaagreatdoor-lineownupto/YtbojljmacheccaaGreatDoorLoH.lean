
import Derived.Test.YtbojljmacheccaaGreatDoorMaKq
import Derived.Test.YtbojljmacheccaaGreatDoorMbV
import Derived.Test.YtbojljmacheccaaGreatDoorLaL
import Derived.Test.YtbojljmacheccaaGreatDoorLaI
namespace Go.Proofs.YtbojljmacheccaaGreatDoor.Lo
open Go.RowKit Go.Shelf _root_.Go.Proofs.YtbojljmacheccaaGreatDoor.Ln
attribute [local go_sem] Oper.semAt_some
set_option linter.unusedVariables false
set_option linter.unusedSimpArgs false
set_option maxRecDepth 100000
/-! ### LineOwn. -/
/-- the book, all of it from N on. -/
def BJ (N n : Nat) (w : World) : Prop := ∃ Own, Mb.BB N (N + 1) n Own w ∧ ∀ q, Own q → N ≤ q
theorem BJ.below {N n : Nat} {w w' : World} (h : BJ N n w) (b : Below w.heap.size w w') : BJ N n w' := by
  obtain ⟨O, bb, hi⟩ := h
  exact ⟨O, bb.below b, hi⟩
theorem BJ.lt {N n : Nat} {w : World} (h : BJ N n w) : N < w.heap.size := by
  obtain ⟨O, bb, _⟩ := h
  have := bb.nC; omega
theorem BJ.more {N n n' : Nat} {w : World} (h : BJ N n w) (hn : n ≤ n') : BJ N n' w := by
  obtain ⟨O, bb, hi⟩ := h
  exact ⟨O, bb.more hn (fun q e => e) bb.lt, hi⟩
theorem BJ.start (w : World) : BJ w.heap.size 0 (w.alloc (.cells (Array.replicate 28 (.slice none 0 0)) 73)) := ⟨_, Mb.BB.start w, fun q e => by omega⟩
theorem BJ.alone {N n : Nat} {w : World} (h : BJ N n w) (hn : n ≤ 4194304) :
    Calls Tryz.prog 18 #[.pointer (some ⟨N, 0, none⟩)] w fun e w' => e = .returned (.bool true) ∧ Below N w w' := by
  obtain ⟨O, bb, hi⟩ := h
  have nC := bb.nC
  exact (bb.alone hn).mono fun e w' ⟨e1, k⟩ => ⟨e1, k.below (by omega) (fun q hq c => by have := hi q c; omega)⟩
def tgE (t : TagP) : Bk5.E2 := (.string t.1, .string t.2)
theorem enc_tg (l : List TagP) : Bk5.enc (l.map tgE) = encT l := by
  induction l with
  | nil => rfl
  | cons s r ih => simp only [List.map_cons, Bk5.enc, encT, ih, tgE, List.cons_append, List.nil_append]
theorem oe_T {w : World} {B : Nat} {v : Value} {l : List TagP} (h : OT w B v l) : Bk5.OE w B v (l.map tgE) := by
  unfold Bk5.OE
  rw [List.length_map, enc_tg]
  exact h
def fdE (f : FdP) : Bk6.EK := (.string f.1, .int .i64 f.2)
theorem enc_fd (l : List FdP) : Bk6.enc (l.map fdE) = encF l := by
  induction l with
  | nil => rfl
  | cons s r ih => simp only [List.map_cons, Bk6.enc, encF, ih, fdE, List.cons_append, List.nil_append]
theorem oe_F {w : World} {B : Nat} {v : Value} {l : List FdP} (h : OF w B v l) : Bk6.OE w B v (l.map fdE) := by
  unfold Bk6.OE
  rw [List.length_map, enc_fd]
  exact h
def ptE (u : PtQ) : Bk17.EK := (.string u.p.m, vT u, vF u, .int .i64 u.p.tm)
theorem enc_pt (l : List PtQ) : Bk17.enc (l.map ptE) = encQ l := by
  induction l with
  | nil => rfl
  | cons s r ih => simp only [List.map_cons, Bk17.enc, encQ, ih, ptE, vT, vF, List.cons_append, List.nil_append]
/-- what a row of points owns. -/
def ownR (v : Value) (L : List PtQ) (q : Nat) : Prop := v.ownBlock = some q ∨ ∃ t ∈ L, ownQ t q
theorem takeG {N n B : Nat} {Own : Nat → Prop} {w : World} {v : Value} {L : List PtQ} (bb : Mb.BB N (N + 1) n Own w) (hi : ∀ q, Own q → N ≤ q) (d : OPl w B v L) (hl : L.length ≤ 1048576) (hB : N + 1 ≤ B) (ho : ∀ q, ownR v L q → ¬ Own q) (hn : n + 2 * L.length + 1 ≤ 4194304) :
    Calls Tryz.prog 16 #[.pointer (some ⟨N, 0, none⟩), v] w fun e w' => e = .returned undef ∧ (∃ Own', Mb.BB N (N + 1) (n + 2 * L.length + 1) Own' w' ∧ (∀ q, Own' q → N ≤ q) ∧ (∀ q, Own' q → Own q ∨ ownR v L q ∨ w.heap.size ≤ q)) ∧ Mb.KO Own w w' := by
  have nC := bb.nC
  have mm : ∀ x ∈ L.map ptE, ∃ t ∈ L, x = ptE t := fun x hx => by
    obtain ⟨t, h1, h2⟩ := List.mem_map.1 hx
    exact ⟨t, h1, h2.symm⟩
  have gm : ∀ (i : Nat) (x : Bk17.EK), (L.map ptE)[i]? = some x → ∃ t, L[i]? = some t ∧ x = ptE t := fun i x hx => by
    rw [List.getElem?_map, Option.map_eq_some_iff] at hx
    obtain ⟨t, h1, h2⟩ := hx
    exact ⟨t, h1, h2.symm⟩
  have o : Bk17.OE w B v (L.map ptE) := by
    unfold Bk17.OE
    rw [List.length_map, enc_pt]
    exact d.own
  have qr : ∀ q, Mb.Q17 v (L.map ptE) (L.map ptE).length q → ownR v L q := fun q e => by
    rcases e with e | ⟨j, x, _, hx, e⟩
    · exact Or.inl e
    · obtain ⟨t, h1, rfl⟩ := gm j x hx
      exact Or.inr ⟨t, List.mem_of_getElem? h1, e⟩
  have bd : ∀ q, ownR v L q → B ≤ q ∧ q < w.heap.size := fun q e => by
    rcases e with e | ⟨t, ht, e⟩
    · exact World.ownsRow.lt d.own q e
    · exact d.lt ht e
  refine (bb.take17 o (by rw [List.length_map]; omega) (fun x hx => ?_) (fun x hx => ?_) (fun q e => ?_) (fun q e x hx => ?_) (fun i j x y q hij hx hy e => ?_) (fun x hx q e => ?_) (by rw [List.length_map]; omega)).mono fun e w' ⟨e1, b1, k⟩ => ⟨e1, ⟨_, b1.more (by rw [List.length_map]; omega) (fun q e => e) b1.lt, fun q c => ?_, fun q c => ?_⟩, k⟩
  · obtain ⟨t, h1, rfl⟩ := mm x hx
    exact ⟨_, oe_T (d.dt t h1).1, by rw [List.length_map]; have := (d.sz t h1).1; omega⟩
  · obtain ⟨t, h1, rfl⟩ := mm x hx
    exact ⟨_, oe_F (d.dt t h1).2, by rw [List.length_map]; have := (d.sz t h1).2; omega⟩
  · have := bd q (qr q e)
    exact ⟨by omega, ho q (qr q e), this.2⟩
  · obtain ⟨t, h1, rfl⟩ := mm x hx
    exact fun c => d.dv t h1 q c e
  · obtain ⟨t, h1, rfl⟩ := gm i x hx
    obtain ⟨u, h2, rfl⟩ := gm j y hy
    obtain ⟨l1, e1⟩ := List.getElem?_eq_some_iff.1 h1
    obtain ⟨l2, e2⟩ := List.getElem?_eq_some_iff.1 h2
    have := List.pairwise_iff_getElem.1 d.pw i j l1 l2 hij
    rw [e1, e2] at this
    exact this q e
  · obtain ⟨t, h1, rfl⟩ := mm x hx
    exact d.df t h1 q e
  · rcases c with c | c | c
    · exact hi q c
    · have := (bd q (qr q c)).1; omega
    · omega
  · rcases c with c | c | c
    · exact Or.inl c
    · exact Or.inr (Or.inl (qr q c))
    · exact Or.inr (Or.inr c.1)
/-! how many points there are. -/
theorem cut_two : ∀ l : By, (cutF l).2 = [] ∨ (cutF l).1.length + 1 + (cutF l).2.length ≤ l.length
  | [] => Or.inl rfl
  | c :: r => by
    unfold cutF
    split
    · exact Or.inr (by simp; omega)
    · rcases cut_two r with h | h
      · exact Or.inl h
      · exact Or.inr (by simp only [List.length_cons]; omega)
def wS (xs : List (Nat × By)) : Nat := (xs.map fun x => x.2.length + 1).sum
theorem lines_w : ∀ (f n : Nat) (l : By), wS (linesB f n l) ≤ l.length + 1
  | 0, _, _ => by simp [linesB, wS]
  | f + 1, n, l => by
    unfold linesB
    split
    · simp [wS]
    · have ih := lines_w f (n + 1) (cutF l).2
      have h1 := cut_one l
      show (cutF l).1.length + 1 + wS (linesB f (n + 1) (cutF l).2) ≤ _
      rcases cut_two l with h | h
      · rw [h]
        have : wS (linesB f (n + 1) []) = 0 := by cases f <;> simp [linesB, wS]
        omega
      · omega
theorem run_w : ∀ (xs : List (Nat × By)) (acc ps : List Pt), runA acc xs = .ok ps → 2 * ps.length ≤ 2 * acc.length + wS xs
  | [], acc, ps, h => by unfold runA at h; injection h with h; subst h; simp
  | x :: r, acc, ps, h => by
    rw [runA_cons] at h
    have e : wS (x :: r) = x.2.length + 1 + wS r := rfl
    split at h
    · have := run_w r acc ps h; omega
    · rename_i hs
      have hx : x.2 ≠ [] := fun q => hs (by unfold skipB; rw [q]; rfl)
      have : 0 < x.2.length := List.length_pos_iff.2 hx
      split at h
      · cases h
      · have := run_w r _ ps h; simp at this; omega
theorem parO_half {l : By} {ps : List Pt} (h : parO l = .ok ps) : 2 * ps.length ≤ l.length + 1 := by
  unfold parO at h
  have h1 := run_w _ _ _ h
  have h2 := lines_w l.length 0 l
  simp at h1; omega
theorem parP_half (l : By) : 2 * (parP l).length ≤ l.length + 1 := by
  unfold parP
  cases h : parO l with
  | ok ps => have := parO_half h; simpa using this
  | error x => simp
/-- Parse, its row told deeply. -/
theorem parse_dP (s : ByteArray) (w : World) (hg : LT w) (hs : s.size ≤ 549755813888) : Calls Tryz.prog 14 #[.string s] w fun e w' => ∃ a c L, e = .returned (.tuple #[.slice a (parP s.data.toList).length c, parE s.data.toList]) ∧ OPl w' w.heap.size (.slice a (parP s.data.toList).length c) L ∧ L.length = (parP s.data.toList).length ∧ Below w.heap.size w w' := by
  refine (parse_d s w hg hs).mono ?_
  intro e w' h
  unfold EndP at h
  unfold parP parE
  cases ho : parO s.data.toList with
  | ok ps =>
    rw [ho] at h
    obtain ⟨v, L, e1, h1, h2, hb⟩ := h
    obtain ⟨a, c, ev⟩ := h1.slice
    have hl : L.length = (ps.map ptB).length := by rw [← h2, List.length_map]
    rw [hl] at ev
    subst ev
    exact ⟨a, c, L, e1, h1, hl, hb⟩
  | error x =>
    rw [ho] at h
    exact ⟨none, 0, [], h.1, OPl.nil _ _, rfl, h.2⟩
end Go.Proofs.YtbojljmacheccaaGreatDoor.Lo

namespace Go.Proofs.YtbojljmacheccaaGreatDoor.Lo
open Go.RowKit Go.Shelf _root_.Go.Proofs.YtbojljmacheccaaGreatDoor.Ln
attribute [local go_sem] Oper.semAt_some
set_option linter.unusedVariables false
set_option linter.unusedSimpArgs false
set_option maxRecDepth 100000
/-! ### LineOwn: the steps. -/
def ptO (t : PtQ) : Obj := .cells #[.string t.p.m, vT t, vF t, .int .i64 t.p.tm] 32
/-- behind Parse. -/
def StB (N n np : Nat) (v : Value) (W : World) : Prop := ∃ Own b0 b1 L, Mb.BB N (N + 1) n Own W ∧ (∀ q, Own q → N ≤ q ∧ q < b0) ∧ N < b0 ∧ b0 ≤ b1 ∧ b1 ≤ W.heap.size ∧ OPl W b0 v L ∧ (∀ q, ownR v L q → q < b1) ∧ L.length = np
/-- behind One. -/
def StC (N n np : Nat) (v : Value) (t : PtQ) (NP : Nat) (W : World) : Prop := ∃ Own b0 b1 L, Mb.BB N (N + 1) n Own W ∧ (∀ q, Own q → N ≤ q ∧ q < b0) ∧ N < b0 ∧ b0 ≤ b1 ∧ OPl W b0 v L ∧ (∀ q, ownR v L q → q < b1) ∧ L.length = np ∧ (OT W b1 (vT t) t.p.t ∧ OF W b1 (vF t) t.p.f) ∧ W.heap[NP]? = some (ptO t) ∧ b1 ≤ NP
/-- behind the first Take. -/
def StD (N n : Nat) (t : PtQ) (NP : Nat) (W : World) : Prop := ∃ Own B, Mb.BB N (N + 1) n Own W ∧ (∀ q, Own q → N ≤ q) ∧ N < B ∧ B ≤ W.heap.size ∧ (OT W B (vT t) t.p.t ∧ OF W B (vF t) t.p.f) ∧ (∀ q, ownQ t q → ¬ Own q) ∧ W.heap[NP]? = some (ptO t)
/-- the second row is made. -/
def StE (N n : Nat) (v : Value) (W : World) : Prop := ∃ Own B L, Mb.BB N (N + 1) n Own W ∧ (∀ q, Own q → N ≤ q) ∧ N < B ∧ OPl W B v L ∧ L.length = 1 ∧ ∀ q, ownR v L q → ¬ Own q
theorem OPl.own_lt {W : World} {B : Nat} {v : Value} {L : List PtQ} (h : OPl W B v L) {q : Nat} (e : ownR v L q) : B ≤ q ∧ q < W.heap.size := by
  rcases e with e | ⟨t, ht, e⟩
  · exact World.ownsRow.lt h.own q e
  · exact h.lt ht e
theorem stB {N n np : Nat} {v : Value} {W0 W1 : World} {L : List PtQ} (h : BJ N n W0) (d : OPl W1 W0.heap.size v L) (hl : L.length = np) (b : Below W0.heap.size W0 W1) : StB N n np v W1 := by
  obtain ⟨O, bb, hi⟩ := h
  have lt := bb.lt
  have nC := bb.nC
  exact ⟨O, _, _, L, bb.below b, fun q e => ⟨hi q e, lt q e⟩, by omega, b.size, Nat.le_refl _, d, fun q e => (d.own_lt e).2, hl⟩
theorem stC {N n np : Nat} {v : Value} {W1 W2 : World} {t : PtQ} (h : StB N n np v W1) (b : Below W1.heap.size W1 W2) (o : OT W2 W1.heap.size (vT t) t.p.t ∧ OF W2 W1.heap.size (vF t) t.p.f) : StC N n np v t W2.heap.size (W2.alloc (ptO t)) := by
  obtain ⟨O, b0, b1, L, bb, hi, n0, h01, h1, d, hr, hl⟩ := h
  have b2 : Below W2.heap.size W2 (W2.alloc (ptO t)) := (Below.refl _ W2).alloc (Nat.le_refl _) _
  have sz := b.size
  exact ⟨O, b0, b1, L, (bb.below b).below b2, hi, n0, h01, (d.below b).below b2, hr, hl, ⟨row_mono (o.1.below b2 (Nat.le_refl _)) h1, row_mono (o.2.below b2 (Nat.le_refl _)) h1⟩, World.alloc_heap_new W2 _, by omega⟩
theorem takeC {N n np : Nat} {v : Value} {t : PtQ} {NP : Nat} {W : World} (h : StC N n np v t NP W) (hl : np ≤ 1048576) (hn : n + 2 * np + 1 ≤ 4194304) :
    Calls Tryz.prog 16 #[.pointer (some ⟨N, 0, none⟩), v] W fun e w' => e = .returned undef ∧ StD N (n + 2 * np + 1) t NP w' ∧ Below N W w' := by
  obtain ⟨O, b0, b1, L, bb, hi, n0, h01, d, hr, hL, o, hp, hN⟩ := h
  refine (takeG bb (fun q e => (hi q e).1) d (by omega) (by omega) (fun q e c => by have := (d.own_lt e).1; have := (hi q c).2; omega) (by omega)).mono fun e w' ⟨e1, ⟨O', bb', hi', ho'⟩, k⟩ => ⟨e1, ?_, k.below (Nat.le_of_lt (by have := bb.nC; omega)) (fun q hq c => by have := (hi q c).1; omega)⟩
  have kp : ∀ q, b0 ≤ q → q < W.heap.size → w'.heap[q]? = W.heap[q]? := fun q h1 h2 => k.keep q h2 (fun c => by have := (hi q c).2; omega)
  have bT : ∀ q, ownQ t q → b1 ≤ q ∧ q < W.heap.size := fun q e => by
    rcases e with e | e
    · exact o.1.bound e
    · exact o.2.bound e
  have hNP := (Array.getElem?_eq_some_iff.1 hp).1
  refine ⟨O', b1, by rw [← hL]; exact bb', hi', by omega, by have := k.size; omega, ⟨Mb.row_kept o.1 (fun q e => kp q (by have := bT q (Or.inl e); omega) (bT q (Or.inl e)).2), Mb.row_kept o.2 (fun q e => kp q (by have := bT q (Or.inr e); omega) (bT q (Or.inr e)).2)⟩, fun q e c => ?_, (kp NP (by omega) hNP).trans hp⟩
  have := bT q e
  rcases ho' q c with c | c | c
  · have := (hi q c).2; omega
  · have := hr q c; omega
  · omega
theorem one_d {N n : Nat} {t : PtQ} {NP : Nat} {W : World} (h : StD N n t NP W) (sz : t.p.t.length ≤ 1048576 ∧ t.p.f.length ≤ 1048576) (df : ∀ q, (vT t).ownBlock = some q → (vF t).ownBlock ≠ some q) :
    Calls Tryz.prog 17 #[ptV t.p t.ta t.tc t.fa t.fc] W fun e w' => ∃ b, e = .returned (.slice (some ⟨b, 0, none⟩) 1 1) ∧ StE N n (.slice (some ⟨b, 0, none⟩) 1 1) w' ∧ Below W.heap.size W w' := by
  obtain ⟨O, B, bb, hi, nB, hB, o, ho, _⟩ := h
  have lt := bb.lt
  have fin : Hid (∀ w', Below W.heap.size W w' → w'.heap[W.heap.size + 1]? = some (.cells #[.string t.p.m, .slice t.ta t.p.t.length t.tc, .slice t.fa t.p.f.length t.fc, .int .i64 t.p.tm] 32) → StE N n (.slice (some ⟨W.heap.size + 1, 0, none⟩) 1 1) w') := fun w' b hc => by
    have bT : ∀ q, ownQ t q → q < W.heap.size := fun q e => by
      rcases e with e | e
      · exact (o.1.bound e).2
      · exact (o.2.bound e).2
    refine ⟨O, B, [t], bb.below b, hi, nB, ⟨⟨rfl, Or.inr ⟨W.heap.size + 1, 1, _, rfl, Nat.le_succ_of_le hB, hc, Nat.le_refl _, by decide, rfl, rfl⟩⟩, fun u hu => ?_, fun u hu => ?_, fun u hu => ?_, fun u hu q e => ?_, List.pairwise_singleton _ _⟩, rfl, fun q e => ?_⟩
    · rw [List.mem_singleton.1 hu]; exact ⟨o.1.below b (Nat.le_refl _), o.2.below b (Nat.le_refl _)⟩
    · rw [List.mem_singleton.1 hu]; exact sz
    · rw [List.mem_singleton.1 hu]; exact df
    · rw [List.mem_singleton.1 hu] at e
      have := bT q e
      intro k; have : W.heap.size + 1 = q := by simpa [Value.ownBlock] using k
      omega
    · rcases e with e | ⟨u, hu, e⟩
      · have : W.heap.size + 1 = q := by simpa [Value.ownBlock] using e
        intro c; have := lt q c; omega
      · rw [List.mem_singleton.1 hu] at e; exact ho q e
  unfold ptV
  clear bb hi o ho lt sz df
  generalize t.p.t.length = nt at *
  generalize t.p.f.length = nf at *
  generalize t.p.m = pm at *
  generalize t.p.tm = pt at *
  generalize t.ta = ta at *
  generalize t.tc = tc at *
  generalize t.fa = fa at *
  generalize t.fc = fc at *
  go_enter Tryz.func17, Tryz.ntmps17
  go_wp2_with fail
  go_ret
  have b2 : Below W.heap.size W ((W.alloc (.cells #[.string pm, .slice ta nt tc, .slice fa nf fc, .int .i64 pt] 32)).alloc (.cells #[.string pm, .slice ta nt tc, .slice fa nf fc, .int .i64 pt] 32)) := ((Below.refl _ W).alloc (Nat.le_refl _) _).alloc (by simp) _
  exact ⟨W.heap.size + 1, rfl, fin.out _ b2 (by have := World.alloc_heap_new (W.alloc (.cells #[.string pm, .slice ta nt tc, .slice fa nf fc, .int .i64 pt] 32)) (.cells #[.string pm, .slice ta nt tc, .slice fa nf fc, .int .i64 pt] 32); rwa [World.size_alloc] at this), b2⟩
theorem takeE {N n : Nat} {v : Value} {W : World} (h : StE N n v W) (hn : n + 3 ≤ 4194304) :
    Calls Tryz.prog 16 #[.pointer (some ⟨N, 0, none⟩), v] W fun e w' => e = .returned undef ∧ BJ N (n + 3) w' ∧ Below N W w' := by
  obtain ⟨O, B, L, bb, hi, nB, d, hL, ho⟩ := h
  exact (takeG bb hi d (by omega) (by omega) ho (by omega)).mono fun e w' ⟨e1, ⟨O', bb', hi', _⟩, k⟩ => ⟨e1, ⟨O', by rw [hL] at bb'; exact bb', hi'⟩, k.below (Nat.le_of_lt (by have := bb.nC; omega)) (fun q hq c => by have := hi q c; omega)⟩
end Go.Proofs.YtbojljmacheccaaGreatDoor.Lo

namespace Go.Proofs.YtbojljmacheccaaGreatDoor.Lo
open Go.RowKit Go.Shelf _root_.Go.Proofs.YtbojljmacheccaaGreatDoor.Ln
attribute [local go_sem] Oper.semAt_some
set_option linter.unusedVariables false
set_option linter.unusedSimpArgs false
set_option maxRecDepth 100000
/-! ### LineOwn's walk. -/
set_option maxHeartbeats 8000000 in
theorem lineOwn_walk (s : ByteArray) (w : World) (hg : LT w) (hs : s.size ≤ 1048576) : Calls Tryz.prog 4 #[.string s] w fun e w' => e = .returned (.bool true) ∧ Below w.heap.size w w' := by
  have cL : Hid (Calls Tryz.prog 6 #[] w fun e w' => e = .returned (.bool true) ∧ Below w.heap.size w w') := live_l w hg
  have hlen := lenB s
  have hhalf := parP_half s.data.toList
  obtain ⟨P, hP⟩ : ∃ P, parP s.data.toList = P := ⟨_, rfl⟩
  obtain ⟨E, hE⟩ : ∃ E, parE s.data.toList = E := ⟨_, rfl⟩
  obtain ⟨c, a, b, x, y, hBd⟩ := parB_cells s.data.toList
  have cD : Hid (∀ W, Below w.heap.size w W → Calls Tryz.prog 14 #[.string s] W fun e w' => ∃ a c L, e = .returned (.tuple #[.slice a P.length c, E]) ∧ OPl w' W.heap.size (.slice a P.length c) L ∧ L.length = P.length ∧ Below W.heap.size W w') := fun W h => by
    have := parse_dP s W (hg.on h) (by omega)
    rw [hP, hE] at this
    exact this
  have cN : Hid (∀ W, Below w.heap.size w W → Calls Tryz.prog 15 #[.string s] W fun e w' => ∃ (t : PtQ), e = .returned (.tuple #[.agg #[.string t.p.m, vT t, vF t, .int .i64 t.p.tm], outE s.data.toList]) ∧ Below W.heap.size W w' ∧ (OT w' W.heap.size (vT t) t.p.t ∧ OF w' W.heap.size (vF t) t.p.f) ∧ (t.p.t.length ≤ 1048576 ∧ t.p.f.length ≤ 1048576) ∧ (∀ q, (vT t).ownBlock = some q → (vF t).ownBlock ≠ some q)) := fun W h => (one_D s W (hg.on h) (by omega)).mono fun e w' ⟨ta, tc, fa, fc, e1, b1, o, z, d⟩ => ⟨⟨_, ta, tc, fa, fc⟩, e1, b1, o, z, d⟩
  have cO : Hid (∀ W, Below w.heap.size w W → Calls Tryz.prog 14 #[.string s] W fun e w' => ∃ a c, e = .returned (.tuple #[.slice a P.length c, E]) ∧ PsIn w' a P ∧ Below w.heap.size w w') := fun W h => by
    have := parse_P s W (hg.on h) (by omega)
    rw [hP, hE] at this
    exact this.mono fun e w' ⟨a, c, x1, x2, x3⟩ => ⟨a, c, x1, x2, h.trans (x3.mono h.size)⟩
  have cR : Hid (∀ W, Below w.heap.size w W → Calls Tryz.prog 19 #[.string s] W fun e w' => ∃ a2 c2, e = .returned (.tuple #[.slice a2 P.length c2, .agg #[.int .i64 c, .int .i64 a, .int .i64 b, .bool x, .bool y]]) ∧ PsIn w' a2 P ∧ Below W.heap.size W w') := fun W h => by have := rparse_P s W (hg.on h) hs; rw [hP, hBd] at this; exact this
  have cS : Hid (∀ W, Below w.heap.size w W → Calls Tryz.prog 10 #[E, .agg #[.int .i64 c, .int .i64 a, .int .i64 b, .bool x, .bool y]] W fun e w' => e = .returned (.bool true) ∧ Below W.heap.size W w') := fun W h => by have := same_P s.data.toList W (hg.on h).et; rw [hE, hBd] at this; exact this
  have hE1 : E.oneCell' = true := by rw [← hE]; exact parE_one _
  have hfew : P.length ≤ 524289 := by rw [← hP]; have : s.data.toList.length = s.size := by rw [Lib.size_eq]
                                      omega
  have cP : Hid (∀ a a2 c c2 W, PsIn W a P → PsIn W a2 P → Calls Tryz.prog 20 #[.slice a P.length c, .slice a2 P.length c2] W fun e w' => e = .returned (.bool true) ∧ Below W.heap.size W w') := fun a a2 c c2 W h1 h2 => (samePts_l P _ _ c c2 W h1 h2 (by omega)).mono fun e w' ⟨e1, q, e2⟩ => ⟨e1, by rw [e2]; exact belowQ W q⟩
  have inB2 : Hid (∀ a (W W' : World), PsIn W a P → Below W.heap.size W W' → PsIn W' a P) := fun a W W' h b => h.below b
  obtain ⟨OE, hOE⟩ : ∃ OE, outE s.data.toList = OE := ⟨_, rfl⟩
  have hO1 : OE.oneCell' = true := by rw [← hOE]; exact outE_one _
  rw [hOE] at cN
  clear hP hE hBd hg hs hhalf hlen hOE
  generalize P.length = np at *
  go_enter Tryz.func4, Tryz.ntmps4
  go_wp2_with fail
  refine Calls.mono cL.out ?_
  rintro e w1 ⟨rfl, B1⟩
  obtain ⟨Wb, hWb⟩ : ∃ Wb, w1.alloc (.cells (Array.replicate 28 (.slice none 0 0)) 73) = Wb := ⟨_, rfl⟩
  have bj0 : Hid (BJ w1.heap.size 0 Wb) := by rw [← hWb]; exact BJ.start w1
  have B2 : Hid (Below w1.heap.size w1 Wb) := by rw [← hWb]; exact (Below.refl _ w1).alloc (Nat.le_refl _) _
  have B1H : Hid (Below w.heap.size w w1) := B1
  have hWbH : Hid (w1.alloc (.cells #[.slice none 0 0, .slice none 0 0, .slice none 0 0, .slice none 0 0, .slice none 0 0, .slice none 0 0, .slice none 0 0, .slice none 0 0, .slice none 0 0, .slice none 0 0, .slice none 0 0, .slice none 0 0, .slice none 0 0, .slice none 0 0, .slice none 0 0, .slice none 0 0, .slice none 0 0, .slice none 0 0, .slice none 0 0, .slice none 0 0, .slice none 0 0, .slice none 0 0, .slice none 0 0, .slice none 0 0, .slice none 0 0, .slice none 0 0, .slice none 0 0, .slice none 0 0] 73) = Wb) := hWb
  clear B1 cL hWb
  have bX : Hid (∀ X, Below w1.heap.size w1 X → Below w.heap.size w X) := fun X h => B1H.out.trans (h.mono B1H.out.size)
  obtain ⟨N, hN⟩ : ∃ N, w1.heap.size = N := ⟨_, rfl⟩
  have hNH : Hid (w1.heap.size = N) := hN
  rw [hN] at bj0 B2 bX
  clear hN
  go_wp2_with fail
  rw [hWbH.out]
  try rw [hNH.out]
  go_loopg [4, 5, 6, 7, 8] 2 (fun gk iv v5 v6 v7 v8 wx => ∃ (k : Nat), gk = 2 - k ∧ iv = .int .i64 (k : Int) ∧ k ≤ 2 ∧ Hid (BJ N (k * (2 * np + 4)) wx) ∧ Hid (Below N w1 wx))
  case atStart => exact ⟨0, rfl, rfl, Nat.zero_le _, (by show BJ _ _ _; rw [Nat.zero_mul]; exact bj0.out), B2⟩
  case round =>
    rename World => wx
    clear bj0 B2 hWbH
    obtain ⟨k, hgk, rfl, k2, hj, hb⟩ := hrel
    have hgkH : Hid (gk = 2 - k) := hgk
    clear hgk
    have wi : IntKind.i64.wrap ((k : Int) + 1) = ((k + 1 : Nat) : Int) := IntWalk.i64_in _ (by omega)
    by_cases hk : k < 2
    · have hkI : (k : Int) < 2 := by omega
      have hm : Hid (k * (2 * np + 4) ≤ 1048582) := by show _ ≤ _; have := Nat.mul_le_mul (show k ≤ 1 by omega) (show 2 * np + 4 ≤ 1048582 by omega); omega
      have hm2 : Hid (k * (2 * np + 4) + 2 * np + 1 + 3 = (k + 1) * (2 * np + 4)) := by show _ = _; rw [Nat.add_mul]; omega
      have bXk : Hid (∀ X, Below N w1 X → Below w.heap.size w X) := bX
      go_wp2_with fail
      refine Calls.mono (cD.out _ (bXk.out _ hb.out)) ?_
      rintro e w2 ⟨a1, c1, L, rfl, d1, hl1, b2⟩
      have sB : Hid (StB N (k * (2 * np + 4)) np (.slice a1 np c1) w2) := stB hj.out d1 hl1 b2
      have hb2 : Hid (Below N w1 w2) := hb.out.trans (b2.mono (Nat.le_of_lt hj.out.lt))
      have hN2 : Hid (N ≤ w2.heap.size) := Nat.le_trans (Nat.le_of_lt hj.out.lt) b2.size
      clear d1 hl1 b2 hj hb
      go_wp2_with fail
      refine Calls.mono (cN.out _ (bXk.out _ hb2.out)) ?_
      rintro e w3 ⟨t, rfl, b3, o3, z3, d3⟩
      have sC : Hid (StC N (k * (2 * np + 4)) np (.slice a1 np c1) t w3.heap.size (w3.alloc (.cells #[.string t.p.m, vT t, vF t, .int .i64 t.p.tm] 32))) := stC sB.out b3 o3
      have b34 : Below w3.heap.size w3 (w3.alloc (.cells #[.string t.p.m, vT t, vF t, .int .i64 t.p.tm] 32)) := (Below.refl _ w3).alloc (Nat.le_refl _) _
      have hb4 : Hid (Below N w1 (w3.alloc (.cells #[.string t.p.m, vT t, vF t, .int .i64 t.p.tm] 32))) := hb2.out.trans ((b3.trans (b34.mono b3.size)).mono hN2.out)
      have z3H : Hid ((t.p.t.length ≤ 1048576 ∧ t.p.f.length ≤ 1048576) ∧ ∀ q, (vT t).ownBlock = some q → (vF t).ownBlock ≠ some q) := ⟨z3, d3⟩
      obtain ⟨W4, hW4⟩ : ∃ W4, w3.alloc (.cells #[.string t.p.m, vT t, vF t, .int .i64 t.p.tm] 32) = W4 := ⟨_, rfl⟩
      have hW4H : Hid (w3.alloc (.cells #[.string t.p.m, .slice t.ta t.p.t.length t.tc, .slice t.fa t.p.f.length t.fc, .int .i64 t.p.tm] 32) = W4) := hW4
      rw [hW4] at sC hb4
      obtain ⟨NP, hNP⟩ : ∃ NP, w3.heap.size = NP := ⟨_, rfl⟩
      have hNPH : Hid (w3.heap.size = NP) := hNP
      rw [hNP] at sC
      have cT1 : Hid (Calls Tryz.prog 16 #[.pointer (some ⟨N, 0, none⟩), .slice a1 np c1] W4 fun e w' => e = .returned undef ∧ StD N (k * (2 * np + 4) + 2 * np + 1) t NP w' ∧ Below N W4 w') := takeC sC.out (by omega) (by have := hm.out; omega)
      have cU : Hid (∀ X, StD N (k * (2 * np + 4) + 2 * np + 1) t NP X → (X.cell? ⟨NP, 0, none⟩ = some (.string t.p.m) ∧ X.cell? ⟨NP, 1, none⟩ = some (.slice t.ta t.p.t.length t.tc) ∧ X.cell? ⟨NP, 2, none⟩ = some (.slice t.fa t.p.f.length t.fc) ∧ X.cell? ⟨NP, 3, none⟩ = some (.int .i64 t.p.tm)) ∧ Calls Tryz.prog 17 #[.agg #[.string t.p.m, .slice t.ta t.p.t.length t.tc, .slice t.fa t.p.f.length t.fc, .int .i64 t.p.tm]] X fun e w' => ∃ b, e = .returned (.slice (some ⟨b, 0, none⟩) 1 1) ∧ StE N (k * (2 * np + 4) + 2 * np + 1) (.slice (some ⟨b, 0, none⟩) 1 1) w' ∧ Below N X w') := fun X h => by
        have h2 := h
        obtain ⟨_, _, bb, _, _, _, _, _, hp⟩ := h2
        have hx : N ≤ X.heap.size := Nat.le_of_lt (by have := bb.nC; have := bb.lt; omega)
        refine ⟨⟨by rw [Lib.cell_of_heap hp]; rfl, by rw [Lib.cell_of_heap hp]; rfl, by rw [Lib.cell_of_heap hp]; rfl, by rw [Lib.cell_of_heap hp]; rfl⟩, (one_d h z3H.out.1 z3H.out.2).mono fun e w' ⟨b, e1, s1, b1⟩ => ⟨b, e1, s1, b1.mono hx⟩⟩
      have cT2 : Hid (∀ b X, StE N (k * (2 * np + 4) + 2 * np + 1) (.slice (some ⟨b, 0, none⟩) 1 1) X → Calls Tryz.prog 16 #[.pointer (some ⟨N, 0, none⟩), .slice (some ⟨b, 0, none⟩) 1 1] X fun e w' => e = .returned undef ∧ BJ N ((k + 1) * (2 * np + 4)) w' ∧ Below N X w') := fun b X h => by
        have := takeE h (by have := hm.out; omega)
        rw [hm2.out] at this
        exact this
      unfold vT vF
      clear hW4 hNP b34 b3 o3 z3 d3 sB sC z3H hm hb2
      generalize t.p.t.length = nt at *
      generalize t.p.f.length = nf at *
      generalize t.p.m = pm at *
      generalize t.p.tm = pt at *
      go_wp2_with fail
      rw [hW4H.out]
      try rw [hNPH.out]
      refine Calls.mono cT1.out ?_
      rintro e w5 ⟨rfl, s5, b5⟩
      obtain ⟨⟨x1, x2, x3, x4⟩, cU1⟩ := cU.out w5 s5
      have hb5 : Hid (Below N w1 w5) := hb4.out.trans b5
      have cU2 : Hid (Calls Tryz.prog 17 #[.agg #[.string pm, .slice t.ta nt t.tc, .slice t.fa nf t.fc, .int .i64 pt]] w5 fun e w' => ∃ b, e = .returned (.slice (some ⟨b, 0, none⟩) 1 1) ∧ StE N (k * (2 * np + 4) + 2 * np + 1) (.slice (some ⟨b, 0, none⟩) 1 1) w' ∧ Below N w5 w') := cU1
      clear cU1 cU s5 b5 hb4 cT1 hW4H hNPH
      go_wp2_with fail
      refine Calls.mono cU2.out ?_
      rintro e w6 ⟨b6, rfl, s6, b6b⟩
      have cT3 := cT2.out b6 w6 s6
      have cT4 : Hid (Calls Tryz.prog 16 #[.pointer (some ⟨N, 0, none⟩), .slice (some ⟨b6, 0, none⟩) 1 1] w6 fun e w' => e = .returned undef ∧ BJ N ((k + 1) * (2 * np + 4)) w' ∧ Below N w6 w') := cT3
      have hb6 : Hid (Below N w1 w6) := hb5.out.trans b6b
      clear cT3 cT2 s6 b6b cU2 x1 x2 x3 x4
      go_wp2_with fail
      refine Calls.mono cT4.out ?_
      rintro e w7 ⟨rfl, j7, b7⟩
      have j7H : Hid (BJ N ((k + 1) * (2 * np + 4)) w7) := j7
      have hb7 : Hid (Below N w1 w7) := hb6.out.trans b7
      clear j7 b7 cT4 hb6 hm2
      go_wp2_with fail
      go_roundg (2 - (k + 1))
      case measure => rw [hgkH.out]; omega
      case rel => exact ⟨k + 1, rfl, by first | rfl | simp, by omega, j7H, hb7⟩
    · have hkI : ¬ (k : Int) < 2 := by omega
      have cA : Hid (Calls Tryz.prog 18 #[.pointer (some ⟨N, 0, none⟩)] wx fun e w' => e = .returned (.bool true) ∧ Below w.heap.size w w') := (BJ.alone hj.out (by have := Nat.mul_le_mul (show k ≤ 2 from k2) (show 2 * np + 4 ≤ 1048582 by omega); omega)).mono fun e w' q => ⟨q.1, bX.out _ (hb.out.trans q.2)⟩
      clear hj hb bX cD cN
      go_wp2_with fail
      refine Calls.mono cA.out ?_
      rintro e w1b ⟨rfl, B1⟩
      clear cA
      go_wp2_with fail
      refine Calls.mono (cO.out _ B1) ?_
      rintro e w2 ⟨a1, c1, rfl, hp2, B2⟩
      have B2H : Hid (Below w.heap.size w w2) := B2
      have hp2H : Hid (PsIn w2 a1 P) := hp2
      clear B1 B2 hp2
      go_wp2_with fail
      refine Calls.mono (cR.out _ B2H.out) ?_
      rintro e w3 ⟨a2, c2, rfl, hp3, B3⟩
      obtain ⟨W4, hW4⟩ : ∃ W4, w3.alloc (.cells #[.int .i64 c, .int .i64 a, .int .i64 b, .bool x, .bool y] 35) = W4 := ⟨_, rfl⟩
      have B4 : Below w3.heap.size w3 W4 := by rw [← hW4]; exact (Below.refl _ w3).alloc (Nat.le_refl _) _
      have st4 : Hid (PsIn W4 a1 P ∧ PsIn W4 a2 P ∧ Below w.heap.size w W4) := ⟨inB2.out _ _ _ (inB2.out _ _ _ hp2H.out B3) B4, inB2.out _ _ _ hp3 B4, (B2H.out.trans (B3.mono B2H.out.size)).trans (B4.mono (by have := B2H.out.size; have := B3.size; omega))⟩
      have hW4H : Hid (w3.alloc (.cells #[.int .i64 c, .int .i64 a, .int .i64 b, .bool x, .bool y] 35) = W4) := hW4
      clear hW4 B3 B4 hp3
      go_wp2_with fail
      rw [hW4H.out]
      refine Calls.mono (cS.out _ st4.out.2.2) ?_
      rintro e w5 ⟨rfl, B5⟩
      have st5 : Hid (PsIn w5 a1 P ∧ PsIn w5 a2 P ∧ Below w.heap.size w w5) := ⟨inB2.out _ _ _ st4.out.1 B5, inB2.out _ _ _ st4.out.2.1 B5, st4.out.2.2.trans (B5.mono st4.out.2.2.size)⟩
      clear B5
      go_wp2_with fail
      refine Calls.mono (cP.out _ _ _ _ _ st5.out.1 st5.out.2.1) ?_
      rintro e w6 ⟨rfl, B6⟩
      have b6 : Hid (Below w.heap.size w w6) := st5.out.2.2.trans (B6.mono st5.out.2.2.size)
      clear B6
      go_wp2_with fail
      go_ret
      exact ⟨rfl, b6.out⟩
end Go.Proofs.YtbojljmacheccaaGreatDoor.Lo
