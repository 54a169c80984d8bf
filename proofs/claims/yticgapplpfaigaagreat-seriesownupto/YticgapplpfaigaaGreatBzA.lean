
import Derived.Test.YticgapplpfaigaaGreatBq5
import Derived.Test.YticgapplpfaigaaGreatBq7
import Derived.Test.YticgapplpfaigaaGreatBq19
import Derived.Test.YticgapplpfaigaaGreatBkEh
import Derived.Laws.IdiomCopy
import Derived.Test.YticgapplpfaigaaGreatDrL
import Derived.Test.YticgapplpfaigaaGreatWkB
import Derived.Deep.RegionHeld3
namespace Go.Proofs.YticgapplpfaigaaGreat.Mb
open Go.RowKit
set_option linter.unusedVariables false
set_option linter.unusedSimpArgs false
set_option maxRecDepth 100000
theorem row_kept {w w' : World} {B size n : Nat} {e : TypeId} {v : Value} {xs : List Value} (h : w.ownsRow B e size v n xs) (hb : ∀ g, v.ownBlock = some g → w'.heap[g]? = w.heap[g]?) : w'.ownsRow B e size v n xs := by
  refine ⟨h.1, ?_⟩
  rcases h.2 with h2 | ⟨g, cap, cur, e1, e2, e3, e4⟩
  · exact Or.inl h2
  · exact Or.inr ⟨g, cap, cur, e1, e2, by rw [hb g (by rw [e1]; rfl)]; exact e3, e4⟩
/-- the blocks of one field. -/
def own (hv : Value) (V : Nat → Value) (m q : Nat) : Prop := hv.ownBlock = some q ∨ ∃ j, j < m ∧ (V j).ownBlock = some q
def upd {α : Type} (f : Nat) (x : α) (F : Nat → α) (j : Nat) : α := if j = f then x else F j
theorem upd_at {α : Type} (f : Nat) (x : α) (F : Nat → α) : upd f x F f = x := if_pos rfl
theorem upd_ne {α : Type} {f j : Nat} (h : j ≠ f) (x : α) (F : Nat → α) : upd f x F j = F j := if_neg h
/-- a row more. -/
def snoc (m : Nat) (v : Value) (V : Nat → Value) (j : Nat) : Value := if j = m then v else V j
theorem own_upd {F m s : Nat} {M : Nat → Nat} {V : Nat → Nat → Value} {H : Nat → Value} {v h' : Value} (hm : m = M F) (hown : ∀ k, h'.ownBlock = some k → (H F).ownBlock = some k ∨ s ≤ k) (f q : Nat) (e : own (upd F h' H f) (upd F (snoc m v (V F)) V f) (upd F (m + 1) M f) q) : own (H f) (V f) (M f) q ∨ (f = F ∧ (v.ownBlock = some q ∨ s ≤ q)) := by
  by_cases c : f = F
  · subst c
    simp only [upd_at] at e
    rcases e with e | ⟨j, hj, e⟩
    · rcases hown q e with a | a
      · exact Or.inl (Or.inl a)
      · exact Or.inr ⟨rfl, Or.inr a⟩
    · by_cases hjm : j = m
      · simp only [snoc, if_pos hjm] at e; exact Or.inr ⟨rfl, Or.inl e⟩
      · simp only [snoc, if_neg hjm] at e; exact Or.inl (Or.inr ⟨j, by omega, e⟩)
  · simp only [upd_ne c] at e; exact Or.inl e
theorem sep_upd {F m s : Nat} {M : Nat → Nat} {V : Nat → Nat → Value} {H : Nat → Value} {v h' : Value} (hm : m = M F) (hown : ∀ k, h'.ownBlock = some k → (H F).ownBlock = some k ∨ s ≤ k) (sep : ∀ f g, f ≠ g → ∀ q, own (H f) (V f) (M f) q → ¬ own (H g) (V g) (M g) q) (lt : ∀ f q, own (H f) (V f) (M f) q → q < s) (hf : ∀ q, v.ownBlock = some q → ∀ f, ¬ own (H f) (V f) (M f) q) :
    ∀ f g, f ≠ g → ∀ q, own (upd F h' H f) (upd F (snoc m v (V F)) V f) (upd F (m + 1) M f) q → ¬ own (upd F h' H g) (upd F (snoc m v (V F)) V g) (upd F (m + 1) M g) q := by
  intro f g hne q e1 e2
  rcases own_upd hm hown f q e1 with a | ⟨a0, a⟩ <;> rcases own_upd hm hown g q e2 with b | ⟨b0, b⟩
  · exact sep f g hne q a b
  · rcases b with b | b
    · exact hf q b f a
    · have := lt f q a; omega
  · rcases a with a | a
    · exact hf q a g b
    · have := lt g q b; omega
  · exact hne (a0.trans b0.symm)
/-- what a Take leaves. -/
structure FR (N : Nat) (w : World) (hv hv' : Value) (w' : World) : Prop where
  size : w.heap.size ≤ w'.heap.size
  keep : ∀ k, k < w.heap.size → k ≠ N → hv.ownBlock ≠ some k → w'.heap[k]? = w.heap[k]?
  own : ∀ k, hv'.ownBlock = some k → hv.ownBlock = some k ∨ w.heap.size ≤ k
  same : w'.os = w.os ∧ w'.tape = w.tape ∧ w'.output = w.output
theorem move5 {O O' : Nat → Value} {N C m : Nat} {V : Nat → Value} {hv : Value} {G : Nat → List (Bk5.E2)} {w w' : World} (h : Bk5.BK O N C m V hv G w) (sz : w.heap.size ≤ w'.heap.size) (cF : w'.cell? ⟨N, 5, none⟩ = some hv) (oth : ∀ j, j < 28 → j ≠ 5 → w'.cell? ⟨N, j, none⟩ = some (O' j)) (fz : ∀ j, w'.frozen? ⟨N, j, none⟩ = false) (k : ∀ q, own hv V m q → w'.heap[q]? = w.heap[q]?) : Bk5.BK O' N C m V hv G w' :=
  ⟨⟨h.sp.nC, by have := h.sp.nw; omega, by have := h.sp.cw; omega, fun i hi k e => by have := h.sp.vb i hi k e; omega, fun k e => by have := h.sp.hb k e; omega, h.sp.dis, h.sp.hd⟩, ⟨cF, row_kept h.st.hr (fun q e => k q (Or.inl e)), fun j hj => row_kept (h.st.rows j hj) (fun q e => k q (Or.inr ⟨j, hj, e⟩)), Bk5.BF.refl _ _ _⟩, oth, fz⟩
theorem lt5 {O : Nat → Value} {N C m : Nat} {V : Nat → Value} {hv : Value} {G : Nat → List (Bk5.E2)} {w : World} (h : Bk5.BK O N C m V hv G w) {q : Nat} (e : own hv V m q) : C ≤ q ∧ q < w.heap.size := by
  rcases e with e | ⟨j, hj, e⟩
  · exact h.sp.hb q e
  · exact h.sp.vb j hj q e
theorem move7 {O O' : Nat → Value} {N C m : Nat} {V : Nat → Value} {hv : Value} {G : Nat → List (Bk7.E3)} {w w' : World} (h : Bk7.BK O N C m V hv G w) (sz : w.heap.size ≤ w'.heap.size) (cF : w'.cell? ⟨N, 7, none⟩ = some hv) (oth : ∀ j, j < 28 → j ≠ 7 → w'.cell? ⟨N, j, none⟩ = some (O' j)) (fz : ∀ j, w'.frozen? ⟨N, j, none⟩ = false) (k : ∀ q, own hv V m q → w'.heap[q]? = w.heap[q]?) : Bk7.BK O' N C m V hv G w' :=
  ⟨⟨h.sp.nC, by have := h.sp.nw; omega, by have := h.sp.cw; omega, fun i hi k e => by have := h.sp.vb i hi k e; omega, fun k e => by have := h.sp.hb k e; omega, h.sp.dis, h.sp.hd⟩, ⟨cF, row_kept h.st.hr (fun q e => k q (Or.inl e)), fun j hj => row_kept (h.st.rows j hj) (fun q e => k q (Or.inr ⟨j, hj, e⟩)), Bk7.BF.refl _ _ _⟩, oth, fz⟩
theorem lt7 {O : Nat → Value} {N C m : Nat} {V : Nat → Value} {hv : Value} {G : Nat → List (Bk7.E3)} {w : World} (h : Bk7.BK O N C m V hv G w) {q : Nat} (e : own hv V m q) : C ≤ q ∧ q < w.heap.size := by
  rcases e with e | ⟨j, hj, e⟩
  · exact h.sp.hb q e
  · exact h.sp.vb j hj q e
theorem move19 {O O' : Nat → Value} {N C m : Nat} {V : Nat → Value} {hv : Value} {G : Nat → List (Bk19.EK)} {w w' : World} (h : Bk19.BK O N C m V hv G w) (sz : w.heap.size ≤ w'.heap.size) (cF : w'.cell? ⟨N, 19, none⟩ = some hv) (oth : ∀ j, j < 28 → j ≠ 19 → w'.cell? ⟨N, j, none⟩ = some (O' j)) (fz : ∀ j, w'.frozen? ⟨N, j, none⟩ = false) (k : ∀ q, own hv V m q → w'.heap[q]? = w.heap[q]?) : Bk19.BK O' N C m V hv G w' :=
  ⟨⟨h.sp.nC, by have := h.sp.nw; omega, by have := h.sp.cw; omega, fun i hi k e => by have := h.sp.vb i hi k e; omega, fun k e => by have := h.sp.hb k e; omega, h.sp.dis, h.sp.hd⟩, ⟨cF, row_kept h.st.hr (fun q e => k q (Or.inl e)), fun j hj => row_kept (h.st.rows j hj) (fun q e => k q (Or.inr ⟨j, hj, e⟩)), Bk19.BF.refl _ _ _⟩, oth, fz⟩
theorem lt19 {O : Nat → Value} {N C m : Nat} {V : Nat → Value} {hv : Value} {G : Nat → List (Bk19.EK)} {w : World} (h : Bk19.BK O N C m V hv G w) {q : Nat} (e : own hv V m q) : C ≤ q ∧ q < w.heap.size := by
  rcases e with e | ⟨j, hj, e⟩
  · exact h.sp.hb q e
  · exact h.sp.vb j hj q e
/-- a book. -/
structure MB (N C : Nat) (M : Nat → Nat) (V : Nat → Nat → Value) (H : Nat → Value) (w : World) : Prop where
  b5 : ∃ G, Bk5.BK H N C (M 5) (V 5) (H 5) G w ∧ ∀ j, j < M 5 → (G j).length ≤ 268435456
  b7 : ∃ G, Bk7.BK H N C (M 7) (V 7) (H 7) G w ∧ ∀ j, j < M 7 → (G j).length ≤ 268435456
  b19 : ∃ G, Bk19.BK H N C (M 19) (V 19) (H 19) G w ∧ ∀ j, j < M 19 → (G j).length ≤ 268435456
  sep : ∀ f g, f ≠ g → ∀ q, own (H f) (V f) (M f) q → ¬ own (H g) (V g) (M g) q
  rest : ∀ j, j ≠ 5 → j ≠ 7 → j ≠ 19 → M j = 0 ∧ H j = .slice none 0 0
theorem MB.nC {N C : Nat} {M : Nat → Nat} {V : Nat → Nat → Value} {H : Nat → Value} {w : World} (h : MB N C M V H w) : N < C ∧ N < w.heap.size ∧ C ≤ w.heap.size := by
  obtain ⟨G, b, _⟩ := h.b5
  exact ⟨b.sp.nC, b.sp.nw, b.sp.cw⟩
theorem MB.lt {N C : Nat} {M : Nat → Nat} {V : Nat → Nat → Value} {H : Nat → Value} {w : World} (h : MB N C M V H w) (f : Nat) {q : Nat} (e : own (H f) (V f) (M f) q) : C ≤ q ∧ q < w.heap.size := by
  by_cases c5 : f = 5
  · subst c5
    obtain ⟨G, b, _⟩ := h.b5
    exact lt5 b e
  · skip
    by_cases c7 : f = 7
    · subst c7
      obtain ⟨G, b, _⟩ := h.b7
      exact lt7 b e
    · skip
      by_cases c19 : f = 19
      · subst c19
        obtain ⟨G, b, _⟩ := h.b19
        exact lt19 b e
      · skip
        obtain ⟨m0, h0⟩ := h.rest f c5 c7 c19
        rw [m0, h0] at e
        rcases e with e | ⟨j, hj, _⟩
        · simp [Value.ownBlock] at e
        · omega
theorem MB.cell {N C : Nat} {M : Nat → Nat} {V : Nat → Nat → Value} {H : Nat → Value} {w : World} (h : MB N C M V H w) (j : Nat) (hj : j < 28) : w.cell? ⟨N, j, none⟩ = some (H j) := by
  obtain ⟨G, b, _⟩ := h.b5
  by_cases c : j = 5
  · subst c; exact b.st.cF
  · exact b.nil j hj c
theorem MB.fz {N C : Nat} {M : Nat → Nat} {V : Nat → Nat → Value} {H : Nat → Value} {w : World} (h : MB N C M V H w) (j : Nat) : w.frozen? ⟨N, j, none⟩ = false := by
  obtain ⟨G, b, _⟩ := h.b5
  exact b.fz j
/-- a book, where its blocks are as they were. -/
theorem MB.keep {N C : Nat} {M : Nat → Nat} {V : Nat → Nat → Value} {H : Nat → Value} {w w' : World} (h : MB N C M V H w) (sz : w.heap.size ≤ w'.heap.size) (kN : w'.heap[N]? = w.heap[N]?) (k : ∀ f q, own (H f) (V f) (M f) q → w'.heap[q]? = w.heap[q]?) : MB N C M V H w' := by
  have cc : ∀ j, w'.cell? ⟨N, j, none⟩ = w.cell? ⟨N, j, none⟩ := fun j => World.cell?_of_block (w := w) (a := ⟨N, j, none⟩) kN
  have zz : ∀ j, w'.frozen? ⟨N, j, none⟩ = false := fun j => by rw [World.frozen?_of_block (w := w) (a := ⟨N, j, none⟩) kN]; exact h.fz j
  refine ⟨?_, ?_, ?_, h.sep, h.rest⟩
  · obtain ⟨G, b, l⟩ := h.b5
    exact ⟨G, move5 b sz (by rw [cc]; exact b.st.cF) (fun j hj hn => by rw [cc]; exact b.nil j hj hn) zz (k 5), l⟩
  · obtain ⟨G, b, l⟩ := h.b7
    exact ⟨G, move7 b sz (by rw [cc]; exact b.st.cF) (fun j hj hn => by rw [cc]; exact b.nil j hj hn) zz (k 7), l⟩
  · obtain ⟨G, b, l⟩ := h.b19
    exact ⟨G, move19 b sz (by rw [cc]; exact b.st.cF) (fun j hj hn => by rw [cc]; exact b.nil j hj hn) zz (k 19), l⟩
set_option maxHeartbeats 4000000 in
theorem ftake5 {O : Nat → Value} {N C m : Nat} {V : Nat → Value} {hv : Value} {G : Nat → List (Bk5.E2)} {w : World} {B : Nat} {v : Value} {l : List (Bk5.E2)} (h0 : Bk5.BK O N C m V hv G w) (o0 : Bk5.OE w B v l) (hB : ∀ k, v.ownBlock = some k → C ≤ k ∧ hv.ownBlock ≠ some k ∧ ∀ j, j < m → (V j).ownBlock ≠ some k) (hm : m ≤ 4194304) :
    Calls Tryz.prog 25 #[.pointer (some ⟨N, 0, none⟩), v] w fun e w' => e = .returned undef ∧ ∃ hv', Bk5.BK O N C (m + 1) (fun j => if j = m then v else V j) hv' (fun j => if j = m then l else G j) w' ∧ Below N w w' ∧ Bk5.FRB N w hv hv' w' := by
  obtain ⟨hv', w', hr, cF', z12', bk, bb, fb⟩ := h0.take o0 hB hm
  have cF := h0.st.cF
  obtain ⟨ah, ch, e1, _⟩ := h0.st.hr.form
  obtain ⟨av, cv, e2, _⟩ := o0.formO
  have hrH : Hid (∀ W, W = w.alloc (.cells #[v] 91) → (Builtin.append_ #[34, 34] 34 #[hv, .slice (some ⟨w.heap.size, 0, none⟩) 1 1]).run Tryz.prog W = .ok hv' w') := fun W e => by subst e; exact hr
  obtain ⟨ah2, ch2, e3, _⟩ := bk.st.hr.form
  have fin : Hid (∃ hv', Bk5.BK O N C (m + 1) (fun j => if j = m then v else V j) hv' (fun j => if j = m then l else G j) (w'.setCell ⟨N, 5, none⟩ (.slice ah2 (m + 1) ch2)) ∧ Below N w (w'.setCell ⟨N, 5, none⟩ (.slice ah2 (m + 1) ch2)) ∧ Bk5.FRB N w hv hv' (w'.setCell ⟨N, 5, none⟩ (.slice ah2 (m + 1) ch2))) := ⟨hv', by rw [← e3]; exact bk, by rw [← e3]; exact bb, by rw [← e3]; exact fb⟩
  subst e1 e3
  generalize l.length = nl at *
  subst e2
  clear h0 o0 hB hr bk bb fb
  go_enter Tryz.func25, Tryz.ntmps25
  go_wp2_with (at_builtin; refine Bk5.wpList_append_runB (by rfl) _ _ _ (by rfl) _ _ _ _ (by rfl) (by rfl) (hrH.out _ rfl) ?_)
  simp [bodyPost, results, Tryz.results25, go_sem]
  obtain ⟨x, f1, f2⟩ := fin.out
  exact ⟨rfl, x, f1, f2⟩
theorem MB.took5 {N C : Nat} {M : Nat → Nat} {V : Nat → Nat → Value} {H : Nat → Value} {w w' : World} {v h' : Value} {l : List (Bk5.E2)} {G : Nat → List (Bk5.E2)} (h : MB N C M V H w) (hG : ∀ j, j < M 5 → (G j).length ≤ 268435456) (hl : l.length ≤ 268435456) (hf : ∀ q, v.ownBlock = some q → C ≤ q ∧ ∀ f, ¬ own (H f) (V f) (M f) q) (bk : Bk5.BK H N C (M 5 + 1) (fun j => if j = M 5 then v else V 5 j) h' (fun j => if j = M 5 then l else G j) w') (fb : FR N w (H 5) h' w') :
    MB N C (upd 5 (M 5 + 1) M) (upd 5 (snoc (M 5) v (V 5)) V) (upd 5 h' H) w' := by
  have nC := h.nC
  have cellO : ∀ j, j < 28 → j ≠ 5 → w'.cell? ⟨N, j, none⟩ = some (H j) := bk.nil
  have kp : ∀ g, g ≠ 5 → ∀ q, own (H g) (V g) (M g) q → w'.heap[q]? = w.heap[q]? := fun g hg q e => fb.keep q (h.lt g e).2 (by have := (h.lt g e).1; omega) (fun c => h.sep g 5 hg q e (Or.inl c))
  have oc : ∀ j, j < 28 → w'.cell? ⟨N, j, none⟩ = some (upd 5 h' H j) := fun j hj => by
    by_cases c : j = 5
    · subst c; rw [upd_at]; exact bk.st.cF
    · rw [upd_ne c]; exact cellO j hj c
  refine ⟨?_, ?_, ?_, sep_upd rfl fb.own h.sep (fun f q e => (h.lt f e).2) (fun q e => (hf q e).2), fun j c5 c7 c19 => by rw [upd_ne c5, upd_ne c5]; exact h.rest j c5 c7 c19⟩
  · simp only [upd_at]
    refine ⟨fun j => if j = M 5 then l else G j, move5 bk (Nat.le_refl _) bk.st.cF (fun j hj hn => oc j hj) bk.fz (fun _ _ => rfl), fun j hj => ?_⟩
    by_cases c : j = M 5
    · simp only [if_pos c]; exact hl
    · simp only [if_neg c]; exact hG j (by omega)
  · simp only [upd_ne (show (7 : Nat) ≠ 5 by decide)]
    obtain ⟨K, b, l0⟩ := h.b7
    exact ⟨K, move7 b fb.size (cellO 7 (by omega) (by omega)) (fun j hj hn => oc j hj) bk.fz (kp 7 (by omega)), l0⟩
  · simp only [upd_ne (show (19 : Nat) ≠ 5 by decide)]
    obtain ⟨K, b, l0⟩ := h.b19
    exact ⟨K, move19 b fb.size (cellO 19 (by omega) (by omega)) (fun j hj hn => oc j hj) bk.fz (kp 19 (by omega)), l0⟩
theorem MB.take5 {N C : Nat} {M : Nat → Nat} {V : Nat → Nat → Value} {H : Nat → Value} {w : World} {B : Nat} {v : Value} {l : List (Bk5.E2)} (h : MB N C M V H w) (o : Bk5.OE w B v l) (hl : l.length ≤ 268435456) (hf : ∀ q, v.ownBlock = some q → C ≤ q ∧ ∀ f, ¬ own (H f) (V f) (M f) q) (hm : M 5 ≤ 4194304) :
    Calls Tryz.prog 25 #[.pointer (some ⟨N, 0, none⟩), v] w fun e w' => e = .returned undef ∧ ∃ h', MB N C (upd 5 (M 5 + 1) M) (upd 5 (snoc (M 5) v (V 5)) V) (upd 5 h' H) w' ∧ FR N w (H 5) h' w' := by
  obtain ⟨G, b, hG⟩ := h.b5
  refine (ftake5 b o (fun q e => ⟨(hf q e).1, fun c => (hf q e).2 5 (Or.inl c), fun j hj c => (hf q e).2 5 (Or.inr ⟨j, hj, c⟩)⟩) hm).mono fun e w' ⟨e1, h', bk, bN, fb⟩ => ⟨e1, h', ?_⟩
  have fr : FR N w (H 5) h' w' := ⟨fb.1, fb.2.1, fb.2.2, bN.os, bN.tape, bN.output⟩
  exact ⟨h.took5 hG hl hf bk fr, fr⟩
set_option maxHeartbeats 4000000 in
theorem ftake7 {O : Nat → Value} {N C m : Nat} {V : Nat → Value} {hv : Value} {G : Nat → List (Bk7.E3)} {w : World} {B : Nat} {v : Value} {l : List (Bk7.E3)} (h0 : Bk7.BK O N C m V hv G w) (o0 : Bk7.OE w B v l) (hB : ∀ k, v.ownBlock = some k → C ≤ k ∧ hv.ownBlock ≠ some k ∧ ∀ j, j < m → (V j).ownBlock ≠ some k) (hm : m ≤ 4194304) :
    Calls Tryz.prog 7 #[.pointer (some ⟨N, 0, none⟩), v] w fun e w' => e = .returned undef ∧ ∃ hv', Bk7.BK O N C (m + 1) (fun j => if j = m then v else V j) hv' (fun j => if j = m then l else G j) w' ∧ Below N w w' ∧ Bk7.FRB N w hv hv' w' := by
  obtain ⟨hv', w', hr, cF', z12', bk, bb, fb⟩ := h0.take o0 hB hm
  have cF := h0.st.cF
  obtain ⟨ah, ch, e1, _⟩ := h0.st.hr.form
  obtain ⟨av, cv, e2, _⟩ := o0.formO
  have hrH : Hid (∀ W, W = w.alloc (.cells #[v] 62) → (Builtin.append_ #[36, 36] 36 #[hv, .slice (some ⟨w.heap.size, 0, none⟩) 1 1]).run Tryz.prog W = .ok hv' w') := fun W e => by subst e; exact hr
  obtain ⟨ah2, ch2, e3, _⟩ := bk.st.hr.form
  have fin : Hid (∃ hv', Bk7.BK O N C (m + 1) (fun j => if j = m then v else V j) hv' (fun j => if j = m then l else G j) (w'.setCell ⟨N, 7, none⟩ (.slice ah2 (m + 1) ch2)) ∧ Below N w (w'.setCell ⟨N, 7, none⟩ (.slice ah2 (m + 1) ch2)) ∧ Bk7.FRB N w hv hv' (w'.setCell ⟨N, 7, none⟩ (.slice ah2 (m + 1) ch2))) := ⟨hv', by rw [← e3]; exact bk, by rw [← e3]; exact bb, by rw [← e3]; exact fb⟩
  subst e1 e3
  generalize l.length = nl at *
  subst e2
  clear h0 o0 hB hr bk bb fb
  go_enter Tryz.func7, Tryz.ntmps7
  go_wp2_with (at_builtin; refine Bk7.wpList_append_runB (by rfl) _ _ _ (by rfl) _ _ _ _ (by rfl) (by rfl) (hrH.out _ rfl) ?_)
  simp [bodyPost, results, Tryz.results7, go_sem]
  obtain ⟨x, f1, f2⟩ := fin.out
  exact ⟨rfl, x, f1, f2⟩
theorem MB.took7 {N C : Nat} {M : Nat → Nat} {V : Nat → Nat → Value} {H : Nat → Value} {w w' : World} {v h' : Value} {l : List (Bk7.E3)} {G : Nat → List (Bk7.E3)} (h : MB N C M V H w) (hG : ∀ j, j < M 7 → (G j).length ≤ 268435456) (hl : l.length ≤ 268435456) (hf : ∀ q, v.ownBlock = some q → C ≤ q ∧ ∀ f, ¬ own (H f) (V f) (M f) q) (bk : Bk7.BK H N C (M 7 + 1) (fun j => if j = M 7 then v else V 7 j) h' (fun j => if j = M 7 then l else G j) w') (fb : FR N w (H 7) h' w') :
    MB N C (upd 7 (M 7 + 1) M) (upd 7 (snoc (M 7) v (V 7)) V) (upd 7 h' H) w' := by
  have nC := h.nC
  have cellO : ∀ j, j < 28 → j ≠ 7 → w'.cell? ⟨N, j, none⟩ = some (H j) := bk.nil
  have kp : ∀ g, g ≠ 7 → ∀ q, own (H g) (V g) (M g) q → w'.heap[q]? = w.heap[q]? := fun g hg q e => fb.keep q (h.lt g e).2 (by have := (h.lt g e).1; omega) (fun c => h.sep g 7 hg q e (Or.inl c))
  have oc : ∀ j, j < 28 → w'.cell? ⟨N, j, none⟩ = some (upd 7 h' H j) := fun j hj => by
    by_cases c : j = 7
    · subst c; rw [upd_at]; exact bk.st.cF
    · rw [upd_ne c]; exact cellO j hj c
  refine ⟨?_, ?_, ?_, sep_upd rfl fb.own h.sep (fun f q e => (h.lt f e).2) (fun q e => (hf q e).2), fun j c5 c7 c19 => by rw [upd_ne c7, upd_ne c7]; exact h.rest j c5 c7 c19⟩
  · simp only [upd_ne (show (5 : Nat) ≠ 7 by decide)]
    obtain ⟨K, b, l0⟩ := h.b5
    exact ⟨K, move5 b fb.size (cellO 5 (by omega) (by omega)) (fun j hj hn => oc j hj) bk.fz (kp 5 (by omega)), l0⟩
  · simp only [upd_at]
    refine ⟨fun j => if j = M 7 then l else G j, move7 bk (Nat.le_refl _) bk.st.cF (fun j hj hn => oc j hj) bk.fz (fun _ _ => rfl), fun j hj => ?_⟩
    by_cases c : j = M 7
    · simp only [if_pos c]; exact hl
    · simp only [if_neg c]; exact hG j (by omega)
  · simp only [upd_ne (show (19 : Nat) ≠ 7 by decide)]
    obtain ⟨K, b, l0⟩ := h.b19
    exact ⟨K, move19 b fb.size (cellO 19 (by omega) (by omega)) (fun j hj hn => oc j hj) bk.fz (kp 19 (by omega)), l0⟩
theorem MB.take7 {N C : Nat} {M : Nat → Nat} {V : Nat → Nat → Value} {H : Nat → Value} {w : World} {B : Nat} {v : Value} {l : List (Bk7.E3)} (h : MB N C M V H w) (o : Bk7.OE w B v l) (hl : l.length ≤ 268435456) (hf : ∀ q, v.ownBlock = some q → C ≤ q ∧ ∀ f, ¬ own (H f) (V f) (M f) q) (hm : M 7 ≤ 4194304) :
    Calls Tryz.prog 7 #[.pointer (some ⟨N, 0, none⟩), v] w fun e w' => e = .returned undef ∧ ∃ h', MB N C (upd 7 (M 7 + 1) M) (upd 7 (snoc (M 7) v (V 7)) V) (upd 7 h' H) w' ∧ FR N w (H 7) h' w' := by
  obtain ⟨G, b, hG⟩ := h.b7
  refine (ftake7 b o (fun q e => ⟨(hf q e).1, fun c => (hf q e).2 7 (Or.inl c), fun j hj c => (hf q e).2 7 (Or.inr ⟨j, hj, c⟩)⟩) hm).mono fun e w' ⟨e1, h', bk, bN, fb⟩ => ⟨e1, h', ?_⟩
  have fr : FR N w (H 7) h' w' := ⟨fb.1, fb.2.1, fb.2.2, bN.os, bN.tape, bN.output⟩
  exact ⟨h.took7 hG hl hf bk fr, fr⟩
theorem MB.took19 {N C : Nat} {M : Nat → Nat} {V : Nat → Nat → Value} {H : Nat → Value} {w w' : World} {v h' : Value} {l : List (Bk19.EK)} {G : Nat → List (Bk19.EK)} (h : MB N C M V H w) (hG : ∀ j, j < M 19 → (G j).length ≤ 268435456) (hl : l.length ≤ 268435456) (hf : ∀ q, v.ownBlock = some q → C ≤ q ∧ ∀ f, ¬ own (H f) (V f) (M f) q) (bk : Bk19.BK H N C (M 19 + 1) (fun j => if j = M 19 then v else V 19 j) h' (fun j => if j = M 19 then l else G j) w') (fb : FR N w (H 19) h' w') :
    MB N C (upd 19 (M 19 + 1) M) (upd 19 (snoc (M 19) v (V 19)) V) (upd 19 h' H) w' := by
  have nC := h.nC
  have cellO : ∀ j, j < 28 → j ≠ 19 → w'.cell? ⟨N, j, none⟩ = some (H j) := bk.nil
  have kp : ∀ g, g ≠ 19 → ∀ q, own (H g) (V g) (M g) q → w'.heap[q]? = w.heap[q]? := fun g hg q e => fb.keep q (h.lt g e).2 (by have := (h.lt g e).1; omega) (fun c => h.sep g 19 hg q e (Or.inl c))
  have oc : ∀ j, j < 28 → w'.cell? ⟨N, j, none⟩ = some (upd 19 h' H j) := fun j hj => by
    by_cases c : j = 19
    · subst c; rw [upd_at]; exact bk.st.cF
    · rw [upd_ne c]; exact cellO j hj c
  refine ⟨?_, ?_, ?_, sep_upd rfl fb.own h.sep (fun f q e => (h.lt f e).2) (fun q e => (hf q e).2), fun j c5 c7 c19 => by rw [upd_ne c19, upd_ne c19]; exact h.rest j c5 c7 c19⟩
  · simp only [upd_ne (show (5 : Nat) ≠ 19 by decide)]
    obtain ⟨K, b, l0⟩ := h.b5
    exact ⟨K, move5 b fb.size (cellO 5 (by omega) (by omega)) (fun j hj hn => oc j hj) bk.fz (kp 5 (by omega)), l0⟩
  · simp only [upd_ne (show (7 : Nat) ≠ 19 by decide)]
    obtain ⟨K, b, l0⟩ := h.b7
    exact ⟨K, move7 b fb.size (cellO 7 (by omega) (by omega)) (fun j hj hn => oc j hj) bk.fz (kp 7 (by omega)), l0⟩
  · simp only [upd_at]
    refine ⟨fun j => if j = M 19 then l else G j, move19 bk (Nat.le_refl _) bk.st.cF (fun j hj hn => oc j hj) bk.fz (fun _ _ => rfl), fun j hj => ?_⟩
    by_cases c : j = M 19
    · simp only [if_pos c]; exact hl
    · simp only [if_neg c]; exact hG j (by omega)
/-- what is left as it was. -/
structure FM (P : Nat → Prop) (w W : World) : Prop where
  size : w.heap.size ≤ W.heap.size
  keep : ∀ k, k < w.heap.size → ¬ P k → W.heap[k]? = w.heap[k]?
  same : W.os = w.os ∧ W.tape = w.tape ∧ W.output = w.output
def PV (V : Nat → Value) (m q : Nat) : Prop := ∃ j, j < m ∧ (V j).ownBlock = some q
/-- the rows of the fields ahead of k. -/
def RK (V : Nat → Nat → Value) (M : Nat → Nat) (k q : Nat) : Prop := ∃ f, f < k ∧ PV (V f) (M f) q
theorem FM.below {V : Nat → Nat → Value} {M : Nat → Nat} {k : Nat} {w W W' : World} (h : FM (RK V M k) w W) (b : Below W.heap.size W W') : FM (RK V M (k + 1)) w W' := ⟨Nat.le_trans h.size b.size, fun q hq c => by rw [b.block q (Nat.lt_of_lt_of_le hq h.size)]; exact h.keep q hq (fun ⟨f, hf, e⟩ => c ⟨f, by omega, e⟩), b.os.trans h.same.1, b.tape.trans h.same.2.1, b.output.trans h.same.2.2⟩
theorem FM.more {V : Nat → Nat → Value} {M : Nat → Nat} {k : Nat} {w W W' : World} (h : FM (RK V M k) w W) (s : W.heap.size ≤ W'.heap.size) (kp : ∀ q, q < W.heap.size → ¬ PV (V k) (M k) q → W'.heap[q]? = W.heap[q]?) (e : W'.os = W.os ∧ W'.tape = W.tape ∧ W'.output = W.output) : FM (RK V M (k + 1)) w W' := ⟨Nat.le_trans h.size s, fun q hq hn => by rw [kp q (Nat.lt_of_lt_of_le hq h.size) (fun c => hn ⟨k, by omega, c⟩)]; exact h.keep q hq (fun ⟨f, hf, c⟩ => hn ⟨f, by omega, c⟩), e.1.trans h.same.1, e.2.1.trans h.same.2.1, e.2.2.trans h.same.2.2⟩
theorem FM.refl (V : Nat → Nat → Value) (M : Nat → Nat) (w : World) : FM (RK V M 0) w w := ⟨Nat.le_refl _, fun _ _ _ => rfl, rfl, rfl, rfl⟩
theorem setCells_grown (N : Nat) (W : World) : ∀ (vs : List Value) (o : Nat), W.grownBy (W.setCells N o vs) (some N)
  | [], o => ⟨rfl, rfl, rfl, Nat.le_refl _, fun _ _ _ => rfl⟩
  | v :: r, o => by
    have h := setCells_grown N (W.setCell ⟨N, o, none⟩ v) r (o + 1)
    have g : W.grownBy (W.setCell ⟨N, o, none⟩ v) (some N) := ⟨rfl, rfl, rfl, by simp, fun k hk q => Below.heap_setCell _ _ _ _ (fun e => q (by rw [e]))⟩
    exact ⟨h.os.trans g.os, h.tape.trans g.tape, h.output.trans g.output, Nat.le_trans g.size h.size, fun k hk q => by rw [show (W.setCells N o (v :: r)) = (W.setCell ⟨N, o, none⟩ v).setCells N (o + 1) r from rfl, h.block k (Nat.lt_of_lt_of_le hk g.size) q]; exact g.block k hk q⟩
theorem wpList_store_run {P : Program} {ops : Array Oper} {rest : List Oper} {o : Oper} {a : Act} {Q : Exit → Act → World → Prop} {w : World} (hgd : o.guard = none) (p x : Operand) (t : TypeId)
    (ho : o.op = .store t p x) (v y : Value) (w' : World) (hs : a.eval p = v) (hx : a.eval x = y) (hr : (Instr.storeAt t v y).run P w = .ok () w')
    (h : wpList P ops Q rest (a.put o.dst undef) w') : wpList P ops Q (o :: rest) a w := by
  refine wpList_plain hgd fun K hK => ?_
  unfold Oper.wp execOp
  simp only [ho, Sem.run_bind, Sem.run_pure, Result.andThen_ok, hs, hx, hr]
  exact hK _ _ h
theorem store_book (N : Nat) (W : World) (hc : ∀ j, j < 28 → (W.cell? ⟨N, j, none⟩).isSome = true) (hz : ∀ j, W.frozen? ⟨N, j, none⟩ = false) : (Instr.storeAt 58 (.pointer (some ⟨N, 0, none⟩)) (.agg (Array.replicate 28 (.slice none 0 0)))).run Tryz.prog W = .ok () (W.setCells N 0 (List.replicate 28 (.slice none 0 0))) := by
  have h := run_storeCells_cells (P := Tryz.prog) N 0 (List.replicate 28 (.slice none 0 0)) 0 W (fun j hj => by rw [List.length_replicate] at hj; first | exact hc j hj | (simpa using hc j hj)) (fun j hj => hz _) (fun v hv => by rw [List.eq_of_mem_replicate hv]; rfl)
  have e : (Value.agg (Array.replicate 28 (Value.slice none 0 0))).cells.toList = List.replicate 28 (.slice none 0 0) := rfl
  have s : (Value.agg (Array.replicate 28 (Value.slice none 0 0))).cells.size = 28 := rfl
  unfold Instr.storeAt storeVar
  simp only [Sem.run_bind, e, s, Tryz.sizeOf58, Result.andThen_ok]
  rw [show (Instr.sureAddr (.pointer (some ⟨N, 0, none⟩))).run Tryz.prog W = .ok ⟨N, 0, none⟩ W from rfl]
  simp only [Result.andThen_ok]
  exact h
set_option maxHeartbeats 32000000 in
theorem alone_any {N C : Nat} {M : Nat → Nat} {V : Nat → Nat → Value} {H : Nat → Value} {w : World} (h : MB N C M V H w) (hm : ∀ f, M f ≤ 4194304) :
    Calls Tryz.prog 15 #[.pointer (some ⟨N, 0, none⟩)] w fun e w' => e = .returned (.bool true) ∧ FM (fun q => RK V M 28 q ∨ q = N) w w' := by
  have nC := h.nC
  have NR : ∀ k, ¬ RK V M k N := fun k ⟨f, _, j, hj, e⟩ => by have := (h.lt f (Or.inr ⟨j, hj, e⟩)).1; omega
  have HK : ∀ {k W}, FM (RK V M k) w W → W.heap[N]? = w.heap[N]? := fun {k W} hW => hW.keep N nC.2.1 (NR k)
  have CN : ∀ {k W}, FM (RK V M k) w W → ∀ j, W.cell? ⟨N, j, none⟩ = w.cell? ⟨N, j, none⟩ := fun hW j => World.cell?_of_block (w := w) (a := ⟨N, j, none⟩) (HK hW)
  have ZN : ∀ {k W}, FM (RK V M k) w W → ∀ j, W.frozen? ⟨N, j, none⟩ = false := fun hW j => by rw [World.frozen?_of_block (w := w) (a := ⟨N, j, none⟩) (HK hW)]; exact h.fz j
  have nil : ∀ j, j ≠ 5 → j ≠ 7 → j ≠ 19 → j < 28 → w.cell? ⟨N, j, none⟩ = some (.slice none 0 0) := fun j c5 c7 c19 hj => by rw [h.cell j hj, (h.rest j c5 c7 c19).2]
  have KR : ∀ {k W}, FM (RK V M k) w W → ∀ q, own (H k) (V k) (M k) q → W.heap[q]? = w.heap[q]? := fun {k W} hW q e => hW.keep q (h.lt k e).2 (fun ⟨f, hf, j, hj, c⟩ => h.sep f k (by omega) q (Or.inr ⟨j, hj, c⟩) e)
  have K0 : Hid (∀ W, FM (RK V M 0) w W → Calls Tryz.prog 40 #[.pointer (some ⟨N, 0, none⟩)] W fun e w' => e = .returned (.bool true) ∧ FM (RK V M 1) w w') := fun W hW => (aloneBytes_none N W (by rw [CN hW]; exact nil 0 (by omega) (by omega) (by omega) (by omega))).mono fun e w' hh => ⟨hh.1, hW.below hh.2⟩
  have K1 : Hid (∀ W, FM (RK V M 1) w W → Calls Tryz.prog 41 #[.pointer (some ⟨N, 0, none⟩)] W fun e w' => e = .returned (.bool true) ∧ FM (RK V M 2) w w') := fun W hW => (aloneTexts_none N W (by rw [CN hW]; exact nil 1 (by omega) (by omega) (by omega) (by omega))).mono fun e w' hh => ⟨hh.1, hW.below hh.2⟩
  have K2 : Hid (∀ W, FM (RK V M 2) w W → Calls Tryz.prog 42 #[.pointer (some ⟨N, 0, none⟩)] W fun e w' => e = .returned (.bool true) ∧ FM (RK V M 3) w w') := fun W hW => (aloneInts_none N W (by rw [CN hW]; exact nil 2 (by omega) (by omega) (by omega) (by omega))).mono fun e w' hh => ⟨hh.1, hW.below hh.2⟩
  have K3 : Hid (∀ W, FM (RK V M 3) w W → Calls Tryz.prog 43 #[.pointer (some ⟨N, 0, none⟩)] W fun e w' => e = .returned (.bool true) ∧ FM (RK V M 4) w w') := fun W hW => (aloneInt64s_none N W (by rw [CN hW]; exact nil 3 (by omega) (by omega) (by omega) (by omega))).mono fun e w' hh => ⟨hh.1, hW.below hh.2⟩
  have K4 : Hid (∀ W, FM (RK V M 4) w W → Calls Tryz.prog 44 #[.pointer (some ⟨N, 0, none⟩)] W fun e w' => e = .returned (.bool true) ∧ FM (RK V M 5) w w') := fun W hW => (aloneUint64s_none N W (by rw [CN hW]; exact nil 4 (by omega) (by omega) (by omega) (by omega))).mono fun e w' hh => ⟨hh.1, hW.below hh.2⟩
  have K5 : Hid (∀ W, FM (RK V M 5) w W → Calls Tryz.prog 45 #[.pointer (some ⟨N, 0, none⟩)] W fun e w' => e = .returned (.bool true) ∧ FM (RK V M 6) w w') := fun W hW => by
    obtain ⟨G, b0, l0⟩ := h.b5
    have b := move5 (O' := H) b0 hW.size (by rw [CN hW]; exact b0.st.cF) (fun j hj hn => by rw [CN hW]; exact b0.nil j hj hn) (ZN hW) (KR hW)
    exact (Bk5.aloneTags_any b.sp b.st (hm 5) l0).mono fun e w' ⟨e1, bf⟩ => ⟨e1, hW.more bf.size (fun q hq hn => bf.keep q hq (fun i hi c => hn ⟨i, hi, c⟩)) bf.same⟩
  have K6 : Hid (∀ W, FM (RK V M 6) w W → Calls Tryz.prog 46 #[.pointer (some ⟨N, 0, none⟩)] W fun e w' => e = .returned (.bool true) ∧ FM (RK V M 7) w w') := fun W hW => (aloneFields_none N W (by rw [CN hW]; exact nil 6 (by omega) (by omega) (by omega) (by omega))).mono fun e w' hh => ⟨hh.1, hW.below hh.2⟩
  have K7 : Hid (∀ W, FM (RK V M 7) w W → Calls Tryz.prog 47 #[.pointer (some ⟨N, 0, none⟩)] W fun e w' => e = .returned (.bool true) ∧ FM (RK V M 8) w w') := fun W hW => by
    obtain ⟨G, b0, l0⟩ := h.b7
    have b := move7 (O' := H) b0 hW.size (by rw [CN hW]; exact b0.st.cF) (fun j hj hn => by rw [CN hW]; exact b0.nil j hj hn) (ZN hW) (KR hW)
    exact (Bk7.aloneSamples_any b.sp b.st (hm 7) l0).mono fun e w' ⟨e1, bf⟩ => ⟨e1, hW.more bf.size (fun q hq hn => bf.keep q hq (fun i hi c => hn ⟨i, hi, c⟩)) bf.same⟩
  have K8 : Hid (∀ W, FM (RK V M 8) w W → Calls Tryz.prog 48 #[.pointer (some ⟨N, 0, none⟩)] W fun e w' => e = .returned (.bool true) ∧ FM (RK V M 9) w w') := fun W hW => (aloneNodes_none N W (by rw [CN hW]; exact nil 8 (by omega) (by omega) (by omega) (by omega))).mono fun e w' hh => ⟨hh.1, hW.below hh.2⟩
  have K9 : Hid (∀ W, FM (RK V M 9) w W → Calls Tryz.prog 49 #[.pointer (some ⟨N, 0, none⟩)] W fun e w' => e = .returned (.bool true) ∧ FM (RK V M 10) w w') := fun W hW => (aloneLabels_none N W (by rw [CN hW]; exact nil 9 (by omega) (by omega) (by omega) (by omega))).mono fun e w' hh => ⟨hh.1, hW.below hh.2⟩
  have K10 : Hid (∀ W, FM (RK V M 10) w W → Calls Tryz.prog 50 #[.pointer (some ⟨N, 0, none⟩)] W fun e w' => e = .returned (.bool true) ∧ FM (RK V M 11) w w') := fun W hW => (aloneAccs_none N W (by rw [CN hW]; exact nil 10 (by omega) (by omega) (by omega) (by omega))).mono fun e w' hh => ⟨hh.1, hW.below hh.2⟩
  have K11 : Hid (∀ W, FM (RK V M 11) w W → Calls Tryz.prog 51 #[.pointer (some ⟨N, 0, none⟩)] W fun e w' => e = .returned (.bool true) ∧ FM (RK V M 12) w w') := fun W hW => (aloneInses_none N W (by rw [CN hW]; exact nil 11 (by omega) (by omega) (by omega) (by omega))).mono fun e w' hh => ⟨hh.1, hW.below hh.2⟩
  have K12 : Hid (∀ W, FM (RK V M 12) w W → Calls Tryz.prog 52 #[.pointer (some ⟨N, 0, none⟩)] W fun e w' => e = .returned (.bool true) ∧ FM (RK V M 13) w w') := fun W hW => (aloneEntries_none N W (by rw [CN hW]; exact nil 12 (by omega) (by omega) (by omega) (by omega))).mono fun e w' hh => ⟨hh.1, hW.below hh.2⟩
  have K13 : Hid (∀ W, FM (RK V M 13) w W → Calls Tryz.prog 53 #[.pointer (some ⟨N, 0, none⟩)] W fun e w' => e = .returned (.bool true) ∧ FM (RK V M 14) w w') := fun W hW => (aloneTold_none N W (by rw [CN hW]; exact nil 13 (by omega) (by omega) (by omega) (by omega))).mono fun e w' hh => ⟨hh.1, hW.below hh.2⟩
  have K14 : Hid (∀ W, FM (RK V M 14) w W → Calls Tryz.prog 54 #[.pointer (some ⟨N, 0, none⟩)] W fun e w' => e = .returned (.bool true) ∧ FM (RK V M 15) w w') := fun W hW => (aloneTokens_none N W (by rw [CN hW]; exact nil 14 (by omega) (by omega) (by omega) (by omega))).mono fun e w' hh => ⟨hh.1, hW.below hh.2⟩
  have K15 : Hid (∀ W, FM (RK V M 15) w W → Calls Tryz.prog 55 #[.pointer (some ⟨N, 0, none⟩)] W fun e w' => e = .returned (.bool true) ∧ FM (RK V M 16) w w') := fun W hW => (aloneSlots_none N W (by rw [CN hW]; exact nil 15 (by omega) (by omega) (by omega) (by omega))).mono fun e w' hh => ⟨hh.1, hW.below hh.2⟩
  have K16 : Hid (∀ W, FM (RK V M 16) w W → Calls Tryz.prog 56 #[.pointer (some ⟨N, 0, none⟩)] W fun e w' => e = .returned (.bool true) ∧ FM (RK V M 17) w w') := fun W hW => (aloneFates_none N W (by rw [CN hW]; exact nil 16 (by omega) (by omega) (by omega) (by omega))).mono fun e w' hh => ⟨hh.1, hW.below hh.2⟩
  have K17 : Hid (∀ W, FM (RK V M 17) w W → Calls Tryz.prog 57 #[.pointer (some ⟨N, 0, none⟩)] W fun e w' => e = .returned (.bool true) ∧ FM (RK V M 18) w w') := fun W hW => (alonePoints_none N W (by rw [CN hW]; exact nil 17 (by omega) (by omega) (by omega) (by omega))).mono fun e w' hh => ⟨hh.1, hW.below hh.2⟩
  have K18 : Hid (∀ W, FM (RK V M 18) w W → Calls Tryz.prog 58 #[.pointer (some ⟨N, 0, none⟩)] W fun e w' => e = .returned (.bool true) ∧ FM (RK V M 19) w w') := fun W hW => (aloneWrites_none N W (by rw [CN hW]; exact nil 18 (by omega) (by omega) (by omega) (by omega))).mono fun e w' hh => ⟨hh.1, hW.below hh.2⟩
  have K19 : Hid (∀ W, FM (RK V M 19) w W → Calls Tryz.prog 59 #[.pointer (some ⟨N, 0, none⟩)] W fun e w' => e = .returned (.bool true) ∧ FM (RK V M 20) w w') := fun W hW => by
    obtain ⟨G, b0, l0⟩ := h.b19
    have b := move19 (O' := H) b0 hW.size (by rw [CN hW]; exact b0.st.cF) (fun j hj hn => by rw [CN hW]; exact b0.nil j hj hn) (ZN hW) (KR hW)
    exact (Bk19.aloneDeltas_any b.sp b.st (hm 19) l0).mono fun e w' ⟨e1, bf⟩ => ⟨e1, hW.more bf.size (fun q hq hn => bf.keep q hq (fun i hi c => hn ⟨i, hi, c⟩)) bf.same⟩
  have K20 : Hid (∀ W, FM (RK V M 20) w W → Calls Tryz.prog 60 #[.pointer (some ⟨N, 0, none⟩)] W fun e w' => e = .returned (.bool true) ∧ FM (RK V M 21) w w') := fun W hW => (aloneSeriesList_none N W (by rw [CN hW]; exact nil 20 (by omega) (by omega) (by omega) (by omega))).mono fun e w' hh => ⟨hh.1, hW.below hh.2⟩
  have K21 : Hid (∀ W, FM (RK V M 21) w W → Calls Tryz.prog 61 #[.pointer (some ⟨N, 0, none⟩)] W fun e w' => e = .returned (.bool true) ∧ FM (RK V M 22) w w') := fun W hW => (aloneItems_none N W (by rw [CN hW]; exact nil 21 (by omega) (by omega) (by omega) (by omega))).mono fun e w' hh => ⟨hh.1, hW.below hh.2⟩
  have K22 : Hid (∀ W, FM (RK V M 22) w W → Calls Tryz.prog 62 #[.pointer (some ⟨N, 0, none⟩)] W fun e w' => e = .returned (.bool true) ∧ FM (RK V M 23) w w') := fun W hW => (aloneTables_none N W (by rw [CN hW]; exact nil 22 (by omega) (by omega) (by omega) (by omega))).mono fun e w' hh => ⟨hh.1, hW.below hh.2⟩
  have K23 : Hid (∀ W, FM (RK V M 23) w W → Calls Tryz.prog 63 #[.pointer (some ⟨N, 0, none⟩)] W fun e w' => e = .returned (.bool true) ∧ FM (RK V M 24) w w') := fun W hW => (aloneOuts_none N W (by rw [CN hW]; exact nil 23 (by omega) (by omega) (by omega) (by omega))).mono fun e w' hh => ⟨hh.1, hW.below hh.2⟩
  have K24 : Hid (∀ W, FM (RK V M 24) w W → Calls Tryz.prog 64 #[.pointer (some ⟨N, 0, none⟩)] W fun e w' => e = .returned (.bool true) ∧ FM (RK V M 25) w w') := fun W hW => (aloneTextLists_none N W (by rw [CN hW]; exact nil 24 (by omega) (by omega) (by omega) (by omega))).mono fun e w' hh => ⟨hh.1, hW.below hh.2⟩
  have K25 : Hid (∀ W, FM (RK V M 25) w W → Calls Tryz.prog 65 #[.pointer (some ⟨N, 0, none⟩)] W fun e w' => e = .returned (.bool true) ∧ FM (RK V M 26) w w') := fun W hW => (aloneCells_none N W (by rw [CN hW]; exact nil 25 (by omega) (by omega) (by omega) (by omega))).mono fun e w' hh => ⟨hh.1, hW.below hh.2⟩
  have K26 : Hid (∀ W, FM (RK V M 26) w W → Calls Tryz.prog 66 #[.pointer (some ⟨N, 0, none⟩)] W fun e w' => e = .returned (.bool true) ∧ FM (RK V M 27) w w') := fun W hW => (aloneRows_none N W (by rw [CN hW]; exact nil 26 (by omega) (by omega) (by omega) (by omega))).mono fun e w' hh => ⟨hh.1, hW.below hh.2⟩
  have K27 : Hid (∀ W, FM (RK V M 27) w W → Calls Tryz.prog 67 #[.pointer (some ⟨N, 0, none⟩)] W fun e w' => e = .returned (.bool true) ∧ FM (RK V M 28) w w') := fun W hW => (aloneImages_none N W (by rw [CN hW]; exact nil 27 (by omega) (by omega) (by omega) (by omega))).mono fun e w' hh => ⟨hh.1, hW.below hh.2⟩
  have FIN : Hid (∀ W, FM (RK V M 28) w W → (∀ j, j < 28 → (W.cell? ⟨N, j, none⟩).isSome = true) ∧ (∀ j, W.frozen? ⟨N, j, none⟩ = false) ∧ FM (fun q => RK V M 28 q ∨ q = N) w (W.setCells N 0 (List.replicate 28 (.slice none 0 0)))) := fun W hW => ⟨fun j hj => by
    rw [CN hW, h.cell j hj]; rfl, ZN hW, by
    have g := setCells_grown N W (List.replicate 28 (.slice none 0 0)) 0
    exact ⟨Nat.le_trans hW.size g.size, fun q hq hn => by rw [g.block q (Nat.lt_of_lt_of_le hq hW.size) (fun e => hn (Or.inr (by injection e)))]; exact hW.keep q hq (fun c => hn (Or.inl c)), g.os.trans hW.same.1, g.tape.trans hW.same.2.1, g.output.trans hW.same.2.2⟩⟩
  have B0 : Hid _ := FM.refl V M w
  clear HK CN ZN KR h nil nC NR hm
  go_enter Tryz.func15, Tryz.ntmps15
  go_wp2_with fail
  refine Calls.mono (K0.out _ B0.out) ?_
  rintro e w0 ⟨rfl, b0⟩
  have B1 : Hid _ := b0
  clear b0 K0 B0
  go_wp2_with fail
  refine Calls.mono (K1.out _ B1.out) ?_
  rintro e w1 ⟨rfl, b1⟩
  have B2 : Hid _ := b1
  clear b1 K1 B1
  go_wp2_with fail
  refine Calls.mono (K2.out _ B2.out) ?_
  rintro e w2 ⟨rfl, b2⟩
  have B3 : Hid _ := b2
  clear b2 K2 B2
  go_wp2_with fail
  refine Calls.mono (K3.out _ B3.out) ?_
  rintro e w3 ⟨rfl, b3⟩
  have B4 : Hid _ := b3
  clear b3 K3 B3
  go_wp2_with fail
  refine Calls.mono (K4.out _ B4.out) ?_
  rintro e w4 ⟨rfl, b4⟩
  have B5 : Hid _ := b4
  clear b4 K4 B4
  go_wp2_with fail
  refine Calls.mono (K5.out _ B5.out) ?_
  rintro e w5 ⟨rfl, b5⟩
  have B6 : Hid _ := b5
  clear b5 K5 B5
  go_wp2_with fail
  refine Calls.mono (K6.out _ B6.out) ?_
  rintro e w6 ⟨rfl, b6⟩
  have B7 : Hid _ := b6
  clear b6 K6 B6
  go_wp2_with fail
  refine Calls.mono (K7.out _ B7.out) ?_
  rintro e w7 ⟨rfl, b7⟩
  have B8 : Hid _ := b7
  clear b7 K7 B7
  go_wp2_with fail
  refine Calls.mono (K8.out _ B8.out) ?_
  rintro e w8 ⟨rfl, b8⟩
  have B9 : Hid _ := b8
  clear b8 K8 B8
  go_wp2_with fail
  refine Calls.mono (K9.out _ B9.out) ?_
  rintro e w9 ⟨rfl, b9⟩
  have B10 : Hid _ := b9
  clear b9 K9 B9
  go_wp2_with fail
  refine Calls.mono (K10.out _ B10.out) ?_
  rintro e w10 ⟨rfl, b10⟩
  have B11 : Hid _ := b10
  clear b10 K10 B10
  go_wp2_with fail
  refine Calls.mono (K11.out _ B11.out) ?_
  rintro e w11 ⟨rfl, b11⟩
  have B12 : Hid _ := b11
  clear b11 K11 B11
  go_wp2_with fail
  refine Calls.mono (K12.out _ B12.out) ?_
  rintro e w12 ⟨rfl, b12⟩
  have B13 : Hid _ := b12
  clear b12 K12 B12
  go_wp2_with fail
  refine Calls.mono (K13.out _ B13.out) ?_
  rintro e w13 ⟨rfl, b13⟩
  have B14 : Hid _ := b13
  clear b13 K13 B13
  go_wp2_with fail
  refine Calls.mono (K14.out _ B14.out) ?_
  rintro e w14 ⟨rfl, b14⟩
  have B15 : Hid _ := b14
  clear b14 K14 B14
  go_wp2_with fail
  refine Calls.mono (K15.out _ B15.out) ?_
  rintro e w15 ⟨rfl, b15⟩
  have B16 : Hid _ := b15
  clear b15 K15 B15
  go_wp2_with fail
  refine Calls.mono (K16.out _ B16.out) ?_
  rintro e w16 ⟨rfl, b16⟩
  have B17 : Hid _ := b16
  clear b16 K16 B16
  go_wp2_with fail
  refine Calls.mono (K17.out _ B17.out) ?_
  rintro e w17 ⟨rfl, b17⟩
  have B18 : Hid _ := b17
  clear b17 K17 B17
  go_wp2_with fail
  refine Calls.mono (K18.out _ B18.out) ?_
  rintro e w18 ⟨rfl, b18⟩
  have B19 : Hid _ := b18
  clear b18 K18 B18
  go_wp2_with fail
  refine Calls.mono (K19.out _ B19.out) ?_
  rintro e w19 ⟨rfl, b19⟩
  have B20 : Hid _ := b19
  clear b19 K19 B19
  go_wp2_with fail
  refine Calls.mono (K20.out _ B20.out) ?_
  rintro e w20 ⟨rfl, b20⟩
  have B21 : Hid _ := b20
  clear b20 K20 B20
  go_wp2_with fail
  refine Calls.mono (K21.out _ B21.out) ?_
  rintro e w21 ⟨rfl, b21⟩
  have B22 : Hid _ := b21
  clear b21 K21 B21
  go_wp2_with fail
  refine Calls.mono (K22.out _ B22.out) ?_
  rintro e w22 ⟨rfl, b22⟩
  have B23 : Hid _ := b22
  clear b22 K22 B22
  go_wp2_with fail
  refine Calls.mono (K23.out _ B23.out) ?_
  rintro e w23 ⟨rfl, b23⟩
  have B24 : Hid _ := b23
  clear b23 K23 B23
  go_wp2_with fail
  refine Calls.mono (K24.out _ B24.out) ?_
  rintro e w24 ⟨rfl, b24⟩
  have B25 : Hid _ := b24
  clear b24 K24 B24
  go_wp2_with fail
  refine Calls.mono (K25.out _ B25.out) ?_
  rintro e w25 ⟨rfl, b25⟩
  have B26 : Hid _ := b25
  clear b25 K25 B25
  go_wp2_with fail
  refine Calls.mono (K26.out _ B26.out) ?_
  rintro e w26 ⟨rfl, b26⟩
  have B27 : Hid _ := b26
  clear b26 K26 B26
  go_wp2_with fail
  refine Calls.mono (K27.out _ B27.out) ?_
  rintro e w27 ⟨rfl, b27⟩
  have B28 : Hid _ := b27
  clear b27 K27 B27
  obtain ⟨dd, zz, ff⟩ := FIN.out w27 B28.out
  have fin : Hid _ := ff
  have hst : Hid _ := store_book N w27 dd zz
  clear dd zz ff FIN B28
  go_wp2_with (refine wpList_store_run (by rfl) (.tmp 116) (.tmp 115) 58 (by rfl) _ _ _ (by rfl) (by rfl) hst.out ?_)
  go_ret
  exact ⟨rfl, fin.out⟩
/-- a book, what it owns told by a bound. -/
structure BB (N C n : Nat) (Own : Nat → Prop) (w : World) : Prop where
  mb : ∃ M V H, MB N C M V H w ∧ (∀ f, M f ≤ n) ∧ ∀ f q, own (H f) (V f) (M f) q → Own q
  at_ : Own N
  lt : ∀ q, Own q → q < w.heap.size
  nC : N < C ∧ C ≤ w.heap.size
/-- what is not the book's stays. -/
structure KO (Own : Nat → Prop) (w w' : World) : Prop where
  size : w.heap.size ≤ w'.heap.size
  keep : ∀ q, q < w.heap.size → ¬ Own q → w'.heap[q]? = w.heap[q]?
  same : w'.os = w.os ∧ w'.tape = w.tape ∧ w'.output = w.output
theorem KO.refl (Own : Nat → Prop) (w : World) : KO Own w w := ⟨Nat.le_refl _, fun _ _ _ => rfl, rfl, rfl, rfl⟩
theorem KO.below {Own : Nat → Prop} {w w' : World} {K : Nat} (h : KO Own w w') (hK : K ≤ w.heap.size) (hn : ∀ q, q < K → ¬ Own q) : Below K w w' := ⟨h.same.1, h.same.2.1, h.same.2.2, h.size, fun q hq => h.keep q (by omega) (hn q hq)⟩
theorem BB.keep {N C n : Nat} {Own : Nat → Prop} {w w' : World} (h : BB N C n Own w) (sz : w.heap.size ≤ w'.heap.size) (k : ∀ q, Own q → q < w.heap.size → w'.heap[q]? = w.heap[q]?) : BB N C n Own w' := by
  obtain ⟨⟨M, V, H, mb, hn, ho⟩, a, lt, nC⟩ := h
  exact ⟨⟨M, V, H, mb.keep sz (k N a mb.nC.2.1) (fun f q e => k q (ho f q e) (mb.lt f e).2), hn, ho⟩, a, fun q e => by have := lt q e; omega, by omega⟩
theorem BB.below {N C n : Nat} {Own : Nat → Prop} {w w' : World} (h : BB N C n Own w) (b : Below w.heap.size w w') : BB N C n Own w' := h.keep b.size (fun q _ hq => b.block q hq)
theorem BB.more {N C n n' : Nat} {Own Own' : Nat → Prop} {w : World} (h : BB N C n Own w) (hn : n ≤ n') (ho : ∀ q, Own q → Own' q) (lt : ∀ q, Own' q → q < w.heap.size) : BB N C n' Own' w := by
  obtain ⟨⟨M, V, H, mb, h1, h2⟩, a, _, nC⟩ := h
  exact ⟨⟨M, V, H, mb, fun f => Nat.le_trans (h1 f) hn, fun f q e => ho q (h2 f q e)⟩, ho N a, lt, nC⟩
theorem BB.empty {N C : Nat} {w : World} (hN : N < C) (hC : C ≤ w.heap.size) (hc : ∀ j, j < 28 → w.cell? ⟨N, j, none⟩ = some (.slice none 0 0)) (hz : ∀ j, w.frozen? ⟨N, j, none⟩ = false) : BB N C 0 (fun q => q = N) w := by
  have no : ∀ q, ¬ own (.slice none 0 0) (fun _ => undef) 0 q := fun q e => by
    rcases e with e | ⟨j, hj, _⟩
    · simp [Value.ownBlock] at e
    · omega
  refine ⟨⟨fun _ => 0, fun _ _ => undef, fun _ => .slice none 0 0, ⟨?_, ?_, ?_, fun f g _ q e => absurd e (no q), fun j _ _ _ => ⟨rfl, rfl⟩⟩, fun _ => Nat.le_refl _, fun f q e => absurd e (no q)⟩, rfl, fun q e => by omega, by omega⟩
  · exact ⟨fun _ => [], ⟨⟨hN, by omega, hC, fun i hi => by omega, fun k e => (by cases e), fun i j hi => by omega, fun i hi => by omega⟩, ⟨hc 5 (by omega), ⟨rfl, Or.inl ⟨rfl, rfl⟩⟩, fun j hj => by omega, Bk5.BF.refl _ _ _⟩, fun j hj _ => hc j hj, hz⟩, fun j hj => by omega⟩
  · exact ⟨fun _ => [], ⟨⟨hN, by omega, hC, fun i hi => by omega, fun k e => (by cases e), fun i j hi => by omega, fun i hi => by omega⟩, ⟨hc 7 (by omega), ⟨rfl, Or.inl ⟨rfl, rfl⟩⟩, fun j hj => by omega, Bk7.BF.refl _ _ _⟩, fun j hj _ => hc j hj, hz⟩, fun j hj => by omega⟩
  · exact ⟨fun _ => [], ⟨⟨hN, by omega, hC, fun i hi => by omega, fun k e => (by cases e), fun i j hi => by omega, fun i hi => by omega⟩, ⟨hc 19 (by omega), ⟨rfl, Or.inl ⟨rfl, rfl⟩⟩, fun j hj => by omega, Bk19.BF.refl _ _ _⟩, fun j hj _ => hc j hj, hz⟩, fun j hj => by omega⟩
theorem BB.start (w : World) : BB w.heap.size (w.heap.size + 1) 0 (fun q => q = w.heap.size) (w.alloc (.cells (Array.replicate 28 (.slice none 0 0)) 58)) :=
  BB.empty (by omega) (by simp) (fun j hj => by rw [World.cell?_alloc_at _ _ _ _ rfl, Array.getElem?_replicate, if_pos hj]) (fun j => World.frozen?_alloc_at _ _ _ _ rfl)
theorem BB.take5 {N C n B : Nat} {Own : Nat → Prop} {w : World} {v : Value} {l : List (Bk5.E2)} (h : BB N C n Own w) (o : Bk5.OE w B v l) (hl : l.length ≤ 268435456) (hv : ∀ q, v.ownBlock = some q → C ≤ q ∧ ¬ Own q) (hn : n ≤ 4194304) :
    Calls Tryz.prog 25 #[.pointer (some ⟨N, 0, none⟩), v] w fun e w' => e = .returned undef ∧ BB N C (n + 1) (fun q => Own q ∨ v.ownBlock = some q ∨ (w.heap.size ≤ q ∧ q < w'.heap.size)) w' ∧ KO Own w w' := by
  obtain ⟨⟨M, V, H, mb, h1, h2⟩, a, lt, nC⟩ := h
  refine (mb.take5 o hl (fun q e => ⟨(hv q e).1, fun g c => (hv q e).2 (h2 g q c)⟩) (by have := h1 5; omega)).mono fun e w' ⟨e1, h', mb', fr⟩ => ⟨e1, ⟨⟨_, _, _, mb', fun g => ?_, fun g q e => ?_⟩, Or.inl a, fun q e => ?_, by have := fr.size; omega⟩, ⟨fr.size, fun q hq hn => fr.keep q hq (fun c => hn (c ▸ a)) (fun c => hn (h2 5 q (Or.inl c))), fr.same⟩⟩
  · by_cases c : g = 5
    · subst c; rw [upd_at]; have := h1 5; omega
    · rw [upd_ne c]; have := h1 g; omega
  · rcases own_upd rfl fr.own g q e with c | ⟨_, c | c⟩
    · exact Or.inl (h2 g q c)
    · exact Or.inr (Or.inl c)
    · exact Or.inr (Or.inr ⟨c, (mb'.lt g e).2⟩)
  · rcases e with e | e | e
    · have := lt q e; have := fr.size; omega
    · have := (o.bound e).2; have := fr.size; omega
    · exact e.2
theorem BB.take7 {N C n B : Nat} {Own : Nat → Prop} {w : World} {v : Value} {l : List (Bk7.E3)} (h : BB N C n Own w) (o : Bk7.OE w B v l) (hl : l.length ≤ 268435456) (hv : ∀ q, v.ownBlock = some q → C ≤ q ∧ ¬ Own q) (hn : n ≤ 4194304) :
    Calls Tryz.prog 7 #[.pointer (some ⟨N, 0, none⟩), v] w fun e w' => e = .returned undef ∧ BB N C (n + 1) (fun q => Own q ∨ v.ownBlock = some q ∨ (w.heap.size ≤ q ∧ q < w'.heap.size)) w' ∧ KO Own w w' := by
  obtain ⟨⟨M, V, H, mb, h1, h2⟩, a, lt, nC⟩ := h
  refine (mb.take7 o hl (fun q e => ⟨(hv q e).1, fun g c => (hv q e).2 (h2 g q c)⟩) (by have := h1 7; omega)).mono fun e w' ⟨e1, h', mb', fr⟩ => ⟨e1, ⟨⟨_, _, _, mb', fun g => ?_, fun g q e => ?_⟩, Or.inl a, fun q e => ?_, by have := fr.size; omega⟩, ⟨fr.size, fun q hq hn => fr.keep q hq (fun c => hn (c ▸ a)) (fun c => hn (h2 7 q (Or.inl c))), fr.same⟩⟩
  · by_cases c : g = 7
    · subst c; rw [upd_at]; have := h1 7; omega
    · rw [upd_ne c]; have := h1 g; omega
  · rcases own_upd rfl fr.own g q e with c | ⟨_, c | c⟩
    · exact Or.inl (h2 g q c)
    · exact Or.inr (Or.inl c)
    · exact Or.inr (Or.inr ⟨c, (mb'.lt g e).2⟩)
  · rcases e with e | e | e
    · have := lt q e; have := fr.size; omega
    · have := (o.bound e).2; have := fr.size; omega
    · exact e.2
theorem BB.alone {N C n : Nat} {Own : Nat → Prop} {w : World} (h : BB N C n Own w) (hn : n ≤ 4194304) :
    Calls Tryz.prog 15 #[.pointer (some ⟨N, 0, none⟩)] w fun e w' => e = .returned (.bool true) ∧ KO Own w w' := by
  obtain ⟨⟨M, V, H, mb, h1, h2⟩, a, lt, nC⟩ := h
  refine (alone_any mb (fun f => Nat.le_trans (h1 f) hn)).mono fun e w' ⟨e1, fm⟩ => ⟨e1, fm.size, fun q hq c => fm.keep q hq (fun d => ?_), fm.same⟩
  rcases d with ⟨f, _, j, hj, e⟩ | d
  · exact c (h2 f q (Or.inr ⟨j, hj, e⟩))
  · exact c (d ▸ a)
end Go.Proofs.YticgapplpfaigaaGreat.Mb

namespace Go.Proofs.YticgapplpfaigaaGreat.Mb
open Go.RowKit
set_option linter.unusedVariables false
set_option linter.unusedSimpArgs false
set_option maxRecDepth 100000
/-- while what lies in a row of deltas is taken. -/
structure TD (N C B : Nat) (M : Nat → Nat) (V : Nat → Nat → Value) (H : Nat → Value) (v : Value) (l : List Bk19.EK) (w : World) (k : Nat) (wr : World) (M' : Nat → Nat) (V' : Nat → Nat → Value) (H' : Nat → Value) : Prop where
  mb : MB N C M' V' H' wr
  m5 : M' 5 = M 5 + k
  mm : ∀ f, M' f ≤ M f + k + 1
  ow : ∀ f q, own (H' f) (V' f) (M' f) q → own (H f) (V f) (M f) q ∨ v.ownBlock = some q ∨ w.heap.size ≤ q
  oe : Bk19.OE wr B v l
  vo : ∀ q, v.ownBlock = some q → own (H' 19) (V' 19) (M' 19) q
  sz : w.heap.size ≤ wr.heap.size
  kp : ∀ q, q < w.heap.size → q ≠ N → (∀ f, ¬ own (H f) (V f) (M f) q) → wr.heap[q]? = w.heap[q]?
  sm : wr.os = w.os ∧ wr.tape = w.tape ∧ wr.output = w.output
theorem TD.first {N C B : Nat} {M : Nat → Nat} {V : Nat → Nat → Value} {H : Nat → Value} {v h' : Value} {l : List Bk19.EK} {w w' : World} {G : Nat → List Bk19.EK} (h : MB N C M V H w) (hG : ∀ j, j < M 19 → (G j).length ≤ 268435456) (o : Bk19.OE w B v l) (hl : l.length ≤ 268435456) (hf : ∀ q, v.ownBlock = some q → C ≤ q ∧ ∀ f, ¬ own (H f) (V f) (M f) q) (bk : Bk19.BK H N C (M 19 + 1) (fun j => if j = M 19 then v else V 19 j) h' (fun j => if j = M 19 then l else G j) w') (bN : Below N w w') (fb : Bk19.FRB N w (H 19) h' w') :
    TD N C B M V H v l w 0 w' (upd 19 (M 19 + 1) M) (upd 19 (snoc (M 19) v (V 19)) V) (upd 19 h' H) := by
  have fr : FR N w (H 19) h' w' := ⟨fb.1, fb.2.1, fb.2.2, bN.os, bN.tape, bN.output⟩
  have nC := h.nC
  refine ⟨h.took19 hG hl hf bk fr, ?_, fun f => ?_, fun f q e => ?_, row_kept o (fun q e => fr.keep q (o.bound e).2 (by have := (hf q e).1; omega) (fun c => (hf q e).2 19 (Or.inl c))), fun q e => ?_, fr.size, fun q hq hN hn => fr.keep q hq hN (fun c => hn 19 (Or.inl c)), fr.same⟩
  · rw [upd_ne (by decide)]; rfl
  · by_cases c : f = 19
    · subst c; rw [upd_at]; omega
    · rw [upd_ne c]; omega
  · rcases own_upd rfl fr.own f q e with c | ⟨_, c⟩
    · exact Or.inl c
    · exact Or.inr c
  · rw [upd_at, upd_at, upd_at]; exact Or.inr ⟨M 19, by omega, by simp only [snoc, if_true]; exact e⟩
theorem TD.next {N C B k : Nat} {M M' : Nat → Nat} {V V' : Nat → Nat → Value} {H H' : Nat → Value} {v h' : Value} {l : List Bk19.EK} {w wr w' : World} (h : TD N C B M V H v l w k wr M' V' H') (mb' : MB N C (upd 5 (M' 5 + 1) M') (upd 5 (snoc (M' 5) (.slice none 0 0) (V' 5)) V') (upd 5 h' H') w') (fr : FR N wr (H' 5) h' w') :
    TD N C B M V H v l w (k + 1) w' (upd 5 (M' 5 + 1) M') (upd 5 (snoc (M' 5) (.slice none 0 0) (V' 5)) V') (upd 5 h' H') := by
  have nC := h.mb.nC
  refine ⟨mb', ?_, fun f => ?_, fun f q e => ?_, row_kept h.oe (fun q e => fr.keep q (h.oe.bound e).2 (by have := (h.mb.lt 19 (h.vo q e)).1; omega) (fun c => h.mb.sep 19 5 (by decide) q (h.vo q e) (Or.inl c))), fun q e => ?_, Nat.le_trans h.sz fr.size, fun q hq hN hn => ?_, fr.same.1.trans h.sm.1, fr.same.2.1.trans h.sm.2.1, fr.same.2.2.trans h.sm.2.2⟩
  · rw [upd_at, h.m5]; omega
  · by_cases c : f = 5
    · subst c; rw [upd_at, h.m5]; omega
    · rw [upd_ne c]; have := h.mm f; omega
  · rcases own_upd rfl fr.own f q e with c | ⟨_, c | c⟩
    · exact h.ow f q c
    · simp [Value.ownBlock] at c
    · exact Or.inr (Or.inr (Nat.le_trans h.sz c))
  · rw [upd_ne (by decide), upd_ne (by decide), upd_ne (by decide)]; exact h.vo q e
  · rw [fr.keep q (Nat.lt_of_lt_of_le hq h.sz) hN (fun c => ?_)]
    · exact h.kp q hq hN hn
    · rcases h.ow 5 q (Or.inl c) with d | d | d
      · exact hn 5 d
      · exact h.mb.sep 19 5 (by decide) q (h.vo q d) (Or.inl c)
      · omega
set_option maxHeartbeats 4000000 in
theorem MB.take19 {N C B : Nat} {M : Nat → Nat} {V : Nat → Nat → Value} {H : Nat → Value} {w : World} {v : Value} {l : List Bk19.EK} (h : MB N C M V H w) (o : Bk19.OE w B v l) (hl : l.length ≤ 1048576) (nt : ∀ x ∈ l, x.2.1 = .slice none 0 0) (hf : ∀ q, v.ownBlock = some q → C ≤ q ∧ ∀ f, ¬ own (H f) (V f) (M f) q) (hm : ∀ f, M f + l.length ≤ 4194304) :
    Calls Tryz.prog 10 #[.pointer (some ⟨N, 0, none⟩), v] w fun e w' => e = .returned undef ∧ ∃ M' V' H', TD N C B M V H v l w l.length w' M' V' H' := by
  obtain ⟨G, b, hG⟩ := h.b19
  obtain ⟨hv', w', hr, cF', zF', bk, bb, fb⟩ := b.take o (fun q e => ⟨(hf q e).1, fun c => (hf q e).2 19 (Or.inl c), fun j hj c => (hf q e).2 19 (Or.inr ⟨j, hj, c⟩)⟩) (by have := hm 19; omega)
  have cF := b.st.cF
  obtain ⟨ah, ch, e1, _⟩ := b.st.hr.form
  obtain ⟨av, cv, e2, _⟩ := o.formO
  obtain ⟨ah2, ch2, e3, _⟩ := bk.st.hr.form
  have T0 : Hid (∃ M' V' H', TD N C B M V H v l w 0 (w'.setCell ⟨N, 19, none⟩ (.slice ah2 (M 19 + 1) ch2)) M' V' H') := ⟨_, _, _, by rw [← e3]; exact TD.first h hG o (by omega) hf bk bb fb⟩
  have CL : Hid (∀ k W M' V' H', TD N C B M V H v l w k W M' V' H' → ∀ i, i < l.length → ∃ g x, v = .slice (some ⟨g, 0, none⟩) l.length cv ∧ W.cell? ⟨g, i * 10 + 1, none⟩ = some (.slice none 0 0) ∧ x = g) := fun k W M' V' H' t i hi => by
    obtain ⟨a, c, e4, _, h5⟩ := t.oe.formO
    obtain ⟨g, rfl⟩ := h5 (by omega)
    have hcs := World.ownsRow.cells t.oe (g := g) (by rw [e4]; rfl)
    obtain ⟨g0, g1, _⟩ := Bk19.enc_get l i _ (List.getElem?_eq_getElem hi)
    have k1 := hcs _ _ g1
    rw [Bk19.add_lt0, Nat.zero_add, nt _ (List.getElem_mem hi)] at k1
    rw [e2] at e4
    injection e4 with e5 _ e6
    exact ⟨g, g, by rw [e2, e5], k1, rfl⟩
  have hrH : Hid (∀ W, W = w.alloc (.cells #[v] 68) → (Builtin.append_ #[48, 48] 48 #[H 19, .slice (some ⟨w.heap.size, 0, none⟩) 1 1]).run Tryz.prog W = .ok hv' w') := fun W e => by subst e; exact hr
  have TK : Hid (∀ k W M' V' H', TD N C B M V H v l w k W M' V' H' → k < l.length → Calls Tryz.prog 25 #[.pointer (some ⟨N, 0, none⟩), .slice none 0 0] W fun e W' => e = .returned undef ∧ ∃ M' V' H', TD N C B M V H v l w (k + 1) W' M' V' H') := fun k W M' V' H' t hk => by
    refine (t.mb.take5 (B := 0) (l := []) ⟨rfl, Or.inl ⟨rfl, rfl⟩⟩ (by simp) (fun q e => by simp [Value.ownBlock] at e) (by have := t.m5; have := hm 5; omega)).mono fun e W' ⟨e1, h', mb', fr⟩ => ⟨e1, _, _, _, t.next mb' fr⟩
  rw [e1] at hrH cF
  rw [e3] at hrH
  rw [e1] at cF'
  have lH : Hid (∃ n, n = l.length ∧ v = .slice av n cv) := ⟨_, rfl, e2⟩
  clear h o hf bk bb fb hr b hG e1 e3 nt
  obtain ⟨n, hn, hv⟩ := lH.out
  rw [← hn] at hl CL TK ⊢
  have vH : Hid (v = .slice av n cv) := hv
  clear lH hn e2
  rw [hv] at hrH
  rw [show (#[.pointer (some ⟨N, 0, none⟩), v] : Array Value) = #[.pointer (some ⟨N, 0, none⟩), .slice av n cv] by rw [hv]]
  clear hv
  generalize M 19 = m19 at *
  go_enter Tryz.func10, Tryz.ntmps10
  go_wp2_with (at_builtin; refine Bk19.wpList_append_runB (by rfl) _ _ _ (by rfl) _ _ _ _ (by rfl) (by rfl) (hrH.out _ rfl) ?_)
  go_loopw [4] (fun v2 wx => ∃ (i : Nat), v2 = .int .i64 (i : Int) ∧ i ≤ n ∧ Hid (∃ M' V' H', TD N C B M V H v l w i wx M' V' H')) (fun v2 _ => n - (intOf v2).toNat)
  case atStart => exact ⟨0, rfl, Nat.zero_le _, T0⟩
  case round =>
    clear T0 cF hrH cF' zF'
    obtain ⟨i, rfl, hil, hS⟩ := hrel
    by_cases hi : i < n
    · obtain ⟨i0, iI, iw⟩ := Bk19.nums_t i n hi (by omega)
      obtain ⟨M', V', H', t⟩ := hS.out
      obtain ⟨g, x, ev, cc, _⟩ := CL.out _ _ _ _ _ t i hi
      rw [vH.out] at ev
      injection ev with ev _ _
      subst ev
      have tk : Hid _ := TK.out _ _ _ _ _ t hi
      clear t hS
      go_wp2_with fail
      refine Calls.mono tk.out ?_
      rintro e w5 ⟨rfl, t5⟩
      have T5 : Hid _ := t5
      clear t5 tk cc
      go_wp2_with fail
      exact ⟨⟨i + 1, by first | rfl | go_num, hi, T5⟩, by first | (simp [intOf]; done) | (simp [intOf]; omega)⟩
    · have hlt : ¬ (i : Int) < (n : Int) := by omega
      obtain rfl : n = i := by omega
      go_wp2_with fail
      simp [bodyPost, results, Tryz.results10, go_sem]
      exact ⟨rfl, hS.out⟩
theorem BB.take19 {N C n B : Nat} {Own : Nat → Prop} {w : World} {v : Value} {l : List Bk19.EK} (h : BB N C n Own w) (o : Bk19.OE w B v l) (hl : l.length ≤ 1048576) (nt : ∀ x ∈ l, x.2.1 = .slice none 0 0) (hv : ∀ q, v.ownBlock = some q → C ≤ q ∧ ¬ Own q) (hn : n + l.length ≤ 4194304) :
    Calls Tryz.prog 10 #[.pointer (some ⟨N, 0, none⟩), v] w fun e w' => e = .returned undef ∧ BB N C (n + l.length + 1) (fun q => Own q ∨ v.ownBlock = some q ∨ (w.heap.size ≤ q ∧ q < w'.heap.size)) w' ∧ KO Own w w' := by
  obtain ⟨⟨M, V, H, mb, h1, h2⟩, a, lt, nC⟩ := h
  refine (mb.take19 o hl nt (fun q e => ⟨(hv q e).1, fun g c => (hv q e).2 (h2 g q c)⟩) (fun f => by have := h1 f; omega)).mono fun e w' ⟨e1, M', V', H', t⟩ => ⟨e1, ⟨⟨_, _, _, t.mb, fun g => ?_, fun g q e => ?_⟩, Or.inl a, fun q e => ?_, by have := t.sz; omega⟩, ⟨t.sz, fun q hq hn => t.kp q hq (fun c => hn (c ▸ a)) (fun f c => hn (h2 f q c)), t.sm⟩⟩
  · have := t.mm g; have := h1 g; omega
  · rcases t.ow g q e with c | c | c
    · exact Or.inl (h2 g q c)
    · exact Or.inr (Or.inl c)
    · exact Or.inr (Or.inr ⟨c, (t.mb.lt g e).2⟩)
  · have := t.sz
    rcases e with e | e | e
    · have := lt q e; omega
    · have := (o.bound e).2; omega
    · exact e.2
end Go.Proofs.YticgapplpfaigaaGreat.Mb

namespace Go.Proofs.YticgapplpfaigaaGreat
open Go.RowKit
set_option linter.unusedVariables false
set_option linter.unusedSimpArgs false
/-- both Series and the book, apart. -/
structure JW (S R B N n : Nat) (vs vr : Value) (X Y : List Smp) (Own : Nat → Prop) (w : World) : Prop where
  tw : TW S R B vs vr X Y w
  bb : Mb.BB N (N + 1) n Own w
  d : ∀ q, Own q → q ≠ S ∧ q ≠ R ∧ vs.ownBlock ≠ some q ∧ vr.ownBlock ≠ some q
  hi : ∀ q, Own q → B ≤ q
def JE (S R B N n : Nat) (X Y : List Smp) (w : World) : Prop := ∃ vs vr Own, JW S R B N n vs vr X Y Own w
theorem JW.move {S R B N n : Nat} {vs vr vs' vr' : Value} {X Y X' Y' : List Smp} {Own : Nat → Prop} {w w' : World} (h : JW S R B N n vs vr X Y Own w) (t : TW S R B vs' vr' X' Y' w') (f : TFr S R vs vr vs' vr' w w') : JW S R B N n vs' vr' X' Y' Own w' := by
  refine ⟨t, h.bb.keep f.sz (fun q hq lt => ?_), fun q hq => ?_, h.hi⟩
  · obtain ⟨a, b, c, e⟩ := h.d q hq
    exact f.keep q lt a b (fun x => c x.symm) (fun x => e x.symm)
  · obtain ⟨a, b, c, e⟩ := h.d q hq
    have lt := h.bb.lt q hq
    refine ⟨a, b, fun x => ?_, fun x => ?_⟩
    · rcases f.os q x with y | y
      · exact c y
      · omega
    · rcases f.rr q x with y | y
      · exact e y
      · omega
theorem JW.fresh {S R B N n : Nat} {vs vr : Value} {X Y : List Smp} {Own : Nat → Prop} {w : World} (h : JW S R B N n vs vr X Y Own w) {q : Nat} (hq : w.heap.size ≤ q) : N < q ∧ ¬ Own q ∧ q ≠ S ∧ q ≠ R ∧ vs.ownBlock ≠ some q ∧ vr.ownBlock ≠ some q ∧ B ≤ q :=
  ⟨by have := h.bb.nC; omega, fun e => by have := h.bb.lt q e; omega, by have := h.tw.s.hN; omega, by have := h.tw.r.hN; omega, fun e => by have := h.tw.s.row.lt e; omega, fun e => by have := h.tw.r.row.lt e; omega, by have := h.tw.s.hN; have := h.tw.s.hB; omega⟩
theorem SS.keepB {N B : Nat} {v : Value} {l : List Smp} {w w' : World} (h : SS N B v l w) (sz : w.heap.size ≤ w'.heap.size) (kN : w'.heap[N]? = w.heap[N]?) (kv : ∀ g, v.ownBlock = some g → w'.heap[g]? = w.heap[g]?) : SS N B v l w' :=
  ⟨by rw [World.cell?_of_block (w := w) kN]; exact h.c0, by rw [frozen_block kN]; exact h.f0, h.row.keep sz kv, h.ne, Nat.lt_of_lt_of_le h.hN sz, h.hB, h.hk, h.hr, h.hn⟩
theorem JW.ko {S R B N n : Nat} {vs vr : Value} {X Y : List Smp} {Own : Nat → Prop} {w w' : World} (h : JW S R B N n vs vr X Y Own w) (k : Mb.KO Own w w') : TW S R B vs vr X Y w' ∧ Below B w w' := by
  have hB : B ≤ w.heap.size := by have := h.tw.s.hN; have := h.tw.s.hB; omega
  have kp : ∀ q, q < w.heap.size → (q = S ∨ q = R ∨ vs.ownBlock = some q ∨ vr.ownBlock = some q ∨ q < B) → w'.heap[q]? = w.heap[q]? := fun q hq c => k.keep q hq (fun o => by
    obtain ⟨a, b, c1, c2⟩ := h.d q o
    have := h.hi q o
    rcases c with c | c | c | c | c
    · exact a c
    · exact b c
    · exact c1 c
    · exact c2 c
    · omega)
  refine ⟨⟨h.tw.s.keepB k.size (kp S h.tw.s.hN (Or.inl rfl)) (fun g e => kp g (h.tw.s.row.lt e) (Or.inr (Or.inr (Or.inl e)))), h.tw.r.keepB k.size (kp R h.tw.r.hN (Or.inr (Or.inl rfl))) (fun g e => kp g (h.tw.r.row.lt e) (Or.inr (Or.inr (Or.inr (Or.inl e))))), h.tw.ne, h.tw.sr, h.tw.rs, h.tw.vv⟩, k.same.1, k.same.2.1, k.same.2.2, k.size, fun q hq => kp q (by omega) (Or.inr (Or.inr (Or.inr (Or.inr hq))))⟩
/-- behind a Take. -/
theorem JW.took {S R B N n n' : Nat} {vs vr v : Value} {X Y : List Smp} {Own : Nat → Prop} {w w' : World} (h : JW S R B N n vs vr X Y Own w) (k : Mb.KO Own w w') (b : Mb.BB N (N + 1) n' (fun q => Own q ∨ v.ownBlock = some q ∨ (w.heap.size ≤ q ∧ q < w'.heap.size)) w') (hv : ∀ q, v.ownBlock = some q → q ≠ S ∧ q ≠ R ∧ vs.ownBlock ≠ some q ∧ vr.ownBlock ≠ some q ∧ B ≤ q) : JE S R B N n' X Y w' ∧ Below B w w' := by
  obtain ⟨t, bl⟩ := h.ko k
  refine ⟨⟨vs, vr, _, t, b, fun q o => ?_, fun q o => ?_⟩, bl⟩
  · rcases o with o | o | o
    · exact h.d q o
    · obtain ⟨a, b, c, d, _⟩ := hv q o; exact ⟨a, b, c, d⟩
    · obtain ⟨_, _, a, b, c, d, _⟩ := h.fresh o.1; exact ⟨a, b, c, d⟩
  · rcases o with o | o | o
    · exact h.hi q o
    · exact (hv q o).2.2.2.2
    · obtain ⟨_, _, _, _, _, _, e⟩ := h.fresh o.1; exact e
def smE (s : Smp) : Bk7.E3 := (.int .i64 s.t, .int .u8 (s.k : Int), .int .i64 s.x)
theorem enc_sm (l : List Smp) : Bk7.enc (l.map smE) = encL l := by
  induction l with
  | nil => rfl
  | cons s r ih => simp only [List.map_cons, Bk7.enc, encL, ih, smE, Smp.enc]
def dlE (d : Dlt) : Bk19.EK := (.string ⟨#[]⟩, .slice none 0 0, .string ⟨#[]⟩, .int .i64 d.t, .bool d.had, .bool true, .int .u8 (d.ok : Int), .int .i64 d.ox, .int .u8 (d.nk : Int), .int .i64 d.nx)
theorem enc_dl (l : List Dlt) : Bk19.enc (l.map dlE) = encD l := by
  induction l with
  | nil => rfl
  | cons s r ih => simp only [List.map_cons, Bk19.enc, encD, ih, dlE, Dlt.enc]
/-- a row of samples to be taken. -/
def RT (S R B N n : Nat) (X Y : List Smp) (v : Value) (w : World) : Prop := ∃ vs vr Own K l, JW S R B N n vs vr X Y Own w ∧ Bk7.OE w K v l ∧ l.length ≤ 268435456 ∧ ∀ q, v.ownBlock = some q → N < q ∧ ¬ Own q ∧ q ≠ S ∧ q ≠ R ∧ vs.ownBlock ≠ some q ∧ vr.ownBlock ≠ some q ∧ B ≤ q
/-- a row of deltas to be taken. -/
def RD (S R B N n m : Nat) (X Y : List Smp) (v : Value) (w : World) : Prop := ∃ vs vr Own K l, JW S R B N n vs vr X Y Own w ∧ Bk19.OE w K v l ∧ l.length ≤ m ∧ (∀ x ∈ l, x.2.1 = .slice none 0 0) ∧ ∀ q, v.ownBlock = some q → N < q ∧ ¬ Own q ∧ q ≠ S ∧ q ≠ R ∧ vs.ownBlock ≠ some q ∧ vr.ownBlock ≠ some q ∧ B ≤ q
theorem take7_j {S R B N n : Nat} {X Y : List Smp} {v : Value} {w : World} (h : RT S R B N n X Y v w) (hn : n ≤ 4194304) : Calls Tryz.prog 7 #[.pointer (some ⟨N, 0, none⟩), v] w fun e w' => e = .returned undef ∧ JE S R B N (n + 1) X Y w' ∧ Below B w w' := by
  obtain ⟨vs, vr, Own, K, l, j, o, hl, hv⟩ := h
  refine (j.bb.take7 o hl (fun q e => ⟨(hv q e).1, (hv q e).2.1⟩) hn).mono fun e w' ⟨e1, b, k⟩ => ⟨e1, j.took k b (fun q e => (hv q e).2.2)⟩
theorem take19_j {S R B N n m : Nat} {X Y : List Smp} {v : Value} {w : World} (h : RD S R B N n m X Y v w) (hm : m ≤ 1048576) (hn : n + m ≤ 4194304) : Calls Tryz.prog 10 #[.pointer (some ⟨N, 0, none⟩), v] w fun e w' => e = .returned undef ∧ JE S R B N (n + m + 1) X Y w' ∧ Below B w w' := by
  obtain ⟨vs, vr, Own, K, l, j, o, hl, nt, hv⟩ := h
  refine (j.bb.take19 o (by omega) nt (fun q e => ⟨(hv q e).1, (hv q e).2.1⟩) (by omega)).mono fun e w' ⟨e1, b, k⟩ => ⟨e1, j.took k (b.more (by omega) (fun q h => h) b.lt) (fun q e => (hv q e).2.2)⟩
theorem alone_j {S R B N n : Nat} {X Y : List Smp} {w : World} (h : JE S R B N n X Y w) (hn : n ≤ 4194304) : Calls Tryz.prog 15 #[.pointer (some ⟨N, 0, none⟩)] w fun e w' => e = .returned (.bool true) ∧ (∃ vs vr, TW S R B vs vr X Y w') ∧ Below B w w' := by
  obtain ⟨vs, vr, Own, j⟩ := h
  refine (j.bb.alone hn).mono fun e w' ⟨e1, k⟩ => ⟨e1, ⟨vs, vr, (j.ko k).1⟩, (j.ko k).2⟩
theorem range_j {S R B N n : Nat} {X Y : List Smp} {w : World} (h : JE S R B N n X Y w) (hX : X.length ≤ 268435456) (f t : Int) : Calls Tryz.prog 14 #[.pointer (some ⟨S, 0, none⟩), .int .i64 f, .int .i64 t] w fun e w' => ∃ v, e = .returned v ∧ RT S R B N n X Y v w' ∧ Below B w w' := by
  obtain ⟨vs, vr, Own, j⟩ := h
  have hB : B ≤ w.heap.size := by have := j.tw.s.hN; have := j.tw.s.hB; omega
  refine (range_any S B vs X w j.tw.s f t).mono fun e w' ⟨v, e1, o, b⟩ => ⟨v, e1, ⟨vs, vr, Own, w.heap.size, (rangeL X f t).map smE, j.move (j.tw.below b) (TFr.of b), ?_, ?_, fun q e => j.fresh (o.lt q e).1⟩, b.mono hB⟩
  · unfold Bk7.OE; rw [List.length_map, enc_sm]; exact o
  · rw [List.length_map]
    have : (rangeL X f t).length ≤ X.length := List.Sublist.length_le ((List.take_sublist _ _).trans (List.drop_sublist _ _))
    omega
theorem delete_j {S R B N n : Nat} {X : List Smp} {w : World} (h : JE S R B N n X X w) (hX : X.length ≤ 268435456) (f t : Int) : Calls Tryz.prog 8 #[.pointer (some ⟨S, 0, none⟩), .int .i64 f, .int .i64 t] w fun e w' => ∃ v, e = .returned v ∧ RT S R B N n (delL X f t) X v w' ∧ Below B w w' := by
  obtain ⟨vs, vr, Own, j⟩ := h
  refine (delete_any S B vs X w j.tw.s f t).mono fun e w' ⟨v, vs', e1, o, s', fr, ne⟩ => ⟨v, e1, ⟨vs', vr, Own, w.heap.size, (rangeL X f t).map smE, j.move (j.tw.onS s' fr.r) (TFr.onS fr.r), ?_, ?_, fun q e => ?_⟩, fr.below j.tw.s⟩
  · unfold Bk7.OE; rw [List.length_map, enc_sm]; exact o
  · rw [List.length_map]
    have : (rangeL X f t).length ≤ X.length := List.Sublist.length_le ((List.take_sublist _ _).trans (List.drop_sublist _ _))
    omega
  · obtain ⟨a, b, c, d, _, f, g⟩ := j.fresh (o.lt q e).1
    exact ⟨a, b, c, d, ne q e, f, g⟩
theorem rdelete_j {S R B N n : Nat} {X Y : List Smp} {w : World} (h : JE S R B N n Y X w) (f t : Int) : Calls Tryz.prog 9 #[.pointer (some ⟨R, 0, none⟩), .int .i64 f, .int .i64 t] w fun e w' => ∃ v, e = .returned v ∧ JE S R B N n Y (delL X f t) w' ∧ Below B w w' := by
  obtain ⟨vs, vr, Own, j⟩ := h
  exact (rdelete_any R B vr X w j.tw.r f t).mono fun e w' ⟨v, vr', e1, _, s', fr⟩ => ⟨v, e1, ⟨vs, vr', Own, j.move (j.tw.onR s' fr) (TFr.onR fr)⟩, fr.below j.tw.r⟩
theorem load_j {S R B N n : Nat} {X L : List Smp} {a : Option Addr} {cap : Nat} {w : World} (h : JE S R B N n X X w) (hL : LIn w a L) (hn : X.length + L.length ≤ 1000000000000) : Calls Tryz.prog 11 #[.pointer (some ⟨S, 0, none⟩), .slice a L.length cap] w fun e w' => ∃ v, e = .returned v ∧ RD S R B N n L.length (putAll X L) X v w' ∧ Below B w w' := by
  obtain ⟨vs, vr, Own, j⟩ := h
  refine (load_any S B vs X L a cap w j.tw.s hL hn).mono fun e w' ⟨v, vs', K, e1, hKr, hKm, s', fr, o, ne, hK⟩ => ?_
  rw [← putAll_load j.tw.s.hr hKr hKm] at s'
  refine ⟨v, e1, ⟨vs', vr, Own, w.heap.size, _, j.move (j.tw.onS s' fr.r) (TFr.onS fr.r), (?_ : Bk19.OE w' w.heap.size v ((dlL (fun t => (valOf L t).getD (0, 0)) X K).map dlE)), ?_, ?_, fun q e => ?_⟩, fr.below j.tw.s⟩
  · unfold Bk19.OE; rw [List.length_map, enc_dl]; exact o
  · rw [List.length_map]
    unfold dlL
    rw [List.length_map]
    exact Nat.le_trans (List.length_filter_le _ _) hK
  · intro x hx
    obtain ⟨d, _, rfl⟩ := List.mem_map.1 hx
    rfl
  · obtain ⟨a, b, c, d, _, f, g⟩ := j.fresh (o.lt q e).1
    exact ⟨a, b, c, d, ne q e, f, g⟩
theorem rload_j {S R B N n : Nat} {X Y L : List Smp} {a : Option Addr} {cap : Nat} {w : World} (h : JE S R B N n Y X w) (hL : ∀ W, Below B w W → LIn W a L) (hn : X.length + L.length ≤ 1000000000000) : Calls Tryz.prog 12 #[.pointer (some ⟨R, 0, none⟩), .slice a L.length cap] w fun e w' => ∃ v, e = .returned v ∧ JE S R B N n Y (putAll X L) w' ∧ Below B w w' := by
  obtain ⟨vs, vr, Own, j⟩ := h
  exact (rload_any R B vr X L a cap w j.tw.r hL hn).mono fun e w' ⟨v, vr', e1, s', fr, _⟩ => ⟨v, e1, ⟨vs, vr', Own, j.move (j.tw.onR s' fr) (TFr.onR fr)⟩, fr.below j.tw.r⟩
theorem step_j {S R B N n : Nat} {X : List Smp} {w : World} (s : Stp) (h : JE S R B N n X X w) (hs : s.ok) (hL : ∀ W, Below B w W → LIn W s.la s.ls) (hn : X.length + s.ls.length + 1 ≤ 1000000000000) :
    Calls Tryz.prog 13 #[.pointer (some ⟨S, 0, none⟩), .pointer (some ⟨R, 0, none⟩), .agg #[.int .i64 s.k, .int .i64 s.t, .int .i64 s.u, .int .u8 (s.vk : Int), .int .i64 s.vx, .slice s.la s.ls.length s.lc]] w fun e w' => e = .returned (.bool true) ∧ JE S R B N n (run1 X s) (run1 X s) w' ∧ Below B w w' := by
  obtain ⟨vs, vr, Own, j⟩ := h
  exact (step_any S R B vs vr X s w j.tw hs hL hn).mono fun e w' ⟨e1, vs', vr', t, b, f⟩ => ⟨e1, ⟨vs', vr', Own, j.move t f⟩, b⟩
theorem JE.below {S R B N n : Nat} {X Y : List Smp} {w w' : World} (h : JE S R B N n X Y w) (b : Below w.heap.size w w') : JE S R B N n X Y w' := by
  obtain ⟨vs, vr, Own, j⟩ := h
  exact ⟨vs, vr, Own, j.move (j.tw.below b) (TFr.of b)⟩
theorem JE.size {S R B N n : Nat} {X Y : List Smp} {w : World} (h : JE S R B N n X Y w) : B ≤ w.heap.size := by
  obtain ⟨vs, vr, Own, j⟩ := h
  have := j.tw.s.hN; have := j.tw.s.hB; omega
theorem JE.more {S R B N n n' : Nat} {X Y : List Smp} {w : World} (h : JE S R B N n X Y w) (hn : n ≤ n') : JE S R B N n' X Y w := by
  obtain ⟨vs, vr, Own, j⟩ := h
  exact ⟨vs, vr, Own, j.tw, j.bb.more hn (fun q e => e) j.bb.lt, j.d, j.hi⟩
theorem JE.start {S R B : Nat} {vs vr : Value} {X Y : List Smp} {w : World} (h : TW S R B vs vr X Y w) : JE S R B w.heap.size 0 X Y (w.alloc (.cells (Array.replicate 28 (.slice none 0 0)) 58)) := by
  refine ⟨vs, vr, _, h.alloc _, Mb.BB.start w, fun q e => ?_, fun q e => ?_⟩
  · have h1 := h.s.hN; have h2 := h.r.hN
    refine ⟨by omega, by omega, fun c => ?_, fun c => ?_⟩
    · have := h.s.row.lt c; omega
    · have := h.r.row.lt c; omega
  · have h1 := h.s.hN; have h2 := h.s.hB; omega
end Go.Proofs.YticgapplpfaigaaGreat

namespace Go.Proofs.YticgapplpfaigaaGreat
open Go.RowKit
set_option linter.unusedVariables false
set_option linter.unusedSimpArgs false
set_option maxRecDepth 100000 in
set_option maxHeartbeats 16000000 in
theorem seriesOwn_walk (a : Option Addr) (n cap : Nat) (st : Nat → Stp) (w : World) (h : StIn w a n st) (hL : ∀ i, i < n → LIn w (st i).la (st i).ls) (hm : sumL st n ≤ 1048576) : Calls Tryz.prog 3 #[.slice a n cap] w fun e w' => e = .returned (.bool true) ∧ Below w.heap.size w w' := by
  have hl : Hid _ := live_any w
  have hI : Hid (StIn w a n st) := h
  have hLH : Hid (∀ i, i < n → LIn w (st i).la (st i).ls) := hL
  have hn : n ≤ 1048576 := Nat.le_trans (sumL_ge st n) hm
  have hsz : Hid (∀ k, k < n → sumL st k + (st k).ls.length + 1 ≤ 1048576) := fun k hk => by
    have := sumL_mono st (show k + 1 ≤ n by omega)
    simp only [sumL] at this; omega
  have hlen : Hid (∀ k, k ≤ n → (runF [] st k).length ≤ sumL st k) := fun k hk => by
    have := runF_len (List.Pairwise.nil : Rise []) st k
    simp at this; exact this
  have hge : Hid (∀ k, k ≤ sumL st k) := sumL_ge st
  have hmH : Hid (sumL st n ≤ 1048576) := hm
  clear h hL hm
  go_enter Tryz.func3, Tryz.ntmps3
  go_wp2_with fail
  refine Calls.mono hl.out ?_
  rintro e w1 ⟨rfl, hB1⟩
  clear hl
  go_wp2_with fail
  refine Calls.mono (new_any _) ?_
  rintro e w2 ⟨rfl, hS2, hB2⟩
  go_wp2_with fail
  refine Calls.mono (rnew_any _) ?_
  rintro e w3 ⟨rfl, hR3, hB3⟩
  have h0 : Hid (JE w1.heap.size w2.heap.size w.heap.size w3.heap.size (sumL st 0 + 3 * 0) (runF [] st 0) (runF [] st 0) (w3.alloc (.cells (Array.replicate 28 (.slice none 0 0)) 58)) ∧ Below w.heap.size w (w3.alloc (.cells (Array.replicate 28 (.slice none 0 0)) 58))) := ⟨JE.start (TW.start (w := w) hS2 hR3 hB3 hB1.size (Nat.le_refl _)), ((hB1.trans (hB2.mono hB1.size)).trans (hB3.mono (Nat.le_trans hB1.size hB2.size))).alloc (by have := hB1.size; have := hB2.size; have := hB3.size; omega) _⟩
  have er : (Array.replicate 28 (Value.slice none 0 0)) = #[.slice none 0 0, .slice none 0 0, .slice none 0 0, .slice none 0 0, .slice none 0 0, .slice none 0 0, .slice none 0 0, .slice none 0 0, .slice none 0 0, .slice none 0 0, .slice none 0 0, .slice none 0 0, .slice none 0 0, .slice none 0 0, .slice none 0 0, .slice none 0 0, .slice none 0 0, .slice none 0 0, .slice none 0 0, .slice none 0 0, .slice none 0 0, .slice none 0 0, .slice none 0 0, .slice none 0 0, .slice none 0 0, .slice none 0 0, .slice none 0 0, .slice none 0 0] := rfl
  rw [er] at h0
  clear hS2 hR3 hB1 hB2 hB3 er
  generalize w1.heap.size = S at *
  generalize w2.heap.size = R at *
  go_wp2_with fail
  generalize w3.heap.size = N at *
  go_loopw [6] (fun i wr => ∃ (k : Nat), k ≤ n ∧ i = .int .i64 (k : Int) ∧ Hid (JE S R w.heap.size N (sumL st k + 3 * k) (runF [] st k) (runF [] st k) wr ∧ Below w.heap.size w wr)) (fun i _ => n - (intOf i).toNat)
  case atStart => exact ⟨0, by omega, rfl, h0⟩
  case round =>
    obtain ⟨k, hk, rfl, hrr⟩ := hrel
    clear h0
    have hB := hrr.out.2
    by_cases hkn : k < n
    · have hkI : (k : Int) < (n : Int) := by omega
      have k0 : (0 : Int) ≤ (k : Int) := by omega
      have hck : Hid (k ≤ sumL st k) := hge.out k
      have hXl0 : Hid ((runF [] st k).length ≤ 1048576) := by have h1 := hsz.out k hkn; have h2 := hlen.out k hk; exact (by omega : (runF [] st k).length ≤ 1048576)
      have hXl : Hid ((run1 (runF [] st k) (st k)).length ≤ 268435456) := by
        have h1 := hsz.out k hkn; have h2 := hlen.out k hk
        have h3 := run1_len (runF_rise (List.Pairwise.nil : Rise []) st k) (st k)
        exact (by omega : (run1 (runF [] st k) (st k)).length ≤ 268435456)
      obtain ⟨b, off, rfl, hb, c0, c1, c2, c3, c4, c5⟩ := StIn.cells hI.out hB hkn
      by_cases q2 : (st k).k = 2
      · have hrn : Hid (run1 (runF [] st k) (st k) = runF [] st (k + 1)) := rfl
        have er : run1 (runF [] st k) (st k) = delL (runF [] st k) (st k).t (st k).u := by unfold run1; rw [if_neg (by omega), if_neg (by omega), if_pos q2]
        rw [er] at hXl hrn
        clear er
        have mkS : Hid (∀ W, Below w.heap.size w W → W.cell? ⟨b, off + k * 6 + 1, none⟩ = some (.int .i64 (st k).t) ∧ W.cell? ⟨b, off + k * 6 + 2, none⟩ = some (.int .i64 (st k).u)) := fun W hb' => by
          obtain ⟨b9, off9, ea9, hb9, d0, d1, d2, d3, d4, d5⟩ := StIn.cells hI.out hb' hkn
          injection ea9 with ea9
          injection ea9 with ea9 eo9
          subst ea9 eo9
          exact ⟨d1, d2⟩
        have hnn : sumL st k + 3 * k ≤ 4194304 := by have := hsz.out k hkn; have := hck.out; omega
        have bd : Below wr.heap.size wr wr.drew := (Below.refl _ wr).drew
        have dl : Hid (Calls Tryz.prog 8 #[.pointer (some ⟨S, 0, none⟩), .int .i64 (st k).t, .int .i64 (st k).u] wr.drew fun e w' => ∃ v, e = .returned v ∧ (RT S R w.heap.size N (sumL st k + 3 * k) (delL (runF [] st k) (st k).t (st k).u) (runF [] st k) v w' ∧ Below w.heap.size w w') ∧ (w'.cell? ⟨b, off + k * 6 + 1, none⟩ = some (.int .i64 (st k).t) ∧ w'.cell? ⟨b, off + k * 6 + 2, none⟩ = some (.int .i64 (st k).u))) := (delete_j (JE.below hrr.out.1 bd) (by have := hXl0.out; omega) (st k).t (st k).u).mono fun e w' ⟨v, e1, rt, bb⟩ => ⟨v, e1, ⟨rt, (hB.trans (bd.mono hB.size)).trans bb⟩, mkS.out _ ((hB.trans (bd.mono hB.size)).trans bb)⟩
        have tk : Hid (∀ v W, (RT S R w.heap.size N (sumL st k + 3 * k) (delL (runF [] st k) (st k).t (st k).u) (runF [] st k) v W ∧ Below w.heap.size w W) → Calls Tryz.prog 7 #[.pointer (some ⟨N, 0, none⟩), v] W fun e w' => e = .returned undef ∧ Hid (JE S R w.heap.size N (sumL st k + 3 * k + 1) (delL (runF [] st k) (st k).t (st k).u) (runF [] st k) w' ∧ Below w.heap.size w w') ∧ (w'.cell? ⟨b, off + k * 6 + 1, none⟩ = some (.int .i64 (st k).t) ∧ w'.cell? ⟨b, off + k * 6 + 2, none⟩ = some (.int .i64 (st k).u))) := fun v W h => (take7_j h.1 hnn).mono fun e w' ⟨e1, je, bb⟩ => ⟨e1, ⟨je, h.2.trans bb⟩, mkS.out _ (h.2.trans bb)⟩
        have rdl : Hid (∀ W, Hid (JE S R w.heap.size N (sumL st k + 3 * k + 1) (delL (runF [] st k) (st k).t (st k).u) (runF [] st k) W ∧ Below w.heap.size w W) → Calls Tryz.prog 9 #[.pointer (some ⟨R, 0, none⟩), .int .i64 (st k).t, .int .i64 (st k).u] W.drew fun e w' => ∃ v, e = .returned v ∧ Hid (JE S R w.heap.size N (sumL st k + 3 * k + 1) (delL (runF [] st k) (st k).t (st k).u) (delL (runF [] st k) (st k).t (st k).u) w' ∧ Below w.heap.size w w') ∧ (w'.cell? ⟨b, off + k * 6 + 1, none⟩ = some (.int .i64 (st k).t) ∧ w'.cell? ⟨b, off + k * 6 + 2, none⟩ = some (.int .i64 (st k).u))) := fun W h => by
          have bd2 : Below W.heap.size W W.drew := (Below.refl _ W).drew
          have b3 := h.out.2.trans (bd2.mono h.out.2.size)
          exact (rdelete_j (JE.below h.out.1 bd2) (st k).t (st k).u).mono fun e w' ⟨v, e1, je, bb⟩ => ⟨v, e1, ⟨je, b3.trans bb⟩, mkS.out _ (b3.trans bb)⟩
        have hSS := mkS.out _ (hB.trans (bd.mono hB.size))
        rw [q2] at c0
        go_wp2_with fail
        clear c0 c1 c2 c3 c4 c5 hrr bd hB
        generalize delL (runF [] st k) (st k).t (st k).u = X1 at *
        generalize runF [] st k = X0 at *
        go_region_held3 (fun W => W.cell? ⟨b, off + k * 6 + 1, none⟩ = some (.int .i64 (st k).t) ∧ W.cell? ⟨b, off + k * 6 + 2, none⟩ = some (.int .i64 (st k).u)) (first | assumption)
          (first
            | (go_at_call 8; (with_reducible refine Calls.mono dl.out ?_); rintro e w4 ⟨v4, rfl, P4, SS4⟩)
            | (go_at_call 7; (with_reducible refine Calls.mono (tk.out _ _ P4) ?_); rintro e w5 ⟨rfl, P5, SS5⟩))
        all_goals skip
        have SS6 := mkS.out _ (P5.out.2.trans ((Below.refl _ _).drew.mono P5.out.2.size))
        clear dl tk P4 SS4 SS5 hSS
        go_wp2_with fail
        go_region_held3 (fun W => W.cell? ⟨b, off + k * 6 + 1, none⟩ = some (.int .i64 (st k).t) ∧ W.cell? ⟨b, off + k * 6 + 2, none⟩ = some (.int .i64 (st k).u)) (first | assumption)
          (first
            | (go_at_call 9; (with_reducible refine Calls.mono (rdl.out _ P5) ?_); rintro e w6 ⟨v6, rfl, P6, SS7⟩))
        have hJ : Hid _ := P6.out.1
        have hB := P6.out.2
        clear rdl P5 P6 SS6 SS7 mkS
        obtain ⟨b0, off0, ea0, hb0, c0, c1, c2, c3, c4, c5⟩ := StIn.cells hI.out hB hkn
        injection ea0 with ea0
        injection ea0 with ea0 eo0
        subst ea0 eo0
        have rg : Hid _ := range_j hJ.out hXl.out (-9223372036854775808) 9223372036854775807
        go_wp2_with fail
        refine Calls.mono rg.out ?_
        rintro e wa ⟨va, rfl, rt, ba⟩
        have RT_ : Hid _ := rt
        have hB1 := hB.trans ba
        clear rg rt ba hJ hB c0 c1 c2 c3 c4 c5
        have tk : Hid _ := take7_j RT_.out (by have := hsz.out k hkn; have := hck.out; omega)
        go_wp2_with fail
        refine Calls.mono tk.out ?_
        rintro e wb ⟨rfl, je, bb⟩
        have hJ : Hid _ := je
        have hB := hB1.trans bb
        clear tk RT_ je bb hB1
        obtain ⟨b1, off1, ea1, hb1, c0, c1, c2, c3, c4, c5⟩ := StIn.cells hI.out hB hkn
        injection ea1 with ea1
        injection ea1 with ea1 eo1
        subst ea1 eo1
        have rg : Hid _ := range_j hJ.out hXl.out (-9223372036854775808) (st k).t
        go_wp2_with fail
        refine Calls.mono rg.out ?_
        rintro e wa ⟨va, rfl, rt, ba⟩
        have RT_ : Hid _ := rt
        have hB1 := hB.trans ba
        clear rg rt ba hJ hB c0 c1 c2 c3 c4 c5
        have tk : Hid _ := take7_j RT_.out (by have := hsz.out k hkn; have := hck.out; omega)
        go_wp2_with fail
        refine Calls.mono tk.out ?_
        rintro e wb ⟨rfl, je, bb⟩
        have hJ : Hid _ := je
        have hB := hB1.trans bb
        clear tk RT_ je bb hB1
        obtain ⟨b2, off2, ea2, hb2, c0, c1, c2, c3, c4, c5⟩ := StIn.cells hI.out hB hkn
        injection ea2 with ea2
        injection ea2 with ea2 eo2
        subst ea2 eo2
        have rg : Hid _ := range_j hJ.out hXl.out (st k).t 9223372036854775807
        go_wp2_with fail
        refine Calls.mono rg.out ?_
        rintro e wa ⟨va, rfl, rt, ba⟩
        have RT_ : Hid _ := rt
        have hB1 := hB.trans ba
        clear rg rt ba hJ hB c0 c1 c2 c3 c4 c5
        have tk : Hid _ := take7_j RT_.out (by have := hsz.out k hkn; have := hck.out; omega)
        go_wp2_with fail
        refine Calls.mono tk.out ?_
        rintro e wb ⟨rfl, je, bb⟩
        have hJ : Hid _ := je
        have hB := hB1.trans bb
        clear tk RT_ je bb hB1
        have hnx : Hid (JE S R w.heap.size N (sumL st (k + 1) + 3 * (k + 1)) (runF [] st (k + 1)) (runF [] st (k + 1)) wb ∧ Below w.heap.size w wb) := ⟨by
            have e := hrn.out
            have j := JE.more (n' := sumL st (k + 1) + 3 * (k + 1)) hJ.out (by simp only [sumL]; omega)
            rw [e] at j
            exact j, hB⟩
        clear hJ hB
        go_wp2_with fail
        exact ⟨⟨k + 1, by omega, by go_num, hnx⟩, by first | (simp [intOf]; done) | (simp [intOf]; omega)⟩
      · by_cases q3 : (st k).k = 3
        · have hrn : Hid (run1 (runF [] st k) (st k) = runF [] st (k + 1)) := rfl
          have er : run1 (runF [] st k) (st k) = putAll (runF [] st k) (st k).ls := by unfold run1; rw [if_neg (by omega), if_neg (by omega), if_neg q2, if_pos q3]
          rw [er] at hXl hrn
          clear er
          rw [q3] at c0
          have hLk : Hid (∀ W, Below w.heap.size w W → LIn W (st k).la (st k).ls) := fun W hb => (hLH.out k hkn).below hb (Nat.le_refl _)
          obtain ⟨a9, c9, w9, hr9, hL9, hB9⟩ := copyS wr (st k).la (st k).lc (st k).ls (hLk.out _ hB) (by have := hsz.out k hkn; omega)
          have hr9H : Hid (∀ W, W = wr.alloc (.cells #[] 89) → (Builtin.append_ #[62, 62] 62 #[.slice (some ⟨wr.heap.size, 0, none⟩) 0 0, .slice (st k).la (st k).ls.length (st k).lc]).run Tryz.prog W = .ok (.slice a9 (st k).ls.length c9) w9) := fun W e => by subst e; exact hr9
          have hB9' : Below w.heap.size w w9 := hB.trans (hB9.mono hB.size)
          have ld : Hid _ := load_j (a := a9) (cap := c9) (hrr.out.1.below hB9) hL9 (by have := hsz.out k hkn; have := hXl0.out; omega)
          have lsH : Hid ((st k).ls.length ≤ 1048576 ∧ sumL st k + 3 * k + (st k).ls.length ≤ 4194304 ∧ sumL st k + 3 * k + (st k).ls.length + 1 ≤ 4194301) := by have h1 := hsz.out k hkn; have h2 := hck.out; exact (by omega : (st k).ls.length ≤ 1048576 ∧ sumL st k + 3 * k + (st k).ls.length ≤ 4194304 ∧ sumL st k + 3 * k + (st k).ls.length + 1 ≤ 4194301)
          have hbw : b < wr.heap.size := Nat.lt_of_lt_of_le hb hB.size
          have c5' : (wr.alloc (.cells #[] 89)).cell? ⟨b, off + k * 6 + 5, none⟩ = some (.slice (st k).la (st k).ls.length (st k).lc) := by rw [((Below.refl wr.heap.size wr).alloc (Nat.le_refl _) _).cell (p := ⟨b, off + k * 6 + 5, none⟩) hbw]; exact c5
          clear hr9 hL9 hB9
          go_wp2_with (at_builtin; refine Bk7.wpList_append_runB (by rfl) _ _ _ (by rfl) _ _ _ _ (by rfl) (by rfl) (hr9H.out _ rfl) ?_)
          refine Calls.mono ld.out ?_
          rintro e w4 ⟨v4, rfl, rt, b4⟩
          have RT_ : Hid _ := rt
          have hB4 := hB9'.trans b4
          clear ld rt b4 c0 c1 c2 c3 c4 c5 hB hrr hr9H hB9'
          have tk : Hid _ := take19_j RT_.out lsH.out.1 lsH.out.2.1
          go_wp2_with fail
          refine Calls.mono tk.out ?_
          rintro e w5 ⟨rfl, je, b5⟩
          have hJ5 : Hid _ := je
          have hB5 := hB4.trans b5
          clear tk RT_ je b5 hB4
          obtain ⟨b9, off9, ea9, hb9, c0, c1, c2, c3, c4, c5⟩ := StIn.cells hI.out hB5 hkn
          injection ea9 with ea9
          injection ea9 with ea9 eo9
          subst ea9 eo9
          have rdl : Hid _ := rload_j (a := (st k).la) (cap := (st k).lc) hJ5.out (fun W hb => hLk.out W (hB5.trans hb)) (by have := hsz.out k hkn; have := hXl0.out; omega)
          go_wp2_with fail
          refine Calls.mono rdl.out ?_
          rintro e w6 ⟨v6, rfl, je, b6⟩
          have hJ : Hid _ := je
          have hB := hB5.trans b6
          clear rdl hJ5 je b6 hB5 c0 c1 c2 c3 c4 c5
          obtain ⟨b0, off0, ea0, hb0, c0, c1, c2, c3, c4, c5⟩ := StIn.cells hI.out hB hkn
          injection ea0 with ea0
          injection ea0 with ea0 eo0
          subst ea0 eo0
          have rg : Hid _ := range_j hJ.out hXl.out (-9223372036854775808) 9223372036854775807
          go_wp2_with fail
          refine Calls.mono rg.out ?_
          rintro e wa ⟨va, rfl, rt, ba⟩
          have RT_ : Hid _ := rt
          have hB1 := hB.trans ba
          clear rg rt ba hJ hB c0 c1 c2 c3 c4 c5
          have tk : Hid _ := take7_j RT_.out (by have := lsH.out; omega)
          go_wp2_with fail
          refine Calls.mono tk.out ?_
          rintro e wb ⟨rfl, je, bb⟩
          have hJ : Hid _ := je
          have hB := hB1.trans bb
          clear tk RT_ je bb hB1
          obtain ⟨b1, off1, ea1, hb1, c0, c1, c2, c3, c4, c5⟩ := StIn.cells hI.out hB hkn
          injection ea1 with ea1
          injection ea1 with ea1 eo1
          subst ea1 eo1
          have rg : Hid _ := range_j hJ.out hXl.out (-9223372036854775808) (st k).t
          go_wp2_with fail
          refine Calls.mono rg.out ?_
          rintro e wa ⟨va, rfl, rt, ba⟩
          have RT_ : Hid _ := rt
          have hB1 := hB.trans ba
          clear rg rt ba hJ hB c0 c1 c2 c3 c4 c5
          have tk : Hid _ := take7_j RT_.out (by have := lsH.out; omega)
          go_wp2_with fail
          refine Calls.mono tk.out ?_
          rintro e wb ⟨rfl, je, bb⟩
          have hJ : Hid _ := je
          have hB := hB1.trans bb
          clear tk RT_ je bb hB1
          obtain ⟨b2, off2, ea2, hb2, c0, c1, c2, c3, c4, c5⟩ := StIn.cells hI.out hB hkn
          injection ea2 with ea2
          injection ea2 with ea2 eo2
          subst ea2 eo2
          have rg : Hid _ := range_j hJ.out hXl.out (st k).t 9223372036854775807
          go_wp2_with fail
          refine Calls.mono rg.out ?_
          rintro e wa ⟨va, rfl, rt, ba⟩
          have RT_ : Hid _ := rt
          have hB1 := hB.trans ba
          clear rg rt ba hJ hB c0 c1 c2 c3 c4 c5
          have tk : Hid _ := take7_j RT_.out (by have := lsH.out; omega)
          go_wp2_with fail
          refine Calls.mono tk.out ?_
          rintro e wb ⟨rfl, je, bb⟩
          have hJ : Hid _ := je
          have hB := hB1.trans bb
          clear tk RT_ je bb hB1
          have hnx : Hid (JE S R w.heap.size N (sumL st (k + 1) + 3 * (k + 1)) (runF [] st (k + 1)) (runF [] st (k + 1)) wb ∧ Below w.heap.size w wb) := ⟨by
              have e := hrn.out
              have j := JE.more (n' := sumL st (k + 1) + 3 * (k + 1)) hJ.out (by simp only [sumL]; omega)
              rw [e] at j
              exact j, hB⟩
          clear hJ hB
          go_wp2_with fail
          exact ⟨⟨k + 1, by omega, by go_num, hnx⟩, by first | (simp [intOf]; done) | (simp [intOf]; omega)⟩
        · have hrn : Hid (run1 (runF [] st k) (st k) = runF [] st (k + 1)) := rfl
          have stp : Hid _ := step_j (st k) hrr.out.1 (hI.out.2.1 k hkn) (fun W hb => (hLH.out k hkn).below (hB.trans hb) (Nat.le_refl _)) (by have := hsz.out k hkn; have := hXl0.out; omega)
          go_wp2_with fail
          refine Calls.mono stp.out ?_
          rintro e w4 ⟨rfl, je, b4⟩
          have hJ : Hid _ := je
          have hB := hB.trans b4
          clear stp je b4 hrr c0 c1 c2 c3 c4 c5
          obtain ⟨b0, off0, ea0, hb0, c0, c1, c2, c3, c4, c5⟩ := StIn.cells hI.out hB hkn
          injection ea0 with ea0
          injection ea0 with ea0 eo0
          subst ea0 eo0
          have rg : Hid _ := range_j hJ.out hXl.out (-9223372036854775808) 9223372036854775807
          go_wp2_with fail
          refine Calls.mono rg.out ?_
          rintro e wa ⟨va, rfl, rt, ba⟩
          have RT_ : Hid _ := rt
          have hB1 := hB.trans ba
          clear rg rt ba hJ hB c0 c1 c2 c3 c4 c5
          have tk : Hid _ := take7_j RT_.out (by have := hsz.out k hkn; have := hck.out; omega)
          go_wp2_with fail
          refine Calls.mono tk.out ?_
          rintro e wb ⟨rfl, je, bb⟩
          have hJ : Hid _ := je
          have hB := hB1.trans bb
          clear tk RT_ je bb hB1
          obtain ⟨b1, off1, ea1, hb1, c0, c1, c2, c3, c4, c5⟩ := StIn.cells hI.out hB hkn
          injection ea1 with ea1
          injection ea1 with ea1 eo1
          subst ea1 eo1
          have rg : Hid _ := range_j hJ.out hXl.out (-9223372036854775808) (st k).t
          go_wp2_with fail
          refine Calls.mono rg.out ?_
          rintro e wa ⟨va, rfl, rt, ba⟩
          have RT_ : Hid _ := rt
          have hB1 := hB.trans ba
          clear rg rt ba hJ hB c0 c1 c2 c3 c4 c5
          have tk : Hid _ := take7_j RT_.out (by have := hsz.out k hkn; have := hck.out; omega)
          go_wp2_with fail
          refine Calls.mono tk.out ?_
          rintro e wb ⟨rfl, je, bb⟩
          have hJ : Hid _ := je
          have hB := hB1.trans bb
          clear tk RT_ je bb hB1
          obtain ⟨b2, off2, ea2, hb2, c0, c1, c2, c3, c4, c5⟩ := StIn.cells hI.out hB hkn
          injection ea2 with ea2
          injection ea2 with ea2 eo2
          subst ea2 eo2
          have rg : Hid _ := range_j hJ.out hXl.out (st k).t 9223372036854775807
          go_wp2_with fail
          refine Calls.mono rg.out ?_
          rintro e wa ⟨va, rfl, rt, ba⟩
          have RT_ : Hid _ := rt
          have hB1 := hB.trans ba
          clear rg rt ba hJ hB c0 c1 c2 c3 c4 c5
          have tk : Hid _ := take7_j RT_.out (by have := hsz.out k hkn; have := hck.out; omega)
          go_wp2_with fail
          refine Calls.mono tk.out ?_
          rintro e wb ⟨rfl, je, bb⟩
          have hJ : Hid _ := je
          have hB := hB1.trans bb
          clear tk RT_ je bb hB1
          have hnx : Hid (JE S R w.heap.size N (sumL st (k + 1) + 3 * (k + 1)) (runF [] st (k + 1)) (runF [] st (k + 1)) wb ∧ Below w.heap.size w wb) := ⟨by
              have e := hrn.out
              have j := JE.more (n' := sumL st (k + 1) + 3 * (k + 1)) hJ.out (by simp only [sumL]; omega)
              rw [e] at j
              exact j, hB⟩
          clear hJ hB
          go_wp2_with fail
          exact ⟨⟨k + 1, by omega, by go_num, hnx⟩, by first | (simp [intOf]; done) | (simp [intOf]; omega)⟩
    · obtain rfl : n = k := by omega
      have al : Hid _ := alone_j hrr.out.1 (by have := hmH.out; have := hge.out n; omega)
      go_wp2_with fail
      refine Calls.mono al.out ?_
      rintro e w4 ⟨rfl, ⟨vs, vr, tw⟩, b4⟩
      have hT : Hid _ := tw
      have hB4 := hB.trans b4
      clear al hrr tw b4 hB
      have hnm : Hid _ := named_any a n cap st w4 (StIn.below hI.out hB4) (fun i hi => ⟨(hLH.out i hi).below hB4 (Nat.le_refl _), by have := hsz.out i hi; omega⟩)
      go_wp2_with fail
      refine Calls.mono hnm.out ?_
      rintro e w5 ⟨v, tl, rfl, hT5, hB5, htl⟩
      have hal : Hid _ := alike_any S R w.heap.size vs vr (runF [] st n) w4.heap.size v tl w5 (hT.out.below hB5) hT5 (by omega)
      have hB05 : Below w.heap.size w w5 := hB4.trans (hB5.mono hB4.size)
      clear hT hnm hT5 hB5
      go_wp2_with fail
      refine Calls.mono hal.out ?_
      rintro e w6 ⟨rfl, hB6⟩
      go_wp2_with fail
      go_ret
      exact ⟨rfl, hB05.trans (hB6.mono hB05.size)⟩
end Go.Proofs.YticgapplpfaigaaGreat
