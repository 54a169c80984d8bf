
import Derived.Test.YtbojljmacheccaaGreatDoorBq17
import Derived.Test.YtbojljmacheccaaGreatDoorBq5
import Derived.Test.YtbojljmacheccaaGreatDoorBq6
import Derived.Test.YtbojljmacheccaaGreatDoorBkEh
import Derived.Laws.IdiomCopy
namespace Go.Proofs.YtbojljmacheccaaGreatDoor.Mb
open Go.RowKit
set_option linter.unusedVariables false
set_option linter.unusedSimpArgs false
set_option maxRecDepth 100000
theorem row_kept {w w' : World} {B size n : Nat} {e : TypeId} {v : Value} {xs : List Value} (h : w.ownsRow B e size v n xs) (hb : ∀ g, v.ownBlock = some g → w'.heap[g]? = w.heap[g]?) : w'.ownsRow B e size v n xs := by
  refine ⟨h.1, ?_⟩
  rcases h.2 with h2 | ⟨g, cap, cur, e1, e2, e3, e4⟩
  · exact Or.inl h2
  · exact Or.inr ⟨g, cap, cur, e1, e2, by rw [hb g (by rw [e1]; rfl)]; exact e3, e4⟩
/-- the blocks of one field. -/
def own (hv : Value) (V : Nat → Value) (m q : Nat) : Prop := hv.ownBlock = some q ∨ ∃ j, j < m ∧ (V j).ownBlock = some q
def upd {α : Type} (f : Nat) (x : α) (F : Nat → α) (j : Nat) : α := if j = f then x else F j
theorem upd_at {α : Type} (f : Nat) (x : α) (F : Nat → α) : upd f x F f = x := if_pos rfl
theorem upd_ne {α : Type} {f j : Nat} (h : j ≠ f) (x : α) (F : Nat → α) : upd f x F j = F j := if_neg h
/-- a row more. -/
def snoc (m : Nat) (v : Value) (V : Nat → Value) (j : Nat) : Value := if j = m then v else V j
theorem own_upd {F m s : Nat} {M : Nat → Nat} {V : Nat → Nat → Value} {H : Nat → Value} {v h' : Value} (hm : m = M F) (hown : ∀ k, h'.ownBlock = some k → (H F).ownBlock = some k ∨ s ≤ k) (f q : Nat) (e : own (upd F h' H f) (upd F (snoc m v (V F)) V f) (upd F (m + 1) M f) q) : own (H f) (V f) (M f) q ∨ (f = F ∧ (v.ownBlock = some q ∨ s ≤ q)) := by
  by_cases c : f = F
  · subst c
    simp only [upd_at] at e
    rcases e with e | ⟨j, hj, e⟩
    · rcases hown q e with a | a
      · exact Or.inl (Or.inl a)
      · exact Or.inr ⟨rfl, Or.inr a⟩
    · by_cases hjm : j = m
      · simp only [snoc, if_pos hjm] at e; exact Or.inr ⟨rfl, Or.inl e⟩
      · simp only [snoc, if_neg hjm] at e; exact Or.inl (Or.inr ⟨j, by omega, e⟩)
  · simp only [upd_ne c] at e; exact Or.inl e
theorem sep_upd {F m s : Nat} {M : Nat → Nat} {V : Nat → Nat → Value} {H : Nat → Value} {v h' : Value} (hm : m = M F) (hown : ∀ k, h'.ownBlock = some k → (H F).ownBlock = some k ∨ s ≤ k) (sep : ∀ f g, f ≠ g → ∀ q, own (H f) (V f) (M f) q → ¬ own (H g) (V g) (M g) q) (lt : ∀ f q, own (H f) (V f) (M f) q → q < s) (hf : ∀ q, v.ownBlock = some q → ∀ f, ¬ own (H f) (V f) (M f) q) :
    ∀ f g, f ≠ g → ∀ q, own (upd F h' H f) (upd F (snoc m v (V F)) V f) (upd F (m + 1) M f) q → ¬ own (upd F h' H g) (upd F (snoc m v (V F)) V g) (upd F (m + 1) M g) q := by
  intro f g hne q e1 e2
  rcases own_upd hm hown f q e1 with a | ⟨a0, a⟩ <;> rcases own_upd hm hown g q e2 with b | ⟨b0, b⟩
  · exact sep f g hne q a b
  · rcases b with b | b
    · exact hf q b f a
    · have := lt f q a; omega
  · rcases a with a | a
    · exact hf q a g b
    · have := lt g q b; omega
  · exact hne (a0.trans b0.symm)
/-- what a Take leaves. -/
structure FR (N : Nat) (w : World) (hv hv' : Value) (w' : World) : Prop where
  size : w.heap.size ≤ w'.heap.size
  keep : ∀ k, k < w.heap.size → k ≠ N → hv.ownBlock ≠ some k → w'.heap[k]? = w.heap[k]?
  own : ∀ k, hv'.ownBlock = some k → hv.ownBlock = some k ∨ w.heap.size ≤ k
  same : w'.os = w.os ∧ w'.tape = w.tape ∧ w'.output = w.output
theorem move17 {O O' : Nat → Value} {N C m : Nat} {V : Nat → Value} {hv : Value} {G : Nat → List (Bk17.EK)} {w w' : World} (h : Bk17.BK O N C m V hv G w) (sz : w.heap.size ≤ w'.heap.size) (cF : w'.cell? ⟨N, 17, none⟩ = some hv) (oth : ∀ j, j < 28 → j ≠ 17 → w'.cell? ⟨N, j, none⟩ = some (O' j)) (fz : ∀ j, w'.frozen? ⟨N, j, none⟩ = false) (k : ∀ q, own hv V m q → w'.heap[q]? = w.heap[q]?) : Bk17.BK O' N C m V hv G w' :=
  ⟨⟨h.sp.nC, by have := h.sp.nw; omega, by have := h.sp.cw; omega, fun i hi k e => by have := h.sp.vb i hi k e; omega, fun k e => by have := h.sp.hb k e; omega, h.sp.dis, h.sp.hd⟩, ⟨cF, row_kept h.st.hr (fun q e => k q (Or.inl e)), fun j hj => row_kept (h.st.rows j hj) (fun q e => k q (Or.inr ⟨j, hj, e⟩)), Bk17.BF.refl _ _ _⟩, oth, fz⟩
theorem lt17 {O : Nat → Value} {N C m : Nat} {V : Nat → Value} {hv : Value} {G : Nat → List (Bk17.EK)} {w : World} (h : Bk17.BK O N C m V hv G w) {q : Nat} (e : own hv V m q) : C ≤ q ∧ q < w.heap.size := by
  rcases e with e | ⟨j, hj, e⟩
  · exact h.sp.hb q e
  · exact h.sp.vb j hj q e
theorem move5 {O O' : Nat → Value} {N C m : Nat} {V : Nat → Value} {hv : Value} {G : Nat → List (Bk5.E2)} {w w' : World} (h : Bk5.BK O N C m V hv G w) (sz : w.heap.size ≤ w'.heap.size) (cF : w'.cell? ⟨N, 5, none⟩ = some hv) (oth : ∀ j, j < 28 → j ≠ 5 → w'.cell? ⟨N, j, none⟩ = some (O' j)) (fz : ∀ j, w'.frozen? ⟨N, j, none⟩ = false) (k : ∀ q, own hv V m q → w'.heap[q]? = w.heap[q]?) : Bk5.BK O' N C m V hv G w' :=
  ⟨⟨h.sp.nC, by have := h.sp.nw; omega, by have := h.sp.cw; omega, fun i hi k e => by have := h.sp.vb i hi k e; omega, fun k e => by have := h.sp.hb k e; omega, h.sp.dis, h.sp.hd⟩, ⟨cF, row_kept h.st.hr (fun q e => k q (Or.inl e)), fun j hj => row_kept (h.st.rows j hj) (fun q e => k q (Or.inr ⟨j, hj, e⟩)), Bk5.BF.refl _ _ _⟩, oth, fz⟩
theorem lt5 {O : Nat → Value} {N C m : Nat} {V : Nat → Value} {hv : Value} {G : Nat → List (Bk5.E2)} {w : World} (h : Bk5.BK O N C m V hv G w) {q : Nat} (e : own hv V m q) : C ≤ q ∧ q < w.heap.size := by
  rcases e with e | ⟨j, hj, e⟩
  · exact h.sp.hb q e
  · exact h.sp.vb j hj q e
theorem move6 {O O' : Nat → Value} {N C m : Nat} {V : Nat → Value} {hv : Value} {G : Nat → List (Bk6.EK)} {w w' : World} (h : Bk6.BK O N C m V hv G w) (sz : w.heap.size ≤ w'.heap.size) (cF : w'.cell? ⟨N, 6, none⟩ = some hv) (oth : ∀ j, j < 28 → j ≠ 6 → w'.cell? ⟨N, j, none⟩ = some (O' j)) (fz : ∀ j, w'.frozen? ⟨N, j, none⟩ = false) (k : ∀ q, own hv V m q → w'.heap[q]? = w.heap[q]?) : Bk6.BK O' N C m V hv G w' :=
  ⟨⟨h.sp.nC, by have := h.sp.nw; omega, by have := h.sp.cw; omega, fun i hi k e => by have := h.sp.vb i hi k e; omega, fun k e => by have := h.sp.hb k e; omega, h.sp.dis, h.sp.hd⟩, ⟨cF, row_kept h.st.hr (fun q e => k q (Or.inl e)), fun j hj => row_kept (h.st.rows j hj) (fun q e => k q (Or.inr ⟨j, hj, e⟩)), Bk6.BF.refl _ _ _⟩, oth, fz⟩
theorem lt6 {O : Nat → Value} {N C m : Nat} {V : Nat → Value} {hv : Value} {G : Nat → List (Bk6.EK)} {w : World} (h : Bk6.BK O N C m V hv G w) {q : Nat} (e : own hv V m q) : C ≤ q ∧ q < w.heap.size := by
  rcases e with e | ⟨j, hj, e⟩
  · exact h.sp.hb q e
  · exact h.sp.vb j hj q e
/-- a book. -/
structure MB (N C : Nat) (M : Nat → Nat) (V : Nat → Nat → Value) (H : Nat → Value) (w : World) : Prop where
  b17 : ∃ G, Bk17.BK H N C (M 17) (V 17) (H 17) G w ∧ ∀ j, j < M 17 → (G j).length ≤ 268435456
  b5 : ∃ G, Bk5.BK H N C (M 5) (V 5) (H 5) G w ∧ ∀ j, j < M 5 → (G j).length ≤ 268435456
  b6 : ∃ G, Bk6.BK H N C (M 6) (V 6) (H 6) G w ∧ ∀ j, j < M 6 → (G j).length ≤ 268435456
  sep : ∀ f g, f ≠ g → ∀ q, own (H f) (V f) (M f) q → ¬ own (H g) (V g) (M g) q
  rest : ∀ j, j ≠ 17 → j ≠ 5 → j ≠ 6 → M j = 0 ∧ H j = .slice none 0 0
theorem MB.nC {N C : Nat} {M : Nat → Nat} {V : Nat → Nat → Value} {H : Nat → Value} {w : World} (h : MB N C M V H w) : N < C ∧ N < w.heap.size ∧ C ≤ w.heap.size := by
  obtain ⟨G, b, _⟩ := h.b17
  exact ⟨b.sp.nC, b.sp.nw, b.sp.cw⟩
theorem MB.lt {N C : Nat} {M : Nat → Nat} {V : Nat → Nat → Value} {H : Nat → Value} {w : World} (h : MB N C M V H w) (f : Nat) {q : Nat} (e : own (H f) (V f) (M f) q) : C ≤ q ∧ q < w.heap.size := by
  by_cases c17 : f = 17
  · subst c17
    obtain ⟨G, b, _⟩ := h.b17
    exact lt17 b e
  · skip
    by_cases c5 : f = 5
    · subst c5
      obtain ⟨G, b, _⟩ := h.b5
      exact lt5 b e
    · skip
      by_cases c6 : f = 6
      · subst c6
        obtain ⟨G, b, _⟩ := h.b6
        exact lt6 b e
      · skip
        obtain ⟨m0, h0⟩ := h.rest f c17 c5 c6
        rw [m0, h0] at e
        rcases e with e | ⟨j, hj, _⟩
        · simp [Value.ownBlock] at e
        · omega
theorem MB.cell {N C : Nat} {M : Nat → Nat} {V : Nat → Nat → Value} {H : Nat → Value} {w : World} (h : MB N C M V H w) (j : Nat) (hj : j < 28) : w.cell? ⟨N, j, none⟩ = some (H j) := by
  obtain ⟨G, b, _⟩ := h.b17
  by_cases c : j = 17
  · subst c; exact b.st.cF
  · exact b.nil j hj c
theorem MB.fz {N C : Nat} {M : Nat → Nat} {V : Nat → Nat → Value} {H : Nat → Value} {w : World} (h : MB N C M V H w) (j : Nat) : w.frozen? ⟨N, j, none⟩ = false := by
  obtain ⟨G, b, _⟩ := h.b17
  exact b.fz j
/-- a book, where its blocks are as they were. -/
theorem MB.keep {N C : Nat} {M : Nat → Nat} {V : Nat → Nat → Value} {H : Nat → Value} {w w' : World} (h : MB N C M V H w) (sz : w.heap.size ≤ w'.heap.size) (kN : w'.heap[N]? = w.heap[N]?) (k : ∀ f q, own (H f) (V f) (M f) q → w'.heap[q]? = w.heap[q]?) : MB N C M V H w' := by
  have cc : ∀ j, w'.cell? ⟨N, j, none⟩ = w.cell? ⟨N, j, none⟩ := fun j => World.cell?_of_block (w := w) (a := ⟨N, j, none⟩) kN
  have zz : ∀ j, w'.frozen? ⟨N, j, none⟩ = false := fun j => by rw [World.frozen?_of_block (w := w) (a := ⟨N, j, none⟩) kN]; exact h.fz j
  refine ⟨?_, ?_, ?_, h.sep, h.rest⟩
  · obtain ⟨G, b, l⟩ := h.b17
    exact ⟨G, move17 b sz (by rw [cc]; exact b.st.cF) (fun j hj hn => by rw [cc]; exact b.nil j hj hn) zz (k 17), l⟩
  · obtain ⟨G, b, l⟩ := h.b5
    exact ⟨G, move5 b sz (by rw [cc]; exact b.st.cF) (fun j hj hn => by rw [cc]; exact b.nil j hj hn) zz (k 5), l⟩
  · obtain ⟨G, b, l⟩ := h.b6
    exact ⟨G, move6 b sz (by rw [cc]; exact b.st.cF) (fun j hj hn => by rw [cc]; exact b.nil j hj hn) zz (k 6), l⟩
theorem MB.took17 {N C : Nat} {M : Nat → Nat} {V : Nat → Nat → Value} {H : Nat → Value} {w w' : World} {v h' : Value} {l : List (Bk17.EK)} {G : Nat → List (Bk17.EK)} (h : MB N C M V H w) (hG : ∀ j, j < M 17 → (G j).length ≤ 268435456) (hl : l.length ≤ 268435456) (hf : ∀ q, v.ownBlock = some q → C ≤ q ∧ ∀ f, ¬ own (H f) (V f) (M f) q) (bk : Bk17.BK H N C (M 17 + 1) (fun j => if j = M 17 then v else V 17 j) h' (fun j => if j = M 17 then l else G j) w') (fb : FR N w (H 17) h' w') :
    MB N C (upd 17 (M 17 + 1) M) (upd 17 (snoc (M 17) v (V 17)) V) (upd 17 h' H) w' := by
  have nC := h.nC
  have cellO : ∀ j, j < 28 → j ≠ 17 → w'.cell? ⟨N, j, none⟩ = some (H j) := bk.nil
  have kp : ∀ g, g ≠ 17 → ∀ q, own (H g) (V g) (M g) q → w'.heap[q]? = w.heap[q]? := fun g hg q e => fb.keep q (h.lt g e).2 (by have := (h.lt g e).1; omega) (fun c => h.sep g 17 hg q e (Or.inl c))
  have oc : ∀ j, j < 28 → w'.cell? ⟨N, j, none⟩ = some (upd 17 h' H j) := fun j hj => by
    by_cases c : j = 17
    · subst c; rw [upd_at]; exact bk.st.cF
    · rw [upd_ne c]; exact cellO j hj c
  refine ⟨?_, ?_, ?_, sep_upd rfl fb.own h.sep (fun f q e => (h.lt f e).2) (fun q e => (hf q e).2), fun j c17 c5 c6 => by rw [upd_ne c17, upd_ne c17]; exact h.rest j c17 c5 c6⟩
  · simp only [upd_at]
    refine ⟨fun j => if j = M 17 then l else G j, move17 bk (Nat.le_refl _) bk.st.cF (fun j hj hn => oc j hj) bk.fz (fun _ _ => rfl), fun j hj => ?_⟩
    by_cases c : j = M 17
    · simp only [if_pos c]; exact hl
    · simp only [if_neg c]; exact hG j (by omega)
  · simp only [upd_ne (show (5 : Nat) ≠ 17 by decide)]
    obtain ⟨K, b, l0⟩ := h.b5
    exact ⟨K, move5 b fb.size (cellO 5 (by omega) (by omega)) (fun j hj hn => oc j hj) bk.fz (kp 5 (by omega)), l0⟩
  · simp only [upd_ne (show (6 : Nat) ≠ 17 by decide)]
    obtain ⟨K, b, l0⟩ := h.b6
    exact ⟨K, move6 b fb.size (cellO 6 (by omega) (by omega)) (fun j hj hn => oc j hj) bk.fz (kp 6 (by omega)), l0⟩
set_option maxHeartbeats 4000000 in
theorem ftake5 {O : Nat → Value} {N C m : Nat} {V : Nat → Value} {hv : Value} {G : Nat → List (Bk5.E2)} {w : World} {B : Nat} {v : Value} {l : List (Bk5.E2)} (h0 : Bk5.BK O N C m V hv G w) (o0 : Bk5.OE w B v l) (hB : ∀ k, v.ownBlock = some k → C ≤ k ∧ hv.ownBlock ≠ some k ∧ ∀ j, j < m → (V j).ownBlock ≠ some k) (hm : m ≤ 4194304) :
    Calls Tryz.prog 48 #[.pointer (some ⟨N, 0, none⟩), v] w fun e w' => e = .returned undef ∧ ∃ hv', Bk5.BK O N C (m + 1) (fun j => if j = m then v else V j) hv' (fun j => if j = m then l else G j) w' ∧ Below N w w' ∧ Bk5.FRB N w hv hv' w' := by
  obtain ⟨hv', w', hr, cF', z12', bk, bb, fb⟩ := h0.take o0 hB hm
  have cF := h0.st.cF
  obtain ⟨ah, ch, e1, _⟩ := h0.st.hr.form
  obtain ⟨av, cv, e2, _⟩ := o0.formO
  have hrH : Hid (∀ W, W = w.alloc (.cells #[v] 29) → (Builtin.append_ #[49, 49] 49 #[hv, .slice (some ⟨w.heap.size, 0, none⟩) 1 1]).run Tryz.prog W = .ok hv' w') := fun W e => by subst e; exact hr
  obtain ⟨ah2, ch2, e3, _⟩ := bk.st.hr.form
  have fin : Hid (∃ hv', Bk5.BK O N C (m + 1) (fun j => if j = m then v else V j) hv' (fun j => if j = m then l else G j) (w'.setCell ⟨N, 5, none⟩ (.slice ah2 (m + 1) ch2)) ∧ Below N w (w'.setCell ⟨N, 5, none⟩ (.slice ah2 (m + 1) ch2)) ∧ Bk5.FRB N w hv hv' (w'.setCell ⟨N, 5, none⟩ (.slice ah2 (m + 1) ch2))) := ⟨hv', by rw [← e3]; exact bk, by rw [← e3]; exact bb, by rw [← e3]; exact fb⟩
  subst e1 e3
  generalize l.length = nl at *
  subst e2
  clear h0 o0 hB hr bk bb fb
  go_enter Tryz.func48, Tryz.ntmps48
  go_wp2_with (at_builtin; refine Bk5.wpList_append_runB (by rfl) _ _ _ (by rfl) _ _ _ _ (by rfl) (by rfl) (hrH.out _ rfl) ?_)
  simp [bodyPost, results, Tryz.results48, go_sem]
  obtain ⟨x, f1, f2⟩ := fin.out
  exact ⟨rfl, x, f1, f2⟩
theorem MB.took5 {N C : Nat} {M : Nat → Nat} {V : Nat → Nat → Value} {H : Nat → Value} {w w' : World} {v h' : Value} {l : List (Bk5.E2)} {G : Nat → List (Bk5.E2)} (h : MB N C M V H w) (hG : ∀ j, j < M 5 → (G j).length ≤ 268435456) (hl : l.length ≤ 268435456) (hf : ∀ q, v.ownBlock = some q → C ≤ q ∧ ∀ f, ¬ own (H f) (V f) (M f) q) (bk : Bk5.BK H N C (M 5 + 1) (fun j => if j = M 5 then v else V 5 j) h' (fun j => if j = M 5 then l else G j) w') (fb : FR N w (H 5) h' w') :
    MB N C (upd 5 (M 5 + 1) M) (upd 5 (snoc (M 5) v (V 5)) V) (upd 5 h' H) w' := by
  have nC := h.nC
  have cellO : ∀ j, j < 28 → j ≠ 5 → w'.cell? ⟨N, j, none⟩ = some (H j) := bk.nil
  have kp : ∀ g, g ≠ 5 → ∀ q, own (H g) (V g) (M g) q → w'.heap[q]? = w.heap[q]? := fun g hg q e => fb.keep q (h.lt g e).2 (by have := (h.lt g e).1; omega) (fun c => h.sep g 5 hg q e (Or.inl c))
  have oc : ∀ j, j < 28 → w'.cell? ⟨N, j, none⟩ = some (upd 5 h' H j) := fun j hj => by
    by_cases c : j = 5
    · subst c; rw [upd_at]; exact bk.st.cF
    · rw [upd_ne c]; exact cellO j hj c
  refine ⟨?_, ?_, ?_, sep_upd rfl fb.own h.sep (fun f q e => (h.lt f e).2) (fun q e => (hf q e).2), fun j c17 c5 c6 => by rw [upd_ne c5, upd_ne c5]; exact h.rest j c17 c5 c6⟩
  · simp only [upd_ne (show (17 : Nat) ≠ 5 by decide)]
    obtain ⟨K, b, l0⟩ := h.b17
    exact ⟨K, move17 b fb.size (cellO 17 (by omega) (by omega)) (fun j hj hn => oc j hj) bk.fz (kp 17 (by omega)), l0⟩
  · simp only [upd_at]
    refine ⟨fun j => if j = M 5 then l else G j, move5 bk (Nat.le_refl _) bk.st.cF (fun j hj hn => oc j hj) bk.fz (fun _ _ => rfl), fun j hj => ?_⟩
    by_cases c : j = M 5
    · simp only [if_pos c]; exact hl
    · simp only [if_neg c]; exact hG j (by omega)
  · simp only [upd_ne (show (6 : Nat) ≠ 5 by decide)]
    obtain ⟨K, b, l0⟩ := h.b6
    exact ⟨K, move6 b fb.size (cellO 6 (by omega) (by omega)) (fun j hj hn => oc j hj) bk.fz (kp 6 (by omega)), l0⟩
theorem MB.take5 {N C : Nat} {M : Nat → Nat} {V : Nat → Nat → Value} {H : Nat → Value} {w : World} {B : Nat} {v : Value} {l : List (Bk5.E2)} (h : MB N C M V H w) (o : Bk5.OE w B v l) (hl : l.length ≤ 268435456) (hf : ∀ q, v.ownBlock = some q → C ≤ q ∧ ∀ f, ¬ own (H f) (V f) (M f) q) (hm : M 5 ≤ 4194304) :
    Calls Tryz.prog 48 #[.pointer (some ⟨N, 0, none⟩), v] w fun e w' => e = .returned undef ∧ ∃ h', MB N C (upd 5 (M 5 + 1) M) (upd 5 (snoc (M 5) v (V 5)) V) (upd 5 h' H) w' ∧ FR N w (H 5) h' w' := by
  obtain ⟨G, b, hG⟩ := h.b5
  refine (ftake5 b o (fun q e => ⟨(hf q e).1, fun c => (hf q e).2 5 (Or.inl c), fun j hj c => (hf q e).2 5 (Or.inr ⟨j, hj, c⟩)⟩) hm).mono fun e w' ⟨e1, h', bk, bN, fb⟩ => ⟨e1, h', ?_⟩
  have fr : FR N w (H 5) h' w' := ⟨fb.1, fb.2.1, fb.2.2, bN.os, bN.tape, bN.output⟩
  exact ⟨h.took5 hG hl hf bk fr, fr⟩
set_option maxHeartbeats 4000000 in
theorem ftake6 {O : Nat → Value} {N C m : Nat} {V : Nat → Value} {hv : Value} {G : Nat → List (Bk6.EK)} {w : World} {B : Nat} {v : Value} {l : List (Bk6.EK)} (h0 : Bk6.BK O N C m V hv G w) (o0 : Bk6.OE w B v l) (hB : ∀ k, v.ownBlock = some k → C ≤ k ∧ hv.ownBlock ≠ some k ∧ ∀ j, j < m → (V j).ownBlock ≠ some k) (hm : m ≤ 4194304) :
    Calls Tryz.prog 49 #[.pointer (some ⟨N, 0, none⟩), v] w fun e w' => e = .returned undef ∧ ∃ hv', Bk6.BK O N C (m + 1) (fun j => if j = m then v else V j) hv' (fun j => if j = m then l else G j) w' ∧ Below N w w' ∧ Bk6.FRB N w hv hv' w' := by
  obtain ⟨hv', w', hr, cF', z12', bk, bb, fb⟩ := h0.take o0 hB hm
  have cF := h0.st.cF
  obtain ⟨ah, ch, e1, _⟩ := h0.st.hr.form
  obtain ⟨av, cv, e2, _⟩ := o0.formO
  have hrH : Hid (∀ W, W = w.alloc (.cells #[v] 30) → (Builtin.append_ #[50, 50] 50 #[hv, .slice (some ⟨w.heap.size, 0, none⟩) 1 1]).run Tryz.prog W = .ok hv' w') := fun W e => by subst e; exact hr
  obtain ⟨ah2, ch2, e3, _⟩ := bk.st.hr.form
  have fin : Hid (∃ hv', Bk6.BK O N C (m + 1) (fun j => if j = m then v else V j) hv' (fun j => if j = m then l else G j) (w'.setCell ⟨N, 6, none⟩ (.slice ah2 (m + 1) ch2)) ∧ Below N w (w'.setCell ⟨N, 6, none⟩ (.slice ah2 (m + 1) ch2)) ∧ Bk6.FRB N w hv hv' (w'.setCell ⟨N, 6, none⟩ (.slice ah2 (m + 1) ch2))) := ⟨hv', by rw [← e3]; exact bk, by rw [← e3]; exact bb, by rw [← e3]; exact fb⟩
  subst e1 e3
  generalize l.length = nl at *
  subst e2
  clear h0 o0 hB hr bk bb fb
  go_enter Tryz.func49, Tryz.ntmps49
  go_wp2_with (at_builtin; refine Bk6.wpList_append_runB (by rfl) _ _ _ (by rfl) _ _ _ _ (by rfl) (by rfl) (hrH.out _ rfl) ?_)
  simp [bodyPost, results, Tryz.results49, go_sem]
  obtain ⟨x, f1, f2⟩ := fin.out
  exact ⟨rfl, x, f1, f2⟩
theorem MB.took6 {N C : Nat} {M : Nat → Nat} {V : Nat → Nat → Value} {H : Nat → Value} {w w' : World} {v h' : Value} {l : List (Bk6.EK)} {G : Nat → List (Bk6.EK)} (h : MB N C M V H w) (hG : ∀ j, j < M 6 → (G j).length ≤ 268435456) (hl : l.length ≤ 268435456) (hf : ∀ q, v.ownBlock = some q → C ≤ q ∧ ∀ f, ¬ own (H f) (V f) (M f) q) (bk : Bk6.BK H N C (M 6 + 1) (fun j => if j = M 6 then v else V 6 j) h' (fun j => if j = M 6 then l else G j) w') (fb : FR N w (H 6) h' w') :
    MB N C (upd 6 (M 6 + 1) M) (upd 6 (snoc (M 6) v (V 6)) V) (upd 6 h' H) w' := by
  have nC := h.nC
  have cellO : ∀ j, j < 28 → j ≠ 6 → w'.cell? ⟨N, j, none⟩ = some (H j) := bk.nil
  have kp : ∀ g, g ≠ 6 → ∀ q, own (H g) (V g) (M g) q → w'.heap[q]? = w.heap[q]? := fun g hg q e => fb.keep q (h.lt g e).2 (by have := (h.lt g e).1; omega) (fun c => h.sep g 6 hg q e (Or.inl c))
  have oc : ∀ j, j < 28 → w'.cell? ⟨N, j, none⟩ = some (upd 6 h' H j) := fun j hj => by
    by_cases c : j = 6
    · subst c; rw [upd_at]; exact bk.st.cF
    · rw [upd_ne c]; exact cellO j hj c
  refine ⟨?_, ?_, ?_, sep_upd rfl fb.own h.sep (fun f q e => (h.lt f e).2) (fun q e => (hf q e).2), fun j c17 c5 c6 => by rw [upd_ne c6, upd_ne c6]; exact h.rest j c17 c5 c6⟩
  · simp only [upd_ne (show (17 : Nat) ≠ 6 by decide)]
    obtain ⟨K, b, l0⟩ := h.b17
    exact ⟨K, move17 b fb.size (cellO 17 (by omega) (by omega)) (fun j hj hn => oc j hj) bk.fz (kp 17 (by omega)), l0⟩
  · simp only [upd_ne (show (5 : Nat) ≠ 6 by decide)]
    obtain ⟨K, b, l0⟩ := h.b5
    exact ⟨K, move5 b fb.size (cellO 5 (by omega) (by omega)) (fun j hj hn => oc j hj) bk.fz (kp 5 (by omega)), l0⟩
  · simp only [upd_at]
    refine ⟨fun j => if j = M 6 then l else G j, move6 bk (Nat.le_refl _) bk.st.cF (fun j hj hn => oc j hj) bk.fz (fun _ _ => rfl), fun j hj => ?_⟩
    by_cases c : j = M 6
    · simp only [if_pos c]; exact hl
    · simp only [if_neg c]; exact hG j (by omega)
theorem MB.take6 {N C : Nat} {M : Nat → Nat} {V : Nat → Nat → Value} {H : Nat → Value} {w : World} {B : Nat} {v : Value} {l : List (Bk6.EK)} (h : MB N C M V H w) (o : Bk6.OE w B v l) (hl : l.length ≤ 268435456) (hf : ∀ q, v.ownBlock = some q → C ≤ q ∧ ∀ f, ¬ own (H f) (V f) (M f) q) (hm : M 6 ≤ 4194304) :
    Calls Tryz.prog 49 #[.pointer (some ⟨N, 0, none⟩), v] w fun e w' => e = .returned undef ∧ ∃ h', MB N C (upd 6 (M 6 + 1) M) (upd 6 (snoc (M 6) v (V 6)) V) (upd 6 h' H) w' ∧ FR N w (H 6) h' w' := by
  obtain ⟨G, b, hG⟩ := h.b6
  refine (ftake6 b o (fun q e => ⟨(hf q e).1, fun c => (hf q e).2 6 (Or.inl c), fun j hj c => (hf q e).2 6 (Or.inr ⟨j, hj, c⟩)⟩) hm).mono fun e w' ⟨e1, h', bk, bN, fb⟩ => ⟨e1, h', ?_⟩
  have fr : FR N w (H 6) h' w' := ⟨fb.1, fb.2.1, fb.2.2, bN.os, bN.tape, bN.output⟩
  exact ⟨h.took6 hG hl hf bk fr, fr⟩
/-- what is left as it was. -/
structure FM (P : Nat → Prop) (w W : World) : Prop where
  size : w.heap.size ≤ W.heap.size
  keep : ∀ k, k < w.heap.size → ¬ P k → W.heap[k]? = w.heap[k]?
  same : W.os = w.os ∧ W.tape = w.tape ∧ W.output = w.output
def PV (V : Nat → Value) (m q : Nat) : Prop := ∃ j, j < m ∧ (V j).ownBlock = some q
/-- the rows of the fields ahead of k. -/
def RK (V : Nat → Nat → Value) (M : Nat → Nat) (k q : Nat) : Prop := ∃ f, f < k ∧ PV (V f) (M f) q
theorem FM.below {V : Nat → Nat → Value} {M : Nat → Nat} {k : Nat} {w W W' : World} (h : FM (RK V M k) w W) (b : Below W.heap.size W W') : FM (RK V M (k + 1)) w W' := ⟨Nat.le_trans h.size b.size, fun q hq c => by rw [b.block q (Nat.lt_of_lt_of_le hq h.size)]; exact h.keep q hq (fun ⟨f, hf, e⟩ => c ⟨f, by omega, e⟩), b.os.trans h.same.1, b.tape.trans h.same.2.1, b.output.trans h.same.2.2⟩
theorem FM.more {V : Nat → Nat → Value} {M : Nat → Nat} {k : Nat} {w W W' : World} (h : FM (RK V M k) w W) (s : W.heap.size ≤ W'.heap.size) (kp : ∀ q, q < W.heap.size → ¬ PV (V k) (M k) q → W'.heap[q]? = W.heap[q]?) (e : W'.os = W.os ∧ W'.tape = W.tape ∧ W'.output = W.output) : FM (RK V M (k + 1)) w W' := ⟨Nat.le_trans h.size s, fun q hq hn => by rw [kp q (Nat.lt_of_lt_of_le hq h.size) (fun c => hn ⟨k, by omega, c⟩)]; exact h.keep q hq (fun ⟨f, hf, c⟩ => hn ⟨f, by omega, c⟩), e.1.trans h.same.1, e.2.1.trans h.same.2.1, e.2.2.trans h.same.2.2⟩
theorem FM.refl (V : Nat → Nat → Value) (M : Nat → Nat) (w : World) : FM (RK V M 0) w w := ⟨Nat.le_refl _, fun _ _ _ => rfl, rfl, rfl, rfl⟩
theorem setCells_grown (N : Nat) (W : World) : ∀ (vs : List Value) (o : Nat), W.grownBy (W.setCells N o vs) (some N)
  | [], o => ⟨rfl, rfl, rfl, Nat.le_refl _, fun _ _ _ => rfl⟩
  | v :: r, o => by
    have h := setCells_grown N (W.setCell ⟨N, o, none⟩ v) r (o + 1)
    have g : W.grownBy (W.setCell ⟨N, o, none⟩ v) (some N) := ⟨rfl, rfl, rfl, by simp, fun k hk q => Below.heap_setCell _ _ _ _ (fun e => q (by rw [e]))⟩
    exact ⟨h.os.trans g.os, h.tape.trans g.tape, h.output.trans g.output, Nat.le_trans g.size h.size, fun k hk q => by rw [show (W.setCells N o (v :: r)) = (W.setCell ⟨N, o, none⟩ v).setCells N (o + 1) r from rfl, h.block k (Nat.lt_of_lt_of_le hk g.size) q]; exact g.block k hk q⟩
theorem wpList_store_run {P : Program} {ops : Array Oper} {rest : List Oper} {o : Oper} {a : Act} {Q : Exit → Act → World → Prop} {w : World} (hgd : o.guard = none) (p x : Operand) (t : TypeId)
    (ho : o.op = .store t p x) (v y : Value) (w' : World) (hs : a.eval p = v) (hx : a.eval x = y) (hr : (Instr.storeAt t v y).run P w = .ok () w')
    (h : wpList P ops Q rest (a.put o.dst undef) w') : wpList P ops Q (o :: rest) a w := by
  refine wpList_plain hgd fun K hK => ?_
  unfold Oper.wp execOp
  simp only [ho, Sem.run_bind, Sem.run_pure, Result.andThen_ok, hs, hx, hr]
  exact hK _ _ h
theorem store_book (N : Nat) (W : World) (hc : ∀ j, j < 28 → (W.cell? ⟨N, j, none⟩).isSome = true) (hz : ∀ j, W.frozen? ⟨N, j, none⟩ = false) : (Instr.storeAt 73 (.pointer (some ⟨N, 0, none⟩)) (.agg (Array.replicate 28 (.slice none 0 0)))).run Tryz.prog W = .ok () (W.setCells N 0 (List.replicate 28 (.slice none 0 0))) := by
  have h := run_storeCells_cells (P := Tryz.prog) N 0 (List.replicate 28 (.slice none 0 0)) 0 W (fun j hj => by rw [List.length_replicate] at hj; first | exact hc j hj | (simpa using hc j hj)) (fun j hj => hz _) (fun v hv => by rw [List.eq_of_mem_replicate hv]; rfl)
  have e : (Value.agg (Array.replicate 28 (Value.slice none 0 0))).cells.toList = List.replicate 28 (.slice none 0 0) := rfl
  have s : (Value.agg (Array.replicate 28 (Value.slice none 0 0))).cells.size = 28 := rfl
  unfold Instr.storeAt storeVar
  simp only [Sem.run_bind, e, s, Tryz.sizeOf73, Result.andThen_ok]
  rw [show (Instr.sureAddr (.pointer (some ⟨N, 0, none⟩))).run Tryz.prog W = .ok ⟨N, 0, none⟩ W from rfl]
  simp only [Result.andThen_ok]
  exact h
set_option maxHeartbeats 32000000 in
theorem alone_any {N C : Nat} {M : Nat → Nat} {V : Nat → Nat → Value} {H : Nat → Value} {w : World} (h : MB N C M V H w) (hm : ∀ f, M f ≤ 4194304) :
    Calls Tryz.prog 18 #[.pointer (some ⟨N, 0, none⟩)] w fun e w' => e = .returned (.bool true) ∧ FM (fun q => RK V M 28 q ∨ q = N) w w' := by
  have nC := h.nC
  have NR : ∀ k, ¬ RK V M k N := fun k ⟨f, _, j, hj, e⟩ => by have := (h.lt f (Or.inr ⟨j, hj, e⟩)).1; omega
  have HK : ∀ {k W}, FM (RK V M k) w W → W.heap[N]? = w.heap[N]? := fun {k W} hW => hW.keep N nC.2.1 (NR k)
  have CN : ∀ {k W}, FM (RK V M k) w W → ∀ j, W.cell? ⟨N, j, none⟩ = w.cell? ⟨N, j, none⟩ := fun hW j => World.cell?_of_block (w := w) (a := ⟨N, j, none⟩) (HK hW)
  have ZN : ∀ {k W}, FM (RK V M k) w W → ∀ j, W.frozen? ⟨N, j, none⟩ = false := fun hW j => by rw [World.frozen?_of_block (w := w) (a := ⟨N, j, none⟩) (HK hW)]; exact h.fz j
  have nil : ∀ j, j ≠ 17 → j ≠ 5 → j ≠ 6 → j < 28 → w.cell? ⟨N, j, none⟩ = some (.slice none 0 0) := fun j c17 c5 c6 hj => by rw [h.cell j hj, (h.rest j c17 c5 c6).2]
  have KR : ∀ {k W}, FM (RK V M k) w W → ∀ q, own (H k) (V k) (M k) q → W.heap[q]? = w.heap[q]? := fun {k W} hW q e => hW.keep q (h.lt k e).2 (fun ⟨f, hf, j, hj, c⟩ => h.sep f k (by omega) q (Or.inr ⟨j, hj, c⟩) e)
  have K0 : Hid (∀ W, FM (RK V M 0) w W → Calls Tryz.prog 50 #[.pointer (some ⟨N, 0, none⟩)] W fun e w' => e = .returned (.bool true) ∧ FM (RK V M 1) w w') := fun W hW => (aloneBytes_none N W (by rw [CN hW]; exact nil 0 (by omega) (by omega) (by omega) (by omega))).mono fun e w' hh => ⟨hh.1, hW.below hh.2⟩
  have K1 : Hid (∀ W, FM (RK V M 1) w W → Calls Tryz.prog 51 #[.pointer (some ⟨N, 0, none⟩)] W fun e w' => e = .returned (.bool true) ∧ FM (RK V M 2) w w') := fun W hW => (aloneTexts_none N W (by rw [CN hW]; exact nil 1 (by omega) (by omega) (by omega) (by omega))).mono fun e w' hh => ⟨hh.1, hW.below hh.2⟩
  have K2 : Hid (∀ W, FM (RK V M 2) w W → Calls Tryz.prog 52 #[.pointer (some ⟨N, 0, none⟩)] W fun e w' => e = .returned (.bool true) ∧ FM (RK V M 3) w w') := fun W hW => (aloneInts_none N W (by rw [CN hW]; exact nil 2 (by omega) (by omega) (by omega) (by omega))).mono fun e w' hh => ⟨hh.1, hW.below hh.2⟩
  have K3 : Hid (∀ W, FM (RK V M 3) w W → Calls Tryz.prog 53 #[.pointer (some ⟨N, 0, none⟩)] W fun e w' => e = .returned (.bool true) ∧ FM (RK V M 4) w w') := fun W hW => (aloneInt64s_none N W (by rw [CN hW]; exact nil 3 (by omega) (by omega) (by omega) (by omega))).mono fun e w' hh => ⟨hh.1, hW.below hh.2⟩
  have K4 : Hid (∀ W, FM (RK V M 4) w W → Calls Tryz.prog 54 #[.pointer (some ⟨N, 0, none⟩)] W fun e w' => e = .returned (.bool true) ∧ FM (RK V M 5) w w') := fun W hW => (aloneUint64s_none N W (by rw [CN hW]; exact nil 4 (by omega) (by omega) (by omega) (by omega))).mono fun e w' hh => ⟨hh.1, hW.below hh.2⟩
  have K5 : Hid (∀ W, FM (RK V M 5) w W → Calls Tryz.prog 55 #[.pointer (some ⟨N, 0, none⟩)] W fun e w' => e = .returned (.bool true) ∧ FM (RK V M 6) w w') := fun W hW => by
    obtain ⟨G, b0, l0⟩ := h.b5
    have b := move5 (O' := H) b0 hW.size (by rw [CN hW]; exact b0.st.cF) (fun j hj hn => by rw [CN hW]; exact b0.nil j hj hn) (ZN hW) (KR hW)
    exact (Bk5.aloneTags_any b.sp b.st (hm 5) l0).mono fun e w' ⟨e1, bf⟩ => ⟨e1, hW.more bf.size (fun q hq hn => bf.keep q hq (fun i hi c => hn ⟨i, hi, c⟩)) bf.same⟩
  have K6 : Hid (∀ W, FM (RK V M 6) w W → Calls Tryz.prog 56 #[.pointer (some ⟨N, 0, none⟩)] W fun e w' => e = .returned (.bool true) ∧ FM (RK V M 7) w w') := fun W hW => by
    obtain ⟨G, b0, l0⟩ := h.b6
    have b := move6 (O' := H) b0 hW.size (by rw [CN hW]; exact b0.st.cF) (fun j hj hn => by rw [CN hW]; exact b0.nil j hj hn) (ZN hW) (KR hW)
    exact (Bk6.aloneFields_any b.sp b.st (hm 6) l0).mono fun e w' ⟨e1, bf⟩ => ⟨e1, hW.more bf.size (fun q hq hn => bf.keep q hq (fun i hi c => hn ⟨i, hi, c⟩)) bf.same⟩
  have K7 : Hid (∀ W, FM (RK V M 7) w W → Calls Tryz.prog 57 #[.pointer (some ⟨N, 0, none⟩)] W fun e w' => e = .returned (.bool true) ∧ FM (RK V M 8) w w') := fun W hW => (aloneSamples_none N W (by rw [CN hW]; exact nil 7 (by omega) (by omega) (by omega) (by omega))).mono fun e w' hh => ⟨hh.1, hW.below hh.2⟩
  have K8 : Hid (∀ W, FM (RK V M 8) w W → Calls Tryz.prog 58 #[.pointer (some ⟨N, 0, none⟩)] W fun e w' => e = .returned (.bool true) ∧ FM (RK V M 9) w w') := fun W hW => (aloneNodes_none N W (by rw [CN hW]; exact nil 8 (by omega) (by omega) (by omega) (by omega))).mono fun e w' hh => ⟨hh.1, hW.below hh.2⟩
  have K9 : Hid (∀ W, FM (RK V M 9) w W → Calls Tryz.prog 59 #[.pointer (some ⟨N, 0, none⟩)] W fun e w' => e = .returned (.bool true) ∧ FM (RK V M 10) w w') := fun W hW => (aloneLabels_none N W (by rw [CN hW]; exact nil 9 (by omega) (by omega) (by omega) (by omega))).mono fun e w' hh => ⟨hh.1, hW.below hh.2⟩
  have K10 : Hid (∀ W, FM (RK V M 10) w W → Calls Tryz.prog 60 #[.pointer (some ⟨N, 0, none⟩)] W fun e w' => e = .returned (.bool true) ∧ FM (RK V M 11) w w') := fun W hW => (aloneAccs_none N W (by rw [CN hW]; exact nil 10 (by omega) (by omega) (by omega) (by omega))).mono fun e w' hh => ⟨hh.1, hW.below hh.2⟩
  have K11 : Hid (∀ W, FM (RK V M 11) w W → Calls Tryz.prog 61 #[.pointer (some ⟨N, 0, none⟩)] W fun e w' => e = .returned (.bool true) ∧ FM (RK V M 12) w w') := fun W hW => (aloneInses_none N W (by rw [CN hW]; exact nil 11 (by omega) (by omega) (by omega) (by omega))).mono fun e w' hh => ⟨hh.1, hW.below hh.2⟩
  have K12 : Hid (∀ W, FM (RK V M 12) w W → Calls Tryz.prog 62 #[.pointer (some ⟨N, 0, none⟩)] W fun e w' => e = .returned (.bool true) ∧ FM (RK V M 13) w w') := fun W hW => (aloneEntries_none N W (by rw [CN hW]; exact nil 12 (by omega) (by omega) (by omega) (by omega))).mono fun e w' hh => ⟨hh.1, hW.below hh.2⟩
  have K13 : Hid (∀ W, FM (RK V M 13) w W → Calls Tryz.prog 63 #[.pointer (some ⟨N, 0, none⟩)] W fun e w' => e = .returned (.bool true) ∧ FM (RK V M 14) w w') := fun W hW => (aloneTold_none N W (by rw [CN hW]; exact nil 13 (by omega) (by omega) (by omega) (by omega))).mono fun e w' hh => ⟨hh.1, hW.below hh.2⟩
  have K14 : Hid (∀ W, FM (RK V M 14) w W → Calls Tryz.prog 64 #[.pointer (some ⟨N, 0, none⟩)] W fun e w' => e = .returned (.bool true) ∧ FM (RK V M 15) w w') := fun W hW => (aloneTokens_none N W (by rw [CN hW]; exact nil 14 (by omega) (by omega) (by omega) (by omega))).mono fun e w' hh => ⟨hh.1, hW.below hh.2⟩
  have K15 : Hid (∀ W, FM (RK V M 15) w W → Calls Tryz.prog 65 #[.pointer (some ⟨N, 0, none⟩)] W fun e w' => e = .returned (.bool true) ∧ FM (RK V M 16) w w') := fun W hW => (aloneSlots_none N W (by rw [CN hW]; exact nil 15 (by omega) (by omega) (by omega) (by omega))).mono fun e w' hh => ⟨hh.1, hW.below hh.2⟩
  have K16 : Hid (∀ W, FM (RK V M 16) w W → Calls Tryz.prog 66 #[.pointer (some ⟨N, 0, none⟩)] W fun e w' => e = .returned (.bool true) ∧ FM (RK V M 17) w w') := fun W hW => (aloneFates_none N W (by rw [CN hW]; exact nil 16 (by omega) (by omega) (by omega) (by omega))).mono fun e w' hh => ⟨hh.1, hW.below hh.2⟩
  have K17 : Hid (∀ W, FM (RK V M 17) w W → Calls Tryz.prog 67 #[.pointer (some ⟨N, 0, none⟩)] W fun e w' => e = .returned (.bool true) ∧ FM (RK V M 18) w w') := fun W hW => by
    obtain ⟨G, b0, l0⟩ := h.b17
    have b := move17 (O' := H) b0 hW.size (by rw [CN hW]; exact b0.st.cF) (fun j hj hn => by rw [CN hW]; exact b0.nil j hj hn) (ZN hW) (KR hW)
    exact (Bk17.alonePoints_any b.sp b.st (hm 17) l0).mono fun e w' ⟨e1, bf⟩ => ⟨e1, hW.more bf.size (fun q hq hn => bf.keep q hq (fun i hi c => hn ⟨i, hi, c⟩)) bf.same⟩
  have K18 : Hid (∀ W, FM (RK V M 18) w W → Calls Tryz.prog 68 #[.pointer (some ⟨N, 0, none⟩)] W fun e w' => e = .returned (.bool true) ∧ FM (RK V M 19) w w') := fun W hW => (aloneWrites_none N W (by rw [CN hW]; exact nil 18 (by omega) (by omega) (by omega) (by omega))).mono fun e w' hh => ⟨hh.1, hW.below hh.2⟩
  have K19 : Hid (∀ W, FM (RK V M 19) w W → Calls Tryz.prog 69 #[.pointer (some ⟨N, 0, none⟩)] W fun e w' => e = .returned (.bool true) ∧ FM (RK V M 20) w w') := fun W hW => (aloneDeltas_none N W (by rw [CN hW]; exact nil 19 (by omega) (by omega) (by omega) (by omega))).mono fun e w' hh => ⟨hh.1, hW.below hh.2⟩
  have K20 : Hid (∀ W, FM (RK V M 20) w W → Calls Tryz.prog 70 #[.pointer (some ⟨N, 0, none⟩)] W fun e w' => e = .returned (.bool true) ∧ FM (RK V M 21) w w') := fun W hW => (aloneSeriesList_none N W (by rw [CN hW]; exact nil 20 (by omega) (by omega) (by omega) (by omega))).mono fun e w' hh => ⟨hh.1, hW.below hh.2⟩
  have K21 : Hid (∀ W, FM (RK V M 21) w W → Calls Tryz.prog 71 #[.pointer (some ⟨N, 0, none⟩)] W fun e w' => e = .returned (.bool true) ∧ FM (RK V M 22) w w') := fun W hW => (aloneItems_none N W (by rw [CN hW]; exact nil 21 (by omega) (by omega) (by omega) (by omega))).mono fun e w' hh => ⟨hh.1, hW.below hh.2⟩
  have K22 : Hid (∀ W, FM (RK V M 22) w W → Calls Tryz.prog 72 #[.pointer (some ⟨N, 0, none⟩)] W fun e w' => e = .returned (.bool true) ∧ FM (RK V M 23) w w') := fun W hW => (aloneTables_none N W (by rw [CN hW]; exact nil 22 (by omega) (by omega) (by omega) (by omega))).mono fun e w' hh => ⟨hh.1, hW.below hh.2⟩
  have K23 : Hid (∀ W, FM (RK V M 23) w W → Calls Tryz.prog 73 #[.pointer (some ⟨N, 0, none⟩)] W fun e w' => e = .returned (.bool true) ∧ FM (RK V M 24) w w') := fun W hW => (aloneOuts_none N W (by rw [CN hW]; exact nil 23 (by omega) (by omega) (by omega) (by omega))).mono fun e w' hh => ⟨hh.1, hW.below hh.2⟩
  have K24 : Hid (∀ W, FM (RK V M 24) w W → Calls Tryz.prog 74 #[.pointer (some ⟨N, 0, none⟩)] W fun e w' => e = .returned (.bool true) ∧ FM (RK V M 25) w w') := fun W hW => (aloneTextLists_none N W (by rw [CN hW]; exact nil 24 (by omega) (by omega) (by omega) (by omega))).mono fun e w' hh => ⟨hh.1, hW.below hh.2⟩
  have K25 : Hid (∀ W, FM (RK V M 25) w W → Calls Tryz.prog 75 #[.pointer (some ⟨N, 0, none⟩)] W fun e w' => e = .returned (.bool true) ∧ FM (RK V M 26) w w') := fun W hW => (aloneCells_none N W (by rw [CN hW]; exact nil 25 (by omega) (by omega) (by omega) (by omega))).mono fun e w' hh => ⟨hh.1, hW.below hh.2⟩
  have K26 : Hid (∀ W, FM (RK V M 26) w W → Calls Tryz.prog 76 #[.pointer (some ⟨N, 0, none⟩)] W fun e w' => e = .returned (.bool true) ∧ FM (RK V M 27) w w') := fun W hW => (aloneRows_none N W (by rw [CN hW]; exact nil 26 (by omega) (by omega) (by omega) (by omega))).mono fun e w' hh => ⟨hh.1, hW.below hh.2⟩
  have K27 : Hid (∀ W, FM (RK V M 27) w W → Calls Tryz.prog 77 #[.pointer (some ⟨N, 0, none⟩)] W fun e w' => e = .returned (.bool true) ∧ FM (RK V M 28) w w') := fun W hW => (aloneImages_none N W (by rw [CN hW]; exact nil 27 (by omega) (by omega) (by omega) (by omega))).mono fun e w' hh => ⟨hh.1, hW.below hh.2⟩
  have FIN : Hid (∀ W, FM (RK V M 28) w W → (∀ j, j < 28 → (W.cell? ⟨N, j, none⟩).isSome = true) ∧ (∀ j, W.frozen? ⟨N, j, none⟩ = false) ∧ FM (fun q => RK V M 28 q ∨ q = N) w (W.setCells N 0 (List.replicate 28 (.slice none 0 0)))) := fun W hW => ⟨fun j hj => by
    rw [CN hW, h.cell j hj]; rfl, ZN hW, by
    have g := setCells_grown N W (List.replicate 28 (.slice none 0 0)) 0
    exact ⟨Nat.le_trans hW.size g.size, fun q hq hn => by rw [g.block q (Nat.lt_of_lt_of_le hq hW.size) (fun e => hn (Or.inr (by injection e)))]; exact hW.keep q hq (fun c => hn (Or.inl c)), g.os.trans hW.same.1, g.tape.trans hW.same.2.1, g.output.trans hW.same.2.2⟩⟩
  have B0 : Hid _ := FM.refl V M w
  clear HK CN ZN KR h nil nC NR hm
  go_enter Tryz.func18, Tryz.ntmps18
  go_wp2_with fail
  refine Calls.mono (K0.out _ B0.out) ?_
  rintro e w0 ⟨rfl, b0⟩
  have B1 : Hid _ := b0
  clear b0 K0 B0
  go_wp2_with fail
  refine Calls.mono (K1.out _ B1.out) ?_
  rintro e w1 ⟨rfl, b1⟩
  have B2 : Hid _ := b1
  clear b1 K1 B1
  go_wp2_with fail
  refine Calls.mono (K2.out _ B2.out) ?_
  rintro e w2 ⟨rfl, b2⟩
  have B3 : Hid _ := b2
  clear b2 K2 B2
  go_wp2_with fail
  refine Calls.mono (K3.out _ B3.out) ?_
  rintro e w3 ⟨rfl, b3⟩
  have B4 : Hid _ := b3
  clear b3 K3 B3
  go_wp2_with fail
  refine Calls.mono (K4.out _ B4.out) ?_
  rintro e w4 ⟨rfl, b4⟩
  have B5 : Hid _ := b4
  clear b4 K4 B4
  go_wp2_with fail
  refine Calls.mono (K5.out _ B5.out) ?_
  rintro e w5 ⟨rfl, b5⟩
  have B6 : Hid _ := b5
  clear b5 K5 B5
  go_wp2_with fail
  refine Calls.mono (K6.out _ B6.out) ?_
  rintro e w6 ⟨rfl, b6⟩
  have B7 : Hid _ := b6
  clear b6 K6 B6
  go_wp2_with fail
  refine Calls.mono (K7.out _ B7.out) ?_
  rintro e w7 ⟨rfl, b7⟩
  have B8 : Hid _ := b7
  clear b7 K7 B7
  go_wp2_with fail
  refine Calls.mono (K8.out _ B8.out) ?_
  rintro e w8 ⟨rfl, b8⟩
  have B9 : Hid _ := b8
  clear b8 K8 B8
  go_wp2_with fail
  refine Calls.mono (K9.out _ B9.out) ?_
  rintro e w9 ⟨rfl, b9⟩
  have B10 : Hid _ := b9
  clear b9 K9 B9
  go_wp2_with fail
  refine Calls.mono (K10.out _ B10.out) ?_
  rintro e w10 ⟨rfl, b10⟩
  have B11 : Hid _ := b10
  clear b10 K10 B10
  go_wp2_with fail
  refine Calls.mono (K11.out _ B11.out) ?_
  rintro e w11 ⟨rfl, b11⟩
  have B12 : Hid _ := b11
  clear b11 K11 B11
  go_wp2_with fail
  refine Calls.mono (K12.out _ B12.out) ?_
  rintro e w12 ⟨rfl, b12⟩
  have B13 : Hid _ := b12
  clear b12 K12 B12
  go_wp2_with fail
  refine Calls.mono (K13.out _ B13.out) ?_
  rintro e w13 ⟨rfl, b13⟩
  have B14 : Hid _ := b13
  clear b13 K13 B13
  go_wp2_with fail
  refine Calls.mono (K14.out _ B14.out) ?_
  rintro e w14 ⟨rfl, b14⟩
  have B15 : Hid _ := b14
  clear b14 K14 B14
  go_wp2_with fail
  refine Calls.mono (K15.out _ B15.out) ?_
  rintro e w15 ⟨rfl, b15⟩
  have B16 : Hid _ := b15
  clear b15 K15 B15
  go_wp2_with fail
  refine Calls.mono (K16.out _ B16.out) ?_
  rintro e w16 ⟨rfl, b16⟩
  have B17 : Hid _ := b16
  clear b16 K16 B16
  go_wp2_with fail
  refine Calls.mono (K17.out _ B17.out) ?_
  rintro e w17 ⟨rfl, b17⟩
  have B18 : Hid _ := b17
  clear b17 K17 B17
  go_wp2_with fail
  refine Calls.mono (K18.out _ B18.out) ?_
  rintro e w18 ⟨rfl, b18⟩
  have B19 : Hid _ := b18
  clear b18 K18 B18
  go_wp2_with fail
  refine Calls.mono (K19.out _ B19.out) ?_
  rintro e w19 ⟨rfl, b19⟩
  have B20 : Hid _ := b19
  clear b19 K19 B19
  go_wp2_with fail
  refine Calls.mono (K20.out _ B20.out) ?_
  rintro e w20 ⟨rfl, b20⟩
  have B21 : Hid _ := b20
  clear b20 K20 B20
  go_wp2_with fail
  refine Calls.mono (K21.out _ B21.out) ?_
  rintro e w21 ⟨rfl, b21⟩
  have B22 : Hid _ := b21
  clear b21 K21 B21
  go_wp2_with fail
  refine Calls.mono (K22.out _ B22.out) ?_
  rintro e w22 ⟨rfl, b22⟩
  have B23 : Hid _ := b22
  clear b22 K22 B22
  go_wp2_with fail
  refine Calls.mono (K23.out _ B23.out) ?_
  rintro e w23 ⟨rfl, b23⟩
  have B24 : Hid _ := b23
  clear b23 K23 B23
  go_wp2_with fail
  refine Calls.mono (K24.out _ B24.out) ?_
  rintro e w24 ⟨rfl, b24⟩
  have B25 : Hid _ := b24
  clear b24 K24 B24
  go_wp2_with fail
  refine Calls.mono (K25.out _ B25.out) ?_
  rintro e w25 ⟨rfl, b25⟩
  have B26 : Hid _ := b25
  clear b25 K25 B25
  go_wp2_with fail
  refine Calls.mono (K26.out _ B26.out) ?_
  rintro e w26 ⟨rfl, b26⟩
  have B27 : Hid _ := b26
  clear b26 K26 B26
  go_wp2_with fail
  refine Calls.mono (K27.out _ B27.out) ?_
  rintro e w27 ⟨rfl, b27⟩
  have B28 : Hid _ := b27
  clear b27 K27 B27
  obtain ⟨dd, zz, ff⟩ := FIN.out w27 B28.out
  have fin : Hid _ := ff
  have hst : Hid _ := store_book N w27 dd zz
  clear dd zz ff FIN B28
  go_wp2_with (refine wpList_store_run (by rfl) (.tmp 116) (.tmp 115) 73 (by rfl) _ _ _ (by rfl) (by rfl) hst.out ?_)
  go_ret
  exact ⟨rfl, fin.out⟩
/-- a book, what it owns told by a bound. -/
structure BB (N C n : Nat) (Own : Nat → Prop) (w : World) : Prop where
  mb : ∃ M V H, MB N C M V H w ∧ (∀ f, M f ≤ n) ∧ ∀ f q, own (H f) (V f) (M f) q → Own q
  at_ : Own N
  lt : ∀ q, Own q → q < w.heap.size
  nC : N < C ∧ C ≤ w.heap.size
/-- what is not the book's stays. -/
structure KO (Own : Nat → Prop) (w w' : World) : Prop where
  size : w.heap.size ≤ w'.heap.size
  keep : ∀ q, q < w.heap.size → ¬ Own q → w'.heap[q]? = w.heap[q]?
  same : w'.os = w.os ∧ w'.tape = w.tape ∧ w'.output = w.output
theorem KO.refl (Own : Nat → Prop) (w : World) : KO Own w w := ⟨Nat.le_refl _, fun _ _ _ => rfl, rfl, rfl, rfl⟩
theorem KO.below {Own : Nat → Prop} {w w' : World} {K : Nat} (h : KO Own w w') (hK : K ≤ w.heap.size) (hn : ∀ q, q < K → ¬ Own q) : Below K w w' := ⟨h.same.1, h.same.2.1, h.same.2.2, h.size, fun q hq => h.keep q (by omega) (hn q hq)⟩
theorem BB.keep {N C n : Nat} {Own : Nat → Prop} {w w' : World} (h : BB N C n Own w) (sz : w.heap.size ≤ w'.heap.size) (k : ∀ q, Own q → q < w.heap.size → w'.heap[q]? = w.heap[q]?) : BB N C n Own w' := by
  obtain ⟨⟨M, V, H, mb, hn, ho⟩, a, lt, nC⟩ := h
  exact ⟨⟨M, V, H, mb.keep sz (k N a mb.nC.2.1) (fun f q e => k q (ho f q e) (mb.lt f e).2), hn, ho⟩, a, fun q e => by have := lt q e; omega, by omega⟩
theorem BB.below {N C n : Nat} {Own : Nat → Prop} {w w' : World} (h : BB N C n Own w) (b : Below w.heap.size w w') : BB N C n Own w' := h.keep b.size (fun q _ hq => b.block q hq)
theorem BB.more {N C n n' : Nat} {Own Own' : Nat → Prop} {w : World} (h : BB N C n Own w) (hn : n ≤ n') (ho : ∀ q, Own q → Own' q) (lt : ∀ q, Own' q → q < w.heap.size) : BB N C n' Own' w := by
  obtain ⟨⟨M, V, H, mb, h1, h2⟩, a, _, nC⟩ := h
  exact ⟨⟨M, V, H, mb, fun f => Nat.le_trans (h1 f) hn, fun f q e => ho q (h2 f q e)⟩, ho N a, lt, nC⟩
theorem BB.empty {N C : Nat} {w : World} (hN : N < C) (hC : C ≤ w.heap.size) (hc : ∀ j, j < 28 → w.cell? ⟨N, j, none⟩ = some (.slice none 0 0)) (hz : ∀ j, w.frozen? ⟨N, j, none⟩ = false) : BB N C 0 (fun q => q = N) w := by
  have no : ∀ q, ¬ own (.slice none 0 0) (fun _ => undef) 0 q := fun q e => by
    rcases e with e | ⟨j, hj, _⟩
    · simp [Value.ownBlock] at e
    · omega
  refine ⟨⟨fun _ => 0, fun _ _ => undef, fun _ => .slice none 0 0, ⟨?_, ?_, ?_, fun f g _ q e => absurd e (no q), fun j _ _ _ => ⟨rfl, rfl⟩⟩, fun _ => Nat.le_refl _, fun f q e => absurd e (no q)⟩, rfl, fun q e => by omega, by omega⟩
  · exact ⟨fun _ => [], ⟨⟨hN, by omega, hC, fun i hi => by omega, fun k e => (by cases e), fun i j hi => by omega, fun i hi => by omega⟩, ⟨hc 17 (by omega), ⟨rfl, Or.inl ⟨rfl, rfl⟩⟩, fun j hj => by omega, Bk17.BF.refl _ _ _⟩, fun j hj _ => hc j hj, hz⟩, fun j hj => by omega⟩
  · exact ⟨fun _ => [], ⟨⟨hN, by omega, hC, fun i hi => by omega, fun k e => (by cases e), fun i j hi => by omega, fun i hi => by omega⟩, ⟨hc 5 (by omega), ⟨rfl, Or.inl ⟨rfl, rfl⟩⟩, fun j hj => by omega, Bk5.BF.refl _ _ _⟩, fun j hj _ => hc j hj, hz⟩, fun j hj => by omega⟩
  · exact ⟨fun _ => [], ⟨⟨hN, by omega, hC, fun i hi => by omega, fun k e => (by cases e), fun i j hi => by omega, fun i hi => by omega⟩, ⟨hc 6 (by omega), ⟨rfl, Or.inl ⟨rfl, rfl⟩⟩, fun j hj => by omega, Bk6.BF.refl _ _ _⟩, fun j hj _ => hc j hj, hz⟩, fun j hj => by omega⟩
theorem BB.start (w : World) : BB w.heap.size (w.heap.size + 1) 0 (fun q => q = w.heap.size) (w.alloc (.cells (Array.replicate 28 (.slice none 0 0)) 73)) :=
  BB.empty (by omega) (by simp) (fun j hj => by rw [World.cell?_alloc_at _ _ _ _ rfl, Array.getElem?_replicate, if_pos hj]) (fun j => World.frozen?_alloc_at _ _ _ _ rfl)
theorem BB.take5 {N C n B : Nat} {Own : Nat → Prop} {w : World} {v : Value} {l : List (Bk5.E2)} (h : BB N C n Own w) (o : Bk5.OE w B v l) (hl : l.length ≤ 268435456) (hv : ∀ q, v.ownBlock = some q → C ≤ q ∧ ¬ Own q) (hn : n ≤ 4194304) :
    Calls Tryz.prog 48 #[.pointer (some ⟨N, 0, none⟩), v] w fun e w' => e = .returned undef ∧ BB N C (n + 1) (fun q => Own q ∨ v.ownBlock = some q ∨ (w.heap.size ≤ q ∧ q < w'.heap.size)) w' ∧ KO Own w w' := by
  obtain ⟨⟨M, V, H, mb, h1, h2⟩, a, lt, nC⟩ := h
  refine (mb.take5 o hl (fun q e => ⟨(hv q e).1, fun g c => (hv q e).2 (h2 g q c)⟩) (by have := h1 5; omega)).mono fun e w' ⟨e1, h', mb', fr⟩ => ⟨e1, ⟨⟨_, _, _, mb', fun g => ?_, fun g q e => ?_⟩, Or.inl a, fun q e => ?_, by have := fr.size; omega⟩, ⟨fr.size, fun q hq hn => fr.keep q hq (fun c => hn (c ▸ a)) (fun c => hn (h2 5 q (Or.inl c))), fr.same⟩⟩
  · by_cases c : g = 5
    · subst c; rw [upd_at]; have := h1 5; omega
    · rw [upd_ne c]; have := h1 g; omega
  · rcases own_upd rfl fr.own g q e with c | ⟨_, c | c⟩
    · exact Or.inl (h2 g q c)
    · exact Or.inr (Or.inl c)
    · exact Or.inr (Or.inr ⟨c, (mb'.lt g e).2⟩)
  · rcases e with e | e | e
    · have := lt q e; have := fr.size; omega
    · have := (o.bound e).2; have := fr.size; omega
    · exact e.2
theorem BB.take6 {N C n B : Nat} {Own : Nat → Prop} {w : World} {v : Value} {l : List (Bk6.EK)} (h : BB N C n Own w) (o : Bk6.OE w B v l) (hl : l.length ≤ 268435456) (hv : ∀ q, v.ownBlock = some q → C ≤ q ∧ ¬ Own q) (hn : n ≤ 4194304) :
    Calls Tryz.prog 49 #[.pointer (some ⟨N, 0, none⟩), v] w fun e w' => e = .returned undef ∧ BB N C (n + 1) (fun q => Own q ∨ v.ownBlock = some q ∨ (w.heap.size ≤ q ∧ q < w'.heap.size)) w' ∧ KO Own w w' := by
  obtain ⟨⟨M, V, H, mb, h1, h2⟩, a, lt, nC⟩ := h
  refine (mb.take6 o hl (fun q e => ⟨(hv q e).1, fun g c => (hv q e).2 (h2 g q c)⟩) (by have := h1 6; omega)).mono fun e w' ⟨e1, h', mb', fr⟩ => ⟨e1, ⟨⟨_, _, _, mb', fun g => ?_, fun g q e => ?_⟩, Or.inl a, fun q e => ?_, by have := fr.size; omega⟩, ⟨fr.size, fun q hq hn => fr.keep q hq (fun c => hn (c ▸ a)) (fun c => hn (h2 6 q (Or.inl c))), fr.same⟩⟩
  · by_cases c : g = 6
    · subst c; rw [upd_at]; have := h1 6; omega
    · rw [upd_ne c]; have := h1 g; omega
  · rcases own_upd rfl fr.own g q e with c | ⟨_, c | c⟩
    · exact Or.inl (h2 g q c)
    · exact Or.inr (Or.inl c)
    · exact Or.inr (Or.inr ⟨c, (mb'.lt g e).2⟩)
  · rcases e with e | e | e
    · have := lt q e; have := fr.size; omega
    · have := (o.bound e).2; have := fr.size; omega
    · exact e.2
theorem BB.alone {N C n : Nat} {Own : Nat → Prop} {w : World} (h : BB N C n Own w) (hn : n ≤ 4194304) :
    Calls Tryz.prog 18 #[.pointer (some ⟨N, 0, none⟩)] w fun e w' => e = .returned (.bool true) ∧ KO Own w w' := by
  obtain ⟨⟨M, V, H, mb, h1, h2⟩, a, lt, nC⟩ := h
  refine (alone_any mb (fun f => Nat.le_trans (h1 f) hn)).mono fun e w' ⟨e1, fm⟩ => ⟨e1, fm.size, fun q hq c => fm.keep q hq (fun d => ?_), fm.same⟩
  rcases d with ⟨f, _, j, hj, e⟩ | d
  · exact c (h2 f q (Or.inr ⟨j, hj, e⟩))
  · exact c (d ▸ a)
end Go.Proofs.YtbojljmacheccaaGreatDoor.Mb
