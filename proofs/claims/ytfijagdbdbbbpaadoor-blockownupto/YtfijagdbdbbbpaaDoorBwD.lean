
import Derived.Test.YtfijagdbdbbbpaaDoorBwA
import Derived.Test.YtfijagdbdbbbpaaDoorBkEhq
import Derived.Laws.IdiomCopy
namespace Go.Proofs.YtfijagdbdbbbpaaDoor.Mb
open Go.RowKit
set_option linter.unusedVariables false
set_option linter.unusedSimpArgs false
set_option maxRecDepth 100000
theorem row_kept {w w' : World} {B size n : Nat} {e : TypeId} {v : Value} {xs : List Value} (h : w.ownsRow B e size v n xs) (hb : ∀ g, v.ownBlock = some g → w'.heap[g]? = w.heap[g]?) : w'.ownsRow B e size v n xs := by
  refine ⟨h.1, ?_⟩
  rcases h.2 with h2 | ⟨g, cap, cur, e1, e2, e3, e4⟩
  · exact Or.inl h2
  · exact Or.inr ⟨g, cap, cur, e1, e2, by rw [hb g (by rw [e1]; rfl)]; exact e3, e4⟩
/-- the blocks of one field. -/
def own (hv : Value) (V : Nat → Value) (m q : Nat) : Prop := hv.ownBlock = some q ∨ ∃ j, j < m ∧ (V j).ownBlock = some q
theorem move0 {O O' : Nat → Value} {N C m : Nat} {V : Nat → Value} {hv : Value} {G : Nat → List (Value)} {w w' : World} (h : Bk0.BK O N C m V hv G w) (sz : w.heap.size ≤ w'.heap.size) (cF : w'.cell? ⟨N, 0, none⟩ = some hv) (oth : ∀ j, j < 28 → j ≠ 0 → w'.cell? ⟨N, j, none⟩ = some (O' j)) (fz : ∀ j, w'.frozen? ⟨N, j, none⟩ = false) (k : ∀ q, own hv V m q → w'.heap[q]? = w.heap[q]?) : Bk0.BK O' N C m V hv G w' :=
  ⟨⟨h.sp.nC, by have := h.sp.nw; omega, by have := h.sp.cw; omega, fun i hi k e => by have := h.sp.vb i hi k e; omega, fun k e => by have := h.sp.hb k e; omega, h.sp.dis, h.sp.hd⟩, ⟨cF, row_kept h.st.hr (fun q e => k q (Or.inl e)), fun j hj => row_kept (h.st.rows j hj) (fun q e => k q (Or.inr ⟨j, hj, e⟩)), Bk0.BF.refl _ _ _⟩, oth, fz⟩
theorem lt0 {O : Nat → Value} {N C m : Nat} {V : Nat → Value} {hv : Value} {G : Nat → List (Value)} {w : World} (h : Bk0.BK O N C m V hv G w) {q : Nat} (e : own hv V m q) : C ≤ q ∧ q < w.heap.size := by
  rcases e with e | ⟨j, hj, e⟩
  · exact h.sp.hb q e
  · exact h.sp.vb j hj q e
theorem move3 {O O' : Nat → Value} {N C m : Nat} {V : Nat → Value} {hv : Value} {G : Nat → List (Value)} {w w' : World} (h : Bk3.BK O N C m V hv G w) (sz : w.heap.size ≤ w'.heap.size) (cF : w'.cell? ⟨N, 3, none⟩ = some hv) (oth : ∀ j, j < 28 → j ≠ 3 → w'.cell? ⟨N, j, none⟩ = some (O' j)) (fz : ∀ j, w'.frozen? ⟨N, j, none⟩ = false) (k : ∀ q, own hv V m q → w'.heap[q]? = w.heap[q]?) : Bk3.BK O' N C m V hv G w' :=
  ⟨⟨h.sp.nC, by have := h.sp.nw; omega, by have := h.sp.cw; omega, fun i hi k e => by have := h.sp.vb i hi k e; omega, fun k e => by have := h.sp.hb k e; omega, h.sp.dis, h.sp.hd⟩, ⟨cF, row_kept h.st.hr (fun q e => k q (Or.inl e)), fun j hj => row_kept (h.st.rows j hj) (fun q e => k q (Or.inr ⟨j, hj, e⟩)), Bk3.BF.refl _ _ _⟩, oth, fz⟩
theorem lt3 {O : Nat → Value} {N C m : Nat} {V : Nat → Value} {hv : Value} {G : Nat → List (Value)} {w : World} (h : Bk3.BK O N C m V hv G w) {q : Nat} (e : own hv V m q) : C ≤ q ∧ q < w.heap.size := by
  rcases e with e | ⟨j, hj, e⟩
  · exact h.sp.hb q e
  · exact h.sp.vb j hj q e
theorem move7 {O O' : Nat → Value} {N C m : Nat} {V : Nat → Value} {hv : Value} {G : Nat → List (Bk7.E3)} {w w' : World} (h : Bk7.BK O N C m V hv G w) (sz : w.heap.size ≤ w'.heap.size) (cF : w'.cell? ⟨N, 7, none⟩ = some hv) (oth : ∀ j, j < 28 → j ≠ 7 → w'.cell? ⟨N, j, none⟩ = some (O' j)) (fz : ∀ j, w'.frozen? ⟨N, j, none⟩ = false) (k : ∀ q, own hv V m q → w'.heap[q]? = w.heap[q]?) : Bk7.BK O' N C m V hv G w' :=
  ⟨⟨h.sp.nC, by have := h.sp.nw; omega, by have := h.sp.cw; omega, fun i hi k e => by have := h.sp.vb i hi k e; omega, fun k e => by have := h.sp.hb k e; omega, h.sp.dis, h.sp.hd⟩, ⟨cF, row_kept h.st.hr (fun q e => k q (Or.inl e)), fun j hj => row_kept (h.st.rows j hj) (fun q e => k q (Or.inr ⟨j, hj, e⟩)), Bk7.BF.refl _ _ _⟩, oth, fz⟩
theorem lt7 {O : Nat → Value} {N C m : Nat} {V : Nat → Value} {hv : Value} {G : Nat → List (Bk7.E3)} {w : World} (h : Bk7.BK O N C m V hv G w) {q : Nat} (e : own hv V m q) : C ≤ q ∧ q < w.heap.size := by
  rcases e with e | ⟨j, hj, e⟩
  · exact h.sp.hb q e
  · exact h.sp.vb j hj q e
def O0 (h3 h7 : Value) (j : Nat) : Value := if j = 3 then h3 else if j = 7 then h7 else .slice none 0 0
def O3 (h0 h7 : Value) (j : Nat) : Value := if j = 0 then h0 else if j = 7 then h7 else .slice none 0 0
def O7 (h0 h3 : Value) (j : Nat) : Value := if j = 0 then h0 else if j = 3 then h3 else .slice none 0 0
/-- a book with three lists. -/
structure MB (N C m0 m3 m7 : Nat) (V0 V3 V7 : Nat → Value) (h0 h3 h7 : Value) (G0 G3 : Nat → List Value) (G7 : Nat → List Bk7.E3) (w : World) : Prop where
  b0 : Bk0.BK (O0 h3 h7) N C m0 V0 h0 G0 w
  b3 : Bk3.BK (O3 h0 h7) N C m3 V3 h3 G3 w
  b7 : Bk7.BK (O7 h0 h3) N C m7 V7 h7 G7 w
  x03 : ∀ q, own h0 V0 m0 q → ¬ own h3 V3 m3 q
  x07 : ∀ q, own h0 V0 m0 q → ¬ own h7 V7 m7 q
  x37 : ∀ q, own h3 V3 m3 q → ¬ own h7 V7 m7 q
theorem MB.below {N C m0 m3 m7 : Nat} {V0 V3 V7 : Nat → Value} {h0 h3 h7 : Value} {G0 G3 : Nat → List Value} {G7 : Nat → List Bk7.E3} {w w' : World} (h : MB N C m0 m3 m7 V0 V3 V7 h0 h3 h7 G0 G3 G7 w) (hb : Below w.heap.size w w') : MB N C m0 m3 m7 V0 V3 V7 h0 h3 h7 G0 G3 G7 w' := ⟨h.b0.below hb, h.b3.below hb, h.b7.below hb, h.x03, h.x07, h.x37⟩
/-- a book, where its blocks are as they were. -/
theorem MB.keep {N C m0 m3 m7 : Nat} {V0 V3 V7 : Nat → Value} {h0 h3 h7 : Value} {G0 G3 : Nat → List Value} {G7 : Nat → List Bk7.E3} {w w' : World} (h : MB N C m0 m3 m7 V0 V3 V7 h0 h3 h7 G0 G3 G7 w) (sz : w.heap.size ≤ w'.heap.size) (kN : w'.heap[N]? = w.heap[N]?) (k0 : ∀ q, own h0 V0 m0 q → w'.heap[q]? = w.heap[q]?) (k3 : ∀ q, own h3 V3 m3 q → w'.heap[q]? = w.heap[q]?) (k7 : ∀ q, own h7 V7 m7 q → w'.heap[q]? = w.heap[q]?) : MB N C m0 m3 m7 V0 V3 V7 h0 h3 h7 G0 G3 G7 w' := by
  have cc : ∀ j, w'.cell? ⟨N, j, none⟩ = w.cell? ⟨N, j, none⟩ := fun j => World.cell?_of_block (w := w) (a := ⟨N, j, none⟩) kN
  have zz : ∀ j, w'.frozen? ⟨N, j, none⟩ = false := fun j => by rw [World.frozen?_of_block (w := w) (a := ⟨N, j, none⟩) kN]; exact h.b0.fz j
  exact ⟨move0 h.b0 sz (by rw [cc]; exact h.b0.st.cF) (fun j hj hn => by rw [cc]; exact h.b0.nil j hj hn) zz k0, move3 h.b3 sz (by rw [cc]; exact h.b3.st.cF) (fun j hj hn => by rw [cc]; exact h.b3.nil j hj hn) zz k3, move7 h.b7 sz (by rw [cc]; exact h.b7.st.cF) (fun j hj hn => by rw [cc]; exact h.b7.nil j hj hn) zz k7, h.x03, h.x07, h.x37⟩
theorem MB.start (w : World) : MB w.heap.size (w.heap.size + 1) 0 0 0 (fun _ => undef) (fun _ => undef) (fun _ => undef) (.slice none 0 0) (.slice none 0 0) (.slice none 0 0) (fun _ => []) (fun _ => []) (fun _ => []) (w.alloc (.cells (Array.replicate 28 (.slice none 0 0)) 52)) := by
  have e0 : O0 (.slice none 0 0) (.slice none 0 0) = fun _ => .slice none 0 0 := by funext j; simp [O0]
  have e3 : O3 (.slice none 0 0) (.slice none 0 0) = fun _ => .slice none 0 0 := by funext j; simp [O3]
  have e7 : O7 (.slice none 0 0) (.slice none 0 0) = fun _ => .slice none 0 0 := by funext j; simp [O7]
  have no : ∀ q, ¬ own (.slice none 0 0) (fun _ => undef) 0 q := fun q e => by
    rcases e with e | ⟨j, hj, _⟩
    · simp [Value.ownBlock] at e
    · omega
  exact ⟨by rw [e0]; exact Bk0.BK.start w, by rw [e3]; exact Bk3.BK.start w, by rw [e7]; exact Bk7.BK.start w, fun q e => absurd e (no q), fun q e => absurd e (no q), fun q e => absurd e (no q)⟩
/-- a block that is no one's. -/
def free (N C m0 m3 m7 : Nat) (V0 V3 V7 : Nat → Value) (h0 h3 h7 : Value) (q : Nat) : Prop := C ≤ q ∧ ¬ own h0 V0 m0 q ∧ ¬ own h3 V3 m3 q ∧ ¬ own h7 V7 m7 q
theorem MB.fresh {N C m0 m3 m7 : Nat} {V0 V3 V7 : Nat → Value} {h0 h3 h7 : Value} {G0 G3 : Nat → List Value} {G7 : Nat → List Bk7.E3} {w : World} (h : MB N C m0 m3 m7 V0 V3 V7 h0 h3 h7 G0 G3 G7 w) {q : Nat} (hq : w.heap.size ≤ q) : free N C m0 m3 m7 V0 V3 V7 h0 h3 h7 q := ⟨by have := h.b0.sp.cw; omega, fun e => by have := (lt0 h.b0 e).2; omega, fun e => by have := (lt3 h.b3 e).2; omega, fun e => by have := (lt7 h.b7 e).2; omega⟩
set_option maxHeartbeats 4000000 in
theorem ftake0 {O : Nat → Value} {N C m : Nat} {V : Nat → Value} {hv : Value} {G : Nat → List (Value)} {w : World} {B : Nat} {v : Value} {l : List (Value)} (h0 : Bk0.BK O N C m V hv G w) (o0 : Bk0.OE w B v l) (hB : ∀ k, v.ownBlock = some k → C ≤ k ∧ hv.ownBlock ≠ some k ∧ ∀ j, j < m → (V j).ownBlock ≠ some k) (hm : m ≤ 4194304) :
    Calls Tryd.prog 9 #[.pointer (some ⟨N, 0, none⟩), v] w fun e w' => e = .returned undef ∧ ∃ hv', Bk0.BK O N C (m + 1) (fun j => if j = m then v else V j) hv' (fun j => if j = m then l else G j) w' ∧ Below N w w' ∧ Bk0.FRB N w hv hv' w' := by
  obtain ⟨hv', w', hr, cF', z12', bk, bb, fb⟩ := h0.take o0 hB hm
  have cF := h0.st.cF
  obtain ⟨ah, ch, e1, _⟩ := h0.st.hr.form
  obtain ⟨av, cv, e2, _⟩ := o0.formO
  have hrH : Hid (∀ W, W = w.alloc (.cells #[v] 60) → (Builtin.append_ #[23, 23] 23 #[hv, .slice (some ⟨w.heap.size, 0, none⟩) 1 1]).run Tryd.prog W = .ok hv' w') := fun W e => by subst e; exact hr
  obtain ⟨ah2, ch2, e3, _⟩ := bk.st.hr.form
  have fin : Hid (∃ hv', Bk0.BK O N C (m + 1) (fun j => if j = m then v else V j) hv' (fun j => if j = m then l else G j) (w'.setCell ⟨N, 0, none⟩ (.slice ah2 (m + 1) ch2)) ∧ Below N w (w'.setCell ⟨N, 0, none⟩ (.slice ah2 (m + 1) ch2)) ∧ Bk0.FRB N w hv hv' (w'.setCell ⟨N, 0, none⟩ (.slice ah2 (m + 1) ch2))) := ⟨hv', by rw [← e3]; exact bk, by rw [← e3]; exact bb, by rw [← e3]; exact fb⟩
  subst e1 e3
  generalize l.length = nl at *
  subst e2
  clear h0 o0 hB hr bk bb fb
  go_enter Tryd.func9, Tryd.ntmps9
  go_wp2_with (at_builtin; refine Bk0.wpList_append_runB (by rfl) _ _ _ (by rfl) _ _ _ _ (by rfl) (by rfl) (hrH.out _ rfl) ?_)
  simp [bodyPost, results, Tryd.results9, go_sem]
  obtain ⟨x, f1, f2⟩ := fin.out
  exact ⟨rfl, x, f1, f2⟩
set_option maxHeartbeats 4000000 in
theorem ftake3 {O : Nat → Value} {N C m : Nat} {V : Nat → Value} {hv : Value} {G : Nat → List (Value)} {w : World} {B : Nat} {v : Value} {l : List (Value)} (h0 : Bk3.BK O N C m V hv G w) (o0 : Bk3.OE w B v l) (hB : ∀ k, v.ownBlock = some k → C ≤ k ∧ hv.ownBlock ≠ some k ∧ ∀ j, j < m → (V j).ownBlock ≠ some k) (hm : m ≤ 4194304) :
    Calls Tryd.prog 10 #[.pointer (some ⟨N, 0, none⟩), v] w fun e w' => e = .returned undef ∧ ∃ hv', Bk3.BK O N C (m + 1) (fun j => if j = m then v else V j) hv' (fun j => if j = m then l else G j) w' ∧ Below N w w' ∧ Bk3.FRB N w hv hv' w' := by
  obtain ⟨hv', w', hr, cF', z12', bk, bb, fb⟩ := h0.take o0 hB hm
  have cF := h0.st.cF
  obtain ⟨ah, ch, e1, _⟩ := h0.st.hr.form
  obtain ⟨av, cv, e2, _⟩ := o0.formO
  have hrH : Hid (∀ W, W = w.alloc (.cells #[v] 53) → (Builtin.append_ #[26, 26] 26 #[hv, .slice (some ⟨w.heap.size, 0, none⟩) 1 1]).run Tryd.prog W = .ok hv' w') := fun W e => by subst e; exact hr
  obtain ⟨ah2, ch2, e3, _⟩ := bk.st.hr.form
  have fin : Hid (∃ hv', Bk3.BK O N C (m + 1) (fun j => if j = m then v else V j) hv' (fun j => if j = m then l else G j) (w'.setCell ⟨N, 3, none⟩ (.slice ah2 (m + 1) ch2)) ∧ Below N w (w'.setCell ⟨N, 3, none⟩ (.slice ah2 (m + 1) ch2)) ∧ Bk3.FRB N w hv hv' (w'.setCell ⟨N, 3, none⟩ (.slice ah2 (m + 1) ch2))) := ⟨hv', by rw [← e3]; exact bk, by rw [← e3]; exact bb, by rw [← e3]; exact fb⟩
  subst e1 e3
  generalize l.length = nl at *
  subst e2
  clear h0 o0 hB hr bk bb fb
  go_enter Tryd.func10, Tryd.ntmps10
  go_wp2_with (at_builtin; refine Bk3.wpList_append_runB (by rfl) _ _ _ (by rfl) _ _ _ _ (by rfl) (by rfl) (hrH.out _ rfl) ?_)
  simp [bodyPost, results, Tryd.results10, go_sem]
  obtain ⟨x, f1, f2⟩ := fin.out
  exact ⟨rfl, x, f1, f2⟩
set_option maxHeartbeats 4000000 in
theorem ftake7 {O : Nat → Value} {N C m : Nat} {V : Nat → Value} {hv : Value} {G : Nat → List (Bk7.E3)} {w : World} {B : Nat} {v : Value} {l : List (Bk7.E3)} (h0 : Bk7.BK O N C m V hv G w) (o0 : Bk7.OE w B v l) (hB : ∀ k, v.ownBlock = some k → C ≤ k ∧ hv.ownBlock ≠ some k ∧ ∀ j, j < m → (V j).ownBlock ≠ some k) (hm : m ≤ 4194304) :
    Calls Tryd.prog 11 #[.pointer (some ⟨N, 0, none⟩), v] w fun e w' => e = .returned undef ∧ ∃ hv', Bk7.BK O N C (m + 1) (fun j => if j = m then v else V j) hv' (fun j => if j = m then l else G j) w' ∧ Below N w w' ∧ Bk7.FRB N w hv hv' w' := by
  obtain ⟨hv', w', hr, cF', z12', bk, bb, fb⟩ := h0.take o0 hB hm
  have cF := h0.st.cF
  obtain ⟨ah, ch, e1, _⟩ := h0.st.hr.form
  obtain ⟨av, cv, e2, _⟩ := o0.formO
  have hrH : Hid (∀ W, W = w.alloc (.cells #[v] 22) → (Builtin.append_ #[30, 30] 30 #[hv, .slice (some ⟨w.heap.size, 0, none⟩) 1 1]).run Tryd.prog W = .ok hv' w') := fun W e => by subst e; exact hr
  obtain ⟨ah2, ch2, e3, _⟩ := bk.st.hr.form
  have fin : Hid (∃ hv', Bk7.BK O N C (m + 1) (fun j => if j = m then v else V j) hv' (fun j => if j = m then l else G j) (w'.setCell ⟨N, 7, none⟩ (.slice ah2 (m + 1) ch2)) ∧ Below N w (w'.setCell ⟨N, 7, none⟩ (.slice ah2 (m + 1) ch2)) ∧ Bk7.FRB N w hv hv' (w'.setCell ⟨N, 7, none⟩ (.slice ah2 (m + 1) ch2))) := ⟨hv', by rw [← e3]; exact bk, by rw [← e3]; exact bb, by rw [← e3]; exact fb⟩
  subst e1 e3
  generalize l.length = nl at *
  subst e2
  clear h0 o0 hB hr bk bb fb
  go_enter Tryd.func11, Tryd.ntmps11
  go_wp2_with (at_builtin; refine Bk7.wpList_append_runB (by rfl) _ _ _ (by rfl) _ _ _ _ (by rfl) (by rfl) (hrH.out _ rfl) ?_)
  simp [bodyPost, results, Tryd.results11, go_sem]
  obtain ⟨x, f1, f2⟩ := fin.out
  exact ⟨rfl, x, f1, f2⟩
theorem MB.take0 {N C m0 m3 m7 : Nat} {V0 V3 V7 : Nat → Value} {h0 h3 h7 : Value} {G0 G3 : Nat → List Value} {G7 : Nat → List Bk7.E3} {w : World} {B : Nat} {v : Value} {l : List (Value)} (h : MB N C m0 m3 m7 V0 V3 V7 h0 h3 h7 G0 G3 G7 w) (o : Bk0.OE w B v l) (hf : ∀ q, v.ownBlock = some q → free N C m0 m3 m7 V0 V3 V7 h0 h3 h7 q) (hm : m0 ≤ 4194304) :
    Calls Tryd.prog 9 #[.pointer (some ⟨N, 0, none⟩), v] w fun e w' => e = .returned undef ∧ ∃ h', MB N C (m0 + 1) m3 m7 (fun j => if j = m0 then v else V0 j) V3 V7 h' h3 h7 (fun j => if j = m0 then l else G0 j) G3 G7 w' ∧ Below N w w' ∧ Bk0.FRB N w h0 h' w' := by
  have fo : ∀ {q}, own h0 V0 m0 q → free N C m0 m3 m7 V0 V3 V7 h0 h3 h7 q → False := fun {q} e g => g.2.1 e
  refine (ftake0 h.b0 o (fun q e => ⟨(hf q e).1, fun c => fo (Or.inl c) (hf q e), fun j hj c => fo (Or.inr ⟨j, hj, c⟩) (hf q e)⟩) hm).mono fun e w' ⟨e1, h', bk, bN, fb⟩ => ⟨e1, h', ?_, bN, fb⟩
  have nN : ∀ {q}, C ≤ q → q ≠ N := fun {q} hq => by have := h.b0.sp.nC; omega
  have kp : ∀ q, C ≤ q → q < w.heap.size → h0.ownBlock ≠ some q → w'.heap[q]? = w.heap[q]? := fun q h1 h2 h3 => fb.2.1 q h2 (nN h1) h3
  have on : ∀ q, own h' (fun j => if j = m0 then v else V0 j) (m0 + 1) q → own h0 V0 m0 q ∨ v.ownBlock = some q ∨ w.heap.size ≤ q := fun q e => by
    rcases e with e | ⟨j, hj, e⟩
    · rcases fb.2.2 q e with c | c
      · exact Or.inl (Or.inl c)
      · exact Or.inr (Or.inr c)
    · by_cases hjm : j = m0
      · simp only [if_pos hjm] at e; exact Or.inr (Or.inl e)
      · simp only [if_neg hjm] at e; exact Or.inl (Or.inr ⟨j, by omega, e⟩)
  have Z : ∀ j, w'.frozen? ⟨N, j, none⟩ = false := bk.fz
  have cellF : w'.cell? ⟨N, 0, none⟩ = some h' := bk.st.cF
  have cellO : ∀ j, j < 28 → j ≠ 0 → w'.cell? ⟨N, j, none⟩ = some (O0 h3 h7 j) := bk.nil
  have B3 : Bk3.BK (O3 h' h7) N C m3 V3 h3 G3 w' := move3 h.b3 fb.1 (by rw [cellO 3 (by omega) (by omega)]; simp [O0]) (fun j hj hn => by
    by_cases c : j = 0
    · subst c; rw [cellF]; simp [O3]
    · rw [cellO j hj c]
      simp only [O0, O3]
      repeat' split
      all_goals first | rfl | omega) Z (fun q e => kp q (lt3 h.b3 e).1 (lt3 h.b3 e).2 (fun c => h.x03 q (Or.inl c) e))
  have B7 : Bk7.BK (O7 h' h3) N C m7 V7 h7 G7 w' := move7 h.b7 fb.1 (by rw [cellO 7 (by omega) (by omega)]; simp [O0]) (fun j hj hn => by
    by_cases c : j = 0
    · subst c; rw [cellF]; simp [O7]
    · rw [cellO j hj c]
      simp only [O0, O7]
      repeat' split
      all_goals first | rfl | omega) Z (fun q e => kp q (lt7 h.b7 e).1 (lt7 h.b7 e).2 (fun c => h.x07 q (Or.inl c) e))
  exact ⟨bk, B3, B7, (fun q e e2 => by rcases on q e with c | c | c; exact h.x03 q c e2; exact (hf q c).2.2.1 e2; have := (lt3 h.b3 e2).2; omega), (fun q e e2 => by rcases on q e with c | c | c; exact h.x07 q c e2; exact (hf q c).2.2.2 e2; have := (lt7 h.b7 e2).2; omega), (h.x37)⟩
theorem MB.take3 {N C m0 m3 m7 : Nat} {V0 V3 V7 : Nat → Value} {h0 h3 h7 : Value} {G0 G3 : Nat → List Value} {G7 : Nat → List Bk7.E3} {w : World} {B : Nat} {v : Value} {l : List (Value)} (h : MB N C m0 m3 m7 V0 V3 V7 h0 h3 h7 G0 G3 G7 w) (o : Bk3.OE w B v l) (hf : ∀ q, v.ownBlock = some q → free N C m0 m3 m7 V0 V3 V7 h0 h3 h7 q) (hm : m3 ≤ 4194304) :
    Calls Tryd.prog 10 #[.pointer (some ⟨N, 0, none⟩), v] w fun e w' => e = .returned undef ∧ ∃ h', MB N C m0 (m3 + 1) m7 V0 (fun j => if j = m3 then v else V3 j) V7 h0 h' h7 G0 (fun j => if j = m3 then l else G3 j) G7 w' ∧ Below N w w' ∧ Bk3.FRB N w h3 h' w' := by
  have fo : ∀ {q}, own h3 V3 m3 q → free N C m0 m3 m7 V0 V3 V7 h0 h3 h7 q → False := fun {q} e g => g.2.2.1 e
  refine (ftake3 h.b3 o (fun q e => ⟨(hf q e).1, fun c => fo (Or.inl c) (hf q e), fun j hj c => fo (Or.inr ⟨j, hj, c⟩) (hf q e)⟩) hm).mono fun e w' ⟨e1, h', bk, bN, fb⟩ => ⟨e1, h', ?_, bN, fb⟩
  have nN : ∀ {q}, C ≤ q → q ≠ N := fun {q} hq => by have := h.b0.sp.nC; omega
  have kp : ∀ q, C ≤ q → q < w.heap.size → h3.ownBlock ≠ some q → w'.heap[q]? = w.heap[q]? := fun q h1 h2 h3 => fb.2.1 q h2 (nN h1) h3
  have on : ∀ q, own h' (fun j => if j = m3 then v else V3 j) (m3 + 1) q → own h3 V3 m3 q ∨ v.ownBlock = some q ∨ w.heap.size ≤ q := fun q e => by
    rcases e with e | ⟨j, hj, e⟩
    · rcases fb.2.2 q e with c | c
      · exact Or.inl (Or.inl c)
      · exact Or.inr (Or.inr c)
    · by_cases hjm : j = m3
      · simp only [if_pos hjm] at e; exact Or.inr (Or.inl e)
      · simp only [if_neg hjm] at e; exact Or.inl (Or.inr ⟨j, by omega, e⟩)
  have Z : ∀ j, w'.frozen? ⟨N, j, none⟩ = false := bk.fz
  have cellF : w'.cell? ⟨N, 3, none⟩ = some h' := bk.st.cF
  have cellO : ∀ j, j < 28 → j ≠ 3 → w'.cell? ⟨N, j, none⟩ = some (O3 h0 h7 j) := bk.nil
  have B0 : Bk0.BK (O0 h' h7) N C m0 V0 h0 G0 w' := move0 h.b0 fb.1 (by rw [cellO 0 (by omega) (by omega)]; simp [O3]) (fun j hj hn => by
    by_cases c : j = 3
    · subst c; rw [cellF]; simp [O0]
    · rw [cellO j hj c]
      simp only [O3, O0]
      repeat' split
      all_goals first | rfl | omega) Z (fun q e => kp q (lt0 h.b0 e).1 (lt0 h.b0 e).2 (fun c => h.x03 q e (Or.inl c)))
  have B7 : Bk7.BK (O7 h0 h') N C m7 V7 h7 G7 w' := move7 h.b7 fb.1 (by rw [cellO 7 (by omega) (by omega)]; simp [O3]) (fun j hj hn => by
    by_cases c : j = 3
    · subst c; rw [cellF]; simp [O7]
    · rw [cellO j hj c]
      simp only [O3, O7]
      repeat' split
      all_goals first | rfl | omega) Z (fun q e => kp q (lt7 h.b7 e).1 (lt7 h.b7 e).2 (fun c => h.x37 q (Or.inl c) e))
  exact ⟨B0, bk, B7, (fun q e e2 => by rcases on q e2 with c | c | c; exact h.x03 q e c; exact (hf q c).2.1 e; have := (lt0 h.b0 e).2; omega), (h.x07), (fun q e e2 => by rcases on q e with c | c | c; exact h.x37 q c e2; exact (hf q c).2.2.2 e2; have := (lt7 h.b7 e2).2; omega)⟩
theorem MB.take7 {N C m0 m3 m7 : Nat} {V0 V3 V7 : Nat → Value} {h0 h3 h7 : Value} {G0 G3 : Nat → List Value} {G7 : Nat → List Bk7.E3} {w : World} {B : Nat} {v : Value} {l : List (Bk7.E3)} (h : MB N C m0 m3 m7 V0 V3 V7 h0 h3 h7 G0 G3 G7 w) (o : Bk7.OE w B v l) (hf : ∀ q, v.ownBlock = some q → free N C m0 m3 m7 V0 V3 V7 h0 h3 h7 q) (hm : m7 ≤ 4194304) :
    Calls Tryd.prog 11 #[.pointer (some ⟨N, 0, none⟩), v] w fun e w' => e = .returned undef ∧ ∃ h', MB N C m0 m3 (m7 + 1) V0 V3 (fun j => if j = m7 then v else V7 j) h0 h3 h' G0 G3 (fun j => if j = m7 then l else G7 j) w' ∧ Below N w w' ∧ Bk7.FRB N w h7 h' w' := by
  have fo : ∀ {q}, own h7 V7 m7 q → free N C m0 m3 m7 V0 V3 V7 h0 h3 h7 q → False := fun {q} e g => g.2.2.2 e
  refine (ftake7 h.b7 o (fun q e => ⟨(hf q e).1, fun c => fo (Or.inl c) (hf q e), fun j hj c => fo (Or.inr ⟨j, hj, c⟩) (hf q e)⟩) hm).mono fun e w' ⟨e1, h', bk, bN, fb⟩ => ⟨e1, h', ?_, bN, fb⟩
  have nN : ∀ {q}, C ≤ q → q ≠ N := fun {q} hq => by have := h.b0.sp.nC; omega
  have kp : ∀ q, C ≤ q → q < w.heap.size → h7.ownBlock ≠ some q → w'.heap[q]? = w.heap[q]? := fun q h1 h2 h3 => fb.2.1 q h2 (nN h1) h3
  have on : ∀ q, own h' (fun j => if j = m7 then v else V7 j) (m7 + 1) q → own h7 V7 m7 q ∨ v.ownBlock = some q ∨ w.heap.size ≤ q := fun q e => by
    rcases e with e | ⟨j, hj, e⟩
    · rcases fb.2.2 q e with c | c
      · exact Or.inl (Or.inl c)
      · exact Or.inr (Or.inr c)
    · by_cases hjm : j = m7
      · simp only [if_pos hjm] at e; exact Or.inr (Or.inl e)
      · simp only [if_neg hjm] at e; exact Or.inl (Or.inr ⟨j, by omega, e⟩)
  have Z : ∀ j, w'.frozen? ⟨N, j, none⟩ = false := bk.fz
  have cellF : w'.cell? ⟨N, 7, none⟩ = some h' := bk.st.cF
  have cellO : ∀ j, j < 28 → j ≠ 7 → w'.cell? ⟨N, j, none⟩ = some (O7 h0 h3 j) := bk.nil
  have B0 : Bk0.BK (O0 h3 h') N C m0 V0 h0 G0 w' := move0 h.b0 fb.1 (by rw [cellO 0 (by omega) (by omega)]; simp [O7]) (fun j hj hn => by
    by_cases c : j = 7
    · subst c; rw [cellF]; simp [O0]
    · rw [cellO j hj c]
      simp only [O7, O0]
      repeat' split
      all_goals first | rfl | omega) Z (fun q e => kp q (lt0 h.b0 e).1 (lt0 h.b0 e).2 (fun c => h.x07 q e (Or.inl c)))
  have B3 : Bk3.BK (O3 h0 h') N C m3 V3 h3 G3 w' := move3 h.b3 fb.1 (by rw [cellO 3 (by omega) (by omega)]; simp [O7]) (fun j hj hn => by
    by_cases c : j = 7
    · subst c; rw [cellF]; simp [O3]
    · rw [cellO j hj c]
      simp only [O7, O3]
      repeat' split
      all_goals first | rfl | omega) Z (fun q e => kp q (lt3 h.b3 e).1 (lt3 h.b3 e).2 (fun c => h.x37 q e (Or.inl c)))
  exact ⟨B0, B3, bk, (h.x03), (fun q e e2 => by rcases on q e2 with c | c | c; exact h.x07 q e c; exact (hf q c).2.1 e; have := (lt0 h.b0 e).2; omega), (fun q e e2 => by rcases on q e2 with c | c | c; exact h.x37 q e c; exact (hf q c).2.2.1 e; have := (lt3 h.b3 e).2; omega)⟩
/-- what is left as it was. -/
structure FM (P : Nat → Prop) (w W : World) : Prop where
  size : w.heap.size ≤ W.heap.size
  keep : ∀ k, k < w.heap.size → ¬ P k → W.heap[k]? = w.heap[k]?
  same : W.os = w.os ∧ W.tape = w.tape ∧ W.output = w.output
theorem FM.below {P : Nat → Prop} {w W W' : World} (h : FM P w W) (b : Below W.heap.size W W') : FM P w W' := ⟨Nat.le_trans h.size b.size, fun k hk q => by rw [b.block k (Nat.lt_of_lt_of_le hk h.size)]; exact h.keep k hk q, b.os.trans h.same.1, b.tape.trans h.same.2.1, b.output.trans h.same.2.2⟩
def PV (V : Nat → Value) (m q : Nat) : Prop := ∃ j, j < m ∧ (V j).ownBlock = some q
theorem FM.more {P Q : Nat → Prop} {w W W' : World} (h : FM P w W) (s : W.heap.size ≤ W'.heap.size) (k : ∀ q, q < W.heap.size → ¬ Q q → W'.heap[q]? = W.heap[q]?) (e : W'.os = W.os ∧ W'.tape = W.tape ∧ W'.output = W.output) : FM (fun q => P q ∨ Q q) w W' := ⟨Nat.le_trans h.size s, fun q hq hn => by rw [k q (Nat.lt_of_lt_of_le hq h.size) (fun c => hn (Or.inr c))]; exact h.keep q hq (fun c => hn (Or.inl c)), e.1.trans h.same.1, e.2.1.trans h.same.2.1, e.2.2.trans h.same.2.2⟩
theorem FM.refl (w : World) : FM (fun _ => False) w w := ⟨Nat.le_refl _, fun _ _ _ => rfl, rfl, rfl, rfl⟩
theorem setCells_grown (N : Nat) (W : World) : ∀ (vs : List Value) (o : Nat), W.grownBy (W.setCells N o vs) (some N)
  | [], o => ⟨rfl, rfl, rfl, Nat.le_refl _, fun _ _ _ => rfl⟩
  | v :: r, o => by
    have h := setCells_grown N (W.setCell ⟨N, o, none⟩ v) r (o + 1)
    have g : W.grownBy (W.setCell ⟨N, o, none⟩ v) (some N) := ⟨rfl, rfl, rfl, by simp, fun k hk q => Below.heap_setCell _ _ _ _ (fun e => q (by rw [e]))⟩
    exact ⟨h.os.trans g.os, h.tape.trans g.tape, h.output.trans g.output, Nat.le_trans g.size h.size, fun k hk q => by rw [show (W.setCells N o (v :: r)) = (W.setCell ⟨N, o, none⟩ v).setCells N (o + 1) r from rfl, h.block k (Nat.lt_of_lt_of_le hk g.size) q]; exact g.block k hk q⟩
theorem wpList_store_run {P : Program} {ops : Array Oper} {rest : List Oper} {o : Oper} {a : Act} {Q : Exit → Act → World → Prop} {w : World} (hgd : o.guard = none) (p x : Operand) (t : TypeId)
    (ho : o.op = .store t p x) (v y : Value) (w' : World) (hs : a.eval p = v) (hx : a.eval x = y) (hr : (Instr.storeAt t v y).run P w = .ok () w')
    (h : wpList P ops Q rest (a.put o.dst undef) w') : wpList P ops Q (o :: rest) a w := by
  refine wpList_plain hgd fun K hK => ?_
  unfold Oper.wp execOp
  simp only [ho, Sem.run_bind, Sem.run_pure, Result.andThen_ok, hs, hx, hr]
  exact hK _ _ h
theorem store_book (N : Nat) (W : World) (hc : ∀ j, j < 28 → (W.cell? ⟨N, j, none⟩).isSome = true) (hz : ∀ j, W.frozen? ⟨N, j, none⟩ = false) : (Instr.storeAt 52 (.pointer (some ⟨N, 0, none⟩)) (.agg (Array.replicate 28 (.slice none 0 0)))).run Tryd.prog W = .ok () (W.setCells N 0 (List.replicate 28 (.slice none 0 0))) := by
  have h := run_storeCells_cells (P := Tryd.prog) N 0 (List.replicate 28 (.slice none 0 0)) 0 W (fun j hj => by rw [List.length_replicate] at hj; first | exact hc j hj | (simpa using hc j hj)) (fun j hj => hz _) (fun v hv => by rw [List.eq_of_mem_replicate hv]; rfl)
  have e : (Value.agg (Array.replicate 28 (Value.slice none 0 0))).cells.toList = List.replicate 28 (.slice none 0 0) := rfl
  have s : (Value.agg (Array.replicate 28 (Value.slice none 0 0))).cells.size = 28 := rfl
  unfold Instr.storeAt storeVar
  simp only [Sem.run_bind, e, s, Tryd.sizeOf52, Result.andThen_ok]
  rw [show (Instr.sureAddr (.pointer (some ⟨N, 0, none⟩))).run Tryd.prog W = .ok ⟨N, 0, none⟩ W from rfl]
  simp only [Result.andThen_ok]
  exact h
set_option maxHeartbeats 32000000 in
theorem alone_any {N C m0 m3 m7 : Nat} {V0 V3 V7 : Nat → Value} {h0 h3 h7 : Value} {G0 G3 : Nat → List Value} {G7 : Nat → List Bk7.E3} {w : World} (h : MB N C m0 m3 m7 V0 V3 V7 h0 h3 h7 G0 G3 G7 w) (hm : m0 ≤ 4194304 ∧ m3 ≤ 4194304 ∧ m7 ≤ 4194304) (n0 : ∀ j, j < m0 → (G0 j).length ≤ 268435456) (n3 : ∀ j, j < m3 → (G3 j).length ≤ 268435456) (n7 : ∀ j, j < m7 → (G7 j).length ≤ 268435456) :
    Calls Tryd.prog 13 #[.pointer (some ⟨N, 0, none⟩)] w fun e w' => e = .returned (.bool true) ∧ FM (fun q => (((False ∨ PV V0 m0 q) ∨ PV V3 m3 q) ∨ PV V7 m7 q) ∨ q = N) w w' := by
  have nP : ∀ q, C ≤ q → q ≠ N := fun q hq => by have := h.b0.sp.nC; omega
  have N0 : ¬ PV V0 m0 N := fun ⟨j, hj, e⟩ => nP N (h.b0.sp.vb j hj N e).1 rfl
  have N3 : ¬ PV V3 m3 N := fun ⟨j, hj, e⟩ => nP N (h.b3.sp.vb j hj N e).1 rfl
  have N7 : ¬ PV V7 m7 N := fun ⟨j, hj, e⟩ => nP N (h.b7.sp.vb j hj N e).1 rfl
  have HK : ∀ {P : Nat → Prop} {W}, FM P w W → ¬ P N → W.heap[N]? = w.heap[N]? := fun hW hn => hW.keep N h.b0.sp.nw hn
  have CN : ∀ {P : Nat → Prop} {W}, FM P w W → ¬ P N → ∀ j, W.cell? ⟨N, j, none⟩ = w.cell? ⟨N, j, none⟩ := fun hW hn j => World.cell?_of_block (w := w) (a := ⟨N, j, none⟩) (HK hW hn)
  have ZN : ∀ {P : Nat → Prop} {W}, FM P w W → ¬ P N → ∀ j, W.frozen? ⟨N, j, none⟩ = false := fun hW hn j => by rw [World.frozen?_of_block (w := w) (a := ⟨N, j, none⟩) (HK hW hn)]; exact h.b0.fz j
  have nil : ∀ j, j < 28 → j ≠ 0 → j ≠ 3 → j ≠ 7 → w.cell? ⟨N, j, none⟩ = some (.slice none 0 0) := fun j hj a b c => by rw [h.b0.nil j hj a]; simp [O0, b, c]
  have K0 : Hid (Calls Tryd.prog 38 #[.pointer (some ⟨N, 0, none⟩)] w fun e w' => e = .returned (.bool true) ∧ FM (fun q => False ∨ PV V0 m0 q) w w') := (Bk0.aloneBytes_any h.b0.sp h.b0.st hm.1 n0).mono fun e w' ⟨e1, bf⟩ => ⟨e1, (FM.refl w).more bf.size (fun q hq hn => bf.keep q hq (fun i hi c => hn ⟨i, hi, c⟩)) bf.same⟩
  have K1 : Hid (∀ W, FM (fun q => False ∨ PV V0 m0 q) w W → Calls Tryd.prog 39 #[.pointer (some ⟨N, 0, none⟩)] W fun e w' => e = .returned (.bool true) ∧ FM (fun q => False ∨ PV V0 m0 q) w w') := fun W hW => (aloneTexts_none N W (by rw [CN hW (fun c => c.elim id N0)]; exact nil 1 (by omega) (by omega) (by omega) (by omega))).mono fun e w' hh => ⟨hh.1, hW.below hh.2⟩
  have K2 : Hid (∀ W, FM (fun q => False ∨ PV V0 m0 q) w W → Calls Tryd.prog 40 #[.pointer (some ⟨N, 0, none⟩)] W fun e w' => e = .returned (.bool true) ∧ FM (fun q => False ∨ PV V0 m0 q) w w') := fun W hW => (aloneInts_none N W (by rw [CN hW (fun c => c.elim id N0)]; exact nil 2 (by omega) (by omega) (by omega) (by omega))).mono fun e w' hh => ⟨hh.1, hW.below hh.2⟩
  have K3 : Hid (∀ W, FM (fun q => False ∨ PV V0 m0 q) w W → Calls Tryd.prog 41 #[.pointer (some ⟨N, 0, none⟩)] W fun e w' => e = .returned (.bool true) ∧ FM (fun q => (False ∨ PV V0 m0 q) ∨ PV V3 m3 q) w w') := fun W hW => by
    have b := move3 (O' := O3 h0 h7) h.b3 hW.size (by rw [CN hW (fun c => c.elim id N0)]; exact h.b3.st.cF) (fun j hj hn => by rw [CN hW (fun c => c.elim id N0)]; exact h.b3.nil j hj hn) (ZN hW (fun c => c.elim id N0)) (fun q e => hW.keep q (lt3 h.b3 e).2 (fun c => c.elim id (fun ⟨j, hj, d⟩ => h.x03 q (Or.inr ⟨j, hj, d⟩) e)))
    exact (Bk3.aloneInt64s_any b.sp b.st hm.2.1 n3).mono fun e w' ⟨e1, bf⟩ => ⟨e1, hW.more bf.size (fun q hq hn => bf.keep q hq (fun i hi c => hn ⟨i, hi, c⟩)) bf.same⟩
  have K4 : Hid (∀ W, FM (fun q => (False ∨ PV V0 m0 q) ∨ PV V3 m3 q) w W → Calls Tryd.prog 42 #[.pointer (some ⟨N, 0, none⟩)] W fun e w' => e = .returned (.bool true) ∧ FM (fun q => (False ∨ PV V0 m0 q) ∨ PV V3 m3 q) w w') := fun W hW => (aloneUint64s_none N W (by rw [CN hW (fun c => c.elim (fun c => c.elim id N0) N3)]; exact nil 4 (by omega) (by omega) (by omega) (by omega))).mono fun e w' hh => ⟨hh.1, hW.below hh.2⟩
  have K5 : Hid (∀ W, FM (fun q => (False ∨ PV V0 m0 q) ∨ PV V3 m3 q) w W → Calls Tryd.prog 43 #[.pointer (some ⟨N, 0, none⟩)] W fun e w' => e = .returned (.bool true) ∧ FM (fun q => (False ∨ PV V0 m0 q) ∨ PV V3 m3 q) w w') := fun W hW => (aloneTags_none N W (by rw [CN hW (fun c => c.elim (fun c => c.elim id N0) N3)]; exact nil 5 (by omega) (by omega) (by omega) (by omega))).mono fun e w' hh => ⟨hh.1, hW.below hh.2⟩
  have K6 : Hid (∀ W, FM (fun q => (False ∨ PV V0 m0 q) ∨ PV V3 m3 q) w W → Calls Tryd.prog 44 #[.pointer (some ⟨N, 0, none⟩)] W fun e w' => e = .returned (.bool true) ∧ FM (fun q => (False ∨ PV V0 m0 q) ∨ PV V3 m3 q) w w') := fun W hW => (aloneFields_none N W (by rw [CN hW (fun c => c.elim (fun c => c.elim id N0) N3)]; exact nil 6 (by omega) (by omega) (by omega) (by omega))).mono fun e w' hh => ⟨hh.1, hW.below hh.2⟩
  have K7 : Hid (∀ W, FM (fun q => (False ∨ PV V0 m0 q) ∨ PV V3 m3 q) w W → Calls Tryd.prog 45 #[.pointer (some ⟨N, 0, none⟩)] W fun e w' => e = .returned (.bool true) ∧ FM (fun q => ((False ∨ PV V0 m0 q) ∨ PV V3 m3 q) ∨ PV V7 m7 q) w w') := fun W hW => by
    have b := move7 (O' := O7 h0 h3) h.b7 hW.size (by rw [CN hW (fun c => c.elim (fun c => c.elim id N0) N3)]; exact h.b7.st.cF) (fun j hj hn => by rw [CN hW (fun c => c.elim (fun c => c.elim id N0) N3)]; exact h.b7.nil j hj hn) (ZN hW (fun c => c.elim (fun c => c.elim id N0) N3)) (fun q e => hW.keep q (lt7 h.b7 e).2 (fun c => c.elim (fun c => c.elim id (fun ⟨j, hj, d⟩ => h.x07 q (Or.inr ⟨j, hj, d⟩) e)) (fun ⟨j, hj, d⟩ => h.x37 q (Or.inr ⟨j, hj, d⟩) e)))
    exact (Bk7.aloneSamples_any b.sp b.st hm.2.2 n7).mono fun e w' ⟨e1, bf⟩ => ⟨e1, hW.more bf.size (fun q hq hn => bf.keep q hq (fun i hi c => hn ⟨i, hi, c⟩)) bf.same⟩
  have K8 : Hid (∀ W, FM (fun q => ((False ∨ PV V0 m0 q) ∨ PV V3 m3 q) ∨ PV V7 m7 q) w W → Calls Tryd.prog 46 #[.pointer (some ⟨N, 0, none⟩)] W fun e w' => e = .returned (.bool true) ∧ FM (fun q => ((False ∨ PV V0 m0 q) ∨ PV V3 m3 q) ∨ PV V7 m7 q) w w') := fun W hW => (aloneNodes_none N W (by rw [CN hW (fun c => c.elim (fun c => c.elim (fun c => c.elim id N0) N3) N7)]; exact nil 8 (by omega) (by omega) (by omega) (by omega))).mono fun e w' hh => ⟨hh.1, hW.below hh.2⟩
  have K9 : Hid (∀ W, FM (fun q => ((False ∨ PV V0 m0 q) ∨ PV V3 m3 q) ∨ PV V7 m7 q) w W → Calls Tryd.prog 47 #[.pointer (some ⟨N, 0, none⟩)] W fun e w' => e = .returned (.bool true) ∧ FM (fun q => ((False ∨ PV V0 m0 q) ∨ PV V3 m3 q) ∨ PV V7 m7 q) w w') := fun W hW => (aloneLabels_none N W (by rw [CN hW (fun c => c.elim (fun c => c.elim (fun c => c.elim id N0) N3) N7)]; exact nil 9 (by omega) (by omega) (by omega) (by omega))).mono fun e w' hh => ⟨hh.1, hW.below hh.2⟩
  have K10 : Hid (∀ W, FM (fun q => ((False ∨ PV V0 m0 q) ∨ PV V3 m3 q) ∨ PV V7 m7 q) w W → Calls Tryd.prog 48 #[.pointer (some ⟨N, 0, none⟩)] W fun e w' => e = .returned (.bool true) ∧ FM (fun q => ((False ∨ PV V0 m0 q) ∨ PV V3 m3 q) ∨ PV V7 m7 q) w w') := fun W hW => (aloneAccs_none N W (by rw [CN hW (fun c => c.elim (fun c => c.elim (fun c => c.elim id N0) N3) N7)]; exact nil 10 (by omega) (by omega) (by omega) (by omega))).mono fun e w' hh => ⟨hh.1, hW.below hh.2⟩
  have K11 : Hid (∀ W, FM (fun q => ((False ∨ PV V0 m0 q) ∨ PV V3 m3 q) ∨ PV V7 m7 q) w W → Calls Tryd.prog 49 #[.pointer (some ⟨N, 0, none⟩)] W fun e w' => e = .returned (.bool true) ∧ FM (fun q => ((False ∨ PV V0 m0 q) ∨ PV V3 m3 q) ∨ PV V7 m7 q) w w') := fun W hW => (aloneInses_none N W (by rw [CN hW (fun c => c.elim (fun c => c.elim (fun c => c.elim id N0) N3) N7)]; exact nil 11 (by omega) (by omega) (by omega) (by omega))).mono fun e w' hh => ⟨hh.1, hW.below hh.2⟩
  have K12 : Hid (∀ W, FM (fun q => ((False ∨ PV V0 m0 q) ∨ PV V3 m3 q) ∨ PV V7 m7 q) w W → Calls Tryd.prog 50 #[.pointer (some ⟨N, 0, none⟩)] W fun e w' => e = .returned (.bool true) ∧ FM (fun q => ((False ∨ PV V0 m0 q) ∨ PV V3 m3 q) ∨ PV V7 m7 q) w w') := fun W hW => (aloneEntries_none N W (by rw [CN hW (fun c => c.elim (fun c => c.elim (fun c => c.elim id N0) N3) N7)]; exact nil 12 (by omega) (by omega) (by omega) (by omega))).mono fun e w' hh => ⟨hh.1, hW.below hh.2⟩
  have K13 : Hid (∀ W, FM (fun q => ((False ∨ PV V0 m0 q) ∨ PV V3 m3 q) ∨ PV V7 m7 q) w W → Calls Tryd.prog 51 #[.pointer (some ⟨N, 0, none⟩)] W fun e w' => e = .returned (.bool true) ∧ FM (fun q => ((False ∨ PV V0 m0 q) ∨ PV V3 m3 q) ∨ PV V7 m7 q) w w') := fun W hW => (aloneTold_none N W (by rw [CN hW (fun c => c.elim (fun c => c.elim (fun c => c.elim id N0) N3) N7)]; exact nil 13 (by omega) (by omega) (by omega) (by omega))).mono fun e w' hh => ⟨hh.1, hW.below hh.2⟩
  have K14 : Hid (∀ W, FM (fun q => ((False ∨ PV V0 m0 q) ∨ PV V3 m3 q) ∨ PV V7 m7 q) w W → Calls Tryd.prog 52 #[.pointer (some ⟨N, 0, none⟩)] W fun e w' => e = .returned (.bool true) ∧ FM (fun q => ((False ∨ PV V0 m0 q) ∨ PV V3 m3 q) ∨ PV V7 m7 q) w w') := fun W hW => (aloneTokens_none N W (by rw [CN hW (fun c => c.elim (fun c => c.elim (fun c => c.elim id N0) N3) N7)]; exact nil 14 (by omega) (by omega) (by omega) (by omega))).mono fun e w' hh => ⟨hh.1, hW.below hh.2⟩
  have K15 : Hid (∀ W, FM (fun q => ((False ∨ PV V0 m0 q) ∨ PV V3 m3 q) ∨ PV V7 m7 q) w W → Calls Tryd.prog 53 #[.pointer (some ⟨N, 0, none⟩)] W fun e w' => e = .returned (.bool true) ∧ FM (fun q => ((False ∨ PV V0 m0 q) ∨ PV V3 m3 q) ∨ PV V7 m7 q) w w') := fun W hW => (aloneSlots_none N W (by rw [CN hW (fun c => c.elim (fun c => c.elim (fun c => c.elim id N0) N3) N7)]; exact nil 15 (by omega) (by omega) (by omega) (by omega))).mono fun e w' hh => ⟨hh.1, hW.below hh.2⟩
  have K16 : Hid (∀ W, FM (fun q => ((False ∨ PV V0 m0 q) ∨ PV V3 m3 q) ∨ PV V7 m7 q) w W → Calls Tryd.prog 54 #[.pointer (some ⟨N, 0, none⟩)] W fun e w' => e = .returned (.bool true) ∧ FM (fun q => ((False ∨ PV V0 m0 q) ∨ PV V3 m3 q) ∨ PV V7 m7 q) w w') := fun W hW => (aloneFates_none N W (by rw [CN hW (fun c => c.elim (fun c => c.elim (fun c => c.elim id N0) N3) N7)]; exact nil 16 (by omega) (by omega) (by omega) (by omega))).mono fun e w' hh => ⟨hh.1, hW.below hh.2⟩
  have K17 : Hid (∀ W, FM (fun q => ((False ∨ PV V0 m0 q) ∨ PV V3 m3 q) ∨ PV V7 m7 q) w W → Calls Tryd.prog 55 #[.pointer (some ⟨N, 0, none⟩)] W fun e w' => e = .returned (.bool true) ∧ FM (fun q => ((False ∨ PV V0 m0 q) ∨ PV V3 m3 q) ∨ PV V7 m7 q) w w') := fun W hW => (alonePoints_none N W (by rw [CN hW (fun c => c.elim (fun c => c.elim (fun c => c.elim id N0) N3) N7)]; exact nil 17 (by omega) (by omega) (by omega) (by omega))).mono fun e w' hh => ⟨hh.1, hW.below hh.2⟩
  have K18 : Hid (∀ W, FM (fun q => ((False ∨ PV V0 m0 q) ∨ PV V3 m3 q) ∨ PV V7 m7 q) w W → Calls Tryd.prog 56 #[.pointer (some ⟨N, 0, none⟩)] W fun e w' => e = .returned (.bool true) ∧ FM (fun q => ((False ∨ PV V0 m0 q) ∨ PV V3 m3 q) ∨ PV V7 m7 q) w w') := fun W hW => (aloneWrites_none N W (by rw [CN hW (fun c => c.elim (fun c => c.elim (fun c => c.elim id N0) N3) N7)]; exact nil 18 (by omega) (by omega) (by omega) (by omega))).mono fun e w' hh => ⟨hh.1, hW.below hh.2⟩
  have K19 : Hid (∀ W, FM (fun q => ((False ∨ PV V0 m0 q) ∨ PV V3 m3 q) ∨ PV V7 m7 q) w W → Calls Tryd.prog 57 #[.pointer (some ⟨N, 0, none⟩)] W fun e w' => e = .returned (.bool true) ∧ FM (fun q => ((False ∨ PV V0 m0 q) ∨ PV V3 m3 q) ∨ PV V7 m7 q) w w') := fun W hW => (aloneDeltas_none N W (by rw [CN hW (fun c => c.elim (fun c => c.elim (fun c => c.elim id N0) N3) N7)]; exact nil 19 (by omega) (by omega) (by omega) (by omega))).mono fun e w' hh => ⟨hh.1, hW.below hh.2⟩
  have K20 : Hid (∀ W, FM (fun q => ((False ∨ PV V0 m0 q) ∨ PV V3 m3 q) ∨ PV V7 m7 q) w W → Calls Tryd.prog 58 #[.pointer (some ⟨N, 0, none⟩)] W fun e w' => e = .returned (.bool true) ∧ FM (fun q => ((False ∨ PV V0 m0 q) ∨ PV V3 m3 q) ∨ PV V7 m7 q) w w') := fun W hW => (aloneSeriesList_none N W (by rw [CN hW (fun c => c.elim (fun c => c.elim (fun c => c.elim id N0) N3) N7)]; exact nil 20 (by omega) (by omega) (by omega) (by omega))).mono fun e w' hh => ⟨hh.1, hW.below hh.2⟩
  have K21 : Hid (∀ W, FM (fun q => ((False ∨ PV V0 m0 q) ∨ PV V3 m3 q) ∨ PV V7 m7 q) w W → Calls Tryd.prog 59 #[.pointer (some ⟨N, 0, none⟩)] W fun e w' => e = .returned (.bool true) ∧ FM (fun q => ((False ∨ PV V0 m0 q) ∨ PV V3 m3 q) ∨ PV V7 m7 q) w w') := fun W hW => (aloneItems_none N W (by rw [CN hW (fun c => c.elim (fun c => c.elim (fun c => c.elim id N0) N3) N7)]; exact nil 21 (by omega) (by omega) (by omega) (by omega))).mono fun e w' hh => ⟨hh.1, hW.below hh.2⟩
  have K22 : Hid (∀ W, FM (fun q => ((False ∨ PV V0 m0 q) ∨ PV V3 m3 q) ∨ PV V7 m7 q) w W → Calls Tryd.prog 60 #[.pointer (some ⟨N, 0, none⟩)] W fun e w' => e = .returned (.bool true) ∧ FM (fun q => ((False ∨ PV V0 m0 q) ∨ PV V3 m3 q) ∨ PV V7 m7 q) w w') := fun W hW => (aloneTables_none N W (by rw [CN hW (fun c => c.elim (fun c => c.elim (fun c => c.elim id N0) N3) N7)]; exact nil 22 (by omega) (by omega) (by omega) (by omega))).mono fun e w' hh => ⟨hh.1, hW.below hh.2⟩
  have K23 : Hid (∀ W, FM (fun q => ((False ∨ PV V0 m0 q) ∨ PV V3 m3 q) ∨ PV V7 m7 q) w W → Calls Tryd.prog 61 #[.pointer (some ⟨N, 0, none⟩)] W fun e w' => e = .returned (.bool true) ∧ FM (fun q => ((False ∨ PV V0 m0 q) ∨ PV V3 m3 q) ∨ PV V7 m7 q) w w') := fun W hW => (aloneOuts_none N W (by rw [CN hW (fun c => c.elim (fun c => c.elim (fun c => c.elim id N0) N3) N7)]; exact nil 23 (by omega) (by omega) (by omega) (by omega))).mono fun e w' hh => ⟨hh.1, hW.below hh.2⟩
  have K24 : Hid (∀ W, FM (fun q => ((False ∨ PV V0 m0 q) ∨ PV V3 m3 q) ∨ PV V7 m7 q) w W → Calls Tryd.prog 62 #[.pointer (some ⟨N, 0, none⟩)] W fun e w' => e = .returned (.bool true) ∧ FM (fun q => ((False ∨ PV V0 m0 q) ∨ PV V3 m3 q) ∨ PV V7 m7 q) w w') := fun W hW => (aloneTextLists_none N W (by rw [CN hW (fun c => c.elim (fun c => c.elim (fun c => c.elim id N0) N3) N7)]; exact nil 24 (by omega) (by omega) (by omega) (by omega))).mono fun e w' hh => ⟨hh.1, hW.below hh.2⟩
  have K25 : Hid (∀ W, FM (fun q => ((False ∨ PV V0 m0 q) ∨ PV V3 m3 q) ∨ PV V7 m7 q) w W → Calls Tryd.prog 63 #[.pointer (some ⟨N, 0, none⟩)] W fun e w' => e = .returned (.bool true) ∧ FM (fun q => ((False ∨ PV V0 m0 q) ∨ PV V3 m3 q) ∨ PV V7 m7 q) w w') := fun W hW => (aloneCells_none N W (by rw [CN hW (fun c => c.elim (fun c => c.elim (fun c => c.elim id N0) N3) N7)]; exact nil 25 (by omega) (by omega) (by omega) (by omega))).mono fun e w' hh => ⟨hh.1, hW.below hh.2⟩
  have K26 : Hid (∀ W, FM (fun q => ((False ∨ PV V0 m0 q) ∨ PV V3 m3 q) ∨ PV V7 m7 q) w W → Calls Tryd.prog 64 #[.pointer (some ⟨N, 0, none⟩)] W fun e w' => e = .returned (.bool true) ∧ FM (fun q => ((False ∨ PV V0 m0 q) ∨ PV V3 m3 q) ∨ PV V7 m7 q) w w') := fun W hW => (aloneRows_none N W (by rw [CN hW (fun c => c.elim (fun c => c.elim (fun c => c.elim id N0) N3) N7)]; exact nil 26 (by omega) (by omega) (by omega) (by omega))).mono fun e w' hh => ⟨hh.1, hW.below hh.2⟩
  have K27 : Hid (∀ W, FM (fun q => ((False ∨ PV V0 m0 q) ∨ PV V3 m3 q) ∨ PV V7 m7 q) w W → Calls Tryd.prog 65 #[.pointer (some ⟨N, 0, none⟩)] W fun e w' => e = .returned (.bool true) ∧ FM (fun q => ((False ∨ PV V0 m0 q) ∨ PV V3 m3 q) ∨ PV V7 m7 q) w w') := fun W hW => (aloneImages_none N W (by rw [CN hW (fun c => c.elim (fun c => c.elim (fun c => c.elim id N0) N3) N7)]; exact nil 27 (by omega) (by omega) (by omega) (by omega))).mono fun e w' hh => ⟨hh.1, hW.below hh.2⟩
  have FIN : Hid (∀ W, FM (fun q => ((False ∨ PV V0 m0 q) ∨ PV V3 m3 q) ∨ PV V7 m7 q) w W → (∀ j, j < 28 → (W.cell? ⟨N, j, none⟩).isSome = true) ∧ (∀ j, W.frozen? ⟨N, j, none⟩ = false) ∧ FM (fun q => (((False ∨ PV V0 m0 q) ∨ PV V3 m3 q) ∨ PV V7 m7 q) ∨ q = N) w (W.setCells N 0 (List.replicate 28 (.slice none 0 0)))) := fun W hW => ⟨fun j hj => by
    rw [CN hW (fun c => c.elim (fun c => c.elim (fun c => c.elim id N0) N3) N7)]
    by_cases c : j = 0
    · rw [c, h.b0.st.cF]; rfl
    · rw [h.b0.nil j hj c]; rfl, ZN hW (fun c => c.elim (fun c => c.elim (fun c => c.elim id N0) N3) N7), by
    have g := setCells_grown N W (List.replicate 28 (.slice none 0 0)) 0
    exact hW.more g.size (fun q hq hn => g.block q hq (fun e => hn (by injection e))) ⟨g.os, g.tape, g.output⟩⟩
  clear HK CN ZN h n0 n3 n7 nil nP N0 N3 N7
  go_enter Tryd.func13, Tryd.ntmps13
  go_wp2_with fail
  refine Calls.mono K0.out ?_
  rintro e w0 ⟨rfl, b0⟩
  have B1 : Hid _ := b0
  clear b0 K0
  go_wp2_with fail
  refine Calls.mono (K1.out _ B1.out) ?_
  rintro e w1 ⟨rfl, b1⟩
  have B2 : Hid _ := b1
  clear b1 K1 B1
  go_wp2_with fail
  refine Calls.mono (K2.out _ B2.out) ?_
  rintro e w2 ⟨rfl, b2⟩
  have B3 : Hid _ := b2
  clear b2 K2 B2
  go_wp2_with fail
  refine Calls.mono (K3.out _ B3.out) ?_
  rintro e w3 ⟨rfl, b3⟩
  have B4 : Hid _ := b3
  clear b3 K3 B3
  go_wp2_with fail
  refine Calls.mono (K4.out _ B4.out) ?_
  rintro e w4 ⟨rfl, b4⟩
  have B5 : Hid _ := b4
  clear b4 K4 B4
  go_wp2_with fail
  refine Calls.mono (K5.out _ B5.out) ?_
  rintro e w5 ⟨rfl, b5⟩
  have B6 : Hid _ := b5
  clear b5 K5 B5
  go_wp2_with fail
  refine Calls.mono (K6.out _ B6.out) ?_
  rintro e w6 ⟨rfl, b6⟩
  have B7 : Hid _ := b6
  clear b6 K6 B6
  go_wp2_with fail
  refine Calls.mono (K7.out _ B7.out) ?_
  rintro e w7 ⟨rfl, b7⟩
  have B8 : Hid _ := b7
  clear b7 K7 B7
  go_wp2_with fail
  refine Calls.mono (K8.out _ B8.out) ?_
  rintro e w8 ⟨rfl, b8⟩
  have B9 : Hid _ := b8
  clear b8 K8 B8
  go_wp2_with fail
  refine Calls.mono (K9.out _ B9.out) ?_
  rintro e w9 ⟨rfl, b9⟩
  have B10 : Hid _ := b9
  clear b9 K9 B9
  go_wp2_with fail
  refine Calls.mono (K10.out _ B10.out) ?_
  rintro e w10 ⟨rfl, b10⟩
  have B11 : Hid _ := b10
  clear b10 K10 B10
  go_wp2_with fail
  refine Calls.mono (K11.out _ B11.out) ?_
  rintro e w11 ⟨rfl, b11⟩
  have B12 : Hid _ := b11
  clear b11 K11 B11
  go_wp2_with fail
  refine Calls.mono (K12.out _ B12.out) ?_
  rintro e w12 ⟨rfl, b12⟩
  have B13 : Hid _ := b12
  clear b12 K12 B12
  go_wp2_with fail
  refine Calls.mono (K13.out _ B13.out) ?_
  rintro e w13 ⟨rfl, b13⟩
  have B14 : Hid _ := b13
  clear b13 K13 B13
  go_wp2_with fail
  refine Calls.mono (K14.out _ B14.out) ?_
  rintro e w14 ⟨rfl, b14⟩
  have B15 : Hid _ := b14
  clear b14 K14 B14
  go_wp2_with fail
  refine Calls.mono (K15.out _ B15.out) ?_
  rintro e w15 ⟨rfl, b15⟩
  have B16 : Hid _ := b15
  clear b15 K15 B15
  go_wp2_with fail
  refine Calls.mono (K16.out _ B16.out) ?_
  rintro e w16 ⟨rfl, b16⟩
  have B17 : Hid _ := b16
  clear b16 K16 B16
  go_wp2_with fail
  refine Calls.mono (K17.out _ B17.out) ?_
  rintro e w17 ⟨rfl, b17⟩
  have B18 : Hid _ := b17
  clear b17 K17 B17
  go_wp2_with fail
  refine Calls.mono (K18.out _ B18.out) ?_
  rintro e w18 ⟨rfl, b18⟩
  have B19 : Hid _ := b18
  clear b18 K18 B18
  go_wp2_with fail
  refine Calls.mono (K19.out _ B19.out) ?_
  rintro e w19 ⟨rfl, b19⟩
  have B20 : Hid _ := b19
  clear b19 K19 B19
  go_wp2_with fail
  refine Calls.mono (K20.out _ B20.out) ?_
  rintro e w20 ⟨rfl, b20⟩
  have B21 : Hid _ := b20
  clear b20 K20 B20
  go_wp2_with fail
  refine Calls.mono (K21.out _ B21.out) ?_
  rintro e w21 ⟨rfl, b21⟩
  have B22 : Hid _ := b21
  clear b21 K21 B21
  go_wp2_with fail
  refine Calls.mono (K22.out _ B22.out) ?_
  rintro e w22 ⟨rfl, b22⟩
  have B23 : Hid _ := b22
  clear b22 K22 B22
  go_wp2_with fail
  refine Calls.mono (K23.out _ B23.out) ?_
  rintro e w23 ⟨rfl, b23⟩
  have B24 : Hid _ := b23
  clear b23 K23 B23
  go_wp2_with fail
  refine Calls.mono (K24.out _ B24.out) ?_
  rintro e w24 ⟨rfl, b24⟩
  have B25 : Hid _ := b24
  clear b24 K24 B24
  go_wp2_with fail
  refine Calls.mono (K25.out _ B25.out) ?_
  rintro e w25 ⟨rfl, b25⟩
  have B26 : Hid _ := b25
  clear b25 K25 B25
  go_wp2_with fail
  refine Calls.mono (K26.out _ B26.out) ?_
  rintro e w26 ⟨rfl, b26⟩
  have B27 : Hid _ := b26
  clear b26 K26 B26
  go_wp2_with fail
  refine Calls.mono (K27.out _ B27.out) ?_
  rintro e w27 ⟨rfl, b27⟩
  have B28 : Hid _ := b27
  clear b27 K27 B27
  obtain ⟨dd, zz, ff⟩ := FIN.out w27 B28.out
  have fin : Hid _ := ff
  have hst : Hid _ := store_book N w27 dd zz
  clear dd zz ff FIN B28
  go_wp2_with (refine wpList_store_run (by rfl) (.tmp 116) (.tmp 115) 52 (by rfl) _ _ _ (by rfl) (by rfl) hst.out ?_)
  go_ret
  exact ⟨rfl, fin.out⟩
end Go.Proofs.YtfijagdbdbbbpaaDoor.Mb

namespace Go.Proofs.YtfijagdbdbbbpaaDoor.Mb
open Go.RowKit
set_option linter.unusedVariables false
set_option linter.unusedSimpArgs false
set_option maxRecDepth 100000
/-- a book, and blocks from a to S that are no one's yet. -/
def BB (N C a S n0 n3 n7 : Nat) (w : World) : Prop := ∃ m0 m3 m7 V0 V3 V7 h0 h3 h7 G0 G3 G7, MB N C m0 m3 m7 V0 V3 V7 h0 h3 h7 G0 G3 G7 w ∧ m0 ≤ n0 ∧ m3 ≤ n3 ∧ m7 ≤ n7 ∧ (∀ j, j < m0 → (G0 j).length ≤ 268435456) ∧ (∀ j, j < m3 → (G3 j).length ≤ 268435456) ∧ (∀ j, j < m7 → (G7 j).length ≤ 268435456) ∧ (∀ q, a ≤ q → q < S → free N C m0 m3 m7 V0 V3 V7 h0 h3 h7 q) ∧ S ≤ w.heap.size
/-- what a Take leaves. -/
structure KP (N C a S : Nat) (w w' : World) : Prop where
  size : w.heap.size ≤ w'.heap.size
  low : ∀ q, q < C → q ≠ N → w'.heap[q]? = w.heap[q]?
  mid : ∀ q, a ≤ q → q < S → w'.heap[q]? = w.heap[q]?
  same : w'.os = w.os ∧ w'.tape = w.tape ∧ w'.output = w.output
theorem BB.size {N C a S n0 n3 n7 : Nat} {w : World} (h : BB N C a S n0 n3 n7 w) : N < C ∧ C ≤ w.heap.size ∧ S ≤ w.heap.size := by
  obtain ⟨m0, m3, m7, V0, V3, V7, h0, h3, h7, G0, G3, G7, mb, _, _, _, _, _, _, _, s⟩ := h
  exact ⟨mb.b0.sp.nC, mb.b0.sp.cw, s⟩
theorem BB.later {N C a S n0 n3 n7 : Nat} {w w' : World} (h : BB N C a S n0 n3 n7 w) (hb : Below w.heap.size w w') : BB N C w.heap.size w'.heap.size n0 n3 n7 w' := by
  obtain ⟨m0, m3, m7, V0, V3, V7, h0, h3, h7, G0, G3, G7, mb, a1, a2, a3, l0, l3, l7, fr, s⟩ := h
  exact ⟨m0, m3, m7, V0, V3, V7, h0, h3, h7, G0, G3, G7, mb.below hb, a1, a2, a3, l0, l3, l7, fun q q1 q2 => mb.fresh q1, Nat.le_refl _⟩
theorem BB.empty {N C : Nat} {w : World} (hN : N < C) (hC : C ≤ w.heap.size) (hc : ∀ j, j < 28 → w.cell? ⟨N, j, none⟩ = some (.slice none 0 0)) (hz : ∀ j, w.frozen? ⟨N, j, none⟩ = false) : BB N C w.heap.size w.heap.size 0 0 0 w := by
  have no : ∀ q, ¬ own (.slice none 0 0) (fun _ => undef) 0 q := fun q e => by
    rcases e with e | ⟨j, hj, _⟩
    · simp [Value.ownBlock] at e
    · omega
  have e0 : ∀ j, O0 (.slice none 0 0) (.slice none 0 0) j = .slice none 0 0 := fun j => by simp [O0]
  have e3 : ∀ j, O3 (.slice none 0 0) (.slice none 0 0) j = .slice none 0 0 := fun j => by simp [O3]
  have e7 : ∀ j, O7 (.slice none 0 0) (.slice none 0 0) j = .slice none 0 0 := fun j => by simp [O7]
  refine ⟨0, 0, 0, fun _ => undef, fun _ => undef, fun _ => undef, .slice none 0 0, .slice none 0 0, .slice none 0 0, fun _ => [], fun _ => [], fun _ => [], ⟨⟨⟨hN, by omega, hC, fun i hi => by omega, fun k e => (by cases e), fun i j hi => by omega, fun i hi => by omega⟩, ⟨hc 0 (by omega), ⟨rfl, Or.inl ⟨rfl, rfl⟩⟩, fun j hj => by omega, Bk0.BF.refl _ _ _⟩, fun j hj _ => by rw [e0]; exact hc j hj, hz⟩, ⟨⟨hN, by omega, hC, fun i hi => by omega, fun k e => (by cases e), fun i j hi => by omega, fun i hi => by omega⟩, ⟨hc 3 (by omega), ⟨rfl, Or.inl ⟨rfl, rfl⟩⟩, fun j hj => by omega, Bk3.BF.refl _ _ _⟩, fun j hj _ => by rw [e3]; exact hc j hj, hz⟩, ⟨⟨hN, by omega, hC, fun i hi => by omega, fun k e => (by cases e), fun i j hi => by omega, fun i hi => by omega⟩, ⟨hc 7 (by omega), ⟨rfl, Or.inl ⟨rfl, rfl⟩⟩, fun j hj => by omega, Bk7.BF.refl _ _ _⟩, fun j hj _ => by rw [e7]; exact hc j hj, hz⟩, fun q e => absurd e (no q), fun q e => absurd e (no q), fun q e => absurd e (no q)⟩, by omega, by omega, by omega, fun j hj => by omega, fun j hj => by omega, fun j hj => by omega, fun q q1 q2 => by omega, Nat.le_refl _⟩
theorem BB.take0 {N C a a' S n0 n3 n7 B : Nat} {w : World} {v : Value} {l : List (Value)} (h : BB N C a S n0 n3 n7 w) (o : Bk0.OE w B v l) (hl : l.length ≤ 268435456) (hv : ∀ q, v.ownBlock = some q → a ≤ q ∧ q < a') (ha : a ≤ a' ∧ a' ≤ S) (hn : n0 ≤ 4194304) :
    Calls Tryd.prog 9 #[.pointer (some ⟨N, 0, none⟩), v] w fun e w' => e = .returned undef ∧ BB N C a' S (n0 + 1) n3 n7 w' ∧ KP N C a' S w w' := by
  obtain ⟨m0, m3, m7, V0, V3, V7, h0, h3, h7, G0, G3, G7, mb, a0, a3, a7, l0, l3, l7, fr, s⟩ := h
  have vlt : ∀ q, v.ownBlock = some q → q < S := fun q e => by have := hv q e; omega
  refine (mb.take0 o (fun q e => fr q (hv q e).1 (vlt q e)) (by omega)).mono fun e w' ⟨e1, h', mb', bN, fb⟩ => ⟨e1, ⟨m0 + 1, m3, m7, fun j => if j = m0 then v else V0 j, V3, V7, h', h3, h7, fun j => if j = m0 then l else G0 j, G3, G7, mb', by omega, by omega, by omega, (fun j hj => by by_cases c : j = m0; (simp only [if_pos c]; exact hl); (simp only [if_neg c]; exact l0 j (by omega))), (l3), (l7), fun q q1 q2 => ?_, Nat.le_trans s fb.1⟩, ⟨fb.1, fun q q1 q2 => ?_, fun q q1 q2 => ?_, bN.os, bN.tape, bN.output⟩⟩
  · have fr0 := fr q (by omega) q2
    refine ⟨fr0.1, fun e => ?_, fr0.2.2.1, fr0.2.2.2⟩
    rcases e with e | ⟨j, hj, e⟩
    · rcases fb.2.2 q e with c | c
      · exact fr0.2.1 (Or.inl c)
      · omega
    · by_cases hjm : j = m0
      · simp only [if_pos hjm] at e; have := (hv q e).2; omega
      · simp only [if_neg hjm] at e; exact fr0.2.1 (Or.inr ⟨j, by omega, e⟩)
  · have := mb.b0.sp.cw
    exact fb.2.1 q (by omega) q2 (fun c => by have := (mb.b0.sp.hb q c).1; omega)
  · have fr0 := fr q (by omega) q2
    exact fb.2.1 q (by omega) (by have := fr0.1; have := mb.b0.sp.nC; omega) (fun c => fr0.2.1 (Or.inl c))
theorem BB.take3 {N C a a' S n0 n3 n7 B : Nat} {w : World} {v : Value} {l : List (Value)} (h : BB N C a S n0 n3 n7 w) (o : Bk3.OE w B v l) (hl : l.length ≤ 268435456) (hv : ∀ q, v.ownBlock = some q → a ≤ q ∧ q < a') (ha : a ≤ a' ∧ a' ≤ S) (hn : n3 ≤ 4194304) :
    Calls Tryd.prog 10 #[.pointer (some ⟨N, 0, none⟩), v] w fun e w' => e = .returned undef ∧ BB N C a' S n0 (n3 + 1) n7 w' ∧ KP N C a' S w w' := by
  obtain ⟨m0, m3, m7, V0, V3, V7, h0, h3, h7, G0, G3, G7, mb, a0, a3, a7, l0, l3, l7, fr, s⟩ := h
  have vlt : ∀ q, v.ownBlock = some q → q < S := fun q e => by have := hv q e; omega
  refine (mb.take3 o (fun q e => fr q (hv q e).1 (vlt q e)) (by omega)).mono fun e w' ⟨e1, h', mb', bN, fb⟩ => ⟨e1, ⟨m0, m3 + 1, m7, V0, fun j => if j = m3 then v else V3 j, V7, h0, h', h7, G0, fun j => if j = m3 then l else G3 j, G7, mb', by omega, by omega, by omega, (l0), (fun j hj => by by_cases c : j = m3; (simp only [if_pos c]; exact hl); (simp only [if_neg c]; exact l3 j (by omega))), (l7), fun q q1 q2 => ?_, Nat.le_trans s fb.1⟩, ⟨fb.1, fun q q1 q2 => ?_, fun q q1 q2 => ?_, bN.os, bN.tape, bN.output⟩⟩
  · have fr0 := fr q (by omega) q2
    refine ⟨fr0.1, fr0.2.1, fun e => ?_, fr0.2.2.2⟩
    rcases e with e | ⟨j, hj, e⟩
    · rcases fb.2.2 q e with c | c
      · exact fr0.2.2.1 (Or.inl c)
      · omega
    · by_cases hjm : j = m3
      · simp only [if_pos hjm] at e; have := (hv q e).2; omega
      · simp only [if_neg hjm] at e; exact fr0.2.2.1 (Or.inr ⟨j, by omega, e⟩)
  · have := mb.b0.sp.cw
    exact fb.2.1 q (by omega) q2 (fun c => by have := (mb.b3.sp.hb q c).1; omega)
  · have fr0 := fr q (by omega) q2
    exact fb.2.1 q (by omega) (by have := fr0.1; have := mb.b0.sp.nC; omega) (fun c => fr0.2.2.1 (Or.inl c))
theorem BB.take7 {N C a a' S n0 n3 n7 B : Nat} {w : World} {v : Value} {l : List (Bk7.E3)} (h : BB N C a S n0 n3 n7 w) (o : Bk7.OE w B v l) (hl : l.length ≤ 268435456) (hv : ∀ q, v.ownBlock = some q → a ≤ q ∧ q < a') (ha : a ≤ a' ∧ a' ≤ S) (hn : n7 ≤ 4194304) :
    Calls Tryd.prog 11 #[.pointer (some ⟨N, 0, none⟩), v] w fun e w' => e = .returned undef ∧ BB N C a' S n0 n3 (n7 + 1) w' ∧ KP N C a' S w w' := by
  obtain ⟨m0, m3, m7, V0, V3, V7, h0, h3, h7, G0, G3, G7, mb, a0, a3, a7, l0, l3, l7, fr, s⟩ := h
  have vlt : ∀ q, v.ownBlock = some q → q < S := fun q e => by have := hv q e; omega
  refine (mb.take7 o (fun q e => fr q (hv q e).1 (vlt q e)) (by omega)).mono fun e w' ⟨e1, h', mb', bN, fb⟩ => ⟨e1, ⟨m0, m3, m7 + 1, V0, V3, fun j => if j = m7 then v else V7 j, h0, h3, h', G0, G3, fun j => if j = m7 then l else G7 j, mb', by omega, by omega, by omega, (l0), (l3), (fun j hj => by by_cases c : j = m7; (simp only [if_pos c]; exact hl); (simp only [if_neg c]; exact l7 j (by omega))), fun q q1 q2 => ?_, Nat.le_trans s fb.1⟩, ⟨fb.1, fun q q1 q2 => ?_, fun q q1 q2 => ?_, bN.os, bN.tape, bN.output⟩⟩
  · have fr0 := fr q (by omega) q2
    refine ⟨fr0.1, fr0.2.1, fr0.2.2.1, fun e => ?_⟩
    rcases e with e | ⟨j, hj, e⟩
    · rcases fb.2.2 q e with c | c
      · exact fr0.2.2.2 (Or.inl c)
      · omega
    · by_cases hjm : j = m7
      · simp only [if_pos hjm] at e; have := (hv q e).2; omega
      · simp only [if_neg hjm] at e; exact fr0.2.2.2 (Or.inr ⟨j, by omega, e⟩)
  · have := mb.b0.sp.cw
    exact fb.2.1 q (by omega) q2 (fun c => by have := (mb.b7.sp.hb q c).1; omega)
  · have fr0 := fr q (by omega) q2
    exact fb.2.1 q (by omega) (by have := fr0.1; have := mb.b0.sp.nC; omega) (fun c => fr0.2.2.2 (Or.inl c))
theorem BB.alone {N C a S n0 n3 n7 : Nat} {w : World} (h : BB N C a S n0 n3 n7 w) (hn : n0 ≤ 4194304 ∧ n3 ≤ 4194304 ∧ n7 ≤ 4194304) {K : Nat} (hK : K ≤ N) :
    Calls Tryd.prog 13 #[.pointer (some ⟨N, 0, none⟩)] w fun e w' => e = .returned (.bool true) ∧ Below K w w' := by
  obtain ⟨m0, m3, m7, V0, V3, V7, h0, h3, h7, G0, G3, G7, mb, a0, a3, a7, l0, l3, l7, fr, s⟩ := h
  have nC := mb.b0.sp.nC
  have cw := mb.b0.sp.cw
  refine (alone_any mb ⟨by omega, by omega, by omega⟩ l0 l3 l7).mono fun e w' ⟨e1, fm⟩ => ⟨e1, fm.same.1, fm.same.2.1, fm.same.2.2, fm.size, fun k hk => fm.keep k (by omega) (fun c => ?_)⟩
  rcases c with ((c | ⟨j, hj, c⟩) | ⟨j, hj, c⟩) | c
  · rcases c with c | ⟨j, hj, c⟩
    · exact c
    · have := (mb.b0.sp.vb j hj k c).1; omega
  · have := (mb.b3.sp.vb j hj k c).1; omega
  · have := (mb.b7.sp.vb j hj k c).1; omega
  · omega
end Go.Proofs.YtfijagdbdbbbpaaDoor.Mb
