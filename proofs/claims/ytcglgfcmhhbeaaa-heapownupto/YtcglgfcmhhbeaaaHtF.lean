
import Derived.Test.YtcglgfcmhhbeaaaHtE
namespace Go.Proofs.Ytcglgfcmhhbeaaa.Hp
open Go.RowKit Go.Maps
set_option linter.unusedVariables false
set_option linter.unusedSimpArgs false
set_option maxRecDepth 100000
/-- a book in memory: what it has taken. -/
structure BK (N C m : Nat) (V : Nat → Value) (hv : Value) (G : Nat → List Ent) (w : World) : Prop where
  sp : SPV w N C m V hv
  st : AS w N C m V hv G w
  nil : ∀ j, j < 28 → j ≠ 12 → w.cell? ⟨N, j, none⟩ = some (.slice none 0 0)
  fz : ∀ j, w.frozen? ⟨N, j, none⟩ = false
theorem BK.below {N C m : Nat} {V : Nat → Value} {hv : Value} {G : Nat → List Ent} {w w' : World} (h : BK N C m V hv G w) (hb : Below w.heap.size w w') : BK N C m V hv G w' := by
  have s := h.st.below h.sp hb
  have sz := hb.size
  refine ⟨⟨h.sp.nC, by have := h.sp.nw; omega, by have := h.sp.cw; omega, fun i hi k e => by have := h.sp.vb i hi k e; omega, fun k e => by have := h.sp.hb k e; omega, h.sp.dis, h.sp.hd⟩, ⟨s.c12, s.hr, s.rows, BF.refl _ _ _⟩, fun j hj hne => ?_, fun j => ?_⟩
  · rw [hb.cell (p := ⟨N, j, none⟩) h.sp.nw]; exact h.nil j hj hne
  · rw [hb.frozen (p := ⟨N, j, none⟩) h.sp.nw]; exact h.fz j
theorem BK.start (w : World) : BK w.heap.size (w.heap.size + 1) 0 (fun _ => undef) (.slice none 0 0) (fun _ => []) (w.alloc (.cells (Array.replicate 28 (.slice none 0 0)) 59)) := by
  have c : ∀ j, j < 28 → (w.alloc (.cells (Array.replicate 28 (.slice none 0 0)) 59)).cell? ⟨w.heap.size, j, none⟩ = some (.slice none 0 0) := fun j hj => by
    rw [World.cell?_alloc_at _ _ _ _ rfl, Array.getElem?_replicate, if_pos hj]
  refine ⟨⟨by omega, by simp, by simp, fun i hi => by omega, fun k e => (by cases e), fun i j hi => by omega, fun i hi => by omega⟩, ⟨c 12 (by omega), ⟨rfl, Or.inl ⟨rfl, rfl⟩⟩, fun j hj => by omega, BF.refl _ _ _⟩, fun j hj _ => c j hj, fun j => World.frozen?_alloc_at _ _ _ _ rfl⟩
/-- a list kept. -/
theorem BK.take {N C m : Nat} {V : Nat → Value} {hv : Value} {G : Nat → List Ent} {w : World} {B : Nat} {v : Value} {l : List Ent} (h0 : BK N C m V hv G w) (o0 : OE w B v l) (hB : ∀ k, v.ownBlock = some k → C ≤ k ∧ hv.ownBlock ≠ some k ∧ ∀ j, j < m → (V j).ownBlock ≠ some k) (hm : m ≤ 4) :
    ∃ hv' w', (Builtin.append_ #[42, 42] 42 #[hv, .slice (some ⟨w.heap.size, 0, none⟩) 1 1]).run Try.prog (w.alloc (.cells #[v] 28)) = .ok hv' w' ∧ w'.cell? ⟨N, 12, none⟩ = some hv ∧ w'.frozen? ⟨N, 12, none⟩ = false ∧ BK N C (m + 1) (fun j => if j = m then v else V j) hv' (fun j => if j = m then l else G j) (w'.setCell ⟨N, 12, none⟩ hv') ∧ Below N w (w'.setCell ⟨N, 12, none⟩ hv') := by
  obtain ⟨W, hW⟩ : ∃ W, W = w.alloc (.cells #[v] 28) := ⟨_, rfl⟩
  have bW : Below w.heap.size w W := by rw [hW]; exact (Below.refl _ w).alloc (Nat.le_refl _) _
  have sW : W.heap.size = w.heap.size + 1 := by rw [hW]; simp
  have hc : W.cell? ⟨w.heap.size, 0, none⟩ = some v := by rw [hW]; simp [go_sem]
  rw [← hW]
  have h := h0.below bW
  have o := o0.below bW (Nat.le_refl _)
  have vlt : ∀ k, v.ownBlock = some k → k < w.heap.size := fun k e => (o0.bound e).2
  have hlt0 : ∀ k, hv.ownBlock = some k → k < w.heap.size := fun k e => (h0.sp.hb k e).2
  have nw0 := h0.sp.nw
  obtain ⟨inf, i1, i0⟩ := Option.map_eq_some_iff.1 en_info2
  have i2 : inf.zero = some (.slice none 0 0) := congrArg (·.1) i0
  have i3 : inf.bytes = 24 := congrArg (·.2.1) i0
  have i4 : inf.size = 1 := congrArg (·.2.2) i0
  have hml : maxLen = 9223372036854775807 := by decide
  have own : W.ownsRow C 28 inf.size hv m (hdr V m) := by rw [i4]; exact h.st.hr
  have v1 : v.oneCell' = true := by
    obtain ⟨a, c, e, _⟩ := o.formO
    rw [e]; rfl
  obtain ⟨hv', w', hr, ho, hg, hb, _⟩ := append_keeps (P := Try.prog) W C 42 42 28 inf (.slice none 0 0) Try.underlying42 i1 i2 (by rw [i4]; rfl) (by omega) hv _ _ own ⟨w.heap.size, 0, none⟩ 1 1 [v] (by rw [i4]; rfl) (fun j u hj => by
    have : j = 0 := by have := (List.getElem?_eq_some_iff.1 hj).1; simp at this; omega
    subst this
    simp at hj
    subst hj
    exact hc) (fun u hu => by simp at hu; subst hu; exact v1) (by omega) (by omega) (by rw [i3]; omega) h.sp.cw
  rw [i4, ← hdr_snoc] at ho
  have hN : hv.ownBlock ≠ some N := fun e => by have := (h.sp.hb N e).1; have := h.sp.nC; omega
  have kN : w'.heap[N]? = W.heap[N]? := hg.block N h.sp.nw (fun e => hN e.symm)
  have cN : ∀ j, w'.cell? ⟨N, j, none⟩ = W.cell? ⟨N, j, none⟩ := fun j => World.cell?_of_block (w := W) (a := ⟨N, j, none⟩) kN
  have zN : ∀ j, w'.frozen? ⟨N, j, none⟩ = W.frozen? ⟨N, j, none⟩ := fun j => World.frozen?_of_block (w := W) (a := ⟨N, j, none⟩) kN
  have c12 : w'.cell? ⟨N, 12, none⟩ = some hv := by rw [cN]; exact h.st.c12
  obtain ⟨W3, hW3⟩ : ∃ W3, W3 = w'.setCell ⟨N, 12, none⟩ hv' := ⟨_, rfl⟩
  have g3 : w'.grownBy W3 (some N) := by rw [hW3]; exact ⟨rfl, rfl, rfl, by simp, fun k hk q => Below.heap_setCell _ _ _ _ (fun e => q (by rw [e]))⟩
  have s3 : W3.heap.size = w'.heap.size := by rw [hW3]; simp
  have hvb : ∀ k, hv'.ownBlock = some k → C ≤ k ∧ k < W3.heap.size := fun k e => by rw [s3]; exact World.ownsRow.lt ho k e
  have hvn : ∀ k, hv'.ownBlock = some k → hv.ownBlock = some k ∨ k = W.heap.size := fun k e => by
    rcases hb with q | q
    · exact Or.inl (by rw [← q]; exact e)
    · rw [q] at e; injection e with e; exact Or.inr e.symm
  have cw := h.sp.cw
  have nC := h.sp.nC
  have sz := hg.size
  have oth : ∀ (u : Value), (∀ q, u.ownBlock = some q → hv.ownBlock ≠ some q) → u.ownBlock = none ∨ u.ownBlock ≠ hv.ownBlock := fun u hq => by
    cases hv0 : u.ownBlock with
    | none => exact Or.inl rfl
    | some k => exact Or.inr (fun e => hq k hv0 e.symm)
  have rowK : ∀ (u : Value) (B' : Nat) (l' : List Ent), OE W B' u l' → (∀ q, u.ownBlock = some q → C ≤ q ∧ hv.ownBlock ≠ some q) → OE W3 B' u l' := fun u B' l' hu hq => World.ownsRow.kept (World.ownsRow.kept hu hg (oth u fun q e => (hq q e).2)) g3 (by
    cases hv0 : u.ownBlock with
    | none => exact Or.inl rfl
    | some k => exact Or.inr (fun e => by injection e with e; have := (hq k hv0).1; omega))
  have up : ∀ (u : Value) (B' : Nat) (l' : List Ent), OE W3 B' u l' → (∀ q, u.ownBlock = some q → C ≤ q) → OE W3 C u l' := fun u B' l' hu hq => by
    refine ⟨hu.1, ?_⟩
    rcases hu.2 with h2 | ⟨g, cap, cur, e1, e2, e3⟩
    · exact Or.inl h2
    · exact Or.inr ⟨g, cap, cur, e1, hq g (by rw [e1]; rfl), e3⟩
  refine ⟨hv', w', hr, c12, by rw [zN]; exact h.fz 12, ?_⟩
  rw [← hW3]
  refine ⟨⟨⟨nC, by have := h.sp.nw; omega, by omega, fun i hi k e => ?_, hvb, fun i j hi hj hne k e e2 => ?_, fun i hi k e e2 => ?_⟩, ⟨?_, World.ownsRow.kept ho g3 (by
    cases hv0 : hv'.ownBlock with
    | none => exact Or.inl rfl
    | some k => exact Or.inr (fun e => by injection e with e; have := (hvb k hv0).1; omega)), fun j hj => ?_, BF.refl _ _ _⟩, fun j hj hne => ?_, fun j => ?_⟩, ?_⟩
  · by_cases c : i = m
    · simp only [if_pos c] at e; have := vlt k e; exact ⟨(hB k e).1, by omega⟩
    · simp only [if_neg c] at e; have := h0.sp.vb i (by omega) k e; omega
  · by_cases c : i = m
    · simp only [if_pos c] at e
      simp only [if_neg (show ¬ j = m by omega)] at e2
      exact (hB k e).2.2 j (by omega) e2
    · simp only [if_neg c] at e
      by_cases c2 : j = m
      · simp only [if_pos c2] at e2; exact (hB k e2).2.2 i (by omega) e
      · simp only [if_neg c2] at e2; exact h.sp.dis i j (by omega) (by omega) hne k e e2
  · by_cases c : i = m
    · simp only [if_pos c] at e
      rcases hvn k e2 with q | q
      · exact (hB k e).2.1 q
      · have := vlt k e; omega
    · simp only [if_neg c] at e
      rcases hvn k e2 with q | q
      · exact h.sp.hd i (by omega) k e q
      · have := (h0.sp.vb i (by omega) k e).2; omega
  · rw [hW3]; exact World.cell?_setCell_same _ _ _ c12
  · by_cases c : j = m
    · simp only [if_pos c]
      exact up v B l (rowK v B l o (fun q e => ⟨(hB q e).1, (hB q e).2.1⟩)) (fun q e => (hB q e).1)
    · simp only [if_neg c]
      exact rowK (V j) C _ (h.st.rows j (by omega)) (fun q e => ⟨(h.sp.vb j (by omega) q e).1, h.sp.hd j (by omega) q e⟩)
  · rw [hW3, World.cell?_setCell_other _ _ _ _ (by intro e; injection e; omega), cN]; exact h.nil j hj hne
  · rw [hW3, World.frozen?_setCell, zN]; exact h.fz j
  · have b1 : Below N w W := below_less bW (by omega)
    have b2 : Below N W w' := (Below.refl N W).grown hg (by omega) (fun k e => by have := (h.sp.hb k e).1; omega)
    have b3 : Below N w' W3 := (Below.refl N w').grown g3 (by omega) (fun k e => by injection e with e; omega)
    exact below_trans (below_trans b1 b2) b3
set_option maxHeartbeats 4000000 in
theorem take_any' {N C m : Nat} {V : Nat → Value} {hv : Value} {G : Nat → List Ent} {w : World} {B : Nat} {v : Value} {l : List Ent} (h0 : BK N C m V hv G w) (o0 : OE w B v l) (hB : ∀ k, v.ownBlock = some k → C ≤ k ∧ hv.ownBlock ≠ some k ∧ ∀ j, j < m → (V j).ownBlock ≠ some k) (hm : m ≤ 4) :
    Calls Try.prog 7 #[.pointer (some ⟨N, 0, none⟩), v] w fun e w' => e = .returned undef ∧ ∃ hv', BK N C (m + 1) (fun j => if j = m then v else V j) hv' (fun j => if j = m then l else G j) w' ∧ Below N w w' := by
  obtain ⟨hv', w', hr, c12', z12', bk, bb⟩ := h0.take o0 hB hm
  have c12 := h0.st.c12
  obtain ⟨ah, ch, e1, _⟩ := h0.st.hr.form
  obtain ⟨av, cv, e2, _⟩ := o0.formO
  have hrH : Hid (∀ W, W = w.alloc (.cells #[v] 28) → (Builtin.append_ #[42, 42] 42 #[hv, .slice (some ⟨w.heap.size, 0, none⟩) 1 1]).run Try.prog W = .ok hv' w') := fun W e => by subst e; exact hr
  obtain ⟨ah2, ch2, e3, _⟩ := bk.st.hr.form
  have fin : Hid (∃ hv', BK N C (m + 1) (fun j => if j = m then v else V j) hv' (fun j => if j = m then l else G j) (w'.setCell ⟨N, 12, none⟩ (.slice ah2 (m + 1) ch2)) ∧ Below N w (w'.setCell ⟨N, 12, none⟩ (.slice ah2 (m + 1) ch2))) := ⟨hv', by rw [← e3]; exact bk, by rw [← e3]; exact bb⟩
  subst e1 e3
  generalize l.length = nl at *
  subst e2
  clear h0 o0 hB hr bk bb
  go_enter Try.func7, Try.ntmps7
  go_wp2_with (at_builtin; refine wpList_append_runE (by rfl) _ _ _ (by rfl) _ _ _ _ (by rfl) (by rfl) (hrH.out _ rfl) ?_)
  simp [bodyPost, results, Try.results7, go_sem]
  obtain ⟨x, f1, f2⟩ := fin.out
  exact ⟨rfl, ⟨x, f1⟩, f2⟩
end Go.Proofs.Ytcglgfcmhhbeaaa.Hp
