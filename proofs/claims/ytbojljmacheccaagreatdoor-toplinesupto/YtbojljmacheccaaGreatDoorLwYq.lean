
import Derived.Test.YtbojljmacheccaaGreatDoorLwVq
import Derived.Test.YtbojljmacheccaaGreatDoorLaF
import Derived.Test.YtbojljmacheccaaGreatDoorLaD
namespace Go.Proofs.YtbojljmacheccaaGreatDoor.Ln
open Go.RowKit Go.Shelf
set_option linter.unusedVariables false
set_option linter.unusedSimpArgs false
set_option maxRecDepth 100000
/-- the document's reader, above the world w. -/
structure RdX (w : World) (N : Nat) (s : ByteArray) (st : DSt) (W : World) : Prop where
  hN : w.heap.size ≤ N
  lt : N < W.heap.size
  bl : Below w.heap.size w W
  rd : RdE N s st W
theorem RdX.below {w : World} {N : Nat} {s : ByteArray} {st : DSt} {W W' : World} (h : RdX w N s st W) (hb : Below W.heap.size W W') : RdX w N s st W' :=
  ⟨h.hN, Nat.lt_of_lt_of_le h.lt hb.size, h.bl.trans (hb.mono h.bl.size), h.rd.below hb h.lt⟩
theorem RdX.step {w : World} {N : Nat} {s : ByteArray} {st st' : DSt} {W W' : World} (h : RdX w N s st W) (hr : RdE N s st' W') (hg : W.grownBy W' (some N)) : RdX w N s st' W' :=
  ⟨h.hN, Nat.lt_of_lt_of_le h.lt hg.size, h.bl.grown hg h.bl.size (fun k e => by injection e with e; have := h.hN; omega), hr⟩
theorem RdX.other {w : World} {N : Nat} {s : ByteArray} {st : DSt} {W : World} (h : RdX w N s st W) (K i : Nat) (v : Value) (hK : K ≠ N) (hw : w.heap.size ≤ K) : RdX w N s st (W.setCell ⟨K, i, none⟩ v) := by
  refine ⟨h.hN, by simpa using h.lt, h.bl.setCell (p := ⟨K, i, none⟩) hw v, ?_⟩
  obtain ⟨h0, ⟨h1, h2, h3, h4, h5, h6, h7⟩, h8⟩ := h.rd
  have c : ∀ o, (W.setCell ⟨K, i, none⟩ v).cell? ⟨N, o, none⟩ = W.cell? ⟨N, o, none⟩ := fun o => World.cell?_setCell_other _ _ _ _ (by intro e; injection e; omega)
  exact ⟨by simpa using h0, ⟨by rw [c]; exact h1, by rw [c]; exact h2, by rw [c]; exact h3, by rw [c]; exact h4, by rw [c]; exact h5, by rw [c]; exact h6, by rw [c]; exact h7⟩, fun j hj => by have := h8 j hj; simpa using this⟩
theorem RdX.set1 {w : World} {N : Nat} {s : ByteArray} {st : DSt} {W : World} (h : RdX w N s st W) (j : Nat) : RdX w N s (j, st.2) (W.setCell ⟨N, 1, none⟩ (.int .i64 (j : Int))) :=
  ⟨h.hN, by simpa using h.lt, h.bl.setCell (p := ⟨N, 1, none⟩) h.hN _, h.rd.set1 j⟩
/-- while a line is read: the reader at N, the point at R, the result at w's end. -/
structure KE (w : World) (N R : Nat) (s m : ByteArray) (vt vf : Value) (tm : Int) (ta : List TagP) (fa : List FdP) (k : DSt) (W : World) : Prop where
  rd : RdX w N s k W
  hN : w.heap.size + 1 < N
  hR : N < R
  lt : R < W.heap.size
  r0 : W.cell? ⟨R, 0, none⟩ = some (.string m)
  r1 : W.cell? ⟨R, 1, none⟩ = some vt
  r2 : W.cell? ⟨R, 2, none⟩ = some vf
  r3 : W.cell? ⟨R, 3, none⟩ = some (.int .i64 tm)
  z0 : W.frozen? ⟨R, 0, none⟩ = false
  z1 : W.frozen? ⟨R, 1, none⟩ = false
  z2 : W.frozen? ⟨R, 2, none⟩ = false
  z3 : W.frozen? ⟨R, 3, none⟩ = false
  ms : W.heap[w.heap.size]? = some ptO
  mb : W.heap[w.heap.size + 1]? = some bdO
  ot : OT W (R + 1) vt ta
  of : OF W (R + 1) vf fa
  ap : ∀ b, vt.ownBlock = some b → vf.ownBlock ≠ some b
theorem KE.step {w : World} {N R : Nat} {s m : ByteArray} {vt vf : Value} {tm : Int} {ta : List TagP} {fa : List FdP} {k k' : DSt} {W W' : World} (h : KE w N R s m vt vf tm ta fa k W) (hr : RdX w N s k' W') (hg : W.grownBy W' (some N)) : KE w N R s m vt vf tm ta fa k' W' := by
  have hR := h.hR
  have hN := h.hN
  have hlt := h.lt
  have c : ∀ i, W'.cell? ⟨R, i, none⟩ = W.cell? ⟨R, i, none⟩ := fun i => grown_cellL hg (p := ⟨R, i, none⟩) hlt (by simp; omega)
  have z : ∀ i, W'.frozen? ⟨R, i, none⟩ = W.frozen? ⟨R, i, none⟩ := fun i => grown_frozenL hg (p := ⟨R, i, none⟩) hlt (by simp; omega)
  exact ⟨hr, hN, hR, Nat.lt_of_lt_of_le hlt hg.size, by rw [c]; exact h.r0, by rw [c]; exact h.r1, by rw [c]; exact h.r2, by rw [c]; exact h.r3, by rw [z]; exact h.z0, by rw [z]; exact h.z1, by rw [z]; exact h.z2, by rw [z]; exact h.z3, by rw [hg.block w.heap.size (by omega) (by simp; omega)]; exact h.ms, by rw [hg.block (w.heap.size + 1) (by omega) (by simp; omega)]; exact h.mb, OT.keepW h.ot hg (fun g e q => by have := (OT.boundW h.ot e).1; injection q; omega), OF.keepW h.of hg (fun g e q => by have := (OF.bound h.of e).1; injection q; omega), h.ap⟩
/-- a cell of the point is set. -/
theorem KE.cell {w : World} {N R : Nat} {s m : ByteArray} {vt vf : Value} {tm : Int} {ta : List TagP} {fa : List FdP} {k : DSt} {W : World} (h : KE w N R s m vt vf tm ta fa k W) (i : Nat) (v : Value) :
    RdX w N s k (W.setCell ⟨R, i, none⟩ v) ∧ R < (W.setCell ⟨R, i, none⟩ v).heap.size ∧ (∀ j, j ≠ i → (W.setCell ⟨R, i, none⟩ v).cell? ⟨R, j, none⟩ = W.cell? ⟨R, j, none⟩) ∧ (∀ j, (W.setCell ⟨R, i, none⟩ v).frozen? ⟨R, j, none⟩ = W.frozen? ⟨R, j, none⟩) ∧ (W.setCell ⟨R, i, none⟩ v).heap[w.heap.size]? = some ptO ∧ (W.setCell ⟨R, i, none⟩ v).heap[w.heap.size + 1]? = some bdO ∧ OT (W.setCell ⟨R, i, none⟩ v) (R + 1) vt ta ∧ OF (W.setCell ⟨R, i, none⟩ v) (R + 1) vf fa := by
  have hR := h.hR
  have hN := h.hN
  have hg := grown_set W R i v
  refine ⟨h.rd.other R i v (by omega) (by omega), by simpa using h.lt, fun j hj => World.cell?_setCell_other _ _ _ _ (by intro e; injection e; omega), fun j => by simp, ?_, ?_, OT.keepW h.ot hg (fun g e q => by have := (OT.boundW h.ot e).1; injection q; omega), OF.keepW h.of hg (fun g e q => by have := (OF.bound h.of e).1; injection q; omega)⟩
  · rw [Below.heap_setCell _ _ _ _ (by show w.heap.size ≠ R; omega)]; exact h.ms
  · rw [Below.heap_setCell _ _ _ _ (by show w.heap.size + 1 ≠ R; omega)]; exact h.mb
theorem KE.time {w : World} {N R : Nat} {s m : ByteArray} {vt vf : Value} {tm : Int} {ta : List TagP} {fa : List FdP} {k : DSt} {W : World} (h : KE w N R s m vt vf tm ta fa k W) (t : Int) : KE w N R s m vt vf t ta fa k (W.setCell ⟨R, 3, none⟩ (.int .i64 t)) := by
  obtain ⟨a1, a2, a3, a4, a5, a8, a6, a7⟩ := h.cell 3 (.int .i64 t)
  exact ⟨a1, h.hN, h.hR, a2, by rw [a3 0 (by omega)]; exact h.r0, by rw [a3 1 (by omega)]; exact h.r1, by rw [a3 2 (by omega)]; exact h.r2, World.cell?_setCell_same _ _ _ h.r3, by rw [a4]; exact h.z0, by rw [a4]; exact h.z1, by rw [a4]; exact h.z2, by rw [a4]; exact h.z3, a5, a8, a6, a7, h.ap⟩
/-- the tags have grown. -/
theorem KE.tags {w : World} {N R : Nat} {s m : ByteArray} {vt vt' vf : Value} {tm : Int} {ta ta' : List TagP} {fa : List FdP} {k : DSt} {W W1 : World} (h : KE w N R s m vt vf tm ta fa k W) (hg : W.grownBy W1 vt.ownBlock) (ho : OT W1 (R + 1) vt' ta') (hv : vt'.ownBlock = vt.ownBlock ∨ vt'.ownBlock = some W.heap.size) : W1.cell? ⟨R, 1, none⟩ = some vt ∧ W1.frozen? ⟨R, 1, none⟩ = false ∧ KE w N R s m vt' vf tm ta' fa k (W1.setCell ⟨R, 1, none⟩ vt') := by
  have hR := h.hR
  have hN := h.hN
  have hlt := h.lt
  have nb : ∀ j, j ≤ R → vt.ownBlock ≠ some j := fun j hj e => by have := (OT.boundW h.ot e).1; omega
  have c : ∀ i, W1.cell? ⟨R, i, none⟩ = W.cell? ⟨R, i, none⟩ := fun i => hg.cell_far ⟨R, i, none⟩ hlt (fun e => nb R (Nat.le_refl _) e.symm)
  have z : ∀ i, W1.frozen? ⟨R, i, none⟩ = W.frozen? ⟨R, i, none⟩ := fun i => hg.frozen_far ⟨R, i, none⟩ hlt (fun e => nb R (Nat.le_refl _) e.symm)
  have hb : Below (R + 1) W W1 := grown_below h.ot (by omega) hg
  have b1 : KE w N R s m vt' vf tm ta' fa k (W1.setCell ⟨R, 1, none⟩ vt') := by
    have rd1 : RdX w N s k W1 := by
      obtain ⟨x0, x1, x2, x3⟩ := h.rd
      exact ⟨x0, Nat.lt_of_lt_of_le x1 hb.size, x2.trans (hb.mono (by omega)), x3.below hb (by omega)⟩
    have hs := grown_set W1 R 1 vt'
    have rd2 := rd1.other R 1 vt' (by omega) (by omega)
    have of1 : OF W1 (R + 1) vf fa := OF.keepW h.of hg (fun g e q => h.ap g q e)
    have c2 : ∀ j, j ≠ 1 → (W1.setCell ⟨R, 1, none⟩ vt').cell? ⟨R, j, none⟩ = W.cell? ⟨R, j, none⟩ := fun j hj => (World.cell?_setCell_other _ _ _ _ (by intro e; injection e; omega)).trans (c j)
    have z2 : ∀ j, (W1.setCell ⟨R, 1, none⟩ vt').frozen? ⟨R, j, none⟩ = W.frozen? ⟨R, j, none⟩ := fun j => by rw [← z j]; simp
    exact ⟨rd2, hN, hR, by have := hb.size; simp; omega, by rw [c2 0 (by omega)]; exact h.r0, World.cell?_setCell_same _ _ _ (by rw [c]; exact h.r1), by rw [c2 2 (by omega)]; exact h.r2, by rw [c2 3 (by omega)]; exact h.r3, by rw [z2]; exact h.z0, by rw [z2]; exact h.z1, by rw [z2]; exact h.z2, by rw [z2]; exact h.z3, by rw [Below.heap_setCell _ _ _ _ (by show w.heap.size ≠ R; omega), hb.block _ (by omega)]; exact h.ms, by rw [Below.heap_setCell _ _ _ _ (by show w.heap.size + 1 ≠ R; omega), hb.block _ (by omega)]; exact h.mb, OT.keepW ho hs (fun g e q => by have := (OT.boundW ho e).1; injection q; omega), OF.keepW of1 hs (fun g e q => by have := (OF.bound of1 e).1; injection q; omega), fun b e q => by
      rcases hv with hv | hv
      · rw [hv] at e; exact h.ap b e q
      · rw [hv] at e; injection e with e; have := (OF.bound h.of q).2; omega⟩
  exact ⟨by rw [c]; exact h.r1, by rw [z]; exact h.z1, b1⟩
/-- the fields have grown. -/
theorem KE.flds {w : World} {N R : Nat} {s m : ByteArray} {vt vf vf' : Value} {tm : Int} {ta : List TagP} {fa fa' : List FdP} {k : DSt} {W W1 : World} (h : KE w N R s m vt vf tm ta fa k W) (hg : W.grownBy W1 vf.ownBlock) (ho : OF W1 (R + 1) vf' fa') (hv : vf'.ownBlock = vf.ownBlock ∨ vf'.ownBlock = some W.heap.size) : W1.cell? ⟨R, 2, none⟩ = some vf ∧ W1.frozen? ⟨R, 2, none⟩ = false ∧ KE w N R s m vt vf' tm ta fa' k (W1.setCell ⟨R, 2, none⟩ vf') := by
  have hR := h.hR
  have hN := h.hN
  have hlt := h.lt
  have nb : ∀ j, j ≤ R → vf.ownBlock ≠ some j := fun j hj e => by have := (OF.bound h.of e).1; omega
  have c : ∀ i, W1.cell? ⟨R, i, none⟩ = W.cell? ⟨R, i, none⟩ := fun i => hg.cell_far ⟨R, i, none⟩ hlt (fun e => nb R (Nat.le_refl _) e.symm)
  have z : ∀ i, W1.frozen? ⟨R, i, none⟩ = W.frozen? ⟨R, i, none⟩ := fun i => hg.frozen_far ⟨R, i, none⟩ hlt (fun e => nb R (Nat.le_refl _) e.symm)
  have hb : Below (R + 1) W W1 := grown_belowF h.of (by omega) hg
  have b1 : KE w N R s m vt vf' tm ta fa' k (W1.setCell ⟨R, 2, none⟩ vf') := by
    have rd1 : RdX w N s k W1 := by
      obtain ⟨x0, x1, x2, x3⟩ := h.rd
      exact ⟨x0, Nat.lt_of_lt_of_le x1 hb.size, x2.trans (hb.mono (by omega)), x3.below hb (by omega)⟩
    have hs := grown_set W1 R 2 vf'
    have rd2 := rd1.other R 2 vf' (by omega) (by omega)
    have ot1 : OT W1 (R + 1) vt ta := OT.keepW h.ot hg (fun g e q => h.ap g e q)
    have c2 : ∀ j, j ≠ 2 → (W1.setCell ⟨R, 2, none⟩ vf').cell? ⟨R, j, none⟩ = W.cell? ⟨R, j, none⟩ := fun j hj => (World.cell?_setCell_other _ _ _ _ (by intro e; injection e; omega)).trans (c j)
    have z2 : ∀ j, (W1.setCell ⟨R, 2, none⟩ vf').frozen? ⟨R, j, none⟩ = W.frozen? ⟨R, j, none⟩ := fun j => by rw [← z j]; simp
    exact ⟨rd2, hN, hR, by have := hb.size; simp; omega, by rw [c2 0 (by omega)]; exact h.r0, by rw [c2 1 (by omega)]; exact h.r1, World.cell?_setCell_same _ _ _ (by rw [c]; exact h.r2), by rw [c2 3 (by omega)]; exact h.r3, by rw [z2]; exact h.z0, by rw [z2]; exact h.z1, by rw [z2]; exact h.z2, by rw [z2]; exact h.z3, by rw [Below.heap_setCell _ _ _ _ (by show w.heap.size ≠ R; omega), hb.block _ (by omega)]; exact h.ms, by rw [Below.heap_setCell _ _ _ _ (by show w.heap.size + 1 ≠ R; omega), hb.block _ (by omega)]; exact h.mb, OT.keepW ot1 hs (fun g e q => by have := (OT.boundW ot1 e).1; injection q; omega), OF.keepW ho hs (fun g e q => by have := (OF.bound ho e).1; injection q; omega), fun b e q => by
      rcases hv with hv | hv
      · rw [hv] at q; exact h.ap b e q
      · rw [hv] at q; injection q with q; have := (OT.boundW h.ot e).2; omega⟩
  exact ⟨by rw [c]; exact h.r2, by rw [z]; exact h.z2, b1⟩
theorem KE.start (w : World) (s : ByteArray) (W : World) (m : ByteArray) (k : DSt) (N : Nat) (hN : w.heap.size + 1 < N) (hr : RdX w N s k W) (hm : W.heap[w.heap.size]? = some ptO) (hm2 : W.heap[w.heap.size + 1]? = some bdO) : KE w N W.heap.size s m (.slice none 0 0) (.slice none 0 0) 0 [] [] k (W.alloc (.cells #[.string m, .slice none 0 0, .slice none 0 0, .int .i64 0] 32)) where
  rd := hr.below ((Below.refl _ W).alloc (Nat.le_refl _) _)
  hN := hN
  hR := hr.lt
  lt := by simp
  r0 := by simp [go_sem]
  r1 := by simp [go_sem]
  r2 := by simp [go_sem]
  r3 := by simp [go_sem]
  z0 := by simp [go_sem]
  z1 := by simp [go_sem]
  z2 := by simp [go_sem]
  z3 := by simp [go_sem]
  ms := by rw [Below.heap_alloc W _ _ (Array.getElem?_eq_some_iff.1 hm).1]; exact hm
  mb := by rw [Below.heap_alloc W _ _ (Array.getElem?_eq_some_iff.1 hm2).1]; exact hm2
  ot := OT.nil _ _
  of := OF.nil _ _
  ap := fun b e => by cases e
/-- one more tag: what the append runs to. -/
theorem KE.appT {w : World} {N R : Nat} {s m : ByteArray} {vt vf : Value} {tm : Int} {ta : List TagP} {fa : List FdP} {k : DSt} {W : World} (h : KE w N R s m vt vf tm ta fa k W) (t : TagP) (hn : ta.length ≤ 1048576) :
    ∃ v' we, (∀ W', W' = W.alloc (.cells #[.string t.1, .string t.2] 102) → (Builtin.append_ #[29, 29] 29 #[vt, .slice (some ⟨W.heap.size, 0, none⟩) 1 1]).run Tryz.prog W' = .ok v' we) ∧ we.cell? ⟨R, 1, none⟩ = some vt ∧ we.frozen? ⟨R, 1, none⟩ = false ∧ KE w N R s m v' vf tm (ta ++ [t]) fa k (we.setCell ⟨R, 1, none⟩ v') ∧ ∃ a n c, v' = .slice a n c := by
  have hb : Below W.heap.size W (W.alloc (.cells #[.string t.1, .string t.2] 102)) := (Below.refl _ W).alloc (Nat.le_refl _) _
  have KW : KE w N R s m vt vf tm ta fa k (W.alloc (.cells #[.string t.1, .string t.2] 102)) := h.step (h.rd.below hb) (grown_of_below _ hb)
  obtain ⟨v', we, hr, ho, hgw, hv⟩ := Go.Proofs.YtbojljmacheccaaGreatDoor.appT _ (R + 1) vt ta [t] KW.ot (by have := KW.lt; omega) (some ⟨W.heap.size, 0, none⟩) 1 (Or.inr ⟨W.heap.size, 0, rfl, by simp, fun i x hx => by
    cases i with
    | zero => simp at hx; subst hx; exact ⟨by simp [go_sem], by simp [go_sem]⟩
    | succ i => simp at hx⟩) (by simp; omega)
  obtain ⟨a, c, e, _⟩ := ho.tin
  obtain ⟨q1, q2, q3⟩ := KW.tags hgw ho hv
  exact ⟨v', we, fun W' e => by subst e; exact hr, q1, q2, q3, a, _, c, e⟩
theorem KE.appF {w : World} {N R : Nat} {s m : ByteArray} {vt vf : Value} {tm : Int} {ta : List TagP} {fa : List FdP} {k : DSt} {W : World} (h : KE w N R s m vt vf tm ta fa k W) (t : FdP) (hn : fa.length ≤ 1048576) :
    ∃ v' we, (∀ W', W' = W.alloc (.cells #[.string t.1, .int .i64 t.2] 86) → (Builtin.append_ #[30, 30] 30 #[vf, .slice (some ⟨W.heap.size, 0, none⟩) 1 1]).run Tryz.prog W' = .ok v' we) ∧ we.cell? ⟨R, 2, none⟩ = some vf ∧ we.frozen? ⟨R, 2, none⟩ = false ∧ KE w N R s m vt v' tm ta (fa ++ [t]) k (we.setCell ⟨R, 2, none⟩ v') ∧ ∃ a n c, v' = .slice a n c := by
  have hb : Below W.heap.size W (W.alloc (.cells #[.string t.1, .int .i64 t.2] 86)) := (Below.refl _ W).alloc (Nat.le_refl _) _
  have KW : KE w N R s m vt vf tm ta fa k (W.alloc (.cells #[.string t.1, .int .i64 t.2] 86)) := h.step (h.rd.below hb) (grown_of_below _ hb)
  obtain ⟨v', we, hr, ho, hgw, hv⟩ := Ln.appF _ (R + 1) vf fa [t] KW.of (by have := KW.lt; omega) (some ⟨W.heap.size, 0, none⟩) 1 (Or.inr ⟨W.heap.size, 0, rfl, by simp, fun i x hx => by
    cases i with
    | zero => simp at hx; subst hx; exact ⟨by simp [go_sem], by simp [go_sem]⟩
    | succ i => simp at hx⟩) (by simp; omega)
  obtain ⟨a, c, e, _⟩ := ho.tin
  obtain ⟨q1, q2, q3⟩ := KW.flds hgw ho hv
  exact ⟨v', we, fun W' e => by subst e; exact hr, q1, q2, q3, a, _, c, e⟩
end Go.Proofs.YtbojljmacheccaaGreatDoor.Ln
