
import Derived.Test.YtaknjkinagppoaaGreatDoorKqE
import Derived.Test.YtaknjkinagppoaaGreatDoorKqA
import Derived.Test.YtaknjkinagppoaaGreatDoorKyG
namespace Go.Proofs.YtaknjkinagppoaaGreatDoor
open Go.RowKit Go.Shelf
set_option linter.unusedVariables false
set_option linter.unusedSimpArgs false
def serO : Obj := .cells #[.string ⟨#[]⟩, .slice none 0 0, .string ⟨#[]⟩] 24
/-- while a key is read: the reader at N, what is read at R, the result at w's end. -/
structure KP (w : World) (N R : Nat) (s m f : ByteArray) (v : Value) (acc : List TagP) (st : StP) (W : World) : Prop where
  rd : RdA N s st W
  hN : w.heap.size < N
  hR : N < R
  hRl : R < W.heap.size
  r0 : W.cell? ⟨R, 0, none⟩ = some (.string m)
  r1 : W.cell? ⟨R, 1, none⟩ = some v
  r2 : W.cell? ⟨R, 2, none⟩ = some (.string f)
  f1 : W.frozen? ⟨R, 1, none⟩ = false
  f2 : W.frozen? ⟨R, 2, none⟩ = false
  ms : W.heap[w.heap.size]? = some serO
  own : OT W (R + 1) v acc
  bl : Below w.heap.size w W
theorem grown_cell {w w' : World} {N : Nat} (h : w.grownBy w' (some N)) {p : Addr} (hp : p.block < w.heap.size) (hne : p.block ≠ N) : w'.cell? p = w.cell? p := h.cell_far p hp (by simp; exact fun e => hne e)
theorem grown_frozen {w w' : World} {N : Nat} (h : w.grownBy w' (some N)) {p : Addr} (hp : p.block < w.heap.size) (hne : p.block ≠ N) : w'.frozen? p = w.frozen? p := h.frozen_far p hp (by simp; exact fun e => hne e)
theorem OT.grown {w w' : World} {B N : Nat} {v : Value} {l : List TagP} (h : OT w B v l) (hg : w.grownBy w' (some N)) (hN : N < B) : OT w' B v l := by
  refine ⟨h.1, ?_⟩
  rcases h.2 with h2 | ⟨g, cap, cur, e1, e2, e3, e4⟩
  · exact Or.inl h2
  · exact Or.inr ⟨g, cap, cur, e1, e2, by rw [hg.block g (Array.getElem?_eq_some_iff.1 e3).1 (by simp; omega)]; exact e3, e4⟩
theorem OT.mono {w : World} {B C : Nat} {v : Value} {l : List TagP} (h : OT w B v l) (hc : C ≤ B) : OT w C v l := by
  refine ⟨h.1, ?_⟩
  rcases h.2 with h2 | ⟨g, cap, cur, e1, e2, e3⟩
  · exact Or.inl h2
  · exact Or.inr ⟨g, cap, cur, e1, by omega, e3⟩
theorem KP.step {w : World} {N R : Nat} {s m f : ByteArray} {v : Value} {acc : List TagP} {st st' : StP} {W W' : World} (h : KP w N R s m f v acc st W) (hr : RdA N s st' W') (hg : W.grownBy W' (some N)) : KP w N R s m f v acc st' W' where
  rd := hr
  hN := h.hN
  hR := h.hR
  hRl := Nat.lt_of_lt_of_le h.hRl hg.size
  r0 := by have := h.hR; rw [grown_cell hg (p := ⟨R, 0, none⟩) h.hRl (by simp; omega)]; exact h.r0
  r1 := by have := h.hR; rw [grown_cell hg (p := ⟨R, 1, none⟩) h.hRl (by simp; omega)]; exact h.r1
  r2 := by have := h.hR; rw [grown_cell hg (p := ⟨R, 2, none⟩) h.hRl (by simp; omega)]; exact h.r2
  f1 := by have := h.hR; rw [grown_frozen hg (p := ⟨R, 1, none⟩) h.hRl (by simp; omega)]; exact h.f1
  f2 := by have := h.hR; rw [grown_frozen hg (p := ⟨R, 2, none⟩) h.hRl (by simp; omega)]; exact h.f2
  ms := by have := h.hN; have := h.hR; have := h.hRl; rw [hg.block w.heap.size (by omega) (by simp; omega)]; exact h.ms
  own := h.own.grown hg (by have := h.hR; omega)
  bl := by
    have := h.hN
    exact h.bl.trans ⟨hg.os, hg.tape, hg.output, hg.size, fun k hk => hg.block k (by have := h.bl.size; omega) (by simp; omega)⟩
theorem KP.rows {w : World} {N R : Nat} {s m f : ByteArray} {v v' : Value} {acc acc' : List TagP} {st : StP} {W W' : World} (h : KP w N R s m f v acc st W) (hg : W.grownBy W' v.ownBlock) (ho : OT W' (R + 1) v' acc') : KP w N R s m f v' acc' st (W'.setCell ⟨R, 1, none⟩ v') := by
  have hb : Below (R + 1) W W' := grown_below h.own (by have := h.hRl; omega) hg
  have hR := h.hR
  have hN := h.hN
  have hsz := hb.size
  have hRl := h.hRl
  have kc : ∀ i, W'.cell? ⟨R, i, none⟩ = W.cell? ⟨R, i, none⟩ := fun i => hb.cell (p := ⟨R, i, none⟩) (Nat.lt_succ_self _)
  have kf : ∀ i, W'.frozen? ⟨R, i, none⟩ = W.frozen? ⟨R, i, none⟩ := fun i => hb.frozen (p := ⟨R, i, none⟩) (Nat.lt_succ_self _)
  have hk : ∀ j, j ≠ R → (W'.setCell ⟨R, 1, none⟩ v').heap[j]? = W'.heap[j]? := fun j hj => Below.heap_setCell _ _ _ _ hj
  have hr : RdA N s st W' := h.rd.below hb (by omega)
  have hgs := grown_set W' R 1 v'
  have hrd : RdA N s st (W'.setCell ⟨R, 1, none⟩ v') := by
    obtain ⟨a0, a1, a2, a3, a4, a5⟩ := hr
    refine ⟨by simpa using a0, ?_, ?_, ?_, ?_, ?_⟩
    · rw [grown_cell hgs (p := ⟨N, 0, none⟩) a0 (by simp; omega)]; exact a1
    · rw [grown_cell hgs (p := ⟨N, 1, none⟩) a0 (by simp; omega)]; exact a2
    · rw [grown_cell hgs (p := ⟨N, 2, none⟩) a0 (by simp; omega)]; exact a3
    · rw [grown_frozen hgs (p := ⟨N, 1, none⟩) a0 (by simp; omega)]; exact a4
    · rw [grown_frozen hgs (p := ⟨N, 2, none⟩) a0 (by simp; omega)]; exact a5
  exact {
    rd := hrd
    hN := hN
    hR := hR
    hRl := by simp; omega
    r0 := by rw [World.cell?_setCell_other _ _ _ _ (by intro e; injection e with e1 e2; cases e2)]; rw [kc]; exact h.r0
    r1 := World.cell?_setCell_same _ _ _ (by rw [kc]; exact h.r1)
    r2 := by rw [World.cell?_setCell_other _ _ _ _ (by intro e; injection e with e1 e2; cases e2)]; rw [kc]; exact h.r2
    f1 := by simp [go_sem]; rw [kf]; exact h.f1
    f2 := by simp [go_sem]; rw [kf]; exact h.f2
    ms := by rw [hk _ (by omega), hb.block _ (by omega)]; exact h.ms
    own := ho.grown hgs (by omega)
    bl := (h.bl.trans (hb.mono (by omega))).trans ⟨rfl, rfl, rfl, by simp, fun k hkk => hk k (by omega)⟩ }
end Go.Proofs.YtaknjkinagppoaaGreatDoor
