
import Derived.Test.YtaknjkinagppoaaGreatDoorKqG
import Derived.Test.YtaknjkinagppoaaGreatDoorKqJ
import Derived.Test.YtaknjkinagppoaaGreatDoorKzD
namespace Go.Proofs.YtaknjkinagppoaaGreatDoor
open Go.RowKit Go.Shelf
set_option linter.unusedVariables false
set_option linter.unusedSimpArgs false
/-- the cells of an error: its number, its place, has it one. -/
def bC (fl : Option Int) : Int := if fl = none then 0 else 53
def bA (fl : Option Int) : Int := fl.getD 0
def bP (fl : Option Int) : Bool := fl.isSome
theorem bdF_eq (fl : Option Int) : bdF fl = .agg #[.int .i64 (bC fl), .int .i64 (bA fl), .int .i64 0, .bool (bP fl), .bool false] := by
  cases fl <;> rfl
/-- an error in five cells. -/
def BQ (N : Nat) (c A : Int) (P : Bool) (W : World) : Prop := N < W.heap.size ∧ (W.cell? ⟨N, 0, none⟩ = some (.int .i64 c) ∧ W.cell? ⟨N, 1, none⟩ = some (.int .i64 A) ∧ W.cell? ⟨N, 2, none⟩ = some (.int .i64 0) ∧ W.cell? ⟨N, 3, none⟩ = some (.bool P) ∧ W.cell? ⟨N, 4, none⟩ = some (.bool false)) ∧ ∀ i, i < 5 → W.frozen? ⟨N, i, none⟩ = false
theorem BQ.below {N B : Nat} {c A : Int} {P : Bool} {W W' : World} (h : BQ N c A P W) (hb : Below B W W') (hN : N < B) : BQ N c A P W' := by
  obtain ⟨h0, ⟨h1, h2, h3, h4, h5⟩, h6⟩ := h
  refine ⟨Nat.lt_of_lt_of_le h0 hb.size, ⟨?_, ?_, ?_, ?_, ?_⟩, fun i hi => by rw [hb.frozen (p := ⟨N, i, none⟩) hN]; exact h6 i hi⟩
  · rw [hb.cell (p := ⟨N, 0, none⟩) hN]; exact h1
  · rw [hb.cell (p := ⟨N, 1, none⟩) hN]; exact h2
  · rw [hb.cell (p := ⟨N, 2, none⟩) hN]; exact h3
  · rw [hb.cell (p := ⟨N, 3, none⟩) hN]; exact h4
  · rw [hb.cell (p := ⟨N, 4, none⟩) hN]; exact h5
theorem BQ.far {N R i : Nat} {c A : Int} {P : Bool} {W : World} (h : BQ N c A P W) (hR : N ≠ R) (v : Value) : BQ N c A P (W.setCell ⟨R, i, none⟩ v) := by
  have hgs := grown_set W R i v
  obtain ⟨h0, ⟨h1, h2, h3, h4, h5⟩, h6⟩ := h
  refine ⟨by simpa using h0, ⟨?_, ?_, ?_, ?_, ?_⟩, fun i hi => by rw [grown_frozen hgs (p := ⟨N, _, none⟩) h0 hR]; exact h6 i hi⟩
  · rw [grown_cell hgs (p := ⟨N, 0, none⟩) h0 hR]; exact h1
  · rw [grown_cell hgs (p := ⟨N, 1, none⟩) h0 hR]; exact h2
  · rw [grown_cell hgs (p := ⟨N, 2, none⟩) h0 hR]; exact h3
  · rw [grown_cell hgs (p := ⟨N, 3, none⟩) h0 hR]; exact h4
  · rw [grown_cell hgs (p := ⟨N, 4, none⟩) h0 hR]; exact h5
def set5 (W : World) (N : Nat) (c A : Int) (P : Bool) : World := ((((W.setCell ⟨N, 0, none⟩ (.int .i64 c)).setCell ⟨N, 1, none⟩ (.int .i64 A)).setCell ⟨N, 2, none⟩ (.int .i64 0)).setCell ⟨N, 3, none⟩ (.bool P)).setCell ⟨N, 4, none⟩ (.bool false)
theorem BQ.set {N : Nat} {c A c' A' : Int} {P P' : Bool} {W : World} (h : BQ N c A P W) : BQ N c' A' P' (set5 W N c' A' P') := by
  obtain ⟨h0, ⟨h1, h2, h3, h4, h5⟩, h6⟩ := h
  unfold set5
  refine ⟨by simpa using h0, ⟨?_, ?_, ?_, ?_, ?_⟩, fun i hi => ?_⟩
  · simp [go_sem, h1]
  · simp [go_sem, h2]
  · simp [go_sem, h3]
  · simp [go_sem, h4]
  · simp [go_sem, h5]
  · have := h6 i hi; simp [go_sem, this]
theorem set5_grown (W : World) (N : Nat) (c A : Int) (P : Bool) : W.grownBy (set5 W N c A P) (some N) := by
  unfold set5
  exact grown_trans (grown_trans (grown_trans (grown_trans (grown_set _ N 0 _) (grown_set _ N 1 _)) (grown_set _ N 2 _)) (grown_set _ N 3 _)) (grown_set _ N 4 _)
/-- while the document's key is read: what is read at R, the error at N, the results at w's end. -/
structure DP (w : World) (N R : Nat) (m f : ByteArray) (v : Value) (acc : List TagP) (fl : Option Int) (W : World) : Prop where
  bq : BQ N (bC fl) (bA fl) (bP fl) W
  hR : w.heap.size + 1 < R
  hN : R < N
  r : W.cell? ⟨R, 0, none⟩ = some (.string m) ∧ W.cell? ⟨R, 1, none⟩ = some v ∧ W.cell? ⟨R, 2, none⟩ = some (.string f)
  fz : ∀ i, i < 3 → W.frozen? ⟨R, i, none⟩ = false
  ms : W.heap[w.heap.size]? = some serO
  mb : W.heap[w.heap.size + 1]? = some bdO
  own : OT W (N + 1) v acc
  bl : Below w.heap.size w W
theorem DP.grown {w : World} {N R : Nat} {m f : ByteArray} {v : Value} {acc : List TagP} {fl fl' : Option Int} {W W' : World} (h : DP w N R m f v acc fl W) (hb : BQ N (bC fl') (bA fl') (bP fl') W') (hg : W.grownBy W' (some N)) : DP w N R m f v acc fl' W' := by
  have h1 := h.hR
  have h2 := h.hN
  have h3 := h.bq.1
  exact {
    bq := hb
    hR := h1
    hN := h2
    r := ⟨by rw [grown_cell hg (p := ⟨R, 0, none⟩) (by simp; omega) (by simp; omega)]; exact h.r.1, by rw [grown_cell hg (p := ⟨R, 1, none⟩) (by simp; omega) (by simp; omega)]; exact h.r.2.1, by rw [grown_cell hg (p := ⟨R, 2, none⟩) (by simp; omega) (by simp; omega)]; exact h.r.2.2⟩
    fz := fun i hi => by rw [grown_frozen hg (p := ⟨R, i, none⟩) (by simp; omega) (by simp; omega)]; exact h.fz i hi
    ms := by rw [hg.block _ (by omega) (by simp; omega)]; exact h.ms
    mb := by rw [hg.block _ (by omega) (by simp; omega)]; exact h.mb
    own := h.own.grown hg (Nat.lt_succ_self _)
    bl := h.bl.trans ⟨hg.os, hg.tape, hg.output, hg.size, fun k hk => hg.block k (by omega) (by simp; omega)⟩ }
theorem DP.below {w : World} {N R : Nat} {m f : ByteArray} {v : Value} {acc : List TagP} {fl : Option Int} {W W' : World} (h : DP w N R m f v acc fl W) (hb : Below W.heap.size W W') : DP w N R m f v acc fl W' := h.grown (h.bq.below hb h.bq.1) (grown_of_below N hb)
theorem DP.setB {w : World} {N R : Nat} {m f : ByteArray} {v : Value} {acc : List TagP} {fl : Option Int} {W : World} (h : DP w N R m f v acc fl W) (fl' : Option Int) : DP w N R m f v acc fl' (set5 W N (bC fl') (bA fl') (bP fl')) := h.grown h.bq.set (set5_grown W N _ _ _)
theorem DP.setF {w : World} {N R : Nat} {m f : ByteArray} {v : Value} {acc : List TagP} {fl : Option Int} {W : World} (h : DP w N R m f v acc fl W) (g : ByteArray) : DP w N R m g v acc fl (W.setCell ⟨R, 2, none⟩ (.string g)) := by
  have h1 := h.hR
  have h2 := h.hN
  have h3 := h.bq.1
  have hgs := grown_set W R 2 (.string g)
  exact {
    bq := h.bq.far (by omega) _
    hR := h1
    hN := h2
    r := ⟨by rw [World.cell?_setCell_other _ _ _ _ (by intro e; injection e with e1 e2; cases e2)]; exact h.r.1, by rw [World.cell?_setCell_other _ _ _ _ (by intro e; injection e with e1 e2; cases e2)]; exact h.r.2.1, World.cell?_setCell_same _ _ _ h.r.2.2⟩
    fz := fun i hi => by have := h.fz i hi; simp [go_sem, this]
    ms := by rw [hgs.block _ (by omega) (by simp; omega)]; exact h.ms
    mb := by rw [hgs.block _ (by omega) (by simp; omega)]; exact h.mb
    own := h.own.grown hgs (by omega)
    bl := h.bl.trans ⟨hgs.os, hgs.tape, hgs.output, hgs.size, fun k hk => hgs.block k (by omega) (by simp; omega)⟩ }
theorem DP.rows {w : World} {N R : Nat} {m f : ByteArray} {v v' : Value} {acc acc' : List TagP} {fl : Option Int} {W W' : World} (h : DP w N R m f v acc fl W) (hg : W.grownBy W' v.ownBlock) (ho : OT W' (N + 1) v' acc') : DP w N R m f v' acc' fl (W'.setCell ⟨R, 1, none⟩ v') := by
  have h1 := h.hR
  have h2 := h.hN
  have h3 := h.bq.1
  have hb : Below (N + 1) W W' := grown_below h.own (by omega) hg
  have hz := hb.size
  have kc : ∀ i, W'.cell? ⟨R, i, none⟩ = W.cell? ⟨R, i, none⟩ := fun i => hb.cell (p := ⟨R, i, none⟩) (show R < N + 1 by omega)
  have kf : ∀ i, W'.frozen? ⟨R, i, none⟩ = W.frozen? ⟨R, i, none⟩ := fun i => hb.frozen (p := ⟨R, i, none⟩) (show R < N + 1 by omega)
  have hgs := grown_set W' R 1 v'
  have hbl : Below w.heap.size w W' := h.bl.trans (hb.mono (by omega))
  exact {
    bq := (h.bq.below hb (Nat.lt_succ_self _)).far (by omega) _
    hR := h1
    hN := h2
    r := ⟨by rw [World.cell?_setCell_other _ _ _ _ (by intro e; injection e with e1 e2; cases e2), kc]; exact h.r.1, World.cell?_setCell_same _ _ _ (by rw [kc]; exact h.r.2.1), by rw [World.cell?_setCell_other _ _ _ _ (by intro e; injection e with e1 e2; cases e2), kc]; exact h.r.2.2⟩
    fz := fun i hi => by have := h.fz i hi; rw [← kf] at this; simp [go_sem, this]
    ms := by rw [hgs.block _ (by omega) (by simp; omega), hb.block _ (by omega)]; exact h.ms
    mb := by rw [hgs.block _ (by omega) (by simp; omega), hb.block _ (by omega)]; exact h.mb
    own := ho.grown hgs (by omega)
    bl := hbl.trans ⟨hgs.os, hgs.tape, hgs.output, hgs.size, fun k hk => hgs.block k (by omega) (by simp; omega)⟩ }
end Go.Proofs.YtaknjkinagppoaaGreatDoor

namespace Go.Proofs.YtaknjkinagppoaaGreatDoor
open Go.RowKit Go.Shelf
set_option linter.unusedVariables false
set_option linter.unusedSimpArgs false
theorem OT.keep {w w' : World} {B : Nat} {v : Value} {l : List TagP} (h : OT w B v l) (hk : ∀ g, v.ownBlock = some g → w'.heap[g]? = w.heap[g]?) : OT w' B v l := by
  refine ⟨h.1, ?_⟩
  rcases h.2 with h2 | ⟨g, cap, cur, e1, e2, e3, e4⟩
  · exact Or.inl h2
  · exact Or.inr ⟨g, cap, cur, e1, e2, by rw [hk g (by rw [e1]; rfl)]; exact e3, e4⟩
/-- .. with a tag of one's own at X. -/
structure DX (w : World) (N R : Nat) (m f : ByteArray) (v : Value) (acc : List TagP) (fl : Option Int) (X : Nat) (k u : ByteArray) (W : World) : Prop where
  d : DP w N R m f v acc fl W
  hX : N < X ∧ X < W.heap.size
  x : W.cell? ⟨X, 0, none⟩ = some (.string k) ∧ W.cell? ⟨X, 1, none⟩ = some (.string u)
  fx : ∀ i, i < 2 → W.frozen? ⟨X, i, none⟩ = false
  ne : v.ownBlock ≠ some X
theorem DX.new {w : World} {N R : Nat} {m f : ByteArray} {v : Value} {acc : List TagP} {fl : Option Int} {W : World} (h : DP w N R m f v acc fl W) : DX w N R m f v acc fl W.heap.size ⟨#[]⟩ ⟨#[]⟩ (W.alloc (.cells #[.string ⟨#[]⟩, .string ⟨#[]⟩] 43)) where
  d := h.below ((Below.refl _ W).alloc (Nat.le_refl _) _)
  hX := ⟨h.bq.1, by simp⟩
  x := ⟨by simp [go_sem], by simp [go_sem]⟩
  fx := fun i _ => by simp [go_sem]
  ne := fun e => by have := (h.own.bound e).2; omega
theorem DX.below {w : World} {N R : Nat} {m f : ByteArray} {v : Value} {acc : List TagP} {fl : Option Int} {X : Nat} {k u : ByteArray} {W W' : World} (h : DX w N R m f v acc fl X k u W) (hb : Below W.heap.size W W') : DX w N R m f v acc fl X k u W' where
  d := h.d.below hb
  hX := ⟨h.hX.1, Nat.lt_of_lt_of_le h.hX.2 hb.size⟩
  x := ⟨by rw [hb.cell (p := ⟨X, 0, none⟩) h.hX.2]; exact h.x.1, by rw [hb.cell (p := ⟨X, 1, none⟩) h.hX.2]; exact h.x.2⟩
  fx := fun i hi => by rw [hb.frozen (p := ⟨X, i, none⟩) h.hX.2]; exact h.fx i hi
  ne := h.ne
theorem DX.setB {w : World} {N R : Nat} {m f : ByteArray} {v : Value} {acc : List TagP} {fl : Option Int} {X : Nat} {k u : ByteArray} {W : World} (h : DX w N R m f v acc fl X k u W) (fl' : Option Int) : DX w N R m f v acc fl' X k u (set5 W N (bC fl') (bA fl') (bP fl')) := by
  have hg := set5_grown W N (bC fl') (bA fl') (bP fl')
  have h1 := h.hX
  exact ⟨h.d.setB fl', ⟨h1.1, Nat.lt_of_lt_of_le h1.2 hg.size⟩, ⟨by rw [grown_cell hg (p := ⟨X, 0, none⟩) h1.2 (by simp; omega)]; exact h.x.1, by rw [grown_cell hg (p := ⟨X, 1, none⟩) h1.2 (by simp; omega)]; exact h.x.2⟩, fun i hi => by rw [grown_frozen hg (p := ⟨X, i, none⟩) h1.2 (by simp; omega)]; exact h.fx i hi, h.ne⟩
theorem DP.farX {w : World} {N R : Nat} {m f : ByteArray} {v : Value} {acc : List TagP} {fl : Option Int} {W : World} (h : DP w N R m f v acc fl W) {X i : Nat} (hX : N < X) (ne : v.ownBlock ≠ some X) (y : Value) : DP w N R m f v acc fl (W.setCell ⟨X, i, none⟩ y) := by
  have h1 := h.hR
  have h2 := h.hN
  have h3 := h.bq.1
  have hg := grown_set W X i y
  exact {
    bq := h.bq.far (by omega) _
    hR := h1
    hN := h2
    r := ⟨by rw [grown_cell hg (p := ⟨R, 0, none⟩) (by simp; omega) (by simp; omega)]; exact h.r.1, by rw [grown_cell hg (p := ⟨R, 1, none⟩) (by simp; omega) (by simp; omega)]; exact h.r.2.1, by rw [grown_cell hg (p := ⟨R, 2, none⟩) (by simp; omega) (by simp; omega)]; exact h.r.2.2⟩
    fz := fun i hi => by rw [grown_frozen hg (p := ⟨R, i, none⟩) (by simp; omega) (by simp; omega)]; exact h.fz i hi
    ms := by rw [hg.block _ (by omega) (by simp; omega)]; exact h.ms
    mb := by rw [hg.block _ (by omega) (by simp; omega)]; exact h.mb
    own := h.own.keep (fun g e => hg.block g (h.own.bound e).2 (by simp; intro e2; exact ne (by rw [e, e2])))
    bl := h.bl.trans ⟨hg.os, hg.tape, hg.output, hg.size, fun k hk => hg.block k (by omega) (by simp; omega)⟩ }
theorem DX.setK {w : World} {N R : Nat} {m f : ByteArray} {v : Value} {acc : List TagP} {fl : Option Int} {X : Nat} {k u : ByteArray} {W : World} (h : DX w N R m f v acc fl X k u W) (k' : ByteArray) : DX w N R m f v acc fl X k' u (W.setCell ⟨X, 0, none⟩ (.string k')) where
  d := h.d.farX h.hX.1 h.ne _
  hX := ⟨h.hX.1, by simpa using h.hX.2⟩
  x := ⟨World.cell?_setCell_same _ _ _ h.x.1, by rw [World.cell?_setCell_other _ _ _ _ (by intro e; injection e with e1 e2; cases e2)]; exact h.x.2⟩
  fx := fun i hi => by have := h.fx i hi; simp [go_sem, this]
  ne := h.ne
theorem DX.setU {w : World} {N R : Nat} {m f : ByteArray} {v : Value} {acc : List TagP} {fl : Option Int} {X : Nat} {k u : ByteArray} {W : World} (h : DX w N R m f v acc fl X k u W) (u' : ByteArray) : DX w N R m f v acc fl X k u' (W.setCell ⟨X, 1, none⟩ (.string u')) where
  d := h.d.farX h.hX.1 h.ne _
  hX := ⟨h.hX.1, by simpa using h.hX.2⟩
  x := ⟨by rw [World.cell?_setCell_other _ _ _ _ (by intro e; injection e with e1 e2; cases e2)]; exact h.x.1, World.cell?_setCell_same _ _ _ h.x.2⟩
  fx := fun i hi => by have := h.fx i hi; simp [go_sem, this]
  ne := h.ne
theorem DP.start {w : World} {R : Nat} (m : ByteArray) (fl : Option Int) (W : World) (hR : w.heap.size + 1 < R) (hRl : R < W.heap.size) (hb : Below w.heap.size w W) (hs : W.heap[w.heap.size]? = some serO) (hm : W.heap[w.heap.size + 1]? = some bdO) (hr : W.heap[R]? = some serO) :
    DP w W.heap.size R m ⟨#[]⟩ (.slice none 0 0) [] fl ((W.alloc (.cells #[.int .i64 (bC fl), .int .i64 (bA fl), .int .i64 0, .bool (bP fl), .bool false] 31)).setCell ⟨R, 0, none⟩ (.string m)) := by
  obtain ⟨⟨z0, z1, z2⟩, y0, y1, y2⟩ := ms_cells hr
  have hba : Below W.heap.size W (W.alloc (.cells #[.int .i64 (bC fl), .int .i64 (bA fl), .int .i64 0, .bool (bP fl), .bool false] 31)) := (Below.refl _ W).alloc (Nat.le_refl _) _
  have bq0 : BQ W.heap.size (bC fl) (bA fl) (bP fl) (W.alloc (.cells #[.int .i64 (bC fl), .int .i64 (bA fl), .int .i64 0, .bool (bP fl), .bool false] 31)) := ⟨by simp, ⟨by simp [go_sem], by simp [go_sem], by simp [go_sem], by simp [go_sem], by simp [go_sem]⟩, fun i _ => by simp [go_sem]⟩
  generalize W.alloc (.cells #[.int .i64 (bC fl), .int .i64 (bA fl), .int .i64 0, .bool (bP fl), .bool false] 31) = W' at *
  have hgs := grown_set W' R 0 (.string m)
  have hz := hba.size
  have q0 := bq0.1
  have c : ∀ i, W'.cell? ⟨R, i, none⟩ = W.cell? ⟨R, i, none⟩ := fun i => hba.cell (p := ⟨R, i, none⟩) hRl
  have fz : ∀ i, W'.frozen? ⟨R, i, none⟩ = W.frozen? ⟨R, i, none⟩ := fun i => hba.frozen (p := ⟨R, i, none⟩) hRl
  exact {
    bq := bq0.far (by omega) _
    hR := hR
    hN := hRl
    r := ⟨World.cell?_setCell_same _ _ _ (by rw [c]; exact z0), by rw [World.cell?_setCell_other _ _ _ _ (by intro e; injection e with e1 e2; cases e2), c]; exact z1, by rw [World.cell?_setCell_other _ _ _ _ (by intro e; injection e with e1 e2; cases e2), c]; exact z2⟩
    fz := fun i hi => by
      have : W'.frozen? ⟨R, i, none⟩ = false := by
        rw [fz]
        rcases (by omega : i = 0 ∨ i = 1 ∨ i = 2) with e | e | e
        · subst e; exact y0
        · subst e; exact y1
        · subst e; exact y2
      simp [go_sem, this]
    ms := by rw [hgs.block _ (by omega) (by simp; omega), hba.block _ (by omega)]; exact hs
    mb := by rw [hgs.block _ (by omega) (by simp; omega), hba.block _ (by omega)]; exact hm
    own := OT.nil _ _
    bl := (hb.trans (hba.mono (by omega))).trans ⟨hgs.os, hgs.tape, hgs.output, hgs.size, fun k hk => hgs.block k (by omega) (by simp; omega)⟩ }
theorem mb_cells {W : World} {M : Nat} (h : W.heap[M]? = some bdO) : (W.cell? ⟨M, 0, none⟩ = some (.int .i64 0) ∧ W.cell? ⟨M, 1, none⟩ = some (.int .i64 0) ∧ W.cell? ⟨M, 2, none⟩ = some (.int .i64 0) ∧ W.cell? ⟨M, 3, none⟩ = some (.bool false) ∧ W.cell? ⟨M, 4, none⟩ = some (.bool false)) ∧ ∀ i, W.frozen? ⟨M, i, none⟩ = false := by
  refine ⟨⟨?_, ?_, ?_, ?_, ?_⟩, fun i => ?_⟩ <;> simp [World.cell?, World.frozen?, h, bdO]
end Go.Proofs.YtaknjkinagppoaaGreatDoor
