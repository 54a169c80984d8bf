
import Derived.Test.YticgapplpfaigaaGreatWkB
namespace Go.Proofs.YticgapplpfaigaaGreat
open Go.RowKit
set_option linter.unusedVariables false
set_option linter.unusedSimpArgs false
theorem XC.lay {xb : Nat} {w : World} {s : Smp} (hc : XC xb s w) (s1 : Smp) : XC xb s1 (((w.setCell ⟨xb, 0, none⟩ (.int .i64 s1.t)).setCell ⟨xb, 1, none⟩ (.int .u8 (s1.k : Int))).setCell ⟨xb, 2, none⟩ (.int .i64 s1.x)) := by
  have x0 := hc.c0
  have x1 := hc.c1
  have x2 := hc.c2
  have ho : ∀ (W : World) (p q : Addr) (u : Value), p ≠ q → (W.setCell p u).cell? q = W.cell? q := fun W p q u h => World.cell?_setCell_other W p q u h
  have hs : ∀ (W : World) (p : Addr) (u u0 : Value), W.cell? p = some u0 → (W.setCell p u).cell? p = some u := fun W p u u0 h => World.cell?_setCell_same W p u h
  refine ⟨?_, ?_, ?_, by simp [hc.f0], by simp [hc.f1], by simp [hc.f2]⟩
  · exact ((ho _ _ _ _ (by simp)).trans (ho _ _ _ _ (by simp))).trans (hs _ _ _ _ x0)
  · exact (ho _ _ _ _ (by simp)).trans (hs _ _ _ _ ((ho _ _ _ _ (by simp)).trans x1))
  · exact hs _ _ _ _ (((ho _ _ _ _ (by simp)).trans (ho _ _ _ _ (by simp))).trans x2)
theorem SS.other {N B : Nat} {v : Value} {l : List Smp} {w : World} (h : SS N B v l w) {p : Addr} (h1 : N ≠ p.block) (h2 : v.ownBlock ≠ some p.block) (u : Value) : SS N B v l (w.setCell p u) :=
  ⟨by rw [World.cell?_of_block (w := w) (Below.heap_setCell w p u N h1)]; exact h.c0, by rw [World.frozen?_setCell]; exact h.f0, h.row.keep (by simp) (fun g e => Below.heap_setCell w p u g (fun e2 => h2 (by rw [e, e2]))), h.ne, by simpa using h.hN, h.hB, h.hk, h.hr, h.hn⟩
theorem WkS.lay {T xb : Nat} {X : List Smp} {wT w : World} {v : Value} {k : Nat} {s : Smp} (h : WkS T xb X wT w v k) (hc : XC xb s w) (s1 : Smp) (o : Obj) :
    WkS T xb X wT ((((w.setCell ⟨xb, 0, none⟩ (.int .i64 s1.t)).setCell ⟨xb, 1, none⟩ (.int .u8 (s1.k : Int))).setCell ⟨xb, 2, none⟩ (.int .i64 s1.x)).alloc o) v k ∧ XC xb s1 ((((w.setCell ⟨xb, 0, none⟩ (.int .i64 s1.t)).setCell ⟨xb, 1, none⟩ (.int .u8 (s1.k : Int))).setCell ⟨xb, 2, none⟩ (.int .i64 s1.x)).alloc o) := by
  have hl := h.hl
  have hx := h.hx
  have hT : T ≠ xb := by omega
  have hS := ((h.s2.other (p := ⟨xb, 0, none⟩) hT h.ne (.int .i64 s1.t)).other (p := ⟨xb, 1, none⟩) hT h.ne (.int .u8 (s1.k : Int))).other (p := ⟨xb, 2, none⟩) hT h.ne (.int .i64 s1.x)
  have hB := ((h.b.setCell (p := ⟨xb, 0, none⟩) (by simpa using Nat.le_of_lt hx) (.int .i64 s1.t)).setCell (p := ⟨xb, 1, none⟩) (by simpa using Nat.le_of_lt hx) (.int .u8 (s1.k : Int))).setCell (p := ⟨xb, 2, none⟩) (by simpa using Nat.le_of_lt hx) (.int .i64 s1.x)
  refine ⟨⟨hS.alloc o, h.ne, hB.alloc (by simp; omega) o, hx, by simp; omega⟩, (hc.lay s1).keep ?_⟩
  exact ((Below.refl _ _).alloc (Nat.le_refl _) o).block xb (by simpa using hl)
theorem WkS.put {T xb : Nat} {X : List Smp} {wT wr w' : World} {v2 v' : Value} {k : Nat} (h : WkS T xb X wT wr v2 k) (hs : SS T T v' (X.take (k + 1)) w') (hf : SFr T v2 v' wr w') : WkS T xb X wT w' v' (k + 1) ∧ w'.heap[xb]? = wr.heap[xb]? := by
  have hk := hf.keep xb h.hl (by have := h.hx; omega) (fun e => h.ne e.symm)
  refine ⟨⟨hs, ?_, h.b.trans (hf.below h.s2), h.hx, Nat.lt_of_lt_of_le h.hl hf.b.size⟩, hk⟩
  rcases hf.own with e | ⟨j, e, hj⟩
  · rw [e]; exact h.ne
  · rw [e]; intro e'; injection e' with e'; have := h.hl; omega
end Go.Proofs.YticgapplpfaigaaGreat
