
import Derived.Test.YtpicgjjbpiinfaaDoorBlO
namespace Go.Proofs.YtpicgjjbpiinfaaDoor
open Go.RowKit
set_option linter.unusedVariables false
set_option linter.unusedSimpArgs false
/-- the program's Writer, beside blocks that are no part of it. -/
def DZ (N : Nat) (w1 : World) (s : List Nat × Nat) (Z : Nat → Prop) (wx : World) : Prop := CL s.1 s.2 ∧ ∃ v, WS N w1 (s.2 : Int) v s.1.length (enc s.1) wx ∧ ∀ z, Z z → z ≠ N ∧ some z ≠ v.ownBlock ∧ z < wx.heap.size
theorem DZ.fr {N : Nat} {w1 w w' : World} {s : List Nat × Nat} {Z : Nat → Prop} {v v' : Value} {fr : Int} (hC : CL s.1 s.2) (hW : WS N w1 fr v' s.1.length (enc s.1) w') (hfr : fr = (s.2 : Int)) (F : Fr N v v' w w') (hZ : ∀ z, Z z → z ≠ N ∧ some z ≠ v.ownBlock ∧ z < w.heap.size) : DZ N w1 s Z w' ∧ KZ Z w w' := by
  subst hfr
  refine ⟨⟨hC, v', hW, fun z hz => ?_⟩, fun z hz => F.keep z (hZ z hz).2.2 (hZ z hz).1 (hZ z hz).2.1⟩
  obtain ⟨h1, h2, h3⟩ := hZ z hz
  refine ⟨h1, ?_, Nat.lt_of_lt_of_le h3 F.size⟩
  rcases F.own with e | ⟨k, e, hk⟩
  · rw [e]; exact h2
  · rw [e]; intro e'; injection e' with e'; omega
theorem dz_bits {N : Nat} {w1 w : World} {s : List Nat × Nat} {Z : Nat → Prop} (h : DZ N w1 s Z w) (x : Nat) (hx : x < 18446744073709551616) (z k : Int) (hz : z = (x : Int)) (hb : s.1.length + 100 ≤ 140737488355328) : Calls Tryd.prog 74 #[.pointer (some ⟨N, 0, none⟩), .int .u64 z, .int .i64 k] w fun e w' => e = .returned undef ∧ DZ N w1 (bitsOn x (broughtN k) s) Z w' ∧ KZ Z w w' := by
  subst hz
  obtain ⟨l, b⟩ := s
  obtain ⟨h1, v, h2, hZ⟩ := h
  refine (rbits_fr N w1 b h1.1 v l w h2 (fun hb => h1.pos hb) x hx k (by simp only at hb; omega)).mono ?_
  rintro e w' ⟨rfl, v', hW, F⟩
  exact ⟨rfl, DZ.fr (bitsOn_bt x (broughtN k) l b h1).1 hW rfl F hZ⟩
theorem DZ.dw {N : Nat} {w1 w : World} {s : List Nat × Nat} {Z : Nat → Prop} (h : DZ N w1 s Z w) : DW N w1 s w := by
  obtain ⟨h1, v, h2, hZ⟩ := h
  exact ⟨h1, v, h2⟩
theorem DZ.below {N : Nat} {w1 w w' : World} {s : List Nat × Nat} {Z : Nat → Prop} (h : DZ N w1 s Z w) (hb : Below w.heap.size w w') : DZ N w1 s Z w' := by
  obtain ⟨h1, v, h2, hZ⟩ := h
  exact ⟨h1, v, h2.belowW hb, fun z hz => ⟨(hZ z hz).1, (hZ z hz).2.1, Nat.lt_of_lt_of_le (hZ z hz).2.2 hb.size⟩⟩
/-- a block that is new. -/
theorem DZ.more {N : Nat} {w1 w w' : World} {s : List Nat × Nat} {Z : Nat → Prop} (h : DZ N w1 s Z w) (hb : Below w.heap.size w w') (hs : w.heap.size < w'.heap.size) : DZ N w1 s (fun z => Z z ∨ z = w.heap.size) w' := by
  obtain ⟨h1, v, h2, hZ⟩ := h
  refine ⟨h1, v, h2.belowW hb, fun z hz => ?_⟩
  rcases hz with hz | hz
  · exact ⟨(hZ z hz).1, (hZ z hz).2.1, Nat.lt_of_lt_of_le (hZ z hz).2.2 hb.size⟩
  · subst hz
    have := h2.sz
    exact ⟨by omega, fun e => by have := own_lt h2.own e.symm; omega, hs⟩
theorem DW.dz {N : Nat} {w1 w : World} {s : List Nat × Nat} (h : DW N w1 s w) : DZ N w1 s (fun _ => False) w := by
  obtain ⟨h1, v, h2⟩ := h
  exact ⟨h1, v, h2, fun z hz => hz.elim⟩
theorem DZ.set {N : Nat} {w1 w : World} {s : List Nat × Nat} {Z : Nat → Prop} (h : DZ N w1 s Z w) {z : Nat} (hz : Z z) (hN : N ≤ z) (j : Nat) (x : Value) : DZ N w1 s Z (w.setCell ⟨z, j, none⟩ x) := by
  obtain ⟨h1, v, ⟨c0, c1, f0, f1, own, b, sz⟩, hZ⟩ := h
  obtain ⟨k1, k2, k3⟩ := hZ z hz
  refine ⟨h1, v, ⟨?_, ?_, by simpa using f0, by simpa using f1, ⟨own.1, ?_⟩, b.setCell (p := ⟨z, j, none⟩) hN _, by simpa using sz⟩, fun y hy => ⟨(hZ y hy).1, (hZ y hy).2.1, by simpa using (hZ y hy).2.2⟩⟩
  · rw [World.cell?_setCell_other _ _ _ _ (by intro e; injection e with e1; omega)]; exact c0
  · rw [World.cell?_setCell_other _ _ _ _ (by intro e; injection e with e1; omega)]; exact c1
  · rcases own.2 with h2 | ⟨g, cap, cur, e1, e2, e3, e4⟩
    · exact Or.inl h2
    · refine Or.inr ⟨g, cap, cur, e1, e2, ?_, e4⟩
      rw [Below.heap_setCell _ _ _ _ (by intro e; exact k2 (by rw [e1]; simp [Value.ownBlock]; exact e.symm))]
      exact e3
/-- the Writer beside the value ahead. -/
structure WA (N : Nat) (w2 : World) (za : Nat) (v : VS) (wr : World) : Prop where
  rz : DZ N w2 v.s (fun z => z = za) wr
  c0 : wr.cell? ⟨za, 0, none⟩ = some (.int .u8 (v.ak : Int))
  c1 : wr.cell? ⟨za, 1, none⟩ = some (.int .i64 v.ax)
  f0 : wr.frozen? ⟨za, 0, none⟩ = false
  f1 : wr.frozen? ⟨za, 1, none⟩ = false
  le : N ≤ za
/-- what stands when the bits of a value are written, ahead of 'ahead = v'. -/
structure WB (N : Nat) (w2 : World) (za zv : Nat) (s : List Nat × Nat) (K : Nat) (X : Int) (wr : World) : Prop where
  rz : DZ N w2 s (fun z => z = za ∨ z = zv) wr
  a0 : ∃ u, wr.cell? ⟨za, 0, none⟩ = some u
  a1 : ∃ u, wr.cell? ⟨za, 1, none⟩ = some u
  f0 : wr.frozen? ⟨za, 0, none⟩ = false
  f1 : wr.frozen? ⟨za, 1, none⟩ = false
  v0 : wr.cell? ⟨zv, 0, none⟩ = some (.int .u8 (K : Int))
  v1 : wr.cell? ⟨zv, 1, none⟩ = some (.int .i64 X)
theorem WB.keep {N : Nat} {w2 : World} {za zv : Nat} {s s' : List Nat × Nat} {K : Nat} {X : Int} {wr w' : World} (h : WB N w2 za zv s K X wr) (hz : DZ N w2 s' (fun z => z = za ∨ z = zv) w') (hk : KZ (fun z => z = za ∨ z = zv) wr w') : WB N w2 za zv s' K X w' := by
  obtain ⟨_, ⟨u, a0⟩, ⟨u', a1⟩, f0, f1, v0, v1⟩ := h
  exact ⟨hz, ⟨u, by rw [hk.cell (Or.inl rfl)]; exact a0⟩, ⟨u', by rw [hk.cell (Or.inl rfl)]; exact a1⟩, by rw [hk.frozen (Or.inl rfl)]; exact f0, by rw [hk.frozen (Or.inl rfl)]; exact f1, by rw [hk.cell (Or.inr rfl)]; exact v0, by rw [hk.cell (Or.inr rfl)]; exact v1⟩
/-- 'ahead = v'. -/
theorem WB.ahead {N : Nat} {w2 : World} {za zv : Nat} {s : List Nat × Nat} {K : Nat} {X la : Int} {wr : World} (h : WB N w2 za zv s K X wr) (hN : N ≤ za) : WA N w2 za ⟨s, K, X, la⟩ ((wr.setCell ⟨za, 0, none⟩ (.int .u8 (K : Int))).setCell ⟨za, 1, none⟩ (.int .i64 X)) := by
  obtain ⟨hz, ⟨u, a0⟩, ⟨u', a1⟩, f0, f1, v0, v1⟩ := h
  have h1 := (hz.set (z := za) (Or.inl rfl) hN 0 (.int .u8 (K : Int))).set (z := za) (Or.inl rfl) hN 1 (.int .i64 X)
  obtain ⟨g1, v, g2, g3⟩ := h1
  refine ⟨⟨g1, v, g2, fun z hz => g3 z (Or.inl hz)⟩, ?_, ?_, by simpa using f0, by simpa using f1, hN⟩
  · rw [World.cell?_setCell_other _ _ _ _ (by simp)]; exact World.cell?_setCell_same _ _ _ a0
  · exact World.cell?_setCell_same _ _ _ (u := u') (by rw [World.cell?_setCell_other _ _ _ _ (by simp)]; exact a1)
theorem WA.new {N : Nat} {w2 : World} {za : Nat} {v : VS} {wr : World} (h : WA N w2 za v wr) (K : Nat) (X : Int) : WB N w2 za wr.heap.size v.s K X (wr.alloc (.cells #[.int .u8 (K : Int), .int .i64 X] 26)) := by
  have hB := below_new (Below.refl _ wr) (.cells #[.int .u8 (K : Int), .int .i64 X] 26)
  have hzl : za < wr.heap.size := by
    obtain ⟨_, _, _, g⟩ := h.rz
    exact (g za rfl).2.2
  refine ⟨h.rz.more hB (by simp), ⟨_, by rw [hB.cell (p := ⟨za, 0, none⟩) hzl]; exact h.c0⟩, ⟨_, by rw [hB.cell (p := ⟨za, 1, none⟩) hzl]; exact h.c1⟩, by rw [hB.frozen (p := ⟨za, 0, none⟩) hzl]; exact h.f0, by rw [hB.frozen (p := ⟨za, 1, none⟩) hzl]; exact h.f1, by simp [go_sem], by simp [go_sem]⟩
theorem wb_bits {N : Nat} {w2 : World} {za zv : Nat} {s : List Nat × Nat} {K : Nat} {X : Int} {wr : World} (h : WB N w2 za zv s K X wr) (x : Nat) (hx : x < 18446744073709551616) (z k : Int) (hz : z = (x : Int)) (m : Nat) (hk : k = (m : Int)) (hm : m ≤ 64) (hb : s.1.length + 100 ≤ 140737488355328) : Calls Tryd.prog 74 #[.pointer (some ⟨N, 0, none⟩), .int .u64 z, .int .i64 k] wr fun e w' => e = .returned undef ∧ WB N w2 za zv (bitsOn x m s) K X w' := by
  refine (dz_bits h.rz x hx z k hz hb).mono ?_
  rintro e w' ⟨rfl, h1, h2⟩
  have e1 : broughtN k = m := by subst hk; unfold broughtN; rw [if_neg (by omega), if_neg (by omega)]; omega
  rw [e1] at h1
  exact ⟨rfl, h.keep h1 h2⟩
end Go.Proofs.YtpicgjjbpiinfaaDoor
