
import Derived.Test.YtfijagdbdbbbpaaDoorBuK
import Derived.Test.YtfijagdbdbbbpaaDoorBlFq
namespace Go.Proofs.YtfijagdbdbbbpaaDoor
open Go.RowKit
set_option linter.unusedVariables false
set_option linter.unusedSimpArgs false
theorem aux_bound : ∀ (f x : Nat), x < 2 ^ f → x < 2 ^ Lib.bitLenAux f x ∧ (x ≠ 0 → 2 ^ (Lib.bitLenAux f x - 1) ≤ x ∧ 1 ≤ Lib.bitLenAux f x) := by
  intro f
  induction f with
  | zero => intro x h; simp at h; subst h; simp [Lib.bitLenAux]
  | succ f ih =>
    intro x h
    unfold Lib.bitLenAux
    split
    · rename_i h0; subst h0; simp
    · rename_i h0
      obtain ⟨i1, i2⟩ := ih (x / 2) (by rw [Nat.pow_succ] at h; omega)
      refine ⟨by rw [Nat.pow_add, Nat.pow_one]; omega, fun _ => ⟨?_, by omega⟩⟩
      rw [show 1 + Lib.bitLenAux f (x / 2) - 1 = Lib.bitLenAux f (x / 2) by omega]
      by_cases hx : x / 2 = 0
      · rw [hx]
        have : Lib.bitLenAux f 0 = 0 := by cases f <;> simp [Lib.bitLenAux]
        rw [this]; simp; omega
      · obtain ⟨j1, j2⟩ := i2 hx
        have e : 2 ^ Lib.bitLenAux f (x / 2) = 2 * 2 ^ (Lib.bitLenAux f (x / 2) - 1) := by rw [← Nat.pow_succ']; congr 1; omega
        omega
/-- where the loop of size ends. -/
theorem sizeN_of (x n : Nat) (hx : x < 18446744073709551616) (h1 : 1 ≤ n) (h64 : n ≤ 64) (hb : ∀ j, 1 ≤ j → j < n → 0 < x / 2 ^ j) (he : n = 64 ∨ x / 2 ^ n = 0) : n = sizeN x := by
  by_cases hx0 : x = 0
  · subst hx0
    have hn1 : n = 1 := by
      rcases Nat.lt_or_ge 1 n with h | h
      · have := hb 1 (by omega) h; simp at this
      · omega
    rw [hn1]
    have e : Lib.bitLen 0 = 0 := by unfold Lib.bitLen; simp [Lib.bitLenAux]
    unfold sizeN
    rw [e]
    rfl
  · have hle := (sizeN_le x).2
    unfold sizeN Lib.bitLen at hle ⊢
    obtain ⟨b1, b2⟩ := aux_bound 64 x (by omega)
    obtain ⟨b3, b4⟩ := b2 hx0
    generalize Lib.bitLenAux 64 x = L at *
    have hmax : max L 1 = L := by omega
    rw [hmax]
    rcases Nat.lt_trichotomy n L with h | h | h
    · exfalso
      rcases he with he | he
      · omega
      · have h2 : x < 2 ^ n := by
          rcases Nat.lt_or_ge x (2 ^ n) with h5 | h5
          · exact h5
          · have := Nat.div_pos h5 (Nat.two_pow_pos n); omega
        have h3 : 2 ^ n ≤ 2 ^ (L - 1) := Nat.pow_le_pow_right (by omega) (by omega)
        omega
    · exact h
    · exfalso
      have := hb L b4 h
      have h2 : x / 2 ^ L = 0 := Nat.div_eq_of_lt b1
      omega
theorem bits_two (K : Nat) (hK : K = 1 ∨ K = 2) (s : List Nat × Nat) : bitsOn (K - 1) 1 (bitsOn 3 2 s) = (if K = 1 then bitsOn 6 3 s else bitsOn 7 3 s) := by
  rcases hK with rfl | rfl <;> simp [bitsOn]
def IsE (K : Nat) (X : Int) (e : Ending) : Prop := ∃ r, e = .returned (.bool r) ∧ (r = true ↔ isV K X)
end Go.Proofs.YtfijagdbdbbbpaaDoor

namespace Go.Proofs.YtfijagdbdbbbpaaDoor
open Go.RowKit
set_option linter.unusedVariables false
set_option linter.unusedSimpArgs false
/-- the program's Writer, beside blocks that are no part of it. -/
def DZ (N : Nat) (w1 : World) (s : List Nat × Nat) (Z : Nat → Prop) (wx : World) : Prop := CL s.1 s.2 ∧ ∃ v, WS N w1 (s.2 : Int) v s.1.length (enc s.1) wx ∧ ∀ z, Z z → z ≠ N ∧ some z ≠ v.ownBlock ∧ z < wx.heap.size
theorem DZ.fr {N : Nat} {w1 w w' : World} {s : List Nat × Nat} {Z : Nat → Prop} {v v' : Value} {fr : Int} (hC : CL s.1 s.2) (hW : WS N w1 fr v' s.1.length (enc s.1) w') (hfr : fr = (s.2 : Int)) (F : Fr N v v' w w') (hZ : ∀ z, Z z → z ≠ N ∧ some z ≠ v.ownBlock ∧ z < w.heap.size) : DZ N w1 s Z w' ∧ KZ Z w w' := by
  subst hfr
  refine ⟨⟨hC, v', hW, fun z hz => ?_⟩, fun z hz => F.keep z (hZ z hz).2.2 (hZ z hz).1 (hZ z hz).2.1⟩
  obtain ⟨h1, h2, h3⟩ := hZ z hz
  refine ⟨h1, ?_, Nat.lt_of_lt_of_le h3 F.size⟩
  rcases F.own with e | ⟨k, e, hk⟩
  · rw [e]; exact h2
  · rw [e]; intro e'; injection e' with e'; omega
theorem DZ.dw {N : Nat} {w1 w : World} {s : List Nat × Nat} {Z : Nat → Prop} (h : DZ N w1 s Z w) : DW N w1 s w := by
  obtain ⟨h1, v, h2, hZ⟩ := h
  exact ⟨h1, v, h2⟩
theorem DZ.below {N : Nat} {w1 w w' : World} {s : List Nat × Nat} {Z : Nat → Prop} (h : DZ N w1 s Z w) (hb : Below w.heap.size w w') : DZ N w1 s Z w' := by
  obtain ⟨h1, v, h2, hZ⟩ := h
  exact ⟨h1, v, h2.belowW hb, fun z hz => ⟨(hZ z hz).1, (hZ z hz).2.1, Nat.lt_of_lt_of_le (hZ z hz).2.2 hb.size⟩⟩
/-- a block that is new. -/
theorem DZ.more {N : Nat} {w1 w w' : World} {s : List Nat × Nat} {Z : Nat → Prop} (h : DZ N w1 s Z w) (hb : Below w.heap.size w w') (hs : w.heap.size < w'.heap.size) : DZ N w1 s (fun z => Z z ∨ z = w.heap.size) w' := by
  obtain ⟨h1, v, h2, hZ⟩ := h
  refine ⟨h1, v, h2.belowW hb, fun z hz => ?_⟩
  rcases hz with hz | hz
  · exact ⟨(hZ z hz).1, (hZ z hz).2.1, Nat.lt_of_lt_of_le (hZ z hz).2.2 hb.size⟩
  · subst hz
    have := h2.sz
    exact ⟨by omega, fun e => by have := own_lt h2.own e.symm; omega, hs⟩
theorem DW.dz {N : Nat} {w1 w : World} {s : List Nat × Nat} (h : DW N w1 s w) : DZ N w1 s (fun _ => False) w := by
  obtain ⟨h1, v, h2⟩ := h
  exact ⟨h1, v, h2, fun z hz => hz.elim⟩
theorem DZ.set {N : Nat} {w1 w : World} {s : List Nat × Nat} {Z : Nat → Prop} (h : DZ N w1 s Z w) {z : Nat} (hz : Z z) (hN : N ≤ z) (j : Nat) (x : Value) : DZ N w1 s Z (w.setCell ⟨z, j, none⟩ x) := by
  obtain ⟨h1, v, ⟨c0, c1, f0, f1, own, b, sz⟩, hZ⟩ := h
  obtain ⟨k1, k2, k3⟩ := hZ z hz
  refine ⟨h1, v, ⟨?_, ?_, by simpa using f0, by simpa using f1, ⟨own.1, ?_⟩, b.setCell (p := ⟨z, j, none⟩) hN _, by simpa using sz⟩, fun y hy => ⟨(hZ y hy).1, (hZ y hy).2.1, by simpa using (hZ y hy).2.2⟩⟩
  · rw [World.cell?_setCell_other _ _ _ _ (by intro e; injection e with e1; omega)]; exact c0
  · rw [World.cell?_setCell_other _ _ _ _ (by intro e; injection e with e1; omega)]; exact c1
  · rcases own.2 with h2 | ⟨g, cap, cur, e1, e2, e3, e4⟩
    · exact Or.inl h2
    · refine Or.inr ⟨g, cap, cur, e1, e2, ?_, e4⟩
      rw [Below.heap_setCell _ _ _ _ (by intro e; exact k2 (by rw [e1]; simp [Value.ownBlock]; exact e.symm))]
      exact e3
/-- the Writer beside the value ahead. -/
structure WA (N : Nat) (w2 : World) (za : Nat) (v : VS) (wr : World) : Prop where
  rz : DZ N w2 v.s (fun z => z = za) wr
  c0 : wr.cell? ⟨za, 0, none⟩ = some (.int .u8 (v.ak : Int))
  c1 : wr.cell? ⟨za, 1, none⟩ = some (.int .i64 v.ax)
  f0 : wr.frozen? ⟨za, 0, none⟩ = false
  f1 : wr.frozen? ⟨za, 1, none⟩ = false
  le : N ≤ za
/-- what stands when the bits of a value are written, ahead of 'ahead = v'. -/
structure WB (N : Nat) (w2 : World) (za zv : Nat) (s : List Nat × Nat) (K : Nat) (X : Int) (wr : World) : Prop where
  rz : DZ N w2 s (fun z => z = za ∨ z = zv) wr
  a0 : ∃ u, wr.cell? ⟨za, 0, none⟩ = some u
  a1 : ∃ u, wr.cell? ⟨za, 1, none⟩ = some u
  f0 : wr.frozen? ⟨za, 0, none⟩ = false
  f1 : wr.frozen? ⟨za, 1, none⟩ = false
  v0 : wr.cell? ⟨zv, 0, none⟩ = some (.int .u8 (K : Int))
  v1 : wr.cell? ⟨zv, 1, none⟩ = some (.int .i64 X)
theorem WB.keep {N : Nat} {w2 : World} {za zv : Nat} {s s' : List Nat × Nat} {K : Nat} {X : Int} {wr w' : World} (h : WB N w2 za zv s K X wr) (hz : DZ N w2 s' (fun z => z = za ∨ z = zv) w') (hk : KZ (fun z => z = za ∨ z = zv) wr w') : WB N w2 za zv s' K X w' := by
  obtain ⟨_, ⟨u, a0⟩, ⟨u', a1⟩, f0, f1, v0, v1⟩ := h
  exact ⟨hz, ⟨u, by rw [hk.cell (Or.inl rfl)]; exact a0⟩, ⟨u', by rw [hk.cell (Or.inl rfl)]; exact a1⟩, by rw [hk.frozen (Or.inl rfl)]; exact f0, by rw [hk.frozen (Or.inl rfl)]; exact f1, by rw [hk.cell (Or.inr rfl)]; exact v0, by rw [hk.cell (Or.inr rfl)]; exact v1⟩
/-- 'ahead = v'. -/
theorem WB.ahead {N : Nat} {w2 : World} {za zv : Nat} {s : List Nat × Nat} {K : Nat} {X la : Int} {wr : World} (h : WB N w2 za zv s K X wr) (hN : N ≤ za) : WA N w2 za ⟨s, K, X, la⟩ ((wr.setCell ⟨za, 0, none⟩ (.int .u8 (K : Int))).setCell ⟨za, 1, none⟩ (.int .i64 X)) := by
  obtain ⟨hz, ⟨u, a0⟩, ⟨u', a1⟩, f0, f1, v0, v1⟩ := h
  have h1 := (hz.set (z := za) (Or.inl rfl) hN 0 (.int .u8 (K : Int))).set (z := za) (Or.inl rfl) hN 1 (.int .i64 X)
  obtain ⟨g1, v, g2, g3⟩ := h1
  refine ⟨⟨g1, v, g2, fun z hz => g3 z (Or.inl hz)⟩, ?_, ?_, by simpa using f0, by simpa using f1, hN⟩
  · rw [World.cell?_setCell_other _ _ _ _ (by simp)]; exact World.cell?_setCell_same _ _ _ a0
  · exact World.cell?_setCell_same _ _ _ (u := u') (by rw [World.cell?_setCell_other _ _ _ _ (by simp)]; exact a1)
theorem WA.new {N : Nat} {w2 : World} {za : Nat} {v : VS} {wr : World} (h : WA N w2 za v wr) (K : Nat) (X : Int) : WB N w2 za wr.heap.size v.s K X (wr.alloc (.cells #[.int .u8 (K : Int), .int .i64 X] 57)) := by
  have hB := below_new (Below.refl _ wr) (.cells #[.int .u8 (K : Int), .int .i64 X] 57)
  have hzl : za < wr.heap.size := by
    obtain ⟨_, _, _, g⟩ := h.rz
    exact (g za rfl).2.2
  refine ⟨h.rz.more hB (by simp), ⟨_, by rw [hB.cell (p := ⟨za, 0, none⟩) hzl]; exact h.c0⟩, ⟨_, by rw [hB.cell (p := ⟨za, 1, none⟩) hzl]; exact h.c1⟩, by rw [hB.frozen (p := ⟨za, 0, none⟩) hzl]; exact h.f0, by rw [hB.frozen (p := ⟨za, 1, none⟩) hzl]; exact h.f1, by simp [go_sem], by simp [go_sem]⟩
end Go.Proofs.YtfijagdbdbbbpaaDoor
