
import Derived.Test.YtpicgjjbpiinfaaDoorBlL
namespace Go.Proofs.YtpicgjjbpiinfaaDoor
open Go.RowKit
set_option linter.unusedVariables false
set_option linter.unusedSimpArgs false
/-- what is written of values, the value ahead, the last number. -/
structure VS where
  s : List Nat × Nat
  ak : Nat
  ax : Int
  la : Int
def valStep (K : Nat) (X : Int) (v : VS) : VS :=
  if K = v.ak ∧ X = v.ax then ⟨bitsOn 0 1 v.s, K, X, v.la⟩ else if K = 0 then ⟨stepOn (wrap64 (X - v.la)) (bitsOn 2 2 v.s), K, X, X⟩ else if K = 1 then ⟨bitsOn 6 3 v.s, K, X, v.la⟩ else ⟨bitsOn 7 3 v.s, K, X, v.la⟩
def valsS (kk : Nat → Nat) (xx : Nat → Int) (n : Nat) : Nat → VS
  | 0 => ⟨uOn n ([], 0), 0, 0, 0⟩
  | k + 1 => valStep (kk k) (xx k) (valsS kk xx n k)
theorem stepOn_len (d : Int) (s : List Nat × Nat) : (stepOn d s).1.length ≤ s.1.length + 70 := by
  have h1 := bitsOn_len (foldZ d) (sizeN (foldZ d)) (bitsOn (sizeN (foldZ d) - 1) 6 s)
  have h2 := bitsOn_len (sizeN (foldZ d) - 1) 6 s
  have h3 := sizeN_le (foldZ d)
  unfold stepOn
  omega
theorem valsS_len (kk : Nat → Nat) (xx : Nat → Int) (n : Nat) : ∀ k, (valsS kk xx n k).s.1.length ≤ 11 + 72 * k := by
  intro k
  induction k with
  | zero => have := uB_len n; simp [valsS, uOn]; omega
  | succ k ih =>
    simp only [valsS, valStep]
    split
    · have := bitsOn_len 0 1 (valsS kk xx n k).s; simp only; omega
    · split
      · have h1 := stepOn_len (wrap64 (xx k - (valsS kk xx n k).la)) (bitsOn 2 2 (valsS kk xx n k).s)
        have h2 := bitsOn_len 2 2 (valsS kk xx n k).s
        simp only; omega
      · split
        · have := bitsOn_len 6 3 (valsS kk xx n k).s; simp only; omega
        · have := bitsOn_len 7 3 (valsS kk xx n k).s; simp only; omega
def ValuesE (kk : Nat → Nat) (xx : Nat → Int) (n : Nat) (err : Int → Value) (ok : Value) (e : Ending) (w' : World) : Prop :=
  (1048576 < n ∧ e = .returned (.tuple #[.slice none 0 0, err 6])) ∨ (n ≤ 1048576 ∧ ¬ AllV kk xx n ∧ e = .returned (.tuple #[.slice none 0 0, err 2])) ∨
  (n ≤ 1048576 ∧ AllV kk xx n ∧ ∃ a c, e = .returned (.tuple #[.slice a (valsS kk xx n n).s.1.length c, ok]) ∧ BytesIn w' a (valsS kk xx n n).s.1.length (natsOf (valsS kk xx n n).s.1))
/-- the Writer beside the value ahead. -/
structure VA (N : Nat) (w2 : World) (za : Nat) (v : VS) (wr : World) : Prop where
  rz : RZ N w2 v.s (fun z => z = za) wr
  c0 : wr.cell? ⟨za, 0, none⟩ = some (.int .u8 (v.ak : Int))
  c1 : wr.cell? ⟨za, 1, none⟩ = some (.int .i64 v.ax)
  f0 : wr.frozen? ⟨za, 0, none⟩ = false
  f1 : wr.frozen? ⟨za, 1, none⟩ = false
  le : N ≤ za
/-- what stands when the bits of a value are written, ahead of 'ahead = v'. -/
structure VB (N : Nat) (w2 : World) (za zv : Nat) (s : List Nat × Nat) (K : Nat) (X : Int) (wr : World) : Prop where
  rz : RZ N w2 s (fun z => z = za ∨ z = zv) wr
  a0 : ∃ u, wr.cell? ⟨za, 0, none⟩ = some u
  a1 : ∃ u, wr.cell? ⟨za, 1, none⟩ = some u
  f0 : wr.frozen? ⟨za, 0, none⟩ = false
  f1 : wr.frozen? ⟨za, 1, none⟩ = false
  v0 : wr.cell? ⟨zv, 0, none⟩ = some (.int .u8 (K : Int))
  v1 : wr.cell? ⟨zv, 1, none⟩ = some (.int .i64 X)
theorem VB.keep {N : Nat} {w2 : World} {za zv : Nat} {s s' : List Nat × Nat} {K : Nat} {X : Int} {wr w' : World} (h : VB N w2 za zv s K X wr) (hz : RZ N w2 s' (fun z => z = za ∨ z = zv) w') (hk : KZ (fun z => z = za ∨ z = zv) wr w') : VB N w2 za zv s' K X w' := by
  obtain ⟨_, ⟨u, a0⟩, ⟨u', a1⟩, f0, f1, v0, v1⟩ := h
  exact ⟨hz, ⟨u, by rw [hk.cell (Or.inl rfl)]; exact a0⟩, ⟨u', by rw [hk.cell (Or.inl rfl)]; exact a1⟩, by rw [hk.frozen (Or.inl rfl)]; exact f0, by rw [hk.frozen (Or.inl rfl)]; exact f1, by rw [hk.cell (Or.inr rfl)]; exact v0, by rw [hk.cell (Or.inr rfl)]; exact v1⟩
/-- 'ahead = v'. -/
theorem VB.ahead {N : Nat} {w2 : World} {za zv : Nat} {s : List Nat × Nat} {K : Nat} {X la : Int} {wr : World} (h : VB N w2 za zv s K X wr) (hN : N ≤ za) : VA N w2 za ⟨s, K, X, la⟩ ((wr.setCell ⟨za, 0, none⟩ (.int .u8 (K : Int))).setCell ⟨za, 1, none⟩ (.int .i64 X)) := by
  obtain ⟨hz, ⟨u, a0⟩, ⟨u', a1⟩, f0, f1, v0, v1⟩ := h
  have h1 := (hz.set (z := za) (Or.inl rfl) hN 0 (.int .u8 (K : Int))).set (z := za) (Or.inl rfl) hN 1 (.int .i64 X)
  obtain ⟨g1, v, g2, g3⟩ := h1
  refine ⟨⟨g1, v, g2, fun z hz => g3 z (Or.inl hz)⟩, ?_, ?_, by simpa using f0, by simpa using f1, hN⟩
  · rw [World.cell?_setCell_other _ _ _ _ (by simp)]; exact World.cell?_setCell_same _ _ _ a0
  · exact World.cell?_setCell_same _ _ _ (u := u') (by rw [World.cell?_setCell_other _ _ _ _ (by simp)]; exact a1)
theorem VA.new {N : Nat} {w2 : World} {za : Nat} {v : VS} {wr : World} (h : VA N w2 za v wr) (K : Nat) (X : Int) : VB N w2 za wr.heap.size v.s K X (wr.alloc (.cells #[.int .u8 (K : Int), .int .i64 X] 26)) := by
  have hB := below_new (Below.refl _ wr) (.cells #[.int .u8 (K : Int), .int .i64 X] 26)
  have hzl : za < wr.heap.size := by
    obtain ⟨_, _, _, g⟩ := h.rz
    exact (g za rfl).2.2
  refine ⟨h.rz.more hB (by simp), ⟨_, by rw [hB.cell (p := ⟨za, 0, none⟩) hzl]; exact h.c0⟩, ⟨_, by rw [hB.cell (p := ⟨za, 1, none⟩) hzl]; exact h.c1⟩, by rw [hB.frozen (p := ⟨za, 0, none⟩) hzl]; exact h.f0, by rw [hB.frozen (p := ⟨za, 1, none⟩) hzl]; exact h.f1, by simp [go_sem], by simp [go_sem]⟩
theorem vb_bits {N : Nat} {w2 : World} {za zv : Nat} {s : List Nat × Nat} {K : Nat} {X : Int} {wr : World} (h : VB N w2 za zv s K X wr) (x : Nat) (hx : x < 18446744073709551616) (z k : Int) (hz : z = (x : Int)) (m : Nat) (hk : k = (m : Int)) (hm : m ≤ 64) (hb : s.1.length + 100 ≤ 140737488355328) : Calls Tryd.prog 53 #[.pointer (some ⟨N, 0, none⟩), .int .u64 z, .int .i64 k] wr fun e w' => e = .returned undef ∧ VB N w2 za zv (bitsOn x m s) K X w' := by
  refine (rz_bits h.rz x hx z k hz hb).mono ?_
  rintro e w' ⟨rfl, h1, h2⟩
  have e1 : broughtN k = m := by subst hk; unfold broughtN; rw [if_neg (by omega), if_neg (by omega)]; omega
  rw [e1] at h1
  exact ⟨rfl, h.keep h1 h2⟩
theorem vb_step {N : Nat} {w2 : World} {za zv : Nat} {s : List Nat × Nat} {K : Nat} {X : Int} {wr : World} (h : VB N w2 za zv s K X wr) (d : Int) (hd : -9223372036854775808 ≤ d ∧ d ≤ 9223372036854775807) (hb : s.1.length + 500 ≤ 140737488355328) : Calls Tryd.prog 54 #[.pointer (some ⟨N, 0, none⟩), .int .i64 d] wr fun e w' => e = .returned undef ∧ VB N w2 za zv (stepOn d s) K X w' := by
  refine (putStep_any h.rz d hd hb).mono ?_
  rintro e w' ⟨rfl, h1, h2⟩
  exact ⟨rfl, h.keep h1 h2⟩
end Go.Proofs.YtpicgjjbpiinfaaDoor
