
import Derived.Test.YtnfpommplokemaaNum4

import Derived.LoopTactic
namespace Go.Proofs.Ytnfpommplokemaa
open Go.RowKit Go.Shelf
set_option linter.unusedVariables false

/-! ### sums of numbers, plain -/
def sumTo (z : Nat → Int) : Nat → Int
  | 0 => 0
  | k + 1 => sumTo z k + z k
theorem sumTo_bd (z : Nat → Int) (hz : ∀ i, I64 (z i)) (k : Nat) : -9223372036854775808 * (k : Int) ≤ sumTo z k ∧ sumTo z k ≤ 9223372036854775807 * (k : Int) := by
  induction k with
  | zero => simp [sumTo]
  | succ k ih => have := hz k; unfold I64 at this; simp only [sumTo]; omega
theorem sumTo_S128 (z : Nat → Int) (hz : ∀ i, I64 (z i)) (k : Nat) (hk : k ≤ 9223372036854775807) : S128 (sumTo z k) := by
  have := sumTo_bd z hz k; unfold S128; omega
theorem sumTo_step (z : Nat → Int) (hz : ∀ i, I64 (z i)) (k : Nat) (hk : k < 9223372036854775807) : wr (sv (sH (sumTo z k)) (sL (sumTo z k)) + z k) = sumTo z (k + 1) := by
  rw [sv_H_L]; exact wr_of _ (sumTo_S128 z hz (k + 1) (by omega))
theorem sumTo_between (z : Nat → Int) (lo hi : Int) (n : Nat) (h : ∀ i, i < n → lo ≤ z i ∧ z i ≤ hi) : lo * (n : Int) ≤ sumTo z n ∧ sumTo z n ≤ hi * (n : Int) := by
  induction n with
  | zero => simp [sumTo]
  | succ k ih =>
    have h1 := ih (fun i hi' => h i (by omega))
    have h2 := h k (by omega)
    have e1 : lo * ((k + 1 : Nat) : Int) = lo * (k : Int) + lo := by rw [Int.natCast_add, Int.mul_add]; simp
    have e2 : hi * ((k + 1 : Nat) : Int) = hi * (k : Int) + hi := by rw [Int.natCast_add, Int.mul_add]; simp
    simp only [sumTo]; omega
theorem quo_between (v lo hi n : Int) (hn : 0 < n) (h1 : lo * n ≤ v) (h2 : v ≤ hi * n) : lo ≤ quoI v n ∧ quoI v n ≤ hi := by
  obtain ⟨e, hp, _⟩ := quo_mod v n (by omega)
  obtain ⟨m0, m1⟩ := hp hn
  constructor
  · rcases Int.lt_or_le (quoI v n) lo with c | c
    · have : (quoI v n + 1) * n ≤ lo * n := Int.mul_le_mul_of_nonneg_right (by omega) (by omega)
      rw [Int.add_mul, Int.one_mul] at this; omega
    · exact c
  · rcases Int.lt_or_le hi (quoI v n) with c | c
    · have : (hi + 1) * n ≤ quoI v n * n := Int.mul_le_mul_of_nonneg_right (by omega) (by omega)
      rw [Int.add_mul, Int.one_mul] at this; omega
    · exact c
theorem cell4 {w : World} {p : Addr} (h : p.block < w.heap.size) (o1 o2 o3 o4 : Obj) : ((((w.alloc o1).alloc o2).alloc o3).alloc o4).cell? p = w.cell? p := by
  rw [World.cell?_alloc_lt _ _ p (by simp; omega), World.cell?_alloc_lt _ _ p (by simp; omega), World.cell?_alloc_lt _ _ p (by simp; omega), World.cell?_alloc_lt _ _ p h]
theorem frozen4 {w : World} {p : Addr} (h : p.block < w.heap.size) (o1 o2 o3 o4 : Obj) : ((((w.alloc o1).alloc o2).alloc o3).alloc o4).frozen? p = w.frozen? p := by
  rw [World.frozen?_alloc_old _ _ p (by simp; omega), World.frozen?_alloc_old _ _ p (by simp; omega), World.frozen?_alloc_old _ _ p (by simp; omega), World.frozen?_alloc_old _ _ p (by omega)]
/-- a sum's variable at block N, and what is below it as it was. -/
structure Acc (N : Nat) (w1 : World) (v : Int) (wx : World) : Prop where
  s0 : wx.cell? ⟨N, 0, none⟩ = some (.int .i64 (sH v))
  s1 : wx.cell? ⟨N, 1, none⟩ = some (.int .u64 (sL v))
  f0 : wx.frozen? ⟨N, 0, none⟩ = false
  f1 : wx.frozen? ⟨N, 1, none⟩ = false
  b : Below N w1 wx
  sz : N < wx.heap.size
theorem acc_next {N : Nat} {w1 wx : World} {v : Int} (h : Acc N w1 v wx) (o1 o2 o3 o4 : Obj) (v' : Int) :
    Acc N w1 v' (((((wx.alloc o1).alloc o2).alloc o3).alloc o4).setCell ⟨N, 0, none⟩ (.int .i64 (sH v')) |>.setCell ⟨N, 1, none⟩ (.int .u64 (sL v'))).drew := by
  obtain ⟨s0, s1, f0, f1, b, sz⟩ := h
  have c0 := (cell4 (p := ⟨N, 0, none⟩) sz o1 o2 o3 o4).trans s0
  have c1 := (cell4 (p := ⟨N, 1, none⟩) sz o1 o2 o3 o4).trans s1
  have g0 := (frozen4 (p := ⟨N, 0, none⟩) sz o1 o2 o3 o4).trans f0
  have g1 := (frozen4 (p := ⟨N, 1, none⟩) sz o1 o2 o3 o4).trans f1
  refine ⟨?_, ?_, by simpa using g0, by simpa using g1, ?_, by simp; omega⟩
  · rw [World.cell?_drew, World.cell?_setCell_other _ _ _ _ (by simp), World.cell?_setCell_same _ _ _ c0]
  · rw [World.cell?_drew, World.cell?_setCell_same _ _ _ (u := .int .u64 (sL v)) (by rw [World.cell?_setCell_other _ _ _ _ (by simp)]; exact c1)]
  · refine Below.drew (Below.setCell (Below.setCell ?_ (by simp) _) (by simp) _)
    exact (((b.alloc (by omega) _).alloc (by simp; omega) _).alloc (by simp; omega) _).alloc (by simp; omega) _
theorem acc_other {N : Nat} {wx : World} (sz : N < wx.heap.size) (o1 o2 o3 o4 : Obj) (u v : Value) (p : Addr) (hp : p.block < N) :
    (((((wx.alloc o1).alloc o2).alloc o3).alloc o4).setCell ⟨N, 0, none⟩ u |>.setCell ⟨N, 1, none⟩ v).cell? p = wx.cell? p := by
  rw [World.cell?_setCell_other _ _ _ _ (by intro e; rw [← e] at hp; simp at hp), World.cell?_setCell_other _ _ _ _ (by intro e; rw [← e] at hp; simp at hp), cell4 (by omega)]
end Go.Proofs.Ytnfpommplokemaa
