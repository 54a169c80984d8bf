
import Derived.Test.YtolpmedfaighhaaDoorInts
import Derived.Laws.OwnMore
namespace Go.Proofs.YtolpmedfaighhaaDoor
open Go.RowKit Go.Shelf
set_option linter.unusedVariables false
set_option linter.unusedSimpArgs false

/-! ### sums over the marked -/
def sumU (u : Nat → Bool) (z : Nat → Int) : Nat → Int
  | 0 => 0
  | k + 1 => sumU u z k + (if u k then z k else 0)
def markU (u : Nat → Bool) (j : Nat) : Nat → Bool := fun i => if i = j then true else u i
theorem sumU_none (z : Nat → Int) (n : Nat) : sumU (fun _ => false) z n = 0 := by
  induction n with
  | zero => rfl
  | succ k ih => simp [sumU, ih]
theorem sumU_all (u : Nat → Bool) (z : Nat → Int) (n : Nat) : sumU u z n + sumU (fun i => !u i) z n = sumTo z n := by
  induction n with
  | zero => rfl
  | succ k ih =>
    have h : (if u k = true then z k else 0) + (if (!u k) = true then z k else 0) = z k := by cases u k <;> simp
    simp only [sumU, sumTo]; omega
theorem sumU_over (u : Nat → Bool) (z : Nat → Int) (j n : Nat) (h : n ≤ j) : sumU (markU u j) z n = sumU u z n := by
  induction n with
  | zero => rfl
  | succ k ih =>
    have e : markU u j k = u k := by unfold markU; rw [if_neg (by omega)]
    simp only [sumU]; rw [ih (by omega), e]
theorem sumU_mark (u : Nat → Bool) (z : Nat → Int) (j n : Nat) (h : j < n) (hu : u j = false) : sumU (markU u j) z n = sumU u z n + z j := by
  induction n with
  | zero => omega
  | succ k ih =>
    simp only [sumU]
    rcases Nat.lt_or_ge j k with hj | hj
    · have e : markU u j k = u k := by unfold markU; rw [if_neg (by omega)]
      rw [ih hj, e]; omega
    · obtain rfl : j = k := by omega
      have e : markU u j j = true := by unfold markU; rw [if_pos rfl]
      rw [sumU_over u z j j (Nat.le_refl _), e, hu]; simp
theorem sumU_bd (u : Nat → Bool) (z : Nat → Int) (hz : ∀ i, I64 (z i)) (k : Nat) : -9223372036854775808 * (k : Int) ≤ sumU u z k ∧ sumU u z k ≤ 9223372036854775807 * (k : Int) := by
  induction k with
  | zero => simp [sumU]
  | succ k ih =>
    have h := hz k; unfold I64 at h
    have h2 : -9223372036854775808 ≤ (if u k = true then z k else 0) ∧ (if u k = true then z k else 0) ≤ 9223372036854775807 := by cases u k <;> simp <;> omega
    simp only [sumU]; omega
theorem wr_small (v : Int) (n : Nat) (hn : n ≤ 9223372036854775807) (h1 : -9223372036854775808 * (n : Int) ≤ v) (h2 : v ≤ 9223372036854775807 * (n : Int)) : wr (sv (sH v) (sL v)) = v := by
  rw [sv_H_L]; exact wr_of _ (by unfold S128; omega)

/-! ### the variables of NumAnyOrder: a at N, b at N + 1, used at N + 2 -/
structure AO (N : Nat) (w1 : World) (len : Nat) (va vb : Int) (u : Nat → Bool) (wx : World) : Prop where
  a0 : wx.cell? ⟨N, 0, none⟩ = some (.int .i64 (sH va))
  a1 : wx.cell? ⟨N, 1, none⟩ = some (.int .u64 (sL va))
  b0 : wx.cell? ⟨N + 1, 0, none⟩ = some (.int .i64 (sH vb))
  b1 : wx.cell? ⟨N + 1, 1, none⟩ = some (.int .u64 (sL vb))
  us : ∀ j, j < len → wx.cell? ⟨N + 1 + 1, j, none⟩ = some (.bool (u j))
  fa0 : wx.frozen? ⟨N, 0, none⟩ = false
  fa1 : wx.frozen? ⟨N, 1, none⟩ = false
  fb0 : wx.frozen? ⟨N + 1, 0, none⟩ = false
  fb1 : wx.frozen? ⟨N + 1, 1, none⟩ = false
  fu : ∀ j, j < len → wx.frozen? ⟨N + 1 + 1, j, none⟩ = false
  b : Below N w1 wx
  sz : N + 2 < wx.heap.size
theorem AO.below {N : Nat} {w1 wx wy : World} {len : Nat} {va vb : Int} {u : Nat → Bool} (h : AO N w1 len va vb u wx) (hb : Below wx.heap.size wx wy) : AO N w1 len va vb u wy := by
  obtain ⟨a0, a1, b0, b1, us, fa0, fa1, fb0, fb1, fu, b, sz⟩ := h
  have cc : ∀ (p : Nat) (o : Nat), p ≤ N + 2 → wy.cell? ⟨p, o, none⟩ = wx.cell? ⟨p, o, none⟩ := fun p o hp => hb.cell (p := ⟨p, o, none⟩) (by simp; omega)
  have ff : ∀ (p : Nat) (o : Nat), p ≤ N + 2 → wy.frozen? ⟨p, o, none⟩ = wx.frozen? ⟨p, o, none⟩ := fun p o hp => hb.frozen (p := ⟨p, o, none⟩) (by simp; omega)
  have hs := hb.size
  refine ⟨?_, ?_, ?_, ?_, fun j hj => ?_, ?_, ?_, ?_, ?_, fun j hj => ?_, b.trans (hb.mono (by omega)), by omega⟩
  · rw [cc _ _ (by omega)]; exact a0
  · rw [cc _ _ (by omega)]; exact a1
  · rw [cc _ _ (by omega)]; exact b0
  · rw [cc _ _ (by omega)]; exact b1
  · rw [cc _ _ (by omega)]; exact us j hj
  · rw [ff _ _ (by omega)]; exact fa0
  · rw [ff _ _ (by omega)]; exact fa1
  · rw [ff _ _ (by omega)]; exact fb0
  · rw [ff _ _ (by omega)]; exact fb1
  · rw [ff _ _ (by omega)]; exact fu j hj
theorem AO.drew {N : Nat} {w1 wx : World} {len : Nat} {va vb : Int} {u : Nat → Bool} (h : AO N w1 len va vb u wx) : AO N w1 len va vb u wx.drew :=
  ⟨h.a0, h.a1, h.b0, h.b1, h.us, h.fa0, h.fa1, h.fb0, h.fb1, h.fu, h.b.drew, h.sz⟩
theorem AO.alloc {N : Nat} {w1 wx : World} {len : Nat} {va vb : Int} {u : Nat → Bool} (h : AO N w1 len va vb u wx) (o : Obj) : AO N w1 len va vb u (wx.alloc o) :=
  h.below ((Below.refl _ _).alloc (Nat.le_refl _) _)
theorem AO.setA {N : Nat} {w1 wx : World} {len : Nat} {va vb : Int} {u : Nat → Bool} (h : AO N w1 len va vb u wx) (v : Int) :
    AO N w1 len v vb u ((wx.setCell ⟨N, 0, none⟩ (.int .i64 (sH v))).setCell ⟨N, 1, none⟩ (.int .u64 (sL v))) := by
  obtain ⟨a0, a1, b0, b1, us, fa0, fa1, fb0, fb1, fu, b, sz⟩ := h
  have ot : ∀ p o x y, p ≠ N → ((wx.setCell ⟨N, 0, none⟩ x).setCell ⟨N, 1, none⟩ y).cell? ⟨p, o, none⟩ = wx.cell? ⟨p, o, none⟩ := fun p o x y hp => by
    rw [World.cell?_setCell_other _ _ _ _ (by intro e; injection e with e1; omega), World.cell?_setCell_other _ _ _ _ (by intro e; injection e with e1; omega)]
  refine ⟨?_, ?_, ?_, ?_, fun j hj => ?_, by simpa using fa0, by simpa using fa1, by simpa using fb0, by simpa using fb1, fun j hj => by simpa using fu j hj, ((b.setCell (p := ⟨N, 0, none⟩) (Nat.le_refl _) _).setCell (p := ⟨N, 1, none⟩) (Nat.le_refl _) _), by simpa using sz⟩
  · rw [World.cell?_setCell_other _ _ _ _ (by simp)]; exact World.cell?_setCell_same _ _ _ a0
  · exact World.cell?_setCell_same _ _ _ (u := .int .u64 (sL va)) (by rw [World.cell?_setCell_other _ _ _ _ (by simp)]; exact a1)
  · rw [ot _ _ _ _ (by omega)]; exact b0
  · rw [ot _ _ _ _ (by omega)]; exact b1
  · rw [ot _ _ _ _ (by omega)]; exact us j hj
theorem AO.setB {N : Nat} {w1 wx : World} {len : Nat} {va vb : Int} {u : Nat → Bool} (h : AO N w1 len va vb u wx) (v : Int) :
    AO N w1 len va v u ((wx.setCell ⟨N + 1, 0, none⟩ (.int .i64 (sH v))).setCell ⟨N + 1, 1, none⟩ (.int .u64 (sL v))) := by
  obtain ⟨a0, a1, b0, b1, us, fa0, fa1, fb0, fb1, fu, b, sz⟩ := h
  have ot : ∀ p o x y, p ≠ N + 1 → ((wx.setCell ⟨N + 1, 0, none⟩ x).setCell ⟨N + 1, 1, none⟩ y).cell? ⟨p, o, none⟩ = wx.cell? ⟨p, o, none⟩ := fun p o x y hp => by
    rw [World.cell?_setCell_other _ _ _ _ (by intro e; injection e with e1; omega), World.cell?_setCell_other _ _ _ _ (by intro e; injection e with e1; omega)]
  refine ⟨?_, ?_, ?_, ?_, fun j hj => ?_, by simpa using fa0, by simpa using fa1, by simpa using fb0, by simpa using fb1, fun j hj => by simpa using fu j hj, ((b.setCell (p := ⟨N + 1, 0, none⟩) (show N ≤ N + 1 by omega) _).setCell (p := ⟨N + 1, 1, none⟩) (show N ≤ N + 1 by omega) _), by simpa using sz⟩
  · rw [ot _ _ _ _ (by omega)]; exact a0
  · rw [ot _ _ _ _ (by omega)]; exact a1
  · rw [World.cell?_setCell_other _ _ _ _ (by simp)]; exact World.cell?_setCell_same _ _ _ b0
  · exact World.cell?_setCell_same _ _ _ (u := .int .u64 (sL vb)) (by rw [World.cell?_setCell_other _ _ _ _ (by simp)]; exact b1)
  · rw [ot _ _ _ _ (by omega)]; exact us j hj
theorem AO.setU {N : Nat} {w1 wx : World} {len : Nat} {va vb : Int} {u : Nat → Bool} (h : AO N w1 len va vb u wx) (k : Nat) (hk : k < len) :
    AO N w1 len va vb (markU u k) (wx.setCell ⟨N + 1 + 1, k, none⟩ (.bool true)) := by
  obtain ⟨a0, a1, b0, b1, us, fa0, fa1, fb0, fb1, fu, b, sz⟩ := h
  have ot : ∀ p o, p ≠ N + 1 + 1 → (wx.setCell ⟨N + 1 + 1, k, none⟩ (.bool true)).cell? ⟨p, o, none⟩ = wx.cell? ⟨p, o, none⟩ := fun p o hp => by
    rw [World.cell?_setCell_other _ _ _ _ (by intro e; injection e with e1; omega)]
  refine ⟨?_, ?_, ?_, ?_, fun j hj => ?_, by simpa using fa0, by simpa using fa1, by simpa using fb0, by simpa using fb1, fun j hj => by simpa using fu j hj, b.setCell (p := ⟨N + 1 + 1, k, none⟩) (show N ≤ N + 1 + 1 by omega) _, by simpa using sz⟩
  · rw [ot _ _ (by omega)]; exact a0
  · rw [ot _ _ (by omega)]; exact a1
  · rw [ot _ _ (by omega)]; exact b0
  · rw [ot _ _ (by omega)]; exact b1
  · by_cases e : j = k
    · subst e
      unfold markU; rw [if_pos rfl]
      exact World.cell?_setCell_same _ _ _ (us j hj)
    · unfold markU; rw [if_neg e, World.cell?_setCell_other _ _ _ _ (by intro e'; injection e' with e1 e2; omega)]
      exact us j hj
theorem made_false (n j : Nat) (h : j < n) : (madeCells #[.bool false] n)[j]? = some (.bool false) := by
  rw [← Array.getElem?_toList, toList_madeCells_one]; simp [h]
theorem AO.start (w1 : World) (len : Nat) (t : TypeId) : AO w1.heap.size w1 len 0 0 (fun _ => false)
    (((w1.alloc (.cells #[.int .i64 0, .int .u64 0] 24)).alloc (.cells #[.int .i64 0, .int .u64 0] 24)).alloc (.cells (madeCells #[.bool false] len) t)) := by
  have e1 : sH 0 = 0 := by unfold sH; omega
  have e2 : sL 0 = 0 := by unfold sL; omega
  refine ⟨?_, ?_, ?_, ?_, fun j hj => ?_, ?_, ?_, ?_, ?_, fun j hj => ?_, below_new (below_new (below_new (Below.refl _ _) _) _) _, by simp⟩
  all_goals simp [go_sem, World.cell?_alloc_past, World.frozen?_alloc_past, World.cell?_alloc_at, World.frozen?_alloc_at, made_false, e1, e2, *]
theorem plus_below (hi lo n : Int) (h2 : U64 lo) (hn : I64 n) (w : World) :
    Calls Tryd.prog 8 #[.agg #[.int .i64 hi, .int .u64 lo], .int .i64 n] w fun e w' => e = .returned (.agg #[.int .i64 (sH (wr (sv hi lo + n))), .int .u64 (sL (wr (sv hi lo + n)))]) ∧ Below w.heap.size w w' := by
  refine (plus_any hi lo n h2 hn w).mono ?_
  rintro e w1 ⟨rfl, o1, o2, o3, o4, rfl⟩
  exact ⟨rfl, below_new (below_new (below_new (below_new (Below.refl _ _) _) _) _) _⟩
/-- a sum's next one. -/
theorem plus_next (v n : Int) (hv : S128 (v + n)) (hn : I64 n) (w : World) :
    Calls Tryd.prog 8 #[.agg #[.int .i64 (sH v), .int .u64 (sL v)], .int .i64 n] w fun e w' => e = .returned (.agg #[.int .i64 (sH (v + n)), .int .u64 (sL (v + n))]) ∧ Below w.heap.size w w' := by
  refine (plus_below (sH v) (sL v) n (U64_sL _) hn w).mono ?_
  rintro e w1 ⟨rfl, hb⟩
  rw [sv_H_L, wr_of _ hv]
  exact ⟨rfl, hb⟩
theorem minus_next (v n : Int) (hv : S128 (v - n)) (hn : I64 n) (w : World) :
    Calls Tryd.prog 10 #[.agg #[.int .i64 (sH v), .int .u64 (sL v)], .int .i64 n] w fun e w' => e = .returned (.agg #[.int .i64 (sH (v - n)), .int .u64 (sL (v - n))]) ∧ Below w.heap.size w w' := by
  refine (minus_any (sH v) (sL v) n (U64_sL _) hn w).mono ?_
  rintro e w1 ⟨rfl, hb⟩
  rw [sv_H_L, wr_of _ hv]
  exact ⟨rfl, hb⟩
theorem cmp_next (a b : Int) (w : World) :
    Calls Tryd.prog 12 #[.agg #[.int .i64 (sH a), .int .u64 (sL a)], .agg #[.int .i64 (sH b), .int .u64 (sL b)]] w fun e w' => e = .returned (.int .i64 (cmpI a b)) ∧ Below w.heap.size w w' := by
  refine (cmp_any (sH a) (sL a) (sH b) (sL b) (U64_sL _) (U64_sL _) w).mono ?_
  rintro e w1 ⟨rfl, hb⟩
  rw [sv_H_L, sv_H_L]
  exact ⟨rfl, hb⟩
end Go.Proofs.YtolpmedfaighhaaDoor
