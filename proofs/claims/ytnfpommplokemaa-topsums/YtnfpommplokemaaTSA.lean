
import Derived.Test.YtnfpommplokemaaSized
import Derived.Test.YtnfpommplokemaaDecQ
import Derived.Test.YtnfpommplokemaaDiv64b
import Derived.Maps.AppendAt
import Derived.Deep.RegionWith
namespace Go.Proofs.Ytnfpommplokemaa
open Go.RowKit Go.Shelf
set_option linter.unusedVariables false
set_option linter.unusedSimpArgs false
theorem which_any (n : Int) (all : Nat) (h : 0 < all) (hm : all ≤ 9223372036854775807) (w : World) :
    Calls Try.prog 4 #[.int .i64 n, .int .i64 (all : Int)] w fun e w' => (∃ r : Nat, r < all ∧ e = .returned (.int .i64 (r : Int))) ∧ w' = w := by
  obtain ⟨A, hA⟩ : ∃ A : Int, A = (all : Int) := ⟨_, rfl⟩
  have h0 : (A == 0) = false := by rw [beq_eq_false_iff_ne]; omega
  have hA0 : ¬ A = 0 := by omega
  obtain ⟨t1, t2⟩ := tmod_abs n A (by omega)
  have hw : wrap64 (n.tmod A) = n.tmod A := by unfold wrap64; omega
  rw [← hA]
  by_cases c : n.tmod A < 0
  · have hw2 : wrap64 (n.tmod A + A) = n.tmod A + A := by unfold wrap64; omega
    have HR : Hid (n.tmod A + A = (((n.tmod A + A).toNat : Nat) : Int) ∧ (n.tmod A + A).toNat < all) := ⟨by omega, by omega⟩
    clear t1 t2 hA
    go_enter Try.func4, Try.ntmps4
    go_wp2
    go_ret
    exact ⟨⟨_, HR.out.2, by rw [← HR.out.1]; show Ending.returned (.int .i64 (wrap64 (n.tmod A + A))) = _; rw [hw2]⟩, rfl⟩
  · have HR : Hid (n.tmod A = (((n.tmod A).toNat : Nat) : Int) ∧ (n.tmod A).toNat < all) := ⟨by omega, by omega⟩
    clear t1 t2 hA
    go_enter Try.func4, Try.ntmps4
    go_wp2
    go_ret
    exact ⟨⟨_, HR.out.2, by rw [← HR.out.1]; rfl⟩, rfl⟩
def updI (y : Nat → Int) (k : Nat) (v : Int) : Nat → Int := fun i => if i = k then v else y i
theorem sumTo_over (y : Nat → Int) (k : Nat) (v : Int) (n : Nat) (h : n ≤ k) : sumTo (updI y k v) n = sumTo y n := by
  induction n with
  | zero => rfl
  | succ n ih =>
    have e : updI y k v n = y n := if_neg (by omega)
    simp only [sumTo]; rw [ih (by omega), e]
theorem sumTo_upd (y : Nat → Int) (k : Nat) (v : Int) (n : Nat) (h : k < n) : sumTo (updI y k v) n = sumTo y n + v - y k := by
  induction n with
  | zero => omega
  | succ n ih =>
    simp only [sumTo]
    rcases Nat.lt_or_ge k n with hk | hk
    · have e : updI y k v n = y n := if_neg (by omega)
      rw [ih hk, e]; omega
    · obtain rfl : k = n := by omega
      have e : updI y k v k = v := if_pos rfl
      rw [sumTo_over y k v k (Nat.le_refl _), e]; omega
def swp (y : Nat → Int) (k : Nat) : Nat → Int := updI (updI y 0 (y k)) k (y 0)
theorem sumTo_swp (y : Nat → Int) (k n : Nat) (h : k < n) : sumTo (swp y k) n = sumTo y n := by
  unfold swp
  rw [sumTo_upd _ _ _ _ h, sumTo_upd _ _ _ _ (by omega)]
  by_cases hk : k = 0
  · subst hk
    have e : updI y 0 (y 0) 0 = y 0 := if_pos rfl
    rw [e]; omega
  · have e : updI y 0 (y k) k = y k := if_neg hk
    rw [e]; omega
theorem swp_I64 (y : Nat → Int) (k : Nat) (h : ∀ i, I64 (y i)) (i : Nat) : I64 (swp y k i) := by
  unfold swp updI; split; exact h _; split; exact h _; exact h _
theorem wr_plus (P n : Int) : wr (wr P + n) = wr (P + n) := by
  have h1 : ∃ q, wr P = P - 340282366920938463463374607431768211456 * q := ⟨(P + 170141183460469231731687303715884105728) / 340282366920938463463374607431768211456, by unfold wr; omega⟩
  obtain ⟨q, hq⟩ := h1
  rw [hq]; unfold wr; omega
theorem wr_less (P n : Int) : wr (wr P - n) = wr (P - n) := by
  have h1 : ∃ q, wr P = P - 340282366920938463463374607431768211456 * q := ⟨(P + 170141183460469231731687303715884105728) / 340282366920938463463374607431768211456, by unfold wr; omega⟩
  obtain ⟨q, hq⟩ := h1
  rw [hq]; unfold wr; omega
theorem plus_w (P n : Int) (hn : I64 n) (w : World) :
    Calls Try.prog 5 #[.agg #[.int .i64 (sH (wr P)), .int .u64 (sL (wr P))], .int .i64 n] w fun e w' => e = .returned (.agg #[.int .i64 (sH (wr (P + n))), .int .u64 (sL (wr (P + n)))]) ∧ Below w.heap.size w w' := by
  refine (plus_any (sH (wr P)) (sL (wr P)) n (U64_sL _) hn w).mono ?_
  rintro e w1 ⟨rfl, o1, o2, o3, o4, rfl⟩
  rw [sv_H_L, wr_plus]
  exact ⟨rfl, below_new (below_new (below_new (below_new (Below.refl _ _) _) _) _) _⟩
theorem minus_w (P n : Int) (hn : I64 n) (w : World) :
    Calls Try.prog 6 #[.agg #[.int .i64 (sH (wr P)), .int .u64 (sL (wr P))], .int .i64 n] w fun e w' => e = .returned (.agg #[.int .i64 (sH (wr (P - n))), .int .u64 (sL (wr (P - n)))]) ∧ Below w.heap.size w w' := by
  refine (minus_any (sH (wr P)) (sL (wr P)) n (U64_sL _) hn w).mono ?_
  rintro e w1 ⟨rfl, hb⟩
  rw [sv_H_L, wr_less]
  exact ⟨rfl, hb⟩
/-- the copy at g, the sum that came in; below it all is as it was. -/
structure TM (w : World) (g len : Nat) (hi lo : Int) (y : Nat → Int) (wx : World) : Prop where
  s0 : wx.cell? ⟨w.heap.size, 0, none⟩ = some (.int .i64 hi)
  s1 : wx.cell? ⟨w.heap.size, 1, none⟩ = some (.int .u64 lo)
  m : ∀ j, j < len → wx.cell? ⟨g, j, none⟩ = some (.int .i64 (y j))
  fm : ∀ j, j < len → wx.frozen? ⟨g, j, none⟩ = false
  b : Below w.heap.size w wx
  g1 : w.heap.size < g
  sz : g < wx.heap.size
theorem TM.below {w : World} {g len : Nat} {hi lo : Int} {y : Nat → Int} {wx wy : World} (h : TM w g len hi lo y wx) (hb : Below wx.heap.size wx wy) : TM w g len hi lo y wy := by
  obtain ⟨s0, s1, m, fm, b, g1, sz⟩ := h
  have cc : ∀ (p : Nat) (o : Nat), p ≤ g → wy.cell? ⟨p, o, none⟩ = wx.cell? ⟨p, o, none⟩ := fun p o hp => hb.cell (p := ⟨p, o, none⟩) (by simp; omega)
  have ff : ∀ (p : Nat) (o : Nat), p ≤ g → wy.frozen? ⟨p, o, none⟩ = wx.frozen? ⟨p, o, none⟩ := fun p o hp => hb.frozen (p := ⟨p, o, none⟩) (by simp; omega)
  have hs := hb.size
  refine ⟨?_, ?_, fun j hj => ?_, fun j hj => ?_, below_then b hb, g1, by omega⟩
  · rw [cc _ _ (by omega)]; exact s0
  · rw [cc _ _ (by omega)]; exact s1
  · rw [cc _ _ (by omega)]; exact m j hj
  · rw [ff _ _ (by omega)]; exact fm j hj
theorem TM.drew {w : World} {g len : Nat} {hi lo : Int} {y : Nat → Int} {wx : World} (h : TM w g len hi lo y wx) : TM w g len hi lo y wx.drew := ⟨h.s0, h.s1, h.m, h.fm, h.b.drew, h.g1, h.sz⟩
theorem TM.up {w : World} {g len : Nat} {hi lo : Int} {y : Nat → Int} {wx : World} (h : TM w g len hi lo y wx) (k : Nat) (hk : k < len) (v : Int) : TM w g len hi lo (updI y k v) (wx.setCell ⟨g, k, none⟩ (.int .i64 v)) := by
  obtain ⟨s0, s1, m, fm, b, g1, sz⟩ := h
  have ot : ∀ p o, p ≠ g → (wx.setCell ⟨g, k, none⟩ (.int .i64 v)).cell? ⟨p, o, none⟩ = wx.cell? ⟨p, o, none⟩ := fun p o hp => by
    rw [World.cell?_setCell_other _ _ _ _ (by intro e; injection e with e1; omega)]
  refine ⟨?_, ?_, fun j hj => ?_, fun j hj => by simpa using fm j hj, b.setCell (p := ⟨g, k, none⟩) (show w.heap.size ≤ g by omega) _, g1, by simpa using sz⟩
  · rw [ot _ _ (by omega)]; exact s0
  · rw [ot _ _ (by omega)]; exact s1
  · by_cases e : j = k
    · subst e
      unfold updI; rw [if_pos rfl]
      exact World.cell?_setCell_same _ _ _ (m j hj)
    · unfold updI; rw [if_neg e, World.cell?_setCell_other _ _ _ _ (by intro e'; injection e' with e1 e2; omega)]
      exact m j hj
/-- and three sums at A, B and C. -/
structure TA (w : World) (g len : Nat) (hi lo : Int) (y : Nat → Int) (A B C : Nat) (va vb vc : Int) (wx : World) : Prop where
  tm : TM w g len hi lo y wx
  a0 : wx.cell? ⟨A, 0, none⟩ = some (.int .i64 (sH va))
  a1 : wx.cell? ⟨A, 1, none⟩ = some (.int .u64 (sL va))
  b0 : wx.cell? ⟨B, 0, none⟩ = some (.int .i64 (sH vb))
  b1 : wx.cell? ⟨B, 1, none⟩ = some (.int .u64 (sL vb))
  c0 : wx.cell? ⟨C, 0, none⟩ = some (.int .i64 (sH vc))
  c1 : wx.cell? ⟨C, 1, none⟩ = some (.int .u64 (sL vc))
  fr : ∀ o, wx.frozen? ⟨A, o, none⟩ = false ∧ wx.frozen? ⟨B, o, none⟩ = false ∧ wx.frozen? ⟨C, o, none⟩ = false
  ne : A ≠ B ∧ A ≠ C ∧ B ≠ C
  gt : g < A ∧ g < B ∧ g < C
  lt : A < wx.heap.size ∧ B < wx.heap.size ∧ C < wx.heap.size
theorem TA.below {w : World} {g len : Nat} {hi lo : Int} {y : Nat → Int} {A B C : Nat} {va vb vc : Int} {wx wy : World} (h : TA w g len hi lo y A B C va vb vc wx) (hb : Below wx.heap.size wx wy) : TA w g len hi lo y A B C va vb vc wy := by
  obtain ⟨tm, a0, a1, b0, b1, c0, c1, fr, ne, gt, lt⟩ := h
  have cc : ∀ (p : Nat) (o : Nat), p < wx.heap.size → wy.cell? ⟨p, o, none⟩ = wx.cell? ⟨p, o, none⟩ := fun p o hp => hb.cell (p := ⟨p, o, none⟩) (by simp; omega)
  have ff : ∀ (p : Nat) (o : Nat), p < wx.heap.size → wy.frozen? ⟨p, o, none⟩ = wx.frozen? ⟨p, o, none⟩ := fun p o hp => hb.frozen (p := ⟨p, o, none⟩) (by simp; omega)
  have hs := hb.size
  refine ⟨tm.below hb, ?_, ?_, ?_, ?_, ?_, ?_, fun o => ?_, ne, gt, by omega⟩
  · rw [cc _ _ lt.1]; exact a0
  · rw [cc _ _ lt.1]; exact a1
  · rw [cc _ _ lt.2.1]; exact b0
  · rw [cc _ _ lt.2.1]; exact b1
  · rw [cc _ _ lt.2.2]; exact c0
  · rw [cc _ _ lt.2.2]; exact c1
  · rw [ff _ _ lt.1, ff _ _ lt.2.1, ff _ _ lt.2.2]; exact fr o
theorem TA.drew {w : World} {g len : Nat} {hi lo : Int} {y : Nat → Int} {A B C : Nat} {va vb vc : Int} {wx : World} (h : TA w g len hi lo y A B C va vb vc wx) : TA w g len hi lo y A B C va vb vc wx.drew :=
  ⟨h.tm.drew, h.a0, h.a1, h.b0, h.b1, h.c0, h.c1, h.fr, h.ne, h.gt, h.lt⟩
theorem TM.two {w : World} {g len : Nat} {hi lo : Int} {y : Nat → Int} {wx : World} (h : TM w g len hi lo y wx) (X : Nat) (hX : g < X) (u v : Value) : TM w g len hi lo y ((wx.setCell ⟨X, 0, none⟩ u).setCell ⟨X, 1, none⟩ v) := by
  obtain ⟨s0, s1, m, fm, b, g1, sz⟩ := h
  have ot : ∀ p o, p ≠ X → ((wx.setCell ⟨X, 0, none⟩ u).setCell ⟨X, 1, none⟩ v).cell? ⟨p, o, none⟩ = wx.cell? ⟨p, o, none⟩ := fun p o hp => by
    rw [World.cell?_setCell_other _ _ _ _ (by intro e; injection e with e1; omega), World.cell?_setCell_other _ _ _ _ (by intro e; injection e with e1; omega)]
  refine ⟨?_, ?_, fun j hj => ?_, fun j hj => by simpa using fm j hj, (b.setCell (p := ⟨X, 0, none⟩) (show w.heap.size ≤ X by omega) _).setCell (p := ⟨X, 1, none⟩) (show w.heap.size ≤ X by omega) _, g1, by simpa using sz⟩
  · rw [ot _ _ (by omega)]; exact s0
  · rw [ot _ _ (by omega)]; exact s1
  · rw [ot _ _ (by omega)]; exact m j hj
theorem two_other (wx : World) (X p o : Nat) (u v : Value) (hp : p ≠ X) : ((wx.setCell ⟨X, 0, none⟩ u).setCell ⟨X, 1, none⟩ v).cell? ⟨p, o, none⟩ = wx.cell? ⟨p, o, none⟩ := by
  rw [World.cell?_setCell_other _ _ _ _ (by intro e; injection e with e1; omega), World.cell?_setCell_other _ _ _ _ (by intro e; injection e with e1; omega)]
theorem two_same {wx : World} {X : Nat} {u v u' v' : Value} (h0 : wx.cell? ⟨X, 0, none⟩ = some u') (h1 : wx.cell? ⟨X, 1, none⟩ = some v') : ((wx.setCell ⟨X, 0, none⟩ u).setCell ⟨X, 1, none⟩ v).cell? ⟨X, 0, none⟩ = some u ∧ ((wx.setCell ⟨X, 0, none⟩ u).setCell ⟨X, 1, none⟩ v).cell? ⟨X, 1, none⟩ = some v := by
  constructor
  · rw [World.cell?_setCell_other _ _ _ _ (by simp)]; exact World.cell?_setCell_same _ _ _ h0
  · exact World.cell?_setCell_same _ _ _ (u := v') (by rw [World.cell?_setCell_other _ _ _ _ (by simp)]; exact h1)
theorem TA.setA {w : World} {g len : Nat} {hi lo : Int} {y : Nat → Int} {A B C : Nat} {va vb vc : Int} {wx : World} (h : TA w g len hi lo y A B C va vb vc wx) (v : Int) : TA w g len hi lo y A B C v vb vc ((wx.setCell ⟨A, 0, none⟩ (.int .i64 (sH v))).setCell ⟨A, 1, none⟩ (.int .u64 (sL v))) := by
  obtain ⟨tm, a0, a1, b0, b1, c0, c1, fr, ne, gt, lt⟩ := h
  refine ⟨tm.two A gt.1 _ _, (two_same a0 a1).1, (two_same a0 a1).2, ?_, ?_, ?_, ?_, fun o => by simpa using fr o, ne, gt, by simpa using lt⟩
  · rw [two_other _ _ _ _ _ _ (Ne.symm ne.1)]; exact b0
  · rw [two_other _ _ _ _ _ _ (Ne.symm ne.1)]; exact b1
  · rw [two_other _ _ _ _ _ _ (Ne.symm ne.2.1)]; exact c0
  · rw [two_other _ _ _ _ _ _ (Ne.symm ne.2.1)]; exact c1
theorem TA.setB {w : World} {g len : Nat} {hi lo : Int} {y : Nat → Int} {A B C : Nat} {va vb vc : Int} {wx : World} (h : TA w g len hi lo y A B C va vb vc wx) (v : Int) : TA w g len hi lo y A B C va v vc ((wx.setCell ⟨B, 0, none⟩ (.int .i64 (sH v))).setCell ⟨B, 1, none⟩ (.int .u64 (sL v))) := by
  obtain ⟨tm, a0, a1, b0, b1, c0, c1, fr, ne, gt, lt⟩ := h
  refine ⟨tm.two B gt.2.1 _ _, ?_, ?_, (two_same b0 b1).1, (two_same b0 b1).2, ?_, ?_, fun o => by simpa using fr o, ne, gt, by simpa using lt⟩
  · rw [two_other _ _ _ _ _ _ ne.1]; exact a0
  · rw [two_other _ _ _ _ _ _ ne.1]; exact a1
  · rw [two_other _ _ _ _ _ _ (Ne.symm ne.2.2)]; exact c0
  · rw [two_other _ _ _ _ _ _ (Ne.symm ne.2.2)]; exact c1
theorem TA.setC {w : World} {g len : Nat} {hi lo : Int} {y : Nat → Int} {A B C : Nat} {va vb vc : Int} {wx : World} (h : TA w g len hi lo y A B C va vb vc wx) (v : Int) : TA w g len hi lo y A B C va vb v ((wx.setCell ⟨C, 0, none⟩ (.int .i64 (sH v))).setCell ⟨C, 1, none⟩ (.int .u64 (sL v))) := by
  obtain ⟨tm, a0, a1, b0, b1, c0, c1, fr, ne, gt, lt⟩ := h
  refine ⟨tm.two C gt.2.2 _ _, ?_, ?_, ?_, ?_, (two_same c0 c1).1, (two_same c0 c1).2, fun o => by simpa using fr o, ne, gt, by simpa using lt⟩
  · rw [two_other _ _ _ _ _ _ ne.2.1]; exact a0
  · rw [two_other _ _ _ _ _ _ ne.2.1]; exact a1
  · rw [two_other _ _ _ _ _ _ ne.2.2]; exact b0
  · rw [two_other _ _ _ _ _ _ ne.2.2]; exact b1
end Go.Proofs.Ytnfpommplokemaa
