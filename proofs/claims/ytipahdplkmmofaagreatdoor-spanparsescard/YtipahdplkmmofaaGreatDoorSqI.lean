
import Derived.Test.YtipahdplkmmofaaGreatDoorSqR
import Derived.Test.YtipahdplkmmofaaGreatDoorSqH
namespace Go.Proofs.YtipahdplkmmofaaGreatDoor
open Go.RowKit
set_option linter.unusedVariables false
set_option linter.unusedSimpArgs false
theorem MU_hl : sH MU = 1099511627776 ∧ sL MU = 0 := by decide
theorem sH_bd {x : Int} (h0 : 0 ≤ x) (h1 : x ≤ MU) : 0 ≤ sH x ∧ sH x ≤ 1099511627776 := by
  rw [MU_val] at h1; unfold sH; omega
theorem sat_hl (x : Int) : sH (sat x) = (if MU < x then 1099511627776 else sH x) ∧ sL (sat x) = (if MU < x then 0 else sL x) := by
  by_cases h : x ≤ MU
  · rw [sat_of h, if_neg (by omega), if_neg (by omega)]; exact ⟨rfl, rfl⟩
  · rw [sat_over h, if_pos (by omega), if_pos (by omega)]; exact MU_hl
/-- a sum in memory. -/
def SM (W : World) (N : Nat) (h l : Int) : Prop := N < W.heap.size ∧ W.cell? ⟨N, 0, none⟩ = some (.int .i64 h) ∧ W.cell? ⟨N, 1, none⟩ = some (.int .u64 l) ∧ W.frozen? ⟨N, 0, none⟩ = false ∧ W.frozen? ⟨N, 1, none⟩ = false
theorem SM.new (w : World) (h l : Int) (N : Nat) (hN : N = w.heap.size) : SM (w.alloc (.cells #[.int .i64 h, .int .u64 l] 62)) N h l := by
  subst hN
  refine ⟨by simp, by simp [go_sem], by simp [go_sem], by simp [go_sem], by simp [go_sem]⟩
theorem SM.keep {W W' : World} {N B : Nat} {h l : Int} (hS : SM W N h l) (hb : Below B W W') (hB : N < B) : SM W' N h l :=
  ⟨Nat.lt_of_lt_of_le hS.1 hb.size, by rw [hb.cell (p := ⟨N, 0, none⟩) hB]; exact hS.2.1, by rw [hb.cell (p := ⟨N, 1, none⟩) hB]; exact hS.2.2.1, by rw [hb.frozen (p := ⟨N, 0, none⟩) hB]; exact hS.2.2.2.1, by rw [hb.frozen (p := ⟨N, 1, none⟩) hB]; exact hS.2.2.2.2⟩
theorem SM.alloc {W : World} {N : Nat} {h l : Int} (hS : SM W N h l) (o : Obj) : SM (W.alloc o) N h l := hS.keep (below_new (Below.refl _ _) o) hS.1
theorem SM.set {W : World} {N : Nat} {h l : Int} (hS : SM W N h l) (h' l' : Int) : SM ((W.setCell ⟨N, 0, none⟩ (.int .i64 h')).setCell ⟨N, 1, none⟩ (.int .u64 l')) N h' l' := by
  obtain ⟨h0, h1, h2, h3, h4⟩ := hS
  refine ⟨by simpa using h0, by simp [go_sem, h1], by simp [go_sem, h2], by simp [go_sem, h3], by simp [go_sem, h4]⟩
theorem SM.far {W : World} {N M i : Nat} {h l : Int} (hS : SM W N h l) (hM : N ≠ M) (v : Value) : SM (W.setCell ⟨M, i, none⟩ v) N h l := by
  obtain ⟨h0, h1, h2, h3, h4⟩ := hS
  refine ⟨by simpa using h0, ?_, ?_, ?_, ?_⟩
  · rw [World.cell?_setCell_other _ _ _ _ (by intro e; injection e with e1 e2; exact hM e1.symm)]; exact h1
  · rw [World.cell?_setCell_other _ _ _ _ (by intro e; injection e with e1 e2; exact hM e1.symm)]; exact h2
  · simp [go_sem, h3]
  · simp [go_sem, h4]
theorem below_set2 {B : Nat} {a w : World} {N : Nat} {v0 v1 : Value} (h : Below B a w) (hN : B ≤ N) : Below B a ((w.setCell ⟨N, 0, none⟩ v0).setCell ⟨N, 1, none⟩ v1) :=
  (h.setCell (p := ⟨N, 0, none⟩) hN _).setCell (p := ⟨N, 1, none⟩) hN _
set_option maxRecDepth 100000 in
set_option maxHeartbeats 2000000 in
theorem plus_hl (ah al bh bl oh ol : Int) (a1 : 0 ≤ ah) (a2 : ah ≤ 1099511627776) (b1 : 0 ≤ bh) (b2 : bh ≤ 1099511627776) (ua : U64 al) (ub : U64 bl) (uo : U64 ol) (e : sv oh ol = sv ah al + sv bh bl) (w : World) :
    Calls Tryz.prog 31 #[.agg #[.int .i64 ah, .int .u64 al], .agg #[.int .i64 bh, .int .u64 bl]] w fun e w' => e = .returned (.agg #[.int .i64 (sH (sat (sv oh ol))), .int .u64 (sL (sat (sv oh ol)))]) ∧ Below w.heap.size w w' := by
  have u1 := ua.1
  have u2 := ua.2
  have v1 := ub.1
  have v2 := ub.2
  have o1 := uo.1
  have o2 := uo.2
  unfold sv at e
  have HC : Hid (∀ W, Calls Tryz.prog 74 #[.agg #[.int .i64 oh, .int .u64 ol], .agg #[.int .i64 1099511627776, .int .u64 0]] W fun e w' => e = .returned (.int .i64 (cmpI (sv oh ol) (sv 1099511627776 0))) ∧ Below W.heap.size W w') := fun W => rcmp_any oh ol 1099511627776 0 uo ⟨by omega, by omega⟩ W
  have eM : sv 1099511627776 0 = MU := by decide
  rw [eM] at HC
  have eh : sH (sv oh ol) = oh := sH_sv oh ol uo
  have el : sL (sv oh ol) = ol := sL_sv oh ol uo
  obtain ⟨g1, g2⟩ := sat_hl (sv oh ol)
  rw [eh] at g1
  rw [el] at g2
  rw [g1, g2]
  have wl : IntKind.u64.wrap (al + bl) = ol := by rw [IntKind.wrap_u64]; omega
  have wh : IntKind.i64.wrap (ah + bh) = ah + bh := IntWalk.i64_in _ (by omega)
  have wh' : wrap64 (ah + bh) = ah + bh := IntWalk.wrap64_in _ (by omega)
  obtain ⟨W, hW⟩ : ∃ W, W = ((((w.alloc (.cells #[.int .i64 ah, .int .u64 al] 62)).alloc (.cells #[.int .i64 bh, .int .u64 bl] 62)).alloc (.cells #[.int .i64 0, .int .u64 0] 62)).alloc (.cells #[.int .i64 1099511627776, .int .u64 0] 62)).alloc (.cells #[.int .i64 oh, .int .u64 ol] 62) := ⟨_, rfl⟩
  have bW : Below w.heap.size w W := by rw [hW]; exact below_new (below_new (below_new (below_new (below_new (Below.refl _ _) _) _) _) _) _
  have sR : SM W (w.heap.size + 1 + 1) 0 0 := by rw [hW]; exact ((SM.new _ 0 0 _ (by simp)).alloc _).alloc _
  have sM : SM W (w.heap.size + 1 + 1 + 1) 1099511627776 0 := by rw [hW]; exact (SM.new _ _ _ _ (by simp)).alloc _
  have sO : SM W (w.heap.size + 1 + 1 + 1 + 1) oh ol := by rw [hW]; exact SM.new _ _ _ _ (by simp)
  have HS : Hid (SM W (w.heap.size + 1 + 1) 0 0 ∧ SM W (w.heap.size + 1 + 1 + 1) 1099511627776 0 ∧ SM W (w.heap.size + 1 + 1 + 1 + 1) oh ol) := ⟨sR, sM, sO⟩
  have HW : Hid (W = ((((w.alloc (.cells #[.int .i64 ah, .int .u64 al] 62)).alloc (.cells #[.int .i64 bh, .int .u64 bl] 62)).alloc (.cells #[.int .i64 0, .int .u64 0] 62)).alloc (.cells #[.int .i64 1099511627776, .int .u64 0] 62)).alloc (.cells #[.int .i64 oh, .int .u64 ol] 62)) := hW
  clear hW sR sM sO
  by_cases hc : MU < sv oh ol
  · have ec : cmpI (sv oh ol) MU = 1 := by unfold cmpI; rw [if_neg (by omega), if_pos hc]
    rw [ec] at HC
    rw [if_pos hc, if_pos hc]
    clear ec eM eh el g1 g2 hc
    by_cases c1 : ol < al
    · obtain rfl : oh = ah + bh + 1 := by omega
      have wp : IntKind.i64.wrap (ah + bh + 1) = ah + bh + 1 := IntWalk.i64_in _ (by omega)
      have wp' : wrap64 (ah + bh + 1) = ah + bh + 1 := IntWalk.wrap64_in _ (by omega)
      clear e
      go_enter Tryz.func31, Tryz.ntmps31
      go_wp2_with fail
      rw [← HW.out]
      refine (HC.out _).mono ?_
      rintro e w1 ⟨rfl, B1⟩
      obtain ⟨q0, q1, q2⟩ := HS.out
      obtain ⟨_, r0, r1, f0, f1⟩ := q0.keep B1 q0.1
      obtain ⟨_, m0, m1, _, _⟩ := q1.keep B1 q1.1
      obtain ⟨_, t0, t1, _, _⟩ := q2.keep B1 q2.1
      have B2 := below_then bW B1
      clear q0 q1 q2 B1
      go_wp2_with fail
      simp [bodyPost, results, Tryz.results31, go_sem, r0, r1]
      exact below_set2 B2 (by omega)
    · obtain rfl : oh = ah + bh := by omega
      clear e
      go_enter Tryz.func31, Tryz.ntmps31
      go_wp2_with fail
      rw [← HW.out]
      refine (HC.out _).mono ?_
      rintro e w1 ⟨rfl, B1⟩
      obtain ⟨q0, q1, q2⟩ := HS.out
      obtain ⟨_, r0, r1, f0, f1⟩ := q0.keep B1 q0.1
      obtain ⟨_, m0, m1, _, _⟩ := q1.keep B1 q1.1
      obtain ⟨_, t0, t1, _, _⟩ := q2.keep B1 q2.1
      have B2 := below_then bW B1
      clear q0 q1 q2 B1
      go_wp2_with fail
      simp [bodyPost, results, Tryz.results31, go_sem, r0, r1]
      exact below_set2 B2 (by omega)
  · have ec : ∃ r, cmpI (sv oh ol) MU = r ∧ ¬ 0 < r := by
      unfold cmpI
      by_cases h : sv oh ol < MU
      · exact ⟨-1, by rw [if_pos h], by omega⟩
      · exact ⟨0, by rw [if_neg h, if_neg hc], by omega⟩
    obtain ⟨r, er, hr⟩ := ec
    rw [er] at HC
    rw [if_neg hc, if_neg hc]
    clear er eM eh el g1 g2 hc
    by_cases c1 : ol < al
    · obtain rfl : oh = ah + bh + 1 := by omega
      have wp : IntKind.i64.wrap (ah + bh + 1) = ah + bh + 1 := IntWalk.i64_in _ (by omega)
      have wp' : wrap64 (ah + bh + 1) = ah + bh + 1 := IntWalk.wrap64_in _ (by omega)
      clear e
      go_enter Tryz.func31, Tryz.ntmps31
      go_wp2_with fail
      rw [← HW.out]
      refine (HC.out _).mono ?_
      rintro e w1 ⟨rfl, B1⟩
      obtain ⟨q0, q1, q2⟩ := HS.out
      obtain ⟨_, r0, r1, f0, f1⟩ := q0.keep B1 q0.1
      obtain ⟨_, m0, m1, _, _⟩ := q1.keep B1 q1.1
      obtain ⟨_, t0, t1, _, _⟩ := q2.keep B1 q2.1
      have B2 := below_then bW B1
      clear q0 q1 q2 B1
      go_wp2_with fail
      simp [bodyPost, results, Tryz.results31, go_sem, r0, r1]
      exact below_set2 B2 (by omega)
    · obtain rfl : oh = ah + bh := by omega
      clear e
      go_enter Tryz.func31, Tryz.ntmps31
      go_wp2_with fail
      rw [← HW.out]
      refine (HC.out _).mono ?_
      rintro e w1 ⟨rfl, B1⟩
      obtain ⟨q0, q1, q2⟩ := HS.out
      obtain ⟨_, r0, r1, f0, f1⟩ := q0.keep B1 q0.1
      obtain ⟨_, m0, m1, _, _⟩ := q1.keep B1 q1.1
      obtain ⟨_, t0, t1, _, _⟩ := q2.keep B1 q2.1
      have B2 := below_then bW B1
      clear q0 q1 q2 B1
      go_wp2_with fail
      simp [bodyPost, results, Tryz.results31, go_sem, r0, r1]
      exact below_set2 B2 (by omega)
theorem plus4_any (a b : Int) (a0 : 0 ≤ a) (a1 : a ≤ MU) (b0 : 0 ≤ b) (b1 : b ≤ MU) (w : World) :
    Calls Tryz.prog 31 #[.agg #[.int .i64 (sH a), .int .u64 (sL a)], .agg #[.int .i64 (sH b), .int .u64 (sL b)]] w fun e w' => e = .returned (.agg #[.int .i64 (sH (sat (a + b))), .int .u64 (sL (sat (a + b)))]) ∧ Below w.heap.size w w' := by
  have ha := sH_bd a0 a1
  have hb := sH_bd b0 b1
  have e : sv (sH (a + b)) (sL (a + b)) = sv (sH a) (sL a) + sv (sH b) (sL b) := by rw [sv_H_L, sv_H_L, sv_H_L]
  have H := plus_hl (sH a) (sL a) (sH b) (sL b) (sH (a + b)) (sL (a + b)) ha.1 ha.2 hb.1 hb.2 (U64_sL a) (U64_sL b) (U64_sL _) e w
  rw [sv_H_L] at H
  exact H
end Go.Proofs.YtipahdplkmmofaaGreatDoor
