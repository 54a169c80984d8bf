
import Derived.Test.YtipahdplkmmofaaGreatDoorSpC
import Derived.Test.YtipahdplkmmofaaGreatDoorSqR
import Derived.LoopTactic
import Derived.BigQuiet
import Derived.Deep.RegionWith
import Derived.Deep.RegionHeld3
namespace Go.Proofs.YtipahdplkmmofaaGreatDoor
set_option linter.unusedVariables false
set_option linter.unusedSimpArgs false
/-- far outside int64. -/
def MU : Int := 20282409603651670423947251286016
def sat (x : Int) : Int := if x ≤ MU then x else MU
theorem MU_val : MU = 20282409603651670423947251286016 := rfl
theorem sat_bd {x : Int} (h : 0 ≤ x) : 0 ≤ sat x ∧ sat x ≤ MU := by
  unfold sat; have := MU_val; split <;> omega
theorem sat_of {x : Int} (h : x ≤ MU) : sat x = x := if_pos h
theorem sat_over {x : Int} (h : ¬ x ≤ MU) : sat x = MU := if_neg h
theorem sat_add {x y : Int} (hx : 0 ≤ x) (hy : 0 ≤ y) : sat (sat x + sat y) = sat (x + y) := by
  have := MU_val; unfold sat; repeat' split
  all_goals omega
theorem sat_idem (x : Int) : sat (sat x) = sat x := by
  have := MU_val; unfold sat; repeat' split
  all_goals omega
theorem sat_small {x : Int} (h : 0 ≤ x) : (sat x < 9223372036854775808 ↔ x < 9223372036854775808) := by
  have := MU_val; unfold sat; split <;> omega
theorem sat_val {x : Int} (h : x < 9223372036854775808) : sat x = x := by
  have := MU_val; unfold sat; split <;> omega
theorem sat_mul {x u : Int} (hx : 0 ≤ x) (hu : 1 ≤ u) : sat (sat x * u) = sat (x * u) := by
  by_cases h : x ≤ MU
  · rw [sat_of h]
  · rw [sat_over h]
    have h1 : MU * 1 ≤ MU * u := Int.mul_le_mul_of_nonneg_left hu (by have := MU_val; omega)
    have h2 : MU * u ≤ x * u := Int.mul_le_mul_of_nonneg_right (by omega) (by omega)
    have e1 : sat (MU * u) = MU := by unfold sat; split <;> omega
    have e2 : sat (x * u) = MU := by unfold sat; split <;> omega
    rw [e1, e2]
/-- the length of a unit by its text: two bytes, one byte. -/
def un2 (a b : UInt8) : Int := if b = 115 then (if a = 110 then 1 else if a = 117 then 1000 else if a = 109 then 1000000 else 0) else 0
def un1 (a : UInt8) : Int := if a = 115 then 1000000000 else if a = 109 then 60000000000 else if a = 104 then 3600000000000 else if a = 100 then 86400000000000 else if a = 119 then 604800000000000 else 0
theorem unitP_nil : unitP [] = -1 := rfl
theorem unitP_one (a : UInt8) : unitP [a] = if un1 a = 0 then -1 else unitP [a] := by
  split
  · rename_i h
    unfold un1 at h
    repeat' split at h
    all_goals first | omega | skip
    unfold unitP
    simp_all
  · rfl
/-- two bytes that are a unit. -/
theorem unit_two (a b : UInt8) (r : List UInt8) (h : 0 < un2 a b) : 0 ≤ unitP (a :: b :: r) ∧ usz (unitP (a :: b :: r)) = un2 a b ∧ unl (unitP (a :: b :: r)) = 2 := by
  unfold un2 at h ⊢
  by_cases hb : b = 115
  · subst hb
    by_cases h1 : a = 110
    · subst h1; simp [unitP, usz, unl]
    · by_cases h2 : a = 117
      · subst h2; simp [unitP, usz, unl]
      · by_cases h3 : a = 109
        · subst h3; simp [unitP, usz, unl]
        · simp [h1, h2, h3] at h
  · simp [hb] at h
/-- one byte that is a unit, and no two. -/
theorem unit_one (a : UInt8) (r : List UInt8) (h2 : ∀ b t, r = b :: t → ¬ 0 < un2 a b) (h : 0 < un1 a) : 0 ≤ unitP (a :: r) ∧ usz (unitP (a :: r)) = un1 a ∧ unl (unitP (a :: r)) = 1 := by
  have n1 : ¬ (a = 109 ∧ r.head? = some 115) := by
    rintro ⟨rfl, hr⟩
    cases r with
    | nil => simp at hr
    | cons b t => simp at hr; subst hr; exact h2 115 t rfl (by decide)
  have n2 : ¬ (a = 117 ∧ r.head? = some 115) := by
    rintro ⟨rfl, hr⟩
    cases r with
    | nil => simp at hr
    | cons b t => simp at hr; subst hr; exact h2 115 t rfl (by decide)
  have n3 : ¬ (a = 110 ∧ r.head? = some 115) := by
    rintro ⟨rfl, hr⟩
    cases r with
    | nil => simp at hr
    | cons b t => simp at hr; subst hr; exact h2 115 t rfl (by decide)
  have e : unitP (a :: r) = if a = 119 then 0 else if a = 100 then 1 else if a = 104 then 2 else if a = 109 then 3 else if a = 115 then 4 else -1 := by
    rw [unitP, if_neg n1, if_neg n2, if_neg n3]
  rw [e]
  unfold un1 at h ⊢
  by_cases c1 : a = 119
  · subst c1; simp [usz, unl]
  · by_cases c2 : a = 100
    · subst c2; simp [usz, unl]
    · by_cases c3 : a = 104
      · subst c3; simp [usz, unl]
      · by_cases c4 : a = 109
        · subst c4; simp [usz, unl]
        · by_cases c5 : a = 115
          · subst c5; simp [usz, unl]
          · simp [c1, c2, c3, c4, c5] at h
/-- no unit. -/
theorem unit_no (a : UInt8) (r : List UInt8) (h2 : ∀ b t, r = b :: t → ¬ 0 < un2 a b) (h : ¬ 0 < un1 a) : unitP (a :: r) = -1 := by
  have n1 : ¬ (a = 109 ∧ r.head? = some 115) := by rintro ⟨rfl, hr⟩; exact h (by decide)
  have n2 : ¬ (a = 117 ∧ r.head? = some 115) := by
    rintro ⟨rfl, hr⟩
    cases r with
    | nil => simp at hr
    | cons b t => simp at hr; subst hr; exact h2 115 t rfl (by decide)
  have n3 : ¬ (a = 110 ∧ r.head? = some 115) := by
    rintro ⟨rfl, hr⟩
    cases r with
    | nil => simp at hr
    | cons b t => simp at hr; subst hr; exact h2 115 t rfl (by decide)
  have c1 : ¬ a = 119 := by rintro rfl; exact h (by decide)
  have c2 : ¬ a = 100 := by rintro rfl; exact h (by decide)
  have c3 : ¬ a = 104 := by rintro rfl; exact h (by decide)
  have c4 : ¬ a = 109 := by rintro rfl; exact h (by decide)
  have c5 : ¬ a = 115 := by rintro rfl; exact h (by decide)
  rw [unitP, if_neg n1, if_neg n2, if_neg n3, if_neg c1, if_neg c2, if_neg c3, if_neg c4, if_neg c5]
/-- units by their lengths: a greater one stands ahead. -/
theorem usz_lt {u v : Int} (h1 : 0 ≤ u) (h2 : u ≤ 7) (h3 : 0 ≤ v) (h4 : v ≤ 7) : (usz v ≤ usz u ↔ u ≤ v) := by
  have a : u = 0 ∨ u = 1 ∨ u = 2 ∨ u = 3 ∨ u = 4 ∨ u = 5 ∨ u = 6 ∨ u = 7 := by omega
  have b : v = 0 ∨ v = 1 ∨ v = 2 ∨ v = 3 ∨ v = 4 ∨ v = 5 ∨ v = 6 ∨ v = 7 := by omega
  rcases a with e | e | e | e | e | e | e | e <;> subst e <;> rcases b with e | e | e | e | e | e | e | e <;> subst e <;> simp [usz]
/-- the last unit's length; none yet: more than any. -/
def lsz (last : Int) : Int := if last < 0 then 4611686018427387904 else usz last
theorem lsz_le {u last : Int} (h1 : 0 ≤ u) (h2 : u ≤ 7) (h3 : -1 ≤ last) (h4 : last ≤ 7) : (lsz last ≤ usz u ↔ u ≤ last) := by
  unfold lsz
  split
  · have := usz_bd u; omega
  · rw [usz_lt h1 h2 (by omega) h4]
end Go.Proofs.YtipahdplkmmofaaGreatDoor

namespace Go.Proofs.YtipahdplkmmofaaGreatDoor
open Go.RowKit
set_option linter.unusedVariables false
set_option linter.unusedSimpArgs false
theorem MU_hl : sH MU = 1099511627776 ∧ sL MU = 0 := by decide
theorem sH_bd {x : Int} (h0 : 0 ≤ x) (h1 : x ≤ MU) : 0 ≤ sH x ∧ sH x ≤ 1099511627776 := by
  rw [MU_val] at h1; unfold sH; omega
theorem sat_hl (x : Int) : sH (sat x) = (if MU < x then 1099511627776 else sH x) ∧ sL (sat x) = (if MU < x then 0 else sL x) := by
  by_cases h : x ≤ MU
  · rw [sat_of h, if_neg (by omega), if_neg (by omega)]; exact ⟨rfl, rfl⟩
  · rw [sat_over h, if_pos (by omega), if_pos (by omega)]; exact MU_hl
/-- a sum in memory. -/
def SM (W : World) (N : Nat) (h l : Int) : Prop := N < W.heap.size ∧ W.cell? ⟨N, 0, none⟩ = some (.int .i64 h) ∧ W.cell? ⟨N, 1, none⟩ = some (.int .u64 l) ∧ W.frozen? ⟨N, 0, none⟩ = false ∧ W.frozen? ⟨N, 1, none⟩ = false
theorem SM.new (w : World) (h l : Int) (N : Nat) (hN : N = w.heap.size) : SM (w.alloc (.cells #[.int .i64 h, .int .u64 l] 62)) N h l := by
  subst hN
  refine ⟨by simp, by simp [go_sem], by simp [go_sem], by simp [go_sem], by simp [go_sem]⟩
theorem SM.keep {W W' : World} {N B : Nat} {h l : Int} (hS : SM W N h l) (hb : Below B W W') (hB : N < B) : SM W' N h l :=
  ⟨Nat.lt_of_lt_of_le hS.1 hb.size, by rw [hb.cell (p := ⟨N, 0, none⟩) hB]; exact hS.2.1, by rw [hb.cell (p := ⟨N, 1, none⟩) hB]; exact hS.2.2.1, by rw [hb.frozen (p := ⟨N, 0, none⟩) hB]; exact hS.2.2.2.1, by rw [hb.frozen (p := ⟨N, 1, none⟩) hB]; exact hS.2.2.2.2⟩
theorem SM.alloc {W : World} {N : Nat} {h l : Int} (hS : SM W N h l) (o : Obj) : SM (W.alloc o) N h l := hS.keep (below_new (Below.refl _ _) o) hS.1
theorem SM.set {W : World} {N : Nat} {h l : Int} (hS : SM W N h l) (h' l' : Int) : SM ((W.setCell ⟨N, 0, none⟩ (.int .i64 h')).setCell ⟨N, 1, none⟩ (.int .u64 l')) N h' l' := by
  obtain ⟨h0, h1, h2, h3, h4⟩ := hS
  refine ⟨by simpa using h0, by simp [go_sem, h1], by simp [go_sem, h2], by simp [go_sem, h3], by simp [go_sem, h4]⟩
theorem SM.far {W : World} {N M i : Nat} {h l : Int} (hS : SM W N h l) (hM : N ≠ M) (v : Value) : SM (W.setCell ⟨M, i, none⟩ v) N h l := by
  obtain ⟨h0, h1, h2, h3, h4⟩ := hS
  refine ⟨by simpa using h0, ?_, ?_, ?_, ?_⟩
  · rw [World.cell?_setCell_other _ _ _ _ (by intro e; injection e with e1 e2; exact hM e1.symm)]; exact h1
  · rw [World.cell?_setCell_other _ _ _ _ (by intro e; injection e with e1 e2; exact hM e1.symm)]; exact h2
  · simp [go_sem, h3]
  · simp [go_sem, h4]
theorem below_set2 {B : Nat} {a w : World} {N : Nat} {v0 v1 : Value} (h : Below B a w) (hN : B ≤ N) : Below B a ((w.setCell ⟨N, 0, none⟩ v0).setCell ⟨N, 1, none⟩ v1) :=
  (h.setCell (p := ⟨N, 0, none⟩) hN _).setCell (p := ⟨N, 1, none⟩) hN _
set_option maxRecDepth 100000 in
set_option maxHeartbeats 2000000 in
theorem plus_hl (ah al bh bl oh ol : Int) (a1 : 0 ≤ ah) (a2 : ah ≤ 1099511627776) (b1 : 0 ≤ bh) (b2 : bh ≤ 1099511627776) (ua : U64 al) (ub : U64 bl) (uo : U64 ol) (e : sv oh ol = sv ah al + sv bh bl) (w : World) :
    Calls Tryz.prog 31 #[.agg #[.int .i64 ah, .int .u64 al], .agg #[.int .i64 bh, .int .u64 bl]] w fun e w' => e = .returned (.agg #[.int .i64 (sH (sat (sv oh ol))), .int .u64 (sL (sat (sv oh ol)))]) ∧ Below w.heap.size w w' := by
  have u1 := ua.1
  have u2 := ua.2
  have v1 := ub.1
  have v2 := ub.2
  have o1 := uo.1
  have o2 := uo.2
  unfold sv at e
  have HC : Hid (∀ W, Calls Tryz.prog 74 #[.agg #[.int .i64 oh, .int .u64 ol], .agg #[.int .i64 1099511627776, .int .u64 0]] W fun e w' => e = .returned (.int .i64 (cmpI (sv oh ol) (sv 1099511627776 0))) ∧ Below W.heap.size W w') := fun W => rcmp_any oh ol 1099511627776 0 uo ⟨by omega, by omega⟩ W
  have eM : sv 1099511627776 0 = MU := by decide
  rw [eM] at HC
  have eh : sH (sv oh ol) = oh := sH_sv oh ol uo
  have el : sL (sv oh ol) = ol := sL_sv oh ol uo
  obtain ⟨g1, g2⟩ := sat_hl (sv oh ol)
  rw [eh] at g1
  rw [el] at g2
  rw [g1, g2]
  have wl : IntKind.u64.wrap (al + bl) = ol := by rw [IntKind.wrap_u64]; omega
  have wh : IntKind.i64.wrap (ah + bh) = ah + bh := IntWalk.i64_in _ (by omega)
  have wh' : wrap64 (ah + bh) = ah + bh := IntWalk.wrap64_in _ (by omega)
  obtain ⟨W, hW⟩ : ∃ W, W = ((((w.alloc (.cells #[.int .i64 ah, .int .u64 al] 62)).alloc (.cells #[.int .i64 bh, .int .u64 bl] 62)).alloc (.cells #[.int .i64 0, .int .u64 0] 62)).alloc (.cells #[.int .i64 1099511627776, .int .u64 0] 62)).alloc (.cells #[.int .i64 oh, .int .u64 ol] 62) := ⟨_, rfl⟩
  have bW : Below w.heap.size w W := by rw [hW]; exact below_new (below_new (below_new (below_new (below_new (Below.refl _ _) _) _) _) _) _
  have sR : SM W (w.heap.size + 1 + 1) 0 0 := by rw [hW]; exact ((SM.new _ 0 0 _ (by simp)).alloc _).alloc _
  have sM : SM W (w.heap.size + 1 + 1 + 1) 1099511627776 0 := by rw [hW]; exact (SM.new _ _ _ _ (by simp)).alloc _
  have sO : SM W (w.heap.size + 1 + 1 + 1 + 1) oh ol := by rw [hW]; exact SM.new _ _ _ _ (by simp)
  have HS : Hid (SM W (w.heap.size + 1 + 1) 0 0 ∧ SM W (w.heap.size + 1 + 1 + 1) 1099511627776 0 ∧ SM W (w.heap.size + 1 + 1 + 1 + 1) oh ol) := ⟨sR, sM, sO⟩
  have HW : Hid (W = ((((w.alloc (.cells #[.int .i64 ah, .int .u64 al] 62)).alloc (.cells #[.int .i64 bh, .int .u64 bl] 62)).alloc (.cells #[.int .i64 0, .int .u64 0] 62)).alloc (.cells #[.int .i64 1099511627776, .int .u64 0] 62)).alloc (.cells #[.int .i64 oh, .int .u64 ol] 62)) := hW
  clear hW sR sM sO
  by_cases hc : MU < sv oh ol
  · have ec : cmpI (sv oh ol) MU = 1 := by unfold cmpI; rw [if_neg (by omega), if_pos hc]
    rw [ec] at HC
    rw [if_pos hc, if_pos hc]
    clear ec eM eh el g1 g2 hc
    by_cases c1 : ol < al
    · obtain rfl : oh = ah + bh + 1 := by omega
      have wp : IntKind.i64.wrap (ah + bh + 1) = ah + bh + 1 := IntWalk.i64_in _ (by omega)
      have wp' : wrap64 (ah + bh + 1) = ah + bh + 1 := IntWalk.wrap64_in _ (by omega)
      clear e
      go_enter Tryz.func31, Tryz.ntmps31
      go_wp2_with fail
      rw [← HW.out]
      refine (HC.out _).mono ?_
      rintro e w1 ⟨rfl, B1⟩
      obtain ⟨q0, q1, q2⟩ := HS.out
      obtain ⟨_, r0, r1, f0, f1⟩ := q0.keep B1 q0.1
      obtain ⟨_, m0, m1, _, _⟩ := q1.keep B1 q1.1
      obtain ⟨_, t0, t1, _, _⟩ := q2.keep B1 q2.1
      have B2 := below_then bW B1
      clear q0 q1 q2 B1
      go_wp2_with fail
      simp [bodyPost, results, Tryz.results31, go_sem, r0, r1]
      exact below_set2 B2 (by omega)
    · obtain rfl : oh = ah + bh := by omega
      clear e
      go_enter Tryz.func31, Tryz.ntmps31
      go_wp2_with fail
      rw [← HW.out]
      refine (HC.out _).mono ?_
      rintro e w1 ⟨rfl, B1⟩
      obtain ⟨q0, q1, q2⟩ := HS.out
      obtain ⟨_, r0, r1, f0, f1⟩ := q0.keep B1 q0.1
      obtain ⟨_, m0, m1, _, _⟩ := q1.keep B1 q1.1
      obtain ⟨_, t0, t1, _, _⟩ := q2.keep B1 q2.1
      have B2 := below_then bW B1
      clear q0 q1 q2 B1
      go_wp2_with fail
      simp [bodyPost, results, Tryz.results31, go_sem, r0, r1]
      exact below_set2 B2 (by omega)
  · have ec : ∃ r, cmpI (sv oh ol) MU = r ∧ ¬ 0 < r := by
      unfold cmpI
      by_cases h : sv oh ol < MU
      · exact ⟨-1, by rw [if_pos h], by omega⟩
      · exact ⟨0, by rw [if_neg h, if_neg hc], by omega⟩
    obtain ⟨r, er, hr⟩ := ec
    rw [er] at HC
    rw [if_neg hc, if_neg hc]
    clear er eM eh el g1 g2 hc
    by_cases c1 : ol < al
    · obtain rfl : oh = ah + bh + 1 := by omega
      have wp : IntKind.i64.wrap (ah + bh + 1) = ah + bh + 1 := IntWalk.i64_in _ (by omega)
      have wp' : wrap64 (ah + bh + 1) = ah + bh + 1 := IntWalk.wrap64_in _ (by omega)
      clear e
      go_enter Tryz.func31, Tryz.ntmps31
      go_wp2_with fail
      rw [← HW.out]
      refine (HC.out _).mono ?_
      rintro e w1 ⟨rfl, B1⟩
      obtain ⟨q0, q1, q2⟩ := HS.out
      obtain ⟨_, r0, r1, f0, f1⟩ := q0.keep B1 q0.1
      obtain ⟨_, m0, m1, _, _⟩ := q1.keep B1 q1.1
      obtain ⟨_, t0, t1, _, _⟩ := q2.keep B1 q2.1
      have B2 := below_then bW B1
      clear q0 q1 q2 B1
      go_wp2_with fail
      simp [bodyPost, results, Tryz.results31, go_sem, r0, r1]
      exact below_set2 B2 (by omega)
    · obtain rfl : oh = ah + bh := by omega
      clear e
      go_enter Tryz.func31, Tryz.ntmps31
      go_wp2_with fail
      rw [← HW.out]
      refine (HC.out _).mono ?_
      rintro e w1 ⟨rfl, B1⟩
      obtain ⟨q0, q1, q2⟩ := HS.out
      obtain ⟨_, r0, r1, f0, f1⟩ := q0.keep B1 q0.1
      obtain ⟨_, m0, m1, _, _⟩ := q1.keep B1 q1.1
      obtain ⟨_, t0, t1, _, _⟩ := q2.keep B1 q2.1
      have B2 := below_then bW B1
      clear q0 q1 q2 B1
      go_wp2_with fail
      simp [bodyPost, results, Tryz.results31, go_sem, r0, r1]
      exact below_set2 B2 (by omega)
theorem plus4_any (a b : Int) (a0 : 0 ≤ a) (a1 : a ≤ MU) (b0 : 0 ≤ b) (b1 : b ≤ MU) (w : World) :
    Calls Tryz.prog 31 #[.agg #[.int .i64 (sH a), .int .u64 (sL a)], .agg #[.int .i64 (sH b), .int .u64 (sL b)]] w fun e w' => e = .returned (.agg #[.int .i64 (sH (sat (a + b))), .int .u64 (sL (sat (a + b)))]) ∧ Below w.heap.size w w' := by
  have ha := sH_bd a0 a1
  have hb := sH_bd b0 b1
  have e : sv (sH (a + b)) (sL (a + b)) = sv (sH a) (sL a) + sv (sH b) (sL b) := by rw [sv_H_L, sv_H_L, sv_H_L]
  have H := plus_hl (sH a) (sL a) (sH b) (sL b) (sH (a + b)) (sL (a + b)) ha.1 ha.2 hb.1 hb.2 (U64_sL a) (U64_sL b) (U64_sL _) e w
  rw [sv_H_L] at H
  exact H
end Go.Proofs.YtipahdplkmmofaaGreatDoor

namespace Go.Proofs.YtipahdplkmmofaaGreatDoor
open Go.RowKit
set_option linter.unusedVariables false
set_option linter.unusedSimpArgs false
theorem below_then' {B : Nat} {a b c : World} (h : Below B a b) (h2 : Below b.heap.size b c) (hB : B ≤ b.heap.size) : Below B a c := h.trans (h2.mono hB)
theorem odd_step (O V k : Int) (h : k % 2 = 1) : O + V + (V + V) * (k / 2) = O + V * k := by
  obtain ⟨q, rfl⟩ : ∃ q, k = 2 * q + 1 := ⟨k / 2, by omega⟩
  rw [show (2 * q + 1) / 2 = q by omega, Int.mul_add, Int.mul_one, Int.add_mul, Int.mul_left_comm]
  omega
theorem even_step (O V k : Int) (h : k % 2 = 0) : O + (V + V) * (k / 2) = O + V * k := by
  obtain ⟨q, rfl⟩ : ∃ q, k = 2 * q := ⟨k / 2, by omega⟩
  rw [show (2 * q) / 2 = q by omega, Int.add_mul, Int.mul_left_comm]
  omega
theorem plus_sat (a b : Int) (a0 : 0 ≤ a) (b0 : 0 ≤ b) (w : World) :
    Calls Tryz.prog 31 #[.agg #[.int .i64 (sH (sat a)), .int .u64 (sL (sat a))], .agg #[.int .i64 (sH (sat b)), .int .u64 (sL (sat b))]] w fun e w' => e = .returned (.agg #[.int .i64 (sH (sat (a + b))), .int .u64 (sL (sat (a + b)))]) ∧ Below w.heap.size w w' := by
  have H := plus4_any (sat a) (sat b) (sat_bd a0).1 (sat_bd a0).2 (sat_bd b0).1 (sat_bd b0).2 w
  rw [sat_add a0 b0] at H
  exact H
set_option maxRecDepth 100000 in
set_option maxHeartbeats 2000000 in
theorem times_any (v n : Int) (v0 : 0 ≤ v) (n0 : 0 ≤ n) (n1 : n ≤ 604800000000000) (w : World) :
    Calls Tryz.prog 32 #[.agg #[.int .i64 (sH (sat v)), .int .u64 (sL (sat v))], .int .i64 n] w fun e w' => e = .returned (.agg #[.int .i64 (sH (sat (v * n))), .int .u64 (sL (sat (v * n)))]) ∧ Below w.heap.size w w' := by
  have P : Hid (∀ a b W, 0 ≤ a → 0 ≤ b → Calls Tryz.prog 31 #[.agg #[.int .i64 (sH (sat a)), .int .u64 (sL (sat a))], .agg #[.int .i64 (sH (sat b)), .int .u64 (sL (sat b))]] W fun e w' => e = .returned (.agg #[.int .i64 (sH (sat (a + b))), .int .u64 (sL (sat (a + b)))]) ∧ Below W.heap.size W w') := fun a b W ha hb => plus_sat a b ha hb W
  obtain ⟨T, hT⟩ : ∃ T, v * n = T := ⟨_, rfl⟩
  have hTH : Hid (0 + v * n = T) := by show _ = _; omega
  rw [hT]
  clear hT
  have z0 : sH (sat 0) = 0 ∧ sL (sat 0) = 0 := by decide
  obtain ⟨W0, hW0⟩ : ∃ W, W = (((w.alloc (.cells #[.int .i64 (sH (sat v)), .int .u64 (sL (sat v))] 62)).alloc (.cells #[.int .i64 0, .int .u64 0] 62)).alloc (.cells #[.int .i64 0, .int .u64 0] 62)) := ⟨_, rfl⟩
  have bW : Below w.heap.size w W0 := by rw [hW0]; exact below_new (below_new (below_new (Below.refl _ _) _) _) _
  have sV : SM W0 w.heap.size (sH (sat v)) (sL (sat v)) := by rw [hW0]; exact ((SM.new _ _ _ _ rfl).alloc _).alloc _
  have sR : SM W0 (w.heap.size + 1) 0 0 := by rw [hW0]; exact (SM.new _ 0 0 _ (by simp)).alloc _
  have sO : SM W0 (w.heap.size + 1 + 1) (sH (sat 0)) (sL (sat 0)) := by rw [hW0, z0.1, z0.2]; exact SM.new _ _ _ _ (by simp)
  have HS : Hid (SM W0 w.heap.size (sH (sat v)) (sL (sat v)) ∧ SM W0 (w.heap.size + 1) 0 0 ∧ SM W0 (w.heap.size + 1 + 1) (sH (sat 0)) (sL (sat 0)) ∧ Below w.heap.size w W0) := ⟨sV, sR, sO, bW⟩
  have HW : Hid (W0 = (((w.alloc (.cells #[.int .i64 (sH (sat v)), .int .u64 (sL (sat v))] 62)).alloc (.cells #[.int .i64 0, .int .u64 0] 62)).alloc (.cells #[.int .i64 0, .int .u64 0] 62))) := hW0
  clear hW0 sV sR sO z0 bW
  go_enter Tryz.func32, Tryz.ntmps32
  go_wp2
  rw [← HW.out]
  clear HW
  have x1 : w.heap.size ≠ w.heap.size + 1 := by omega
  have x2 : w.heap.size ≠ w.heap.size + 1 + 1 := by omega
  have x3 : w.heap.size + 1 ≠ w.heap.size + 1 + 1 := by omega
  have y1 : w.heap.size ≤ w.heap.size + 1 := by omega
  have y2 : w.heap.size ≤ w.heap.size + 1 + 1 := by omega
  have y0 : w.heap.size ≤ w.heap.size := by omega
  generalize w.heap.size + 1 + 1 = O' at *
  generalize w.heap.size + 1 = R' at *
  generalize hX : w.heap.size = V' at *
  go_loopw [1] (fun n wr => ∃ k V O : Int, n = .int .i64 k ∧ 0 ≤ k ∧ k ≤ 604800000000000 ∧ 0 ≤ V ∧ 0 ≤ O ∧ Hid (O + V * k = T) ∧ Hid (SM wr V' (sH (sat V)) (sL (sat V)) ∧ SM wr R' 0 0 ∧ SM wr O' (sH (sat O)) (sL (sat O)) ∧ Below V' w wr)) (fun n _ => (intOf n).toNat)
  case atStart => exact ⟨n, v, 0, rfl, n0, n1, v0, by omega, hTH, HS⟩
  case round =>
    obtain ⟨k, V, O, rfl, k0, k1, V0, O0, hE, hS⟩ := hrel
    clear HS hTH
    by_cases hk : 0 < k
    · by_cases ho : k % 2 = 1
      · have b1 : (k % 2 == 1) = true := by simp [ho]
        have hE' : Hid (O + V + (V + V) * (k / 2) = T) := by show _ = _; rw [odd_step O V k ho]; exact hE.out
        obtain ⟨sV, sR, sO, bl⟩ := hS.out
        obtain ⟨_, v1, v2, v3, v4⟩ := id sV
        obtain ⟨_, o1, o2, o3, o4⟩ := id sO
        have PO := P.out O V wr O0 V0
        have HSV : Hid (SM wr V' (sH (sat V)) (sL (sat V)) ∧ SM wr R' 0 0 ∧ SM wr O' (sH (sat O)) (sL (sat O)) ∧ Below V' w wr) := ⟨sV, sR, sO, bl⟩
        clear sV sR sO bl
        go_wp2_with fail
        refine PO.mono ?_
        rintro e w1 ⟨rfl, B1⟩
        clear v1 v2 v3 v4 o1 o2 o3 o4 PO
        obtain ⟨sV, sR, sO, bl⟩ := HSV.out
        have sV1 := sV.keep B1 sV.1
        have sR1 := sR.keep B1 sR.1
        have sO1 := sO.keep B1 sO.1
        have bl1 := below_then' bl B1 (Nat.le_of_lt sV.1)
        obtain ⟨_, v1, v2, v3, v4⟩ := id sV1
        obtain ⟨_, o1, o2, o3, o4⟩ := id sO1
        have P2 : Hid (∀ W, Calls Tryz.prog 31 #[.agg #[.int .i64 (sH (sat V)), .int .u64 (sL (sat V))], .agg #[.int .i64 (sH (sat V)), .int .u64 (sL (sat V))]] W fun e w' => e = .returned (.agg #[.int .i64 (sH (sat (V + V))), .int .u64 (sL (sat (V + V)))]) ∧ Below W.heap.size W w') := fun W => P.out V V W V0 V0
        have HT : Hid (SM ((w1.setCell ⟨O', 0, none⟩ (.int .i64 (sH (sat (O + V))))).setCell ⟨O', 1, none⟩ (.int .u64 (sL (sat (O + V))))) V' (sH (sat V)) (sL (sat V)) ∧ SM ((w1.setCell ⟨O', 0, none⟩ (.int .i64 (sH (sat (O + V))))).setCell ⟨O', 1, none⟩ (.int .u64 (sL (sat (O + V))))) R' 0 0 ∧ SM ((w1.setCell ⟨O', 0, none⟩ (.int .i64 (sH (sat (O + V))))).setCell ⟨O', 1, none⟩ (.int .u64 (sL (sat (O + V))))) O' (sH (sat (O + V))) (sL (sat (O + V))) ∧ Below V' w ((w1.setCell ⟨O', 0, none⟩ (.int .i64 (sH (sat (O + V))))).setCell ⟨O', 1, none⟩ (.int .u64 (sL (sat (O + V)))))) := ⟨(sV1.far x2 _).far x2 _, (sR1.far x3 _).far x3 _, sO1.set _ _, below_set2 bl1 y2⟩
        clear sV sR sO bl sV1 sR1 sO1 bl1 B1 HSV hS hE
        go_wp2_with fail
        generalize (w1.setCell ⟨O', 0, none⟩ (.int .i64 (sH (sat (O + V))))).setCell ⟨O', 1, none⟩ (.int .u64 (sL (sat (O + V)))) = w1s at *
        clear v1 v2 v3 v4 o1 o2 o3 o4
        refine (P2.out _).mono ?_
        rintro e w2 ⟨rfl, B2⟩
        obtain ⟨sV, sR, sO, bl⟩ := HT.out
        have sV1 := sV.keep B2 sV.1
        have sR1 := sR.keep B2 sR.1
        have sO1 := sO.keep B2 sO.1
        have bl1 := below_then' bl B2 (Nat.le_of_lt sV.1)
        obtain ⟨_, v1, v2, v3, v4⟩ := id sV1
        have HF : Hid (SM ((w2.setCell ⟨V', 0, none⟩ (.int .i64 (sH (sat (V + V))))).setCell ⟨V', 1, none⟩ (.int .u64 (sL (sat (V + V))))) V' (sH (sat (V + V))) (sL (sat (V + V))) ∧ SM ((w2.setCell ⟨V', 0, none⟩ (.int .i64 (sH (sat (V + V))))).setCell ⟨V', 1, none⟩ (.int .u64 (sL (sat (V + V))))) R' 0 0 ∧ SM ((w2.setCell ⟨V', 0, none⟩ (.int .i64 (sH (sat (V + V))))).setCell ⟨V', 1, none⟩ (.int .u64 (sL (sat (V + V))))) O' (sH (sat (O + V))) (sL (sat (O + V))) ∧ Below V' w ((w2.setCell ⟨V', 0, none⟩ (.int .i64 (sH (sat (V + V))))).setCell ⟨V', 1, none⟩ (.int .u64 (sL (sat (V + V)))))) := ⟨sV1.set _ _, (sR1.far (Ne.symm x1) _).far (Ne.symm x1) _, (sO1.far (Ne.symm x2) _).far (Ne.symm x2) _, below_set2 bl1 y0⟩
        clear sV sR sO bl sV1 sR1 sO1 bl1 B2 HT P2
        go_wp2_with fail
        go_roundw
        case rel => exact ⟨k / 2, V + V, O + V, by go_num, by omega, by omega, by omega, by omega, hE', HF⟩
        case measure => simp [intOf]; omega
      · have ho' : k % 2 = 0 := by omega
        have b1 : (k % 2 == 1) = false := by simp [ho']
        have hE' : Hid (O + (V + V) * (k / 2) = T) := by show _ = _; rw [even_step O V k ho']; exact hE.out
        obtain ⟨sV, sR, sO, bl⟩ := hS.out
        obtain ⟨_, v1, v2, v3, v4⟩ := id sV
        have P2 : Hid (∀ W, Calls Tryz.prog 31 #[.agg #[.int .i64 (sH (sat V)), .int .u64 (sL (sat V))], .agg #[.int .i64 (sH (sat V)), .int .u64 (sL (sat V))]] W fun e w' => e = .returned (.agg #[.int .i64 (sH (sat (V + V))), .int .u64 (sL (sat (V + V)))]) ∧ Below W.heap.size W w') := fun W => P.out V V W V0 V0
        have HT : Hid (SM wr V' (sH (sat V)) (sL (sat V)) ∧ SM wr R' 0 0 ∧ SM wr O' (sH (sat O)) (sL (sat O)) ∧ Below V' w wr) := ⟨sV, sR, sO, bl⟩
        clear sV sR sO bl hS hE
        go_wp2_with fail
        clear v1 v2 v3 v4
        refine (P2.out _).mono ?_
        rintro e w2 ⟨rfl, B2⟩
        obtain ⟨sV, sR, sO, bl⟩ := HT.out
        have sV1 := sV.keep B2 sV.1
        have sR1 := sR.keep B2 sR.1
        have sO1 := sO.keep B2 sO.1
        have bl1 := below_then' bl B2 (Nat.le_of_lt sV.1)
        obtain ⟨_, v1, v2, v3, v4⟩ := id sV1
        have HF : Hid (SM ((w2.setCell ⟨V', 0, none⟩ (.int .i64 (sH (sat (V + V))))).setCell ⟨V', 1, none⟩ (.int .u64 (sL (sat (V + V))))) V' (sH (sat (V + V))) (sL (sat (V + V))) ∧ SM ((w2.setCell ⟨V', 0, none⟩ (.int .i64 (sH (sat (V + V))))).setCell ⟨V', 1, none⟩ (.int .u64 (sL (sat (V + V))))) R' 0 0 ∧ SM ((w2.setCell ⟨V', 0, none⟩ (.int .i64 (sH (sat (V + V))))).setCell ⟨V', 1, none⟩ (.int .u64 (sL (sat (V + V))))) O' (sH (sat O)) (sL (sat O)) ∧ Below V' w ((w2.setCell ⟨V', 0, none⟩ (.int .i64 (sH (sat (V + V))))).setCell ⟨V', 1, none⟩ (.int .u64 (sL (sat (V + V)))))) := ⟨sV1.set _ _, (sR1.far (Ne.symm x1) _).far (Ne.symm x1) _, (sO1.far (Ne.symm x2) _).far (Ne.symm x2) _, below_set2 bl1 y0⟩
        clear sV sR sO bl sV1 sR1 sO1 bl1 B2 HT P2
        go_wp2_with fail
        go_roundw
        case rel => exact ⟨k / 2, V + V, O, by go_num, by omega, by omega, by omega, by omega, hE', HF⟩
        case measure => simp [intOf]; omega
    · have hk0 : k = 0 := by omega
      subst hk0
      obtain ⟨sV, sR, sO, bl⟩ := hS.out
      obtain ⟨_, o1, o2, o3, o4⟩ := id sO
      obtain ⟨_, r1, r2, r3, r4⟩ := id sR
      have eT : Hid (T = O) := by show _ = _; have := hE.out; rw [Int.mul_zero] at this; omega
      have HB : Hid (Below V' w wr) := bl
      clear sV sR sO bl hS hE
      go_wp2_with fail
      rw [eT.out]
      simp [bodyPost, results, Tryz.results32, go_sem, r1, r2]
      exact below_set2 HB.out y1
end Go.Proofs.YtipahdplkmmofaaGreatDoor

namespace Go.Proofs.YtipahdplkmmofaaGreatDoor
open Go.RowKit
set_option linter.unusedVariables false
set_option linter.unusedSimpArgs false
def unF (T : ByteArray) : Int := if T = ⟨#[110, 115]⟩ then 1 else if T = ⟨#[117, 115]⟩ then 1000 else if T = ⟨#[109, 115]⟩ then 1000000 else if T = ⟨#[115]⟩ then 1000000000 else if T = ⟨#[109]⟩ then 60000000000 else if T = ⟨#[104]⟩ then 3600000000000 else if T = ⟨#[100]⟩ then 86400000000000 else if T = ⟨#[119]⟩ then 604800000000000 else 0
theorem ba_eq (a b : Array UInt8) : ((⟨a⟩ : ByteArray) = ⟨b⟩) ↔ a = b := ⟨fun h => by injection h, fun h => by rw [h]⟩
theorem unF_two (T : ByteArray) (a b : UInt8) (h : T.data.toList = [a, b]) : unF T = un2 a b := by
  obtain ⟨⟨l⟩⟩ := T
  simp only at h
  subst h
  unfold unF un2
  simp only [ba_eq, List.toArray_eq_iff, Array.mk.injEq, List.cons.injEq, and_true, List.cons_ne_nil, and_false, if_false, reduceCtorEq]
  by_cases hb : b = 115
  · simp [hb]
  · simp [hb]
theorem unF_one (T : ByteArray) (a : UInt8) (h : T.data.toList = [a]) : unF T = un1 a := by
  obtain ⟨⟨l⟩⟩ := T
  simp only at h
  subst h
  unfold unF un1
  simp only [ba_eq, Array.mk.injEq, List.cons.injEq, and_true, List.cons_ne_nil, and_false, if_false, reduceCtorEq, List.nil_eq]
theorem ba_ne2 {T : ByteArray} {l : List UInt8} (h : ¬ T = ⟨⟨l⟩⟩) : (T.toList == l) = false := by
  rw [beq_eq_false_iff_ne]
  intro e
  rw [Lib.toList_data] at e
  exact h (by obtain ⟨⟨t⟩⟩ := T; simp only at e; rw [e])
set_option maxRecDepth 100000 in
theorem unit4_any (T : ByteArray) (w : World) : Calls Tryz.prog 69 #[.string T] w fun e w' => e = .returned (.int .i64 (unF T)) ∧ w' = w := by
  have H : ∀ r, Hid (unF T = r) → Hid (unF T = r) := fun _ h => h
  by_cases c1 : T = ⟨#[110, 115]⟩
  · subst c1; have E : Hid (unF ⟨#[110, 115]⟩ = 1) := by show _ = _; decide
    go_enter Tryz.func69, Tryz.ntmps69
    go_wp2
    go_ret
    exact ⟨by rw [E.out]; rfl, rfl⟩
  by_cases c2 : T = ⟨#[117, 115]⟩
  · subst c2; have E : Hid (unF ⟨#[117, 115]⟩ = 1000) := by show _ = _; decide
    go_enter Tryz.func69, Tryz.ntmps69
    go_wp2
    go_ret
    exact ⟨by rw [E.out]; rfl, rfl⟩
  by_cases c3 : T = ⟨#[109, 115]⟩
  · subst c3; have E : Hid (unF ⟨#[109, 115]⟩ = 1000000) := by show _ = _; decide
    go_enter Tryz.func69, Tryz.ntmps69
    go_wp2
    go_ret
    exact ⟨by rw [E.out]; rfl, rfl⟩
  by_cases c4 : T = ⟨#[115]⟩
  · subst c4; have E : Hid (unF ⟨#[115]⟩ = 1000000000) := by show _ = _; decide
    go_enter Tryz.func69, Tryz.ntmps69
    go_wp2
    go_ret
    exact ⟨by rw [E.out]; rfl, rfl⟩
  by_cases c5 : T = ⟨#[109]⟩
  · subst c5; have E : Hid (unF ⟨#[109]⟩ = 60000000000) := by show _ = _; decide
    go_enter Tryz.func69, Tryz.ntmps69
    go_wp2
    go_ret
    exact ⟨by rw [E.out]; rfl, rfl⟩
  by_cases c6 : T = ⟨#[104]⟩
  · subst c6; have E : Hid (unF ⟨#[104]⟩ = 3600000000000) := by show _ = _; decide
    go_enter Tryz.func69, Tryz.ntmps69
    go_wp2
    go_ret
    exact ⟨by rw [E.out]; rfl, rfl⟩
  by_cases c7 : T = ⟨#[100]⟩
  · subst c7; have E : Hid (unF ⟨#[100]⟩ = 86400000000000) := by show _ = _; decide
    go_enter Tryz.func69, Tryz.ntmps69
    go_wp2
    go_ret
    exact ⟨by rw [E.out]; rfl, rfl⟩
  by_cases c8 : T = ⟨#[119]⟩
  · subst c8; have E : Hid (unF ⟨#[119]⟩ = 604800000000000) := by show _ = _; decide
    go_enter Tryz.func69, Tryz.ntmps69
    go_wp2
    go_ret
    exact ⟨by rw [E.out]; rfl, rfl⟩
  have E : Hid (unF T = 0) := by show _ = _; unfold unF; rw [if_neg c1, if_neg c2, if_neg c3, if_neg c4, if_neg c5, if_neg c6, if_neg c7, if_neg c8]
  have d1 : (T.toList == [110, 115]) = false := ba_ne2 c1
  have d2 : (T.toList == [117, 115]) = false := ba_ne2 c2
  have d3 : (T.toList == [109, 115]) = false := ba_ne2 c3
  have d4 : (T.toList == [115]) = false := ba_ne2 c4
  have d5 : (T.toList == [109]) = false := ba_ne2 c5
  have d6 : (T.toList == [104]) = false := ba_ne2 c6
  have d7 : (T.toList == [100]) = false := ba_ne2 c7
  have d8 : (T.toList == [119]) = false := ba_ne2 c8
  go_enter Tryz.func69, Tryz.ntmps69
  go_wp2
  go_ret
  exact ⟨by rw [E.out]; rfl, rfl⟩
theorem digit_any (c : UInt8) (w : World) : Calls Tryz.prog 68 #[.int .u8 (c.toNat : Int)] w fun e w' => e = .returned (.bool (isD c)) ∧ w' = w := by
  have HL : Hid (isD c = decide (48 ≤ (c.toNat : Int) ∧ (c.toNat : Int) ≤ 57)) := rfl
  by_cases c1 : 48 ≤ (c.toNat : Int)
  · by_cases c2 : (c.toNat : Int) ≤ 57
    · go_enter Tryz.func68, Tryz.ntmps68
      go_wp2
      go_ret
      exact ⟨by rw [HL.out, decide_eq_true ⟨c1, c2⟩]; rfl, rfl⟩
    · go_enter Tryz.func68, Tryz.ntmps68
      go_wp2
      go_ret
      exact ⟨by rw [HL.out, decide_eq_false (by omega)]; rfl, rfl⟩
  · go_enter Tryz.func68, Tryz.ntmps68
    go_wp2
    go_ret
    exact ⟨by rw [HL.out, decide_eq_false (by omega)]; rfl, rfl⟩
end Go.Proofs.YtipahdplkmmofaaGreatDoor

namespace Go.Proofs.YtipahdplkmmofaaGreatDoor
open Go.RowKit
set_option linter.unusedVariables false
set_option linter.unusedSimpArgs false
theorem sz_list4 (s : ByteArray) : s.data.toList.length = s.size := by simp
theorem ex_list4 (s : ByteArray) (k d : Nat) : (s.data.toList.drop k).take d = (s.extract k (k + d)).data.toList := by
  simp [ByteArray.data_extract, Array.toList_extract, List.extract_eq_take_drop]
theorem ten_step (X k : Int) : X * (k + 1) + X = X * (k + 1 + 1) := by rw [Int.mul_add X (k + 1) 1, Int.mul_one]
theorem plus_dig (Y d : Int) (y0 : 0 ≤ Y) (d0 : 0 ≤ d) (d1 : d ≤ 9) (w : World) :
    Calls Tryz.prog 31 #[.agg #[.int .i64 (sH (sat Y)), .int .u64 (sL (sat Y))], .agg #[.int .i64 0, .int .u64 d]] w fun e w' => e = .returned (.agg #[.int .i64 (sH (sat (Y + d))), .int .u64 (sL (sat (Y + d)))]) ∧ Below w.heap.size w w' := by
  have H := plus_sat Y d y0 d0 w
  have e1 : sat d = d := sat_of (by rw [MU_val]; omega)
  have e2 : sH d = 0 := by unfold sH; omega
  have e3 : sL d = d := by unfold sL; omega
  rw [e1, e2, e3] at H
  exact H
theorem take_next (l : List UInt8) (i : Nat) (h : i < l.length) : valF 0 (l.take (i + 1)) = valF 0 (l.take i) * 10 + ((l[i].toNat : Int) - 48) := by
  rw [List.take_succ_eq_append_getElem h, valF_snoc]
set_option maxRecDepth 100000 in
set_option maxHeartbeats 4000000 in
theorem part4_any (s : ByteArray) (hs : s.size ≤ 281474976710656) (w : World) :
    Calls Tryz.prog 28 #[.string s] w fun e w' => e = .returned (.tuple #[.int .i64 (if parU s.data.toList < 0 then 0 else usz (parU s.data.toList)), .int .i64 (if parU s.data.toList < 0 then 0 else ((cnt s.data.toList + unl (parU s.data.toList) : Nat) : Int)), .agg #[.int .i64 (sH (sat (valF 0 (s.data.toList.take (cnt s.data.toList))))), .int .u64 (sL (sat (valF 0 (s.data.toList.take (cnt s.data.toList)))))], .bool (decide (0 ≤ parU s.data.toList))]) ∧ Below w.heap.size w w' := by
  obtain ⟨l, hl⟩ : ∃ l, l = s.data.toList := ⟨_, rfl⟩
  have HL : Hid (l.length = s.size) := by rw [hl]; exact sz_list4 s
  have HG : Hid (∀ (i : Nat) (h : i < s.size) (h' : i < l.length), s[i] = l[i]) := by intro i h h'; subst hl; rfl
  rw [← hl]
  have HLL : Hid (l = s.data.toList) := hl
  clear hl
  obtain ⟨RES, hRES⟩ : ∃ R, Ending.returned (.tuple #[.int .i64 (if parU l < 0 then 0 else usz (parU l)), .int .i64 (if parU l < 0 then 0 else ((cnt l + unl (parU l) : Nat) : Int)), .agg #[.int .i64 (sH (sat (valF 0 (l.take (cnt l))))), .int .u64 (sL (sat (valF 0 (l.take (cnt l)))))], .bool (decide (0 ≤ parU l))]) = R := ⟨_, rfl⟩
  rw [hRES]
  have HR : Hid (Ending.returned (.tuple #[.int .i64 (if parU l < 0 then 0 else usz (parU l)), .int .i64 (if parU l < 0 then 0 else ((cnt l + unl (parU l) : Nat) : Int)), .agg #[.int .i64 (sH (sat (valF 0 (l.take (cnt l))))), .int .u64 (sL (sat (valF 0 (l.take (cnt l)))))], .bool (decide (0 ≤ parU l))]) = RES) := hRES
  clear hRES
  have HU : Hid (∀ T W, Calls Tryz.prog 69 #[.string T] W fun e w' => e = .returned (.int .i64 (unF T)) ∧ w' = W) := fun T W => unit4_any T W
  have z0 : sH (sat 0) = 0 ∧ sL (sat 0) = 0 := by decide
  obtain ⟨W0, hW0⟩ : ∃ W, W = (w.alloc (.cells #[.int .i64 0, .int .u64 0] 62)).alloc (.cells #[.int .i64 0, .int .u64 0] 62) := ⟨_, rfl⟩
  have bW : Below w.heap.size w W0 := by rw [hW0]; exact below_new (below_new (Below.refl _ _) _) _
  have sR : SM W0 w.heap.size 0 0 := by rw [hW0]; exact (SM.new _ _ _ _ rfl).alloc _
  have sV : SM W0 (w.heap.size + 1) (sH (sat (valF 0 (l.take 0)))) (sL (sat (valF 0 (l.take 0)))) := by
    rw [hW0, show valF 0 (l.take 0) = 0 from rfl, z0.1, z0.2]; exact SM.new _ _ _ _ (by simp)
  have HS : Hid (SM W0 w.heap.size 0 0 ∧ SM W0 (w.heap.size + 1) (sH (sat (valF 0 (l.take 0)))) (sL (sat (valF 0 (l.take 0)))) ∧ Below w.heap.size w W0) := ⟨sR, sV, bW⟩
  have HW : Hid (W0 = (w.alloc (.cells #[.int .i64 0, .int .u64 0] 62)).alloc (.cells #[.int .i64 0, .int .u64 0] 62)) := hW0
  clear hW0 sV sR z0 bW
  have DG : Hid (∀ (c : UInt8) (b : Bool) W, isD c = b → Calls Tryz.prog 68 #[.int .u8 (c.toNat : Int)] W fun e w' => e = .returned (.bool b) ∧ w' = W) := fun c b W h => by rw [← h]; exact digit_any c W
  go_enter Tryz.func28, Tryz.ntmps28
  go_wp2
  rw [← HW.out]
  clear HW
  have x1 : w.heap.size ≠ w.heap.size + 1 := by omega
  have y1 : w.heap.size ≤ w.heap.size + 1 := by omega
  have y0 : w.heap.size ≤ w.heap.size := by omega
  generalize w.heap.size + 1 = V' at *
  generalize hX : w.heap.size = R' at *
  go_loopw [6] (fun n wr => ∃ i : Nat, i ≤ s.size ∧ n = .int .i64 i ∧ Hid (∀ (j : Nat) (h : j < l.length), j < i → isD l[j] = true) ∧ Hid (SM wr R' 0 0 ∧ SM wr V' (sH (sat (valF 0 (l.take i)))) (sL (sat (valF 0 (l.take i)))) ∧ Below R' w wr)) (fun n _ => s.size - (intOf n).toNat)
  case atStart => exact ⟨0, Nat.zero_le _, rfl, fun j h hj => by omega, HS⟩
  case round =>
    obtain ⟨i, hi, rfl, hA, hS⟩ := hrel
    clear HS
    by_cases hgo : ∃ h : i < l.length, isD l[i] = true
    · obtain ⟨hil, hd⟩ := hgo
      have hlt : i < s.size := by rw [← HL.out]; exact hil
      have dg : Hid (∀ W, Calls Tryz.prog 68 #[.int .u8 ((s[i]).toNat : Int)] W fun e w' => e = .returned (.bool true) ∧ w' = W) := fun W => DG.out s[i] true W (by rw [HG.out i hlt hil]; exact hd)
      have dn : ((s[i]).toNat : Int) = (l[i].toNat : Int) := by rw [HG.out i hlt hil]
      have db := isD_bd hd
      have hT : Hid (valF 0 (l.take (i + 1)) = valF 0 (l.take i) * 10 + ((l[i].toNat : Int) - 48)) := take_next l i hil
      have X0 : 0 ≤ valF 0 (l.take i) := valF_nonneg (by
        intro c hc
        obtain ⟨j, hj, rfl⟩ := List.getElem_of_mem hc
        simp only [List.length_take] at hj
        rw [List.getElem_take]
        exact hA.out j (by omega) (by omega))
      have hA' : Hid (∀ (j : Nat) (h : j < l.length), j < i + 1 → isD l[j] = true) := by
        intro j h hj
        by_cases e : j = i
        · subst e; exact hd
        · exact hA.out j h (by omega)
      rw [← dn] at db hT
      clear dn hd hA
      obtain ⟨c, hc⟩ : ∃ c, ((s[i]).toNat : Int) = c := ⟨_, rfl⟩
      obtain ⟨X, hX2⟩ : ∃ X, valF 0 (l.take i) = X := ⟨_, rfl⟩
      rw [hX2] at hS hT X0
      rw [hc] at db hT
      simp only [hc] at dg
      clear hX2
      obtain ⟨sR, sV, bl⟩ := hS.out
      obtain ⟨_, v1, v2, v3, v4⟩ := id sV
      have HSW : Hid (SM wr R' 0 0 ∧ SM wr V' (sH (sat X)) (sL (sat X)) ∧ Below R' w wr) := ⟨sR, sV, bl⟩
      clear sR sV bl hS
      obtain ⟨db1, db2⟩ := db
      go_wp2_with (go_at_call 68; refine (dg.out _).mono ?_; rintro e w' ⟨rfl, hw'⟩; subst w')
      have PS : Hid (∀ a W, 0 ≤ a → Calls Tryz.prog 31 #[.agg #[.int .i64 (sH (sat a)), .int .u64 (sL (sat a))], .agg #[.int .i64 (sH (sat X)), .int .u64 (sL (sat X))]] W fun e w' => e = .returned (.agg #[.int .i64 (sH (sat (a + X))), .int .u64 (sL (sat (a + X)))]) ∧ Below W.heap.size W w') := fun a W ha => plus_sat a X ha X0 W
      obtain ⟨W1, hW1⟩ : ∃ W1, W1 = wr.alloc (.cells #[.int .i64 (sH (sat X)), .int .u64 (sL (sat X))] 62) := ⟨_, rfl⟩
      rw [← hW1]
      obtain ⟨sR, sV, bl⟩ := HSW.out
      have zV := sV.1
      have zR := sR.1
      have HI : Hid (SM W1 R' 0 0 ∧ SM W1 V' (sH (sat (X * (0 + 1)))) (sL (sat (X * (0 + 1)))) ∧ SM W1 wr.heap.size (sH (sat X)) (sL (sat X)) ∧ Below R' w W1) := by
        rw [hW1, show X * (0 + 1) = X by omega]
        exact ⟨sR.alloc _, sV.alloc _, SM.new _ _ _ _ rfl, bl.alloc (Nat.le_of_lt zR) _⟩
      have xV : V' ≠ wr.heap.size := by omega
      have xR : R' ≠ wr.heap.size := by omega
      clear sR sV bl HSW hW1 v1 v2 v3 v4
      generalize wr.heap.size = Y' at *
      go_loopw [9] (fun n wq => ∃ k : Int, 0 ≤ k ∧ k ≤ 9 ∧ n = .int .i64 k ∧ Hid (SM wq R' 0 0 ∧ SM wq V' (sH (sat (X * (k + 1)))) (sL (sat (X * (k + 1)))) ∧ SM wq Y' (sH (sat X)) (sL (sat X)) ∧ Below R' w wq)) (fun n _ => (9 - intOf n).toNat)
      case atStart => exact ⟨0, by omega, by omega, rfl, HI⟩
      case round =>
        obtain ⟨k, k0, k1, rfl, hS⟩ := hrel
        clear HI
        by_cases hk : k < 9
        · obtain ⟨sR, sV, sY, bl⟩ := hS.out
          obtain ⟨_, v1, v2, v3, v4⟩ := id sV
          obtain ⟨_, q1, q2, _, _⟩ := id sY
          have Z0 : 0 ≤ X * (k + 1) := Int.mul_nonneg X0 (by omega)
          obtain ⟨Z, hZ⟩ : ∃ Z, X * (k + 1) = Z := ⟨_, rfl⟩
          have hZ2 : Hid (X * (k + 1 + 1) = Z + X) := by show _ = _; rw [← hZ, ten_step]
          rw [hZ] at v1 v2 Z0
          have P1 : Hid (∀ W, Calls Tryz.prog 31 #[.agg #[.int .i64 (sH (sat Z)), .int .u64 (sL (sat Z))], .agg #[.int .i64 (sH (sat X)), .int .u64 (sL (sat X))]] W fun e w' => e = .returned (.agg #[.int .i64 (sH (sat (Z + X))), .int .u64 (sL (sat (Z + X)))]) ∧ Below W.heap.size W w') := fun W => PS.out Z W Z0
          clear sR sV sY bl hZ
          go_wp2_with fail
          clear v1 v2 v3 v4 q1 q2
          refine (P1.out _).mono ?_
          rintro e w2 ⟨rfl, B2⟩
          obtain ⟨sR, sV, sY, bl⟩ := hS.out
          have sV1 := sV.keep B2 sV.1
          have sR1 := sR.keep B2 sR.1
          have sY1 := sY.keep B2 sY.1
          have bl1 := below_then' bl B2 (Nat.le_of_lt sR.1)
          obtain ⟨_, v1, v2, v3, v4⟩ := id sV1
          have HF : Hid (SM ((w2.setCell ⟨V', 0, none⟩ (.int .i64 (sH (sat (Z + X))))).setCell ⟨V', 1, none⟩ (.int .u64 (sL (sat (Z + X))))) R' 0 0 ∧ SM ((w2.setCell ⟨V', 0, none⟩ (.int .i64 (sH (sat (Z + X))))).setCell ⟨V', 1, none⟩ (.int .u64 (sL (sat (Z + X))))) V' (sH (sat (X * (k + 1 + 1)))) (sL (sat (X * (k + 1 + 1)))) ∧ SM ((w2.setCell ⟨V', 0, none⟩ (.int .i64 (sH (sat (Z + X))))).setCell ⟨V', 1, none⟩ (.int .u64 (sL (sat (Z + X))))) Y' (sH (sat X)) (sL (sat X)) ∧ Below R' w ((w2.setCell ⟨V', 0, none⟩ (.int .i64 (sH (sat (Z + X))))).setCell ⟨V', 1, none⟩ (.int .u64 (sL (sat (Z + X)))))) := by
            rw [hZ2.out]
            exact ⟨(sR1.far x1 _).far x1 _, sV1.set _ _, (sY1.far (Ne.symm xV) _).far (Ne.symm xV) _, below_set2 bl1 y1⟩
          clear sV sR sY bl sV1 sR1 sY1 bl1 B2 P1 hS
          go_wp2_with fail
          go_roundw
          case rel => exact ⟨k + 1, by omega, by omega, by go_num, HF⟩
          case measure => simp [intOf]; omega
        · have hk9 : k = 9 := by omega
          subst hk9
          obtain ⟨sR, sV, sY, bl⟩ := hS.out
          obtain ⟨_, v1, v2, v3, v4⟩ := id sV
          obtain ⟨Z, hZ⟩ : ∃ Z, X * (9 + 1) = Z := ⟨_, rfl⟩
          have Z0 : 0 ≤ Z := by omega
          rw [hZ] at v1 v2
          have HN : Hid (SM wr R' 0 0 ∧ SM wr V' (sH (sat Z)) (sL (sat Z)) ∧ Below R' w wr) := by rw [hZ] at sV; exact ⟨sR, sV, bl⟩
          have hT2 : Hid (valF 0 (l.take (i + 1)) = Z + (c - 48)) := by show _ = _; rw [hT.out]; omega
          have PD : Hid (∀ W, Calls Tryz.prog 31 #[.agg #[.int .i64 (sH (sat Z)), .int .u64 (sL (sat Z))], .agg #[.int .i64 0, .int .u64 (c - 48)]] W fun e w' => e = .returned (.agg #[.int .i64 (sH (sat (Z + (c - 48)))), .int .u64 (sL (sat (Z + (c - 48))))]) ∧ Below W.heap.size W w') := fun W => plus_dig Z (c - 48) Z0 (by omega) (by omega) W
          clear sR sV sY bl hS hZ hT
          have wu : IntKind.u8.wrap (c - 48) = c - 48 := by rw [IntKind.wrap_u8]; omega
          have wu6 : IntKind.u64.wrap (c - 48) = c - 48 := by rw [IntKind.wrap_u64]; omega
          have zR' : R' ≤ wr.drew.heap.size := Nat.le_of_lt HN.out.1.1
          have hF : Hid (∀ w2, Below wr.drew.heap.size wr.drew w2 → (SM w2 V' (sH (sat Z)) (sL (sat Z)) ∧ Hid (SM ((w2.setCell ⟨V', 0, none⟩ (.int .i64 (sH (sat (Z + (c - 48)))))).setCell ⟨V', 1, none⟩ (.int .u64 (sL (sat (Z + (c - 48)))))) R' 0 0 ∧ SM ((w2.setCell ⟨V', 0, none⟩ (.int .i64 (sH (sat (Z + (c - 48)))))).setCell ⟨V', 1, none⟩ (.int .u64 (sL (sat (Z + (c - 48)))))) V' (sH (sat (valF 0 (l.take (i + 1))))) (sL (sat (valF 0 (l.take (i + 1))))) ∧ Below R' w ((w2.setCell ⟨V', 0, none⟩ (.int .i64 (sH (sat (Z + (c - 48)))))).setCell ⟨V', 1, none⟩ (.int .u64 (sL (sat (Z + (c - 48))))))))) := by
            intro w2 B2
            obtain ⟨sR, sV, bl⟩ := HN.out
            have sVd : SM wr.drew V' (sH (sat Z)) (sL (sat Z)) := sV
            have sRd : SM wr.drew R' 0 0 := sR
            have sV1 := sVd.keep B2 sVd.1
            have sR1 := sRd.keep B2 sRd.1
            have bl1 := below_then' bl.drew B2 zR'
            refine ⟨sV1, ?_⟩
            show _ ∧ _ ∧ _
            rw [hT2.out]
            exact ⟨(sR1.far x1 _).far x1 _, sV1.set _ _, below_set2 bl1 y1⟩
          clear hT2
          have SS : Below R' w wr.drew := (HN.out.2.2).drew
          have v1' : wr.drew.cell? ⟨V', 0, none⟩ = some (.int .i64 (sH (sat Z))) := v1
          have v2' : wr.drew.cell? ⟨V', 1, none⟩ = some (.int .u64 (sL (sat Z))) := v2
          have sb0 : (0 : Int) ≤ (i : Int) := by omega
          have sb1 : (i : Int) < (s.size : Int) := by omega
          go_wp2_with fail
          refine wp_region_noPanic ?_
          refine wp_region_held_drew (S := fun _ => True) (by kernel_rfl) trivial (fun hHeld => ?_)
          refine wpAnyH_take (i := 1) (oi := _) (v := ?_) rfl (by kernel_rfl) (by kernel_rfl) (by kernel_rfl) (fun _ _ _ h => h) (Or.inl ⟨by rfl, ?_⟩) (by assumption) ?_
          rotate_left 1
          · (intro w0 hSw; (try dsimp only at hSw); go_simp; try with_reducible rfl)
          (try simp only [Act.put, List.setIfInBounds_toArray, List.set_cons_zero, List.set_cons_succ])
          refine wpAnyH_take (i := 2) (oi := _) (v := ?_) rfl (by kernel_rfl) (by kernel_rfl) (by kernel_rfl) (fun _ _ _ h => h) (Or.inl ⟨by rfl, ?_⟩) (by assumption) ?_
          rotate_left 1
          · (intro w0 hSw; (try dsimp only at hSw); go_simp; try with_reducible rfl)
          (try simp only [Act.put, List.setIfInBounds_toArray, List.set_cons_zero, List.set_cons_succ])
          refine wpAnyH_take (i := 3) (oi := _) (v := ?_) rfl (by kernel_rfl) (by kernel_rfl) (by kernel_rfl) (fun _ _ _ h => h) (Or.inl ⟨by rfl, ?_⟩) (by assumption) ?_
          rotate_left 1
          · (intro w0 hSw; (try dsimp only at hSw); go_simp; try with_reducible rfl)
          (try simp only [Act.put, List.setIfInBounds_toArray, List.set_cons_zero, List.set_cons_succ])
          refine wpAnyH_take (i := 4) (oi := _) (v := ?_) rfl (by kernel_rfl) (by kernel_rfl) (by kernel_rfl) (fun _ _ _ h => h) (Or.inl ⟨by rfl, ?_⟩) (by assumption) ?_
          rotate_left 1
          · (intro w0 hSw; (try dsimp only at hSw); go_simp; try with_reducible rfl)
          (try simp only [Act.put, List.setIfInBounds_toArray, List.set_cons_zero, List.set_cons_succ])
          refine wpAnyH_take (i := 5) (oi := _) (v := ?_) rfl (by kernel_rfl) (by kernel_rfl) (by kernel_rfl) (fun _ _ _ h => h) (Or.inl ⟨by rfl, ?_⟩) (by assumption) ?_
          rotate_left 1
          · (intro w0 hSw; (try dsimp only at hSw); go_simp; try with_reducible rfl)
          (try simp only [Act.put, List.setIfInBounds_toArray, List.set_cons_zero, List.set_cons_succ])
          refine wpAnyH_take (i := 6) (oi := _) (v := ?_) rfl (by kernel_rfl) (by kernel_rfl) (by kernel_rfl) (fun _ _ _ h => h) (Or.inl ⟨by rfl, ?_⟩) (by assumption) ?_
          rotate_left 1
          · (intro w0 hSw; (try dsimp only at hSw); go_simp; try with_reducible rfl)
          (try simp only [Act.put, List.setIfInBounds_toArray, List.set_cons_zero, List.set_cons_succ])
          refine wpAnyH_ready (rs := [0]) (by kernel_rfl) (by simp) ?_
          refine AllReadyH.cons (o := _) rfl (fun K hK => ?_) AllReadyH.nil
          go_simp
          try dsimp only
          refine hK _ _ trivial (fun hHeld => ?_)
          clear hK K
          (try simp only [Act.put, List.setIfInBounds_toArray, List.set_cons_zero, List.set_cons_succ])
          refine wpAnyH_ready (rs := [7]) (by kernel_rfl) (by simp) ?_
          refine AllReadyH.cons (o := _) rfl (fun K hK => ?_) AllReadyH.nil
          go_simp
          go_at_call 31
          refine (PD.out _).mono ?_
          rintro e w2 ⟨rfl, B2⟩
          obtain ⟨⟨_, g1, g2, g3, g4⟩, HF⟩ := hF.out _ B2
          try dsimp only
          refine hK _ _ trivial (fun hHeld => ?_)
          clear hK K
          (try simp only [Act.put, List.setIfInBounds_toArray, List.set_cons_zero, List.set_cons_succ])
          refine wpAnyH_ready (rs := [8]) (by kernel_rfl) (by simp) ?_
          refine AllReadyH.cons (o := _) rfl (fun K hK => ?_) AllReadyH.nil
          go_simp
          try dsimp only
          refine hK _ _ trivial (fun hHeld => ?_)
          clear hK K
          (try simp only [Act.put, List.setIfInBounds_toArray, List.set_cons_zero, List.set_cons_succ])
          refine wpAnyH_done (by kernel_rfl) ?_ _
          refine NoPanic.normal ?_
          go_wp2_with fail
          go_roundw
          case rel => exact ⟨i + 1, by omega, by go_num, hA', HF⟩
          case measure => simp [intOf]; omega
    · have hc : cnt l = i := cnt_of l i (by rw [HL.out]; exact hi) hA.out (fun h => by
        cases hb : isD l[i] with
        | false => rfl
        | true => exact absurd ⟨h, hb⟩ hgo)
      obtain ⟨sR, sV, bl⟩ := hS.out
      obtain ⟨_, v1, v2, _, _⟩ := id sV
      obtain ⟨_, r1, r2, r3, r4⟩ := id sR
      have HB : Hid (Below R' w wr) := bl
      have HR2 := HR.out
      rw [hc] at HR2
      have hpar : parU l = if i = 0 then -1 else unitP (l.drop i) := by unfold parU; rw [hc]
      obtain ⟨X, hX2⟩ : ∃ X, valF 0 (l.take i) = X := ⟨_, rfl⟩
      rw [hX2] at v1 v2 HR2
      clear sR sV bl hS hX2 hA HR
      by_cases hlt : i < s.size
      · have hil : i < l.length := by rw [HL.out]; exact hlt
        have hnd : isD l[i] = false := by
          cases hb : isD l[i] with
          | false => rfl
          | true => exact absurd ⟨hil, hb⟩ hgo
        have ea : s[i] = l[i] := HG.out i hlt hil
        have dg : Hid (∀ W, Calls Tryz.prog 68 #[.int .u8 ((s[i]).toNat : Int)] W fun e w' => e = .returned (.bool false) ∧ w' = W) := fun W => DG.out s[i] false W (by rw [ea]; exact hnd)
        have hdr : l.drop i = l[i] :: l.drop (i + 1) := List.drop_eq_getElem_cons hil
        have hT1 : Hid (unF (s.extract i (i + 1)) = un1 l[i]) := unF_one _ _ (by rw [← ex_list4, ← HLL.out, hdr]; rfl)
        have hT2 : Hid (∀ h : i + 1 < l.length, unF (s.extract i (i + 2)) = un2 l[i] l[i + 1]) := fun h => unF_two _ _ _ (by rw [← ex_list4, ← HLL.out, hdr, List.drop_eq_getElem_cons h]; rfl)
        have U1 : Hid (∀ W, Calls Tryz.prog 69 #[.string (s.extract i (i + 1))] W fun e w' => e = .returned (.int .i64 (un1 l[i])) ∧ w' = W) := fun W => by rw [← hT1.out]; exact HU.out _ W
        have U2 : Hid (∀ h : i + 1 < l.length, ∀ W, Calls Tryz.prog 69 #[.string (s.extract i (i + 2))] W fun e w' => e = .returned (.int .i64 (un2 l[i] l[i + 1])) ∧ w' = W) := fun h W => by rw [← hT2.out h]; exact HU.out _ W
        clear hT1 hT2 HU DG hgo hnd
        by_cases h0 : i = 0
        · rw [if_pos h0] at hpar
          rw [hpar] at HR2
          have HR3 : Hid (RES = .returned (.tuple #[.int .i64 0, .int .i64 0, .agg #[.int .i64 (sH (sat X)), .int .u64 (sL (sat X))], .bool false])) := HR2.symm
          clear HR2 hpar U1 U2 hdr ea
          subst h0
          go_wp2_with (go_at_call 68; refine (dg.out _).mono ?_; rintro e w' ⟨rfl, hw'⟩; subst w')
          go_region
          all_goals
            go_wp2_with fail
            simp [bodyPost, results, Tryz.results28, go_sem, r1, r2]
            exact ⟨HR3.out.symm, by rw [hX]; exact (below_set2 HB.out y0).drew⟩
        · have b0 : ((i : Int) == 0) = false := by simp [h0]
          rw [if_neg h0, hdr] at hpar
          have w2 : IntKind.i64.wrap ((i : Int) + 2) = (i : Int) + 2 := IntWalk.i64_in _ (by omega)
          have w1 : IntKind.i64.wrap ((i : Int) + 1) = (i : Int) + 1 := IntWalk.i64_in _ (by omega)
          have g1 : (i : Int) + 1 ≤ (s.size : Int) := by omega
          have zi : (0 : Int) ≤ (i : Int) := by omega
          by_cases h2 : i + 1 < l.length
          · have g2 : (i : Int) + 2 ≤ (s.size : Int) := by rw [HL.out] at h2; omega
            have U2' : Hid (∀ W, Calls Tryz.prog 69 #[.string (s.extract i (i + 2))] W fun e w' => e = .returned (.int .i64 (un2 l[i] l[i + 1])) ∧ w' = W) := U2.out h2
            have hd2 : l.drop (i + 1) = l[i + 1] :: l.drop (i + 1 + 1) := List.drop_eq_getElem_cons h2
            by_cases p2 : 0 < un2 l[i] l[i + 1]
            · obtain ⟨q1, q2, q3⟩ := unit_two l[i] l[i + 1] (l.drop (i + 1 + 1)) p2
              rw [← hd2, ← hpar] at q1 q2 q3
              rw [if_neg (by omega), if_neg (by omega), q2, q3, decide_eq_true q1] at HR2
              have HR3 : Hid (RES = .returned (.tuple #[.int .i64 (un2 l[i] l[i + 1]), .int .i64 ((i : Int) + 2), .agg #[.int .i64 (sH (sat X)), .int .u64 (sL (sat X))], .bool true])) := HR2.symm
              clear HR2 hpar q1 q2 q3 hd2 hdr U1 U2 ea
              generalize un2 l[i] l[i + 1] = u2 at *
              go_wp2_with (first | (go_at_call 68; refine (dg.out _).mono ?_; rintro e w' ⟨rfl, hw'⟩; subst w') | (go_at_call 69; refine (U2'.out _).mono ?_; rintro e w' ⟨rfl, hw'⟩; subst w'))
              go_region_with (go_at_call 69; refine (U2'.out _).mono ?_; rintro e w' ⟨rfl, hw'⟩; subst w')
              all_goals
                go_wp2_with fail
                simp [bodyPost, results, Tryz.results28, go_sem, r1, r2]
                exact ⟨HR3.out.symm, by rw [hX]; exact (below_set2 HB.out y0).drew⟩
            · have HN2 : ∀ b t, l.drop (i + 1) = b :: t → ¬ 0 < un2 l[i] b := fun b t hbt => by rw [hd2] at hbt; injection hbt with e1 e2; subst e1; exact p2
              by_cases p1 : 0 < un1 l[i]
              · obtain ⟨q1, q2, q3⟩ := unit_one l[i] (l.drop (i + 1)) HN2 p1
                rw [← hpar] at q1 q2 q3
                rw [if_neg (by omega), if_neg (by omega), q2, q3, decide_eq_true q1] at HR2
                have HR3 : Hid (RES = .returned (.tuple #[.int .i64 (un1 l[i]), .int .i64 ((i : Int) + 1), .agg #[.int .i64 (sH (sat X)), .int .u64 (sL (sat X))], .bool true])) := HR2.symm
                clear HR2 hpar q1 q2 q3 hdr U2 ea HN2
                clear hd2
                generalize un2 l[i] l[i + 1] = u2 at *
                generalize un1 l[i] = u1 at *
                go_wp2_with (first | (go_at_call 68; refine (dg.out _).mono ?_; rintro e w' ⟨rfl, hw'⟩; subst w') | (go_at_call 69; (first | (with_reducible refine Calls.mono (U2'.out _) ?_) | (with_reducible refine Calls.mono (U1.out _) ?_)); rintro e w' ⟨rfl, hw'⟩; subst w'))
                go_region_with (go_at_call 69; refine (U1.out _).mono ?_; rintro e w' ⟨rfl, hw'⟩; subst w')
                all_goals
                  go_wp2_with fail
                  simp [bodyPost, results, Tryz.results28, go_sem, r1, r2]
                  exact ⟨HR3.out.symm, by rw [hX]; exact (below_set2 HB.out y0).drew⟩
              · have q1 := unit_no l[i] (l.drop (i + 1)) HN2 p1
                rw [← hpar] at q1
                rw [q1] at HR2
                have HR3 : Hid (RES = .returned (.tuple #[.int .i64 0, .int .i64 0, .agg #[.int .i64 (sH (sat X)), .int .u64 (sL (sat X))], .bool false])) := HR2.symm
                clear HR2 hpar q1 hdr U2 ea HN2
                clear hd2
                generalize un2 l[i] l[i + 1] = u2 at *
                generalize un1 l[i] = u1 at *
                go_wp2_with (first | (go_at_call 68; refine (dg.out _).mono ?_; rintro e w' ⟨rfl, hw'⟩; subst w') | (go_at_call 69; (first | (with_reducible refine Calls.mono (U2'.out _) ?_) | (with_reducible refine Calls.mono (U1.out _) ?_)); rintro e w' ⟨rfl, hw'⟩; subst w'))
                go_region
                all_goals
                  go_wp2_with fail
                  simp [bodyPost, results, Tryz.results28, go_sem, r1, r2]
                  exact ⟨HR3.out.symm, by rw [hX]; exact (below_set2 HB.out y0).drew⟩
          · have g2 : ¬ (i : Int) + 2 ≤ (s.size : Int) := by rw [HL.out] at h2; omega
            have HN2 : ∀ b t, l.drop (i + 1) = b :: t → ¬ 0 < un2 l[i] b := fun b t hbt => by have := congrArg List.length hbt; simp only [List.length_drop, List.length_cons] at this; omega
            by_cases p1 : 0 < un1 l[i]
            · obtain ⟨q1, q2, q3⟩ := unit_one l[i] (l.drop (i + 1)) HN2 p1
              rw [← hpar] at q1 q2 q3
              rw [if_neg (by omega), if_neg (by omega), q2, q3, decide_eq_true q1] at HR2
              have HR3 : Hid (RES = .returned (.tuple #[.int .i64 (un1 l[i]), .int .i64 ((i : Int) + 1), .agg #[.int .i64 (sH (sat X)), .int .u64 (sL (sat X))], .bool true])) := HR2.symm
              clear HR2 hpar q1 q2 q3 hdr U2 ea HN2
              generalize un1 l[i] = u1 at *
              go_wp2_with (first | (go_at_call 68; refine (dg.out _).mono ?_; rintro e w' ⟨rfl, hw'⟩; subst w') | (go_at_call 69; refine (U1.out _).mono ?_; rintro e w' ⟨rfl, hw'⟩; subst w'))
              go_region_with (go_at_call 69; refine (U1.out _).mono ?_; rintro e w' ⟨rfl, hw'⟩; subst w')
              all_goals
                go_wp2_with fail
                simp [bodyPost, results, Tryz.results28, go_sem, r1, r2]
                exact ⟨HR3.out.symm, by rw [hX]; exact (below_set2 HB.out y0).drew⟩
            · have q1 := unit_no l[i] (l.drop (i + 1)) HN2 p1
              rw [← hpar] at q1
              rw [q1] at HR2
              have HR3 : Hid (RES = .returned (.tuple #[.int .i64 0, .int .i64 0, .agg #[.int .i64 (sH (sat X)), .int .u64 (sL (sat X))], .bool false])) := HR2.symm
              clear HR2 hpar q1 hdr U2 ea HN2
              generalize un1 l[i] = u1 at *
              go_wp2_with (first | (go_at_call 68; refine (dg.out _).mono ?_; rintro e w' ⟨rfl, hw'⟩; subst w') | (go_at_call 69; refine (U1.out _).mono ?_; rintro e w' ⟨rfl, hw'⟩; subst w'))
              go_region
              all_goals
                go_wp2_with fail
                simp [bodyPost, results, Tryz.results28, go_sem, r1, r2]
                exact ⟨HR3.out.symm, by rw [hX]; exact (below_set2 HB.out y0).drew⟩
      · have e0 : l.drop i = [] := List.drop_eq_nil_of_le (by rw [HL.out]; omega)
        have hp : parU l = -1 := by rw [hpar, e0]; split <;> rfl
        rw [hp] at HR2
        have HR3 : Hid (RES = .returned (.tuple #[.int .i64 0, .int .i64 0, .agg #[.int .i64 (sH (sat X)), .int .u64 (sL (sat X))], .bool false])) := HR2.symm
        clear HR2 hp hpar e0 HU DG hgo
        have g2 : ¬ (i : Int) + 2 ≤ (s.size : Int) := by omega
        have g1 : ¬ (i : Int) + 1 ≤ (s.size : Int) := by omega
        have w2 : IntKind.i64.wrap ((i : Int) + 2) = (i : Int) + 2 := IntWalk.i64_in _ (by omega)
        have w1 : IntKind.i64.wrap ((i : Int) + 1) = (i : Int) + 1 := IntWalk.i64_in _ (by omega)
        by_cases h0 : i = 0
        · subst h0
          go_wp2_with fail
          go_region
          all_goals
            go_wp2_with fail
            simp [bodyPost, results, Tryz.results28, go_sem, r1, r2]
            exact ⟨HR3.out.symm, by rw [hX]; exact (below_set2 HB.out y0).drew⟩
        · have b0 : ((i : Int) == 0) = false := by simp [h0]
          go_wp2_with fail
          go_region
          all_goals
            go_wp2_with fail
            simp [bodyPost, results, Tryz.results28, go_sem, r1, r2]
            exact ⟨HR3.out.symm, by rw [hX]; exact (below_set2 HB.out y0).drew⟩
end Go.Proofs.YtipahdplkmmofaaGreatDoor
