
import Derived.Test.YtipahdplkmmofaaGreatDoorNum2
namespace Go.Proofs.YtipahdplkmmofaaGreatDoor
open Go.RowKit Go.Shelf

/-! ### the plain arithmetic of quotients -/
theorem tmod_abs (a b : Int) (hb : b ≠ 0) : -(b.natAbs : Int) < a.tmod b ∧ a.tmod b < b.natAbs := by
  have e := Int.natAbs_tmod a b
  have h := Nat.mod_lt a.natAbs (show b.natAbs > 0 by omega)
  omega
/-- what is left of a by b, as the program reckons it. -/
def modI (a b : Int) : Int := if a.tmod b = 0 ∨ (a.tmod b < 0 ↔ b < 0) then a.tmod b else a.tmod b + b

theorem mod_zero (a : Int) (w : World) : Calls Tryz.prog 50 #[.int .i64 a, .int .i64 0] w fun e w' => e = .returned (.tuple #[.int .i64 0, .iface 27 (.int .i64 21)]) ∧ w' = w := by
  go_enter Tryz.func50, Tryz.ntmps50
  go_wp2_with (go_at_call 27; refine (new_any 21 rfl _).mono ?_; rintro e w' ⟨rfl, rfl⟩)
  go_ret2
  exact ⟨rfl, rfl⟩
theorem mod_any (a b : Int) (hb : I64 b) (hb0 : b ≠ 0) (w : World) : Calls Tryz.prog 50 #[.int .i64 a, .int .i64 b] w fun e w' => e = .returned (.tuple #[.int .i64 (modI a b), .nilIface]) ∧ w' = w := by
  obtain ⟨hb1, hb2⟩ := hb
  have h0 : (b == 0) = false := by rw [beq_eq_false_iff_ne]; exact hb0
  obtain ⟨t1, t2⟩ := tmod_abs a b hb0
  have hw : wrap64 (a.tmod b) = a.tmod b := by unfold wrap64; omega
  have HF : Hid (modI a b = if a.tmod b = 0 ∨ (a.tmod b < 0 ↔ b < 0) then a.tmod b else a.tmod b + b) := rfl
  have hm1 : -9223372036854775808 ≤ a.tmod b := by omega
  have hm2 : a.tmod b ≤ 9223372036854775807 := by omega
  clear t1 t2
  by_cases c0 : a.tmod b = 0
  · have c1 : (a.tmod b != 0) = false := by simp [c0]
    have HR : Hid (modI a b = a.tmod b) := (by rw [HF.out, if_pos (Or.inl c0)] : modI a b = a.tmod b)
    clear c0 HF
    go_enter Tryz.func50, Tryz.ntmps50
    go_wp2
    go_ret2
    exact ⟨by rw [HR.out]; rfl, rfl⟩
  · have c1 : (a.tmod b != 0) = true := by simp [c0]
    by_cases c2 : a.tmod b < 0 <;> by_cases c3 : b < 0
    · have HR : Hid (modI a b = a.tmod b) := (by rw [HF.out, if_pos (Or.inr (by simp [c2, c3]))] : modI a b = a.tmod b)
      clear c0 HF
      go_enter Tryz.func50, Tryz.ntmps50
      go_wp2
      go_ret2
      exact ⟨by rw [HR.out]; rfl, rfl⟩
    · have HR : Hid (modI a b = a.tmod b + b) := (by rw [HF.out, if_neg (by simp [c0, c2, c3])] : modI a b = a.tmod b + b)
      clear c0 HF
      go_enter Tryz.func50, Tryz.ntmps50
      go_wp2
      go_ret2
      exact ⟨by rw [HR.out]; rfl, rfl⟩
    · have HR : Hid (modI a b = a.tmod b + b) := (by rw [HF.out, if_neg (by simp [c0, c2, c3])] : modI a b = a.tmod b + b)
      clear c0 HF
      go_enter Tryz.func50, Tryz.ntmps50
      go_wp2
      go_ret2
      exact ⟨by rw [HR.out]; rfl, rfl⟩
    · have HR : Hid (modI a b = a.tmod b) := (by rw [HF.out, if_pos (Or.inr (by simp [c2, c3]))] : modI a b = a.tmod b)
      clear c0 HF
      go_enter Tryz.func50, Tryz.ntmps50
      go_wp2
      go_ret2
      exact ⟨by rw [HR.out]; rfl, rfl⟩

/-- bits.Div64 where the high word is 0. -/
theorem div64_0 (lo y : Int) (h1 : U64 lo) (h2 : U64 y) (hy : 0 < y) (w : World) : Calls Tryz.prog 114 #[.int .u64 0, .int .u64 lo, .int .u64 y] w fun e w' => e = .returned (.tuple #[.int .u64 (lo / y), .int .u64 (lo % y)]) ∧ Below w.heap.size w w' := by
  obtain ⟨ha1, ha2⟩ := h1
  obtain ⟨hb1, hb2⟩ := h2
  have e0 : (y == 0) = false := by rw [beq_eq_false_iff_ne]; omega
  have e1 : ¬ y = 0 := by omega
  go_enter Tryz.func114, Tryz.ntmps114
  go_wp2
  go_quiet (fail)
  go_wp2
  go_ret2
  exact ⟨rfl, below_drewN (Below.refl _ _) _⟩

/-! ### Small's two answers in one form -/
def sm0 (v : Int) : Int := if -9223372036854775808 ≤ v ∧ v < 9223372036854775808 then v else 0
def sm1 (v : Int) : Value := if -9223372036854775808 ≤ v ∧ v < 9223372036854775808 then .nilIface else .iface 27 (.int .i64 20)
theorem sm0_yes {v : Int} (h : I64 v) : sm0 v = v := if_pos h
theorem sm1_yes {v : Int} (h : I64 v) : sm1 v = .nilIface := if_pos h
theorem sm0_no {v : Int} (h : ¬ I64 v) : sm0 v = 0 := if_neg h
theorem sm1_no {v : Int} (h : ¬ I64 v) : sm1 v = .iface 27 (.int .i64 20) := if_neg h
theorem small_any (hi lo : Int) (h2 : U64 lo) (w : World) :
    Calls Tryz.prog 110 #[.agg #[.int .i64 hi, .int .u64 lo]] w fun e w' => e = .returned (.tuple #[.int .i64 (sm0 (sv hi lo)), sm1 (sv hi lo)]) ∧ Below w.heap.size w w' := by
  by_cases h : I64 (sv hi lo)
  · rw [sm0_yes h, sm1_yes h]; exact small_yes hi lo h2 h w
  · rw [sm0_no h, sm1_no h]; exact small_no hi lo h2 h w

/-- without its sign. -/
def ab (x : Int) : Int := if x < 0 then -x else x
theorem ab_neg {x : Int} (h : x < 0) : ab x = -x := if_pos h
theorem ab_pos {x : Int} (h : ¬ x < 0) : ab x = x := if_neg h
theorem sv_neg (hi lo : Int) (h2 : U64 lo) : sv hi lo < 0 ↔ hi < 0 := by unfold U64 at h2; unfold sv; omega
theorem size_any (hi lo : Int) (h1 : I64 hi) (h2 : U64 lo) (w : World) :
    Calls Tryz.prog 113 #[.agg #[.int .i64 hi, .int .u64 lo]] w fun e w' => e = .returned (.agg #[.int .i64 (sH (wr (ab (sv hi lo)))), .int .u64 (sL (wr (ab (sv hi lo))))]) ∧ Below w.heap.size w w' := by
  by_cases h : hi < 0
  · rw [ab_neg ((sv_neg hi lo h2).2 h)]; exact size_neg hi lo h h2 w
  · rw [ab_pos (fun c => h ((sv_neg hi lo h2).1 c)), wr_of _ (S128_sv hi lo h1 h2), sH_sv hi lo h2, sL_sv hi lo h2]; exact size_pos hi lo h w

/-! ### Add, Sub -/
theorem bcell {W w1 : World} (hb : Below W.heap.size W w1) : (∀ b o, b < W.heap.size → w1.cell? ⟨b, o, none⟩ = W.cell? ⟨b, o, none⟩) ∧ (∀ b o, b < W.heap.size → w1.frozen? ⟨b, o, none⟩ = W.frozen? ⟨b, o, none⟩) :=
  ⟨fun b o h => hb.cell (p := ⟨b, o, none⟩) h, fun b o h => hb.frozen (p := ⟨b, o, none⟩) h⟩
theorem S128_add (a b : Int) (ha : I64 a) (hb : I64 b) : wr (a + b) = a + b := wr_of _ (by unfold I64 at ha hb; unfold S128; omega)
theorem S128_sub (a b : Int) (ha : I64 a) (hb : I64 b) : wr (a - b) = a - b := wr_of _ (by unfold I64 at ha hb; unfold S128; omega)
theorem below_then {w W w1 : World} (h : Below w.heap.size w W) (hb : Below W.heap.size W w1) : Below w.heap.size w w1 := h.trans (hb.mono h.size)
theorem add_any (a b : Int) (ha : I64 a) (hb : I64 b) (w : World) :
    Calls Tryz.prog 82 #[.int .i64 a, .int .i64 b] w fun e w' => e = .returned (.tuple #[.int .i64 (sm0 (a + b)), sm1 (a + b)]) ∧ Below w.heap.size w w' := by
  have e1 := sv_H_L a
  have e2 := S128_add a b ha hb
  have e3 := sv_H_L (a + b)
  go_enter Tryz.func82, Tryz.ntmps82
  go_wp2_with fail
  refine (wide_any a ha _).mono ?_
  rintro e w1 ⟨rfl, o1, rfl⟩
  go_wp2_with fail
  refine (plus_any _ _ b (U64_sL a) hb _).mono ?_
  rintro e w1 ⟨rfl, o2, o3, o4, o5, rfl⟩
  go_wp2_with fail
  refine (small_any _ _ (U64_sL _) _).mono ?_
  rintro e w1 ⟨rfl, hb1⟩
  go_wp2
  go_ret2
  exact ⟨rfl, below_then (below_new (below_new (below_new (below_new (below_new (Below.refl _ _) _) _) _) _) _) hb1⟩
theorem ratio_zero (hi lo : Int) (w : World) :
    Calls Tryz.prog 88 #[.agg #[.int .i64 hi, .int .u64 lo], .int .i64 0] w fun e w' => e = .returned (.tuple #[.int .i64 0, .iface 27 (.int .i64 21)]) ∧ Below w.heap.size w w' := by
  go_enter Tryz.func88, Tryz.ntmps88
  go_wp2_with (go_at_call 27; refine (new_any 21 rfl _).mono ?_; rintro e w' ⟨rfl, rfl⟩)
  go_ret2
  exact ⟨rfl, below_new (Below.refl _ _) _⟩

/-- what Div64 is asked for, where it answers. -/
def Div64At (h l y : Int) : Prop := ∀ w : World, Calls Tryz.prog 114 #[.int .u64 h, .int .u64 l, .int .u64 y] w fun e w' => e = .returned (.tuple #[.int .u64 (sv h l / y), .int .u64 (sv h l % y)]) ∧ Below w.heap.size w w'

theorem ab_le (hi lo : Int) (h1 : I64 hi) (h2 : U64 lo) : 0 ≤ ab (sv hi lo) ∧ ab (sv hi lo) ≤ 170141183460469231731687303715884105728 := by
  unfold I64 at h1; unfold U64 at h2; unfold ab sv; split <;> omega
theorem ab_le1 (n : Int) (h : I64 n) (h0 : n ≠ 0) : 1 ≤ ab n ∧ ab n ≤ 9223372036854775808 := by
  unfold I64 at h; unfold ab; split <;> omega
theorem wr_hi (a : Int) (h : 0 ≤ a ∧ a ≤ 170141183460469231731687303715884105728) : IntKind.u64.wrap (sH (wr a)) = sH a := by
  rw [u64_wrap]; unfold sL sH wr; omega
theorem wr_lo (a : Int) : sL (wr a) = sL a := by unfold sL wr; omega
theorem lo_of (n : Int) (h : 1 ≤ n ∧ n ≤ 9223372036854775808) : sL n = n := by unfold sL; omega

theorem fieldLo (a b : Value) (w : World) : (Instr.field 62 (.agg #[a, b]) 1).run Tryz.prog w = .ok b w := by kernel_rfl
set_option maxRecDepth 100000 in
set_option maxHeartbeats 1000000 in
/-- the quotient has more than 64 bits. -/
theorem ratio_over (hi lo n : Int) (h1 : I64 hi) (h2 : U64 lo) (hn : I64 n) (h0 : n ≠ 0) (hov : ab n ≤ sH (ab (sv hi lo))) (w : World) :
    Calls Tryz.prog 88 #[.agg #[.int .i64 hi, .int .u64 lo], .int .i64 n] w fun e w' => e = .returned (.tuple #[.int .i64 0, .iface 27 (.int .i64 20)]) ∧ Below w.heap.size w w' := by
  have c0 : (n == 0) = false := by rw [beq_eq_false_iff_ne]; exact h0
  have e1 := sv_H_L n
  have e2 := wr_hi _ (ab_le hi lo h1 h2)
  have e3 := wr_lo (ab (sv hi lo))
  have e4 := wr_lo (ab n)
  have e5 := lo_of _ (ab_le1 n hn h0)
  have e6 := fieldLo
  go_enter Tryz.func88, Tryz.ntmps88
  go_wp2_with fail
  refine (size_any hi lo h1 h2 _).mono ?_
  rintro e w1 ⟨rfl, hb1⟩
  obtain ⟨hc1, hf1⟩ := bcell hb1
  go_wp2_with fail
  refine (wide_any n hn _).mono ?_
  rintro e w2 ⟨rfl, o1, rfl⟩
  go_wp2_with fail
  refine (size_any _ _ (I64_sH n (by unfold I64 at hn; unfold S128; omega)) (U64_sL n) _).mono ?_
  rintro e w3 ⟨rfl, hb3⟩
  obtain ⟨hc3, hf3⟩ := bcell hb3
  have hz1 : w.heap.size + 1 ≤ w1.heap.size := by have := hb1.size; simp at this; omega
  have hz3 : w1.heap.size + 1 ≤ w3.heap.size := by have := hb3.size; simp at this; omega
  go_wp2_with (go_at_call 27; refine (new_any 20 rfl _).mono ?_; rintro e w' ⟨rfl, rfl⟩)
  go_ret2
  exact ⟨rfl, below_new (below_then (below_new (below_then (below_new (Below.refl _ _) _) hb1) _) hb3) _⟩

/-- the quotient, before Small looks at it. -/
def quoI (v n : Int) : Int := if (v < 0 ↔ n < 0) then ab v / ab n else if ab v % ab n = 0 then - (ab v / ab n) else - (ab v / ab n) - 1

theorem wr_q0 (q : Int) (h : U64 q) : wr (sv 0 0 - sv 0 q) = - q := by unfold U64 at h; unfold wr sv; omega
theorem wr_q1 (q : Int) (h : U64 q) : wr (- q - 1) = - q - 1 := by unfold U64 at h; unfold wr; omega
theorem quo_lt (a b : Int) (h1 : 1 ≤ b) (h2 : 0 ≤ a) (h3 : sH a < b) : U64 (a / b) := by
  refine ⟨Int.ediv_nonneg h2 (by omega), ?_⟩
  have : a < 18446744073709551616 * b := by unfold sH at h3; omega
  exact Int.ediv_lt_of_lt_mul (by omega) this

set_option maxRecDepth 100000 in
set_option maxHeartbeats 2000000 in
theorem ratio_same (hi lo n : Int) (h1 : I64 hi) (h2 : U64 lo) (hn : I64 n) (h0 : n ≠ 0) (hov : sH (ab (sv hi lo)) < ab n) (hs : hi < 0 ↔ n < 0)
    (hD : Div64At (sH (ab (sv hi lo))) (sL (ab (sv hi lo))) (ab n)) (w : World) :
    Calls Tryz.prog 88 #[.agg #[.int .i64 hi, .int .u64 lo], .int .i64 n] w fun e w' => e = .returned (.tuple #[.int .i64 (sm0 (ab (sv hi lo) / ab n)), sm1 (ab (sv hi lo) / ab n)]) ∧ Below w.heap.size w w' := by
  have c0 : (n == 0) = false := by rw [beq_eq_false_iff_ne]; exact h0
  have c1 : (decide (hi < 0) == decide (n < 0)) = true := by by_cases c : n < 0 <;> simp [c, hs]
  have e1 := sv_H_L n
  have e2 := wr_hi _ (ab_le hi lo h1 h2)
  have e3 := wr_lo (ab (sv hi lo))
  have e4 := wr_lo (ab n)
  have e5 := lo_of _ (ab_le1 n hn h0)
  have e6 := fieldLo
  have e7 := sv_H_L (ab (sv hi lo))
  have hq := quo_lt (ab (sv hi lo)) (ab n) (ab_le1 n hn h0).1 (ab_le hi lo h1 h2).1 hov
  have HS : Hid (sv 0 (ab (sv hi lo) / ab n) = ab (sv hi lo) / ab n) := (by unfold sv; omega : sv 0 (ab (sv hi lo) / ab n) = ab (sv hi lo) / ab n)
  have hov' : ¬ ab n ≤ sH (ab (sv hi lo)) := by omega
  clear hs h0
  go_enter Tryz.func88, Tryz.ntmps88
  go_wp2_with fail
  refine (size_any hi lo h1 h2 _).mono ?_
  rintro e w1 ⟨rfl, hb1⟩
  obtain ⟨hc1, hf1⟩ := bcell hb1
  go_wp2_with fail
  refine (wide_any n hn _).mono ?_
  rintro e w2 ⟨rfl, o1, rfl⟩
  go_wp2_with fail
  refine (size_any _ _ (I64_sH n (by unfold I64 at hn; unfold S128; omega)) (U64_sL n) _).mono ?_
  rintro e w3 ⟨rfl, hb3⟩
  obtain ⟨hc3, hf3⟩ := bcell hb3
  have hz1 : w.heap.size + 1 ≤ w1.heap.size := by have := hb1.size; simp at this; omega
  have hz3 : w1.heap.size + 1 ≤ w3.heap.size := by have := hb3.size; simp at this; omega
  go_wp2_with fail
  refine (hD _).mono ?_
  rintro e w4 ⟨rfl, hb4⟩
  obtain ⟨hc4, hf4⟩ := bcell hb4
  have hz4 : w3.heap.size + 1 ≤ w4.heap.size := by have := hb4.size; simp at this; omega
  have hs4 : ∀ o, (w4.alloc o).cell? ⟨w.heap.size, 0, none⟩ = some (.int .i64 hi) := fun o => by
    rw [World.cell?_alloc_lt _ _ ⟨w.heap.size, 0, none⟩ (by simp; omega), hc4 _ _ (by simp; omega), World.cell?_alloc_lt _ _ ⟨w.heap.size, 0, none⟩ (by simp; omega), hc3 _ _ (by simp; omega), World.cell?_alloc_lt _ _ ⟨w.heap.size, 0, none⟩ (by simp; omega), hc1 _ _ (by simp)]; simp
  go_wp2_with fail
  refine (small_any _ _ hq _).mono ?_
  rintro e w5 ⟨rfl, hb5⟩
  go_wp2
  go_ret2
  exact ⟨by rw [HS.out]; rfl, below_then (below_new (below_then (below_new (below_then (below_new (below_then (below_new (Below.refl _ _) _) hb1) _) hb3) _) hb4) _) hb5⟩

set_option maxRecDepth 100000 in
set_option maxHeartbeats 2000000 in
theorem ratio_diff0 (hi lo n : Int) (h1 : I64 hi) (h2 : U64 lo) (hn : I64 n) (h0 : n ≠ 0) (hov : sH (ab (sv hi lo)) < ab n) (hs : ¬ (hi < 0 ↔ n < 0)) (hr : ab (sv hi lo) % ab n = 0)
    (hD : Div64At (sH (ab (sv hi lo))) (sL (ab (sv hi lo))) (ab n)) (w : World) :
    Calls Tryz.prog 88 #[.agg #[.int .i64 hi, .int .u64 lo], .int .i64 n] w fun e w' => e = .returned (.tuple #[.int .i64 (sm0 (- (ab (sv hi lo) / ab n))), sm1 (- (ab (sv hi lo) / ab n))]) ∧ Below w.heap.size w w' := by
  have c0 : (n == 0) = false := by rw [beq_eq_false_iff_ne]; exact h0
  have c1 : (decide (hi < 0) == decide (n < 0)) = false := by by_cases c : n < 0 <;> by_cases d : hi < 0 <;> simp_all
  have e1 := sv_H_L n
  have e2 := wr_hi _ (ab_le hi lo h1 h2)
  have e3 := wr_lo (ab (sv hi lo))
  have e4 := wr_lo (ab n)
  have e5 := lo_of _ (ab_le1 n hn h0)
  have e6 := fieldLo
  have e7 := sv_H_L (ab (sv hi lo))
  have hq := quo_lt (ab (sv hi lo)) (ab n) (ab_le1 n hn h0).1 (ab_le hi lo h1 h2).1 hov
  have e8 := wr_q0 _ hq
  have HS : Hid (sv (sH (- (ab (sv hi lo) / ab n))) (sL (- (ab (sv hi lo) / ab n))) = - (ab (sv hi lo) / ab n)) := sv_H_L _
  have hov' : ¬ ab n ≤ sH (ab (sv hi lo)) := by omega
  have c2 : (ab (sv hi lo) % ab n != 0) = false := by simp [hr]
  clear hs h0 hr
  go_enter Tryz.func88, Tryz.ntmps88
  go_wp2_with fail
  refine (size_any hi lo h1 h2 _).mono ?_
  rintro e w1 ⟨rfl, hb1⟩
  obtain ⟨hc1, hf1⟩ := bcell hb1
  go_wp2_with fail
  refine (wide_any n hn _).mono ?_
  rintro e w2 ⟨rfl, o1, rfl⟩
  go_wp2_with fail
  refine (size_any _ _ (I64_sH n (by unfold I64 at hn; unfold S128; omega)) (U64_sL n) _).mono ?_
  rintro e w3 ⟨rfl, hb3⟩
  obtain ⟨hc3, hf3⟩ := bcell hb3
  have hz1 : w.heap.size + 1 ≤ w1.heap.size := by have := hb1.size; simp at this; omega
  have hz3 : w1.heap.size + 1 ≤ w3.heap.size := by have := hb3.size; simp at this; omega
  go_wp2_with fail
  refine (hD _).mono ?_
  rintro e w4 ⟨rfl, hb4⟩
  obtain ⟨hc4, hf4⟩ := bcell hb4
  have hz4 : w3.heap.size + 1 ≤ w4.heap.size := by have := hb4.size; simp at this; omega
  have hs4 : ∀ o, (w4.alloc o).cell? ⟨w.heap.size, 0, none⟩ = some (.int .i64 hi) := fun o => by
    rw [World.cell?_alloc_lt _ _ ⟨w.heap.size, 0, none⟩ (by simp; omega), hc4 _ _ (by simp; omega), World.cell?_alloc_lt _ _ ⟨w.heap.size, 0, none⟩ (by simp; omega), hc3 _ _ (by simp; omega), World.cell?_alloc_lt _ _ ⟨w.heap.size, 0, none⟩ (by simp; omega), hc1 _ _ (by simp)]; simp
  go_wp2_with fail
  refine (less_any 0 0 0 _ ⟨by omega, by omega⟩ hq _).mono ?_
  rintro e w5 ⟨rfl, o5, o6, o7, rfl⟩
  go_wp2_with fail
  refine (small_any _ _ (U64_sL _) _).mono ?_
  rintro e w6 ⟨rfl, hb6⟩
  go_wp2
  go_ret2
  exact ⟨by rw [HS.out]; rfl, below_then (below_new (below_new (below_new (below_new (below_then (below_new (below_then (below_new (below_then (below_new (Below.refl _ _) _) hb1) _) hb3) _) hb4) _) _) _) _) hb6⟩

set_option maxRecDepth 100000 in
set_option maxHeartbeats 2000000 in
theorem ratio_diff1 (hi lo n : Int) (h1 : I64 hi) (h2 : U64 lo) (hn : I64 n) (h0 : n ≠ 0) (hov : sH (ab (sv hi lo)) < ab n) (hs : ¬ (hi < 0 ↔ n < 0)) (hr : ¬ ab (sv hi lo) % ab n = 0)
    (hD : Div64At (sH (ab (sv hi lo))) (sL (ab (sv hi lo))) (ab n)) (w : World) :
    Calls Tryz.prog 88 #[.agg #[.int .i64 hi, .int .u64 lo], .int .i64 n] w fun e w' => e = .returned (.tuple #[.int .i64 (sm0 (- (ab (sv hi lo) / ab n) - 1)), sm1 (- (ab (sv hi lo) / ab n) - 1)]) ∧ Below w.heap.size w w' := by
  have c0 : (n == 0) = false := by rw [beq_eq_false_iff_ne]; exact h0
  have c1 : (decide (hi < 0) == decide (n < 0)) = false := by by_cases c : n < 0 <;> by_cases d : hi < 0 <;> simp_all
  have e1 := sv_H_L n
  have e2 := wr_hi _ (ab_le hi lo h1 h2)
  have e3 := wr_lo (ab (sv hi lo))
  have e4 := wr_lo (ab n)
  have e5 := lo_of _ (ab_le1 n hn h0)
  have e6 := fieldLo
  have e7 := sv_H_L (ab (sv hi lo))
  have hq := quo_lt (ab (sv hi lo)) (ab n) (ab_le1 n hn h0).1 (ab_le hi lo h1 h2).1 hov
  have e8 := wr_q0 _ hq
  have e9 := wr_q1 _ hq
  have e10 := sv_H_L (- (ab (sv hi lo) / ab n))
  have HS : Hid (sv (sH (- (ab (sv hi lo) / ab n) - 1)) (sL (- (ab (sv hi lo) / ab n) - 1)) = - (ab (sv hi lo) / ab n) - 1) := sv_H_L _
  have hov' : ¬ ab n ≤ sH (ab (sv hi lo)) := by omega
  have c2 : (ab (sv hi lo) % ab n != 0) = true := by simp [hr]
  clear hs h0 hr
  go_enter Tryz.func88, Tryz.ntmps88
  go_wp2_with fail
  refine (size_any hi lo h1 h2 _).mono ?_
  rintro e w1 ⟨rfl, hb1⟩
  obtain ⟨hc1, hf1⟩ := bcell hb1
  go_wp2_with fail
  refine (wide_any n hn _).mono ?_
  rintro e w2 ⟨rfl, o1, rfl⟩
  go_wp2_with fail
  refine (size_any _ _ (I64_sH n (by unfold I64 at hn; unfold S128; omega)) (U64_sL n) _).mono ?_
  rintro e w3 ⟨rfl, hb3⟩
  obtain ⟨hc3, hf3⟩ := bcell hb3
  have hz1 : w.heap.size + 1 ≤ w1.heap.size := by have := hb1.size; simp at this; omega
  have hz3 : w1.heap.size + 1 ≤ w3.heap.size := by have := hb3.size; simp at this; omega
  go_wp2_with fail
  refine (hD _).mono ?_
  rintro e w4 ⟨rfl, hb4⟩
  obtain ⟨hc4, hf4⟩ := bcell hb4
  have hz4 : w3.heap.size + 1 ≤ w4.heap.size := by have := hb4.size; simp at this; omega
  have hs4 : ∀ o, (w4.alloc o).cell? ⟨w.heap.size, 0, none⟩ = some (.int .i64 hi) := fun o => by
    rw [World.cell?_alloc_lt _ _ ⟨w.heap.size, 0, none⟩ (by simp; omega), hc4 _ _ (by simp; omega), World.cell?_alloc_lt _ _ ⟨w.heap.size, 0, none⟩ (by simp; omega), hc3 _ _ (by simp; omega), World.cell?_alloc_lt _ _ ⟨w.heap.size, 0, none⟩ (by simp; omega), hc1 _ _ (by simp)]; simp
  go_wp2_with fail
  refine (less_any 0 0 0 _ ⟨by omega, by omega⟩ hq _).mono ?_
  rintro e w5 ⟨rfl, o5, o6, o7, rfl⟩
  go_wp2_with fail
  refine (minus_any _ _ 1 (U64_sL _) ⟨by omega, by omega⟩ _).mono ?_
  rintro e w6 ⟨rfl, hb6⟩
  obtain ⟨hc6, hf6⟩ := bcell hb6
  have hz6 : w4.heap.size + 1 ≤ w6.heap.size := by have := hb6.size; simp at this; omega
  have hs6 : w6.cell? ⟨w4.heap.size, 0, none⟩ = some (.int .i64 (sH (- (ab (sv hi lo) / ab n)))) ∧ w6.cell? ⟨w4.heap.size, 1, none⟩ = some (.int .u64 (sL (- (ab (sv hi lo) / ab n)))) ∧ w6.frozen? ⟨w4.heap.size, 0, none⟩ = false ∧ w6.frozen? ⟨w4.heap.size, 1, none⟩ = false := by
    rw [hc6 _ _ (by simp; omega), hc6 _ _ (by simp; omega), hf6 _ _ (by simp; omega), hf6 _ _ (by simp; omega)]
    simp [go_sem, World.cell?_alloc_past]
  obtain ⟨hs6a, hs6b, hs6c, hs6d⟩ := hs6
  clear hc6 hf6
  go_wp2_with fail
  refine (small_any _ _ (U64_sL _) _).mono ?_
  rintro e w7 ⟨rfl, hb7⟩
  go_wp2
  go_ret2
  refine ⟨by rw [HS.out]; rfl, below_then ?_ hb7⟩
  have hz0 : w.heap.size ≤ w4.heap.size := by omega
  refine Below.setCell (Below.setCell ?_ hz0 _) hz0 _
  exact below_then (below_new (below_new (below_new (below_new (below_then (below_new (below_then (below_new (below_then (below_new (Below.refl _ _) _) hb1) _) hb3) _) hb4) _) _) _) _) hb6
end Go.Proofs.YtipahdplkmmofaaGreatDoor
