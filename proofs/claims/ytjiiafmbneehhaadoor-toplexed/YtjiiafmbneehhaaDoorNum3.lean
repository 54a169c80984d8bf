
import Derived.Test.YtjiiafmbneehhaaDoorNum2
namespace Go.Proofs.YtjiiafmbneehhaaDoor
open Go.RowKit Go.Shelf

/-! ### the plain arithmetic of quotients -/
theorem tmod_abs (a b : Int) (hb : b ≠ 0) : -(b.natAbs : Int) < a.tmod b ∧ a.tmod b < b.natAbs := by
  have e := Int.natAbs_tmod a b
  have h := Nat.mod_lt a.natAbs (show b.natAbs > 0 by omega)
  omega
/-- what is left of a by b, as the program reckons it. -/
def modI (a b : Int) : Int := if a.tmod b = 0 ∨ (a.tmod b < 0 ↔ b < 0) then a.tmod b else a.tmod b + b

def sm0 (v : Int) : Int := if -9223372036854775808 ≤ v ∧ v < 9223372036854775808 then v else 0
def sm1 (v : Int) : Value := if -9223372036854775808 ≤ v ∧ v < 9223372036854775808 then .nilIface else .iface 33 (.int .i64 20)
theorem sm0_yes {v : Int} (h : I64 v) : sm0 v = v := if_pos h
theorem sm1_yes {v : Int} (h : I64 v) : sm1 v = .nilIface := if_pos h
theorem sm0_no {v : Int} (h : ¬ I64 v) : sm0 v = 0 := if_neg h
theorem sm1_no {v : Int} (h : ¬ I64 v) : sm1 v = .iface 33 (.int .i64 20) := if_neg h
theorem small_any (hi lo : Int) (h2 : U64 lo) (w : World) :
    Calls Tryd.prog 50 #[.agg #[.int .i64 hi, .int .u64 lo]] w fun e w' => e = .returned (.tuple #[.int .i64 (sm0 (sv hi lo)), sm1 (sv hi lo)]) ∧ Below w.heap.size w w' := by
  by_cases h : I64 (sv hi lo)
  · rw [sm0_yes h, sm1_yes h]; exact small_yes hi lo h2 h w
  · rw [sm0_no h, sm1_no h]; exact small_no hi lo h2 h w

/-- without its sign. -/
def ab (x : Int) : Int := if x < 0 then -x else x
theorem ab_neg {x : Int} (h : x < 0) : ab x = -x := if_pos h
theorem ab_pos {x : Int} (h : ¬ x < 0) : ab x = x := if_neg h
theorem sv_neg (hi lo : Int) (h2 : U64 lo) : sv hi lo < 0 ↔ hi < 0 := by unfold U64 at h2; unfold sv; omega
theorem bcell {W w1 : World} (hb : Below W.heap.size W w1) : (∀ b o, b < W.heap.size → w1.cell? ⟨b, o, none⟩ = W.cell? ⟨b, o, none⟩) ∧ (∀ b o, b < W.heap.size → w1.frozen? ⟨b, o, none⟩ = W.frozen? ⟨b, o, none⟩) :=
  ⟨fun b o h => hb.cell (p := ⟨b, o, none⟩) h, fun b o h => hb.frozen (p := ⟨b, o, none⟩) h⟩
theorem S128_add (a b : Int) (ha : I64 a) (hb : I64 b) : wr (a + b) = a + b := wr_of _ (by unfold I64 at ha hb; unfold S128; omega)
theorem S128_sub (a b : Int) (ha : I64 a) (hb : I64 b) : wr (a - b) = a - b := wr_of _ (by unfold I64 at ha hb; unfold S128; omega)
theorem below_then {w W w1 : World} (h : Below w.heap.size w W) (hb : Below W.heap.size W w1) : Below w.heap.size w w1 := h.trans (hb.mono h.size)
theorem add_any (a b : Int) (ha : I64 a) (hb : I64 b) (w : World) :
    Calls Tryd.prog 48 #[.int .i64 a, .int .i64 b] w fun e w' => e = .returned (.tuple #[.int .i64 (sm0 (a + b)), sm1 (a + b)]) ∧ Below w.heap.size w w' := by
  have e1 := sv_H_L a
  have e2 := S128_add a b ha hb
  have e3 := sv_H_L (a + b)
  go_enter Tryd.func48, Tryd.ntmps48
  go_wp2_with fail
  refine (wide_any a ha _).mono ?_
  rintro e w1 ⟨rfl, o1, rfl⟩
  go_wp2_with fail
  refine (plus_any _ _ b (U64_sL a) hb _).mono ?_
  rintro e w1 ⟨rfl, o2, o3, o4, o5, rfl⟩
  go_wp2_with fail
  refine (small_any _ _ (U64_sL _) _).mono ?_
  rintro e w1 ⟨rfl, hb1⟩
  go_wp2
  go_ret2
  exact ⟨rfl, below_then (below_new (below_new (below_new (below_new (below_new (Below.refl _ _) _) _) _) _) _) hb1⟩
theorem ab_le (hi lo : Int) (h1 : I64 hi) (h2 : U64 lo) : 0 ≤ ab (sv hi lo) ∧ ab (sv hi lo) ≤ 170141183460469231731687303715884105728 := by
  unfold I64 at h1; unfold U64 at h2; unfold ab sv; split <;> omega
theorem ab_le1 (n : Int) (h : I64 n) (h0 : n ≠ 0) : 1 ≤ ab n ∧ ab n ≤ 9223372036854775808 := by
  unfold I64 at h; unfold ab; split <;> omega
theorem wr_hi (a : Int) (h : 0 ≤ a ∧ a ≤ 170141183460469231731687303715884105728) : IntKind.u64.wrap (sH (wr a)) = sH a := by
  rw [u64_wrap]; unfold sL sH wr; omega
theorem wr_lo (a : Int) : sL (wr a) = sL a := by unfold sL wr; omega
theorem lo_of (n : Int) (h : 1 ≤ n ∧ n ≤ 9223372036854775808) : sL n = n := by unfold sL; omega

theorem fieldLo (a b : Value) (w : World) : (Instr.field 88 (.agg #[a, b]) 1).run Tryd.prog w = .ok b w := by kernel_rfl
/-- the quotient, before Small looks at it. -/
def quoI (v n : Int) : Int := if (v < 0 ↔ n < 0) then ab v / ab n else if ab v % ab n = 0 then - (ab v / ab n) else - (ab v / ab n) - 1

theorem wr_q0 (q : Int) (h : U64 q) : wr (sv 0 0 - sv 0 q) = - q := by unfold U64 at h; unfold wr sv; omega
theorem wr_q1 (q : Int) (h : U64 q) : wr (- q - 1) = - q - 1 := by unfold U64 at h; unfold wr; omega
theorem quo_lt (a b : Int) (h1 : 1 ≤ b) (h2 : 0 ≤ a) (h3 : sH a < b) : U64 (a / b) := by
  refine ⟨Int.ediv_nonneg h2 (by omega), ?_⟩
  have : a < 18446744073709551616 * b := by unfold sH at h3; omega
  exact Int.ediv_lt_of_lt_mul (by omega) this

end Go.Proofs.YtjiiafmbneehhaaDoor
