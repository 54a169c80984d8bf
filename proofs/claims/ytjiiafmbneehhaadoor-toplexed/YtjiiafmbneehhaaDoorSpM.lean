
import Derived.Test.YtjiiafmbneehhaaDoorShelf
import Derived.Test.YtjiiafmbneehhaaDoorNum4
namespace Go.Proofs.YtjiiafmbneehhaaDoor
open Go.RowKit Go.Shelf
set_option linter.unusedVariables false
set_option linter.unusedSimpArgs false

theorem mul64I (x y : Int) (hx : U64 x) (hy : U64 y) (w : World) : Calls Tryd.prog 55 #[.int .u64 x, .int .u64 y] w fun e w' => e = .returned (.tuple #[.int .u64 (sH (x * y)), .int .u64 (sL (x * y))]) ∧ w' = w := by
  obtain ⟨x, rfl⟩ := Int.eq_ofNat_of_zero_le hx.1
  obtain ⟨y, rfl⟩ := Int.eq_ofNat_of_zero_le hy.1
  have h := Tryd.bits_Mul64 x y (by unfold U64 at hx; omega) (by unfold U64 at hy; omega) w
  have e1 : ((x * y / 18446744073709551616 : Nat) : Int) = sH ((x : Int) * y) := by unfold sH; rw [← Int.natCast_mul]; omega
  have e2 : ((x * y % 18446744073709551616 : Nat) : Int) = sL ((x : Int) * y) := by unfold sL; rw [← Int.natCast_mul]; omega
  rw [e1, e2] at h
  exact h
theorem prod_lo (a b : Int) : sL (sL a * sL b) = sL (a * b) := by
  unfold sL; rw [← Int.mul_emod]
theorem prod_exp (a b : Int) (ha : I64 a) (hb : I64 b) : sL a * sL b = a * b + 18446744073709551616 * ((if a < 0 then b else 0) + (if b < 0 then a else 0)) + (if a < 0 ∧ b < 0 then 340282366920938463463374607431768211456 else 0) := by
  unfold I64 at ha hb
  have ea : sL a = if a < 0 then a + 18446744073709551616 else a := by unfold sL; split <;> omega
  have eb : sL b = if b < 0 then b + 18446744073709551616 else b := by unfold sL; split <;> omega
  rw [ea, eb]
  by_cases h1 : a < 0 <;> by_cases h2 : b < 0 <;> simp only [h1, h2, if_true, if_false, and_self, and_true, and_false, false_and, true_and] <;> simp only [Int.add_mul, Int.mul_add] <;> omega
theorem prod_hi (a b : Int) (ha : I64 a) (hb : I64 b) : wrap64 (wrap64 (wrap64 (sH (sL a * sL b)) - (if a < 0 then b else 0)) - (if b < 0 then a else 0)) = sH (a * b) := by
  have e := prod_exp a b ha hb
  have hr : S128 (a * b) := by
    unfold I64 at ha hb; unfold S128
    have h1 : (a * b).natAbs = a.natAbs * b.natAbs := Int.natAbs_mul a b
    have h2 : a.natAbs * b.natAbs ≤ 9223372036854775808 * 9223372036854775808 := Nat.mul_le_mul (by omega) (by omega)
    omega
  have hh := I64_sH _ hr
  generalize a * b = p at *
  generalize sL a * sL b = u at *
  unfold I64 at ha hb hh
  unfold S128 at hr
  unfold sH wrap64 at *
  by_cases h1 : a < 0 <;> by_cases h2 : b < 0 <;> simp only [h1, h2, if_true, if_false, and_self, and_true, and_false, false_and, true_and] at e ⊢ <;> omega
theorem mul_S128 (a b : Int) (ha : I64 a) (hb : I64 b) : S128 (a * b) := by
  unfold I64 at ha hb; unfold S128
  have h1 : (a * b).natAbs = a.natAbs * b.natAbs := Int.natAbs_mul a b
  have h2 : a.natAbs * b.natAbs ≤ 9223372036854775808 * 9223372036854775808 := Nat.mul_le_mul (by omega) (by omega)
  omega

theorem ww (x : Int) : wrap64 (wrap64 x) = wrap64 x := by unfold wrap64; omega
theorem product_any (a b : Int) (ha : I64 a) (hb : I64 b) (w : World) : Calls Tryd.prog 51 #[.int .i64 a, .int .i64 b] w fun e w' => e = .returned (.agg #[.int .i64 (sH (a * b)), .int .u64 (sL (a * b))]) ∧ Below w.heap.size w w' := by
  have e1 := u64_wrap a
  have e2 := u64_wrap b
  have H := prod_hi a b ha hb
  have e4 := prod_lo a b
  by_cases h1 : a < 0 <;> by_cases h2 : b < 0
  all_goals
    simp only [h1, h2, if_true, if_false, Int.sub_zero] at H
    have HH : Hid (_ = sH (a * b)) := H
    clear H
    go_enter Tryd.func51, Tryd.ntmps51
    go_wp2_with (go_at_call 55; refine (mul64I _ _ (U64_sL a) (U64_sL b) _).mono ?_; rintro e w' ⟨rfl, rfl⟩)
    simp [bodyPost, results, Tryd.results51, go_sem]
    have hx := HH.out
    try simp only [ww] at hx
    exact ⟨hx, below_new (Below.refl _ _) _⟩
theorem mul_any (a b : Int) (ha : I64 a) (hb : I64 b) (w : World) :
    Calls Tryd.prog 47 #[.int .i64 a, .int .i64 b] w fun e w' => e = .returned (.tuple #[.int .i64 (sm0 (a * b)), sm1 (a * b)]) ∧ Below w.heap.size w w' := by
  have e3 := sv_H_L (a * b)
  go_enter Tryd.func47, Tryd.ntmps47
  go_wp2_with fail
  refine (product_any a b ha hb _).mono ?_
  rintro e w1 ⟨rfl, hb1⟩
  go_wp2_with fail
  refine (small_any _ _ (U64_sL _) _).mono ?_
  rintro e w2 ⟨rfl, hb2⟩
  go_wp2
  go_ret2
  exact ⟨rfl, below_then hb1 hb2⟩
end Go.Proofs.YtjiiafmbneehhaaDoor
