
import Derived.Test.YtjiiafmbneehhaaDoorProg
import Derived.WalkKit
import Derived.WalkSpells
import Derived.Below
import Derived.WalkLawsBesides
import Derived.Laws.Externs
import Derived.Shelf.Spec.BitsCarry
import Derived.Laws.Bits64
import Derived.Outline
namespace Go.Proofs.YtjiiafmbneehhaaDoor
open Go.RowKit Go.Shelf

/-! ### bits.Add64, bits.Sub64 over Int -/
theorem add64 (x y c : Int) (hx : 0 ≤ x) (hy : 0 ≤ y) (hc0 : 0 ≤ c) (hc : c ≤ 1) (w : World) : (callFunc 56 #[.int .u64 x, .int .u64 y, .int .u64 c]).run Tryd.prog w =
    .ok (.value (.tuple #[.int .u64 ((x + y + c) % 18446744073709551616), .int .u64 ((x + y + c) / 18446744073709551616)])) w := by
  obtain ⟨x, rfl⟩ := Int.eq_ofNat_of_zero_le hx
  obtain ⟨y, rfl⟩ := Int.eq_ofNat_of_zero_le hy
  obtain ⟨c, rfl⟩ := Int.eq_ofNat_of_zero_le hc0
  rw [run_callFunc_extern Tryd.func56 (by kernel_rfl) (by kernel_rfl) (by kernel_rfl) (e := add64Entry) (by kernel_rfl), run_add64 x y c (by omega) (by omega) (by omega) (by omega)]
  simp only [Result.andThen]
/-- the carry and the borrow, under names. -/
def car (x y : Int) : Int := (x + y) / 18446744073709551616
def bor (x y : Int) : Int := if x < y then 1 else 0
def lo64 (x : Int) : Int := x % 18446744073709551616
theorem add64_0 (x y : Int) (hx : 0 ≤ x) (hy : 0 ≤ y) (w : World) : (callFunc 56 #[.int .u64 x, .int .u64 y, .int .u64 0]).run Tryd.prog w =
    .ok (.value (.tuple #[.int .u64 (lo64 (x + y)), .int .u64 (car x y)])) w := by
  simpa [lo64, car] using add64 x y 0 hx hy (Int.le_refl 0) (by decide) w
/-- the whole number of a sum. -/
def sv (hi lo : Int) : Int := hi * 18446744073709551616 + lo
/-- going round by 2^128. -/
def wr (v : Int) : Int := (v + 170141183460469231731687303715884105728) % 340282366920938463463374607431768211456 - 170141183460469231731687303715884105728
/-- the two words of a whole number. -/
def sH (v : Int) : Int := v / 18446744073709551616
def sL (v : Int) : Int := v % 18446744073709551616
/-- a whole number as a sum's value. -/
def sumV (v : Int) : Value := .agg #[.int .i64 (sH v), .int .u64 (sL v)]
def I64 (x : Int) : Prop := -9223372036854775808 ≤ x ∧ x < 9223372036854775808
def U64 (x : Int) : Prop := 0 ≤ x ∧ x < 18446744073709551616
def S128 (v : Int) : Prop := -170141183460469231731687303715884105728 ≤ v ∧ v < 170141183460469231731687303715884105728

theorem sH_sv (hi lo : Int) (h : U64 lo) : sH (sv hi lo) = hi := by unfold U64 at h; unfold sH sv; omega
theorem sL_sv (hi lo : Int) (h : U64 lo) : sL (sv hi lo) = lo := by unfold U64 at h; unfold sL sv; omega
theorem sv_H_L (v : Int) : sv (sH v) (sL v) = v := by unfold sH sL sv; omega
theorem S128_sv (hi lo : Int) (h1 : I64 hi) (h2 : U64 lo) : S128 (sv hi lo) := by unfold I64 at h1; unfold U64 at h2; unfold S128 sv; omega
theorem I64_sH (v : Int) (h : S128 v) : I64 (sH v) := by unfold S128 at h; unfold I64 sH; omega
theorem U64_sL (v : Int) : U64 (sL v) := by unfold U64 sL; omega
theorem wr_S128 (v : Int) : S128 (wr v) := by unfold S128 wr; omega
theorem wr_of (v : Int) (h : S128 v) : wr v = v := by unfold S128 at h; unfold wr; omega

theorem sH_wr (k l : Int) (h : U64 l) : sH (wr (sv k l)) = wrap64 k := by unfold U64 at h; unfold sH wr sv wrap64; omega
theorem sL_wr (k l : Int) (h : U64 l) : sL (wr (sv k l)) = l := by unfold U64 at h; unfold sL wr sv; omega
theorem wrap64_add (a b : Int) : wrap64 (wrap64 a + wrap64 b) = wrap64 (a + b) := by unfold wrap64; omega
theorem wrap64_sub (a b : Int) : wrap64 (wrap64 a - wrap64 b) = wrap64 (a - b) := by unfold wrap64; omega
theorem lo64_U64 (x : Int) : U64 (lo64 x) := by unfold U64 lo64; omega
theorem plus_sv (hi lo n : Int) : sv hi lo + n = sv (hi + sH n + car lo (sL n)) (lo64 (lo + sL n)) := by
  unfold car lo64 sv sH sL
  have e1 : n = (n / 18446744073709551616) * 18446744073709551616 + n % 18446744073709551616 := by omega
  have e2 := Int.mul_ediv_add_emod (lo + n % 18446744073709551616) 18446744073709551616
  omega
theorem plus_lo (hi lo n : Int) : lo64 (lo + sL n) = sL (wr (sv hi lo + n)) := by
  rw [plus_sv hi lo n, sL_wr _ _ (lo64_U64 _)]
theorem plus_hi (hi lo n : Int) : wrap64 (wrap64 (hi + sH n) + wrap64 (car lo (sL n))) = sH (wr (sv hi lo + n)) := by
  rw [plus_sv hi lo n, sH_wr _ _ (lo64_U64 _), wrap64_add]
theorem sH_I64 (n : Int) (h : I64 n) : n / 9223372036854775808 = sH n := by unfold I64 at h; unfold sH; omega
theorem u64_wrap (n : Int) : IntKind.u64.wrap n = sL n := by rw [IntKind.wrap_u64]; rfl
theorem less_sv (ah al bh bl : Int) (h2 : U64 al) (h4 : U64 bl) : sv ah al - sv bh bl = sv (ah - bh - bor al bl) (lo64 (al - bl)) := by
  unfold U64 at h2 h4; unfold bor lo64 sv; split <;> omega
theorem less_lo (ah al bh bl : Int) (h2 : U64 al) (h4 : U64 bl) : lo64 (al - bl) = sL (wr (sv ah al - sv bh bl)) := by
  rw [less_sv ah al bh bl h2 h4, sL_wr _ _ (lo64_U64 _)]
theorem less_hi (ah al bh bl : Int) (h2 : U64 al) (h4 : U64 bl) : wrap64 (wrap64 (ah - bh) - wrap64 (bor al bl)) = sH (wr (sv ah al - sv bh bl)) := by
  rw [less_sv ah al bh bl h2 h4, sH_wr _ _ (lo64_U64 _), wrap64_sub]
end Go.Proofs.YtjiiafmbneehhaaDoor
