
import Derived.Test.YtnfpommplokemaaNum1
import Derived.Lib.ItoaNum
namespace Go.Proofs.Ytnfpommplokemaa
open Go.RowKit
set_option linter.unusedVariables false

/-! ### Knuth's division of a number of three half words by one of two, plain -/
/-- the divisor's halves: y = y1 * 2^32 + y0, its highest bit set. -/
structure KY (y y1 y0 : Int) : Prop where
  e : y1 * 4294967296 + y0 = y
  a : 2147483648 ≤ y1
  b : y1 < 4294967296
  c : 0 ≤ y0
  d : y0 < 4294967296
/-- what holds at the head of a round: u the two half words ahead, d the next one, q the guess, r what the guess leaves of u by y1. -/
structure KI (y y1 y0 u d q r : Int) : Prop where
  e : q * y1 + r = u
  r0 : 0 ≤ r
  r1 : r < 4294967296
  q0 : 0 ≤ q
  q1 : q ≤ 4294967297
  lo : (u * 4294967296 + d) / y ≤ q

theorem ky_of (y : Int) (h1 : 9223372036854775808 ≤ y) (h2 : y < 18446744073709551616) : KY y (y / 4294967296) (y % 4294967296) := ⟨by omega, by omega, by omega, by omega, by omega⟩

theorem ki_start (y y1 y0 u d : Int) (h : KY y y1 y0) (u0 : 0 ≤ u) (u1 : u < y) (d0 : 0 ≤ d) (d1 : d < 4294967296) : KI y y1 y0 u d (u / y1) (u % y1) := by
  obtain ⟨e, a, b, c, dd⟩ := h
  have hd := Int.mul_ediv_add_emod u y1
  have hr0 := Int.emod_nonneg u (show y1 ≠ 0 by omega)
  have hr1 := Int.emod_lt_of_pos u (show 0 < y1 by omega)
  have hq0 : 0 ≤ u / y1 := Int.ediv_nonneg u0 (by omega)
  have hle : u / y1 ≤ 4294967297 := by
    have : u / y1 < 4294967298 := Int.ediv_lt_of_lt_mul (by omega) (by omega)
    omega
  refine ⟨by rw [Int.mul_comm]; exact hd, hr0, by omega, hq0, hle, ?_⟩
  -- (u B + d) / y ≤ u / y1
  have hlt : (u * 4294967296 + d) / y < u / y1 + 1 := by
    apply Int.ediv_lt_of_lt_mul (by omega)
    have h1 : u < y1 * (u / y1 + 1) := by rw [Int.mul_add]; omega
    have h2 : u * 4294967296 + d < (y1 * (u / y1 + 1)) * 4294967296 := by omega
    have h3 : (u / y1 + 1) * y = (y1 * (u / y1 + 1)) * 4294967296 + (u / y1 + 1) * y0 := by
      rw [← e, Int.mul_add, ← Int.mul_assoc, Int.mul_comm (u / y1 + 1) y1]
    have h4 : 0 ≤ (u / y1 + 1) * y0 := Int.mul_nonneg (by omega) c
    omega
  omega

/-- the guess is too great: the next one. -/
theorem ki_next (y y1 y0 u d q r : Int) (h : KY y y1 y0) (k : KI y y1 y0 u d q r) (u0 : 0 ≤ u) (u1 : u < y) (d0 : 0 ≤ d) (d1 : d < 4294967296)
    (big : 4294967296 ≤ q ∨ 4294967296 * r + d < q * y0) : (q - 1) * y1 + (r + y1) = u ∧ 0 ≤ q - 1 ∧ q - 1 ≤ 4294967296 ∧ (u * 4294967296 + d) / y ≤ q - 1 := by
  obtain ⟨e, a, b, c, dd⟩ := h
  obtain ⟨ke, r0, r1, q0, q1, lo⟩ := k
  have hm : (q - 1) * y1 = q * y1 - y1 := by rw [Int.sub_mul, Int.one_mul]
  have hqt : (u * 4294967296 + d) / y < q := by
    apply Int.ediv_lt_of_lt_mul (by omega)
    have h3 : q * y = (q * y1) * 4294967296 + q * y0 := by rw [← e, Int.mul_add, Int.mul_assoc]
    rcases big with hb | hb
    · have h4 : 4294967296 * y ≤ q * y := Int.mul_le_mul_of_nonneg_right hb (by omega)
      omega
    · omega
  have hq1 : 1 ≤ q := by
    have : 0 ≤ (u * 4294967296 + d) / y := Int.ediv_nonneg (by omega) (by omega)
    omega
  exact ⟨by omega, by omega, by omega, by omega⟩
theorem ki_round (y y1 y0 u d q r : Int) (h : KY y y1 y0) (k : KI y y1 y0 u d q r) (u0 : 0 ≤ u) (u1 : u < y) (d0 : 0 ≤ d) (d1 : d < 4294967296)
    (big : 4294967296 ≤ q ∨ 4294967296 * r + d < q * y0) (c : ¬ 4294967296 ≤ r + y1) : KI y y1 y0 u d (q - 1) (r + y1) := by
  obtain ⟨h1, h2, h3, h4⟩ := ki_next y y1 y0 u d q r h k u0 u1 d0 d1 big
  have := h.a; have := k.r0
  exact ⟨h1, by omega, by omega, h2, by omega, h4⟩
/-- a guess that fits is the quotient. -/
theorem ki_fit (y y1 y0 u d q r : Int) (h : KY y y1 y0) (e : q * y1 + r = u) (lo : (u * 4294967296 + d) / y ≤ q) (fit : q * y0 ≤ 4294967296 * r + d) : q = (u * 4294967296 + d) / y := by
  obtain ⟨he, a, b, c, dd⟩ := h
  have h3 : q * y = (q * y1) * 4294967296 + q * y0 := by rw [← he, Int.mul_add, Int.mul_assoc]
  have : q ≤ (u * 4294967296 + d) / y := (Int.le_ediv_iff_mul_le (by omega)).2 (by omega)
  omega
theorem ki_break (y y1 y0 u d q r : Int) (h : KY y y1 y0) (k : KI y y1 y0 u d q r) (u0 : 0 ≤ u) (u1 : u < y) (d0 : 0 ≤ d) (d1 : d < 4294967296)
    (big : 4294967296 ≤ q ∨ 4294967296 * r + d < q * y0) (c : 4294967296 ≤ r + y1) : q - 1 = (u * 4294967296 + d) / y := by
  obtain ⟨h1, h2, h3, h4⟩ := ki_next y y1 y0 u d q r h k u0 u1 d0 d1 big
  refine ki_fit y y1 y0 u d (q - 1) (r + y1) h h1 h4 ?_
  have h5 : (q - 1) * y0 ≤ 4294967296 * y0 := Int.mul_le_mul_of_nonneg_right h3 h.c
  have := h.d
  have h6 : 4294967296 * 4294967296 ≤ 4294967296 * (r + y1) := Int.mul_le_mul_of_nonneg_left c (by omega)
  omega
/-- what is left: below the divisor, and it is what two words tell. -/
theorem ki_left (y u d : Int) (h : 0 < y) : 0 ≤ u * 4294967296 + d - (u * 4294967296 + d) / y * y ∧ u * 4294967296 + d - (u * 4294967296 + d) / y * y < y ∧ u * 4294967296 + d - (u * 4294967296 + d) / y * y = (u * 4294967296 + d) % y := by
  have e := Int.mul_ediv_add_emod (u * 4294967296 + d) y
  have r0 := Int.emod_nonneg (u * 4294967296 + d) (show y ≠ 0 by omega)
  have r1 := Int.emod_lt_of_pos (u * 4294967296 + d) h
  rw [Int.mul_comm] at e
  omega
theorem ki_qlt (y u d : Int) (h : 0 < y) (u0 : 0 ≤ u) (u1 : u < y) (d0 : 0 ≤ d) (d1 : d < 4294967296) : 0 ≤ (u * 4294967296 + d) / y ∧ (u * 4294967296 + d) / y < 4294967296 :=
  ⟨Int.ediv_nonneg (by omega) (by omega), Int.ediv_lt_of_lt_mul h (by omega)⟩
end Go.Proofs.Ytnfpommplokemaa
