
import Derived.Test.YtnfpommplokemaaDiv64
import Derived.Shelf.Bits.Mul64
import Derived.Test.YtnfpommplokemaaNum4
namespace Go.Proofs.Ytnfpommplokemaa
open Go.RowKit Go.Shelf
set_option linter.unusedVariables false

theorem len_bounds (y : Int) (h0 : 0 < y) (h1 : y < 18446744073709551616) : ∃ L : Nat, Lib.bitLen y.toNat = L ∧ 1 ≤ L ∧ L ≤ 64 ∧ (2 : Int) ^ (L - 1) ≤ y ∧ y < (2 : Int) ^ L := by
  obtain ⟨a, b, c⟩ := Lib.bitLenAux_bounds 64 y.toNat (by omega) (by omega)
  have hle := Lib.bitLen_le y.toNat 64 (Nat.le_refl _) (by omega)
  have hy : ((y.toNat : Nat) : Int) = y := Int.toNat_of_nonneg (by omega)
  refine ⟨Lib.bitLen y.toNat, rfl, a, hle, ?_, ?_⟩
  · have : ((2 ^ (Lib.bitLen y.toNat - 1) : Nat) : Int) ≤ (y.toNat : Int) := Int.ofNat_le.2 b
    rw [hy] at this; simpa using this
  · have : (y.toNat : Int) < ((2 ^ Lib.bitLen y.toNat : Nat) : Int) := Int.ofNat_lt.2 c
    rw [hy] at this; simpa using this
theorem pow_split (L : Nat) (h2 : L ≤ 64) : (2 : Int) ^ (64 - L) * 2 ^ L = 18446744073709551616 := by
  rw [← Int.pow_add, show 64 - L + L = 64 by omega]; rfl
theorem pow_half (L : Nat) (h1 : 1 ≤ L) : (2 : Int) ^ (L - 1) * 2 = 2 ^ L := by
  obtain ⟨k, rfl⟩ : ∃ k, L = k + 1 := ⟨L - 1, by omega⟩
  simp [Int.pow_succ]

/-- the divisor, moved up. -/
theorem y_up (y : Int) (L : Nat) (h1 : 1 ≤ L) (h2 : L ≤ 64) (a : (2 : Int) ^ (L - 1) ≤ y) (b : y < (2 : Int) ^ L) : 9223372036854775808 ≤ y * 2 ^ (64 - L) ∧ y * 2 ^ (64 - L) < 18446744073709551616 := by
  have hp : (0 : Int) < 2 ^ (64 - L) := Int.pow_pos (by omega)
  have e1 := pow_split L h2
  have e2 := pow_half L h1
  have h3 : (2 : Int) ^ (L - 1) * 2 ^ (64 - L) ≤ y * 2 ^ (64 - L) := Int.mul_le_mul_of_nonneg_right a (Int.le_of_lt hp)
  have h4 : y * 2 ^ (64 - L) < (2 : Int) ^ L * 2 ^ (64 - L) := Int.mul_lt_mul_of_pos_right b hp
  have h5 : (2 : Int) ^ (L - 1) * 2 ^ (64 - L) * 2 = 18446744073709551616 := by rw [Int.mul_right_comm, e2, Int.mul_comm]; exact e1
  have h6 : (2 : Int) ^ L * 2 ^ (64 - L) = 18446744073709551616 := by rw [Int.mul_comm]; exact e1
  omega
/-- the low word's upper bits. -/
theorem lo_up (lo : Int) (L : Nat) (h2 : L ≤ 64) (a : 0 ≤ lo) : lo * 2 ^ (64 - L) / 18446744073709551616 = lo / 2 ^ L := by
  have hp : (0 : Int) < 2 ^ (64 - L) := Int.pow_pos (by omega)
  rw [← pow_split L h2, Int.mul_comm lo, Int.mul_ediv_mul_of_pos _ _ hp]
theorem lo_small (lo : Int) (L : Nat) (h2 : L ≤ 64) (a : 0 ≤ lo) (b : lo < 18446744073709551616) : 0 ≤ lo / 2 ^ L ∧ lo / 2 ^ L < 2 ^ (64 - L) := by
  have hp : (0 : Int) < 2 ^ L := Int.pow_pos (by omega)
  exact ⟨Int.ediv_nonneg a (Int.le_of_lt hp), Int.ediv_lt_of_lt_mul hp (by rw [pow_split L h2]; exact b)⟩
theorem or_add (x b : Int) (s : Nat) (hx : 0 ≤ x) (hb : 0 ≤ b) (hb2 : b < 2 ^ s) (hx2 : x * 2 ^ s < 18446744073709551616) (hb3 : b < 18446744073709551616) : bits BinOp.or IntKind.u64 (x * 2 ^ s) b = x * 2 ^ s + b := by
  obtain ⟨x, rfl⟩ := Int.eq_ofNat_of_zero_le hx
  obtain ⟨b, rfl⟩ := Int.eq_ofNat_of_zero_le hb
  have e : ((x : Int) * 2 ^ s) = ((x * 2 ^ s : Nat) : Int) := by simp
  rw [e]
  have hb4 : b < 2 ^ s := by have : ((b : Nat) : Int) < ((2 ^ s : Nat) : Int) := by simpa using hb2
                             exact Int.ofNat_lt.1 this
  rw [bits_or_u64_nat _ _ (by rw [e] at hx2; exact Int.ofNat_lt.1 hx2) (by omega), ← Nat.shiftLeft_eq, ← Nat.shiftLeft_add_eq_or_of_lt hb4]
  simp [Nat.shiftLeft_eq]

theorem div64_big (hi lo y : Int) (h1 : U64 hi) (h2 : U64 lo) (h3 : U64 y) (hlt : hi < y) (h0 : 0 < hi) : Div64At hi lo y := by
  obtain ⟨h1a, h1b⟩ := h1
  obtain ⟨h2a, h2b⟩ := h2
  obtain ⟨h3a, h3b⟩ := h3
  obtain ⟨L, hL, hL1, hL2, ya, yb⟩ := len_bounds y (by omega) h3b
  obtain ⟨Ya, Yb⟩ := y_up y L hL1 hL2 ya yb
  have hp : (0 : Int) < 2 ^ (64 - L) := Int.pow_pos (by omega)
  have hs : 64 - (64 - L) = L := by omega
  obtain ⟨la, lb⟩ := lo_small lo L hL2 h2a h2b
  have lu := lo_up lo L hL2 h2a
  have hiY : hi * 2 ^ (64 - L) + 2 ^ (64 - L) ≤ y * 2 ^ (64 - L) := by
    have : (hi + 1) * 2 ^ (64 - L) ≤ y * 2 ^ (64 - L) := Int.mul_le_mul_of_nonneg_right (by omega) (Int.le_of_lt hp)
    rw [Int.add_mul, Int.one_mul] at this; exact this
  have hi0 : 0 ≤ hi * 2 ^ (64 - L) := Int.mul_nonneg h1a (Int.le_of_lt hp)
  have ll : lo / 2 ^ L < 18446744073709551616 := by
    have := Int.ediv_le_self (2 ^ L) h2a; omega
  have hor := or_add hi (lo / 2 ^ L) (64 - L) h1a la lb (by omega) ll
  have lnn := Int.emod_nonneg (lo * 2 ^ (64 - L)) (show (18446744073709551616 : Int) ≠ 0 by omega)
  have lnl := Int.emod_lt_of_pos (lo * 2 ^ (64 - L)) (show (0 : Int) < 18446744073709551616 by omega)
  have lne := Int.mul_ediv_add_emod (lo * 2 ^ (64 - L)) 18446744073709551616
  rw [lu] at lne
  have eT : sv hi lo * 2 ^ (64 - L) = (hi * 2 ^ (64 - L) + lo / 2 ^ L) * 18446744073709551616 + lo * 2 ^ (64 - L) % 18446744073709551616 := by
    unfold sv; rw [Int.add_mul, Int.add_mul, Int.mul_right_comm]; omega
  intro w
  have hY0 : bits BinOp.and IntKind.u64 (y * 2 ^ (64 - L)) 4294967295 = (y * 2 ^ (64 - L)) % 4294967296 := by
    obtain ⟨k, hk⟩ := Int.eq_ofNat_of_zero_le (show 0 ≤ y * 2 ^ (64 - L) by omega)
    rw [hk, Mul64.maskN k (by omega)]; simp
  have hN0 : bits BinOp.and IntKind.u64 (lo * 2 ^ (64 - L) % 18446744073709551616) 4294967295 = (lo * 2 ^ (64 - L) % 18446744073709551616) % 4294967296 := by
    obtain ⟨k, hk⟩ := Int.eq_ofNat_of_zero_le lnn
    rw [hk, Mul64.maskN k (by omega)]; simp
  have hwY : IntKind.u64.wrap (y * 2 ^ (64 - L)) = y * 2 ^ (64 - L) := w_id _ (by omega) Yb
  have hwU : bits BinOp.or IntKind.u64 (IntKind.u64.wrap (hi * 2 ^ (64 - L))) (lo / 2 ^ (64 - (64 - L))) = hi * 2 ^ (64 - L) + lo / 2 ^ L := by
    rw [hs, w_id _ hi0 (by omega)]; exact hor
  have hwN : IntKind.u64.wrap (lo * 2 ^ (64 - L)) = lo * 2 ^ (64 - L) % 18446744073709551616 := IntKind.wrap_u64 _
  have eY : sv hi lo / y = sv hi lo * 2 ^ (64 - L) / (y * 2 ^ (64 - L)) := by
    rw [Int.mul_comm, Int.mul_comm y, Int.mul_ediv_mul_of_pos _ _ hp]
  have eR : sv hi lo % y = sv hi lo * 2 ^ (64 - L) % (y * 2 ^ (64 - L)) / 2 ^ (64 - L) := by
    rw [Int.mul_comm, Int.mul_comm y, Int.mul_emod_mul_of_pos _ _ hp, Int.mul_ediv_cancel_left _ (by omega)]
  rw [eY, eR, eT]
  have hU0 : 0 ≤ hi * 2 ^ (64 - L) + lo / 2 ^ L := by omega
  have hU1 : hi * 2 ^ (64 - L) + lo / 2 ^ L < y * 2 ^ (64 - L) := by omega
  generalize hi * 2 ^ (64 - L) + lo / 2 ^ L = u at *
  generalize lo * 2 ^ (64 - L) % 18446744073709551616 = n at *
  generalize hYe : y * 2 ^ (64 - L) = Y at *
  obtain ⟨q1a, q1b⟩ := ki_qlt Y u (n / 4294967296) (by omega) hU0 hU1 (by omega) (by omega)
  obtain ⟨va, vb, ve⟩ := ki_left Y u (n / 4294967296) (by omega)
  generalize hV : u * 4294967296 + n / 4294967296 - (u * 4294967296 + n / 4294967296) / Y * Y = V at *
  obtain ⟨q0a, q0b⟩ := ki_qlt Y V (n % 4294967296) (by omega) va vb (by omega) (by omega)
  obtain ⟨ra, rb, re⟩ := ki_left Y V (n % 4294967296) (by omega)
  have hfin : u * 18446744073709551616 + n = Y * ((u * 4294967296 + n / 4294967296) / Y * 4294967296 + (V * 4294967296 + n % 4294967296) / Y) + (V * 4294967296 + n % 4294967296 - (V * 4294967296 + n % 4294967296) / Y * Y) := by
    rw [Int.mul_add, ← Int.mul_assoc, Int.mul_comm Y, Int.mul_comm Y]
    omega
  have fq : (u * 18446744073709551616 + n) / Y = (u * 4294967296 + n / 4294967296) / Y * 4294967296 + (V * 4294967296 + n % 4294967296) / Y := by
    rw [hfin, Int.add_comm, Int.add_mul_ediv_left _ _ (by omega), Int.ediv_eq_zero_of_lt ra rb, Int.zero_add]
  have fr : (u * 18446744073709551616 + n) % Y = V * 4294967296 + n % 4294967296 - (V * 4294967296 + n % 4294967296) / Y * Y := by
    rw [hfin, Int.add_comm, Int.add_mul_emod_self_left, Int.emod_eq_of_lt ra rb]
  rw [fq, fr]
  exact div64_walk hi lo y ⟨h1a, h1b⟩ ⟨h2a, h2b⟩ ⟨h3a, h3b⟩ hlt h0 L hL hL1 hL2 Y (Y / 4294967296) (Y % 4294967296) u n (n / 4294967296) (n % 4294967296) (by rw [hYe]; exact hwY) (ky_of Y Ya Yb) rfl hY0 Ya Yb hwU hU0 hU1 hwN rfl hN0 (by omega) (by omega) (by omega) (by omega)
    _ V _ _ rfl hV va vb rfl rfl ra rb q1a q1b q0a q0b w

theorem div64_any (hi lo y : Int) (h1 : U64 hi) (h2 : U64 lo) (h3 : U64 y) (hlt : hi < y) : Div64At hi lo y := by
  by_cases h0 : 0 < hi
  · exact div64_big hi lo y h1 h2 h3 hlt h0
  · have e : hi = 0 := by unfold U64 at h1; omega
    subst e
    intro w
    rw [show sv 0 lo = lo from by unfold sv; omega]
    exact div64_0 lo y h2 h3 hlt w
/-- Ratio, without a premise on Div64. -/
theorem ratio_full (hi lo n : Int) (h1 : I64 hi) (h2 : U64 lo) (hn : I64 n) (h0 : n ≠ 0) (w : World) :
    Calls Try.prog 9 #[.agg #[.int .i64 hi, .int .u64 lo], .int .i64 n] w fun e w' => e = .returned (.tuple #[.int .i64 (sm0 (quoI (sv hi lo) n)), sm1 (quoI (sv hi lo) n)]) ∧ Below w.heap.size w w' := by
  refine ratio_any hi lo n h1 h2 hn h0 (fun hov => ?_) w
  have ha := ab_le hi lo h1 h2
  have hb := ab_le1 n hn h0
  exact div64_any _ _ _ ⟨by unfold sH; omega, by unfold sH; omega⟩ (U64_sL _) ⟨by omega, by omega⟩ hov
end Go.Proofs.Ytnfpommplokemaa
