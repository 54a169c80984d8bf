
import Derived.Test.YtepgcgphnjlcoaaDoorRwDq
import Derived.Test.YtepgcgphnjlcoaaDoorBtAq
import Derived.Laws.DeepNot64
namespace Go.Proofs.YtepgcgphnjlcoaaDoor
open Go.RowKit
set_option linter.unusedVariables false
set_option linter.unusedSimpArgs false
/-- d bits from the bit number q on. -/
def rdB (bs : Nat → Nat) (q : Nat) : Nat → Nat
  | 0 => 0
  | d + 1 => 2 * rdB bs q d + bs ((q + d) / 8) / 2 ^ (7 - (q + d) % 8) % 2
theorem rdB_lt (bs : Nat → Nat) (q d : Nat) : rdB bs q d < 2 ^ d := by
  induction d with
  | zero => simp [rdB]
  | succ d ih => have : bs ((q + d) / 8) / 2 ^ (7 - (q + d) % 8) % 2 < 2 := Nat.mod_lt _ (by omega); simp only [rdB, Nat.pow_succ]; omega
theorem rdB_chunk (bs : Nat → Nat) (q d p r : Nat) (hp : 0 < p) (hr : r ≤ 8) (hpos : q + d + r = 8 * p) : ∀ now, now ≤ r → rdB bs q (d + now) = rdB bs q d * 2 ^ now + bs (p - 1) / 2 ^ (r - now) % 2 ^ now := by
  intro now
  induction now with
  | zero => intro _; simp [Nat.mod_one]
  | succ now ih =>
    intro h
    have e1 : (q + (d + now)) / 8 = p - 1 := by omega
    have e2 : 7 - (q + (d + now)) % 8 = r - (now + 1) := by omega
    rw [← Nat.add_assoc]
    simp only [rdB]
    rw [ih (by omega), e1, e2]
    have e3 : bs (p - 1) / 2 ^ (r - now) = bs (p - 1) / 2 ^ (r - (now + 1)) / 2 := by
      rw [Nat.div_div_eq_div_mul, ← Nat.pow_succ]; congr 2; omega
    rw [e3]
    generalize bs (p - 1) / 2 ^ (r - (now + 1)) = B
    have e4 : B % 2 ^ (now + 1) = 2 * (B / 2 % 2 ^ now) + B % 2 := by
      rw [Nat.pow_succ, Nat.mul_comm (2 ^ now) 2, Nat.mod_mul]; omega
    rw [e4, Nat.pow_succ, Nat.mul_add, ← Nat.mul_assoc, Nat.mul_comm 2 (rdB bs q d), Nat.mul_assoc, Nat.mul_comm 2 (2 ^ now)]
    omega
/-- what was written as bits is read. -/
theorem rdB_of (bs : Nat → Nat) (q x c : Nat) (h : ∀ j, j < c → bs ((q + j) / 8) / 2 ^ (7 - (q + j) % 8) % 2 = x / 2 ^ (c - 1 - j) % 2) : rdB bs q c = x % 2 ^ c := by
  have key : ∀ d, d ≤ c → rdB bs q d = x / 2 ^ (c - d) % 2 ^ d := by
    intro d
    induction d with
    | zero => intro _; simp [rdB, Nat.mod_one]
    | succ d ih =>
      intro hd
      simp only [rdB]
      rw [ih (by omega), h d (by omega), show c - 1 - d = c - (d + 1) by omega]
      have e3 : x / 2 ^ (c - d) = x / 2 ^ (c - (d + 1)) / 2 := by
        rw [Nat.div_div_eq_div_mul, ← Nat.pow_succ]; congr 2; omega
      rw [e3]
      generalize x / 2 ^ (c - (d + 1)) = B
      rw [Nat.pow_succ, Nat.mul_comm (2 ^ d) 2, Nat.mod_mul]; omega
  have := key c (Nat.le_refl _)
  rw [Nat.sub_self, Nat.pow_zero, Nat.div_one] at this
  exact this
theorem i64_xor_m1 (a : Nat) (ha : a < 9223372036854775808) : bits .xor .i64 (a : Int) (-1) = -1 - (a : Int) := by
  show IntKind.i64.wrap ((BitVec.ofInt 64 (a : Int) ^^^ BitVec.ofInt 64 (-1)).toNat : Int) = _
  have h1 : BitVec.ofInt 64 (-1) = BitVec.allOnes 64 := by decide
  rw [h1, BitVec.xor_allOnes, BitVec.toNat_not, ofInt_u64 a (by omega)]
  simp [IntKind.wrap, IntKind.bits, IntKind.signed]
  omega
theorem i64_xor_0 (a : Nat) (ha : a < 9223372036854775808) : bits .xor .i64 (a : Int) 0 = (a : Int) := by
  show IntKind.i64.wrap ((BitVec.ofInt 64 (a : Int) ^^^ BitVec.ofInt 64 0).toNat : Int) = _
  have h1 : BitVec.ofInt 64 0 = 0#64 := by decide
  rw [h1, BitVec.xor_zero, ofInt_u64 a (by omega)]
  exact IntWalk.i64_in _ (by omega)
theorem unfold_xor (z : Int) (hz : -9223372036854775808 ≤ z ∧ z ≤ 9223372036854775807) :
    bits .xor .i64 (wrap64 ((foldZ z : Int) / 2)) (wrap64 (-wrap64 (bits .and .u64 (foldZ z : Int) 1))) = z := by
  have hf := foldZ_lt z hz
  have ha : bits .and .u64 (foldZ z : Int) 1 = ((foldZ z % 2 : Nat) : Int) := by
    have h := u64_and_nat (foldZ z) 1 hf (by omega)
    rw [Nat.and_one_is_mod] at h; exact h
  rw [ha]
  by_cases h : 0 ≤ z
  · have e : foldZ z = (2 * z).toNat := by unfold foldZ; rw [if_pos h]
    have e1 : wrap64 ((foldZ z : Int) / 2) = ((z.toNat : Nat) : Int) := by rw [e]; unfold wrap64; omega
    have e2 : wrap64 (-wrap64 ((foldZ z % 2 : Nat) : Int)) = 0 := by rw [e]; unfold wrap64; omega
    rw [e1, e2, i64_xor_0 _ (by omega)]; omega
  · have e : foldZ z = (-2 * z - 1).toNat := by unfold foldZ; rw [if_neg h]
    have e1 : wrap64 ((foldZ z : Int) / 2) = (((-z - 1).toNat : Nat) : Int) := by rw [e]; unfold wrap64; omega
    have e2 : wrap64 (-wrap64 ((foldZ z % 2 : Nat) : Int)) = -1 := by rw [e]; unfold wrap64; omega
    rw [e1, e2, i64_xor_m1 _ (by omega)]; omega
section
variable {N : Nat} {w1 : World} {a : Option Addr} {n cap p r : Nat} {bs : Nat → Nat} {w : World}
end
end Go.Proofs.YtepgcgphnjlcoaaDoor
