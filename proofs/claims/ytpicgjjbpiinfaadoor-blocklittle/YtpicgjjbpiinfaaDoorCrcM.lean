
import Derived.Test.YtpicgjjbpiinfaaDoorProg
import Derived.WalkKit
import Derived.Laws.BitsAllLaws
namespace Go.Proofs.YtpicgjjbpiinfaaDoor
/-! ### the sum's steps -/
def stepN (c : Nat) : Nat := if c % 2 = 1 then c / 2 ^^^ 3988292384 else c / 2
def tabN (i : Nat) : Nat := [0, 498536548, 997073096, 651767980, 1994146192, 1802195444, 1303535960, 1342533948, 3988292384, 4027552580, 3604390888, 3412177804, 2607071920, 2262029012, 2685067896, 3183342108].getD i 0
theorem step_xor (a b : Nat) : stepN (a ^^^ b) = stepN a ^^^ stepN b := by
  have h1 : (a ^^^ b) / 2 = a / 2 ^^^ b / 2 := Nat.xor_div_two
  have h2 : (a ^^^ b) % 2 = (a + b) % 2 := by
    have t : (a ^^^ b).testBit 0 = (a.testBit 0 ^^ b.testBit 0) := Nat.testBit_xor ..
    rw [Nat.testBit_zero, Nat.testBit_zero, Nat.testBit_zero] at t
    rcases Nat.mod_two_eq_zero_or_one a with ha | ha <;> rcases Nat.mod_two_eq_zero_or_one b with hb | hb <;> rcases Nat.mod_two_eq_zero_or_one (a ^^^ b) with hc | hc <;> rw [ha, hb, hc] at t <;> first | (exfalso; revert t; decide) | omega
  unfold stepN
  rw [h1, h2]
  rcases Nat.mod_two_eq_zero_or_one a with ha | ha <;> rcases Nat.mod_two_eq_zero_or_one b with hb | hb
  · rw [if_neg (by omega), if_neg (by omega), if_neg (by omega)]
  · rw [if_pos (by omega), if_neg (by omega), if_pos hb, Nat.xor_assoc]
  · rw [if_pos (by omega), if_pos ha, if_neg (by omega), Nat.xor_assoc, Nat.xor_assoc, Nat.xor_comm (b / 2)]
  · rw [if_neg (by omega), if_pos ha, if_pos hb, Nat.xor_assoc, ← Nat.xor_assoc 3988292384, Nat.xor_comm 3988292384, Nat.xor_assoc (b/2), Nat.xor_self, Nat.xor_zero]
def step4 (c : Nat) : Nat := stepN (stepN (stepN (stepN c)))
theorem step4_xor (a b : Nat) : step4 (a ^^^ b) = step4 a ^^^ step4 b := by
  unfold step4; rw [step_xor, step_xor, step_xor, step_xor]
theorem step_even (h : Nat) : stepN (2 * h) = h := by unfold stepN; rw [if_neg (by omega)]; omega
theorem step4_high (h : Nat) : step4 (16 * h) = h := by
  unfold step4
  rw [show 16 * h = 2 * (2 * (2 * (2 * h))) by omega, step_even, step_even, step_even, step_even]
theorem step4_low : ∀ l, l < 16 → step4 l = tabN l := by decide
theorem split16 (c : Nat) : c = 16 * (c / 16) ^^^ c % 16 := by
  apply Nat.eq_of_testBit_eq
  intro i
  rw [Nat.testBit_xor, show (16 : Nat) = 2 ^ 4 from rfl, Nat.testBit_mod_two_pow, Nat.mul_comm, Nat.testBit_mul_two_pow]
  by_cases h : i < 4
  · have h' : ¬ 4 ≤ i := by omega
    simp [h, h']
  · have h' : 4 ≤ i := by omega
    rw [Nat.testBit_div_two_pow]
    simp [h, h', Nat.sub_add_cancel h']
theorem four_steps (c : Nat) : c / 16 ^^^ tabN (c % 16) = step4 c := by
  conv => rhs; rw [split16 c]
  rw [step4_xor, step4_high, step4_low _ (by omega)]
theorem tabN_lt (i : Nat) (h : i < 16) : tabN i < 4294967296 := by
  have : ∀ i, i < 16 → tabN i < 4294967296 := by decide
  exact this i h
theorem step_lt (c : Nat) (h : c < 4294967296) : stepN c < 4294967296 := by
  unfold stepN; split
  · exact Nat.xor_lt_two_pow (n := 32) (by omega) (by omega)
  · omega
def step8 (c : Nat) : Nat := step4 (step4 c)
def crcN : List Nat → Nat → Nat
  | [], c => c
  | x :: l, c => crcN l (step8 (c ^^^ x))
set_option maxRecDepth 10000 in
theorem crc_known : crcN [49, 50, 51, 52, 53, 54, 55, 56, 57] 4294967295 ^^^ 4294967295 = 3421780262 := by decide +kernel
end Go.Proofs.YtpicgjjbpiinfaaDoor
