
import Derived.Test.YtpicgjjbpiinfaaDoorCrcM
import Derived.LoopTactic
import Derived.Below
namespace Go.Proofs.YtpicgjjbpiinfaaDoor
open Go.RowKit
set_option linter.unusedVariables false
set_option linter.unusedSimpArgs false
/-- bytes that lie in a row. -/
def BytesAt (w : World) (b off len : Nat) (bs : Nat → Nat) : Prop := ∀ i, i < len → w.cell? ⟨b, off + i, none⟩ = some (.int .u8 (bs i)) ∧ bs i < 256
def crcTo (bs : Nat → Nat) : Nat → Nat
  | 0 => 4294967295
  | k + 1 => step8 (crcTo bs k ^^^ bs k)
theorem step4_lt (c : Nat) (h : c < 4294967296) : step4 c < 4294967296 := by
  unfold step4; exact step_lt _ (step_lt _ (step_lt _ (step_lt _ h)))
theorem xor_lt32 (a b : Nat) (ha : a < 4294967296) (hb : b < 4294967296) : a ^^^ b < 4294967296 := Nat.xor_lt_two_pow (n := 32) ha hb
theorem and15 (c : Nat) (h : c < 4294967296) : bits .and .u32 (c : Int) 15 = ((c % 16 : Nat) : Int) := by
  have := u32_and_nat c 15 h (by omega)
  rw [Nat.and_two_pow_sub_one_eq_mod c 4] at this
  exact this
theorem four_xor (c : Nat) (h : c < 4294967296) : bits .xor .u32 ((c : Int) / 16) ((tabN (c % 16) : Nat) : Int) = ((step4 c : Nat) : Int) := by
  have := u32_xor_nat (c / 16) (tabN (c % 16)) (by omega) (tabN_lt _ (by omega))
  rw [four_steps] at this
  exact this
theorem mod2 (c : Nat) : ((c : Int) % 2 == 1) = decide (c % 2 = 1) := by
  rcases Nat.mod_two_eq_zero_or_one c with h | h
  · have : (c : Int) % 2 = 0 := by omega
    rw [this, h]; rfl
  · have : (c : Int) % 2 = 1 := by omega
    rw [this, h]; rfl
def stepTo (c : Nat) : Nat → Nat
  | 0 => c
  | k + 1 => stepN (stepTo c k)
theorem stepTo_lt (c : Nat) (h : c < 4294967296) (k : Nat) : stepTo c k < 4294967296 := by
  induction k with
  | zero => exact h
  | succ k ih => exact step_lt _ ih
theorem stepTo_8 (c : Nat) : stepTo c 8 = step8 c := rfl
end Go.Proofs.YtpicgjjbpiinfaaDoor
