
import Derived.Test.YtjiiafmbneehhaaDoorTxA
import Derived.Test.YtjiiafmbneehhaaDoorShelf
import Derived.BigQuiet
import Derived.Handy
import Derived.ProofKit
namespace Go.Proofs.YtjiiafmbneehhaaDoor.Lx
open Go.RowKit Go.Shelf
set_option linter.unusedVariables false
set_option linter.unusedSimpArgs false
set_option maxRecDepth 100000
/-! ### bytes of a text -/
def bL (s : ByteArray) : List UInt8 := s.data.toList
theorem bL_len (s : ByteArray) : (bL s).length = s.size := by unfold bL; rw [Array.length_toList]; rfl
def ltN (n : Nat) : Bool := (decide (97 ≤ n) && decide (n ≤ 122)) || (decide (65 ≤ n) && decide (n ≤ 90)) || decide (n = 95)
def dN (n : Nat) : Bool := decide (48 ≤ n) && decide (n ≤ 57)
def bN (n : Nat) : Bool := decide (n = 32) || decide (n = 9) || decide (n = 10) || decide (n = 13)
theorem u8_dec (c : UInt8) (k : UInt8) : (c == k) = decide (c.toNat = k.toNat) := by
  by_cases h : c = k
  · subst h; simp
  · have : ¬ c.toNat = k.toNat := fun q => h (UInt8.toNat_inj.1 q)
    rw [decide_eq_false this, beq_eq_false_iff_ne.2 h]
theorem ltN_is (c : UInt8) : isLt c = ltN c.toNat := by unfold isLt ltN; rw [u8_dec]; rfl
theorem dN_is (c : UInt8) : isD c = dN c.toNat := rfl
theorem bN_is (c : UInt8) : isB c = bN c.toNat := by unfold isB bN; rw [u8_dec, u8_dec, u8_dec, u8_dec]; rfl
theorem letter_n (n : Nat) (w : World) : Calls Tryd.prog 14 #[.int .u8 (n : Int)] w fun e w' => e = .returned (.bool (ltN n)) ∧ w' = w := by
  obtain ⟨b, hb⟩ : ∃ b, ltN n = b := ⟨_, rfl⟩
  rw [hb]
  unfold ltN at hb
  by_cases h1 : (97 : Int) ≤ (n : Int) <;> by_cases h2 : (n : Int) ≤ 122 <;> by_cases h3 : (65 : Int) ≤ (n : Int) <;> by_cases h4 : (n : Int) ≤ 90 <;> by_cases h5 : (n : Int) = 95 <;> first
    | (exfalso; omega)
    | (have hv : b = true := by rw [← hb]; simp; omega
       subst hv
       clear hb
       go_enter Tryd.func14, Tryd.ntmps14
       go_wp2
       go_ret
       first | exact ⟨rfl, rfl⟩ | (refine ⟨?_, rfl⟩; simp [h1, h2]; done) | (refine ⟨?_, rfl⟩; simp [h1, h2, h3, h4]; done) | (refine ⟨?_, rfl⟩; simp [h1, h2, h3, h4, h5]; done))
    | (have hv : b = false := by rw [← hb]; simp; omega
       subst hv
       clear hb
       go_enter Tryd.func14, Tryd.ntmps14
       go_wp2
       go_ret
       first | exact ⟨rfl, rfl⟩ | (refine ⟨?_, rfl⟩; simp [h1, h2]; done) | (refine ⟨?_, rfl⟩; simp [h1, h2, h3, h4]; done) | (refine ⟨?_, rfl⟩; simp [h1, h2, h3, h4, h5]; done))
theorem digit_n (n : Nat) (w : World) : Calls Tryd.prog 16 #[.int .u8 (n : Int)] w fun e w' => e = .returned (.bool (dN n)) ∧ w' = w := by
  obtain ⟨b, hb⟩ : ∃ b, dN n = b := ⟨_, rfl⟩
  rw [hb]
  unfold dN at hb
  by_cases h1 : (48 : Int) ≤ (n : Int) <;> by_cases h2 : (n : Int) ≤ 57 <;> first
    | (exfalso; omega)
    | (have hv : b = true := by rw [← hb]; simp; omega
       subst hv
       clear hb
       go_enter Tryd.func16, Tryd.ntmps16
       go_wp2
       go_ret
       first | exact ⟨rfl, rfl⟩ | (refine ⟨?_, rfl⟩; simp [h1, h2]; done) | (refine ⟨?_, rfl⟩; simp [h1, h2, h3, h4]; done) | (refine ⟨?_, rfl⟩; simp [h1, h2, h3, h4, h5]; done))
    | (have hv : b = false := by rw [← hb]; simp; omega
       subst hv
       clear hb
       go_enter Tryd.func16, Tryd.ntmps16
       go_wp2
       go_ret
       first | exact ⟨rfl, rfl⟩ | (refine ⟨?_, rfl⟩; simp [h1, h2]; done) | (refine ⟨?_, rfl⟩; simp [h1, h2, h3, h4]; done) | (refine ⟨?_, rfl⟩; simp [h1, h2, h3, h4, h5]; done))
theorem blank_n (n : Nat) (w : World) : Calls Tryd.prog 10 #[.int .u8 (n : Int)] w fun e w' => e = .returned (.bool (bN n)) ∧ w' = w := by
  obtain ⟨b, hb⟩ : ∃ b, bN n = b := ⟨_, rfl⟩
  rw [hb]
  unfold bN at hb
  by_cases h1 : (n : Int) = 32 <;> by_cases h2 : (n : Int) = 9 <;> by_cases h3 : (n : Int) = 10 <;> by_cases h4 : (n : Int) = 13 <;> first
    | (exfalso; omega)
    | (have hv : b = true := by rw [← hb]; simp; omega
       subst hv
       clear hb
       go_enter Tryd.func10, Tryd.ntmps10
       go_wp2
       go_ret
       first | exact ⟨rfl, rfl⟩ | (refine ⟨?_, rfl⟩; simp [h1, h2]; done) | (refine ⟨?_, rfl⟩; simp [h1, h2, h3, h4]; done) | (refine ⟨?_, rfl⟩; simp [h1, h2, h3, h4, h5]; done))
    | (have hv : b = false := by rw [← hb]; simp; omega
       subst hv
       clear hb
       go_enter Tryd.func10, Tryd.ntmps10
       go_wp2
       go_ret
       first | exact ⟨rfl, rfl⟩ | (refine ⟨?_, rfl⟩; simp [h1, h2]; done) | (refine ⟨?_, rfl⟩; simp [h1, h2, h3, h4]; done) | (refine ⟨?_, rfl⟩; simp [h1, h2, h3, h4, h5]; done))
end Go.Proofs.YtjiiafmbneehhaaDoor.Lx
