
import Derived.Test.YtkpcndnefbaooaaDoorKyY
import Derived.Test.YtkpcndnefbaooaaDoorKyE
namespace Go.Proofs.YtkpcndnefbaooaaDoor
open Go.RowKit Go.Shelf
set_option linter.unusedVariables false
set_option linter.unusedSimpArgs false
def GI (s : ByteArray) (i : Nat) (R : Bool) : Prop := ∃ f, s.size ≤ i + f ∧ goR s f i = R
theorem goR_done (s : ByteArray) (f i : Nat) (h : ¬ i < s.size) : goR s f i = true := by cases f <;> simp [goR, h]
theorem GI.done {s : ByteArray} {i : Nat} {R : Bool} (h : GI s i R) (hi : ¬ i < s.size) : R = true := by obtain ⟨f, _, rfl⟩ := h; exact goR_done s f i hi
theorem GI.step {s : ByteArray} {i : Nat} {R : Bool} (h : GI s i R) (hi : i < s.size) :
    (wideB (s.extract i s.size) = 0 ∨ (s.get! i).toNat < 32 ∨ (s.get! i).toNat = 127) ∧ R = false ∨ ¬ (wideB (s.extract i s.size) = 0 ∨ (s.get! i).toNat < 32 ∨ (s.get! i).toNat = 127) ∧ GI s (i + wideB (s.extract i s.size)) R := by
  obtain ⟨f, hf, rfl⟩ := h
  cases f with
  | zero => omega
  | succ f =>
    by_cases hc : wideB (s.extract i s.size) = 0 ∨ (s.get! i).toNat < 32 ∨ (s.get! i).toNat = 127
    · refine Or.inl ⟨hc, ?_⟩
      unfold goR; rw [if_pos hi, if_pos hc]
    · refine Or.inr ⟨hc, f, by omega, ?_⟩
      conv => rhs; unfold goR
      rw [if_pos hi, if_neg hc]
theorem dec_le (n b0 b1 b2 b3 : Nat) (hn : 1 ≤ n) : (Lib.decodeN n b0 b1 b2 b3).2 ≤ 4 ∧ (Lib.decodeN n b0 b1 b2 b3).2 ≤ n := by
  generalize hd : Lib.decodeN n b0 b1 b2 b3 = d
  unfold Lib.decodeN at hd
  (repeat' split at hd) <;> subst hd <;> simp only <;> omega
theorem wide_le (s : ByteArray) : wideB s ≤ 4 ∧ wideB s ≤ s.size := by
  by_cases h : s.size = 0
  · unfold wideB; rw [if_pos h]; omega
  · have hb : ∀ j, (s.get! j).toNat < 256 := fun j => UInt8.toNat_lt _
    have := dec_le s.size (s.get! 0).toNat (s.get! 1).toNat (s.get! 2).toNat (s.get! 3).toNat (by omega)
    rw [wideB_N s h, wideN_dec _ _ _ _ _ (by omega) (hb _) (hb _) (hb _) (hb _)]
    split <;> omega
end Go.Proofs.YtkpcndnefbaooaaDoor
