
import Derived.Test.YtkpcndnefbaooaaDoorKyX
namespace Go.Proofs.YtkpcndnefbaooaaDoor
open Go.RowKit Go.Shelf
set_option linter.unusedVariables false
set_option linter.unusedSimpArgs false
theorem get_at (s : ByteArray) (k : Nat) (h : k < s.size) (x : UInt8) (hx : s.get! k = x) : s[k]'h = x := by rw [← hx]; exact (Utf8W.get!_of_lt s k h).symm
theorem ne_empty (s : ByteArray) (h : s.size ≠ 0) : s.toList.isEmpty = false := by
  rw [Lib.toList_data]
  cases h' : s.data.toList with
  | nil => exact absurd (by rw [Lib.size_eq, h']; rfl) h
  | cons _ _ => rfl
theorem is_empty (s : ByteArray) (h : s.size = 0) : s.toList.isEmpty = true := by
  rw [Lib.toList_data]
  rw [Lib.size_eq] at h
  rw [List.eq_nil_of_length_eq_zero h]; rfl
def WI (s : ByteArray) (n least k u R : Nat) : Prop := wT s n least (n - k) k u = R
def UB (k u : Nat) : Prop := (k = 1 ∧ u < 32) ∨ (k = 2 ∧ u < 2048) ∨ (k = 3 ∧ u < 131072) ∨ (k = 4 ∧ u < 8388608)
theorem UB.lt {k u : Nat} (h : UB k u) (h1 : 1 ≤ k) (h2 : k < 4) : u < 131072 := by unfold UB at h; omega
theorem UB.next {k u x : Nat} (h : UB k u) (h1 : 1 ≤ k) (h2 : k < 4) (hx : x < 64) : UB (k + 1) (u * 64 + x) := by unfold UB at *; omega
end Go.Proofs.YtkpcndnefbaooaaDoor
