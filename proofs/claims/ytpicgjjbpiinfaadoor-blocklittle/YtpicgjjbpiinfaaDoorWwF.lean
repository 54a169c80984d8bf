
import Derived.Test.YtpicgjjbpiinfaaDoorWwE
namespace Go.Proofs.YtpicgjjbpiinfaaDoor
open Go.RowKit
set_option linter.unusedVariables false
set_option linter.unusedSimpArgs false
theorem wrap64_range2 (n : Int) : -9223372036854775808 ≤ wrap64 n ∧ wrap64 n ≤ 9223372036854775807 := by unfold wrap64; omega
/-- what one thing that is written does. -/
def opOn (k : Int) (x : Nat) (bits : Int) (m : Nat) (bs : Nat → Nat) (s : List Nat × Nat) : List Nat × Nat :=
  if k = 0 then (s.1 ++ [x % 256], 0) else if k = 1 then (s.1 ++ be4 (x % 4294967296), 0) else if k = 2 then (s.1 ++ uB x, 0) else if k = 3 then (s.1 ++ uB (foldZ (wrap64 (x : Int))), 0)
  else if k = 4 ∨ k = 5 then (s.1 ++ (uB m ++ bytesL bs m), 0) else if k = 6 then bitsOn x (broughtN bits) s else s
theorem bitsOn_len (x : Nat) : ∀ (k : Nat) (s : List Nat × Nat), (bitsOn x k s).1.length ≤ s.1.length + k := by
  intro k
  induction k with
  | zero => intro s; exact Nat.le_refl _
  | succ k ih =>
    intro s
    have h1 := ih (bitOn (x / 2 ^ k % 2) s)
    have h2 : (bitOn (x / 2 ^ k % 2) s).1.length ≤ s.1.length + 1 := by
      unfold bitOn
      simp only
      split <;> split <;> simp
    show (bitsOn x k (bitOn (x / 2 ^ k % 2) s)).1.length ≤ _
    omega
/-- what both leave alone. -/
structure KP (N1 N2 : Nat) (v u : Value) (w w' : World) : Prop where
  size : w.heap.size ≤ w'.heap.size
  keep : ∀ k, k < w.heap.size → k ≠ N1 → k ≠ N2 → some k ≠ v.ownBlock → some k ≠ u.ownBlock → w'.heap[k]? = w.heap[k]?
end Go.Proofs.YtpicgjjbpiinfaaDoor
