
import Derived.Test.YtepgcgphnjlcoaaDoorSealAq
namespace Go.Proofs.YtepgcgphnjlcoaaDoor
/-! ### a sum tells a turned byte: its steps lose nothing -/
theorem step_zero (x : Nat) (h : x < 4294967296) (e : stepN x = 0) : x = 0 := by
  unfold stepN at e
  split at e
  · have h2 : x / 2 = 3988292384 := by
      have := congrArg (· ^^^ 3988292384) e
      simpa [Nat.xor_assoc] using this
    omega
  · omega
theorem step_inj (a b : Nat) (ha : a < 4294967296) (hb : b < 4294967296) (e : stepN a = stepN b) : a = b := by
  have h1 : stepN (a ^^^ b) = 0 := by rw [step_xor, e, Nat.xor_self]
  have h2 := step_zero (a ^^^ b) (xor_lt32 a b ha hb) h1
  have h3 : a ^^^ b ^^^ b = 0 ^^^ b := by rw [h2]
  rw [Nat.xor_assoc, Nat.xor_self, Nat.xor_zero, Nat.zero_xor] at h3
  exact h3
theorem step4_inj (a b : Nat) (ha : a < 4294967296) (hb : b < 4294967296) (e : step4 a = step4 b) : a = b := by
  unfold step4 at e
  have l : ∀ x, x < 4294967296 → stepN x < 4294967296 := step_lt
  exact step_inj _ _ ha hb (step_inj _ _ (l _ ha) (l _ hb) (step_inj _ _ (l _ (l _ ha)) (l _ (l _ hb)) (step_inj _ _ (l _ (l _ (l _ ha))) (l _ (l _ (l _ hb))) e)))
theorem step8_inj (a b : Nat) (ha : a < 4294967296) (hb : b < 4294967296) (e : step8 a = step8 b) : a = b :=
  step4_inj _ _ ha hb (step4_inj _ _ (step4_lt _ ha) (step4_lt _ hb) e)
theorem xor_right_inj (a b c : Nat) (e : a ^^^ c = b ^^^ c) : a = b := by
  have h : a ^^^ c ^^^ c = b ^^^ c ^^^ c := by rw [e]
  rw [Nat.xor_assoc, Nat.xor_self, Nat.xor_zero, Nat.xor_assoc, Nat.xor_self, Nat.xor_zero] at h
  exact h
theorem xor_left_inj (a b c : Nat) (e : c ^^^ a = c ^^^ b) : a = b := xor_right_inj a b c (by rw [Nat.xor_comm a, Nat.xor_comm b]; exact e)
theorem crcTo_congr (f g : Nat → Nat) (n : Nat) (h : ∀ i, i < n → f i = g i) : crcTo f n = crcTo g n := by
  induction n with
  | zero => rfl
  | succ k ih => simp only [crcTo]; rw [ih fun i hi => h i (by omega), h k (by omega)]
/-- of bytes that differ at one place alone the sums differ. -/
theorem crcTo_turned (f g : Nat → Nat) (i n : Nat) (hi : i < n) (hf : ∀ j, j < n → f j < 256) (hg : ∀ j, j < n → g j < 256) (hd : f i ≠ g i) (he : ∀ j, j < n → j ≠ i → f j = g j) : crcTo f n ≠ crcTo g n := by
  induction n with
  | zero => omega
  | succ k ih =>
    have lf := crcTo_lt f k fun j hj => hf j (by omega)
    have lg := crcTo_lt g k fun j hj => hg j (by omega)
    have hfk := hf k (by omega)
    have hgk := hg k (by omega)
    intro e
    have e1 := step8_inj _ _ (xor_lt32 _ _ lf (by omega)) (xor_lt32 _ _ lg (by omega)) e
    rcases Nat.lt_or_ge i k with h | h
    · rw [he k (by omega) (by omega)] at e1
      exact ih h (fun j hj => hf j (by omega)) (fun j hj => hg j (by omega)) (fun j hj hne => he j (by omega) hne) (xor_right_inj _ _ _ e1)
    · obtain rfl : i = k := by omega
      rw [crcTo_congr f g i fun j hj => he j (by omega) (by omega)] at e1
      exact hd (xor_left_inj _ _ _ e1)
end Go.Proofs.YtepgcgphnjlcoaaDoor
