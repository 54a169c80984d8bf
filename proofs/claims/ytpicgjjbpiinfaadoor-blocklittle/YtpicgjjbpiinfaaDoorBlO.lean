
import Derived.Test.YtpicgjjbpiinfaaDoorBlM
import Derived.Test.YtpicgjjbpiinfaaDoorBlF
namespace Go.Proofs.YtpicgjjbpiinfaaDoor
open Go.RowKit
set_option linter.unusedVariables false
set_option linter.unusedSimpArgs false
theorem aux_bound : ∀ (f x : Nat), x < 2 ^ f → x < 2 ^ Lib.bitLenAux f x ∧ (x ≠ 0 → 2 ^ (Lib.bitLenAux f x - 1) ≤ x ∧ 1 ≤ Lib.bitLenAux f x) := by
  intro f
  induction f with
  | zero => intro x h; simp at h; subst h; simp [Lib.bitLenAux]
  | succ f ih =>
    intro x h
    unfold Lib.bitLenAux
    split
    · rename_i h0; subst h0; simp
    · rename_i h0
      obtain ⟨i1, i2⟩ := ih (x / 2) (by rw [Nat.pow_succ] at h; omega)
      refine ⟨by rw [Nat.pow_add, Nat.pow_one]; omega, fun _ => ⟨?_, by omega⟩⟩
      rw [show 1 + Lib.bitLenAux f (x / 2) - 1 = Lib.bitLenAux f (x / 2) by omega]
      by_cases hx : x / 2 = 0
      · rw [hx]
        have : Lib.bitLenAux f 0 = 0 := by cases f <;> simp [Lib.bitLenAux]
        rw [this]; simp; omega
      · obtain ⟨j1, j2⟩ := i2 hx
        have e : 2 ^ Lib.bitLenAux f (x / 2) = 2 * 2 ^ (Lib.bitLenAux f (x / 2) - 1) := by rw [← Nat.pow_succ']; congr 1; omega
        omega
/-- where the loop of size ends. -/
theorem sizeN_of (x n : Nat) (hx : x < 18446744073709551616) (h1 : 1 ≤ n) (h64 : n ≤ 64) (hb : ∀ j, 1 ≤ j → j < n → 0 < x / 2 ^ j) (he : n = 64 ∨ x / 2 ^ n = 0) : n = sizeN x := by
  by_cases hx0 : x = 0
  · subst hx0
    have hn1 : n = 1 := by
      rcases Nat.lt_or_ge 1 n with h | h
      · have := hb 1 (by omega) h; simp at this
      · omega
    rw [hn1]
    have e : Lib.bitLen 0 = 0 := by unfold Lib.bitLen; simp [Lib.bitLenAux]
    unfold sizeN
    rw [e]
    rfl
  · have hle := (sizeN_le x).2
    unfold sizeN Lib.bitLen at hle ⊢
    obtain ⟨b1, b2⟩ := aux_bound 64 x (by omega)
    obtain ⟨b3, b4⟩ := b2 hx0
    generalize Lib.bitLenAux 64 x = L at *
    have hmax : max L 1 = L := by omega
    rw [hmax]
    rcases Nat.lt_trichotomy n L with h | h | h
    · exfalso
      rcases he with he | he
      · omega
      · have h2 : x < 2 ^ n := by
          rcases Nat.lt_or_ge x (2 ^ n) with h5 | h5
          · exact h5
          · have := Nat.div_pos h5 (Nat.two_pow_pos n); omega
        have h3 : 2 ^ n ≤ 2 ^ (L - 1) := Nat.pow_le_pow_right (by omega) (by omega)
        omega
    · exact h
    · exfalso
      have := hb L b4 h
      have h2 : x / 2 ^ L = 0 := Nat.div_eq_of_lt b1
      omega
set_option maxRecDepth 100000 in
set_option maxHeartbeats 2000000 in
theorem size_any (x : Nat) (hx : x < 18446744073709551616) (w : World) : Calls Tryd.prog 76 #[.int .u64 (x : Int)] w fun e w' => e = .returned (.int .i64 (sizeN x : Int)) ∧ w' = w := by
  go_enter Tryd.func76, Tryd.ntmps76
  go_wp2_with fail
  go_loopw [3] (fun i wr => ∃ n : Nat, 1 ≤ n ∧ n ≤ 64 ∧ i = .int .i64 (n : Int) ∧ wr = w ∧ ∀ j, 1 ≤ j → j < n → 0 < x / 2 ^ j) (fun i _ => 64 - (intOf i).toNat)
  case atStart => exact ⟨1, by omega, by omega, rfl, rfl, fun j h1 h2 => by omega⟩
  case round =>
    obtain ⟨n, h1, h64, rfl, hwr, hb⟩ := hrel
    have hw' := hwr
    subst hw'
    clear hwr
    have hbH : Hid _ := hb
    clear hb
    obtain ⟨Y, hY⟩ : ∃ Y, Y = x / 2 ^ n := ⟨_, rfl⟩
    have hYI : (x : Int) / 2 ^ n = (Y : Int) := by rw [hY]; simp
    have hYH : Hid (Y = x / 2 ^ n) := hY
    clear hY
    by_cases hn : n = 64
    · have hnI : ¬ (n : Int) < 64 := by omega
      have hres : Hid (n = sizeN x) := (sizeN_of x n hx h1 h64 hbH.out (Or.inl hn) : n = sizeN x)
      clear hn
      go_wp2_with fail
      go_ret
      exact ⟨congrArg (fun y : Nat => Ending.returned (Value.int .i64 (y : Int))) hres.out, rfl⟩
    · have hnI : (n : Int) < 64 := by omega
      by_cases hY0 : Y = 0
      · have hYn : ¬ (0 : Int) < (Y : Int) := by omega
        have hres : Hid (n = sizeN x) := (sizeN_of x n hx h1 h64 hbH.out (Or.inr (by rw [← hYH.out]; exact hY0)) : n = sizeN x)
        clear hY0 hn
        go_wp2_with fail
        go_ret
        exact ⟨congrArg (fun y : Nat => Ending.returned (Value.int .i64 (y : Int))) hres.out, rfl⟩
      · have hYn : (0 : Int) < (Y : Int) := by omega
        clear hn
        go_wp2_with fail
        go_roundw
        case rel => exact ⟨n + 1, by omega, by omega, by go_num, by simp, fun j g1 g2 => by
          rcases Nat.lt_or_ge j n with h3 | h3
          · exact hbH.out j g1 h3
          · obtain rfl : j = n := (by omega)
            rw [← hYH.out]; omega⟩
        case measure => simp [intOf]; omega
theorem bits_two (K : Nat) (hK : K = 1 ∨ K = 2) (s : List Nat × Nat) : bitsOn (K - 1) 1 (bitsOn 3 2 s) = (if K = 1 then bitsOn 6 3 s else bitsOn 7 3 s) := by
  rcases hK with rfl | rfl <;> simp [bitsOn]
def IsE (K : Nat) (X : Int) (e : Ending) : Prop := ∃ r, e = .returned (.bool r) ∧ (r = true ↔ isV K X)
theorem isvalue_any (K : Nat) (X : Int) (w : World) : Calls Tryd.prog 73 #[.agg #[.int .u8 (K : Int), .int .i64 X]] w fun e w' => IsE K X e ∧ Below w.heap.size w w' := by
  have hB := below_new (Below.refl _ w) (.cells #[.int .u8 (K : Int), .int .i64 X] 26)
  by_cases h2 : 2 < K
  · have hI : ¬ (K : Int) ≤ 2 := by omega
    go_enter Tryd.func73, Tryd.ntmps73
    go_wp2_with fail
    go_ret
    exact ⟨⟨false, rfl, (fun h => by cases h), fun h => by have := h.1; omega⟩, hB⟩
  · have hI : (K : Int) ≤ 2 := by omega
    by_cases h0 : K = 0
    · subst h0
      simp only [show ((0 : Nat) : Int) = 0 from rfl] at hB hI ⊢
      go_enter Tryd.func73, Tryd.ntmps73
      go_wp2_with fail
      go_ret
      exact ⟨⟨true, rfl, fun _ => ⟨by omega, Or.inl rfl⟩, fun _ => rfl⟩, hB⟩
    · have hI0 : ¬ (K : Int) = 0 := by omega
      by_cases hx : X = 0
      · subst hx
        go_enter Tryd.func73, Tryd.ntmps73
        go_wp2_with fail
        all_goals first
          | (exfalso; omega)
          | (go_ret; refine ⟨⟨true, by simp, fun _ => ⟨by omega, Or.inr rfl⟩, fun _ => rfl⟩, hB⟩)
      · go_enter Tryd.func73, Tryd.ntmps73
        go_wp2_with fail
        all_goals first
          | (exfalso; omega)
          | (go_ret; refine ⟨⟨false, by simp [hI0, hx, h0], (fun h => by cases h), fun h => by have := h.2; omega⟩, hB⟩)
end Go.Proofs.YtpicgjjbpiinfaaDoor
