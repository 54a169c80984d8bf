
import Derived.Test.YtnfpommplokemaaDoorDecQ
import Derived.LoopTactic
import Derived.Laws.BitsAllLaws
namespace Go.Proofs.YtnfpommplokemaaDoor
open Go.RowKit
set_option linter.unusedVariables false
set_option linter.unusedSimpArgs false
theorem and_one (x : Nat) (h : x < 18446744073709551616) : bits .and .u64 (x : Int) 1 = ((x % 2 : Nat) : Int) := by
  have h1 := u64_and_nat x 1 h (by omega)
  rw [Nat.and_one_is_mod] at h1
  exact h1
theorem or_bit (x b : Nat) (h : 2 * x < 18446744073709551616) (hb : b < 2) : bits .or .u64 ((2 * x : Nat) : Int) (b : Int) = ((2 * x + b : Nat) : Int) := by
  have h1 := u64_or_nat (2 * x) b h (by omega)
  have h2 := Nat.two_pow_add_eq_or_of_lt (i := 1) (b := b) (by omega) x
  rw [h1]
  rw [show 2 ^ 1 * x = 2 * x by omega] at h2
  rw [h2]
theorem bit_hi (hi lo i : Nat) (hl : lo < 18446744073709551616) (h : 63 < i) : (hi * 18446744073709551616 + lo) / 2 ^ i % 2 = hi / 2 ^ (i - 64) % 2 := by
  have e : 2 ^ i = 18446744073709551616 * 2 ^ (i - 64) := by
    rw [show (18446744073709551616 : Nat) = 2 ^ 64 by decide, ← Nat.pow_add]; congr 1; omega
  rw [e, ← Nat.div_div_eq_div_mul]
  congr 2
  omega
theorem bit_lo (hi lo i : Nat) (h : i ≤ 63) : (hi * 18446744073709551616 + lo) / 2 ^ i % 2 = lo / 2 ^ i % 2 := by
  have e1 : (18446744073709551616 : Nat) = 2 ^ (63 - i) * 2 * 2 ^ i := by
    rw [← Nat.pow_succ, ← Nat.pow_add, show 63 - i + 1 + i = 64 by omega]
  have e : hi * 18446744073709551616 + lo = lo + (hi * 2 ^ (63 - i) * 2) * 2 ^ i := by
    rw [e1, Nat.add_comm, Nat.mul_assoc, Nat.mul_assoc, Nat.mul_assoc]
  rw [e, Nat.add_mul_div_right _ _ (Nat.two_pow_pos i)]
  omega
/-- a division, one bit more: what is left, and the quotient. -/
theorem div_step (A n b : Nat) (hn : 0 < n) (hb : b < 2) :
    (2 * A + b) / n = (if n ≤ 2 * (A % n) + b then 2 * (A / n) + 1 else 2 * (A / n)) ∧ (2 * A + b) % n = (if n ≤ 2 * (A % n) + b then 2 * (A % n) + b - n else 2 * (A % n) + b) := by
  have h1 := Nat.div_add_mod A n
  have h2 := Nat.mod_lt A hn
  obtain ⟨q, hq⟩ : ∃ q, q = A / n := ⟨_, rfl⟩
  obtain ⟨r, hr⟩ : ∃ r, r = A % n := ⟨_, rfl⟩
  rw [← hq, ← hr] at h1
  rw [← hr] at h2
  rw [← hq, ← hr]
  have h3 : 2 * A + b = (2 * r + b) + n * (2 * q) := by rw [← h1, Nat.mul_left_comm]; omega
  rw [h3, Nat.add_mul_div_left _ _ hn, Nat.add_mul_mod_self_left]
  split
  · next h =>
    have e1 : (2 * r + b) / n = 1 := by
      rw [Nat.div_eq_of_lt_le (k := 1)] <;> omega
    have e2 : (2 * r + b) % n = 2 * r + b - n := by
      rw [Nat.mod_eq_sub_mod h, Nat.mod_eq_of_lt (by omega)]
    rw [e1, e2]; exact ⟨by omega, rfl⟩
  · next h =>
    rw [Nat.div_eq_of_lt (by omega), Nat.mod_eq_of_lt (by omega)]; exact ⟨by omega, rfl⟩
theorem shr_one (N i : Nat) : N / 2 ^ i = 2 * (N / 2 ^ (i + 1)) + N / 2 ^ i % 2 := by
  have h : N / 2 ^ (i + 1) = N / 2 ^ i / 2 := by rw [Nat.pow_succ, Nat.div_div_eq_div_mul]
  rw [h]; omega
set_option maxRecDepth 100000 in
set_option maxHeartbeats 4000000 in
theorem divided_any (hi lo n : Nat) (h1 : hi < 18446744073709551616) (h2 : lo < 18446744073709551616) (hn : 0 < n) (hn2 : n ≤ 9223372036854775808) (N : Nat) (hN : N = hi * 18446744073709551616 + lo) (w : World) :
    Calls Tryd.prog 33 #[.int .u64 (hi : Int), .int .u64 (lo : Int), .int .u64 (n : Int)] w fun e w' => e = .returned (.tuple #[.int .u64 ((N / n / 18446744073709551616 : Nat) : Int), .int .u64 ((N / n % 18446744073709551616 : Nat) : Int), .int .u64 ((N % n : Nat) : Int)]) ∧ w' = w := by
  have hN128 : N / 2 ^ 128 = 0 := by rw [Nat.div_eq_zero_iff]; right; omega
  have hNH : Hid _ := hN
  clear hN
  go_enter Tryd.func33, Tryd.ntmps33
  go_wp2_with fail
  go_loopw [9, 10, 11, 12] (fun a b c d wx => ∃ t : Nat, d = .int .i64 ((t : Int) - 1) ∧ t ≤ 128 ∧ a = .int .u64 ((N / 2 ^ t / n / 18446744073709551616 : Nat) : Int) ∧ b = .int .u64 ((N / 2 ^ t / n % 18446744073709551616 : Nat) : Int) ∧ c = .int .u64 ((N / 2 ^ t % n : Nat) : Int) ∧ wx = w) (fun _ _ _ d _ => (intOf d + 1).toNat)
  case atStart => exact ⟨128, rfl, by omega, by rw [hN128]; simp, by rw [hN128]; simp, by rw [hN128]; simp, rfl⟩
  case round =>
    obtain ⟨t, rfl, ht, rfl, rfl, rfl, rfl⟩ := hrel
    rcases t with _ | i
    · rw [Nat.pow_zero, Nat.div_one]
      go_wp2_with fail
      go_ret3
      exact ⟨rfl, rfl⟩
    · have hiE : ((i + 1 : Nat) : Int) - 1 = (i : Int) := by omega
      rw [hiE]
      obtain ⟨A, hA⟩ : ∃ A, A = N / 2 ^ (i + 1) := ⟨_, rfl⟩
      rw [← hA]
      obtain ⟨q, hq⟩ : ∃ q, q = A / n := ⟨_, rfl⟩
      obtain ⟨r, hr⟩ : ∃ r, r = A % n := ⟨_, rfl⟩
      rw [← hq, ← hr]
      have hrn : r < n := by rw [hr]; exact Nat.mod_lt _ hn
      obtain ⟨qh, hqh⟩ : ∃ qh, qh = q / 18446744073709551616 := ⟨_, rfl⟩
      obtain ⟨ql, hql⟩ : ∃ ql, ql = q % 18446744073709551616 := ⟨_, rfl⟩
      rw [← hqh, ← hql]
      have i0 : (0 : Int) ≤ (i : Int) := by omega
      have hi127 : i ≤ 127 := by omega
      have hA127 : A < 170141183460469231731687303715884105728 := by
        have h3 := shr_one N i
        have h4 : N / 2 ^ (i + 1) ≤ N / 2 ^ 1 := Nat.div_le_div_left (Nat.pow_le_pow_right (by omega) (by omega)) (by omega)
        have := hNH.out
        rw [hA]; omega
      have hqA : q ≤ A := by rw [hq]; exact Nat.div_le_self _ _
      obtain ⟨bt, hbt⟩ : ∃ bt, bt = N / 2 ^ i % 2 := ⟨_, rfl⟩
      have hb2 : bt < 2 := by omega
      obtain ⟨L, hL⟩ : ∃ L, L = 2 * r + bt := ⟨_, rfl⟩
      obtain ⟨Qh, hQh⟩ : ∃ Qh, Qh = 2 * qh + ql / 9223372036854775808 := ⟨_, rfl⟩
      obtain ⟨Ql, hQl⟩ : ∃ Ql, Ql = 2 * ql % 18446744073709551616 := ⟨_, rfl⟩
      have hNA : N / 2 ^ i = 2 * A + bt := by rw [hA, hbt]; exact shr_one N i
      have el : bits .or .u64 ((r : Int) * 2) (bt : Int) = (L : Int) := by
        have := or_bit r bt (by omega) hb2
        rw [hL, ← this]; congr 1; omega
      have eqh : bits .or .u64 (IntKind.u64.wrap ((qh : Int) * 2)) ((ql : Int) / 9223372036854775808) = (Qh : Int) := by
        have := or_bit qh (ql / 9223372036854775808) (by omega) (by omega)
        rw [hQh, ← this]; congr 1; rw [IntKind.wrap_u64]; omega
      have eql : IntKind.u64.wrap ((ql : Int) * 2) = (Ql : Int) := by rw [IntKind.wrap_u64, hQl]; omega
      have eor : bits .or .u64 (Ql : Int) 1 = ((Ql + 1 : Nat) : Int) := by
        have := or_bit (Ql / 2) 1 (by omega) (by omega)
        rw [show 2 * (Ql / 2) = Ql by omega] at this; exact this
      have hF : Hid (N / 2 ^ i = 2 * A + bt ∧ q = A / n ∧ r = A % n ∧ qh = q / 18446744073709551616 ∧ L = 2 * r + bt ∧ bt < 2 ∧ Qh = 2 * qh + ql / 9223372036854775808 ∧ Ql = 2 * ql % 18446744073709551616 ∧ ql = q % 18446744073709551616) := ⟨hNA, hq, hr, hqh, hL, hb2, hQh, hQl, hql⟩
      have hLlt : L < 18446744073709551616 := by omega
      clear hNA hL hQh hQl hqA hA127
      by_cases h63 : 63 < i
      · obtain ⟨j, rfl⟩ : ∃ j, i = j + 64 := ⟨i - 64, by omega⟩
        have h63I : (63 : Int) < ((j + 64 : Nat) : Int) := by omega
        have eb : bits .and .u64 ((hi : Int) / 2 ^ j) 1 = (bt : Int) := by
          have h3 := bit_hi hi lo (j + 64) h2 h63
          rw [← hNH.out, ← hbt, Nat.add_sub_cancel] at h3
          have h4 := and_one (hi / 2 ^ j) (by have := Nat.div_le_self hi (2 ^ j); omega)
          rw [← h3] at h4
          rw [← h4]; congr 1 <;> simp
        have j0 : (0 : Int) ≤ (j : Int) := by omega
        have hbtH : Hid _ := hbt
        clear hbt hA hq hr hqh hql h63
        by_cases hge : n ≤ L
        · have hgeI : (n : Int) ≤ (L : Int) := by omega
          have esub : IntKind.u64.wrap ((L : Int) - (n : Int)) = ((L - n : Nat) : Int) := by rw [IntKind.wrap_u64]; have := hF.out; omega
          have esub2 : ((L : Int) - (n : Int)) % 18446744073709551616 = ((L - n : Nat) : Int) := by have := hF.out; omega
          obtain ⟨Ln, hLn⟩ : ∃ Ln, Ln = L - n := ⟨_, rfl⟩
          rw [← hLn] at esub esub2
          have hLnH : Hid _ := hLn
          clear hLn
          go_wp2_with fail
          go_roundw
          case rel =>
            obtain ⟨f1, f2, f3, f4, f5, f6, f7, f8, f9⟩ := hF.out
            have hd := div_step A n bt hn f6
            rw [← f2, ← f3, ← f5] at hd
            rw [if_pos hge, if_pos hge] at hd
            refine ⟨j + 64, rfl, by omega, ?_, ?_, ?_, trivial⟩
            · rw [f1, hd.1]; congr 2; omega
            · rw [f1, hd.1]; congr 2; omega
            · rw [f1, hd.2, hLnH.out]
          case measure => simp [intOf] <;> omega
        · have hgeI : ¬ (n : Int) ≤ (L : Int) := by omega
          go_wp2_with fail
          go_roundw
          case rel =>
            obtain ⟨f1, f2, f3, f4, f5, f6, f7, f8, f9⟩ := hF.out
            have hd := div_step A n bt hn f6
            rw [← f2, ← f3, ← f5] at hd
            rw [if_neg hge, if_neg hge] at hd
            refine ⟨j + 64, rfl, by omega, ?_, ?_, ?_, trivial⟩
            · rw [f1, hd.1]; congr 2; omega
            · rw [f1, hd.1]; congr 2; omega
            · rw [f1, hd.2]
          case measure => simp [intOf] <;> omega
      · have h63I : ¬ (63 : Int) < (i : Int) := by omega
        have eb : bits .and .u64 ((lo : Int) / 2 ^ i) 1 = (bt : Int) := by
          have h3 := bit_lo hi lo i (by omega)
          rw [← hNH.out, ← hbt] at h3
          have h4 := and_one (lo / 2 ^ i) (by have := Nat.div_le_self lo (2 ^ i); omega)
          rw [← h3] at h4
          rw [← h4]; congr 1 <;> simp
        have hbtH : Hid _ := hbt
        clear hbt hA hq hr hqh hql h63
        by_cases hge : n ≤ L
        · have hgeI : (n : Int) ≤ (L : Int) := by omega
          have esub : IntKind.u64.wrap ((L : Int) - (n : Int)) = ((L - n : Nat) : Int) := by rw [IntKind.wrap_u64]; have := hF.out; omega
          have esub2 : ((L : Int) - (n : Int)) % 18446744073709551616 = ((L - n : Nat) : Int) := by have := hF.out; omega
          obtain ⟨Ln, hLn⟩ : ∃ Ln, Ln = L - n := ⟨_, rfl⟩
          rw [← hLn] at esub esub2
          have hLnH : Hid _ := hLn
          clear hLn
          go_wp2_with fail
          go_roundw
          case rel =>
            obtain ⟨f1, f2, f3, f4, f5, f6, f7, f8, f9⟩ := hF.out
            have hd := div_step A n bt hn f6
            rw [← f2, ← f3, ← f5] at hd
            rw [if_pos hge, if_pos hge] at hd
            refine ⟨i, rfl, by omega, ?_, ?_, ?_, trivial⟩
            · rw [f1, hd.1]; congr 2; omega
            · rw [f1, hd.1]; congr 2; omega
            · rw [f1, hd.2, hLnH.out]
          case measure => simp [intOf] <;> omega
        · have hgeI : ¬ (n : Int) ≤ (L : Int) := by omega
          go_wp2_with fail
          go_roundw
          case rel =>
            obtain ⟨f1, f2, f3, f4, f5, f6, f7, f8, f9⟩ := hF.out
            have hd := div_step A n bt hn f6
            rw [← f2, ← f3, ← f5] at hd
            rw [if_neg hge, if_neg hge] at hd
            refine ⟨i, rfl, by omega, ?_, ?_, ?_, trivial⟩
            · rw [f1, hd.1]; congr 2; omega
            · rw [f1, hd.1]; congr 2; omega
            · rw [f1, hd.2]
          case measure => simp [intOf] <;> omega
end Go.Proofs.YtnfpommplokemaaDoor
