
import Derived.Test.YtepgcgphnjlcoaaDoorBuC
import Derived.Test.YtepgcgphnjlcoaaDoorDocBq
import Derived.Laws.BitsAllLaws
namespace Go.Proofs.YtepgcgphnjlcoaaDoor
open Go.RowKit
set_option linter.unusedVariables false
set_option linter.unusedSimpArgs false
theorem ones_xor (a : Nat) (ha : a < 18446744073709551616) : bits .xor .u64 (a : Int) 18446744073709551615 = ((18446744073709551615 - a : Nat) : Int) := by
  have h := u64_xor_nat a 18446744073709551615 ha (by omega)
  have e : a ^^^ 18446744073709551615 = 18446744073709551615 - a := by
    have h1 : (BitVec.ofNat 64 a ^^^ BitVec.allOnes 64).toNat = (~~~ BitVec.ofNat 64 a).toNat := by rw [BitVec.xor_allOnes]
    rw [BitVec.toNat_xor, BitVec.toNat_not, BitVec.toNat_allOnes, BitVec.toNat_ofNat, Nat.mod_eq_of_lt (by simpa using ha)] at h1
    simpa using h1
  rw [e] at h
  exact h
theorem fold_xor (z : Int) (hz : -9223372036854775808 ≤ z ∧ z ≤ 9223372036854775807) :
    bits .xor .u64 (IntKind.u64.wrap (IntKind.u64.wrap z * 2)) (IntKind.u64.wrap (z / 9223372036854775808)) = ((foldZ z : Nat) : Int) := by
  unfold foldZ
  by_cases h : 0 ≤ z
  · rw [if_pos h]
    have e1 : IntKind.u64.wrap (IntKind.u64.wrap z * 2) = (((2 * z).toNat : Nat) : Int) := by rw [IntKind.wrap_u64, IntKind.wrap_u64]; omega
    have e2 : IntKind.u64.wrap (z / 9223372036854775808) = ((0 : Nat) : Int) := by rw [IntKind.wrap_u64]; omega
    rw [e1, e2, u64_xor_nat _ _ (by omega) (by omega), Nat.xor_zero]
  · rw [if_neg h]
    have e1 : IntKind.u64.wrap (IntKind.u64.wrap z * 2) = (((18446744073709551616 + 2 * z).toNat : Nat) : Int) := by rw [IntKind.wrap_u64, IntKind.wrap_u64]; omega
    have e2 : IntKind.u64.wrap (z / 9223372036854775808) = 18446744073709551615 := by rw [IntKind.wrap_u64]; omega
    rw [e1, e2, ones_xor _ (by omega)]
    omega
theorem within_any (n : Int) (w : World) : Calls Tryd.prog 65 #[.int .i64 n] w fun e w' => e = .returned (.int .i64 ((broughtN n : Nat) : Int)) ∧ w' = w := by
  have e : ((broughtN n : Nat) : Int) = min (max n 0) 64 := by unfold broughtN; split; omega; split <;> omega
  rw [e]
  by_cases h0 : n < 0
  · have m1 : min (max n 0) 64 = 0 := by omega
    rw [m1]
    clear e m1
    go_enter Tryd.func65, Tryd.ntmps65
    go_wp2_with fail
    go_ret
    exact ⟨rfl, rfl⟩
  · by_cases h1 : 64 < n
    · have m1 : min (max n 0) 64 = 64 := by omega
      rw [m1]
      clear e m1
      go_enter Tryd.func65, Tryd.ntmps65
      go_wp2_with fail
      go_ret
      exact ⟨rfl, rfl⟩
    · have m1 : min (max n 0) 64 = n := by omega
      rw [m1]
      clear e m1
      go_enter Tryd.func65, Tryd.ntmps65
      go_wp2_with fail
      go_ret
      exact ⟨rfl, rfl⟩
theorem low_eq (x k : Nat) (hx : x < 18446744073709551616) (hk : k ≤ 8) : bits .and .u64 (x : Int) (IntKind.u64.wrap (IntKind.u64.wrap (2 ^ k) - 1)) % 256 = ((x % 2 ^ k % 256 : Nat) : Int) := by
  have p : (2 : Int) ^ k = ((2 ^ k : Nat) : Int) := by simp
  have q : 2 ^ k ≤ 2 ^ 8 := Nat.pow_le_pow_right (by omega) hk
  have q1 : 0 < 2 ^ k := Nat.pow_pos (by omega)
  have e1 : IntKind.u64.wrap (IntKind.u64.wrap (2 ^ k) - 1) = ((2 ^ k - 1 : Nat) : Int) := by rw [p, IntKind.wrap_u64, IntKind.wrap_u64]; omega
  rw [e1, u64_and_nat _ _ hx (by omega), Nat.and_two_pow_sub_one_eq_mod]
  omega
theorem lowest_any (x k : Nat) (hx : x < 18446744073709551616) (hk : k ≤ 8) (w : World) : Calls Tryd.prog 66 #[.int .u64 (x : Int), .int .i64 (k : Int)] w fun e w' => e = .returned (.int .u8 ((x % 2 ^ k : Nat) : Int)) ∧ w' = w := by
  have e := low_eq x k hx hk
  have q : 2 ^ k ≤ 2 ^ 8 := Nat.pow_le_pow_right (by omega) hk
  have q1 : 0 < 2 ^ k := Nat.pow_pos (by omega)
  rw [show x % 2 ^ k % 256 = x % 2 ^ k from Nat.mod_eq_of_lt (by have := Nat.mod_lt x q1; omega)] at e
  rw [← e]
  clear e q q1
  go_enter Tryd.func66, Tryd.ntmps66
  go_wp2_with fail
  go_ret
  exact ⟨rfl, rfl⟩
set_option maxRecDepth 100000 in
theorem wint_fr (N : Nat) (w1 : World) (fr : Int) (v : Value) (n : Nat) (xs : List Value) (w : World) (h : WS N w1 fr v n xs w) (z : Int) (hz : -9223372036854775808 ≤ z ∧ z ≤ 9223372036854775807) (hb : n + 20 ≤ 140737488355328) :
    Calls Tryd.prog 20 #[.pointer (some ⟨N, 0, none⟩), .int .i64 z] w fun e w' => e = .returned undef ∧ ∃ v' n', WS N w1 0 v' n' (xs ++ enc (uB (foldZ z))) w' ∧ n' ≤ n + 11 ∧ Fr N v v' w w' := by
  have hx : Hid _ := fold_xor z hz
  go_enter Tryd.func20, Tryd.ntmps20
  go_wp2_with fail
  refine (wuint_fr N w1 fr v n xs _ h (foldZ z) (foldZ_lt z hz) _ hx.out hb).mono ?_
  rintro e w3 ⟨rfl, v3, n3, h3, b3, F3⟩
  go_wp2_with fail
  first | go_end0 | (simp only [Exit.inBlock, Exit.then]; refine bodyPost_ret (results_none rfl _ _ _) rfl ?_) | refine bodyPost_ret (results_none rfl _ _ _) rfl ?_
  exact ⟨rfl, v3, n3, h3, b3, F3⟩
/-! ### some bits of one byte -/
theorem bitOn_in (bit : Nat) (hbit : bit < 2) (l : List Nat) (a b : Nat) (h1 : 1 ≤ b) (h8 : b < 8) (ha : a < 256) (hz : a % 2 ^ (8 - b) = 0) : bitOn bit (l ++ [a], b) = (l ++ [a + bit * 2 ^ (7 - b)], (b + 1) % 8) := by
  have hlt : a + 2 ^ (7 - b) < 256 := by
    have : b = 1 ∨ b = 2 ∨ b = 3 ∨ b = 4 ∨ b = 5 ∨ b = 6 ∨ b = 7 := by omega
    rcases this with rfl | rfl | rfl | rfl | rfl | rfl | rfl <;> simp at hz ⊢ <;> omega
  have hp : 128 / 2 ^ b = 2 ^ (7 - b) := by
    have : b = 1 ∨ b = 2 ∨ b = 3 ∨ b = 4 ∨ b = 5 ∨ b = 6 ∨ b = 7 := by omega
    rcases this with rfl | rfl | rfl | rfl | rfl | rfl | rfl <;> rfl
  rw [bitOn_eq bit (l ++ [a]) b (l ++ [a]) l.length (by rw [if_neg (by omega)]) (by simp), hp]
  have : bit = 0 ∨ bit = 1 := by omega
  rcases this with rfl | rfl
  · simp
  · rw [if_pos rfl]
    have : (l ++ [a]).getD l.length 0 = a := by simp [List.getD_eq_getElem?_getD]
    rw [this, Nat.mod_eq_of_lt hlt, Nat.one_mul]
    simp
theorem bitOn_new (bit : Nat) (hbit : bit < 2) (l : List Nat) : bitOn bit (l, 0) = (l ++ [bit * 128], 1) := by
  rw [bitOn_eq bit l 0 (l ++ [0]) l.length (by rw [if_pos rfl]) (by simp)]
  have : bit = 0 ∨ bit = 1 := by omega
  rcases this with rfl | rfl
  · simp
  · rw [if_pos rfl]
    have : (l ++ [0]).getD l.length 0 = 0 := by simp [List.getD_eq_getElem?_getD]
    rw [this]; simp
theorem bitsOn_chunk (x : Nat) : ∀ (now b n : Nat) (l : List Nat) (a : Nat), 1 ≤ b → b < 8 → b + now ≤ 8 → now ≤ n → a < 256 → a % 2 ^ (8 - b) = 0 →
    bitsOn x n (l ++ [a], b) = bitsOn x (n - now) (l ++ [a + x / 2 ^ (n - now) % 2 ^ now * 2 ^ (8 - b - now)], (b + now) % 8) := by
  intro now
  induction now with
  | zero =>
    intro b n l a h1 h8 hs hn ha hz
    rw [Nat.sub_zero, Nat.pow_zero, Nat.mod_one, Nat.zero_mul, Nat.add_zero, Nat.add_zero, Nat.mod_eq_of_lt h8]
  | succ now ih =>
    intro b n l a h1 h8 hs hn ha hz
    obtain ⟨n', rfl⟩ : ∃ n', n = n' + 1 := ⟨n - 1, by omega⟩
    have hbit : x / 2 ^ n' % 2 < 2 := Nat.mod_lt _ (by omega)
    show bitsOn x n' (bitOn (x / 2 ^ n' % 2) (l ++ [a], b)) = _
    rw [bitOn_in _ hbit l a b h1 h8 ha hz]
    have hy : x / 2 ^ n' % 2 = x / 2 ^ (n' - now) / 2 ^ now % 2 := by rw [Nat.div_div_eq_div_mul, ← Nat.pow_add, Nat.sub_add_cancel (by omega)]
    have hsum : a + x / 2 ^ (n' + 1 - (now + 1)) % 2 ^ (now + 1) * 2 ^ (8 - b - (now + 1)) = a + x / 2 ^ n' % 2 * 2 ^ (7 - b) + x / 2 ^ (n' - now) % 2 ^ now * 2 ^ (8 - (b + 1) - now) := by
      rw [show n' + 1 - (now + 1) = n' - now by omega, show 8 - b - (now + 1) = 8 - (b + 1) - now by omega, hy, Nat.mod_pow_succ, Nat.add_mul, show 7 - b = now + (8 - (b + 1) - now) by omega, Nat.pow_add]
      rw [show 2 ^ now * (x / 2 ^ (n' - now) / 2 ^ now % 2) * 2 ^ (8 - (b + 1) - now) = x / 2 ^ (n' - now) / 2 ^ now % 2 * (2 ^ now * 2 ^ (8 - (b + 1) - now)) by rw [Nat.mul_comm (2 ^ now), Nat.mul_assoc]]
      omega
    rw [hsum]
    by_cases hb7 : b = 7
    · subst hb7
      obtain rfl : now = 0 := by omega
      simp [Nat.mod_one]
    · have hlt : a + x / 2 ^ n' % 2 * 2 ^ (7 - b) < 256 ∧ (a + x / 2 ^ n' % 2 * 2 ^ (7 - b)) % 2 ^ (8 - (b + 1)) = 0 := by
        generalize x / 2 ^ n' % 2 = bit at hbit
        have hb : bit = 0 ∨ bit = 1 := by omega
        have : b = 1 ∨ b = 2 ∨ b = 3 ∨ b = 4 ∨ b = 5 ∨ b = 6 := by omega
        rcases this with rfl | rfl | rfl | rfl | rfl | rfl <;> rcases hb with rfl | rfl <;> simp at hz ⊢ <;> omega
      rw [Nat.mod_eq_of_lt (show b + 1 < 8 by omega), ih (b + 1) n' l _ (by omega) (by omega) (by omega) (by omega) hlt.1 hlt.2]
      rw [show n' + 1 - (now + 1) = n' - now by omega, show b + 1 + now = b + (now + 1) by omega]
theorem bitsOn_begin (x now n : Nat) (l : List Nat) (h1 : 1 ≤ now) (h8 : now ≤ 8) (hn : now ≤ n) : bitsOn x n (l, 0) = bitsOn x (n - now) (l ++ [x / 2 ^ (n - now) % 2 ^ now * 2 ^ (8 - now)], now % 8) := by
  obtain ⟨n', rfl⟩ : ∃ n', n = n' + 1 := ⟨n - 1, by omega⟩
  obtain ⟨m, rfl⟩ : ∃ m, now = m + 1 := ⟨now - 1, by omega⟩
  have hbit : x / 2 ^ n' % 2 < 2 := Nat.mod_lt _ (by omega)
  show bitsOn x n' (bitOn (x / 2 ^ n' % 2) (l, 0)) = _
  rw [bitOn_new _ hbit]
  have hz : x / 2 ^ n' % 2 * 128 % 2 ^ (8 - 1) = 0 := by simp
  rw [bitsOn_chunk x m 1 n' l _ (by omega) (by omega) (by omega) (by omega) (by omega) hz]
  have hy : x / 2 ^ n' % 2 = x / 2 ^ (n' - m) / 2 ^ m % 2 := by rw [Nat.div_div_eq_div_mul, ← Nat.pow_add, Nat.sub_add_cancel (by omega)]
  rw [show n' + 1 - (m + 1) = n' - m by omega, Nat.mod_pow_succ, Nat.add_mul, ← hy, show 8 - (m + 1) = 8 - 1 - m by omega, Nat.add_comm 1 m]
  rw [show 2 ^ m * (x / 2 ^ n' % 2) * 2 ^ (8 - 1 - m) = x / 2 ^ n' % 2 * (2 ^ m * 2 ^ (8 - 1 - m)) by rw [Nat.mul_comm (2 ^ m), Nat.mul_assoc], ← Nat.pow_add, show m + (8 - 1 - m) = 7 by omega]
  rw [show (2 : Nat) ^ 7 = 128 from rfl, Nat.add_comm (x / 2 ^ (n' - m) % 2 ^ m * 2 ^ (8 - 1 - m))]
/-- bytes, of the last of which b bits are filled (0: all), the others 0. -/
def CL (l : List Nat) (b : Nat) : Prop := b < 8 ∧ (∀ y ∈ l, y < 256) ∧ (b ≠ 0 → ∃ L a, l = L ++ [a] ∧ a % 2 ^ (8 - b) = 0)
/-- what a chunk does to a byte. -/
theorem chunk_or (x r now F a : Nat) (h1 : 1 ≤ now) (hF : now ≤ F) (h8 : F ≤ 8) (ha : a < 256) (hz : a % 2 ^ F = 0) :
    x / 2 ^ r % 2 ^ now * 2 ^ (F - now) < 256 ∧ a ||| (x / 2 ^ r % 2 ^ now * 2 ^ (F - now)) = a + x / 2 ^ r % 2 ^ now * 2 ^ (F - now) ∧ a + x / 2 ^ r % 2 ^ now * 2 ^ (F - now) < 256 ∧ (a + x / 2 ^ r % 2 ^ now * 2 ^ (F - now)) % 2 ^ (F - now) = 0 := by
  have hp : 2 ^ now * 2 ^ (F - now) = 2 ^ F := by rw [← Nat.pow_add, Nat.add_sub_cancel' hF]
  have hm : x / 2 ^ r % 2 ^ now < 2 ^ now := Nat.mod_lt _ (Nat.pow_pos (by omega))
  generalize x / 2 ^ r % 2 ^ now = c at hm
  have hc : c * 2 ^ (F - now) < 2 ^ F := by rw [← hp]; exact Nat.mul_lt_mul_of_pos_right hm (Nat.pow_pos (by omega))
  have hF2 : 2 ^ F ≤ 2 ^ 8 := Nat.pow_le_pow_right (by omega) h8
  obtain ⟨q, hq⟩ := Nat.dvd_of_mod_eq_zero hz
  have hor := Nat.two_pow_add_eq_or_of_lt hc q
  rw [← hq] at hor
  have hsum : a + c * 2 ^ (F - now) < 256 := by
    have hq2 : q < 2 ^ (8 - F) := by
      have h9 : 2 ^ F * q < 2 ^ F * 2 ^ (8 - F) := by rw [← hq, ← Nat.pow_add, Nat.add_sub_cancel' h8]; exact ha
      exact Nat.lt_of_mul_lt_mul_left h9
    have h10 : 2 ^ F * (q + 1) ≤ 2 ^ F * 2 ^ (8 - F) := Nat.mul_le_mul_left _ hq2
    rw [← Nat.pow_add, Nat.add_sub_cancel' h8, Nat.mul_add, Nat.mul_one, ← hq] at h10
    have : (2 : Nat) ^ 8 = 256 := rfl
    omega
  refine ⟨by omega, hor.symm, hsum, ?_⟩
  rw [hq, show 2 ^ F = 2 ^ (F - now) * 2 ^ now by rw [← hp, Nat.mul_comm], Nat.mul_assoc, Nat.add_mod, Nat.mul_mod_right, Nat.mul_mod_left, Nat.zero_mod]
end Go.Proofs.YtepgcgphnjlcoaaDoor
