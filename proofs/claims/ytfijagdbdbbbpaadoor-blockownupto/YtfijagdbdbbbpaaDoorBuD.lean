
import Derived.Test.YtfijagdbdbbbpaaDoorBuC
import Derived.Test.YtfijagdbdbbbpaaDoorDocBq
import Derived.Laws.BitsAllLaws
import Derived.Test.YtfijagdbdbbbpaaDoorBuB
import Derived.BigQuiet
import Derived.Deep.QuietTactic
import Derived.Deep.RegionHeld3
import Derived.WalkSmall
namespace Go.Proofs.YtfijagdbdbbbpaaDoor
open Go.RowKit
set_option linter.unusedVariables false
set_option linter.unusedSimpArgs false
theorem ones_xor (a : Nat) (ha : a < 18446744073709551616) : bits .xor .u64 (a : Int) 18446744073709551615 = ((18446744073709551615 - a : Nat) : Int) := by
  have h := u64_xor_nat a 18446744073709551615 ha (by omega)
  have e : a ^^^ 18446744073709551615 = 18446744073709551615 - a := by
    have h1 : (BitVec.ofNat 64 a ^^^ BitVec.allOnes 64).toNat = (~~~ BitVec.ofNat 64 a).toNat := by rw [BitVec.xor_allOnes]
    rw [BitVec.toNat_xor, BitVec.toNat_not, BitVec.toNat_allOnes, BitVec.toNat_ofNat, Nat.mod_eq_of_lt (by simpa using ha)] at h1
    simpa using h1
  rw [e] at h
  exact h
theorem fold_xor (z : Int) (hz : -9223372036854775808 ≤ z ∧ z ≤ 9223372036854775807) :
    bits .xor .u64 (IntKind.u64.wrap (IntKind.u64.wrap z * 2)) (IntKind.u64.wrap (z / 9223372036854775808)) = ((foldZ z : Nat) : Int) := by
  unfold foldZ
  by_cases h : 0 ≤ z
  · rw [if_pos h]
    have e1 : IntKind.u64.wrap (IntKind.u64.wrap z * 2) = (((2 * z).toNat : Nat) : Int) := by rw [IntKind.wrap_u64, IntKind.wrap_u64]; omega
    have e2 : IntKind.u64.wrap (z / 9223372036854775808) = ((0 : Nat) : Int) := by rw [IntKind.wrap_u64]; omega
    rw [e1, e2, u64_xor_nat _ _ (by omega) (by omega), Nat.xor_zero]
  · rw [if_neg h]
    have e1 : IntKind.u64.wrap (IntKind.u64.wrap z * 2) = (((18446744073709551616 + 2 * z).toNat : Nat) : Int) := by rw [IntKind.wrap_u64, IntKind.wrap_u64]; omega
    have e2 : IntKind.u64.wrap (z / 9223372036854775808) = 18446744073709551615 := by rw [IntKind.wrap_u64]; omega
    rw [e1, e2, ones_xor _ (by omega)]
    omega
theorem within_any (n : Int) (w : World) : Calls Tryd.prog 69 #[.int .i64 n] w fun e w' => e = .returned (.int .i64 ((broughtN n : Nat) : Int)) ∧ w' = w := by
  have e : ((broughtN n : Nat) : Int) = min (max n 0) 64 := by unfold broughtN; split; omega; split <;> omega
  rw [e]
  by_cases h0 : n < 0
  · have m1 : min (max n 0) 64 = 0 := by omega
    rw [m1]
    clear e m1
    go_enter Tryd.func69, Tryd.ntmps69
    go_wp2_with fail
    go_ret
    exact ⟨rfl, rfl⟩
  · by_cases h1 : 64 < n
    · have m1 : min (max n 0) 64 = 64 := by omega
      rw [m1]
      clear e m1
      go_enter Tryd.func69, Tryd.ntmps69
      go_wp2_with fail
      go_ret
      exact ⟨rfl, rfl⟩
    · have m1 : min (max n 0) 64 = n := by omega
      rw [m1]
      clear e m1
      go_enter Tryd.func69, Tryd.ntmps69
      go_wp2_with fail
      go_ret
      exact ⟨rfl, rfl⟩
theorem low_eq (x k : Nat) (hx : x < 18446744073709551616) (hk : k ≤ 8) : bits .and .u64 (x : Int) (IntKind.u64.wrap (IntKind.u64.wrap (2 ^ k) - 1)) % 256 = ((x % 2 ^ k % 256 : Nat) : Int) := by
  have p : (2 : Int) ^ k = ((2 ^ k : Nat) : Int) := by simp
  have q : 2 ^ k ≤ 2 ^ 8 := Nat.pow_le_pow_right (by omega) hk
  have q1 : 0 < 2 ^ k := Nat.pow_pos (by omega)
  have e1 : IntKind.u64.wrap (IntKind.u64.wrap (2 ^ k) - 1) = ((2 ^ k - 1 : Nat) : Int) := by rw [p, IntKind.wrap_u64, IntKind.wrap_u64]; omega
  rw [e1, u64_and_nat _ _ hx (by omega), Nat.and_two_pow_sub_one_eq_mod]
  omega
theorem lowest_any (x k : Nat) (hx : x < 18446744073709551616) (hk : k ≤ 8) (w : World) : Calls Tryd.prog 70 #[.int .u64 (x : Int), .int .i64 (k : Int)] w fun e w' => e = .returned (.int .u8 ((x % 2 ^ k : Nat) : Int)) ∧ w' = w := by
  have e := low_eq x k hx hk
  have q : 2 ^ k ≤ 2 ^ 8 := Nat.pow_le_pow_right (by omega) hk
  have q1 : 0 < 2 ^ k := Nat.pow_pos (by omega)
  rw [show x % 2 ^ k % 256 = x % 2 ^ k from Nat.mod_eq_of_lt (by have := Nat.mod_lt x q1; omega)] at e
  rw [← e]
  clear e q q1
  go_enter Tryd.func70, Tryd.ntmps70
  go_wp2_with fail
  go_ret
  exact ⟨rfl, rfl⟩
set_option maxRecDepth 100000 in
theorem wint_fr (N : Nat) (w1 : World) (fr : Int) (v : Value) (n : Nat) (xs : List Value) (w : World) (h : WS N w1 fr v n xs w) (z : Int) (hz : -9223372036854775808 ≤ z ∧ z ≤ 9223372036854775807) (hb : n + 20 ≤ 140737488355328) :
    Calls Tryd.prog 17 #[.pointer (some ⟨N, 0, none⟩), .int .i64 z] w fun e w' => e = .returned undef ∧ ∃ v' n', WS N w1 0 v' n' (xs ++ enc (uB (foldZ z))) w' ∧ n' ≤ n + 11 ∧ Fr N v v' w w' := by
  have hx : Hid _ := fold_xor z hz
  go_enter Tryd.func17, Tryd.ntmps17
  go_wp2_with fail
  refine (wuint_fr N w1 fr v n xs _ h (foldZ z) (foldZ_lt z hz) _ hx.out hb).mono ?_
  rintro e w3 ⟨rfl, v3, n3, h3, b3, F3⟩
  go_wp2_with fail
  first | go_end0 | (simp only [Exit.inBlock, Exit.then]; refine bodyPost_ret (results_none rfl _ _ _) rfl ?_) | refine bodyPost_ret (results_none rfl _ _ _) rfl ?_
  exact ⟨rfl, v3, n3, h3, b3, F3⟩
/-! ### some bits of one byte -/
theorem bitOn_in (bit : Nat) (hbit : bit < 2) (l : List Nat) (a b : Nat) (h1 : 1 ≤ b) (h8 : b < 8) (ha : a < 256) (hz : a % 2 ^ (8 - b) = 0) : bitOn bit (l ++ [a], b) = (l ++ [a + bit * 2 ^ (7 - b)], (b + 1) % 8) := by
  have hlt : a + 2 ^ (7 - b) < 256 := by
    have : b = 1 ∨ b = 2 ∨ b = 3 ∨ b = 4 ∨ b = 5 ∨ b = 6 ∨ b = 7 := by omega
    rcases this with rfl | rfl | rfl | rfl | rfl | rfl | rfl <;> simp at hz ⊢ <;> omega
  have hp : 128 / 2 ^ b = 2 ^ (7 - b) := by
    have : b = 1 ∨ b = 2 ∨ b = 3 ∨ b = 4 ∨ b = 5 ∨ b = 6 ∨ b = 7 := by omega
    rcases this with rfl | rfl | rfl | rfl | rfl | rfl | rfl <;> rfl
  rw [bitOn_eq bit (l ++ [a]) b (l ++ [a]) l.length (by rw [if_neg (by omega)]) (by simp), hp]
  have : bit = 0 ∨ bit = 1 := by omega
  rcases this with rfl | rfl
  · simp
  · rw [if_pos rfl]
    have : (l ++ [a]).getD l.length 0 = a := by simp [List.getD_eq_getElem?_getD]
    rw [this, Nat.mod_eq_of_lt hlt, Nat.one_mul]
    simp
theorem bitOn_new (bit : Nat) (hbit : bit < 2) (l : List Nat) : bitOn bit (l, 0) = (l ++ [bit * 128], 1) := by
  rw [bitOn_eq bit l 0 (l ++ [0]) l.length (by rw [if_pos rfl]) (by simp)]
  have : bit = 0 ∨ bit = 1 := by omega
  rcases this with rfl | rfl
  · simp
  · rw [if_pos rfl]
    have : (l ++ [0]).getD l.length 0 = 0 := by simp [List.getD_eq_getElem?_getD]
    rw [this]; simp
theorem bitsOn_chunk (x : Nat) : ∀ (now b n : Nat) (l : List Nat) (a : Nat), 1 ≤ b → b < 8 → b + now ≤ 8 → now ≤ n → a < 256 → a % 2 ^ (8 - b) = 0 →
    bitsOn x n (l ++ [a], b) = bitsOn x (n - now) (l ++ [a + x / 2 ^ (n - now) % 2 ^ now * 2 ^ (8 - b - now)], (b + now) % 8) := by
  intro now
  induction now with
  | zero =>
    intro b n l a h1 h8 hs hn ha hz
    rw [Nat.sub_zero, Nat.pow_zero, Nat.mod_one, Nat.zero_mul, Nat.add_zero, Nat.add_zero, Nat.mod_eq_of_lt h8]
  | succ now ih =>
    intro b n l a h1 h8 hs hn ha hz
    obtain ⟨n', rfl⟩ : ∃ n', n = n' + 1 := ⟨n - 1, by omega⟩
    have hbit : x / 2 ^ n' % 2 < 2 := Nat.mod_lt _ (by omega)
    show bitsOn x n' (bitOn (x / 2 ^ n' % 2) (l ++ [a], b)) = _
    rw [bitOn_in _ hbit l a b h1 h8 ha hz]
    have hy : x / 2 ^ n' % 2 = x / 2 ^ (n' - now) / 2 ^ now % 2 := by rw [Nat.div_div_eq_div_mul, ← Nat.pow_add, Nat.sub_add_cancel (by omega)]
    have hsum : a + x / 2 ^ (n' + 1 - (now + 1)) % 2 ^ (now + 1) * 2 ^ (8 - b - (now + 1)) = a + x / 2 ^ n' % 2 * 2 ^ (7 - b) + x / 2 ^ (n' - now) % 2 ^ now * 2 ^ (8 - (b + 1) - now) := by
      rw [show n' + 1 - (now + 1) = n' - now by omega, show 8 - b - (now + 1) = 8 - (b + 1) - now by omega, hy, Nat.mod_pow_succ, Nat.add_mul, show 7 - b = now + (8 - (b + 1) - now) by omega, Nat.pow_add]
      rw [show 2 ^ now * (x / 2 ^ (n' - now) / 2 ^ now % 2) * 2 ^ (8 - (b + 1) - now) = x / 2 ^ (n' - now) / 2 ^ now % 2 * (2 ^ now * 2 ^ (8 - (b + 1) - now)) by rw [Nat.mul_comm (2 ^ now), Nat.mul_assoc]]
      omega
    rw [hsum]
    by_cases hb7 : b = 7
    · subst hb7
      obtain rfl : now = 0 := by omega
      simp [Nat.mod_one]
    · have hlt : a + x / 2 ^ n' % 2 * 2 ^ (7 - b) < 256 ∧ (a + x / 2 ^ n' % 2 * 2 ^ (7 - b)) % 2 ^ (8 - (b + 1)) = 0 := by
        generalize x / 2 ^ n' % 2 = bit at hbit
        have hb : bit = 0 ∨ bit = 1 := by omega
        have : b = 1 ∨ b = 2 ∨ b = 3 ∨ b = 4 ∨ b = 5 ∨ b = 6 := by omega
        rcases this with rfl | rfl | rfl | rfl | rfl | rfl <;> rcases hb with rfl | rfl <;> simp at hz ⊢ <;> omega
      rw [Nat.mod_eq_of_lt (show b + 1 < 8 by omega), ih (b + 1) n' l _ (by omega) (by omega) (by omega) (by omega) hlt.1 hlt.2]
      rw [show n' + 1 - (now + 1) = n' - now by omega, show b + 1 + now = b + (now + 1) by omega]
theorem bitsOn_begin (x now n : Nat) (l : List Nat) (h1 : 1 ≤ now) (h8 : now ≤ 8) (hn : now ≤ n) : bitsOn x n (l, 0) = bitsOn x (n - now) (l ++ [x / 2 ^ (n - now) % 2 ^ now * 2 ^ (8 - now)], now % 8) := by
  obtain ⟨n', rfl⟩ : ∃ n', n = n' + 1 := ⟨n - 1, by omega⟩
  obtain ⟨m, rfl⟩ : ∃ m, now = m + 1 := ⟨now - 1, by omega⟩
  have hbit : x / 2 ^ n' % 2 < 2 := Nat.mod_lt _ (by omega)
  show bitsOn x n' (bitOn (x / 2 ^ n' % 2) (l, 0)) = _
  rw [bitOn_new _ hbit]
  have hz : x / 2 ^ n' % 2 * 128 % 2 ^ (8 - 1) = 0 := by simp
  rw [bitsOn_chunk x m 1 n' l _ (by omega) (by omega) (by omega) (by omega) (by omega) hz]
  have hy : x / 2 ^ n' % 2 = x / 2 ^ (n' - m) / 2 ^ m % 2 := by rw [Nat.div_div_eq_div_mul, ← Nat.pow_add, Nat.sub_add_cancel (by omega)]
  rw [show n' + 1 - (m + 1) = n' - m by omega, Nat.mod_pow_succ, Nat.add_mul, ← hy, show 8 - (m + 1) = 8 - 1 - m by omega, Nat.add_comm 1 m]
  rw [show 2 ^ m * (x / 2 ^ n' % 2) * 2 ^ (8 - 1 - m) = x / 2 ^ n' % 2 * (2 ^ m * 2 ^ (8 - 1 - m)) by rw [Nat.mul_comm (2 ^ m), Nat.mul_assoc], ← Nat.pow_add, show m + (8 - 1 - m) = 7 by omega]
  rw [show (2 : Nat) ^ 7 = 128 from rfl, Nat.add_comm (x / 2 ^ (n' - m) % 2 ^ m * 2 ^ (8 - 1 - m))]
/-- bytes, of the last of which b bits are filled (0: all), the others 0. -/
def CL (l : List Nat) (b : Nat) : Prop := b < 8 ∧ (∀ y ∈ l, y < 256) ∧ (b ≠ 0 → ∃ L a, l = L ++ [a] ∧ a % 2 ^ (8 - b) = 0)
/-- what a chunk does to a byte. -/
theorem chunk_or (x r now F a : Nat) (h1 : 1 ≤ now) (hF : now ≤ F) (h8 : F ≤ 8) (ha : a < 256) (hz : a % 2 ^ F = 0) :
    x / 2 ^ r % 2 ^ now * 2 ^ (F - now) < 256 ∧ a ||| (x / 2 ^ r % 2 ^ now * 2 ^ (F - now)) = a + x / 2 ^ r % 2 ^ now * 2 ^ (F - now) ∧ a + x / 2 ^ r % 2 ^ now * 2 ^ (F - now) < 256 ∧ (a + x / 2 ^ r % 2 ^ now * 2 ^ (F - now)) % 2 ^ (F - now) = 0 := by
  have hp : 2 ^ now * 2 ^ (F - now) = 2 ^ F := by rw [← Nat.pow_add, Nat.add_sub_cancel' hF]
  have hm : x / 2 ^ r % 2 ^ now < 2 ^ now := Nat.mod_lt _ (Nat.pow_pos (by omega))
  generalize x / 2 ^ r % 2 ^ now = c at hm
  have hc : c * 2 ^ (F - now) < 2 ^ F := by rw [← hp]; exact Nat.mul_lt_mul_of_pos_right hm (Nat.pow_pos (by omega))
  have hF2 : 2 ^ F ≤ 2 ^ 8 := Nat.pow_le_pow_right (by omega) h8
  obtain ⟨q, hq⟩ := Nat.dvd_of_mod_eq_zero hz
  have hor := Nat.two_pow_add_eq_or_of_lt hc q
  rw [← hq] at hor
  have hsum : a + c * 2 ^ (F - now) < 256 := by
    have hq2 : q < 2 ^ (8 - F) := by
      have h9 : 2 ^ F * q < 2 ^ F * 2 ^ (8 - F) := by rw [← hq, ← Nat.pow_add, Nat.add_sub_cancel' h8]; exact ha
      exact Nat.lt_of_mul_lt_mul_left h9
    have h10 : 2 ^ F * (q + 1) ≤ 2 ^ F * 2 ^ (8 - F) := Nat.mul_le_mul_left _ hq2
    rw [← Nat.pow_add, Nat.add_sub_cancel' h8, Nat.mul_add, Nat.mul_one, ← hq] at h10
    have : (2 : Nat) ^ 8 = 256 := rfl
    omega
  refine ⟨by omega, hor.symm, hsum, ?_⟩
  rw [hq, show 2 ^ F = 2 ^ (F - now) * 2 ^ now by rw [← hp, Nat.mul_comm], Nat.mul_assoc, Nat.add_mod, Nat.mul_mod_right, Nat.mul_mod_left, Nat.zero_mod]
end Go.Proofs.YtfijagdbdbbbpaaDoor

namespace Go.Proofs.YtfijagdbdbbbpaaDoor
open Go.RowKit
set_option linter.unusedVariables false
set_option linter.unusedSimpArgs false
def u32At (bs : Nat → Nat) (i : Nat) : Nat := bs i * 16777216 + bs (i + 1) * 65536 + bs (i + 2) * 256 + bs (i + 3)
theorem or_add (x y k : Nat) (hy : y < 2 ^ k) (hx : x * 2 ^ k + y < 4294967296) : bits .or .u32 ((x * 2 ^ k : Nat) : Int) (y : Int) = ((x * 2 ^ k + y : Nat) : Int) := by
  have h1 := u32_or_nat (x * 2 ^ k) y (by omega) (by omega)
  have h2 := Nat.two_pow_add_eq_or_of_lt hy x
  rw [Nat.mul_comm] at h2
  rw [h1, h2]
end Go.Proofs.YtfijagdbdbbbpaaDoor

namespace Go.Proofs.YtfijagdbdbbbpaaDoor
open Go.RowKit
set_option linter.unusedVariables false
set_option linter.unusedSimpArgs false
/-- the fault of a Reader. -/
def fvV : Option (Int × Int) → Value
  | none => .nilIface
  | some (p, e) => .iface 204 (.agg #[.int .i64 p, .iface 77 (.int .i64 e)])
/-- a Reader of the program's at block N, over n bytes: p of them were read, of the last one but for its lowest r bits. -/
structure RR (N : Nat) (w1 : World) (a : Option Addr) (n cap : Nat) (bs : Nat → Nat) (p r : Nat) (fv : Option (Int × Int)) (wx : World) : Prop where
  c0 : wx.cell? ⟨N, 0, none⟩ = some (.slice a n cap)
  c1 : wx.cell? ⟨N, 1, none⟩ = some (.int .i64 (p : Int))
  c2 : wx.cell? ⟨N, 2, none⟩ = some (.int .i64 (r : Int))
  c3 : wx.cell? ⟨N, 3, none⟩ = some (fvV fv)
  f1 : wx.frozen? ⟨N, 1, none⟩ = false
  f2 : wx.frozen? ⟨N, 2, none⟩ = false
  f3 : wx.frozen? ⟨N, 3, none⟩ = false
  row : n = 0 ∨ ∃ b off, a = some ⟨b, off, none⟩ ∧ b < wx.heap.size ∧ b ≠ N ∧ BytesAt wx b off n bs
  nb : n ≤ 140737488355327
  nc : n ≤ cap
  pn : p ≤ n
  r8 : r ≤ 8
  rp : r ≠ 0 → 0 < p
  b : Below N w1 wx
  sz : N < wx.heap.size
/-- what a Reader at N leaves alone. -/
structure RF (N : Nat) (w w' : World) : Prop where
  size : w.heap.size ≤ w'.heap.size
  keep : ∀ k, k < w.heap.size → k ≠ N → w'.heap[k]? = w.heap[k]?
theorem RF.refl (N : Nat) (w : World) : RF N w w := ⟨Nat.le_refl _, fun _ _ _ => rfl⟩
theorem RF.trans {N : Nat} {w w1 w2 : World} (h : RF N w w1) (k : RF N w1 w2) : RF N w w2 :=
  ⟨Nat.le_trans h.size k.size, fun j hj hn => by rw [k.keep j (Nat.lt_of_lt_of_le hj h.size) hn]; exact h.keep j hj hn⟩
theorem RF.below {N : Nat} {w w' : World} (h : Below w.heap.size w w') : RF N w w' := ⟨h.size, fun k hk _ => h.block k hk⟩
theorem RF.set {N : Nat} (w : World) (j : Nat) (v : Value) : RF N w (w.setCell ⟨N, j, none⟩ v) := ⟨by simp, fun k hk hn => Below.heap_setCell _ _ _ _ hn⟩
theorem RF.drewN {N : Nat} (w : World) (n : Nat) : RF N w (w.drewN n) := ⟨Nat.le_refl _, fun _ _ _ => rfl⟩
theorem RR.below {N : Nat} {w1 wx w' : World} {a : Option Addr} {n cap p r : Nat} {bs : Nat → Nat} {fv : Option (Int × Int)} (h : RR N w1 a n cap bs p r fv wx) (hb : Below wx.heap.size wx w') : RR N w1 a n cap bs p r fv w' := by
  obtain ⟨c0, c1, c2, c3, f1, f2, f3, row, nb, nc, pn, r8, rp, b, sz⟩ := h
  refine ⟨?_, ?_, ?_, ?_, ?_, ?_, ?_, ?_, nb, nc, pn, r8, rp, b.trans (hb.mono (by omega)), Nat.lt_of_lt_of_le sz hb.size⟩
  · rw [hb.cell (p := ⟨N, 0, none⟩) sz]; exact c0
  · rw [hb.cell (p := ⟨N, 1, none⟩) sz]; exact c1
  · rw [hb.cell (p := ⟨N, 2, none⟩) sz]; exact c2
  · rw [hb.cell (p := ⟨N, 3, none⟩) sz]; exact c3
  · rw [hb.frozen (p := ⟨N, 1, none⟩) sz]; exact f1
  · rw [hb.frozen (p := ⟨N, 2, none⟩) sz]; exact f2
  · rw [hb.frozen (p := ⟨N, 3, none⟩) sz]; exact f3
  · rcases row with h0 | ⟨k, off, e, hk, hn, hB⟩
    · exact Or.inl h0
    · exact Or.inr ⟨k, off, e, Nat.lt_of_lt_of_le hk hb.size, hn, hB.below hb hk⟩
theorem RR.drewN {N : Nat} {w1 wx : World} {a : Option Addr} {n cap p r : Nat} {bs : Nat → Nat} {fv : Option (Int × Int)} (h : RR N w1 a n cap bs p r fv wx) (k : Nat) : RR N w1 a n cap bs p r fv (wx.drewN k) :=
  h.below (below_drewN (Below.refl _ _) _)
theorem RR.row_set {N j : Nat} {wx : World} {a : Option Addr} {n : Nat} {bs : Nat → Nat} {v : Value} (row : n = 0 ∨ ∃ b off, a = some ⟨b, off, none⟩ ∧ b < wx.heap.size ∧ b ≠ N ∧ BytesAt wx b off n bs) :
    n = 0 ∨ ∃ b off, a = some ⟨b, off, none⟩ ∧ b < (wx.setCell ⟨N, j, none⟩ v).heap.size ∧ b ≠ N ∧ BytesAt (wx.setCell ⟨N, j, none⟩ v) b off n bs := by
  rcases row with h0 | ⟨k, off, e, hk, hn, hB⟩
  · exact Or.inl h0
  · exact Or.inr ⟨k, off, e, by simpa using hk, hn, fun i hi => ⟨by rw [World.cell?_setCell_other _ _ _ _ (by intro e; injection e with e1; omega)]; exact (hB i hi).1, (hB i hi).2⟩⟩
theorem RR.setP {N : Nat} {w1 wx : World} {a : Option Addr} {n cap p r : Nat} {bs : Nat → Nat} {fv : Option (Int × Int)} (h : RR N w1 a n cap bs p r fv wx) (p' : Nat) (h1 : p' ≤ n) (h2 : p ≤ p') : RR N w1 a n cap bs p' r fv (wx.setCell ⟨N, 1, none⟩ (.int .i64 (p' : Int))) := by
  obtain ⟨c0, c1, c2, c3, f1, f2, f3, row, nb, nc, pn, r8, rp, b, sz⟩ := h
  refine ⟨?_, World.cell?_setCell_same _ _ _ c1, ?_, ?_, by simpa using f1, by simpa using f2, by simpa using f3, RR.row_set row, nb, nc, h1, r8, fun h => by have := rp h; omega, b.setCell (p := ⟨N, 1, none⟩) (Nat.le_refl _) _, by simpa using sz⟩
  · rw [World.cell?_setCell_other _ _ _ _ (by simp)]; exact c0
  · rw [World.cell?_setCell_other _ _ _ _ (by simp)]; exact c2
  · rw [World.cell?_setCell_other _ _ _ _ (by simp)]; exact c3
theorem RR.setR {N : Nat} {w1 wx : World} {a : Option Addr} {n cap p r : Nat} {bs : Nat → Nat} {fv : Option (Int × Int)} (h : RR N w1 a n cap bs p r fv wx) (r' : Nat) (h1 : r' ≤ 8) (h2 : r' ≠ 0 → 0 < p) : RR N w1 a n cap bs p r' fv (wx.setCell ⟨N, 2, none⟩ (.int .i64 (r' : Int))) := by
  obtain ⟨c0, c1, c2, c3, f1, f2, f3, row, nb, nc, pn, r8, rp, b, sz⟩ := h
  refine ⟨?_, ?_, World.cell?_setCell_same _ _ _ c2, ?_, by simpa using f1, by simpa using f2, by simpa using f3, RR.row_set row, nb, nc, pn, h1, h2, b.setCell (p := ⟨N, 2, none⟩) (Nat.le_refl _) _, by simpa using sz⟩
  · rw [World.cell?_setCell_other _ _ _ _ (by simp)]; exact c0
  · rw [World.cell?_setCell_other _ _ _ _ (by simp)]; exact c1
  · rw [World.cell?_setCell_other _ _ _ _ (by simp)]; exact c3
theorem RR.setF {N : Nat} {w1 wx : World} {a : Option Addr} {n cap p r : Nat} {bs : Nat → Nat} {fv : Option (Int × Int)} (h : RR N w1 a n cap bs p r fv wx) (fv' : Option (Int × Int)) : RR N w1 a n cap bs p r fv' (wx.setCell ⟨N, 3, none⟩ (fvV fv')) := by
  obtain ⟨c0, c1, c2, c3, f1, f2, f3, row, nb, nc, pn, r8, rp, b, sz⟩ := h
  refine ⟨?_, ?_, ?_, World.cell?_setCell_same _ _ _ c3, by simpa using f1, by simpa using f2, by simpa using f3, RR.row_set row, nb, nc, pn, r8, rp, b.setCell (p := ⟨N, 3, none⟩) (Nat.le_refl _) _, by simpa using sz⟩
  · rw [World.cell?_setCell_other _ _ _ _ (by simp)]; exact c0
  · rw [World.cell?_setCell_other _ _ _ _ (by simp)]; exact c1
  · rw [World.cell?_setCell_other _ _ _ _ (by simp)]; exact c2
section
variable {N : Nat} {w1 : World} {a : Option Addr} {n cap p r : Nat} {bs : Nat → Nat} {fv : Option (Int × Int)} {w : World}
theorem sound_any (h : RR N w1 a n cap bs p r fv w) : Calls Tryd.prog 76 #[.pointer (some ⟨N, 0, none⟩)] w fun e w' => e = .returned (.bool fv.isNone) ∧ w' = w := by
  have c3 := h.c3
  clear h
  cases fv with
  | none =>
    simp only [fvV] at c3
    go_enter Tryd.func76, Tryd.ntmps76
    go_wp2
    go_ret
    exact ⟨rfl, rfl⟩
  | some x =>
    obtain ⟨q, e⟩ := x
    simp only [fvV] at c3
    go_enter Tryd.func76, Tryd.ntmps76
    go_wp2
    go_ret
    exact ⟨rfl, rfl⟩
theorem left_any (h : RR N w1 a n cap bs p r fv w) : Calls Tryd.prog 79 #[.pointer (some ⟨N, 0, none⟩)] w fun e w' => e = .returned (.int .i64 ((n : Int) - (p : Int))) ∧ RR N w1 a n cap bs p r fv w' ∧ RF N w w' := by
  have c0 := h.c0
  have c1 := h.c1
  have hp := h.pn
  have hn := h.nb
  have hle : (p : Int) ≤ (n : Int) := by omega
  go_enter Tryd.func79, Tryd.ntmps79
  go_wp2_with fail
  go_quiet (fail)
  go_wp2_with fail
  go_ret
  exact ⟨rfl, h.drewN _, RF.drewN _ _⟩
theorem pass_any (h : RR N w1 a n cap bs p r fv w) (m : Nat) (z : Int) (hz : z = (m : Int)) (hm : p + m ≤ n) : Calls Tryd.prog 74 #[.pointer (some ⟨N, 0, none⟩), .int .i64 z] w fun e w' => e = .returned undef ∧ RR N w1 a n cap bs (p + m) 0 fv w' ∧ RF N w w' := by
  subst hz
  have h1 := h.setP (p + m) hm (by omega)
  have h2 := h1.setR 0 (by omega) (fun h => absurd rfl h)
  have hF : RF N w _ := (RF.set w 1 (.int .i64 ((p + m : Nat) : Int))).trans (RF.set _ 2 (.int .i64 ((0 : Nat) : Int)))
  have c1 := h.c1
  have f1 := h.f1
  have f2 := h1.f2
  have d2 := h1.c2
  have hn := h.nb
  have h2H : Hid _ := h2
  have hFH : Hid _ := hF
  rw [show ((p + m : Nat) : Int) = (p : Int) + (m : Int) by omega] at d2 f2 h2H hFH
  have hle : (p : Int) + (m : Int) ≤ (n : Int) := by omega
  clear h2 hF h1 h
  go_enter Tryd.func74, Tryd.ntmps74
  go_wp2_with fail
  first | go_end0 | (simp only [Exit.inBlock, Exit.then]; refine bodyPost_ret (results_none rfl _ _ _) rfl ?_) | refine bodyPost_ret (results_none rfl _ _ _) rfl ?_
  exact ⟨rfl, h2H.out, hFH.out⟩
set_option maxRecDepth 100000 in
theorem ragged_any (h : RR N w1 a n cap bs p r fv w) : Calls Tryd.prog 77 #[.pointer (some ⟨N, 0, none⟩)] w fun e w' => e = .returned (.bool (decide (r ≠ 0 ∧ bs (p - 1) % 2 ^ r ≠ 0))) ∧ RR N w1 a n cap bs p r fv w' ∧ RF N w w' := by
  have c0 := h.c0
  have c1 := h.c1
  have c2 := h.c2
  by_cases hr : r = 0
  · have e0 : decide (r ≠ 0 ∧ bs (p - 1) % 2 ^ r ≠ 0) = false := by simp [hr]
    have hd : decide ((0 : Int) < (r : Int)) = false := by simp [hr]
    rw [e0]
    have hH : Hid _ := h
    clear h e0
    go_enter Tryd.func77, Tryd.ntmps77
    go_wp2_with fail
    go_quiet (fail)
    go_wp2_with fail
    go_ret
    exact ⟨rfl, hH.out.drewN _, RF.drewN _ _⟩
  · have hp := h.rp hr
    have hpn := h.pn
    have hnb := h.nb
    have h8 := h.r8
    rcases h.row with h0 | ⟨b, off, rfl, hb, hbN, hB⟩
    · omega
    obtain ⟨hc, hlt⟩ := hB (p - 1) (by omega)
    obtain ⟨p1, hp1⟩ : ∃ p1, p1 = p - 1 := ⟨_, rfl⟩
    rw [← hp1] at hc hlt ⊢
    obtain ⟨y, hy⟩ : ∃ y, y = bs p1 := ⟨_, rfl⟩
    rw [← hy] at hc hlt ⊢
    have hI : (0 : Int) < (r : Int) := by omega
    have hr0 : 0 < r := by omega
    have hpI : (p : Int) - 1 = (p1 : Int) := by omega
    have hp0 : (0 : Int) ≤ (p1 : Int) := by omega
    have hp2 : (p1 : Int) < (n : Int) := by omega
    have hlow : Hid (∀ k, Calls Tryd.prog 70 #[.int .u64 (y : Int), .int .i64 (r : Int)] (w.drewN k) fun e w' => e = .returned (.int .u8 ((y % 2 ^ r : Nat) : Int)) ∧ w' = w.drewN k) := fun k => lowest_any y r (by omega) (by omega) _
    have hH : Hid _ := h
    obtain ⟨M, hM⟩ : ∃ M, M = y % 2 ^ r := ⟨_, rfl⟩
    rw [← hM] at hlow ⊢
    have hbool : Hid (((M : Int) != 0) = decide (r ≠ 0 ∧ M ≠ 0)) := by
      show _ = _
      by_cases hm : M = 0
      · simp [hm]
      · have : ¬ ((M : Int) = 0) := by omega
        simp [hm, hr]
    clear h hy hp1 hM hB
    go_enter Tryd.func77, Tryd.ntmps77
    go_wp2_with fail
    go_quiet ((go_at_call 70; exact Calls.quiet_of_same (hlow.out _)))
    go_wp2_with fail
    go_ret
    exact ⟨by rw [← hbool.out]; rfl, hH.out.drewN _, RF.drewN _ _⟩
end
end Go.Proofs.YtfijagdbdbbbpaaDoor

namespace Go.Proofs.YtfijagdbdbbbpaaDoor
open Go.RowKit
set_option linter.unusedVariables false
set_option linter.unusedSimpArgs false
section
variable {N : Nat} {w1 : World} {a : Option Addr} {n cap p r : Nat} {bs : Nat → Nat} {w : World}
theorem starts_ok (h : RR N w1 a n cap bs p r none w) (hr : ¬ (r ≠ 0 ∧ bs (p - 1) % 2 ^ r ≠ 0)) : Calls Tryd.prog 85 #[.pointer (some ⟨N, 0, none⟩)] w fun e w' => e = .returned (.bool true) ∧ RR N w1 a n cap bs p r none w' ∧ RF N w w' := by
  have hd : decide (r ≠ 0 ∧ bs (p - 1) % 2 ^ r ≠ 0) = false := decide_eq_false hr
  have hS : Hid _ := sound_any h
  have hR := ragged_any h
  rw [hd] at hR
  have hRH : Hid _ := hR
  clear hR hd h hr
  go_enter Tryd.func85, Tryd.ntmps85
  go_wp2_with fail
  refine Calls.mono hS.out ?_
  rintro e w2 ⟨rfl, hw2⟩
  have hw3 := hw2.symm
  subst hw3
  go_wp2_with fail
  refine Calls.mono hRH.out ?_
  rintro e w3 ⟨rfl, h3, F3⟩
  go_wp2_with fail
  go_ret
  exact ⟨rfl, h3, F3⟩
theorem has_ok (h : RR N w1 a n cap bs p r none w) (m : Nat) (z : Int) (hz : z = (m : Int)) (hm : p + m ≤ n) : Calls Tryd.prog 86 #[.pointer (some ⟨N, 0, none⟩), .int .i64 z] w fun e w' => e = .returned (.bool true) ∧ RR N w1 a n cap bs p r none w' ∧ RF N w w' := by
  subst hz
  have hL : Hid _ := left_any h
  have hI : ¬ (n : Int) - (p : Int) < (m : Int) := by omega
  clear h
  go_enter Tryd.func86, Tryd.ntmps86
  go_wp2_with fail
  refine Calls.mono hL.out ?_
  rintro e w3 ⟨rfl, h3, F3⟩
  go_wp2_with fail
  go_ret
  exact ⟨rfl, h3, F3⟩
end
end Go.Proofs.YtfijagdbdbbbpaaDoor

namespace Go.Proofs.YtfijagdbdbbbpaaDoor
open Go.RowKit
set_option linter.unusedVariables false
set_option linter.unusedSimpArgs false
/-- the number and the place of a fault, as the document has them. -/
def fcd : Option (Int × Int) → Int
  | none => 0
  | some x => x.2
def fpl : Option (Int × Int) → Int
  | none => 0
  | some x => x.1
/-- the document's Reader at block N. -/
structure QR (N : Nat) (w1 : World) (a : Option Addr) (n cap : Nat) (bs : Nat → Nat) (p r : Nat) (fv : Option (Int × Int)) (wx : World) : Prop where
  c0 : wx.cell? ⟨N, 0, none⟩ = some (.slice a n cap)
  c1 : wx.cell? ⟨N, 1, none⟩ = some (.int .i64 (p : Int))
  c2 : wx.cell? ⟨N, 2, none⟩ = some (.int .i64 (((8 - r) % 8 : Nat) : Int))
  c3 : wx.cell? ⟨N, 3, none⟩ = some (.int .i64 (fcd fv))
  c4 : wx.cell? ⟨N, 4, none⟩ = some (.int .i64 (fpl fv))
  c5 : wx.cell? ⟨N, 5, none⟩ = some (.int .i64 0)
  c6 : wx.cell? ⟨N, 6, none⟩ = some (.bool fv.isSome)
  c7 : wx.cell? ⟨N, 7, none⟩ = some (.bool false)
  f1 : wx.frozen? ⟨N, 1, none⟩ = false
  f2 : wx.frozen? ⟨N, 2, none⟩ = false
  f3 : wx.frozen? ⟨N, 3, none⟩ = false
  f4 : wx.frozen? ⟨N, 4, none⟩ = false
  f5 : wx.frozen? ⟨N, 5, none⟩ = false
  f6 : wx.frozen? ⟨N, 6, none⟩ = false
  f7 : wx.frozen? ⟨N, 7, none⟩ = false
  row : n = 0 ∨ ∃ b off, a = some ⟨b, off, none⟩ ∧ b < wx.heap.size ∧ b ≠ N ∧ BytesAt wx b off n bs
  nb : n ≤ 140737488355327
  nc : n ≤ cap
  pn : p ≤ n
  r8 : r < 8
  rp : r ≠ 0 → 0 < p
  fe : ∀ x, fv = some x → (x.2 == 0) = false
  b : Below N w1 wx
  sz : N < wx.heap.size
theorem QR.of {N : Nat} {w1 w2 wx w' : World} {a : Option Addr} {n cap p r : Nat} {bs : Nat → Nat} {fv : Option (Int × Int)} (h : QR N w1 a n cap bs p r fv wx) (hk : w'.heap[N]? = wx.heap[N]?) (hrow : n = 0 ∨ ∀ b off, a = some ⟨b, off, none⟩ → w'.heap[b]? = wx.heap[b]?) (hs : wx.heap.size ≤ w'.heap.size) (hb : Below N w2 w') : QR N w2 a n cap bs p r fv w' := by
  obtain ⟨c0, c1, c2, c3, c4, c5, c6, c7, f1, f2, f3, f4, f5, f6, f7, row, nb, nc, pn, r8, rp, fe, b, sz⟩ := h
  refine ⟨?_, ?_, ?_, ?_, ?_, ?_, ?_, ?_, ?_, ?_, ?_, ?_, ?_, ?_, ?_, ?_, nb, nc, pn, r8, rp, fe, hb, Nat.lt_of_lt_of_le sz hs⟩
  · rw [World.cell?_of_block (w := wx) hk]; exact c0
  · rw [World.cell?_of_block (w := wx) hk]; exact c1
  · rw [World.cell?_of_block (w := wx) hk]; exact c2
  · rw [World.cell?_of_block (w := wx) hk]; exact c3
  · rw [World.cell?_of_block (w := wx) hk]; exact c4
  · rw [World.cell?_of_block (w := wx) hk]; exact c5
  · rw [World.cell?_of_block (w := wx) hk]; exact c6
  · rw [World.cell?_of_block (w := wx) hk]; exact c7
  · rw [World.frozen?_of_block (w := wx) hk]; exact f1
  · rw [World.frozen?_of_block (w := wx) hk]; exact f2
  · rw [World.frozen?_of_block (w := wx) hk]; exact f3
  · rw [World.frozen?_of_block (w := wx) hk]; exact f4
  · rw [World.frozen?_of_block (w := wx) hk]; exact f5
  · rw [World.frozen?_of_block (w := wx) hk]; exact f6
  · rw [World.frozen?_of_block (w := wx) hk]; exact f7
  · rcases row with h0 | ⟨k, off, e, hk, hn, hB⟩
    · exact Or.inl h0
    · rcases hrow with h0 | hrow
      · exact Or.inl h0
      · refine Or.inr ⟨k, off, e, Nat.lt_of_lt_of_le hk hs, hn, fun i hi => ?_⟩
        have := hB i hi
        rw [World.cell?_of_block (w := wx) (hrow k off e)]; exact this
section
variable {N : Nat} {w1 : World} {a : Option Addr} {n cap p r : Nat} {bs : Nat → Nat} {fv : Option (Int × Int)} {w w' : World}
theorem QR.below (h : QR N w1 a n cap bs p r fv w) (hb : Below w.heap.size w w') : QR N w1 a n cap bs p r fv w' := by
  refine h.of (hb.block N h.sz) ?_ hb.size (h.b.trans (hb.mono (by have := h.sz; omega)))
  rcases h.row with h0 | ⟨k, off, e, hk, hn, hB⟩
  · exact Or.inl h0
  · refine Or.inr fun b off' e' => ?_
    rw [e] at e'
    injection e' with e'
    injection e' with e'
    subst e'
    exact hb.block _ hk
theorem QR.here (h : QR N w1 a n cap bs p r fv w) : QR N w a n cap bs p r fv w := h.of rfl (Or.inr fun _ _ _ => rfl) (Nat.le_refl _) (Below.refl _ _)
theorem QR.drewN (h : QR N w1 a n cap bs p r fv w) (k : Nat) : QR N w1 a n cap bs p r fv (w.drewN k) := h.below (below_drewN (Below.refl _ _) _)
/-- one of its cells is another one. -/
theorem QR.oth (h : QR N w1 a n cap bs p r fv w) (j : Nat) (x : Value) : (n = 0 ∨ ∃ b off, a = some ⟨b, off, none⟩ ∧ b < (w.setCell ⟨N, j, none⟩ x).heap.size ∧ b ≠ N ∧ BytesAt (w.setCell ⟨N, j, none⟩ x) b off n bs) := RR.row_set h.row
theorem QR.setP (h : QR N w1 a n cap bs p r fv w) (p' : Nat) (h1 : p' ≤ n) (h2 : p ≤ p') : QR N w1 a n cap bs p' r fv (w.setCell ⟨N, 1, none⟩ (.int .i64 (p' : Int))) := by
  have hrow := h.oth 1 (.int .i64 (p' : Int))
  obtain ⟨c0, c1, c2, c3, c4, c5, c6, c7, f1, f2, f3, f4, f5, f6, f7, row, nb, nc, pn, r8, rp, fe, b, sz⟩ := h
  refine ⟨?_, World.cell?_setCell_same _ _ _ c1, ?_, ?_, ?_, ?_, ?_, ?_, by simpa using f1, by simpa using f2, by simpa using f3, by simpa using f4, by simpa using f5, by simpa using f6, by simpa using f7, hrow, nb, nc, h1, r8, fun h => by have := rp h; omega, fe, b.setCell (p := ⟨N, 1, none⟩) (Nat.le_refl _) _, by simpa using sz⟩
  all_goals (rw [World.cell?_setCell_other _ _ _ _ (by simp)]; assumption)
theorem QR.setR (h : QR N w1 a n cap bs p r fv w) (r' : Nat) (h1 : r' < 8) (h2 : r' ≠ 0 → 0 < p) : QR N w1 a n cap bs p r' fv (w.setCell ⟨N, 2, none⟩ (.int .i64 (((8 - r') % 8 : Nat) : Int))) := by
  have hrow := h.oth 2 (.int .i64 (((8 - r') % 8 : Nat) : Int))
  obtain ⟨c0, c1, c2, c3, c4, c5, c6, c7, f1, f2, f3, f4, f5, f6, f7, row, nb, nc, pn, r8, rp, fe, b, sz⟩ := h
  refine ⟨?_, ?_, World.cell?_setCell_same _ _ _ c2, ?_, ?_, ?_, ?_, ?_, by simpa using f1, by simpa using f2, by simpa using f3, by simpa using f4, by simpa using f5, by simpa using f6, by simpa using f7, hrow, nb, nc, pn, h1, h2, fe, b.setCell (p := ⟨N, 2, none⟩) (Nat.le_refl _) _, by simpa using sz⟩
  all_goals (rw [World.cell?_setCell_other _ _ _ _ (by simp)]; assumption)
/-- the world with another fault. -/
def setBadW (w : World) (N : Nat) (q e : Int) : World := ((((w.setCell ⟨N, 3, none⟩ (.int .i64 e)).setCell ⟨N, 4, none⟩ (.int .i64 q)).setCell ⟨N, 5, none⟩ (.int .i64 0)).setCell ⟨N, 6, none⟩ (.bool true)).setCell ⟨N, 7, none⟩ (.bool false)
theorem QR.setF (h : QR N w1 a n cap bs p r fv w) (q e : Int) (he : (e == 0) = false) : QR N w1 a n cap bs p r (some (q, e)) (setBadW w N q e) := by
  have hrow := RR.row_set (j := 7) (v := .bool false) (RR.row_set (j := 6) (v := .bool true) (RR.row_set (j := 5) (v := .int .i64 0) (RR.row_set (j := 4) (v := .int .i64 q) (RR.row_set (j := 3) (v := .int .i64 e) h.row))))
  obtain ⟨c0, c1, c2, c3, c4, c5, c6, c7, f1, f2, f3, f4, f5, f6, f7, row, nb, nc, pn, r8, rp, fe, b, sz⟩ := h
  have ot : ∀ (w : World) (j k : Nat) (x : Value), j ≠ k → (w.setCell ⟨N, k, none⟩ x).cell? ⟨N, j, none⟩ = w.cell? ⟨N, j, none⟩ := fun w j k x hjk => World.cell?_setCell_other _ _ _ _ (by intro e; injection e with _ e2 _; exact hjk e2.symm)
  have bb : ∀ (w : World) (j : Nat) (x : Value), Below N w1 w → Below N w1 (w.setCell ⟨N, j, none⟩ x) := fun w j x hw => hw.setCell (p := ⟨N, j, none⟩) (Nat.le_refl _) _
  refine ⟨?_, ?_, ?_, ?_, ?_, ?_, ?_, ?_, by simpa [setBadW] using f1, by simpa [setBadW] using f2, by simpa [setBadW] using f3, by simpa [setBadW] using f4, by simpa [setBadW] using f5, by simpa [setBadW] using f6, by simpa [setBadW] using f7, hrow, nb, nc, pn, r8, rp, fun x hx => by injection hx with hx; rw [← hx]; exact he, bb _ _ _ (bb _ _ _ (bb _ _ _ (bb _ _ _ (bb _ _ _ b)))), by simpa [setBadW] using sz⟩
  · unfold setBadW; rw [ot _ _ _ _ (by omega), ot _ _ _ _ (by omega), ot _ _ _ _ (by omega), ot _ _ _ _ (by omega), ot _ _ _ _ (by omega)]; exact c0
  · unfold setBadW; rw [ot _ _ _ _ (by omega), ot _ _ _ _ (by omega), ot _ _ _ _ (by omega), ot _ _ _ _ (by omega), ot _ _ _ _ (by omega)]; exact c1
  · unfold setBadW; rw [ot _ _ _ _ (by omega), ot _ _ _ _ (by omega), ot _ _ _ _ (by omega), ot _ _ _ _ (by omega), ot _ _ _ _ (by omega)]; exact c2
  · unfold setBadW; rw [ot _ _ _ _ (by omega), ot _ _ _ _ (by omega), ot _ _ _ _ (by omega), ot _ _ _ _ (by omega)]; exact World.cell?_setCell_same _ _ _ c3
  · unfold setBadW; rw [ot _ _ _ _ (by omega), ot _ _ _ _ (by omega), ot _ _ _ _ (by omega)]; exact World.cell?_setCell_same _ _ _ (u := .int .i64 (fpl fv)) (by rw [ot _ _ _ _ (by omega)]; exact c4)
  · unfold setBadW; rw [ot _ _ _ _ (by omega), ot _ _ _ _ (by omega)]; exact World.cell?_setCell_same _ _ _ (u := .int .i64 0) (by rw [ot _ _ _ _ (by omega), ot _ _ _ _ (by omega)]; exact c5)
  · unfold setBadW; rw [ot _ _ _ _ (by omega)]; exact World.cell?_setCell_same _ _ _ (u := .bool fv.isSome) (by rw [ot _ _ _ _ (by omega), ot _ _ _ _ (by omega), ot _ _ _ _ (by omega)]; exact c6)
  · unfold setBadW; exact World.cell?_setCell_same _ _ _ (u := .bool false) (by rw [ot _ _ _ _ (by omega), ot _ _ _ _ (by omega), ot _ _ _ _ (by omega), ot _ _ _ _ (by omega)]; exact c7)
theorem RF.setBad (w : World) (N : Nat) (q e : Int) : RF N w (setBadW w N q e) := ((((RF.set w 3 _).trans (RF.set _ 4 _)).trans (RF.set _ 5 _)).trans (RF.set _ 6 _)).trans (RF.set _ 7 _)
end
end Go.Proofs.YtfijagdbdbbbpaaDoor

namespace Go.Proofs.YtfijagdbdbbbpaaDoor
open Go.RowKit
set_option linter.unusedVariables false
set_option linter.unusedSimpArgs false
theorem uBf_pos (f v : Nat) : 0 < (uBf f v).length := by cases f <;> unfold uBf <;> (try split) <;> simp
theorem uBf_get : ∀ (f v : Nat), v < 128 ^ (f + 1) → ∀ s, s < (uBf f v).length →
    (s + 1 < (uBf f v).length ∧ (uBf f v).getD s 0 = v / 128 ^ s % 128 + 128 ∧ 128 ^ (s + 1) ≤ v) ∨ (s + 1 = (uBf f v).length ∧ (uBf f v).getD s 0 = v / 128 ^ s ∧ v / 128 ^ s < 128 ∧ (s ≠ 0 → 128 ^ s ≤ v)) := by
  intro f
  induction f with
  | zero =>
    intro v hv s hs
    simp [uBf] at hs
    subst hs
    exact Or.inr ⟨by simp [uBf], by simp [uBf], by simpa using hv, fun h => absurd rfl h⟩
  | succ f ih =>
    intro v hv s hs
    unfold uBf at hs ⊢
    by_cases h : v < 128
    · rw [if_pos h] at hs ⊢
      simp at hs
      subst hs
      exact Or.inr ⟨by simp, by simp, by simpa using h, fun h => absurd rfl h⟩
    · rw [if_neg h] at hs ⊢
      have hp := uBf_pos f (v / 128)
      rcases s with _ | s
      · refine Or.inl ⟨by simp; omega, by simp, by simp; omega⟩
      · have hd : v / 128 < 128 ^ (f + 1) := by rw [Nat.div_lt_iff_lt_mul (by omega)]; rw [Nat.pow_succ] at hv; omega
        have e : v / 128 / 128 ^ s = v / 128 ^ (s + 1) := by rw [Nat.div_div_eq_div_mul, Nat.pow_succ, Nat.mul_comm]
        rcases ih (v / 128) hd s (by simpa using hs) with ⟨g1, g2, g3⟩ | ⟨g1, g2, g3, g4⟩
        · refine Or.inl ⟨by simp; omega, by rw [List.getD_cons_succ, g2, e], ?_⟩
          rw [Nat.le_div_iff_mul_le (by omega)] at g3
          rw [Nat.pow_succ]; exact g3
        · refine Or.inr ⟨by simp; omega, by rw [List.getD_cons_succ, g2, e], by rw [← e]; exact g3, fun _ => ?_⟩
          by_cases hs0 : s = 0
          · subst hs0; simp; omega
          · have := g4 hs0
            rw [Nat.le_div_iff_mul_le (by omega)] at this
            rw [Nat.pow_succ]; exact this
theorem p128 (s : Nat) : 128 ^ s = 2 ^ (7 * s) := by rw [Nat.pow_mul]
/-- a number's next seven bits. -/
theorem num_or (x s : Nat) (hx : x < 18446744073709551616) (hs : s ≤ 9) (y : Nat) (hy : y = x / 128 ^ s % 128) : y * 2 ^ (7 * s) < 18446744073709551616 ∧ (x % 128 ^ s) ||| (y * 2 ^ (7 * s)) = x % 128 ^ (s + 1) := by
  have h1 : x % 128 ^ (s + 1) = x % 128 ^ s + 128 ^ s * (x / 128 ^ s % 128) := Nat.mod_pow_succ
  have h2 : x % 128 ^ s < 2 ^ (7 * s) := by rw [← p128]; exact Nat.mod_lt _ (Nat.pow_pos (by omega))
  have h3 := Nat.two_pow_add_eq_or_of_lt h2 y
  have h4 : y * 2 ^ (7 * s) = 128 ^ s * (x / 128 ^ s % 128) := by rw [hy, Nat.mul_comm, p128]
  have h5 : x % 128 ^ (s + 1) ≤ x := Nat.mod_le _ _
  refine ⟨by omega, ?_⟩
  rw [Nat.or_comm, Nat.mul_comm, ← h3, h1, ← h4]
  rw [Nat.mul_comm]; omega
section
variable {N : Nat} {w1 : World} {a : Option Addr} {n cap p r : Nat} {bs : Nat → Nat} {w : World}
set_option maxRecDepth 100000 in
set_option maxHeartbeats 4000000 in
theorem number_ok (h : RR N w1 a n cap bs p r none w) (hr : ¬ (r ≠ 0 ∧ bs (p - 1) % 2 ^ r ≠ 0)) (x : Nat) (hx : x < 18446744073709551616) (hm : p + (uB x).length ≤ n) (hbs : ∀ i, i < (uB x).length → bs (p + i) = (uB x).getD i 0) :
    Calls Tryd.prog 72 #[.pointer (some ⟨N, 0, none⟩)] w fun e w' => e = .returned (.tuple #[.int .u64 (x : Int), .int .i64 ((uB x).length : Int)]) ∧ RR N w1 a n cap bs p r none w' ∧ RF N w w' := by
  have hS : Hid _ := starts_ok h hr
  have hl10 : (uB x).length ≤ 11 := uBf_len 10 x
  have hg : Hid (∀ s, s < (uB x).length → _) := uBf_get 10 x (by omega)
  have hbsH : Hid _ := hbs
  clear h hr hbs
  go_enter Tryd.func72, Tryd.ntmps72
  go_wp2_with fail
  refine Calls.mono hS.out ?_
  rintro e w2 ⟨rfl, h2, F2⟩
  go_wp2_with fail
  have hx10 : Hid (x / 128 ^ 9 ≤ 1) := (by omega : x / 128 ^ 9 ≤ 1)
  go_loopw [2, 3] (fun v s wr => ∃ k : Nat, k < (uB x).length ∧ v = .int .u64 ((x % 128 ^ k : Nat) : Int) ∧ s = .int .i64 (k : Int) ∧ RR N w1 a n cap bs p r none wr ∧ RF N w wr) (fun _ s _ => (uB x).length - (intOf s).toNat)
  case atStart => exact ⟨0, uBf_pos 10 x, by simp [Nat.mod_one], rfl, h2, F2⟩
  case round =>
    clear h2 F2
    obtain ⟨k, hk, rfl, rfl, hW, hF⟩ := hrel
    have hH : Hid _ := has_ok hW (k + 1) ((k : Int) + 1) (by omega) (by omega)
    have hgk := hg.out k hk
    have hby := hbsH.out k hk
    have hnn := hW.nb
    obtain ⟨V, hV0⟩ : ∃ V, V = x % 128 ^ k := ⟨_, rfl⟩
    rw [← hV0]
    have hVH : Hid _ := hV0
    clear hW hV0
    go_wp2_with fail
    refine Calls.mono hH.out ?_
    rintro e w3 ⟨rfl, h3, F3⟩
    have c0 := h3.c0
    have c1 := h3.c1
    rcases h3.row with h0 | ⟨b, off, rfl, hb, hbN, hB⟩
    · omega
    obtain ⟨q, hq⟩ : ∃ q, q = p + k := ⟨_, rfl⟩
    rw [← hq] at hby
    obtain ⟨hc, hylt⟩ := hB q (by omega)
    obtain ⟨y, hy⟩ : ∃ y, y = bs q := ⟨_, rfl⟩
    rw [← hy] at hc hylt hby
    have hqI : (p : Int) + (k : Int) = (q : Int) := by omega
    have hq0 : (0 : Int) ≤ (q : Int) := by omega
    have hqn : (q : Int) < (n : Int) := by omega
    obtain ⟨t, ht⟩ : ∃ t, t = 7 * k := ⟨_, rfl⟩
    have htI : (7 : Int) * (k : Int) = (t : Int) := by omega
    have hk9 : k ≤ 10 := by omega
    have hlen : (uB x).length = (uBf 10 x).length := rfl
    have hfacts : k ≤ 9 ∧ y % 128 = x / 128 ^ k % 128 ∧ (k = 9 → y = 1) ∧ (k ≠ 0 → y ≠ 0) ∧ ((y < 128 ∧ k + 1 = (uB x).length ∧ x % 128 ^ (k + 1) = x) ∨ (128 ≤ y ∧ k + 1 < (uB x).length)) := by
      have hub : (uB x).getD k 0 = (uBf 10 x).getD k 0 := rfl
      rw [hub] at hby
      rcases hgk with ⟨g1, g2, g3⟩ | ⟨g1, g2, g3, g4⟩
      · have h9 : k < 9 := by
          rcases Nat.lt_or_ge k 9 with h | h
          · exact h
          · have : 128 ^ (9 + 1) ≤ 128 ^ (k + 1) := Nat.pow_le_pow_right (by omega) (by omega)
            omega
        rw [g2] at hby
        have : x / 128 ^ k % 128 < 128 := Nat.mod_lt _ (by omega)
        exact ⟨by omega, by omega, by omega, by omega, Or.inr ⟨by omega, by omega⟩⟩
      · rw [g2] at hby
        have hk9' : k ≤ 9 := by
          rcases Nat.lt_or_ge 9 k with h | h
          · have h1 := g4 (by omega)
            have : 128 ^ (9 + 1) ≤ 128 ^ k := Nat.pow_le_pow_right (by omega) (by omega)
            omega
          · exact h
        have hpos : k ≠ 0 → 0 < x / 128 ^ k := fun h => Nat.div_pos (g4 h) (Nat.pow_pos (by omega))
        refine ⟨hk9', by rw [hby], fun h => ?_, fun h => by have := hpos h; omega, Or.inl ⟨by omega, by omega, ?_⟩⟩
        · subst h; have := hx10.out; have := hpos (by omega); omega
        · refine Nat.mod_eq_of_lt ?_
          rw [Nat.pow_succ, Nat.mul_comm]; exact (Nat.div_lt_iff_lt_mul (Nat.pow_pos (by omega))).1 g3
    obtain ⟨k9, hyx, hy9, hy0, hend⟩ := hfacts
    obtain ⟨ho1, ho2⟩ := num_or x k hx k9 (y % 128) hyx
    obtain ⟨Y, hY⟩ : ∃ Y, Y = y % 128 := ⟨_, rfl⟩
    obtain ⟨V2, hV2⟩ : ∃ V, V = x % 128 ^ (k + 1) := ⟨_, rfl⟩
    rw [← hY, ← ht] at ho1 ho2
    have hV := hVH.out
    rw [← hV, ← hV2] at ho2
    obtain ⟨D, hD⟩ : ∃ D, D = Y * 2 ^ t := ⟨_, rfl⟩
    rw [← hD] at ho1 ho2
    have hVlt : V < 18446744073709551616 := by rw [hV]; exact Nat.lt_of_le_of_lt (Nat.mod_le _ _) hx
    have hand : bits .and .u8 (y : Int) 127 = (Y : Int) := by
      have h7 := u8_and_nat y 127 hylt (by omega)
      rw [show (127 : Nat) = 2 ^ 7 - 1 from rfl, Nat.and_two_pow_sub_one_eq_mod] at h7
      rw [hY]; exact h7
    have hshl : IntKind.u64.wrap ((Y : Int) * 2 ^ t) = (D : Int) := by
      rw [show ((Y : Int) * 2 ^ t) = (D : Int) by rw [hD]; simp, IntKind.wrap_u64]; omega
    have hor : bits .or .u64 (V : Int) (D : Int) = (V2 : Int) := by rw [u64_or_nat V D hVlt ho1, ho2]
    have hV2H : Hid _ := hV2
    have htH : Hid _ := ht
    have hyI0 : (0 : Int) ≤ (y : Int) := by omega
    have hFF : RF N w w3 := hF.trans F3
    have h3H : Hid _ := h3
    have hYlt : Y < 128 := by rw [hY]; exact Nat.mod_lt _ (by omega)
    clear hV hVH hV2 hD hY ht hq hy hgk hby ho1 ho2 hB h3 hlen hF F3 hH hyx
    have hwY : IntKind.u64.wrap (Y : Int) = (Y : Int) := by rw [IntKind.wrap_u64]; omega
    have hy9' : k ≠ 9 ∨ y = 1 := by
      by_cases h : k = 9
      · exact Or.inr (hy9 h)
      · exact Or.inl h
    have hy0' : k = 0 ∨ 1 ≤ y := by
      by_cases h : k = 0
      · exact Or.inl h
      · exact Or.inr (by have := hy0 h; omega)
    have hyc : Hid _ := And.intro hy9' hy0'
    have hs9 : Hid (k = 9 → bits .or .u64 (V : Int) (IntKind.u64.wrap ((Y : Int) * 9223372036854775808)) = (V2 : Int)) := fun h9 => by
      have ht63 : t = 63 := by have := htH.out; omega
      have hs : IntKind.u64.wrap ((Y : Int) * 9223372036854775808) = (D : Int) := by have h := hshl; rw [ht63] at h; exact h
      rw [hs]; exact hor
    clear hy9 hy0 hy9' hy0'
    go_wp2_with fail
    go_quiet (fail)
    rcases hend with ⟨e1, e2, e3⟩ | ⟨e1, e2⟩
    · have e1I : (y : Int) < 128 := by omega
      have e3H : Hid _ := e3
      have e2H : Hid _ := e2
      clear e3 e2
      go_wp2_with fail
      all_goals first
        | (exfalso; have := hyc.out; omega)
        | (exfalso; have := hyc.out; simp only [beq_iff_eq] at *; omega)
        | (simp [bodyPost, results, Tryd.results72, go_sem]; exact ⟨⟨by rw [hV2H.out, e3H.out], by rw [← e2H.out]; omega⟩, h3H.out.drewN _, hFF.trans (RF.drewN _ _)⟩)
        | (simp [bodyPost, results, Tryd.results72, go_sem]; exact ⟨⟨by rw [hs9.out (by omega), hV2H.out, e3H.out], by rw [← e2H.out]; omega⟩, h3H.out.drewN _, hFF.trans (RF.drewN _ _)⟩)
    · have e1I : ¬ (y : Int) < 128 := by omega
      have e2H : Hid _ := e2
      clear e2
      go_wp2_with fail
      all_goals first
        | (exfalso; have := hyc.out; omega)
        | (exfalso; have := hyc.out; simp only [beq_iff_eq] at *; omega)
        | (go_roundw; exact ⟨k + 1, e2H.out, by rw [hV2H.out], by go_num, h3H.out.drewN _, hFF.trans (RF.drewN _ _)⟩; (simp [intOf]; omega))
end
end Go.Proofs.YtfijagdbdbbbpaaDoor
