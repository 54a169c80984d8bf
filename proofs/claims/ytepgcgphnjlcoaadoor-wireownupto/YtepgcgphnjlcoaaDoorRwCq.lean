
import Derived.Test.YtepgcgphnjlcoaaDoorRwBq
namespace Go.Proofs.YtepgcgphnjlcoaaDoor
open Go.RowKit
set_option linter.unusedVariables false
set_option linter.unusedSimpArgs false
theorem uBf_pos (f v : Nat) : 0 < (uBf f v).length := by cases f <;> unfold uBf <;> (try split) <;> simp
theorem uBf_get : ∀ (f v : Nat), v < 128 ^ (f + 1) → ∀ s, s < (uBf f v).length →
    (s + 1 < (uBf f v).length ∧ (uBf f v).getD s 0 = v / 128 ^ s % 128 + 128 ∧ 128 ^ (s + 1) ≤ v) ∨ (s + 1 = (uBf f v).length ∧ (uBf f v).getD s 0 = v / 128 ^ s ∧ v / 128 ^ s < 128 ∧ (s ≠ 0 → 128 ^ s ≤ v)) := by
  intro f
  induction f with
  | zero =>
    intro v hv s hs
    simp [uBf] at hs
    subst hs
    exact Or.inr ⟨by simp [uBf], by simp [uBf], by simpa using hv, fun h => absurd rfl h⟩
  | succ f ih =>
    intro v hv s hs
    unfold uBf at hs ⊢
    by_cases h : v < 128
    · rw [if_pos h] at hs ⊢
      simp at hs
      subst hs
      exact Or.inr ⟨by simp, by simp, by simpa using h, fun h => absurd rfl h⟩
    · rw [if_neg h] at hs ⊢
      have hp := uBf_pos f (v / 128)
      rcases s with _ | s
      · refine Or.inl ⟨by simp; omega, by simp, by simp; omega⟩
      · have hd : v / 128 < 128 ^ (f + 1) := by rw [Nat.div_lt_iff_lt_mul (by omega)]; rw [Nat.pow_succ] at hv; omega
        have e : v / 128 / 128 ^ s = v / 128 ^ (s + 1) := by rw [Nat.div_div_eq_div_mul, Nat.pow_succ, Nat.mul_comm]
        rcases ih (v / 128) hd s (by simpa using hs) with ⟨g1, g2, g3⟩ | ⟨g1, g2, g3, g4⟩
        · refine Or.inl ⟨by simp; omega, by rw [List.getD_cons_succ, g2, e], ?_⟩
          rw [Nat.le_div_iff_mul_le (by omega)] at g3
          rw [Nat.pow_succ]; exact g3
        · refine Or.inr ⟨by simp; omega, by rw [List.getD_cons_succ, g2, e], by rw [← e]; exact g3, fun _ => ?_⟩
          by_cases hs0 : s = 0
          · subst hs0; simp; omega
          · have := g4 hs0
            rw [Nat.le_div_iff_mul_le (by omega)] at this
            rw [Nat.pow_succ]; exact this
theorem p128 (s : Nat) : 128 ^ s = 2 ^ (7 * s) := by rw [Nat.pow_mul]
/-- a number's next seven bits. -/
theorem num_or (x s : Nat) (hx : x < 18446744073709551616) (hs : s ≤ 9) (y : Nat) (hy : y = x / 128 ^ s % 128) : y * 2 ^ (7 * s) < 18446744073709551616 ∧ (x % 128 ^ s) ||| (y * 2 ^ (7 * s)) = x % 128 ^ (s + 1) := by
  have h1 : x % 128 ^ (s + 1) = x % 128 ^ s + 128 ^ s * (x / 128 ^ s % 128) := Nat.mod_pow_succ
  have h2 : x % 128 ^ s < 2 ^ (7 * s) := by rw [← p128]; exact Nat.mod_lt _ (Nat.pow_pos (by omega))
  have h3 := Nat.two_pow_add_eq_or_of_lt h2 y
  have h4 : y * 2 ^ (7 * s) = 128 ^ s * (x / 128 ^ s % 128) := by rw [hy, Nat.mul_comm, p128]
  have h5 : x % 128 ^ (s + 1) ≤ x := Nat.mod_le _ _
  refine ⟨by omega, ?_⟩
  rw [Nat.or_comm, Nat.mul_comm, ← h3, h1, ← h4]
  rw [Nat.mul_comm]; omega
section
variable {N : Nat} {w1 : World} {a : Option Addr} {n cap p r : Nat} {bs : Nat → Nat} {w : World}
set_option maxRecDepth 100000 in
set_option maxHeartbeats 4000000 in
theorem number_ok (h : RR N w1 a n cap bs p r none w) (hr : ¬ (r ≠ 0 ∧ bs (p - 1) % 2 ^ r ≠ 0)) (x : Nat) (hx : x < 18446744073709551616) (hm : p + (uB x).length ≤ n) (hbs : ∀ i, i < (uB x).length → bs (p + i) = (uB x).getD i 0) :
    Calls Tryd.prog 69 #[.pointer (some ⟨N, 0, none⟩)] w fun e w' => e = .returned (.tuple #[.int .u64 (x : Int), .int .i64 ((uB x).length : Int)]) ∧ RR N w1 a n cap bs p r none w' ∧ RF N w w' := by
  have hS : Hid _ := starts_ok h hr
  have hl10 : (uB x).length ≤ 11 := uBf_len 10 x
  have hg : Hid (∀ s, s < (uB x).length → _) := uBf_get 10 x (by omega)
  have hbsH : Hid _ := hbs
  clear h hr hbs
  go_enter Tryd.func69, Tryd.ntmps69
  go_wp2_with fail
  refine Calls.mono hS.out ?_
  rintro e w2 ⟨rfl, h2, F2⟩
  go_wp2_with fail
  have hx10 : Hid (x / 128 ^ 9 ≤ 1) := (by omega : x / 128 ^ 9 ≤ 1)
  go_loopw [2, 3] (fun v s wr => ∃ k : Nat, k < (uB x).length ∧ v = .int .u64 ((x % 128 ^ k : Nat) : Int) ∧ s = .int .i64 (k : Int) ∧ RR N w1 a n cap bs p r none wr ∧ RF N w wr) (fun _ s _ => (uB x).length - (intOf s).toNat)
  case atStart => exact ⟨0, uBf_pos 10 x, by simp [Nat.mod_one], rfl, h2, F2⟩
  case round =>
    clear h2 F2
    obtain ⟨k, hk, rfl, rfl, hW, hF⟩ := hrel
    have hH : Hid _ := has_ok hW (k + 1) ((k : Int) + 1) (by omega) (by omega)
    have hgk := hg.out k hk
    have hby := hbsH.out k hk
    have hnn := hW.nb
    obtain ⟨V, hV0⟩ : ∃ V, V = x % 128 ^ k := ⟨_, rfl⟩
    rw [← hV0]
    have hVH : Hid _ := hV0
    clear hW hV0
    go_wp2_with fail
    refine Calls.mono hH.out ?_
    rintro e w3 ⟨rfl, h3, F3⟩
    have c0 := h3.c0
    have c1 := h3.c1
    rcases h3.row with h0 | ⟨b, off, rfl, hb, hbN, hB⟩
    · omega
    obtain ⟨q, hq⟩ : ∃ q, q = p + k := ⟨_, rfl⟩
    rw [← hq] at hby
    obtain ⟨hc, hylt⟩ := hB q (by omega)
    obtain ⟨y, hy⟩ : ∃ y, y = bs q := ⟨_, rfl⟩
    rw [← hy] at hc hylt hby
    have hqI : (p : Int) + (k : Int) = (q : Int) := by omega
    have hq0 : (0 : Int) ≤ (q : Int) := by omega
    have hqn : (q : Int) < (n : Int) := by omega
    obtain ⟨t, ht⟩ : ∃ t, t = 7 * k := ⟨_, rfl⟩
    have htI : (7 : Int) * (k : Int) = (t : Int) := by omega
    have hk9 : k ≤ 10 := by omega
    have hlen : (uB x).length = (uBf 10 x).length := rfl
    have hfacts : k ≤ 9 ∧ y % 128 = x / 128 ^ k % 128 ∧ (k = 9 → y = 1) ∧ (k ≠ 0 → y ≠ 0) ∧ ((y < 128 ∧ k + 1 = (uB x).length ∧ x % 128 ^ (k + 1) = x) ∨ (128 ≤ y ∧ k + 1 < (uB x).length)) := by
      have hub : (uB x).getD k 0 = (uBf 10 x).getD k 0 := rfl
      rw [hub] at hby
      rcases hgk with ⟨g1, g2, g3⟩ | ⟨g1, g2, g3, g4⟩
      · have h9 : k < 9 := by
          rcases Nat.lt_or_ge k 9 with h | h
          · exact h
          · have : 128 ^ (9 + 1) ≤ 128 ^ (k + 1) := Nat.pow_le_pow_right (by omega) (by omega)
            omega
        rw [g2] at hby
        have : x / 128 ^ k % 128 < 128 := Nat.mod_lt _ (by omega)
        exact ⟨by omega, by omega, by omega, by omega, Or.inr ⟨by omega, by omega⟩⟩
      · rw [g2] at hby
        have hk9' : k ≤ 9 := by
          rcases Nat.lt_or_ge 9 k with h | h
          · have h1 := g4 (by omega)
            have : 128 ^ (9 + 1) ≤ 128 ^ k := Nat.pow_le_pow_right (by omega) (by omega)
            omega
          · exact h
        have hpos : k ≠ 0 → 0 < x / 128 ^ k := fun h => Nat.div_pos (g4 h) (Nat.pow_pos (by omega))
        refine ⟨hk9', by rw [hby], fun h => ?_, fun h => by have := hpos h; omega, Or.inl ⟨by omega, by omega, ?_⟩⟩
        · subst h; have := hx10.out; have := hpos (by omega); omega
        · refine Nat.mod_eq_of_lt ?_
          rw [Nat.pow_succ, Nat.mul_comm]; exact (Nat.div_lt_iff_lt_mul (Nat.pow_pos (by omega))).1 g3
    obtain ⟨k9, hyx, hy9, hy0, hend⟩ := hfacts
    obtain ⟨ho1, ho2⟩ := num_or x k hx k9 (y % 128) hyx
    obtain ⟨Y, hY⟩ : ∃ Y, Y = y % 128 := ⟨_, rfl⟩
    obtain ⟨V2, hV2⟩ : ∃ V, V = x % 128 ^ (k + 1) := ⟨_, rfl⟩
    rw [← hY, ← ht] at ho1 ho2
    have hV := hVH.out
    rw [← hV, ← hV2] at ho2
    obtain ⟨D, hD⟩ : ∃ D, D = Y * 2 ^ t := ⟨_, rfl⟩
    rw [← hD] at ho1 ho2
    have hVlt : V < 18446744073709551616 := by rw [hV]; exact Nat.lt_of_le_of_lt (Nat.mod_le _ _) hx
    have hand : bits .and .u8 (y : Int) 127 = (Y : Int) := by
      have h7 := u8_and_nat y 127 hylt (by omega)
      rw [show (127 : Nat) = 2 ^ 7 - 1 from rfl, Nat.and_two_pow_sub_one_eq_mod] at h7
      rw [hY]; exact h7
    have hshl : IntKind.u64.wrap ((Y : Int) * 2 ^ t) = (D : Int) := by
      rw [show ((Y : Int) * 2 ^ t) = (D : Int) by rw [hD]; simp, IntKind.wrap_u64]; omega
    have hor : bits .or .u64 (V : Int) (D : Int) = (V2 : Int) := by rw [u64_or_nat V D hVlt ho1, ho2]
    have hV2H : Hid _ := hV2
    have htH : Hid _ := ht
    have hyI0 : (0 : Int) ≤ (y : Int) := by omega
    have hFF : RF N w w3 := hF.trans F3
    have h3H : Hid _ := h3
    have hYlt : Y < 128 := by rw [hY]; exact Nat.mod_lt _ (by omega)
    clear hV hVH hV2 hD hY ht hq hy hgk hby ho1 ho2 hB h3 hlen hF F3 hH hyx
    have hwY : IntKind.u64.wrap (Y : Int) = (Y : Int) := by rw [IntKind.wrap_u64]; omega
    have hy9' : k ≠ 9 ∨ y = 1 := by
      by_cases h : k = 9
      · exact Or.inr (hy9 h)
      · exact Or.inl h
    have hy0' : k = 0 ∨ 1 ≤ y := by
      by_cases h : k = 0
      · exact Or.inl h
      · exact Or.inr (by have := hy0 h; omega)
    have hyc : Hid _ := And.intro hy9' hy0'
    have hs9 : Hid (k = 9 → bits .or .u64 (V : Int) (IntKind.u64.wrap ((Y : Int) * 9223372036854775808)) = (V2 : Int)) := fun h9 => by
      have ht63 : t = 63 := by have := htH.out; omega
      have hs : IntKind.u64.wrap ((Y : Int) * 9223372036854775808) = (D : Int) := by have h := hshl; rw [ht63] at h; exact h
      rw [hs]; exact hor
    clear hy9 hy0 hy9' hy0'
    go_wp2_with fail
    go_quiet (fail)
    rcases hend with ⟨e1, e2, e3⟩ | ⟨e1, e2⟩
    · have e1I : (y : Int) < 128 := by omega
      have e3H : Hid _ := e3
      have e2H : Hid _ := e2
      clear e3 e2
      go_wp2_with fail
      all_goals first
        | (exfalso; have := hyc.out; omega)
        | (exfalso; have := hyc.out; simp only [beq_iff_eq] at *; omega)
        | (simp [bodyPost, results, Tryd.results69, go_sem]; exact ⟨⟨by rw [hV2H.out, e3H.out], by rw [← e2H.out]; omega⟩, h3H.out.drewN _, hFF.trans (RF.drewN _ _)⟩)
        | (simp [bodyPost, results, Tryd.results69, go_sem]; exact ⟨⟨by rw [hs9.out (by omega), hV2H.out, e3H.out], by rw [← e2H.out]; omega⟩, h3H.out.drewN _, hFF.trans (RF.drewN _ _)⟩)
    · have e1I : ¬ (y : Int) < 128 := by omega
      have e2H : Hid _ := e2
      clear e2
      go_wp2_with fail
      all_goals first
        | (exfalso; have := hyc.out; omega)
        | (exfalso; have := hyc.out; simp only [beq_iff_eq] at *; omega)
        | (go_roundw; exact ⟨k + 1, e2H.out, by rw [hV2H.out], by go_num, h3H.out.drewN _, hFF.trans (RF.drewN _ _)⟩; (simp [intOf]; omega))
end
end Go.Proofs.YtepgcgphnjlcoaaDoor
