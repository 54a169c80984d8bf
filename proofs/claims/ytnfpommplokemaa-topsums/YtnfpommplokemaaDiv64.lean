
import Derived.Test.YtnfpommplokemaaKnuth
import Derived.Test.YtnfpommplokemaaShelf
import Derived.Test.YtnfpommplokemaaNum3
import Derived.LoopTactic
import Derived.Laws.Shifts
import Derived.Laws.Bits64b
namespace Go.Proofs.Ytnfpommplokemaa
open Go.RowKit Go.Shelf
set_option linter.unusedVariables false

theorem w_id (x : Int) (h0 : 0 ≤ x) (h1 : x < 18446744073709551616) : IntKind.u64.wrap x = x := by rw [IntKind.wrap_u64]; omega
theorem w_quo (u Y1 : Int) (hu : 0 ≤ u) (hu2 : u < 18446744073709551616) (h : 1 ≤ Y1) : IntKind.u64.wrap (u.tdiv Y1) = u / Y1 := by
  rw [Int.tdiv_eq_ediv_of_nonneg hu]
  have := Int.ediv_le_self Y1 hu
  exact w_id _ (Int.ediv_nonneg hu (by omega)) (by omega)
theorem w_rem (u Y1 : Int) (hu : 0 ≤ u) (hu2 : u < 18446744073709551616) (h : 1 ≤ Y1) : IntKind.u64.wrap (u - IntKind.u64.wrap (u / Y1 * Y1)) = u % Y1 := by
  have e := Int.mul_ediv_add_emod u Y1
  have r0 := Int.emod_nonneg u (show Y1 ≠ 0 by omega)
  have r1 := Int.emod_lt_of_pos u (show 0 < Y1 by omega)
  have r2 : 0 ≤ Y1 * (u / Y1) := Int.mul_nonneg (by omega) (Int.ediv_nonneg hu (by omega))
  rw [Int.mul_comm (u / Y1) Y1]
  rw [IntKind.wrap_u64, IntKind.wrap_u64]
  generalize Y1 * (u / Y1) = p at *
  omega
theorem w_left (u d q Y V : Int) (hV : u * 4294967296 + d - q * Y = V) (h0 : 0 ≤ V) (h1 : V < 18446744073709551616) :
    IntKind.u64.wrap (IntKind.u64.wrap (IntKind.u64.wrap (u * 4294967296) + d) - IntKind.u64.wrap (q * Y)) = V := by
  rw [IntKind.wrap_u64, IntKind.wrap_u64, IntKind.wrap_u64, IntKind.wrap_u64]
  generalize q * Y = p at *
  omega

set_option maxRecDepth 100000 in
set_option maxHeartbeats 8000000 in
theorem div64_walk (hi lo y : Int) (h1 : U64 hi) (h2 : U64 lo) (h3 : U64 y) (hlt : hi < y) (h0 : 0 < hi) (L : Nat) (hL : Lib.bitLen y.toNat = L) (hL1 : 1 ≤ L) (hL2 : L ≤ 64)
    (Y Y1 Y0 u n n1 n0 : Int) (hY : IntKind.u64.wrap (y * 2 ^ (64 - L)) = Y) (hYY : KY Y Y1 Y0) (hY1 : Y / 4294967296 = Y1) (hY0 : bits BinOp.and IntKind.u64 Y 4294967295 = Y0) (hYa : 9223372036854775808 ≤ Y) (hYb : Y < 18446744073709551616)
    (hU : bits BinOp.or IntKind.u64 (IntKind.u64.wrap (hi * 2 ^ (64 - L))) (lo / 2 ^ (64 - (64 - L))) = u) (hUa : 0 ≤ u) (hUb : u < Y)
    (hN : IntKind.u64.wrap (lo * 2 ^ (64 - L)) = n) (hN1 : n / 4294967296 = n1) (hN0 : bits BinOp.and IntKind.u64 n 4294967295 = n0) (n1a : 0 ≤ n1) (n1b : n1 < 4294967296) (n0a : 0 ≤ n0) (n0b : n0 < 4294967296)
    (Q1 V Q0 R : Int) (hQ1 : (u * 4294967296 + n1) / Y = Q1) (hV : u * 4294967296 + n1 - Q1 * Y = V) (hVa : 0 ≤ V) (hVb : V < Y) (hQ0 : (V * 4294967296 + n0) / Y = Q0) (hR : V * 4294967296 + n0 - Q0 * Y = R) (hRa : 0 ≤ R) (hRb : R < Y)
    (hQ1a : 0 ≤ Q1) (hQ1b : Q1 < 4294967296) (hQ0a : 0 ≤ Q0) (hQ0b : Q0 < 4294967296) (w : World) :
    Calls Try.prog 16 #[.int .u64 hi, .int .u64 lo, .int .u64 y] w fun e w' => e = .returned (.tuple #[.int .u64 (Q1 * 4294967296 + Q0), .int .u64 (R / 2 ^ (64 - L))]) ∧ Below w.heap.size w w' := by
  obtain ⟨h1a, h1b⟩ := h1
  obtain ⟨h2a, h2b⟩ := h2
  obtain ⟨h3a, h3b⟩ := h3
  have e0 : (y == 0) = false := by rw [beq_eq_false_iff_ne]; omega
  have e1 : ¬ y ≤ hi := by omega
  have e2 : (hi == 0) = false := by rw [beq_eq_false_iff_ne]; omega
  have hL3 : (L : Int) ≤ 64 := by omega
  have hL4 : 1 ≤ (L : Int) := by omega
  have y1a := hYY.a
  have y1b := hYY.b
  have y0a := hYY.c
  have y0b := hYY.d
  have y1z : ¬ Y1 = 0 := by omega
  have g1 := w_quo u Y1 hUa (by omega) (by omega)
  have g2 := w_rem u Y1 hUa (by omega) (by omega)
  have g3 := w_left u n1 Q1 Y V hV hVa (by omega)
  have g4 := w_quo V Y1 hVa (by omega) (by omega)
  have g5 := w_rem V Y1 hVa (by omega) (by omega)
  have g6 := w_left V n0 Q0 Y R hR hRa (by omega)
  have HQ1 : Hid ((u * 4294967296 + n1) / Y = Q1) := hQ1
  have HQ0 : Hid ((V * 4294967296 + n0) / Y = Q0) := hQ0
  clear hQ1 hQ0 hV hR
  go_enter Try.func16, Try.ntmps16
  go_wp2_with fail
  refine (Try.bits_LeadingZeros64 y _ (by omega) (by omega)).mono ?_
  rw [hL]
  rintro e w1 ⟨rfl, rfl⟩
  go_wp2_with fail
  clear hU hN hY g1 g2 hN1 hN0 hY1 hY0 hL
  go_loop [15, 16] (fun q r => ∃ a b : Int, q = .int .u64 a ∧ r = .int .u64 b ∧ KI Y Y1 Y0 u n1 a b) (fun q _ => (intOf q).toNat)
  case atStart => exact ⟨_, _, rfl, rfl, ki_start Y Y1 Y0 u n1 hYY hUa hUb n1a n1b⟩
  case round =>
    obtain ⟨a, b, rfl, rfl, hk⟩ := hrel
    have a0 := hk.q0
    have a1 := hk.q1
    have b0 := hk.r0
    have b1 := hk.r1
    by_cases c1 : 4294967296 ≤ a
    · have hn := (ki_next Y Y1 Y0 u n1 a b hYY hk hUa hUb n1a n1b (Or.inl c1)).2.1
      by_cases c2 : 4294967296 ≤ b + Y1
      · have hx := ki_break Y Y1 Y0 u n1 a b hYY hk hUa hUb n1a n1b (Or.inl c1) c2
        rw [HQ1.out] at hx
        obtain rfl : a = Q1 + 1 := by omega
        clear hx hk hn
        go_wp2_with fail
        go_loop [16, 18] (fun r q => ∃ a b : Int, q = .int .u64 a ∧ r = .int .u64 b ∧ KI Y Y1 Y0 V n0 a b) (fun _ q => (intOf q).toNat)
        case atStart => exact ⟨_, _, rfl, rfl, ki_start Y Y1 Y0 V n0 hYY hVa hVb n0a n0b⟩
        case round =>
          obtain ⟨a, b, rfl, rfl, hk⟩ := hrel
          have a0 := hk.q0
          have a1 := hk.q1
          have b0 := hk.r0
          have b1 := hk.r1
          by_cases c1 : 4294967296 ≤ a
          · have hn := (ki_next Y Y1 Y0 V n0 a b hYY hk hVa hVb n0a n0b (Or.inl c1)).2.1
            by_cases c2 : 4294967296 ≤ b + Y1
            · have hx := ki_break Y Y1 Y0 V n0 a b hYY hk hVa hVb n0a n0b (Or.inl c1) c2
              rw [HQ0.out] at hx
              obtain rfl : a = Q0 + 1 := by omega
              clear hx hk hn
              go_wp2_with fail
              go_ret2
              exact ⟨rfl, Below.refl _ _⟩
            · go_wp2_with fail
              go_round
              case rel => exact ⟨_, _, rfl, rfl, ki_round Y Y1 Y0 V n0 a b hYY hk hVa hVb n0a n0b (Or.inl c1) c2⟩
              case measure => simp [intOf]; omega
          · have hp1 : 0 ≤ a * Y0 := Int.mul_nonneg a0 y0a
            have hp2 : a * Y0 < 18446744073709551616 := by
              have : a * Y0 ≤ 4294967295 * 4294967295 := Int.mul_le_mul (by omega) (by omega) y0a (by omega)
              omega
            by_cases c3 : 4294967296 * b + n0 < a * Y0
            · have hn := (ki_next Y Y1 Y0 V n0 a b hYY hk hVa hVb n0a n0b (Or.inr c3)).2.1
              by_cases c2 : 4294967296 ≤ b + Y1
              · have hx := ki_break Y Y1 Y0 V n0 a b hYY hk hVa hVb n0a n0b (Or.inr c3) c2
                rw [HQ0.out] at hx
                obtain rfl : a = Q0 + 1 := by omega
                clear hx hk hn
                go_wp2_with fail
                go_ret2
                exact ⟨rfl, Below.refl _ _⟩
              · go_wp2_with fail
                go_round
                case rel => exact ⟨_, _, rfl, rfl, ki_round Y Y1 Y0 V n0 a b hYY hk hVa hVb n0a n0b (Or.inr c3) c2⟩
                case measure => simp [intOf]; omega
            · have hx := ki_fit Y Y1 Y0 V n0 a b hYY hk.e hk.lo (by omega)
              rw [HQ0.out] at hx
              subst hx
              clear hk
              go_wp2_with fail
              go_ret2
              exact ⟨rfl, Below.refl _ _⟩
      · go_wp2_with fail
        go_round
        case rel => exact ⟨_, _, rfl, rfl, ki_round Y Y1 Y0 u n1 a b hYY hk hUa hUb n1a n1b (Or.inl c1) c2⟩
        case measure => simp [intOf]; omega
    · have hp1 : 0 ≤ a * Y0 := Int.mul_nonneg a0 y0a
      have hp2 : a * Y0 < 18446744073709551616 := by
        have : a * Y0 ≤ 4294967295 * 4294967295 := Int.mul_le_mul (by omega) (by omega) y0a (by omega)
        omega
      by_cases c3 : 4294967296 * b + n1 < a * Y0
      · have hn := (ki_next Y Y1 Y0 u n1 a b hYY hk hUa hUb n1a n1b (Or.inr c3)).2.1
        by_cases c2 : 4294967296 ≤ b + Y1
        · have hx := ki_break Y Y1 Y0 u n1 a b hYY hk hUa hUb n1a n1b (Or.inr c3) c2
          rw [HQ1.out] at hx
          obtain rfl : a = Q1 + 1 := by omega
          clear hx hk hn
          go_wp2_with fail
          go_loop [16, 18] (fun r q => ∃ a b : Int, q = .int .u64 a ∧ r = .int .u64 b ∧ KI Y Y1 Y0 V n0 a b) (fun _ q => (intOf q).toNat)
          case atStart => exact ⟨_, _, rfl, rfl, ki_start Y Y1 Y0 V n0 hYY hVa hVb n0a n0b⟩
          case round =>
            obtain ⟨a, b, rfl, rfl, hk⟩ := hrel
            have a0 := hk.q0
            have a1 := hk.q1
            have b0 := hk.r0
            have b1 := hk.r1
            by_cases c1 : 4294967296 ≤ a
            · have hn := (ki_next Y Y1 Y0 V n0 a b hYY hk hVa hVb n0a n0b (Or.inl c1)).2.1
              by_cases c2 : 4294967296 ≤ b + Y1
              · have hx := ki_break Y Y1 Y0 V n0 a b hYY hk hVa hVb n0a n0b (Or.inl c1) c2
                rw [HQ0.out] at hx
                obtain rfl : a = Q0 + 1 := by omega
                clear hx hk hn
                go_wp2_with fail
                go_ret2
                exact ⟨rfl, Below.refl _ _⟩
              · go_wp2_with fail
                go_round
                case rel => exact ⟨_, _, rfl, rfl, ki_round Y Y1 Y0 V n0 a b hYY hk hVa hVb n0a n0b (Or.inl c1) c2⟩
                case measure => simp [intOf]; omega
            · have hp1 : 0 ≤ a * Y0 := Int.mul_nonneg a0 y0a
              have hp2 : a * Y0 < 18446744073709551616 := by
                have : a * Y0 ≤ 4294967295 * 4294967295 := Int.mul_le_mul (by omega) (by omega) y0a (by omega)
                omega
              by_cases c3 : 4294967296 * b + n0 < a * Y0
              · have hn := (ki_next Y Y1 Y0 V n0 a b hYY hk hVa hVb n0a n0b (Or.inr c3)).2.1
                by_cases c2 : 4294967296 ≤ b + Y1
                · have hx := ki_break Y Y1 Y0 V n0 a b hYY hk hVa hVb n0a n0b (Or.inr c3) c2
                  rw [HQ0.out] at hx
                  obtain rfl : a = Q0 + 1 := by omega
                  clear hx hk hn
                  go_wp2_with fail
                  go_ret2
                  exact ⟨rfl, Below.refl _ _⟩
                · go_wp2_with fail
                  go_round
                  case rel => exact ⟨_, _, rfl, rfl, ki_round Y Y1 Y0 V n0 a b hYY hk hVa hVb n0a n0b (Or.inr c3) c2⟩
                  case measure => simp [intOf]; omega
              · have hx := ki_fit Y Y1 Y0 V n0 a b hYY hk.e hk.lo (by omega)
                rw [HQ0.out] at hx
                subst hx
                clear hk
                go_wp2_with fail
                go_ret2
                exact ⟨rfl, Below.refl _ _⟩
        · go_wp2_with fail
          go_round
          case rel => exact ⟨_, _, rfl, rfl, ki_round Y Y1 Y0 u n1 a b hYY hk hUa hUb n1a n1b (Or.inr c3) c2⟩
          case measure => simp [intOf]; omega
      · have hx := ki_fit Y Y1 Y0 u n1 a b hYY hk.e hk.lo (by omega)
        rw [HQ1.out] at hx
        subst hx
        clear hk
        go_wp2_with fail
        go_loop [16, 18] (fun r q => ∃ a b : Int, q = .int .u64 a ∧ r = .int .u64 b ∧ KI Y Y1 Y0 V n0 a b) (fun _ q => (intOf q).toNat)
        case atStart => exact ⟨_, _, rfl, rfl, ki_start Y Y1 Y0 V n0 hYY hVa hVb n0a n0b⟩
        case round =>
          obtain ⟨a, b, rfl, rfl, hk⟩ := hrel
          have a0 := hk.q0
          have a1 := hk.q1
          have b0 := hk.r0
          have b1 := hk.r1
          by_cases c1 : 4294967296 ≤ a
          · have hn := (ki_next Y Y1 Y0 V n0 a b hYY hk hVa hVb n0a n0b (Or.inl c1)).2.1
            by_cases c2 : 4294967296 ≤ b + Y1
            · have hx := ki_break Y Y1 Y0 V n0 a b hYY hk hVa hVb n0a n0b (Or.inl c1) c2
              rw [HQ0.out] at hx
              obtain rfl : a = Q0 + 1 := by omega
              clear hx hk hn
              go_wp2_with fail
              go_ret2
              exact ⟨rfl, Below.refl _ _⟩
            · go_wp2_with fail
              go_round
              case rel => exact ⟨_, _, rfl, rfl, ki_round Y Y1 Y0 V n0 a b hYY hk hVa hVb n0a n0b (Or.inl c1) c2⟩
              case measure => simp [intOf]; omega
          · have hp1 : 0 ≤ a * Y0 := Int.mul_nonneg a0 y0a
            have hp2 : a * Y0 < 18446744073709551616 := by
              have : a * Y0 ≤ 4294967295 * 4294967295 := Int.mul_le_mul (by omega) (by omega) y0a (by omega)
              omega
            by_cases c3 : 4294967296 * b + n0 < a * Y0
            · have hn := (ki_next Y Y1 Y0 V n0 a b hYY hk hVa hVb n0a n0b (Or.inr c3)).2.1
              by_cases c2 : 4294967296 ≤ b + Y1
              · have hx := ki_break Y Y1 Y0 V n0 a b hYY hk hVa hVb n0a n0b (Or.inr c3) c2
                rw [HQ0.out] at hx
                obtain rfl : a = Q0 + 1 := by omega
                clear hx hk hn
                go_wp2_with fail
                go_ret2
                exact ⟨rfl, Below.refl _ _⟩
              · go_wp2_with fail
                go_round
                case rel => exact ⟨_, _, rfl, rfl, ki_round Y Y1 Y0 V n0 a b hYY hk hVa hVb n0a n0b (Or.inr c3) c2⟩
                case measure => simp [intOf]; omega
            · have hx := ki_fit Y Y1 Y0 V n0 a b hYY hk.e hk.lo (by omega)
              rw [HQ0.out] at hx
              subst hx
              clear hk
              go_wp2_with fail
              go_ret2
              exact ⟨rfl, Below.refl _ _⟩
end Go.Proofs.Ytnfpommplokemaa
