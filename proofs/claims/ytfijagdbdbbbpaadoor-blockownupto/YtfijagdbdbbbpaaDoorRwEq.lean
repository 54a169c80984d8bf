
import Derived.Test.YtfijagdbdbbbpaaDoorBuF
import Derived.Laws.DeepNot64
namespace Go.Proofs.YtfijagdbdbbbpaaDoor
open Go.RowKit
set_option linter.unusedVariables false
set_option linter.unusedSimpArgs false
/-- d bits from the bit number q on. -/
def rdB (bs : Nat → Nat) (q : Nat) : Nat → Nat
  | 0 => 0
  | d + 1 => 2 * rdB bs q d + bs ((q + d) / 8) / 2 ^ (7 - (q + d) % 8) % 2
theorem rdB_lt (bs : Nat → Nat) (q d : Nat) : rdB bs q d < 2 ^ d := by
  induction d with
  | zero => simp [rdB]
  | succ d ih => have : bs ((q + d) / 8) / 2 ^ (7 - (q + d) % 8) % 2 < 2 := Nat.mod_lt _ (by omega); simp only [rdB, Nat.pow_succ]; omega
theorem rdB_chunk (bs : Nat → Nat) (q d p r : Nat) (hp : 0 < p) (hr : r ≤ 8) (hpos : q + d + r = 8 * p) : ∀ now, now ≤ r → rdB bs q (d + now) = rdB bs q d * 2 ^ now + bs (p - 1) / 2 ^ (r - now) % 2 ^ now := by
  intro now
  induction now with
  | zero => intro _; simp [Nat.mod_one]
  | succ now ih =>
    intro h
    have e1 : (q + (d + now)) / 8 = p - 1 := by omega
    have e2 : 7 - (q + (d + now)) % 8 = r - (now + 1) := by omega
    rw [← Nat.add_assoc]
    simp only [rdB]
    rw [ih (by omega), e1, e2]
    have e3 : bs (p - 1) / 2 ^ (r - now) = bs (p - 1) / 2 ^ (r - (now + 1)) / 2 := by
      rw [Nat.div_div_eq_div_mul, ← Nat.pow_succ]; congr 2; omega
    rw [e3]
    generalize bs (p - 1) / 2 ^ (r - (now + 1)) = B
    have e4 : B % 2 ^ (now + 1) = 2 * (B / 2 % 2 ^ now) + B % 2 := by
      rw [Nat.pow_succ, Nat.mul_comm (2 ^ now) 2, Nat.mod_mul]; omega
    rw [e4, Nat.pow_succ, Nat.mul_add, ← Nat.mul_assoc, Nat.mul_comm 2 (rdB bs q d), Nat.mul_assoc, Nat.mul_comm 2 (2 ^ now)]
    omega
/-- what was written as bits is read. -/
theorem rdB_of (bs : Nat → Nat) (q x c : Nat) (h : ∀ j, j < c → bs ((q + j) / 8) / 2 ^ (7 - (q + j) % 8) % 2 = x / 2 ^ (c - 1 - j) % 2) : rdB bs q c = x % 2 ^ c := by
  have key : ∀ d, d ≤ c → rdB bs q d = x / 2 ^ (c - d) % 2 ^ d := by
    intro d
    induction d with
    | zero => intro _; simp [rdB, Nat.mod_one]
    | succ d ih =>
      intro hd
      simp only [rdB]
      rw [ih (by omega), h d (by omega), show c - 1 - d = c - (d + 1) by omega]
      have e3 : x / 2 ^ (c - d) = x / 2 ^ (c - (d + 1)) / 2 := by
        rw [Nat.div_div_eq_div_mul, ← Nat.pow_succ]; congr 2; omega
      rw [e3]
      generalize x / 2 ^ (c - (d + 1)) = B
      rw [Nat.pow_succ, Nat.mul_comm (2 ^ d) 2, Nat.mod_mul]; omega
  have := key c (Nat.le_refl _)
  rw [Nat.sub_self, Nat.pow_zero, Nat.div_one] at this
  exact this
theorem i64_xor_m1 (a : Nat) (ha : a < 9223372036854775808) : bits .xor .i64 (a : Int) (-1) = -1 - (a : Int) := by
  show IntKind.i64.wrap ((BitVec.ofInt 64 (a : Int) ^^^ BitVec.ofInt 64 (-1)).toNat : Int) = _
  have h1 : BitVec.ofInt 64 (-1) = BitVec.allOnes 64 := by decide
  rw [h1, BitVec.xor_allOnes, BitVec.toNat_not, ofInt_u64 a (by omega)]
  simp [IntKind.wrap, IntKind.bits, IntKind.signed]
  omega
theorem i64_xor_0 (a : Nat) (ha : a < 9223372036854775808) : bits .xor .i64 (a : Int) 0 = (a : Int) := by
  show IntKind.i64.wrap ((BitVec.ofInt 64 (a : Int) ^^^ BitVec.ofInt 64 0).toNat : Int) = _
  have h1 : BitVec.ofInt 64 0 = 0#64 := by decide
  rw [h1, BitVec.xor_zero, ofInt_u64 a (by omega)]
  exact IntWalk.i64_in _ (by omega)
theorem unfold_xor (z : Int) (hz : -9223372036854775808 ≤ z ∧ z ≤ 9223372036854775807) :
    bits .xor .i64 (wrap64 ((foldZ z : Int) / 2)) (wrap64 (-wrap64 (bits .and .u64 (foldZ z : Int) 1))) = z := by
  have hf := foldZ_lt z hz
  have ha : bits .and .u64 (foldZ z : Int) 1 = ((foldZ z % 2 : Nat) : Int) := by
    have h := u64_and_nat (foldZ z) 1 hf (by omega)
    rw [Nat.and_one_is_mod] at h; exact h
  rw [ha]
  by_cases h : 0 ≤ z
  · have e : foldZ z = (2 * z).toNat := by unfold foldZ; rw [if_pos h]
    have e1 : wrap64 ((foldZ z : Int) / 2) = ((z.toNat : Nat) : Int) := by rw [e]; unfold wrap64; omega
    have e2 : wrap64 (-wrap64 ((foldZ z % 2 : Nat) : Int)) = 0 := by rw [e]; unfold wrap64; omega
    rw [e1, e2, i64_xor_0 _ (by omega)]; omega
  · have e : foldZ z = (-2 * z - 1).toNat := by unfold foldZ; rw [if_neg h]
    have e1 : wrap64 ((foldZ z : Int) / 2) = (((-z - 1).toNat : Nat) : Int) := by rw [e]; unfold wrap64; omega
    have e2 : wrap64 (-wrap64 ((foldZ z % 2 : Nat) : Int)) = -1 := by rw [e]; unfold wrap64; omega
    rw [e1, e2, i64_xor_m1 _ (by omega)]; omega
section
variable {N : Nat} {w1 : World} {a : Option Addr} {n cap p r : Nat} {bs : Nat → Nat} {w : World}
set_option maxRecDepth 100000 in
set_option maxHeartbeats 4000000 in
theorem rInt_ok (h : RR N w1 a n cap bs p r none w) (hr : ¬ (r ≠ 0 ∧ bs (p - 1) % 2 ^ r ≠ 0)) (z : Int) (hz : -9223372036854775808 ≤ z ∧ z ≤ 9223372036854775807) (hm : p + (uB (foldZ z)).length ≤ n) (hbs : ∀ i, i < (uB (foldZ z)).length → bs (p + i) = (uB (foldZ z)).getD i 0) :
    Calls Tryd.prog 29 #[.pointer (some ⟨N, 0, none⟩)] w fun e w' => e = .returned (.int .i64 z) ∧ RR N w1 a n cap bs (p + (uB (foldZ z)).length) 0 none w' ∧ RF N w w' := by
  have hS : Hid _ := rUint_ok h hr (foldZ z) (foldZ_lt z hz) hm hbs 18446744073709551615 18446744073709551615 rfl (by have := foldZ_lt z hz; omega)
  clear h hr hbs
  go_enter Tryd.func29, Tryd.ntmps29
  go_wp2_with fail
  refine Calls.mono hS.out ?_
  rintro e w2 ⟨rfl, h2, F2⟩
  have hx : Hid _ := unfold_xor z hz
  have h2H : Hid _ := h2
  clear h2
  go_wp2_with fail
  go_ret
  exact ⟨congrArg (fun y => Ending.returned (Value.int .i64 y)) hx.out, h2H.out, F2⟩
set_option maxRecDepth 100000 in
set_option maxHeartbeats 8000000 in
theorem rBits_ok (h : RR N w1 a n cap bs p r none w) (hr8 : r < 8) (k : Int) (q : Nat) (hq : q + r = 8 * p) (hm : q + broughtN k ≤ 8 * n) :
    Calls Tryd.prog 75 #[.pointer (some ⟨N, 0, none⟩), .int .i64 k] w fun e w' => e = .returned (.int .u64 (rdB bs q (broughtN k) : Int)) ∧ (∃ p' r', RR N w1 a n cap bs p' r' none w' ∧ r' < 8 ∧ q + broughtN k + r' = 8 * p') ∧ RF N w w' := by
  have hS : Hid _ := sound_any h
  have hbk := broughtN_le k
  obtain ⟨c, hcc⟩ : ∃ c, c = broughtN k := ⟨_, rfl⟩
  rw [← hcc] at hbk hm ⊢
  have hccH : Hid _ := hcc
  clear hcc
  have c2 := h.c2
  by_cases hcr : r < c
  · have hcrI : (r : Int) < (c : Int) := by omega
    have hH : Hid _ := has_ok h ((c - r + 7) / 8) (((c : Int) - (r : Int) + 7) / 8) (by omega) (by omega)
    clear h
    go_enter Tryd.func75, Tryd.ntmps75
    go_wp2_with fail
    refine Calls.mono hS.out ?_
    rintro e w2 ⟨rfl, hw2⟩
    have hw3 := hw2.symm
    subst hw3
    go_wp2_with fail
    refine (within_any k _).mono ?_
    rintro e w2 ⟨rfl, hw4⟩
    have hw5 := hw4.symm
    subst hw5
    rw [← hccH.out]
    clear hw2 hw4 hccH
    go_wp2_with fail
    refine Calls.mono hH.out ?_
    rintro e w6 ⟨rfl, h6, F6⟩
    clear c2 hH hS
    go_wp2_with fail
    go_loopw [1, 5] (fun i v wr => ∃ (j p' r' : Nat), j ≤ c ∧ i = .int .i64 (j : Int) ∧ v = .int .u64 (rdB bs q (c - j) : Int) ∧ RR N w1 a n cap bs p' r' none wr ∧ r' < 8 ∧ q + (c - j) + r' = 8 * p' ∧ RF N w wr) (fun i _ _ => (intOf i).toNat)
    case atStart => exact ⟨c, p, r, Nat.le_refl _, rfl, by rw [Nat.sub_self]; rfl, h6, hr8, by omega, F6⟩
    case round =>
      obtain ⟨j, p', r', hjc, rfl, rfl, hW, hr', hpos0, hF⟩ := hrel
      have hpn := hW.pn
      have hnb := hW.nb
      rcases Nat.eq_zero_or_pos j with hj0 | hj0
      · subst hj0
        have hpos1 : q + c + r' = 8 * p' := hpos0
        rw [Nat.sub_zero]
        have hWH : Hid _ := hW
        clear hW
        go_wp2_with fail
        go_ret
        exact ⟨rfl, ⟨p', r', hWH.out, hr', hpos1⟩, hF⟩
      · have hjI : (0 : Int) < (j : Int) := by omega
        by_cases hz : r' = 0
        · have z2 : wr.cell? ⟨N, 2, none⟩ = some (.int .i64 0) := by have := hW.c2; rw [hz] at this; exact this
          have hP1 : Hid _ := pass_any hW 1 1 rfl (by omega)
          clear hW
          go_wp2_with fail
          refine Calls.mono hP1.out ?_
          rintro e w3 ⟨rfl, h3, F3⟩
          obtain ⟨R, hR⟩ : ∃ R, R = 8 := ⟨_, rfl⟩
          obtain ⟨P, hPe⟩ : ∃ P, P = p' + 1 := ⟨_, rfl⟩
          rw [← hPe] at h3
          have hP : 0 < P := by omega
          have hR8 : R ≤ 8 := by omega
          have hFE : R = 8 := hR
          have hX : RR N w1 a n cap bs P R none (w3.setCell ⟨N, 2, none⟩ (.int .i64 8)) := by have h9 := h3.setR 8 (by omega) (fun _ => hP); rw [hR]; exact h9
          have FX : RF N w (w3.setCell ⟨N, 2, none⟩ (.int .i64 8)) := (hF.trans F3).trans (RF.set _ _ _)
          have hpos : q + (c - j) + R = 8 * P := by omega
          have g2 := h3.c2
          have g2f := h3.f2
          have g2s := h3.sz
          clear h3 F3 hF hPe
          by_cases hcR : j ≤ R
          · rcases hX.row with h0 | ⟨b, off, rfl, hb, hbN, hB⟩
            · omega
            obtain ⟨P1, hP1⟩ : ∃ P1, P1 = P - 1 := ⟨_, rfl⟩
            obtain ⟨hc, hylt⟩ := hB P1 (by omega)
            obtain ⟨y, hy⟩ : ∃ y, y = bs P1 := ⟨_, rfl⟩
            rw [← hy] at hc hylt
            obtain ⟨now, hnow⟩ : ∃ now, now = j := ⟨_, rfl⟩
            obtain ⟨j2, hj2⟩ : ∃ j2, j2 = 0 := ⟨_, rfl⟩
            obtain ⟨R2, hR2⟩ : ∃ R2, R2 = R - j := ⟨_, rfl⟩
            have hcase : (j : Int) ≤ 8 := by omega
            have hfr : 8 - (j : Int) = (R2 : Int) := by omega
            have q1 : 1 ≤ now := by omega
            have q2 : now ≤ R := by omega
            have q3 : now + j2 = j := by omega
            have q4 : R2 = R - now := by omega
            obtain ⟨W, hW4⟩ : ∃ W, W = (w3.setCell ⟨N, 2, none⟩ (.int .i64 8)).setCell ⟨N, 2, none⟩ (.int .i64 (R2 : Int)) := ⟨_, rfl⟩
            have hW4H : Hid _ := hW4
            obtain ⟨L, hL⟩ : ∃ L, L = y / 2 ^ R2 % 2 ^ now := ⟨_, rfl⟩
            have hpn : 2 ^ now ≤ 2 ^ 8 := Nat.pow_le_pow_right (by omega) (by omega)
            have hLlt : L < 2 ^ now := by rw [hL]; exact Nat.mod_lt _ (Nat.pow_pos (by omega))
            have hlow : Hid (∀ k, Calls Tryd.prog 70 #[.int .u64 ((y : Int) / 2 ^ R2), .int .i64 (j : Int)] (W.drewN k) fun e w' => e = .returned (.int .u8 (L : Int)) ∧ w' = W.drewN k) := fun k => by
              have h1 := lowest_any (y / 2 ^ R2) now (Nat.lt_of_le_of_lt (Nat.div_le_self _ _) (by omega)) (by omega) (W.drewN k)
              rw [← hL] at h1
              rw [show ((y : Int) / 2 ^ R2) = ((y / 2 ^ R2 : Nat) : Int) by simp, show (j : Int) = (now : Int) by omega]
              exact h1
            obtain ⟨V, hV⟩ : ∃ V, V = rdB bs q (c - j) := ⟨_, rfl⟩
            have hVlt : V < 2 ^ (c - j) := by rw [hV]; exact rdB_lt _ _ _
            have hsum : V * 2 ^ now + L = rdB bs q (c - j2) := by
              rw [show c - j2 = c - j + now by omega, rdB_chunk bs q (c - j) P R hP hR8 hpos now q2, ← hV, ← hP1, ← hy, ← q4, ← hL]
            have hbig : V * 2 ^ now + L < 18446744073709551616 := by
              rw [hsum]
              have h1 := rdB_lt bs q (c - j2)
              have h2 : 2 ^ (c - j2) ≤ 2 ^ 64 := Nat.pow_le_pow_right (by omega) (by omega)
              have h3 : (2 : Nat) ^ 64 = 18446744073709551616 := by decide
              omega
            obtain ⟨D, hD⟩ : ∃ D, D = V * 2 ^ now := ⟨_, rfl⟩
            rw [← hD] at hbig hsum
            have hshl : IntKind.u64.wrap ((V : Int) * 2 ^ j) = (D : Int) := by
              have h1 : ((V : Int) * 2 ^ j) = (D : Int) := by rw [hD, hnow]; simp
              rw [h1, IntKind.wrap_u64]; omega
            have hLw : IntKind.u64.wrap (L : Int) = (L : Int) := by rw [IntKind.wrap_u64]; omega
            have hor : bits .or .u64 (D : Int) (L : Int) = ((D + L : Nat) : Int) := by
              rw [u64_or_nat D L (by omega) (by omega)]
              have h5 := Nat.two_pow_add_eq_or_of_lt hLlt V
              rw [Nat.mul_comm, ← hD] at h5
              rw [h5]
            have hyw : IntKind.u64.wrap ((y : Int) / 2 ^ R2) = ((y : Int) / 2 ^ R2) := by
              have key : ∀ Z : Nat, Z ≤ y → IntKind.u64.wrap (Z : Int) = (Z : Int) := fun Z hZ => by rw [IntKind.wrap_u64]; omega
              rw [show ((y : Int) / 2 ^ R2) = ((y / 2 ^ R2 : Nat) : Int) by simp]
              exact key _ (Nat.div_le_self _ _)
            obtain ⟨V2, hV2⟩ : ∃ V2, V2 = D + L := ⟨_, rfl⟩
            rw [← hV2] at hor hsum
            have hY0 := hX.setR R2 (by omega) (fun _ => hP)
            have hFY : RF N w _ := FX.trans (RF.set (w3.setCell ⟨N, 2, none⟩ (.int .i64 8)) 2 (.int .i64 (R2 : Int)))
            have hcz : ((R2 : Nat) : Int) = (R2 : Int) := rfl
            rw [← hW4] at hY0 hFY
            have hrel2 : Hid (∀ k, ∃ (j p' r' : Nat), j ≤ c ∧ Value.int .i64 0 = .int .i64 (j : Int) ∧ Value.int .u64 (V2 : Int) = .int .u64 (rdB bs q (c - j) : Int) ∧ RR N w1 (some ⟨b, off, none⟩) n cap bs p' r' none (W.drewN k) ∧ r' < 8 ∧ q + (c - j) + r' = 8 * p' ∧ RF N w (W.drewN k)) := fun k =>
              ⟨j2, P, R2, by omega, by rw [hj2]; rfl, by rw [← hsum], hY0.drewN k, by omega, by omega, hFY.trans (RF.drewN _ _)⟩
            have c0 := hY0.c0
            have c1 := hY0.c1
            have c2' := hY0.c2
            skip
            have hcY : W.cell? ⟨b, off + P1, none⟩ = some (.int .u8 (y : Int)) := by rw [hW4, World.cell?_setCell_other _ _ _ _ (by intro e; injection e with e1; omega)]; exact hc
            have hP1I : (P : Int) - 1 = (P1 : Int) := by omega
            have hP10 : (0 : Int) ≤ (P1 : Int) := by omega
            have hP1n : (P1 : Int) < (n : Int) := by omega
            have hXc2 := hX.c2
            have hXf2 := hX.f2
            have hXs := hX.sz
            rw [← hV]
            clear hW4 hV hL hD hV2 hsum hbig hY0 hFY hB hy hP1 hX FX hVlt hLlt hpn hnow hR2 hpos hc q4 hj2
            go_wp2_with fail
            rw [← hW4H.out]
            go_quiet ((go_at_call 70; exact Calls.quiet_of_same (hlow.out _)))
            go_wp2_with fail
            go_roundw
            case rel => exact hrel2.out _
            case measure => simp [intOf] <;> omega
          · skip
            rcases hX.row with h0 | ⟨b, off, rfl, hb, hbN, hB⟩
            · omega
            obtain ⟨P1, hP1⟩ : ∃ P1, P1 = P - 1 := ⟨_, rfl⟩
            obtain ⟨hc, hylt⟩ := hB P1 (by omega)
            obtain ⟨y, hy⟩ : ∃ y, y = bs P1 := ⟨_, rfl⟩
            rw [← hy] at hc hylt
            obtain ⟨now, hnow⟩ : ∃ now, now = R := ⟨_, rfl⟩
            obtain ⟨j2, hj2⟩ : ∃ j2, j2 = j - R := ⟨_, rfl⟩
            obtain ⟨R2, hR2⟩ : ∃ R2, R2 = 0 := ⟨_, rfl⟩
            have hcase : 8 < (j : Int) := by omega
            have hcase2 : ¬ (j : Int) ≤ 8 := by omega
            have hjI : (j : Int) - 8 = (j2 : Int) := by omega
            have q1 : 1 ≤ now := by omega
            have q2 : now ≤ R := by omega
            have q3 : now + j2 = j := by omega
            have q4 : R2 = R - now := by omega
            obtain ⟨W, hW4⟩ : ∃ W, W = (w3.setCell ⟨N, 2, none⟩ (.int .i64 8)).setCell ⟨N, 2, none⟩ (.int .i64 0) := ⟨_, rfl⟩
            have hW4H : Hid _ := hW4
            obtain ⟨L, hL⟩ : ∃ L, L = y / 2 ^ R2 % 2 ^ now := ⟨_, rfl⟩
            have hpn : 2 ^ now ≤ 2 ^ 8 := Nat.pow_le_pow_right (by omega) (by omega)
            have hLlt : L < 2 ^ now := by rw [hL]; exact Nat.mod_lt _ (Nat.pow_pos (by omega))
            have hlow : Hid (∀ k, Calls Tryd.prog 70 #[.int .u64 (y : Int), .int .i64 8] (W.drewN k) fun e w' => e = .returned (.int .u8 (L : Int)) ∧ w' = W.drewN k) := fun k => by
              have h1 := lowest_any (y / 2 ^ R2) now (Nat.lt_of_le_of_lt (Nat.div_le_self _ _) (by omega)) (by omega) (W.drewN k)
              rw [← hL] at h1
              rw [show (y : Int) = ((y / 2 ^ R2 : Nat) : Int) by rw [hR2]; simp, show 8 = (now : Int) by omega]
              exact h1
            obtain ⟨V, hV⟩ : ∃ V, V = rdB bs q (c - j) := ⟨_, rfl⟩
            have hVlt : V < 2 ^ (c - j) := by rw [hV]; exact rdB_lt _ _ _
            have hsum : V * 2 ^ now + L = rdB bs q (c - j2) := by
              rw [show c - j2 = c - j + now by omega, rdB_chunk bs q (c - j) P R hP hR8 hpos now q2, ← hV, ← hP1, ← hy, ← q4, ← hL]
            have hbig : V * 2 ^ now + L < 18446744073709551616 := by
              rw [hsum]
              have h1 := rdB_lt bs q (c - j2)
              have h2 : 2 ^ (c - j2) ≤ 2 ^ 64 := Nat.pow_le_pow_right (by omega) (by omega)
              have h3 : (2 : Nat) ^ 64 = 18446744073709551616 := by decide
              omega
            obtain ⟨D, hD⟩ : ∃ D, D = V * 2 ^ now := ⟨_, rfl⟩
            rw [← hD] at hbig hsum
            have hshl : IntKind.u64.wrap ((V : Int) * 256) = (D : Int) := by
              have h1 : ((V : Int) * 256) = (D : Int) := by rw [hD, hnow]; rw [hFE]; simp
              rw [h1, IntKind.wrap_u64]; omega
            have hLw : IntKind.u64.wrap (L : Int) = (L : Int) := by rw [IntKind.wrap_u64]; omega
            have hor : bits .or .u64 (D : Int) (L : Int) = ((D + L : Nat) : Int) := by
              rw [u64_or_nat D L (by omega) (by omega)]
              have h5 := Nat.two_pow_add_eq_or_of_lt hLlt V
              rw [Nat.mul_comm, ← hD] at h5
              rw [h5]
            have hyw : IntKind.u64.wrap (y : Int) = (y : Int) := by
              have key : ∀ Z : Nat, Z ≤ y → IntKind.u64.wrap (Z : Int) = (Z : Int) := fun Z hZ => by rw [IntKind.wrap_u64]; omega
              rw [show (y : Int) = ((y / 2 ^ R2 : Nat) : Int) by rw [hR2]; simp]
              exact key _ (Nat.div_le_self _ _)
            obtain ⟨V2, hV2⟩ : ∃ V2, V2 = D + L := ⟨_, rfl⟩
            rw [← hV2] at hor hsum
            have hY0 := hX.setR R2 (by omega) (fun _ => hP)
            have hFY : RF N w _ := FX.trans (RF.set (w3.setCell ⟨N, 2, none⟩ (.int .i64 8)) 2 (.int .i64 0))
            rw [hR2] at hY0
            rw [show ((0 : Nat) : Int) = 0 from rfl] at hY0
            rw [← hW4] at hY0 hFY
            have hrel2 : Hid (∀ k, ∃ (j p' r' : Nat), j ≤ c ∧ Value.int .i64 (j2 : Int) = .int .i64 (j : Int) ∧ Value.int .u64 (V2 : Int) = .int .u64 (rdB bs q (c - j) : Int) ∧ RR N w1 (some ⟨b, off, none⟩) n cap bs p' r' none (W.drewN k) ∧ r' < 8 ∧ q + (c - j) + r' = 8 * p' ∧ RF N w (W.drewN k)) := fun k =>
              ⟨j2, P, 0, by omega, rfl, by rw [← hsum], hY0.drewN k, by omega, by omega, hFY.trans (RF.drewN _ _)⟩
            have c0 := hY0.c0
            have c1 := hY0.c1
            have c2' := hY0.c2
            skip
            have hcY : W.cell? ⟨b, off + P1, none⟩ = some (.int .u8 (y : Int)) := by rw [hW4, World.cell?_setCell_other _ _ _ _ (by intro e; injection e with e1; omega)]; exact hc
            have hP1I : (P : Int) - 1 = (P1 : Int) := by omega
            have hP10 : (0 : Int) ≤ (P1 : Int) := by omega
            have hP1n : (P1 : Int) < (n : Int) := by omega
            have hXc2 := hX.c2
            have hXf2 := hX.f2
            have hXs := hX.sz
            rw [← hV]
            clear hW4 hV hL hD hV2 hsum hbig hY0 hFY hB hy hP1 hX FX hVlt hLlt hpn hnow hR2 hpos hc q4 hj2
            go_wp2_with fail
            rw [← hW4H.out]
            go_quiet ((go_at_call 70; exact Calls.quiet_of_same (hlow.out _)))
            go_wp2_with fail
            go_roundw
            case rel => exact hrel2.out _
            case measure => simp [intOf] <;> omega
        · obtain ⟨R, hR⟩ : ∃ R, R = r' := ⟨_, rfl⟩
          obtain ⟨P, hPe⟩ : ∃ P, P = p' := ⟨_, rfl⟩
          rw [← hR] at hW hpos0 hr' hz
          rw [← hPe] at hW hpos0 hpn
          have hP : 0 < P := by omega
          have hR8 : R ≤ 8 := by omega
          have hRI : ¬ (R : Int) = 0 := by omega
          have hX := hW
          have FX := hF
          have hpos := hpos0
          have g2 := hX.c2
          have g2f := hX.f2
          have g2s := hX.sz
          clear hW hF hR hPe
          by_cases hcR : j ≤ R
          · rcases hX.row with h0 | ⟨b, off, rfl, hb, hbN, hB⟩
            · omega
            obtain ⟨P1, hP1⟩ : ∃ P1, P1 = P - 1 := ⟨_, rfl⟩
            obtain ⟨hc, hylt⟩ := hB P1 (by omega)
            obtain ⟨y, hy⟩ : ∃ y, y = bs P1 := ⟨_, rfl⟩
            rw [← hy] at hc hylt
            obtain ⟨now, hnow⟩ : ∃ now, now = j := ⟨_, rfl⟩
            obtain ⟨j2, hj2⟩ : ∃ j2, j2 = 0 := ⟨_, rfl⟩
            obtain ⟨R2, hR2⟩ : ∃ R2, R2 = R - j := ⟨_, rfl⟩
            have hcase : (j : Int) ≤ (R : Int) := by omega
            have hfr : (R : Int) - (j : Int) = (R2 : Int) := by omega
            have q1 : 1 ≤ now := by omega
            have q2 : now ≤ R := by omega
            have q3 : now + j2 = j := by omega
            have q4 : R2 = R - now := by omega
            obtain ⟨W, hW4⟩ : ∃ W, W = wr.setCell ⟨N, 2, none⟩ (.int .i64 (R2 : Int)) := ⟨_, rfl⟩
            have hW4H : Hid _ := hW4
            obtain ⟨L, hL⟩ : ∃ L, L = y / 2 ^ R2 % 2 ^ now := ⟨_, rfl⟩
            have hpn : 2 ^ now ≤ 2 ^ 8 := Nat.pow_le_pow_right (by omega) (by omega)
            have hLlt : L < 2 ^ now := by rw [hL]; exact Nat.mod_lt _ (Nat.pow_pos (by omega))
            have hlow : Hid (∀ k, Calls Tryd.prog 70 #[.int .u64 ((y : Int) / 2 ^ R2), .int .i64 (j : Int)] (W.drewN k) fun e w' => e = .returned (.int .u8 (L : Int)) ∧ w' = W.drewN k) := fun k => by
              have h1 := lowest_any (y / 2 ^ R2) now (Nat.lt_of_le_of_lt (Nat.div_le_self _ _) (by omega)) (by omega) (W.drewN k)
              rw [← hL] at h1
              rw [show ((y : Int) / 2 ^ R2) = ((y / 2 ^ R2 : Nat) : Int) by simp, show (j : Int) = (now : Int) by omega]
              exact h1
            obtain ⟨V, hV⟩ : ∃ V, V = rdB bs q (c - j) := ⟨_, rfl⟩
            have hVlt : V < 2 ^ (c - j) := by rw [hV]; exact rdB_lt _ _ _
            have hsum : V * 2 ^ now + L = rdB bs q (c - j2) := by
              rw [show c - j2 = c - j + now by omega, rdB_chunk bs q (c - j) P R hP hR8 hpos now q2, ← hV, ← hP1, ← hy, ← q4, ← hL]
            have hbig : V * 2 ^ now + L < 18446744073709551616 := by
              rw [hsum]
              have h1 := rdB_lt bs q (c - j2)
              have h2 : 2 ^ (c - j2) ≤ 2 ^ 64 := Nat.pow_le_pow_right (by omega) (by omega)
              have h3 : (2 : Nat) ^ 64 = 18446744073709551616 := by decide
              omega
            obtain ⟨D, hD⟩ : ∃ D, D = V * 2 ^ now := ⟨_, rfl⟩
            rw [← hD] at hbig hsum
            have hshl : IntKind.u64.wrap ((V : Int) * 2 ^ j) = (D : Int) := by
              have h1 : ((V : Int) * 2 ^ j) = (D : Int) := by rw [hD, hnow]; simp
              rw [h1, IntKind.wrap_u64]; omega
            have hLw : IntKind.u64.wrap (L : Int) = (L : Int) := by rw [IntKind.wrap_u64]; omega
            have hor : bits .or .u64 (D : Int) (L : Int) = ((D + L : Nat) : Int) := by
              rw [u64_or_nat D L (by omega) (by omega)]
              have h5 := Nat.two_pow_add_eq_or_of_lt hLlt V
              rw [Nat.mul_comm, ← hD] at h5
              rw [h5]
            have hyw : IntKind.u64.wrap ((y : Int) / 2 ^ R2) = ((y : Int) / 2 ^ R2) := by
              have key : ∀ Z : Nat, Z ≤ y → IntKind.u64.wrap (Z : Int) = (Z : Int) := fun Z hZ => by rw [IntKind.wrap_u64]; omega
              rw [show ((y : Int) / 2 ^ R2) = ((y / 2 ^ R2 : Nat) : Int) by simp]
              exact key _ (Nat.div_le_self _ _)
            obtain ⟨V2, hV2⟩ : ∃ V2, V2 = D + L := ⟨_, rfl⟩
            rw [← hV2] at hor hsum
            have hY0 := hX.setR R2 (by omega) (fun _ => hP)
            have hFY : RF N w _ := FX.trans (RF.set wr 2 (.int .i64 (R2 : Int)))
            have hcz : ((R2 : Nat) : Int) = (R2 : Int) := rfl
            rw [← hW4] at hY0 hFY
            have hrel2 : Hid (∀ k, ∃ (j p' r' : Nat), j ≤ c ∧ Value.int .i64 0 = .int .i64 (j : Int) ∧ Value.int .u64 (V2 : Int) = .int .u64 (rdB bs q (c - j) : Int) ∧ RR N w1 (some ⟨b, off, none⟩) n cap bs p' r' none (W.drewN k) ∧ r' < 8 ∧ q + (c - j) + r' = 8 * p' ∧ RF N w (W.drewN k)) := fun k =>
              ⟨j2, P, R2, by omega, by rw [hj2]; rfl, by rw [← hsum], hY0.drewN k, by omega, by omega, hFY.trans (RF.drewN _ _)⟩
            have c0 := hY0.c0
            have c1 := hY0.c1
            have c2' := hY0.c2
            skip
            have hcY : W.cell? ⟨b, off + P1, none⟩ = some (.int .u8 (y : Int)) := by rw [hW4, World.cell?_setCell_other _ _ _ _ (by intro e; injection e with e1; omega)]; exact hc
            have hP1I : (P : Int) - 1 = (P1 : Int) := by omega
            have hP10 : (0 : Int) ≤ (P1 : Int) := by omega
            have hP1n : (P1 : Int) < (n : Int) := by omega
            have hXc2 := hX.c2
            have hXf2 := hX.f2
            have hXs := hX.sz
            rw [← hV]
            clear hW4 hV hL hD hV2 hsum hbig hY0 hFY hB hy hP1 hX FX hVlt hLlt hpn hnow hR2 hpos hc q4 hj2
            go_wp2_with fail
            rw [← hW4H.out]
            go_quiet ((go_at_call 70; exact Calls.quiet_of_same (hlow.out _)))
            go_wp2_with fail
            go_roundw
            case rel => exact hrel2.out _
            case measure => simp [intOf] <;> omega
          · skip
            rcases hX.row with h0 | ⟨b, off, rfl, hb, hbN, hB⟩
            · omega
            obtain ⟨P1, hP1⟩ : ∃ P1, P1 = P - 1 := ⟨_, rfl⟩
            obtain ⟨hc, hylt⟩ := hB P1 (by omega)
            obtain ⟨y, hy⟩ : ∃ y, y = bs P1 := ⟨_, rfl⟩
            rw [← hy] at hc hylt
            obtain ⟨now, hnow⟩ : ∃ now, now = R := ⟨_, rfl⟩
            obtain ⟨j2, hj2⟩ : ∃ j2, j2 = j - R := ⟨_, rfl⟩
            obtain ⟨R2, hR2⟩ : ∃ R2, R2 = 0 := ⟨_, rfl⟩
            have hcase : (R : Int) < (j : Int) := by omega
            have hcase2 : ¬ (j : Int) ≤ (R : Int) := by omega
            have hjI : (j : Int) - (R : Int) = (j2 : Int) := by omega
            have q1 : 1 ≤ now := by omega
            have q2 : now ≤ R := by omega
            have q3 : now + j2 = j := by omega
            have q4 : R2 = R - now := by omega
            obtain ⟨W, hW4⟩ : ∃ W, W = wr.setCell ⟨N, 2, none⟩ (.int .i64 0) := ⟨_, rfl⟩
            have hW4H : Hid _ := hW4
            obtain ⟨L, hL⟩ : ∃ L, L = y / 2 ^ R2 % 2 ^ now := ⟨_, rfl⟩
            have hpn : 2 ^ now ≤ 2 ^ 8 := Nat.pow_le_pow_right (by omega) (by omega)
            have hLlt : L < 2 ^ now := by rw [hL]; exact Nat.mod_lt _ (Nat.pow_pos (by omega))
            have hlow : Hid (∀ k, Calls Tryd.prog 70 #[.int .u64 (y : Int), .int .i64 (R : Int)] (W.drewN k) fun e w' => e = .returned (.int .u8 (L : Int)) ∧ w' = W.drewN k) := fun k => by
              have h1 := lowest_any (y / 2 ^ R2) now (Nat.lt_of_le_of_lt (Nat.div_le_self _ _) (by omega)) (by omega) (W.drewN k)
              rw [← hL] at h1
              rw [show (y : Int) = ((y / 2 ^ R2 : Nat) : Int) by rw [hR2]; simp, show (R : Int) = (now : Int) by omega]
              exact h1
            obtain ⟨V, hV⟩ : ∃ V, V = rdB bs q (c - j) := ⟨_, rfl⟩
            have hVlt : V < 2 ^ (c - j) := by rw [hV]; exact rdB_lt _ _ _
            have hsum : V * 2 ^ now + L = rdB bs q (c - j2) := by
              rw [show c - j2 = c - j + now by omega, rdB_chunk bs q (c - j) P R hP hR8 hpos now q2, ← hV, ← hP1, ← hy, ← q4, ← hL]
            have hbig : V * 2 ^ now + L < 18446744073709551616 := by
              rw [hsum]
              have h1 := rdB_lt bs q (c - j2)
              have h2 : 2 ^ (c - j2) ≤ 2 ^ 64 := Nat.pow_le_pow_right (by omega) (by omega)
              have h3 : (2 : Nat) ^ 64 = 18446744073709551616 := by decide
              omega
            obtain ⟨D, hD⟩ : ∃ D, D = V * 2 ^ now := ⟨_, rfl⟩
            rw [← hD] at hbig hsum
            have hshl : IntKind.u64.wrap ((V : Int) * 2 ^ R) = (D : Int) := by
              have h1 : ((V : Int) * 2 ^ R) = (D : Int) := by rw [hD, hnow]; simp
              rw [h1, IntKind.wrap_u64]; omega
            have hLw : IntKind.u64.wrap (L : Int) = (L : Int) := by rw [IntKind.wrap_u64]; omega
            have hor : bits .or .u64 (D : Int) (L : Int) = ((D + L : Nat) : Int) := by
              rw [u64_or_nat D L (by omega) (by omega)]
              have h5 := Nat.two_pow_add_eq_or_of_lt hLlt V
              rw [Nat.mul_comm, ← hD] at h5
              rw [h5]
            have hyw : IntKind.u64.wrap (y : Int) = (y : Int) := by
              have key : ∀ Z : Nat, Z ≤ y → IntKind.u64.wrap (Z : Int) = (Z : Int) := fun Z hZ => by rw [IntKind.wrap_u64]; omega
              rw [show (y : Int) = ((y / 2 ^ R2 : Nat) : Int) by rw [hR2]; simp]
              exact key _ (Nat.div_le_self _ _)
            obtain ⟨V2, hV2⟩ : ∃ V2, V2 = D + L := ⟨_, rfl⟩
            rw [← hV2] at hor hsum
            have hY0 := hX.setR R2 (by omega) (fun _ => hP)
            have hFY : RF N w _ := FX.trans (RF.set wr 2 (.int .i64 0))
            rw [hR2] at hY0
            rw [show ((0 : Nat) : Int) = 0 from rfl] at hY0
            rw [← hW4] at hY0 hFY
            have hrel2 : Hid (∀ k, ∃ (j p' r' : Nat), j ≤ c ∧ Value.int .i64 (j2 : Int) = .int .i64 (j : Int) ∧ Value.int .u64 (V2 : Int) = .int .u64 (rdB bs q (c - j) : Int) ∧ RR N w1 (some ⟨b, off, none⟩) n cap bs p' r' none (W.drewN k) ∧ r' < 8 ∧ q + (c - j) + r' = 8 * p' ∧ RF N w (W.drewN k)) := fun k =>
              ⟨j2, P, 0, by omega, rfl, by rw [← hsum], hY0.drewN k, by omega, by omega, hFY.trans (RF.drewN _ _)⟩
            have c0 := hY0.c0
            have c1 := hY0.c1
            have c2' := hY0.c2
            skip
            have hcY : W.cell? ⟨b, off + P1, none⟩ = some (.int .u8 (y : Int)) := by rw [hW4, World.cell?_setCell_other _ _ _ _ (by intro e; injection e with e1; omega)]; exact hc
            have hP1I : (P : Int) - 1 = (P1 : Int) := by omega
            have hP10 : (0 : Int) ≤ (P1 : Int) := by omega
            have hP1n : (P1 : Int) < (n : Int) := by omega
            have hXc2 := hX.c2
            have hXf2 := hX.f2
            have hXs := hX.sz
            rw [← hV]
            clear hW4 hV hL hD hV2 hsum hbig hY0 hFY hB hy hP1 hX FX hVlt hLlt hpn hnow hR2 hpos hc q4 hj2
            go_wp2_with fail
            rw [← hW4H.out]
            go_quiet ((go_at_call 70; exact Calls.quiet_of_same (hlow.out _)))
            go_wp2_with fail
            go_roundw
            case rel => exact hrel2.out _
            case measure => simp [intOf] <;> omega
  · have hcrI : ¬ (r : Int) < (c : Int) := by omega
    have hcrN : ¬ r < c := hcr
    have hH : Hid _ := h
    clear h
    go_enter Tryd.func75, Tryd.ntmps75
    go_wp2_with fail
    refine Calls.mono hS.out ?_
    rintro e w2 ⟨rfl, hw2⟩
    have hw3 := hw2.symm
    subst hw3
    go_wp2_with fail
    refine (within_any k _).mono ?_
    rintro e w2 ⟨rfl, hw4⟩
    have hw5 := hw4.symm
    subst hw5
    rw [← hccH.out]
    clear hw2 hw4 hccH
    go_wp2_with fail
    clear c2 hcrI hcrN hcr hS
    go_loopw [1, 5] (fun i v wr => ∃ (j p' r' : Nat), j ≤ c ∧ i = .int .i64 (j : Int) ∧ v = .int .u64 (rdB bs q (c - j) : Int) ∧ RR N w1 a n cap bs p' r' none wr ∧ r' < 8 ∧ q + (c - j) + r' = 8 * p' ∧ RF N w wr) (fun i _ _ => (intOf i).toNat)
    case atStart => exact ⟨c, p, r, Nat.le_refl _, rfl, by rw [Nat.sub_self]; rfl, hH.out, hr8, by omega, RF.refl _ _⟩
    case round =>
      obtain ⟨j, p', r', hjc, rfl, rfl, hW, hr', hpos0, hF⟩ := hrel
      have hpn := hW.pn
      have hnb := hW.nb
      rcases Nat.eq_zero_or_pos j with hj0 | hj0
      · subst hj0
        have hpos1 : q + c + r' = 8 * p' := hpos0
        rw [Nat.sub_zero]
        have hWH : Hid _ := hW
        clear hW
        go_wp2_with fail
        go_ret
        exact ⟨rfl, ⟨p', r', hWH.out, hr', hpos1⟩, hF⟩
      · have hjI : (0 : Int) < (j : Int) := by omega
        by_cases hz : r' = 0
        · have z2 : wr.cell? ⟨N, 2, none⟩ = some (.int .i64 0) := by have := hW.c2; rw [hz] at this; exact this
          have hP1 : Hid _ := pass_any hW 1 1 rfl (by omega)
          clear hW
          go_wp2_with fail
          refine Calls.mono hP1.out ?_
          rintro e w3 ⟨rfl, h3, F3⟩
          obtain ⟨R, hR⟩ : ∃ R, R = 8 := ⟨_, rfl⟩
          obtain ⟨P, hPe⟩ : ∃ P, P = p' + 1 := ⟨_, rfl⟩
          rw [← hPe] at h3
          have hP : 0 < P := by omega
          have hR8 : R ≤ 8 := by omega
          have hFE : R = 8 := hR
          have hX : RR N w1 a n cap bs P R none (w3.setCell ⟨N, 2, none⟩ (.int .i64 8)) := by have h9 := h3.setR 8 (by omega) (fun _ => hP); rw [hR]; exact h9
          have FX : RF N w (w3.setCell ⟨N, 2, none⟩ (.int .i64 8)) := (hF.trans F3).trans (RF.set _ _ _)
          have hpos : q + (c - j) + R = 8 * P := by omega
          have g2 := h3.c2
          have g2f := h3.f2
          have g2s := h3.sz
          clear h3 F3 hF hPe
          by_cases hcR : j ≤ R
          · rcases hX.row with h0 | ⟨b, off, rfl, hb, hbN, hB⟩
            · omega
            obtain ⟨P1, hP1⟩ : ∃ P1, P1 = P - 1 := ⟨_, rfl⟩
            obtain ⟨hc, hylt⟩ := hB P1 (by omega)
            obtain ⟨y, hy⟩ : ∃ y, y = bs P1 := ⟨_, rfl⟩
            rw [← hy] at hc hylt
            obtain ⟨now, hnow⟩ : ∃ now, now = j := ⟨_, rfl⟩
            obtain ⟨j2, hj2⟩ : ∃ j2, j2 = 0 := ⟨_, rfl⟩
            obtain ⟨R2, hR2⟩ : ∃ R2, R2 = R - j := ⟨_, rfl⟩
            have hcase : (j : Int) ≤ 8 := by omega
            have hfr : 8 - (j : Int) = (R2 : Int) := by omega
            have q1 : 1 ≤ now := by omega
            have q2 : now ≤ R := by omega
            have q3 : now + j2 = j := by omega
            have q4 : R2 = R - now := by omega
            obtain ⟨W, hW4⟩ : ∃ W, W = (w3.setCell ⟨N, 2, none⟩ (.int .i64 8)).setCell ⟨N, 2, none⟩ (.int .i64 (R2 : Int)) := ⟨_, rfl⟩
            have hW4H : Hid _ := hW4
            obtain ⟨L, hL⟩ : ∃ L, L = y / 2 ^ R2 % 2 ^ now := ⟨_, rfl⟩
            have hpn : 2 ^ now ≤ 2 ^ 8 := Nat.pow_le_pow_right (by omega) (by omega)
            have hLlt : L < 2 ^ now := by rw [hL]; exact Nat.mod_lt _ (Nat.pow_pos (by omega))
            have hlow : Hid (∀ k, Calls Tryd.prog 70 #[.int .u64 ((y : Int) / 2 ^ R2), .int .i64 (j : Int)] (W.drewN k) fun e w' => e = .returned (.int .u8 (L : Int)) ∧ w' = W.drewN k) := fun k => by
              have h1 := lowest_any (y / 2 ^ R2) now (Nat.lt_of_le_of_lt (Nat.div_le_self _ _) (by omega)) (by omega) (W.drewN k)
              rw [← hL] at h1
              rw [show ((y : Int) / 2 ^ R2) = ((y / 2 ^ R2 : Nat) : Int) by simp, show (j : Int) = (now : Int) by omega]
              exact h1
            obtain ⟨V, hV⟩ : ∃ V, V = rdB bs q (c - j) := ⟨_, rfl⟩
            have hVlt : V < 2 ^ (c - j) := by rw [hV]; exact rdB_lt _ _ _
            have hsum : V * 2 ^ now + L = rdB bs q (c - j2) := by
              rw [show c - j2 = c - j + now by omega, rdB_chunk bs q (c - j) P R hP hR8 hpos now q2, ← hV, ← hP1, ← hy, ← q4, ← hL]
            have hbig : V * 2 ^ now + L < 18446744073709551616 := by
              rw [hsum]
              have h1 := rdB_lt bs q (c - j2)
              have h2 : 2 ^ (c - j2) ≤ 2 ^ 64 := Nat.pow_le_pow_right (by omega) (by omega)
              have h3 : (2 : Nat) ^ 64 = 18446744073709551616 := by decide
              omega
            obtain ⟨D, hD⟩ : ∃ D, D = V * 2 ^ now := ⟨_, rfl⟩
            rw [← hD] at hbig hsum
            have hshl : IntKind.u64.wrap ((V : Int) * 2 ^ j) = (D : Int) := by
              have h1 : ((V : Int) * 2 ^ j) = (D : Int) := by rw [hD, hnow]; simp
              rw [h1, IntKind.wrap_u64]; omega
            have hLw : IntKind.u64.wrap (L : Int) = (L : Int) := by rw [IntKind.wrap_u64]; omega
            have hor : bits .or .u64 (D : Int) (L : Int) = ((D + L : Nat) : Int) := by
              rw [u64_or_nat D L (by omega) (by omega)]
              have h5 := Nat.two_pow_add_eq_or_of_lt hLlt V
              rw [Nat.mul_comm, ← hD] at h5
              rw [h5]
            have hyw : IntKind.u64.wrap ((y : Int) / 2 ^ R2) = ((y : Int) / 2 ^ R2) := by
              have key : ∀ Z : Nat, Z ≤ y → IntKind.u64.wrap (Z : Int) = (Z : Int) := fun Z hZ => by rw [IntKind.wrap_u64]; omega
              rw [show ((y : Int) / 2 ^ R2) = ((y / 2 ^ R2 : Nat) : Int) by simp]
              exact key _ (Nat.div_le_self _ _)
            obtain ⟨V2, hV2⟩ : ∃ V2, V2 = D + L := ⟨_, rfl⟩
            rw [← hV2] at hor hsum
            have hY0 := hX.setR R2 (by omega) (fun _ => hP)
            have hFY : RF N w _ := FX.trans (RF.set (w3.setCell ⟨N, 2, none⟩ (.int .i64 8)) 2 (.int .i64 (R2 : Int)))
            have hcz : ((R2 : Nat) : Int) = (R2 : Int) := rfl
            rw [← hW4] at hY0 hFY
            have hrel2 : Hid (∀ k, ∃ (j p' r' : Nat), j ≤ c ∧ Value.int .i64 0 = .int .i64 (j : Int) ∧ Value.int .u64 (V2 : Int) = .int .u64 (rdB bs q (c - j) : Int) ∧ RR N w1 (some ⟨b, off, none⟩) n cap bs p' r' none (W.drewN k) ∧ r' < 8 ∧ q + (c - j) + r' = 8 * p' ∧ RF N w (W.drewN k)) := fun k =>
              ⟨j2, P, R2, by omega, by rw [hj2]; rfl, by rw [← hsum], hY0.drewN k, by omega, by omega, hFY.trans (RF.drewN _ _)⟩
            have c0 := hY0.c0
            have c1 := hY0.c1
            have c2' := hY0.c2
            skip
            have hcY : W.cell? ⟨b, off + P1, none⟩ = some (.int .u8 (y : Int)) := by rw [hW4, World.cell?_setCell_other _ _ _ _ (by intro e; injection e with e1; omega)]; exact hc
            have hP1I : (P : Int) - 1 = (P1 : Int) := by omega
            have hP10 : (0 : Int) ≤ (P1 : Int) := by omega
            have hP1n : (P1 : Int) < (n : Int) := by omega
            have hXc2 := hX.c2
            have hXf2 := hX.f2
            have hXs := hX.sz
            rw [← hV]
            clear hW4 hV hL hD hV2 hsum hbig hY0 hFY hB hy hP1 hX FX hVlt hLlt hpn hnow hR2 hpos hc q4 hj2
            go_wp2_with fail
            rw [← hW4H.out]
            go_quiet ((go_at_call 70; exact Calls.quiet_of_same (hlow.out _)))
            go_wp2_with fail
            go_roundw
            case rel => exact hrel2.out _
            case measure => simp [intOf] <;> omega
          · skip
            rcases hX.row with h0 | ⟨b, off, rfl, hb, hbN, hB⟩
            · omega
            obtain ⟨P1, hP1⟩ : ∃ P1, P1 = P - 1 := ⟨_, rfl⟩
            obtain ⟨hc, hylt⟩ := hB P1 (by omega)
            obtain ⟨y, hy⟩ : ∃ y, y = bs P1 := ⟨_, rfl⟩
            rw [← hy] at hc hylt
            obtain ⟨now, hnow⟩ : ∃ now, now = R := ⟨_, rfl⟩
            obtain ⟨j2, hj2⟩ : ∃ j2, j2 = j - R := ⟨_, rfl⟩
            obtain ⟨R2, hR2⟩ : ∃ R2, R2 = 0 := ⟨_, rfl⟩
            have hcase : 8 < (j : Int) := by omega
            have hcase2 : ¬ (j : Int) ≤ 8 := by omega
            have hjI : (j : Int) - 8 = (j2 : Int) := by omega
            have q1 : 1 ≤ now := by omega
            have q2 : now ≤ R := by omega
            have q3 : now + j2 = j := by omega
            have q4 : R2 = R - now := by omega
            obtain ⟨W, hW4⟩ : ∃ W, W = (w3.setCell ⟨N, 2, none⟩ (.int .i64 8)).setCell ⟨N, 2, none⟩ (.int .i64 0) := ⟨_, rfl⟩
            have hW4H : Hid _ := hW4
            obtain ⟨L, hL⟩ : ∃ L, L = y / 2 ^ R2 % 2 ^ now := ⟨_, rfl⟩
            have hpn : 2 ^ now ≤ 2 ^ 8 := Nat.pow_le_pow_right (by omega) (by omega)
            have hLlt : L < 2 ^ now := by rw [hL]; exact Nat.mod_lt _ (Nat.pow_pos (by omega))
            have hlow : Hid (∀ k, Calls Tryd.prog 70 #[.int .u64 (y : Int), .int .i64 8] (W.drewN k) fun e w' => e = .returned (.int .u8 (L : Int)) ∧ w' = W.drewN k) := fun k => by
              have h1 := lowest_any (y / 2 ^ R2) now (Nat.lt_of_le_of_lt (Nat.div_le_self _ _) (by omega)) (by omega) (W.drewN k)
              rw [← hL] at h1
              rw [show (y : Int) = ((y / 2 ^ R2 : Nat) : Int) by rw [hR2]; simp, show 8 = (now : Int) by omega]
              exact h1
            obtain ⟨V, hV⟩ : ∃ V, V = rdB bs q (c - j) := ⟨_, rfl⟩
            have hVlt : V < 2 ^ (c - j) := by rw [hV]; exact rdB_lt _ _ _
            have hsum : V * 2 ^ now + L = rdB bs q (c - j2) := by
              rw [show c - j2 = c - j + now by omega, rdB_chunk bs q (c - j) P R hP hR8 hpos now q2, ← hV, ← hP1, ← hy, ← q4, ← hL]
            have hbig : V * 2 ^ now + L < 18446744073709551616 := by
              rw [hsum]
              have h1 := rdB_lt bs q (c - j2)
              have h2 : 2 ^ (c - j2) ≤ 2 ^ 64 := Nat.pow_le_pow_right (by omega) (by omega)
              have h3 : (2 : Nat) ^ 64 = 18446744073709551616 := by decide
              omega
            obtain ⟨D, hD⟩ : ∃ D, D = V * 2 ^ now := ⟨_, rfl⟩
            rw [← hD] at hbig hsum
            have hshl : IntKind.u64.wrap ((V : Int) * 256) = (D : Int) := by
              have h1 : ((V : Int) * 256) = (D : Int) := by rw [hD, hnow]; rw [hFE]; simp
              rw [h1, IntKind.wrap_u64]; omega
            have hLw : IntKind.u64.wrap (L : Int) = (L : Int) := by rw [IntKind.wrap_u64]; omega
            have hor : bits .or .u64 (D : Int) (L : Int) = ((D + L : Nat) : Int) := by
              rw [u64_or_nat D L (by omega) (by omega)]
              have h5 := Nat.two_pow_add_eq_or_of_lt hLlt V
              rw [Nat.mul_comm, ← hD] at h5
              rw [h5]
            have hyw : IntKind.u64.wrap (y : Int) = (y : Int) := by
              have key : ∀ Z : Nat, Z ≤ y → IntKind.u64.wrap (Z : Int) = (Z : Int) := fun Z hZ => by rw [IntKind.wrap_u64]; omega
              rw [show (y : Int) = ((y / 2 ^ R2 : Nat) : Int) by rw [hR2]; simp]
              exact key _ (Nat.div_le_self _ _)
            obtain ⟨V2, hV2⟩ : ∃ V2, V2 = D + L := ⟨_, rfl⟩
            rw [← hV2] at hor hsum
            have hY0 := hX.setR R2 (by omega) (fun _ => hP)
            have hFY : RF N w _ := FX.trans (RF.set (w3.setCell ⟨N, 2, none⟩ (.int .i64 8)) 2 (.int .i64 0))
            rw [hR2] at hY0
            rw [show ((0 : Nat) : Int) = 0 from rfl] at hY0
            rw [← hW4] at hY0 hFY
            have hrel2 : Hid (∀ k, ∃ (j p' r' : Nat), j ≤ c ∧ Value.int .i64 (j2 : Int) = .int .i64 (j : Int) ∧ Value.int .u64 (V2 : Int) = .int .u64 (rdB bs q (c - j) : Int) ∧ RR N w1 (some ⟨b, off, none⟩) n cap bs p' r' none (W.drewN k) ∧ r' < 8 ∧ q + (c - j) + r' = 8 * p' ∧ RF N w (W.drewN k)) := fun k =>
              ⟨j2, P, 0, by omega, rfl, by rw [← hsum], hY0.drewN k, by omega, by omega, hFY.trans (RF.drewN _ _)⟩
            have c0 := hY0.c0
            have c1 := hY0.c1
            have c2' := hY0.c2
            skip
            have hcY : W.cell? ⟨b, off + P1, none⟩ = some (.int .u8 (y : Int)) := by rw [hW4, World.cell?_setCell_other _ _ _ _ (by intro e; injection e with e1; omega)]; exact hc
            have hP1I : (P : Int) - 1 = (P1 : Int) := by omega
            have hP10 : (0 : Int) ≤ (P1 : Int) := by omega
            have hP1n : (P1 : Int) < (n : Int) := by omega
            have hXc2 := hX.c2
            have hXf2 := hX.f2
            have hXs := hX.sz
            rw [← hV]
            clear hW4 hV hL hD hV2 hsum hbig hY0 hFY hB hy hP1 hX FX hVlt hLlt hpn hnow hR2 hpos hc q4 hj2
            go_wp2_with fail
            rw [← hW4H.out]
            go_quiet ((go_at_call 70; exact Calls.quiet_of_same (hlow.out _)))
            go_wp2_with fail
            go_roundw
            case rel => exact hrel2.out _
            case measure => simp [intOf] <;> omega
        · obtain ⟨R, hR⟩ : ∃ R, R = r' := ⟨_, rfl⟩
          obtain ⟨P, hPe⟩ : ∃ P, P = p' := ⟨_, rfl⟩
          rw [← hR] at hW hpos0 hr' hz
          rw [← hPe] at hW hpos0 hpn
          have hP : 0 < P := by omega
          have hR8 : R ≤ 8 := by omega
          have hRI : ¬ (R : Int) = 0 := by omega
          have hX := hW
          have FX := hF
          have hpos := hpos0
          have g2 := hX.c2
          have g2f := hX.f2
          have g2s := hX.sz
          clear hW hF hR hPe
          by_cases hcR : j ≤ R
          · rcases hX.row with h0 | ⟨b, off, rfl, hb, hbN, hB⟩
            · omega
            obtain ⟨P1, hP1⟩ : ∃ P1, P1 = P - 1 := ⟨_, rfl⟩
            obtain ⟨hc, hylt⟩ := hB P1 (by omega)
            obtain ⟨y, hy⟩ : ∃ y, y = bs P1 := ⟨_, rfl⟩
            rw [← hy] at hc hylt
            obtain ⟨now, hnow⟩ : ∃ now, now = j := ⟨_, rfl⟩
            obtain ⟨j2, hj2⟩ : ∃ j2, j2 = 0 := ⟨_, rfl⟩
            obtain ⟨R2, hR2⟩ : ∃ R2, R2 = R - j := ⟨_, rfl⟩
            have hcase : (j : Int) ≤ (R : Int) := by omega
            have hfr : (R : Int) - (j : Int) = (R2 : Int) := by omega
            have q1 : 1 ≤ now := by omega
            have q2 : now ≤ R := by omega
            have q3 : now + j2 = j := by omega
            have q4 : R2 = R - now := by omega
            obtain ⟨W, hW4⟩ : ∃ W, W = wr.setCell ⟨N, 2, none⟩ (.int .i64 (R2 : Int)) := ⟨_, rfl⟩
            have hW4H : Hid _ := hW4
            obtain ⟨L, hL⟩ : ∃ L, L = y / 2 ^ R2 % 2 ^ now := ⟨_, rfl⟩
            have hpn : 2 ^ now ≤ 2 ^ 8 := Nat.pow_le_pow_right (by omega) (by omega)
            have hLlt : L < 2 ^ now := by rw [hL]; exact Nat.mod_lt _ (Nat.pow_pos (by omega))
            have hlow : Hid (∀ k, Calls Tryd.prog 70 #[.int .u64 ((y : Int) / 2 ^ R2), .int .i64 (j : Int)] (W.drewN k) fun e w' => e = .returned (.int .u8 (L : Int)) ∧ w' = W.drewN k) := fun k => by
              have h1 := lowest_any (y / 2 ^ R2) now (Nat.lt_of_le_of_lt (Nat.div_le_self _ _) (by omega)) (by omega) (W.drewN k)
              rw [← hL] at h1
              rw [show ((y : Int) / 2 ^ R2) = ((y / 2 ^ R2 : Nat) : Int) by simp, show (j : Int) = (now : Int) by omega]
              exact h1
            obtain ⟨V, hV⟩ : ∃ V, V = rdB bs q (c - j) := ⟨_, rfl⟩
            have hVlt : V < 2 ^ (c - j) := by rw [hV]; exact rdB_lt _ _ _
            have hsum : V * 2 ^ now + L = rdB bs q (c - j2) := by
              rw [show c - j2 = c - j + now by omega, rdB_chunk bs q (c - j) P R hP hR8 hpos now q2, ← hV, ← hP1, ← hy, ← q4, ← hL]
            have hbig : V * 2 ^ now + L < 18446744073709551616 := by
              rw [hsum]
              have h1 := rdB_lt bs q (c - j2)
              have h2 : 2 ^ (c - j2) ≤ 2 ^ 64 := Nat.pow_le_pow_right (by omega) (by omega)
              have h3 : (2 : Nat) ^ 64 = 18446744073709551616 := by decide
              omega
            obtain ⟨D, hD⟩ : ∃ D, D = V * 2 ^ now := ⟨_, rfl⟩
            rw [← hD] at hbig hsum
            have hshl : IntKind.u64.wrap ((V : Int) * 2 ^ j) = (D : Int) := by
              have h1 : ((V : Int) * 2 ^ j) = (D : Int) := by rw [hD, hnow]; simp
              rw [h1, IntKind.wrap_u64]; omega
            have hLw : IntKind.u64.wrap (L : Int) = (L : Int) := by rw [IntKind.wrap_u64]; omega
            have hor : bits .or .u64 (D : Int) (L : Int) = ((D + L : Nat) : Int) := by
              rw [u64_or_nat D L (by omega) (by omega)]
              have h5 := Nat.two_pow_add_eq_or_of_lt hLlt V
              rw [Nat.mul_comm, ← hD] at h5
              rw [h5]
            have hyw : IntKind.u64.wrap ((y : Int) / 2 ^ R2) = ((y : Int) / 2 ^ R2) := by
              have key : ∀ Z : Nat, Z ≤ y → IntKind.u64.wrap (Z : Int) = (Z : Int) := fun Z hZ => by rw [IntKind.wrap_u64]; omega
              rw [show ((y : Int) / 2 ^ R2) = ((y / 2 ^ R2 : Nat) : Int) by simp]
              exact key _ (Nat.div_le_self _ _)
            obtain ⟨V2, hV2⟩ : ∃ V2, V2 = D + L := ⟨_, rfl⟩
            rw [← hV2] at hor hsum
            have hY0 := hX.setR R2 (by omega) (fun _ => hP)
            have hFY : RF N w _ := FX.trans (RF.set wr 2 (.int .i64 (R2 : Int)))
            have hcz : ((R2 : Nat) : Int) = (R2 : Int) := rfl
            rw [← hW4] at hY0 hFY
            have hrel2 : Hid (∀ k, ∃ (j p' r' : Nat), j ≤ c ∧ Value.int .i64 0 = .int .i64 (j : Int) ∧ Value.int .u64 (V2 : Int) = .int .u64 (rdB bs q (c - j) : Int) ∧ RR N w1 (some ⟨b, off, none⟩) n cap bs p' r' none (W.drewN k) ∧ r' < 8 ∧ q + (c - j) + r' = 8 * p' ∧ RF N w (W.drewN k)) := fun k =>
              ⟨j2, P, R2, by omega, by rw [hj2]; rfl, by rw [← hsum], hY0.drewN k, by omega, by omega, hFY.trans (RF.drewN _ _)⟩
            have c0 := hY0.c0
            have c1 := hY0.c1
            have c2' := hY0.c2
            skip
            have hcY : W.cell? ⟨b, off + P1, none⟩ = some (.int .u8 (y : Int)) := by rw [hW4, World.cell?_setCell_other _ _ _ _ (by intro e; injection e with e1; omega)]; exact hc
            have hP1I : (P : Int) - 1 = (P1 : Int) := by omega
            have hP10 : (0 : Int) ≤ (P1 : Int) := by omega
            have hP1n : (P1 : Int) < (n : Int) := by omega
            have hXc2 := hX.c2
            have hXf2 := hX.f2
            have hXs := hX.sz
            rw [← hV]
            clear hW4 hV hL hD hV2 hsum hbig hY0 hFY hB hy hP1 hX FX hVlt hLlt hpn hnow hR2 hpos hc q4 hj2
            go_wp2_with fail
            rw [← hW4H.out]
            go_quiet ((go_at_call 70; exact Calls.quiet_of_same (hlow.out _)))
            go_wp2_with fail
            go_roundw
            case rel => exact hrel2.out _
            case measure => simp [intOf] <;> omega
          · skip
            rcases hX.row with h0 | ⟨b, off, rfl, hb, hbN, hB⟩
            · omega
            obtain ⟨P1, hP1⟩ : ∃ P1, P1 = P - 1 := ⟨_, rfl⟩
            obtain ⟨hc, hylt⟩ := hB P1 (by omega)
            obtain ⟨y, hy⟩ : ∃ y, y = bs P1 := ⟨_, rfl⟩
            rw [← hy] at hc hylt
            obtain ⟨now, hnow⟩ : ∃ now, now = R := ⟨_, rfl⟩
            obtain ⟨j2, hj2⟩ : ∃ j2, j2 = j - R := ⟨_, rfl⟩
            obtain ⟨R2, hR2⟩ : ∃ R2, R2 = 0 := ⟨_, rfl⟩
            have hcase : (R : Int) < (j : Int) := by omega
            have hcase2 : ¬ (j : Int) ≤ (R : Int) := by omega
            have hjI : (j : Int) - (R : Int) = (j2 : Int) := by omega
            have q1 : 1 ≤ now := by omega
            have q2 : now ≤ R := by omega
            have q3 : now + j2 = j := by omega
            have q4 : R2 = R - now := by omega
            obtain ⟨W, hW4⟩ : ∃ W, W = wr.setCell ⟨N, 2, none⟩ (.int .i64 0) := ⟨_, rfl⟩
            have hW4H : Hid _ := hW4
            obtain ⟨L, hL⟩ : ∃ L, L = y / 2 ^ R2 % 2 ^ now := ⟨_, rfl⟩
            have hpn : 2 ^ now ≤ 2 ^ 8 := Nat.pow_le_pow_right (by omega) (by omega)
            have hLlt : L < 2 ^ now := by rw [hL]; exact Nat.mod_lt _ (Nat.pow_pos (by omega))
            have hlow : Hid (∀ k, Calls Tryd.prog 70 #[.int .u64 (y : Int), .int .i64 (R : Int)] (W.drewN k) fun e w' => e = .returned (.int .u8 (L : Int)) ∧ w' = W.drewN k) := fun k => by
              have h1 := lowest_any (y / 2 ^ R2) now (Nat.lt_of_le_of_lt (Nat.div_le_self _ _) (by omega)) (by omega) (W.drewN k)
              rw [← hL] at h1
              rw [show (y : Int) = ((y / 2 ^ R2 : Nat) : Int) by rw [hR2]; simp, show (R : Int) = (now : Int) by omega]
              exact h1
            obtain ⟨V, hV⟩ : ∃ V, V = rdB bs q (c - j) := ⟨_, rfl⟩
            have hVlt : V < 2 ^ (c - j) := by rw [hV]; exact rdB_lt _ _ _
            have hsum : V * 2 ^ now + L = rdB bs q (c - j2) := by
              rw [show c - j2 = c - j + now by omega, rdB_chunk bs q (c - j) P R hP hR8 hpos now q2, ← hV, ← hP1, ← hy, ← q4, ← hL]
            have hbig : V * 2 ^ now + L < 18446744073709551616 := by
              rw [hsum]
              have h1 := rdB_lt bs q (c - j2)
              have h2 : 2 ^ (c - j2) ≤ 2 ^ 64 := Nat.pow_le_pow_right (by omega) (by omega)
              have h3 : (2 : Nat) ^ 64 = 18446744073709551616 := by decide
              omega
            obtain ⟨D, hD⟩ : ∃ D, D = V * 2 ^ now := ⟨_, rfl⟩
            rw [← hD] at hbig hsum
            have hshl : IntKind.u64.wrap ((V : Int) * 2 ^ R) = (D : Int) := by
              have h1 : ((V : Int) * 2 ^ R) = (D : Int) := by rw [hD, hnow]; simp
              rw [h1, IntKind.wrap_u64]; omega
            have hLw : IntKind.u64.wrap (L : Int) = (L : Int) := by rw [IntKind.wrap_u64]; omega
            have hor : bits .or .u64 (D : Int) (L : Int) = ((D + L : Nat) : Int) := by
              rw [u64_or_nat D L (by omega) (by omega)]
              have h5 := Nat.two_pow_add_eq_or_of_lt hLlt V
              rw [Nat.mul_comm, ← hD] at h5
              rw [h5]
            have hyw : IntKind.u64.wrap (y : Int) = (y : Int) := by
              have key : ∀ Z : Nat, Z ≤ y → IntKind.u64.wrap (Z : Int) = (Z : Int) := fun Z hZ => by rw [IntKind.wrap_u64]; omega
              rw [show (y : Int) = ((y / 2 ^ R2 : Nat) : Int) by rw [hR2]; simp]
              exact key _ (Nat.div_le_self _ _)
            obtain ⟨V2, hV2⟩ : ∃ V2, V2 = D + L := ⟨_, rfl⟩
            rw [← hV2] at hor hsum
            have hY0 := hX.setR R2 (by omega) (fun _ => hP)
            have hFY : RF N w _ := FX.trans (RF.set wr 2 (.int .i64 0))
            rw [hR2] at hY0
            rw [show ((0 : Nat) : Int) = 0 from rfl] at hY0
            rw [← hW4] at hY0 hFY
            have hrel2 : Hid (∀ k, ∃ (j p' r' : Nat), j ≤ c ∧ Value.int .i64 (j2 : Int) = .int .i64 (j : Int) ∧ Value.int .u64 (V2 : Int) = .int .u64 (rdB bs q (c - j) : Int) ∧ RR N w1 (some ⟨b, off, none⟩) n cap bs p' r' none (W.drewN k) ∧ r' < 8 ∧ q + (c - j) + r' = 8 * p' ∧ RF N w (W.drewN k)) := fun k =>
              ⟨j2, P, 0, by omega, rfl, by rw [← hsum], hY0.drewN k, by omega, by omega, hFY.trans (RF.drewN _ _)⟩
            have c0 := hY0.c0
            have c1 := hY0.c1
            have c2' := hY0.c2
            skip
            have hcY : W.cell? ⟨b, off + P1, none⟩ = some (.int .u8 (y : Int)) := by rw [hW4, World.cell?_setCell_other _ _ _ _ (by intro e; injection e with e1; omega)]; exact hc
            have hP1I : (P : Int) - 1 = (P1 : Int) := by omega
            have hP10 : (0 : Int) ≤ (P1 : Int) := by omega
            have hP1n : (P1 : Int) < (n : Int) := by omega
            have hXc2 := hX.c2
            have hXf2 := hX.f2
            have hXs := hX.sz
            rw [← hV]
            clear hW4 hV hL hD hV2 hsum hbig hY0 hFY hB hy hP1 hX FX hVlt hLlt hpn hnow hR2 hpos hc q4 hj2
            go_wp2_with fail
            rw [← hW4H.out]
            go_quiet ((go_at_call 70; exact Calls.quiet_of_same (hlow.out _)))
            go_wp2_with fail
            go_roundw
            case rel => exact hrel2.out _
            case measure => simp [intOf] <;> omega
end
end Go.Proofs.YtfijagdbdbbbpaaDoor
