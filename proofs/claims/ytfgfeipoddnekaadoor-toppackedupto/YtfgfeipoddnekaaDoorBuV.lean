
import Derived.Test.YtfgfeipoddnekaaDoorBuU
import Derived.Test.YtfgfeipoddnekaaDoorBuH
import Derived.Test.YtfgfeipoddnekaaDoorBuL
namespace Go.Proofs.YtfgfeipoddnekaaDoor
open Go.RowKit
set_option linter.unusedVariables false
set_option linter.unusedSimpArgs false
/-- a Reader over L stands where s ends. -/
structure AT (s : List Nat × Nat) (L : List Nat) (q : PS) : Prop where
  c : CL s.1 s.2
  p : PRE s L
  f : q.fv = none
  r : q.r < 8
  n : nbits s + q.r = 8 * q.p
theorem AT.bits {s : List Nat × Nat} {L : List Nat} {q : PS} (h : AT s L q) (hL : ∀ y ∈ L, y < 256) (x c : Nat) (hP : PRE (bitsOn x c s) L) : ∃ q', bitsT (natsOf L) L.length c q = (q', x % 2 ^ c) ∧ AT (bitsOn x c s) L q' := by
  obtain ⟨h1, h2, h3⟩ := PRE.bits (l := s.1) (b := s.2) h.c hP hL h.r h.n
  obtain ⟨g1, _⟩ := bitsOn_bt x c s.1 s.2 h.c
  have hn := h.n
  have hr := h.r
  have h1' : rdB (natsOf L) (nbits s) c = x % 2 ^ c := h1
  have h2' : nbits s + c ≤ 8 * L.length := h2
  have h3' : nbits (bitsOn x c s) = nbits s + c := h3
  refine ⟨⟨(nbits s + c + 7) / 8, 8 * ((nbits s + c + 7) / 8) - (nbits s + c), none⟩, ?_, g1, hP, rfl, by simp only; omega, by simp only; omega⟩
  unfold bitsT
  rw [h.f, if_neg (by simp), show 8 * q.p - q.r = nbits s by omega, if_neg (by omega), h1']
theorem PRE.of_bits {s : List Nat × Nat} {L : List Nat} {x c : Nat} (hC : CL s.1 s.2) (h : PRE (bitsOn x c s) L) : PRE s L := by
  obtain ⟨h1, h2, h3, h4, h5⟩ := bitsOn_bt x c s.1 s.2 hC
  have hle : nbits (bitsOn x c s) = nbits s + c := h2
  exact ⟨Nat.le_trans h3 h.1, fun q hq => by rw [h.2 q (by omega)]; exact h4 q hq⟩
theorem PRE.of_u {s : List Nat × Nat} {L : List Nat} {x : Nat} (h : PRE (uOn x s) L) : PRE s L := by
  obtain ⟨h1, h2⟩ := PRE.app (l := s.1) (b := s.2) (uB x)
  exact PRE.trans (s := s) (t := uOn x s) h1 h2 h
theorem numS_uB (bs : Nat → Nat) (n p : Nat) : ∀ f s v y, f + s = 10 → y < 128 ^ f → (s = 9 → y ≤ 1) → (0 < s → 0 < y) → p + s + (uBf f y).length ≤ n → (∀ i, i < (uBf f y).length → bs (p + s + i) = (uBf f y).getD i 0) → y * 128 ^ s < 18446744073709551616 → 0 < f → numS bs n p f s v = .inr (v + y * 128 ^ s, s + (uBf f y).length) := by
  intro f
  induction f with
  | zero => intro s v y _ _ _ _ _ _ _ h; omega
  | succ f ih =>
    intro s v y hfs hy h9 h0 hn hb hlt _
    have hb0 := hb 0
    unfold uBf at hb hn hb0 ⊢
    unfold numS
    by_cases hs : y < 128
    · rw [if_pos hs] at hb hn hb0 ⊢
      have hb1 := hb0 (by simp)
      simp only [Nat.add_zero, List.getD_cons_zero] at hb1
      simp only [List.length_singleton] at hn ⊢
      rw [if_neg (by omega), if_neg (by
        rw [hb1]
        rintro (⟨e1, e2⟩ | ⟨e1, e2⟩)
        · have := h9 e1; omega
        · have := h0 e1; omega), hb1, if_pos hs, Nat.mod_eq_of_lt hs]
    · rw [if_neg hs] at hb hn hb0 ⊢
      have hb1 := hb0 (by simp)
      simp only [Nat.add_zero, List.getD_cons_zero] at hb1
      simp only [List.length_cons] at hn ⊢
      have hs9 : s ≠ 9 := fun e => by have := h9 e; omega
      have hf0 : 0 < f := by omega
      rw [if_neg (by omega), if_neg (by
        rw [hb1]
        rintro (⟨e1, e2⟩ | ⟨e1, e2⟩)
        · exact hs9 e1
        · omega), hb1, if_neg (by omega)]
      have hmul : y / 128 * 128 ^ (s + 1) ≤ y * 128 ^ s := by
        rw [Nat.pow_succ, Nat.mul_comm (128 ^ s) 128, ← Nat.mul_assoc]
        exact Nat.mul_le_mul_right _ (Nat.div_mul_le_self y 128)
      rw [ih (s + 1) _ (y / 128) (by omega) (by rw [Nat.pow_succ] at hy; exact Nat.div_lt_of_lt_mul (by omega)) (fun e => ?_) (fun _ => by omega) (by omega) (fun i hi => ?_) (by omega) hf0]
      · congr 1
        rw [show (y % 128 + 128) % 128 = y % 128 by omega, Nat.pow_succ]
        congr 1
        · have : y = y / 128 * 128 + y % 128 := by omega
          have e2 : y * 128 ^ s = y / 128 * (128 ^ s * 128) + y % 128 * 128 ^ s := by
            conv => lhs; rw [this]
            rw [Nat.add_mul, Nat.mul_assoc, Nat.mul_comm 128 (128 ^ s)]
          omega
        · omega
      · have e8 : (128 : Nat) ^ 9 = 9223372036854775808 := by decide
        rw [e, e8] at hmul
        omega
      · have := hb (i + 1) (by simp; omega)
        simp only [List.getD_cons_succ] at this
        rw [← this]; congr 1; omega
theorem AT.uint {s : List Nat × Nat} {L : List Nat} {q : PS} (h : AT s L q) (hL : ∀ y ∈ L, y < 256) (x M : Nat) (hx : x < 18446744073709551616) (hM : x ≤ M) (hP : PRE (uOn x s) L) : ∃ q', uintT (natsOf L) L.length M q = (q', x) ∧ AT (uOn x s) L q' := by
  obtain ⟨h1, h2, h3, h4⟩ := whole_back (l := s.1) (b := s.2) (E := uB x) h.c (uB_lt x hx) hL hP h.r h.n
  have hst : startF (natsOf L) q.p q.r q.fv = none := by
    unfold startF
    rw [h.f]
    simp only [Option.isSome_none, Bool.false_eq_true, if_false]
    rw [if_neg (by unfold ragb; simpa using h2)]
  have hnum : numS (natsOf L) L.length q.p 10 0 0 = .inr (x, (uB x).length) := by
    have := numS_uB (natsOf L) L.length q.p 10 0 0 x (by omega) (by omega) (by omega) (by omega) (by rw [Nat.add_zero]; exact h1) (fun i hi => by rw [Nat.add_zero]; exact h3 i hi) (by omega) (by omega)
    simpa [uB] using this
  refine ⟨⟨q.p + (uB x).length, 0, none⟩, ?_, uOn_CL hx h.c, hP, rfl, by show 0 < 8; omega, h4⟩
  unfold uintT
  rw [if_neg (by rw [hst]; simp)]
  simp only [hnum]
  rw [if_neg (by omega)]
end Go.Proofs.YtfgfeipoddnekaaDoor

namespace Go.Proofs.YtfgfeipoddnekaaDoor
open Go.RowKit
set_option linter.unusedVariables false
set_option linter.unusedSimpArgs false
theorem unfold_fold (v : Int) : unfoldN (foldZ v) = v := by
  unfold unfoldN foldZ
  by_cases h : 0 ≤ v
  · rw [if_pos h]; split <;> omega
  · rw [if_neg h]; split <;> omega
theorem bitsOn_c (x c : Nat) {s : List Nat × Nat} (h : CL s.1 s.2) : CL (bitsOn x c s).1 (bitsOn x c s).2 ∧ nbits (bitsOn x c s) = nbits s + c :=
  ⟨(bitsOn_bt x c s.1 s.2 h).1, (bitsOn_bt x c s.1 s.2 h).2.1⟩
theorem PRE.of_turn {s : List Nat × Nat} {L : List Nat} {d : Int} (hC : CL s.1 s.2) (h : PRE (turnOn d s) L) : PRE (bitsOn (turnA d) (turnB d) s) L ∧ PRE s L := by
  have h1 := PRE.of_bits (bitsOn_c (turnA d) (turnB d) hC).1 h
  exact ⟨h1, PRE.of_bits hC h1⟩
theorem bits_cons (v i : Nat) (s : List Nat × Nat) : bitsOn v (i + 1) s = bitsOn v i (bitsOn (v / 2 ^ i) 1 s) := by
  show bitsOn v i (bitOn (v / 2 ^ i % 2) s) = bitsOn v i (bitsOn (v / 2 ^ i) 0 (bitOn (v / 2 ^ i / 2 ^ 0 % 2) s))
  simp [bitsOn]
/-- a turn comes back. -/
theorem AT.turn {s : List Nat × Nat} {L : List Nat} {q : PS} (h : AT s L q) (hL : ∀ y ∈ L, y < 256) (d : Int) (hd : -9223372036854775808 ≤ d ∧ d ≤ 9223372036854775807) (hP : PRE (turnOn d s) L) : ∃ q', turnT (natsOf L) L.length q = (q', d) ∧ AT (turnOn d s) L q' := by
  obtain ⟨hP1, _⟩ := PRE.of_turn h.c hP
  unfold turnT
  by_cases e0 : d = 0
  · subst e0
    have ea : turnOn 0 s = bitsOn 0 1 s := rfl
    rw [ea] at hP ⊢
    obtain ⟨q1, b1, a1⟩ := h.bits hL 0 1 hP
    rw [b1]
    exact ⟨q1, rfl, a1⟩
  by_cases e1 : -63 ≤ d ∧ d ≤ 64
  · have ea : turnOn d s = bitsOn (d + 63).toNat 7 (bitsOn 0 1 (bitsOn 1 1 s)) := by
      unfold turnOn turnA turnB turnC turnD
      simp only [if_neg e0, if_pos e1]
      rfl
    rw [ea] at hP ⊢
    have c1 := (bitsOn_c 1 1 h.c).1
    have c2 := (bitsOn_c 0 1 c1).1
    have p2 := PRE.of_bits c2 hP
    have p1 := PRE.of_bits c1 p2
    obtain ⟨q1, b1, a1⟩ := h.bits hL 1 1 p1
    obtain ⟨q2, b2, a2⟩ := a1.bits hL 0 1 p2
    obtain ⟨q3, b3, a3⟩ := a2.bits hL _ 7 hP
    rw [b1, if_neg (by simp), b2, if_pos (by simp), b3]
    refine ⟨q3, ?_, a3⟩
    simp only [Prod.mk.injEq, true_and]
    omega
  by_cases e2 : -255 ≤ d ∧ d ≤ 256
  · have ea : turnOn d s = bitsOn (d + 255).toNat 9 (bitsOn 0 1 (bitsOn 1 1 (bitsOn 1 1 s))) := by
      unfold turnOn turnA turnB turnC turnD
      simp only [if_neg e0, if_neg e1, if_pos e2]
      rfl
    rw [ea] at hP ⊢
    have c1 := (bitsOn_c 1 1 h.c).1
    have c2 := (bitsOn_c 1 1 c1).1
    have c3 := (bitsOn_c 0 1 c2).1
    have p3 := PRE.of_bits c3 hP
    have p2 := PRE.of_bits c2 p3
    have p1 := PRE.of_bits c1 p2
    obtain ⟨q1, b1, a1⟩ := h.bits hL 1 1 p1
    obtain ⟨q2, b2, a2⟩ := a1.bits hL 1 1 p2
    obtain ⟨q3, b3, a3⟩ := a2.bits hL 0 1 p3
    obtain ⟨q4, b4, a4⟩ := a3.bits hL _ 9 hP
    rw [b1, if_neg (by simp), b2, if_neg (by simp), b3, if_pos (by simp), b4]
    refine ⟨q4, ?_, a4⟩
    simp only [Prod.mk.injEq, true_and]
    omega
  by_cases e3 : -2047 ≤ d ∧ d ≤ 2048
  · have ea : turnOn d s = bitsOn (d + 2047).toNat 12 (bitsOn 0 1 (bitsOn 1 1 (bitsOn 1 1 (bitsOn 1 1 s)))) := by
      unfold turnOn turnA turnB turnC turnD
      simp only [if_neg e0, if_neg e1, if_neg e2, if_pos e3]
      rfl
    rw [ea] at hP ⊢
    have c1 := (bitsOn_c 1 1 h.c).1
    have c2 := (bitsOn_c 1 1 c1).1
    have c3 := (bitsOn_c 1 1 c2).1
    have c4 := (bitsOn_c 0 1 c3).1
    have p4 := PRE.of_bits c4 hP
    have p3 := PRE.of_bits c3 p4
    have p2 := PRE.of_bits c2 p3
    have p1 := PRE.of_bits c1 p2
    obtain ⟨q1, b1, a1⟩ := h.bits hL 1 1 p1
    obtain ⟨q2, b2, a2⟩ := a1.bits hL 1 1 p2
    obtain ⟨q3, b3, a3⟩ := a2.bits hL 1 1 p3
    obtain ⟨q4, b4, a4⟩ := a3.bits hL 0 1 p4
    obtain ⟨q5, b5, a5⟩ := a4.bits hL _ 12 hP
    rw [b1, if_neg (by simp), b2, if_neg (by simp), b3, if_neg (by simp), b4, if_pos (by simp), b5]
    refine ⟨q5, ?_, a5⟩
    simp only [Prod.mk.injEq, true_and]
    omega
  · have ea : turnOn d s = bitsOn (d % 18446744073709551616).toNat 64 (bitsOn 1 1 (bitsOn 1 1 (bitsOn 1 1 (bitsOn 1 1 s)))) := by
      unfold turnOn turnA turnB turnC turnD
      simp only [if_neg e0, if_neg e1, if_neg e2, if_neg e3]
      rfl
    rw [ea] at hP ⊢
    have c1 := (bitsOn_c 1 1 h.c).1
    have c2 := (bitsOn_c 1 1 c1).1
    have c3 := (bitsOn_c 1 1 c2).1
    have c4 := (bitsOn_c 1 1 c3).1
    have p4 := PRE.of_bits c4 hP
    have p3 := PRE.of_bits c3 p4
    have p2 := PRE.of_bits c2 p3
    have p1 := PRE.of_bits c1 p2
    obtain ⟨q1, b1, a1⟩ := h.bits hL 1 1 p1
    obtain ⟨q2, b2, a2⟩ := a1.bits hL 1 1 p2
    obtain ⟨q3, b3, a3⟩ := a2.bits hL 1 1 p3
    obtain ⟨q4, b4, a4⟩ := a3.bits hL 1 1 p4
    obtain ⟨q5, b5, a5⟩ := a4.bits hL _ 64 hP
    rw [b1, if_neg (by simp), b2, if_neg (by simp), b3, if_neg (by simp), b4, if_neg (by simp), b5]
    refine ⟨q5, ?_, a5⟩
    simp only [Prod.mk.injEq, true_and]
    unfold wrap64
    omega
end Go.Proofs.YtfgfeipoddnekaaDoor

namespace Go.Proofs.YtfgfeipoddnekaaDoor
open Go.RowKit
set_option linter.unusedVariables false
set_option linter.unusedSimpArgs false
theorem turnOn_c (d : Int) {s : List Nat × Nat} (h : CL s.1 s.2) : CL (turnOn d s).1 (turnOn d s).2 := (bitsOn_c _ _ (bitsOn_c _ _ h).1).1
theorem AT.start (L : List Nat) : AT ([], 0) L ⟨0, 0, none⟩ :=
  ⟨⟨by show 0 < 8; omega, by simp, by simp⟩, ⟨by simp, fun q hq => by simp [nbits] at hq⟩, rfl, by show 0 < 8; omega, by simp [nbits]⟩
/-- where all was read there is no fault. -/
theorem AT.done {s : List Nat × Nat} {q : PS} (h : AT s s.1 q) : doneF (natsOf s.1) s.1.length q.p q.r q.fv = none := by
  obtain ⟨hp, hr⟩ := place (l := s.1) (b := s.2) h.c h.r h.n
  have hrag : ragb (natsOf s.1) q.p q.r = false := by
    unfold ragb
    rw [decide_eq_false_iff_not]
    rintro ⟨h0, h1⟩
    have hb0 : s.2 ≠ 0 := fun e => by rw [e] at hr; omega
    obtain ⟨l0, a, hl, hz⟩ := h.c.2.2 hb0
    have hc := h.c.1
    apply h1
    have hl0 : s.1.length = l0.length + 1 := by rw [hl]; simp
    rw [show q.p - 1 = l0.length by omega, show q.r = 8 - s.2 by omega]
    show s.1.getD l0.length 0 % _ = 0
    rw [hl]
    simpa [List.getD_eq_getElem?_getD] using hz
  unfold doneF startF
  rw [h.f]
  simp only [Option.isSome_none, Bool.false_eq_true, if_false, hrag]
  rw [if_neg (by omega)]
theorem timesS_c (z : Nat → Int) (hz : ∀ i, -9223372036854775808 ≤ z i ∧ z i ≤ 9223372036854775807) (n : Nat) (hn : n < 18446744073709551616) : ∀ k, CL (timesS z n k).1 (timesS z n k).2 := by
  intro k
  induction k with
  | zero => exact uOn_CL hn ⟨by show 0 < 8; omega, by simp, by simp⟩
  | succ k ih =>
    simp only [timesS, timeOn]
    split
    · exact uOn_CL (foldZ_lt _ (hz 0)) ih
    · split
      · exact uOn_CL (by unfold stepZ; omega) ih
      · exact turnOn_c _ ih
theorem timesS_pre (z : Nat → Int) (hz : ∀ i, -9223372036854775808 ≤ z i ∧ z i ≤ 9223372036854775807) (n : Nat) (hn : n < 18446744073709551616) (L : List Nat) (m : Nat) (h : PRE (timesS z n m) L) : ∀ j, j ≤ m → PRE (timesS z n (m - j)) L := by
  intro j
  induction j with
  | zero => intro _; exact h
  | succ j ih =>
    intro hj
    have h1 := ih (by omega)
    have e : m - j = (m - (j + 1)) + 1 := by omega
    rw [e] at h1
    have hc := timesS_c z hz n hn (m - (j + 1))
    simp only [timesS, timeOn] at h1
    split at h1
    · exact PRE.of_u h1
    · split at h1
      · exact PRE.of_u h1
      · exact (PRE.of_turn hc h1).2
theorem PRE.refl (s : List Nat × Nat) : PRE s s.1 := ⟨Nat.le_refl _, fun _ _ => rfl⟩
/-- times come back. -/
theorem times_back (z : Nat → Int) (hz : ∀ i, -9223372036854775808 ≤ z i ∧ z i ≤ 9223372036854775807) (n : Nat) (hn : n ≤ 1048576) (hr : Rises z n) : lastT (natsOf (timesS z n n).1) (timesS z n n).1.length = ⟨(lastT (natsOf (timesS z n n).1) (timesS z n n).1.length).s, (lastT (natsOf (timesS z n n).1) (timesS z n n).1.length).gap, (lastT (natsOf (timesS z n n).1) (timesS z n n).1.length).la, (List.range n).map z⟩ ∧ doneF (natsOf (timesS z n n).1) (timesS z n n).1.length (lastT (natsOf (timesS z n n).1) (timesS z n n).1.length).s.p (lastT (natsOf (timesS z n n).1) (timesS z n n).1.length).s.r (lastT (natsOf (timesS z n n).1) (timesS z n n).1.length).s.fv = none := by
  obtain ⟨L, hL⟩ : ∃ L, L = (timesS z n n).1 := ⟨_, rfl⟩
  have hc := timesS_c z hz n (by omega)
  have h256 : ∀ y ∈ L, y < 256 := by rw [hL]; exact (hc n).2.1
  have hpre : ∀ k, k ≤ n → PRE (timesS z n k) L := fun k hk => by
    have := timesS_pre z hz n (by omega) L n (by rw [hL]; exact PRE.refl _) (n - k) (by omega)
    rw [show n - (n - k) = k by omega] at this
    exact this
  rw [← hL]
  obtain ⟨q0, u0, a0⟩ := (AT.start L).uint h256 n 1048576 (by omega) hn (hpre 0 (by omega))
  have hlast : lastT (natsOf L) L.length = readT (natsOf L) L.length q0 n := by unfold lastT; rw [u0]
  have main : ∀ k, k ≤ n → ∃ q g la, readT (natsOf L) L.length q0 k = ⟨q, g, la, (List.range k).map z⟩ ∧ AT (timesS z n k) L q ∧ (1 ≤ k → la = z (k - 1)) ∧ (2 ≤ k → g = stepZ z (k - 1)) := by
    intro k
    induction k with
    | zero => intro _; exact ⟨q0, 0, 0, rfl, a0, by omega, by omega⟩
    | succ k ih =>
      intro hk
      obtain ⟨q, g, la, e, a, h1, h2⟩ := ih (by omega)
      have es : readT (natsOf L) L.length q0 (k + 1) = timeT (natsOf L) L.length k ⟨q, g, la, (List.range k).map z⟩ := by
        show (if (readT (natsOf L) L.length q0 k).s.fv.isSome then _ else _) = _
        rw [e]
        simp only [a.f, Option.isSome_none, Bool.false_eq_true, if_false]
      have hp := hpre (k + 1) hk
      rw [es]
      unfold timeT
      simp only [timesS, timeOn] at hp ⊢
      rw [List.range_succ, List.map_append]
      by_cases k0 : k = 0
      · subst k0
        rw [if_pos rfl] at hp ⊢
        obtain ⟨q1, u1, a1⟩ := a.uint h256 (foldZ (z 0)) 18446744073709551615 (foldZ_lt _ (hz 0)) (by have := foldZ_lt _ (hz 0); omega) hp
        rw [if_pos rfl]
        simp only [u1, unfold_fold]
        exact ⟨q1, g, z 0, rfl, a1, fun _ => rfl, by omega⟩
      · rw [if_neg k0] at hp ⊢
        rw [if_neg k0]
        have hla := h1 (by omega)
        have hzk := hz k
        have hzk1 := hz (k - 1)
        have hrk := hr k (by omega) (by omega)
        by_cases k1 : k = 1
        · subst k1
          rw [if_pos rfl] at hp ⊢
          obtain ⟨q1, u1, a1⟩ := a.uint h256 (stepZ z 1) 18446744073709551615 (by unfold stepZ; omega) (by unfold stepZ; omega) hp
          rw [if_pos rfl]
          simp only [u1]
          have ez : wrap64 (la + ((stepZ z 1 : Nat) : Int)) = z 1 := by
            rw [hla]; unfold stepZ wrap64; simp only [Nat.sub_self] at *; omega
          rw [ez]
          exact ⟨q1, stepZ z 1, z 1, rfl, a1, fun _ => rfl, fun _ => rfl⟩
        · rw [if_neg k1] at hp ⊢
          rw [if_neg k1]
          have hg := h2 (by omega)
          obtain ⟨q1, u1, a1⟩ := a.turn h256 (wrap64 ((stepZ z k : Int) - (stepZ z (k - 1) : Int))) (wrap64_rg _) hp
          simp only [u1]
          have eg : (((g : Int) + wrap64 ((stepZ z k : Int) - (stepZ z (k - 1) : Int))) % 18446744073709551616).toNat = stepZ z k := by
            rw [hg]
            have s1 : stepZ z k < 18446744073709551616 := by unfold stepZ; omega
            have s2 : stepZ z (k - 1) < 18446744073709551616 := by unfold stepZ; omega
            unfold wrap64; omega
          rw [eg]
          have ez : wrap64 (la + ((stepZ z k : Nat) : Int)) = z k := by
            rw [hla]; unfold stepZ wrap64; omega
          rw [ez]
          exact ⟨q1, stepZ z k, z k, rfl, a1, fun _ => rfl, fun _ => rfl⟩
  obtain ⟨q, g, la, e, a, _⟩ := main n (Nat.le_refl _)
  rw [hlast, e]
  refine ⟨rfl, ?_⟩
  rw [hL] at a ⊢
  exact a.done
end Go.Proofs.YtfgfeipoddnekaaDoor

namespace Go.Proofs.YtfgfeipoddnekaaDoor
open Go.RowKit
set_option linter.unusedVariables false
set_option linter.unusedSimpArgs false
theorem sizeN_lt (x : Nat) (h : x < 18446744073709551616) : x < 2 ^ sizeN x := by
  have h1 : x < 2 ^ Lib.bitLen x := (aux_bound 64 x (by omega)).1
  exact Nat.lt_of_lt_of_le h1 (Nat.pow_le_pow_right (by omega) (by unfold sizeN; omega))
theorem stepOn_c (d : Int) {s : List Nat × Nat} (h : CL s.1 s.2) : CL (stepOn d s).1 (stepOn d s).2 := (bitsOn_c _ _ (bitsOn_c _ _ h).1).1
theorem AT.step {s : List Nat × Nat} {L : List Nat} {q : PS} (h : AT s L q) (hL : ∀ y ∈ L, y < 256) (d : Int) (hd : -9223372036854775808 ≤ d ∧ d ≤ 9223372036854775807) (hP : PRE (stepOn d s) L) : ∃ q', stepT (natsOf L) L.length q = (q', d) ∧ AT (stepOn d s) L q' := by
  have hz := foldZ_lt d hd
  have hs := sizeN_le (foldZ d)
  have c1 := (bitsOn_c (sizeN (foldZ d) - 1) 6 h.c).1
  have p1 : PRE (bitsOn (sizeN (foldZ d) - 1) 6 s) L := PRE.of_bits c1 hP
  obtain ⟨q1, b1, a1⟩ := h.bits hL _ 6 p1
  obtain ⟨q2, b2, a2⟩ := a1.bits hL (foldZ d) (sizeN (foldZ d)) hP
  have e6 : (sizeN (foldZ d) - 1) % 2 ^ 6 = sizeN (foldZ d) - 1 := Nat.mod_eq_of_lt (by show _ < 64; omega)
  rw [e6] at b1
  rw [Nat.mod_eq_of_lt (sizeN_lt _ hz)] at b2
  unfold stepT
  rw [b1]
  simp only [show sizeN (foldZ d) - 1 + 1 = sizeN (foldZ d) by omega, b2, unfold_fold]
  exact ⟨q2, rfl, a2⟩
theorem valsS_c (kk : Nat → Nat) (xx : Nat → Int) (n : Nat) (hn : n < 18446744073709551616) : ∀ k, CL (valsS kk xx n k).s.1 (valsS kk xx n k).s.2 := by
  intro k
  induction k with
  | zero => exact uOn_CL hn ⟨by show 0 < 8; omega, by simp, by simp⟩
  | succ k ih =>
    simp only [valsS, valStep]
    split
    · exact (bitsOn_c _ _ ih).1
    · split
      · exact stepOn_c _ (bitsOn_c _ _ ih).1
      · split
        · exact (bitsOn_c _ _ ih).1
        · exact (bitsOn_c _ _ ih).1
theorem valsS_pre (kk : Nat → Nat) (xx : Nat → Int) (n : Nat) (hn : n < 18446744073709551616) (L : List Nat) (m : Nat) (h : PRE (valsS kk xx n m).s L) : ∀ j, j ≤ m → PRE (valsS kk xx n (m - j)).s L := by
  intro j
  induction j with
  | zero => intro _; exact h
  | succ j ih =>
    intro hj
    have h1 := ih (by omega)
    have e : m - j = (m - (j + 1)) + 1 := by omega
    rw [e] at h1
    have hc := valsS_c kk xx n hn (m - (j + 1))
    simp only [valsS, valStep] at h1
    split at h1
    · exact PRE.of_bits hc h1
    · split at h1
      · have c1 := (bitsOn_c 2 2 hc).1
        have c2 := (bitsOn_c (sizeN (foldZ (wrap64 (xx (m - (j + 1)) - (valsS kk xx n (m - (j + 1))).la))) - 1) 6 c1).1
        exact PRE.of_bits hc (PRE.of_bits c1 (PRE.of_bits c2 h1))
      · split at h1
        · exact PRE.of_bits hc h1
        · exact PRE.of_bits hc h1
/-- values come back. -/
theorem vals_back (kk : Nat → Nat) (xx : Nat → Int) (hz : ∀ i, -9223372036854775808 ≤ xx i ∧ xx i ≤ 9223372036854775807) (n : Nat) (hn : n ≤ 1048576) (hv : AllV kk xx n) : (lastV (natsOf (valsS kk xx n n).s.1) (valsS kk xx n n).s.1.length).L = (List.range n).map (fun i => (kk i, xx i)) ∧ doneF (natsOf (valsS kk xx n n).s.1) (valsS kk xx n n).s.1.length (lastV (natsOf (valsS kk xx n n).s.1) (valsS kk xx n n).s.1.length).s.p (lastV (natsOf (valsS kk xx n n).s.1) (valsS kk xx n n).s.1.length).s.r (lastV (natsOf (valsS kk xx n n).s.1) (valsS kk xx n n).s.1.length).s.fv = none := by
  obtain ⟨L, hL⟩ : ∃ L, L = (valsS kk xx n n).s.1 := ⟨_, rfl⟩
  have hc := valsS_c kk xx n (by omega)
  have h256 : ∀ y ∈ L, y < 256 := by rw [hL]; exact (hc n).2.1
  have hpre : ∀ k, k ≤ n → PRE (valsS kk xx n k).s L := fun k hk => by
    have := valsS_pre kk xx n (by omega) L n (by rw [hL]; exact PRE.refl _) (n - k) (by omega)
    rw [show n - (n - k) = k by omega] at this
    exact this
  rw [← hL]
  obtain ⟨q0, u0, a0⟩ := (AT.start L).uint h256 n 1048576 (by omega) hn (hpre 0 (by omega))
  have hlast : lastV (natsOf L) L.length = readV (natsOf L) L.length q0 n := by unfold lastV; rw [u0]
  have main : ∀ k, k ≤ n → ∃ q, readV (natsOf L) L.length q0 k = ⟨q, (valsS kk xx n k).ak, (valsS kk xx n k).ax, (valsS kk xx n k).la, (List.range k).map (fun i => (kk i, xx i))⟩ ∧ AT (valsS kk xx n k).s L q ∧ -9223372036854775808 ≤ (valsS kk xx n k).la ∧ (valsS kk xx n k).la ≤ 9223372036854775807 := by
    intro k
    induction k with
    | zero => intro _; exact ⟨q0, rfl, a0, by show (-9223372036854775808 : Int) ≤ 0; omega, by show (0 : Int) ≤ 9223372036854775807; omega⟩
    | succ k ih =>
      intro hk
      obtain ⟨q, e, a, hla⟩ := ih (by omega)
      have es : readV (natsOf L) L.length q0 (k + 1) = stepV (natsOf L) L.length ⟨q, (valsS kk xx n k).ak, (valsS kk xx n k).ax, (valsS kk xx n k).la, (List.range k).map (fun i => (kk i, xx i))⟩ := by
        show (if (readV (natsOf L) L.length q0 k).s.fv.isSome then _ else _) = _
        rw [e]
        simp only [a.f, Option.isSome_none, Bool.false_eq_true, if_false]
      have hp := hpre (k + 1) hk
      have hk1 := hv k (by omega)
      have hxk := hz k
      rw [es, List.range_succ, List.map_append]
      obtain ⟨v, hvv⟩ : ∃ v, v = valsS kk xx n k := ⟨_, rfl⟩
      have ev : valsS kk xx n (k + 1) = valStep (kk k) (xx k) v := by rw [hvv]; rfl
      rw [ev] at hp ⊢
      rw [← hvv] at a hla ⊢
      unfold valStep at hp ⊢
      unfold stepV
      simp only
      by_cases e1 : kk k = v.ak ∧ xx k = v.ax
      · rw [if_pos e1] at hp ⊢
        obtain ⟨q1, b1, a1⟩ := a.bits h256 0 1 hp
        rw [b1, if_pos (by simp)]
        refine ⟨q1, ?_, a1, hla⟩
        simp only [List.map_cons, List.map_nil, e1.1, e1.2]
      · rw [if_neg e1] at hp ⊢
        by_cases e2 : kk k = 0
        · rw [if_pos e2] at hp ⊢
          have ea : bitsOn 2 2 v.s = bitsOn 0 1 (bitsOn 1 1 v.s) := rfl
          simp only [ea] at hp ⊢
          have c1 := (bitsOn_c 1 1 a.c).1
          have c2 := (bitsOn_c 0 1 c1).1
          have p2 : PRE (bitsOn 0 1 (bitsOn 1 1 v.s)) L := PRE.of_bits c2 (PRE.of_bits (bitsOn_c _ 6 c2).1 hp)
          have p1 := PRE.of_bits c1 p2
          obtain ⟨q1, b1, a1⟩ := a.bits h256 1 1 p1
          obtain ⟨q2, b2, a2⟩ := a1.bits h256 0 1 p2
          obtain ⟨q3, b3, a3⟩ := a2.step h256 (wrap64 (xx k - v.la)) (wrap64_rg _) hp
          rw [b1, if_neg (by simp), b2, if_pos (by simp), b3]
          have ex : wrap64 (v.la + wrap64 (xx k - v.la)) = xx k := by unfold wrap64; omega
          simp only [ex]
          refine ⟨q3, ?_, a3, hxk⟩
          simp only [List.map_cons, List.map_nil, e2]
        · rw [if_neg e2] at hp ⊢
          have hx0 : xx k = 0 := by rcases hk1.2 with h | h; exact absurd h e2; exact h
          by_cases e3 : kk k = 1
          · rw [if_pos e3] at hp ⊢
            have ea : bitsOn 6 3 v.s = bitsOn 0 1 (bitsOn 1 1 (bitsOn 1 1 v.s)) := rfl
            simp only [ea] at hp ⊢
            have c1 := (bitsOn_c 1 1 a.c).1
            have c2 := (bitsOn_c 1 1 c1).1
            have p2 := PRE.of_bits c2 hp
            have p1 := PRE.of_bits c1 p2
            obtain ⟨q1, b1, a1⟩ := a.bits h256 1 1 p1
            obtain ⟨q2, b2, a2⟩ := a1.bits h256 1 1 p2
            obtain ⟨q3, b3, a3⟩ := a2.bits h256 0 1 hp
            rw [b1, if_neg (by simp), b2, if_neg (by simp), b3, if_pos (by simp)]
            refine ⟨q3, ?_, a3, hla⟩
            simp only [List.map_cons, List.map_nil, e3, hx0]
          · rw [if_neg e3] at hp ⊢
            have e4 : kk k = 2 := by have := hk1.1; omega
            have ea : bitsOn 7 3 v.s = bitsOn 1 1 (bitsOn 1 1 (bitsOn 1 1 v.s)) := rfl
            simp only [ea] at hp ⊢
            have c1 := (bitsOn_c 1 1 a.c).1
            have c2 := (bitsOn_c 1 1 c1).1
            have p2 := PRE.of_bits c2 hp
            have p1 := PRE.of_bits c1 p2
            obtain ⟨q1, b1, a1⟩ := a.bits h256 1 1 p1
            obtain ⟨q2, b2, a2⟩ := a1.bits h256 1 1 p2
            obtain ⟨q3, b3, a3⟩ := a2.bits h256 1 1 hp
            rw [b1, if_neg (by simp), b2, if_neg (by simp), b3, if_neg (by simp)]
            refine ⟨q3, ?_, a3, hla⟩
            simp only [List.map_cons, List.map_nil, e4, hx0]
  obtain ⟨q, e, a, _⟩ := main n (Nat.le_refl _)
  rw [hlast, e]
  refine ⟨rfl, ?_⟩
  rw [hL] at a ⊢
  exact a.done
end Go.Proofs.YtfgfeipoddnekaaDoor

namespace Go.Proofs.YtfgfeipoddnekaaDoor
open Go.RowKit
set_option linter.unusedVariables false
set_option linter.unusedSimpArgs false
theorem nb_len {s : List Nat × Nat} (h : CL s.1 s.2) : 8 * s.1.length ≤ nbits s + 7 ∧ nbits s ≤ 8 * s.1.length := by
  obtain ⟨l, b⟩ := s
  refine ⟨?_, nbits_le l b⟩
  unfold nbits
  simp only at h ⊢
  have := h.1
  omega
theorem nb_u (x : Nat) {s : List Nat × Nat} (h : CL s.1 s.2) : nbits (uOn x s) ≤ nbits s + 95 := by
  have h1 := nb_len h
  have h2 := uB_len x
  show 8 * (s.1 ++ uB x).length - (8 - 0) % 8 ≤ _
  simp only [List.length_append]
  omega
theorem timesS_nb (z : Nat → Int) (hz : ∀ i, -9223372036854775808 ≤ z i ∧ z i ≤ 9223372036854775807) (n : Nat) (hn : n < 18446744073709551616) : ∀ k, nbits (timesS z n k) ≤ 95 + 95 * k := by
  intro k
  induction k with
  | zero => exact Nat.le_trans (nb_u n (s := ([], 0)) ⟨by show 0 < 8; omega, by simp, by simp⟩) (by simp [nbits])
  | succ k ih =>
    have hc := timesS_c z hz n hn k
    simp only [timesS, timeOn]
    split
    · have := nb_u (foldZ (z 0)) hc; omega
    · split
      · have := nb_u (stepZ z 1) hc; omega
      · have h1 := (bitsOn_c (turnA (wrap64 ((stepZ z k : Int) - (stepZ z (k - 1) : Int)))) (turnB (wrap64 ((stepZ z k : Int) - (stepZ z (k - 1) : Int)))) hc)
        have h2 := (bitsOn_c (turnC (wrap64 ((stepZ z k : Int) - (stepZ z (k - 1) : Int)))) (turnD (wrap64 ((stepZ z k : Int) - (stepZ z (k - 1) : Int)))) h1.1).2
        have h3 : turnB (wrap64 ((stepZ z k : Int) - (stepZ z (k - 1) : Int))) ≤ 4 := by unfold turnB; repeat' split <;> try omega
        have h4 : turnD (wrap64 ((stepZ z k : Int) - (stepZ z (k - 1) : Int))) ≤ 64 := by unfold turnD; repeat' split <;> try omega
        have h5 := h1.2
        show nbits (bitsOn _ _ _) ≤ _
        omega
theorem valsS_nb (kk : Nat → Nat) (xx : Nat → Int) (n : Nat) (hn : n < 18446744073709551616) : ∀ k, nbits (valsS kk xx n k).s ≤ 95 + 95 * k := by
  intro k
  induction k with
  | zero => exact Nat.le_trans (nb_u n (s := ([], 0)) ⟨by show 0 < 8; omega, by simp, by simp⟩) (by simp [nbits])
  | succ k ih =>
    have hc := valsS_c kk xx n hn k
    simp only [valsS, valStep]
    split
    · have := (bitsOn_c 0 1 hc).2; simp only; omega
    · split
      · have h1 := bitsOn_c 2 2 hc
        have h2 := bitsOn_c (sizeN (foldZ (wrap64 (xx k - (valsS kk xx n k).la))) - 1) 6 h1.1
        have h3 := (bitsOn_c (foldZ (wrap64 (xx k - (valsS kk xx n k).la))) (sizeN (foldZ (wrap64 (xx k - (valsS kk xx n k).la)))) h2.1).2
        have h4 := sizeN_le (foldZ (wrap64 (xx k - (valsS kk xx n k).la)))
        have h5 := h1.2
        have h6 := h2.2
        show nbits (bitsOn _ _ _) ≤ _
        omega
      · split
        · have := (bitsOn_c 6 3 hc).2; simp only; omega
        · have := (bitsOn_c 7 3 hc).2; simp only; omega
theorem timesS_congr (z z' : Nat → Int) (n m : Nat) (h : ∀ i, i < n → z i = z' i) : ∀ k, k ≤ n → timesS z m k = timesS z' m k := by
  intro k
  induction k with
  | zero => intro _; rfl
  | succ k ih =>
    intro hk
    simp only [timesS, timeOn, ih (by omega)]
    by_cases k0 : k = 0
    · subst k0; rw [if_pos rfl, if_pos rfl, h 0 (by omega)]
    · rw [if_neg k0, if_neg k0]
      by_cases k1 : k = 1
      · subst k1; rw [if_pos rfl, if_pos rfl]; unfold stepZ; rw [h 1 (by omega), h (1 - 1) (by omega)]
      · rw [if_neg k1, if_neg k1]; unfold stepZ; rw [h k (by omega), h (k - 1) (by omega), h (k - 1 - 1) (by omega)]
theorem valsS_congr (kk kk' : Nat → Nat) (xx xx' : Nat → Int) (n m : Nat) (h : ∀ i, i < n → kk i = kk' i ∧ xx i = xx' i) : ∀ k, k ≤ n → valsS kk xx m k = valsS kk' xx' m k := by
  intro k
  induction k with
  | zero => intro _; rfl
  | succ k ih =>
    intro hk
    simp only [valsS]
    rw [ih (by omega), (h k (by omega)).1, (h k (by omega)).2]
theorem ttL_map (z : Nat → Int) (n i : Nat) (h : i < n) : ttL ((List.range n).map z) i = z i := by
  unfold ttL
  simp [List.getD_eq_getElem?_getD, h]
theorem kkL_map (kk : Nat → Nat) (xx : Nat → Int) (n i : Nat) (h : i < n) : kkL ((List.range n).map fun i => (kk i, xx i)) i = kk i ∧ xxL ((List.range n).map fun i => (kk i, xx i)) i = xx i := by
  unfold kkL xxL
  simp [List.getD_eq_getElem?_getD, h]
theorem natsOf_app (l r : List Nat) (j : Nat) : natsOf (l ++ r) (l.length + j) = natsOf r j := getD_right l r j
theorem natsOf_left (l r : List Nat) (j : Nat) (h : j < l.length) : natsOf (l ++ r) j = natsOf l j := getD_left l r j h
/-- a piece comes back. -/
theorem pieceT_back (A E R : List Nat) (M : Nat) (hM : E.length ≤ M) (hE : E.length < 18446744073709551616) : pieceT (natsOf (A ++ (uB E.length ++ (E ++ R)))) (A ++ (uB E.length ++ (E ++ R))).length M ⟨A.length, 0, none⟩ = (⟨A.length + (uB E.length).length + E.length, 0, none⟩, A.length + (uB E.length).length, E.length) ∧ bytesL (fun i => natsOf (A ++ (uB E.length ++ (E ++ R))) (A.length + (uB E.length).length + i)) E.length = E := by
  obtain ⟨P, hP⟩ : ∃ P, P = A ++ (uB E.length ++ (E ++ R)) := ⟨_, rfl⟩
  have hPl : P.length = A.length + ((uB E.length).length + (E.length + R.length)) := by rw [hP]; simp
  have hb : ∀ i, i < (uB E.length).length → natsOf P (A.length + i) = (uB E.length).getD i 0 := fun i hi => by
    rw [hP, natsOf_app, natsOf_left _ _ _ hi]; rfl
  have hnum : numS (natsOf P) P.length A.length 10 0 0 = .inr (E.length, (uB E.length).length) := by
    have := numS_uB (natsOf P) P.length A.length 10 0 0 E.length (by omega) (by omega) (by omega) (by omega) (by rw [Nat.add_zero]; show A.length + (uB E.length).length ≤ _; omega) (fun i hi => by rw [Nat.add_zero]; exact hb i hi) (by omega) (by omega)
    simpa [uB] using this
  rw [← hP]
  refine ⟨?_, ?_⟩
  · unfold pieceT
    rw [if_neg (by simp [startF, ragb])]
    simp only [hnum]
    rw [if_neg (by omega), if_neg (by omega)]
  · refine (bytesL_congr _ (natsOf E) _ fun i hi => ?_).trans (bytesL_nats E)
    rw [hP, Nat.add_assoc, natsOf_app, natsOf_app, natsOf_left _ _ _ hi]
theorem SIn.congr {w : World} {a : Option Addr} {n : Nat} {tt tt' : Nat → Int} {kk kk' : Nat → Nat} {xx xx' : Nat → Int} (h : SIn w a n tt kk xx) (h1 : ∀ i, i < n → tt i = tt' i ∧ kk i = kk' i ∧ xx i = xx' i) (hz : ∀ i, kk' i < 256 ∧ -9223372036854775808 ≤ xx' i ∧ xx' i ≤ 9223372036854775807) (hz' : ∀ i, -9223372036854775808 ≤ tt' i ∧ tt' i ≤ 9223372036854775807) : SIn w a n tt' kk' xx' := by
  obtain ⟨g1, g2, g3, g4⟩ := h
  refine ⟨g1, hz, hz', ?_⟩
  rcases g4 with h0 | ⟨b, off, e, hb, hc⟩
  · exact Or.inl h0
  · exact Or.inr ⟨b, off, e, hb, fun i hi => by
      obtain ⟨e1, e2, e3⟩ := h1 i hi
      rw [← e1, ← e2, ← e3]; exact hc i hi⟩
/-- packed samples come back. -/
theorem pack_back (tt : Nat → Int) (kk : Nat → Nat) (xx : Nat → Int) (n : Nat) (hn : n ≤ 1048576) (hz : ∀ i, kk i < 256 ∧ -9223372036854775808 ≤ xx i ∧ xx i ≤ 9223372036854775807) (hz' : ∀ i, -9223372036854775808 ≤ tt i ∧ tt i ≤ 9223372036854775807) (hr : Rises tt n) (hv : AllV kk xx n) :
    UPg (natsOf (packS tt kk xx n).1) (packS tt kk xx n).1.length ∧ tL (pT (natsOf (packS tt kk xx n).1) (packS tt kk xx n).1.length) = (List.range n).map tt ∧ vL (pV (natsOf (packS tt kk xx n).1) (packS tt kk xx n).1.length) = (List.range n).map (fun i => (kk i, xx i)) := by
  obtain ⟨tb1, tb2⟩ := times_back tt hz' n hn hr
  obtain ⟨vb1, vb2⟩ := vals_back kk xx (fun i => (hz i).2) n hn hv
  have tb1' := congrArg UT.L tb1
  simp only at tb1'
  have tl1 := timesS_nb tt hz' n (by omega) n
  have tl2 := nb_len (timesS_c tt hz' n (by omega) n)
  have vl1 := valsS_nb kk xx n (by omega) n
  have vl2 := nb_len (valsS_c kk xx n (by omega) n)
  obtain ⟨T, hT⟩ : ∃ T, T = (timesS tt n n).1 := ⟨_, rfl⟩
  obtain ⟨V, hV⟩ : ∃ V, V = (valsS kk xx n n).s.1 := ⟨_, rfl⟩
  have hTl : T.length ≤ 67108864 := by rw [hT]; omega
  have hVl : V.length ≤ 67108864 := by rw [hV]; omega
  have hP : (packS tt kk xx n).1 = uB T.length ++ (T ++ (uB V.length ++ V)) := by
    unfold packS rawOn; rw [← hT, ← hV]; simp
  rw [← hT] at tb1' tb2
  rw [← hV] at vb1 vb2
  rw [hP]
  obtain ⟨P, hPd⟩ : ∃ P, P = uB T.length ++ (T ++ (uB V.length ++ V)) := ⟨_, rfl⟩
  have p1 := pieceT_back [] T (uB V.length ++ V) 67108864 hTl (by omega)
  have p2 := pieceT_back (uB T.length ++ T) V [] 67108864 hVl (by omega)
  simp only [List.nil_append, List.length_nil, Nat.zero_add] at p1
  simp only [List.append_nil, List.append_assoc, List.length_append] at p2
  have e1 : pc1 (natsOf P) P.length = (⟨(uB T.length).length + T.length, 0, none⟩, (uB T.length).length, T.length) := by
    unfold pc1; rw [hPd]; simpa using p1.1
  have e2 : pc2 (natsOf P) P.length = (⟨(uB T.length).length + T.length + (uB V.length).length + V.length, 0, none⟩, (uB T.length).length + T.length + (uB V.length).length, V.length) := by
    unfold pc2; rw [e1, hPd]; simpa using p2.1
  rw [← hPd] at p1 p2 ⊢
  have eT : pT (natsOf P) P.length = T := by unfold pT; rw [e1]; exact p1.2
  have eV : pV (natsOf P) P.length = V := by unfold pV; rw [e2]; exact p2.2
  have eD : pD (natsOf P) P.length = none := by
    unfold pD doneF
    rw [e2]
    have hl : P.length = (uB T.length).length + T.length + (uB V.length).length + V.length := by rw [hPd]; simp; omega
    simp only
    rw [if_neg (by simp [startF, ragb]), if_neg (by omega)]
  rw [eT, eV]
  have htL : tL T = (List.range n).map tt := tb1'
  have hvL : vL V = (List.range n).map (fun i => (kk i, xx i)) := vb1
  have lt : (tL T).length = n := by rw [htL]; simp
  have lv : (vL V).length = n := by rw [hvL]; simp
  refine ⟨⟨eD, ?_, ?_, ?_⟩, htL, hvL⟩
  · rw [eT]
    refine ⟨tb2, ?_, ?_⟩
    · show Rises (ttL (tL T)) (tL T).length
      rw [lt, htL]
      intro i h1 h2
      rw [ttL_map tt n _ (by omega), ttL_map tt n _ h2]; exact hr i h1 h2
    · show (timesS (ttL (tL T)) (tL T).length (tL T).length).1 = _
      rw [lt, htL, timesS_congr _ tt n n (fun i hi => ttL_map tt n i hi) n (Nat.le_refl _), ← hT, bytesL_nats]
  · rw [eV]
    refine ⟨vb2, ?_⟩
    show (valsS (kkL (vL V)) (xxL (vL V)) (vL V).length (vL V).length).s.1 = _
    rw [lv, hvL, valsS_congr _ kk _ xx n n (fun i hi => kkL_map kk xx n i hi) n (Nat.le_refl _), ← hV, bytesL_nats]
  · rw [eT, eV, lt, lv]
end Go.Proofs.YtfgfeipoddnekaaDoor

namespace Go.Proofs.YtfgfeipoddnekaaDoor
open Go.RowKit
set_option linter.unusedVariables false
set_option linter.unusedSimpArgs false
theorem numS_more {f g : Nat → Nat} {m n p : Nat} (hm : m ≤ n) (he : ∀ i, i < m → f i = g i) : ∀ (k s v : Nat) (r : Nat × Nat), numS f m p k s v = .inr r → numS g n p k s v = .inr r := by
  intro k
  induction k with
  | zero => intro s v r h; cases h
  | succ k ih =>
    intro s v r h
    unfold numS at h ⊢
    split at h
    · cases h
    · rename_i h1
      rw [if_neg (by omega), ← he (p + s) (by omega)]
      split at h
      · cases h
      · rename_i h2
        rw [if_neg h2]
        split at h
        · rename_i h3; rw [if_pos h3]; exact h
        · rename_i h3; rw [if_neg h3]; exact ih _ _ _ h
theorem numS_back (A E R : List Nat) (hE : E.length < 18446744073709551616) : numS (natsOf (A ++ (uB E.length ++ (E ++ R)))) (A ++ (uB E.length ++ (E ++ R))).length A.length 10 0 0 = .inr (E.length, (uB E.length).length) := by
  obtain ⟨P, hP⟩ : ∃ P, P = A ++ (uB E.length ++ (E ++ R)) := ⟨_, rfl⟩
  have hPl : P.length = A.length + ((uB E.length).length + (E.length + R.length)) := by rw [hP]; simp
  have hb : ∀ i, i < (uB E.length).length → natsOf P (A.length + i) = (uB E.length).getD i 0 := fun i hi => by
    rw [hP, natsOf_app, natsOf_left _ _ _ hi]; rfl
  rw [← hP]
  have := numS_uB (natsOf P) P.length A.length 10 0 0 E.length (by omega) (by omega) (by omega) (by omega) (by rw [Nat.add_zero]; show A.length + (uB E.length).length ≤ _; omega) (fun i hi => by rw [Nat.add_zero]; exact hb i hi) (by omega) (by omega)
  simpa [uB] using this
/-- cut at its end, a packed row is no more one. -/
theorem pack_cut (tt : Nat → Int) (kk : Nat → Nat) (xx : Nat → Int) (n : Nat) (hn : n ≤ 1048576) (hz' : ∀ i, -9223372036854775808 ≤ tt i ∧ tt i ≤ 9223372036854775807) (m : Nat) (hm : m < (packS tt kk xx n).1.length) : pD (natsOf ((packS tt kk xx n).1.take m)) ((packS tt kk xx n).1.take m).length ≠ none := by
  have tl1 := timesS_nb tt hz' n (by omega) n
  have tl2 := nb_len (timesS_c tt hz' n (by omega) n)
  have vl1 := valsS_nb kk xx n (by omega) n
  have vl2 := nb_len (valsS_c kk xx n (by omega) n)
  obtain ⟨T, hT⟩ : ∃ T, T = (timesS tt n n).1 := ⟨_, rfl⟩
  obtain ⟨V, hV⟩ : ∃ V, V = (valsS kk xx n n).s.1 := ⟨_, rfl⟩
  have hTl : T.length ≤ 67108864 := by rw [hT]; omega
  have hVl : V.length ≤ 67108864 := by rw [hV]; omega
  have hP : (packS tt kk xx n).1 = uB T.length ++ (T ++ (uB V.length ++ V)) := by
    unfold packS rawOn; rw [← hT, ← hV]; simp
  rw [hP] at hm ⊢
  have n1 := numS_back [] T (uB V.length ++ V) (by omega)
  have n2 := numS_back (uB T.length ++ T) V [] (by omega)
  simp only [List.nil_append, List.length_nil] at n1
  simp only [List.append_nil, List.append_assoc] at n2
  obtain ⟨P, hPd⟩ : ∃ P, P = uB T.length ++ (T ++ (uB V.length ++ V)) := ⟨_, rfl⟩
  have hPl : P.length = (uB T.length).length + T.length + (uB V.length).length + V.length := by rw [hPd]; simp; omega
  rw [← hPd] at n1 n2 hm ⊢
  have hBl : (P.take m).length = m := by simp; omega
  have he : ∀ i, i < m → natsOf (P.take m) i = natsOf P i := fun i hi => by
    unfold natsOf; simp [List.getD_eq_getElem?_getD, List.getElem?_take, hi]
  rw [hBl]
  intro hD
  unfold pD doneF at hD
  by_cases hst : (startF (natsOf (P.take m)) (pc2 (natsOf (P.take m)) m).1.p (pc2 (natsOf (P.take m)) m).1.r (pc2 (natsOf (P.take m)) m).1.fv).isSome = true
  · rw [if_pos hst] at hD; rw [hD] at hst; cases hst
  have hst' : startF (natsOf (P.take m)) (pc2 (natsOf (P.take m)) m).1.p (pc2 (natsOf (P.take m)) m).1.r (pc2 (natsOf (P.take m)) m).1.fv = none := by
    cases hh : startF (natsOf (P.take m)) (pc2 (natsOf (P.take m)) m).1.p (pc2 (natsOf (P.take m)) m).1.r (pc2 (natsOf (P.take m)) m).1.fv with
    | none => rfl
    | some y => rw [hh] at hst; exact absurd rfl hst
  have hf2 := (startF_none hst').1
  obtain ⟨hs2, x2, l2, hq2, hn2, e2⟩ := pieceT_ok (show (pieceT (natsOf (P.take m)) m 67108864 (pc1 (natsOf (P.take m)) m).1).1.fv = none from hf2)
  have hf1 := (startF_none hs2).1
  obtain ⟨hs1, x1, l1, hq1, hn1, e1⟩ := pieceT_ok (show (pieceT (natsOf (P.take m)) m 67108864 ⟨0, 0, none⟩).1.fv = none from hf1)
  have e1' : pc1 (natsOf (P.take m)) m = (⟨0 + l1 + x1, 0, none⟩, 0 + l1, x1) := e1
  rw [e1'] at hq2 hn2
  simp only at hq1 hq2 hn1 hn2
  have g1 := numS_more (by omega : m ≤ P.length) he _ _ _ _ hq1
  rw [n1] at g1
  injection g1 with g1
  injection g1 with g11 g12
  have g2 := numS_more (by omega : m ≤ P.length) he _ _ _ _ hq2
  rw [show 0 + l1 + x1 = (uB T.length ++ T).length by simp; omega, n2] at g2
  injection g2 with g2
  injection g2 with g21 g22
  omega
end Go.Proofs.YtfgfeipoddnekaaDoor
