
import Derived.Test.YtkcpiplifibpkaaDoorBkW
import Derived.Test.YtkcpiplifibpkaaDoorRgF
namespace Go.Proofs.YtkcpiplifibpkaaDoor
open Go.RowKit
set_option linter.unusedVariables false
set_option linter.unusedSimpArgs false
/-- what was written is what was read: p bytes of L, of the last one but for its lowest r bits. -/
def PW (L l : List Nat) (b p r : Nat) : Prop := r < 8 ∧ nbits (l, b) + r = 8 * p ∧ ∀ q, q < nbits (l, b) → bt L q = bt l q
theorem zero_bit {x r t : Nat} (h : x % 2 ^ r = 0) (ht : t < r) : x.testBit t = false := by
  have e := congrArg (fun y => Nat.testBit y t) h
  simp [Nat.testBit_mod_two_pow, ht] at e
  exact e
/-- whole bytes more. -/
theorem PW.whole {L l E : List Nat} {b p r : Nat} (hC : CL l b) (h : PW L l b p r) (hr : ¬ (r ≠ 0 ∧ natsOf L (p - 1) % 2 ^ r ≠ 0)) (hE : ∀ i, i < E.length → natsOf L (p + i) = E.getD i 0) : PW L (l ++ E) 0 (p + E.length) 0 := by
  obtain ⟨h1, h2, h3⟩ := h
  obtain ⟨hp, hr2⟩ := place hC h1 h2
  have hb8 := hC.1
  refine ⟨by omega, by simp [nbits]; omega, fun q hq => ?_⟩
  have hq2 : q < 8 * (l.length + E.length) := by simpa [nbits] using hq
  rcases Nat.lt_or_ge q (nbits (l, b)) with hlt | hge
  · rw [h3 q hlt, bt_left l E q (by have := nbits_le l b; omega)]
  · rcases Nat.lt_or_ge q (8 * l.length) with hl | hl
    · rw [bt_left l E q hl]
      have hb0 : b ≠ 0 := fun e => by subst e; simp [nbits] at hge; omega
      have hr0 : r = 8 - b := by omega
      obtain ⟨l0, y, rfl, hz⟩ := hC.2.2 hb0
      have hl0 : (l0 ++ [y]).length = l0.length + 1 := by simp
      have hq8 : q / 8 = l0.length := by omega
      have ht : 7 - q % 8 < r := by omega
      have e1 : (l0 ++ [y]).getD l0.length 0 = y := by simp [List.getD_eq_getElem?_getD]
      have e2 : natsOf L (p - 1) % 2 ^ r = 0 := by
        by_cases hx : natsOf L (p - 1) % 2 ^ r = 0
        · exact hx
        · exact absurd ⟨by omega, hx⟩ hr
      unfold bt
      have e4 : y.testBit (7 - q % 8) = false := zero_bit (by rw [← hr0] at hz; exact hz) ht
      rw [hq8, e1, e4]
      have e3 : L.getD l0.length 0 % 2 ^ r = 0 := by rw [show l0.length = p - 1 by omega]; exact e2
      exact zero_bit e3 ht
    · have hi : q / 8 - l.length < E.length := by omega
      have e := hE _ hi
      unfold bt
      have e1 : (l ++ E).getD (q / 8) 0 = E.getD (q / 8 - l.length) 0 := by
        have := getD_right l E (q / 8 - l.length)
        rw [show l.length + (q / 8 - l.length) = q / 8 by omega] at this
        exact this
      have e2 : L.getD (q / 8) 0 = natsOf L (p + (q / 8 - l.length)) := by rw [show p + (q / 8 - l.length) = q / 8 by omega]; rfl
      rw [e1, e2, e]
theorem rdB_bit (bs : Nat → Nat) (q : Nat) : ∀ (c j : Nat), j < c → rdB bs q c / 2 ^ (c - 1 - j) % 2 = bs ((q + j) / 8) / 2 ^ (7 - (q + j) % 8) % 2 := by
  intro c
  induction c with
  | zero => intro j hj; omega
  | succ c ih =>
    intro j hj
    have hlt : bs ((q + c) / 8) / 2 ^ (7 - (q + c) % 8) % 2 < 2 := Nat.mod_lt _ (by omega)
    simp only [rdB]
    rcases Nat.lt_or_ge j c with hc | hc
    · rw [show c + 1 - 1 - j = (c - 1 - j) + 1 by omega, Nat.pow_succ, Nat.mul_comm _ 2, ← Nat.div_div_eq_div_mul, show (2 * rdB bs q c + bs ((q + c) / 8) / 2 ^ (7 - (q + c) % 8) % 2) / 2 = rdB bs q c by omega]
      exact ih j hc
    · obtain rfl : j = c := by omega
      simp only [show j + 1 - 1 - j = 0 by omega, Nat.pow_zero, Nat.div_one]
      omega
/-- bits more. -/
theorem PW.bits {L l : List Nat} {b p r c p' r' : Nat} (hC : CL l b) (h : PW L l b p r) (hr' : r' < 8) (hp : nbits (l, b) + c + r' = 8 * p') : PW L (bitsOn (rdB (natsOf L) (nbits (l, b)) c) c (l, b)).1 (bitsOn (rdB (natsOf L) (nbits (l, b)) c) c (l, b)).2 p' r' := by
  obtain ⟨h1, h2, h3⟩ := h
  obtain ⟨g1, g2, g3, g4, g5⟩ := bitsOn_bt (rdB (natsOf L) (nbits (l, b)) c) c l b hC
  refine ⟨hr', by rw [show ((bitsOn (rdB (natsOf L) (nbits (l, b)) c) c (l, b)).1, (bitsOn (rdB (natsOf L) (nbits (l, b)) c) c (l, b)).2) = bitsOn (rdB (natsOf L) (nbits (l, b)) c) c (l, b) from rfl, g2]; exact hp, fun q hq => ?_⟩
  rw [show ((bitsOn (rdB (natsOf L) (nbits (l, b)) c) c (l, b)).1, (bitsOn (rdB (natsOf L) (nbits (l, b)) c) c (l, b)).2) = bitsOn (rdB (natsOf L) (nbits (l, b)) c) c (l, b) from rfl, g2] at hq
  rcases Nat.lt_or_ge q (nbits (l, b)) with hlt | hge
  · rw [g4 q hlt]; exact h3 q hlt
  · obtain ⟨j, rfl⟩ : ∃ j, q = nbits (l, b) + j := ⟨q - nbits (l, b), by omega⟩
    rw [g5 j (by omega), rdB_bit _ _ c j (by omega)]
    unfold bt
    rw [Nat.testBit_eq_decide_div_mod_eq]
    rfl
/-- all was read. -/
theorem PW.all {L l : List Nat} {b p r : Nat} (hC : CL l b) (hL : ∀ y ∈ L, y < 256) (h : PW L l b p r) (hr : ¬ (r ≠ 0 ∧ natsOf L (p - 1) % 2 ^ r ≠ 0)) (hp : p = L.length) : l = L := by
  have hp2 := (place hC h.1 h.2.1).1
  have hw := PW.whole (E := []) hC h hr (by simp)
  rw [List.append_nil] at hw
  have hby := PRE.byte (l := l) (L := L) ⟨by show l.length ≤ L.length; omega, hw.2.2⟩ hC.2.1 hL
  apply List.ext_getElem (by omega)
  intro i h1 h2
  have := hby i h1
  rw [List.getD_eq_getElem?_getD, List.getD_eq_getElem?_getD, List.getElem?_eq_getElem h1, List.getElem?_eq_getElem h2] at this
  exact this.symm
end Go.Proofs.YtkcpiplifibpkaaDoor
