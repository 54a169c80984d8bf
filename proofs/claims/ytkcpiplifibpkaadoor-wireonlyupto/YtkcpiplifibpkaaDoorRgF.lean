
import Derived.Test.YtkcpiplifibpkaaDoorRgE
import Derived.Test.YtkcpiplifibpkaaDoorRwF
namespace Go.Proofs.YtkcpiplifibpkaaDoor
open Go.RowKit
set_option linter.unusedVariables false
set_option linter.unusedSimpArgs false
/-- what Bits tells. -/
def BitsG (bs : Nat → Nat) (n p r c : Nat) (fv : Option (Int × Int)) (p' r' : Nat) (fv' : Option (Int × Int)) (v : Nat) : Prop :=
  (fv ≠ none ∧ fv' = fv ∧ v = 0 ∧ p' = p ∧ r' = r) ∨ (fv = none ∧ 8 * n < 8 * p - r + c ∧ fv' = some ((n : Int), 30) ∧ v = 0 ∧ p' = p ∧ r' = r) ∨ (fv = none ∧ 8 * p - r + c ≤ 8 * n ∧ fv' = none ∧ v = rdB bs (8 * p - r) c ∧ r' < 8 ∧ 8 * p - r + c + r' = 8 * p')
/-- what Done tells. -/
def doneF (bs : Nat → Nat) (n p r : Nat) (fv : Option (Int × Int)) : Option (Int × Int) := if (startF bs p r fv).isSome then startF bs p r fv else if p < n then some ((p : Int), 33) else none
section
variable {N : Nat} {w1 : World} {a : Option Addr} {n cap p r : Nat} {bs : Nat → Nat} {fv : Option (Int × Int)} {w : World}
set_option maxRecDepth 100000 in
set_option maxHeartbeats 2000000 in
theorem rBits_gen (h : RR N w1 a n cap bs p r fv w) (hr8 : r < 8) (k : Int) : Calls Tryd.prog 33 #[.pointer (some ⟨N, 0, none⟩), .int .i64 k] w fun e w' => (∃ p' r' fv' v, BitsG bs n p r (broughtN k) fv p' r' fv' v ∧ e = .returned (.int .u64 (v : Int)) ∧ RR N w1 a n cap bs p' r' fv' w') ∧ RF N w w' := by
  have hrp := h.rp
  have hpn := h.pn
  cases fv with
  | some x =>
    have hS : Hid _ := sound_any h
    have hH : Hid _ := h
    clear h
    go_enter Tryd.func33, Tryd.ntmps33
    go_wp2_with fail
    refine Calls.mono hS.out ?_
    rintro e w2 ⟨rfl, hw2⟩
    have hw3 := hw2.symm
    subst hw3
    clear hw2
    go_wp2_with fail
    go_ret
    exact ⟨⟨p, r, some x, 0, Or.inl ⟨by simp, rfl, rfl, rfl, rfl⟩, rfl, hH.out⟩, RF.refl _ _⟩
  | none =>
    have hq : 8 * p - r + r = 8 * p := by
      by_cases h0 : r = 0
      · omega
      · have := hrp h0; omega
    by_cases hm : 8 * p - r + broughtN k ≤ 8 * n
    · refine (rBits_ok h hr8 k (8 * p - r) hq hm).mono ?_
      rintro e w' ⟨rfl, ⟨p', r', h2, h3, h4⟩, F⟩
      exact ⟨⟨p', r', none, _, Or.inr (Or.inr ⟨rfl, hm, rfl, rfl, h3, h4⟩), rfl, h2⟩, F⟩
    · have hbk := broughtN_le k
      have hS : Hid _ := sound_any h
      obtain ⟨c, hcc⟩ : ∃ c, c = broughtN k := ⟨_, rfl⟩
      rw [← hcc] at hm hbk ⊢
      have hccH : Hid _ := hcc
      have c2 := h.c2
      have hcr : r < c := by omega
      have hcrI : (r : Int) < (c : Int) := by omega
      have hH := has_gen h ((c - r + 7) / 8) (((c : Int) - (r : Int) + 7) / 8) (by omega)
      rw [show hasF n p ((c - r + 7) / 8) none = some ((n : Int), 30) by unfold hasF; rw [if_pos (by omega)]] at hH
      have hHH : Hid _ := hH
      clear h hH hcc
      go_enter Tryd.func33, Tryd.ntmps33
      go_wp2_with fail
      refine Calls.mono hS.out ?_
      rintro e w2 ⟨rfl, hw2⟩
      have hw3 := hw2.symm
      subst hw3
      go_wp2_with fail
      refine (within_any k _).mono ?_
      rintro e w2 ⟨rfl, hw4⟩
      have hw5 := hw4.symm
      subst hw5
      rw [← hccH.out]
      clear hw2 hw4 hccH
      go_wp2_with fail
      refine Calls.mono hHH.out ?_
      rintro e w6 ⟨rfl, h6, F6⟩
      have h6H : Hid _ := h6
      clear h6 c2 hHH hS
      go_wp2_with fail
      go_ret
      exact ⟨⟨p, r, some ((n : Int), 30), 0, Or.inr (Or.inl ⟨rfl, by omega, rfl, rfl, rfl, rfl⟩), rfl, h6H.out⟩, F6⟩
theorem fault_any (h : RR N w1 a n cap bs p r fv w) : Calls Tryd.prog 22 #[.pointer (some ⟨N, 0, none⟩)] w fun e w' => e = .returned (fvV fv) ∧ w' = w := by
  have c3 := h.c3
  obtain ⟨V, hV⟩ : ∃ V, V = fvV fv := ⟨_, rfl⟩
  rw [← hV] at c3 ⊢
  clear h hV
  go_enter Tryd.func22, Tryd.ntmps22
  go_wp2_with fail
  go_ret
  exact ⟨rfl, rfl⟩
set_option maxRecDepth 100000 in
theorem done_gen (h : RR N w1 a n cap bs p r fv w) : Calls Tryd.prog 24 #[.pointer (some ⟨N, 0, none⟩)] w fun e w' => e = .returned (fvV (doneF bs n p r fv)) ∧ RR N w1 a n cap bs p r fv w' ∧ RF N w w' := by
  have hpn := h.pn
  have hnb := h.nb
  cases fv with
  | some x =>
    obtain ⟨q, c⟩ := x
    have e0 : doneF bs n p r (some (q, c)) = some (q, c) := rfl
    rw [e0]
    have hS : Hid _ := sound_any h
    have hFt : Hid _ := fault_any h
    have hH : Hid _ := h
    clear h e0
    simp only [fvV] at hFt ⊢
    go_enter Tryd.func24, Tryd.ntmps24
    go_wp2_with fail
    refine Calls.mono hS.out ?_
    rintro e w2 ⟨rfl, hw2⟩
    have hw3 := hw2.symm
    subst hw3
    clear hw2
    go_wp2_with fail
    refine Calls.mono hFt.out ?_
    rintro e w2 ⟨rfl, hw2⟩
    have hw3 := hw2.symm
    subst hw3
    clear hw2
    go_wp2_with fail
    go_ret
    exact ⟨rfl, hH.out, RF.refl _ _⟩
  | none =>
    cases hg : ragb bs p r with
    | true =>
      have e0 : doneF bs n p r none = some ((p : Int) - 1, 31) := by simp [doneF, startF, hg]
      rw [e0]
      have hS : Hid _ := sound_any h
      have hR := ragged_any h
      rw [show decide (r ≠ 0 ∧ bs (p - 1) % 2 ^ r ≠ 0) = true from hg] at hR
      have hRH : Hid _ := hR
      have hAt : Hid (∀ w', Calls Tryd.prog 63 #[.int .i64 ((p : Int) - 1), .int .i64 31] w' fun ev w'' => ev = .returned (fvV (some ((p : Int) - 1, 31))) ∧ w'' = w') := fun w' => faultAt _ 31 rfl w'
      clear hR h hg e0
      simp only [fvV] at hAt ⊢
      go_enter Tryd.func24, Tryd.ntmps24
      go_wp2_with fail
      refine Calls.mono hS.out ?_
      rintro e w2 ⟨rfl, hw2⟩
      have hw3 := hw2.symm
      subst hw3
      clear hw2
      go_wp2_with fail
      refine Calls.mono hRH.out ?_
      rintro e w3 ⟨rfl, h3, F3⟩
      have c1 := h3.c1
      have h3H : Hid _ := h3
      clear h3
      go_wp2_with fail
      refine Calls.mono (hAt.out _) ?_
      rintro e w4 ⟨rfl, hw4⟩
      have hw5 := hw4.symm
      subst hw5
      clear hw4
      go_wp2_with fail
      go_ret
      exact ⟨rfl, h3H.out, F3⟩
    | false =>
      have hng : ¬ (r ≠ 0 ∧ bs (p - 1) % 2 ^ r ≠ 0) := of_decide_eq_false hg
      by_cases hp : p < n
      · have e0 : doneF bs n p r none = some ((p : Int), 33) := by simp [doneF, startF, hg, hp]
        rw [e0]
        have hS : Hid _ := sound_any h
        have hR := ragged_any h
        rw [show decide (r ≠ 0 ∧ bs (p - 1) % 2 ^ r ≠ 0) = false from hg] at hR
        have hRH : Hid _ := hR
        have hAt : Hid (∀ w', Calls Tryd.prog 63 #[.int .i64 (p : Int), .int .i64 33] w' fun ev w'' => ev = .returned (fvV (some ((p : Int), 33))) ∧ w'' = w') := fun w' => faultAt _ 33 rfl w'
        have hI : (0 : Int) < (n : Int) - (p : Int) := by omega
        clear hR h hg e0 hng
        simp only [fvV] at hAt ⊢
        go_enter Tryd.func24, Tryd.ntmps24
        go_wp2_with fail
        refine Calls.mono hS.out ?_
        rintro e w2 ⟨rfl, hw2⟩
        have hw3 := hw2.symm
        subst hw3
        clear hw2
        go_wp2_with fail
        refine Calls.mono hRH.out ?_
        rintro e w3 ⟨rfl, h3, F3⟩
        have hL : Hid _ := left_any h3
        clear h3
        go_wp2_with fail
        refine Calls.mono hL.out ?_
        rintro e w4 ⟨rfl, h4, F4⟩
        have c1 := h4.c1
        have h4H : Hid _ := h4
        clear h4
        go_wp2_with fail
        refine Calls.mono (hAt.out _) ?_
        rintro e w5 ⟨rfl, hw4⟩
        have hw5 := hw4.symm
        subst hw5
        clear hw4
        go_wp2_with fail
        go_ret
        exact ⟨rfl, h4H.out, F3.trans F4⟩
      · obtain rfl : p = n := by omega
        have e0 : doneF bs p p r none = none := by simp [doneF, startF, hg]
        rw [e0]
        exact done_ok h hng
end
end Go.Proofs.YtkcpiplifibpkaaDoor
