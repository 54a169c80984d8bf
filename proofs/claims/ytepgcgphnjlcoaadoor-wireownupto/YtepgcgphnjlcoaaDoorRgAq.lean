
import Derived.Test.YtepgcgphnjlcoaaDoorRwDq
namespace Go.Proofs.YtepgcgphnjlcoaaDoor
open Go.RowKit
set_option linter.unusedVariables false
set_option linter.unusedSimpArgs false
/-- is something left of a byte that bits have begun? -/
def ragb (bs : Nat → Nat) (p r : Nat) : Bool := decide (r ≠ 0 ∧ bs (p - 1) % 2 ^ r ≠ 0)
/-- the fault where what is no bits begins. -/
def startF (bs : Nat → Nat) (p r : Nat) (fv : Option (Int × Int)) : Option (Int × Int) := if fv.isSome then fv else if ragb bs p r then some ((p : Int) - 1, 31) else none
/-- the fault where m bytes are wanted. -/
def hasF (n p m : Nat) (fv : Option (Int × Int)) : Option (Int × Int) := if n < p + m then some ((n : Int), 30) else fv
theorem faultAt (q : Int) (e : Int) (he : (e == 0) = false) (w : World) : Calls Tryd.prog 76 #[.int .i64 q, .int .i64 e] w fun ev w' => ev = .returned (fvV (some (q, e))) ∧ w' = w := by
  go_enter Tryd.func76, Tryd.ntmps76
  go_wp2
  go_ret
  exact ⟨rfl, rfl⟩
section
variable {N : Nat} {w1 : World} {a : Option Addr} {n cap p r : Nat} {bs : Nat → Nat} {fv : Option (Int × Int)} {w : World}
set_option maxRecDepth 100000 in
theorem fail_any (h : RR N w1 a n cap bs p r fv w) (q e : Int) (he : (e == 0) = false) : Calls Tryd.prog 70 #[.pointer (some ⟨N, 0, none⟩), .int .i64 q, .int .i64 e] w fun ev w' => ev = .returned undef ∧ RR N w1 a n cap bs p r (some (q, e)) w' ∧ RF N w w' := by
  have h2 := h.setF (some (q, e))
  have hF : RF N w (w.setCell ⟨N, 3, none⟩ (fvV (some (q, e)))) := RF.set w 3 _
  have c3 := h.c3
  have f3 := h.f3
  have hs := h.sz
  have h2H : Hid _ := h2
  have hFH : Hid _ := hF
  obtain ⟨old, hold⟩ : ∃ old, old = fvV fv := ⟨_, rfl⟩
  rw [← hold] at c3
  have hA : Hid (∀ w', Calls Tryd.prog 76 #[.int .i64 q, .int .i64 e] w' fun ev w'' => ev = .returned (fvV (some (q, e))) ∧ w'' = w') := fun w' => faultAt q e he w'
  simp only [fvV] at h2H hFH hA
  clear h2 hF h hold
  go_enter Tryd.func70, Tryd.ntmps70
  go_wp2_with fail
  refine Calls.mono (hA.out _) ?_
  rintro ev w2 ⟨rfl, hw⟩
  have hw' := hw.symm
  subst hw'
  clear hw
  go_wp2_with fail
  first | go_end0 | (simp only [Exit.inBlock, Exit.then]; refine bodyPost_ret (results_none rfl _ _ _) rfl ?_) | refine bodyPost_ret (results_none rfl _ _ _) rfl ?_
  exact ⟨rfl, h2H.out, hFH.out⟩
set_option maxRecDepth 100000 in
theorem starts_gen (h : RR N w1 a n cap bs p r fv w) : Calls Tryd.prog 74 #[.pointer (some ⟨N, 0, none⟩)] w fun e w' => e = .returned (.bool (startF bs p r fv).isNone) ∧ RR N w1 a n cap bs p r (startF bs p r fv) w' ∧ RF N w w' := by
  cases fv with
  | some x =>
    have e0 : startF bs p r (some x) = some x := rfl
    rw [e0]
    have hS : Hid _ := sound_any h
    have hH : Hid _ := h
    clear h e0
    go_enter Tryd.func74, Tryd.ntmps74
    go_wp2_with fail
    refine Calls.mono hS.out ?_
    rintro e w2 ⟨rfl, hw2⟩
    have hw3 := hw2.symm
    subst hw3
    go_wp2_with fail
    go_ret
    exact ⟨rfl, hH.out, RF.refl _ _⟩
  | none =>
    cases hg : ragb bs p r with
    | false =>
      have e0 : startF bs p r none = none := by simp [startF, hg]
      rw [e0]
      exact starts_ok h (of_decide_eq_false hg)
    | true =>
      have e0 : startF bs p r none = some ((p : Int) - 1, 31) := by simp [startF, hg]
      rw [e0]
      have hS : Hid _ := sound_any h
      have hR := ragged_any h
      rw [show decide (r ≠ 0 ∧ bs (p - 1) % 2 ^ r ≠ 0) = true from hg] at hR
      have hRH : Hid _ := hR
      have hpn := h.pn
      have hnb := h.nb
      clear hR h hg e0
      go_enter Tryd.func74, Tryd.ntmps74
      go_wp2_with fail
      refine Calls.mono hS.out ?_
      rintro e w2 ⟨rfl, hw2⟩
      have hw3 := hw2.symm
      subst hw3
      clear hw2
      go_wp2_with fail
      refine Calls.mono hRH.out ?_
      rintro e w3 ⟨rfl, h3, F3⟩
      have c1 := h3.c1
      have hFa : Hid (∀ k, Calls Tryd.prog 70 #[.pointer (some ⟨N, 0, none⟩), .int .i64 ((p : Int) - 1), .int .i64 31] (w3.drewN k) fun ev w' => ev = .returned undef ∧ RR N w1 a n cap bs p r (some ((p : Int) - 1, 31)) w' ∧ RF N (w3.drewN k) w') := fun k => fail_any (h3.drewN k) _ 31 rfl
      have hFb : Hid _ := fail_any h3 ((p : Int) - 1) 31 rfl
      clear h3
      go_wp2_with fail
      refine Calls.mono hFb.out ?_
      rintro e w4 ⟨rfl, h4, F4⟩
      go_wp2_with fail
      go_ret
      exact ⟨rfl, h4, F3.trans F4⟩
set_option maxRecDepth 100000 in
theorem has_gen (h : RR N w1 a n cap bs p r none w) (m : Nat) (z : Int) (hz : z = (m : Int)) : Calls Tryd.prog 75 #[.pointer (some ⟨N, 0, none⟩), .int .i64 z] w fun e w' => e = .returned (.bool (hasF n p m none).isNone) ∧ RR N w1 a n cap bs p r (hasF n p m none) w' ∧ RF N w w' := by
  by_cases hm : n < p + m
  · have e0 : hasF n p m none = some ((n : Int), 30) := by simp [hasF, hm]
    rw [e0]
    subst hz
    have hL : Hid _ := left_any h
    have hI : (n : Int) - (p : Int) < (m : Int) := by omega
    clear h e0
    go_enter Tryd.func75, Tryd.ntmps75
    go_wp2_with fail
    refine Calls.mono hL.out ?_
    rintro e w3 ⟨rfl, h3, F3⟩
    have c0 := h3.c0
    have hFb : Hid _ := fail_any h3 (n : Int) 30 rfl
    clear h3
    go_wp2_with fail
    refine Calls.mono hFb.out ?_
    rintro e w4 ⟨rfl, h4, F4⟩
    go_wp2_with fail
    go_ret
    exact ⟨rfl, h4, F3.trans F4⟩
  · have e0 : hasF n p m none = none := by simp [hasF, hm]
    rw [e0]
    exact has_ok h m z hz (by omega)
end
end Go.Proofs.YtepgcgphnjlcoaaDoor
