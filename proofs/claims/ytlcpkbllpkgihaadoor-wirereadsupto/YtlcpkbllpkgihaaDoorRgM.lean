
import Derived.Test.YtlcpkbllpkgihaaDoorRwD
namespace Go.Proofs.YtlcpkbllpkgihaaDoor
open Go.RowKit
set_option linter.unusedVariables false
set_option linter.unusedSimpArgs false
/-- is something left of a byte that bits have begun? -/
def ragb (bs : Nat → Nat) (p r : Nat) : Bool := decide (r ≠ 0 ∧ bs (p - 1) % 2 ^ r ≠ 0)
/-- the fault where what is no bits begins. -/
def startF (bs : Nat → Nat) (p r : Nat) (fv : Option (Int × Int)) : Option (Int × Int) := if fv.isSome then fv else if ragb bs p r then some ((p : Int) - 1, 31) else none
/-- the fault where m bytes are wanted. -/
def hasF (n p m : Nat) (fv : Option (Int × Int)) : Option (Int × Int) := if n < p + m then some ((n : Int), 30) else fv
theorem faultAt (q : Int) (e : Int) (he : (e == 0) = false) (w : World) : Calls Tryd.prog 63 #[.int .i64 q, .int .i64 e] w fun ev w' => ev = .returned (fvV (some (q, e))) ∧ w' = w := by
  go_enter Tryd.func63, Tryd.ntmps63
  go_wp2
  go_ret
  exact ⟨rfl, rfl⟩
section
variable {N : Nat} {w1 : World} {a : Option Addr} {n cap p r : Nat} {bs : Nat → Nat} {fv : Option (Int × Int)} {w : World}
set_option maxRecDepth 100000 in
theorem fail_any (h : RR N w1 a n cap bs p r fv w) (q e : Int) (he : (e == 0) = false) : Calls Tryd.prog 77 #[.pointer (some ⟨N, 0, none⟩), .int .i64 q, .int .i64 e] w fun ev w' => ev = .returned undef ∧ RR N w1 a n cap bs p r (some (q, e)) w' ∧ RF N w w' := by
  have h2 := h.setF (some (q, e))
  have hF : RF N w (w.setCell ⟨N, 3, none⟩ (fvV (some (q, e)))) := RF.set w 3 _
  have c3 := h.c3
  have f3 := h.f3
  have hs := h.sz
  have h2H : Hid _ := h2
  have hFH : Hid _ := hF
  obtain ⟨old, hold⟩ : ∃ old, old = fvV fv := ⟨_, rfl⟩
  rw [← hold] at c3
  have hA : Hid (∀ w', Calls Tryd.prog 63 #[.int .i64 q, .int .i64 e] w' fun ev w'' => ev = .returned (fvV (some (q, e))) ∧ w'' = w') := fun w' => faultAt q e he w'
  simp only [fvV] at h2H hFH hA
  clear h2 hF h hold
  go_enter Tryd.func77, Tryd.ntmps77
  go_wp2_with fail
  refine Calls.mono (hA.out _) ?_
  rintro ev w2 ⟨rfl, hw⟩
  have hw' := hw.symm
  subst hw'
  clear hw
  go_wp2_with fail
  first | go_end0 | (simp only [Exit.inBlock, Exit.then]; refine bodyPost_ret (results_none rfl _ _ _) rfl ?_) | refine bodyPost_ret (results_none rfl _ _ _) rfl ?_
  exact ⟨rfl, h2H.out, hFH.out⟩
set_option maxRecDepth 100000 in
theorem starts_gen (h : RR N w1 a n cap bs p r fv w) : Calls Tryd.prog 72 #[.pointer (some ⟨N, 0, none⟩)] w fun e w' => e = .returned (.bool (startF bs p r fv).isNone) ∧ RR N w1 a n cap bs p r (startF bs p r fv) w' ∧ RF N w w' := by
  cases fv with
  | some x =>
    have e0 : startF bs p r (some x) = some x := rfl
    rw [e0]
    have hS : Hid _ := sound_any h
    have hH : Hid _ := h
    clear h e0
    go_enter Tryd.func72, Tryd.ntmps72
    go_wp2_with fail
    refine Calls.mono hS.out ?_
    rintro e w2 ⟨rfl, hw2⟩
    have hw3 := hw2.symm
    subst hw3
    go_wp2_with fail
    go_ret
    exact ⟨rfl, hH.out, RF.refl _ _⟩
  | none =>
    cases hg : ragb bs p r with
    | false =>
      have e0 : startF bs p r none = none := by simp [startF, hg]
      rw [e0]
      exact starts_ok h (of_decide_eq_false hg)
    | true =>
      have e0 : startF bs p r none = some ((p : Int) - 1, 31) := by simp [startF, hg]
      rw [e0]
      have hS : Hid _ := sound_any h
      have hR := ragged_any h
      rw [show decide (r ≠ 0 ∧ bs (p - 1) % 2 ^ r ≠ 0) = true from hg] at hR
      have hRH : Hid _ := hR
      have hpn := h.pn
      have hnb := h.nb
      clear hR h hg e0
      go_enter Tryd.func72, Tryd.ntmps72
      go_wp2_with fail
      refine Calls.mono hS.out ?_
      rintro e w2 ⟨rfl, hw2⟩
      have hw3 := hw2.symm
      subst hw3
      clear hw2
      go_wp2_with fail
      refine Calls.mono hRH.out ?_
      rintro e w3 ⟨rfl, h3, F3⟩
      have c1 := h3.c1
      have hFa : Hid (∀ k, Calls Tryd.prog 77 #[.pointer (some ⟨N, 0, none⟩), .int .i64 ((p : Int) - 1), .int .i64 31] (w3.drewN k) fun ev w' => ev = .returned undef ∧ RR N w1 a n cap bs p r (some ((p : Int) - 1, 31)) w' ∧ RF N (w3.drewN k) w') := fun k => fail_any (h3.drewN k) _ 31 rfl
      have hFb : Hid _ := fail_any h3 ((p : Int) - 1) 31 rfl
      clear h3
      go_wp2_with fail
      refine Calls.mono hFb.out ?_
      rintro e w4 ⟨rfl, h4, F4⟩
      go_wp2_with fail
      go_ret
      exact ⟨rfl, h4, F3.trans F4⟩
set_option maxRecDepth 100000 in
theorem has_gen (h : RR N w1 a n cap bs p r none w) (m : Nat) (z : Int) (hz : z = (m : Int)) : Calls Tryd.prog 73 #[.pointer (some ⟨N, 0, none⟩), .int .i64 z] w fun e w' => e = .returned (.bool (hasF n p m none).isNone) ∧ RR N w1 a n cap bs p r (hasF n p m none) w' ∧ RF N w w' := by
  by_cases hm : n < p + m
  · have e0 : hasF n p m none = some ((n : Int), 30) := by simp [hasF, hm]
    rw [e0]
    subst hz
    have hL : Hid _ := left_any h
    have hI : (n : Int) - (p : Int) < (m : Int) := by omega
    clear h e0
    go_enter Tryd.func73, Tryd.ntmps73
    go_wp2_with fail
    refine Calls.mono hL.out ?_
    rintro e w3 ⟨rfl, h3, F3⟩
    have c0 := h3.c0
    have hFb : Hid _ := fail_any h3 (n : Int) 30 rfl
    clear h3
    go_wp2_with fail
    refine Calls.mono hFb.out ?_
    rintro e w4 ⟨rfl, h4, F4⟩
    go_wp2_with fail
    go_ret
    exact ⟨rfl, h4, F3.trans F4⟩
  · have e0 : hasF n p m none = none := by simp [hasF, hm]
    rw [e0]
    exact has_ok h m z hz (by omega)
end
end Go.Proofs.YtlcpkbllpkgihaaDoor

namespace Go.Proofs.YtlcpkbllpkgihaaDoor
open Go.RowKit
set_option linter.unusedVariables false
set_option linter.unusedSimpArgs false
/-- the fault where m whole bytes are read. -/
def beginF (bs : Nat → Nat) (n p r m : Nat) (fv : Option (Int × Int)) : Option (Int × Int) := if (startF bs p r fv).isSome then startF bs p r fv else hasF n p m none
/-- a number: where it goes wrong, or what it says and how many bytes it has. -/
def numS (bs : Nat → Nat) (n p : Nat) : Nat → Nat → Nat → (Int × Int) ⊕ (Nat × Nat)
  | 0, _, _ => .inl (0, 0)
  | f + 1, s, v => if n < p + (s + 1) then .inl ((n : Int), 30)
    else if (s = 9 ∧ 1 < bs (p + s)) ∨ (0 < s ∧ bs (p + s) = 0) then .inl (((p + s : Nat) : Int), 31)
    else if bs (p + s) < 128 then .inr (v + bs (p + s) % 128 * 128 ^ s, s + 1) else numS bs n p f (s + 1) (v + bs (p + s) % 128 * 128 ^ s)
theorem uBf_more : ∀ (f v : Nat), v < 128 ^ (f + 1) → uBf (f + 1) v = uBf f v := by
  intro f
  induction f with
  | zero => intro v h; simp at h; simp [uBf, h]
  | succ f ih =>
    intro v h
    by_cases hv : v < 128
    · simp [uBf, hv]
    · have h1 : uBf (f + 1 + 1) v = (v % 128 + 128) :: uBf (f + 1) (v / 128) := by conv => lhs; unfold uBf; rw [if_neg hv]
      have h2 : uBf (f + 1) v = (v % 128 + 128) :: uBf f (v / 128) := by conv => lhs; unfold uBf; rw [if_neg hv]
      rw [h1, h2, ih (v / 128) (by rw [Nat.div_lt_iff_lt_mul (by omega)]; rw [Nat.pow_succ] at h; omega)]
/-- what is read as a number is written so. -/
theorem numS_ok (bs : Nat → Nat) (n p : Nat) (hbs : ∀ i, i < n → bs i < 256) : ∀ (f s v x l : Nat), s + f = 10 → v < 128 ^ s → numS bs n p f s v = .inr (x, l) →
    ∃ X, x = v + X * 128 ^ s ∧ l = s + (uBf (f - 1) X).length ∧ p + l ≤ n ∧ (∀ i, i < (uBf (f - 1) X).length → bs (p + s + i) = (uBf (f - 1) X).getD i 0) ∧ (0 < s → X ≠ 0) ∧ x < 18446744073709551616 ∧ X < 128 ^ f := by
  intro f
  induction f with
  | zero => intro s v x l _ _ h; simp [numS] at h
  | succ f ih =>
    intro s v x l hsf hv h
    unfold numS at h
    by_cases h1 : n < p + (s + 1)
    · rw [if_pos h1] at h; cases h
    rw [if_neg h1] at h
    by_cases h2 : (s = 9 ∧ 1 < bs (p + s)) ∨ (0 < s ∧ bs (p + s) = 0)
    · rw [if_pos h2] at h; cases h
    rw [if_neg h2] at h
    by_cases h3 : bs (p + s) < 128
    · rw [if_pos h3] at h
      obtain ⟨rfl, rfl⟩ : v + bs (p + s) % 128 * 128 ^ s = x ∧ s + 1 = l := by simpa using h
      have hy : bs (p + s) % 128 = bs (p + s) := Nat.mod_eq_of_lt h3
      have hu : uBf f (bs (p + s)) = [bs (p + s)] := by cases f <;> simp [uBf, h3]
      refine ⟨bs (p + s), by rw [hy], by rw [show f + 1 - 1 = f by omega, hu]; rfl, by omega, ?_, fun h0 e => h2 (Or.inr ⟨h0, e⟩), ?_, ?_⟩
      · rw [show f + 1 - 1 = f by omega, hu]
        intro i hi
        simp at hi
        subst hi
        simp
      · rw [hy]
        by_cases h9 : s = 9
        · have : bs (p + s) ≤ 1 := by omega
          subst h9
          have : bs (p + 9) = 0 ∨ bs (p + 9) = 1 := by omega
          rcases this with e | e <;> rw [e] <;> omega
        · have h10 : v + bs (p + s) * 128 ^ s < 128 ^ (s + 1) := by
            have hle : bs (p + s) * 128 ^ s ≤ 127 * 128 ^ s := Nat.mul_le_mul_right _ (by omega)
            rw [Nat.pow_succ]; omega
          have h11 : 128 ^ (s + 1) ≤ 128 ^ 9 := Nat.pow_le_pow_right (by omega) (by omega)
          omega
      · have : 128 ^ 1 ≤ 128 ^ (f + 1) := Nat.pow_le_pow_right (by omega) (by omega)
        omega
    · rw [if_neg h3] at h
      have hlt : v + bs (p + s) % 128 * 128 ^ s < 128 ^ (s + 1) := by
        have : bs (p + s) % 128 < 128 := Nat.mod_lt _ (by omega)
        have hle : bs (p + s) % 128 * 128 ^ s ≤ 127 * 128 ^ s := Nat.mul_le_mul_right _ (by omega)
        rw [Nat.pow_succ]; omega
      obtain ⟨X, hx, hl, hn, hb, h0, hxx, hXf⟩ := ih (s + 1) _ x l (by omega) hlt h
      have hX0 := h0 (by omega)
      have hy256 := hbs (p + s) (by omega)
      obtain ⟨y, hy⟩ : ∃ y, y = bs (p + s) := ⟨_, rfl⟩
      rw [← hy] at h3 hlt hx hy256
      have hym : y % 128 = y - 128 := by omega
      cases f with
      | zero => simp [numS] at h
      | succ g =>
        simp only [Nat.add_sub_cancel] at hl hb ⊢
        have hXX : 128 ≤ y - 128 + 128 * X := by omega
        have hd : (y - 128 + 128 * X) / 128 = X := by omega
        have hmm : (y - 128 + 128 * X) % 128 = y - 128 := by omega
        have hu : uBf (g + 1) (y - 128 + 128 * X) = y :: uBf g X := by
          conv => lhs; unfold uBf
          rw [if_neg (by omega), hd, hmm, show y - 128 + 128 = y by omega]
        refine ⟨y - 128 + 128 * X, ?_, by rw [hu]; simp; omega, hn, ?_, fun _ => by omega, hxx, ?_⟩
        · rw [hx, hym, Nat.pow_succ, Nat.add_mul, Nat.mul_comm 128 X, Nat.mul_assoc X 128, Nat.mul_comm 128 (128 ^ s)]; omega
        · rw [hu]
          intro i hi
          rcases i with _ | i
          · simp [← hy]
          · have := hb i (by simpa using hi)
            rw [List.getD_cons_succ, ← this]
            congr 1; omega
        · rw [Nat.pow_succ]; omega
end Go.Proofs.YtlcpkbllpkgihaaDoor

namespace Go.Proofs.YtlcpkbllpkgihaaDoor
open Go.RowKit
set_option linter.unusedVariables false
set_option linter.unusedSimpArgs false
section
variable {N : Nat} {w1 : World} {a : Option Addr} {n cap p r : Nat} {bs : Nat → Nat} {fv : Option (Int × Int)} {w : World}
theorem RR.bytes256 (h : RR N w1 a n cap bs p r fv w) : ∀ i, i < n → bs i < 256 := by
  rcases h.row with h0 | ⟨b, off, _, _, _, hB⟩
  · intro i hi; omega
  · exact fun i hi => (hB i hi).2
theorem startF_none (h : startF bs p r fv = none) : fv = none ∧ ¬ (r ≠ 0 ∧ bs (p - 1) % 2 ^ r ≠ 0) := by
  unfold startF at h
  cases fv with
  | some x => simp at h
  | none =>
    refine ⟨rfl, ?_⟩
    cases hg : ragb bs p r with
    | true => simp [hg] at h
    | false => exact of_decide_eq_false hg
set_option maxRecDepth 100000 in
theorem rByte_gen (h : RR N w1 a n cap bs p r fv w) : Calls Tryd.prog 27 #[.pointer (some ⟨N, 0, none⟩)] w fun e w' =>
    ((beginF bs n p r 1 fv = none ∧ e = .returned (.int .u8 (bs p : Int)) ∧ RR N w1 a n cap bs (p + 1) 0 none w') ∨ (beginF bs n p r 1 fv ≠ none ∧ e = .returned (.int .u8 0) ∧ RR N w1 a n cap bs p r (beginF bs n p r 1 fv) w')) ∧ RF N w w' := by
  cases hs : startF bs p r fv with
  | some x =>
    have e0 : beginF bs n p r 1 fv = some x := by unfold beginF; rw [hs]; rfl
    rw [e0]
    have hS := starts_gen h
    rw [hs] at hS
    have hSH : Hid _ := hS
    clear hS h hs e0
    go_enter Tryd.func27, Tryd.ntmps27
    go_wp2_with fail
    refine Calls.mono hSH.out ?_
    rintro e w2 ⟨rfl, h2, F2⟩
    have h2H : Hid _ := h2
    clear h2
    go_wp2_with fail
    go_ret
    exact ⟨Or.inr ⟨by simp, rfl, h2H.out⟩, F2⟩
  | none =>
    obtain ⟨rfl, hng⟩ := startF_none hs
    by_cases hm : n < p + 1
    · have e0 : beginF bs n p r 1 none = some ((n : Int), 30) := by unfold beginF; rw [hs]; simp [hasF, hm]
      rw [e0]
      have hS : Hid _ := starts_ok h hng
      clear h hs e0 hng
      go_enter Tryd.func27, Tryd.ntmps27
      go_wp2_with fail
      refine Calls.mono hS.out ?_
      rintro e w2 ⟨rfl, h2, F2⟩
      have hH := has_gen h2 1 1 rfl
      rw [show hasF n p 1 none = some ((n : Int), 30) by simp [hasF, hm]] at hH
      have hHH : Hid _ := hH
      clear h2 hH
      go_wp2_with fail
      refine Calls.mono hHH.out ?_
      rintro e w3 ⟨rfl, h3, F3⟩
      have h3H : Hid _ := h3
      clear h3
      go_wp2_with fail
      go_ret
      exact ⟨Or.inr ⟨by simp, rfl, h3H.out⟩, F2.trans F3⟩
    · have e0 : beginF bs n p r 1 none = none := by unfold beginF; rw [hs]; simp [hasF, hm]
      rw [e0]
      refine (rByte_ok h hng (by omega)).mono ?_
      rintro e w' ⟨rfl, h2, F2⟩
      exact ⟨Or.inl ⟨rfl, rfl, h2⟩, F2⟩
set_option maxRecDepth 100000 in
theorem rFix_gen (h : RR N w1 a n cap bs p r fv w) : Calls Tryd.prog 28 #[.pointer (some ⟨N, 0, none⟩)] w fun e w' =>
    ((beginF bs n p r 4 fv = none ∧ e = .returned (.int .u32 (u32At bs p : Nat)) ∧ RR N w1 a n cap bs (p + 4) 0 none w') ∨ (beginF bs n p r 4 fv ≠ none ∧ e = .returned (.int .u32 0) ∧ RR N w1 a n cap bs p r (beginF bs n p r 4 fv) w')) ∧ RF N w w' := by
  cases hs : startF bs p r fv with
  | some x =>
    have e0 : beginF bs n p r 4 fv = some x := by unfold beginF; rw [hs]; rfl
    rw [e0]
    have hS := starts_gen h
    rw [hs] at hS
    have hSH : Hid _ := hS
    clear hS h hs e0
    go_enter Tryd.func28, Tryd.ntmps28
    go_wp2_with fail
    refine Calls.mono hSH.out ?_
    rintro e w2 ⟨rfl, h2, F2⟩
    have h2H : Hid _ := h2
    clear h2
    go_wp2_with fail
    go_ret
    exact ⟨Or.inr ⟨by simp, rfl, h2H.out⟩, F2⟩
  | none =>
    obtain ⟨rfl, hng⟩ := startF_none hs
    by_cases hm : n < p + 4
    · have e0 : beginF bs n p r 4 none = some ((n : Int), 30) := by unfold beginF; rw [hs]; simp [hasF, hm]
      rw [e0]
      have hS : Hid _ := starts_ok h hng
      clear h hs e0 hng
      go_enter Tryd.func28, Tryd.ntmps28
      go_wp2_with fail
      refine Calls.mono hS.out ?_
      rintro e w2 ⟨rfl, h2, F2⟩
      have hH := has_gen h2 4 4 rfl
      rw [show hasF n p 4 none = some ((n : Int), 30) by simp [hasF, hm]] at hH
      have hHH : Hid _ := hH
      clear h2 hH
      go_wp2_with fail
      refine Calls.mono hHH.out ?_
      rintro e w3 ⟨rfl, h3, F3⟩
      have h3H : Hid _ := h3
      clear h3
      go_wp2_with fail
      go_ret
      exact ⟨Or.inr ⟨by simp, rfl, h3H.out⟩, F2.trans F3⟩
    · have e0 : beginF bs n p r 4 none = none := by unfold beginF; rw [hs]; simp [hasF, hm]
      rw [e0]
      refine (rFix_ok h hng (by omega)).mono ?_
      rintro e w' ⟨rfl, h2, F2⟩
      exact ⟨Or.inl ⟨rfl, rfl, h2⟩, F2⟩
/-- a number, where the Reader may begin. -/
def NumE (bs : Nat → Nat) (n p : Nat) (fv : Option (Int × Int)) (e : Ending) : Prop :=
  (∃ q, numS bs n p 10 0 0 = .inl q ∧ fv = some q ∧ e = .returned (.tuple #[.int .u64 0, .int .i64 0])) ∨ (∃ x l : Nat, numS bs n p 10 0 0 = .inr (x, l) ∧ fv = none ∧ e = .returned (.tuple #[.int .u64 (x : Int), .int .i64 (l : Int)]))
set_option maxRecDepth 100000 in
set_option maxHeartbeats 8000000 in
theorem number_gen (h : RR N w1 a n cap bs p r none w) (hr : ¬ (r ≠ 0 ∧ bs (p - 1) % 2 ^ r ≠ 0)) :
    Calls Tryd.prog 76 #[.pointer (some ⟨N, 0, none⟩)] w fun e w' => (∃ fv', NumE bs n p fv' e ∧ RR N w1 a n cap bs p r fv' w') ∧ RF N w w' := by
  have hS : Hid _ := starts_ok h hr
  have hnn := h.nb
  have hpp := h.pn
  clear h hr
  go_enter Tryd.func76, Tryd.ntmps76
  go_wp2_with fail
  refine Calls.mono hS.out ?_
  rintro e w2 ⟨rfl, h2, F2⟩
  go_wp2_with fail
  go_loopw [2, 3] (fun v s wr => ∃ k V : Nat, k ≤ 9 ∧ V < 128 ^ k ∧ v = .int .u64 (V : Int) ∧ s = .int .i64 (k : Int) ∧ RR N w1 a n cap bs p r none wr ∧ RF N w wr ∧ numS bs n p (10 - k) k V = numS bs n p 10 0 0) (fun _ s _ => 10 - (intOf s).toNat)
  case atStart => exact ⟨0, 0, by omega, by simp, rfl, rfl, h2, F2, rfl⟩
  case round =>
    clear h2 F2
    obtain ⟨k, V, hk, hV, rfl, rfl, hW, hF, hnum⟩ := hrel
    obtain ⟨f, hf⟩ : ∃ f, 10 - k = f + 1 := ⟨9 - k, by omega⟩
    rw [hf] at hnum
    have hnumH : Hid _ := hnum
    have hH := has_gen hW (k + 1) ((k : Int) + 1) (by omega)
    by_cases hm : n < p + (k + 1)
    · rw [show hasF n p (k + 1) none = some ((n : Int), 30) by simp [hasF, hm]] at hH
      have hHH : Hid _ := hH
      have hres : Hid (numS bs n p 10 0 0 = .inl ((n : Int), 30)) := (by rw [← hnum]; unfold numS; rw [if_pos hm] : numS bs n p 10 0 0 = .inl ((n : Int), 30))
      clear hH hW hnum
      go_wp2_with fail
      refine Calls.mono hHH.out ?_
      rintro e w3 ⟨rfl, h3, F3⟩
      have h3H : Hid _ := h3
      clear h3
      go_wp2_with fail
      simp [bodyPost, results, Tryd.results76, go_sem]
      exact ⟨⟨_, Or.inl ⟨_, hres.out, rfl, rfl⟩, h3H.out⟩, hF.trans F3⟩
    · rw [show hasF n p (k + 1) none = none by simp [hasF, hm]] at hH
      have hHH : Hid _ := hH
      clear hH
      go_wp2_with fail
      refine Calls.mono hHH.out ?_
      rintro e w3 ⟨rfl, h3, F3⟩
      have c0 := h3.c0
      have c1 := h3.c1
      rcases h3.row with h0 | ⟨b, off, rfl, hb, hbN, hB⟩
      · omega
      obtain ⟨q, hq⟩ : ∃ q, q = p + k := ⟨_, rfl⟩
      obtain ⟨hc, hylt⟩ := hB q (by omega)
      obtain ⟨y, hy⟩ : ∃ y, y = bs q := ⟨_, rfl⟩
      rw [← hy] at hc hylt
      have hqI : (p : Int) + (k : Int) = (q : Int) := by omega
      have hq0 : (0 : Int) ≤ (q : Int) := by omega
      have hqn : (q : Int) < (n : Int) := by omega
      obtain ⟨t, ht⟩ : ∃ t, t = 7 * k := ⟨_, rfl⟩
      have htI : (7 : Int) * (k : Int) = (t : Int) := by omega
      have hyp : bs (p + k) = y := by rw [← hq]; exact hy.symm
      unfold numS at hnum
      rw [if_neg hm, hyp] at hnum
      have hnum2 : Hid _ := hnum
      have hFa : Hid (∀ j, Calls Tryd.prog 77 #[.pointer (some ⟨N, 0, none⟩), .int .i64 (q : Int), .int .i64 31] (w3.drewN j) fun ev w' => ev = .returned undef ∧ RR N w1 (some ⟨b, off, none⟩) n cap bs p r (some ((q : Int), 31)) w' ∧ RF N (w3.drewN j) w') := fun j => fail_any (h3.drewN j) _ 31 rfl
      have hFF : RF N w w3 := hF.trans F3
      have h3H : Hid _ := h3
      have hqH : Hid _ := hq
      clear hB h3 hq hy hnum hnumH hHH hyp hW F3 hF
      go_wp2_with fail
      go_quiet (fail)
      by_cases hbad : (k = 9 ∧ 1 < y) ∨ (0 < k ∧ y = 0)
      · have hres : Hid (numS bs n p 10 0 0 = .inl ((q : Int), 31)) := (by
          have h7 := hnum2.out
          rw [if_pos hbad] at h7
          refine h7.symm.trans ?_
          rw [hqH.out] : numS bs n p 10 0 0 = .inl ((q : Int), 31))
        clear hnum2
        by_cases hk9 : k = 9
        · have hqI9 : (p : Int) + 9 = (q : Int) := by omega
          have hk9I : (k : Int) = 9 := by omega
          rcases Nat.lt_or_ge 1 y with hy1 | hy1
          · have hy1I : (1 : Int) < (y : Int) := by omega
            clear hbad hqI htI ht
            go_wp2_with fail
            refine Calls.mono (hFa.out _) ?_
            rintro e w4 ⟨rfl, h4, F4⟩
            have h4H : Hid _ := h4
            clear h4
            go_wp2_with fail
            simp [bodyPost, results, Tryd.results76, go_sem]
            exact ⟨⟨_, Or.inl ⟨_, hres.out, rfl, rfl⟩, h4H.out⟩, (hFF.trans (RF.drewN _ _)).trans F4⟩
          · have hy0 : y = 0 := by omega
            subst hy0
            clear hbad hqI htI ht
            go_wp2_with fail
            refine Calls.mono (hFa.out _) ?_
            rintro e w4 ⟨rfl, h4, F4⟩
            have h4H : Hid _ := h4
            clear h4
            go_wp2_with fail
            simp [bodyPost, results, Tryd.results76, go_sem]
            exact ⟨⟨_, Or.inl ⟨_, hres.out, rfl, rfl⟩, h4H.out⟩, (hFF.trans (RF.drewN _ _)).trans F4⟩
        · have hkI : ¬ (k : Int) = 9 := by omega
          have hk0 : (0 : Int) < (k : Int) := by omega
          have hk0' : 0 < k := by omega
          have hy0 : y = 0 := by omega
          subst hy0
          clear hbad htI ht hk9
          go_wp2_with fail
          refine Calls.mono (hFa.out _) ?_
          rintro e w4 ⟨rfl, h4, F4⟩
          have h4H : Hid _ := h4
          clear h4
          go_wp2_with fail
          simp [bodyPost, results, Tryd.results76, go_sem]
          exact ⟨⟨_, Or.inl ⟨_, hres.out, rfl, rfl⟩, h4H.out⟩, (hFF.trans (RF.drewN _ _)).trans F4⟩
      · have hyc : Hid ((k ≠ 9 ∨ y = 1) ∧ (k = 0 ∨ 1 ≤ y)) := (by omega : (k ≠ 9 ∨ y = 1) ∧ (k = 0 ∨ 1 ≤ y))
        have hnum3 := hnum2.out
        rw [if_neg hbad] at hnum3
        clear hnum2 hbad
        obtain ⟨Y, hY⟩ : ∃ Y, Y = y % 128 := ⟨_, rfl⟩
        have hYlt : Y < 128 := by rw [hY]; exact Nat.mod_lt _ (by omega)
        obtain ⟨D, hD⟩ : ∃ D, D = Y * 2 ^ t := ⟨_, rfl⟩
        have hDk : Y * 128 ^ k = D := by rw [hD, ht, p128]
        have hpk : 128 ^ k = 2 ^ t := by rw [ht, p128]
        have hDlt : V + D < 18446744073709551616 ∧ (V + D < 128 ^ (k + 1)) := by
          have hle : Y * 128 ^ k ≤ 127 * 128 ^ k := Nat.mul_le_mul_right _ (by omega)
          have h2 : V + D < 128 ^ (k + 1) := by rw [← hDk, Nat.pow_succ]; omega
          refine ⟨?_, h2⟩
          by_cases h9 : k = 9
          · have hy1 : y = 1 := by have := hyc.out.1; omega
            have hY1 : Y = 1 := by rw [hY, hy1]
            subst h9
            rw [hY1] at hDk
            omega
          · have h11 : 128 ^ (k + 1) ≤ 128 ^ 9 := Nat.pow_le_pow_right (by omega) (by omega)
            omega
        rw [← hY, hDk] at hnum3
        obtain ⟨V2, hV2⟩ : ∃ V2, V2 = V + D := ⟨_, rfl⟩
        rw [← hV2] at hnum3 hDlt
        have hand : bits .and .u8 (y : Int) 127 = (Y : Int) := by
          have h7 := u8_and_nat y 127 hylt (by omega)
          rw [show (127 : Nat) = 2 ^ 7 - 1 from rfl, Nat.and_two_pow_sub_one_eq_mod] at h7
          rw [hY]; exact h7
        have hshl : IntKind.u64.wrap ((Y : Int) * 2 ^ t) = (D : Int) := by
          rw [show ((Y : Int) * 2 ^ t) = (D : Int) by rw [hD]; simp, IntKind.wrap_u64]; omega
        have hor : bits .or .u64 (V : Int) (D : Int) = (V2 : Int) := by
          rw [u64_or_nat V D (by omega) (by omega), hV2]
          have h5 := Nat.two_pow_add_eq_or_of_lt (i := t) (b := V) (by rw [← hpk]; exact hV) Y
          rw [Nat.mul_comm, ← hD] at h5
          rw [Nat.or_comm, ← h5, Nat.add_comm]
        have htH : Hid _ := ht
        have hs9 : Hid (k = 9 → bits .or .u64 (V : Int) (IntKind.u64.wrap ((Y : Int) * 9223372036854775808)) = (V2 : Int)) := fun h9 => by
          have ht63 : t = 63 := by have := htH.out; omega
          have hs : IntKind.u64.wrap ((Y : Int) * 9223372036854775808) = (D : Int) := by have h := hshl; rw [ht63] at h; exact h
          rw [hs]; exact hor
        have hwY : IntKind.u64.wrap (Y : Int) = (Y : Int) := by rw [IntKind.wrap_u64]; omega
        have hyI0 : (0 : Int) ≤ (y : Int) := by omega
        have hDl2 : Hid _ := hDlt.2
        rcases Nat.lt_or_ge y 128 with e1 | e1
        · have e1I : (y : Int) < 128 := by omega
          have hres : Hid (numS bs n p 10 0 0 = .inr (V2, k + 1)) := (by have h7 := hnum3; rw [if_pos e1] at h7; exact h7.symm : numS bs n p 10 0 0 = .inr (V2, k + 1))
          clear hnum3 hDlt hV2 hD hDk hpk hY ht hV
          go_wp2_with fail
          all_goals first
            | (exfalso; have := hyc.out; omega)
            | (exfalso; have := hyc.out; simp only [beq_iff_eq] at *; omega)
            | (simp [bodyPost, results, Tryd.results76, go_sem]; exact ⟨⟨none, Or.inr ⟨V2, k + 1, hres.out, rfl, rfl⟩, h3H.out.drewN _⟩, hFF.trans (RF.drewN _ _)⟩)
            | (simp [bodyPost, results, Tryd.results76, go_sem]; rw [hs9.out (by omega)]; exact ⟨⟨none, Or.inr ⟨V2, k + 1, hres.out, rfl, by rw [show (((k + 1 : Nat) : Int)) = 10 by omega]⟩, h3H.out.drewN _⟩, hFF.trans (RF.drewN _ _)⟩)

        · have e1I : ¬ (y : Int) < 128 := by omega
          have hk8 : k ≤ 8 := by have := hyc.out; omega
          have hres : Hid (numS bs n p f (k + 1) V2 = numS bs n p 10 0 0) := (by have h7 := hnum3; rw [if_neg (by omega)] at h7; exact h7 : numS bs n p f (k + 1) V2 = numS bs n p 10 0 0)
          have hf9 : Hid (10 - (k + 1) = f) := (by omega : 10 - (k + 1) = f)
          clear hnum3 hDlt hV2 hD hDk hpk hY ht hV
          go_wp2_with fail
          all_goals first
            | (exfalso; have := hyc.out; omega)
            | (exfalso; have := hyc.out; simp only [beq_iff_eq] at *; omega)
            | (go_roundw; exact ⟨k + 1, V2, by omega, hDl2.out, rfl, by go_num, h3H.out.drewN _, hFF.trans (RF.drewN _ _), by rw [hf9.out]; exact hres.out⟩; (simp [intOf]; omega))

end
end Go.Proofs.YtlcpkbllpkgihaaDoor

namespace Go.Proofs.YtlcpkbllpkgihaaDoor
open Go.RowKit
set_option linter.unusedVariables false
set_option linter.unusedSimpArgs false
/-- what number tells, wherever the Reader stands. -/
def NumG (bs : Nat → Nat) (n p r : Nat) (fv fv' : Option (Int × Int)) (e : Ending) : Prop :=
  (startF bs p r fv ≠ none ∧ fv' = startF bs p r fv ∧ e = .returned (.tuple #[.int .u64 0, .int .i64 0])) ∨ (startF bs p r fv = none ∧ NumE bs n p fv' e)
section
variable {N : Nat} {w1 : World} {a : Option Addr} {n cap p r : Nat} {bs : Nat → Nat} {fv : Option (Int × Int)} {w : World}
set_option maxRecDepth 100000 in
theorem number_all (h : RR N w1 a n cap bs p r fv w) : Calls Tryd.prog 76 #[.pointer (some ⟨N, 0, none⟩)] w fun e w' => (∃ fv', NumG bs n p r fv fv' e ∧ RR N w1 a n cap bs p r fv' w') ∧ RF N w w' := by
  cases hs : startF bs p r fv with
  | some x =>
    have hS := starts_gen h
    rw [hs] at hS
    have hSH : Hid _ := hS
    have hsH : Hid _ := hs
    clear hS h hs
    go_enter Tryd.func76, Tryd.ntmps76
    go_wp2_with fail
    refine Calls.mono hSH.out ?_
    rintro e w2 ⟨rfl, h2, F2⟩
    have h2H : Hid _ := h2
    clear h2
    go_wp2_with fail
    simp [bodyPost, results, Tryd.results76, go_sem]
    exact ⟨⟨some x, Or.inl ⟨by rw [hsH.out]; simp, hsH.out.symm, rfl⟩, h2H.out⟩, F2⟩
  | none =>
    obtain ⟨rfl, hng⟩ := startF_none hs
    refine (number_gen h hng).mono ?_
    rintro e w' ⟨⟨fv', h1, h2⟩, F⟩
    exact ⟨⟨fv', Or.inr ⟨hs, h1⟩, h2⟩, F⟩
theorem numS_len {bs : Nat → Nat} {n p x l : Nat} (hbs : ∀ i, i < n → bs i < 256) (h : numS bs n p 10 0 0 = .inr (x, l)) : l = (uB x).length ∧ p + l ≤ n ∧ x < 18446744073709551616 ∧ ∀ i, i < (uB x).length → bs (p + i) = (uB x).getD i 0 := by
  obtain ⟨X, hx, hl, hn, hb, _, hxx, hX⟩ := numS_ok bs n p hbs 10 0 0 x l rfl (by omega) h
  obtain rfl : x = X := by simpa using hx
  have hu : uBf 9 x = uB x := (uBf_more 9 x hX).symm
  rw [show 10 - 1 = 9 from rfl, hu] at hl hb
  exact ⟨by omega, hn, hxx, fun i hi => by have := hb i hi; rw [Nat.add_zero] at this; exact this⟩
/-- what Uint tells. -/
def UintG (bs : Nat → Nat) (n p r M : Nat) (fv : Option (Int × Int)) (p' r' : Nat) (fv' : Option (Int × Int)) (v : Nat) : Prop :=
  (startF bs p r fv ≠ none ∧ fv' = startF bs p r fv ∧ v = 0 ∧ p' = p ∧ r' = r) ∨
  (startF bs p r fv = none ∧ ((∃ q, numS bs n p 10 0 0 = .inl q ∧ fv' = some q ∧ v = 0 ∧ p' = p ∧ r' = r) ∨
    (∃ x l, numS bs n p 10 0 0 = .inr (x, l) ∧ ((M < x ∧ fv' = some ((p : Int), 2) ∧ v = 0 ∧ p' = p ∧ r' = r) ∨ (x ≤ M ∧ fv' = none ∧ v = x ∧ p' = p + l ∧ r' = 0)))))
set_option maxRecDepth 100000 in
set_option maxHeartbeats 1000000 in
theorem rUint_gen (h : RR N w1 a n cap bs p r fv w) (M : Nat) : Calls Tryd.prog 29 #[.pointer (some ⟨N, 0, none⟩), .int .u64 (M : Int)] w fun e w' => (∃ p' r' fv' v, UintG bs n p r M fv p' r' fv' v ∧ e = .returned (.int .u64 (v : Int)) ∧ RR N w1 a n cap bs p' r' fv' w') ∧ RF N w w' := by
  have h256 := h.bytes256
  have hS : Hid _ := number_all h
  have hM0 : ¬ (M : Int) < 0 := by omega
  clear h
  go_enter Tryd.func29, Tryd.ntmps29
  go_wp2_with fail
  refine Calls.mono hS.out ?_
  rintro e w2 ⟨⟨fv', hG, h2⟩, F2⟩
  rcases hG with ⟨g1, g2, rfl⟩ | ⟨g1, ⟨q, g2, g3, rfl⟩ | ⟨x, l, g2, g3, rfl⟩⟩
  · have h2H : Hid _ := h2
    have hg : Hid _ := And.intro g1 g2
    clear h2 g1 g2
    go_wp2_with fail
    go_ret
    exact ⟨⟨p, r, fv', 0, Or.inl ⟨hg.out.1, hg.out.2, rfl, rfl, rfl⟩, rfl, h2H.out⟩, F2⟩
  · have h2H : Hid _ := h2
    have hg : Hid _ := And.intro g1 (And.intro g2 g3)
    clear h2 g1 g2 g3
    go_wp2_with fail
    go_ret
    exact ⟨⟨p, r, fv', 0, Or.inr ⟨hg.out.1, Or.inl ⟨q, hg.out.2.1, hg.out.2.2, rfl, rfl, rfl⟩⟩, rfl, h2H.out⟩, F2⟩
  · subst g3
    obtain ⟨hl, hn, hxx, _⟩ := numS_len h256 g2
    have hl0 : 0 < l := by rw [hl]; exact uBf_pos 10 x
    have hlI : (0 : Int) < (l : Int) := by omega
    have hg : Hid _ := And.intro g1 g2
    by_cases hMx : M < x
    · have hMI : (M : Int) < (x : Int) := by omega
      have c1 := h2.c1
      have hFa : Hid _ := fail_any h2 (p : Int) 2 rfl
      clear h2 g1 g2 hl
      go_wp2_with fail
      refine Calls.mono hFa.out ?_
      rintro e w3 ⟨rfl, h3, F3⟩
      have h3H : Hid _ := h3
      clear h3
      go_wp2_with fail
      go_ret
      exact ⟨⟨p, r, some ((p : Int), 2), 0, Or.inr ⟨hg.out.1, Or.inr ⟨x, l, hg.out.2, Or.inl ⟨hMx, rfl, rfl, rfl, rfl⟩⟩⟩, rfl, h3H.out⟩, F2.trans F3⟩
    · have hMI : ¬ (M : Int) < (x : Int) := by omega
      have hP : Hid _ := pass_any h2 l (l : Int) rfl hn
      clear h2 g1 g2 hl
      go_wp2_with fail
      refine Calls.mono hP.out ?_
      rintro e w3 ⟨rfl, h3, F3⟩
      have h3H : Hid _ := h3
      clear h3
      go_wp2_with fail
      go_ret
      exact ⟨⟨p + l, 0, none, x, Or.inr ⟨hg.out.1, Or.inr ⟨x, l, hg.out.2, Or.inr ⟨by omega, rfl, rfl, rfl, rfl⟩⟩⟩, rfl, h3H.out⟩, F2.trans F3⟩
end
end Go.Proofs.YtlcpkbllpkgihaaDoor
