
import Derived.Test.YtkcpiplifibpkaaDoorRgC
namespace Go.Proofs.YtkcpiplifibpkaaDoor
open Go.RowKit
set_option linter.unusedVariables false
set_option linter.unusedSimpArgs false
/-- what number tells, wherever the Reader stands. -/
def NumG (bs : Nat → Nat) (n p r : Nat) (fv fv' : Option (Int × Int)) (e : Ending) : Prop :=
  (startF bs p r fv ≠ none ∧ fv' = startF bs p r fv ∧ e = .returned (.tuple #[.int .u64 0, .int .i64 0])) ∨ (startF bs p r fv = none ∧ NumE bs n p fv' e)
section
variable {N : Nat} {w1 : World} {a : Option Addr} {n cap p r : Nat} {bs : Nat → Nat} {fv : Option (Int × Int)} {w : World}
set_option maxRecDepth 100000 in
theorem number_all (h : RR N w1 a n cap bs p r fv w) : Calls Tryd.prog 76 #[.pointer (some ⟨N, 0, none⟩)] w fun e w' => (∃ fv', NumG bs n p r fv fv' e ∧ RR N w1 a n cap bs p r fv' w') ∧ RF N w w' := by
  cases hs : startF bs p r fv with
  | some x =>
    have hS := starts_gen h
    rw [hs] at hS
    have hSH : Hid _ := hS
    have hsH : Hid _ := hs
    clear hS h hs
    go_enter Tryd.func76, Tryd.ntmps76
    go_wp2_with fail
    refine Calls.mono hSH.out ?_
    rintro e w2 ⟨rfl, h2, F2⟩
    have h2H : Hid _ := h2
    clear h2
    go_wp2_with fail
    simp [bodyPost, results, Tryd.results76, go_sem]
    exact ⟨⟨some x, Or.inl ⟨by rw [hsH.out]; simp, hsH.out.symm, rfl⟩, h2H.out⟩, F2⟩
  | none =>
    obtain ⟨rfl, hng⟩ := startF_none hs
    refine (number_gen h hng).mono ?_
    rintro e w' ⟨⟨fv', h1, h2⟩, F⟩
    exact ⟨⟨fv', Or.inr ⟨hs, h1⟩, h2⟩, F⟩
theorem numS_len {bs : Nat → Nat} {n p x l : Nat} (hbs : ∀ i, i < n → bs i < 256) (h : numS bs n p 10 0 0 = .inr (x, l)) : l = (uB x).length ∧ p + l ≤ n ∧ x < 18446744073709551616 ∧ ∀ i, i < (uB x).length → bs (p + i) = (uB x).getD i 0 := by
  obtain ⟨X, hx, hl, hn, hb, _, hxx, hX⟩ := numS_ok bs n p hbs 10 0 0 x l rfl (by omega) h
  obtain rfl : x = X := by simpa using hx
  have hu : uBf 9 x = uB x := (uBf_more 9 x hX).symm
  rw [show 10 - 1 = 9 from rfl, hu] at hl hb
  exact ⟨by omega, hn, hxx, fun i hi => by have := hb i hi; rw [Nat.add_zero] at this; exact this⟩
/-- what Uint tells. -/
def UintG (bs : Nat → Nat) (n p r M : Nat) (fv : Option (Int × Int)) (p' r' : Nat) (fv' : Option (Int × Int)) (v : Nat) : Prop :=
  (startF bs p r fv ≠ none ∧ fv' = startF bs p r fv ∧ v = 0 ∧ p' = p ∧ r' = r) ∨
  (startF bs p r fv = none ∧ ((∃ q, numS bs n p 10 0 0 = .inl q ∧ fv' = some q ∧ v = 0 ∧ p' = p ∧ r' = r) ∨
    (∃ x l, numS bs n p 10 0 0 = .inr (x, l) ∧ ((M < x ∧ fv' = some ((p : Int), 2) ∧ v = 0 ∧ p' = p ∧ r' = r) ∨ (x ≤ M ∧ fv' = none ∧ v = x ∧ p' = p + l ∧ r' = 0)))))
set_option maxRecDepth 100000 in
set_option maxHeartbeats 1000000 in
theorem rUint_gen (h : RR N w1 a n cap bs p r fv w) (M : Nat) : Calls Tryd.prog 29 #[.pointer (some ⟨N, 0, none⟩), .int .u64 (M : Int)] w fun e w' => (∃ p' r' fv' v, UintG bs n p r M fv p' r' fv' v ∧ e = .returned (.int .u64 (v : Int)) ∧ RR N w1 a n cap bs p' r' fv' w') ∧ RF N w w' := by
  have h256 := h.bytes256
  have hS : Hid _ := number_all h
  have hM0 : ¬ (M : Int) < 0 := by omega
  clear h
  go_enter Tryd.func29, Tryd.ntmps29
  go_wp2_with fail
  refine Calls.mono hS.out ?_
  rintro e w2 ⟨⟨fv', hG, h2⟩, F2⟩
  rcases hG with ⟨g1, g2, rfl⟩ | ⟨g1, ⟨q, g2, g3, rfl⟩ | ⟨x, l, g2, g3, rfl⟩⟩
  · have h2H : Hid _ := h2
    have hg : Hid _ := And.intro g1 g2
    clear h2 g1 g2
    go_wp2_with fail
    go_ret
    exact ⟨⟨p, r, fv', 0, Or.inl ⟨hg.out.1, hg.out.2, rfl, rfl, rfl⟩, rfl, h2H.out⟩, F2⟩
  · have h2H : Hid _ := h2
    have hg : Hid _ := And.intro g1 (And.intro g2 g3)
    clear h2 g1 g2 g3
    go_wp2_with fail
    go_ret
    exact ⟨⟨p, r, fv', 0, Or.inr ⟨hg.out.1, Or.inl ⟨q, hg.out.2.1, hg.out.2.2, rfl, rfl, rfl⟩⟩, rfl, h2H.out⟩, F2⟩
  · subst g3
    obtain ⟨hl, hn, hxx, _⟩ := numS_len h256 g2
    have hl0 : 0 < l := by rw [hl]; exact uBf_pos 10 x
    have hlI : (0 : Int) < (l : Int) := by omega
    have hg : Hid _ := And.intro g1 g2
    by_cases hMx : M < x
    · have hMI : (M : Int) < (x : Int) := by omega
      have c1 := h2.c1
      have hFa : Hid _ := fail_any h2 (p : Int) 2 rfl
      clear h2 g1 g2 hl
      go_wp2_with fail
      refine Calls.mono hFa.out ?_
      rintro e w3 ⟨rfl, h3, F3⟩
      have h3H : Hid _ := h3
      clear h3
      go_wp2_with fail
      go_ret
      exact ⟨⟨p, r, some ((p : Int), 2), 0, Or.inr ⟨hg.out.1, Or.inr ⟨x, l, hg.out.2, Or.inl ⟨hMx, rfl, rfl, rfl, rfl⟩⟩⟩, rfl, h3H.out⟩, F2.trans F3⟩
    · have hMI : ¬ (M : Int) < (x : Int) := by omega
      have hP : Hid _ := pass_any h2 l (l : Int) rfl hn
      clear h2 g1 g2 hl
      go_wp2_with fail
      refine Calls.mono hP.out ?_
      rintro e w3 ⟨rfl, h3, F3⟩
      have h3H : Hid _ := h3
      clear h3
      go_wp2_with fail
      go_ret
      exact ⟨⟨p + l, 0, none, x, Or.inr ⟨hg.out.1, Or.inr ⟨x, l, hg.out.2, Or.inr ⟨by omega, rfl, rfl, rfl, rfl⟩⟩⟩, rfl, h3H.out⟩, F2.trans F3⟩
end
end Go.Proofs.YtkcpiplifibpkaaDoor
