
import Derived.Test.YtepgcgphnjlcoaaDoorRgCq
namespace Go.Proofs.YtepgcgphnjlcoaaDoor
open Go.RowKit
set_option linter.unusedVariables false
set_option linter.unusedSimpArgs false
/-- what number tells, wherever the Reader stands. -/
def NumG (bs : Nat → Nat) (n p r : Nat) (fv fv' : Option (Int × Int)) (e : Ending) : Prop :=
  (startF bs p r fv ≠ none ∧ fv' = startF bs p r fv ∧ e = .returned (.tuple #[.int .u64 0, .int .i64 0])) ∨ (startF bs p r fv = none ∧ NumE bs n p fv' e)
section
variable {N : Nat} {w1 : World} {a : Option Addr} {n cap p r : Nat} {bs : Nat → Nat} {fv : Option (Int × Int)} {w : World}
set_option maxRecDepth 100000 in
theorem number_all (h : RR N w1 a n cap bs p r fv w) : Calls Tryd.prog 69 #[.pointer (some ⟨N, 0, none⟩)] w fun e w' => (∃ fv', NumG bs n p r fv fv' e ∧ RR N w1 a n cap bs p r fv' w') ∧ RF N w w' := by
  cases hs : startF bs p r fv with
  | some x =>
    have hS := starts_gen h
    rw [hs] at hS
    have hSH : Hid _ := hS
    have hsH : Hid _ := hs
    clear hS h hs
    go_enter Tryd.func69, Tryd.ntmps69
    go_wp2_with fail
    refine Calls.mono hSH.out ?_
    rintro e w2 ⟨rfl, h2, F2⟩
    have h2H : Hid _ := h2
    clear h2
    go_wp2_with fail
    simp [bodyPost, results, Tryd.results69, go_sem]
    exact ⟨⟨some x, Or.inl ⟨by rw [hsH.out]; simp, hsH.out.symm, rfl⟩, h2H.out⟩, F2⟩
  | none =>
    obtain ⟨rfl, hng⟩ := startF_none hs
    refine (number_gen h hng).mono ?_
    rintro e w' ⟨⟨fv', h1, h2⟩, F⟩
    exact ⟨⟨fv', Or.inr ⟨hs, h1⟩, h2⟩, F⟩
theorem numS_len {bs : Nat → Nat} {n p x l : Nat} (hbs : ∀ i, i < n → bs i < 256) (h : numS bs n p 10 0 0 = .inr (x, l)) : l = (uB x).length ∧ p + l ≤ n ∧ x < 18446744073709551616 ∧ ∀ i, i < (uB x).length → bs (p + i) = (uB x).getD i 0 := by
  obtain ⟨X, hx, hl, hn, hb, _, hxx, hX⟩ := numS_ok bs n p hbs 10 0 0 x l rfl (by omega) h
  obtain rfl : x = X := by simpa using hx
  have hu : uBf 9 x = uB x := (uBf_more 9 x hX).symm
  rw [show 10 - 1 = 9 from rfl, hu] at hl hb
  exact ⟨by omega, hn, hxx, fun i hi => by have := hb i hi; rw [Nat.add_zero] at this; exact this⟩
/-- what Uint tells. -/
def UintG (bs : Nat → Nat) (n p r M : Nat) (fv : Option (Int × Int)) (p' r' : Nat) (fv' : Option (Int × Int)) (v : Nat) : Prop :=
  (startF bs p r fv ≠ none ∧ fv' = startF bs p r fv ∧ v = 0 ∧ p' = p ∧ r' = r) ∨
  (startF bs p r fv = none ∧ ((∃ q, numS bs n p 10 0 0 = .inl q ∧ fv' = some q ∧ v = 0 ∧ p' = p ∧ r' = r) ∨
    (∃ x l, numS bs n p 10 0 0 = .inr (x, l) ∧ ((M < x ∧ fv' = some ((p : Int), 2) ∧ v = 0 ∧ p' = p ∧ r' = r) ∨ (x ≤ M ∧ fv' = none ∧ v = x ∧ p' = p + l ∧ r' = 0)))))
end
end Go.Proofs.YtepgcgphnjlcoaaDoor
