
import Derived.WalkKit
namespace Go.Proofs.YtjiiafmbneehhaaDoor
set_option linter.unusedVariables false
set_option linter.unusedSimpArgs false
/-- a year of 366 days. -/
def lpB (y : Int) : Bool := decide (y % 4 = 0 ∧ (y % 100 ≠ 0 ∨ y % 400 = 0))
def lp (y : Int) : Int := if lpB y then 1 else 0
/-- the days of a month, in a year of 365. -/
def mon (m : Int) : Int := if m = 2 then 28 else if m = 4 ∨ m = 6 ∨ m = 9 ∨ m = 11 then 30 else 31
def lenM (y m : Int) : Int := if m = 2 then 28 + lp y else mon m
/-- the days ahead of a month. -/
def cum (y m : Int) : Int := if m ≤ 1 then 0 else if m ≤ 2 then 31 else (if m ≤ 3 then 59 else if m ≤ 4 then 90 else if m ≤ 5 then 120 else if m ≤ 6 then 151 else if m ≤ 7 then 181 else if m ≤ 8 then 212 else if m ≤ 9 then 243 else if m ≤ 10 then 273 else if m ≤ 11 then 304 else if m ≤ 12 then 334 else 365) + lp y
/-- the first day of a year. -/
def bgn (y : Int) : Int := 365 * y + ((y + 3) / 4 - (y + 99) / 100 + (y + 399) / 400) - 719528
def dayN (y m d : Int) : Int := bgn y + (d - 1) + cum y m
def dayOk (y m d : Int) : Prop := 0 ≤ y ∧ y ≤ 9999 ∧ 1 ≤ m ∧ m ≤ 12 ∧ 1 ≤ d ∧ d ≤ lenM y m
theorem lp_01 (y : Int) : 0 ≤ lp y ∧ lp y ≤ 1 := by unfold lp; split <;> omega
theorem lp_one {y : Int} (h : lpB y = true) : lp y = 1 := by unfold lp; rw [if_pos h]
theorem lp_zero {y : Int} (h : lpB y = false) : lp y = 0 := by unfold lp; rw [if_neg (by simp [h])]
theorem bgn_succ (y : Int) : bgn (y + 1) = bgn y + 365 + lp y := by
  cases h : lpB y with
  | true =>
    rw [lp_one h]; unfold lpB at h; have h := of_decide_eq_true h; unfold bgn
    rcases h with ⟨h1, h2 | h2⟩ <;> omega
  | false =>
    rw [lp_zero h]; unfold lpB at h; have h := of_decide_eq_false h; unfold bgn
    by_cases h1 : y % 4 = 0
    · have h2 : y % 100 = 0 := by
        apply Decidable.byContradiction; intro h3; exact h ⟨h1, Or.inl h3⟩
      have h3 : ¬ y % 400 = 0 := fun h3 => h ⟨h1, Or.inr h3⟩
      omega
    · omega
theorem bgn_bd (y : Int) : 146097 * y - 396 ≤ 400 * (bgn y + 719528) ∧ 400 * (bgn y + 719528) ≤ 146097 * y + 699 := by
  unfold bgn; omega
theorem bgn_lt (y z : Int) (h : y < z) : bgn y + 365 ≤ bgn z := by
  unfold bgn; omega
theorem lenM_bd (y m : Int) : 28 ≤ lenM y m ∧ lenM y m ≤ 31 := by
  have := lp_01 y
  unfold lenM mon; split <;> (try split) <;> (try split) <;> omega
theorem cum_succ (y m : Int) (h1 : 1 ≤ m) (h2 : m ≤ 12) : cum y (m + 1) = cum y m + lenM y m := by
  have : m = 1 ∨ m = 2 ∨ m = 3 ∨ m = 4 ∨ m = 5 ∨ m = 6 ∨ m = 7 ∨ m = 8 ∨ m = 9 ∨ m = 10 ∨ m = 11 ∨ m = 12 := by omega
  rcases this with h | h | h | h | h | h | h | h | h | h | h | h <;> subst h <;> simp [cum, lenM, mon] <;> omega
theorem cum_bd (y m : Int) (h1 : 1 ≤ m) (h2 : m ≤ 13) : 0 ≤ cum y m ∧ cum y m ≤ 365 + lp y := by
  have := lp_01 y
  have : m = 1 ∨ m = 2 ∨ m = 3 ∨ m = 4 ∨ m = 5 ∨ m = 6 ∨ m = 7 ∨ m = 8 ∨ m = 9 ∨ m = 10 ∨ m = 11 ∨ m = 12 ∨ m = 13 := by omega
  rcases this with h | h | h | h | h | h | h | h | h | h | h | h | h <;> subst h <;> simp [cum] <;> omega
theorem cum_13 (y : Int) : cum y 13 = 365 + lp y := by simp [cum]
theorem cum_mono (y m k : Int) (h1 : 1 ≤ m) (h2 : m < k) (h3 : k ≤ 13) : cum y m + lenM y m ≤ cum y k := by
  have H : ∀ j : Nat, m + 1 + j ≤ 13 → cum y (m + 1) ≤ cum y (m + 1 + j) := by
    intro j
    induction j with
    | zero => intro _; simp
    | succ j ih =>
      intro hj
      have a := ih (by omega)
      have b := cum_succ y (m + 1 + j) (by omega) (by omega)
      have c := lenM_bd y (m + 1 + j)
      have e : m + 1 + ((j + 1 : Nat) : Int) = m + 1 + j + 1 := by omega
      rw [e, b]; omega
  have a := H (k - (m + 1)).toNat (by omega)
  have e : m + 1 + ((k - (m + 1)).toNat : Int) = k := by omega
  rw [e] at a
  have b := cum_succ y m h1 (by omega)
  omega
/-- a day is of one date alone. -/
theorem day_inj {y m d z k e : Int} (h : dayOk y m d) (g : dayOk z k e) (hn : dayN y m d = dayN z k e) : y = z ∧ m = k ∧ d = e := by
  obtain ⟨a1, a2, a3, a4, a5, a6⟩ := h
  obtain ⟨b1, b2, b3, b4, b5, b6⟩ := g
  unfold dayN at hn
  have c1 := cum_mono y m 13 a3 (by omega) (by omega)
  have c2 := cum_mono z k 13 b3 (by omega) (by omega)
  have c3 := cum_bd y m a3 (by omega)
  have c4 := cum_bd z k b3 (by omega)
  rw [cum_13] at c1 c2
  have s1 := bgn_succ y
  have s2 := bgn_succ z
  have hyz : y = z := by
    rcases Int.lt_trichotomy y z with h | h | h
    · have : bgn (y + 1) ≤ bgn z := by
        by_cases e : y + 1 = z
        · rw [e]; exact Int.le_refl _
        · have := bgn_lt (y + 1) z (by omega); omega
      omega
    · exact h
    · have : bgn (z + 1) ≤ bgn y := by
        by_cases e : z + 1 = y
        · rw [e]; exact Int.le_refl _
        · have := bgn_lt (z + 1) y (by omega); omega
      omega
  subst hyz
  have hmk : m = k := by
    rcases Int.lt_trichotomy m k with h | h | h
    · have := cum_mono y m k a3 h (by omega); omega
    · exact h
    · have := cum_mono y k m b3 h (by omega); omega
  subst hmk
  exact ⟨rfl, rfl, by omega⟩
theorem day_bd {y m d : Int} (h : dayOk y m d) : -719528 ≤ dayN y m d ∧ dayN y m d < 2932897 := by
  obtain ⟨a1, a2, a3, a4, a5, a6⟩ := h
  have c1 := cum_mono y m 13 a3 (by omega) (by omega)
  have c3 := cum_bd y m a3 (by omega)
  rw [cum_13] at c1
  have s1 := bgn_succ y
  have : bgn (y + 1) ≤ bgn 10000 := by
    by_cases e : y + 1 = 10000
    · rw [e]; exact Int.le_refl _
    · have := bgn_lt (y + 1) 10000 (by omega); omega
  have t : bgn 10000 = 2932897 := by decide
  have t0 : bgn 0 = -719528 := by decide
  have : bgn 0 ≤ bgn y := by
    by_cases e : y = 0
    · rw [e]; exact Int.le_refl _
    · have := bgn_lt 0 y (by omega); omega
  unfold dayN
  omega
/-- the year of a day: the guess, and one more or less. -/
def yOf (n : Int) : Int := if n < bgn ((n + 719528) * 400 / 146097) then (n + 719528) * 400 / 146097 - 1 else if bgn ((n + 719528) * 400 / 146097 + 1) ≤ n then (n + 719528) * 400 / 146097 + 1 else (n + 719528) * 400 / 146097
theorem yOf_ok (n : Int) (h1 : -719528 ≤ n) (h2 : n < 2932897) : 0 ≤ yOf n ∧ yOf n ≤ 9999 ∧ bgn (yOf n) ≤ n ∧ n < bgn (yOf n + 1) := by
  have t0 : bgn 0 = -719528 := by decide
  have t : bgn 10000 = 2932897 := by decide
  have key : bgn (yOf n) ≤ n ∧ n < bgn (yOf n + 1) := by
    unfold yOf
    generalize hg : (n + 719528) * 400 / 146097 = g
    have hb := bgn_bd g
    have hb1 := bgn_bd (g - 1)
    have hb2 := bgn_bd (g + 1)
    have hb3 := bgn_bd (g + 1 + 1)
    split
    · rw [show g - 1 + 1 = g by omega]; omega
    · split
      · omega
      · omega
  refine ⟨?_, ?_, key.1, key.2⟩
  · apply Decidable.byContradiction; intro h
    have : bgn (yOf n + 1) ≤ bgn 0 := by
      by_cases e : yOf n + 1 = 0
      · rw [e]; exact Int.le_refl _
      · have := bgn_lt (yOf n + 1) 0 (by omega); omega
    omega
  · apply Decidable.byContradiction; intro h
    have : bgn 10000 ≤ bgn (yOf n) := by
      by_cases e : yOf n = 10000
      · rw [e]; exact Int.le_refl _
      · have := bgn_lt 10000 (yOf n) (by omega); omega
    omega
/-- the month of the r-th day of a year. -/
def mOf (y r : Int) : Int := if r < cum y 2 then 1 else if r < cum y 3 then 2 else if r < cum y 4 then 3 else if r < cum y 5 then 4 else if r < cum y 6 then 5 else if r < cum y 7 then 6 else if r < cum y 8 then 7 else if r < cum y 9 then 8 else if r < cum y 10 then 9 else if r < cum y 11 then 10 else if r < cum y 12 then 11 else 12
theorem mOf_ok (y r : Int) (h1 : 0 ≤ r) (h2 : r < 365 + lp y) : 1 ≤ mOf y r ∧ mOf y r ≤ 12 ∧ cum y (mOf y r) ≤ r ∧ r < cum y (mOf y r + 1) := by
  rw [← cum_13 y] at h2
  have h0 : cum y 1 = 0 := by simp [cum]
  unfold mOf
  repeat' split
  all_goals (refine ⟨by omega, by omega, ?_, ?_⟩ <;> first | omega | assumption | (simp; omega) | (simp; assumption))
def ymOf (n : Int) : Int := mOf (yOf n) (n - bgn (yOf n))
def ydOf (n : Int) : Int := n - bgn (yOf n) - cum (yOf n) (ymOf n) + 1
theorem date_ok (n : Int) (h1 : -719528 ≤ n) (h2 : n < 2932897) : dayOk (yOf n) (ymOf n) (ydOf n) ∧ dayN (yOf n) (ymOf n) (ydOf n) = n := by
  obtain ⟨a1, a2, a3, a4⟩ := yOf_ok n h1 h2
  rw [bgn_succ] at a4
  obtain ⟨b1, b2, b3, b4⟩ := mOf_ok (yOf n) (n - bgn (yOf n)) (by omega) (by omega)
  have hc := cum_succ (yOf n) (ymOf n) b1 b2
  unfold ymOf at hc
  rw [hc] at b4
  refine ⟨⟨a1, a2, b1, b2, ?_, ?_⟩, ?_⟩
  · unfold ydOf ymOf; omega
  · unfold ydOf ymOf; omega
  · unfold dayN ydOf ymOf; omega
theorem date_uniq {y m d n : Int} (h : dayOk y m d) (hn : dayN y m d = n) : y = yOf n ∧ m = ymOf n ∧ d = ydOf n := by
  have hb := day_bd h
  have ⟨a, b⟩ := date_ok n (by omega) (by omega)
  exact day_inj h a (by rw [b, hn])
end Go.Proofs.YtjiiafmbneehhaaDoor
