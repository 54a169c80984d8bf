
import Derived.Test.YtjiiafmbneehhaaDoorSpC
namespace Go.Proofs.YtjiiafmbneehhaaDoor
set_option linter.unusedVariables false
set_option linter.unusedSimpArgs false
/-- what Scan tells. -/
def scE (l : List UInt8) : Int := if (rdAll l).2 = 0 then 40 else if (rdAll l).1 < 9223372036854775808 then 0 else 20
theorem prT_form (n : Int) (h1 : 0 ≤ n) (h2 : n < 9223372036854775808) : ∃ (a : Nat) (u : Int), prT n = Lib.decDigits a ++ unm u ∧ (a : Int) * usz u = n ∧ 0 ≤ u ∧ u ≤ 7 ∧ (n ≠ 0 → u = prU n) := by
  unfold prT
  by_cases h : n = 0
  · subst h
    refine ⟨0, 4, ?_, by simp, by omega, by omega, fun h => absurd rfl h⟩
    rw [if_pos rfl, show Lib.decDigits 0 = [48] by rw [Lib.decDigits]; rfl]; rfl
  · rw [if_neg h]
    have hlow : low n = n := by unfold low; rw [if_neg (by omega)]
    rw [hlow]
    have hm := prU_mod n
    obtain ⟨b1, b2⟩ := prU_bd n
    have us := usz_bd (prU n)
    have ex : n / usz (prU n) * usz (prU n) = n := Int.ediv_mul_cancel (Int.dvd_of_emod_eq_zero hm)
    have hq : 0 ≤ n / usz (prU n) := Int.ediv_nonneg h1 (by omega)
    refine ⟨(n / usz (prU n)).toNat, prU n, ?_, ?_, b1, b2, fun _ => rfl⟩
    · unfold prN Lib.itoa; rw [if_neg (by omega)]
    · rw [show ((n / usz (prU n)).toNat : Int) = n / usz (prU n) by omega, ex]
theorem unl_pos (u : Int) : 0 < unl u := by unfold unl; split <;> omega
theorem scan_print (n : Int) (h1 : 0 ≤ n) (h2 : n < 9223372036854775808) (r : List UInt8) (hr : r.head? ≠ some 115) (hc : cnt r = 0) :
    scE (prT n ++ r) = 0 ∧ (rdAll (prT n ++ r)).1 = n ∧ (rdAll (prT n ++ r)).2 = (prT n).length := by
  obtain ⟨a, u, e1, e2, u1, u2, _⟩ := prT_form n h1 h2
  have e := rdAll_one a u u1 u2 r hr hc
  rw [← List.append_assoc, ← e1] at e
  have hl : (prT n).length = (Lib.decDigits a).length + unl u := by
    rw [e1, List.length_append, (unit_of u u1 u2 [] (by simp)).2.1]
  have hp := unl_pos u
  refine ⟨?_, by rw [e]; exact e2, by rw [e, hl]⟩
  unfold scE; rw [e]; simp only
  rw [if_neg (by omega), e2, if_pos h2]
theorem dec_head0 (a : Nat) (r : List UInt8) : (Lib.decDigits a ++ r).head? ≠ some 115 := by
  have h1 := dec_ne0 a
  have h2 := dec_allD a
  cases h : Lib.decDigits a with
  | nil => exact absurd h h1
  | cons c t =>
    have := isD_bd (h2 c (by simp [h]))
    simp
    intro e; subst e; simp at this
theorem hours_unit (h : Int) (h1 : 0 ≤ h) (h3 : ¬ h % 24 = 0) : prU (h * 3600000000000) = 2 := by
  unfold prU
  rw [if_neg (by omega), if_neg (by omega), if_pos (by omega)]
theorem secs_unit (s : Int) (h1 : 0 < s) (h2 : s < 1000000000) : 5 ≤ prU s := by
  unfold prU
  rw [if_neg (by omega), if_neg (by omega), if_neg (by omega), if_neg (by omega), if_neg (by omega)]
  repeat' split
  all_goals omega
theorem parse_two (h s : Int) (h0 : 0 < h) (h1 : h < 1000) (h2 : 0 < s) (h3 : s < 1000000000) (h4 : ¬ h % 24 = 0) :
    spE (prT (h * 3600000000000) ++ prT s) = 0 ∧ spV (prT (h * 3600000000000) ++ prT s) = h * 3600000000000 + s := by
  obtain ⟨a, u, e1, e2, u1, u2, e3⟩ := prT_form (h * 3600000000000) (by omega) (by omega)
  obtain ⟨b, v, f1, f2, v1, v2, f3⟩ := prT_form s (by omega) (by omega)
  have hu := e3 (by omega)
  rw [hours_unit h (by omega) h4] at hu
  have hv := secs_unit s h2 h3
  rw [← f3 (by omega)] at hv
  have R : rdAll (prT (h * 3600000000000) ++ prT s) = (h * 3600000000000 + s, (Lib.decDigits a).length + unl u + ((Lib.decDigits b).length + unl v)) := by
    unfold rdAll
    rw [e1, f1, List.append_assoc]
    rw [rd_step 8 a u _ (-1) 0 0 u1 u2 (by omega) (dec_head0 b _)]
    have := rd_step 7 b v [] u (0 + a * usz u) (0 + ((Lib.decDigits a).length + unl u)) v1 v2 (by omega) (by simp)
    rw [List.append_nil] at this
    rw [this, rd_stop 6 [] v _ _ rfl (by omega), e2, f2]; simp
  have hh : (prT (h * 3600000000000) ++ prT s).head? ≠ some 45 := by rw [e1, List.append_assoc]; exact head_dec _ _
  have hl : (prT (h * 3600000000000) ++ prT s).length = (Lib.decDigits a).length + unl u + ((Lib.decDigits b).length + unl v) := by
    rw [e1, f1]; simp only [List.length_append]
    rw [← (unit_of u u1 u2 [] (by simp)).2.1, ← (unit_of v v1 v2 [] (by simp)).2.1]
  have hp := unl_pos u
  have et : spT (prT (h * 3600000000000) ++ prT s) = prT (h * 3600000000000) ++ prT s := by unfold spT; rw [if_neg hh]
  have E : spE (prT (h * 3600000000000) ++ prT s) = 0 := by
    unfold spE; rw [et, R]; simp only
    rw [hl, if_neg (by omega), if_pos (by omega)]
  refine ⟨E, ?_⟩
  unfold spV; rw [if_pos E, if_neg hh, et, R]
end Go.Proofs.YtjiiafmbneehhaaDoor
