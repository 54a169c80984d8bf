
import Derived.Test.YtipahdplkmmofaaGreatDoorSpLv
namespace Go.Proofs.YtipahdplkmmofaaGreatDoor
open Go.RowKit Go.Shelf
set_option linter.unusedVariables false
set_option linter.unusedSimpArgs false
theorem prT_len (n : Int) (hn : I64 n) : (prT n).length ≤ 30 := by
  unfold prT
  split
  · simp
  · unfold prN
    have hb := prU_bd (low n)
    have us := usz_bd (prU (low n))
    have hl : I64 (low n) := by unfold I64 low at *; split <;> omega
    have iq : I64 (low n / usz (prU (low n))) := by
      unfold I64 at *
      constructor
      · have := Int.le_ediv_of_mul_le (c := usz (prU (low n))) (by omega) (show -9223372036854775808 * usz (prU (low n)) ≤ low n by omega); omega
      · have : low n / usz (prU (low n)) ≤ 9223372036854775807 := by
          apply Int.ediv_le_of_le_mul (by omega)
          omega
        omega
    have h1 := itoa_len0 _ iq
    have h2 := (unit_of (prU (low n)) hb.1 hb.2 [] (by simp)).2.1
    have h3 : unl (prU (low n)) ≤ 2 := by unfold unl; split <;> omega
    rw [List.length_append]; omega
theorem text_len (t : Int) (ht : I64 t) : (textP t).length ≤ 200 := by
  unfold I64 at ht
  have q1 : -719528 ≤ t / 86400000000000 ∧ t / 86400000000000 < 2932897 := by omega
  obtain ⟨⟨a1, a2, a3, a4, a5, a6⟩, _⟩ := date_ok (t / 86400000000000) q1.1 q1.2
  have hM' := lenM_bd (yOf (t / 86400000000000)) (ymOf (t / 86400000000000))
  have z1 := padP_len (yOf (t / 86400000000000)) 4 ⟨by omega, by omega⟩ (by omega)
  have z2 := padP_len (ymOf (t / 86400000000000)) 2 ⟨by omega, by omega⟩ (by omega)
  have z3 := padP_len (ydOf (t / 86400000000000)) 2 ⟨by omega, by omega⟩ (by omega)
  have z4 := padP_len (t % 86400000000000 / 3600000000000) 2 ⟨by omega, by omega⟩ (by omega)
  have z5 := padP_len (t % 86400000000000 % 3600000000000 / 60000000000) 2 ⟨by omega, by omega⟩ (by omega)
  have z6 := padP_len (t % 86400000000000 % 60000000000 / 1000000000) 2 ⟨by omega, by omega⟩ (by omega)
  have z7 := frac_len (t % 86400000000000 % 1000000000) ⟨by omega, by omega⟩
  unfold textP textR
  simp only [List.length_append, List.length_cons, List.length_nil]
  omega
/-- a time as a text, read: that time. -/
theorem tm_text (t : Int) (ht : I64 t) : tmRes (textP t) = .returned (.tuple #[.int .i64 t, .nilIface]) := by
  obtain ⟨h1, h2⟩ := time_text t ht.1 ht.2
  unfold tmRes
  unfold tmE at h1
  rw [h2] at h1 ⊢
  split at h1
  · cases h1
  · rename_i hh
    rw [if_neg hh, nE_yes ht]
end Go.Proofs.YtipahdplkmmofaaGreatDoor
