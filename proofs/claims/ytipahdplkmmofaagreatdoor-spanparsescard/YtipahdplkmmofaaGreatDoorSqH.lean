
import Derived.Test.YtipahdplkmmofaaGreatDoorSpC
namespace Go.Proofs.YtipahdplkmmofaaGreatDoor
set_option linter.unusedVariables false
set_option linter.unusedSimpArgs false
/-- far outside int64. -/
def MU : Int := 20282409603651670423947251286016
def sat (x : Int) : Int := if x ≤ MU then x else MU
theorem MU_val : MU = 20282409603651670423947251286016 := rfl
theorem sat_bd {x : Int} (h : 0 ≤ x) : 0 ≤ sat x ∧ sat x ≤ MU := by
  unfold sat; have := MU_val; split <;> omega
theorem sat_of {x : Int} (h : x ≤ MU) : sat x = x := if_pos h
theorem sat_over {x : Int} (h : ¬ x ≤ MU) : sat x = MU := if_neg h
theorem sat_add {x y : Int} (hx : 0 ≤ x) (hy : 0 ≤ y) : sat (sat x + sat y) = sat (x + y) := by
  have := MU_val; unfold sat; repeat' split
  all_goals omega
theorem sat_idem (x : Int) : sat (sat x) = sat x := by
  have := MU_val; unfold sat; repeat' split
  all_goals omega
theorem sat_small {x : Int} (h : 0 ≤ x) : (sat x < 9223372036854775808 ↔ x < 9223372036854775808) := by
  have := MU_val; unfold sat; split <;> omega
theorem sat_val {x : Int} (h : x < 9223372036854775808) : sat x = x := by
  have := MU_val; unfold sat; split <;> omega
theorem sat_mul {x u : Int} (hx : 0 ≤ x) (hu : 1 ≤ u) : sat (sat x * u) = sat (x * u) := by
  by_cases h : x ≤ MU
  · rw [sat_of h]
  · rw [sat_over h]
    have h1 : MU * 1 ≤ MU * u := Int.mul_le_mul_of_nonneg_left hu (by have := MU_val; omega)
    have h2 : MU * u ≤ x * u := Int.mul_le_mul_of_nonneg_right (by omega) (by omega)
    have e1 : sat (MU * u) = MU := by unfold sat; split <;> omega
    have e2 : sat (x * u) = MU := by unfold sat; split <;> omega
    rw [e1, e2]
/-- the length of a unit by its text: two bytes, one byte. -/
def un2 (a b : UInt8) : Int := if b = 115 then (if a = 110 then 1 else if a = 117 then 1000 else if a = 109 then 1000000 else 0) else 0
def un1 (a : UInt8) : Int := if a = 115 then 1000000000 else if a = 109 then 60000000000 else if a = 104 then 3600000000000 else if a = 100 then 86400000000000 else if a = 119 then 604800000000000 else 0
theorem unitP_nil : unitP [] = -1 := rfl
theorem unitP_one (a : UInt8) : unitP [a] = if un1 a = 0 then -1 else unitP [a] := by
  split
  · rename_i h
    unfold un1 at h
    repeat' split at h
    all_goals first | omega | skip
    unfold unitP
    simp_all
  · rfl
/-- two bytes that are a unit. -/
theorem unit_two (a b : UInt8) (r : List UInt8) (h : 0 < un2 a b) : 0 ≤ unitP (a :: b :: r) ∧ usz (unitP (a :: b :: r)) = un2 a b ∧ unl (unitP (a :: b :: r)) = 2 := by
  unfold un2 at h ⊢
  by_cases hb : b = 115
  · subst hb
    by_cases h1 : a = 110
    · subst h1; simp [unitP, usz, unl]
    · by_cases h2 : a = 117
      · subst h2; simp [unitP, usz, unl]
      · by_cases h3 : a = 109
        · subst h3; simp [unitP, usz, unl]
        · simp [h1, h2, h3] at h
  · simp [hb] at h
/-- one byte that is a unit, and no two. -/
theorem unit_one (a : UInt8) (r : List UInt8) (h2 : ∀ b t, r = b :: t → ¬ 0 < un2 a b) (h : 0 < un1 a) : 0 ≤ unitP (a :: r) ∧ usz (unitP (a :: r)) = un1 a ∧ unl (unitP (a :: r)) = 1 := by
  have n1 : ¬ (a = 109 ∧ r.head? = some 115) := by
    rintro ⟨rfl, hr⟩
    cases r with
    | nil => simp at hr
    | cons b t => simp at hr; subst hr; exact h2 115 t rfl (by decide)
  have n2 : ¬ (a = 117 ∧ r.head? = some 115) := by
    rintro ⟨rfl, hr⟩
    cases r with
    | nil => simp at hr
    | cons b t => simp at hr; subst hr; exact h2 115 t rfl (by decide)
  have n3 : ¬ (a = 110 ∧ r.head? = some 115) := by
    rintro ⟨rfl, hr⟩
    cases r with
    | nil => simp at hr
    | cons b t => simp at hr; subst hr; exact h2 115 t rfl (by decide)
  have e : unitP (a :: r) = if a = 119 then 0 else if a = 100 then 1 else if a = 104 then 2 else if a = 109 then 3 else if a = 115 then 4 else -1 := by
    rw [unitP, if_neg n1, if_neg n2, if_neg n3]
  rw [e]
  unfold un1 at h ⊢
  by_cases c1 : a = 119
  · subst c1; simp [usz, unl]
  · by_cases c2 : a = 100
    · subst c2; simp [usz, unl]
    · by_cases c3 : a = 104
      · subst c3; simp [usz, unl]
      · by_cases c4 : a = 109
        · subst c4; simp [usz, unl]
        · by_cases c5 : a = 115
          · subst c5; simp [usz, unl]
          · simp [c1, c2, c3, c4, c5] at h
/-- no unit. -/
theorem unit_no (a : UInt8) (r : List UInt8) (h2 : ∀ b t, r = b :: t → ¬ 0 < un2 a b) (h : ¬ 0 < un1 a) : unitP (a :: r) = -1 := by
  have n1 : ¬ (a = 109 ∧ r.head? = some 115) := by rintro ⟨rfl, hr⟩; exact h (by decide)
  have n2 : ¬ (a = 117 ∧ r.head? = some 115) := by
    rintro ⟨rfl, hr⟩
    cases r with
    | nil => simp at hr
    | cons b t => simp at hr; subst hr; exact h2 115 t rfl (by decide)
  have n3 : ¬ (a = 110 ∧ r.head? = some 115) := by
    rintro ⟨rfl, hr⟩
    cases r with
    | nil => simp at hr
    | cons b t => simp at hr; subst hr; exact h2 115 t rfl (by decide)
  have c1 : ¬ a = 119 := by rintro rfl; exact h (by decide)
  have c2 : ¬ a = 100 := by rintro rfl; exact h (by decide)
  have c3 : ¬ a = 104 := by rintro rfl; exact h (by decide)
  have c4 : ¬ a = 109 := by rintro rfl; exact h (by decide)
  have c5 : ¬ a = 115 := by rintro rfl; exact h (by decide)
  rw [unitP, if_neg n1, if_neg n2, if_neg n3, if_neg c1, if_neg c2, if_neg c3, if_neg c4, if_neg c5]
/-- units by their lengths: a greater one stands ahead. -/
theorem usz_lt {u v : Int} (h1 : 0 ≤ u) (h2 : u ≤ 7) (h3 : 0 ≤ v) (h4 : v ≤ 7) : (usz v ≤ usz u ↔ u ≤ v) := by
  have a : u = 0 ∨ u = 1 ∨ u = 2 ∨ u = 3 ∨ u = 4 ∨ u = 5 ∨ u = 6 ∨ u = 7 := by omega
  have b : v = 0 ∨ v = 1 ∨ v = 2 ∨ v = 3 ∨ v = 4 ∨ v = 5 ∨ v = 6 ∨ v = 7 := by omega
  rcases a with e | e | e | e | e | e | e | e <;> subst e <;> rcases b with e | e | e | e | e | e | e | e <;> subst e <;> simp [usz]
/-- the last unit's length; none yet: more than any. -/
def lsz (last : Int) : Int := if last < 0 then 4611686018427387904 else usz last
theorem lsz_le {u last : Int} (h1 : 0 ≤ u) (h2 : u ≤ 7) (h3 : -1 ≤ last) (h4 : last ≤ 7) : (lsz last ≤ usz u ↔ u ≤ last) := by
  unfold lsz
  split
  · have := usz_bd u; omega
  · rw [usz_lt h1 h2 (by omega) h4]
end Go.Proofs.YtipahdplkmmofaaGreatDoor
