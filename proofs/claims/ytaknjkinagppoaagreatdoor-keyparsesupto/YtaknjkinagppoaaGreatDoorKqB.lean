
import Derived.Test.YtaknjkinagppoaaGreatDoorKyL
import Derived.Test.YtaknjkinagppoaaGreatDoorKyT
namespace Go.Proofs.YtaknjkinagppoaaGreatDoor
open Go.RowKit Go.Shelf
set_option linter.unusedVariables false
set_option linter.unusedSimpArgs false
theorem unB_ok : ∀ (l : List UInt8) (e : Bool) (acc : List UInt8) (k : Nat) (t : List UInt8) (n : Nat), unB e acc k l = .ok t n →
    ∃ m u, n = k + m ∧ m ≤ l.length ∧ t = acc ++ u ∧ (if e then 92 :: l.take m else l.take m) = escL u
  | [], true, acc, k, t, n, h => by simp [unB] at h
  | [], false, acc, k, t, n, h => by
    simp [unB] at h
    obtain ⟨rfl, rfl⟩ := h
    exact ⟨0, [], by simp, by simp, by simp, by simp [escL]⟩
  | b :: r, true, acc, k, t, n, h => by
    rw [unB] at h
    by_cases hb : mkL.contains b = true
    · rw [if_pos hb] at h
      obtain ⟨m, u, h1, h2, h3, h4⟩ := unB_ok r false (acc ++ [b]) (k + 1) t n h
      refine ⟨m + 1, b :: u, by omega, by simp; omega, by rw [h3]; simp, ?_⟩
      simp only [Bool.false_eq_true, if_false] at h4
      simp only [if_true, List.take_succ_cons]
      rw [h4]
      unfold escL
      rw [List.flatMap_cons, if_pos hb]
      rfl
    · rw [if_neg hb] at h; cases h
  | b :: r, false, acc, k, t, n, h => by
    rw [unB] at h
    by_cases h92 : b = 92
    · rw [if_pos h92] at h
      obtain ⟨m, u, h1, h2, h3, h4⟩ := unB_ok r true acc (k + 1) t n h
      refine ⟨m + 1, u, by omega, by simp; omega, h3, ?_⟩
      simp only [if_true] at h4
      simp only [Bool.false_eq_true, if_false, List.take_succ_cons]
      rw [h92]; exact h4
    · rw [if_neg h92] at h
      by_cases hb : mkL.contains b = true
      · rw [if_pos hb] at h
        injection h with h1 h2
        subst h1 h2
        exact ⟨0, [], by simp, by simp, by simp, by simp [escL]⟩
      · rw [if_neg hb] at h
        obtain ⟨m, u, h1, h2, h3, h4⟩ := unB_ok r false (acc ++ [b]) (k + 1) t n h
        refine ⟨m + 1, b :: u, by omega, by simp; omega, by rw [h3]; simp, ?_⟩
        simp only [Bool.false_eq_true, if_false] at h4
        simp only [Bool.false_eq_true, if_false, List.take_succ_cons]
        rw [h4]
        unfold escL
        rw [List.flatMap_cons, if_neg hb]
        rfl
theorem unB_bad : ∀ (l : List UInt8) (e : Bool) (acc : List UInt8) (k : Nat) (p : Int), unB e acc k l = .bad p → (k : Int) - 1 ≤ p ∧ p ≤ k + l.length
  | [], true, acc, k, p, h => by simp [unB] at h; simp; omega
  | [], false, acc, k, p, h => by simp [unB] at h
  | b :: r, true, acc, k, p, h => by
    rw [unB] at h
    split at h
    · have := unB_bad r false _ _ p h; simp; omega
    · injection h with h; simp; omega
  | b :: r, false, acc, k, p, h => by
    rw [unB] at h
    split at h
    · have := unB_bad r true _ _ p h; simp; omega
    · split at h
      · cases h
      · have := unB_bad r false _ _ p h; simp; omega
theorem uneT_ok {l t : List UInt8} {n : Nat} (h : uneT l = .ok t n) : n ≤ l.length ∧ l.take n = escL t := by
  obtain ⟨m, u, h1, h2, h3, h4⟩ := unB_ok l false [] 0 t n h
  simp at h1 h3 h4
  subst h1 h3
  exact ⟨h2, h4⟩
theorem uneT_bad {l : List UInt8} {p : Int} (h : uneT l = .bad p) : -1 ≤ p ∧ p ≤ l.length := by
  have := unB_bad l false [] 0 p h
  simp at this
  omega
/-- where a reader stands: its place, and its fault's. -/
abbrev StP := Nat × Option Int
def failP (st : StP) (p : Int) : StP := if st.2 = none then (st.1, some p) else st
def wordP (l : List UInt8) (st : StP) : List UInt8 × StP :=
  if st.2 = none then
    match uneT (l.drop st.1) with
    | .ok t n => (t, (st.1 + n, none))
    | .bad p => ([], (st.1, some ((st.1 : Int) + p)))
  else ([], st)
def folP (l : List UInt8) (c : UInt8) (st : StP) : Bool := decide (st.2 = none) && decide (l[st.1]? = some c)
def mustP (l : List UInt8) (c : UInt8) (st : StP) : StP := if folP l c st then (st.1 + 1, none) else failP st st.1
def endP (l : List UInt8) (st : StP) : StP := if st.1 < l.length then failP st st.1 else st
def ba (t : List UInt8) : ByteArray := ⟨t.toArray⟩
/-- one tag, behind its comma. -/
def oneP (l : List UInt8) (st : StP) : TagP × StP :=
  ((ba (wordP l st).1, ba (wordP l (mustP l 61 (wordP l st).2)).1), (wordP l (mustP l 61 (wordP l st).2)).2)
def tagsP (l : List UInt8) : Nat → StP → List TagP → List TagP × StP
  | 0, st, acc => (acc, st)
  | n + 1, st, acc => if folP l 44 st then tagsP l n (oneP l (st.1 + 1, none)).2 (acc ++ [(oneP l (st.1 + 1, none)).1]) else (acc, st)
def tagsR (l : List UInt8) (st : StP) (acc : List TagP) : List TagP × StP := tagsP l (l.length + 1 - st.1) st acc
theorem failP_at (st : StP) (p : Int) : (failP st p).1 = st.1 := by unfold failP; split <;> rfl
theorem wordP_le {l : List UInt8} {st : StP} (h : st.1 ≤ l.length) : st.1 ≤ (wordP l st).2.1 ∧ (wordP l st).2.1 ≤ l.length := by
  unfold wordP
  split
  · split
    · rename_i t n e
      have := (uneT_ok e).1
      simp at this ⊢
      omega
    · simp; exact h
  · exact ⟨Nat.le_refl _, h⟩
theorem fol_lt {l : List UInt8} {c : UInt8} {st : StP} (h : folP l c st = true) : st.2 = none ∧ st.1 < l.length ∧ l[st.1]? = some c := by
  unfold folP at h
  simp at h
  exact ⟨h.1, (List.getElem?_eq_some_iff.1 h.2).1, h.2⟩
theorem mustP_le {l : List UInt8} {c : UInt8} {st : StP} (h : st.1 ≤ l.length) : st.1 ≤ (mustP l c st).1 ∧ (mustP l c st).1 ≤ l.length := by
  unfold mustP
  split
  · rename_i e
    have := (fol_lt e).2.1
    simp; omega
  · rw [failP_at]; exact ⟨Nat.le_refl _, h⟩
theorem oneP_le {l : List UInt8} {st : StP} (h : st.1 ≤ l.length) : st.1 ≤ (oneP l st).2.1 ∧ (oneP l st).2.1 ≤ l.length := by
  have h1 := wordP_le h
  have h2 := mustP_le (c := 61) h1.2
  have h3 := wordP_le h2.2
  unfold oneP
  simp only
  omega
theorem tagsP_fuel (l : List UInt8) : ∀ (n m : Nat) (st : StP) (acc : List TagP), l.length - st.1 < n → l.length - st.1 < m → tagsP l n st acc = tagsP l m st acc
  | 0, m, st, acc, h, _ => by omega
  | n + 1, 0, st, acc, _, h => by omega
  | n + 1, m + 1, st, acc, h, h' => by
    rw [tagsP, tagsP]
    cases hf : folP l 44 st with
    | false => rfl
    | true =>
      simp only [if_true]
      have h1 := (fol_lt hf).2.1
      have h2 := oneP_le (l := l) (st := (st.1 + 1, none)) (by simp; omega)
      simp only at h2
      exact tagsP_fuel l n m _ _ (by omega) (by omega)
theorem tagsR_step {l : List UInt8} {st : StP} (acc : List TagP) (h : folP l 44 st = true) : tagsR l st acc = tagsR l (oneP l (st.1 + 1, none)).2 (acc ++ [(oneP l (st.1 + 1, none)).1]) := by
  have h1 := (fol_lt h).2.1
  have h2 := oneP_le (l := l) (st := (st.1 + 1, none)) (by simp; omega)
  simp only at h2
  unfold tagsR
  rw [show l.length + 1 - st.1 = (l.length - st.1) + 1 by omega, tagsP, if_pos h]
  exact tagsP_fuel l _ _ _ _ (by omega) (by omega)
theorem tagsR_end {l : List UInt8} {st : StP} (acc : List TagP) (h : folP l 44 st = false) (hl : st.1 ≤ l.length) : tagsR l st acc = (acc, st) := by
  unfold tagsR
  rw [show l.length + 1 - st.1 = (l.length - st.1) + 1 by omega, tagsP, h]
  rfl
def measP (l : List UInt8) : List UInt8 × StP := wordP l (0, none)
def tagsL (l : List UInt8) : List TagP × StP := tagsR l (measP l).2 []
def fieldP (l : List UInt8) : List UInt8 × StP := wordP l (mustP l 32 (tagsL l).2)
def stopP (l : List UInt8) : StP := endP l (fieldP l).2
/-- what is read of a key. -/
def serP (l : List UInt8) : SerP := ⟨ba (measP l).1, (tagsL l).1, ba (fieldP l).1⟩
end Go.Proofs.YtaknjkinagppoaaGreatDoor
