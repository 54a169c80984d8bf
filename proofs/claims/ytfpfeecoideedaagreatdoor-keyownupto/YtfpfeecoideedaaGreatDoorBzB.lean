
import Derived.Test.YtfpfeecoideedaaGreatDoorKyL
import Derived.Test.YtfpfeecoideedaaGreatDoorKyT
import Derived.Test.YtfpfeecoideedaaGreatDoorChainAhit
import Derived.Test.YtfpfeecoideedaaGreatDoorKyU
import Derived.Defers
import Derived.Test.YtfpfeecoideedaaGreatDoorKyV
import Derived.Test.YtfpfeecoideedaaGreatDoorKyS
import Derived.Test.YtfpfeecoideedaaGreatDoorKqA
import Derived.Test.YtfpfeecoideedaaGreatDoorKyG
import Derived.Test.YtfpfeecoideedaaGreatDoorKyN
import Derived.Test.YtfpfeecoideedaaGreatDoorKyM
namespace Go.Proofs.YtfpfeecoideedaaGreatDoor
open Go.RowKit Go.Shelf
set_option linter.unusedVariables false
set_option linter.unusedSimpArgs false
theorem unB_ok : ∀ (l : List UInt8) (e : Bool) (acc : List UInt8) (k : Nat) (t : List UInt8) (n : Nat), unB e acc k l = .ok t n →
    ∃ m u, n = k + m ∧ m ≤ l.length ∧ t = acc ++ u ∧ (if e then 92 :: l.take m else l.take m) = escL u
  | [], true, acc, k, t, n, h => by simp [unB] at h
  | [], false, acc, k, t, n, h => by
    simp [unB] at h
    obtain ⟨rfl, rfl⟩ := h
    exact ⟨0, [], by simp, by simp, by simp, by simp [escL]⟩
  | b :: r, true, acc, k, t, n, h => by
    rw [unB] at h
    by_cases hb : mkL.contains b = true
    · rw [if_pos hb] at h
      obtain ⟨m, u, h1, h2, h3, h4⟩ := unB_ok r false (acc ++ [b]) (k + 1) t n h
      refine ⟨m + 1, b :: u, by omega, by simp; omega, by rw [h3]; simp, ?_⟩
      simp only [Bool.false_eq_true, if_false] at h4
      simp only [if_true, List.take_succ_cons]
      rw [h4]
      unfold escL
      rw [List.flatMap_cons, if_pos hb]
      rfl
    · rw [if_neg hb] at h; cases h
  | b :: r, false, acc, k, t, n, h => by
    rw [unB] at h
    by_cases h92 : b = 92
    · rw [if_pos h92] at h
      obtain ⟨m, u, h1, h2, h3, h4⟩ := unB_ok r true acc (k + 1) t n h
      refine ⟨m + 1, u, by omega, by simp; omega, h3, ?_⟩
      simp only [if_true] at h4
      simp only [Bool.false_eq_true, if_false, List.take_succ_cons]
      rw [h92]; exact h4
    · rw [if_neg h92] at h
      by_cases hb : mkL.contains b = true
      · rw [if_pos hb] at h
        injection h with h1 h2
        subst h1 h2
        exact ⟨0, [], by simp, by simp, by simp, by simp [escL]⟩
      · rw [if_neg hb] at h
        obtain ⟨m, u, h1, h2, h3, h4⟩ := unB_ok r false (acc ++ [b]) (k + 1) t n h
        refine ⟨m + 1, b :: u, by omega, by simp; omega, by rw [h3]; simp, ?_⟩
        simp only [Bool.false_eq_true, if_false] at h4
        simp only [Bool.false_eq_true, if_false, List.take_succ_cons]
        rw [h4]
        unfold escL
        rw [List.flatMap_cons, if_neg hb]
        rfl
theorem unB_bad : ∀ (l : List UInt8) (e : Bool) (acc : List UInt8) (k : Nat) (p : Int), unB e acc k l = .bad p → (k : Int) - 1 ≤ p ∧ p ≤ k + l.length
  | [], true, acc, k, p, h => by simp [unB] at h; simp; omega
  | [], false, acc, k, p, h => by simp [unB] at h
  | b :: r, true, acc, k, p, h => by
    rw [unB] at h
    split at h
    · have := unB_bad r false _ _ p h; simp; omega
    · injection h with h; simp; omega
  | b :: r, false, acc, k, p, h => by
    rw [unB] at h
    split at h
    · have := unB_bad r true _ _ p h; simp; omega
    · split at h
      · cases h
      · have := unB_bad r false _ _ p h; simp; omega
theorem uneT_ok {l t : List UInt8} {n : Nat} (h : uneT l = .ok t n) : n ≤ l.length ∧ l.take n = escL t := by
  obtain ⟨m, u, h1, h2, h3, h4⟩ := unB_ok l false [] 0 t n h
  simp at h1 h3 h4
  subst h1 h3
  exact ⟨h2, h4⟩
theorem uneT_bad {l : List UInt8} {p : Int} (h : uneT l = .bad p) : -1 ≤ p ∧ p ≤ l.length := by
  have := unB_bad l false [] 0 p h
  simp at this
  omega
/-- where a reader stands: its place, and its fault's. -/
abbrev StP := Nat × Option Int
def failP (st : StP) (p : Int) : StP := if st.2 = none then (st.1, some p) else st
def wordP (l : List UInt8) (st : StP) : List UInt8 × StP :=
  if st.2 = none then
    match uneT (l.drop st.1) with
    | .ok t n => (t, (st.1 + n, none))
    | .bad p => ([], (st.1, some ((st.1 : Int) + p)))
  else ([], st)
def folP (l : List UInt8) (c : UInt8) (st : StP) : Bool := decide (st.2 = none) && decide (l[st.1]? = some c)
def mustP (l : List UInt8) (c : UInt8) (st : StP) : StP := if folP l c st then (st.1 + 1, none) else failP st st.1
def endP (l : List UInt8) (st : StP) : StP := if st.1 < l.length then failP st st.1 else st
def ba (t : List UInt8) : ByteArray := ⟨t.toArray⟩
/-- one tag, behind its comma. -/
def oneP (l : List UInt8) (st : StP) : TagP × StP :=
  ((ba (wordP l st).1, ba (wordP l (mustP l 61 (wordP l st).2)).1), (wordP l (mustP l 61 (wordP l st).2)).2)
def tagsP (l : List UInt8) : Nat → StP → List TagP → List TagP × StP
  | 0, st, acc => (acc, st)
  | n + 1, st, acc => if folP l 44 st then tagsP l n (oneP l (st.1 + 1, none)).2 (acc ++ [(oneP l (st.1 + 1, none)).1]) else (acc, st)
def tagsR (l : List UInt8) (st : StP) (acc : List TagP) : List TagP × StP := tagsP l (l.length + 1 - st.1) st acc
theorem failP_at (st : StP) (p : Int) : (failP st p).1 = st.1 := by unfold failP; split <;> rfl
theorem wordP_le {l : List UInt8} {st : StP} (h : st.1 ≤ l.length) : st.1 ≤ (wordP l st).2.1 ∧ (wordP l st).2.1 ≤ l.length := by
  unfold wordP
  split
  · split
    · rename_i t n e
      have := (uneT_ok e).1
      simp at this ⊢
      omega
    · simp; exact h
  · exact ⟨Nat.le_refl _, h⟩
theorem fol_lt {l : List UInt8} {c : UInt8} {st : StP} (h : folP l c st = true) : st.2 = none ∧ st.1 < l.length ∧ l[st.1]? = some c := by
  unfold folP at h
  simp at h
  exact ⟨h.1, (List.getElem?_eq_some_iff.1 h.2).1, h.2⟩
theorem mustP_le {l : List UInt8} {c : UInt8} {st : StP} (h : st.1 ≤ l.length) : st.1 ≤ (mustP l c st).1 ∧ (mustP l c st).1 ≤ l.length := by
  unfold mustP
  split
  · rename_i e
    have := (fol_lt e).2.1
    simp; omega
  · rw [failP_at]; exact ⟨Nat.le_refl _, h⟩
theorem oneP_le {l : List UInt8} {st : StP} (h : st.1 ≤ l.length) : st.1 ≤ (oneP l st).2.1 ∧ (oneP l st).2.1 ≤ l.length := by
  have h1 := wordP_le h
  have h2 := mustP_le (c := 61) h1.2
  have h3 := wordP_le h2.2
  unfold oneP
  simp only
  omega
theorem tagsP_fuel (l : List UInt8) : ∀ (n m : Nat) (st : StP) (acc : List TagP), l.length - st.1 < n → l.length - st.1 < m → tagsP l n st acc = tagsP l m st acc
  | 0, m, st, acc, h, _ => by omega
  | n + 1, 0, st, acc, _, h => by omega
  | n + 1, m + 1, st, acc, h, h' => by
    rw [tagsP, tagsP]
    cases hf : folP l 44 st with
    | false => rfl
    | true =>
      simp only [if_true]
      have h1 := (fol_lt hf).2.1
      have h2 := oneP_le (l := l) (st := (st.1 + 1, none)) (by simp; omega)
      simp only at h2
      exact tagsP_fuel l n m _ _ (by omega) (by omega)
theorem tagsR_step {l : List UInt8} {st : StP} (acc : List TagP) (h : folP l 44 st = true) : tagsR l st acc = tagsR l (oneP l (st.1 + 1, none)).2 (acc ++ [(oneP l (st.1 + 1, none)).1]) := by
  have h1 := (fol_lt h).2.1
  have h2 := oneP_le (l := l) (st := (st.1 + 1, none)) (by simp; omega)
  simp only at h2
  unfold tagsR
  rw [show l.length + 1 - st.1 = (l.length - st.1) + 1 by omega, tagsP, if_pos h]
  exact tagsP_fuel l _ _ _ _ (by omega) (by omega)
theorem tagsR_end {l : List UInt8} {st : StP} (acc : List TagP) (h : folP l 44 st = false) (hl : st.1 ≤ l.length) : tagsR l st acc = (acc, st) := by
  unfold tagsR
  rw [show l.length + 1 - st.1 = (l.length - st.1) + 1 by omega, tagsP, h]
  rfl
def measP (l : List UInt8) : List UInt8 × StP := wordP l (0, none)
def tagsL (l : List UInt8) : List TagP × StP := tagsR l (measP l).2 []
def fieldP (l : List UInt8) : List UInt8 × StP := wordP l (mustP l 32 (tagsL l).2)
def stopP (l : List UInt8) : StP := endP l (fieldP l).2
/-- what is read of a key. -/
def serP (l : List UInt8) : SerP := ⟨ba (measP l).1, (tagsL l).1, ba (fieldP l).1⟩
end Go.Proofs.YtfpfeecoideedaaGreatDoor

namespace Go.Proofs.YtfpfeecoideedaaGreatDoor
open Go.RowKit Go.Shelf
set_option linter.unusedVariables false
set_option linter.unusedSimpArgs false
theorem word_sign (p t r : List UInt8) (c : UInt8) (hb : mkL.contains c = true) (h92 : c ≠ 92) : wordP (p ++ (escL t ++ c :: r)) (p.length, none) = (t, (p.length + (escL t).length, none)) := by
  unfold wordP
  rw [if_pos rfl]
  simp only
  rw [List.drop_left, uneT_sign t r c hb h92]
theorem word_end (p t : List UInt8) : wordP (p ++ escL t) (p.length, none) = (t, (p.length + (escL t).length, none)) := by
  unfold wordP
  rw [if_pos rfl]
  simp only
  rw [List.drop_left, uneT_esc t]
theorem fol_here (p r : List UInt8) (c d : UInt8) : folP (p ++ c :: r) d (p.length, none) = decide (c = d) := by
  unfold folP
  simp
theorem must_here (p r : List UInt8) (c : UInt8) : mustP (p ++ c :: r) c (p.length, none) = (p.length + 1, none) := by
  unfold mustP
  rw [fol_here]
  simp
theorem ba_back (t : ByteArray) : ba t.data.toList = t := by unfold ba; simp
theorem one_here (p r : List UInt8) (c : UInt8) (t : TagP) (hb : mkL.contains c = true) (h92 : c ≠ 92) : oneP (p ++ (tagT t ++ c :: r)) (p.length + 1, none) = (t, ((p ++ tagT t).length, none)) := by
  have e1 : p ++ (tagT t ++ c :: r) = (p ++ [44]) ++ (escL t.1.data.toList ++ 61 :: (escL t.2.data.toList ++ c :: r)) := by simp [tagT]
  have w1 := word_sign (p ++ [44]) t.1.data.toList (escL t.2.data.toList ++ c :: r) 61 (by decide) (by decide)
  rw [← e1] at w1
  rw [show (p ++ [(44 : UInt8)]).length = p.length + 1 by simp] at w1
  have e2 : p ++ (tagT t ++ c :: r) = (p ++ 44 :: escL t.1.data.toList) ++ 61 :: (escL t.2.data.toList ++ c :: r) := by simp [tagT]
  have w2 := must_here (p ++ 44 :: escL t.1.data.toList) (escL t.2.data.toList ++ c :: r) 61
  rw [← e2] at w2
  rw [show (p ++ (44 : UInt8) :: escL t.1.data.toList).length = p.length + 1 + (escL t.1.data.toList).length by simp; omega] at w2
  have e3 : p ++ (tagT t ++ c :: r) = (p ++ (44 :: escL t.1.data.toList ++ [61])) ++ (escL t.2.data.toList ++ c :: r) := by simp [tagT]
  have w3 := word_sign (p ++ (44 :: escL t.1.data.toList ++ [61])) t.2.data.toList r c hb h92
  rw [← e3] at w3
  rw [show List.length (p ++ ((44 : UInt8) :: escL t.1.data.toList ++ [(61 : UInt8)])) = p.length + 1 + (escL t.1.data.toList).length + 1 by simp; omega] at w3
  unfold oneP
  rw [w1]
  simp only
  rw [w2, w3]
  simp only [ba_back]
  refine Prod.ext rfl (Prod.ext ?_ rfl)
  simp [tagT]; omega
theorem tags_here : ∀ (ts : List TagP) (p r : List UInt8) (acc : List TagP), tagsR (p ++ (ts.flatMap tagT ++ 32 :: r)) (p.length, none) acc = (acc ++ ts, ((p ++ ts.flatMap tagT).length, none))
  | [], p, r, acc => by
    rw [tagsR_end]
    · simp
    · show folP (p ++ 32 :: r) 44 (p.length, none) = false
      rw [fol_here]; decide
    · simp
  | t :: ts, p, r, acc => by
    have hc : ∃ c r', (ts.flatMap tagT ++ 32 :: r) = c :: r' ∧ mkL.contains c = true ∧ c ≠ 92 := by
      cases ts with
      | nil => exact ⟨32, r, rfl, by decide, by decide⟩
      | cons u us => exact ⟨44, _, rfl, by decide, by decide⟩
    obtain ⟨c, r', e, hb, h92⟩ := hc
    have e1 : p ++ ((t :: ts).flatMap tagT ++ 32 :: r) = p ++ (tagT t ++ c :: r') := by rw [List.flatMap_cons, List.append_assoc, e]
    have hf : folP (p ++ (tagT t ++ c :: r')) 44 (p.length, none) = true := by
      show folP (p ++ 44 :: _) 44 (p.length, none) = true
      rw [fol_here]; decide
    rw [e1, tagsR_step acc hf, one_here p r' c t hb h92]
    simp only
    rw [← e, ← List.append_assoc, tags_here ts (p ++ tagT t) r (acc ++ [t])]
    simp [List.append_assoc]
/-- a key that was printed is read. -/
theorem parse_print (s : SerP) : serP (printT s) = s ∧ (stopP (printT s)).2 = none := by
  have hc : ∃ c r', (s.t.flatMap tagT ++ 32 :: escL s.f.data.toList) = c :: r' ∧ mkL.contains c = true ∧ c ≠ 92 := by
    cases s.t with
    | nil => exact ⟨32, _, rfl, by decide, by decide⟩
    | cons u us => exact ⟨44, _, rfl, by decide, by decide⟩
  obtain ⟨c, r', e, hb, h92⟩ := hc
  have e0 : printT s = escL s.m.data.toList ++ (s.t.flatMap tagT ++ 32 :: escL s.f.data.toList) := by unfold printT; rw [List.append_assoc]
  have h1 : measP (printT s) = (s.m.data.toList, ((escL s.m.data.toList).length, none)) := by
    unfold measP
    rw [e0, e]
    have := word_sign [] s.m.data.toList r' c hb h92
    simpa using this
  have h2 : tagsL (printT s) = (s.t, ((escL s.m.data.toList ++ s.t.flatMap tagT).length, none)) := by
    unfold tagsL
    rw [h1]
    simp only
    rw [e0]
    exact tags_here s.t _ _ []
  have h3 : mustP (printT s) 32 (tagsL (printT s)).2 = ((escL s.m.data.toList ++ s.t.flatMap tagT).length + 1, none) := by
    rw [h2]
    exact must_here (escL s.m.data.toList ++ s.t.flatMap tagT) (escL s.f.data.toList) 32
  have h4 : fieldP (printT s) = (s.f.data.toList, ((printT s).length, none)) := by
    unfold fieldP
    rw [h3]
    have := word_end (escL s.m.data.toList ++ s.t.flatMap tagT ++ [32]) s.f.data.toList
    have e5 : escL s.m.data.toList ++ s.t.flatMap tagT ++ [32] ++ escL s.f.data.toList = printT s := by unfold printT; simp
    rw [e5] at this
    rw [show (escL s.m.data.toList ++ s.t.flatMap tagT ++ [(32 : UInt8)]).length = (escL s.m.data.toList ++ s.t.flatMap tagT).length + 1 by simp; omega] at this
    rw [this]
    refine Prod.ext rfl (Prod.ext ?_ rfl)
    unfold printT; simp; omega
  constructor
  · unfold serP
    rw [h1, h2, h4]
    simp only [ba_back]
  · unfold stopP endP
    rw [h4]
    simp
theorem word_stay {l : List UInt8} {st : StP} (h : st.2 ≠ none) : (wordP l st).2 = st := by unfold wordP; rw [if_neg h]
theorem fail_some (st : StP) (p : Int) : (failP st p).2 ≠ none := by
  unfold failP
  split
  · simp
  · assumption
theorem must_stay {l : List UInt8} {c : UInt8} {st : StP} (h : st.2 ≠ none) : (mustP l c st).2 ≠ none := by
  unfold mustP
  split
  · rename_i e; exact absurd (fol_lt e).1 h
  · exact fail_some _ _
theorem word_back {l : List UInt8} {st : StP} (h : (wordP l st).2.2 = none) : st.2 = none ∧ l.take (wordP l st).2.1 = l.take st.1 ++ escL (wordP l st).1 := by
  have h0 : st.2 = none := Decidable.byContradiction fun hn => by rw [word_stay hn] at h; exact hn h
  refine ⟨h0, ?_⟩
  unfold wordP at h ⊢
  rw [if_pos h0] at h ⊢
  cases e : uneT (l.drop st.1) with
  | ok t n =>
    simp only
    rw [← (uneT_ok e).2, List.take_add]
  | bad p => rw [e] at h; simp at h
theorem must_back {l : List UInt8} {c : UInt8} {st : StP} (h : (mustP l c st).2 = none) : st.2 = none ∧ l.take (mustP l c st).1 = l.take st.1 ++ [c] := by
  have h0 : st.2 = none := Decidable.byContradiction fun hn => must_stay hn h
  refine ⟨h0, ?_⟩
  unfold mustP at h ⊢
  split
  · rename_i e
    obtain ⟨_, h1, h2⟩ := fol_lt e
    simp only
    rw [List.take_add_one, h2]
    rfl
  · rename_i e
    rw [if_neg e] at h
    exact absurd h (fail_some _ _)
theorem ba_data (t : List UInt8) : (ba t).data.toList = t := by unfold ba; simp
theorem one_back {l x : List UInt8} {st : StP} (h : (oneP l st).2.2 = none) (hc : l.take st.1 = x ++ [44]) : l.take (oneP l st).2.1 = x ++ tagT (oneP l st).1 := by
  unfold oneP at h ⊢
  simp only at h ⊢
  obtain ⟨h1, h2⟩ := word_back h
  obtain ⟨h3, h4⟩ := must_back h1
  obtain ⟨h5, h6⟩ := word_back h3
  rw [h2, h4, h6, hc]
  unfold tagT
  simp only [ba_data]
  simp
theorem tags_back (l : List UInt8) : ∀ (n : Nat) (st : StP) (acc : List TagP) (x : List UInt8), l.length - st.1 < n → st.1 ≤ l.length → l.take st.1 = x ++ acc.flatMap tagT ∨ st.2 ≠ none → (tagsR l st acc).2.2 = none → l.take (tagsR l st acc).2.1 = x ++ (tagsR l st acc).1.flatMap tagT
  | 0, st, acc, x, h, _, _, _ => by omega
  | n + 1, st, acc, x, h, hl, hx, hn => by
    cases hf : folP l 44 st with
    | false =>
      rw [tagsR_end acc hf hl] at hn ⊢
      rcases hx with hx | hx
      · exact hx
      · exact absurd hn hx
    | true =>
      obtain ⟨g1, g2, g3⟩ := fol_lt hf
      have h2 := oneP_le (l := l) (st := (st.1 + 1, none)) (by simp; omega)
      simp only at h2
      rw [tagsR_step acc hf] at hn ⊢
      refine tags_back l n _ _ x (by omega) h2.2 ?_ hn
      by_cases hq : (oneP l (st.1 + 1, none)).2.2 = none
      · left
        rcases hx with hx | hx
        · rw [one_back (x := l.take st.1) hq (by simp only; rw [List.take_add_one, g3]; rfl), hx]
          simp
        · exact absurd g1 hx
      · exact Or.inr hq
theorem end_back {l : List UInt8} {st : StP} (h : (endP l st).2 = none) (hl : st.1 ≤ l.length) : st.2 = none ∧ st.1 = l.length := by
  unfold endP at h
  split at h
  · exact absurd h (fail_some _ _)
  · exact ⟨h, by omega⟩
theorem measP_le (l : List UInt8) : (measP l).2.1 ≤ l.length := (wordP_le (l := l) (st := (0, none)) (by simp)).2
theorem tagsR_le (l : List UInt8) : ∀ (n : Nat) (st : StP) (acc : List TagP), l.length - st.1 < n → st.1 ≤ l.length → (tagsR l st acc).2.1 ≤ l.length
  | 0, st, acc, h, _ => by omega
  | n + 1, st, acc, h, hl => by
    cases hf : folP l 44 st with
    | false => rw [tagsR_end acc hf hl]; exact hl
    | true =>
      have g2 := (fol_lt hf).2.1
      have h2 := oneP_le (l := l) (st := (st.1 + 1, none)) (by simp; omega)
      simp only at h2
      rw [tagsR_step acc hf]
      exact tagsR_le l n _ _ (by omega) h2.2
theorem tagsL_le (l : List UInt8) : (tagsL l).2.1 ≤ l.length := tagsR_le l _ _ _ (Nat.lt_succ_self _) (measP_le l)
theorem fieldP_le (l : List UInt8) : (fieldP l).2.1 ≤ l.length := (wordP_le (mustP_le (tagsL_le l)).2).2
/-- what is read is printed so. -/
theorem print_parse (l : List UInt8) (h : (stopP l).2 = none) : printT (serP l) = l := by
  obtain ⟨h1, h2⟩ := end_back h (fieldP_le l)
  obtain ⟨h3, h4⟩ := word_back (l := l) (st := mustP l 32 (tagsL l).2) h1
  obtain ⟨h5, h6⟩ := must_back h3
  have h7 := tags_back l _ (measP l).2 [] (escL (measP l).1) (Nat.lt_succ_self _) (measP_le l) (by
    by_cases hq : (measP l).2.2 = none
    · left
      obtain ⟨k1, k2⟩ := word_back (l := l) (st := (0, none)) hq
      have : l.take (measP l).2.1 = l.take 0 ++ escL (measP l).1 := k2
      rw [this]; simp
    · exact Or.inr hq) h5
  have h8 : l.take (fieldP l).2.1 = l := by rw [h2, List.take_length]
  have h9 : l.take (fieldP l).2.1 = l.take (mustP l 32 (tagsL l).2).1 ++ escL (fieldP l).1 := h4
  have h10 : l.take (tagsL l).2.1 = escL (measP l).1 ++ (tagsL l).1.flatMap tagT := h7
  rw [h8, h6, h10] at h9
  unfold printT serP
  simp only [ba_data]
  refine Eq.trans ?_ h9.symm
  simp
end Go.Proofs.YtfpfeecoideedaaGreatDoor

namespace Go.Proofs.YtfpfeecoideedaaGreatDoor
open Go.RowKit
set_option linter.unusedVariables false
set_option linter.unusedSimpArgs false
theorem errV_iface (l : List (Bool × Int)) (c : Int) : ∃ t v, errV l c = .iface t v := by
  rcases l with _ | ⟨⟨_ | _, n⟩, l⟩
  · exact ⟨_, _, rfl⟩
  · exact ⟨_, _, rfl⟩
  · exact ⟨_, _, rfl⟩
theorem find_deferA (w : World) : CallsD Tryz.prog 119 #[] .returning w fun e u' w' => e = .returned (.tuple #[]) ∧ u' = .returning ∧ w' = w := by
  refine callsD_of_wpS Tryz.func119 rfl fun c₀ cs hu => ?_
  apply wpS_region
  simp [wpOpsS, go_sem, recoverD, hu, Tryz.ntmps119, Exit.thenS]
  cases c₀
  simp_all [bodyPostS, results, Tryz.results119]
theorem find_A_hit (l : List (Bool × Int)) (c n : Int) (r : List (Bool × Int)) (hf : findK false l = some (n, r)) (w : World) (hg : ET w) : Calls Tryz.prog 97 #[errV l c] w fun e w' => e = .returned (.tuple #[.agg #[.int .i64 n, errV r c], .bool true]) ∧ Below w.heap.size w w' := by
  have hfH : Hid _ := hf
  clear hf
  obtain ⟨W, hW⟩ : ∃ W, W = (w.alloc (.cells #[.int .i64 0, .nilIface] 94)).alloc (.cells #[.int .i64 0, .nilIface] 94) := ⟨_, rfl⟩
  have hB0 : Below w.heap.size w W := by rw [hW]; exact below_new (below_new (Below.refl _ _) _) _
  have hz : W.heap.size = w.heap.size + 1 + 1 := by rw [hW]; simp
  have a0 : W.cell? ⟨w.heap.size, 0, none⟩ = some (.int .i64 0) := by rw [hW]; simp [go_sem]
  have a1 : W.cell? ⟨w.heap.size, 1, none⟩ = some .nilIface := by rw [hW]; simp [go_sem]
  have f0 : W.frozen? ⟨w.heap.size, 0, none⟩ = false := by rw [hW]; simp [go_sem]
  have f1 : W.frozen? ⟨w.heap.size, 1, none⟩ = false := by rw [hW]; simp [go_sem]
  have k0 : W.cell? ⟨w.heap.size + 1, 0, none⟩ = some (.int .i64 0) := by rw [hW]; simp [go_sem]
  have k1 : W.cell? ⟨w.heap.size + 1, 0 + 1, none⟩ = some .nilIface := by rw [hW]; simp [go_sem]
  have j0 : W.frozen? ⟨w.heap.size + 1, 0, none⟩ = false := by rw [hW]; simp [go_sem]
  have j1 : W.frozen? ⟨w.heap.size + 1, 0 + 1, none⟩ = false := by rw [hW]; simp [go_sem]
  have gW := ET_below hg hB0
  have hWH : Hid _ := hW
  have hR := chain_A_hit l c n r hfH.out (w.heap.size + 1) 0 _ _ W gW k0 k1 j0 j1
  obtain ⟨tt, pp, hV⟩ := errV_iface r c
  rw [hV] at hR ⊢
  have hRH : Hid _ := hR
  have hk : Hid (W.cell? ⟨w.heap.size + 1, 0, none⟩ = some (.int .i64 0) ∧ W.cell? ⟨w.heap.size + 1, 1, none⟩ = some .nilIface) := ⟨k0, k1⟩
  clear hW hR hV k0 k1 j0 j1
  go_enter_defers Tryz.func97, Tryz.ntmps97
  go_wp2_with fail
  rw [← hWH.out]
  refine Calls.mono hRH.out ?_
  rintro ev v1 ⟨rfl, w1, hB1, hw1⟩
  have z1 := hB1.size
  have n01 : ∀ i j, (⟨w.heap.size + 1, i, none⟩ : Addr) ≠ ⟨w.heap.size, j, none⟩ := fun i j e => by injection e with e1; omega
  have ot : ∀ j x y, ((w1.setCell ⟨w.heap.size + 1, 0, none⟩ x).setCell ⟨w.heap.size + 1, 0 + 1, none⟩ y).cell? ⟨w.heap.size, j, none⟩ = w1.cell? ⟨w.heap.size, j, none⟩ := fun j x y => by
    rw [World.cell?_setCell_other _ _ _ _ (n01 _ _), World.cell?_setCell_other _ _ _ _ (n01 _ _)]
  have b0 : v1.cell? ⟨w.heap.size, 0, none⟩ = some (.int .i64 0) := by rw [hw1, ot, hB1.cell (by simp; omega)]; exact a0
  have b1 : v1.cell? ⟨w.heap.size, 1, none⟩ = some .nilIface := by rw [hw1, ot, hB1.cell (by simp; omega)]; exact a1
  have g0 : v1.frozen? ⟨w.heap.size, 0, none⟩ = false := by rw [hw1]; simp; rw [hB1.frozen (by simp; omega)]; exact f0
  have g1 : v1.frozen? ⟨w.heap.size, 1, none⟩ = false := by rw [hw1]; simp; rw [hB1.frozen (by simp; omega)]; exact f1
  have m0 : v1.cell? ⟨w.heap.size + 1, 0, none⟩ = some (.int .i64 n) := by
    rw [hw1, World.cell?_setCell_other _ _ _ _ (by simp)]
    exact World.cell?_setCell_same _ _ _ (u := .int .i64 0) (by rw [hB1.cell (by simp; omega)]; exact hk.out.1)
  have m1 : v1.cell? ⟨w.heap.size + 1, 1, none⟩ = some (.iface tt pp) := by
    rw [hw1]
    exact World.cell?_setCell_same _ _ _ (u := .nilIface) (by rw [World.cell?_setCell_other _ _ _ _ (by simp), hB1.cell (by simp; omega)]; exact hk.out.2)
  have P1 : Below w.heap.size w v1 := by
    rw [hw1]
    exact ((below_then hB0 hB1).setCell (p := ⟨w.heap.size + 1, 0, none⟩) (Nat.le_succ _) _).setCell (p := ⟨w.heap.size + 1, 0 + 1, none⟩) (Nat.le_succ _) _
  have zv : w.heap.size + 1 < v1.heap.size := by rw [hw1]; simp; omega
  clear a0 a1 f0 f1 hB1 hw1 ot hk hRH
  go_wp2
  refine leaves_cons (f := 119) (args := #[]) (by simp) (by simp [go_sem]) ?_
  refine (find_deferA _).mono ?_
  rintro e u' w'' ⟨rfl, rfl, rfl⟩
  simp [Leaves, settle, results, Tryz.results97, go_sem, b0, b1]
  exact (P1.setCell (p := ⟨w.heap.size, 0, none⟩) (Nat.le_refl _) _).setCell (p := ⟨w.heap.size, 1, none⟩) (Nat.le_refl _) _
theorem place_at (p : Int) (w : World) (hg : ET w) : Calls Tryz.prog 72 #[atV p] w fun e w' => e = .returned (.tuple #[.int .i64 p, .bool true]) ∧ Below w.heap.size w w' := by
  have h : ∀ W, ET W → Calls Tryz.prog 97 #[atV p] W fun e w' => e = .returned (.tuple #[.agg #[.int .i64 p, errV [] 53], .bool true]) ∧ Below W.heap.size W w' := fun W hW => find_A_hit [(false, p)] 53 p [] rfl W hW
  obtain ⟨tt, pp, hV⟩ := errV_iface [] 53
  rw [hV] at h
  have hH : Hid _ := h
  clear h hV
  go_enter Tryz.func72, Tryz.ntmps72
  go_wp2_with fail
  refine (hH.out _ hg).mono ?_
  rintro e w1 ⟨rfl, hb1⟩
  go_wp2
  go_ret2
  exact ⟨rfl, below_new hb1 _⟩

end Go.Proofs.YtfpfeecoideedaaGreatDoor

namespace Go.Proofs.YtfpfeecoideedaaGreatDoor
open Go.RowKit Go.Shelf
attribute [local go_sem] Oper.semAt_some
set_option linter.unusedVariables false
set_option linter.unusedSimpArgs false
def fV : Option Int → Value
  | none => .nilIface
  | some p => atV p
/-- a reader in memory. -/
def RdA (N : Nat) (s : ByteArray) (st : StP) (W : World) : Prop := N < W.heap.size ∧ W.cell? ⟨N, 0, none⟩ = some (.string s) ∧ W.cell? ⟨N, 1, none⟩ = some (.int .i64 (st.1 : Int)) ∧ W.cell? ⟨N, 2, none⟩ = some (fV st.2) ∧ W.frozen? ⟨N, 1, none⟩ = false ∧ W.frozen? ⟨N, 2, none⟩ = false
theorem RdA.below {N B : Nat} {s : ByteArray} {st : StP} {W W' : World} (h : RdA N s st W) (hb : Below B W W') (hN : N < B) : RdA N s st W' := by
  obtain ⟨h0, h1, h2, h3, h4, h5⟩ := h
  exact ⟨Nat.lt_of_lt_of_le h0 hb.size, by rw [hb.cell (p := ⟨N, 0, none⟩) hN]; exact h1, by rw [hb.cell (p := ⟨N, 1, none⟩) hN]; exact h2, by rw [hb.cell (p := ⟨N, 2, none⟩) hN]; exact h3, by rw [hb.frozen (p := ⟨N, 1, none⟩) hN]; exact h4, by rw [hb.frozen (p := ⟨N, 2, none⟩) hN]; exact h5⟩
theorem RdA.set1 {N : Nat} {s : ByteArray} {st : StP} {W : World} (h : RdA N s st W) (k : Nat) : RdA N s (k, st.2) (W.setCell ⟨N, 1, none⟩ (.int .i64 (k : Int))) := by
  obtain ⟨h0, h1, h2, h3, h4, h5⟩ := h
  exact ⟨by simpa using h0, by simp [go_sem, h1], World.cell?_setCell_same _ _ _ h2, by simp [go_sem, h3], by simp [go_sem, h4], by simp [go_sem, h5]⟩
theorem RdA.set2 {N : Nat} {s : ByteArray} {st : StP} {W : World} (h : RdA N s st W) (p : Int) : RdA N s (st.1, some p) (W.setCell ⟨N, 2, none⟩ (atV p)) := by
  obtain ⟨h0, h1, h2, h3, h4, h5⟩ := h
  exact ⟨by simpa using h0, by simp [go_sem, h1], by simp [go_sem, h2], World.cell?_setCell_same _ _ _ h3, by simp [go_sem, h4], by simp [go_sem, h5]⟩
theorem grown_refl (w : World) (r : Option Nat) : w.grownBy w r := ⟨rfl, rfl, rfl, Nat.le_refl _, fun _ _ _ => rfl⟩
theorem grown_trans {w1 w2 w3 : World} {N : Nat} (h : w1.grownBy w2 (some N)) (k : w2.grownBy w3 (some N)) : w1.grownBy w3 (some N) :=
  ⟨k.os.trans h.os, k.tape.trans h.tape, k.output.trans h.output, Nat.le_trans h.size k.size, fun j hj hne => (k.block j (Nat.lt_of_lt_of_le hj h.size) hne).trans (h.block j hj hne)⟩
theorem grown_set (w : World) (N i : Nat) (v : Value) : w.grownBy (w.setCell ⟨N, i, none⟩ v) (some N) :=
  ⟨rfl, rfl, rfl, by simp, fun j hj hne => Below.heap_setCell _ _ _ _ (fun e => hne (by rw [e]))⟩
theorem grown_of_below {w w' : World} (N : Nat) (h : Below w.heap.size w w') : w.grownBy w' (some N) := ⟨h.os, h.tape, h.output, h.size, fun j hj _ => h.block j hj⟩
theorem w64_nat (k : Nat) (h : k ≤ 4000000) : wrap64 (k : Int) = (k : Int) := IntWalk.wrap64_in (k : Int) ⟨by omega, by omega⟩
theorem i64_nat (k : Nat) (h : k ≤ 4000000) : IntKind.i64.wrap (k : Int) = (k : Int) := IntWalk.i64_in (k : Int) ⟨by omega, by omega⟩
def atY (p : Int) : Value := .agg #[.int .i64 p, .iface 29 (.int .i64 53)]
theorem atV_eq (p : Int) : atV p = .iface 94 (atY p) := rfl
set_option maxRecDepth 100000 in
theorem fail_k (N : Nat) (s : ByteArray) (st : StP) (p : Int) (W : World) (h : RdA N s st W) : Calls Tryz.prog 73 #[.pointer (some ⟨N, 0, none⟩), .int .i64 p] W fun e w' => e = .returned undef ∧ RdA N s (failP st p) w' ∧ W.grownBy w' (some N) := by
  obtain ⟨at_, fl⟩ := st
  have hh : Hid (RdA N s (at_, fl) W) := h
  obtain ⟨h0, h1, h2, h3, h4, h5⟩ := h
  have ca : Hid (Calls Tryz.prog 96 #[.int .i64 p, .int .i64 53] W fun e w' => e = .returned (.iface 94 (atY p)) ∧ Below W.heap.size W w') := at_any p W
  cases fl with
  | none =>
    simp only [fV] at h3
    have hfin : Hid (∀ w1, Below W.heap.size W w1 → RdA N s (failP (at_, none) p) (w1.setCell ⟨N, 2, none⟩ (.iface 94 (atY p))) ∧ W.grownBy (w1.setCell ⟨N, 2, none⟩ (.iface 94 (atY p))) (some N)) := fun w1 hb => ⟨(hh.out.below hb h0).set2 p, grown_trans (grown_of_below N hb) (grown_set w1 N 2 _)⟩
    go_enter Tryz.func73, Tryz.ntmps73
    go_wp2_with (go_at_call 96; with_reducible refine Calls.mono ca.out ?_; rintro e w1 ⟨rfl, hb⟩; have k3 : w1.cell? ⟨N, 2, none⟩ = some .nilIface := (by rw [hb.cell (p := ⟨N, 2, none⟩) h0]; exact h3); have k5 : w1.frozen? ⟨N, 2, none⟩ = false := (by rw [hb.frozen (p := ⟨N, 2, none⟩) h0]; exact h5))
    first | go_end0 | (simp only [Exit.inBlock, Exit.then]; refine bodyPost_ret (results_none rfl _ _ _) rfl ?_) | refine bodyPost_ret (results_none rfl _ _ _) rfl ?_
    exact ⟨rfl, hfin.out w1 hb⟩
  | some q =>
    simp only [fV, atV] at h3
    go_enter Tryz.func73, Tryz.ntmps73
    go_wp2_with fail
    first | go_end0 | (simp only [Exit.inBlock, Exit.then]; refine bodyPost_ret (results_none rfl _ _ _) rfl ?_) | refine bodyPost_ret (results_none rfl _ _ _) rfl ?_
    exact ⟨rfl, hh.out, grown_refl _ _⟩
theorem ex_list (s : ByteArray) (k : Nat) : (s.extract k s.size).data.toList = s.data.toList.drop k := Lib.extract_to_end s k
set_option maxRecDepth 100000 in
set_option maxHeartbeats 4000000 in
theorem word_k (N : Nat) (s : ByteArray) (st : StP) (W : World) (h : RdA N s st W) (hg : ET W) (hs : s.size ≤ 4000000) (hst : st.1 ≤ s.data.toList.length) : Calls Tryz.prog 19 #[.pointer (some ⟨N, 0, none⟩)] W fun e w' => e = .returned (.string (ba (wordP s.data.toList st).1)) ∧ RdA N s (wordP s.data.toList st).2 w' ∧ W.grownBy w' (some N) := by
  obtain ⟨k, fl⟩ := st
  have hlen : s.data.toList.length = s.size := (Lib.size_eq s).symm
  simp only at hst
  rw [hlen] at hst
  have hh : Hid (RdA N s (k, fl) W) := h
  obtain ⟨h0, h1, h2, h3, h4, h5⟩ := h
  cases fl with
  | some q =>
    simp only [fV, atV] at h3
    go_enter Tryz.func19, Tryz.ntmps19
    go_wp2_with fail
    go_ret
    exact ⟨rfl, hh.out, grown_refl _ _⟩
  | none =>
    simp only [fV] at h3
    have hz : (s.extract k s.size).size ≤ s.size := by rw [Lib.size_eq, ex_list, List.length_drop, hlen]; omega
    have cU : ∀ W', Calls Tryz.prog 71 #[.string (s.extract k s.size)] W' fun e w' => e = .returned (outV (uneT (s.data.toList.drop k))) ∧ Below W'.heap.size W' w' := fun W' => by
      have := unescape_any (s.extract k s.size) W' (by omega) (fun a b => mk_extract _ (by omega) a b)
      rw [ex_list] at this
      exact this
    have hk1 : (k : Int) ≤ (s.size : Int) := by omega
    have S0 : Hid (W.cell? ⟨N, 0, none⟩ = some (.string s) ∧ W.cell? ⟨N, 1, none⟩ = some (.int .i64 (k : Int))) := ⟨h1, h2⟩
    have S0d : W.drew.cell? ⟨N, 0, none⟩ = some (.string s) ∧ W.drew.cell? ⟨N, 1, none⟩ = some (.int .i64 (k : Int)) := ⟨h1, h2⟩
    have hKp : Hid (∀ w1, Below W.heap.size W w1 → w1.cell? ⟨N, 0, none⟩ = some (.string s) ∧ w1.cell? ⟨N, 1, none⟩ = some (.int .i64 (k : Int))) := fun w1 hb => ⟨by rw [hb.cell (p := ⟨N, 0, none⟩) h0]; exact h1, by rw [hb.cell (p := ⟨N, 1, none⟩) h0]; exact h2⟩
    cases hu : uneT (s.data.toList.drop k) with
    | ok t n =>
      have hn : k + n ≤ s.size := by
        have h9 := (uneT_ok hu).1
        rw [List.length_drop] at h9
        rw [← hlen]
        omega
      have hnI : (k : Int) + (n : Int) ≤ 4000000 := by omega
      have hn0 : (0 : Int) ≤ (k : Int) + (n : Int) := by omega
      have hw : wordP s.data.toList (k, none) = (t, (k + n, none)) := by unfold wordP; rw [if_pos rfl]; simp only; rw [hu]
      rw [hw]
      rw [hu] at cU
      simp only [outV] at cU
      have hfin : Hid (∀ w1, Below W.heap.size W w1 → RdA N s (k + n, none) (w1.setCell ⟨N, 1, none⟩ (.int .i64 ((k : Int) + (n : Int)))) ∧ W.grownBy (w1.setCell ⟨N, 1, none⟩ (.int .i64 ((k : Int) + (n : Int)))) (some N)) := fun w1 hb => ⟨(hh.out.below hb h0).set1 (k + n), grown_trans (grown_of_below N hb) (grown_set w1 N 1 _)⟩
      have hfr : Hid (∀ w1, Below W.heap.size W w1 → w1.frozen? ⟨N, 1, none⟩ = false) := fun w1 hb => by rw [hb.frozen (p := ⟨N, 1, none⟩) h0]; exact h4
      have cUH : Hid (Calls Tryz.prog 71 #[.string (s.extract k s.size)] W.drew fun e w' => e = .returned (.tuple #[.string ⟨t.toArray⟩, .int .i64 (n : Int), .nilIface]) ∧ Below W.heap.size W w') := (cU W.drew).mono fun e w' hx => ⟨hx.1, (Below.refl _ W).drew.trans hx.2⟩
      have wk : wrap64 ((k : Int) + (n : Int)) = (k : Int) + (n : Int) := IntWalk.wrap64_in _ (by omega)
      have wi : IntKind.i64.wrap ((k : Int) + (n : Int)) = (k : Int) + (n : Int) := IntWalk.i64_in _ (by omega)
      clear cU hw hu
      go_enter Tryz.func19, Tryz.ntmps19
      go_wp2_with fail
      go_region_held3 (fun W' => W'.cell? ⟨N, 0, none⟩ = some (.string s) ∧ W'.cell? ⟨N, 1, none⟩ = some (.int .i64 (k : Int))) (first | assumption)
        (first
          | (go_at_call 71; (with_reducible refine Calls.mono cUH.out ?_); rintro e w1 ⟨rfl, BB⟩; have SS := hKp.out w1 BB))
      all_goals
        have q1 := (hKp.out w1 BB).2
        have q2 := hfr.out w1 BB
        go_wp2_with fail
        go_ret
        exact ⟨rfl, hfin.out w1 BB⟩
    | bad p =>
      have hp := uneT_bad hu
      rw [List.length_drop] at hp
      have hp1 : -1 ≤ p ∧ p ≤ 4000000 := by omega
      have hk4 : k ≤ 4000000 := by omega
      have hkp : -9223372036854775808 ≤ (k : Int) + p ∧ (k : Int) + p ≤ 9223372036854775807 := by omega
      have hw : wordP s.data.toList (k, none) = ([], (k, some ((k : Int) + p))) := by unfold wordP; rw [if_pos rfl]; simp only; rw [hu]
      rw [hw]
      rw [hu] at cU
      simp only [outV, atV_eq] at cU
      obtain ⟨Y, hY⟩ : ∃ Y, Y = atY p := ⟨_, rfl⟩
      have cP : Hid (∀ W', ET W' → Calls Tryz.prog 72 #[.iface 94 Y] W' fun e w' => e = .returned (.tuple #[.int .i64 p, .bool true]) ∧ Below W'.heap.size W' w') := fun W' hW => by rw [hY]; exact place_at p W' hW
      have wk : wrap64 ((k : Int) + p) = (k : Int) + p := IntWalk.wrap64_in _ hkp
      have wi : IntKind.i64.wrap ((k : Int) + p) = (k : Int) + p := IntWalk.i64_in _ hkp
      have wk0 : wrap64 (k : Int) = (k : Int) := w64_nat k hk4
      have wi0 : IntKind.i64.wrap (k : Int) = (k : Int) := i64_nat k hk4
      have cF : Hid (∀ W', Below W.heap.size W W' → Calls Tryz.prog 73 #[.pointer (some ⟨N, 0, none⟩), .int .i64 ((k : Int) + p)] W' fun e w' => e = .returned undef ∧ RdA N s (k, some ((k : Int) + p)) w' ∧ W.grownBy w' (some N)) := fun W' hb => (fail_k N s (k, none) ((k : Int) + p) W' (hh.out.below hb h0)).mono fun e w' hx => ⟨hx.1, hx.2.1, grown_trans (grown_of_below N hb) hx.2.2⟩
      have hfin : Hid (∀ w3, RdA N s (k, some ((k : Int) + p)) w3 → W.grownBy w3 (some N) → RdA N s (k, some ((k : Int) + p)) (w3.setCell ⟨N, 1, none⟩ (.int .i64 (k : Int))) ∧ W.grownBy (w3.setCell ⟨N, 1, none⟩ (.int .i64 (k : Int))) (some N)) := fun w3 hx hy => ⟨hx.set1 k, grown_trans hy (grown_set w3 N 1 _)⟩
      have hc3 : Hid (∀ w3, RdA N s (k, some ((k : Int) + p)) w3 → w3.cell? ⟨N, 1, none⟩ = some (.int .i64 (k : Int)) ∧ w3.frozen? ⟨N, 1, none⟩ = false) := fun w3 hx => ⟨hx.2.2.1, hx.2.2.2.2.1⟩
      have cUH : Hid (Calls Tryz.prog 71 #[.string (s.extract k s.size)] W.drew fun e w' => e = .returned (.tuple #[.string ⟨#[]⟩, .int .i64 0, .iface 94 Y]) ∧ Below W.heap.size W w') := by rw [hY]; exact (cU W.drew).mono fun e w' hx => ⟨hx.1, (Below.refl _ W).drew.trans hx.2⟩
      have hgH : Hid (∀ w1, Below W.heap.size W w1 → ET w1) := fun w1 hb => ET_below hg hb
      clear cU hw hu hY hp hp1 hkp hk4
      go_enter Tryz.func19, Tryz.ntmps19
      go_wp2_with fail
      go_region_held3 (fun W' => W'.cell? ⟨N, 0, none⟩ = some (.string s) ∧ W'.cell? ⟨N, 1, none⟩ = some (.int .i64 (k : Int))) (first | assumption)
        (first
          | (go_at_call 71; (with_reducible refine Calls.mono cUH.out ?_); rintro e w1 ⟨rfl, BB⟩; have SS := hKp.out w1 BB))
      all_goals
        go_wp2_with (go_at_call 72; with_reducible refine Calls.mono (cP.out _ (hgH.out _ BB)) ?_; rintro e w2 ⟨rfl, B2⟩; have B3 := BB.trans (B2.mono BB.size); have q1 := (hKp.out w2 B3).2)
        go_wp2_with fail
        refine Calls.mono (cF.out _ B3) ?_
        rintro e w3 ⟨rfl, R3, G3⟩
        obtain ⟨r1, r2⟩ := hc3.out w3 R3
        go_wp2_with fail
        go_ret
        exact ⟨rfl, hfin.out w3 R3 G3⟩
end Go.Proofs.YtfpfeecoideedaaGreatDoor

namespace Go.Proofs.YtfpfeecoideedaaGreatDoor
open Go.RowKit Go.Shelf
attribute [local go_sem] Oper.semAt_some
set_option linter.unusedVariables false
set_option linter.unusedSimpArgs false
theorem pre_one (l : List UInt8) (k : Nat) (c : UInt8) : Lib.hasPrefix (l.drop k) [c] = decide (l[k]? = some c) := by
  unfold Lib.hasPrefix
  rw [show l[k]? = (l.drop k)[0]? by simp]
  cases l.drop k with
  | nil => simp
  | cons a r =>
    have e : List.isPrefixOf [c] (a :: r) = (c == a) := by simp [List.isPrefixOf]
    rw [e]
    by_cases h : c = a
    · subst h; simp
    · have h' : ¬ a = c := fun e => h e.symm
      simp [h, h']
/-- what follows leaves. -/
def nextP (l : List UInt8) (c : UInt8) (st : StP) : StP := if folP l c st then (st.1 + 1, none) else st
set_option maxRecDepth 100000 in
set_option maxHeartbeats 4000000 in
theorem follows_k (N : Nat) (s : ByteArray) (c : UInt8) (st : StP) (W : World) (h : RdA N s st W) (hs : s.size ≤ 4000000) (hst : st.1 ≤ s.data.toList.length) : Calls Tryz.prog 20 #[.pointer (some ⟨N, 0, none⟩), .string ⟨#[c]⟩] W fun e w' => e = .returned (.bool (folP s.data.toList c st)) ∧ RdA N s (nextP s.data.toList c st) w' ∧ W.grownBy w' (some N) := by
  obtain ⟨k, fl⟩ := st
  have hlen : s.data.toList.length = s.size := (Lib.size_eq s).symm
  simp only at hst
  rw [hlen] at hst
  have hh : Hid (RdA N s (k, fl) W) := h
  obtain ⟨h0, h1, h2, h3, h4, h5⟩ := h
  have hgd : Hid (∀ q, W.grownBy (W.drewN q) (some N)) := fun q => grown_of_below N (bdrewN (Below.refl _ W) q)
  have hhd : Hid (∀ q, RdA N s (k, fl) (W.drewN q)) := fun q => hh.out.below (bdrewN (Below.refl _ W) q) h0
  cases fl with
  | some q =>
    have e1 : folP s.data.toList c (k, some q) = false := by unfold folP; simp
    have e2 : nextP s.data.toList c (k, some q) = (k, some q) := by unfold nextP; rw [e1]; rfl
    rw [e1, e2]
    simp only [fV, atV] at h3
    go_enter Tryz.func20, Tryz.ntmps20
    go_wp2_with fail
    go_quiet (fail)
    go_wp2_with fail
    go_ret
    exact ⟨rfl, hhd.out _, hgd.out _⟩
  | none =>
    simp only [fV] at h3
    have hz : (s.extract k s.size).size ≤ s.size := by rw [Lib.size_eq, ex_list, List.length_drop, hlen]; omega
    have hk1 : (k : Int) ≤ (s.size : Int) := by omega
    have hkb : -9223372036854775808 ≤ (k : Int) + 1 ∧ (k : Int) + 1 ≤ 9223372036854775807 := by omega
    have cH : Hid (∀ W', Calls Tryz.prog 74 #[.string (s.extract k s.size), .string ⟨#[c]⟩] W' fun e w' => e = .returned (.bool (folP s.data.toList c (k, none))) ∧ w' = W') := fun W' => by
      have := Tryz.strings_HasPrefix (s.extract k s.size) ⟨#[c]⟩ W'
      rw [ex_list, show (⟨#[c]⟩ : ByteArray).data.toList = [c] from rfl, pre_one] at this
      have e1 : folP s.data.toList c (k, none) = decide (s.data.toList[k]? = some c) := by unfold folP; simp
      rw [e1]; exact this
    have wk : wrap64 ((k : Int) + 1) = (k : Int) + 1 := IntWalk.wrap64_in _ hkb
    have wi : IntKind.i64.wrap ((k : Int) + 1) = (k : Int) + 1 := IntWalk.i64_in _ hkb
    have hb1 : (⟨#[c]⟩ : ByteArray).size = 1 := rfl
    have hfin : Hid (∀ q, RdA N s (k + 1, none) ((W.drewN q).setCell ⟨N, 1, none⟩ (.int .i64 ((k : Int) + 1))) ∧ W.grownBy ((W.drewN q).setCell ⟨N, 1, none⟩ (.int .i64 ((k : Int) + 1))) (some N)) := fun q => ⟨(hhd.out q).set1 (k + 1), grown_trans (hgd.out q) (grown_set _ N 1 _)⟩
    have d2 : W.drew.cell? ⟨N, 1, none⟩ = some (.int .i64 (k : Int)) := h2
    have d4 : W.drew.frozen? ⟨N, 1, none⟩ = false := h4
    clear hkb
    cases hf : folP s.data.toList c (k, none) with
    | true =>
      have e2 : nextP s.data.toList c (k, none) = (k + 1, none) := by unfold nextP; rw [hf]; rfl
      rw [e2]
      have cHt : Hid (∀ W', Calls Tryz.prog 74 #[.string (s.extract k s.size), .string ⟨#[c]⟩] W' fun e w' => e = .returned (.bool true) ∧ w' = W') := fun W' => by rw [← hf]; exact cH.out W'
      clear hf cH
      go_enter Tryz.func20, Tryz.ntmps20
      go_wp2_with fail
      go_quiet ((go_at_call 74; exact Calls.quiet_of_same (cHt.out _)))
      go_wp2_with fail
      go_ret
      exact ⟨rfl, hfin.out _⟩
    | false =>
      have e2 : nextP s.data.toList c (k, none) = (k, none) := by unfold nextP; rw [hf]; rfl
      rw [e2]
      have cHt : Hid (∀ W', Calls Tryz.prog 74 #[.string (s.extract k s.size), .string ⟨#[c]⟩] W' fun e w' => e = .returned (.bool false) ∧ w' = W') := fun W' => by rw [← hf]; exact cH.out W'
      clear hf cH
      go_enter Tryz.func20, Tryz.ntmps20
      go_wp2_with fail
      go_quiet ((go_at_call 74; exact Calls.quiet_of_same (cHt.out _)))
      go_wp2_with fail
      go_ret
      exact ⟨rfl, hhd.out _, hgd.out _⟩
set_option maxRecDepth 100000 in
set_option maxHeartbeats 4000000 in
theorem must_k (N : Nat) (s : ByteArray) (c : UInt8) (st : StP) (W : World) (h : RdA N s st W) (hs : s.size ≤ 4000000) (hst : st.1 ≤ s.data.toList.length) : Calls Tryz.prog 21 #[.pointer (some ⟨N, 0, none⟩), .string ⟨#[c]⟩] W fun e w' => e = .returned undef ∧ RdA N s (mustP s.data.toList c st) w' ∧ W.grownBy w' (some N) := by
  have cF : Hid (Calls Tryz.prog 20 #[.pointer (some ⟨N, 0, none⟩), .string ⟨#[c]⟩] W fun e w' => e = .returned (.bool (folP s.data.toList c st)) ∧ RdA N s (nextP s.data.toList c st) w' ∧ W.grownBy w' (some N)) := follows_k N s c st W h hs hst
  cases hf : folP s.data.toList c st with
  | true =>
    have e1 : mustP s.data.toList c st = (st.1 + 1, none) := by unfold mustP; rw [hf]; rfl
    have e2 : nextP s.data.toList c st = (st.1 + 1, none) := by unfold nextP; rw [hf]; rfl
    rw [e1]
    rw [hf, e2] at cF
    clear hf e1 e2
    go_enter Tryz.func21, Tryz.ntmps21
    go_wp2_with (go_at_call 20; with_reducible refine Calls.mono cF.out ?_; rintro e w1 ⟨rfl, R1, G1⟩)
    first | go_end0 | (simp only [Exit.inBlock, Exit.then]; refine bodyPost_ret (results_none rfl _ _ _) rfl ?_) | refine bodyPost_ret (results_none rfl _ _ _) rfl ?_
    exact ⟨rfl, R1, G1⟩
  | false =>
    have e1 : mustP s.data.toList c st = failP st st.1 := by unfold mustP; rw [hf]; rfl
    have e2 : nextP s.data.toList c st = st := by unfold nextP; rw [hf]; rfl
    rw [e1]
    rw [hf, e2] at cF
    clear hf e1 e2
    have cX : Hid (∀ W', RdA N s st W' → W.grownBy W' (some N) → Calls Tryz.prog 73 #[.pointer (some ⟨N, 0, none⟩), .int .i64 (st.1 : Int)] W' fun e w' => e = .returned undef ∧ RdA N s (failP st st.1) w' ∧ W.grownBy w' (some N)) := fun W' hR hG => (fail_k N s st (st.1 : Int) W' hR).mono fun e w' hx => ⟨hx.1, hx.2.1, grown_trans hG hx.2.2⟩
    have hc : Hid (∀ w1, RdA N s st w1 → w1.cell? ⟨N, 1, none⟩ = some (.int .i64 (st.1 : Int))) := fun w1 hx => hx.2.2.1
    go_enter Tryz.func21, Tryz.ntmps21
    go_wp2_with (go_at_call 20; with_reducible refine Calls.mono cF.out ?_; rintro e w1 ⟨rfl, R1, G1⟩; have q1 := hc.out w1 R1)
    go_wp2_with fail
    refine Calls.mono (cX.out _ R1 G1) ?_
    rintro e w2 ⟨rfl, R2, G2⟩
    go_wp2_with fail
    first | go_end0 | (simp only [Exit.inBlock, Exit.then]; refine bodyPost_ret (results_none rfl _ _ _) rfl ?_) | refine bodyPost_ret (results_none rfl _ _ _) rfl ?_
    exact ⟨rfl, R2, G2⟩
set_option maxRecDepth 100000 in
set_option maxHeartbeats 4000000 in
theorem end_k (N : Nat) (s : ByteArray) (st : StP) (W : World) (h : RdA N s st W) (hs : s.size ≤ 4000000) (hst : st.1 ≤ s.data.toList.length) : Calls Tryz.prog 22 #[.pointer (some ⟨N, 0, none⟩)] W fun e w' => e = .returned undef ∧ RdA N s (endP s.data.toList st) w' ∧ W.grownBy w' (some N) := by
  have hlen : s.data.toList.length = s.size := (Lib.size_eq s).symm
  have hgd : Hid (∀ q, W.grownBy (W.drewN q) (some N)) := fun q => grown_of_below N (bdrewN (Below.refl _ W) q)
  have hhd : Hid (∀ q, RdA N s st (W.drewN q)) := fun q => h.below (bdrewN (Below.refl _ W) q) h.1
  obtain ⟨h0, h1, h2, h3, h4, h5⟩ := h
  have cX : Hid (∀ W', RdA N s st W' → W.grownBy W' (some N) → Calls Tryz.prog 73 #[.pointer (some ⟨N, 0, none⟩), .int .i64 (st.1 : Int)] W' fun e w' => e = .returned undef ∧ RdA N s (failP st st.1) w' ∧ W.grownBy w' (some N)) := fun W' hR hG => (fail_k N s st (st.1 : Int) W' hR).mono fun e w' hx => ⟨hx.1, hx.2.1, grown_trans hG hx.2.2⟩
  by_cases hlt : st.1 < s.size
  · have e1 : endP s.data.toList st = failP st st.1 := by unfold endP; rw [if_pos (by rw [hlen]; exact hlt)]
    rw [e1]
    have hI : (st.1 : Int) < (s.size : Int) := by omega
    have hc : Hid (∀ q, (W.drewN q).cell? ⟨N, 1, none⟩ = some (.int .i64 (st.1 : Int))) := fun q => (hhd.out q).2.2.1
    clear e1 hlen
    go_enter Tryz.func22, Tryz.ntmps22
    go_wp2_with fail
    go_quiet (fail)
    have q1 := hc.out nq
    go_wp2_with fail
    refine Calls.mono (cX.out _ (hhd.out _) (hgd.out _)) ?_
    rintro e w2 ⟨rfl, R2, G2⟩
    go_wp2_with fail
    first | go_end0 | (simp only [Exit.inBlock, Exit.then]; refine bodyPost_ret (results_none rfl _ _ _) rfl ?_) | refine bodyPost_ret (results_none rfl _ _ _) rfl ?_
    exact ⟨rfl, R2, G2⟩
  · have e1 : endP s.data.toList st = st := by unfold endP; rw [if_neg (by rw [hlen]; exact hlt)]
    rw [e1]
    have hI : ¬ (st.1 : Int) < (s.size : Int) := by omega
    clear e1 hlen
    go_enter Tryz.func22, Tryz.ntmps22
    go_wp2_with fail
    go_quiet (fail)
    go_wp2_with fail
    first | go_end0 | (simp only [Exit.inBlock, Exit.then]; refine bodyPost_ret (results_none rfl _ _ _) rfl ?_) | refine bodyPost_ret (results_none rfl _ _ _) rfl ?_
    exact ⟨rfl, hhd.out _, hgd.out _⟩
end Go.Proofs.YtfpfeecoideedaaGreatDoor

namespace Go.Proofs.YtfpfeecoideedaaGreatDoor
open Go.RowKit Go.Shelf
set_option linter.unusedVariables false
set_option linter.unusedSimpArgs false
def serO : Obj := .cells #[.string ⟨#[]⟩, .slice none 0 0, .string ⟨#[]⟩] 24
/-- while a key is read: the reader at N, what is read at R, the result at w's end. -/
structure KP (w : World) (N R : Nat) (s m f : ByteArray) (v : Value) (acc : List TagP) (st : StP) (W : World) : Prop where
  rd : RdA N s st W
  hN : w.heap.size < N
  hR : N < R
  hRl : R < W.heap.size
  r0 : W.cell? ⟨R, 0, none⟩ = some (.string m)
  r1 : W.cell? ⟨R, 1, none⟩ = some v
  r2 : W.cell? ⟨R, 2, none⟩ = some (.string f)
  f1 : W.frozen? ⟨R, 1, none⟩ = false
  f2 : W.frozen? ⟨R, 2, none⟩ = false
  ms : W.heap[w.heap.size]? = some serO
  own : OT W (R + 1) v acc
  bl : Below w.heap.size w W
theorem grown_cell {w w' : World} {N : Nat} (h : w.grownBy w' (some N)) {p : Addr} (hp : p.block < w.heap.size) (hne : p.block ≠ N) : w'.cell? p = w.cell? p := h.cell_far p hp (by simp; exact fun e => hne e)
theorem grown_frozen {w w' : World} {N : Nat} (h : w.grownBy w' (some N)) {p : Addr} (hp : p.block < w.heap.size) (hne : p.block ≠ N) : w'.frozen? p = w.frozen? p := h.frozen_far p hp (by simp; exact fun e => hne e)
theorem OT.grown {w w' : World} {B N : Nat} {v : Value} {l : List TagP} (h : OT w B v l) (hg : w.grownBy w' (some N)) (hN : N < B) : OT w' B v l := by
  refine ⟨h.1, ?_⟩
  rcases h.2 with h2 | ⟨g, cap, cur, e1, e2, e3, e4⟩
  · exact Or.inl h2
  · exact Or.inr ⟨g, cap, cur, e1, e2, by rw [hg.block g (Array.getElem?_eq_some_iff.1 e3).1 (by simp; omega)]; exact e3, e4⟩
theorem OT.mono {w : World} {B C : Nat} {v : Value} {l : List TagP} (h : OT w B v l) (hc : C ≤ B) : OT w C v l := by
  refine ⟨h.1, ?_⟩
  rcases h.2 with h2 | ⟨g, cap, cur, e1, e2, e3⟩
  · exact Or.inl h2
  · exact Or.inr ⟨g, cap, cur, e1, by omega, e3⟩
theorem KP.step {w : World} {N R : Nat} {s m f : ByteArray} {v : Value} {acc : List TagP} {st st' : StP} {W W' : World} (h : KP w N R s m f v acc st W) (hr : RdA N s st' W') (hg : W.grownBy W' (some N)) : KP w N R s m f v acc st' W' where
  rd := hr
  hN := h.hN
  hR := h.hR
  hRl := Nat.lt_of_lt_of_le h.hRl hg.size
  r0 := by have := h.hR; rw [grown_cell hg (p := ⟨R, 0, none⟩) h.hRl (by simp; omega)]; exact h.r0
  r1 := by have := h.hR; rw [grown_cell hg (p := ⟨R, 1, none⟩) h.hRl (by simp; omega)]; exact h.r1
  r2 := by have := h.hR; rw [grown_cell hg (p := ⟨R, 2, none⟩) h.hRl (by simp; omega)]; exact h.r2
  f1 := by have := h.hR; rw [grown_frozen hg (p := ⟨R, 1, none⟩) h.hRl (by simp; omega)]; exact h.f1
  f2 := by have := h.hR; rw [grown_frozen hg (p := ⟨R, 2, none⟩) h.hRl (by simp; omega)]; exact h.f2
  ms := by have := h.hN; have := h.hR; have := h.hRl; rw [hg.block w.heap.size (by omega) (by simp; omega)]; exact h.ms
  own := h.own.grown hg (by have := h.hR; omega)
  bl := by
    have := h.hN
    exact h.bl.trans ⟨hg.os, hg.tape, hg.output, hg.size, fun k hk => hg.block k (by have := h.bl.size; omega) (by simp; omega)⟩
theorem KP.rows {w : World} {N R : Nat} {s m f : ByteArray} {v v' : Value} {acc acc' : List TagP} {st : StP} {W W' : World} (h : KP w N R s m f v acc st W) (hg : W.grownBy W' v.ownBlock) (ho : OT W' (R + 1) v' acc') : KP w N R s m f v' acc' st (W'.setCell ⟨R, 1, none⟩ v') := by
  have hb : Below (R + 1) W W' := grown_below h.own (by have := h.hRl; omega) hg
  have hR := h.hR
  have hN := h.hN
  have hsz := hb.size
  have hRl := h.hRl
  have kc : ∀ i, W'.cell? ⟨R, i, none⟩ = W.cell? ⟨R, i, none⟩ := fun i => hb.cell (p := ⟨R, i, none⟩) (Nat.lt_succ_self _)
  have kf : ∀ i, W'.frozen? ⟨R, i, none⟩ = W.frozen? ⟨R, i, none⟩ := fun i => hb.frozen (p := ⟨R, i, none⟩) (Nat.lt_succ_self _)
  have hk : ∀ j, j ≠ R → (W'.setCell ⟨R, 1, none⟩ v').heap[j]? = W'.heap[j]? := fun j hj => Below.heap_setCell _ _ _ _ hj
  have hr : RdA N s st W' := h.rd.below hb (by omega)
  have hgs := grown_set W' R 1 v'
  have hrd : RdA N s st (W'.setCell ⟨R, 1, none⟩ v') := by
    obtain ⟨a0, a1, a2, a3, a4, a5⟩ := hr
    refine ⟨by simpa using a0, ?_, ?_, ?_, ?_, ?_⟩
    · rw [grown_cell hgs (p := ⟨N, 0, none⟩) a0 (by simp; omega)]; exact a1
    · rw [grown_cell hgs (p := ⟨N, 1, none⟩) a0 (by simp; omega)]; exact a2
    · rw [grown_cell hgs (p := ⟨N, 2, none⟩) a0 (by simp; omega)]; exact a3
    · rw [grown_frozen hgs (p := ⟨N, 1, none⟩) a0 (by simp; omega)]; exact a4
    · rw [grown_frozen hgs (p := ⟨N, 2, none⟩) a0 (by simp; omega)]; exact a5
  exact {
    rd := hrd
    hN := hN
    hR := hR
    hRl := by simp; omega
    r0 := by rw [World.cell?_setCell_other _ _ _ _ (by intro e; injection e with e1 e2; cases e2)]; rw [kc]; exact h.r0
    r1 := World.cell?_setCell_same _ _ _ (by rw [kc]; exact h.r1)
    r2 := by rw [World.cell?_setCell_other _ _ _ _ (by intro e; injection e with e1 e2; cases e2)]; rw [kc]; exact h.r2
    f1 := by simp [go_sem]; rw [kf]; exact h.f1
    f2 := by simp [go_sem]; rw [kf]; exact h.f2
    ms := by rw [hk _ (by omega), hb.block _ (by omega)]; exact h.ms
    own := ho.grown hgs (by omega)
    bl := (h.bl.trans (hb.mono (by omega))).trans ⟨rfl, rfl, rfl, by simp, fun k hkk => hk k (by omega)⟩ }
end Go.Proofs.YtfpfeecoideedaaGreatDoor

namespace Go.Proofs.YtfpfeecoideedaaGreatDoor
open Go.RowKit Go.Shelf
attribute [local go_sem] Oper.semAt_some
set_option linter.unusedVariables false
set_option linter.unusedSimpArgs false
/-- what Parse tells: a series and an error. -/
def errF (fl : Option Int) (n : Int) : Value := match fl with
  | some p => atV p
  | none => erN n
def resE (l : List UInt8) : Value := errF (stopP l).2 (rightN (serP l))
def resS (l : List UInt8) : SerP := if (stopP l).2 = none ∧ rightN (serP l) = 0 then serP l else ⟨⟨#[]⟩, [], ⟨#[]⟩⟩
theorem step_append_run {P : Program} {ops : Array Oper} {o : Oper} {a : Act} {w : World} {K : Act → World → Prop} {Q : Exit → Act → World → Prop} {E : Prop}
    (hg : o.guard = none) (s x : Operand) (t : TypeId) (hop : o.op = Op.call { callee := Callee.builtin Builtin.append, args := #[s, x], argTypes := #[t, t] })
    (v y v' : Value) (w' : World) (hs : a.eval s = v) (hx : a.eval x = y) (hr : (Builtin.append_ #[t, t] o.type #[v, y]).run P w = .ok v' w') (hK : K (a.put o.dst v') w') :
    if Region.wanted o (yielded ops a.tmps) = true then Oper.wp P o a w K Q else E := by
  have hw : Region.wanted o (yielded ops a.tmps) = true := by simp [Region.wanted, hg]
  rw [if_pos hw]
  unfold Oper.wp execOp
  simp only [hop, resolve, invoke, builtin, Sem.run_bind, Sem.run_pure, Result.andThen_ok, List.map_toArray, List.map_cons, List.map_nil, hs, hx, hr]
  exact hK
theorem wpList_append_run {P : Program} {ops : Array Oper} {rest : List Oper} {o : Oper} {a : Act} {Q : Exit → Act → World → Prop} {w : World} (hgd : o.guard = none) (s x : Operand) (t : TypeId)
    (ho : o.op = .call { callee := .builtin .append, args := #[s, x], argTypes := #[t, t] }) (v y v' : Value) (w' : World) (hs : a.eval s = v) (hx : a.eval x = y) (hr : (Builtin.append_ #[t, t] o.type #[v, y]).run P w = .ok v' w')
    (h : wpList P ops Q rest (a.put o.dst v') w') : wpList P ops Q (o :: rest) a w := by
  refine wpList_plain hgd fun K hK => ?_
  unfold Oper.wp execOp
  simp only [ho, resolve, invoke, builtin, Sem.run_bind, Sem.run_pure, Result.andThen_ok, List.map_toArray, List.map_cons, List.map_nil, hs, hx, hr]
  exact hK _ _ h
theorem KP.start (w : World) (s : ByteArray) (W : World) (m : ByteArray) (st : StP) (N : Nat) (hN : w.heap.size < N) (hr : RdA N s st W) (hb : Below w.heap.size w W) (hm : W.heap[w.heap.size]? = some serO) : KP w N W.heap.size s m ⟨#[]⟩ (.slice none 0 0) [] st (W.alloc (.cells #[.string m, .slice none 0 0, .string ⟨#[]⟩] 24)) where
  rd := hr.below ((Below.refl _ W).alloc (Nat.le_refl _) _) hr.1
  hN := hN
  hR := hr.1
  hRl := by simp
  r0 := by simp [go_sem]
  r1 := by simp [go_sem]
  r2 := by simp [go_sem]
  f1 := by simp [go_sem]
  f2 := by simp [go_sem]
  ms := by rw [Below.heap_alloc W _ _ (Array.getElem?_eq_some_iff.1 hm).1]; exact hm
  own := OT.nil _ _
  bl := hb.alloc hb.size _
theorem set3 {B : Nat} {a w : World} {N : Nat} {v0 v1 v2 : Value} (h : Below B a w) (hN : B ≤ N) : Below B a (((w.setCell ⟨N, 0, none⟩ v0).setCell ⟨N, 1, none⟩ v1).setCell ⟨N, 2, none⟩ v2) :=
  ((h.setCell (p := ⟨N, 0, none⟩) hN _).setCell (p := ⟨N, 1, none⟩) hN _).setCell (p := ⟨N, 2, none⟩) hN _
theorem OT.set3 {w : World} {N : Nat} {v v0 v1 v2 : Value} {l : List TagP} (h : OT w (N + 1) v l) : OT (((w.setCell ⟨N, 0, none⟩ v0).setCell ⟨N, 1, none⟩ v1).setCell ⟨N, 2, none⟩ v2) N v l :=
  (((h.grown (grown_set _ N 0 _) (Nat.lt_succ_self _)).grown (grown_set _ N 1 _) (Nat.lt_succ_self _)).grown (grown_set _ N 2 _) (Nat.lt_succ_self _)).mono (Nat.le_succ _)
theorem ms_cells {W : World} {M : Nat} (h : W.heap[M]? = some serO) : (W.cell? ⟨M, 0, none⟩ = some (.string ⟨#[]⟩) ∧ W.cell? ⟨M, 1, none⟩ = some (.slice none 0 0) ∧ W.cell? ⟨M, 2, none⟩ = some (.string ⟨#[]⟩)) ∧ W.frozen? ⟨M, 0, none⟩ = false ∧ W.frozen? ⟨M, 1, none⟩ = false ∧ W.frozen? ⟨M, 2, none⟩ = false := by
  refine ⟨⟨?_, ?_, ?_⟩, ?_, ?_, ?_⟩ <;> simp [World.cell?, World.frozen?, h, serO]
theorem KP.field {w : World} {N R : Nat} {s m f : ByteArray} {v : Value} {acc : List TagP} {st : StP} {W : World} (h : KP w N R s m f v acc st W) (g : ByteArray) : KP w N R s m g v acc st (W.setCell ⟨R, 2, none⟩ (.string g)) := by
  have hR := h.hR
  have hN := h.hN
  have hRl := h.hRl
  have hgs := grown_set W R 2 (.string g)
  have hk : ∀ j, j ≠ R → (W.setCell ⟨R, 2, none⟩ (.string g)).heap[j]? = W.heap[j]? := fun j hj => Below.heap_setCell _ _ _ _ hj
  have hrd : RdA N s st (W.setCell ⟨R, 2, none⟩ (.string g)) := by
    obtain ⟨a0, a1, a2, a3, a4, a5⟩ := h.rd
    refine ⟨by simpa using a0, ?_, ?_, ?_, ?_, ?_⟩
    · rw [grown_cell hgs (p := ⟨N, 0, none⟩) a0 (by simp; omega)]; exact a1
    · rw [grown_cell hgs (p := ⟨N, 1, none⟩) a0 (by simp; omega)]; exact a2
    · rw [grown_cell hgs (p := ⟨N, 2, none⟩) a0 (by simp; omega)]; exact a3
    · rw [grown_frozen hgs (p := ⟨N, 1, none⟩) a0 (by simp; omega)]; exact a4
    · rw [grown_frozen hgs (p := ⟨N, 2, none⟩) a0 (by simp; omega)]; exact a5
  exact {
    rd := hrd
    hN := hN
    hR := hR
    hRl := by simp; omega
    r0 := by rw [World.cell?_setCell_other _ _ _ _ (by intro e; injection e with e1 e2; cases e2)]; exact h.r0
    r1 := by rw [World.cell?_setCell_other _ _ _ _ (by intro e; injection e with e1 e2; cases e2)]; exact h.r1
    r2 := World.cell?_setCell_same _ _ _ h.r2
    f1 := by simp [go_sem]; exact h.f1
    f2 := by simp [go_sem]; exact h.f2
    ms := by rw [hk _ (by omega)]; exact h.ms
    own := h.own.grown hgs (by omega)
    bl := h.bl.trans ⟨rfl, rfl, rfl, by simp, fun k hkk => hk k (by omega)⟩ }
set_option maxRecDepth 100000 in
set_option maxHeartbeats 16000000 in
theorem parse_any (s : ByteArray) (w : World) (hs : s.size ≤ 4000000) (hT : UT w) (hg : ET w) :
    Calls Tryz.prog 5 #[.string s] w fun e w' => ∃ v, e = .returned (.tuple #[.agg #[.string (resS s.data.toList).m, v, .string (resS s.data.toList).f], resE s.data.toList]) ∧ OT w' w.heap.size v (resS s.data.toList).t ∧ Below w.heap.size w w' := by
  obtain ⟨l, hl⟩ : ∃ l, l = s.data.toList := ⟨_, rfl⟩
  have hW : Hid (∀ N st W, RdA N s st W → Below w.heap.size w W → st.1 ≤ l.length → Calls Tryz.prog 19 #[.pointer (some ⟨N, 0, none⟩)] W fun e w' => e = .returned (.string (ba (wordP l st).1)) ∧ RdA N s (wordP l st).2 w' ∧ W.grownBy w' (some N)) := fun N st W h hb hst => by rw [hl] at hst ⊢; exact word_k N s st W h (ET_below hg hb) hs hst
  have hF : Hid (∀ N c st W, RdA N s st W → st.1 ≤ l.length → Calls Tryz.prog 20 #[.pointer (some ⟨N, 0, none⟩), .string ⟨#[c]⟩] W fun e w' => e = .returned (.bool (folP l c st)) ∧ RdA N s (nextP l c st) w' ∧ W.grownBy w' (some N)) := fun N c st W h hst => by rw [hl] at hst ⊢; exact follows_k N s c st W h hs hst
  have hM : Hid (∀ N c st W, RdA N s st W → st.1 ≤ l.length → Calls Tryz.prog 21 #[.pointer (some ⟨N, 0, none⟩), .string ⟨#[c]⟩] W fun e w' => e = .returned undef ∧ RdA N s (mustP l c st) w' ∧ W.grownBy w' (some N)) := fun N c st W h hst => by rw [hl] at hst ⊢; exact must_k N s c st W h hs hst
  have hE : Hid (∀ N st W, RdA N s st W → st.1 ≤ l.length → Calls Tryz.prog 22 #[.pointer (some ⟨N, 0, none⟩)] W fun e w' => e = .returned undef ∧ RdA N s (endP l st) w' ∧ W.grownBy w' (some N)) := fun N st W h hst => by rw [hl] at hst ⊢; exact end_k N s st W h hs hst
  have hlen : Hid (l.length ≤ 4000000) := by rw [hl, ← Lib.size_eq]; exact hs
  rw [← hl]
  clear hl
  obtain ⟨W0, hW0⟩ : ∃ W0, W0 = (w.alloc (.cells #[.string ⟨#[]⟩, .slice none 0 0, .string ⟨#[]⟩] 24)).alloc (.cells #[.string s, .int .i64 0, .nilIface] 78) := ⟨_, rfl⟩
  have b0 : Hid (Below w.heap.size w W0) := by rw [hW0]; exact ((Below.refl _ w).alloc (Nat.le_refl _) _).alloc (by simp) _
  have m0 : Hid (W0.heap[w.heap.size]? = some serO) := by
    rw [hW0, Below.heap_alloc _ _ _ (by simp)]; exact heap_alloc_new w serO
  have R0 : Hid (RdA (w.heap.size + 1) s (0, none) W0) := by rw [hW0]; exact ⟨by simp, by simp [go_sem], by simp [go_sem], by simp [go_sem, fV], by simp [go_sem], by simp [go_sem]⟩
  have hW0H : Hid (W0 = (w.alloc (.cells #[.string ⟨#[]⟩, .slice none 0 0, .string ⟨#[]⟩] 24)).alloc (.cells #[.string s, .int .i64 0, .nilIface] 78)) := hW0
  clear hW0
  go_enter Tryz.func5, Tryz.ntmps5
  go_wp2_with fail
  rw [← hW0H.out]
  refine Calls.mono (hW.out _ _ _ R0.out b0.out (Nat.zero_le _)) ?_
  rintro e w1 ⟨rfl, R1, G1⟩
  have G1' : W0.grownBy w1 (some (w.heap.size + 1)) := G1
  have b1 : Below w.heap.size w w1 := b0.out.trans ⟨G1'.os, G1'.tape, G1'.output, G1'.size, fun k hk => G1'.block k (by have := b0.out.size; omega) (by simp; omega)⟩
  have m1 : w1.heap[w.heap.size]? = some serO := by rw [G1'.block _ (Array.getElem?_eq_some_iff.1 m0.out).1 (by simp)]; exact m0.out
  have hKP : Hid (KP w (w.heap.size + 1) w1.heap.size s (ba (measP l).1) ⟨#[]⟩ (.slice none 0 0) [] (measP l).2 (w1.alloc (.cells #[.string (ba (measP l).1), .slice none 0 0, .string ⟨#[]⟩] 24))) := KP.start w s w1 _ _ _ (Nat.lt_succ_self _) R1 b1 m1
  have hml : Hid ((measP l).2.1 ≤ l.length) := measP_le l
  have hmL : Hid (tagsR l (measP l).2 [] = tagsL l) := rfl
  clear R1 G1 G1' b1 m1 b0 m0 R0
  go_wp2_with fail
  obtain ⟨mb, hmb⟩ : ∃ mb, mb = ba (measP l).1 := ⟨_, rfl⟩
  obtain ⟨st0, hst0⟩ : ∃ st0, st0 = (measP l).2 := ⟨_, rfl⟩
  have eR : Hid (w1.heap.size = w1.heap.size) := rfl
  have hmbH : Hid (mb = ba (measP l).1) := hmb
  rw [← hst0] at hml hmL
  rw [← hmb, ← hst0] at hKP
  rw [show (wordP l (0, none)).1 = (measP l).1 from rfl, ← hmb]
  clear hmb hst0 eR
  generalize w1.alloc (.cells #[.string mb, .slice none 0 0, .string ⟨#[]⟩] 24) = wL at *
  generalize w1.heap.size = R at *
  go_loopg [6] (l.length - st0.1) (fun k x wr => ∃ st acc v, k = l.length - st.1 ∧ Hid (st.1 ≤ l.length) ∧ Hid (acc.length ≤ st.1) ∧ Hid (tagsR l st acc = tagsL l) ∧ Hid (KP w (w.heap.size + 1) R s mb ⟨#[]⟩ v acc st wr))
  case atStart => exact ⟨st0, [], _, rfl, hml, Nat.zero_le _, hmL, hKP⟩
  case round =>
    obtain ⟨st, acc, v, hgk, hle, hal, hR, hK⟩ := hrel
    clear hKP hml hmL
    have hgkH : Hid (gk = l.length - st.1) := hgk
    clear hgk
    have cF : Hid (Calls Tryz.prog 20 #[.pointer (some ⟨w.heap.size + 1, 0, none⟩), .string ⟨#[44]⟩] wr fun e w' => e = .returned (.bool (folP l 44 st)) ∧ RdA (w.heap.size + 1) s (nextP l 44 st) w' ∧ wr.grownBy w' (some (w.heap.size + 1))) := hF.out _ 44 st wr hK.out.rd hle.out
    cases hf : folP l 44 st with
    | true =>
      rw [hf] at cF
      have hfH : Hid (folP l 44 st = true) := hf
      have en : nextP l 44 st = (st.1 + 1, none) := by unfold nextP; rw [hf]; rfl
      rw [en] at cF
      have hlt : st.1 < l.length := (fol_lt hf).2.1
      clear hf en
      obtain ⟨st1, hst1⟩ : ∃ st1, st1 = ((st.1 + 1, none) : StP) := ⟨_, rfl⟩
      rw [← hst1] at cF
      have l1 : Hid (st1.1 ≤ l.length) := by rw [hst1]; exact hlt
      have w1l := wordP_le l1.out
      have m1l := mustP_le (c := 61) w1l.2
      have l2 : Hid ((wordP l st1).2.1 ≤ l.length) := w1l.2
      have l3 : Hid ((mustP l 61 (wordP l st1).2).1 ≤ l.length) := m1l.2
      have w2l := wordP_le l3.out
      have l4 : Hid ((wordP l (mustP l 61 (wordP l st1).2)).2.1 ≤ l.length) := w2l.2
      have hmeas : Hid (l.length - (wordP l (mustP l 61 (wordP l st1).2)).2.1 < l.length - st.1) := by
        have e1 : st1.1 = st.1 + 1 := by rw [hst1]
        have a1 := w1l.1
        have a2 := m1l.1
        have a3 := w2l.1
        have a4 := w2l.2
        show l.length - (wordP l (mustP l 61 (wordP l st1).2)).2.1 < l.length - st.1
        omega
      have hal4 : Hid ((acc ++ [(ba (wordP l st1).1, ba (wordP l (mustP l 61 (wordP l st1).2)).1)]).length ≤ (wordP l (mustP l 61 (wordP l st1).2)).2.1) := by
        have e1 : st1.1 = st.1 + 1 := by rw [hst1]
        have a1 := w1l.1
        have a2 := m1l.1
        have a3 := w2l.1
        have a4 := hal.out
        show (acc ++ [(ba (wordP l st1).1, ba (wordP l (mustP l 61 (wordP l st1).2)).1)]).length ≤ (wordP l (mustP l 61 (wordP l st1).2)).2.1
        rw [List.length_append, List.length_singleton]
        omega
      have hR2 : Hid (tagsR l (wordP l (mustP l 61 (wordP l st1).2)).2 (acc ++ [(ba (wordP l st1).1, ba (wordP l (mustP l 61 (wordP l st1).2)).1)]) = tagsL l) := by
        have h9 := hR.out
        rw [tagsR_step acc hfH.out, ← hst1] at h9
        exact h9
      have hst1H : Hid (st1 = ((st.1 + 1, none) : StP)) := hst1
      clear hlt w1l m1l w2l hst1 hfH
      go_wp2_with fail
      refine Calls.mono cF.out ?_
      rintro e wa ⟨rfl, Ra, Ga⟩
      have Ka : Hid (KP w (w.heap.size + 1) R s mb ⟨#[]⟩ v acc st1 wa) := hK.out.step Ra Ga
      clear Ra Ga cF
      go_wp2_with fail
      refine Calls.mono (hW.out _ st1 wa Ka.out.rd Ka.out.bl l1.out) ?_
      rintro e wb ⟨rfl, Rb, Gb⟩
      have Kb : Hid (KP w (w.heap.size + 1) R s mb ⟨#[]⟩ v acc (wordP l st1).2 wb) := Ka.out.step Rb Gb
      clear Rb Gb
      obtain ⟨tk, htk⟩ : ∃ tk, tk = ba (wordP l st1).1 := ⟨_, rfl⟩
      obtain ⟨st2, hst2⟩ : ∃ st2, st2 = (wordP l st1).2 := ⟨_, rfl⟩
      rw [← htk, ← hst2] at hR2 hal4
      rw [← htk]
      rw [← hst2] at Kb l2 l3 l4 hmeas
      clear htk hst2
      go_wp2_with fail
      refine Calls.mono (hM.out _ 61 st2 wb Kb.out.rd l2.out) ?_
      rintro e wc ⟨rfl, Rc, Gc⟩
      have Kc : Hid (KP w (w.heap.size + 1) R s mb ⟨#[]⟩ v acc (mustP l 61 st2) wc) := Kb.out.step Rc Gc
      clear Rc Gc
      obtain ⟨st3, hst3⟩ : ∃ st3, st3 = mustP l 61 st2 := ⟨_, rfl⟩
      rw [← hst3] at hR2 hal4 Kc l3 l4 hmeas
      clear hst3
      have cV : Hid (∀ W', W' = wc.drew → Calls Tryz.prog 19 #[.pointer (some ⟨w.heap.size + 1, 0, none⟩)] W' fun e w' => e = .returned (.string (ba (wordP l st3).1)) ∧ KP w (w.heap.size + 1) R s mb ⟨#[]⟩ v acc (wordP l st3).2 w') := fun W' e => by
        subst e
        have Kd : KP w (w.heap.size + 1) R s mb ⟨#[]⟩ v acc st3 wc.drew := Kc.out.step (Kc.out.rd.below (Below.refl _ wc).drew Kc.out.rd.1) (grown_of_below _ (Below.refl _ wc).drew)
        exact (hW.out _ st3 _ Kd.rd Kd.bl l3.out).mono fun e w' hx => ⟨hx.1, Kd.step hx.2.1 hx.2.2⟩
      have c1 : wc.cell? ⟨R, 1, none⟩ = some v := Kc.out.r1
      have c1d : wc.drew.cell? ⟨R, 1, none⟩ = some v := Kc.out.r1
      obtain ⟨tv, htv⟩ : ∃ tv, tv = ba (wordP l st3).1 := ⟨_, rfl⟩
      obtain ⟨st4, hst4⟩ : ∃ st4, st4 = (wordP l st3).2 := ⟨_, rfl⟩
      rw [← htv, ← hst4] at hR2 hal4 cV
      rw [← hst4] at l4 hmeas
      clear htv hst4
      have hA : Hid (∀ wd, KP w (w.heap.size + 1) R s mb ⟨#[]⟩ v acc st4 wd → ∃ v' we, (∀ W, W = wd.alloc (.cells #[.string tk, .string tv] 82) → (Builtin.append_ #[22, 22] 22 #[v, .slice (some ⟨wd.heap.size, 0, none⟩) 1 1]).run Tryz.prog W = .ok v' we) ∧ we.cell? ⟨R, 1, none⟩ = some v ∧ we.frozen? ⟨R, 1, none⟩ = false ∧ KP w (w.heap.size + 1) R s mb ⟨#[]⟩ v' (acc ++ [(tk, tv)]) st4 (we.setCell ⟨R, 1, none⟩ v') ∧ ∃ a n c, v' = .slice a n c) := fun wd Kd => by
        have hb : Below wd.heap.size wd (wd.alloc (.cells #[.string tk, .string tv] 82)) := (Below.refl _ wd).alloc (Nat.le_refl _) _
        have KW : KP w (w.heap.size + 1) R s mb ⟨#[]⟩ v acc st4 (wd.alloc (.cells #[.string tk, .string tv] 82)) := Kd.step (Kd.rd.below hb Kd.rd.1) (grown_of_below _ hb)
        obtain ⟨v', we, hr, ho, hgw, _⟩ := appT _ (R + 1) v acc [(tk, tv)] KW.own (by have := KW.hRl; omega) (some ⟨wd.heap.size, 0, none⟩) 1 (Or.inr ⟨wd.heap.size, 0, rfl, by simp, fun i t ht => by
          cases i with
          | zero => simp at ht; subst ht; exact ⟨by simp [go_sem], by simp [go_sem]⟩
          | succ i => simp at ht⟩) (by have a1 := hal4.out; have a2 := l4.out; have a3 := hlen.out; rw [List.length_append] at a1; simp only [List.length_singleton] at a1 ⊢; omega)
        have hbw := grown_below KW.own (by have := KW.hRl; omega) hgw
        obtain ⟨a, c, e, _⟩ := ho.tin
        exact ⟨v', we, fun W e => by subst e; exact hr, by rw [hbw.cell (p := ⟨R, 1, none⟩) (Nat.lt_succ_self _)]; exact KW.r1, by rw [hbw.frozen (p := ⟨R, 1, none⟩) (Nat.lt_succ_self _)]; exact KW.f1, KW.rows hgw ho, a, _, c, e⟩
      have hD2 : Hid (∀ wd, KP w (w.heap.size + 1) R s mb ⟨#[]⟩ v acc st4 wd → (wd.alloc (.cells #[.string tk, .string tv] 82)).cell? ⟨R, 1, none⟩ = some v) := fun wd Kd => by rw [((Below.refl _ wd).alloc (Nat.le_refl _) _).cell (p := ⟨R, 1, none⟩) Kd.hRl]; exact Kd.r1
      go_wp2_with fail
      refine wp_region_noPanic ?_
      refine wp_region_held_drew (S := fun _ => True) (by kernel_rfl) trivial (fun hHeld => ?_)
      refine wpAnyH_take (i := 0) (oi := { dst := some 14, op := Op.fieldAddr 24 (Operand.tmp 5) 1, type := 0, pos := "series.go:31", after := #[], guard := none }) (v := ?_) rfl (by kernel_rfl) (by kernel_rfl) (by kernel_rfl) (fun _ _ _ h => h) (Or.inl ⟨by rfl, ?_⟩) (by assumption) ?_
      rotate_left 1
      · (intro w0 hSw; (try dsimp only at hSw); go_simp; try with_reducible rfl)
      (try simp only [Act.put, List.setIfInBounds_toArray, List.set_cons_zero, List.set_cons_succ])
      refine wpAnyH_take (i := 2) (oi := { dst := some 16, op := Op.move (Operand.tmp 6), type := 9, pos := "series.go:31", after := #[], guard := none }) (v := ?_) rfl (by kernel_rfl) (by kernel_rfl) (by kernel_rfl) (fun _ _ _ h => h) (Or.inl ⟨by rfl, ?_⟩) (by assumption) ?_
      rotate_left 1
      · (intro w0 hSw; (try dsimp only at hSw); go_simp; try with_reducible rfl)
      (try simp only [Act.put, List.setIfInBounds_toArray, List.set_cons_zero, List.set_cons_succ])
      refine wpAnyH_ready (rs := [1, 3]) (by kernel_rfl) (by simp) ?_
      refine AllReadyH.cons (o := { dst := some 15, op := Op.load 22 (Operand.tmp 14), type := 22, pos := "series.go:31", after := #[{ on := 0, ground := Ground.data }], guard := none }) rfl (fun K hK => ?_) ?_
      · go_simp
        try dsimp only
        refine hK.out _ _ trivial (fun hHeld => ?_)
        clear hK K
        (try simp only [Act.put, List.setIfInBounds_toArray, List.set_cons_zero, List.set_cons_succ])
        refine wpAnyH_ready (rs := [3]) (by kernel_rfl) (by simp) ?_
        refine AllReadyH.cons (o := { dst := some 17, op := Op.call { callee := Callee.value (Operand.func 19), args := #[Operand.tmp 4], argTypes := #[78] }, type := 9, pos := "series.go:31", after := #[], guard := none }) rfl (fun K hK => ?_) AllReadyH.nil
        go_simp
        go_at_call 19
        refine Calls.mono (cV.out _ rfl) ?_
        rintro e wd ⟨rfl, Kd⟩
        have d1 := Kd.r1
        have d2 := hD2.out wd Kd
        obtain ⟨v', we, hr6, e1, e2, Ke, va, vn, vc, ev⟩ := hA.out wd Kd
        subst ev
        try dsimp only
        refine hK.out _ _ trivial (fun hHeld => ?_)
        clear hK K
        (try simp only [Act.put, List.setIfInBounds_toArray, List.set_cons_zero, List.set_cons_succ])
        refine wpAnyH_take (i := 4) (oi := { dst := some 18, op := Op.build 82 #[(0, Operand.tmp 16), (1, Operand.tmp 17)], type := 82, pos := "series.go:31", after := #[{ on := 2, ground := Ground.data }, { on := 3, ground := Ground.data }], guard := none }) (v := ?_) rfl (by kernel_rfl) (by kernel_rfl) (by kernel_rfl) (fun _ _ _ h => h) (Or.inl ⟨by rfl, ?_⟩) (by assumption) ?_
        rotate_left 1
        · (intro w0 hSw; (try dsimp only at hSw); go_simp; try with_reducible rfl)
        (try simp only [Act.put, List.setIfInBounds_toArray, List.set_cons_zero, List.set_cons_succ])
        refine wpAnyH_ready (rs := [5]) (by kernel_rfl) (by simp) ?_
        refine AllReadyH.cons (o := { dst := some 19, op := Op.buildSlice 22 1 #[(0, Operand.tmp 18)], type := 22, pos := "series.go:31", after := #[{ on := 4, ground := Ground.data }], guard := none }) rfl (fun K hK => ?_) AllReadyH.nil
        go_simp
        try dsimp only
        refine hK.out _ _ trivial (fun hHeld => ?_)
        clear hK K
        (try simp only [Act.put, List.setIfInBounds_toArray, List.set_cons_zero, List.set_cons_succ])
        refine wpAnyH_ready (rs := [6]) (by kernel_rfl) (by simp) ?_
        refine AllReadyH.cons (o := { dst := some 20, op := Op.call { callee := Callee.builtin Builtin.append, args := #[Operand.tmp 15, Operand.tmp 19], argTypes := #[22, 22] }, type := 22, pos := "series.go:31", after := #[{ on := 1, ground := Ground.data }, { on := 5, ground := Ground.data }, { on := 3, ground := Ground.chain }], guard := none }) rfl (fun K hK => ?_) AllReadyH.nil
        refine step_append_run rfl (.tmp 15) (.tmp 19) 22 rfl _ _ _ _ rfl rfl (hr6 _ rfl) ?_
        refine hK.out _ _ trivial (fun hHeld => ?_)
        clear hK K
        (try simp only [Act.put, List.setIfInBounds_toArray, List.set_cons_zero, List.set_cons_succ])
        refine wpAnyH_take (i := 7) (oi := { dst := some 21, op := Op.fieldAddr 24 (Operand.tmp 5) 1, type := 0, pos := "series.go:31", after := #[{ on := 0, ground := Ground.phase }, { on := 1, ground := Ground.phase }, { on := 2, ground := Ground.phase }, { on := 3, ground := Ground.phase }, { on := 4, ground := Ground.phase }, { on := 5, ground := Ground.phase }, { on := 6, ground := Ground.phase }], guard := none }) (v := ?_) rfl (by kernel_rfl) (by kernel_rfl) (by kernel_rfl) (fun _ _ _ h => h) (Or.inl ⟨by rfl, ?_⟩) (by assumption) ?_
        rotate_left 1
        · (intro w0 hSw; (try dsimp only at hSw); go_simp; try with_reducible rfl)
        (try simp only [Act.put, List.setIfInBounds_toArray, List.set_cons_zero, List.set_cons_succ])
        refine wpAnyH_ready (rs := [8]) (by kernel_rfl) (by simp) ?_
        refine AllReadyH.cons (o := { dst := none, op := Op.store 22 (Operand.tmp 21) (Operand.tmp 20), type := 0, pos := "series.go:31", after := #[{ on := 7, ground := Ground.data }, { on := 6, ground := Ground.data }, { on := 6, ground := Ground.chain }, { on := 0, ground := Ground.phase }, { on := 1, ground := Ground.phase }, { on := 2, ground := Ground.phase }, { on := 3, ground := Ground.phase }, { on := 4, ground := Ground.phase }, { on := 5, ground := Ground.phase }, { on := 6, ground := Ground.phase }], guard := none }) rfl (fun K hK => ?_) AllReadyH.nil
        go_simp
        try dsimp only
        refine hK.out _ _ trivial (fun hHeld => ?_)
        clear hK K
        (try simp only [Act.put, List.setIfInBounds_toArray, List.set_cons_zero, List.set_cons_succ])
        refine wpAnyH_done (by kernel_rfl) ?_ _
        refine NoPanic.normal ?_
        have hrel2 : Hid _ := Ke
        go_wp2_with fail
        go_roundg (l.length - st4.1)
        case measure => rw [hgkH.out]; exact hmeas.out
        case rel => exact ⟨st4, _, _, rfl, l4, hal4, hR2, hrel2⟩
      refine AllReadyH.cons (o := { dst := some 17, op := Op.call { callee := Callee.value (Operand.func 19), args := #[Operand.tmp 4], argTypes := #[78] }, type := 9, pos := "series.go:31", after := #[], guard := none }) rfl (fun K hK => ?_) AllReadyH.nil
      go_simp
      go_at_call 19
      refine Calls.mono (cV.out _ rfl) ?_
      rintro e wd ⟨rfl, Kd⟩
      have d1 := Kd.r1
      have d2 := hD2.out wd Kd
      obtain ⟨v', we, hr6, e1, e2, Ke, va, vn, vc, ev⟩ := hA.out wd Kd
      subst ev
      try dsimp only
      refine hK.out _ _ trivial (fun hHeld => ?_)
      clear hK K
      (try simp only [Act.put, List.setIfInBounds_toArray, List.set_cons_zero, List.set_cons_succ])
      refine wpAnyH_take (i := 4) (oi := { dst := some 18, op := Op.build 82 #[(0, Operand.tmp 16), (1, Operand.tmp 17)], type := 82, pos := "series.go:31", after := #[{ on := 2, ground := Ground.data }, { on := 3, ground := Ground.data }], guard := none }) (v := ?_) rfl (by kernel_rfl) (by kernel_rfl) (by kernel_rfl) (fun _ _ _ h => h) (Or.inl ⟨by rfl, ?_⟩) (by assumption) ?_
      rotate_left 1
      · (intro w0 hSw; (try dsimp only at hSw); go_simp; try with_reducible rfl)
      (try simp only [Act.put, List.setIfInBounds_toArray, List.set_cons_zero, List.set_cons_succ])
      refine wpAnyH_ready (rs := [1, 5]) (by kernel_rfl) (by simp) ?_
      refine AllReadyH.cons (o := { dst := some 15, op := Op.load 22 (Operand.tmp 14), type := 22, pos := "series.go:31", after := #[{ on := 0, ground := Ground.data }], guard := none }) rfl (fun K hK => ?_) ?_
      · go_simp
        try dsimp only
        refine hK.out _ _ trivial (fun hHeld => ?_)
        clear hK K
        (try simp only [Act.put, List.setIfInBounds_toArray, List.set_cons_zero, List.set_cons_succ])
        refine wpAnyH_ready (rs := [5]) (by kernel_rfl) (by simp) ?_
        refine AllReadyH.cons (o := { dst := some 19, op := Op.buildSlice 22 1 #[(0, Operand.tmp 18)], type := 22, pos := "series.go:31", after := #[{ on := 4, ground := Ground.data }], guard := none }) rfl (fun K hK => ?_) AllReadyH.nil
        go_simp
        try dsimp only
        refine hK.out _ _ trivial (fun hHeld => ?_)
        clear hK K
        (try simp only [Act.put, List.setIfInBounds_toArray, List.set_cons_zero, List.set_cons_succ])
        refine wpAnyH_ready (rs := [6]) (by kernel_rfl) (by simp) ?_
        refine AllReadyH.cons (o := { dst := some 20, op := Op.call { callee := Callee.builtin Builtin.append, args := #[Operand.tmp 15, Operand.tmp 19], argTypes := #[22, 22] }, type := 22, pos := "series.go:31", after := #[{ on := 1, ground := Ground.data }, { on := 5, ground := Ground.data }, { on := 3, ground := Ground.chain }], guard := none }) rfl (fun K hK => ?_) AllReadyH.nil
        refine step_append_run rfl (.tmp 15) (.tmp 19) 22 rfl _ _ _ _ rfl rfl (hr6 _ rfl) ?_
        refine hK.out _ _ trivial (fun hHeld => ?_)
        clear hK K
        (try simp only [Act.put, List.setIfInBounds_toArray, List.set_cons_zero, List.set_cons_succ])
        refine wpAnyH_take (i := 7) (oi := { dst := some 21, op := Op.fieldAddr 24 (Operand.tmp 5) 1, type := 0, pos := "series.go:31", after := #[{ on := 0, ground := Ground.phase }, { on := 1, ground := Ground.phase }, { on := 2, ground := Ground.phase }, { on := 3, ground := Ground.phase }, { on := 4, ground := Ground.phase }, { on := 5, ground := Ground.phase }, { on := 6, ground := Ground.phase }], guard := none }) (v := ?_) rfl (by kernel_rfl) (by kernel_rfl) (by kernel_rfl) (fun _ _ _ h => h) (Or.inl ⟨by rfl, ?_⟩) (by assumption) ?_
        rotate_left 1
        · (intro w0 hSw; (try dsimp only at hSw); go_simp; try with_reducible rfl)
        (try simp only [Act.put, List.setIfInBounds_toArray, List.set_cons_zero, List.set_cons_succ])
        refine wpAnyH_ready (rs := [8]) (by kernel_rfl) (by simp) ?_
        refine AllReadyH.cons (o := { dst := none, op := Op.store 22 (Operand.tmp 21) (Operand.tmp 20), type := 0, pos := "series.go:31", after := #[{ on := 7, ground := Ground.data }, { on := 6, ground := Ground.data }, { on := 6, ground := Ground.chain }, { on := 0, ground := Ground.phase }, { on := 1, ground := Ground.phase }, { on := 2, ground := Ground.phase }, { on := 3, ground := Ground.phase }, { on := 4, ground := Ground.phase }, { on := 5, ground := Ground.phase }, { on := 6, ground := Ground.phase }], guard := none }) rfl (fun K hK => ?_) AllReadyH.nil
        go_simp
        try dsimp only
        refine hK.out _ _ trivial (fun hHeld => ?_)
        clear hK K
        (try simp only [Act.put, List.setIfInBounds_toArray, List.set_cons_zero, List.set_cons_succ])
        refine wpAnyH_done (by kernel_rfl) ?_ _
        refine NoPanic.normal ?_
        have hrel2 : Hid _ := Ke
        go_wp2_with fail
        go_roundg (l.length - st4.1)
        case measure => rw [hgkH.out]; exact hmeas.out
        case rel => exact ⟨st4, _, _, rfl, l4, hal4, hR2, hrel2⟩
      refine AllReadyH.cons (o := { dst := some 19, op := Op.buildSlice 22 1 #[(0, Operand.tmp 18)], type := 22, pos := "series.go:31", after := #[{ on := 4, ground := Ground.data }], guard := none }) rfl (fun K hK => ?_) AllReadyH.nil
      go_simp
      try dsimp only
      refine hK.out _ _ trivial (fun hHeld => ?_)
      clear hK K
      (try simp only [Act.put, List.setIfInBounds_toArray, List.set_cons_zero, List.set_cons_succ])
      refine wpAnyH_ready (rs := [1]) (by kernel_rfl) (by simp) ?_
      refine AllReadyH.cons (o := { dst := some 15, op := Op.load 22 (Operand.tmp 14), type := 22, pos := "series.go:31", after := #[{ on := 0, ground := Ground.data }], guard := none }) rfl (fun K hK => ?_) AllReadyH.nil
      go_simp
      try dsimp only
      refine hK.out _ _ trivial (fun hHeld => ?_)
      clear hK K
      (try simp only [Act.put, List.setIfInBounds_toArray, List.set_cons_zero, List.set_cons_succ])
      refine wpAnyH_ready (rs := [6]) (by kernel_rfl) (by simp) ?_
      refine AllReadyH.cons (o := { dst := some 20, op := Op.call { callee := Callee.builtin Builtin.append, args := #[Operand.tmp 15, Operand.tmp 19], argTypes := #[22, 22] }, type := 22, pos := "series.go:31", after := #[{ on := 1, ground := Ground.data }, { on := 5, ground := Ground.data }, { on := 3, ground := Ground.chain }], guard := none }) rfl (fun K hK => ?_) AllReadyH.nil
      refine step_append_run rfl (.tmp 15) (.tmp 19) 22 rfl _ _ _ _ rfl rfl (hr6 _ rfl) ?_
      refine hK.out _ _ trivial (fun hHeld => ?_)
      clear hK K
      (try simp only [Act.put, List.setIfInBounds_toArray, List.set_cons_zero, List.set_cons_succ])
      refine wpAnyH_take (i := 7) (oi := { dst := some 21, op := Op.fieldAddr 24 (Operand.tmp 5) 1, type := 0, pos := "series.go:31", after := #[{ on := 0, ground := Ground.phase }, { on := 1, ground := Ground.phase }, { on := 2, ground := Ground.phase }, { on := 3, ground := Ground.phase }, { on := 4, ground := Ground.phase }, { on := 5, ground := Ground.phase }, { on := 6, ground := Ground.phase }], guard := none }) (v := ?_) rfl (by kernel_rfl) (by kernel_rfl) (by kernel_rfl) (fun _ _ _ h => h) (Or.inl ⟨by rfl, ?_⟩) (by assumption) ?_
      rotate_left 1
      · (intro w0 hSw; (try dsimp only at hSw); go_simp; try with_reducible rfl)
      (try simp only [Act.put, List.setIfInBounds_toArray, List.set_cons_zero, List.set_cons_succ])
      refine wpAnyH_ready (rs := [8]) (by kernel_rfl) (by simp) ?_
      refine AllReadyH.cons (o := { dst := none, op := Op.store 22 (Operand.tmp 21) (Operand.tmp 20), type := 0, pos := "series.go:31", after := #[{ on := 7, ground := Ground.data }, { on := 6, ground := Ground.data }, { on := 6, ground := Ground.chain }, { on := 0, ground := Ground.phase }, { on := 1, ground := Ground.phase }, { on := 2, ground := Ground.phase }, { on := 3, ground := Ground.phase }, { on := 4, ground := Ground.phase }, { on := 5, ground := Ground.phase }, { on := 6, ground := Ground.phase }], guard := none }) rfl (fun K hK => ?_) AllReadyH.nil
      go_simp
      try dsimp only
      refine hK.out _ _ trivial (fun hHeld => ?_)
      clear hK K
      (try simp only [Act.put, List.setIfInBounds_toArray, List.set_cons_zero, List.set_cons_succ])
      refine wpAnyH_done (by kernel_rfl) ?_ _
      refine NoPanic.normal ?_
      have hrel2 : Hid _ := Ke
      go_wp2_with fail
      go_roundg (l.length - st4.1)
      case measure => rw [hgkH.out]; exact hmeas.out
      case rel => exact ⟨st4, _, _, rfl, l4, hal4, hR2, hrel2⟩

    | false =>
      rw [hf] at cF
      have en : nextP l 44 st = st := by unfold nextP; rw [hf]; rfl
      rw [en] at cF
      have hTL : tagsL l = (acc, st) := by rw [← hR.out]; exact tagsR_end acc hf hle.out
      have hser : Hid (serP l = ⟨mb, acc, ba (wordP l (mustP l 32 st)).1⟩) := by
        show serP l = ⟨mb, acc, ba (wordP l (mustP l 32 st)).1⟩
        unfold serP fieldP; rw [hTL, hmbH.out]
      have hstop : Hid (stopP l = endP l (wordP l (mustP l 32 st)).2) := by
        show stopP l = endP l (wordP l (mustP l 32 st)).2
        unfold stopP fieldP; rw [hTL]
      have l2 : Hid ((mustP l 32 st).1 ≤ l.length) := (mustP_le hle.out).2
      have l3 : Hid ((wordP l (mustP l 32 st)).2.1 ≤ l.length) := (wordP_le l2.out).2
      clear hf en hTL hR
      go_wp2_with fail
      refine Calls.mono cF.out ?_
      rintro e wa ⟨rfl, Ra, Ga⟩
      have Ka : Hid (KP w (w.heap.size + 1) R s mb ⟨#[]⟩ v acc st wa) := hK.out.step Ra Ga
      clear Ra Ga cF hK
      go_wp2_with fail
      refine Calls.mono (hM.out _ 32 st wa Ka.out.rd hle.out) ?_
      rintro e wb ⟨rfl, Rb, Gb⟩
      have Kb : Hid (KP w (w.heap.size + 1) R s mb ⟨#[]⟩ v acc (mustP l 32 st) wb) := Ka.out.step Rb Gb
      clear Rb Gb Ka
      obtain ⟨st2, hst2⟩ : ∃ st2, st2 = mustP l 32 st := ⟨_, rfl⟩
      rw [← hst2] at Kb l2 l3 hser hstop
      clear hst2
      go_wp2_with fail
      refine Calls.mono (hW.out _ st2 wb Kb.out.rd Kb.out.bl l2.out) ?_
      rintro e wc ⟨rfl, Rc, Gc⟩
      have Kc : Hid (KP w (w.heap.size + 1) R s mb ⟨#[]⟩ v acc (wordP l st2).2 wc) := Kb.out.step Rc Gc
      clear Rc Gc Kb
      obtain ⟨fb, hfb⟩ : ∃ fb, fb = ba (wordP l st2).1 := ⟨_, rfl⟩
      obtain ⟨st3, hst3⟩ : ∃ st3, st3 = (wordP l st2).2 := ⟨_, rfl⟩
      rw [← hfb] at hser
      rw [← hst3] at Kc l3 hstop
      rw [← hfb]
      clear hst3 hfb
      have Kd : Hid (KP w (w.heap.size + 1) R s mb fb v acc st3 (wc.setCell ⟨R, 2, none⟩ (.string fb))) := Kc.out.field fb
      have c2 : wc.cell? ⟨R, 2, none⟩ = some (.string ⟨#[]⟩) := Kc.out.r2
      have c2f : wc.frozen? ⟨R, 2, none⟩ = false := Kc.out.f2
      go_wp2_with fail
      refine Calls.mono (hE.out _ st3 _ Kd.out.rd l3.out) ?_
      rintro e we ⟨rfl, Re, Ge⟩
      have Ke : Hid (KP w (w.heap.size + 1) R s mb fb v acc (endP l st3) we) := Kd.out.step Re Ge
      clear Re Ge Kd Kc c2 c2f
      obtain ⟨st4, hst4⟩ : ∃ st4, st4 = endP l st3 := ⟨_, rfl⟩
      rw [← hst4] at Ke hstop
      clear hst4
      obtain ⟨hKrd, hKb⟩ : RdA (w.heap.size + 1) s st4 we ∧ Below w.heap.size w we := ⟨Ke.out.rd, Ke.out.bl⟩
      obtain ⟨at4, fl4⟩ := st4
      have hres : Hid (resE l = errF fl4 (rightN ⟨mb, acc, fb⟩)) := by
        show resE l = errF fl4 (rightN ⟨mb, acc, fb⟩)
        unfold resE; rw [hstop.out, hser.out]
      have hresS : Hid (resS l = if fl4 = none ∧ rightN ⟨mb, acc, fb⟩ = 0 then ⟨mb, acc, fb⟩ else ⟨⟨#[]⟩, [], ⟨#[]⟩⟩) := by
        show resS l = if fl4 = none ∧ rightN ⟨mb, acc, fb⟩ = 0 then ⟨mb, acc, fb⟩ else ⟨⟨#[]⟩, [], ⟨#[]⟩⟩
        unfold resS; rw [hstop.out, hser.out]
      clear hser hstop
      obtain ⟨⟨z0, z1, z2⟩, y0, y1, y2⟩ := ms_cells Ke.out.ms
      obtain ⟨_, _, n1, n2, nf1, nf2⟩ := hKrd
      have hr0 := Ke.out.r0
      have hr1 := Ke.out.r1
      have hr2 := Ke.out.r2
      have hNM := Ke.out.hN
      cases fl4 with
      | some p =>
        simp only [fV, atV_eq] at n2
        have bfin : Hid (Below w.heap.size w (((we.setCell ⟨w.heap.size, 0, none⟩ (.string ⟨#[]⟩)).setCell ⟨w.heap.size, 1, none⟩ (.slice none 0 0)).setCell ⟨w.heap.size, 2, none⟩ (.string ⟨#[]⟩)).drew) := (set3 hKb (Nat.le_refl _)).drew
        go_wp2_with fail
        go_region
        all_goals go_wp2_with fail
        refine bodyPost_ret (v := .tuple #[.agg #[.string ⟨#[]⟩, .slice none 0 0, .string ⟨#[]⟩], .iface 94 (atY p)]) ?_ rfl ?_
        · simp [results, Tryz.results5, go_sem, z0, z1, z2]
        · rw [hres.out, hresS.out]
          exact ⟨.slice none 0 0, rfl, OT.nil _ _, bfin.out⟩
      | none =>
        simp only [fV] at n2
        obtain ⟨va, vc, ev, hvc, hti⟩ := Ke.out.own.tin
        subst ev
        have hbig : acc.length ≤ 9223372036854775807 := by have a1 := hal.out; have a2 := hle.out; have a3 := hlen.out; omega
        have hUT : UT we := hT.below hKb (Nat.le_refl _)
        have hsi : SerIn we va ⟨mb, acc, fb⟩ := ⟨hti, hbig⟩
        have cR : Hid (Calls Tryz.prog 23 #[.agg #[.string mb, .slice va acc.length vc, .string fb]] we fun e w' => e = .returned (erN (rightN ⟨mb, acc, fb⟩)) ∧ Below we.heap.size we w') := right_any va vc ⟨mb, acc, fb⟩ we hsi hUT
        clear hUT hsi
        clear hvc hti hbig
        have hS : Hid (∀ wf e, Below we.heap.size we wf → KP w (w.heap.size + 1) R s mb fb (.slice va acc.length vc) acc (at4, none) wf ∧ (wf.setCell ⟨w.heap.size + 1, 2, none⟩ e).cell? ⟨w.heap.size + 1, 2, none⟩ = some e ∧ (∀ i, (wf.setCell ⟨w.heap.size + 1, 2, none⟩ e).cell? ⟨R, i, none⟩ = wf.cell? ⟨R, i, none⟩) ∧ (∀ i, (wf.setCell ⟨w.heap.size + 1, 2, none⟩ e).cell? ⟨w.heap.size, i, none⟩ = wf.cell? ⟨w.heap.size, i, none⟩) ∧ (∀ i, (wf.setCell ⟨w.heap.size + 1, 2, none⟩ e).frozen? ⟨w.heap.size, i, none⟩ = wf.frozen? ⟨w.heap.size, i, none⟩) ∧ Below w.heap.size w (wf.setCell ⟨w.heap.size + 1, 2, none⟩ e) ∧ OT (wf.setCell ⟨w.heap.size + 1, 2, none⟩ e) (w.heap.size + 1) (.slice va acc.length vc) acc) := fun wf e hb => by
          have Kf : KP w (w.heap.size + 1) R s mb fb (.slice va acc.length vc) acc (at4, none) wf := Ke.out.step (Ke.out.rd.below hb Ke.out.rd.1) (grown_of_below _ hb)
          have hgs := grown_set wf (w.heap.size + 1) 2 e
          have hlt := Kf.hRl
          have hRR := Kf.hR
          refine ⟨Kf, World.cell?_setCell_same _ _ _ Kf.rd.2.2.2.1, fun i => grown_cell hgs (p := ⟨R, i, none⟩) hlt (by simp; omega), fun i => grown_cell hgs (p := ⟨w.heap.size, i, none⟩) (by simp; omega) (by simp), fun i => grown_frozen hgs (p := ⟨w.heap.size, i, none⟩) (by simp; omega) (by simp), Kf.bl.trans ⟨rfl, rfl, rfl, by simp, fun k hk => Below.heap_setCell _ _ _ _ (by show k ≠ w.heap.size + 1; omega)⟩, (Kf.own.grown hgs (by omega)).mono (by omega)⟩
        obtain ⟨n, hn⟩ : ∃ n, n = rightN ⟨mb, acc, fb⟩ := ⟨_, rfl⟩
        rw [← hn] at hres hresS cR
        clear hn Ke z0 z1 z2 y0 y1 y2 nf1 n1
        by_cases h0 : n = 0
        · subst h0
          simp only [erN, if_true] at cR
          go_wp2_with fail
          refine Calls.mono cR.out ?_
          rintro e wf ⟨rfl, Bf⟩
          obtain ⟨Kf, j0, j1, j2, j3, j4, j5⟩ := hS.out wf .nilIface Bf
          have j4H : Hid _ := j4
          have j5H : Hid _ := j5
          obtain ⟨⟨z0, z1, z2⟩, y0, y1, y2⟩ := ms_cells Kf.ms
          have i0 := (j1 0).trans Kf.r0
          have i1 := (j1 1).trans Kf.r1
          have i2 := (j1 2).trans Kf.r2
          have k0 := (j2 0).trans z0
          have k1 := (j2 1).trans z1
          have k2 := (j2 2).trans z2
          have x0 := (j3 0).trans y0
          have x1 := (j3 1).trans y1
          have x2 := (j3 2).trans y2
          have q2 := Kf.rd.2.2.2.1
          have qf := Kf.rd.2.2.2.2.2
          simp only [fV] at q2
          clear j1 j2 j3 j4 j5 z0 z1 z2 y0 y1 y2 Kf
          go_wp2_with fail
          refine bodyPost_ret (v := .tuple #[.agg #[.string mb, .slice va acc.length vc, .string fb], .nilIface]) ?_ rfl ?_
          · simp [results, Tryz.results5, go_sem, k0, k1, k2]
          · rw [hres.out, hresS.out]
            rw [if_pos (by simp)]
            exact ⟨.slice va acc.length vc, rfl, OT.set3 (w := wf.setCell ⟨w.heap.size + 1, 2, none⟩ .nilIface) j5H.out, set3 j4H.out (Nat.le_refl _)⟩
        · simp only [erN, if_neg h0] at cR
          go_wp2_with fail
          refine Calls.mono cR.out ?_
          rintro e wf ⟨rfl, Bf⟩
          obtain ⟨Kf, j0, j1, j2, j3, j4, j5⟩ := hS.out wf (.iface 29 (.int .i64 n)) Bf
          have j4H : Hid _ := j4
          have j5H : Hid _ := j5
          obtain ⟨⟨z0, z1, z2⟩, y0, y1, y2⟩ := ms_cells Kf.ms
          have i0 := (j1 0).trans Kf.r0
          have i1 := (j1 1).trans Kf.r1
          have i2 := (j1 2).trans Kf.r2
          have k0 := (j2 0).trans z0
          have k1 := (j2 1).trans z1
          have k2 := (j2 2).trans z2
          have x0 := (j3 0).trans y0
          have x1 := (j3 1).trans y1
          have x2 := (j3 2).trans y2
          have q2 := Kf.rd.2.2.2.1
          have qf := Kf.rd.2.2.2.2.2
          simp only [fV] at q2
          clear j1 j2 j3 j4 j5 z0 z1 z2 y0 y1 y2 Kf
          go_wp2_with fail
          go_region
          all_goals go_wp2_with fail
          refine bodyPost_ret (v := .tuple #[.agg #[.string ⟨#[]⟩, .slice none 0 0, .string ⟨#[]⟩], .iface 29 (.int .i64 n)]) ?_ rfl ?_
          · simp [results, Tryz.results5, go_sem, k0, k1, k2]
          · rw [hres.out, hresS.out]
            rw [if_neg (fun hx => h0 hx.2)]
            simp only [errF, erN, if_neg h0]
            exact ⟨.slice none 0 0, rfl, OT.nil _ _, (set3 j4H.out (Nat.le_refl _)).drew⟩
end Go.Proofs.YtfpfeecoideedaaGreatDoor

namespace Go.Proofs.YtfpfeecoideedaaGreatDoor
open Go.RowKit Go.Shelf
attribute [local go_sem] Oper.semAt_some
set_option linter.unusedVariables false
set_option linter.unusedSimpArgs false
theorem printT_le {s : SerP} (h : rightN s = 0) : (printT s).length ≤ 1000000 := by
  obtain ⟨h1, h2, h3, h4⟩ := right_parts h
  have e1 := escL_len s.m.data.toList
  have e2 := escL_len s.f.data.toList
  have e3 := flat_tag_len s.t h4
  have m1 : s.m.data.toList.length = s.m.size := (Lib.size_eq _).symm
  have m2 : s.f.data.toList.length = s.f.size := (Lib.size_eq _).symm
  unfold printT
  simp only [List.length_append, List.length_cons]
  omega
theorem printT_ne (s : SerP) : ¬ (ba (printT s) = (⟨#[]⟩ : ByteArray)) := by
  intro h
  have h1 : (ba (printT s)).data.toList = [] := by rw [h]
  rw [ba_data] at h1
  unfold printT at h1
  simp at h1
theorem serM_any (s : SerP) (h : rightN s = 0) : SerM s := by
  obtain ⟨h1, h2, h3, h4⟩ := right_parts h
  exact ⟨mk_extract _ (by omega), mk_extract _ (by omega), fun t ht => ⟨mk_extract _ (by have := (h4 t ht).1; omega), mk_extract _ (by have := (h4 t ht).2; omega)⟩⟩
theorem res_print {s : SerP} (h : rightN s = 0) : resS (printT s) = s ∧ resE (printT s) = .nilIface := by
  obtain ⟨h1, h2⟩ := parse_print s
  constructor
  · unfold resS
    rw [h1, if_pos ⟨h2, h⟩]
  · unfold resE
    rw [h1, h2, h]
    rfl
/-- two ways that a read ends. -/
theorem res_two (l : List UInt8) : (∃ t v, resE l = .iface t v) ∨ (resE l = .nilIface ∧ rightN (resS l) = 0 ∧ printT (resS l) = l) := by
  unfold resE
  cases h : (stopP l).2 with
  | some p => exact Or.inl ⟨_, _, rfl⟩
  | none =>
    simp only [errF]
    by_cases h0 : rightN (serP l) = 0
    · right
      have e : resS l = serP l := by unfold resS; rw [if_pos ⟨h, h0⟩]
      rw [e]
      exact ⟨by rw [h0]; rfl, h0, print_parse l h⟩
    · left
      exact ⟨_, _, by rw [erN, if_neg h0]⟩
/-- a series in three cells of a block of one's own. -/
def SB (w : World) (N : Nat) (m : ByteArray) (v : Value) (f : ByteArray) (W : World) : Prop := (N < W.heap.size ∧ Below w.heap.size w W) ∧ (W.cell? ⟨N, 0, none⟩ = some (.string m) ∧ W.cell? ⟨N, 1, none⟩ = some v ∧ W.cell? ⟨N, 2, none⟩ = some (.string f)) ∧ W.frozen? ⟨N, 0, none⟩ = false ∧ W.frozen? ⟨N, 1, none⟩ = false ∧ W.frozen? ⟨N, 2, none⟩ = false
theorem SB.new (w : World) (m : ByteArray) (v : Value) (f : ByteArray) (hv : ∃ a n c, v = .slice a n c) (W : World) (hb : Below w.heap.size w W) : SB w W.heap.size m v f (W.alloc (.cells #[.string m, v, .string f] 24)) := by
  obtain ⟨a, n, c, rfl⟩ := hv
  exact ⟨⟨by simp, hb.alloc hb.size _⟩, ⟨by simp [go_sem], by simp [go_sem], by simp [go_sem]⟩, by simp [go_sem], by simp [go_sem], by simp [go_sem]⟩
theorem SB.below {w : World} {N : Nat} {m f : ByteArray} {v : Value} {W W' : World} (h : SB w N m v f W) (hb : Below W.heap.size W W') : SB w N m v f W' := by
  obtain ⟨⟨a1, a2⟩, ⟨h0, h1, h2⟩, f0, f1, f2⟩ := h
  refine ⟨⟨Nat.lt_of_lt_of_le a1 hb.size, a2.trans (hb.mono a2.size)⟩, ⟨?_, ?_, ?_⟩, ?_, ?_, ?_⟩
  · rw [hb.cell (p := ⟨N, 0, none⟩) a1]; exact h0
  · rw [hb.cell (p := ⟨N, 1, none⟩) a1]; exact h1
  · rw [hb.cell (p := ⟨N, 2, none⟩) a1]; exact h2
  · rw [hb.frozen (p := ⟨N, 0, none⟩) a1]; exact f0
  · rw [hb.frozen (p := ⟨N, 1, none⟩) a1]; exact f1
  · rw [hb.frozen (p := ⟨N, 2, none⟩) a1]; exact f2
theorem SB.set {w : World} {N : Nat} {m f m' f' : ByteArray} {v v' : Value} {W : World} (h : SB w N m v f W) (hN : w.heap.size ≤ N) : SB w N m' v' f' (((W.setCell ⟨N, 0, none⟩ (.string m')).setCell ⟨N, 1, none⟩ v').setCell ⟨N, 2, none⟩ (.string f')) := by
  obtain ⟨⟨a1, a2⟩, ⟨h0, h1, h2⟩, f0, f1, f2⟩ := h
  refine ⟨⟨by simpa using a1, set3 a2 hN⟩, ⟨?_, ?_, ?_⟩, by simp [go_sem, f0], by simp [go_sem, f1], by simp [go_sem, f2]⟩ <;> simp [go_sem, h0, h1, h2]
end Go.Proofs.YtfpfeecoideedaaGreatDoor

namespace Go.Proofs.YtfpfeecoideedaaGreatDoor
open Go.RowKit Go.Shelf
attribute [local go_sem] Oper.semAt_some
set_option linter.unusedVariables false
set_option linter.unusedSimpArgs false
def mkT : TagP := (⟨#[109, 97, 114, 107]⟩, ⟨#[]⟩)
set_option maxRecDepth 100000 in
set_option maxHeartbeats 4000000 in
theorem lent_any (a : Option Addr) (l : List TagP) (c : Nat) (w : World) (hl : l.length ≤ 4398046511000) (ha : TgIn w a l) :
    Calls Tryz.prog 10 #[.slice a l.length c] w fun e w' => ∃ g q, e = .returned (.slice (some ⟨g, 0, none⟩) l.length q) ∧ w.heap.size ≤ g ∧ l.length + 1 ≤ q ∧ TgIn w' (some ⟨g, 0, none⟩) (l ++ [mkT]) ∧ Below w.heap.size w w' := by
  obtain ⟨v1, w1, hr1, ho1, hg1, hv1⟩ := appT w w.heap.size (.slice none 0 0) [] l (OT.nil _ _) (Nat.le_refl _) a c ha (by simp; omega)
  rw [List.nil_append] at ho1
  have b1 : Below w.heap.size w w1 := grown_below (OT.nil w w.heap.size) (Nat.le_refl _) hg1
  have ho2 : OT (w1.alloc (.cells #[.string ⟨#[109, 97, 114, 107]⟩, .string ⟨#[]⟩] 82)) w.heap.size v1 l := ho1.below ((Below.refl _ w1).alloc (Nat.le_refl _) _) (Nat.le_refl _)
  obtain ⟨v2, w2, hr2, ho3, hg2, hv2⟩ := appT _ w.heap.size v1 l [mkT] ho2 (by have := b1.size; simp; omega) (some ⟨w1.heap.size, 0, none⟩) 1 (Or.inr ⟨w1.heap.size, 0, rfl, by simp, fun i t ht => by
    cases i with
    | zero => simp at ht; subst ht; exact ⟨by simp [go_sem, mkT], by simp [go_sem, mkT]⟩
    | succ i => simp at ht⟩) (by simp; omega)
  have b2 : Below w.heap.size w w2 := (b1.alloc b1.size _).trans (grown_below ho2 (by have := b1.size; simp; omega) hg2)
  obtain ⟨a1, c1, e1, _, _⟩ := ho1.tin
  obtain ⟨a2, c2, e2, hc2, ht2⟩ := ho3.tin
  have e3 : ∃ g, a2 = some ⟨g, 0, none⟩ ∧ w.heap.size ≤ g := by
    rcases World.ownsRow.form ho3 (by simp) with ⟨g, cap, e, hB, _⟩
    rw [e2] at e
    injection e with e
    exact ⟨g, e, hB⟩
  obtain ⟨g, rfl, hgB⟩ := e3
  subst e1 e2
  rw [List.length_append, List.length_singleton] at hr2 hc2
  have hr1H : Hid (∀ W, W = w → (Builtin.append_ #[22, 22] 22 #[.slice none 0 0, .slice a l.length c]).run Tryz.prog W = .ok (.slice a1 l.length c1) w1) := fun W e => by subst e; exact hr1
  have hr2H : Hid (∀ W, W = w1.alloc (.cells #[.string ⟨#[109, 97, 114, 107]⟩, .string ⟨#[]⟩] 82) → (Builtin.append_ #[22, 22] 22 #[.slice a1 l.length c1, .slice (some ⟨w1.heap.size, 0, none⟩) 1 1]).run Tryz.prog W = .ok (.slice (some ⟨g, 0, none⟩) (l.length + 1) c2) w2) := fun W e => by subst e; exact hr2
  have hfin : Hid (w.heap.size ≤ g ∧ l.length + 1 ≤ c2 ∧ TgIn w2 (some ⟨g, 0, none⟩) (l ++ [mkT]) ∧ Below w.heap.size w w2) := ⟨hgB, hc2, ht2, b2⟩
  have hlI : (l.length : Int) ≤ (c2 : Int) := by omega
  have hl0 : (0 : Int) ≤ (l.length : Int) := by omega
  clear hgB hr1 hr2 ho1 ho2 ho3 hg1 hg2 hv1 hv2 b1 b2 hc2 ht2 ha hl
  generalize l.length = n at *
  go_enter Tryz.func10, Tryz.ntmps10
  go_wp2_with (first | (at_builtin; refine wpList_append_run (by rfl) _ _ _ (by rfl) _ _ _ _ (by rfl) (by rfl) (hr1H.out _ rfl) ?_) | (at_builtin; refine wpList_append_run (by rfl) _ _ _ (by rfl) _ _ _ _ (by rfl) (by rfl) (hr2H.out _ rfl) ?_))
  go_ret
  exact ⟨g, c2, rfl, hfin.out⟩
set_option maxRecDepth 100000 in
theorem sameTags_any (a b : Option Addr) (l : List TagP) (c1 c2 : Nat) (w : World) (hl : l.length ≤ 9223372036854775807) (ha : TgIn w a l) (hb : TgIn w b l) :
    Calls Tryz.prog 70 #[.slice a l.length c1, .slice b l.length c2] w fun e w' => e = .returned (.bool true) ∧ Below w.heap.size w w' := by
  have c := ctags_any a b l l c1 c2 w hl hl ha hb
  rw [show tagsC l l = 0 from (tagsC_is.zero l l).2 rfl] at c
  have cH : Hid (Calls Tryz.prog 85 #[.slice a l.length c1, .slice b l.length c2] w fun e w' => e = .returned (.int .i64 0) ∧ Below w.heap.size w w') := c
  clear c ha hb hl
  generalize l.length = n at *
  go_enter Tryz.func70, Tryz.ntmps70
  go_wp2_with fail
  refine Calls.mono cH.out ?_
  rintro e w1 ⟨rfl, hb1⟩
  go_wp2_with fail
  go_ret
  exact ⟨rfl, hb1⟩
theorem TgIn.pre {w : World} {a : Option Addr} {l m : List TagP} (h : TgIn w a (l ++ m)) : TgIn w a l := by
  rcases h with h | ⟨b, off, e, hb, hc⟩
  · exact Or.inl (List.append_eq_nil_iff.1 h).1
  · refine Or.inr ⟨b, off, e, hb, fun i t ht => hc i t ?_⟩
    rw [List.getElem?_append_left (List.getElem?_eq_some_iff.1 ht).1]; exact ht
set_option maxRecDepth 100000 in
set_option maxHeartbeats 4000000 in
theorem kept_any (g q : Nat) (b : Option Addr) (l : List TagP) (c : Nat) (w : World) (hl : l.length ≤ 4398046511000) (hq : l.length + 1 ≤ q) (ha : TgIn w (some ⟨g, 0, none⟩) (l ++ [mkT])) (hb : TgIn w b l) :
    Calls Tryz.prog 18 #[.slice (some ⟨g, 0, none⟩) l.length q, .slice b l.length c] w fun e w' => e = .returned (.bool true) ∧ Below w.heap.size w w' := by
  have cS : Hid (Calls Tryz.prog 70 #[.slice (some ⟨g, 0, none⟩) l.length q, .slice b l.length c] w fun e w' => e = .returned (.bool true) ∧ Below w.heap.size w w') := sameTags_any _ b l q c w (by omega) ha.pre hb
  have hm : g < w.heap.size ∧ w.cell? ⟨g, l.length * 2, none⟩ = some (.string ⟨#[109, 97, 114, 107]⟩) ∧ w.cell? ⟨g, l.length * 2 + 1, none⟩ = some (.string ⟨#[]⟩) := by
    rcases ha with h | ⟨b', off, e, hb', hc⟩
    · simp at h
    · injection e with e
      injection e with e1 e2 e3
      subst e1 e2
      obtain ⟨k1, k2⟩ := hc l.length mkT (by simp)
      rw [Nat.zero_add] at k1 k2
      exact ⟨hb', k1, k2⟩
  have hmH : Hid (∀ w1, Below w.heap.size w w1 → w1.cell? ⟨g, l.length * 2, none⟩ = some (.string ⟨#[109, 97, 114, 107]⟩) ∧ w1.cell? ⟨g, l.length * 2 + 1, none⟩ = some (.string ⟨#[]⟩)) := fun w1 h => ⟨by rw [h.cell (p := ⟨g, l.length * 2, none⟩) hm.1]; exact hm.2.1, by rw [h.cell (p := ⟨g, l.length * 2 + 1, none⟩) hm.1]; exact hm.2.2⟩
  have k1 : (l.length : Int) + 1 ≤ (q : Int) := by omega
  have k2 : (0 : Int) ≤ (l.length : Int) + 1 := by omega
  have k3 : -9223372036854775808 ≤ (l.length : Int) + 1 ∧ (l.length : Int) + 1 ≤ 9223372036854775807 := by omega
  have k4 : (l.length : Int) < (l.length : Int) + 1 := by omega
  have k5 : (0 : Int) ≤ (l.length : Int) := by omega
  have wk : wrap64 ((l.length : Int) + 1) = (l.length : Int) + 1 := IntWalk.wrap64_in _ k3
  have wi : IntKind.i64.wrap ((l.length : Int) + 1) = (l.length : Int) + 1 := IntWalk.i64_in _ k3
  clear hm ha hb hl k3
  generalize l.length = n at *
  go_enter Tryz.func18, Tryz.ntmps18
  go_wp2_with fail
  refine Calls.mono cS.out ?_
  rintro e w1 ⟨rfl, b1⟩
  obtain ⟨m1, m2⟩ := hmH.out w1 b1
  go_wp2_with fail
  go_ret
  exact ⟨rfl, b1⟩
end Go.Proofs.YtfpfeecoideedaaGreatDoor
