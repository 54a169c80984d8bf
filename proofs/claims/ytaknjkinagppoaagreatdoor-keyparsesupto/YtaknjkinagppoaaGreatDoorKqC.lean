
import Derived.Test.YtaknjkinagppoaaGreatDoorKqB
namespace Go.Proofs.YtaknjkinagppoaaGreatDoor
open Go.RowKit Go.Shelf
set_option linter.unusedVariables false
set_option linter.unusedSimpArgs false
theorem word_sign (p t r : List UInt8) (c : UInt8) (hb : mkL.contains c = true) (h92 : c ≠ 92) : wordP (p ++ (escL t ++ c :: r)) (p.length, none) = (t, (p.length + (escL t).length, none)) := by
  unfold wordP
  rw [if_pos rfl]
  simp only
  rw [List.drop_left, uneT_sign t r c hb h92]
theorem word_end (p t : List UInt8) : wordP (p ++ escL t) (p.length, none) = (t, (p.length + (escL t).length, none)) := by
  unfold wordP
  rw [if_pos rfl]
  simp only
  rw [List.drop_left, uneT_esc t]
theorem fol_here (p r : List UInt8) (c d : UInt8) : folP (p ++ c :: r) d (p.length, none) = decide (c = d) := by
  unfold folP
  simp
theorem must_here (p r : List UInt8) (c : UInt8) : mustP (p ++ c :: r) c (p.length, none) = (p.length + 1, none) := by
  unfold mustP
  rw [fol_here]
  simp
theorem ba_back (t : ByteArray) : ba t.data.toList = t := by unfold ba; simp
theorem one_here (p r : List UInt8) (c : UInt8) (t : TagP) (hb : mkL.contains c = true) (h92 : c ≠ 92) : oneP (p ++ (tagT t ++ c :: r)) (p.length + 1, none) = (t, ((p ++ tagT t).length, none)) := by
  have e1 : p ++ (tagT t ++ c :: r) = (p ++ [44]) ++ (escL t.1.data.toList ++ 61 :: (escL t.2.data.toList ++ c :: r)) := by simp [tagT]
  have w1 := word_sign (p ++ [44]) t.1.data.toList (escL t.2.data.toList ++ c :: r) 61 (by decide) (by decide)
  rw [← e1] at w1
  rw [show (p ++ [(44 : UInt8)]).length = p.length + 1 by simp] at w1
  have e2 : p ++ (tagT t ++ c :: r) = (p ++ 44 :: escL t.1.data.toList) ++ 61 :: (escL t.2.data.toList ++ c :: r) := by simp [tagT]
  have w2 := must_here (p ++ 44 :: escL t.1.data.toList) (escL t.2.data.toList ++ c :: r) 61
  rw [← e2] at w2
  rw [show (p ++ (44 : UInt8) :: escL t.1.data.toList).length = p.length + 1 + (escL t.1.data.toList).length by simp; omega] at w2
  have e3 : p ++ (tagT t ++ c :: r) = (p ++ (44 :: escL t.1.data.toList ++ [61])) ++ (escL t.2.data.toList ++ c :: r) := by simp [tagT]
  have w3 := word_sign (p ++ (44 :: escL t.1.data.toList ++ [61])) t.2.data.toList r c hb h92
  rw [← e3] at w3
  rw [show List.length (p ++ ((44 : UInt8) :: escL t.1.data.toList ++ [(61 : UInt8)])) = p.length + 1 + (escL t.1.data.toList).length + 1 by simp; omega] at w3
  unfold oneP
  rw [w1]
  simp only
  rw [w2, w3]
  simp only [ba_back]
  refine Prod.ext rfl (Prod.ext ?_ rfl)
  simp [tagT]; omega
theorem tags_here : ∀ (ts : List TagP) (p r : List UInt8) (acc : List TagP), tagsR (p ++ (ts.flatMap tagT ++ 32 :: r)) (p.length, none) acc = (acc ++ ts, ((p ++ ts.flatMap tagT).length, none))
  | [], p, r, acc => by
    rw [tagsR_end]
    · simp
    · show folP (p ++ 32 :: r) 44 (p.length, none) = false
      rw [fol_here]; decide
    · simp
  | t :: ts, p, r, acc => by
    have hc : ∃ c r', (ts.flatMap tagT ++ 32 :: r) = c :: r' ∧ mkL.contains c = true ∧ c ≠ 92 := by
      cases ts with
      | nil => exact ⟨32, r, rfl, by decide, by decide⟩
      | cons u us => exact ⟨44, _, rfl, by decide, by decide⟩
    obtain ⟨c, r', e, hb, h92⟩ := hc
    have e1 : p ++ ((t :: ts).flatMap tagT ++ 32 :: r) = p ++ (tagT t ++ c :: r') := by rw [List.flatMap_cons, List.append_assoc, e]
    have hf : folP (p ++ (tagT t ++ c :: r')) 44 (p.length, none) = true := by
      show folP (p ++ 44 :: _) 44 (p.length, none) = true
      rw [fol_here]; decide
    rw [e1, tagsR_step acc hf, one_here p r' c t hb h92]
    simp only
    rw [← e, ← List.append_assoc, tags_here ts (p ++ tagT t) r (acc ++ [t])]
    simp [List.append_assoc]
/-- a key that was printed is read. -/
theorem parse_print (s : SerP) : serP (printT s) = s ∧ (stopP (printT s)).2 = none := by
  have hc : ∃ c r', (s.t.flatMap tagT ++ 32 :: escL s.f.data.toList) = c :: r' ∧ mkL.contains c = true ∧ c ≠ 92 := by
    cases s.t with
    | nil => exact ⟨32, _, rfl, by decide, by decide⟩
    | cons u us => exact ⟨44, _, rfl, by decide, by decide⟩
  obtain ⟨c, r', e, hb, h92⟩ := hc
  have e0 : printT s = escL s.m.data.toList ++ (s.t.flatMap tagT ++ 32 :: escL s.f.data.toList) := by unfold printT; rw [List.append_assoc]
  have h1 : measP (printT s) = (s.m.data.toList, ((escL s.m.data.toList).length, none)) := by
    unfold measP
    rw [e0, e]
    have := word_sign [] s.m.data.toList r' c hb h92
    simpa using this
  have h2 : tagsL (printT s) = (s.t, ((escL s.m.data.toList ++ s.t.flatMap tagT).length, none)) := by
    unfold tagsL
    rw [h1]
    simp only
    rw [e0]
    exact tags_here s.t _ _ []
  have h3 : mustP (printT s) 32 (tagsL (printT s)).2 = ((escL s.m.data.toList ++ s.t.flatMap tagT).length + 1, none) := by
    rw [h2]
    exact must_here (escL s.m.data.toList ++ s.t.flatMap tagT) (escL s.f.data.toList) 32
  have h4 : fieldP (printT s) = (s.f.data.toList, ((printT s).length, none)) := by
    unfold fieldP
    rw [h3]
    have := word_end (escL s.m.data.toList ++ s.t.flatMap tagT ++ [32]) s.f.data.toList
    have e5 : escL s.m.data.toList ++ s.t.flatMap tagT ++ [32] ++ escL s.f.data.toList = printT s := by unfold printT; simp
    rw [e5] at this
    rw [show (escL s.m.data.toList ++ s.t.flatMap tagT ++ [(32 : UInt8)]).length = (escL s.m.data.toList ++ s.t.flatMap tagT).length + 1 by simp; omega] at this
    rw [this]
    refine Prod.ext rfl (Prod.ext ?_ rfl)
    unfold printT; simp; omega
  constructor
  · unfold serP
    rw [h1, h2, h4]
    simp only [ba_back]
  · unfold stopP endP
    rw [h4]
    simp
theorem word_stay {l : List UInt8} {st : StP} (h : st.2 ≠ none) : (wordP l st).2 = st := by unfold wordP; rw [if_neg h]
theorem fail_some (st : StP) (p : Int) : (failP st p).2 ≠ none := by
  unfold failP
  split
  · simp
  · assumption
theorem must_stay {l : List UInt8} {c : UInt8} {st : StP} (h : st.2 ≠ none) : (mustP l c st).2 ≠ none := by
  unfold mustP
  split
  · rename_i e; exact absurd (fol_lt e).1 h
  · exact fail_some _ _
theorem word_back {l : List UInt8} {st : StP} (h : (wordP l st).2.2 = none) : st.2 = none ∧ l.take (wordP l st).2.1 = l.take st.1 ++ escL (wordP l st).1 := by
  have h0 : st.2 = none := Decidable.byContradiction fun hn => by rw [word_stay hn] at h; exact hn h
  refine ⟨h0, ?_⟩
  unfold wordP at h ⊢
  rw [if_pos h0] at h ⊢
  cases e : uneT (l.drop st.1) with
  | ok t n =>
    simp only
    rw [← (uneT_ok e).2, List.take_add]
  | bad p => rw [e] at h; simp at h
theorem must_back {l : List UInt8} {c : UInt8} {st : StP} (h : (mustP l c st).2 = none) : st.2 = none ∧ l.take (mustP l c st).1 = l.take st.1 ++ [c] := by
  have h0 : st.2 = none := Decidable.byContradiction fun hn => must_stay hn h
  refine ⟨h0, ?_⟩
  unfold mustP at h ⊢
  split
  · rename_i e
    obtain ⟨_, h1, h2⟩ := fol_lt e
    simp only
    rw [List.take_add_one, h2]
    rfl
  · rename_i e
    rw [if_neg e] at h
    exact absurd h (fail_some _ _)
theorem ba_data (t : List UInt8) : (ba t).data.toList = t := by unfold ba; simp
theorem one_back {l x : List UInt8} {st : StP} (h : (oneP l st).2.2 = none) (hc : l.take st.1 = x ++ [44]) : l.take (oneP l st).2.1 = x ++ tagT (oneP l st).1 := by
  unfold oneP at h ⊢
  simp only at h ⊢
  obtain ⟨h1, h2⟩ := word_back h
  obtain ⟨h3, h4⟩ := must_back h1
  obtain ⟨h5, h6⟩ := word_back h3
  rw [h2, h4, h6, hc]
  unfold tagT
  simp only [ba_data]
  simp
theorem tags_back (l : List UInt8) : ∀ (n : Nat) (st : StP) (acc : List TagP) (x : List UInt8), l.length - st.1 < n → st.1 ≤ l.length → l.take st.1 = x ++ acc.flatMap tagT ∨ st.2 ≠ none → (tagsR l st acc).2.2 = none → l.take (tagsR l st acc).2.1 = x ++ (tagsR l st acc).1.flatMap tagT
  | 0, st, acc, x, h, _, _, _ => by omega
  | n + 1, st, acc, x, h, hl, hx, hn => by
    cases hf : folP l 44 st with
    | false =>
      rw [tagsR_end acc hf hl] at hn ⊢
      rcases hx with hx | hx
      · exact hx
      · exact absurd hn hx
    | true =>
      obtain ⟨g1, g2, g3⟩ := fol_lt hf
      have h2 := oneP_le (l := l) (st := (st.1 + 1, none)) (by simp; omega)
      simp only at h2
      rw [tagsR_step acc hf] at hn ⊢
      refine tags_back l n _ _ x (by omega) h2.2 ?_ hn
      by_cases hq : (oneP l (st.1 + 1, none)).2.2 = none
      · left
        rcases hx with hx | hx
        · rw [one_back (x := l.take st.1) hq (by simp only; rw [List.take_add_one, g3]; rfl), hx]
          simp
        · exact absurd g1 hx
      · exact Or.inr hq
theorem end_back {l : List UInt8} {st : StP} (h : (endP l st).2 = none) (hl : st.1 ≤ l.length) : st.2 = none ∧ st.1 = l.length := by
  unfold endP at h
  split at h
  · exact absurd h (fail_some _ _)
  · exact ⟨h, by omega⟩
theorem measP_le (l : List UInt8) : (measP l).2.1 ≤ l.length := (wordP_le (l := l) (st := (0, none)) (by simp)).2
theorem tagsR_le (l : List UInt8) : ∀ (n : Nat) (st : StP) (acc : List TagP), l.length - st.1 < n → st.1 ≤ l.length → (tagsR l st acc).2.1 ≤ l.length
  | 0, st, acc, h, _ => by omega
  | n + 1, st, acc, h, hl => by
    cases hf : folP l 44 st with
    | false => rw [tagsR_end acc hf hl]; exact hl
    | true =>
      have g2 := (fol_lt hf).2.1
      have h2 := oneP_le (l := l) (st := (st.1 + 1, none)) (by simp; omega)
      simp only at h2
      rw [tagsR_step acc hf]
      exact tagsR_le l n _ _ (by omega) h2.2
theorem tagsL_le (l : List UInt8) : (tagsL l).2.1 ≤ l.length := tagsR_le l _ _ _ (Nat.lt_succ_self _) (measP_le l)
theorem fieldP_le (l : List UInt8) : (fieldP l).2.1 ≤ l.length := (wordP_le (mustP_le (tagsL_le l)).2).2
/-- what is read is printed so. -/
theorem print_parse (l : List UInt8) (h : (stopP l).2 = none) : printT (serP l) = l := by
  obtain ⟨h1, h2⟩ := end_back h (fieldP_le l)
  obtain ⟨h3, h4⟩ := word_back (l := l) (st := mustP l 32 (tagsL l).2) h1
  obtain ⟨h5, h6⟩ := must_back h3
  have h7 := tags_back l _ (measP l).2 [] (escL (measP l).1) (Nat.lt_succ_self _) (measP_le l) (by
    by_cases hq : (measP l).2.2 = none
    · left
      obtain ⟨k1, k2⟩ := word_back (l := l) (st := (0, none)) hq
      have : l.take (measP l).2.1 = l.take 0 ++ escL (measP l).1 := k2
      rw [this]; simp
    · exact Or.inr hq) h5
  have h8 : l.take (fieldP l).2.1 = l := by rw [h2, List.take_length]
  have h9 : l.take (fieldP l).2.1 = l.take (mustP l 32 (tagsL l).2).1 ++ escL (fieldP l).1 := h4
  have h10 : l.take (tagsL l).2.1 = escL (measP l).1 ++ (tagsL l).1.flatMap tagT := h7
  rw [h8, h6, h10] at h9
  unfold printT serP
  simp only [ba_data]
  refine Eq.trans ?_ h9.symm
  simp
end Go.Proofs.YtaknjkinagppoaaGreatDoor
