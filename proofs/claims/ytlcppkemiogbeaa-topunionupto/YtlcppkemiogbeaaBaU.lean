
import Derived.Test.YtlcppkemiogbeaaBaH
namespace Go.Proofs.Ytlcppkemiogbeaa
open Go.RowKit _root_.Go.Proofs.Ytlcppkemiogbeaa.So
set_option linter.unusedVariables false
set_option linter.unusedSimpArgs false
theorem wC_eq {x y : WrP} : wC x y = 0 ↔ wK x = wK y := kC_is.zero _ _
theorem wC_flip (x y : WrP) : wC y x = - wC x y := kC_is.flip _ _
theorem wC_tr {x y z : WrP} (h1 : wC x y ≤ 0) (h2 : wC y z ≤ 0) : wC x z ≤ 0 := kC_is.trans _ _ _ h1 h2
theorem wC_self (x : WrP) : wC x x = 0 := wC_eq.2 rfl
theorem wC_left {x y : WrP} (z : WrP) (h : wC x y = 0) : wC x z = wC y z := by unfold wC; rw [wC_eq.1 h]
theorem wC_right {x y : WrP} (z : WrP) (h : wC x y = 0) : wC z x = wC z y := by unfold wC; rw [wC_eq.1 h]
theorem wC_lt_le {x y z : WrP} (h1 : wC x y < 0) (h2 : wC y z ≤ 0) : wC x z < 0 := by
  have h := wC_tr (Int.le_of_lt h1) h2
  by_cases h0 : wC x z = 0
  · have := wC_right y h0; have := wC_flip x y; have := wC_flip y z; have := wC_flip y x; omega
  · omega
theorem wC_le_lt {x y z : WrP} (h1 : wC x y ≤ 0) (h2 : wC y z < 0) : wC x z < 0 := by
  have h := wC_tr h1 (Int.le_of_lt h2)
  by_cases h0 : wC x z = 0
  · have := wC_right y h0; have := wC_flip x y; have := wC_flip y z; omega
  · omega
/-- in order, each series and time once. -/
def SW (l : List WrP) : Prop := l.Pairwise fun x y => wC x y < 0
/-- the last one of its series and time. -/
def LW : List WrP → WrP → Prop
  | [], _ => False
  | x :: l, e => (e = x ∧ ∀ y ∈ l, wC x y ≠ 0) ∨ LW l e
theorem LW.cons {x : WrP} {l : List WrP} {e : WrP} : LW (x :: l) e ↔ ((e = x ∧ ∀ y ∈ l, wC x y ≠ 0) ∨ LW l e) := Iff.rfl
theorem LW.mem : ∀ {l : List WrP} {e : WrP}, LW l e → e ∈ l
  | x :: l, e, h => by
    rcases h with ⟨rfl, _⟩ | h
    · exact List.mem_cons_self
    · exact List.mem_cons_of_mem _ h.mem
theorem LW.ex : ∀ {l : List WrP} {y : WrP}, y ∈ l → ∃ z, LW l z ∧ wC y z = 0
  | x :: l, y, h => by
    rcases List.mem_cons.1 h with rfl | h
    · by_cases hx : ∃ z ∈ l, wC y z = 0
      · obtain ⟨z, hz, e⟩ := hx
        obtain ⟨u, hu, e2⟩ := LW.ex hz
        exact ⟨u, Or.inr hu, by rw [wC_left u e]; exact e2⟩
      · exact ⟨y, Or.inl ⟨rfl, fun z hz h0 => hx ⟨z, hz, h0⟩⟩, wC_self y⟩
    · obtain ⟨z, hz, e⟩ := LW.ex h
      exact ⟨z, Or.inr hz, e⟩
theorem LW.app : ∀ (a b : List WrP) (e : WrP), LW (a ++ b) e ↔ LW b e ∨ (LW a e ∧ ∀ y ∈ b, wC e y ≠ 0)
  | [], b, e => by simp [LW]
  | x :: a, b, e => by
    rw [List.cons_append, LW.cons, LW.cons, LW.app a b e]
    constructor
    · rintro (⟨rfl, h⟩ | h | ⟨h, h2⟩)
      · exact Or.inr ⟨Or.inl ⟨rfl, fun y hy => h y (List.mem_append_left _ hy)⟩, fun y hy => h y (List.mem_append_right _ hy)⟩
      · exact Or.inl h
      · exact Or.inr ⟨Or.inr h, h2⟩
    · rintro (h | ⟨⟨rfl, h⟩ | h, h2⟩)
      · exact Or.inr (Or.inl h)
      · exact Or.inl ⟨rfl, fun y hy => (List.mem_append.1 hy).elim (h y) (h2 y)⟩
      · exact Or.inr (Or.inr ⟨h, h2⟩)
theorem sw_uniq : ∀ a b : List WrP, SW a → SW b → (∀ e, e ∈ a ↔ e ∈ b) → a = b
  | [], [], _, _, _ => rfl
  | [], y :: b, _, _, h => by have := (h y).2 List.mem_cons_self; simp at this
  | x :: a, [], _, _, h => by have := (h x).1 List.mem_cons_self; simp at this
  | x :: a, y :: b, ha, hb, h => by
    obtain ⟨ha1, ha2⟩ := List.pairwise_cons.1 ha
    obtain ⟨hb1, hb2⟩ := List.pairwise_cons.1 hb
    have e : x = y := by
      rcases List.mem_cons.1 ((h x).1 List.mem_cons_self) with e | e
      · exact e
      · rcases List.mem_cons.1 ((h y).2 List.mem_cons_self) with e2 | e2
        · exact e2.symm
        · have h1 := hb1 x e; have h2 := ha1 y e2; have := wC_flip x y; omega
    subst e
    rw [sw_uniq a b ha2 hb2 fun e => ⟨fun he => by
      rcases List.mem_cons.1 ((h e).1 (List.mem_cons_of_mem _ he)) with rfl | h3
      · have := ha1 e he; have := wC_self e; omega
      · exact h3, fun he => by
      rcases List.mem_cons.1 ((h e).2 (List.mem_cons_of_mem _ he)) with rfl | h3
      · have := hb1 e he; have := wC_self e; omega
      · exact h3⟩]
/-- the document's merged. -/
def mgD : List WrP → List WrP → List WrP
  | [], b => b
  | x :: a, [] => x :: a
  | x :: a, y :: b => if wC x y < 0 then x :: mgD a (y :: b) else if 0 < wC x y then y :: mgD (x :: a) b else mgD a (y :: b)
termination_by a b => a.length + b.length
theorem mgD_nil (a : List WrP) : mgD a [] = a := by cases a <;> simp [mgD]
theorem mgD_ok : ∀ (n : Nat) (a b : List WrP), a.length + b.length ≤ n → SW a → SW b → SW (mgD a b) ∧ ∀ e, e ∈ mgD a b ↔ e ∈ b ∨ (e ∈ a ∧ ∀ y ∈ b, wC e y ≠ 0)
  | n, [], b, _, _, hb => by rw [mgD]; exact ⟨hb, fun e => by simp⟩
  | n, x :: a, [], _, ha, _ => by rw [mgD]; exact ⟨ha, fun e => by simp⟩
  | 0, x :: a, y :: b, hn, _, _ => by simp at hn
  | n + 1, x :: a, y :: b, hn, ha, hb => by
    obtain ⟨ha1, ha2⟩ := List.pairwise_cons.1 ha
    obtain ⟨hb1, hb2⟩ := List.pairwise_cons.1 hb
    simp only [List.length_cons] at hn
    rw [mgD]
    split
    · rename_i hc
      obtain ⟨i1, i2⟩ := mgD_ok n a (y :: b) (by simp only [List.length_cons]; omega) ha2 hb
      have hx : ∀ z ∈ y :: b, wC x z < 0 := fun z hz => by
        rcases List.mem_cons.1 hz with rfl | hz
        · exact hc
        · exact wC_lt_le hc (Int.le_of_lt (hb1 z hz))
      refine ⟨List.pairwise_cons.2 ⟨fun z hz => ?_, i1⟩, fun e => ?_⟩
      · rcases (i2 z).1 hz with h | ⟨h, _⟩
        · exact hx z h
        · exact ha1 z h
      · rw [List.mem_cons, i2 e, List.mem_cons (l := a)]
        constructor
        · rintro (rfl | h | ⟨h, h2⟩)
          · exact Or.inr ⟨Or.inl rfl, fun z hz => by have := hx z hz; omega⟩
          · exact Or.inl h
          · exact Or.inr ⟨Or.inr h, h2⟩
        · rintro (h | ⟨rfl | h, h2⟩)
          · exact Or.inr (Or.inl h)
          · exact Or.inl rfl
          · exact Or.inr (Or.inr ⟨h, h2⟩)
    · rename_i hc
      split
      · rename_i hd
        obtain ⟨i1, i2⟩ := mgD_ok n (x :: a) b (by simp only [List.length_cons]; omega) ha hb2
        have hyx : wC y x < 0 := by have := wC_flip x y; omega
        have hy : ∀ z ∈ x :: a, wC y z < 0 := fun z hz => by
          rcases List.mem_cons.1 hz with rfl | hz
          · exact hyx
          · exact wC_lt_le hyx (Int.le_of_lt (ha1 z hz))
        refine ⟨List.pairwise_cons.2 ⟨fun z hz => ?_, i1⟩, fun e => ?_⟩
        · rcases (i2 z).1 hz with h | ⟨h, _⟩
          · exact hb1 z h
          · exact hy z h
        · rw [List.mem_cons, i2 e, List.mem_cons (l := b)]
          constructor
          · rintro (rfl | h | ⟨h, h2⟩)
            · exact Or.inl (Or.inl rfl)
            · exact Or.inl (Or.inr h)
            · exact Or.inr ⟨h, fun z hz => by
                rcases List.mem_cons.1 hz with rfl | hz
                · have := hy e h; have := wC_flip e z; omega
                · exact h2 z hz⟩
          · rintro ((rfl | h) | ⟨h, h2⟩)
            · exact Or.inl rfl
            · exact Or.inr (Or.inl h)
            · exact Or.inr (Or.inr ⟨h, fun z hz => h2 z (List.mem_cons_of_mem _ hz)⟩)
      · rename_i hd
        have h0 : wC x y = 0 := by omega
        obtain ⟨i1, i2⟩ := mgD_ok n a (y :: b) (by simp only [List.length_cons]; omega) ha2 hb
        refine ⟨i1, fun e => ?_⟩
        rw [i2 e, List.mem_cons (l := a)]
        constructor
        · rintro (h | ⟨h, h2⟩)
          · exact Or.inl h
          · exact Or.inr ⟨Or.inr h, h2⟩
        · rintro (h | ⟨rfl | h, h2⟩)
          · exact Or.inl h
          · exact absurd h0 (h2 y List.mem_cons_self)
          · exact Or.inr ⟨h, h2⟩
/-- the document's Order. -/
def odD (l : List WrP) : List WrP :=
  if h : l.length ≤ 1 then l else mgD (odD (l.take (l.length / 2))) (odD (l.drop (l.length / 2)))
termination_by l.length
decreasing_by
  all_goals simp; omega
theorem odD_ok : ∀ (n : Nat) (l : List WrP), l.length ≤ n → SW (odD l) ∧ ∀ e, e ∈ odD l ↔ LW l e := by
  intro n
  induction n with
  | zero =>
    intro l hl
    have : l = [] := List.length_eq_zero_iff.1 (by omega)
    subst this
    rw [odD]; simp [SW, LW]
  | succ n ih =>
    intro l hl
    rw [odD]
    split
    · rename_i h1
      rcases l with _ | ⟨x, _ | ⟨y, r⟩⟩
      · simp [SW, LW]
      · exact ⟨by simp [SW], fun e => by simp [LW]⟩
      · simp at h1
    · rename_i h1
      obtain ⟨a1, a2⟩ := ih (l.take (l.length / 2)) (by simp; omega)
      obtain ⟨b1, b2⟩ := ih (l.drop (l.length / 2)) (by simp; omega)
      obtain ⟨m1, m2⟩ := mgD_ok _ _ _ (Nat.le_refl _) a1 b1
      refine ⟨m1, fun e => ?_⟩
      have h := LW.app (l.take (l.length / 2)) (l.drop (l.length / 2)) e
      rw [List.take_append_drop] at h
      rw [h, m2 e, a2 e, b2 e]
      constructor
      · rintro (h | ⟨h, h2⟩)
        · exact Or.inl h
        · exact Or.inr ⟨h, fun y hy h0 => by
            obtain ⟨z, hz, e2⟩ := LW.ex hy
            exact h2 z ((b2 z).2 hz) (by rw [wC_left z h0]; exact e2)⟩
      · rintro (h | ⟨h, h2⟩)
        · exact Or.inl h
        · exact Or.inr ⟨h, fun y hy => h2 y ((b2 y).1 hy).mem⟩
theorem LW_at : ∀ (l : List WrP) (e : WrP), LW l e ↔ ∃ k, k < l.length ∧ atW l k = e ∧ ∀ j, k < j → j < l.length → wC e (atW l j) ≠ 0
  | [], e => by simp [LW]
  | x :: l, e => by
    unfold LW
    rw [LW_at l e]
    constructor
    · rintro (⟨rfl, h⟩ | ⟨k, hk, h1, h2⟩)
      · refine ⟨0, by simp, rfl, fun j hj hl => ?_⟩
        obtain ⟨j, rfl⟩ : ∃ i, j = i + 1 := ⟨j - 1, by omega⟩
        have hj' : j < l.length := by simpa using hl
        have : atW (e :: l) (j + 1) = atW l j := by simp [atW]
        rw [this]
        exact h _ (List.mem_of_getElem? (atW_some hj'))
      · refine ⟨k + 1, by simpa using hk, by simpa [atW] using h1, fun j hj hl => ?_⟩
        obtain ⟨j, rfl⟩ : ∃ i, j = i + 1 := ⟨j - 1, by omega⟩
        have : atW (x :: l) (j + 1) = atW l j := by simp [atW]
        rw [this]
        exact h2 j (by omega) (by simpa using hl)
    · rintro ⟨k, hk, h1, h2⟩
      cases k with
      | zero =>
        have : e = x := by rw [← h1]; rfl
        subst this
        refine Or.inl ⟨rfl, fun y hy => ?_⟩
        obtain ⟨j, hj⟩ := List.mem_iff_getElem?.1 hy
        have hl : j < l.length := (List.getElem?_eq_some_iff.1 hj).1
        have := h2 (j + 1) (by omega) (by simpa using hl)
        rw [show atW (e :: l) (j + 1) = atW l j by simp [atW], atW_get hj] at this
        exact this
      | succ k =>
        refine Or.inr ⟨k, by simpa using hk, by simpa [atW] using h1, fun j hj hl => ?_⟩
        have := h2 (j + 1) (by omega) (by simpa using hl)
        rw [show atW (x :: l) (j + 1) = atW l j by simp [atW]] at this
        exact this
theorem ordL_mem (l : List WrP) (out : List Nat) (e : WrP) : ∀ m, e ∈ ordL l out m ↔ ∃ k, k < m ∧ atW l (out.getD k 0) = e ∧ (k = 0 ∨ wC (atW l (out.getD (k - 1) 0)) (atW l (out.getD k 0)) ≠ 0)
  | 0 => by simp [ordL]
  | m + 1 => by
    unfold ordL
    rw [List.mem_append, ordL_mem l out e m]
    constructor
    · rintro (⟨k, hk, h1, h2⟩ | h)
      · exact ⟨k, by omega, h1, h2⟩
      · split at h
        · rename_i hc
          exact ⟨m, by omega, (List.mem_singleton.1 h).symm, hc⟩
        · simp at h
    · rintro ⟨k, hk, h1, h2⟩
      rcases Nat.lt_or_ge k m with h3 | h3
      · exact Or.inl ⟨k, h3, h1, h2⟩
      · obtain rfl : k = m := by omega
        right
        rw [if_pos h2, h1]; simp
/-- what the program's Order tells is the document's. -/
theorem ordL_is (l : List WrP) (out : List Nat) (h : Sorted1 (ahW l) l.length out) : ordL l out out.length = odD l := by
  obtain ⟨d1, d2⟩ := odD_ok _ l (Nat.le_refl _)
  have hle : ∀ i j, i < j → j < out.length → ahW l (out.getD i 0) (out.getD j 0) = true := fun i j hi hj => by
    have := (List.pairwise_iff_getElem.1 h.ord) i j (by omega) hj hi
    simpa [List.getD_eq_getElem?_getD, hj, Nat.lt_trans hi hj] using this
  have hle0 : ∀ i j, i ≤ j → j < out.length → wC (atW l (out.getD i 0)) (atW l (out.getD j 0)) ≤ 0 := fun i j hi hj => by
    rcases Nat.lt_or_ge i j with h1 | h1
    · rcases (ahW_iff l _ _).1 (hle i j h1 hj) with h2 | h2 <;> omega
    · obtain rfl : i = j := by omega
      rw [wC_self]; exact Int.le_refl _
  refine sw_uniq _ _ ?_ d1 fun e => ?_
  · have key : ∀ m, m ≤ out.length → SW (ordL l out m) := by
      intro m
      induction m with
      | zero => intro _; simp [ordL, SW]
      | succ m ih =>
        intro hm
        unfold ordL
        refine List.pairwise_append.2 ⟨ih (by omega), ?_, ?_⟩
        · split <;> simp
        · intro a ha b hb
          split at hb
          · rename_i hc
            obtain rfl := List.mem_singleton.1 hb
            obtain ⟨k, hk, rfl, _⟩ := (ordL_mem l out a m).1 ha
            have h1 := hle0 k (m - 1) (by omega) (by omega)
            have h2 := hle0 (m - 1) m (by omega) (by omega)
            have h3 : wC (atW l (out.getD (m - 1) 0)) (atW l (out.getD m 0)) ≠ 0 := hc.resolve_left (by omega)
            exact wC_le_lt h1 (by omega)
          · simp at hb
    exact key _ (Nat.le_refl _)
  · rw [d2 e, ordL_mem, LW_at]
    constructor
    · rintro ⟨k, hk, h1, h2⟩
      have hx : out.getD k 0 < l.length := (h.all _).1 (by rw [List.getD_eq_getElem?_getD, List.getElem?_eq_getElem hk]; exact List.getElem_mem hk)
      refine ⟨out.getD k 0, hx, h1, fun j hj hl h0 => ?_⟩
      obtain ⟨k', hk', e'⟩ := List.mem_iff_getElem.1 ((h.all j).2 hl)
      have ej : out.getD k' 0 = j := by rw [List.getD_eq_getElem?_getD, List.getElem?_eq_getElem hk', e']; rfl
      rw [← h1, ← ej] at h0
      rcases Nat.lt_trichotomy k' k with h3 | h3 | h3
      · have h4 := hle0 k' (k - 1) (by omega) (by omega)
        have h5 := hle0 (k - 1) k (by omega) hk
        have h6 : wC (atW l (out.getD (k - 1) 0)) (atW l (out.getD k 0)) ≠ 0 := h2.resolve_left (by omega)
        have h7 := wC_le_lt h4 (by omega : wC (atW l (out.getD (k - 1) 0)) (atW l (out.getD k 0)) < 0)
        have := wC_flip (atW l (out.getD k 0)) (atW l (out.getD k' 0))
        omega
      · subst h3; omega
      · rcases (ahW_iff l _ _).1 (hle k k' h3 hk') with h4 | ⟨_, h4⟩
        · omega
        · omega
    · rintro ⟨x, hx, h1, h2⟩
      obtain ⟨k, hk, e'⟩ := List.mem_iff_getElem.1 ((h.all x).2 hx)
      have ex : out.getD k 0 = x := by rw [List.getD_eq_getElem?_getD, List.getElem?_eq_getElem hk, e']; rfl
      refine ⟨k, hk, by rw [ex]; exact h1, ?_⟩
      rcases Nat.eq_zero_or_pos k with h0 | h0
      · exact Or.inl h0
      · right
        intro h3
        have hx' : out.getD (k - 1) 0 < l.length := (h.all _).1 (by rw [List.getD_eq_getElem?_getD, List.getElem?_eq_getElem (by omega : k - 1 < out.length)]; exact List.getElem_mem _)
        rcases (ahW_iff l _ _).1 (hle (k - 1) k (by omega) hk) with h4 | ⟨_, h4⟩
        · omega
        · rw [ex] at h3 h4
          refine h2 _ h4 hx' ?_
          rw [h1] at h3
          have := wC_flip (atW l (out.getD (k - 1) 0)) e
          omega
theorem odD_len (l : List WrP) : (odD l).length ≤ l.length := by
  have h : ∀ (n : Nat) (a b : List WrP), a.length + b.length ≤ n → (mgD a b).length ≤ a.length + b.length := by
    intro n
    induction n with
    | zero =>
      intro a b hn
      have : a = [] := List.length_eq_zero_iff.1 (by omega)
      subst this
      rw [mgD]; omega
    | succ n ih =>
      intro a b hn
      match a, b with
      | [], b => rw [mgD]; simp
      | x :: a, [] => rw [mgD]; simp
      | x :: a, y :: b =>
        simp only [List.length_cons] at hn
        rw [mgD]
        split
        · have := ih a (y :: b) (by simp only [List.length_cons]; omega)
          simp only [List.length_cons] at this ⊢; omega
        · split
          · have := ih (x :: a) b (by simp only [List.length_cons]; omega)
            simp only [List.length_cons] at this ⊢; omega
          · have := ih a (y :: b) (by simp only [List.length_cons]; omega)
            simp only [List.length_cons] at this ⊢; omega
  have g : ∀ (n : Nat) (l : List WrP), l.length ≤ n → (odD l).length ≤ l.length := by
    intro n
    induction n with
    | zero =>
      intro l hl
      rw [odD, dif_pos (by omega)]; exact Nat.le_refl _
    | succ n ih =>
      intro l hl
      rw [odD]
      split
      · exact Nat.le_refl _
      · have h1 := ih (l.take (l.length / 2)) (by simp; omega)
        have h2 := ih (l.drop (l.length / 2)) (by simp; omega)
        have h3 := h _ (odD (l.take (l.length / 2))) (odD (l.drop (l.length / 2))) (Nat.le_refl _)
        simp only [List.length_take, List.length_drop] at h1 h2
        omega
  exact g _ l (Nat.le_refl _)
end Go.Proofs.Ytlcppkemiogbeaa
