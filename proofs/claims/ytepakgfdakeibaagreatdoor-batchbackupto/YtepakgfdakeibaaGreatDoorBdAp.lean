
import Derived.Test.YtepakgfdakeibaaGreatDoorBgD
import Derived.Test.YtepakgfdakeibaaGreatDoorKyC
import Derived.Test.YtepakgfdakeibaaGreatDoorKqA
namespace Go.Proofs.YtepakgfdakeibaaGreatDoor
open Go.RowKit _root_.Go.Proofs.YtepakgfdakeibaaGreatDoor.So
set_option linter.unusedVariables false
set_option linter.unusedSimpArgs false
theorem wC_eq {x y : WrP} : wC x y = 0 ↔ wK x = wK y := kC_is.zero _ _
theorem wC_flip (x y : WrP) : wC y x = - wC x y := kC_is.flip _ _
theorem wC_tr {x y z : WrP} (h1 : wC x y ≤ 0) (h2 : wC y z ≤ 0) : wC x z ≤ 0 := kC_is.trans _ _ _ h1 h2
theorem wC_self (x : WrP) : wC x x = 0 := wC_eq.2 rfl
theorem wC_left {x y : WrP} (z : WrP) (h : wC x y = 0) : wC x z = wC y z := by unfold wC; rw [wC_eq.1 h]
theorem wC_right {x y : WrP} (z : WrP) (h : wC x y = 0) : wC z x = wC z y := by unfold wC; rw [wC_eq.1 h]
theorem wC_lt_le {x y z : WrP} (h1 : wC x y < 0) (h2 : wC y z ≤ 0) : wC x z < 0 := by
  have h := wC_tr (Int.le_of_lt h1) h2
  by_cases h0 : wC x z = 0
  · have := wC_right y h0; have := wC_flip x y; have := wC_flip y z; have := wC_flip y x; omega
  · omega
theorem wC_le_lt {x y z : WrP} (h1 : wC x y ≤ 0) (h2 : wC y z < 0) : wC x z < 0 := by
  have h := wC_tr h1 (Int.le_of_lt h2)
  by_cases h0 : wC x z = 0
  · have := wC_right y h0; have := wC_flip x y; have := wC_flip y z; omega
  · omega
/-- in order, each series and time once. -/
def SW (l : List WrP) : Prop := l.Pairwise fun x y => wC x y < 0
/-- the last one of its series and time. -/
def LW : List WrP → WrP → Prop
  | [], _ => False
  | x :: l, e => (e = x ∧ ∀ y ∈ l, wC x y ≠ 0) ∨ LW l e
theorem LW.cons {x : WrP} {l : List WrP} {e : WrP} : LW (x :: l) e ↔ ((e = x ∧ ∀ y ∈ l, wC x y ≠ 0) ∨ LW l e) := Iff.rfl
theorem LW.mem : ∀ {l : List WrP} {e : WrP}, LW l e → e ∈ l
  | x :: l, e, h => by
    rcases h with ⟨rfl, _⟩ | h
    · exact List.mem_cons_self
    · exact List.mem_cons_of_mem _ h.mem
theorem LW.ex : ∀ {l : List WrP} {y : WrP}, y ∈ l → ∃ z, LW l z ∧ wC y z = 0
  | x :: l, y, h => by
    rcases List.mem_cons.1 h with rfl | h
    · by_cases hx : ∃ z ∈ l, wC y z = 0
      · obtain ⟨z, hz, e⟩ := hx
        obtain ⟨u, hu, e2⟩ := LW.ex hz
        exact ⟨u, Or.inr hu, by rw [wC_left u e]; exact e2⟩
      · exact ⟨y, Or.inl ⟨rfl, fun z hz h0 => hx ⟨z, hz, h0⟩⟩, wC_self y⟩
    · obtain ⟨z, hz, e⟩ := LW.ex h
      exact ⟨z, Or.inr hz, e⟩
theorem LW.app : ∀ (a b : List WrP) (e : WrP), LW (a ++ b) e ↔ LW b e ∨ (LW a e ∧ ∀ y ∈ b, wC e y ≠ 0)
  | [], b, e => by simp [LW]
  | x :: a, b, e => by
    rw [List.cons_append, LW.cons, LW.cons, LW.app a b e]
    constructor
    · rintro (⟨rfl, h⟩ | h | ⟨h, h2⟩)
      · exact Or.inr ⟨Or.inl ⟨rfl, fun y hy => h y (List.mem_append_left _ hy)⟩, fun y hy => h y (List.mem_append_right _ hy)⟩
      · exact Or.inl h
      · exact Or.inr ⟨Or.inr h, h2⟩
    · rintro (h | ⟨⟨rfl, h⟩ | h, h2⟩)
      · exact Or.inr (Or.inl h)
      · exact Or.inl ⟨rfl, fun y hy => (List.mem_append.1 hy).elim (h y) (h2 y)⟩
      · exact Or.inr (Or.inr ⟨h, h2⟩)
theorem sw_uniq : ∀ a b : List WrP, SW a → SW b → (∀ e, e ∈ a ↔ e ∈ b) → a = b
  | [], [], _, _, _ => rfl
  | [], y :: b, _, _, h => by have := (h y).2 List.mem_cons_self; simp at this
  | x :: a, [], _, _, h => by have := (h x).1 List.mem_cons_self; simp at this
  | x :: a, y :: b, ha, hb, h => by
    obtain ⟨ha1, ha2⟩ := List.pairwise_cons.1 ha
    obtain ⟨hb1, hb2⟩ := List.pairwise_cons.1 hb
    have e : x = y := by
      rcases List.mem_cons.1 ((h x).1 List.mem_cons_self) with e | e
      · exact e
      · rcases List.mem_cons.1 ((h y).2 List.mem_cons_self) with e2 | e2
        · exact e2.symm
        · have h1 := hb1 x e; have h2 := ha1 y e2; have := wC_flip x y; omega
    subst e
    rw [sw_uniq a b ha2 hb2 fun e => ⟨fun he => by
      rcases List.mem_cons.1 ((h e).1 (List.mem_cons_of_mem _ he)) with rfl | h3
      · have := ha1 e he; have := wC_self e; omega
      · exact h3, fun he => by
      rcases List.mem_cons.1 ((h e).2 (List.mem_cons_of_mem _ he)) with rfl | h3
      · have := hb1 e he; have := wC_self e; omega
      · exact h3⟩]
/-- the document's merged. -/
def mgD : List WrP → List WrP → List WrP
  | [], b => b
  | x :: a, [] => x :: a
  | x :: a, y :: b => if wC x y < 0 then x :: mgD a (y :: b) else if 0 < wC x y then y :: mgD (x :: a) b else mgD a (y :: b)
termination_by a b => a.length + b.length
theorem mgD_nil (a : List WrP) : mgD a [] = a := by cases a <;> simp [mgD]
theorem mgD_ok : ∀ (n : Nat) (a b : List WrP), a.length + b.length ≤ n → SW a → SW b → SW (mgD a b) ∧ ∀ e, e ∈ mgD a b ↔ e ∈ b ∨ (e ∈ a ∧ ∀ y ∈ b, wC e y ≠ 0)
  | n, [], b, _, _, hb => by rw [mgD]; exact ⟨hb, fun e => by simp⟩
  | n, x :: a, [], _, ha, _ => by rw [mgD]; exact ⟨ha, fun e => by simp⟩
  | 0, x :: a, y :: b, hn, _, _ => by simp at hn
  | n + 1, x :: a, y :: b, hn, ha, hb => by
    obtain ⟨ha1, ha2⟩ := List.pairwise_cons.1 ha
    obtain ⟨hb1, hb2⟩ := List.pairwise_cons.1 hb
    simp only [List.length_cons] at hn
    rw [mgD]
    split
    · rename_i hc
      obtain ⟨i1, i2⟩ := mgD_ok n a (y :: b) (by simp only [List.length_cons]; omega) ha2 hb
      have hx : ∀ z ∈ y :: b, wC x z < 0 := fun z hz => by
        rcases List.mem_cons.1 hz with rfl | hz
        · exact hc
        · exact wC_lt_le hc (Int.le_of_lt (hb1 z hz))
      refine ⟨List.pairwise_cons.2 ⟨fun z hz => ?_, i1⟩, fun e => ?_⟩
      · rcases (i2 z).1 hz with h | ⟨h, _⟩
        · exact hx z h
        · exact ha1 z h
      · rw [List.mem_cons, i2 e, List.mem_cons (l := a)]
        constructor
        · rintro (rfl | h | ⟨h, h2⟩)
          · exact Or.inr ⟨Or.inl rfl, fun z hz => by have := hx z hz; omega⟩
          · exact Or.inl h
          · exact Or.inr ⟨Or.inr h, h2⟩
        · rintro (h | ⟨rfl | h, h2⟩)
          · exact Or.inr (Or.inl h)
          · exact Or.inl rfl
          · exact Or.inr (Or.inr ⟨h, h2⟩)
    · rename_i hc
      split
      · rename_i hd
        obtain ⟨i1, i2⟩ := mgD_ok n (x :: a) b (by simp only [List.length_cons]; omega) ha hb2
        have hyx : wC y x < 0 := by have := wC_flip x y; omega
        have hy : ∀ z ∈ x :: a, wC y z < 0 := fun z hz => by
          rcases List.mem_cons.1 hz with rfl | hz
          · exact hyx
          · exact wC_lt_le hyx (Int.le_of_lt (ha1 z hz))
        refine ⟨List.pairwise_cons.2 ⟨fun z hz => ?_, i1⟩, fun e => ?_⟩
        · rcases (i2 z).1 hz with h | ⟨h, _⟩
          · exact hb1 z h
          · exact hy z h
        · rw [List.mem_cons, i2 e, List.mem_cons (l := b)]
          constructor
          · rintro (rfl | h | ⟨h, h2⟩)
            · exact Or.inl (Or.inl rfl)
            · exact Or.inl (Or.inr h)
            · exact Or.inr ⟨h, fun z hz => by
                rcases List.mem_cons.1 hz with rfl | hz
                · have := hy e h; have := wC_flip e z; omega
                · exact h2 z hz⟩
          · rintro ((rfl | h) | ⟨h, h2⟩)
            · exact Or.inl rfl
            · exact Or.inr (Or.inl h)
            · exact Or.inr (Or.inr ⟨h, fun z hz => h2 z (List.mem_cons_of_mem _ hz)⟩)
      · rename_i hd
        have h0 : wC x y = 0 := by omega
        obtain ⟨i1, i2⟩ := mgD_ok n a (y :: b) (by simp only [List.length_cons]; omega) ha2 hb
        refine ⟨i1, fun e => ?_⟩
        rw [i2 e, List.mem_cons (l := a)]
        constructor
        · rintro (h | ⟨h, h2⟩)
          · exact Or.inl h
          · exact Or.inr ⟨Or.inr h, h2⟩
        · rintro (h | ⟨rfl | h, h2⟩)
          · exact Or.inl h
          · exact absurd h0 (h2 y List.mem_cons_self)
          · exact Or.inr ⟨h, h2⟩
/-- the document's Order. -/
def odD (l : List WrP) : List WrP :=
  if h : l.length ≤ 1 then l else mgD (odD (l.take (l.length / 2))) (odD (l.drop (l.length / 2)))
termination_by l.length
decreasing_by
  all_goals simp; omega
theorem odD_ok : ∀ (n : Nat) (l : List WrP), l.length ≤ n → SW (odD l) ∧ ∀ e, e ∈ odD l ↔ LW l e := by
  intro n
  induction n with
  | zero =>
    intro l hl
    have : l = [] := List.length_eq_zero_iff.1 (by omega)
    subst this
    rw [odD]; simp [SW, LW]
  | succ n ih =>
    intro l hl
    rw [odD]
    split
    · rename_i h1
      rcases l with _ | ⟨x, _ | ⟨y, r⟩⟩
      · simp [SW, LW]
      · exact ⟨by simp [SW], fun e => by simp [LW]⟩
      · simp at h1
    · rename_i h1
      obtain ⟨a1, a2⟩ := ih (l.take (l.length / 2)) (by simp; omega)
      obtain ⟨b1, b2⟩ := ih (l.drop (l.length / 2)) (by simp; omega)
      obtain ⟨m1, m2⟩ := mgD_ok _ _ _ (Nat.le_refl _) a1 b1
      refine ⟨m1, fun e => ?_⟩
      have h := LW.app (l.take (l.length / 2)) (l.drop (l.length / 2)) e
      rw [List.take_append_drop] at h
      rw [h, m2 e, a2 e, b2 e]
      constructor
      · rintro (h | ⟨h, h2⟩)
        · exact Or.inl h
        · exact Or.inr ⟨h, fun y hy h0 => by
            obtain ⟨z, hz, e2⟩ := LW.ex hy
            exact h2 z ((b2 z).2 hz) (by rw [wC_left z h0]; exact e2)⟩
      · rintro (h | ⟨h, h2⟩)
        · exact Or.inl h
        · exact Or.inr ⟨h, fun y hy => h2 y ((b2 y).1 hy).mem⟩
theorem LW_at : ∀ (l : List WrP) (e : WrP), LW l e ↔ ∃ k, k < l.length ∧ atW l k = e ∧ ∀ j, k < j → j < l.length → wC e (atW l j) ≠ 0
  | [], e => by simp [LW]
  | x :: l, e => by
    unfold LW
    rw [LW_at l e]
    constructor
    · rintro (⟨rfl, h⟩ | ⟨k, hk, h1, h2⟩)
      · refine ⟨0, by simp, rfl, fun j hj hl => ?_⟩
        obtain ⟨j, rfl⟩ : ∃ i, j = i + 1 := ⟨j - 1, by omega⟩
        have hj' : j < l.length := by simpa using hl
        have : atW (e :: l) (j + 1) = atW l j := by simp [atW]
        rw [this]
        exact h _ (List.mem_of_getElem? (atW_some hj'))
      · refine ⟨k + 1, by simpa using hk, by simpa [atW] using h1, fun j hj hl => ?_⟩
        obtain ⟨j, rfl⟩ : ∃ i, j = i + 1 := ⟨j - 1, by omega⟩
        have : atW (x :: l) (j + 1) = atW l j := by simp [atW]
        rw [this]
        exact h2 j (by omega) (by simpa using hl)
    · rintro ⟨k, hk, h1, h2⟩
      cases k with
      | zero =>
        have : e = x := by rw [← h1]; rfl
        subst this
        refine Or.inl ⟨rfl, fun y hy => ?_⟩
        obtain ⟨j, hj⟩ := List.mem_iff_getElem?.1 hy
        have hl : j < l.length := (List.getElem?_eq_some_iff.1 hj).1
        have := h2 (j + 1) (by omega) (by simpa using hl)
        rw [show atW (e :: l) (j + 1) = atW l j by simp [atW], atW_get hj] at this
        exact this
      | succ k =>
        refine Or.inr ⟨k, by simpa using hk, by simpa [atW] using h1, fun j hj hl => ?_⟩
        have := h2 (j + 1) (by omega) (by simpa using hl)
        rw [show atW (x :: l) (j + 1) = atW l j by simp [atW]] at this
        exact this
theorem ordL_mem (l : List WrP) (out : List Nat) (e : WrP) : ∀ m, e ∈ ordL l out m ↔ ∃ k, k < m ∧ atW l (out.getD k 0) = e ∧ (k = 0 ∨ wC (atW l (out.getD (k - 1) 0)) (atW l (out.getD k 0)) ≠ 0)
  | 0 => by simp [ordL]
  | m + 1 => by
    unfold ordL
    rw [List.mem_append, ordL_mem l out e m]
    constructor
    · rintro (⟨k, hk, h1, h2⟩ | h)
      · exact ⟨k, by omega, h1, h2⟩
      · split at h
        · rename_i hc
          exact ⟨m, by omega, (List.mem_singleton.1 h).symm, hc⟩
        · simp at h
    · rintro ⟨k, hk, h1, h2⟩
      rcases Nat.lt_or_ge k m with h3 | h3
      · exact Or.inl ⟨k, h3, h1, h2⟩
      · obtain rfl : k = m := by omega
        right
        rw [if_pos h2, h1]; simp
/-- what the program's Order tells is the document's. -/
theorem ordL_is (l : List WrP) (out : List Nat) (h : Sorted1 (ahW l) l.length out) : ordL l out out.length = odD l := by
  obtain ⟨d1, d2⟩ := odD_ok _ l (Nat.le_refl _)
  have hle : ∀ i j, i < j → j < out.length → ahW l (out.getD i 0) (out.getD j 0) = true := fun i j hi hj => by
    have := (List.pairwise_iff_getElem.1 h.ord) i j (by omega) hj hi
    simpa [List.getD_eq_getElem?_getD, hj, Nat.lt_trans hi hj] using this
  have hle0 : ∀ i j, i ≤ j → j < out.length → wC (atW l (out.getD i 0)) (atW l (out.getD j 0)) ≤ 0 := fun i j hi hj => by
    rcases Nat.lt_or_ge i j with h1 | h1
    · rcases (ahW_iff l _ _).1 (hle i j h1 hj) with h2 | h2 <;> omega
    · obtain rfl : i = j := by omega
      rw [wC_self]; exact Int.le_refl _
  refine sw_uniq _ _ ?_ d1 fun e => ?_
  · have key : ∀ m, m ≤ out.length → SW (ordL l out m) := by
      intro m
      induction m with
      | zero => intro _; simp [ordL, SW]
      | succ m ih =>
        intro hm
        unfold ordL
        refine List.pairwise_append.2 ⟨ih (by omega), ?_, ?_⟩
        · split <;> simp
        · intro a ha b hb
          split at hb
          · rename_i hc
            obtain rfl := List.mem_singleton.1 hb
            obtain ⟨k, hk, rfl, _⟩ := (ordL_mem l out a m).1 ha
            have h1 := hle0 k (m - 1) (by omega) (by omega)
            have h2 := hle0 (m - 1) m (by omega) (by omega)
            have h3 : wC (atW l (out.getD (m - 1) 0)) (atW l (out.getD m 0)) ≠ 0 := hc.resolve_left (by omega)
            exact wC_le_lt h1 (by omega)
          · simp at hb
    exact key _ (Nat.le_refl _)
  · rw [d2 e, ordL_mem, LW_at]
    constructor
    · rintro ⟨k, hk, h1, h2⟩
      have hx : out.getD k 0 < l.length := (h.all _).1 (by rw [List.getD_eq_getElem?_getD, List.getElem?_eq_getElem hk]; exact List.getElem_mem hk)
      refine ⟨out.getD k 0, hx, h1, fun j hj hl h0 => ?_⟩
      obtain ⟨k', hk', e'⟩ := List.mem_iff_getElem.1 ((h.all j).2 hl)
      have ej : out.getD k' 0 = j := by rw [List.getD_eq_getElem?_getD, List.getElem?_eq_getElem hk', e']; rfl
      rw [← h1, ← ej] at h0
      rcases Nat.lt_trichotomy k' k with h3 | h3 | h3
      · have h4 := hle0 k' (k - 1) (by omega) (by omega)
        have h5 := hle0 (k - 1) k (by omega) hk
        have h6 : wC (atW l (out.getD (k - 1) 0)) (atW l (out.getD k 0)) ≠ 0 := h2.resolve_left (by omega)
        have h7 := wC_le_lt h4 (by omega : wC (atW l (out.getD (k - 1) 0)) (atW l (out.getD k 0)) < 0)
        have := wC_flip (atW l (out.getD k 0)) (atW l (out.getD k' 0))
        omega
      · subst h3; omega
      · rcases (ahW_iff l _ _).1 (hle k k' h3 hk') with h4 | ⟨_, h4⟩
        · omega
        · omega
    · rintro ⟨x, hx, h1, h2⟩
      obtain ⟨k, hk, e'⟩ := List.mem_iff_getElem.1 ((h.all x).2 hx)
      have ex : out.getD k 0 = x := by rw [List.getD_eq_getElem?_getD, List.getElem?_eq_getElem hk, e']; rfl
      refine ⟨k, hk, by rw [ex]; exact h1, ?_⟩
      rcases Nat.eq_zero_or_pos k with h0 | h0
      · exact Or.inl h0
      · right
        intro h3
        have hx' : out.getD (k - 1) 0 < l.length := (h.all _).1 (by rw [List.getD_eq_getElem?_getD, List.getElem?_eq_getElem (by omega : k - 1 < out.length)]; exact List.getElem_mem _)
        rcases (ahW_iff l _ _).1 (hle (k - 1) k (by omega) hk) with h4 | ⟨_, h4⟩
        · omega
        · rw [ex] at h3 h4
          refine h2 _ h4 hx' ?_
          rw [h1] at h3
          have := wC_flip (atW l (out.getD (k - 1) 0)) e
          omega
theorem odD_len (l : List WrP) : (odD l).length ≤ l.length := by
  have h : ∀ (n : Nat) (a b : List WrP), a.length + b.length ≤ n → (mgD a b).length ≤ a.length + b.length := by
    intro n
    induction n with
    | zero =>
      intro a b hn
      have : a = [] := List.length_eq_zero_iff.1 (by omega)
      subst this
      rw [mgD]; omega
    | succ n ih =>
      intro a b hn
      match a, b with
      | [], b => rw [mgD]; simp
      | x :: a, [] => rw [mgD]; simp
      | x :: a, y :: b =>
        simp only [List.length_cons] at hn
        rw [mgD]
        split
        · have := ih a (y :: b) (by simp only [List.length_cons]; omega)
          simp only [List.length_cons] at this ⊢; omega
        · split
          · have := ih (x :: a) b (by simp only [List.length_cons]; omega)
            simp only [List.length_cons] at this ⊢; omega
          · have := ih a (y :: b) (by simp only [List.length_cons]; omega)
            simp only [List.length_cons] at this ⊢; omega
  have g : ∀ (n : Nat) (l : List WrP), l.length ≤ n → (odD l).length ≤ l.length := by
    intro n
    induction n with
    | zero =>
      intro l hl
      rw [odD, dif_pos (by omega)]; exact Nat.le_refl _
    | succ n ih =>
      intro l hl
      rw [odD]
      split
      · exact Nat.le_refl _
      · have h1 := ih (l.take (l.length / 2)) (by simp; omega)
        have h2 := ih (l.drop (l.length / 2)) (by simp; omega)
        have h3 := h _ (odD (l.take (l.length / 2))) (odD (l.drop (l.length / 2))) (Nat.le_refl _)
        simp only [List.length_take, List.length_drop] at h1 h2
        omega
  exact g _ l (Nat.le_refl _)
end Go.Proofs.YtepakgfdakeibaaGreatDoor

namespace Go.Proofs.YtepakgfdakeibaaGreatDoor
open Go.RowKit _root_.Go.Proofs.YtepakgfdakeibaaGreatDoor.So
set_option linter.unusedVariables false
set_option linter.unusedSimpArgs false
set_option maxRecDepth 100000 in
set_option maxHeartbeats 4000000 in
theorem rpcompare_any (x y : WrP) (a b : Option Addr) (c1 c2 : Nat) (w : World) (ha : SerIn w a x.s) (hb : SerIn w b y.s) :
    Calls Tryz.prog 31 #[wV x a c1, wV y b c2] w fun e w' => e = .returned (.int .i64 (wC x y)) ∧ Below w.heap.size w w' := by
  obtain ⟨⟨xm, xt, xf⟩, xtm, xk, xn⟩ := x
  obtain ⟨⟨ym, yt, yf⟩, ytm, yk, yn⟩ := y
  unfold wV wC wK kC pairC
  simp only at ha hb ⊢
  have B2 : ∀ o1 o2, Below w.heap.size w ((w.alloc o1).alloc o2) := fun o1 o2 => ((Below.refl _ w).alloc (Nat.le_refl _) o1).alloc (by simp) o2
  have C1 : Hid (∀ W, Below w.heap.size w W → Calls Tryz.prog 56 #[.agg #[.string xm, .slice a xt.length c1, .string xf], .agg #[.string ym, .slice b yt.length c2, .string yf]] W fun e w' => e = .returned (.int .i64 (serC ⟨xm, xt, xf⟩ ⟨ym, yt, yf⟩)) ∧ Below W.heap.size W w') := fun W hW => rcompare_any a b c1 c2 ⟨xm, xt, xf⟩ ⟨ym, yt, yf⟩ W ⟨ha.1.below hW, ha.2⟩ ⟨hb.1.below hW, hb.2⟩
  generalize serC ⟨xm, xt, xf⟩ ⟨ym, yt, yf⟩ = r at C1 ⊢
  generalize xt.length = lx at *
  generalize yt.length = ly at *
  clear ha hb
  have b2 := B2 (.cells #[.string xm, .slice a lx c1, .string xf, .int .i64 xtm, .int .u8 (xk : Int), .int .i64 xn] 52) (.cells #[.string ym, .slice b ly c2, .string yf, .int .i64 ytm, .int .u8 (yk : Int), .int .i64 yn] 52)
  have s2 : w.heap.size + 2 = ((w.alloc (.cells #[.string xm, .slice a lx c1, .string xf, .int .i64 xtm, .int .u8 (xk : Int), .int .i64 xn] 52)).alloc (.cells #[.string ym, .slice b ly c2, .string yf, .int .i64 ytm, .int .u8 (yk : Int), .int .i64 yn] 52)).heap.size := by simp
  have C1' : Hid (Calls Tryz.prog 56 #[.agg #[.string xm, .slice a lx c1, .string xf], .agg #[.string ym, .slice b ly c2, .string yf]] ((w.alloc (.cells #[.string xm, .slice a lx c1, .string xf, .int .i64 xtm, .int .u8 (xk : Int), .int .i64 xn] 52)).alloc (.cells #[.string ym, .slice b ly c2, .string yf, .int .i64 ytm, .int .u8 (yk : Int), .int .i64 yn] 52)) fun e w' => e = .returned (.int .i64 r) ∧ Below w.heap.size w w' ∧ w'.cell? ⟨w.heap.size, 3, none⟩ = some (.int .i64 xtm) ∧ w'.cell? ⟨w.heap.size + 1, 3, none⟩ = some (.int .i64 ytm)) := (C1.out _ b2).mono fun e w' hh => ⟨hh.1, b2.trans (hh.2.mono b2.size), by rw [hh.2.cell (p := ⟨w.heap.size, 3, none⟩) (by rw [← s2]; show w.heap.size < _; omega)]; simp [go_sem], by rw [hh.2.cell (p := ⟨w.heap.size + 1, 3, none⟩) (by rw [← s2]; show w.heap.size + 1 < _; omega)]; simp [go_sem]⟩
  obtain ⟨RES, hRES⟩ : ∃ R, (if r = 0 then tmC xtm ytm else r) = R := ⟨_, rfl⟩
  rw [hRES]
  have hRH : Hid ((if r = 0 then tmC xtm ytm else r) = RES) := hRES
  clear B2 C1 b2 s2 hRES
  go_enter Tryz.func31, Tryz.ntmps31
  go_wp2_with fail
  refine Calls.mono C1'.out ?_
  rintro e w1 ⟨rfl, b1, x1, y1⟩
  have b1H : Hid (Below w.heap.size w w1) := b1
  clear b1 C1'
  by_cases hr : r = 0
  · have hq : Hid (tmC xtm ytm = RES) := by have := hRH.out; rw [if_pos hr] at this; exact this
    have hrb : (r == 0) = true := by simpa using hr
    clear hRH
    subst hr
    by_cases t1 : xtm < ytm
    · have e : tmC xtm ytm = -1 := by unfold tmC; rw [if_pos t1]
      rw [e] at hq
      clear e
      go_wp2_with fail
      go_ret
      exact ⟨by rw [← hq.out]; rfl, b1H.out⟩
    · by_cases t2 : ytm < xtm
      · have e : tmC xtm ytm = 1 := by unfold tmC; rw [if_neg t1, if_pos t2]
        rw [e] at hq
        clear e
        go_wp2_with fail
        go_ret
        exact ⟨by rw [← hq.out]; rfl, b1H.out⟩
      · have e : tmC xtm ytm = 0 := by unfold tmC; rw [if_neg t1, if_neg t2]
        rw [e] at hq
        clear e
        go_wp2_with fail
        go_ret
        exact ⟨by rw [← hq.out]; rfl, b1H.out⟩
  · have hq : Hid (r = RES) := by have := hRH.out; rw [if_neg hr] at this; exact this
    have hrb : (r == 0) = false := by simpa using hr
    clear hr hRH
    go_wp2_with fail
    go_ret
    exact ⟨by rw [← hq.out]; rfl, b1H.out⟩
end Go.Proofs.YtepakgfdakeibaaGreatDoor

namespace Go.Proofs.YtepakgfdakeibaaGreatDoor
open Go.RowKit _root_.Go.Proofs.YtepakgfdakeibaaGreatDoor.So
set_option linter.unusedVariables false
set_option linter.unusedSimpArgs false
theorem drop_atW {l : List WrP} {i : Nat} (h : i < l.length) : l.drop i = atW l i :: l.drop (i + 1) := by
  rw [List.drop_eq_getElem_cons h]
  have := atW_some h
  rw [List.getElem?_eq_getElem h] at this
  injection this with this
  rw [this]
theorem mgD_left {l m : List WrP} {i k : Nat} (hi : i < l.length) (h : k < m.length → wC (atW l i) (atW m k) < 0) : mgD (l.drop i) (m.drop k) = atW l i :: mgD (l.drop (i + 1)) (m.drop k) := by
  rw [drop_atW hi]
  rcases Nat.lt_or_ge k m.length with hk | hk
  · rw [drop_atW hk, mgD, if_pos (h hk)]
  · rw [List.drop_eq_nil_of_le hk, mgD, mgD_nil]
theorem mgD_right {l m : List WrP} {i k : Nat} (hk : k < m.length) (h : i < l.length → 0 < wC (atW l i) (atW m k)) : mgD (l.drop i) (m.drop k) = atW m k :: mgD (l.drop i) (m.drop (k + 1)) := by
  rw [drop_atW hk]
  rcases Nat.lt_or_ge i l.length with hi | hi
  · rw [drop_atW hi, mgD, if_neg (by have := h hi; omega), if_pos (h hi)]
  · rw [List.drop_eq_nil_of_le hi, mgD, mgD]
theorem mgD_same {l m : List WrP} {i k : Nat} (hi : i < l.length) (hk : k < m.length) (h : wC (atW l i) (atW m k) = 0) : mgD (l.drop i) (m.drop k) = mgD (l.drop (i + 1)) (m.drop k) := by
  rw [drop_atW hk, drop_atW hi, mgD, if_neg (by omega), if_neg (by omega)]
/-- what stands while two rows are merged. -/
structure MgS (w : World) (l m : List WrP) (i k : Nat) (v : Value) (L : List WrA) (wr : World) : Prop where
  bl : Below w.heap.size w wr
  row : OW2 wr w.heap.size v L
  is : L.map (·.1) ++ mgD (l.drop i) (m.drop k) = mgD l m
  il : i ≤ l.length
  kl : k ≤ m.length
  few : L.length ≤ i + k
theorem MgS.below {w wr w' : World} {l m : List WrP} {i k : Nat} {v : Value} {L : List WrA} (h : MgS w l m i k v L wr) (hB : Below wr.heap.size wr w') : MgS w l m i k v L w' := ⟨h.bl.trans (hB.mono h.bl.size), h.row.below hB, h.is, h.il, h.kl, h.few⟩
theorem MgS.app {w wr : World} {l m : List WrP} {i k : Nat} {a3 : Option Addr} {z c3 : Nat} {L : List WrA} (h : MgS w l m i k (.slice a3 z c3) L wr) (x : WrP) (tx : Option Addr) (cx : Nat) (hs : ∀ W, Below w.heap.size w W → SerIn W tx x.s) (hn : l.length + m.length ≤ 1099511627775) :
    ∃ a4 c4 w6, (Builtin.append_ #[22, 22] 22 #[.slice a3 z c3, .slice (some ⟨wr.heap.size, 0, none⟩) 1 1]).run Tryz.prog (wr.alloc (.cells #[.string x.s.m, .slice tx x.s.t.length cx, .string x.s.f, .int .i64 x.tm, .int .u8 (x.kd : Int), .int .i64 x.n] 52)) = .ok (.slice a4 (z + 1) c4) w6 ∧ OW2 w6 w.heap.size (.slice a4 (z + 1) c4) (L ++ [(x, tx, cx)]) ∧ Below w.heap.size w w6 := by
  have lz : L.length = z := by
    obtain ⟨_, _, e, _⟩ := h.row.1.win
    injection e with _ e _
    exact e.symm
  obtain ⟨a4, c4, w6, q1, q2, q3⟩ := app2W wr w.heap.size (.slice a3 z c3) L h.row h.bl.size (x, tx, cx) (hs wr h.bl) (fun he ad had e => by
    have h1 := (World.ownsRow.lt h.row.1.1 _ e).1
    rcases (hs w (Below.refl _ _)).1 with h2 | ⟨b, off, h3, h4, _⟩
    · exact he h2
    · rw [show tx = some ad from had] at h3
      injection h3 with h3
      rw [h3] at h1
      simp only at h1
      omega) (by have := h.few; have := h.il; have := h.kl; omega)
  rw [lz] at q1 q2
  exact ⟨a4, c4, w6, q1, q2, h.bl.trans q3⟩
theorem MgS.left {w wr : World} {l m : List WrP} {i k : Nat} {a3 : Option Addr} {z c3 : Nat} {L : List WrA} {a : Option Addr} (h : MgS w l m i k (.slice a3 z c3) L wr) (ha : WIn w a l) (hi : i < l.length) (hlt : k < m.length → wC (atW l i) (atW m k) < 0) (hn : l.length + m.length ≤ 1099511627775) :
    ∃ b off tx cx, a = some ⟨b, off, none⟩ ∧ WAt wr b (off + i * 6) (atW l i) tx cx ∧ ∃ a4 c4 L4 w6, (Builtin.append_ #[22, 22] 22 #[.slice a3 z c3, .slice (some ⟨wr.heap.size, 0, none⟩) 1 1]).run Tryz.prog (wr.alloc (.cells #[.string (atW l i).s.m, .slice tx (atW l i).s.t.length cx, .string (atW l i).s.f, .int .i64 (atW l i).tm, .int .u8 ((atW l i).kd : Int), .int .i64 (atW l i).n] 52)) = .ok (.slice a4 (z + 1) c4) w6 ∧ MgS w l m (i + 1) k (.slice a4 (z + 1) c4) L4 w6 := by
  obtain ⟨b, off, tx, cx, e, hb, hw, hf⟩ := ha.at h.bl (atW_some hi)
  obtain ⟨a4, c4, w6, q1, q2, q3⟩ := h.app (atW l i) tx cx (fun W hW => (hf W hW).2) hn
  refine ⟨b, off, tx, cx, e, hw, a4, c4, _, w6, q1, q3, q2, ?_, hi, h.kl, by have := h.few; simp; omega⟩
  rw [← h.is, mgD_left hi hlt]; simp
theorem MgS.right {w wr : World} {l m : List WrP} {i k : Nat} {a3 : Option Addr} {z c3 : Nat} {L : List WrA} {a : Option Addr} (h : MgS w l m i k (.slice a3 z c3) L wr) (ha : WIn w a m) (hk : k < m.length) (hlt : i < l.length → 0 < wC (atW l i) (atW m k)) (hn : l.length + m.length ≤ 1099511627775) :
    ∃ b off tx cx, a = some ⟨b, off, none⟩ ∧ WAt wr b (off + k * 6) (atW m k) tx cx ∧ ∃ a4 c4 L4 w6, (Builtin.append_ #[22, 22] 22 #[.slice a3 z c3, .slice (some ⟨wr.heap.size, 0, none⟩) 1 1]).run Tryz.prog (wr.alloc (.cells #[.string (atW m k).s.m, .slice tx (atW m k).s.t.length cx, .string (atW m k).s.f, .int .i64 (atW m k).tm, .int .u8 ((atW m k).kd : Int), .int .i64 (atW m k).n] 52)) = .ok (.slice a4 (z + 1) c4) w6 ∧ MgS w l m i (k + 1) (.slice a4 (z + 1) c4) L4 w6 := by
  obtain ⟨b, off, tx, cx, e, hb, hw, hf⟩ := ha.at h.bl (atW_some hk)
  obtain ⟨a4, c4, w6, q1, q2, q3⟩ := h.app (atW m k) tx cx (fun W hW => (hf W hW).2) hn
  refine ⟨b, off, tx, cx, e, hw, a4, c4, _, w6, q1, q3, q2, ?_, h.il, hk, by have := h.few; simp; omega⟩
  rw [← h.is, mgD_right hk hlt]; simp
theorem MgS.same {w wr : World} {l m : List WrP} {i k : Nat} {v : Value} {L : List WrA} (h : MgS w l m i k v L wr) (hi : i < l.length) (hk : k < m.length) (h0 : wC (atW l i) (atW m k) = 0) : MgS w l m (i + 1) k v L wr := ⟨h.bl, h.row, by rw [← h.is, mgD_same hi hk h0], hi, h.kl, by have := h.few; omega⟩
/-- what merged tells. -/
def MgR (w w' : World) (l m : List WrP) (e : Ending) : Prop := ∃ (a3 : Option Addr) (z c3 : Nat) (L : List WrA), e = .returned (.slice a3 z c3) ∧ OW2 w' w.heap.size (.slice a3 z c3) L ∧ L.map (·.1) = mgD l m ∧ Below w.heap.size w w'
set_option maxRecDepth 100000 in
set_option maxHeartbeats 16000000 in
theorem merged_any (a a2 : Option Addr) (c c2 : Nat) (l m : List WrP) (w : World) (ha : WIn w a l) (hb : WIn w a2 m) (hn : l.length + m.length ≤ 1099511627775) :
    Calls Tryz.prog 46 #[.slice a l.length c, .slice a2 m.length c2] w fun e w' => MgR w w' l m e := by
  obtain ⟨n1, hn1⟩ : ∃ n, n = l.length := ⟨_, rfl⟩
  obtain ⟨n2, hn2⟩ : ∃ n, n = m.length := ⟨_, rfl⟩
  have n1H : Hid (n1 = l.length) := hn1
  have n2H : Hid (n2 = m.length) := hn2
  rw [← hn1, ← hn2]
  have S0 : Hid (MgS w l m 0 0 (.slice none 0 0) [] w) := ⟨Below.refl _ _, OW2.nil _ _, by simp, Nat.zero_le _, Nat.zero_le _, by simp⟩
  have fL : Hid (∀ (i k : Nat) (a3 : Option Addr) (z c3 : Nat) (L : List WrA) (wr : World), MgS w l m i k (.slice a3 z c3) L wr → i < l.length → (k < m.length → wC (atW l i) (atW m k) < 0) → _) := fun i k a3 z c3 L wr h hi hlt => h.left ha hi hlt hn
  have fR : Hid (∀ (i k : Nat) (a3 : Option Addr) (z c3 : Nat) (L : List WrA) (wr : World), MgS w l m i k (.slice a3 z c3) L wr → k < m.length → (i < l.length → 0 < wC (atW l i) (atW m k)) → _) := fun i k a3 z c3 L wr h hk hlt => h.right hb hk hlt hn
  have aH : Hid (WIn w a l) := ha
  have bH : Hid (WIn w a2 m) := hb
  have b1 : n1 ≤ 1099511627775 := by omega
  have b2 : n2 ≤ 1099511627775 := by omega
  clear ha hb hn hn1 hn2
  go_enter Tryz.func46, Tryz.ntmps46
  go_wp2_with fail
  go_loopw [5, 6, 7] (fun v5 v6 v7 wr => ∃ (i k : Nat) (a3 : Option Addr) (z c3 : Nat) (L : List WrA), v5 = .slice a3 z c3 ∧ v6 = .int .i64 (i : Int) ∧ v7 = .int .i64 (k : Int) ∧ Hid (MgS w l m i k (.slice a3 z c3) L wr)) (fun _ v6 v7 _ => n1 + n2 - (intOf v6).toNat - (intOf v7).toNat)
  case atStart => exact ⟨0, 0, none, 0, 0, [], rfl, rfl, rfl, S0⟩
  case round =>
    obtain ⟨i, k, a3, z, c3, L, rfl, rfl, rfl, hS⟩ := hrel
    clear S0
    have il : Hid (i ≤ n1) := by rw [n1H.out]; exact hS.out.il
    have kl : Hid (k ≤ n2) := by rw [n2H.out]; exact hS.out.kl
    have i0 : (0 : Int) ≤ (i : Int) := by omega
    have k0 : (0 : Int) ≤ (k : Int) := by omega
    have wi : IntKind.i64.wrap ((i : Int) + 1) = ((i + 1 : Nat) : Int) := IntWalk.i64_in _ (by have := il.out; omega)
    have wk : IntKind.i64.wrap ((k : Int) + 1) = ((k + 1 : Nat) : Int) := IntWalk.i64_in _ (by have := kl.out; omega)
    by_cases hi : i < n1
    · have iI : (i : Int) < (n1 : Int) := by omega
      have iN : ((i : Int) == (n1 : Int)) = false := by simp; omega
      have iE : ¬ (i : Int) = (n1 : Int) := by omega
      have hiL : Hid (i < l.length) := by rw [← n1H.out]; exact hi
      by_cases hk : k < n2
      · have kI : (k : Int) < (n2 : Int) := by omega
        have kN : ((k : Int) == (n2 : Int)) = false := by simp; omega
        have kE : ¬ (k : Int) = (n2 : Int) := by omega
        have hkL : Hid (k < m.length) := by rw [← n2H.out]; exact hk
        obtain ⟨b, off, tx, cx, e1, hbx, ax, fx⟩ := aH.out.at hS.out.bl (atW_some hiL.out)
        obtain ⟨b', off', ty, cy, e2, hby, ay, fy⟩ := bH.out.at hS.out.bl (atW_some hkL.out)
        subst e1 e2
        have CH : Hid (∀ W', Below w.heap.size w W' → Calls Tryz.prog 31 #[wV (atW l i) tx cx, wV (atW m k) ty cy] W' fun e w' => e = .returned (.int .i64 (wC (atW l i) (atW m k))) ∧ Below W'.heap.size W' w') := fun W' hW' => rpcompare_any _ _ tx ty cx cy W' (fx W' hW').2 (fy W' hW').2
        obtain ⟨cv, hcv⟩ : ∃ c, c = wC (atW l i) (atW m k) := ⟨_, rfl⟩
        have cvH : Hid (cv = wC (atW l i) (atW m k)) := hcv
        rw [← hcv] at CH
        clear hcv fx fy
        unfold wV at CH
        unfold WAt at ax ay
        generalize atW l i = x at ax CH
        generalize atW m k = y at ay CH
        generalize x.s.t.length = nx at ax CH
        generalize y.s.t.length = ny at ay CH
        have bl : b < wr.heap.size := Nat.lt_of_lt_of_le hbx hS.out.bl.size
        have bl' : b' < wr.heap.size := Nat.lt_of_lt_of_le hby hS.out.bl.size
        have BH : Hid (Below w.heap.size w wr) := hS.out.bl
        clear hbx hby
        obtain ⟨x1, x2, x3, x4, x5, x6⟩ := ax
        obtain ⟨y1, y2, y3, y4, y5, y6⟩ := ay
        go_wp2_with fail
        refine wp_region_noPanic ?_
        refine wp_region_held_drew (S := fun W => (W.cell? ⟨b, off + i * 6, none⟩ = some (.string x.s.m) ∧ W.cell? ⟨b, off + i * 6 + 1, none⟩ = some (.slice tx nx cx) ∧ W.cell? ⟨b, off + i * 6 + 2, none⟩ = some (.string x.s.f) ∧ W.cell? ⟨b, off + i * 6 + 3, none⟩ = some (.int .i64 x.tm) ∧ W.cell? ⟨b, off + i * 6 + 4, none⟩ = some (.int .u8 (x.kd : Int)) ∧ W.cell? ⟨b, off + i * 6 + 5, none⟩ = some (.int .i64 x.n)) ∧ W.cell? ⟨b', off' + k * 6, none⟩ = some (.string y.s.m) ∧ W.cell? ⟨b', off' + k * 6 + 1, none⟩ = some (.slice ty ny cy) ∧ W.cell? ⟨b', off' + k * 6 + 2, none⟩ = some (.string y.s.f) ∧ W.cell? ⟨b', off' + k * 6 + 3, none⟩ = some (.int .i64 y.tm) ∧ W.cell? ⟨b', off' + k * 6 + 4, none⟩ = some (.int .u8 (y.kd : Int)) ∧ W.cell? ⟨b', off' + k * 6 + 5, none⟩ = some (.int .i64 y.n)) (by kernel_rfl) ⟨⟨x1, x2, x3, x4, x5, x6⟩, y1, y2, y3, y4, y5, y6⟩ (fun hHeld => ?_)
        refine zT 0 (v := ?_) rfl ?_ ?_
        rotate_left 1
        · (intro w0 hSw; (try dsimp only at hSw); obtain ⟨⟨s1, s2, s3, s4, s5, s6⟩, t1, t2, t3, t4, t5, t6⟩ := hSw; go_simp; try with_reducible rfl)
        (try simp only [z1, z2, z3]); (try simp only [Act.put, z4, z5, z6])
        refine zT 1 (v := ?_) rfl ?_ ?_
        rotate_left 1
        · (intro w0 hSw; (try dsimp only at hSw); obtain ⟨⟨s1, s2, s3, s4, s5, s6⟩, t1, t2, t3, t4, t5, t6⟩ := hSw; go_simp; try with_reducible rfl)
        (try simp only [z1, z2, z3]); (try simp only [Act.put, z4, z5, z6])
        refine zT 2 (v := ?_) rfl ?_ ?_
        rotate_left 1
        · (intro w0 hSw; (try dsimp only at hSw); obtain ⟨⟨s1, s2, s3, s4, s5, s6⟩, t1, t2, t3, t4, t5, t6⟩ := hSw; go_simp; try with_reducible rfl)
        (try simp only [z1, z2, z3]); (try simp only [Act.put, z4, z5, z6])
        refine zT 3 (v := ?_) rfl ?_ ?_
        rotate_left 1
        · (intro w0 hSw; (try dsimp only at hSw); obtain ⟨⟨s1, s2, s3, s4, s5, s6⟩, t1, t2, t3, t4, t5, t6⟩ := hSw; go_simp; try with_reducible rfl)
        (try simp only [z1, z2, z3]); (try simp only [Act.put, z4, z5, z6])
        refine zT 4 (v := ?_) rfl ?_ ?_
        rotate_left 1
        · (intro w0 hSw; (try dsimp only at hSw); obtain ⟨⟨s1, s2, s3, s4, s5, s6⟩, t1, t2, t3, t4, t5, t6⟩ := hSw; go_simp; try with_reducible rfl)
        (try simp only [z1, z2, z3]); (try simp only [Act.put, z4, z5, z6])
        refine zT 5 (v := ?_) rfl ?_ ?_
        rotate_left 1
        · (intro w0 hSw; (try dsimp only at hSw); obtain ⟨⟨s1, s2, s3, s4, s5, s6⟩, t1, t2, t3, t4, t5, t6⟩ := hSw; go_simp; try with_reducible rfl)
        (try simp only [z1, z2, z3]); (try simp only [Act.put, z4, z5, z6])
        refine zT 6 (v := ?_) rfl ?_ ?_
        rotate_left 1
        · (intro w0 hSw; (try dsimp only at hSw); obtain ⟨⟨s1, s2, s3, s4, s5, s6⟩, t1, t2, t3, t4, t5, t6⟩ := hSw; go_simp; try with_reducible rfl)
        (try simp only [z1, z2, z3]); (try simp only [Act.put, z4, z5, z6])
        refine zT 7 (v := ?_) rfl ?_ ?_
        rotate_left 1
        · (intro w0 hSw; (try dsimp only at hSw); obtain ⟨⟨s1, s2, s3, s4, s5, s6⟩, t1, t2, t3, t4, t5, t6⟩ := hSw; go_simp; try with_reducible rfl)
        (try simp only [z1, z2, z3]); (try simp only [Act.put, z4, z5, z6])
        refine wpAnyH_ready (rs := [8]) (by kernel_rfl) (by simp) ?_
        refine AllReadyH.cons (o := _) rfl (fun K hK => ?_) AllReadyH.nil
        go_simp
        refine Calls.mono (CH.out _ (show Below w.heap.size w wr.drew from BH.out.drew)) ?_
        rintro e w' ⟨rfl, BB⟩
        try dsimp only
        refine hK _ _ ?_ (fun hHeld => ?_)
        · exact ⟨⟨by rw [BB.cell (p := ⟨b, off + i * 6, none⟩) bl]; exact x1, by rw [BB.cell (p := ⟨b, off + i * 6 + 1, none⟩) bl]; exact x2, by rw [BB.cell (p := ⟨b, off + i * 6 + 2, none⟩) bl]; exact x3, by rw [BB.cell (p := ⟨b, off + i * 6 + 3, none⟩) bl]; exact x4, by rw [BB.cell (p := ⟨b, off + i * 6 + 4, none⟩) bl]; exact x5, by rw [BB.cell (p := ⟨b, off + i * 6 + 5, none⟩) bl]; exact x6⟩, by rw [BB.cell (p := ⟨b', off' + k * 6, none⟩) bl']; exact y1, by rw [BB.cell (p := ⟨b', off' + k * 6 + 1, none⟩) bl']; exact y2, by rw [BB.cell (p := ⟨b', off' + k * 6 + 2, none⟩) bl']; exact y3, by rw [BB.cell (p := ⟨b', off' + k * 6 + 3, none⟩) bl']; exact y4, by rw [BB.cell (p := ⟨b', off' + k * 6 + 4, none⟩) bl']; exact y5, by rw [BB.cell (p := ⟨b', off' + k * 6 + 5, none⟩) bl']; exact y6⟩
        clear hK K
        (try simp only [z1, z2, z3]); (try simp only [Act.put, z4, z5, z6])
        refine zT 9 (v := ?_) rfl ?_ ?_
        rotate_left 1
        · (intro w0 hSw; (try dsimp only at hSw); obtain ⟨⟨s1, s2, s3, s4, s5, s6⟩, t1, t2, t3, t4, t5, t6⟩ := hSw; go_simp; try with_reducible rfl)
        (try simp only [z1, z2, z3]); (try simp only [Act.put, z4, z5, z6])
        refine wpAnyH_done (by kernel_rfl) ?_ _
        refine NoPanic.normal ?_
        have hS9 : Hid (MgS w l m i k (.slice a3 z c3) L w') := hS.out.below ((show Below wr.heap.size wr wr.drew from (Below.refl _ wr).drew).trans BB)
        clear BB BH CH x1 x2 x3 x4 x5 x6 y1 y2 y3 y4 y5 y6 hHeld hS
        by_cases d1 : cv < 0
        · obtain ⟨bq, oq, tq, cq, e1, ax, a4, c4, L4, w6, hr6, hS6⟩ := fL.out i k a3 z c3 L w' hS9.out hiL.out (fun _ => by rw [← cvH.out]; exact d1)
          injection e1 with e1
          injection e1 with e2 e3
          subst e2 e3
          have rH : Hid (∀ W N, W = w'.alloc (.cells #[.string (atW l i).s.m, .slice tq (atW l i).s.t.length cq, .string (atW l i).s.f, .int .i64 (atW l i).tm, .int .u8 ((atW l i).kd : Int), .int .i64 (atW l i).n] 52) → N = w'.heap.size → (Builtin.append_ #[22, 22] 22 #[.slice a3 z c3, .slice (some ⟨N, 0, none⟩) 1 1]).run Tryz.prog W = .ok (.slice a4 (z + 1) c4) w6) := fun W N e e' => by subst e; subst e'; exact hr6
          have S6 : Hid (MgS w l m (i + 1) k (.slice a4 (z + 1) c4) L4 w6) := hS6
          clear hr6 hS6 hS9 cvH
          unfold WAt at ax
          generalize atW l i = x at ax rH
          generalize x.s.t.length = nx at ax rH
          obtain ⟨x1, x2, x3, x4, x5, x6⟩ := ax
          go_wp2_with (at_builtin; refine wpList_append_runB (by rfl) _ _ _ (by rfl) _ _ _ _ (by rfl) (by rfl) (rH.out _ _ (by first | rfl | simp) (by first | rfl | simp)) ?_)
          exact ⟨⟨i + 1, k, a4, z + 1, c4, L4, rfl, rfl, rfl, S6⟩, by simp [intOf]; omega⟩
        · by_cases d2 : 0 < cv
          · have d2g : cv > 0 := d2
            obtain ⟨bq, oq, tq, cq, e1, ax, a4, c4, L4, w6, hr6, hS6⟩ := fR.out i k a3 z c3 L w' hS9.out hkL.out (fun _ => by rw [← cvH.out]; exact d2)
            injection e1 with e1
            injection e1 with e2 e3
            subst e2 e3
            have rH : Hid (∀ W N, W = w'.alloc (.cells #[.string (atW m k).s.m, .slice tq (atW m k).s.t.length cq, .string (atW m k).s.f, .int .i64 (atW m k).tm, .int .u8 ((atW m k).kd : Int), .int .i64 (atW m k).n] 52) → N = w'.heap.size → (Builtin.append_ #[22, 22] 22 #[.slice a3 z c3, .slice (some ⟨N, 0, none⟩) 1 1]).run Tryz.prog W = .ok (.slice a4 (z + 1) c4) w6) := fun W N e e' => by subst e; subst e'; exact hr6
            have S6 : Hid (MgS w l m i (k + 1) (.slice a4 (z + 1) c4) L4 w6) := hS6
            clear hr6 hS6 hS9 cvH
            unfold WAt at ax
            generalize atW m k = x at ax rH
            generalize x.s.t.length = nx at ax rH
            obtain ⟨x1, x2, x3, x4, x5, x6⟩ := ax
            go_wp2_with (at_builtin; refine wpList_append_runB (by rfl) _ _ _ (by rfl) _ _ _ _ (by rfl) (by rfl) (rH.out _ _ (by first | rfl | simp) (by first | rfl | simp)) ?_)
            exact ⟨⟨i, k + 1, a4, z + 1, c4, L4, rfl, rfl, rfl, S6⟩, by simp [intOf]; omega⟩
          · have hS6 : Hid (MgS w l m (i + 1) k (.slice a3 z c3) L w') := hS9.out.same hiL.out hkL.out (by rw [← cvH.out]; omega)
            have d2g : ¬ cv > 0 := d2
            clear hS9 cvH
            go_wp2_with fail
            exact ⟨⟨i + 1, k, a3, z, c3, L, rfl, rfl, rfl, hS6⟩, by simp [intOf]; omega⟩
      · have ek : Hid (k = n2) := by have := kl.out; show k = n2; omega
        have kI : ¬ (k : Int) < (n2 : Int) := by omega
        have kN : ((k : Int) == (n2 : Int)) = true := by have := ek.out; simp; omega
        have kE : (k : Int) = (n2 : Int) := by have := ek.out; omega
        obtain ⟨bq, oq, tq, cq, e1, ax, a4, c4, L4, w6, hr6, hS6⟩ := fL.out i k a3 z c3 L wr hS.out hiL.out (fun q => absurd q (by rw [← n2H.out]; exact hk))
        subst e1
        have rH : Hid (∀ W N, W = wr.alloc (.cells #[.string (atW l i).s.m, .slice tq (atW l i).s.t.length cq, .string (atW l i).s.f, .int .i64 (atW l i).tm, .int .u8 ((atW l i).kd : Int), .int .i64 (atW l i).n] 52) → N = wr.heap.size → (Builtin.append_ #[22, 22] 22 #[.slice a3 z c3, .slice (some ⟨N, 0, none⟩) 1 1]).run Tryz.prog W = .ok (.slice a4 (z + 1) c4) w6) := fun W N e e' => by subst e; subst e'; exact hr6
        have S6 : Hid (MgS w l m (i + 1) k (.slice a4 (z + 1) c4) L4 w6) := hS6
        clear hr6 hS6 hS
        unfold WAt at ax
        generalize atW l i = x at ax rH
        generalize x.s.t.length = nx at ax rH
        obtain ⟨x1, x2, x3, x4, x5, x6⟩ := ax
        go_wp2_with (at_builtin; refine wpList_append_runB (by rfl) _ _ _ (by rfl) _ _ _ _ (by rfl) (by rfl) (rH.out _ _ (by first | rfl | simp) (by first | rfl | simp)) ?_)
        exact ⟨⟨i + 1, k, a4, z + 1, c4, L4, rfl, rfl, by rw [ek.out], S6⟩, by simp [intOf]; omega⟩
    · have ei : Hid (i = n1) := by have := il.out; show i = n1; omega
      have iI : ¬ (i : Int) < (n1 : Int) := by omega
      have iN : ((i : Int) == (n1 : Int)) = true := by have := ei.out; simp; omega
      have iE : (i : Int) = (n1 : Int) := by have := ei.out; omega
      by_cases hk : k < n2
      · have kI : (k : Int) < (n2 : Int) := by omega
        have hkL : Hid (k < m.length) := by rw [← n2H.out]; exact hk
        obtain ⟨bq, oq, tq, cq, e1, ax, a4, c4, L4, w6, hr6, hS6⟩ := fR.out i k a3 z c3 L wr hS.out hkL.out (fun q => absurd q (by rw [← n1H.out]; exact hi))
        subst e1
        have rH : Hid (∀ W N, W = wr.alloc (.cells #[.string (atW m k).s.m, .slice tq (atW m k).s.t.length cq, .string (atW m k).s.f, .int .i64 (atW m k).tm, .int .u8 ((atW m k).kd : Int), .int .i64 (atW m k).n] 52) → N = wr.heap.size → (Builtin.append_ #[22, 22] 22 #[.slice a3 z c3, .slice (some ⟨N, 0, none⟩) 1 1]).run Tryz.prog W = .ok (.slice a4 (z + 1) c4) w6) := fun W N e e' => by subst e; subst e'; exact hr6
        have S6 : Hid (MgS w l m i (k + 1) (.slice a4 (z + 1) c4) L4 w6) := hS6
        clear hr6 hS6 hS
        unfold WAt at ax
        generalize atW m k = x at ax rH
        generalize x.s.t.length = nx at ax rH
        obtain ⟨x1, x2, x3, x4, x5, x6⟩ := ax
        go_wp2_with (at_builtin; refine wpList_append_runB (by rfl) _ _ _ (by rfl) _ _ _ _ (by rfl) (by rfl) (rH.out _ _ (by first | rfl | simp) (by first | rfl | simp)) ?_)
        exact ⟨⟨i, k + 1, a4, z + 1, c4, L4, rfl, by rw [ei.out], rfl, S6⟩, by simp [intOf]; omega⟩
      · have kI : ¬ (k : Int) < (n2 : Int) := by omega
        have ek : Hid (k = n2) := by have := kl.out; show k = n2; omega
        have fin : Hid (MgR w wr l m (.returned (.slice a3 z c3))) := ⟨a3, z, c3, L, rfl, hS.out.row, by
          have h := hS.out.is
          rw [List.drop_eq_nil_of_le (by rw [← n1H.out, ei.out]; exact Nat.le_refl _), mgD, List.drop_eq_nil_of_le (by rw [← n2H.out, ek.out]; exact Nat.le_refl _), List.append_nil] at h
          exact h, hS.out.bl⟩
        clear hS
        go_wp2_with fail
        go_ret
        exact fin.out
end Go.Proofs.YtepakgfdakeibaaGreatDoor

namespace Go.Proofs.YtepakgfdakeibaaGreatDoor
open Go.RowKit _root_.Go.Proofs.YtepakgfdakeibaaGreatDoor.So
set_option linter.unusedVariables false
set_option linter.unusedSimpArgs false
set_option maxRecDepth 100000 in
set_option maxHeartbeats 8000000 in
/-- CopySeries: the tags in a row of one's own. -/
theorem copySeries_any (a : Option Addr) (c : Nat) (s : SerP) (w : World) (hs : SerIn w a s) (hn : s.t.length ≤ 4398046511104) :
    Calls Tryz.prog 14 #[.agg #[.string s.m, .slice a s.t.length c, .string s.f]] w fun e w' => ∃ a' c', e = .returned (.agg #[.string s.m, .slice a' s.t.length c', .string s.f]) ∧ TgIn w' a' s.t ∧ (∀ ad, a' = some ad → w.heap.size ≤ ad.block) ∧ Below w.heap.size w w' := by
  obtain ⟨sm, st, sf⟩ := s
  simp only at hs hn ⊢
  obtain ⟨hs, _⟩ := hs
  simp only at hs
  obtain ⟨w3, hw3⟩ : ∃ w3, w3 = ((w.alloc (.cells #[.string sm, .slice a st.length c, .string sf] 44)).alloc (.cells #[.string ⟨#[]⟩, .slice none 0 0, .string ⟨#[]⟩] 44)).alloc (.cells #[.string sm, .slice none 0 0, .string sf] 44) := ⟨_, rfl⟩
  have b3 : Below w.heap.size w w3 := by
    rw [hw3]
    exact (((Below.refl _ w).alloc (Nat.le_refl _) _).alloc (by simp) _).alloc (by simp; omega) _
  have s3 : w3.heap.size = w.heap.size + 3 := by rw [hw3]; simp
  have f3 : ∀ p, w3.frozen? ⟨w.heap.size + 1 + 1, p, none⟩ = false ∧ w3.frozen? ⟨w.heap.size + 1, p, none⟩ = false := fun p => by rw [hw3]; simp [go_sem]
  have x3 : (w3.cell? ⟨w.heap.size + 1 + 1, 0, none⟩ = some (.string sm) ∧ w3.cell? ⟨w.heap.size + 1 + 1, 1, none⟩ = some (.slice none 0 0) ∧ w3.cell? ⟨w.heap.size + 1 + 1, 2, none⟩ = some (.string sf)) ∧ w3.cell? ⟨w.heap.size + 1, 0, none⟩ = some (.string ⟨#[]⟩) ∧ w3.cell? ⟨w.heap.size + 1, 1, none⟩ = some (.slice none 0 0) ∧ w3.cell? ⟨w.heap.size + 1, 2, none⟩ = some (.string ⟨#[]⟩) := by
    rw [hw3]
    refine ⟨⟨?_, ?_, ?_⟩, ?_, ?_, ?_⟩ <;> simp [go_sem]
  obtain ⟨v1, w4, hr, ho, hg, hv⟩ := appT w3 w3.heap.size (.slice none 0 0) [] st (OT.nil _ _) (Nat.le_refl _) a c (hs.below b3) (by simpa using hn)
  rw [List.nil_append] at ho
  have b4 : Below w3.heap.size w3 w4 := grown_below (OT.nil w3 w3.heap.size) (Nat.le_refl _) hg
  obtain ⟨a1, c1, e1, _, ht⟩ := ho.tin
  subst e1
  have fr : ∀ ad, a1 = some ad → w.heap.size + 3 ≤ ad.block := fun ad e => by
    subst e
    have := (World.ownsRow.lt ho ad.block rfl).1
    omega
  obtain ⟨⟨x1, x2, x3⟩, y1, y2, y3⟩ := x3
  have lt2 : w.heap.size + 1 + 1 < w3.heap.size := by omega
  have lt1 : w.heap.size + 1 < w3.heap.size := by omega
  have g2 : ∀ p, w4.frozen? ⟨w.heap.size + 1 + 1, p, none⟩ = false := fun p => by rw [b4.frozen (p := ⟨w.heap.size + 1 + 1, p, none⟩) lt2]; exact (f3 p).1
  have g1 : ∀ p, w4.frozen? ⟨w.heap.size + 1, p, none⟩ = false := fun p => by rw [b4.frozen (p := ⟨w.heap.size + 1, p, none⟩) lt1]; exact (f3 p).2
  have p0 : w4.cell? ⟨w.heap.size + 1 + 1, 0, none⟩ = some (.string sm) := by rw [b4.cell (p := ⟨w.heap.size + 1 + 1, 0, none⟩) lt2]; exact x1
  have p1 : w4.cell? ⟨w.heap.size + 1 + 1, 1, none⟩ = some (.slice none 0 0) := by rw [b4.cell (p := ⟨w.heap.size + 1 + 1, 1, none⟩) lt2]; exact x2
  have p2 : w4.cell? ⟨w.heap.size + 1 + 1, 2, none⟩ = some (.string sf) := by rw [b4.cell (p := ⟨w.heap.size + 1 + 1, 2, none⟩) lt2]; exact x3
  have q0 : w4.cell? ⟨w.heap.size + 1, 0, none⟩ = some (.string ⟨#[]⟩) := by rw [b4.cell (p := ⟨w.heap.size + 1, 0, none⟩) lt1]; exact y1
  have q1 : w4.cell? ⟨w.heap.size + 1, 1, none⟩ = some (.slice none 0 0) := by rw [b4.cell (p := ⟨w.heap.size + 1, 1, none⟩) lt1]; exact y2
  have q2 : w4.cell? ⟨w.heap.size + 1, 2, none⟩ = some (.string ⟨#[]⟩) := by rw [b4.cell (p := ⟨w.heap.size + 1, 2, none⟩) lt1]; exact y3
  have B4 : Below w.heap.size w w4 := b3.trans (b4.mono (by omega))
  have fin : Hid (∀ u0 u1 u2 u3, TgIn ((((w4.setCell ⟨w.heap.size + 1 + 1, 1, none⟩ u0).setCell ⟨w.heap.size + 1, 0, none⟩ u1).setCell ⟨w.heap.size + 1, 1, none⟩ u2).setCell ⟨w.heap.size + 1, 2, none⟩ u3) a1 st ∧ (∀ ad, a1 = some ad → w.heap.size ≤ ad.block) ∧ Below w.heap.size w ((((w4.setCell ⟨w.heap.size + 1 + 1, 1, none⟩ u0).setCell ⟨w.heap.size + 1, 0, none⟩ u1).setCell ⟨w.heap.size + 1, 1, none⟩ u2).setCell ⟨w.heap.size + 1, 2, none⟩ u3)) := fun u0 u1 u2 u3 => by
    refine ⟨?_, fun ad e => by have := fr ad e; omega, (((B4.setCell (p := ⟨w.heap.size + 1 + 1, 1, none⟩) (by show w.heap.size ≤ w.heap.size + 1 + 1; omega) _).setCell (p := ⟨w.heap.size + 1, 0, none⟩) (by simp) _).setCell (p := ⟨w.heap.size + 1, 1, none⟩) (by simp) _).setCell (p := ⟨w.heap.size + 1, 2, none⟩) (by simp) _⟩
    rcases ht with h | ⟨b, off, e, hb, hc⟩
    · exact Or.inl h
    · have hb3 := fr _ e
      simp only at hb3
      refine Or.inr ⟨b, off, e, by simpa using hb, fun i t ht => ?_⟩
      obtain ⟨k1, k2⟩ := hc i t ht
      refine ⟨?_, ?_⟩
      · rw [World.cell?_setCell_other _ _ _ _ (by intro q; injection q; omega), World.cell?_setCell_other _ _ _ _ (by intro q; injection q; omega), World.cell?_setCell_other _ _ _ _ (by intro q; injection q; omega), World.cell?_setCell_other _ _ _ _ (by intro q; injection q; omega)]; exact k1
      · rw [World.cell?_setCell_other _ _ _ _ (by intro q; injection q; omega), World.cell?_setCell_other _ _ _ _ (by intro q; injection q; omega), World.cell?_setCell_other _ _ _ _ (by intro q; injection q; omega), World.cell?_setCell_other _ _ _ _ (by intro q; injection q; omega)]; exact k2
  have rH : Hid (∀ W, W = w3 → (Builtin.append_ #[38, 38] 38 #[.slice none 0 0, .slice a st.length c]).run Tryz.prog W = .ok (.slice a1 st.length c1) w4) := fun W e => by subst e; exact hr
  subst hw3
  have ga := g2 0
  have gb := g2 1
  have gc := g2 2
  have gd := g1 0
  have ge := g1 1
  have gf := g1 2
  clear hs hr ho hg hv b4 ht b3 s3 f3 x1 x2 x3 y1 y2 y3 lt1 lt2 B4 fr g1 g2
  generalize st.length = n at *
  go_enter Tryz.func14, Tryz.ntmps14
  go_wp2_with (at_builtin; refine wpList_append_runB (by rfl) _ _ _ (by rfl) _ _ _ _ (by rfl) (by rfl) (rH.out _ (by first | rfl | simp)) ?_)
  simp [bodyPost, results, Tryz.results14, go_sem, p0, p1, p2, q0, q1, q2]
  exact fin.out _ _ _ _
end Go.Proofs.YtepakgfdakeibaaGreatDoor

namespace Go.Proofs.YtepakgfdakeibaaGreatDoor
open Go.RowKit _root_.Go.Proofs.YtepakgfdakeibaaGreatDoor.So
set_option linter.unusedVariables false
set_option linter.unusedSimpArgs false
theorem OW2.mono {w : World} {B B' : Nat} {v : Value} {L : List WrA} (h : OW2 w B v L) (hB : B' ≤ B) : OW2 w B' v L := by
  refine ⟨⟨⟨h.1.1.1, ?_⟩, h.1.2⟩, h.2⟩
  rcases h.1.1.2 with e | ⟨g, cap, cur, e, hb, r⟩
  · exact Or.inl e
  · exact Or.inr ⟨g, cap, cur, e, Nat.le_trans hB hb, r⟩
theorem OW2.one (w : World) (B : Nat) (hB : B ≤ w.heap.size) (x : WrP) (a : Option Addr) (c : Nat) (hs : SerIn w a x.s) : OW2 (w.alloc (.cells #[.string x.s.m, .slice a x.s.t.length c, .string x.s.f, .int .i64 x.tm, .int .u8 (x.kd : Int), .int .i64 x.n] 52)) B (.slice (some ⟨w.heap.size, 0, none⟩) 1 1) [(x, a, c)] := by
  refine ⟨⟨?_, fun t ht => ?_⟩, fun t ht hne ad had => ?_⟩
  · have := World.ownsRow_lit (base := B) (e := 52) (size := 6) w #[.string x.s.m, .slice a x.s.t.length c, .string x.s.f, .int .i64 x.tm, .int .u8 (x.kd : Int), .int .i64 x.n] 1 hB (by decide) rfl
    simpa [encW] using this
  · rw [List.mem_singleton.1 ht]
    exact hs.belowW ((Below.refl _ w).alloc (Nat.le_refl _) _)
  · rw [List.mem_singleton.1 ht] at hne had
    rcases hs.1 with h | ⟨b, off, e, hb, _⟩
    · exact absurd h hne
    · rw [show a = some ad from had] at e
      injection e with e
      subst e
      intro q
      have q1 : w.heap.size = b := by simpa [Value.ownBlock] using q
      omega
theorem OW2.slice {w : World} {B : Nat} {v : Value} {L : List WrA} (h : OW2 w B v L) : ∃ a cap, v = .slice a L.length cap ∧ L.length ≤ cap ∧ WIn w a (L.map (·.1)) := by
  obtain ⟨a, cap, e, hw⟩ := h.1.win
  refine ⟨a, cap, e, ?_, hw⟩
  rcases h.1.1.2 with ⟨e1, e2⟩ | ⟨g, cap', cur, e1, _, _, hc, _⟩
  · rw [e2]; exact Nat.zero_le _
  · rw [e] at e1
    injection e1 with _ _ e3
    omega
theorem WIn.cut {w : World} {b off n : Nat} {l : List WrP} (h : WIn w (some ⟨b, off, none⟩) l) (k : Nat) : WIn w (some ⟨b, off, none⟩) (l.take k) ∧ WIn w (some ⟨b, off + k * 6, none⟩) (l.drop k) := by
  rcases h with h | ⟨b', off', e, hb, hc⟩
  · subst h; exact ⟨Or.inl (by simp), Or.inl (by simp)⟩
  · injection e with e
    injection e with e1 e2
    subst e1 e2
    refine ⟨Or.inr ⟨b, off, rfl, hb, fun i x hx => hc i x ?_⟩, Or.inr ⟨b, off + k * 6, rfl, hb, fun i x hx => ?_⟩⟩
    · rw [List.getElem?_take] at hx
      split at hx
      · exact hx
      · cases hx
    · rw [List.getElem?_drop] at hx
      obtain ⟨ta, tc, h1, h2⟩ := hc (k + i) x hx
      rw [show off + (k + i) * 6 = off + k * 6 + i * 6 by omega] at h1
      exact ⟨ta, tc, h1, h2⟩
theorem odD_two (l : List WrP) (n h : Nat) (hn : n = l.length) (hh : h = n / 2) (h2 : 2 ≤ n) : odD l = mgD (odD (l.take h)) (odD (l.drop h)) := by
  subst hn hh
  rw [odD.eq_1 l, dif_neg (by omega)]
/-- what the document's Order tells. -/
def OdR (w w' : World) (l : List WrP) (e : Ending) : Prop := ∃ (a : Option Addr) (z c : Nat) (L : List WrA), e = .returned (.slice a z c) ∧ OW2 w' w.heap.size (.slice a z c) L ∧ L.map (·.1) = odD l ∧ Below w.heap.size w w'
set_option maxRecDepth 100000 in
set_option maxHeartbeats 8000000 in
theorem rorder_two (b off c : Nat) (l : List WrP) (w : World) (hl : WIn w (some ⟨b, off, none⟩) l) (hn : 2 ≤ l.length) (hm : l.length ≤ 549755813888) (hc : l.length ≤ c)
    (c1 : ∀ (W : World), Below w.heap.size w W → Calls Tryz.prog 24 #[.slice (some ⟨b, off, none⟩) (l.length / 2) c] W fun e w' => OdR W w' (l.take (l.length / 2)) e)
    (c2 : ∀ (W : World), Below w.heap.size w W → Calls Tryz.prog 24 #[.slice (some ⟨b, off + l.length / 2 * 6, none⟩) (l.length - l.length / 2) (c - l.length / 2)] W fun e w' => OdR W w' (l.drop (l.length / 2)) e) :
    Calls Tryz.prog 24 #[.slice (some ⟨b, off, none⟩) l.length c] w fun e w' => OdR w w' l e := by
  obtain ⟨n, hn0⟩ : ∃ n, n = l.length := ⟨_, rfl⟩
  obtain ⟨h, hh0⟩ : ∃ h, h = n / 2 := ⟨_, rfl⟩
  have C1 : Hid _ := c1
  have C2 : Hid _ := c2
  rw [← hn0, ← hh0] at C1 C2
  rw [← hn0] at hn hm hc ⊢
  have nH : Hid (n = l.length) := hn0
  have hH : Hid (h = n / 2) := hh0
  have hw : IntKind.i64.wrap ((n : Int) / 2) = (h : Int) := by rw [hh0]; exact IntWalk.i64_in _ (by omega)
  have h0 : (0 : Int) ≤ (h : Int) := by omega
  have h1 : (h : Int) ≤ (c : Int) := by omega
  have h2 : (h : Int) ≤ (n : Int) := by omega
  have h3 : ¬ c = h := by omega
  have h4 : (n : Int) ≤ (c : Int) := by omega
  have h5 : (0 : Int) ≤ (n : Int) := by omega
  have z0 : ¬ (n : Int) = 0 := by omega
  have z1 : ¬ (n : Int) = 1 := by omega
  have z0b : ((n : Int) == 0) = false := by simp; omega
  have z1b : ((n : Int) == 1) = false := by simp; omega
  have few : Hid (l.length ≤ 549755813888) := by rw [← nH.out]; exact hm
  have oE : Hid (odD l = mgD (odD (l.take h)) (odD (l.drop h))) := odD_two l n h hn0 hh0 hn
  clear c1 c2 hn0 hh0 hl hn hm hc
  go_enter Tryz.func24, Tryz.ntmps24
  go_wp2_with fail
  refine wp_region_noPanic ?_
  refine wp_region_held_drew (S := fun _ => True) (by kernel_rfl) trivial (fun hHeld => ?_)
  refine zT 0 (v := ?_) rfl ?_ ?_
  rotate_left 1
  · (intro w0 hSw; (try dsimp only at hSw); go_simp; try with_reducible rfl)
  (try simp only [Act.put, List.setIfInBounds_toArray, List.set_cons_zero, List.set_cons_succ])
  refine zT 1 (v := ?_) rfl ?_ ?_
  rotate_left 1
  · (intro w0 hSw; (try dsimp only at hSw); go_simp; try with_reducible rfl)
  (try simp only [Act.put, List.setIfInBounds_toArray, List.set_cons_zero, List.set_cons_succ])
  refine zT 2 (v := ?_) rfl ?_ ?_
  rotate_left 1
  · (intro w0 hSw; (try dsimp only at hSw); go_simp; try with_reducible rfl)
  (try simp only [Act.put, List.setIfInBounds_toArray, List.set_cons_zero, List.set_cons_succ])
  refine zT 3 (v := ?_) rfl ?_ ?_
  rotate_left 1
  · (intro w0 hSw; (try dsimp only at hSw); go_simp; try with_reducible rfl)
  (try simp only [Act.put, List.setIfInBounds_toArray, List.set_cons_zero, List.set_cons_succ])
  refine zT 4 (v := ?_) rfl ?_ ?_
  rotate_left 1
  · (intro w0 hSw; (try dsimp only at hSw); go_simp; try with_reducible rfl)
  (try simp only [Act.put, List.setIfInBounds_toArray, List.set_cons_zero, List.set_cons_succ])
  refine zT 6 (v := ?_) rfl ?_ ?_
  rotate_left 1
  · (intro w0 hSw; (try dsimp only at hSw); go_simp; try with_reducible rfl)
  (try simp only [Act.put, List.setIfInBounds_toArray, List.set_cons_zero, List.set_cons_succ])
  refine zT 7 (v := ?_) rfl ?_ ?_
  rotate_left 1
  · (intro w0 hSw; (try dsimp only at hSw); go_simp; try with_reducible rfl)
  (try simp only [Act.put, List.setIfInBounds_toArray, List.set_cons_zero, List.set_cons_succ])
  refine zT 8 (v := ?_) rfl ?_ ?_
  rotate_left 1
  · (intro w0 hSw; (try dsimp only at hSw); go_simp; try with_reducible rfl)
  (try simp only [Act.put, List.setIfInBounds_toArray, List.set_cons_zero, List.set_cons_succ])
  refine zT 9 (v := ?_) rfl ?_ ?_
  rotate_left 1
  · (intro w0 hSw; (try dsimp only at hSw); go_simp; try with_reducible rfl)
  (try simp only [Act.put, List.setIfInBounds_toArray, List.set_cons_zero, List.set_cons_succ])
  refine zT 10 (v := ?_) rfl ?_ ?_
  rotate_left 1
  · (intro w0 hSw; (try dsimp only at hSw); go_simp; try with_reducible rfl)
  (try simp only [Act.put, List.setIfInBounds_toArray, List.set_cons_zero, List.set_cons_succ])
  refine wpAnyH_ready (rs := [5]) (by kernel_rfl) (by simp) ?_
  refine AllReadyH.cons (o := _) rfl (fun K hK => ?_) AllReadyH.nil
  go_simp
  refine Calls.mono (C1.out _ (show Below w.heap.size w w.drew from (Below.refl _ w).drew)) ?_
  rintro e w1 ⟨a1, n1, d1, L1, rfl, o1, i1, b1⟩
  have B1 : Hid (Below w.heap.size w w1) := (show Below w.heap.size w w.drew from (Below.refl _ w).drew).trans b1
  try dsimp only
  refine hK _ _ trivial (fun hHeld => ?_)
  clear hK K
  (try simp only [Act.put, List.setIfInBounds_toArray, List.set_cons_zero, List.set_cons_succ])
  refine wpAnyH_ready (rs := [11]) (by kernel_rfl) (by simp) ?_
  refine AllReadyH.cons (o := _) rfl (fun K hK => ?_) AllReadyH.nil
  go_simp
  refine Calls.mono (C2.out _ B1.out) ?_
  rintro e w2 ⟨a2, n2, d2, L2, rfl, o2, i2, b2⟩
  have B2 : Hid (Below w.heap.size w w2) := B1.out.trans (b2.mono B1.out.size)
  obtain ⟨q1, e1, r1, s1, t1⟩ := (o1.below b2).slice
  obtain ⟨q2, e2, r2, s2, t2⟩ := o2.slice
  injection r1 with r3 r4 r5
  injection r2 with r6 r7 r8
  subst r3 r5 r6 r8
  have l1 : n1 = (L1.map (·.1)).length := by rw [List.length_map]; exact r4
  have l2 : n2 = (L2.map (·.1)).length := by rw [List.length_map]; exact r7
  have k1 : (L1.map (·.1)).length ≤ h := by rw [i1]; refine Nat.le_trans (odD_len _) ?_; rw [List.length_take]; exact Nat.min_le_left _ _
  have k2 : (L2.map (·.1)).length ≤ l.length := by rw [i2]; refine Nat.le_trans (odD_len _) ?_; rw [List.length_drop]; exact Nat.sub_le _ _
  have CM : Hid (Calls Tryz.prog 46 #[.slice a1 n1 d1, .slice a2 n2 d2] w2 fun e w' => MgR w2 w' (L1.map (·.1)) (L2.map (·.1)) e) := by rw [l1, l2]; exact merged_any a1 a2 d1 d2 _ _ w2 t1 t2 (by have := few.out; have := hH.out; have := nH.out; omega)
  have oM : Hid (mgD (L1.map (·.1)) (L2.map (·.1)) = odD l) := by rw [i1, i2]; exact oE.out.symm
  clear l1 l2 r4 r7 k1 k2 t1 t2 s1 s2 o1 o2 i1 i2 b1 b2
  try dsimp only
  refine hK _ _ trivial (fun hHeld => ?_)
  clear hK K
  (try simp only [Act.put, List.setIfInBounds_toArray, List.set_cons_zero, List.set_cons_succ])
  refine wpAnyH_ready (rs := [12]) (by kernel_rfl) (by simp) ?_
  refine AllReadyH.cons (o := _) rfl (fun K hK => ?_) AllReadyH.nil
  go_simp
  refine Calls.mono CM.out ?_
  rintro e w3 ⟨a3, n3, d3, L3, rfl, o3, i3, b3⟩
  have fin : Hid (OdR w w3 l (.returned (.slice a3 n3 d3))) := ⟨a3, n3, d3, L3, rfl, o3.mono B2.out.size, by rw [i3]; exact oM.out, B2.out.trans (b3.mono B2.out.size)⟩
  try dsimp only
  refine hK _ _ trivial (fun hHeld => ?_)
  clear hK K
  (try simp only [Act.put, List.setIfInBounds_toArray, List.set_cons_zero, List.set_cons_succ])
  refine zT 13 (v := ?_) rfl ?_ ?_
  rotate_left 1
  · (intro w0 hSw; (try dsimp only at hSw); go_simp; try with_reducible rfl)
  (try simp only [Act.put, List.setIfInBounds_toArray, List.set_cons_zero, List.set_cons_succ])
  refine wpAnyH_done (by kernel_rfl) ?_ _
  refine NoPanic.normal ?_
  clear C1 C2 CM
  go_wp2_with fail
  go_ret
  exact fin.out
end Go.Proofs.YtepakgfdakeibaaGreatDoor

namespace Go.Proofs.YtepakgfdakeibaaGreatDoor
open Go.RowKit _root_.Go.Proofs.YtepakgfdakeibaaGreatDoor.So
set_option linter.unusedVariables false
set_option linter.unusedSimpArgs false
set_option maxRecDepth 100000 in
set_option maxHeartbeats 8000000 in
theorem rorder_one (b off c : Nat) (x : WrP) (tx : Option Addr) (cx : Nat) (w : World) (hx : WAt w b off x tx cx) (hs : SerIn w tx x.s) (hb : b < w.heap.size) (hc : 1 ≤ c) (hn : x.s.t.length ≤ 4398046511104) :
    Calls Tryz.prog 24 #[.slice (some ⟨b, off, none⟩) 1 c] w fun e w' => OdR w w' [x] e := by
  have CH : Hid (Calls Tryz.prog 14 #[.agg #[.string x.s.m, .slice tx x.s.t.length cx, .string x.s.f]] w.drew fun e w' => ∃ a' c', e = .returned (.agg #[.string x.s.m, .slice a' x.s.t.length c', .string x.s.f]) ∧ TgIn w' a' x.s.t ∧ (∀ ad, a' = some ad → w.drew.heap.size ≤ ad.block) ∧ Below w.drew.heap.size w.drew w') := copySeries_any tx cx x.s w.drew (hs.belowW (Below.refl _ w).drew) hn
  have FN : Hid (∀ (W : World) (a' : Option Addr) (c' : Nat), Below w.heap.size w W → TgIn W a' x.s.t → OW2 (W.alloc (.cells #[.string x.s.m, .slice a' x.s.t.length c', .string x.s.f, .int .i64 x.tm, .int .u8 (x.kd : Int), .int .i64 x.n] 52)) w.heap.size (.slice (some ⟨W.heap.size, 0, none⟩) 1 1) [(x, a', c')]) := fun W a' c' hB ht => OW2.one W _ hB.size x a' c' ⟨ht, hs.2⟩
  have o1 : Hid (odD [x] = [x]) := by show odD [x] = [x]; rw [odD.eq_1, dif_pos (by simp)]
  unfold WAt at hx
  have nH : Hid (x.s.t.length = x.s.t.length) := rfl
  generalize x.s.t.length = nx at hx CH FN
  obtain ⟨x1, x2, x3, x4, x5, x6⟩ := hx
  clear hs hn nH
  go_enter Tryz.func24, Tryz.ntmps24
  go_wp2_with fail
  refine wp_region_noPanic ?_
  refine wp_region_held_drew (S := fun W => W.cell? ⟨b, off, none⟩ = some (.string x.s.m) ∧ W.cell? ⟨b, off + 1, none⟩ = some (.slice tx nx cx) ∧ W.cell? ⟨b, off + 2, none⟩ = some (.string x.s.f) ∧ W.cell? ⟨b, off + 3, none⟩ = some (.int .i64 x.tm) ∧ W.cell? ⟨b, off + 4, none⟩ = some (.int .u8 (x.kd : Int)) ∧ W.cell? ⟨b, off + 5, none⟩ = some (.int .i64 x.n)) (by kernel_rfl) ⟨x1, x2, x3, x4, x5, x6⟩ (fun hHeld => ?_)
  refine zT 0 (v := ?_) rfl ?_ ?_
  rotate_left 1
  · (intro w0 hSw; (try dsimp only at hSw); obtain ⟨s1, s2, s3, s4, s5, s6⟩ := hSw; go_simp; try with_reducible rfl)
  (try simp only [z1, z2, z3]); (try simp only [Act.put, z4, z5, z6])
  refine zT 1 (v := ?_) rfl ?_ ?_
  rotate_left 1
  · (intro w0 hSw; (try dsimp only at hSw); obtain ⟨s1, s2, s3, s4, s5, s6⟩ := hSw; go_simp; try with_reducible rfl)
  (try simp only [z1, z2, z3]); (try simp only [Act.put, z4, z5, z6])
  refine zT 2 (v := ?_) rfl ?_ ?_
  rotate_left 1
  · (intro w0 hSw; (try dsimp only at hSw); obtain ⟨s1, s2, s3, s4, s5, s6⟩ := hSw; go_simp; try with_reducible rfl)
  (try simp only [z1, z2, z3]); (try simp only [Act.put, z4, z5, z6])
  refine zT 3 (v := ?_) rfl ?_ ?_
  rotate_left 1
  · (intro w0 hSw; (try dsimp only at hSw); obtain ⟨s1, s2, s3, s4, s5, s6⟩ := hSw; go_simp; try with_reducible rfl)
  (try simp only [z1, z2, z3]); (try simp only [Act.put, z4, z5, z6])
  refine zT 5 (v := ?_) rfl ?_ ?_
  rotate_left 1
  · (intro w0 hSw; (try dsimp only at hSw); obtain ⟨s1, s2, s3, s4, s5, s6⟩ := hSw; go_simp; try with_reducible rfl)
  (try simp only [z1, z2, z3]); (try simp only [Act.put, z4, z5, z6])
  refine zT 6 (v := ?_) rfl ?_ ?_
  rotate_left 1
  · (intro w0 hSw; (try dsimp only at hSw); obtain ⟨s1, s2, s3, s4, s5, s6⟩ := hSw; go_simp; try with_reducible rfl)
  (try simp only [z1, z2, z3]); (try simp only [Act.put, z4, z5, z6])
  refine zT 7 (v := ?_) rfl ?_ ?_
  rotate_left 1
  · (intro w0 hSw; (try dsimp only at hSw); obtain ⟨s1, s2, s3, s4, s5, s6⟩ := hSw; go_simp; try with_reducible rfl)
  (try simp only [z1, z2, z3]); (try simp only [Act.put, z4, z5, z6])
  refine zT 8 (v := ?_) rfl ?_ ?_
  rotate_left 1
  · (intro w0 hSw; (try dsimp only at hSw); obtain ⟨s1, s2, s3, s4, s5, s6⟩ := hSw; go_simp; try with_reducible rfl)
  (try simp only [z1, z2, z3]); (try simp only [Act.put, z4, z5, z6])
  refine wpAnyH_ready (rs := [4]) (by kernel_rfl) (by simp) ?_
  refine AllReadyH.cons (o := _) rfl (fun K hK => ?_) AllReadyH.nil
  go_simp
  refine Calls.mono CH.out ?_
  rintro e w' ⟨a', c', rfl, ht, hf, BB⟩
  try dsimp only
  have s6 : w'.cell? ⟨b, off, none⟩ = some (.string x.s.m) ∧ w'.cell? ⟨b, off + 1, none⟩ = some (.slice tx nx cx) ∧ w'.cell? ⟨b, off + 2, none⟩ = some (.string x.s.f) ∧ w'.cell? ⟨b, off + 3, none⟩ = some (.int .i64 x.tm) ∧ w'.cell? ⟨b, off + 4, none⟩ = some (.int .u8 (x.kd : Int)) ∧ w'.cell? ⟨b, off + 5, none⟩ = some (.int .i64 x.n) := ⟨by rw [BB.cell (p := ⟨b, off, none⟩) hb]; exact x1, by rw [BB.cell (p := ⟨b, off + 1, none⟩) hb]; exact x2, by rw [BB.cell (p := ⟨b, off + 2, none⟩) hb]; exact x3, by rw [BB.cell (p := ⟨b, off + 3, none⟩) hb]; exact x4, by rw [BB.cell (p := ⟨b, off + 4, none⟩) hb]; exact x5, by rw [BB.cell (p := ⟨b, off + 5, none⟩) hb]; exact x6⟩
  have B1 : Hid (Below w.heap.size w w') := (show Below w.heap.size w w.drew from (Below.refl _ w).drew).trans BB
  have fin : Hid (OdR w (w'.alloc (.cells #[.string x.s.m, .slice a' nx c', .string x.s.f, .int .i64 x.tm, .int .u8 (x.kd : Int), .int .i64 x.n] 52)) [x] (.returned (.slice (some ⟨w'.heap.size, 0, none⟩) 1 1))) := ⟨_, 1, 1, [(x, a', c')], rfl, FN.out w' a' c' B1.out ht, by rw [o1.out]; rfl, B1.out.alloc B1.out.size _⟩
  have hb' : b < w'.heap.size := Nat.lt_of_lt_of_le hb BB.size
  refine hK _ _ s6 (fun hHeld => ?_)
  clear hK K CH FN ht hf BB
  (try simp only [z1, z2, z3]); (try simp only [Act.put, z4, z5, z6])
  refine zT 9 (v := ?_) rfl ?_ ?_
  rotate_left 1
  · (intro w0 hSw; (try dsimp only at hSw); obtain ⟨s1, s2, s3, s4, s5, s6⟩ := hSw; go_simp; try with_reducible rfl)
  (try simp only [z1, z2, z3]); (try simp only [Act.put, z4, z5, z6])
  refine wpAnyH_ready (rs := [10]) (by kernel_rfl) (by simp) ?_
  refine AllReadyH.cons (o := _) rfl (fun K hK => ?_) AllReadyH.nil
  go_simp
  try dsimp only
  refine hK _ _ ?_ (fun hHeld => ?_)
  · obtain ⟨s1, s2, s3, s4, s5, s6⟩ := s6
    have bA : Below w'.heap.size w' (w'.alloc (.cells #[.string x.s.m, .slice a' nx c', .string x.s.f, .int .i64 x.tm, .int .u8 (x.kd : Int), .int .i64 x.n] 52)) := (Below.refl _ w').alloc (Nat.le_refl _) _
    exact ⟨by rw [bA.cell (p := ⟨b, off, none⟩) hb']; exact s1, by rw [bA.cell (p := ⟨b, off + 1, none⟩) hb']; exact s2, by rw [bA.cell (p := ⟨b, off + 2, none⟩) hb']; exact s3, by rw [bA.cell (p := ⟨b, off + 3, none⟩) hb']; exact s4, by rw [bA.cell (p := ⟨b, off + 4, none⟩) hb']; exact s5, by rw [bA.cell (p := ⟨b, off + 5, none⟩) hb']; exact s6⟩
  clear hK K
  (try simp only [z1, z2, z3]); (try simp only [Act.put, z4, z5, z6])
  refine zT 11 (v := ?_) rfl ?_ ?_
  rotate_left 1
  · (intro w0 hSw; (try dsimp only at hSw); obtain ⟨s1, s2, s3, s4, s5, s6⟩ := hSw; go_simp; try with_reducible rfl)
  (try simp only [z1, z2, z3]); (try simp only [Act.put, z4, z5, z6])
  refine wpAnyH_done (by kernel_rfl) ?_ _
  refine NoPanic.normal ?_
  go_wp2_with fail
  go_ret
  exact fin.out
end Go.Proofs.YtepakgfdakeibaaGreatDoor

namespace Go.Proofs.YtepakgfdakeibaaGreatDoor
open Go.RowKit _root_.Go.Proofs.YtepakgfdakeibaaGreatDoor.So
set_option linter.unusedVariables false
set_option linter.unusedSimpArgs false
set_option maxRecDepth 100000 in
theorem rorder_none (a : Option Addr) (c : Nat) (w : World) : Calls Tryz.prog 24 #[.slice a 0 c] w fun e w' => OdR w w' [] e := by
  have fin : Hid (OdR w w [] (.returned (.slice none 0 0))) := ⟨none, 0, 0, [], rfl, OW2.nil _ _, by rw [odD.eq_1, dif_pos (by simp)]; rfl, Below.refl _ _⟩
  go_enter Tryz.func24, Tryz.ntmps24
  go_wp2_with fail
  go_ret
  exact fin.out
/-- the document's Order, whole. -/
theorem rorder_any : ∀ (n : Nat) (l : List WrP), l.length ≤ n → ∀ (a : Option Addr) (c : Nat) (w : World), WIn w a l → l.length ≤ c → l.length ≤ 549755813888 → (∀ x ∈ l, x.s.t.length ≤ 4398046511104) → Calls Tryz.prog 24 #[.slice a l.length c] w fun e w' => OdR w w' l e := by
  intro n
  induction n with
  | zero =>
    intro l hl a c w ha hc hm ht
    have : l = [] := List.length_eq_zero_iff.1 (by omega)
    subst this
    exact rorder_none a c w
  | succ n ih =>
    intro l hl a c w ha hc hm ht
    rcases ha with h | ⟨b, off, e, hb, hcell⟩
    · subst h; exact rorder_none a c w
    · subst e
      have ha : WIn w (some ⟨b, off, none⟩) l := Or.inr ⟨b, off, rfl, hb, hcell⟩
      by_cases h2 : 2 ≤ l.length
      · have t1 : (l.take (l.length / 2)).length = l.length / 2 := by rw [List.length_take]; omega
        have t2 : (l.drop (l.length / 2)).length = l.length - l.length / 2 := by rw [List.length_drop]
        obtain ⟨k1, k2⟩ := ha.cut (n := 0) (l.length / 2)
        refine rorder_two b off c l w ha h2 hm hc (fun W hW => ?_) (fun W hW => ?_)
        · have := ih (l.take (l.length / 2)) (by omega) (some ⟨b, off, none⟩) c W (k1.below hW) (by omega) (by omega) (fun x hx => ht x (List.mem_of_mem_take hx))
          rw [t1] at this
          exact this
        · have := ih (l.drop (l.length / 2)) (by omega) (some ⟨b, off + l.length / 2 * 6, none⟩) (c - l.length / 2) W (k2.below hW) (by omega) (by omega) (fun x hx => ht x (List.mem_of_mem_drop hx))
          rw [t2] at this
          exact this
      · rcases l with _ | ⟨x, _ | ⟨y, r⟩⟩
        · exact rorder_none _ c w
        · obtain ⟨ta, tc, h1, h3⟩ := hcell 0 x rfl
          simp only [Nat.zero_mul, Nat.add_zero] at h1
          exact rorder_one b off c x ta tc w h1 h3 hb (by simpa using hc) (ht x (by simp))
        · simp at h2
end Go.Proofs.YtepakgfdakeibaaGreatDoor

namespace Go.Proofs.YtepakgfdakeibaaGreatDoor
open Go.RowKit _root_.Go.Proofs.YtepakgfdakeibaaGreatDoor.So
set_option linter.unusedVariables false
set_option linter.unusedSimpArgs false
/-- of two rows, one behind the other. -/
theorem odD_app (l m : List WrP) : odD (l ++ m) = mgD (odD l) (odD m) := by
  obtain ⟨a1, a2⟩ := odD_ok _ l (Nat.le_refl _)
  obtain ⟨b1, b2⟩ := odD_ok _ m (Nat.le_refl _)
  obtain ⟨c1, c2⟩ := odD_ok _ (l ++ m) (Nat.le_refl _)
  obtain ⟨m1, m2⟩ := mgD_ok _ _ _ (Nat.le_refl _) a1 b1
  refine sw_uniq _ _ c1 m1 fun e => ?_
  rw [c2 e, LW.app, m2 e, a2 e, b2 e]
  constructor
  · rintro (h | ⟨h, h2⟩)
    · exact Or.inl h
    · exact Or.inr ⟨h, fun y hy => h2 y ((b2 y).1 hy).mem⟩
  · rintro (h | ⟨h, h2⟩)
    · exact Or.inl h
    · exact Or.inr ⟨h, fun y hy h0 => by
        obtain ⟨z, hz, e2⟩ := LW.ex hy
        exact h2 z ((b2 z).2 hz) (by rw [wC_left z h0]; exact e2)⟩
end Go.Proofs.YtepakgfdakeibaaGreatDoor

namespace Go.Proofs.YtepakgfdakeibaaGreatDoor
open Go.RowKit _root_.Go.Proofs.YtepakgfdakeibaaGreatDoor.So
set_option linter.unusedVariables false
set_option linter.unusedSimpArgs false
theorem LW_sw : ∀ {l : List WrP}, SW l → ∀ e, LW l e ↔ e ∈ l
  | [], _, e => by simp [LW]
  | x :: l, h, e => by
    obtain ⟨h1, h2⟩ := List.pairwise_cons.1 h
    rw [LW.cons, LW_sw h2 e, List.mem_cons]
    constructor
    · rintro (⟨rfl, _⟩ | h3)
      · exact Or.inl rfl
      · exact Or.inr h3
    · rintro (rfl | h3)
      · exact Or.inl ⟨rfl, fun y hy h0 => by have := h1 y hy; omega⟩
      · exact Or.inr h3
theorem odD_sw (l : List WrP) : SW (odD l) := (odD_ok _ l (Nat.le_refl _)).1
theorem odD_idem (l : List WrP) : odD (odD l) = odD l := by
  obtain ⟨c1, c2⟩ := odD_ok _ (odD l) (Nat.le_refl _)
  exact sw_uniq _ _ c1 (odD_sw l) fun e => by rw [c2 e, LW_sw (odD_sw l)]
theorem odD_two_is (l m : List WrP) : odD (odD l ++ odD m) = odD (l ++ m) := by rw [odD_app, odD_app, odD_idem, odD_idem]
theorem odD_nil (l : List WrP) : 0 < (odD l).length ↔ 0 < l.length := by
  constructor
  · intro h; have := odD_len l; omega
  · intro h
    rcases l with _ | ⟨x, l⟩
    · simp at h
    · obtain ⟨z, hz, _⟩ := LW.ex (l := x :: l) (y := x) (by simp)
      have := (odD_ok _ (x :: l) (Nat.le_refl _)).2 z
      exact List.length_pos_of_mem (this.2 hz)
theorem odD_tags (l : List WrP) (h : ∀ x ∈ l, x.s.t.length ≤ 4398046511104) : ∀ x ∈ odD l, x.s.t.length ≤ 4398046511104 := fun x hx => h x (((odD_ok _ l (Nat.le_refl _)).2 x).1 hx).mem
theorem wC_m1 {x y : WrP} (h : wC x y < 0) : wC x y = -1 ∧ wC y x = 1 := by
  have h1 : wC x y = -1 ∨ wC x y = 0 ∨ wC x y = 1 := kC_is.range _ _
  have := wC_flip x y
  omega
end Go.Proofs.YtepakgfdakeibaaGreatDoor
