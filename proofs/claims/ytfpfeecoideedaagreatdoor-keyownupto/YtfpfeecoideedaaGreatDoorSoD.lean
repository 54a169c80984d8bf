
import Derived.Test.YtfpfeecoideedaaGreatDoorSoC
namespace Go.Proofs.YtfpfeecoideedaaGreatDoor.So
set_option linter.unusedVariables false
set_option linter.unusedSectionVars false
variable {K V : Type} [DecidableEq K] {kl : K → K → Bool}
/-- an order of keys. -/
structure KO (kl : K → K → Bool) : Prop where
  irr : ∀ a, kl a a = false
  tr : ∀ a b c, kl a b = true → kl b c = true → kl a c = true
  tot : ∀ a b, kl a b = true ∨ a = b ∨ kl b a = true
/-! ### the document's Sort -/
def insD (kl : K → K → Bool) (t : K × V) : List (K × V) → List (K × V)
  | [] => [t]
  | x :: r => if kl x.1 t.1 = true then x :: insD kl t r else if x.1 = t.1 then (x.1, t.2) :: r else t :: x :: r
def srtD (kl : K → K → Bool) (l : List (K × V)) : List (K × V) := l.foldl (fun s t => insD kl t s) []
theorem srtD_more (l : List (K × V)) (t : K × V) : srtD kl (l ++ [t]) = insD kl t (srtD kl l) := by simp [srtD]
/-- rising. -/
abbrev SK (kl : K → K → Bool) (l : List (K × V)) : Prop := l.Pairwise fun x y => kl x.1 y.1 = true
theorem insD_mem (o : KO kl) (t : K × V) : ∀ s : List (K × V), SK kl s → ∀ e, e ∈ insD kl t s ↔ e = t ∨ (e ∈ s ∧ e.1 ≠ t.1)
  | [], _, e => by simp [insD]
  | x :: r, h, e => by
    obtain ⟨hx, hr⟩ := List.pairwise_cons.1 h
    unfold insD
    split
    · rename_i c
      have ne : x.1 ≠ t.1 := fun h => by rw [h, o.irr] at c; cases c
      rw [List.mem_cons, insD_mem o t r hr e, List.mem_cons]
      constructor
      · rintro (rfl | h | ⟨h, h'⟩)
        · exact Or.inr ⟨Or.inl rfl, ne⟩
        · exact Or.inl h
        · exact Or.inr ⟨Or.inr h, h'⟩
      · rintro (h | ⟨h | h, h'⟩)
        · exact Or.inr (Or.inl h)
        · exact Or.inl h
        · exact Or.inr (Or.inr ⟨h, h'⟩)
    · rename_i c
      split
      · rename_i d
        have et : (x.1, t.2) = t := by rw [d]
        have nr : ∀ y ∈ r, y.1 ≠ t.1 := fun y hy h => by have := hx y hy; rw [h, d, o.irr] at this; cases this
        rw [et, List.mem_cons, List.mem_cons]
        constructor
        · rintro (h | h)
          · exact Or.inl h
          · exact Or.inr ⟨Or.inr h, nr e h⟩
        · rintro (h | ⟨h | h, h'⟩)
          · exact Or.inl h
          · exact absurd (by rw [h]; exact d) h'
          · exact Or.inr h
      · rename_i d
        have k1 : kl t.1 x.1 = true := by
          rcases o.tot t.1 x.1 with h | h | h
          · exact h
          · exact absurd h.symm d
          · exact absurd h c
        have nr : ∀ y ∈ x :: r, y.1 ≠ t.1 := fun y hy hh => by
          rcases List.mem_cons.1 hy with e | hy
          · rw [e] at hh; exact d hh
          · have := o.tr _ _ _ k1 (hx y hy); rw [hh, o.irr] at this; cases this
        rw [List.mem_cons]
        constructor
        · rintro (h | h)
          · exact Or.inl h
          · exact Or.inr ⟨h, nr e h⟩
        · rintro (h | ⟨h, _⟩)
          · exact Or.inl h
          · exact Or.inr h
theorem insD_sk (o : KO kl) (t : K × V) : ∀ s : List (K × V), SK kl s → SK kl (insD kl t s)
  | [], _ => by simp [insD]
  | x :: r, h => by
    obtain ⟨hx, hr⟩ := List.pairwise_cons.1 h
    unfold insD
    split
    · rename_i c
      refine List.pairwise_cons.2 ⟨fun y hy => ?_, insD_sk o t r hr⟩
      rcases (insD_mem o t r hr y).1 hy with rfl | ⟨h, _⟩
      · exact c
      · exact hx y h
    · rename_i c
      split
      · exact List.pairwise_cons.2 ⟨hx, hr⟩
      · rename_i d
        have k1 : kl t.1 x.1 = true := by
          rcases o.tot t.1 x.1 with h | h | h
          · exact h
          · exact absurd h.symm d
          · exact absurd h c
        refine List.pairwise_cons.2 ⟨fun y hy => ?_, h⟩
        rcases List.mem_cons.1 hy with rfl | hy
        · exact k1
        · exact o.tr _ _ _ k1 (hx y hy)
/-- two rising rows of the same. -/
theorem sk_uniq (o : KO kl) : ∀ a b : List (K × V), SK kl a → SK kl b → (∀ e, e ∈ a ↔ e ∈ b) → a = b
  | [], [], _, _, _ => rfl
  | [], y :: s, _, _, h => absurd ((h y).2 List.mem_cons_self) (by simp)
  | x :: r, [], _, _, h => absurd ((h x).1 List.mem_cons_self) (by simp)
  | x :: r, y :: s, ha, hb, h => by
    obtain ⟨hx, hr⟩ := List.pairwise_cons.1 ha
    obtain ⟨hy, hs⟩ := List.pairwise_cons.1 hb
    have e1 : x = y := by
      rcases List.mem_cons.1 ((h x).1 List.mem_cons_self) with e | e
      · exact e
      · rcases List.mem_cons.1 ((h y).2 List.mem_cons_self) with e' | e'
        · exact e'.symm
        · have := o.tr _ _ _ (hy x e) (hx y e'); rw [o.irr] at this; cases this
    subst e1
    have nx : ∀ e, e ∈ r → e ≠ x := fun e he e' => by have := hx e he; rw [e', o.irr] at this; cases this
    have ny : ∀ e, e ∈ s → e ≠ x := fun e he e' => by have := hy e he; rw [e', o.irr] at this; cases this
    rw [sk_uniq o r s hr hs fun e => ⟨fun he => (List.mem_cons.1 ((h e).1 (List.mem_cons_of_mem _ he))).resolve_left (nx e he), fun he => (List.mem_cons.1 ((h e).2 (List.mem_cons_of_mem _ he))).resolve_left (ny e he)⟩]
/-- what the document's Sort holds: of each key the last. -/
theorem srtD_is (o : KO kl) (F : Nat → K × V) : ∀ n, SK kl (srtD kl ((List.range n).map F)) ∧ ∀ e, e ∈ srtD kl ((List.range n).map F) ↔ ∃ k, k < n ∧ F k = e ∧ ∀ j, k < j → j < n → (F j).1 ≠ (F k).1
  | 0 => ⟨by simp [srtD], fun e => by simp [srtD]⟩
  | n + 1 => by
    obtain ⟨h1, h2⟩ := srtD_is o F n
    have e0 : (List.range (n + 1)).map F = (List.range n).map F ++ [F n] := by simp [List.range_succ]
    rw [e0, srtD_more]
    refine ⟨insD_sk o _ _ h1, fun e => ?_⟩
    rw [insD_mem o _ _ h1, h2]
    constructor
    · rintro (rfl | ⟨⟨k, k1, rfl, k2⟩, ne⟩)
      · exact ⟨n, by omega, rfl, fun j a b => by omega⟩
      · refine ⟨k, by omega, rfl, fun j a b => ?_⟩
        rcases Nat.lt_or_ge j n with c | c
        · exact k2 j a c
        · have : j = n := by omega
          subst this; exact fun h => ne h.symm
    · rintro ⟨k, k1, rfl, k2⟩
      rcases Nat.lt_or_ge k n with c | c
      · exact Or.inr ⟨⟨k, c, rfl, fun j a b => k2 j a (by omega)⟩, fun h => k2 n c (by omega) h.symm⟩
      · have : k = n := by omega
        subst this; exact Or.inl rfl
/-! ### the first of each key, of a row in order -/
def fsts (g : Nat → K × V) : Nat → List (K × V)
  | 0 => []
  | k + 1 => fsts g k ++ (if k = 0 ∨ (g (k - 1)).1 ≠ (g k).1 then [g k] else [])
theorem fsts_mem (g : Nat → K × V) (e : K × V) : ∀ n, e ∈ fsts g n ↔ ∃ i, i < n ∧ g i = e ∧ (i = 0 ∨ (g (i - 1)).1 ≠ (g i).1)
  | 0 => by simp [fsts]
  | n + 1 => by
    unfold fsts
    rw [List.mem_append, fsts_mem g e n]
    constructor
    · rintro (⟨i, h1, h2, h3⟩ | h)
      · exact ⟨i, by omega, h2, h3⟩
      · split at h
        · rename_i c
          exact ⟨n, by omega, (List.mem_singleton.1 h).symm, c⟩
        · cases h
    · rintro ⟨i, h1, h2, h3⟩
      rcases Nat.lt_or_ge i n with c | c
      · exact Or.inl ⟨i, c, h2, h3⟩
      · have : i = n := by omega
        subst this
        right; rw [if_pos h3, h2]; exact List.mem_singleton.2 rfl
/-- the order of entries that carry where they stood. -/
def RT (kl : K → K → Bool) (x y : (K × V) × Nat) : Prop := kl x.1.1 y.1.1 = true ∨ (x.1.1 = y.1.1 ∧ x.2 < y.2)
theorem RT_tr (o : KO kl) (x y z : (K × V) × Nat) (h1 : RT kl x y) (h2 : RT kl y z) : RT kl x z := by
  rcases h1 with a | ⟨a, a'⟩ <;> rcases h2 with b | ⟨b, b'⟩
  · exact Or.inl (o.tr _ _ _ a b)
  · exact Or.inl (by rw [← b]; exact a)
  · exact Or.inl (by rw [a]; exact b)
  · exact Or.inr ⟨a.trans b, by omega⟩
theorem RT_irr (o : KO kl) (x : (K × V) × Nat) : ¬ RT kl x x := by
  rintro (a | ⟨_, a⟩)
  · rw [o.irr] at a; cases a
  · omega
theorem RT_all (o : KO kl) (F : Nat → K × V) (n : Nat) : Xall (RT kl) (fun x y : (K × V) × Nat => kl x.1.1 y.1.1) n fun k => (F k, k) := fun i j h1 h2 => ⟨fun h => Or.inl h, fun h => by
  rcases o.tot (F i).1 (F j).1 with c | c | c
  · exact Or.inl c
  · exact Or.inr ⟨c, h1⟩
  · exact absurd (c.symm.trans h) (by simp)⟩
theorem keys_le (o : KO kl) {n : Nat} {g : Nat → (K × V) × Nat} (S : Sd (RT kl) 0 n g) {i j : Nat} (h1 : i < j) (h2 : j < n) : kl (g i).1.1 (g j).1.1 = true ∨ (g i).1.1 = (g j).1.1 := by
  rcases S i j (Nat.zero_le _) h1 h2 with c | ⟨c, _⟩
  · exact Or.inl c
  · exact Or.inr c
theorem fsts_sk (o : KO kl) {n : Nat} {g : Nat → (K × V) × Nat} (S : Sd (RT kl) 0 n g) : ∀ m, m ≤ n → SK kl (fsts (fun k => (g k).1) m)
  | 0, _ => by simp [fsts]
  | m + 1, h => by
    unfold fsts
    refine List.pairwise_append.2 ⟨fsts_sk o S m (by omega), by split <;> simp, fun x hx y hy => ?_⟩
    split at hy
    · rename_i c
      obtain rfl := List.mem_singleton.1 hy
      obtain ⟨i, i1, rfl, _⟩ := (fsts_mem _ x m).1 hx
      have c' := c.resolve_left (by omega)
      have k1 : kl (g (m - 1)).1.1 (g m).1.1 = true := (keys_le o S (show m - 1 < m by omega) (by omega)).resolve_right c'
      rcases Nat.lt_or_ge i (m - 1) with d | d
      · rcases keys_le o S d (by omega) with k2 | k2
        · exact o.tr _ _ _ k2 k1
        · show kl (g i).1.1 (g m).1.1 = true; rw [k2]; exact k1
      · have : i = m - 1 := by omega
        subst this; exact k1
    · cases hy
/-- reversed, put into order so that like ones keep theirs, the first of each key: the document's Sort. -/
theorem sort_is (o : KO kl) (F : Nat → K × V) (n : Nat) (g : Nat → (K × V) × Nat) (S : Sd (RT kl) 0 n g) (P : Pr 0 n (fun k => (F (n - 1 - k), k)) g) :
    fsts (fun k => (g k).1) n = srtD kl ((List.range n).map F) := by
  obtain ⟨d1, d2⟩ := srtD_is o F n
  refine sk_uniq o _ _ (fsts_sk o S n (Nat.le_refl _)) d1 fun e => ?_
  rw [fsts_mem, d2]
  have gi : ∀ i, i < n → (g i).2 < n ∧ (g i).1 = F (n - 1 - (g i).2) := fun i hi => P.all (P := fun e => e.2 < n ∧ e.1 = F (n - 1 - e.2)) (fun k _ h => ⟨h, rfl⟩) i (Nat.zero_le _) hi
  have gb : ∀ k, k < n → ∃ q, q < n ∧ g q = (F (n - 1 - k), k) := fun k hk => by obtain ⟨j, _, j2, j3⟩ := P.back k (Nat.zero_le _) hk; exact ⟨j, j2, j3⟩
  constructor
  · rintro ⟨i, i1, rfl, i2⟩
    obtain ⟨a1, a2⟩ := gi i i1
    refine ⟨n - 1 - (g i).2, by omega, a2.symm, fun j j1 j2 he => ?_⟩
    obtain ⟨q, q1, q2⟩ := gb (n - 1 - j) (by omega)
    have q3 : (g q).1.1 = (g i).1.1 := by rw [q2, a2]; show (F (n - 1 - (n - 1 - j))).1 = _; rw [show n - 1 - (n - 1 - j) = j by omega, he]
    have q4 : (g q).2 < (g i).2 := by rw [q2]; show n - 1 - j < _; omega
    have r1 : RT kl (g q) (g i) := Or.inr ⟨q3, q4⟩
    have qi : q < i := by
      rcases Nat.lt_or_ge q i with c | c
      · exact c
      · rcases Nat.eq_or_lt_of_le c with c | c
        · subst c; omega
        · exact absurd (RT_tr o _ _ _ r1 (S i q (Nat.zero_le _) c q1)) (RT_irr o _)
    have i3 := i2.resolve_left (by omega)
    have k1 : kl (g (i - 1)).1.1 (g i).1.1 = true := (keys_le o S (show i - 1 < i by omega) i1).resolve_right i3
    rcases Nat.lt_or_ge q (i - 1) with c | c
    · rcases keys_le o S c (by omega) with k2 | k2
      · have := o.tr _ _ _ k2 k1; rw [q3, o.irr] at this; cases this
      · rw [← k2, q3, o.irr] at k1; cases k1
    · have : q = i - 1 := by omega
      subst this; exact i3 q3
  · rintro ⟨k, k1, rfl, k2⟩
    obtain ⟨i, i1, i2⟩ := gb (n - 1 - k) (by omega)
    have i3 : (g i).1 = F k := by rw [i2]; show F (n - 1 - (n - 1 - k)) = _; rw [show n - 1 - (n - 1 - k) = k by omega]
    refine ⟨i, i1, i3, ?_⟩
    by_cases c : i = 0
    · exact Or.inl c
    · right
      intro he
      have he' : (g (i - 1)).1.1 = (g i).1.1 := he
      rcases S (i - 1) i (Nat.zero_le _) (by omega) i1 with d | ⟨_, d⟩
      · rw [he', o.irr] at d; cases d
      · obtain ⟨a1, a2⟩ := gi (i - 1) (by omega)
        rw [i2] at d
        have d' : (g (i - 1)).2 < n - 1 - k := d
        refine k2 (n - 1 - (g (i - 1)).2) (by omega) (by omega) ?_
        rw [← a2, he', i3]
end Go.Proofs.YtfpfeecoideedaaGreatDoor.So
