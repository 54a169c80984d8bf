
import Derived.Test.YtpbcbpiolhjlhaaGreatDoorBzAB
import Derived.ProofKit
import Derived.OpenShut
import Derived.Shelf.RegionOpen

namespace Go.Proofs.YtpbcbpiolhjlhaaGreatDoor.So
set_option linter.unusedVariables false
variable {α : Type} {R : α → α → Prop} {lt : α → α → Bool}
/-! ### one entry moved: up to the place ahead of i, or down to i -/
theorem rot_start (f : Nat → α) (a : Nat) : rot f a (a + 1) (a + 1) = f := rot_none f (Or.inr rfl) (by omega) (Nat.le_refl _)
theorem rot_end (f : Nat → α) (m : Nat) : rot f m m (m + 1) = f := rot_none f (Or.inl rfl) (Nat.le_refl _) (by omega)
theorem rot_fwd (f : Nat → α) (a k : Nat) (h : a ≤ k) : sw (rot f a (a + 1) (k + 1)) k (k + 1) = rot f a (a + 1) (k + 2) := by
  funext x
  unfold sw rot
  repeat' split
  all_goals first | rfl | (exfalso; omega) | (congr 1; omega)
theorem rot_bwd (f : Nat → α) (m k : Nat) (h0 : 0 < k) (h : k ≤ m) : sw (rot f k m (m + 1)) k (k - 1) = rot f (k - 1) m (m + 1) := by
  funext x
  unfold sw rot
  repeat' split
  all_goals first | rfl | (exfalso; omega) | (congr 1; omega)
/-- the entry moved down lies at its place. -/
theorem rot_bwd_at (f : Nat → α) {k m : Nat} (h : k ≤ m) : rot f k m (m + 1) k = f m ∧ ∀ x, x < k → rot f k m (m + 1) x = f x := by
  refine ⟨?_, fun x hx => ?_⟩ <;> unfold rot
  · rw [if_pos (by omega)]; congr 1; omega
  · rw [if_neg (by omega), if_neg (by omega)]
theorem one_up {a b i : Nat} {f : Nat → α} (h1 : a + 1 ≤ i) (h2 : i ≤ b) (S : Sd R (a + 1) b f) (lo : ∀ k, a + 1 ≤ k → k < i → R (f k) (f a)) (hi : ∀ k, i ≤ k → k < b → R (f a) (f k)) : Sd R a b (rot f a (a + 1) i) := fun x y c d e => by
  obtain ⟨g1, g2, g3, g4⟩ := rot_at f (show a ≤ a + 1 by omega) h1
  have hx : rot f a (a + 1) i x = if x < i - 1 then f (x + 1) else if x < i then f a else f x := by
    split
    · rw [g2 x c (by omega)]; congr 1; omega
    · split
      · rw [g3 x (by omega) (by omega)]; congr 1; omega
      · rw [g4 x (by omega)]
  have hy : rot f a (a + 1) i y = if y < i - 1 then f (y + 1) else if y < i then f a else f y := by
    split
    · rw [g2 y (by omega) (by omega)]; congr 1; omega
    · split
      · rw [g3 y (by omega) (by omega)]; congr 1; omega
      · rw [g4 y (by omega)]
  rw [hx, hy]
  split
  · split
    · exact S _ _ (by omega) (by omega) (by omega)
    · split
      · exact lo _ (by omega) (by omega)
      · exact S _ _ (by omega) (by omega) (by omega)
  · split
    · split
      · omega
      · split
        · omega
        · exact hi _ (by omega) e
    · split
      · omega
      · split
        · omega
        · exact S _ _ (by omega) d e
theorem one_dn {a m i : Nat} {f : Nat → α} (h1 : a ≤ i) (h2 : i ≤ m) (S : Sd R a m f) (lo : ∀ k, a ≤ k → k < i → R (f k) (f m)) (hi : ∀ k, i ≤ k → k < m → R (f m) (f k)) : Sd R a (m + 1) (rot f i m (m + 1)) := fun x y c d e => by
  obtain ⟨g1, g2, g3, g4⟩ := rot_at f h2 (show m ≤ m + 1 by omega)
  have hx : rot f i m (m + 1) x = if x < i then f x else if x = i then f m else f (x - 1) := by
    split
    · rw [g1 x (by omega)]
    · split
      · rw [g2 x (by omega) (by omega)]; congr 1; omega
      · rw [g3 x (by omega) (by omega)]; congr 1; omega
  have hy : rot f i m (m + 1) y = if y < i then f y else if y = i then f m else f (y - 1) := by
    split
    · rw [g1 y (by omega)]
    · split
      · rw [g2 y (by omega) (by omega)]; congr 1; omega
      · rw [g3 y (by omega) (by omega)]; congr 1; omega
  rw [hx, hy]
  split
  · split
    · exact S _ _ c d (by omega)
    · split
      · exact lo _ c (by omega)
      · exact S _ _ c (by omega) (by omega)
  · split
    · split
      · omega
      · split
        · omega
        · exact hi _ (by omega) (by omega)
    · split
      · omega
      · split
        · omega
        · exact S _ _ (by omega) (by omega) (by omega)
/-! ### which is ahead, across a cut -/
theorem Xs.sub {a m b a' b' : Nat} {f : Nat → α} (h : Xs R lt a m b f) (h1 : a ≤ a') (h2 : b' ≤ b) : Xs R lt a' m b' f := fun i j x y z v => h i j (by omega) y z (by omega)
theorem Xs.pr {n c x y : Nat} {f g : Nat → α} (h : Xs R lt 0 c n f) (p : Pr x y f g) (hc : c ≤ x ∨ y ≤ c) (hy : y ≤ n) : Xs R lt 0 c n g := by
  rcases hc with hc | hc
  · intro i j _ i2 j1 j2
    rw [p.out (k := i) (by omega)]
    have : ∀ k, c ≤ k → k < n → (lt (g k) (f i) = true → R (g k) (f i)) ∧ (lt (g k) (f i) = false → R (f i) (g k)) :=
      (p.wide hc hy).all (P := fun e => (lt e (f i) = true → R e (f i)) ∧ (lt e (f i) = false → R (f i) e)) fun k k1 k2 => h i k (Nat.zero_le _) i2 k1 k2
    exact this j j1 j2
  · intro i j _ i2 j1 j2
    rw [p.out (k := j) (by omega)]
    have : ∀ k, 0 ≤ k → k < c → (lt (f j) (g k) = true → R (f j) (g k)) ∧ (lt (f j) (g k) = false → R (g k) (f j)) :=
      (p.wide (Nat.zero_le _) hc).all (P := fun e => (lt (f j) e = true → R (f j) e) ∧ (lt (f j) e = false → R e (f j))) fun k k1 k2 => h k j k1 k2 j1 j2
    exact this i (Nat.zero_le _) i2
/-- cut at all multiples of s. -/
def Cut (R : α → α → Prop) (lt : α → α → Bool) (s n : Nat) (f : Nat → α) : Prop := ∀ q, Xs R lt 0 (q * s) n f
theorem Cut.twice {s n : Nat} {f : Nat → α} (h : Cut R lt s n f) : Cut R lt (s * 2) n f := fun q => by
  have := h (q * 2)
  rw [show q * 2 * s = q * (s * 2) by rw [Nat.mul_assoc, Nat.mul_comm 2 s]] at this; exact this
theorem Cut.pr {s n p x y : Nat} {f g : Nat → α} (h : Cut R lt s n f) (hp : Pr x y f g) (hx : p * s ≤ x) (hy : y ≤ (p + 1) * s) (hn : y ≤ n) : Cut R lt s n g := fun q => by
  refine (h q).pr hp ?_ hn
  rcases Nat.lt_or_ge p q with c | c
  · exact Or.inr (Nat.le_trans hy (Nat.mul_le_mul_right s c))
  · exact Or.inl (Nat.le_trans (Nat.mul_le_mul_right s c) hx)
/-- at the start: lt tells R of any two. -/
def Xall (R : α → α → Prop) (lt : α → α → Bool) (n : Nat) (f : Nat → α) : Prop := ∀ i j, i < j → j < n → (lt (f j) (f i) = true → R (f j) (f i)) ∧ (lt (f j) (f i) = false → R (f i) (f j))
theorem Xall.cut {n : Nat} {f : Nat → α} (h : Xall R lt n f) (s : Nat) : Cut R lt s n f := fun q i j x y z v => h i j (by omega) v
/-- blocks of s in order, up to x. -/
def Blk (R : α → α → Prop) (s n x : Nat) (f : Nat → α) : Prop := ∀ q, q * s < x → Sd R (q * s) (min ((q + 1) * s) n) f
/-- one block, all: in order. -/
theorem Blk.whole {s n : Nat} {f : Nat → α} (h : Blk R s n n f) (hs : n ≤ s) : Sd R 0 n f := by
  rcases Nat.eq_zero_or_pos n with h0 | h0
  · subst h0; exact fun i j x y z => by omega
  · have := h 0 (by omega)
    rw [Nat.zero_mul, Nat.min_eq_right (by omega)] at this; exact this
theorem Blk.zero (s n : Nat) (f : Nat → α) : Blk R s n 0 f := fun q h => by omega
/-- the block p put into order: those ahead of it stay. -/
theorem Blk.more {s n p : Nat} {f g : Nat → α} (h : Blk R s n (p * s) f) (hp : Pr (p * s) (min ((p + 1) * s) n) f g) (hg : Sd R (p * s) (min ((p + 1) * s) n) g) : Blk R s n ((p + 1) * s) g := fun q hq => by
  rcases Nat.lt_or_ge q p with c | c
  · have h1 : (q + 1) * s ≤ p * s := Nat.mul_le_mul_right s c
    have h2 : q * s < p * s := by
      rcases Nat.eq_zero_or_pos s with e | e
      · subst e; omega
      · exact Nat.mul_lt_mul_of_pos_right c e
    intro i j x y z
    rw [hp.out (k := i) (by omega), hp.out (k := j) (by omega)]
    exact h q h2 i j x y z
  · have : q = p := by
      rcases Nat.lt_or_ge p q with d | d
      · have : (p + 1) * s ≤ q * s := Nat.mul_le_mul_right s d
        omega
      · omega
    subst this; exact hg
/-- the first p pairs of blocks of s are merged. -/
def Mrg (R : α → α → Prop) (s n p : Nat) (f : Nat → α) : Prop := (∀ q, q < p → Sd R (q * (s * 2)) (min ((q + 1) * (s * 2)) n) f) ∧ ∀ q, 2 * p ≤ q → Sd R (q * s) (min ((q + 1) * s) n) f
theorem Blk.mrg {s n : Nat} {f : Nat → α} (h : Blk R s n n f) : Mrg R s n 0 f := ⟨fun q hq => by omega, fun q _ => by
  rcases Nat.lt_or_ge (q * s) n with c | c
  · exact h q c
  · exact Sd.none (by omega) f⟩
theorem Mrg.parts {s n p : Nat} {f : Nat → α} (h : Mrg R s n p f) : Sd R (p * (s * 2)) (min (p * (s * 2) + s) n) f ∧ Sd R (p * (s * 2) + s) (min (p * (s * 2) + s * 2) n) f := by
  have e1 : 2 * p * s = p * (s * 2) := by rw [Nat.mul_comm 2 p, Nat.mul_assoc, Nat.mul_comm 2 s]
  have h1 := h.2 (2 * p) (Nat.le_refl _)
  have h2 := h.2 (2 * p + 1) (by omega)
  rw [Nat.add_mul, e1, Nat.one_mul] at h1
  rw [Nat.add_mul (2 * p + 1) 1, Nat.add_mul, e1, Nat.one_mul] at h2
  refine ⟨h1, ?_⟩
  rw [show p * (s * 2) + s * 2 = p * (s * 2) + s + s by omega]; exact h2
theorem Mrg.more {s n p : Nat} {f g : Nat → α} (h : Mrg R s n p f) (hp : Pr (p * (s * 2)) (min (p * (s * 2) + s * 2) n) f g) (hg : Sd R (p * (s * 2)) (min (p * (s * 2) + s * 2) n) g) : Mrg R s n (p + 1) g := by
  have e1 : (p + 1) * (s * 2) = p * (s * 2) + s * 2 := by rw [Nat.add_mul, Nat.one_mul]
  refine ⟨fun q hq => ?_, fun q hq => ?_⟩
  · rcases Nat.lt_or_ge q p with c | c
    · have h1 : (q + 1) * (s * 2) ≤ p * (s * 2) := Nat.mul_le_mul_right _ c
      intro i j x y z
      rw [hp.out (k := i) (by omega), hp.out (k := j) (by omega)]
      exact h.1 q c i j x y z
    · have : q = p := by omega
      subst this; rw [e1]; exact hg
  · have h1 : p * (s * 2) + s * 2 ≤ q * s := by
      have := Nat.mul_le_mul_right s hq
      rw [show 2 * (p + 1) * s = (p + 1) * (s * 2) by rw [Nat.mul_comm 2 (p + 1), Nat.mul_assoc, Nat.mul_comm 2 s], e1] at this
      exact this
    intro i j x y z
    rw [hp.out (k := i) (by omega), hp.out (k := j) (by omega)]
    exact h.2 q (by omega) i j x y z
theorem Mrg.done {s n p : Nat} {f : Nat → α} (h : Mrg R s n p f) (hp : n ≤ p * (s * 2)) : Blk R (s * 2) n n f := fun q hq => by
  rcases Nat.lt_or_ge q p with c | c
  · exact h.1 q c
  · have := Nat.mul_le_mul_right (s * 2) c; omega
end Go.Proofs.YtpbcbpiolhjlhaaGreatDoor.So


namespace Go.Proofs.YtpbcbpiolhjlhaaGreatDoor.So
set_option linter.unusedVariables false
set_option linter.unusedSectionVars false
variable {K V : Type} [DecidableEq K] {kl : K → K → Bool}
/-- an order of keys. -/
structure KO (kl : K → K → Bool) : Prop where
  irr : ∀ a, kl a a = false
  tr : ∀ a b c, kl a b = true → kl b c = true → kl a c = true
  tot : ∀ a b, kl a b = true ∨ a = b ∨ kl b a = true
/-! ### the document's Sort -/
def insD (kl : K → K → Bool) (t : K × V) : List (K × V) → List (K × V)
  | [] => [t]
  | x :: r => if kl x.1 t.1 = true then x :: insD kl t r else if x.1 = t.1 then (x.1, t.2) :: r else t :: x :: r
def srtD (kl : K → K → Bool) (l : List (K × V)) : List (K × V) := l.foldl (fun s t => insD kl t s) []
theorem srtD_more (l : List (K × V)) (t : K × V) : srtD kl (l ++ [t]) = insD kl t (srtD kl l) := by simp [srtD]
/-- rising. -/
abbrev SK (kl : K → K → Bool) (l : List (K × V)) : Prop := l.Pairwise fun x y => kl x.1 y.1 = true
theorem insD_mem (o : KO kl) (t : K × V) : ∀ s : List (K × V), SK kl s → ∀ e, e ∈ insD kl t s ↔ e = t ∨ (e ∈ s ∧ e.1 ≠ t.1)
  | [], _, e => by simp [insD]
  | x :: r, h, e => by
    obtain ⟨hx, hr⟩ := List.pairwise_cons.1 h
    unfold insD
    split
    · rename_i c
      have ne : x.1 ≠ t.1 := fun h => by rw [h, o.irr] at c; cases c
      rw [List.mem_cons, insD_mem o t r hr e, List.mem_cons]
      constructor
      · rintro (rfl | h | ⟨h, h'⟩)
        · exact Or.inr ⟨Or.inl rfl, ne⟩
        · exact Or.inl h
        · exact Or.inr ⟨Or.inr h, h'⟩
      · rintro (h | ⟨h | h, h'⟩)
        · exact Or.inr (Or.inl h)
        · exact Or.inl h
        · exact Or.inr (Or.inr ⟨h, h'⟩)
    · rename_i c
      split
      · rename_i d
        have et : (x.1, t.2) = t := by rw [d]
        have nr : ∀ y ∈ r, y.1 ≠ t.1 := fun y hy h => by have := hx y hy; rw [h, d, o.irr] at this; cases this
        rw [et, List.mem_cons, List.mem_cons]
        constructor
        · rintro (h | h)
          · exact Or.inl h
          · exact Or.inr ⟨Or.inr h, nr e h⟩
        · rintro (h | ⟨h | h, h'⟩)
          · exact Or.inl h
          · exact absurd (by rw [h]; exact d) h'
          · exact Or.inr h
      · rename_i d
        have k1 : kl t.1 x.1 = true := by
          rcases o.tot t.1 x.1 with h | h | h
          · exact h
          · exact absurd h.symm d
          · exact absurd h c
        have nr : ∀ y ∈ x :: r, y.1 ≠ t.1 := fun y hy hh => by
          rcases List.mem_cons.1 hy with e | hy
          · rw [e] at hh; exact d hh
          · have := o.tr _ _ _ k1 (hx y hy); rw [hh, o.irr] at this; cases this
        rw [List.mem_cons]
        constructor
        · rintro (h | h)
          · exact Or.inl h
          · exact Or.inr ⟨h, nr e h⟩
        · rintro (h | ⟨h, _⟩)
          · exact Or.inl h
          · exact Or.inr h
theorem insD_sk (o : KO kl) (t : K × V) : ∀ s : List (K × V), SK kl s → SK kl (insD kl t s)
  | [], _ => by simp [insD]
  | x :: r, h => by
    obtain ⟨hx, hr⟩ := List.pairwise_cons.1 h
    unfold insD
    split
    · rename_i c
      refine List.pairwise_cons.2 ⟨fun y hy => ?_, insD_sk o t r hr⟩
      rcases (insD_mem o t r hr y).1 hy with rfl | ⟨h, _⟩
      · exact c
      · exact hx y h
    · rename_i c
      split
      · exact List.pairwise_cons.2 ⟨hx, hr⟩
      · rename_i d
        have k1 : kl t.1 x.1 = true := by
          rcases o.tot t.1 x.1 with h | h | h
          · exact h
          · exact absurd h.symm d
          · exact absurd h c
        refine List.pairwise_cons.2 ⟨fun y hy => ?_, h⟩
        rcases List.mem_cons.1 hy with rfl | hy
        · exact k1
        · exact o.tr _ _ _ k1 (hx y hy)
/-- two rising rows of the same. -/
theorem sk_uniq (o : KO kl) : ∀ a b : List (K × V), SK kl a → SK kl b → (∀ e, e ∈ a ↔ e ∈ b) → a = b
  | [], [], _, _, _ => rfl
  | [], y :: s, _, _, h => absurd ((h y).2 List.mem_cons_self) (by simp)
  | x :: r, [], _, _, h => absurd ((h x).1 List.mem_cons_self) (by simp)
  | x :: r, y :: s, ha, hb, h => by
    obtain ⟨hx, hr⟩ := List.pairwise_cons.1 ha
    obtain ⟨hy, hs⟩ := List.pairwise_cons.1 hb
    have e1 : x = y := by
      rcases List.mem_cons.1 ((h x).1 List.mem_cons_self) with e | e
      · exact e
      · rcases List.mem_cons.1 ((h y).2 List.mem_cons_self) with e' | e'
        · exact e'.symm
        · have := o.tr _ _ _ (hy x e) (hx y e'); rw [o.irr] at this; cases this
    subst e1
    have nx : ∀ e, e ∈ r → e ≠ x := fun e he e' => by have := hx e he; rw [e', o.irr] at this; cases this
    have ny : ∀ e, e ∈ s → e ≠ x := fun e he e' => by have := hy e he; rw [e', o.irr] at this; cases this
    rw [sk_uniq o r s hr hs fun e => ⟨fun he => (List.mem_cons.1 ((h e).1 (List.mem_cons_of_mem _ he))).resolve_left (nx e he), fun he => (List.mem_cons.1 ((h e).2 (List.mem_cons_of_mem _ he))).resolve_left (ny e he)⟩]
/-- what the document's Sort holds: of each key the last. -/
theorem srtD_is (o : KO kl) (F : Nat → K × V) : ∀ n, SK kl (srtD kl ((List.range n).map F)) ∧ ∀ e, e ∈ srtD kl ((List.range n).map F) ↔ ∃ k, k < n ∧ F k = e ∧ ∀ j, k < j → j < n → (F j).1 ≠ (F k).1
  | 0 => ⟨by simp [srtD], fun e => by simp [srtD]⟩
  | n + 1 => by
    obtain ⟨h1, h2⟩ := srtD_is o F n
    have e0 : (List.range (n + 1)).map F = (List.range n).map F ++ [F n] := by simp [List.range_succ]
    rw [e0, srtD_more]
    refine ⟨insD_sk o _ _ h1, fun e => ?_⟩
    rw [insD_mem o _ _ h1, h2]
    constructor
    · rintro (rfl | ⟨⟨k, k1, rfl, k2⟩, ne⟩)
      · exact ⟨n, by omega, rfl, fun j a b => by omega⟩
      · refine ⟨k, by omega, rfl, fun j a b => ?_⟩
        rcases Nat.lt_or_ge j n with c | c
        · exact k2 j a c
        · have : j = n := by omega
          subst this; exact fun h => ne h.symm
    · rintro ⟨k, k1, rfl, k2⟩
      rcases Nat.lt_or_ge k n with c | c
      · exact Or.inr ⟨⟨k, c, rfl, fun j a b => k2 j a (by omega)⟩, fun h => k2 n c (by omega) h.symm⟩
      · have : k = n := by omega
        subst this; exact Or.inl rfl
/-! ### the first of each key, of a row in order -/
def fsts (g : Nat → K × V) : Nat → List (K × V)
  | 0 => []
  | k + 1 => fsts g k ++ (if k = 0 ∨ (g (k - 1)).1 ≠ (g k).1 then [g k] else [])
theorem fsts_mem (g : Nat → K × V) (e : K × V) : ∀ n, e ∈ fsts g n ↔ ∃ i, i < n ∧ g i = e ∧ (i = 0 ∨ (g (i - 1)).1 ≠ (g i).1)
  | 0 => by simp [fsts]
  | n + 1 => by
    unfold fsts
    rw [List.mem_append, fsts_mem g e n]
    constructor
    · rintro (⟨i, h1, h2, h3⟩ | h)
      · exact ⟨i, by omega, h2, h3⟩
      · split at h
        · rename_i c
          exact ⟨n, by omega, (List.mem_singleton.1 h).symm, c⟩
        · cases h
    · rintro ⟨i, h1, h2, h3⟩
      rcases Nat.lt_or_ge i n with c | c
      · exact Or.inl ⟨i, c, h2, h3⟩
      · have : i = n := by omega
        subst this
        right; rw [if_pos h3, h2]; exact List.mem_singleton.2 rfl
/-- the order of entries that carry where they stood. -/
def RT (kl : K → K → Bool) (x y : (K × V) × Nat) : Prop := kl x.1.1 y.1.1 = true ∨ (x.1.1 = y.1.1 ∧ x.2 < y.2)
theorem RT_tr (o : KO kl) (x y z : (K × V) × Nat) (h1 : RT kl x y) (h2 : RT kl y z) : RT kl x z := by
  rcases h1 with a | ⟨a, a'⟩ <;> rcases h2 with b | ⟨b, b'⟩
  · exact Or.inl (o.tr _ _ _ a b)
  · exact Or.inl (by rw [← b]; exact a)
  · exact Or.inl (by rw [a]; exact b)
  · exact Or.inr ⟨a.trans b, by omega⟩
theorem RT_irr (o : KO kl) (x : (K × V) × Nat) : ¬ RT kl x x := by
  rintro (a | ⟨_, a⟩)
  · rw [o.irr] at a; cases a
  · omega
theorem RT_all (o : KO kl) (F : Nat → K × V) (n : Nat) : Xall (RT kl) (fun x y : (K × V) × Nat => kl x.1.1 y.1.1) n fun k => (F k, k) := fun i j h1 h2 => ⟨fun h => Or.inl h, fun h => by
  rcases o.tot (F i).1 (F j).1 with c | c | c
  · exact Or.inl c
  · exact Or.inr ⟨c, h1⟩
  · exact absurd (c.symm.trans h) (by simp)⟩
theorem keys_le (o : KO kl) {n : Nat} {g : Nat → (K × V) × Nat} (S : Sd (RT kl) 0 n g) {i j : Nat} (h1 : i < j) (h2 : j < n) : kl (g i).1.1 (g j).1.1 = true ∨ (g i).1.1 = (g j).1.1 := by
  rcases S i j (Nat.zero_le _) h1 h2 with c | ⟨c, _⟩
  · exact Or.inl c
  · exact Or.inr c
theorem fsts_sk (o : KO kl) {n : Nat} {g : Nat → (K × V) × Nat} (S : Sd (RT kl) 0 n g) : ∀ m, m ≤ n → SK kl (fsts (fun k => (g k).1) m)
  | 0, _ => by simp [fsts]
  | m + 1, h => by
    unfold fsts
    refine List.pairwise_append.2 ⟨fsts_sk o S m (by omega), by split <;> simp, fun x hx y hy => ?_⟩
    split at hy
    · rename_i c
      obtain rfl := List.mem_singleton.1 hy
      obtain ⟨i, i1, rfl, _⟩ := (fsts_mem _ x m).1 hx
      have c' := c.resolve_left (by omega)
      have k1 : kl (g (m - 1)).1.1 (g m).1.1 = true := (keys_le o S (show m - 1 < m by omega) (by omega)).resolve_right c'
      rcases Nat.lt_or_ge i (m - 1) with d | d
      · rcases keys_le o S d (by omega) with k2 | k2
        · exact o.tr _ _ _ k2 k1
        · show kl (g i).1.1 (g m).1.1 = true; rw [k2]; exact k1
      · have : i = m - 1 := by omega
        subst this; exact k1
    · cases hy
/-- reversed, put into order so that like ones keep theirs, the first of each key: the document's Sort. -/
theorem sort_is (o : KO kl) (F : Nat → K × V) (n : Nat) (g : Nat → (K × V) × Nat) (S : Sd (RT kl) 0 n g) (P : Pr 0 n (fun k => (F (n - 1 - k), k)) g) :
    fsts (fun k => (g k).1) n = srtD kl ((List.range n).map F) := by
  obtain ⟨d1, d2⟩ := srtD_is o F n
  refine sk_uniq o _ _ (fsts_sk o S n (Nat.le_refl _)) d1 fun e => ?_
  rw [fsts_mem, d2]
  have gi : ∀ i, i < n → (g i).2 < n ∧ (g i).1 = F (n - 1 - (g i).2) := fun i hi => P.all (P := fun e => e.2 < n ∧ e.1 = F (n - 1 - e.2)) (fun k _ h => ⟨h, rfl⟩) i (Nat.zero_le _) hi
  have gb : ∀ k, k < n → ∃ q, q < n ∧ g q = (F (n - 1 - k), k) := fun k hk => by obtain ⟨j, _, j2, j3⟩ := P.back k (Nat.zero_le _) hk; exact ⟨j, j2, j3⟩
  constructor
  · rintro ⟨i, i1, rfl, i2⟩
    obtain ⟨a1, a2⟩ := gi i i1
    refine ⟨n - 1 - (g i).2, by omega, a2.symm, fun j j1 j2 he => ?_⟩
    obtain ⟨q, q1, q2⟩ := gb (n - 1 - j) (by omega)
    have q3 : (g q).1.1 = (g i).1.1 := by rw [q2, a2]; show (F (n - 1 - (n - 1 - j))).1 = _; rw [show n - 1 - (n - 1 - j) = j by omega, he]
    have q4 : (g q).2 < (g i).2 := by rw [q2]; show n - 1 - j < _; omega
    have r1 : RT kl (g q) (g i) := Or.inr ⟨q3, q4⟩
    have qi : q < i := by
      rcases Nat.lt_or_ge q i with c | c
      · exact c
      · rcases Nat.eq_or_lt_of_le c with c | c
        · subst c; omega
        · exact absurd (RT_tr o _ _ _ r1 (S i q (Nat.zero_le _) c q1)) (RT_irr o _)
    have i3 := i2.resolve_left (by omega)
    have k1 : kl (g (i - 1)).1.1 (g i).1.1 = true := (keys_le o S (show i - 1 < i by omega) i1).resolve_right i3
    rcases Nat.lt_or_ge q (i - 1) with c | c
    · rcases keys_le o S c (by omega) with k2 | k2
      · have := o.tr _ _ _ k2 k1; rw [q3, o.irr] at this; cases this
      · rw [← k2, q3, o.irr] at k1; cases k1
    · have : q = i - 1 := by omega
      subst this; exact i3 q3
  · rintro ⟨k, k1, rfl, k2⟩
    obtain ⟨i, i1, i2⟩ := gb (n - 1 - k) (by omega)
    have i3 : (g i).1 = F k := by rw [i2]; show F (n - 1 - (n - 1 - k)) = _; rw [show n - 1 - (n - 1 - k) = k by omega]
    refine ⟨i, i1, i3, ?_⟩
    by_cases c : i = 0
    · exact Or.inl c
    · right
      intro he
      have he' : (g (i - 1)).1.1 = (g i).1.1 := he
      rcases S (i - 1) i (Nat.zero_le _) (by omega) i1 with d | ⟨_, d⟩
      · rw [he', o.irr] at d; cases d
      · obtain ⟨a1, a2⟩ := gi (i - 1) (by omega)
        rw [i2] at d
        have d' : (g (i - 1)).2 < n - 1 - k := d
        refine k2 (n - 1 - (g (i - 1)).2) (by omega) (by omega) ?_
        rw [← a2, he', i3]
end Go.Proofs.YtpbcbpiolhjlhaaGreatDoor.So


namespace Go.Proofs.YtpbcbpiolhjlhaaGreatDoor.So
open Go.RowKit
set_option linter.unusedVariables false
set_option linter.unusedSimpArgs false
/-! ### a row of tags (two texts each) in memory, by places -/
abbrev Tg := ByteArray × ByteArray
def TR (w : World) (b off n : Nat) (F : Nat → Tg) : Prop := b < w.heap.size ∧ ∀ k, k < n → (w.cell? ⟨b, off + k * 2, none⟩ = some (.string (F k).1) ∧ w.cell? ⟨b, off + k * 2 + 1, none⟩ = some (.string (F k).2)) ∧ w.frozen? ⟨b, off + k * 2, none⟩ = false ∧ w.frozen? ⟨b, off + k * 2 + 1, none⟩ = false
/-- nothing but block b (of those that were there) is another one. -/
structure OB (b : Nat) (w w' : World) : Prop where
  size : w.heap.size ≤ w'.heap.size
  keep : ∀ k, k < w.heap.size → k ≠ b → w'.heap[k]? = w.heap[k]?
  shp : ∀ (cur : Array Value) (e : TypeId), w.heap[b]? = some (.cells cur e (0, 0)) → ∃ cur' : Array Value, w'.heap[b]? = some (.cells cur' e (0, 0)) ∧ cur'.size = cur.size
  same : w'.os = w.os ∧ w'.tape = w.tape ∧ w'.output = w.output
theorem OB.refl (b : Nat) (w : World) : OB b w w := ⟨Nat.le_refl _, fun _ _ _ => rfl, fun cur _ h => ⟨cur, h, rfl⟩, rfl, rfl, rfl⟩
theorem OB.trans {b : Nat} {w w1 w2 : World} (h : OB b w w1) (k : OB b w1 w2) : OB b w w2 :=
  ⟨Nat.le_trans h.size k.size, fun j hj hn => by rw [k.keep j (Nat.lt_of_lt_of_le hj h.size) hn]; exact h.keep j hj hn, fun cur e hh => by
    obtain ⟨c1, h1, s1⟩ := h.shp cur e hh
    obtain ⟨c2, h2, s2⟩ := k.shp c1 e h1
    exact ⟨c2, h2, s2.trans s1⟩, k.same.1.trans h.same.1, k.same.2.1.trans h.same.2.1, k.same.2.2.trans h.same.2.2⟩
theorem OB.below {b : Nat} {w w' : World} (h : Below w.heap.size w w') : OB b w w' := ⟨h.size, fun k hk _ => h.block k hk, fun cur e hh => ⟨cur, by rw [h.block b (Array.getElem?_eq_some_iff.1 hh).1]; exact hh, rfl⟩, h.os, h.tape, h.output⟩
theorem OB.set {b : Nat} (w : World) (j : Nat) (v : Value) : OB b w (w.setCell ⟨b, j, none⟩ v) := ⟨by simp, fun k hk hn => Below.heap_setCell _ _ _ _ hn, fun cur e hh => ⟨_, heap_setCell_same w b j cur e v hh, by simp⟩, rfl, rfl, rfl⟩
theorem OB.into {B g : Nat} {w w1 w2 : World} (h : Below B w w1) (k : OB g w1 w2) (hg : B ≤ g) (hB : B ≤ w1.heap.size) : Below B w w2 :=
  ⟨k.same.1.trans h.os, k.same.2.1.trans h.tape, k.same.2.2.trans h.output, Nat.le_trans h.size k.size, fun i hi => (k.keep i (by omega) (by omega)).trans (h.block i hi)⟩
theorem TR.below {w w' : World} {b off n : Nat} {F : Nat → Tg} (h : TR w b off n F) (hb : Below w.heap.size w w') : TR w' b off n F := by
  refine ⟨Nat.lt_of_lt_of_le h.1 hb.size, fun k hk => ?_⟩
  obtain ⟨⟨h1, h2⟩, h3, h4⟩ := h.2 k hk
  exact ⟨⟨by rw [hb.cell (p := ⟨b, off + k * 2, none⟩) h.1]; exact h1, by rw [hb.cell (p := ⟨b, off + k * 2 + 1, none⟩) h.1]; exact h2⟩, by rw [hb.frozen (p := ⟨b, off + k * 2, none⟩) h.1]; exact h3, by rw [hb.frozen (p := ⟨b, off + k * 2 + 1, none⟩) h.1]; exact h4⟩
def upd (F : Nat → Tg) (i : Nat) (x : Tg) : Nat → Tg := fun k => if k = i then x else F k
theorem sw_upd2 (F : Nat → Tg) (i j : Nat) : sw F i j = upd (upd F i (F j)) j (F i) := by
  funext k; unfold sw upd
  repeat' split
  all_goals first | rfl | (exfalso; omega) | (congr 1; omega)
theorem far2 {w : World} {p q : Addr} {v : Value} (h : p ≠ q) : (w.setCell p v).cell? q = w.cell? q := World.cell?_setCell_other _ _ _ _ h
theorem TR.set {w : World} {b off n : Nat} {F : Nat → Tg} (h : TR w b off n F) {i : Nat} (hi : i < n) (x y : ByteArray) : TR ((w.setCell ⟨b, off + i * 2, none⟩ (.string x)).setCell ⟨b, off + i * 2 + 1, none⟩ (.string y)) b off n (upd F i (x, y)) := by
  refine ⟨by simpa using h.1, fun k hk => ?_⟩
  obtain ⟨⟨h1, h2⟩, h3, h4⟩ := h.2 k hk
  obtain ⟨⟨i1, i2⟩, i3, i4⟩ := h.2 i hi
  unfold upd
  by_cases c : k = i
  · subst c
    rw [if_pos rfl]
    simp [go_sem, h1, h2, h3, h4]
  · rw [if_neg c]
    have e1 : ¬ off + k * 2 = off + i * 2 := by omega
    have e2 : ¬ off + k * 2 = off + i * 2 + 1 := by omega
    have e3 : ¬ off + k * 2 + 1 = off + i * 2 := by omega
    have e4 : ¬ off + k * 2 + 1 = off + i * 2 + 1 := by omega
    refine ⟨⟨?_, ?_⟩, by simp [go_sem, h3], by simp [go_sem, h4]⟩
    · rw [far2 (by intro h; injection h; omega), far2 (by intro h; injection h; omega)]; exact h1
    · rw [far2 (by intro h; injection h; omega), far2 (by intro h; injection h; omega)]; exact h2
end Go.Proofs.YtpbcbpiolhjlhaaGreatDoor.So
