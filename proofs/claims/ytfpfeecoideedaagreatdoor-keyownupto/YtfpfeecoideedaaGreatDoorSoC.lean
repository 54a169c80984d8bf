
import Derived.Test.YtfpfeecoideedaaGreatDoorSoB
namespace Go.Proofs.YtfpfeecoideedaaGreatDoor.So
set_option linter.unusedVariables false
variable {α : Type} {R : α → α → Prop} {lt : α → α → Bool}
/-! ### one entry moved: up to the place ahead of i, or down to i -/
theorem rot_start (f : Nat → α) (a : Nat) : rot f a (a + 1) (a + 1) = f := rot_none f (Or.inr rfl) (by omega) (Nat.le_refl _)
theorem rot_end (f : Nat → α) (m : Nat) : rot f m m (m + 1) = f := rot_none f (Or.inl rfl) (Nat.le_refl _) (by omega)
theorem rot_fwd (f : Nat → α) (a k : Nat) (h : a ≤ k) : sw (rot f a (a + 1) (k + 1)) k (k + 1) = rot f a (a + 1) (k + 2) := by
  funext x
  unfold sw rot
  repeat' split
  all_goals first | rfl | (exfalso; omega) | (congr 1; omega)
theorem rot_bwd (f : Nat → α) (m k : Nat) (h0 : 0 < k) (h : k ≤ m) : sw (rot f k m (m + 1)) k (k - 1) = rot f (k - 1) m (m + 1) := by
  funext x
  unfold sw rot
  repeat' split
  all_goals first | rfl | (exfalso; omega) | (congr 1; omega)
theorem sw_comm (f : Nat → α) (i j : Nat) : sw f i j = sw f j i := by
  funext x
  unfold sw
  repeat' split
  all_goals first | rfl | (exfalso; omega) | (congr 1; omega)
/-- the entry moved down lies at its place. -/
theorem rot_bwd_at (f : Nat → α) {k m : Nat} (h : k ≤ m) : rot f k m (m + 1) k = f m ∧ ∀ x, x < k → rot f k m (m + 1) x = f x := by
  refine ⟨?_, fun x hx => ?_⟩ <;> unfold rot
  · rw [if_pos (by omega)]; congr 1; omega
  · rw [if_neg (by omega), if_neg (by omega)]
theorem one_up {a b i : Nat} {f : Nat → α} (h1 : a + 1 ≤ i) (h2 : i ≤ b) (S : Sd R (a + 1) b f) (lo : ∀ k, a + 1 ≤ k → k < i → R (f k) (f a)) (hi : ∀ k, i ≤ k → k < b → R (f a) (f k)) : Sd R a b (rot f a (a + 1) i) := fun x y c d e => by
  obtain ⟨g1, g2, g3, g4⟩ := rot_at f (show a ≤ a + 1 by omega) h1
  have hx : rot f a (a + 1) i x = if x < i - 1 then f (x + 1) else if x < i then f a else f x := by
    split
    · rw [g2 x c (by omega)]; congr 1; omega
    · split
      · rw [g3 x (by omega) (by omega)]; congr 1; omega
      · rw [g4 x (by omega)]
  have hy : rot f a (a + 1) i y = if y < i - 1 then f (y + 1) else if y < i then f a else f y := by
    split
    · rw [g2 y (by omega) (by omega)]; congr 1; omega
    · split
      · rw [g3 y (by omega) (by omega)]; congr 1; omega
      · rw [g4 y (by omega)]
  rw [hx, hy]
  split
  · split
    · exact S _ _ (by omega) (by omega) (by omega)
    · split
      · exact lo _ (by omega) (by omega)
      · exact S _ _ (by omega) (by omega) (by omega)
  · split
    · split
      · omega
      · split
        · omega
        · exact hi _ (by omega) e
    · split
      · omega
      · split
        · omega
        · exact S _ _ (by omega) d e
theorem one_dn {a m i : Nat} {f : Nat → α} (h1 : a ≤ i) (h2 : i ≤ m) (S : Sd R a m f) (lo : ∀ k, a ≤ k → k < i → R (f k) (f m)) (hi : ∀ k, i ≤ k → k < m → R (f m) (f k)) : Sd R a (m + 1) (rot f i m (m + 1)) := fun x y c d e => by
  obtain ⟨g1, g2, g3, g4⟩ := rot_at f h2 (show m ≤ m + 1 by omega)
  have hx : rot f i m (m + 1) x = if x < i then f x else if x = i then f m else f (x - 1) := by
    split
    · rw [g1 x (by omega)]
    · split
      · rw [g2 x (by omega) (by omega)]; congr 1; omega
      · rw [g3 x (by omega) (by omega)]; congr 1; omega
  have hy : rot f i m (m + 1) y = if y < i then f y else if y = i then f m else f (y - 1) := by
    split
    · rw [g1 y (by omega)]
    · split
      · rw [g2 y (by omega) (by omega)]; congr 1; omega
      · rw [g3 y (by omega) (by omega)]; congr 1; omega
  rw [hx, hy]
  split
  · split
    · exact S _ _ c d (by omega)
    · split
      · exact lo _ c (by omega)
      · exact S _ _ c (by omega) (by omega)
  · split
    · split
      · omega
      · split
        · omega
        · exact hi _ (by omega) (by omega)
    · split
      · omega
      · split
        · omega
        · exact S _ _ (by omega) (by omega) (by omega)
/-! ### which is ahead, across a cut -/
theorem Xs.sub {a m b a' b' : Nat} {f : Nat → α} (h : Xs R lt a m b f) (h1 : a ≤ a') (h2 : b' ≤ b) : Xs R lt a' m b' f := fun i j x y z v => h i j (by omega) y z (by omega)
theorem Xs.pr {n c x y : Nat} {f g : Nat → α} (h : Xs R lt 0 c n f) (p : Pr x y f g) (hc : c ≤ x ∨ y ≤ c) (hy : y ≤ n) : Xs R lt 0 c n g := by
  rcases hc with hc | hc
  · intro i j _ i2 j1 j2
    rw [p.out (k := i) (by omega)]
    have : ∀ k, c ≤ k → k < n → (lt (g k) (f i) = true → R (g k) (f i)) ∧ (lt (g k) (f i) = false → R (f i) (g k)) :=
      (p.wide hc hy).all (P := fun e => (lt e (f i) = true → R e (f i)) ∧ (lt e (f i) = false → R (f i) e)) fun k k1 k2 => h i k (Nat.zero_le _) i2 k1 k2
    exact this j j1 j2
  · intro i j _ i2 j1 j2
    rw [p.out (k := j) (by omega)]
    have : ∀ k, 0 ≤ k → k < c → (lt (f j) (g k) = true → R (f j) (g k)) ∧ (lt (f j) (g k) = false → R (g k) (f j)) :=
      (p.wide (Nat.zero_le _) hc).all (P := fun e => (lt (f j) e = true → R (f j) e) ∧ (lt (f j) e = false → R e (f j))) fun k k1 k2 => h k j k1 k2 j1 j2
    exact this i (Nat.zero_le _) i2
/-- cut at all multiples of s. -/
def Cut (R : α → α → Prop) (lt : α → α → Bool) (s n : Nat) (f : Nat → α) : Prop := ∀ q, Xs R lt 0 (q * s) n f
theorem Cut.twice {s n : Nat} {f : Nat → α} (h : Cut R lt s n f) : Cut R lt (s * 2) n f := fun q => by
  have := h (q * 2)
  rw [show q * 2 * s = q * (s * 2) by rw [Nat.mul_assoc, Nat.mul_comm 2 s]] at this; exact this
theorem Cut.pr {s n p x y : Nat} {f g : Nat → α} (h : Cut R lt s n f) (hp : Pr x y f g) (hx : p * s ≤ x) (hy : y ≤ (p + 1) * s) (hn : y ≤ n) : Cut R lt s n g := fun q => by
  refine (h q).pr hp ?_ hn
  rcases Nat.lt_or_ge p q with c | c
  · exact Or.inr (Nat.le_trans hy (Nat.mul_le_mul_right s c))
  · exact Or.inl (Nat.le_trans (Nat.mul_le_mul_right s c) hx)
/-- at the start: lt tells R of any two. -/
def Xall (R : α → α → Prop) (lt : α → α → Bool) (n : Nat) (f : Nat → α) : Prop := ∀ i j, i < j → j < n → (lt (f j) (f i) = true → R (f j) (f i)) ∧ (lt (f j) (f i) = false → R (f i) (f j))
theorem Xall.cut {n : Nat} {f : Nat → α} (h : Xall R lt n f) (s : Nat) : Cut R lt s n f := fun q i j x y z v => h i j (by omega) v
/-- blocks of s in order, up to x. -/
def Blk (R : α → α → Prop) (s n x : Nat) (f : Nat → α) : Prop := ∀ q, q * s < x → Sd R (q * s) (min ((q + 1) * s) n) f
/-- one block, all: in order. -/
theorem Blk.whole {s n : Nat} {f : Nat → α} (h : Blk R s n n f) (hs : n ≤ s) : Sd R 0 n f := by
  rcases Nat.eq_zero_or_pos n with h0 | h0
  · subst h0; exact fun i j x y z => by omega
  · have := h 0 (by omega)
    rw [Nat.zero_mul, Nat.min_eq_right (by omega)] at this; exact this
theorem Blk.zero (s n : Nat) (f : Nat → α) : Blk R s n 0 f := fun q h => by omega
/-- the block p put into order: those ahead of it stay. -/
theorem Blk.more {s n p : Nat} {f g : Nat → α} (h : Blk R s n (p * s) f) (hp : Pr (p * s) (min ((p + 1) * s) n) f g) (hg : Sd R (p * s) (min ((p + 1) * s) n) g) : Blk R s n ((p + 1) * s) g := fun q hq => by
  rcases Nat.lt_or_ge q p with c | c
  · have h1 : (q + 1) * s ≤ p * s := Nat.mul_le_mul_right s c
    have h2 : q * s < p * s := by
      rcases Nat.eq_zero_or_pos s with e | e
      · subst e; omega
      · exact Nat.mul_lt_mul_of_pos_right c e
    intro i j x y z
    rw [hp.out (k := i) (by omega), hp.out (k := j) (by omega)]
    exact h q h2 i j x y z
  · have : q = p := by
      rcases Nat.lt_or_ge p q with d | d
      · have : (p + 1) * s ≤ q * s := Nat.mul_le_mul_right s d
        omega
      · omega
    subst this; exact hg
/-- the first p pairs of blocks of s are merged. -/
def Mrg (R : α → α → Prop) (s n p : Nat) (f : Nat → α) : Prop := (∀ q, q < p → Sd R (q * (s * 2)) (min ((q + 1) * (s * 2)) n) f) ∧ ∀ q, 2 * p ≤ q → Sd R (q * s) (min ((q + 1) * s) n) f
theorem Blk.mrg {s n : Nat} {f : Nat → α} (h : Blk R s n n f) : Mrg R s n 0 f := ⟨fun q hq => by omega, fun q _ => by
  rcases Nat.lt_or_ge (q * s) n with c | c
  · exact h q c
  · exact Sd.none (by omega) f⟩
theorem Mrg.parts {s n p : Nat} {f : Nat → α} (h : Mrg R s n p f) : Sd R (p * (s * 2)) (min (p * (s * 2) + s) n) f ∧ Sd R (p * (s * 2) + s) (min (p * (s * 2) + s * 2) n) f := by
  have e1 : 2 * p * s = p * (s * 2) := by rw [Nat.mul_comm 2 p, Nat.mul_assoc, Nat.mul_comm 2 s]
  have h1 := h.2 (2 * p) (Nat.le_refl _)
  have h2 := h.2 (2 * p + 1) (by omega)
  rw [Nat.add_mul, e1, Nat.one_mul] at h1
  rw [Nat.add_mul (2 * p + 1) 1, Nat.add_mul, e1, Nat.one_mul] at h2
  refine ⟨h1, ?_⟩
  rw [show p * (s * 2) + s * 2 = p * (s * 2) + s + s by omega]; exact h2
theorem Mrg.more {s n p : Nat} {f g : Nat → α} (h : Mrg R s n p f) (hp : Pr (p * (s * 2)) (min (p * (s * 2) + s * 2) n) f g) (hg : Sd R (p * (s * 2)) (min (p * (s * 2) + s * 2) n) g) : Mrg R s n (p + 1) g := by
  have e1 : (p + 1) * (s * 2) = p * (s * 2) + s * 2 := by rw [Nat.add_mul, Nat.one_mul]
  refine ⟨fun q hq => ?_, fun q hq => ?_⟩
  · rcases Nat.lt_or_ge q p with c | c
    · have h1 : (q + 1) * (s * 2) ≤ p * (s * 2) := Nat.mul_le_mul_right _ c
      intro i j x y z
      rw [hp.out (k := i) (by omega), hp.out (k := j) (by omega)]
      exact h.1 q c i j x y z
    · have : q = p := by omega
      subst this; rw [e1]; exact hg
  · have h1 : p * (s * 2) + s * 2 ≤ q * s := by
      have := Nat.mul_le_mul_right s hq
      rw [show 2 * (p + 1) * s = (p + 1) * (s * 2) by rw [Nat.mul_comm 2 (p + 1), Nat.mul_assoc, Nat.mul_comm 2 s], e1] at this
      exact this
    intro i j x y z
    rw [hp.out (k := i) (by omega), hp.out (k := j) (by omega)]
    exact h.2 q (by omega) i j x y z
theorem Mrg.done {s n p : Nat} {f : Nat → α} (h : Mrg R s n p f) (hp : n ≤ p * (s * 2)) : Blk R (s * 2) n n f := fun q hq => by
  rcases Nat.lt_or_ge q p with c | c
  · exact h.1 q c
  · have := Nat.mul_le_mul_right (s * 2) c; omega
end Go.Proofs.YtfpfeecoideedaaGreatDoor.So
