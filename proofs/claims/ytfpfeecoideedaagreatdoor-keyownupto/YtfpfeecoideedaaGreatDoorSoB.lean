
import Derived.Test.YtfpfeecoideedaaGreatDoorSoA
namespace Go.Proofs.YtfpfeecoideedaaGreatDoor.So
set_option linter.unusedVariables false
variable {α : Type} {R : α → α → Prop} {lt : α → α → Bool}
/-- [a, b) stands in order. -/
def Sd (R : α → α → Prop) (a b : Nat) (f : Nat → α) : Prop := ∀ i j, a ≤ i → i < j → j < b → R (f i) (f j)
/-- of [a, m) and [m, b) lt tells which is ahead. -/
def Xs (R : α → α → Prop) (lt : α → α → Bool) (a m b : Nat) (f : Nat → α) : Prop := ∀ i j, a ≤ i → i < m → m ≤ j → j < b → (lt (f j) (f i) = true → R (f j) (f i)) ∧ (lt (f j) (f i) = false → R (f i) (f j))
theorem Sd.sub {a b a' b' : Nat} {f : Nat → α} (h : Sd R a b f) (h1 : a ≤ a') (h2 : b' ≤ b) : Sd R a' b' f := fun i j x y z => h i j (by omega) y (by omega)
theorem Sd.up {a b : Nat} {f : Nat → α} (tr : ∀ x y z, R x y → R y z → R x z) (h : Sd R a b f) {i j : Nat} {x : α} (h1 : a ≤ i) (h2 : i ≤ j) (h3 : j < b) (hx : R x (f i)) : R x (f j) := by
  rcases Nat.lt_or_ge i j with c | c
  · exact tr _ _ _ hx (h i j h1 c h3)
  · have : i = j := by omega
    subst this; exact hx
theorem Sd.dn {a b : Nat} {f : Nat → α} (tr : ∀ x y z, R x y → R y z → R x z) (h : Sd R a b f) {i j : Nat} {x : α} (h1 : a ≤ i) (h2 : i ≤ j) (h3 : j < b) (hx : R (f j) x) : R (f i) x := by
  rcases Nat.lt_or_ge i j with c | c
  · exact tr _ _ _ (h i j h1 c h3) hx
  · have : i = j := by omega
    subst this; exact hx
theorem Sd.one (a : Nat) (f : Nat → α) : Sd R a (a + 1) f := fun i j x y z => by omega
theorem Sd.none {a b : Nat} (h : b ≤ a + 1) (f : Nat → α) : Sd R a b f := fun i j x y z => by omega
/-- two rows in order, all of the one ahead of all of the other. -/
theorem Sd.join {a m b : Nat} {f : Nat → α} (h1 : Sd R a m f) (h2 : Sd R m b f) (h : ∀ i j, a ≤ i → i < m → m ≤ j → j < b → R (f i) (f j)) : Sd R a b f := fun i j x y z => by
  by_cases c : j < m
  · exact h1 i j x y c
  · by_cases d : i < m
    · exact h i j x d (by omega) z
    · exact h2 i j (by omega) y z
/-- behind a turn of [s, m, e): where each place comes from. -/
theorem rot_at (f : Nat → α) {s m e : Nat} (h1 : s ≤ m) (h2 : m ≤ e) : (∀ k, k < s → rot f s m e k = f k) ∧ (∀ k, s ≤ k → k < s + (e - m) → rot f s m e k = f (k + (m - s))) ∧ (∀ k, s + (e - m) ≤ k → k < e → rot f s m e k = f (k - (e - m))) ∧ (∀ k, e ≤ k → rot f s m e k = f k) := by
  refine ⟨fun k h => ?_, fun k x y => ?_, fun k x y => ?_, fun k h => ?_⟩ <;> unfold rot
  · rw [if_neg (by omega), if_neg (by omega)]
  · rw [if_pos ⟨x, y⟩]
  · rw [if_neg (by omega), if_pos ⟨x, y⟩]
  · rw [if_neg (by omega), if_neg (by omega)]
/-! ### symMerge's middle -/
def s0 (a m b : Nat) : Nat := if (a + b) / 2 < m then (a + b) / 2 + m - b else a
def r0 (a m b : Nat) : Nat := if (a + b) / 2 < m then (a + b) / 2 else m
theorem s0_r0 {a m b : Nat} (h1 : a < m) (h2 : m < b) : s0 a m b ≤ r0 a m b ∧ a ≤ s0 a m b ∧ r0 a m b ≤ m ∧ r0 a m b ≤ (a + b) / 2 := by
  unfold s0 r0; split <;> omega
/-- the two places that are held against each other lie in their rows. -/
theorem s0_in {a m b c : Nat} (h1 : a < m) (h2 : m < b) (h3 : s0 a m b ≤ c) (h4 : c < r0 a m b) : a ≤ c ∧ c < m ∧ m ≤ (a + b) / 2 + m - 1 - c ∧ (a + b) / 2 + m - 1 - c < b := by
  unfold s0 at h3; unfold r0 at h4
  by_cases c0 : (a + b) / 2 < m
  · rw [if_pos c0] at h3 h4; omega
  · rw [if_neg c0] at h3 h4; omega
theorem s0_end {a m b s : Nat} (h1 : a < m) (h2 : m < b) (h3 : s0 a m b ≤ s) (h4 : s ≤ r0 a m b) : a ≤ s ∧ s ≤ m ∧ s ≤ (a + b) / 2 ∧ (a + b) / 2 ≤ (a + b) / 2 + m - s ∧ m ≤ (a + b) / 2 + m - s ∧ (a + b) / 2 + m - s ≤ b := by
  unfold s0 at h3; unfold r0 at h4
  by_cases c0 : (a + b) / 2 < m
  · rw [if_pos c0] at h3 h4; omega
  · rw [if_neg c0] at h3 h4; omega
/-- the search for the place: what it found at c tells of all on that side. -/
theorem find_lo (tr : ∀ x y z, R x y → R y z → R x z) {a m b : Nat} {f : Nat → α} (h1 : a < m) (h2 : m < b) (L : Sd R a m f) (M : Sd R m b f) {c : Nat} (h3 : s0 a m b ≤ c) (h4 : c < r0 a m b) (h : R (f c) (f ((a + b) / 2 + m - 1 - c))) :
    ∀ k, s0 a m b ≤ k → k ≤ c → R (f k) (f ((a + b) / 2 + m - 1 - k)) := fun k x y => by
  have i1 := s0_in h1 h2 h3 h4
  have i2 := s0_in h1 h2 x (by omega)
  exact M.up tr i1.2.2.1 (by omega) i2.2.2.2 (L.dn tr i2.1 y i1.2.1 h)
theorem find_hi (tr : ∀ x y z, R x y → R y z → R x z) {a m b : Nat} {f : Nat → α} (h1 : a < m) (h2 : m < b) (L : Sd R a m f) (M : Sd R m b f) {c : Nat} (h3 : s0 a m b ≤ c) (h4 : c < r0 a m b) (h : R (f ((a + b) / 2 + m - 1 - c)) (f c)) :
    ∀ k, c ≤ k → k < r0 a m b → R (f ((a + b) / 2 + m - 1 - k)) (f k) := fun k x y => by
  have i1 := s0_in h1 h2 h3 h4
  have i2 := s0_in h1 h2 (show s0 a m b ≤ k by omega) y
  exact M.dn tr i2.2.2.1 (by omega) i1.2.2.2 (L.up tr i1.1 x i2.2.1 h)
/-- the row turned at the place found: its two halves each two rows in order, all of the first half ahead of all of the second. -/
theorem mid_ok (tr : ∀ x y z, R x y → R y z → R x z) {a m b s : Nat} {f : Nat → α} (h1 : a < m) (h2 : m < b) (L : Sd R a m f) (M : Sd R m b f) (X : Xs R lt a m b f) (h3 : s0 a m b ≤ s) (h4 : s ≤ r0 a m b)
    (lo : ∀ c, s0 a m b ≤ c → c < s → R (f c) (f ((a + b) / 2 + m - 1 - c))) (hi : ∀ c, s ≤ c → c < r0 a m b → R (f ((a + b) / 2 + m - 1 - c)) (f c)) :
    (Sd R a s (rot f s m ((a + b) / 2 + m - s)) ∧ Sd R s ((a + b) / 2) (rot f s m ((a + b) / 2 + m - s)) ∧ Xs R lt a s ((a + b) / 2) (rot f s m ((a + b) / 2 + m - s))) ∧
    (Sd R ((a + b) / 2) ((a + b) / 2 + m - s) (rot f s m ((a + b) / 2 + m - s)) ∧ Sd R ((a + b) / 2 + m - s) b (rot f s m ((a + b) / 2 + m - s)) ∧ Xs R lt ((a + b) / 2) ((a + b) / 2 + m - s) b (rot f s m ((a + b) / 2 + m - s))) ∧
    (∀ i j, a ≤ i → i < (a + b) / 2 → (a + b) / 2 ≤ j → j < b → R (rot f s m ((a + b) / 2 + m - s) i) (rot f s m ((a + b) / 2 + m - s) j)) := by
  obtain ⟨e1, e2, e3, e4, e5, e6⟩ := s0_end h1 h2 h3 h4
  have q0 : s = s0 a m b → s = a ∨ (a + b) / 2 + m - s = b := fun e => by unfold s0 at e; split at e <;> omega
  have q1 : s = r0 a m b → s = (a + b) / 2 ∨ s = m := fun e => by unfold r0 at e; split at e <;> omega
  generalize hd : (a + b) / 2 = d at *
  generalize ht : d + m - s = t at *
  obtain ⟨g1, g2, g3, g4⟩ := rot_at f e2 e5
  have ed : s + (t - m) = d := by omega
  rw [ed] at g2 g3
  have cr1 : ∀ i j, a ≤ i → i < s → t ≤ j → j < b → R (f i) (f j) := fun i j x y z v => by
    rcases Nat.lt_or_ge (s0 a m b) s with c | c
    · have := lo (s - 1) (by omega) (by omega)
      rw [show d + m - 1 - (s - 1) = t by omega] at this
      exact M.up tr (by omega) z v (L.dn tr x (by omega) (by omega) this)
    · have := q0 (by omega); omega
  have cr2 : ∀ i j, m ≤ i → i < t → s ≤ j → j < m → R (f i) (f j) := fun i j x y z v => by
    rcases Nat.lt_or_ge s (r0 a m b) with c | c
    · have := hi s (by omega) c
      rw [show d + m - 1 - s = t - 1 by omega] at this
      exact M.dn tr x (by omega) (by omega) (L.up tr (by omega) z v this)
    · have := q1 (by omega); omega
  refine ⟨⟨fun i j x y z => ?_, fun i j x y z => ?_, fun i j x y z v => ?_⟩, ⟨fun i j x y z => ?_, fun i j x y z => ?_, fun i j x y z v => ?_⟩, fun i j x y z v => ?_⟩
  · rw [g1 i (by omega), g1 j z]; exact L i j x y (by omega)
  · rw [g2 i x (by omega), g2 j (by omega) z]; exact M _ _ (by omega) (by omega) (by omega)
  · rw [g1 i y, g2 j z v]; exact X _ _ x (by omega) (by omega) (by omega)
  · rw [g3 i x (by omega), g3 j (by omega) z]; exact L _ _ (by omega) (by omega) (by omega)
  · rw [g4 i x, g4 j (by omega)]; exact M i j (by omega) y z
  · rw [g3 i x y, g4 j z]; exact X _ _ (by omega) (by omega) (by omega) v
  · by_cases c : i < s
    · rw [g1 i c]
      by_cases e : j < t
      · rw [g3 j z e]; exact L _ _ x (by omega) (by omega)
      · rw [g4 j (by omega)]; exact cr1 i j x c (by omega) v
    · rw [g2 i (by omega) y]
      by_cases e : j < t
      · rw [g3 j z e]; exact cr2 _ _ (by omega) (by omega) (by omega) (by omega)
      · rw [g4 j (by omega)]; exact M _ _ (by omega) (by omega) v
/-- its two halves put into order, each in its own places: the whole. -/
theorem halves_ok {a d b : Nat} {f g h : Nat → α} (h1 : a ≤ d) (h2 : d ≤ b) (hx : ∀ i j, a ≤ i → i < d → d ≤ j → j < b → R (f i) (f j)) (p : Pr a d f g) (sg : Sd R a d g) (q : Pr d b g h) (sh : Sd R d b h) : Sd R a b h ∧ Pr a b f h := by
  refine ⟨Sd.join (fun i j x y z => ?_) sh fun i j x y z v => ?_, (p.wide (Nat.le_refl _) h2).trans (q.wide h1 (Nat.le_refl _))⟩
  · rw [q.out (by omega), q.out (by omega)]; exact sg i j x y z
  · rw [q.out (k := i) (by omega)]
    have k1 : ∀ k, a ≤ k → k < d → R (g k) (h j) := p.all (P := fun e => R e (h j)) fun k x y => by
      have : ∀ l, d ≤ l → l < b → R (f k) (h l) := q.all (P := fun e => R (f k) e) fun l x' y' => by rw [p.out (by omega)]; exact hx k l x y x' y'
      exact this j z v
    exact k1 i x y
end Go.Proofs.YtfpfeecoideedaaGreatDoor.So
