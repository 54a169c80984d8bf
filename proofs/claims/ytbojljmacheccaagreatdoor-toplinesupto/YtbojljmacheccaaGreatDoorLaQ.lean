
import Derived.Test.YtbojljmacheccaaGreatDoorZz
import Derived.Test.YtbojljmacheccaaGreatDoorProg
import Derived.ProofKit
import Derived.OpenShut
import Derived.Shelf.RegionOpen
import Derived.WalkKit
import Derived.BigQuiet
import Derived.BigRegion
import Derived.LoopTactic
import Derived.Below
import Derived.Deep.RegionHeld3
import Derived.WalkLawsBesides
namespace Go.Proofs.YtbojljmacheccaaGreatDoor.So
/-! ### plain: rows that are swapped, turned and merged in place (what slices.SortStableFunc does) -/
set_option linter.unusedVariables false
variable {α : Type}
/-- g is f with the places of [a, b) in another order. -/
def Pr (a b : Nat) (f g : Nat → α) : Prop := ∃ s t : Nat → Nat, (∀ k, g k = f (s k)) ∧ (∀ k, a ≤ k → k < b → a ≤ s k ∧ s k < b) ∧ (∀ k, ¬ (a ≤ k ∧ k < b) → s k = k) ∧ (∀ k, s (t k) = k) ∧ (∀ k, t (s k) = k)
theorem Pr.refl (a b : Nat) (f : Nat → α) : Pr a b f f := ⟨id, id, fun _ => rfl, fun k h1 h2 => ⟨h1, h2⟩, fun _ _ => rfl, fun _ => rfl, fun _ => rfl⟩
theorem Pr.trans {a b : Nat} {f g h : Nat → α} (x : Pr a b f g) (y : Pr a b g h) : Pr a b f h := by
  obtain ⟨s, t, x1, x2, x3, x4, x5⟩ := x
  obtain ⟨s', t', y1, y2, y3, y4, y5⟩ := y
  refine ⟨fun k => s (s' k), fun k => t' (t k), fun k => by rw [y1, x1], fun k h1 h2 => ?_, fun k h => ?_, fun k => by show s (s' (t' (t k))) = k; rw [y4, x4], fun k => by show t' (t (s (s' k))) = k; rw [x5, y5]⟩
  · have := y2 k h1 h2; exact x2 _ this.1 this.2
  · show s (s' k) = k; rw [y3 k h, x3 k h]
theorem Pr.wide {a b a' b' : Nat} {f g : Nat → α} (x : Pr a b f g) (h1 : a' ≤ a) (h2 : b ≤ b') : Pr a' b' f g := by
  obtain ⟨s, t, x1, x2, x3, x4, x5⟩ := x
  refine ⟨s, t, x1, fun k h3 h4 => ?_, fun k h => x3 k (by omega), x4, x5⟩
  by_cases h : a ≤ k ∧ k < b
  · have := x2 k h.1 h.2; omega
  · rw [x3 k h]; omega
theorem Pr.out {a b : Nat} {f g : Nat → α} (x : Pr a b f g) {k : Nat} (h : ¬ (a ≤ k ∧ k < b)) : g k = f k := by
  obtain ⟨s, t, x1, x2, x3, x4, x5⟩ := x
  rw [x1, x3 k h]
theorem Pr.all {a b : Nat} {f g : Nat → α} (x : Pr a b f g) {P : α → Prop} (h : ∀ k, a ≤ k → k < b → P (f k)) (k : Nat) (h1 : a ≤ k) (h2 : k < b) : P (g k) := by
  obtain ⟨s, t, x1, x2, x3, x4, x5⟩ := x
  have := x2 k h1 h2
  rw [x1]; exact h _ this.1 this.2
theorem Pr.back {a b : Nat} {f g : Nat → α} (x : Pr a b f g) (k : Nat) (h1 : a ≤ k) (h2 : k < b) : ∃ j, a ≤ j ∧ j < b ∧ g j = f k := by
  obtain ⟨s, t, x1, x2, x3, x4, x5⟩ := x
  refine ⟨t k, ?_⟩
  by_cases h : a ≤ t k ∧ t k < b
  · exact ⟨h.1, h.2, by rw [x1, x4]⟩
  · have := x3 _ h
    rw [x4] at this
    omega
/-! ### swaps -/
def sw (f : Nat → α) (i j : Nat) : Nat → α := fun k => if k = i then f j else if k = j then f i else f k
/-- two ranges of n places, apart, swapped. -/
def swR (f : Nat → α) (x y n : Nat) : Nat → α := fun k => if x ≤ k ∧ k < x + n then f (k - x + y) else if y ≤ k ∧ k < y + n then f (k - y + x) else f k
theorem swR_zero (f : Nat → α) (x y : Nat) : swR f x y 0 = f := by
  funext k; unfold swR; rw [if_neg (by omega), if_neg (by omega)]
theorem swR_succ (f : Nat → α) (x y n : Nat) (h : x + n < y) : sw (swR f x y n) (x + n) (y + n) = swR f x y (n + 1) := by
  funext k
  unfold sw swR
  repeat' split
  all_goals first | rfl | (exfalso; omega) | (congr 1; omega)
/-! ### a row turned: [a, m) and [m, b) change places -/
def rot (f : Nat → α) (a m b : Nat) : Nat → α := fun k => if a ≤ k ∧ k < a + (b - m) then f (k + (m - a)) else if a + (b - m) ≤ k ∧ k < b then f (k - (b - m)) else f k
theorem rot_pr (f : Nat → α) {a m b : Nat} (h1 : a ≤ m) (h2 : m ≤ b) : Pr a b f (rot f a m b) := by
  refine ⟨fun k => if a ≤ k ∧ k < a + (b - m) then k + (m - a) else if a + (b - m) ≤ k ∧ k < b then k - (b - m) else k, fun k => if a ≤ k ∧ k < a + (m - a) then k + (b - m) else if a + (m - a) ≤ k ∧ k < b then k - (m - a) else k, fun k => ?_, fun k x y => ?_, fun k x => ?_, fun k => ?_, fun k => ?_⟩
  · unfold rot; dsimp only; split
    · rfl
    · split <;> rfl
  · dsimp only; split <;> (try split) <;> omega
  · dsimp only; rw [if_neg (by omega), if_neg (by omega)]
  · dsimp only; split <;> (try split) <;> (try split) <;> (try split) <;> omega
  · dsimp only; split <;> (try split) <;> (try split) <;> (try split) <;> omega
theorem rot_none (f : Nat → α) {a m b : Nat} (h : a = m ∨ m = b) (h1 : a ≤ m) (h2 : m ≤ b) : rot f a m b = f := by
  funext k
  unfold rot
  split
  · rename_i hk; rcases h with h | h
    · congr 1; omega
    · omega
  · split
    · rename_i hk; rcases h with h | h
      · omega
      · congr 1; omega
    · rfl
theorem rot_more (f : Nat → α) {a m b : Nat} (h1 : a ≤ m) (h2 : m ≤ b) (h : b - m < m - a) : rot (swR f a m (b - m)) (a + (b - m)) m b = rot f a m b := by
  funext k
  unfold rot swR
  repeat' split
  all_goals first | rfl | (exfalso; omega) | (congr 1; omega)
theorem rot_less (f : Nat → α) {a m b : Nat} (h1 : a ≤ m) (h2 : m ≤ b) (h : m - a < b - m) : rot (swR f a (b - (m - a)) (m - a)) a m (b - (m - a)) = rot f a m b := by
  funext k
  unfold rot swR
  repeat' split
  all_goals first | rfl | (exfalso; omega) | (congr 1; omega)
theorem rot_even (f : Nat → α) {a m b : Nat} (h1 : a ≤ m) (h2 : m ≤ b) (h : m - a = b - m) : swR f a m (m - a) = rot f a m b := by
  funext k
  unfold rot swR
  repeat' split
  all_goals first | rfl | (exfalso; omega) | (congr 1; omega)
end Go.Proofs.YtbojljmacheccaaGreatDoor.So

namespace Go.Proofs.YtbojljmacheccaaGreatDoor.So
set_option linter.unusedVariables false
variable {α : Type} {R : α → α → Prop} {lt : α → α → Bool}
/-- [a, b) stands in order. -/
def Sd (R : α → α → Prop) (a b : Nat) (f : Nat → α) : Prop := ∀ i j, a ≤ i → i < j → j < b → R (f i) (f j)
/-- of [a, m) and [m, b) lt tells which is ahead. -/
def Xs (R : α → α → Prop) (lt : α → α → Bool) (a m b : Nat) (f : Nat → α) : Prop := ∀ i j, a ≤ i → i < m → m ≤ j → j < b → (lt (f j) (f i) = true → R (f j) (f i)) ∧ (lt (f j) (f i) = false → R (f i) (f j))
theorem Sd.sub {a b a' b' : Nat} {f : Nat → α} (h : Sd R a b f) (h1 : a ≤ a') (h2 : b' ≤ b) : Sd R a' b' f := fun i j x y z => h i j (by omega) y (by omega)
theorem Sd.up {a b : Nat} {f : Nat → α} (tr : ∀ x y z, R x y → R y z → R x z) (h : Sd R a b f) {i j : Nat} {x : α} (h1 : a ≤ i) (h2 : i ≤ j) (h3 : j < b) (hx : R x (f i)) : R x (f j) := by
  rcases Nat.lt_or_ge i j with c | c
  · exact tr _ _ _ hx (h i j h1 c h3)
  · have : i = j := by omega
    subst this; exact hx
theorem Sd.dn {a b : Nat} {f : Nat → α} (tr : ∀ x y z, R x y → R y z → R x z) (h : Sd R a b f) {i j : Nat} {x : α} (h1 : a ≤ i) (h2 : i ≤ j) (h3 : j < b) (hx : R (f j) x) : R (f i) x := by
  rcases Nat.lt_or_ge i j with c | c
  · exact tr _ _ _ (h i j h1 c h3) hx
  · have : i = j := by omega
    subst this; exact hx
theorem Sd.one (a : Nat) (f : Nat → α) : Sd R a (a + 1) f := fun i j x y z => by omega
theorem Sd.none {a b : Nat} (h : b ≤ a + 1) (f : Nat → α) : Sd R a b f := fun i j x y z => by omega
/-- two rows in order, all of the one ahead of all of the other. -/
theorem Sd.join {a m b : Nat} {f : Nat → α} (h1 : Sd R a m f) (h2 : Sd R m b f) (h : ∀ i j, a ≤ i → i < m → m ≤ j → j < b → R (f i) (f j)) : Sd R a b f := fun i j x y z => by
  by_cases c : j < m
  · exact h1 i j x y c
  · by_cases d : i < m
    · exact h i j x d (by omega) z
    · exact h2 i j (by omega) y z
/-- behind a turn of [s, m, e): where each place comes from. -/
theorem rot_at (f : Nat → α) {s m e : Nat} (h1 : s ≤ m) (h2 : m ≤ e) : (∀ k, k < s → rot f s m e k = f k) ∧ (∀ k, s ≤ k → k < s + (e - m) → rot f s m e k = f (k + (m - s))) ∧ (∀ k, s + (e - m) ≤ k → k < e → rot f s m e k = f (k - (e - m))) ∧ (∀ k, e ≤ k → rot f s m e k = f k) := by
  refine ⟨fun k h => ?_, fun k x y => ?_, fun k x y => ?_, fun k h => ?_⟩ <;> unfold rot
  · rw [if_neg (by omega), if_neg (by omega)]
  · rw [if_pos ⟨x, y⟩]
  · rw [if_neg (by omega), if_pos ⟨x, y⟩]
  · rw [if_neg (by omega), if_neg (by omega)]
/-! ### symMerge's middle -/
def s0 (a m b : Nat) : Nat := if (a + b) / 2 < m then (a + b) / 2 + m - b else a
def r0 (a m b : Nat) : Nat := if (a + b) / 2 < m then (a + b) / 2 else m
theorem s0_r0 {a m b : Nat} (h1 : a < m) (h2 : m < b) : s0 a m b ≤ r0 a m b ∧ a ≤ s0 a m b ∧ r0 a m b ≤ m ∧ r0 a m b ≤ (a + b) / 2 := by
  unfold s0 r0; split <;> omega
/-- the two places that are held against each other lie in their rows. -/
theorem s0_in {a m b c : Nat} (h1 : a < m) (h2 : m < b) (h3 : s0 a m b ≤ c) (h4 : c < r0 a m b) : a ≤ c ∧ c < m ∧ m ≤ (a + b) / 2 + m - 1 - c ∧ (a + b) / 2 + m - 1 - c < b := by
  unfold s0 at h3; unfold r0 at h4
  by_cases c0 : (a + b) / 2 < m
  · rw [if_pos c0] at h3 h4; omega
  · rw [if_neg c0] at h3 h4; omega
theorem s0_end {a m b s : Nat} (h1 : a < m) (h2 : m < b) (h3 : s0 a m b ≤ s) (h4 : s ≤ r0 a m b) : a ≤ s ∧ s ≤ m ∧ s ≤ (a + b) / 2 ∧ (a + b) / 2 ≤ (a + b) / 2 + m - s ∧ m ≤ (a + b) / 2 + m - s ∧ (a + b) / 2 + m - s ≤ b := by
  unfold s0 at h3; unfold r0 at h4
  by_cases c0 : (a + b) / 2 < m
  · rw [if_pos c0] at h3 h4; omega
  · rw [if_neg c0] at h3 h4; omega
/-- the search for the place: what it found at c tells of all on that side. -/
theorem find_lo (tr : ∀ x y z, R x y → R y z → R x z) {a m b : Nat} {f : Nat → α} (h1 : a < m) (h2 : m < b) (L : Sd R a m f) (M : Sd R m b f) {c : Nat} (h3 : s0 a m b ≤ c) (h4 : c < r0 a m b) (h : R (f c) (f ((a + b) / 2 + m - 1 - c))) :
    ∀ k, s0 a m b ≤ k → k ≤ c → R (f k) (f ((a + b) / 2 + m - 1 - k)) := fun k x y => by
  have i1 := s0_in h1 h2 h3 h4
  have i2 := s0_in h1 h2 x (by omega)
  exact M.up tr i1.2.2.1 (by omega) i2.2.2.2 (L.dn tr i2.1 y i1.2.1 h)
theorem find_hi (tr : ∀ x y z, R x y → R y z → R x z) {a m b : Nat} {f : Nat → α} (h1 : a < m) (h2 : m < b) (L : Sd R a m f) (M : Sd R m b f) {c : Nat} (h3 : s0 a m b ≤ c) (h4 : c < r0 a m b) (h : R (f ((a + b) / 2 + m - 1 - c)) (f c)) :
    ∀ k, c ≤ k → k < r0 a m b → R (f ((a + b) / 2 + m - 1 - k)) (f k) := fun k x y => by
  have i1 := s0_in h1 h2 h3 h4
  have i2 := s0_in h1 h2 (show s0 a m b ≤ k by omega) y
  exact M.dn tr i2.2.2.1 (by omega) i1.2.2.2 (L.up tr i1.1 x i2.2.1 h)
/-- the row turned at the place found: its two halves each two rows in order, all of the first half ahead of all of the second. -/
theorem mid_ok (tr : ∀ x y z, R x y → R y z → R x z) {a m b s : Nat} {f : Nat → α} (h1 : a < m) (h2 : m < b) (L : Sd R a m f) (M : Sd R m b f) (X : Xs R lt a m b f) (h3 : s0 a m b ≤ s) (h4 : s ≤ r0 a m b)
    (lo : ∀ c, s0 a m b ≤ c → c < s → R (f c) (f ((a + b) / 2 + m - 1 - c))) (hi : ∀ c, s ≤ c → c < r0 a m b → R (f ((a + b) / 2 + m - 1 - c)) (f c)) :
    (Sd R a s (rot f s m ((a + b) / 2 + m - s)) ∧ Sd R s ((a + b) / 2) (rot f s m ((a + b) / 2 + m - s)) ∧ Xs R lt a s ((a + b) / 2) (rot f s m ((a + b) / 2 + m - s))) ∧
    (Sd R ((a + b) / 2) ((a + b) / 2 + m - s) (rot f s m ((a + b) / 2 + m - s)) ∧ Sd R ((a + b) / 2 + m - s) b (rot f s m ((a + b) / 2 + m - s)) ∧ Xs R lt ((a + b) / 2) ((a + b) / 2 + m - s) b (rot f s m ((a + b) / 2 + m - s))) ∧
    (∀ i j, a ≤ i → i < (a + b) / 2 → (a + b) / 2 ≤ j → j < b → R (rot f s m ((a + b) / 2 + m - s) i) (rot f s m ((a + b) / 2 + m - s) j)) := by
  obtain ⟨e1, e2, e3, e4, e5, e6⟩ := s0_end h1 h2 h3 h4
  have q0 : s = s0 a m b → s = a ∨ (a + b) / 2 + m - s = b := fun e => by unfold s0 at e; split at e <;> omega
  have q1 : s = r0 a m b → s = (a + b) / 2 ∨ s = m := fun e => by unfold r0 at e; split at e <;> omega
  generalize hd : (a + b) / 2 = d at *
  generalize ht : d + m - s = t at *
  obtain ⟨g1, g2, g3, g4⟩ := rot_at f e2 e5
  have ed : s + (t - m) = d := by omega
  rw [ed] at g2 g3
  have cr1 : ∀ i j, a ≤ i → i < s → t ≤ j → j < b → R (f i) (f j) := fun i j x y z v => by
    rcases Nat.lt_or_ge (s0 a m b) s with c | c
    · have := lo (s - 1) (by omega) (by omega)
      rw [show d + m - 1 - (s - 1) = t by omega] at this
      exact M.up tr (by omega) z v (L.dn tr x (by omega) (by omega) this)
    · have := q0 (by omega); omega
  have cr2 : ∀ i j, m ≤ i → i < t → s ≤ j → j < m → R (f i) (f j) := fun i j x y z v => by
    rcases Nat.lt_or_ge s (r0 a m b) with c | c
    · have := hi s (by omega) c
      rw [show d + m - 1 - s = t - 1 by omega] at this
      exact M.dn tr x (by omega) (by omega) (L.up tr (by omega) z v this)
    · have := q1 (by omega); omega
  refine ⟨⟨fun i j x y z => ?_, fun i j x y z => ?_, fun i j x y z v => ?_⟩, ⟨fun i j x y z => ?_, fun i j x y z => ?_, fun i j x y z v => ?_⟩, fun i j x y z v => ?_⟩
  · rw [g1 i (by omega), g1 j z]; exact L i j x y (by omega)
  · rw [g2 i x (by omega), g2 j (by omega) z]; exact M _ _ (by omega) (by omega) (by omega)
  · rw [g1 i y, g2 j z v]; exact X _ _ x (by omega) (by omega) (by omega)
  · rw [g3 i x (by omega), g3 j (by omega) z]; exact L _ _ (by omega) (by omega) (by omega)
  · rw [g4 i x, g4 j (by omega)]; exact M i j (by omega) y z
  · rw [g3 i x y, g4 j z]; exact X _ _ (by omega) (by omega) (by omega) v
  · by_cases c : i < s
    · rw [g1 i c]
      by_cases e : j < t
      · rw [g3 j z e]; exact L _ _ x (by omega) (by omega)
      · rw [g4 j (by omega)]; exact cr1 i j x c (by omega) v
    · rw [g2 i (by omega) y]
      by_cases e : j < t
      · rw [g3 j z e]; exact cr2 _ _ (by omega) (by omega) (by omega) (by omega)
      · rw [g4 j (by omega)]; exact M _ _ (by omega) (by omega) v
/-- its two halves put into order, each in its own places: the whole. -/
theorem halves_ok {a d b : Nat} {f g h : Nat → α} (h1 : a ≤ d) (h2 : d ≤ b) (hx : ∀ i j, a ≤ i → i < d → d ≤ j → j < b → R (f i) (f j)) (p : Pr a d f g) (sg : Sd R a d g) (q : Pr d b g h) (sh : Sd R d b h) : Sd R a b h ∧ Pr a b f h := by
  refine ⟨Sd.join (fun i j x y z => ?_) sh fun i j x y z v => ?_, (p.wide (Nat.le_refl _) h2).trans (q.wide h1 (Nat.le_refl _))⟩
  · rw [q.out (by omega), q.out (by omega)]; exact sg i j x y z
  · rw [q.out (k := i) (by omega)]
    have k1 : ∀ k, a ≤ k → k < d → R (g k) (h j) := p.all (P := fun e => R e (h j)) fun k x y => by
      have : ∀ l, d ≤ l → l < b → R (f k) (h l) := q.all (P := fun e => R (f k) e) fun l x' y' => by rw [p.out (by omega)]; exact hx k l x y x' y'
      exact this j z v
    exact k1 i x y
end Go.Proofs.YtbojljmacheccaaGreatDoor.So

namespace Go.Proofs.YtbojljmacheccaaGreatDoor.So
set_option linter.unusedVariables false
variable {α : Type} {R : α → α → Prop} {lt : α → α → Bool}
/-! ### one entry moved: up to the place ahead of i, or down to i -/
theorem rot_start (f : Nat → α) (a : Nat) : rot f a (a + 1) (a + 1) = f := rot_none f (Or.inr rfl) (by omega) (Nat.le_refl _)
theorem rot_end (f : Nat → α) (m : Nat) : rot f m m (m + 1) = f := rot_none f (Or.inl rfl) (Nat.le_refl _) (by omega)
theorem rot_fwd (f : Nat → α) (a k : Nat) (h : a ≤ k) : sw (rot f a (a + 1) (k + 1)) k (k + 1) = rot f a (a + 1) (k + 2) := by
  funext x
  unfold sw rot
  repeat' split
  all_goals first | rfl | (exfalso; omega) | (congr 1; omega)
theorem rot_bwd (f : Nat → α) (m k : Nat) (h0 : 0 < k) (h : k ≤ m) : sw (rot f k m (m + 1)) k (k - 1) = rot f (k - 1) m (m + 1) := by
  funext x
  unfold sw rot
  repeat' split
  all_goals first | rfl | (exfalso; omega) | (congr 1; omega)
theorem sw_comm (f : Nat → α) (i j : Nat) : sw f i j = sw f j i := by
  funext x
  unfold sw
  repeat' split
  all_goals first | rfl | (exfalso; omega) | (congr 1; omega)
/-- the entry moved down lies at its place. -/
theorem rot_bwd_at (f : Nat → α) {k m : Nat} (h : k ≤ m) : rot f k m (m + 1) k = f m ∧ ∀ x, x < k → rot f k m (m + 1) x = f x := by
  refine ⟨?_, fun x hx => ?_⟩ <;> unfold rot
  · rw [if_pos (by omega)]; congr 1; omega
  · rw [if_neg (by omega), if_neg (by omega)]
theorem one_up {a b i : Nat} {f : Nat → α} (h1 : a + 1 ≤ i) (h2 : i ≤ b) (S : Sd R (a + 1) b f) (lo : ∀ k, a + 1 ≤ k → k < i → R (f k) (f a)) (hi : ∀ k, i ≤ k → k < b → R (f a) (f k)) : Sd R a b (rot f a (a + 1) i) := fun x y c d e => by
  obtain ⟨g1, g2, g3, g4⟩ := rot_at f (show a ≤ a + 1 by omega) h1
  have hx : rot f a (a + 1) i x = if x < i - 1 then f (x + 1) else if x < i then f a else f x := by
    split
    · rw [g2 x c (by omega)]; congr 1; omega
    · split
      · rw [g3 x (by omega) (by omega)]; congr 1; omega
      · rw [g4 x (by omega)]
  have hy : rot f a (a + 1) i y = if y < i - 1 then f (y + 1) else if y < i then f a else f y := by
    split
    · rw [g2 y (by omega) (by omega)]; congr 1; omega
    · split
      · rw [g3 y (by omega) (by omega)]; congr 1; omega
      · rw [g4 y (by omega)]
  rw [hx, hy]
  split
  · split
    · exact S _ _ (by omega) (by omega) (by omega)
    · split
      · exact lo _ (by omega) (by omega)
      · exact S _ _ (by omega) (by omega) (by omega)
  · split
    · split
      · omega
      · split
        · omega
        · exact hi _ (by omega) e
    · split
      · omega
      · split
        · omega
        · exact S _ _ (by omega) d e
theorem one_dn {a m i : Nat} {f : Nat → α} (h1 : a ≤ i) (h2 : i ≤ m) (S : Sd R a m f) (lo : ∀ k, a ≤ k → k < i → R (f k) (f m)) (hi : ∀ k, i ≤ k → k < m → R (f m) (f k)) : Sd R a (m + 1) (rot f i m (m + 1)) := fun x y c d e => by
  obtain ⟨g1, g2, g3, g4⟩ := rot_at f h2 (show m ≤ m + 1 by omega)
  have hx : rot f i m (m + 1) x = if x < i then f x else if x = i then f m else f (x - 1) := by
    split
    · rw [g1 x (by omega)]
    · split
      · rw [g2 x (by omega) (by omega)]; congr 1; omega
      · rw [g3 x (by omega) (by omega)]; congr 1; omega
  have hy : rot f i m (m + 1) y = if y < i then f y else if y = i then f m else f (y - 1) := by
    split
    · rw [g1 y (by omega)]
    · split
      · rw [g2 y (by omega) (by omega)]; congr 1; omega
      · rw [g3 y (by omega) (by omega)]; congr 1; omega
  rw [hx, hy]
  split
  · split
    · exact S _ _ c d (by omega)
    · split
      · exact lo _ c (by omega)
      · exact S _ _ c (by omega) (by omega)
  · split
    · split
      · omega
      · split
        · omega
        · exact hi _ (by omega) (by omega)
    · split
      · omega
      · split
        · omega
        · exact S _ _ (by omega) (by omega) (by omega)
/-! ### which is ahead, across a cut -/
theorem Xs.sub {a m b a' b' : Nat} {f : Nat → α} (h : Xs R lt a m b f) (h1 : a ≤ a') (h2 : b' ≤ b) : Xs R lt a' m b' f := fun i j x y z v => h i j (by omega) y z (by omega)
theorem Xs.pr {n c x y : Nat} {f g : Nat → α} (h : Xs R lt 0 c n f) (p : Pr x y f g) (hc : c ≤ x ∨ y ≤ c) (hy : y ≤ n) : Xs R lt 0 c n g := by
  rcases hc with hc | hc
  · intro i j _ i2 j1 j2
    rw [p.out (k := i) (by omega)]
    have : ∀ k, c ≤ k → k < n → (lt (g k) (f i) = true → R (g k) (f i)) ∧ (lt (g k) (f i) = false → R (f i) (g k)) :=
      (p.wide hc hy).all (P := fun e => (lt e (f i) = true → R e (f i)) ∧ (lt e (f i) = false → R (f i) e)) fun k k1 k2 => h i k (Nat.zero_le _) i2 k1 k2
    exact this j j1 j2
  · intro i j _ i2 j1 j2
    rw [p.out (k := j) (by omega)]
    have : ∀ k, 0 ≤ k → k < c → (lt (f j) (g k) = true → R (f j) (g k)) ∧ (lt (f j) (g k) = false → R (g k) (f j)) :=
      (p.wide (Nat.zero_le _) hc).all (P := fun e => (lt (f j) e = true → R (f j) e) ∧ (lt (f j) e = false → R e (f j))) fun k k1 k2 => h k j k1 k2 j1 j2
    exact this i (Nat.zero_le _) i2
/-- cut at all multiples of s. -/
def Cut (R : α → α → Prop) (lt : α → α → Bool) (s n : Nat) (f : Nat → α) : Prop := ∀ q, Xs R lt 0 (q * s) n f
theorem Cut.twice {s n : Nat} {f : Nat → α} (h : Cut R lt s n f) : Cut R lt (s * 2) n f := fun q => by
  have := h (q * 2)
  rw [show q * 2 * s = q * (s * 2) by rw [Nat.mul_assoc, Nat.mul_comm 2 s]] at this; exact this
theorem Cut.pr {s n p x y : Nat} {f g : Nat → α} (h : Cut R lt s n f) (hp : Pr x y f g) (hx : p * s ≤ x) (hy : y ≤ (p + 1) * s) (hn : y ≤ n) : Cut R lt s n g := fun q => by
  refine (h q).pr hp ?_ hn
  rcases Nat.lt_or_ge p q with c | c
  · exact Or.inr (Nat.le_trans hy (Nat.mul_le_mul_right s c))
  · exact Or.inl (Nat.le_trans (Nat.mul_le_mul_right s c) hx)
/-- at the start: lt tells R of any two. -/
def Xall (R : α → α → Prop) (lt : α → α → Bool) (n : Nat) (f : Nat → α) : Prop := ∀ i j, i < j → j < n → (lt (f j) (f i) = true → R (f j) (f i)) ∧ (lt (f j) (f i) = false → R (f i) (f j))
theorem Xall.cut {n : Nat} {f : Nat → α} (h : Xall R lt n f) (s : Nat) : Cut R lt s n f := fun q i j x y z v => h i j (by omega) v
/-- blocks of s in order, up to x. -/
def Blk (R : α → α → Prop) (s n x : Nat) (f : Nat → α) : Prop := ∀ q, q * s < x → Sd R (q * s) (min ((q + 1) * s) n) f
/-- one block, all: in order. -/
theorem Blk.whole {s n : Nat} {f : Nat → α} (h : Blk R s n n f) (hs : n ≤ s) : Sd R 0 n f := by
  rcases Nat.eq_zero_or_pos n with h0 | h0
  · subst h0; exact fun i j x y z => by omega
  · have := h 0 (by omega)
    rw [Nat.zero_mul, Nat.min_eq_right (by omega)] at this; exact this
theorem Blk.zero (s n : Nat) (f : Nat → α) : Blk R s n 0 f := fun q h => by omega
/-- the block p put into order: those ahead of it stay. -/
theorem Blk.more {s n p : Nat} {f g : Nat → α} (h : Blk R s n (p * s) f) (hp : Pr (p * s) (min ((p + 1) * s) n) f g) (hg : Sd R (p * s) (min ((p + 1) * s) n) g) : Blk R s n ((p + 1) * s) g := fun q hq => by
  rcases Nat.lt_or_ge q p with c | c
  · have h1 : (q + 1) * s ≤ p * s := Nat.mul_le_mul_right s c
    have h2 : q * s < p * s := by
      rcases Nat.eq_zero_or_pos s with e | e
      · subst e; omega
      · exact Nat.mul_lt_mul_of_pos_right c e
    intro i j x y z
    rw [hp.out (k := i) (by omega), hp.out (k := j) (by omega)]
    exact h q h2 i j x y z
  · have : q = p := by
      rcases Nat.lt_or_ge p q with d | d
      · have : (p + 1) * s ≤ q * s := Nat.mul_le_mul_right s d
        omega
      · omega
    subst this; exact hg
/-- the first p pairs of blocks of s are merged. -/
def Mrg (R : α → α → Prop) (s n p : Nat) (f : Nat → α) : Prop := (∀ q, q < p → Sd R (q * (s * 2)) (min ((q + 1) * (s * 2)) n) f) ∧ ∀ q, 2 * p ≤ q → Sd R (q * s) (min ((q + 1) * s) n) f
theorem Blk.mrg {s n : Nat} {f : Nat → α} (h : Blk R s n n f) : Mrg R s n 0 f := ⟨fun q hq => by omega, fun q _ => by
  rcases Nat.lt_or_ge (q * s) n with c | c
  · exact h q c
  · exact Sd.none (by omega) f⟩
theorem Mrg.parts {s n p : Nat} {f : Nat → α} (h : Mrg R s n p f) : Sd R (p * (s * 2)) (min (p * (s * 2) + s) n) f ∧ Sd R (p * (s * 2) + s) (min (p * (s * 2) + s * 2) n) f := by
  have e1 : 2 * p * s = p * (s * 2) := by rw [Nat.mul_comm 2 p, Nat.mul_assoc, Nat.mul_comm 2 s]
  have h1 := h.2 (2 * p) (Nat.le_refl _)
  have h2 := h.2 (2 * p + 1) (by omega)
  rw [Nat.add_mul, e1, Nat.one_mul] at h1
  rw [Nat.add_mul (2 * p + 1) 1, Nat.add_mul, e1, Nat.one_mul] at h2
  refine ⟨h1, ?_⟩
  rw [show p * (s * 2) + s * 2 = p * (s * 2) + s + s by omega]; exact h2
theorem Mrg.more {s n p : Nat} {f g : Nat → α} (h : Mrg R s n p f) (hp : Pr (p * (s * 2)) (min (p * (s * 2) + s * 2) n) f g) (hg : Sd R (p * (s * 2)) (min (p * (s * 2) + s * 2) n) g) : Mrg R s n (p + 1) g := by
  have e1 : (p + 1) * (s * 2) = p * (s * 2) + s * 2 := by rw [Nat.add_mul, Nat.one_mul]
  refine ⟨fun q hq => ?_, fun q hq => ?_⟩
  · rcases Nat.lt_or_ge q p with c | c
    · have h1 : (q + 1) * (s * 2) ≤ p * (s * 2) := Nat.mul_le_mul_right _ c
      intro i j x y z
      rw [hp.out (k := i) (by omega), hp.out (k := j) (by omega)]
      exact h.1 q c i j x y z
    · have : q = p := by omega
      subst this; rw [e1]; exact hg
  · have h1 : p * (s * 2) + s * 2 ≤ q * s := by
      have := Nat.mul_le_mul_right s hq
      rw [show 2 * (p + 1) * s = (p + 1) * (s * 2) by rw [Nat.mul_comm 2 (p + 1), Nat.mul_assoc, Nat.mul_comm 2 s], e1] at this
      exact this
    intro i j x y z
    rw [hp.out (k := i) (by omega), hp.out (k := j) (by omega)]
    exact h.2 q (by omega) i j x y z
theorem Mrg.done {s n p : Nat} {f : Nat → α} (h : Mrg R s n p f) (hp : n ≤ p * (s * 2)) : Blk R (s * 2) n n f := fun q hq => by
  rcases Nat.lt_or_ge q p with c | c
  · exact h.1 q c
  · have := Nat.mul_le_mul_right (s * 2) c; omega
end Go.Proofs.YtbojljmacheccaaGreatDoor.So

namespace Go.Proofs.YtbojljmacheccaaGreatDoor.So
set_option linter.unusedVariables false
set_option linter.unusedSectionVars false
variable {K V : Type} [DecidableEq K] {kl : K → K → Bool}
/-- an order of keys. -/
structure KO (kl : K → K → Bool) : Prop where
  irr : ∀ a, kl a a = false
  tr : ∀ a b c, kl a b = true → kl b c = true → kl a c = true
  tot : ∀ a b, kl a b = true ∨ a = b ∨ kl b a = true
/-! ### the document's Sort -/
def insD (kl : K → K → Bool) (t : K × V) : List (K × V) → List (K × V)
  | [] => [t]
  | x :: r => if kl x.1 t.1 = true then x :: insD kl t r else if x.1 = t.1 then (x.1, t.2) :: r else t :: x :: r
def srtD (kl : K → K → Bool) (l : List (K × V)) : List (K × V) := l.foldl (fun s t => insD kl t s) []
theorem srtD_more (l : List (K × V)) (t : K × V) : srtD kl (l ++ [t]) = insD kl t (srtD kl l) := by simp [srtD]
/-- rising. -/
abbrev SK (kl : K → K → Bool) (l : List (K × V)) : Prop := l.Pairwise fun x y => kl x.1 y.1 = true
theorem insD_mem (o : KO kl) (t : K × V) : ∀ s : List (K × V), SK kl s → ∀ e, e ∈ insD kl t s ↔ e = t ∨ (e ∈ s ∧ e.1 ≠ t.1)
  | [], _, e => by simp [insD]
  | x :: r, h, e => by
    obtain ⟨hx, hr⟩ := List.pairwise_cons.1 h
    unfold insD
    split
    · rename_i c
      have ne : x.1 ≠ t.1 := fun h => by rw [h, o.irr] at c; cases c
      rw [List.mem_cons, insD_mem o t r hr e, List.mem_cons]
      constructor
      · rintro (rfl | h | ⟨h, h'⟩)
        · exact Or.inr ⟨Or.inl rfl, ne⟩
        · exact Or.inl h
        · exact Or.inr ⟨Or.inr h, h'⟩
      · rintro (h | ⟨h | h, h'⟩)
        · exact Or.inr (Or.inl h)
        · exact Or.inl h
        · exact Or.inr (Or.inr ⟨h, h'⟩)
    · rename_i c
      split
      · rename_i d
        have et : (x.1, t.2) = t := by rw [d]
        have nr : ∀ y ∈ r, y.1 ≠ t.1 := fun y hy h => by have := hx y hy; rw [h, d, o.irr] at this; cases this
        rw [et, List.mem_cons, List.mem_cons]
        constructor
        · rintro (h | h)
          · exact Or.inl h
          · exact Or.inr ⟨Or.inr h, nr e h⟩
        · rintro (h | ⟨h | h, h'⟩)
          · exact Or.inl h
          · exact absurd (by rw [h]; exact d) h'
          · exact Or.inr h
      · rename_i d
        have k1 : kl t.1 x.1 = true := by
          rcases o.tot t.1 x.1 with h | h | h
          · exact h
          · exact absurd h.symm d
          · exact absurd h c
        have nr : ∀ y ∈ x :: r, y.1 ≠ t.1 := fun y hy hh => by
          rcases List.mem_cons.1 hy with e | hy
          · rw [e] at hh; exact d hh
          · have := o.tr _ _ _ k1 (hx y hy); rw [hh, o.irr] at this; cases this
        rw [List.mem_cons]
        constructor
        · rintro (h | h)
          · exact Or.inl h
          · exact Or.inr ⟨h, nr e h⟩
        · rintro (h | ⟨h, _⟩)
          · exact Or.inl h
          · exact Or.inr h
theorem insD_sk (o : KO kl) (t : K × V) : ∀ s : List (K × V), SK kl s → SK kl (insD kl t s)
  | [], _ => by simp [insD]
  | x :: r, h => by
    obtain ⟨hx, hr⟩ := List.pairwise_cons.1 h
    unfold insD
    split
    · rename_i c
      refine List.pairwise_cons.2 ⟨fun y hy => ?_, insD_sk o t r hr⟩
      rcases (insD_mem o t r hr y).1 hy with rfl | ⟨h, _⟩
      · exact c
      · exact hx y h
    · rename_i c
      split
      · exact List.pairwise_cons.2 ⟨hx, hr⟩
      · rename_i d
        have k1 : kl t.1 x.1 = true := by
          rcases o.tot t.1 x.1 with h | h | h
          · exact h
          · exact absurd h.symm d
          · exact absurd h c
        refine List.pairwise_cons.2 ⟨fun y hy => ?_, h⟩
        rcases List.mem_cons.1 hy with rfl | hy
        · exact k1
        · exact o.tr _ _ _ k1 (hx y hy)
/-- two rising rows of the same. -/
theorem sk_uniq (o : KO kl) : ∀ a b : List (K × V), SK kl a → SK kl b → (∀ e, e ∈ a ↔ e ∈ b) → a = b
  | [], [], _, _, _ => rfl
  | [], y :: s, _, _, h => absurd ((h y).2 List.mem_cons_self) (by simp)
  | x :: r, [], _, _, h => absurd ((h x).1 List.mem_cons_self) (by simp)
  | x :: r, y :: s, ha, hb, h => by
    obtain ⟨hx, hr⟩ := List.pairwise_cons.1 ha
    obtain ⟨hy, hs⟩ := List.pairwise_cons.1 hb
    have e1 : x = y := by
      rcases List.mem_cons.1 ((h x).1 List.mem_cons_self) with e | e
      · exact e
      · rcases List.mem_cons.1 ((h y).2 List.mem_cons_self) with e' | e'
        · exact e'.symm
        · have := o.tr _ _ _ (hy x e) (hx y e'); rw [o.irr] at this; cases this
    subst e1
    have nx : ∀ e, e ∈ r → e ≠ x := fun e he e' => by have := hx e he; rw [e', o.irr] at this; cases this
    have ny : ∀ e, e ∈ s → e ≠ x := fun e he e' => by have := hy e he; rw [e', o.irr] at this; cases this
    rw [sk_uniq o r s hr hs fun e => ⟨fun he => (List.mem_cons.1 ((h e).1 (List.mem_cons_of_mem _ he))).resolve_left (nx e he), fun he => (List.mem_cons.1 ((h e).2 (List.mem_cons_of_mem _ he))).resolve_left (ny e he)⟩]
/-- what the document's Sort holds: of each key the last. -/
theorem srtD_is (o : KO kl) (F : Nat → K × V) : ∀ n, SK kl (srtD kl ((List.range n).map F)) ∧ ∀ e, e ∈ srtD kl ((List.range n).map F) ↔ ∃ k, k < n ∧ F k = e ∧ ∀ j, k < j → j < n → (F j).1 ≠ (F k).1
  | 0 => ⟨by simp [srtD], fun e => by simp [srtD]⟩
  | n + 1 => by
    obtain ⟨h1, h2⟩ := srtD_is o F n
    have e0 : (List.range (n + 1)).map F = (List.range n).map F ++ [F n] := by simp [List.range_succ]
    rw [e0, srtD_more]
    refine ⟨insD_sk o _ _ h1, fun e => ?_⟩
    rw [insD_mem o _ _ h1, h2]
    constructor
    · rintro (rfl | ⟨⟨k, k1, rfl, k2⟩, ne⟩)
      · exact ⟨n, by omega, rfl, fun j a b => by omega⟩
      · refine ⟨k, by omega, rfl, fun j a b => ?_⟩
        rcases Nat.lt_or_ge j n with c | c
        · exact k2 j a c
        · have : j = n := by omega
          subst this; exact fun h => ne h.symm
    · rintro ⟨k, k1, rfl, k2⟩
      rcases Nat.lt_or_ge k n with c | c
      · exact Or.inr ⟨⟨k, c, rfl, fun j a b => k2 j a (by omega)⟩, fun h => k2 n c (by omega) h.symm⟩
      · have : k = n := by omega
        subst this; exact Or.inl rfl
/-! ### the first of each key, of a row in order -/
def fsts (g : Nat → K × V) : Nat → List (K × V)
  | 0 => []
  | k + 1 => fsts g k ++ (if k = 0 ∨ (g (k - 1)).1 ≠ (g k).1 then [g k] else [])
theorem fsts_mem (g : Nat → K × V) (e : K × V) : ∀ n, e ∈ fsts g n ↔ ∃ i, i < n ∧ g i = e ∧ (i = 0 ∨ (g (i - 1)).1 ≠ (g i).1)
  | 0 => by simp [fsts]
  | n + 1 => by
    unfold fsts
    rw [List.mem_append, fsts_mem g e n]
    constructor
    · rintro (⟨i, h1, h2, h3⟩ | h)
      · exact ⟨i, by omega, h2, h3⟩
      · split at h
        · rename_i c
          exact ⟨n, by omega, (List.mem_singleton.1 h).symm, c⟩
        · cases h
    · rintro ⟨i, h1, h2, h3⟩
      rcases Nat.lt_or_ge i n with c | c
      · exact Or.inl ⟨i, c, h2, h3⟩
      · have : i = n := by omega
        subst this
        right; rw [if_pos h3, h2]; exact List.mem_singleton.2 rfl
/-- the order of entries that carry where they stood. -/
def RT (kl : K → K → Bool) (x y : (K × V) × Nat) : Prop := kl x.1.1 y.1.1 = true ∨ (x.1.1 = y.1.1 ∧ x.2 < y.2)
theorem RT_tr (o : KO kl) (x y z : (K × V) × Nat) (h1 : RT kl x y) (h2 : RT kl y z) : RT kl x z := by
  rcases h1 with a | ⟨a, a'⟩ <;> rcases h2 with b | ⟨b, b'⟩
  · exact Or.inl (o.tr _ _ _ a b)
  · exact Or.inl (by rw [← b]; exact a)
  · exact Or.inl (by rw [a]; exact b)
  · exact Or.inr ⟨a.trans b, by omega⟩
theorem RT_irr (o : KO kl) (x : (K × V) × Nat) : ¬ RT kl x x := by
  rintro (a | ⟨_, a⟩)
  · rw [o.irr] at a; cases a
  · omega
theorem RT_all (o : KO kl) (F : Nat → K × V) (n : Nat) : Xall (RT kl) (fun x y : (K × V) × Nat => kl x.1.1 y.1.1) n fun k => (F k, k) := fun i j h1 h2 => ⟨fun h => Or.inl h, fun h => by
  rcases o.tot (F i).1 (F j).1 with c | c | c
  · exact Or.inl c
  · exact Or.inr ⟨c, h1⟩
  · exact absurd (c.symm.trans h) (by simp)⟩
theorem keys_le (o : KO kl) {n : Nat} {g : Nat → (K × V) × Nat} (S : Sd (RT kl) 0 n g) {i j : Nat} (h1 : i < j) (h2 : j < n) : kl (g i).1.1 (g j).1.1 = true ∨ (g i).1.1 = (g j).1.1 := by
  rcases S i j (Nat.zero_le _) h1 h2 with c | ⟨c, _⟩
  · exact Or.inl c
  · exact Or.inr c
theorem fsts_sk (o : KO kl) {n : Nat} {g : Nat → (K × V) × Nat} (S : Sd (RT kl) 0 n g) : ∀ m, m ≤ n → SK kl (fsts (fun k => (g k).1) m)
  | 0, _ => by simp [fsts]
  | m + 1, h => by
    unfold fsts
    refine List.pairwise_append.2 ⟨fsts_sk o S m (by omega), by split <;> simp, fun x hx y hy => ?_⟩
    split at hy
    · rename_i c
      obtain rfl := List.mem_singleton.1 hy
      obtain ⟨i, i1, rfl, _⟩ := (fsts_mem _ x m).1 hx
      have c' := c.resolve_left (by omega)
      have k1 : kl (g (m - 1)).1.1 (g m).1.1 = true := (keys_le o S (show m - 1 < m by omega) (by omega)).resolve_right c'
      rcases Nat.lt_or_ge i (m - 1) with d | d
      · rcases keys_le o S d (by omega) with k2 | k2
        · exact o.tr _ _ _ k2 k1
        · show kl (g i).1.1 (g m).1.1 = true; rw [k2]; exact k1
      · have : i = m - 1 := by omega
        subst this; exact k1
    · cases hy
/-- reversed, put into order so that like ones keep theirs, the first of each key: the document's Sort. -/
theorem sort_is (o : KO kl) (F : Nat → K × V) (n : Nat) (g : Nat → (K × V) × Nat) (S : Sd (RT kl) 0 n g) (P : Pr 0 n (fun k => (F (n - 1 - k), k)) g) :
    fsts (fun k => (g k).1) n = srtD kl ((List.range n).map F) := by
  obtain ⟨d1, d2⟩ := srtD_is o F n
  refine sk_uniq o _ _ (fsts_sk o S n (Nat.le_refl _)) d1 fun e => ?_
  rw [fsts_mem, d2]
  have gi : ∀ i, i < n → (g i).2 < n ∧ (g i).1 = F (n - 1 - (g i).2) := fun i hi => P.all (P := fun e => e.2 < n ∧ e.1 = F (n - 1 - e.2)) (fun k _ h => ⟨h, rfl⟩) i (Nat.zero_le _) hi
  have gb : ∀ k, k < n → ∃ q, q < n ∧ g q = (F (n - 1 - k), k) := fun k hk => by obtain ⟨j, _, j2, j3⟩ := P.back k (Nat.zero_le _) hk; exact ⟨j, j2, j3⟩
  constructor
  · rintro ⟨i, i1, rfl, i2⟩
    obtain ⟨a1, a2⟩ := gi i i1
    refine ⟨n - 1 - (g i).2, by omega, a2.symm, fun j j1 j2 he => ?_⟩
    obtain ⟨q, q1, q2⟩ := gb (n - 1 - j) (by omega)
    have q3 : (g q).1.1 = (g i).1.1 := by rw [q2, a2]; show (F (n - 1 - (n - 1 - j))).1 = _; rw [show n - 1 - (n - 1 - j) = j by omega, he]
    have q4 : (g q).2 < (g i).2 := by rw [q2]; show n - 1 - j < _; omega
    have r1 : RT kl (g q) (g i) := Or.inr ⟨q3, q4⟩
    have qi : q < i := by
      rcases Nat.lt_or_ge q i with c | c
      · exact c
      · rcases Nat.eq_or_lt_of_le c with c | c
        · subst c; omega
        · exact absurd (RT_tr o _ _ _ r1 (S i q (Nat.zero_le _) c q1)) (RT_irr o _)
    have i3 := i2.resolve_left (by omega)
    have k1 : kl (g (i - 1)).1.1 (g i).1.1 = true := (keys_le o S (show i - 1 < i by omega) i1).resolve_right i3
    rcases Nat.lt_or_ge q (i - 1) with c | c
    · rcases keys_le o S c (by omega) with k2 | k2
      · have := o.tr _ _ _ k2 k1; rw [q3, o.irr] at this; cases this
      · rw [← k2, q3, o.irr] at k1; cases k1
    · have : q = i - 1 := by omega
      subst this; exact i3 q3
  · rintro ⟨k, k1, rfl, k2⟩
    obtain ⟨i, i1, i2⟩ := gb (n - 1 - k) (by omega)
    have i3 : (g i).1 = F k := by rw [i2]; show F (n - 1 - (n - 1 - k)) = _; rw [show n - 1 - (n - 1 - k) = k by omega]
    refine ⟨i, i1, i3, ?_⟩
    by_cases c : i = 0
    · exact Or.inl c
    · right
      intro he
      have he' : (g (i - 1)).1.1 = (g i).1.1 := he
      rcases S (i - 1) i (Nat.zero_le _) (by omega) i1 with d | ⟨_, d⟩
      · rw [he', o.irr] at d; cases d
      · obtain ⟨a1, a2⟩ := gi (i - 1) (by omega)
        rw [i2] at d
        have d' : (g (i - 1)).2 < n - 1 - k := d
        refine k2 (n - 1 - (g (i - 1)).2) (by omega) (by omega) ?_
        rw [← a2, he', i3]
end Go.Proofs.YtbojljmacheccaaGreatDoor.So

namespace Go.Proofs.YtbojljmacheccaaGreatDoor.So
open Go.RowKit
set_option linter.unusedVariables false
set_option linter.unusedSimpArgs false
/-! ### a row of tags (two texts each) in memory, by places -/
abbrev Tg := ByteArray × ByteArray
def TR (w : World) (b off n : Nat) (F : Nat → Tg) : Prop := b < w.heap.size ∧ ∀ k, k < n → (w.cell? ⟨b, off + k * 2, none⟩ = some (.string (F k).1) ∧ w.cell? ⟨b, off + k * 2 + 1, none⟩ = some (.string (F k).2)) ∧ w.frozen? ⟨b, off + k * 2, none⟩ = false ∧ w.frozen? ⟨b, off + k * 2 + 1, none⟩ = false
/-- nothing but block b (of those that were there) is another one. -/
structure OB (b : Nat) (w w' : World) : Prop where
  size : w.heap.size ≤ w'.heap.size
  keep : ∀ k, k < w.heap.size → k ≠ b → w'.heap[k]? = w.heap[k]?
  shp : ∀ (cur : Array Value) (e : TypeId), w.heap[b]? = some (.cells cur e (0, 0)) → ∃ cur' : Array Value, w'.heap[b]? = some (.cells cur' e (0, 0)) ∧ cur'.size = cur.size
  same : w'.os = w.os ∧ w'.tape = w.tape ∧ w'.output = w.output
theorem OB.refl (b : Nat) (w : World) : OB b w w := ⟨Nat.le_refl _, fun _ _ _ => rfl, fun cur _ h => ⟨cur, h, rfl⟩, rfl, rfl, rfl⟩
theorem OB.trans {b : Nat} {w w1 w2 : World} (h : OB b w w1) (k : OB b w1 w2) : OB b w w2 :=
  ⟨Nat.le_trans h.size k.size, fun j hj hn => by rw [k.keep j (Nat.lt_of_lt_of_le hj h.size) hn]; exact h.keep j hj hn, fun cur e hh => by
    obtain ⟨c1, h1, s1⟩ := h.shp cur e hh
    obtain ⟨c2, h2, s2⟩ := k.shp c1 e h1
    exact ⟨c2, h2, s2.trans s1⟩, k.same.1.trans h.same.1, k.same.2.1.trans h.same.2.1, k.same.2.2.trans h.same.2.2⟩
theorem OB.below {b : Nat} {w w' : World} (h : Below w.heap.size w w') : OB b w w' := ⟨h.size, fun k hk _ => h.block k hk, fun cur e hh => ⟨cur, by rw [h.block b (Array.getElem?_eq_some_iff.1 hh).1]; exact hh, rfl⟩, h.os, h.tape, h.output⟩
theorem OB.set {b : Nat} (w : World) (j : Nat) (v : Value) : OB b w (w.setCell ⟨b, j, none⟩ v) := ⟨by simp, fun k hk hn => Below.heap_setCell _ _ _ _ hn, fun cur e hh => ⟨_, heap_setCell_same w b j cur e v hh, by simp⟩, rfl, rfl, rfl⟩
theorem OB.into {B g : Nat} {w w1 w2 : World} (h : Below B w w1) (k : OB g w1 w2) (hg : B ≤ g) (hB : B ≤ w1.heap.size) : Below B w w2 :=
  ⟨k.same.1.trans h.os, k.same.2.1.trans h.tape, k.same.2.2.trans h.output, Nat.le_trans h.size k.size, fun i hi => (k.keep i (by omega) (by omega)).trans (h.block i hi)⟩
theorem TR.below {w w' : World} {b off n : Nat} {F : Nat → Tg} (h : TR w b off n F) (hb : Below w.heap.size w w') : TR w' b off n F := by
  refine ⟨Nat.lt_of_lt_of_le h.1 hb.size, fun k hk => ?_⟩
  obtain ⟨⟨h1, h2⟩, h3, h4⟩ := h.2 k hk
  exact ⟨⟨by rw [hb.cell (p := ⟨b, off + k * 2, none⟩) h.1]; exact h1, by rw [hb.cell (p := ⟨b, off + k * 2 + 1, none⟩) h.1]; exact h2⟩, by rw [hb.frozen (p := ⟨b, off + k * 2, none⟩) h.1]; exact h3, by rw [hb.frozen (p := ⟨b, off + k * 2 + 1, none⟩) h.1]; exact h4⟩
def upd (F : Nat → Tg) (i : Nat) (x : Tg) : Nat → Tg := fun k => if k = i then x else F k
theorem sw_upd2 (F : Nat → Tg) (i j : Nat) : sw F i j = upd (upd F i (F j)) j (F i) := by
  funext k; unfold sw upd
  repeat' split
  all_goals first | rfl | (exfalso; omega) | (congr 1; omega)
theorem far2 {w : World} {p q : Addr} {v : Value} (h : p ≠ q) : (w.setCell p v).cell? q = w.cell? q := World.cell?_setCell_other _ _ _ _ h
theorem TR.set {w : World} {b off n : Nat} {F : Nat → Tg} (h : TR w b off n F) {i : Nat} (hi : i < n) (x y : ByteArray) : TR ((w.setCell ⟨b, off + i * 2, none⟩ (.string x)).setCell ⟨b, off + i * 2 + 1, none⟩ (.string y)) b off n (upd F i (x, y)) := by
  refine ⟨by simpa using h.1, fun k hk => ?_⟩
  obtain ⟨⟨h1, h2⟩, h3, h4⟩ := h.2 k hk
  obtain ⟨⟨i1, i2⟩, i3, i4⟩ := h.2 i hi
  unfold upd
  by_cases c : k = i
  · subst c
    rw [if_pos rfl]
    simp [go_sem, h1, h2, h3, h4]
  · rw [if_neg c]
    have e1 : ¬ off + k * 2 = off + i * 2 := by omega
    have e2 : ¬ off + k * 2 = off + i * 2 + 1 := by omega
    have e3 : ¬ off + k * 2 + 1 = off + i * 2 := by omega
    have e4 : ¬ off + k * 2 + 1 = off + i * 2 + 1 := by omega
    refine ⟨⟨?_, ?_⟩, by simp [go_sem, h3], by simp [go_sem, h4]⟩
    · rw [far2 (by intro h; injection h; omega), far2 (by intro h; injection h; omega)]; exact h1
    · rw [far2 (by intro h; injection h; omega), far2 (by intro h; injection h; omega)]; exact h2
end Go.Proofs.YtbojljmacheccaaGreatDoor.So

namespace Go.Proofs.YtbojljmacheccaaGreatDoor.So
open Go.RowKit
set_option linter.unusedVariables false
set_option linter.unusedSimpArgs false
theorem OB.drew {b : Nat} {w w' : World} (h : OB b w w') : OB b w w'.drew := ⟨h.size, h.keep, h.shp, h.same⟩
set_option maxRecDepth 100000 in
set_option maxHeartbeats 2000000 in
theorem swapR_any (b off n cap : Nat) (F : Nat → Tg) (x y m : Nat) (fv : Value) (w : World) (h : TR w b off n F) (hx : x + m ≤ y) (hy : y + m ≤ n) (hn : n ≤ 4611686018427387904) :
    Calls Tryz.prog 205 #[.slice (some ⟨b, off, none⟩) n cap, .int .i64 (x : Int), .int .i64 (y : Int), .int .i64 (m : Int), fv] w fun e w' => e = .returned undef ∧ TR w' b off n (swR F x y m) ∧ OB b w w' := by
  have H0 : Hid (TR w b off n F) := h
  clear h
  go_enter Tryz.func205, Tryz.ntmps205
  go_wp2_with fail
  go_loopw [10] (fun i wr => ∃ k : Nat, k ≤ m ∧ i = .int .i64 (k : Int) ∧ TR wr b off n (swR F x y k) ∧ OB b w wr) (fun i _ => m - (intOf i).toNat)
  case atStart => exact ⟨0, Nat.zero_le _, rfl, by rw [swR_zero]; exact H0.out, OB.refl _ _⟩
  case round =>
    clear H0
    obtain ⟨k, hk, rfl, hT, hO⟩ := hrel
    by_cases hkm : k < m
    · have hkI : (k : Int) < (m : Int) := by omega
      have e := swR_succ F x y k (by omega)
      generalize swR F x y k = G at hT e
      obtain ⟨⟨a1, a2⟩, a3, a4⟩ := hT.2 (x + k) (by omega)
      obtain ⟨⟨b1, b2⟩, b3, b4⟩ := hT.2 (y + k) (by omega)
      have w1 : IntKind.i64.wrap ((x : Int) + (k : Int)) = (x : Int) + (k : Int) := IntWalk.i64_in _ (by omega)
      have w2 : IntKind.i64.wrap ((y : Int) + (k : Int)) = (y : Int) + (k : Int) := IntWalk.i64_in _ (by omega)
      have i1 : (0 : Int) ≤ (x : Int) + (k : Int) := by omega
      have i2 : (x : Int) + (k : Int) < (n : Int) := by omega
      have j1 : (0 : Int) ≤ (y : Int) + (k : Int) := by omega
      have j2 : (y : Int) + (k : Int) < (n : Int) := by omega
      have ij : ¬ x + k = y + k := by omega
      have ij2 : ¬ y + k = x + k := by omega
      have q1 : ¬ off + (x + k) * 2 = off + (y + k) * 2 := by omega
      have q2 : ¬ off + (x + k) * 2 = off + (y + k) * 2 + 1 := by omega
      have q3 : ¬ off + (x + k) * 2 + 1 = off + (y + k) * 2 := by omega
      have q4 : ¬ off + (x + k) * 2 + 1 = off + (y + k) * 2 + 1 := by omega
      have hTH : Hid _ := hT
      have hOH : Hid _ := hO
      have eH : Hid _ := e
      clear hT hO e
      go_wp2_with fail
      go_region
      have hT2 : TR ((((wr.setCell ⟨b, off + (x + k) * 2, none⟩ (.string (G (y + k)).1)).setCell ⟨b, off + (x + k) * 2 + 1, none⟩ (.string (G (y + k)).2)).setCell ⟨b, off + (y + k) * 2, none⟩ (.string (G (x + k)).1)).setCell ⟨b, off + (y + k) * 2 + 1, none⟩ (.string (G (x + k)).2)) b off n (swR F x y (k + 1)) := by
        rw [← eH.out, sw_upd2]
        exact TR.set (TR.set (show TR wr b off n G from hTH.out) (show x + k < n by omega) _ _) (show y + k < n by omega) _ _
      have hO2 : OB b w ((((wr.setCell ⟨b, off + (x + k) * 2, none⟩ (.string (G (y + k)).1)).setCell ⟨b, off + (x + k) * 2 + 1, none⟩ (.string (G (y + k)).2)).setCell ⟨b, off + (y + k) * 2, none⟩ (.string (G (x + k)).1)).setCell ⟨b, off + (y + k) * 2 + 1, none⟩ (.string (G (x + k)).2)) := (((hOH.out.trans (OB.set _ _ _)).trans (OB.set _ _ _)).trans (OB.set _ _ _)).trans (OB.set _ _ _)
      generalize ((((wr.setCell ⟨b, off + (x + k) * 2, none⟩ (.string (G (y + k)).1)).setCell ⟨b, off + (x + k) * 2 + 1, none⟩ (.string (G (y + k)).2)).setCell ⟨b, off + (y + k) * 2, none⟩ (.string (G (x + k)).1)).setCell ⟨b, off + (y + k) * 2 + 1, none⟩ (.string (G (x + k)).2)) = W2 at hT2 hO2 ⊢
      have kw : IntKind.i64.wrap ((k : Int) + 1) = ((k + 1 : Nat) : Int) := IntWalk.i64_in _ (by omega)
      have hT2H : Hid (TR W2 b off n (swR F x y (k + 1))) := hT2
      have hO2H : Hid (OB b w W2) := hO2
      clear hT2 hO2 hTH hOH eH a1 a2 a3 a4 b1 b2 b3 b4
      go_wp2_with fail
      exact ⟨⟨k + 1, by omega, by first | rfl | simp, hT2H.out, hO2H.out.drew⟩, by simp [intOf]; omega⟩
    · have hke : k = m := by omega
      subst hke
      have hn2 : ¬ (k : Int) < (k : Int) := by omega
      have hTH : Hid _ := hT
      have hOH : Hid _ := hO
      clear hT hO
      go_wp2_with fail
      go_end0
      exact ⟨rfl, hTH.out, hOH.out⟩
set_option maxRecDepth 100000 in
set_option maxHeartbeats 2000000 in
theorem rotate_any (b off n cap : Nat) (F : Nat → Tg) (x m y : Nat) (fv : Value) (w : World) (h : TR w b off n F) (hx : x < m) (hy : m < y) (hyn : y ≤ n) (hn : n ≤ 4611686018427387904) :
    Calls Tryz.prog 186 #[.slice (some ⟨b, off, none⟩) n cap, .int .i64 (x : Int), .int .i64 (m : Int), .int .i64 (y : Int), fv] w fun e w' => e = .returned undef ∧ TR w' b off n (rot F x m y) ∧ OB b w w' := by
  have H0 : Hid (TR w b off n F) := h
  have z1 : IntKind.i64.wrap ((m : Int) - (x : Int)) = (m : Int) - (x : Int) := IntWalk.i64_in _ (by omega)
  have z2 : IntKind.i64.wrap ((y : Int) - (m : Int)) = (y : Int) - (m : Int) := IntWalk.i64_in _ (by omega)
  clear h
  go_enter Tryz.func186, Tryz.ntmps186
  go_wp2_with fail
  go_loopw [10, 11] (fun vi vj wr => ∃ (i j : Nat) (G : Nat → Tg), vi = .int .i64 (i : Int) ∧ vj = .int .i64 (j : Int) ∧ 0 < i ∧ 0 < j ∧ x + i ≤ m ∧ m + j ≤ y ∧ rot G (m - i) m (m + j) = rot F x m y ∧ TR wr b off n G ∧ OB b w wr) (fun vi vj _ => (intOf vi).toNat + (intOf vj).toNat)
  case atStart => exact ⟨m - x, y - m, F, by congr 1; omega, by congr 1; omega, by omega, by omega, by omega, by omega, by rw [show m - (m - x) = x by omega, show m + (y - m) = y by omega], H0.out, OB.refl _ _⟩
  case round =>
    clear H0 z1 z2
    obtain ⟨i, j, G, rfl, rfl, i0, j0, hi, hj, hr, hT, hO⟩ := hrel
    have hTH : Hid (TR wr b off n G) := hT
    have hOH : Hid (OB b w wr) := hO
    have hrH : Hid (rot G (m - i) m (m + j) = rot F x m y) := hr
    clear hT hO hr
    have v1 : IntKind.i64.wrap ((m : Int) - (i : Int)) = (m : Int) - (i : Int) := IntWalk.i64_in _ (by omega)
    have v2 : IntKind.i64.wrap ((m : Int) + (j : Int)) = (m : Int) + (j : Int) := IntWalk.i64_in _ (by omega)
    have v3 : IntKind.i64.wrap ((m : Int) + (j : Int) - (i : Int)) = (m : Int) + (j : Int) - (i : Int) := IntWalk.i64_in _ (by omega)
    rcases Nat.lt_trichotomy i j with c | c | c
    · have c1 : ((i : Int) == (j : Int)) = false := by rw [beq_eq_false_iff_ne]; omega
      have c2 : ¬ (j : Int) < (i : Int) := by omega
      have C : Hid (Calls Tryz.prog 205 #[.slice (some ⟨b, off, none⟩) n cap, .int .i64 ((m : Int) - (i : Int)), .int .i64 ((m : Int) + (j : Int) - (i : Int)), .int .i64 (i : Int), fv] wr fun e w' => e = .returned undef ∧ TR w' b off n (swR G (m - i) (m + j - i) i) ∧ OB b wr w') := by
        have := swapR_any b off n cap G (m - i) (m + j - i) i fv wr hTH.out (by omega) (by omega) hn
        rw [show ((m - i : Nat) : Int) = (m : Int) - (i : Int) by omega, show ((m + j - i : Nat) : Int) = (m : Int) + (j : Int) - (i : Int) by omega] at this
        exact this
      go_wp2_with fail
      refine Calls.mono C.out ?_
      rintro e w2 ⟨rfl, T2, O2⟩
      have T2H : Hid _ := T2
      have v4 : IntKind.i64.wrap ((j : Int) - (i : Int)) = (j : Int) - (i : Int) := IntWalk.i64_in _ (by omega)
      have r2 : Hid (rot (swR G (m - i) (m + j - i) i) (m - i) m (m + (j - i)) = rot F x m y) := by
        show _ = _
        rw [← hrH.out]
        have := rot_less G (a := m - i) (m := m) (b := m + j) (by omega) (by omega) (by omega)
        rw [show m - (m - i) = i by omega] at this
        rw [show m + (j - i) = m + j - i by omega]; exact this
      clear T2 C
      go_wp2_with fail
      exact ⟨⟨i, j - i, _, by rfl, by congr 1; omega, by omega, by omega, by omega, by omega, r2.out, T2H.out, hOH.out.trans O2⟩, by simp [intOf]; omega⟩
    · subst c
      have c1 : ((i : Int) == (i : Int)) = true := by simp
      have C : Hid (Calls Tryz.prog 205 #[.slice (some ⟨b, off, none⟩) n cap, .int .i64 ((m : Int) - (i : Int)), .int .i64 (m : Int), .int .i64 (i : Int), fv] wr fun e w' => e = .returned undef ∧ TR w' b off n (swR G (m - i) m i) ∧ OB b wr w') := by
        have := swapR_any b off n cap G (m - i) m i fv wr hTH.out (by omega) (by omega) hn
        rw [show ((m - i : Nat) : Int) = (m : Int) - (i : Int) by omega] at this
        exact this
      have r2 : Hid (swR G (m - i) m i = rot F x m y) := by
        show _ = _
        rw [← hrH.out]
        have := rot_even G (a := m - i) (m := m) (b := m + i) (by omega) (by omega) (by omega)
        rw [show m - (m - i) = i by omega] at this
        exact this
      go_wp2_with fail
      refine Calls.mono C.out ?_
      rintro e w2 ⟨rfl, T2, O2⟩
      have T2H : Hid _ := T2
      clear T2 C
      go_wp2_with fail
      go_end0
      exact ⟨rfl, by rw [← r2.out]; exact T2H.out, hOH.out.trans O2⟩
    · have c1 : ((i : Int) == (j : Int)) = false := by rw [beq_eq_false_iff_ne]; omega
      have c2 : (j : Int) < (i : Int) := by omega
      have C : Hid (Calls Tryz.prog 205 #[.slice (some ⟨b, off, none⟩) n cap, .int .i64 ((m : Int) - (i : Int)), .int .i64 (m : Int), .int .i64 (j : Int), fv] wr fun e w' => e = .returned undef ∧ TR w' b off n (swR G (m - i) m j) ∧ OB b wr w') := by
        have := swapR_any b off n cap G (m - i) m j fv wr hTH.out (by omega) (by omega) hn
        rw [show ((m - i : Nat) : Int) = (m : Int) - (i : Int) by omega] at this
        exact this
      go_wp2_with fail
      refine Calls.mono C.out ?_
      rintro e w2 ⟨rfl, T2, O2⟩
      have T2H : Hid _ := T2
      have v4 : IntKind.i64.wrap ((i : Int) - (j : Int)) = (i : Int) - (j : Int) := IntWalk.i64_in _ (by omega)
      have r2 : Hid (rot (swR G (m - i) m j) (m - (i - j)) m (m + j) = rot F x m y) := by
        show _ = _
        rw [← hrH.out]
        have := rot_more G (a := m - i) (m := m) (b := m + j) (by omega) (by omega) (by omega)
        rw [show m + j - m = j by omega] at this
        rw [show m - (i - j) = m - i + j by omega]; exact this
      clear T2 C
      go_wp2_with fail
      exact ⟨⟨i - j, j, _, by congr 1; omega, by rfl, by omega, by omega, by omega, by omega, r2.out, T2H.out, hOH.out.trans O2⟩, by simp [intOf]; omega⟩
end Go.Proofs.YtbojljmacheccaaGreatDoor.So

namespace Go.Proofs.YtbojljmacheccaaGreatDoor.So
open Go.RowKit
set_option linter.unusedVariables false
set_option linter.unusedSimpArgs false
/-- a tag and where it stood. -/
abbrev En := Tg × Nat
def fs (f : Nat → En) : Nat → Tg := fun k => (f k).1
theorem fs_rot (f : Nat → En) (a m b : Nat) : fs (rot f a m b) = rot (fs f) a m b := by
  funext k; unfold fs rot; repeat' split
  all_goals rfl
theorem fs_sw (f : Nat → En) (i j : Nat) : fs (sw f i j) = sw (fs f) i j := by
  funext k; unfold fs sw; repeat' split
  all_goals rfl
/-- what a function value answers of two tags. -/
def CmpA (g : Nat) (c : Tg → Tg → Int) : Prop := ∀ (x y : Tg) (W : World), Calls Tryz.prog g #[.agg #[.string x.1, .string x.2], .agg #[.string y.1, .string y.2]] W fun e w' => e = .returned (.int .i64 (c x y)) ∧ Below W.heap.size W w'
abbrev ltE (c : Tg → Tg → Int) : En → En → Bool := fun x y => decide (c x.1 y.1 < 0)
set_option maxRecDepth 100000 in
set_option maxHeartbeats 4000000 in
theorem insert_any (R : En → En → Prop) (c : Tg → Tg → Int) (hC : CmpA 85 c) (b off n cap : Nat) (f : Nat → En) (a d : Nat) (w : World) (h : TR w b off n (fs f)) (ha : a ≤ d) (hd : d ≤ n) (hn : n ≤ 4611686018427387904)
    (X : ∀ i j, a ≤ i → i < j → j < d → (ltE c (f j) (f i) = true → R (f j) (f i)) ∧ (ltE c (f j) (f i) = false → R (f i) (f j))) (tr : ∀ x y z, R x y → R y z → R x z) :
    Calls Tryz.prog 158 #[.slice (some ⟨b, off, none⟩) n cap, .int .i64 (a : Int), .int .i64 (d : Int), .func (.func 85) #[] #[]] w fun e w' => e = .returned undef ∧ ∃ g, Pr a d f g ∧ Sd R a d g ∧ TR w' b off n (fs g) ∧ OB b w w' := by
  have H0 : Hid (TR w b off n (fs f)) := h
  have HX : Hid _ := X
  have HC : Hid (CmpA 85 c) := hC
  have z1 : IntKind.i64.wrap ((a : Int) + 1) = ((a + 1 : Nat) : Int) := IntWalk.i64_in _ (by omega)
  clear h X hC
  go_enter Tryz.func158, Tryz.ntmps158
  go_wp2_with fail
  go_loopw [8] (fun vi wr => ∃ (i : Nat) (g : Nat → En), vi = .int .i64 (i : Int) ∧ a < i ∧ (i ≤ d ∨ i = a + 1) ∧ Pr a (min i d) f g ∧ Sd R a (min i d) g ∧ TR wr b off n (fs g) ∧ OB b w wr) (fun vi _ => d + 1 - (intOf vi).toNat)
  case atStart => exact ⟨a + 1, f, by first | rfl | (congr 1), by omega, Or.inr rfl, Pr.refl _ _ _, Sd.none (by omega) _, H0.out, OB.refl _ _⟩
  case round =>
    clear H0 z1
    obtain ⟨i, g, rfl, hai, hi, hP, hS, hT, hO⟩ := hrel
    have hTH : Hid (TR wr b off n (fs g)) := hT
    have hOH : Hid (OB b w wr) := hO
    have hPH : Hid (Pr a (min i d) f g) := hP
    have hSH : Hid (Sd R a (min i d) g) := hS
    clear hT hO hP hS
    by_cases hid : i < d
    · have hidI : (i : Int) < (d : Int) := by omega
      have hX2 : Hid (∀ k, a ≤ k → k < i → (ltE c (g i) (g k) = true → R (g i) (g k)) ∧ (ltE c (g i) (g k) = false → R (g k) (g i))) := by
        have e1 : g i = f i := hPH.out.out (by omega)
        have hm : min i d = i := by omega
        have hp := hPH.out
        rw [hm] at hp
        show ∀ k, a ≤ k → k < i → _
        rw [e1]
        exact hp.all (P := fun e => (ltE c (f i) e = true → R (f i) e) ∧ (ltE c (f i) e = false → R e (f i))) fun k k1 k2 => HX.out k i k1 k2 hid
      have hm : min i d = i := by omega
      rw [hm] at hPH hSH
      go_wp2_with fail
      go_loopw [9] (fun vj wq => ∃ j : Nat, vj = .int .i64 (j : Int) ∧ a ≤ j ∧ j ≤ i ∧ (∀ k, j ≤ k → k < i → R (g i) (g k)) ∧ TR wq b off n (fs (rot g j i (i + 1))) ∧ OB b w wq) (fun vj _ => (intOf vj).toNat)
      case atStart => exact ⟨i, rfl, by omega, Nat.le_refl _, fun k _ _ => by omega, by rw [rot_end]; exact hTH.out, hOH.out⟩
      case round =>
        clear hTH hOH
        obtain ⟨j, rfl, haj, hji, hlo, hT, hO⟩ := hrel
        have hTH : Hid (TR wr b off n (fs (rot g j i (i + 1)))) := hT
        have hOH : Hid (OB b w wr) := hO
        have hloH : Hid (∀ k, j ≤ k → k < i → R (g i) (g k)) := hlo
        clear hlo
        obtain ⟨gj, gl⟩ := rot_bwd_at g hji
        have kw : IntKind.i64.wrap ((i : Int) + 1) = ((i + 1 : Nat) : Int) := IntWalk.i64_in _ (by omega)
        have done : Hid ((∀ k, a ≤ k → k < j → R (g k) (g i)) → ∀ W, TR W b off n (fs (rot g j i (i + 1))) → OB b w W → ∃ (i' : Nat) (g' : Nat → En), Value.int .i64 ((i + 1 : Nat) : Int) = .int .i64 (i' : Int) ∧ a < i' ∧ (i' ≤ d ∨ i' = a + 1) ∧ Pr a (min i' d) f g' ∧ Sd R a (min i' d) g' ∧ TR W b off n (fs g') ∧ OB b w W) := fun hl W T O => by
          refine ⟨i + 1, rot g j i (i + 1), rfl, by omega, by omega, ?_, ?_, T, O⟩
          · rw [show min (i + 1) d = i + 1 by omega]
            exact (hPH.out.wide (Nat.le_refl _) (by omega)).trans ((rot_pr g hji (by omega)).wide haj (Nat.le_refl _))
          · rw [show min (i + 1) d = i + 1 by omega]
            exact one_dn haj hji hSH.out hl hloH.out
        by_cases hja : a < j
        · have hjaI : (a : Int) < (j : Int) := by omega
          obtain ⟨⟨a1, a2⟩, a3, a4⟩ := hT.2 j (by omega)
          obtain ⟨⟨b1, b2⟩, b3, b4⟩ := hT.2 (j - 1) (by omega)
          have ej : fs (rot g j i (i + 1)) j = (g i).1 := by unfold fs; rw [gj]
          have ep : fs (rot g j i (i + 1)) (j - 1) = (g (j - 1)).1 := by unfold fs; rw [gl _ (by omega)]
          rw [ej] at a1 a2
          rw [ep] at b1 b2
          have C := HC.out (g i).1 (g (j - 1)).1
          have hx := hX2.out (j - 1) (by omega) (by omega)
          have ltv : ltE c (g i) (g (j - 1)) = decide (c (g i).1 (g (j - 1)).1 < 0) := rfl
          rw [ltv] at hx
          have CH : Hid (∀ W, Calls Tryz.prog 85 #[.agg #[.string (g i).1.1, .string (g i).1.2], .agg #[.string (g (j - 1)).1.1, .string (g (j - 1)).1.2]] W fun e w' => e = .returned (.int .i64 (c (g i).1 (g (j - 1)).1)) ∧ Below W.heap.size W w') := C
          have hxH : Hid _ := hx
          obtain ⟨cv, hcv⟩ : ∃ cv, cv = c (g i).1 (g (j - 1)).1 := ⟨_, rfl⟩
          rw [← hcv] at CH hxH
          have tn : ((j : Int) - 1).toNat = j - 1 := by omega
          have i1 : (0 : Int) ≤ (j : Int) := by omega
          have i2 : (j : Int) < (n : Int) := by omega
          have i3 : (0 : Int) ≤ (j : Int) - 1 := by omega
          have i4 : (j : Int) - 1 < (n : Int) := by omega
          have i5 : (1 : Int) ≤ (j : Int) := by omega
          have jw : IntKind.i64.wrap ((j : Int) - 1) = (j : Int) - 1 := IntWalk.i64_in _ (by omega)
          clear hT hO C hx hcv ltv ej ep gj gl
          obtain ⟨x, hx⟩ : ∃ x, x = (g i).1 := ⟨_, rfl⟩
          obtain ⟨y, hy⟩ : ∃ y, y = (g (j - 1)).1 := ⟨_, rfl⟩
          rw [← hx] at a1 a2 CH
          rw [← hy] at b1 b2 CH
          have hxy : Hid (fs (rot g j i (i + 1)) j = x ∧ fs (rot g j i (i + 1)) (j - 1) = y) := by
            obtain ⟨gj, gl⟩ := rot_bwd_at g hji
            exact ⟨by unfold fs; rw [gj, hx], by unfold fs; rw [gl _ (by omega), hy]⟩
          clear hx hy
          have bl : b < wr.heap.size := hTH.out.1
          by_cases hcc : cv < 0
          · have hcc2 : decide (cv < 0) = true := decide_eq_true hcc
            have hR := hxH.out.1 hcc2
            have hRH : Hid (R (g i) (g (j - 1))) := hR
            clear hR
            go_wp2_with fail
            refine wp_region_noPanic ?_
            refine wp_region_held_drew (S := (fun W => (W.cell? ⟨b, off + j * 2, none⟩ = some (.string x.1) ∧ W.cell? ⟨b, off + j * 2 + 1, none⟩ = some (.string x.2)) ∧ W.cell? ⟨b, off + (j - 1) * 2, none⟩ = some (.string y.1) ∧ W.cell? ⟨b, off + (j - 1) * 2 + 1, none⟩ = some (.string y.2))) (by kernel_rfl) ⟨⟨a1, a2⟩, b1, b2⟩ (fun hHeld => ?_)
            refine zT 0 (v := ?_) rfl ?_ ?_
            rotate_left 1
            · (intro w0 hSw; (try dsimp only at hSw); obtain ⟨⟨s1, s2⟩, s3, s4⟩ := hSw; go_simp; try with_reducible rfl)
            (try simp only [z1, z2, z3]); (try simp only [Act.put, z4, z5, z6])
            refine zT 1 (v := ?_) rfl ?_ ?_
            rotate_left 1
            · (intro w0 hSw; (try dsimp only at hSw); obtain ⟨⟨s1, s2⟩, s3, s4⟩ := hSw; go_simp; try with_reducible rfl)
            (try simp only [z1, z2, z3]); (try simp only [Act.put, z4, z5, z6])
            refine zT 2 (v := ?_) rfl ?_ ?_
            rotate_left 1
            · (intro w0 hSw; (try dsimp only at hSw); obtain ⟨⟨s1, s2⟩, s3, s4⟩ := hSw; go_simp; try with_reducible rfl)
            (try simp only [z1, z2, z3]); (try simp only [Act.put, z4, z5, z6])
            refine zT 3 (v := ?_) rfl ?_ ?_
            rotate_left 1
            · (intro w0 hSw; (try dsimp only at hSw); obtain ⟨⟨s1, s2⟩, s3, s4⟩ := hSw; go_simp; try with_reducible rfl)
            (try simp only [z1, z2, z3]); (try simp only [Act.put, z4, z5, z6])
            refine zT 4 (v := ?_) rfl ?_ ?_
            rotate_left 1
            · (intro w0 hSw; (try dsimp only at hSw); obtain ⟨⟨s1, s2⟩, s3, s4⟩ := hSw; go_simp; try with_reducible rfl)
            (try simp only [z1, z2, z3]); (try simp only [Act.put, z4, z5, z6])
            refine zT 5 (v := ?_) rfl ?_ ?_
            rotate_left 1
            · (intro w0 hSw; (try dsimp only at hSw); obtain ⟨⟨s1, s2⟩, s3, s4⟩ := hSw; go_simp; try with_reducible rfl)
            (try simp only [z1, z2, z3]); (try simp only [Act.put, z4, z5, z6])
            refine zT 6 (v := ?_) rfl ?_ ?_
            rotate_left 1
            · (intro w0 hSw; (try dsimp only at hSw); obtain ⟨⟨s1, s2⟩, s3, s4⟩ := hSw; go_simp; try with_reducible rfl)
            (try simp only [z1, z2, z3]); (try simp only [Act.put, z4, z5, z6])
            refine zT 7 (v := ?_) rfl ?_ ?_
            rotate_left 1
            · (intro w0 hSw; (try dsimp only at hSw); obtain ⟨⟨s1, s2⟩, s3, s4⟩ := hSw; go_simp; try with_reducible rfl)
            (try simp only [z1, z2, z3]); (try simp only [Act.put, z4, z5, z6])
            refine zT 8 (v := ?_) rfl ?_ ?_
            rotate_left 1
            · (intro w0 hSw; (try dsimp only at hSw); obtain ⟨⟨s1, s2⟩, s3, s4⟩ := hSw; go_simp; try with_reducible rfl)
            (try simp only [z1, z2, z3]); (try simp only [Act.put, z4, z5, z6])
            refine zT 9 (v := ?_) rfl ?_ ?_
            rotate_left 1
            · (intro w0 hSw; (try dsimp only at hSw); obtain ⟨⟨s1, s2⟩, s3, s4⟩ := hSw; go_simp; try with_reducible rfl)
            (try simp only [z1, z2, z3]); (try simp only [Act.put, z4, z5, z6])
            refine zT 10 (v := ?_) rfl ?_ ?_
            rotate_left 1
            · (intro w0 hSw; (try dsimp only at hSw); obtain ⟨⟨s1, s2⟩, s3, s4⟩ := hSw; go_simp; try with_reducible rfl)
            (try simp only [z1, z2, z3]); (try simp only [Act.put, z4, z5, z6])
            refine zT 11 (v := ?_) rfl ?_ ?_
            rotate_left 1
            · (intro w0 hSw; (try dsimp only at hSw); obtain ⟨⟨s1, s2⟩, s3, s4⟩ := hSw; go_simp; try with_reducible rfl)
            (try simp only [z1, z2, z3]); (try simp only [Act.put, z4, z5, z6])
            refine zT 12 (v := ?_) rfl ?_ ?_
            rotate_left 1
            · (intro w0 hSw; (try dsimp only at hSw); obtain ⟨⟨s1, s2⟩, s3, s4⟩ := hSw; go_simp; try with_reducible rfl)
            (try simp only [z1, z2, z3]); (try simp only [Act.put, z4, z5, z6])
            refine zT 13 (v := ?_) rfl ?_ ?_
            rotate_left 1
            · (intro w0 hSw; (try dsimp only at hSw); obtain ⟨⟨s1, s2⟩, s3, s4⟩ := hSw; go_simp; try with_reducible rfl)
            (try simp only [z1, z2, z3]); (try simp only [Act.put, z4, z5, z6])
            refine wpAnyH_ready (rs := [14]) (by kernel_rfl) (by simp) ?_
            refine AllReadyH.cons (o := _) rfl (fun K hK => ?_) AllReadyH.nil
            go_simp
            refine Calls.mono (CH.out _) ?_
            rintro e w' ⟨rfl, BB⟩
            try dsimp only
            refine hK _ _ ?_ (fun hHeld => ?_)
            · exact ⟨⟨by rw [BB.cell (p := ⟨b, off + j * 2, none⟩) bl]; exact a1, by rw [BB.cell (p := ⟨b, off + j * 2 + 1, none⟩) bl]; exact a2⟩, by rw [BB.cell (p := ⟨b, off + (j - 1) * 2, none⟩) bl]; exact b1, by rw [BB.cell (p := ⟨b, off + (j - 1) * 2 + 1, none⟩) bl]; exact b2⟩
            clear hK K
            (try simp only [z1, z2, z3]); (try simp only [Act.put, z4, z5, z6])
            refine zT 15 (v := ?_) rfl ?_ ?_
            rotate_left 1
            · (intro w0 hSw; (try dsimp only at hSw); obtain ⟨⟨s1, s2⟩, s3, s4⟩ := hSw; go_simp; try with_reducible rfl)
            (try simp only [z1, z2, z3]); (try simp only [Act.put, z4, z5, z6])
            refine zT 16 (v := ?_) rfl ?_ ?_
            rotate_left 1
            · (intro w0 hSw; (try dsimp only at hSw); obtain ⟨⟨s1, s2⟩, s3, s4⟩ := hSw; go_simp; try with_reducible rfl)
            (try simp only [z1, z2, z3]); (try simp only [Act.put, z4, z5, z6])
            refine wpAnyH_done (by kernel_rfl) ?_ _
            refine NoPanic.normal ?_
            have T2 : TR w' b off n (fs (rot g j i (i + 1))) := TR.below (show TR wr.drew b off n (fs (rot g j i (i + 1))) from hTH.out) BB
            have O2 : Hid (OB b w w') := (show OB b w wr.drew from hOH.out.drew).trans (OB.below BB)
            obtain ⟨⟨c1, c2⟩, c3, c4⟩ := T2.2 j (by omega)
            obtain ⟨⟨d1, d2⟩, d3, d4⟩ := T2.2 (j - 1) (by omega)
            rw [hxy.out.1] at c1 c2
            rw [hxy.out.2] at d1 d2
            have T2H : Hid (TR w' b off n (fs (rot g j i (i + 1)))) := T2
            have q1 : ¬ off + j * 2 = off + (j - 1) * 2 := by omega
            have q2 : ¬ off + j * 2 = off + (j - 1) * 2 + 1 := by omega
            have q3 : ¬ off + j * 2 + 1 = off + (j - 1) * 2 := by omega
            have q4 : ¬ off + j * 2 + 1 = off + (j - 1) * 2 + 1 := by omega
            have q5 : ¬ j = j - 1 := by omega
            clear T2 a1 a2 a3 a4 b1 b2 b3 b4 BB
            go_wp2_with fail
            go_region
            have T3 : TR ((((w'.setCell ⟨b, off + j * 2, none⟩ (.string y.1)).setCell ⟨b, off + j * 2 + 1, none⟩ (.string y.2)).setCell ⟨b, off + (j - 1) * 2, none⟩ (.string x.1)).setCell ⟨b, off + (j - 1) * 2 + 1, none⟩ (.string x.2)) b off n (fs (rot g (j - 1) i (i + 1))) := by
              rw [← rot_bwd g i j (by omega) hji, fs_sw, sw_upd2, hxy.out.1, hxy.out.2]
              exact TR.set (TR.set T2H.out (show j < n by omega) _ _) (show j - 1 < n by omega) _ _
            have O3 : OB b w ((((w'.setCell ⟨b, off + j * 2, none⟩ (.string y.1)).setCell ⟨b, off + j * 2 + 1, none⟩ (.string y.2)).setCell ⟨b, off + (j - 1) * 2, none⟩ (.string x.1)).setCell ⟨b, off + (j - 1) * 2 + 1, none⟩ (.string x.2)) := (((O2.out.trans (OB.set _ _ _)).trans (OB.set _ _ _)).trans (OB.set _ _ _)).trans (OB.set _ _ _)
            generalize ((((w'.setCell ⟨b, off + j * 2, none⟩ (.string y.1)).setCell ⟨b, off + j * 2 + 1, none⟩ (.string y.2)).setCell ⟨b, off + (j - 1) * 2, none⟩ (.string x.1)).setCell ⟨b, off + (j - 1) * 2 + 1, none⟩ (.string x.2)) = W3 at T3 O3 ⊢
            have T3H : Hid (TR W3 b off n (fs (rot g (j - 1) i (i + 1)))) := T3
            have O3H : Hid (OB b w W3) := O3
            clear T3 O3 T2H O2 c1 c2 c3 c4 d1 d2 d3 d4
            go_wp2_with fail
            exact ⟨⟨j - 1, by congr 1; omega, by omega, by omega, fun k k1 k2 => by
              rcases Nat.lt_or_ge k j with kk | kk
              · have : k = j - 1 := by omega
                subst this; exact hRH.out
              · exact hloH.out k kk k2, T3H.out, O3H.out.drew⟩, by simp [intOf]; omega⟩
          · have hcc2 : decide (cv < 0) = false := decide_eq_false hcc
            have hR := hxH.out.2 hcc2
            have hRH : Hid (R (g (j - 1)) (g i)) := hR
            clear hR
            go_wp2_with fail
            refine wp_region_noPanic ?_
            refine wp_region_held_drew (S := (fun W => (W.cell? ⟨b, off + j * 2, none⟩ = some (.string x.1) ∧ W.cell? ⟨b, off + j * 2 + 1, none⟩ = some (.string x.2)) ∧ W.cell? ⟨b, off + (j - 1) * 2, none⟩ = some (.string y.1) ∧ W.cell? ⟨b, off + (j - 1) * 2 + 1, none⟩ = some (.string y.2))) (by kernel_rfl) ⟨⟨a1, a2⟩, b1, b2⟩ (fun hHeld => ?_)
            refine zT 0 (v := ?_) rfl ?_ ?_
            rotate_left 1
            · (intro w0 hSw; (try dsimp only at hSw); obtain ⟨⟨s1, s2⟩, s3, s4⟩ := hSw; go_simp; try with_reducible rfl)
            (try simp only [z1, z2, z3]); (try simp only [Act.put, z4, z5, z6])
            refine zT 1 (v := ?_) rfl ?_ ?_
            rotate_left 1
            · (intro w0 hSw; (try dsimp only at hSw); obtain ⟨⟨s1, s2⟩, s3, s4⟩ := hSw; go_simp; try with_reducible rfl)
            (try simp only [z1, z2, z3]); (try simp only [Act.put, z4, z5, z6])
            refine zT 2 (v := ?_) rfl ?_ ?_
            rotate_left 1
            · (intro w0 hSw; (try dsimp only at hSw); obtain ⟨⟨s1, s2⟩, s3, s4⟩ := hSw; go_simp; try with_reducible rfl)
            (try simp only [z1, z2, z3]); (try simp only [Act.put, z4, z5, z6])
            refine zT 3 (v := ?_) rfl ?_ ?_
            rotate_left 1
            · (intro w0 hSw; (try dsimp only at hSw); obtain ⟨⟨s1, s2⟩, s3, s4⟩ := hSw; go_simp; try with_reducible rfl)
            (try simp only [z1, z2, z3]); (try simp only [Act.put, z4, z5, z6])
            refine zT 4 (v := ?_) rfl ?_ ?_
            rotate_left 1
            · (intro w0 hSw; (try dsimp only at hSw); obtain ⟨⟨s1, s2⟩, s3, s4⟩ := hSw; go_simp; try with_reducible rfl)
            (try simp only [z1, z2, z3]); (try simp only [Act.put, z4, z5, z6])
            refine zT 5 (v := ?_) rfl ?_ ?_
            rotate_left 1
            · (intro w0 hSw; (try dsimp only at hSw); obtain ⟨⟨s1, s2⟩, s3, s4⟩ := hSw; go_simp; try with_reducible rfl)
            (try simp only [z1, z2, z3]); (try simp only [Act.put, z4, z5, z6])
            refine zT 6 (v := ?_) rfl ?_ ?_
            rotate_left 1
            · (intro w0 hSw; (try dsimp only at hSw); obtain ⟨⟨s1, s2⟩, s3, s4⟩ := hSw; go_simp; try with_reducible rfl)
            (try simp only [z1, z2, z3]); (try simp only [Act.put, z4, z5, z6])
            refine zT 7 (v := ?_) rfl ?_ ?_
            rotate_left 1
            · (intro w0 hSw; (try dsimp only at hSw); obtain ⟨⟨s1, s2⟩, s3, s4⟩ := hSw; go_simp; try with_reducible rfl)
            (try simp only [z1, z2, z3]); (try simp only [Act.put, z4, z5, z6])
            refine zT 8 (v := ?_) rfl ?_ ?_
            rotate_left 1
            · (intro w0 hSw; (try dsimp only at hSw); obtain ⟨⟨s1, s2⟩, s3, s4⟩ := hSw; go_simp; try with_reducible rfl)
            (try simp only [z1, z2, z3]); (try simp only [Act.put, z4, z5, z6])
            refine zT 9 (v := ?_) rfl ?_ ?_
            rotate_left 1
            · (intro w0 hSw; (try dsimp only at hSw); obtain ⟨⟨s1, s2⟩, s3, s4⟩ := hSw; go_simp; try with_reducible rfl)
            (try simp only [z1, z2, z3]); (try simp only [Act.put, z4, z5, z6])
            refine zT 10 (v := ?_) rfl ?_ ?_
            rotate_left 1
            · (intro w0 hSw; (try dsimp only at hSw); obtain ⟨⟨s1, s2⟩, s3, s4⟩ := hSw; go_simp; try with_reducible rfl)
            (try simp only [z1, z2, z3]); (try simp only [Act.put, z4, z5, z6])
            refine zT 11 (v := ?_) rfl ?_ ?_
            rotate_left 1
            · (intro w0 hSw; (try dsimp only at hSw); obtain ⟨⟨s1, s2⟩, s3, s4⟩ := hSw; go_simp; try with_reducible rfl)
            (try simp only [z1, z2, z3]); (try simp only [Act.put, z4, z5, z6])
            refine zT 12 (v := ?_) rfl ?_ ?_
            rotate_left 1
            · (intro w0 hSw; (try dsimp only at hSw); obtain ⟨⟨s1, s2⟩, s3, s4⟩ := hSw; go_simp; try with_reducible rfl)
            (try simp only [z1, z2, z3]); (try simp only [Act.put, z4, z5, z6])
            refine zT 13 (v := ?_) rfl ?_ ?_
            rotate_left 1
            · (intro w0 hSw; (try dsimp only at hSw); obtain ⟨⟨s1, s2⟩, s3, s4⟩ := hSw; go_simp; try with_reducible rfl)
            (try simp only [z1, z2, z3]); (try simp only [Act.put, z4, z5, z6])
            refine wpAnyH_ready (rs := [14]) (by kernel_rfl) (by simp) ?_
            refine AllReadyH.cons (o := _) rfl (fun K hK => ?_) AllReadyH.nil
            go_simp
            refine Calls.mono (CH.out _) ?_
            rintro e w' ⟨rfl, BB⟩
            try dsimp only
            refine hK _ _ ?_ (fun hHeld => ?_)
            · exact ⟨⟨by rw [BB.cell (p := ⟨b, off + j * 2, none⟩) bl]; exact a1, by rw [BB.cell (p := ⟨b, off + j * 2 + 1, none⟩) bl]; exact a2⟩, by rw [BB.cell (p := ⟨b, off + (j - 1) * 2, none⟩) bl]; exact b1, by rw [BB.cell (p := ⟨b, off + (j - 1) * 2 + 1, none⟩) bl]; exact b2⟩
            clear hK K
            (try simp only [z1, z2, z3]); (try simp only [Act.put, z4, z5, z6])
            refine zT 15 (v := ?_) rfl ?_ ?_
            rotate_left 1
            · (intro w0 hSw; (try dsimp only at hSw); obtain ⟨⟨s1, s2⟩, s3, s4⟩ := hSw; go_simp; try with_reducible rfl)
            (try simp only [z1, z2, z3]); (try simp only [Act.put, z4, z5, z6])
            refine zT 16 (v := ?_) rfl ?_ ?_
            rotate_left 1
            · (intro w0 hSw; (try dsimp only at hSw); obtain ⟨⟨s1, s2⟩, s3, s4⟩ := hSw; go_simp; try with_reducible rfl)
            (try simp only [z1, z2, z3]); (try simp only [Act.put, z4, z5, z6])
            refine wpAnyH_done (by kernel_rfl) ?_ _
            refine NoPanic.normal ?_
            have T2H : Hid (TR w' b off n (fs (rot g j i (i + 1)))) := TR.below (show TR wr.drew b off n (fs (rot g j i (i + 1))) from hTH.out) BB
            have O2 : Hid (OB b w w') := (show OB b w wr.drew from hOH.out.drew).trans (OB.below BB)
            clear a1 a2 a3 a4 b1 b2 b3 b4 BB
            go_wp2_with fail
            exact ⟨done.out (fun k k1 k2 => hSH.out.dn tr k1 (show k ≤ j - 1 by omega) (by omega) hRH.out) _ T2H.out O2.out, by simp [intOf]; omega⟩
        · have hja2 : ¬ (a : Int) < (j : Int) := by omega
          have hja3 : decide ((a : Int) < (j : Int)) = false := decide_eq_false hja2
          clear hT hO gj gl
          go_wp2_with fail
          go_quiet (fail)
          go_wp2_with fail
          exact ⟨done.out (fun k k1 k2 => by omega) _ hTH.out ⟨hOH.out.size, hOH.out.keep, hOH.out.shp, hOH.out.same⟩, by simp [intOf]; omega⟩
    · have hie : ¬ (i : Int) < (d : Int) := by omega
      have hm : min i d = d := by omega
      rw [hm] at hPH hSH
      go_wp2_with fail
      go_end0
      exact ⟨rfl, g, hPH.out, hSH.out, hTH.out, hOH.out⟩
end Go.Proofs.YtbojljmacheccaaGreatDoor.So

namespace Go.Proofs.YtbojljmacheccaaGreatDoor.So
open Go.RowKit
set_option linter.unusedVariables false
set_option linter.unusedSimpArgs false
set_option maxRecDepth 100000 in
set_option maxHeartbeats 4000000 in
/-- symMerge of one entry and a row. -/
theorem sym_up (R : En → En → Prop) (c : Tg → Tg → Int) (hC : CmpA 85 c) (b off n cap : Nat) (f : Nat → En) (a d : Nat) (w : World) (h : TR w b off n (fs f)) (ha : a + 1 < d) (hd : d ≤ n) (hn : n ≤ 4611686018427387904)
    (X : Xs R (ltE c) a (a + 1) d f) (S : Sd R (a + 1) d f) (tr : ∀ x y z, R x y → R y z → R x z) :
    Calls Tryz.prog 159 #[.slice (some ⟨b, off, none⟩) n cap, .int .i64 (a : Int), .int .i64 ((a + 1 : Nat) : Int), .int .i64 (d : Int), .func (.func 85) #[] #[]] w fun e w' => e = .returned undef ∧ ∃ g, Pr a d f g ∧ Sd R a d g ∧ TR w' b off n (fs g) ∧ OB b w w' := by
  have H0 : Hid (TR w b off n (fs f)) := h
  have HX : Hid (Xs R (ltE c) a (a + 1) d f) := X
  have HS : Hid (Sd R (a + 1) d f) := S
  have HC : Hid (CmpA 85 c) := hC
  clear h X hC S
  have z0 : ((a + 1 : Nat) : Int) - (a : Int) = 1 := by omega
  generalize hm : a + 1 = m at *
  have z1 : IntKind.i64.wrap ((m : Int) - (a : Int)) = 1 := by rw [z0]; rfl
  have z2 : (((m : Int) - (a : Int)) == 1) = true := by rw [z0]; rfl
  go_enter Tryz.func159, Tryz.ntmps159
  go_wp2_with fail
  go_loopw [10, 11] (fun vi vj wr => ∃ i j : Nat, vi = .int .i64 (i : Int) ∧ vj = .int .i64 (j : Int) ∧ m ≤ i ∧ i ≤ j ∧ j ≤ d ∧ (∀ k, m ≤ k → k < i → R (f k) (f a)) ∧ (∀ k, j ≤ k → k < d → R (f a) (f k)) ∧ TR wr b off n (fs f) ∧ OB b w wr) (fun vi vj _ => (intOf vj).toNat - (intOf vi).toNat)
  case atStart => exact ⟨m, d, rfl, rfl, Nat.le_refl _, by omega, Nat.le_refl _, fun k _ _ => by omega, fun k _ _ => by omega, H0.out, OB.refl _ _⟩
  case round =>
    clear H0
    obtain ⟨i, j, rfl, rfl, mi, ij, jd, lo, hi, hT, hO⟩ := hrel
    by_cases hij : i < j
    · have hijI : (i : Int) < (j : Int) := by omega
      have u1 : IntKind.i64.wrap ((i : Int) + (j : Int)) = (i : Int) + (j : Int) := IntWalk.i64_in _ (by omega)
      have u2 : IntKind.u64.wrap ((i : Int) + (j : Int)) = (i : Int) + (j : Int) := by rw [IntKind.wrap_u64]; omega
      obtain ⟨q, hq⟩ : ∃ q : Nat, q = (i + j) / 2 := ⟨_, rfl⟩
      have hqI : Hid (((i : Int) + (j : Int)) / 2 = (q : Int)) := by show _ = _; omega
      have qi : i ≤ q := by omega
      have qj : q < j := by omega
      clear hq
      have q0 : (0 : Int) ≤ (q : Int) := by omega
      have q1 : (q : Int) < (n : Int) := by omega
      have p0 : (0 : Int) ≤ (a : Int) := by omega
      have p1 : (a : Int) < (n : Int) := by omega
      obtain ⟨⟨a1, a2⟩, _, _⟩ := hT.2 q (by omega)
      obtain ⟨⟨b1, b2⟩, _, _⟩ := hT.2 a (by omega)
      have hTH : Hid (TR wr b off n (fs f)) := hT
      have hOH : Hid (OB b w wr) := hO
      have loH : Hid (∀ k, m ≤ k → k < i → R (f k) (f a)) := lo
      have hiH : Hid (∀ k, j ≤ k → k < d → R (f a) (f k)) := hi
      have bl : b < wr.heap.size := hT.1
      have hx := HX.out a q (Nat.le_refl _) (by omega) (by omega) (by omega)
      have CH := HC.out (fs f q) (fs f a)
      have CH : Hid _ := CH
      have ltv : ltE c (f q) (f a) = decide (c (fs f q) (fs f a) < 0) := rfl
      rw [ltv] at hx
      have hxH : Hid _ := hx
      generalize c (fs f q) (fs f a) = cv at CH hxH
      generalize fs f q = x at a1 a2 CH
      generalize fs f a = y at b1 b2 CH
      clear hT hO lo hi hx ltv
      by_cases hcc : cv < 0
      · have hcc2 : decide (cv < 0) = true := decide_eq_true hcc
        have hRH : Hid (R (f q) (f a)) := hxH.out.1 hcc2
        go_wp2_with fail
        rw [hqI.out]
        refine wp_region_noPanic ?_
        refine wp_region_held_drew (S := fun W => (W.cell? ⟨b, off + q * 2, none⟩ = some (.string x.1) ∧ W.cell? ⟨b, off + q * 2 + 1, none⟩ = some (.string x.2)) ∧ W.cell? ⟨b, off + a * 2, none⟩ = some (.string y.1) ∧ W.cell? ⟨b, off + a * 2 + 1, none⟩ = some (.string y.2)) (by kernel_rfl) ⟨⟨a1, a2⟩, b1, b2⟩ (fun hHeld => ?_)
        refine zT 0 (v := ?_) rfl ?_ ?_
        rotate_left 1
        · (intro w0 hSw; (try dsimp only at hSw); obtain ⟨⟨s1, s2⟩, s3, s4⟩ := hSw; go_simp; try with_reducible rfl)
        (try simp only [z1, z2, z3]); (try simp only [Act.put, z4, z5, z6])
        refine zT 1 (v := ?_) rfl ?_ ?_
        rotate_left 1
        · (intro w0 hSw; (try dsimp only at hSw); obtain ⟨⟨s1, s2⟩, s3, s4⟩ := hSw; go_simp; try with_reducible rfl)
        (try simp only [z1, z2, z3]); (try simp only [Act.put, z4, z5, z6])
        refine zT 2 (v := ?_) rfl ?_ ?_
        rotate_left 1
        · (intro w0 hSw; (try dsimp only at hSw); obtain ⟨⟨s1, s2⟩, s3, s4⟩ := hSw; go_simp; try with_reducible rfl)
        (try simp only [z1, z2, z3]); (try simp only [Act.put, z4, z5, z6])
        refine zT 3 (v := ?_) rfl ?_ ?_
        rotate_left 1
        · (intro w0 hSw; (try dsimp only at hSw); obtain ⟨⟨s1, s2⟩, s3, s4⟩ := hSw; go_simp; try with_reducible rfl)
        (try simp only [z1, z2, z3]); (try simp only [Act.put, z4, z5, z6])
        refine zT 4 (v := ?_) rfl ?_ ?_
        rotate_left 1
        · (intro w0 hSw; (try dsimp only at hSw); obtain ⟨⟨s1, s2⟩, s3, s4⟩ := hSw; go_simp; try with_reducible rfl)
        (try simp only [z1, z2, z3]); (try simp only [Act.put, z4, z5, z6])
        refine zT 5 (v := ?_) rfl ?_ ?_
        rotate_left 1
        · (intro w0 hSw; (try dsimp only at hSw); obtain ⟨⟨s1, s2⟩, s3, s4⟩ := hSw; go_simp; try with_reducible rfl)
        (try simp only [z1, z2, z3]); (try simp only [Act.put, z4, z5, z6])
        refine zT 6 (v := ?_) rfl ?_ ?_
        rotate_left 1
        · (intro w0 hSw; (try dsimp only at hSw); obtain ⟨⟨s1, s2⟩, s3, s4⟩ := hSw; go_simp; try with_reducible rfl)
        (try simp only [z1, z2, z3]); (try simp only [Act.put, z4, z5, z6])
        refine zT 7 (v := ?_) rfl ?_ ?_
        rotate_left 1
        · (intro w0 hSw; (try dsimp only at hSw); obtain ⟨⟨s1, s2⟩, s3, s4⟩ := hSw; go_simp; try with_reducible rfl)
        (try simp only [z1, z2, z3]); (try simp only [Act.put, z4, z5, z6])
        refine zT 8 (v := ?_) rfl ?_ ?_
        rotate_left 1
        · (intro w0 hSw; (try dsimp only at hSw); obtain ⟨⟨s1, s2⟩, s3, s4⟩ := hSw; go_simp; try with_reducible rfl)
        (try simp only [z1, z2, z3]); (try simp only [Act.put, z4, z5, z6])
        refine wpAnyH_ready (rs := [9]) (by kernel_rfl) (by simp) ?_
        refine AllReadyH.cons (o := _) rfl (fun K hK => ?_) AllReadyH.nil
        go_simp
        refine Calls.mono (CH.out _) ?_
        rintro e w' ⟨rfl, BB⟩
        try dsimp only
        refine hK _ _ ?_ (fun hHeld => ?_)
        · exact ⟨⟨by rw [BB.cell (p := ⟨b, off + q * 2, none⟩) bl]; exact a1, by rw [BB.cell (p := ⟨b, off + q * 2 + 1, none⟩) bl]; exact a2⟩, by rw [BB.cell (p := ⟨b, off + a * 2, none⟩) bl]; exact b1, by rw [BB.cell (p := ⟨b, off + a * 2 + 1, none⟩) bl]; exact b2⟩
        clear hK K
        (try simp only [z1, z2, z3]); (try simp only [Act.put, z4, z5, z6])
        refine zT 10 (v := ?_) rfl ?_ ?_
        rotate_left 1
        · (intro w0 hSw; (try dsimp only at hSw); obtain ⟨⟨s1, s2⟩, s3, s4⟩ := hSw; go_simp; try with_reducible rfl)
        (try simp only [z1, z2, z3]); (try simp only [Act.put, z4, z5, z6])
        refine wpAnyH_done (by kernel_rfl) ?_ _
        refine NoPanic.normal ?_
        have T2H : Hid (TR w' b off n (fs f)) := TR.below (show TR wr.drew b off n (fs f) from hTH.out) BB
        have O2 : Hid (OB b w w') := (show OB b w wr.drew from hOH.out.drew).trans (OB.below BB)
        have qw : IntKind.i64.wrap ((q : Int) + 1) = ((q + 1 : Nat) : Int) := IntWalk.i64_in _ (by omega)
        clear a1 a2 b1 b2 BB
        go_wp2_with fail
        exact ⟨⟨q + 1, j, by first | rfl | simp, rfl, by omega, by omega, jd, fun k k1 k2 => HS.out.dn tr k1 (show k ≤ q by omega) (by omega) hRH.out, hiH.out, T2H.out, O2.out⟩, by simp [intOf]; omega⟩
      · have hcc2 : decide (cv < 0) = false := decide_eq_false hcc
        have hRH : Hid (R (f a) (f q)) := hxH.out.2 hcc2
        go_wp2_with fail
        rw [hqI.out]
        refine wp_region_noPanic ?_
        refine wp_region_held_drew (S := fun W => (W.cell? ⟨b, off + q * 2, none⟩ = some (.string x.1) ∧ W.cell? ⟨b, off + q * 2 + 1, none⟩ = some (.string x.2)) ∧ W.cell? ⟨b, off + a * 2, none⟩ = some (.string y.1) ∧ W.cell? ⟨b, off + a * 2 + 1, none⟩ = some (.string y.2)) (by kernel_rfl) ⟨⟨a1, a2⟩, b1, b2⟩ (fun hHeld => ?_)
        refine zT 0 (v := ?_) rfl ?_ ?_
        rotate_left 1
        · (intro w0 hSw; (try dsimp only at hSw); obtain ⟨⟨s1, s2⟩, s3, s4⟩ := hSw; go_simp; try with_reducible rfl)
        (try simp only [z1, z2, z3]); (try simp only [Act.put, z4, z5, z6])
        refine zT 1 (v := ?_) rfl ?_ ?_
        rotate_left 1
        · (intro w0 hSw; (try dsimp only at hSw); obtain ⟨⟨s1, s2⟩, s3, s4⟩ := hSw; go_simp; try with_reducible rfl)
        (try simp only [z1, z2, z3]); (try simp only [Act.put, z4, z5, z6])
        refine zT 2 (v := ?_) rfl ?_ ?_
        rotate_left 1
        · (intro w0 hSw; (try dsimp only at hSw); obtain ⟨⟨s1, s2⟩, s3, s4⟩ := hSw; go_simp; try with_reducible rfl)
        (try simp only [z1, z2, z3]); (try simp only [Act.put, z4, z5, z6])
        refine zT 3 (v := ?_) rfl ?_ ?_
        rotate_left 1
        · (intro w0 hSw; (try dsimp only at hSw); obtain ⟨⟨s1, s2⟩, s3, s4⟩ := hSw; go_simp; try with_reducible rfl)
        (try simp only [z1, z2, z3]); (try simp only [Act.put, z4, z5, z6])
        refine zT 4 (v := ?_) rfl ?_ ?_
        rotate_left 1
        · (intro w0 hSw; (try dsimp only at hSw); obtain ⟨⟨s1, s2⟩, s3, s4⟩ := hSw; go_simp; try with_reducible rfl)
        (try simp only [z1, z2, z3]); (try simp only [Act.put, z4, z5, z6])
        refine zT 5 (v := ?_) rfl ?_ ?_
        rotate_left 1
        · (intro w0 hSw; (try dsimp only at hSw); obtain ⟨⟨s1, s2⟩, s3, s4⟩ := hSw; go_simp; try with_reducible rfl)
        (try simp only [z1, z2, z3]); (try simp only [Act.put, z4, z5, z6])
        refine zT 6 (v := ?_) rfl ?_ ?_
        rotate_left 1
        · (intro w0 hSw; (try dsimp only at hSw); obtain ⟨⟨s1, s2⟩, s3, s4⟩ := hSw; go_simp; try with_reducible rfl)
        (try simp only [z1, z2, z3]); (try simp only [Act.put, z4, z5, z6])
        refine zT 7 (v := ?_) rfl ?_ ?_
        rotate_left 1
        · (intro w0 hSw; (try dsimp only at hSw); obtain ⟨⟨s1, s2⟩, s3, s4⟩ := hSw; go_simp; try with_reducible rfl)
        (try simp only [z1, z2, z3]); (try simp only [Act.put, z4, z5, z6])
        refine zT 8 (v := ?_) rfl ?_ ?_
        rotate_left 1
        · (intro w0 hSw; (try dsimp only at hSw); obtain ⟨⟨s1, s2⟩, s3, s4⟩ := hSw; go_simp; try with_reducible rfl)
        (try simp only [z1, z2, z3]); (try simp only [Act.put, z4, z5, z6])
        refine wpAnyH_ready (rs := [9]) (by kernel_rfl) (by simp) ?_
        refine AllReadyH.cons (o := _) rfl (fun K hK => ?_) AllReadyH.nil
        go_simp
        refine Calls.mono (CH.out _) ?_
        rintro e w' ⟨rfl, BB⟩
        try dsimp only
        refine hK _ _ ?_ (fun hHeld => ?_)
        · exact ⟨⟨by rw [BB.cell (p := ⟨b, off + q * 2, none⟩) bl]; exact a1, by rw [BB.cell (p := ⟨b, off + q * 2 + 1, none⟩) bl]; exact a2⟩, by rw [BB.cell (p := ⟨b, off + a * 2, none⟩) bl]; exact b1, by rw [BB.cell (p := ⟨b, off + a * 2 + 1, none⟩) bl]; exact b2⟩
        clear hK K
        (try simp only [z1, z2, z3]); (try simp only [Act.put, z4, z5, z6])
        refine zT 10 (v := ?_) rfl ?_ ?_
        rotate_left 1
        · (intro w0 hSw; (try dsimp only at hSw); obtain ⟨⟨s1, s2⟩, s3, s4⟩ := hSw; go_simp; try with_reducible rfl)
        (try simp only [z1, z2, z3]); (try simp only [Act.put, z4, z5, z6])
        refine wpAnyH_done (by kernel_rfl) ?_ _
        refine NoPanic.normal ?_
        have T2H : Hid (TR w' b off n (fs f)) := TR.below (show TR wr.drew b off n (fs f) from hTH.out) BB
        have O2 : Hid (OB b w w') := (show OB b w wr.drew from hOH.out.drew).trans (OB.below BB)
        clear a1 a2 b1 b2 BB
        go_wp2_with fail
        exact ⟨⟨i, q, rfl, by first | rfl | simp, mi, by omega, by omega, loH.out, fun k k1 k2 => HS.out.up tr (by omega) k1 k2 hRH.out, T2H.out, O2.out⟩, by simp [intOf]; omega⟩
    · have hije : i = j := by omega
      subst hije
      clear hij
      have hijI : ¬ (i : Int) < (i : Int) := by omega
      have fin : Hid (Pr a d f (rot f a m i) ∧ Sd R a d (rot f a m i)) := by
        subst hm
        exact ⟨(rot_pr f (by omega) mi).wide (Nat.le_refl _) jd, one_up mi jd HS.out lo hi⟩
      have hTH : Hid (TR wr b off n (fs (rot f a m m))) := by
        subst hm
        show TR wr b off n _
        rw [rot_start]; exact hT
      have hOH : Hid (OB b w wr) := hO
      have v1 : IntKind.i64.wrap ((i : Int) - 1) = (i : Int) - 1 := IntWalk.i64_in _ (by omega)
      clear hT hO lo hi
      go_wp2_with fail
      go_loopw [13] (fun vk wr => ∃ k : Nat, vk = .int .i64 (k : Int) ∧ a ≤ k ∧ k + 1 ≤ i ∧ TR wr b off n (fs (rot f a m (k + 1))) ∧ OB b w wr) (fun vk _ => i - (intOf vk).toNat)
      case atStart => exact ⟨a, rfl, Nat.le_refl _, by omega, by rw [hm]; exact hTH.out, hOH.out⟩
      case round =>
        clear hTH hOH
        obtain ⟨k, rfl, ak, ki, hT, hO⟩ := hrel
        by_cases hk : k + 1 < i
        · have hkI : (k : Int) < (i : Int) - 1 := by omega
          obtain ⟨⟨a1, a2⟩, a3, a4⟩ := hT.2 k (by omega)
          obtain ⟨⟨b1, b2⟩, b3, b4⟩ := hT.2 (k + 1) (by omega)
          obtain ⟨x, hx⟩ : ∃ x, x = fs (rot f a m (k + 1)) k := ⟨_, rfl⟩
          obtain ⟨y, hy⟩ : ∃ y, y = fs (rot f a m (k + 1)) (k + 1) := ⟨_, rfl⟩
          rw [← hx] at a1 a2
          rw [← hy] at b1 b2
          have hxH : Hid _ := hx
          have hyH : Hid _ := hy
          have hTH : Hid (TR wr b off n (fs (rot f a m (k + 1)))) := hT
          have hOH : Hid (OB b w wr) := hO
          clear hT hO hx hy
          have w1 : IntKind.i64.wrap ((k : Int) + 1) = (k : Int) + 1 := IntWalk.i64_in _ (by omega)
          have i1 : (0 : Int) ≤ (k : Int) := by omega
          have i2 : (k : Int) < (n : Int) := by omega
          have j1 : (0 : Int) ≤ (k : Int) + 1 := by omega
          have j2 : (k : Int) + 1 < (n : Int) := by omega
          have q1 : ¬ off + k * 2 = off + (k + 1) * 2 := by omega
          have q2 : ¬ off + k * 2 = off + (k + 1) * 2 + 1 := by omega
          have q3 : ¬ off + k * 2 + 1 = off + (k + 1) * 2 := by omega
          have q4 : ¬ off + k * 2 + 1 = off + (k + 1) * 2 + 1 := by omega
          go_wp2_with fail
          go_region
          have T3 : TR ((((wr.setCell ⟨b, off + k * 2, none⟩ (.string y.1)).setCell ⟨b, off + k * 2 + 1, none⟩ (.string y.2)).setCell ⟨b, off + (k + 1) * 2, none⟩ (.string x.1)).setCell ⟨b, off + (k + 1) * 2 + 1, none⟩ (.string x.2)) b off n (fs (rot f a m (k + 1 + 1))) := by
            have e := rot_fwd f a k ak
            rw [hm] at e
            rw [show k + 1 + 1 = k + 2 from rfl, ← e, fs_sw, sw_upd2, ← hxH.out, ← hyH.out]
            exact TR.set (TR.set hTH.out (show k < n by omega) _ _) (show k + 1 < n by omega) _ _
          have O3 : OB b w ((((wr.setCell ⟨b, off + k * 2, none⟩ (.string y.1)).setCell ⟨b, off + k * 2 + 1, none⟩ (.string y.2)).setCell ⟨b, off + (k + 1) * 2, none⟩ (.string x.1)).setCell ⟨b, off + (k + 1) * 2 + 1, none⟩ (.string x.2)) := (((hOH.out.trans (OB.set _ _ _)).trans (OB.set _ _ _)).trans (OB.set _ _ _)).trans (OB.set _ _ _)
          generalize ((((wr.setCell ⟨b, off + k * 2, none⟩ (.string y.1)).setCell ⟨b, off + k * 2 + 1, none⟩ (.string y.2)).setCell ⟨b, off + (k + 1) * 2, none⟩ (.string x.1)).setCell ⟨b, off + (k + 1) * 2 + 1, none⟩ (.string x.2)) = W3 at T3 O3 ⊢
          have T3H : Hid (TR W3 b off n (fs (rot f a m (k + 1 + 1)))) := T3
          have O3H : Hid (OB b w W3) := O3
          clear T3 O3 a1 a2 a3 a4 b1 b2 b3 b4
          go_wp2_with fail
          exact ⟨⟨k + 1, by first | rfl | simp, by omega, by omega, T3H.out, O3H.out.drew⟩, by simp [intOf]; omega⟩
        · have hke : k + 1 = i := by omega
          rw [hke] at hT
          have hkI : ¬ (k : Int) < (i : Int) - 1 := by omega
          have hTH : Hid (TR wr b off n (fs (rot f a m i))) := hT
          have hOH : Hid (OB b w wr) := hO
          clear hT hO hke
          go_wp2_with fail
          first | go_end0 | (simp only [Exit.inBlock, Exit.then]; refine bodyPost_ret (results_none rfl _ _ _) rfl ?_) | refine bodyPost_ret (results_none rfl _ _ _) rfl ?_
          exact ⟨rfl, _, fin.out.1, fin.out.2, hTH.out, hOH.out⟩
end Go.Proofs.YtbojljmacheccaaGreatDoor.So

namespace Go.Proofs.YtbojljmacheccaaGreatDoor.So
open Go.RowKit
set_option linter.unusedVariables false
set_option linter.unusedSimpArgs false
set_option maxRecDepth 100000 in
set_option maxHeartbeats 4000000 in
/-- symMerge of a row and one entry. -/
theorem sym_dn (R : En → En → Prop) (c : Tg → Tg → Int) (hC : CmpA 85 c) (b off n cap : Nat) (f : Nat → En) (a m : Nat) (w : World) (h : TR w b off n (fs f)) (ha : a + 1 < m) (hd : m + 1 ≤ n) (hn : n ≤ 4611686018427387904)
    (X : Xs R (ltE c) a m (m + 1) f) (S : Sd R a m f) (tr : ∀ x y z, R x y → R y z → R x z) :
    Calls Tryz.prog 159 #[.slice (some ⟨b, off, none⟩) n cap, .int .i64 (a : Int), .int .i64 (m : Int), .int .i64 ((m + 1 : Nat) : Int), .func (.func 85) #[] #[]] w fun e w' => e = .returned undef ∧ ∃ g, Pr a (m + 1) f g ∧ Sd R a (m + 1) g ∧ TR w' b off n (fs g) ∧ OB b w w' := by
  have H0 : Hid (TR w b off n (fs f)) := h
  have HX : Hid (Xs R (ltE c) a m (m + 1) f) := X
  have HS : Hid (Sd R a m f) := S
  have HC : Hid (CmpA 85 c) := hC
  clear h X hC S
  have z0 : ((m + 1 : Nat) : Int) - (m : Int) = 1 := by omega
  generalize hm : m + 1 = d at *
  have z1 : IntKind.i64.wrap ((d : Int) - (m : Int)) = 1 := by rw [z0]; rfl
  have z2 : (((d : Int) - (m : Int)) == 1) = true := by rw [z0]; rfl
  have y1 : IntKind.i64.wrap ((m : Int) - (a : Int)) = (m : Int) - (a : Int) := IntWalk.i64_in _ (by omega)
  have y2 : (((m : Int) - (a : Int)) == 1) = false := by rw [beq_eq_false_iff_ne]; omega
  go_enter Tryz.func159, Tryz.ntmps159
  go_wp2_with fail
  go_loopw [14, 15] (fun vi vj wr => ∃ i j : Nat, vi = .int .i64 (i : Int) ∧ vj = .int .i64 (j : Int) ∧ a ≤ i ∧ i ≤ j ∧ j ≤ m ∧ (∀ k, a ≤ k → k < i → R (f k) (f m)) ∧ (∀ k, j ≤ k → k < m → R (f m) (f k)) ∧ TR wr b off n (fs f) ∧ OB b w wr) (fun vi vj _ => (intOf vj).toNat - (intOf vi).toNat)
  case atStart => exact ⟨a, m, rfl, rfl, Nat.le_refl _, by omega, Nat.le_refl _, fun k _ _ => by omega, fun k _ _ => by omega, H0.out, OB.refl _ _⟩
  case round =>
    clear H0
    obtain ⟨i, j, rfl, rfl, mi, ij, jd, lo, hi, hT, hO⟩ := hrel
    by_cases hij : i < j
    · have hijI : (i : Int) < (j : Int) := by omega
      have u1 : IntKind.i64.wrap ((i : Int) + (j : Int)) = (i : Int) + (j : Int) := IntWalk.i64_in _ (by omega)
      have u2 : IntKind.u64.wrap ((i : Int) + (j : Int)) = (i : Int) + (j : Int) := by rw [IntKind.wrap_u64]; omega
      obtain ⟨q, hq⟩ : ∃ q : Nat, q = (i + j) / 2 := ⟨_, rfl⟩
      have hqI : Hid (((i : Int) + (j : Int)) / 2 = (q : Int)) := by show _ = _; omega
      have qi : i ≤ q := by omega
      have qj : q < j := by omega
      clear hq
      have q0 : (0 : Int) ≤ (q : Int) := by omega
      have q1 : (q : Int) < (n : Int) := by omega
      have p0 : (0 : Int) ≤ (m : Int) := by omega
      have p1 : (m : Int) < (n : Int) := by omega
      obtain ⟨⟨a1, a2⟩, _, _⟩ := hT.2 m (by omega)
      obtain ⟨⟨b1, b2⟩, _, _⟩ := hT.2 q (by omega)
      have hTH : Hid (TR wr b off n (fs f)) := hT
      have hOH : Hid (OB b w wr) := hO
      have loH : Hid (∀ k, a ≤ k → k < i → R (f k) (f m)) := lo
      have hiH : Hid (∀ k, j ≤ k → k < m → R (f m) (f k)) := hi
      have bl : b < wr.heap.size := hT.1
      have hx := HX.out q m (by omega) (by omega) (Nat.le_refl _) (by omega)
      have CH := HC.out (fs f m) (fs f q)
      have CH : Hid _ := CH
      have ltv : ltE c (f m) (f q) = decide (c (fs f m) (fs f q) < 0) := rfl
      rw [ltv] at hx
      have hxH : Hid _ := hx
      generalize c (fs f m) (fs f q) = cv at CH hxH
      generalize fs f m = x at a1 a2 CH
      generalize fs f q = y at b1 b2 CH
      clear hT hO lo hi hx ltv
      by_cases hcc : cv < 0
      · have hcc2 : decide (cv < 0) = true := decide_eq_true hcc
        have hRH : Hid (R (f m) (f q)) := hxH.out.1 hcc2
        go_wp2_with fail
        rw [hqI.out]
        refine wp_region_noPanic ?_
        refine wp_region_held_drew (S := fun W => (W.cell? ⟨b, off + m * 2, none⟩ = some (.string x.1) ∧ W.cell? ⟨b, off + m * 2 + 1, none⟩ = some (.string x.2)) ∧ W.cell? ⟨b, off + q * 2, none⟩ = some (.string y.1) ∧ W.cell? ⟨b, off + q * 2 + 1, none⟩ = some (.string y.2)) (by kernel_rfl) ⟨⟨a1, a2⟩, b1, b2⟩ (fun hHeld => ?_)
        refine zT 0 (v := ?_) rfl ?_ ?_
        rotate_left 1
        · (intro w0 hSw; (try dsimp only at hSw); obtain ⟨⟨s1, s2⟩, s3, s4⟩ := hSw; go_simp; try with_reducible rfl)
        (try simp only [z1, z2, z3]); (try simp only [Act.put, z4, z5, z6])
        refine zT 1 (v := ?_) rfl ?_ ?_
        rotate_left 1
        · (intro w0 hSw; (try dsimp only at hSw); obtain ⟨⟨s1, s2⟩, s3, s4⟩ := hSw; go_simp; try with_reducible rfl)
        (try simp only [z1, z2, z3]); (try simp only [Act.put, z4, z5, z6])
        refine zT 2 (v := ?_) rfl ?_ ?_
        rotate_left 1
        · (intro w0 hSw; (try dsimp only at hSw); obtain ⟨⟨s1, s2⟩, s3, s4⟩ := hSw; go_simp; try with_reducible rfl)
        (try simp only [z1, z2, z3]); (try simp only [Act.put, z4, z5, z6])
        refine zT 3 (v := ?_) rfl ?_ ?_
        rotate_left 1
        · (intro w0 hSw; (try dsimp only at hSw); obtain ⟨⟨s1, s2⟩, s3, s4⟩ := hSw; go_simp; try with_reducible rfl)
        (try simp only [z1, z2, z3]); (try simp only [Act.put, z4, z5, z6])
        refine zT 4 (v := ?_) rfl ?_ ?_
        rotate_left 1
        · (intro w0 hSw; (try dsimp only at hSw); obtain ⟨⟨s1, s2⟩, s3, s4⟩ := hSw; go_simp; try with_reducible rfl)
        (try simp only [z1, z2, z3]); (try simp only [Act.put, z4, z5, z6])
        refine zT 5 (v := ?_) rfl ?_ ?_
        rotate_left 1
        · (intro w0 hSw; (try dsimp only at hSw); obtain ⟨⟨s1, s2⟩, s3, s4⟩ := hSw; go_simp; try with_reducible rfl)
        (try simp only [z1, z2, z3]); (try simp only [Act.put, z4, z5, z6])
        refine zT 6 (v := ?_) rfl ?_ ?_
        rotate_left 1
        · (intro w0 hSw; (try dsimp only at hSw); obtain ⟨⟨s1, s2⟩, s3, s4⟩ := hSw; go_simp; try with_reducible rfl)
        (try simp only [z1, z2, z3]); (try simp only [Act.put, z4, z5, z6])
        refine zT 7 (v := ?_) rfl ?_ ?_
        rotate_left 1
        · (intro w0 hSw; (try dsimp only at hSw); obtain ⟨⟨s1, s2⟩, s3, s4⟩ := hSw; go_simp; try with_reducible rfl)
        (try simp only [z1, z2, z3]); (try simp only [Act.put, z4, z5, z6])
        refine zT 8 (v := ?_) rfl ?_ ?_
        rotate_left 1
        · (intro w0 hSw; (try dsimp only at hSw); obtain ⟨⟨s1, s2⟩, s3, s4⟩ := hSw; go_simp; try with_reducible rfl)
        (try simp only [z1, z2, z3]); (try simp only [Act.put, z4, z5, z6])
        refine wpAnyH_ready (rs := [9]) (by kernel_rfl) (by simp) ?_
        refine AllReadyH.cons (o := _) rfl (fun K hK => ?_) AllReadyH.nil
        go_simp
        refine Calls.mono (CH.out _) ?_
        rintro e w' ⟨rfl, BB⟩
        try dsimp only
        refine hK _ _ ?_ (fun hHeld => ?_)
        · exact ⟨⟨by rw [BB.cell (p := ⟨b, off + m * 2, none⟩) bl]; exact a1, by rw [BB.cell (p := ⟨b, off + m * 2 + 1, none⟩) bl]; exact a2⟩, by rw [BB.cell (p := ⟨b, off + q * 2, none⟩) bl]; exact b1, by rw [BB.cell (p := ⟨b, off + q * 2 + 1, none⟩) bl]; exact b2⟩
        clear hK K
        (try simp only [z1, z2, z3]); (try simp only [Act.put, z4, z5, z6])
        refine zT 10 (v := ?_) rfl ?_ ?_
        rotate_left 1
        · (intro w0 hSw; (try dsimp only at hSw); obtain ⟨⟨s1, s2⟩, s3, s4⟩ := hSw; go_simp; try with_reducible rfl)
        (try simp only [z1, z2, z3]); (try simp only [Act.put, z4, z5, z6])
        refine zT 11 (v := ?_) rfl ?_ ?_
        rotate_left 1
        · (intro w0 hSw; (try dsimp only at hSw); obtain ⟨⟨s1, s2⟩, s3, s4⟩ := hSw; go_simp; try with_reducible rfl)
        (try simp only [z1, z2, z3]); (try simp only [Act.put, z4, z5, z6])
        refine wpAnyH_done (by kernel_rfl) ?_ _
        refine NoPanic.normal ?_
        have T2H : Hid (TR w' b off n (fs f)) := TR.below (show TR wr.drew b off n (fs f) from hTH.out) BB
        have O2 : Hid (OB b w w') := (show OB b w wr.drew from hOH.out.drew).trans (OB.below BB)
        clear a1 a2 b1 b2 BB
        go_wp2_with fail
        exact ⟨⟨i, q, rfl, by first | rfl | simp, mi, by omega, by omega, loH.out, fun k k1 k2 => HS.out.up tr (by omega) k1 k2 hRH.out, T2H.out, O2.out⟩, by simp [intOf]; omega⟩
      · have hcc2 : decide (cv < 0) = false := decide_eq_false hcc
        have hRH : Hid (R (f q) (f m)) := hxH.out.2 hcc2
        go_wp2_with fail
        rw [hqI.out]
        refine wp_region_noPanic ?_
        refine wp_region_held_drew (S := fun W => (W.cell? ⟨b, off + m * 2, none⟩ = some (.string x.1) ∧ W.cell? ⟨b, off + m * 2 + 1, none⟩ = some (.string x.2)) ∧ W.cell? ⟨b, off + q * 2, none⟩ = some (.string y.1) ∧ W.cell? ⟨b, off + q * 2 + 1, none⟩ = some (.string y.2)) (by kernel_rfl) ⟨⟨a1, a2⟩, b1, b2⟩ (fun hHeld => ?_)
        refine zT 0 (v := ?_) rfl ?_ ?_
        rotate_left 1
        · (intro w0 hSw; (try dsimp only at hSw); obtain ⟨⟨s1, s2⟩, s3, s4⟩ := hSw; go_simp; try with_reducible rfl)
        (try simp only [z1, z2, z3]); (try simp only [Act.put, z4, z5, z6])
        refine zT 1 (v := ?_) rfl ?_ ?_
        rotate_left 1
        · (intro w0 hSw; (try dsimp only at hSw); obtain ⟨⟨s1, s2⟩, s3, s4⟩ := hSw; go_simp; try with_reducible rfl)
        (try simp only [z1, z2, z3]); (try simp only [Act.put, z4, z5, z6])
        refine zT 2 (v := ?_) rfl ?_ ?_
        rotate_left 1
        · (intro w0 hSw; (try dsimp only at hSw); obtain ⟨⟨s1, s2⟩, s3, s4⟩ := hSw; go_simp; try with_reducible rfl)
        (try simp only [z1, z2, z3]); (try simp only [Act.put, z4, z5, z6])
        refine zT 3 (v := ?_) rfl ?_ ?_
        rotate_left 1
        · (intro w0 hSw; (try dsimp only at hSw); obtain ⟨⟨s1, s2⟩, s3, s4⟩ := hSw; go_simp; try with_reducible rfl)
        (try simp only [z1, z2, z3]); (try simp only [Act.put, z4, z5, z6])
        refine zT 4 (v := ?_) rfl ?_ ?_
        rotate_left 1
        · (intro w0 hSw; (try dsimp only at hSw); obtain ⟨⟨s1, s2⟩, s3, s4⟩ := hSw; go_simp; try with_reducible rfl)
        (try simp only [z1, z2, z3]); (try simp only [Act.put, z4, z5, z6])
        refine zT 5 (v := ?_) rfl ?_ ?_
        rotate_left 1
        · (intro w0 hSw; (try dsimp only at hSw); obtain ⟨⟨s1, s2⟩, s3, s4⟩ := hSw; go_simp; try with_reducible rfl)
        (try simp only [z1, z2, z3]); (try simp only [Act.put, z4, z5, z6])
        refine zT 6 (v := ?_) rfl ?_ ?_
        rotate_left 1
        · (intro w0 hSw; (try dsimp only at hSw); obtain ⟨⟨s1, s2⟩, s3, s4⟩ := hSw; go_simp; try with_reducible rfl)
        (try simp only [z1, z2, z3]); (try simp only [Act.put, z4, z5, z6])
        refine zT 7 (v := ?_) rfl ?_ ?_
        rotate_left 1
        · (intro w0 hSw; (try dsimp only at hSw); obtain ⟨⟨s1, s2⟩, s3, s4⟩ := hSw; go_simp; try with_reducible rfl)
        (try simp only [z1, z2, z3]); (try simp only [Act.put, z4, z5, z6])
        refine zT 8 (v := ?_) rfl ?_ ?_
        rotate_left 1
        · (intro w0 hSw; (try dsimp only at hSw); obtain ⟨⟨s1, s2⟩, s3, s4⟩ := hSw; go_simp; try with_reducible rfl)
        (try simp only [z1, z2, z3]); (try simp only [Act.put, z4, z5, z6])
        refine wpAnyH_ready (rs := [9]) (by kernel_rfl) (by simp) ?_
        refine AllReadyH.cons (o := _) rfl (fun K hK => ?_) AllReadyH.nil
        go_simp
        refine Calls.mono (CH.out _) ?_
        rintro e w' ⟨rfl, BB⟩
        try dsimp only
        refine hK _ _ ?_ (fun hHeld => ?_)
        · exact ⟨⟨by rw [BB.cell (p := ⟨b, off + m * 2, none⟩) bl]; exact a1, by rw [BB.cell (p := ⟨b, off + m * 2 + 1, none⟩) bl]; exact a2⟩, by rw [BB.cell (p := ⟨b, off + q * 2, none⟩) bl]; exact b1, by rw [BB.cell (p := ⟨b, off + q * 2 + 1, none⟩) bl]; exact b2⟩
        clear hK K
        (try simp only [z1, z2, z3]); (try simp only [Act.put, z4, z5, z6])
        refine zT 10 (v := ?_) rfl ?_ ?_
        rotate_left 1
        · (intro w0 hSw; (try dsimp only at hSw); obtain ⟨⟨s1, s2⟩, s3, s4⟩ := hSw; go_simp; try with_reducible rfl)
        (try simp only [z1, z2, z3]); (try simp only [Act.put, z4, z5, z6])
        refine zT 11 (v := ?_) rfl ?_ ?_
        rotate_left 1
        · (intro w0 hSw; (try dsimp only at hSw); obtain ⟨⟨s1, s2⟩, s3, s4⟩ := hSw; go_simp; try with_reducible rfl)
        (try simp only [z1, z2, z3]); (try simp only [Act.put, z4, z5, z6])
        refine wpAnyH_done (by kernel_rfl) ?_ _
        refine NoPanic.normal ?_
        have T2H : Hid (TR w' b off n (fs f)) := TR.below (show TR wr.drew b off n (fs f) from hTH.out) BB
        have O2 : Hid (OB b w w') := (show OB b w wr.drew from hOH.out.drew).trans (OB.below BB)
        have qw : IntKind.i64.wrap ((q : Int) + 1) = ((q + 1 : Nat) : Int) := IntWalk.i64_in _ (by omega)
        clear a1 a2 b1 b2 BB
        go_wp2_with fail
        exact ⟨⟨q + 1, j, by first | rfl | simp, rfl, by omega, by omega, jd, fun k k1 k2 => HS.out.dn tr k1 (show k ≤ q by omega) (by omega) hRH.out, hiH.out, T2H.out, O2.out⟩, by simp [intOf]; omega⟩
    · have hije : i = j := by omega
      subst hije
      clear hij
      have hijI : ¬ (i : Int) < (i : Int) := by omega
      have fin : Hid (Pr a d f (rot f i m d) ∧ Sd R a d (rot f i m d)) := by
        subst hm
        exact ⟨(rot_pr f jd (by omega)).wide mi (Nat.le_refl _), one_dn mi jd HS.out lo hi⟩
      have hTH : Hid (TR wr b off n (fs (rot f m m d))) := by
        subst hm
        show TR wr b off n _
        rw [rot_end]; exact hT
      have hOH : Hid (OB b w wr) := hO
      clear hT hO lo hi
      go_wp2_with fail
      go_loopw [17] (fun vk wr => ∃ k : Nat, vk = .int .i64 (k : Int) ∧ i ≤ k ∧ k ≤ m ∧ TR wr b off n (fs (rot f k m d)) ∧ OB b w wr) (fun vk _ => (intOf vk).toNat)
      case atStart => exact ⟨m, rfl, jd, Nat.le_refl _, hTH.out, hOH.out⟩
      case round =>
        clear hTH hOH
        obtain ⟨k, rfl, ik, km, hT, hO⟩ := hrel
        by_cases hk : i < k
        · have hkI : (i : Int) < (k : Int) := by omega
          obtain ⟨⟨a1, a2⟩, a3, a4⟩ := hT.2 k (by omega)
          obtain ⟨⟨b1, b2⟩, b3, b4⟩ := hT.2 (k - 1) (by omega)
          obtain ⟨x, hx⟩ : ∃ x, x = fs (rot f k m d) k := ⟨_, rfl⟩
          obtain ⟨y, hy⟩ : ∃ y, y = fs (rot f k m d) (k - 1) := ⟨_, rfl⟩
          rw [← hx] at a1 a2
          rw [← hy] at b1 b2
          have hxH : Hid _ := hx
          have hyH : Hid _ := hy
          have hTH : Hid (TR wr b off n (fs (rot f k m d))) := hT
          have hOH : Hid (OB b w wr) := hO
          clear hT hO hx hy
          have w1 : IntKind.i64.wrap ((k : Int) - 1) = (k : Int) - 1 := IntWalk.i64_in _ (by omega)
          have tn : ((k : Int) - 1).toNat = k - 1 := by omega
          have i1 : (0 : Int) ≤ (k : Int) := by omega
          have i2 : (k : Int) < (n : Int) := by omega
          have j1 : (0 : Int) ≤ (k : Int) - 1 := by omega
          have j2 : (k : Int) - 1 < (n : Int) := by omega
          have j3 : (1 : Int) ≤ (k : Int) := by omega
          have q1 : ¬ off + k * 2 = off + (k - 1) * 2 := by omega
          have q2 : ¬ off + k * 2 = off + (k - 1) * 2 + 1 := by omega
          have q3 : ¬ off + k * 2 + 1 = off + (k - 1) * 2 := by omega
          have q4 : ¬ off + k * 2 + 1 = off + (k - 1) * 2 + 1 := by omega
          have q5 : ¬ k = k - 1 := by omega
          go_wp2_with fail
          go_region
          have T3 : TR ((((wr.setCell ⟨b, off + k * 2, none⟩ (.string y.1)).setCell ⟨b, off + k * 2 + 1, none⟩ (.string y.2)).setCell ⟨b, off + (k - 1) * 2, none⟩ (.string x.1)).setCell ⟨b, off + (k - 1) * 2 + 1, none⟩ (.string x.2)) b off n (fs (rot f (k - 1) m d)) := by
            have e := rot_bwd f m k (by omega) km
            rw [hm] at e
            rw [← e, fs_sw, sw_upd2, ← hxH.out, ← hyH.out]
            exact TR.set (TR.set hTH.out (show k < n by omega) _ _) (show k - 1 < n by omega) _ _
          have O3 : OB b w ((((wr.setCell ⟨b, off + k * 2, none⟩ (.string y.1)).setCell ⟨b, off + k * 2 + 1, none⟩ (.string y.2)).setCell ⟨b, off + (k - 1) * 2, none⟩ (.string x.1)).setCell ⟨b, off + (k - 1) * 2 + 1, none⟩ (.string x.2)) := (((hOH.out.trans (OB.set _ _ _)).trans (OB.set _ _ _)).trans (OB.set _ _ _)).trans (OB.set _ _ _)
          generalize ((((wr.setCell ⟨b, off + k * 2, none⟩ (.string y.1)).setCell ⟨b, off + k * 2 + 1, none⟩ (.string y.2)).setCell ⟨b, off + (k - 1) * 2, none⟩ (.string x.1)).setCell ⟨b, off + (k - 1) * 2 + 1, none⟩ (.string x.2)) = W3 at T3 O3 ⊢
          have T3H : Hid (TR W3 b off n (fs (rot f (k - 1) m d))) := T3
          have O3H : Hid (OB b w W3) := O3
          clear T3 O3 a1 a2 a3 a4 b1 b2 b3 b4
          go_wp2_with fail
          exact ⟨⟨k - 1, by congr 1; omega, by omega, by omega, T3H.out, O3H.out.drew⟩, by simp [intOf]; omega⟩
        · have hke : k = i := by omega
          subst hke
          have hkI : ¬ (k : Int) < (k : Int) := by omega
          have hTH : Hid (TR wr b off n (fs (rot f k m d))) := hT
          have hOH : Hid (OB b w wr) := hO
          clear hT hO
          go_wp2_with fail
          first | go_end0 | (simp only [Exit.inBlock, Exit.then]; refine bodyPost_ret (results_none rfl _ _ _) rfl ?_) | refine bodyPost_ret (results_none rfl _ _ _) rfl ?_
          exact ⟨rfl, _, fin.out.1, fin.out.2, hTH.out, hOH.out⟩
end Go.Proofs.YtbojljmacheccaaGreatDoor.So
