
import Derived.Test.YtepakgfdakeibaaGreatDoorSoA
namespace Go.Proofs.YtepakgfdakeibaaGreatDoor.So
set_option linter.unusedVariables false
/-! ### plain: a heap in an array (batch's sink) -/
variable {β : Type} {lt : β → β → Bool}
/-- from r on each stands ahead of its kids. -/
def HP (lt : β → β → Bool) (r m : Nat) (h : Nat → β) : Prop := ∀ i c, r ≤ i → c < m → (c = 2 * i + 1 ∨ c = 2 * i + 2) → lt (h i) (h c) = true
/-- but at k; what stands above k is ahead of k's kids. -/
def HX (lt : β → β → Bool) (r k m : Nat) (h : Nat → β) : Prop := (∀ i c, r ≤ i → i ≠ k → c < m → (c = 2 * i + 1 ∨ c = 2 * i + 2) → lt (h i) (h c) = true) ∧ ∀ p c, r ≤ p → (k = 2 * p + 1 ∨ k = 2 * p + 2) → c < m → (c = 2 * k + 1 ∨ c = 2 * k + 2) → lt (h p) (h c) = true
/-- of two of them one is ahead. -/
def Tt (lt : β → β → Bool) (m : Nat) (h : Nat → β) : Prop := ∀ i j, i < m → j < m → i ≠ j → lt (h i) (h j) = true ∨ lt (h j) (h i) = true
theorem Tt.pr {m : Nat} {h g : Nat → β} (t : Tt lt m h) (p : Pr 0 m h g) : Tt lt m g := by
  obtain ⟨s, u, x1, x2, x3, x4, x5⟩ := p
  intro i j hi hj hne
  have a := x2 i (Nat.zero_le _) hi
  have b := x2 j (Nat.zero_le _) hj
  rw [x1, x1]
  exact t _ _ a.2 b.2 (fun e => hne (by have := congrArg u e; rw [x5, x5] at this; exact this))
theorem HX.start {r m : Nat} {h : Nat → β} (p : HP lt (r + 1) m h) : HX lt r r m h := ⟨fun i c a b x y => p i c (by omega) x y, fun p c a b => by omega⟩
theorem HX.top {m : Nat} {h g : Nat → β} (p : HP lt 0 m h) (m' : Nat) (hm : m' ≤ m) (e : ∀ i, 0 < i → i < m' → g i = h i) : HX lt 0 0 m' g := ⟨fun i c a b x y => by
  rw [e i (by omega) (by omega), e c (by omega) x]; exact p i c (by omega) (by omega) y, fun p c a b => by omega⟩
/-- k stands where it must. -/
theorem HX.done {r k m : Nat} {h : Nat → β} (p : HX lt r k m h) (q : ∀ c, c < m → (c = 2 * k + 1 ∨ c = 2 * k + 2) → lt (h k) (h c) = true) : HP lt r m h := fun i c a b x => by
  by_cases e : i = k
  · subst e; exact q c b x
  · exact p.1 i c a e b x
theorem sw_l (f : Nat → β) {i j : Nat} : sw f i j i = f j := by unfold sw; rw [if_pos rfl]
theorem sw_r (f : Nat → β) {i j : Nat} : sw f i j j = f i := by unfold sw; split <;> simp_all
theorem sw_o (f : Nat → β) {i j k : Nat} (a : k ≠ i) (b : k ≠ j) : sw f i j k = f k := by unfold sw; rw [if_neg a, if_neg b]
/-- k and its kid c, the one that is ahead, change places. -/
theorem HX.step (tr : ∀ x y z, lt x y = true → lt y z = true → lt x z = true) {r k c m : Nat} {h : Nat → β} (hrk : r ≤ k) (p : HX lt r k m h) (hc : c < m) (hk : c = 2 * k + 1 ∨ c = 2 * k + 2) (a1 : lt (h c) (h k) = true)
    (a2 : ∀ d, d < m → (d = 2 * k + 1 ∨ d = 2 * k + 2) → d ≠ c → lt (h c) (h d) = true) : HX lt r c m (sw h k c) := by
  have ck : c ≠ k := by omega
  refine ⟨fun i d a b x y => ?_, fun q d a b x y => ?_⟩
  · by_cases e : i = k
    · subst e
      rw [sw_l]
      by_cases f : d = c
      · subst f; rw [sw_r]; exact a1
      · rw [sw_o _ (by omega) f]; exact a2 d x y f
    · rw [sw_o _ e b]
      by_cases f : d = k
      · subst f
        rw [sw_l]; exact p.2 i c a (by omega) hc hk
      · by_cases g : d = c
        · omega
        · rw [sw_o _ f g]; exact p.1 i d a e x y
  · have e : q = k := by omega
    subst e
    rw [sw_l, sw_o _ (by omega) (by omega)]
    exact p.1 c d (by omega) ck x y
theorem HP.none (m : Nat) (h : Nat → β) : HP lt m m h := fun i c a b x => by omega
/-- the first one is ahead of all others. -/
theorem HP.least (tr : ∀ x y z, lt x y = true → lt y z = true → lt x z = true) {m : Nat} {h : Nat → β} (p : HP lt 0 m h) : ∀ i, i < m → i = 0 ∨ lt (h 0) (h i) = true := by
  intro i
  induction i using Nat.strongRecOn with
  | _ i ih =>
    intro hi
    by_cases e : i = 0
    · exact Or.inl e
    · right
      have h1 := p ((i - 1) / 2) i (Nat.zero_le _) hi (by omega)
      rcases ih ((i - 1) / 2) (by omega) (by omega) with q | q
      · rw [q] at h1; exact h1
      · exact tr _ _ _ q h1
end Go.Proofs.YtepakgfdakeibaaGreatDoor.So
