
import Derived.KernelRfl
import Derived.Deep.RegionHeld3
import Derived.Test.YtepakgfdakeibaaGreatDoorProg
namespace Go.Proofs.YtepakgfdakeibaaGreatDoor
/-! ### short names, for claims that are long -/
theorem z1 {α : Type} {xs : List α} {i : Nat} (h : i < xs.toArray.size) : xs.toArray[i] = xs[i]'(by simpa using h) := List.getElem_toArray h
theorem z2 {α : Type} {a : α} {ls : List α} {i : Nat} (h : i + 1 < (a :: ls).length) : (a :: ls)[i + 1] = ls[i]'(Nat.lt_of_succ_lt_succ h) := rfl
theorem z3 {α : Type} {a : α} {ls : List α} (h : 0 < (a :: ls).length) : (a :: ls)[0] = a := rfl
theorem z4 {α : Type} (l : List α) (i : Nat) (a : α) : l.toArray.setIfInBounds i a = (l.set i a).toArray := List.setIfInBounds_toArray l i a
theorem z5 {α : Type} {x : α} {xs : List α} {a : α} : (x :: xs).set 0 a = a :: xs := rfl
theorem z6 {α : Type} {x : α} {xs : List α} {i : Nat} {a : α} : (x :: xs).set (i + 1) a = x :: xs.set i a := rfl
theorem zT (i : Nat) {P : Program} {ops : Array Oper} {Q : Exit → Act → World → Prop} {md : Region.Mode} {S : World → Prop} {oi : Oper} {v : Value} {fuel : Nat} {listed : Array Bool} {a : Act} {w : World} (hi : ops[i]? = some oi)
    (hy : ∀ w, S w → (execOp a.eval oi).run P w = .ok (.value v) w)
    (h : wpAnyH P md ops Q S fuel (listed.setIfInBounds i true) (a.put oi.dst v) w)
    (hQ : ∀ c a w, Q (.panic c) (a.put oi.dst v) w → Q (.panic c) a w := by exact fun _ _ _ h => h)
    (hw : Region.wanted oi (yielded ops a.tmps) = true := by rfl)
    (hs : Region.noSelect ops = true := by kernel_rfl) (hf : Region.free md ops listed i = true := by kernel_rfl) (hr : (Region.ready md ops listed).contains i = true := by kernel_rfl)
    (hS : S w := by assumption) : wpAnyH P md ops Q S (fuel + 1) listed a w :=
  wpAnyH_take hi hs hf hr hQ (Or.inl ⟨hw, hy⟩) hS h
end Go.Proofs.YtepakgfdakeibaaGreatDoor
namespace Go.Proofs.YtepakgfdakeibaaGreatDoor.So
/-! ### plain: rows that are swapped, turned and merged in place (what slices.SortStableFunc does) -/
set_option linter.unusedVariables false
variable {α : Type}
/-- g is f with the places of [a, b) in another order. -/
def Pr (a b : Nat) (f g : Nat → α) : Prop := ∃ s t : Nat → Nat, (∀ k, g k = f (s k)) ∧ (∀ k, a ≤ k → k < b → a ≤ s k ∧ s k < b) ∧ (∀ k, ¬ (a ≤ k ∧ k < b) → s k = k) ∧ (∀ k, s (t k) = k) ∧ (∀ k, t (s k) = k)
theorem Pr.refl (a b : Nat) (f : Nat → α) : Pr a b f f := ⟨id, id, fun _ => rfl, fun k h1 h2 => ⟨h1, h2⟩, fun _ _ => rfl, fun _ => rfl, fun _ => rfl⟩
theorem Pr.trans {a b : Nat} {f g h : Nat → α} (x : Pr a b f g) (y : Pr a b g h) : Pr a b f h := by
  obtain ⟨s, t, x1, x2, x3, x4, x5⟩ := x
  obtain ⟨s', t', y1, y2, y3, y4, y5⟩ := y
  refine ⟨fun k => s (s' k), fun k => t' (t k), fun k => by rw [y1, x1], fun k h1 h2 => ?_, fun k h => ?_, fun k => by show s (s' (t' (t k))) = k; rw [y4, x4], fun k => by show t' (t (s (s' k))) = k; rw [x5, y5]⟩
  · have := y2 k h1 h2; exact x2 _ this.1 this.2
  · show s (s' k) = k; rw [y3 k h, x3 k h]
theorem Pr.wide {a b a' b' : Nat} {f g : Nat → α} (x : Pr a b f g) (h1 : a' ≤ a) (h2 : b ≤ b') : Pr a' b' f g := by
  obtain ⟨s, t, x1, x2, x3, x4, x5⟩ := x
  refine ⟨s, t, x1, fun k h3 h4 => ?_, fun k h => x3 k (by omega), x4, x5⟩
  by_cases h : a ≤ k ∧ k < b
  · have := x2 k h.1 h.2; omega
  · rw [x3 k h]; omega
theorem Pr.out {a b : Nat} {f g : Nat → α} (x : Pr a b f g) {k : Nat} (h : ¬ (a ≤ k ∧ k < b)) : g k = f k := by
  obtain ⟨s, t, x1, x2, x3, x4, x5⟩ := x
  rw [x1, x3 k h]
theorem Pr.all {a b : Nat} {f g : Nat → α} (x : Pr a b f g) {P : α → Prop} (h : ∀ k, a ≤ k → k < b → P (f k)) (k : Nat) (h1 : a ≤ k) (h2 : k < b) : P (g k) := by
  obtain ⟨s, t, x1, x2, x3, x4, x5⟩ := x
  have := x2 k h1 h2
  rw [x1]; exact h _ this.1 this.2
theorem Pr.back {a b : Nat} {f g : Nat → α} (x : Pr a b f g) (k : Nat) (h1 : a ≤ k) (h2 : k < b) : ∃ j, a ≤ j ∧ j < b ∧ g j = f k := by
  obtain ⟨s, t, x1, x2, x3, x4, x5⟩ := x
  refine ⟨t k, ?_⟩
  by_cases h : a ≤ t k ∧ t k < b
  · exact ⟨h.1, h.2, by rw [x1, x4]⟩
  · have := x3 _ h
    rw [x4] at this
    omega
/-! ### swaps -/
def sw (f : Nat → α) (i j : Nat) : Nat → α := fun k => if k = i then f j else if k = j then f i else f k
theorem sw_pr {a b : Nat} (f : Nat → α) {i j : Nat} (h1 : a ≤ i) (h2 : i < b) (h3 : a ≤ j) (h4 : j < b) : Pr a b f (sw f i j) := by
  refine ⟨fun k => if k = i then j else if k = j then i else k, fun k => if k = i then j else if k = j then i else k, fun k => ?_, fun k x y => ?_, fun k x => ?_, fun k => ?_, fun k => ?_⟩
  · unfold sw; dsimp only; split
    · rfl
    · split <;> rfl
  · dsimp only; split <;> (try split) <;> omega
  · dsimp only; rw [if_neg (by omega), if_neg (by omega)]
  · dsimp only; split <;> (try split) <;> (try split) <;> (try split) <;> omega
  · dsimp only; split <;> (try split) <;> (try split) <;> (try split) <;> omega
/-- two ranges of n places, apart, swapped. -/
def swR (f : Nat → α) (x y n : Nat) : Nat → α := fun k => if x ≤ k ∧ k < x + n then f (k - x + y) else if y ≤ k ∧ k < y + n then f (k - y + x) else f k
theorem swR_zero (f : Nat → α) (x y : Nat) : swR f x y 0 = f := by
  funext k; unfold swR; rw [if_neg (by omega), if_neg (by omega)]
theorem swR_succ (f : Nat → α) (x y n : Nat) (h : x + n < y) : sw (swR f x y n) (x + n) (y + n) = swR f x y (n + 1) := by
  funext k
  unfold sw swR
  repeat' split
  all_goals first | rfl | (exfalso; omega) | (congr 1; omega)
/-! ### a row turned: [a, m) and [m, b) change places -/
def rot (f : Nat → α) (a m b : Nat) : Nat → α := fun k => if a ≤ k ∧ k < a + (b - m) then f (k + (m - a)) else if a + (b - m) ≤ k ∧ k < b then f (k - (b - m)) else f k
theorem rot_pr (f : Nat → α) {a m b : Nat} (h1 : a ≤ m) (h2 : m ≤ b) : Pr a b f (rot f a m b) := by
  refine ⟨fun k => if a ≤ k ∧ k < a + (b - m) then k + (m - a) else if a + (b - m) ≤ k ∧ k < b then k - (b - m) else k, fun k => if a ≤ k ∧ k < a + (m - a) then k + (b - m) else if a + (m - a) ≤ k ∧ k < b then k - (m - a) else k, fun k => ?_, fun k x y => ?_, fun k x => ?_, fun k => ?_, fun k => ?_⟩
  · unfold rot; dsimp only; split
    · rfl
    · split <;> rfl
  · dsimp only; split <;> (try split) <;> omega
  · dsimp only; rw [if_neg (by omega), if_neg (by omega)]
  · dsimp only; split <;> (try split) <;> (try split) <;> (try split) <;> omega
  · dsimp only; split <;> (try split) <;> (try split) <;> (try split) <;> omega
theorem rot_none (f : Nat → α) {a m b : Nat} (h : a = m ∨ m = b) (h1 : a ≤ m) (h2 : m ≤ b) : rot f a m b = f := by
  funext k
  unfold rot
  split
  · rename_i hk; rcases h with h | h
    · congr 1; omega
    · omega
  · split
    · rename_i hk; rcases h with h | h
      · omega
      · congr 1; omega
    · rfl
theorem rot_more (f : Nat → α) {a m b : Nat} (h1 : a ≤ m) (h2 : m ≤ b) (h : b - m < m - a) : rot (swR f a m (b - m)) (a + (b - m)) m b = rot f a m b := by
  funext k
  unfold rot swR
  repeat' split
  all_goals first | rfl | (exfalso; omega) | (congr 1; omega)
theorem rot_less (f : Nat → α) {a m b : Nat} (h1 : a ≤ m) (h2 : m ≤ b) (h : m - a < b - m) : rot (swR f a (b - (m - a)) (m - a)) a m (b - (m - a)) = rot f a m b := by
  funext k
  unfold rot swR
  repeat' split
  all_goals first | rfl | (exfalso; omega) | (congr 1; omega)
theorem rot_even (f : Nat → α) {a m b : Nat} (h1 : a ≤ m) (h2 : m ≤ b) (h : m - a = b - m) : swR f a m (m - a) = rot f a m b := by
  funext k
  unfold rot swR
  repeat' split
  all_goals first | rfl | (exfalso; omega) | (congr 1; omega)
end Go.Proofs.YtepakgfdakeibaaGreatDoor.So
