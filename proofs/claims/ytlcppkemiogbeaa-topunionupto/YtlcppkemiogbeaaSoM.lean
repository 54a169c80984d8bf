
import Derived.Test.YtlcppkemiogbeaaSoL
namespace Go.Proofs.Ytlcppkemiogbeaa.So
open Go.RowKit
set_option linter.unusedVariables false
set_option linter.unusedSimpArgs false
/-- blocks of 20, the first p in order, the rest as it was. -/
structure L1 (R : En → En → Prop) (c : Tg → Tg → Int) (n p : Nat) (f g : Nat → En) : Prop where
  pr : Pr 0 n f g
  blk : Blk R 20 n (p * 20) g
  cut : Cut R (ltE c) 20 n g
  same : ∀ k, p * 20 ≤ k → g k = f k
theorem L1.start {R : En → En → Prop} {c : Tg → Tg → Int} {n : Nat} {f : Nat → En} (X : Xall R (ltE c) n f) : L1 R c n 0 f f :=
  ⟨Pr.refl _ _ _, by rw [Nat.zero_mul]; exact Blk.zero _ _ _, X.cut _, fun _ _ => rfl⟩
theorem L1.more {R : En → En → Prop} {c : Tg → Tg → Int} {n p : Nat} {f g g' : Nat → En} (h : L1 R c n p f g) (hp : Pr (p * 20) (min ((p + 1) * 20) n) g g') (hg : Sd R (p * 20) (min ((p + 1) * 20) n) g') : L1 R c n (p + 1) f g' :=
  ⟨h.pr.trans (hp.wide (Nat.zero_le _) (Nat.min_le_right _ _)), h.blk.more hp hg, h.cut.pr hp (Nat.le_refl _) (Nat.min_le_left _ _) (Nat.min_le_right _ _), fun k hk => by rw [hp.out (k := k) (by omega)]; exact h.same k (by omega)⟩
theorem L1.xs {R : En → En → Prop} {c : Tg → Tg → Int} {n p : Nat} {f g : Nat → En} (h : L1 R c n p f g) (X : Xall R (ltE c) n f) : ∀ i j, p * 20 ≤ i → i < j → j < n → (ltE c (g j) (g i) = true → R (g j) (g i)) ∧ (ltE c (g j) (g i) = false → R (g i) (g j)) := fun i j x y z => by
  rw [h.same i x, h.same j (by omega)]; exact X i j y z
/-- blocks of s in order. -/
structure L2 (R : En → En → Prop) (c : Tg → Tg → Int) (n s : Nat) (f g : Nat → En) : Prop where
  pr : Pr 0 n f g
  blk : Blk R s n n g
  cut : Cut R (ltE c) s n g
theorem L1.done {R : En → En → Prop} {c : Tg → Tg → Int} {n p : Nat} {f g : Nat → En} (h : L1 R c n p f g) (hn : n ≤ p * 20) : L2 R c n 20 f g := ⟨h.pr, fun q hq => h.blk q (by omega), h.cut⟩
/-- of them the first p pairs merged, the rest as it was. -/
structure L3 (R : En → En → Prop) (c : Tg → Tg → Int) (n s p : Nat) (f g0 g : Nat → En) : Prop where
  was : L2 R c n s f g0
  pr : Pr 0 n f g
  mrg : Mrg R s n p g
  cut : Cut R (ltE c) (s * 2) n g
  same : ∀ k, p * (s * 2) ≤ k → g k = g0 k
theorem L2.start {R : En → En → Prop} {c : Tg → Tg → Int} {n s : Nat} {f g : Nat → En} (h : L2 R c n s f g) : L3 R c n s 0 f g g := ⟨h, h.pr, h.blk.mrg, h.cut.twice, fun _ _ => rfl⟩
theorem L3.xs {R : En → En → Prop} {c : Tg → Tg → Int} {n s p : Nat} {f g0 g : Nat → En} (h : L3 R c n s p f g0 g) : Xs R (ltE c) (p * (s * 2)) (p * (s * 2) + s) n g := fun i j x y z v => by
  have := h.was.cut (2 * p + 1)
  rw [show (2 * p + 1) * s = p * (s * 2) + s by rw [Nat.add_mul, Nat.one_mul, Nat.mul_comm 2 p, Nat.mul_assoc, Nat.mul_comm 2 s]] at this
  rw [h.same i x, h.same j (by omega)]
  exact this i j (Nat.zero_le _) y z v
theorem L3.more {R : En → En → Prop} {c : Tg → Tg → Int} {n s p : Nat} {f g0 g g' : Nat → En} (h : L3 R c n s p f g0 g) (hp : Pr (p * (s * 2)) (min (p * (s * 2) + s * 2) n) g g') (hg : Sd R (p * (s * 2)) (min (p * (s * 2) + s * 2) n) g') : L3 R c n s (p + 1) f g0 g' :=
  have e1 : (p + 1) * (s * 2) = p * (s * 2) + s * 2 := by rw [Nat.add_mul, Nat.one_mul]
  ⟨h.was, h.pr.trans (hp.wide (Nat.zero_le _) (Nat.min_le_right _ _)), h.mrg.more hp hg, h.cut.pr hp (Nat.le_refl _) (by rw [e1]; exact Nat.min_le_left _ _) (Nat.min_le_right _ _), fun k hk => by rw [e1] at hk; rw [hp.out (k := k) (by omega)]; exact h.same k (by omega)⟩
theorem L3.done {R : En → En → Prop} {c : Tg → Tg → Int} {n s p : Nat} {f g0 g : Nat → En} (h : L3 R c n s p f g0 g) (hn : n ≤ p * (s * 2)) : L2 R c n (s * 2) f g := ⟨h.pr, h.mrg.done hn, h.cut⟩
/-- the tail is one block: nothing is to be merged. -/
theorem L3.tail {R : En → En → Prop} {c : Tg → Tg → Int} {n s p : Nat} {f g0 g : Nat → En} (h : L3 R c n s p f g0 g) (hn : n ≤ p * (s * 2) + s) : L2 R c n (s * 2) f g := by
  have h1 := h.mrg.parts.1
  rw [Nat.min_eq_right hn] at h1
  refine (h.more (g' := g) (Pr.refl _ _ _) (by rw [Nat.min_eq_right (by omega)]; exact h1)).done ?_
  rw [Nat.add_mul, Nat.one_mul]; omega
end Go.Proofs.Ytlcppkemiogbeaa.So
