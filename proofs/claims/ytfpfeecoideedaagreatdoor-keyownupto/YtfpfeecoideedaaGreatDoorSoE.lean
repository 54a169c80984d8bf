
import Derived.Test.YtfpfeecoideedaaGreatDoorSoD
import Derived.ProofKit
import Derived.OpenShut
import Derived.Shelf.RegionOpen
namespace Go.Proofs.YtfpfeecoideedaaGreatDoor.So
open Go.RowKit
set_option linter.unusedVariables false
set_option linter.unusedSimpArgs false
/-! ### a row of tags (two texts each) in memory, by places -/
abbrev Tg := ByteArray × ByteArray
def TR (w : World) (b off n : Nat) (F : Nat → Tg) : Prop := b < w.heap.size ∧ ∀ k, k < n → (w.cell? ⟨b, off + k * 2, none⟩ = some (.string (F k).1) ∧ w.cell? ⟨b, off + k * 2 + 1, none⟩ = some (.string (F k).2)) ∧ w.frozen? ⟨b, off + k * 2, none⟩ = false ∧ w.frozen? ⟨b, off + k * 2 + 1, none⟩ = false
/-- nothing but block b (of those that were there) is another one. -/
structure OB (b : Nat) (w w' : World) : Prop where
  size : w.heap.size ≤ w'.heap.size
  keep : ∀ k, k < w.heap.size → k ≠ b → w'.heap[k]? = w.heap[k]?
  shp : ∀ (cur : Array Value) (e : TypeId), w.heap[b]? = some (.cells cur e (0, 0)) → ∃ cur' : Array Value, w'.heap[b]? = some (.cells cur' e (0, 0)) ∧ cur'.size = cur.size
  same : w'.os = w.os ∧ w'.tape = w.tape ∧ w'.output = w.output
theorem OB.refl (b : Nat) (w : World) : OB b w w := ⟨Nat.le_refl _, fun _ _ _ => rfl, fun cur _ h => ⟨cur, h, rfl⟩, rfl, rfl, rfl⟩
theorem OB.trans {b : Nat} {w w1 w2 : World} (h : OB b w w1) (k : OB b w1 w2) : OB b w w2 :=
  ⟨Nat.le_trans h.size k.size, fun j hj hn => by rw [k.keep j (Nat.lt_of_lt_of_le hj h.size) hn]; exact h.keep j hj hn, fun cur e hh => by
    obtain ⟨c1, h1, s1⟩ := h.shp cur e hh
    obtain ⟨c2, h2, s2⟩ := k.shp c1 e h1
    exact ⟨c2, h2, s2.trans s1⟩, k.same.1.trans h.same.1, k.same.2.1.trans h.same.2.1, k.same.2.2.trans h.same.2.2⟩
theorem OB.below {b : Nat} {w w' : World} (h : Below w.heap.size w w') : OB b w w' := ⟨h.size, fun k hk _ => h.block k hk, fun cur e hh => ⟨cur, by rw [h.block b (Array.getElem?_eq_some_iff.1 hh).1]; exact hh, rfl⟩, h.os, h.tape, h.output⟩
theorem OB.set {b : Nat} (w : World) (j : Nat) (v : Value) : OB b w (w.setCell ⟨b, j, none⟩ v) := ⟨by simp, fun k hk hn => Below.heap_setCell _ _ _ _ hn, fun cur e hh => ⟨_, heap_setCell_same w b j cur e v hh, by simp⟩, rfl, rfl, rfl⟩
theorem OB.into {B g : Nat} {w w1 w2 : World} (h : Below B w w1) (k : OB g w1 w2) (hg : B ≤ g) (hB : B ≤ w1.heap.size) : Below B w w2 :=
  ⟨k.same.1.trans h.os, k.same.2.1.trans h.tape, k.same.2.2.trans h.output, Nat.le_trans h.size k.size, fun i hi => (k.keep i (by omega) (by omega)).trans (h.block i hi)⟩
theorem TR.below {w w' : World} {b off n : Nat} {F : Nat → Tg} (h : TR w b off n F) (hb : Below w.heap.size w w') : TR w' b off n F := by
  refine ⟨Nat.lt_of_lt_of_le h.1 hb.size, fun k hk => ?_⟩
  obtain ⟨⟨h1, h2⟩, h3, h4⟩ := h.2 k hk
  exact ⟨⟨by rw [hb.cell (p := ⟨b, off + k * 2, none⟩) h.1]; exact h1, by rw [hb.cell (p := ⟨b, off + k * 2 + 1, none⟩) h.1]; exact h2⟩, by rw [hb.frozen (p := ⟨b, off + k * 2, none⟩) h.1]; exact h3, by rw [hb.frozen (p := ⟨b, off + k * 2 + 1, none⟩) h.1]; exact h4⟩
def upd (F : Nat → Tg) (i : Nat) (x : Tg) : Nat → Tg := fun k => if k = i then x else F k
theorem sw_upd (F : Nat → Tg) (i j : Nat) : sw F i j = upd (upd F j (F i)) i (F j) := by
  funext k; unfold sw upd
  repeat' split
  all_goals first | rfl | (exfalso; omega) | (congr 1; omega)
theorem sw_upd2 (F : Nat → Tg) (i j : Nat) : sw F i j = upd (upd F i (F j)) j (F i) := by
  funext k; unfold sw upd
  repeat' split
  all_goals first | rfl | (exfalso; omega) | (congr 1; omega)
theorem far2 {w : World} {p q : Addr} {v : Value} (h : p ≠ q) : (w.setCell p v).cell? q = w.cell? q := World.cell?_setCell_other _ _ _ _ h
theorem TR.set {w : World} {b off n : Nat} {F : Nat → Tg} (h : TR w b off n F) {i : Nat} (hi : i < n) (x y : ByteArray) : TR ((w.setCell ⟨b, off + i * 2, none⟩ (.string x)).setCell ⟨b, off + i * 2 + 1, none⟩ (.string y)) b off n (upd F i (x, y)) := by
  refine ⟨by simpa using h.1, fun k hk => ?_⟩
  obtain ⟨⟨h1, h2⟩, h3, h4⟩ := h.2 k hk
  obtain ⟨⟨i1, i2⟩, i3, i4⟩ := h.2 i hi
  unfold upd
  by_cases c : k = i
  · subst c
    rw [if_pos rfl]
    simp [go_sem, h1, h2, h3, h4]
  · rw [if_neg c]
    have e1 : ¬ off + k * 2 = off + i * 2 := by omega
    have e2 : ¬ off + k * 2 = off + i * 2 + 1 := by omega
    have e3 : ¬ off + k * 2 + 1 = off + i * 2 := by omega
    have e4 : ¬ off + k * 2 + 1 = off + i * 2 + 1 := by omega
    refine ⟨⟨?_, ?_⟩, by simp [go_sem, h3], by simp [go_sem, h4]⟩
    · rw [far2 (by intro h; injection h; omega), far2 (by intro h; injection h; omega)]; exact h1
    · rw [far2 (by intro h; injection h; omega), far2 (by intro h; injection h; omega)]; exact h2
end Go.Proofs.YtfpfeecoideedaaGreatDoor.So
