
import Derived.Test.YtdfnomglkibfbaaGreatDoorVgD
import Derived.Test.YtdfnomglkibfbaaGreatDoorVfW
import Derived.Test.YtdfnomglkibfbaaGreatDoorVfX
import Derived.Test.YtdfnomglkibfbaaGreatDoorVfN
namespace Go.Proofs.YtdfnomglkibfbaaGreatDoor.Vf
open Go.RowKit
set_option linter.unusedVariables false
set_option linter.unusedSimpArgs false
set_option maxRecDepth 100000
/-! ### plain: code whose instructions are right, one by one -/
theorem fm_of : ∀ (r : List InP) (k : Nat), (∀ j t, r[j]? = some t → ((rowF t.c).a = 9 → ((k + j : Nat) : Int) < t.a) ∧ ((rowF t.c).en = true → j + 1 = r.length)) → FmL r k
  | [], _, _ => trivial
  | i :: r, k, h => by
    refine ⟨fun q => by have := (h 0 i rfl).1 q; simpa using this, fun q => ?_, fm_of r (k + 1) fun j t ht => ?_⟩
    · have := (h 0 i rfl).2 q
      simp only [List.length_cons] at this
      exact List.length_eq_zero_iff.1 (by omega)
    · have := h (j + 1) t (by simpa using ht)
      refine ⟨fun q => by rw [show k + 1 + j = k + (j + 1) by omega]; exact this.1 q, fun q => ?_⟩
      have := this.2 q
      simp only [List.length_cons] at this
      omega
theorem of_range {c : Nat} {f : Bool} (h : ((rowF c).of : Int) = if f then 1 else 2) : 1 ≤ c ∧ c ≤ 24 := by
  rcases Nat.lt_or_ge 24 c with q | q
  · rw [row_big q] at h; cases f <;> simp [noR] at h
  · refine ⟨?_, q⟩
    rcases Nat.eq_zero_or_pos c with e | e
    · subst e; cases f <;> simp [rowF, rowsL, noR] at h
    · exact e
theorem badP_zero {z : SzP} {f : Bool} {at_ last : Int} {ra : Bool} {i : InP} (h : badP z (if f then 1 else 2) at_ last ra i = 0) : (1 ≤ i.c ∧ i.c ≤ 24) ∧ haveB z (rowF i.c).a i.a = true ∧ haveB z (rowF i.c).b i.b = true ∧ ((rowF i.c).a = 9 → at_ < i.a ∧ i.a ≤ last) ∧ ((rowF i.c).en = true → last ≤ at_) := by
  have ho := badP_of h
  refine ⟨of_range ho, ?_⟩
  unfold badP at h
  rw [if_neg (by simpa using ho)] at h
  split at h
  · simp at h
  · rename_i q1
    simp only [Bool.or_eq_true, not_or, Bool.not_eq_true', Bool.not_eq_false] at q1
    split at h
    · simp at h
    · rename_i q2
      split at h
      · simp at h
      · rename_i q3
        refine ⟨q1.1.1, q1.1.2, fun a9 => ?_, fun en => ?_⟩
        · rw [a9] at q2
          simp at q2
          omega
        · rw [en] at q3
          simp at q3
          omega
/-- a machine's code that is formed. -/
structure Fmd (z : SzP) (l : List InP) : Prop where
  fm : FmL l 0
  pos : 0 < l.length
  code : ∀ (j : Nat) (t : InP), l[j]? = some t → 1 ≤ t.c ∧ t.c ≤ 24
  jump : ∀ (j : Nat) (t : InP), l[j]? = some t → (rowF t.c).a = 9 → (j : Int) < t.a ∧ t.a < (l.length : Int)
  ends : ∀ (j : Nat) (t : InP), l[j]? = some t → (rowF t.c).en = true → j + 1 = l.length
  more : ∀ (j : Nat) (t : InP), l[j]? = some t → j + 1 = l.length → (rowF t.c).en = true
  hav : ∀ (j : Nat) (t : InP), l[j]? = some t → haveB z (rowF t.c).a t.a = true
theorem fmd_of {z : SzP} {f : Bool} {acc : List AcP} {l : List InP} (h : eachP z f acc l = none) : Fmd z l := by
  unfold eachP at h
  cases q : firstBad (fun k i => badP z (if f then 1 else 2) k ((l.length : Int) - 1) (raOf acc i.a i.b) i) l 0 with
  | some x => rw [q] at h; simp at h
  | none =>
    rw [q] at h
    simp only at h
    split at h
    · rename_i le
      have hb : ∀ (j : Nat) (t : InP), l[j]? = some t → (1 ≤ t.c ∧ t.c ≤ 24) ∧ haveB z (rowF t.c).a t.a = true ∧ haveB z (rowF t.c).b t.b = true ∧ ((rowF t.c).a = 9 → ((0 + j : Nat) : Int) < t.a ∧ t.a ≤ (l.length : Int) - 1) ∧ ((rowF t.c).en = true → (l.length : Int) - 1 ≤ ((0 + j : Nat) : Int)) := fun j t ht => badP_zero (firstBad_none l 0 q j t ht)
      have hlt : ∀ (j : Nat) (t : InP), l[j]? = some t → j < l.length := fun j t ht => (List.getElem?_eq_some_iff.1 ht).1
      have he : ∀ (j : Nat) (t : InP), l[j]? = some t → (rowF t.c).en = true → j + 1 = l.length := fun j t ht en => by
        have := (hb j t ht).2.2.2.2 en
        have := hlt j t ht
        simp at *
        omega
      refine ⟨fm_of l 0 fun j t ht => ⟨fun a9 => ?_, he j t ht⟩, ?_, fun j t ht => (hb j t ht).1, fun j t ht a9 => ?_, he, fun j t ht e => ?_, fun j t ht => (hb j t ht).2.1⟩
      · have := ((hb j t ht).2.2.2.1 a9).1; simpa using this
      · rcases Nat.eq_zero_or_pos l.length with e | e
        · rw [List.length_eq_zero_iff.1 e] at le; simp at le
        · exact e
      · have := (hb j t ht).2.2.2.1 a9
        simp at this
        omega
      · cases e2 : l.getLast? with
        | none => rw [e2] at le; simp at le
        | some u =>
          have hu : l[l.length - 1]? = some u := by rw [← List.getLast?_eq_getElem?]; exact e2
          rw [show l.length - 1 = j by omega, ht] at hu
          injection hu with hu
          subst hu
          rw [e2] at le
          simpa using le
    · cases h
/-- where both begin. -/
def m0 : Nat → Option Int := fun k => if k = 0 then some 0 else none
def s0 : StD := (fun k => if k = 0 then 0 else -1, fun _ => false)
theorem rel0 : Rel m0 s0 0 := fun j _ => by
  unfold m0 s0
  by_cases e : j = 0
  · subst e; exact Or.inr (Or.inl ⟨0, by omega, rfl, rfl, rfl⟩)
  · simp only [if_neg e]; exact Or.inl ⟨rfl, rfl, rfl⟩
theorem hgt0 {z : SzP} {l : List InP} (h : Fmd z l) : (hgtP l 0 m0 []).2 = (hgtD l 0 s0).2 := hgt_same l 0 m0 s0 [] rel0 (Or.inl rfl) h.fm
/-! ### rows of one's own, a cell an entry -/
def RW (w : World) (b n : Nat) (G : Nat → Value) : Prop := b < w.heap.size ∧ ∀ k, k < n → w.cell? ⟨b, k, none⟩ = some (G k) ∧ w.frozen? ⟨b, k, none⟩ = false
theorem RW.below {w w' : World} {b n m : Nat} {G : Nat → Value} (h : RW w b n G) (hb : Below m w w') (hm : b < m) : RW w' b n G := ⟨Nat.lt_of_lt_of_le h.1 hb.size, fun k hk => by
  obtain ⟨h1, h2⟩ := h.2 k hk
  exact ⟨by rw [hb.cell (p := ⟨b, k, none⟩) hm]; exact h1, by rw [hb.frozen (p := ⟨b, k, none⟩) hm]; exact h2⟩⟩
def upG (G : Nat → Value) (i : Nat) (v : Value) : Nat → Value := fun k => if k = i then v else G k
theorem RW.set {w : World} {b n : Nat} {G : Nat → Value} (h : RW w b n G) {i : Nat} (hi : i < n) (v : Value) : RW (w.setCell ⟨b, i, none⟩ v) b n (upG G i v) := by
  refine ⟨by simpa using h.1, fun k hk => ?_⟩
  obtain ⟨h1, h2⟩ := h.2 k hk
  unfold upG
  by_cases c : k = i
  · subst c; rw [if_pos rfl]; simp [go_sem, h1, h2]
  · rw [if_neg c]
    refine ⟨?_, by simp [go_sem, h2]⟩
    rw [World.cell?_setCell_other _ _ _ _ (by intro h; injection h; omega)]; exact h1
theorem RW.far {w : World} {b n : Nat} {G : Nat → Value} (h : RW w b n G) {g j : Nat} (hg : g ≠ b) (v : Value) : RW (w.setCell ⟨g, j, none⟩ v) b n G := by
  refine ⟨by simpa using h.1, fun k hk => ?_⟩
  obtain ⟨h1, h2⟩ := h.2 k hk
  refine ⟨?_, by simp [go_sem, h2]⟩
  rw [World.cell?_setCell_other _ _ _ _ (by intro h; injection h; omega)]; exact h1
theorem RW.made (w : World) (n : Nat) (z : Value) (T : TypeId) : RW (w.alloc (.cells (madeCells #[z] n) T)) w.heap.size n (fun _ => z) := by
  refine ⟨by simp, fun k hk => ⟨?_, frozen_of_row _ w.heap.size k _ T (heap_alloc_new w _)⟩⟩
  rw [cell_of_row _ w.heap.size k _ T (0, 0) (heap_alloc_new w _), ← Array.getElem?_toList, toList_madeCells_one]
  simp [hk]
theorem RW.congr {w : World} {b n : Nat} {G G' : Nat → Value} (h : RW w b n G) (e : ∀ k, k < n → G k = G' k) : RW w b n G' := ⟨h.1, fun k hk => by rw [← e k hk]; exact h.2 k hk⟩
/-- the same, of numbers, where the block is just that row. -/
structure RI (w : World) (b n : Nat) (G : Nat → Value) : Prop where
  lt : b < w.heap.size
  at_ : ∀ k, k < n → w.cell? ⟨b, k, none⟩ = some (G k) ∧ w.frozen? ⟨b, k, none⟩ = false
  shp : ∃ cs, w.heap[b]? = some (.cells cs 3) ∧ cs.size = n
theorem RI.rw {w : World} {b n : Nat} {G : Nat → Value} (h : RI w b n G) : RW w b n G := ⟨h.1, h.2⟩
theorem RI.below {w w' : World} {b n m : Nat} {G : Nat → Value} (h : RI w b n G) (hb : Below m w w') (hm : b < m) : RI w' b n G := ⟨(h.rw.below hb hm).1, (h.rw.below hb hm).2, by rw [hb.block b hm]; exact h.3⟩
theorem RI.set {w : World} {b n : Nat} {G : Nat → Value} (h : RI w b n G) {i : Nat} (hi : i < n) (v : Value) : RI (w.setCell ⟨b, i, none⟩ v) b n (upG G i v) := by
  refine ⟨(h.rw.set hi v).1, (h.rw.set hi v).2, ?_⟩
  obtain ⟨cs, h1, h2⟩ := h.shp
  exact ⟨cs.setIfInBounds i v, heap_setCell_same w b i cs 3 v h1, by simpa using h2⟩
theorem RI.far {w : World} {b n : Nat} {G : Nat → Value} (h : RI w b n G) {g j : Nat} (hg : g ≠ b) (v : Value) : RI (w.setCell ⟨g, j, none⟩ v) b n G := ⟨(h.rw.far hg v).1, (h.rw.far hg v).2, by rw [Below.heap_setCell _ _ _ _ (by simpa using Ne.symm hg)]; exact h.3⟩
theorem RI.made (w : World) (n : Nat) (z : Value) : RI (w.alloc (.cells (madeCells #[z] n) 3)) w.heap.size n (fun _ => z) := ⟨(RW.made w n z 3).1, (RW.made w n z 3).2, _, heap_alloc_new w _, by rw [← Array.length_toList, toList_madeCells_one]; simp⟩
theorem RI.congr {w : World} {b n : Nat} {G G' : Nat → Value} (h : RI w b n G) (e : ∀ k, k < n → G k = G' k) : RI w b n G' := ⟨h.1, (h.rw.congr e).2, h.3⟩
theorem RI.grown {w w' : World} {b n mb : Nat} {G : Nat → Value} (h : RI w b n G) (hg : w.grownBy w' (some mb)) (hne : b ≠ mb) : RI w' b n G := by
  have e : w'.heap[b]? = w.heap[b]? := hg.block b h.1 (fun e => by injection e with e; exact hne e)
  refine ⟨Nat.lt_of_lt_of_le h.1 hg.size, fun k hk => ?_, by rw [e]; exact h.3⟩
  obtain ⟨h1, h2⟩ := h.2 k hk
  exact ⟨by rw [World.cell?_of_block (w := w) e]; exact h1, by rw [World.frozen?_of_block (w := w) e]; exact h2⟩
end Go.Proofs.YtdfnomglkibfbaaGreatDoor.Vf
