
import Derived.Test.YtdfnomglkibfbaaGreatDoorVfR
namespace Go.Proofs.YtdfnomglkibfbaaGreatDoor.Vf
open Go.RowKit
set_option linter.unusedVariables false
set_option linter.unusedSimpArgs false
set_option maxRecDepth 100000
/-- the document's operands. -/
theorem operands_any (p : PrH) (l : List AcP) (hl : p.accs.n = l.length) (i : InP) (w : World) (hA : AcIn w p.accs.a l) : Calls Tryz.prog 82 #[p.v, i.v] w fun e w' => e = .returned (.bool (opsD p.sz (raOf l i.a i.b) i)) ∧ Below w.heap.size w w' := by
  obtain ⟨c, a, b⟩ := i
  by_cases h3 : c = 3
  · subst h3; exact operands_3 p a b _ w
  by_cases h4 : c = 4
  · subst h4; exact operands_4 p a b _ w
  by_cases h5 : c = 5
  · subst h5; exact operands_5 p a b _ w
  by_cases h6 : c = 6
  · subst h6; exact operands_6 p a b _ w
  by_cases h10 : c = 10
  · subst h10; exact operands_10 p a b _ w
  by_cases h11 : c = 11
  · subst h11; exact operands_11 p a b _ w
  by_cases h14 : c = 14
  · subst h14; exact operands_14 p a b _ w
  by_cases h15 : c = 15
  · subst h15; exact operands_15 p a b _ w
  by_cases h16 : c = 16
  · subst h16; exact operands_16 p l hl a b w hA
  by_cases h23 : c = 23
  · subst h23; exact operands_23 p a b _ w
  exact operands_none p c a b _ w h3 h4 h5 h6 h10 h11 h14 h15 h16 h23
/-- the document's error. -/
def badV (c p : Int) (pl : Bool) : Value := .agg #[.int .i64 c, .int .i64 p, .int .i64 0, .bool pl, .bool false]
theorem refAt_any (p c : Int) (h : (c == 0) = false) (w : World) : Calls Tryz.prog 81 #[.int .i64 p, .int .i64 c] w fun e w' => e = .returned (badV c p true) ∧ Below w.heap.size w w' := by
  go_enter Tryz.func81, Tryz.ntmps81
  go_wp2
  go_returns
  exact ⟨rfl, (Below.refl _ w).alloc (Nat.le_refl _) _⟩
theorem refNew_any (c : Int) (w : World) : Calls Tryz.prog 29 #[.int .i64 c] w fun e w' => e = .returned (badV c 0 false) ∧ Below w.heap.size w w' := by
  go_enter Tryz.func29, Tryz.ntmps29
  go_wp2
  go_returns
  exact ⟨rfl, (Below.refl _ w).alloc (Nat.le_refl _) _⟩
/-- instructions in memory. -/
def InIn (w : World) (a : Option Addr) (l : List InP) : Prop := l = [] ∨ ∃ b off, a = some ⟨b, off, none⟩ ∧ b < w.heap.size ∧ ∀ i t, l[i]? = some t → w.cell? ⟨b, off + i * 3, none⟩ = some (.int .u8 (t.c : Int)) ∧ w.cell? ⟨b, off + i * 3 + 1, none⟩ = some (.int .i64 t.a) ∧ w.cell? ⟨b, off + i * 3 + 2, none⟩ = some (.int .i64 t.b)
theorem InIn.below {w w' : World} {a : Option Addr} {l : List InP} {n : Nat} (h : InIn w a l) (hb : Below n w w') (hn : w.heap.size ≤ n) : InIn w' a l := by
  rcases h with h | ⟨b, off, h1, h2, h3⟩
  · exact Or.inl h
  · refine Or.inr ⟨b, off, h1, Nat.lt_of_lt_of_le h2 hb.size, fun i t ht => ?_⟩
    obtain ⟨k1, k2, k3⟩ := h3 i t ht
    exact ⟨by rw [hb.cell (p := ⟨b, off + i * 3, none⟩) (Nat.lt_of_lt_of_le h2 hn)]; exact k1, by rw [hb.cell (p := ⟨b, off + i * 3 + 1, none⟩) (Nat.lt_of_lt_of_le h2 hn)]; exact k2, by rw [hb.cell (p := ⟨b, off + i * 3 + 2, none⟩) (Nat.lt_of_lt_of_le h2 hn)]; exact k3⟩
theorem AcIn.below {w w' : World} {a : Option Addr} {l : List AcP} {n : Nat} (h : AcIn w a l) (hb : Below n w w') (hn : w.heap.size ≤ n) : AcIn w' a l := by
  rcases h with h | ⟨b, off, h1, h2, h3⟩
  · exact Or.inl h
  · refine Or.inr ⟨b, off, h1, Nat.lt_of_lt_of_le h2 hb.size, fun i t ht => ?_⟩
    obtain ⟨k1, k2⟩ := h3 i t ht
    exact ⟨by rw [hb.cell (p := ⟨b, off + i * 2, none⟩) (Nat.lt_of_lt_of_le h2 hn)]; exact k1, by rw [hb.cell (p := ⟨b, off + i * 2 + 1, none⟩) (Nat.lt_of_lt_of_le h2 hn)]; exact k2⟩
/-! ### plain: what is wrong with instructions, one by one -/
def firstBad (bad : Nat → InP → Int) : List InP → Nat → Option (Nat × Int)
  | [], _ => none
  | i :: r, k => if bad k i = 0 then firstBad bad r (k + 1) else some (k, bad k i)
theorem firstBad_congr {f g : Nat → InP → Int} (h : ∀ k i, f k i = g k i) : ∀ (l : List InP) (k : Nat), firstBad f l k = firstBad g l k
  | [], _ => rfl
  | i :: r, k => by unfold firstBad; rw [h k i, firstBad_congr h r (k + 1)]
theorem firstBad_none {bad : Nat → InP → Int} : ∀ (l : List InP) (k : Nat), firstBad bad l k = none → ∀ j t, l[j]? = some t → bad (k + j) t = 0
  | [], _, _, j, t, h => by simp at h
  | i :: r, k, hn, j, t, h => by
    unfold firstBad at hn
    split at hn
    · rename_i q
      cases j with
      | zero => simp at h; subst h; exact q
      | succ j =>
        have := firstBad_none r (k + 1) hn j t (by simpa using h)
        rw [show k + (j + 1) = k + 1 + j by omega]; exact this
    · cases hn
def lastC (l : List InP) : Option Nat := l.getLast?.map (·.c)
/-- the program's way. -/
def eachP (z : SzP) (f : Bool) (acc : List AcP) (l : List InP) : Option (Nat × Int) :=
  match firstBad (fun k i => badP z (if f then 1 else 2) k ((l.length : Int) - 1) (raOf acc i.a i.b) i) l 0 with
  | some x => some x
  | none => if (l.getLast?.map fun i => (rowF i.c).en) = some true then none else some (l.length, 193)
/-- the document's. -/
def eachD (z : SzP) (f : Bool) (acc : List AcP) (l : List InP) : Option (Nat × Int) :=
  match firstBad (fun k i => badD z (if f then 13 else 24) k ((l.length : Int) - 1) (raOf acc i.a i.b) i) l 0 with
  | some x => some x
  | none => if (l.getLast?.map fun i => i.c) = some (if f then 13 else 24) then none else some (l.length, 193)
theorem en_iff (c : Nat) (f : Bool) (h : (rowF c).of = if f then 1 else 2) : (rowF c).en = true ↔ c = if f then 13 else 24 := by
  rcases Nat.lt_or_ge 24 c with q | q
  · rw [row_big q] at h; cases f <;> simp [noR] at h
  · match c, q with
    | 0, _ | 1, _ | 2, _ | 3, _ | 4, _ | 5, _ | 6, _ | 7, _ | 8, _ | 9, _ | 10, _ | 11, _ | 12, _ | 13, _ | 14, _ | 15, _ | 16, _ | 17, _ | 18, _ | 19, _ | 20, _ | 21, _ | 22, _ | 23, _ | 24, _ => cases f <;> simp [rowF, rowsL, noR] at h ⊢
    | c + 25, q => omega
theorem badP_of {z : SzP} {of at_ last : Int} {ra : Bool} {i : InP} (h : badP z of at_ last ra i = 0) : ((rowF i.c).of : Int) = of := by
  unfold badP at h
  split at h
  · simp at h
  · rename_i q; exact Classical.not_not.1 q
theorem each_same (z : SzP) (f : Bool) (acc : List AcP) (l : List InP) : eachP z f acc l = eachD z f acc l := by
  unfold eachP eachD
  rw [firstBad_congr (g := fun k i => badD z (if f then 13 else 24) k ((l.length : Int) - 1) (raOf acc i.a i.b) i) (fun k i => bad_same z f k _ _ i)]
  cases q : firstBad (fun k i => badD z (if f then 13 else 24) k ((l.length : Int) - 1) (raOf acc i.a i.b) i) l 0 with
  | some x => rfl
  | none =>
    simp only
    cases e : l.getLast? with
    | none => simp
    | some t =>
      have ht : l[l.length - 1]? = some t := by rw [← List.getLast?_eq_getElem?]; exact e
      have hz := firstBad_none l 0 q _ t ht
      rw [← bad_same z f] at hz
      have ho := badP_of hz
      have ho' : (rowF t.c).of = if f then 1 else 2 := by cases f <;> simp at ho ⊢ <;> omega
      simp only [Option.map_some, Option.some.injEq]
      by_cases c : (rowF t.c).en = true
      · rw [if_pos c, if_pos ((en_iff _ f ho').1 c)]
      · rw [if_neg c, if_neg (fun q => c ((en_iff _ f ho').2 q))]
end Go.Proofs.YtdfnomglkibfbaaGreatDoor.Vf
