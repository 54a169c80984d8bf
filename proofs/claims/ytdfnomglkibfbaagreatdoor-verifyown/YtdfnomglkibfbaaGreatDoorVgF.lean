
import Derived.Test.YtdfnomglkibfbaaGreatDoorVgE
namespace Go.Proofs.YtdfnomglkibfbaaGreatDoor.Vf
open Go.RowKit
set_option linter.unusedVariables false
set_option linter.unusedSimpArgs false
set_option maxRecDepth 100000
/-- lists of texts in memory. -/
def LsIn (w : World) (a : Option Addr) (l : List (List ByteArray)) : Prop := l = [] ∨ ∃ b off, a = some ⟨b, off, none⟩ ∧ b < w.heap.size ∧ ∀ i t, l[i]? = some t → t.length ≤ 1152921504606846976 ∧ ∃ x c, w.cell? ⟨b, off + i, none⟩ = some (.slice x t.length c) ∧ StIn w x t
theorem LsIn.below {w w' : World} {a : Option Addr} {l : List (List ByteArray)} {n : Nat} (h : LsIn w a l) (hb : Below n w w') (hn : w.heap.size ≤ n) : LsIn w' a l := by
  rcases h with h | ⟨b, off, h1, h2, h3⟩
  · exact Or.inl h
  · refine Or.inr ⟨b, off, h1, Nat.lt_of_lt_of_le h2 hb.size, fun i t ht => ?_⟩
    obtain ⟨k0, x, c, k1, k2⟩ := h3 i t ht
    exact ⟨k0, x, c, by rw [hb.cell (p := ⟨b, off + i, none⟩) (Nat.lt_of_lt_of_le h2 hn)]; exact k1, k2.below hb hn⟩
theorem LsIn.at {w : World} {a : Option Addr} {l : List (List ByteArray)} (h : LsIn w a l) {k : Nat} (hk : k < l.length) : ∃ b off t x c, l[k]? = some t ∧ t.length ≤ 1152921504606846976 ∧ a = some ⟨b, off, none⟩ ∧ b < w.heap.size ∧ w.cell? ⟨b, off + k, none⟩ = some (.slice x t.length c) ∧ StIn w x t := by
  rcases h with h | ⟨b, off, h1, h2, h3⟩
  · rw [h] at hk; simp at hk
  · obtain ⟨k0, x, c, k1, k2⟩ := h3 k _ (List.getElem?_eq_getElem hk)
    exact ⟨b, off, l[k], x, c, List.getElem?_eq_getElem hk, k0, h1, h2, k1, k2⟩
/-- what a program's slices hold. -/
structure PrL where
  groups : List ByteArray
  accs : List AcP
  alias : List ByteArray
  names : List ByteArray
  texts : List ByteArray
  lists : List (List ByteArray)
  filter : List InP
  output : List InP
/-- a program in memory. -/
structure PrIn (w : World) (p : PrH) (q : PrL) : Prop where
  groups : StIn w p.groups.a q.groups
  accs : AcIn w p.accs.a q.accs
  alias : StIn w p.alias.a q.alias
  names : StIn w p.names.a q.names
  texts : StIn w p.texts.a q.texts
  lists : LsIn w p.lists.a q.lists
  filter : InIn w p.filter.a q.filter
  output : InIn w p.output.a q.output
/-- as long as their slices say. -/
structure PrN (p : PrH) (q : PrL) : Prop where
  groups : p.groups.n = q.groups.length
  accs : p.accs.n = q.accs.length
  alias : p.alias.n = q.alias.length
  names : p.names.n = q.names.length
  texts : p.texts.n = q.texts.length
  lists : p.lists.n = q.lists.length
  filter : p.filter.n = q.filter.length
  output : p.output.n = q.output.length
  groups1 : q.groups.length ≤ 1152921504606846976
  accs1 : q.accs.length ≤ 1152921504606846976
  alias1 : q.alias.length ≤ 1152921504606846976
  names1 : q.names.length ≤ 1152921504606846976
  texts1 : q.texts.length ≤ 1152921504606846976
  lists1 : q.lists.length ≤ 1152921504606846976
  filter1 : q.filter.length ≤ 1152921504606846976
  output1 : q.output.length ≤ 1152921504606846976
theorem PrIn.below {w w' : World} {p : PrH} {q : PrL} {n : Nat} (h : PrIn w p q) (hb : Below n w w') (hn : w.heap.size ≤ n) : PrIn w' p q :=
  ⟨h.groups.below hb hn, h.accs.below hb hn, h.alias.below hb hn, h.names.below hb hn, h.texts.below hb hn, h.lists.below hb hn, h.filter.below hb hn, h.output.below hb hn⟩
def memB (l : List ByteArray) (x : ByteArray) : Bool := l.any fun y => decide (y = x)
theorem memB_iff {l : List ByteArray} {x : ByteArray} : memB l x = true ↔ x ∈ l := by
  unfold memB
  rw [List.any_eq_true]
  exact ⟨fun ⟨y, h1, h2⟩ => by rw [← of_decide_eq_true h2]; exact h1, fun h => ⟨x, h, by simp⟩⟩
theorem memB_not {l : List ByteArray} {x : ByteArray} : memB l x = false ↔ ¬ x ∈ l := by
  rw [← memB_iff]; simp
/-- no name stands twice, place by place. -/
def nodB (l : List ByteArray) (i : Nat) : Bool := (List.range i).all fun j => !(memB (l.take j) (l.getD j ⟨#[]⟩))
theorem nod_succ (l : List ByteArray) (i : Nat) : nodB l (i + 1) = (nodB l i && !(memB (l.take i) (l.getD i ⟨#[]⟩))) := by
  unfold nodB
  rw [List.range_succ, List.all_append]
  simp
theorem nod_false {l : List ByteArray} {n i : Nat} (hi : i < n) (h : memB (l.take i) (l.getD i ⟨#[]⟩) = true) : nodB l n = false := by
  unfold nodB
  rw [List.all_eq_false]
  exact ⟨i, List.mem_range.2 hi, by rw [h]; simp⟩
theorem nod_is (l : List ByteArray) : nodB l l.length = true ↔ l.Nodup := by
  unfold nodB
  rw [List.all_eq_true]
  unfold List.Nodup
  rw [List.pairwise_iff_getElem]
  constructor
  · intro h i j hi hj hij e
    have := h j (List.mem_range.2 hj)
    rw [List.getD_eq_getElem?_getD, List.getElem?_eq_getElem hj] at this
    simp only [Option.getD_some, Bool.not_eq_true'] at this
    rw [memB_not] at this
    apply this
    rw [← e]
    exact List.mem_take_iff_getElem.2 ⟨i, by omega, rfl⟩
  · intro h j hj
    have hj' := List.mem_range.1 hj
    rw [List.getD_eq_getElem?_getD, List.getElem?_eq_getElem hj']
    simp only [Option.getD_some, Bool.not_eq_true']
    rw [memB_not]
    intro hm
    obtain ⟨i, hi, e⟩ := List.mem_take_iff_getElem.1 hm
    exact h i j (by omega) hj' (by omega) e
/-- is the head of a program right? -/
def hdB (p : PrH) (q : PrL) : Bool := (headB p.from_ p.into p.every p.offset q.groups.length && q.groups.all columnB) && q.accs.all accB && (decide ((1 : Int) ≤ (q.alias.length : Int)) && decide ((q.alias.length : Int) ≤ 16)) && q.alias.all columnB && q.names.all columnB && q.texts.all textB && nodB q.alias q.alias.length && q.lists.all listB && (decide ((q.filter.length : Int) ≤ 65536) && decide ((q.output.length : Int) ≤ 65536))
end Go.Proofs.YtdfnomglkibfbaaGreatDoor.Vf
