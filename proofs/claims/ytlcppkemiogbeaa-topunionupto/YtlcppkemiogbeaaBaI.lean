
import Derived.Test.YtlcppkemiogbeaaBaH
namespace Go.Proofs.Ytlcppkemiogbeaa
open Go.RowKit _root_.Go.Proofs.Ytlcppkemiogbeaa.So
set_option linter.unusedVariables false
set_option linter.unusedSimpArgs false
theorem TgIn.grownW {w w' : World} {a : Option Addr} {l : List TagP} {row : Option Nat} (h : TgIn w a l) (hg : w.grownBy w' row) (hne : l ≠ [] → ∀ ad, a = some ad → row ≠ some ad.block) : TgIn w' a l := by
  by_cases e : l = []
  · exact Or.inl e
  · rcases h with h | ⟨b, off, ha, hb, hc⟩
    · exact absurd h e
    · have hk : w'.heap[b]? = w.heap[b]? := hg.block b hb (fun q => hne e _ ha q.symm)
      refine Or.inr ⟨b, off, ha, Nat.lt_of_lt_of_le hb hg.size, fun i t ht => ?_⟩
      obtain ⟨k1, k2⟩ := hc i t ht
      exact ⟨by rw [World.cell?_of_block (w := w) (a := ⟨b, off + i * 2, none⟩) hk]; exact k1, by rw [World.cell?_of_block (w := w) (a := ⟨b, off + i * 2 + 1, none⟩) hk]; exact k2⟩
/-- and no tags lie in the row's own block. -/
def OW2 (w : World) (B : Nat) (v : Value) (L : List WrA) : Prop := OW w B v L ∧ ∀ t ∈ L, t.1.s.t ≠ [] → ∀ ad, t.2.1 = some ad → v.ownBlock ≠ some ad.block
theorem OW2.nil (w : World) (B : Nat) : OW2 w B (.slice none 0 0) [] := ⟨OW.nil w B, fun t h => by cases h⟩
theorem OW2.below {w w' : World} {B : Nat} {v : Value} {L : List WrA} (h : OW2 w B v L) (hb : Below w.heap.size w w') : OW2 w' B v L := ⟨h.1.below hb, h.2⟩
theorem app2W (W : World) (B : Nat) (v : Value) (L : List WrA) (h : OW2 W B v L) (hB : B ≤ W.heap.size) (t : WrA) (ht : SerIn W t.2.1 t.1.s) (htb : t.1.s.t ≠ [] → ∀ ad, t.2.1 = some ad → v.ownBlock ≠ some ad.block) (hn : L.length + 1 ≤ 1099511627776) :
    ∃ a c w', (Builtin.append_ #[28, 28] 28 #[v, .slice (some ⟨W.heap.size, 0, none⟩) 1 1]).run Try.prog (W.alloc (.cells #[.string t.1.s.m, .slice t.2.1 t.1.s.t.length t.2.2, .string t.1.s.f, .int .i64 t.1.tm, .int .u8 (t.1.kd : Int), .int .i64 t.1.n] 37)) = .ok (.slice a (L.length + 1) c) w' ∧ OW2 w' B (.slice a (L.length + 1) c) (L ++ [t]) ∧ Below B W w' := by
  have b1 : Below W.heap.size W (W.alloc (.cells #[.string t.1.s.m, .slice t.2.1 t.1.s.t.length t.2.2, .string t.1.s.f, .int .i64 t.1.tm, .int .u8 (t.1.kd : Int), .int .i64 t.1.n] 37)) := (Below.refl _ W).alloc (Nat.le_refl _) _
  have ho2 := (h.1.below b1).1
  obtain ⟨i, i1, i0⟩ := Option.map_eq_some_iff.1 wr_info
  have i2 : i.zero = some (.agg #[.string ⟨#[]⟩, .slice none 0 0, .string ⟨#[]⟩, .int .i64 0, .int .u8 0, .int .i64 0]) := congrArg (·.1) i0
  have i3 : i.bytes = 80 := congrArg (·.2.1) i0
  have i4 : i.size = 6 := congrArg (·.2.2) i0
  have hml : maxLen = 9223372036854775807 := by decide
  have hB2 := Nat.le_trans hB b1.size
  obtain ⟨g, cap, w', hr, own, gr, hat, hlt⟩ := run_append_lies (P := Try.prog) _ 28 28 B 37 i (.agg #[.string ⟨#[]⟩, .slice none 0 0, .string ⟨#[]⟩, .int .i64 0, .int .u8 0, .int .i64 0]) 6 80 Try.underlying28 i1 i2 i4 i3 rfl (by omega) v L.length (encW L) ho2 ⟨W.heap.size, 0, none⟩ 1 1 (encW [t]) rfl (fun j u hj => by
    rcases j with _ | _ | _ | _ | _ | _ | j <;> simp [encW] at hj <;> (try (subst hj; simp [go_sem]))) (encW_one _) (by omega) (by omega) (by omega) hB2 _ rfl
  have gW : W.grownBy w' v.ownBlock := ⟨gr.os, gr.tape, gr.output, Nat.le_trans b1.size gr.size, fun k hk hne => by rw [gr.block k (Nat.lt_of_lt_of_le hk b1.size) hne]; exact b1.block k hk⟩
  have all : ∀ u ∈ L ++ [t], SerIn W u.2.1 u.1.s ∧ (u.1.s.t ≠ [] → ∀ ad, u.2.1 = some ad → v.ownBlock ≠ some ad.block) := fun u hu => by
    rcases List.mem_append.1 hu with q | q
    · exact ⟨h.1.2 u q, h.2 u q⟩
    · rw [List.mem_singleton.1 q]; exact ⟨ht, htb⟩
  refine ⟨some ⟨g, 0, none⟩, cap, w', hr, ⟨⟨?_, fun u hu => ⟨(all u hu).1.1.grownW gW (all u hu).2, (all u hu).1.2⟩⟩, fun u hu he ad had => ?_⟩, (b1.mono hB).trans ((Below.refl B _).grown gr hB2 (fun k e => (World.ownsRow.lt ho2 k e).1))⟩
  · rw [List.length_append, List.length_singleton, encW_append]; exact own
  · rcases hat with e | e
    · intro q
      exact (all u hu).2 he ad had (e.trans q)
    · intro q
      have q1 : g = ad.block := by simpa [Value.ownBlock] using q
      rcases (all u hu).1.1 with q2 | ⟨b, off, q3, q4, _⟩
      · exact he q2
      · rw [had] at q3
        injection q3 with q3
        rw [q3] at q1
        have : (W.alloc (.cells #[.string t.1.s.m, .slice t.2.1 t.1.s.t.length t.2.2, .string t.1.s.f, .int .i64 t.1.tm, .int .u8 (t.1.kd : Int), .int .i64 t.1.n] 37)).heap.size = W.heap.size + 1 := by simp
        rw [this] at e
        simp only at q1
        omega
theorem make_n (n : Nat) (h : n ≤ 1099511627776) (w : World) : (Instr.makeSlice 79 (.int .i64 (n : Int)) (.int .i64 (n : Int))).run Try.prog w = .ok (.slice (some ⟨w.heap.size, 0, none⟩) n n) (w.alloc (.cells (madeCells #[.int .i64 0] n) 3)) := by
  obtain ⟨i, i1, i0⟩ := Option.map_eq_some_iff.1 int_info
  have i2 : i.zero = some (.int .i64 0) := congrArg (·.1) i0
  have i3 : i.bytes = 8 := congrArg (·.2.1) i0
  have i4 : i.size = 1 := congrArg (·.2.2) i0
  have := run_make (P := Try.prog) w 79 3 i (.int .i64 0) Try.underlying79 i1 i2 .i64 .i64 (n : Int) (n : Int) (by omega) (by omega) (by rw [i3]; omega) (by omega)
  rw [i4] at this
  simpa [Value.cells] using this
/-- places as they are filled in: k of n. -/
structure FP (w : World) (b0 n k : Nat) (wr : World) : Prop where
  c : ∀ j : Nat, j < n → wr.cell? ⟨b0, j, none⟩ = some (.int .i64 (if j < k then (j : Int) else 0))
  f : ∀ j : Nat, j < n → wr.frozen? ⟨b0, j, none⟩ = false
  b : Below w.heap.size w wr
  l : b0 < wr.heap.size
theorem FP.more {w : World} {b0 n k : Nat} {wr : World} (h : FP w b0 n k wr) (hk : k < n) (hb : w.heap.size ≤ b0) : FP w b0 n (k + 1) (wr.setCell ⟨b0, k, none⟩ (.int .i64 (k : Int))) := by
  refine ⟨fun j hj => ?_, fun j hj => by rw [World.frozen?_setCell]; exact h.f j hj, h.b.setCell (p := ⟨b0, k, none⟩) hb _, by simpa using h.l⟩
  by_cases e : j = k
  · subst e; rw [World.cell?_setCell_same _ _ _ (h.c j hj), if_pos (by omega)]
  · rw [World.cell?_setCell_other _ _ _ _ (by intro q; injection q; omega), h.c j hj]
    by_cases q : j < k
    · rw [if_pos q, if_pos (by omega)]
    · rw [if_neg q, if_neg (by omega)]
theorem FP.start (w : World) (n : Nat) : FP w w.heap.size n 0 (w.alloc (.cells (madeCells #[.int .i64 0] n) 3)) := by
  have hz : ∀ j, j < n → (madeCells #[Value.int .i64 0] n)[j]? = some (.int .i64 0) := fun j hj => by
    rw [← Array.getElem?_toList, toList_madeCells_one]; simp [hj]
  refine ⟨fun j hj => ?_, fun j hj => frozen_of_row _ w.heap.size j _ 3 (heap_alloc_new w _), (Below.refl _ w).alloc (Nat.le_refl _) _, by simp⟩
  rw [cell_of_row _ w.heap.size j _ 3 (0, 0) (heap_alloc_new w _), if_neg (by omega)]; exact hz j hj
theorem FP.done {w : World} {b0 n : Nat} {wr : World} (h : FP w b0 n n wr) : PW wr b0 n := ⟨h.l, fun j hj => by rw [h.c j hj, if_pos hj]⟩
/-- what stands while the samples are told. -/
structure OD1 (w3 : World) (l : List WrP) (out : List Nat) (k : Nat) (v : Value) (L : List WrA) (wr : World) : Prop where
  row : OW2 wr w3.heap.size v L
  is : L.map (·.1) = ordL l out k
  bl : Below w3.heap.size w3 wr
theorem OD1.below {w3 : World} {l : List WrP} {out : List Nat} {k : Nat} {v : Value} {L : List WrA} {wr wx : World} (s : OD1 w3 l out k v L wr) (hB : Below wr.heap.size wr wx) : OD1 w3 l out k v L wx := ⟨s.row.below hB, s.is, s.bl.trans (hB.mono s.bl.size)⟩
theorem ordL_skip {l : List WrP} {out : List Nat} {k q p : Nat} (hk : 0 < k) (hq : out[k - 1]? = some q) (hp : out[k]? = some p) (h : wC (atW l q) (atW l p) = 0) : ordL l out (k + 1) = ordL l out k := by
  conv => lhs; unfold ordL
  rw [if_neg, List.append_nil]
  rw [List.getD_eq_getElem?_getD, List.getD_eq_getElem?_getD, hq, hp]
  rintro (e | e)
  · omega
  · exact e h
theorem ordL_new {l : List WrP} {out : List Nat} {k p : Nat} (hp : out[k]? = some p) (h : k = 0 ∨ ∃ q, out[k - 1]? = some q ∧ wC (atW l q) (atW l p) ≠ 0) : ordL l out (k + 1) = ordL l out k ++ [atW l p] := by
  conv => lhs; unfold ordL
  rw [if_pos]
  · rw [List.getD_eq_getElem?_getD, hp]; rfl
  · rcases h with e | ⟨q, hq, e⟩
    · exact Or.inl e
    · right; rw [List.getD_eq_getElem?_getD, List.getD_eq_getElem?_getD, hq, hp]; exact e
/-- slices.Clone of tags, whatever they are: in a block of their own. -/
theorem cloneW_any (a : Option Addr) (c : Nat) (l : List TagP) (w : World) (h : TgIn w a l) (hn : l.length ≤ 4398046511104) :
    Calls Try.prog 34 #[.slice a l.length c] w fun e w' => ∃ a' c', e = .returned (.slice a' l.length c') ∧ TgIn w' a' l ∧ (∀ ad, a' = some ad → w.heap.size ≤ ad.block) ∧ Below w.heap.size w w' := by
  cases a with
  | none =>
    obtain rfl : l = [] := by
      rcases h with e | ⟨b, off, e, _⟩
      · exact e
      · cases e
    exact (cloneT_nil c w).mono fun e w' hh => ⟨none, 0, hh.1, Or.inl rfl, (fun ad q => by cases q), by rw [hh.2]; exact Below.refl _ _⟩
  | some ad =>
    refine (cloneT_any ad c l w h hn).mono fun e w' hh => ?_
    obtain ⟨g, cap, h1, h2, h3, h4, h5⟩ := hh
    exact ⟨some ⟨g, 0, none⟩, cap, h1, by have := (OT.tr h4).tin; rw [atT_map] at this; exact this, (fun ad q => by cases q; exact h2), h5⟩
end Go.Proofs.Ytlcppkemiogbeaa
