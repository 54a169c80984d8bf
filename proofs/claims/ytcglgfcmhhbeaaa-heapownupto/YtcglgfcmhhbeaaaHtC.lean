
import Derived.Test.YtcglgfcmhhbeaaaHtB
namespace Go.Proofs.Ytcglgfcmhhbeaaa.Hp
open Go.RowKit Go.Maps
set_option linter.unusedVariables false
set_option linter.unusedSimpArgs false
set_option maxRecDepth 100000
def rep (Lf : Nat → List Ent) (j : Nat) : List Ent := List.replicate (Lf j).length (xx j)
def rep2 (Lf : Nat → List Ent) (j k : Nat) : List Ent := List.replicate ((Lf j).length + k) (xx j)
theorem rep2_succ (Lf : Nat → List Ent) (j k : Nat) : rep2 Lf j (k + 1) = rep2 Lf j k ++ [xx j] := by unfold rep2; rw [← Nat.add_assoc, List.replicate_succ']
theorem rep2_zero (Lf : Nat → List Ent) (j : Nat) : rep2 Lf j 0 = rep Lf j := rfl
theorem atE_rep (n : Nat) (x : Ent) {i : Nat} (h : i < n) : atE (List.replicate n x) i = x := by simp [atE, List.getD_eq_getElem?_getD, List.getElem?_replicate, h]
/-- while the rows are written over. -/
def L1 (Lf : Nat → List Ent) (i k j : Nat) : List Ent := if j < i then rep Lf j else if j = i then List.replicate k (xx j) ++ (Lf j).drop k else Lf j
theorem L1_start (Lf : Nat → List Ent) (j : Nat) : L1 Lf 0 0 j = Lf j := by
  unfold L1
  rw [if_neg (by omega)]
  split
  · simp
  · rfl
theorem L1_next (Lf : Nat → List Ent) (i j : Nat) : L1 Lf i (Lf i).length j = L1 Lf (i + 1) 0 j := by
  unfold L1
  by_cases h1 : j < i
  · rw [if_pos h1, if_pos (by omega)]
  · rw [if_neg h1]
    by_cases h2 : j = i
    · subst h2; rw [if_pos rfl, if_pos (by omega)]; simp [rep]
    · rw [if_neg h2, if_neg (by omega)]
      split
      · simp
      · rfl
theorem L1_len (Lf : Nat → List Ent) {i k : Nat} (h : k ≤ (Lf i).length) (j : Nat) : (L1 Lf i k j).length = (Lf j).length := by
  unfold L1
  split
  · simp [rep]
  · split
    · rename_i e; subst e; simp; omega
    · rfl
theorem L1_set (Lf : Nat → List Ent) {i k : Nat} (h : k < (Lf i).length) : (L1 Lf i k i).set k (xx i) = L1 Lf i (k + 1) i := by
  unfold L1
  rw [if_neg (by omega), if_pos rfl, if_neg (by omega), if_pos rfl]
  rw [List.set_append_right _ _ (by simp)]
  simp only [List.length_replicate, Nat.sub_self]
  rw [List.drop_eq_getElem_cons h, List.set_cons_zero, List.replicate_succ']
  simp
theorem L1_other (Lf : Nat → List Ent) {i k j : Nat} (h : j ≠ i) : L1 Lf i (k + 1) j = L1 Lf i k j := by
  unfold L1
  rw [if_neg h, if_neg h]
theorem L1_end (Lf : Nat → List Ent) {m j : Nat} (h : j < m) : L1 Lf m 0 j = rep Lf j := by unfold L1; rw [if_pos h]
theorem OE.formO {w : World} {B : Nat} {v : Value} {l : List Ent} (h : OE w B v l) : ∃ a c, v = .slice a l.length c ∧ l.length ≤ c ∧ (0 < l.length → ∃ g, a = some ⟨g, 0, none⟩) := by
  rcases h.2 with ⟨e, e0⟩ | ⟨g, cap, cur, e1, _, _, hc, _⟩
  · exact ⟨none, 0, by rw [e, e0], by omega, fun q => by omega⟩
  · exact ⟨_, cap, e1, hc, fun _ => ⟨g, rfl⟩⟩
/-! headers -/
def hdr (V : Nat → Value) (m : Nat) : List Value := (List.range m).map V
theorem hdr_len (V : Nat → Value) (m : Nat) : (hdr V m).length = m := by simp [hdr]
theorem hdr_get (V : Nat → Value) {i m : Nat} (h : i < m) : (hdr V m)[i]? = some (V i) := by simp [hdr, h]
theorem hdr_snoc (V : Nat → Value) (m : Nat) (g : Value) : hdr (fun j => if j = m then g else V j) (m + 1) = hdr V m ++ [g] := by
  unfold hdr
  rw [List.range_succ, List.map_append]
  congr 1
  · apply List.map_congr_left
    intro j hj
    have := List.mem_range.1 hj
    rw [if_neg (by omega)]
  · simp
abbrev HRw (w : World) (B : Nat) (v : Value) (m : Nat) (V : Nat → Value) : Prop := w.ownsRow B 28 1 v m (hdr V m)
theorem HRw.form {w : World} {B m : Nat} {v : Value} {V : Nat → Value} (h : HRw w B v m V) : ∃ a c, v = .slice a m c ∧ (0 < m → ∃ g, a = some ⟨g, 0, none⟩ ∧ v.ownBlock = some g ∧ ∀ i, i < m → w.cell? ⟨g, i, none⟩ = some (V i)) := by
  rcases h.2 with ⟨e, e0⟩ | ⟨g, cap, cur, e1, _⟩
  · exact ⟨none, 0, by rw [e, e0], fun q => by omega⟩
  · refine ⟨some ⟨g, 0, none⟩, cap, e1, fun _ => ⟨g, rfl, by rw [e1]; rfl, fun i hi => ?_⟩⟩
    have := World.ownsRow.cells h (g := g) (by rw [e1]; rfl) i (V i) (hdr_get V hi)
    rw [add_lt0, Nat.zero_add] at this
    exact this
theorem en_info2 : (Try.prog.info? 28).map (fun i => (i.zero, i.bytes, i.size)) = some (some (.slice none 0 0), 24, 1) := by kernel_rfl
/-! what is left as it was -/
structure BF (V : Nat → Value) (m : Nat) (w w' : World) : Prop where
  size : w.heap.size ≤ w'.heap.size
  keep : ∀ k, k < w.heap.size → (∀ i, i < m → (V i).ownBlock ≠ some k) → w'.heap[k]? = w.heap[k]?
  same : w'.os = w.os ∧ w'.tape = w.tape ∧ w'.output = w.output
theorem BF.refl (V : Nat → Value) (m : Nat) (w : World) : BF V m w w := ⟨Nat.le_refl _, fun _ _ _ => rfl, rfl, rfl, rfl⟩
theorem BF.step {V : Nat → Value} {m : Nat} {w w1 w2 : World} {o : Option Nat} (h : BF V m w w1) (g : w1.grownBy w2 o) (ho : ∀ k, o = some k → k < w.heap.size → ∃ i, i < m ∧ (V i).ownBlock = some k) : BF V m w w2 :=
  ⟨Nat.le_trans h.size g.size, fun k hk q => by
    rw [g.block k (Nat.lt_of_lt_of_le hk h.size) (fun e => by
      obtain ⟨i, hi, e2⟩ := ho k e.symm hk
      exact q i hi e2)]
    exact h.keep k hk q, g.os.trans h.same.1, g.tape.trans h.same.2.1, g.output.trans h.same.2.2⟩
theorem BF.below {V : Nat → Value} {m : Nat} {w w1 w2 : World} (h : BF V m w w1) (b : Below w1.heap.size w1 w2) : BF V m w w2 :=
  ⟨Nat.le_trans h.size b.size, fun k hk q => by rw [b.block k (Nat.lt_of_lt_of_le hk h.size)]; exact h.keep k hk q, b.os.trans h.same.1, b.tape.trans h.same.2.1, b.output.trans h.same.2.2⟩
/-- where the book and its rows lie. -/
structure SPV (w0 : World) (N C m : Nat) (V : Nat → Value) (hv : Value) : Prop where
  nC : N < C
  nw : N < w0.heap.size
  cw : C ≤ w0.heap.size
  vb : ∀ i, i < m → ∀ k, (V i).ownBlock = some k → C ≤ k ∧ k < w0.heap.size
  hb : ∀ k, hv.ownBlock = some k → C ≤ k ∧ k < w0.heap.size
  dis : ∀ i j, i < m → j < m → i ≠ j → ∀ k, (V i).ownBlock = some k → (V j).ownBlock ≠ some k
  hd : ∀ i, i < m → ∀ k, (V i).ownBlock = some k → hv.ownBlock ≠ some k
/-- the book's headers and rows. -/
structure AS (w0 : World) (N C m : Nat) (V : Nat → Value) (hv : Value) (G : Nat → List Ent) (wr : World) : Prop where
  c12 : wr.cell? ⟨N, 12, none⟩ = some hv
  hr : HRw wr C hv m V
  rows : ∀ j, j < m → OE wr C (V j) (G j)
  bf : BF V m w0 wr
theorem HRw.below {w w' : World} {B C m : Nat} {v : Value} {V : Nat → Value} (h : HRw w B v m V) (hb : Below C w w') (hC : w.heap.size ≤ C) : HRw w' B v m V := by
  refine ⟨h.1, ?_⟩
  rcases h.2 with h2 | ⟨g, cap, cur, e1, e2, e3, e4⟩
  · exact Or.inl h2
  · exact Or.inr ⟨g, cap, cur, e1, e2, by rw [hb.block g (Nat.lt_of_lt_of_le (Array.getElem?_eq_some_iff.1 e3).1 hC)]; exact e3, e4⟩
theorem AS.below {w0 wr w' : World} {N C m : Nat} {V : Nat → Value} {hv : Value} {G : Nat → List Ent} (h : AS w0 N C m V hv G wr) (s : SPV w0 N C m V hv) (hb : Below wr.heap.size wr w') : AS w0 N C m V hv G w' :=
  ⟨by rw [hb.cell (p := ⟨N, 12, none⟩) (Nat.lt_of_lt_of_le s.nw h.bf.size)]; exact h.c12, h.hr.below hb (Nat.le_refl _), fun j hj => (h.rows j hj).below hb (Nat.le_refl _), h.bf.below hb⟩
/-- a row of the book written: the others stay. -/
theorem AS.put {w0 wr : World} {N C m i k g n cap : Nat} {V : Nat → Value} {hv : Value} {G G' : Nat → List Ent} (h : AS w0 N C m V hv G wr) (s : SPV w0 N C m V hv) (hi : i < m) (hV : V i = .slice (some ⟨g, 0, none⟩) n cap) (hk : k < (G i).length) (x : Ent) (hG : G' i = (G i).set k x) (hG2 : ∀ j, j < m → j ≠ i → G' j = G j) :
    AS w0 N C m V hv G' ((wr.setCell ⟨g, k * 2, none⟩ (.int .i64 x.1)).setCell ⟨g, k * 2 + 1, none⟩ (.string x.2)) := by
  have o := h.rows i hi
  have hV2 : (V i).ownBlock = some g := by rw [hV]; rfl
  rw [hV] at o
  obtain ⟨_, _, e1, _⟩ := o.formO
  injection e1 with _ e2 _
  subst e2
  have t1 := World.ownsRow.stored o (k * 2) (.int .i64 x.1)
  have t2 := World.ownsRow.stored t1.1 (k * 2 + 1) (.string x.2)
  rw [encE_put (G i) k x hk] at t2
  have gg : wr.grownBy ((wr.setCell ⟨g, k * 2, none⟩ (.int .i64 x.1)).setCell ⟨g, k * 2 + 1, none⟩ (.string x.2)) (some g) := ⟨rfl, rfl, rfl, by simp, fun j hj q => by rw [t2.2.block j (Nat.lt_of_lt_of_le hj t1.2.size) q]; exact t1.2.block j hj q⟩
  have gN : N ≠ g := by have := (s.vb i hi g hV2).1; have := s.nC; omega
  refine ⟨?_, World.ownsRow.kept h.hr gg (Or.inr (s.hd i hi g hV2)), fun j hj => ?_, h.bf.step gg (fun q e _ => ⟨i, hi, by rw [hV2]; exact e⟩)⟩
  · rw [World.cell?_of_block (w := wr) (a := ⟨N, 12, none⟩) (gg.block N (Nat.lt_of_lt_of_le s.nw h.bf.size) (fun e => gN (by injection e)))]
    exact h.c12
  · by_cases c : j = i
    · subst c
      rw [hG, hV]
      unfold OE
      rw [List.length_set]
      exact t2.1
    · rw [hG2 j hj c]
      exact World.ownsRow.kept (h.rows j hj) gg (Or.inr (fun e => s.dis i j hi hj (fun q => c q.symm) g hV2 e))
end Go.Proofs.Ytcglgfcmhhbeaaa.Hp
