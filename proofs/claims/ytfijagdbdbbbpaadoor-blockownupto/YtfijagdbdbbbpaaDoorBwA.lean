
import Derived.Test.YtfijagdbdbbbpaaDoorApKq
import Derived.Deep.AppendLies
import Derived.OpenShut
import Derived.WalkSmall
import Derived.WalkKit
import Derived.ProofKit
import Derived.BigQuiet
namespace Go.Proofs.YtfijagdbdbbbpaaDoor.Bk0
open Go.RowKit
set_option linter.unusedVariables false
set_option linter.unusedSimpArgs false
set_option maxRecDepth 100000
theorem below_trans {w w1 w2 : World} {n : Nat} (h : Below n w w1) (k : Below n w1 w2) : Below n w w2 := ⟨k.os.trans h.os, k.tape.trans h.tape, k.output.trans h.output, Nat.le_trans h.size k.size, fun j hj => (k.block j hj).trans (h.block j hj)⟩
theorem below_less {w w1 : World} {n m : Nat} (h : Below n w w1) (hm : m ≤ n) : Below m w w1 := ⟨h.os, h.tape, h.output, h.size, fun j hj => h.block j (by omega)⟩
theorem add_lt0 (b o j : Nat) : (⟨b, o, none⟩ : Addr).add j = ⟨b, o + j, none⟩ := by
  simp [Addr.add]
/-- the mark of a number. -/
def xx (i : Nat) : Value := .int .u8 (48 + ((i % 200 : Nat) : Int))
theorem el_info : (Tryd.prog.info? 5).map (fun i => (i.zero, i.bytes, i.size)) = some (some (.int .u8 0), 1, 1) := by kernel_rfl
theorem news1 {W : World} {K : Nat} {x : Value} (hx : W.cell? ⟨K, 0, none⟩ = some x) : ∀ j u, [x][j]? = some u → W.cell? ((⟨K, 0, none⟩ : Addr).add j) = some u := fun j u hj => by
  rcases j with _ | j
  · simp at hj; subst hj; rw [add_lt0]; exact hx
  · simp at hj
/-- a row of one's own. -/
def OE (w : World) (B : Nat) (v : Value) (l : List Value) : Prop := w.ownsRow B 5 1 v l.length l
theorem OE.below {w w' : World} {B C : Nat} {v : Value} {l : List Value} (h : OE w B v l) (hb : Below C w w') (hC : w.heap.size ≤ C) : OE w' B v l := by
  refine ⟨h.1, ?_⟩
  rcases h.2 with h2 | ⟨g, cap, cur, e1, e2, e3, e4⟩
  · exact Or.inl h2
  · exact Or.inr ⟨g, cap, cur, e1, e2, by rw [hb.block g (Nat.lt_of_lt_of_le (Array.getElem?_eq_some_iff.1 e3).1 hC)]; exact e3, e4⟩
theorem OE.bound {w : World} {B : Nat} {v : Value} {l : List Value} (h : OE w B v l) {k : Nat} (e : v.ownBlock = some k) : B ≤ k ∧ k < w.heap.size := World.ownsRow.lt h k e
def rep (Lf : Nat → List Value) (j : Nat) : List Value := List.replicate (Lf j).length (xx j)
def rep2 (Lf : Nat → List Value) (j k : Nat) : List Value := List.replicate ((Lf j).length + k) (xx j)
theorem rep2_succ (Lf : Nat → List Value) (j k : Nat) : rep2 Lf j (k + 1) = rep2 Lf j k ++ [xx j] := by unfold rep2; rw [← Nat.add_assoc, List.replicate_succ']
theorem rep2_zero (Lf : Nat → List Value) (j : Nat) : rep2 Lf j 0 = rep Lf j := rfl
theorem get_rep (n : Nat) (x : Value) {i : Nat} (h : i < n) : (List.replicate n x)[i]? = some x := by simp [List.getElem?_replicate, h]
/-- while the rows are written over. -/
def L1 (Lf : Nat → List Value) (i k j : Nat) : List Value := if j < i then rep Lf j else if j = i then List.replicate k (xx j) ++ (Lf j).drop k else Lf j
theorem L1_start (Lf : Nat → List Value) (j : Nat) : L1 Lf 0 0 j = Lf j := by
  unfold L1
  rw [if_neg (by omega)]
  split
  · simp
  · rfl
theorem L1_next (Lf : Nat → List Value) (i j : Nat) : L1 Lf i (Lf i).length j = L1 Lf (i + 1) 0 j := by
  unfold L1
  by_cases h1 : j < i
  · rw [if_pos h1, if_pos (by omega)]
  · rw [if_neg h1]
    by_cases h2 : j = i
    · subst h2; rw [if_pos rfl, if_pos (by omega)]; simp [rep]
    · rw [if_neg h2, if_neg (by omega)]
      split
      · simp
      · rfl
theorem L1_len (Lf : Nat → List Value) {i k : Nat} (h : k ≤ (Lf i).length) (j : Nat) : (L1 Lf i k j).length = (Lf j).length := by
  unfold L1
  split
  · simp [rep]
  · split
    · rename_i e; subst e; simp; omega
    · rfl
theorem L1_set (Lf : Nat → List Value) {i k : Nat} (h : k < (Lf i).length) : (L1 Lf i k i).set k (xx i) = L1 Lf i (k + 1) i := by
  unfold L1
  rw [if_neg (by omega), if_pos rfl, if_neg (by omega), if_pos rfl]
  rw [List.set_append_right _ _ (by simp)]
  simp only [List.length_replicate, Nat.sub_self]
  rw [List.drop_eq_getElem_cons h, List.set_cons_zero, List.replicate_succ']
  simp
theorem L1_other (Lf : Nat → List Value) {i k j : Nat} (h : j ≠ i) : L1 Lf i (k + 1) j = L1 Lf i k j := by
  unfold L1
  rw [if_neg h, if_neg h]
theorem L1_end (Lf : Nat → List Value) {m j : Nat} (h : j < m) : L1 Lf m 0 j = rep Lf j := by unfold L1; rw [if_pos h]
theorem OE.formO {w : World} {B : Nat} {v : Value} {l : List Value} (h : OE w B v l) : ∃ a c, v = .slice a l.length c ∧ l.length ≤ c ∧ (0 < l.length → ∃ g, a = some ⟨g, 0, none⟩) := by
  rcases h.2 with ⟨e, e0⟩ | ⟨g, cap, cur, e1, _, _, hc, _⟩
  · exact ⟨none, 0, by rw [e, e0], by omega, fun q => by omega⟩
  · exact ⟨_, cap, e1, hc, fun _ => ⟨g, rfl⟩⟩
/-! headers -/
def hdr (V : Nat → Value) (m : Nat) : List Value := (List.range m).map V
theorem hdr_len (V : Nat → Value) (m : Nat) : (hdr V m).length = m := by simp [hdr]
theorem hdr_get (V : Nat → Value) {i m : Nat} (h : i < m) : (hdr V m)[i]? = some (V i) := by simp [hdr, h]
theorem hdr_snoc (V : Nat → Value) (m : Nat) (g : Value) : hdr (fun j => if j = m then g else V j) (m + 1) = hdr V m ++ [g] := by
  unfold hdr
  rw [List.range_succ, List.map_append]
  congr 1
  · apply List.map_congr_left
    intro j hj
    have := List.mem_range.1 hj
    rw [if_neg (by omega)]
  · simp
abbrev HRw (w : World) (B : Nat) (v : Value) (m : Nat) (V : Nat → Value) : Prop := w.ownsRow B 60 1 v m (hdr V m)
theorem HRw.form {w : World} {B m : Nat} {v : Value} {V : Nat → Value} (h : HRw w B v m V) : ∃ a c, v = .slice a m c ∧ (0 < m → ∃ g, a = some ⟨g, 0, none⟩ ∧ v.ownBlock = some g ∧ ∀ i, i < m → w.cell? ⟨g, i, none⟩ = some (V i)) := by
  rcases h.2 with ⟨e, e0⟩ | ⟨g, cap, cur, e1, _⟩
  · exact ⟨none, 0, by rw [e, e0], fun q => by omega⟩
  · refine ⟨some ⟨g, 0, none⟩, cap, e1, fun _ => ⟨g, rfl, by rw [e1]; rfl, fun i hi => ?_⟩⟩
    have := World.ownsRow.cells h (g := g) (by rw [e1]; rfl) i (V i) (hdr_get V hi)
    rw [add_lt0, Nat.zero_add] at this
    exact this
theorem en_info2 : (Tryd.prog.info? 60).map (fun i => (i.zero, i.bytes, i.size)) = some (some (.slice none 0 0), 24, 1) := by kernel_rfl
/-! what is left as it was -/
structure BF (V : Nat → Value) (m : Nat) (w w' : World) : Prop where
  size : w.heap.size ≤ w'.heap.size
  keep : ∀ k, k < w.heap.size → (∀ i, i < m → (V i).ownBlock ≠ some k) → w'.heap[k]? = w.heap[k]?
  same : w'.os = w.os ∧ w'.tape = w.tape ∧ w'.output = w.output
theorem BF.refl (V : Nat → Value) (m : Nat) (w : World) : BF V m w w := ⟨Nat.le_refl _, fun _ _ _ => rfl, rfl, rfl, rfl⟩
theorem BF.step {V : Nat → Value} {m : Nat} {w w1 w2 : World} {o : Option Nat} (h : BF V m w w1) (g : w1.grownBy w2 o) (ho : ∀ k, o = some k → k < w.heap.size → ∃ i, i < m ∧ (V i).ownBlock = some k) : BF V m w w2 :=
  ⟨Nat.le_trans h.size g.size, fun k hk q => by
    rw [g.block k (Nat.lt_of_lt_of_le hk h.size) (fun e => by
      obtain ⟨i, hi, e2⟩ := ho k e.symm hk
      exact q i hi e2)]
    exact h.keep k hk q, g.os.trans h.same.1, g.tape.trans h.same.2.1, g.output.trans h.same.2.2⟩
theorem BF.below {V : Nat → Value} {m : Nat} {w w1 w2 : World} (h : BF V m w w1) (b : Below w1.heap.size w1 w2) : BF V m w w2 :=
  ⟨Nat.le_trans h.size b.size, fun k hk q => by rw [b.block k (Nat.lt_of_lt_of_le hk h.size)]; exact h.keep k hk q, b.os.trans h.same.1, b.tape.trans h.same.2.1, b.output.trans h.same.2.2⟩
/-- where the book and its rows lie. -/
structure SPV (w0 : World) (N C m : Nat) (V : Nat → Value) (hv : Value) : Prop where
  nC : N < C
  nw : N < w0.heap.size
  cw : C ≤ w0.heap.size
  vb : ∀ i, i < m → ∀ k, (V i).ownBlock = some k → C ≤ k ∧ k < w0.heap.size
  hb : ∀ k, hv.ownBlock = some k → C ≤ k ∧ k < w0.heap.size
  dis : ∀ i j, i < m → j < m → i ≠ j → ∀ k, (V i).ownBlock = some k → (V j).ownBlock ≠ some k
  hd : ∀ i, i < m → ∀ k, (V i).ownBlock = some k → hv.ownBlock ≠ some k
/-- the book's headers and rows. -/
structure AS (w0 : World) (N C m : Nat) (V : Nat → Value) (hv : Value) (G : Nat → List Value) (wr : World) : Prop where
  cF : wr.cell? ⟨N, 0, none⟩ = some hv
  hr : HRw wr C hv m V
  rows : ∀ j, j < m → OE wr C (V j) (G j)
  bf : BF V m w0 wr
theorem HRw.below {w w' : World} {B C m : Nat} {v : Value} {V : Nat → Value} (h : HRw w B v m V) (hb : Below C w w') (hC : w.heap.size ≤ C) : HRw w' B v m V := by
  refine ⟨h.1, ?_⟩
  rcases h.2 with h2 | ⟨g, cap, cur, e1, e2, e3, e4⟩
  · exact Or.inl h2
  · exact Or.inr ⟨g, cap, cur, e1, e2, by rw [hb.block g (Nat.lt_of_lt_of_le (Array.getElem?_eq_some_iff.1 e3).1 hC)]; exact e3, e4⟩
theorem AS.below {w0 wr w' : World} {N C m : Nat} {V : Nat → Value} {hv : Value} {G : Nat → List Value} (h : AS w0 N C m V hv G wr) (s : SPV w0 N C m V hv) (hb : Below wr.heap.size wr w') : AS w0 N C m V hv G w' :=
  ⟨by rw [hb.cell (p := ⟨N, 0, none⟩) (Nat.lt_of_lt_of_le s.nw h.bf.size)]; exact h.cF, h.hr.below hb (Nat.le_refl _), fun j hj => (h.rows j hj).below hb (Nat.le_refl _), h.bf.below hb⟩
/-- a row of the book written: the others stay. -/
theorem AS.put {w0 wr : World} {N C m i k g n cap : Nat} {V : Nat → Value} {hv : Value} {G G' : Nat → List Value} (h : AS w0 N C m V hv G wr) (s : SPV w0 N C m V hv) (hi : i < m) (hV : V i = .slice (some ⟨g, 0, none⟩) n cap) (hk : k < (G i).length) (x : Value) (hG : G' i = (G i).set k x) (hG2 : ∀ j, j < m → j ≠ i → G' j = G j) :
    AS w0 N C m V hv G' (wr.setCell ⟨g, k, none⟩ x) := by
  have o := h.rows i hi
  have hV2 : (V i).ownBlock = some g := by rw [hV]; rfl
  rw [hV] at o
  obtain ⟨_, _, e1, _⟩ := o.formO
  injection e1 with _ e2 _
  subst e2
  have t2 := World.ownsRow.stored o k x
  have gg : wr.grownBy (wr.setCell ⟨g, k, none⟩ x) (some g) := t2.2
  have gN : N ≠ g := by have := (s.vb i hi g hV2).1; have := s.nC; omega
  refine ⟨?_, World.ownsRow.kept h.hr gg (Or.inr (s.hd i hi g hV2)), fun j hj => ?_, h.bf.step gg (fun q e _ => ⟨i, hi, by rw [hV2]; exact e⟩)⟩
  · rw [World.cell?_of_block (w := wr) (a := ⟨N, 0, none⟩) (gg.block N (Nat.lt_of_lt_of_le s.nw h.bf.size) (fun e => gN (by injection e)))]
    exact h.cF
  · by_cases c : j = i
    · subst c
      rw [hG, hV]
      unfold OE
      rw [List.length_set]
      exact t2.1
    · rw [hG2 j hj c]
      exact World.ownsRow.kept (h.rows j hj) gg (Or.inr (fun e => s.dis i j hi hj (fun q => c q.symm) g hV2 e))
/-- while the rows are grown: those behind it are in A, told by av. -/
structure P2 (w0 : World) (N C m : Nat) (V : Nat → Value) (hv : Value) (Lf : Nat → List Value) (S0 i : Nat) (A : Nat → Value) (av : Value) (wr : World) : Prop where
  st : AS w0 N C m V hv (rep Lf) wr
  alls : ∀ j, j < i → OE wr C (A j) (rep2 Lf j 20)
  ab : ∀ j, j < i → ∀ k, (A j).ownBlock = some k → (V j).ownBlock = some k ∨ S0 ≤ k
  ar : HRw wr S0 av i A
  aA : ∀ j, j < i → ∀ k, (A j).ownBlock = some k → av.ownBlock ≠ some k
  s0 : S0 ≤ wr.heap.size
  w0 : w0.heap.size ≤ S0
theorem P2.below {w0 wr w' : World} {N C m S0 i : Nat} {V A : Nat → Value} {hv av : Value} {Lf : Nat → List Value} (h : P2 w0 N C m V hv Lf S0 i A av wr) (s : SPV w0 N C m V hv) (hb : Below wr.heap.size wr w') : P2 w0 N C m V hv Lf S0 i A av w' :=
  ⟨h.st.below s hb, fun j hj => (h.alls j hj).below hb (Nat.le_refl _), h.ab, h.ar.below hb (Nat.le_refl _), h.aA, Nat.le_trans h.s0 hb.size, h.w0⟩
/-- the one in hand. -/
structure PG (w0 : World) (N C m : Nat) (V : Nat → Value) (hv : Value) (Lf : Nat → List Value) (S0 i : Nat) (A : Nat → Value) (av : Value) (E k : Nat) (g : Value) (wr : World) : Prop where
  p : P2 w0 N C m V hv Lf S0 i A av wr
  go : OE wr C g (rep2 Lf i k)
  gb : ∀ q, g.ownBlock = some q → (V i).ownBlock = some q ∨ E ≤ q
  aE : ∀ j, j < i → ∀ q, (A j).ownBlock = some q → q < E
  vE : ∀ q, av.ownBlock = some q → S0 ≤ q ∧ q < E
  sE : S0 ≤ E
  Ew : E ≤ wr.heap.size
theorem PG.below {w0 wr w' : World} {N C m S0 i E k : Nat} {V A : Nat → Value} {hv av g : Value} {Lf : Nat → List Value} (h : PG w0 N C m V hv Lf S0 i A av E k g wr) (s : SPV w0 N C m V hv) (hb : Below wr.heap.size wr w') : PG w0 N C m V hv Lf S0 i A av E k g w' :=
  ⟨h.p.below s hb, h.go.below hb (Nat.le_refl _), h.gb, h.aE, h.vE, h.sE, Nat.le_trans h.Ew hb.size⟩
theorem PG.start {w0 wr : World} {N C m S0 i : Nat} {V A : Nat → Value} {hv av : Value} {Lf : Nat → List Value} (h : P2 w0 N C m V hv Lf S0 i A av wr) (hi : i < m) : PG w0 N C m V hv Lf S0 i A av wr.heap.size 0 (V i) wr :=
  ⟨h, by rw [rep2_zero]; exact h.st.rows i hi, fun q e => Or.inl e, fun j hj q e => ((h.alls j hj).bound e).2, fun q e => World.ownsRow.lt h.ar q e, h.s0, Nat.le_refl _⟩
theorem PG.grow {w0 wr : World} {N C m S0 i E k : Nat} {V A : Nat → Value} {hv av g : Value} {Lf : Nat → List Value} (h0 : PG w0 N C m V hv Lf S0 i A av E k g wr) (s : SPV w0 N C m V hv) (hi : i < m) (hn : (Lf i).length ≤ 268435456) (hk : k ≤ 20) :
    ∃ g' w', (Builtin.append_ #[60, 60] 60 #[g, .slice (some ⟨wr.heap.size, 0, none⟩) 1 1]).run Tryd.prog (wr.alloc (.cells #[xx i] 5)) = .ok g' w' ∧ PG w0 N C m V hv Lf S0 i A av E (k + 1) g' w' := by
  obtain ⟨W, hW⟩ : ∃ W, W = wr.alloc (.cells #[xx i] 5) := ⟨_, rfl⟩
  have bW : Below wr.heap.size wr W := by rw [hW]; exact (Below.refl _ wr).alloc (Nat.le_refl _) _
  have sW : W.heap.size = wr.heap.size + 1 := by rw [hW]; simp
  have hE : W.cell? ⟨wr.heap.size, 0, none⟩ = some (xx i) := by rw [hW]; simp [go_sem]
  rw [← hW]
  have h := h0.below s bW
  obtain ⟨inf, i1, i0⟩ := Option.map_eq_some_iff.1 el_info
  have i2 : inf.zero = some (.int .u8 0) := congrArg (·.1) i0
  have i3 : inf.bytes = 1 := congrArg (·.2.1) i0
  have i4 : inf.size = 1 := congrArg (·.2.2) i0
  have hml : maxLen = 9223372036854775807 := by decide
  have lg : (rep2 Lf i k).length = (Lf i).length + k := by simp [rep2]
  have own : W.ownsRow C 5 inf.size g (rep2 Lf i k).length (rep2 Lf i k) := by rw [i4]; exact h.go
  have cw := s.cw
  have w0S := h.p.w0
  have sz := h.p.st.bf.size
  obtain ⟨g', w', hr, ho, hg, hb, hk'⟩ := append_keeps (P := Tryd.prog) W C 60 60 5 inf (.int .u8 0) Tryd.underlying60 i1 i2 (by rw [i4]; rfl) (by omega) g _ _ own ⟨wr.heap.size, 0, none⟩ 1 1 [xx i] (by rw [i4]; rfl) (news1 hE) (fun u hu => by simp at hu; subst hu; rfl) (by omega) (by rw [lg]; omega) (by rw [lg, i3]; omega) (by omega)
  rw [i4] at ho hk'
  have gC : ∀ q, g.ownBlock = some q → C ≤ q := fun q e => (h.go.bound e).1
  have gN : ∀ q, g.ownBlock = some q → q ≠ N := fun q e => by have := gC q e; have := s.nC; omega
  have gV : ∀ j, j < m → j ≠ i → ∀ q, g.ownBlock = some q → (V j).ownBlock ≠ some q := fun j hj hne q e e2 => by
    rcases h.gb q e with c | c
    · exact s.dis i j hi hj (fun q => hne q.symm) q c e2
    · have := (s.vb j hj q e2).2; have := h.sE; omega
  have gH : ∀ q, g.ownBlock = some q → hv.ownBlock ≠ some q := fun q e e2 => by
    rcases h.gb q e with c | c
    · exact s.hd i hi q c e2
    · have := (s.hb q e2).2; have := h.sE; omega
  have gA : ∀ j, j < i → ∀ q, g.ownBlock = some q → (A j).ownBlock ≠ some q := fun j hj q e e2 => by
    have lt := h.aE j hj q e2
    rcases h.gb q e with c | c
    · rcases h.p.ab j hj q e2 with d | d
      · exact s.dis i j hi (by omega) (by omega) q c d
      · have := (s.vb i hi q c).2; omega
    · omega
  have gv : ∀ q, g.ownBlock = some q → av.ownBlock ≠ some q := fun q e e2 => by
    obtain ⟨q1, q2⟩ := h.vE q e2
    rcases h.gb q e with c | c
    · have := (s.vb i hi q c).2; omega
    · omega
  have oth : ∀ (v : Value), (∀ q, g.ownBlock = some q → v.ownBlock ≠ some q) → v.ownBlock = none ∨ v.ownBlock ≠ g.ownBlock := fun v hq => by
    cases hv0 : v.ownBlock with
    | none => exact Or.inl rfl
    | some k => exact Or.inr (fun e => hq k e.symm hv0)
  refine ⟨g', w', hr, ⟨⟨⟨?_, World.ownsRow.kept h.p.st.hr hg (oth hv gH), fun j hj => ?_, h.p.st.bf.step hg (fun q e hq => ?_)⟩, fun j hj => ?_, h.p.ab, World.ownsRow.kept h.p.ar hg (oth av gv), h.p.aA, Nat.le_trans h.p.s0 hg.size, h.p.w0⟩, ?_, fun q e => ?_, h.aE, h.vE, h.sE, Nat.le_trans h.Ew hg.size⟩⟩
  · rw [World.cell?_of_block (w := W) (a := ⟨N, 0, none⟩) (hg.block N (by have := s.nw; omega) (fun e => gN N e.symm rfl))]
    exact h.p.st.cF
  · refine hk' C (V j) _ _ (h.p.st.rows j hj) (fun e => ?_)
    by_cases c : j = i
    · subst c; rw [lg]; simp [rep]
    · cases hg0 : g.ownBlock with
      | some q => exact absurd (by rw [e, hg0]) (gV j hj c q hg0)
      | none =>
        have hz : (rep Lf j).length = 0 := by
          rcases (h.p.st.rows j hj).2 with ⟨_, z⟩ | ⟨_, _, _, z, _⟩
          · exact z
          · rw [z, hg0] at e; cases e
        omega
  · rcases h.gb q e with c | c
    · exact ⟨i, hi, c⟩
    · have := h.sE; omega
  · refine hk' C (A j) _ _ (h.p.alls j hj) (fun e => ?_)
    cases hg0 : g.ownBlock with
    | some q => exact absurd (by rw [e, hg0]) (gA j hj q hg0)
    | none =>
      have hz : (rep2 Lf j 20).length = 0 := by
        rcases (h.p.alls j hj).2 with ⟨_, z⟩ | ⟨_, _, _, z, _⟩
        · exact z
        · rw [z, hg0] at e; cases e
      omega
  · rw [rep2_succ]
    unfold OE
    rw [List.length_append]
    exact ho
  · rcases hb with c | c
    · exact h.gb q (by rw [← c]; exact e)
    · rw [c] at e; injection e with e; have := h.Ew; exact Or.inr (by omega)
/-- the grown one behind the others. -/
theorem PG.next {w0 wr : World} {N C m S0 i E : Nat} {V A : Nat → Value} {hv av g : Value} {Lf : Nat → List Value} (h0 : PG w0 N C m V hv Lf S0 i A av E 20 g wr) (s : SPV w0 N C m V hv) (hi : i < m) (hm : m ≤ 4194304) :
    ∃ av' w', (Builtin.append_ #[23, 23] 23 #[av, .slice (some ⟨wr.heap.size, 0, none⟩) 1 1]).run Tryd.prog (wr.alloc (.cells #[g] 60)) = .ok av' w' ∧ P2 w0 N C m V hv Lf S0 (i + 1) (fun j => if j = i then g else A j) av' w' := by
  obtain ⟨W, hW⟩ : ∃ W, W = wr.alloc (.cells #[g] 60) := ⟨_, rfl⟩
  have bW : Below wr.heap.size wr W := by rw [hW]; exact (Below.refl _ wr).alloc (Nat.le_refl _) _
  have sW : W.heap.size = wr.heap.size + 1 := by rw [hW]; simp
  have hc : W.cell? ⟨wr.heap.size, 0, none⟩ = some g := by rw [hW]; simp [go_sem]
  rw [← hW]
  have h := h0.below s bW
  obtain ⟨inf, i1, i0⟩ := Option.map_eq_some_iff.1 en_info2
  have i2 : inf.zero = some (.slice none 0 0) := congrArg (·.1) i0
  have i3 : inf.bytes = 24 := congrArg (·.2.1) i0
  have i4 : inf.size = 1 := congrArg (·.2.2) i0
  have hml : maxLen = 9223372036854775807 := by decide
  have own : W.ownsRow S0 60 inf.size av i (hdr A i) := by rw [i4]; exact h.p.ar
  have cw := s.cw
  have g1 : g.oneCell' = true := by
    obtain ⟨a, c, e, _⟩ := h.go.formO
    rw [e]; rfl
  obtain ⟨av', w', hr, ho, hg, hb, _⟩ := append_keeps (P := Tryd.prog) W S0 23 23 60 inf (.slice none 0 0) Tryd.underlying23 i1 i2 (by rw [i4]; rfl) (by omega) av _ _ own ⟨wr.heap.size, 0, none⟩ 1 1 [g] (by rw [i4]; rfl) (fun j u hj => by
    have : j = 0 := by have := (List.getElem?_eq_some_iff.1 hj).1; simp at this; omega
    subst this
    simp at hj
    subst hj
    exact hc) (fun u hu => by simp at hu; subst hu; exact g1) (by omega) (by omega) (by rw [i3]; omega) h.p.s0
  rw [i4] at ho
  have w0S := h.p.w0
  have sz := h.p.st.bf.size
  have vS : ∀ q, av.ownBlock = some q → S0 ≤ q ∧ q < E := h.vE
  have oth : ∀ (v : Value), (∀ q, v.ownBlock = some q → av.ownBlock ≠ some q) → v.ownBlock = none ∨ v.ownBlock ≠ av.ownBlock := fun v hq => by
    cases hv0 : v.ownBlock with
    | none => exact Or.inl rfl
    | some k => exact Or.inr (fun e => hq k hv0 e.symm)
  have low : ∀ q, q < w0.heap.size → av.ownBlock ≠ some q := fun q hq e => by have := (vS q e).1; omega
  have gav : ∀ q, g.ownBlock = some q → av.ownBlock ≠ some q := fun q e e2 => by
    obtain ⟨q1, q2⟩ := vS q e2
    rcases h.gb q e with c | c
    · have := (s.vb i hi q c).2; omega
    · omega
  have gS : ∀ q, g.ownBlock = some q → (V i).ownBlock = some q ∨ S0 ≤ q := fun q e => by
    rcases h.gb q e with c | c
    · exact Or.inl c
    · exact Or.inr (Nat.le_trans h.sE c)
  refine ⟨av', w', hr, ⟨⟨?_, World.ownsRow.kept h.p.st.hr hg (oth hv fun q e => low q (s.hb q e).2), fun j hj => World.ownsRow.kept (h.p.st.rows j hj) hg (oth (V j) fun q e => low q (s.vb j hj q e).2), h.p.st.bf.step hg (fun q e hq => absurd e (low q hq))⟩, fun j hj => ?_, fun j hj k e => ?_, ?_, fun j hj k e => ?_, Nat.le_trans h.p.s0 hg.size, h.p.w0⟩⟩
  · rw [World.cell?_of_block (w := W) (a := ⟨N, 0, none⟩) (hg.block N (by have := s.nw; omega) (fun e => low N s.nw e.symm))]
    exact h.p.st.cF
  · by_cases c : j = i
    · subst c
      simp only [if_true]
      exact World.ownsRow.kept h.go hg (oth g gav)
    · rw [if_neg c]
      exact World.ownsRow.kept (h.p.alls j (by omega)) hg (oth (A j) fun q e => h.p.aA j (by omega) q e)
  · by_cases c : j = i
    · subst c
      simp only [if_true] at e
      exact gS k e
    · rw [if_neg c] at e
      exact h.p.ab j (by omega) k e
  · show w'.ownsRow S0 60 1 av' (i + 1) (hdr (fun j => if j = i then g else A j) (i + 1))
    rw [hdr_snoc]
    exact ho
  · rcases hb with q | q
    · rw [q]
      by_cases c : j = i
      · subst c; simp only [if_true] at e; exact gav k e
      · rw [if_neg c] at e; exact h.p.aA j (by omega) k e
    · rw [q]
      intro e2
      injection e2 with e2
      by_cases c : j = i
      · subst c; simp only [if_true] at e; have := (h.go.bound e).2; omega
      · rw [if_neg c] at e; have := ((h.p.alls j (by omega)).bound e).2; omega
/-- a book in memory: what it has taken. -/
structure BK (O : Nat → Value) (N C m : Nat) (V : Nat → Value) (hv : Value) (G : Nat → List Value) (w : World) : Prop where
  sp : SPV w N C m V hv
  st : AS w N C m V hv G w
  nil : ∀ j, j < 28 → j ≠ 0 → w.cell? ⟨N, j, none⟩ = some (O j)
  fz : ∀ j, w.frozen? ⟨N, j, none⟩ = false
theorem BK.below {O : Nat → Value} {N C m : Nat} {V : Nat → Value} {hv : Value} {G : Nat → List Value} {w w' : World} (h : BK O N C m V hv G w) (hb : Below w.heap.size w w') : BK O N C m V hv G w' := by
  have s := h.st.below h.sp hb
  have sz := hb.size
  refine ⟨⟨h.sp.nC, by have := h.sp.nw; omega, by have := h.sp.cw; omega, fun i hi k e => by have := h.sp.vb i hi k e; omega, fun k e => by have := h.sp.hb k e; omega, h.sp.dis, h.sp.hd⟩, ⟨s.cF, s.hr, s.rows, BF.refl _ _ _⟩, fun j hj hne => ?_, fun j => ?_⟩
  · rw [hb.cell (p := ⟨N, j, none⟩) h.sp.nw]; exact h.nil j hj hne
  · rw [hb.frozen (p := ⟨N, j, none⟩) h.sp.nw]; exact h.fz j
theorem BK.start (w : World) : BK (fun _ => .slice none 0 0) w.heap.size (w.heap.size + 1) 0 (fun _ => undef) (.slice none 0 0) (fun _ => []) (w.alloc (.cells (Array.replicate 28 (.slice none 0 0)) 52)) := by
  have c : ∀ j, j < 28 → (w.alloc (.cells (Array.replicate 28 (.slice none 0 0)) 52)).cell? ⟨w.heap.size, j, none⟩ = some (.slice none 0 0) := fun j hj => by
    rw [World.cell?_alloc_at _ _ _ _ rfl, Array.getElem?_replicate, if_pos hj]
  refine ⟨⟨by omega, by simp, by simp, fun i hi => by omega, fun k e => (by cases e), fun i j hi => by omega, fun i hi => by omega⟩, ⟨c 0 (by omega), ⟨rfl, Or.inl ⟨rfl, rfl⟩⟩, fun j hj => by omega, BF.refl _ _ _⟩, fun j hj _ => c j hj, fun j => World.frozen?_alloc_at _ _ _ _ rfl⟩
/-- what a Take leaves. -/
def FRB (N : Nat) (w : World) (hv hv' : Value) (w' : World) : Prop := w.heap.size ≤ w'.heap.size ∧ (∀ k, k < w.heap.size → k ≠ N → hv.ownBlock ≠ some k → w'.heap[k]? = w.heap[k]?) ∧ ∀ k, hv'.ownBlock = some k → hv.ownBlock = some k ∨ w.heap.size ≤ k
/-- a list kept. -/
theorem BK.take {O : Nat → Value} {N C m : Nat} {V : Nat → Value} {hv : Value} {G : Nat → List Value} {w : World} {B : Nat} {v : Value} {l : List Value} (h0 : BK O N C m V hv G w) (o0 : OE w B v l) (hB : ∀ k, v.ownBlock = some k → C ≤ k ∧ hv.ownBlock ≠ some k ∧ ∀ j, j < m → (V j).ownBlock ≠ some k) (hm : m ≤ 4194304) :
    ∃ hv' w', (Builtin.append_ #[23, 23] 23 #[hv, .slice (some ⟨w.heap.size, 0, none⟩) 1 1]).run Tryd.prog (w.alloc (.cells #[v] 60)) = .ok hv' w' ∧ w'.cell? ⟨N, 0, none⟩ = some hv ∧ w'.frozen? ⟨N, 0, none⟩ = false ∧ BK O N C (m + 1) (fun j => if j = m then v else V j) hv' (fun j => if j = m then l else G j) (w'.setCell ⟨N, 0, none⟩ hv') ∧ Below N w (w'.setCell ⟨N, 0, none⟩ hv') ∧ FRB N w hv hv' (w'.setCell ⟨N, 0, none⟩ hv') := by
  obtain ⟨W, hW⟩ : ∃ W, W = w.alloc (.cells #[v] 60) := ⟨_, rfl⟩
  have bW : Below w.heap.size w W := by rw [hW]; exact (Below.refl _ w).alloc (Nat.le_refl _) _
  have sW : W.heap.size = w.heap.size + 1 := by rw [hW]; simp
  have hc : W.cell? ⟨w.heap.size, 0, none⟩ = some v := by rw [hW]; simp [go_sem]
  rw [← hW]
  have h := h0.below bW
  have o := o0.below bW (Nat.le_refl _)
  have vlt : ∀ k, v.ownBlock = some k → k < w.heap.size := fun k e => (o0.bound e).2
  have hlt0 : ∀ k, hv.ownBlock = some k → k < w.heap.size := fun k e => (h0.sp.hb k e).2
  have nw0 := h0.sp.nw
  obtain ⟨inf, i1, i0⟩ := Option.map_eq_some_iff.1 en_info2
  have i2 : inf.zero = some (.slice none 0 0) := congrArg (·.1) i0
  have i3 : inf.bytes = 24 := congrArg (·.2.1) i0
  have i4 : inf.size = 1 := congrArg (·.2.2) i0
  have hml : maxLen = 9223372036854775807 := by decide
  have own : W.ownsRow C 60 inf.size hv m (hdr V m) := by rw [i4]; exact h.st.hr
  have v1 : v.oneCell' = true := by
    obtain ⟨a, c, e, _⟩ := o.formO
    rw [e]; rfl
  obtain ⟨hv', w', hr, ho, hg, hb, _⟩ := append_keeps (P := Tryd.prog) W C 23 23 60 inf (.slice none 0 0) Tryd.underlying23 i1 i2 (by rw [i4]; rfl) (by omega) hv _ _ own ⟨w.heap.size, 0, none⟩ 1 1 [v] (by rw [i4]; rfl) (fun j u hj => by
    have : j = 0 := by have := (List.getElem?_eq_some_iff.1 hj).1; simp at this; omega
    subst this
    simp at hj
    subst hj
    exact hc) (fun u hu => by simp at hu; subst hu; exact v1) (by omega) (by omega) (by rw [i3]; omega) h.sp.cw
  rw [i4, ← hdr_snoc] at ho
  have hN : hv.ownBlock ≠ some N := fun e => by have := (h.sp.hb N e).1; have := h.sp.nC; omega
  have kN : w'.heap[N]? = W.heap[N]? := hg.block N h.sp.nw (fun e => hN e.symm)
  have cN : ∀ j, w'.cell? ⟨N, j, none⟩ = W.cell? ⟨N, j, none⟩ := fun j => World.cell?_of_block (w := W) (a := ⟨N, j, none⟩) kN
  have zN : ∀ j, w'.frozen? ⟨N, j, none⟩ = W.frozen? ⟨N, j, none⟩ := fun j => World.frozen?_of_block (w := W) (a := ⟨N, j, none⟩) kN
  have cF : w'.cell? ⟨N, 0, none⟩ = some hv := by rw [cN]; exact h.st.cF
  obtain ⟨W3, hW3⟩ : ∃ W3, W3 = w'.setCell ⟨N, 0, none⟩ hv' := ⟨_, rfl⟩
  have g3 : w'.grownBy W3 (some N) := by rw [hW3]; exact ⟨rfl, rfl, rfl, by simp, fun k hk q => Below.heap_setCell _ _ _ _ (fun e => q (by rw [e]))⟩
  have s3 : W3.heap.size = w'.heap.size := by rw [hW3]; simp
  have hvb : ∀ k, hv'.ownBlock = some k → C ≤ k ∧ k < W3.heap.size := fun k e => by rw [s3]; exact World.ownsRow.lt ho k e
  have hvn : ∀ k, hv'.ownBlock = some k → hv.ownBlock = some k ∨ k = W.heap.size := fun k e => by
    rcases hb with q | q
    · exact Or.inl (by rw [← q]; exact e)
    · rw [q] at e; injection e with e; exact Or.inr e.symm
  have cw := h.sp.cw
  have nC := h.sp.nC
  have sz := hg.size
  have oth : ∀ (u : Value), (∀ q, u.ownBlock = some q → hv.ownBlock ≠ some q) → u.ownBlock = none ∨ u.ownBlock ≠ hv.ownBlock := fun u hq => by
    cases hv0 : u.ownBlock with
    | none => exact Or.inl rfl
    | some k => exact Or.inr (fun e => hq k hv0 e.symm)
  have rowK : ∀ (u : Value) (B' : Nat) (l' : List Value), OE W B' u l' → (∀ q, u.ownBlock = some q → C ≤ q ∧ hv.ownBlock ≠ some q) → OE W3 B' u l' := fun u B' l' hu hq => World.ownsRow.kept (World.ownsRow.kept hu hg (oth u fun q e => (hq q e).2)) g3 (by
    cases hv0 : u.ownBlock with
    | none => exact Or.inl rfl
    | some k => exact Or.inr (fun e => by injection e with e; have := (hq k hv0).1; omega))
  have up : ∀ (u : Value) (B' : Nat) (l' : List Value), OE W3 B' u l' → (∀ q, u.ownBlock = some q → C ≤ q) → OE W3 C u l' := fun u B' l' hu hq => by
    refine ⟨hu.1, ?_⟩
    rcases hu.2 with h2 | ⟨g, cap, cur, e1, e2, e3⟩
    · exact Or.inl h2
    · exact Or.inr ⟨g, cap, cur, e1, hq g (by rw [e1]; rfl), e3⟩
  refine ⟨hv', w', hr, cF, by rw [zN]; exact h.fz 0, ?_⟩
  rw [← hW3]
  refine ⟨⟨⟨nC, by have := h.sp.nw; omega, by omega, fun i hi k e => ?_, hvb, fun i j hi hj hne k e e2 => ?_, fun i hi k e e2 => ?_⟩, ⟨?_, World.ownsRow.kept ho g3 (by
    cases hv0 : hv'.ownBlock with
    | none => exact Or.inl rfl
    | some k => exact Or.inr (fun e => by injection e with e; have := (hvb k hv0).1; omega)), fun j hj => ?_, BF.refl _ _ _⟩, fun j hj hne => ?_, fun j => ?_⟩, ?_, ?_⟩
  · by_cases c : i = m
    · simp only [if_pos c] at e; have := vlt k e; exact ⟨(hB k e).1, by omega⟩
    · simp only [if_neg c] at e; have := h0.sp.vb i (by omega) k e; omega
  · by_cases c : i = m
    · simp only [if_pos c] at e
      simp only [if_neg (show ¬ j = m by omega)] at e2
      exact (hB k e).2.2 j (by omega) e2
    · simp only [if_neg c] at e
      by_cases c2 : j = m
      · simp only [if_pos c2] at e2; exact (hB k e2).2.2 i (by omega) e
      · simp only [if_neg c2] at e2; exact h.sp.dis i j (by omega) (by omega) hne k e e2
  · by_cases c : i = m
    · simp only [if_pos c] at e
      rcases hvn k e2 with q | q
      · exact (hB k e).2.1 q
      · have := vlt k e; omega
    · simp only [if_neg c] at e
      rcases hvn k e2 with q | q
      · exact h.sp.hd i (by omega) k e q
      · have := (h0.sp.vb i (by omega) k e).2; omega
  · rw [hW3]; exact World.cell?_setCell_same _ _ _ cF
  · by_cases c : j = m
    · simp only [if_pos c]
      exact up v B l (rowK v B l o (fun q e => ⟨(hB q e).1, (hB q e).2.1⟩)) (fun q e => (hB q e).1)
    · simp only [if_neg c]
      exact rowK (V j) C _ (h.st.rows j (by omega)) (fun q e => ⟨(h.sp.vb j (by omega) q e).1, h.sp.hd j (by omega) q e⟩)
  · rw [hW3, World.cell?_setCell_other _ _ _ _ (by intro e; injection e; omega), cN]; exact h.nil j hj hne
  · rw [hW3, World.frozen?_setCell, zN]; exact h.fz j
  · have b1 : Below N w W := below_less bW (by omega)
    have b2 : Below N W w' := (Below.refl N W).grown hg (by omega) (fun k e => by have := (h.sp.hb k e).1; omega)
    have b3 : Below N w' W3 := (Below.refl N w').grown g3 (by omega) (fun k e => by injection e with e; omega)
    exact below_trans (below_trans b1 b2) b3
  · refine ⟨by omega, fun k hk hne hh => ?_, fun k e => ?_⟩
    · rw [g3.block k (by omega) (fun e => hne (by injection e)), hg.block k (by omega) (fun e => hh e.symm)]
      exact bW.block k hk
    · rcases hvn k e with q | q
      · exact Or.inl q
      · exact Or.inr (by omega)
end Go.Proofs.YtfijagdbdbbbpaaDoor.Bk0


namespace Go.Proofs.YtfijagdbdbbbpaaDoor.Bk0
open Go.RowKit
set_option linter.unusedVariables false
set_option linter.unusedSimpArgs false
set_option maxRecDepth 100000
theorem wpList_append_runB {P : Program} {ops : Array Oper} {rest : List Oper} {o : Oper} {a : Act} {Q : Exit → Act → World → Prop} {w : World} (hgd : o.guard = none) (s x : Operand) (t : TypeId)
    (ho : o.op = .call { callee := .builtin .append, args := #[s, x], argTypes := #[t, t] }) (v y v' : Value) (w' : World) (hs : a.eval s = v) (hx : a.eval x = y) (hr : (Builtin.append_ #[t, t] o.type #[v, y]).run P w = .ok v' w')
    (h : wpList P ops Q rest (a.put o.dst v') w') : wpList P ops Q (o :: rest) a w := by
  refine wpList_plain hgd fun K hK => ?_
  unfold Oper.wp execOp
  simp only [ho, resolve, invoke, builtin, Sem.run_bind, Sem.run_pure, Result.andThen_ok, List.map_toArray, List.map_cons, List.map_nil, hs, hx, hr]
  exact hK _ _ h
theorem nums_t (i n : Nat) (h : i < n) (hn : n ≤ 4398046511104) : (0 : Int) ≤ (i : Int) ∧ (i : Int) < (n : Int) ∧ IntKind.i64.wrap ((i : Int) + 1) = ((i + 1 : Nat) : Int) := ⟨by omega, by omega, IntWalk.i64_in _ (by omega)⟩
/-- a mark's number, as it is reckoned. -/
theorem nums_m (i : Nat) : ∃ t : Nat, xx i = .int .u8 (48 + (t : Int)) ∧ t < 200 ∧ (i : Int).tmod 200 = (t : Int) ∧ IntKind.i64.wrap (t : Int) = (t : Int) ∧ wrap64 (t : Int) = (t : Int) ∧ IntKind.i64.wrap (48 + (t : Int)) = 48 + (t : Int) ∧ IntKind.u8.wrap (48 + (t : Int)) = 48 + (t : Int) := by
  have h : i % 200 < 200 := Nat.mod_lt _ (by omega)
  refine ⟨i % 200, rfl, h, ?_, IntWalk.i64_in _ (by omega), IntWalk.wrap64_in _ (by omega), IntWalk.i64_in _ (by omega), ?_⟩
  · rw [Int.tmod_eq_emod_of_nonneg (by omega)]; rfl
  · rw [IntKind.wrap_u8]; omega
set_option maxHeartbeats 32000000 in
theorem aloneBytes_any {w : World} {N C m : Nat} {V : Nat → Value} {hv : Value} {Lf : Nat → List Value} (sp : SPV w N C m V hv) (st : AS w N C m V hv Lf w) (hm : m ≤ 4194304) (hn : ∀ j, j < m → (Lf j).length ≤ 268435456) :
    Calls Tryd.prog 38 #[.pointer (some ⟨N, 0, none⟩)] w fun e w' => e = .returned (.bool true) ∧ BF V m w w' := by
  obtain ⟨ah, ch, rfl, hgh⟩ := st.hr.form
  have spH : Hid _ := sp
  have ghH : Hid (0 < m → ∃ hb, ah = some ⟨hb, 0, none⟩) := fun q => by
    obtain ⟨g, e, _⟩ := hgh q
    exact ⟨g, e⟩
  have hnH : Hid _ := hn
  have HC : Hid (∀ G W, AS w N C m V (.slice ah m ch) G W → ∀ hb, ah = some ⟨hb, 0, none⟩ → ∀ i, i < m → W.cell? ⟨hb, i, none⟩ = some (V i)) := fun G W s hb e i hi => by
    obtain ⟨a, c, e1, h2⟩ := s.hr.form
    obtain ⟨g, e3, _, h4⟩ := h2 (by omega)
    injection e1 with q1 _ _
    rw [← q1, e] at e3
    injection e3 with e3
    injection e3 with e3
    subst e3
    exact h4 i hi
  have st0 : Hid (AS w N C m V (.slice ah m ch) (L1 Lf 0 0) w) := ⟨st.cF, st.hr, fun j hj => by rw [L1_start]; exact st.rows j hj, st.bf⟩
  clear sp st hgh hn
  go_enter Tryd.func38, Tryd.ntmps38
  go_wp2_with fail
  go_loopw [3] (fun v3 wr => ∃ (i : Nat), v3 = .int .i64 (i : Int) ∧ i ≤ m ∧ Hid (AS w N C m V (.slice ah m ch) (L1 Lf i 0) wr)) (fun v3 _ => m - (intOf v3).toNat)
  case atStart => exact ⟨0, rfl, Nat.zero_le _, st0⟩
  case round =>
    clear st0
    obtain ⟨i, rfl, hil, hS⟩ := hrel
    have cF := hS.out.cF
    by_cases hi : i < m
    · obtain ⟨i0, iI, iw⟩ := nums_t i m hi (by omega)
      have nn := hnH.out i hi
      obtain ⟨n, hnE⟩ : ∃ n, n = (Lf i).length := ⟨_, rfl⟩
      rw [← hnE] at nn
      have o := hS.out.rows i hi
      obtain ⟨ai, ci, hVi, _, hgi⟩ := o.formO
      rw [L1_len Lf (Nat.zero_le _), ← hnE] at hVi hgi
      have VH : Hid (V i = .slice ai n ci) := hVi
      have LH : Hid (n = (Lf i).length) := hnE
      have giH : Hid (0 < n → ∃ g, ai = some ⟨g, 0, none⟩) := hgi
      obtain ⟨hb, rfl⟩ := ghH.out (by omega)
      clear o hVi hgi hnE
      go_wp2_with fail
      clear cF
      go_loopw [4] (fun v4 wx => ∃ (k : Nat), v4 = .int .i64 (k : Int) ∧ k ≤ n ∧ Hid (AS w N C m V (.slice (some ⟨hb, 0, none⟩) m ch) (L1 Lf i k) wx)) (fun v4 _ => n - (intOf v4).toNat)
      case atStart => exact ⟨0, rfl, Nat.zero_le _, hS⟩
      case round =>
        clear hS
        obtain ⟨k, rfl, hkl, hS⟩ := hrel
        have cF := hS.out.cF
        have hci := HC.out _ _ hS.out hb rfl i hi
        rw [VH.out] at hci
        by_cases hk : k < n
        · obtain ⟨k0, kI, kw⟩ := nums_t k n hk (by omega)
          obtain ⟨g, rfl⟩ := giH.out (by omega)
          obtain ⟨t, ex, t2, m1, m2, m3, m4, m5⟩ := nums_m i
          obtain ⟨⟨y, d0⟩, z0, NX⟩ : (∃ y : Value, wr.cell? ⟨g, k, none⟩ = some y) ∧ wr.frozen? ⟨g, k, none⟩ = false ∧ Hid (AS w N C m V (.slice (some ⟨hb, 0, none⟩) m ch) (L1 Lf i (k + 1)) (wr.setCell ⟨g, k, none⟩ (.int .u8 (48 + (t : Int))))) := by
            have s2 := hS.out
            have ll := L1_len Lf (i := i) (k := k) (by rw [← LH.out]; omega) i
            have o := s2.rows i hi
            rw [VH.out] at o
            have hcs := World.ownsRow.cells o (g := g) rfl
            have hk2 : k < (L1 Lf i k i).length := by rw [ll, ← LH.out]; exact hk
            have k1 := hcs k _ (List.getElem?_eq_getElem hk2)
            rw [add_lt0, Nat.zero_add] at k1
            have fz : ∀ q, wr.frozen? ⟨g, q, none⟩ = false := fun q => by
              obtain ⟨_, _, e3, _⟩ := o.formO
              injection e3 with _ e4 _
              rw [e4] at o
              exact World.ownsRow.frozenAt o q
            refine ⟨⟨_, k1⟩, fz _, ?_⟩
            have s3 := s2.put spH.out hi VH.out hk2 (xx i) (L1_set Lf (by rw [← LH.out]; exact hk)).symm (fun j hj q => L1_other Lf q)
            rw [ex] at s3
            exact s3
          clear hS ex
          go_wp2_with fail
          exact ⟨⟨k + 1, by first | rfl | go_num, hk, NX⟩, by first | (simp [intOf]; done) | (simp [intOf]; omega)⟩
        · have hlt : ¬ (k : Int) < (n : Int) := by omega
          have hS2 : Hid (AS w N C m V (.slice (some ⟨hb, 0, none⟩) m ch) (L1 Lf (i + 1) 0) wr) := by
            have s := hS.out
            have e : k = (Lf i).length := by have := LH.out; omega
            exact ⟨s.cF, s.hr, fun j hj => by have := s.rows j hj; rw [e, L1_next] at this; exact this, s.bf⟩
          clear hS
          go_wp2_with fail
          exact ⟨⟨i + 1, by first | rfl | go_num, hi, hS2⟩, by first | (simp [intOf]; done) | (simp [intOf]; omega)⟩
    · have hlt : ¬ (i : Int) < (m : Int) := by omega
      obtain ⟨S0, hS0⟩ : ∃ S0, S0 = wr.heap.size := ⟨_, rfl⟩
      have P0 : Hid (P2 w N C m V (.slice ah m ch) Lf S0 0 V (.slice none 0 0) wr) := by
        have s := hS.out
        have e : i = m := by omega
        refine ⟨⟨s.cF, s.hr, fun j hj => by have := s.rows j hj; rw [e, L1_end Lf hj] at this; exact this, s.bf⟩, fun j hj => by omega, fun j hj => by omega, ⟨rfl, Or.inl ⟨rfl, rfl⟩⟩, fun j hj => by omega, by omega, by rw [hS0]; exact s.bf.size⟩
      have lenV : Hid (∀ (W : World) (G : Nat → List Value), AS w N C m V (.slice ah m ch) G W → ∀ j, j < m → ∃ a c, V j = .slice a (G j).length c ∧ (0 < (G j).length → ∃ g, a = some ⟨g, 0, none⟩)) := fun W G s j hj => by
        obtain ⟨a, c, e, _, h⟩ := (s.rows j hj).formO
        exact ⟨a, c, e, h⟩
      clear hS hS0 hil hi
      go_wp2_with fail
      clear cF
      go_loopw [5, 6] (fun v5 v6 wx => ∃ (i : Nat) (A : Nat → Value), v6 = .int .i64 (i : Int) ∧ i ≤ m ∧ Hid (P2 w N C m V (.slice ah m ch) Lf S0 i A v5 wx)) (fun _ v6 _ => m - (intOf v6).toNat)
      case atStart => exact ⟨0, V, rfl, Nat.zero_le _, P0⟩
      case round =>
        clear P0
        obtain ⟨i, A, rfl, hil, hP⟩ := hrel
        obtain ⟨aa, ca, rfl, hga⟩ := hP.out.ar.form
        have cF := hP.out.st.cF
        by_cases hi : i < m
        · obtain ⟨i0, iI, iw⟩ := nums_t i m hi (by omega)
          have nn := hnH.out i hi
          obtain ⟨hb, rfl⟩ := ghH.out (by omega)
          have hci := HC.out _ _ hP.out.st hb rfl i hi
          obtain ⟨av, cv, hVi, _⟩ := lenV.out _ _ hP.out.st i hi
          have PG0 : Hid (PG w N C m V (.slice (some ⟨hb, 0, none⟩) m ch) Lf S0 i A (.slice aa i ca) wr.heap.size 0 (V i) wr) := PG.start hP.out hi
          rw [hVi] at hci PG0
          clear hP hVi hga
          generalize wr.heap.size = E at PG0
          go_wp2_with fail
          clear cF hci
          go_loopw [7, 8] (fun v7 v8 wx => ∃ (k : Nat), v8 = .int .i64 (k : Int) ∧ k ≤ 20 ∧ Hid (PG w N C m V (.slice (some ⟨hb, 0, none⟩) m ch) Lf S0 i A (.slice aa i ca) E k v7 wx)) (fun _ v8 _ => 20 - (intOf v8).toNat)
          case atStart => exact ⟨0, rfl, by omega, PG0⟩
          case round =>
            clear PG0
            obtain ⟨k, rfl, hkl, hG⟩ := hrel
            obtain ⟨ag, cg, rfl, _, _⟩ := hG.out.go.formO
            by_cases hk : k < 20
            · obtain ⟨k0, kI, kw⟩ := nums_t k 20 hk (by omega)
              have kI2 : (k : Int) < 20 := by omega
              obtain ⟨t, ex, t2, m1, m2, m3, m4, m5⟩ := nums_m i
              obtain ⟨g', w4, hr, pg⟩ := hG.out.grow spH.out hi nn (by omega)
              rw [ex] at hr
              have hrH : Hid (∀ W, W = wr.alloc (.cells #[.int .u8 (48 + (t : Int))] 5) → (Builtin.append_ #[60, 60] 60 #[.slice ag (rep2 Lf i k).length cg, .slice (some ⟨wr.heap.size, 0, none⟩) 1 1]).run Tryd.prog W = .ok g' w4) := fun W e => by subst e; exact hr
              have pgH : Hid _ := pg
              clear hG hr pg ex
              generalize (rep2 Lf i k).length = ng at *
              go_wp2_with (at_builtin; refine wpList_append_runB (by rfl) _ _ _ (by rfl) _ _ _ _ (by rfl) (by rfl) (hrH.out _ rfl) ?_)
              exact ⟨⟨k + 1, by first | rfl | go_num, by omega, pgH⟩, by first | (simp [intOf]; done) | (simp [intOf]; omega)⟩
            · have hke : k = 20 := by omega
              have hlt2 : ¬ (k : Int) < 20 := by omega
              have PN : Hid (∃ av' w', (Builtin.append_ #[23, 23] 23 #[.slice aa i ca, .slice (some ⟨wr.heap.size, 0, none⟩) 1 1]).run Tryd.prog (wr.alloc (.cells #[.slice ag (rep2 Lf i k).length cg] 60)) = .ok av' w' ∧ P2 w N C m V (.slice (some ⟨hb, 0, none⟩) m ch) Lf S0 (i + 1) (fun j => if j = i then .slice ag (rep2 Lf i k).length cg else A j) av' w') := by
                have := hG.out
                rw [hke] at this ⊢
                exact this.next spH.out hi hm
              obtain ⟨av', w5, hr, p2⟩ := PN.out
              have hrH : Hid (∀ W, W = wr.alloc (.cells #[.slice ag (rep2 Lf i k).length cg] 60) → (Builtin.append_ #[23, 23] 23 #[.slice aa i ca, .slice (some ⟨wr.heap.size, 0, none⟩) 1 1]).run Tryd.prog W = .ok av' w5) := fun W e => by subst e; exact hr
              have p2H : Hid (∃ A', P2 w N C m V (.slice (some ⟨hb, 0, none⟩) m ch) Lf S0 (i + 1) A' av' w5) := ⟨_, p2⟩
              clear PN hr p2 hG hke
              generalize (rep2 Lf i k).length = ng at *
              go_wp2_with (at_builtin; refine wpList_append_runB (by rfl) _ _ _ (by rfl) _ _ _ _ (by rfl) (by rfl) (hrH.out _ rfl) ?_)
              obtain ⟨A', p3⟩ := p2H.out
              exact ⟨⟨i + 1, A', by first | rfl | go_num, hi, p3⟩, by first | (simp [intOf]; done) | (simp [intOf]; omega)⟩
        · have hlt2 : ¬ (i : Int) < (m : Int) := by omega
          obtain rfl : m = i := by omega
          have hcA : Hid (∀ W, P2 w N C m V (.slice ah m ch) Lf S0 m A (.slice aa m ca) W → ∀ j, j < m → ∃ ga aj cj, aa = some ⟨ga, 0, none⟩ ∧ W.cell? ⟨ga, j, none⟩ = some (.slice aj ((Lf j).length + 20) cj) ∧ ∃ g, aj = some ⟨g, 0, none⟩ ∧ ∀ k, k < (Lf j).length + 20 → W.cell? ⟨g, k, none⟩ = some (xx j)) := fun W p j hj => by
            obtain ⟨a, c, e1, h2⟩ := p.ar.form
            obtain ⟨ga, e3, _, h4⟩ := h2 (by omega)
            injection e1 with q1 _ _
            have o := p.alls j hj
            have ll : (rep2 Lf j 20).length = (Lf j).length + 20 := by simp [rep2]
            obtain ⟨aj, cj, e5, _, h6⟩ := o.formO
            obtain ⟨g, rfl⟩ := h6 (by omega)
            refine ⟨ga, _, cj, by rw [q1, e3], by rw [h4 j hj, e5, ll], g, rfl, fun k hk => ?_⟩
            rw [e5] at o
            have hcs := World.ownsRow.cells o (g := g) rfl
            have k1 := hcs k (xx j) (get_rep _ _ hk)
            rw [add_lt0, Nat.zero_add] at k1
            exact k1
          have hcB : Hid (∀ W, P2 w N C m V (.slice ah m ch) Lf S0 m A (.slice aa m ca) W → ∀ j, j < m → ∃ hb aj cj, ah = some ⟨hb, 0, none⟩ ∧ W.cell? ⟨N, 0, none⟩ = some (.slice ah m ch) ∧ W.cell? ⟨hb, j, none⟩ = some (.slice aj (Lf j).length cj) ∧ (0 < (Lf j).length → ∃ g, aj = some ⟨g, 0, none⟩ ∧ ∀ k, k < (Lf j).length → W.cell? ⟨g, k, none⟩ = some (xx j))) := fun W p j hj => by
            obtain ⟨hb, eh⟩ := ghH.out (by omega)
            have hc := HC.out _ _ p.st hb eh j hj
            have o := p.st.rows j hj
            have ll : (rep Lf j).length = (Lf j).length := by simp [rep]
            obtain ⟨aj, cj, e5, _, h6⟩ := o.formO
            rw [e5, ll] at hc
            refine ⟨hb, aj, cj, eh, p.st.cF, hc, fun q => ?_⟩
            obtain ⟨g, rfl⟩ := h6 (by omega)
            refine ⟨g, rfl, fun k hk => ?_⟩
            rw [e5] at o
            have hcs := World.ownsRow.cells o (g := g) rfl
            have k1 := hcs k (xx j) (get_rep _ _ hk)
            rw [add_lt0, Nat.zero_add] at k1
            exact k1
          have hP3 : Hid _ := hP
          clear hP hga HC lenV hil hi ghH
          go_wp2_with fail
          clear cF
          go_loopw [9] (fun v9 wx => ∃ (i : Nat), v9 = .int .i64 (i : Int) ∧ i ≤ m ∧ Hid (P2 w N C m V (.slice ah m ch) Lf S0 m A (.slice aa m ca) wx)) (fun v9 _ => m - (intOf v9).toNat)
          case atStart => exact ⟨0, rfl, Nat.zero_le _, hP3⟩
          case round =>
            clear hP3
            obtain ⟨i, rfl, hil, hP⟩ := hrel
            by_cases hi : i < m
            · obtain ⟨i0, iI, iw⟩ := nums_t i m hi (by omega)
              have nn := hnH.out i hi
              obtain ⟨n, hnE⟩ : ∃ n, n = (Lf i).length := ⟨_, rfl⟩
              have FA : Hid (∀ W, P2 w N C m V (.slice ah m ch) Lf S0 m A (.slice aa m ca) W → ∃ ga aj cj, aa = some ⟨ga, 0, none⟩ ∧ W.cell? ⟨ga, i, none⟩ = some (.slice aj (n + 20) cj) ∧ ∃ g, aj = some ⟨g, 0, none⟩ ∧ ∀ k, k < n + 20 → W.cell? ⟨g, k, none⟩ = some (xx i)) := fun W p => by rw [hnE]; exact hcA.out W p i hi
              have FB : Hid (∀ W, P2 w N C m V (.slice ah m ch) Lf S0 m A (.slice aa m ca) W → ∃ hb aj cj, ah = some ⟨hb, 0, none⟩ ∧ W.cell? ⟨N, 0, none⟩ = some (.slice ah m ch) ∧ W.cell? ⟨hb, i, none⟩ = some (.slice aj n cj) ∧ (0 < n → ∃ g, aj = some ⟨g, 0, none⟩ ∧ ∀ k, k < n → W.cell? ⟨g, k, none⟩ = some (xx i))) := fun W p => by rw [hnE]; exact hcB.out W p i hi
              rw [← hnE] at nn
              clear hnE
              obtain ⟨t, ex, t2, m1, m2, m3, m4, m5⟩ := nums_m i
              rw [ex] at FA FB
              clear ex
              go_wp2_with fail
              go_loopw [10] (fun v10 wx => ∃ (k : Nat), v10 = .int .i64 (k : Int) ∧ k ≤ n + 20 ∧ Hid (P2 w N C m V (.slice ah m ch) Lf S0 m A (.slice aa m ca) wx)) (fun v10 _ => n + 20 - (intOf v10).toNat)
              case atStart => exact ⟨0, rfl, Nat.zero_le _, hP⟩
              case round =>
                clear hP
                obtain ⟨k, rfl, hkl, hP⟩ := hrel
                obtain ⟨ga, aj, cj, rfl, e1, g, rfl, e2⟩ := FA.out wr hP.out
                by_cases hk : k < n + 20
                · obtain ⟨k0, kI, kw⟩ := nums_t k (n + 20) hk (by omega)
                  have e3 := e2 k hk
                  clear e2
                  go_wp2_with fail
                  exact ⟨⟨k + 1, by first | rfl | go_num, by omega, hP⟩, by first | (simp [intOf]; done) | (simp [intOf]; omega)⟩
                · have hlt3 : ¬ (k : Int) < ((n + 20 : Nat) : Int) := by omega
                  clear e2
                  go_wp2_with fail
                  clear e1
                  go_loopw [12] (fun v12 wx => ∃ (q : Nat), v12 = .int .i64 (q : Int) ∧ q ≤ n ∧ Hid (P2 w N C m V (.slice ah m ch) Lf S0 m A (.slice (some ⟨ga, 0, none⟩) m ca) wx)) (fun v12 _ => n - (intOf v12).toNat)
                  case atStart => exact ⟨0, rfl, Nat.zero_le _, hP⟩
                  case round =>
                    clear hP
                    obtain ⟨q, rfl, hql, hP⟩ := hrel
                    obtain ⟨hb, aj2, cj2, rfl, e0, e1, e2⟩ := FB.out wr hP.out
                    by_cases hq : q < n
                    · obtain ⟨q0, qI, qw⟩ := nums_t q n hq (by omega)
                      obtain ⟨g2, rfl, e5⟩ := e2 (by omega)
                      have e3 := e5 q hq
                      clear e2 e5
                      go_wp2_with fail
                      exact ⟨⟨q + 1, by first | rfl | go_num, hq, hP⟩, by first | (simp [intOf]; done) | (simp [intOf]; omega)⟩
                    · have hlt4 : ¬ (q : Int) < (n : Int) := by omega
                      clear e2
                      go_wp2_with fail
                      exact ⟨⟨i + 1, by first | rfl | go_num, hi, hP⟩, by first | (simp [intOf]; done) | (simp [intOf]; omega)⟩
            · have hlt5 : ¬ (i : Int) < (m : Int) := by omega
              have fin : Hid (BF V m w wr) := hP.out.st.bf
              clear hP
              go_wp2_with fail
              go_ret
              exact ⟨rfl, fin.out⟩
end Go.Proofs.YtfijagdbdbbbpaaDoor.Bk0


namespace Go.Proofs.YtfijagdbdbbbpaaDoor.Bk3
open Go.RowKit
set_option linter.unusedVariables false
set_option linter.unusedSimpArgs false
set_option maxRecDepth 100000
theorem below_trans {w w1 w2 : World} {n : Nat} (h : Below n w w1) (k : Below n w1 w2) : Below n w w2 := ⟨k.os.trans h.os, k.tape.trans h.tape, k.output.trans h.output, Nat.le_trans h.size k.size, fun j hj => (k.block j hj).trans (h.block j hj)⟩
theorem below_less {w w1 : World} {n m : Nat} (h : Below n w w1) (hm : m ≤ n) : Below m w w1 := ⟨h.os, h.tape, h.output, h.size, fun j hj => h.block j (by omega)⟩
theorem add_lt0 (b o j : Nat) : (⟨b, o, none⟩ : Addr).add j = ⟨b, o + j, none⟩ := by
  simp [Addr.add]
/-- the mark of a number. -/
def xx (i : Nat) : Value := .int .i64 (-7 - (i : Int))
theorem el_info : (Tryd.prog.info? 2).map (fun i => (i.zero, i.bytes, i.size)) = some (some (.int .i64 0), 8, 1) := by kernel_rfl
theorem news1 {W : World} {K : Nat} {x : Value} (hx : W.cell? ⟨K, 0, none⟩ = some x) : ∀ j u, [x][j]? = some u → W.cell? ((⟨K, 0, none⟩ : Addr).add j) = some u := fun j u hj => by
  rcases j with _ | j
  · simp at hj; subst hj; rw [add_lt0]; exact hx
  · simp at hj
/-- a row of one's own. -/
def OE (w : World) (B : Nat) (v : Value) (l : List Value) : Prop := w.ownsRow B 2 1 v l.length l
theorem OE.below {w w' : World} {B C : Nat} {v : Value} {l : List Value} (h : OE w B v l) (hb : Below C w w') (hC : w.heap.size ≤ C) : OE w' B v l := by
  refine ⟨h.1, ?_⟩
  rcases h.2 with h2 | ⟨g, cap, cur, e1, e2, e3, e4⟩
  · exact Or.inl h2
  · exact Or.inr ⟨g, cap, cur, e1, e2, by rw [hb.block g (Nat.lt_of_lt_of_le (Array.getElem?_eq_some_iff.1 e3).1 hC)]; exact e3, e4⟩
theorem OE.bound {w : World} {B : Nat} {v : Value} {l : List Value} (h : OE w B v l) {k : Nat} (e : v.ownBlock = some k) : B ≤ k ∧ k < w.heap.size := World.ownsRow.lt h k e
def rep (Lf : Nat → List Value) (j : Nat) : List Value := List.replicate (Lf j).length (xx j)
def rep2 (Lf : Nat → List Value) (j k : Nat) : List Value := List.replicate ((Lf j).length + k) (xx j)
theorem rep2_succ (Lf : Nat → List Value) (j k : Nat) : rep2 Lf j (k + 1) = rep2 Lf j k ++ [xx j] := by unfold rep2; rw [← Nat.add_assoc, List.replicate_succ']
theorem rep2_zero (Lf : Nat → List Value) (j : Nat) : rep2 Lf j 0 = rep Lf j := rfl
theorem get_rep (n : Nat) (x : Value) {i : Nat} (h : i < n) : (List.replicate n x)[i]? = some x := by simp [List.getElem?_replicate, h]
/-- while the rows are written over. -/
def L1 (Lf : Nat → List Value) (i k j : Nat) : List Value := if j < i then rep Lf j else if j = i then List.replicate k (xx j) ++ (Lf j).drop k else Lf j
theorem L1_start (Lf : Nat → List Value) (j : Nat) : L1 Lf 0 0 j = Lf j := by
  unfold L1
  rw [if_neg (by omega)]
  split
  · simp
  · rfl
theorem L1_next (Lf : Nat → List Value) (i j : Nat) : L1 Lf i (Lf i).length j = L1 Lf (i + 1) 0 j := by
  unfold L1
  by_cases h1 : j < i
  · rw [if_pos h1, if_pos (by omega)]
  · rw [if_neg h1]
    by_cases h2 : j = i
    · subst h2; rw [if_pos rfl, if_pos (by omega)]; simp [rep]
    · rw [if_neg h2, if_neg (by omega)]
      split
      · simp
      · rfl
theorem L1_len (Lf : Nat → List Value) {i k : Nat} (h : k ≤ (Lf i).length) (j : Nat) : (L1 Lf i k j).length = (Lf j).length := by
  unfold L1
  split
  · simp [rep]
  · split
    · rename_i e; subst e; simp; omega
    · rfl
theorem L1_set (Lf : Nat → List Value) {i k : Nat} (h : k < (Lf i).length) : (L1 Lf i k i).set k (xx i) = L1 Lf i (k + 1) i := by
  unfold L1
  rw [if_neg (by omega), if_pos rfl, if_neg (by omega), if_pos rfl]
  rw [List.set_append_right _ _ (by simp)]
  simp only [List.length_replicate, Nat.sub_self]
  rw [List.drop_eq_getElem_cons h, List.set_cons_zero, List.replicate_succ']
  simp
theorem L1_other (Lf : Nat → List Value) {i k j : Nat} (h : j ≠ i) : L1 Lf i (k + 1) j = L1 Lf i k j := by
  unfold L1
  rw [if_neg h, if_neg h]
theorem L1_end (Lf : Nat → List Value) {m j : Nat} (h : j < m) : L1 Lf m 0 j = rep Lf j := by unfold L1; rw [if_pos h]
theorem OE.formO {w : World} {B : Nat} {v : Value} {l : List Value} (h : OE w B v l) : ∃ a c, v = .slice a l.length c ∧ l.length ≤ c ∧ (0 < l.length → ∃ g, a = some ⟨g, 0, none⟩) := by
  rcases h.2 with ⟨e, e0⟩ | ⟨g, cap, cur, e1, _, _, hc, _⟩
  · exact ⟨none, 0, by rw [e, e0], by omega, fun q => by omega⟩
  · exact ⟨_, cap, e1, hc, fun _ => ⟨g, rfl⟩⟩
/-! headers -/
def hdr (V : Nat → Value) (m : Nat) : List Value := (List.range m).map V
theorem hdr_len (V : Nat → Value) (m : Nat) : (hdr V m).length = m := by simp [hdr]
theorem hdr_get (V : Nat → Value) {i m : Nat} (h : i < m) : (hdr V m)[i]? = some (V i) := by simp [hdr, h]
theorem hdr_snoc (V : Nat → Value) (m : Nat) (g : Value) : hdr (fun j => if j = m then g else V j) (m + 1) = hdr V m ++ [g] := by
  unfold hdr
  rw [List.range_succ, List.map_append]
  congr 1
  · apply List.map_congr_left
    intro j hj
    have := List.mem_range.1 hj
    rw [if_neg (by omega)]
  · simp
abbrev HRw (w : World) (B : Nat) (v : Value) (m : Nat) (V : Nat → Value) : Prop := w.ownsRow B 53 1 v m (hdr V m)
theorem HRw.form {w : World} {B m : Nat} {v : Value} {V : Nat → Value} (h : HRw w B v m V) : ∃ a c, v = .slice a m c ∧ (0 < m → ∃ g, a = some ⟨g, 0, none⟩ ∧ v.ownBlock = some g ∧ ∀ i, i < m → w.cell? ⟨g, i, none⟩ = some (V i)) := by
  rcases h.2 with ⟨e, e0⟩ | ⟨g, cap, cur, e1, _⟩
  · exact ⟨none, 0, by rw [e, e0], fun q => by omega⟩
  · refine ⟨some ⟨g, 0, none⟩, cap, e1, fun _ => ⟨g, rfl, by rw [e1]; rfl, fun i hi => ?_⟩⟩
    have := World.ownsRow.cells h (g := g) (by rw [e1]; rfl) i (V i) (hdr_get V hi)
    rw [add_lt0, Nat.zero_add] at this
    exact this
theorem en_info2 : (Tryd.prog.info? 53).map (fun i => (i.zero, i.bytes, i.size)) = some (some (.slice none 0 0), 24, 1) := by kernel_rfl
/-! what is left as it was -/
structure BF (V : Nat → Value) (m : Nat) (w w' : World) : Prop where
  size : w.heap.size ≤ w'.heap.size
  keep : ∀ k, k < w.heap.size → (∀ i, i < m → (V i).ownBlock ≠ some k) → w'.heap[k]? = w.heap[k]?
  same : w'.os = w.os ∧ w'.tape = w.tape ∧ w'.output = w.output
theorem BF.refl (V : Nat → Value) (m : Nat) (w : World) : BF V m w w := ⟨Nat.le_refl _, fun _ _ _ => rfl, rfl, rfl, rfl⟩
theorem BF.step {V : Nat → Value} {m : Nat} {w w1 w2 : World} {o : Option Nat} (h : BF V m w w1) (g : w1.grownBy w2 o) (ho : ∀ k, o = some k → k < w.heap.size → ∃ i, i < m ∧ (V i).ownBlock = some k) : BF V m w w2 :=
  ⟨Nat.le_trans h.size g.size, fun k hk q => by
    rw [g.block k (Nat.lt_of_lt_of_le hk h.size) (fun e => by
      obtain ⟨i, hi, e2⟩ := ho k e.symm hk
      exact q i hi e2)]
    exact h.keep k hk q, g.os.trans h.same.1, g.tape.trans h.same.2.1, g.output.trans h.same.2.2⟩
theorem BF.below {V : Nat → Value} {m : Nat} {w w1 w2 : World} (h : BF V m w w1) (b : Below w1.heap.size w1 w2) : BF V m w w2 :=
  ⟨Nat.le_trans h.size b.size, fun k hk q => by rw [b.block k (Nat.lt_of_lt_of_le hk h.size)]; exact h.keep k hk q, b.os.trans h.same.1, b.tape.trans h.same.2.1, b.output.trans h.same.2.2⟩
/-- where the book and its rows lie. -/
structure SPV (w0 : World) (N C m : Nat) (V : Nat → Value) (hv : Value) : Prop where
  nC : N < C
  nw : N < w0.heap.size
  cw : C ≤ w0.heap.size
  vb : ∀ i, i < m → ∀ k, (V i).ownBlock = some k → C ≤ k ∧ k < w0.heap.size
  hb : ∀ k, hv.ownBlock = some k → C ≤ k ∧ k < w0.heap.size
  dis : ∀ i j, i < m → j < m → i ≠ j → ∀ k, (V i).ownBlock = some k → (V j).ownBlock ≠ some k
  hd : ∀ i, i < m → ∀ k, (V i).ownBlock = some k → hv.ownBlock ≠ some k
/-- the book's headers and rows. -/
structure AS (w0 : World) (N C m : Nat) (V : Nat → Value) (hv : Value) (G : Nat → List Value) (wr : World) : Prop where
  cF : wr.cell? ⟨N, 3, none⟩ = some hv
  hr : HRw wr C hv m V
  rows : ∀ j, j < m → OE wr C (V j) (G j)
  bf : BF V m w0 wr
theorem HRw.below {w w' : World} {B C m : Nat} {v : Value} {V : Nat → Value} (h : HRw w B v m V) (hb : Below C w w') (hC : w.heap.size ≤ C) : HRw w' B v m V := by
  refine ⟨h.1, ?_⟩
  rcases h.2 with h2 | ⟨g, cap, cur, e1, e2, e3, e4⟩
  · exact Or.inl h2
  · exact Or.inr ⟨g, cap, cur, e1, e2, by rw [hb.block g (Nat.lt_of_lt_of_le (Array.getElem?_eq_some_iff.1 e3).1 hC)]; exact e3, e4⟩
theorem AS.below {w0 wr w' : World} {N C m : Nat} {V : Nat → Value} {hv : Value} {G : Nat → List Value} (h : AS w0 N C m V hv G wr) (s : SPV w0 N C m V hv) (hb : Below wr.heap.size wr w') : AS w0 N C m V hv G w' :=
  ⟨by rw [hb.cell (p := ⟨N, 3, none⟩) (Nat.lt_of_lt_of_le s.nw h.bf.size)]; exact h.cF, h.hr.below hb (Nat.le_refl _), fun j hj => (h.rows j hj).below hb (Nat.le_refl _), h.bf.below hb⟩
/-- a row of the book written: the others stay. -/
theorem AS.put {w0 wr : World} {N C m i k g n cap : Nat} {V : Nat → Value} {hv : Value} {G G' : Nat → List Value} (h : AS w0 N C m V hv G wr) (s : SPV w0 N C m V hv) (hi : i < m) (hV : V i = .slice (some ⟨g, 0, none⟩) n cap) (hk : k < (G i).length) (x : Value) (hG : G' i = (G i).set k x) (hG2 : ∀ j, j < m → j ≠ i → G' j = G j) :
    AS w0 N C m V hv G' (wr.setCell ⟨g, k, none⟩ x) := by
  have o := h.rows i hi
  have hV2 : (V i).ownBlock = some g := by rw [hV]; rfl
  rw [hV] at o
  obtain ⟨_, _, e1, _⟩ := o.formO
  injection e1 with _ e2 _
  subst e2
  have t2 := World.ownsRow.stored o k x
  have gg : wr.grownBy (wr.setCell ⟨g, k, none⟩ x) (some g) := t2.2
  have gN : N ≠ g := by have := (s.vb i hi g hV2).1; have := s.nC; omega
  refine ⟨?_, World.ownsRow.kept h.hr gg (Or.inr (s.hd i hi g hV2)), fun j hj => ?_, h.bf.step gg (fun q e _ => ⟨i, hi, by rw [hV2]; exact e⟩)⟩
  · rw [World.cell?_of_block (w := wr) (a := ⟨N, 3, none⟩) (gg.block N (Nat.lt_of_lt_of_le s.nw h.bf.size) (fun e => gN (by injection e)))]
    exact h.cF
  · by_cases c : j = i
    · subst c
      rw [hG, hV]
      unfold OE
      rw [List.length_set]
      exact t2.1
    · rw [hG2 j hj c]
      exact World.ownsRow.kept (h.rows j hj) gg (Or.inr (fun e => s.dis i j hi hj (fun q => c q.symm) g hV2 e))
/-- while the rows are grown: those behind it are in A, told by av. -/
structure P2 (w0 : World) (N C m : Nat) (V : Nat → Value) (hv : Value) (Lf : Nat → List Value) (S0 i : Nat) (A : Nat → Value) (av : Value) (wr : World) : Prop where
  st : AS w0 N C m V hv (rep Lf) wr
  alls : ∀ j, j < i → OE wr C (A j) (rep2 Lf j 20)
  ab : ∀ j, j < i → ∀ k, (A j).ownBlock = some k → (V j).ownBlock = some k ∨ S0 ≤ k
  ar : HRw wr S0 av i A
  aA : ∀ j, j < i → ∀ k, (A j).ownBlock = some k → av.ownBlock ≠ some k
  s0 : S0 ≤ wr.heap.size
  w0 : w0.heap.size ≤ S0
theorem P2.below {w0 wr w' : World} {N C m S0 i : Nat} {V A : Nat → Value} {hv av : Value} {Lf : Nat → List Value} (h : P2 w0 N C m V hv Lf S0 i A av wr) (s : SPV w0 N C m V hv) (hb : Below wr.heap.size wr w') : P2 w0 N C m V hv Lf S0 i A av w' :=
  ⟨h.st.below s hb, fun j hj => (h.alls j hj).below hb (Nat.le_refl _), h.ab, h.ar.below hb (Nat.le_refl _), h.aA, Nat.le_trans h.s0 hb.size, h.w0⟩
/-- the one in hand. -/
structure PG (w0 : World) (N C m : Nat) (V : Nat → Value) (hv : Value) (Lf : Nat → List Value) (S0 i : Nat) (A : Nat → Value) (av : Value) (E k : Nat) (g : Value) (wr : World) : Prop where
  p : P2 w0 N C m V hv Lf S0 i A av wr
  go : OE wr C g (rep2 Lf i k)
  gb : ∀ q, g.ownBlock = some q → (V i).ownBlock = some q ∨ E ≤ q
  aE : ∀ j, j < i → ∀ q, (A j).ownBlock = some q → q < E
  vE : ∀ q, av.ownBlock = some q → S0 ≤ q ∧ q < E
  sE : S0 ≤ E
  Ew : E ≤ wr.heap.size
theorem PG.below {w0 wr w' : World} {N C m S0 i E k : Nat} {V A : Nat → Value} {hv av g : Value} {Lf : Nat → List Value} (h : PG w0 N C m V hv Lf S0 i A av E k g wr) (s : SPV w0 N C m V hv) (hb : Below wr.heap.size wr w') : PG w0 N C m V hv Lf S0 i A av E k g w' :=
  ⟨h.p.below s hb, h.go.below hb (Nat.le_refl _), h.gb, h.aE, h.vE, h.sE, Nat.le_trans h.Ew hb.size⟩
theorem PG.start {w0 wr : World} {N C m S0 i : Nat} {V A : Nat → Value} {hv av : Value} {Lf : Nat → List Value} (h : P2 w0 N C m V hv Lf S0 i A av wr) (hi : i < m) : PG w0 N C m V hv Lf S0 i A av wr.heap.size 0 (V i) wr :=
  ⟨h, by rw [rep2_zero]; exact h.st.rows i hi, fun q e => Or.inl e, fun j hj q e => ((h.alls j hj).bound e).2, fun q e => World.ownsRow.lt h.ar q e, h.s0, Nat.le_refl _⟩
theorem PG.grow {w0 wr : World} {N C m S0 i E k : Nat} {V A : Nat → Value} {hv av g : Value} {Lf : Nat → List Value} (h0 : PG w0 N C m V hv Lf S0 i A av E k g wr) (s : SPV w0 N C m V hv) (hi : i < m) (hn : (Lf i).length ≤ 268435456) (hk : k ≤ 20) :
    ∃ g' w', (Builtin.append_ #[53, 53] 53 #[g, .slice (some ⟨wr.heap.size, 0, none⟩) 1 1]).run Tryd.prog (wr.alloc (.cells #[xx i] 2)) = .ok g' w' ∧ PG w0 N C m V hv Lf S0 i A av E (k + 1) g' w' := by
  obtain ⟨W, hW⟩ : ∃ W, W = wr.alloc (.cells #[xx i] 2) := ⟨_, rfl⟩
  have bW : Below wr.heap.size wr W := by rw [hW]; exact (Below.refl _ wr).alloc (Nat.le_refl _) _
  have sW : W.heap.size = wr.heap.size + 1 := by rw [hW]; simp
  have hE : W.cell? ⟨wr.heap.size, 0, none⟩ = some (xx i) := by rw [hW]; simp [go_sem]
  rw [← hW]
  have h := h0.below s bW
  obtain ⟨inf, i1, i0⟩ := Option.map_eq_some_iff.1 el_info
  have i2 : inf.zero = some (.int .i64 0) := congrArg (·.1) i0
  have i3 : inf.bytes = 8 := congrArg (·.2.1) i0
  have i4 : inf.size = 1 := congrArg (·.2.2) i0
  have hml : maxLen = 9223372036854775807 := by decide
  have lg : (rep2 Lf i k).length = (Lf i).length + k := by simp [rep2]
  have own : W.ownsRow C 2 inf.size g (rep2 Lf i k).length (rep2 Lf i k) := by rw [i4]; exact h.go
  have cw := s.cw
  have w0S := h.p.w0
  have sz := h.p.st.bf.size
  obtain ⟨g', w', hr, ho, hg, hb, hk'⟩ := append_keeps (P := Tryd.prog) W C 53 53 2 inf (.int .i64 0) Tryd.underlying53 i1 i2 (by rw [i4]; rfl) (by omega) g _ _ own ⟨wr.heap.size, 0, none⟩ 1 1 [xx i] (by rw [i4]; rfl) (news1 hE) (fun u hu => by simp at hu; subst hu; rfl) (by omega) (by rw [lg]; omega) (by rw [lg, i3]; omega) (by omega)
  rw [i4] at ho hk'
  have gC : ∀ q, g.ownBlock = some q → C ≤ q := fun q e => (h.go.bound e).1
  have gN : ∀ q, g.ownBlock = some q → q ≠ N := fun q e => by have := gC q e; have := s.nC; omega
  have gV : ∀ j, j < m → j ≠ i → ∀ q, g.ownBlock = some q → (V j).ownBlock ≠ some q := fun j hj hne q e e2 => by
    rcases h.gb q e with c | c
    · exact s.dis i j hi hj (fun q => hne q.symm) q c e2
    · have := (s.vb j hj q e2).2; have := h.sE; omega
  have gH : ∀ q, g.ownBlock = some q → hv.ownBlock ≠ some q := fun q e e2 => by
    rcases h.gb q e with c | c
    · exact s.hd i hi q c e2
    · have := (s.hb q e2).2; have := h.sE; omega
  have gA : ∀ j, j < i → ∀ q, g.ownBlock = some q → (A j).ownBlock ≠ some q := fun j hj q e e2 => by
    have lt := h.aE j hj q e2
    rcases h.gb q e with c | c
    · rcases h.p.ab j hj q e2 with d | d
      · exact s.dis i j hi (by omega) (by omega) q c d
      · have := (s.vb i hi q c).2; omega
    · omega
  have gv : ∀ q, g.ownBlock = some q → av.ownBlock ≠ some q := fun q e e2 => by
    obtain ⟨q1, q2⟩ := h.vE q e2
    rcases h.gb q e with c | c
    · have := (s.vb i hi q c).2; omega
    · omega
  have oth : ∀ (v : Value), (∀ q, g.ownBlock = some q → v.ownBlock ≠ some q) → v.ownBlock = none ∨ v.ownBlock ≠ g.ownBlock := fun v hq => by
    cases hv0 : v.ownBlock with
    | none => exact Or.inl rfl
    | some k => exact Or.inr (fun e => hq k e.symm hv0)
  refine ⟨g', w', hr, ⟨⟨⟨?_, World.ownsRow.kept h.p.st.hr hg (oth hv gH), fun j hj => ?_, h.p.st.bf.step hg (fun q e hq => ?_)⟩, fun j hj => ?_, h.p.ab, World.ownsRow.kept h.p.ar hg (oth av gv), h.p.aA, Nat.le_trans h.p.s0 hg.size, h.p.w0⟩, ?_, fun q e => ?_, h.aE, h.vE, h.sE, Nat.le_trans h.Ew hg.size⟩⟩
  · rw [World.cell?_of_block (w := W) (a := ⟨N, 3, none⟩) (hg.block N (by have := s.nw; omega) (fun e => gN N e.symm rfl))]
    exact h.p.st.cF
  · refine hk' C (V j) _ _ (h.p.st.rows j hj) (fun e => ?_)
    by_cases c : j = i
    · subst c; rw [lg]; simp [rep]
    · cases hg0 : g.ownBlock with
      | some q => exact absurd (by rw [e, hg0]) (gV j hj c q hg0)
      | none =>
        have hz : (rep Lf j).length = 0 := by
          rcases (h.p.st.rows j hj).2 with ⟨_, z⟩ | ⟨_, _, _, z, _⟩
          · exact z
          · rw [z, hg0] at e; cases e
        omega
  · rcases h.gb q e with c | c
    · exact ⟨i, hi, c⟩
    · have := h.sE; omega
  · refine hk' C (A j) _ _ (h.p.alls j hj) (fun e => ?_)
    cases hg0 : g.ownBlock with
    | some q => exact absurd (by rw [e, hg0]) (gA j hj q hg0)
    | none =>
      have hz : (rep2 Lf j 20).length = 0 := by
        rcases (h.p.alls j hj).2 with ⟨_, z⟩ | ⟨_, _, _, z, _⟩
        · exact z
        · rw [z, hg0] at e; cases e
      omega
  · rw [rep2_succ]
    unfold OE
    rw [List.length_append]
    exact ho
  · rcases hb with c | c
    · exact h.gb q (by rw [← c]; exact e)
    · rw [c] at e; injection e with e; have := h.Ew; exact Or.inr (by omega)
/-- the grown one behind the others. -/
theorem PG.next {w0 wr : World} {N C m S0 i E : Nat} {V A : Nat → Value} {hv av g : Value} {Lf : Nat → List Value} (h0 : PG w0 N C m V hv Lf S0 i A av E 20 g wr) (s : SPV w0 N C m V hv) (hi : i < m) (hm : m ≤ 4194304) :
    ∃ av' w', (Builtin.append_ #[26, 26] 26 #[av, .slice (some ⟨wr.heap.size, 0, none⟩) 1 1]).run Tryd.prog (wr.alloc (.cells #[g] 53)) = .ok av' w' ∧ P2 w0 N C m V hv Lf S0 (i + 1) (fun j => if j = i then g else A j) av' w' := by
  obtain ⟨W, hW⟩ : ∃ W, W = wr.alloc (.cells #[g] 53) := ⟨_, rfl⟩
  have bW : Below wr.heap.size wr W := by rw [hW]; exact (Below.refl _ wr).alloc (Nat.le_refl _) _
  have sW : W.heap.size = wr.heap.size + 1 := by rw [hW]; simp
  have hc : W.cell? ⟨wr.heap.size, 0, none⟩ = some g := by rw [hW]; simp [go_sem]
  rw [← hW]
  have h := h0.below s bW
  obtain ⟨inf, i1, i0⟩ := Option.map_eq_some_iff.1 en_info2
  have i2 : inf.zero = some (.slice none 0 0) := congrArg (·.1) i0
  have i3 : inf.bytes = 24 := congrArg (·.2.1) i0
  have i4 : inf.size = 1 := congrArg (·.2.2) i0
  have hml : maxLen = 9223372036854775807 := by decide
  have own : W.ownsRow S0 53 inf.size av i (hdr A i) := by rw [i4]; exact h.p.ar
  have cw := s.cw
  have g1 : g.oneCell' = true := by
    obtain ⟨a, c, e, _⟩ := h.go.formO
    rw [e]; rfl
  obtain ⟨av', w', hr, ho, hg, hb, _⟩ := append_keeps (P := Tryd.prog) W S0 26 26 53 inf (.slice none 0 0) Tryd.underlying26 i1 i2 (by rw [i4]; rfl) (by omega) av _ _ own ⟨wr.heap.size, 0, none⟩ 1 1 [g] (by rw [i4]; rfl) (fun j u hj => by
    have : j = 0 := by have := (List.getElem?_eq_some_iff.1 hj).1; simp at this; omega
    subst this
    simp at hj
    subst hj
    exact hc) (fun u hu => by simp at hu; subst hu; exact g1) (by omega) (by omega) (by rw [i3]; omega) h.p.s0
  rw [i4] at ho
  have w0S := h.p.w0
  have sz := h.p.st.bf.size
  have vS : ∀ q, av.ownBlock = some q → S0 ≤ q ∧ q < E := h.vE
  have oth : ∀ (v : Value), (∀ q, v.ownBlock = some q → av.ownBlock ≠ some q) → v.ownBlock = none ∨ v.ownBlock ≠ av.ownBlock := fun v hq => by
    cases hv0 : v.ownBlock with
    | none => exact Or.inl rfl
    | some k => exact Or.inr (fun e => hq k hv0 e.symm)
  have low : ∀ q, q < w0.heap.size → av.ownBlock ≠ some q := fun q hq e => by have := (vS q e).1; omega
  have gav : ∀ q, g.ownBlock = some q → av.ownBlock ≠ some q := fun q e e2 => by
    obtain ⟨q1, q2⟩ := vS q e2
    rcases h.gb q e with c | c
    · have := (s.vb i hi q c).2; omega
    · omega
  have gS : ∀ q, g.ownBlock = some q → (V i).ownBlock = some q ∨ S0 ≤ q := fun q e => by
    rcases h.gb q e with c | c
    · exact Or.inl c
    · exact Or.inr (Nat.le_trans h.sE c)
  refine ⟨av', w', hr, ⟨⟨?_, World.ownsRow.kept h.p.st.hr hg (oth hv fun q e => low q (s.hb q e).2), fun j hj => World.ownsRow.kept (h.p.st.rows j hj) hg (oth (V j) fun q e => low q (s.vb j hj q e).2), h.p.st.bf.step hg (fun q e hq => absurd e (low q hq))⟩, fun j hj => ?_, fun j hj k e => ?_, ?_, fun j hj k e => ?_, Nat.le_trans h.p.s0 hg.size, h.p.w0⟩⟩
  · rw [World.cell?_of_block (w := W) (a := ⟨N, 3, none⟩) (hg.block N (by have := s.nw; omega) (fun e => low N s.nw e.symm))]
    exact h.p.st.cF
  · by_cases c : j = i
    · subst c
      simp only [if_true]
      exact World.ownsRow.kept h.go hg (oth g gav)
    · rw [if_neg c]
      exact World.ownsRow.kept (h.p.alls j (by omega)) hg (oth (A j) fun q e => h.p.aA j (by omega) q e)
  · by_cases c : j = i
    · subst c
      simp only [if_true] at e
      exact gS k e
    · rw [if_neg c] at e
      exact h.p.ab j (by omega) k e
  · show w'.ownsRow S0 53 1 av' (i + 1) (hdr (fun j => if j = i then g else A j) (i + 1))
    rw [hdr_snoc]
    exact ho
  · rcases hb with q | q
    · rw [q]
      by_cases c : j = i
      · subst c; simp only [if_true] at e; exact gav k e
      · rw [if_neg c] at e; exact h.p.aA j (by omega) k e
    · rw [q]
      intro e2
      injection e2 with e2
      by_cases c : j = i
      · subst c; simp only [if_true] at e; have := (h.go.bound e).2; omega
      · rw [if_neg c] at e; have := ((h.p.alls j (by omega)).bound e).2; omega
/-- a book in memory: what it has taken. -/
structure BK (O : Nat → Value) (N C m : Nat) (V : Nat → Value) (hv : Value) (G : Nat → List Value) (w : World) : Prop where
  sp : SPV w N C m V hv
  st : AS w N C m V hv G w
  nil : ∀ j, j < 28 → j ≠ 3 → w.cell? ⟨N, j, none⟩ = some (O j)
  fz : ∀ j, w.frozen? ⟨N, j, none⟩ = false
theorem BK.below {O : Nat → Value} {N C m : Nat} {V : Nat → Value} {hv : Value} {G : Nat → List Value} {w w' : World} (h : BK O N C m V hv G w) (hb : Below w.heap.size w w') : BK O N C m V hv G w' := by
  have s := h.st.below h.sp hb
  have sz := hb.size
  refine ⟨⟨h.sp.nC, by have := h.sp.nw; omega, by have := h.sp.cw; omega, fun i hi k e => by have := h.sp.vb i hi k e; omega, fun k e => by have := h.sp.hb k e; omega, h.sp.dis, h.sp.hd⟩, ⟨s.cF, s.hr, s.rows, BF.refl _ _ _⟩, fun j hj hne => ?_, fun j => ?_⟩
  · rw [hb.cell (p := ⟨N, j, none⟩) h.sp.nw]; exact h.nil j hj hne
  · rw [hb.frozen (p := ⟨N, j, none⟩) h.sp.nw]; exact h.fz j
theorem BK.start (w : World) : BK (fun _ => .slice none 0 0) w.heap.size (w.heap.size + 1) 0 (fun _ => undef) (.slice none 0 0) (fun _ => []) (w.alloc (.cells (Array.replicate 28 (.slice none 0 0)) 52)) := by
  have c : ∀ j, j < 28 → (w.alloc (.cells (Array.replicate 28 (.slice none 0 0)) 52)).cell? ⟨w.heap.size, j, none⟩ = some (.slice none 0 0) := fun j hj => by
    rw [World.cell?_alloc_at _ _ _ _ rfl, Array.getElem?_replicate, if_pos hj]
  refine ⟨⟨by omega, by simp, by simp, fun i hi => by omega, fun k e => (by cases e), fun i j hi => by omega, fun i hi => by omega⟩, ⟨c 3 (by omega), ⟨rfl, Or.inl ⟨rfl, rfl⟩⟩, fun j hj => by omega, BF.refl _ _ _⟩, fun j hj _ => c j hj, fun j => World.frozen?_alloc_at _ _ _ _ rfl⟩
/-- what a Take leaves. -/
def FRB (N : Nat) (w : World) (hv hv' : Value) (w' : World) : Prop := w.heap.size ≤ w'.heap.size ∧ (∀ k, k < w.heap.size → k ≠ N → hv.ownBlock ≠ some k → w'.heap[k]? = w.heap[k]?) ∧ ∀ k, hv'.ownBlock = some k → hv.ownBlock = some k ∨ w.heap.size ≤ k
/-- a list kept. -/
theorem BK.take {O : Nat → Value} {N C m : Nat} {V : Nat → Value} {hv : Value} {G : Nat → List Value} {w : World} {B : Nat} {v : Value} {l : List Value} (h0 : BK O N C m V hv G w) (o0 : OE w B v l) (hB : ∀ k, v.ownBlock = some k → C ≤ k ∧ hv.ownBlock ≠ some k ∧ ∀ j, j < m → (V j).ownBlock ≠ some k) (hm : m ≤ 4194304) :
    ∃ hv' w', (Builtin.append_ #[26, 26] 26 #[hv, .slice (some ⟨w.heap.size, 0, none⟩) 1 1]).run Tryd.prog (w.alloc (.cells #[v] 53)) = .ok hv' w' ∧ w'.cell? ⟨N, 3, none⟩ = some hv ∧ w'.frozen? ⟨N, 3, none⟩ = false ∧ BK O N C (m + 1) (fun j => if j = m then v else V j) hv' (fun j => if j = m then l else G j) (w'.setCell ⟨N, 3, none⟩ hv') ∧ Below N w (w'.setCell ⟨N, 3, none⟩ hv') ∧ FRB N w hv hv' (w'.setCell ⟨N, 3, none⟩ hv') := by
  obtain ⟨W, hW⟩ : ∃ W, W = w.alloc (.cells #[v] 53) := ⟨_, rfl⟩
  have bW : Below w.heap.size w W := by rw [hW]; exact (Below.refl _ w).alloc (Nat.le_refl _) _
  have sW : W.heap.size = w.heap.size + 1 := by rw [hW]; simp
  have hc : W.cell? ⟨w.heap.size, 0, none⟩ = some v := by rw [hW]; simp [go_sem]
  rw [← hW]
  have h := h0.below bW
  have o := o0.below bW (Nat.le_refl _)
  have vlt : ∀ k, v.ownBlock = some k → k < w.heap.size := fun k e => (o0.bound e).2
  have hlt0 : ∀ k, hv.ownBlock = some k → k < w.heap.size := fun k e => (h0.sp.hb k e).2
  have nw0 := h0.sp.nw
  obtain ⟨inf, i1, i0⟩ := Option.map_eq_some_iff.1 en_info2
  have i2 : inf.zero = some (.slice none 0 0) := congrArg (·.1) i0
  have i3 : inf.bytes = 24 := congrArg (·.2.1) i0
  have i4 : inf.size = 1 := congrArg (·.2.2) i0
  have hml : maxLen = 9223372036854775807 := by decide
  have own : W.ownsRow C 53 inf.size hv m (hdr V m) := by rw [i4]; exact h.st.hr
  have v1 : v.oneCell' = true := by
    obtain ⟨a, c, e, _⟩ := o.formO
    rw [e]; rfl
  obtain ⟨hv', w', hr, ho, hg, hb, _⟩ := append_keeps (P := Tryd.prog) W C 26 26 53 inf (.slice none 0 0) Tryd.underlying26 i1 i2 (by rw [i4]; rfl) (by omega) hv _ _ own ⟨w.heap.size, 0, none⟩ 1 1 [v] (by rw [i4]; rfl) (fun j u hj => by
    have : j = 0 := by have := (List.getElem?_eq_some_iff.1 hj).1; simp at this; omega
    subst this
    simp at hj
    subst hj
    exact hc) (fun u hu => by simp at hu; subst hu; exact v1) (by omega) (by omega) (by rw [i3]; omega) h.sp.cw
  rw [i4, ← hdr_snoc] at ho
  have hN : hv.ownBlock ≠ some N := fun e => by have := (h.sp.hb N e).1; have := h.sp.nC; omega
  have kN : w'.heap[N]? = W.heap[N]? := hg.block N h.sp.nw (fun e => hN e.symm)
  have cN : ∀ j, w'.cell? ⟨N, j, none⟩ = W.cell? ⟨N, j, none⟩ := fun j => World.cell?_of_block (w := W) (a := ⟨N, j, none⟩) kN
  have zN : ∀ j, w'.frozen? ⟨N, j, none⟩ = W.frozen? ⟨N, j, none⟩ := fun j => World.frozen?_of_block (w := W) (a := ⟨N, j, none⟩) kN
  have cF : w'.cell? ⟨N, 3, none⟩ = some hv := by rw [cN]; exact h.st.cF
  obtain ⟨W3, hW3⟩ : ∃ W3, W3 = w'.setCell ⟨N, 3, none⟩ hv' := ⟨_, rfl⟩
  have g3 : w'.grownBy W3 (some N) := by rw [hW3]; exact ⟨rfl, rfl, rfl, by simp, fun k hk q => Below.heap_setCell _ _ _ _ (fun e => q (by rw [e]))⟩
  have s3 : W3.heap.size = w'.heap.size := by rw [hW3]; simp
  have hvb : ∀ k, hv'.ownBlock = some k → C ≤ k ∧ k < W3.heap.size := fun k e => by rw [s3]; exact World.ownsRow.lt ho k e
  have hvn : ∀ k, hv'.ownBlock = some k → hv.ownBlock = some k ∨ k = W.heap.size := fun k e => by
    rcases hb with q | q
    · exact Or.inl (by rw [← q]; exact e)
    · rw [q] at e; injection e with e; exact Or.inr e.symm
  have cw := h.sp.cw
  have nC := h.sp.nC
  have sz := hg.size
  have oth : ∀ (u : Value), (∀ q, u.ownBlock = some q → hv.ownBlock ≠ some q) → u.ownBlock = none ∨ u.ownBlock ≠ hv.ownBlock := fun u hq => by
    cases hv0 : u.ownBlock with
    | none => exact Or.inl rfl
    | some k => exact Or.inr (fun e => hq k hv0 e.symm)
  have rowK : ∀ (u : Value) (B' : Nat) (l' : List Value), OE W B' u l' → (∀ q, u.ownBlock = some q → C ≤ q ∧ hv.ownBlock ≠ some q) → OE W3 B' u l' := fun u B' l' hu hq => World.ownsRow.kept (World.ownsRow.kept hu hg (oth u fun q e => (hq q e).2)) g3 (by
    cases hv0 : u.ownBlock with
    | none => exact Or.inl rfl
    | some k => exact Or.inr (fun e => by injection e with e; have := (hq k hv0).1; omega))
  have up : ∀ (u : Value) (B' : Nat) (l' : List Value), OE W3 B' u l' → (∀ q, u.ownBlock = some q → C ≤ q) → OE W3 C u l' := fun u B' l' hu hq => by
    refine ⟨hu.1, ?_⟩
    rcases hu.2 with h2 | ⟨g, cap, cur, e1, e2, e3⟩
    · exact Or.inl h2
    · exact Or.inr ⟨g, cap, cur, e1, hq g (by rw [e1]; rfl), e3⟩
  refine ⟨hv', w', hr, cF, by rw [zN]; exact h.fz 3, ?_⟩
  rw [← hW3]
  refine ⟨⟨⟨nC, by have := h.sp.nw; omega, by omega, fun i hi k e => ?_, hvb, fun i j hi hj hne k e e2 => ?_, fun i hi k e e2 => ?_⟩, ⟨?_, World.ownsRow.kept ho g3 (by
    cases hv0 : hv'.ownBlock with
    | none => exact Or.inl rfl
    | some k => exact Or.inr (fun e => by injection e with e; have := (hvb k hv0).1; omega)), fun j hj => ?_, BF.refl _ _ _⟩, fun j hj hne => ?_, fun j => ?_⟩, ?_, ?_⟩
  · by_cases c : i = m
    · simp only [if_pos c] at e; have := vlt k e; exact ⟨(hB k e).1, by omega⟩
    · simp only [if_neg c] at e; have := h0.sp.vb i (by omega) k e; omega
  · by_cases c : i = m
    · simp only [if_pos c] at e
      simp only [if_neg (show ¬ j = m by omega)] at e2
      exact (hB k e).2.2 j (by omega) e2
    · simp only [if_neg c] at e
      by_cases c2 : j = m
      · simp only [if_pos c2] at e2; exact (hB k e2).2.2 i (by omega) e
      · simp only [if_neg c2] at e2; exact h.sp.dis i j (by omega) (by omega) hne k e e2
  · by_cases c : i = m
    · simp only [if_pos c] at e
      rcases hvn k e2 with q | q
      · exact (hB k e).2.1 q
      · have := vlt k e; omega
    · simp only [if_neg c] at e
      rcases hvn k e2 with q | q
      · exact h.sp.hd i (by omega) k e q
      · have := (h0.sp.vb i (by omega) k e).2; omega
  · rw [hW3]; exact World.cell?_setCell_same _ _ _ cF
  · by_cases c : j = m
    · simp only [if_pos c]
      exact up v B l (rowK v B l o (fun q e => ⟨(hB q e).1, (hB q e).2.1⟩)) (fun q e => (hB q e).1)
    · simp only [if_neg c]
      exact rowK (V j) C _ (h.st.rows j (by omega)) (fun q e => ⟨(h.sp.vb j (by omega) q e).1, h.sp.hd j (by omega) q e⟩)
  · rw [hW3, World.cell?_setCell_other _ _ _ _ (by intro e; injection e; omega), cN]; exact h.nil j hj hne
  · rw [hW3, World.frozen?_setCell, zN]; exact h.fz j
  · have b1 : Below N w W := below_less bW (by omega)
    have b2 : Below N W w' := (Below.refl N W).grown hg (by omega) (fun k e => by have := (h.sp.hb k e).1; omega)
    have b3 : Below N w' W3 := (Below.refl N w').grown g3 (by omega) (fun k e => by injection e with e; omega)
    exact below_trans (below_trans b1 b2) b3
  · refine ⟨by omega, fun k hk hne hh => ?_, fun k e => ?_⟩
    · rw [g3.block k (by omega) (fun e => hne (by injection e)), hg.block k (by omega) (fun e => hh e.symm)]
      exact bW.block k hk
    · rcases hvn k e with q | q
      · exact Or.inl q
      · exact Or.inr (by omega)
end Go.Proofs.YtfijagdbdbbbpaaDoor.Bk3


namespace Go.Proofs.YtfijagdbdbbbpaaDoor.Bk3
open Go.RowKit
set_option linter.unusedVariables false
set_option linter.unusedSimpArgs false
set_option maxRecDepth 100000
theorem wpList_append_runB {P : Program} {ops : Array Oper} {rest : List Oper} {o : Oper} {a : Act} {Q : Exit → Act → World → Prop} {w : World} (hgd : o.guard = none) (s x : Operand) (t : TypeId)
    (ho : o.op = .call { callee := .builtin .append, args := #[s, x], argTypes := #[t, t] }) (v y v' : Value) (w' : World) (hs : a.eval s = v) (hx : a.eval x = y) (hr : (Builtin.append_ #[t, t] o.type #[v, y]).run P w = .ok v' w')
    (h : wpList P ops Q rest (a.put o.dst v') w') : wpList P ops Q (o :: rest) a w := by
  refine wpList_plain hgd fun K hK => ?_
  unfold Oper.wp execOp
  simp only [ho, resolve, invoke, builtin, Sem.run_bind, Sem.run_pure, Result.andThen_ok, List.map_toArray, List.map_cons, List.map_nil, hs, hx, hr]
  exact hK _ _ h
theorem nums_t (i n : Nat) (h : i < n) (hn : n ≤ 4398046511104) : (0 : Int) ≤ (i : Int) ∧ (i : Int) < (n : Int) ∧ IntKind.i64.wrap ((i : Int) + 1) = ((i + 1 : Nat) : Int) := ⟨by omega, by omega, IntWalk.i64_in _ (by omega)⟩
/-- a mark's number, as it is reckoned. -/
theorem nums_m (i : Nat) (h : i < 4398046511104) : xx i = .int .i64 (-7 - (i : Int)) ∧ IntKind.i64.wrap (-7 - (i : Int)) = -7 - (i : Int) ∧ wrap64 (-7 - (i : Int)) = -7 - (i : Int) := ⟨rfl, IntWalk.i64_in _ (by omega), IntWalk.wrap64_in _ (by omega)⟩
set_option maxHeartbeats 32000000 in
theorem aloneInt64s_any {w : World} {N C m : Nat} {V : Nat → Value} {hv : Value} {Lf : Nat → List Value} (sp : SPV w N C m V hv) (st : AS w N C m V hv Lf w) (hm : m ≤ 4194304) (hn : ∀ j, j < m → (Lf j).length ≤ 268435456) :
    Calls Tryd.prog 41 #[.pointer (some ⟨N, 0, none⟩)] w fun e w' => e = .returned (.bool true) ∧ BF V m w w' := by
  obtain ⟨ah, ch, rfl, hgh⟩ := st.hr.form
  have spH : Hid _ := sp
  have ghH : Hid (0 < m → ∃ hb, ah = some ⟨hb, 0, none⟩) := fun q => by
    obtain ⟨g, e, _⟩ := hgh q
    exact ⟨g, e⟩
  have hnH : Hid _ := hn
  have HC : Hid (∀ G W, AS w N C m V (.slice ah m ch) G W → ∀ hb, ah = some ⟨hb, 0, none⟩ → ∀ i, i < m → W.cell? ⟨hb, i, none⟩ = some (V i)) := fun G W s hb e i hi => by
    obtain ⟨a, c, e1, h2⟩ := s.hr.form
    obtain ⟨g, e3, _, h4⟩ := h2 (by omega)
    injection e1 with q1 _ _
    rw [← q1, e] at e3
    injection e3 with e3
    injection e3 with e3
    subst e3
    exact h4 i hi
  have st0 : Hid (AS w N C m V (.slice ah m ch) (L1 Lf 0 0) w) := ⟨st.cF, st.hr, fun j hj => by rw [L1_start]; exact st.rows j hj, st.bf⟩
  clear sp st hgh hn
  go_enter Tryd.func41, Tryd.ntmps41
  go_wp2_with fail
  go_loopw [3] (fun v3 wr => ∃ (i : Nat), v3 = .int .i64 (i : Int) ∧ i ≤ m ∧ Hid (AS w N C m V (.slice ah m ch) (L1 Lf i 0) wr)) (fun v3 _ => m - (intOf v3).toNat)
  case atStart => exact ⟨0, rfl, Nat.zero_le _, st0⟩
  case round =>
    clear st0
    obtain ⟨i, rfl, hil, hS⟩ := hrel
    have cF := hS.out.cF
    by_cases hi : i < m
    · obtain ⟨i0, iI, iw⟩ := nums_t i m hi (by omega)
      have nn := hnH.out i hi
      obtain ⟨n, hnE⟩ : ∃ n, n = (Lf i).length := ⟨_, rfl⟩
      rw [← hnE] at nn
      have o := hS.out.rows i hi
      obtain ⟨ai, ci, hVi, _, hgi⟩ := o.formO
      rw [L1_len Lf (Nat.zero_le _), ← hnE] at hVi hgi
      have VH : Hid (V i = .slice ai n ci) := hVi
      have LH : Hid (n = (Lf i).length) := hnE
      have giH : Hid (0 < n → ∃ g, ai = some ⟨g, 0, none⟩) := hgi
      obtain ⟨hb, rfl⟩ := ghH.out (by omega)
      clear o hVi hgi hnE
      go_wp2_with fail
      clear cF
      go_loopw [4] (fun v4 wx => ∃ (k : Nat), v4 = .int .i64 (k : Int) ∧ k ≤ n ∧ Hid (AS w N C m V (.slice (some ⟨hb, 0, none⟩) m ch) (L1 Lf i k) wx)) (fun v4 _ => n - (intOf v4).toNat)
      case atStart => exact ⟨0, rfl, Nat.zero_le _, hS⟩
      case round =>
        clear hS
        obtain ⟨k, rfl, hkl, hS⟩ := hrel
        have cF := hS.out.cF
        have hci := HC.out _ _ hS.out hb rfl i hi
        rw [VH.out] at hci
        by_cases hk : k < n
        · obtain ⟨k0, kI, kw⟩ := nums_t k n hk (by omega)
          obtain ⟨g, rfl⟩ := giH.out (by omega)
          obtain ⟨ex, m1, m2⟩ := nums_m i (by omega)
          obtain ⟨⟨y, d0⟩, z0, NX⟩ : (∃ y : Value, wr.cell? ⟨g, k, none⟩ = some y) ∧ wr.frozen? ⟨g, k, none⟩ = false ∧ Hid (AS w N C m V (.slice (some ⟨hb, 0, none⟩) m ch) (L1 Lf i (k + 1)) (wr.setCell ⟨g, k, none⟩ (.int .i64 (-7 - (i : Int))))) := by
            have s2 := hS.out
            have ll := L1_len Lf (i := i) (k := k) (by rw [← LH.out]; omega) i
            have o := s2.rows i hi
            rw [VH.out] at o
            have hcs := World.ownsRow.cells o (g := g) rfl
            have hk2 : k < (L1 Lf i k i).length := by rw [ll, ← LH.out]; exact hk
            have k1 := hcs k _ (List.getElem?_eq_getElem hk2)
            rw [add_lt0, Nat.zero_add] at k1
            have fz : ∀ q, wr.frozen? ⟨g, q, none⟩ = false := fun q => by
              obtain ⟨_, _, e3, _⟩ := o.formO
              injection e3 with _ e4 _
              rw [e4] at o
              exact World.ownsRow.frozenAt o q
            refine ⟨⟨_, k1⟩, fz _, ?_⟩
            have s3 := s2.put spH.out hi VH.out hk2 (xx i) (L1_set Lf (by rw [← LH.out]; exact hk)).symm (fun j hj q => L1_other Lf q)
            rw [ex] at s3
            exact s3
          clear hS ex
          go_wp2_with fail
          exact ⟨⟨k + 1, by first | rfl | go_num, hk, NX⟩, by first | (simp [intOf]; done) | (simp [intOf]; omega)⟩
        · have hlt : ¬ (k : Int) < (n : Int) := by omega
          have hS2 : Hid (AS w N C m V (.slice (some ⟨hb, 0, none⟩) m ch) (L1 Lf (i + 1) 0) wr) := by
            have s := hS.out
            have e : k = (Lf i).length := by have := LH.out; omega
            exact ⟨s.cF, s.hr, fun j hj => by have := s.rows j hj; rw [e, L1_next] at this; exact this, s.bf⟩
          clear hS
          go_wp2_with fail
          exact ⟨⟨i + 1, by first | rfl | go_num, hi, hS2⟩, by first | (simp [intOf]; done) | (simp [intOf]; omega)⟩
    · have hlt : ¬ (i : Int) < (m : Int) := by omega
      obtain ⟨S0, hS0⟩ : ∃ S0, S0 = wr.heap.size := ⟨_, rfl⟩
      have P0 : Hid (P2 w N C m V (.slice ah m ch) Lf S0 0 V (.slice none 0 0) wr) := by
        have s := hS.out
        have e : i = m := by omega
        refine ⟨⟨s.cF, s.hr, fun j hj => by have := s.rows j hj; rw [e, L1_end Lf hj] at this; exact this, s.bf⟩, fun j hj => by omega, fun j hj => by omega, ⟨rfl, Or.inl ⟨rfl, rfl⟩⟩, fun j hj => by omega, by omega, by rw [hS0]; exact s.bf.size⟩
      have lenV : Hid (∀ (W : World) (G : Nat → List Value), AS w N C m V (.slice ah m ch) G W → ∀ j, j < m → ∃ a c, V j = .slice a (G j).length c ∧ (0 < (G j).length → ∃ g, a = some ⟨g, 0, none⟩)) := fun W G s j hj => by
        obtain ⟨a, c, e, _, h⟩ := (s.rows j hj).formO
        exact ⟨a, c, e, h⟩
      clear hS hS0 hil hi
      go_wp2_with fail
      clear cF
      go_loopw [5, 6] (fun v5 v6 wx => ∃ (i : Nat) (A : Nat → Value), v6 = .int .i64 (i : Int) ∧ i ≤ m ∧ Hid (P2 w N C m V (.slice ah m ch) Lf S0 i A v5 wx)) (fun _ v6 _ => m - (intOf v6).toNat)
      case atStart => exact ⟨0, V, rfl, Nat.zero_le _, P0⟩
      case round =>
        clear P0
        obtain ⟨i, A, rfl, hil, hP⟩ := hrel
        obtain ⟨aa, ca, rfl, hga⟩ := hP.out.ar.form
        have cF := hP.out.st.cF
        by_cases hi : i < m
        · obtain ⟨i0, iI, iw⟩ := nums_t i m hi (by omega)
          have nn := hnH.out i hi
          obtain ⟨hb, rfl⟩ := ghH.out (by omega)
          have hci := HC.out _ _ hP.out.st hb rfl i hi
          obtain ⟨av, cv, hVi, _⟩ := lenV.out _ _ hP.out.st i hi
          have PG0 : Hid (PG w N C m V (.slice (some ⟨hb, 0, none⟩) m ch) Lf S0 i A (.slice aa i ca) wr.heap.size 0 (V i) wr) := PG.start hP.out hi
          rw [hVi] at hci PG0
          clear hP hVi hga
          generalize wr.heap.size = E at PG0
          go_wp2_with fail
          clear cF hci
          go_loopw [7, 8] (fun v7 v8 wx => ∃ (k : Nat), v8 = .int .i64 (k : Int) ∧ k ≤ 20 ∧ Hid (PG w N C m V (.slice (some ⟨hb, 0, none⟩) m ch) Lf S0 i A (.slice aa i ca) E k v7 wx)) (fun _ v8 _ => 20 - (intOf v8).toNat)
          case atStart => exact ⟨0, rfl, by omega, PG0⟩
          case round =>
            clear PG0
            obtain ⟨k, rfl, hkl, hG⟩ := hrel
            obtain ⟨ag, cg, rfl, _, _⟩ := hG.out.go.formO
            by_cases hk : k < 20
            · obtain ⟨k0, kI, kw⟩ := nums_t k 20 hk (by omega)
              have kI2 : (k : Int) < 20 := by omega
              obtain ⟨ex, m1, m2⟩ := nums_m i (by omega)
              obtain ⟨g', w4, hr, pg⟩ := hG.out.grow spH.out hi nn (by omega)
              rw [ex] at hr
              have hrH : Hid (∀ W, W = wr.alloc (.cells #[.int .i64 (-7 - (i : Int))] 2) → (Builtin.append_ #[53, 53] 53 #[.slice ag (rep2 Lf i k).length cg, .slice (some ⟨wr.heap.size, 0, none⟩) 1 1]).run Tryd.prog W = .ok g' w4) := fun W e => by subst e; exact hr
              have pgH : Hid _ := pg
              clear hG hr pg ex
              generalize (rep2 Lf i k).length = ng at *
              go_wp2_with (at_builtin; refine wpList_append_runB (by rfl) _ _ _ (by rfl) _ _ _ _ (by rfl) (by rfl) (hrH.out _ rfl) ?_)
              exact ⟨⟨k + 1, by first | rfl | go_num, by omega, pgH⟩, by first | (simp [intOf]; done) | (simp [intOf]; omega)⟩
            · have hke : k = 20 := by omega
              have hlt2 : ¬ (k : Int) < 20 := by omega
              have PN : Hid (∃ av' w', (Builtin.append_ #[26, 26] 26 #[.slice aa i ca, .slice (some ⟨wr.heap.size, 0, none⟩) 1 1]).run Tryd.prog (wr.alloc (.cells #[.slice ag (rep2 Lf i k).length cg] 53)) = .ok av' w' ∧ P2 w N C m V (.slice (some ⟨hb, 0, none⟩) m ch) Lf S0 (i + 1) (fun j => if j = i then .slice ag (rep2 Lf i k).length cg else A j) av' w') := by
                have := hG.out
                rw [hke] at this ⊢
                exact this.next spH.out hi hm
              obtain ⟨av', w5, hr, p2⟩ := PN.out
              have hrH : Hid (∀ W, W = wr.alloc (.cells #[.slice ag (rep2 Lf i k).length cg] 53) → (Builtin.append_ #[26, 26] 26 #[.slice aa i ca, .slice (some ⟨wr.heap.size, 0, none⟩) 1 1]).run Tryd.prog W = .ok av' w5) := fun W e => by subst e; exact hr
              have p2H : Hid (∃ A', P2 w N C m V (.slice (some ⟨hb, 0, none⟩) m ch) Lf S0 (i + 1) A' av' w5) := ⟨_, p2⟩
              clear PN hr p2 hG hke
              generalize (rep2 Lf i k).length = ng at *
              go_wp2_with (at_builtin; refine wpList_append_runB (by rfl) _ _ _ (by rfl) _ _ _ _ (by rfl) (by rfl) (hrH.out _ rfl) ?_)
              obtain ⟨A', p3⟩ := p2H.out
              exact ⟨⟨i + 1, A', by first | rfl | go_num, hi, p3⟩, by first | (simp [intOf]; done) | (simp [intOf]; omega)⟩
        · have hlt2 : ¬ (i : Int) < (m : Int) := by omega
          obtain rfl : m = i := by omega
          have hcA : Hid (∀ W, P2 w N C m V (.slice ah m ch) Lf S0 m A (.slice aa m ca) W → ∀ j, j < m → ∃ ga aj cj, aa = some ⟨ga, 0, none⟩ ∧ W.cell? ⟨ga, j, none⟩ = some (.slice aj ((Lf j).length + 20) cj) ∧ ∃ g, aj = some ⟨g, 0, none⟩ ∧ ∀ k, k < (Lf j).length + 20 → W.cell? ⟨g, k, none⟩ = some (xx j)) := fun W p j hj => by
            obtain ⟨a, c, e1, h2⟩ := p.ar.form
            obtain ⟨ga, e3, _, h4⟩ := h2 (by omega)
            injection e1 with q1 _ _
            have o := p.alls j hj
            have ll : (rep2 Lf j 20).length = (Lf j).length + 20 := by simp [rep2]
            obtain ⟨aj, cj, e5, _, h6⟩ := o.formO
            obtain ⟨g, rfl⟩ := h6 (by omega)
            refine ⟨ga, _, cj, by rw [q1, e3], by rw [h4 j hj, e5, ll], g, rfl, fun k hk => ?_⟩
            rw [e5] at o
            have hcs := World.ownsRow.cells o (g := g) rfl
            have k1 := hcs k (xx j) (get_rep _ _ hk)
            rw [add_lt0, Nat.zero_add] at k1
            exact k1
          have hcB : Hid (∀ W, P2 w N C m V (.slice ah m ch) Lf S0 m A (.slice aa m ca) W → ∀ j, j < m → ∃ hb aj cj, ah = some ⟨hb, 0, none⟩ ∧ W.cell? ⟨N, 3, none⟩ = some (.slice ah m ch) ∧ W.cell? ⟨hb, j, none⟩ = some (.slice aj (Lf j).length cj) ∧ (0 < (Lf j).length → ∃ g, aj = some ⟨g, 0, none⟩ ∧ ∀ k, k < (Lf j).length → W.cell? ⟨g, k, none⟩ = some (xx j))) := fun W p j hj => by
            obtain ⟨hb, eh⟩ := ghH.out (by omega)
            have hc := HC.out _ _ p.st hb eh j hj
            have o := p.st.rows j hj
            have ll : (rep Lf j).length = (Lf j).length := by simp [rep]
            obtain ⟨aj, cj, e5, _, h6⟩ := o.formO
            rw [e5, ll] at hc
            refine ⟨hb, aj, cj, eh, p.st.cF, hc, fun q => ?_⟩
            obtain ⟨g, rfl⟩ := h6 (by omega)
            refine ⟨g, rfl, fun k hk => ?_⟩
            rw [e5] at o
            have hcs := World.ownsRow.cells o (g := g) rfl
            have k1 := hcs k (xx j) (get_rep _ _ hk)
            rw [add_lt0, Nat.zero_add] at k1
            exact k1
          have hP3 : Hid _ := hP
          clear hP hga HC lenV hil hi ghH
          go_wp2_with fail
          clear cF
          go_loopw [9] (fun v9 wx => ∃ (i : Nat), v9 = .int .i64 (i : Int) ∧ i ≤ m ∧ Hid (P2 w N C m V (.slice ah m ch) Lf S0 m A (.slice aa m ca) wx)) (fun v9 _ => m - (intOf v9).toNat)
          case atStart => exact ⟨0, rfl, Nat.zero_le _, hP3⟩
          case round =>
            clear hP3
            obtain ⟨i, rfl, hil, hP⟩ := hrel
            by_cases hi : i < m
            · obtain ⟨i0, iI, iw⟩ := nums_t i m hi (by omega)
              have nn := hnH.out i hi
              obtain ⟨n, hnE⟩ : ∃ n, n = (Lf i).length := ⟨_, rfl⟩
              have FA : Hid (∀ W, P2 w N C m V (.slice ah m ch) Lf S0 m A (.slice aa m ca) W → ∃ ga aj cj, aa = some ⟨ga, 0, none⟩ ∧ W.cell? ⟨ga, i, none⟩ = some (.slice aj (n + 20) cj) ∧ ∃ g, aj = some ⟨g, 0, none⟩ ∧ ∀ k, k < n + 20 → W.cell? ⟨g, k, none⟩ = some (xx i)) := fun W p => by rw [hnE]; exact hcA.out W p i hi
              have FB : Hid (∀ W, P2 w N C m V (.slice ah m ch) Lf S0 m A (.slice aa m ca) W → ∃ hb aj cj, ah = some ⟨hb, 0, none⟩ ∧ W.cell? ⟨N, 3, none⟩ = some (.slice ah m ch) ∧ W.cell? ⟨hb, i, none⟩ = some (.slice aj n cj) ∧ (0 < n → ∃ g, aj = some ⟨g, 0, none⟩ ∧ ∀ k, k < n → W.cell? ⟨g, k, none⟩ = some (xx i))) := fun W p => by rw [hnE]; exact hcB.out W p i hi
              rw [← hnE] at nn
              clear hnE
              obtain ⟨ex, m1, m2⟩ := nums_m i (by omega)
              rw [ex] at FA FB
              clear ex
              go_wp2_with fail
              go_loopw [10] (fun v10 wx => ∃ (k : Nat), v10 = .int .i64 (k : Int) ∧ k ≤ n + 20 ∧ Hid (P2 w N C m V (.slice ah m ch) Lf S0 m A (.slice aa m ca) wx)) (fun v10 _ => n + 20 - (intOf v10).toNat)
              case atStart => exact ⟨0, rfl, Nat.zero_le _, hP⟩
              case round =>
                clear hP
                obtain ⟨k, rfl, hkl, hP⟩ := hrel
                obtain ⟨ga, aj, cj, rfl, e1, g, rfl, e2⟩ := FA.out wr hP.out
                by_cases hk : k < n + 20
                · obtain ⟨k0, kI, kw⟩ := nums_t k (n + 20) hk (by omega)
                  have e3 := e2 k hk
                  clear e2
                  go_wp2_with fail
                  exact ⟨⟨k + 1, by first | rfl | go_num, by omega, hP⟩, by first | (simp [intOf]; done) | (simp [intOf]; omega)⟩
                · have hlt3 : ¬ (k : Int) < ((n + 20 : Nat) : Int) := by omega
                  clear e2
                  go_wp2_with fail
                  clear e1
                  go_loopw [12] (fun v12 wx => ∃ (q : Nat), v12 = .int .i64 (q : Int) ∧ q ≤ n ∧ Hid (P2 w N C m V (.slice ah m ch) Lf S0 m A (.slice (some ⟨ga, 0, none⟩) m ca) wx)) (fun v12 _ => n - (intOf v12).toNat)
                  case atStart => exact ⟨0, rfl, Nat.zero_le _, hP⟩
                  case round =>
                    clear hP
                    obtain ⟨q, rfl, hql, hP⟩ := hrel
                    obtain ⟨hb, aj2, cj2, rfl, e0, e1, e2⟩ := FB.out wr hP.out
                    by_cases hq : q < n
                    · obtain ⟨q0, qI, qw⟩ := nums_t q n hq (by omega)
                      obtain ⟨g2, rfl, e5⟩ := e2 (by omega)
                      have e3 := e5 q hq
                      clear e2 e5
                      go_wp2_with fail
                      exact ⟨⟨q + 1, by first | rfl | go_num, hq, hP⟩, by first | (simp [intOf]; done) | (simp [intOf]; omega)⟩
                    · have hlt4 : ¬ (q : Int) < (n : Int) := by omega
                      clear e2
                      go_wp2_with fail
                      exact ⟨⟨i + 1, by first | rfl | go_num, hi, hP⟩, by first | (simp [intOf]; done) | (simp [intOf]; omega)⟩
            · have hlt5 : ¬ (i : Int) < (m : Int) := by omega
              have fin : Hid (BF V m w wr) := hP.out.st.bf
              clear hP
              go_wp2_with fail
              go_ret
              exact ⟨rfl, fin.out⟩
end Go.Proofs.YtfijagdbdbbbpaaDoor.Bk3


namespace Go.Proofs.YtfijagdbdbbbpaaDoor.Bk7
open Go.RowKit
set_option linter.unusedVariables false
set_option linter.unusedSimpArgs false
set_option maxRecDepth 100000
theorem below_trans {w w1 w2 : World} {n : Nat} (h : Below n w w1) (k : Below n w1 w2) : Below n w w2 := ⟨k.os.trans h.os, k.tape.trans h.tape, k.output.trans h.output, Nat.le_trans h.size k.size, fun j hj => (k.block j hj).trans (h.block j hj)⟩
theorem below_less {w w1 : World} {n m : Nat} (h : Below n w w1) (hm : m ≤ n) : Below m w w1 := ⟨h.os, h.tape, h.output, h.size, fun j hj => h.block j (by omega)⟩
theorem add_lt0 (b o j : Nat) : (⟨b, o, none⟩ : Addr).add j = ⟨b, o + j, none⟩ := by
  simp [Addr.add]
abbrev E3 := Value × Value × Value
def enc : List E3 → List Value
  | [] => []
  | t :: r => [t.1, t.2.1, t.2.2] ++ enc r
theorem enc_append (a b : List E3) : enc (a ++ b) = enc a ++ enc b := by
  induction a with
  | nil => rfl
  | cons s r ih => simp [enc, ih]
theorem enc_len (l : List E3) : (enc l).length = l.length * 3 := by
  induction l with
  | nil => rfl
  | cons s r ih => simp only [enc, List.length_append, ih, List.length_cons, List.length_nil]; omega
theorem enc_get (l : List E3) (i : Nat) (s : E3) (h : l[i]? = some s) : (enc l)[i * 3]? = some s.1 ∧ (enc l)[i * 3 + 1]? = some s.2.1 ∧ (enc l)[i * 3 + 2]? = some s.2.2 := by
  induction l generalizing i with
  | nil => simp at h
  | cons a r ih =>
    cases i with
    | zero => simp at h; subst h; simp [enc]
    | succ i =>
      simp at h
      have := ih i h
      simp only [enc, List.cons_append, List.nil_append]
      rw [show (i + 1) * 3 = i * 3 + 3 by omega]
      exact this
theorem enc_put (l : List E3) (i : Nat) (e : E3) (hi : i < l.length) : (((enc l).set (i * 3) e.1).set (i * 3 + 1) e.2.1).set (i * 3 + 2) e.2.2 = enc (l.set i e) := by
  induction l generalizing i with
  | nil => simp at hi
  | cons a r ih =>
    cases i with
    | zero => simp [enc]
    | succ i =>
      have := ih i (by simpa using hi)
      simp only [enc, List.set_cons_succ]
      rw [show (i + 1) * 3 = i * 3 + 3 by omega]
      simpa using this
/-- the mark of a number. -/
def xx (i : Nat) : E3 := (.int .i64 (-7 - (i : Int)), .int .u8 0, .int .i64 0)
theorem el_info : (Tryd.prog.info? 59).map (fun i => (i.zero, i.bytes, i.size)) = some (some (.agg #[.int .i64 0, .int .u8 0, .int .i64 0]), 24, 3) := by kernel_rfl
theorem news1 {W : World} {K : Nat} {x : E3} (hx : W.cell? ⟨K, 0, none⟩ = some x.1 ∧ W.cell? ⟨K, 1, none⟩ = some x.2.1 ∧ W.cell? ⟨K, 2, none⟩ = some x.2.2) : ∀ j u, (enc [x])[j]? = some u → W.cell? ((⟨K, 0, none⟩ : Addr).add j) = some u := fun j u hj => by
  rcases j with _ | _ | _ | j
  · simp [enc] at hj; subst hj; rw [add_lt0]; exact hx.1
  · simp [enc] at hj; subst hj; rw [add_lt0]; exact hx.2.1
  · simp [enc] at hj; subst hj; rw [add_lt0]; exact hx.2.2
  · simp [enc] at hj
/-- a row of one's own. -/
def OE (w : World) (B : Nat) (v : Value) (l : List E3) : Prop := w.ownsRow B 59 3 v l.length (enc l)
theorem OE.below {w w' : World} {B C : Nat} {v : Value} {l : List E3} (h : OE w B v l) (hb : Below C w w') (hC : w.heap.size ≤ C) : OE w' B v l := by
  refine ⟨h.1, ?_⟩
  rcases h.2 with h2 | ⟨g, cap, cur, e1, e2, e3, e4⟩
  · exact Or.inl h2
  · exact Or.inr ⟨g, cap, cur, e1, e2, by rw [hb.block g (Nat.lt_of_lt_of_le (Array.getElem?_eq_some_iff.1 e3).1 hC)]; exact e3, e4⟩
theorem OE.bound {w : World} {B : Nat} {v : Value} {l : List E3} (h : OE w B v l) {k : Nat} (e : v.ownBlock = some k) : B ≤ k ∧ k < w.heap.size := World.ownsRow.lt h k e
def rep (Lf : Nat → List E3) (j : Nat) : List E3 := List.replicate (Lf j).length (xx j)
def rep2 (Lf : Nat → List E3) (j k : Nat) : List E3 := List.replicate ((Lf j).length + k) (xx j)
theorem rep2_succ (Lf : Nat → List E3) (j k : Nat) : rep2 Lf j (k + 1) = rep2 Lf j k ++ [xx j] := by unfold rep2; rw [← Nat.add_assoc, List.replicate_succ']
theorem rep2_zero (Lf : Nat → List E3) (j : Nat) : rep2 Lf j 0 = rep Lf j := rfl
theorem get_rep (n : Nat) (x : E3) {i : Nat} (h : i < n) : (List.replicate n x)[i]? = some x := by simp [List.getElem?_replicate, h]
/-- while the rows are written over. -/
def L1 (Lf : Nat → List E3) (i k j : Nat) : List E3 := if j < i then rep Lf j else if j = i then List.replicate k (xx j) ++ (Lf j).drop k else Lf j
theorem L1_start (Lf : Nat → List E3) (j : Nat) : L1 Lf 0 0 j = Lf j := by
  unfold L1
  rw [if_neg (by omega)]
  split
  · simp
  · rfl
theorem L1_next (Lf : Nat → List E3) (i j : Nat) : L1 Lf i (Lf i).length j = L1 Lf (i + 1) 0 j := by
  unfold L1
  by_cases h1 : j < i
  · rw [if_pos h1, if_pos (by omega)]
  · rw [if_neg h1]
    by_cases h2 : j = i
    · subst h2; rw [if_pos rfl, if_pos (by omega)]; simp [rep]
    · rw [if_neg h2, if_neg (by omega)]
      split
      · simp
      · rfl
theorem L1_len (Lf : Nat → List E3) {i k : Nat} (h : k ≤ (Lf i).length) (j : Nat) : (L1 Lf i k j).length = (Lf j).length := by
  unfold L1
  split
  · simp [rep]
  · split
    · rename_i e; subst e; simp; omega
    · rfl
theorem L1_set (Lf : Nat → List E3) {i k : Nat} (h : k < (Lf i).length) : (L1 Lf i k i).set k (xx i) = L1 Lf i (k + 1) i := by
  unfold L1
  rw [if_neg (by omega), if_pos rfl, if_neg (by omega), if_pos rfl]
  rw [List.set_append_right _ _ (by simp)]
  simp only [List.length_replicate, Nat.sub_self]
  rw [List.drop_eq_getElem_cons h, List.set_cons_zero, List.replicate_succ']
  simp
theorem L1_other (Lf : Nat → List E3) {i k j : Nat} (h : j ≠ i) : L1 Lf i (k + 1) j = L1 Lf i k j := by
  unfold L1
  rw [if_neg h, if_neg h]
theorem L1_end (Lf : Nat → List E3) {m j : Nat} (h : j < m) : L1 Lf m 0 j = rep Lf j := by unfold L1; rw [if_pos h]
theorem OE.formO {w : World} {B : Nat} {v : Value} {l : List E3} (h : OE w B v l) : ∃ a c, v = .slice a l.length c ∧ l.length ≤ c ∧ (0 < l.length → ∃ g, a = some ⟨g, 0, none⟩) := by
  rcases h.2 with ⟨e, e0⟩ | ⟨g, cap, cur, e1, _, _, hc, _⟩
  · exact ⟨none, 0, by rw [e, e0], by omega, fun q => by omega⟩
  · exact ⟨_, cap, e1, hc, fun _ => ⟨g, rfl⟩⟩
/-! headers -/
def hdr (V : Nat → Value) (m : Nat) : List Value := (List.range m).map V
theorem hdr_len (V : Nat → Value) (m : Nat) : (hdr V m).length = m := by simp [hdr]
theorem hdr_get (V : Nat → Value) {i m : Nat} (h : i < m) : (hdr V m)[i]? = some (V i) := by simp [hdr, h]
theorem hdr_snoc (V : Nat → Value) (m : Nat) (g : Value) : hdr (fun j => if j = m then g else V j) (m + 1) = hdr V m ++ [g] := by
  unfold hdr
  rw [List.range_succ, List.map_append]
  congr 1
  · apply List.map_congr_left
    intro j hj
    have := List.mem_range.1 hj
    rw [if_neg (by omega)]
  · simp
abbrev HRw (w : World) (B : Nat) (v : Value) (m : Nat) (V : Nat → Value) : Prop := w.ownsRow B 22 1 v m (hdr V m)
theorem HRw.form {w : World} {B m : Nat} {v : Value} {V : Nat → Value} (h : HRw w B v m V) : ∃ a c, v = .slice a m c ∧ (0 < m → ∃ g, a = some ⟨g, 0, none⟩ ∧ v.ownBlock = some g ∧ ∀ i, i < m → w.cell? ⟨g, i, none⟩ = some (V i)) := by
  rcases h.2 with ⟨e, e0⟩ | ⟨g, cap, cur, e1, _⟩
  · exact ⟨none, 0, by rw [e, e0], fun q => by omega⟩
  · refine ⟨some ⟨g, 0, none⟩, cap, e1, fun _ => ⟨g, rfl, by rw [e1]; rfl, fun i hi => ?_⟩⟩
    have := World.ownsRow.cells h (g := g) (by rw [e1]; rfl) i (V i) (hdr_get V hi)
    rw [add_lt0, Nat.zero_add] at this
    exact this
theorem en_info2 : (Tryd.prog.info? 22).map (fun i => (i.zero, i.bytes, i.size)) = some (some (.slice none 0 0), 24, 1) := by kernel_rfl
/-! what is left as it was -/
structure BF (V : Nat → Value) (m : Nat) (w w' : World) : Prop where
  size : w.heap.size ≤ w'.heap.size
  keep : ∀ k, k < w.heap.size → (∀ i, i < m → (V i).ownBlock ≠ some k) → w'.heap[k]? = w.heap[k]?
  same : w'.os = w.os ∧ w'.tape = w.tape ∧ w'.output = w.output
theorem BF.refl (V : Nat → Value) (m : Nat) (w : World) : BF V m w w := ⟨Nat.le_refl _, fun _ _ _ => rfl, rfl, rfl, rfl⟩
theorem BF.step {V : Nat → Value} {m : Nat} {w w1 w2 : World} {o : Option Nat} (h : BF V m w w1) (g : w1.grownBy w2 o) (ho : ∀ k, o = some k → k < w.heap.size → ∃ i, i < m ∧ (V i).ownBlock = some k) : BF V m w w2 :=
  ⟨Nat.le_trans h.size g.size, fun k hk q => by
    rw [g.block k (Nat.lt_of_lt_of_le hk h.size) (fun e => by
      obtain ⟨i, hi, e2⟩ := ho k e.symm hk
      exact q i hi e2)]
    exact h.keep k hk q, g.os.trans h.same.1, g.tape.trans h.same.2.1, g.output.trans h.same.2.2⟩
theorem BF.below {V : Nat → Value} {m : Nat} {w w1 w2 : World} (h : BF V m w w1) (b : Below w1.heap.size w1 w2) : BF V m w w2 :=
  ⟨Nat.le_trans h.size b.size, fun k hk q => by rw [b.block k (Nat.lt_of_lt_of_le hk h.size)]; exact h.keep k hk q, b.os.trans h.same.1, b.tape.trans h.same.2.1, b.output.trans h.same.2.2⟩
/-- where the book and its rows lie. -/
structure SPV (w0 : World) (N C m : Nat) (V : Nat → Value) (hv : Value) : Prop where
  nC : N < C
  nw : N < w0.heap.size
  cw : C ≤ w0.heap.size
  vb : ∀ i, i < m → ∀ k, (V i).ownBlock = some k → C ≤ k ∧ k < w0.heap.size
  hb : ∀ k, hv.ownBlock = some k → C ≤ k ∧ k < w0.heap.size
  dis : ∀ i j, i < m → j < m → i ≠ j → ∀ k, (V i).ownBlock = some k → (V j).ownBlock ≠ some k
  hd : ∀ i, i < m → ∀ k, (V i).ownBlock = some k → hv.ownBlock ≠ some k
/-- the book's headers and rows. -/
structure AS (w0 : World) (N C m : Nat) (V : Nat → Value) (hv : Value) (G : Nat → List E3) (wr : World) : Prop where
  cF : wr.cell? ⟨N, 7, none⟩ = some hv
  hr : HRw wr C hv m V
  rows : ∀ j, j < m → OE wr C (V j) (G j)
  bf : BF V m w0 wr
theorem HRw.below {w w' : World} {B C m : Nat} {v : Value} {V : Nat → Value} (h : HRw w B v m V) (hb : Below C w w') (hC : w.heap.size ≤ C) : HRw w' B v m V := by
  refine ⟨h.1, ?_⟩
  rcases h.2 with h2 | ⟨g, cap, cur, e1, e2, e3, e4⟩
  · exact Or.inl h2
  · exact Or.inr ⟨g, cap, cur, e1, e2, by rw [hb.block g (Nat.lt_of_lt_of_le (Array.getElem?_eq_some_iff.1 e3).1 hC)]; exact e3, e4⟩
theorem AS.below {w0 wr w' : World} {N C m : Nat} {V : Nat → Value} {hv : Value} {G : Nat → List E3} (h : AS w0 N C m V hv G wr) (s : SPV w0 N C m V hv) (hb : Below wr.heap.size wr w') : AS w0 N C m V hv G w' :=
  ⟨by rw [hb.cell (p := ⟨N, 7, none⟩) (Nat.lt_of_lt_of_le s.nw h.bf.size)]; exact h.cF, h.hr.below hb (Nat.le_refl _), fun j hj => (h.rows j hj).below hb (Nat.le_refl _), h.bf.below hb⟩
/-- a row of the book written: the others stay. -/
theorem AS.put {w0 wr : World} {N C m i k g n cap : Nat} {V : Nat → Value} {hv : Value} {G G' : Nat → List E3} (h : AS w0 N C m V hv G wr) (s : SPV w0 N C m V hv) (hi : i < m) (hV : V i = .slice (some ⟨g, 0, none⟩) n cap) (hk : k < (G i).length) (x : E3) (hG : G' i = (G i).set k x) (hG2 : ∀ j, j < m → j ≠ i → G' j = G j) :
    AS w0 N C m V hv G' (((wr.setCell ⟨g, k * 3, none⟩ x.1).setCell ⟨g, k * 3 + 1, none⟩ x.2.1).setCell ⟨g, k * 3 + 2, none⟩ x.2.2) := by
  have o := h.rows i hi
  have hV2 : (V i).ownBlock = some g := by rw [hV]; rfl
  rw [hV] at o
  obtain ⟨_, _, e1, _⟩ := o.formO
  injection e1 with _ e2 _
  subst e2
  have t0 := World.ownsRow.stored o (k * 3) x.1
  have t1 := World.ownsRow.stored t0.1 (k * 3 + 1) x.2.1
  have t2 := World.ownsRow.stored t1.1 (k * 3 + 2) x.2.2
  rw [enc_put (G i) k x hk] at t2
  have gg : wr.grownBy (((wr.setCell ⟨g, k * 3, none⟩ x.1).setCell ⟨g, k * 3 + 1, none⟩ x.2.1).setCell ⟨g, k * 3 + 2, none⟩ x.2.2) (some g) := ⟨rfl, rfl, rfl, by simp, fun j hj q => by rw [t2.2.block j (by simp; exact hj) q, t1.2.block j (by simp; exact hj) q]; exact t0.2.block j hj q⟩
  have gN : N ≠ g := by have := (s.vb i hi g hV2).1; have := s.nC; omega
  refine ⟨?_, World.ownsRow.kept h.hr gg (Or.inr (s.hd i hi g hV2)), fun j hj => ?_, h.bf.step gg (fun q e _ => ⟨i, hi, by rw [hV2]; exact e⟩)⟩
  · rw [World.cell?_of_block (w := wr) (a := ⟨N, 7, none⟩) (gg.block N (Nat.lt_of_lt_of_le s.nw h.bf.size) (fun e => gN (by injection e)))]
    exact h.cF
  · by_cases c : j = i
    · subst c
      rw [hG, hV]
      unfold OE
      rw [List.length_set]
      exact t2.1
    · rw [hG2 j hj c]
      exact World.ownsRow.kept (h.rows j hj) gg (Or.inr (fun e => s.dis i j hi hj (fun q => c q.symm) g hV2 e))
/-- while the rows are grown: those behind it are in A, told by av. -/
structure P2 (w0 : World) (N C m : Nat) (V : Nat → Value) (hv : Value) (Lf : Nat → List E3) (S0 i : Nat) (A : Nat → Value) (av : Value) (wr : World) : Prop where
  st : AS w0 N C m V hv (rep Lf) wr
  alls : ∀ j, j < i → OE wr C (A j) (rep2 Lf j 20)
  ab : ∀ j, j < i → ∀ k, (A j).ownBlock = some k → (V j).ownBlock = some k ∨ S0 ≤ k
  ar : HRw wr S0 av i A
  aA : ∀ j, j < i → ∀ k, (A j).ownBlock = some k → av.ownBlock ≠ some k
  s0 : S0 ≤ wr.heap.size
  w0 : w0.heap.size ≤ S0
theorem P2.below {w0 wr w' : World} {N C m S0 i : Nat} {V A : Nat → Value} {hv av : Value} {Lf : Nat → List E3} (h : P2 w0 N C m V hv Lf S0 i A av wr) (s : SPV w0 N C m V hv) (hb : Below wr.heap.size wr w') : P2 w0 N C m V hv Lf S0 i A av w' :=
  ⟨h.st.below s hb, fun j hj => (h.alls j hj).below hb (Nat.le_refl _), h.ab, h.ar.below hb (Nat.le_refl _), h.aA, Nat.le_trans h.s0 hb.size, h.w0⟩
/-- the one in hand. -/
structure PG (w0 : World) (N C m : Nat) (V : Nat → Value) (hv : Value) (Lf : Nat → List E3) (S0 i : Nat) (A : Nat → Value) (av : Value) (E k : Nat) (g : Value) (wr : World) : Prop where
  p : P2 w0 N C m V hv Lf S0 i A av wr
  go : OE wr C g (rep2 Lf i k)
  gb : ∀ q, g.ownBlock = some q → (V i).ownBlock = some q ∨ E ≤ q
  aE : ∀ j, j < i → ∀ q, (A j).ownBlock = some q → q < E
  vE : ∀ q, av.ownBlock = some q → S0 ≤ q ∧ q < E
  sE : S0 ≤ E
  Ew : E ≤ wr.heap.size
theorem PG.below {w0 wr w' : World} {N C m S0 i E k : Nat} {V A : Nat → Value} {hv av g : Value} {Lf : Nat → List E3} (h : PG w0 N C m V hv Lf S0 i A av E k g wr) (s : SPV w0 N C m V hv) (hb : Below wr.heap.size wr w') : PG w0 N C m V hv Lf S0 i A av E k g w' :=
  ⟨h.p.below s hb, h.go.below hb (Nat.le_refl _), h.gb, h.aE, h.vE, h.sE, Nat.le_trans h.Ew hb.size⟩
theorem PG.start {w0 wr : World} {N C m S0 i : Nat} {V A : Nat → Value} {hv av : Value} {Lf : Nat → List E3} (h : P2 w0 N C m V hv Lf S0 i A av wr) (hi : i < m) : PG w0 N C m V hv Lf S0 i A av wr.heap.size 0 (V i) wr :=
  ⟨h, by rw [rep2_zero]; exact h.st.rows i hi, fun q e => Or.inl e, fun j hj q e => ((h.alls j hj).bound e).2, fun q e => World.ownsRow.lt h.ar q e, h.s0, Nat.le_refl _⟩
theorem PG.grow {w0 wr : World} {N C m S0 i E k : Nat} {V A : Nat → Value} {hv av g : Value} {Lf : Nat → List E3} (h0 : PG w0 N C m V hv Lf S0 i A av E k g wr) (s : SPV w0 N C m V hv) (hi : i < m) (hn : (Lf i).length ≤ 268435456) (hk : k ≤ 20) :
    ∃ g' w', (Builtin.append_ #[22, 22] 22 #[g, .slice (some ⟨wr.heap.size, 0, none⟩) 1 1]).run Tryd.prog (wr.alloc (.cells #[(xx i).1, (xx i).2.1, (xx i).2.2] 59)) = .ok g' w' ∧ PG w0 N C m V hv Lf S0 i A av E (k + 1) g' w' := by
  obtain ⟨W, hW⟩ : ∃ W, W = wr.alloc (.cells #[(xx i).1, (xx i).2.1, (xx i).2.2] 59) := ⟨_, rfl⟩
  have bW : Below wr.heap.size wr W := by rw [hW]; exact (Below.refl _ wr).alloc (Nat.le_refl _) _
  have sW : W.heap.size = wr.heap.size + 1 := by rw [hW]; simp
  have hE : W.cell? ⟨wr.heap.size, 0, none⟩ = some (xx i).1 ∧ W.cell? ⟨wr.heap.size, 1, none⟩ = some (xx i).2.1 ∧ W.cell? ⟨wr.heap.size, 2, none⟩ = some (xx i).2.2 := by rw [hW]; refine ⟨?_, ?_, ?_⟩ <;> simp [go_sem]
  rw [← hW]
  have h := h0.below s bW
  obtain ⟨inf, i1, i0⟩ := Option.map_eq_some_iff.1 el_info
  have i2 : inf.zero = some (.agg #[.int .i64 0, .int .u8 0, .int .i64 0]) := congrArg (·.1) i0
  have i3 : inf.bytes = 24 := congrArg (·.2.1) i0
  have i4 : inf.size = 3 := congrArg (·.2.2) i0
  have hml : maxLen = 9223372036854775807 := by decide
  have lg : (rep2 Lf i k).length = (Lf i).length + k := by simp [rep2]
  have own : W.ownsRow C 59 inf.size g (rep2 Lf i k).length (enc (rep2 Lf i k)) := by rw [i4]; exact h.go
  have cw := s.cw
  have w0S := h.p.w0
  have sz := h.p.st.bf.size
  obtain ⟨g', w', hr, ho, hg, hb, hk'⟩ := append_keeps (P := Tryd.prog) W C 22 22 59 inf (.agg #[.int .i64 0, .int .u8 0, .int .i64 0]) Tryd.underlying22 i1 i2 (by rw [i4]; rfl) (by omega) g _ _ own ⟨wr.heap.size, 0, none⟩ 1 1 (enc [xx i]) (by rw [i4]; rfl) (news1 hE) (fun u hu => by simp [enc, xx] at hu; rcases hu with rfl | rfl | rfl <;> rfl) (by omega) (by rw [lg]; omega) (by rw [lg, i3]; omega) (by omega)
  rw [i4] at ho hk'
  have gC : ∀ q, g.ownBlock = some q → C ≤ q := fun q e => (h.go.bound e).1
  have gN : ∀ q, g.ownBlock = some q → q ≠ N := fun q e => by have := gC q e; have := s.nC; omega
  have gV : ∀ j, j < m → j ≠ i → ∀ q, g.ownBlock = some q → (V j).ownBlock ≠ some q := fun j hj hne q e e2 => by
    rcases h.gb q e with c | c
    · exact s.dis i j hi hj (fun q => hne q.symm) q c e2
    · have := (s.vb j hj q e2).2; have := h.sE; omega
  have gH : ∀ q, g.ownBlock = some q → hv.ownBlock ≠ some q := fun q e e2 => by
    rcases h.gb q e with c | c
    · exact s.hd i hi q c e2
    · have := (s.hb q e2).2; have := h.sE; omega
  have gA : ∀ j, j < i → ∀ q, g.ownBlock = some q → (A j).ownBlock ≠ some q := fun j hj q e e2 => by
    have lt := h.aE j hj q e2
    rcases h.gb q e with c | c
    · rcases h.p.ab j hj q e2 with d | d
      · exact s.dis i j hi (by omega) (by omega) q c d
      · have := (s.vb i hi q c).2; omega
    · omega
  have gv : ∀ q, g.ownBlock = some q → av.ownBlock ≠ some q := fun q e e2 => by
    obtain ⟨q1, q2⟩ := h.vE q e2
    rcases h.gb q e with c | c
    · have := (s.vb i hi q c).2; omega
    · omega
  have oth : ∀ (v : Value), (∀ q, g.ownBlock = some q → v.ownBlock ≠ some q) → v.ownBlock = none ∨ v.ownBlock ≠ g.ownBlock := fun v hq => by
    cases hv0 : v.ownBlock with
    | none => exact Or.inl rfl
    | some k => exact Or.inr (fun e => hq k e.symm hv0)
  refine ⟨g', w', hr, ⟨⟨⟨?_, World.ownsRow.kept h.p.st.hr hg (oth hv gH), fun j hj => ?_, h.p.st.bf.step hg (fun q e hq => ?_)⟩, fun j hj => ?_, h.p.ab, World.ownsRow.kept h.p.ar hg (oth av gv), h.p.aA, Nat.le_trans h.p.s0 hg.size, h.p.w0⟩, ?_, fun q e => ?_, h.aE, h.vE, h.sE, Nat.le_trans h.Ew hg.size⟩⟩
  · rw [World.cell?_of_block (w := W) (a := ⟨N, 7, none⟩) (hg.block N (by have := s.nw; omega) (fun e => gN N e.symm rfl))]
    exact h.p.st.cF
  · refine hk' C (V j) _ _ (h.p.st.rows j hj) (fun e => ?_)
    by_cases c : j = i
    · subst c; rw [lg]; simp [rep]
    · cases hg0 : g.ownBlock with
      | some q => exact absurd (by rw [e, hg0]) (gV j hj c q hg0)
      | none =>
        have hz : (rep Lf j).length = 0 := by
          rcases (h.p.st.rows j hj).2 with ⟨_, z⟩ | ⟨_, _, _, z, _⟩
          · exact z
          · rw [z, hg0] at e; cases e
        omega
  · rcases h.gb q e with c | c
    · exact ⟨i, hi, c⟩
    · have := h.sE; omega
  · refine hk' C (A j) _ _ (h.p.alls j hj) (fun e => ?_)
    cases hg0 : g.ownBlock with
    | some q => exact absurd (by rw [e, hg0]) (gA j hj q hg0)
    | none =>
      have hz : (rep2 Lf j 20).length = 0 := by
        rcases (h.p.alls j hj).2 with ⟨_, z⟩ | ⟨_, _, _, z, _⟩
        · exact z
        · rw [z, hg0] at e; cases e
      omega
  · rw [rep2_succ]
    unfold OE
    rw [List.length_append, enc_append]
    exact ho
  · rcases hb with c | c
    · exact h.gb q (by rw [← c]; exact e)
    · rw [c] at e; injection e with e; have := h.Ew; exact Or.inr (by omega)
/-- the grown one behind the others. -/
theorem PG.next {w0 wr : World} {N C m S0 i E : Nat} {V A : Nat → Value} {hv av g : Value} {Lf : Nat → List E3} (h0 : PG w0 N C m V hv Lf S0 i A av E 20 g wr) (s : SPV w0 N C m V hv) (hi : i < m) (hm : m ≤ 4194304) :
    ∃ av' w', (Builtin.append_ #[30, 30] 30 #[av, .slice (some ⟨wr.heap.size, 0, none⟩) 1 1]).run Tryd.prog (wr.alloc (.cells #[g] 22)) = .ok av' w' ∧ P2 w0 N C m V hv Lf S0 (i + 1) (fun j => if j = i then g else A j) av' w' := by
  obtain ⟨W, hW⟩ : ∃ W, W = wr.alloc (.cells #[g] 22) := ⟨_, rfl⟩
  have bW : Below wr.heap.size wr W := by rw [hW]; exact (Below.refl _ wr).alloc (Nat.le_refl _) _
  have sW : W.heap.size = wr.heap.size + 1 := by rw [hW]; simp
  have hc : W.cell? ⟨wr.heap.size, 0, none⟩ = some g := by rw [hW]; simp [go_sem]
  rw [← hW]
  have h := h0.below s bW
  obtain ⟨inf, i1, i0⟩ := Option.map_eq_some_iff.1 en_info2
  have i2 : inf.zero = some (.slice none 0 0) := congrArg (·.1) i0
  have i3 : inf.bytes = 24 := congrArg (·.2.1) i0
  have i4 : inf.size = 1 := congrArg (·.2.2) i0
  have hml : maxLen = 9223372036854775807 := by decide
  have own : W.ownsRow S0 22 inf.size av i (hdr A i) := by rw [i4]; exact h.p.ar
  have cw := s.cw
  have g1 : g.oneCell' = true := by
    obtain ⟨a, c, e, _⟩ := h.go.formO
    rw [e]; rfl
  obtain ⟨av', w', hr, ho, hg, hb, _⟩ := append_keeps (P := Tryd.prog) W S0 30 30 22 inf (.slice none 0 0) Tryd.underlying30 i1 i2 (by rw [i4]; rfl) (by omega) av _ _ own ⟨wr.heap.size, 0, none⟩ 1 1 [g] (by rw [i4]; rfl) (fun j u hj => by
    have : j = 0 := by have := (List.getElem?_eq_some_iff.1 hj).1; simp at this; omega
    subst this
    simp at hj
    subst hj
    exact hc) (fun u hu => by simp at hu; subst hu; exact g1) (by omega) (by omega) (by rw [i3]; omega) h.p.s0
  rw [i4] at ho
  have w0S := h.p.w0
  have sz := h.p.st.bf.size
  have vS : ∀ q, av.ownBlock = some q → S0 ≤ q ∧ q < E := h.vE
  have oth : ∀ (v : Value), (∀ q, v.ownBlock = some q → av.ownBlock ≠ some q) → v.ownBlock = none ∨ v.ownBlock ≠ av.ownBlock := fun v hq => by
    cases hv0 : v.ownBlock with
    | none => exact Or.inl rfl
    | some k => exact Or.inr (fun e => hq k hv0 e.symm)
  have low : ∀ q, q < w0.heap.size → av.ownBlock ≠ some q := fun q hq e => by have := (vS q e).1; omega
  have gav : ∀ q, g.ownBlock = some q → av.ownBlock ≠ some q := fun q e e2 => by
    obtain ⟨q1, q2⟩ := vS q e2
    rcases h.gb q e with c | c
    · have := (s.vb i hi q c).2; omega
    · omega
  have gS : ∀ q, g.ownBlock = some q → (V i).ownBlock = some q ∨ S0 ≤ q := fun q e => by
    rcases h.gb q e with c | c
    · exact Or.inl c
    · exact Or.inr (Nat.le_trans h.sE c)
  refine ⟨av', w', hr, ⟨⟨?_, World.ownsRow.kept h.p.st.hr hg (oth hv fun q e => low q (s.hb q e).2), fun j hj => World.ownsRow.kept (h.p.st.rows j hj) hg (oth (V j) fun q e => low q (s.vb j hj q e).2), h.p.st.bf.step hg (fun q e hq => absurd e (low q hq))⟩, fun j hj => ?_, fun j hj k e => ?_, ?_, fun j hj k e => ?_, Nat.le_trans h.p.s0 hg.size, h.p.w0⟩⟩
  · rw [World.cell?_of_block (w := W) (a := ⟨N, 7, none⟩) (hg.block N (by have := s.nw; omega) (fun e => low N s.nw e.symm))]
    exact h.p.st.cF
  · by_cases c : j = i
    · subst c
      simp only [if_true]
      exact World.ownsRow.kept h.go hg (oth g gav)
    · rw [if_neg c]
      exact World.ownsRow.kept (h.p.alls j (by omega)) hg (oth (A j) fun q e => h.p.aA j (by omega) q e)
  · by_cases c : j = i
    · subst c
      simp only [if_true] at e
      exact gS k e
    · rw [if_neg c] at e
      exact h.p.ab j (by omega) k e
  · show w'.ownsRow S0 22 1 av' (i + 1) (hdr (fun j => if j = i then g else A j) (i + 1))
    rw [hdr_snoc]
    exact ho
  · rcases hb with q | q
    · rw [q]
      by_cases c : j = i
      · subst c; simp only [if_true] at e; exact gav k e
      · rw [if_neg c] at e; exact h.p.aA j (by omega) k e
    · rw [q]
      intro e2
      injection e2 with e2
      by_cases c : j = i
      · subst c; simp only [if_true] at e; have := (h.go.bound e).2; omega
      · rw [if_neg c] at e; have := ((h.p.alls j (by omega)).bound e).2; omega
/-- a book in memory: what it has taken. -/
structure BK (O : Nat → Value) (N C m : Nat) (V : Nat → Value) (hv : Value) (G : Nat → List E3) (w : World) : Prop where
  sp : SPV w N C m V hv
  st : AS w N C m V hv G w
  nil : ∀ j, j < 28 → j ≠ 7 → w.cell? ⟨N, j, none⟩ = some (O j)
  fz : ∀ j, w.frozen? ⟨N, j, none⟩ = false
theorem BK.below {O : Nat → Value} {N C m : Nat} {V : Nat → Value} {hv : Value} {G : Nat → List E3} {w w' : World} (h : BK O N C m V hv G w) (hb : Below w.heap.size w w') : BK O N C m V hv G w' := by
  have s := h.st.below h.sp hb
  have sz := hb.size
  refine ⟨⟨h.sp.nC, by have := h.sp.nw; omega, by have := h.sp.cw; omega, fun i hi k e => by have := h.sp.vb i hi k e; omega, fun k e => by have := h.sp.hb k e; omega, h.sp.dis, h.sp.hd⟩, ⟨s.cF, s.hr, s.rows, BF.refl _ _ _⟩, fun j hj hne => ?_, fun j => ?_⟩
  · rw [hb.cell (p := ⟨N, j, none⟩) h.sp.nw]; exact h.nil j hj hne
  · rw [hb.frozen (p := ⟨N, j, none⟩) h.sp.nw]; exact h.fz j
theorem BK.start (w : World) : BK (fun _ => .slice none 0 0) w.heap.size (w.heap.size + 1) 0 (fun _ => undef) (.slice none 0 0) (fun _ => []) (w.alloc (.cells (Array.replicate 28 (.slice none 0 0)) 52)) := by
  have c : ∀ j, j < 28 → (w.alloc (.cells (Array.replicate 28 (.slice none 0 0)) 52)).cell? ⟨w.heap.size, j, none⟩ = some (.slice none 0 0) := fun j hj => by
    rw [World.cell?_alloc_at _ _ _ _ rfl, Array.getElem?_replicate, if_pos hj]
  refine ⟨⟨by omega, by simp, by simp, fun i hi => by omega, fun k e => (by cases e), fun i j hi => by omega, fun i hi => by omega⟩, ⟨c 7 (by omega), ⟨rfl, Or.inl ⟨rfl, rfl⟩⟩, fun j hj => by omega, BF.refl _ _ _⟩, fun j hj _ => c j hj, fun j => World.frozen?_alloc_at _ _ _ _ rfl⟩
/-- what a Take leaves. -/
def FRB (N : Nat) (w : World) (hv hv' : Value) (w' : World) : Prop := w.heap.size ≤ w'.heap.size ∧ (∀ k, k < w.heap.size → k ≠ N → hv.ownBlock ≠ some k → w'.heap[k]? = w.heap[k]?) ∧ ∀ k, hv'.ownBlock = some k → hv.ownBlock = some k ∨ w.heap.size ≤ k
/-- a list kept. -/
theorem BK.take {O : Nat → Value} {N C m : Nat} {V : Nat → Value} {hv : Value} {G : Nat → List E3} {w : World} {B : Nat} {v : Value} {l : List E3} (h0 : BK O N C m V hv G w) (o0 : OE w B v l) (hB : ∀ k, v.ownBlock = some k → C ≤ k ∧ hv.ownBlock ≠ some k ∧ ∀ j, j < m → (V j).ownBlock ≠ some k) (hm : m ≤ 4194304) :
    ∃ hv' w', (Builtin.append_ #[30, 30] 30 #[hv, .slice (some ⟨w.heap.size, 0, none⟩) 1 1]).run Tryd.prog (w.alloc (.cells #[v] 22)) = .ok hv' w' ∧ w'.cell? ⟨N, 7, none⟩ = some hv ∧ w'.frozen? ⟨N, 7, none⟩ = false ∧ BK O N C (m + 1) (fun j => if j = m then v else V j) hv' (fun j => if j = m then l else G j) (w'.setCell ⟨N, 7, none⟩ hv') ∧ Below N w (w'.setCell ⟨N, 7, none⟩ hv') ∧ FRB N w hv hv' (w'.setCell ⟨N, 7, none⟩ hv') := by
  obtain ⟨W, hW⟩ : ∃ W, W = w.alloc (.cells #[v] 22) := ⟨_, rfl⟩
  have bW : Below w.heap.size w W := by rw [hW]; exact (Below.refl _ w).alloc (Nat.le_refl _) _
  have sW : W.heap.size = w.heap.size + 1 := by rw [hW]; simp
  have hc : W.cell? ⟨w.heap.size, 0, none⟩ = some v := by rw [hW]; simp [go_sem]
  rw [← hW]
  have h := h0.below bW
  have o := o0.below bW (Nat.le_refl _)
  have vlt : ∀ k, v.ownBlock = some k → k < w.heap.size := fun k e => (o0.bound e).2
  have hlt0 : ∀ k, hv.ownBlock = some k → k < w.heap.size := fun k e => (h0.sp.hb k e).2
  have nw0 := h0.sp.nw
  obtain ⟨inf, i1, i0⟩ := Option.map_eq_some_iff.1 en_info2
  have i2 : inf.zero = some (.slice none 0 0) := congrArg (·.1) i0
  have i3 : inf.bytes = 24 := congrArg (·.2.1) i0
  have i4 : inf.size = 1 := congrArg (·.2.2) i0
  have hml : maxLen = 9223372036854775807 := by decide
  have own : W.ownsRow C 22 inf.size hv m (hdr V m) := by rw [i4]; exact h.st.hr
  have v1 : v.oneCell' = true := by
    obtain ⟨a, c, e, _⟩ := o.formO
    rw [e]; rfl
  obtain ⟨hv', w', hr, ho, hg, hb, _⟩ := append_keeps (P := Tryd.prog) W C 30 30 22 inf (.slice none 0 0) Tryd.underlying30 i1 i2 (by rw [i4]; rfl) (by omega) hv _ _ own ⟨w.heap.size, 0, none⟩ 1 1 [v] (by rw [i4]; rfl) (fun j u hj => by
    have : j = 0 := by have := (List.getElem?_eq_some_iff.1 hj).1; simp at this; omega
    subst this
    simp at hj
    subst hj
    exact hc) (fun u hu => by simp at hu; subst hu; exact v1) (by omega) (by omega) (by rw [i3]; omega) h.sp.cw
  rw [i4, ← hdr_snoc] at ho
  have hN : hv.ownBlock ≠ some N := fun e => by have := (h.sp.hb N e).1; have := h.sp.nC; omega
  have kN : w'.heap[N]? = W.heap[N]? := hg.block N h.sp.nw (fun e => hN e.symm)
  have cN : ∀ j, w'.cell? ⟨N, j, none⟩ = W.cell? ⟨N, j, none⟩ := fun j => World.cell?_of_block (w := W) (a := ⟨N, j, none⟩) kN
  have zN : ∀ j, w'.frozen? ⟨N, j, none⟩ = W.frozen? ⟨N, j, none⟩ := fun j => World.frozen?_of_block (w := W) (a := ⟨N, j, none⟩) kN
  have cF : w'.cell? ⟨N, 7, none⟩ = some hv := by rw [cN]; exact h.st.cF
  obtain ⟨W3, hW3⟩ : ∃ W3, W3 = w'.setCell ⟨N, 7, none⟩ hv' := ⟨_, rfl⟩
  have g3 : w'.grownBy W3 (some N) := by rw [hW3]; exact ⟨rfl, rfl, rfl, by simp, fun k hk q => Below.heap_setCell _ _ _ _ (fun e => q (by rw [e]))⟩
  have s3 : W3.heap.size = w'.heap.size := by rw [hW3]; simp
  have hvb : ∀ k, hv'.ownBlock = some k → C ≤ k ∧ k < W3.heap.size := fun k e => by rw [s3]; exact World.ownsRow.lt ho k e
  have hvn : ∀ k, hv'.ownBlock = some k → hv.ownBlock = some k ∨ k = W.heap.size := fun k e => by
    rcases hb with q | q
    · exact Or.inl (by rw [← q]; exact e)
    · rw [q] at e; injection e with e; exact Or.inr e.symm
  have cw := h.sp.cw
  have nC := h.sp.nC
  have sz := hg.size
  have oth : ∀ (u : Value), (∀ q, u.ownBlock = some q → hv.ownBlock ≠ some q) → u.ownBlock = none ∨ u.ownBlock ≠ hv.ownBlock := fun u hq => by
    cases hv0 : u.ownBlock with
    | none => exact Or.inl rfl
    | some k => exact Or.inr (fun e => hq k hv0 e.symm)
  have rowK : ∀ (u : Value) (B' : Nat) (l' : List E3), OE W B' u l' → (∀ q, u.ownBlock = some q → C ≤ q ∧ hv.ownBlock ≠ some q) → OE W3 B' u l' := fun u B' l' hu hq => World.ownsRow.kept (World.ownsRow.kept hu hg (oth u fun q e => (hq q e).2)) g3 (by
    cases hv0 : u.ownBlock with
    | none => exact Or.inl rfl
    | some k => exact Or.inr (fun e => by injection e with e; have := (hq k hv0).1; omega))
  have up : ∀ (u : Value) (B' : Nat) (l' : List E3), OE W3 B' u l' → (∀ q, u.ownBlock = some q → C ≤ q) → OE W3 C u l' := fun u B' l' hu hq => by
    refine ⟨hu.1, ?_⟩
    rcases hu.2 with h2 | ⟨g, cap, cur, e1, e2, e3⟩
    · exact Or.inl h2
    · exact Or.inr ⟨g, cap, cur, e1, hq g (by rw [e1]; rfl), e3⟩
  refine ⟨hv', w', hr, cF, by rw [zN]; exact h.fz 7, ?_⟩
  rw [← hW3]
  refine ⟨⟨⟨nC, by have := h.sp.nw; omega, by omega, fun i hi k e => ?_, hvb, fun i j hi hj hne k e e2 => ?_, fun i hi k e e2 => ?_⟩, ⟨?_, World.ownsRow.kept ho g3 (by
    cases hv0 : hv'.ownBlock with
    | none => exact Or.inl rfl
    | some k => exact Or.inr (fun e => by injection e with e; have := (hvb k hv0).1; omega)), fun j hj => ?_, BF.refl _ _ _⟩, fun j hj hne => ?_, fun j => ?_⟩, ?_, ?_⟩
  · by_cases c : i = m
    · simp only [if_pos c] at e; have := vlt k e; exact ⟨(hB k e).1, by omega⟩
    · simp only [if_neg c] at e; have := h0.sp.vb i (by omega) k e; omega
  · by_cases c : i = m
    · simp only [if_pos c] at e
      simp only [if_neg (show ¬ j = m by omega)] at e2
      exact (hB k e).2.2 j (by omega) e2
    · simp only [if_neg c] at e
      by_cases c2 : j = m
      · simp only [if_pos c2] at e2; exact (hB k e2).2.2 i (by omega) e
      · simp only [if_neg c2] at e2; exact h.sp.dis i j (by omega) (by omega) hne k e e2
  · by_cases c : i = m
    · simp only [if_pos c] at e
      rcases hvn k e2 with q | q
      · exact (hB k e).2.1 q
      · have := vlt k e; omega
    · simp only [if_neg c] at e
      rcases hvn k e2 with q | q
      · exact h.sp.hd i (by omega) k e q
      · have := (h0.sp.vb i (by omega) k e).2; omega
  · rw [hW3]; exact World.cell?_setCell_same _ _ _ cF
  · by_cases c : j = m
    · simp only [if_pos c]
      exact up v B l (rowK v B l o (fun q e => ⟨(hB q e).1, (hB q e).2.1⟩)) (fun q e => (hB q e).1)
    · simp only [if_neg c]
      exact rowK (V j) C _ (h.st.rows j (by omega)) (fun q e => ⟨(h.sp.vb j (by omega) q e).1, h.sp.hd j (by omega) q e⟩)
  · rw [hW3, World.cell?_setCell_other _ _ _ _ (by intro e; injection e; omega), cN]; exact h.nil j hj hne
  · rw [hW3, World.frozen?_setCell, zN]; exact h.fz j
  · have b1 : Below N w W := below_less bW (by omega)
    have b2 : Below N W w' := (Below.refl N W).grown hg (by omega) (fun k e => by have := (h.sp.hb k e).1; omega)
    have b3 : Below N w' W3 := (Below.refl N w').grown g3 (by omega) (fun k e => by injection e with e; omega)
    exact below_trans (below_trans b1 b2) b3
  · refine ⟨by omega, fun k hk hne hh => ?_, fun k e => ?_⟩
    · rw [g3.block k (by omega) (fun e => hne (by injection e)), hg.block k (by omega) (fun e => hh e.symm)]
      exact bW.block k hk
    · rcases hvn k e with q | q
      · exact Or.inl q
      · exact Or.inr (by omega)
end Go.Proofs.YtfijagdbdbbbpaaDoor.Bk7


namespace Go.Proofs.YtfijagdbdbbbpaaDoor.Bk7
open Go.RowKit
set_option linter.unusedVariables false
set_option linter.unusedSimpArgs false
set_option maxRecDepth 100000
theorem wpList_append_runB {P : Program} {ops : Array Oper} {rest : List Oper} {o : Oper} {a : Act} {Q : Exit → Act → World → Prop} {w : World} (hgd : o.guard = none) (s x : Operand) (t : TypeId)
    (ho : o.op = .call { callee := .builtin .append, args := #[s, x], argTypes := #[t, t] }) (v y v' : Value) (w' : World) (hs : a.eval s = v) (hx : a.eval x = y) (hr : (Builtin.append_ #[t, t] o.type #[v, y]).run P w = .ok v' w')
    (h : wpList P ops Q rest (a.put o.dst v') w') : wpList P ops Q (o :: rest) a w := by
  refine wpList_plain hgd fun K hK => ?_
  unfold Oper.wp execOp
  simp only [ho, resolve, invoke, builtin, Sem.run_bind, Sem.run_pure, Result.andThen_ok, List.map_toArray, List.map_cons, List.map_nil, hs, hx, hr]
  exact hK _ _ h
theorem nums_t (i n : Nat) (h : i < n) (hn : n ≤ 4398046511104) : (0 : Int) ≤ (i : Int) ∧ (i : Int) < (n : Int) ∧ IntKind.i64.wrap ((i : Int) + 1) = ((i + 1 : Nat) : Int) := ⟨by omega, by omega, IntWalk.i64_in _ (by omega)⟩
/-- a mark's number, as it is reckoned. -/
theorem nums_m (i : Nat) (h : i < 4398046511104) : xx i = (.int .i64 (-7 - (i : Int)), .int .u8 0, .int .i64 0) ∧ IntKind.i64.wrap (-7 - (i : Int)) = -7 - (i : Int) ∧ wrap64 (-7 - (i : Int)) = -7 - (i : Int) := ⟨rfl, IntWalk.i64_in _ (by omega), IntWalk.wrap64_in _ (by omega)⟩
set_option maxHeartbeats 32000000 in
theorem aloneSamples_any {w : World} {N C m : Nat} {V : Nat → Value} {hv : Value} {Lf : Nat → List E3} (sp : SPV w N C m V hv) (st : AS w N C m V hv Lf w) (hm : m ≤ 4194304) (hn : ∀ j, j < m → (Lf j).length ≤ 268435456) :
    Calls Tryd.prog 45 #[.pointer (some ⟨N, 0, none⟩)] w fun e w' => e = .returned (.bool true) ∧ BF V m w w' := by
  obtain ⟨ah, ch, rfl, hgh⟩ := st.hr.form
  have spH : Hid _ := sp
  have ghH : Hid (0 < m → ∃ hb, ah = some ⟨hb, 0, none⟩) := fun q => by
    obtain ⟨g, e, _⟩ := hgh q
    exact ⟨g, e⟩
  have hnH : Hid _ := hn
  have HC : Hid (∀ G W, AS w N C m V (.slice ah m ch) G W → ∀ hb, ah = some ⟨hb, 0, none⟩ → ∀ i, i < m → W.cell? ⟨hb, i, none⟩ = some (V i)) := fun G W s hb e i hi => by
    obtain ⟨a, c, e1, h2⟩ := s.hr.form
    obtain ⟨g, e3, _, h4⟩ := h2 (by omega)
    injection e1 with q1 _ _
    rw [← q1, e] at e3
    injection e3 with e3
    injection e3 with e3
    subst e3
    exact h4 i hi
  have st0 : Hid (AS w N C m V (.slice ah m ch) (L1 Lf 0 0) w) := ⟨st.cF, st.hr, fun j hj => by rw [L1_start]; exact st.rows j hj, st.bf⟩
  clear sp st hgh hn
  go_enter Tryd.func45, Tryd.ntmps45
  go_wp2_with fail
  go_loopw [3] (fun v3 wr => ∃ (i : Nat), v3 = .int .i64 (i : Int) ∧ i ≤ m ∧ Hid (AS w N C m V (.slice ah m ch) (L1 Lf i 0) wr)) (fun v3 _ => m - (intOf v3).toNat)
  case atStart => exact ⟨0, rfl, Nat.zero_le _, st0⟩
  case round =>
    clear st0
    obtain ⟨i, rfl, hil, hS⟩ := hrel
    have cF := hS.out.cF
    by_cases hi : i < m
    · obtain ⟨i0, iI, iw⟩ := nums_t i m hi (by omega)
      have nn := hnH.out i hi
      obtain ⟨n, hnE⟩ : ∃ n, n = (Lf i).length := ⟨_, rfl⟩
      rw [← hnE] at nn
      have o := hS.out.rows i hi
      obtain ⟨ai, ci, hVi, _, hgi⟩ := o.formO
      rw [L1_len Lf (Nat.zero_le _), ← hnE] at hVi hgi
      have VH : Hid (V i = .slice ai n ci) := hVi
      have LH : Hid (n = (Lf i).length) := hnE
      have giH : Hid (0 < n → ∃ g, ai = some ⟨g, 0, none⟩) := hgi
      obtain ⟨hb, rfl⟩ := ghH.out (by omega)
      clear o hVi hgi hnE
      go_wp2_with fail
      clear cF
      go_loopw [4] (fun v4 wx => ∃ (k : Nat), v4 = .int .i64 (k : Int) ∧ k ≤ n ∧ Hid (AS w N C m V (.slice (some ⟨hb, 0, none⟩) m ch) (L1 Lf i k) wx)) (fun v4 _ => n - (intOf v4).toNat)
      case atStart => exact ⟨0, rfl, Nat.zero_le _, hS⟩
      case round =>
        clear hS
        obtain ⟨k, rfl, hkl, hS⟩ := hrel
        have cF := hS.out.cF
        have hci := HC.out _ _ hS.out hb rfl i hi
        rw [VH.out] at hci
        by_cases hk : k < n
        · obtain ⟨k0, kI, kw⟩ := nums_t k n hk (by omega)
          obtain ⟨g, rfl⟩ := giH.out (by omega)
          obtain ⟨ex, m1, m2⟩ := nums_m i (by omega)
          obtain ⟨⟨y, d0, d1, d2⟩, z0, z1, z2, NX⟩ : (∃ y : E3, wr.cell? ⟨g, k * 3, none⟩ = some y.1 ∧ wr.cell? ⟨g, k * 3 + 1, none⟩ = some y.2.1 ∧ wr.cell? ⟨g, k * 3 + 2, none⟩ = some y.2.2) ∧ wr.frozen? ⟨g, k * 3, none⟩ = false ∧ wr.frozen? ⟨g, k * 3 + 1, none⟩ = false ∧ wr.frozen? ⟨g, k * 3 + 2, none⟩ = false ∧ Hid (AS w N C m V (.slice (some ⟨hb, 0, none⟩) m ch) (L1 Lf i (k + 1)) (((wr.setCell ⟨g, k * 3, none⟩ (.int .i64 (-7 - (i : Int)))).setCell ⟨g, k * 3 + 1, none⟩ (.int .u8 0)).setCell ⟨g, k * 3 + 2, none⟩ (.int .i64 0))) := by
            have s2 := hS.out
            have ll := L1_len Lf (i := i) (k := k) (by rw [← LH.out]; omega) i
            have o := s2.rows i hi
            rw [VH.out] at o
            have hcs := World.ownsRow.cells o (g := g) rfl
            have hk2 : k < (L1 Lf i k i).length := by rw [ll, ← LH.out]; exact hk
            obtain ⟨g1, g2, g3⟩ := enc_get _ k _ (List.getElem?_eq_getElem hk2)
            have k1 := hcs _ _ g1
            have k2 := hcs _ _ g2
            have k3 := hcs _ _ g3
            rw [add_lt0, Nat.zero_add] at k1 k2 k3
            have fz : ∀ q, wr.frozen? ⟨g, q, none⟩ = false := fun q => by
              obtain ⟨_, _, e3, _⟩ := o.formO
              injection e3 with _ e4 _
              rw [e4] at o
              exact World.ownsRow.frozenAt o q
            refine ⟨⟨_, k1, k2, k3⟩, fz _, fz _, fz _, ?_⟩
            have s3 := s2.put spH.out hi VH.out hk2 (xx i) (L1_set Lf (by rw [← LH.out]; exact hk)).symm (fun j hj q => L1_other Lf q)
            rw [ex] at s3
            exact s3
          clear hS ex
          go_wp2_with fail
          exact ⟨⟨k + 1, by first | rfl | go_num, hk, NX⟩, by first | (simp [intOf]; done) | (simp [intOf]; omega)⟩
        · have hlt : ¬ (k : Int) < (n : Int) := by omega
          have hS2 : Hid (AS w N C m V (.slice (some ⟨hb, 0, none⟩) m ch) (L1 Lf (i + 1) 0) wr) := by
            have s := hS.out
            have e : k = (Lf i).length := by have := LH.out; omega
            exact ⟨s.cF, s.hr, fun j hj => by have := s.rows j hj; rw [e, L1_next] at this; exact this, s.bf⟩
          clear hS
          go_wp2_with fail
          exact ⟨⟨i + 1, by first | rfl | go_num, hi, hS2⟩, by first | (simp [intOf]; done) | (simp [intOf]; omega)⟩
    · have hlt : ¬ (i : Int) < (m : Int) := by omega
      obtain ⟨S0, hS0⟩ : ∃ S0, S0 = wr.heap.size := ⟨_, rfl⟩
      have P0 : Hid (P2 w N C m V (.slice ah m ch) Lf S0 0 V (.slice none 0 0) wr) := by
        have s := hS.out
        have e : i = m := by omega
        refine ⟨⟨s.cF, s.hr, fun j hj => by have := s.rows j hj; rw [e, L1_end Lf hj] at this; exact this, s.bf⟩, fun j hj => by omega, fun j hj => by omega, ⟨rfl, Or.inl ⟨rfl, rfl⟩⟩, fun j hj => by omega, by omega, by rw [hS0]; exact s.bf.size⟩
      have lenV : Hid (∀ (W : World) (G : Nat → List E3), AS w N C m V (.slice ah m ch) G W → ∀ j, j < m → ∃ a c, V j = .slice a (G j).length c ∧ (0 < (G j).length → ∃ g, a = some ⟨g, 0, none⟩)) := fun W G s j hj => by
        obtain ⟨a, c, e, _, h⟩ := (s.rows j hj).formO
        exact ⟨a, c, e, h⟩
      clear hS hS0 hil hi
      go_wp2_with fail
      clear cF
      go_loopw [5, 6] (fun v5 v6 wx => ∃ (i : Nat) (A : Nat → Value), v6 = .int .i64 (i : Int) ∧ i ≤ m ∧ Hid (P2 w N C m V (.slice ah m ch) Lf S0 i A v5 wx)) (fun _ v6 _ => m - (intOf v6).toNat)
      case atStart => exact ⟨0, V, rfl, Nat.zero_le _, P0⟩
      case round =>
        clear P0
        obtain ⟨i, A, rfl, hil, hP⟩ := hrel
        obtain ⟨aa, ca, rfl, hga⟩ := hP.out.ar.form
        have cF := hP.out.st.cF
        by_cases hi : i < m
        · obtain ⟨i0, iI, iw⟩ := nums_t i m hi (by omega)
          have nn := hnH.out i hi
          obtain ⟨hb, rfl⟩ := ghH.out (by omega)
          have hci := HC.out _ _ hP.out.st hb rfl i hi
          obtain ⟨av, cv, hVi, _⟩ := lenV.out _ _ hP.out.st i hi
          have PG0 : Hid (PG w N C m V (.slice (some ⟨hb, 0, none⟩) m ch) Lf S0 i A (.slice aa i ca) wr.heap.size 0 (V i) wr) := PG.start hP.out hi
          rw [hVi] at hci PG0
          clear hP hVi hga
          generalize wr.heap.size = E at PG0
          go_wp2_with fail
          clear cF hci
          go_loopw [7, 8] (fun v7 v8 wx => ∃ (k : Nat), v8 = .int .i64 (k : Int) ∧ k ≤ 20 ∧ Hid (PG w N C m V (.slice (some ⟨hb, 0, none⟩) m ch) Lf S0 i A (.slice aa i ca) E k v7 wx)) (fun _ v8 _ => 20 - (intOf v8).toNat)
          case atStart => exact ⟨0, rfl, by omega, PG0⟩
          case round =>
            clear PG0
            obtain ⟨k, rfl, hkl, hG⟩ := hrel
            obtain ⟨ag, cg, rfl, _, _⟩ := hG.out.go.formO
            by_cases hk : k < 20
            · obtain ⟨k0, kI, kw⟩ := nums_t k 20 hk (by omega)
              have kI2 : (k : Int) < 20 := by omega
              obtain ⟨ex, m1, m2⟩ := nums_m i (by omega)
              obtain ⟨g', w4, hr, pg⟩ := hG.out.grow spH.out hi nn (by omega)
              rw [ex] at hr
              have hrH : Hid (∀ W, W = wr.alloc (.cells #[.int .i64 (-7 - (i : Int)), .int .u8 0, .int .i64 0] 59) → (Builtin.append_ #[22, 22] 22 #[.slice ag (rep2 Lf i k).length cg, .slice (some ⟨wr.heap.size, 0, none⟩) 1 1]).run Tryd.prog W = .ok g' w4) := fun W e => by subst e; exact hr
              have pgH : Hid _ := pg
              clear hG hr pg ex
              generalize (rep2 Lf i k).length = ng at *
              go_wp2_with (at_builtin; refine wpList_append_runB (by rfl) _ _ _ (by rfl) _ _ _ _ (by rfl) (by rfl) (hrH.out _ rfl) ?_)
              exact ⟨⟨k + 1, by first | rfl | go_num, by omega, pgH⟩, by first | (simp [intOf]; done) | (simp [intOf]; omega)⟩
            · have hke : k = 20 := by omega
              have hlt2 : ¬ (k : Int) < 20 := by omega
              have PN : Hid (∃ av' w', (Builtin.append_ #[30, 30] 30 #[.slice aa i ca, .slice (some ⟨wr.heap.size, 0, none⟩) 1 1]).run Tryd.prog (wr.alloc (.cells #[.slice ag (rep2 Lf i k).length cg] 22)) = .ok av' w' ∧ P2 w N C m V (.slice (some ⟨hb, 0, none⟩) m ch) Lf S0 (i + 1) (fun j => if j = i then .slice ag (rep2 Lf i k).length cg else A j) av' w') := by
                have := hG.out
                rw [hke] at this ⊢
                exact this.next spH.out hi hm
              obtain ⟨av', w5, hr, p2⟩ := PN.out
              have hrH : Hid (∀ W, W = wr.alloc (.cells #[.slice ag (rep2 Lf i k).length cg] 22) → (Builtin.append_ #[30, 30] 30 #[.slice aa i ca, .slice (some ⟨wr.heap.size, 0, none⟩) 1 1]).run Tryd.prog W = .ok av' w5) := fun W e => by subst e; exact hr
              have p2H : Hid (∃ A', P2 w N C m V (.slice (some ⟨hb, 0, none⟩) m ch) Lf S0 (i + 1) A' av' w5) := ⟨_, p2⟩
              clear PN hr p2 hG hke
              generalize (rep2 Lf i k).length = ng at *
              go_wp2_with (at_builtin; refine wpList_append_runB (by rfl) _ _ _ (by rfl) _ _ _ _ (by rfl) (by rfl) (hrH.out _ rfl) ?_)
              obtain ⟨A', p3⟩ := p2H.out
              exact ⟨⟨i + 1, A', by first | rfl | go_num, hi, p3⟩, by first | (simp [intOf]; done) | (simp [intOf]; omega)⟩
        · have hlt2 : ¬ (i : Int) < (m : Int) := by omega
          obtain rfl : m = i := by omega
          have hcA : Hid (∀ W, P2 w N C m V (.slice ah m ch) Lf S0 m A (.slice aa m ca) W → ∀ j, j < m → ∃ ga aj cj, aa = some ⟨ga, 0, none⟩ ∧ W.cell? ⟨ga, j, none⟩ = some (.slice aj ((Lf j).length + 20) cj) ∧ ∃ g, aj = some ⟨g, 0, none⟩ ∧ ∀ k, k < (Lf j).length + 20 → (W.cell? ⟨g, k * 3, none⟩ = some (xx j).1 ∧ W.cell? ⟨g, k * 3 + 1, none⟩ = some (xx j).2.1 ∧ W.cell? ⟨g, k * 3 + 2, none⟩ = some (xx j).2.2)) := fun W p j hj => by
            obtain ⟨a, c, e1, h2⟩ := p.ar.form
            obtain ⟨ga, e3, _, h4⟩ := h2 (by omega)
            injection e1 with q1 _ _
            have o := p.alls j hj
            have ll : (rep2 Lf j 20).length = (Lf j).length + 20 := by simp [rep2]
            obtain ⟨aj, cj, e5, _, h6⟩ := o.formO
            obtain ⟨g, rfl⟩ := h6 (by omega)
            refine ⟨ga, _, cj, by rw [q1, e3], by rw [h4 j hj, e5, ll], g, rfl, fun k hk => ?_⟩
            rw [e5] at o
            have hcs := World.ownsRow.cells o (g := g) rfl
            obtain ⟨g1, g2, g3⟩ := enc_get _ k _ (get_rep _ (xx j) hk)
            have k1 := hcs _ _ g1
            have k2 := hcs _ _ g2
            have k3 := hcs _ _ g3
            rw [add_lt0, Nat.zero_add] at k1 k2 k3
            exact ⟨k1, k2, k3⟩
          have hcB : Hid (∀ W, P2 w N C m V (.slice ah m ch) Lf S0 m A (.slice aa m ca) W → ∀ j, j < m → ∃ hb aj cj, ah = some ⟨hb, 0, none⟩ ∧ W.cell? ⟨N, 7, none⟩ = some (.slice ah m ch) ∧ W.cell? ⟨hb, j, none⟩ = some (.slice aj (Lf j).length cj) ∧ (0 < (Lf j).length → ∃ g, aj = some ⟨g, 0, none⟩ ∧ ∀ k, k < (Lf j).length → (W.cell? ⟨g, k * 3, none⟩ = some (xx j).1 ∧ W.cell? ⟨g, k * 3 + 1, none⟩ = some (xx j).2.1 ∧ W.cell? ⟨g, k * 3 + 2, none⟩ = some (xx j).2.2))) := fun W p j hj => by
            obtain ⟨hb, eh⟩ := ghH.out (by omega)
            have hc := HC.out _ _ p.st hb eh j hj
            have o := p.st.rows j hj
            have ll : (rep Lf j).length = (Lf j).length := by simp [rep]
            obtain ⟨aj, cj, e5, _, h6⟩ := o.formO
            rw [e5, ll] at hc
            refine ⟨hb, aj, cj, eh, p.st.cF, hc, fun q => ?_⟩
            obtain ⟨g, rfl⟩ := h6 (by omega)
            refine ⟨g, rfl, fun k hk => ?_⟩
            rw [e5] at o
            have hcs := World.ownsRow.cells o (g := g) rfl
            obtain ⟨g1, g2, g3⟩ := enc_get _ k _ (get_rep _ (xx j) hk)
            have k1 := hcs _ _ g1
            have k2 := hcs _ _ g2
            have k3 := hcs _ _ g3
            rw [add_lt0, Nat.zero_add] at k1 k2 k3
            exact ⟨k1, k2, k3⟩
          have hP3 : Hid _ := hP
          clear hP hga HC lenV hil hi ghH
          go_wp2_with fail
          clear cF
          go_loopw [9] (fun v9 wx => ∃ (i : Nat), v9 = .int .i64 (i : Int) ∧ i ≤ m ∧ Hid (P2 w N C m V (.slice ah m ch) Lf S0 m A (.slice aa m ca) wx)) (fun v9 _ => m - (intOf v9).toNat)
          case atStart => exact ⟨0, rfl, Nat.zero_le _, hP3⟩
          case round =>
            clear hP3
            obtain ⟨i, rfl, hil, hP⟩ := hrel
            by_cases hi : i < m
            · obtain ⟨i0, iI, iw⟩ := nums_t i m hi (by omega)
              have nn := hnH.out i hi
              obtain ⟨n, hnE⟩ : ∃ n, n = (Lf i).length := ⟨_, rfl⟩
              have FA : Hid (∀ W, P2 w N C m V (.slice ah m ch) Lf S0 m A (.slice aa m ca) W → ∃ ga aj cj, aa = some ⟨ga, 0, none⟩ ∧ W.cell? ⟨ga, i, none⟩ = some (.slice aj (n + 20) cj) ∧ ∃ g, aj = some ⟨g, 0, none⟩ ∧ ∀ k, k < n + 20 → (W.cell? ⟨g, k * 3, none⟩ = some (xx i).1 ∧ W.cell? ⟨g, k * 3 + 1, none⟩ = some (xx i).2.1 ∧ W.cell? ⟨g, k * 3 + 2, none⟩ = some (xx i).2.2)) := fun W p => by rw [hnE]; exact hcA.out W p i hi
              have FB : Hid (∀ W, P2 w N C m V (.slice ah m ch) Lf S0 m A (.slice aa m ca) W → ∃ hb aj cj, ah = some ⟨hb, 0, none⟩ ∧ W.cell? ⟨N, 7, none⟩ = some (.slice ah m ch) ∧ W.cell? ⟨hb, i, none⟩ = some (.slice aj n cj) ∧ (0 < n → ∃ g, aj = some ⟨g, 0, none⟩ ∧ ∀ k, k < n → (W.cell? ⟨g, k * 3, none⟩ = some (xx i).1 ∧ W.cell? ⟨g, k * 3 + 1, none⟩ = some (xx i).2.1 ∧ W.cell? ⟨g, k * 3 + 2, none⟩ = some (xx i).2.2))) := fun W p => by rw [hnE]; exact hcB.out W p i hi
              rw [← hnE] at nn
              clear hnE
              obtain ⟨ex, m1, m2⟩ := nums_m i (by omega)
              rw [ex] at FA FB
              clear ex
              go_wp2_with fail
              go_loopw [10] (fun v10 wx => ∃ (k : Nat), v10 = .int .i64 (k : Int) ∧ k ≤ n + 20 ∧ Hid (P2 w N C m V (.slice ah m ch) Lf S0 m A (.slice aa m ca) wx)) (fun v10 _ => n + 20 - (intOf v10).toNat)
              case atStart => exact ⟨0, rfl, Nat.zero_le _, hP⟩
              case round =>
                clear hP
                obtain ⟨k, rfl, hkl, hP⟩ := hrel
                obtain ⟨ga, aj, cj, rfl, e1, g, rfl, e2⟩ := FA.out wr hP.out
                by_cases hk : k < n + 20
                · obtain ⟨k0, kI, kw⟩ := nums_t k (n + 20) hk (by omega)
                  obtain ⟨e3, e4, e5⟩ := e2 k hk
                  have hP2 : Hid (P2 w N C m V (.slice ah m ch) Lf S0 m A (.slice (some ⟨ga, 0, none⟩) m ca) (wr.alloc (.cells #[.int .i64 (-7 - (i : Int)), .int .u8 0, .int .i64 0] 59))) := hP.out.below spH.out ((Below.refl _ wr).alloc (Nat.le_refl _) _)
                  clear e2 hP
                  go_wp2_with fail
                  exact ⟨⟨k + 1, by first | rfl | go_num, by omega, hP2⟩, by first | (simp [intOf]; done) | (simp [intOf]; omega)⟩
                · have hlt3 : ¬ (k : Int) < ((n + 20 : Nat) : Int) := by omega
                  clear e2
                  go_wp2_with fail
                  clear e1
                  go_loopw [12] (fun v12 wx => ∃ (q : Nat), v12 = .int .i64 (q : Int) ∧ q ≤ n ∧ Hid (P2 w N C m V (.slice ah m ch) Lf S0 m A (.slice (some ⟨ga, 0, none⟩) m ca) wx)) (fun v12 _ => n - (intOf v12).toNat)
                  case atStart => exact ⟨0, rfl, Nat.zero_le _, hP⟩
                  case round =>
                    clear hP
                    obtain ⟨q, rfl, hql, hP⟩ := hrel
                    obtain ⟨hb, aj2, cj2, rfl, e0, e1, e2⟩ := FB.out wr hP.out
                    by_cases hq : q < n
                    · obtain ⟨q0, qI, qw⟩ := nums_t q n hq (by omega)
                      obtain ⟨g2, rfl, e5⟩ := e2 (by omega)
                      obtain ⟨e3, e4, e6⟩ := e5 q hq
                      have hP2 : Hid (P2 w N C m V (.slice (some ⟨hb, 0, none⟩) m ch) Lf S0 m A (.slice (some ⟨ga, 0, none⟩) m ca) (wr.alloc (.cells #[.int .i64 (-7 - (i : Int)), .int .u8 0, .int .i64 0] 59))) := hP.out.below spH.out ((Below.refl _ wr).alloc (Nat.le_refl _) _)
                      clear e2 e5 hP
                      go_wp2_with fail
                      exact ⟨⟨q + 1, by first | rfl | go_num, hq, hP2⟩, by first | (simp [intOf]; done) | (simp [intOf]; omega)⟩
                    · have hlt4 : ¬ (q : Int) < (n : Int) := by omega
                      clear e2
                      go_wp2_with fail
                      exact ⟨⟨i + 1, by first | rfl | go_num, hi, hP⟩, by first | (simp [intOf]; done) | (simp [intOf]; omega)⟩
            · have hlt5 : ¬ (i : Int) < (m : Int) := by omega
              have fin : Hid (BF V m w wr) := hP.out.st.bf
              clear hP
              go_wp2_with fail
              go_ret
              exact ⟨rfl, fin.out⟩
end Go.Proofs.YtfijagdbdbbbpaaDoor.Bk7

