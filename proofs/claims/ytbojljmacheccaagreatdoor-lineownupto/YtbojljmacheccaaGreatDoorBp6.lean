
import Derived.Test.YtbojljmacheccaaGreatDoorApK
import Derived.Test.YtbojljmacheccaaGreatDoorBxA
import Derived.Deep.AppendLies
import Derived.OpenShut
import Derived.WalkSmall
import Derived.WalkKit
import Derived.ProofKit
import Derived.BigQuiet
namespace Go.Proofs.YtbojljmacheccaaGreatDoor.Bk6
open Go.RowKit
set_option linter.unusedVariables false
set_option linter.unusedSimpArgs false
set_option maxRecDepth 100000
theorem below_trans {w w1 w2 : World} {n : Nat} (h : Below n w w1) (k : Below n w1 w2) : Below n w w2 := ⟨k.os.trans h.os, k.tape.trans h.tape, k.output.trans h.output, Nat.le_trans h.size k.size, fun j hj => (k.block j hj).trans (h.block j hj)⟩
theorem below_less {w w1 : World} {n m : Nat} (h : Below n w w1) (hm : m ≤ n) : Below m w w1 := ⟨h.os, h.tape, h.output, h.size, fun j hj => h.block j (by omega)⟩
theorem add_lt0 (b o j : Nat) : (⟨b, o, none⟩ : Addr).add j = ⟨b, o + j, none⟩ := by
  simp [Addr.add]
abbrev EK := Value × Value
def enc : List EK → List Value
  | [] => []
  | t :: r => [t.1, t.2] ++ enc r
theorem enc_append (a b : List EK) : enc (a ++ b) = enc a ++ enc b := by
  induction a with
  | nil => rfl
  | cons s r ih => simp [enc, ih]
theorem enc_get (l : List EK) (i : Nat) (s : EK) (h : l[i]? = some s) : (enc l)[i * 2]? = some s.1 ∧ (enc l)[i * 2 + 1]? = some s.2 := by
  induction l generalizing i with
  | nil => simp at h
  | cons a r ih =>
    cases i with
    | zero => simp at h; subst h; simp [enc]
    | succ i =>
      simp at h
      have := ih i h
      simp only [enc, List.cons_append, List.nil_append]
      rw [show (i + 1) * 2 = i * 2 + 2 by omega]
      exact this
theorem enc_put (l : List EK) (i : Nat) (e : EK) (hi : i < l.length) : ((enc l).set (i * 2) e.1).set (i * 2 + 1) e.2 = enc (l.set i e) := by
  induction l generalizing i with
  | nil => simp at hi
  | cons a r ih =>
    cases i with
    | zero => simp [enc]
    | succ i =>
      have := ih i (by simpa using hi)
      simp only [enc, List.set_cons_succ]
      rw [show (i + 1) * 2 = i * 2 + 2 by omega]
      simpa using this
/-- the mark of a number. -/
def xx (i : Nat) : EK := (.string (Tx.mkT i), .int .i64 0)
theorem el_info : (Tryz.prog.info? 86).map (fun i => (i.zero, i.bytes, i.size)) = some (some (.agg #[.string ⟨#[]⟩, .int .i64 0]), 24, 2) := by kernel_rfl
theorem news1 {W : World} {K : Nat} {x : EK} (hx : W.cell? ⟨K, 0, none⟩ = some x.1 ∧ W.cell? ⟨K, 1, none⟩ = some x.2) : ∀ j u, (enc [x])[j]? = some u → W.cell? ((⟨K, 0, none⟩ : Addr).add j) = some u := fun j u hj => by
  obtain ⟨y0, y1⟩ := hx
  rcases j with _ | _ | j
  · simp [enc] at hj; subst hj; rw [add_lt0]; exact y0
  · simp [enc] at hj; subst hj; rw [add_lt0]; exact y1
  · simp [enc] at hj
theorem gtr {a b c : World} {o : Option Nat} (h : a.grownBy b o) (k : b.grownBy c o) : a.grownBy c o := ⟨k.os.trans h.os, k.tape.trans h.tape, k.output.trans h.output, Nat.le_trans h.size k.size, fun j hj q => (k.block j (Nat.lt_of_lt_of_le hj h.size) q).trans (h.block j hj q)⟩
/-- a row of one's own. -/
def OE (w : World) (B : Nat) (v : Value) (l : List EK) : Prop := w.ownsRow B 86 2 v l.length (enc l)
theorem OE.below {w w' : World} {B C : Nat} {v : Value} {l : List EK} (h : OE w B v l) (hb : Below C w w') (hC : w.heap.size ≤ C) : OE w' B v l := by
  refine ⟨h.1, ?_⟩
  rcases h.2 with h2 | ⟨g, cap, cur, e1, e2, e3, e4⟩
  · exact Or.inl h2
  · exact Or.inr ⟨g, cap, cur, e1, e2, by rw [hb.block g (Nat.lt_of_lt_of_le (Array.getElem?_eq_some_iff.1 e3).1 hC)]; exact e3, e4⟩
theorem OE.bound {w : World} {B : Nat} {v : Value} {l : List EK} (h : OE w B v l) {k : Nat} (e : v.ownBlock = some k) : B ≤ k ∧ k < w.heap.size := World.ownsRow.lt h k e
def rep (Lf : Nat → List EK) (j : Nat) : List EK := List.replicate (Lf j).length (xx j)
def rep2 (Lf : Nat → List EK) (j k : Nat) : List EK := List.replicate ((Lf j).length + k) (xx j)
theorem rep2_succ (Lf : Nat → List EK) (j k : Nat) : rep2 Lf j (k + 1) = rep2 Lf j k ++ [xx j] := by unfold rep2; rw [← Nat.add_assoc, List.replicate_succ']
theorem rep2_zero (Lf : Nat → List EK) (j : Nat) : rep2 Lf j 0 = rep Lf j := rfl
theorem get_rep (n : Nat) (x : EK) {i : Nat} (h : i < n) : (List.replicate n x)[i]? = some x := by simp [List.getElem?_replicate, h]
/-- while the rows are written over. -/
def L1 (Lf : Nat → List EK) (i k j : Nat) : List EK := if j < i then rep Lf j else if j = i then List.replicate k (xx j) ++ (Lf j).drop k else Lf j
theorem L1_start (Lf : Nat → List EK) (j : Nat) : L1 Lf 0 0 j = Lf j := by
  unfold L1
  rw [if_neg (by omega)]
  split
  · simp
  · rfl
theorem L1_next (Lf : Nat → List EK) (i j : Nat) : L1 Lf i (Lf i).length j = L1 Lf (i + 1) 0 j := by
  unfold L1
  by_cases h1 : j < i
  · rw [if_pos h1, if_pos (by omega)]
  · rw [if_neg h1]
    by_cases h2 : j = i
    · subst h2; rw [if_pos rfl, if_pos (by omega)]; simp [rep]
    · rw [if_neg h2, if_neg (by omega)]
      split
      · simp
      · rfl
theorem L1_len (Lf : Nat → List EK) {i k : Nat} (h : k ≤ (Lf i).length) (j : Nat) : (L1 Lf i k j).length = (Lf j).length := by
  unfold L1
  split
  · simp [rep]
  · split
    · rename_i e; subst e; simp; omega
    · rfl
theorem L1_set (Lf : Nat → List EK) {i k : Nat} (h : k < (Lf i).length) : (L1 Lf i k i).set k (xx i) = L1 Lf i (k + 1) i := by
  unfold L1
  rw [if_neg (by omega), if_pos rfl, if_neg (by omega), if_pos rfl]
  rw [List.set_append_right _ _ (by simp)]
  simp only [List.length_replicate, Nat.sub_self]
  rw [List.drop_eq_getElem_cons h, List.set_cons_zero, List.replicate_succ']
  simp
theorem L1_other (Lf : Nat → List EK) {i k j : Nat} (h : j ≠ i) : L1 Lf i (k + 1) j = L1 Lf i k j := by
  unfold L1
  rw [if_neg h, if_neg h]
theorem L1_end (Lf : Nat → List EK) {m j : Nat} (h : j < m) : L1 Lf m 0 j = rep Lf j := by unfold L1; rw [if_pos h]
theorem OE.formO {w : World} {B : Nat} {v : Value} {l : List EK} (h : OE w B v l) : ∃ a c, v = .slice a l.length c ∧ l.length ≤ c ∧ (0 < l.length → ∃ g, a = some ⟨g, 0, none⟩) := by
  rcases h.2 with ⟨e, e0⟩ | ⟨g, cap, cur, e1, _, _, hc, _⟩
  · exact ⟨none, 0, by rw [e, e0], by omega, fun q => by omega⟩
  · exact ⟨_, cap, e1, hc, fun _ => ⟨g, rfl⟩⟩
/-! headers -/
def hdr (V : Nat → Value) (m : Nat) : List Value := (List.range m).map V
theorem hdr_get (V : Nat → Value) {i m : Nat} (h : i < m) : (hdr V m)[i]? = some (V i) := by simp [hdr, h]
theorem hdr_snoc (V : Nat → Value) (m : Nat) (g : Value) : hdr (fun j => if j = m then g else V j) (m + 1) = hdr V m ++ [g] := by
  unfold hdr
  rw [List.range_succ, List.map_append]
  congr 1
  · apply List.map_congr_left
    intro j hj
    have := List.mem_range.1 hj
    rw [if_neg (by omega)]
  · simp
abbrev HRw (w : World) (B : Nat) (v : Value) (m : Nat) (V : Nat → Value) : Prop := w.ownsRow B 30 1 v m (hdr V m)
theorem HRw.form {w : World} {B m : Nat} {v : Value} {V : Nat → Value} (h : HRw w B v m V) : ∃ a c, v = .slice a m c ∧ (0 < m → ∃ g, a = some ⟨g, 0, none⟩ ∧ v.ownBlock = some g ∧ ∀ i, i < m → w.cell? ⟨g, i, none⟩ = some (V i)) := by
  rcases h.2 with ⟨e, e0⟩ | ⟨g, cap, cur, e1, _⟩
  · exact ⟨none, 0, by rw [e, e0], fun q => by omega⟩
  · refine ⟨some ⟨g, 0, none⟩, cap, e1, fun _ => ⟨g, rfl, by rw [e1]; rfl, fun i hi => ?_⟩⟩
    have := World.ownsRow.cells h (g := g) (by rw [e1]; rfl) i (V i) (hdr_get V hi)
    rw [add_lt0, Nat.zero_add] at this
    exact this
theorem en_info2 : (Tryz.prog.info? 30).map (fun i => (i.zero, i.bytes, i.size)) = some (some (.slice none 0 0), 24, 1) := by kernel_rfl
/-! what is left as it was -/
structure BF (V : Nat → Value) (m : Nat) (w w' : World) : Prop where
  size : w.heap.size ≤ w'.heap.size
  keep : ∀ k, k < w.heap.size → (∀ i, i < m → (V i).ownBlock ≠ some k) → w'.heap[k]? = w.heap[k]?
  same : w'.os = w.os ∧ w'.tape = w.tape ∧ w'.output = w.output
theorem BF.refl (V : Nat → Value) (m : Nat) (w : World) : BF V m w w := ⟨Nat.le_refl _, fun _ _ _ => rfl, rfl, rfl, rfl⟩
theorem BF.step {V : Nat → Value} {m : Nat} {w w1 w2 : World} {o : Option Nat} (h : BF V m w w1) (g : w1.grownBy w2 o) (ho : ∀ k, o = some k → k < w.heap.size → ∃ i, i < m ∧ (V i).ownBlock = some k) : BF V m w w2 :=
  ⟨Nat.le_trans h.size g.size, fun k hk q => by
    rw [g.block k (Nat.lt_of_lt_of_le hk h.size) (fun e => by
      obtain ⟨i, hi, e2⟩ := ho k e.symm hk
      exact q i hi e2)]
    exact h.keep k hk q, g.os.trans h.same.1, g.tape.trans h.same.2.1, g.output.trans h.same.2.2⟩
theorem BF.below {V : Nat → Value} {m : Nat} {w w1 w2 : World} (h : BF V m w w1) (b : Below w1.heap.size w1 w2) : BF V m w w2 :=
  ⟨Nat.le_trans h.size b.size, fun k hk q => by rw [b.block k (Nat.lt_of_lt_of_le hk h.size)]; exact h.keep k hk q, b.os.trans h.same.1, b.tape.trans h.same.2.1, b.output.trans h.same.2.2⟩
/-- where the book and its rows lie. -/
structure SPV (w0 : World) (N C m : Nat) (V : Nat → Value) (hv : Value) : Prop where
  nC : N < C
  nw : N < w0.heap.size
  cw : C ≤ w0.heap.size
  vb : ∀ i, i < m → ∀ k, (V i).ownBlock = some k → C ≤ k ∧ k < w0.heap.size
  hb : ∀ k, hv.ownBlock = some k → C ≤ k ∧ k < w0.heap.size
  dis : ∀ i j, i < m → j < m → i ≠ j → ∀ k, (V i).ownBlock = some k → (V j).ownBlock ≠ some k
  hd : ∀ i, i < m → ∀ k, (V i).ownBlock = some k → hv.ownBlock ≠ some k
/-- the book's headers and rows. -/
structure AS (w0 : World) (N C m : Nat) (V : Nat → Value) (hv : Value) (G : Nat → List EK) (wr : World) : Prop where
  cF : wr.cell? ⟨N, 6, none⟩ = some hv
  hr : HRw wr C hv m V
  rows : ∀ j, j < m → OE wr C (V j) (G j)
  bf : BF V m w0 wr
theorem HRw.below {w w' : World} {B C m : Nat} {v : Value} {V : Nat → Value} (h : HRw w B v m V) (hb : Below C w w') (hC : w.heap.size ≤ C) : HRw w' B v m V := by
  refine ⟨h.1, ?_⟩
  rcases h.2 with h2 | ⟨g, cap, cur, e1, e2, e3, e4⟩
  · exact Or.inl h2
  · exact Or.inr ⟨g, cap, cur, e1, e2, by rw [hb.block g (Nat.lt_of_lt_of_le (Array.getElem?_eq_some_iff.1 e3).1 hC)]; exact e3, e4⟩
theorem AS.below {w0 wr w' : World} {N C m : Nat} {V : Nat → Value} {hv : Value} {G : Nat → List EK} (h : AS w0 N C m V hv G wr) (s : SPV w0 N C m V hv) (hb : Below wr.heap.size wr w') : AS w0 N C m V hv G w' :=
  ⟨by rw [hb.cell (p := ⟨N, 6, none⟩) (Nat.lt_of_lt_of_le s.nw h.bf.size)]; exact h.cF, h.hr.below hb (Nat.le_refl _), fun j hj => (h.rows j hj).below hb (Nat.le_refl _), h.bf.below hb⟩
/-- a row of the book written: the others stay. -/
theorem AS.put {w0 wr : World} {N C m i k g n cap : Nat} {V : Nat → Value} {hv : Value} {G G' : Nat → List EK} (h : AS w0 N C m V hv G wr) (s : SPV w0 N C m V hv) (hi : i < m) (hV : V i = .slice (some ⟨g, 0, none⟩) n cap) (hk : k < (G i).length) (x : EK) (hG : G' i = (G i).set k x) (hG2 : ∀ j, j < m → j ≠ i → G' j = G j) :
    AS w0 N C m V hv G' ((wr.setCell ⟨g, k * 2, none⟩ x.1).setCell ⟨g, k * 2 + 1, none⟩ x.2) := by
  have o := h.rows i hi
  have hV2 : (V i).ownBlock = some g := by rw [hV]; rfl
  rw [hV] at o
  obtain ⟨_, _, e1, _⟩ := o.formO
  injection e1 with _ e2 _
  subst e2
  have t0 := World.ownsRow.stored o (k * 2) x.1
  have t1 := World.ownsRow.stored t0.1 (k * 2 + 1) x.2
  rw [enc_put (G i) k x hk] at t1
  have gg0 : wr.grownBy (wr.setCell ⟨g, k * 2, none⟩ x.1) (some g) := t0.2
  have gg1 := gtr gg0 t1.2
  have gg : wr.grownBy ((wr.setCell ⟨g, k * 2, none⟩ x.1).setCell ⟨g, k * 2 + 1, none⟩ x.2) (some g) := gg1
  have gN : N ≠ g := by have := (s.vb i hi g hV2).1; have := s.nC; omega
  refine ⟨?_, World.ownsRow.kept h.hr gg (Or.inr (s.hd i hi g hV2)), fun j hj => ?_, h.bf.step gg (fun q e _ => ⟨i, hi, by rw [hV2]; exact e⟩)⟩
  · rw [World.cell?_of_block (w := wr) (a := ⟨N, 6, none⟩) (gg.block N (Nat.lt_of_lt_of_le s.nw h.bf.size) (fun e => gN (by injection e)))]
    exact h.cF
  · by_cases c : j = i
    · subst c
      rw [hG, hV]
      unfold OE
      rw [List.length_set]
      exact t1.1
    · rw [hG2 j hj c]
      exact World.ownsRow.kept (h.rows j hj) gg (Or.inr (fun e => s.dis i j hi hj (fun q => c q.symm) g hV2 e))
/-- while the rows are grown: those behind it are in A, told by av. -/
structure P2 (w0 : World) (N C m : Nat) (V : Nat → Value) (hv : Value) (Lf : Nat → List EK) (S0 i : Nat) (A : Nat → Value) (av : Value) (wr : World) : Prop where
  st : AS w0 N C m V hv (rep Lf) wr
  alls : ∀ j, j < i → OE wr C (A j) (rep2 Lf j 20)
  ab : ∀ j, j < i → ∀ k, (A j).ownBlock = some k → (V j).ownBlock = some k ∨ S0 ≤ k
  ar : HRw wr S0 av i A
  aA : ∀ j, j < i → ∀ k, (A j).ownBlock = some k → av.ownBlock ≠ some k
  s0 : S0 ≤ wr.heap.size
  w0 : w0.heap.size ≤ S0
theorem P2.below {w0 wr w' : World} {N C m S0 i : Nat} {V A : Nat → Value} {hv av : Value} {Lf : Nat → List EK} (h : P2 w0 N C m V hv Lf S0 i A av wr) (s : SPV w0 N C m V hv) (hb : Below wr.heap.size wr w') : P2 w0 N C m V hv Lf S0 i A av w' :=
  ⟨h.st.below s hb, fun j hj => (h.alls j hj).below hb (Nat.le_refl _), h.ab, h.ar.below hb (Nat.le_refl _), h.aA, Nat.le_trans h.s0 hb.size, h.w0⟩
/-- the one in hand. -/
structure PG (w0 : World) (N C m : Nat) (V : Nat → Value) (hv : Value) (Lf : Nat → List EK) (S0 i : Nat) (A : Nat → Value) (av : Value) (E k : Nat) (g : Value) (wr : World) : Prop where
  p : P2 w0 N C m V hv Lf S0 i A av wr
  go : OE wr C g (rep2 Lf i k)
  gb : ∀ q, g.ownBlock = some q → (V i).ownBlock = some q ∨ E ≤ q
  aE : ∀ j, j < i → ∀ q, (A j).ownBlock = some q → q < E
  vE : ∀ q, av.ownBlock = some q → S0 ≤ q ∧ q < E
  sE : S0 ≤ E
  Ew : E ≤ wr.heap.size
theorem PG.below {w0 wr w' : World} {N C m S0 i E k : Nat} {V A : Nat → Value} {hv av g : Value} {Lf : Nat → List EK} (h : PG w0 N C m V hv Lf S0 i A av E k g wr) (s : SPV w0 N C m V hv) (hb : Below wr.heap.size wr w') : PG w0 N C m V hv Lf S0 i A av E k g w' :=
  ⟨h.p.below s hb, h.go.below hb (Nat.le_refl _), h.gb, h.aE, h.vE, h.sE, Nat.le_trans h.Ew hb.size⟩
theorem PG.start {w0 wr : World} {N C m S0 i : Nat} {V A : Nat → Value} {hv av : Value} {Lf : Nat → List EK} (h : P2 w0 N C m V hv Lf S0 i A av wr) (hi : i < m) : PG w0 N C m V hv Lf S0 i A av wr.heap.size 0 (V i) wr :=
  ⟨h, by rw [rep2_zero]; exact h.st.rows i hi, fun q e => Or.inl e, fun j hj q e => ((h.alls j hj).bound e).2, fun q e => World.ownsRow.lt h.ar q e, h.s0, Nat.le_refl _⟩
theorem PG.grow {w0 wr : World} {N C m S0 i E k : Nat} {V A : Nat → Value} {hv av g : Value} {Lf : Nat → List EK} (h0 : PG w0 N C m V hv Lf S0 i A av E k g wr) (s : SPV w0 N C m V hv) (hi : i < m) (hn : (Lf i).length ≤ 268435456) (hk : k ≤ 20) :
    ∃ g' w', (Builtin.append_ #[30, 30] 30 #[g, .slice (some ⟨wr.heap.size, 0, none⟩) 1 1]).run Tryz.prog (wr.alloc (.cells #[(xx i).1, (xx i).2] 86)) = .ok g' w' ∧ PG w0 N C m V hv Lf S0 i A av E (k + 1) g' w' := by
  obtain ⟨W, hW⟩ : ∃ W, W = wr.alloc (.cells #[(xx i).1, (xx i).2] 86) := ⟨_, rfl⟩
  have bW : Below wr.heap.size wr W := by rw [hW]; exact (Below.refl _ wr).alloc (Nat.le_refl _) _
  have sW : W.heap.size = wr.heap.size + 1 := by rw [hW]; simp
  have hE : W.cell? ⟨wr.heap.size, 0, none⟩ = some (xx i).1 ∧ W.cell? ⟨wr.heap.size, 1, none⟩ = some (xx i).2 := by rw [hW]; refine ⟨?_, ?_⟩ <;> simp [go_sem]
  rw [← hW]
  have h := h0.below s bW
  obtain ⟨inf, i1, i0⟩ := Option.map_eq_some_iff.1 el_info
  have i2 : inf.zero = some (.agg #[.string ⟨#[]⟩, .int .i64 0]) := congrArg (·.1) i0
  have i3 : inf.bytes = 24 := congrArg (·.2.1) i0
  have i4 : inf.size = 2 := congrArg (·.2.2) i0
  have hml : maxLen = 9223372036854775807 := by decide
  have lg : (rep2 Lf i k).length = (Lf i).length + k := by simp [rep2]
  have own : W.ownsRow C 86 inf.size g (rep2 Lf i k).length (enc (rep2 Lf i k)) := by rw [i4]; exact h.go
  have cw := s.cw
  have w0S := h.p.w0
  have sz := h.p.st.bf.size
  obtain ⟨g', w', hr, ho, hg, hb, hk'⟩ := append_keeps (P := Tryz.prog) W C 30 30 86 inf (.agg #[.string ⟨#[]⟩, .int .i64 0]) Tryz.underlying30 i1 i2 (by rw [i4]; rfl) (by omega) g _ _ own ⟨wr.heap.size, 0, none⟩ 1 1 (enc [xx i]) (by rw [i4]; rfl) (news1 hE) (fun u hu => by simp [enc, xx] at hu; rcases hu with rfl | rfl <;> rfl) (by omega) (by rw [lg]; omega) (by rw [lg, i3]; omega) (by omega)
  rw [i4] at ho hk'
  have gC : ∀ q, g.ownBlock = some q → C ≤ q := fun q e => (h.go.bound e).1
  have gN : ∀ q, g.ownBlock = some q → q ≠ N := fun q e => by have := gC q e; have := s.nC; omega
  have gV : ∀ j, j < m → j ≠ i → ∀ q, g.ownBlock = some q → (V j).ownBlock ≠ some q := fun j hj hne q e e2 => by
    rcases h.gb q e with c | c
    · exact s.dis i j hi hj (fun q => hne q.symm) q c e2
    · have := (s.vb j hj q e2).2; have := h.sE; omega
  have gH : ∀ q, g.ownBlock = some q → hv.ownBlock ≠ some q := fun q e e2 => by
    rcases h.gb q e with c | c
    · exact s.hd i hi q c e2
    · have := (s.hb q e2).2; have := h.sE; omega
  have gA : ∀ j, j < i → ∀ q, g.ownBlock = some q → (A j).ownBlock ≠ some q := fun j hj q e e2 => by
    have lt := h.aE j hj q e2
    rcases h.gb q e with c | c
    · rcases h.p.ab j hj q e2 with d | d
      · exact s.dis i j hi (by omega) (by omega) q c d
      · have := (s.vb i hi q c).2; omega
    · omega
  have gv : ∀ q, g.ownBlock = some q → av.ownBlock ≠ some q := fun q e e2 => by
    obtain ⟨q1, q2⟩ := h.vE q e2
    rcases h.gb q e with c | c
    · have := (s.vb i hi q c).2; omega
    · omega
  have oth : ∀ (v : Value), (∀ q, g.ownBlock = some q → v.ownBlock ≠ some q) → v.ownBlock = none ∨ v.ownBlock ≠ g.ownBlock := fun v hq => by
    cases hv0 : v.ownBlock with
    | none => exact Or.inl rfl
    | some k => exact Or.inr (fun e => hq k e.symm hv0)
  refine ⟨g', w', hr, ⟨⟨⟨?_, World.ownsRow.kept h.p.st.hr hg (oth hv gH), fun j hj => ?_, h.p.st.bf.step hg (fun q e hq => ?_)⟩, fun j hj => ?_, h.p.ab, World.ownsRow.kept h.p.ar hg (oth av gv), h.p.aA, Nat.le_trans h.p.s0 hg.size, h.p.w0⟩, ?_, fun q e => ?_, h.aE, h.vE, h.sE, Nat.le_trans h.Ew hg.size⟩⟩
  · rw [World.cell?_of_block (w := W) (a := ⟨N, 6, none⟩) (hg.block N (by have := s.nw; omega) (fun e => gN N e.symm rfl))]
    exact h.p.st.cF
  · refine hk' C (V j) _ _ (h.p.st.rows j hj) (fun e => ?_)
    by_cases c : j = i
    · subst c; rw [lg]; simp [rep]
    · cases hg0 : g.ownBlock with
      | some q => exact absurd (by rw [e, hg0]) (gV j hj c q hg0)
      | none =>
        have hz : (rep Lf j).length = 0 := by
          rcases (h.p.st.rows j hj).2 with ⟨_, z⟩ | ⟨_, _, _, z, _⟩
          · exact z
          · rw [z, hg0] at e; cases e
        omega
  · rcases h.gb q e with c | c
    · exact ⟨i, hi, c⟩
    · have := h.sE; omega
  · refine hk' C (A j) _ _ (h.p.alls j hj) (fun e => ?_)
    cases hg0 : g.ownBlock with
    | some q => exact absurd (by rw [e, hg0]) (gA j hj q hg0)
    | none =>
      have hz : (rep2 Lf j 20).length = 0 := by
        rcases (h.p.alls j hj).2 with ⟨_, z⟩ | ⟨_, _, _, z, _⟩
        · exact z
        · rw [z, hg0] at e; cases e
      omega
  · rw [rep2_succ]
    unfold OE
    rw [List.length_append, enc_append]
    exact ho
  · rcases hb with c | c
    · exact h.gb q (by rw [← c]; exact e)
    · rw [c] at e; injection e with e; have := h.Ew; exact Or.inr (by omega)
/-- the grown one behind the others. -/
theorem PG.next {w0 wr : World} {N C m S0 i E : Nat} {V A : Nat → Value} {hv av g : Value} {Lf : Nat → List EK} (h0 : PG w0 N C m V hv Lf S0 i A av E 20 g wr) (s : SPV w0 N C m V hv) (hi : i < m) (hm : m ≤ 4194304) :
    ∃ av' w', (Builtin.append_ #[50, 50] 50 #[av, .slice (some ⟨wr.heap.size, 0, none⟩) 1 1]).run Tryz.prog (wr.alloc (.cells #[g] 30)) = .ok av' w' ∧ P2 w0 N C m V hv Lf S0 (i + 1) (fun j => if j = i then g else A j) av' w' := by
  obtain ⟨W, hW⟩ : ∃ W, W = wr.alloc (.cells #[g] 30) := ⟨_, rfl⟩
  have bW : Below wr.heap.size wr W := by rw [hW]; exact (Below.refl _ wr).alloc (Nat.le_refl _) _
  have sW : W.heap.size = wr.heap.size + 1 := by rw [hW]; simp
  have hc : W.cell? ⟨wr.heap.size, 0, none⟩ = some g := by rw [hW]; simp [go_sem]
  rw [← hW]
  have h := h0.below s bW
  obtain ⟨inf, i1, i0⟩ := Option.map_eq_some_iff.1 en_info2
  have i2 : inf.zero = some (.slice none 0 0) := congrArg (·.1) i0
  have i3 : inf.bytes = 24 := congrArg (·.2.1) i0
  have i4 : inf.size = 1 := congrArg (·.2.2) i0
  have hml : maxLen = 9223372036854775807 := by decide
  have own : W.ownsRow S0 30 inf.size av i (hdr A i) := by rw [i4]; exact h.p.ar
  have cw := s.cw
  have g1 : g.oneCell' = true := by
    obtain ⟨a, c, e, _⟩ := h.go.formO
    rw [e]; rfl
  obtain ⟨av', w', hr, ho, hg, hb, _⟩ := append_keeps (P := Tryz.prog) W S0 50 50 30 inf (.slice none 0 0) Tryz.underlying50 i1 i2 (by rw [i4]; rfl) (by omega) av _ _ own ⟨wr.heap.size, 0, none⟩ 1 1 [g] (by rw [i4]; rfl) (fun j u hj => by
    have : j = 0 := by have := (List.getElem?_eq_some_iff.1 hj).1; simp at this; omega
    subst this
    simp at hj
    subst hj
    exact hc) (fun u hu => by simp at hu; subst hu; exact g1) (by omega) (by omega) (by rw [i3]; omega) h.p.s0
  rw [i4] at ho
  have w0S := h.p.w0
  have sz := h.p.st.bf.size
  have vS : ∀ q, av.ownBlock = some q → S0 ≤ q ∧ q < E := h.vE
  have oth : ∀ (v : Value), (∀ q, v.ownBlock = some q → av.ownBlock ≠ some q) → v.ownBlock = none ∨ v.ownBlock ≠ av.ownBlock := fun v hq => by
    cases hv0 : v.ownBlock with
    | none => exact Or.inl rfl
    | some k => exact Or.inr (fun e => hq k hv0 e.symm)
  have low : ∀ q, q < w0.heap.size → av.ownBlock ≠ some q := fun q hq e => by have := (vS q e).1; omega
  have gav : ∀ q, g.ownBlock = some q → av.ownBlock ≠ some q := fun q e e2 => by
    obtain ⟨q1, q2⟩ := vS q e2
    rcases h.gb q e with c | c
    · have := (s.vb i hi q c).2; omega
    · omega
  have gS : ∀ q, g.ownBlock = some q → (V i).ownBlock = some q ∨ S0 ≤ q := fun q e => by
    rcases h.gb q e with c | c
    · exact Or.inl c
    · exact Or.inr (Nat.le_trans h.sE c)
  refine ⟨av', w', hr, ⟨⟨?_, World.ownsRow.kept h.p.st.hr hg (oth hv fun q e => low q (s.hb q e).2), fun j hj => World.ownsRow.kept (h.p.st.rows j hj) hg (oth (V j) fun q e => low q (s.vb j hj q e).2), h.p.st.bf.step hg (fun q e hq => absurd e (low q hq))⟩, fun j hj => ?_, fun j hj k e => ?_, ?_, fun j hj k e => ?_, Nat.le_trans h.p.s0 hg.size, h.p.w0⟩⟩
  · rw [World.cell?_of_block (w := W) (a := ⟨N, 6, none⟩) (hg.block N (by have := s.nw; omega) (fun e => low N s.nw e.symm))]
    exact h.p.st.cF
  · by_cases c : j = i
    · subst c
      simp only [if_true]
      exact World.ownsRow.kept h.go hg (oth g gav)
    · rw [if_neg c]
      exact World.ownsRow.kept (h.p.alls j (by omega)) hg (oth (A j) fun q e => h.p.aA j (by omega) q e)
  · by_cases c : j = i
    · subst c
      simp only [if_true] at e
      exact gS k e
    · rw [if_neg c] at e
      exact h.p.ab j (by omega) k e
  · show w'.ownsRow S0 30 1 av' (i + 1) (hdr (fun j => if j = i then g else A j) (i + 1))
    rw [hdr_snoc]
    exact ho
  · rcases hb with q | q
    · rw [q]
      by_cases c : j = i
      · subst c; simp only [if_true] at e; exact gav k e
      · rw [if_neg c] at e; exact h.p.aA j (by omega) k e
    · rw [q]
      intro e2
      injection e2 with e2
      by_cases c : j = i
      · subst c; simp only [if_true] at e; have := (h.go.bound e).2; omega
      · rw [if_neg c] at e; have := ((h.p.alls j (by omega)).bound e).2; omega
/-- a book in memory: what it has taken. -/
structure BK (O : Nat → Value) (N C m : Nat) (V : Nat → Value) (hv : Value) (G : Nat → List EK) (w : World) : Prop where
  sp : SPV w N C m V hv
  st : AS w N C m V hv G w
  nil : ∀ j, j < 28 → j ≠ 6 → w.cell? ⟨N, j, none⟩ = some (O j)
  fz : ∀ j, w.frozen? ⟨N, j, none⟩ = false
theorem BK.below {O : Nat → Value} {N C m : Nat} {V : Nat → Value} {hv : Value} {G : Nat → List EK} {w w' : World} (h : BK O N C m V hv G w) (hb : Below w.heap.size w w') : BK O N C m V hv G w' := by
  have s := h.st.below h.sp hb
  have sz := hb.size
  refine ⟨⟨h.sp.nC, by have := h.sp.nw; omega, by have := h.sp.cw; omega, fun i hi k e => by have := h.sp.vb i hi k e; omega, fun k e => by have := h.sp.hb k e; omega, h.sp.dis, h.sp.hd⟩, ⟨s.cF, s.hr, s.rows, BF.refl _ _ _⟩, fun j hj hne => ?_, fun j => ?_⟩
  · rw [hb.cell (p := ⟨N, j, none⟩) h.sp.nw]; exact h.nil j hj hne
  · rw [hb.frozen (p := ⟨N, j, none⟩) h.sp.nw]; exact h.fz j
theorem BK.start (w : World) : BK (fun _ => .slice none 0 0) w.heap.size (w.heap.size + 1) 0 (fun _ => undef) (.slice none 0 0) (fun _ => []) (w.alloc (.cells (Array.replicate 28 (.slice none 0 0)) 73)) := by
  have c : ∀ j, j < 28 → (w.alloc (.cells (Array.replicate 28 (.slice none 0 0)) 73)).cell? ⟨w.heap.size, j, none⟩ = some (.slice none 0 0) := fun j hj => by
    rw [World.cell?_alloc_at _ _ _ _ rfl, Array.getElem?_replicate, if_pos hj]
  refine ⟨⟨by omega, by simp, by simp, fun i hi => by omega, fun k e => (by cases e), fun i j hi => by omega, fun i hi => by omega⟩, ⟨c 6 (by omega), ⟨rfl, Or.inl ⟨rfl, rfl⟩⟩, fun j hj => by omega, BF.refl _ _ _⟩, fun j hj _ => c j hj, fun j => World.frozen?_alloc_at _ _ _ _ rfl⟩
/-- what a Take leaves. -/
def FRB (N : Nat) (w : World) (hv hv' : Value) (w' : World) : Prop := w.heap.size ≤ w'.heap.size ∧ (∀ k, k < w.heap.size → k ≠ N → hv.ownBlock ≠ some k → w'.heap[k]? = w.heap[k]?) ∧ ∀ k, hv'.ownBlock = some k → hv.ownBlock = some k ∨ w.heap.size ≤ k
/-- a list kept. -/
theorem BK.take {O : Nat → Value} {N C m : Nat} {V : Nat → Value} {hv : Value} {G : Nat → List EK} {w : World} {B : Nat} {v : Value} {l : List EK} (h0 : BK O N C m V hv G w) (o0 : OE w B v l) (hB : ∀ k, v.ownBlock = some k → C ≤ k ∧ hv.ownBlock ≠ some k ∧ ∀ j, j < m → (V j).ownBlock ≠ some k) (hm : m ≤ 4194304) :
    ∃ hv' w', (Builtin.append_ #[50, 50] 50 #[hv, .slice (some ⟨w.heap.size, 0, none⟩) 1 1]).run Tryz.prog (w.alloc (.cells #[v] 30)) = .ok hv' w' ∧ w'.cell? ⟨N, 6, none⟩ = some hv ∧ w'.frozen? ⟨N, 6, none⟩ = false ∧ BK O N C (m + 1) (fun j => if j = m then v else V j) hv' (fun j => if j = m then l else G j) (w'.setCell ⟨N, 6, none⟩ hv') ∧ Below N w (w'.setCell ⟨N, 6, none⟩ hv') ∧ FRB N w hv hv' (w'.setCell ⟨N, 6, none⟩ hv') := by
  obtain ⟨W, hW⟩ : ∃ W, W = w.alloc (.cells #[v] 30) := ⟨_, rfl⟩
  have bW : Below w.heap.size w W := by rw [hW]; exact (Below.refl _ w).alloc (Nat.le_refl _) _
  have sW : W.heap.size = w.heap.size + 1 := by rw [hW]; simp
  have hc : W.cell? ⟨w.heap.size, 0, none⟩ = some v := by rw [hW]; simp [go_sem]
  rw [← hW]
  have h := h0.below bW
  have o := o0.below bW (Nat.le_refl _)
  have vlt : ∀ k, v.ownBlock = some k → k < w.heap.size := fun k e => (o0.bound e).2
  have hlt0 : ∀ k, hv.ownBlock = some k → k < w.heap.size := fun k e => (h0.sp.hb k e).2
  have nw0 := h0.sp.nw
  obtain ⟨inf, i1, i0⟩ := Option.map_eq_some_iff.1 en_info2
  have i2 : inf.zero = some (.slice none 0 0) := congrArg (·.1) i0
  have i3 : inf.bytes = 24 := congrArg (·.2.1) i0
  have i4 : inf.size = 1 := congrArg (·.2.2) i0
  have hml : maxLen = 9223372036854775807 := by decide
  have own : W.ownsRow C 30 inf.size hv m (hdr V m) := by rw [i4]; exact h.st.hr
  have v1 : v.oneCell' = true := by
    obtain ⟨a, c, e, _⟩ := o.formO
    rw [e]; rfl
  obtain ⟨hv', w', hr, ho, hg, hb, _⟩ := append_keeps (P := Tryz.prog) W C 50 50 30 inf (.slice none 0 0) Tryz.underlying50 i1 i2 (by rw [i4]; rfl) (by omega) hv _ _ own ⟨w.heap.size, 0, none⟩ 1 1 [v] (by rw [i4]; rfl) (fun j u hj => by
    have : j = 0 := by have := (List.getElem?_eq_some_iff.1 hj).1; simp at this; omega
    subst this
    simp at hj
    subst hj
    exact hc) (fun u hu => by simp at hu; subst hu; exact v1) (by omega) (by omega) (by rw [i3]; omega) h.sp.cw
  rw [i4, ← hdr_snoc] at ho
  have hN : hv.ownBlock ≠ some N := fun e => by have := (h.sp.hb N e).1; have := h.sp.nC; omega
  have kN : w'.heap[N]? = W.heap[N]? := hg.block N h.sp.nw (fun e => hN e.symm)
  have cN : ∀ j, w'.cell? ⟨N, j, none⟩ = W.cell? ⟨N, j, none⟩ := fun j => World.cell?_of_block (w := W) (a := ⟨N, j, none⟩) kN
  have zN : ∀ j, w'.frozen? ⟨N, j, none⟩ = W.frozen? ⟨N, j, none⟩ := fun j => World.frozen?_of_block (w := W) (a := ⟨N, j, none⟩) kN
  have cF : w'.cell? ⟨N, 6, none⟩ = some hv := by rw [cN]; exact h.st.cF
  obtain ⟨W3, hW3⟩ : ∃ W3, W3 = w'.setCell ⟨N, 6, none⟩ hv' := ⟨_, rfl⟩
  have g3 : w'.grownBy W3 (some N) := by rw [hW3]; exact ⟨rfl, rfl, rfl, by simp, fun k hk q => Below.heap_setCell _ _ _ _ (fun e => q (by rw [e]))⟩
  have s3 : W3.heap.size = w'.heap.size := by rw [hW3]; simp
  have hvb : ∀ k, hv'.ownBlock = some k → C ≤ k ∧ k < W3.heap.size := fun k e => by rw [s3]; exact World.ownsRow.lt ho k e
  have hvn : ∀ k, hv'.ownBlock = some k → hv.ownBlock = some k ∨ k = W.heap.size := fun k e => by
    rcases hb with q | q
    · exact Or.inl (by rw [← q]; exact e)
    · rw [q] at e; injection e with e; exact Or.inr e.symm
  have cw := h.sp.cw
  have nC := h.sp.nC
  have sz := hg.size
  have oth : ∀ (u : Value), (∀ q, u.ownBlock = some q → hv.ownBlock ≠ some q) → u.ownBlock = none ∨ u.ownBlock ≠ hv.ownBlock := fun u hq => by
    cases hv0 : u.ownBlock with
    | none => exact Or.inl rfl
    | some k => exact Or.inr (fun e => hq k hv0 e.symm)
  have rowK : ∀ (u : Value) (B' : Nat) (l' : List EK), OE W B' u l' → (∀ q, u.ownBlock = some q → C ≤ q ∧ hv.ownBlock ≠ some q) → OE W3 B' u l' := fun u B' l' hu hq => World.ownsRow.kept (World.ownsRow.kept hu hg (oth u fun q e => (hq q e).2)) g3 (by
    cases hv0 : u.ownBlock with
    | none => exact Or.inl rfl
    | some k => exact Or.inr (fun e => by injection e with e; have := (hq k hv0).1; omega))
  have up : ∀ (u : Value) (B' : Nat) (l' : List EK), OE W3 B' u l' → (∀ q, u.ownBlock = some q → C ≤ q) → OE W3 C u l' := fun u B' l' hu hq => by
    refine ⟨hu.1, ?_⟩
    rcases hu.2 with h2 | ⟨g, cap, cur, e1, e2, e3⟩
    · exact Or.inl h2
    · exact Or.inr ⟨g, cap, cur, e1, hq g (by rw [e1]; rfl), e3⟩
  refine ⟨hv', w', hr, cF, by rw [zN]; exact h.fz 6, ?_⟩
  rw [← hW3]
  refine ⟨⟨⟨nC, by have := h.sp.nw; omega, by omega, fun i hi k e => ?_, hvb, fun i j hi hj hne k e e2 => ?_, fun i hi k e e2 => ?_⟩, ⟨?_, World.ownsRow.kept ho g3 (by
    cases hv0 : hv'.ownBlock with
    | none => exact Or.inl rfl
    | some k => exact Or.inr (fun e => by injection e with e; have := (hvb k hv0).1; omega)), fun j hj => ?_, BF.refl _ _ _⟩, fun j hj hne => ?_, fun j => ?_⟩, ?_, ?_⟩
  · by_cases c : i = m
    · simp only [if_pos c] at e; have := vlt k e; exact ⟨(hB k e).1, by omega⟩
    · simp only [if_neg c] at e; have := h0.sp.vb i (by omega) k e; omega
  · by_cases c : i = m
    · simp only [if_pos c] at e
      simp only [if_neg (show ¬ j = m by omega)] at e2
      exact (hB k e).2.2 j (by omega) e2
    · simp only [if_neg c] at e
      by_cases c2 : j = m
      · simp only [if_pos c2] at e2; exact (hB k e2).2.2 i (by omega) e
      · simp only [if_neg c2] at e2; exact h.sp.dis i j (by omega) (by omega) hne k e e2
  · by_cases c : i = m
    · simp only [if_pos c] at e
      rcases hvn k e2 with q | q
      · exact (hB k e).2.1 q
      · have := vlt k e; omega
    · simp only [if_neg c] at e
      rcases hvn k e2 with q | q
      · exact h.sp.hd i (by omega) k e q
      · have := (h0.sp.vb i (by omega) k e).2; omega
  · rw [hW3]; exact World.cell?_setCell_same _ _ _ cF
  · by_cases c : j = m
    · simp only [if_pos c]
      exact up v B l (rowK v B l o (fun q e => ⟨(hB q e).1, (hB q e).2.1⟩)) (fun q e => (hB q e).1)
    · simp only [if_neg c]
      exact rowK (V j) C _ (h.st.rows j (by omega)) (fun q e => ⟨(h.sp.vb j (by omega) q e).1, h.sp.hd j (by omega) q e⟩)
  · rw [hW3, World.cell?_setCell_other _ _ _ _ (by intro e; injection e; omega), cN]; exact h.nil j hj hne
  · rw [hW3, World.frozen?_setCell, zN]; exact h.fz j
  · have b1 : Below N w W := below_less bW (by omega)
    have b2 : Below N W w' := (Below.refl N W).grown hg (by omega) (fun k e => by have := (h.sp.hb k e).1; omega)
    have b3 : Below N w' W3 := (Below.refl N w').grown g3 (by omega) (fun k e => by injection e with e; omega)
    exact below_trans (below_trans b1 b2) b3
  · refine ⟨by omega, fun k hk hne hh => ?_, fun k e => ?_⟩
    · rw [g3.block k (by omega) (fun e => hne (by injection e)), hg.block k (by omega) (fun e => hh e.symm)]
      exact bW.block k hk
    · rcases hvn k e with q | q
      · exact Or.inl q
      · exact Or.inr (by omega)
end Go.Proofs.YtbojljmacheccaaGreatDoor.Bk6

