
import Derived.Test.YtcglgfcmhhbeaaaHtC
namespace Go.Proofs.Ytcglgfcmhhbeaaa.Hp
open Go.RowKit Go.Maps
set_option linter.unusedVariables false
set_option linter.unusedSimpArgs false
set_option maxRecDepth 100000
/-- while the rows are grown: those behind it are in A, told by av. -/
structure P2 (w0 : World) (N C m : Nat) (V : Nat → Value) (hv : Value) (Lf : Nat → List Ent) (S0 i : Nat) (A : Nat → Value) (av : Value) (wr : World) : Prop where
  st : AS w0 N C m V hv (rep Lf) wr
  alls : ∀ j, j < i → OE wr C (A j) (rep2 Lf j 20)
  ab : ∀ j, j < i → ∀ k, (A j).ownBlock = some k → (V j).ownBlock = some k ∨ S0 ≤ k
  ar : HRw wr S0 av i A
  aA : ∀ j, j < i → ∀ k, (A j).ownBlock = some k → av.ownBlock ≠ some k
  s0 : S0 ≤ wr.heap.size
  w0 : w0.heap.size ≤ S0
theorem P2.below {w0 wr w' : World} {N C m S0 i : Nat} {V A : Nat → Value} {hv av : Value} {Lf : Nat → List Ent} (h : P2 w0 N C m V hv Lf S0 i A av wr) (s : SPV w0 N C m V hv) (hb : Below wr.heap.size wr w') : P2 w0 N C m V hv Lf S0 i A av w' :=
  ⟨h.st.below s hb, fun j hj => (h.alls j hj).below hb (Nat.le_refl _), h.ab, h.ar.below hb (Nat.le_refl _), h.aA, Nat.le_trans h.s0 hb.size, h.w0⟩
/-- the one in hand. -/
structure PG (w0 : World) (N C m : Nat) (V : Nat → Value) (hv : Value) (Lf : Nat → List Ent) (S0 i : Nat) (A : Nat → Value) (av : Value) (E k : Nat) (g : Value) (wr : World) : Prop where
  p : P2 w0 N C m V hv Lf S0 i A av wr
  go : OE wr C g (rep2 Lf i k)
  gb : ∀ q, g.ownBlock = some q → (V i).ownBlock = some q ∨ E ≤ q
  aE : ∀ j, j < i → ∀ q, (A j).ownBlock = some q → q < E
  vE : ∀ q, av.ownBlock = some q → S0 ≤ q ∧ q < E
  sE : S0 ≤ E
  Ew : E ≤ wr.heap.size
theorem PG.below {w0 wr w' : World} {N C m S0 i E k : Nat} {V A : Nat → Value} {hv av g : Value} {Lf : Nat → List Ent} (h : PG w0 N C m V hv Lf S0 i A av E k g wr) (s : SPV w0 N C m V hv) (hb : Below wr.heap.size wr w') : PG w0 N C m V hv Lf S0 i A av E k g w' :=
  ⟨h.p.below s hb, h.go.below hb (Nat.le_refl _), h.gb, h.aE, h.vE, h.sE, Nat.le_trans h.Ew hb.size⟩
theorem PG.start {w0 wr : World} {N C m S0 i : Nat} {V A : Nat → Value} {hv av : Value} {Lf : Nat → List Ent} (h : P2 w0 N C m V hv Lf S0 i A av wr) (hi : i < m) : PG w0 N C m V hv Lf S0 i A av wr.heap.size 0 (V i) wr :=
  ⟨h, by rw [rep2_zero]; exact h.st.rows i hi, fun q e => Or.inl e, fun j hj q e => ((h.alls j hj).bound e).2, fun q e => World.ownsRow.lt h.ar q e, h.s0, Nat.le_refl _⟩
theorem enIn_one' (x : Ent) (W : World) : EnIn (W.alloc (.cells #[.int .i64 x.1, .string x.2] 24)) (some ⟨W.heap.size, 0, none⟩) [x] := Or.inr ⟨_, _, rfl, by simp, fun j t ht => by
  have hj : j < 1 := (List.getElem?_eq_some_iff.1 ht).1
  have : j = 0 := by omega
  subst this
  injection ht with ht
  subst ht
  constructor <;> simp [go_sem]⟩
theorem PG.grow {w0 wr : World} {N C m S0 i E k : Nat} {V A : Nat → Value} {hv av g : Value} {Lf : Nat → List Ent} (h0 : PG w0 N C m V hv Lf S0 i A av E k g wr) (s : SPV w0 N C m V hv) (hi : i < m) (hn : (Lf i).length ≤ 1048576) (hk : k ≤ 20) :
    ∃ g' w', (Builtin.append_ #[28, 28] 28 #[g, .slice (some ⟨wr.heap.size, 0, none⟩) 1 1]).run Try.prog (wr.alloc (.cells #[.int .i64 (xx i).1, .string (xx i).2] 24)) = .ok g' w' ∧ PG w0 N C m V hv Lf S0 i A av E (k + 1) g' w' := by
  obtain ⟨W, hW⟩ : ∃ W, W = wr.alloc (.cells #[.int .i64 (xx i).1, .string (xx i).2] 24) := ⟨_, rfl⟩
  have bW : Below wr.heap.size wr W := by rw [hW]; exact (Below.refl _ wr).alloc (Nat.le_refl _) _
  have sW : W.heap.size = wr.heap.size + 1 := by rw [hW]; simp
  have hE := enIn_one' (xx i) wr
  rw [← hW] at hE ⊢
  have h := h0.below s bW
  obtain ⟨inf, i1, i0⟩ := Option.map_eq_some_iff.1 en_info
  have i2 : inf.zero = some (.agg #[.int .i64 0, .string ⟨#[]⟩]) := congrArg (·.1) i0
  have i3 : inf.bytes = 24 := congrArg (·.2.1) i0
  have i4 : inf.size = 2 := congrArg (·.2.2) i0
  have hml : maxLen = 9223372036854775807 := by decide
  have lg : (rep2 Lf i k).length = (Lf i).length + k := by simp [rep2]
  have own : W.ownsRow C 24 inf.size g (rep2 Lf i k).length (encE (rep2 Lf i k)) := by rw [i4]; exact h.go
  have cw := s.cw
  have w0S := h.p.w0
  have sz := h.p.st.bf.size
  obtain ⟨g', w', hr, ho, hg, hb, hk'⟩ := append_keeps (P := Try.prog) W C 28 28 24 inf (.agg #[.int .i64 0, .string ⟨#[]⟩]) Try.underlying28 i1 i2 (by rw [i4]; rfl) (by omega) g _ _ own ⟨wr.heap.size, 0, none⟩ 1 1 (encE [xx i]) (by rw [i4]; rfl) hE.news (encE_one _) (by omega) (by rw [lg]; omega) (by rw [lg, i3]; omega) (by omega)
  rw [i4] at ho hk'
  have gC : ∀ q, g.ownBlock = some q → C ≤ q := fun q e => (h.go.bound e).1
  have gN : ∀ q, g.ownBlock = some q → q ≠ N := fun q e => by have := gC q e; have := s.nC; omega
  have gV : ∀ j, j < m → j ≠ i → ∀ q, g.ownBlock = some q → (V j).ownBlock ≠ some q := fun j hj hne q e e2 => by
    rcases h.gb q e with c | c
    · exact s.dis i j hi hj (fun q => hne q.symm) q c e2
    · have := (s.vb j hj q e2).2; have := h.sE; omega
  have gH : ∀ q, g.ownBlock = some q → hv.ownBlock ≠ some q := fun q e e2 => by
    rcases h.gb q e with c | c
    · exact s.hd i hi q c e2
    · have := (s.hb q e2).2; have := h.sE; omega
  have gA : ∀ j, j < i → ∀ q, g.ownBlock = some q → (A j).ownBlock ≠ some q := fun j hj q e e2 => by
    have lt := h.aE j hj q e2
    rcases h.gb q e with c | c
    · rcases h.p.ab j hj q e2 with d | d
      · exact s.dis i j hi (by omega) (by omega) q c d
      · have := (s.vb i hi q c).2; omega
    · omega
  have gv : ∀ q, g.ownBlock = some q → av.ownBlock ≠ some q := fun q e e2 => by
    obtain ⟨q1, q2⟩ := h.vE q e2
    rcases h.gb q e with c | c
    · have := (s.vb i hi q c).2; omega
    · omega
  have oth : ∀ (v : Value), (∀ q, g.ownBlock = some q → v.ownBlock ≠ some q) → v.ownBlock = none ∨ v.ownBlock ≠ g.ownBlock := fun v hq => by
    cases hv0 : v.ownBlock with
    | none => exact Or.inl rfl
    | some k => exact Or.inr (fun e => hq k e.symm hv0)
  refine ⟨g', w', hr, ⟨⟨⟨?_, World.ownsRow.kept h.p.st.hr hg (oth hv gH), fun j hj => ?_, h.p.st.bf.step hg (fun q e hq => ?_)⟩, fun j hj => ?_, h.p.ab, World.ownsRow.kept h.p.ar hg (oth av gv), h.p.aA, Nat.le_trans h.p.s0 hg.size, h.p.w0⟩, ?_, fun q e => ?_, h.aE, h.vE, h.sE, Nat.le_trans h.Ew hg.size⟩⟩
  · rw [World.cell?_of_block (w := W) (a := ⟨N, 12, none⟩) (hg.block N (by have := s.nw; omega) (fun e => gN N e.symm rfl))]
    exact h.p.st.c12
  · refine hk' C (V j) _ _ (h.p.st.rows j hj) (fun e => ?_)
    by_cases c : j = i
    · subst c; rw [lg]; simp [rep]
    · cases hg0 : g.ownBlock with
      | some q => exact absurd (by rw [e, hg0]) (gV j hj c q hg0)
      | none =>
        have hz : (rep Lf j).length = 0 := by
          rcases (h.p.st.rows j hj).2 with ⟨_, z⟩ | ⟨_, _, _, z, _⟩
          · exact z
          · rw [z, hg0] at e; cases e
        omega
  · rcases h.gb q e with c | c
    · exact ⟨i, hi, c⟩
    · have := h.sE; omega
  · refine hk' C (A j) _ _ (h.p.alls j hj) (fun e => ?_)
    cases hg0 : g.ownBlock with
    | some q => exact absurd (by rw [e, hg0]) (gA j hj q hg0)
    | none =>
      have hz : (rep2 Lf j 20).length = 0 := by
        rcases (h.p.alls j hj).2 with ⟨_, z⟩ | ⟨_, _, _, z, _⟩
        · exact z
        · rw [z, hg0] at e; cases e
      omega
  · rw [rep2_succ]
    unfold OE
    rw [List.length_append, encE_append]
    exact ho
  · rcases hb with c | c
    · exact h.gb q (by rw [← c]; exact e)
    · rw [c] at e; injection e with e; have := h.Ew; exact Or.inr (by omega)
/-- the grown one behind the others. -/
theorem PG.next {w0 wr : World} {N C m S0 i E : Nat} {V A : Nat → Value} {hv av g : Value} {Lf : Nat → List Ent} (h0 : PG w0 N C m V hv Lf S0 i A av E 20 g wr) (s : SPV w0 N C m V hv) (hi : i < m) (hm : m ≤ 4) :
    ∃ av' w', (Builtin.append_ #[42, 42] 42 #[av, .slice (some ⟨wr.heap.size, 0, none⟩) 1 1]).run Try.prog (wr.alloc (.cells #[g] 28)) = .ok av' w' ∧ P2 w0 N C m V hv Lf S0 (i + 1) (fun j => if j = i then g else A j) av' w' := by
  obtain ⟨W, hW⟩ : ∃ W, W = wr.alloc (.cells #[g] 28) := ⟨_, rfl⟩
  have bW : Below wr.heap.size wr W := by rw [hW]; exact (Below.refl _ wr).alloc (Nat.le_refl _) _
  have sW : W.heap.size = wr.heap.size + 1 := by rw [hW]; simp
  have hc : W.cell? ⟨wr.heap.size, 0, none⟩ = some g := by rw [hW]; simp [go_sem]
  rw [← hW]
  have h := h0.below s bW
  obtain ⟨inf, i1, i0⟩ := Option.map_eq_some_iff.1 en_info2
  have i2 : inf.zero = some (.slice none 0 0) := congrArg (·.1) i0
  have i3 : inf.bytes = 24 := congrArg (·.2.1) i0
  have i4 : inf.size = 1 := congrArg (·.2.2) i0
  have hml : maxLen = 9223372036854775807 := by decide
  have own : W.ownsRow S0 28 inf.size av i (hdr A i) := by rw [i4]; exact h.p.ar
  have cw := s.cw
  have g1 : g.oneCell' = true := by
    obtain ⟨a, c, e, _⟩ := h.go.formO
    rw [e]; rfl
  obtain ⟨av', w', hr, ho, hg, hb, _⟩ := append_keeps (P := Try.prog) W S0 42 42 28 inf (.slice none 0 0) Try.underlying42 i1 i2 (by rw [i4]; rfl) (by omega) av _ _ own ⟨wr.heap.size, 0, none⟩ 1 1 [g] (by rw [i4]; rfl) (fun j u hj => by
    have : j = 0 := by have := (List.getElem?_eq_some_iff.1 hj).1; simp at this; omega
    subst this
    simp at hj
    subst hj
    exact hc) (fun u hu => by simp at hu; subst hu; exact g1) (by omega) (by omega) (by rw [i3]; omega) h.p.s0
  rw [i4] at ho
  have w0S := h.p.w0
  have sz := h.p.st.bf.size
  have vS : ∀ q, av.ownBlock = some q → S0 ≤ q ∧ q < E := h.vE
  have oth : ∀ (v : Value), (∀ q, v.ownBlock = some q → av.ownBlock ≠ some q) → v.ownBlock = none ∨ v.ownBlock ≠ av.ownBlock := fun v hq => by
    cases hv0 : v.ownBlock with
    | none => exact Or.inl rfl
    | some k => exact Or.inr (fun e => hq k hv0 e.symm)
  have low : ∀ q, q < w0.heap.size → av.ownBlock ≠ some q := fun q hq e => by have := (vS q e).1; omega
  have gav : ∀ q, g.ownBlock = some q → av.ownBlock ≠ some q := fun q e e2 => by
    obtain ⟨q1, q2⟩ := vS q e2
    rcases h.gb q e with c | c
    · have := (s.vb i hi q c).2; omega
    · omega
  have gS : ∀ q, g.ownBlock = some q → (V i).ownBlock = some q ∨ S0 ≤ q := fun q e => by
    rcases h.gb q e with c | c
    · exact Or.inl c
    · exact Or.inr (Nat.le_trans h.sE c)
  refine ⟨av', w', hr, ⟨⟨?_, World.ownsRow.kept h.p.st.hr hg (oth hv fun q e => low q (s.hb q e).2), fun j hj => World.ownsRow.kept (h.p.st.rows j hj) hg (oth (V j) fun q e => low q (s.vb j hj q e).2), h.p.st.bf.step hg (fun q e hq => absurd e (low q hq))⟩, fun j hj => ?_, fun j hj k e => ?_, ?_, fun j hj k e => ?_, Nat.le_trans h.p.s0 hg.size, h.p.w0⟩⟩
  · rw [World.cell?_of_block (w := W) (a := ⟨N, 12, none⟩) (hg.block N (by have := s.nw; omega) (fun e => low N s.nw e.symm))]
    exact h.p.st.c12
  · by_cases c : j = i
    · subst c
      simp only [if_true]
      exact World.ownsRow.kept h.go hg (oth g gav)
    · rw [if_neg c]
      exact World.ownsRow.kept (h.p.alls j (by omega)) hg (oth (A j) fun q e => h.p.aA j (by omega) q e)
  · by_cases c : j = i
    · subst c
      simp only [if_true] at e
      exact gS k e
    · rw [if_neg c] at e
      exact h.p.ab j (by omega) k e
  · show w'.ownsRow S0 28 1 av' (i + 1) (hdr (fun j => if j = i then g else A j) (i + 1))
    rw [hdr_snoc]
    exact ho
  · rcases hb with q | q
    · rw [q]
      by_cases c : j = i
      · subst c; simp only [if_true] at e; exact gav k e
      · rw [if_neg c] at e; exact h.p.aA j (by omega) k e
    · rw [q]
      intro e2
      injection e2 with e2
      by_cases c : j = i
      · subst c; simp only [if_true] at e; have := (h.go.bound e).2; omega
      · rw [if_neg c] at e; have := ((h.p.alls j (by omega)).bound e).2; omega
end Go.Proofs.Ytcglgfcmhhbeaaa.Hp
