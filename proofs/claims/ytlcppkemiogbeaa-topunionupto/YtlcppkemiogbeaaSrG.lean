
import Derived.Test.YtlcppkemiogbeaaSrF
namespace Go.Proofs.Ytlcppkemiogbeaa.Ser
open Go.RowKit
set_option linter.unusedVariables false
set_option linter.unusedSimpArgs false
theorem step_append_run {P : Program} {ops : Array Oper} {o : Oper} {a : Act} {w : World} {K : Act → World → Prop} {Q : Exit → Act → World → Prop} {E : Prop}
    (hg : o.guard = none) (s x : Operand) (t : TypeId) (hop : o.op = Op.call { callee := Callee.builtin Builtin.append, args := #[s, x], argTypes := #[t, t] })
    (v y v' : Value) (w' : World) (hs : a.eval s = v) (hx : a.eval x = y) (hr : (Builtin.append_ #[t, t] o.type #[v, y]).run P w = .ok v' w') (hK : K (a.put o.dst v') w') :
    if Region.wanted o (yielded ops a.tmps) = true then Oper.wp P o a w K Q else E := by
  have hw : Region.wanted o (yielded ops a.tmps) = true := by simp [Region.wanted, hg]
  rw [if_pos hw]
  unfold Oper.wp execOp
  simp only [hop, resolve, invoke, builtin, Sem.run_bind, Sem.run_pure, Result.andThen_ok, List.map_toArray, List.map_cons, List.map_nil, hs, hx, hr]
  exact hK
theorem cut_sub (l : List Smp) (a b : Nat) (h : a ≤ b) : (l.take a ++ l.drop b).Sublist l := by
  conv => rhs; rw [← List.take_append_drop a l]
  refine List.Sublist.append (List.Sublist.refl _) ?_
  rw [show b = a + (b - a) by omega, ← List.drop_drop]
  exact List.drop_sublist _ _
/-- samples behind a row's beginning appended to it. -/
theorem app_cut (W : World) (B g cap : Nat) (l : List Smp) (a b : Nat) (own : W.ownsRow B 35 3 (.slice (some ⟨g, 0, none⟩) l.length cap) l.length (encL l)) (hab : a ≤ b) (hbl : b ≤ l.length) (hn : l.length ≤ 2199023255552) (hB : B ≤ W.heap.size) (ad : Addr) (c : Nat) (had : b < l.length → ad = ⟨g, b * 3, none⟩) :
    ∃ g1 cap1 w', (Builtin.append_ #[29, 29] 29 #[.slice (some ⟨g, 0, none⟩) a cap, .slice (some ad) (l.length - b) c]).run Try.prog W = .ok (.slice (some ⟨g1, 0, none⟩) (a + (l.length - b)) cap1) w' ∧ w'.ownsRow B 35 3 (.slice (some ⟨g1, 0, none⟩) (a + (l.length - b)) cap1) (a + (l.length - b)) (encL (l.take a ++ l.drop b)) ∧ W.grownBy w' (some g) ∧ (g1 = g ∨ g1 = W.heap.size) := by
  obtain ⟨i, i1, i0⟩ := Option.map_eq_some_iff.1 smp_info
  have i2 : i.zero = some (.agg #[.int .i64 0, .int .u8 0, .int .i64 0]) := congrArg (·.1) i0
  have i3 : i.bytes = 24 := congrArg (·.2.1) i0
  have i4 : i.size = 3 := congrArg (·.2.2) i0
  have hml : maxLen = 9223372036854775807 := by decide
  have own2 := own_take own rfl (by omega : a ≤ l.length)
  have hcl := own.cells (g := g) rfl
  obtain ⟨v', w', hr, ho, hg, hnil, hat⟩ := run_append_own_at (P := Try.prog) W B 29 29 35 i (.agg #[.int .i64 0, .int .u8 0, .int .i64 0]) 3 24 Try.underlying29 i1 i2 i4 i3 rfl (by omega) _ a _ own2 ad (l.length - b) c (encL (l.drop b)) (by rw [encL_len, List.length_drop]) (fun j u hj => by
    have hj3 : j < (l.length - b) * 3 := by have := (List.getElem?_eq_some_iff.1 hj).1; rw [encL_len, List.length_drop] at this; exact this
    rw [had (by omega), smp_add]
    rw [encL_drop, List.getElem?_drop] at hj
    have := hcl _ _ hj
    rw [smp_add, Nat.zero_add] at this; exact this) (encL_one _) (by omega) (by omega) hB
  rw [← encL_append] at ho
  rcases ho.2 with ⟨hq, _⟩ | ⟨g1, c1, cur, hq, _⟩
  · have := hnil.1 hq; simp at this
  · subst hq
    refine ⟨g1, c1, w', hr, ho, hg, ?_⟩
    rcases hat with e | e
    · simp [Value.ownBlock] at e; exact Or.inl e
    · simp [Value.ownBlock] at e; exact Or.inr e
theorem app_none (W : World) (a ad : Option Addr) (c : Nat) : (Builtin.append_ #[29, 29] 29 #[.slice a 0 0, .slice ad 0 c]).run Try.prog W = .ok (.slice a 0 0) W := by
  obtain ⟨i, i1, i0⟩ := Option.map_eq_some_iff.1 smp_info
  cases a <;> cases ad <;> simp [Builtin.append_, run_underlying Try.underlying29, sizeOf, typeInfo, i1, Builtin.lenOf, Builtin.firstCells, storeCells, loadCells, loadCellsFrom]
theorem SS.put {N B : Nat} {v v2 : Value} {l l2 : List Smp} {w w2 : World} (h : SS N B v l w) (gr : w.grownBy w2 v.ownBlock) (row : OR w2 B v2 l2) (hat : v2.ownBlock = v.ownBlock ∨ ∃ k, v2.ownBlock = some k ∧ w.heap.size ≤ k) (hk : ∀ s ∈ l2, s.ok) (hr : Rise l2) (hn : l2.length ≤ 2199023255552) :
    SS N B v2 l2 (w2.setCell ⟨N, 0, none⟩ v2) ∧ SFr N v v2 w (w2.setCell ⟨N, 0, none⟩ v2) := by
  have hNl := h.hN
  have hne2 : v2.ownBlock ≠ some N := by
    rcases hat with e | ⟨k, e, hk⟩
    · rw [e]; exact h.ne
    · rw [e]; intro e'; injection e' with e'; omega
  have c1 : w2.cell? ⟨N, 0, none⟩ = some v := (gr.cell_far ⟨N, 0, none⟩ hNl h.ne.symm).trans h.c0
  have f1 : w2.frozen? ⟨N, 0, none⟩ = false := (gr.frozen_far ⟨N, 0, none⟩ hNl h.ne.symm).trans h.f0
  have hkb : ∀ j, j ≠ N → (w2.setCell ⟨N, 0, none⟩ v2).heap[j]? = w2.heap[j]? := fun j hj => Below.heap_setCell _ _ _ _ hj
  refine ⟨⟨World.cell?_setCell_same _ _ _ c1, by simpa using f1, row.keep (by simp) (fun g e => hkb g (fun e' => hne2 (by rw [e, e']))), hne2, by have := gr.size; simp; omega, h.hB, hk, hr, hn⟩, ⟨⟨gr.os, gr.tape, gr.output, by have := gr.size; simpa using this, fun j hj => absurd hj (Nat.not_lt_zero _)⟩, fun j hj hn ho => by rw [hkb j hn]; exact gr.block j hj ho, hat⟩⟩
end Go.Proofs.Ytlcppkemiogbeaa.Ser
