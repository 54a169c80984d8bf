
import Derived.Test.YticgapplpfaigaaGreatWkA
namespace Go.Proofs.YticgapplpfaigaaGreat
open Go.RowKit
set_option linter.unusedVariables false
set_option linter.unusedSimpArgs false
theorem copyS (W : World) (a : Option Addr) (cap : Nat) (l : List Smp) (h : LIn W a l) (hn : l.length ≤ 4398046511104) : ∃ a' c' w', (Builtin.append_ #[62, 62] 62 #[.slice (some ⟨W.heap.size, 0, none⟩) 0 0, .slice a l.length cap]).run Tryz.prog (W.alloc (.cells #[] 89)) = .ok (.slice a' l.length c') w' ∧ LIn w' a' l ∧ Below W.heap.size W w' := by
  have hB : Below W.heap.size W (W.alloc (.cells #[] 89)) := below_new (Below.refl _ W) _
  have hA := h.below hB (Nat.le_refl _)
  rcases h.2 with e | ⟨b, off, e, hb, hc⟩
  · subst e
    exact ⟨_, _, _, app_no _ _ _ 0 0 cap (Nat.le_refl _), ⟨by simp, Or.inl rfl⟩, hB⟩
  · subst e
    rcases Nat.eq_zero_or_pos l.length with h0 | h0
    · have e := List.eq_nil_of_length_eq_zero h0
      subst e
      exact ⟨_, _, _, app_no _ _ _ 0 0 cap (Nat.le_refl _), ⟨by simp, Or.inl rfl⟩, hB⟩
    · obtain ⟨g, c, w', hr, own, gr, hat, hlt⟩ := app_row (W.alloc (.cells #[] 89)) W.heap.size (.slice (some ⟨W.heap.size, 0, none⟩) 0 0) [] l (Or.inr ⟨rfl, _, rfl, Nat.le_refl _, by simp⟩) (by simp) ⟨b, off, none⟩ cap (LIn.news hA).1 h0 (by simp; omega)
      simp only [List.length_nil, Nat.zero_add, List.nil_append] at hr own
      obtain ⟨a2, c2, e2, _, hL⟩ := OR.lin (Or.inl own) h.1
      refine ⟨_, _, w', hr, ?_, hB.grown gr (by simp) (fun k e => ?_)⟩
      · cases e2; exact hL
      · simp [Value.ownBlock] at e; omega
/-- where a row of deltas lies. -/
theorem dl_cells {w wr : World} {T M : Nat} {v : Value} {D : List Dlt} (h : w.ownsRow M 95 10 v D.length (encD D)) (hT : ∀ g, v.ownBlock = some g → g < T) (hB : Below T w wr) {k : Nat} {d : Dlt} (hd : D[k]? = some d) : ∃ g c, v = .slice (some ⟨g, 0, none⟩) D.length c ∧ g < T ∧ ∀ j, j < 10 → wr.cell? ⟨g, k * 10 + j, none⟩ = d.enc[j]? := by
  have hk := (List.getElem?_eq_some_iff.1 hd).1
  rcases h.2 with ⟨e, e0⟩ | ⟨g, cap, cur, e1, _⟩
  · omega
  · have hg := hT g (by rw [e1]; rfl)
    refine ⟨g, cap, e1, hg, fun j hj => ?_⟩
    rw [hB.cell (p := ⟨g, k * 10 + j, none⟩) hg]
    subst e1
    have hz : k * 10 + j < (encD D).length := by rw [encD_len]; omega
    have := h.cells (g := g) rfl (k * 10 + j) _ (List.getElem?_eq_getElem hz)
    rw [smp_add, Nat.zero_add] at this
    rw [this, ← List.getElem?_eq_getElem hz, encD_get D k d hd j hj]
/-- while the samples are walked through. -/
structure WkS (T xb : Nat) (X : List Smp) (wT wr : World) (v2 : Value) (k : Nat) : Prop where
  s2 : SS T T v2 (X.take k) wr
  ne : v2.ownBlock ≠ some xb
  b : Below T wT wr
  hx : T < xb
  hl : xb < wr.heap.size
/-- the variable of a sample. -/
structure XC (xb : Nat) (s : Smp) (wr : World) : Prop where
  c0 : wr.cell? ⟨xb, 0, none⟩ = some (.int .i64 s.t)
  c1 : wr.cell? ⟨xb, 1, none⟩ = some (.int .u8 (s.k : Int))
  c2 : wr.cell? ⟨xb, 2, none⟩ = some (.int .i64 s.x)
  f0 : wr.frozen? ⟨xb, 0, none⟩ = false
  f1 : wr.frozen? ⟨xb, 1, none⟩ = false
  f2 : wr.frozen? ⟨xb, 2, none⟩ = false
theorem XC.keep {xb : Nat} {s : Smp} {w w' : World} (h : XC xb s w) (e : w'.heap[xb]? = w.heap[xb]?) : XC xb s w' :=
  ⟨by rw [World.cell?_of_block (w := w) e]; exact h.c0, by rw [World.cell?_of_block (w := w) e]; exact h.c1, by rw [World.cell?_of_block (w := w) e]; exact h.c2, by rw [frozen_block e]; exact h.f0, by rw [frozen_block e]; exact h.f1, by rw [frozen_block e]; exact h.f2⟩
theorem WkS.below {T xb : Nat} {X : List Smp} {wT wr w' : World} {v2 : Value} {k : Nat} (h : WkS T xb X wT wr v2 k) (hb : Below wr.heap.size wr w') (hT : T ≤ wr.heap.size) : WkS T xb X wT w' v2 k :=
  ⟨h.s2.below hb, h.ne, h.b.trans (hb.mono hT), h.hx, Nat.lt_of_lt_of_le h.hl hb.size⟩
end Go.Proofs.YticgapplpfaigaaGreat
