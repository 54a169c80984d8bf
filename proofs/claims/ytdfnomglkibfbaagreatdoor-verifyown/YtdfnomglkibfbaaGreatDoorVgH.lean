
import Derived.Test.YtdfnomglkibfbaaGreatDoorVgG
namespace Go.Proofs.YtdfnomglkibfbaaGreatDoor.Vf
open Go.RowKit
set_option linter.unusedVariables false
set_option linter.unusedSimpArgs false
set_option maxRecDepth 100000
/-- the five cells of a Bad in a box of one's own, none yet. -/
def Bd5 (w : World) (g : Nat) : Prop := g < w.heap.size ∧ (∀ k, k < 5 → w.frozen? ⟨g, k, none⟩ = false) ∧ w.cell? ⟨g, 0, none⟩ = some (.int .i64 0) ∧ w.cell? ⟨g, 1, none⟩ = some (.int .i64 0) ∧ w.cell? ⟨g, 2, none⟩ = some (.int .i64 0) ∧ w.cell? ⟨g, 3, none⟩ = some (.bool false) ∧ w.cell? ⟨g, 4, none⟩ = some (.bool false)
theorem Bd5.below {w w' : World} {g n : Nat} (h : Bd5 w g) (hB : Below n w w') (hn : g < n) : Bd5 w' g := by
  obtain ⟨h1, h2, h3, h4, h5, h6, h7⟩ := h
  exact ⟨Nat.lt_of_lt_of_le h1 hB.size, fun k hk => by rw [hB.frozen (p := ⟨g, k, none⟩) hn]; exact h2 k hk, by rw [hB.cell (p := ⟨g, 0, none⟩) hn]; exact h3, by rw [hB.cell (p := ⟨g, 1, none⟩) hn]; exact h4, by rw [hB.cell (p := ⟨g, 2, none⟩) hn]; exact h5, by rw [hB.cell (p := ⟨g, 3, none⟩) hn]; exact h6, by rw [hB.cell (p := ⟨g, 4, none⟩) hn]; exact h7⟩
theorem Bd5.new (w : World) : Bd5 (w.alloc (.cells #[.int .i64 0, .int .i64 0, .int .i64 0, .bool false, .bool false] 36)) w.heap.size := by
  refine ⟨by simp, fun k hk => ?_, ?_, ?_, ?_, ?_, ?_⟩ <;> simp [go_sem]
theorem set5_below {w W : World} {n g : Nat} (h : Below n w W) (hg : n ≤ g) (v0 v1 v2 v3 v4 : Value) : Below n w (((((W.setCell ⟨g, 0, none⟩ v0).setCell ⟨g, 1, none⟩ v1).setCell ⟨g, 2, none⟩ v2).setCell ⟨g, 3, none⟩ v3).setCell ⟨g, 4, none⟩ v4) := ((((h.setCell (p := ⟨g, 0, none⟩) hg _).setCell (p := ⟨g, 1, none⟩) hg _).setCell (p := ⟨g, 2, none⟩) hg _).setCell (p := ⟨g, 3, none⟩) hg _).setCell (p := ⟨g, 4, none⟩) hg _
theorem wpList_store_run {P : Program} {ops : Array Oper} {rest : List Oper} {o : Oper} {a : Act} {Q : Exit → Act → World → Prop} {w : World} (hgd : o.guard = none) (p x : Operand) (t : TypeId)
    (ho : o.op = .store t p x) (v y : Value) (w' : World) (hs : a.eval p = v) (hx : a.eval x = y) (hr : (Instr.storeAt t v y).run P w = .ok () w')
    (h : wpList P ops Q rest (a.put o.dst undef) w') : wpList P ops Q (o :: rest) a w := by
  refine wpList_plain hgd fun K hK => ?_
  unfold Oper.wp execOp
  simp only [ho, Sem.run_bind, Sem.run_pure, Result.andThen_ok, hs, hx, hr]
  exact hK _ _ h
/-- an error stored whole. -/
theorem store_bad {W : World} {g : Nat} (h : Bd5 W g) (c p : Int) (b : Bool) : ∃ W2, (Instr.storeAt 36 (.pointer (some ⟨g, 0, none⟩)) (badV c p b)).run Tryz.prog W = .ok () W2 ∧ W2.cell? ⟨g, 0, none⟩ = some (.int .i64 c) ∧ W2.cell? ⟨g, 1, none⟩ = some (.int .i64 p) ∧ W2.cell? ⟨g, 2, none⟩ = some (.int .i64 0) ∧ W2.cell? ⟨g, 3, none⟩ = some (.bool b) ∧ W2.cell? ⟨g, 4, none⟩ = some (.bool false) ∧ ∀ (n : Nat) (w : World), Below n w W → n ≤ g → Below n w W2 := by
  obtain ⟨h1, hf, k0, k1, k2, k3, k4⟩ := h
  have f0 := hf 0 (by omega)
  have f1 := hf 1 (by omega)
  have f2 := hf 2 (by omega)
  have f3 := hf 3 (by omega)
  have f4 := hf 4 (by omega)
  refine ⟨((((W.setCell ⟨g, 0, none⟩ (.int .i64 c)).setCell ⟨g, 1, none⟩ (.int .i64 p)).setCell ⟨g, 2, none⟩ (.int .i64 0)).setCell ⟨g, 3, none⟩ (.bool b)).setCell ⟨g, 4, none⟩ (.bool false), ?_, ?_, ?_, ?_, ?_, ?_, fun n w hb hn => set5_below hb hn _ _ _ _ _⟩
  · unfold badV
    simp [go_sem, k0, k1, k2, k3, k4, f0, f1, f2, f3, f4, Tryz.sizeOf36, Instr.storeAt, storeVar]
  all_goals simp [go_sem, k0, k1, k2, k3, k4]
/-- what is told of instructions that begin at a place. -/
def bdO (begin_ : Nat) : Option (Nat × Int) → Value
  | none => badV 0 0 false
  | some (k, e) => badV e ((begin_ : Int) + (k : Int)) true
theorem first_drop {bad : Nat → InP → Int} {l : List InP} {k : Nat} {t : InP} (h : l[k]? = some t) : firstBad bad (l.drop k) k = if bad k t = 0 then firstBad bad (l.drop (k + 1)) (k + 1) else some (k, bad k t) := by
  obtain ⟨hl, he⟩ := List.getElem?_eq_some_iff.1 h
  rw [List.drop_eq_getElem_cons hl, he]; rfl
/-- boxes in which it works. -/
def EW (w : World) (p : PrH) (W : World) : Prop := Below w.heap.size w W ∧ PB W w.heap.size p ∧ Bd5 W (w.heap.size + 1)
theorem EW.below {w W W' : World} {p : PrH} (h : EW w p W) (hb : Below W.heap.size W W') : EW w p W' := ⟨h.1.trans (hb.mono h.1.size), h.2.1.below hb h.2.1.1, h.2.2.below hb h.2.2.1⟩
theorem EW.new (w : World) (p : PrH) : EW w p ((w.alloc (.cells p.cells 28)).alloc (.cells #[.int .i64 0, .int .i64 0, .int .i64 0, .bool false, .bool false] 36)) := by
  have h1 := Bd5.new (w.alloc (.cells p.cells 28))
  rw [World.size_alloc] at h1
  refine ⟨((Below.refl _ w).alloc (Nat.le_refl _) _).alloc (by simp) _, (PB.new w p).below (n := w.heap.size + 1) ((Below.refl _ _).alloc (by simp) _) (by omega), h1⟩

end Go.Proofs.YtdfnomglkibfbaaGreatDoor.Vf
