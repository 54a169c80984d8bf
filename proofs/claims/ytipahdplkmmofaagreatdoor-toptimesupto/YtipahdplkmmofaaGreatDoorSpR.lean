
import Derived.Test.YtipahdplkmmofaaGreatDoorSpP
import Derived.Test.YtipahdplkmmofaaGreatDoorSpN
namespace Go.Proofs.YtipahdplkmmofaaGreatDoor
open Go.RowKit Go.Shelf
set_option linter.unusedVariables false
set_option linter.unusedSimpArgs false
theorem grown_refl (w : World) (r : Option Nat) : w.grownBy w r := ⟨rfl, rfl, rfl, Nat.le_refl _, fun _ _ _ => rfl⟩
theorem grown_trans {w1 w2 w3 : World} {N : Nat} (h : w1.grownBy w2 (some N)) (k : w2.grownBy w3 (some N)) : w1.grownBy w3 (some N) :=
  ⟨k.os.trans h.os, k.tape.trans h.tape, k.output.trans h.output, Nat.le_trans h.size k.size, fun j hj hne => (k.block j (Nat.lt_of_lt_of_le hj h.size) hne).trans (h.block j hj hne)⟩
theorem grown_set (w : World) (N i : Nat) (v : Value) : w.grownBy (w.setCell ⟨N, i, none⟩ v) (some N) :=
  ⟨rfl, rfl, rfl, by simp, fun j hj hne => Below.heap_setCell _ _ _ _ (fun e => hne (by rw [e]))⟩
theorem grown_of_below {w w' : World} (N : Nat) (h : Below w.heap.size w w') : w.grownBy w' (some N) := ⟨h.os, h.tape, h.output, h.size, fun j hj _ => h.block j hj⟩
theorem grown_cell {w w' : World} {N : Nat} (h : w.grownBy w' (some N)) {b i : Nat} {v : Value} (hne : b ≠ N) (hc : w.cell? ⟨b, i, none⟩ = some v) : w'.cell? ⟨b, i, none⟩ = some v := by
  have hl := World.block_lt_of_cell? _ _ hc
  have e := h.block b hl (fun e => hne (Option.some.inj e))
  unfold World.cell? at hc ⊢
  simp only at hc ⊢
  rw [e]; exact hc
/-- the clock's fields, by their places. -/
def Clk.get (c : Clk) : Nat → Int
  | 0 => c.y | 1 => c.mo | 2 => c.d | 3 => c.h | 4 => c.mi | 5 => c.s | 6 => c.ns | 7 => c.ah | 8 => c.bh | _ => c.bm
def setC : Nat → Int → Clk → Clk
  | 0 => fun n c => { c with y := n } | 1 => fun n c => { c with mo := n } | 2 => fun n c => { c with d := n } | 3 => fun n c => { c with h := n } | 4 => fun n c => { c with mi := n }
  | 5 => fun n c => { c with s := n } | 6 => fun n c => { c with ns := n } | 7 => fun n c => { c with ah := n } | 8 => fun n c => { c with bh := n } | _ => fun n c => { c with bm := n }
theorem get_set (i j : Nat) (hi : i < 10) (hj : j < 10) (n : Int) (c : Clk) : (setC i n c).get j = if j = i then n else c.get j := by
  have a : i = 0 ∨ i = 1 ∨ i = 2 ∨ i = 3 ∨ i = 4 ∨ i = 5 ∨ i = 6 ∨ i = 7 ∨ i = 8 ∨ i = 9 := by omega
  have b : j = 0 ∨ j = 1 ∨ j = 2 ∨ j = 3 ∨ j = 4 ∨ j = 5 ∨ j = 6 ∨ j = 7 ∨ j = 8 ∨ j = 9 := by omega
  rcases a with e | e | e | e | e | e | e | e | e | e <;> subst e <;> rcases b with e | e | e | e | e | e | e | e | e | e <;> subst e <;> rfl
/-- a clock in memory. -/
def CK (C : Nat) (c : Clk) (w : World) : Prop := ∀ i, i < 10 → w.cell? ⟨C, i, none⟩ = some (.int .i64 (c.get i)) ∧ w.frozen? ⟨C, i, none⟩ = false
theorem CK.lt {C : Nat} {c : Clk} {w : World} (h : CK C c w) : C < w.heap.size := World.block_lt_of_cell? _ _ (h 0 (by omega)).1
theorem CK.below {C B : Nat} {c : Clk} {w w' : World} (h : CK C c w) (hb : Below B w w') (hC : C < B) : CK C c w' := fun i hi =>
  ⟨by rw [hb.cell (p := ⟨C, i, none⟩) hC]; exact (h i hi).1, by rw [hb.frozen (p := ⟨C, i, none⟩) hC]; exact (h i hi).2⟩
theorem CK.after {C : Nat} {c : Clk} {w w' : World} (h : CK C c w) (hb : Below w.heap.size w w') : CK C c w' := h.below hb h.lt
theorem CK.set {C : Nat} {c : Clk} {w : World} (h : CK C c w) (i : Nat) (hi : i < 10) (n : Int) : CK C (setC i n c) (w.setCell ⟨C, i, none⟩ (.int .i64 n)) := by
  intro j hj
  rw [get_set i j hi hj]
  by_cases e : j = i
  · subst e
    rw [if_pos rfl]
    exact ⟨World.cell?_setCell_same _ _ _ (h j hj).1, by simp [go_sem, (h j hj).2]⟩
  · rw [if_neg e]
    have hne : (⟨C, j, none⟩ : Addr) ≠ ⟨C, i, none⟩ := by intro hh; injection hh with h1 h2; exact e h2
    exact ⟨by rw [World.cell?_setCell_other _ _ _ _ hne.symm]; exact (h j hj).1, by simp [go_sem, (h j hj).2]⟩
/-- a function value that does a piece. -/
inductive PcAt (C : Nat) (W : World) : Value → Pc → Prop
  | num (a b c d size i : Nat) (lo hi : Int) (hi' : i < 10) (na : a ≠ C) (nb : b ≠ C) (nc : c ≠ C) (nd : d ≠ C) (ha : W.cell? ⟨a, 0, none⟩ = some (.int .i64 (size : Int))) (hb : W.cell? ⟨b, 0, none⟩ = some (.int .i64 lo)) (hc : W.cell? ⟨c, 0, none⟩ = some (.int .i64 hi)) (hd : W.cell? ⟨d, 0, none⟩ = some (.pointer (some ⟨C, i, none⟩))) (hs : 1 ≤ size ∧ size ≤ 18) :
      PcAt C W (.func (.func 107) #[] #[.pointer (some ⟨a, 0, none⟩), .pointer (some ⟨b, 0, none⟩), .pointer (some ⟨c, 0, none⟩), .pointer (some ⟨d, 0, none⟩)]) (numPc size lo hi (setC i))
  | lett (a : Nat) (x : UInt8) (na : a ≠ C) (ha : W.cell? ⟨a, 0, none⟩ = some (.string ⟨#[x]⟩)) : PcAt C W (.func (.func 109) #[] #[.pointer (some ⟨a, 0, none⟩)]) (letPc x)
  | day : PcAt C W (.func (.func 77) #[.pointer (some ⟨C, 0, none⟩)] #[]) dayPc
  | frac : PcAt C W (.func (.func 78) #[.pointer (some ⟨C, 0, none⟩)] #[]) fracPc
  | zone : PcAt C W (.func (.func 79) #[.pointer (some ⟨C, 0, none⟩)] #[]) zonePc
theorem PcAt.grown {C : Nat} {w w' : World} {f : Value} {p : Pc} (h : PcAt C w f p) (hg : w.grownBy w' (some C)) : PcAt C w' f p := by
  cases h with
  | num a b c d size i lo hi hi' na nb nc nd ha hb hc hd hs => exact .num a b c d size i lo hi hi' na nb nc nd (grown_cell hg na ha) (grown_cell hg nb hb) (grown_cell hg nc hc) (grown_cell hg nd hd) hs
  | lett a x na ha => exact .lett a x na (grown_cell hg na ha)
  | day => exact .day
  | frac => exact .frac
  | zone => exact .zone
set_option maxRecDepth 100000 in
theorem number_any (C size i : Nat) (lo hi : Int) (hi' : i < 10) (hs : 1 ≤ size ∧ size ≤ 18) (w : World) (hC : C < w.heap.size) : Calls Tryz.prog 75 #[.int .i64 (size : Int), .int .i64 lo, .int .i64 hi, .pointer (some ⟨C, i, none⟩)] w fun e w' =>
    e = .returned (.func (.func 107) #[] #[.pointer (some ⟨w.heap.size, 0, none⟩), .pointer (some ⟨w.heap.size + 1, 0, none⟩), .pointer (some ⟨w.heap.size + 2, 0, none⟩), .pointer (some ⟨w.heap.size + 3, 0, none⟩)]) ∧
    PcAt C w' (.func (.func 107) #[] #[.pointer (some ⟨w.heap.size, 0, none⟩), .pointer (some ⟨w.heap.size + 1, 0, none⟩), .pointer (some ⟨w.heap.size + 2, 0, none⟩), .pointer (some ⟨w.heap.size + 3, 0, none⟩)]) (numPc size lo hi (setC i)) ∧ Below w.heap.size w w' := by
  have hmf : ∀ (fn : Fn) (first cap : Array Value) (w : World), (Instr.makeFunc fn first cap).run Tryz.prog w = .ok (.func fn first cap) w := fun _ _ _ _ => rfl
  go_enter Tryz.func75, Tryz.ntmps75
  go_wp2
  go_ret
  refine ⟨by simp, .num _ _ _ _ size i lo hi hi' (by omega) (by omega) (by omega) (by omega) (by simp [go_sem]) (by simp [go_sem]) (by simp [go_sem]) (by simp [go_sem]) hs, ?_⟩
  exact below_new (below_new (below_new (below_new (Below.refl _ _) _) _) _) _
set_option maxRecDepth 100000 in
theorem letter_any (C : Nat) (x : UInt8) (w : World) (hC : C < w.heap.size) : Calls Tryz.prog 76 #[.string ⟨#[x]⟩] w fun e w' =>
    e = .returned (.func (.func 109) #[] #[.pointer (some ⟨w.heap.size, 0, none⟩)]) ∧ PcAt C w' (.func (.func 109) #[] #[.pointer (some ⟨w.heap.size, 0, none⟩)]) (letPc x) ∧ Below w.heap.size w w' := by
  have hmf : ∀ (fn : Fn) (first cap : Array Value) (w : World), (Instr.makeFunc fn first cap).run Tryz.prog w = .ok (.func fn first cap) w := fun _ _ _ _ => rfl
  go_enter Tryz.func76, Tryz.ntmps76
  go_wp2
  go_ret
  exact ⟨by simp, .lett _ x (by omega) (by simp [go_sem]), below_new (Below.refl _ _) _⟩
end Go.Proofs.YtipahdplkmmofaaGreatDoor
