
import Derived.Test.YtdfnomglkibfbaaGreatDoorVgH
import Derived.Test.YtdfnomglkibfbaaGreatDoorVzA
import Derived.BigQuiet
import Derived.BigGuardPart
import Derived.Deep.CutRange
import Derived.Deep.RegionHeld3
import Derived.Lib.LazyBuf
import Derived.BigRegion
import Derived.Test.YtdfnomglkibfbaaGreatDoorVzB
namespace Go.Proofs.YtdfnomglkibfbaaGreatDoor.Vf
open Go.RowKit
set_option linter.unusedVariables false
set_option linter.unusedSimpArgs false
set_option maxRecDepth 100000
/-- what 'formed' tells. -/
def frV (first : Nat) : Option (Nat × Int) → Value
  | none => .nilIface
  | some (k, e) => atE ((first : Int) + (k : Int)) e
/-- the sizes in a box. -/
def SZ (W : World) (G : Nat) (z : SzP) : Prop := G < W.heap.size ∧ W.cell? ⟨G, 0, none⟩ = some (.int .i64 1) ∧ W.cell? ⟨G, 1, none⟩ = some (.int .i64 (z.names : Int)) ∧ W.cell? ⟨G, 2, none⟩ = some (.int .i64 (z.texts : Int)) ∧ W.cell? ⟨G, 3, none⟩ = some (.int .i64 (z.lists : Int)) ∧ W.cell? ⟨G, 4, none⟩ = some (.int .i64 (z.times : Int)) ∧ W.cell? ⟨G, 5, none⟩ = some (.int .i64 6) ∧ W.cell? ⟨G, 6, none⟩ = some (.int .i64 (z.accs : Int)) ∧ W.cell? ⟨G, 7, none⟩ = some (.int .i64 (z.ints : Int)) ∧ W.cell? ⟨G, 8, none⟩ = some (.int .i64 (z.alias : Int)) ∧ W.cell? ⟨G, 9, none⟩ = some (.int .i64 0)
theorem SZ.below {W W' : World} {G m : Nat} {z : SzP} (h : SZ W G z) (hb : Below m W W') (hm : G < m) : SZ W' G z := by
  obtain ⟨h1, c0, c1, c2, c3, c4, c5, c6, c7, c8, c9⟩ := h
  have e : ∀ k, W'.cell? ⟨G, k, none⟩ = W.cell? ⟨G, k, none⟩ := fun k => hb.cell (p := ⟨G, k, none⟩) hm
  refine ⟨Nat.lt_of_lt_of_le h1 hb.size, ?_, ?_, ?_, ?_, ?_, ?_, ?_, ?_, ?_, ?_⟩ <;> (rw [e]; assumption)
/-- a row in a box. -/
def RB (W : World) (R : Nat) (r : RwP) : Prop := R < W.heap.size ∧ W.cell? ⟨R, 0, none⟩ = some (.int .u8 (r.of : Int)) ∧ W.cell? ⟨R, 1, none⟩ = some (.int .i64 (r.tk : Int)) ∧ W.cell? ⟨R, 2, none⟩ = some (.int .i64 (r.pt : Int)) ∧ W.cell? ⟨R, 3, none⟩ = some (.int .u8 (r.a : Int)) ∧ W.cell? ⟨R, 4, none⟩ = some (.int .u8 (r.b : Int)) ∧ W.cell? ⟨R, 5, none⟩ = some (.bool r.en)
theorem RB.below {W W' : World} {R m : Nat} {r : RwP} (h : RB W R r) (hb : Below m W W') (hm : R < m) : RB W' R r := by
  obtain ⟨h1, c0, c1, c2, c3, c4, c5⟩ := h
  have e : ∀ k, W'.cell? ⟨R, k, none⟩ = W.cell? ⟨R, k, none⟩ := fun k => hb.cell (p := ⟨R, k, none⟩) hm
  refine ⟨Nat.lt_of_lt_of_le h1 hb.size, ?_, ?_, ?_, ?_, ?_, ?_⟩ <;> (rw [e]; assumption)
/-- an instruction in a box. -/
def IB (W : World) (I : Nat) (t : InP) : Prop := I < W.heap.size ∧ W.cell? ⟨I, 0, none⟩ = some (.int .u8 (t.c : Int)) ∧ W.cell? ⟨I, 1, none⟩ = some (.int .i64 t.a) ∧ W.cell? ⟨I, 2, none⟩ = some (.int .i64 t.b)
theorem IB.below {W W' : World} {I m : Nat} {t : InP} (h : IB W I t) (hb : Below m W W') (hm : I < m) : IB W' I t := by
  obtain ⟨h1, c0, c1, c2⟩ := h
  have e : ∀ k, W'.cell? ⟨I, k, none⟩ = W.cell? ⟨I, k, none⟩ := fun k => hb.cell (p := ⟨I, k, none⟩) hm
  refine ⟨Nat.lt_of_lt_of_le h1 hb.size, ?_, ?_, ?_⟩ <;> (rw [e]; assumption)
/-- the boxes in which it works. -/
structure EF (w : World) (of : Nat) (a : Option Addr) (c first n : Nat) (p : PrH) (W : World) : Prop where
  b : Below w.heap.size w W
  x0 : W.cell? ⟨w.heap.size, 0, none⟩ = some (.int .u8 (of : Int))
  x1 : W.cell? ⟨w.heap.size, 1, none⟩ = some (.slice a n c)
  x2 : W.cell? ⟨w.heap.size, 2, none⟩ = some (.int .i64 (first : Int))
  pb : PB W (w.heap.size + 1) p
theorem EF.below' {w W W' : World} {of c first n m : Nat} {a : Option Addr} {p : PrH} (h : EF w of a c first n p W) (hb : Below m W W') (hm : w.heap.size + 1 < m) : EF w of a c first n p W' := by
  have e : ∀ k, W'.cell? ⟨w.heap.size, k, none⟩ = W.cell? ⟨w.heap.size, k, none⟩ := fun k => hb.cell (p := ⟨w.heap.size, k, none⟩) (by show w.heap.size < _; omega)
  exact ⟨h.b.trans (hb.mono (by omega)), by rw [e]; exact h.x0, by rw [e]; exact h.x1, by rw [e]; exact h.x2, h.pb.below hb hm⟩
theorem EF.below {w W W' : World} {of c first n : Nat} {a : Option Addr} {p : PrH} (h : EF w of a c first n p W) (hb : Below W.heap.size W W') : EF w of a c first n p W' := h.below' hb h.pb.1
theorem EF.far {w W : World} {of c first n : Nat} {a : Option Addr} {p : PrH} (h : EF w of a c first n p W) {g j : Nat} (hg : w.heap.size + 1 < g) (v : Value) : EF w of a c first n p (W.setCell ⟨g, j, none⟩ v) := h.below' (m := g) ((Below.refl g W).setCell (p := ⟨g, j, none⟩) (Nat.le_refl _) v) hg
theorem EF.new (w : World) (of : Nat) (a : Option Addr) (c first n : Nat) (p : PrH) : EF w of a c first n p ((w.alloc (.cells #[.int .u8 (of : Int), .slice a n c, .int .i64 (first : Int)] 127)).alloc (.cells p.cells 28)) := by
  obtain ⟨V, hV⟩ : ∃ V, V = w.alloc (.cells #[.int .u8 (of : Int), .slice a n c, .int .i64 (first : Int)] 127) := ⟨_, rfl⟩
  have s1 : V.heap.size = w.heap.size + 1 := by rw [hV]; simp
  have y0 : V.cell? ⟨w.heap.size, 0, none⟩ = some (.int .u8 (of : Int)) := by rw [hV]; simp [go_sem]
  have y1 : V.cell? ⟨w.heap.size, 1, none⟩ = some (.slice a n c) := by rw [hV]; simp [go_sem]
  have y2 : V.cell? ⟨w.heap.size, 2, none⟩ = some (.int .i64 (first : Int)) := by rw [hV]; simp [go_sem]
  have b1 : Below w.heap.size w V := by rw [hV]; exact (Below.refl _ w).alloc (Nat.le_refl _) _
  rw [← hV]
  have b2 : Below V.heap.size V (V.alloc (.cells p.cells 28)) := (Below.refl _ _).alloc (Nat.le_refl _) _
  have e : ∀ k, (V.alloc (.cells p.cells 28)).cell? ⟨w.heap.size, k, none⟩ = V.cell? ⟨w.heap.size, k, none⟩ := fun k => b2.cell (p := ⟨w.heap.size, k, none⟩) (by show w.heap.size < _; omega)
  have hp := PB.new V p
  rw [s1] at hp
  exact ⟨b1.trans (b2.mono (by omega)), by rw [e]; exact y0, by rw [e]; exact y1, by rw [e]; exact y2, hp⟩
/-- all the boxes of a round. -/
def RX (w : World) (of : Nat) (a : Option Addr) (c first n : Nat) (p : PrH) (G I R : Nat) (z : SzP) (t : InP) (r : RwP) (W : World) : Prop := EF w of a c first n p W ∧ SZ W G z ∧ IB W I t ∧ RB W R r
theorem RX.below {w W W' : World} {of c first n G I R : Nat} {a : Option Addr} {p : PrH} {z : SzP} {t : InP} {r : RwP} (h : RX w of a c first n p G I R z t r W) (hb : Below W.heap.size W W') : RX w of a c first n p G I R z t r W' := ⟨h.1.below hb, h.2.1.below hb h.2.1.1, h.2.2.1.below hb h.2.2.1.1, h.2.2.2.below hb h.2.2.2.1⟩
theorem SZ_new {w W : World} {of c first n : Nat} {a : Option Addr} {p : PrH} {z : SzP} (h : EF w of a c first n p W) : EF w of a c first n p (W.alloc (.cells #[.int .i64 1, .int .i64 (z.names : Int), .int .i64 (z.texts : Int), .int .i64 (z.lists : Int), .int .i64 (z.times : Int), .int .i64 6, .int .i64 (z.accs : Int), .int .i64 (z.ints : Int), .int .i64 (z.alias : Int), .int .i64 0] 241)) ∧ SZ (W.alloc (.cells #[.int .i64 1, .int .i64 (z.names : Int), .int .i64 (z.texts : Int), .int .i64 (z.lists : Int), .int .i64 (z.times : Int), .int .i64 6, .int .i64 (z.accs : Int), .int .i64 (z.ints : Int), .int .i64 (z.alias : Int), .int .i64 0] 241)) W.heap.size z := by
  refine ⟨h.below ((Below.refl _ _).alloc (Nat.le_refl _) _), by simp, ?_, ?_, ?_, ?_, ?_, ?_, ?_, ?_, ?_, ?_⟩ <;> simp [go_sem]
/-- ten cells of nothing, one's own. -/
def Z10 (W : World) (g : Nat) : Prop := g < W.heap.size ∧ W.cell? ⟨g, 0, none⟩ = some (.int .i64 0) ∧ W.cell? ⟨g, 1, none⟩ = some (.int .i64 0) ∧ W.cell? ⟨g, 2, none⟩ = some (.int .i64 0) ∧ W.cell? ⟨g, 3, none⟩ = some (.int .i64 0) ∧ W.cell? ⟨g, 4, none⟩ = some (.int .i64 0) ∧ W.cell? ⟨g, 5, none⟩ = some (.int .i64 0) ∧ W.cell? ⟨g, 6, none⟩ = some (.int .i64 0) ∧ W.cell? ⟨g, 7, none⟩ = some (.int .i64 0) ∧ W.cell? ⟨g, 8, none⟩ = some (.int .i64 0) ∧ W.cell? ⟨g, 9, none⟩ = some (.int .i64 0) ∧ W.frozen? ⟨g, 0, none⟩ = false ∧ W.frozen? ⟨g, 1, none⟩ = false ∧ W.frozen? ⟨g, 2, none⟩ = false ∧ W.frozen? ⟨g, 3, none⟩ = false ∧ W.frozen? ⟨g, 4, none⟩ = false ∧ W.frozen? ⟨g, 5, none⟩ = false ∧ W.frozen? ⟨g, 6, none⟩ = false ∧ W.frozen? ⟨g, 7, none⟩ = false ∧ W.frozen? ⟨g, 8, none⟩ = false ∧ W.frozen? ⟨g, 9, none⟩ = false
theorem Z10.new (W : World) : Z10 (W.alloc (.cells #[.int .i64 0, .int .i64 0, .int .i64 0, .int .i64 0, .int .i64 0, .int .i64 0, .int .i64 0, .int .i64 0, .int .i64 0, .int .i64 0] 241)) W.heap.size := by
  refine ⟨by simp, ?_, ?_, ?_, ?_, ?_, ?_, ?_, ?_, ?_, ?_, ?_, ?_, ?_, ?_, ?_, ?_, ?_, ?_, ?_, ?_⟩ <;> simp [go_sem]
theorem Z10.below {W W' : World} {g m : Nat} (h : Z10 W g) (hb : Below m W W') (hm : g < m) : Z10 W' g := by
  obtain ⟨h1, c0, c1, c2, c3, c4, c5, c6, c7, c8, c9, f0, f1, f2, f3, f4, f5, f6, f7, f8, f9⟩ := h
  have e : ∀ k, W'.cell? ⟨g, k, none⟩ = W.cell? ⟨g, k, none⟩ := fun k => hb.cell (p := ⟨g, k, none⟩) hm
  have e2 : ∀ k, W'.frozen? ⟨g, k, none⟩ = W.frozen? ⟨g, k, none⟩ := fun k => hb.frozen (p := ⟨g, k, none⟩) hm
  refine ⟨Nat.lt_of_lt_of_le h1 hb.size, ?_, ?_, ?_, ?_, ?_, ?_, ?_, ?_, ?_, ?_, ?_, ?_, ?_, ?_, ?_, ?_, ?_, ?_, ?_, ?_⟩ <;> (first | rw [e] | rw [e2]) <;> assumption
theorem Z10.set {w W : World} {of c first n g : Nat} {a : Option Addr} {p : PrH} {z : SzP} (hE : EF w of a c first n p W) (h : Z10 W g) (hg : w.heap.size + 1 < g) : EF w of a c first n p ((((((((((W.setCell ⟨g, 0, none⟩ (.int .i64 1)).setCell ⟨g, 1, none⟩ (.int .i64 (z.names : Int))).setCell ⟨g, 2, none⟩ (.int .i64 (z.texts : Int))).setCell ⟨g, 3, none⟩ (.int .i64 (z.lists : Int))).setCell ⟨g, 4, none⟩ (.int .i64 (z.times : Int))).setCell ⟨g, 5, none⟩ (.int .i64 6)).setCell ⟨g, 6, none⟩ (.int .i64 (z.accs : Int))).setCell ⟨g, 7, none⟩ (.int .i64 (z.ints : Int))).setCell ⟨g, 8, none⟩ (.int .i64 (z.alias : Int))).setCell ⟨g, 9, none⟩ (.int .i64 0)) ∧ SZ ((((((((((W.setCell ⟨g, 0, none⟩ (.int .i64 1)).setCell ⟨g, 1, none⟩ (.int .i64 (z.names : Int))).setCell ⟨g, 2, none⟩ (.int .i64 (z.texts : Int))).setCell ⟨g, 3, none⟩ (.int .i64 (z.lists : Int))).setCell ⟨g, 4, none⟩ (.int .i64 (z.times : Int))).setCell ⟨g, 5, none⟩ (.int .i64 6)).setCell ⟨g, 6, none⟩ (.int .i64 (z.accs : Int))).setCell ⟨g, 7, none⟩ (.int .i64 (z.ints : Int))).setCell ⟨g, 8, none⟩ (.int .i64 (z.alias : Int))).setCell ⟨g, 9, none⟩ (.int .i64 0)) g z := by
  obtain ⟨h1, c0, c1, c2, c3, c4, c5, c6, c7, c8, c9, f0, f1, f2, f3, f4, f5, f6, f7, f8, f9⟩ := h
  refine ⟨((((((((((hE.far hg _).far hg _).far hg _).far hg _).far hg _).far hg _).far hg _).far hg _).far hg _).far hg _), by simpa using h1, ?_, ?_, ?_, ?_, ?_, ?_, ?_, ?_, ?_, ?_⟩ <;> simp [go_sem, c0, c1, c2, c3, c4, c5, c6, c7, c8, c9]
theorem SZ_set {W : World} {g : Nat} {z : SzP} (h : W.there g 0 (List.length [Value.int .i64 1, Value.int .i64 (z.names : Int), Value.int .i64 (z.texts : Int), Value.int .i64 (z.lists : Int), Value.int .i64 (z.times : Int), Value.int .i64 6, Value.int .i64 (z.accs : Int), Value.int .i64 (z.ints : Int), Value.int .i64 (z.alias : Int), Value.int .i64 0])) : SZ (W.setCells g 0 [Value.int .i64 1, Value.int .i64 (z.names : Int), Value.int .i64 (z.texts : Int), Value.int .i64 (z.lists : Int), Value.int .i64 (z.times : Int), Value.int .i64 6, Value.int .i64 (z.accs : Int), Value.int .i64 (z.ints : Int), Value.int .i64 (z.alias : Int), Value.int .i64 0]) g z := by
  have hg : g < W.heap.size := by
    obtain ⟨h1, _⟩ := h 0 (by simp)
    obtain ⟨v, hv⟩ := Option.isSome_iff_exists.1 h1
    exact World.block_lt_of_cell? _ _ hv
  have r := World.rangeAt_setCells_same W g 0 [Value.int .i64 1, Value.int .i64 (z.names : Int), Value.int .i64 (z.texts : Int), Value.int .i64 (z.lists : Int), Value.int .i64 (z.times : Int), Value.int .i64 6, Value.int .i64 (z.accs : Int), Value.int .i64 (z.ints : Int), Value.int .i64 (z.alias : Int), Value.int .i64 0] h
  have b := below_setCells (B := g) (b := g) (a := W) (Nat.le_refl g) [Value.int .i64 1, Value.int .i64 (z.names : Int), Value.int .i64 (z.texts : Int), Value.int .i64 (z.lists : Int), Value.int .i64 (z.times : Int), Value.int .i64 6, Value.int .i64 (z.accs : Int), Value.int .i64 (z.ints : Int), Value.int .i64 (z.alias : Int), Value.int .i64 0] 0 W (Below.refl _ _)
  refine ⟨Nat.lt_of_lt_of_le hg b.size, by have := r 0 _ rfl; simpa using this, by have := r 1 _ rfl; simpa using this, by have := r 2 _ rfl; simpa using this, by have := r 3 _ rfl; simpa using this, by have := r 4 _ rfl; simpa using this, by have := r 5 _ rfl; simpa using this, by have := r 6 _ rfl; simpa using this, by have := r 7 _ rfl; simpa using this, by have := r 8 _ rfl; simpa using this, by have := r 9 _ rfl; simpa using this⟩
theorem Z10.there {W : World} {g : Nat} (h : Z10 W g) : W.there g 0 10 := by
  obtain ⟨h1, c0, c1, c2, c3, c4, c5, c6, c7, c8, c9, f0, f1, f2, f3, f4, f5, f6, f7, f8, f9⟩ := h
  intro j hj
  match j, hj with
  | 0, _ => exact ⟨by simp [c0], by simpa using f0⟩
  | 1, _ => exact ⟨by simp [c1], by simpa using f1⟩
  | 2, _ => exact ⟨by simp [c2], by simpa using f2⟩
  | 3, _ => exact ⟨by simp [c3], by simpa using f3⟩
  | 4, _ => exact ⟨by simp [c4], by simpa using f4⟩
  | 5, _ => exact ⟨by simp [c5], by simpa using f5⟩
  | 6, _ => exact ⟨by simp [c6], by simpa using f6⟩
  | 7, _ => exact ⟨by simp [c7], by simpa using f7⟩
  | 8, _ => exact ⟨by simp [c8], by simpa using f8⟩
  | 9, _ => exact ⟨by simp [c9], by simpa using f9⟩
  | j + 10, hj => omega
theorem RX_mk {w wr w5 : World} {of c first n G : Nat} {a : Option Addr} {p : PrH} {z : SzP} {t : InP} {r : RwP} (h : EF w of a c first n p wr) (hz : SZ wr G z) (b5 : Below (wr.alloc (.cells #[.int .u8 (t.c : Int), .int .i64 t.a, .int .i64 t.b] 59)).heap.size (wr.alloc (.cells #[.int .u8 (t.c : Int), .int .i64 t.a, .int .i64 t.b] 59)) w5) : RX w of a c first n p G wr.heap.size w5.heap.size z t r (w5.alloc (.cells #[.int .u8 (r.of : Int), .int .i64 (r.tk : Int), .int .i64 (r.pt : Int), .int .u8 (r.a : Int), .int .u8 (r.b : Int), .bool r.en] 245)) := by
  have b1 : Below wr.heap.size wr (wr.alloc (.cells #[.int .u8 (t.c : Int), .int .i64 t.a, .int .i64 t.b] 59)) := (Below.refl _ _).alloc (Nat.le_refl _) _
  have i0 : IB (wr.alloc (.cells #[.int .u8 (t.c : Int), .int .i64 t.a, .int .i64 t.b] 59)) wr.heap.size t := by
    refine ⟨by simp, ?_, ?_, ?_⟩ <;> simp [go_sem]
  have b6 : Below w5.heap.size w5 (w5.alloc (.cells #[.int .u8 (r.of : Int), .int .i64 (r.tk : Int), .int .i64 (r.pt : Int), .int .u8 (r.a : Int), .int .u8 (r.b : Int), .bool r.en] 245)) := (Below.refl _ _).alloc (Nat.le_refl _) _
  have hr : RB (w5.alloc (.cells #[.int .u8 (r.of : Int), .int .i64 (r.tk : Int), .int .i64 (r.pt : Int), .int .u8 (r.a : Int), .int .u8 (r.b : Int), .bool r.en] 245)) w5.heap.size r := by
    refine ⟨by simp, ?_, ?_, ?_, ?_, ?_, ?_⟩ <;> simp [go_sem]
  have z1 := (hz.below b1 hz.1)
  have z5 := z1.below b5 z1.1
  have i5 := i0.below b5 i0.1
  exact ⟨((h.below b1).below b5).below b6, z5.below b6 z5.1, i5.below b6 i5.1, hr⟩
theorem row_opsP {c : Nat} : (rowF c).a < 10 ∧ (rowF c).b < 10 := by
  rcases Nat.lt_or_ge 24 c with q | q
  · rw [row_big q]; simp [noR]
  · match c, q with
    | 0, _ | 1, _ | 2, _ | 3, _ | 4, _ | 5, _ | 6, _ | 7, _ | 8, _ | 9, _ | 10, _ | 11, _ | 12, _ | 13, _ | 14, _ | 15, _ | 16, _ | 17, _ | 18, _ | 19, _ | 20, _ | 21, _ | 22, _ | 23, _ | 24, _ => simp [rowF, rowsL, noR]
    | c + 25, q => omega
theorem have6 {z : SzP} {n : Int} (h : haveB z 6 n = true) : ∃ i : Nat, n = (i : Int) ∧ i < z.accs := by
  unfold haveB at h
  simp [szL] at h
  exact ⟨n.toNat, by omega, by omega⟩

set_option maxHeartbeats 16000000 in
theorem formed_any (f : Bool) (of : Nat) (hof : of = if f then 1 else 2) (p : PrH) (acc : List AcP) (hacc : p.accs.n = acc.length) (l : List InP) (hcode : ∀ (j : Nat) (t : InP), l[j]? = some t → t.c < 256) (a : Option Addr) (c first : Nat) (hfi : first ≤ 1152921504606846976) (hn : l.length ≤ 65536) (w : World) (hR : RT w) (hA : AcIn w p.accs.a acc) (hI : InIn w a l) : Calls Tryz.prog 72 #[.agg #[.int .u8 (of : Int), .slice a l.length c, .int .i64 (first : Int)], p.v] w fun e w' => e = .returned (frV first (eachP p.sz f acc l)) ∧ Below w.heap.size w w' := by
  obtain ⟨V, hV⟩ : ∃ V, frV first (eachP p.sz f acc l) = V := ⟨_, rfl⟩
  obtain ⟨bad, hbd⟩ : ∃ bad, (fun (k : Nat) (i : InP) => badP p.sz (of : Int) (k : Int) ((l.length : Int) - 1) (raOf acc i.a i.b) i) = bad := ⟨_, rfl⟩
  have hofI : ((of : Nat) : Int) = if f then 1 else 2 := by rw [hof]; cases f <;> rfl
  have hVH : Hid (V = frV first (match firstBad bad l 0 with | some x => some x | none => if (l.getLast?.map fun i => (rowF i.c).en) = some true then none else some (l.length, 193))) := hid (by rw [← hV, ← hbd, hofI]; rfl)
  have hbdH : Hid (bad = fun (k : Nat) (i : InP) => badP p.sz (of : Int) (k : Int) ((l.length : Int) - 1) (raOf acc i.a i.b) i) := hbd.symm
  have hofH : Hid (((of : Nat) : Int) = if f then 1 else 2) := hofI
  rw [hV]
  clear hV hbd hofI hof
  obtain ⟨n, hnn⟩ : ∃ n, l.length = n := ⟨_, rfl⟩
  have hnH : Hid (l.length = n) := hnn
  rw [hnn] at hn ⊢
  clear hnn
  have hIH : Hid (InIn w a l) := hI
  have hTH : Hid (RT w ∧ 1 < w.heap.size) := ⟨hR, hR.lt⟩
  have hAH : Hid (AcIn w p.accs.a acc ∧ p.accs.n = acc.length) := ⟨hA, hacc⟩
  have hcH : Hid (∀ (j : Nat) (t : InP), l[j]? = some t → t.c < 256) := hcode
  have cS : Hid (∀ W, Calls Tryz.prog 103 #[.agg #[.string p.from_, .string p.into, .int .i64 p.every, .int .i64 p.offset, .slice p.groups.a p.groups.n p.groups.c, .slice p.accs.a p.accs.n p.accs.c, .slice p.alias.a p.alias.n p.alias.c, .slice p.names.a p.names.n p.names.c, .slice p.texts.a p.texts.n p.texts.c, .slice p.lists.a p.lists.n p.lists.c, .slice p.times.a p.times.n p.times.c, .slice p.ints.a p.ints.n p.ints.c, .slice p.filter.a p.filter.n p.filter.c, .slice p.output.a p.output.n p.output.c]] W fun e w' => e = .returned (szA p.sz) ∧ Below W.heap.size W w') := fun W => sizesOf_any p W
  have hzH : Hid (p.sz.accs = p.accs.n) := rfl
  generalize p.sz = z at *
  have e0 := EF.new w of a c first n p
  have e0H : Hid (EF w of a c first n p ((w.alloc (.cells #[.int .u8 (of : Int), .slice a n c, .int .i64 (first : Int)] 127)).alloc (.cells p.cells 28))) := e0
  clear hI hR hA hacc hcode e0
  unfold PrH.v
  unfold PrH.cells at e0H
  unfold szA at cS
  have nw : IntKind.i64.wrap ((n : Int) - 1) = (n : Int) - 1 := IntWalk.i64_in _ (by omega)
  go_enter Tryz.func72, Tryz.ntmps72
  go_upto_region 1 with fail
  generalize hW : World.alloc (World.alloc w _) _ = W1 at e0H ⊢
  clear hW
  go_cut [5, 6] from 10 to 15 (fun v5 v6 wx => ∃ G, v5 = .pointer (some ⟨G, 0, none⟩) ∧ v6 = .int .i64 ((n : Int) - 1) ∧ Hid (EF w of a c first n p wx ∧ SZ wx G z))
  case first =>
    have hK : Hid (∀ W, EF w of a c first n p W → EF w of a c first n p W ∧ W.cell? ⟨w.heap.size, 1, none⟩ = some (.slice a n c) ∧ W.cell? ⟨w.heap.size + 1, 0, none⟩ = some (.string p.from_) ∧ W.cell? ⟨w.heap.size + 1, 1, none⟩ = some (.string p.into) ∧ W.cell? ⟨w.heap.size + 1, 2, none⟩ = some (.int .i64 p.every) ∧ W.cell? ⟨w.heap.size + 1, 3, none⟩ = some (.int .i64 p.offset) ∧ W.cell? ⟨w.heap.size + 1, 4, none⟩ = some (.slice p.groups.a p.groups.n p.groups.c) ∧ W.cell? ⟨w.heap.size + 1, 5, none⟩ = some (.slice p.accs.a p.accs.n p.accs.c) ∧ W.cell? ⟨w.heap.size + 1, 6, none⟩ = some (.slice p.alias.a p.alias.n p.alias.c) ∧ W.cell? ⟨w.heap.size + 1, 7, none⟩ = some (.slice p.names.a p.names.n p.names.c) ∧ W.cell? ⟨w.heap.size + 1, 8, none⟩ = some (.slice p.texts.a p.texts.n p.texts.c) ∧ W.cell? ⟨w.heap.size + 1, 9, none⟩ = some (.slice p.lists.a p.lists.n p.lists.c) ∧ W.cell? ⟨w.heap.size + 1, 10, none⟩ = some (.slice p.times.a p.times.n p.times.c) ∧ W.cell? ⟨w.heap.size + 1, 11, none⟩ = some (.slice p.ints.a p.ints.n p.ints.c) ∧ W.cell? ⟨w.heap.size + 1, 12, none⟩ = some (.slice p.filter.a p.filter.n p.filter.c) ∧ W.cell? ⟨w.heap.size + 1, 13, none⟩ = some (.slice p.output.a p.output.n p.output.c)) := fun W h => by
      obtain ⟨_, x0, x1, x2, _, q0, q1, q2, q3, q4, q5, q6, q7, q8, q9, q10, q11, q12, q13⟩ := id h
      exact ⟨h, x1, q0, q1, q2, q3, q4, q5, q6, q7, q8, q9, q10, q11, q12, q13⟩
    have hKK : Hid (∀ W W' : World, (EF w of a c first n p W ∧ W.cell? ⟨w.heap.size, 1, none⟩ = some (.slice a n c) ∧ W.cell? ⟨w.heap.size + 1, 0, none⟩ = some (.string p.from_) ∧ W.cell? ⟨w.heap.size + 1, 1, none⟩ = some (.string p.into) ∧ W.cell? ⟨w.heap.size + 1, 2, none⟩ = some (.int .i64 p.every) ∧ W.cell? ⟨w.heap.size + 1, 3, none⟩ = some (.int .i64 p.offset) ∧ W.cell? ⟨w.heap.size + 1, 4, none⟩ = some (.slice p.groups.a p.groups.n p.groups.c) ∧ W.cell? ⟨w.heap.size + 1, 5, none⟩ = some (.slice p.accs.a p.accs.n p.accs.c) ∧ W.cell? ⟨w.heap.size + 1, 6, none⟩ = some (.slice p.alias.a p.alias.n p.alias.c) ∧ W.cell? ⟨w.heap.size + 1, 7, none⟩ = some (.slice p.names.a p.names.n p.names.c) ∧ W.cell? ⟨w.heap.size + 1, 8, none⟩ = some (.slice p.texts.a p.texts.n p.texts.c) ∧ W.cell? ⟨w.heap.size + 1, 9, none⟩ = some (.slice p.lists.a p.lists.n p.lists.c) ∧ W.cell? ⟨w.heap.size + 1, 10, none⟩ = some (.slice p.times.a p.times.n p.times.c) ∧ W.cell? ⟨w.heap.size + 1, 11, none⟩ = some (.slice p.ints.a p.ints.n p.ints.c) ∧ W.cell? ⟨w.heap.size + 1, 12, none⟩ = some (.slice p.filter.a p.filter.n p.filter.c) ∧ W.cell? ⟨w.heap.size + 1, 13, none⟩ = some (.slice p.output.a p.output.n p.output.c)) → Below W.heap.size W W' → EF w of a c first n p W' ∧ W'.cell? ⟨w.heap.size, 1, none⟩ = some (.slice a n c) ∧ W'.cell? ⟨w.heap.size + 1, 0, none⟩ = some (.string p.from_) ∧ W'.cell? ⟨w.heap.size + 1, 1, none⟩ = some (.string p.into) ∧ W'.cell? ⟨w.heap.size + 1, 2, none⟩ = some (.int .i64 p.every) ∧ W'.cell? ⟨w.heap.size + 1, 3, none⟩ = some (.int .i64 p.offset) ∧ W'.cell? ⟨w.heap.size + 1, 4, none⟩ = some (.slice p.groups.a p.groups.n p.groups.c) ∧ W'.cell? ⟨w.heap.size + 1, 5, none⟩ = some (.slice p.accs.a p.accs.n p.accs.c) ∧ W'.cell? ⟨w.heap.size + 1, 6, none⟩ = some (.slice p.alias.a p.alias.n p.alias.c) ∧ W'.cell? ⟨w.heap.size + 1, 7, none⟩ = some (.slice p.names.a p.names.n p.names.c) ∧ W'.cell? ⟨w.heap.size + 1, 8, none⟩ = some (.slice p.texts.a p.texts.n p.texts.c) ∧ W'.cell? ⟨w.heap.size + 1, 9, none⟩ = some (.slice p.lists.a p.lists.n p.lists.c) ∧ W'.cell? ⟨w.heap.size + 1, 10, none⟩ = some (.slice p.times.a p.times.n p.times.c) ∧ W'.cell? ⟨w.heap.size + 1, 11, none⟩ = some (.slice p.ints.a p.ints.n p.ints.c) ∧ W'.cell? ⟨w.heap.size + 1, 12, none⟩ = some (.slice p.filter.a p.filter.n p.filter.c) ∧ W'.cell? ⟨w.heap.size + 1, 13, none⟩ = some (.slice p.output.a p.output.n p.output.c)) := fun W W' h hb => hK.out _ (h.1.below hb)
    have hKs : Hid (∀ (W : World) (g : Nat) (vs : List Value), (EF w of a c first n p W ∧ W.cell? ⟨w.heap.size, 1, none⟩ = some (.slice a n c) ∧ W.cell? ⟨w.heap.size + 1, 0, none⟩ = some (.string p.from_) ∧ W.cell? ⟨w.heap.size + 1, 1, none⟩ = some (.string p.into) ∧ W.cell? ⟨w.heap.size + 1, 2, none⟩ = some (.int .i64 p.every) ∧ W.cell? ⟨w.heap.size + 1, 3, none⟩ = some (.int .i64 p.offset) ∧ W.cell? ⟨w.heap.size + 1, 4, none⟩ = some (.slice p.groups.a p.groups.n p.groups.c) ∧ W.cell? ⟨w.heap.size + 1, 5, none⟩ = some (.slice p.accs.a p.accs.n p.accs.c) ∧ W.cell? ⟨w.heap.size + 1, 6, none⟩ = some (.slice p.alias.a p.alias.n p.alias.c) ∧ W.cell? ⟨w.heap.size + 1, 7, none⟩ = some (.slice p.names.a p.names.n p.names.c) ∧ W.cell? ⟨w.heap.size + 1, 8, none⟩ = some (.slice p.texts.a p.texts.n p.texts.c) ∧ W.cell? ⟨w.heap.size + 1, 9, none⟩ = some (.slice p.lists.a p.lists.n p.lists.c) ∧ W.cell? ⟨w.heap.size + 1, 10, none⟩ = some (.slice p.times.a p.times.n p.times.c) ∧ W.cell? ⟨w.heap.size + 1, 11, none⟩ = some (.slice p.ints.a p.ints.n p.ints.c) ∧ W.cell? ⟨w.heap.size + 1, 12, none⟩ = some (.slice p.filter.a p.filter.n p.filter.c) ∧ W.cell? ⟨w.heap.size + 1, 13, none⟩ = some (.slice p.output.a p.output.n p.output.c)) → w.heap.size + 1 < g → EF w of a c first n p (W.setCells g 0 vs) ∧ (W.setCells g 0 vs).cell? ⟨w.heap.size, 1, none⟩ = some (.slice a n c) ∧ (W.setCells g 0 vs).cell? ⟨w.heap.size + 1, 0, none⟩ = some (.string p.from_) ∧ (W.setCells g 0 vs).cell? ⟨w.heap.size + 1, 1, none⟩ = some (.string p.into) ∧ (W.setCells g 0 vs).cell? ⟨w.heap.size + 1, 2, none⟩ = some (.int .i64 p.every) ∧ (W.setCells g 0 vs).cell? ⟨w.heap.size + 1, 3, none⟩ = some (.int .i64 p.offset) ∧ (W.setCells g 0 vs).cell? ⟨w.heap.size + 1, 4, none⟩ = some (.slice p.groups.a p.groups.n p.groups.c) ∧ (W.setCells g 0 vs).cell? ⟨w.heap.size + 1, 5, none⟩ = some (.slice p.accs.a p.accs.n p.accs.c) ∧ (W.setCells g 0 vs).cell? ⟨w.heap.size + 1, 6, none⟩ = some (.slice p.alias.a p.alias.n p.alias.c) ∧ (W.setCells g 0 vs).cell? ⟨w.heap.size + 1, 7, none⟩ = some (.slice p.names.a p.names.n p.names.c) ∧ (W.setCells g 0 vs).cell? ⟨w.heap.size + 1, 8, none⟩ = some (.slice p.texts.a p.texts.n p.texts.c) ∧ (W.setCells g 0 vs).cell? ⟨w.heap.size + 1, 9, none⟩ = some (.slice p.lists.a p.lists.n p.lists.c) ∧ (W.setCells g 0 vs).cell? ⟨w.heap.size + 1, 10, none⟩ = some (.slice p.times.a p.times.n p.times.c) ∧ (W.setCells g 0 vs).cell? ⟨w.heap.size + 1, 11, none⟩ = some (.slice p.ints.a p.ints.n p.ints.c) ∧ (W.setCells g 0 vs).cell? ⟨w.heap.size + 1, 12, none⟩ = some (.slice p.filter.a p.filter.n p.filter.c) ∧ (W.setCells g 0 vs).cell? ⟨w.heap.size + 1, 13, none⟩ = some (.slice p.output.a p.output.n p.output.c)) := fun W g vs h hg => hK.out _ (h.1.below' (m := g) (below_setCells (Nat.le_refl g) vs 0 W (Below.refl _ _)) hg)
    have hKA : Hid (∀ (W : World) (o : Obj), (EF w of a c first n p W ∧ W.cell? ⟨w.heap.size, 1, none⟩ = some (.slice a n c) ∧ W.cell? ⟨w.heap.size + 1, 0, none⟩ = some (.string p.from_) ∧ W.cell? ⟨w.heap.size + 1, 1, none⟩ = some (.string p.into) ∧ W.cell? ⟨w.heap.size + 1, 2, none⟩ = some (.int .i64 p.every) ∧ W.cell? ⟨w.heap.size + 1, 3, none⟩ = some (.int .i64 p.offset) ∧ W.cell? ⟨w.heap.size + 1, 4, none⟩ = some (.slice p.groups.a p.groups.n p.groups.c) ∧ W.cell? ⟨w.heap.size + 1, 5, none⟩ = some (.slice p.accs.a p.accs.n p.accs.c) ∧ W.cell? ⟨w.heap.size + 1, 6, none⟩ = some (.slice p.alias.a p.alias.n p.alias.c) ∧ W.cell? ⟨w.heap.size + 1, 7, none⟩ = some (.slice p.names.a p.names.n p.names.c) ∧ W.cell? ⟨w.heap.size + 1, 8, none⟩ = some (.slice p.texts.a p.texts.n p.texts.c) ∧ W.cell? ⟨w.heap.size + 1, 9, none⟩ = some (.slice p.lists.a p.lists.n p.lists.c) ∧ W.cell? ⟨w.heap.size + 1, 10, none⟩ = some (.slice p.times.a p.times.n p.times.c) ∧ W.cell? ⟨w.heap.size + 1, 11, none⟩ = some (.slice p.ints.a p.ints.n p.ints.c) ∧ W.cell? ⟨w.heap.size + 1, 12, none⟩ = some (.slice p.filter.a p.filter.n p.filter.c) ∧ W.cell? ⟨w.heap.size + 1, 13, none⟩ = some (.slice p.output.a p.output.n p.output.c)) → EF w of a c first n p (W.alloc o) ∧ (W.alloc o).cell? ⟨w.heap.size, 1, none⟩ = some (.slice a n c) ∧ (W.alloc o).cell? ⟨w.heap.size + 1, 0, none⟩ = some (.string p.from_) ∧ (W.alloc o).cell? ⟨w.heap.size + 1, 1, none⟩ = some (.string p.into) ∧ (W.alloc o).cell? ⟨w.heap.size + 1, 2, none⟩ = some (.int .i64 p.every) ∧ (W.alloc o).cell? ⟨w.heap.size + 1, 3, none⟩ = some (.int .i64 p.offset) ∧ (W.alloc o).cell? ⟨w.heap.size + 1, 4, none⟩ = some (.slice p.groups.a p.groups.n p.groups.c) ∧ (W.alloc o).cell? ⟨w.heap.size + 1, 5, none⟩ = some (.slice p.accs.a p.accs.n p.accs.c) ∧ (W.alloc o).cell? ⟨w.heap.size + 1, 6, none⟩ = some (.slice p.alias.a p.alias.n p.alias.c) ∧ (W.alloc o).cell? ⟨w.heap.size + 1, 7, none⟩ = some (.slice p.names.a p.names.n p.names.c) ∧ (W.alloc o).cell? ⟨w.heap.size + 1, 8, none⟩ = some (.slice p.texts.a p.texts.n p.texts.c) ∧ (W.alloc o).cell? ⟨w.heap.size + 1, 9, none⟩ = some (.slice p.lists.a p.lists.n p.lists.c) ∧ (W.alloc o).cell? ⟨w.heap.size + 1, 10, none⟩ = some (.slice p.times.a p.times.n p.times.c) ∧ (W.alloc o).cell? ⟨w.heap.size + 1, 11, none⟩ = some (.slice p.ints.a p.ints.n p.ints.c) ∧ (W.alloc o).cell? ⟨w.heap.size + 1, 12, none⟩ = some (.slice p.filter.a p.filter.n p.filter.c) ∧ (W.alloc o).cell? ⟨w.heap.size + 1, 13, none⟩ = some (.slice p.output.a p.output.n p.output.c)) := fun W o h => hK.out _ (h.1.below ((Below.refl _ _).alloc (Nat.le_refl _) _))
    have zs2 : w.heap.size + 1 < W1.heap.size := e0H.out.pb.1
    have hSS := hK.out _ (e0H.out.below ((Below.refl _ W1).drew))
    have hS2 := hK.out _ (e0H.out.below (((Below.refl _ W1).alloc (Nat.le_refl _) (.cells #[.int .i64 0, .int .i64 0, .int .i64 0, .int .i64 0, .int .i64 0, .int .i64 0, .int .i64 0, .int .i64 0, .int .i64 0, .int .i64 0] 241)).drew))
    have hone : ∀ v ∈ ([Value.int .i64 1, Value.int .i64 (z.names : Int), Value.int .i64 (z.texts : Int), Value.int .i64 (z.lists : Int), Value.int .i64 (z.times : Int), Value.int .i64 6, Value.int .i64 (z.accs : Int), Value.int .i64 (z.ints : Int), Value.int .i64 (z.alias : Int), Value.int .i64 0] : List Value), v.oneCell' = true := by
      intro v hv
      simp only [List.mem_cons, List.not_mem_nil, or_false] at hv
      rcases hv with rfl | rfl | rfl | rfl | rfl | rfl | rfl | rfl | rfl | rfl <;> rfl
    have hinfo : Option.map (fun x => x.size) (Tryz.prog.info? 241) = some (List.length ([Value.int .i64 1, Value.int .i64 (z.names : Int), Value.int .i64 (z.texts : Int), Value.int .i64 (z.lists : Int), Value.int .i64 (z.times : Int), Value.int .i64 6, Value.int .i64 (z.accs : Int), Value.int .i64 (z.ints : Int), Value.int .i64 (z.alias : Int), Value.int .i64 0] : List Value)) := by first | kernel_rfl | rfl
    have tA : Hid (∀ W' : World, (W'.alloc (.cells #[.int .i64 0, .int .i64 0, .int .i64 0, .int .i64 0, .int .i64 0, .int .i64 0, .int .i64 0, .int .i64 0, .int .i64 0, .int .i64 0] 241)).there W'.heap.size 0 (List.length ([Value.int .i64 1, Value.int .i64 (z.names : Int), Value.int .i64 (z.texts : Int), Value.int .i64 (z.lists : Int), Value.int .i64 (z.times : Int), Value.int .i64 6, Value.int .i64 (z.accs : Int), Value.int .i64 (z.ints : Int), Value.int .i64 (z.alias : Int), Value.int .i64 0] : List Value))) := fun W' => (Z10.new W').there
    have tB : Hid (∀ W' : World, Below (W1.alloc (.cells #[.int .i64 0, .int .i64 0, .int .i64 0, .int .i64 0, .int .i64 0, .int .i64 0, .int .i64 0, .int .i64 0, .int .i64 0, .int .i64 0] 241)).heap.size (W1.alloc (.cells #[.int .i64 0, .int .i64 0, .int .i64 0, .int .i64 0, .int .i64 0, .int .i64 0, .int .i64 0, .int .i64 0, .int .i64 0, .int .i64 0] 241)) W' → W'.there W1.heap.size 0 (List.length ([Value.int .i64 1, Value.int .i64 (z.names : Int), Value.int .i64 (z.texts : Int), Value.int .i64 (z.lists : Int), Value.int .i64 (z.times : Int), Value.int .i64 6, Value.int .i64 (z.accs : Int), Value.int .i64 (z.ints : Int), Value.int .i64 (z.alias : Int), Value.int .i64 0] : List Value))) := fun W' hb => ((Z10.new W1).below hb (Z10.new W1).1).there
    have tB2 : Hid (∀ W' : World, Below (W1.alloc (.cells #[.int .i64 0, .int .i64 0, .int .i64 0, .int .i64 0, .int .i64 0, .int .i64 0, .int .i64 0, .int .i64 0, .int .i64 0, .int .i64 0] 241)).drew.heap.size (W1.alloc (.cells #[.int .i64 0, .int .i64 0, .int .i64 0, .int .i64 0, .int .i64 0, .int .i64 0, .int .i64 0, .int .i64 0, .int .i64 0, .int .i64 0] 241)).drew W' → W'.there W1.heap.size 0 (List.length ([Value.int .i64 1, Value.int .i64 (z.names : Int), Value.int .i64 (z.texts : Int), Value.int .i64 (z.lists : Int), Value.int .i64 (z.times : Int), Value.int .i64 6, Value.int .i64 (z.accs : Int), Value.int .i64 (z.ints : Int), Value.int .i64 (z.alias : Int), Value.int .i64 0] : List Value))) := fun W' hb => by
      have b1 : Below (W1.alloc (.cells #[.int .i64 0, .int .i64 0, .int .i64 0, .int .i64 0, .int .i64 0, .int .i64 0, .int .i64 0, .int .i64 0, .int .i64 0, .int .i64 0] 241)).heap.size (W1.alloc (.cells #[.int .i64 0, .int .i64 0, .int .i64 0, .int .i64 0, .int .i64 0, .int .i64 0, .int .i64 0, .int .i64 0, .int .i64 0, .int .i64 0] 241)) (W1.alloc (.cells #[.int .i64 0, .int .i64 0, .int .i64 0, .int .i64 0, .int .i64 0, .int .i64 0, .int .i64 0, .int .i64 0, .int .i64 0, .int .i64 0] 241)).drew := (Below.refl _ _).drew
      exact tB.out W' (b1.trans (hb.mono b1.size))
    have tB3 : Hid (∀ W' : World, Below (W1.drew.alloc (.cells #[.int .i64 0, .int .i64 0, .int .i64 0, .int .i64 0, .int .i64 0, .int .i64 0, .int .i64 0, .int .i64 0, .int .i64 0, .int .i64 0] 241)).heap.size (W1.drew.alloc (.cells #[.int .i64 0, .int .i64 0, .int .i64 0, .int .i64 0, .int .i64 0, .int .i64 0, .int .i64 0, .int .i64 0, .int .i64 0, .int .i64 0] 241)) W' → W'.there W1.heap.size 0 (List.length ([Value.int .i64 1, Value.int .i64 (z.names : Int), Value.int .i64 (z.texts : Int), Value.int .i64 (z.lists : Int), Value.int .i64 (z.times : Int), Value.int .i64 6, Value.int .i64 (z.accs : Int), Value.int .i64 (z.ints : Int), Value.int .i64 (z.alias : Int), Value.int .i64 0] : List Value))) := fun W' hb => tB2.out W' hb
    have hfz : Hid (∀ (W : World) (g : Nat), W.there g 0 (List.length ([Value.int .i64 1, Value.int .i64 (z.names : Int), Value.int .i64 (z.texts : Int), Value.int .i64 (z.lists : Int), Value.int .i64 (z.times : Int), Value.int .i64 6, Value.int .i64 (z.accs : Int), Value.int .i64 (z.ints : Int), Value.int .i64 (z.alias : Int), Value.int .i64 0] : List Value)) → SZ (W.setCells g 0 [Value.int .i64 1, Value.int .i64 (z.names : Int), Value.int .i64 (z.texts : Int), Value.int .i64 (z.lists : Int), Value.int .i64 (z.times : Int), Value.int .i64 6, Value.int .i64 (z.accs : Int), Value.int .i64 (z.ints : Int), Value.int .i64 (z.alias : Int), Value.int .i64 0]) g z) := fun W g h => SZ_set h
    have hlt : Hid (∀ W' : World, EF w of a c first n p W' → w.heap.size + 1 < W'.heap.size) := fun W' h => h.pb.1
    clear hVH hbdH hofH hnH hIH hTH hAH hcH hzH hK
    go_region_held3 (fun W => EF w of a c first n p W ∧ W.cell? ⟨w.heap.size, 1, none⟩ = some (.slice a n c) ∧ W.cell? ⟨w.heap.size + 1, 0, none⟩ = some (.string p.from_) ∧ W.cell? ⟨w.heap.size + 1, 1, none⟩ = some (.string p.into) ∧ W.cell? ⟨w.heap.size + 1, 2, none⟩ = some (.int .i64 p.every) ∧ W.cell? ⟨w.heap.size + 1, 3, none⟩ = some (.int .i64 p.offset) ∧ W.cell? ⟨w.heap.size + 1, 4, none⟩ = some (.slice p.groups.a p.groups.n p.groups.c) ∧ W.cell? ⟨w.heap.size + 1, 5, none⟩ = some (.slice p.accs.a p.accs.n p.accs.c) ∧ W.cell? ⟨w.heap.size + 1, 6, none⟩ = some (.slice p.alias.a p.alias.n p.alias.c) ∧ W.cell? ⟨w.heap.size + 1, 7, none⟩ = some (.slice p.names.a p.names.n p.names.c) ∧ W.cell? ⟨w.heap.size + 1, 8, none⟩ = some (.slice p.texts.a p.texts.n p.texts.c) ∧ W.cell? ⟨w.heap.size + 1, 9, none⟩ = some (.slice p.lists.a p.lists.n p.lists.c) ∧ W.cell? ⟨w.heap.size + 1, 10, none⟩ = some (.slice p.times.a p.times.n p.times.c) ∧ W.cell? ⟨w.heap.size + 1, 11, none⟩ = some (.slice p.ints.a p.ints.n p.ints.c) ∧ W.cell? ⟨w.heap.size + 1, 12, none⟩ = some (.slice p.filter.a p.filter.n p.filter.c) ∧ W.cell? ⟨w.heap.size + 1, 13, none⟩ = some (.slice p.output.a p.output.n p.output.c)) (first | with_reducible assumption | (with_reducible refine hKs.out _ _ _ ?_ ?_ <;> with_reducible assumption) | (with_reducible refine hKA.out _ _ ?_; with_reducible assumption))
      (first
        | (go_at_call 103; (with_reducible refine Calls.mono (cS.out W1.drew) ?_); rintro e w' ⟨rfl, BB⟩; have SS := hKK.out _ _ (by with_reducible assumption) BB; have TH := tA.out w'; have LT := hlt.out _ SS.1)
        | (go_at_call 103; (with_reducible refine Calls.mono (cS.out _) ?_); rintro e w' ⟨rfl, BB⟩; have SS := hKK.out _ _ (by with_reducible assumption) BB; have TH := (by first | (with_reducible exact tB2.out w' BB) | (with_reducible exact tB3.out w' BB) : World.there w' W1.heap.size 0 (List.length ([Value.int .i64 1, Value.int .i64 (z.names : Int), Value.int .i64 (z.texts : Int), Value.int .i64 (z.lists : Int), Value.int .i64 (z.times : Int), Value.int .i64 6, Value.int .i64 (z.accs : Int), Value.int .i64 (z.ints : Int), Value.int .i64 (z.alias : Int), Value.int .i64 0] : List Value)))))
    all_goals go_wp2_with fail
    all_goals go_meet
    all_goals exact ⟨_, rfl, by first | rfl | (rw [nw]), (by assumption : EF w of a c first n p _ ∧ _).1, hfz.out _ _ (by assumption)⟩
  case rest =>
    obtain ⟨G, rfl, rfl, hcut⟩ := hcut
    clear e0H cS
    have x1 := hcut.out.1.x1
    go_wp2_with fail
    clear x1
    go_loopw [19] (fun v19 wr => ∃ k : Nat, v19 = .int .i64 (k : Int) ∧ k ≤ n ∧ Hid (firstBad bad (l.drop k) k = firstBad bad l 0) ∧ Hid (EF w of a c first n p wr ∧ SZ wr G z)) (fun v19 _ => n - (intOf v19).toNat)
    case atStart => exact ⟨0, rfl, Nat.zero_le _, rfl, hcut⟩
    case round =>
      clear hcut
      obtain ⟨k, rfl, hkn, hfb, hew⟩ := hrel
      have k0 : (0 : Int) ≤ (k : Int) := by omega
      by_cases hk : k < n
      · have kI : (k : Int) < (n : Int) := by omega
        have kw : IntKind.i64.wrap ((k : Int) + 1) = ((k + 1 : Nat) : Int) := IntWalk.i64_in _ (by omega)
        obtain ⟨g, off, t, et, ea, gl, c1, c2, c3⟩ := (hIH.out.below hew.out.1.b (Nat.le_refl _)).at (k := k) (by rw [hnH.out]; exact hk)
        subst ea
        obtain ⟨tc, ta, tb⟩ := t
        have ST : Hid (firstBad bad l 0 = if bad k ⟨tc, ta, tb⟩ = 0 then firstBad bad (l.drop (k + 1)) (k + 1) else some (k, bad k ⟨tc, ta, tb⟩)) := by rw [← hfb.out]; exact first_drop et
        have VK : Hid (bad k ⟨tc, ta, tb⟩ ≠ 0 → V = atE ((first : Int) + (k : Int)) (bad k ⟨tc, ta, tb⟩)) := fun h => by rw [hVH.out, ST.out, if_neg h]; rfl
        have NXT : Hid (bad k ⟨tc, ta, tb⟩ = 0 → firstBad bad (l.drop (k + 1)) (k + 1) = firstBad bad l 0) := fun h => by rw [ST.out, if_pos h]
        have hb : Hid (bad k ⟨tc, ta, tb⟩ = badP z (of : Int) k ((n : Int) - 1) (raOf acc ta tb) ⟨tc, ta, tb⟩) := hid (by rw [hbdH.out, ← hnH.out])
        generalize bad k ⟨tc, ta, tb⟩ = bk at VK NXT hb
        have tcB : tc < 256 := hcH.out k _ et
        have cR : Hid (Calls Tryz.prog 104 #[.int .u8 (tc : Int)] (wr.alloc (.cells #[.int .u8 (tc : Int), .int .i64 ta, .int .i64 tb] 59)) fun e w' => e = .returned (rowA (rowF tc)) ∧ Below (wr.alloc (.cells #[.int .u8 (tc : Int), .int .i64 ta, .int .i64 tb] 59)).heap.size (wr.alloc (.cells #[.int .u8 (tc : Int), .int .i64 ta, .int .i64 tb] 59)) w') := rowOf_any tc tcB _ (hTH.out.1.below (hew.out.1.b.alloc hew.out.1.b.size _) hTH.out.2)
        have cF : Hid (∀ (e : Int) W, (e == 0) = false → Calls Tryz.prog 105 #[.agg #[.int .u8 (of : Int), .slice (some ⟨g, off, none⟩) n c, .int .i64 (first : Int)], .int .i64 (k : Int), .int .i64 e] W fun ev w' => ev = .returned (atE ((first : Int) + (k : Int)) e) ∧ Below W.heap.size W w') := fun e W he => by
          have h := fail_any (of : Int) (.slice (some ⟨g, off, none⟩) n c) (first : Int) (k : Int) e he W
          rw [IntWalk.wrap64_in _ (by omega)] at h
          exact h
        obtain ⟨ra10, rb10⟩ := row_opsP (c := tc)
        have cH1 : Hid (∀ W, Calls Tryz.prog 106 #[szA z, .int .u8 ((rowF tc).a : Int), .int .i64 ta] W fun e w' => e = .returned (.bool (haveB z (rowF tc).a ta)) ∧ GR W w') := fun W => have_gr z _ ra10 ta W
        have cH2 : Hid (∀ W, Calls Tryz.prog 106 #[szA z, .int .u8 ((rowF tc).b : Int), .int .i64 tb] W fun e w' => e = .returned (.bool (haveB z (rowF tc).b tb)) ∧ GR W w') := fun W => have_gr z _ rb10 tb W
        have h16 : Hid (tc = 16 → (rowF tc).a = 6 ∧ (rowF tc).b = 6) := fun h => by rw [h]; exact ⟨rfl, rfl⟩
        obtain ⟨x1, hx1⟩ : ∃ x, haveB z (rowF tc).a ta = x := ⟨_, rfl⟩
        obtain ⟨x2, hx2⟩ : ∃ x, haveB z (rowF tc).b tb = x := ⟨_, rfl⟩
        have hx1H : Hid (tc = 16 → haveB z 6 ta = x1) := fun h => by rw [← hx1, (h16.out h).1]
        have hx2H : Hid (tc = 16 → haveB z 6 tb = x2) := fun h => by rw [← hx2, (h16.out h).2]
        rw [hx1] at cH1
        rw [hx2] at cH2
        have hb2 : Hid (bk = if ¬ ((rowF tc).of : Int) = (of : Int) then 180 else if (!x1) || (!x2) || (tc == 16 && !(raOf acc ta tb)) then 192 else if (rowF tc).a == 9 && (decide (ta ≤ (k : Int)) || decide ((n : Int) - 1 < ta)) then 191 else if (rowF tc).en && decide ((k : Int) < (n : Int) - 1) then 193 else 0) := hid (by rw [hb.out]; unfold badP; simp only [hx1, hx2])
        clear hx1 hx2 hb ST hfb
        unfold szA at cH1 cH2
        unfold rowA at cR
        have RXm : Hid (∀ w5, Below (wr.alloc (.cells #[.int .u8 (tc : Int), .int .i64 ta, .int .i64 tb] 59)).heap.size (wr.alloc (.cells #[.int .u8 (tc : Int), .int .i64 ta, .int .i64 tb] 59)) w5 → RX w of (some ⟨g, off, none⟩) c first n p G wr.heap.size w5.heap.size z ⟨tc, ta, tb⟩ (rowF tc) (w5.alloc (.cells #[.int .u8 ((rowF tc).of : Int), .int .i64 ((rowF tc).tk : Int), .int .i64 ((rowF tc).pt : Int), .int .u8 ((rowF tc).a : Int), .int .u8 ((rowF tc).b : Int), .bool (rowF tc).en] 245))) := fun w5 b5 => RX_mk hew.out.1 hew.out.2 b5
        generalize hrr : rowF tc = r at *
        clear hrr
        go_wp2_with fail
        with_reducible refine Calls.mono cR.out ?_
        rintro e w5 ⟨rfl, b5⟩
        have RX5 := RXm.out w5 b5
        have RX5H : Hid (RX w of (some ⟨g, off, none⟩) c first n p G wr.heap.size w5.heap.size z ⟨tc, ta, tb⟩ r (w5.alloc (.cells #[.int .u8 (r.of : Int), .int .i64 (r.tk : Int), .int .i64 (r.pt : Int), .int .u8 (r.a : Int), .int .u8 (r.b : Int), .bool r.en] 245))) := RX5
        clear RX5 RXm b5 cR c1 c2 c3 gl hew
        go_upto_region 6 with fail
        generalize w5.alloc _ = W6 at RX5H ⊢
        generalize w5.heap.size = R at RX5H ⊢
        generalize wr.heap.size = I at RX5H ⊢
        by_cases ho : (r.of : Int) = (of : Int)
        rotate_left
        · have hbad : bk = 180 := by rw [hb2.out, if_pos ho]
          have VV : Hid (V = atE ((first : Int) + (k : Int)) 180) := hid (by rw [VK.out (by rw [hbad]; decide), hbad])
          have dd : (!decide ((r.of : Int) = (of : Int))) = true := by simp [ho]
          have db : ((r.of : Int) != (of : Int)) = true := by simp [ho]
          clear hb2 hbad VK NXT cH1 cH2 h16 hx1H hx2H hAH
          clear hVH hbdH hofH hnH hIH hTH hcH hzH
          obtain ⟨⟨_, f0, f1, f2, hpb⟩, ⟨_, s0, s1, s2, s3, s4, s5, s6, s7, s8, s9⟩, ⟨_, i0, i1, i2⟩, ⟨_, r0, r1, r2, r3, r4, r5⟩⟩ := RX5H.out
          dsimp only at i0 i1 i2
          clear s0 s1 s2 s3 s4 s5 s6 s7 s8 s9 i0 i1 i2 r1 r2 r3 r4 r5 hpb
          go_wp2_with (go_at_call 105; with_reducible refine Calls.mono (cF.out _ _ rfl) ?_; rintro e w' ⟨rfl, BB⟩)
          go_ret
          exact ⟨by rw [VV.out]; rfl, RX5H.out.1.b.trans (BB.mono RX5H.out.1.b.size)⟩
        have db : ((r.of : Int) != (of : Int)) = false := by simp [ho]
        rw [if_neg (fun h => h ho)] at hb2
        have f0 := RX5H.out.1.x0
        have r0 := RX5H.out.2.2.2.2.1
        obtain ⟨xr, hxr⟩ : ∃ x, (tc == 16 && !(raOf acc ta tb)) = x := ⟨_, rfl⟩
        have hxrH : Hid ((tc == 16 && !(raOf acc ta tb)) = xr) := hxr
        rw [hxr] at hb2
        clear hxr
        go_upto_region 8 with fail
        clear f0 r0 db
        go_cut [19, 36] from 19 to 107 (fun v19 v36 wx => v19 = .int .i64 (k : Int) ∧ v36 = .bool ((!x1) || (!x2) || xr) ∧ Hid (RX w of (some ⟨g, off, none⟩) c first n p G I R z ⟨tc, ta, tb⟩ r wx))
        case first =>
          clear VK NXT hb2 cF hVH hbdH hofH hnH hIH hTH hcH h16
          cases x1 with
          | false =>
            obtain ⟨⟨_, f0, f1, f2, hpb⟩, ⟨_, s0, s1, s2, s3, s4, s5, s6, s7, s8, s9⟩, ⟨_, i0, i1, i2⟩, ⟨_, r0, r1, r2, r3, r4, r5⟩⟩ := RX5H.out
            dsimp only at i0 i1 i2
            clear f0 f1 f2 r0 r1 r2 r5 hpb
            have S0 := gcell s0
            have S1 := gcell s1
            have S2 := gcell s2
            have S3 := gcell s3
            have S4 := gcell s4
            have S5 := gcell s5
            have S6 := gcell s6
            have S7 := gcell s7
            have S8 := gcell s8
            have S9 := gcell s9
            have I0 := gcell i0
            have I1 := gcell i1
            have I2 := gcell i2
            have R3 := gcell r3
            have R4 := gcell r4
            clear s0 s1 s2 s3 s4 s5 s6 s7 s8 s9 i0 i1 i2 r3 r4
            have mixed : Tryz.prog.follows .mixedOrders = true := by kernel_rfl
            have eg : ∀ args w, (callFunc 106 args).run Tryz.prog w = .ok (.enter 106 args) w := enters_of Tryz.func106 (by kernel_rfl) rfl
            clear cH2 hx1H hx2H hxrH hAH hzH
            refine Go.wp_region_quiet_grown (by assumption) (by kernel_rfl) ?_
            repeat (go_big_quiet_step (first | (go_at_fn 106; with_reducible exact Calls.grown_of (cH1.out _))))
            refine Go.wpQuiet_nil ?_
            intro _ hw'
            obtain ⟨⟨nq, osq⟩, hw''⟩ := hw'
            subst hw''
            have RX9H := hid (RX5H.out.below (GR.below (W := W6) ⟨nq, osq, rfl⟩))
            go_wp2_with fail
            go_meet
            exact ⟨rfl, by first | rfl | simp, RX9H⟩
          | true =>
            cases x2 with
            | false =>
              obtain ⟨⟨_, f0, f1, f2, hpb⟩, ⟨_, s0, s1, s2, s3, s4, s5, s6, s7, s8, s9⟩, ⟨_, i0, i1, i2⟩, ⟨_, r0, r1, r2, r3, r4, r5⟩⟩ := RX5H.out
              dsimp only at i0 i1 i2
              clear f0 f1 f2 r0 r1 r2 r5 hpb
              have S0 := gcell s0
              have S1 := gcell s1
              have S2 := gcell s2
              have S3 := gcell s3
              have S4 := gcell s4
              have S5 := gcell s5
              have S6 := gcell s6
              have S7 := gcell s7
              have S8 := gcell s8
              have S9 := gcell s9
              have I0 := gcell i0
              have I1 := gcell i1
              have I2 := gcell i2
              have R3 := gcell r3
              have R4 := gcell r4
              clear s0 s1 s2 s3 s4 s5 s6 s7 s8 s9 i0 i1 i2 r3 r4
              have mixed : Tryz.prog.follows .mixedOrders = true := by kernel_rfl
              have eg : ∀ args w, (callFunc 106 args).run Tryz.prog w = .ok (.enter 106 args) w := enters_of Tryz.func106 (by kernel_rfl) rfl
              clear hx1H hx2H hxrH hAH hzH
              refine Go.wp_region_quiet_grown (by assumption) (by kernel_rfl) ?_
              repeat (go_big_quiet_step (first | (go_at_fn 106; with_reducible exact Calls.grown_of (cH1.out _)) | (go_at_fn 106; with_reducible exact Calls.grown_of (cH2.out _))))
              refine Go.wpQuiet_nil ?_
              intro _ hw'
              obtain ⟨⟨nq, osq⟩, hw''⟩ := hw'
              subst hw''
              have RX9H := hid (RX5H.out.below (GR.below (W := W6) ⟨nq, osq, rfl⟩))
              go_wp2_with fail
              go_meet
              exact ⟨rfl, by first | rfl | simp, RX9H⟩
            | true =>
              by_cases h6 : tc = 16
              rotate_left
              · have e6 : xr = false := by rw [← hxrH.out]; simp [h6]
                subst e6
                have d6 : ((tc : Int) == 16) = false := by rw [beq_eq_false_iff_ne]; omega
                have d6d : decide ((tc : Int) = 16) = false := decide_eq_false (by omega)
                clear h6
                obtain ⟨⟨_, f0, f1, f2, hpb⟩, ⟨_, s0, s1, s2, s3, s4, s5, s6, s7, s8, s9⟩, ⟨_, i0, i1, i2⟩, ⟨_, r0, r1, r2, r3, r4, r5⟩⟩ := RX5H.out
                dsimp only at i0 i1 i2
                clear f0 f1 f2 r0 r1 r2 r5 hpb
                have S0 := gcell s0
                have S1 := gcell s1
                have S2 := gcell s2
                have S3 := gcell s3
                have S4 := gcell s4
                have S5 := gcell s5
                have S6 := gcell s6
                have S7 := gcell s7
                have S8 := gcell s8
                have S9 := gcell s9
                have I0 := gcell i0
                have I1 := gcell i1
                have I2 := gcell i2
                have R3 := gcell r3
                have R4 := gcell r4
                clear s0 s1 s2 s3 s4 s5 s6 s7 s8 s9 i0 i1 i2 r3 r4
                have mixed : Tryz.prog.follows .mixedOrders = true := by kernel_rfl
                have eg : ∀ args w, (callFunc 106 args).run Tryz.prog w = .ok (.enter 106 args) w := enters_of Tryz.func106 (by kernel_rfl) rfl
                clear hx1H hx2H hxrH hAH hzH
                refine Go.wp_region_quiet_grown (by assumption) (by kernel_rfl) ?_
                repeat (go_big_quiet_step (first | (go_at_fn 106; with_reducible exact Calls.grown_of (cH1.out _)) | (go_at_fn 106; with_reducible exact Calls.grown_of (cH2.out _))))
                refine Go.wpQuiet_nil ?_
                intro _ hw'
                obtain ⟨⟨nq, osq⟩, hw''⟩ := hw'
                subst hw''
                have RX9H := hid (RX5H.out.below (GR.below (W := W6) ⟨nq, osq, rfl⟩))
                go_wp2_with fail
                go_meet
                exact ⟨rfl, by first | rfl | simp, RX9H⟩
              obtain ⟨j1, e1, l1⟩ := have6 (hx1H.out h6)
              obtain ⟨j2, e2, l2⟩ := have6 (hx2H.out h6)
              subst e1 e2
              rw [hzH.out] at l1 l2
              obtain ⟨hA, hacc⟩ := hAH.out
              obtain ⟨ba, oa, y1, ey1, pa, _, u1, u2⟩ := (hA.below RX5H.out.1.b (Nat.le_refl _)).at (k := j1) (by omega)
              obtain ⟨ba2, oa2, y2, ey2, pa2, _, v1, v2⟩ := (hA.below RX5H.out.1.b (Nat.le_refl _)).at (k := j2) (by omega)
              rw [pa] at pa2
              injection pa2 with pa2
              injection pa2 with pa3 pa4
              subst pa3 pa4
              have er : raOf acc (j1 : Int) (j2 : Int) = ratB y1 y2 := by unfold raOf; simp only [Int.toNat_natCast, ey1, ey2]
              have exr : xr = !(ratB y1 y2) := by rw [← hxrH.out, er, h6]; rfl
              have cRa : Hid (∀ W, Calls Tryz.prog 107 #[.agg #[.int .u8 (y1.1 : Int), .string y1.2], .agg #[.int .u8 (y2.1 : Int), .string y2.2]] W fun e w' => e = .returned (.bool (ratB y1 y2)) ∧ GR W w') := fun W => ratio_gr y1 y2 W
              generalize ratB y1 y2 = xq at cRa exr
              subst exr
              obtain ⟨y1f, y1s⟩ := y1
              obtain ⟨y2f, y2s⟩ := y2
              dsimp only at u1 u2 v1 v2 cRa
              have d6 : ((tc : Int) == 16) = true := by rw [beq_iff_eq]; omega
              have d6d : decide ((tc : Int) = 16) = true := decide_eq_true (by omega)
              have j10 : (0 : Int) ≤ (j1 : Int) := by omega
              have j20 : (0 : Int) ≤ (j2 : Int) := by omega
              have j1I : (j1 : Int) < (p.accs.n : Int) := by omega
              have j2I : (j2 : Int) < (p.accs.n : Int) := by omega
              clear er ey1 ey2 h6 hA hacc l1 l2
              obtain ⟨⟨_, f0, f1, f2, hpb⟩, ⟨_, s0, s1, s2, s3, s4, s5, s6, s7, s8, s9⟩, ⟨_, i0, i1, i2⟩, ⟨_, r0, r1, r2, r3, r4, r5⟩⟩ := RX5H.out
              dsimp only at i0 i1 i2
              clear f0 f1 f2 r0 r1 r2 r5
              obtain ⟨_, _, _, _, _, _, p5, _, _, _, _, _, _, _, _⟩ := hpb
              rw [pa] at p5
              have S0 := gcell s0
              have S1 := gcell s1
              have S2 := gcell s2
              have S3 := gcell s3
              have S4 := gcell s4
              have S5 := gcell s5
              have S6 := gcell s6
              have S7 := gcell s7
              have S8 := gcell s8
              have S9 := gcell s9
              have I0 := gcell i0
              have I1 := gcell i1
              have I2 := gcell i2
              have R3 := gcell r3
              have R4 := gcell r4
              have P5 := gcell p5
              have U1 := gcell u1
              have U2 := gcell u2
              have V1 := gcell v1
              have V2 := gcell v2
              clear s0 s1 s2 s3 s4 s5 s6 s7 s8 s9 i0 i1 i2 r3 r4 p5 u1 u2 v1 v2
              have mixed : Tryz.prog.follows .mixedOrders = true := by kernel_rfl
              have eg : ∀ args w, (callFunc 106 args).run Tryz.prog w = .ok (.enter 106 args) w := enters_of Tryz.func106 (by kernel_rfl) rfl
              have eg2 : ∀ args w, (callFunc 107 args).run Tryz.prog w = .ok (.enter 107 args) w := enters_of Tryz.func107 (by kernel_rfl) rfl
              clear hx1H hx2H hxrH hAH hzH pa
              refine Go.wp_region_quiet_grown (by assumption) (by kernel_rfl) ?_
              repeat (go_big_quiet_step (first | (go_at_fn 106; with_reducible exact Calls.grown_of (cH1.out _)) | (go_at_fn 106; with_reducible exact Calls.grown_of (cH2.out _)) | (go_at_fn 107; with_reducible exact Calls.grown_of (cRa.out _))))
              refine Go.wpQuiet_nil ?_
              intro _ hw'
              obtain ⟨⟨nq, osq⟩, hw''⟩ := hw'
              subst hw''
              have RX9H := hid (RX5H.out.below (GR.below (W := W6) ⟨nq, osq, rfl⟩))
              go_wp2_with fail
              go_meet
              exact ⟨rfl, by first | rfl | simp, RX9H⟩
        case rest =>
          obtain ⟨rfl, rfl, hrx⟩ := hcut
          clear RX5H cH1 cH2 hx1H hx2H hxrH h16 hAH hzH hVH hbdH hofH hnH hIH hTH hcH
          obtain ⟨b2, hb22⟩ : ∃ b, ((!x1) || (!x2) || xr) = b := ⟨_, rfl⟩
          rw [hb22] at hb2
          rw [hb22]
          clear hb22
          obtain ⟨⟨_, f0, f1, f2, hpb⟩, ⟨_, s0, s1, s2, s3, s4, s5, s6, s7, s8, s9⟩, ⟨_, i0, i1, i2⟩, ⟨_, r0, r1, r2, r3, r4, r5⟩⟩ := hrx.out
          dsimp only at i0 i1 i2
          clear s0 s1 s2 s3 s4 s5 s6 s7 s8 s9 i0 i2 r0 r1 r2 r4 hpb
          cases b2 with
          | true =>
            have hbad : bk = 192 := by rw [hb2.out]; rfl
            have VV : Hid (V = atE ((first : Int) + (k : Int)) 192) := hid (by rw [VK.out (by rw [hbad]; decide), hbad])
            clear hb2 hbad VK NXT
            go_wp2_with (go_at_call 105; with_reducible refine Calls.mono (cF.out _ _ rfl) ?_; rintro e w' ⟨rfl, BB⟩)
            go_ret
            exact ⟨by rw [VV.out]; rfl, hrx.out.1.b.trans (BB.mono hrx.out.1.b.size)⟩
          | false =>
            by_cases a9 : r.a = 9
            · have d9 : ((r.a : Int) == 9) = true := by rw [beq_iff_eq]; omega
              have d9d : decide ((r.a : Int) = 9) = true := decide_eq_true (by omega)
              by_cases q1 : ta ≤ (k : Int)
              · have dq1 : decide (ta ≤ (k : Int)) = true := decide_eq_true q1
                have hbad : bk = 191 := by rw [hb2.out]; simp [*]
                have VV : Hid (V = atE ((first : Int) + (k : Int)) 191) := hid (by rw [VK.out (by rw [hbad]; decide), hbad])
                clear hb2 hbad VK NXT
                go_wp2_with (go_at_call 105; with_reducible refine Calls.mono (cF.out _ _ rfl) ?_; rintro e w' ⟨rfl, BB⟩)
                go_ret
                exact ⟨by rw [VV.out]; rfl, hrx.out.1.b.trans (BB.mono hrx.out.1.b.size)⟩
              have dq1 : decide (ta ≤ (k : Int)) = false := decide_eq_false q1
              by_cases q2 : (n : Int) - 1 < ta
              · have dq2 : decide ((n : Int) - 1 < ta) = true := decide_eq_true q2
                have hbad : bk = 191 := by rw [hb2.out]; simp [*]
                have VV : Hid (V = atE ((first : Int) + (k : Int)) 191) := hid (by rw [VK.out (by rw [hbad]; decide), hbad])
                clear hb2 hbad VK NXT
                go_wp2_with (go_at_call 105; with_reducible refine Calls.mono (cF.out _ _ rfl) ?_; rintro e w' ⟨rfl, BB⟩)
                go_ret
                exact ⟨by rw [VV.out]; rfl, hrx.out.1.b.trans (BB.mono hrx.out.1.b.size)⟩
              have dq2 : decide ((n : Int) - 1 < ta) = false := decide_eq_false q2
              cases hen : r.en with
              | false =>
                rw [hen] at r5
                have hbad : bk = 0 := by rw [hb2.out]; simp [*]
                have NX : Hid (firstBad bad (l.drop (k + 1)) (k + 1) = firstBad bad l 0) := NXT.out hbad
                clear hb2 hbad VK NXT
                go_wp2_with fail
                exact ⟨⟨k + 1, by first | rfl | (rw [kw]), by omega, NX, hrx.out.1, hrx.out.2.1⟩, by first | (simp [intOf]; done) | (simp [intOf]; omega)⟩
              | true =>
                rw [hen] at r5
                by_cases lt : (k : Int) < (n : Int) - 1
                · have dlt : decide ((k : Int) < (n : Int) - 1) = true := decide_eq_true lt
                  have hbad : bk = 193 := by rw [hb2.out]; simp [*]
                  have VV : Hid (V = atE ((first : Int) + (k : Int)) 193) := hid (by rw [VK.out (by rw [hbad]; decide), hbad])
                  clear hb2 hbad VK NXT
                  go_wp2_with (go_at_call 105; with_reducible refine Calls.mono (cF.out _ _ rfl) ?_; rintro e w' ⟨rfl, BB⟩)
                  go_ret
                  exact ⟨by rw [VV.out]; rfl, hrx.out.1.b.trans (BB.mono hrx.out.1.b.size)⟩
                · have dlt : decide ((k : Int) < (n : Int) - 1) = false := decide_eq_false lt
                  have FF : False := by omega
                  exact FF.elim
            have d9 : ((r.a : Int) == 9) = false := by rw [beq_eq_false_iff_ne]; omega
            have d9d : decide ((r.a : Int) = 9) = false := decide_eq_false (by omega)
            have a9I : ¬ (r.a : Int) = 9 := by omega
            cases hen : r.en with
            | false =>
              rw [hen] at r5
              have hbad : bk = 0 := by rw [hb2.out]; simp [*]
              have NX : Hid (firstBad bad (l.drop (k + 1)) (k + 1) = firstBad bad l 0) := NXT.out hbad
              clear hb2 hbad VK NXT
              go_wp2_with fail
              exact ⟨⟨k + 1, by first | rfl | (rw [kw]), by omega, NX, hrx.out.1, hrx.out.2.1⟩, by first | (simp [intOf]; done) | (simp [intOf]; omega)⟩
            | true =>
              rw [hen] at r5
              by_cases lt : (k : Int) < (n : Int) - 1
              · have dlt : decide ((k : Int) < (n : Int) - 1) = true := decide_eq_true lt
                have hbad : bk = 193 := by rw [hb2.out]; simp [*]
                have VV : Hid (V = atE ((first : Int) + (k : Int)) 193) := hid (by rw [VK.out (by rw [hbad]; decide), hbad])
                clear hb2 hbad VK NXT
                go_wp2_with (go_at_call 105; with_reducible refine Calls.mono (cF.out _ _ rfl) ?_; rintro e w' ⟨rfl, BB⟩)
                go_ret
                exact ⟨by rw [VV.out]; rfl, hrx.out.1.b.trans (BB.mono hrx.out.1.b.size)⟩
              · have dlt : decide ((k : Int) < (n : Int) - 1) = false := decide_eq_false lt
                have hbad : bk = 0 := by rw [hb2.out]; simp [*]
                have NX : Hid (firstBad bad (l.drop (k + 1)) (k + 1) = firstBad bad l 0) := NXT.out hbad
                clear hb2 hbad VK NXT
                go_wp2_with fail
                exact ⟨⟨k + 1, by first | rfl | (rw [kw]), by omega, NX, hrx.out.1, hrx.out.2.1⟩, by first | (simp [intOf]; done) | (simp [intOf]; omega)⟩
      · have kI : ¬ (k : Int) < (n : Int) := by omega
        have ekn : k = n := by omega
        have h2 := hfb.out
        rw [List.drop_eq_nil_of_le (by rw [hnH.out]; omega)] at h2
        have hV2 : Hid (V = frV first (if (l.getLast?.map fun i => (rowF i.c).en) = some true then none else some (n, 193))) := by
          rw [hVH.out, ← h2, ← hnH.out]; rfl
        have hallH : Hid (∀ (j : Nat) (t : InP), l[j]? = some t → bad (0 + j) t = 0) := fun j t ht => firstBad_none l 0 h2.symm j t ht
        have cF : Hid (∀ (e : Int) W, (e == 0) = false → Calls Tryz.prog 105 #[.agg #[.int .u8 (of : Int), .slice a n c, .int .i64 (first : Int)], .int .i64 (n : Int), .int .i64 e] W fun ev w' => ev = .returned (atE ((first : Int) + (n : Int)) e) ∧ Below W.heap.size W w') := fun e W he => by
          have h := fail_any (of : Int) (.slice a n c) (first : Int) (n : Int) e he W
          rw [IntWalk.wrap64_in _ (by omega)] at h
          exact h
        clear h2
        have f0 := hew.out.1.x0
        have f1 := hew.out.1.x1
        have f2 := hew.out.1.x2
        rcases Nat.eq_zero_or_pos n with h0 | h0
        · have VV : Hid (V = atE ((first : Int) + (n : Int)) 193) := by
            rw [hV2.out, List.length_eq_zero_iff.1 (hnH.out.trans h0)]; rfl
          have d0 : decide ((n : Int) - 1 < 0) = true := decide_eq_true (by omega)
          have d1 : (n : Int) - 1 < 0 := by omega
          clear hV2 hVH hfb hIH hbdH hnH hallH hofH hTH hcH hAH hzH h0 ekn
          go_wp2_with (go_at_call 105; with_reducible refine Calls.mono (cF.out _ _ rfl) ?_; rintro e w' ⟨rfl, BB⟩)
          go_ret
          exact ⟨by rw [VV.out]; rfl, hew.out.1.b.trans (BB.mono hew.out.1.b.size)⟩
        · obtain ⟨m, hm⟩ : ∃ m, n = m + 1 := ⟨n - 1, by omega⟩
          have em : ((n : Int) - 1) = (m : Int) := by omega
          obtain ⟨g, off, t, et, ea, gl, c1, c2, c3⟩ := (hIH.out.below hew.out.1.b (Nat.le_refl _)).at (k := m) (by rw [hnH.out]; omega)
          subst ea
          obtain ⟨tc, ta, tb⟩ := t
          have hlast : l.getLast? = some ⟨tc, ta, tb⟩ := by rw [List.getLast?_eq_getElem?, hnH.out, show n - 1 = m by omega]; exact et
          have h3 := hallH.out m _ et
          rw [hbdH.out] at h3
          have h4 := badP_of h3
          rw [hofH.out] at h4
          obtain ⟨tc1, tc2⟩ := of_range h4
          simp only at tc1 tc2
          have tcI : (tc : Int) < 25 := by omega
          have tc0 : (0 : Int) ≤ (tc : Int) := by omega
          have m0 : (0 : Int) ≤ (m : Int) := by omega
          have mI : (m : Int) < (n : Int) := by omega
          have dm : decide ((m : Int) < 0) = false := decide_eq_false (by omega)
          have t5 := (hTH.out.1.below hew.out.1.b hTH.out.2) tc (by omega) 5 (by omega)
          simp only [rowV, List.getElem?_cons_zero, List.getElem?_cons_succ, Nat.add_zero] at t5
          have hl := hTH.out.2
          have hl2 := hew.out.1.b.size
          have hl3 : 1 < wr.heap.size := by omega
          rw [em]
          clear em
          have hV3 : Hid (V = frV first (if (rowF tc).en = true then none else some (n, 193))) := hid (by rw [hV2.out, hlast]; simp only [Option.map_some, Option.some.injEq])
          clear hV2 hVH hfb hIH hbdH hnH hallH hofH hTH hcH hAH hzH h0 ekn h3 h4 hlast et hl hl2 c2 c3 hm
          generalize (rowF tc).en = en at t5 hV3
          cases en with
          | true =>
            have VV : Hid (V = .nilIface) := by rw [hV3.out]; rfl
            clear hV3 cF
            go_wp2_with fail
            go_ret
            exact ⟨by rw [VV.out]; rfl, hew.out.1.b⟩
          | false =>
            have VV : Hid (V = atE ((first : Int) + (n : Int)) 193) := by rw [hV3.out]; rfl
            clear hV3
            go_wp2_with (go_at_call 105; with_reducible refine Calls.mono (cF.out _ _ rfl) ?_; rintro e w' ⟨rfl, BB⟩)
            go_ret
            exact ⟨by rw [VV.out]; rfl, hew.out.1.b.trans (BB.mono hew.out.1.b.size)⟩
end Go.Proofs.YtdfnomglkibfbaaGreatDoor.Vf

namespace Go.Proofs.YtdfnomglkibfbaaGreatDoor.Vf
open Go.RowKit
set_option linter.unusedVariables false
set_option linter.unusedSimpArgs false
set_option maxRecDepth 100000
/-- a program in its box, and what lay there. -/
def EH (w : World) (p : PrH) (W : World) : Prop := Below w.heap.size w W ∧ PB W w.heap.size p
theorem EH.below {w W W' : World} {p : PrH} (h : EH w p W) (hb : Below W.heap.size W W') : EH w p W' := ⟨h.1.trans (hb.mono h.1.size), h.2.below hb h.2.1⟩
theorem EH.new (w : World) (p : PrH) : EH w p (w.alloc (.cells p.cells 28)) := ⟨(Below.refl _ w).alloc (Nat.le_refl _) _, PB.new w p⟩
set_option maxHeartbeats 16000000 in
theorem rightHead_e (p : PrH) (q : PrL) (hN : PrN p q) (w : World) (hT : UT w) (h : PrIn w p q) (hem : p.into = ⟨#[]⟩) : Calls Tryz.prog 70 #[p.v] w fun e w' => e = .returned (.bool (hdB p q)) ∧ Below w.heap.size w w' := by
  have hTH : Hid (∀ W, EH w p W → UT W) := fun W hW => hT.below hW.1 (Nat.le_refl _)
  have hIH : Hid (∀ W, EH w p W → PrIn W p q) := fun W hW => h.below hW.1 (Nat.le_refl _)
  have cA0 : ∀ W, Hid (EH w p W) → Calls Tryz.prog 94 #[.string p.from_] W fun e w' => e = .returned (erV (cleanB p.from_ 64) 50) ∧ Hid (EH w p w') := fun W hW => by
    exact (name_any p.from_ W (hTH.out W hW.out)).mono (fun e w' hh => ⟨hh.1, hW.out.below hh.2⟩)
  have cB0 : ∀ W, Hid (EH w p W) → Calls Tryz.prog 94 #[.string p.into] W fun e w' => e = .returned (erV (cleanB p.into 64) 50) ∧ Hid (EH w p w') := fun W hW => by
    exact (name_any p.into W (hTH.out W hW.out)).mono (fun e w' hh => ⟨hh.1, hW.out.below hh.2⟩)
  have cC0 : ∀ W, Hid (EH w p W) → Calls Tryz.prog 95 #[.slice p.groups.a p.groups.n p.groups.c, .func (.func 96) #[] #[]] W fun e w' => e = .returned (.bool (q.groups.all columnB)) ∧ Hid (EH w p w') := fun W hW => by
    rw [hN.groups]
    exact (all_col q.groups _ _ hN.groups1 W (hTH.out W hW.out) (hIH.out W hW.out).groups).mono (fun e w' hh => ⟨hh.1, hW.out.below hh.2⟩)
  have cD0 : ∀ W, Hid (EH w p W) → Calls Tryz.prog 97 #[.slice p.accs.a p.accs.n p.accs.c, .func (.func 98) #[] #[]] W fun e w' => e = .returned (.bool (q.accs.all accB)) ∧ Hid (EH w p w') := fun W hW => by
    rw [hN.accs]
    exact (all_acc q.accs _ _ hN.accs1 W (hTH.out W hW.out) (hIH.out W hW.out).accs).mono (fun e w' hh => ⟨hh.1, hW.out.below hh.2⟩)
  have cE0 : ∀ W, Hid (EH w p W) → Calls Tryz.prog 95 #[.slice p.alias.a p.alias.n p.alias.c, .func (.func 96) #[] #[]] W fun e w' => e = .returned (.bool (q.alias.all columnB)) ∧ Hid (EH w p w') := fun W hW => by
    rw [hN.alias]
    exact (all_col q.alias _ _ hN.alias1 W (hTH.out W hW.out) (hIH.out W hW.out).alias).mono (fun e w' hh => ⟨hh.1, hW.out.below hh.2⟩)
  have cG0 : ∀ W, Hid (EH w p W) → Calls Tryz.prog 95 #[.slice p.names.a p.names.n p.names.c, .func (.func 96) #[] #[]] W fun e w' => e = .returned (.bool (q.names.all columnB)) ∧ Hid (EH w p w') := fun W hW => by
    rw [hN.names]
    exact (all_col q.names _ _ hN.names1 W (hTH.out W hW.out) (hIH.out W hW.out).names).mono (fun e w' hh => ⟨hh.1, hW.out.below hh.2⟩)
  have cI0 : ∀ W, Hid (EH w p W) → Calls Tryz.prog 95 #[.slice p.texts.a p.texts.n p.texts.c, .func (.func 100) #[] #[]] W fun e w' => e = .returned (.bool (q.texts.all textB)) ∧ Hid (EH w p w') := fun W hW => by
    rw [hN.texts]
    exact (all_val q.texts _ _ hN.texts1 W (hTH.out W hW.out) (hIH.out W hW.out).texts).mono (fun e w' hh => ⟨hh.1, hW.out.below hh.2⟩)
  have cJ0 : ∀ W, Hid (EH w p W) → Calls Tryz.prog 101 #[.slice p.lists.a p.lists.n p.lists.c, .func (.func 102) #[] #[]] W fun e w' => e = .returned (.bool (q.lists.all listB)) ∧ Hid (EH w p w') := fun W hW => by
    rw [hN.lists]
    exact (all_lst q.lists _ _ hN.lists1 W (hTH.out W hW.out) (hIH.out W hW.out).lists).mono (fun e w' hh => ⟨hh.1, hW.out.below hh.2⟩)
  have cF0 : (1 : Int) ≤ (p.alias.n : Int) → (p.alias.n : Int) ≤ 16 → ∀ W, Hid (EH w p W) → Calls Tryz.prog 99 #[.slice p.alias.a p.alias.n p.alias.c] W fun e w' => e = .returned (.bool (nodB q.alias q.alias.length)) ∧ Hid (EH w p w') := fun g1 g2 W hW => by
    have e1 := hN.alias
    rw [e1]
    exact (distinct_any q.alias (by omega) _ _ W (by omega) (hIH.out W hW.out).alias).mono (fun e w' hh => ⟨hh.1, hW.out.below hh.2⟩)
  have RES : Hid (hdB p q = (cleanB p.from_ 64 && (noneB p.into || cleanB p.into 64) && decide (1 ≤ p.every) && decide (p.every ≤ 288230376151711744) && decide (0 ≤ p.offset) && decide (p.offset < p.every) && decide ((p.groups.n : Int) ≤ 8) && q.groups.all columnB && q.accs.all accB && (decide ((1 : Int) ≤ (p.alias.n : Int)) && decide ((p.alias.n : Int) ≤ 16)) && q.alias.all columnB && q.names.all columnB && q.texts.all textB && nodB q.alias q.alias.length && q.lists.all listB && (decide ((p.filter.n : Int) ≤ 65536) && decide ((p.output.n : Int) ≤ 65536)))) := hid (by
    unfold hdB headB
    rw [hN.alias, hN.filter, hN.output, hN.groups])
  generalize hdB p q = v at *
  generalize cleanB p.from_ 64 = b1 at *
  generalize cleanB p.into 64 = b2 at *
  generalize q.groups.all columnB = b3 at *
  generalize q.accs.all accB = b4 at *
  generalize q.alias.all columnB = b5 at *
  generalize nodB q.alias q.alias.length = b6 at *
  generalize q.names.all columnB = b7 at *
  generalize q.texts.all textB = b8 at *
  generalize q.lists.all listB = b9 at *
  have cA : Hid (∀ W, Hid (EH w p W) → Calls Tryz.prog 94 #[.string p.from_] W fun e w' => e = .returned (erV (b1) 50) ∧ Hid (EH w p w')) := cA0
  have cB : Hid (∀ W, Hid (EH w p W) → Calls Tryz.prog 94 #[.string p.into] W fun e w' => e = .returned (erV (b2) 50) ∧ Hid (EH w p w')) := cB0
  have cC : Hid (∀ W, Hid (EH w p W) → Calls Tryz.prog 95 #[.slice p.groups.a p.groups.n p.groups.c, .func (.func 96) #[] #[]] W fun e w' => e = .returned (.bool (b3)) ∧ Hid (EH w p w')) := cC0
  have cD : Hid (∀ W, Hid (EH w p W) → Calls Tryz.prog 97 #[.slice p.accs.a p.accs.n p.accs.c, .func (.func 98) #[] #[]] W fun e w' => e = .returned (.bool (b4)) ∧ Hid (EH w p w')) := cD0
  have cE : Hid (∀ W, Hid (EH w p W) → Calls Tryz.prog 95 #[.slice p.alias.a p.alias.n p.alias.c, .func (.func 96) #[] #[]] W fun e w' => e = .returned (.bool (b5)) ∧ Hid (EH w p w')) := cE0
  have cG : Hid (∀ W, Hid (EH w p W) → Calls Tryz.prog 95 #[.slice p.names.a p.names.n p.names.c, .func (.func 96) #[] #[]] W fun e w' => e = .returned (.bool (b7)) ∧ Hid (EH w p w')) := cG0
  have cI : Hid (∀ W, Hid (EH w p W) → Calls Tryz.prog 95 #[.slice p.texts.a p.texts.n p.texts.c, .func (.func 100) #[] #[]] W fun e w' => e = .returned (.bool (b8)) ∧ Hid (EH w p w')) := cI0
  have cJ : Hid (∀ W, Hid (EH w p W) → Calls Tryz.prog 101 #[.slice p.lists.a p.lists.n p.lists.c, .func (.func 102) #[] #[]] W fun e w' => e = .returned (.bool (b9)) ∧ Hid (EH w p w')) := cJ0
  have cF1 : Hid ((1 : Int) ≤ (p.alias.n : Int) → (p.alias.n : Int) ≤ 16 → ∀ W, Hid (EH w p W) → Calls Tryz.prog 99 #[.slice p.alias.a p.alias.n p.alias.c] W fun e w' => e = .returned (.bool b6) ∧ Hid (EH w p w')) := cF0
  have hc0 : ∀ W, Hid (EH w p W) → W.cell? ⟨w.heap.size, 0, none⟩ = some (.string p.from_) := fun W hW => by
    obtain ⟨_, _, x0, x1, x2, x3, x4, x5, x6, x7, x8, x9, x10, x11, x12, x13⟩ := hW.out
    exact x0
  have hc1 : ∀ W, Hid (EH w p W) → W.cell? ⟨w.heap.size, 1, none⟩ = some (.string p.into) := fun W hW => by
    obtain ⟨_, _, x0, x1, x2, x3, x4, x5, x6, x7, x8, x9, x10, x11, x12, x13⟩ := hW.out
    exact x1
  have hc2 : ∀ W, Hid (EH w p W) → W.cell? ⟨w.heap.size, 2, none⟩ = some (.int .i64 p.every) := fun W hW => by
    obtain ⟨_, _, x0, x1, x2, x3, x4, x5, x6, x7, x8, x9, x10, x11, x12, x13⟩ := hW.out
    exact x2
  have hc3 : ∀ W, Hid (EH w p W) → W.cell? ⟨w.heap.size, 3, none⟩ = some (.int .i64 p.offset) := fun W hW => by
    obtain ⟨_, _, x0, x1, x2, x3, x4, x5, x6, x7, x8, x9, x10, x11, x12, x13⟩ := hW.out
    exact x3
  have hc4 : ∀ W, Hid (EH w p W) → W.cell? ⟨w.heap.size, 4, none⟩ = some (.slice p.groups.a p.groups.n p.groups.c) := fun W hW => by
    obtain ⟨_, _, x0, x1, x2, x3, x4, x5, x6, x7, x8, x9, x10, x11, x12, x13⟩ := hW.out
    exact x4
  have hc5 : ∀ W, Hid (EH w p W) → W.cell? ⟨w.heap.size, 5, none⟩ = some (.slice p.accs.a p.accs.n p.accs.c) := fun W hW => by
    obtain ⟨_, _, x0, x1, x2, x3, x4, x5, x6, x7, x8, x9, x10, x11, x12, x13⟩ := hW.out
    exact x5
  have hc6 : ∀ W, Hid (EH w p W) → W.cell? ⟨w.heap.size, 6, none⟩ = some (.slice p.alias.a p.alias.n p.alias.c) := fun W hW => by
    obtain ⟨_, _, x0, x1, x2, x3, x4, x5, x6, x7, x8, x9, x10, x11, x12, x13⟩ := hW.out
    exact x6
  have hc7 : ∀ W, Hid (EH w p W) → W.cell? ⟨w.heap.size, 7, none⟩ = some (.slice p.names.a p.names.n p.names.c) := fun W hW => by
    obtain ⟨_, _, x0, x1, x2, x3, x4, x5, x6, x7, x8, x9, x10, x11, x12, x13⟩ := hW.out
    exact x7
  have hc8 : ∀ W, Hid (EH w p W) → W.cell? ⟨w.heap.size, 8, none⟩ = some (.slice p.texts.a p.texts.n p.texts.c) := fun W hW => by
    obtain ⟨_, _, x0, x1, x2, x3, x4, x5, x6, x7, x8, x9, x10, x11, x12, x13⟩ := hW.out
    exact x8
  have hc9 : ∀ W, Hid (EH w p W) → W.cell? ⟨w.heap.size, 9, none⟩ = some (.slice p.lists.a p.lists.n p.lists.c) := fun W hW => by
    obtain ⟨_, _, x0, x1, x2, x3, x4, x5, x6, x7, x8, x9, x10, x11, x12, x13⟩ := hW.out
    exact x9
  have hc12 : ∀ W, Hid (EH w p W) → W.cell? ⟨w.heap.size, 12, none⟩ = some (.slice p.filter.a p.filter.n p.filter.c) := fun W hW => by
    obtain ⟨_, _, x0, x1, x2, x3, x4, x5, x6, x7, x8, x9, x10, x11, x12, x13⟩ := hW.out
    exact x12
  have hc13 : ∀ W, Hid (EH w p W) → W.cell? ⟨w.heap.size, 13, none⟩ = some (.slice p.output.a p.output.n p.output.c) := fun W hW => by
    obtain ⟨_, _, x0, x1, x2, x3, x4, x5, x6, x7, x8, x9, x10, x11, x12, x13⟩ := hW.out
    exact x13
  have E0 : Hid (EH w p (w.alloc (.cells p.cells 28))) := EH.new w p
  clear cA0 cB0 cC0 cD0 cE0 cG0 cI0 cJ0 cF0 hTH hIH hT h hN
  unfold PrH.cells at E0
  unfold PrH.v
  obtain ⟨W1, hW1⟩ : ∃ W1, W1 = w.alloc (.cells #[.string p.from_, .string p.into, .int .i64 p.every, .int .i64 p.offset, .slice p.groups.a p.groups.n p.groups.c, .slice p.accs.a p.accs.n p.accs.c, .slice p.alias.a p.alias.n p.alias.c, .slice p.names.a p.names.n p.names.c, .slice p.texts.a p.texts.n p.texts.c, .slice p.lists.a p.lists.n p.lists.c, .slice p.times.a p.times.n p.times.c, .slice p.ints.a p.ints.n p.ints.c, .slice p.filter.a p.filter.n p.filter.c, .slice p.output.a p.output.n p.output.c] 28) := ⟨_, rfl⟩
  rw [← hW1] at E0
  have hW1H : Hid (w.alloc (.cells #[.string p.from_, .string p.into, .int .i64 p.every, .int .i64 p.offset, .slice p.groups.a p.groups.n p.groups.c, .slice p.accs.a p.accs.n p.accs.c, .slice p.alias.a p.alias.n p.alias.c, .slice p.names.a p.names.n p.names.c, .slice p.texts.a p.texts.n p.texts.c, .slice p.lists.a p.lists.n p.lists.c, .slice p.times.a p.times.n p.times.c, .slice p.ints.a p.ints.n p.ints.c, .slice p.filter.a p.filter.n p.filter.c, .slice p.output.a p.output.n p.output.c] 28) = W1) := hW1.symm
  clear hW1
  have hnb : p.into.toList = [] := by rw [hem, ByteArray.toList_eq]
  have hnn : noneB p.into = true := decide_eq_true hem
  clear hem
  rw [hnn] at RES
  clear hnn
  cases b1 with
  | false =>
    have cA : Hid (∀ W, Hid (EH w p W) → Calls Tryz.prog 94 #[.string p.from_] W fun e w' => e = .returned (.iface 34 (.int .i64 50)) ∧ Hid (EH w p w')) := cA
    clear cB cC cD cE cG cI cJ
    go_enter Tryz.func70, Tryz.ntmps70
    dsimp only [List.append]
    go_wp2_with fail
    rw [hW1H.out]
    clear hW1H
    go_wp2_with (first
      | (go_at_call 94; with_reducible refine Calls.mono (cA.out _ (by assumption)) ?_; rintro e w' ⟨rfl, BB⟩)
      | (go_at_call 99; with_reducible refine Calls.mono (cF1.out (by omega) (by omega) _ (by assumption)) ?_; rintro e w' ⟨rfl, BB⟩))
    all_goals (go_ret; exact ⟨by rw [RES.out]; first | (simp [*]; done) | (simp [*]; omega) | (simp [*]; intros; omega), (by assumption : Hid (EH w p _)).out.1⟩)
  | true =>
    have cA : Hid (∀ W, Hid (EH w p W) → Calls Tryz.prog 94 #[.string p.from_] W fun e w' => e = .returned .nilIface ∧ Hid (EH w p w')) := cA
    clear cB
    go_enter Tryz.func70, Tryz.ntmps70
    dsimp only [List.append]
    go_wp2_with fail
    rw [hW1H.out]
    clear hW1H
    go_wp2_with (first
      | (go_at_call 94; with_reducible refine Calls.mono (cA.out _ (by assumption)) ?_; rintro e w' ⟨rfl, BB⟩)
      | (go_at_call 95; with_reducible refine Calls.mono (cC.out _ (by assumption)) ?_; rintro e w' ⟨rfl, BB⟩)
      | (go_at_call 97; with_reducible refine Calls.mono (cD.out _ (by assumption)) ?_; rintro e w' ⟨rfl, BB⟩)
      | (go_at_call 95; with_reducible refine Calls.mono (cE.out _ (by assumption)) ?_; rintro e w' ⟨rfl, BB⟩)
      | (go_at_call 95; with_reducible refine Calls.mono (cG.out _ (by assumption)) ?_; rintro e w' ⟨rfl, BB⟩)
      | (go_at_call 95; with_reducible refine Calls.mono (cI.out _ (by assumption)) ?_; rintro e w' ⟨rfl, BB⟩)
      | (go_at_call 101; with_reducible refine Calls.mono (cJ.out _ (by assumption)) ?_; rintro e w' ⟨rfl, BB⟩)
      | (go_at_call 99; with_reducible refine Calls.mono (cF1.out (by omega) (by omega) _ (by assumption)) ?_; rintro e w' ⟨rfl, BB⟩))
    all_goals (go_ret; exact ⟨by rw [RES.out]; first | (simp [*]; done) | (simp [*]; omega) | (simp [*]; intros; omega), (by assumption : Hid (EH w p _)).out.1⟩)
end Go.Proofs.YtdfnomglkibfbaaGreatDoor.Vf

namespace Go.Proofs.YtdfnomglkibfbaaGreatDoor.Vf
open Go.RowKit
set_option linter.unusedVariables false
set_option linter.unusedSimpArgs false
set_option maxRecDepth 100000
set_option maxHeartbeats 16000000 in
theorem rightHead_n (p : PrH) (q : PrL) (hN : PrN p q) (w : World) (hT : UT w) (h : PrIn w p q) (hem : ¬ p.into = ⟨#[]⟩) : Calls Tryz.prog 70 #[p.v] w fun e w' => e = .returned (.bool (hdB p q)) ∧ Below w.heap.size w w' := by
  have hTH : Hid (∀ W, EH w p W → UT W) := fun W hW => hT.below hW.1 (Nat.le_refl _)
  have hIH : Hid (∀ W, EH w p W → PrIn W p q) := fun W hW => h.below hW.1 (Nat.le_refl _)
  have cA0 : ∀ W, Hid (EH w p W) → Calls Tryz.prog 94 #[.string p.from_] W fun e w' => e = .returned (erV (cleanB p.from_ 64) 50) ∧ Hid (EH w p w') := fun W hW => by
    exact (name_any p.from_ W (hTH.out W hW.out)).mono (fun e w' hh => ⟨hh.1, hW.out.below hh.2⟩)
  have cB0 : ∀ W, Hid (EH w p W) → Calls Tryz.prog 94 #[.string p.into] W fun e w' => e = .returned (erV (cleanB p.into 64) 50) ∧ Hid (EH w p w') := fun W hW => by
    exact (name_any p.into W (hTH.out W hW.out)).mono (fun e w' hh => ⟨hh.1, hW.out.below hh.2⟩)
  have cC0 : ∀ W, Hid (EH w p W) → Calls Tryz.prog 95 #[.slice p.groups.a p.groups.n p.groups.c, .func (.func 96) #[] #[]] W fun e w' => e = .returned (.bool (q.groups.all columnB)) ∧ Hid (EH w p w') := fun W hW => by
    rw [hN.groups]
    exact (all_col q.groups _ _ hN.groups1 W (hTH.out W hW.out) (hIH.out W hW.out).groups).mono (fun e w' hh => ⟨hh.1, hW.out.below hh.2⟩)
  have cD0 : ∀ W, Hid (EH w p W) → Calls Tryz.prog 97 #[.slice p.accs.a p.accs.n p.accs.c, .func (.func 98) #[] #[]] W fun e w' => e = .returned (.bool (q.accs.all accB)) ∧ Hid (EH w p w') := fun W hW => by
    rw [hN.accs]
    exact (all_acc q.accs _ _ hN.accs1 W (hTH.out W hW.out) (hIH.out W hW.out).accs).mono (fun e w' hh => ⟨hh.1, hW.out.below hh.2⟩)
  have cE0 : ∀ W, Hid (EH w p W) → Calls Tryz.prog 95 #[.slice p.alias.a p.alias.n p.alias.c, .func (.func 96) #[] #[]] W fun e w' => e = .returned (.bool (q.alias.all columnB)) ∧ Hid (EH w p w') := fun W hW => by
    rw [hN.alias]
    exact (all_col q.alias _ _ hN.alias1 W (hTH.out W hW.out) (hIH.out W hW.out).alias).mono (fun e w' hh => ⟨hh.1, hW.out.below hh.2⟩)
  have cG0 : ∀ W, Hid (EH w p W) → Calls Tryz.prog 95 #[.slice p.names.a p.names.n p.names.c, .func (.func 96) #[] #[]] W fun e w' => e = .returned (.bool (q.names.all columnB)) ∧ Hid (EH w p w') := fun W hW => by
    rw [hN.names]
    exact (all_col q.names _ _ hN.names1 W (hTH.out W hW.out) (hIH.out W hW.out).names).mono (fun e w' hh => ⟨hh.1, hW.out.below hh.2⟩)
  have cI0 : ∀ W, Hid (EH w p W) → Calls Tryz.prog 95 #[.slice p.texts.a p.texts.n p.texts.c, .func (.func 100) #[] #[]] W fun e w' => e = .returned (.bool (q.texts.all textB)) ∧ Hid (EH w p w') := fun W hW => by
    rw [hN.texts]
    exact (all_val q.texts _ _ hN.texts1 W (hTH.out W hW.out) (hIH.out W hW.out).texts).mono (fun e w' hh => ⟨hh.1, hW.out.below hh.2⟩)
  have cJ0 : ∀ W, Hid (EH w p W) → Calls Tryz.prog 101 #[.slice p.lists.a p.lists.n p.lists.c, .func (.func 102) #[] #[]] W fun e w' => e = .returned (.bool (q.lists.all listB)) ∧ Hid (EH w p w') := fun W hW => by
    rw [hN.lists]
    exact (all_lst q.lists _ _ hN.lists1 W (hTH.out W hW.out) (hIH.out W hW.out).lists).mono (fun e w' hh => ⟨hh.1, hW.out.below hh.2⟩)
  have cF0 : (1 : Int) ≤ (p.alias.n : Int) → (p.alias.n : Int) ≤ 16 → ∀ W, Hid (EH w p W) → Calls Tryz.prog 99 #[.slice p.alias.a p.alias.n p.alias.c] W fun e w' => e = .returned (.bool (nodB q.alias q.alias.length)) ∧ Hid (EH w p w') := fun g1 g2 W hW => by
    have e1 := hN.alias
    rw [e1]
    exact (distinct_any q.alias (by omega) _ _ W (by omega) (hIH.out W hW.out).alias).mono (fun e w' hh => ⟨hh.1, hW.out.below hh.2⟩)
  have RES : Hid (hdB p q = (cleanB p.from_ 64 && (noneB p.into || cleanB p.into 64) && decide (1 ≤ p.every) && decide (p.every ≤ 288230376151711744) && decide (0 ≤ p.offset) && decide (p.offset < p.every) && decide ((p.groups.n : Int) ≤ 8) && q.groups.all columnB && q.accs.all accB && (decide ((1 : Int) ≤ (p.alias.n : Int)) && decide ((p.alias.n : Int) ≤ 16)) && q.alias.all columnB && q.names.all columnB && q.texts.all textB && nodB q.alias q.alias.length && q.lists.all listB && (decide ((p.filter.n : Int) ≤ 65536) && decide ((p.output.n : Int) ≤ 65536)))) := hid (by
    unfold hdB headB
    rw [hN.alias, hN.filter, hN.output, hN.groups])
  generalize hdB p q = v at *
  generalize cleanB p.from_ 64 = b1 at *
  generalize cleanB p.into 64 = b2 at *
  generalize q.groups.all columnB = b3 at *
  generalize q.accs.all accB = b4 at *
  generalize q.alias.all columnB = b5 at *
  generalize nodB q.alias q.alias.length = b6 at *
  generalize q.names.all columnB = b7 at *
  generalize q.texts.all textB = b8 at *
  generalize q.lists.all listB = b9 at *
  have cA : Hid (∀ W, Hid (EH w p W) → Calls Tryz.prog 94 #[.string p.from_] W fun e w' => e = .returned (erV (b1) 50) ∧ Hid (EH w p w')) := cA0
  have cB : Hid (∀ W, Hid (EH w p W) → Calls Tryz.prog 94 #[.string p.into] W fun e w' => e = .returned (erV (b2) 50) ∧ Hid (EH w p w')) := cB0
  have cC : Hid (∀ W, Hid (EH w p W) → Calls Tryz.prog 95 #[.slice p.groups.a p.groups.n p.groups.c, .func (.func 96) #[] #[]] W fun e w' => e = .returned (.bool (b3)) ∧ Hid (EH w p w')) := cC0
  have cD : Hid (∀ W, Hid (EH w p W) → Calls Tryz.prog 97 #[.slice p.accs.a p.accs.n p.accs.c, .func (.func 98) #[] #[]] W fun e w' => e = .returned (.bool (b4)) ∧ Hid (EH w p w')) := cD0
  have cE : Hid (∀ W, Hid (EH w p W) → Calls Tryz.prog 95 #[.slice p.alias.a p.alias.n p.alias.c, .func (.func 96) #[] #[]] W fun e w' => e = .returned (.bool (b5)) ∧ Hid (EH w p w')) := cE0
  have cG : Hid (∀ W, Hid (EH w p W) → Calls Tryz.prog 95 #[.slice p.names.a p.names.n p.names.c, .func (.func 96) #[] #[]] W fun e w' => e = .returned (.bool (b7)) ∧ Hid (EH w p w')) := cG0
  have cI : Hid (∀ W, Hid (EH w p W) → Calls Tryz.prog 95 #[.slice p.texts.a p.texts.n p.texts.c, .func (.func 100) #[] #[]] W fun e w' => e = .returned (.bool (b8)) ∧ Hid (EH w p w')) := cI0
  have cJ : Hid (∀ W, Hid (EH w p W) → Calls Tryz.prog 101 #[.slice p.lists.a p.lists.n p.lists.c, .func (.func 102) #[] #[]] W fun e w' => e = .returned (.bool (b9)) ∧ Hid (EH w p w')) := cJ0
  have cF1 : Hid ((1 : Int) ≤ (p.alias.n : Int) → (p.alias.n : Int) ≤ 16 → ∀ W, Hid (EH w p W) → Calls Tryz.prog 99 #[.slice p.alias.a p.alias.n p.alias.c] W fun e w' => e = .returned (.bool b6) ∧ Hid (EH w p w')) := cF0
  have hc0 : ∀ W, Hid (EH w p W) → W.cell? ⟨w.heap.size, 0, none⟩ = some (.string p.from_) := fun W hW => by
    obtain ⟨_, _, x0, x1, x2, x3, x4, x5, x6, x7, x8, x9, x10, x11, x12, x13⟩ := hW.out
    exact x0
  have hc1 : ∀ W, Hid (EH w p W) → W.cell? ⟨w.heap.size, 1, none⟩ = some (.string p.into) := fun W hW => by
    obtain ⟨_, _, x0, x1, x2, x3, x4, x5, x6, x7, x8, x9, x10, x11, x12, x13⟩ := hW.out
    exact x1
  have hc2 : ∀ W, Hid (EH w p W) → W.cell? ⟨w.heap.size, 2, none⟩ = some (.int .i64 p.every) := fun W hW => by
    obtain ⟨_, _, x0, x1, x2, x3, x4, x5, x6, x7, x8, x9, x10, x11, x12, x13⟩ := hW.out
    exact x2
  have hc3 : ∀ W, Hid (EH w p W) → W.cell? ⟨w.heap.size, 3, none⟩ = some (.int .i64 p.offset) := fun W hW => by
    obtain ⟨_, _, x0, x1, x2, x3, x4, x5, x6, x7, x8, x9, x10, x11, x12, x13⟩ := hW.out
    exact x3
  have hc4 : ∀ W, Hid (EH w p W) → W.cell? ⟨w.heap.size, 4, none⟩ = some (.slice p.groups.a p.groups.n p.groups.c) := fun W hW => by
    obtain ⟨_, _, x0, x1, x2, x3, x4, x5, x6, x7, x8, x9, x10, x11, x12, x13⟩ := hW.out
    exact x4
  have hc5 : ∀ W, Hid (EH w p W) → W.cell? ⟨w.heap.size, 5, none⟩ = some (.slice p.accs.a p.accs.n p.accs.c) := fun W hW => by
    obtain ⟨_, _, x0, x1, x2, x3, x4, x5, x6, x7, x8, x9, x10, x11, x12, x13⟩ := hW.out
    exact x5
  have hc6 : ∀ W, Hid (EH w p W) → W.cell? ⟨w.heap.size, 6, none⟩ = some (.slice p.alias.a p.alias.n p.alias.c) := fun W hW => by
    obtain ⟨_, _, x0, x1, x2, x3, x4, x5, x6, x7, x8, x9, x10, x11, x12, x13⟩ := hW.out
    exact x6
  have hc7 : ∀ W, Hid (EH w p W) → W.cell? ⟨w.heap.size, 7, none⟩ = some (.slice p.names.a p.names.n p.names.c) := fun W hW => by
    obtain ⟨_, _, x0, x1, x2, x3, x4, x5, x6, x7, x8, x9, x10, x11, x12, x13⟩ := hW.out
    exact x7
  have hc8 : ∀ W, Hid (EH w p W) → W.cell? ⟨w.heap.size, 8, none⟩ = some (.slice p.texts.a p.texts.n p.texts.c) := fun W hW => by
    obtain ⟨_, _, x0, x1, x2, x3, x4, x5, x6, x7, x8, x9, x10, x11, x12, x13⟩ := hW.out
    exact x8
  have hc9 : ∀ W, Hid (EH w p W) → W.cell? ⟨w.heap.size, 9, none⟩ = some (.slice p.lists.a p.lists.n p.lists.c) := fun W hW => by
    obtain ⟨_, _, x0, x1, x2, x3, x4, x5, x6, x7, x8, x9, x10, x11, x12, x13⟩ := hW.out
    exact x9
  have hc12 : ∀ W, Hid (EH w p W) → W.cell? ⟨w.heap.size, 12, none⟩ = some (.slice p.filter.a p.filter.n p.filter.c) := fun W hW => by
    obtain ⟨_, _, x0, x1, x2, x3, x4, x5, x6, x7, x8, x9, x10, x11, x12, x13⟩ := hW.out
    exact x12
  have hc13 : ∀ W, Hid (EH w p W) → W.cell? ⟨w.heap.size, 13, none⟩ = some (.slice p.output.a p.output.n p.output.c) := fun W hW => by
    obtain ⟨_, _, x0, x1, x2, x3, x4, x5, x6, x7, x8, x9, x10, x11, x12, x13⟩ := hW.out
    exact x13
  have E0 : Hid (EH w p (w.alloc (.cells p.cells 28))) := EH.new w p
  clear cA0 cB0 cC0 cD0 cE0 cG0 cI0 cJ0 cF0 hTH hIH hT h hN
  unfold PrH.cells at E0
  unfold PrH.v
  obtain ⟨W1, hW1⟩ : ∃ W1, W1 = w.alloc (.cells #[.string p.from_, .string p.into, .int .i64 p.every, .int .i64 p.offset, .slice p.groups.a p.groups.n p.groups.c, .slice p.accs.a p.accs.n p.accs.c, .slice p.alias.a p.alias.n p.alias.c, .slice p.names.a p.names.n p.names.c, .slice p.texts.a p.texts.n p.texts.c, .slice p.lists.a p.lists.n p.lists.c, .slice p.times.a p.times.n p.times.c, .slice p.ints.a p.ints.n p.ints.c, .slice p.filter.a p.filter.n p.filter.c, .slice p.output.a p.output.n p.output.c] 28) := ⟨_, rfl⟩
  rw [← hW1] at E0
  have hW1H : Hid (w.alloc (.cells #[.string p.from_, .string p.into, .int .i64 p.every, .int .i64 p.offset, .slice p.groups.a p.groups.n p.groups.c, .slice p.accs.a p.accs.n p.accs.c, .slice p.alias.a p.alias.n p.alias.c, .slice p.names.a p.names.n p.names.c, .slice p.texts.a p.texts.n p.texts.c, .slice p.lists.a p.lists.n p.lists.c, .slice p.times.a p.times.n p.times.c, .slice p.ints.a p.ints.n p.ints.c, .slice p.filter.a p.filter.n p.filter.c, .slice p.output.a p.output.n p.output.c] 28) = W1) := hW1.symm
  clear hW1
  have hnb : ¬ p.into.toList = [] := fun q => hem (toList_inj' (by rw [q, ByteArray.toList_eq]))
  have hnb2 : (p.into.toList == ([] : List UInt8)) = false := by rw [beq_eq_false_iff_ne]; exact hnb
  have hnn : noneB p.into = false := decide_eq_false hem
  clear hem
  rw [hnn] at RES
  clear hnn
  cases b1 with
  | false =>
    have cA : Hid (∀ W, Hid (EH w p W) → Calls Tryz.prog 94 #[.string p.from_] W fun e w' => e = .returned (.iface 34 (.int .i64 50)) ∧ Hid (EH w p w')) := cA
    clear cB cC cD cE cG cI cJ
    go_enter Tryz.func70, Tryz.ntmps70
    dsimp only [List.append]
    go_wp2_with fail
    rw [hW1H.out]
    clear hW1H
    go_wp2_with (first
      | (go_at_call 94; with_reducible refine Calls.mono (cA.out _ (by assumption)) ?_; rintro e w' ⟨rfl, BB⟩)
      | (go_at_call 99; with_reducible refine Calls.mono (cF1.out (by omega) (by omega) _ (by assumption)) ?_; rintro e w' ⟨rfl, BB⟩))
    all_goals (go_ret; exact ⟨by rw [RES.out]; first | (simp [*]; done) | (simp [*]; omega) | (simp [*]; intros; omega), (by assumption : Hid (EH w p _)).out.1⟩)
  | true =>
    have cA : Hid (∀ W, Hid (EH w p W) → Calls Tryz.prog 94 #[.string p.from_] W fun e w' => e = .returned .nilIface ∧ Hid (EH w p w')) := cA
    cases b2 with
    | false =>
      have cB : Hid (∀ W, Hid (EH w p W) → Calls Tryz.prog 94 #[.string p.into] W fun e w' => e = .returned (.iface 34 (.int .i64 50)) ∧ Hid (EH w p w')) := cB
      clear cC cD cE cG cI cJ
      go_enter Tryz.func70, Tryz.ntmps70
      dsimp only [List.append]
      go_wp2_with fail
      rw [hW1H.out]
      clear hW1H
      go_wp2_with (first
        | (go_at_call 94; with_reducible refine Calls.mono (cA.out _ (by assumption)) ?_; rintro e w' ⟨rfl, BB⟩)
        | (go_at_call 94; with_reducible refine Calls.mono (cB.out _ (by assumption)) ?_; rintro e w' ⟨rfl, BB⟩)
        | (go_at_call 99; with_reducible refine Calls.mono (cF1.out (by omega) (by omega) _ (by assumption)) ?_; rintro e w' ⟨rfl, BB⟩))
      all_goals (go_ret; exact ⟨by rw [RES.out]; first | (simp [*]; done) | (simp [*]; omega) | (simp [*]; intros; omega), (by assumption : Hid (EH w p _)).out.1⟩)
    | true =>
      have cB : Hid (∀ W, Hid (EH w p W) → Calls Tryz.prog 94 #[.string p.into] W fun e w' => e = .returned .nilIface ∧ Hid (EH w p w')) := cB
      go_enter Tryz.func70, Tryz.ntmps70
      dsimp only [List.append]
      go_wp2_with fail
      rw [hW1H.out]
      clear hW1H
      go_wp2_with (first
        | (go_at_call 94; with_reducible refine Calls.mono (cA.out _ (by assumption)) ?_; rintro e w' ⟨rfl, BB⟩)
        | (go_at_call 94; with_reducible refine Calls.mono (cB.out _ (by assumption)) ?_; rintro e w' ⟨rfl, BB⟩)
        | (go_at_call 95; with_reducible refine Calls.mono (cC.out _ (by assumption)) ?_; rintro e w' ⟨rfl, BB⟩)
        | (go_at_call 97; with_reducible refine Calls.mono (cD.out _ (by assumption)) ?_; rintro e w' ⟨rfl, BB⟩)
        | (go_at_call 95; with_reducible refine Calls.mono (cE.out _ (by assumption)) ?_; rintro e w' ⟨rfl, BB⟩)
        | (go_at_call 95; with_reducible refine Calls.mono (cG.out _ (by assumption)) ?_; rintro e w' ⟨rfl, BB⟩)
        | (go_at_call 95; with_reducible refine Calls.mono (cI.out _ (by assumption)) ?_; rintro e w' ⟨rfl, BB⟩)
        | (go_at_call 101; with_reducible refine Calls.mono (cJ.out _ (by assumption)) ?_; rintro e w' ⟨rfl, BB⟩)
        | (go_at_call 99; with_reducible refine Calls.mono (cF1.out (by omega) (by omega) _ (by assumption)) ?_; rintro e w' ⟨rfl, BB⟩))
      all_goals (go_ret; exact ⟨by rw [RES.out]; first | (simp [*]; done) | (simp [*]; omega) | (simp [*]; intros; omega), (by assumption : Hid (EH w p _)).out.1⟩)
end Go.Proofs.YtdfnomglkibfbaaGreatDoor.Vf

namespace Go.Proofs.YtdfnomglkibfbaaGreatDoor.Vf
open Go.RowKit
set_option linter.unusedVariables false
set_option linter.unusedSimpArgs false
set_option maxRecDepth 100000
theorem rightHead_any (p : PrH) (q : PrL) (hN : PrN p q) (w : World) (hT : UT w) (h : PrIn w p q) : Calls Tryz.prog 70 #[p.v] w fun e w' => e = .returned (.bool (hdB p q)) ∧ Below w.heap.size w w' := by
  by_cases hem : p.into = ⟨#[]⟩
  · exact rightHead_e p q hN w hT h hem
  · exact rightHead_n p q hN w hT h hem
/-- what is told when all is done. -/
def ClR (w : World) (p : PrH) (q : PrL) (r : Option (Int × Option Int)) (e : Ending) (w' : World) : Prop := match r with
  | some x => e = .returned (.tuple #[.slice none 0 0, .slice none 0 0, errV (some x)])
  | none => ∃ b1 b2, w.heap.size ≤ b1 ∧ w.heap.size ≤ b2 ∧ e = .returned (.tuple #[.slice (some ⟨b1, 0, none⟩) p.filter.n p.filter.n, .slice (some ⟨b2, 0, none⟩) p.output.n p.output.n, .nilIface]) ∧ RI w' b1 p.filter.n (fun j => .int .i64 ((hgtP q.filter 0 m0 []).1.getD j 0)) ∧ RI w' b2 p.output.n (fun j => .int .i64 ((hgtP q.output 0 m0 []).1.getD j 0))
/-- the two parts in a box. -/
def PT (W : World) (B : Nat) (p : PrH) : Prop := B < W.heap.size ∧ W.cell? ⟨B, 0, none⟩ = some (.int .u8 1) ∧ W.cell? ⟨B, 1, none⟩ = some (.slice p.filter.a p.filter.n p.filter.c) ∧ W.cell? ⟨B, 2, none⟩ = some (.int .i64 0) ∧ W.cell? ⟨B, 3, none⟩ = some (.int .u8 2) ∧ W.cell? ⟨B, 4, none⟩ = some (.slice p.output.a p.output.n p.output.c) ∧ W.cell? ⟨B, 5, none⟩ = some (.int .i64 (p.filter.n : Int))
theorem PT.below {W W' : World} {B m : Nat} {p : PrH} (h : PT W B p) (hb : Below m W W') (hm : B < m) : PT W' B p := by
  obtain ⟨h1, c0, c1, c2, c3, c4, c5⟩ := h
  have e : ∀ k, W'.cell? ⟨B, k, none⟩ = W.cell? ⟨B, k, none⟩ := fun k => hb.cell (p := ⟨B, k, none⟩) hm
  refine ⟨Nat.lt_of_lt_of_le h1 hb.size, ?_, ?_, ?_, ?_, ?_, ?_⟩ <;> (rw [e]; assumption)
theorem PT.new (W : World) (p : PrH) : PT (W.alloc (.cells #[.int .u8 1, .slice p.filter.a p.filter.n p.filter.c, .int .i64 0, .int .u8 2, .slice p.output.a p.output.n p.output.c, .int .i64 (p.filter.n : Int)] 128)) W.heap.size p := by
  refine ⟨by simp, ?_, ?_, ?_, ?_, ?_, ?_⟩ <;> simp [go_sem]
def CX (w : World) (p : PrH) (B : Nat) (W : World) : Prop := EH w p W ∧ PT W B p
theorem CX.eh {w W : World} {p : PrH} {B : Nat} (h : CX w p B W) : EH w p W := h.1
theorem CX.below {w W W' : World} {p : PrH} {B : Nat} (h : CX w p B W) (hb : Below W.heap.size W W') : CX w p B W' := ⟨h.1.below hb, h.2.below hb h.2.1⟩
theorem PT.far {W : World} {B g j : Nat} {p : PrH} (h : PT W B p) (hg : B < g) (v : Value) : PT (W.setCell ⟨g, j, none⟩ v) B p := h.below (m := g) ((Below.refl g W).setCell (p := ⟨g, j, none⟩) (Nat.le_refl _) v) hg
theorem CX.far {w W : World} {p : PrH} {B g j : Nat} (h : CX w p B W) (hB : B < g) (hw : w.heap.size < g) (v : Value) : CX w p B (W.setCell ⟨g, j, none⟩ v) := ⟨⟨h.1.1.setCell (p := ⟨g, j, none⟩) (Nat.le_of_lt hw) v, h.1.2.below (n := g) ((Below.refl g W).setCell (p := ⟨g, j, none⟩) (Nat.le_refl _) v) hw⟩, h.2.far hB v⟩
/-- where the heights are kept. -/
def OA (W : World) (O : Nat) (v0 v1 : Value) : Prop := O < W.heap.size ∧ W.cell? ⟨O, 0, none⟩ = some v0 ∧ W.cell? ⟨O, 1, none⟩ = some v1 ∧ W.frozen? ⟨O, 0, none⟩ = false ∧ W.frozen? ⟨O, 1, none⟩ = false
theorem OA.below {W W' : World} {O m : Nat} {v0 v1 : Value} (h : OA W O v0 v1) (hb : Below m W W') (hm : O < m) : OA W' O v0 v1 := by
  obtain ⟨h1, c0, c1, f0, f1⟩ := h
  refine ⟨Nat.lt_of_lt_of_le h1 hb.size, ?_, ?_, ?_, ?_⟩
  · rw [hb.cell (p := ⟨O, 0, none⟩) hm]; exact c0
  · rw [hb.cell (p := ⟨O, 1, none⟩) hm]; exact c1
  · rw [hb.frozen (p := ⟨O, 0, none⟩) hm]; exact f0
  · rw [hb.frozen (p := ⟨O, 1, none⟩) hm]; exact f1
theorem OA.new (W : World) : OA (W.alloc (.cells #[.slice none 0 0, .slice none 0 0] 129)) W.heap.size (.slice none 0 0) (.slice none 0 0) := by
  refine ⟨by simp, ?_, ?_, ?_, ?_⟩ <;> simp [go_sem]
theorem OA.set0 {W : World} {O : Nat} {v0 v1 : Value} (h : OA W O v0 v1) (x : Value) : OA (W.setCell ⟨O, 0, none⟩ x) O x v1 := by
  obtain ⟨h1, c0, c1, f0, f1⟩ := h
  refine ⟨by simpa using h1, ?_, ?_, ?_, ?_⟩ <;> simp [go_sem, c0, c1, f0, f1]
theorem OA.set1 {W : World} {O : Nat} {v0 v1 : Value} (h : OA W O v0 v1) (x : Value) : OA (W.setCell ⟨O, 1, none⟩ x) O v0 x := by
  obtain ⟨h1, c0, c1, f0, f1⟩ := h
  refine ⟨by simpa using h1, ?_, ?_, ?_, ?_⟩ <;> simp [go_sem, c0, c1, f0, f1]
theorem hd_len {p : PrH} {q : PrL} (hN : PrN p q) (h : hdB p q = true) : p.filter.n ≤ 65536 ∧ p.output.n ≤ 65536 ∧ p.alias.n ≤ 65536 := by
  unfold hdB at h
  simp only [Bool.and_eq_true, decide_eq_true_eq] at h
  have h1 := hN.filter
  have h2 := hN.output
  have h3 := hN.alias
  omega

set_option maxHeartbeats 16000000 in
theorem climbed_any (p : PrH) (q : PrL) (hN : PrN p q) (hcf : ∀ (j : Nat) (t : InP), q.filter[j]? = some t → t.c < 256) (hco : ∀ (j : Nat) (t : InP), q.output[j]? = some t → t.c < 256) (w : World) (hT : UT w) (hR : RT w) (h : PrIn w p q) : Calls Tryz.prog 27 #[p.v] w fun e w' => ClR w p q (resP p q) e w' ∧ Below w.heap.size w w' := by
  have hTH : Hid (∀ W, EH w p W → UT W) := fun W hW => hT.below hW.1 (Nat.le_refl _)
  have hRH : Hid (∀ W, EH w p W → RT W) := fun W hW => hR.below hW.1 hR.lt
  have hIH : Hid (∀ W, EH w p W → PrIn W p q) := fun W hW => h.below hW.1 (Nat.le_refl _)
  have hNH : Hid (PrN p q) := hN
  have cR0 : ∀ W, Hid (EH w p W) → Calls Tryz.prog 70 #[.agg #[.string p.from_, .string p.into, .int .i64 p.every, .int .i64 p.offset, .slice p.groups.a p.groups.n p.groups.c, .slice p.accs.a p.accs.n p.accs.c, .slice p.alias.a p.alias.n p.alias.c, .slice p.names.a p.names.n p.names.c, .slice p.texts.a p.texts.n p.texts.c, .slice p.lists.a p.lists.n p.lists.c, .slice p.times.a p.times.n p.times.c, .slice p.ints.a p.ints.n p.ints.c, .slice p.filter.a p.filter.n p.filter.c, .slice p.output.a p.output.n p.output.c]] W fun e w' => e = .returned (.bool (hdB p q)) ∧ Hid (EH w p w') := fun W hW => (rightHead_any p q hN W (hTH.out W hW.out) (hIH.out W hW.out)).mono (fun e w' hh => ⟨hh.1, hW.out.below hh.2⟩)
  have cF10 : hdB p q = true → ∀ W, EH w p W → Calls Tryz.prog 72 #[.agg #[.int .u8 1, .slice p.filter.a p.filter.n p.filter.c, .int .i64 0], .agg #[.string p.from_, .string p.into, .int .i64 p.every, .int .i64 p.offset, .slice p.groups.a p.groups.n p.groups.c, .slice p.accs.a p.accs.n p.accs.c, .slice p.alias.a p.alias.n p.alias.c, .slice p.names.a p.names.n p.names.c, .slice p.texts.a p.texts.n p.texts.c, .slice p.lists.a p.lists.n p.lists.c, .slice p.times.a p.times.n p.times.c, .slice p.ints.a p.ints.n p.ints.c, .slice p.filter.a p.filter.n p.filter.c, .slice p.output.a p.output.n p.output.c]] W fun e w' => e = .returned (frV 0 (eachP p.sz true q.accs q.filter)) ∧ Below W.heap.size W w' := fun hd W hW => by
    have hl := hd_len hN hd
    have e1 := hN.filter
    have := formed_any true 1 rfl p q.accs hN.accs q.filter hcf p.filter.a p.filter.c 0 (by omega) (by omega) W (hRH.out W hW) (hIH.out W hW).accs (hIH.out W hW).filter
    rw [← e1] at this
    exact this
  have cF20 : hdB p q = true → ∀ W, EH w p W → Calls Tryz.prog 72 #[.agg #[.int .u8 2, .slice p.output.a p.output.n p.output.c, .int .i64 (p.filter.n : Int)], .agg #[.string p.from_, .string p.into, .int .i64 p.every, .int .i64 p.offset, .slice p.groups.a p.groups.n p.groups.c, .slice p.accs.a p.accs.n p.accs.c, .slice p.alias.a p.alias.n p.alias.c, .slice p.names.a p.names.n p.names.c, .slice p.texts.a p.texts.n p.texts.c, .slice p.lists.a p.lists.n p.lists.c, .slice p.times.a p.times.n p.times.c, .slice p.ints.a p.ints.n p.ints.c, .slice p.filter.a p.filter.n p.filter.c, .slice p.output.a p.output.n p.output.c]] W fun e w' => e = .returned (frV p.filter.n (eachP p.sz false q.accs q.output)) ∧ Below W.heap.size W w' := fun hd W hW => by
    have hl := hd_len hN hd
    have e1 := hN.output
    have := formed_any false 2 rfl p q.accs hN.accs q.output hco p.output.a p.output.c p.filter.n (by omega) (by omega) W (hRH.out W hW) (hIH.out W hW).accs (hIH.out W hW).output
    rw [← e1] at this
    exact this
  have cH10 : hdB p q = true → eachP p.sz true q.accs q.filter = none → ∀ W, EH w p W → Calls Tryz.prog 73 #[.agg #[.int .u8 1, .slice p.filter.a p.filter.n p.filter.c, .int .i64 0]] W fun e w' => HpR W p.filter.n 0 (hgtP q.filter 0 m0 []) e w' ∧ Below W.heap.size W w' := fun hd he W hW => by
    have hl := hd_len hN hd
    have e1 := hN.filter
    have := pheights_any 1 q.filter (fmd_of he) p.filter.a p.filter.c 0 (by omega) (by omega) W (hRH.out W hW) (hIH.out W hW).filter
    rw [← e1] at this
    exact this
  have cH20 : hdB p q = true → eachP p.sz false q.accs q.output = none → ∀ W, EH w p W → Calls Tryz.prog 73 #[.agg #[.int .u8 2, .slice p.output.a p.output.n p.output.c, .int .i64 (p.filter.n : Int)]] W fun e w' => HpR W p.output.n p.filter.n (hgtP q.output 0 m0 []) e w' ∧ Below W.heap.size W w' := fun hd he W hW => by
    have hl := hd_len hN hd
    have e1 := hN.output
    have := pheights_any 2 q.output (fmd_of he) p.output.a p.output.c p.filter.n (by omega) (by omega) W (hRH.out W hW) (hIH.out W hW).output
    rw [← e1] at this
    exact this
  have cE0 : hdB p q = true → eachP p.sz false q.accs q.output = none → ∀ W, EH w p W → Calls Tryz.prog 74 #[.agg #[.string p.from_, .string p.into, .int .i64 p.every, .int .i64 p.offset, .slice p.groups.a p.groups.n p.groups.c, .slice p.accs.a p.accs.n p.accs.c, .slice p.alias.a p.alias.n p.alias.c, .slice p.names.a p.names.n p.names.c, .slice p.texts.a p.texts.n p.texts.c, .slice p.lists.a p.lists.n p.lists.c, .slice p.times.a p.times.n p.times.c, .slice p.ints.a p.ints.n p.ints.c, .slice p.filter.a p.filter.n p.filter.c, .slice p.output.a p.output.n p.output.c]] W fun e w' => e = .returned (.bool (emitB p.alias.n q.output)) ∧ Below W.heap.size W w' := fun hd he W hW => by
    have hl := hd_len hN hd
    refine emitsEach_any p q.output hN.output hN.output1 hl.2.2 (fun j t ht hc => ?_) W (hIH.out W hW).output
    have := (fmd_of he).hav j t ht
    rw [hc] at this
    unfold haveB at this
    simp [rowF, rowsL, noR, szL] at this
    exact this
  have RES : Hid (resP p q = resOf (hdB p q) (eachP p.sz true q.accs q.filter) (eachP p.sz false q.accs q.output) (hgtP q.filter 0 m0 []).2 (hgtP q.output 0 m0 []).2 p.filter.n (emitB p.alias.n q.output)) := rfl
  obtain ⟨⟨g1, r1⟩, hG1⟩ : ∃ G, hgtP q.filter 0 m0 [] = G := ⟨_, rfl⟩
  obtain ⟨⟨g2, r2⟩, hG2⟩ : ∃ G, hgtP q.output 0 m0 [] = G := ⟨_, rfl⟩
  have CLS : Hid (∀ r e w', ClR w p q r e w' = match r with
    | some x => e = .returned (.tuple #[.slice none 0 0, .slice none 0 0, errV (some x)])
    | none => ∃ b1 b2, w.heap.size ≤ b1 ∧ w.heap.size ≤ b2 ∧ e = .returned (.tuple #[.slice (some ⟨b1, 0, none⟩) p.filter.n p.filter.n, .slice (some ⟨b2, 0, none⟩) p.output.n p.output.n, .nilIface]) ∧ RI w' b1 p.filter.n (fun j => .int .i64 (g1.getD j 0)) ∧ RI w' b2 p.output.n (fun j => .int .i64 (g2.getD j 0))) := fun r e w' => by unfold ClR; rw [hG1, hG2]
  rw [hG1] at cH10 RES
  rw [hG2] at cH20 RES
  generalize resP p q = r at *
  generalize hdB p q = hd at *
  generalize eachP p.sz true q.accs q.filter = E1 at *
  generalize eachP p.sz false q.accs q.output = E2 at *
  generalize emitB p.alias.n q.output = em at *
  clear hG1 hG2 hT hR h hN hcf hco hTH hRH hIH hNH
  have cR : Hid (∀ W, Hid (EH w p W) → Calls Tryz.prog 70 #[.agg #[.string p.from_, .string p.into, .int .i64 p.every, .int .i64 p.offset, .slice p.groups.a p.groups.n p.groups.c, .slice p.accs.a p.accs.n p.accs.c, .slice p.alias.a p.alias.n p.alias.c, .slice p.names.a p.names.n p.names.c, .slice p.texts.a p.texts.n p.texts.c, .slice p.lists.a p.lists.n p.lists.c, .slice p.times.a p.times.n p.times.c, .slice p.ints.a p.ints.n p.ints.c, .slice p.filter.a p.filter.n p.filter.c, .slice p.output.a p.output.n p.output.c]] W fun e w' => e = .returned (.bool hd) ∧ Hid (EH w p w')) := cR0
  have cN : Hid (∀ (e : Int) W, (e == 0) = false → Calls Tryz.prog 71 #[.int .i64 e] W fun ev w' => ev = .returned (.iface 34 (.int .i64 e)) ∧ w' = W) := fun e W he => new_any e he W
  have E0 : Hid (EH w p (w.alloc (.cells p.cells 28))) := EH.new w p
  unfold PrH.cells at E0
  unfold PrH.v
  have hix0 : ∀ W, (Instr.index 128 (.agg #[.int .u8 1, .slice p.filter.a p.filter.n p.filter.c, .int .i64 0, .int .u8 2, .slice p.output.a p.output.n p.output.c, .int .i64 (p.filter.n : Int)]) (.int .i64 0)).run Tryz.prog W = .ok (.agg #[.int .u8 1, .slice p.filter.a p.filter.n p.filter.c, .int .i64 0]) W := fun W => by first | kernel_rfl | rfl
  have hix1 : ∀ W, (Instr.index 128 (.agg #[.int .u8 1, .slice p.filter.a p.filter.n p.filter.c, .int .i64 0, .int .u8 2, .slice p.output.a p.output.n p.output.c, .int .i64 (p.filter.n : Int)]) (.int .i64 1)).run Tryz.prog W = .ok (.agg #[.int .u8 2, .slice p.output.a p.output.n p.output.c, .int .i64 (p.filter.n : Int)]) W := fun W => by first | kernel_rfl | rfl
  go_enter Tryz.func27, Tryz.ntmps27
  go_wp2_with fail
  generalize hW : World.alloc w _ = W1 at E0 ⊢
  clear hW
  with_reducible refine Calls.mono (cR.out _ E0) ?_
  rintro e w2 ⟨rfl, E2H⟩
  clear cR E0
  cases hd with
  | false =>
    have hr : r = some (192, none) := RES.out
    clear RES cF10 cF20 cH10 cH20 cE0
    go_wp2_with (go_at_call 71; with_reducible refine Calls.mono (cN.out _ _ rfl) ?_; rintro e w' ⟨rfl, rfl⟩)
    go_returns
    exact ⟨by rw [CLS.out, hr]; rfl, E2H.out.1⟩
  | true =>
    have hr : Hid (r = resOf true E1 E2 r1 r2 p.filter.n em) := RES.out
    have cF1 : Hid (∀ W, EH w p W → Calls Tryz.prog 72 #[.agg #[.int .u8 1, .slice p.filter.a p.filter.n p.filter.c, .int .i64 0], .agg #[.string p.from_, .string p.into, .int .i64 p.every, .int .i64 p.offset, .slice p.groups.a p.groups.n p.groups.c, .slice p.accs.a p.accs.n p.accs.c, .slice p.alias.a p.alias.n p.alias.c, .slice p.names.a p.names.n p.names.c, .slice p.texts.a p.texts.n p.texts.c, .slice p.lists.a p.lists.n p.lists.c, .slice p.times.a p.times.n p.times.c, .slice p.ints.a p.ints.n p.ints.c, .slice p.filter.a p.filter.n p.filter.c, .slice p.output.a p.output.n p.output.c]] W fun e w' => e = .returned (frV 0 E1) ∧ Below W.heap.size W w') := cF10 rfl
    have cF2 : Hid (∀ W, EH w p W → Calls Tryz.prog 72 #[.agg #[.int .u8 2, .slice p.output.a p.output.n p.output.c, .int .i64 (p.filter.n : Int)], .agg #[.string p.from_, .string p.into, .int .i64 p.every, .int .i64 p.offset, .slice p.groups.a p.groups.n p.groups.c, .slice p.accs.a p.accs.n p.accs.c, .slice p.alias.a p.alias.n p.alias.c, .slice p.names.a p.names.n p.names.c, .slice p.texts.a p.texts.n p.texts.c, .slice p.lists.a p.lists.n p.lists.c, .slice p.times.a p.times.n p.times.c, .slice p.ints.a p.ints.n p.ints.c, .slice p.filter.a p.filter.n p.filter.c, .slice p.output.a p.output.n p.output.c]] W fun e w' => e = .returned (frV p.filter.n E2) ∧ Below W.heap.size W w') := cF20 rfl
    have cH1 : Hid (E1 = none → ∀ W, EH w p W → Calls Tryz.prog 73 #[.agg #[.int .u8 1, .slice p.filter.a p.filter.n p.filter.c, .int .i64 0]] W fun e w' => HpR W p.filter.n 0 (g1, r1) e w' ∧ Below W.heap.size W w') := cH10 rfl
    have cH2 : Hid (E2 = none → ∀ W, EH w p W → Calls Tryz.prog 73 #[.agg #[.int .u8 2, .slice p.output.a p.output.n p.output.c, .int .i64 (p.filter.n : Int)]] W fun e w' => HpR W p.output.n p.filter.n (g2, r2) e w' ∧ Below W.heap.size W w') := cH20 rfl
    have cE : Hid (E2 = none → ∀ W, EH w p W → Calls Tryz.prog 74 #[.agg #[.string p.from_, .string p.into, .int .i64 p.every, .int .i64 p.offset, .slice p.groups.a p.groups.n p.groups.c, .slice p.accs.a p.accs.n p.accs.c, .slice p.alias.a p.alias.n p.alias.c, .slice p.names.a p.names.n p.names.c, .slice p.texts.a p.texts.n p.texts.c, .slice p.lists.a p.lists.n p.lists.c, .slice p.times.a p.times.n p.times.c, .slice p.ints.a p.ints.n p.ints.c, .slice p.filter.a p.filter.n p.filter.c, .slice p.output.a p.output.n p.output.c]] W fun e w' => e = .returned (.bool em) ∧ Below W.heap.size W w') := cE0 rfl
    clear RES cF10 cF20 cH10 cH20 cE0
    have y12 := E2H.out.2.2.2.2.2.2.2.2.2.2.2.2.2.2.1
    have y13 := E2H.out.2.2.2.2.2.2.2.2.2.2.2.2.2.2.2
    go_wp2_with fail
    have CX0 : Hid (CX w p w2.heap.size (w2.alloc (.cells #[.int .u8 1, .slice p.filter.a p.filter.n p.filter.c, .int .i64 0, .int .u8 2, .slice p.output.a p.output.n p.output.c, .int .i64 (p.filter.n : Int)] 128))) := ⟨E2H.out.below ((Below.refl _ _).alloc (Nat.le_refl _) _), PT.new w2 p⟩
    clear y12 y13
    have hwB : Hid (w.heap.size < w2.heap.size) := E2H.out.2.1
    generalize World.alloc w2 _ = W3 at CX0 ⊢
    generalize w2.heap.size = B at CX0 hwB ⊢
    clear E2H
    go_loopw [4, 27] (fun v4 v27 wr => v4 = .nilIface ∧ ((v27 = .int .i64 0 ∧ Hid (CX w p B wr)) ∨ (v27 = .int .i64 1 ∧ Hid (E1 = none ∧ CX w p B wr)) ∨ (v27 = .int .i64 2 ∧ Hid (E1 = none ∧ E2 = none ∧ CX w p B wr)))) (fun _ v27 _ => 2 - (intOf v27).toNat)
    case atStart => exact ⟨rfl, Or.inl ⟨rfl, CX0⟩⟩
    case round =>
      clear CX0
      obtain ⟨rfl, hrel⟩ := hrel
      rcases hrel with ⟨rfl, hcx⟩ | ⟨rfl, hcx⟩ | ⟨rfl, hcx⟩
      · have cxA : Hid (CX w p B (wr.alloc (.cells #[.int .u8 1, .slice p.filter.a p.filter.n p.filter.c, .int .i64 0] 127))) := hcx.out.below ((Below.refl _ _).alloc (Nat.le_refl _) _)
        obtain ⟨zp, y0, y1, y2, y3, y4, y5, y6, y7, y8, y9, y10, y11, y12, y13⟩ := hcx.out.1.2
        clear cH1 cH2 cE cN
        go_wp2_with fail
        clear zp y0 y1 y2 y3 y4 y5 y6 y7 y8 y9 y10 y11 y12 y13
        with_reducible refine Calls.mono (cF1.out _ (CX.eh cxA.out)) ?_
        rintro e w5 ⟨rfl, b5⟩
        have cx5 : Hid (CX w p B w5) := cxA.out.below b5
        clear cF1 cF2 b5
        clear cxA hcx
        cases E1 with
        | none =>
          unfold frV
          go_wp2_with fail
          exact ⟨⟨rfl, Or.inr (Or.inl ⟨rfl, (by first | trivial | rfl), cx5.out⟩)⟩, by first | (simp [intOf]; done) | (simp [intOf]; omega)⟩
        | some x =>
          obtain ⟨xk, xe⟩ := x
          unfold frV atE
          go_wp2_with fail
          go_returns
          exact ⟨by rw [CLS.out, hr.out, show resOf true (some (xk, xe)) E2 r1 r2 p.filter.n em = some (xe, some (xk : Int)) by simp [resOf]]; exact rfl, cx5.out.1.1⟩
      · have cxA : Hid (CX w p B (wr.alloc (.cells #[.int .u8 2, .slice p.output.a p.output.n p.output.c, .int .i64 (p.filter.n : Int)] 127))) := hcx.out.2.below ((Below.refl _ _).alloc (Nat.le_refl _) _)
        obtain ⟨zp, y0, y1, y2, y3, y4, y5, y6, y7, y8, y9, y10, y11, y12, y13⟩ := hcx.out.2.1.2
        clear cH1 cH2 cE cN
        go_wp2_with fail
        clear zp y0 y1 y2 y3 y4 y5 y6 y7 y8 y9 y10 y11 y12 y13
        with_reducible refine Calls.mono (cF2.out _ (CX.eh cxA.out)) ?_
        rintro e w5 ⟨rfl, b5⟩
        have cx5 : Hid (CX w p B w5) := cxA.out.below b5
        clear cF1 cF2 b5
        have e1 := hcx.out.1
        subst e1
        clear cxA hcx
        cases E2 with
        | none =>
          unfold frV
          go_wp2_with fail
          exact ⟨⟨rfl, Or.inr (Or.inr ⟨rfl, (by first | trivial | rfl), (by first | trivial | rfl), cx5.out⟩)⟩, by first | (simp [intOf]; done) | (simp [intOf]; omega)⟩
        | some x =>
          obtain ⟨xk, xe⟩ := x
          unfold frV atE
          go_wp2_with fail
          go_returns
          exact ⟨by rw [CLS.out, hr.out]; exact rfl, cx5.out.1.1⟩
      · obtain ⟨he1, he2, hcx0⟩ := hcx.out
        have hcxH : Hid (CX w p B wr) := hcx0
        subst he1 he2
        have ch1 : Hid (∀ W, EH w p W → Calls Tryz.prog 73 #[.agg #[.int .u8 1, .slice p.filter.a p.filter.n p.filter.c, .int .i64 0]] W fun e w' => HpR W p.filter.n 0 (g1, r1) e w' ∧ Below W.heap.size W w') := cH1.out rfl
        have ch2 : Hid (∀ W, EH w p W → Calls Tryz.prog 73 #[.agg #[.int .u8 2, .slice p.output.a p.output.n p.output.c, .int .i64 (p.filter.n : Int)]] W fun e w' => HpR W p.output.n p.filter.n (g2, r2) e w' ∧ Below W.heap.size W w') := cH2.out rfl
        have ce : Hid (∀ W, EH w p W → Calls Tryz.prog 74 #[.agg #[.string p.from_, .string p.into, .int .i64 p.every, .int .i64 p.offset, .slice p.groups.a p.groups.n p.groups.c, .slice p.accs.a p.accs.n p.accs.c, .slice p.alias.a p.alias.n p.alias.c, .slice p.names.a p.names.n p.names.c, .slice p.texts.a p.texts.n p.texts.c, .slice p.lists.a p.lists.n p.lists.c, .slice p.times.a p.times.n p.times.c, .slice p.ints.a p.ints.n p.ints.c, .slice p.filter.a p.filter.n p.filter.c, .slice p.output.a p.output.n p.output.c]] W fun e w' => e = .returned (.bool em) ∧ Below W.heap.size W w') := cE.out rfl
        clear cF1 cF2 cH1 cH2 cE hcx
        obtain ⟨zb, t0, t1, t2, t3, t4, t5⟩ := hcx0.2
        go_wp2_with fail
        clear zb t0 t1 t2 t3 t4 t5
        have cxO : Hid (CX w p B (wr.alloc (.cells #[.slice none 0 0, .slice none 0 0] 129)) ∧ OA (wr.alloc (.cells #[.slice none 0 0, .slice none 0 0] 129)) wr.heap.size (.slice none 0 0) (.slice none 0 0)) := ⟨hcxH.out.below ((Below.refl _ _).alloc (Nat.le_refl _) _), OA.new wr⟩
        have hwO : w.heap.size < wr.heap.size := hcxH.out.1.2.1
        have hBO : Hid (B < wr.heap.size) := hcxH.out.2.1
        clear hcx0 hcxH hwB
        generalize World.alloc wr _ = W4 at cxO ⊢
        generalize wr.heap.size = O at cxO hwO hBO ⊢
        go_loopw [4, 38] (fun v4 v38 wr => v4 = .nilIface ∧ ((v38 = .int .i64 0 ∧ Hid (CX w p B wr ∧ OA wr O (.slice none 0 0) (.slice none 0 0))) ∨ (v38 = .int .i64 1 ∧ Hid (r1 = none ∧ ∃ b1, w.heap.size ≤ b1 ∧ b1 ≠ O ∧ CX w p B wr ∧ OA wr O (.slice (some ⟨b1, 0, none⟩) p.filter.n p.filter.n) (.slice none 0 0) ∧ RI wr b1 p.filter.n (fun j => .int .i64 (g1.getD j 0)))) ∨ (v38 = .int .i64 2 ∧ Hid (r1 = none ∧ r2 = none ∧ ∃ b1 b2, w.heap.size ≤ b1 ∧ w.heap.size ≤ b2 ∧ CX w p B wr ∧ OA wr O (.slice (some ⟨b1, 0, none⟩) p.filter.n p.filter.n) (.slice (some ⟨b2, 0, none⟩) p.output.n p.output.n) ∧ RI wr b1 p.filter.n (fun j => .int .i64 (g1.getD j 0)) ∧ RI wr b2 p.output.n (fun j => .int .i64 (g2.getD j 0)))))) (fun _ v38 _ => 2 - (intOf v38).toNat)
        case atStart => exact ⟨rfl, Or.inl ⟨rfl, cxO⟩⟩
        case round =>
          clear cxO
          obtain ⟨rfl, hrel⟩ := hrel
          rcases hrel with ⟨rfl, hcx⟩ | ⟨rfl, hcx⟩ | ⟨rfl, hcx⟩
          · obtain ⟨cx0, oa0⟩ := hcx.out
            clear hcx
            have cxH : Hid (CX w p B wr) := cx0
            have oaH : Hid (OA wr O _ _) := oa0
            clear cx0 oa0
            have cxA : Hid (CX w p B (wr.alloc (.cells #[.int .u8 1, .slice p.filter.a p.filter.n p.filter.c, .int .i64 0] 127))) := cxH.out.below ((Below.refl _ _).alloc (Nat.le_refl _) _)
            have oaA : Hid (OA (wr.alloc (.cells #[.int .u8 1, .slice p.filter.a p.filter.n p.filter.c, .int .i64 0] 127)) O (.slice none 0 0) (.slice none 0 0)) := oaH.out.below ((Below.refl _ _).alloc (Nat.le_refl _) _) oaH.out.1
            have lO : O < wr.heap.size := oaH.out.1
            clear cxH oaH
            clear cN ce
            go_wp2_with fail
            with_reducible refine Calls.mono (ch1.out _ (CX.eh cxA.out)) ?_
            rintro e w5 ⟨hpr, b5⟩
            have cx5 : Hid (CX w p B w5) := cxA.out.below b5
            have oa5 := oaA.out.below b5 oaA.out.1
            have oa5H : Hid (OA w5 O (.slice none 0 0) (.slice none 0 0)) := oa5
            have lA : O < (wr.alloc (.cells #[.int .u8 1, .slice p.filter.a p.filter.n p.filter.c, .int .i64 0] 127)).heap.size := oaA.out.1
            have lW := cxA.out.1.1.size
            clear cxA oaA b5 ch1 ch2
            unfold HpR at hpr
            obtain ⟨lO5, o0, o1, fo0, fo1⟩ := oa5
            cases r1 with
            | some xk =>
              dsimp only at hpr
              subst hpr
              unfold atE
              go_wp2_with fail
              go_returns
              exact ⟨by rw [CLS.out, hr.out, show resOf true none none (some xk) r2 p.filter.n em = some (190, some (xk : Int)) by simp [resOf]]; exact rfl, cx5.out.1.1.setCell (p := ⟨O, 0, none⟩) (by show w.heap.size ≤ O; omega) _⟩
            | none =>
              dsimp only at hpr
              obtain ⟨hb, lhb, hpr, rwb⟩ := hpr
              subst hpr
              have rwbH : Hid (RI w5 hb p.filter.n (fun j => .int .i64 (g1.getD j 0))) := rwb
              have nO : O ≠ hb := by omega
              have lwb : w.heap.size ≤ hb := by omega
              clear rwb
              go_wp2_with fail
              have cx6 : CX w p B (w5.setCell ⟨O, 0, none⟩ (.slice (some ⟨hb, 0, none⟩) p.filter.n p.filter.n)) := CX.far cx5.out hBO.out hwO _
              exact ⟨⟨rfl, Or.inr (Or.inl ⟨rfl, (by first | trivial | rfl), hb, lwb, fun e => nO e.symm, cx6, oa5H.out.set0 _, rwbH.out.far nO _⟩)⟩, by first | (simp [intOf]; done) | (simp [intOf]; omega)⟩
          · obtain ⟨hr1, b1, lb1, nb1, cx0, oa0, rw1⟩ := hcx.out
            subst hr1
            have rw1H : Hid (RI wr b1 p.filter.n (fun j => .int .i64 (g1.getD j 0))) := rw1
            clear hcx rw1
            have cxH : Hid (CX w p B wr) := cx0
            have oaH : Hid (OA wr O _ _) := oa0
            clear cx0 oa0
            have cxA : Hid (CX w p B (wr.alloc (.cells #[.int .u8 2, .slice p.output.a p.output.n p.output.c, .int .i64 (p.filter.n : Int)] 127))) := cxH.out.below ((Below.refl _ _).alloc (Nat.le_refl _) _)
            have oaA : Hid (OA (wr.alloc (.cells #[.int .u8 2, .slice p.output.a p.output.n p.output.c, .int .i64 (p.filter.n : Int)] 127)) O (.slice (some ⟨b1, 0, none⟩) p.filter.n p.filter.n) (.slice none 0 0)) := oaH.out.below ((Below.refl _ _).alloc (Nat.le_refl _) _) oaH.out.1
            have rwA : Hid (RI (wr.alloc (.cells #[.int .u8 2, .slice p.output.a p.output.n p.output.c, .int .i64 (p.filter.n : Int)] 127)) b1 p.filter.n (fun j => .int .i64 (g1.getD j 0))) := rw1H.out.below ((Below.refl _ _).alloc (Nat.le_refl _) _) rw1H.out.1
            have lO : O < wr.heap.size := oaH.out.1
            clear cxH oaH rw1H
            clear cN ce
            go_wp2_with fail
            with_reducible refine Calls.mono (ch2.out _ (CX.eh cxA.out)) ?_
            rintro e w5 ⟨hpr, b5⟩
            have cx5 : Hid (CX w p B w5) := cxA.out.below b5
            have oa5 := oaA.out.below b5 oaA.out.1
            have rw5 : Hid (RI w5 b1 p.filter.n (fun j => .int .i64 (g1.getD j 0))) := rwA.out.below b5 rwA.out.1
            have oa5H : Hid (OA w5 O (.slice (some ⟨b1, 0, none⟩) p.filter.n p.filter.n) (.slice none 0 0)) := oa5
            have lA : O < (wr.alloc (.cells #[.int .u8 2, .slice p.output.a p.output.n p.output.c, .int .i64 (p.filter.n : Int)] 127)).heap.size := oaA.out.1
            have lW := cxA.out.1.1.size
            clear cxA oaA b5 ch1 ch2 rwA
            unfold HpR at hpr
            obtain ⟨lO5, o0, o1, fo0, fo1⟩ := oa5
            cases r2 with
            | some xk =>
              dsimp only at hpr
              subst hpr
              unfold atE
              go_wp2_with fail
              go_returns
              exact ⟨by rw [CLS.out, hr.out]; exact rfl, cx5.out.1.1.setCell (p := ⟨O, 1, none⟩) (by show w.heap.size ≤ O; omega) _⟩
            | none =>
              dsimp only at hpr
              obtain ⟨hb, lhb, hpr, rwb⟩ := hpr
              subst hpr
              have rwbH : Hid (RI w5 hb p.output.n (fun j => .int .i64 (g2.getD j 0))) := rwb
              have nO : O ≠ hb := by omega
              have lwb : w.heap.size ≤ hb := by omega
              clear rwb
              go_wp2_with fail
              have cx6 : CX w p B (w5.setCell ⟨O, 1, none⟩ (.slice (some ⟨hb, 0, none⟩) p.output.n p.output.n)) := CX.far cx5.out hBO.out hwO _
              exact ⟨⟨rfl, Or.inr (Or.inr ⟨rfl, (by first | trivial | rfl), (by first | trivial | rfl), b1, hb, lb1, lwb, cx6, oa5H.out.set1 _, rw5.out.far (fun e => nb1 e.symm) _, rwbH.out.far nO _⟩)⟩, by first | (simp [intOf]; done) | (simp [intOf]; omega)⟩
          · obtain ⟨hr1, hr2, b1, b2, lb1, lb2, cx0, oa0, rw1, rw2⟩ := hcx.out
            subst hr1 hr2
            have cxH : Hid (CX w p B wr) := cx0
            have oaH : Hid (OA wr O _ _) := oa0
            have rw1H : Hid (RI wr b1 p.filter.n (fun j => .int .i64 (g1.getD j 0))) := rw1
            have rw2H : Hid (RI wr b2 p.output.n (fun j => .int .i64 (g2.getD j 0))) := rw2
            obtain ⟨zp, y0, y1, y2, y3, y4, y5, y6, y7, y8, y9, y10, y11, y12, y13⟩ := cx0.1.2
            clear hcx rw1 rw2 cx0 oa0 ch1 ch2
            go_wp2_with fail
            clear zp y0 y1 y2 y3 y4 y5 y6 y7 y8 y9 y10 y11 y12 y13
            with_reducible refine Calls.mono (ce.out _ (CX.eh cxH.out)) ?_
            rintro e w5 ⟨rfl, b5⟩
            have cx5 : Hid (CX w p B w5) := cxH.out.below b5
            obtain ⟨lO5, o0, o1, fo0, fo1⟩ := oaH.out.below b5 oaH.out.1
            have rw15 : Hid (RI w5 b1 p.filter.n (fun j => .int .i64 (g1.getD j 0))) := rw1H.out.below b5 rw1H.out.1
            have rw25 : Hid (RI w5 b2 p.output.n (fun j => .int .i64 (g2.getD j 0))) := rw2H.out.below b5 rw2H.out.1
            clear cxH oaH rw1H rw2H b5 ce
            cases em with
            | false =>
              go_wp2_with (go_at_call 71; with_reducible refine Calls.mono (cN.out _ _ rfl) ?_; rintro e w' ⟨rfl, rfl⟩)
              go_returns
              exact ⟨by rw [CLS.out, hr.out]; exact rfl, cx5.out.1.1⟩
            | true =>
              go_wp2_with fail
              go_quiet (fail)
              go_wp2_with fail
              go_returns
              have bb := bl_drewN (Below.refl w5.heap.size w5) nq
              refine ⟨?_, cx5.out.1.1.trans (bb.mono cx5.out.1.1.size)⟩
              rw [CLS.out, hr.out]
              exact ⟨b1, b2, lb1, lb2, rfl, rw15.out.below bb rw15.out.1, rw25.out.below bb rw25.out.1⟩
end Go.Proofs.YtdfnomglkibfbaaGreatDoor.Vf

namespace Go.Proofs.YtdfnomglkibfbaaGreatDoor.Vf
open Go.RowKit
set_option linter.unusedVariables false
set_option linter.unusedSimpArgs false
set_option maxRecDepth 100000
set_option maxHeartbeats 4000000 in
theorem program_any (p : PrH) (q : PrL) (hN : PrN p q) (hcf : ∀ (j : Nat) (t : InP), q.filter[j]? = some t → t.c < 256) (hco : ∀ (j : Nat) (t : InP), q.output[j]? = some t → t.c < 256) (w : World) (hT : UT w) (hR : RT w) (h : PrIn w p q) : Calls Tryz.prog 10 #[p.v] w fun e w' => e = .returned (errV (resP p q)) ∧ Below w.heap.size w w' := by
  have b1 : Below w.heap.size w (w.alloc (.cells p.cells 28)) := (Below.refl _ w).alloc (Nat.le_refl _) _
  have c0 : Hid (Calls Tryz.prog 27 #[p.v] (w.alloc (.cells p.cells 28)) fun e w' => (∃ h1 h2, e = .returned (.tuple #[h1, h2, errV (resP p q)])) ∧ Below w.heap.size w w') := (climbed_any p q hN hcf hco _ (hT.below b1 (Nat.le_refl _)) (hR.below b1 hR.lt) (h.below b1 (Nat.le_refl _))).mono (fun e w' hh => by
    refine ⟨?_, b1.trans (hh.2.mono b1.size)⟩
    have h1 := hh.1
    unfold ClR at h1
    cases hr : resP p q with
    | some x => rw [hr] at h1; exact ⟨_, _, h1⟩
    | none => rw [hr] at h1; obtain ⟨b1, b2, _, _, h2, _⟩ := h1; exact ⟨_, _, h2⟩)
  generalize errV (resP p q) = v at *
  clear hT hR h b1 hN hcf hco
  unfold PrH.v PrH.cells at c0
  unfold PrH.v
  go_enter Tryz.func10, Tryz.ntmps10
  go_wp2_with fail
  with_reducible refine Calls.mono c0.out ?_
  rintro e w' ⟨⟨h1, h2, rfl⟩, bb⟩
  clear c0
  go_wp2_with fail
  go_ret
  exact ⟨rfl, bb⟩
/-- what Heights tells. -/
def HeR (w : World) (p : PrH) (q : PrL) (r : Option (Int × Option Int)) (e : Ending) (w' : World) : Prop := match r with
  | some x => e = .returned (.tuple #[.slice none 0 0, errV (some x)])
  | none => ∃ b1, w.heap.size ≤ b1 ∧ e = .returned (.tuple #[.slice (some ⟨b1, 0, none⟩) p.filter.n p.filter.n, .nilIface]) ∧ RI w' b1 p.filter.n (fun j => .int .i64 ((hgtP q.filter 0 m0 []).1.getD j 0))
set_option maxHeartbeats 4000000 in
theorem heights_none (p : PrH) (q : PrL) (hN : PrN p q) (hcf : ∀ (j : Nat) (t : InP), q.filter[j]? = some t → t.c < 256) (hco : ∀ (j : Nat) (t : InP), q.output[j]? = some t → t.c < 256) (w : World) (hT : UT w) (hR : RT w) (h : PrIn w p q) (hr : resP p q = none) : Calls Tryz.prog 12 #[p.v] w fun e w' => (∃ b1, w.heap.size ≤ b1 ∧ e = .returned (.tuple #[.slice (some ⟨b1, 0, none⟩) p.filter.n p.filter.n, .nilIface]) ∧ RI w' b1 p.filter.n (fun j => .int .i64 ((hgtP q.filter 0 m0 []).1.getD j 0))) ∧ Below w.heap.size w w' := by
  have b1 : Below w.heap.size w (w.alloc (.cells p.cells 28)) := (Below.refl _ w).alloc (Nat.le_refl _) _
  have c0 : Hid (Calls Tryz.prog 27 #[p.v] (w.alloc (.cells p.cells 28)) fun e w' => (∃ b1 h2, w.heap.size ≤ b1 ∧ e = .returned (.tuple #[.slice (some ⟨b1, 0, none⟩) p.filter.n p.filter.n, h2, .nilIface]) ∧ Hid (RI w' b1 p.filter.n (fun j => .int .i64 ((hgtP q.filter 0 m0 []).1.getD j 0)))) ∧ Below w.heap.size w w') := (climbed_any p q hN hcf hco _ (hT.below b1 (Nat.le_refl _)) (hR.below b1 hR.lt) (h.below b1 (Nat.le_refl _))).mono (fun e w' hh => by
    refine ⟨?_, b1.trans (hh.2.mono b1.size)⟩
    have h1 := hh.1
    unfold ClR at h1
    rw [hr] at h1
    obtain ⟨g1, g2, l1, _, h2, h3, _⟩ := h1
    exact ⟨g1, _, Nat.le_trans b1.size l1, h2, h3⟩)
  clear hT hR h b1 hN hcf hco hr
  unfold PrH.v PrH.cells at c0
  unfold PrH.v
  go_enter Tryz.func12, Tryz.ntmps12
  go_wp2_with fail
  with_reducible refine Calls.mono c0.out ?_
  rintro e w' ⟨⟨g1, h2, l1, rfl, hrw⟩, bb⟩
  clear c0
  go_wp2_with fail
  go_returns
  exact ⟨⟨g1, l1, rfl, hrw.out⟩, bb⟩
end Go.Proofs.YtdfnomglkibfbaaGreatDoor.Vf
