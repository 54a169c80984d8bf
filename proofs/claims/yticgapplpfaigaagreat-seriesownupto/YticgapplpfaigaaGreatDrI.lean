
import Derived.Test.YticgapplpfaigaaGreatDrH
import Derived.Test.YticgapplpfaigaaGreatSrU
namespace Go.Proofs.YticgapplpfaigaaGreat
open Go.RowKit
set_option linter.unusedVariables false
set_option linter.unusedSimpArgs false
/-- the program's Series and the document's, side by side. -/
structure TW (S R B : Nat) (vs vr : Value) (X Y : List Smp) (w : World) : Prop where
  s : SS S B vs X w
  r : SS R B vr Y w
  ne : S ≠ R
  sr : vs.ownBlock ≠ some R
  rs : vr.ownBlock ≠ some S
  vv : ∀ g, vs.ownBlock = some g → vr.ownBlock ≠ some g
theorem SS.away {S R B : Nat} {vs vs' vr : Value} {Y : List Smp} {w w' : World} (h : SS R B vr Y w) (f : RFr S vs vs' w w') (h0 : R ≠ S) (h1 : vs.ownBlock ≠ some R) (h2 : vr.ownBlock ≠ some S) (h3 : ∀ g, vs.ownBlock = some g → vr.ownBlock ≠ some g) : SS R B vr Y w' := by
  have kR := f.keep R h.hN h0 (fun e => h1 e.symm)
  exact ⟨by rw [World.cell?_of_block (w := w) kR]; exact h.c0, by rw [frozen_block kR]; exact h.f0, h.row.keep f.b.size (fun g e => f.keep g (h.row.lt e) (fun e2 => h2 (by rw [e, e2])) (fun e2 => h3 g e2.symm e)), h.ne, Nat.lt_of_lt_of_le h.hN f.b.size, h.hB, h.hk, h.hr, h.hn⟩
theorem TW.onS {S R B : Nat} {vs vs' vr : Value} {X X' Y : List Smp} {w w' : World} (h : TW S R B vs vr X Y w) (h1 : SS S B vs' X' w') (f : RFr S vs vs' w w') : TW S R B vs' vr X' Y w' := by
  refine ⟨h1, h.r.away f h.ne.symm h.sr h.rs h.vv, h.ne, fun e => ?_, h.rs, fun g e e2 => ?_⟩
  · rcases f.own R e with e1 | e1
    · exact h.sr e1
    · have := h.r.hN; omega
  · rcases f.own g e with e1 | e1
    · exact h.vv g e1 e2
    · have := h.r.row.lt e2; omega
theorem TW.swap {S R B : Nat} {vs vr : Value} {X Y : List Smp} {w : World} (h : TW S R B vs vr X Y w) : TW R S B vr vs Y X w := ⟨h.r, h.s, h.ne.symm, h.rs, h.sr, fun g e e2 => h.vv g e2 e⟩
theorem TW.onR {S R B : Nat} {vs vr vr' : Value} {X Y Y' : List Smp} {w w' : World} (h : TW S R B vs vr X Y w) (h1 : SS R B vr' Y' w') (f : RFr R vr vr' w w') : TW S R B vs vr' X Y' w' := (h.swap.onS h1 f).swap
theorem TW.below {S R B : Nat} {vs vr : Value} {X Y : List Smp} {w w' : World} (h : TW S R B vs vr X Y w) (hb : Below w.heap.size w w') : TW S R B vs vr X Y w' := ⟨h.s.below hb, h.r.below hb, h.ne, h.sr, h.rs, h.vv⟩
theorem TW.alloc {S R B : Nat} {vs vr : Value} {X Y : List Smp} {w : World} (h : TW S R B vs vr X Y w) (o : Obj) : TW S R B vs vr X Y (w.alloc o) := h.below ((Below.refl _ w).alloc (Nat.le_refl _) o)
/-- what a step leaves as it was. -/
structure TFr (S R : Nat) (vs vr vs' vr' : Value) (w w' : World) : Prop where
  sz : w.heap.size ≤ w'.heap.size
  keep : ∀ k, k < w.heap.size → k ≠ S → k ≠ R → some k ≠ vs.ownBlock → some k ≠ vr.ownBlock → w'.heap[k]? = w.heap[k]?
  os : ∀ k, vs'.ownBlock = some k → vs.ownBlock = some k ∨ w.heap.size ≤ k
  rr : ∀ k, vr'.ownBlock = some k → vr.ownBlock = some k ∨ w.heap.size ≤ k
theorem TFr.of {S R : Nat} {vs vr : Value} {w w' : World} (h : Below w.heap.size w w') : TFr S R vs vr vs vr w w' := ⟨h.size, fun k hk _ _ _ _ => h.block k hk, fun k e => Or.inl e, fun k e => Or.inl e⟩
theorem TFr.new {S R : Nat} {vs vr : Value} (w : World) (o : Obj) : TFr S R vs vr vs vr w (w.alloc o) := TFr.of ((Below.refl _ w).alloc (Nat.le_refl _) o)
theorem TFr.onS {S R : Nat} {vs vr vs' : Value} {w w' : World} (f : RFr S vs vs' w w') : TFr S R vs vr vs' vr w w' := ⟨f.b.size, fun k hk h1 _ h3 _ => f.keep k hk h1 h3, f.own, fun k e => Or.inl e⟩
theorem TFr.onR {S R : Nat} {vs vr vr' : Value} {w w' : World} (f : RFr R vr vr' w w') : TFr S R vs vr vs vr' w w' := ⟨f.b.size, fun k hk _ h2 _ h4 => f.keep k hk h2 h4, fun k e => Or.inl e, f.own⟩
theorem TFr.trans {S R : Nat} {vs vr vs1 vr1 vs2 vr2 : Value} {w w1 w2 : World} (h : TFr S R vs vr vs1 vr1 w w1) (k : TFr S R vs1 vr1 vs2 vr2 w1 w2) : TFr S R vs vr vs2 vr2 w w2 := by
  refine ⟨Nat.le_trans h.sz k.sz, fun j hj h1 h2 h3 h4 => ?_, fun j e => ?_, fun j e => ?_⟩
  · rw [k.keep j (Nat.lt_of_lt_of_le hj h.sz) h1 h2 ?_ ?_, h.keep j hj h1 h2 h3 h4]
    · intro e
      rcases h.os j e.symm with e2 | e2
      · exact h3 e2.symm
      · omega
    · intro e
      rcases h.rr j e.symm with e2 | e2
      · exact h4 e2.symm
      · omega
  · rcases k.os j e with e2 | e2
    · exact h.os j e2
    · exact Or.inr (Nat.le_trans h.sz e2)
  · rcases k.rr j e with e2 | e2
    · exact h.rr j e2
    · exact Or.inr (Nat.le_trans h.sz e2)
theorem TFr.cell {S R H o : Nat} {vs vr vs' vr' : Value} {w w' : World} (h : TFr S R vs vr vs' vr' w w') (hH : w.heap.size ≤ H) (u : Value) : TFr S R vs vr vs' vr' w (w'.setCell ⟨H, o, none⟩ u) :=
  ⟨by simpa using h.sz, fun k hk h1 h2 h3 h4 => by rw [Below.heap_setCell w' ⟨H, o, none⟩ u k (by simp; omega)]; exact h.keep k hk h1 h2 h3 h4, h.os, h.rr⟩
/-- blocks that are newer than a Series stay. -/
theorem RFr.newer {N B k : Nat} {v v' : Value} {l : List Smp} {w0 W w' : World} (f : RFr N v v' W w') (h : SS N B v l w0) (h0 : w0.heap.size ≤ k) (hk : k < W.heap.size) : w'.heap[k]? = W.heap[k]? :=
  f.keep k hk (by have := h.hN; omega) (fun e => by have := h.row.lt e.symm; omega)
theorem Box.keep {H : Nat} {s : Stp} {w w' : World} (h : Box H s w) (e : w'.heap[H]? = w.heap[H]?) (hs : w.heap.size ≤ w'.heap.size) : Box H s w' := by
  obtain ⟨h0, h1, h2, h3, h4, h5, h6⟩ := h
  refine ⟨Nat.lt_of_lt_of_le h0 hs, ?_, ?_, ?_, ?_, ?_, ?_⟩ <;> (rw [World.cell?_of_block (w := w) e]; assumption)
theorem two_cells {w w' : World} {a b : Value} {ty : TypeId} (e : w'.heap[w.heap.size]? = (w.alloc (.cells #[a, b] ty)).heap[w.heap.size]?) : w'.cell? ⟨w.heap.size, 0, none⟩ = some a ∧ w'.cell? ⟨w.heap.size, 1, none⟩ = some b := by
  constructor
  · rw [World.cell?_of_block (w := w.alloc (.cells #[a, b] ty)) e]; simp [go_sem]
  · rw [World.cell?_of_block (w := w.alloc (.cells #[a, b] ty)) e]; simp [go_sem]
/-- what a step makes of samples. -/
def run1 (X : List Smp) (s : Stp) : List Smp := if s.k = 0 then putL X ⟨s.t, s.vk, s.vx⟩ else if s.k = 1 then cutL X s.t else if s.k = 2 then delL X s.t s.u else if s.k = 3 then putAll X s.ls else X
set_option maxRecDepth 100000 in
set_option maxHeartbeats 4000000 in
theorem step_put (S R B : Nat) (vs vr : Value) (X : List Smp) (s : Stp) (w : World) (h : TW S R B vs vr X X w) (hs : Smp.ok ⟨s.t, s.vk, s.vx⟩) (hn : X.length < 1000000000000) (q0 : s.k = 0) :
    Calls Tryz.prog 13 #[.pointer (some ⟨S, 0, none⟩), .pointer (some ⟨R, 0, none⟩), .agg #[.int .i64 s.k, .int .i64 s.t, .int .i64 s.u, .int .u8 (s.vk : Int), .int .i64 s.vx, .slice s.la s.ls.length s.lc]] w fun e w' => e = .returned (.bool true) ∧ ∃ vs' vr', TW S R B vs' vr' (putL X ⟨s.t, s.vk, s.vx⟩) (putL X ⟨s.t, s.vk, s.vx⟩) w' ∧ Below B w w' ∧ TFr S R vs vr vs' vr' w w' := by
  have hT : Hid (TW S R B vs vr X X w) := h
  clear h
  rw [q0]
  have hX0 : Box w.heap.size s _ := Box.new w s 64
  rw [q0] at hX0
  have hp1 : Hid _ := put_any S B vs X (w.alloc (.cells #[.int .i64 0, .int .i64 s.t, .int .i64 s.u, .int .u8 (s.vk : Int), .int .i64 s.vx, .slice s.la s.ls.length s.lc] 64)) (hT.out.s.alloc _) ⟨s.t, s.vk, s.vx⟩ hs (by omega)
  obtain ⟨gv, hgv⟩ : ∃ g, g = getV X s.t := ⟨_, rfl⟩
  obtain ⟨hd, hhd⟩ : ∃ g, g = hasT X s.t := ⟨_, rfl⟩
  go_enter Tryz.func13, Tryz.ntmps13
  go_wp2_with fail
  refine Calls.mono hp1.out ?_
  rintro e w1 ⟨rfl, vs', h1, f1⟩
  have hT1 : Hid (TW S R B vs' vr (putL X ⟨s.t, s.vk, s.vx⟩) X w1) := (hT.out.alloc _).onS h1 f1.r
  have hX1 : Box w.heap.size s w1 := hX0.keep (f1.r.newer hT.out.s (Nat.le_refl _) (by simp)) f1.b.size
  have hB1 : Below B w w1 := ((Below.refl B w).alloc (by have := hT.out.s.hB; have := hT.out.s.hN; omega) _).trans (f1.below (hT.out.s.alloc _))
  have hz1 : w.heap.size < w1.heap.size := hX1.1
  have hF1 : Hid (TFr S R vs vr vs' vr w w1) := (TFr.new w _).trans (TFr.onS f1.r)
  rw [← hgv, ← hhd]
  have hp2 : Hid _ := rput_any R B vr X (w1.alloc (.cells #[.int .u8 (gv.1 : Int), .int .i64 gv.2] 61)) (hT1.out.r.alloc _) ⟨s.t, s.vk, s.vx⟩ hs (by omega)
  rw [← hgv, ← hhd] at hp2
  have hX1a : Box w.heap.size s (w1.alloc (.cells #[.int .u8 (gv.1 : Int), .int .i64 gv.2] 61)) := hX1.keep (((Below.refl _ w1).alloc (Nat.le_refl _) _).block _ hz1) (by simp)
  obtain ⟨x0, x1, x2, x3, x4, x5, x6⟩ := hX1a
  clear hp1 h1 hgv hhd hX0 hX1
  go_wp2_with fail
  refine Calls.mono hp2.out ?_
  rintro e w2 ⟨rfl, vr', h2, f2⟩
  have hT2 : Hid (TW S R B vs' vr' (putL X ⟨s.t, s.vk, s.vx⟩) (putL X ⟨s.t, s.vk, s.vx⟩) w2) := (hT1.out.alloc _).onR h2 f2
  obtain ⟨y0, y1⟩ := two_cells (f2.newer hT.out.r (by omega) (by simp))
  have hB2 : Below B w w2 := (hB1.alloc (by have := hT.out.s.hB; have := hT.out.s.hN; omega) _).trans (f2.below (hT1.out.r.alloc _))
  have hz2 : w1.heap.size < w2.heap.size := by have := f2.b.size; simp at this; omega
  have hF2 : Hid (TFr S R vs vr vs' vr' w w2) := (hF1.out.trans (TFr.new w1 _)).trans (TFr.onR f2)
  clear hp2 h2 hT1 x0 x1 x2 x3 x4 x5 x6
  go_wp2_with fail
  go_ret
  exact ⟨rfl, vs', vr', hT2.out.alloc _, hB2.alloc (by have := hT.out.s.hB; have := hT.out.s.hN; have := hB2.size; omega) _, hF2.out.trans (TFr.new w2 _)⟩
set_option maxRecDepth 100000 in
set_option maxHeartbeats 4000000 in
theorem step_cut (S R B : Nat) (vs vr : Value) (X : List Smp) (s : Stp) (w : World) (h : TW S R B vs vr X X w) (hn : X.length < 1000000000000) (q0 : s.k = 1) :
    Calls Tryz.prog 13 #[.pointer (some ⟨S, 0, none⟩), .pointer (some ⟨R, 0, none⟩), .agg #[.int .i64 s.k, .int .i64 s.t, .int .i64 s.u, .int .u8 (s.vk : Int), .int .i64 s.vx, .slice s.la s.ls.length s.lc]] w fun e w' => e = .returned (.bool true) ∧ ∃ vs' vr', TW S R B vs' vr' (cutL X s.t) (cutL X s.t) w' ∧ Below B w w' ∧ TFr S R vs vr vs' vr' w w' := by
  have hT : Hid (TW S R B vs vr X X w) := h
  clear h
  rw [q0]
  have hX0 : Box w.heap.size s _ := Box.new w s 64
  rw [q0] at hX0
  have hp1 : Hid _ := cut_any S B vs X (w.alloc (.cells #[.int .i64 1, .int .i64 s.t, .int .i64 s.u, .int .u8 (s.vk : Int), .int .i64 s.vx, .slice s.la s.ls.length s.lc] 64)) (hT.out.s.alloc _) s.t
  obtain ⟨gv, hgv⟩ : ∃ g, g = getV X s.t := ⟨_, rfl⟩
  obtain ⟨hd, hhd⟩ : ∃ g, g = hasT X s.t := ⟨_, rfl⟩
  go_enter Tryz.func13, Tryz.ntmps13
  go_wp2_with fail
  refine Calls.mono hp1.out ?_
  rintro e w1 ⟨rfl, vs', h1, f1⟩
  have hT1 : Hid (TW S R B vs' vr (cutL X s.t) X w1) := (hT.out.alloc _).onS h1 f1.r
  have hX1 : Box w.heap.size s w1 := hX0.keep (f1.r.newer hT.out.s (Nat.le_refl _) (by simp)) f1.b.size
  have hB1 : Below B w w1 := ((Below.refl B w).alloc (by have := hT.out.s.hB; have := hT.out.s.hN; omega) _).trans (f1.below (hT.out.s.alloc _))
  have hz1 : w.heap.size < w1.heap.size := hX1.1
  have hF1 : Hid (TFr S R vs vr vs' vr w w1) := (TFr.new w _).trans (TFr.onS f1.r)
  rw [← hgv, ← hhd]
  have hp2 : Hid _ := rcut_any R B vr X (w1.alloc (.cells #[.int .u8 (gv.1 : Int), .int .i64 gv.2] 61)) (hT1.out.r.alloc _) s.t
  rw [← hgv, ← hhd] at hp2
  have hX1a : Box w.heap.size s (w1.alloc (.cells #[.int .u8 (gv.1 : Int), .int .i64 gv.2] 61)) := hX1.keep (((Below.refl _ w1).alloc (Nat.le_refl _) _).block _ hz1) (by simp)
  obtain ⟨x0, x1, x2, x3, x4, x5, x6⟩ := hX1a
  clear hp1 h1 hgv hhd hX0 hX1
  go_wp2_with fail
  refine Calls.mono hp2.out ?_
  rintro e w2 ⟨rfl, vr', h2, f2⟩
  have hT2 : Hid (TW S R B vs' vr' (cutL X s.t) (cutL X s.t) w2) := (hT1.out.alloc _).onR h2 f2
  obtain ⟨y0, y1⟩ := two_cells (f2.newer hT.out.r (by omega) (by simp))
  have hB2 : Below B w w2 := (hB1.alloc (by have := hT.out.s.hB; have := hT.out.s.hN; omega) _).trans (f2.below (hT1.out.r.alloc _))
  have hz2 : w1.heap.size < w2.heap.size := by have := f2.b.size; simp at this; omega
  have hF2 : Hid (TFr S R vs vr vs' vr' w w2) := (hF1.out.trans (TFr.new w1 _)).trans (TFr.onR f2)
  clear hp2 h2 hT1 x0 x1 x2 x3 x4 x5 x6
  go_wp2_with fail
  go_ret
  exact ⟨rfl, vs', vr', hT2.out.alloc _, hB2.alloc (by have := hT.out.s.hB; have := hT.out.s.hN; have := hB2.size; omega) _, hF2.out.trans (TFr.new w2 _)⟩
set_option maxRecDepth 100000 in
set_option maxHeartbeats 4000000 in
theorem step_del (S R B : Nat) (vs vr : Value) (X : List Smp) (s : Stp) (w : World) (h : TW S R B vs vr X X w) (hn : X.length ≤ 1000000000000) (q0 : s.k = 2) :
    Calls Tryz.prog 13 #[.pointer (some ⟨S, 0, none⟩), .pointer (some ⟨R, 0, none⟩), .agg #[.int .i64 s.k, .int .i64 s.t, .int .i64 s.u, .int .u8 (s.vk : Int), .int .i64 s.vx, .slice s.la s.ls.length s.lc]] w fun e w' => e = .returned (.bool true) ∧ ∃ vs' vr', TW S R B vs' vr' (delL X s.t s.u) (delL X s.t s.u) w' ∧ Below B w w' ∧ TFr S R vs vr vs' vr' w w' := by
  have hT : Hid (TW S R B vs vr X X w) := h
  have hBw : B ≤ w.heap.size := by have := h.s.hB; have := h.s.hN; omega
  clear h
  rw [q0]
  have hX0 : Box w.heap.size s _ := Box.new w s 64
  rw [q0] at hX0
  have hp1 : Hid _ := delete_any S B vs X (w.alloc (.cells #[.int .i64 2, .int .i64 s.t, .int .i64 s.u, .int .u8 (s.vk : Int), .int .i64 s.vx, .slice s.la s.ls.length s.lc] 64)) (hT.out.s.alloc _) s.t s.u
  have hrl := rangeL_len X s.t s.u
  have hrk : Hid (∀ y ∈ rangeL X s.t s.u, y.ok) := fun y hy => hT.out.s.hk y ((rangeL_mem hT.out.s.hr s.t s.u y).1 hy).1
  go_enter Tryz.func13, Tryz.ntmps13
  go_wp2_with fail
  refine Calls.mono hp1.out ?_
  rintro e w1 ⟨r1, vs', rfl, hO1, h1, f1, _⟩
  have hT1 : Hid (TW S R B vs' vr (delL X s.t s.u) X w1) := (hT.out.alloc _).onS h1 f1.r
  have hX1 : Box w.heap.size s w1 := hX0.keep (f1.r.newer hT.out.s (Nat.le_refl _) (by simp)) f1.b.size
  have hB1 : Below B w w1 := ((Below.refl B w).alloc hBw _).trans (f1.below (hT.out.s.alloc _))
  have hz1 : w.heap.size < w1.heap.size := hX1.1
  have hF1 : Hid (TFr S R vs vr vs' vr w w1) := (TFr.new w _).trans (TFr.onS f1.r)
  have hp2 : Hid _ := rdelete_any R B vr X w1 hT1.out.r s.t s.u
  have hO1H : Hid (OR w1 (w.heap.size + 1) r1 (rangeL X s.t s.u)) := by
    have := hO1
    rw [show (w.alloc (.cells #[.int .i64 2, .int .i64 s.t, .int .i64 s.u, .int .u8 (s.vk : Int), .int .i64 s.vx, .slice s.la s.ls.length s.lc] 64)).heap.size = w.heap.size + 1 by simp] at this
    exact Or.inl this
  obtain ⟨x0, x1, x2, x3, x4, x5, x6⟩ := hX1
  obtain ⟨a1, c1, hr1, _⟩ := hO1H.out.lin hrk.out
  have hr1H : Hid (r1 = .slice a1 (rangeL X s.t s.u).length c1) := hr1
  rw [hr1]
  clear hp1 h1 hX0 hO1 hr1
  go_wp2_with fail
  refine Calls.mono hp2.out ?_
  rintro e w2 ⟨r2, vr', rfl, hO2, h2, f2⟩
  have hT2 : Hid (TW S R B vs' vr' (delL X s.t s.u) (delL X s.t s.u) w2) := hT1.out.onR h2 f2
  have hB2 : Below B w w2 := hB1.trans (f2.below hT1.out.r)
  have hF2 : Hid (TFr S R vs vr vs' vr' w w2) := hF1.out.trans (TFr.onR f2)
  have hO12 : OR w2 (w.heap.size + 1) r1 (rangeL X s.t s.u) := hO1H.out.keep f2.b.size (fun g e => f2.newer hT.out.r (by have := hO1H.out.bound e; omega) (hO1H.out.lt e))
  rw [hr1H.out] at hO12
  obtain ⟨a1', c1', e1', _, hL1⟩ := hO12.lin hrk.out
  injection e1' with e2' e3' e4'
  subst e2'
  clear e3' e4'
  obtain ⟨a2, c2, hr2, _, hL2⟩ := hO2.lin hrk.out
  rw [hr2]
  have hsm : Hid _ := sameS_any a1 a2 c1 c2 (rangeL X s.t s.u) w2 hL1 hL2 (by omega)
  clear hp2 h2 hT1 x0 x1 x2 x3 x4 x5 x6 hO12 hL1 hL2 hO2 hr2
  generalize (rangeL X s.t s.u).length = nr at *
  go_wp2_with fail
  refine Calls.mono hsm.out ?_
  rintro e w3 ⟨rfl, hB3⟩
  have hT3 : Hid (TW S R B vs' vr' (delL X s.t s.u) (delL X s.t s.u) w3) := hT2.out.below hB3
  have hB03 : Below B w w3 := hB2.trans (hB3.mono (by have := hB2.size; omega))
  have hF3 : Hid (TFr S R vs vr vs' vr' w w3) := hF2.out.trans (TFr.of hB3)
  clear hsm hT2 hB3 hB2
  go_wp2_with fail
  go_ret
  exact ⟨rfl, vs', vr', hT3.out, hB03, hF3.out⟩
set_option maxRecDepth 100000 in
set_option maxHeartbeats 4000000 in
theorem step_none (S R B : Nat) (vs vr : Value) (X : List Smp) (s : Stp) (w : World) (h : TW S R B vs vr X X w) (q0 : s.k ≠ 0 ∧ s.k ≠ 1 ∧ s.k ≠ 2 ∧ s.k ≠ 3) :
    Calls Tryz.prog 13 #[.pointer (some ⟨S, 0, none⟩), .pointer (some ⟨R, 0, none⟩), .agg #[.int .i64 s.k, .int .i64 s.t, .int .i64 s.u, .int .u8 (s.vk : Int), .int .i64 s.vx, .slice s.la s.ls.length s.lc]] w fun e w' => e = .returned (.bool true) ∧ ∃ vs' vr', TW S R B vs' vr' (X) (X) w' ∧ Below B w w' ∧ TFr S R vs vr vs' vr' w w' := by
  have hT : Hid (TW S R B vs vr X X w) := h
  have hBw : B ≤ w.heap.size := by have := h.s.hB; have := h.s.hN; omega
  clear h
  obtain ⟨q0, q1, q2, q3⟩ := q0
  go_enter Tryz.func13, Tryz.ntmps13
  go_wp2_with fail
  go_ret
  exact ⟨rfl, vs, vr, hT.out.alloc _, (Below.refl B w).alloc hBw _, TFr.new w _⟩
end Go.Proofs.YticgapplpfaigaaGreat
