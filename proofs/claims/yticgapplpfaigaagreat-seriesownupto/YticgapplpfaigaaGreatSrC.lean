
import Derived.Test.YticgapplpfaigaaGreatSrB
namespace Go.Proofs.YticgapplpfaigaaGreat
open Go.RowKit
set_option linter.unusedVariables false
set_option linter.unusedSimpArgs false
/-- what a Series at N leaves alone: all but its own cell, and the row of its slice. -/
structure SFr (N : Nat) (v v' : Value) (w w' : World) : Prop where
  b : Below 0 w w'
  keep : ∀ k, k < w.heap.size → k ≠ N → some k ≠ v.ownBlock → w'.heap[k]? = w.heap[k]?
  own : v'.ownBlock = v.ownBlock ∨ ∃ k, v'.ownBlock = some k ∧ w.heap.size ≤ k
theorem SFr.of {N : Nat} {v : Value} {w w' : World} (h : Below w.heap.size w w') : SFr N v v w w' := ⟨h.mono (Nat.zero_le _), fun k hk _ _ => h.block k hk, Or.inl rfl⟩
theorem SFr.trans {N : Nat} {v v1 v2 : Value} {w w1 w2 : World} (h : SFr N v v1 w w1) (k : SFr N v1 v2 w1 w2) : SFr N v v2 w w2 := by
  refine ⟨h.b.trans k.b, fun j hj hn ho => ?_, ?_⟩
  · rw [k.keep j (Nat.lt_of_lt_of_le hj h.b.size) hn ?_, h.keep j hj hn ho]
    rcases h.own with e | ⟨i, e, hi⟩
    · rw [e]; exact ho
    · rw [e]; intro e'; injection e' with e'; omega
  · rcases k.own with e | ⟨i, e, hi⟩
    · rw [e]; exact h.own
    · exact Or.inr ⟨i, e, Nat.le_trans h.b.size hi⟩
theorem OR.bound {w : World} {B : Nat} {v : Value} {l : List Smp} (h : OR w B v l) {g : Nat} (hg : v.ownBlock = some g) : B ≤ g := by
  rcases h with h | ⟨_, g', rfl, hb, _⟩
  · exact (h.lt g hg).1
  · simp [Value.ownBlock] at hg; omega
theorem OR.lt {w : World} {B : Nat} {v : Value} {l : List Smp} (h : OR w B v l) {g : Nat} (hg : v.ownBlock = some g) : g < w.heap.size := by
  rcases h with h | ⟨_, g', rfl, _, hb⟩
  · exact (h.lt g hg).2
  · simp [Value.ownBlock] at hg; omega
theorem SFr.below {N B : Nat} {v v' : Value} {l : List Smp} {w w' : World} (h : SFr N v v' w w') (hs : SS N B v l w) : Below B w w' :=
  ⟨h.b.os, h.b.tape, h.b.output, h.b.size, fun k hk => h.keep k (by have := hs.hN; have := hs.hB; omega) (by have := hs.hB; omega) (fun e => by have := hs.row.bound e.symm; omega)⟩
/-- a sample of the row set anew. -/
theorem own_set {w : World} {B g cap : Nat} {l : List Smp} (h : w.ownsRow B 89 3 (.slice (some ⟨g, 0, none⟩) l.length cap) l.length (encL l)) {i : Nat} {s : Smp} (hs : l[i]? = some s) (k : Nat) (x : Int) :
    ((w.setCell ⟨g, i * 3 + 1, none⟩ (.int .u8 (k : Int))).setCell ⟨g, i * 3 + 2, none⟩ (.int .i64 x)).ownsRow B 89 3 (.slice (some ⟨g, 0, none⟩) (l.set i ⟨s.t, k, x⟩).length cap) (l.set i ⟨s.t, k, x⟩).length (encL (l.set i ⟨s.t, k, x⟩)) := by
  have h2 := ((h.stored (i * 3 + 1) (.int .u8 (k : Int))).1.stored (i * 3 + 2) (.int .i64 x)).1
  rw [List.length_set]
  have e : encL (l.set i ⟨s.t, k, x⟩) = ((encL l).set (i * 3 + 1) (.int .u8 (k : Int))).set (i * 3 + 2) (.int .i64 x) := by
    clear h h2
    induction l generalizing i with
    | nil => simp at hs
    | cons a r ih =>
      cases i with
      | zero => simp at hs; subst hs; simp [encL, Smp.enc]
      | succ i =>
        simp at hs
        rw [List.set_cons_succ, show (i + 1) * 3 = i * 3 + 3 by omega]
        simp [encL, Smp.enc, ih hs]
  rw [e]
  exact h2
theorem below_new {w w' : World} (h : Below w.heap.size w w') (o : Obj) : Below w.heap.size w (w'.alloc o) := h.alloc h.size o
theorem SFr.tail {N : Nat} {v v' : Value} {w w1 w2 : World} (h : SFr N v v' w w1) (hb : Below w.heap.size w1 w2) : SFr N v v' w w2 :=
  ⟨h.b.trans (hb.mono (Nat.zero_le _)), fun k hk hn ho => (hb.block k hk).trans (h.keep k hk hn ho), h.own⟩
theorem SS.tail {N B M : Nat} {v : Value} {l : List Smp} {w w' : World} (h : SS N B v l w) (hb : Below M w w') (hN : N < M) (hg : ∀ g, v.ownBlock = some g → g < M) : SS N B v l w' :=
  ⟨by rw [hb.cell (p := ⟨N, 0, none⟩) hN]; exact h.c0, by rw [frozen_block (hb.block N hN)]; exact h.f0, h.row.keep hb.size (fun g e => hb.block g (hg g e)), h.ne, Nat.lt_of_lt_of_le h.hN hb.size, h.hB, h.hk, h.hr, h.hn⟩
theorem frozen_new (w : World) (cs : Array Value) (ty : TypeId) (j : Nat) : (w.alloc (.cells cs ty)).frozen? ⟨w.heap.size, j, none⟩ = false := by rw [World.frozen?, heap_alloc_new]; simp
theorem Rise.set {l : List Smp} (h : Rise l) {i : Nat} {s : Smp} (hs : l[i]? = some s) (k : Nat) (x : Int) : Rise (l.set i ⟨s.t, k, x⟩) := by
  unfold Rise at *
  rw [List.pairwise_iff_getElem] at *
  intro p q hp hq hpq
  rw [List.length_set] at hp hq
  obtain ⟨hi, e⟩ := List.getElem?_eq_some_iff.1 hs
  have := h p q hp hq hpq
  rw [List.getElem_set, List.getElem_set]
  split
  · rename_i e1; subst e1
    split
    · omega
    · rw [e] at this; exact this
  · split
    · rename_i e1; subst e1; rw [e] at this; exact this
    · exact this
theorem ok_set {l : List Smp} (h : ∀ s ∈ l, s.ok) {i : Nat} {s : Smp} (hs : l[i]? = some s) (k : Nat) (x : Int) (hk : k < 256) (hx : -9223372036854775808 ≤ x ∧ x ≤ 9223372036854775807) : ∀ y ∈ l.set i ⟨s.t, k, x⟩, y.ok := by
  intro y hy
  rcases List.mem_or_eq_of_mem_set hy with h1 | h1
  · exact h y h1
  · subst h1; exact ⟨(h s (List.mem_of_getElem? hs)).1, hk, hx⟩
theorem SS.set {N B g cap : Nat} {l : List Smp} {w : World} (h : SS N B (.slice (some ⟨g, 0, none⟩) l.length cap) l w) {i : Nat} {s : Smp} (hs : l[i]? = some s) (k : Nat) (x : Int) (hk : k < 256) (hx : -9223372036854775808 ≤ x ∧ x ≤ 9223372036854775807) :
    SS N B (.slice (some ⟨g, 0, none⟩) l.length cap) (l.set i ⟨s.t, k, x⟩) ((w.setCell ⟨g, i * 3 + 1, none⟩ (.int .u8 (k : Int))).setCell ⟨g, i * 3 + 2, none⟩ (.int .i64 x)) ∧ SFr N (.slice (some ⟨g, 0, none⟩) l.length cap) (.slice (some ⟨g, 0, none⟩) l.length cap) w ((w.setCell ⟨g, i * 3 + 1, none⟩ (.int .u8 (k : Int))).setCell ⟨g, i * 3 + 2, none⟩ (.int .i64 x)) := by
  have hne : N ≠ g := fun e => h.ne (by simp [Value.ownBlock, e])
  have own : w.ownsRow B 89 3 (.slice (some ⟨g, 0, none⟩) l.length cap) l.length (encL l) := by
    rcases h.row with h1 | ⟨h1, _⟩
    · exact h1
    · rw [h1] at hs; simp at hs
  have o2 := own_set own hs k x
  have hl : (l.set i ⟨s.t, k, x⟩).length = l.length := List.length_set
  rw [hl] at o2
  have hb : ∀ j, j ≠ g → ((w.setCell ⟨g, i * 3 + 1, none⟩ (.int .u8 (k : Int))).setCell ⟨g, i * 3 + 2, none⟩ (.int .i64 x)).heap[j]? = w.heap[j]? := fun j hj => by
    rw [heap_setCell_other _ ⟨g, i * 3 + 2, none⟩ j _ hj, heap_setCell_other _ ⟨g, i * 3 + 1, none⟩ j _ hj]
  refine ⟨⟨?_, ?_, Or.inl (by rw [hl]; exact o2), h.ne, by simpa using h.hN, h.hB, ok_set h.hk hs k x hk hx, h.hr.set hs k x, by rw [hl]; exact h.hn⟩, ⟨⟨rfl, rfl, rfl, by simp, fun j hj => absurd hj (Nat.not_lt_zero _)⟩, fun j _ _ hj => hb j (fun e => hj (by simp [Value.ownBlock, e])), Or.inl rfl⟩⟩
  · rw [World.cell?_of_block (w := w) (hb N hne)]; exact h.c0
  · rw [frozen_block (hb N hne)]; exact h.f0
set_option maxRecDepth 100000 in
set_option maxHeartbeats 4000000 in
theorem change_any (N B : Nat) (v : Value) (l : List Smp) (w : World) (h : SS N B v l w) (i : Nat) (s : Smp) (hs : l[i]? = some s) (k : Nat) (x : Int) (hk : k < 256) (hx : -9223372036854775808 ≤ x ∧ x ≤ 9223372036854775807) :
    Calls Tryz.prog 29 #[.pointer (some ⟨N, 0, none⟩), .int .i64 (i : Int), .agg #[.int .u8 (k : Int), .int .i64 x]] w fun e w' => e = .returned (.agg #[.int .u8 (s.k : Int), .int .i64 s.x]) ∧ SS N B v (l.set i ⟨s.t, k, x⟩) w' ∧ SFr N v v w w' := by
  obtain ⟨a, cap, rfl, hcap, hL⟩ := h.row.lin h.hk
  have hlt := (List.getElem?_eq_some_iff.1 hs).1
  have own : w.ownsRow B 89 3 (.slice a l.length cap) l.length (encL l) := by
    rcases h.row with h1 | ⟨h1, _⟩
    · exact h1
    · rw [h1] at hs; simp at hs
  obtain ⟨g, cap', e, _, _⟩ := own.form (by omega)
  cases e
  have c0 := h.c0
  have hne : N ≠ g := fun e => h.ne (by simp [Value.ownBlock, e])
  obtain ⟨e1, e2, e3⟩ := encL_get l i s hs
  have d2 := (own.cellAt (i * 3 + 1) (by omega)).trans e2
  have d3 := (own.cellAt (i * 3 + 2) (by omega)).trans e3
  have f2 := own.frozenAt (i * 3 + 1)
  have f3 := own.frozenAt (i * 3 + 2)
  have hn := h.hn
  have hi0 : (0 : Int) ≤ (i : Int) := by omega
  have hiI : (i : Int) < (l.length : Int) := by omega
  have hN := h.hN
  have hg : g < w.heap.size := (own.lt g rfl).2
  obtain ⟨W, hW⟩ : ∃ W, W = (w.alloc (.cells #[.int .u8 (k : Int), .int .i64 x] 61)).alloc (.cells #[.int .u8 0, .int .i64 0] 61) := ⟨_, rfl⟩
  have hB0 : Below w.heap.size w W := by rw [hW]; exact below_new (below_new (Below.refl _ _) _) _
  have c0' := (hB0.cell (p := ⟨N, 0, none⟩) hN).trans c0
  have d2' := (hB0.cell (p := ⟨g, i * 3 + 1, none⟩) hg).trans d2
  have d3' := (hB0.cell (p := ⟨g, i * 3 + 2, none⟩) hg).trans d3
  have f2' := (frozen_block (o := i * 3 + 1) (hB0.block g hg)).trans f2
  have f3' := (frozen_block (o := i * 3 + 2) (hB0.block g hg)).trans f3
  subst hW
  have hF0 : Hid (∀ W3, Below w.heap.size w W3 → _) := fun W3 hB3 => (h.below hB3).set hs k x hk hx
  clear h hL own e1 e2 e3 hs
  generalize l.length = n at *
  go_enter Tryz.func29, Tryz.ntmps29
  go_wp2_with fail
  obtain ⟨W3, hW3⟩ : ∃ W3, W3 = (((w.alloc (Obj.cells #[Value.int IntKind.u8 ↑k, Value.int IntKind.i64 x] 61)).alloc (Obj.cells #[Value.int IntKind.u8 0, Value.int IntKind.i64 0] 61)).alloc (Obj.cells #[Value.int IntKind.u8 ↑s.k, Value.int IntKind.i64 s.x] 61)) := ⟨_, rfl⟩
  rw [← hW3]
  have hB3 : Below w.heap.size w W3 := by rw [hW3]; exact below_new (below_new (below_new (Below.refl _ _) _) _) _
  have S5 : W3.cell? ⟨N, 0, none⟩ = some (.slice (some ⟨g, 0, none⟩) n cap) ∧ W3.cell? ⟨w.heap.size, 0, none⟩ = some (.int .u8 (k : Int)) ∧ W3.cell? ⟨w.heap.size, 1, none⟩ = some (.int .i64 x) := ⟨(hB3.cell (p := ⟨N, 0, none⟩) hN).trans c0, by rw [hW3]; simp [go_sem], by rw [hW3]; simp [go_sem]⟩
  have hW4 : Hid (W3 = _) := hW3
  clear hW3
  have d2 := (hB3.cell (p := ⟨g, i * 3 + 1, none⟩) hg).trans d2
  have d3 := (hB3.cell (p := ⟨g, i * 3 + 2, none⟩) hg).trans d3
  have f2 := (frozen_block (o := i * 3 + 1) (hB3.block g hg)).trans f2
  have f3 := (frozen_block (o := i * 3 + 2) (hB3.block g hg)).trans f3
  have d2r : W3.drew.cell? ⟨g, i * 3 + 1, none⟩ = some (.int .u8 (s.k : Int)) := d2
  have d3r : W3.drew.cell? ⟨g, i * 3 + 2, none⟩ = some (.int .i64 s.x) := d3
  have f2r : W3.drew.frozen? ⟨g, i * 3 + 1, none⟩ = false := f2
  have f3r : W3.drew.frozen? ⟨g, i * 3 + 2, none⟩ = false := f3
  have d4 : W3.cell? ⟨g, i * 3 + 1 + 1, none⟩ = some (.int .i64 s.x) := d3
  have f4 : W3.frozen? ⟨g, i * 3 + 1 + 1, none⟩ = false := f3
  have S6 := And.intro S5 (And.intro d2 (And.intro d4 (And.intro f2 f4)))
  have c0r := S5.1
  have v0r := S5.2.1
  have v1r := S5.2.2
  have x0 : W3.cell? ⟨w.heap.size + 1 + 1, 0, none⟩ = some (.int .u8 (s.k : Int)) := by rw [hW4.out]; simp [go_sem]
  have x1 : W3.cell? ⟨w.heap.size + 1 + 1, 1, none⟩ = some (.int .i64 s.x) := by rw [hW4.out]; simp [go_sem]
  have y0 : W3.cell? ⟨w.heap.size + 1, 0, none⟩ = some (.int .u8 0) := by rw [hW4.out]; simp [go_sem]
  have y1 : W3.cell? ⟨w.heap.size + 1, 1, none⟩ = some (.int .i64 0) := by rw [hW4.out]; simp [go_sem]
  have z0 : W3.frozen? ⟨w.heap.size + 1, 0, none⟩ = false := by
    rw [hW4.out, World.frozen?_alloc_old _ _ ⟨w.heap.size + 1, 0, none⟩ (by simp)]
    have := frozen_new (w.alloc (Obj.cells #[Value.int IntKind.u8 ↑k, Value.int IntKind.i64 x] 61)) #[Value.int IntKind.u8 0, Value.int IntKind.i64 0] 61 0
    simp
  have z1 : W3.frozen? ⟨w.heap.size + 1, 1, none⟩ = false := by
    rw [hW4.out, World.frozen?_alloc_old _ _ ⟨w.heap.size + 1, 1, none⟩ (by simp)]
    have := frozen_new (w.alloc (Obj.cells #[Value.int IntKind.u8 ↑k, Value.int IntKind.i64 x] 61)) #[Value.int IntKind.u8 0, Value.int IntKind.i64 0] 61 1
    simp
  have hF3 : Hid _ := hF0.out W3 hB3
  have hg1 : g ≠ w.heap.size + 1 := by omega
  have hg2 : g ≠ w.heap.size + 1 + 1 := by omega
  go_region
  go_wp2_with fail
  obtain ⟨hS3, hR3⟩ := hF3.out
  have hT : Below w.heap.size ((W3.setCell ⟨g, i * 3 + 1, none⟩ (.int .u8 (k : Int))).setCell ⟨g, i * 3 + 2, none⟩ (.int .i64 x)) ((((W3.setCell ⟨g, i * 3 + 1, none⟩ (.int .u8 (k : Int))).setCell ⟨g, i * 3 + 1 + 1, none⟩ (.int .i64 x)).setCell ⟨w.heap.size + 1, 0, none⟩ (.int .u8 (s.k : Int))).setCell ⟨w.heap.size + 1, 1, none⟩ (.int .i64 s.x)).drew := (((Below.refl _ _).setCell (p := ⟨w.heap.size + 1, 0, none⟩) (by simp) _).setCell (p := ⟨w.heap.size + 1, 1, none⟩) (by simp) _).drew
  refine bodyPost_ret (v := .agg #[.int .u8 (s.k : Int), .int .i64 s.x]) ?_ rfl ⟨rfl, ?_, ?_⟩
  · simp [results, Tryz.results29, go_sem, hg1, hg2, x0, x1, y0, y1, d2, d4]
  · exact hS3.tail hT hN (fun g' e => by simp [Value.ownBlock] at e; omega)
  · exact ((SFr.of hB3).trans hR3).tail hT
set_option maxRecDepth 100000 in
set_option maxHeartbeats 4000000 in
theorem new_any (w : World) : Calls Tryz.prog 5 #[] w fun e w' => e = .returned (.pointer (some ⟨w.heap.size, 0, none⟩)) ∧ SS w.heap.size w.heap.size (.slice none 0 0) [] w' ∧ Below w.heap.size w w' := by
  go_enter Tryz.func5, Tryz.ntmps5
  go_wp2_with fail
  go_ret
  refine ⟨rfl, ⟨by simp [go_sem], frozen_new _ _ _ _, Or.inl (World.ownsRow_nil _ _ _ _), by simp [Value.ownBlock], by simp, Nat.le_refl _, by simp, List.Pairwise.nil, by simp⟩, (Below.refl _ w).alloc (Nat.le_refl _) _⟩
set_option maxRecDepth 100000 in
set_option maxHeartbeats 4000000 in
theorem len_any (N B : Nat) (v : Value) (l : List Smp) (w : World) (h : SS N B v l w) : Calls Tryz.prog 20 #[.pointer (some ⟨N, 0, none⟩)] w fun e w' => e = .returned (.int .i64 (l.length : Int)) ∧ w' = w := by
  obtain ⟨a, cap, rfl, hcap, hL⟩ := h.row.lin h.hk
  have c0 := h.c0
  clear h hL hcap
  generalize l.length = n at *
  go_enter Tryz.func20, Tryz.ntmps20
  go_wp2_with fail
  go_ret
  exact ⟨rfl, rfl⟩
/-- the value at a time. -/
def getV (l : List Smp) (t : Int) : Nat × Int := match l.find? (fun s => decide (s.t = t)) with
  | some s => (s.k, s.x)
  | none => (0, 0)
theorem getV_hit {l : List Smp} (hr : Rise l) {t : Int} (h : hasT l t = true) : ∃ s, l[ahd l t]? = some s ∧ s.t = t ∧ getV l t = (s.k, s.x) := by
  obtain ⟨s, hs, ht⟩ := (hasT_iff hr t).1 h
  refine ⟨s, hs, ht, ?_⟩
  unfold getV
  have : l.find? (fun s => decide (s.t = t)) = some s := by
    rw [List.find?_eq_some_iff_getElem]
    obtain ⟨h1, h2⟩ := List.getElem?_eq_some_iff.1 hs
    refine ⟨by simpa using ht, ahd l t, h1, h2, fun j hj => ?_⟩
    have := hr.lt hj (List.getElem?_eq_getElem (by omega)) hs
    simp; omega
  rw [this]
theorem getV_miss {l : List Smp} {t : Int} (h : hasT l t = false) : getV l t = (0, 0) := by
  unfold getV
  have : l.find? (fun s => decide (s.t = t)) = none := by
    rw [List.find?_eq_none]
    intro s hs
    unfold hasT at h
    rw [List.any_eq_false] at h
    exact h s hs
  rw [this]
theorem SS.alloc {N B : Nat} {v : Value} {l : List Smp} {w : World} (h : SS N B v l w) (o : Obj) : SS N B v l (w.alloc o) := h.below ((Below.refl _ w).alloc (Nat.le_refl _) o)
theorem alloc_below {w w' : World} {o : Obj} (h : Below (w.alloc o).heap.size (w.alloc o) w') : Below w.heap.size w w' := ((Below.refl _ w).alloc (Nat.le_refl _) o).trans (h.mono (by simp))
theorem res_cells {w w' : World} {a b : Value} {ty : TypeId} (h : Below (w.alloc (.cells #[a, b] ty)).heap.size (w.alloc (.cells #[a, b] ty)) w') : w'.cell? ⟨w.heap.size, 0, none⟩ = some a ∧ w'.cell? ⟨w.heap.size, 1, none⟩ = some b ∧ w'.frozen? ⟨w.heap.size, 0, none⟩ = false ∧ w'.frozen? ⟨w.heap.size, 1, none⟩ = false ∧ w.heap.size < w'.heap.size := by
  have hs : w.heap.size < (w.alloc (.cells #[a, b] ty)).heap.size := by simp
  refine ⟨?_, ?_, ?_, ?_, Nat.lt_of_lt_of_le hs h.size⟩
  · rw [h.cell (p := ⟨w.heap.size, 0, none⟩) hs]; simp [go_sem]
  · rw [h.cell (p := ⟨w.heap.size, 1, none⟩) hs]; simp [go_sem]
  · rw [frozen_block (h.block _ hs), World.frozen?, heap_alloc_new]; simp
  · rw [frozen_block (h.block _ hs), World.frozen?, heap_alloc_new]; simp
set_option maxRecDepth 100000 in
set_option maxHeartbeats 4000000 in
theorem get_any (N B : Nat) (v : Value) (l : List Smp) (t : Int) (w : World) (h : SS N B v l w) : Calls Tryz.prog 19 #[.pointer (some ⟨N, 0, none⟩), .int .i64 t] w fun e w' => e = .returned (.tuple #[.agg #[.int .u8 ((getV l t).1 : Int), .int .i64 (getV l t).2], .bool (hasT l t)]) ∧ Below w.heap.size w w' := by
  have hf : Hid _ := fun o => find_any N B v l t (w.alloc o) (h.alloc o)
  cases hh : hasT l t with
  | false =>
    rw [hh] at hf
    rw [getV_miss hh]
    clear h hh
    generalize ahd l t = p at hf
    go_enter Tryz.func19, Tryz.ntmps19
    go_wp2_with (refine Calls.mono (hf.out _) ?_; rintro e w' ⟨rfl, hB⟩; obtain ⟨r0, r1, q0, q1, hz⟩ := res_cells hB)
    have hT : Below w.heap.size w ((w'.setCell ⟨w.heap.size, 0, none⟩ (.int .u8 0)).setCell ⟨w.heap.size, 1, none⟩ (.int .i64 0)) := ((alloc_below hB).setCell (p := ⟨w.heap.size, 0, none⟩) (by simp) _).setCell (p := ⟨w.heap.size, 1, none⟩) (by simp) _
    refine bodyPost_ret (v := .tuple #[.agg #[.int .u8 0, .int .i64 0], .bool false]) ?_ rfl ⟨rfl, hT⟩
    simp [results, Tryz.results19, go_sem, r0, r1]
  | true =>
    rw [hh] at hf
    obtain ⟨s, hs, ht, hg⟩ := getV_hit h.hr hh
    rw [hg]
    have hlt := (List.getElem?_eq_some_iff.1 hs).1
    have hn := h.hn
    obtain ⟨a, cap, rfl, hcap, hL⟩ := h.row.lin h.hk
    obtain ⟨b, off, rfl, hb, hcc⟩ : ∃ b off, a = some ⟨b, off, none⟩ ∧ b < w.heap.size ∧ ∀ i s, l[i]? = some s → w.cell? ⟨b, off + i * 3, none⟩ = some (.int .i64 s.t) ∧ w.cell? ⟨b, off + i * 3 + 1, none⟩ = some (.int .u8 (s.k : Int)) ∧ w.cell? ⟨b, off + i * 3 + 2, none⟩ = some (.int .i64 s.x) := by
      rcases hL.2 with h0 | h1
      · rw [h0] at hs; simp at hs
      · exact h1
    obtain ⟨_, d2, d3⟩ := hcc _ s hs
    have c0 := h.c0
    have hN := h.hN
    clear h hL hcap hcc hs ht hg hh
    generalize ahd l t = p at *
    generalize l.length = n at *
    have hp0 : (0 : Int) ≤ (p : Int) := by omega
    have hpn : (p : Int) < (n : Int) := by omega
    go_enter Tryz.func19, Tryz.ntmps19
    go_wp2_with fail
    refine Calls.mono (hf.out _) ?_
    rintro e w' ⟨rfl, hB⟩
    obtain ⟨r0, r1, q0, q1, hz⟩ := res_cells hB
    have hB' := alloc_below hB
    have c0' := (hB'.cell (p := ⟨N, 0, none⟩) hN).trans c0
    have d2' := (hB'.cell (p := ⟨b, off + p * 3 + 1, none⟩) hb).trans d2
    have d3' := (hB'.cell (p := ⟨b, off + p * 3 + 2, none⟩) hb).trans d3
    clear d2 d3 c0 hf hB
    go_wp2_with fail
    have hT : Below w.heap.size w ((w'.setCell ⟨w.heap.size, 0, none⟩ (.int .u8 (s.k : Int))).setCell ⟨w.heap.size, 1, none⟩ (.int .i64 s.x)) := (hB'.setCell (p := ⟨w.heap.size, 0, none⟩) (by simp) _).setCell (p := ⟨w.heap.size, 1, none⟩) (by simp) _
    refine bodyPost_ret (v := .tuple #[.agg #[.int .u8 (s.k : Int), .int .i64 s.x], .bool true]) ?_ rfl ⟨rfl, hT⟩
    simp [results, Tryz.results19, go_sem, r0, r1]
end Go.Proofs.YticgapplpfaigaaGreat
