
import Derived.Test.YticgapplpfaigaaGreatDrA
namespace Go.Proofs.YticgapplpfaigaaGreat
open Go.RowKit
set_option linter.unusedVariables false
set_option linter.unusedSimpArgs false
/-- what a call of the document's Series leaves as it was. -/
structure RFr (N : Nat) (v v' : Value) (w w' : World) : Prop where
  b : Below 0 w w'
  keep : ∀ k, k < w.heap.size → k ≠ N → some k ≠ v.ownBlock → w'.heap[k]? = w.heap[k]?
  own : ∀ k, v'.ownBlock = some k → v.ownBlock = some k ∨ w.heap.size ≤ k
theorem SFr.r {N : Nat} {v v' : Value} {w w' : World} (h : SFr N v v' w w') : RFr N v v' w w' := by
  refine ⟨h.b, h.keep, fun k e => ?_⟩
  rcases h.own with e2 | ⟨j, e2, hj⟩
  · rw [e2] at e; exact Or.inl e
  · rw [e2] at e; injection e with e; exact Or.inr (by omega)
theorem RFr.of {N : Nat} {v : Value} {w w' : World} (h : Below w.heap.size w w') : RFr N v v w w' := (SFr.of h).r
theorem RFr.trans {N : Nat} {v v1 v2 : Value} {w w1 w2 : World} (h : RFr N v v1 w w1) (k : RFr N v1 v2 w1 w2) : RFr N v v2 w w2 := by
  refine ⟨h.b.trans k.b, fun j hj hn ho => ?_, fun j e => ?_⟩
  · rw [k.keep j (Nat.lt_of_lt_of_le hj h.b.size) hn ?_, h.keep j hj hn ho]
    intro e
    rcases h.own j e.symm with e2 | e2
    · exact ho e2.symm
    · omega
  · rcases k.own j e with e2 | e2
    · exact h.own j e2
    · exact Or.inr (Nat.le_trans h.b.size e2)
theorem RFr.below {N B : Nat} {v v' : Value} {l : List Smp} {w w' : World} (h : RFr N v v' w w') (hs : SS N B v l w) : Below B w w' :=
  ⟨h.b.os, h.b.tape, h.b.output, h.b.size, fun k hk => h.keep k (by have := hs.hN; have := hs.hB; omega) (by have := hs.hB; omega) (fun e => by have := hs.row.bound e.symm; omega)⟩
theorem OR.mono {w : World} {B C : Nat} {v : Value} {l : List Smp} (h : OR w B v l) (hc : C ≤ B) : OR w C v l := by
  rcases h with h | ⟨e, g, e2, h1, h2⟩
  · refine Or.inl ⟨h.1, ?_⟩
    rcases h.2 with h2 | ⟨g, cap, cur, e1, e2, e3⟩
    · exact Or.inl h2
    · exact Or.inr ⟨g, cap, cur, e1, by omega, e3⟩
  · exact Or.inr ⟨e, g, e2, by omega, h2⟩
/-- samples appended, or none. -/
theorem app_gen (W : World) (B : Nat) (v : Value) (l f : List Smp) (h : OR W B v l) (hB : B ≤ W.heap.size) (a : Option Addr) (c : Nat) (hk : ∀ s ∈ l, s.ok) (hf : LIn W a f) (hn : l.length + f.length ≤ 4398046511104) :
    ∃ v' w', (Builtin.append_ #[62, 62] 62 #[v, .slice a f.length c]).run Tryz.prog W = .ok v' w' ∧ OR w' B v' (l ++ f) ∧ Below B W w' ∧ (f ≠ [] → ∃ g, v'.ownBlock = some g) := by
  rcases Nat.eq_zero_or_pos f.length with h0 | h0
  · have e := List.eq_nil_of_length_eq_zero h0
    subst e
    obtain ⟨a1, c1, e1, hc1, _⟩ := h.lin hk
    refine ⟨v, W, by rw [e1]; exact app_no _ _ _ _ _ _ hc1, by rw [List.append_nil]; exact h, Below.refl _ _, fun e => absurd rfl e⟩
  · rcases hf.2 with e | ⟨b, off, e, hb, hc⟩
    · rw [e] at h0; simp at h0
    · subst e
      obtain ⟨g, cap, w', hr, own, gr, hat, hlt⟩ := app_row W B v l f h hB ⟨b, off, none⟩ c (LIn.news hf).1 h0 hn
      refine ⟨_, w', hr, Or.inl ?_, (Below.refl B W).grown gr hB (fun k e => h.bound e), fun _ => ⟨g, rfl⟩⟩
      rw [List.length_append]
      exact own
theorem SS.fresh {N B : Nat} {v v2 : Value} {l l2 : List Smp} {w w2 : World} (h : SS N B v l w) (hb : Below w.heap.size w w2) (row : OR w2 w.heap.size v2 l2) (hk : ∀ s ∈ l2, s.ok) (hr : Rise l2) (hn : l2.length ≤ 2199023255552) :
    SS N B v2 l2 (w2.setCell ⟨N, 0, none⟩ v2) ∧ RFr N v v2 w (w2.setCell ⟨N, 0, none⟩ v2) := by
  have hN := h.hN
  have hbd : ∀ k, v2.ownBlock = some k → w.heap.size ≤ k := fun k e => row.bound e
  have hne : v2.ownBlock ≠ some N := fun e => by have := hbd N e; omega
  refine ⟨⟨?_, ?_, ?_, hne, ?_, h.hB, hk, hr, hn⟩, ⟨?_, fun k hk hn2 _ => ?_, fun k e => Or.inr (hbd k e)⟩⟩
  · exact World.cell?_setCell_same w2 ⟨N, 0, none⟩ v2 ((hb.cell (p := ⟨N, 0, none⟩) hN).trans h.c0)
  · rw [World.frozen?_setCell, frozen_block (hb.block N hN)]; exact h.f0
  · exact (row.mono (by have := h.hB; omega)).keep (by simp) (fun g e => Below.heap_setCell w2 ⟨N, 0, none⟩ v2 g (fun e2 => hne (by rw [e, e2])))
  · have := hb.size; simp; omega
  · exact (hb.mono (Nat.zero_le _)).setCell (p := ⟨N, 0, none⟩) (Nat.zero_le _) v2
  · rw [Below.heap_setCell w2 ⟨N, 0, none⟩ v2 k hn2]; exact hb.block k hk
theorem LIn.take {w : World} {a : Option Addr} {l : List Smp} (h : LIn w a l) (n : Nat) : LIn w a (l.take n) := by
  refine ⟨fun s hs => h.1 s (List.mem_of_mem_take hs), ?_⟩
  rcases h.2 with e | ⟨b, off, e, hb, hc⟩
  · left; rw [e]; simp
  · refine Or.inr ⟨b, off, e, hb, fun i s hs => ?_⟩
    rw [List.getElem?_take] at hs
    split at hs
    · exact hc i s hs
    · cases hs
theorem LIn.drop {w : World} {b off : Nat} {l : List Smp} (h : LIn w (some ⟨b, off, none⟩) l) (n : Nat) : LIn w (some ⟨b, off + n * 3, none⟩) (l.drop n) := by
  refine ⟨fun s hs => h.1 s (List.mem_of_mem_drop hs), ?_⟩
  rcases h.2 with e | ⟨b', off', e, hb, hc⟩
  · left; rw [e]; simp
  · injection e with e; injection e with e1 e2; subst e1 e2
    refine Or.inr ⟨b, off + n * 3, rfl, hb, fun i s hs => ?_⟩
    rw [List.getElem?_drop] at hs
    have := hc (n + i) s hs
    rw [show off + (n + i) * 3 = off + n * 3 + i * 3 by omega] at this
    exact this
theorem OR.lin2 {w : World} {B : Nat} {v : Value} {l : List Smp} (h : OR w B v l) (hk : ∀ s ∈ l, s.ok) : ∃ a cap, v = .slice a l.length cap ∧ l.length ≤ cap ∧ LIn w a l ∧ (a = none ∧ cap = 0 ∨ ∃ g, a = some ⟨g, 0, none⟩) := by
  obtain ⟨a, cap, e, hc, hL⟩ := h.lin hk
  refine ⟨a, cap, e, hc, hL, ?_⟩
  rcases h with h | ⟨_, g, e2, _⟩
  · rcases h.2 with ⟨e2, e0⟩ | ⟨g, c2, cur, e1, _⟩
    · rw [e] at e2; injection e2 with e3 e4 e5; exact Or.inl ⟨e3, e5⟩
    · rw [e] at e1; injection e1 with e3 e4 e5; exact Or.inr ⟨g, e3⟩
  · rw [e] at e2; injection e2 with e3 e4 e5; exact Or.inr ⟨g, e3⟩
theorem RFr.tail {N : Nat} {v v' : Value} {w w1 w2 : World} (h : RFr N v v' w w1) (hb : Below w.heap.size w1 w2) : RFr N v v' w w2 :=
  ⟨h.b.trans (hb.mono (Nat.zero_le _)), fun k hk hn ho => (hb.block k hk).trans (h.keep k hk hn ho), h.own⟩
theorem lin_one (w : World) (s : Smp) (hs : s.ok) : LIn (w.alloc (.cells #[.int .i64 s.t, .int .u8 (s.k : Int), .int .i64 s.x] 89)) (some ⟨w.heap.size, 0, none⟩) [s] := by
  refine ⟨fun y hy => by simp at hy; rw [hy]; exact hs, Or.inr ⟨w.heap.size, 0, rfl, by simp, fun i y hy => ?_⟩⟩
  cases i with
  | zero => simp at hy; subst hy; exact ⟨by simp [go_sem], by simp [go_sem], by simp [go_sem]⟩
  | succ i => simp at hy
theorem put_done {N B R : Nat} {v v5 : Value} {L : List Smp} {w W : World} (h : (SS N B v5 L W ∧ RFr N v v5 w W) ∧ v5.ownBlock ≠ some R) (hN : N ≠ R) (hR : w.heap.size ≤ R) (x y : Value) : SS N B v5 L ((W.setCell ⟨R, 0, none⟩ x).setCell ⟨R, 1, none⟩ y) ∧ RFr N v v5 w ((W.setCell ⟨R, 0, none⟩ x).setCell ⟨R, 1, none⟩ y) :=
  ⟨(h.1.1.other (p := ⟨R, 0, none⟩) hN h.2 x).other (p := ⟨R, 1, none⟩) hN h.2 y, h.1.2.tail (((Below.refl _ W).setCell (p := ⟨R, 0, none⟩) hR x).setCell (p := ⟨R, 1, none⟩) hR y)⟩
theorem mem_drop_at {l : List Smp} {n : Nat} {x : Smp} (h : x ∈ l.drop n) : ∃ i, n ≤ i ∧ l[i]? = some x := by
  obtain ⟨j, hj⟩ := List.getElem?_of_mem h
  rw [List.getElem?_drop] at hj
  exact ⟨n + j, by omega, hj⟩
theorem mem_take_at {l : List Smp} {n : Nat} {x : Smp} (h : x ∈ l.take n) : ∃ i, i < n ∧ l[i]? = some x := by
  obtain ⟨j, hj⟩ := List.getElem?_of_mem h
  rw [List.getElem?_take] at hj
  split at hj
  · exact ⟨j, by assumption, hj⟩
  · cases hj
theorem at_take {l : List Smp} {n i : Nat} {x : Smp} (h : l[i]? = some x) (hi : i < n) : x ∈ l.take n := List.mem_of_getElem? (i := i) (by rw [List.getElem?_take, if_pos hi]; exact h)
theorem at_drop {l : List Smp} {n i : Nat} {x : Smp} (h : l[i]? = some x) (hi : n ≤ i) : x ∈ l.drop n := List.mem_of_getElem? (i := i - n) (by rw [List.getElem?_drop, show n + (i - n) = i by omega]; exact h)
theorem put_ahead {l : List Smp} (h : Rise l) (t : Int) {x : Smp} (hx : x ∈ l.take (ahd l t)) : x.t < t := by
  obtain ⟨i, hi, hx⟩ := mem_take_at hx
  exact (ahd_iff h t hx).1 hi
theorem put_behind {l : List Smp} (h : Rise l) (t : Int) {x : Smp} (hx : x ∈ l.drop (if hasT l t = true then ahd l t + 1 else ahd l t)) : t < x.t := by
  obtain ⟨i, hi, hx⟩ := mem_drop_at hx
  have h1 := ahd_iff h t hx
  cases hh : hasT l t with
  | true =>
    rw [hh, if_pos rfl] at hi
    obtain ⟨y, hy, e⟩ := (hasT_iff h t).1 hh
    have := h.lt (by omega : ahd l t < i) hy hx
    omega
  | false =>
    rw [hh, if_neg (by simp)] at hi
    have h2 := hasT_false hh x (List.mem_of_getElem? hx)
    have h3 : ¬ x.t < t := fun e => by have := h1.2 e; omega
    omega
theorem put_else {l : List Smp} (h : Rise l) (t : Int) {x : Smp} (hx : x ∈ l) (hn : x.t ≠ t) : x ∈ l.take (ahd l t) ∨ x ∈ l.drop (if hasT l t = true then ahd l t + 1 else ahd l t) := by
  obtain ⟨i, hi⟩ := List.getElem?_of_mem hx
  rcases Nat.lt_or_ge i (ahd l t) with h1 | h1
  · exact Or.inl (at_take hi h1)
  · right
    refine at_drop hi ?_
    split
    · rename_i hh
      obtain ⟨y, hy, e⟩ := (hasT_iff h t).1 hh
      rcases Nat.lt_or_ge (ahd l t) i with h2 | h2
      · omega
      · have e2 : i = ahd l t := by omega
        rw [e2, hy] at hi
        injection hi with hi
        rw [← hi] at hn
        exact absurd e hn
    · exact h1
theorem rputL {l : List Smp} (h : Rise l) (s : Smp) : l.take (ahd l s.t) ++ [s] ++ l.drop (if hasT l s.t = true then ahd l s.t + 1 else ahd l s.t) = putL l s := by
  refine rise_eq ?_ (putL_rise h s) (fun x => ?_)
  · unfold Rise
    rw [List.append_assoc, List.pairwise_append]
    refine ⟨List.Pairwise.sublist (List.take_sublist _ _) h, ?_, fun a ha b hb => ?_⟩
    · rw [List.singleton_append, List.pairwise_cons]
      exact ⟨fun b hb => put_behind h s.t hb, List.Pairwise.sublist (List.drop_sublist _ _) h⟩
    · have h1 := put_ahead h s.t ha
      rw [List.singleton_append] at hb
      rcases List.mem_cons.1 hb with e | e
      · rw [e]; exact h1
      · have := put_behind h s.t e; omega
  · rw [putL_mem h, List.mem_append, List.mem_append, List.mem_singleton]
    constructor
    · rintro ((e | e) | e)
      · exact Or.inr ⟨List.mem_of_mem_take e, by have := put_ahead h s.t e; omega⟩
      · exact Or.inl e
      · exact Or.inr ⟨List.mem_of_mem_drop e, by have := put_behind h s.t e; omega⟩
    · rintro (e | ⟨e1, e2⟩)
      · exact Or.inl (Or.inr e)
      · rcases put_else h s.t e1 e2 with e | e
        · exact Or.inl (Or.inl e)
        · exact Or.inr e
set_option maxRecDepth 100000 in
set_option maxHeartbeats 4000000 in
theorem rput_any (N B : Nat) (v : Value) (l : List Smp) (w : World) (h : SS N B v l w) (s : Smp) (hs : s.ok) (hn : l.length < 2199023255552) :
    Calls Tryz.prog 32 #[.pointer (some ⟨N, 0, none⟩), .int .i64 s.t, .agg #[.int .u8 (s.k : Int), .int .i64 s.x]] w fun e w' => e = .returned (.tuple #[.agg #[.int .u8 ((getV l s.t).1 : Int), .int .i64 (getV l s.t).2], .bool (hasT l s.t)]) ∧ ∃ v', SS N B v' (putL l s) w' ∧ RFr N v v' w w' := by
  have hget : Hid (∀ W, SS N B v l W → Calls Tryz.prog 33 #[.pointer (some ⟨N, 0, none⟩), .int .i64 s.t] W fun e w' => e = .returned (.tuple #[.agg #[.int .u8 ((getV l s.t).1 : Int), .int .i64 (getV l s.t).2], .bool (hasT l s.t)]) ∧ Below W.heap.size W w') := fun W hW => rget_any N B v l s.t W hW
  have hahd : Hid (∀ W, SS N B v l W → Calls Tryz.prog 77 #[.pointer (some ⟨N, 0, none⟩), .int .i64 s.t] W fun e w' => e = .returned (.int .i64 (ahd l s.t : Int)) ∧ Below W.heap.size W w') := fun W hW => rahead_any N B v l s.t W hW
  have hH : Hid (SS N B v l w) := h
  clear h
  go_enter Tryz.func32, Tryz.ntmps32
  go_wp2_with fail
  refine Calls.mono (hget.out _ ((hH.out.alloc _).alloc _)) ?_
  rintro e w1 ⟨rfl, hB1⟩
  have hS1 : Hid (SS N B v l w1) := ((hH.out.alloc _).alloc _).below hB1
  have hB01 := alloc_below2 hB1
  obtain ⟨gv, hgv⟩ : ∃ g, g = getV l s.t := ⟨_, rfl⟩
  have hgvH : Hid (gv = getV l s.t) := hgv
  rw [← hgv]
  rw [← hgv] at hget
  clear hgv
  go_wp2_with fail
  refine Calls.mono (hahd.out _ (hS1.out.alloc _)) ?_
  rintro e w2 ⟨rfl, hB2⟩
  have hS2 : Hid (SS N B v l w2) := (hS1.out.alloc _).below hB2
  have hB12 := alloc_below hB2
  have hB02 : Below w.heap.size w w2 := hB01.trans (hB12.mono hB01.size)
  obtain ⟨p0, p1, r0, r1, z0, z1, hz⟩ := res_cells2 hB1
  obtain ⟨o0, o1, y0, y1, hy⟩ := res_cells hB2
  have hql := ahd_le l s.t
  obtain ⟨a, cap, hv, hcap, hL, hform⟩ := hS2.out.row.lin2 hS2.out.hk
  have hLH : Hid (LIn w2 a l) := hL
  have c0 := hS2.out.c0
  rw [hv] at c0
  obtain ⟨q, hq⟩ : ∃ q, q = ahd l s.t := ⟨_, rfl⟩
  have hqH : Hid (q = ahd l s.t) := hq
  rw [← hq] at hql ⊢
  obtain ⟨n, hnl⟩ : ∃ n, n = l.length := ⟨_, rfl⟩
  have hnH : Hid (n = l.length) := hnl
  rw [← hnl] at hql hn c0 hcap
  obtain ⟨v3, w3, hr3, hO3, hB3, _⟩ := app_gen w2 w2.heap.size (.slice none 0 0) [] (l.take q) (Or.inl (World.ownsRow_nil _ _ _ _)) (Nat.le_refl _) a cap (by simp) (hL.take q) (by simp; omega)
  rw [List.length_take, ← hnl, Nat.min_eq_left hql] at hr3
  rw [List.nil_append] at hO3
  have hr3H : Hid (∀ W, W = w2 → (Builtin.append_ #[62, 62] 62 #[.slice none 0 0, .slice a q cap]).run Tryz.prog W = .ok v3 w3) := fun W e => by rw [e]; exact hr3
  clear hr3 hq hnl hL hB1 hB2 hget hahd hS1 hB01
  have q0 : (0 : Int) ≤ (q : Int) := by omega
  have hqI : (q : Int) ≤ (n : Int) := by omega
  have hqc : (q : Int) ≤ (cap : Int) := by omega
  have hO3' : Hid (OR w3 w2.heap.size v3 (l.take q)) := hO3
  have hB3H : Hid (Below w2.heap.size w2 w3) := hB3
  have hin1 : w.heap.size + 1 < w2.heap.size := by omega
  have k3 : ∀ p : Addr, p.block < w2.heap.size → w3.cell? p = w2.cell? p := fun p hp => hB3.cell hp
  have hb12 : Hid (Below w1.heap.size w1 w2) := hB12
  have p0' : w3.cell? ⟨w.heap.size, 0, none⟩ = some (.int .u8 (s.k : Int)) := ((k3 _ (by simp; omega)).trans (hB12.cell (p := ⟨w.heap.size, 0, none⟩) (by simp; omega))).trans p0
  have p1' : w3.cell? ⟨w.heap.size, 1, none⟩ = some (.int .i64 s.x) := ((k3 _ (by simp; omega)).trans (hB12.cell (p := ⟨w.heap.size, 1, none⟩) (by simp; omega))).trans p1
  have R0 : Hid (w2.cell? ⟨w.heap.size + 1, 0, none⟩ = some (.int .u8 0) ∧ w2.cell? ⟨w.heap.size + 1, 1, none⟩ = some (.int .i64 0) ∧ w2.frozen? ⟨w.heap.size + 1, 0, none⟩ = false ∧ w2.frozen? ⟨w.heap.size + 1, 1, none⟩ = false) :=
    ⟨(hB12.cell (p := ⟨w.heap.size + 1, 0, none⟩) (by simp; omega)).trans r0, (hB12.cell (p := ⟨w.heap.size + 1, 1, none⟩) (by simp; omega)).trans r1, (frozen_block (hB12.block _ (by omega))).trans z0, (frozen_block (hB12.block _ (by omega))).trans z1⟩
  have O0 : Hid (w2.cell? ⟨w1.heap.size, 0, none⟩ = some (.int .u8 (gv.1 : Int)) ∧ w2.cell? ⟨w1.heap.size, 1, none⟩ = some (.int .i64 gv.2)) := ⟨o0, o1⟩
  obtain ⟨v4, w4, hr4, hO4, hB4, hg4⟩ := app_gen (w3.alloc (.cells #[.int .i64 s.t, .int .u8 (s.k : Int), .int .i64 s.x] 89)) w2.heap.size v3 (l.take q) [s] (hO3.below ((Below.refl _ w3).alloc (Nat.le_refl _) _) (Nat.le_refl _)) (by have := hB3.size; simp; omega) (some ⟨w3.heap.size, 0, none⟩) 1 (fun y hy => hLH.out.1 y (List.mem_of_mem_take hy)) (lin_one w3 s hs) (by rw [List.length_take]; simp; omega)
  have hr4H : Hid (∀ W, W = w3.alloc (.cells #[.int .i64 s.t, .int .u8 (s.k : Int), .int .i64 s.x] 89) → (Builtin.append_ #[62, 62] 62 #[v3, .slice (some ⟨w3.heap.size, 0, none⟩) 1 1]).run Tryz.prog W = .ok v4 w4) := fun W e => by rw [e]; exact hr4
  have hB24 : Below w2.heap.size w2 w4 := (hB3.alloc hB3.size _).trans hB4
  clear hB3 hO3 hr4 hB4 p0 p1 r0 r1 z0 z1 o0 o1 y0 y1 k3 hg4
  have hN2 := hS2.out.hN
  have c04 : w4.cell? ⟨N, 0, none⟩ = some (.slice a n cap) := (hB24.cell (p := ⟨N, 0, none⟩) hN2).trans c0
  have f04 : w4.frozen? ⟨N, 0, none⟩ = false := (frozen_block (hB24.block N hN2)).trans hS2.out.f0
  have hL4 : Hid (LIn w4 a l) := hLH.out.below hB24 (Nat.le_refl _)
  have hO4H : Hid (OR w4 w2.heap.size v4 (l.take q ++ [s])) := hO4
  have hB24H : Hid (Below w2.heap.size w2 w4) := hB24
  have hfin : Hid (∀ v5 w5 q', q' = (if hasT l s.t = true then q + 1 else q) → OR w5 w2.heap.size v5 (l.take q ++ [s] ++ l.drop q') → Below w2.heap.size w2 w5 → (SS N B v5 (putL l s) (w5.setCell ⟨N, 0, none⟩ v5) ∧ RFr N v v5 w (w5.setCell ⟨N, 0, none⟩ v5)) ∧ v5.ownBlock ≠ some (w.heap.size + 1)) := by
    intro v5 w5 q' hq' hO5 hB5
    subst hq'
    have hbd : v5.ownBlock ≠ some (w.heap.size + 1) := fun e => by have := hO5.bound e; omega
    rw [hqH.out, rputL hS2.out.hr s] at hO5
    have := hS2.out.fresh hB5 hO5 (fun y hy => by
      rcases (putL_mem hS2.out.hr s y).1 hy with e | e
      · rw [e]; exact hs
      · exact hS2.out.hk y e.1) (putL_rise hS2.out.hr s) (by have := putL_len (l := l) s; have := hnH.out; omega)
    exact ⟨⟨this.1, (RFr.of hB02).trans this.2⟩, hbd⟩
  clear hO4 hB24 hB12
  have hO4k : Hid (∀ y ∈ l.take q ++ [s], y.ok) := fun y hy => by
    rcases List.mem_append.1 hy with e | e
    · exact hLH.out.1 y (List.mem_of_mem_take e)
    · simp at e; rw [e]; exact hs
  have hlen4 : Hid ((l.take q ++ [s]).length = q + 1) := by
    show (l.take q ++ [s]).length = q + 1
    rw [List.length_append, List.length_take, ← hnH.out, Nat.min_eq_left hql]; rfl
  have e4 : ∃ a4 c4, v4 = .slice a4 (q + 1) c4 ∧ q + 1 ≤ c4 := by
    obtain ⟨a4, c4, e, hc, _⟩ := hO4H.out.lin hO4k.out
    rw [hlen4.out] at e hc
    exact ⟨a4, c4, e, hc⟩
  obtain ⟨a4, c4, rfl, hc4⟩ := e4
  have happ : Hid (∀ q', q' ≤ n → q' = n ∨ q' < n ∧ ∃ g a5 m5 c5 w5, a = some ⟨g, 0, none⟩ ∧ (Builtin.append_ #[62, 62] 62 #[.slice a4 (q + 1) c4, .slice (some ⟨g, q' * 3, none⟩) (n - q') (cap - q')]).run Tryz.prog w4 = .ok (.slice a5 m5 c5) w5 ∧ OR w5 w2.heap.size (.slice a5 m5 c5) (l.take q ++ [s] ++ l.drop q') ∧ Below w2.heap.size w2 w5) := by
    intro q' hq'
    rcases Nat.lt_or_ge q' n with h | h
    · right
      refine ⟨h, ?_⟩
      rcases hform with ⟨e, e2⟩ | ⟨g, e⟩
      · omega
      · have hL5 := hL4.out
        rw [e] at hL5
        obtain ⟨v5, w5, hr5, hO5, hB5, _⟩ := app_gen w4 w2.heap.size (.slice a4 (q + 1) c4) (l.take q ++ [s]) (l.drop q') hO4H.out hB24H.out.size (some ⟨g, 0 + q' * 3, none⟩) (cap - q') hO4k.out (hL5.drop q') (by rw [hlen4.out, List.length_drop, ← hnH.out]; omega)
        rw [List.length_drop, ← hnH.out, Nat.zero_add] at hr5
        obtain ⟨a5, c5, e5, _⟩ := hO5.lin (fun y hy => by
          rcases List.mem_append.1 hy with e | e
          · exact hO4k.out y e
          · exact hLH.out.1 y (List.mem_of_mem_drop e))
        subst e5
        exact ⟨g, a5, _, c5, w5, e, hr5, hO5, hB24H.out.trans hB5⟩
    · exact Or.inl (by omega)
  have happ0 : Hid (∀ ad c W, W = w4 → (Builtin.append_ #[62, 62] 62 #[.slice a4 (q + 1) c4, .slice ad 0 c]).run Tryz.prog W = .ok (.slice a4 (q + 1) c4) w4) := fun ad c W e => by rw [e]; exact app_no _ _ _ _ _ _ hc4
  have hNw := hH.out.hN
  have n1 : N ≠ w1.heap.size := by omega
  have n2 : N ≠ w.heap.size + 1 := by omega
  have n3 : w1.heap.size ≠ w.heap.size + 1 := by omega
  have hqn2 : hasT l s.t = true → q < n := fun e => by
    obtain ⟨y, hy, _⟩ := (hasT_iff hS2.out.hr s.t).1 e
    have := (List.getElem?_eq_some_iff.1 hy).1
    rw [hqH.out, hnH.out]; exact this
  clear f04
  cases hh : hasT l s.t with
  | false =>
    rw [hh] at hfin
    clear hqn2
    rcases happ.out (q) hql with hqn | ⟨hqn, g, a5, m5, c5, w5, rfl, hr5, hO5, hB25⟩
    · have hf2 : Hid _ := hfin.out _ w4 (q) rfl (by rw [show l.drop (q) = [] by rw [hqn, hnH.out, List.drop_length], List.append_nil]; exact hO4H.out) hB24H.out
      have c05 : w4.cell? ⟨N, 0, none⟩ = some (.slice a n cap) := (hB24H.out.cell (p := ⟨N, 0, none⟩) hN2).trans c0
      have f05 : w4.frozen? ⟨N, 0, none⟩ = false := (frozen_block (hB24H.out.block N hN2)).trans hS2.out.f0
      have O50 : w4.cell? ⟨w1.heap.size, 0, none⟩ = some (.int .u8 (gv.1 : Int)) := (hB24H.out.cell (p := ⟨w1.heap.size, 0, none⟩) (by simpa using hy)).trans O0.out.1
      have O51 : w4.cell? ⟨w1.heap.size, 1, none⟩ = some (.int .i64 gv.2) := (hB24H.out.cell (p := ⟨w1.heap.size, 1, none⟩) (by simpa using hy)).trans O0.out.2
      have R50 : w4.cell? ⟨w.heap.size + 1, 0, none⟩ = some (.int .u8 0) := (hB24H.out.cell (p := ⟨w.heap.size + 1, 0, none⟩) (by simpa using hin1)).trans R0.out.1
      have R51 : w4.cell? ⟨w.heap.size + 1, 1, none⟩ = some (.int .i64 0) := (hB24H.out.cell (p := ⟨w.heap.size + 1, 1, none⟩) (by simpa using hin1)).trans R0.out.2.1
      have F50 : w4.frozen? ⟨w.heap.size + 1, 0, none⟩ = false := (frozen_block (hB24H.out.block _ hin1)).trans R0.out.2.2.1
      have F51 : w4.frozen? ⟨w.heap.size + 1, 1, none⟩ = false := (frozen_block (hB24H.out.block _ hin1)).trans R0.out.2.2.2
      subst hqn
      by_cases hcc : q = cap
      · subst hcc
        go_wp2_with (at_builtin; first | (refine wpList_append_run (by rfl) _ _ _ (by rfl) _ _ _ _ (by rfl) (by rfl) (hr3H.out _ rfl) ?_) | (refine wpList_append_run (by rfl) _ _ _ (by rfl) _ _ _ _ (by rfl) (by rfl) (hr4H.out _ rfl) ?_) | (refine wpList_append_run (by rfl) _ _ _ (by rfl) _ _ _ _ (by rfl) (by rfl) (happ0.out _ _ _ rfl) ?_))
        have hT := put_done hf2.out n2 (by omega) (.int .u8 (gv.1 : Int)) (.int .i64 gv.2)
        refine bodyPost_ret (v := .tuple #[.agg #[.int .u8 (gv.1 : Int), .int .i64 gv.2], .bool false]) ?_ rfl ⟨by rw [hgvH.out, hh], _, hT.1, hT.2⟩
        simp [results, Tryz.results32, go_sem, R50, R51, n2, n2.symm]
      · have hcl : ((q : Nat) : Int) < (cap : Int) := by omega
        go_wp2_with (at_builtin; first | (refine wpList_append_run (by rfl) _ _ _ (by rfl) _ _ _ _ (by rfl) (by rfl) (hr3H.out _ rfl) ?_) | (refine wpList_append_run (by rfl) _ _ _ (by rfl) _ _ _ _ (by rfl) (by rfl) (hr4H.out _ rfl) ?_) | (refine wpList_append_run (by rfl) _ _ _ (by rfl) _ _ _ _ (by rfl) (by rfl) (happ0.out _ _ _ rfl) ?_))
        have hT := put_done hf2.out n2 (by omega) (.int .u8 (gv.1 : Int)) (.int .i64 gv.2)
        refine bodyPost_ret (v := .tuple #[.agg #[.int .u8 (gv.1 : Int), .int .i64 gv.2], .bool false]) ?_ rfl ⟨by rw [hgvH.out, hh], _, hT.1, hT.2⟩
        simp [results, Tryz.results32, go_sem, R50, R51, n2, n2.symm]
    · have hf2 : Hid _ := hfin.out _ w5 (q) rfl hO5 hB25
      have hr5H : Hid (∀ W, W = w4 → (Builtin.append_ #[62, 62] 62 #[.slice a4 (q + 1) c4, .slice (some ⟨g, (q) * 3, none⟩) (n - (q)) (cap - (q))]).run Tryz.prog W = .ok (.slice a5 m5 c5) w5) := fun W e => by rw [e]; exact hr5
      have hqcI : ((q : Nat) : Int) < (cap : Int) := by omega
      have hqnI : ((q : Nat) : Int) < (n : Int) := by omega
      have c05 : w5.cell? ⟨N, 0, none⟩ = some (.slice (some ⟨g, 0, none⟩) n cap) := (hB25.cell (p := ⟨N, 0, none⟩) hN2).trans c0
      have f05 : w5.frozen? ⟨N, 0, none⟩ = false := (frozen_block (hB25.block N hN2)).trans hS2.out.f0
      have O50 : w5.cell? ⟨w1.heap.size, 0, none⟩ = some (.int .u8 (gv.1 : Int)) := (hB25.cell (p := ⟨w1.heap.size, 0, none⟩) (by simpa using hy)).trans O0.out.1
      have O51 : w5.cell? ⟨w1.heap.size, 1, none⟩ = some (.int .i64 gv.2) := (hB25.cell (p := ⟨w1.heap.size, 1, none⟩) (by simpa using hy)).trans O0.out.2
      have R50 : w5.cell? ⟨w.heap.size + 1, 0, none⟩ = some (.int .u8 0) := (hB25.cell (p := ⟨w.heap.size + 1, 0, none⟩) (by simpa using hin1)).trans R0.out.1
      have R51 : w5.cell? ⟨w.heap.size + 1, 1, none⟩ = some (.int .i64 0) := (hB25.cell (p := ⟨w.heap.size + 1, 1, none⟩) (by simpa using hin1)).trans R0.out.2.1
      have F50 : w5.frozen? ⟨w.heap.size + 1, 0, none⟩ = false := (frozen_block (hB25.block _ hin1)).trans R0.out.2.2.1
      have F51 : w5.frozen? ⟨w.heap.size + 1, 1, none⟩ = false := (frozen_block (hB25.block _ hin1)).trans R0.out.2.2.2
      clear hr5 hO5
      go_wp2_with (at_builtin; first | (refine wpList_append_run (by rfl) _ _ _ (by rfl) _ _ _ _ (by rfl) (by rfl) (hr3H.out _ rfl) ?_) | (refine wpList_append_run (by rfl) _ _ _ (by rfl) _ _ _ _ (by rfl) (by rfl) (hr4H.out _ rfl) ?_) | (refine wpList_append_run (by rfl) _ _ _ (by rfl) _ _ _ _ (by rfl) (by rfl) (hr5H.out _ rfl) ?_))
      have hT := put_done hf2.out n2 (by omega) (.int .u8 (gv.1 : Int)) (.int .i64 gv.2)
      refine bodyPost_ret (v := .tuple #[.agg #[.int .u8 (gv.1 : Int), .int .i64 gv.2], .bool false]) ?_ rfl ⟨by rw [hgvH.out, hh], _, hT.1, hT.2⟩
      simp [results, Tryz.results32, go_sem, R50, R51, n2, n2.symm]
  | true =>
    rw [hh] at hfin
    have hqlt := hqn2 hh
    clear hqn2
    rcases happ.out (q + 1) (by omega) with hqn | ⟨hqn, g, a5, m5, c5, w5, rfl, hr5, hO5, hB25⟩
    · have hf2 : Hid _ := hfin.out _ w4 (q + 1) rfl (by rw [show l.drop (q + 1) = [] by rw [hqn, hnH.out, List.drop_length], List.append_nil]; exact hO4H.out) hB24H.out
      have c05 : w4.cell? ⟨N, 0, none⟩ = some (.slice a n cap) := (hB24H.out.cell (p := ⟨N, 0, none⟩) hN2).trans c0
      have f05 : w4.frozen? ⟨N, 0, none⟩ = false := (frozen_block (hB24H.out.block N hN2)).trans hS2.out.f0
      have O50 : w4.cell? ⟨w1.heap.size, 0, none⟩ = some (.int .u8 (gv.1 : Int)) := (hB24H.out.cell (p := ⟨w1.heap.size, 0, none⟩) (by simpa using hy)).trans O0.out.1
      have O51 : w4.cell? ⟨w1.heap.size, 1, none⟩ = some (.int .i64 gv.2) := (hB24H.out.cell (p := ⟨w1.heap.size, 1, none⟩) (by simpa using hy)).trans O0.out.2
      have R50 : w4.cell? ⟨w.heap.size + 1, 0, none⟩ = some (.int .u8 0) := (hB24H.out.cell (p := ⟨w.heap.size + 1, 0, none⟩) (by simpa using hin1)).trans R0.out.1
      have R51 : w4.cell? ⟨w.heap.size + 1, 1, none⟩ = some (.int .i64 0) := (hB24H.out.cell (p := ⟨w.heap.size + 1, 1, none⟩) (by simpa using hin1)).trans R0.out.2.1
      have F50 : w4.frozen? ⟨w.heap.size + 1, 0, none⟩ = false := (frozen_block (hB24H.out.block _ hin1)).trans R0.out.2.2.1
      have F51 : w4.frozen? ⟨w.heap.size + 1, 1, none⟩ = false := (frozen_block (hB24H.out.block _ hin1)).trans R0.out.2.2.2
      subst hqn
      by_cases hcc : q + 1 = cap
      · subst hcc
        go_wp2_with (at_builtin; first | (refine wpList_append_run (by rfl) _ _ _ (by rfl) _ _ _ _ (by rfl) (by rfl) (hr3H.out _ rfl) ?_) | (refine wpList_append_run (by rfl) _ _ _ (by rfl) _ _ _ _ (by rfl) (by rfl) (hr4H.out _ rfl) ?_) | (refine wpList_append_run (by rfl) _ _ _ (by rfl) _ _ _ _ (by rfl) (by rfl) (happ0.out _ _ _ rfl) ?_))
        have hT := put_done hf2.out n2 (by omega) (.int .u8 (gv.1 : Int)) (.int .i64 gv.2)
        refine bodyPost_ret (v := .tuple #[.agg #[.int .u8 (gv.1 : Int), .int .i64 gv.2], .bool true]) ?_ rfl ⟨by rw [hgvH.out, hh], _, hT.1, hT.2⟩
        simp [results, Tryz.results32, go_sem, R50, R51, n2, n2.symm]
      · have hcl : ((q : Int) + 1) < (cap : Int) := by omega
        go_wp2_with (at_builtin; first | (refine wpList_append_run (by rfl) _ _ _ (by rfl) _ _ _ _ (by rfl) (by rfl) (hr3H.out _ rfl) ?_) | (refine wpList_append_run (by rfl) _ _ _ (by rfl) _ _ _ _ (by rfl) (by rfl) (hr4H.out _ rfl) ?_) | (refine wpList_append_run (by rfl) _ _ _ (by rfl) _ _ _ _ (by rfl) (by rfl) (happ0.out _ _ _ rfl) ?_))
        have hT := put_done hf2.out n2 (by omega) (.int .u8 (gv.1 : Int)) (.int .i64 gv.2)
        refine bodyPost_ret (v := .tuple #[.agg #[.int .u8 (gv.1 : Int), .int .i64 gv.2], .bool true]) ?_ rfl ⟨by rw [hgvH.out, hh], _, hT.1, hT.2⟩
        simp [results, Tryz.results32, go_sem, R50, R51, n2, n2.symm]
    · have hf2 : Hid _ := hfin.out _ w5 (q + 1) rfl hO5 hB25
      have hr5H : Hid (∀ W, W = w4 → (Builtin.append_ #[62, 62] 62 #[.slice a4 (q + 1) c4, .slice (some ⟨g, (q + 1) * 3, none⟩) (n - (q + 1)) (cap - (q + 1))]).run Tryz.prog W = .ok (.slice a5 m5 c5) w5) := fun W e => by rw [e]; exact hr5
      have hqcI : ((q : Int) + 1) < (cap : Int) := by omega
      have hqnI : ((q : Int) + 1) < (n : Int) := by omega
      have c05 : w5.cell? ⟨N, 0, none⟩ = some (.slice (some ⟨g, 0, none⟩) n cap) := (hB25.cell (p := ⟨N, 0, none⟩) hN2).trans c0
      have f05 : w5.frozen? ⟨N, 0, none⟩ = false := (frozen_block (hB25.block N hN2)).trans hS2.out.f0
      have O50 : w5.cell? ⟨w1.heap.size, 0, none⟩ = some (.int .u8 (gv.1 : Int)) := (hB25.cell (p := ⟨w1.heap.size, 0, none⟩) (by simpa using hy)).trans O0.out.1
      have O51 : w5.cell? ⟨w1.heap.size, 1, none⟩ = some (.int .i64 gv.2) := (hB25.cell (p := ⟨w1.heap.size, 1, none⟩) (by simpa using hy)).trans O0.out.2
      have R50 : w5.cell? ⟨w.heap.size + 1, 0, none⟩ = some (.int .u8 0) := (hB25.cell (p := ⟨w.heap.size + 1, 0, none⟩) (by simpa using hin1)).trans R0.out.1
      have R51 : w5.cell? ⟨w.heap.size + 1, 1, none⟩ = some (.int .i64 0) := (hB25.cell (p := ⟨w.heap.size + 1, 1, none⟩) (by simpa using hin1)).trans R0.out.2.1
      have F50 : w5.frozen? ⟨w.heap.size + 1, 0, none⟩ = false := (frozen_block (hB25.block _ hin1)).trans R0.out.2.2.1
      have F51 : w5.frozen? ⟨w.heap.size + 1, 1, none⟩ = false := (frozen_block (hB25.block _ hin1)).trans R0.out.2.2.2
      clear hr5 hO5
      go_wp2_with (at_builtin; first | (refine wpList_append_run (by rfl) _ _ _ (by rfl) _ _ _ _ (by rfl) (by rfl) (hr3H.out _ rfl) ?_) | (refine wpList_append_run (by rfl) _ _ _ (by rfl) _ _ _ _ (by rfl) (by rfl) (hr4H.out _ rfl) ?_) | (refine wpList_append_run (by rfl) _ _ _ (by rfl) _ _ _ _ (by rfl) (by rfl) (hr5H.out _ rfl) ?_))
      have hT := put_done hf2.out n2 (by omega) (.int .u8 (gv.1 : Int)) (.int .i64 gv.2)
      refine bodyPost_ret (v := .tuple #[.agg #[.int .u8 (gv.1 : Int), .int .i64 gv.2], .bool true]) ?_ rfl ⟨by rw [hgvH.out, hh], _, hT.1, hT.2⟩
      simp [results, Tryz.results32, go_sem, R50, R51, n2, n2.symm]
end Go.Proofs.YticgapplpfaigaaGreat
