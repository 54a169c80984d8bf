
import Derived.Test.YticgapplpfaigaaGreatSrE
namespace Go.Proofs.YticgapplpfaigaaGreat
open Go.RowKit
set_option linter.unusedVariables false
set_option linter.unusedSimpArgs false
/-- a sample laid at its time. -/
def putL (l : List Smp) (s : Smp) : List Smp := if hasT l s.t = true then l.set (ahd l s.t) s else layL l [s]
theorem hasT_false {l : List Smp} {t : Int} (h : hasT l t = false) : ∀ y ∈ l, y.t ≠ t := by
  intro y hy e
  unfold hasT at h
  rw [List.any_eq_false] at h
  have := h y hy
  simp at this; exact this e
theorem hasT_mem {l : List Smp} {t : Int} : hasT l t = true ↔ ∃ y ∈ l, y.t = t := by
  unfold hasT
  rw [List.any_eq_true]
  simp
theorem Rise.inj {l : List Smp} (h : Rise l) {x y : Smp} (hx : x ∈ l) (hy : y ∈ l) (e : x.t = y.t) : x = y := by
  obtain ⟨i, hi⟩ := List.getElem?_of_mem hx
  obtain ⟨j, hj⟩ := List.getElem?_of_mem hy
  rcases Nat.lt_trichotomy i j with h1 | h1 | h1
  · have := h.lt h1 hi hj; omega
  · subst h1; rw [hi] at hj; exact Option.some.inj hj
  · have := h.lt h1 hj hi; omega
theorem putL_mem {l : List Smp} (h : Rise l) (s : Smp) (x : Smp) : x ∈ putL l s ↔ x = s ∨ (x ∈ l ∧ x.t ≠ s.t) := by
  unfold putL
  split
  · rename_i hh
    obtain ⟨y, hy, ht⟩ := (hasT_iff h s.t).1 hh
    have hlt := (List.getElem?_eq_some_iff.1 hy).1
    constructor
    · intro hx
      obtain ⟨j, hj⟩ := List.getElem?_of_mem hx
      rw [List.getElem?_set] at hj
      split at hj
      · first | (rw [if_pos hlt] at hj; exact Or.inl (Option.some.inj hj).symm) | exact Or.inl (Option.some.inj hj).symm
      · rename_i hne
        refine Or.inr ⟨List.mem_of_getElem? hj, fun e => ?_⟩
        have := h.inj (List.mem_of_getElem? hj) (List.mem_of_getElem? hy) (by omega)
        subst this
        rcases Nat.lt_trichotomy j (ahd l s.t) with h1 | h1 | h1
        · have := h.lt h1 hj hy; omega
        · exact hne h1.symm
        · have := h.lt h1 hy hj; omega
    · rintro (rfl | ⟨hx, hne⟩)
      · exact List.mem_set hlt _
      · obtain ⟨j, hj⟩ := List.getElem?_of_mem hx
        refine List.mem_of_getElem? (i := j) ?_
        rw [List.getElem?_set]
        split
        · rename_i e; subst e; rw [hy] at hj; cases hj; exact absurd ht hne
        · exact hj
  · rename_i hh
    have hf : hasT l s.t = false := by simpa using hh
    unfold layL
    rw [layR_mem]
    simp
    constructor
    · rintro (hx | rfl)
      · exact Or.inr ⟨hx, hasT_false hf x hx⟩
      · exact Or.inl rfl
    · rintro (rfl | ⟨hx, _⟩)
      · exact Or.inr rfl
      · exact Or.inl hx
theorem putL_len {l : List Smp} (s : Smp) : (putL l s).length ≤ l.length + 1 := by
  unfold putL
  split
  · rw [List.length_set]; omega
  · unfold layL; rw [layR_len _ _ _ _ (Nat.le_refl _)]; simp
theorem res_cells2 {w w' : World} {a b c d : Value} {ty ty' : TypeId} (h : Below ((w.alloc (.cells #[a, b] ty)).alloc (.cells #[c, d] ty')).heap.size ((w.alloc (.cells #[a, b] ty)).alloc (.cells #[c, d] ty')) w') : w'.cell? ⟨w.heap.size, 0, none⟩ = some a ∧ w'.cell? ⟨w.heap.size, 1, none⟩ = some b ∧ w'.cell? ⟨w.heap.size + 1, 0, none⟩ = some c ∧ w'.cell? ⟨w.heap.size + 1, 1, none⟩ = some d ∧ w'.frozen? ⟨w.heap.size + 1, 0, none⟩ = false ∧ w'.frozen? ⟨w.heap.size + 1, 1, none⟩ = false ∧ w.heap.size + 1 < w'.heap.size := by
  have hs : ((w.alloc (.cells #[a, b] ty)).alloc (.cells #[c, d] ty')).heap.size = w.heap.size + 2 := by simp
  have hs1 : w.heap.size + 1 = (w.alloc (.cells #[a, b] ty)).heap.size := by simp
  refine ⟨?_, ?_, ?_, ?_, ?_, ?_, by have := h.size; omega⟩
  · rw [h.cell (p := ⟨w.heap.size, 0, none⟩) (by rw [hs]; simp)]; simp [go_sem]
  · rw [h.cell (p := ⟨w.heap.size, 1, none⟩) (by rw [hs]; simp)]; simp [go_sem]
  · rw [h.cell (p := ⟨w.heap.size + 1, 0, none⟩) (by rw [hs]; simp)]; simp [go_sem]
  · rw [h.cell (p := ⟨w.heap.size + 1, 1, none⟩) (by rw [hs]; simp)]; simp [go_sem]
  · rw [frozen_block (h.block (w.heap.size + 1) (by omega))]; rw [hs1]; exact frozen_new _ _ _ _
  · rw [frozen_block (h.block (w.heap.size + 1) (by omega))]; rw [hs1]; exact frozen_new _ _ _ _
theorem SS.keepN {N B M : Nat} {v : Value} {l : List Smp} {w w' : World} (h : SS N B v l w) (hb : Below M w w') (hN : N < M) (hg : ∀ g, v.ownBlock = some g → g < M ∨ w'.heap[g]? = w.heap[g]?) : SS N B v l w' :=
  ⟨by rw [hb.cell (p := ⟨N, 0, none⟩) hN]; exact h.c0, by rw [frozen_block (hb.block N hN)]; exact h.f0, h.row.keep hb.size (fun g e => by
    rcases hg g e with h1 | h1
    · exact hb.block g h1
    · exact h1), h.ne, Nat.lt_of_lt_of_le h.hN hb.size, h.hB, h.hk, h.hr, h.hn⟩
theorem alloc_below2 {w w' : World} {o o' : Obj} (h : Below ((w.alloc o).alloc o').heap.size ((w.alloc o).alloc o') w') : Below w.heap.size w w' := alloc_below (alloc_below h)
set_option maxRecDepth 100000 in
set_option maxHeartbeats 4000000 in
theorem put_any (N B : Nat) (v : Value) (l : List Smp) (w : World) (h : SS N B v l w) (s : Smp) (hs : s.ok) (hn : l.length < 2199023255552) :
    Calls Tryz.prog 18 #[.pointer (some ⟨N, 0, none⟩), .int .i64 s.t, .agg #[.int .u8 (s.k : Int), .int .i64 s.x]] w fun e w' => e = .returned (.tuple #[.agg #[.int .u8 ((getV l s.t).1 : Int), .int .i64 (getV l s.t).2], .bool (hasT l s.t)]) ∧ ∃ v', SS N B v' (putL l s) w' ∧ SFr N v v' w w' := by
  have hf : Hid _ := fun W hW => find_any N B v l s.t W hW
  have hH : Hid _ := h
  cases hh : hasT l s.t with
  | false =>
    rw [hh] at hf
    have hpl : Hid (putL l s = layL l [s]) := by unfold putL; rw [if_neg (by rw [hh]; simp)]; rfl
    rw [getV_miss hh]
    have hN := h.hN
    clear h
    generalize ahd l s.t = p at hf
    go_enter Tryz.func18, Tryz.ntmps18
    go_wp2_with fail
    refine Calls.mono (hf.out _ ((hH.out.alloc _).alloc _)) ?_
    rintro e2 w2 ⟨rfl, hB2⟩
    obtain ⟨k0, k1, r0, r1, q0, q1, hz⟩ := res_cells2 hB2
    have hB' := alloc_below2 hB2
    have hSS2 := hH.out.below hB'
    obtain ⟨W, hW⟩ : ∃ W, W = (w2.alloc (.cells #[.int .i64 s.t, .int .u8 (s.k : Int), .int .i64 s.x] 89)).drew := ⟨_, rfl⟩
    have hBW : Below w2.heap.size w2 W := by rw [hW]; exact ((Below.refl _ _).alloc (Nat.le_refl _) _).drew
    have hlay := lay_any N B v l [s] W (hSS2.below hBW) w2.heap.size 0 1 (by have := hSS2.hN; omega) (by
      intro e
      have := hSS2.row.lt e.symm; omega) ⟨by simpa using hs, Or.inr ⟨w2.heap.size, 0, rfl, by rw [hW]; simp, fun i y hy => by
        cases i with
        | zero => simp at hy; subst hy; rw [hW]; simp [go_sem]
        | succ i => simp at hy⟩⟩ (by simp [Rise]) (by simpa using hasT_false hh) (by simp) (by simp; omega)
    have hvl : ∀ g, v.ownBlock = some g → g < w.heap.size := fun g e => hH.out.row.lt e
    have hlay2 : Hid (Calls Tryz.prog 30 #[.pointer (some ⟨N, 0, none⟩), .slice (some ⟨w2.heap.size, 0, none⟩) 1 1] W fun e w' => e = .returned undef ∧ (w'.cell? ⟨w.heap.size, 0, none⟩ = some (.int .u8 (s.k : Int)) ∧ w'.cell? ⟨w.heap.size, 1, none⟩ = some (.int .i64 s.x)) ∧ ∃ v', SS N B v' (layL l [s]) w' ∧ SFr N v v' w2 w') := Calls.mono hlay (by
      rintro e w' ⟨rfl, v', h1, h2⟩
      have hkb : w'.heap[w.heap.size]? = W.heap[w.heap.size]? := h2.keep _ (by have := hBW.size; omega) (by omega) (fun e => by have := hvl _ e.symm; omega)
      have hkb2 : W.heap[w.heap.size]? = w2.heap[w.heap.size]? := hBW.block _ (by omega)
      exact ⟨rfl, ⟨by rw [World.cell?_of_block (w := w2) (hkb.trans hkb2)]; exact k0, by rw [World.cell?_of_block (w := w2) (hkb.trans hkb2)]; exact k1⟩, v', h1, (SFr.of hBW).trans h2⟩)
    rw [hW] at hlay2
    have S5 : w2.cell? ⟨w.heap.size, 0, none⟩ = some (.int .u8 (s.k : Int)) ∧ w2.cell? ⟨w.heap.size, 1, none⟩ = some (.int .i64 s.x) := ⟨k0, k1⟩
    have hSS2H : Hid _ := hSS2
    clear hB2 hf hlay hBW hW W hSS2
    go_wp2_with fail
    go_region_held3 (fun w' => w'.cell? ⟨w.heap.size, 0, none⟩ = some (.int .u8 (s.k : Int)) ∧ w'.cell? ⟨w.heap.size, 1, none⟩ = some (.int .i64 s.x)) (first | assumption | go_keep)
      (first
        | (go_at_call 30; (with_reducible refine Calls.mono hlay2.out ?_); rintro e w' ⟨rfl, hSk, v', hS', hF'⟩))
    have hkr : w'.heap[w.heap.size + 1]? = w2.heap[w.heap.size + 1]? := hF'.keep _ hz (by omega) (fun e => by have := hvl _ e.symm; omega)
    have r0' : w'.cell? ⟨w.heap.size + 1, 0, none⟩ = some (.int .u8 0) := by rw [World.cell?_of_block (w := w2) hkr]; exact r0
    have r1' : w'.cell? ⟨w.heap.size + 1, 1, none⟩ = some (.int .i64 0) := by rw [World.cell?_of_block (w := w2) hkr]; exact r1
    have q0' : w'.frozen? ⟨w.heap.size + 1, 0, none⟩ = false := by rw [frozen_block hkr]; exact q0
    have q1' : w'.frozen? ⟨w.heap.size + 1, 1, none⟩ = false := by rw [frozen_block hkr]; exact q1
    have hS'H : Hid _ := hS'
    have hF'H : Hid _ := hF'
    clear hS' hF' hlay2 hkr
    go_wp2_with fail
    have hT : Below (w.heap.size + 1) w' ((w'.setCell ⟨w.heap.size + 1, 0, none⟩ (.int .u8 0)).setCell ⟨w.heap.size + 1, 1, none⟩ (.int .i64 0)) := (((Below.refl _ _).setCell (p := ⟨w.heap.size + 1, 0, none⟩) (by simp) _).setCell (p := ⟨w.heap.size + 1, 1, none⟩) (by simp) _)
    refine bodyPost_ret (v := .tuple #[.agg #[.int .u8 0, .int .i64 0], .bool false]) ?_ rfl ⟨rfl, v', ?_, ?_⟩
    · simp [results, Tryz.results18, go_sem, r0', r1']
    · rw [hpl.out]
      refine hS'H.out.keepN hT (by omega) (fun g e => ?_)
      rcases hF'H.out.own with e2 | ⟨k, e2, hk⟩
      · rw [e2] at e; have := hvl g e; exact Or.inl (by omega)
      · rw [e2] at e; injection e with e; subst e
        exact Or.inr (by rw [heap_setCell_other _ ⟨w.heap.size + 1, 1, none⟩ k _ (by simp; omega), heap_setCell_other _ ⟨w.heap.size + 1, 0, none⟩ k _ (by simp; omega)])
    · exact ((SFr.of hB').trans hF'H.out).tail (hT.mono (by omega))
  | true =>
    rw [hh] at hf
    obtain ⟨y, hy, hyt, hg⟩ := getV_hit h.hr hh
    rw [hg]
    have hpl : Hid (putL l s = l.set (ahd l s.t) ⟨y.t, s.k, s.x⟩) := by
      unfold putL; rw [if_pos hh, hyt]; rfl
    have hN := h.hN
    have hvl : ∀ g, v.ownBlock = some g → g < w.heap.size := fun g e => h.row.lt e
    have hch : Hid (∀ W, SS N B v l W → _) := fun W hW => change_any N B v l W hW (ahd l s.t) y hy s.k s.x hs.2.1 hs.2.2
    clear h hy hg hyt
    generalize ahd l s.t = p at hf hch hpl
    go_enter Tryz.func18, Tryz.ntmps18
    go_wp2_with fail
    refine Calls.mono (hf.out _ ((hH.out.alloc _).alloc _)) ?_
    rintro e2 w2 ⟨rfl, hB2⟩
    obtain ⟨k0, k1, r0, r1, q0, q1, hz⟩ := res_cells2 hB2
    have hB' := alloc_below2 hB2
    have hSS2 : Hid _ := hH.out.below hB'
    have hSS2' : Hid _ := hSS2
    have hch2 : Hid (Calls Tryz.prog 29 #[.pointer (some ⟨N, 0, none⟩), .int .i64 (p : Int), .agg #[.int .u8 (s.k : Int), .int .i64 s.x]] w2.drew fun e w' => e = .returned (.agg #[.int .u8 (y.k : Int), .int .i64 y.x]) ∧ (w'.cell? ⟨w.heap.size, 0, none⟩ = some (.int .u8 (s.k : Int)) ∧ w'.cell? ⟨w.heap.size, 1, none⟩ = some (.int .i64 s.x)) ∧ (w'.cell? ⟨w.heap.size + 1, 0, none⟩ = some (.int .u8 0) ∧ w'.cell? ⟨w.heap.size + 1, 1, none⟩ = some (.int .i64 0) ∧ w'.frozen? ⟨w.heap.size + 1, 0, none⟩ = false ∧ w'.frozen? ⟨w.heap.size + 1, 1, none⟩ = false) ∧ SS N B v (l.set p ⟨y.t, s.k, s.x⟩) w' ∧ SFr N v v w2 w') := Calls.mono (hch.out w2.drew (hSS2.out.below ((Below.refl _ _).drew))) (by
      rintro e w' ⟨rfl, h1, h2⟩
      have hkb : ∀ j, w.heap.size ≤ j → j < w2.heap.size → w'.heap[j]? = w2.heap[j]? := fun j hj hj2 => h2.keep _ hj2 (by omega) (fun e => by have := hvl _ e.symm; omega)
      have e0 := hkb w.heap.size (by omega) (by omega)
      have e1 := hkb (w.heap.size + 1) (by omega) hz
      exact ⟨rfl, ⟨by rw [World.cell?_of_block (w := w2) e0]; exact k0, by rw [World.cell?_of_block (w := w2) e0]; exact k1⟩, ⟨by rw [World.cell?_of_block (w := w2) e1]; exact r0, by rw [World.cell?_of_block (w := w2) e1]; exact r1, by rw [frozen_block e1]; exact q0, by rw [frozen_block e1]; exact q1⟩, h1, (SFr.of ((Below.refl _ _).drew)).trans h2⟩)
    have S5 : w2.cell? ⟨w.heap.size, 0, none⟩ = some (.int .u8 (s.k : Int)) ∧ w2.cell? ⟨w.heap.size, 1, none⟩ = some (.int .i64 s.x) := ⟨k0, k1⟩
    clear hB2 hf hch
    go_wp2_with fail
    go_region_held3 (fun w' => w'.cell? ⟨w.heap.size, 0, none⟩ = some (.int .u8 (s.k : Int)) ∧ w'.cell? ⟨w.heap.size, 1, none⟩ = some (.int .i64 s.x)) (first | assumption | go_keep)
      (first
        | (go_at_call 29; (with_reducible refine Calls.mono hch2.out ?_); rintro e w' ⟨rfl, hSk, ⟨r0', r1', q0', q1'⟩, hS', hF'⟩))
    have hS'H : Hid _ := hS'
    have hF'H : Hid _ := hF'
    clear hS' hF' hch2
    go_wp2_with fail
    have hT : Below (w.heap.size + 1) w' ((w'.setCell ⟨w.heap.size + 1, 0, none⟩ (.int .u8 (y.k : Int))).setCell ⟨w.heap.size + 1, 1, none⟩ (.int .i64 y.x)) := (((Below.refl _ _).setCell (p := ⟨w.heap.size + 1, 0, none⟩) (by simp) _).setCell (p := ⟨w.heap.size + 1, 1, none⟩) (by simp) _)
    refine bodyPost_ret (v := .tuple #[.agg #[.int .u8 (y.k : Int), .int .i64 y.x], .bool true]) ?_ rfl ⟨rfl, v, ?_, ?_⟩
    · simp [results, Tryz.results18, go_sem, r0', r1']
    · rw [hpl.out]
      exact hS'H.out.keepN hT (by omega) (fun g e => Or.inl (by have := hvl g e; omega))
    · exact ((SFr.of hB').trans hF'H.out).tail (hT.mono (by omega))
end Go.Proofs.YticgapplpfaigaaGreat
