
import Derived.Test.YticgapplpfaigaaGreatSrH
namespace Go.Proofs.YticgapplpfaigaaGreat
open Go.RowKit
set_option linter.unusedVariables false
set_option linter.unusedSimpArgs false
theorem own_keep {w w' : World} {B n : Nat} {v : Value} {xs : List Value} (h : w.ownsRow B 89 3 v n xs) (hk : ∀ g, v.ownBlock = some g → w'.heap[g]? = w.heap[g]?) : w'.ownsRow B 89 3 v n xs := by
  refine ⟨h.1, ?_⟩
  rcases h.2 with h2 | ⟨g, cap, cur, e1, e2, e3, e4⟩
  · exact Or.inl h2
  · exact Or.inr ⟨g, cap, cur, e1, e2, by rw [hk g (by rw [e1]; rfl)]; exact e3, e4⟩
set_option maxRecDepth 100000 in
set_option maxHeartbeats 4000000 in
theorem delete_any (N B : Nat) (v : Value) (l : List Smp) (w : World) (h : SS N B v l w) (f t : Int) :
    Calls Tryz.prog 8 #[.pointer (some ⟨N, 0, none⟩), .int .i64 f, .int .i64 t] w fun e w' => ∃ r v', e = .returned r ∧ w'.ownsRow w.heap.size 89 3 r (rangeL l f t).length (encL (rangeL l f t)) ∧ SS N B v' (delL l f t) w' ∧ SFr N v v' w w' ∧ (∀ k, r.ownBlock = some k → v'.ownBlock ≠ some k) := by
  have h1 : Hid _ := range_any N B v l w h f t
  have h2 : Hid (∀ W, SS N B v l W → _) := fun W hW => between_any N B v l W hW f t
  have hH : Hid _ := h
  have hok : Hid (∀ s ∈ rangeL l f t, s.ok) := fun s hs => h.hk s ((rangeL_mem h.hr f t s).1 hs).1
  clear h
  go_enter Tryz.func8, Tryz.ntmps8
  go_wp2_with fail
  refine Calls.mono h1.out ?_
  rintro e w2 ⟨r, rfl, ho, hB2⟩
  obtain ⟨ra, rc, rfl, hrc, hrL⟩ := OR.lin (Or.inl ho) hok.out
  have hoH : Hid (World.ownsRow _ _ _ _ _ _ _) := ho
  have hS2 : Hid _ := hH.out.below hB2
  clear ho h1 hrL hrc
  rcases Nat.eq_zero_or_pos (rangeL l f t).length with hz | hz
  · rw [hz]
    go_wp2_with fail
    go_ret
    refine ⟨_, v, rfl, ?_, ?_, SFr.of hB2, fun k hk hv => ?_⟩
    · have := hoH.out; rw [hz] at this ⊢; exact this
    · rw [delL_none f t hz]; exact hS2.out
    · have a1 := (hoH.out.lt k (by simpa [hz] using hk)).1
      have a2 := hH.out.row.lt hv
      omega
  · have hl1 := ahd_le l f
    have hl2 := ahd_le l t
    have hpe : ahd l f < Nat.max (ahd l f) (ahd l t) := by
      unfold rangeL at hz
      rw [List.length_take, List.length_drop] at hz
      omega
    have hel : Nat.max (ahd l f) (ahd l t) ≤ l.length := Nat.max_le.2 ⟨hl1, hl2⟩
    have h3 : Hid (∀ W, SS N B v l W → Calls Tryz.prog 21 #[.pointer (some ⟨N, 0, none⟩), .int .i64 (ahd l f : Int), .int .i64 (Nat.max (ahd l f) (ahd l t) : Nat)] W fun e w' => e = .returned undef ∧ ∃ v', SS N B v' (l.take (ahd l f) ++ l.drop (Nat.max (ahd l f) (ahd l t))) w' ∧ SFr N v v' W w') := fun W hW => drop_any N B v l W hW (ahd l f) (Nat.max (ahd l f) (ahd l t)) hpe hel
    have h2' : Hid (Calls Tryz.prog 22 #[.pointer (some ⟨N, 0, none⟩), .int .i64 f, .int .i64 t] w2.drew fun e w' => e = .returned (.tuple #[.int .i64 (ahd l f : Int), .int .i64 (Nat.max (ahd l f) (ahd l t) : Nat)]) ∧ Below w2.heap.size w2.drew w') := h2.out w2.drew (hS2.out.below ((Below.refl _ _).drew))
    have hdl : Hid (delL l f t = l.take (ahd l f) ++ l.drop (Nat.max (ahd l f) (ahd l t))) := rfl
    clear h2 hl1 hl2 hpe hel
    generalize ahd l f = p at *
    generalize Nat.max p (ahd l t) = e at *
    generalize hzn : (rangeL l f t).length = n at *
    have hznH : Hid ((rangeL l f t).length = n) := hzn
    clear hzn
    have hzI : (0 : Int) < (n : Int) := by omega
    go_wp2_with fail
    have S5 : True := trivial
    go_region_held3 (fun _ => True) (first | trivial)
      (first
        | (go_at_call 22; (with_reducible refine Calls.mono h2'.out ?_); rintro e3 w3 ⟨rfl, hB3⟩)
        | (go_at_call 21; (with_reducible refine Calls.mono (h3.out _ (hS2.out.below (((Below.refl _ _).drew).trans hB3))) ?_); rintro e4 w4 ⟨rfl, v', hS4, hF4⟩))
    have hB23 : Below w2.heap.size w2 w3 := ((Below.refl _ _).drew).trans hB3
    have hF24 : SFr N v v' w2 w4 := (SFr.of hB23).trans hF4
    have hFH : Hid _ := hF24
    have hSH : Hid _ := hS4
    clear hF4 hS4 hF24 h2' h3
    go_wp2_with fail
    go_ret
    have hvl : ∀ k, v.ownBlock = some k → k < w.heap.size := fun k hv => hH.out.row.lt hv
    refine ⟨_, v', rfl, ?_, ?_, (SFr.of hB2).trans hFH.out, fun k hk hv => ?_⟩
    · have ho := hoH.out
      rw [hznH.out]
      show w4.ownsRow _ _ _ (.slice ra n rc) n _
      refine own_keep ho (fun g hg => ?_)
      have a1 := ho.lt g hg
      exact hFH.out.keep g a1.2 (by have := hH.out.hN; omega) (fun e => by have := hvl g e.symm; omega)
    · rw [hdl.out]; exact hSH.out
    · have a1 := hoH.out.lt k hk
      rcases hFH.out.own with e1 | ⟨k', e1, hk'⟩
      · rw [e1] at hv; have := hvl k hv; omega
      · rw [e1] at hv; injection hv with hv; omega
/-- without the one of a time. -/
def cutL (l : List Smp) (t : Int) : List Smp := if hasT l t = true then l.take (ahd l t) ++ l.drop (ahd l t + 1) else l
theorem cutL_mem {l : List Smp} (h : Rise l) (t : Int) (x : Smp) : x ∈ cutL l t ↔ x ∈ l ∧ x.t ≠ t := by
  unfold cutL
  split
  · rename_i hh
    obtain ⟨y, hy, hyt⟩ := (hasT_iff h t).1 hh
    rw [List.mem_append]
    constructor
    · rintro (hx | hx)
      · obtain ⟨j, hj⟩ := List.getElem?_of_mem hx
        rw [List.getElem?_take] at hj
        split at hj
        · rename_i hlt
          have := (ahd_iff h t hj).1 hlt
          exact ⟨List.mem_of_getElem? hj, by omega⟩
        · cases hj
      · obtain ⟨j, hj⟩ := List.getElem?_of_mem hx
        rw [List.getElem?_drop] at hj
        have := h.lt (by omega) hy hj
        exact ⟨List.mem_of_getElem? hj, by omega⟩
    · rintro ⟨hx, hne⟩
      obtain ⟨j, hj⟩ := List.getElem?_of_mem hx
      rcases Nat.lt_trichotomy j (ahd l t) with hlt | he | hgt
      · refine Or.inl (List.mem_of_getElem? (i := j) ?_)
        rw [List.getElem?_take, if_pos hlt]; exact hj
      · subst he; rw [hy] at hj; cases hj; exact absurd hyt hne
      · refine Or.inr (List.mem_of_getElem? (i := j - (ahd l t + 1)) ?_)
        rw [List.getElem?_drop, show ahd l t + 1 + (j - (ahd l t + 1)) = j by omega]; exact hj
  · rename_i hh
    have hf : hasT l t = false := by simpa using hh
    exact ⟨fun hx => ⟨hx, hasT_false hf x hx⟩, fun hx => hx.1⟩
set_option maxRecDepth 100000 in
set_option maxHeartbeats 4000000 in
theorem cut_any (N B : Nat) (v : Value) (l : List Smp) (w : World) (h : SS N B v l w) (t : Int) :
    Calls Tryz.prog 34 #[.pointer (some ⟨N, 0, none⟩), .int .i64 t] w fun e w' => e = .returned (.tuple #[.agg #[.int .u8 ((getV l t).1 : Int), .int .i64 (getV l t).2], .bool (hasT l t)]) ∧ ∃ v', SS N B v' (cutL l t) w' ∧ SFr N v v' w w' := by
  have h1 : Hid (∀ W, SS N B v l W → _) := fun W hW => get_any N B v l t W hW
  have h2 : Hid (∀ W, SS N B v l W → _) := fun W hW => find_any N B v l t W hW
  have hH : Hid _ := h
  have hN := h.hN
  have hvl : ∀ g, v.ownBlock = some g → g < w.heap.size := fun g e => h.row.lt e
  have hrg : Hid _ := h.hk
  have hrr : Hid _ := h.hr
  clear h
  cases hh : hasT l t with
  | false =>
    rw [hh] at h1
    have hcl : Hid (cutL l t = l) := by show cutL l t = l; unfold cutL; rw [if_neg (by rw [hh]; simp)]
    rw [getV_miss hh] at h1 ⊢
    go_enter Tryz.func34, Tryz.ntmps34
    go_wp2_with fail
    refine Calls.mono (h1.out _ (hH.out.alloc _)) ?_
    rintro e w2 ⟨rfl, hB2⟩
    obtain ⟨r0, r1, q0, q1, hz⟩ := res_cells hB2
    have hB' := alloc_below hB2
    clear hB2 h1
    go_wp2_with fail
    have hT : Below w.heap.size w (((w2.setCell ⟨w.heap.size, 0, none⟩ (.int .u8 0)).setCell ⟨w.heap.size, 1, none⟩ (.int .i64 0)).alloc (.cells #[.int .u8 0, .int .i64 0] 61)) := below_new ((hB'.setCell (p := ⟨w.heap.size, 0, none⟩) (by simp) _).setCell (p := ⟨w.heap.size, 1, none⟩) (by simp) _) _
    refine bodyPost_ret (v := .tuple #[.agg #[.int .u8 0, .int .i64 0], .bool false]) ?_ rfl ⟨rfl, v, ?_, SFr.of hT⟩
    · simp [results, Tryz.results34, go_sem, r0, r1, hz]
    · rw [hcl.out]; exact hH.out.below hT
  | true =>
    rw [hh] at h1 h2
    have hcl : Hid (cutL l t = l.take (ahd l t) ++ l.drop (ahd l t + 1)) := by show cutL l t = _; unfold cutL; rw [if_pos hh]
    obtain ⟨y, hy, hyt, hg⟩ := getV_hit hrr.out hh
    rw [hg] at h1 ⊢
    have hlt := (List.getElem?_eq_some_iff.1 hy).1
    have h3 : Hid (∀ W, SS N B v l W → Calls Tryz.prog 21 #[.pointer (some ⟨N, 0, none⟩), .int .i64 (ahd l t : Int), .int .i64 ((ahd l t : Int) + 1)] W fun e w' => e = .returned undef ∧ ∃ v', SS N B v' (l.take (ahd l t) ++ l.drop (ahd l t + 1)) w' ∧ SFr N v v' W w') := fun W hW => drop_any N B v l W hW (ahd l t) (ahd l t + 1) (by omega) (by omega)
    have hn := hH.out.hn
    clear hy hyt hg hrr hrg
    generalize ahd l t = p at *
    go_enter Tryz.func34, Tryz.ntmps34
    go_wp2_with fail
    refine Calls.mono (h1.out _ (hH.out.alloc _)) ?_
    rintro e w2 ⟨rfl, hB2⟩
    obtain ⟨r0, r1, q0, q1, hz⟩ := res_cells hB2
    have hB' := alloc_below hB2
    have hS2 : Hid _ := hH.out.below hB'
    clear hB2 h1
    go_wp2_with fail
    refine Calls.mono (h2.out _ (hS2.out.alloc _)) ?_
    rintro e w3 ⟨rfl, hB3⟩
    obtain ⟨o0, o1, p0, p1, hz3⟩ := res_cells hB3
    have hB3' := alloc_below hB3
    have hS3 : Hid _ := hS2.out.below hB3'
    have hB03 := hB'.trans (hB3'.mono hB'.size)
    have r0' := (hB3'.cell (p := ⟨w.heap.size, 0, none⟩) hz).trans r0
    have r1' := (hB3'.cell (p := ⟨w.heap.size, 1, none⟩) hz).trans r1
    have q0' := (frozen_block (o := 0) (hB3'.block w.heap.size hz)).trans q0
    have q1' := (frozen_block (o := 1) (hB3'.block w.heap.size hz)).trans q1
    clear hB3 h2 r0 r1 q0 q1
    have hz2 : w.heap.size < w3.heap.size := by omega
    go_wp2_with fail
    refine Calls.mono (h3.out _ hS3.out) ?_
    rintro e w4 ⟨rfl, v', hS4, hF4⟩
    have hk4 : ∀ j, w.heap.size ≤ j → j < w3.heap.size → w4.heap[j]? = w3.heap[j]? := fun j hj hj2 => hF4.keep j hj2 (by omega) (fun e => by have := hvl j e.symm; omega)
    have k1 := hk4 w.heap.size (Nat.le_refl _) hz2
    have k2 := hk4 w2.heap.size (by omega) hz3
    have hr0 : w4.cell? ⟨w.heap.size, 0, none⟩ = some (.int .u8 0) := by rw [World.cell?_of_block (w := w3) k1]; exact r0'
    have hr1 : w4.cell? ⟨w.heap.size, 1, none⟩ = some (.int .i64 0) := by rw [World.cell?_of_block (w := w3) k1]; exact r1'
    have hq0 : w4.frozen? ⟨w.heap.size, 0, none⟩ = false := by rw [frozen_block k1]; exact q0'
    have hq1 : w4.frozen? ⟨w.heap.size, 1, none⟩ = false := by rw [frozen_block k1]; exact q1'
    have ho0 : w4.cell? ⟨w2.heap.size, 0, none⟩ = some (.int .u8 (y.k : Int)) := by rw [World.cell?_of_block (w := w3) k2]; exact o0
    have ho1 : w4.cell? ⟨w2.heap.size, 1, none⟩ = some (.int .i64 y.x) := by rw [World.cell?_of_block (w := w3) k2]; exact o1
    have hSH : Hid _ := hS4
    have hFH : Hid _ := hF4
    clear hS4 hF4 h3 hk4 k1 k2 r0' r1' q0' q1' o0 o1 p0 p1
    go_wp2_with fail
    have hT : Below w.heap.size w4 ((w4.setCell ⟨w.heap.size, 0, none⟩ (.int .u8 (y.k : Int))).setCell ⟨w.heap.size, 1, none⟩ (.int .i64 y.x)) := ((Below.refl _ _).setCell (p := ⟨w.heap.size, 0, none⟩) (by simp) _).setCell (p := ⟨w.heap.size, 1, none⟩) (by simp) _
    refine bodyPost_ret (v := .tuple #[.agg #[.int .u8 (y.k : Int), .int .i64 y.x], .bool true]) ?_ rfl ⟨rfl, v', ?_, ((SFr.of hB03).trans hFH.out).tail hT⟩
    · simp [results, Tryz.results34, go_sem, hr0, hr1]
    · rw [hcl.out]
      refine hSH.out.keepN hT hN (fun g e => ?_)
      rcases hFH.out.own with e2 | ⟨k, e2, hk⟩
      · rw [e2] at e; exact Or.inl (hvl g e)
      · rw [e2] at e; injection e with e; subst e
        exact Or.inr (by rw [heap_setCell_other _ ⟨w.heap.size, 1, none⟩ k _ (by simp; omega), heap_setCell_other _ ⟨w.heap.size, 0, none⟩ k _ (by simp; omega)])
end Go.Proofs.YticgapplpfaigaaGreat
