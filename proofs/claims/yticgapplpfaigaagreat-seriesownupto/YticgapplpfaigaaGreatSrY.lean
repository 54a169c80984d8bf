
import Derived.Test.YticgapplpfaigaaGreatSrS
namespace Go.Proofs.YticgapplpfaigaaGreat
open Go.RowKit
set_option linter.unusedVariables false
set_option linter.unusedSimpArgs false
/-- the sample at a place, as it is told. -/
def numV (l : List Smp) (i : Int) : Smp × Bool := if 0 ≤ i ∧ i < l.length then (l.getD i.toNat ⟨0, 0, 0⟩, true) else (⟨0, 0, 0⟩, false)
set_option maxRecDepth 100000 in
set_option maxHeartbeats 4000000 in
theorem number_any (N B : Nat) (v : Value) (l : List Smp) (i : Int) (w : World) (h : SS N B v l w) : Calls Tryz.prog 86 #[.pointer (some ⟨N, 0, none⟩), .int .i64 i] w fun e w' => e = .returned (.tuple #[.agg #[.int .i64 (numV l i).1.t, .int .u8 ((numV l i).1.k : Int), .int .i64 (numV l i).1.x], .bool (numV l i).2]) ∧ Below w.heap.size w w' := by
  obtain ⟨a, cap, rfl, hcap, hL⟩ := h.row.lin h.hk
  have c0 := h.c0
  have hN := h.hN
  have hn := h.hn
  have hLH : Hid (LIn w a l) := hL
  clear h hL hcap
  unfold numV
  by_cases h1 : i < 0
  · rw [if_neg (by omega)]
    go_enter Tryz.func86, Tryz.ntmps86
    go_wp2_with fail
    refine bodyPost_ret (v := .tuple #[.agg #[.int .i64 0, .int .u8 0, .int .i64 0], .bool false]) ?_ rfl ⟨rfl, ?_⟩
    · simp [results, Tryz.results86, go_sem]
    · first | exact below_new (Below.refl _ _) _ | exact (((below_new (Below.refl _ _) _).setCell (p := ⟨w.heap.size, 0, none⟩) (by simp) _).setCell (p := ⟨w.heap.size, 1, none⟩) (by simp) _).setCell (p := ⟨w.heap.size, 2, none⟩) (by simp) _
  · by_cases h2 : i < l.length
    · rw [if_pos ⟨by omega, h2⟩]
      obtain ⟨j, rfl⟩ : ∃ j : Nat, i = (j : Int) := ⟨i.toNat, by omega⟩
      obtain ⟨b, off, s, rfl, hb, hs, d1, d2, d3⟩ := LIn.at hLH.out (Below.refl _ _) (by omega : j < l.length)
      have es : l.getD (j : Int).toNat ⟨0, 0, 0⟩ = s := by rw [List.getD_eq_getElem?_getD, Int.toNat_natCast, hs]; rfl
      rw [es]
      clear es hs
      have hj0 : (0 : Int) ≤ (j : Int) := by omega
      generalize l.length = n at *
      have hB0 := below_new (Below.refl _ w) (.cells #[.int .i64 0, .int .u8 0, .int .i64 0] 89)
      have c0' := (hB0.cell (p := ⟨N, 0, none⟩) hN).trans c0
      have d1' := (hB0.cell (p := ⟨b, off + j * 3, none⟩) hb).trans d1
      have d2' := (hB0.cell (p := ⟨b, off + j * 3 + 1, none⟩) hb).trans d2
      have d3' := (hB0.cell (p := ⟨b, off + j * 3 + 2, none⟩) hb).trans d3
      go_enter Tryz.func86, Tryz.ntmps86
      go_wp2_with fail
      refine bodyPost_ret (v := .tuple #[.agg #[.int .i64 s.t, .int .u8 (s.k : Int), .int .i64 s.x], .bool true]) ?_ rfl ⟨rfl, ?_⟩
      · simp [results, Tryz.results86, go_sem]
      · first | exact below_new (Below.refl _ _) _ | exact (((below_new (Below.refl _ _) _).setCell (p := ⟨w.heap.size, 0, none⟩) (by simp) _).setCell (p := ⟨w.heap.size, 1, none⟩) (by simp) _).setCell (p := ⟨w.heap.size, 2, none⟩) (by simp) _
    · rw [if_neg (by omega)]
      generalize l.length = n at *
      have hB0 := below_new (Below.refl _ w) (.cells #[.int .i64 0, .int .u8 0, .int .i64 0] 89)
      have c0' := (hB0.cell (p := ⟨N, 0, none⟩) hN).trans c0
      have h1' : 0 ≤ i := by omega
      go_enter Tryz.func86, Tryz.ntmps86
      go_wp2_with fail
      refine bodyPost_ret (v := .tuple #[.agg #[.int .i64 0, .int .u8 0, .int .i64 0], .bool false]) ?_ rfl ⟨rfl, ?_⟩
      · simp [results, Tryz.results86, go_sem]
      · first | exact below_new (Below.refl _ _) _ | exact (((below_new (Below.refl _ _) _).setCell (p := ⟨w.heap.size, 0, none⟩) (by simp) _).setCell (p := ⟨w.heap.size, 1, none⟩) (by simp) _).setCell (p := ⟨w.heap.size, 2, none⟩) (by simp) _
set_option maxRecDepth 100000 in
set_option maxHeartbeats 4000000 in
theorem first_any (N B : Nat) (v : Value) (l : List Smp) (w : World) (h : SS N B v l w) : Calls Tryz.prog 68 #[.pointer (some ⟨N, 0, none⟩)] w fun e w' => e = .returned (.tuple #[.agg #[.int .i64 (numV l (0)).1.t, .int .u8 ((numV l (0)).1.k : Int), .int .i64 (numV l (0)).1.x], .bool (numV l (0)).2]) ∧ Below w.heap.size w w' := by
  have hnum : Hid (∀ W, SS N B v l W → Calls Tryz.prog 86 #[.pointer (some ⟨N, 0, none⟩), .int .i64 (0)] W fun e w' => e = .returned (.tuple #[.agg #[.int .i64 (numV l (0)).1.t, .int .u8 ((numV l (0)).1.k : Int), .int .i64 (numV l (0)).1.x], .bool (numV l (0)).2]) ∧ Below W.heap.size W w') := fun W hW => number_any N B v l (0) W hW
  obtain ⟨a, cap, rfl, hcap, hL⟩ := h.row.lin h.hk
  have hH : Hid (SS N B (.slice a l.length cap) l w) := h
  have c0 := h.c0
  have hN := h.hN
  have hn := h.hn
  have hB0 := below_new (Below.refl _ w) (.cells #[.int .i64 0, .int .u8 0, .int .i64 0] 89)
  have c0' := (hB0.cell (p := ⟨N, 0, none⟩) hN).trans c0
  clear h hL
  generalize numV l (0) = r at *
  go_enter Tryz.func68, Tryz.ntmps68
  go_wp2_with fail
  refine Calls.mono (hnum.out _ (SS.below hH.out hB0)) ?_
  rintro e w2 ⟨rfl, hBB⟩
  obtain ⟨r0, r1, r2, q0, q1, q2, hz⟩ := res_cells3 hBB
  have hB' := alloc_below hBB
  go_wp2_with fail
  have hT : Below w.heap.size w (((w2.setCell ⟨w.heap.size, 0, none⟩ (.int .i64 r.1.t)).setCell ⟨w.heap.size, 1, none⟩ (.int .u8 (r.1.k : Int))).setCell ⟨w.heap.size, 2, none⟩ (.int .i64 r.1.x)) := ((hB'.setCell (p := ⟨w.heap.size, 0, none⟩) (by simp) _).setCell (p := ⟨w.heap.size, 1, none⟩) (by simp) _).setCell (p := ⟨w.heap.size, 2, none⟩) (by simp) _
  refine bodyPost_ret (v := .tuple #[.agg #[.int .i64 r.1.t, .int .u8 (r.1.k : Int), .int .i64 r.1.x], .bool r.2]) ?_ rfl ⟨rfl, hT⟩
  simp [results, Tryz.results68, go_sem, r0, r1, r2, hz]
set_option maxRecDepth 100000 in
set_option maxHeartbeats 4000000 in
theorem last_any (N B : Nat) (v : Value) (l : List Smp) (w : World) (h : SS N B v l w) : Calls Tryz.prog 70 #[.pointer (some ⟨N, 0, none⟩)] w fun e w' => e = .returned (.tuple #[.agg #[.int .i64 (numV l ((l.length : Int) - 1)).1.t, .int .u8 ((numV l ((l.length : Int) - 1)).1.k : Int), .int .i64 (numV l ((l.length : Int) - 1)).1.x], .bool (numV l ((l.length : Int) - 1)).2]) ∧ Below w.heap.size w w' := by
  have hnum : Hid (∀ W, SS N B v l W → Calls Tryz.prog 86 #[.pointer (some ⟨N, 0, none⟩), .int .i64 ((l.length : Int) - 1)] W fun e w' => e = .returned (.tuple #[.agg #[.int .i64 (numV l ((l.length : Int) - 1)).1.t, .int .u8 ((numV l ((l.length : Int) - 1)).1.k : Int), .int .i64 (numV l ((l.length : Int) - 1)).1.x], .bool (numV l ((l.length : Int) - 1)).2]) ∧ Below W.heap.size W w') := fun W hW => number_any N B v l ((l.length : Int) - 1) W hW
  obtain ⟨a, cap, rfl, hcap, hL⟩ := h.row.lin h.hk
  have hH : Hid (SS N B (.slice a l.length cap) l w) := h
  have c0 := h.c0
  have hN := h.hN
  have hn := h.hn
  have hB0 := below_new (Below.refl _ w) (.cells #[.int .i64 0, .int .u8 0, .int .i64 0] 89)
  have c0' := (hB0.cell (p := ⟨N, 0, none⟩) hN).trans c0
  clear h hL
  generalize numV l ((l.length : Int) - 1) = r at *
  go_enter Tryz.func70, Tryz.ntmps70
  go_wp2_with fail
  have hW0 : Hid (SS N B (.slice a l.length cap) l (w.alloc (.cells #[.int .i64 0, .int .u8 0, .int .i64 0] 89)).drew) := SS.below (SS.below hH.out hB0) ((Below.refl _ _).drew)
  have hcall : Hid (Calls Tryz.prog 86 #[.pointer (some ⟨N, 0, none⟩), .int .i64 ((l.length : Int) - 1)] (w.alloc (.cells #[.int .i64 0, .int .u8 0, .int .i64 0] 89)).drew fun e w' => e = .returned (.tuple #[.agg #[.int .i64 r.1.t, .int .u8 (r.1.k : Int), .int .i64 r.1.x], .bool r.2]) ∧ w'.cell? ⟨N, 0, none⟩ = some (.slice a l.length cap) ∧ (w'.cell? ⟨w.heap.size, 0, none⟩ = some (.int .i64 0) ∧ w'.cell? ⟨w.heap.size, 1, none⟩ = some (.int .u8 0) ∧ w'.cell? ⟨w.heap.size, 2, none⟩ = some (.int .i64 0) ∧ w'.frozen? ⟨w.heap.size, 0, none⟩ = false ∧ w'.frozen? ⟨w.heap.size, 1, none⟩ = false ∧ w'.frozen? ⟨w.heap.size, 2, none⟩ = false ∧ w.heap.size < w'.heap.size) ∧ Below w.heap.size w w') := Calls.mono (hnum.out _ hW0.out) (by
    rintro e w' ⟨rfl, hb⟩
    have hb2 : Below (w.alloc (.cells #[.int .i64 0, .int .u8 0, .int .i64 0] 89)).heap.size (w.alloc (.cells #[.int .i64 0, .int .u8 0, .int .i64 0] 89)) w' := ((Below.refl _ _).drew).trans hb
    exact ⟨rfl, (SS.below (SS.below hH.out hB0) hb2).c0, res_cells3 hb2, alloc_below hb2⟩)
  generalize l.length = n at *
  have hwr : IntKind.i64.wrap ((n : Int) - 1) = (n : Int) - 1 := IntWalk.i64_in _ (by omega)
  have S5 := c0'
  have hNe : N ≠ w.heap.size := by omega
  have hNe' : w.heap.size ≠ N := by omega
  clear hnum hW0 hH
  go_wp2_with fail
  go_region_held3 (fun w' => w'.cell? ⟨N, 0, none⟩ = some (.slice a n cap)) (first | assumption | go_keep)
    (first
      | (go_at_call 86; (with_reducible refine Calls.mono hcall.out ?_); rintro e w2 ⟨rfl, hSk, ⟨r0, r1, r2, q0, q1, q2, hz⟩, hB'⟩))
  go_wp2_with fail
  have hT : Below w.heap.size w (((w2.setCell ⟨w.heap.size, 0, none⟩ (.int .i64 r.1.t)).setCell ⟨w.heap.size, 1, none⟩ (.int .u8 (r.1.k : Int))).setCell ⟨w.heap.size, 2, none⟩ (.int .i64 r.1.x)) := ((hB'.setCell (p := ⟨w.heap.size, 0, none⟩) (by simp) _).setCell (p := ⟨w.heap.size, 1, none⟩) (by simp) _).setCell (p := ⟨w.heap.size, 2, none⟩) (by simp) _
  refine bodyPost_ret (v := .tuple #[.agg #[.int .i64 r.1.t, .int .u8 (r.1.k : Int), .int .i64 r.1.x], .bool r.2]) ?_ rfl ⟨rfl, hT⟩
  simp [results, Tryz.results70, go_sem, r0, r1, r2, hz]
set_option maxRecDepth 100000 in
set_option maxHeartbeats 4000000 in
theorem before_any (N B : Nat) (v : Value) (l : List Smp) (t : Int) (w : World) (h : SS N B v l w) : Calls Tryz.prog 73 #[.pointer (some ⟨N, 0, none⟩), .int .i64 t] w fun e w' => e = .returned (.tuple #[.agg #[.int .i64 (numV l ((ahd l t : Int) - 1)).1.t, .int .u8 ((numV l ((ahd l t : Int) - 1)).1.k : Int), .int .i64 (numV l ((ahd l t : Int) - 1)).1.x], .bool (numV l ((ahd l t : Int) - 1)).2]) ∧ Below w.heap.size w w' := by
  have hnum : Hid (∀ W, SS N B v l W → Calls Tryz.prog 86 #[.pointer (some ⟨N, 0, none⟩), .int .i64 ((ahd l t : Int) - 1)] W fun e w' => e = .returned (.tuple #[.agg #[.int .i64 (numV l ((ahd l t : Int) - 1)).1.t, .int .u8 ((numV l ((ahd l t : Int) - 1)).1.k : Int), .int .i64 (numV l ((ahd l t : Int) - 1)).1.x], .bool (numV l ((ahd l t : Int) - 1)).2]) ∧ Below W.heap.size W w') := fun W hW => number_any N B v l ((ahd l t : Int) - 1) W hW
  have hfnd : Hid (∀ W, SS N B v l W → Calls Tryz.prog 28 #[.pointer (some ⟨N, 0, none⟩), .int .i64 t] W fun e w' => e = .returned (.tuple #[.int .i64 (ahd l t : Int), .bool (hasT l t)]) ∧ Below W.heap.size W w') := fun W hW => find_any N B v l t W hW
  have hal := ahd_le l t
  obtain ⟨a, cap, rfl, hcap, hL⟩ := h.row.lin h.hk
  have hH : Hid (SS N B (.slice a l.length cap) l w) := h
  have c0 := h.c0
  have hN := h.hN
  have hn := h.hn
  have hB0 := below_new (Below.refl _ w) (.cells #[.int .i64 0, .int .u8 0, .int .i64 0] 89)
  have c0' := (hB0.cell (p := ⟨N, 0, none⟩) hN).trans c0
  clear h hL
  generalize numV l ((ahd l t : Int) - 1) = r at *
  generalize ahd l t = q at *
  generalize hasT l t = hb at *
  go_enter Tryz.func73, Tryz.ntmps73
  go_wp2_with fail
  refine Calls.mono (hfnd.out _ (SS.below hH.out hB0)) ?_
  rintro e w1 ⟨rfl, hB1⟩
  have hS1 : Hid _ := SS.below (SS.below hH.out hB0) hB1
  go_wp2_with fail
  refine Calls.mono (hnum.out _ hS1.out) ?_
  rintro e w2 ⟨rfl, hB2⟩
  have hBB := hB1.trans (hB2.mono hB1.size)
  obtain ⟨r0, r1, r2, q0, q1, q2, hz⟩ := res_cells3 hBB
  have hB' := alloc_below hBB
  go_wp2_with fail
  have hT : Below w.heap.size w (((w2.setCell ⟨w.heap.size, 0, none⟩ (.int .i64 r.1.t)).setCell ⟨w.heap.size, 1, none⟩ (.int .u8 (r.1.k : Int))).setCell ⟨w.heap.size, 2, none⟩ (.int .i64 r.1.x)) := ((hB'.setCell (p := ⟨w.heap.size, 0, none⟩) (by simp) _).setCell (p := ⟨w.heap.size, 1, none⟩) (by simp) _).setCell (p := ⟨w.heap.size, 2, none⟩) (by simp) _
  refine bodyPost_ret (v := .tuple #[.agg #[.int .i64 r.1.t, .int .u8 (r.1.k : Int), .int .i64 r.1.x], .bool r.2]) ?_ rfl ⟨rfl, hT⟩
  simp [results, Tryz.results73, go_sem, r0, r1, r2, hz]
set_option maxRecDepth 100000 in
set_option maxHeartbeats 4000000 in
theorem behind_any (N B : Nat) (v : Value) (l : List Smp) (t : Int) (w : World) (h : SS N B v l w) : Calls Tryz.prog 75 #[.pointer (some ⟨N, 0, none⟩), .int .i64 t] w fun e w' => e = .returned (.tuple #[.agg #[.int .i64 (numV l ((ahd l t : Int))).1.t, .int .u8 ((numV l ((ahd l t : Int))).1.k : Int), .int .i64 (numV l ((ahd l t : Int))).1.x], .bool (numV l ((ahd l t : Int))).2]) ∧ Below w.heap.size w w' := by
  have hnum : Hid (∀ W, SS N B v l W → Calls Tryz.prog 86 #[.pointer (some ⟨N, 0, none⟩), .int .i64 ((ahd l t : Int))] W fun e w' => e = .returned (.tuple #[.agg #[.int .i64 (numV l ((ahd l t : Int))).1.t, .int .u8 ((numV l ((ahd l t : Int))).1.k : Int), .int .i64 (numV l ((ahd l t : Int))).1.x], .bool (numV l ((ahd l t : Int))).2]) ∧ Below W.heap.size W w') := fun W hW => number_any N B v l ((ahd l t : Int)) W hW
  have hfnd : Hid (∀ W, SS N B v l W → Calls Tryz.prog 28 #[.pointer (some ⟨N, 0, none⟩), .int .i64 t] W fun e w' => e = .returned (.tuple #[.int .i64 (ahd l t : Int), .bool (hasT l t)]) ∧ Below W.heap.size W w') := fun W hW => find_any N B v l t W hW
  have hal := ahd_le l t
  obtain ⟨a, cap, rfl, hcap, hL⟩ := h.row.lin h.hk
  have hH : Hid (SS N B (.slice a l.length cap) l w) := h
  have c0 := h.c0
  have hN := h.hN
  have hn := h.hn
  have hB0 := below_new (Below.refl _ w) (.cells #[.int .i64 0, .int .u8 0, .int .i64 0] 89)
  have c0' := (hB0.cell (p := ⟨N, 0, none⟩) hN).trans c0
  clear h hL
  generalize numV l ((ahd l t : Int)) = r at *
  generalize ahd l t = q at *
  generalize hasT l t = hb at *
  go_enter Tryz.func75, Tryz.ntmps75
  go_wp2_with fail
  refine Calls.mono (hfnd.out _ (SS.below hH.out hB0)) ?_
  rintro e w1 ⟨rfl, hB1⟩
  have hS1 : Hid _ := SS.below (SS.below hH.out hB0) hB1
  go_wp2_with fail
  refine Calls.mono (hnum.out _ hS1.out) ?_
  rintro e w2 ⟨rfl, hB2⟩
  have hBB := hB1.trans (hB2.mono hB1.size)
  obtain ⟨r0, r1, r2, q0, q1, q2, hz⟩ := res_cells3 hBB
  have hB' := alloc_below hBB
  go_wp2_with fail
  have hT : Below w.heap.size w (((w2.setCell ⟨w.heap.size, 0, none⟩ (.int .i64 r.1.t)).setCell ⟨w.heap.size, 1, none⟩ (.int .u8 (r.1.k : Int))).setCell ⟨w.heap.size, 2, none⟩ (.int .i64 r.1.x)) := ((hB'.setCell (p := ⟨w.heap.size, 0, none⟩) (by simp) _).setCell (p := ⟨w.heap.size, 1, none⟩) (by simp) _).setCell (p := ⟨w.heap.size, 2, none⟩) (by simp) _
  refine bodyPost_ret (v := .tuple #[.agg #[.int .i64 r.1.t, .int .u8 (r.1.k : Int), .int .i64 r.1.x], .bool r.2]) ?_ rfl ⟨rfl, hT⟩
  simp [results, Tryz.results75, go_sem, r0, r1, r2, hz]
end Go.Proofs.YticgapplpfaigaaGreat
