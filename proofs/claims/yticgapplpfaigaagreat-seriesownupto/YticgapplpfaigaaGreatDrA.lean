
import Derived.Test.YticgapplpfaigaaGreatWkE
namespace Go.Proofs.YticgapplpfaigaaGreat
open Go.RowKit
set_option linter.unusedVariables false
set_option linter.unusedSimpArgs false
set_option maxRecDepth 100000 in
set_option maxHeartbeats 4000000 in
theorem rnew_any (w : World) : Calls Tryz.prog 6 #[] w fun e w' => e = .returned (.pointer (some ⟨w.heap.size, 0, none⟩)) ∧ SS w.heap.size w.heap.size (.slice none 0 0) [] w' ∧ Below w.heap.size w w' := by
  go_enter Tryz.func6, Tryz.ntmps6
  go_wp2_with fail
  go_ret
  refine ⟨rfl, ⟨by simp [go_sem], frozen_new _ _ _ _, Or.inl (World.ownsRow_nil _ _ _ _), by simp [Value.ownBlock], by simp, Nat.le_refl _, by simp, List.Pairwise.nil, by simp⟩, (Below.refl _ w).alloc (Nat.le_refl _) _⟩
set_option maxRecDepth 100000 in
set_option maxHeartbeats 4000000 in
theorem rlen_any (N B : Nat) (v : Value) (l : List Smp) (w : World) (h : SS N B v l w) : Calls Tryz.prog 72 #[.pointer (some ⟨N, 0, none⟩)] w fun e w' => e = .returned (.int .i64 (l.length : Int)) ∧ w' = w := by
  obtain ⟨a, cap, rfl, hcap, hL⟩ := h.row.lin h.hk
  have c0 := h.c0
  clear h hL hcap
  generalize l.length = n at *
  go_enter Tryz.func72, Tryz.ntmps72
  go_wp2_with fail
  go_ret
  exact ⟨rfl, rfl⟩
set_option maxRecDepth 100000 in
set_option maxHeartbeats 4000000 in
theorem rahead_any (N B : Nat) (v : Value) (l : List Smp) (t : Int) (w : World) (h : SS N B v l w) : Calls Tryz.prog 77 #[.pointer (some ⟨N, 0, none⟩), .int .i64 t] w fun e w' => e = .returned (.int .i64 (ahd l t : Int)) ∧ Below w.heap.size w w' := by
  obtain ⟨a, cap, rfl, hcap, hL⟩ := h.row.lin h.hk
  have c0 := h.c0
  have hN := h.hN
  have hn := h.hn
  have hLH : Hid (LIn w a l) := hL
  have hr : Hid (Rise l) := h.hr
  have hal := ahd_le l t
  have hit : Hid (∀ k s, l[k]? = some s → (k < ahd l t ↔ s.t < t)) := fun k s hs => ahd_iff hr.out t hs
  clear h hL hcap
  obtain ⟨q, hq⟩ : ∃ q, q = ahd l t := ⟨_, rfl⟩
  rw [← hq] at hit hal ⊢
  obtain ⟨n, hnl⟩ : ∃ n, n = l.length := ⟨_, rfl⟩
  have hnH : Hid (n = l.length) := hnl
  rw [← hnl] at hal hn c0
  clear hq hnl
  go_enter Tryz.func77, Tryz.ntmps77
  go_wp2_with fail
  go_loopw [5] (fun i wr => ∃ k : Nat, k ≤ q ∧ i = .int .i64 (k : Int) ∧ Below w.heap.size w wr) (fun i _ => n - (intOf i).toNat)
  case atStart => exact ⟨0, by omega, rfl, Below.refl _ _⟩
  case round =>
    obtain ⟨k, hk, rfl, hB⟩ := hrel
    have c0' := (hB.cell (p := ⟨N, 0, none⟩) hN).trans c0
    have hBd : ∀ q, Below w.heap.size w (wr.drewN q) := fun q => below_drewN hB q
    by_cases hkn : k < n
    · have hkI : (k : Int) < (n : Int) := by omega
      have k1 : (0 : Int) ≤ (k : Int) := by omega
      obtain ⟨b, off, s, rfl, hb, hs, d1, d2, d3⟩ := LIn.at hLH.out hB (by have := hnH.out; omega : k < l.length)
      have hi := hit.out k s hs
      clear hs d2 d3
      generalize s.t = st at *
      by_cases hkq : k < q
      · have hlt : st < t := hi.1 hkq
        clear hi
        go_wp2_with fail
        exact ⟨⟨k + 1, by omega, by go_num, hB⟩, by simp [intOf]; omega⟩
      · have hlt : ¬ st < t := fun e => hkq (hi.2 e)
        obtain rfl : k = q := by omega
        clear hi
        go_wp2_with fail
        go_ret
        exact ⟨rfl, hB⟩
    · obtain rfl : k = q := by omega
      obtain rfl : k = n := by omega
      go_wp2_with fail
      go_ret
      exact ⟨rfl, hB⟩
set_option maxRecDepth 100000 in
set_option maxHeartbeats 4000000 in
theorem rat_any (N B : Nat) (v : Value) (l : List Smp) (i : Int) (w : World) (h : SS N B v l w) : Calls Tryz.prog 87 #[.pointer (some ⟨N, 0, none⟩), .int .i64 i] w fun e w' => e = .returned (.tuple #[.agg #[.int .i64 (numV l i).1.t, .int .u8 ((numV l i).1.k : Int), .int .i64 (numV l i).1.x], .bool (numV l i).2]) ∧ Below w.heap.size w w' := by
  obtain ⟨a, cap, rfl, hcap, hL⟩ := h.row.lin h.hk
  have c0 := h.c0
  have hN := h.hN
  have hn := h.hn
  have hLH : Hid (LIn w a l) := hL
  clear h hL hcap
  unfold numV
  by_cases h1 : i < 0
  · rw [if_neg (by omega)]
    go_enter Tryz.func87, Tryz.ntmps87
    go_wp2_with fail
    refine bodyPost_ret (v := .tuple #[.agg #[.int .i64 0, .int .u8 0, .int .i64 0], .bool false]) ?_ rfl ⟨rfl, ?_⟩
    · simp [results, Tryz.results87, go_sem]
    · first | exact below_new (Below.refl _ _) _ | exact (((below_new (Below.refl _ _) _).setCell (p := ⟨w.heap.size, 0, none⟩) (by simp) _).setCell (p := ⟨w.heap.size, 1, none⟩) (by simp) _).setCell (p := ⟨w.heap.size, 2, none⟩) (by simp) _
  · by_cases h2 : i < l.length
    · rw [if_pos ⟨by omega, h2⟩]
      obtain ⟨j, rfl⟩ : ∃ j : Nat, i = (j : Int) := ⟨i.toNat, by omega⟩
      obtain ⟨b, off, s, rfl, hb, hs, d1, d2, d3⟩ := LIn.at hLH.out (Below.refl _ _) (by omega : j < l.length)
      have es : l.getD (j : Int).toNat ⟨0, 0, 0⟩ = s := by rw [List.getD_eq_getElem?_getD, Int.toNat_natCast, hs]; rfl
      rw [es]
      clear es hs
      have hj0 : (0 : Int) ≤ (j : Int) := by omega
      generalize l.length = n at *
      have hB0 := below_new (Below.refl _ w) (.cells #[.int .i64 0, .int .u8 0, .int .i64 0] 89)
      have c0' := (hB0.cell (p := ⟨N, 0, none⟩) hN).trans c0
      have d1' := (hB0.cell (p := ⟨b, off + j * 3, none⟩) hb).trans d1
      have d2' := (hB0.cell (p := ⟨b, off + j * 3 + 1, none⟩) hb).trans d2
      have d3' := (hB0.cell (p := ⟨b, off + j * 3 + 2, none⟩) hb).trans d3
      go_enter Tryz.func87, Tryz.ntmps87
      go_wp2_with fail
      refine bodyPost_ret (v := .tuple #[.agg #[.int .i64 s.t, .int .u8 (s.k : Int), .int .i64 s.x], .bool true]) ?_ rfl ⟨rfl, ?_⟩
      · simp [results, Tryz.results87, go_sem]
      · first | exact below_new (Below.refl _ _) _ | exact (((below_new (Below.refl _ _) _).setCell (p := ⟨w.heap.size, 0, none⟩) (by simp) _).setCell (p := ⟨w.heap.size, 1, none⟩) (by simp) _).setCell (p := ⟨w.heap.size, 2, none⟩) (by simp) _
    · rw [if_neg (by omega)]
      generalize l.length = n at *
      have hB0 := below_new (Below.refl _ w) (.cells #[.int .i64 0, .int .u8 0, .int .i64 0] 89)
      have c0' := (hB0.cell (p := ⟨N, 0, none⟩) hN).trans c0
      have h1' : 0 ≤ i := by omega
      go_enter Tryz.func87, Tryz.ntmps87
      go_wp2_with fail
      refine bodyPost_ret (v := .tuple #[.agg #[.int .i64 0, .int .u8 0, .int .i64 0], .bool false]) ?_ rfl ⟨rfl, ?_⟩
      · simp [results, Tryz.results87, go_sem]
      · first | exact below_new (Below.refl _ _) _ | exact (((below_new (Below.refl _ _) _).setCell (p := ⟨w.heap.size, 0, none⟩) (by simp) _).setCell (p := ⟨w.heap.size, 1, none⟩) (by simp) _).setCell (p := ⟨w.heap.size, 2, none⟩) (by simp) _
set_option maxRecDepth 100000 in
set_option maxHeartbeats 4000000 in
theorem rfirst_any (N B : Nat) (v : Value) (l : List Smp) (w : World) (h : SS N B v l w) : Calls Tryz.prog 69 #[.pointer (some ⟨N, 0, none⟩)] w fun e w' => e = .returned (.tuple #[.agg #[.int .i64 (numV l (0)).1.t, .int .u8 ((numV l (0)).1.k : Int), .int .i64 (numV l (0)).1.x], .bool (numV l (0)).2]) ∧ Below w.heap.size w w' := by
  have hnum : Hid (∀ W, SS N B v l W → Calls Tryz.prog 87 #[.pointer (some ⟨N, 0, none⟩), .int .i64 (0)] W fun e w' => e = .returned (.tuple #[.agg #[.int .i64 (numV l (0)).1.t, .int .u8 ((numV l (0)).1.k : Int), .int .i64 (numV l (0)).1.x], .bool (numV l (0)).2]) ∧ Below W.heap.size W w') := fun W hW => rat_any N B v l (0) W hW
  have hH : Hid (SS N B v l w) := h
  have hn := h.hn
  have hB0 := below_new (Below.refl _ w) (.cells #[.int .i64 0, .int .u8 0, .int .i64 0] 89)
  clear h
  generalize numV l (0) = r at *
  go_enter Tryz.func69, Tryz.ntmps69
  go_wp2_with fail
  refine Calls.mono (hnum.out _ (SS.below hH.out hB0)) ?_
  rintro e w2 ⟨rfl, hBB⟩
  obtain ⟨r0, r1, r2, q0, q1, q2, hz⟩ := res_cells3 hBB
  have hB' := alloc_below hBB
  go_wp2_with fail
  have hT : Below w.heap.size w (((w2.setCell ⟨w.heap.size, 0, none⟩ (.int .i64 r.1.t)).setCell ⟨w.heap.size, 1, none⟩ (.int .u8 (r.1.k : Int))).setCell ⟨w.heap.size, 2, none⟩ (.int .i64 r.1.x)) := ((hB'.setCell (p := ⟨w.heap.size, 0, none⟩) (by simp) _).setCell (p := ⟨w.heap.size, 1, none⟩) (by simp) _).setCell (p := ⟨w.heap.size, 2, none⟩) (by simp) _
  refine bodyPost_ret (v := .tuple #[.agg #[.int .i64 r.1.t, .int .u8 (r.1.k : Int), .int .i64 r.1.x], .bool r.2]) ?_ rfl ⟨rfl, hT⟩
  simp [results, Tryz.results69, go_sem, r0, r1, r2, hz]
set_option maxRecDepth 100000 in
set_option maxHeartbeats 4000000 in
theorem rlast_any (N B : Nat) (v : Value) (l : List Smp) (w : World) (h : SS N B v l w) : Calls Tryz.prog 71 #[.pointer (some ⟨N, 0, none⟩)] w fun e w' => e = .returned (.tuple #[.agg #[.int .i64 (numV l ((l.length : Int) - 1)).1.t, .int .u8 ((numV l ((l.length : Int) - 1)).1.k : Int), .int .i64 (numV l ((l.length : Int) - 1)).1.x], .bool (numV l ((l.length : Int) - 1)).2]) ∧ Below w.heap.size w w' := by
  have hnum : Hid (∀ W, SS N B v l W → Calls Tryz.prog 87 #[.pointer (some ⟨N, 0, none⟩), .int .i64 ((l.length : Int) - 1)] W fun e w' => e = .returned (.tuple #[.agg #[.int .i64 (numV l ((l.length : Int) - 1)).1.t, .int .u8 ((numV l ((l.length : Int) - 1)).1.k : Int), .int .i64 (numV l ((l.length : Int) - 1)).1.x], .bool (numV l ((l.length : Int) - 1)).2]) ∧ Below W.heap.size W w') := fun W hW => rat_any N B v l ((l.length : Int) - 1) W hW
  have hlen : Hid (∀ W, SS N B v l W → Calls Tryz.prog 72 #[.pointer (some ⟨N, 0, none⟩)] W fun e w' => e = .returned (.int .i64 (l.length : Int)) ∧ w' = W) := fun W hW => rlen_any N B v l W hW
  have hH : Hid (SS N B v l w) := h
  have hn := h.hn
  have hB0 := below_new (Below.refl _ w) (.cells #[.int .i64 0, .int .u8 0, .int .i64 0] 89)
  clear h
  generalize numV l ((l.length : Int) - 1) = r at *
  generalize l.length = q at *
  have hwr : IntKind.i64.wrap ((q : Int) - 1) = (q : Int) - 1 := IntWalk.i64_in _ (by omega)
  go_enter Tryz.func71, Tryz.ntmps71
  go_wp2_with fail
  refine Calls.mono (hlen.out _ (SS.below hH.out hB0)) ?_
  rintro e w1 ⟨rfl, hw1⟩
  rw [hw1]
  clear hw1 w1
  go_wp2_with fail
  refine Calls.mono (hnum.out _ (SS.below hH.out hB0)) ?_
  rintro e w2 ⟨rfl, hBB⟩
  obtain ⟨r0, r1, r2, q0, q1, q2, hz⟩ := res_cells3 hBB
  have hB' := alloc_below hBB
  go_wp2_with fail
  have hT : Below w.heap.size w (((w2.setCell ⟨w.heap.size, 0, none⟩ (.int .i64 r.1.t)).setCell ⟨w.heap.size, 1, none⟩ (.int .u8 (r.1.k : Int))).setCell ⟨w.heap.size, 2, none⟩ (.int .i64 r.1.x)) := ((hB'.setCell (p := ⟨w.heap.size, 0, none⟩) (by simp) _).setCell (p := ⟨w.heap.size, 1, none⟩) (by simp) _).setCell (p := ⟨w.heap.size, 2, none⟩) (by simp) _
  refine bodyPost_ret (v := .tuple #[.agg #[.int .i64 r.1.t, .int .u8 (r.1.k : Int), .int .i64 r.1.x], .bool r.2]) ?_ rfl ⟨rfl, hT⟩
  simp [results, Tryz.results71, go_sem, r0, r1, r2, hz]
set_option maxRecDepth 100000 in
set_option maxHeartbeats 4000000 in
theorem rbefore_any (N B : Nat) (v : Value) (l : List Smp) (t : Int) (w : World) (h : SS N B v l w) : Calls Tryz.prog 74 #[.pointer (some ⟨N, 0, none⟩), .int .i64 t] w fun e w' => e = .returned (.tuple #[.agg #[.int .i64 (numV l ((ahd l t : Int) - 1)).1.t, .int .u8 ((numV l ((ahd l t : Int) - 1)).1.k : Int), .int .i64 (numV l ((ahd l t : Int) - 1)).1.x], .bool (numV l ((ahd l t : Int) - 1)).2]) ∧ Below w.heap.size w w' := by
  have hnum : Hid (∀ W, SS N B v l W → Calls Tryz.prog 87 #[.pointer (some ⟨N, 0, none⟩), .int .i64 ((ahd l t : Int) - 1)] W fun e w' => e = .returned (.tuple #[.agg #[.int .i64 (numV l ((ahd l t : Int) - 1)).1.t, .int .u8 ((numV l ((ahd l t : Int) - 1)).1.k : Int), .int .i64 (numV l ((ahd l t : Int) - 1)).1.x], .bool (numV l ((ahd l t : Int) - 1)).2]) ∧ Below W.heap.size W w') := fun W hW => rat_any N B v l ((ahd l t : Int) - 1) W hW
  have hfnd : Hid (∀ W, SS N B v l W → Calls Tryz.prog 77 #[.pointer (some ⟨N, 0, none⟩), .int .i64 t] W fun e w' => e = .returned (.int .i64 (ahd l t : Int)) ∧ Below W.heap.size W w') := fun W hW => rahead_any N B v l t W hW
  have hal := ahd_le l t
  have hH : Hid (SS N B v l w) := h
  have hn := h.hn
  have hB0 := below_new (Below.refl _ w) (.cells #[.int .i64 0, .int .u8 0, .int .i64 0] 89)
  clear h
  generalize numV l ((ahd l t : Int) - 1) = r at *
  generalize ahd l t = q at *
  have hwr : IntKind.i64.wrap ((q : Int) - 1) = (q : Int) - 1 := IntWalk.i64_in _ (by omega)
  go_enter Tryz.func74, Tryz.ntmps74
  go_wp2_with fail
  refine Calls.mono (hfnd.out _ (SS.below hH.out hB0)) ?_
  rintro e w1 ⟨rfl, hB1⟩
  have hS1 : Hid _ := SS.below (SS.below hH.out hB0) hB1
  go_wp2_with fail
  refine Calls.mono (hnum.out _ hS1.out) ?_
  rintro e w2 ⟨rfl, hB2⟩
  have hBB := hB1.trans (hB2.mono hB1.size)
  obtain ⟨r0, r1, r2, q0, q1, q2, hz⟩ := res_cells3 hBB
  have hB' := alloc_below hBB
  go_wp2_with fail
  have hT : Below w.heap.size w (((w2.setCell ⟨w.heap.size, 0, none⟩ (.int .i64 r.1.t)).setCell ⟨w.heap.size, 1, none⟩ (.int .u8 (r.1.k : Int))).setCell ⟨w.heap.size, 2, none⟩ (.int .i64 r.1.x)) := ((hB'.setCell (p := ⟨w.heap.size, 0, none⟩) (by simp) _).setCell (p := ⟨w.heap.size, 1, none⟩) (by simp) _).setCell (p := ⟨w.heap.size, 2, none⟩) (by simp) _
  refine bodyPost_ret (v := .tuple #[.agg #[.int .i64 r.1.t, .int .u8 (r.1.k : Int), .int .i64 r.1.x], .bool r.2]) ?_ rfl ⟨rfl, hT⟩
  simp [results, Tryz.results74, go_sem, r0, r1, r2, hz]
set_option maxRecDepth 100000 in
set_option maxHeartbeats 4000000 in
theorem rbehind_any (N B : Nat) (v : Value) (l : List Smp) (t : Int) (w : World) (h : SS N B v l w) : Calls Tryz.prog 76 #[.pointer (some ⟨N, 0, none⟩), .int .i64 t] w fun e w' => e = .returned (.tuple #[.agg #[.int .i64 (numV l ((ahd l t : Int))).1.t, .int .u8 ((numV l ((ahd l t : Int))).1.k : Int), .int .i64 (numV l ((ahd l t : Int))).1.x], .bool (numV l ((ahd l t : Int))).2]) ∧ Below w.heap.size w w' := by
  have hnum : Hid (∀ W, SS N B v l W → Calls Tryz.prog 87 #[.pointer (some ⟨N, 0, none⟩), .int .i64 ((ahd l t : Int))] W fun e w' => e = .returned (.tuple #[.agg #[.int .i64 (numV l ((ahd l t : Int))).1.t, .int .u8 ((numV l ((ahd l t : Int))).1.k : Int), .int .i64 (numV l ((ahd l t : Int))).1.x], .bool (numV l ((ahd l t : Int))).2]) ∧ Below W.heap.size W w') := fun W hW => rat_any N B v l ((ahd l t : Int)) W hW
  have hfnd : Hid (∀ W, SS N B v l W → Calls Tryz.prog 77 #[.pointer (some ⟨N, 0, none⟩), .int .i64 t] W fun e w' => e = .returned (.int .i64 (ahd l t : Int)) ∧ Below W.heap.size W w') := fun W hW => rahead_any N B v l t W hW
  have hal := ahd_le l t
  have hH : Hid (SS N B v l w) := h
  have hn := h.hn
  have hB0 := below_new (Below.refl _ w) (.cells #[.int .i64 0, .int .u8 0, .int .i64 0] 89)
  clear h
  generalize numV l ((ahd l t : Int)) = r at *
  generalize ahd l t = q at *
  have hwr : IntKind.i64.wrap ((q : Int) - 1) = (q : Int) - 1 := IntWalk.i64_in _ (by omega)
  go_enter Tryz.func76, Tryz.ntmps76
  go_wp2_with fail
  refine Calls.mono (hfnd.out _ (SS.below hH.out hB0)) ?_
  rintro e w1 ⟨rfl, hB1⟩
  have hS1 : Hid _ := SS.below (SS.below hH.out hB0) hB1
  go_wp2_with fail
  refine Calls.mono (hnum.out _ hS1.out) ?_
  rintro e w2 ⟨rfl, hB2⟩
  have hBB := hB1.trans (hB2.mono hB1.size)
  obtain ⟨r0, r1, r2, q0, q1, q2, hz⟩ := res_cells3 hBB
  have hB' := alloc_below hBB
  go_wp2_with fail
  have hT : Below w.heap.size w (((w2.setCell ⟨w.heap.size, 0, none⟩ (.int .i64 r.1.t)).setCell ⟨w.heap.size, 1, none⟩ (.int .u8 (r.1.k : Int))).setCell ⟨w.heap.size, 2, none⟩ (.int .i64 r.1.x)) := ((hB'.setCell (p := ⟨w.heap.size, 0, none⟩) (by simp) _).setCell (p := ⟨w.heap.size, 1, none⟩) (by simp) _).setCell (p := ⟨w.heap.size, 2, none⟩) (by simp) _
  refine bodyPost_ret (v := .tuple #[.agg #[.int .i64 r.1.t, .int .u8 (r.1.k : Int), .int .i64 r.1.x], .bool r.2]) ?_ rfl ⟨rfl, hT⟩
  simp [results, Tryz.results76, go_sem, r0, r1, r2, hz]
set_option maxRecDepth 100000 in
set_option maxHeartbeats 4000000 in
theorem rget_any (N B : Nat) (v : Value) (l : List Smp) (t : Int) (w : World) (h : SS N B v l w) : Calls Tryz.prog 33 #[.pointer (some ⟨N, 0, none⟩), .int .i64 t] w fun e w' => e = .returned (.tuple #[.agg #[.int .u8 ((getV l t).1 : Int), .int .i64 (getV l t).2], .bool (hasT l t)]) ∧ Below w.heap.size w w' := by
  have hfnd : Hid (∀ o, Calls Tryz.prog 77 #[.pointer (some ⟨N, 0, none⟩), .int .i64 t] (w.alloc o) fun e w' => e = .returned (.int .i64 (ahd l t : Int)) ∧ Below (w.alloc o).heap.size (w.alloc o) w') := fun o => rahead_any N B v l t _ (h.alloc o)
  obtain ⟨a, cap, rfl, hcap, hL⟩ := h.row.lin h.hk
  have c0 := h.c0
  have hN := h.hN
  have hn := h.hn
  have hr : Hid (Rise l) := h.hr
  have hal := ahd_le l t
  have hLH : Hid (LIn w a l) := hL
  cases hh : hasT l t with
  | true =>
    obtain ⟨s, hs, hst, hg⟩ := getV_hit hr.out hh
    rw [hg]
    have hlt := (List.getElem?_eq_some_iff.1 hs).1
    obtain ⟨b, off, s', rfl, hb, hs', d1, d2, d3⟩ := LIn.at hLH.out (Below.refl _ _) hlt
    obtain rfl : s = s' := by rw [hs] at hs'; exact Option.some.inj hs'
    rw [hst] at d1
    clear h hL hh hg hs hs' hst
    obtain ⟨q, hq⟩ : ∃ q, q = ahd l t := ⟨_, rfl⟩
    rw [← hq] at hfnd hal hlt d1 d2 d3
    clear hq
    generalize l.length = n at *
    have q0 : (0 : Int) ≤ (q : Int) := by omega
    have hqI : (q : Int) < (n : Int) := by omega
    go_enter Tryz.func33, Tryz.ntmps33
    go_wp2_with fail
    refine Calls.mono (hfnd.out _) ?_
    rintro e w1 ⟨rfl, hB1⟩
    have hB2 := alloc_below hB1
    obtain ⟨r0, r1, z0, z1, hz⟩ := res_cells hB1
    have c0' := (hB2.cell (p := ⟨N, 0, none⟩) hN).trans c0
    have d1' := (hB2.cell (p := ⟨b, off + q * 3, none⟩) hb).trans d1
    have d2' := (hB2.cell (p := ⟨b, off + q * 3 + 1, none⟩) hb).trans d2
    have d3' := (hB2.cell (p := ⟨b, off + q * 3 + 2, none⟩) hb).trans d3
    go_wp2_with fail
    have hT : Below w.heap.size w ((w1.setCell ⟨w.heap.size, 0, none⟩ (.int .u8 (s.k : Int))).setCell ⟨w.heap.size, 1, none⟩ (.int .i64 s.x)) := (hB2.setCell (p := ⟨w.heap.size, 0, none⟩) (by simp) _).setCell (p := ⟨w.heap.size, 1, none⟩) (by simp) _
    refine bodyPost_ret (v := .tuple #[.agg #[.int .u8 (s.k : Int), .int .i64 s.x], .bool true]) ?_ rfl ⟨rfl, hT⟩
    simp [results, Tryz.results33, go_sem, r0, r1, hz]
  | false =>
    rw [getV_miss hh]
    by_cases hlt : ahd l t < l.length
    · obtain ⟨b, off, s, rfl, hb, hs, d1, d2, d3⟩ := LIn.at hLH.out (Below.refl _ _) hlt
      have hne : s.t ≠ t := hasT_false hh s (List.mem_of_getElem? hs)
      clear h hL hh hs
      obtain ⟨q, hq⟩ : ∃ q, q = ahd l t := ⟨_, rfl⟩
      rw [← hq] at hfnd hal hlt d1 d2 d3
      clear hq
      generalize l.length = n at *
      have q0 : (0 : Int) ≤ (q : Int) := by omega
      have hqI : (q : Int) < (n : Int) := by omega
      go_enter Tryz.func33, Tryz.ntmps33
      go_wp2_with fail
      refine Calls.mono (hfnd.out _) ?_
      rintro e w1 ⟨rfl, hB1⟩
      have hB2 := alloc_below hB1
      obtain ⟨r0, r1, z0, z1, hz⟩ := res_cells hB1
      have c0' := (hB2.cell (p := ⟨N, 0, none⟩) hN).trans c0
      have d1' := (hB2.cell (p := ⟨b, off + q * 3, none⟩) hb).trans d1
      go_wp2_with fail
      have hT : Below w.heap.size w ((w1.setCell ⟨w.heap.size, 0, none⟩ (.int .u8 0)).setCell ⟨w.heap.size, 1, none⟩ (.int .i64 0)) := (hB2.setCell (p := ⟨w.heap.size, 0, none⟩) (by simp) _).setCell (p := ⟨w.heap.size, 1, none⟩) (by simp) _
      refine bodyPost_ret (v := .tuple #[.agg #[.int .u8 0, .int .i64 0], .bool false]) ?_ rfl ⟨rfl, hT⟩
      simp [results, Tryz.results33, go_sem, r0, r1, hz]
    · clear h hL hh
      obtain ⟨q, hq⟩ : ∃ q, q = ahd l t := ⟨_, rfl⟩
      rw [← hq] at hfnd hal hlt
      clear hq
      generalize l.length = n at *
      obtain rfl : q = n := by omega
      go_enter Tryz.func33, Tryz.ntmps33
      go_wp2_with fail
      refine Calls.mono (hfnd.out _) ?_
      rintro e w1 ⟨rfl, hB1⟩
      have hB2 := alloc_below hB1
      obtain ⟨r0, r1, z0, z1, hz⟩ := res_cells hB1
      have c0' := (hB2.cell (p := ⟨N, 0, none⟩) hN).trans c0
      go_wp2_with fail
      have hT : Below w.heap.size w ((w1.setCell ⟨w.heap.size, 0, none⟩ (.int .u8 0)).setCell ⟨w.heap.size, 1, none⟩ (.int .i64 0)) := (hB2.setCell (p := ⟨w.heap.size, 0, none⟩) (by simp) _).setCell (p := ⟨w.heap.size, 1, none⟩) (by simp) _
      refine bodyPost_ret (v := .tuple #[.agg #[.int .u8 0, .int .i64 0], .bool false]) ?_ rfl ⟨rfl, hT⟩
      simp [results, Tryz.results33, go_sem, r0, r1, hz]
end Go.Proofs.YticgapplpfaigaaGreat
