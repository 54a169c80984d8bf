
import Derived.Test.YticgapplpfaigaaGreatSrN
namespace Go.Proofs.YticgapplpfaigaaGreat
open Go.RowKit
set_option linter.unusedVariables false
set_option linter.unusedSimpArgs false
theorem res_cells3 {w w' : World} {a b c : Value} {ty : TypeId} (h : Below (w.alloc (.cells #[a, b, c] ty)).heap.size (w.alloc (.cells #[a, b, c] ty)) w') : w'.cell? ⟨w.heap.size, 0, none⟩ = some a ∧ w'.cell? ⟨w.heap.size, 1, none⟩ = some b ∧ w'.cell? ⟨w.heap.size, 2, none⟩ = some c ∧ w'.frozen? ⟨w.heap.size, 0, none⟩ = false ∧ w'.frozen? ⟨w.heap.size, 1, none⟩ = false ∧ w'.frozen? ⟨w.heap.size, 2, none⟩ = false ∧ w.heap.size < w'.heap.size := by
  have hs : w.heap.size < (w.alloc (.cells #[a, b, c] ty)).heap.size := by simp
  refine ⟨?_, ?_, ?_, ?_, ?_, ?_, Nat.lt_of_lt_of_le hs h.size⟩
  · rw [h.cell (p := ⟨w.heap.size, 0, none⟩) hs]; simp [go_sem]
  · rw [h.cell (p := ⟨w.heap.size, 1, none⟩) hs]; simp [go_sem]
  · rw [h.cell (p := ⟨w.heap.size, 2, none⟩) hs]; simp [go_sem]
  · rw [frozen_block (h.block _ hs)]; exact frozen_new _ _ _ _
  · rw [frozen_block (h.block _ hs)]; exact frozen_new _ _ _ _
  · rw [frozen_block (h.block _ hs)]; exact frozen_new _ _ _ _
set_option maxRecDepth 100000 in
set_option maxHeartbeats 4000000 in
theorem ns_cut (t : Int) (w : World) : Calls Tryz.prog 34 #[.pointer none, .int .i64 t] w fun e w' => e = .returned (.tuple #[.agg #[.int .u8 0, .int .i64 0], .bool false]) ∧ Below w.heap.size w w' := by
  go_enter Tryz.func34, Tryz.ntmps34
  go_wp2_with fail
  refine Calls.mono (ns_get t _) ?_
  rintro e w2 ⟨rfl, hB2⟩
  obtain ⟨r0, r1, q0, q1, hz⟩ := res_cells hB2
  have hB' := alloc_below hB2
  clear hB2
  go_wp2_with fail
  have hT : Below w.heap.size w (((w2.setCell ⟨w.heap.size, 0, none⟩ (.int .u8 0)).setCell ⟨w.heap.size, 1, none⟩ (.int .i64 0)).alloc (.cells #[.int .u8 0, .int .i64 0] 61)) := below_new ((hB'.setCell (p := ⟨w.heap.size, 0, none⟩) (by simp) _).setCell (p := ⟨w.heap.size, 1, none⟩) (by simp) _) _
  refine bodyPost_ret (v := .tuple #[.agg #[.int .u8 0, .int .i64 0], .bool false]) ?_ rfl ⟨rfl, hT⟩
  simp [results, Tryz.results34, go_sem, r0, r1, hz]
set_option maxRecDepth 100000 in
set_option maxHeartbeats 4000000 in
theorem nr_cut (t : Int) (w : World) : Calls Tryz.prog 24 #[.pointer none, .int .i64 t] w fun e w' => e = .returned (.tuple #[.agg #[.int .u8 0, .int .i64 0], .bool false]) ∧ Below w.heap.size w w' := by
  go_enter Tryz.func24, Tryz.ntmps24
  go_wp2_with fail
  refine Calls.mono (nr_get t _) ?_
  rintro e w2 ⟨rfl, hB2⟩
  obtain ⟨r0, r1, q0, q1, hz⟩ := res_cells hB2
  have hB' := alloc_below hB2
  clear hB2
  go_wp2_with fail
  have hT : Below w.heap.size w (((w2.setCell ⟨w.heap.size, 0, none⟩ (.int .u8 0)).setCell ⟨w.heap.size, 1, none⟩ (.int .i64 0)).alloc (.cells #[.int .u8 0, .int .i64 0] 61)) := below_new ((hB'.setCell (p := ⟨w.heap.size, 0, none⟩) (by simp) _).setCell (p := ⟨w.heap.size, 1, none⟩) (by simp) _) _
  refine bodyPost_ret (v := .tuple #[.agg #[.int .u8 0, .int .i64 0], .bool false]) ?_ rfl ⟨rfl, hT⟩
  simp [results, Tryz.results24, go_sem, r0, r1, hz]
set_option maxRecDepth 100000 in
set_option maxHeartbeats 4000000 in
theorem ns_delete (f t : Int) (w : World) : Calls Tryz.prog 8 #[.pointer none, .int .i64 f, .int .i64 t] w fun e w' => e = .returned (.slice none 0 0) ∧ Below w.heap.size w w' := by
  go_enter Tryz.func8, Tryz.ntmps8
  go_wp2_with fail
  refine Calls.mono (ns_range f t _) ?_
  rintro e w2 ⟨rfl, hB2⟩
  go_wp2_with fail
  go_ret
  exact ⟨rfl, hB2⟩
set_option maxRecDepth 100000 in
set_option maxHeartbeats 4000000 in
theorem nr_range (f t : Int) (w : World) : Calls Tryz.prog 23 #[.pointer none, .int .i64 f, .int .i64 t] w fun e w' => e = .returned (.slice none 0 0) ∧ Below w.heap.size w w' := by
  go_enter Tryz.func23, Tryz.ntmps23
  go_wp2_with fail
  go_loopw [7, 8] (fun o i wr => o = .slice none 0 0 ∧ i = .int .i64 0 ∧ wr = w) (fun _ _ _ => 0)
  case atStart => exact ⟨rfl, rfl, rfl⟩
  case round =>
    obtain ⟨rfl, rfl, rfl⟩ := hrel
    go_wp2_with fail
    go_ret
    exact ⟨rfl, Below.refl _ _⟩
set_option maxRecDepth 100000 in
set_option maxHeartbeats 4000000 in
theorem nr_delete (f t : Int) (w : World) : Calls Tryz.prog 9 #[.pointer none, .int .i64 f, .int .i64 t] w fun e w' => e = .returned (.slice none 0 0) ∧ Below w.heap.size w w' := by
  go_enter Tryz.func9, Tryz.ntmps9
  go_wp2_with fail
  refine Calls.mono (nr_range f t _) ?_
  rintro e w2 ⟨rfl, hB2⟩
  go_wp2_with fail
  go_loopw [8] (fun i wr => i = .int .i64 0 ∧ wr = w2) (fun _ _ => 0)
  case atStart => exact ⟨rfl, rfl⟩
  case round =>
    obtain ⟨rfl, rfl⟩ := hrel
    go_wp2_with fail
    go_ret
    exact ⟨rfl, hB2⟩
set_option maxRecDepth 100000 in
set_option maxHeartbeats 4000000 in
theorem nr_first (w : World) : Calls Tryz.prog 69 #[.pointer none] w fun e w' => e = .returned (.tuple #[.agg #[.int .i64 0, .int .u8 0, .int .i64 0], .bool false]) ∧ Below w.heap.size w w' := by
  go_enter Tryz.func69, Tryz.ntmps69
  go_wp2_with fail
  refine Calls.mono (nr_at 0 _) ?_
  rintro e w2 ⟨rfl, hBB⟩
  obtain ⟨r0, r1, r2, q0, q1, q2, hz⟩ := res_cells3 hBB
  have hB' := alloc_below hBB
  go_wp2_with fail
  have hT : Below w.heap.size w (((w2.setCell ⟨w.heap.size, 0, none⟩ (.int .i64 0)).setCell ⟨w.heap.size, 1, none⟩ (.int .u8 0)).setCell ⟨w.heap.size, 2, none⟩ (.int .i64 0)) := ((hB'.setCell (p := ⟨w.heap.size, 0, none⟩) (by simp) _).setCell (p := ⟨w.heap.size, 1, none⟩) (by simp) _).setCell (p := ⟨w.heap.size, 2, none⟩) (by simp) _
  refine bodyPost_ret (v := .tuple #[.agg #[.int .i64 0, .int .u8 0, .int .i64 0], .bool false]) ?_ rfl ⟨rfl, hT⟩
  simp [results, Tryz.results69, go_sem, r0, r1, r2, hz]
set_option maxRecDepth 100000 in
set_option maxHeartbeats 4000000 in
theorem nr_last (w : World) : Calls Tryz.prog 71 #[.pointer none] w fun e w' => e = .returned (.tuple #[.agg #[.int .i64 0, .int .u8 0, .int .i64 0], .bool false]) ∧ Below w.heap.size w w' := by
  go_enter Tryz.func71, Tryz.ntmps71
  go_wp2_with fail
  refine Calls.mono (nr_len _) ?_
  rintro e w1 ⟨rfl, hB1⟩
  go_wp2_with fail
  refine Calls.mono (nr_at (-1) _) ?_
  rintro e w2 ⟨rfl, hB2⟩
  have hBB := hB1.trans (hB2.mono hB1.size)
  obtain ⟨r0, r1, r2, q0, q1, q2, hz⟩ := res_cells3 hBB
  have hB' := alloc_below hBB
  go_wp2_with fail
  have hT : Below w.heap.size w (((w2.setCell ⟨w.heap.size, 0, none⟩ (.int .i64 0)).setCell ⟨w.heap.size, 1, none⟩ (.int .u8 0)).setCell ⟨w.heap.size, 2, none⟩ (.int .i64 0)) := ((hB'.setCell (p := ⟨w.heap.size, 0, none⟩) (by simp) _).setCell (p := ⟨w.heap.size, 1, none⟩) (by simp) _).setCell (p := ⟨w.heap.size, 2, none⟩) (by simp) _
  refine bodyPost_ret (v := .tuple #[.agg #[.int .i64 0, .int .u8 0, .int .i64 0], .bool false]) ?_ rfl ⟨rfl, hT⟩
  simp [results, Tryz.results71, go_sem, r0, r1, r2, hz]
set_option maxRecDepth 100000 in
set_option maxHeartbeats 4000000 in
theorem nr_before (t : Int) (w : World) : Calls Tryz.prog 74 #[.pointer none, .int .i64 t] w fun e w' => e = .returned (.tuple #[.agg #[.int .i64 0, .int .u8 0, .int .i64 0], .bool false]) ∧ Below w.heap.size w w' := by
  go_enter Tryz.func74, Tryz.ntmps74
  go_wp2_with fail
  refine Calls.mono (nr_ahead t _) ?_
  rintro e w1 ⟨rfl, hB1⟩
  go_wp2_with fail
  refine Calls.mono (nr_at (-1) _) ?_
  rintro e w2 ⟨rfl, hB2⟩
  have hBB := hB1.trans (hB2.mono hB1.size)
  obtain ⟨r0, r1, r2, q0, q1, q2, hz⟩ := res_cells3 hBB
  have hB' := alloc_below hBB
  go_wp2_with fail
  have hT : Below w.heap.size w (((w2.setCell ⟨w.heap.size, 0, none⟩ (.int .i64 0)).setCell ⟨w.heap.size, 1, none⟩ (.int .u8 0)).setCell ⟨w.heap.size, 2, none⟩ (.int .i64 0)) := ((hB'.setCell (p := ⟨w.heap.size, 0, none⟩) (by simp) _).setCell (p := ⟨w.heap.size, 1, none⟩) (by simp) _).setCell (p := ⟨w.heap.size, 2, none⟩) (by simp) _
  refine bodyPost_ret (v := .tuple #[.agg #[.int .i64 0, .int .u8 0, .int .i64 0], .bool false]) ?_ rfl ⟨rfl, hT⟩
  simp [results, Tryz.results74, go_sem, r0, r1, r2, hz]
set_option maxRecDepth 100000 in
set_option maxHeartbeats 4000000 in
theorem nr_behind (t : Int) (w : World) : Calls Tryz.prog 76 #[.pointer none, .int .i64 t] w fun e w' => e = .returned (.tuple #[.agg #[.int .i64 0, .int .u8 0, .int .i64 0], .bool false]) ∧ Below w.heap.size w w' := by
  go_enter Tryz.func76, Tryz.ntmps76
  go_wp2_with fail
  refine Calls.mono (nr_ahead t _) ?_
  rintro e w1 ⟨rfl, hB1⟩
  go_wp2_with fail
  refine Calls.mono (nr_at 0 _) ?_
  rintro e w2 ⟨rfl, hB2⟩
  have hBB := hB1.trans (hB2.mono hB1.size)
  obtain ⟨r0, r1, r2, q0, q1, q2, hz⟩ := res_cells3 hBB
  have hB' := alloc_below hBB
  go_wp2_with fail
  have hT : Below w.heap.size w (((w2.setCell ⟨w.heap.size, 0, none⟩ (.int .i64 0)).setCell ⟨w.heap.size, 1, none⟩ (.int .u8 0)).setCell ⟨w.heap.size, 2, none⟩ (.int .i64 0)) := ((hB'.setCell (p := ⟨w.heap.size, 0, none⟩) (by simp) _).setCell (p := ⟨w.heap.size, 1, none⟩) (by simp) _).setCell (p := ⟨w.heap.size, 2, none⟩) (by simp) _
  refine bodyPost_ret (v := .tuple #[.agg #[.int .i64 0, .int .u8 0, .int .i64 0], .bool false]) ?_ rfl ⟨rfl, hT⟩
  simp [results, Tryz.results76, go_sem, r0, r1, r2, hz]
end Go.Proofs.YticgapplpfaigaaGreat
