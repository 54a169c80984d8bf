
import Derived.Test.YtbljggapmkpnbaaGreatDoorAcB
namespace Go.Proofs.YtbljggapmkpnbaaGreatDoor.Ac
open Go.RowKit Go.Maps Hp
set_option linter.unusedVariables false
set_option linter.unusedSimpArgs false
set_option maxRecDepth 100000
theorem len_nil (w : World) : Calls Tryz.prog 15 #[.pointer none] w fun e w' => e = .returned (.int .i64 0) ∧ w' = w := by
  go_enter Tryz.func15, Tryz.ntmps15
  go_wp2
  go_ret
  exact ⟨rfl, rfl⟩
theorem func_nil (w : World) : Calls Tryz.prog 26 #[.pointer none] w fun e w' => e = .returned (.int .u8 0) ∧ w' = w := by
  go_enter Tryz.func26, Tryz.ntmps26
  go_wp2
  go_ret
  exact ⟨rfl, rfl⟩
theorem fork_nil (w : World) : Calls Tryz.prog 9 #[.pointer none] w fun e w' => e = .returned (.pointer none) ∧ w' = w := by
  go_enter Tryz.func9, Tryz.ntmps9
  go_wp2
  go_ret
  exact ⟨rfl, rfl⟩
theorem rlen_nil (w : World) : Calls Tryz.prog 25 #[.pointer none] w fun e w' => e = .returned (.int .i64 0) ∧ w' = w := by
  go_enter Tryz.func25, Tryz.ntmps25
  go_wp2
  go_ret
  exact ⟨rfl, rfl⟩
theorem rfunc_nil (w : World) : Calls Tryz.prog 27 #[.pointer none] w fun e w' => e = .returned (.int .u8 0) ∧ w' = w := by
  go_enter Tryz.func27, Tryz.ntmps27
  go_wp2
  go_ret
  exact ⟨rfl, rfl⟩
theorem add_nil (s : ByteArray) (t n : Int) (w : World) : Calls Tryz.prog 13 #[.pointer none, .string s, .int .i64 t, .int .i64 n] w fun e w' => e = .returned (.iface 59 (.int .i64 1)) ∧ w' = w := by
  have k : Hid _ := fnew_any 1 (by decide) w
  go_enter Tryz.func13, Tryz.ntmps13
  go_wp2_with fail
  refine Calls.mono k.out ?_
  rintro e w1 ⟨rfl, hw1⟩
  subst hw1
  go_wp2_with fail
  go_ret
  exact ⟨rfl, rfl⟩
theorem rem_nil (s : ByteArray) (t : Int) (w : World) : Calls Tryz.prog 12 #[.pointer none, .string s, .int .i64 t] w fun e w' => e = .returned (.iface 59 (.int .i64 1)) ∧ w' = w := by
  have k : Hid _ := fnew_any 1 (by decide) w
  go_enter Tryz.func12, Tryz.ntmps12
  go_wp2_with fail
  refine Calls.mono k.out ?_
  rintro e w1 ⟨rfl, hw1⟩
  subst hw1
  go_wp2_with fail
  go_ret
  exact ⟨rfl, rfl⟩
theorem refnew (c : Int) (w : World) : Calls Tryz.prog 32 #[.int .i64 c] w fun e w' => e = .returned (.agg #[.int .i64 c, .int .i64 0, .int .i64 0, .bool false, .bool false]) ∧ Below w.heap.size w w' := by
  go_enter Tryz.func32, Tryz.ntmps32
  go_wp2
  simp [bodyPost, results, Tryz.results32, go_sem]
  exact below_new (Below.refl _ _) _
theorem bad_kept {w w1 : World} (b1 : Below (w.alloc (.cells #[.int .i64 0, .int .i64 0, .int .i64 0, .bool false, .bool false] 63)).heap.size (w.alloc (.cells #[.int .i64 0, .int .i64 0, .int .i64 0, .bool false, .bool false] 63)) w1) : (w1.cell? ⟨w.heap.size, 0, none⟩ = some (.int .i64 0) ∧ w1.cell? ⟨w.heap.size, 1, none⟩ = some (.int .i64 0) ∧ w1.cell? ⟨w.heap.size, 2, none⟩ = some (.int .i64 0) ∧ w1.cell? ⟨w.heap.size, 3, none⟩ = some (.bool false) ∧ w1.cell? ⟨w.heap.size, 4, none⟩ = some (.bool false)) ∧ w1.frozen? ⟨w.heap.size, 0, none⟩ = false ∧ w1.frozen? ⟨w.heap.size, 1, none⟩ = false ∧ w1.frozen? ⟨w.heap.size, 2, none⟩ = false ∧ w1.frozen? ⟨w.heap.size, 3, none⟩ = false ∧ w1.frozen? ⟨w.heap.size, 4, none⟩ = false := by
  have hlt : w.heap.size < (w.alloc (.cells #[.int .i64 0, .int .i64 0, .int .i64 0, .bool false, .bool false] 63)).heap.size := by simp
  have c : ∀ o, w1.cell? ⟨w.heap.size, o, none⟩ = _ := fun o => b1.cell (p := ⟨w.heap.size, o, none⟩) hlt
  have z : ∀ o, w1.frozen? ⟨w.heap.size, o, none⟩ = _ := fun o => b1.frozen (p := ⟨w.heap.size, o, none⟩) hlt
  rw [c, c, c, c, c, z, z, z, z, z]
  refine ⟨⟨?_, ?_, ?_, ?_, ?_⟩, ?_, ?_, ?_, ?_, ?_⟩ <;> simp [go_sem]
def set5 (w : World) (K : Nat) (a b c d e : Value) : World := ((((w.setCell ⟨K, 0, none⟩ a).setCell ⟨K, 1, none⟩ b).setCell ⟨K, 2, none⟩ c).setCell ⟨K, 3, none⟩ d).setCell ⟨K, 4, none⟩ e
theorem below_set {wr W : World} (h : Below wr.heap.size wr W) (i : Nat) (v : Value) : Below wr.heap.size wr (W.setCell ⟨wr.heap.size, i, none⟩ v) := ⟨h.os, h.tape, h.output, by simpa using h.size, fun k hk => by rw [Below.heap_setCell _ _ _ _ (by intro q; have q2 : k = wr.heap.size := q; omega)]; exact h.block k hk⟩
theorem below_five {wr w1 : World} (h : Below wr.heap.size wr w1) (a b c d e : Value) : Below wr.heap.size wr (((((w1.setCell ⟨wr.heap.size, 0, none⟩ a).setCell ⟨wr.heap.size, 1, none⟩ b).setCell ⟨wr.heap.size, 2, none⟩ c).setCell ⟨wr.heap.size, 3, none⟩ d).setCell ⟨wr.heap.size, 4, none⟩ e) := below_set (below_set (below_set (below_set (below_set h 0 a) 1 b) 2 c) 3 d) 4 e
theorem five_cells {w1 : World} {K : Nat} {x0 x1 x2 x3 x4 : Value} (k0 : w1.cell? ⟨K, 0, none⟩ = some x0) (k1 : w1.cell? ⟨K, 1, none⟩ = some x1) (k2 : w1.cell? ⟨K, 2, none⟩ = some x2) (k3 : w1.cell? ⟨K, 3, none⟩ = some x3) (k4 : w1.cell? ⟨K, 4, none⟩ = some x4) (a b c d e : Value) : (w1.setCell ⟨K, 0, none⟩ a).cell? ⟨K, 0, none⟩ = some a ∧ ((w1.setCell ⟨K, 0, none⟩ a).setCell ⟨K, 1, none⟩ b).cell? ⟨K, 1, none⟩ = some b ∧ (((w1.setCell ⟨K, 0, none⟩ a).setCell ⟨K, 1, none⟩ b).setCell ⟨K, 2, none⟩ c).cell? ⟨K, 2, none⟩ = some c ∧ ((((w1.setCell ⟨K, 0, none⟩ a).setCell ⟨K, 1, none⟩ b).setCell ⟨K, 2, none⟩ c).setCell ⟨K, 3, none⟩ d).cell? ⟨K, 3, none⟩ = some d ∧ (((((w1.setCell ⟨K, 0, none⟩ a).setCell ⟨K, 1, none⟩ b).setCell ⟨K, 2, none⟩ c).setCell ⟨K, 3, none⟩ d).setCell ⟨K, 4, none⟩ e).cell? ⟨K, 4, none⟩ = some e := by
  have ne : ∀ (W : World) (v : Value) (i j : Nat), j ≠ i → (W.setCell ⟨K, i, none⟩ v).cell? ⟨K, j, none⟩ = W.cell? ⟨K, j, none⟩ := fun W v i j h => World.cell?_setCell_other _ _ _ _ (by intro e; injection e; omega)
  obtain ⟨p0, p1, p2, p3⟩ := four_cells k0 k1 k2 k3 a b c d
  exact ⟨p0, p1, p2, p3, World.cell?_setCell_same _ _ _ (by rw [ne _ _ _ _ (by omega), ne _ _ _ _ (by omega), ne _ _ _ _ (by omega), ne _ _ _ _ (by omega)]; exact k4)⟩
set_option maxHeartbeats 4000000 in
theorem radd_nil (s : ByteArray) (t n : Int) (w : World) : Calls Tryz.prog 20 #[.pointer none, .string s, .int .i64 t, .int .i64 n] w fun e w' => e = .returned (.agg #[.int .i64 1, .int .i64 0, .int .i64 0, .bool false, .bool false]) ∧ Below w.heap.size w w' := by
  have k : Hid (∀ W, Calls Tryz.prog 32 #[.int .i64 1] W fun e w' => e = .returned (.agg #[.int .i64 1, .int .i64 0, .int .i64 0, .bool false, .bool false]) ∧ Below W.heap.size W w') := refnew 1
  go_enter Tryz.func20, Tryz.ntmps20
  go_wp2_with fail
  refine Calls.mono (k.out _) ?_
  rintro e w1 ⟨rfl, b1⟩
  have b0 : Below w.heap.size w (w.alloc (.cells #[.int .i64 0, .int .i64 0, .int .i64 0, .bool false, .bool false] 63)) := (Below.refl _ w).alloc (Nat.le_refl _) _
  obtain ⟨⟨k0, k1, k2, k3, k4⟩, y0, y1, y2, y3, y4⟩ := bad_kept (w := w) b1
  have bb : Hid (Below w.heap.size w w1) := b0.trans (b1.mono b0.size)
  clear b0 b1 k
  go_wp2_with fail
  obtain ⟨p0, p1, p2, p3, p4⟩ := five_cells k0 k1 k2 k3 k4 (.int .i64 1) (.int .i64 0) (.int .i64 0) (.bool false) (.bool false)
  simp [bodyPost, results, Tryz.results20, go_sem, p0, p1, p2, p3, p4]
  exact below_five bb.out _ _ _ _ _
set_option maxHeartbeats 4000000 in
theorem rrem_nil (s : ByteArray) (t : Int) (w : World) : Calls Tryz.prog 21 #[.pointer none, .string s, .int .i64 t] w fun e w' => e = .returned (.agg #[.int .i64 1, .int .i64 0, .int .i64 0, .bool false, .bool false]) ∧ Below w.heap.size w w' := by
  have k : Hid (∀ W, Calls Tryz.prog 32 #[.int .i64 1] W fun e w' => e = .returned (.agg #[.int .i64 1, .int .i64 0, .int .i64 0, .bool false, .bool false]) ∧ Below W.heap.size W w') := refnew 1
  go_enter Tryz.func21, Tryz.ntmps21
  go_wp2_with fail
  refine Calls.mono (k.out _) ?_
  rintro e w1 ⟨rfl, b1⟩
  have b0 : Below w.heap.size w (w.alloc (.cells #[.int .i64 0, .int .i64 0, .int .i64 0, .bool false, .bool false] 63)) := (Below.refl _ w).alloc (Nat.le_refl _) _
  obtain ⟨⟨k0, k1, k2, k3, k4⟩, y0, y1, y2, y3, y4⟩ := bad_kept (w := w) b1
  have bb : Hid (Below w.heap.size w w1) := b0.trans (b1.mono b0.size)
  clear b0 b1 k
  go_wp2_with fail
  obtain ⟨p0, p1, p2, p3, p4⟩ := five_cells k0 k1 k2 k3 k4 (.int .i64 1) (.int .i64 0) (.int .i64 0) (.bool false) (.bool false)
  simp [bodyPost, results, Tryz.results21, go_sem, p0, p1, p2, p3, p4]
  exact below_five bb.out _ _ _ _ _
theorem told_kept {w w1 : World} (b1 : Below (w.alloc (.cells #[.bool false, .int .u8 0, .int .i64 0] 52)).heap.size (w.alloc (.cells #[.bool false, .int .u8 0, .int .i64 0] 52)) w1) : w1.cell? ⟨w.heap.size, 0, none⟩ = some (.bool false) ∧ w1.cell? ⟨w.heap.size, 1, none⟩ = some (.int .u8 0) ∧ w1.cell? ⟨w.heap.size, 2, none⟩ = some (.int .i64 0) ∧ w1.frozen? ⟨w.heap.size, 0, none⟩ = false ∧ w1.frozen? ⟨w.heap.size, 1, none⟩ = false ∧ w1.frozen? ⟨w.heap.size, 2, none⟩ = false := by
  have hlt : w.heap.size < (w.alloc (.cells #[.bool false, .int .u8 0, .int .i64 0] 52)).heap.size := by simp
  have c : ∀ o, w1.cell? ⟨w.heap.size, o, none⟩ = _ := fun o => b1.cell (p := ⟨w.heap.size, o, none⟩) hlt
  have z : ∀ o, w1.frozen? ⟨w.heap.size, o, none⟩ = _ := fun o => b1.frozen (p := ⟨w.heap.size, o, none⟩) hlt
  rw [c, c, c, z, z, z]
  refine ⟨?_, ?_, ?_, ?_, ?_, ?_⟩ <;> simp [go_sem]
theorem below_three {wr w1 : World} (h : Below wr.heap.size wr w1) (a b c : Value) (o : Obj) : Below wr.heap.size wr ((((w1.setCell ⟨wr.heap.size, 0, none⟩ a).setCell ⟨wr.heap.size, 1, none⟩ b).setCell ⟨wr.heap.size, 2, none⟩ c).alloc o) := by
  have b1 : Below wr.heap.size wr (((w1.setCell ⟨wr.heap.size, 0, none⟩ a).setCell ⟨wr.heap.size, 1, none⟩ b).setCell ⟨wr.heap.size, 2, none⟩ c) := ⟨h.os, h.tape, h.output, by simpa using h.size, fun k hk => by rw [Below.heap_setCell _ _ _ _ (by intro e; have e2 : k = wr.heap.size := e; omega), Below.heap_setCell _ _ _ _ (by intro e; have e2 : k = wr.heap.size := e; omega), Below.heap_setCell _ _ _ _ (by intro e; have e2 : k = wr.heap.size := e; omega)]; exact h.block k hk⟩
  exact b1.alloc b1.size o
theorem three_cells {w1 : World} {K : Nat} {x0 x1 x2 : Value} (k0 : w1.cell? ⟨K, 0, none⟩ = some x0) (k1 : w1.cell? ⟨K, 1, none⟩ = some x1) (k2 : w1.cell? ⟨K, 2, none⟩ = some x2) (a b c : Value) : (w1.setCell ⟨K, 0, none⟩ a).cell? ⟨K, 0, none⟩ = some a ∧ ((w1.setCell ⟨K, 0, none⟩ a).setCell ⟨K, 1, none⟩ b).cell? ⟨K, 1, none⟩ = some b ∧ (((w1.setCell ⟨K, 0, none⟩ a).setCell ⟨K, 1, none⟩ b).setCell ⟨K, 2, none⟩ c).cell? ⟨K, 2, none⟩ = some c := by
  have ne : ∀ (W : World) (v : Value) (i j : Nat), j ≠ i → (W.setCell ⟨K, i, none⟩ v).cell? ⟨K, j, none⟩ = W.cell? ⟨K, j, none⟩ := fun W v i j h => World.cell?_setCell_other _ _ _ _ (by intro e; injection e; omega)
  exact ⟨World.cell?_setCell_same _ _ _ k0, World.cell?_setCell_same _ _ _ (by rw [ne _ _ _ _ (by omega)]; exact k1), World.cell?_setCell_same _ _ _ (by rw [ne _ _ _ _ (by omega), ne _ _ _ _ (by omega)]; exact k2)⟩
theorem slot_nil (w : World) : Calls Tryz.prog 14 #[.pointer none] w fun e w' => e = .returned (.agg #[.bool false, .int .i64 0, .int .i64 0, .int .u64 0]) ∧ Below w.heap.size w w' := by
  have k : Hid (∀ W, Calls Tryz.prog 15 #[.pointer none] W fun e w' => e = .returned (.int .i64 0) ∧ w' = W) := len_nil
  go_enter Tryz.func14, Tryz.ntmps14
  go_wp2_with fail
  refine Calls.mono (k.out _) ?_
  rintro e w1 ⟨rfl, hw1⟩
  subst hw1
  go_wp2_with fail
  simp [bodyPost, results, Tryz.results14, go_sem]
  exact below_new (Below.refl _ _) _
theorem rslot_nil (w : World) : Calls Tryz.prog 23 #[.pointer none] w fun e w' => e = .returned (.agg #[.bool false, .int .i64 0, .int .i64 0, .int .u64 0]) ∧ Below w.heap.size w w' := by
  go_enter Tryz.func23, Tryz.ntmps23
  go_wp2_with fail
  simp [bodyPost, results, Tryz.results23, go_sem]
  exact below_new (Below.refl _ _) _
theorem rvalue_nil (w : World) : Calls Tryz.prog 24 #[.pointer none] w fun e w' => e = .returned (.agg #[.bool false, .int .u8 0, .int .i64 0]) ∧ Below w.heap.size w w' := by
  go_enter Tryz.func24, Tryz.ntmps24
  go_wp2_with fail
  simp [bodyPost, results, Tryz.results24, go_sem]
  exact below_new (Below.refl _ _) _
set_option maxHeartbeats 4000000 in
theorem value_nil (w : World) : Calls Tryz.prog 16 #[.pointer none] w fun e w' => e = .returned (.agg #[.bool false, .int .u8 0, .int .i64 0]) ∧ Below w.heap.size w w' := by
  have k : Hid (∀ W, Calls Tryz.prog 14 #[.pointer none] W fun e w' => e = .returned (.agg #[.bool false, .int .i64 0, .int .i64 0, .int .u64 0]) ∧ Below W.heap.size W w') := slot_nil
  have kF : Hid (∀ W, Calls Tryz.prog 26 #[.pointer none] W fun e w' => e = .returned (.int .u8 0) ∧ w' = W) := func_nil
  go_enter Tryz.func16, Tryz.ntmps16
  go_wp2_with fail
  refine Calls.mono (k.out _) ?_
  rintro e w1 ⟨rfl, b1⟩
  obtain ⟨k0, k1, k2, y0, y1, y2⟩ := told_kept (w := w) b1
  have b0 : Below w.heap.size w (w.alloc (.cells #[.bool false, .int .u8 0, .int .i64 0] 52)) := (Below.refl _ w).alloc (Nat.le_refl _) _
  have bb : Hid (Below w.heap.size w w1) := b0.trans (b1.mono b0.size)
  have szK : w.heap.size < w1.heap.size := Nat.lt_of_lt_of_le (by simp) b1.size
  clear b0 b1 k
  go_wp2_with fail
  refine Calls.mono (kF.out _) ?_
  rintro e w2 ⟨rfl, hw2⟩
  subst hw2
  clear kF
  go_wp2_with fail
  obtain ⟨p0, p1, p2⟩ := three_cells k0 k1 k2 (.bool false) (.int .u8 0) (.int .i64 0)
  simp [bodyPost, results, Tryz.results16, go_sem, p0, p1, p2, szK]
  exact below_three bb.out _ _ _ _
theorem alike_nil (w : World) : Calls Tryz.prog 10 #[.pointer none, .pointer none] w fun e w' => e = .returned (.bool true) ∧ Below w.heap.size w w' := by
  have k1 : Hid (∀ W, Calls Tryz.prog 14 #[.pointer none] W fun e w' => e = .returned (.agg #[.bool false, .int .i64 0, .int .i64 0, .int .u64 0]) ∧ Below W.heap.size W w') := slot_nil
  have k2 : Hid (∀ W, Calls Tryz.prog 23 #[.pointer none] W fun e w' => e = .returned (.agg #[.bool false, .int .i64 0, .int .i64 0, .int .u64 0]) ∧ Below W.heap.size W w') := rslot_nil
  have k3 : Hid (∀ W, Calls Tryz.prog 16 #[.pointer none] W fun e w' => e = .returned (.agg #[.bool false, .int .u8 0, .int .i64 0]) ∧ Below W.heap.size W w') := value_nil
  have k4 : Hid (∀ W, Calls Tryz.prog 24 #[.pointer none] W fun e w' => e = .returned (.agg #[.bool false, .int .u8 0, .int .i64 0]) ∧ Below W.heap.size W w') := rvalue_nil
  have k5 : Hid (∀ W, Calls Tryz.prog 15 #[.pointer none] W fun e w' => e = .returned (.int .i64 0) ∧ w' = W) := len_nil
  have k6 : Hid (∀ W, Calls Tryz.prog 25 #[.pointer none] W fun e w' => e = .returned (.int .i64 0) ∧ w' = W) := rlen_nil
  have k7 : Hid (∀ W, Calls Tryz.prog 26 #[.pointer none] W fun e w' => e = .returned (.int .u8 0) ∧ w' = W) := func_nil
  have k8 : Hid (∀ W, Calls Tryz.prog 27 #[.pointer none] W fun e w' => e = .returned (.int .u8 0) ∧ w' = W) := rfunc_nil
  go_enter Tryz.func10, Tryz.ntmps10
  go_wp2_with fail
  refine Calls.mono (k1.out _) ?_
  rintro e w1 ⟨rfl, b1⟩
  go_wp2_with fail
  refine Calls.mono (k2.out _) ?_
  rintro e w2 ⟨rfl, b2⟩
  go_wp2_with fail
  refine Calls.mono (k3.out _) ?_
  rintro e w3 ⟨rfl, b3⟩
  go_wp2_with fail
  refine Calls.mono (k4.out _) ?_
  rintro e w4 ⟨rfl, b4⟩
  have bb : Hid (Below w.heap.size w w4) := below_then (below_then (below_then b1 b2) b3) b4
  clear b1 b2 b3 b4
  go_wp2_with fail
  refine Calls.mono (k5.out _) ?_
  rintro e w5 ⟨rfl, hw⟩
  subst hw
  go_wp2_with fail
  refine Calls.mono (k6.out _) ?_
  rintro e w5 ⟨rfl, hw⟩
  subst hw
  go_wp2_with fail
  refine Calls.mono (k7.out _) ?_
  rintro e w5 ⟨rfl, hw⟩
  subst hw
  go_wp2_with fail
  refine Calls.mono (k8.out _) ?_
  rintro e w5 ⟨rfl, hw⟩
  subst hw
  go_wp2_with fail
  go_ret
  exact ⟨rfl, bb.out⟩
set_option maxHeartbeats 4000000 in
theorem live_any (w : World) (hg : ET w) : Calls Tryz.prog 7 #[] w fun e w' => e = .returned (.bool true) ∧ Below w.heap.size w w' := by
  have hgH : Hid (∀ W, Below w.heap.size w W → ET W) := fun W hb => ET_below hg hb
  have C1 : Hid _ := new_max w
  clear hg
  go_enter Tryz.func7, Tryz.ntmps7
  go_wp2_with fail
  refine Calls.mono C1.out ?_
  rintro e w1 ⟨X, rfl, ax⟩
  have C2 : Hid _ := new_none w1
  have C3 : Hid _ := acc_add ax (put_first ax 5)
  clear C1 ax
  go_wp2_with fail
  refine Calls.mono C2.out ?_
  rintro e w2 ⟨rfl, hw⟩
  subst hw
  clear C2
  go_wp2_with fail
  refine Calls.mono C3.out ?_
  rintro e w2 ⟨rfl, ax⟩
  have C4 : Hid _ := acc_add ax (put_again ax 6)
  clear C3 ax
  go_wp2_with fail
  refine Calls.mono C4.out ?_
  rintro e w3 ⟨rfl, ax⟩
  have C5 : Hid _ := isE_any 2 2 (by decide) w3 (hgH.out _ ax.bl)
  have AX3 : Hid _ := ax
  clear C4 ax
  go_wp2_with fail
  refine Calls.mono C5.out ?_
  rintro e w4 ⟨rfl, b4⟩
  have ax := AX3.out.below b4
  have C6 : Hid _ := isE_any 5 5 (by decide) w4 (hgH.out _ ax.bl)
  have AX4 : Hid _ := ax
  clear C5 ax b4 AX3
  go_wp2_with fail
  refine Calls.mono C6.out ?_
  rintro e w5 ⟨rfl, b5⟩
  have ax := AX4.out.below b5
  have C7 : Hid _ := acc_len ax
  have C8 : Hid _ := acc_slot ax (by simp)
  have bl : Hid (Below w.heap.size w w5) := ax.bl
  clear C6 ax b5 AX4
  go_wp2_with fail
  refine Calls.mono C7.out ?_
  rintro e w6 ⟨rfl, hw⟩
  subst hw
  clear C7
  go_wp2_with fail
  refine Calls.mono C8.out ?_
  rintro e w7 ⟨rfl, b7⟩
  have fin : Hid (Below w.heap.size w w7) := below_then bl.out b7
  clear C8 b7 bl
  go_wp2_with fail
  go_ret
  exact ⟨rfl, fin.out⟩
set_option maxHeartbeats 8000000 in
theorem step_nil (k : Int) (s : ByteArray) (t n : Int) (w : World) (hg : ET w) : Calls Tryz.prog 8 #[.pointer none, .pointer none, .agg #[.int .i64 k, .string s, .int .i64 t, .int .i64 n]] w fun e w' => e = .returned (.bool true) ∧ Below w.heap.size w w' := by
  have hgH : Hid (∀ W, Below w.heap.size w W → ET W) := fun W hb => ET_below hg hb
  have kA : Hid (∀ W, Calls Tryz.prog 13 #[.pointer none, .string s, .int .i64 t, .int .i64 n] W fun e w' => e = .returned (.iface 59 (.int .i64 1)) ∧ w' = W) := add_nil s t n
  have kR : Hid (∀ W, Calls Tryz.prog 12 #[.pointer none, .string s, .int .i64 t] W fun e w' => e = .returned (.iface 59 (.int .i64 1)) ∧ w' = W) := rem_nil s t
  have qA : Hid (∀ W, Calls Tryz.prog 20 #[.pointer none, .string s, .int .i64 t, .int .i64 n] W fun e w' => e = .returned (.agg #[.int .i64 1, .int .i64 0, .int .i64 0, .bool false, .bool false]) ∧ Below W.heap.size W w') := radd_nil s t n
  have qR : Hid (∀ W, Calls Tryz.prog 21 #[.pointer none, .string s, .int .i64 t] W fun e w' => e = .returned (.agg #[.int .i64 1, .int .i64 0, .int .i64 0, .bool false, .bool false]) ∧ Below W.heap.size W w') := rrem_nil s t
  have kS : Hid (∀ W, ET W → Calls Tryz.prog 19 #[.iface 59 (.int .i64 1), .agg #[.int .i64 1, .int .i64 0, .int .i64 0, .bool false, .bool false]] W fun e w' => e = .returned (.bool true) ∧ Below W.heap.size W w') := same_err 1 (by decide)
  have b0 : Hid (Below w.heap.size w (w.alloc (.cells #[.int .i64 k, .string s, .int .i64 t, .int .i64 n] 27))) := (Below.refl _ w).alloc (Nat.le_refl _) _
  clear hg
  by_cases h0 : k = 0
  · subst h0
    go_enter Tryz.func8, Tryz.ntmps8
    go_wp2_with fail
    refine Calls.mono (kA.out _) ?_
    rintro e w1 ⟨rfl, hw⟩
    subst hw
    go_wp2_with fail
    refine Calls.mono (qA.out _) ?_
    rintro e w1 ⟨rfl, b1⟩
    have bb : Hid (Below w.heap.size w w1) := below_then b0.out b1
    clear b1
    go_wp2_with fail
    refine Calls.mono (kS.out _ (hgH.out _ bb.out)) ?_
    rintro e w2 ⟨rfl, b2⟩
    have fin : Hid (Below w.heap.size w w2) := below_then bb.out b2
    clear b2
    go_wp2_with fail
    go_ret
    exact ⟨rfl, fin.out⟩
  · have h0b : (k == 0) = false := by simpa using h0
    by_cases h1 : k = 1
    · subst h1
      go_enter Tryz.func8, Tryz.ntmps8
      go_wp2_with fail
      refine Calls.mono (kR.out _) ?_
      rintro e w1 ⟨rfl, hw⟩
      subst hw
      go_wp2_with fail
      refine Calls.mono (qR.out _) ?_
      rintro e w1 ⟨rfl, b1⟩
      have bb : Hid (Below w.heap.size w w1) := below_then b0.out b1
      clear b1
      go_wp2_with fail
      refine Calls.mono (kS.out _ (hgH.out _ bb.out)) ?_
      rintro e w2 ⟨rfl, b2⟩
      have fin : Hid (Below w.heap.size w w2) := below_then bb.out b2
      clear b2
      go_wp2_with fail
      go_ret
      exact ⟨rfl, fin.out⟩
    · have h1b : (k == 1) = false := by simpa using h1
      go_enter Tryz.func8, Tryz.ntmps8
      go_wp2_with fail
      go_ret
      exact ⟨rfl, b0.out⟩
/-- calls that are read. -/
structure StQ where
  k : Int
  s : ByteArray
  t : Int
  n : Int
def SqIn (w : World) (a : Option Addr) (len : Nat) (st : Nat → StQ) : Prop := len = 0 ∨ ∃ b off, a = some ⟨b, off, none⟩ ∧ b < w.heap.size ∧ ∀ i, i < len → w.cell? ⟨b, off + i * 4, none⟩ = some (.int .i64 (st i).k) ∧ w.cell? ⟨b, off + i * 4 + 1, none⟩ = some (.string (st i).s) ∧ w.cell? ⟨b, off + i * 4 + 2, none⟩ = some (.int .i64 (st i).t) ∧ w.cell? ⟨b, off + i * 4 + 3, none⟩ = some (.int .i64 (st i).n)
theorem SqIn.below {w w' : World} {a : Option Addr} {len : Nat} {st : Nat → StQ} (h : SqIn w a len st) (hB : Below w.heap.size w w') : SqIn w' a len st := by
  rcases h with h | ⟨b, off, ha, hb, hc⟩
  · exact Or.inl h
  · refine Or.inr ⟨b, off, ha, by have := hB.size; omega, fun i hi => ?_⟩
    have c : ∀ o, w'.cell? ⟨b, o, none⟩ = w.cell? ⟨b, o, none⟩ := fun o => hB.cell (p := ⟨b, o, none⟩) hb
    rw [c, c, c, c]
    exact hc i hi
theorem nums_q (j n : Nat) (hj : j < n) (hn : n ≤ 9223372036854775807) : (0 : Int) ≤ (j : Int) ∧ (j : Int) < (n : Int) ∧ IntKind.i64.wrap ((j : Int) + 1) = ((j + 1 : Nat) : Int) := ⟨by omega, by omega, IntWalk.i64_in _ (by omega)⟩
set_option maxHeartbeats 8000000 in
theorem accNone_walk (a : Option Addr) (len cap : Nat) (st : Nat → StQ) (w : World) (hin : SqIn w a len st) (hlen : len ≤ 9223372036854775807) (hg : ET w) : Calls Tryz.prog 3 #[.slice a len cap] w fun e w' => e = .returned (.bool true) ∧ Below w.heap.size w w' := by
  have hgH : Hid (∀ W, Below w.heap.size w W → ET W) := fun W hb => ET_below hg hb
  have hinH : Hid (SqIn w a len st) := hin
  have kL : Hid _ := live_any w hg
  have kF : Hid (∀ W, Calls Tryz.prog 9 #[.pointer none] W fun e w' => e = .returned (.pointer none) ∧ w' = W) := fork_nil
  have kK : Hid (∀ W, Calls Tryz.prog 10 #[.pointer none, .pointer none] W fun e w' => e = .returned (.bool true) ∧ Below W.heap.size W w') := alike_nil
  clear hin hg
  go_enter Tryz.func3, Tryz.ntmps3
  go_wp2_with fail
  refine Calls.mono kL.out ?_
  rintro e w1 ⟨rfl, b1⟩
  have B1 : Hid (Below w.heap.size w w1) := b1
  clear b1 kL
  go_wp2_with fail
  go_loopw [4] (fun v4 wr => ∃ (i : Nat), v4 = .int .i64 (i : Int) ∧ i ≤ len ∧ Hid (Below w.heap.size w wr)) (fun v4 _ => len - (intOf v4).toNat)
  case atStart => exact ⟨0, rfl, Nat.zero_le _, B1⟩
  case round =>
    clear B1
    obtain ⟨i, rfl, hil, hB⟩ := hrel
    by_cases hi : i < len
    · obtain ⟨i0, iI, iw⟩ := nums_q i len hi (by omega)
      obtain ⟨b, off, rfl, hbl, hcs⟩ : ∃ b off, a = some ⟨b, off, none⟩ ∧ b < wr.heap.size ∧ ∀ i, i < len → wr.cell? ⟨b, off + i * 4, none⟩ = some (.int .i64 (st i).k) ∧ wr.cell? ⟨b, off + i * 4 + 1, none⟩ = some (.string (st i).s) ∧ wr.cell? ⟨b, off + i * 4 + 2, none⟩ = some (.int .i64 (st i).t) ∧ wr.cell? ⟨b, off + i * 4 + 3, none⟩ = some (.int .i64 (st i).n) := by
        rcases hinH.out.below hB.out with q | q
        · omega
        · exact q
      obtain ⟨e0, e1, e2, e3⟩ := hcs i hi
      have C : Hid _ := step_nil (st i).k (st i).s (st i).t (st i).n wr (hgH.out _ hB.out)
      clear hcs
      generalize st i = o at *
      go_wp2_with fail
      refine Calls.mono C.out ?_
      rintro e w2 ⟨rfl, b2⟩
      have B2 : Hid (Below w.heap.size w w2) := below_then hB.out b2
      clear b2 hB C e0 e1 e2 e3
      go_wp2_with fail
      exact ⟨⟨i + 1, rfl, hi, B2⟩, by first | (simp [intOf]; done) | (simp [intOf]; omega)⟩
    · obtain rfl : i = len := by omega
      have iI : ¬ (i : Int) < (i : Int) := Int.lt_irrefl _
      go_wp2_with fail
      refine Calls.mono (kF.out _) ?_
      rintro e w2 ⟨rfl, hw⟩
      subst hw
      go_wp2_with fail
      refine Calls.mono (kK.out _) ?_
      rintro e w3 ⟨rfl, b3⟩
      have fin : Hid (Below w.heap.size w w3) := below_then hB.out b3
      clear b3 hB
      go_wp2_with fail
      go_ret
      exact ⟨rfl, fin.out⟩
end Go.Proofs.YtbljggapmkpnbaaGreatDoor.Ac
