
import Derived.Test.YtbhohlmlmlpboaaGreatDoorSqF
import Derived.Test.YtbhohlmlmlpboaaGreatDoorSpLv
import Derived.Test.YtbhohlmlmlpboaaGreatDoorSame
namespace Go.Proofs.YtbhohlmlmlpboaaGreatDoor
open Go.RowKit Go.Shelf
set_option linter.unusedVariables false
set_option linter.unusedSimpArgs false
theorem date_both (n : Int) : ∃ y m d : Int, (∀ W, MT W → Calls Tryz.prog 9 #[.int .i64 n] W fun e w' => e = .returned (.tuple #[.int .i64 y, .int .i64 m, .int .i64 d]) ∧ w' = W) ∧ (∀ W, Calls Tryz.prog 10 #[.int .i64 n] W fun e w' => e = .returned (.tuple #[.int .i64 y, .int .i64 m, .int .i64 d]) ∧ w' = W) := by
  by_cases h : n < -719528 ∨ 2932897 ≤ n
  · exact ⟨0, 0, 0, fun W _ => date_bad n h W, fun W => rdate_bad n h W⟩
  · exact ⟨yOf n, ymOf n, ydOf n, fun W hW => date_any n (by omega) (by omega) W hW, fun W => rdate_any n (by omega) (by omega) W⟩
theorem day_both (y m d : Int) : ∃ (k : Int) (E : Value) (c : Int), (∀ W, MT W → Calls Tryz.prog 6 #[.int .i64 y, .int .i64 m, .int .i64 d] W fun e w' => e = .returned (.tuple #[.int .i64 k, E]) ∧ w' = W)
    ∧ (∀ W, Calls Tryz.prog 7 #[.int .i64 y, .int .i64 m, .int .i64 d] W fun e w' => e = .returned (.tuple #[.int .i64 k, .agg #[.int .i64 c, .int .i64 0, .int .i64 0, .bool false, .bool false]]) ∧ Below W.heap.size W w')
    ∧ (∀ W, ET W → Calls Tryz.prog 8 #[E, .agg #[.int .i64 c, .int .i64 0, .int .i64 0, .bool false, .bool false]] W fun e w' => e = .returned (.bool true) ∧ Below W.heap.size W w') := by
  have hd : Decidable (dayOk y m d) := by unfold dayOk; infer_instance
  by_cases h : dayOk y m d
  · exact ⟨dayN y m d, .nilIface, 0, fun W hW => day_any y m d h W hW, fun W => rday_any y m d h W, fun W _ => same_nil W⟩
  · exact ⟨0, .iface 29 (.int .i64 41), 41, fun W hW => day_bad y m d h W hW, fun W => rday_bad y m d h W, fun W hW => same_err 41 rfl W hW⟩
set_option maxRecDepth 100000 in
set_option maxHeartbeats 4000000 in
theorem spanDays_walk (y m d n : Int) (w : World) (h : SW w) : Calls Tryz.prog 3 #[.agg #[.int .i64 y, .int .i64 m, .int .i64 d, .int .i64 n]] w fun e w' => e = .returned (.bool true) ∧ Below w.heap.size w w' := by
  have L := fun W hW => slive_any W hW
  obtain ⟨k, E, c, P1, P2, P3⟩ := day_both y m d
  obtain ⟨a, b, r, Q1, Q2⟩ := date_both n
  have HW : Hid (SW w) := h
  clear h
  go_enter Tryz.func3, Tryz.ntmps3
  go_wp2_with fail
  have BA := below_new (Below.refl w.heap.size w) (.cells #[.int .i64 y, .int .i64 m, .int .i64 d, .int .i64 n] 23)
  have f0 : (w.alloc (.cells #[.int .i64 y, .int .i64 m, .int .i64 d, .int .i64 n] 23)).cell? ⟨w.heap.size, 0, none⟩ = some (.int .i64 y) := by simp [go_sem]
  have f1 : (w.alloc (.cells #[.int .i64 y, .int .i64 m, .int .i64 d, .int .i64 n] 23)).cell? ⟨w.heap.size, 1, none⟩ = some (.int .i64 m) := by simp [go_sem]
  have f2 : (w.alloc (.cells #[.int .i64 y, .int .i64 m, .int .i64 d, .int .i64 n] 23)).cell? ⟨w.heap.size, 2, none⟩ = some (.int .i64 d) := by simp [go_sem]
  have f3 : (w.alloc (.cells #[.int .i64 y, .int .i64 m, .int .i64 d, .int .i64 n] 23)).cell? ⟨w.heap.size, 3, none⟩ = some (.int .i64 n) := by simp [go_sem]
  have HA : Hid (SW (w.alloc (.cells #[.int .i64 y, .int .i64 m, .int .i64 d, .int .i64 n] 23))) := HW.out.below BA
  have lt : w.heap.size < (w.alloc (.cells #[.int .i64 y, .int .i64 m, .int .i64 d, .int .i64 n] 23)).heap.size := World.block_lt_of_cell? _ _ f0
  generalize w.alloc (.cells #[.int .i64 y, .int .i64 m, .int .i64 d, .int .i64 n] 23) = wa at *
  refine (L _ HA.out).mono ?_
  rintro e w1 ⟨rfl, B1⟩
  have g0 := (B1.cell (p := ⟨w.heap.size, 0, none⟩) lt).trans f0
  have g1 := (B1.cell (p := ⟨w.heap.size, 1, none⟩) lt).trans f1
  have g2 := (B1.cell (p := ⟨w.heap.size, 2, none⟩) lt).trans f2
  have g3 := (B1.cell (p := ⟨w.heap.size, 3, none⟩) lt).trans f3
  have K1 := below_then BA B1
  have S1 : Hid (SW w1) := HA.out.below B1
  clear f0 f1 f2 f3 BA B1 lt
  go_wp2_with fail
  refine (P1 _ S1.out.m).mono ?_
  rintro e w1' ⟨rfl, rfl⟩
  go_wp2_with fail
  refine (P2 _).mono ?_
  rintro e w2 ⟨rfl, B2⟩
  have K2 := below_then K1 B2
  have S2 : Hid (SW w2) := S1.out.below B2
  have S2' : Hid (∀ o, SW (w2.alloc o)) := fun o => S2.out.below (below_new (Below.refl _ _) o)
  clear g0 g1 g2 g3 B2
  go_wp2_with fail
  refine (P3 _ (S2'.out _).e).mono ?_
  rintro e w3 ⟨rfl, B3⟩
  have K3 := below_then (below_new K2 _) B3
  have S3 : Hid (SW w3) := (S2'.out _).below B3
  clear B3
  go_wp2_with fail
  refine (Q1 _ S3.out.m).mono ?_
  rintro e w3' ⟨rfl, rfl⟩
  go_wp2_with fail
  refine (Q2 _).mono ?_
  rintro e w3' ⟨rfl, rfl⟩
  go_wp2_with fail
  go_ret
  exact ⟨rfl, K3⟩
end Go.Proofs.YtbhohlmlmlpboaaGreatDoor
