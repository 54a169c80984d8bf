
import Derived.Test.YtipahdplkmmofaaGreatDoorNum4
import Derived.Test.YtipahdplkmmofaaGreatDoorSpA
import Derived.LoopTactic
namespace Go.Proofs.YtipahdplkmmofaaGreatDoor
open Go.RowKit
set_option linter.unusedVariables false
set_option linter.unusedSimpArgs false
theorem ret_int {k : IntKind} {a b : Int} (h : a = b) : Ending.returned (.int k a) = .returned (.int k b) := by rw [h]
/-- the months, as they lie. -/
def MT (w : World) : Prop := ∀ k : Nat, k < 12 → w.cell? ⟨3, k, none⟩ = some (.int .i64 (mon ((k : Int) + 1)))
theorem MT.below {w w' : World} (h : MT w) (hb : Below w.heap.size w w') : MT w' := by
  intro k hk
  have c := h k hk
  rw [hb.cell (World.block_lt_of_cell? _ _ c)]; exact c
set_option maxRecDepth 100000 in
theorem began_any (y : Int) (h1 : 0 ≤ y) (h2 : y ≤ 20000) (w : World) : Calls Tryz.prog 90 #[.int .i64 y] w fun e w' => e = .returned (.int .i64 (bgn y)) ∧ w' = w := by
  go_enter Tryz.func90, Tryz.ntmps90
  go_wp2
  go_ret
  exact ⟨ret_int (by unfold bgn; omega), rfl⟩
set_option maxRecDepth 100000 in
set_option maxHeartbeats 2000000 in
theorem length_any (y m : Int) (h1 : 0 ≤ y) (h2 : y ≤ 20000) (h3 : 1 ≤ m) (h4 : m ≤ 12) (w : World) (hm : MT w) : Calls Tryz.prog 91 #[.int .i64 y, .int .i64 m] w fun e w' => e = .returned (.int .i64 (lenM y m)) ∧ w' = w := by
  have c0 : w.cell? ⟨3, 0, none⟩ = some (.int .i64 31) := hm 0 (by omega)
  have c1 : w.cell? ⟨3, 1, none⟩ = some (.int .i64 28) := hm 1 (by omega)
  have c2 : w.cell? ⟨3, 2, none⟩ = some (.int .i64 31) := hm 2 (by omega)
  have c3 : w.cell? ⟨3, 3, none⟩ = some (.int .i64 30) := hm 3 (by omega)
  have c4 : w.cell? ⟨3, 4, none⟩ = some (.int .i64 31) := hm 4 (by omega)
  have c5 : w.cell? ⟨3, 5, none⟩ = some (.int .i64 30) := hm 5 (by omega)
  have c6 : w.cell? ⟨3, 6, none⟩ = some (.int .i64 31) := hm 6 (by omega)
  have c7 : w.cell? ⟨3, 7, none⟩ = some (.int .i64 31) := hm 7 (by omega)
  have c8 : w.cell? ⟨3, 8, none⟩ = some (.int .i64 30) := hm 8 (by omega)
  have c9 : w.cell? ⟨3, 9, none⟩ = some (.int .i64 31) := hm 9 (by omega)
  have c10 : w.cell? ⟨3, 10, none⟩ = some (.int .i64 30) := hm 10 (by omega)
  have c11 : w.cell? ⟨3, 11, none⟩ = some (.int .i64 31) := hm 11 (by omega)
  have hc : m = 2 ∨ m = 1 ∨ m = 3 ∨ m = 4 ∨ m = 5 ∨ m = 6 ∨ m = 7 ∨ m = 8 ∨ m = 9 ∨ m = 10 ∨ m = 11 ∨ m = 12 := by omega
  clear hm h3 h4
  rcases hc with e | e | e | e | e | e | e | e | e | e | e | e <;> subst e
  · go_enter Tryz.func91, Tryz.ntmps91
    go_wp2
    all_goals
      go_ret
      exact ⟨ret_int (by simp_all [lenM, lp, lpB]), rfl⟩
  all_goals
    go_enter Tryz.func91, Tryz.ntmps91
    go_wp2
    go_ret
    exact ⟨rfl, rfl⟩
set_option maxRecDepth 100000 in
set_option maxHeartbeats 2000000 in
theorem day_bad (y m d : Int) (h : ¬ dayOk y m d) (w : World) (hm : MT w) : Calls Tryz.prog 80 #[.int .i64 y, .int .i64 m, .int .i64 d] w fun e w' => e = .returned (.tuple #[.int .i64 0, .iface 27 (.int .i64 41)]) ∧ w' = w := by
  by_cases a1 : y < 0
  · go_enter Tryz.func80, Tryz.ntmps80
    go_wp2_with (go_at_call 27; refine (new_any _ rfl _).mono ?_; rintro e w' ⟨rfl, rfl⟩)
    go_ret2
    exact ⟨rfl, rfl⟩
  by_cases a2 : 9999 < y
  · go_enter Tryz.func80, Tryz.ntmps80
    go_wp2_with (go_at_call 27; refine (new_any _ rfl _).mono ?_; rintro e w' ⟨rfl, rfl⟩)
    go_ret2
    exact ⟨rfl, rfl⟩
  by_cases a3 : m < 1
  · go_enter Tryz.func80, Tryz.ntmps80
    go_wp2_with (go_at_call 27; refine (new_any _ rfl _).mono ?_; rintro e w' ⟨rfl, rfl⟩)
    go_ret2
    exact ⟨rfl, rfl⟩
  by_cases a4 : 12 < m
  · go_enter Tryz.func80, Tryz.ntmps80
    go_wp2_with (go_at_call 27; refine (new_any _ rfl _).mono ?_; rintro e w' ⟨rfl, rfl⟩)
    go_ret2
    exact ⟨rfl, rfl⟩
  by_cases a5 : d < 1
  · go_enter Tryz.func80, Tryz.ntmps80
    go_wp2_with (go_at_call 27; refine (new_any _ rfl _).mono ?_; rintro e w' ⟨rfl, rfl⟩)
    go_ret2
    exact ⟨rfl, rfl⟩
  have a6 : lenM y m < d := by
    apply Decidable.byContradiction; intro h6
    exact h ⟨by omega, by omega, by omega, by omega, by omega, by omega⟩
  clear h
  have L := fun (W : World) (hW : MT W) => length_any y m (by omega) (by omega) (by omega) (by omega) W hW
  go_enter Tryz.func80, Tryz.ntmps80
  go_wp2_with (first | (go_at_call 91; refine (L _ hm).mono ?_; rintro e w' ⟨rfl, rfl⟩) | (go_at_call 27; refine (new_any _ rfl _).mono ?_; rintro e w' ⟨rfl, rfl⟩))
  go_ret2
  exact ⟨rfl, rfl⟩
theorem ret_tup2 {k : IntKind} {a b : Int} {v : Value} (h : a = b) : Ending.returned (.tuple #[.int k a, v]) = .returned (.tuple #[.int k b, v]) := by rw [h]
theorem bgn_bd2 (y : Int) (h1 : 0 ≤ y) (h2 : y ≤ 10001) : -719528 ≤ bgn y ∧ bgn y ≤ 3000000 := by unfold bgn; omega
set_option maxRecDepth 100000 in
set_option maxHeartbeats 2000000 in
theorem day_any (y m d : Int) (h : dayOk y m d) (w : World) (hm : MT w) : Calls Tryz.prog 80 #[.int .i64 y, .int .i64 m, .int .i64 d] w fun e w' => e = .returned (.tuple #[.int .i64 (dayN y m d), .nilIface]) ∧ w' = w := by
  obtain ⟨a1, a2, a3, a4, a5, a6⟩ := h
  have lb := lenM_bd y m
  have bb := bgn_bd2 y a1 (by omega)
  have L := fun (k : Int) (h1 : 1 ≤ k) (h2 : k ≤ 12) => length_any y k (by omega) (by omega) h1 h2 w hm
  go_enter Tryz.func80, Tryz.ntmps80
  go_wp2_with (first | (go_at_call 91; refine (L _ a3 a4).mono ?_; rintro e w' ⟨rfl, rfl⟩) | (go_at_call 90; refine (began_any _ a1 (by omega) _).mono ?_; rintro e w' ⟨rfl, rfl⟩))
  go_loop [8, 9] (fun n i => ∃ k : Int, 1 ≤ k ∧ k ≤ m ∧ i = .int .i64 k ∧ n = .int .i64 (bgn y + (d - 1) + cum y k)) (fun _ i => (m - intOf i).toNat)
  case atStart => exact ⟨1, by omega, a3, rfl, by simp [cum]; omega⟩
  case round =>
    obtain ⟨k, hk1, hk2, rfl, rfl⟩ := hrel
    have cb := cum_bd y k hk1 (by omega)
    have lp1 := lp_01 y
    have lk := lenM_bd y k
    by_cases hlt : k < m
    · have cs := cum_succ y k hk1 (by omega)
      have CS : Hid (cum y (k + 1) = cum y k + lenM y k) := cs
      clear cs
      go_wp2_with (go_at_call 91; refine (L _ hk1 (by omega)).mono ?_; rintro e w' ⟨rfl, rfl⟩)
      go_round
      case rel => exact ⟨k + 1, by omega, by omega, by go_num, by rw [CS.out]; go_num⟩
      case measure => simp [intOf]; omega
    · have e : k = m := by omega
      subst e
      go_wp2
      go_ret2
      exact ⟨rfl, rfl⟩
end Go.Proofs.YtipahdplkmmofaaGreatDoor
