
import Derived.Test.YtboacnpbicedfaaGreatDoorHuPq
namespace Go.Proofs.YtboacnpbicedfaaGreatDoor.Hp
open Go.RowKit Go.Maps
set_option linter.unusedVariables false
set_option linter.unusedSimpArgs false
set_option maxRecDepth 100000
/-- the call's own box: its entry is still in it. -/
def BX (K : Nat) (x : Ent) (W : World) : Prop := W.cell? ⟨K, 3, none⟩ = some (.int .i64 x.1) ∧ W.cell? ⟨K, 4, none⟩ = some (.string x.2)
set_option maxHeartbeats 8000000 in
theorem call_put {w : World} {p m : Option Addr} {wh : Int} {mo : Bool} {x : Ent} {la : Option Addr} {ln lc : Nat} {ev bv : Value} {X Y Z : World → Prop}
    (H1 : Calls Tryz.prog 28 #[.pointer p, eV x] (w.alloc (.cells #[.int .i64 0, .int .i64 wh, .bool mo, .int .i64 x.1, .string x.2, .slice la ln lc] 33)).drew fun e w1 => e = .returned ev ∧ BX w.heap.size x w1 ∧ X w1)
    (H2 : ∀ w1, X w1 → Calls Tryz.prog 29 #[.pointer m, eV x] w1 fun e w2 => e = .returned bv ∧ BX w.heap.size x w2 ∧ Y w2)
    (H3 : ∀ w2, Y w2 → Calls Tryz.prog 11 #[ev, bv] w2 fun e w3 => e = .returned (.bool true) ∧ BX w.heap.size x w3 ∧ Z w3) :
    Calls Tryz.prog 12 #[.pointer p, .pointer m, .agg #[.int .i64 0, .int .i64 wh, .bool mo, .int .i64 x.1, .string x.2, .slice la ln lc]] w fun e w' => e = .returned (.bool true) ∧ Z w' := by
  unfold BX at H1 H2 H3
  try unfold eV at H1 H2
  have H1 : Hid _ := H1
  have H2 : Hid _ := H2
  have H3 : Hid _ := H3
  have sS : Hid ((w.alloc (.cells #[.int .i64 0, .int .i64 wh, .bool mo, .int .i64 x.1, .string x.2, .slice la ln lc] 33)).drew.cell? ⟨w.heap.size, 3, none⟩ = some (.int .i64 x.1) ∧ (w.alloc (.cells #[.int .i64 0, .int .i64 wh, .bool mo, .int .i64 x.1, .string x.2, .slice la ln lc] 33)).drew.cell? ⟨w.heap.size, 4, none⟩ = some (.string x.2)) := by constructor <;> simp [go_sem]
  go_enter Tryz.func12, Tryz.ntmps12
  go_wp2_with fail
  refine wp_region_noPanic ?_
  refine wp_region_held_drew (S := fun W => W.cell? ⟨w.heap.size, 3, none⟩ = some (.int .i64 x.1) ∧ W.cell? ⟨w.heap.size, 4, none⟩ = some (.string x.2)) (by kernel_rfl) sS.out (fun hHeld => ?_)
  refine wpAnyH_take (i := 0) (oi := _) (v := ?_) rfl (by kernel_rfl) (by kernel_rfl) (by kernel_rfl) (fun _ _ _ h => h) (Or.inl ⟨by rfl, ?_⟩) (by assumption) ?_
  rotate_left 1
  · (intro w0 hSw; (try dsimp only at hSw); obtain ⟨s1, s2⟩ := hSw; go_simp; try with_reducible rfl)
  (try simp only [List.getElem_toArray, List.getElem_cons_succ, List.getElem_cons_zero]); (try simp only [Act.put, List.setIfInBounds_toArray, List.set_cons_zero, List.set_cons_succ])
  refine wpAnyH_take (i := 1) (oi := _) (v := ?_) rfl (by kernel_rfl) (by kernel_rfl) (by kernel_rfl) (fun _ _ _ h => h) (Or.inl ⟨by rfl, ?_⟩) (by assumption) ?_
  rotate_left 1
  · (intro w0 hSw; (try dsimp only at hSw); obtain ⟨s1, s2⟩ := hSw; go_simp; try with_reducible rfl)
  (try simp only [List.getElem_toArray, List.getElem_cons_succ, List.getElem_cons_zero]); (try simp only [Act.put, List.setIfInBounds_toArray, List.set_cons_zero, List.set_cons_succ])
  refine wpAnyH_take (i := 2) (oi := _) (v := ?_) rfl (by kernel_rfl) (by kernel_rfl) (by kernel_rfl) (fun _ _ _ h => h) (Or.inl ⟨by rfl, ?_⟩) (by assumption) ?_
  rotate_left 1
  · (intro w0 hSw; (try dsimp only at hSw); obtain ⟨s1, s2⟩ := hSw; go_simp; try with_reducible rfl)
  (try simp only [List.getElem_toArray, List.getElem_cons_succ, List.getElem_cons_zero]); (try simp only [Act.put, List.setIfInBounds_toArray, List.set_cons_zero, List.set_cons_succ])
  refine wpAnyH_take (i := 4) (oi := _) (v := ?_) rfl (by kernel_rfl) (by kernel_rfl) (by kernel_rfl) (fun _ _ _ h => h) (Or.inl ⟨by rfl, ?_⟩) (by assumption) ?_
  rotate_left 1
  · (intro w0 hSw; (try dsimp only at hSw); obtain ⟨s1, s2⟩ := hSw; go_simp; try with_reducible rfl)
  (try simp only [List.getElem_toArray, List.getElem_cons_succ, List.getElem_cons_zero]); (try simp only [Act.put, List.setIfInBounds_toArray, List.set_cons_zero, List.set_cons_succ])
  refine wpAnyH_take (i := 5) (oi := _) (v := ?_) rfl (by kernel_rfl) (by kernel_rfl) (by kernel_rfl) (fun _ _ _ h => h) (Or.inl ⟨by rfl, ?_⟩) (by assumption) ?_
  rotate_left 1
  · (intro w0 hSw; (try dsimp only at hSw); obtain ⟨s1, s2⟩ := hSw; go_simp; try with_reducible rfl)
  (try simp only [List.getElem_toArray, List.getElem_cons_succ, List.getElem_cons_zero]); (try simp only [Act.put, List.setIfInBounds_toArray, List.set_cons_zero, List.set_cons_succ])
  refine wpAnyH_take (i := 6) (oi := _) (v := ?_) rfl (by kernel_rfl) (by kernel_rfl) (by kernel_rfl) (fun _ _ _ h => h) (Or.inl ⟨by rfl, ?_⟩) (by assumption) ?_
  rotate_left 1
  · (intro w0 hSw; (try dsimp only at hSw); obtain ⟨s1, s2⟩ := hSw; go_simp; try with_reducible rfl)
  (try simp only [List.getElem_toArray, List.getElem_cons_succ, List.getElem_cons_zero]); (try simp only [Act.put, List.setIfInBounds_toArray, List.set_cons_zero, List.set_cons_succ])
  refine wpAnyH_ready (rs := [3]) (by kernel_rfl) (by simp) ?_
  refine AllReadyH.cons (o := _) rfl (fun K1 hK => ?_) AllReadyH.nil
  go_simp
  refine Calls.mono (H1.out) ?_
  rintro e w1 ⟨rfl, k1, X1⟩
  try dsimp only
  refine hK _ _ k1 (fun hHeld => ?_)
  clear hK K1
  (try simp only [List.getElem_toArray, List.getElem_cons_succ, List.getElem_cons_zero]); (try simp only [Act.put, List.setIfInBounds_toArray, List.set_cons_zero, List.set_cons_succ])
  have D2 : Hid _ := H2.out w1 X1
  clear H1 X1
  refine wpAnyH_ready (rs := [7]) (by kernel_rfl) (by simp) ?_
  refine AllReadyH.cons (o := _) rfl (fun K1 hK => ?_) AllReadyH.nil
  go_simp
  refine Calls.mono (D2.out) ?_
  rintro e w2 ⟨rfl, k2, Y2⟩
  try dsimp only
  refine hK _ _ k2 (fun hHeld => ?_)
  clear hK K1
  (try simp only [List.getElem_toArray, List.getElem_cons_succ, List.getElem_cons_zero]); (try simp only [Act.put, List.setIfInBounds_toArray, List.set_cons_zero, List.set_cons_succ])
  have D3 : Hid _ := H3.out w2 Y2
  clear D2 Y2
  refine wpAnyH_ready (rs := [8]) (by kernel_rfl) (by simp) ?_
  refine AllReadyH.cons (o := _) rfl (fun K1 hK => ?_) AllReadyH.nil
  go_simp
  refine Calls.mono (D3.out) ?_
  rintro e w3 ⟨rfl, k3, Z3⟩
  try dsimp only
  refine hK _ _ k3 (fun hHeld => ?_)
  clear hK K1
  (try simp only [List.getElem_toArray, List.getElem_cons_succ, List.getElem_cons_zero]); (try simp only [Act.put, List.setIfInBounds_toArray, List.set_cons_zero, List.set_cons_succ])
  refine wpAnyH_take (i := 9) (oi := _) (v := ?_) rfl (by kernel_rfl) (by kernel_rfl) (by kernel_rfl) (fun _ _ _ h => h) (Or.inl ⟨by rfl, ?_⟩) (by assumption) ?_
  rotate_left 1
  · (intro w0 hSw; (try dsimp only at hSw); obtain ⟨s1, s2⟩ := hSw; go_simp; try with_reducible rfl)
  (try simp only [List.getElem_toArray, List.getElem_cons_succ, List.getElem_cons_zero]); (try simp only [Act.put, List.setIfInBounds_toArray, List.set_cons_zero, List.set_cons_succ])
  refine wpAnyH_done (by kernel_rfl) ?_ _
  refine NoPanic.normal ?_
  have fin : Hid (Z w3) := Z3
  clear Z3 D3 H2 H3 k1 k2 k3 sS
  go_wp2_with fail
  go_ret
  exact ⟨rfl, fin.out⟩
set_option maxHeartbeats 8000000 in
theorem call_turn {w : World} {p m : Option Addr} {wh : Int} {mo : Bool} {x : Ent} {la : Option Addr} {ln lc : Nat} {ev bv : Value} {X Y Z : World → Prop}
    (H1 : Calls Tryz.prog 32 #[.pointer p, .string x.2, .int .i64 x.1] (w.alloc (.cells #[.int .i64 2, .int .i64 wh, .bool mo, .int .i64 x.1, .string x.2, .slice la ln lc] 33)).drew fun e w1 => e = .returned ev ∧ BX w.heap.size x w1 ∧ X w1)
    (H2 : ∀ w1, X w1 → Calls Tryz.prog 33 #[.pointer m, .string x.2, .int .i64 x.1] w1 fun e w2 => e = .returned bv ∧ BX w.heap.size x w2 ∧ Y w2)
    (H3 : ∀ w2, Y w2 → Calls Tryz.prog 11 #[ev, bv] w2 fun e w3 => e = .returned (.bool true) ∧ BX w.heap.size x w3 ∧ Z w3) :
    Calls Tryz.prog 12 #[.pointer p, .pointer m, .agg #[.int .i64 2, .int .i64 wh, .bool mo, .int .i64 x.1, .string x.2, .slice la ln lc]] w fun e w' => e = .returned (.bool true) ∧ Z w' := by
  unfold BX at H1 H2 H3
  try unfold eV at H1 H2
  have H1 : Hid _ := H1
  have H2 : Hid _ := H2
  have H3 : Hid _ := H3
  have sS : Hid ((w.alloc (.cells #[.int .i64 2, .int .i64 wh, .bool mo, .int .i64 x.1, .string x.2, .slice la ln lc] 33)).drew.cell? ⟨w.heap.size, 3, none⟩ = some (.int .i64 x.1) ∧ (w.alloc (.cells #[.int .i64 2, .int .i64 wh, .bool mo, .int .i64 x.1, .string x.2, .slice la ln lc] 33)).drew.cell? ⟨w.heap.size, 4, none⟩ = some (.string x.2)) := by constructor <;> simp [go_sem]
  go_enter Tryz.func12, Tryz.ntmps12
  go_wp2_with fail
  refine wp_region_noPanic ?_
  refine wp_region_held_drew (S := fun W => W.cell? ⟨w.heap.size, 3, none⟩ = some (.int .i64 x.1) ∧ W.cell? ⟨w.heap.size, 4, none⟩ = some (.string x.2)) (by kernel_rfl) sS.out (fun hHeld => ?_)
  refine wpAnyH_take (i := 0) (oi := _) (v := ?_) rfl (by kernel_rfl) (by kernel_rfl) (by kernel_rfl) (fun _ _ _ h => h) (Or.inl ⟨by rfl, ?_⟩) (by assumption) ?_
  rotate_left 1
  · (intro w0 hSw; (try dsimp only at hSw); obtain ⟨s1, s2⟩ := hSw; go_simp; try with_reducible rfl)
  (try simp only [List.getElem_toArray, List.getElem_cons_succ, List.getElem_cons_zero]); (try simp only [Act.put, List.setIfInBounds_toArray, List.set_cons_zero, List.set_cons_succ])
  refine wpAnyH_take (i := 1) (oi := _) (v := ?_) rfl (by kernel_rfl) (by kernel_rfl) (by kernel_rfl) (fun _ _ _ h => h) (Or.inl ⟨by rfl, ?_⟩) (by assumption) ?_
  rotate_left 1
  · (intro w0 hSw; (try dsimp only at hSw); obtain ⟨s1, s2⟩ := hSw; go_simp; try with_reducible rfl)
  (try simp only [List.getElem_toArray, List.getElem_cons_succ, List.getElem_cons_zero]); (try simp only [Act.put, List.setIfInBounds_toArray, List.set_cons_zero, List.set_cons_succ])
  refine wpAnyH_take (i := 2) (oi := _) (v := ?_) rfl (by kernel_rfl) (by kernel_rfl) (by kernel_rfl) (fun _ _ _ h => h) (Or.inl ⟨by rfl, ?_⟩) (by assumption) ?_
  rotate_left 1
  · (intro w0 hSw; (try dsimp only at hSw); obtain ⟨s1, s2⟩ := hSw; go_simp; try with_reducible rfl)
  (try simp only [List.getElem_toArray, List.getElem_cons_succ, List.getElem_cons_zero]); (try simp only [Act.put, List.setIfInBounds_toArray, List.set_cons_zero, List.set_cons_succ])
  refine wpAnyH_take (i := 3) (oi := _) (v := ?_) rfl (by kernel_rfl) (by kernel_rfl) (by kernel_rfl) (fun _ _ _ h => h) (Or.inl ⟨by rfl, ?_⟩) (by assumption) ?_
  rotate_left 1
  · (intro w0 hSw; (try dsimp only at hSw); obtain ⟨s1, s2⟩ := hSw; go_simp; try with_reducible rfl)
  (try simp only [List.getElem_toArray, List.getElem_cons_succ, List.getElem_cons_zero]); (try simp only [Act.put, List.setIfInBounds_toArray, List.set_cons_zero, List.set_cons_succ])
  refine wpAnyH_take (i := 4) (oi := _) (v := ?_) rfl (by kernel_rfl) (by kernel_rfl) (by kernel_rfl) (fun _ _ _ h => h) (Or.inl ⟨by rfl, ?_⟩) (by assumption) ?_
  rotate_left 1
  · (intro w0 hSw; (try dsimp only at hSw); obtain ⟨s1, s2⟩ := hSw; go_simp; try with_reducible rfl)
  (try simp only [List.getElem_toArray, List.getElem_cons_succ, List.getElem_cons_zero]); (try simp only [Act.put, List.setIfInBounds_toArray, List.set_cons_zero, List.set_cons_succ])
  refine wpAnyH_take (i := 5) (oi := _) (v := ?_) rfl (by kernel_rfl) (by kernel_rfl) (by kernel_rfl) (fun _ _ _ h => h) (Or.inl ⟨by rfl, ?_⟩) (by assumption) ?_
  rotate_left 1
  · (intro w0 hSw; (try dsimp only at hSw); obtain ⟨s1, s2⟩ := hSw; go_simp; try with_reducible rfl)
  (try simp only [List.getElem_toArray, List.getElem_cons_succ, List.getElem_cons_zero]); (try simp only [Act.put, List.setIfInBounds_toArray, List.set_cons_zero, List.set_cons_succ])
  refine wpAnyH_take (i := 6) (oi := _) (v := ?_) rfl (by kernel_rfl) (by kernel_rfl) (by kernel_rfl) (fun _ _ _ h => h) (Or.inl ⟨by rfl, ?_⟩) (by assumption) ?_
  rotate_left 1
  · (intro w0 hSw; (try dsimp only at hSw); obtain ⟨s1, s2⟩ := hSw; go_simp; try with_reducible rfl)
  (try simp only [List.getElem_toArray, List.getElem_cons_succ, List.getElem_cons_zero]); (try simp only [Act.put, List.setIfInBounds_toArray, List.set_cons_zero, List.set_cons_succ])
  refine wpAnyH_take (i := 8) (oi := _) (v := ?_) rfl (by kernel_rfl) (by kernel_rfl) (by kernel_rfl) (fun _ _ _ h => h) (Or.inl ⟨by rfl, ?_⟩) (by assumption) ?_
  rotate_left 1
  · (intro w0 hSw; (try dsimp only at hSw); obtain ⟨s1, s2⟩ := hSw; go_simp; try with_reducible rfl)
  (try simp only [List.getElem_toArray, List.getElem_cons_succ, List.getElem_cons_zero]); (try simp only [Act.put, List.setIfInBounds_toArray, List.set_cons_zero, List.set_cons_succ])
  refine wpAnyH_take (i := 9) (oi := _) (v := ?_) rfl (by kernel_rfl) (by kernel_rfl) (by kernel_rfl) (fun _ _ _ h => h) (Or.inl ⟨by rfl, ?_⟩) (by assumption) ?_
  rotate_left 1
  · (intro w0 hSw; (try dsimp only at hSw); obtain ⟨s1, s2⟩ := hSw; go_simp; try with_reducible rfl)
  (try simp only [List.getElem_toArray, List.getElem_cons_succ, List.getElem_cons_zero]); (try simp only [Act.put, List.setIfInBounds_toArray, List.set_cons_zero, List.set_cons_succ])
  refine wpAnyH_take (i := 10) (oi := _) (v := ?_) rfl (by kernel_rfl) (by kernel_rfl) (by kernel_rfl) (fun _ _ _ h => h) (Or.inl ⟨by rfl, ?_⟩) (by assumption) ?_
  rotate_left 1
  · (intro w0 hSw; (try dsimp only at hSw); obtain ⟨s1, s2⟩ := hSw; go_simp; try with_reducible rfl)
  (try simp only [List.getElem_toArray, List.getElem_cons_succ, List.getElem_cons_zero]); (try simp only [Act.put, List.setIfInBounds_toArray, List.set_cons_zero, List.set_cons_succ])
  refine wpAnyH_take (i := 11) (oi := _) (v := ?_) rfl (by kernel_rfl) (by kernel_rfl) (by kernel_rfl) (fun _ _ _ h => h) (Or.inl ⟨by rfl, ?_⟩) (by assumption) ?_
  rotate_left 1
  · (intro w0 hSw; (try dsimp only at hSw); obtain ⟨s1, s2⟩ := hSw; go_simp; try with_reducible rfl)
  (try simp only [List.getElem_toArray, List.getElem_cons_succ, List.getElem_cons_zero]); (try simp only [Act.put, List.setIfInBounds_toArray, List.set_cons_zero, List.set_cons_succ])
  refine wpAnyH_take (i := 12) (oi := _) (v := ?_) rfl (by kernel_rfl) (by kernel_rfl) (by kernel_rfl) (fun _ _ _ h => h) (Or.inl ⟨by rfl, ?_⟩) (by assumption) ?_
  rotate_left 1
  · (intro w0 hSw; (try dsimp only at hSw); obtain ⟨s1, s2⟩ := hSw; go_simp; try with_reducible rfl)
  (try simp only [List.getElem_toArray, List.getElem_cons_succ, List.getElem_cons_zero]); (try simp only [Act.put, List.setIfInBounds_toArray, List.set_cons_zero, List.set_cons_succ])
  refine wpAnyH_take (i := 13) (oi := _) (v := ?_) rfl (by kernel_rfl) (by kernel_rfl) (by kernel_rfl) (fun _ _ _ h => h) (Or.inl ⟨by rfl, ?_⟩) (by assumption) ?_
  rotate_left 1
  · (intro w0 hSw; (try dsimp only at hSw); obtain ⟨s1, s2⟩ := hSw; go_simp; try with_reducible rfl)
  (try simp only [List.getElem_toArray, List.getElem_cons_succ, List.getElem_cons_zero]); (try simp only [Act.put, List.setIfInBounds_toArray, List.set_cons_zero, List.set_cons_succ])
  refine wpAnyH_take (i := 14) (oi := _) (v := ?_) rfl (by kernel_rfl) (by kernel_rfl) (by kernel_rfl) (fun _ _ _ h => h) (Or.inl ⟨by rfl, ?_⟩) (by assumption) ?_
  rotate_left 1
  · (intro w0 hSw; (try dsimp only at hSw); obtain ⟨s1, s2⟩ := hSw; go_simp; try with_reducible rfl)
  (try simp only [List.getElem_toArray, List.getElem_cons_succ, List.getElem_cons_zero]); (try simp only [Act.put, List.setIfInBounds_toArray, List.set_cons_zero, List.set_cons_succ])
  refine wpAnyH_ready (rs := [7]) (by kernel_rfl) (by simp) ?_
  refine AllReadyH.cons (o := _) rfl (fun K1 hK => ?_) AllReadyH.nil
  go_simp
  refine Calls.mono (H1.out) ?_
  rintro e w1 ⟨rfl, k1, X1⟩
  try dsimp only
  refine hK _ _ k1 (fun hHeld => ?_)
  clear hK K1
  (try simp only [List.getElem_toArray, List.getElem_cons_succ, List.getElem_cons_zero]); (try simp only [Act.put, List.setIfInBounds_toArray, List.set_cons_zero, List.set_cons_succ])
  have D2 : Hid _ := H2.out w1 X1
  clear H1 X1
  refine wpAnyH_ready (rs := [15]) (by kernel_rfl) (by simp) ?_
  refine AllReadyH.cons (o := _) rfl (fun K1 hK => ?_) AllReadyH.nil
  go_simp
  refine Calls.mono (D2.out) ?_
  rintro e w2 ⟨rfl, k2, Y2⟩
  try dsimp only
  refine hK _ _ k2 (fun hHeld => ?_)
  clear hK K1
  (try simp only [List.getElem_toArray, List.getElem_cons_succ, List.getElem_cons_zero]); (try simp only [Act.put, List.setIfInBounds_toArray, List.set_cons_zero, List.set_cons_succ])
  have D3 : Hid _ := H3.out w2 Y2
  clear D2 Y2
  refine wpAnyH_ready (rs := [16]) (by kernel_rfl) (by simp) ?_
  refine AllReadyH.cons (o := _) rfl (fun K1 hK => ?_) AllReadyH.nil
  go_simp
  refine Calls.mono (D3.out) ?_
  rintro e w3 ⟨rfl, k3, Z3⟩
  try dsimp only
  refine hK _ _ k3 (fun hHeld => ?_)
  clear hK K1
  (try simp only [List.getElem_toArray, List.getElem_cons_succ, List.getElem_cons_zero]); (try simp only [Act.put, List.setIfInBounds_toArray, List.set_cons_zero, List.set_cons_succ])
  refine wpAnyH_take (i := 17) (oi := _) (v := ?_) rfl (by kernel_rfl) (by kernel_rfl) (by kernel_rfl) (fun _ _ _ h => h) (Or.inl ⟨by rfl, ?_⟩) (by assumption) ?_
  rotate_left 1
  · (intro w0 hSw; (try dsimp only at hSw); obtain ⟨s1, s2⟩ := hSw; go_simp; try with_reducible rfl)
  (try simp only [List.getElem_toArray, List.getElem_cons_succ, List.getElem_cons_zero]); (try simp only [Act.put, List.setIfInBounds_toArray, List.set_cons_zero, List.set_cons_succ])
  refine wpAnyH_done (by kernel_rfl) ?_ _
  refine NoPanic.normal ?_
  have fin : Hid (Z w3) := Z3
  clear Z3 D3 H2 H3 k1 k2 k3 sS
  go_wp2_with fail
  go_ret
  exact ⟨rfl, fin.out⟩
set_option maxHeartbeats 8000000 in
theorem call_take {w : World} {p m : Option Addr} {wh : Int} {mo : Bool} {x y : Ent} {la : Option Addr} {ln lc : Nat} {er : Value} {cd : Int} {X Y Z : World → Prop} (hev : er = .nilIface ∨ ∃ i, er = .iface 41 (.int .i64 i))
    (H1 : Calls Tryz.prog 30 #[.pointer p, .string x.2] (w.alloc (.cells #[.int .i64 1, .int .i64 wh, .bool mo, .int .i64 x.1, .string x.2, .slice la ln lc] 33)) fun e w1 => e = .returned (.tuple #[eV y, er]) ∧ BX w.heap.size x w1 ∧ X w1)
    (H2 : ∀ w1, X w1 → ∀ W, W = w1.alloc (.cells #[.int .i64 y.1, .string y.2] 30) → BX w.heap.size x W ∧ Calls Tryz.prog 31 #[.pointer m, .string x.2] W fun e w2 => e = .returned (.tuple #[eV y, bV cd]) ∧ EB w2 w1.heap.size y ∧ Y w2)
    (H3 : ∀ w2, Y w2 → ∀ W, Below w2.heap.size w2 W → Calls Tryz.prog 11 #[er, bV cd] W fun e w3 => e = .returned (.bool true) ∧ Z w3) :
    Calls Tryz.prog 12 #[.pointer p, .pointer m, .agg #[.int .i64 1, .int .i64 wh, .bool mo, .int .i64 x.1, .string x.2, .slice la ln lc]] w fun e w' => e = .returned (.bool true) ∧ Z w' := by
  unfold BX at H1 H2
  unfold eV at H1 H2
  unfold bV at H2 H3
  have H1 : Hid _ := H1
  have H2 : Hid _ := H2
  have H3 : Hid _ := H3
  obtain ⟨W0, hW0⟩ : ∃ W0, W0 = w.alloc (.cells #[.int .i64 1, .int .i64 wh, .bool mo, .int .i64 x.1, .string x.2, .slice la ln lc] 33) := ⟨_, rfl⟩
  go_enter Tryz.func12, Tryz.ntmps12
  go_wp2_with fail
  refine Calls.mono H1.out ?_
  rintro e w1 ⟨rfl, ⟨k1, k2⟩, X1⟩
  obtain ⟨W1, hW1⟩ : ∃ W1, W1 = w1.alloc (.cells #[.int .i64 y.1, .string y.2] 30) := ⟨_, rfl⟩
  obtain ⟨K1, hK1⟩ : ∃ K1, K1 = w1.heap.size := ⟨_, rfl⟩
  obtain ⟨⟨q1, q2⟩, D2⟩ := H2.out w1 X1 W1 hW1
  rw [← hK1] at D2
  have D2 : Hid _ := D2
  rw [hW1] at q1 q2
  clear X1 H1 H2 k1 k2 hW0
  go_wp2_with fail
  rw [← hW1, ← hK1]
  clear hW1 hK1 q1 q2
  refine Calls.mono D2.out ?_
  rintro e w2 ⟨rfl, eb, Y2⟩
  obtain ⟨W2, hW2⟩ : ∃ W2, W2 = (w2.alloc (.cells #[.int .i64 y.1, .string y.2] 30)).alloc (.cells #[.int .i64 cd, .int .i64 0, .int .i64 0, .bool false, .bool false] 43) := ⟨_, rfl⟩
  have b2 : Below w2.heap.size w2 W2 := by rw [hW2]; exact ((Below.refl _ w2).alloc (Nat.le_refl _) _).alloc (by simp) _
  have D3 : Hid _ := H3.out w2 Y2 W2 b2
  have e1 := eb.below b2
  obtain ⟨_, u0, u1⟩ := e1
  rw [hW2] at u0 u1
  clear eb Y2 H3 D2 b2
  go_wp2_with fail
  rw [← hW2]
  clear hW2 u0 u1
  refine Calls.mono D3.out ?_
  rintro e w3 ⟨rfl, Z3⟩
  have fin : Hid (Z w3) := Z3
  clear Z3 D3
  go_wp2_with fail
  go_ret
  exact ⟨rfl, fin.out⟩
set_option maxHeartbeats 8000000 in
theorem call_pop {w : World} {p m : Option Addr} {wh : Int} {mo : Bool} {x y : Ent} {la : Option Addr} {ln lc : Nat} {er : Value} {cd : Int} {X Y Z : World → Prop} (hev : er = .nilIface ∨ ∃ i, er = .iface 41 (.int .i64 i))
    (H1 : Calls Tryz.prog 34 #[.pointer p] (w.alloc (.cells #[.int .i64 3, .int .i64 wh, .bool mo, .int .i64 x.1, .string x.2, .slice la ln lc] 33)) fun e w1 => e = .returned (.tuple #[eV y, er]) ∧ BX w.heap.size x w1 ∧ X w1)
    (H2 : ∀ w1, X w1 → ∀ W, W = w1.alloc (.cells #[.int .i64 y.1, .string y.2] 30) → BX w.heap.size x W ∧ Calls Tryz.prog 35 #[.pointer m] W fun e w2 => e = .returned (.tuple #[eV y, bV cd]) ∧ EB w2 w1.heap.size y ∧ Y w2)
    (H3 : ∀ w2, Y w2 → ∀ W, Below w2.heap.size w2 W → Calls Tryz.prog 11 #[er, bV cd] W fun e w3 => e = .returned (.bool true) ∧ Z w3) :
    Calls Tryz.prog 12 #[.pointer p, .pointer m, .agg #[.int .i64 3, .int .i64 wh, .bool mo, .int .i64 x.1, .string x.2, .slice la ln lc]] w fun e w' => e = .returned (.bool true) ∧ Z w' := by
  unfold BX at H1 H2
  unfold eV at H1 H2
  unfold bV at H2 H3
  have H1 : Hid _ := H1
  have H2 : Hid _ := H2
  have H3 : Hid _ := H3
  obtain ⟨W0, hW0⟩ : ∃ W0, W0 = w.alloc (.cells #[.int .i64 3, .int .i64 wh, .bool mo, .int .i64 x.1, .string x.2, .slice la ln lc] 33) := ⟨_, rfl⟩
  go_enter Tryz.func12, Tryz.ntmps12
  go_wp2_with fail
  refine Calls.mono H1.out ?_
  rintro e w1 ⟨rfl, ⟨k1, k2⟩, X1⟩
  obtain ⟨W1, hW1⟩ : ∃ W1, W1 = w1.alloc (.cells #[.int .i64 y.1, .string y.2] 30) := ⟨_, rfl⟩
  obtain ⟨K1, hK1⟩ : ∃ K1, K1 = w1.heap.size := ⟨_, rfl⟩
  obtain ⟨⟨q1, q2⟩, D2⟩ := H2.out w1 X1 W1 hW1
  rw [← hK1] at D2
  have D2 : Hid _ := D2
  rw [hW1] at q1 q2
  clear X1 H1 H2 k1 k2 hW0
  go_wp2_with fail
  rw [← hW1, ← hK1]
  clear hW1 hK1 q1 q2
  refine Calls.mono D2.out ?_
  rintro e w2 ⟨rfl, eb, Y2⟩
  obtain ⟨W2, hW2⟩ : ∃ W2, W2 = (w2.alloc (.cells #[.int .i64 y.1, .string y.2] 30)).alloc (.cells #[.int .i64 cd, .int .i64 0, .int .i64 0, .bool false, .bool false] 43) := ⟨_, rfl⟩
  have b2 : Below w2.heap.size w2 W2 := by rw [hW2]; exact ((Below.refl _ w2).alloc (Nat.le_refl _) _).alloc (by simp) _
  have D3 : Hid _ := H3.out w2 Y2 W2 b2
  have e1 := eb.below b2
  obtain ⟨_, u0, u1⟩ := e1
  rw [hW2] at u0 u1
  clear eb Y2 H3 D2 b2
  go_wp2_with fail
  rw [← hW2]
  clear hW2 u0 u1
  refine Calls.mono D3.out ?_
  rintro e w3 ⟨rfl, Z3⟩
  have fin : Hid (Z w3) := Z3
  clear Z3 D3
  go_wp2_with fail
  go_ret
  exact ⟨rfl, fin.out⟩
set_option maxHeartbeats 8000000 in
theorem call_else {w : World} {p m : Option Addr} {k wh : Int} {mo : Bool} {x : Ent} {la : Option Addr} {ln lc : Nat} {Z : World → Prop} (hk : k ≠ 0 ∧ k ≠ 1 ∧ k ≠ 2 ∧ k ≠ 3)
    (H1 : Calls Tryz.prog 13 #[.pointer p, .pointer m, .string x.2] (w.alloc (.cells #[.int .i64 k, .int .i64 wh, .bool mo, .int .i64 x.1, .string x.2, .slice la ln lc] 33)) fun e w1 => e = .returned (.bool true) ∧ Z w1) :
    Calls Tryz.prog 12 #[.pointer p, .pointer m, .agg #[.int .i64 k, .int .i64 wh, .bool mo, .int .i64 x.1, .string x.2, .slice la ln lc]] w fun e w' => e = .returned (.bool true) ∧ Z w' := by
  obtain ⟨h0, h1, h2, h3⟩ := hk
  have g0 : (k == 0) = false := by simpa using h0
  have g1 : (k == 1) = false := by simpa using h1
  have g2 : (k == 2) = false := by simpa using h2
  have g3 : (k == 3) = false := by simpa using h3
  have H1 : Hid _ := H1
  go_enter Tryz.func12, Tryz.ntmps12
  go_wp2_with fail
  refine Calls.mono H1.out ?_
  rintro e w1 ⟨rfl, Z1⟩
  have fin : Hid (Z w1) := Z1
  clear Z1 H1
  go_wp2_with fail
  go_ret
  exact ⟨rfl, fin.out⟩
end Go.Proofs.YtboacnpbicedfaaGreatDoor.Hp
