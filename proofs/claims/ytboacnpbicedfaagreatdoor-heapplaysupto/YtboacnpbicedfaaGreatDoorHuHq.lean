
import Derived.Test.YtboacnpbicedfaaGreatDoorByG
namespace Go.Proofs.YtboacnpbicedfaaGreatDoor.Hp
open Go.RowKit Go.Maps
set_option linter.unusedVariables false
set_option linter.unusedSimpArgs false
set_option maxRecDepth 100000
theorem dfork_nil (w : World) : Calls Tryz.prog 8 #[.pointer none] w fun e w' => e = .returned (.pointer none) ∧ w' = w := by
  go_enter Tryz.func8, Tryz.ntmps8
  go_wp2_with fail
  go_ret
  exact ⟨rfl, rfl⟩
set_option maxHeartbeats 4000000 in
theorem dfork_any {w : World} {B dp : Nat} {most : Bool} {v : Value} {L : List Ent} {mv : Int} (h : DS w B dp most v L mv) (hL : L.length ≤ 1099511627776) : Calls Tryz.prog 8 #[.pointer (some ⟨dp, 0, none⟩)] w fun e w' => ∃ v', e = .returned (.pointer (some ⟨w.heap.size, 0, none⟩)) ∧ DS w' (w.heap.size + 1) w.heap.size most v' L mv ∧ Below w.heap.size w w' := by
  have c0 := h.c0
  have c1 := h.c1
  have c2 := h.c2
  obtain ⟨W1, hW1⟩ : ∃ W1, W1 = (w.alloc (.cells #[.slice none 0 0, .bool most, .int .i64 mv] 56)).drew := ⟨_, rfl⟩
  obtain ⟨F, hF⟩ : ∃ F, F = w.heap.size := ⟨_, rfl⟩
  have b1 : Below w.heap.size w W1 := by rw [hW1]; exact ((Below.refl _ w).alloc (Nat.le_refl _) _).drew
  have sz1 : W1.heap.size = w.heap.size + 1 := by rw [hW1]; simp
  have D1 : DS W1 (w.heap.size + 1) F most (.slice none 0 0) [] mv := by
    refine ⟨?_, ?_, ?_, ?_, ?_, OE.nil _ _, fun _ e => by (cases e), by omega, by omega⟩
    all_goals (rw [hW1, hF]; simp [go_sem])
  have O1 := (h.below b1).drew
  obtain ⟨a, cap, rfl, hcap, hE⟩ := O1.row.ein
  obtain ⟨v', w8, rA, o8, g8, hat⟩ := appE W1.drew (w.heap.size + 1) (.slice none 0 0) [] L D1.drew.row D1.drew.bs a cap hE (by simp; omega)
  have hl := h.hl
  have k8 : ∀ b, b < W1.heap.size → w8.heap[b]? = W1.heap[b]? := fun b hb => g8.block b hb (fun e => by cases e)
  have c8 : ∀ b o, b < W1.heap.size → w8.cell? ⟨b, o, none⟩ = W1.cell? ⟨b, o, none⟩ := fun b o hb => World.cell?_of_block (w := W1) (a := ⟨b, o, none⟩) (k8 b hb)
  have z8 : ∀ o, w8.frozen? ⟨F, o, none⟩ = W1.frozen? ⟨F, o, none⟩ := fun o => by simp [World.frozen?, k8 F (by omega)]
  have sz8 : W1.heap.size ≤ w8.heap.size := g8.size
  have vF : ∀ g, v'.ownBlock = some g → F ≠ g := fun g e => by
    rcases hat with q | q
    · rw [q] at e; cases e
    · rw [q] at e; injection e with e; have : W1.drew.heap.size = W1.heap.size := rfl; omega
  simp only [List.nil_append] at o8
  obtain ⟨W3, hW3⟩ : ∃ W3, W3 = w8.setCell ⟨F, 0, none⟩ v' := ⟨_, rfl⟩
  have b8 : Below w.heap.size w w8 := ⟨g8.os.trans b1.os, g8.tape.trans b1.tape, g8.output.trans b1.output, by omega, fun k hk => by rw [k8 k (by omega)]; exact b1.block k hk⟩
  have fin : Hid (DS W3 (w.heap.size + 1) F most v' L mv ∧ Below w.heap.size w W3) := by
    refine ⟨⟨?_, ?_, ?_, ?_, ?_, ?_, vF, ?_, ?_⟩, ?_⟩
    · rw [hW3]; exact World.cell?_setCell_same _ _ _ (by rw [c8 F 0 (by omega)]; exact D1.c0)
    · rw [hW3, World.cell?_setCell_other _ _ _ _ (by intro q; injection q; omega), c8 F 1 (by omega)]; exact D1.c1
    · rw [hW3, World.cell?_setCell_other _ _ _ _ (by intro q; injection q; omega), c8 F 2 (by omega)]; exact D1.c2
    · rw [hW3, World.frozen?_setCell, z8]; exact D1.z0
    · rw [hW3, World.frozen?_setCell, z8]; exact D1.z2
    · rw [hW3]; exact ownsRow_setCell_ne o8 _ vF _
    · rw [hW3]; simp; omega
    · rw [hW3]; simp; omega
    · rw [hW3]; exact b8.setCell (p := ⟨F, 0, none⟩) (by show w.heap.size ≤ F; omega) _
  obtain ⟨av, cv, hv, _, _⟩ := o8.form
  subst hv
  have sS : Hid (W1.drew.cell? ⟨dp, 0, none⟩ = some (.slice a L.length cap)) := O1.c0
  have sB : Hid (w8.cell? ⟨dp, 0, none⟩ = some (.slice a L.length cap)) := by show w8.cell? _ = _; rw [c8 dp 0 (by omega)]; exact O1.c0
  have sC : Hid ((w8.setCell ⟨F, 0, none⟩ (.slice av L.length cv)).cell? ⟨dp, 0, none⟩ = some (.slice a L.length cap)) := by
    show World.cell? _ _ = _
    rw [World.cell?_setCell_other _ _ _ _ (by intro q; injection q; omega)]; exact sB.out
  have rF : Hid (∀ W, W = W1.drew → (Builtin.append_ #[31, 31] 31 #[.slice none 0 0, .slice a L.length cap]).run Tryz.prog W = .ok (.slice av L.length cv) w8) := fun W e => by subst e; exact rA
  have f0 : W1.cell? ⟨F, 0, none⟩ = some (.slice none 0 0) := D1.c0
  have f8 : w8.cell? ⟨F, 0, none⟩ = some (.slice none 0 0) := by rw [c8 F 0 (by omega)]; exact D1.c0
  have fz : w8.frozen? ⟨F, 0, none⟩ = false := by rw [z8]; exact D1.z0
  have c0 := h.c0
  have hW3H : Hid (W3 = w8.setCell ⟨F, 0, none⟩ (.slice av L.length cv)) := hW3
  have hFH : Hid (F = w.heap.size) := hF
  rw [← hF] at fin ⊢
  generalize L.length = n at *
  clear D1 O1 hcap hE rA o8 g8 hat hl k8 c8 z8 sz8 vF hW3 b8 b1 sz1 hL h
  go_enter Tryz.func8, Tryz.ntmps8
  go_wp2_with fail
  go_region
  rw [← hW1, ← hF]
  clear hW1 c0 c1 c2 hF
  go_wp2_with fail
  refine wp_region_noPanic ?_
  refine wp_region_held_drew (S := fun W => W.cell? ⟨dp, 0, none⟩ = some (.slice a n cap)) (by kernel_rfl) sS.out (fun hHeld => ?_)
  refine wpAnyH_take (i := 0) (oi := _) (v := ?_) rfl (by kernel_rfl) (by kernel_rfl) (by kernel_rfl) (fun _ _ _ h => h) (Or.inl ⟨by rfl, ?_⟩) (by assumption) ?_
  rotate_left 1
  · (intro w0 hSw; (try dsimp only at hSw); have s1 := hSw; go_simp; try with_reducible rfl)
  (try simp only [List.getElem_toArray, List.getElem_cons_succ, List.getElem_cons_zero]); (try simp only [Act.put, List.setIfInBounds_toArray, List.set_cons_zero, List.set_cons_succ])
  refine wpAnyH_take (i := 1) (oi := _) (v := ?_) rfl (by kernel_rfl) (by kernel_rfl) (by kernel_rfl) (fun _ _ _ h => h) (Or.inl ⟨by rfl, ?_⟩) (by assumption) ?_
  rotate_left 1
  · (intro w0 hSw; (try dsimp only at hSw); have s1 := hSw; go_simp; try with_reducible rfl)
  (try simp only [List.getElem_toArray, List.getElem_cons_succ, List.getElem_cons_zero]); (try simp only [Act.put, List.setIfInBounds_toArray, List.set_cons_zero, List.set_cons_succ])
  refine wpAnyH_take (i := 2) (oi := _) (v := ?_) rfl (by kernel_rfl) (by kernel_rfl) (by kernel_rfl) (fun _ _ _ h => h) (Or.inl ⟨by rfl, ?_⟩) (by assumption) ?_
  rotate_left 1
  · (intro w0 hSw; (try dsimp only at hSw); have s1 := hSw; go_simp; try with_reducible rfl)
  (try simp only [List.getElem_toArray, List.getElem_cons_succ, List.getElem_cons_zero]); (try simp only [Act.put, List.setIfInBounds_toArray, List.set_cons_zero, List.set_cons_succ])
  refine wpAnyH_take (i := 3) (oi := _) (v := ?_) rfl (by kernel_rfl) (by kernel_rfl) (by kernel_rfl) (fun _ _ _ h => h) (Or.inl ⟨by rfl, ?_⟩) (by assumption) ?_
  rotate_left 1
  · (intro w0 hSw; (try dsimp only at hSw); have s1 := hSw; go_simp; try with_reducible rfl)
  (try simp only [List.getElem_toArray, List.getElem_cons_succ, List.getElem_cons_zero]); (try simp only [Act.put, List.setIfInBounds_toArray, List.set_cons_zero, List.set_cons_succ])
  refine wpAnyH_take (i := 5) (oi := _) (v := ?_) rfl (by kernel_rfl) (by kernel_rfl) (by kernel_rfl) (fun _ _ _ h => h) (Or.inl ⟨by rfl, ?_⟩) (by assumption) ?_
  rotate_left 1
  · (intro w0 hSw; (try dsimp only at hSw); have s1 := hSw; go_simp; try with_reducible rfl)
  (try simp only [List.getElem_toArray, List.getElem_cons_succ, List.getElem_cons_zero]); (try simp only [Act.put, List.setIfInBounds_toArray, List.set_cons_zero, List.set_cons_succ])
  refine wpAnyH_take (i := 6) (oi := _) (v := ?_) rfl (by kernel_rfl) (by kernel_rfl) (by kernel_rfl) (fun _ _ _ h => h) (Or.inl ⟨by rfl, ?_⟩) (by assumption) ?_
  rotate_left 1
  · (intro w0 hSw; (try dsimp only at hSw); have s1 := hSw; go_simp; try with_reducible rfl)
  (try simp only [List.getElem_toArray, List.getElem_cons_succ, List.getElem_cons_zero]); (try simp only [Act.put, List.setIfInBounds_toArray, List.set_cons_zero, List.set_cons_succ])
  refine wpAnyH_take (i := 7) (oi := _) (v := ?_) rfl (by kernel_rfl) (by kernel_rfl) (by kernel_rfl) (fun _ _ _ h => h) (Or.inl ⟨by rfl, ?_⟩) (by assumption) ?_
  rotate_left 1
  · (intro w0 hSw; (try dsimp only at hSw); have s1 := hSw; go_simp; try with_reducible rfl)
  (try simp only [List.getElem_toArray, List.getElem_cons_succ, List.getElem_cons_zero]); (try simp only [Act.put, List.setIfInBounds_toArray, List.set_cons_zero, List.set_cons_succ])
  refine wpAnyH_take (i := 8) (oi := _) (v := ?_) rfl (by kernel_rfl) (by kernel_rfl) (by kernel_rfl) (fun _ _ _ h => h) (Or.inl ⟨by rfl, ?_⟩) (by assumption) ?_
  rotate_left 1
  · (intro w0 hSw; (try dsimp only at hSw); have s1 := hSw; go_simp; try with_reducible rfl)
  (try simp only [List.getElem_toArray, List.getElem_cons_succ, List.getElem_cons_zero]); (try simp only [Act.put, List.setIfInBounds_toArray, List.set_cons_zero, List.set_cons_succ])
  refine wpAnyH_ready (rs := [4]) (by kernel_rfl) (by simp) ?_
  refine AllReadyH.cons (o := _) rfl (fun K1 hK => ?_) AllReadyH.nil
  go_simp
  try dsimp only
  refine hK _ _ sS.out (fun hHeld => ?_)
  clear hK K1
  (try simp only [List.getElem_toArray, List.getElem_cons_succ, List.getElem_cons_zero]); (try simp only [Act.put, List.setIfInBounds_toArray, List.set_cons_zero, List.set_cons_succ])
  refine wpAnyH_ready (rs := [9]) (by kernel_rfl) (by simp) ?_
  refine AllReadyH.cons (o := _) rfl (fun K1 hK => ?_) AllReadyH.nil
  refine step_append_runH rfl (.tmp 20) (.tmp 24) 31 rfl _ _ _ _ rfl rfl (rF.out _ rfl) ?_
  refine hK _ _ sB.out (fun hHeld => ?_)
  clear hK K1
  (try simp only [List.getElem_toArray, List.getElem_cons_succ, List.getElem_cons_zero]); (try simp only [Act.put, List.setIfInBounds_toArray, List.set_cons_zero, List.set_cons_succ])
  refine wpAnyH_take (i := 10) (oi := _) (v := ?_) rfl (by kernel_rfl) (by kernel_rfl) (by kernel_rfl) (fun _ _ _ h => h) (Or.inl ⟨by rfl, ?_⟩) (by assumption) ?_
  rotate_left 1
  · (intro w0 hSw; (try dsimp only at hSw); have s1 := hSw; go_simp; try with_reducible rfl)
  (try simp only [List.getElem_toArray, List.getElem_cons_succ, List.getElem_cons_zero]); (try simp only [Act.put, List.setIfInBounds_toArray, List.set_cons_zero, List.set_cons_succ])
  refine wpAnyH_take (i := 11) (oi := _) (v := ?_) rfl (by kernel_rfl) (by kernel_rfl) (by kernel_rfl) (fun _ _ _ h => h) (Or.inl ⟨by rfl, ?_⟩) (by assumption) ?_
  rotate_left 1
  · (intro w0 hSw; (try dsimp only at hSw); have s1 := hSw; go_simp; try with_reducible rfl)
  (try simp only [List.getElem_toArray, List.getElem_cons_succ, List.getElem_cons_zero]); (try simp only [Act.put, List.setIfInBounds_toArray, List.set_cons_zero, List.set_cons_succ])
  refine wpAnyH_ready (rs := [12]) (by kernel_rfl) (by simp) ?_
  refine AllReadyH.cons (o := _) rfl (fun K1 hK => ?_) AllReadyH.nil
  go_simp
  try dsimp only
  refine hK _ _ sC.out (fun hHeld => ?_)
  clear hK K1
  (try simp only [List.getElem_toArray, List.getElem_cons_succ, List.getElem_cons_zero]); (try simp only [Act.put, List.setIfInBounds_toArray, List.set_cons_zero, List.set_cons_succ])
  refine wpAnyH_done (by kernel_rfl) ?_ _
  refine NoPanic.normal ?_
  clear sS sB sC rF f0 f8 fz hHeld
  go_wp2_with fail
  rw [← hW3H.out]
  clear hW3H
  go_wp2_with fail
  go_ret
  exact ⟨_, rfl, fin.out⟩
end Go.Proofs.YtboacnpbicedfaaGreatDoor.Hp
