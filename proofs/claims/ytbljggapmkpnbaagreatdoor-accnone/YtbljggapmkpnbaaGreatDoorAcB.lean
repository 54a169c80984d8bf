
import Derived.Test.YtbljggapmkpnbaaGreatDoorAcA
namespace Go.Proofs.YtbljggapmkpnbaaGreatDoor.Ac
open Go.RowKit Go.Maps Hp
set_option linter.unusedVariables false
set_option linter.unusedSimpArgs false
set_option maxRecDepth 100000
theorem AX.op {w wr W w' : World} {X : Nat} {L L' : List Ent} {mv mv' : Int} {v : Value} {f : ByteArray → Option Nat} (h : AX w X L mv wr) (hs : HS wr (X + 2) (w.heap.size + 1) w.heap.size true v none f L mv) (hb : Below wr.heap.size wr W) (op : OP W (X + 2) (w.heap.size + 1) w.heap.size true v L' mv' w') : AX w X L' mv' w' ∧ ∀ k, wr.heap.size ≤ k → k < W.heap.size → w'.heap[k]? = W.heap[k]? := by
  have hW := h.below hb
  obtain ⟨v', f', hs', _⟩ := op.hs
  have sz := hW.sz
  have sz0 := h.sz
  have hX := h.hX
  have rl : ∀ k, v.ownBlock = some k → X + 2 ≤ k ∧ k < wr.heap.size := fun k e => World.ownsRow.lt hs.row k e
  have kX : w'.heap[X]? = W.heap[X]? := op.fr.keep X (by omega) (by omega) (by omega) (fun e => by have := (rl _ e.symm).1; omega)
  have kA : w'.heap[X + 1]? = W.heap[X + 1]? := op.fr.keep (X + 1) (by omega) (by omega) (by omega) (fun e => by have := (rl _ e.symm).1; omega)
  refine ⟨⟨by rw [World.cell?_of_block (w := W) (a := ⟨X + 1, 0, none⟩) kA]; exact hW.a0, by rw [World.cell?_of_block (w := W) (a := ⟨X + 1, 1, none⟩) kA]; exact hW.a1, by rw [World.cell?_of_block (w := W) (a := ⟨X, 0, none⟩) kX]; exact hW.x0, ⟨v', f', hs'⟩, ?_, Nat.le_trans sz op.fr.size, hX⟩, fun k k1 k2 => op.fr.keep k k2 (by omega) (by omega) (fun e => by have := (rl _ e.symm).2; omega)⟩
  exact hW.bl.trans (op.fr.into (N := w.heap.size) (by omega) (by omega) (fun k e => by have := (rl _ e).1; omega) hW.bl.size)
/-- what a Put does, whatever lies above. -/
def PutC (w : World) (X : Nat) (L' : List Ent) (mv' : Int) (n : Int) (r : Value) (wr : World) : Prop := ∀ W, Below wr.heap.size wr W → Calls Tryz.prog 117 #[.pointer (some ⟨w.heap.size + 1, 0, none⟩), .agg #[.int .i64 n, .string ⟨#[49, 32, 97]⟩]] W fun e w' => e = .returned r ∧ AX w X L' mv' w' ∧ ∀ k, wr.heap.size ≤ k → k < W.heap.size → w'.heap[k]? = W.heap[k]?
theorem put_first {w wr : World} {X : Nat} (h : AX w X [] 0 wr) (n : Int) : PutC w X [(n, ⟨#[49, 32, 97]⟩)] 0 n .nilIface wr := fun W hb => by
  obtain ⟨v, f, hs⟩ := h.hs
  have hs1 := hs.below hb
  have hf : f ⟨#[49, 32, 97]⟩ = none := by
    cases e : f ⟨#[49, 32, 97]⟩ with
    | none => rfl
    | some i => have := (hs.pl.lt (by simp) e).1; simp at this
  refine (put_ok hs1 (h.below hb).sz (n, ⟨#[49, 32, 97]⟩) (show (⟨#[49, 32, 97]⟩ : ByteArray).size ≤ 9223372036854775807 by decide) hf (by decide)).mono fun e w' hh => ⟨hh.1, ?_⟩
  have e0 : upL (ahd true) ([] ++ [(n, (⟨#[49, 32, 97]⟩ : ByteArray))]) ([] : List Ent).length = ([(n, ⟨#[49, 32, 97]⟩)], 0) := upL_stop (by rintro ⟨q, _⟩; simp at q)
  have op := hh.2
  rw [e0] at op
  exact h.op hs hb op
theorem put_again {w wr : World} {X : Nat} {m : Int} {mv : Int} (h : AX w X [(m, ⟨#[49, 32, 97]⟩)] mv wr) (n : Int) : PutC w X [(m, ⟨#[49, 32, 97]⟩)] mv n (.iface 59 (.int .i64 5)) wr := fun W hb => by
  obtain ⟨v, f, hs⟩ := h.hs
  have hs1 := hs.below hb
  have hf : f ⟨#[49, 32, 97]⟩ ≠ none := by
    have := hs.pl.at (i := 0) (by simp)
    have e : (atE [(m, (⟨#[49, 32, 97]⟩ : ByteArray))] 0).2 = ⟨#[49, 32, 97]⟩ := rfl
    rw [e] at this
    rw [this]; simp
  refine (put_known hs1 (n, ⟨#[49, 32, 97]⟩) (show (⟨#[49, 32, 97]⟩ : ByteArray).size ≤ 9223372036854775807 by decide) hf).mono fun e w' hh => ⟨hh.1, (h.below hb).below hh.2, fun k _ k2 => hh.2.block k k2⟩
set_option maxHeartbeats 4000000 in
theorem ext_add {w wr : World} {X : Nat} {L L' : List Ent} {mv mv' n : Int} {r : Value} (h : AX w X L mv wr) (hp0 : PutC w X L' mv' n r wr) : Calls Tryz.prog 113 #[.pointer (some ⟨X, 0, none⟩), .agg #[.string ⟨#[97]⟩, .int .i64 1], .int .i64 n] wr fun e w' => e = .returned r ∧ AX w X L' mv' w' := by
  obtain ⟨K, hK⟩ : ∃ K, K = wr.heap.size := ⟨_, rfl⟩
  obtain ⟨hp, hhp⟩ : ∃ hp, hp = w.heap.size + 1 := ⟨_, rfl⟩
  obtain ⟨W1, hW1⟩ : ∃ W1, W1 = wr.alloc (.cells #[.string ⟨#[97]⟩, .int .i64 1] 76) := ⟨_, rfl⟩
  have b1 : Below wr.heap.size wr W1.drew := by rw [hW1]; exact ((Below.refl _ wr).alloc (Nat.le_refl _) _).drew
  have s1 : W1.drew.heap.size = K + 1 := by rw [hW1, hK]; show (wr.alloc _).heap.size = _; simp
  have hs1 := h.below b1
  have szk := h.sz
  have x1 : W1.drew.cell? ⟨K, 0, none⟩ = some (.string ⟨#[97]⟩) := by rw [hW1, hK]; simp [go_sem]
  have x2 : W1.drew.cell? ⟨K, 1, none⟩ = some (.int .i64 1) := by rw [hW1, hK]; simp [go_sem]
  have sS : Hid (W1.drew.cell? ⟨X, 0, none⟩ = some (.pointer (some ⟨hp, 0, none⟩)) ∧ W1.drew.cell? ⟨K, 0, none⟩ = some (.string ⟨#[97]⟩) ∧ W1.drew.cell? ⟨K, 1, none⟩ = some (.int .i64 1)) := ⟨by rw [hhp]; exact hs1.x0, x1, x2⟩
  have CNm : Hid (∀ W, Calls Tryz.prog 118 #[.string ⟨#[97]⟩, .int .i64 1] W fun e w' => e = .returned (.string ⟨#[49, 32, 97]⟩) ∧ w' = W) := name_one
  have CPt : Hid (Calls Tryz.prog 117 #[.pointer (some ⟨hp, 0, none⟩), .agg #[.int .i64 n, .string ⟨#[49, 32, 97]⟩]] W1.drew fun e w' => e = .returned r ∧ AX w X L' mv' w' ∧ (w'.cell? ⟨X, 0, none⟩ = some (.pointer (some ⟨hp, 0, none⟩)) ∧ w'.cell? ⟨K, 0, none⟩ = some (.string ⟨#[97]⟩) ∧ w'.cell? ⟨K, 1, none⟩ = some (.int .i64 1))) := by
    rw [hhp]
    refine (hp0 W1.drew b1).mono fun e w' hh => ⟨hh.1, hh.2.1, hh.2.1.x0, ?_, ?_⟩
    · rw [World.cell?_of_block (w := W1.drew) (a := ⟨K, 0, none⟩) (hh.2.2 K (by omega) (by omega))]; exact x1
    · rw [World.cell?_of_block (w := W1.drew) (a := ⟨K, 1, none⟩) (hh.2.2 K (by omega) (by omega))]; exact x2
  have hW1H : Hid (wr.alloc (.cells #[.string ⟨#[97]⟩, .int .i64 1] 76) = W1 ∧ wr.heap.size = K) := ⟨hW1.symm, hK.symm⟩
  clear h hp0 hs1 b1 s1 szk x1 x2 hW1 hK hhp
  go_enter Tryz.func113, Tryz.ntmps113
  go_wp2_with fail
  rw [hW1H.out.1, hW1H.out.2]
  refine wp_region_noPanic ?_
  refine wp_region_held_drew (S := fun W => W.cell? ⟨X, 0, none⟩ = some (.pointer (some ⟨hp, 0, none⟩)) ∧ W.cell? ⟨K, 0, none⟩ = some (.string ⟨#[97]⟩) ∧ W.cell? ⟨K, 1, none⟩ = some (.int .i64 1)) (by kernel_rfl) sS.out (fun hHeld => ?_)
  refine wpAnyH_take (i := 0) (oi := _) (v := ?_) rfl (by kernel_rfl) (by kernel_rfl) (by kernel_rfl) (fun _ _ _ h => h) (Or.inl ⟨by rfl, ?_⟩) (by assumption) ?_
  rotate_left 1
  · (intro w0 hSw; (try dsimp only at hSw); obtain ⟨s1, s2, s3⟩ := hSw; go_simp; try with_reducible rfl)
  (try simp only [List.getElem_toArray, List.getElem_cons_succ, List.getElem_cons_zero]); (try simp only [Act.put, List.setIfInBounds_toArray, List.set_cons_zero, List.set_cons_succ])
  refine wpAnyH_take (i := 1) (oi := _) (v := ?_) rfl (by kernel_rfl) (by kernel_rfl) (by kernel_rfl) (fun _ _ _ h => h) (Or.inl ⟨by rfl, ?_⟩) (by assumption) ?_
  rotate_left 1
  · (intro w0 hSw; (try dsimp only at hSw); obtain ⟨s1, s2, s3⟩ := hSw; go_simp; try with_reducible rfl)
  (try simp only [List.getElem_toArray, List.getElem_cons_succ, List.getElem_cons_zero]); (try simp only [Act.put, List.setIfInBounds_toArray, List.set_cons_zero, List.set_cons_succ])
  refine wpAnyH_take (i := 2) (oi := _) (v := ?_) rfl (by kernel_rfl) (by kernel_rfl) (by kernel_rfl) (fun _ _ _ h => h) (Or.inl ⟨by rfl, ?_⟩) (by assumption) ?_
  rotate_left 1
  · (intro w0 hSw; (try dsimp only at hSw); obtain ⟨s1, s2, s3⟩ := hSw; go_simp; try with_reducible rfl)
  (try simp only [List.getElem_toArray, List.getElem_cons_succ, List.getElem_cons_zero]); (try simp only [Act.put, List.setIfInBounds_toArray, List.set_cons_zero, List.set_cons_succ])
  refine wpAnyH_take (i := 3) (oi := _) (v := ?_) rfl (by kernel_rfl) (by kernel_rfl) (by kernel_rfl) (fun _ _ _ h => h) (Or.inl ⟨by rfl, ?_⟩) (by assumption) ?_
  rotate_left 1
  · (intro w0 hSw; (try dsimp only at hSw); obtain ⟨s1, s2, s3⟩ := hSw; go_simp; try with_reducible rfl)
  (try simp only [List.getElem_toArray, List.getElem_cons_succ, List.getElem_cons_zero]); (try simp only [Act.put, List.setIfInBounds_toArray, List.set_cons_zero, List.set_cons_succ])
  refine wpAnyH_take (i := 4) (oi := _) (v := ?_) rfl (by kernel_rfl) (by kernel_rfl) (by kernel_rfl) (fun _ _ _ h => h) (Or.inl ⟨by rfl, ?_⟩) (by assumption) ?_
  rotate_left 1
  · (intro w0 hSw; (try dsimp only at hSw); obtain ⟨s1, s2, s3⟩ := hSw; go_simp; try with_reducible rfl)
  (try simp only [List.getElem_toArray, List.getElem_cons_succ, List.getElem_cons_zero]); (try simp only [Act.put, List.setIfInBounds_toArray, List.set_cons_zero, List.set_cons_succ])
  refine wpAnyH_take (i := 5) (oi := _) (v := ?_) rfl (by kernel_rfl) (by kernel_rfl) (by kernel_rfl) (fun _ _ _ h => h) (Or.inl ⟨by rfl, ?_⟩) (by assumption) ?_
  rotate_left 1
  · (intro w0 hSw; (try dsimp only at hSw); obtain ⟨s1, s2, s3⟩ := hSw; go_simp; try with_reducible rfl)
  (try simp only [List.getElem_toArray, List.getElem_cons_succ, List.getElem_cons_zero]); (try simp only [Act.put, List.setIfInBounds_toArray, List.set_cons_zero, List.set_cons_succ])
  refine wpAnyH_take (i := 6) (oi := _) (v := ?_) rfl (by kernel_rfl) (by kernel_rfl) (by kernel_rfl) (fun _ _ _ h => h) (Or.inl ⟨by rfl, ?_⟩) (by assumption) ?_
  rotate_left 1
  · (intro w0 hSw; (try dsimp only at hSw); obtain ⟨s1, s2, s3⟩ := hSw; go_simp; try with_reducible rfl)
  (try simp only [List.getElem_toArray, List.getElem_cons_succ, List.getElem_cons_zero]); (try simp only [Act.put, List.setIfInBounds_toArray, List.set_cons_zero, List.set_cons_succ])
  refine wpAnyH_take (i := 7) (oi := _) (v := ?_) rfl (by kernel_rfl) (by kernel_rfl) (by kernel_rfl) (fun _ _ _ h => h) (Or.inl ⟨by rfl, ?_⟩) (by assumption) ?_
  rotate_left 1
  · (intro w0 hSw; (try dsimp only at hSw); obtain ⟨s1, s2, s3⟩ := hSw; go_simp; try with_reducible rfl)
  (try simp only [List.getElem_toArray, List.getElem_cons_succ, List.getElem_cons_zero]); (try simp only [Act.put, List.setIfInBounds_toArray, List.set_cons_zero, List.set_cons_succ])
  refine wpAnyH_take (i := 8) (oi := _) (v := ?_) rfl (by kernel_rfl) (by kernel_rfl) (by kernel_rfl) (fun _ _ _ h => h) (Or.inl ⟨by rfl, ?_⟩) (by assumption) ?_
  rotate_left 1
  · (intro w0 hSw; (try dsimp only at hSw); obtain ⟨s1, s2, s3⟩ := hSw; go_simp; try with_reducible rfl)
  (try simp only [List.getElem_toArray, List.getElem_cons_succ, List.getElem_cons_zero]); (try simp only [Act.put, List.setIfInBounds_toArray, List.set_cons_zero, List.set_cons_succ])
  refine wpAnyH_ready (rs := [9]) (by kernel_rfl) (by simp) ?_
  refine AllReadyH.cons (o := _) rfl (fun K1 hK => ?_) AllReadyH.nil
  go_simp
  refine Calls.mono (CNm.out _) ?_
  rintro e w' ⟨rfl, hw'⟩
  subst hw'
  try dsimp only
  refine hK _ _ sS.out (fun hHeld => ?_)
  clear hK K1
  (try simp only [List.getElem_toArray, List.getElem_cons_succ, List.getElem_cons_zero]); (try simp only [Act.put, List.setIfInBounds_toArray, List.set_cons_zero, List.set_cons_succ])
  refine wpAnyH_take (i := 10) (oi := _) (v := ?_) rfl (by kernel_rfl) (by kernel_rfl) (by kernel_rfl) (fun _ _ _ h => h) (Or.inl ⟨by rfl, ?_⟩) (by assumption) ?_
  rotate_left 1
  · (intro w0 hSw; (try dsimp only at hSw); obtain ⟨s1, s2, s3⟩ := hSw; go_simp; try with_reducible rfl)
  (try simp only [List.getElem_toArray, List.getElem_cons_succ, List.getElem_cons_zero]); (try simp only [Act.put, List.setIfInBounds_toArray, List.set_cons_zero, List.set_cons_succ])
  refine wpAnyH_ready (rs := [11]) (by kernel_rfl) (by simp) ?_
  refine AllReadyH.cons (o := _) rfl (fun K1 hK => ?_) AllReadyH.nil
  go_simp
  refine Calls.mono CPt.out ?_
  rintro e w' ⟨rfl, ax, sT⟩
  have AXF : Hid (AX w X L' mv' w') := ax
  clear ax
  try dsimp only
  refine hK _ _ sT (fun hHeld => ?_)
  clear hK K1
  (try simp only [List.getElem_toArray, List.getElem_cons_succ, List.getElem_cons_zero]); (try simp only [Act.put, List.setIfInBounds_toArray, List.set_cons_zero, List.set_cons_succ])
  refine wpAnyH_take (i := 12) (oi := _) (v := ?_) rfl (by kernel_rfl) (by kernel_rfl) (by kernel_rfl) (fun _ _ _ h => h) (Or.inl ⟨by rfl, ?_⟩) (by assumption) ?_
  rotate_left 1
  · (intro w0 hSw; (try dsimp only at hSw); obtain ⟨s1, s2, s3⟩ := hSw; go_simp; try with_reducible rfl)
  (try simp only [List.getElem_toArray, List.getElem_cons_succ, List.getElem_cons_zero]); (try simp only [Act.put, List.setIfInBounds_toArray, List.set_cons_zero, List.set_cons_succ])
  refine wpAnyH_done (by kernel_rfl) ?_ _
  refine NoPanic.normal ?_
  clear sS CPt CNm hHeld
  go_wp2_with fail
  go_ret
  exact ⟨rfl, AXF.out⟩
theorem acc_add {w wr : World} {X : Nat} {L L' : List Ent} {mv mv' n : Int} {r : Value} (h : AX w X L mv wr) (hp0 : PutC w X L' mv' n r wr) : Calls Tryz.prog 13 #[.pointer (some ⟨X + 1, 0, none⟩), .string ⟨#[97]⟩, .int .i64 1, .int .i64 n] wr fun e w' => e = .returned r ∧ AX w X L' mv' w' := by
  have C : Hid _ := ext_add h hp0
  have a1 := h.a1
  have m := method_add ⟨X, 0, none⟩
  clear h hp0
  go_enter Tryz.func13, Tryz.ntmps13
  go_wp2_with fail
  refine Calls.mono C.out ?_
  rintro e w1 ⟨rfl, ax⟩
  have AXF : Hid _ := ax
  clear ax C a1 m
  go_wp2_with fail
  go_ret
  exact ⟨rfl, AXF.out⟩
theorem ext_size {w wr : World} {X : Nat} {L : List Ent} {mv : Int} (h : AX w X L mv wr) : Calls Tryz.prog 115 #[.pointer (some ⟨X, 0, none⟩)] wr fun e w' => e = .returned (.int .i64 (L.length : Int)) ∧ w' = wr := by
  obtain ⟨v, f, hs⟩ := h.hs
  have C : Hid _ := len_any hs
  have x0 := h.x0
  clear h hs
  go_enter Tryz.func115, Tryz.ntmps115
  go_wp2_with fail
  refine Calls.mono C.out ?_
  rintro e w1 ⟨rfl, hw1⟩
  subst hw1
  go_wp2_with fail
  go_ret
  exact ⟨rfl, rfl⟩
theorem acc_len {w wr : World} {X : Nat} {L : List Ent} {mv : Int} (h : AX w X L mv wr) : Calls Tryz.prog 15 #[.pointer (some ⟨X + 1, 0, none⟩)] wr fun e w' => e = .returned (.int .i64 (L.length : Int)) ∧ w' = wr := by
  have C : Hid _ := ext_size h
  have a1 := h.a1
  have m := method_size ⟨X, 0, none⟩
  clear h
  go_enter Tryz.func15, Tryz.ntmps15
  go_wp2_with fail
  refine Calls.mono C.out ?_
  rintro e w1 ⟨rfl, hw1⟩
  subst hw1
  go_wp2_with fail
  go_ret
  exact ⟨rfl, rfl⟩
theorem four_set (w : World) (K : Nat) (a b c d : Value) : w.grownBy ((((w.setCell ⟨K, 0, none⟩ a).setCell ⟨K, 1, none⟩ b).setCell ⟨K, 2, none⟩ c).setCell ⟨K, 3, none⟩ d) (some K) :=
  ⟨rfl, rfl, rfl, by simp, fun k hk q => by rw [Below.heap_setCell _ _ _ _ (fun e => q (by rw [e])), Below.heap_setCell _ _ _ _ (fun e => q (by rw [e])), Below.heap_setCell _ _ _ _ (fun e => q (by rw [e])), Below.heap_setCell _ _ _ _ (fun e => q (by rw [e]))]⟩
theorem below_four {wr w1 : World} (h : Below wr.heap.size wr w1) (a b c d : Value) (o : Obj) : Below wr.heap.size wr (((((w1.setCell ⟨wr.heap.size, 0, none⟩ a).setCell ⟨wr.heap.size, 1, none⟩ b).setCell ⟨wr.heap.size, 2, none⟩ c).setCell ⟨wr.heap.size, 3, none⟩ d).alloc o) := by
  have g := four_set w1 wr.heap.size a b c d
  have b1 : Below wr.heap.size wr ((((w1.setCell ⟨wr.heap.size, 0, none⟩ a).setCell ⟨wr.heap.size, 1, none⟩ b).setCell ⟨wr.heap.size, 2, none⟩ c).setCell ⟨wr.heap.size, 3, none⟩ d) := ⟨g.os.trans h.os, g.tape.trans h.tape, g.output.trans h.output, Nat.le_trans h.size g.size, fun k hk => by rw [g.block k (Nat.lt_of_lt_of_le hk h.size) (fun e => by injection e; omega)]; exact h.block k hk⟩
  exact b1.alloc b1.size o
theorem four_cells {w1 : World} {K : Nat} {x0 x1 x2 x3 : Value} (k0 : w1.cell? ⟨K, 0, none⟩ = some x0) (k1 : w1.cell? ⟨K, 1, none⟩ = some x1) (k2 : w1.cell? ⟨K, 2, none⟩ = some x2) (k3 : w1.cell? ⟨K, 3, none⟩ = some x3) (a b c d : Value) : (w1.setCell ⟨K, 0, none⟩ a).cell? ⟨K, 0, none⟩ = some a ∧ ((w1.setCell ⟨K, 0, none⟩ a).setCell ⟨K, 1, none⟩ b).cell? ⟨K, 1, none⟩ = some b ∧ (((w1.setCell ⟨K, 0, none⟩ a).setCell ⟨K, 1, none⟩ b).setCell ⟨K, 2, none⟩ c).cell? ⟨K, 2, none⟩ = some c ∧ ((((w1.setCell ⟨K, 0, none⟩ a).setCell ⟨K, 1, none⟩ b).setCell ⟨K, 2, none⟩ c).setCell ⟨K, 3, none⟩ d).cell? ⟨K, 3, none⟩ = some d := by
  have ne : ∀ (W : World) (v : Value) (i j : Nat), j ≠ i → (W.setCell ⟨K, i, none⟩ v).cell? ⟨K, j, none⟩ = W.cell? ⟨K, j, none⟩ := fun W v i j h => World.cell?_setCell_other _ _ _ _ (by intro e; injection e; omega)
  exact ⟨World.cell?_setCell_same _ _ _ k0, World.cell?_setCell_same _ _ _ (by rw [ne _ _ _ _ (by omega)]; exact k1), World.cell?_setCell_same _ _ _ (by rw [ne _ _ _ _ (by omega), ne _ _ _ _ (by omega)]; exact k2), World.cell?_setCell_same _ _ _ (by rw [ne _ _ _ _ (by omega), ne _ _ _ _ (by omega), ne _ _ _ _ (by omega)]; exact k3)⟩
theorem slot_kept {wr w1 : World} (b1 : Below (wr.alloc (.cells #[.bool false, .int .i64 0, .int .i64 0, .int .u64 0] 44)).heap.size (wr.alloc (.cells #[.bool false, .int .i64 0, .int .i64 0, .int .u64 0] 44)) w1) : w1.cell? ⟨wr.heap.size, 0, none⟩ = some (.bool false) ∧ w1.cell? ⟨wr.heap.size, 1, none⟩ = some (.int .i64 0) ∧ w1.cell? ⟨wr.heap.size, 2, none⟩ = some (.int .i64 0) ∧ w1.cell? ⟨wr.heap.size, 3, none⟩ = some (.int .u64 0) ∧ w1.frozen? ⟨wr.heap.size, 0, none⟩ = false ∧ w1.frozen? ⟨wr.heap.size, 1, none⟩ = false ∧ w1.frozen? ⟨wr.heap.size, 2, none⟩ = false ∧ w1.frozen? ⟨wr.heap.size, 3, none⟩ = false := by
  have hlt : wr.heap.size < (wr.alloc (.cells #[.bool false, .int .i64 0, .int .i64 0, .int .u64 0] 44)).heap.size := by simp
  have c : ∀ o, w1.cell? ⟨wr.heap.size, o, none⟩ = _ := fun o => b1.cell (p := ⟨wr.heap.size, o, none⟩) hlt
  have z : ∀ o, w1.frozen? ⟨wr.heap.size, o, none⟩ = _ := fun o => b1.frozen (p := ⟨wr.heap.size, o, none⟩) hlt
  rw [c, c, c, c, z, z, z, z]
  refine ⟨?_, ?_, ?_, ?_, ?_, ?_, ?_, ?_⟩ <;> simp [go_sem]
set_option maxHeartbeats 4000000 in
theorem ext_tell {w wr : World} {X : Nat} {L : List Ent} {mv : Int} (h : AX w X L mv wr) (hL : 0 < L.length) : Calls Tryz.prog 116 #[.pointer (some ⟨X, 0, none⟩)] wr fun e w' => e = .returned (.agg #[.bool false, .int .i64 (atE L 0).1, .int .i64 0, .int .u64 0]) ∧ Below wr.heap.size wr w' := by
  have b0 : Below wr.heap.size wr (wr.alloc (.cells #[.bool false, .int .i64 0, .int .i64 0, .int .u64 0] 44)) := (Below.refl _ wr).alloc (Nat.le_refl _) _
  have h1 := h.below b0
  obtain ⟨v, f, hs⟩ := h1.hs
  have C : Hid _ := top_some hs hL
  have x0 := h1.x0
  unfold eV at C
  clear h h1 hs
  generalize atE L 0 = x at *
  go_enter Tryz.func116, Tryz.ntmps116
  go_wp2_with fail
  refine Calls.mono C.out ?_
  rintro e w1 ⟨rfl, b1⟩
  obtain ⟨k0, k1, k2, k3, y0, y1, y2, y3⟩ := slot_kept (wr := wr) b1
  have bb : Hid (Below wr.heap.size wr w1) := b0.trans (b1.mono b0.size)
  have szK : wr.heap.size < w1.heap.size := Nat.lt_of_lt_of_le (by simp) b1.size
  clear C b0 b1 x0
  go_wp2_with fail
  obtain ⟨p0, p1, p2, p3⟩ := four_cells k0 k1 k2 k3 (.bool false) (.int .i64 x.1) (.int .i64 0) (.int .u64 0)
  simp [bodyPost, results, Tryz.results116, go_sem, p0, p1, p2, p3, szK]
  exact below_four bb.out _ _ _ _ _
set_option maxHeartbeats 4000000 in
theorem acc_slot {w wr : World} {X : Nat} {L : List Ent} {mv : Int} (h : AX w X L mv wr) (hL : 0 < L.length) : Calls Tryz.prog 14 #[.pointer (some ⟨X + 1, 0, none⟩)] wr fun e w' => e = .returned (.agg #[.bool true, .int .i64 (atE L 0).1, .int .i64 0, .int .u64 0]) ∧ Below wr.heap.size wr w' := by
  have b0 : Below wr.heap.size wr (wr.alloc (.cells #[.bool false, .int .i64 0, .int .i64 0, .int .u64 0] 44)) := (Below.refl _ wr).alloc (Nat.le_refl _) _
  have h1 := h.below b0
  have CL : Hid _ := acc_len h1
  have CT : Hid _ := ext_tell h1 hL
  have a1 := h1.a1
  have m := method_tell ⟨X, 0, none⟩
  have hN : ¬ (L.length : Int) = 0 := by omega
  have hN2 : ((L.length : Int) == 0) = false := by simpa using hN
  clear h h1
  generalize L.length = n at *
  generalize atE L 0 = x at *
  go_enter Tryz.func14, Tryz.ntmps14
  go_wp2_with fail
  refine Calls.mono CL.out ?_
  rintro e w1 ⟨rfl, hw1⟩
  subst hw1
  go_wp2_with fail
  refine Calls.mono CT.out ?_
  rintro e w1 ⟨rfl, b1⟩
  obtain ⟨k0, k1, k2, k3, y0, y1, y2, y3⟩ := slot_kept (wr := wr) b1
  have bb : Hid (Below wr.heap.size wr w1) := b0.trans (b1.mono b0.size)
  have szK : wr.heap.size < w1.heap.size := Nat.lt_of_lt_of_le (by simp) b1.size
  clear CL CT b0 b1 a1 m
  go_wp2_with fail
  obtain ⟨p0, p1, p2, p3⟩ := four_cells k0 k1 k2 k3 (.bool true) (.int .i64 x.1) (.int .i64 0) (.int .u64 0)
  simp [bodyPost, results, Tryz.results14, go_sem, p0, p1, p2, p3, szK]
  exact below_four bb.out _ _ _ _ _
end Go.Proofs.YtbljggapmkpnbaaGreatDoor.Ac
