
import Derived.Test.YtcglgfcmhhbeaaaHpC
import Derived.Deep.CutRange
namespace Go.Proofs.Ytcglgfcmhhbeaaa.Hp
open Go.RowKit Go.Maps
set_option linter.unusedVariables false
set_option linter.unusedSimpArgs false
set_option maxRecDepth 100000
/-- two entries in boxes of their own. -/
structure B2 (w : World) (p q : Nat) (x y : Ent) (W : World) : Prop where
  bl : Below w.heap.size w W
  pl : w.heap.size ≤ p
  ql : w.heap.size ≤ q
  pW : p < W.heap.size
  qW : q < W.heap.size
  p0 : W.cell? ⟨p, 0, none⟩ = some (.int .i64 x.1)
  p1 : W.cell? ⟨p, 1, none⟩ = some (.string x.2)
  q0 : W.cell? ⟨q, 0, none⟩ = some (.int .i64 y.1)
  q1 : W.cell? ⟨q, 1, none⟩ = some (.string y.2)
theorem upd_some {f : ByteArray → Option Nat} {s a : ByteArray} {i : Nat} (h : (f s).isSome = true) : (upd f a (some i) s).isSome = true := by
  unfold upd
  by_cases e : s = a
  · rw [if_pos e]; rfl
  · rw [if_neg e]; exact h
theorem upd2_some {f : ByteArray → Option Nat} {s a b : ByteArray} {i j : Nat} (h : (f s).isSome = true) : (upd (upd f a (some i)) b (some j) s).isSome = true := upd_some (upd_some h)
theorem mem_swp {L : List Ent} {i j : Nat} (hi : i < L.length) (hj : j < L.length) {e : Ent} (he : e ∈ swp L i j) : e ∈ L := by
  obtain ⟨k, hk⟩ := List.getElem?_of_mem he
  have hkl : k < L.length := by have := (List.getElem?_eq_some_iff.1 hk).1; rwa [swp_len] at this
  rw [← atE_get hk, swp_at L hi hj]
  split
  · exact List.mem_of_getElem? (atE_some hi)
  · split
    · exact List.mem_of_getElem? (atE_some hj)
    · exact List.mem_of_getElem? (atE_some hkl)
set_option maxRecDepth 100000 in
set_option maxHeartbeats 8000000 in
theorem swap_any {w : World} {B hp mb : Nat} {most : Bool} {v : Value} {ex : Option ByteArray} {f : ByteArray → Option Nat} {L : List Ent} {mv : Int} (h : HS w B hp mb most v ex f L mv) (i j : Nat) (hi : i < L.length) (hj : j < L.length) (hne : i ≠ j) (hL : L.length ≤ 1152921504606846976) :
    Calls Try.prog 69 #[.pointer (some ⟨hp, 0, none⟩), .int .i64 (i : Int), .int .i64 (j : Int)] w fun e w' => e = .returned undef ∧ HS w' B hp mb most v ex (upd (upd f (atE L j).2 (some i)) (atE L i).2 (some j)) (swp L i j) mv ∧ HF hp mb v.ownBlock w w' := by
  obtain ⟨a, cap, rfl, hg⟩ := h.form
  obtain ⟨g, rfl⟩ := hg (by omega)
  have hH : Hid (HS w B hp mb most (.slice (some ⟨g, 0, none⟩) L.length cap) ex f L mv) := h
  obtain ⟨a1, a2⟩ := h.at hi
  obtain ⟨b1, b2⟩ := h.at hj
  obtain ⟨_, _, gB, gl, _⟩ := h.len
  have c0 := h.c0
  have hl := h.hl
  have nx : (atE L i).2.size ≤ 9223372036854775807 := h.nm _ (List.mem_of_getElem? (atE_some hi))
  have ny : (atE L j).2.size ≤ 9223372036854775807 := h.nm _ (List.mem_of_getElem? (atE_some hj))
  have fy : f (atE L j).2 = some j := h.pl.at hj
  have fx : f (atE L i).2 = some i := h.pl.at hi
  have PLs : Hid (PL ex (upd (upd f (atE L j).2 (some i)) (atE L i).2 (some j)) (swp L i j)) := h.pl.swap hi hj hne
  have LS : Hid (swp L i j = (L.set i (atE L j)).set j (atE L i)) := rfl
  have nmS : Hid (∀ e ∈ swp L i j, e.2.size ≤ 9223372036854775807) := fun e he => h.nm e (mem_swp hi hj he)
  have hlen : Hid ((swp L i j).length = L.length) := swp_len L i j
  -- the two calls of lay, whatever the boxes
  have LAY1 : Hid (∀ (p q : Nat) (W : World), B2 w p q (atE L i) (atE L j) W → Calls Try.prog 62 #[.pointer (some ⟨hp, 0, none⟩), .int .i64 (i : Int), eV (atE L j)] W fun e w1 => e = .returned undef ∧ (w1.cell? ⟨p, 0, none⟩ = some (.int .i64 (atE L i).1) ∧ w1.cell? ⟨p, 1, none⟩ = some (.string (atE L i).2)) ∧ Calls Try.prog 62 #[.pointer (some ⟨hp, 0, none⟩), .int .i64 (j : Int), eV (atE L i)] w1 fun e w' => e = .returned undef ∧ HS w' B hp mb most (.slice (some ⟨g, 0, none⟩) L.length cap) ex (upd (upd f (atE L j).2 (some i)) (atE L i).2 (some j)) (swp L i j) mv ∧ HF hp mb (some g) w w') := fun p q W hb => by
    have hW := h.below hb.bl
    obtain ⟨c, mp, hc⟩ := hW.mp
    refine (lay_any hW.hw hW.hl hW.c0 hW.c1 hW.row mp i hi hL (atE L j) ny (by rw [fy]; exact hc) (by have := ex_le ex; omega)).mono fun e w1 hh => ?_
    obtain ⟨rfl, ly⟩ := hh
    have pk : w1.heap[p]? = W.heap[p]? := ly.fr.keep p hb.pW (by have := hb.pl; omega) (by have := hb.pl; have := mp.lt; have := h.mp; obtain ⟨c', m', _⟩ := this; have := m'.lt; omega) (fun e => by have e2 : some p = some g := e; injection e2 with e2; have := hb.pl; omega)
    refine ⟨rfl, ⟨by rw [World.cell?_of_block (w := W) (a := ⟨p, 0, none⟩) pk]; exact hb.p0, by rw [World.cell?_of_block (w := W) (a := ⟨p, 1, none⟩) pk]; exact hb.p1⟩, ?_⟩
    obtain ⟨c1, mp1, hc1⟩ := ly.mp
    have row1 : w1.ownsRow B 24 2 (.slice (some ⟨g, 0, none⟩) L.length cap) (L.set i (atE L j)).length (encE (L.set i (atE L j))) := ly.row
    have fs : (upd f (atE L j).2 (some i) (atE L i).2).isSome = true := by
      unfold upd; split
      · rfl
      · rw [fx]; rfl
    refine (lay_any hW.hw (Nat.lt_of_lt_of_le hW.hl ly.fr.size) (by rw [(ly.cs 0).1]; exact hW.c0) (by rw [(ly.cs 1).1]; exact hW.c1) row1 mp1 j (by simpa using hj) (by simpa using hL) (atE L i) nx (by rw [fs]; exact hc1) (by have := ex_le ex; omega)).mono fun e w2 hh => ?_
    obtain ⟨rfl, l2⟩ := hh
    have cs : ∀ o, w2.cell? ⟨hp, o, none⟩ = W.cell? ⟨hp, o, none⟩ ∧ w2.frozen? ⟨hp, o, none⟩ = W.frozen? ⟨hp, o, none⟩ := fun o => ⟨(l2.cs o).1.trans (ly.cs o).1, (l2.cs o).2.trans (ly.cs o).2⟩
    refine ⟨rfl, ⟨by rw [(cs 0).1]; exact hW.c0, by rw [(cs 1).1]; exact hW.c1, by rw [(cs 2).1]; exact hW.c2, by rw [(cs 3).1]; exact hW.c3, by rw [(cs 0).2]; exact hW.z0, by rw [(cs 3).2]; exact hW.z3, l2.row, (by rw [hlen.out]; exact l2.mp), PLs.out, hW.hw, nmS.out, Nat.lt_of_lt_of_le hW.hl (Nat.le_trans ly.fr.size l2.fr.size), fun s hs => upd2_some (hW.exs s hs)⟩, ((HF.below hb.bl).trans ly.fr).trans l2.fr⟩
  unfold eV at LAY1
  have bxA : Hid (B2 w w.heap.size (w.heap.size + 1) (atE L i) (atE L j) ((w.alloc (.cells #[.int .i64 (atE L i).1, .string (atE L i).2] 24)).alloc (.cells #[.int .i64 (atE L j).1, .string (atE L j).2] 24)).drew) := ⟨(((Below.refl _ w).alloc (Nat.le_refl _) _).alloc (by simp) _).drew, Nat.le_refl _, by omega, by simp <;> omega, by simp <;> omega, by simp [go_sem], by simp [go_sem], by simp [go_sem], by simp [go_sem]⟩
  have bxB : Hid (B2 w (w.heap.size + 1) w.heap.size (atE L i) (atE L j) ((w.alloc (.cells #[.int .i64 (atE L j).1, .string (atE L j).2] 24)).alloc (.cells #[.int .i64 (atE L i).1, .string (atE L i).2] 24)).drew) := ⟨(((Below.refl _ w).alloc (Nat.le_refl _) _).alloc (by simp) _).drew, by omega, Nat.le_refl _, by simp <;> omega, by simp <;> omega, by simp [go_sem], by simp [go_sem], by simp [go_sem], by simp [go_sem]⟩
  have RES : Hid (∀ w' : World, HS w' B hp mb most (.slice (some ⟨g, 0, none⟩) L.length cap) ex (upd (upd f (atE L j).2 (some i)) (atE L i).2 (some j)) (swp L i j) mv → HF hp mb (some g) w w' → HS w' B hp mb most (.slice (some ⟨g, 0, none⟩) L.length cap) ex (upd (upd f (atE L j).2 (some i)) (atE L i).2 (some j)) (swp L i j) mv ∧ HF hp mb (Value.slice (some ⟨g, 0, none⟩) L.length cap).ownBlock w w') := fun w' p q => ⟨p, q⟩
  have i0 : (0 : Int) ≤ (i : Int) := by omega
  have j0 : (0 : Int) ≤ (j : Int) := by omega
  have iI : (i : Int) < (L.length : Int) := by omega
  have jI : (j : Int) < (L.length : Int) := by omega
  generalize upd (upd f (atE L j).2 (some i)) (atE L i).2 (some j) = F2 at *
  generalize swp L i j = L2 at *
  generalize atE L i = x at *
  generalize atE L j = y at *
  have hSB : Hid (∀ W, Below w.heap.size w W → (W.cell? ⟨hp, 0, none⟩ = some (.slice (some ⟨g, 0, none⟩) L.length cap) ∧ W.cell? ⟨g, i * 2, none⟩ = some (.int .i64 x.1) ∧ W.cell? ⟨g, i * 2 + 1, none⟩ = some (.string x.2) ∧ W.cell? ⟨g, j * 2, none⟩ = some (.int .i64 y.1) ∧ W.cell? ⟨g, j * 2 + 1, none⟩ = some (.string y.2))) := fun W hB => ⟨by rw [hB.cell (p := ⟨hp, 0, none⟩) hl]; exact c0, by rw [hB.cell (p := ⟨g, i * 2, none⟩) gl]; exact a1, by rw [hB.cell (p := ⟨g, i * 2 + 1, none⟩) gl]; exact a2, by rw [hB.cell (p := ⟨g, j * 2, none⟩) gl]; exact b1, by rw [hB.cell (p := ⟨g, j * 2 + 1, none⟩) gl]; exact b2⟩
  generalize L.length = n at *
  clear h hH hg nx ny fy fx PLs LS nmS hlen gB
  go_enter Try.func69, Try.ntmps69
  go_wp2_with fail
  go_cut [6, 7] from 8 to 21 (fun v6 v7 wx => ∃ p q, v6 = .pointer (some ⟨p, 0, none⟩) ∧ v7 = .pointer (some ⟨q, 0, none⟩) ∧ B2 w p q x y wx)
  case first =>
    refine wp_region_noPanic ?_
    refine wp_region_held_drew (S := fun W => W.cell? ⟨hp, 0, none⟩ = some (.slice (some ⟨g, 0, none⟩) n cap) ∧ W.cell? ⟨g, i * 2, none⟩ = some (.int .i64 x.1) ∧ W.cell? ⟨g, i * 2 + 1, none⟩ = some (.string x.2) ∧ W.cell? ⟨g, j * 2, none⟩ = some (.int .i64 y.1) ∧ W.cell? ⟨g, j * 2 + 1, none⟩ = some (.string y.2)) (by kernel_rfl) ⟨c0, a1, a2, b1, b2⟩ (fun hHeld => ?_)
    refine wpAnyH_take (i := 0) (oi := _) (v := ?_) rfl (by kernel_rfl) (by kernel_rfl) (by kernel_rfl) (fun _ _ _ h => h) (Or.inl ⟨by rfl, ?_⟩) (by assumption) ?_
    rotate_left 1
    · (intro w0 hSw; (try dsimp only at hSw); obtain ⟨s1, s2, s3, s4, s5⟩ := hSw; go_simp; try with_reducible rfl)
    (try simp only [List.getElem_toArray, List.getElem_cons_succ, List.getElem_cons_zero]); (try simp only [Act.put, List.setIfInBounds_toArray, List.set_cons_zero, List.set_cons_succ])
    refine wpAnyH_take (i := 1) (oi := _) (v := ?_) rfl (by kernel_rfl) (by kernel_rfl) (by kernel_rfl) (fun _ _ _ h => h) (Or.inl ⟨by rfl, ?_⟩) (by assumption) ?_
    rotate_left 1
    · (intro w0 hSw; (try dsimp only at hSw); obtain ⟨s1, s2, s3, s4, s5⟩ := hSw; go_simp; try with_reducible rfl)
    (try simp only [List.getElem_toArray, List.getElem_cons_succ, List.getElem_cons_zero]); (try simp only [Act.put, List.setIfInBounds_toArray, List.set_cons_zero, List.set_cons_succ])
    refine wpAnyH_take (i := 2) (oi := _) (v := ?_) rfl (by kernel_rfl) (by kernel_rfl) (by kernel_rfl) (fun _ _ _ h => h) (Or.inl ⟨by rfl, ?_⟩) (by assumption) ?_
    rotate_left 1
    · (intro w0 hSw; (try dsimp only at hSw); obtain ⟨s1, s2, s3, s4, s5⟩ := hSw; go_simp; try with_reducible rfl)
    (try simp only [List.getElem_toArray, List.getElem_cons_succ, List.getElem_cons_zero]); (try simp only [Act.put, List.setIfInBounds_toArray, List.set_cons_zero, List.set_cons_succ])
    refine wpAnyH_take (i := 3) (oi := _) (v := ?_) rfl (by kernel_rfl) (by kernel_rfl) (by kernel_rfl) (fun _ _ _ h => h) (Or.inl ⟨by rfl, ?_⟩) (by assumption) ?_
    rotate_left 1
    · (intro w0 hSw; (try dsimp only at hSw); obtain ⟨s1, s2, s3, s4, s5⟩ := hSw; go_simp; try with_reducible rfl)
    (try simp only [List.getElem_toArray, List.getElem_cons_succ, List.getElem_cons_zero]); (try simp only [Act.put, List.setIfInBounds_toArray, List.set_cons_zero, List.set_cons_succ])
    refine wpAnyH_take (i := 4) (oi := _) (v := ?_) rfl (by kernel_rfl) (by kernel_rfl) (by kernel_rfl) (fun _ _ _ h => h) (Or.inl ⟨by rfl, ?_⟩) (by assumption) ?_
    rotate_left 1
    · (intro w0 hSw; (try dsimp only at hSw); obtain ⟨s1, s2, s3, s4, s5⟩ := hSw; go_simp; try with_reducible rfl)
    (try simp only [List.getElem_toArray, List.getElem_cons_succ, List.getElem_cons_zero]); (try simp only [Act.put, List.setIfInBounds_toArray, List.set_cons_zero, List.set_cons_succ])
    refine wpAnyH_take (i := 5) (oi := _) (v := ?_) rfl (by kernel_rfl) (by kernel_rfl) (by kernel_rfl) (fun _ _ _ h => h) (Or.inl ⟨by rfl, ?_⟩) (by assumption) ?_
    rotate_left 1
    · (intro w0 hSw; (try dsimp only at hSw); obtain ⟨s1, s2, s3, s4, s5⟩ := hSw; go_simp; try with_reducible rfl)
    (try simp only [List.getElem_toArray, List.getElem_cons_succ, List.getElem_cons_zero]); (try simp only [Act.put, List.setIfInBounds_toArray, List.set_cons_zero, List.set_cons_succ])
    refine wpAnyH_take (i := 6) (oi := _) (v := ?_) rfl (by kernel_rfl) (by kernel_rfl) (by kernel_rfl) (fun _ _ _ h => h) (Or.inl ⟨by rfl, ?_⟩) (by assumption) ?_
    rotate_left 1
    · (intro w0 hSw; (try dsimp only at hSw); obtain ⟨s1, s2, s3, s4, s5⟩ := hSw; go_simp; try with_reducible rfl)
    (try simp only [List.getElem_toArray, List.getElem_cons_succ, List.getElem_cons_zero]); (try simp only [Act.put, List.setIfInBounds_toArray, List.set_cons_zero, List.set_cons_succ])
    refine wpAnyH_take (i := 7) (oi := _) (v := ?_) rfl (by kernel_rfl) (by kernel_rfl) (by kernel_rfl) (fun _ _ _ h => h) (Or.inl ⟨by rfl, ?_⟩) (by assumption) ?_
    rotate_left 1
    · (intro w0 hSw; (try dsimp only at hSw); obtain ⟨s1, s2, s3, s4, s5⟩ := hSw; go_simp; try with_reducible rfl)
    (try simp only [List.getElem_toArray, List.getElem_cons_succ, List.getElem_cons_zero]); (try simp only [Act.put, List.setIfInBounds_toArray, List.set_cons_zero, List.set_cons_succ])
    refine wpAnyH_take (i := 8) (oi := _) (v := ?_) rfl (by kernel_rfl) (by kernel_rfl) (by kernel_rfl) (fun _ _ _ h => h) (Or.inl ⟨by rfl, ?_⟩) (by assumption) ?_
    rotate_left 1
    · (intro w0 hSw; (try dsimp only at hSw); obtain ⟨s1, s2, s3, s4, s5⟩ := hSw; go_simp; try with_reducible rfl)
    (try simp only [List.getElem_toArray, List.getElem_cons_succ, List.getElem_cons_zero]); (try simp only [Act.put, List.setIfInBounds_toArray, List.set_cons_zero, List.set_cons_succ])
    refine wpAnyH_take (i := 9) (oi := _) (v := ?_) rfl (by kernel_rfl) (by kernel_rfl) (by kernel_rfl) (fun _ _ _ h => h) (Or.inl ⟨by rfl, ?_⟩) (by assumption) ?_
    rotate_left 1
    · (intro w0 hSw; (try dsimp only at hSw); obtain ⟨s1, s2, s3, s4, s5⟩ := hSw; go_simp; try with_reducible rfl)
    (try simp only [List.getElem_toArray, List.getElem_cons_succ, List.getElem_cons_zero]); (try simp only [Act.put, List.setIfInBounds_toArray, List.set_cons_zero, List.set_cons_succ])
    refine wpAnyH_take (i := 10) (oi := _) (v := ?_) rfl (by kernel_rfl) (by kernel_rfl) (by kernel_rfl) (fun _ _ _ h => h) (Or.inl ⟨by rfl, ?_⟩) (by assumption) ?_
    rotate_left 1
    · (intro w0 hSw; (try dsimp only at hSw); obtain ⟨s1, s2, s3, s4, s5⟩ := hSw; go_simp; try with_reducible rfl)
    (try simp only [List.getElem_toArray, List.getElem_cons_succ, List.getElem_cons_zero]); (try simp only [Act.put, List.setIfInBounds_toArray, List.set_cons_zero, List.set_cons_succ])
    refine wpAnyH_take (i := 11) (oi := _) (v := ?_) rfl (by kernel_rfl) (by kernel_rfl) (by kernel_rfl) (fun _ _ _ h => h) (Or.inl ⟨by rfl, ?_⟩) (by assumption) ?_
    rotate_left 1
    · (intro w0 hSw; (try dsimp only at hSw); obtain ⟨s1, s2, s3, s4, s5⟩ := hSw; go_simp; try with_reducible rfl)
    (try simp only [List.getElem_toArray, List.getElem_cons_succ, List.getElem_cons_zero]); (try simp only [Act.put, List.setIfInBounds_toArray, List.set_cons_zero, List.set_cons_succ])
    refine wpAnyH_take (i := 12) (oi := _) (v := ?_) rfl (by kernel_rfl) (by kernel_rfl) (by kernel_rfl) (fun _ _ _ h => h) (Or.inl ⟨by rfl, ?_⟩) (by assumption) ?_
    rotate_left 1
    · (intro w0 hSw; (try dsimp only at hSw); obtain ⟨s1, s2, s3, s4, s5⟩ := hSw; go_simp; try with_reducible rfl)
    (try simp only [List.getElem_toArray, List.getElem_cons_succ, List.getElem_cons_zero]); (try simp only [Act.put, List.setIfInBounds_toArray, List.set_cons_zero, List.set_cons_succ])
    refine wpAnyH_take (i := 13) (oi := _) (v := ?_) rfl (by kernel_rfl) (by kernel_rfl) (by kernel_rfl) (fun _ _ _ h => h) (Or.inl ⟨by rfl, ?_⟩) (by assumption) ?_
    rotate_left 1
    · (intro w0 hSw; (try dsimp only at hSw); obtain ⟨s1, s2, s3, s4, s5⟩ := hSw; go_simp; try with_reducible rfl)
    (try simp only [List.getElem_toArray, List.getElem_cons_succ, List.getElem_cons_zero]); (try simp only [Act.put, List.setIfInBounds_toArray, List.set_cons_zero, List.set_cons_succ])
    refine wpAnyH_ready (rs := [14, 15]) (by kernel_rfl) (by simp) ?_
    refine AllReadyH.cons (o := _) rfl (fun K1 hK => ?_) ?_
    · go_simp
      try dsimp only
      refine hK _ _ (hSB.out _ (((Below.refl _ w).alloc (Nat.le_refl _) _).drew)) (fun hHeld => ?_)
      clear hK K1
      (try simp only [List.getElem_toArray, List.getElem_cons_succ, List.getElem_cons_zero]); (try simp only [Act.put, List.setIfInBounds_toArray, List.set_cons_zero, List.set_cons_succ])
      refine wpAnyH_ready (rs := [15]) (by kernel_rfl) (by simp) ?_
      refine AllReadyH.cons (o := _) rfl (fun K1 hK => ?_) AllReadyH.nil
      go_simp
      try dsimp only
      refine hK _ _ (hSB.out _ ((((Below.refl _ w).alloc (Nat.le_refl _) _).alloc (by simp) _).drew)) (fun hHeld => ?_)
      clear hK K1
      (try simp only [List.getElem_toArray, List.getElem_cons_succ, List.getElem_cons_zero]); (try simp only [Act.put, List.setIfInBounds_toArray, List.set_cons_zero, List.set_cons_succ])
      refine wpAnyH_ready (rs := [16]) (by kernel_rfl) (by simp) ?_
      refine AllReadyH.cons (o := _) rfl (fun K1 hK => ?_) AllReadyH.nil
      go_simp
      try dsimp only
      refine hK _ _ (hSB.out _ ((((Below.refl _ w).alloc (Nat.le_refl _) _).alloc (by simp) _).drew)) (fun hHeld => ?_)
      clear hK K1
      (try simp only [List.getElem_toArray, List.getElem_cons_succ, List.getElem_cons_zero]); (try simp only [Act.put, List.setIfInBounds_toArray, List.set_cons_zero, List.set_cons_succ])
      refine wpAnyH_ready (rs := [17]) (by kernel_rfl) (by simp) ?_
      refine AllReadyH.cons (o := _) rfl (fun K1 hK => ?_) AllReadyH.nil
      go_simp
      try dsimp only
      refine hK _ _ (hSB.out _ ((((Below.refl _ w).alloc (Nat.le_refl _) _).alloc (by simp) _).drew)) (fun hHeld => ?_)
      clear hK K1
      (try simp only [List.getElem_toArray, List.getElem_cons_succ, List.getElem_cons_zero]); (try simp only [Act.put, List.setIfInBounds_toArray, List.set_cons_zero, List.set_cons_succ])
      refine wpAnyH_done (by kernel_rfl) ?_ _
      refine NoPanic.normal ?_
      clear c0 a1 a2 b1 b2
      go_wp2_with fail
      go_meet
      exact ⟨_, _, rfl, rfl, bxA.out⟩
    refine AllReadyH.cons (o := _) rfl (fun K1 hK => ?_) AllReadyH.nil
    go_simp
    try dsimp only
    refine hK _ _ (hSB.out _ (((Below.refl _ w).alloc (Nat.le_refl _) _).drew)) (fun hHeld => ?_)
    clear hK K1
    (try simp only [List.getElem_toArray, List.getElem_cons_succ, List.getElem_cons_zero]); (try simp only [Act.put, List.setIfInBounds_toArray, List.set_cons_zero, List.set_cons_succ])
    refine wpAnyH_ready (rs := [14]) (by kernel_rfl) (by simp) ?_
    refine AllReadyH.cons (o := _) rfl (fun K1 hK => ?_) AllReadyH.nil
    go_simp
    try dsimp only
    refine hK _ _ (hSB.out _ ((((Below.refl _ w).alloc (Nat.le_refl _) _).alloc (by simp) _).drew)) (fun hHeld => ?_)
    clear hK K1
    (try simp only [List.getElem_toArray, List.getElem_cons_succ, List.getElem_cons_zero]); (try simp only [Act.put, List.setIfInBounds_toArray, List.set_cons_zero, List.set_cons_succ])
    refine wpAnyH_ready (rs := [16]) (by kernel_rfl) (by simp) ?_
    refine AllReadyH.cons (o := _) rfl (fun K1 hK => ?_) AllReadyH.nil
    go_simp
    try dsimp only
    refine hK _ _ (hSB.out _ ((((Below.refl _ w).alloc (Nat.le_refl _) _).alloc (by simp) _).drew)) (fun hHeld => ?_)
    clear hK K1
    (try simp only [List.getElem_toArray, List.getElem_cons_succ, List.getElem_cons_zero]); (try simp only [Act.put, List.setIfInBounds_toArray, List.set_cons_zero, List.set_cons_succ])
    refine wpAnyH_ready (rs := [17]) (by kernel_rfl) (by simp) ?_
    refine AllReadyH.cons (o := _) rfl (fun K1 hK => ?_) AllReadyH.nil
    go_simp
    try dsimp only
    refine hK _ _ (hSB.out _ ((((Below.refl _ w).alloc (Nat.le_refl _) _).alloc (by simp) _).drew)) (fun hHeld => ?_)
    clear hK K1
    (try simp only [List.getElem_toArray, List.getElem_cons_succ, List.getElem_cons_zero]); (try simp only [Act.put, List.setIfInBounds_toArray, List.set_cons_zero, List.set_cons_succ])
    refine wpAnyH_done (by kernel_rfl) ?_ _
    refine NoPanic.normal ?_
    clear c0 a1 a2 b1 b2
    go_wp2_with fail
    go_meet
    exact ⟨_, _, rfl, rfl, bxB.out⟩
  case rest =>
    obtain ⟨p, q, rfl, rfl, hb⟩ := hcut
    have k0 := hb.q0
    have k1 := hb.q1
    have C1 : Hid _ := LAY1.out p q wc hb
    clear hb bxA bxB hSB LAY1 c0 a1 a2 b1 b2
    go_wp2_with fail
    refine Calls.mono C1.out ?_
    rintro e w1 ⟨rfl, ⟨m0, m1⟩, C2⟩
    have C2 : Hid _ := C2
    clear C1 k0 k1
    go_wp2_with fail
    refine Calls.mono C2.out ?_
    rintro e w2 ⟨rfl, r1, r2⟩
    have fin : Hid _ := RES.out w2 r1 r2
    clear r1 r2 C2 m0 m1
    go_wp2_with fail
    first | go_end0 | (simp only [Exit.inBlock, Exit.then]; refine bodyPost_ret (results_none rfl _ _ _) rfl ?_) | refine bodyPost_ret (results_none rfl _ _ _) rfl ?_
    exact ⟨rfl, fin.out⟩
end Go.Proofs.Ytcglgfcmhhbeaaa.Hp
