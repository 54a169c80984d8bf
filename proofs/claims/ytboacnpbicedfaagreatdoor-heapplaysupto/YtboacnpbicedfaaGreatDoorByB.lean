
import Derived.Test.YtboacnpbicedfaaGreatDoorByA
import Derived.BigQuiet
import Derived.Deep.RegionHeld3
import Derived.Deep.CutRange
namespace Go.Proofs.YtboacnpbicedfaaGreatDoor.Hp
open Go.RowKit Go.Maps
set_option linter.unusedVariables false
set_option linter.unusedSimpArgs false
set_option maxRecDepth 100000
def eV (e : Ent) : Value := .agg #[.int .i64 e.1, .string e.2]
/-- what an order's function tells. -/
def FnA (fn : Nat) (ah : Ent → Ent → Bool) : Prop := ∀ (a b : Ent) (W : World), Calls Tryz.prog fn #[eV a, eV b] W fun e w' => e = .returned (.bool (ah a b)) ∧ Below W.heap.size W w'
set_option maxRecDepth 100000 in
set_option maxHeartbeats 4000000 in
theorem lower_any : FnA 15 (ahd false) := by
  intro a b W
  have RES : Hid (ahd false a b = if a.1 = b.1 then decide (strC a.2 b.2 < 0) else decide (a.1 < b.1)) := rfl
  generalize ahd false a b = bv at RES ⊢
  have hs := less_str a.2 b.2
  generalize hsv : decide (strC a.2 b.2 < 0) = sv at RES hs
  unfold eV
  have fin : Hid (Below W.heap.size W ((W.alloc (.cells #[.int .i64 a.1, .string a.2] 30)).alloc (.cells #[.int .i64 b.1, .string b.2] 30))) := ((Below.refl _ W).alloc (Nat.le_refl _) _).alloc (by simp) _
  clear hsv
  by_cases h : a.1 = b.1
  · have r : Hid (bv = sv) := by have := RES.out; rw [if_pos h] at this; exact this
    have hb : (a.1 == b.1) = true := by simpa using h
    clear RES
    rw [h] at fin ⊢
    clear h hb
    cases sv with
    | true =>
      go_enter Tryz.func15, Tryz.ntmps15
      go_wp2_with fail
      go_ret
      exact ⟨by rw [r.out]; rfl, fin.out⟩
    | false =>
      go_enter Tryz.func15, Tryz.ntmps15
      go_wp2_with fail
      go_ret
      exact ⟨by rw [r.out]; rfl, fin.out⟩
  · have r : Hid (bv = decide (a.1 < b.1)) := by have := RES.out; rw [if_neg h] at this; exact this
    have hb : (a.1 == b.1) = false := by simpa using h
    clear RES hs
    by_cases h2 : a.1 < b.1
    · have r2 : Hid (bv = true) := by have := r.out; rw [decide_eq_true h2] at this; exact this
      clear r h
      go_enter Tryz.func15, Tryz.ntmps15
      go_wp2_with fail
      go_ret
      exact ⟨by rw [r2.out]; rfl, fin.out⟩
    · have r2 : Hid (bv = false) := by have := r.out; rw [decide_eq_false h2] at this; exact this
      clear r h
      go_enter Tryz.func15, Tryz.ntmps15
      go_wp2_with fail
      go_ret
      exact ⟨by rw [r2.out]; rfl, fin.out⟩
set_option maxRecDepth 100000 in
theorem greater_any : FnA 16 (ahd true) := by
  intro a b W
  have CH : Hid (∀ W, Calls Tryz.prog 15 #[eV b, eV a] W fun e w' => e = .returned (.bool (ahd true a b)) ∧ Below W.heap.size W w') := fun W => lower_any b a W
  generalize ahd true a b = bv at CH ⊢
  unfold eV at CH ⊢
  have fin : Hid (Below W.heap.size W ((W.alloc (.cells #[.int .i64 a.1, .string a.2] 30)).alloc (.cells #[.int .i64 b.1, .string b.2] 30))) := ((Below.refl _ W).alloc (Nat.le_refl _) _).alloc (by simp) _
  go_enter Tryz.func16, Tryz.ntmps16
  go_wp2_with fail
  refine Calls.mono (CH.out _) ?_
  rintro e w' ⟨rfl, BB⟩
  have fin2 : Hid (Below W.heap.size W w') := by
    first
      | exact (Below.refl _ W).trans BB
      | exact fin.out.trans (BB.mono fin.out.size)
  clear BB CH
  go_wp2_with fail
  go_ret
  exact ⟨rfl, fin2.out⟩
set_option maxRecDepth 100000 in
theorem parent_any (i : Nat) (h0 : 0 < i) (h1 : i ≤ 4611686018427387904) (w : World) : Calls Tryz.prog 71 #[.int .i64 (i : Int)] w fun e w' => e = .returned (.int .i64 ((par i : Nat) : Int)) ∧ w' = w := by
  have e1 : IntKind.i64.wrap ((i : Int) - 1) = (i : Int) - 1 := IntWalk.i64_in _ (by omega)
  have e2 : IntKind.i64.wrap (((i : Int) - 1).tdiv 2) = ((par i : Nat) : Int) := by
    have : ((i : Int) - 1).tdiv 2 = ((par i : Nat) : Int) := by
      rw [show (i : Int) - 1 = ((i - 1 : Nat) : Int) by omega]; rfl
    rw [this]; exact IntWalk.i64_in _ (by unfold par; omega)
  have e3 : wrap64 (((i : Int) - 1).tdiv 2) = ((par i : Nat) : Int) := by
    have : ((i : Int) - 1).tdiv 2 = ((par i : Nat) : Int) := by
      rw [show (i : Int) - 1 = ((i - 1 : Nat) : Int) by omega]; rfl
    rw [this]; exact IntWalk.wrap64_in _ (by unfold par; omega)
  generalize ((par i : Nat) : Int) = p at e2 e3 ⊢
  go_enter Tryz.func71, Tryz.ntmps71
  go_wp2_with fail
  go_ret
  exact ⟨by first | rfl | simp [e2] | simp [e3], rfl⟩
set_option maxRecDepth 100000 in
set_option maxHeartbeats 8000000 in
theorem above_any {w : World} {B hp mb : Nat} {most : Bool} {v : Value} {ex : Option ByteArray} {f : ByteArray → Option Nat} {L : List Ent} {mv : Int} (h : HS w B hp mb most v ex f L mv) (i j : Nat) (hi : i < L.length) (hj : j < L.length) :
    Calls Tryz.prog 51 #[.pointer (some ⟨hp, 0, none⟩), .int .i64 (i : Int), .int .i64 (j : Int)] w fun e w' => e = .returned (.bool (ahd most (atE L i) (atE L j))) ∧ Below w.heap.size w w' := by
  obtain ⟨a, cap, rfl, hg⟩ := h.form
  obtain ⟨g, rfl⟩ := hg (by omega)
  obtain ⟨a1, a2⟩ := h.at hi
  obtain ⟨b1, b2⟩ := h.at hj
  obtain ⟨_, _, _, gl, _⟩ := h.len
  have c0 := h.c0
  have c2 := h.c2
  have hl := h.hl
  have CH : Hid (∀ W, Calls Tryz.prog (fnM most) #[.agg #[.int .i64 (atE L i).1, .string (atE L i).2], .agg #[.int .i64 (atE L j).1, .string (atE L j).2]] W fun e w' => e = .returned (.bool (ahd most (atE L i) (atE L j))) ∧ Below W.heap.size W w') := fun W => by
    cases most with
    | true => exact greater_any _ _ W
    | false => exact lower_any _ _ W
  generalize ahd most (atE L i) (atE L j) = bv at CH ⊢
  generalize atE L i = x at *
  generalize atE L j = y at *
  have i0 : (0 : Int) ≤ (i : Int) := by omega
  have j0 : (0 : Int) ≤ (j : Int) := by omega
  have iI : (i : Int) < (L.length : Int) := by omega
  have jI : (j : Int) < (L.length : Int) := by omega
  generalize L.length = n at *
  clear h hg
  cases most with
  | true =>
    unfold fnM at c2 CH
    simp only [if_true] at c2 CH
    go_enter Tryz.func51, Tryz.ntmps51
    go_wp2_with fail
    refine wp_region_noPanic ?_
    refine wp_region_held_drew (S := fun W => W.cell? ⟨hp, 2, none⟩ = some (.func (.func 16) #[] #[]) ∧ W.cell? ⟨hp, 0, none⟩ = some (.slice (some ⟨g, 0, none⟩) n cap) ∧ W.cell? ⟨g, i * 2, none⟩ = some (.int .i64 x.1) ∧ W.cell? ⟨g, i * 2 + 1, none⟩ = some (.string x.2) ∧ W.cell? ⟨g, j * 2, none⟩ = some (.int .i64 y.1) ∧ W.cell? ⟨g, j * 2 + 1, none⟩ = some (.string y.2)) (by kernel_rfl) ⟨c2, c0, a1, a2, b1, b2⟩ (fun hHeld => ?_)
    refine wpAnyH_take (i := 0) (oi := _) (v := ?_) rfl (by kernel_rfl) (by kernel_rfl) (by kernel_rfl) (fun _ _ _ h => h) (Or.inl ⟨by rfl, ?_⟩) (by assumption) ?_
    rotate_left 1
    · (intro w0 hSw; (try dsimp only at hSw); obtain ⟨s1, s2, s3, s4, s5, s6⟩ := hSw; go_simp; try with_reducible rfl)
    (try simp only [List.getElem_toArray, List.getElem_cons_succ, List.getElem_cons_zero]); (try simp only [Act.put, List.setIfInBounds_toArray, List.set_cons_zero, List.set_cons_succ])
    refine wpAnyH_take (i := 1) (oi := _) (v := ?_) rfl (by kernel_rfl) (by kernel_rfl) (by kernel_rfl) (fun _ _ _ h => h) (Or.inl ⟨by rfl, ?_⟩) (by assumption) ?_
    rotate_left 1
    · (intro w0 hSw; (try dsimp only at hSw); obtain ⟨s1, s2, s3, s4, s5, s6⟩ := hSw; go_simp; try with_reducible rfl)
    (try simp only [List.getElem_toArray, List.getElem_cons_succ, List.getElem_cons_zero]); (try simp only [Act.put, List.setIfInBounds_toArray, List.set_cons_zero, List.set_cons_succ])
    refine wpAnyH_take (i := 2) (oi := _) (v := ?_) rfl (by kernel_rfl) (by kernel_rfl) (by kernel_rfl) (fun _ _ _ h => h) (Or.inl ⟨by rfl, ?_⟩) (by assumption) ?_
    rotate_left 1
    · (intro w0 hSw; (try dsimp only at hSw); obtain ⟨s1, s2, s3, s4, s5, s6⟩ := hSw; go_simp; try with_reducible rfl)
    (try simp only [List.getElem_toArray, List.getElem_cons_succ, List.getElem_cons_zero]); (try simp only [Act.put, List.setIfInBounds_toArray, List.set_cons_zero, List.set_cons_succ])
    refine wpAnyH_take (i := 3) (oi := _) (v := ?_) rfl (by kernel_rfl) (by kernel_rfl) (by kernel_rfl) (fun _ _ _ h => h) (Or.inl ⟨by rfl, ?_⟩) (by assumption) ?_
    rotate_left 1
    · (intro w0 hSw; (try dsimp only at hSw); obtain ⟨s1, s2, s3, s4, s5, s6⟩ := hSw; go_simp; try with_reducible rfl)
    (try simp only [List.getElem_toArray, List.getElem_cons_succ, List.getElem_cons_zero]); (try simp only [Act.put, List.setIfInBounds_toArray, List.set_cons_zero, List.set_cons_succ])
    refine wpAnyH_take (i := 4) (oi := _) (v := ?_) rfl (by kernel_rfl) (by kernel_rfl) (by kernel_rfl) (fun _ _ _ h => h) (Or.inl ⟨by rfl, ?_⟩) (by assumption) ?_
    rotate_left 1
    · (intro w0 hSw; (try dsimp only at hSw); obtain ⟨s1, s2, s3, s4, s5, s6⟩ := hSw; go_simp; try with_reducible rfl)
    (try simp only [List.getElem_toArray, List.getElem_cons_succ, List.getElem_cons_zero]); (try simp only [Act.put, List.setIfInBounds_toArray, List.set_cons_zero, List.set_cons_succ])
    refine wpAnyH_take (i := 5) (oi := _) (v := ?_) rfl (by kernel_rfl) (by kernel_rfl) (by kernel_rfl) (fun _ _ _ h => h) (Or.inl ⟨by rfl, ?_⟩) (by assumption) ?_
    rotate_left 1
    · (intro w0 hSw; (try dsimp only at hSw); obtain ⟨s1, s2, s3, s4, s5, s6⟩ := hSw; go_simp; try with_reducible rfl)
    (try simp only [List.getElem_toArray, List.getElem_cons_succ, List.getElem_cons_zero]); (try simp only [Act.put, List.setIfInBounds_toArray, List.set_cons_zero, List.set_cons_succ])
    refine wpAnyH_take (i := 6) (oi := _) (v := ?_) rfl (by kernel_rfl) (by kernel_rfl) (by kernel_rfl) (fun _ _ _ h => h) (Or.inl ⟨by rfl, ?_⟩) (by assumption) ?_
    rotate_left 1
    · (intro w0 hSw; (try dsimp only at hSw); obtain ⟨s1, s2, s3, s4, s5, s6⟩ := hSw; go_simp; try with_reducible rfl)
    (try simp only [List.getElem_toArray, List.getElem_cons_succ, List.getElem_cons_zero]); (try simp only [Act.put, List.setIfInBounds_toArray, List.set_cons_zero, List.set_cons_succ])
    refine wpAnyH_take (i := 7) (oi := _) (v := ?_) rfl (by kernel_rfl) (by kernel_rfl) (by kernel_rfl) (fun _ _ _ h => h) (Or.inl ⟨by rfl, ?_⟩) (by assumption) ?_
    rotate_left 1
    · (intro w0 hSw; (try dsimp only at hSw); obtain ⟨s1, s2, s3, s4, s5, s6⟩ := hSw; go_simp; try with_reducible rfl)
    (try simp only [List.getElem_toArray, List.getElem_cons_succ, List.getElem_cons_zero]); (try simp only [Act.put, List.setIfInBounds_toArray, List.set_cons_zero, List.set_cons_succ])
    refine wpAnyH_take (i := 8) (oi := _) (v := ?_) rfl (by kernel_rfl) (by kernel_rfl) (by kernel_rfl) (fun _ _ _ h => h) (Or.inl ⟨by rfl, ?_⟩) (by assumption) ?_
    rotate_left 1
    · (intro w0 hSw; (try dsimp only at hSw); obtain ⟨s1, s2, s3, s4, s5, s6⟩ := hSw; go_simp; try with_reducible rfl)
    (try simp only [List.getElem_toArray, List.getElem_cons_succ, List.getElem_cons_zero]); (try simp only [Act.put, List.setIfInBounds_toArray, List.set_cons_zero, List.set_cons_succ])
    refine wpAnyH_take (i := 9) (oi := _) (v := ?_) rfl (by kernel_rfl) (by kernel_rfl) (by kernel_rfl) (fun _ _ _ h => h) (Or.inl ⟨by rfl, ?_⟩) (by assumption) ?_
    rotate_left 1
    · (intro w0 hSw; (try dsimp only at hSw); obtain ⟨s1, s2, s3, s4, s5, s6⟩ := hSw; go_simp; try with_reducible rfl)
    (try simp only [List.getElem_toArray, List.getElem_cons_succ, List.getElem_cons_zero]); (try simp only [Act.put, List.setIfInBounds_toArray, List.set_cons_zero, List.set_cons_succ])
    refine wpAnyH_take (i := 10) (oi := _) (v := ?_) rfl (by kernel_rfl) (by kernel_rfl) (by kernel_rfl) (fun _ _ _ h => h) (Or.inl ⟨by rfl, ?_⟩) (by assumption) ?_
    rotate_left 1
    · (intro w0 hSw; (try dsimp only at hSw); obtain ⟨s1, s2, s3, s4, s5, s6⟩ := hSw; go_simp; try with_reducible rfl)
    (try simp only [List.getElem_toArray, List.getElem_cons_succ, List.getElem_cons_zero]); (try simp only [Act.put, List.setIfInBounds_toArray, List.set_cons_zero, List.set_cons_succ])
    refine wpAnyH_take (i := 11) (oi := _) (v := ?_) rfl (by kernel_rfl) (by kernel_rfl) (by kernel_rfl) (fun _ _ _ h => h) (Or.inl ⟨by rfl, ?_⟩) (by assumption) ?_
    rotate_left 1
    · (intro w0 hSw; (try dsimp only at hSw); obtain ⟨s1, s2, s3, s4, s5, s6⟩ := hSw; go_simp; try with_reducible rfl)
    (try simp only [List.getElem_toArray, List.getElem_cons_succ, List.getElem_cons_zero]); (try simp only [Act.put, List.setIfInBounds_toArray, List.set_cons_zero, List.set_cons_succ])
    refine wpAnyH_take (i := 12) (oi := _) (v := ?_) rfl (by kernel_rfl) (by kernel_rfl) (by kernel_rfl) (fun _ _ _ h => h) (Or.inl ⟨by rfl, ?_⟩) (by assumption) ?_
    rotate_left 1
    · (intro w0 hSw; (try dsimp only at hSw); obtain ⟨s1, s2, s3, s4, s5, s6⟩ := hSw; go_simp; try with_reducible rfl)
    (try simp only [List.getElem_toArray, List.getElem_cons_succ, List.getElem_cons_zero]); (try simp only [Act.put, List.setIfInBounds_toArray, List.set_cons_zero, List.set_cons_succ])
    refine wpAnyH_take (i := 13) (oi := _) (v := ?_) rfl (by kernel_rfl) (by kernel_rfl) (by kernel_rfl) (fun _ _ _ h => h) (Or.inl ⟨by rfl, ?_⟩) (by assumption) ?_
    rotate_left 1
    · (intro w0 hSw; (try dsimp only at hSw); obtain ⟨s1, s2, s3, s4, s5, s6⟩ := hSw; go_simp; try with_reducible rfl)
    (try simp only [List.getElem_toArray, List.getElem_cons_succ, List.getElem_cons_zero]); (try simp only [Act.put, List.setIfInBounds_toArray, List.set_cons_zero, List.set_cons_succ])
    refine wpAnyH_take (i := 14) (oi := _) (v := ?_) rfl (by kernel_rfl) (by kernel_rfl) (by kernel_rfl) (fun _ _ _ h => h) (Or.inl ⟨by rfl, ?_⟩) (by assumption) ?_
    rotate_left 1
    · (intro w0 hSw; (try dsimp only at hSw); obtain ⟨s1, s2, s3, s4, s5, s6⟩ := hSw; go_simp; try with_reducible rfl)
    (try simp only [List.getElem_toArray, List.getElem_cons_succ, List.getElem_cons_zero]); (try simp only [Act.put, List.setIfInBounds_toArray, List.set_cons_zero, List.set_cons_succ])
    refine wpAnyH_take (i := 15) (oi := _) (v := ?_) rfl (by kernel_rfl) (by kernel_rfl) (by kernel_rfl) (fun _ _ _ h => h) (Or.inl ⟨by rfl, ?_⟩) (by assumption) ?_
    rotate_left 1
    · (intro w0 hSw; (try dsimp only at hSw); obtain ⟨s1, s2, s3, s4, s5, s6⟩ := hSw; go_simp; try with_reducible rfl)
    (try simp only [List.getElem_toArray, List.getElem_cons_succ, List.getElem_cons_zero]); (try simp only [Act.put, List.setIfInBounds_toArray, List.set_cons_zero, List.set_cons_succ])
    refine wpAnyH_take (i := 16) (oi := _) (v := ?_) rfl (by kernel_rfl) (by kernel_rfl) (by kernel_rfl) (fun _ _ _ h => h) (Or.inl ⟨by rfl, ?_⟩) (by assumption) ?_
    rotate_left 1
    · (intro w0 hSw; (try dsimp only at hSw); obtain ⟨s1, s2, s3, s4, s5, s6⟩ := hSw; go_simp; try with_reducible rfl)
    (try simp only [List.getElem_toArray, List.getElem_cons_succ, List.getElem_cons_zero]); (try simp only [Act.put, List.setIfInBounds_toArray, List.set_cons_zero, List.set_cons_succ])
    refine wpAnyH_take (i := 17) (oi := _) (v := ?_) rfl (by kernel_rfl) (by kernel_rfl) (by kernel_rfl) (fun _ _ _ h => h) (Or.inl ⟨by rfl, ?_⟩) (by assumption) ?_
    rotate_left 1
    · (intro w0 hSw; (try dsimp only at hSw); obtain ⟨s1, s2, s3, s4, s5, s6⟩ := hSw; go_simp; try with_reducible rfl)
    (try simp only [List.getElem_toArray, List.getElem_cons_succ, List.getElem_cons_zero]); (try simp only [Act.put, List.setIfInBounds_toArray, List.set_cons_zero, List.set_cons_succ])
    refine wpAnyH_ready (rs := [18]) (by kernel_rfl) (by simp) ?_
    refine AllReadyH.cons (o := _) rfl (fun K hK => ?_) AllReadyH.nil
    go_simp
    refine Calls.mono (CH.out _) ?_
    rintro e w' ⟨rfl, BB⟩
    try dsimp only
    refine hK _ _ ?_ (fun hHeld => ?_)
    · exact ⟨by rw [BB.cell (p := ⟨hp, 2, none⟩) hl]; exact c2, by rw [BB.cell (p := ⟨hp, 0, none⟩) hl]; exact c0, by rw [BB.cell (p := ⟨g, i * 2, none⟩) gl]; exact a1, by rw [BB.cell (p := ⟨g, i * 2 + 1, none⟩) gl]; exact a2, by rw [BB.cell (p := ⟨g, j * 2, none⟩) gl]; exact b1, by rw [BB.cell (p := ⟨g, j * 2 + 1, none⟩) gl]; exact b2⟩
    clear hK K
    (try simp only [List.getElem_toArray, List.getElem_cons_succ, List.getElem_cons_zero]); (try simp only [Act.put, List.setIfInBounds_toArray, List.set_cons_zero, List.set_cons_succ])
    refine wpAnyH_take (i := 19) (oi := _) (v := ?_) rfl (by kernel_rfl) (by kernel_rfl) (by kernel_rfl) (fun _ _ _ h => h) (Or.inl ⟨by rfl, ?_⟩) (by assumption) ?_
    rotate_left 1
    · (intro w0 hSw; (try dsimp only at hSw); obtain ⟨s1, s2, s3, s4, s5, s6⟩ := hSw; go_simp; try with_reducible rfl)
    (try simp only [List.getElem_toArray, List.getElem_cons_succ, List.getElem_cons_zero]); (try simp only [Act.put, List.setIfInBounds_toArray, List.set_cons_zero, List.set_cons_succ])
    refine wpAnyH_done (by kernel_rfl) ?_ _
    refine NoPanic.normal ?_
    have fin : Hid (Below w.heap.size w w') := (show Below w.heap.size w w.drew from (Below.refl _ w).drew).trans BB
    clear BB CH a1 a2 b1 b2 c0 c2 hHeld
    go_wp2_with fail
    go_ret
    exact ⟨rfl, fin.out⟩
  | false =>
    unfold fnM at c2 CH
    simp only [Bool.false_eq_true, if_false] at c2 CH
    go_enter Tryz.func51, Tryz.ntmps51
    go_wp2_with fail
    refine wp_region_noPanic ?_
    refine wp_region_held_drew (S := fun W => W.cell? ⟨hp, 2, none⟩ = some (.func (.func 15) #[] #[]) ∧ W.cell? ⟨hp, 0, none⟩ = some (.slice (some ⟨g, 0, none⟩) n cap) ∧ W.cell? ⟨g, i * 2, none⟩ = some (.int .i64 x.1) ∧ W.cell? ⟨g, i * 2 + 1, none⟩ = some (.string x.2) ∧ W.cell? ⟨g, j * 2, none⟩ = some (.int .i64 y.1) ∧ W.cell? ⟨g, j * 2 + 1, none⟩ = some (.string y.2)) (by kernel_rfl) ⟨c2, c0, a1, a2, b1, b2⟩ (fun hHeld => ?_)
    refine wpAnyH_take (i := 0) (oi := _) (v := ?_) rfl (by kernel_rfl) (by kernel_rfl) (by kernel_rfl) (fun _ _ _ h => h) (Or.inl ⟨by rfl, ?_⟩) (by assumption) ?_
    rotate_left 1
    · (intro w0 hSw; (try dsimp only at hSw); obtain ⟨s1, s2, s3, s4, s5, s6⟩ := hSw; go_simp; try with_reducible rfl)
    (try simp only [List.getElem_toArray, List.getElem_cons_succ, List.getElem_cons_zero]); (try simp only [Act.put, List.setIfInBounds_toArray, List.set_cons_zero, List.set_cons_succ])
    refine wpAnyH_take (i := 1) (oi := _) (v := ?_) rfl (by kernel_rfl) (by kernel_rfl) (by kernel_rfl) (fun _ _ _ h => h) (Or.inl ⟨by rfl, ?_⟩) (by assumption) ?_
    rotate_left 1
    · (intro w0 hSw; (try dsimp only at hSw); obtain ⟨s1, s2, s3, s4, s5, s6⟩ := hSw; go_simp; try with_reducible rfl)
    (try simp only [List.getElem_toArray, List.getElem_cons_succ, List.getElem_cons_zero]); (try simp only [Act.put, List.setIfInBounds_toArray, List.set_cons_zero, List.set_cons_succ])
    refine wpAnyH_take (i := 2) (oi := _) (v := ?_) rfl (by kernel_rfl) (by kernel_rfl) (by kernel_rfl) (fun _ _ _ h => h) (Or.inl ⟨by rfl, ?_⟩) (by assumption) ?_
    rotate_left 1
    · (intro w0 hSw; (try dsimp only at hSw); obtain ⟨s1, s2, s3, s4, s5, s6⟩ := hSw; go_simp; try with_reducible rfl)
    (try simp only [List.getElem_toArray, List.getElem_cons_succ, List.getElem_cons_zero]); (try simp only [Act.put, List.setIfInBounds_toArray, List.set_cons_zero, List.set_cons_succ])
    refine wpAnyH_take (i := 3) (oi := _) (v := ?_) rfl (by kernel_rfl) (by kernel_rfl) (by kernel_rfl) (fun _ _ _ h => h) (Or.inl ⟨by rfl, ?_⟩) (by assumption) ?_
    rotate_left 1
    · (intro w0 hSw; (try dsimp only at hSw); obtain ⟨s1, s2, s3, s4, s5, s6⟩ := hSw; go_simp; try with_reducible rfl)
    (try simp only [List.getElem_toArray, List.getElem_cons_succ, List.getElem_cons_zero]); (try simp only [Act.put, List.setIfInBounds_toArray, List.set_cons_zero, List.set_cons_succ])
    refine wpAnyH_take (i := 4) (oi := _) (v := ?_) rfl (by kernel_rfl) (by kernel_rfl) (by kernel_rfl) (fun _ _ _ h => h) (Or.inl ⟨by rfl, ?_⟩) (by assumption) ?_
    rotate_left 1
    · (intro w0 hSw; (try dsimp only at hSw); obtain ⟨s1, s2, s3, s4, s5, s6⟩ := hSw; go_simp; try with_reducible rfl)
    (try simp only [List.getElem_toArray, List.getElem_cons_succ, List.getElem_cons_zero]); (try simp only [Act.put, List.setIfInBounds_toArray, List.set_cons_zero, List.set_cons_succ])
    refine wpAnyH_take (i := 5) (oi := _) (v := ?_) rfl (by kernel_rfl) (by kernel_rfl) (by kernel_rfl) (fun _ _ _ h => h) (Or.inl ⟨by rfl, ?_⟩) (by assumption) ?_
    rotate_left 1
    · (intro w0 hSw; (try dsimp only at hSw); obtain ⟨s1, s2, s3, s4, s5, s6⟩ := hSw; go_simp; try with_reducible rfl)
    (try simp only [List.getElem_toArray, List.getElem_cons_succ, List.getElem_cons_zero]); (try simp only [Act.put, List.setIfInBounds_toArray, List.set_cons_zero, List.set_cons_succ])
    refine wpAnyH_take (i := 6) (oi := _) (v := ?_) rfl (by kernel_rfl) (by kernel_rfl) (by kernel_rfl) (fun _ _ _ h => h) (Or.inl ⟨by rfl, ?_⟩) (by assumption) ?_
    rotate_left 1
    · (intro w0 hSw; (try dsimp only at hSw); obtain ⟨s1, s2, s3, s4, s5, s6⟩ := hSw; go_simp; try with_reducible rfl)
    (try simp only [List.getElem_toArray, List.getElem_cons_succ, List.getElem_cons_zero]); (try simp only [Act.put, List.setIfInBounds_toArray, List.set_cons_zero, List.set_cons_succ])
    refine wpAnyH_take (i := 7) (oi := _) (v := ?_) rfl (by kernel_rfl) (by kernel_rfl) (by kernel_rfl) (fun _ _ _ h => h) (Or.inl ⟨by rfl, ?_⟩) (by assumption) ?_
    rotate_left 1
    · (intro w0 hSw; (try dsimp only at hSw); obtain ⟨s1, s2, s3, s4, s5, s6⟩ := hSw; go_simp; try with_reducible rfl)
    (try simp only [List.getElem_toArray, List.getElem_cons_succ, List.getElem_cons_zero]); (try simp only [Act.put, List.setIfInBounds_toArray, List.set_cons_zero, List.set_cons_succ])
    refine wpAnyH_take (i := 8) (oi := _) (v := ?_) rfl (by kernel_rfl) (by kernel_rfl) (by kernel_rfl) (fun _ _ _ h => h) (Or.inl ⟨by rfl, ?_⟩) (by assumption) ?_
    rotate_left 1
    · (intro w0 hSw; (try dsimp only at hSw); obtain ⟨s1, s2, s3, s4, s5, s6⟩ := hSw; go_simp; try with_reducible rfl)
    (try simp only [List.getElem_toArray, List.getElem_cons_succ, List.getElem_cons_zero]); (try simp only [Act.put, List.setIfInBounds_toArray, List.set_cons_zero, List.set_cons_succ])
    refine wpAnyH_take (i := 9) (oi := _) (v := ?_) rfl (by kernel_rfl) (by kernel_rfl) (by kernel_rfl) (fun _ _ _ h => h) (Or.inl ⟨by rfl, ?_⟩) (by assumption) ?_
    rotate_left 1
    · (intro w0 hSw; (try dsimp only at hSw); obtain ⟨s1, s2, s3, s4, s5, s6⟩ := hSw; go_simp; try with_reducible rfl)
    (try simp only [List.getElem_toArray, List.getElem_cons_succ, List.getElem_cons_zero]); (try simp only [Act.put, List.setIfInBounds_toArray, List.set_cons_zero, List.set_cons_succ])
    refine wpAnyH_take (i := 10) (oi := _) (v := ?_) rfl (by kernel_rfl) (by kernel_rfl) (by kernel_rfl) (fun _ _ _ h => h) (Or.inl ⟨by rfl, ?_⟩) (by assumption) ?_
    rotate_left 1
    · (intro w0 hSw; (try dsimp only at hSw); obtain ⟨s1, s2, s3, s4, s5, s6⟩ := hSw; go_simp; try with_reducible rfl)
    (try simp only [List.getElem_toArray, List.getElem_cons_succ, List.getElem_cons_zero]); (try simp only [Act.put, List.setIfInBounds_toArray, List.set_cons_zero, List.set_cons_succ])
    refine wpAnyH_take (i := 11) (oi := _) (v := ?_) rfl (by kernel_rfl) (by kernel_rfl) (by kernel_rfl) (fun _ _ _ h => h) (Or.inl ⟨by rfl, ?_⟩) (by assumption) ?_
    rotate_left 1
    · (intro w0 hSw; (try dsimp only at hSw); obtain ⟨s1, s2, s3, s4, s5, s6⟩ := hSw; go_simp; try with_reducible rfl)
    (try simp only [List.getElem_toArray, List.getElem_cons_succ, List.getElem_cons_zero]); (try simp only [Act.put, List.setIfInBounds_toArray, List.set_cons_zero, List.set_cons_succ])
    refine wpAnyH_take (i := 12) (oi := _) (v := ?_) rfl (by kernel_rfl) (by kernel_rfl) (by kernel_rfl) (fun _ _ _ h => h) (Or.inl ⟨by rfl, ?_⟩) (by assumption) ?_
    rotate_left 1
    · (intro w0 hSw; (try dsimp only at hSw); obtain ⟨s1, s2, s3, s4, s5, s6⟩ := hSw; go_simp; try with_reducible rfl)
    (try simp only [List.getElem_toArray, List.getElem_cons_succ, List.getElem_cons_zero]); (try simp only [Act.put, List.setIfInBounds_toArray, List.set_cons_zero, List.set_cons_succ])
    refine wpAnyH_take (i := 13) (oi := _) (v := ?_) rfl (by kernel_rfl) (by kernel_rfl) (by kernel_rfl) (fun _ _ _ h => h) (Or.inl ⟨by rfl, ?_⟩) (by assumption) ?_
    rotate_left 1
    · (intro w0 hSw; (try dsimp only at hSw); obtain ⟨s1, s2, s3, s4, s5, s6⟩ := hSw; go_simp; try with_reducible rfl)
    (try simp only [List.getElem_toArray, List.getElem_cons_succ, List.getElem_cons_zero]); (try simp only [Act.put, List.setIfInBounds_toArray, List.set_cons_zero, List.set_cons_succ])
    refine wpAnyH_take (i := 14) (oi := _) (v := ?_) rfl (by kernel_rfl) (by kernel_rfl) (by kernel_rfl) (fun _ _ _ h => h) (Or.inl ⟨by rfl, ?_⟩) (by assumption) ?_
    rotate_left 1
    · (intro w0 hSw; (try dsimp only at hSw); obtain ⟨s1, s2, s3, s4, s5, s6⟩ := hSw; go_simp; try with_reducible rfl)
    (try simp only [List.getElem_toArray, List.getElem_cons_succ, List.getElem_cons_zero]); (try simp only [Act.put, List.setIfInBounds_toArray, List.set_cons_zero, List.set_cons_succ])
    refine wpAnyH_take (i := 15) (oi := _) (v := ?_) rfl (by kernel_rfl) (by kernel_rfl) (by kernel_rfl) (fun _ _ _ h => h) (Or.inl ⟨by rfl, ?_⟩) (by assumption) ?_
    rotate_left 1
    · (intro w0 hSw; (try dsimp only at hSw); obtain ⟨s1, s2, s3, s4, s5, s6⟩ := hSw; go_simp; try with_reducible rfl)
    (try simp only [List.getElem_toArray, List.getElem_cons_succ, List.getElem_cons_zero]); (try simp only [Act.put, List.setIfInBounds_toArray, List.set_cons_zero, List.set_cons_succ])
    refine wpAnyH_take (i := 16) (oi := _) (v := ?_) rfl (by kernel_rfl) (by kernel_rfl) (by kernel_rfl) (fun _ _ _ h => h) (Or.inl ⟨by rfl, ?_⟩) (by assumption) ?_
    rotate_left 1
    · (intro w0 hSw; (try dsimp only at hSw); obtain ⟨s1, s2, s3, s4, s5, s6⟩ := hSw; go_simp; try with_reducible rfl)
    (try simp only [List.getElem_toArray, List.getElem_cons_succ, List.getElem_cons_zero]); (try simp only [Act.put, List.setIfInBounds_toArray, List.set_cons_zero, List.set_cons_succ])
    refine wpAnyH_take (i := 17) (oi := _) (v := ?_) rfl (by kernel_rfl) (by kernel_rfl) (by kernel_rfl) (fun _ _ _ h => h) (Or.inl ⟨by rfl, ?_⟩) (by assumption) ?_
    rotate_left 1
    · (intro w0 hSw; (try dsimp only at hSw); obtain ⟨s1, s2, s3, s4, s5, s6⟩ := hSw; go_simp; try with_reducible rfl)
    (try simp only [List.getElem_toArray, List.getElem_cons_succ, List.getElem_cons_zero]); (try simp only [Act.put, List.setIfInBounds_toArray, List.set_cons_zero, List.set_cons_succ])
    refine wpAnyH_ready (rs := [18]) (by kernel_rfl) (by simp) ?_
    refine AllReadyH.cons (o := _) rfl (fun K hK => ?_) AllReadyH.nil
    go_simp
    refine Calls.mono (CH.out _) ?_
    rintro e w' ⟨rfl, BB⟩
    try dsimp only
    refine hK _ _ ?_ (fun hHeld => ?_)
    · exact ⟨by rw [BB.cell (p := ⟨hp, 2, none⟩) hl]; exact c2, by rw [BB.cell (p := ⟨hp, 0, none⟩) hl]; exact c0, by rw [BB.cell (p := ⟨g, i * 2, none⟩) gl]; exact a1, by rw [BB.cell (p := ⟨g, i * 2 + 1, none⟩) gl]; exact a2, by rw [BB.cell (p := ⟨g, j * 2, none⟩) gl]; exact b1, by rw [BB.cell (p := ⟨g, j * 2 + 1, none⟩) gl]; exact b2⟩
    clear hK K
    (try simp only [List.getElem_toArray, List.getElem_cons_succ, List.getElem_cons_zero]); (try simp only [Act.put, List.setIfInBounds_toArray, List.set_cons_zero, List.set_cons_succ])
    refine wpAnyH_take (i := 19) (oi := _) (v := ?_) rfl (by kernel_rfl) (by kernel_rfl) (by kernel_rfl) (fun _ _ _ h => h) (Or.inl ⟨by rfl, ?_⟩) (by assumption) ?_
    rotate_left 1
    · (intro w0 hSw; (try dsimp only at hSw); obtain ⟨s1, s2, s3, s4, s5, s6⟩ := hSw; go_simp; try with_reducible rfl)
    (try simp only [List.getElem_toArray, List.getElem_cons_succ, List.getElem_cons_zero]); (try simp only [Act.put, List.setIfInBounds_toArray, List.set_cons_zero, List.set_cons_succ])
    refine wpAnyH_done (by kernel_rfl) ?_ _
    refine NoPanic.normal ?_
    have fin : Hid (Below w.heap.size w w') := (show Below w.heap.size w w.drew from (Below.refl _ w).drew).trans BB
    clear BB CH a1 a2 b1 b2 c0 c2 hHeld
    go_wp2_with fail
    go_ret
    exact ⟨rfl, fin.out⟩
/-- what lies in memory behind lay: the row, the map. -/
structure LY (w : World) (hp mb : Nat) (v : Value) (B : Nat) (L : List Ent) (f : ByteArray → Option Nat) (cm : Nat) (w' : World) : Prop where
  row : w'.ownsRow B 30 2 v L.length (encE L)
  mp : ∃ c, MP w' mb f c ∧ c ≤ cm
  fr : HF hp mb v.ownBlock w w'
  cs : ∀ o, w'.cell? ⟨hp, o, none⟩ = w.cell? ⟨hp, o, none⟩ ∧ w'.frozen? ⟨hp, o, none⟩ = w.frozen? ⟨hp, o, none⟩
set_option maxRecDepth 100000 in
set_option maxHeartbeats 8000000 in
theorem lay_any {w : World} {B hp mb c g n cap cm : Nat} {f : ByteArray → Option Nat} {L : List Ent} (hw : HW (some g) hp mb) (hl : hp < w.heap.size) (c0 : w.cell? ⟨hp, 0, none⟩ = some (.slice (some ⟨g, 0, none⟩) n cap)) (c1 : w.cell? ⟨hp, 1, none⟩ = some (.map (some mb))) (row : w.ownsRow B 30 2 (.slice (some ⟨g, 0, none⟩) n cap) L.length (encE L)) (mp : MP w mb f c) (i : Nat) (hi : i < L.length) (hL : L.length ≤ 1152921504606846976) (x : Ent) (hx : x.2.size ≤ 9223372036854775807) (hc : (if (f x.2).isSome then c else c + 1) ≤ cm) (hc2 : c ≤ 1152921504606846977) :
    Calls Tryz.prog 49 #[.pointer (some ⟨hp, 0, none⟩), .int .i64 (i : Int), eV x] w fun e w' => e = .returned undef ∧ LY w hp mb (.slice (some ⟨g, 0, none⟩) n cap) B (L.set i x) (upd f x.2 (some i)) cm w' := by
  have hn : n = L.length := by
    rcases row.2 with ⟨e, _⟩ | ⟨_, _, _, e, _⟩
    · cases e
    · injection e with _ e _
  subst hn
  have gB := (World.ownsRow.lt row g rfl).1
  have gl := (World.ownsRow.lt row g rfl).2
  have hB := (hw.sp g rfl).1
  have mB := (hw.sp g rfl).2
  have hne := hw.ne
  obtain ⟨K, hK⟩ : ∃ K, K = w.heap.size := ⟨_, rfl⟩
  obtain ⟨W1, hW1⟩ : ∃ W1, W1 = w.alloc (.cells #[.int .i64 x.1, .string x.2] 30) := ⟨_, rfl⟩
  have b1 : Below w.heap.size w W1 := by rw [hW1]; exact (Below.refl _ w).alloc (Nat.le_refl _) _
  have s1 : W1.heap.size = K + 1 := by rw [hW1, hK]; simp
  have x1 : W1.cell? ⟨K, 0, none⟩ = some (.int .i64 x.1) := by rw [hW1, hK]; simp [go_sem]
  have x2 : W1.cell? ⟨K, 1, none⟩ = some (.string x.2) := by rw [hW1, hK]; simp [go_sem]
  have row1 : W1.ownsRow B 30 2 (.slice (some ⟨g, 0, none⟩) L.length cap) L.length (encE L) := by rw [hW1]; exact row.alloc _
  have d0 : W1.cell? ⟨hp, 0, none⟩ = some (.slice (some ⟨g, 0, none⟩) L.length cap) := by rw [b1.cell (p := ⟨hp, 0, none⟩) hl]; exact c0
  have d1 : W1.cell? ⟨hp, 1, none⟩ = some (.map (some mb)) := by rw [b1.cell (p := ⟨hp, 1, none⟩) hl]; exact c1
  -- the two stores into the row
  have t1 := World.ownsRow.stored row1 (i * 2) (.int .i64 x.1)
  have t2 := World.ownsRow.stored t1.1 (i * 2 + 1) (.string x.2)
  rw [encE_put L i x hi] at t2
  obtain ⟨W2, hW2⟩ : ∃ W2, W2 = ((W1.setCell ⟨g, i * 2, none⟩ (.int .i64 x.1)).setCell ⟨g, i * 2 + 1, none⟩ (.string x.2)).drew := ⟨_, rfl⟩
  have t2 : W2.ownsRow B 30 2 (.slice (some ⟨g, 0, none⟩) L.length cap) L.length (encE (L.set i x)) ∧ (W1.setCell ⟨g, i * 2, none⟩ (.int .i64 x.1)).grownBy W2 (some g) := by rw [hW2]; exact ⟨t2.1.drew, t2.2.os, t2.2.tape, t2.2.output, t2.2.size, t2.2.block⟩
  have g2 : W1.grownBy W2 (some g) := ⟨t2.2.os.trans t1.2.os, t2.2.tape.trans t1.2.tape, t2.2.output.trans t1.2.output, Nat.le_trans t1.2.size t2.2.size, fun k hk q => by rw [t2.2.block k (Nat.lt_of_lt_of_le hk t1.2.size) q]; exact t1.2.block k hk q⟩
  have kk : ∀ b, b < W1.heap.size → b ≠ g → W2.heap[b]? = W1.heap[b]? := fun b hb q => g2.block b hb (fun e => q (by injection e))
  have e0 : W2.cell? ⟨hp, 0, none⟩ = some (.slice (some ⟨g, 0, none⟩) L.length cap) := by rw [World.cell?_of_block (w := W1) (a := ⟨hp, 0, none⟩) (kk hp (by omega) (by omega))]; exact d0
  have e1 : W2.cell? ⟨hp, 1, none⟩ = some (.map (some mb)) := by rw [World.cell?_of_block (w := W1) (a := ⟨hp, 1, none⟩) (kk hp (by omega) (by omega))]; exact d1
  have y1 : W2.cell? ⟨K, 0, none⟩ = some (.int .i64 x.1) := by rw [World.cell?_of_block (w := W1) (a := ⟨K, 0, none⟩) (kk K (by omega) (by omega))]; exact x1
  have y2 : W2.cell? ⟨K, 1, none⟩ = some (.string x.2) := by rw [World.cell?_of_block (w := W1) (a := ⟨K, 1, none⟩) (kk K (by omega) (by omega))]; exact x2
  have mlt := mp.lt
  have mp2 : MP W2.drew mb f c := mp.keep (by show W2.heap[mb]? = _; rw [kk mb (by omega) (by omega)]; exact b1.block mb mlt)
  obtain ⟨W3, r3, mp3, g3, z3⟩ := mp2.put x.2 hx i (by omega) (by omega)
  have hWW : Hid (∀ W4, W4 = W3 → LY w hp mb (.slice (some ⟨g, 0, none⟩) L.length cap) B (L.set i x) (upd f x.2 (some i)) cm W4) := fun W4 e => by
    subst e
    have k3 : ∀ b, b < W2.heap.size → b ≠ mb → W4.heap[b]? = W2.heap[b]? := fun b hb q => g3.block b hb (fun e => q (by injection e))
    have sz2 : W1.heap.size ≤ W2.heap.size := g2.size
    refine ⟨?_, ⟨_, mp3, hc⟩, ((HF.below b1).trans (HF.grown g2 (Or.inr (Or.inr rfl)))).trans (HF.grown (show W2.grownBy W4 (some mb) from ⟨g3.os, g3.tape, g3.output, g3.size, g3.block⟩) (Or.inr (Or.inl rfl))), fun o => ⟨?_, ?_⟩⟩
    · rw [List.length_set]
      exact World.ownsRow.kept t2.1.drew g3 (Or.inr fun q => by have q2 : some g = some mb := q; injection q2 with q2; omega)
    · rw [World.cell?_of_block (w := W2) (a := ⟨hp, o, none⟩) (k3 hp (by omega) hne), World.cell?_of_block (w := W1) (a := ⟨hp, o, none⟩) (kk hp (by omega) (by omega)), b1.cell (p := ⟨hp, o, none⟩) hl]
    · rw [z3, show W2.drew.frozen? ⟨hp, o, none⟩ = W1.frozen? ⟨hp, o, none⟩ by rw [hW2]; show ((W1.setCell _ _).setCell _ _).frozen? _ = _; rw [World.frozen?_setCell, World.frozen?_setCell], b1.frozen (p := ⟨hp, o, none⟩) hl]
  have w1 : W1.cell? ⟨g, i * 2, none⟩ = some (.int .i64 (atE L i).1) ∧ W1.cell? ⟨g, i * 2 + 1, none⟩ = some (.string (atE L i).2) := by
    have hcs := World.ownsRow.cells row1 (g := g) rfl
    obtain ⟨q1, q2⟩ := encE_get L i _ (atE_some hi)
    have k1 := hcs _ _ q1
    have k2 := hcs _ _ q2
    rw [add_lt0, Nat.zero_add] at k1 k2
    exact ⟨k1, k2⟩
  obtain ⟨w1, w2⟩ := w1
  have v1 := World.ownsRow.frozenAt row1 (i * 2)
  have v2 := World.ownsRow.frozenAt row1 (i * 2 + 1)
  have i0 : (0 : Int) ≤ (i : Int) := by omega
  have iI : (i : Int) < (L.length : Int) := by omega
  have sS : Hid (W2.cell? ⟨hp, 0, none⟩ = some (.slice (some ⟨g, 0, none⟩) L.length cap) ∧ W2.cell? ⟨K, 0, none⟩ = some (.int .i64 x.1) ∧ W2.cell? ⟨K, 1, none⟩ = some (.string x.2)) := ⟨e0, y1, y2⟩
  have r3H : Hid (∀ W4, W4 = W2.drew → (Instr.mapUpdate 51 (.map (some mb)) (.string x.2) (.int .i64 (i : Int))).run Tryz.prog W4 = .ok () W3) := fun W4 e => by subst e; exact r3
  have sT : Hid (W3.cell? ⟨hp, 1, none⟩ = some (.map (some mb)) ∧ W3.cell? ⟨K, 1, none⟩ = some (.string x.2)) := by
    have k3 : ∀ b, b < W2.heap.size → b ≠ mb → W3.heap[b]? = W2.heap[b]? := fun b hb q => g3.block b hb (fun e => q (by injection e))
    have sz2 : W1.heap.size ≤ W2.heap.size := g2.size
    exact ⟨by rw [World.cell?_of_block (w := W2) (a := ⟨hp, 1, none⟩) (k3 hp (by omega) hne)]; exact e1, by rw [World.cell?_of_block (w := W2) (a := ⟨K, 1, none⟩) (k3 K (by omega) (by omega))]; exact y2⟩
  have hWWH : Hid (LY w hp mb (.slice (some ⟨g, 0, none⟩) L.length cap) B (L.set i x) (upd f x.2 (some i)) cm W3) := hWW.out _ rfl
  unfold eV
  clear hWW row row1 mp mp2 mp3 g2 g3 z3 t1 t2 kk b1 hw c0 c1 s1 hB mB hne gB gl hl hL hc hc2 hx mlt hi r3
  generalize L.length = n at *
  go_enter Tryz.func49, Tryz.ntmps49
  go_wp2_with fail
  rw [← hW1, ← hK]
  clear hW1 hK
  refine wp_region_noPanic ?_
  refine wp_region_held_drew (S := fun W => W.cell? ⟨hp, 0, none⟩ = some (.slice (some ⟨g, 0, none⟩) n cap) ∧ W.cell? ⟨K, 0, none⟩ = some (.int .i64 x.1) ∧ W.cell? ⟨K, 1, none⟩ = some (.string x.2)) (by kernel_rfl) ⟨d0, x1, x2⟩ (fun hHeld => ?_)
  refine wpAnyH_take (i := 0) (oi := _) (v := ?_) rfl (by kernel_rfl) (by kernel_rfl) (by kernel_rfl) (fun _ _ _ h => h) (Or.inl ⟨by rfl, ?_⟩) (by assumption) ?_
  rotate_left 1
  · (intro w0 hSw; (try dsimp only at hSw); obtain ⟨s1, s2, s3⟩ := hSw; go_simp; try with_reducible rfl)
  (try simp only [List.getElem_toArray, List.getElem_cons_succ, List.getElem_cons_zero]); (try simp only [Act.put, List.setIfInBounds_toArray, List.set_cons_zero, List.set_cons_succ])
  refine wpAnyH_take (i := 1) (oi := _) (v := ?_) rfl (by kernel_rfl) (by kernel_rfl) (by kernel_rfl) (fun _ _ _ h => h) (Or.inl ⟨by rfl, ?_⟩) (by assumption) ?_
  rotate_left 1
  · (intro w0 hSw; (try dsimp only at hSw); obtain ⟨s1, s2, s3⟩ := hSw; go_simp; try with_reducible rfl)
  (try simp only [List.getElem_toArray, List.getElem_cons_succ, List.getElem_cons_zero]); (try simp only [Act.put, List.setIfInBounds_toArray, List.set_cons_zero, List.set_cons_succ])
  refine wpAnyH_take (i := 2) (oi := _) (v := ?_) rfl (by kernel_rfl) (by kernel_rfl) (by kernel_rfl) (fun _ _ _ h => h) (Or.inl ⟨by rfl, ?_⟩) (by assumption) ?_
  rotate_left 1
  · (intro w0 hSw; (try dsimp only at hSw); obtain ⟨s1, s2, s3⟩ := hSw; go_simp; try with_reducible rfl)
  (try simp only [List.getElem_toArray, List.getElem_cons_succ, List.getElem_cons_zero]); (try simp only [Act.put, List.setIfInBounds_toArray, List.set_cons_zero, List.set_cons_succ])
  refine wpAnyH_take (i := 3) (oi := _) (v := ?_) rfl (by kernel_rfl) (by kernel_rfl) (by kernel_rfl) (fun _ _ _ h => h) (Or.inl ⟨by rfl, ?_⟩) (by assumption) ?_
  rotate_left 1
  · (intro w0 hSw; (try dsimp only at hSw); obtain ⟨s1, s2, s3⟩ := hSw; go_simp; try with_reducible rfl)
  (try simp only [List.getElem_toArray, List.getElem_cons_succ, List.getElem_cons_zero]); (try simp only [Act.put, List.setIfInBounds_toArray, List.set_cons_zero, List.set_cons_succ])
  refine wpAnyH_take (i := 4) (oi := _) (v := ?_) rfl (by kernel_rfl) (by kernel_rfl) (by kernel_rfl) (fun _ _ _ h => h) (Or.inl ⟨by rfl, ?_⟩) (by assumption) ?_
  rotate_left 1
  · (intro w0 hSw; (try dsimp only at hSw); obtain ⟨s1, s2, s3⟩ := hSw; go_simp; try with_reducible rfl)
  (try simp only [List.getElem_toArray, List.getElem_cons_succ, List.getElem_cons_zero]); (try simp only [Act.put, List.setIfInBounds_toArray, List.set_cons_zero, List.set_cons_succ])
  refine wpAnyH_take (i := 5) (oi := _) (v := ?_) rfl (by kernel_rfl) (by kernel_rfl) (by kernel_rfl) (fun _ _ _ h => h) (Or.inl ⟨by rfl, ?_⟩) (by assumption) ?_
  rotate_left 1
  · (intro w0 hSw; (try dsimp only at hSw); obtain ⟨s1, s2, s3⟩ := hSw; go_simp; try with_reducible rfl)
  (try simp only [List.getElem_toArray, List.getElem_cons_succ, List.getElem_cons_zero]); (try simp only [Act.put, List.setIfInBounds_toArray, List.set_cons_zero, List.set_cons_succ])
  refine wpAnyH_take (i := 6) (oi := _) (v := ?_) rfl (by kernel_rfl) (by kernel_rfl) (by kernel_rfl) (fun _ _ _ h => h) (Or.inl ⟨by rfl, ?_⟩) (by assumption) ?_
  rotate_left 1
  · (intro w0 hSw; (try dsimp only at hSw); obtain ⟨s1, s2, s3⟩ := hSw; go_simp; try with_reducible rfl)
  (try simp only [List.getElem_toArray, List.getElem_cons_succ, List.getElem_cons_zero]); (try simp only [Act.put, List.setIfInBounds_toArray, List.set_cons_zero, List.set_cons_succ])
  refine wpAnyH_ready (rs := [7]) (by kernel_rfl) (by simp) ?_
  refine AllReadyH.cons (o := _) rfl (fun K1 hK => ?_) AllReadyH.nil
  go_simp
  try dsimp only
  refine hK _ _ (by rw [← hW2]; exact sS.out) (fun hHeld => ?_)
  clear hK K1
  (try simp only [List.getElem_toArray, List.getElem_cons_succ, List.getElem_cons_zero]); (try simp only [Act.put, List.setIfInBounds_toArray, List.set_cons_zero, List.set_cons_succ])
  refine wpAnyH_done (by kernel_rfl) ?_ _
  refine NoPanic.normal ?_
  go_wp2_with fail
  rw [← hW2]
  clear hW2 d0 d1 x1 x2 w1 w2 v1 v2
  have r3 := r3H.out _ rfl
  refine wp_region_noPanic ?_
  refine wp_region_held_drew (S := fun W => W.cell? ⟨hp, 1, none⟩ = some (.map (some mb)) ∧ W.cell? ⟨K, 1, none⟩ = some (.string x.2)) (by kernel_rfl) ⟨e1, y2⟩ (fun hHeld => ?_)
  refine wpAnyH_take (i := 0) (oi := _) (v := ?_) rfl (by kernel_rfl) (by kernel_rfl) (by kernel_rfl) (fun _ _ _ h => h) (Or.inl ⟨by rfl, ?_⟩) (by assumption) ?_
  rotate_left 1
  · (intro w0 hSw; (try dsimp only at hSw); obtain ⟨s1, s2⟩ := hSw; go_simp; try with_reducible rfl)
  (try simp only [List.getElem_toArray, List.getElem_cons_succ, List.getElem_cons_zero]); (try simp only [Act.put, List.setIfInBounds_toArray, List.set_cons_zero, List.set_cons_succ])
  refine wpAnyH_take (i := 1) (oi := _) (v := ?_) rfl (by kernel_rfl) (by kernel_rfl) (by kernel_rfl) (fun _ _ _ h => h) (Or.inl ⟨by rfl, ?_⟩) (by assumption) ?_
  rotate_left 1
  · (intro w0 hSw; (try dsimp only at hSw); obtain ⟨s1, s2⟩ := hSw; go_simp; try with_reducible rfl)
  (try simp only [List.getElem_toArray, List.getElem_cons_succ, List.getElem_cons_zero]); (try simp only [Act.put, List.setIfInBounds_toArray, List.set_cons_zero, List.set_cons_succ])
  refine wpAnyH_take (i := 2) (oi := _) (v := ?_) rfl (by kernel_rfl) (by kernel_rfl) (by kernel_rfl) (fun _ _ _ h => h) (Or.inl ⟨by rfl, ?_⟩) (by assumption) ?_
  rotate_left 1
  · (intro w0 hSw; (try dsimp only at hSw); obtain ⟨s1, s2⟩ := hSw; go_simp; try with_reducible rfl)
  (try simp only [List.getElem_toArray, List.getElem_cons_succ, List.getElem_cons_zero]); (try simp only [Act.put, List.setIfInBounds_toArray, List.set_cons_zero, List.set_cons_succ])
  refine wpAnyH_take (i := 3) (oi := _) (v := ?_) rfl (by kernel_rfl) (by kernel_rfl) (by kernel_rfl) (fun _ _ _ h => h) (Or.inl ⟨by rfl, ?_⟩) (by assumption) ?_
  rotate_left 1
  · (intro w0 hSw; (try dsimp only at hSw); obtain ⟨s1, s2⟩ := hSw; go_simp; try with_reducible rfl)
  (try simp only [List.getElem_toArray, List.getElem_cons_succ, List.getElem_cons_zero]); (try simp only [Act.put, List.setIfInBounds_toArray, List.set_cons_zero, List.set_cons_succ])
  refine wpAnyH_take (i := 4) (oi := _) (v := ?_) rfl (by kernel_rfl) (by kernel_rfl) (by kernel_rfl) (fun _ _ _ h => h) (Or.inl ⟨by rfl, ?_⟩) (by assumption) ?_
  rotate_left 1
  · (intro w0 hSw; (try dsimp only at hSw); obtain ⟨s1, s2⟩ := hSw; go_simp; try with_reducible rfl)
  (try simp only [List.getElem_toArray, List.getElem_cons_succ, List.getElem_cons_zero]); (try simp only [Act.put, List.setIfInBounds_toArray, List.set_cons_zero, List.set_cons_succ])
  refine wpAnyH_take (i := 5) (oi := _) (v := ?_) rfl (by kernel_rfl) (by kernel_rfl) (by kernel_rfl) (fun _ _ _ h => h) (Or.inl ⟨by rfl, ?_⟩) (by assumption) ?_
  rotate_left 1
  · (intro w0 hSw; (try dsimp only at hSw); obtain ⟨s1, s2⟩ := hSw; go_simp; try with_reducible rfl)
  (try simp only [List.getElem_toArray, List.getElem_cons_succ, List.getElem_cons_zero]); (try simp only [Act.put, List.setIfInBounds_toArray, List.set_cons_zero, List.set_cons_succ])
  refine wpAnyH_take (i := 6) (oi := _) (v := ?_) rfl (by kernel_rfl) (by kernel_rfl) (by kernel_rfl) (fun _ _ _ h => h) (Or.inl ⟨by rfl, ?_⟩) (by assumption) ?_
  rotate_left 1
  · (intro w0 hSw; (try dsimp only at hSw); obtain ⟨s1, s2⟩ := hSw; go_simp; try with_reducible rfl)
  (try simp only [List.getElem_toArray, List.getElem_cons_succ, List.getElem_cons_zero]); (try simp only [Act.put, List.setIfInBounds_toArray, List.set_cons_zero, List.set_cons_succ])
  refine wpAnyH_ready (rs := [7]) (by kernel_rfl) (by simp) ?_
  refine AllReadyH.cons (o := _) rfl (fun K1 hK => ?_) AllReadyH.nil
  go_simp
  try dsimp only
  refine hK _ _ sT.out (fun hHeld => ?_)
  clear hK K1
  (try simp only [List.getElem_toArray, List.getElem_cons_succ, List.getElem_cons_zero]); (try simp only [Act.put, List.setIfInBounds_toArray, List.set_cons_zero, List.set_cons_succ])
  refine wpAnyH_done (by kernel_rfl) ?_ _
  refine NoPanic.normal ?_
  go_wp2_with fail
  first | go_end0 | (simp only [Exit.inBlock, Exit.then]; refine bodyPost_ret (results_none rfl _ _ _) rfl ?_) | refine bodyPost_ret (results_none rfl _ _ _) rfl ?_ | (refine bodyPost_end (results_none rfl _ _ _) rfl ?_)
  exact ⟨rfl, hWWH.out⟩
end Go.Proofs.YtboacnpbicedfaaGreatDoor.Hp

namespace Go.Proofs.YtboacnpbicedfaaGreatDoor.Hp
open Go.RowKit Go.Maps
set_option linter.unusedVariables false
set_option linter.unusedSimpArgs false
set_option maxRecDepth 100000
/-- two entries in boxes of their own. -/
structure B2 (w : World) (p q : Nat) (x y : Ent) (W : World) : Prop where
  bl : Below w.heap.size w W
  pl : w.heap.size ≤ p
  ql : w.heap.size ≤ q
  pW : p < W.heap.size
  qW : q < W.heap.size
  p0 : W.cell? ⟨p, 0, none⟩ = some (.int .i64 x.1)
  p1 : W.cell? ⟨p, 1, none⟩ = some (.string x.2)
  q0 : W.cell? ⟨q, 0, none⟩ = some (.int .i64 y.1)
  q1 : W.cell? ⟨q, 1, none⟩ = some (.string y.2)
theorem upd_some {f : ByteArray → Option Nat} {s a : ByteArray} {i : Nat} (h : (f s).isSome = true) : (upd f a (some i) s).isSome = true := by
  unfold upd
  by_cases e : s = a
  · rw [if_pos e]; rfl
  · rw [if_neg e]; exact h
theorem upd2_some {f : ByteArray → Option Nat} {s a b : ByteArray} {i j : Nat} (h : (f s).isSome = true) : (upd (upd f a (some i)) b (some j) s).isSome = true := upd_some (upd_some h)
theorem mem_swp {L : List Ent} {i j : Nat} (hi : i < L.length) (hj : j < L.length) {e : Ent} (he : e ∈ swp L i j) : e ∈ L := by
  obtain ⟨k, hk⟩ := List.getElem?_of_mem he
  have hkl : k < L.length := by have := (List.getElem?_eq_some_iff.1 hk).1; rwa [swp_len] at this
  rw [← atE_get hk, swp_at L hi hj]
  split
  · exact List.mem_of_getElem? (atE_some hi)
  · split
    · exact List.mem_of_getElem? (atE_some hj)
    · exact List.mem_of_getElem? (atE_some hkl)
set_option maxRecDepth 100000 in
set_option maxHeartbeats 8000000 in
theorem swap_any {w : World} {B hp mb : Nat} {most : Bool} {v : Value} {ex : Option ByteArray} {f : ByteArray → Option Nat} {L : List Ent} {mv : Int} (h : HS w B hp mb most v ex f L mv) (i j : Nat) (hi : i < L.length) (hj : j < L.length) (hne : i ≠ j) (hL : L.length ≤ 1152921504606846976) :
    Calls Tryz.prog 52 #[.pointer (some ⟨hp, 0, none⟩), .int .i64 (i : Int), .int .i64 (j : Int)] w fun e w' => e = .returned undef ∧ HS w' B hp mb most v ex (upd (upd f (atE L j).2 (some i)) (atE L i).2 (some j)) (swp L i j) mv ∧ HF hp mb v.ownBlock w w' := by
  obtain ⟨a, cap, rfl, hg⟩ := h.form
  obtain ⟨g, rfl⟩ := hg (by omega)
  have hH : Hid (HS w B hp mb most (.slice (some ⟨g, 0, none⟩) L.length cap) ex f L mv) := h
  obtain ⟨a1, a2⟩ := h.at hi
  obtain ⟨b1, b2⟩ := h.at hj
  obtain ⟨_, _, gB, gl, _⟩ := h.len
  have c0 := h.c0
  have hl := h.hl
  have nx : (atE L i).2.size ≤ 9223372036854775807 := h.nm _ (List.mem_of_getElem? (atE_some hi))
  have ny : (atE L j).2.size ≤ 9223372036854775807 := h.nm _ (List.mem_of_getElem? (atE_some hj))
  have fy : f (atE L j).2 = some j := h.pl.at hj
  have fx : f (atE L i).2 = some i := h.pl.at hi
  have PLs : Hid (PL ex (upd (upd f (atE L j).2 (some i)) (atE L i).2 (some j)) (swp L i j)) := h.pl.swap hi hj hne
  have LS : Hid (swp L i j = (L.set i (atE L j)).set j (atE L i)) := rfl
  have nmS : Hid (∀ e ∈ swp L i j, e.2.size ≤ 9223372036854775807) := fun e he => h.nm e (mem_swp hi hj he)
  have hlen : Hid ((swp L i j).length = L.length) := swp_len L i j
  -- the two calls of lay, whatever the boxes
  have LAY1 : Hid (∀ (p q : Nat) (W : World), B2 w p q (atE L i) (atE L j) W → Calls Tryz.prog 49 #[.pointer (some ⟨hp, 0, none⟩), .int .i64 (i : Int), eV (atE L j)] W fun e w1 => e = .returned undef ∧ (w1.cell? ⟨p, 0, none⟩ = some (.int .i64 (atE L i).1) ∧ w1.cell? ⟨p, 1, none⟩ = some (.string (atE L i).2)) ∧ Calls Tryz.prog 49 #[.pointer (some ⟨hp, 0, none⟩), .int .i64 (j : Int), eV (atE L i)] w1 fun e w' => e = .returned undef ∧ HS w' B hp mb most (.slice (some ⟨g, 0, none⟩) L.length cap) ex (upd (upd f (atE L j).2 (some i)) (atE L i).2 (some j)) (swp L i j) mv ∧ HF hp mb (some g) w w') := fun p q W hb => by
    have hW := h.below hb.bl
    obtain ⟨c, mp, hc⟩ := hW.mp
    refine (lay_any hW.hw hW.hl hW.c0 hW.c1 hW.row mp i hi hL (atE L j) ny (by rw [fy]; exact hc) (by have := ex_le ex; omega)).mono fun e w1 hh => ?_
    obtain ⟨rfl, ly⟩ := hh
    have pk : w1.heap[p]? = W.heap[p]? := ly.fr.keep p hb.pW (by have := hb.pl; omega) (by have := hb.pl; have := mp.lt; have := h.mp; obtain ⟨c', m', _⟩ := this; have := m'.lt; omega) (fun e => by have e2 : some p = some g := e; injection e2 with e2; have := hb.pl; omega)
    refine ⟨rfl, ⟨by rw [World.cell?_of_block (w := W) (a := ⟨p, 0, none⟩) pk]; exact hb.p0, by rw [World.cell?_of_block (w := W) (a := ⟨p, 1, none⟩) pk]; exact hb.p1⟩, ?_⟩
    obtain ⟨c1, mp1, hc1⟩ := ly.mp
    have row1 : w1.ownsRow B 30 2 (.slice (some ⟨g, 0, none⟩) L.length cap) (L.set i (atE L j)).length (encE (L.set i (atE L j))) := ly.row
    have fs : (upd f (atE L j).2 (some i) (atE L i).2).isSome = true := by
      unfold upd; split
      · rfl
      · rw [fx]; rfl
    refine (lay_any hW.hw (Nat.lt_of_lt_of_le hW.hl ly.fr.size) (by rw [(ly.cs 0).1]; exact hW.c0) (by rw [(ly.cs 1).1]; exact hW.c1) row1 mp1 j (by simpa using hj) (by simpa using hL) (atE L i) nx (by rw [fs]; exact hc1) (by have := ex_le ex; omega)).mono fun e w2 hh => ?_
    obtain ⟨rfl, l2⟩ := hh
    have cs : ∀ o, w2.cell? ⟨hp, o, none⟩ = W.cell? ⟨hp, o, none⟩ ∧ w2.frozen? ⟨hp, o, none⟩ = W.frozen? ⟨hp, o, none⟩ := fun o => ⟨(l2.cs o).1.trans (ly.cs o).1, (l2.cs o).2.trans (ly.cs o).2⟩
    refine ⟨rfl, ⟨by rw [(cs 0).1]; exact hW.c0, by rw [(cs 1).1]; exact hW.c1, by rw [(cs 2).1]; exact hW.c2, by rw [(cs 3).1]; exact hW.c3, by rw [(cs 0).2]; exact hW.z0, by rw [(cs 3).2]; exact hW.z3, l2.row, (by rw [hlen.out]; exact l2.mp), PLs.out, hW.hw, nmS.out, Nat.lt_of_lt_of_le hW.hl (Nat.le_trans ly.fr.size l2.fr.size), fun s hs => upd2_some (hW.exs s hs)⟩, ((HF.below hb.bl).trans ly.fr).trans l2.fr⟩
  unfold eV at LAY1
  have bxA : Hid (B2 w w.heap.size (w.heap.size + 1) (atE L i) (atE L j) ((w.alloc (.cells #[.int .i64 (atE L i).1, .string (atE L i).2] 30)).alloc (.cells #[.int .i64 (atE L j).1, .string (atE L j).2] 30)).drew) := ⟨(((Below.refl _ w).alloc (Nat.le_refl _) _).alloc (by simp) _).drew, Nat.le_refl _, by omega, by simp <;> omega, by simp <;> omega, by simp [go_sem], by simp [go_sem], by simp [go_sem], by simp [go_sem]⟩
  have bxB : Hid (B2 w (w.heap.size + 1) w.heap.size (atE L i) (atE L j) ((w.alloc (.cells #[.int .i64 (atE L j).1, .string (atE L j).2] 30)).alloc (.cells #[.int .i64 (atE L i).1, .string (atE L i).2] 30)).drew) := ⟨(((Below.refl _ w).alloc (Nat.le_refl _) _).alloc (by simp) _).drew, by omega, Nat.le_refl _, by simp <;> omega, by simp <;> omega, by simp [go_sem], by simp [go_sem], by simp [go_sem], by simp [go_sem]⟩
  have RES : Hid (∀ w' : World, HS w' B hp mb most (.slice (some ⟨g, 0, none⟩) L.length cap) ex (upd (upd f (atE L j).2 (some i)) (atE L i).2 (some j)) (swp L i j) mv → HF hp mb (some g) w w' → HS w' B hp mb most (.slice (some ⟨g, 0, none⟩) L.length cap) ex (upd (upd f (atE L j).2 (some i)) (atE L i).2 (some j)) (swp L i j) mv ∧ HF hp mb (Value.slice (some ⟨g, 0, none⟩) L.length cap).ownBlock w w') := fun w' p q => ⟨p, q⟩
  have i0 : (0 : Int) ≤ (i : Int) := by omega
  have j0 : (0 : Int) ≤ (j : Int) := by omega
  have iI : (i : Int) < (L.length : Int) := by omega
  have jI : (j : Int) < (L.length : Int) := by omega
  generalize upd (upd f (atE L j).2 (some i)) (atE L i).2 (some j) = F2 at *
  generalize swp L i j = L2 at *
  generalize atE L i = x at *
  generalize atE L j = y at *
  have hSB : Hid (∀ W, Below w.heap.size w W → (W.cell? ⟨hp, 0, none⟩ = some (.slice (some ⟨g, 0, none⟩) L.length cap) ∧ W.cell? ⟨g, i * 2, none⟩ = some (.int .i64 x.1) ∧ W.cell? ⟨g, i * 2 + 1, none⟩ = some (.string x.2) ∧ W.cell? ⟨g, j * 2, none⟩ = some (.int .i64 y.1) ∧ W.cell? ⟨g, j * 2 + 1, none⟩ = some (.string y.2))) := fun W hB => ⟨by rw [hB.cell (p := ⟨hp, 0, none⟩) hl]; exact c0, by rw [hB.cell (p := ⟨g, i * 2, none⟩) gl]; exact a1, by rw [hB.cell (p := ⟨g, i * 2 + 1, none⟩) gl]; exact a2, by rw [hB.cell (p := ⟨g, j * 2, none⟩) gl]; exact b1, by rw [hB.cell (p := ⟨g, j * 2 + 1, none⟩) gl]; exact b2⟩
  generalize L.length = n at *
  clear h hH hg nx ny fy fx PLs LS nmS hlen gB
  go_enter Tryz.func52, Tryz.ntmps52
  go_wp2_with fail
  go_cut [6, 7] from 8 to 21 (fun v6 v7 wx => ∃ p q, v6 = .pointer (some ⟨p, 0, none⟩) ∧ v7 = .pointer (some ⟨q, 0, none⟩) ∧ B2 w p q x y wx)
  case first =>
    refine wp_region_noPanic ?_
    refine wp_region_held_drew (S := fun W => W.cell? ⟨hp, 0, none⟩ = some (.slice (some ⟨g, 0, none⟩) n cap) ∧ W.cell? ⟨g, i * 2, none⟩ = some (.int .i64 x.1) ∧ W.cell? ⟨g, i * 2 + 1, none⟩ = some (.string x.2) ∧ W.cell? ⟨g, j * 2, none⟩ = some (.int .i64 y.1) ∧ W.cell? ⟨g, j * 2 + 1, none⟩ = some (.string y.2)) (by kernel_rfl) ⟨c0, a1, a2, b1, b2⟩ (fun hHeld => ?_)
    refine wpAnyH_take (i := 0) (oi := _) (v := ?_) rfl (by kernel_rfl) (by kernel_rfl) (by kernel_rfl) (fun _ _ _ h => h) (Or.inl ⟨by rfl, ?_⟩) (by assumption) ?_
    rotate_left 1
    · (intro w0 hSw; (try dsimp only at hSw); obtain ⟨s1, s2, s3, s4, s5⟩ := hSw; go_simp; try with_reducible rfl)
    (try simp only [List.getElem_toArray, List.getElem_cons_succ, List.getElem_cons_zero]); (try simp only [Act.put, List.setIfInBounds_toArray, List.set_cons_zero, List.set_cons_succ])
    refine wpAnyH_take (i := 1) (oi := _) (v := ?_) rfl (by kernel_rfl) (by kernel_rfl) (by kernel_rfl) (fun _ _ _ h => h) (Or.inl ⟨by rfl, ?_⟩) (by assumption) ?_
    rotate_left 1
    · (intro w0 hSw; (try dsimp only at hSw); obtain ⟨s1, s2, s3, s4, s5⟩ := hSw; go_simp; try with_reducible rfl)
    (try simp only [List.getElem_toArray, List.getElem_cons_succ, List.getElem_cons_zero]); (try simp only [Act.put, List.setIfInBounds_toArray, List.set_cons_zero, List.set_cons_succ])
    refine wpAnyH_take (i := 2) (oi := _) (v := ?_) rfl (by kernel_rfl) (by kernel_rfl) (by kernel_rfl) (fun _ _ _ h => h) (Or.inl ⟨by rfl, ?_⟩) (by assumption) ?_
    rotate_left 1
    · (intro w0 hSw; (try dsimp only at hSw); obtain ⟨s1, s2, s3, s4, s5⟩ := hSw; go_simp; try with_reducible rfl)
    (try simp only [List.getElem_toArray, List.getElem_cons_succ, List.getElem_cons_zero]); (try simp only [Act.put, List.setIfInBounds_toArray, List.set_cons_zero, List.set_cons_succ])
    refine wpAnyH_take (i := 3) (oi := _) (v := ?_) rfl (by kernel_rfl) (by kernel_rfl) (by kernel_rfl) (fun _ _ _ h => h) (Or.inl ⟨by rfl, ?_⟩) (by assumption) ?_
    rotate_left 1
    · (intro w0 hSw; (try dsimp only at hSw); obtain ⟨s1, s2, s3, s4, s5⟩ := hSw; go_simp; try with_reducible rfl)
    (try simp only [List.getElem_toArray, List.getElem_cons_succ, List.getElem_cons_zero]); (try simp only [Act.put, List.setIfInBounds_toArray, List.set_cons_zero, List.set_cons_succ])
    refine wpAnyH_take (i := 4) (oi := _) (v := ?_) rfl (by kernel_rfl) (by kernel_rfl) (by kernel_rfl) (fun _ _ _ h => h) (Or.inl ⟨by rfl, ?_⟩) (by assumption) ?_
    rotate_left 1
    · (intro w0 hSw; (try dsimp only at hSw); obtain ⟨s1, s2, s3, s4, s5⟩ := hSw; go_simp; try with_reducible rfl)
    (try simp only [List.getElem_toArray, List.getElem_cons_succ, List.getElem_cons_zero]); (try simp only [Act.put, List.setIfInBounds_toArray, List.set_cons_zero, List.set_cons_succ])
    refine wpAnyH_take (i := 5) (oi := _) (v := ?_) rfl (by kernel_rfl) (by kernel_rfl) (by kernel_rfl) (fun _ _ _ h => h) (Or.inl ⟨by rfl, ?_⟩) (by assumption) ?_
    rotate_left 1
    · (intro w0 hSw; (try dsimp only at hSw); obtain ⟨s1, s2, s3, s4, s5⟩ := hSw; go_simp; try with_reducible rfl)
    (try simp only [List.getElem_toArray, List.getElem_cons_succ, List.getElem_cons_zero]); (try simp only [Act.put, List.setIfInBounds_toArray, List.set_cons_zero, List.set_cons_succ])
    refine wpAnyH_take (i := 6) (oi := _) (v := ?_) rfl (by kernel_rfl) (by kernel_rfl) (by kernel_rfl) (fun _ _ _ h => h) (Or.inl ⟨by rfl, ?_⟩) (by assumption) ?_
    rotate_left 1
    · (intro w0 hSw; (try dsimp only at hSw); obtain ⟨s1, s2, s3, s4, s5⟩ := hSw; go_simp; try with_reducible rfl)
    (try simp only [List.getElem_toArray, List.getElem_cons_succ, List.getElem_cons_zero]); (try simp only [Act.put, List.setIfInBounds_toArray, List.set_cons_zero, List.set_cons_succ])
    refine wpAnyH_take (i := 7) (oi := _) (v := ?_) rfl (by kernel_rfl) (by kernel_rfl) (by kernel_rfl) (fun _ _ _ h => h) (Or.inl ⟨by rfl, ?_⟩) (by assumption) ?_
    rotate_left 1
    · (intro w0 hSw; (try dsimp only at hSw); obtain ⟨s1, s2, s3, s4, s5⟩ := hSw; go_simp; try with_reducible rfl)
    (try simp only [List.getElem_toArray, List.getElem_cons_succ, List.getElem_cons_zero]); (try simp only [Act.put, List.setIfInBounds_toArray, List.set_cons_zero, List.set_cons_succ])
    refine wpAnyH_take (i := 8) (oi := _) (v := ?_) rfl (by kernel_rfl) (by kernel_rfl) (by kernel_rfl) (fun _ _ _ h => h) (Or.inl ⟨by rfl, ?_⟩) (by assumption) ?_
    rotate_left 1
    · (intro w0 hSw; (try dsimp only at hSw); obtain ⟨s1, s2, s3, s4, s5⟩ := hSw; go_simp; try with_reducible rfl)
    (try simp only [List.getElem_toArray, List.getElem_cons_succ, List.getElem_cons_zero]); (try simp only [Act.put, List.setIfInBounds_toArray, List.set_cons_zero, List.set_cons_succ])
    refine wpAnyH_take (i := 9) (oi := _) (v := ?_) rfl (by kernel_rfl) (by kernel_rfl) (by kernel_rfl) (fun _ _ _ h => h) (Or.inl ⟨by rfl, ?_⟩) (by assumption) ?_
    rotate_left 1
    · (intro w0 hSw; (try dsimp only at hSw); obtain ⟨s1, s2, s3, s4, s5⟩ := hSw; go_simp; try with_reducible rfl)
    (try simp only [List.getElem_toArray, List.getElem_cons_succ, List.getElem_cons_zero]); (try simp only [Act.put, List.setIfInBounds_toArray, List.set_cons_zero, List.set_cons_succ])
    refine wpAnyH_take (i := 10) (oi := _) (v := ?_) rfl (by kernel_rfl) (by kernel_rfl) (by kernel_rfl) (fun _ _ _ h => h) (Or.inl ⟨by rfl, ?_⟩) (by assumption) ?_
    rotate_left 1
    · (intro w0 hSw; (try dsimp only at hSw); obtain ⟨s1, s2, s3, s4, s5⟩ := hSw; go_simp; try with_reducible rfl)
    (try simp only [List.getElem_toArray, List.getElem_cons_succ, List.getElem_cons_zero]); (try simp only [Act.put, List.setIfInBounds_toArray, List.set_cons_zero, List.set_cons_succ])
    refine wpAnyH_take (i := 11) (oi := _) (v := ?_) rfl (by kernel_rfl) (by kernel_rfl) (by kernel_rfl) (fun _ _ _ h => h) (Or.inl ⟨by rfl, ?_⟩) (by assumption) ?_
    rotate_left 1
    · (intro w0 hSw; (try dsimp only at hSw); obtain ⟨s1, s2, s3, s4, s5⟩ := hSw; go_simp; try with_reducible rfl)
    (try simp only [List.getElem_toArray, List.getElem_cons_succ, List.getElem_cons_zero]); (try simp only [Act.put, List.setIfInBounds_toArray, List.set_cons_zero, List.set_cons_succ])
    refine wpAnyH_take (i := 12) (oi := _) (v := ?_) rfl (by kernel_rfl) (by kernel_rfl) (by kernel_rfl) (fun _ _ _ h => h) (Or.inl ⟨by rfl, ?_⟩) (by assumption) ?_
    rotate_left 1
    · (intro w0 hSw; (try dsimp only at hSw); obtain ⟨s1, s2, s3, s4, s5⟩ := hSw; go_simp; try with_reducible rfl)
    (try simp only [List.getElem_toArray, List.getElem_cons_succ, List.getElem_cons_zero]); (try simp only [Act.put, List.setIfInBounds_toArray, List.set_cons_zero, List.set_cons_succ])
    refine wpAnyH_take (i := 13) (oi := _) (v := ?_) rfl (by kernel_rfl) (by kernel_rfl) (by kernel_rfl) (fun _ _ _ h => h) (Or.inl ⟨by rfl, ?_⟩) (by assumption) ?_
    rotate_left 1
    · (intro w0 hSw; (try dsimp only at hSw); obtain ⟨s1, s2, s3, s4, s5⟩ := hSw; go_simp; try with_reducible rfl)
    (try simp only [List.getElem_toArray, List.getElem_cons_succ, List.getElem_cons_zero]); (try simp only [Act.put, List.setIfInBounds_toArray, List.set_cons_zero, List.set_cons_succ])
    refine wpAnyH_ready (rs := [14, 15]) (by kernel_rfl) (by simp) ?_
    refine AllReadyH.cons (o := _) rfl (fun K1 hK => ?_) ?_
    · go_simp
      try dsimp only
      refine hK _ _ (hSB.out _ (((Below.refl _ w).alloc (Nat.le_refl _) _).drew)) (fun hHeld => ?_)
      clear hK K1
      (try simp only [List.getElem_toArray, List.getElem_cons_succ, List.getElem_cons_zero]); (try simp only [Act.put, List.setIfInBounds_toArray, List.set_cons_zero, List.set_cons_succ])
      refine wpAnyH_ready (rs := [15]) (by kernel_rfl) (by simp) ?_
      refine AllReadyH.cons (o := _) rfl (fun K1 hK => ?_) AllReadyH.nil
      go_simp
      try dsimp only
      refine hK _ _ (hSB.out _ ((((Below.refl _ w).alloc (Nat.le_refl _) _).alloc (by simp) _).drew)) (fun hHeld => ?_)
      clear hK K1
      (try simp only [List.getElem_toArray, List.getElem_cons_succ, List.getElem_cons_zero]); (try simp only [Act.put, List.setIfInBounds_toArray, List.set_cons_zero, List.set_cons_succ])
      refine wpAnyH_ready (rs := [16]) (by kernel_rfl) (by simp) ?_
      refine AllReadyH.cons (o := _) rfl (fun K1 hK => ?_) AllReadyH.nil
      go_simp
      try dsimp only
      refine hK _ _ (hSB.out _ ((((Below.refl _ w).alloc (Nat.le_refl _) _).alloc (by simp) _).drew)) (fun hHeld => ?_)
      clear hK K1
      (try simp only [List.getElem_toArray, List.getElem_cons_succ, List.getElem_cons_zero]); (try simp only [Act.put, List.setIfInBounds_toArray, List.set_cons_zero, List.set_cons_succ])
      refine wpAnyH_ready (rs := [17]) (by kernel_rfl) (by simp) ?_
      refine AllReadyH.cons (o := _) rfl (fun K1 hK => ?_) AllReadyH.nil
      go_simp
      try dsimp only
      refine hK _ _ (hSB.out _ ((((Below.refl _ w).alloc (Nat.le_refl _) _).alloc (by simp) _).drew)) (fun hHeld => ?_)
      clear hK K1
      (try simp only [List.getElem_toArray, List.getElem_cons_succ, List.getElem_cons_zero]); (try simp only [Act.put, List.setIfInBounds_toArray, List.set_cons_zero, List.set_cons_succ])
      refine wpAnyH_done (by kernel_rfl) ?_ _
      refine NoPanic.normal ?_
      clear c0 a1 a2 b1 b2
      go_wp2_with fail
      go_meet
      exact ⟨_, _, rfl, rfl, bxA.out⟩
    refine AllReadyH.cons (o := _) rfl (fun K1 hK => ?_) AllReadyH.nil
    go_simp
    try dsimp only
    refine hK _ _ (hSB.out _ (((Below.refl _ w).alloc (Nat.le_refl _) _).drew)) (fun hHeld => ?_)
    clear hK K1
    (try simp only [List.getElem_toArray, List.getElem_cons_succ, List.getElem_cons_zero]); (try simp only [Act.put, List.setIfInBounds_toArray, List.set_cons_zero, List.set_cons_succ])
    refine wpAnyH_ready (rs := [14]) (by kernel_rfl) (by simp) ?_
    refine AllReadyH.cons (o := _) rfl (fun K1 hK => ?_) AllReadyH.nil
    go_simp
    try dsimp only
    refine hK _ _ (hSB.out _ ((((Below.refl _ w).alloc (Nat.le_refl _) _).alloc (by simp) _).drew)) (fun hHeld => ?_)
    clear hK K1
    (try simp only [List.getElem_toArray, List.getElem_cons_succ, List.getElem_cons_zero]); (try simp only [Act.put, List.setIfInBounds_toArray, List.set_cons_zero, List.set_cons_succ])
    refine wpAnyH_ready (rs := [16]) (by kernel_rfl) (by simp) ?_
    refine AllReadyH.cons (o := _) rfl (fun K1 hK => ?_) AllReadyH.nil
    go_simp
    try dsimp only
    refine hK _ _ (hSB.out _ ((((Below.refl _ w).alloc (Nat.le_refl _) _).alloc (by simp) _).drew)) (fun hHeld => ?_)
    clear hK K1
    (try simp only [List.getElem_toArray, List.getElem_cons_succ, List.getElem_cons_zero]); (try simp only [Act.put, List.setIfInBounds_toArray, List.set_cons_zero, List.set_cons_succ])
    refine wpAnyH_ready (rs := [17]) (by kernel_rfl) (by simp) ?_
    refine AllReadyH.cons (o := _) rfl (fun K1 hK => ?_) AllReadyH.nil
    go_simp
    try dsimp only
    refine hK _ _ (hSB.out _ ((((Below.refl _ w).alloc (Nat.le_refl _) _).alloc (by simp) _).drew)) (fun hHeld => ?_)
    clear hK K1
    (try simp only [List.getElem_toArray, List.getElem_cons_succ, List.getElem_cons_zero]); (try simp only [Act.put, List.setIfInBounds_toArray, List.set_cons_zero, List.set_cons_succ])
    refine wpAnyH_done (by kernel_rfl) ?_ _
    refine NoPanic.normal ?_
    clear c0 a1 a2 b1 b2
    go_wp2_with fail
    go_meet
    exact ⟨_, _, rfl, rfl, bxB.out⟩
  case rest =>
    obtain ⟨p, q, rfl, rfl, hb⟩ := hcut
    have k0 := hb.q0
    have k1 := hb.q1
    have C1 : Hid _ := LAY1.out p q wc hb
    clear hb bxA bxB hSB LAY1 c0 a1 a2 b1 b2
    go_wp2_with fail
    refine Calls.mono C1.out ?_
    rintro e w1 ⟨rfl, ⟨m0, m1⟩, C2⟩
    have C2 : Hid _ := C2
    clear C1 k0 k1
    go_wp2_with fail
    refine Calls.mono C2.out ?_
    rintro e w2 ⟨rfl, r1, r2⟩
    have fin : Hid _ := RES.out w2 r1 r2
    clear r1 r2 C2 m0 m1
    go_wp2_with fail
    first | go_end0 | (simp only [Exit.inBlock, Exit.then]; refine bodyPost_ret (results_none rfl _ _ _) rfl ?_) | refine bodyPost_ret (results_none rfl _ _ _) rfl ?_
    exact ⟨rfl, fin.out⟩
end Go.Proofs.YtboacnpbicedfaaGreatDoor.Hp

namespace Go.Proofs.YtboacnpbicedfaaGreatDoor.Hp
open Go.RowKit Go.Maps
set_option linter.unusedVariables false
set_option linter.unusedSimpArgs false
set_option maxRecDepth 100000
theorem nums2 (i : Nat) (h : i ≤ 1152921504606846976) : IntKind.i64.wrap (2 * (i : Int)) = 2 * (i : Int) ∧ IntKind.i64.wrap (2 * (i : Int) + 1) = ((2 * i + 1 : Nat) : Int) ∧ IntKind.i64.wrap (2 * (i : Int) + 2) = ((2 * i + 2 : Nat) : Int) := by
  refine ⟨IntWalk.i64_in _ (by omega), ?_, ?_⟩
  · rw [show 2 * (i : Int) + 1 = ((2 * i + 1 : Nat) : Int) by omega]; exact IntWalk.i64_in _ (by omega)
  · rw [show 2 * (i : Int) + 2 = ((2 * i + 2 : Nat) : Int) by omega]; exact IntWalk.i64_in _ (by omega)
set_option maxRecDepth 100000 in
set_option maxHeartbeats 4000000 in
theorem kid_any {w : World} {B hp mb : Nat} {most : Bool} {v : Value} {ex : Option ByteArray} {f : ByteArray → Option Nat} {L : List Ent} {mv : Int} (h : HS w B hp mb most v ex f L mv) (i : Nat) (hi : i < L.length) (hL : L.length ≤ 1152921504606846976) :
    Calls Tryz.prog 50 #[.pointer (some ⟨hp, 0, none⟩), .int .i64 (i : Int)] w fun e w' => e = .returned (.int .i64 ((kidL (ahd most) L i : Nat) : Int)) ∧ Below w.heap.size w w' := by
  obtain ⟨a, cap, rfl, hg⟩ := h.form
  have c0 := h.c0
  obtain ⟨n1, n2, n3⟩ := nums2 i (by omega)
  have CH : Hid (2 * i + 2 < L.length → ∀ bv, ahd most (atE L (2 * i + 2)) (atE L (2 * i + 1)) = bv → Calls Tryz.prog 51 #[.pointer (some ⟨hp, 0, none⟩), .int .i64 ((2 * i + 2 : Nat) : Int), .int .i64 ((2 * i + 1 : Nat) : Int)] w fun e w' => e = .returned (.bool bv) ∧ Below w.heap.size w w') := fun hlt bv hb => by
    have := above_any h (2 * i + 2) (2 * i + 1) hlt (by omega)
    rw [hb] at this; exact this
  have RES : Hid (kidL (ahd most) L i = if 2 * i + 2 < L.length ∧ ahd most (atE L (2 * i + 2)) (atE L (2 * i + 1)) = true then 2 * i + 2 else 2 * i + 1) := rfl
  generalize kidL (ahd most) L i = kd at RES ⊢
  obtain ⟨p, hp1⟩ : ∃ p : Nat, p = 2 * i + 1 := ⟨_, rfl⟩
  obtain ⟨q, hq1⟩ : ∃ q : Nat, q = 2 * i + 2 := ⟨_, rfl⟩
  rw [← hp1] at n2 RES CH
  rw [← hq1] at n3 RES CH
  clear hp1 hq1 hi hL hg
  by_cases hlt : q < L.length
  · have hltI : (q : Int) < (L.length : Int) := by omega
    obtain ⟨bv, hbv⟩ : ∃ bv, ahd most (atE L q) (atE L p) = bv := ⟨_, rfl⟩
    have C1 : Hid _ := CH.out hlt bv hbv
    have R1 := RES.out
    rw [hbv] at R1
    clear CH RES hbv h
    generalize L.length = n at *
    cases bv with
    | true =>
      have r : Hid (kd = q) := by rw [if_pos ⟨hlt, rfl⟩] at R1; exact R1
      clear R1 hlt
      go_enter Tryz.func50, Tryz.ntmps50
      go_wp2_with fail
      refine Calls.mono C1.out ?_
      rintro e w' ⟨rfl, BB⟩
      have fin : Hid (Below w.heap.size w w') := BB
      clear BB C1 c0
      go_wp2_with fail
      go_ret
      exact ⟨by rw [r.out]; rfl, fin.out⟩
    | false =>
      have r : Hid (kd = p) := by rw [if_neg (by simp)] at R1; exact R1
      clear R1 hlt
      go_enter Tryz.func50, Tryz.ntmps50
      go_wp2_with fail
      refine Calls.mono C1.out ?_
      rintro e w' ⟨rfl, BB⟩
      have fin : Hid (Below w.heap.size w w') := BB
      clear BB C1 c0
      go_wp2_with fail
      go_ret
      exact ⟨by rw [r.out]; rfl, fin.out⟩
  · have hltI : ¬ (q : Int) < (L.length : Int) := by omega
    have r : Hid (kd = p) := by have := RES.out; rw [if_neg (fun e => hlt e.1)] at this; exact this
    clear CH RES h hlt
    generalize L.length = n at *
    go_enter Tryz.func50, Tryz.ntmps50
    go_wp2_with fail
    go_ret
    exact ⟨by rw [r.out]; rfl, Below.refl _ _⟩
/-- while an entry goes up or down. -/
structure UD (w : World) (B hp mb : Nat) (most : Bool) (v : Value) (ex : Option ByteArray) (n : Nat) (L : List Ent) (mv : Int) (wr : World) : Prop where
  hs : ∃ f, HS wr B hp mb most v ex f L mv
  fr : HF hp mb v.ownBlock w wr
  len : L.length = n
theorem UD.below {w : World} {B hp mb : Nat} {most : Bool} {v : Value} {ex : Option ByteArray} {n : Nat} {L : List Ent} {mv : Int} {wr w' : World} (h : UD w B hp mb most v ex n L mv wr) (hb : Below wr.heap.size wr w') : UD w B hp mb most v ex n L mv w' := by
  obtain ⟨f, hs⟩ := h.hs
  exact ⟨⟨f, hs.below hb⟩, h.fr.trans (HF.below hb), h.len⟩
theorem UD.swap {w : World} {B hp mb : Nat} {most : Bool} {v : Value} {ex : Option ByteArray} {n : Nat} {L : List Ent} {mv : Int} {wr : World} (h : UD w B hp mb most v ex n L mv wr) (i j : Nat) (hi : i < n) (hj : j < n) (hne : i ≠ j) (hL : n ≤ 1152921504606846976) :
    Calls Tryz.prog 52 #[.pointer (some ⟨hp, 0, none⟩), .int .i64 (i : Int), .int .i64 (j : Int)] wr fun e w' => e = .returned undef ∧ UD w B hp mb most v ex n (swp L i j) mv w' := by
  obtain ⟨f, hs⟩ := h.hs
  have hl := h.len
  refine (swap_any hs i j (by omega) (by omega) hne (by omega)).mono fun e w' hh => ?_
  exact ⟨hh.1, ⟨_, hh.2.1⟩, h.fr.trans hh.2.2, by rw [swp_len]; exact hl⟩
theorem UD.above {w : World} {B hp mb : Nat} {most : Bool} {v : Value} {ex : Option ByteArray} {n : Nat} {L : List Ent} {mv : Int} {wr : World} (h : UD w B hp mb most v ex n L mv wr) (i j : Nat) (hi : i < n) (hj : j < n) :
    Calls Tryz.prog 51 #[.pointer (some ⟨hp, 0, none⟩), .int .i64 (i : Int), .int .i64 (j : Int)] wr fun e w' => e = .returned (.bool (ahd most (atE L i) (atE L j))) ∧ UD w B hp mb most v ex n L mv w' := by
  obtain ⟨f, hs⟩ := h.hs
  have hl := h.len
  exact (above_any hs i j (by omega) (by omega)).mono fun e w' hh => ⟨hh.1, h.below hh.2⟩
theorem UD.kid {w : World} {B hp mb : Nat} {most : Bool} {v : Value} {ex : Option ByteArray} {n : Nat} {L : List Ent} {mv : Int} {wr : World} (h : UD w B hp mb most v ex n L mv wr) (i : Nat) (hi : i < n) (hL : n ≤ 1152921504606846976) :
    Calls Tryz.prog 50 #[.pointer (some ⟨hp, 0, none⟩), .int .i64 (i : Int)] wr fun e w' => e = .returned (.int .i64 ((kidL (ahd most) L i : Nat) : Int)) ∧ UD w B hp mb most v ex n L mv w' := by
  obtain ⟨f, hs⟩ := h.hs
  have hl := h.len
  exact (kid_any hs i (by omega) (by omega)).mono fun e w' hh => ⟨hh.1, h.below hh.2⟩
set_option maxRecDepth 100000 in
set_option maxHeartbeats 8000000 in
theorem up_any {w : World} {B hp mb n : Nat} {most : Bool} {v : Value} {ex : Option ByteArray} {L : List Ent} {mv : Int} (h : UD w B hp mb most v ex n L mv w) (i : Nat) (hi : i < n) (hL : n ≤ 1152921504606846976) :
    Calls Tryz.prog 59 #[.pointer (some ⟨hp, 0, none⟩), .int .i64 (i : Int)] w fun e w' => e = .returned (.int .i64 (((upL (ahd most) L i).2 : Nat) : Int)) ∧ UD w B hp mb most v ex n (upL (ahd most) L i).1 mv w' := by
  have U0 : Hid (UD w B hp mb most v ex n L mv w) := h
  clear h
  go_enter Tryz.func59, Tryz.ntmps59
  go_wp2_with fail
  go_loopw [1, 5] (fun v1 v5 wr => ∃ (k m : Nat) (L1 : List Ent), v1 = .int .i64 (k : Int) ∧ v5 = .int .i64 (m : Int) ∧ k < n ∧ m + k ≤ i ∧ Hid (upL (ahd most) L i = ((upL (ahd most) L1 k).1, (upL (ahd most) L1 k).2 + m)) ∧ Hid (UD w B hp mb most v ex n L1 mv wr)) (fun v1 _ _ => (intOf v1).toNat)
  case atStart => exact ⟨i, 0, L, rfl, rfl, hi, by omega, rfl, U0⟩
  case round =>
    clear U0
    obtain ⟨k, m, L1, rfl, rfl, hkn, hmk, hE, hU⟩ := hrel
    by_cases hk : 0 < k
    · have hkI : (k : Int) > 0 := by omega
      have hkJ : (0 : Int) < (k : Int) := by omega
      have pl : par k < n := by unfold par; omega
      have plk : par k < k := by unfold par; omega
      have CP : Hid (∀ W, Calls Tryz.prog 71 #[.int .i64 (k : Int)] W fun e w' => e = .returned (.int .i64 ((par k : Nat) : Int)) ∧ w' = W) := parent_any k hk (by omega)
      have mw : IntKind.i64.wrap ((m : Int) + 1) = ((m + 1 : Nat) : Int) := IntWalk.i64_in _ (by omega)
      have CA : Hid _ := hU.out.above k (par k) hkn pl
      have CS : Hid (∀ W, UD w B hp mb most v ex n L1 mv W → Calls Tryz.prog 52 #[.pointer (some ⟨hp, 0, none⟩), .int .i64 (k : Int), .int .i64 ((par k : Nat) : Int)] W fun e w' => e = .returned undef ∧ UD w B hp mb most v ex n (swp L1 k (par k)) mv w') := fun W hW => hW.swap k (par k) hkn pl (by omega) hL
      obtain ⟨bv, hbv⟩ : ∃ bv, ahd most (atE L1 k) (atE L1 (par k)) = bv := ⟨_, rfl⟩
      rw [hbv] at CA
      cases bv with
      | true =>
        have E2 : Hid (upL (ahd most) L i = ((upL (ahd most) (swp L1 k (par k)) (par k)).1, (upL (ahd most) (swp L1 k (par k)) (par k)).2 + (m + 1))) := by
          have := hE.out
          rw [upL_go hk hbv] at this
          show upL (ahd most) L i = _
          rw [this]
          simp only
          congr 1
          omega
        generalize par k = p at *
        clear hE hU hbv
        go_wp2_with fail
        refine Calls.mono (CP.out _) ?_
        rintro e w1 ⟨rfl, hw1⟩
        subst hw1
        go_wp2_with fail
        refine Calls.mono CA.out ?_
        rintro e w2 ⟨rfl, u2⟩
        have U2 : Hid (UD w B hp mb most v ex n L1 mv w2) := u2
        clear u2 CA
        go_wp2_with fail
        refine Calls.mono (CP.out _) ?_
        rintro e w3 ⟨rfl, hw3⟩
        subst hw3
        go_wp2_with fail
        refine Calls.mono (CS.out _ U2.out) ?_
        rintro e w4 ⟨rfl, u4⟩
        have U4 : Hid (UD w B hp mb most v ex n (swp L1 k p) mv w4) := u4
        clear u4 U2 CS
        go_wp2_with fail
        refine Calls.mono (CP.out _) ?_
        rintro e w5 ⟨rfl, hw5⟩
        subst hw5
        clear CP
        go_wp2_with fail
        exact ⟨⟨p, m + 1, swp L1 k p, rfl, by first | rfl | simp, by omega, by omega, E2, U4⟩, by simp [intOf]; omega⟩
      | false =>
        have fin : Hid (upL (ahd most) L i = (L1, m)) := by
          have := hE.out
          rw [upL_stop (ah := ahd most) (L := L1) (i := k) (by rw [hbv]; simp)] at this
          show upL (ahd most) L i = _
          rw [this]; simp
        generalize par k = p at *
        clear hE hU hbv CS
        go_wp2_with fail
        refine Calls.mono (CP.out _) ?_
        rintro e w1 ⟨rfl, hw1⟩
        subst hw1
        go_wp2_with fail
        refine Calls.mono CA.out ?_
        rintro e w2 ⟨rfl, u2⟩
        have U2 : Hid (UD w B hp mb most v ex n L1 mv w2) := u2
        clear u2 CA CP
        go_wp2_with fail
        go_ret
        exact ⟨by rw [fin.out]; rfl, by rw [fin.out]; exact U2.out⟩
    · have hkI : ¬ (k : Int) > 0 := by omega
      have hkJ : ¬ (0 : Int) < (k : Int) := by omega
      have fin : Hid (upL (ahd most) L i = (L1, m)) := by
        have := hE.out
        rw [upL_stop (ah := ahd most) (L := L1) (i := k) (fun e => hk e.1)] at this
        show upL (ahd most) L i = _
        rw [this]; simp
      clear hE
      go_wp2_with fail
      go_ret
      exact ⟨by rw [fin.out]; rfl, by rw [fin.out]; exact hU.out⟩
set_option maxRecDepth 100000 in
set_option maxHeartbeats 8000000 in
theorem down_any {w : World} {B hp mb n : Nat} {most : Bool} {v : Value} {ex : Option ByteArray} {L : List Ent} {mv : Int} (h : UD w B hp mb most v ex n L mv w) (i : Nat) (hi : i < n) (hL : n ≤ 1152921504606846976) :
    Calls Tryz.prog 22 #[.pointer (some ⟨hp, 0, none⟩), .int .i64 (i : Int)] w fun e w' => e = .returned (.int .i64 (((downL (ahd most) L i).2 : Nat) : Int)) ∧ UD w B hp mb most v ex n (downL (ahd most) L i).1 mv w' := by
  obtain ⟨a, cap, hv⟩ : ∃ a cap, v = .slice a n cap := by
    obtain ⟨f, hs⟩ := h.hs
    obtain ⟨a, cap, e, _⟩ := hs.form
    exact ⟨a, cap, by rw [e, h.len]⟩
  subst hv
  have CK : Hid (∀ (L1 : List Ent) (k : Nat) W, k < n → UD w B hp mb most (.slice a n cap) ex n L1 mv W → Calls Tryz.prog 50 #[.pointer (some ⟨hp, 0, none⟩), .int .i64 (k : Int)] W fun e w' => e = .returned (.int .i64 ((kidL (ahd most) L1 k : Nat) : Int)) ∧ UD w B hp mb most (.slice a n cap) ex n L1 mv w') := fun L1 k W hk hW => hW.kid k hk hL
  have C0 : Hid _ := CK.out L i w hi h
  clear h
  go_enter Tryz.func22, Tryz.ntmps22
  go_wp2_with fail
  refine Calls.mono C0.out ?_
  rintro e w1 ⟨rfl, u1⟩
  have U0 : Hid (UD w B hp mb most (.slice a n cap) ex n L mv w1) := u1
  clear u1 C0
  go_wp2_with fail
  go_loopw [1, 5, 6] (fun v1 v5 v6 wr => ∃ (k m d : Nat) (L1 : List Ent), v1 = .int .i64 (k : Int) ∧ v5 = .int .i64 (m : Int) ∧ v6 = .int .i64 (d : Int) ∧ k < n ∧ m ≤ k ∧ Hid (d = kidL (ahd most) L1 k) ∧ Hid (downL (ahd most) L i = ((downL (ahd most) L1 k).1, (downL (ahd most) L1 k).2 + m)) ∧ Hid (UD w B hp mb most (.slice a n cap) ex n L1 mv wr)) (fun v1 _ _ _ => n - (intOf v1).toNat)
  case atStart => exact ⟨i, 0, kidL (ahd most) L i, L, rfl, rfl, rfl, hi, Nat.zero_le _, rfl, rfl, U0⟩
  case round =>
    clear U0
    obtain ⟨k, m, d, L1, rfl, rfl, rfl, hkn, hmk, hd, hE, hU⟩ := hrel
    have c0 : wr.cell? ⟨hp, 0, none⟩ = some (.slice a n cap) := by obtain ⟨f, hs⟩ := hU.out.hs; exact hs.c0
    have hk2 : d = 2 * k + 1 ∨ d = 2 * k + 2 := by rw [hd.out]; exact kidL_two _ _ _
    by_cases hdn : d < n
    · have hdI : (d : Int) < (n : Int) := by omega
      have mw : IntKind.i64.wrap ((m : Int) + 1) = ((m + 1 : Nat) : Int) := IntWalk.i64_in _ (by omega)
      have CA : Hid _ := hU.out.above d k hdn hkn
      have CS : Hid (∀ W, UD w B hp mb most (.slice a n cap) ex n L1 mv W → Calls Tryz.prog 52 #[.pointer (some ⟨hp, 0, none⟩), .int .i64 (k : Int), .int .i64 (d : Int)] W fun e w' => e = .returned undef ∧ UD w B hp mb most (.slice a n cap) ex n (swp L1 k d) mv w') := fun W hW => hW.swap k d hkn hdn (by omega) hL
      obtain ⟨bv, hbv⟩ : ∃ bv, ahd most (atE L1 d) (atE L1 k) = bv := ⟨_, rfl⟩
      rw [hbv] at CA
      have hlen : L1.length = n := hU.out.len
      cases bv with
      | true =>
        have E2 : Hid (downL (ahd most) L i = ((downL (ahd most) (swp L1 k d) d).1, (downL (ahd most) (swp L1 k d) d).2 + (m + 1))) := by
          have := hE.out
          have hd' := hd.out
          rw [downL_go (ah := ahd most) (L := L1) (i := k) (by rw [← hd', hlen]; exact hdn) (by rw [← hd']; exact hbv), ← hd'] at this
          show downL (ahd most) L i = _
          rw [this]
          simp only
          congr 1
          omega
        have hkd : k < d := by omega
        have hmd : m + 1 ≤ d := by omega
        clear hE hU hbv hd hk2 hlen
        go_wp2_with fail
        refine Calls.mono CA.out ?_
        rintro e w2 ⟨rfl, u2⟩
        have U2 : Hid (UD w B hp mb most (.slice a n cap) ex n L1 mv w2) := u2
        clear u2 CA c0
        go_wp2_with fail
        refine Calls.mono (CS.out _ U2.out) ?_
        rintro e w4 ⟨rfl, u4⟩
        have C4 : Hid _ := CK.out (swp L1 k d) d w4 hdn u4
        clear u4 U2 CS
        go_wp2_with fail
        refine Calls.mono C4.out ?_
        rintro e w5 ⟨rfl, u5⟩
        have U5 : Hid (UD w B hp mb most (.slice a n cap) ex n (swp L1 k d) mv w5) := u5
        clear u5 C4
        go_wp2_with fail
        exact ⟨⟨d, m + 1, _, swp L1 k d, rfl, by first | rfl | simp, rfl, hdn, hmd, rfl, E2, U5⟩, by simp [intOf]; omega⟩
      | false =>
        have fin : Hid (downL (ahd most) L i = (L1, m)) := by
          have := hE.out
          have hd' := hd.out
          rw [downL_stop (ah := ahd most) (L := L1) (i := k) (by rw [← hd', hbv]; simp)] at this
          show downL (ahd most) L i = _
          rw [this]; simp
        clear hE hU hbv hd hk2 hlen CS CK
        go_wp2_with fail
        refine Calls.mono CA.out ?_
        rintro e w2 ⟨rfl, u2⟩
        have U2 : Hid (UD w B hp mb most (.slice a n cap) ex n L1 mv w2) := u2
        clear u2 CA c0
        go_wp2_with fail
        go_ret
        exact ⟨by rw [fin.out]; rfl, by rw [fin.out]; exact U2.out⟩
    · have hdI : ¬ (d : Int) < (n : Int) := by omega
      have hlen : L1.length = n := hU.out.len
      have fin : Hid (downL (ahd most) L i = (L1, m)) := by
        have := hE.out
        have hd' := hd.out
        rw [downL_stop (ah := ahd most) (L := L1) (i := k) (fun e => hdn (by rw [hd', ← hlen]; exact e.1))] at this
        show downL (ahd most) L i = _
        rw [this]; simp
      clear hE hd hk2 hlen CK
      go_wp2_with fail
      go_ret
      exact ⟨by rw [fin.out]; rfl, by rw [fin.out]; exact hU.out⟩
set_option maxRecDepth 100000 in
set_option maxHeartbeats 4000000 in
theorem mend_any {w : World} {B hp mb n : Nat} {most : Bool} {v : Value} {ex : Option ByteArray} {L : List Ent} {mv : Int} (h : UD w B hp mb most v ex n L mv w) (i : Nat) (hi : i < n) (hL : n ≤ 1152921504606846976) :
    Calls Tryz.prog 63 #[.pointer (some ⟨hp, 0, none⟩), .int .i64 (i : Int)] w fun e w' => e = .returned (.int .i64 (((mendL (ahd most) L i).2 : Nat) : Int)) ∧ UD w B hp mb most v ex n (mendL (ahd most) L i).1 mv w' := by
  have CU : Hid _ := up_any h i hi hL
  have CD : Hid ((upL (ahd most) L i).2 = 0 → ∀ W, UD w B hp mb most v ex n (upL (ahd most) L i).1 mv W → Calls Tryz.prog 22 #[.pointer (some ⟨hp, 0, none⟩), .int .i64 (i : Int)] W fun e w' => e = .returned (.int .i64 (((downL (ahd most) L i).2 : Nat) : Int)) ∧ UD w B hp mb most v ex n (downL (ahd most) L i).1 mv w') := fun h0 W hW => by
    have hs : (upL (ahd most) L i).1 = L := by
      by_cases q : 0 < i ∧ ahd most (atE L i) (atE L (par i)) = true
      · rw [upL_go q.1 q.2] at h0; simp at h0
      · rw [upL_stop q]
    rw [hs] at hW
    have hW' : UD W B hp mb most v ex n L mv W := ⟨hW.hs, HF.refl _ _ _ _, hW.len⟩
    exact (down_any hW' i hi hL).mono fun e w' hh => ⟨hh.1, hh.2.hs, hW.fr.trans hh.2.fr, hh.2.len⟩
  have RES : Hid (mendL (ahd most) L i = if 0 < (upL (ahd most) L i).2 then upL (ahd most) L i else downL (ahd most) L i) := rfl
  generalize mendL (ahd most) L i = R at RES ⊢
  generalize upL (ahd most) L i = U at *
  generalize downL (ahd most) L i = D at *
  clear h
  go_enter Tryz.func63, Tryz.ntmps63
  go_wp2_with fail
  refine Calls.mono CU.out ?_
  rintro e w1 ⟨rfl, u1⟩
  have U1 : Hid (UD w B hp mb most v ex n U.1 mv w1) := u1
  clear u1 CU
  by_cases h0 : 0 < U.2
  · have hI : (U.2 : Int) > 0 := by omega
    have hJ : (0 : Int) < (U.2 : Int) := by omega
    have r : Hid (R = U) := by have := RES.out; rw [if_pos h0] at this; exact this
    clear RES CD
    go_wp2_with fail
    go_ret
    exact ⟨by rw [r.out]; rfl, by rw [r.out]; exact U1.out⟩
  · have hI : ¬ (U.2 : Int) > 0 := by omega
    have hJ : ¬ (0 : Int) < (U.2 : Int) := by omega
    have r : Hid (R = D) := by have := RES.out; rw [if_neg h0] at this; exact this
    have C2 : Hid _ := CD.out (by omega) w1 U1.out
    clear RES CD U1
    go_wp2_with fail
    refine Calls.mono C2.out ?_
    rintro e w2 ⟨rfl, u2⟩
    have U2 : Hid (UD w B hp mb most v ex n D.1 mv w2) := u2
    clear u2 C2
    go_wp2_with fail
    go_ret
    exact ⟨by rw [r.out]; rfl, by rw [r.out]; exact U2.out⟩
end Go.Proofs.YtboacnpbicedfaaGreatDoor.Hp
