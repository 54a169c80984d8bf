
import Derived.Test.YtcglgfcmhhbeaaaHpB
import Derived.BigQuiet
import Derived.Deep.RegionHeld3
import Derived.Deep.CutRange
namespace Go.Proofs.Ytcglgfcmhhbeaaa.Hp
open Go.RowKit Go.Maps
set_option linter.unusedVariables false
set_option linter.unusedSimpArgs false
set_option maxRecDepth 100000
def eV (e : Ent) : Value := .agg #[.int .i64 e.1, .string e.2]
/-- what an order's function tells. -/
def FnA (fn : Nat) (ah : Ent → Ent → Bool) : Prop := ∀ (a b : Ent) (W : World), Calls Try.prog fn #[eV a, eV b] W fun e w' => e = .returned (.bool (ah a b)) ∧ Below W.heap.size W w'
set_option maxRecDepth 100000 in
set_option maxHeartbeats 4000000 in
theorem lower_any : FnA 58 (ahd false) := by
  intro a b W
  have RES : Hid (ahd false a b = if a.1 = b.1 then decide (strC a.2 b.2 < 0) else decide (a.1 < b.1)) := rfl
  generalize ahd false a b = bv at RES ⊢
  have hs := less_str a.2 b.2
  generalize hsv : decide (strC a.2 b.2 < 0) = sv at RES hs
  unfold eV
  have fin : Hid (Below W.heap.size W ((W.alloc (.cells #[.int .i64 a.1, .string a.2] 24)).alloc (.cells #[.int .i64 b.1, .string b.2] 24))) := ((Below.refl _ W).alloc (Nat.le_refl _) _).alloc (by simp) _
  clear hsv
  by_cases h : a.1 = b.1
  · have r : Hid (bv = sv) := by have := RES.out; rw [if_pos h] at this; exact this
    have hb : (a.1 == b.1) = true := by simpa using h
    clear RES
    rw [h] at fin ⊢
    clear h hb
    cases sv with
    | true =>
      go_enter Try.func58, Try.ntmps58
      go_wp2_with fail
      go_ret
      exact ⟨by rw [r.out]; rfl, fin.out⟩
    | false =>
      go_enter Try.func58, Try.ntmps58
      go_wp2_with fail
      go_ret
      exact ⟨by rw [r.out]; rfl, fin.out⟩
  · have r : Hid (bv = decide (a.1 < b.1)) := by have := RES.out; rw [if_neg h] at this; exact this
    have hb : (a.1 == b.1) = false := by simpa using h
    clear RES hs
    by_cases h2 : a.1 < b.1
    · have r2 : Hid (bv = true) := by have := r.out; rw [decide_eq_true h2] at this; exact this
      clear r h
      go_enter Try.func58, Try.ntmps58
      go_wp2_with fail
      go_ret
      exact ⟨by rw [r2.out]; rfl, fin.out⟩
    · have r2 : Hid (bv = false) := by have := r.out; rw [decide_eq_false h2] at this; exact this
      clear r h
      go_enter Try.func58, Try.ntmps58
      go_wp2_with fail
      go_ret
      exact ⟨by rw [r2.out]; rfl, fin.out⟩
set_option maxRecDepth 100000 in
theorem greater_any : FnA 59 (ahd true) := by
  intro a b W
  have CH : Hid (∀ W, Calls Try.prog 58 #[eV b, eV a] W fun e w' => e = .returned (.bool (ahd true a b)) ∧ Below W.heap.size W w') := fun W => lower_any b a W
  generalize ahd true a b = bv at CH ⊢
  unfold eV at CH ⊢
  have fin : Hid (Below W.heap.size W ((W.alloc (.cells #[.int .i64 a.1, .string a.2] 24)).alloc (.cells #[.int .i64 b.1, .string b.2] 24))) := ((Below.refl _ W).alloc (Nat.le_refl _) _).alloc (by simp) _
  go_enter Try.func59, Try.ntmps59
  go_wp2_with fail
  refine Calls.mono (CH.out _) ?_
  rintro e w' ⟨rfl, BB⟩
  have fin2 : Hid (Below W.heap.size W w') := by
    first
      | exact (Below.refl _ W).trans BB
      | exact fin.out.trans (BB.mono fin.out.size)
  clear BB CH
  go_wp2_with fail
  go_ret
  exact ⟨rfl, fin2.out⟩
set_option maxRecDepth 100000 in
theorem parent_any (i : Nat) (h0 : 0 < i) (h1 : i ≤ 4611686018427387904) (w : World) : Calls Try.prog 68 #[.int .i64 (i : Int)] w fun e w' => e = .returned (.int .i64 ((par i : Nat) : Int)) ∧ w' = w := by
  have e1 : IntKind.i64.wrap ((i : Int) - 1) = (i : Int) - 1 := IntWalk.i64_in _ (by omega)
  have e2 : IntKind.i64.wrap (((i : Int) - 1).tdiv 2) = ((par i : Nat) : Int) := by
    have : ((i : Int) - 1).tdiv 2 = ((par i : Nat) : Int) := by
      rw [show (i : Int) - 1 = ((i - 1 : Nat) : Int) by omega]; rfl
    rw [this]; exact IntWalk.i64_in _ (by unfold par; omega)
  have e3 : wrap64 (((i : Int) - 1).tdiv 2) = ((par i : Nat) : Int) := by
    have : ((i : Int) - 1).tdiv 2 = ((par i : Nat) : Int) := by
      rw [show (i : Int) - 1 = ((i - 1 : Nat) : Int) by omega]; rfl
    rw [this]; exact IntWalk.wrap64_in _ (by unfold par; omega)
  generalize ((par i : Nat) : Int) = p at e2 e3 ⊢
  go_enter Try.func68, Try.ntmps68
  go_wp2_with fail
  go_ret
  exact ⟨by first | rfl | simp [e2] | simp [e3], rfl⟩
set_option maxRecDepth 100000 in
set_option maxHeartbeats 8000000 in
theorem above_any {w : World} {B hp mb : Nat} {most : Bool} {v : Value} {ex : Option ByteArray} {f : ByteArray → Option Nat} {L : List Ent} {mv : Int} (h : HS w B hp mb most v ex f L mv) (i j : Nat) (hi : i < L.length) (hj : j < L.length) :
    Calls Try.prog 67 #[.pointer (some ⟨hp, 0, none⟩), .int .i64 (i : Int), .int .i64 (j : Int)] w fun e w' => e = .returned (.bool (ahd most (atE L i) (atE L j))) ∧ Below w.heap.size w w' := by
  obtain ⟨a, cap, rfl, hg⟩ := h.form
  obtain ⟨g, rfl⟩ := hg (by omega)
  obtain ⟨a1, a2⟩ := h.at hi
  obtain ⟨b1, b2⟩ := h.at hj
  obtain ⟨_, _, _, gl, _⟩ := h.len
  have c0 := h.c0
  have c2 := h.c2
  have hl := h.hl
  have CH : Hid (∀ W, Calls Try.prog (fnM most) #[.agg #[.int .i64 (atE L i).1, .string (atE L i).2], .agg #[.int .i64 (atE L j).1, .string (atE L j).2]] W fun e w' => e = .returned (.bool (ahd most (atE L i) (atE L j))) ∧ Below W.heap.size W w') := fun W => by
    cases most with
    | true => exact greater_any _ _ W
    | false => exact lower_any _ _ W
  generalize ahd most (atE L i) (atE L j) = bv at CH ⊢
  generalize atE L i = x at *
  generalize atE L j = y at *
  have i0 : (0 : Int) ≤ (i : Int) := by omega
  have j0 : (0 : Int) ≤ (j : Int) := by omega
  have iI : (i : Int) < (L.length : Int) := by omega
  have jI : (j : Int) < (L.length : Int) := by omega
  generalize L.length = n at *
  clear h hg
  cases most with
  | true =>
    unfold fnM at c2 CH
    simp only [if_true] at c2 CH
    go_enter Try.func67, Try.ntmps67
    go_wp2_with fail
    refine wp_region_noPanic ?_
    refine wp_region_held_drew (S := fun W => W.cell? ⟨hp, 2, none⟩ = some (.func (.func 59) #[] #[]) ∧ W.cell? ⟨hp, 0, none⟩ = some (.slice (some ⟨g, 0, none⟩) n cap) ∧ W.cell? ⟨g, i * 2, none⟩ = some (.int .i64 x.1) ∧ W.cell? ⟨g, i * 2 + 1, none⟩ = some (.string x.2) ∧ W.cell? ⟨g, j * 2, none⟩ = some (.int .i64 y.1) ∧ W.cell? ⟨g, j * 2 + 1, none⟩ = some (.string y.2)) (by kernel_rfl) ⟨c2, c0, a1, a2, b1, b2⟩ (fun hHeld => ?_)
    refine wpAnyH_take (i := 0) (oi := _) (v := ?_) rfl (by kernel_rfl) (by kernel_rfl) (by kernel_rfl) (fun _ _ _ h => h) (Or.inl ⟨by rfl, ?_⟩) (by assumption) ?_
    rotate_left 1
    · (intro w0 hSw; (try dsimp only at hSw); obtain ⟨s1, s2, s3, s4, s5, s6⟩ := hSw; go_simp; try with_reducible rfl)
    (try simp only [List.getElem_toArray, List.getElem_cons_succ, List.getElem_cons_zero]); (try simp only [Act.put, List.setIfInBounds_toArray, List.set_cons_zero, List.set_cons_succ])
    refine wpAnyH_take (i := 1) (oi := _) (v := ?_) rfl (by kernel_rfl) (by kernel_rfl) (by kernel_rfl) (fun _ _ _ h => h) (Or.inl ⟨by rfl, ?_⟩) (by assumption) ?_
    rotate_left 1
    · (intro w0 hSw; (try dsimp only at hSw); obtain ⟨s1, s2, s3, s4, s5, s6⟩ := hSw; go_simp; try with_reducible rfl)
    (try simp only [List.getElem_toArray, List.getElem_cons_succ, List.getElem_cons_zero]); (try simp only [Act.put, List.setIfInBounds_toArray, List.set_cons_zero, List.set_cons_succ])
    refine wpAnyH_take (i := 2) (oi := _) (v := ?_) rfl (by kernel_rfl) (by kernel_rfl) (by kernel_rfl) (fun _ _ _ h => h) (Or.inl ⟨by rfl, ?_⟩) (by assumption) ?_
    rotate_left 1
    · (intro w0 hSw; (try dsimp only at hSw); obtain ⟨s1, s2, s3, s4, s5, s6⟩ := hSw; go_simp; try with_reducible rfl)
    (try simp only [List.getElem_toArray, List.getElem_cons_succ, List.getElem_cons_zero]); (try simp only [Act.put, List.setIfInBounds_toArray, List.set_cons_zero, List.set_cons_succ])
    refine wpAnyH_take (i := 3) (oi := _) (v := ?_) rfl (by kernel_rfl) (by kernel_rfl) (by kernel_rfl) (fun _ _ _ h => h) (Or.inl ⟨by rfl, ?_⟩) (by assumption) ?_
    rotate_left 1
    · (intro w0 hSw; (try dsimp only at hSw); obtain ⟨s1, s2, s3, s4, s5, s6⟩ := hSw; go_simp; try with_reducible rfl)
    (try simp only [List.getElem_toArray, List.getElem_cons_succ, List.getElem_cons_zero]); (try simp only [Act.put, List.setIfInBounds_toArray, List.set_cons_zero, List.set_cons_succ])
    refine wpAnyH_take (i := 4) (oi := _) (v := ?_) rfl (by kernel_rfl) (by kernel_rfl) (by kernel_rfl) (fun _ _ _ h => h) (Or.inl ⟨by rfl, ?_⟩) (by assumption) ?_
    rotate_left 1
    · (intro w0 hSw; (try dsimp only at hSw); obtain ⟨s1, s2, s3, s4, s5, s6⟩ := hSw; go_simp; try with_reducible rfl)
    (try simp only [List.getElem_toArray, List.getElem_cons_succ, List.getElem_cons_zero]); (try simp only [Act.put, List.setIfInBounds_toArray, List.set_cons_zero, List.set_cons_succ])
    refine wpAnyH_take (i := 5) (oi := _) (v := ?_) rfl (by kernel_rfl) (by kernel_rfl) (by kernel_rfl) (fun _ _ _ h => h) (Or.inl ⟨by rfl, ?_⟩) (by assumption) ?_
    rotate_left 1
    · (intro w0 hSw; (try dsimp only at hSw); obtain ⟨s1, s2, s3, s4, s5, s6⟩ := hSw; go_simp; try with_reducible rfl)
    (try simp only [List.getElem_toArray, List.getElem_cons_succ, List.getElem_cons_zero]); (try simp only [Act.put, List.setIfInBounds_toArray, List.set_cons_zero, List.set_cons_succ])
    refine wpAnyH_take (i := 6) (oi := _) (v := ?_) rfl (by kernel_rfl) (by kernel_rfl) (by kernel_rfl) (fun _ _ _ h => h) (Or.inl ⟨by rfl, ?_⟩) (by assumption) ?_
    rotate_left 1
    · (intro w0 hSw; (try dsimp only at hSw); obtain ⟨s1, s2, s3, s4, s5, s6⟩ := hSw; go_simp; try with_reducible rfl)
    (try simp only [List.getElem_toArray, List.getElem_cons_succ, List.getElem_cons_zero]); (try simp only [Act.put, List.setIfInBounds_toArray, List.set_cons_zero, List.set_cons_succ])
    refine wpAnyH_take (i := 7) (oi := _) (v := ?_) rfl (by kernel_rfl) (by kernel_rfl) (by kernel_rfl) (fun _ _ _ h => h) (Or.inl ⟨by rfl, ?_⟩) (by assumption) ?_
    rotate_left 1
    · (intro w0 hSw; (try dsimp only at hSw); obtain ⟨s1, s2, s3, s4, s5, s6⟩ := hSw; go_simp; try with_reducible rfl)
    (try simp only [List.getElem_toArray, List.getElem_cons_succ, List.getElem_cons_zero]); (try simp only [Act.put, List.setIfInBounds_toArray, List.set_cons_zero, List.set_cons_succ])
    refine wpAnyH_take (i := 8) (oi := _) (v := ?_) rfl (by kernel_rfl) (by kernel_rfl) (by kernel_rfl) (fun _ _ _ h => h) (Or.inl ⟨by rfl, ?_⟩) (by assumption) ?_
    rotate_left 1
    · (intro w0 hSw; (try dsimp only at hSw); obtain ⟨s1, s2, s3, s4, s5, s6⟩ := hSw; go_simp; try with_reducible rfl)
    (try simp only [List.getElem_toArray, List.getElem_cons_succ, List.getElem_cons_zero]); (try simp only [Act.put, List.setIfInBounds_toArray, List.set_cons_zero, List.set_cons_succ])
    refine wpAnyH_take (i := 9) (oi := _) (v := ?_) rfl (by kernel_rfl) (by kernel_rfl) (by kernel_rfl) (fun _ _ _ h => h) (Or.inl ⟨by rfl, ?_⟩) (by assumption) ?_
    rotate_left 1
    · (intro w0 hSw; (try dsimp only at hSw); obtain ⟨s1, s2, s3, s4, s5, s6⟩ := hSw; go_simp; try with_reducible rfl)
    (try simp only [List.getElem_toArray, List.getElem_cons_succ, List.getElem_cons_zero]); (try simp only [Act.put, List.setIfInBounds_toArray, List.set_cons_zero, List.set_cons_succ])
    refine wpAnyH_take (i := 10) (oi := _) (v := ?_) rfl (by kernel_rfl) (by kernel_rfl) (by kernel_rfl) (fun _ _ _ h => h) (Or.inl ⟨by rfl, ?_⟩) (by assumption) ?_
    rotate_left 1
    · (intro w0 hSw; (try dsimp only at hSw); obtain ⟨s1, s2, s3, s4, s5, s6⟩ := hSw; go_simp; try with_reducible rfl)
    (try simp only [List.getElem_toArray, List.getElem_cons_succ, List.getElem_cons_zero]); (try simp only [Act.put, List.setIfInBounds_toArray, List.set_cons_zero, List.set_cons_succ])
    refine wpAnyH_take (i := 11) (oi := _) (v := ?_) rfl (by kernel_rfl) (by kernel_rfl) (by kernel_rfl) (fun _ _ _ h => h) (Or.inl ⟨by rfl, ?_⟩) (by assumption) ?_
    rotate_left 1
    · (intro w0 hSw; (try dsimp only at hSw); obtain ⟨s1, s2, s3, s4, s5, s6⟩ := hSw; go_simp; try with_reducible rfl)
    (try simp only [List.getElem_toArray, List.getElem_cons_succ, List.getElem_cons_zero]); (try simp only [Act.put, List.setIfInBounds_toArray, List.set_cons_zero, List.set_cons_succ])
    refine wpAnyH_take (i := 12) (oi := _) (v := ?_) rfl (by kernel_rfl) (by kernel_rfl) (by kernel_rfl) (fun _ _ _ h => h) (Or.inl ⟨by rfl, ?_⟩) (by assumption) ?_
    rotate_left 1
    · (intro w0 hSw; (try dsimp only at hSw); obtain ⟨s1, s2, s3, s4, s5, s6⟩ := hSw; go_simp; try with_reducible rfl)
    (try simp only [List.getElem_toArray, List.getElem_cons_succ, List.getElem_cons_zero]); (try simp only [Act.put, List.setIfInBounds_toArray, List.set_cons_zero, List.set_cons_succ])
    refine wpAnyH_take (i := 13) (oi := _) (v := ?_) rfl (by kernel_rfl) (by kernel_rfl) (by kernel_rfl) (fun _ _ _ h => h) (Or.inl ⟨by rfl, ?_⟩) (by assumption) ?_
    rotate_left 1
    · (intro w0 hSw; (try dsimp only at hSw); obtain ⟨s1, s2, s3, s4, s5, s6⟩ := hSw; go_simp; try with_reducible rfl)
    (try simp only [List.getElem_toArray, List.getElem_cons_succ, List.getElem_cons_zero]); (try simp only [Act.put, List.setIfInBounds_toArray, List.set_cons_zero, List.set_cons_succ])
    refine wpAnyH_take (i := 14) (oi := _) (v := ?_) rfl (by kernel_rfl) (by kernel_rfl) (by kernel_rfl) (fun _ _ _ h => h) (Or.inl ⟨by rfl, ?_⟩) (by assumption) ?_
    rotate_left 1
    · (intro w0 hSw; (try dsimp only at hSw); obtain ⟨s1, s2, s3, s4, s5, s6⟩ := hSw; go_simp; try with_reducible rfl)
    (try simp only [List.getElem_toArray, List.getElem_cons_succ, List.getElem_cons_zero]); (try simp only [Act.put, List.setIfInBounds_toArray, List.set_cons_zero, List.set_cons_succ])
    refine wpAnyH_take (i := 15) (oi := _) (v := ?_) rfl (by kernel_rfl) (by kernel_rfl) (by kernel_rfl) (fun _ _ _ h => h) (Or.inl ⟨by rfl, ?_⟩) (by assumption) ?_
    rotate_left 1
    · (intro w0 hSw; (try dsimp only at hSw); obtain ⟨s1, s2, s3, s4, s5, s6⟩ := hSw; go_simp; try with_reducible rfl)
    (try simp only [List.getElem_toArray, List.getElem_cons_succ, List.getElem_cons_zero]); (try simp only [Act.put, List.setIfInBounds_toArray, List.set_cons_zero, List.set_cons_succ])
    refine wpAnyH_take (i := 16) (oi := _) (v := ?_) rfl (by kernel_rfl) (by kernel_rfl) (by kernel_rfl) (fun _ _ _ h => h) (Or.inl ⟨by rfl, ?_⟩) (by assumption) ?_
    rotate_left 1
    · (intro w0 hSw; (try dsimp only at hSw); obtain ⟨s1, s2, s3, s4, s5, s6⟩ := hSw; go_simp; try with_reducible rfl)
    (try simp only [List.getElem_toArray, List.getElem_cons_succ, List.getElem_cons_zero]); (try simp only [Act.put, List.setIfInBounds_toArray, List.set_cons_zero, List.set_cons_succ])
    refine wpAnyH_take (i := 17) (oi := _) (v := ?_) rfl (by kernel_rfl) (by kernel_rfl) (by kernel_rfl) (fun _ _ _ h => h) (Or.inl ⟨by rfl, ?_⟩) (by assumption) ?_
    rotate_left 1
    · (intro w0 hSw; (try dsimp only at hSw); obtain ⟨s1, s2, s3, s4, s5, s6⟩ := hSw; go_simp; try with_reducible rfl)
    (try simp only [List.getElem_toArray, List.getElem_cons_succ, List.getElem_cons_zero]); (try simp only [Act.put, List.setIfInBounds_toArray, List.set_cons_zero, List.set_cons_succ])
    refine wpAnyH_ready (rs := [18]) (by kernel_rfl) (by simp) ?_
    refine AllReadyH.cons (o := _) rfl (fun K hK => ?_) AllReadyH.nil
    go_simp
    refine Calls.mono (CH.out _) ?_
    rintro e w' ⟨rfl, BB⟩
    try dsimp only
    refine hK _ _ ?_ (fun hHeld => ?_)
    · exact ⟨by rw [BB.cell (p := ⟨hp, 2, none⟩) hl]; exact c2, by rw [BB.cell (p := ⟨hp, 0, none⟩) hl]; exact c0, by rw [BB.cell (p := ⟨g, i * 2, none⟩) gl]; exact a1, by rw [BB.cell (p := ⟨g, i * 2 + 1, none⟩) gl]; exact a2, by rw [BB.cell (p := ⟨g, j * 2, none⟩) gl]; exact b1, by rw [BB.cell (p := ⟨g, j * 2 + 1, none⟩) gl]; exact b2⟩
    clear hK K
    (try simp only [List.getElem_toArray, List.getElem_cons_succ, List.getElem_cons_zero]); (try simp only [Act.put, List.setIfInBounds_toArray, List.set_cons_zero, List.set_cons_succ])
    refine wpAnyH_take (i := 19) (oi := _) (v := ?_) rfl (by kernel_rfl) (by kernel_rfl) (by kernel_rfl) (fun _ _ _ h => h) (Or.inl ⟨by rfl, ?_⟩) (by assumption) ?_
    rotate_left 1
    · (intro w0 hSw; (try dsimp only at hSw); obtain ⟨s1, s2, s3, s4, s5, s6⟩ := hSw; go_simp; try with_reducible rfl)
    (try simp only [List.getElem_toArray, List.getElem_cons_succ, List.getElem_cons_zero]); (try simp only [Act.put, List.setIfInBounds_toArray, List.set_cons_zero, List.set_cons_succ])
    refine wpAnyH_done (by kernel_rfl) ?_ _
    refine NoPanic.normal ?_
    have fin : Hid (Below w.heap.size w w') := (show Below w.heap.size w w.drew from (Below.refl _ w).drew).trans BB
    clear BB CH a1 a2 b1 b2 c0 c2 hHeld
    go_wp2_with fail
    go_ret
    exact ⟨rfl, fin.out⟩
  | false =>
    unfold fnM at c2 CH
    simp only [Bool.false_eq_true, if_false] at c2 CH
    go_enter Try.func67, Try.ntmps67
    go_wp2_with fail
    refine wp_region_noPanic ?_
    refine wp_region_held_drew (S := fun W => W.cell? ⟨hp, 2, none⟩ = some (.func (.func 58) #[] #[]) ∧ W.cell? ⟨hp, 0, none⟩ = some (.slice (some ⟨g, 0, none⟩) n cap) ∧ W.cell? ⟨g, i * 2, none⟩ = some (.int .i64 x.1) ∧ W.cell? ⟨g, i * 2 + 1, none⟩ = some (.string x.2) ∧ W.cell? ⟨g, j * 2, none⟩ = some (.int .i64 y.1) ∧ W.cell? ⟨g, j * 2 + 1, none⟩ = some (.string y.2)) (by kernel_rfl) ⟨c2, c0, a1, a2, b1, b2⟩ (fun hHeld => ?_)
    refine wpAnyH_take (i := 0) (oi := _) (v := ?_) rfl (by kernel_rfl) (by kernel_rfl) (by kernel_rfl) (fun _ _ _ h => h) (Or.inl ⟨by rfl, ?_⟩) (by assumption) ?_
    rotate_left 1
    · (intro w0 hSw; (try dsimp only at hSw); obtain ⟨s1, s2, s3, s4, s5, s6⟩ := hSw; go_simp; try with_reducible rfl)
    (try simp only [List.getElem_toArray, List.getElem_cons_succ, List.getElem_cons_zero]); (try simp only [Act.put, List.setIfInBounds_toArray, List.set_cons_zero, List.set_cons_succ])
    refine wpAnyH_take (i := 1) (oi := _) (v := ?_) rfl (by kernel_rfl) (by kernel_rfl) (by kernel_rfl) (fun _ _ _ h => h) (Or.inl ⟨by rfl, ?_⟩) (by assumption) ?_
    rotate_left 1
    · (intro w0 hSw; (try dsimp only at hSw); obtain ⟨s1, s2, s3, s4, s5, s6⟩ := hSw; go_simp; try with_reducible rfl)
    (try simp only [List.getElem_toArray, List.getElem_cons_succ, List.getElem_cons_zero]); (try simp only [Act.put, List.setIfInBounds_toArray, List.set_cons_zero, List.set_cons_succ])
    refine wpAnyH_take (i := 2) (oi := _) (v := ?_) rfl (by kernel_rfl) (by kernel_rfl) (by kernel_rfl) (fun _ _ _ h => h) (Or.inl ⟨by rfl, ?_⟩) (by assumption) ?_
    rotate_left 1
    · (intro w0 hSw; (try dsimp only at hSw); obtain ⟨s1, s2, s3, s4, s5, s6⟩ := hSw; go_simp; try with_reducible rfl)
    (try simp only [List.getElem_toArray, List.getElem_cons_succ, List.getElem_cons_zero]); (try simp only [Act.put, List.setIfInBounds_toArray, List.set_cons_zero, List.set_cons_succ])
    refine wpAnyH_take (i := 3) (oi := _) (v := ?_) rfl (by kernel_rfl) (by kernel_rfl) (by kernel_rfl) (fun _ _ _ h => h) (Or.inl ⟨by rfl, ?_⟩) (by assumption) ?_
    rotate_left 1
    · (intro w0 hSw; (try dsimp only at hSw); obtain ⟨s1, s2, s3, s4, s5, s6⟩ := hSw; go_simp; try with_reducible rfl)
    (try simp only [List.getElem_toArray, List.getElem_cons_succ, List.getElem_cons_zero]); (try simp only [Act.put, List.setIfInBounds_toArray, List.set_cons_zero, List.set_cons_succ])
    refine wpAnyH_take (i := 4) (oi := _) (v := ?_) rfl (by kernel_rfl) (by kernel_rfl) (by kernel_rfl) (fun _ _ _ h => h) (Or.inl ⟨by rfl, ?_⟩) (by assumption) ?_
    rotate_left 1
    · (intro w0 hSw; (try dsimp only at hSw); obtain ⟨s1, s2, s3, s4, s5, s6⟩ := hSw; go_simp; try with_reducible rfl)
    (try simp only [List.getElem_toArray, List.getElem_cons_succ, List.getElem_cons_zero]); (try simp only [Act.put, List.setIfInBounds_toArray, List.set_cons_zero, List.set_cons_succ])
    refine wpAnyH_take (i := 5) (oi := _) (v := ?_) rfl (by kernel_rfl) (by kernel_rfl) (by kernel_rfl) (fun _ _ _ h => h) (Or.inl ⟨by rfl, ?_⟩) (by assumption) ?_
    rotate_left 1
    · (intro w0 hSw; (try dsimp only at hSw); obtain ⟨s1, s2, s3, s4, s5, s6⟩ := hSw; go_simp; try with_reducible rfl)
    (try simp only [List.getElem_toArray, List.getElem_cons_succ, List.getElem_cons_zero]); (try simp only [Act.put, List.setIfInBounds_toArray, List.set_cons_zero, List.set_cons_succ])
    refine wpAnyH_take (i := 6) (oi := _) (v := ?_) rfl (by kernel_rfl) (by kernel_rfl) (by kernel_rfl) (fun _ _ _ h => h) (Or.inl ⟨by rfl, ?_⟩) (by assumption) ?_
    rotate_left 1
    · (intro w0 hSw; (try dsimp only at hSw); obtain ⟨s1, s2, s3, s4, s5, s6⟩ := hSw; go_simp; try with_reducible rfl)
    (try simp only [List.getElem_toArray, List.getElem_cons_succ, List.getElem_cons_zero]); (try simp only [Act.put, List.setIfInBounds_toArray, List.set_cons_zero, List.set_cons_succ])
    refine wpAnyH_take (i := 7) (oi := _) (v := ?_) rfl (by kernel_rfl) (by kernel_rfl) (by kernel_rfl) (fun _ _ _ h => h) (Or.inl ⟨by rfl, ?_⟩) (by assumption) ?_
    rotate_left 1
    · (intro w0 hSw; (try dsimp only at hSw); obtain ⟨s1, s2, s3, s4, s5, s6⟩ := hSw; go_simp; try with_reducible rfl)
    (try simp only [List.getElem_toArray, List.getElem_cons_succ, List.getElem_cons_zero]); (try simp only [Act.put, List.setIfInBounds_toArray, List.set_cons_zero, List.set_cons_succ])
    refine wpAnyH_take (i := 8) (oi := _) (v := ?_) rfl (by kernel_rfl) (by kernel_rfl) (by kernel_rfl) (fun _ _ _ h => h) (Or.inl ⟨by rfl, ?_⟩) (by assumption) ?_
    rotate_left 1
    · (intro w0 hSw; (try dsimp only at hSw); obtain ⟨s1, s2, s3, s4, s5, s6⟩ := hSw; go_simp; try with_reducible rfl)
    (try simp only [List.getElem_toArray, List.getElem_cons_succ, List.getElem_cons_zero]); (try simp only [Act.put, List.setIfInBounds_toArray, List.set_cons_zero, List.set_cons_succ])
    refine wpAnyH_take (i := 9) (oi := _) (v := ?_) rfl (by kernel_rfl) (by kernel_rfl) (by kernel_rfl) (fun _ _ _ h => h) (Or.inl ⟨by rfl, ?_⟩) (by assumption) ?_
    rotate_left 1
    · (intro w0 hSw; (try dsimp only at hSw); obtain ⟨s1, s2, s3, s4, s5, s6⟩ := hSw; go_simp; try with_reducible rfl)
    (try simp only [List.getElem_toArray, List.getElem_cons_succ, List.getElem_cons_zero]); (try simp only [Act.put, List.setIfInBounds_toArray, List.set_cons_zero, List.set_cons_succ])
    refine wpAnyH_take (i := 10) (oi := _) (v := ?_) rfl (by kernel_rfl) (by kernel_rfl) (by kernel_rfl) (fun _ _ _ h => h) (Or.inl ⟨by rfl, ?_⟩) (by assumption) ?_
    rotate_left 1
    · (intro w0 hSw; (try dsimp only at hSw); obtain ⟨s1, s2, s3, s4, s5, s6⟩ := hSw; go_simp; try with_reducible rfl)
    (try simp only [List.getElem_toArray, List.getElem_cons_succ, List.getElem_cons_zero]); (try simp only [Act.put, List.setIfInBounds_toArray, List.set_cons_zero, List.set_cons_succ])
    refine wpAnyH_take (i := 11) (oi := _) (v := ?_) rfl (by kernel_rfl) (by kernel_rfl) (by kernel_rfl) (fun _ _ _ h => h) (Or.inl ⟨by rfl, ?_⟩) (by assumption) ?_
    rotate_left 1
    · (intro w0 hSw; (try dsimp only at hSw); obtain ⟨s1, s2, s3, s4, s5, s6⟩ := hSw; go_simp; try with_reducible rfl)
    (try simp only [List.getElem_toArray, List.getElem_cons_succ, List.getElem_cons_zero]); (try simp only [Act.put, List.setIfInBounds_toArray, List.set_cons_zero, List.set_cons_succ])
    refine wpAnyH_take (i := 12) (oi := _) (v := ?_) rfl (by kernel_rfl) (by kernel_rfl) (by kernel_rfl) (fun _ _ _ h => h) (Or.inl ⟨by rfl, ?_⟩) (by assumption) ?_
    rotate_left 1
    · (intro w0 hSw; (try dsimp only at hSw); obtain ⟨s1, s2, s3, s4, s5, s6⟩ := hSw; go_simp; try with_reducible rfl)
    (try simp only [List.getElem_toArray, List.getElem_cons_succ, List.getElem_cons_zero]); (try simp only [Act.put, List.setIfInBounds_toArray, List.set_cons_zero, List.set_cons_succ])
    refine wpAnyH_take (i := 13) (oi := _) (v := ?_) rfl (by kernel_rfl) (by kernel_rfl) (by kernel_rfl) (fun _ _ _ h => h) (Or.inl ⟨by rfl, ?_⟩) (by assumption) ?_
    rotate_left 1
    · (intro w0 hSw; (try dsimp only at hSw); obtain ⟨s1, s2, s3, s4, s5, s6⟩ := hSw; go_simp; try with_reducible rfl)
    (try simp only [List.getElem_toArray, List.getElem_cons_succ, List.getElem_cons_zero]); (try simp only [Act.put, List.setIfInBounds_toArray, List.set_cons_zero, List.set_cons_succ])
    refine wpAnyH_take (i := 14) (oi := _) (v := ?_) rfl (by kernel_rfl) (by kernel_rfl) (by kernel_rfl) (fun _ _ _ h => h) (Or.inl ⟨by rfl, ?_⟩) (by assumption) ?_
    rotate_left 1
    · (intro w0 hSw; (try dsimp only at hSw); obtain ⟨s1, s2, s3, s4, s5, s6⟩ := hSw; go_simp; try with_reducible rfl)
    (try simp only [List.getElem_toArray, List.getElem_cons_succ, List.getElem_cons_zero]); (try simp only [Act.put, List.setIfInBounds_toArray, List.set_cons_zero, List.set_cons_succ])
    refine wpAnyH_take (i := 15) (oi := _) (v := ?_) rfl (by kernel_rfl) (by kernel_rfl) (by kernel_rfl) (fun _ _ _ h => h) (Or.inl ⟨by rfl, ?_⟩) (by assumption) ?_
    rotate_left 1
    · (intro w0 hSw; (try dsimp only at hSw); obtain ⟨s1, s2, s3, s4, s5, s6⟩ := hSw; go_simp; try with_reducible rfl)
    (try simp only [List.getElem_toArray, List.getElem_cons_succ, List.getElem_cons_zero]); (try simp only [Act.put, List.setIfInBounds_toArray, List.set_cons_zero, List.set_cons_succ])
    refine wpAnyH_take (i := 16) (oi := _) (v := ?_) rfl (by kernel_rfl) (by kernel_rfl) (by kernel_rfl) (fun _ _ _ h => h) (Or.inl ⟨by rfl, ?_⟩) (by assumption) ?_
    rotate_left 1
    · (intro w0 hSw; (try dsimp only at hSw); obtain ⟨s1, s2, s3, s4, s5, s6⟩ := hSw; go_simp; try with_reducible rfl)
    (try simp only [List.getElem_toArray, List.getElem_cons_succ, List.getElem_cons_zero]); (try simp only [Act.put, List.setIfInBounds_toArray, List.set_cons_zero, List.set_cons_succ])
    refine wpAnyH_take (i := 17) (oi := _) (v := ?_) rfl (by kernel_rfl) (by kernel_rfl) (by kernel_rfl) (fun _ _ _ h => h) (Or.inl ⟨by rfl, ?_⟩) (by assumption) ?_
    rotate_left 1
    · (intro w0 hSw; (try dsimp only at hSw); obtain ⟨s1, s2, s3, s4, s5, s6⟩ := hSw; go_simp; try with_reducible rfl)
    (try simp only [List.getElem_toArray, List.getElem_cons_succ, List.getElem_cons_zero]); (try simp only [Act.put, List.setIfInBounds_toArray, List.set_cons_zero, List.set_cons_succ])
    refine wpAnyH_ready (rs := [18]) (by kernel_rfl) (by simp) ?_
    refine AllReadyH.cons (o := _) rfl (fun K hK => ?_) AllReadyH.nil
    go_simp
    refine Calls.mono (CH.out _) ?_
    rintro e w' ⟨rfl, BB⟩
    try dsimp only
    refine hK _ _ ?_ (fun hHeld => ?_)
    · exact ⟨by rw [BB.cell (p := ⟨hp, 2, none⟩) hl]; exact c2, by rw [BB.cell (p := ⟨hp, 0, none⟩) hl]; exact c0, by rw [BB.cell (p := ⟨g, i * 2, none⟩) gl]; exact a1, by rw [BB.cell (p := ⟨g, i * 2 + 1, none⟩) gl]; exact a2, by rw [BB.cell (p := ⟨g, j * 2, none⟩) gl]; exact b1, by rw [BB.cell (p := ⟨g, j * 2 + 1, none⟩) gl]; exact b2⟩
    clear hK K
    (try simp only [List.getElem_toArray, List.getElem_cons_succ, List.getElem_cons_zero]); (try simp only [Act.put, List.setIfInBounds_toArray, List.set_cons_zero, List.set_cons_succ])
    refine wpAnyH_take (i := 19) (oi := _) (v := ?_) rfl (by kernel_rfl) (by kernel_rfl) (by kernel_rfl) (fun _ _ _ h => h) (Or.inl ⟨by rfl, ?_⟩) (by assumption) ?_
    rotate_left 1
    · (intro w0 hSw; (try dsimp only at hSw); obtain ⟨s1, s2, s3, s4, s5, s6⟩ := hSw; go_simp; try with_reducible rfl)
    (try simp only [List.getElem_toArray, List.getElem_cons_succ, List.getElem_cons_zero]); (try simp only [Act.put, List.setIfInBounds_toArray, List.set_cons_zero, List.set_cons_succ])
    refine wpAnyH_done (by kernel_rfl) ?_ _
    refine NoPanic.normal ?_
    have fin : Hid (Below w.heap.size w w') := (show Below w.heap.size w w.drew from (Below.refl _ w).drew).trans BB
    clear BB CH a1 a2 b1 b2 c0 c2 hHeld
    go_wp2_with fail
    go_ret
    exact ⟨rfl, fin.out⟩
/-- what lies in memory behind lay: the row, the map. -/
structure LY (w : World) (hp mb : Nat) (v : Value) (B : Nat) (L : List Ent) (f : ByteArray → Option Nat) (cm : Nat) (w' : World) : Prop where
  row : w'.ownsRow B 24 2 v L.length (encE L)
  mp : ∃ c, MP w' mb f c ∧ c ≤ cm
  fr : HF hp mb v.ownBlock w w'
  cs : ∀ o, w'.cell? ⟨hp, o, none⟩ = w.cell? ⟨hp, o, none⟩ ∧ w'.frozen? ⟨hp, o, none⟩ = w.frozen? ⟨hp, o, none⟩
set_option maxRecDepth 100000 in
set_option maxHeartbeats 8000000 in
theorem lay_any {w : World} {B hp mb c g n cap cm : Nat} {f : ByteArray → Option Nat} {L : List Ent} (hw : HW (some g) hp mb) (hl : hp < w.heap.size) (c0 : w.cell? ⟨hp, 0, none⟩ = some (.slice (some ⟨g, 0, none⟩) n cap)) (c1 : w.cell? ⟨hp, 1, none⟩ = some (.map (some mb))) (row : w.ownsRow B 24 2 (.slice (some ⟨g, 0, none⟩) n cap) L.length (encE L)) (mp : MP w mb f c) (i : Nat) (hi : i < L.length) (hL : L.length ≤ 1152921504606846976) (x : Ent) (hx : x.2.size ≤ 9223372036854775807) (hc : (if (f x.2).isSome then c else c + 1) ≤ cm) (hc2 : c ≤ 1152921504606846977) :
    Calls Try.prog 62 #[.pointer (some ⟨hp, 0, none⟩), .int .i64 (i : Int), eV x] w fun e w' => e = .returned undef ∧ LY w hp mb (.slice (some ⟨g, 0, none⟩) n cap) B (L.set i x) (upd f x.2 (some i)) cm w' := by
  have hn : n = L.length := by
    rcases row.2 with ⟨e, _⟩ | ⟨_, _, _, e, _⟩
    · cases e
    · injection e with _ e _
  subst hn
  have gB := (World.ownsRow.lt row g rfl).1
  have gl := (World.ownsRow.lt row g rfl).2
  have hB := (hw.sp g rfl).1
  have mB := (hw.sp g rfl).2
  have hne := hw.ne
  obtain ⟨K, hK⟩ : ∃ K, K = w.heap.size := ⟨_, rfl⟩
  obtain ⟨W1, hW1⟩ : ∃ W1, W1 = w.alloc (.cells #[.int .i64 x.1, .string x.2] 24) := ⟨_, rfl⟩
  have b1 : Below w.heap.size w W1 := by rw [hW1]; exact (Below.refl _ w).alloc (Nat.le_refl _) _
  have s1 : W1.heap.size = K + 1 := by rw [hW1, hK]; simp
  have x1 : W1.cell? ⟨K, 0, none⟩ = some (.int .i64 x.1) := by rw [hW1, hK]; simp [go_sem]
  have x2 : W1.cell? ⟨K, 1, none⟩ = some (.string x.2) := by rw [hW1, hK]; simp [go_sem]
  have row1 : W1.ownsRow B 24 2 (.slice (some ⟨g, 0, none⟩) L.length cap) L.length (encE L) := by rw [hW1]; exact row.alloc _
  have d0 : W1.cell? ⟨hp, 0, none⟩ = some (.slice (some ⟨g, 0, none⟩) L.length cap) := by rw [b1.cell (p := ⟨hp, 0, none⟩) hl]; exact c0
  have d1 : W1.cell? ⟨hp, 1, none⟩ = some (.map (some mb)) := by rw [b1.cell (p := ⟨hp, 1, none⟩) hl]; exact c1
  -- the two stores into the row
  have t1 := World.ownsRow.stored row1 (i * 2) (.int .i64 x.1)
  have t2 := World.ownsRow.stored t1.1 (i * 2 + 1) (.string x.2)
  rw [encE_put L i x hi] at t2
  obtain ⟨W2, hW2⟩ : ∃ W2, W2 = ((W1.setCell ⟨g, i * 2, none⟩ (.int .i64 x.1)).setCell ⟨g, i * 2 + 1, none⟩ (.string x.2)).drew := ⟨_, rfl⟩
  have t2 : W2.ownsRow B 24 2 (.slice (some ⟨g, 0, none⟩) L.length cap) L.length (encE (L.set i x)) ∧ (W1.setCell ⟨g, i * 2, none⟩ (.int .i64 x.1)).grownBy W2 (some g) := by rw [hW2]; exact ⟨t2.1.drew, t2.2.os, t2.2.tape, t2.2.output, t2.2.size, t2.2.block⟩
  have g2 : W1.grownBy W2 (some g) := ⟨t2.2.os.trans t1.2.os, t2.2.tape.trans t1.2.tape, t2.2.output.trans t1.2.output, Nat.le_trans t1.2.size t2.2.size, fun k hk q => by rw [t2.2.block k (Nat.lt_of_lt_of_le hk t1.2.size) q]; exact t1.2.block k hk q⟩
  have kk : ∀ b, b < W1.heap.size → b ≠ g → W2.heap[b]? = W1.heap[b]? := fun b hb q => g2.block b hb (fun e => q (by injection e))
  have e0 : W2.cell? ⟨hp, 0, none⟩ = some (.slice (some ⟨g, 0, none⟩) L.length cap) := by rw [World.cell?_of_block (w := W1) (a := ⟨hp, 0, none⟩) (kk hp (by omega) (by omega))]; exact d0
  have e1 : W2.cell? ⟨hp, 1, none⟩ = some (.map (some mb)) := by rw [World.cell?_of_block (w := W1) (a := ⟨hp, 1, none⟩) (kk hp (by omega) (by omega))]; exact d1
  have y1 : W2.cell? ⟨K, 0, none⟩ = some (.int .i64 x.1) := by rw [World.cell?_of_block (w := W1) (a := ⟨K, 0, none⟩) (kk K (by omega) (by omega))]; exact x1
  have y2 : W2.cell? ⟨K, 1, none⟩ = some (.string x.2) := by rw [World.cell?_of_block (w := W1) (a := ⟨K, 1, none⟩) (kk K (by omega) (by omega))]; exact x2
  have mlt := mp.lt
  have mp2 : MP W2.drew mb f c := mp.keep (by show W2.heap[mb]? = _; rw [kk mb (by omega) (by omega)]; exact b1.block mb mlt)
  obtain ⟨W3, r3, mp3, g3, z3⟩ := mp2.put x.2 hx i (by omega) (by omega)
  have hWW : Hid (∀ W4, W4 = W3 → LY w hp mb (.slice (some ⟨g, 0, none⟩) L.length cap) B (L.set i x) (upd f x.2 (some i)) cm W4) := fun W4 e => by
    subst e
    have k3 : ∀ b, b < W2.heap.size → b ≠ mb → W4.heap[b]? = W2.heap[b]? := fun b hb q => g3.block b hb (fun e => q (by injection e))
    have sz2 : W1.heap.size ≤ W2.heap.size := g2.size
    refine ⟨?_, ⟨_, mp3, hc⟩, ((HF.below b1).trans (HF.grown g2 (Or.inr (Or.inr rfl)))).trans (HF.grown (show W2.grownBy W4 (some mb) from ⟨g3.os, g3.tape, g3.output, g3.size, g3.block⟩) (Or.inr (Or.inl rfl))), fun o => ⟨?_, ?_⟩⟩
    · rw [List.length_set]
      exact World.ownsRow.kept t2.1.drew g3 (Or.inr fun q => by have q2 : some g = some mb := q; injection q2 with q2; omega)
    · rw [World.cell?_of_block (w := W2) (a := ⟨hp, o, none⟩) (k3 hp (by omega) hne), World.cell?_of_block (w := W1) (a := ⟨hp, o, none⟩) (kk hp (by omega) (by omega)), b1.cell (p := ⟨hp, o, none⟩) hl]
    · rw [z3, show W2.drew.frozen? ⟨hp, o, none⟩ = W1.frozen? ⟨hp, o, none⟩ by rw [hW2]; show ((W1.setCell _ _).setCell _ _).frozen? _ = _; rw [World.frozen?_setCell, World.frozen?_setCell], b1.frozen (p := ⟨hp, o, none⟩) hl]
  have w1 : W1.cell? ⟨g, i * 2, none⟩ = some (.int .i64 (atE L i).1) ∧ W1.cell? ⟨g, i * 2 + 1, none⟩ = some (.string (atE L i).2) := by
    have hcs := World.ownsRow.cells row1 (g := g) rfl
    obtain ⟨q1, q2⟩ := encE_get L i _ (atE_some hi)
    have k1 := hcs _ _ q1
    have k2 := hcs _ _ q2
    rw [add_lt0, Nat.zero_add] at k1 k2
    exact ⟨k1, k2⟩
  obtain ⟨w1, w2⟩ := w1
  have v1 := World.ownsRow.frozenAt row1 (i * 2)
  have v2 := World.ownsRow.frozenAt row1 (i * 2 + 1)
  have i0 : (0 : Int) ≤ (i : Int) := by omega
  have iI : (i : Int) < (L.length : Int) := by omega
  have sS : Hid (W2.cell? ⟨hp, 0, none⟩ = some (.slice (some ⟨g, 0, none⟩) L.length cap) ∧ W2.cell? ⟨K, 0, none⟩ = some (.int .i64 x.1) ∧ W2.cell? ⟨K, 1, none⟩ = some (.string x.2)) := ⟨e0, y1, y2⟩
  have r3H : Hid (∀ W4, W4 = W2.drew → (Instr.mapUpdate 77 (.map (some mb)) (.string x.2) (.int .i64 (i : Int))).run Try.prog W4 = .ok () W3) := fun W4 e => by subst e; exact r3
  have sT : Hid (W3.cell? ⟨hp, 1, none⟩ = some (.map (some mb)) ∧ W3.cell? ⟨K, 1, none⟩ = some (.string x.2)) := by
    have k3 : ∀ b, b < W2.heap.size → b ≠ mb → W3.heap[b]? = W2.heap[b]? := fun b hb q => g3.block b hb (fun e => q (by injection e))
    have sz2 : W1.heap.size ≤ W2.heap.size := g2.size
    exact ⟨by rw [World.cell?_of_block (w := W2) (a := ⟨hp, 1, none⟩) (k3 hp (by omega) hne)]; exact e1, by rw [World.cell?_of_block (w := W2) (a := ⟨K, 1, none⟩) (k3 K (by omega) (by omega))]; exact y2⟩
  have hWWH : Hid (LY w hp mb (.slice (some ⟨g, 0, none⟩) L.length cap) B (L.set i x) (upd f x.2 (some i)) cm W3) := hWW.out _ rfl
  unfold eV
  clear hWW row row1 mp mp2 mp3 g2 g3 z3 t1 t2 kk b1 hw c0 c1 s1 hB mB hne gB gl hl hL hc hc2 hx mlt hi r3
  generalize L.length = n at *
  go_enter Try.func62, Try.ntmps62
  go_wp2_with fail
  rw [← hW1, ← hK]
  clear hW1 hK
  refine wp_region_noPanic ?_
  refine wp_region_held_drew (S := fun W => W.cell? ⟨hp, 0, none⟩ = some (.slice (some ⟨g, 0, none⟩) n cap) ∧ W.cell? ⟨K, 0, none⟩ = some (.int .i64 x.1) ∧ W.cell? ⟨K, 1, none⟩ = some (.string x.2)) (by kernel_rfl) ⟨d0, x1, x2⟩ (fun hHeld => ?_)
  refine wpAnyH_take (i := 0) (oi := _) (v := ?_) rfl (by kernel_rfl) (by kernel_rfl) (by kernel_rfl) (fun _ _ _ h => h) (Or.inl ⟨by rfl, ?_⟩) (by assumption) ?_
  rotate_left 1
  · (intro w0 hSw; (try dsimp only at hSw); obtain ⟨s1, s2, s3⟩ := hSw; go_simp; try with_reducible rfl)
  (try simp only [List.getElem_toArray, List.getElem_cons_succ, List.getElem_cons_zero]); (try simp only [Act.put, List.setIfInBounds_toArray, List.set_cons_zero, List.set_cons_succ])
  refine wpAnyH_take (i := 1) (oi := _) (v := ?_) rfl (by kernel_rfl) (by kernel_rfl) (by kernel_rfl) (fun _ _ _ h => h) (Or.inl ⟨by rfl, ?_⟩) (by assumption) ?_
  rotate_left 1
  · (intro w0 hSw; (try dsimp only at hSw); obtain ⟨s1, s2, s3⟩ := hSw; go_simp; try with_reducible rfl)
  (try simp only [List.getElem_toArray, List.getElem_cons_succ, List.getElem_cons_zero]); (try simp only [Act.put, List.setIfInBounds_toArray, List.set_cons_zero, List.set_cons_succ])
  refine wpAnyH_take (i := 2) (oi := _) (v := ?_) rfl (by kernel_rfl) (by kernel_rfl) (by kernel_rfl) (fun _ _ _ h => h) (Or.inl ⟨by rfl, ?_⟩) (by assumption) ?_
  rotate_left 1
  · (intro w0 hSw; (try dsimp only at hSw); obtain ⟨s1, s2, s3⟩ := hSw; go_simp; try with_reducible rfl)
  (try simp only [List.getElem_toArray, List.getElem_cons_succ, List.getElem_cons_zero]); (try simp only [Act.put, List.setIfInBounds_toArray, List.set_cons_zero, List.set_cons_succ])
  refine wpAnyH_take (i := 3) (oi := _) (v := ?_) rfl (by kernel_rfl) (by kernel_rfl) (by kernel_rfl) (fun _ _ _ h => h) (Or.inl ⟨by rfl, ?_⟩) (by assumption) ?_
  rotate_left 1
  · (intro w0 hSw; (try dsimp only at hSw); obtain ⟨s1, s2, s3⟩ := hSw; go_simp; try with_reducible rfl)
  (try simp only [List.getElem_toArray, List.getElem_cons_succ, List.getElem_cons_zero]); (try simp only [Act.put, List.setIfInBounds_toArray, List.set_cons_zero, List.set_cons_succ])
  refine wpAnyH_take (i := 4) (oi := _) (v := ?_) rfl (by kernel_rfl) (by kernel_rfl) (by kernel_rfl) (fun _ _ _ h => h) (Or.inl ⟨by rfl, ?_⟩) (by assumption) ?_
  rotate_left 1
  · (intro w0 hSw; (try dsimp only at hSw); obtain ⟨s1, s2, s3⟩ := hSw; go_simp; try with_reducible rfl)
  (try simp only [List.getElem_toArray, List.getElem_cons_succ, List.getElem_cons_zero]); (try simp only [Act.put, List.setIfInBounds_toArray, List.set_cons_zero, List.set_cons_succ])
  refine wpAnyH_take (i := 5) (oi := _) (v := ?_) rfl (by kernel_rfl) (by kernel_rfl) (by kernel_rfl) (fun _ _ _ h => h) (Or.inl ⟨by rfl, ?_⟩) (by assumption) ?_
  rotate_left 1
  · (intro w0 hSw; (try dsimp only at hSw); obtain ⟨s1, s2, s3⟩ := hSw; go_simp; try with_reducible rfl)
  (try simp only [List.getElem_toArray, List.getElem_cons_succ, List.getElem_cons_zero]); (try simp only [Act.put, List.setIfInBounds_toArray, List.set_cons_zero, List.set_cons_succ])
  refine wpAnyH_take (i := 6) (oi := _) (v := ?_) rfl (by kernel_rfl) (by kernel_rfl) (by kernel_rfl) (fun _ _ _ h => h) (Or.inl ⟨by rfl, ?_⟩) (by assumption) ?_
  rotate_left 1
  · (intro w0 hSw; (try dsimp only at hSw); obtain ⟨s1, s2, s3⟩ := hSw; go_simp; try with_reducible rfl)
  (try simp only [List.getElem_toArray, List.getElem_cons_succ, List.getElem_cons_zero]); (try simp only [Act.put, List.setIfInBounds_toArray, List.set_cons_zero, List.set_cons_succ])
  refine wpAnyH_ready (rs := [7]) (by kernel_rfl) (by simp) ?_
  refine AllReadyH.cons (o := _) rfl (fun K1 hK => ?_) AllReadyH.nil
  go_simp
  try dsimp only
  refine hK _ _ (by rw [← hW2]; exact sS.out) (fun hHeld => ?_)
  clear hK K1
  (try simp only [List.getElem_toArray, List.getElem_cons_succ, List.getElem_cons_zero]); (try simp only [Act.put, List.setIfInBounds_toArray, List.set_cons_zero, List.set_cons_succ])
  refine wpAnyH_done (by kernel_rfl) ?_ _
  refine NoPanic.normal ?_
  go_wp2_with fail
  rw [← hW2]
  clear hW2 d0 d1 x1 x2 w1 w2 v1 v2
  have r3 := r3H.out _ rfl
  refine wp_region_noPanic ?_
  refine wp_region_held_drew (S := fun W => W.cell? ⟨hp, 1, none⟩ = some (.map (some mb)) ∧ W.cell? ⟨K, 1, none⟩ = some (.string x.2)) (by kernel_rfl) ⟨e1, y2⟩ (fun hHeld => ?_)
  refine wpAnyH_take (i := 0) (oi := _) (v := ?_) rfl (by kernel_rfl) (by kernel_rfl) (by kernel_rfl) (fun _ _ _ h => h) (Or.inl ⟨by rfl, ?_⟩) (by assumption) ?_
  rotate_left 1
  · (intro w0 hSw; (try dsimp only at hSw); obtain ⟨s1, s2⟩ := hSw; go_simp; try with_reducible rfl)
  (try simp only [List.getElem_toArray, List.getElem_cons_succ, List.getElem_cons_zero]); (try simp only [Act.put, List.setIfInBounds_toArray, List.set_cons_zero, List.set_cons_succ])
  refine wpAnyH_take (i := 1) (oi := _) (v := ?_) rfl (by kernel_rfl) (by kernel_rfl) (by kernel_rfl) (fun _ _ _ h => h) (Or.inl ⟨by rfl, ?_⟩) (by assumption) ?_
  rotate_left 1
  · (intro w0 hSw; (try dsimp only at hSw); obtain ⟨s1, s2⟩ := hSw; go_simp; try with_reducible rfl)
  (try simp only [List.getElem_toArray, List.getElem_cons_succ, List.getElem_cons_zero]); (try simp only [Act.put, List.setIfInBounds_toArray, List.set_cons_zero, List.set_cons_succ])
  refine wpAnyH_take (i := 2) (oi := _) (v := ?_) rfl (by kernel_rfl) (by kernel_rfl) (by kernel_rfl) (fun _ _ _ h => h) (Or.inl ⟨by rfl, ?_⟩) (by assumption) ?_
  rotate_left 1
  · (intro w0 hSw; (try dsimp only at hSw); obtain ⟨s1, s2⟩ := hSw; go_simp; try with_reducible rfl)
  (try simp only [List.getElem_toArray, List.getElem_cons_succ, List.getElem_cons_zero]); (try simp only [Act.put, List.setIfInBounds_toArray, List.set_cons_zero, List.set_cons_succ])
  refine wpAnyH_take (i := 3) (oi := _) (v := ?_) rfl (by kernel_rfl) (by kernel_rfl) (by kernel_rfl) (fun _ _ _ h => h) (Or.inl ⟨by rfl, ?_⟩) (by assumption) ?_
  rotate_left 1
  · (intro w0 hSw; (try dsimp only at hSw); obtain ⟨s1, s2⟩ := hSw; go_simp; try with_reducible rfl)
  (try simp only [List.getElem_toArray, List.getElem_cons_succ, List.getElem_cons_zero]); (try simp only [Act.put, List.setIfInBounds_toArray, List.set_cons_zero, List.set_cons_succ])
  refine wpAnyH_take (i := 4) (oi := _) (v := ?_) rfl (by kernel_rfl) (by kernel_rfl) (by kernel_rfl) (fun _ _ _ h => h) (Or.inl ⟨by rfl, ?_⟩) (by assumption) ?_
  rotate_left 1
  · (intro w0 hSw; (try dsimp only at hSw); obtain ⟨s1, s2⟩ := hSw; go_simp; try with_reducible rfl)
  (try simp only [List.getElem_toArray, List.getElem_cons_succ, List.getElem_cons_zero]); (try simp only [Act.put, List.setIfInBounds_toArray, List.set_cons_zero, List.set_cons_succ])
  refine wpAnyH_take (i := 5) (oi := _) (v := ?_) rfl (by kernel_rfl) (by kernel_rfl) (by kernel_rfl) (fun _ _ _ h => h) (Or.inl ⟨by rfl, ?_⟩) (by assumption) ?_
  rotate_left 1
  · (intro w0 hSw; (try dsimp only at hSw); obtain ⟨s1, s2⟩ := hSw; go_simp; try with_reducible rfl)
  (try simp only [List.getElem_toArray, List.getElem_cons_succ, List.getElem_cons_zero]); (try simp only [Act.put, List.setIfInBounds_toArray, List.set_cons_zero, List.set_cons_succ])
  refine wpAnyH_take (i := 6) (oi := _) (v := ?_) rfl (by kernel_rfl) (by kernel_rfl) (by kernel_rfl) (fun _ _ _ h => h) (Or.inl ⟨by rfl, ?_⟩) (by assumption) ?_
  rotate_left 1
  · (intro w0 hSw; (try dsimp only at hSw); obtain ⟨s1, s2⟩ := hSw; go_simp; try with_reducible rfl)
  (try simp only [List.getElem_toArray, List.getElem_cons_succ, List.getElem_cons_zero]); (try simp only [Act.put, List.setIfInBounds_toArray, List.set_cons_zero, List.set_cons_succ])
  refine wpAnyH_ready (rs := [7]) (by kernel_rfl) (by simp) ?_
  refine AllReadyH.cons (o := _) rfl (fun K1 hK => ?_) AllReadyH.nil
  go_simp
  try dsimp only
  refine hK _ _ sT.out (fun hHeld => ?_)
  clear hK K1
  (try simp only [List.getElem_toArray, List.getElem_cons_succ, List.getElem_cons_zero]); (try simp only [Act.put, List.setIfInBounds_toArray, List.set_cons_zero, List.set_cons_succ])
  refine wpAnyH_done (by kernel_rfl) ?_ _
  refine NoPanic.normal ?_
  go_wp2_with fail
  first | go_end0 | (simp only [Exit.inBlock, Exit.then]; refine bodyPost_ret (results_none rfl _ _ _) rfl ?_) | refine bodyPost_ret (results_none rfl _ _ _) rfl ?_ | (refine bodyPost_end (results_none rfl _ _ _) rfl ?_)
  exact ⟨rfl, hWWH.out⟩
end Go.Proofs.Ytcglgfcmhhbeaaa.Hp
