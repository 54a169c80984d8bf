
import Derived.Test.YtcglgfcmhhbeaaaHpC
import Derived.Test.YtcglgfcmhhbeaaaHpP
import Derived.Shelf.SlSortCmp.QuietGrown
namespace Go.Proofs.Ytcglgfcmhhbeaaa.Hp
open Go.RowKit Go.Maps
set_option linter.unusedVariables false
set_option linter.unusedSimpArgs false
set_option maxRecDepth 100000
/-- behind draws and new blocks only. -/
def GR (W w' : World) : Prop := ∃ q os, w' = Sort.grow (W.drewN q) os
theorem GR.refl (W : World) : GR W W := ⟨0, #[], by rw [Sort.grow_empty]; rfl⟩
theorem GR.trans {W w1 w2 : World} (h : GR W w1) (k : GR w1 w2) : GR W w2 := by
  obtain ⟨q, os, rfl⟩ := h
  obtain ⟨p, os', rfl⟩ := k
  exact ⟨q + p, os ++ os', by show Sort.grow (Sort.grow ((W.drewN q).drewN p) os) os' = _; rw [Sort.grow_grow, World.drewN_drewN]⟩
theorem GR.alloc {W w1 : World} (h : GR W w1) (o : Obj) : GR W (w1.alloc o) := h.trans ⟨0, #[o], by rw [Sort.alloc_eq_grow]; rfl⟩
theorem GR.below {W w' : World} (h : GR W w') : Below W.heap.size W w' := by
  obtain ⟨q, os, rfl⟩ := h
  refine ⟨rfl, rfl, rfl, by simp [Sort.grow, World.drewN], fun k hk => ?_⟩
  show (W.heap ++ os)[k]? = W.heap[k]?
  rw [Array.getElem?_append_left hk]
def FnG (fn : Nat) (ah : Ent → Ent → Bool) : Prop := ∀ (a b : Ent) (W : World), Calls Try.prog fn #[eV a, eV b] W fun e w' => e = .returned (.bool (ah a b)) ∧ GR W w'
set_option maxRecDepth 100000 in
set_option maxHeartbeats 4000000 in
theorem lower_gr : FnG 58 (ahd false) := by
  intro a b W
  have RES : Hid (ahd false a b = if a.1 = b.1 then decide (strC a.2 b.2 < 0) else decide (a.1 < b.1)) := rfl
  generalize ahd false a b = bv at RES ⊢
  have hs := less_str a.2 b.2
  generalize hsv : decide (strC a.2 b.2 < 0) = sv at RES hs
  unfold eV
  have fin : Hid (GR W ((W.alloc (.cells #[.int .i64 a.1, .string a.2] 24)).alloc (.cells #[.int .i64 b.1, .string b.2] 24))) := ((GR.refl W).alloc _).alloc _
  clear hsv
  by_cases h : a.1 = b.1
  · have r : Hid (bv = sv) := by have := RES.out; rw [if_pos h] at this; exact this
    have hb : (a.1 == b.1) = true := by simpa using h
    clear RES
    rw [h] at fin ⊢
    clear h hb
    cases sv with
    | true =>
      go_enter Try.func58, Try.ntmps58
      go_wp2_with fail
      go_ret
      exact ⟨by rw [r.out]; rfl, fin.out⟩
    | false =>
      go_enter Try.func58, Try.ntmps58
      go_wp2_with fail
      go_ret
      exact ⟨by rw [r.out]; rfl, fin.out⟩
  · have r : Hid (bv = decide (a.1 < b.1)) := by have := RES.out; rw [if_neg h] at this; exact this
    have hb : (a.1 == b.1) = false := by simpa using h
    clear RES hs
    by_cases h2 : a.1 < b.1
    · have r2 : Hid (bv = true) := by have := r.out; rw [decide_eq_true h2] at this; exact this
      clear r h
      go_enter Try.func58, Try.ntmps58
      go_wp2_with fail
      go_ret
      exact ⟨by rw [r2.out]; rfl, fin.out⟩
    · have r2 : Hid (bv = false) := by have := r.out; rw [decide_eq_false h2] at this; exact this
      clear r h
      go_enter Try.func58, Try.ntmps58
      go_wp2_with fail
      go_ret
      exact ⟨by rw [r2.out]; rfl, fin.out⟩
set_option maxRecDepth 100000 in
theorem greater_gr : FnG 59 (ahd true) := by
  intro a b W
  have CH : Hid (∀ W, Calls Try.prog 58 #[eV b, eV a] W fun e w' => e = .returned (.bool (ahd true a b)) ∧ GR W w') := fun W => lower_gr b a W
  generalize ahd true a b = bv at CH ⊢
  unfold eV at CH ⊢
  have fin : Hid (GR W ((W.alloc (.cells #[.int .i64 a.1, .string a.2] 24)).alloc (.cells #[.int .i64 b.1, .string b.2] 24))) := ((GR.refl W).alloc _).alloc _
  go_enter Try.func59, Try.ntmps59
  go_wp2_with fail
  refine Calls.mono (CH.out _) ?_
  rintro e w' ⟨rfl, BB⟩
  have fin2 : Hid (GR W w') := by
    first
      | exact BB
      | exact fin.out.trans BB
  clear BB CH
  go_wp2_with fail
  go_ret
  exact ⟨rfl, fin2.out⟩
/-- what the closure of Sorted tells. -/
def cfE (most : Bool) (x y : Ent) : Int := if ahd most x y then -1 else if ahd most y x then 1 else 0
set_option maxRecDepth 100000 in
set_option maxHeartbeats 8000000 in
theorem sorted1_any (most : Bool) (x y : Ent) (hb hp : Nat) (W : World) (h1 : W.cell? ⟨hb, 0, none⟩ = some (.pointer (some ⟨hp, 0, none⟩))) (h2 : W.cell? ⟨hp, 2, none⟩ = some (.func (.func (fnM most)) #[] #[])) (l1 : hb < W.heap.size) (l2 : hp < W.heap.size) :
    Calls Try.prog 21 #[eV x, eV y, .pointer (some ⟨hb, 0, none⟩)] W fun e w' => e = .returned (.int .i64 (cfE most x y)) ∧ GR W w' := by
  have CA : Hid (∀ W, Calls Try.prog (fnM most) #[eV x, eV y] W fun e w' => e = .returned (.bool (ahd most x y)) ∧ ∃ q os', w' = Sort.grow (W.drewN q) os') := fun W => by
    cases most with
    | true => exact greater_gr _ _ W
    | false => exact lower_gr _ _ W
  have CB : Hid (∀ W, Calls Try.prog (fnM most) #[eV y, eV x] W fun e w' => e = .returned (.bool (ahd most y x)) ∧ ∃ q os', w' = Sort.grow (W.drewN q) os') := fun W => by
    cases most with
    | true => exact greater_gr _ _ W
    | false => exact lower_gr _ _ W
  have RES : Hid (cfE most x y = if ahd most x y then -1 else if ahd most y x then 1 else 0) := rfl
  generalize cfE most x y = r at RES ⊢
  generalize ahd most x y = b1 at CA RES
  generalize ahd most y x = b2 at CB RES
  unfold eV at CA CB ⊢
  obtain ⟨W2, hW2⟩ : ∃ W2, W2 = (W.alloc (.cells #[.int .i64 x.1, .string x.2] 24)).alloc (.cells #[.int .i64 y.1, .string y.2] 24) := ⟨_, rfl⟩
  have s2 : W2.heap.size = W.heap.size + 2 := by rw [hW2]; simp
  have g2 : Hid (GR W W2) := by rw [hW2]; exact ((GR.refl W).alloc _).alloc _
  have c0 : W2.cell? ⟨hb, 0, none⟩ = some (.pointer (some ⟨hp, 0, none⟩)) := by rw [g2.out.below.cell (p := ⟨hb, 0, none⟩) l1]; exact h1
  have c2 : W2.cell? ⟨hp, 2, none⟩ = some (.func (.func (fnM most)) #[] #[]) := by rw [g2.out.below.cell (p := ⟨hp, 2, none⟩) l2]; exact h2
  have x0 : W2.cell? ⟨W.heap.size, 0, none⟩ = some (.int .i64 x.1) := by rw [hW2]; simp [go_sem]
  have x1 : W2.cell? ⟨W.heap.size, 1, none⟩ = some (.string x.2) := by rw [hW2]; simp [go_sem]
  have y0 : W2.cell? ⟨W.heap.size + 1, 0, none⟩ = some (.int .i64 y.1) := by rw [hW2]; simp [go_sem]
  have y1 : W2.cell? ⟨W.heap.size + 1, 1, none⟩ = some (.string y.2) := by rw [hW2]; simp [go_sem]
  have facts : ∀ V, GR W2 V → (∀ n os, (Sort.grow (V.drewN n) os).cell? ⟨hb, 0, none⟩ = some (.pointer (some ⟨hp, 0, none⟩))) ∧ (∀ n os, (Sort.grow (V.drewN n) os).cell? ⟨hp, 2, none⟩ = some (.func (.func (fnM most)) #[] #[])) ∧ (∀ n os, (Sort.grow (V.drewN n) os).cell? ⟨W.heap.size, 0, none⟩ = some (.int .i64 x.1)) ∧ (∀ n os, (Sort.grow (V.drewN n) os).cell? ⟨W.heap.size, 1, none⟩ = some (.string x.2)) ∧ (∀ n os, (Sort.grow (V.drewN n) os).cell? ⟨W.heap.size + 1, 0, none⟩ = some (.int .i64 y.1)) ∧ (∀ n os, (Sort.grow (V.drewN n) os).cell? ⟨W.heap.size + 1, 1, none⟩ = some (.string y.2)) := fun V hV => by
    have hB : ∀ n os, Below W2.heap.size W2 (Sort.grow (V.drewN n) os) := fun n os => (hV.trans ⟨n, os, rfl⟩).below
    refine ⟨fun n os => ?_, fun n os => ?_, fun n os => ?_, fun n os => ?_, fun n os => ?_, fun n os => ?_⟩
    · rw [(hB n os).cell (p := ⟨hb, 0, none⟩) (by show hb < _; omega)]; exact c0
    · rw [(hB n os).cell (p := ⟨hp, 2, none⟩) (by show hp < _; omega)]; exact c2
    · rw [(hB n os).cell (p := ⟨W.heap.size, 0, none⟩) (by show W.heap.size < _; omega)]; exact x0
    · rw [(hB n os).cell (p := ⟨W.heap.size, 1, none⟩) (by show W.heap.size < _; omega)]; exact x1
    · rw [(hB n os).cell (p := ⟨W.heap.size + 1, 0, none⟩) (by show W.heap.size + 1 < _; omega)]; exact y0
    · rw [(hB n os).cell (p := ⟨W.heap.size + 1, 1, none⟩) (by show W.heap.size + 1 < _; omega)]; exact y1
  have factsH : Hid _ := facts
  have hW2H : Hid ((W.alloc (.cells #[.int .i64 x.1, .string x.2] 24)).alloc (.cells #[.int .i64 y.1, .string y.2] 24) = W2) := hW2.symm
  clear facts hW2 c0 c2 x0 x1 y0 y1 s2 h1 h2
  cases most with
  | true =>
    unfold fnM at CA CB factsH
    simp only [if_true] at CA CB factsH
    go_enter Try.func21, Try.ntmps21
    go_wp2_with fail
    rw [hW2H.out]
    have mixed : Try.prog.follows .mixedOrders = true := by kernel_rfl
    have eg : ∀ args w, (callFunc 59 args).run Try.prog w = .ok (.enter 59 args) w := enters_of Try.func59 (by kernel_rfl) rfl
    obtain ⟨k1, k2, k3, k4, k5, k6⟩ := factsH.out W2 (GR.refl W2)
    go_quiet_grown (first | (go_at_fn 59; refine Calls.grown_of (CA.out _)))
    clear k1 k2 k3 k4 k5 k6
    have g3 : Hid (GR W2 (Sort.grow (W2.drewN nq) osq)) := ⟨nq, osq, rfl⟩
    generalize Sort.grow (W2.drewN nq) osq = W3 at *
    cases b1 with
    | true =>
      go_wp2_with fail
      go_ret
      exact ⟨by rw [RES.out]; rfl, g2.out.trans g3.out⟩
    | false =>
      go_wp2_with fail
      obtain ⟨k1, k2, k3, k4, k5, k6⟩ := factsH.out W3 g3.out
      go_quiet_grown (first | (go_at_fn 59; refine Calls.grown_of (CB.out _)))
      clear k1 k2 k3 k4 k5 k6
      have g4 : Hid (GR W2 (Sort.grow (W3.drewN nq) osq)) := g3.out.trans ⟨nq, osq, rfl⟩
      generalize Sort.grow (W3.drewN nq) osq = W4 at *
      cases b2 with
      | true =>
        go_wp2_with fail
        go_ret
        exact ⟨by rw [RES.out]; rfl, g2.out.trans g4.out⟩
      | false =>
        go_wp2_with fail
        go_ret
        exact ⟨by rw [RES.out]; rfl, g2.out.trans g4.out⟩
  | false =>
    unfold fnM at CA CB factsH
    simp only [if_false, Bool.false_eq_true] at CA CB factsH
    go_enter Try.func21, Try.ntmps21
    go_wp2_with fail
    rw [hW2H.out]
    have mixed : Try.prog.follows .mixedOrders = true := by kernel_rfl
    have eg : ∀ args w, (callFunc 58 args).run Try.prog w = .ok (.enter 58 args) w := enters_of Try.func58 (by kernel_rfl) rfl
    obtain ⟨k1, k2, k3, k4, k5, k6⟩ := factsH.out W2 (GR.refl W2)
    go_quiet_grown (first | (go_at_fn 58; refine Calls.grown_of (CA.out _)))
    clear k1 k2 k3 k4 k5 k6
    have g3 : Hid (GR W2 (Sort.grow (W2.drewN nq) osq)) := ⟨nq, osq, rfl⟩
    generalize Sort.grow (W2.drewN nq) osq = W3 at *
    cases b1 with
    | true =>
      go_wp2_with fail
      go_ret
      exact ⟨by rw [RES.out]; rfl, g2.out.trans g3.out⟩
    | false =>
      go_wp2_with fail
      obtain ⟨k1, k2, k3, k4, k5, k6⟩ := factsH.out W3 g3.out
      go_quiet_grown (first | (go_at_fn 58; refine Calls.grown_of (CB.out _)))
      clear k1 k2 k3 k4 k5 k6
      have g4 : Hid (GR W2 (Sort.grow (W3.drewN nq) osq)) := g3.out.trans ⟨nq, osq, rfl⟩
      generalize Sort.grow (W3.drewN nq) osq = W4 at *
      cases b2 with
      | true =>
        go_wp2_with fail
        go_ret
        exact ⟨by rw [RES.out]; rfl, g2.out.trans g4.out⟩
      | false =>
        go_wp2_with fail
        go_ret
        exact ⟨by rw [RES.out]; rfl, g2.out.trans g4.out⟩
end Go.Proofs.Ytcglgfcmhhbeaaa.Hp
