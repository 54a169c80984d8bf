
import Derived.Test.YtfpfeecoideedaaGreatDoorKyF
namespace Go.Proofs.YtfpfeecoideedaaGreatDoor
open Go.RowKit Go.Shelf
set_option linter.unusedVariables false
set_option linter.unusedSimpArgs false
/-- what is wrong with a series: the number of the error; 0: nothing. -/
def rightN (s : SerP) : Int := if cleanB s.m 64 then (if tagsB s.t then (if columnB s.f then 0 else 50) else 52) else 50
def erN (n : Int) : Value := if n = 0 then .nilIface else .iface 29 (.int .i64 n)
set_option maxRecDepth 100000 in
set_option maxHeartbeats 2000000 in
theorem right_any (a : Option Addr) (c : Nat) (s : SerP) (w : World) (ha : SerIn w a s) (hT : UT w) :
    Calls Tryz.prog 23 #[.agg #[.string s.m, .slice a s.t.length c, .string s.f]] w fun e w' => e = .returned (erN (rightN s)) ∧ Below w.heap.size w w' := by
  obtain ⟨sm, st, sf⟩ := s
  obtain ⟨ha, hl⟩ := ha
  simp only at ha hl ⊢
  have B1 : ∀ o, Below w.heap.size w (w.alloc o) := fun o => (Below.refl _ w).alloc (Nat.le_refl _) o
  have cN : Hid (Calls Tryz.prog 29 #[.string sm] (w.alloc (.cells #[.string sm, .slice a st.length c, .string sf] 24)) fun e w' => e = .returned (erV (cleanB sm 64) 50) ∧ w'.cell? ⟨w.heap.size, 1, none⟩ = some (.slice a st.length c) ∧ w'.cell? ⟨w.heap.size, 2, none⟩ = some (.string sf) ∧ w.heap.size < w'.heap.size ∧ Below w.heap.size w w') := by
    refine Calls.mono (name_any sm _ (hT.below (B1 _) (Nat.le_refl _))) ?_
    rintro e w' ⟨rfl, hb⟩
    refine ⟨rfl, ?_, ?_, ?_, (B1 _).trans (hb.mono (B1 _).size)⟩
    · rw [hb.cell (p := ⟨w.heap.size, 1, none⟩) (by simp)]; simp [go_sem]
    · rw [hb.cell (p := ⟨w.heap.size, 2, none⟩) (by simp)]; simp [go_sem]
    · have := hb.size; simp at this; omega
  have cT : Hid (∀ W, Below w.heap.size w W → W.cell? ⟨w.heap.size, 2, none⟩ = some (.string sf) → w.heap.size < W.heap.size → Calls Tryz.prog 75 #[.slice a st.length c] W fun e w' => e = .returned (erV (tagsB st) 52) ∧ w'.cell? ⟨w.heap.size, 2, none⟩ = some (.string sf) ∧ Below w.heap.size w w') := by
    intro W hW hc hs
    refine Calls.mono (tags_any a st c W hl (ha.below hW) (hT.below hW (Nat.le_refl _))) ?_
    rintro e w' ⟨rfl, hb⟩
    exact ⟨rfl, by rw [hb.cell (p := ⟨w.heap.size, 2, none⟩) hs]; exact hc, hW.trans (hb.mono hW.size)⟩
  have cC : Hid (∀ W, Below w.heap.size w W → Calls Tryz.prog 77 #[.string sf] W fun e w' => e = .returned (.bool (columnB sf)) ∧ Below W.heap.size W w') := fun W hW => column_any sf W (hT.below hW (Nat.le_refl _))
  have cU : Hid (∀ ok W, Calls Tryz.prog 76 #[.bool ok, .int .i64 50] W fun ev w' => ev = .returned (erV ok 50) ∧ Below W.heap.size W w') := fun ok W => unless_any ok 50 (by decide) W
  unfold rightN
  simp only
  generalize cleanB sm 64 = p at cN ⊢
  generalize tagsB st = q at cT ⊢
  generalize columnB sf = r at cC ⊢
  generalize st.length = n at cN cT hl ⊢
  clear ha hT
  have e1 : erV true 50 = .nilIface := rfl
  have e2 : erV false 50 = .iface 29 (.int .i64 50) := rfl
  have e3 : erV true 52 = .nilIface := rfl
  have e4 : erV false 52 = .iface 29 (.int .i64 52) := rfl
  cases p with
  | false =>
    rw [e2] at cN
    clear e1 e2 e3 e4
    go_enter Tryz.func23, Tryz.ntmps23
    go_wp2_with (go_at_call 29; with_reducible refine Calls.mono cN.out ?_; rintro e w' ⟨rfl, k1, k2, hs, hb⟩)
    go_ret
    exact ⟨rfl, hb⟩
  | true =>
    rw [e1] at cN
    cases q with
    | false =>
      rw [e4] at cT
      clear e1 e2 e3 e4
      go_enter Tryz.func23, Tryz.ntmps23
      go_wp2_with (first | (go_at_call 29; with_reducible refine Calls.mono cN.out ?_; rintro e w' ⟨rfl, k1, k2, hs, hb⟩) | (go_at_call 75; with_reducible refine Calls.mono (cT.out _ hb k2 hs) ?_; rintro e w2 ⟨rfl, k3, hb2⟩))
      go_ret
      exact ⟨rfl, hb2⟩
    | true =>
      rw [e3] at cT
      cases r with
      | true =>
        clear e2 e3 e4
        have cU1 : Hid (∀ W, Calls Tryz.prog 76 #[.bool true, .int .i64 50] W fun ev w' => ev = .returned .nilIface ∧ Below W.heap.size W w') := fun W => e1 ▸ cU.out true W
        clear e1 cU
        go_enter Tryz.func23, Tryz.ntmps23
        go_wp2_with (first | (go_at_call 29; with_reducible refine Calls.mono cN.out ?_; rintro e w' ⟨rfl, k1, k2, hs, hb⟩) | (go_at_call 75; with_reducible refine Calls.mono (cT.out _ hb k2 hs) ?_; rintro e w2 ⟨rfl, k3, hb2⟩) | (go_at_call 77; with_reducible refine Calls.mono (cC.out _ hb2) ?_; rintro e w3 ⟨rfl, hb3⟩) | (go_at_call 76; with_reducible refine Calls.mono (cU1.out _) ?_; rintro e w4 ⟨rfl, hb4⟩))
        go_ret
        have hx := hb2.trans (hb3.mono hb2.size)
        exact ⟨rfl, hx.trans (hb4.mono hx.size)⟩
      | false =>
        clear e1 e3 e4
        have cU1 : Hid (∀ W, Calls Tryz.prog 76 #[.bool false, .int .i64 50] W fun ev w' => ev = .returned (.iface 29 (.int .i64 50)) ∧ Below W.heap.size W w') := fun W => e2 ▸ cU.out false W
        clear e2 cU
        go_enter Tryz.func23, Tryz.ntmps23
        go_wp2_with (first | (go_at_call 29; with_reducible refine Calls.mono cN.out ?_; rintro e w' ⟨rfl, k1, k2, hs, hb⟩) | (go_at_call 75; with_reducible refine Calls.mono (cT.out _ hb k2 hs) ?_; rintro e w2 ⟨rfl, k3, hb2⟩) | (go_at_call 77; with_reducible refine Calls.mono (cC.out _ hb2) ?_; rintro e w3 ⟨rfl, hb3⟩) | (go_at_call 76; with_reducible refine Calls.mono (cU1.out _) ?_; rintro e w4 ⟨rfl, hb4⟩))
        go_ret
        have hx := hb2.trans (hb3.mono hb2.size)
        exact ⟨rfl, hx.trans (hb4.mono hx.size)⟩
end Go.Proofs.YtfpfeecoideedaaGreatDoor
