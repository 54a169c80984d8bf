
import Derived.Test.YtpilohnlkckpfaaDoorKzE
import Derived.Test.YtpilohnlkckpfaaDoorKyN
import Derived.Test.YtpilohnlkckpfaaDoorKyS
namespace Go.Proofs.YtpilohnlkckpfaaDoor
open Go.RowKit Go.Shelf
set_option linter.unusedVariables false
set_option linter.unusedSimpArgs false
theorem serM_right {s : SerP} (h : rightN s = 0) : SerM s := by
  obtain ⟨z1, z2, z3, z4⟩ := right_parts h
  exact ⟨mk_extract _ (by omega), mk_extract _ (by omega), fun t ht => ⟨mk_extract _ (by have := z4 t ht; omega), mk_extract _ (by have := z4 t ht; omega)⟩⟩
set_option maxRecDepth 100000 in
set_option maxHeartbeats 8000000 in
theorem keyPrints_walk (a : Option Addr) (c1 : Nat) (s : SerP) (w : World) (ha : SerIn w a s) (hT : UT w) (hg : ET w) :
    Calls Tryd.prog 7 #[.agg #[.string s.m, .slice a s.t.length c1, .string s.f]] w fun e w' => e = .returned (.bool true) ∧ Below w.heap.size w w' := by
  have cL : Hid (∀ W, Below w.heap.size w W → Calls Tryd.prog 8 #[] W fun e w' => e = .returned (.bool true) ∧ Below W.heap.size W w') := fun W hW => live_any W (hT.below hW (Nat.le_refl _)) (ET_below hg hW)
  obtain ⟨T, cC, cR⟩ : ∃ T : ByteArray, Hid (∀ W, Below w.heap.size w W → Calls Tryd.prog 17 #[.agg #[.string s.m, .slice a s.t.length c1, .string s.f]] W fun e w' => e = .returned (.string T) ∧ Below W.heap.size W w') ∧
      Hid (∀ W, Below w.heap.size w W → Calls Tryd.prog 18 #[.agg #[.string s.m, .slice a s.t.length c1, .string s.f]] W fun e w' => e = .returned (.string T) ∧ Below W.heap.size W w') := by
    by_cases h : rightN s = 0
    · exact ⟨_, fun W hW => print_any a c1 s W ⟨ha.1.below hW, ha.2⟩ (hT.below hW (Nat.le_refl _)) h (serM_right h), fun W hW => rprint_any a c1 s W ⟨ha.1.below hW, ha.2⟩ h⟩
    · exact ⟨_, fun W hW => print_bad a c1 s W ⟨ha.1.below hW, ha.2⟩ (hT.below hW (Nat.le_refl _)) h, fun W hW => rprint_bad a c1 s W ⟨ha.1.below hW, ha.2⟩ h⟩
  generalize s.t.length = n at cC cR ⊢
  generalize s.m = sm at cC cR ⊢
  generalize s.f = sf at cC cR ⊢
  clear ha hT hg
  have hK : Hid (∀ W W' : World, Below W.heap.size W W' → (Below w.heap.size w W ∧ w.heap.size < W.heap.size ∧ W.cell? ⟨w.heap.size, 0, none⟩ = some (.string sm) ∧ W.cell? ⟨w.heap.size, 1, none⟩ = some (.slice a n c1) ∧ W.cell? ⟨w.heap.size, 2, none⟩ = some (.string sf)) → (Below w.heap.size w W' ∧ w.heap.size < W'.heap.size ∧ W'.cell? ⟨w.heap.size, 0, none⟩ = some (.string sm) ∧ W'.cell? ⟨w.heap.size, 1, none⟩ = some (.slice a n c1) ∧ W'.cell? ⟨w.heap.size, 2, none⟩ = some (.string sf))) := by
    intro W W' hb ⟨k0, k1, k2, k3, k4⟩
    have hs := hb.size
    refine ⟨k0.trans (hb.mono k0.size), by omega, ?_, ?_, ?_⟩
    · rw [hb.cell (p := ⟨w.heap.size, 0, none⟩) k1]; exact k2
    · rw [hb.cell (p := ⟨w.heap.size, 1, none⟩) k1]; exact k3
    · rw [hb.cell (p := ⟨w.heap.size, 2, none⟩) k1]; exact k4
  have hS1 : Below w.heap.size w (w.alloc (.cells #[.string sm, .slice a n c1, .string sf] 24)) ∧ w.heap.size < (w.alloc (.cells #[.string sm, .slice a n c1, .string sf] 24)).heap.size := ⟨(Below.refl _ w).alloc (Nat.le_refl _) _, by simp⟩
  go_enter Tryd.func7, Tryd.ntmps7
  go_wp2_with fail
  have d0 : (w.alloc (.cells #[.string sm, .slice a n c1, .string sf] 24)).cell? ⟨w.heap.size, 0, none⟩ = some (.string sm) := by simp [go_sem]
  have d1 : (w.alloc (.cells #[.string sm, .slice a n c1, .string sf] 24)).cell? ⟨w.heap.size, 1, none⟩ = some (.slice a n c1) := by simp [go_sem]
  have d2 : (w.alloc (.cells #[.string sm, .slice a n c1, .string sf] 24)).cell? ⟨w.heap.size, 2, none⟩ = some (.string sf) := by simp [go_sem]
  generalize w.alloc (.cells #[.string sm, .slice a n c1, .string sf] 24) = w1 at *
  have S1 : Below w.heap.size w w1 ∧ w.heap.size < w1.heap.size ∧ w1.cell? ⟨w.heap.size, 0, none⟩ = some (.string sm) ∧ w1.cell? ⟨w.heap.size, 1, none⟩ = some (.slice a n c1) ∧ w1.cell? ⟨w.heap.size, 2, none⟩ = some (.string sf) := ⟨hS1.1, hS1.2, d0, d1, d2⟩
  clear hS1 d0 d1 d2
  have S1d : Below w.heap.size w w1.drew ∧ w.heap.size < w1.drew.heap.size ∧ w1.drew.cell? ⟨w.heap.size, 0, none⟩ = some (.string sm) ∧ w1.drew.cell? ⟨w.heap.size, 1, none⟩ = some (.slice a n c1) ∧ w1.drew.cell? ⟨w.heap.size, 2, none⟩ = some (.string sf) := ⟨S1.1.drew, S1.2⟩
  go_region_held3 (fun W => Below w.heap.size w W ∧ w.heap.size < W.heap.size ∧ W.cell? ⟨w.heap.size, 0, none⟩ = some (.string sm) ∧ W.cell? ⟨w.heap.size, 1, none⟩ = some (.slice a n c1) ∧ W.cell? ⟨w.heap.size, 2, none⟩ = some (.string sf)) (first | assumption)
    (first
      | (go_at_call 8; (with_reducible refine Calls.mono (cL.out _ (by assumption : _ ∧ _).1) ?_); rintro e w' ⟨rfl, BB⟩; have SS := hK.out _ _ BB (by assumption))
      | (go_at_call 17; (with_reducible refine Calls.mono (cC.out _ (by assumption : _ ∧ _).1) ?_); rintro e w' ⟨rfl, BB⟩; have SS := hK.out _ _ BB (by assumption))
      | (go_at_call 18; (with_reducible refine Calls.mono (cR.out _ (by assumption : _ ∧ _).1) ?_); rintro e w' ⟨rfl, BB⟩; have SS := hK.out _ _ BB (by assumption)))
  all_goals
    go_wp2_with fail
    go_ret
    exact ⟨by simp, (by assumption : Below w.heap.size w _ ∧ _).1⟩
end Go.Proofs.YtpilohnlkckpfaaDoor
