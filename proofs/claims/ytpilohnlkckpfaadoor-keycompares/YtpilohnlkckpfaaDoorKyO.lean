
import Derived.Test.YtpilohnlkckpfaaDoorKyN
namespace Go.Proofs.YtpilohnlkckpfaaDoor
open Go.RowKit Go.Shelf
set_option linter.unusedVariables false
set_option linter.unusedSimpArgs false
set_option maxRecDepth 100000 in
set_option maxHeartbeats 8000000 in
theorem keyCompares_walk (a b : Option Addr) (c1 c2 : Nat) (s t : SerP) (w : World) (ha : SerIn w a s) (hb : SerIn w b t) (hT : UT w) (hg : ET w) :
    Calls Tryd.prog 3 #[.agg #[.string s.m, .slice a s.t.length c1, .string s.f], .agg #[.string t.m, .slice b t.t.length c2, .string t.f]] w fun e w' => e = .returned (.bool true) ∧ Below w.heap.size w w' := by
  have cL : Hid (∀ W, Below w.heap.size w W → Calls Tryd.prog 8 #[] W fun e w' => e = .returned (.bool true) ∧ Below W.heap.size W w') := fun W hW => live_any W (hT.below hW (Nat.le_refl _)) (ET_below hg hW)
  have cC : Hid (∀ W, Below w.heap.size w W → Calls Tryd.prog 9 #[.agg #[.string s.m, .slice a s.t.length c1, .string s.f], .agg #[.string t.m, .slice b t.t.length c2, .string t.f]] W fun e w' => e = .returned (.int .i64 (serC s t)) ∧ Below W.heap.size W w') := fun W hW => compare_any a b c1 c2 s t W ⟨ha.1.below hW, ha.2⟩ ⟨hb.1.below hW, hb.2⟩
  have cR : Hid (∀ W, Below w.heap.size w W → Calls Tryd.prog 10 #[.agg #[.string s.m, .slice a s.t.length c1, .string s.f], .agg #[.string t.m, .slice b t.t.length c2, .string t.f]] W fun e w' => e = .returned (.int .i64 (serC s t)) ∧ Below W.heap.size W w') := fun W hW => rcompare_any a b c1 c2 s t W ⟨ha.1.below hW, ha.2⟩ ⟨hb.1.below hW, hb.2⟩
  generalize serC s t = r at cC cR
  generalize s.t.length = n at cC cR ⊢
  generalize t.t.length = p at cC cR ⊢
  generalize s.m = sm at cC cR ⊢
  generalize s.f = sf at cC cR ⊢
  generalize t.m = tm at cC cR ⊢
  generalize t.f = tf at cC cR ⊢
  clear ha hb hT hg
  have hK : Hid (∀ W W' : World, Below W.heap.size W W' → (Below w.heap.size w W ∧ w.heap.size + 1 < W.heap.size ∧ W.cell? ⟨w.heap.size, 0, none⟩ = some (.string sm) ∧ W.cell? ⟨w.heap.size, 1, none⟩ = some (.slice a n c1) ∧ W.cell? ⟨w.heap.size, 2, none⟩ = some (.string sf) ∧ W.cell? ⟨w.heap.size + 1, 0, none⟩ = some (.string tm) ∧ W.cell? ⟨w.heap.size + 1, 1, none⟩ = some (.slice b p c2) ∧ W.cell? ⟨w.heap.size + 1, 2, none⟩ = some (.string tf)) → (Below w.heap.size w W' ∧ w.heap.size + 1 < W'.heap.size ∧ W'.cell? ⟨w.heap.size, 0, none⟩ = some (.string sm) ∧ W'.cell? ⟨w.heap.size, 1, none⟩ = some (.slice a n c1) ∧ W'.cell? ⟨w.heap.size, 2, none⟩ = some (.string sf) ∧ W'.cell? ⟨w.heap.size + 1, 0, none⟩ = some (.string tm) ∧ W'.cell? ⟨w.heap.size + 1, 1, none⟩ = some (.slice b p c2) ∧ W'.cell? ⟨w.heap.size + 1, 2, none⟩ = some (.string tf))) := by
    intro W W' hb ⟨k0, k1, k2, k3, k4, k5, k6, k7⟩
    have hs := hb.size
    refine ⟨k0.trans (hb.mono k0.size), by omega, ?_, ?_, ?_, ?_, ?_, ?_⟩
    · rw [hb.cell (p := ⟨w.heap.size, 0, none⟩) (show w.heap.size < _ by omega)]; exact k2
    · rw [hb.cell (p := ⟨w.heap.size, 1, none⟩) (show w.heap.size < _ by omega)]; exact k3
    · rw [hb.cell (p := ⟨w.heap.size, 2, none⟩) (show w.heap.size < _ by omega)]; exact k4
    · rw [hb.cell (p := ⟨w.heap.size + 1, 0, none⟩) (show w.heap.size + 1 < _ by omega)]; exact k5
    · rw [hb.cell (p := ⟨w.heap.size + 1, 1, none⟩) (show w.heap.size + 1 < _ by omega)]; exact k6
    · rw [hb.cell (p := ⟨w.heap.size + 1, 2, none⟩) (show w.heap.size + 1 < _ by omega)]; exact k7
  have hS1 : (Below w.heap.size w ((w.alloc (.cells #[.string sm, .slice a n c1, .string sf] 24)).alloc (.cells #[.string tm, .slice b p c2, .string tf] 24)) ∧ w.heap.size + 1 < ((w.alloc (.cells #[.string sm, .slice a n c1, .string sf] 24)).alloc (.cells #[.string tm, .slice b p c2, .string tf] 24)).heap.size) := ⟨((Below.refl _ w).alloc (Nat.le_refl _) _).alloc (by simp) _, by simp⟩
  go_enter Tryd.func3, Tryd.ntmps3
  go_wp2_with fail
  have d0 : ((w.alloc (.cells #[.string sm, .slice a n c1, .string sf] 24)).alloc (.cells #[.string tm, .slice b p c2, .string tf] 24)).cell? ⟨w.heap.size, 0, none⟩ = some (.string sm) := by simp [go_sem]
  have d1 : ((w.alloc (.cells #[.string sm, .slice a n c1, .string sf] 24)).alloc (.cells #[.string tm, .slice b p c2, .string tf] 24)).cell? ⟨w.heap.size, 1, none⟩ = some (.slice a n c1) := by simp [go_sem]
  have d2 : ((w.alloc (.cells #[.string sm, .slice a n c1, .string sf] 24)).alloc (.cells #[.string tm, .slice b p c2, .string tf] 24)).cell? ⟨w.heap.size, 2, none⟩ = some (.string sf) := by simp [go_sem]
  have d3 : ((w.alloc (.cells #[.string sm, .slice a n c1, .string sf] 24)).alloc (.cells #[.string tm, .slice b p c2, .string tf] 24)).cell? ⟨w.heap.size + 1, 0, none⟩ = some (.string tm) := by simp [go_sem]
  have d4 : ((w.alloc (.cells #[.string sm, .slice a n c1, .string sf] 24)).alloc (.cells #[.string tm, .slice b p c2, .string tf] 24)).cell? ⟨w.heap.size + 1, 1, none⟩ = some (.slice b p c2) := by simp [go_sem]
  have d5 : ((w.alloc (.cells #[.string sm, .slice a n c1, .string sf] 24)).alloc (.cells #[.string tm, .slice b p c2, .string tf] 24)).cell? ⟨w.heap.size + 1, 2, none⟩ = some (.string tf) := by simp [go_sem]
  generalize (w.alloc (.cells #[.string sm, .slice a n c1, .string sf] 24)).alloc (.cells #[.string tm, .slice b p c2, .string tf] 24) = w1 at *
  have S1 : (Below w.heap.size w w1 ∧ w.heap.size + 1 < w1.heap.size ∧ w1.cell? ⟨w.heap.size, 0, none⟩ = some (.string sm) ∧ w1.cell? ⟨w.heap.size, 1, none⟩ = some (.slice a n c1) ∧ w1.cell? ⟨w.heap.size, 2, none⟩ = some (.string sf) ∧ w1.cell? ⟨w.heap.size + 1, 0, none⟩ = some (.string tm) ∧ w1.cell? ⟨w.heap.size + 1, 1, none⟩ = some (.slice b p c2) ∧ w1.cell? ⟨w.heap.size + 1, 2, none⟩ = some (.string tf)) := ⟨hS1.1, hS1.2, d0, d1, d2, d3, d4, d5⟩
  clear hS1 d0 d1 d2 d3 d4 d5
  have S1d : (Below w.heap.size w w1.drew ∧ w.heap.size + 1 < w1.drew.heap.size ∧ w1.drew.cell? ⟨w.heap.size, 0, none⟩ = some (.string sm) ∧ w1.drew.cell? ⟨w.heap.size, 1, none⟩ = some (.slice a n c1) ∧ w1.drew.cell? ⟨w.heap.size, 2, none⟩ = some (.string sf) ∧ w1.drew.cell? ⟨w.heap.size + 1, 0, none⟩ = some (.string tm) ∧ w1.drew.cell? ⟨w.heap.size + 1, 1, none⟩ = some (.slice b p c2) ∧ w1.drew.cell? ⟨w.heap.size + 1, 2, none⟩ = some (.string tf)) := ⟨S1.1.drew, S1.2⟩
  go_region_held3 (fun W => Below w.heap.size w W ∧ w.heap.size + 1 < W.heap.size ∧ W.cell? ⟨w.heap.size, 0, none⟩ = some (.string sm) ∧ W.cell? ⟨w.heap.size, 1, none⟩ = some (.slice a n c1) ∧ W.cell? ⟨w.heap.size, 2, none⟩ = some (.string sf) ∧ W.cell? ⟨w.heap.size + 1, 0, none⟩ = some (.string tm) ∧ W.cell? ⟨w.heap.size + 1, 1, none⟩ = some (.slice b p c2) ∧ W.cell? ⟨w.heap.size + 1, 2, none⟩ = some (.string tf)) (first | assumption)
    (first
      | (go_at_call 8; (with_reducible refine Calls.mono (cL.out _ (by assumption : _ ∧ _).1) ?_); rintro e w' ⟨rfl, BB⟩; have SS := hK.out _ _ BB (by assumption))
      | (go_at_call 9; (with_reducible refine Calls.mono (cC.out _ (by assumption : _ ∧ _).1) ?_); rintro e w' ⟨rfl, BB⟩; have SS := hK.out _ _ BB (by assumption))
      | (go_at_call 10; (with_reducible refine Calls.mono (cR.out _ (by assumption : _ ∧ _).1) ?_); rintro e w' ⟨rfl, BB⟩; have SS := hK.out _ _ BB (by assumption)))
  all_goals
    go_wp2_with fail
    go_ret
    exact ⟨by simp, (by assumption : Below w.heap.size w _ ∧ _).1⟩
end Go.Proofs.YtpilohnlkckpfaaDoor
