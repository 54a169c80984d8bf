
import Derived.Test.YtnpannhcpjmeeaaDoorBbB
import Derived.Test.YtnpannhcpjmeeaaDoorBbC
import Derived.Test.YtnpannhcpjmeeaaDoorSameD
import Derived.Deep.RegionHeld3
namespace Go.Proofs.YtnpannhcpjmeeaaDoor
open Go.RowKit _root_.Go.Proofs.YtnpannhcpjmeeaaDoor.So
attribute [local go_sem] Oper.semAt_some
set_option linter.unusedVariables false
set_option linter.unusedSimpArgs false
set_option maxRecDepth 100000 in
theorem same_nilB (w : World) : Calls Tryd.prog 5 #[.nilIface, bdV 0] w fun e w' => e = .returned (.bool true) ∧ Below w.heap.size w w' := by
  have hB : ∀ o, Below w.heap.size w (w.alloc o) := fun o => (Below.refl _ w).alloc (Nat.le_refl _) o
  unfold bdV
  go_enter Tryd.func5, Tryd.ntmps5
  go_wp2_with fail
  go_ret
  exact ⟨rfl, hB _⟩
theorem same_erB (n : Int) (w : World) (hg : ET w) : Calls Tryd.prog 5 #[erN n, bdV n] w fun e w' => e = .returned (.bool true) ∧ Below w.heap.size w w' := by
  by_cases h : n = 0
  · subst h; exact same_nilB w
  · rw [erN, if_neg h]
    exact sameC_miss_miss [] n (by simpa using h) rfl rfl w hg
theorem none_right (w : World) (hT : UT w) : Calls Tryd.prog 6 #[.agg #[.string ⟨#[]⟩, .slice none 0 0, .slice none 0 0, .int .i64 0]] w fun e w' => e = .returned (.iface 31 (.int .i64 50)) ∧ Below w.heap.size w w' := by
  have := bright_any none none 0 0 ⟨⟨#[]⟩, [], [], 0⟩ w ⟨Or.inl rfl, by decide, Or.inl rfl, by decide, by decide⟩ hT
  rw [no_right] at this
  exact this
set_option maxRecDepth 100000 in
set_option maxHeartbeats 4000000 in
/-- live, of the batch. -/
theorem blive_any (w : World) (hT : UT w) (hg : ET w) : Calls Tryd.prog 4 #[] w fun e w' => e = .returned (.bool true) ∧ Below w.heap.size w w' := by
  obtain ⟨w2, hw2⟩ : ∃ w2, w2 = (w.alloc (.cells #[.string ⟨#[118]⟩, .int .i64 3] 40)).alloc (.cells #[.string ⟨#[109]⟩, .slice none 0 0, .slice (some ⟨w.heap.size, 0, none⟩) 1 1, .int .i64 5] 25) := ⟨_, rfl⟩
  have b2 : Below w.heap.size w w2 := by rw [hw2]; exact ((Below.refl _ w).alloc (Nat.le_refl _) _).alloc (by simp) _
  have hO : OneP w2 (w.heap.size + 1) w.heap.size := by
    rw [hw2]
    refine ⟨by simp, by simp; omega, ⟨?_, ?_, ?_, ?_⟩, ?_, ?_⟩ <;> simp [go_sem]
  have cF : Hid _ := flat_one w2 _ _ hO (hT.below b2 (Nat.le_refl _))
  have cN : Hid (∀ W, UT W → Calls Tryd.prog 6 #[.agg #[.string ⟨#[]⟩, .slice none 0 0, .slice none 0 0, .int .i64 0]] W fun e w' => e = .returned (.iface 31 (.int .i64 50)) ∧ Below W.heap.size W w') := fun W hW => none_right W hW
  have cI : Hid (∀ W, ET W → Calls Tryd.prog 9 #[.iface 31 (.int .i64 50), .int .i64 50] W fun ev w' => ev = .returned (.bool true) ∧ Below W.heap.size W w') := fun W hW => isE_any 50 50 rfl W hW
  have hU : Hid (∀ W, Below w.heap.size w W → UT W ∧ ET W) := fun W hW => ⟨hT.below hW (Nat.le_refl _), ET_below hg hW⟩
  have b2H : Hid (Below w.heap.size w w2) := b2
  clear hT hg b2 hO
  go_enter Tryd.func4, Tryd.ntmps4
  go_wp2_with fail
  rw [← hw2]
  clear hw2
  refine Calls.mono cF.out ?_
  rintro e w3 ⟨g, c, rfl, ⟨x3, x4, x5⟩, b3⟩
  have b3H : Hid (Below w.heap.size w w3) := b2H.out.trans (b3.mono b2H.out.size)
  clear b3 b2H cF
  go_wp2_with fail
  refine Calls.mono (cN.out _ (hU.out _ b3H.out).1) ?_
  rintro e w4 ⟨rfl, b4⟩
  have b4H : Hid (Below w.heap.size w w4) := b3H.out.trans (b4.mono b3H.out.size)
  clear b4 b3H x3 x4 x5
  go_wp2_with fail
  refine Calls.mono (cI.out _ (hU.out _ b4H.out).2) ?_
  rintro e w5 ⟨rfl, b5⟩
  have b5H : Hid (Below w.heap.size w w5) := b4H.out.trans (b5.mono b4H.out.size)
  clear b5 b4H
  go_wp2_with fail
  go_ret
  exact ⟨rfl, b5H.out⟩
end Go.Proofs.YtnpannhcpjmeeaaDoor

namespace Go.Proofs.YtnpannhcpjmeeaaDoor
open Go.RowKit _root_.Go.Proofs.YtnpannhcpjmeeaaDoor.So
set_option linter.unusedVariables false
set_option linter.unusedSimpArgs false
set_option maxRecDepth 100000 in
set_option maxHeartbeats 4000000 in
theorem batchRights_walk (a b : Option Addr) (c1 c2 : Nat) (p : PtP) (w : World) (hp : PtIn w a b c2 p) (hpt : p.t.length ≤ 4398046511103) (hT : UT w) (hg : ET w) :
    Calls Tryd.prog 3 #[.agg #[.string p.m, .slice a p.t.length c1, .slice b p.f.length c2, .int .i64 p.tm]] w fun e w' => e = .returned (.bool true) ∧ Below w.heap.size w w' := by
  have cL : Hid (∀ W, Below w.heap.size w W → Calls Tryd.prog 4 #[] W fun e w' => e = .returned (.bool true) ∧ Below W.heap.size W w') := fun W hW => blive_any W (hT.below hW (Nat.le_refl _)) (ET_below hg hW)
  have cR : Hid (∀ W, Below w.heap.size w W → Calls Tryd.prog 6 #[.agg #[.string p.m, .slice a p.t.length c1, .slice b p.f.length c2, .int .i64 p.tm]] W fun e w' => e = .returned (erN (pointN p)) ∧ Below W.heap.size W w') := fun W hW => bright_any a b c1 c2 p W (hp.below hW) (hT.below hW (Nat.le_refl _))
  have cQ : Hid (∀ W, Below w.heap.size w W → Calls Tryd.prog 7 #[.agg #[.string p.m, .slice a p.t.length c1, .slice b p.f.length c2, .int .i64 p.tm]] W fun e w' => e = .returned (bdV (pointN p)) ∧ Below W.heap.size W w') := fun W hW => rpright_any a b c1 c2 p W (hp.below hW) hpt
  have cS : Hid (∀ W, Below w.heap.size w W → Calls Tryd.prog 5 #[erN (pointN p), bdV (pointN p)] W fun e w' => e = .returned (.bool true) ∧ Below W.heap.size W w') := fun W hW => same_erB _ W (ET_below hg hW)
  generalize erN (pointN p) = V1 at cR cS
  generalize bdV (pointN p) = V2 at cQ cS
  clear hp hpt hT hg
  obtain ⟨pm, pt, pf, ptm⟩ := p
  simp only at cL cR cQ cS ⊢
  generalize pt.length = n1 at *
  generalize pf.length = n2 at *
  have cL : Hid (∀ W, (Below w.heap.size w W ∧ w.heap.size < W.heap.size ∧ W.cell? ⟨w.heap.size, 0, none⟩ = some (.string pm) ∧ W.cell? ⟨w.heap.size, 1, none⟩ = some (.slice a n1 c1) ∧ W.cell? ⟨w.heap.size, 2, none⟩ = some (.slice b n2 c2) ∧ W.cell? ⟨w.heap.size, 3, none⟩ = some (.int .i64 ptm)) → _) := fun W h => cL.out W h.1
  have cR : Hid (∀ W, (Below w.heap.size w W ∧ w.heap.size < W.heap.size ∧ W.cell? ⟨w.heap.size, 0, none⟩ = some (.string pm) ∧ W.cell? ⟨w.heap.size, 1, none⟩ = some (.slice a n1 c1) ∧ W.cell? ⟨w.heap.size, 2, none⟩ = some (.slice b n2 c2) ∧ W.cell? ⟨w.heap.size, 3, none⟩ = some (.int .i64 ptm)) → _) := fun W h => cR.out W h.1
  have cQ : Hid (∀ W, (Below w.heap.size w W ∧ w.heap.size < W.heap.size ∧ W.cell? ⟨w.heap.size, 0, none⟩ = some (.string pm) ∧ W.cell? ⟨w.heap.size, 1, none⟩ = some (.slice a n1 c1) ∧ W.cell? ⟨w.heap.size, 2, none⟩ = some (.slice b n2 c2) ∧ W.cell? ⟨w.heap.size, 3, none⟩ = some (.int .i64 ptm)) → _) := fun W h => cQ.out W h.1
  have cS : Hid (∀ W, (Below w.heap.size w W ∧ w.heap.size < W.heap.size ∧ W.cell? ⟨w.heap.size, 0, none⟩ = some (.string pm) ∧ W.cell? ⟨w.heap.size, 1, none⟩ = some (.slice a n1 c1) ∧ W.cell? ⟨w.heap.size, 2, none⟩ = some (.slice b n2 c2) ∧ W.cell? ⟨w.heap.size, 3, none⟩ = some (.int .i64 ptm)) → _) := fun W h => cS.out W h.1
  have hK : Hid (∀ W W' : World, Below W.heap.size W W' → (Below w.heap.size w W ∧ w.heap.size < W.heap.size ∧ W.cell? ⟨w.heap.size, 0, none⟩ = some (.string pm) ∧ W.cell? ⟨w.heap.size, 1, none⟩ = some (.slice a n1 c1) ∧ W.cell? ⟨w.heap.size, 2, none⟩ = some (.slice b n2 c2) ∧ W.cell? ⟨w.heap.size, 3, none⟩ = some (.int .i64 ptm)) → (Below w.heap.size w W' ∧ w.heap.size < W'.heap.size ∧ W'.cell? ⟨w.heap.size, 0, none⟩ = some (.string pm) ∧ W'.cell? ⟨w.heap.size, 1, none⟩ = some (.slice a n1 c1) ∧ W'.cell? ⟨w.heap.size, 2, none⟩ = some (.slice b n2 c2) ∧ W'.cell? ⟨w.heap.size, 3, none⟩ = some (.int .i64 ptm))) := fun W W' hB h => ⟨h.1.trans (hB.mono h.1.size), Nat.lt_of_lt_of_le h.2.1 hB.size, by rw [hB.cell (p := ⟨w.heap.size, 0, none⟩) h.2.1]; exact h.2.2.1, by rw [hB.cell (p := ⟨w.heap.size, 1, none⟩) h.2.1]; exact h.2.2.2.1, by rw [hB.cell (p := ⟨w.heap.size, 2, none⟩) h.2.1]; exact h.2.2.2.2.1, by rw [hB.cell (p := ⟨w.heap.size, 3, none⟩) h.2.1]; exact h.2.2.2.2.2⟩
  obtain ⟨w0, hw0⟩ : ∃ w0, w0 = w.alloc (.cells #[.string pm, .slice a n1 c1, .slice b n2 c2, .int .i64 ptm] 25) := ⟨_, rfl⟩
  have hS0 : Below w.heap.size w w0 ∧ w.heap.size < w0.heap.size ∧ w0.cell? ⟨w.heap.size, 0, none⟩ = some (.string pm) ∧ w0.cell? ⟨w.heap.size, 1, none⟩ = some (.slice a n1 c1) ∧ w0.cell? ⟨w.heap.size, 2, none⟩ = some (.slice b n2 c2) ∧ w0.cell? ⟨w.heap.size, 3, none⟩ = some (.int .i64 ptm) := by
    refine ⟨by rw [hw0]; exact (Below.refl _ w).alloc (Nat.le_refl _) _, by rw [hw0]; simp, ?_, ?_, ?_, ?_⟩ <;> (rw [hw0]; simp [go_sem])
  have hSd : Below w.heap.size w w0.drew ∧ w.heap.size < w0.drew.heap.size ∧ w0.drew.cell? ⟨w.heap.size, 0, none⟩ = some (.string pm) ∧ w0.drew.cell? ⟨w.heap.size, 1, none⟩ = some (.slice a n1 c1) ∧ w0.drew.cell? ⟨w.heap.size, 2, none⟩ = some (.slice b n2 c2) ∧ w0.drew.cell? ⟨w.heap.size, 3, none⟩ = some (.int .i64 ptm) := ⟨hS0.1.drew, hS0.2⟩
  have hS0H : Hid (Below w.heap.size w w0 ∧ w.heap.size < w0.heap.size ∧ w0.cell? ⟨w.heap.size, 0, none⟩ = some (.string pm) ∧ w0.cell? ⟨w.heap.size, 1, none⟩ = some (.slice a n1 c1) ∧ w0.cell? ⟨w.heap.size, 2, none⟩ = some (.slice b n2 c2) ∧ w0.cell? ⟨w.heap.size, 3, none⟩ = some (.int .i64 ptm)) := hS0
  have hSdH : Hid (Below w.heap.size w w0.drew ∧ w.heap.size < w0.drew.heap.size ∧ w0.drew.cell? ⟨w.heap.size, 0, none⟩ = some (.string pm) ∧ w0.drew.cell? ⟨w.heap.size, 1, none⟩ = some (.slice a n1 c1) ∧ w0.drew.cell? ⟨w.heap.size, 2, none⟩ = some (.slice b n2 c2) ∧ w0.drew.cell? ⟨w.heap.size, 3, none⟩ = some (.int .i64 ptm)) := hSd
  clear hS0 hSd
  go_enter Tryd.func3, Tryd.ntmps3
  go_wp2_with fail
  rw [← hw0]
  clear hw0
  have hS0 := hS0H.out
  have hSd := hSdH.out
  clear hSdH hS0
  go_region_held3 (fun W => Below w.heap.size w W ∧ w.heap.size < W.heap.size ∧ W.cell? ⟨w.heap.size, 0, none⟩ = some (.string pm) ∧ W.cell? ⟨w.heap.size, 1, none⟩ = some (.slice a n1 c1) ∧ W.cell? ⟨w.heap.size, 2, none⟩ = some (.slice b n2 c2) ∧ W.cell? ⟨w.heap.size, 3, none⟩ = some (.int .i64 ptm)) (first | assumption)
    (first
      | (go_at_call 4; (with_reducible refine Calls.mono (cL.out _ (by assumption)) ?_); rintro e w' ⟨rfl, BB⟩; have SS := hK.out _ _ BB (by assumption))
      | (go_at_call 6; (with_reducible refine Calls.mono (cR.out _ (by assumption)) ?_); rintro e w' ⟨rfl, BB⟩; have SS := hK.out _ _ BB (by assumption))
      | (go_at_call 7; (with_reducible refine Calls.mono (cQ.out _ (by assumption)) ?_); rintro e w' ⟨rfl, BB⟩; have SS := hK.out _ _ BB (by assumption))
      | (go_at_call 5; (with_reducible refine Calls.mono (cS.out _ (by assumption)) ?_); rintro e w' ⟨rfl, BB⟩; have SS := hK.out _ _ BB (by assumption)))
  all_goals
    go_wp2_with fail
    go_ret
    exact ⟨by simp, (by assumption : Below w.heap.size w _ ∧ _).1⟩
end Go.Proofs.YtnpannhcpjmeeaaDoor
