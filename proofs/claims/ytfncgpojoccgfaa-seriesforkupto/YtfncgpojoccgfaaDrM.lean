
import Derived.Test.YtfncgpojoccgfaaDrL
namespace Go.Proofs.Ytfncgpojoccgfaa
open Go.RowKit
set_option linter.unusedVariables false
set_option linter.unusedSimpArgs false
theorem TO.keep {w w' : World} {C : Nat} {v : Value} {tl : List Int} (h : TO w C v tl) (hk : ∀ g, v.ownBlock = some g → w'.heap[g]? = w.heap[g]?) : TO w' C v tl := by
  refine ⟨h.1, ?_⟩
  rcases h.2 with h2 | ⟨g, cap, cur, e1, e2, e3, e4⟩
  · exact Or.inl h2
  · exact Or.inr ⟨g, cap, cur, e1, e2, by rw [hk g (by rw [e1]; rfl)]; exact e3, e4⟩
theorem TO.lt {w : World} {C : Nat} {v : Value} {tl : List Int} (h : TO w C v tl) {g : Nat} (e : v.ownBlock = some g) : C ≤ g ∧ g < w.heap.size := World.ownsRow.lt h g e
/-- both Series, and the times that are asked. -/
structure PlS (S R B C : Nat) (vs vr v : Value) (X : List Smp) (tl : List Int) (w wr : World) : Prop where
  tw : TW S R B vs vr X X wr
  to : TO wr C v tl
  b : Below B w wr
  n : ∀ g, v.ownBlock = some g → vs.ownBlock ≠ some g ∧ vr.ownBlock ≠ some g ∧ g ≠ S ∧ g ≠ R
theorem PlS.step {S R B C : Nat} {vs vr v vs' vr' : Value} {X X' : List Smp} {tl : List Int} {w wr w' : World} (h : PlS S R B C vs vr v X tl w wr) (t : TW S R B vs' vr' X' X' w') (hb : Below B wr w') (f : TFr S R vs vr vs' vr' wr w') : PlS S R B C vs' vr' v X' tl w w' := by
  refine ⟨t, h.to.keep (fun g e => ?_), h.b.trans hb, fun g e => ?_⟩
  · obtain ⟨h1, h2, h3, h4⟩ := h.n g e
    exact f.keep g (h.to.lt e).2 h3 h4 (fun e2 => h1 e2.symm) (fun e2 => h2 e2.symm)
  · obtain ⟨h1, h2, h3, h4⟩ := h.n g e
    have hl := (h.to.lt e).2
    refine ⟨fun e2 => ?_, fun e2 => ?_, h3, h4⟩
    · rcases f.os g e2 with e3 | e3
      · exact h1 e3
      · omega
    · rcases f.rr g e2 with e3 | e3
      · exact h2 e3
      · omega
theorem PlS.below {S R B C : Nat} {vs vr v : Value} {X : List Smp} {tl : List Int} {w wr w' : World} (h : PlS S R B C vs vr v X tl w wr) (hb : Below wr.heap.size wr w') : PlS S R B C vs vr v X tl w w' :=
  ⟨h.tw.below hb, h.to.keep (fun g e => hb.block g (h.to.lt e).2), h.b.trans (hb.mono (by have := h.tw.s.hB; have := h.tw.s.hN; omega)), h.n⟩
set_option maxRecDepth 100000 in
set_option maxHeartbeats 4000000 in
theorem seriesPlays_walk (a : Option Addr) (n cap : Nat) (st : Nat → Stp) (w : World) (h : StIn w a n st) (hL : ∀ i, i < n → LIn w (st i).la (st i).ls) (hm : sumL st n ≤ 1048576) : Calls Try.prog 3 #[.slice a n cap] w fun e w' => e = .returned (.bool true) ∧ Below w.heap.size w w' := by
  have hl : Hid _ := live_any w
  have hI : Hid (StIn w a n st) := h
  have hLH : Hid (∀ i, i < n → LIn w (st i).la (st i).ls) := hL
  have hn : n ≤ 1048576 := Nat.le_trans (sumL_ge st n) hm
  have hsz : Hid (∀ k, k < n → sumL st k + (st k).ls.length + 1 ≤ 1048576) := fun k hk => by
    have := sumL_mono st (show k + 1 ≤ n by omega)
    simp only [sumL] at this; omega
  have hlen : Hid (∀ k, k ≤ n → (runF [] st k).length ≤ sumL st k) := fun k hk => by
    have := runF_len (List.Pairwise.nil : Rise []) st k
    simp at this; exact this
  clear h hL
  go_enter Try.func3, Try.ntmps3
  go_wp2_with fail
  refine Calls.mono hl.out ?_
  rintro e w1 ⟨rfl, hB1⟩
  clear hl
  go_wp2_with fail
  refine Calls.mono (new_any _) ?_
  rintro e w2 ⟨rfl, hS2, hB2⟩
  go_wp2_with fail
  refine Calls.mono (rnew_any _) ?_
  rintro e w3 ⟨rfl, hR3, hB3⟩
  have hB03 : Below w.heap.size w w3 := (hB1.trans (hB2.mono hB1.size)).trans (hB3.mono (Nat.le_trans hB1.size hB2.size))
  have hT3 : Hid (TW w1.heap.size w2.heap.size w.heap.size (.slice none 0 0) (.slice none 0 0) (runF [] st 0) (runF [] st 0) w3) := TW.start (w := w) hS2 hR3 hB3 hB1.size (Nat.le_refl _)
  have hnm : Hid _ := named_any a n cap st w3 (StIn.below hI.out hB03) (fun i hi => ⟨(hLH.out i hi).below hB03 (Nat.le_refl _), by have := hsz.out i hi; omega⟩)
  clear hS2 hR3 hB1 hB2 hB3
  generalize w1.heap.size = S at *
  generalize w2.heap.size = R at *
  go_wp2_with fail
  refine Calls.mono hnm.out ?_
  rintro e w4 ⟨v, tl, rfl, hTO, hB4, htl⟩
  have h0 : Hid (PlS S R w.heap.size w3.heap.size (.slice none 0 0) (.slice none 0 0) v (runF [] st 0) tl w w4) := ⟨hT3.out.below hB4, hTO, hB03.trans (hB4.mono hB03.size), fun g e => ⟨by simp [Value.ownBlock], by simp [Value.ownBlock], by have := (hTO.lt e).1; have := hT3.out.s.hN; omega, by have := (hTO.lt e).1; have := hT3.out.r.hN; omega⟩⟩
  generalize w3.heap.size = C at *
  clear hnm hT3 hB03 hB4 hTO
  go_wp2_with fail
  go_loopw [6] (fun i wr => ∃ (k : Nat) (vs vr : Value), k ≤ n ∧ i = .int .i64 (k : Int) ∧ Hid (PlS S R w.heap.size C vs vr v (runF [] st k) tl w wr)) (fun i _ => n - (intOf i).toNat)
  case atStart => exact ⟨0, _, _, by omega, rfl, h0.out⟩
  case round =>
    obtain ⟨k, vs, vr, hk, rfl, hrr⟩ := hrel
    clear h0
    have hB := hrr.out.b
    by_cases hkn : k < n
    · have hkI : (k : Int) < (n : Int) := by omega
      have k0 : (0 : Int) ≤ (k : Int) := by omega
      obtain ⟨b, off, rfl, hb, c0, c1, c2, c3, c4, c5⟩ := StIn.cells hI.out hB hkn
      have hst : Hid _ := step_any S R w.heap.size vs vr (runF [] st k) (st k) wr hrr.out.tw (hI.out.2.1 k hkn) (fun W hb => (hLH.out k hkn).below (hB.trans hb) (Nat.le_refl _)) (by have := hsz.out k hkn; have := hlen.out k hk; omega)
      go_wp2_with fail
      refine Calls.mono hst.out ?_
      rintro e w5 ⟨rfl, vs', vr', hT5, hB5, hF5⟩
      have hnx : Hid (PlS S R w.heap.size C vs' vr' v (runF [] st (k + 1)) tl w w5) := hrr.out.step hT5 hB5 hF5
      have hal : Hid _ := alike_any S R w.heap.size vs' vr' (runF [] st (k + 1)) C v tl w5 hnx.out.tw hnx.out.to (by omega)
      clear hst c0 c1 c2 c3 c4 c5 hrr hB hT5 hB5 hF5
      go_wp2_with fail
      refine Calls.mono hal.out ?_
      rintro e w6 ⟨rfl, hB6⟩
      have hny : Hid (PlS S R w.heap.size C vs' vr' v (runF [] st (k + 1)) tl w w6) := hnx.out.below hB6
      clear hal hB6 hnx
      go_wp2_with fail
      go_roundw
      case rel => exact ⟨k + 1, vs', vr', by omega, by go_num, hny.out⟩
      case measure => simp [intOf]; omega
    · obtain rfl : n = k := by omega
      go_wp2_with fail
      go_ret
      exact ⟨rfl, hB⟩
end Go.Proofs.Ytfncgpojoccgfaa
