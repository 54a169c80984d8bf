
import Derived.Test.YtfncgpojoccgfaaDrK
import Derived.Test.YtfncgpojoccgfaaSrX
namespace Go.Proofs.Ytfncgpojoccgfaa
open Go.RowKit
set_option linter.unusedVariables false
set_option linter.unusedSimpArgs false
theorem SS.low {N B C : Nat} {v : Value} {l : List Smp} {w : World} (h : SS N C v l w) (hc : B ≤ C) : SS N B v l w := ⟨h.c0, h.f0, h.row.mono hc, h.ne, h.hN, Nat.le_trans hc h.hB, h.hk, h.hr, h.hn⟩
/-- how much steps can lay in. -/
def sumL (st : Nat → Stp) : Nat → Nat
  | 0 => 0
  | k + 1 => sumL st k + (st k).ls.length + 1
theorem sumL_mono (st : Nat → Stp) {k n : Nat} (h : k ≤ n) : sumL st k ≤ sumL st n := by
  induction n with
  | zero => have : k = 0 := by omega
            rw [this]; exact Nat.le_refl _
  | succ n ih =>
    rcases Nat.lt_or_ge n k with h1 | h1
    · have : k = n + 1 := by omega
      rw [this]; exact Nat.le_refl _
    · have := ih h1; simp only [sumL]; omega
theorem sumL_ge (st : Nat → Stp) : ∀ n, n ≤ sumL st n
  | 0 => Nat.le_refl _
  | n + 1 => by have := sumL_ge st n; simp only [sumL]; omega
/-- what steps make, from samples on. -/
def runF (X : List Smp) (st : Nat → Stp) : Nat → List Smp
  | 0 => X
  | k + 1 => run1 (runF X st k) (st k)
theorem run1_rise {X : List Smp} (h : Rise X) (s : Stp) : Rise (run1 X s) := by
  unfold run1
  split
  · exact putL_rise h _
  · split
    · exact cutL_rise h _
    · split
      · exact List.Pairwise.sublist (cut_sub X _ _ (Nat.le_max_left _ _)) h
      · split
        · have := (putAll_spec h s.ls s.ls.length (Nat.le_refl _)).1
          rw [List.take_length] at this; exact this
        · exact h
theorem runF_rise {X : List Smp} (h : Rise X) (st : Nat → Stp) : ∀ k, Rise (runF X st k)
  | 0 => h
  | k + 1 => run1_rise (runF_rise h st k) _
theorem runF_len {X : List Smp} (h : Rise X) (st : Nat → Stp) : ∀ k, (runF X st k).length ≤ X.length + sumL st k
  | 0 => by simp [runF, sumL]
  | k + 1 => by
    have h1 := runF_len h st k
    have h2 := run1_len (runF_rise h st k) (st k)
    simp only [runF, sumL]; omega
theorem TW.start {w w1 w2 : World} {S R : Nat} {B : Nat} (h1 : SS S S (.slice none 0 0) [] w1) (h2 : SS R R (.slice none 0 0) [] w2) (hb : Below w1.heap.size w1 w2) (hS : B ≤ S) (hR : w1.heap.size ≤ R) : TW S R B (.slice none 0 0) (.slice none 0 0) [] [] w2 := by
  have hN := h1.hN
  exact ⟨(h1.below hb).low hS, h2.low (by omega), by omega, by simp [Value.ownBlock], by simp [Value.ownBlock], by simp [Value.ownBlock]⟩
set_option maxRecDepth 100000 in
set_option maxHeartbeats 4000000 in
theorem seriesSeldom_walk (a : Option Addr) (n cap : Nat) (st : Nat → Stp) (w : World) (h : StIn w a n st) (hL : ∀ i, i < n → LIn w (st i).la (st i).ls) (hm : sumL st n ≤ 1048576) : Calls Try.prog 4 #[.slice a n cap] w fun e w' => e = .returned (.bool true) ∧ Below w.heap.size w w' := by
  have hl : Hid _ := live_any w
  have hI : Hid (StIn w a n st) := h
  have hLH : Hid (∀ i, i < n → LIn w (st i).la (st i).ls) := hL
  have hn : n ≤ 1048576 := Nat.le_trans (sumL_ge st n) hm
  have hsz : Hid (∀ k, k < n → sumL st k + (st k).ls.length + 1 ≤ 1048576) := fun k hk => by
    have := sumL_mono st (show k + 1 ≤ n by omega)
    simp only [sumL] at this; omega
  have hlen : Hid (∀ k, k ≤ n → (runF [] st k).length ≤ sumL st k) := fun k hk => by
    have := runF_len (List.Pairwise.nil : Rise []) st k
    simp at this; exact this
  clear h hL
  go_enter Try.func4, Try.ntmps4
  go_wp2_with fail
  refine Calls.mono hl.out ?_
  rintro e w1 ⟨rfl, hB1⟩
  clear hl
  go_wp2_with fail
  refine Calls.mono (new_any _) ?_
  rintro e w2 ⟨rfl, hS2, hB2⟩
  go_wp2_with fail
  refine Calls.mono (rnew_any _) ?_
  rintro e w3 ⟨rfl, hR3, hB3⟩
  have h0 : Hid (TW w1.heap.size w2.heap.size w.heap.size (.slice none 0 0) (.slice none 0 0) (runF [] st 0) (runF [] st 0) w3 ∧ Below w.heap.size w w3) := ⟨TW.start (w := w) hS2 hR3 hB3 hB1.size (Nat.le_refl _), (hB1.trans (hB2.mono hB1.size)).trans (hB3.mono (Nat.le_trans hB1.size hB2.size))⟩
  clear hS2 hR3 hB1 hB2 hB3
  generalize w1.heap.size = S at *
  generalize w2.heap.size = R at *
  go_wp2_with fail
  go_loopw [5] (fun i wr => ∃ (k : Nat) (vs vr : Value), k ≤ n ∧ i = .int .i64 (k : Int) ∧ Hid (TW S R w.heap.size vs vr (runF [] st k) (runF [] st k) wr ∧ Below w.heap.size w wr)) (fun i _ => n - (intOf i).toNat)
  case atStart => exact ⟨0, _, _, by omega, rfl, h0.out⟩
  case round =>
    obtain ⟨k, vs, vr, hk, rfl, hrr⟩ := hrel
    clear h0
    have hB := hrr.out.2
    by_cases hkn : k < n
    · have hkI : (k : Int) < (n : Int) := by omega
      have k0 : (0 : Int) ≤ (k : Int) := by omega
      obtain ⟨b, off, rfl, hb, c0, c1, c2, c3, c4, c5⟩ := StIn.cells hI.out hB hkn
      have hst : Hid _ := step_any S R w.heap.size vs vr (runF [] st k) (st k) wr hrr.out.1 (hI.out.2.1 k hkn) (fun W hb => (hLH.out k hkn).below (hB.trans hb) (Nat.le_refl _)) (by have := hsz.out k hkn; have := hlen.out k hk; omega)
      go_wp2_with fail
      refine Calls.mono hst.out ?_
      rintro e w4 ⟨rfl, vs', vr', hT4, hB4, _⟩
      have hnx : Hid (TW S R w.heap.size vs' vr' (runF [] st (k + 1)) (runF [] st (k + 1)) w4 ∧ Below w.heap.size w w4) := ⟨hT4, hB.trans hB4⟩
      clear hst c0 c1 c2 c3 c4 c5 hrr hB hT4 hB4
      go_wp2_with fail
      go_roundw
      case rel => exact ⟨k + 1, vs', vr', by omega, by go_num, hnx.out⟩
      case measure => simp [intOf]; omega
    · obtain rfl : n = k := by omega
      have hnm : Hid _ := named_any a n cap st wr (StIn.below hI.out hB) (fun i hi => ⟨(hLH.out i hi).below hB (Nat.le_refl _), by have := hsz.out i hi; omega⟩)
      go_wp2_with fail
      refine Calls.mono hnm.out ?_
      rintro e w5 ⟨v, tl, rfl, hT, hB5, htl⟩
      have hal : Hid _ := alike_any S R w.heap.size vs vr (runF [] st n) wr.heap.size v tl w5 (hrr.out.1.below hB5) hT (by omega)
      have hB05 : Below w.heap.size w w5 := hB.trans (hB5.mono hB.size)
      clear hT hnm hrr hB hB5
      go_wp2_with fail
      refine Calls.mono hal.out ?_
      rintro e w6 ⟨rfl, hB6⟩
      go_wp2_with fail
      go_ret
      exact ⟨rfl, hB05.trans (hB6.mono hB05.size)⟩
end Go.Proofs.Ytfncgpojoccgfaa
