
import Derived.Test.YtpmonckfdnfkdaaSrW
namespace Go.Proofs.Ytpmonckfdnfkdaa
open Go.RowKit
set_option linter.unusedVariables false
set_option linter.unusedSimpArgs false
theorem StIn.below {w w' : World} {a : Option Addr} {n : Nat} {st : Nat → Stp} (h : StIn w a n st) (hB : Below w.heap.size w w') : StIn w' a n st := by
  refine ⟨h.1, h.2.1, ?_⟩
  rcases h.2.2 with h0 | ⟨b, off, e, hb, hc⟩
  · exact Or.inl h0
  · refine Or.inr ⟨b, off, e, Nat.lt_of_lt_of_le hb hB.size, fun i hi => ?_⟩
    obtain ⟨b', off', e', _, r⟩ := StIn.cells h hB hi
    rw [e] at e'; cases e'
    exact r
set_option maxRecDepth 100000 in
set_option maxHeartbeats 4000000 in
theorem seriesNone_walk (a : Option Addr) (n cap : Nat) (st : Nat → Stp) (w : World) (h : StIn w a n st) (hL : ∀ i, i < n → LIn w (st i).la (st i).ls ∧ (st i).ls.length * 24 ≤ 140737488355328) : Calls Try.prog 3 #[.slice a n cap] w fun e w' => e = .returned (.bool true) ∧ Below w.heap.size w w' := by
  have hl : Hid _ := live_any w
  have hI : Hid (StIn w a n st) := h
  have hLH : Hid (∀ i, i < n → LIn w (st i).la (st i).ls ∧ (st i).ls.length * 24 ≤ 140737488355328) := hL
  have hn := h.1
  clear h hL
  go_enter Try.func3, Try.ntmps3
  go_wp2_with fail
  refine Calls.mono hl.out ?_
  rintro e w1 ⟨rfl, hB1⟩
  clear hl
  go_wp2_with fail
  go_loopw [4] (fun i wr => ∃ k : Nat, k ≤ n ∧ i = .int .i64 (k : Int) ∧ Below w.heap.size w wr) (fun i _ => n - (intOf i).toNat)
  case atStart => exact ⟨0, by omega, rfl, hB1⟩
  case round =>
    obtain ⟨k, hk, rfl, hB⟩ := hrel
    by_cases hkn : k < n
    · have hkI : (k : Int) < (n : Int) := by omega
      have k0 : (0 : Int) ≤ (k : Int) := by omega
      obtain ⟨b, off, rfl, hb, c0, c1, c2, c3, c4, c5⟩ := StIn.cells hI.out hB hkn
      have hst : Hid _ := step_nil (st k) wr (LIn.below (hLH.out k hkn).1 hB (Nat.le_refl _)) (by have := (hLH.out k hkn).2; omega)
      go_wp2_with fail
      refine Calls.mono hst.out ?_
      rintro e w2 ⟨rfl, hB2⟩
      clear hst c0 c1 c2 c3 c4 c5
      go_wp2_with fail
      go_roundw
      case rel => exact ⟨k + 1, by omega, by go_num, hB.trans (hB2.mono hB.size)⟩
      case measure => simp [intOf]; omega
    · obtain rfl : n = k := by omega
      go_wp2_with fail
      refine Calls.mono (ns_fork _) ?_
      rintro e w2 ⟨rfl, hB2⟩
      have hB02 := hB.trans (hB2.mono hB.size)
      have hnm : Hid _ := named_any a n cap st w2 (StIn.below hI.out hB02) (fun i hi => ⟨LIn.below (hLH.out i hi).1 hB02 (Nat.le_refl _), (hLH.out i hi).2⟩)
      go_wp2_with fail
      refine Calls.mono hnm.out ?_
      rintro e w3 ⟨v, tl, rfl, hT, hB3, hlen⟩
      have hal : Hid _ := alike_nil _ v tl w3 hT (by omega)
      have hB03 := hB02.trans (hB3.mono hB02.size)
      clear hT hnm
      go_wp2_with fail
      refine Calls.mono hal.out ?_
      rintro e w4 ⟨rfl, hB4⟩
      go_wp2_with fail
      go_ret
      exact ⟨rfl, hB03.trans (hB4.mono hB03.size)⟩
end Go.Proofs.Ytpmonckfdnfkdaa
