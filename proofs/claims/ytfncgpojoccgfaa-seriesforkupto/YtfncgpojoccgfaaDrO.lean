
import Derived.Test.YtfncgpojoccgfaaDrN
namespace Go.Proofs.Ytfncgpojoccgfaa
open Go.RowKit
set_option linter.unusedVariables false
set_option linter.unusedSimpArgs false
theorem SS.hold {N B : Nat} {v : Value} {l : List Smp} {w w' : World} (h : SS N B v l w) (hs : w.heap.size ≤ w'.heap.size) (h1 : w'.heap[N]? = w.heap[N]?) (h2 : ∀ g, v.ownBlock = some g → w'.heap[g]? = w.heap[g]?) : SS N B v l w' :=
  ⟨by rw [World.cell?_of_block (w := w) h1]; exact h.c0, by rw [frozen_block h1]; exact h.f0, h.row.keep hs h2, h.ne, Nat.lt_of_lt_of_le h.hN hs, h.hB, h.hk, h.hr, h.hn⟩
/-- the blocks of two Series. -/
def Blk (S R : Nat) (vs vr : Value) (k : Nat) : Prop := k = S ∨ k = R ∨ vs.ownBlock = some k ∨ vr.ownBlock = some k
theorem TW.lt {S R B : Nat} {vs vr : Value} {X Y : List Smp} {w : World} (h : TW S R B vs vr X Y w) {k : Nat} (hk : Blk S R vs vr k) : k < w.heap.size := by
  rcases hk with e | e | e | e
  · rw [e]; exact h.s.hN
  · rw [e]; exact h.r.hN
  · exact h.s.row.lt e
  · exact h.r.row.lt e
theorem TW.hold {S R B : Nat} {vs vr : Value} {X Y : List Smp} {w w' : World} (h : TW S R B vs vr X Y w) (hs : w.heap.size ≤ w'.heap.size) (hk : ∀ k, Blk S R vs vr k → w'.heap[k]? = w.heap[k]?) : TW S R B vs vr X Y w' :=
  ⟨h.s.hold hs (hk S (Or.inl rfl)) (fun g e => hk g (Or.inr (Or.inr (Or.inl e)))), h.r.hold hs (hk R (Or.inr (Or.inl rfl))) (fun g e => hk g (Or.inr (Or.inr (Or.inr e)))), h.ne, h.sr, h.rs, h.vv⟩
/-- two pairs of Series. -/
structure QS (S R T Q B : Nat) (vs vr vt vq : Value) (X Y : List Smp) (w : World) : Prop where
  a : TW S R B vs vr X X w
  b : TW T Q B vt vq Y Y w
  d : ∀ k, Blk S R vs vr k → ¬ Blk T Q vt vq k
theorem QS.swap {S R T Q B : Nat} {vs vr vt vq : Value} {X Y : List Smp} {w : World} (h : QS S R T Q B vs vr vt vq X Y w) : QS T Q S R B vt vq vs vr Y X w := ⟨h.b, h.a, fun k h1 h2 => h.d k h2 h1⟩
theorem QS.stepA {S R T Q B : Nat} {vs vr vt vq vs' vr' : Value} {X X' Y : List Smp} {w w' : World} (h : QS S R T Q B vs vr vt vq X Y w) (t : TW S R B vs' vr' X' X' w') (f : TFr S R vs vr vs' vr' w w') : QS S R T Q B vs' vr' vt vq X' Y w' := by
  have hh : ∀ k, Blk T Q vt vq k → w'.heap[k]? = w.heap[k]? := fun k hk => f.keep k (h.b.lt hk) (fun e => h.d k (Or.inl e) hk) (fun e => h.d k (Or.inr (Or.inl e)) hk) (fun e => h.d k (Or.inr (Or.inr (Or.inl e.symm))) hk) (fun e => h.d k (Or.inr (Or.inr (Or.inr e.symm))) hk)
  refine ⟨t, h.b.hold f.sz hh, fun k h1 h2 => ?_⟩
  have hl := h.b.lt h2
  rcases h1 with e | e | e | e
  · exact h.d k (Or.inl e) h2
  · exact h.d k (Or.inr (Or.inl e)) h2
  · rcases f.os k e with e2 | e2
    · exact h.d k (Or.inr (Or.inr (Or.inl e2))) h2
    · omega
  · rcases f.rr k e with e2 | e2
    · exact h.d k (Or.inr (Or.inr (Or.inr e2))) h2
    · omega
theorem QS.stepB {S R T Q B : Nat} {vs vr vt vq vt' vq' : Value} {X Y Y' : List Smp} {w w' : World} (h : QS S R T Q B vs vr vt vq X Y w) (t : TW T Q B vt' vq' Y' Y' w') (f : TFr T Q vt vq vt' vq' w w') : QS S R T Q B vs vr vt' vq' X Y' w' := (h.swap.stepA t f).swap
theorem QS.below {S R T Q B : Nat} {vs vr vt vq : Value} {X Y : List Smp} {w w' : World} (h : QS S R T Q B vs vr vt vq X Y w) (hb : Below w.heap.size w w') : QS S R T Q B vs vr vt vq X Y w' := ⟨h.a.below hb, h.b.below hb, h.d⟩
theorem QS.start {S R T Q B : Nat} {vs vr vt vq : Value} {X : List Smp} {w w4 w5 : World} (h : TW S R B vs vr X X w) (hB : B ≤ w.heap.size) (h4 : SS T w.heap.size vt X w4) (g4 : ∀ g, vt.ownBlock = some g → w.heap.size ≤ g) (b4 : Below w.heap.size w w4) (h5 : SS Q w4.heap.size vq X w5) (g5 : ∀ g, vq.ownBlock = some g → w4.heap.size ≤ g) (b5 : Below w4.heap.size w4 w5) : QS S R T Q B vs vr vt vq X X w5 := by
  have hT := h4.hN
  have hTB := h4.hB
  have hQB := h5.hB
  have hz := b4.size
  refine ⟨h.below (b4.trans (b5.mono hz)), ⟨(h4.below b5).low hB, h5.low (by omega), by omega, fun e => by have := h4.row.lt e; omega, fun e => by have := g5 _ e; omega, fun g e e2 => by have := h4.row.lt e; have := g5 g e2; omega⟩, fun k h1 h2 => ?_⟩
  have hl := h.lt h1
  rcases h2 with e | e | e | e
  · omega
  · omega
  · have := g4 k e; omega
  · have := g5 k e; omega
theorem step_size {st : Nat → Stp} {n : Nat} (hm : sumL st n ≤ 1048576) : ∀ k, k < n → (st k).ls.length ≤ 1048576 := fun k hk => by
  have := sumL_mono st (show k + 1 ≤ n by omega)
  simp only [sumL] at this; omega
set_option maxRecDepth 100000 in
set_option maxHeartbeats 4000000 in
theorem seriesFork_walk (a0 : Option Addr) (n0 c0 : Nat) (st0 : Nat → Stp) (a1 : Option Addr) (n1 c1 : Nat) (st1 : Nat → Stp) (a2 : Option Addr) (n2 c2 : Nat) (st2 : Nat → Stp) (w : World) (h0 : StIn w a0 n0 st0) (l0 : ∀ i, i < n0 → LIn w (st0 i).la (st0 i).ls) (m0 : sumL st0 n0 ≤ 1048576) (h1 : StIn w a1 n1 st1) (l1 : ∀ i, i < n1 → LIn w (st1 i).la (st1 i).ls) (m1 : sumL st1 n1 ≤ 1048576) (h2 : StIn w a2 n2 st2) (l2 : ∀ i, i < n2 → LIn w (st2 i).la (st2 i).ls) (m2 : sumL st2 n2 ≤ 1048576) :
    Calls Try.prog 5 #[.slice a0 n0 c0, .slice a1 n1 c1, .slice a2 n2 c2] w fun e w' => e = .returned (.bool true) ∧ Below w.heap.size w w' := by
  have hl : Hid _ := live_any w
  have hn0 : n0 ≤ 1048576 := Nat.le_trans (sumL_ge st0 n0) m0
  have hn1 : n1 ≤ 1048576 := Nat.le_trans (sumL_ge st1 n1) m1
  have hn2 : n2 ≤ 1048576 := Nat.le_trans (sumL_ge st2 n2) m2
  have hI0 : Hid (StIn w a0 n0 st0) := h0
  have hL0 : Hid (∀ i, i < n0 → LIn w (st0 i).la (st0 i).ls) := l0
  have hZ0 : Hid (∀ k, k < n0 → (st0 k).ls.length ≤ 1048576) := step_size m0
  have hI1 : Hid (StIn w a1 n1 st1) := h1
  have hL1 : Hid (∀ i, i < n1 → LIn w (st1 i).la (st1 i).ls) := l1
  have hZ1 : Hid (∀ k, k < n1 → (st1 k).ls.length ≤ 1048576) := step_size m1
  have hI2 : Hid (StIn w a2 n2 st2) := h2
  have hL2 : Hid (∀ i, i < n2 → LIn w (st2 i).la (st2 i).ls) := l2
  have hZ2 : Hid (∀ k, k < n2 → (st2 k).ls.length ≤ 1048576) := step_size m2
  have hlen : Hid (∀ k, k ≤ n0 → (runF [] st0 k).length ≤ 1048576) := fun k hk => by
    have h5 := runF_len (List.Pairwise.nil : Rise []) st0 k
    have h6 := sumL_mono st0 hk
    simp at h5; omega
  have hlen1 : Hid (∀ k, k ≤ n1 → (runF (runF [] st0 n0) st1 k).length ≤ 2097152) := fun k hk => by
    have h5 := runF_len (runF_rise (List.Pairwise.nil : Rise []) st0 n0) st1 k
    have h6 := sumL_mono st1 hk
    have h7 := hlen.out n0 (Nat.le_refl _)
    omega
  have hlen2 : Hid (∀ k, k ≤ n2 → (runF (runF [] st0 n0) st2 k).length ≤ 2097152) := fun k hk => by
    have h5 := runF_len (runF_rise (List.Pairwise.nil : Rise []) st0 n0) st2 k
    have h6 := sumL_mono st2 hk
    have h7 := hlen.out n0 (Nat.le_refl _)
    omega
  clear h0 h1 h2 l0 l1 l2 m0 m1 m2
  obtain ⟨N, hN⟩ : ∃ N, N = Nat.max n1 n2 := ⟨_, rfl⟩
  have hNa : n1 ≤ N := by rw [hN]; exact Nat.le_max_left _ _
  have hNb : n2 ≤ N := by rw [hN]; exact Nat.le_max_right _ _
  have hNc : Hid (∀ k, n1 ≤ k → n2 ≤ k → N ≤ k) := fun k h1 h2 => by rw [hN]; exact Nat.max_le.2 ⟨h1, h2⟩
  clear hN
  go_enter Try.func5, Try.ntmps5
  go_wp2_with fail
  refine Calls.mono hl.out ?_
  rintro e w1 ⟨rfl, hB1⟩
  clear hl
  go_wp2_with fail
  refine Calls.mono (new_any _) ?_
  rintro e w2 ⟨rfl, hS2, hB2⟩
  go_wp2_with fail
  refine Calls.mono (rnew_any _) ?_
  rintro e w3 ⟨rfl, hR3, hB3⟩
  have h0 : Hid (TW w1.heap.size w2.heap.size w.heap.size (.slice none 0 0) (.slice none 0 0) (runF [] st0 0) (runF [] st0 0) w3 ∧ Below w.heap.size w w3) := ⟨TW.start (w := w) hS2 hR3 hB3 hB1.size (Nat.le_refl _), (hB1.trans (hB2.mono hB1.size)).trans (hB3.mono (Nat.le_trans hB1.size hB2.size))⟩
  clear hS2 hR3 hB1 hB2 hB3
  generalize w1.heap.size = S at *
  generalize w2.heap.size = R at *
  go_wp2_with fail
  go_loopw [9] (fun i wr => ∃ (k : Nat) (vs vr : Value), k ≤ n0 ∧ i = .int .i64 (k : Int) ∧ Hid (TW S R w.heap.size vs vr (runF [] st0 k) (runF [] st0 k) wr ∧ Below w.heap.size w wr)) (fun i _ => n0 - (intOf i).toNat)
  case atStart => exact ⟨0, _, _, by omega, rfl, h0.out⟩
  case round =>
    obtain ⟨k, vs, vr, hk, rfl, hrr⟩ := hrel
    clear h0
    have hB := hrr.out.2
    by_cases hkn : k < n0
    · have hkI : (k : Int) < (n0 : Int) := by omega
      have k0 : (0 : Int) ≤ (k : Int) := by omega
      obtain ⟨b, off, rfl, hb, d0, d1, d2, d3, d4, d5⟩ := StIn.cells hI0.out hB hkn
      have hst : Hid _ := step_any S R w.heap.size vs vr (runF [] st0 k) (st0 k) wr hrr.out.1 (hI0.out.2.1 k hkn) (fun W hb => (hL0.out k hkn).below (hB.trans hb) (Nat.le_refl _)) (by have := hZ0.out k hkn; have := hlen.out k hk; omega)
      go_wp2_with fail
      refine Calls.mono hst.out ?_
      rintro e w4 ⟨rfl, vs', vr', hT4, hB4, _⟩
      have hnx : Hid (TW S R w.heap.size vs' vr' (runF [] st0 (k + 1)) (runF [] st0 (k + 1)) w4 ∧ Below w.heap.size w w4) := ⟨hT4, hB.trans hB4⟩
      clear hst d0 d1 d2 d3 d4 d5 hrr hB hT4 hB4
      go_wp2_with fail
      go_roundw
      case rel => exact ⟨k + 1, vs', vr', by omega, by go_num, hnx.out⟩
      case measure => simp [intOf]; omega
    · obtain rfl : n0 = k := by omega
      obtain ⟨X, hX⟩ : ∃ X, X = runF [] st0 n0 := ⟨_, rfl⟩
      rw [← hX] at hrr hlen1 hlen2
      clear hX
      have hfk : Hid _ := fork_any S w.heap.size vs X wr hrr.out.1.s
      go_wp2_with fail
      refine Calls.mono hfk.out ?_
      rintro e w4 ⟨T, vt, rfl, h4, g4, b4⟩
      have hT4 : Hid (TW S R w.heap.size vs vr X X w4) := hrr.out.1.below b4
      have hfr : Hid _ := rfork_any R w.heap.size vr X w4 hT4.out.r
      clear hfk
      go_wp2_with fail
      refine Calls.mono hfr.out ?_
      rintro e w5 ⟨Q, vq, rfl, h5, g5, b5⟩
      have hq0 : Hid (QS S R T Q w.heap.size vs vr vt vq (runF X st1 (min 0 n1)) (runF X st2 (min 0 n2)) w5 ∧ Below w.heap.size w w5) := by
        rw [Nat.zero_min, Nat.zero_min]
        exact ⟨QS.start hrr.out.1 hB.size h4 g4 b4 h5 g5 b5, (hB.trans (b4.mono hB.size)).trans (b5.mono (Nat.le_trans hB.size b4.size))⟩
      clear hfr hT4 h4 g4 b4 h5 g5 b5 hrr hB hlen
      go_wp2_with fail
      go_loopw [12] (fun i wr => ∃ (k : Nat) (vs vr vt vq : Value), k ≤ N ∧ i = .int .i64 (k : Int) ∧ Hid (QS S R T Q w.heap.size vs vr vt vq (runF X st1 (min k n1)) (runF X st2 (min k n2)) wr ∧ Below w.heap.size w wr)) (fun i _ => N - (intOf i).toNat)
      case atStart => exact ⟨0, vs, vr, vt, vq, by omega, rfl, hq0.out⟩
      case round =>
        obtain ⟨k, vs, vr, vt, vq, hk, rfl, hrr⟩ := hrel
        clear hq0
        have hB := hrr.out.2
        have k0 : (0 : Int) ≤ (k : Int) := by omega
        by_cases hk1 : k < n1
        · have hka : (k : Int) < (n1 : Int) := by omega
          have hminA : min k n1 = k := by omega
          have hminA2 : min (k + 1) n1 = k + 1 := by omega
          obtain ⟨b1, off1, rfl, hb1, d0, d1, d2, d3, d4, d5⟩ := StIn.cells hI1.out hB hk1
          have hsa : Hid _ := step_any S R w.heap.size vs vr (runF X st1 k) (st1 k) wr (by have := hrr.out.1.a; rw [hminA] at this; exact this) (hI1.out.2.1 k hk1) (fun W hb => (hL1.out k hk1).below (hB.trans hb) (Nat.le_refl _)) (by have := hZ1.out k hk1; have := hlen1.out k (by omega); omega)
          go_wp2_with fail
          refine Calls.mono hsa.out ?_
          rintro e w6 ⟨rfl, vs', vr', hT6, hB6, hF6⟩
          have hq6 : Hid (QS S R T Q w.heap.size vs' vr' vt vq (runF X st1 (min (k + 1) n1)) (runF X st2 (min k n2)) w6 ∧ Below w.heap.size w w6) := ⟨by rw [hminA2]; exact hrr.out.1.stepA hT6 hF6, hB.trans hB6⟩
          have hBx := hq6.out.2
          clear hsa d0 d1 d2 d3 d4 d5 hT6 hB6 hF6 hminA hminA2
          by_cases hk2 : k < n2
          · have hkb : (k : Int) < (n2 : Int) := by omega
            have hminB : min k n2 = k := by omega
            have hminB2 : min (k + 1) n2 = k + 1 := by omega
            obtain ⟨b2, off2, rfl, hb2, f0, f1, f2, f3, f4, f5⟩ := StIn.cells hI2.out hBx hk2
            have hsb : Hid _ := step_any T Q w.heap.size vt vq (runF X st2 k) (st2 k) w6 (by have := hq6.out.1.b; rw [hminB] at this; exact this) (hI2.out.2.1 k hk2) (fun W hb => (hL2.out k hk2).below (hBx.trans hb) (Nat.le_refl _)) (by have := hZ2.out k hk2; have := hlen2.out k (by omega); omega)
            go_wp2_with fail
            refine Calls.mono hsb.out ?_
            rintro e w7 ⟨rfl, vt', vq', hT7, hB7, hF7⟩
            have hq7 : Hid (QS S R T Q w.heap.size vs' vr' vt' vq' (runF X st1 (min (k + 1) n1)) (runF X st2 (min (k + 1) n2)) w7 ∧ Below w.heap.size w w7) := ⟨by rw [hminB2]; exact hq6.out.1.stepB hT7 hF7, hBx.trans hB7⟩
            clear hsb f0 f1 f2 f3 f4 f5 hT7 hB7 hF7 hminB hminB2
            go_wp2_with fail
            go_roundw
            case rel => exact ⟨k + 1, vs', vr', vt', vq', by omega, by go_num, hq7.out⟩
            case measure => simp [intOf]; omega
          · have hkb : ¬ (k : Int) < (n2 : Int) := by omega
            have hq7 : Hid (QS S R T Q w.heap.size vs' vr' vt vq (runF X st1 (min (k + 1) n1)) (runF X st2 (min (k + 1) n2)) w6 ∧ Below w.heap.size w w6) := by
              rw [show min (k + 1) n2 = min k n2 by omega]; exact hq6.out
            clear hq6 hBx
            go_wp2_with fail
            go_roundw
            case rel => exact ⟨k + 1, vs', vr', vt, vq, by omega, by go_num, hq7.out⟩
            case measure => simp [intOf]; omega
        · have hka : ¬ (k : Int) < (n1 : Int) := by omega
          by_cases hk2 : k < n2
          · have hkb : (k : Int) < (n2 : Int) := by omega
            have hminB : min k n2 = k := by omega
            have hminB2 : min (k + 1) n2 = k + 1 := by omega
            obtain ⟨b2, off2, rfl, hb2, f0, f1, f2, f3, f4, f5⟩ := StIn.cells hI2.out hB hk2
            have hsb : Hid _ := step_any T Q w.heap.size vt vq (runF X st2 k) (st2 k) wr (by have := hrr.out.1.b; rw [hminB] at this; exact this) (hI2.out.2.1 k hk2) (fun W hb => (hL2.out k hk2).below (hB.trans hb) (Nat.le_refl _)) (by have := hZ2.out k hk2; have := hlen2.out k (by omega); omega)
            go_wp2_with fail
            refine Calls.mono hsb.out ?_
            rintro e w7 ⟨rfl, vt', vq', hT7, hB7, hF7⟩
            have hq7 : Hid (QS S R T Q w.heap.size vs vr vt' vq' (runF X st1 (min k n1)) (runF X st2 (min (k + 1) n2)) w7 ∧ Below w.heap.size w w7) := ⟨by rw [hminB2]; exact hrr.out.1.stepB hT7 hF7, hB.trans hB7⟩
            clear hsb f0 f1 f2 f3 f4 f5 hT7 hB7 hF7 hminB hminB2
            have hq8 : Hid (QS S R T Q w.heap.size vs vr vt' vq' (runF X st1 (min (k + 1) n1)) (runF X st2 (min (k + 1) n2)) w7 ∧ Below w.heap.size w w7) := by
              rw [show min (k + 1) n1 = min k n1 by omega]; exact hq7.out
            clear hq7
            go_wp2_with fail
            go_roundw
            case rel => exact ⟨k + 1, vs, vr, vt', vq', by omega, by go_num, hq8.out⟩
            case measure => simp [intOf]; omega
          · have hkb : ¬ (k : Int) < (n2 : Int) := by omega
            have hW0 : Below wr.heap.size wr (wr.alloc (.cells #[] 36)) := (Below.refl _ wr).alloc (Nat.le_refl _) _
            have hsl : ∀ {a n st} (h : StIn w a n st) (W : World), Below w.heap.size w W → SLn W a (stL st n) := fun h W hb => (h.below hb).sln
            obtain ⟨v6, w6, r6, o6, b6⟩ := app_genS (wr.alloc (.cells #[] 36)) wr.heap.size (.slice (some ⟨wr.heap.size, 0, none⟩) 0 0) [] (stL st0 n0) (Or.inr ⟨rfl, _, rfl, Nat.le_refl _, by simp⟩) (by simp) a0 c0 (hsl hI0.out _ (hB.trans (hW0.mono hB.size))) (by rw [stL_len]; simp; omega)
            have b06 : Below wr.heap.size wr w6 := hW0.trans b6
            obtain ⟨v7, w7, r7, o7, b7⟩ := app_genS w6 wr.heap.size v6 _ (stL st1 n1) o6 b06.size a1 c1 (hsl hI1.out _ (hB.trans (b06.mono hB.size))) (by simp [stL_len]; omega)
            have b07 : Below wr.heap.size wr w7 := b06.trans b7
            obtain ⟨v8, w8, r8, o8, b8⟩ := app_genS w7 wr.heap.size v7 _ (stL st2 n2) o7 b07.size a2 c2 (hsl hI2.out _ (hB.trans (b07.mono hB.size))) (by simp [stL_len]; omega)
            have b08 : Below wr.heap.size wr w8 := b07.trans b8
            rw [stL_len] at r6 r7 r8
            have r6H : Hid (∀ W, W = (wr.alloc (.cells #[] 36)) → (Builtin.append_ #[22, 22] 22 #[.slice (some ⟨wr.heap.size, 0, none⟩) 0 0, .slice a0 n0 c0]).run Try.prog W = .ok v6 w6) := fun W e => by rw [e]; exact r6
            have r7H : Hid (∀ W, W = w6 → (Builtin.append_ #[22, 22] 22 #[v6, .slice a1 n1 c1]).run Try.prog W = .ok v7 w7) := fun W e => by rw [e]; exact r7
            have r8H : Hid (∀ W, W = w7 → (Builtin.append_ #[22, 22] 22 #[v7, .slice a2 n2 c2]).run Try.prog W = .ok v8 w8) := fun W e => by rw [e]; exact r8
            obtain ⟨F, hF⟩ : ∃ F, F = [] ++ stL st0 n0 ++ stL st1 n1 ++ stL st2 n2 := ⟨_, rfl⟩
            rw [← hF] at o8
            have hB08 : Below w.heap.size w w8 := hB.trans (b08.mono hB.size)
            have hFm : ∀ s ∈ F, s.ok ∧ LIn w8 s.la s.ls ∧ s.ls.length ≤ 1048576 := by
              intro s hs
              rw [hF] at hs
              simp only [List.nil_append, List.mem_append, stL, List.mem_map, List.mem_range] at hs
              rcases hs with (⟨i, hi, rfl⟩ | ⟨i, hi, rfl⟩) | ⟨i, hi, rfl⟩
              · exact ⟨hI0.out.2.1 i hi, (hL0.out i hi).below hB08 (Nat.le_refl _), hZ0.out i hi⟩
              · exact ⟨hI1.out.2.1 i hi, (hL1.out i hi).below hB08 (Nat.le_refl _), hZ1.out i hi⟩
              · exact ⟨hI2.out.2.1 i hi, (hL2.out i hi).below hB08 (Nat.le_refl _), hZ2.out i hi⟩
            have hFl : F.length = n0 + n1 + n2 := by rw [hF]; simp [stL_len]; omega
            obtain ⟨av, cv, hv8, hS8⟩ := o8.stin (by omega) (fun s hs => (hFm s hs).1)
            have hnm : Hid _ := named_any av F.length cv _ w8 hS8 (fun i hi => by
              have hm : F.getD i default ∈ F := by rw [List.getD_eq_getElem?_getD, List.getElem?_eq_getElem hi]; exact List.getElem_mem hi
              exact ⟨(hFm _ hm).2.1, by have := (hFm _ hm).2.2; omega⟩)
            have hq8 : Hid (QS S R T Q w.heap.size vs vr vt vq (runF X st1 (min k n1)) (runF X st2 (min k n2)) w8) := hrr.out.1.below b08
            rw [← hv8] at hnm
            clear hsl r6 r7 r8 o6 o7 o8 b6 b7 b8 b06 b07 b08 hF hFm hS8 hv8 hrr hB hW0
            go_wp2_with (at_builtin; first | (refine wpList_append_run (by rfl) _ _ _ (by rfl) _ _ _ _ (by rfl) (by rfl) (r6H.out _ rfl) ?_) | (refine wpList_append_run (by rfl) _ _ _ (by rfl) _ _ _ _ (by rfl) (by rfl) (r7H.out _ rfl) ?_) | (refine wpList_append_run (by rfl) _ _ _ (by rfl) _ _ _ _ (by rfl) (by rfl) (r8H.out _ rfl) ?_))
            refine Calls.mono hnm.out ?_
            rintro e w9 ⟨v, tl, rfl, hTO, hB9, htl⟩
            have hTOH : Hid (TO w9 w8.heap.size v tl) := hTO
            have hq9 : Hid (QS S R T Q w.heap.size vs vr vt vq (runF X st1 (min k n1)) (runF X st2 (min k n2)) w9) := hq8.out.below hB9
            have hB09 : Below w.heap.size w w9 := hB08.trans (hB9.mono hB08.size)
            have hal : Hid _ := alike_any S R w.heap.size vs vr _ w8.heap.size v tl w9 hq9.out.a hTOH.out (by omega)
            clear hnm hTO hB9 hq8 hB08
            go_wp2_with fail
            refine Calls.mono hal.out ?_
            rintro e w10 ⟨rfl, hB10⟩
            have hB010 : Below w.heap.size w w10 := hB09.trans (hB10.mono hB09.size)
            have hal2 : Hid _ := alike_any T Q w.heap.size vt vq _ w8.heap.size v tl w10 (hq9.out.below hB10).b (hTOH.out.keep (fun g e => hB10.block g (hTOH.out.lt e).2)) (by omega)
            clear hal hB10 hq9 hB09 hTOH
            go_wp2_with fail
            refine Calls.mono hal2.out ?_
            rintro e w11 ⟨rfl, hB11⟩
            go_wp2_with fail
            go_ret
            exact ⟨rfl, hB010.trans (hB11.mono hB010.size)⟩
end Go.Proofs.Ytfncgpojoccgfaa

