
import Derived.Test.YtaknjkinagppoaaGreatDoorKzC
import Derived.Test.YtaknjkinagppoaaGreatDoorKyG
namespace Go.Proofs.YtaknjkinagppoaaGreatDoor
open Go.RowKit Go.Shelf
set_option linter.unusedVariables false
set_option linter.unusedSimpArgs false
def RT (w : World) (a : Option Addr) (n c : Nat) (sf : ByteArray) (W : World) : Prop := W.cell? ⟨w.heap.size, 1, none⟩ = some (.slice a n c) ∧ W.cell? ⟨w.heap.size, 2, none⟩ = some (.string sf) ∧ w.heap.size + 1 < W.heap.size ∧ BdAt W (w.heap.size + 1) ∧ Below w.heap.size w W
theorem RT.below {w W W' : World} {a : Option Addr} {n c : Nat} {sf : ByteArray} (h : RT w a n c sf W) (hb : Below W.heap.size W W') : RT w a n c sf W' := by
  obtain ⟨h1, h2, h3, h4, h5⟩ := h
  refine ⟨?_, ?_, Nat.lt_of_lt_of_le h3 hb.size, h4.below hb, h5.trans (hb.mono h5.size)⟩
  · rw [hb.cell (p := ⟨w.heap.size, 1, none⟩) (show w.heap.size < _ by omega)]; exact h1
  · rw [hb.cell (p := ⟨w.heap.size, 2, none⟩) (show w.heap.size < _ by omega)]; exact h2
theorem RT.alloc {w W : World} {a : Option Addr} {n c : Nat} {sf : ByteArray} (h : RT w a n c sf W) (o : Obj) : RT w a n c sf (W.alloc o) := h.below ((Below.refl _ W).alloc (Nat.le_refl _) o)
set_option maxRecDepth 100000 in
set_option maxHeartbeats 8000000 in
theorem rrightS_any (a : Option Addr) (c : Nat) (s : SerP) (w : World) (ha : SerIn w a s) :
    Calls Tryz.prog 17 #[.agg #[.string s.m, .slice a s.t.length c, .string s.f]] w fun e w' => e = .returned (bdV (rightN s)) ∧ Below w.heap.size w w' := by
  obtain ⟨sm, st, sf⟩ := s
  obtain ⟨ha, hl⟩ := ha
  simp only at ha hl ⊢
  have T0 : RT w a st.length c sf ((w.alloc (.cells #[.string sm, .slice a st.length c, .string sf] 24)).alloc bdO) := by
    have hN := BdAt.new (w.alloc (.cells #[.string sm, .slice a st.length c, .string sf] 24))
    rw [show (w.alloc (.cells #[.string sm, .slice a st.length c, .string sf] 24)).heap.size = w.heap.size + 1 by simp] at hN
    refine ⟨?_, ?_, by simp, hN, ((Below.refl _ w).alloc (Nat.le_refl _) _).alloc (by simp) _⟩ <;> simp [go_sem, bdO]
  unfold bdO at T0
  have cN : Hid (∀ W, Calls Tryz.prog 31 #[.string sm] W fun e w' => e = .returned (bdV (if cleanB sm 64 then 0 else 50)) ∧ Below W.heap.size W w') := rname_any sm
  have cT : Hid (∀ W, Below w.heap.size w W → Calls Tryz.prog 32 #[.slice a st.length c] W fun e w' => e = .returned (bdV (if tagsB st then 0 else 52)) ∧ Below W.heap.size W w') := fun W hW => rtags_any a st c W hl (ha.below hW)
  have cW : Hid (∀ W, Calls Tryz.prog 33 #[.string sf] W fun e w' => e = .returned (.bool (columnB sf)) ∧ w' = W) := rword_is sf
  unfold rightN
  simp only
  generalize cleanB sm 64 = p at cN ⊢
  generalize tagsB st = q at cT ⊢
  generalize columnB sf = r at cW ⊢
  generalize st.length = n at *
  clear ha
  go_enter Tryz.func17, Tryz.ntmps17
  go_wp2_with fail
  generalize (w.alloc (.cells #[.string sm, .slice a n c, .string sf] 24)).alloc (.cells #[.int .i64 0, .int .i64 0, .int .i64 0, .bool false, .bool false] 31) = w0 at *
  refine Calls.mono (cN.out _) ?_
  rintro e w1 ⟨rfl, B1⟩
  have T1 := T0.below B1
  clear T0 B1 cN
  cases p with
  | false =>
    simp only [bdV, Bool.false_eq_true, if_false, if_true]
    have hn1 : ¬ w.heap.size + 1 = w1.heap.size := by have := T1.2.2.1; omega
    have hn2 : ¬ w.heap.size = w1.heap.size := by have := T1.2.2.1; omega
    have hq1 : w.heap.size + 1 < w1.heap.size := T1.2.2.1
    have hq2 : w.heap.size < w1.heap.size := by omega
    obtain ⟨_, _, _, ⟨_, b1, b2, b3, b4, b5, g0⟩, P1⟩ := T1
    have g1 := g0 0
    have g2 := g0 1
    have g3 := g0 2
    have g4 := g0 3
    have g5 := g0 4
    clear g0
    go_wp2_with fail
    simp [bodyPost, results, Tryz.results17, go_sem, b1, b2, b3, b4, b5, hn1, hn2, hq1, hq2]
    exact ⟨rfl, (setBad P1 (Nat.le_succ _)).alloc (by simp; omega) _⟩
  | true =>
    simp only [bdV, Bool.false_eq_true, if_false, if_true]
    obtain ⟨x1, x2, x3, x4, x5⟩ := T1
    have T1 : RT w a n c sf w1 := ⟨x1, x2, x3, x4, x5⟩
    have hn1 : ¬ w.heap.size + 1 = w1.heap.size := by have := T1.2.2.1; omega
    have hn2 : ¬ w.heap.size = w1.heap.size := by have := T1.2.2.1; omega
    have hq1 : w.heap.size + 1 < w1.heap.size := T1.2.2.1
    have hq2 : w.heap.size < w1.heap.size := by omega
    go_wp2_with fail
    have T2 := T1.alloc (.cells #[.int .i64 0, .int .i64 0, .int .i64 0, .bool false, .bool false] 31)
    generalize w1.alloc (.cells #[.int .i64 0, .int .i64 0, .int .i64 0, .bool false, .bool false] 31) = w1' at *
    refine Calls.mono (cT.out _ T2.2.2.2.2) ?_
    rintro e w2 ⟨rfl, B2⟩
    have T3 := T2.below B2
    clear T1 T2 B2 x1 x2 x3 x4 x5 hn1 hn2 hq1 hq2 cT
    have hn1 : ¬ w.heap.size + 1 = w2.heap.size := by have := T3.2.2.1; omega
    have hn2 : ¬ w.heap.size = w2.heap.size := by have := T3.2.2.1; omega
    have hq1 : w.heap.size + 1 < w2.heap.size := T3.2.2.1
    have hq2 : w.heap.size < w2.heap.size := by omega
    cases q with
    | false =>
      simp only [bdV, Bool.false_eq_true, if_false, if_true]
      obtain ⟨_, _, _, ⟨_, b1, b2, b3, b4, b5, g0⟩, P1⟩ := T3
      have g1 := g0 0
      have g2 := g0 1
      have g3 := g0 2
      have g4 := g0 3
      have g5 := g0 4
      clear g0
      go_wp2_with fail
      simp [bodyPost, results, Tryz.results17, go_sem, b1, b2, b3, b4, b5, hn1, hn2, hq1, hq2]
      exact ⟨rfl, (setBad P1 (Nat.le_succ _)).alloc (by simp; omega) _⟩
    | true =>
      simp only [bdV, Bool.false_eq_true, if_false, if_true]
      obtain ⟨x1, x2, x3, x4, x5⟩ := T3
      have T3 : RT w a n c sf w2 := ⟨x1, x2, x3, x4, x5⟩
      go_wp2_with fail
      have T4 := T3.alloc (.cells #[.int .i64 0, .int .i64 0, .int .i64 0, .bool false, .bool false] 31)
      generalize w2.alloc (.cells #[.int .i64 0, .int .i64 0, .int .i64 0, .bool false, .bool false] 31) = w2' at *
      refine Calls.mono (cW.out _) ?_
      rintro e w3 ⟨rfl, rfl⟩
      clear T3 x1 x2 x3 x4 x5 hn1 hn2 hq1 hq2 cW
      cases r with
      | true =>
        simp only [if_true]
        obtain ⟨_, _, _, ⟨_, b1, b2, b3, b4, b5, g0⟩, P1⟩ := T4
        have g1 := g0 0
        have g2 := g0 1
        have g3 := g0 2
        have g4 := g0 3
        have g5 := g0 4
        clear g0
        go_wp2_with fail
        simp [bodyPost, results, Tryz.results17, go_sem, b1, b2, b3, b4, b5]
        exact ⟨rfl, setBad P1 (Nat.le_succ _)⟩
      | false =>
        simp only [Bool.false_eq_true, if_false]
        go_wp2_with fail
        refine Calls.mono (rnew_any 50 _) ?_
        rintro e w4 ⟨rfl, B4⟩
        have T5 := T4.below B4
        clear T4 B4
        simp only [bdV]
        obtain ⟨_, _, _, ⟨_, b1, b2, b3, b4, b5, g0⟩, P1⟩ := T5
        have g1 := g0 0
        have g2 := g0 1
        have g3 := g0 2
        have g4 := g0 3
        have g5 := g0 4
        clear g0
        go_wp2_with fail
        simp [bodyPost, results, Tryz.results17, go_sem, b1, b2, b3, b4, b5]
        exact ⟨rfl, setBad P1 (Nat.le_succ _)⟩
end Go.Proofs.YtaknjkinagppoaaGreatDoor
