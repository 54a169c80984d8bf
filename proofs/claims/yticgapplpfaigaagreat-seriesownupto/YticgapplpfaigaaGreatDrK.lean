
import Derived.Test.YticgapplpfaigaaGreatDrJ
import Derived.Test.YticgapplpfaigaaGreatSrW
namespace Go.Proofs.YticgapplpfaigaaGreat
open Go.RowKit
set_option linter.unusedVariables false
set_option linter.unusedSimpArgs false
theorem XC.other {xb G : Nat} {s u : Smp} {w : World} (h : XC xb s w) (hne : xb ≠ G) : XC xb s (((w.setCell ⟨G, 0, none⟩ (.int .i64 u.t)).setCell ⟨G, 1, none⟩ (.int .u8 (u.k : Int))).setCell ⟨G, 2, none⟩ (.int .i64 u.x)) :=
  h.keep (by rw [Below.heap_setCell _ _ _ _ hne, Below.heap_setCell _ _ _ _ hne, Below.heap_setCell _ _ _ _ hne])
theorem XC.new (w : World) (s : Smp) : XC w.heap.size s (w.alloc (.cells #[.int .i64 s.t, .int .u8 (s.k : Int), .int .i64 s.x] 89)) :=
  ⟨by simp [go_sem], by simp [go_sem], by simp [go_sem], frozen_new _ _ _ _, frozen_new _ _ _ _, frozen_new _ _ _ _⟩
/-- four samples, each in a block of its own, and all else as it was. -/
structure Y4 (H1 H2 H3 H4 : Nat) (s1 s2 s3 s4 : Smp) (w w' : World) : Prop where
  z1 : XC H1 s1 w'
  z2 : XC H2 s2 w'
  z3 : XC H3 s3 w'
  z4 : XC H4 s4 w'
  k1 : H1 < w'.heap.size
  k2 : H2 < w'.heap.size
  k3 : H3 < w'.heap.size
  k4 : H4 < w'.heap.size
  b : Below w.heap.size w w'
  h1 : w.heap.size ≤ H1
  h2 : H1 < H2
  h3 : H2 < H3
  h4 : H3 < H4
variable {H1 H2 H3 H4 : Nat} {s1 s2 s3 s4 : Smp} {w w' w'' : World}
theorem Y4.below (h : Y4 H1 H2 H3 H4 s1 s2 s3 s4 w w') (hB : Below w'.heap.size w' w'') : Y4 H1 H2 H3 H4 s1 s2 s3 s4 w w'' :=
  ⟨h.z1.keep (hB.block _ h.k1), h.z2.keep (hB.block _ h.k2), h.z3.keep (hB.block _ h.k3), h.z4.keep (hB.block _ h.k4), Nat.lt_of_lt_of_le h.k1 hB.size, Nat.lt_of_lt_of_le h.k2 hB.size, Nat.lt_of_lt_of_le h.k3 hB.size, Nat.lt_of_lt_of_le h.k4 hB.size, h.b.trans (hB.mono h.b.size), h.h1, h.h2, h.h3, h.h4⟩
theorem Y4.put1 (h : Y4 H1 H2 H3 H4 s1 s2 s3 s4 w w') (u : Smp) : Y4 H1 H2 H3 H4 u s2 s3 s4 w (((w'.setCell ⟨H1, 0, none⟩ (.int .i64 u.t)).setCell ⟨H1, 1, none⟩ (.int .u8 (u.k : Int))).setCell ⟨H1, 2, none⟩ (.int .i64 u.x)) := by
  have hG : w.heap.size ≤ H1 := by have := h.h1; have := h.h2; have := h.h3; have := h.h4; omega
  exact ⟨h.z1.lay u, h.z2.other (by have := h.h2; have := h.h3; have := h.h4; omega), h.z3.other (by have := h.h2; have := h.h3; have := h.h4; omega), h.z4.other (by have := h.h2; have := h.h3; have := h.h4; omega), by simpa using h.k1, by simpa using h.k2, by simpa using h.k3, by simpa using h.k4, ((h.b.setCell (p := ⟨H1, 0, none⟩) hG _).setCell (p := ⟨H1, 1, none⟩) hG _).setCell (p := ⟨H1, 2, none⟩) hG _, h.h1, h.h2, h.h3, h.h4⟩
theorem Y4.put2 (h : Y4 H1 H2 H3 H4 s1 s2 s3 s4 w w') (u : Smp) : Y4 H1 H2 H3 H4 s1 u s3 s4 w (((w'.setCell ⟨H2, 0, none⟩ (.int .i64 u.t)).setCell ⟨H2, 1, none⟩ (.int .u8 (u.k : Int))).setCell ⟨H2, 2, none⟩ (.int .i64 u.x)) := by
  have hG : w.heap.size ≤ H2 := by have := h.h1; have := h.h2; have := h.h3; have := h.h4; omega
  exact ⟨h.z1.other (by have := h.h2; have := h.h3; have := h.h4; omega), h.z2.lay u, h.z3.other (by have := h.h2; have := h.h3; have := h.h4; omega), h.z4.other (by have := h.h2; have := h.h3; have := h.h4; omega), by simpa using h.k1, by simpa using h.k2, by simpa using h.k3, by simpa using h.k4, ((h.b.setCell (p := ⟨H2, 0, none⟩) hG _).setCell (p := ⟨H2, 1, none⟩) hG _).setCell (p := ⟨H2, 2, none⟩) hG _, h.h1, h.h2, h.h3, h.h4⟩
theorem Y4.put3 (h : Y4 H1 H2 H3 H4 s1 s2 s3 s4 w w') (u : Smp) : Y4 H1 H2 H3 H4 s1 s2 u s4 w (((w'.setCell ⟨H3, 0, none⟩ (.int .i64 u.t)).setCell ⟨H3, 1, none⟩ (.int .u8 (u.k : Int))).setCell ⟨H3, 2, none⟩ (.int .i64 u.x)) := by
  have hG : w.heap.size ≤ H3 := by have := h.h1; have := h.h2; have := h.h3; have := h.h4; omega
  exact ⟨h.z1.other (by have := h.h2; have := h.h3; have := h.h4; omega), h.z2.other (by have := h.h2; have := h.h3; have := h.h4; omega), h.z3.lay u, h.z4.other (by have := h.h2; have := h.h3; have := h.h4; omega), by simpa using h.k1, by simpa using h.k2, by simpa using h.k3, by simpa using h.k4, ((h.b.setCell (p := ⟨H3, 0, none⟩) hG _).setCell (p := ⟨H3, 1, none⟩) hG _).setCell (p := ⟨H3, 2, none⟩) hG _, h.h1, h.h2, h.h3, h.h4⟩
theorem Y4.put4 (h : Y4 H1 H2 H3 H4 s1 s2 s3 s4 w w') (u : Smp) : Y4 H1 H2 H3 H4 s1 s2 s3 u w (((w'.setCell ⟨H4, 0, none⟩ (.int .i64 u.t)).setCell ⟨H4, 1, none⟩ (.int .u8 (u.k : Int))).setCell ⟨H4, 2, none⟩ (.int .i64 u.x)) := by
  have hG : w.heap.size ≤ H4 := by have := h.h1; have := h.h2; have := h.h3; have := h.h4; omega
  exact ⟨h.z1.other (by have := h.h2; have := h.h3; have := h.h4; omega), h.z2.other (by have := h.h2; have := h.h3; have := h.h4; omega), h.z3.other (by have := h.h2; have := h.h3; have := h.h4; omega), h.z4.lay u, by simpa using h.k1, by simpa using h.k2, by simpa using h.k3, by simpa using h.k4, ((h.b.setCell (p := ⟨H4, 0, none⟩) hG _).setCell (p := ⟨H4, 1, none⟩) hG _).setCell (p := ⟨H4, 2, none⟩) hG _, h.h1, h.h2, h.h3, h.h4⟩
set_option maxRecDepth 100000 in
set_option maxHeartbeats 4000000 in
theorem alike_any (S R B : Nat) (vs vr : Value) (X : List Smp) (C : Nat) (v : Value) (tl : List Int) (w : World) (hTT : TW S R B vs vr X X w) (h : TO w C v tl) (hn : tl.length ≤ 13194139533316) : Calls Tryz.prog 16 #[.pointer (some ⟨S, 0, none⟩), .pointer (some ⟨R, 0, none⟩), v] w fun e w' => e = .returned (.bool true) ∧ Below w.heap.size w w' := by
  have hT : Hid (TW S R B vs vr X X w) := hTT
  clear hTT
  have kF1 : Hid (∀ W, Below w.heap.size w W → Calls Tryz.prog 68 #[.pointer (some ⟨S, 0, none⟩)] W fun e w' => e = .returned (.tuple #[.agg #[.int .i64 (numV X (0)).1.t, .int .u8 ((numV X (0)).1.k : Int), .int .i64 (numV X (0)).1.x], .bool (numV X (0)).2]) ∧ Below W.heap.size W w') := fun W hb => first_any S B vs X W (hT.out.s.below hb)
  have kF2 : Hid (∀ W, Below w.heap.size w W → Calls Tryz.prog 69 #[.pointer (some ⟨R, 0, none⟩)] W fun e w' => e = .returned (.tuple #[.agg #[.int .i64 (numV X (0)).1.t, .int .u8 ((numV X (0)).1.k : Int), .int .i64 (numV X (0)).1.x], .bool (numV X (0)).2]) ∧ Below W.heap.size W w') := fun W hb => rfirst_any R B vr X W (hT.out.r.below hb)
  have kL1 : Hid (∀ W, Below w.heap.size w W → Calls Tryz.prog 70 #[.pointer (some ⟨S, 0, none⟩)] W fun e w' => e = .returned (.tuple #[.agg #[.int .i64 (numV X ((X.length : Int) - 1)).1.t, .int .u8 ((numV X ((X.length : Int) - 1)).1.k : Int), .int .i64 (numV X ((X.length : Int) - 1)).1.x], .bool (numV X ((X.length : Int) - 1)).2]) ∧ Below W.heap.size W w') := fun W hb => last_any S B vs X W (hT.out.s.below hb)
  have kL2 : Hid (∀ W, Below w.heap.size w W → Calls Tryz.prog 71 #[.pointer (some ⟨R, 0, none⟩)] W fun e w' => e = .returned (.tuple #[.agg #[.int .i64 (numV X ((X.length : Int) - 1)).1.t, .int .u8 ((numV X ((X.length : Int) - 1)).1.k : Int), .int .i64 (numV X ((X.length : Int) - 1)).1.x], .bool (numV X ((X.length : Int) - 1)).2]) ∧ Below W.heap.size W w') := fun W hb => rlast_any R B vr X W (hT.out.r.below hb)
  have kB1 : Hid (∀ W t, Below w.heap.size w W → Calls Tryz.prog 73 #[.pointer (some ⟨S, 0, none⟩), .int .i64 t] W fun e w' => e = .returned (.tuple #[.agg #[.int .i64 (numV X ((ahd X t : Int) - 1)).1.t, .int .u8 ((numV X ((ahd X t : Int) - 1)).1.k : Int), .int .i64 (numV X ((ahd X t : Int) - 1)).1.x], .bool (numV X ((ahd X t : Int) - 1)).2]) ∧ Below W.heap.size W w') := fun W t hb => before_any S B vs X t W (hT.out.s.below hb)
  have kB2 : Hid (∀ W t, Below w.heap.size w W → Calls Tryz.prog 74 #[.pointer (some ⟨R, 0, none⟩), .int .i64 t] W fun e w' => e = .returned (.tuple #[.agg #[.int .i64 (numV X ((ahd X t : Int) - 1)).1.t, .int .u8 ((numV X ((ahd X t : Int) - 1)).1.k : Int), .int .i64 (numV X ((ahd X t : Int) - 1)).1.x], .bool (numV X ((ahd X t : Int) - 1)).2]) ∧ Below W.heap.size W w') := fun W t hb => rbefore_any R B vr X t W (hT.out.r.below hb)
  have kN1 : Hid (∀ W t, Below w.heap.size w W → Calls Tryz.prog 75 #[.pointer (some ⟨S, 0, none⟩), .int .i64 t] W fun e w' => e = .returned (.tuple #[.agg #[.int .i64 (numV X ((ahd X t : Int))).1.t, .int .u8 ((numV X ((ahd X t : Int))).1.k : Int), .int .i64 (numV X ((ahd X t : Int))).1.x], .bool (numV X ((ahd X t : Int))).2]) ∧ Below W.heap.size W w') := fun W t hb => behind_any S B vs X t W (hT.out.s.below hb)
  have kN2 : Hid (∀ W t, Below w.heap.size w W → Calls Tryz.prog 76 #[.pointer (some ⟨R, 0, none⟩), .int .i64 t] W fun e w' => e = .returned (.tuple #[.agg #[.int .i64 (numV X ((ahd X t : Int))).1.t, .int .u8 ((numV X ((ahd X t : Int))).1.k : Int), .int .i64 (numV X ((ahd X t : Int))).1.x], .bool (numV X ((ahd X t : Int))).2]) ∧ Below W.heap.size W w') := fun W t hb => rbehind_any R B vr X t W (hT.out.r.below hb)
  have kG1 : Hid (∀ W t, Below w.heap.size w W → Calls Tryz.prog 19 #[.pointer (some ⟨S, 0, none⟩), .int .i64 t] W fun e w' => e = .returned (.tuple #[.agg #[.int .u8 ((getV X t).1 : Int), .int .i64 (getV X t).2], .bool (hasT X t)]) ∧ Below W.heap.size W w') := fun W t hb => get_any S B vs X t W (hT.out.s.below hb)
  have kG2 : Hid (∀ W t, Below w.heap.size w W → Calls Tryz.prog 33 #[.pointer (some ⟨R, 0, none⟩), .int .i64 t] W fun e w' => e = .returned (.tuple #[.agg #[.int .u8 ((getV X t).1 : Int), .int .i64 (getV X t).2], .bool (hasT X t)]) ∧ Below W.heap.size W w') := fun W t hb => rget_any R B vr X t W (hT.out.r.below hb)
  have kC1 : Hid (∀ W, Below w.heap.size w W → Calls Tryz.prog 20 #[.pointer (some ⟨S, 0, none⟩)] W fun e w' => e = .returned (.int .i64 (X.length : Int)) ∧ w' = W) := fun W hb => len_any S B vs X W (hT.out.s.below hb)
  have kC2 : Hid (∀ W, Below w.heap.size w W → Calls Tryz.prog 72 #[.pointer (some ⟨R, 0, none⟩)] W fun e w' => e = .returned (.int .i64 (X.length : Int)) ∧ w' = W) := fun W hb => rlen_any R B vr X W (hT.out.r.below hb)
  have hXl : X.length ≤ 2199023255552 := hT.out.s.hn
  generalize numV X 0 = PF at kF1 kF2
  generalize numV X ((X.length : Int) - 1) = PL at kL1 kL2
  generalize hXn : X.length = xn at kC1 kC2 hXl
  clear hXn
  obtain ⟨pf, bf⟩ := PF
  obtain ⟨pl, bl⟩ := PL
  go_enter Tryz.func16, Tryz.ntmps16
  go_wp2_with fail
  refine Calls.mono (kF1.out _ (Below.refl _ _)) ?_
  rintro e w1 ⟨rfl, hB1⟩
  have a1 := XC.new w1 pf
  have hB1a : Below w.heap.size w (w1.alloc (.cells #[.int .i64 pf.t, .int .u8 (pf.k : Int), .int .i64 pf.x] 89)) := hB1.alloc hB1.size _
  go_wp2_with fail
  refine Calls.mono (kF2.out _ hB1a) ?_
  rintro e w2 ⟨rfl, hB2⟩
  have hk1 : w1.heap.size < w2.heap.size := by have := hB2.size; simp at this; omega
  have a2 := a1.keep (hB2.block _ (by simp))
  have hB02 : Below w.heap.size w w2 := hB1a.trans (hB2.mono hB1a.size)
  have b2 := XC.new w2 pf
  have hB2a : Below w.heap.size w (w2.alloc (.cells #[.int .i64 pf.t, .int .u8 (pf.k : Int), .int .i64 pf.x] 89)) := hB02.alloc hB02.size _
  have hs1 := hB1.size
  clear a1 hB1 hB2 hB1a kF1 kF2
  go_wp2_with fail
  refine Calls.mono (kL1.out _ hB2a) ?_
  rintro e w3 ⟨rfl, hB3⟩
  have hk2 : w2.heap.size < w3.heap.size := by have := hB3.size; simp at this; omega
  have hb23 : Below w2.heap.size w2 w3 := alloc_below hB3
  have a3 := a2.keep (hb23.block _ hk1)
  have b3 := b2.keep (hB3.block _ (by simp))
  have hB03 : Below w.heap.size w w3 := hB2a.trans (hB3.mono hB2a.size)
  have c3 := XC.new w3 pl
  have hB3a : Below w.heap.size w (w3.alloc (.cells #[.int .i64 pl.t, .int .u8 (pl.k : Int), .int .i64 pl.x] 89)) := hB03.alloc hB03.size _
  clear a2 b2 hB3 hB02 hB2a hb23
  go_wp2_with fail
  refine Calls.mono (kL2.out _ hB3a) ?_
  rintro e w4 ⟨rfl, hB4⟩
  have hk3 : w3.heap.size < w4.heap.size := by have := hB4.size; simp at this; omega
  have hb34 : Below w3.heap.size w3 w4 := alloc_below hB4
  have a4 := a3.keep (hb34.block _ (by omega))
  have b4 := b3.keep (hb34.block _ hk2)
  have c4 := c3.keep (hB4.block _ (by simp))
  have hB04 : Below w.heap.size w w4 := hB3a.trans (hB4.mono hB3a.size)
  have d4 := XC.new w4 pl
  have hb4a : Below w4.heap.size w4 (w4.alloc (.cells #[.int .i64 pl.t, .int .u8 (pl.k : Int), .int .i64 pl.x] 89)) := (Below.refl _ _).alloc (Nat.le_refl _) _
  have hZ5 : Hid (Y4 w1.heap.size w2.heap.size w3.heap.size w4.heap.size pf pf pl pl w (w4.alloc (.cells #[.int .i64 pl.t, .int .u8 (pl.k : Int), .int .i64 pl.x] 89))) := ⟨a4.keep (hb4a.block _ (by omega)), b4.keep (hb4a.block _ (by omega)), c4.keep (hb4a.block _ hk3), d4, by simp; omega, by simp; omega, by simp; omega, by simp, hB04.trans (hb4a.mono hB04.size), hs1, hk1, hk2, hk3⟩
  clear a3 b3 c3 hB4 hB03 hB3a hb34 a4 b4 c4 d4 hb4a hB04 kL1 kL2
  go_wp2_with fail
  refine Calls.mono (kC1.out _ hZ5.out.b) ?_
  rintro e w5 ⟨rfl, hw5⟩
  rw [hw5]
  clear hw5 w5
  go_wp2_with fail
  refine Calls.mono (kC2.out _ hZ5.out.b) ?_
  rintro e w5 ⟨rfl, hw5⟩
  rw [hw5]
  clear hw5 w5 kC1 kC2
  obtain ⟨va, vc, rfl, hvc, hvt⟩ : ∃ va vc, v = .slice va tl.length vc ∧ tl.length ≤ vc ∧ (tl.length = 0 ∨ ∃ b, va = some ⟨b, 0, none⟩ ∧ b < w.heap.size ∧ ∀ i x, tl[i]? = some x → w.cell? ⟨b, i, none⟩ = some (.int .i64 x)) := by
    rcases h.2 with ⟨e, e0⟩ | ⟨g, cap, cur, e1, _, hg, hc, _⟩
    · exact ⟨none, 0, by rw [e, e0], by omega, Or.inl e0⟩
    · refine ⟨some ⟨g, 0, none⟩, cap, e1, hc, Or.inr ⟨g, rfl, (World.ownsRow.lt h g (by rw [e1]; rfl)).2, fun i x hx => ?_⟩⟩
      have := World.ownsRow.cells h (g := g) (by rw [e1]; rfl) i (.int .i64 x) (by unfold encT; rw [List.getElem?_map, hx]; rfl)
      rw [smp_add, Nat.zero_add] at this; exact this
  have hvtH : Hid _ := hvt
  have hlen : Hid (∀ i, i < tl.length → ∃ x, tl[i]? = some x) := fun i hi => ⟨_, List.getElem?_eq_getElem hi⟩
  clear h hvt
  generalize tl.length = n at *
  generalize hw5 : w4.alloc (.cells #[.int .i64 pl.t, .int .u8 (pl.k : Int), .int .i64 pl.x] 89) = w5 at *
  clear hw5
  clear hk1 hk2 hk3 hs1
  generalize w1.heap.size = H1 at *
  generalize w2.heap.size = H2 at *
  generalize w3.heap.size = H3 at *
  generalize w4.heap.size = H4 at *
  obtain ⟨a0, a1, a2, a3, a4, a5⟩ := hZ5.out.z1
  obtain ⟨b0, b1, b2, b3, b4, b5⟩ := hZ5.out.z2
  obtain ⟨c0, c1, c2, c3, c4, c5⟩ := hZ5.out.z3
  obtain ⟨d0, d1, d2, d3, d4, d5⟩ := hZ5.out.z4
  go_wp2_with fail
  clear a0 a1 a2 a3 a4 a5 b0 b1 b2 b3 b4 b5 c0 c1 c2 c3 c4 c5 d0 d1 d2 d3 d4 d5
  go_loopw [8, 10, 12, 14, 15] (fun f g h i k wr => ∃ q : Nat, q ≤ n ∧ k = .int .i64 (q : Int) ∧ Hid (∃ s1 s2 s3 s4, Y4 H1 H2 H3 H4 s1 s2 s3 s4 w wr)) (fun _ _ _ _ k _ => n - (intOf k).toNat)
  case atStart => exact ⟨0, by omega, rfl, ⟨_, _, _, _, hZ5.out⟩⟩
  case round =>
    obtain ⟨q, hq, rfl, hZe⟩ := hrel
    clear hZ5
    obtain ⟨s1, s2, s3, s4, hZ0⟩ := hZe.out
    have hZ : Hid (Y4 H1 H2 H3 H4 s1 s2 s3 s4 w wr) := hZ0
    clear hZ0
    by_cases hqn : q < n
    · have hqI : (q : Int) < (n : Int) := by omega
      have q0 : (0 : Int) ≤ (q : Int) := by omega
      obtain ⟨x, hx⟩ := hlen.out q hqn
      obtain ⟨tb, rfl, htb, hcc⟩ : ∃ b, va = some ⟨b, 0, none⟩ ∧ b < w.heap.size ∧ ∀ i x, tl[i]? = some x → w.cell? ⟨b, i, none⟩ = some (.int .i64 x) := by
        rcases hvtH.out with h0 | h1
        · omega
        · exact h1
      have t1 := (hZ.out.b.cell (p := ⟨tb, q, none⟩) htb).trans (hcc q x hx)
      clear hx
      have g1 := fun W hW => kG1.out W x hW
      have g2 := fun W hW => kG2.out W x hW
      have b1 := fun W hW => kB1.out W x hW
      have b2 := fun W hW => kB2.out W x hW
      have m1 := fun W hW => kN1.out W x hW
      have m2 := fun W hW => kN2.out W x hW
      generalize getV X x = gv at g1 g2
      generalize hasT X x = hb at g1 g2
      generalize numV X ((ahd X x : Int) - 1) = PB at b1 b2
      generalize numV X (ahd X x : Int) = PN at m1 m2
      obtain ⟨pb, fb⟩ := PB
      obtain ⟨pn, fn⟩ := PN
      have g1H : Hid _ := g1
      have g2H : Hid _ := g2
      have b1H : Hid _ := b1
      have b2H : Hid _ := b2
      have m1H : Hid _ := m1
      have m2H : Hid _ := m2
      clear g1 g2 b1 b2 m1 m2
      go_wp2_with fail
      refine Calls.mono (g1H.out _ hZ.out.b) ?_
      rintro e w7 ⟨rfl, hB7⟩
      have hZ7 : Hid (Y4 H1 H2 H3 H4 s1 s2 s3 s4 w (w7.alloc (.cells #[.int .u8 (gv.1 : Int), .int .i64 gv.2] 61))) := (hZ.out.below hB7).below ((Below.refl _ _).alloc (Nat.le_refl _) _)
      clear t1 hB7 g1H
      go_wp2_with fail
      refine Calls.mono (g2H.out _ hZ7.out.b) ?_
      rintro e w8 ⟨rfl, hB8⟩
      obtain ⟨r0, r1, _, _, hz⟩ := res_cells hB8
      have hZ8 : Hid (Y4 H1 H2 H3 H4 s1 s2 s3 s4 w (w8.alloc (.cells #[.int .u8 (gv.1 : Int), .int .i64 gv.2] 61))) := (hZ7.out.below hB8).below ((Below.refl _ _).alloc (Nat.le_refl _) _)
      clear hB8 hZ7 g2H
      go_wp2_with fail
      refine Calls.mono (b1H.out _ hZ8.out.b) ?_
      rintro e w9 ⟨rfl, hB9⟩
      have hZ9 : Hid (Y4 H1 H2 H3 H4 s1 s2 s3 s4 w w9) := hZ8.out.below hB9
      obtain ⟨a0, a1, a2, a3, a4, a5⟩ := hZ9.out.z1
      clear hB9 hZ8 r0 r1 b1H
      go_wp2_with fail
      refine Calls.mono (b2H.out _ (hZ9.out.put1 pb).b) ?_
      rintro e w10 ⟨rfl, hB10⟩
      have hZ10 : Hid (Y4 H1 H2 H3 H4 pb s2 s3 s4 w w10) := (hZ9.out.put1 pb).below hB10
      obtain ⟨b0, b1, b2, b3, b4, b5⟩ := hZ10.out.z2
      clear hB10 hZ9 b2H a0 a1 a2 a3 a4 a5
      go_wp2_with fail
      refine Calls.mono (m1H.out _ (hZ10.out.put2 pb).b) ?_
      rintro e w11 ⟨rfl, hB11⟩
      have hZ11 : Hid (Y4 H1 H2 H3 H4 pb pb s3 s4 w w11) := (hZ10.out.put2 pb).below hB11
      obtain ⟨c0, c1, c2, c3, c4, c5⟩ := hZ11.out.z3
      clear hB11 hZ10 m1H b0 b1 b2 b3 b4 b5
      go_wp2_with fail
      refine Calls.mono (m2H.out _ (hZ11.out.put3 pn).b) ?_
      rintro e w12 ⟨rfl, hB12⟩
      have hZ12 : Hid (Y4 H1 H2 H3 H4 pb pb pn s4 w w12) := (hZ11.out.put3 pn).below hB12
      obtain ⟨d0, d1, d2, d3, d4, d5⟩ := hZ12.out.z4
      clear hB12 hZ11 m2H c0 c1 c2 c3 c4 c5
      have hZ13 : Hid (Y4 H1 H2 H3 H4 pb pb pn pn w (((w12.setCell ⟨H4, 0, none⟩ (.int .i64 pn.t)).setCell ⟨H4, 1, none⟩ (.int .u8 (pn.k : Int))).setCell ⟨H4, 2, none⟩ (.int .i64 pn.x))) := hZ12.out.put4 pn
      obtain ⟨a0, a1, a2, a3, a4, a5⟩ := hZ13.out.z1
      obtain ⟨b0, b1, b2, b3, b4, b5⟩ := hZ13.out.z2
      obtain ⟨c0, c1, c2, c3, c4, c5⟩ := hZ13.out.z3
      obtain ⟨e0, e1, e2, e3, e4, e5⟩ := hZ13.out.z4
      generalize hW13 : ((w12.setCell ⟨H4, 0, none⟩ (.int .i64 pn.t)).setCell ⟨H4, 1, none⟩ (.int .u8 (pn.k : Int))).setCell ⟨H4, 2, none⟩ (.int .i64 pn.x) = w13 at *
      go_wp2_with (rw [hW13])
      clear a0 a1 a2 a3 a4 a5 b0 b1 b2 b3 b4 b5 c0 c1 c2 c3 c4 c5 d0 d1 d2 d3 d4 d5 e0 e1 e2 e3 e4 e5 hZ12
      go_loopw [21] (fun nn wx => ∃ m : Nat, m ≤ n ∧ nn = .int .i64 (m : Int) ∧ Hid (Y4 H1 H2 H3 H4 pb pb pn pn w wx)) (fun nn _ => n - (intOf nn).toNat)
      case atStart => exact ⟨0, by omega, rfl, (by first | exact hZ13.out | (rw [hW13]; exact hZ13.out))⟩
      case round =>
        obtain ⟨m, hm, rfl, hZm⟩ := hrel
        by_cases hmn : m < n
        · have hmI : (m : Int) < (n : Int) := by omega
          have m0 : (0 : Int) ≤ (m : Int) := by omega
          obtain ⟨y, hy⟩ := hlen.out m hmn
          have t1 := (hZm.out.b.cell (p := ⟨tb, m, none⟩) htb).trans (hcc m y hy)
          clear hy
          obtain ⟨RR, hRR⟩ : ∃ RR, RR = rangeL X x y := ⟨_, rfl⟩
          obtain ⟨nr, hnr⟩ : ∃ nr, nr = RR.length := ⟨_, rfl⟩
          have hnl : nr ≤ 2199023255552 := by have := rangeL_len X x y; have := hT.out.s.hn; rw [hnr, hRR]; omega
          have hS : ∀ W w', (W.cell? ⟨tb, m, none⟩ = some (.int .i64 y) ∧ Y4 H1 H2 H3 H4 pb pb pn pn w W) → Below W.heap.size W w' → (w'.cell? ⟨tb, m, none⟩ = some (.int .i64 y) ∧ Y4 H1 H2 H3 H4 pb pb pn pn w w') := fun W w' h hb => ⟨(hb.cell (p := ⟨tb, m, none⟩) (Nat.lt_of_lt_of_le htb h.2.b.size)).trans h.1, h.2.below hb⟩
          have k1 : Hid (∀ W, (W.cell? ⟨tb, m, none⟩ = some (.int .i64 y) ∧ Y4 H1 H2 H3 H4 pb pb pn pn w W) → Calls Tryz.prog 14 #[.pointer (some ⟨S, 0, none⟩), .int .i64 x, .int .i64 y] W fun e w' => ∃ a c, e = .returned (.slice a nr c) ∧ LIn w' a RR ∧ (w'.cell? ⟨tb, m, none⟩ = some (.int .i64 y) ∧ Y4 H1 H2 H3 H4 pb pb pn pn w w')) := fun W hW => Calls.mono (range_lin S B vs X W (hT.out.s.below hW.2.b) x y) (by rintro e w' ⟨a, c, rfl, hl, hb⟩; exact ⟨a, c, by rw [hnr, hRR], by rw [hRR]; exact hl, hS _ _ hW hb⟩)
          have k2 : Hid (∀ W a1, (W.cell? ⟨tb, m, none⟩ = some (.int .i64 y) ∧ Y4 H1 H2 H3 H4 pb pb pn pn w W) → LIn W a1 RR → Calls Tryz.prog 23 #[.pointer (some ⟨R, 0, none⟩), .int .i64 x, .int .i64 y] W fun e w' => ∃ a c, e = .returned (.slice a nr c) ∧ (LIn w' a1 RR ∧ LIn w' a RR) ∧ (w'.cell? ⟨tb, m, none⟩ = some (.int .i64 y) ∧ Y4 H1 H2 H3 H4 pb pb pn pn w w')) := fun W a1 hW h1 => Calls.mono (rrange_lin R B vr X W (hT.out.r.below hW.2.b) x y) (by rintro e w' ⟨a, c, rfl, hl, hb⟩; exact ⟨a, c, by rw [hnr, hRR], ⟨h1.below hb (Nat.le_refl _), by rw [hRR]; exact hl⟩, hS _ _ hW hb⟩)
          have k3 : Hid (∀ W a1 c1 a2 c2, (W.cell? ⟨tb, m, none⟩ = some (.int .i64 y) ∧ Y4 H1 H2 H3 H4 pb pb pn pn w W) → (LIn W a1 RR ∧ LIn W a2 RR) → Calls Tryz.prog 35 #[.slice a1 nr c1, .slice a2 nr c2] W fun e w' => e = .returned (.bool true) ∧ (w'.cell? ⟨tb, m, none⟩ = some (.int .i64 y) ∧ Y4 H1 H2 H3 H4 pb pb pn pn w w')) := fun W a1 c1 a2 c2 hW h1 => by
            have := sameS_any a1 a2 c1 c2 RR W h1.1 h1.2 (by omega)
            rw [← hnr] at this
            exact Calls.mono this (by rintro e w' ⟨rfl, hb⟩; exact ⟨rfl, hS _ _ hW hb⟩)
          have S0 := And.intro t1 hZm.out
          have S1 := hS _ _ S0 ((Below.refl _ _).drew)
          clear hS hZm t1 hcc hRR hnr
          go_wp2_with fail
          go_region_held3 (fun w' => w'.cell? ⟨tb, m, none⟩ = some (.int .i64 y) ∧ Y4 H1 H2 H3 H4 pb pb pn pn w w') (first | assumption)
            (first
              | (go_at_call 14; (with_reducible refine Calls.mono (k1.out _ (by assumption)) ?_); rintro e w14 ⟨ra1, rc1, rfl, L1, S2⟩)
              | (go_at_call 23; (with_reducible refine Calls.mono (k2.out _ _ (by assumption) (by assumption)) ?_); rintro e w15 ⟨ra2, rc2, rfl, L2, S3⟩)
              | (go_at_call 35; (with_reducible refine Calls.mono (k3.out _ _ _ _ _ (by assumption) (by assumption)) ?_); rintro e w16 ⟨rfl, S4⟩))
          all_goals
            go_wp2_with fail
            go_roundw
            case rel => exact ⟨m + 1, by omega, by go_num, S4.2⟩
            case measure => simp [intOf]; omega
        · obtain rfl : m = n := by omega
          go_wp2_with fail
          go_roundw
          case rel => exact ⟨q + 1, by omega, by go_num, ⟨_, _, _, _, hZm.out⟩⟩
          case measure => simp [intOf]; omega
    · obtain rfl : q = n := by omega
      go_wp2_with fail
      go_ret
      exact ⟨rfl, hZ.out.b⟩
end Go.Proofs.YticgapplpfaigaaGreat
