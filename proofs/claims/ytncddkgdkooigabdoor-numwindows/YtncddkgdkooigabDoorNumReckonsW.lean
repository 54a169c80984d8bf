import Derived.Test.YtncddkgdkooigabDoorSame
import Derived.Test.YtncddkgdkooigabDoorMul2
namespace Go.Proofs.YtncddkgdkooigabDoor
open Go.RowKit Go.Shelf
set_option linter.unusedVariables false

/-- an answer that must be an int64, held against the document's. -/
theorem law_same (v : Int) (w : World) (hg : ET w) : Calls Tryd.prog 19 #[.int .i64 (sm0 v), sm1 v, .int .i64 (sm0 v), .agg #[.int .i64 (sc v), .int .i64 0, .int .i64 0, .bool false, .bool false]] w fun e w' => e = .returned (.bool true) ∧ Below w.heap.size w w' := by
  by_cases h : I64 v
  · rw [sm0_yes h, sm1_yes h, sc_yes h]; exact law_same_nil _ w
  · rw [sm0_no h, sm1_no h, sc_no h]; exact law_same_err _ 20 rfl w hg

/-- the variable of the document's error, at block N. -/
structure BadC (N : Nat) (c : Int) (w : World) : Prop where
  b0 : w.cell? ⟨N, 0, none⟩ = some (.int .i64 c)
  b1 : w.cell? ⟨N, 1, none⟩ = some (.int .i64 0)
  b2 : w.cell? ⟨N, 2, none⟩ = some (.int .i64 0)
  b3 : w.cell? ⟨N, 3, none⟩ = some (.bool false)
  b4 : w.cell? ⟨N, 4, none⟩ = some (.bool false)
  f0 : w.frozen? ⟨N, 0, none⟩ = false
  f1 : w.frozen? ⟨N, 1, none⟩ = false
  f2 : w.frozen? ⟨N, 2, none⟩ = false
  f3 : w.frozen? ⟨N, 3, none⟩ = false
  f4 : w.frozen? ⟨N, 4, none⟩ = false
  z : N < w.heap.size
theorem BadC.start (w : World) (c : Int) (t : TypeId) : BadC w.heap.size c (w.alloc (.cells #[.int .i64 c, .int .i64 0, .int .i64 0, .bool false, .bool false] t)) :=
  ⟨by simp, by simp, by simp, by simp, by simp, by simp, by simp, by simp, by simp, by simp, by simp⟩
theorem BadC.below {N : Nat} {c : Int} {w w' : World} (h : BadC N c w) (hb : Below w.heap.size w w') : BadC N c w' := by
  obtain ⟨b0, b1, b2, b3, b4, f0, f1, f2, f3, f4, z⟩ := h
  have hs := hb.size
  exact ⟨(hb.cell (p := ⟨N, 0, none⟩) z).trans b0, (hb.cell (p := ⟨N, 1, none⟩) z).trans b1, (hb.cell (p := ⟨N, 2, none⟩) z).trans b2, (hb.cell (p := ⟨N, 3, none⟩) z).trans b3, (hb.cell (p := ⟨N, 4, none⟩) z).trans b4,
    (hb.frozen (p := ⟨N, 0, none⟩) z).trans f0, (hb.frozen (p := ⟨N, 1, none⟩) z).trans f1, (hb.frozen (p := ⟨N, 2, none⟩) z).trans f2, (hb.frozen (p := ⟨N, 3, none⟩) z).trans f3, (hb.frozen (p := ⟨N, 4, none⟩) z).trans f4, by omega⟩
/-- the world with another error in it. -/
def putBad (N : Nat) (c : Int) (w : World) : World := ((((w.setCell ⟨N, 0, none⟩ (.int .i64 c)).setCell ⟨N, 1, none⟩ (.int .i64 0)).setCell ⟨N, 2, none⟩ (.int .i64 0)).setCell ⟨N, 3, none⟩ (.bool false)).setCell ⟨N, 4, none⟩ (.bool false)
theorem cs {w : World} {a b : Addr} {u v x : Value} (h : w.cell? b = some u) (hx : (a = b ∧ x = v) ∨ (a ≠ b ∧ x = u)) : (w.setCell a v).cell? b = some x := by
  rcases hx with ⟨rfl, rfl⟩ | ⟨h2, rfl⟩
  · exact World.cell?_setCell_same _ _ _ h
  · rw [World.cell?_setCell_other _ _ _ _ h2]; exact h
theorem BadC.put {N : Nat} {c : Int} {w : World} (h : BadC N c w) (c' : Int) : BadC N c' (putBad N c' w) := by
  obtain ⟨b0, b1, b2, b3, b4, f0, f1, f2, f3, f4, z⟩ := h
  unfold putBad
  refine ⟨?_, ?_, ?_, ?_, ?_, by simpa using f0, by simpa using f1, by simpa using f2, by simpa using f3, by simpa using f4, by simpa using z⟩
  · exact cs (cs (cs (cs (cs b0 (Or.inl ⟨rfl, rfl⟩)) (Or.inr ⟨by simp, rfl⟩)) (Or.inr ⟨by simp, rfl⟩)) (Or.inr ⟨by simp, rfl⟩)) (Or.inr ⟨by simp, rfl⟩)
  · exact cs (cs (cs (cs (cs b1 (Or.inr ⟨by simp, rfl⟩)) (Or.inl ⟨rfl, rfl⟩)) (Or.inr ⟨by simp, rfl⟩)) (Or.inr ⟨by simp, rfl⟩)) (Or.inr ⟨by simp, rfl⟩)
  · exact cs (cs (cs (cs (cs b2 (Or.inr ⟨by simp, rfl⟩)) (Or.inr ⟨by simp, rfl⟩)) (Or.inl ⟨rfl, rfl⟩)) (Or.inr ⟨by simp, rfl⟩)) (Or.inr ⟨by simp, rfl⟩)
  · exact cs (cs (cs (cs (cs b3 (Or.inr ⟨by simp, rfl⟩)) (Or.inr ⟨by simp, rfl⟩)) (Or.inr ⟨by simp, rfl⟩)) (Or.inl ⟨rfl, rfl⟩)) (Or.inr ⟨by simp, rfl⟩)
  · exact cs (cs (cs (cs (cs b4 (Or.inr ⟨by simp, rfl⟩)) (Or.inr ⟨by simp, rfl⟩)) (Or.inr ⟨by simp, rfl⟩)) (Or.inr ⟨by simp, rfl⟩)) (Or.inl ⟨rfl, rfl⟩)
theorem ET_put {N : Nat} {w : World} (h : ET w) (hN : 2 ≠ N) (c : Int) : ET (putBad N c w) := by
  unfold ET putBad at *
  have hne : ∀ i, (⟨N, i, none⟩ : Addr) ≠ ⟨2, 0, none⟩ := by intro i e; injection e with e1; exact hN e1.symm
  rw [World.cell?_setCell_other _ _ _ _ (hne 4), World.cell?_setCell_other _ _ _ _ (hne 3), World.cell?_setCell_other _ _ _ _ (hne 2), World.cell?_setCell_other _ _ _ _ (hne 1), World.cell?_setCell_other _ _ _ _ (hne 0)]
  exact h
theorem below_put {N B : Nat} {w0 w : World} (h : Below B w0 w) (hN : B ≤ N) (c : Int) : Below B w0 (putBad N c w) :=
  ((((h.setCell (p := ⟨N, 0, none⟩) hN _).setCell (p := ⟨N, 1, none⟩) hN _).setCell (p := ⟨N, 2, none⟩) hN _).setCell (p := ⟨N, 3, none⟩) hN _).setCell (p := ⟨N, 4, none⟩) hN _

set_option maxRecDepth 100000 in
set_option maxHeartbeats 8000000 in
theorem reckons_zero (a b : Int) (ha : I64 a) (hb : I64 b) (h0 : b = 0) (w : World) (hg : ET w) : Calls Tryd.prog 4 #[.int .i64 a, .int .i64 b] w fun e w' => e = .returned (.bool true) ∧ Below w.heap.size w w' := by
  have H0 : Hid (b = 0) := h0
  clear h0
  go_enter Tryd.func4, Tryd.ntmps4
  go_wp2_with fail
  refine (live_any _ hg).mono ?_
  rintro e wl ⟨rfl, hbl⟩
  have g0 := ET_below hg hbl
  go_wp2_with fail
  refine (add_any a b ha hb _).mono ?_
  rintro e x0 ⟨rfl, hx0⟩
  have bx0 := below_then hbl hx0
  have gx0 := ET_below g0 hx0
  go_wp2_with fail
  refine (refadd a b ha hb _).mono ?_
  rintro e y0 ⟨rfl, hy0⟩
  have by0 := below_then bx0 hy0
  have gy0 := ET_below gx0 hy0
  have hN : 2 < y0.heap.size := ET_lt gy0
  have hNw : w.heap.size ≤ y0.heap.size := by0.size
  go_wp2_with fail
  have C0 := BadC.start y0 (sc (a + b)) 38
  have gz0 : ET (y0.alloc (.cells #[.int .i64 (sc (a + b)), .int .i64 0, .int .i64 0, .bool false, .bool false] 38)) := ET_alloc gy0 _
  have bz0 := below_new by0 (.cells #[.int .i64 (sc (a + b)), .int .i64 0, .int .i64 0, .bool false, .bool false] 38)
  refine (law_same (a + b) _ gz0).mono ?_
  rintro e v0 ⟨rfl, hv0⟩
  have bv0 := below_then bz0 hv0
  have g1 := ET_below gz0 hv0
  replace C0 := C0.below hv0
  go_wp2_with fail
  refine (sub_any a b ha hb _).mono ?_
  rintro e x1 ⟨rfl, hx1⟩
  have bx1 := below_then bv0 hx1
  have gx1 := ET_below g1 hx1
  go_wp2_with fail
  refine (refsub a b ha hb _).mono ?_
  rintro e y1 ⟨rfl, hy1⟩
  have by1 := below_then bx1 hy1
  have gy1 := ET_below gx1 hy1
  have D1 := (C0.below hx1).below hy1
  obtain ⟨b10, b11, b12, b13, b14, f10, f11, f12, f13, f14, z1⟩ := (C0.below hx1).below hy1
  go_wp2_with fail
  have gz1 : ET (putBad y0.heap.size (sc (a - b)) y1) := ET_put gy1 (by omega) _
  have bz1 : Below w.heap.size w (putBad y0.heap.size (sc (a - b)) y1) := below_put by1 hNw _
  have E1 : BadC y0.heap.size (sc (a - b)) (putBad y0.heap.size (sc (a - b)) y1) := BadC.put D1 _
  clear b10 b11 b12 b13 b14 f10 f11 f12 f13 f14
  unfold putBad at gz1 bz1 E1
  refine (law_same (a - b) _ gz1).mono ?_
  rintro e v1 ⟨rfl, hv1⟩
  have bv1 := below_then bz1 hv1
  have g2 := ET_below gz1 hv1
  have C1 := E1.below hv1
  clear D1 E1
  go_wp2_with fail
  refine (mul_any a b ha hb _).mono ?_
  rintro e x2 ⟨rfl, hx2⟩
  have bx2 := below_then bv1 hx2
  have gx2 := ET_below g2 hx2
  go_wp2_with fail
  refine (refmul a b ha hb _).mono ?_
  rintro e y2 ⟨rfl, hy2⟩
  have by2 := below_then bx2 hy2
  have gy2 := ET_below gx2 hy2
  have D2 := (C1.below hx2).below hy2
  obtain ⟨b20, b21, b22, b23, b24, f20, f21, f22, f23, f24, z2⟩ := (C1.below hx2).below hy2
  go_wp2_with fail
  have gz2 : ET (putBad y0.heap.size (sc (a * b)) y2) := ET_put gy2 (by omega) _
  have bz2 : Below w.heap.size w (putBad y0.heap.size (sc (a * b)) y2) := below_put by2 hNw _
  have E2 : BadC y0.heap.size (sc (a * b)) (putBad y0.heap.size (sc (a * b)) y2) := BadC.put D2 _
  clear b20 b21 b22 b23 b24 f20 f21 f22 f23 f24
  unfold putBad at gz2 bz2 E2
  refine (law_same (a * b) _ gz2).mono ?_
  rintro e v2 ⟨rfl, hv2⟩
  have bv2 := below_then bz2 hv2
  have g3 := ET_below gz2 hv2
  have C2 := E2.below hv2
  clear D2 E2
  go_wp2_with fail
  refine (neg_any a ha _).mono ?_
  rintro e x3 ⟨rfl, hx3⟩
  have bx3 := below_then bv2 hx3
  have gx3 := ET_below g3 hx3
  go_wp2_with fail
  refine (refneg' a ha _).mono ?_
  rintro e y3 ⟨rfl, hy3⟩
  have by3 := below_then bx3 hy3
  have gy3 := ET_below gx3 hy3
  have D3 := (C2.below hx3).below hy3
  obtain ⟨b30, b31, b32, b33, b34, f30, f31, f32, f33, f34, z3⟩ := (C2.below hx3).below hy3
  go_wp2_with fail
  have gz3 : ET (putBad y0.heap.size (sc (-a)) y3) := ET_put gy3 (by omega) _
  have bz3 : Below w.heap.size w (putBad y0.heap.size (sc (-a)) y3) := below_put by3 hNw _
  have E3 : BadC y0.heap.size (sc (-a)) (putBad y0.heap.size (sc (-a)) y3) := BadC.put D3 _
  clear b30 b31 b32 b33 b34 f30 f31 f32 f33 f34
  unfold putBad at gz3 bz3 E3
  refine (law_same (-a) _ gz3).mono ?_
  rintro e v3 ⟨rfl, hv3⟩
  have bv3 := below_then bz3 hv3
  have g4 := ET_below gz3 hv3
  have C3 := E3.below hv3
  clear D3 E3
  go_wp2_with fail
  obtain rfl : b = 0 := H0.out
  refine (div_zero a ha _).mono ?_
  rintro e x4 ⟨rfl, hx4⟩
  have bx4 := below_then bv3 hx4
  have gx4 := ET_below g4 hx4
  go_wp2_with fail
  refine (refdiv_zero a _).mono ?_
  rintro e y4 ⟨rfl, hy4⟩
  have by4 := below_then bx4 hy4
  have gy4 := ET_below gx4 hy4
  have D4 := (C3.below hx4).below hy4
  obtain ⟨b40, b41, b42, b43, b44, f40, f41, f42, f43, f44, z4⟩ := (C3.below hx4).below hy4
  go_wp2_with fail
  have gz4 : ET (putBad y0.heap.size (21) y4) := ET_put gy4 (by omega) _
  have bz4 : Below w.heap.size w (putBad y0.heap.size (21) y4) := below_put by4 hNw _
  have E4 : BadC y0.heap.size (21) (putBad y0.heap.size (21) y4) := BadC.put D4 _
  clear b40 b41 b42 b43 b44 f40 f41 f42 f43 f44
  unfold putBad at gz4 bz4 E4
  refine (law_same_err 0 21 rfl _ gz4).mono ?_
  rintro e v4 ⟨rfl, hv4⟩
  have bv4 := below_then bz4 hv4
  have g5 := ET_below gz4 hv4
  have C4 := E4.below hv4
  clear D4 E4
  go_wp2_with fail
  refine (mod_zero a _).mono ?_
  rintro e x5 ⟨rfl, rfl⟩
  go_wp2_with fail
  refine (refmod_zero a _).mono ?_
  rintro e y5 ⟨rfl, hy5⟩
  have by5 := below_then bv4 hy5
  have gy5 := ET_below g5 hy5
  have D5 := C4.below hy5
  obtain ⟨b50, b51, b52, b53, b54, f50, f51, f52, f53, f54, z5⟩ := C4.below hy5
  go_wp2_with fail
  have gz5 : ET (putBad y0.heap.size (21) y5) := ET_put gy5 (by omega) _
  have bz5 : Below w.heap.size w (putBad y0.heap.size (21) y5) := below_put by5 hNw _
  have E5 : BadC y0.heap.size (21) (putBad y0.heap.size (21) y5) := BadC.put D5 _
  clear b50 b51 b52 b53 b54 f50 f51 f52 f53 f54
  unfold putBad at gz5 bz5 E5
  refine (law_same_err 0 21 rfl _ gz5).mono ?_
  rintro e v5 ⟨rfl, hv5⟩
  have bv5 := below_then bz5 hv5
  have g6 := ET_below gz5 hv5
  have C5 := E5.below hv5
  clear D5 E5
  go_wp2
  go_ret
  exact ⟨rfl, bv5⟩
set_option maxRecDepth 100000 in
set_option maxHeartbeats 8000000 in
theorem reckons_in (a b : Int) (ha : I64 a) (hb : I64 b) (h0 : b ≠ 0) (w : World) (hg : ET w) : Calls Tryd.prog 4 #[.int .i64 a, .int .i64 b] w fun e w' => e = .returned (.bool true) ∧ Below w.heap.size w w' := by
  go_enter Tryd.func4, Tryd.ntmps4
  go_wp2_with fail
  refine (live_any _ hg).mono ?_
  rintro e wl ⟨rfl, hbl⟩
  have g0 := ET_below hg hbl
  go_wp2_with fail
  refine (add_any a b ha hb _).mono ?_
  rintro e x0 ⟨rfl, hx0⟩
  have bx0 := below_then hbl hx0
  have gx0 := ET_below g0 hx0
  go_wp2_with fail
  refine (refadd a b ha hb _).mono ?_
  rintro e y0 ⟨rfl, hy0⟩
  have by0 := below_then bx0 hy0
  have gy0 := ET_below gx0 hy0
  have hN : 2 < y0.heap.size := ET_lt gy0
  have hNw : w.heap.size ≤ y0.heap.size := by0.size
  go_wp2_with fail
  have C0 := BadC.start y0 (sc (a + b)) 38
  have gz0 : ET (y0.alloc (.cells #[.int .i64 (sc (a + b)), .int .i64 0, .int .i64 0, .bool false, .bool false] 38)) := ET_alloc gy0 _
  have bz0 := below_new by0 (.cells #[.int .i64 (sc (a + b)), .int .i64 0, .int .i64 0, .bool false, .bool false] 38)
  refine (law_same (a + b) _ gz0).mono ?_
  rintro e v0 ⟨rfl, hv0⟩
  have bv0 := below_then bz0 hv0
  have g1 := ET_below gz0 hv0
  replace C0 := C0.below hv0
  go_wp2_with fail
  refine (sub_any a b ha hb _).mono ?_
  rintro e x1 ⟨rfl, hx1⟩
  have bx1 := below_then bv0 hx1
  have gx1 := ET_below g1 hx1
  go_wp2_with fail
  refine (refsub a b ha hb _).mono ?_
  rintro e y1 ⟨rfl, hy1⟩
  have by1 := below_then bx1 hy1
  have gy1 := ET_below gx1 hy1
  have D1 := (C0.below hx1).below hy1
  obtain ⟨b10, b11, b12, b13, b14, f10, f11, f12, f13, f14, z1⟩ := (C0.below hx1).below hy1
  go_wp2_with fail
  have gz1 : ET (putBad y0.heap.size (sc (a - b)) y1) := ET_put gy1 (by omega) _
  have bz1 : Below w.heap.size w (putBad y0.heap.size (sc (a - b)) y1) := below_put by1 hNw _
  have E1 : BadC y0.heap.size (sc (a - b)) (putBad y0.heap.size (sc (a - b)) y1) := BadC.put D1 _
  clear b10 b11 b12 b13 b14 f10 f11 f12 f13 f14
  unfold putBad at gz1 bz1 E1
  refine (law_same (a - b) _ gz1).mono ?_
  rintro e v1 ⟨rfl, hv1⟩
  have bv1 := below_then bz1 hv1
  have g2 := ET_below gz1 hv1
  have C1 := E1.below hv1
  clear D1 E1
  go_wp2_with fail
  refine (mul_any a b ha hb _).mono ?_
  rintro e x2 ⟨rfl, hx2⟩
  have bx2 := below_then bv1 hx2
  have gx2 := ET_below g2 hx2
  go_wp2_with fail
  refine (refmul a b ha hb _).mono ?_
  rintro e y2 ⟨rfl, hy2⟩
  have by2 := below_then bx2 hy2
  have gy2 := ET_below gx2 hy2
  have D2 := (C1.below hx2).below hy2
  obtain ⟨b20, b21, b22, b23, b24, f20, f21, f22, f23, f24, z2⟩ := (C1.below hx2).below hy2
  go_wp2_with fail
  have gz2 : ET (putBad y0.heap.size (sc (a * b)) y2) := ET_put gy2 (by omega) _
  have bz2 : Below w.heap.size w (putBad y0.heap.size (sc (a * b)) y2) := below_put by2 hNw _
  have E2 : BadC y0.heap.size (sc (a * b)) (putBad y0.heap.size (sc (a * b)) y2) := BadC.put D2 _
  clear b20 b21 b22 b23 b24 f20 f21 f22 f23 f24
  unfold putBad at gz2 bz2 E2
  refine (law_same (a * b) _ gz2).mono ?_
  rintro e v2 ⟨rfl, hv2⟩
  have bv2 := below_then bz2 hv2
  have g3 := ET_below gz2 hv2
  have C2 := E2.below hv2
  clear D2 E2
  go_wp2_with fail
  refine (neg_any a ha _).mono ?_
  rintro e x3 ⟨rfl, hx3⟩
  have bx3 := below_then bv2 hx3
  have gx3 := ET_below g3 hx3
  go_wp2_with fail
  refine (refneg' a ha _).mono ?_
  rintro e y3 ⟨rfl, hy3⟩
  have by3 := below_then bx3 hy3
  have gy3 := ET_below gx3 hy3
  have D3 := (C2.below hx3).below hy3
  obtain ⟨b30, b31, b32, b33, b34, f30, f31, f32, f33, f34, z3⟩ := (C2.below hx3).below hy3
  go_wp2_with fail
  have gz3 : ET (putBad y0.heap.size (sc (-a)) y3) := ET_put gy3 (by omega) _
  have bz3 : Below w.heap.size w (putBad y0.heap.size (sc (-a)) y3) := below_put by3 hNw _
  have E3 : BadC y0.heap.size (sc (-a)) (putBad y0.heap.size (sc (-a)) y3) := BadC.put D3 _
  clear b30 b31 b32 b33 b34 f30 f31 f32 f33 f34
  unfold putBad at gz3 bz3 E3
  refine (law_same (-a) _ gz3).mono ?_
  rintro e v3 ⟨rfl, hv3⟩
  have bv3 := below_then bz3 hv3
  have g4 := ET_below gz3 hv3
  have C3 := E3.below hv3
  clear D3 E3
  go_wp2_with fail
  refine (div_any a b ha hb h0 _).mono ?_
  rintro e x4 ⟨rfl, hx4⟩
  have bx4 := below_then bv3 hx4
  have gx4 := ET_below g4 hx4
  go_wp2_with fail
  refine (refdiv a b ha hb h0 _).mono ?_
  rintro e y4 ⟨rfl, hy4⟩
  have by4 := below_then bx4 hy4
  have gy4 := ET_below gx4 hy4
  have D4 := (C3.below hx4).below hy4
  obtain ⟨b40, b41, b42, b43, b44, f40, f41, f42, f43, f44, z4⟩ := (C3.below hx4).below hy4
  go_wp2_with fail
  have gz4 : ET (putBad y0.heap.size (sc (quoI a b)) y4) := ET_put gy4 (by omega) _
  have bz4 : Below w.heap.size w (putBad y0.heap.size (sc (quoI a b)) y4) := below_put by4 hNw _
  have E4 : BadC y0.heap.size (sc (quoI a b)) (putBad y0.heap.size (sc (quoI a b)) y4) := BadC.put D4 _
  clear b40 b41 b42 b43 b44 f40 f41 f42 f43 f44
  unfold putBad at gz4 bz4 E4
  refine (law_same (quoI a b) _ gz4).mono ?_
  rintro e v4 ⟨rfl, hv4⟩
  have bv4 := below_then bz4 hv4
  have g5 := ET_below gz4 hv4
  have C4 := E4.below hv4
  clear D4 E4
  go_wp2_with fail
  refine (mod_any a b hb h0 _).mono ?_
  rintro e x5 ⟨rfl, rfl⟩
  go_wp2_with fail
  refine (refmod a b hb h0 _).mono ?_
  rintro e y5 ⟨rfl, hy5⟩
  have by5 := below_then bv4 hy5
  have gy5 := ET_below g5 hy5
  have D5 := C4.below hy5
  obtain ⟨b50, b51, b52, b53, b54, f50, f51, f52, f53, f54, z5⟩ := C4.below hy5
  go_wp2_with fail
  have gz5 : ET (putBad y0.heap.size (0) y5) := ET_put gy5 (by omega) _
  have bz5 : Below w.heap.size w (putBad y0.heap.size (0) y5) := below_put by5 hNw _
  have E5 : BadC y0.heap.size (0) (putBad y0.heap.size (0) y5) := BadC.put D5 _
  clear b50 b51 b52 b53 b54 f50 f51 f52 f53 f54
  unfold putBad at gz5 bz5 E5
  refine (law_same_nil (modI a b) _).mono ?_
  rintro e v5 ⟨rfl, hv5⟩
  have bv5 := below_then bz5 hv5
  have g6 := ET_below gz5 hv5
  have C5 := E5.below hv5
  clear D5 E5
  go_wp2
  go_ret
  exact ⟨rfl, bv5⟩
theorem numReckons_walk (a b : Int) (ha : I64 a) (hb : I64 b) (w : World) (hg : ET w) : Calls Tryd.prog 4 #[.int .i64 a, .int .i64 b] w fun e w' => e = .returned (.bool true) ∧ Below w.heap.size w w' := by
  by_cases h0 : b = 0
  · exact reckons_zero a b ha hb h0 w hg
  · exact reckons_in a b ha hb h0 w hg
end Go.Proofs.YtncddkgdkooigabDoor
