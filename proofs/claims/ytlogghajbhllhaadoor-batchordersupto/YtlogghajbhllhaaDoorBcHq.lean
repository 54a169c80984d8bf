
import Derived.Test.YtlogghajbhllhaaDoorBdB
import Derived.Test.YtlogghajbhllhaaDoorBdC
import Derived.Deep.RegionHeld3
import Derived.BigQuiet
namespace Go.Proofs.YtlogghajbhllhaaDoor
open Go.RowKit _root_.Go.Proofs.YtlogghajbhllhaaDoor.So
set_option linter.unusedVariables false
set_option linter.unusedSimpArgs false
theorem WIn.first {w : World} {a : Option Addr} {x : WrP} {l : List WrP} (h : WIn w a (x :: l)) : ∃ b off ta tc, a = some ⟨b, off, none⟩ ∧ b < w.heap.size ∧ WAt w b off x ta tc ∧ ∀ W, Below w.heap.size w W → SerIn W ta x.s := by
  obtain ⟨b, off, ta, tc, e, hb, h1, h2⟩ := h.at (Below.refl _ _) (k := 0) (x := x) rfl
  rw [Nat.zero_mul, Nat.add_zero] at h1
  exact ⟨b, off, ta, tc, e, hb, h1, fun W hW => (h2 W hW).2⟩
theorem belowNW {B : Nat} {a w : World} (h : Below B a w) (n : Nat) : Below B a (w.drewN n) := ⟨h.os, h.tape, h.output, h.size, h.block⟩
/-- the last part of BatchOrders, whatever the first one did. -/
def OrdT (w : World) (g1 g2 d1 d2 : Nat) (a a2 : Option Addr) (l m : List WrP) (W : World) : Prop := KpR W g1 d1 l ∧ KpR W g2 d2 m ∧ WIn W a l ∧ WIn W a2 m ∧ Below w.heap.size w W
theorem OrdT.below {w : World} {g1 g2 d1 d2 : Nat} {a a2 : Option Addr} {l m : List WrP} {W W' : World} (h : OrdT w g1 g2 d1 d2 a a2 l m W) (hB : Below W.heap.size W W') : OrdT w g1 g2 d1 d2 a a2 l m W' := ⟨h.1.below hB, h.2.1.below hB, h.2.2.1.below hB, h.2.2.2.1.below hB, h.2.2.2.2.trans (hB.mono h.2.2.2.2.size)⟩
theorem same_od {w0 w1 : World} {l : List WrP} {e : Ending} (h : OdR w0 w1 l e) : ∃ a z c, e = .returned (.slice a z c) ∧ z = (odD l).length ∧ z ≤ c ∧ WIn w1 a (odD l) ∧ Below w0.heap.size w0 w1 := by
  obtain ⟨a, z, c, L, rfl, o, i, b⟩ := h
  obtain ⟨a', c', e', hc, hw⟩ := o.slice
  injection e' with e1 e2 e3
  subst e1 e3
  rw [i] at hw
  refine ⟨a, z, c, rfl, ?_, by omega, hw, b⟩
  rw [← i, List.length_map]; exact e2
set_option maxRecDepth 100000 in
set_option maxHeartbeats 16000000 in
theorem batchOrders_walk (a a2 : Option Addr) (c c2 : Nat) (l m : List WrP) (w : World) (ha : WIn w a l) (hb : WIn w a2 m) (hc : l.length ≤ c) (hc2 : m.length ≤ c2) (hl : l.length ≤ 268435456) (hm : m.length ≤ 268435456) (htl : ∀ x ∈ l, x.s.t.length ≤ 4398046511104) (htm : ∀ x ∈ m, x.s.t.length ≤ 4398046511104) (hT : UT w) (hE : ET w) :
    Calls Tryd.prog 3 #[.slice a l.length c, .slice a2 m.length c2] w fun e w' => e = .returned (.bool true) ∧ Below w.heap.size w w' := by
  have cW1 : Hid (Calls Tryd.prog 5 #[.slice a l.length c] w fun e w' => ∃ g c', e = .returned (.slice (some ⟨g, 0, none⟩) l.length c') ∧ KpR w' g c' l ∧ Below w.heap.size w w') := writes_any a c l w ha (by omega) htl
  have cW2 : Hid (∀ W, Below w.heap.size w W → Calls Tryd.prog 5 #[.slice a2 m.length c2] W fun e w' => ∃ g c', e = .returned (.slice (some ⟨g, 0, none⟩) m.length c') ∧ KpR w' g c' m ∧ Below W.heap.size W w') := fun W hW => writes_any a2 c2 m W (hb.below hW) (by omega) htm
  have ST : Hid (∀ (w1 w2 : World) (g1 d1 g2 d2 : Nat), KpR w1 g1 d1 l → Below w.heap.size w w1 → KpR w2 g2 d2 m → Below w1.heap.size w1 w2 → OrdT w g1 g2 d1 d2 a a2 l m w2) := fun w1 w2 g1 d1 g2 d2 k1 b1 k2 b2 => by
    have B2 := b1.trans (b2.mono b1.size)
    exact ⟨k1.below b2, k2, ha.below B2, hb.below B2, B2⟩
  have cL : Hid (∀ W, Below w.heap.size w W → Calls Tryd.prog 8 #[] W fun e w' => e = .returned (.bool true) ∧ Below W.heap.size W w') := fun W hW => blive_any W (hT.below hW (Nat.le_refl _)) (ET_below hE hW)
  have cO : Hid (∀ W g1 g2 d1 d2, OrdT w g1 g2 d1 d2 a a2 l m W → Calls Tryd.prog 10 #[.slice (some ⟨g1, 0, none⟩) l.length d1] W fun e w' => ∃ a' z c', e = .returned (.slice a' z c') ∧ z = (odD l).length ∧ z ≤ c' ∧ WIn w' a' (odD l) ∧ Below W.heap.size W w') := fun W g1 g2 d1 d2 h => (orderD _ d1 l W h.1.win (by omega) htl).mono fun e w' hh => same_od hh
  have cR : Hid (∀ W g1 g2 d1 d2, OrdT w g1 g2 d1 d2 a a2 l m W → Calls Tryd.prog 11 #[.slice a l.length c] W fun e w' => ∃ a' z c', e = .returned (.slice a' z c') ∧ z = (odD l).length ∧ z ≤ c' ∧ WIn w' a' (odD l) ∧ Below W.heap.size W w') := fun W g1 g2 d1 d2 h => (rorder_any _ l (Nat.le_refl _) a c W h.2.2.1 hc (by omega) htl).mono fun e w' hh => same_od hh
  have cM : Hid (∀ W g1 g2 d1 d2, OrdT w g1 g2 d1 d2 a a2 l m W → Calls Tryd.prog 12 #[.slice (some ⟨g1, 0, none⟩) l.length d1, .slice (some ⟨g2, 0, none⟩) m.length d2] W fun e w' => ∃ a' z c', e = .returned (.slice a' z c') ∧ z = (odD (l ++ m)).length ∧ z ≤ c' ∧ WIn w' a' (odD (l ++ m)) ∧ Below W.heap.size W w') := fun W g1 g2 d1 d2 h => (bmerge_any _ _ d1 d2 l m W h.1.win h.2.1.win (by omega) htl htm).mono fun e w' hh => same_od hh
  have cN : Hid (∀ W g1 g2 d1 d2, OrdT w g1 g2 d1 d2 a a2 l m W → Calls Tryd.prog 13 #[.slice a l.length c, .slice a2 m.length c2] W fun e w' => ∃ a' z c', e = .returned (.slice a' z c') ∧ z = (odD (l ++ m)).length ∧ z ≤ c' ∧ WIn w' a' (odD (l ++ m)) ∧ Below W.heap.size W w') := fun W g1 g2 d1 d2 h => (rmerge_any a a2 c c2 l m W h.2.2.1 h.2.2.2.1 hc hc2 (by omega) (by omega) htl htm).mono fun e w' hh => same_od hh
  have cS1 : Hid (∀ W a' a3 z z' c' c3, z = (odD l).length → z' = (odD l).length → WIn W a' (odD l) → WIn W a3 (odD l) → Calls Tryd.prog 9 #[.slice a' z c', .slice a3 z' c3] W fun e w' => e = .returned (.bool true) ∧ Below W.heap.size W w') := fun W a' a3 z z' c' c3 e e' h1 h2 => by
    subst e e'
    exact sameWrites_true a' a3 c' c3 _ W h1 h2 (by have := odD_len l; omega)
  have cS2 : Hid (∀ W a' a3 z z' c' c3, z = (odD (l ++ m)).length → z' = (odD (l ++ m)).length → WIn W a' (odD (l ++ m)) → WIn W a3 (odD (l ++ m)) → Calls Tryd.prog 9 #[.slice a' z c', .slice a3 z' c3] W fun e w' => e = .returned (.bool true) ∧ Below W.heap.size W w') := fun W a' a3 z z' c' c3 e e' h1 h2 => by
    subst e e'
    exact sameWrites_true a' a3 c' c3 _ W h1 h2 (by have := odD_len (l ++ m); rw [List.length_append] at this; omega)
  have cK1 : Hid (∀ W g1 g2 d1 d2, OrdT w g1 g2 d1 d2 a a2 l m W → Calls Tryd.prog 14 #[.slice (some ⟨g1, 0, none⟩) l.length d1, .slice a l.length c] W fun e w' => e = .returned (.bool true) ∧ Below W.heap.size W w') := fun W g1 g2 d1 d2 h => bkept_any g1 d1 a c l W h.1 h.2.2.1 (by omega)
  have cK2 : Hid (∀ W g1 g2 d1 d2, OrdT w g1 g2 d1 d2 a a2 l m W → Calls Tryd.prog 14 #[.slice (some ⟨g2, 0, none⟩) m.length d2, .slice a2 m.length c2] W fun e w' => e = .returned (.bool true) ∧ Below W.heap.size W w') := fun W g1 g2 d1 d2 h => bkept_any g2 d2 a2 c2 m W h.2.1 h.2.2.2.1 (by omega)
  have hFi : Hid (∀ (W : World) (g1 g2 d1 d2 : Nat), OrdT w g1 g2 d1 d2 a a2 l m W → 0 < l.length → 0 < m.length → ∃ x y tx cx ty cy b1 o1 b2 o2 sx dx sy dy cv, a = some ⟨b1, o1, none⟩ ∧ a2 = some ⟨b2, o2, none⟩ ∧ g1 < W.heap.size ∧ g2 < W.heap.size ∧ b1 < W.heap.size ∧ b2 < W.heap.size ∧ WAt W g1 0 x tx cx ∧ WAt W g2 0 y ty cy ∧ WAt W b1 o1 x sx dx ∧ WAt W b2 o2 y sy dy ∧ (∀ W', Below W.heap.size W W' → Calls Tryd.prog 6 #[wV x tx cx, wV y ty cy] W' fun e w' => e = .returned (.int .i64 cv) ∧ Below W'.heap.size W' w') ∧ (∀ W', Below W.heap.size W W' → Calls Tryd.prog 7 #[wV x sx dx, wV y sy dy] W' fun e w' => e = .returned (.int .i64 cv) ∧ Below W'.heap.size W' w')) := fun W g1 g2 d1 d2 h p q => by
    rcases l with _ | ⟨x, l⟩
    · simp at p
    · rcases m with _ | ⟨y, m⟩
      · simp at q
      · obtain ⟨_, _, tx, cx, e1, l1, w1, f1⟩ := h.1.win.first
        obtain ⟨_, _, ty, cy, e2, l2, w2, f2⟩ := h.2.1.win.first
        obtain ⟨b1, o1, sx, dx, e3, l3, w3, f3⟩ := h.2.2.1.first
        obtain ⟨b2, o2, sy, dy, e4, l4, w4, f4⟩ := h.2.2.2.1.first
        injection e1 with e1
        injection e1 with e1 e1'
        injection e2 with e2
        injection e2 with e2 e2'
        subst e1 e1' e2 e2'
        exact ⟨x, y, tx, cx, ty, cy, b1, o1, b2, o2, sx, dx, sy, dy, wC x y, e3, e4, l1, l2, l3, l4, w1, w2, w3, w4, fun W' hW => bcompare_any x y tx ty cx cy W' (f1 W' hW) (f2 W' hW), fun W' hW => rpcompare_any x y sx sy dx dy W' (f3 W' hW) (f4 W' hW)⟩
  have bLW : Hid (∀ W g1 g2 d1 d2, OrdT w g1 g2 d1 d2 a a2 l m W → Below w.heap.size w W) := fun W g1 g2 d1 d2 h => h.2.2.2.2
  clear ha hb hc hc2 hl hm htl htm hT hE
  generalize l.length = n1 at *
  generalize m.length = n2 at *
  go_enter Tryd.func3, Tryd.ntmps3
  go_wp2_with fail
  refine Calls.mono cW1.out ?_
  rintro e w1 ⟨g1, d1, rfl, k1, b1⟩
  have K1 : Hid (KpR w1 g1 d1 l ∧ Below w.heap.size w w1) := ⟨k1, b1⟩
  clear k1 b1 cW1
  go_wp2_with fail
  refine Calls.mono (cW2.out _ K1.out.2) ?_
  rintro e w3 ⟨g2, d2, rfl, k2, b2⟩
  have O3 : Hid (OrdT w g1 g2 d1 d2 a a2 l m w3) := ST.out w1 w3 g1 d1 g2 d2 K1.out.1 K1.out.2 k2 b2
  clear k2 b2 cW2 K1 ST
  go_upto_region 2 with fail
  go_cut [35] from 11 (fun s wx => s = .bool false ∧ Hid (OrdT w g1 g2 d1 d2 a a2 l m wx))
  case first =>
    by_cases h1 : 0 < n1
    · have h1I : (0 : Int) < (n1 : Int) := by omega
      by_cases h2 : 0 < n2
      · have h2I : (0 : Int) < (n2 : Int) := by omega
        obtain ⟨x, y, tx, cx, ty, cy, b1, o1, b2, o2, sx, dx, sy, dy, cv, rfl, rfl, l1, l2, l3, l4, ax, ay, au, av, c1, c2'⟩ := hFi.out w3 g1 g2 d1 d2 O3.out h1 h2
        have C1 : Hid _ := c1
        have C2 : Hid _ := c2'
        clear c1 c2' hFi
        unfold wV at C1 C2
        unfold WAt at ax ay au av
        generalize x.s.t.length = nx at *
        generalize y.s.t.length = ny at *
        obtain ⟨p1, p2, p3, p4, p5, p6⟩ := ax
        obtain ⟨q1, q2, q3, q4, q5, q6⟩ := ay
        obtain ⟨r1, r2, r3, r4, r5, r6⟩ := au
        obtain ⟨t1, t2, t3, t4, t5, t6⟩ := av
        have hK : Hid (∀ W W' : World, Below W.heap.size W W' → (Below w3.heap.size w3 W ∧ W.cell? ⟨g1, 0, none⟩ = some (.string x.s.m) ∧ W.cell? ⟨g1, 1, none⟩ = some (.slice tx nx cx) ∧ W.cell? ⟨g1, 2, none⟩ = some (.string x.s.f) ∧ W.cell? ⟨g1, 3, none⟩ = some (.int .i64 x.tm) ∧ W.cell? ⟨g1, 4, none⟩ = some (.int .u8 (x.kd : Int)) ∧ W.cell? ⟨g1, 5, none⟩ = some (.int .i64 x.n) ∧ W.cell? ⟨g2, 0, none⟩ = some (.string y.s.m) ∧ W.cell? ⟨g2, 1, none⟩ = some (.slice ty ny cy) ∧ W.cell? ⟨g2, 2, none⟩ = some (.string y.s.f) ∧ W.cell? ⟨g2, 3, none⟩ = some (.int .i64 y.tm) ∧ W.cell? ⟨g2, 4, none⟩ = some (.int .u8 (y.kd : Int)) ∧ W.cell? ⟨g2, 5, none⟩ = some (.int .i64 y.n) ∧ W.cell? ⟨b1, o1, none⟩ = some (.string x.s.m) ∧ W.cell? ⟨b1, o1 + 1, none⟩ = some (.slice sx nx dx) ∧ W.cell? ⟨b1, o1 + 2, none⟩ = some (.string x.s.f) ∧ W.cell? ⟨b1, o1 + 3, none⟩ = some (.int .i64 x.tm) ∧ W.cell? ⟨b1, o1 + 4, none⟩ = some (.int .u8 (x.kd : Int)) ∧ W.cell? ⟨b1, o1 + 5, none⟩ = some (.int .i64 x.n) ∧ W.cell? ⟨b2, o2, none⟩ = some (.string y.s.m) ∧ W.cell? ⟨b2, o2 + 1, none⟩ = some (.slice sy ny dy) ∧ W.cell? ⟨b2, o2 + 2, none⟩ = some (.string y.s.f) ∧ W.cell? ⟨b2, o2 + 3, none⟩ = some (.int .i64 y.tm) ∧ W.cell? ⟨b2, o2 + 4, none⟩ = some (.int .u8 (y.kd : Int)) ∧ W.cell? ⟨b2, o2 + 5, none⟩ = some (.int .i64 y.n)) → (Below w3.heap.size w3 W' ∧ W'.cell? ⟨g1, 0, none⟩ = some (.string x.s.m) ∧ W'.cell? ⟨g1, 1, none⟩ = some (.slice tx nx cx) ∧ W'.cell? ⟨g1, 2, none⟩ = some (.string x.s.f) ∧ W'.cell? ⟨g1, 3, none⟩ = some (.int .i64 x.tm) ∧ W'.cell? ⟨g1, 4, none⟩ = some (.int .u8 (x.kd : Int)) ∧ W'.cell? ⟨g1, 5, none⟩ = some (.int .i64 x.n) ∧ W'.cell? ⟨g2, 0, none⟩ = some (.string y.s.m) ∧ W'.cell? ⟨g2, 1, none⟩ = some (.slice ty ny cy) ∧ W'.cell? ⟨g2, 2, none⟩ = some (.string y.s.f) ∧ W'.cell? ⟨g2, 3, none⟩ = some (.int .i64 y.tm) ∧ W'.cell? ⟨g2, 4, none⟩ = some (.int .u8 (y.kd : Int)) ∧ W'.cell? ⟨g2, 5, none⟩ = some (.int .i64 y.n) ∧ W'.cell? ⟨b1, o1, none⟩ = some (.string x.s.m) ∧ W'.cell? ⟨b1, o1 + 1, none⟩ = some (.slice sx nx dx) ∧ W'.cell? ⟨b1, o1 + 2, none⟩ = some (.string x.s.f) ∧ W'.cell? ⟨b1, o1 + 3, none⟩ = some (.int .i64 x.tm) ∧ W'.cell? ⟨b1, o1 + 4, none⟩ = some (.int .u8 (x.kd : Int)) ∧ W'.cell? ⟨b1, o1 + 5, none⟩ = some (.int .i64 x.n) ∧ W'.cell? ⟨b2, o2, none⟩ = some (.string y.s.m) ∧ W'.cell? ⟨b2, o2 + 1, none⟩ = some (.slice sy ny dy) ∧ W'.cell? ⟨b2, o2 + 2, none⟩ = some (.string y.s.f) ∧ W'.cell? ⟨b2, o2 + 3, none⟩ = some (.int .i64 y.tm) ∧ W'.cell? ⟨b2, o2 + 4, none⟩ = some (.int .u8 (y.kd : Int)) ∧ W'.cell? ⟨b2, o2 + 5, none⟩ = some (.int .i64 y.n))) := fun W W' hB h => ⟨h.1.trans (hB.mono h.1.size), by rw [hB.cell (p := ⟨g1, 0, none⟩) (Nat.lt_of_lt_of_le l1 h.1.size)]; exact h.2.1, by rw [hB.cell (p := ⟨g1, 1, none⟩) (Nat.lt_of_lt_of_le l1 h.1.size)]; exact h.2.2.1, by rw [hB.cell (p := ⟨g1, 2, none⟩) (Nat.lt_of_lt_of_le l1 h.1.size)]; exact h.2.2.2.1, by rw [hB.cell (p := ⟨g1, 3, none⟩) (Nat.lt_of_lt_of_le l1 h.1.size)]; exact h.2.2.2.2.1, by rw [hB.cell (p := ⟨g1, 4, none⟩) (Nat.lt_of_lt_of_le l1 h.1.size)]; exact h.2.2.2.2.2.1, by rw [hB.cell (p := ⟨g1, 5, none⟩) (Nat.lt_of_lt_of_le l1 h.1.size)]; exact h.2.2.2.2.2.2.1, by rw [hB.cell (p := ⟨g2, 0, none⟩) (Nat.lt_of_lt_of_le l2 h.1.size)]; exact h.2.2.2.2.2.2.2.1, by rw [hB.cell (p := ⟨g2, 1, none⟩) (Nat.lt_of_lt_of_le l2 h.1.size)]; exact h.2.2.2.2.2.2.2.2.1, by rw [hB.cell (p := ⟨g2, 2, none⟩) (Nat.lt_of_lt_of_le l2 h.1.size)]; exact h.2.2.2.2.2.2.2.2.2.1, by rw [hB.cell (p := ⟨g2, 3, none⟩) (Nat.lt_of_lt_of_le l2 h.1.size)]; exact h.2.2.2.2.2.2.2.2.2.2.1, by rw [hB.cell (p := ⟨g2, 4, none⟩) (Nat.lt_of_lt_of_le l2 h.1.size)]; exact h.2.2.2.2.2.2.2.2.2.2.2.1, by rw [hB.cell (p := ⟨g2, 5, none⟩) (Nat.lt_of_lt_of_le l2 h.1.size)]; exact h.2.2.2.2.2.2.2.2.2.2.2.2.1, by rw [hB.cell (p := ⟨b1, o1, none⟩) (Nat.lt_of_lt_of_le l3 h.1.size)]; exact h.2.2.2.2.2.2.2.2.2.2.2.2.2.1, by rw [hB.cell (p := ⟨b1, o1 + 1, none⟩) (Nat.lt_of_lt_of_le l3 h.1.size)]; exact h.2.2.2.2.2.2.2.2.2.2.2.2.2.2.1, by rw [hB.cell (p := ⟨b1, o1 + 2, none⟩) (Nat.lt_of_lt_of_le l3 h.1.size)]; exact h.2.2.2.2.2.2.2.2.2.2.2.2.2.2.2.1, by rw [hB.cell (p := ⟨b1, o1 + 3, none⟩) (Nat.lt_of_lt_of_le l3 h.1.size)]; exact h.2.2.2.2.2.2.2.2.2.2.2.2.2.2.2.2.1, by rw [hB.cell (p := ⟨b1, o1 + 4, none⟩) (Nat.lt_of_lt_of_le l3 h.1.size)]; exact h.2.2.2.2.2.2.2.2.2.2.2.2.2.2.2.2.2.1, by rw [hB.cell (p := ⟨b1, o1 + 5, none⟩) (Nat.lt_of_lt_of_le l3 h.1.size)]; exact h.2.2.2.2.2.2.2.2.2.2.2.2.2.2.2.2.2.2.1, by rw [hB.cell (p := ⟨b2, o2, none⟩) (Nat.lt_of_lt_of_le l4 h.1.size)]; exact h.2.2.2.2.2.2.2.2.2.2.2.2.2.2.2.2.2.2.2.1, by rw [hB.cell (p := ⟨b2, o2 + 1, none⟩) (Nat.lt_of_lt_of_le l4 h.1.size)]; exact h.2.2.2.2.2.2.2.2.2.2.2.2.2.2.2.2.2.2.2.2.1, by rw [hB.cell (p := ⟨b2, o2 + 2, none⟩) (Nat.lt_of_lt_of_le l4 h.1.size)]; exact h.2.2.2.2.2.2.2.2.2.2.2.2.2.2.2.2.2.2.2.2.2.1, by rw [hB.cell (p := ⟨b2, o2 + 3, none⟩) (Nat.lt_of_lt_of_le l4 h.1.size)]; exact h.2.2.2.2.2.2.2.2.2.2.2.2.2.2.2.2.2.2.2.2.2.2.1, by rw [hB.cell (p := ⟨b2, o2 + 4, none⟩) (Nat.lt_of_lt_of_le l4 h.1.size)]; exact h.2.2.2.2.2.2.2.2.2.2.2.2.2.2.2.2.2.2.2.2.2.2.2.1, by rw [hB.cell (p := ⟨b2, o2 + 5, none⟩) (Nat.lt_of_lt_of_le l4 h.1.size)]; exact h.2.2.2.2.2.2.2.2.2.2.2.2.2.2.2.2.2.2.2.2.2.2.2.2⟩
        have C1 : Hid (∀ W, (Below w3.heap.size w3 W ∧ W.cell? ⟨g1, 0, none⟩ = some (.string x.s.m) ∧ W.cell? ⟨g1, 1, none⟩ = some (.slice tx nx cx) ∧ W.cell? ⟨g1, 2, none⟩ = some (.string x.s.f) ∧ W.cell? ⟨g1, 3, none⟩ = some (.int .i64 x.tm) ∧ W.cell? ⟨g1, 4, none⟩ = some (.int .u8 (x.kd : Int)) ∧ W.cell? ⟨g1, 5, none⟩ = some (.int .i64 x.n) ∧ W.cell? ⟨g2, 0, none⟩ = some (.string y.s.m) ∧ W.cell? ⟨g2, 1, none⟩ = some (.slice ty ny cy) ∧ W.cell? ⟨g2, 2, none⟩ = some (.string y.s.f) ∧ W.cell? ⟨g2, 3, none⟩ = some (.int .i64 y.tm) ∧ W.cell? ⟨g2, 4, none⟩ = some (.int .u8 (y.kd : Int)) ∧ W.cell? ⟨g2, 5, none⟩ = some (.int .i64 y.n) ∧ W.cell? ⟨b1, o1, none⟩ = some (.string x.s.m) ∧ W.cell? ⟨b1, o1 + 1, none⟩ = some (.slice sx nx dx) ∧ W.cell? ⟨b1, o1 + 2, none⟩ = some (.string x.s.f) ∧ W.cell? ⟨b1, o1 + 3, none⟩ = some (.int .i64 x.tm) ∧ W.cell? ⟨b1, o1 + 4, none⟩ = some (.int .u8 (x.kd : Int)) ∧ W.cell? ⟨b1, o1 + 5, none⟩ = some (.int .i64 x.n) ∧ W.cell? ⟨b2, o2, none⟩ = some (.string y.s.m) ∧ W.cell? ⟨b2, o2 + 1, none⟩ = some (.slice sy ny dy) ∧ W.cell? ⟨b2, o2 + 2, none⟩ = some (.string y.s.f) ∧ W.cell? ⟨b2, o2 + 3, none⟩ = some (.int .i64 y.tm) ∧ W.cell? ⟨b2, o2 + 4, none⟩ = some (.int .u8 (y.kd : Int)) ∧ W.cell? ⟨b2, o2 + 5, none⟩ = some (.int .i64 y.n)) → _) := fun W h => C1.out W h.1
        have C2 : Hid (∀ W, (Below w3.heap.size w3 W ∧ W.cell? ⟨g1, 0, none⟩ = some (.string x.s.m) ∧ W.cell? ⟨g1, 1, none⟩ = some (.slice tx nx cx) ∧ W.cell? ⟨g1, 2, none⟩ = some (.string x.s.f) ∧ W.cell? ⟨g1, 3, none⟩ = some (.int .i64 x.tm) ∧ W.cell? ⟨g1, 4, none⟩ = some (.int .u8 (x.kd : Int)) ∧ W.cell? ⟨g1, 5, none⟩ = some (.int .i64 x.n) ∧ W.cell? ⟨g2, 0, none⟩ = some (.string y.s.m) ∧ W.cell? ⟨g2, 1, none⟩ = some (.slice ty ny cy) ∧ W.cell? ⟨g2, 2, none⟩ = some (.string y.s.f) ∧ W.cell? ⟨g2, 3, none⟩ = some (.int .i64 y.tm) ∧ W.cell? ⟨g2, 4, none⟩ = some (.int .u8 (y.kd : Int)) ∧ W.cell? ⟨g2, 5, none⟩ = some (.int .i64 y.n) ∧ W.cell? ⟨b1, o1, none⟩ = some (.string x.s.m) ∧ W.cell? ⟨b1, o1 + 1, none⟩ = some (.slice sx nx dx) ∧ W.cell? ⟨b1, o1 + 2, none⟩ = some (.string x.s.f) ∧ W.cell? ⟨b1, o1 + 3, none⟩ = some (.int .i64 x.tm) ∧ W.cell? ⟨b1, o1 + 4, none⟩ = some (.int .u8 (x.kd : Int)) ∧ W.cell? ⟨b1, o1 + 5, none⟩ = some (.int .i64 x.n) ∧ W.cell? ⟨b2, o2, none⟩ = some (.string y.s.m) ∧ W.cell? ⟨b2, o2 + 1, none⟩ = some (.slice sy ny dy) ∧ W.cell? ⟨b2, o2 + 2, none⟩ = some (.string y.s.f) ∧ W.cell? ⟨b2, o2 + 3, none⟩ = some (.int .i64 y.tm) ∧ W.cell? ⟨b2, o2 + 4, none⟩ = some (.int .u8 (y.kd : Int)) ∧ W.cell? ⟨b2, o2 + 5, none⟩ = some (.int .i64 y.n)) → _) := fun W h => C2.out W h.1
        have hSd : Hid (Below w3.heap.size w3 w3.drew ∧ w3.drew.cell? ⟨g1, 0, none⟩ = some (.string x.s.m) ∧ w3.drew.cell? ⟨g1, 1, none⟩ = some (.slice tx nx cx) ∧ w3.drew.cell? ⟨g1, 2, none⟩ = some (.string x.s.f) ∧ w3.drew.cell? ⟨g1, 3, none⟩ = some (.int .i64 x.tm) ∧ w3.drew.cell? ⟨g1, 4, none⟩ = some (.int .u8 (x.kd : Int)) ∧ w3.drew.cell? ⟨g1, 5, none⟩ = some (.int .i64 x.n) ∧ w3.drew.cell? ⟨g2, 0, none⟩ = some (.string y.s.m) ∧ w3.drew.cell? ⟨g2, 1, none⟩ = some (.slice ty ny cy) ∧ w3.drew.cell? ⟨g2, 2, none⟩ = some (.string y.s.f) ∧ w3.drew.cell? ⟨g2, 3, none⟩ = some (.int .i64 y.tm) ∧ w3.drew.cell? ⟨g2, 4, none⟩ = some (.int .u8 (y.kd : Int)) ∧ w3.drew.cell? ⟨g2, 5, none⟩ = some (.int .i64 y.n) ∧ w3.drew.cell? ⟨b1, o1, none⟩ = some (.string x.s.m) ∧ w3.drew.cell? ⟨b1, o1 + 1, none⟩ = some (.slice sx nx dx) ∧ w3.drew.cell? ⟨b1, o1 + 2, none⟩ = some (.string x.s.f) ∧ w3.drew.cell? ⟨b1, o1 + 3, none⟩ = some (.int .i64 x.tm) ∧ w3.drew.cell? ⟨b1, o1 + 4, none⟩ = some (.int .u8 (x.kd : Int)) ∧ w3.drew.cell? ⟨b1, o1 + 5, none⟩ = some (.int .i64 x.n) ∧ w3.drew.cell? ⟨b2, o2, none⟩ = some (.string y.s.m) ∧ w3.drew.cell? ⟨b2, o2 + 1, none⟩ = some (.slice sy ny dy) ∧ w3.drew.cell? ⟨b2, o2 + 2, none⟩ = some (.string y.s.f) ∧ w3.drew.cell? ⟨b2, o2 + 3, none⟩ = some (.int .i64 y.tm) ∧ w3.drew.cell? ⟨b2, o2 + 4, none⟩ = some (.int .u8 (y.kd : Int)) ∧ w3.drew.cell? ⟨b2, o2 + 5, none⟩ = some (.int .i64 y.n)) := ⟨(Below.refl _ w3).drew, p1, p2, p3, p4, p5, p6, q1, q2, q3, q4, q5, q6, r1, r2, r3, r4, r5, r6, t1, t2, t3, t4, t5, t6⟩
        clear p1 p2 p3 p4 p5 p6 q1 q2 q3 q4 q5 q6 r1 r2 r3 r4 r5 r6 t1 t2 t3 t4 t5 t6
        have hSS := hSd.out
        clear hSd
        go_region_held3 (fun W => Below w3.heap.size w3 W ∧ W.cell? ⟨g1, 0, none⟩ = some (.string x.s.m) ∧ W.cell? ⟨g1, 1, none⟩ = some (.slice tx nx cx) ∧ W.cell? ⟨g1, 2, none⟩ = some (.string x.s.f) ∧ W.cell? ⟨g1, 3, none⟩ = some (.int .i64 x.tm) ∧ W.cell? ⟨g1, 4, none⟩ = some (.int .u8 (x.kd : Int)) ∧ W.cell? ⟨g1, 5, none⟩ = some (.int .i64 x.n) ∧ W.cell? ⟨g2, 0, none⟩ = some (.string y.s.m) ∧ W.cell? ⟨g2, 1, none⟩ = some (.slice ty ny cy) ∧ W.cell? ⟨g2, 2, none⟩ = some (.string y.s.f) ∧ W.cell? ⟨g2, 3, none⟩ = some (.int .i64 y.tm) ∧ W.cell? ⟨g2, 4, none⟩ = some (.int .u8 (y.kd : Int)) ∧ W.cell? ⟨g2, 5, none⟩ = some (.int .i64 y.n) ∧ W.cell? ⟨b1, o1, none⟩ = some (.string x.s.m) ∧ W.cell? ⟨b1, o1 + 1, none⟩ = some (.slice sx nx dx) ∧ W.cell? ⟨b1, o1 + 2, none⟩ = some (.string x.s.f) ∧ W.cell? ⟨b1, o1 + 3, none⟩ = some (.int .i64 x.tm) ∧ W.cell? ⟨b1, o1 + 4, none⟩ = some (.int .u8 (x.kd : Int)) ∧ W.cell? ⟨b1, o1 + 5, none⟩ = some (.int .i64 x.n) ∧ W.cell? ⟨b2, o2, none⟩ = some (.string y.s.m) ∧ W.cell? ⟨b2, o2 + 1, none⟩ = some (.slice sy ny dy) ∧ W.cell? ⟨b2, o2 + 2, none⟩ = some (.string y.s.f) ∧ W.cell? ⟨b2, o2 + 3, none⟩ = some (.int .i64 y.tm) ∧ W.cell? ⟨b2, o2 + 4, none⟩ = some (.int .u8 (y.kd : Int)) ∧ W.cell? ⟨b2, o2 + 5, none⟩ = some (.int .i64 y.n)) (first | assumption)
          (first
            | (go_at_call 6; (with_reducible refine Calls.mono (C1.out _ (by assumption)) ?_); rintro e w' ⟨rfl, BB⟩; have SS := hK.out _ _ BB (by assumption))
            | (go_at_call 7; (with_reducible refine Calls.mono (C2.out _ (by assumption)) ?_); rintro e w' ⟨rfl, BB⟩; have SS := hK.out _ _ BB (by assumption)))
        all_goals
          go_wp2_with fail
          go_meet
          exact ⟨by first | rfl | simp, O3.out.below (by assumption : Below w3.heap.size w3 _ ∧ _).1⟩
      · have h2I : ¬ (0 : Int) < (n2 : Int) := by omega
        have h2J : (n2 : Int) ≤ 0 := by omega
        go_quiet (fail)
        go_wp2_with fail
        go_meet
        exact ⟨by first | rfl | simp, O3.out.below (by first | exact belowNW (Below.refl _ _) _ | exact (Below.refl _ _).drew | exact Below.refl _ _)⟩
    · have h1I : ¬ (0 : Int) < (n1 : Int) := by omega
      have h1J : (n1 : Int) ≤ 0 := by omega
      go_quiet (fail)
      go_wp2_with fail
      go_meet
      exact ⟨by first | rfl | simp, O3.out.below (by first | exact belowNW (Below.refl _ _) _ | exact (Below.refl _ _).drew | exact Below.refl _ _)⟩
  case rest =>
    obtain ⟨rfl, hO⟩ := hcut
    clear O3 hFi
    go_wp2_with fail
    refine Calls.mono (cL.out _ (bLW.out _ _ _ _ _ hO.out)) ?_
    rintro e w4 ⟨rfl, b4⟩
    have O4 : Hid (OrdT w g1 g2 d1 d2 a a2 l m w4) := hO.out.below b4
    clear b4 hO cL
    go_wp2_with fail
    refine Calls.mono (cO.out _ _ _ _ _ O4.out) ?_
    rintro e w5 ⟨a5, z5, c5, rfl, e5, _, r5, b5⟩
    have O5 : Hid (OrdT w g1 g2 d1 d2 a a2 l m w5 ∧ z5 = (odD l).length ∧ WIn w5 a5 (odD l)) := ⟨O4.out.below b5, e5, r5⟩
    clear b5 e5 r5 O4 cO
    go_wp2_with fail
    refine Calls.mono (cR.out _ _ _ _ _ O5.out.1) ?_
    rintro e w6 ⟨a6, z6, c6, rfl, e6, _, r6, b6⟩
    have cX : Hid (Calls Tryd.prog 9 #[.slice a5 z5 c5, .slice a6 z6 c6] w6 fun e w' => e = .returned (.bool true) ∧ Below w6.heap.size w6 w') := cS1.out w6 a5 a6 z5 z6 c5 c6 O5.out.2.1 e6 (O5.out.2.2.below b6) r6
    have O6 : Hid (OrdT w g1 g2 d1 d2 a a2 l m w6) := O5.out.1.below b6
    clear b6 e6 r6 O5 cR cS1
    go_wp2_with fail
    refine Calls.mono cX.out ?_
    rintro e w7 ⟨rfl, b7⟩
    have O7 : Hid (OrdT w g1 g2 d1 d2 a a2 l m w7) := O6.out.below b7
    clear b7 O6 cX
    go_wp2_with fail
    refine Calls.mono (cM.out _ _ _ _ _ O7.out) ?_
    rintro e w8 ⟨a8, z8, c8, rfl, e8, _, r8, b8⟩
    have O8 : Hid (OrdT w g1 g2 d1 d2 a a2 l m w8 ∧ z8 = (odD (l ++ m)).length ∧ WIn w8 a8 (odD (l ++ m))) := ⟨O7.out.below b8, e8, r8⟩
    clear b8 e8 r8 O7 cM
    go_wp2_with fail
    refine Calls.mono (cN.out _ _ _ _ _ O8.out.1) ?_
    rintro e w9 ⟨a9, z9, c9, rfl, e9, _, r9, b9⟩
    have cX : Hid (Calls Tryd.prog 9 #[.slice a8 z8 c8, .slice a9 z9 c9] w9 fun e w' => e = .returned (.bool true) ∧ Below w9.heap.size w9 w') := cS2.out w9 a8 a9 z8 z9 c8 c9 O8.out.2.1 e9 (O8.out.2.2.below b9) r9
    have O9 : Hid (OrdT w g1 g2 d1 d2 a a2 l m w9) := O8.out.1.below b9
    clear b9 e9 r9 O8 cN cS2
    go_wp2_with fail
    refine Calls.mono cX.out ?_
    rintro e w10 ⟨rfl, b10⟩
    have O10 : Hid (OrdT w g1 g2 d1 d2 a a2 l m w10) := O9.out.below b10
    clear b10 O9 cX
    go_wp2_with fail
    refine Calls.mono (cK1.out _ _ _ _ _ O10.out) ?_
    rintro e w11 ⟨rfl, b11⟩
    have O11 : Hid (OrdT w g1 g2 d1 d2 a a2 l m w11) := O10.out.below b11
    clear b11 O10 cK1
    go_wp2_with fail
    refine Calls.mono (cK2.out _ _ _ _ _ O11.out) ?_
    rintro e w12 ⟨rfl, b12⟩
    have fin : Hid (Below w.heap.size w w12) := bLW.out _ _ _ _ _ (O11.out.below b12)
    clear b12 O11 cK2
    go_wp2_with fail
    go_ret
    exact ⟨rfl, fin.out⟩
end Go.Proofs.YtlogghajbhllhaaDoor
