
import Derived.Test.YtepakgfdakeibaaGreatDoorBaE
import Derived.Test.YtepakgfdakeibaaGreatDoorKyC
import Derived.Test.YtepakgfdakeibaaGreatDoorBgC
namespace Go.Proofs.YtepakgfdakeibaaGreatDoor
open Go.RowKit _root_.Go.Proofs.YtepakgfdakeibaaGreatDoor.So
set_option linter.unusedVariables false
set_option linter.unusedSimpArgs false
/-- a sample of a series. -/
structure WrP where
  s : SerP
  tm : Int
  kd : Nat
  n : Int
/-- the order of times. -/
def tmC (a b : Int) : Int := if a < b then -1 else if b < a then 1 else 0
theorem tmC_is : IsCmp tmC where
  range := fun a b => by unfold tmC; split <;> (try split) <;> simp
  flip := fun a b => by unfold tmC; split <;> split <;> (try split) <;> (try split) <;> (first | rfl | omega)
  zero := fun a b => by unfold tmC; split <;> (try split) <;> simp <;> omega
  trans := fun a b d h1 h2 => by unfold tmC at *; split at h1 <;> (try split at h1) <;> split at h2 <;> (try split at h2) <;> split <;> (try split) <;> omega
def wK (x : WrP) : SerP × Int := (x.s, x.tm)
def kC : SerP × Int → SerP × Int → Int := pairC serC tmC
theorem kC_is : IsCmp kC := pairC_is serC_is tmC_is
def wC (x y : WrP) : Int := kC (wK x) (wK y)
/-- a sample as a value, its tags lying at a. -/
def wV (x : WrP) (a : Option Addr) (c : Nat) : Value := .agg #[.string x.s.m, .slice a x.s.t.length c, .string x.s.f, .int .i64 x.tm, .int .u8 (x.kd : Int), .int .i64 x.n]
set_option maxRecDepth 100000 in
theorem isNaN_any (a : Int) (w : World) : Calls Tryz.prog 93 #[.int .i64 a] w fun e w' => e = .returned (.bool false) ∧ w' = w := by
  go_enter Tryz.func93, Tryz.ntmps93
  go_wp2_with fail
  go_ret
  exact ⟨rfl, rfl⟩
set_option maxRecDepth 100000 in
theorem cmpI_any (a b : Int) (w : World) : Calls Tryz.prog 72 #[.int .i64 a, .int .i64 b] w fun e w' => e = .returned (.int .i64 (tmC a b)) ∧ w' = w := by
  have ca : Hid (∀ W, Calls Tryz.prog 93 #[.int .i64 a] W fun e w' => e = .returned (.bool false) ∧ w' = W) := isNaN_any a
  have cb : Hid (∀ W, Calls Tryz.prog 93 #[.int .i64 b] W fun e w' => e = .returned (.bool false) ∧ w' = W) := isNaN_any b
  by_cases h1 : a < b
  · have e : tmC a b = -1 := by unfold tmC; rw [if_pos h1]
    rw [e]
    clear e
    go_enter Tryz.func72, Tryz.ntmps72
    go_wp2_with fail
    refine Calls.mono (ca.out _) ?_
    rintro e w1 ⟨rfl, hw⟩
    subst hw
    go_wp2_with fail
    refine Calls.mono (cb.out _) ?_
    rintro e w2 ⟨rfl, hw⟩
    subst hw
    go_wp2_with fail
    go_ret
    exact ⟨rfl, rfl⟩
  · by_cases h2 : b < a
    · have e : tmC a b = 1 := by unfold tmC; rw [if_neg h1, if_pos h2]
      rw [e]
      clear e
      go_enter Tryz.func72, Tryz.ntmps72
      go_wp2_with fail
      refine Calls.mono (ca.out _) ?_
      rintro e w1 ⟨rfl, hw⟩
      subst hw
      go_wp2_with fail
      refine Calls.mono (cb.out _) ?_
      rintro e w2 ⟨rfl, hw⟩
      subst hw
      go_wp2_with fail
      go_ret
      exact ⟨rfl, rfl⟩
    · have e : tmC a b = 0 := by unfold tmC; rw [if_neg h1, if_neg h2]
      rw [e]
      clear e
      go_enter Tryz.func72, Tryz.ntmps72
      go_wp2_with fail
      refine Calls.mono (ca.out _) ?_
      rintro e w1 ⟨rfl, hw⟩
      subst hw
      go_wp2_with fail
      refine Calls.mono (cb.out _) ?_
      rintro e w2 ⟨rfl, hw⟩
      subst hw
      go_wp2_with fail
      go_ret
      exact ⟨rfl, rfl⟩
set_option maxRecDepth 100000 in
set_option maxHeartbeats 4000000 in
theorem bcompare_any (x y : WrP) (a b : Option Addr) (c1 c2 : Nat) (w : World) (ha : SerIn w a x.s) (hb : SerIn w b y.s) :
    Calls Tryz.prog 41 #[wV x a c1, wV y b c2] w fun e w' => e = .returned (.int .i64 (wC x y)) ∧ Below w.heap.size w w' := by
  obtain ⟨⟨xm, xt, xf⟩, xtm, xk, xn⟩ := x
  obtain ⟨⟨ym, yt, yf⟩, ytm, yk, yn⟩ := y
  unfold wV wC wK kC pairC
  simp only at ha hb ⊢
  have B2 : ∀ o1 o2, Below w.heap.size w ((w.alloc o1).alloc o2) := fun o1 o2 => ((Below.refl _ w).alloc (Nat.le_refl _) o1).alloc (by simp) o2
  have C1 : Hid (∀ W, Below w.heap.size w W → Calls Tryz.prog 71 #[.agg #[.string xm, .slice a xt.length c1, .string xf], .agg #[.string ym, .slice b yt.length c2, .string yf]] W fun e w' => e = .returned (.int .i64 (serC ⟨xm, xt, xf⟩ ⟨ym, yt, yf⟩)) ∧ Below W.heap.size W w') := fun W hW => compare_any a b c1 c2 ⟨xm, xt, xf⟩ ⟨ym, yt, yf⟩ W ⟨ha.1.below hW, ha.2⟩ ⟨hb.1.below hW, hb.2⟩
  have C2 : Hid (∀ W, Calls Tryz.prog 72 #[.int .i64 xtm, .int .i64 ytm] W fun e w' => e = .returned (.int .i64 (tmC xtm ytm)) ∧ w' = W) := cmpI_any xtm ytm
  generalize serC ⟨xm, xt, xf⟩ ⟨ym, yt, yf⟩ = r at C1 ⊢
  generalize tmC xtm ytm = q at C2 ⊢
  generalize xt.length = lx at *
  generalize yt.length = ly at *
  clear ha hb
  have b2 := B2 (.cells #[.string xm, .slice a lx c1, .string xf, .int .i64 xtm, .int .u8 (xk : Int), .int .i64 xn] 52) (.cells #[.string ym, .slice b ly c2, .string yf, .int .i64 ytm, .int .u8 (yk : Int), .int .i64 yn] 52)
  have s2 : w.heap.size + 2 = ((w.alloc (.cells #[.string xm, .slice a lx c1, .string xf, .int .i64 xtm, .int .u8 (xk : Int), .int .i64 xn] 52)).alloc (.cells #[.string ym, .slice b ly c2, .string yf, .int .i64 ytm, .int .u8 (yk : Int), .int .i64 yn] 52)).heap.size := by simp
  have C1' : Hid (Calls Tryz.prog 71 #[.agg #[.string xm, .slice a lx c1, .string xf], .agg #[.string ym, .slice b ly c2, .string yf]] ((w.alloc (.cells #[.string xm, .slice a lx c1, .string xf, .int .i64 xtm, .int .u8 (xk : Int), .int .i64 xn] 52)).alloc (.cells #[.string ym, .slice b ly c2, .string yf, .int .i64 ytm, .int .u8 (yk : Int), .int .i64 yn] 52)) fun e w' => e = .returned (.int .i64 r) ∧ Below w.heap.size w w' ∧ w'.cell? ⟨w.heap.size, 3, none⟩ = some (.int .i64 xtm) ∧ w'.cell? ⟨w.heap.size + 1, 3, none⟩ = some (.int .i64 ytm)) := (C1.out _ b2).mono fun e w' hh => ⟨hh.1, b2.trans (hh.2.mono b2.size), by rw [hh.2.cell (p := ⟨w.heap.size, 3, none⟩) (by rw [← s2]; show w.heap.size < _; omega)]; simp [go_sem], by rw [hh.2.cell (p := ⟨w.heap.size + 1, 3, none⟩) (by rw [← s2]; show w.heap.size + 1 < _; omega)]; simp [go_sem]⟩
  obtain ⟨RES, hRES⟩ : ∃ R, (if r = 0 then q else r) = R := ⟨_, rfl⟩
  rw [hRES]
  have hRH : Hid ((if r = 0 then q else r) = RES) := hRES
  clear B2 C1 b2 s2 hRES
  go_enter Tryz.func41, Tryz.ntmps41
  go_wp2_with fail
  refine Calls.mono C1'.out ?_
  rintro e w1 ⟨rfl, b1, x1, y1⟩
  have b1H : Hid (Below w.heap.size w w1) := b1
  clear b1 C1'
  by_cases hr : r = 0
  · have hq : Hid (q = RES) := by have := hRH.out; rw [if_pos hr] at this; exact this
    have hrb : (r == 0) = true := by simpa using hr
    clear hRH
    subst hr
    go_wp2_with fail
    refine Calls.mono (C2.out _) ?_
    rintro e w2 ⟨rfl, hw⟩
    subst hw
    go_wp2_with fail
    go_ret
    exact ⟨by rw [← hq.out]; rfl, b1H.out⟩
  · have hq : Hid (r = RES) := by have := hRH.out; rw [if_neg hr] at this; exact this
    have hrb : (r == 0) = false := by simpa using hr
    clear hr hRH
    go_wp2_with fail
    go_ret
    exact ⟨by rw [← hq.out]; rfl, b1H.out⟩
end Go.Proofs.YtepakgfdakeibaaGreatDoor

namespace Go.Proofs.YtepakgfdakeibaaGreatDoor
open Go.RowKit _root_.Go.Proofs.YtepakgfdakeibaaGreatDoor.So
set_option linter.unusedVariables false
set_option linter.unusedSimpArgs false
/-- a sample of a series in memory: six cells, its tags lying at a. -/
def WAt (w : World) (b o : Nat) (x : WrP) (a : Option Addr) (c : Nat) : Prop := w.cell? ⟨b, o, none⟩ = some (.string x.s.m) ∧ w.cell? ⟨b, o + 1, none⟩ = some (.slice a x.s.t.length c) ∧ w.cell? ⟨b, o + 2, none⟩ = some (.string x.s.f) ∧ w.cell? ⟨b, o + 3, none⟩ = some (.int .i64 x.tm) ∧ w.cell? ⟨b, o + 4, none⟩ = some (.int .u8 (x.kd : Int)) ∧ w.cell? ⟨b, o + 5, none⟩ = some (.int .i64 x.n)
theorem WAt.below {w w' : World} {b o : Nat} {x : WrP} {a : Option Addr} {c C : Nat} (h : WAt w b o x a c) (hB : Below C w w') (hb : b < C) : WAt w' b o x a c := by
  obtain ⟨h1, h2, h3, h4, h5, h6⟩ := h
  exact ⟨by rw [hB.cell (p := ⟨b, o, none⟩) hb]; exact h1, by rw [hB.cell (p := ⟨b, o + 1, none⟩) hb]; exact h2, by rw [hB.cell (p := ⟨b, o + 2, none⟩) hb]; exact h3, by rw [hB.cell (p := ⟨b, o + 3, none⟩) hb]; exact h4, by rw [hB.cell (p := ⟨b, o + 4, none⟩) hb]; exact h5, by rw [hB.cell (p := ⟨b, o + 5, none⟩) hb]; exact h6⟩
/-- samples of series that lie in memory. -/
def WIn (w : World) (a : Option Addr) (l : List WrP) : Prop := l = [] ∨ ∃ b off, a = some ⟨b, off, none⟩ ∧ b < w.heap.size ∧ ∀ i x, l[i]? = some x → ∃ ta tc, WAt w b (off + i * 6) x ta tc ∧ SerIn w ta x.s
theorem SerIn.belowW {w w' : World} {a : Option Addr} {s : SerP} (h : SerIn w a s) (hB : Below w.heap.size w w') : SerIn w' a s := ⟨h.1.below hB, h.2⟩
theorem WIn.below {w w' : World} {a : Option Addr} {l : List WrP} (h : WIn w a l) (hB : Below w.heap.size w w') : WIn w' a l := by
  rcases h with h | ⟨b, off, ha, hb, hc⟩
  · exact Or.inl h
  · refine Or.inr ⟨b, off, ha, Nat.lt_of_lt_of_le hb hB.size, fun i x hx => ?_⟩
    obtain ⟨ta, tc, h1, h2⟩ := hc i x hx
    exact ⟨ta, tc, h1.below hB hb, h2.belowW hB⟩
theorem WIn.at {w wr : World} {a : Option Addr} {l : List WrP} (h : WIn w a l) (hB : Below w.heap.size w wr) {k : Nat} {x : WrP} (hx : l[k]? = some x) : ∃ b off ta tc, a = some ⟨b, off, none⟩ ∧ b < w.heap.size ∧ WAt wr b (off + k * 6) x ta tc ∧ ∀ W, Below w.heap.size w W → WAt W b (off + k * 6) x ta tc ∧ SerIn W ta x.s := by
  rcases h with h0 | ⟨b, off, e, hb, hc⟩
  · rw [h0] at hx; simp at hx
  · obtain ⟨ta, tc, h1, h2⟩ := hc k x hx
    exact ⟨b, off, ta, tc, e, hb, h1.below hB hb, fun W hW => ⟨h1.below hW hb, h2.belowW hW⟩⟩
def noW : WrP := ⟨⟨⟨#[]⟩, [], ⟨#[]⟩⟩, 0, 0, 0⟩
def atW (l : List WrP) : Nat → WrP := fun k => l.getD k noW
theorem atW_get {l : List WrP} {k : Nat} {x : WrP} (h : l[k]? = some x) : atW l k = x := by unfold atW; rw [List.getD_eq_getElem?_getD, h]; rfl
theorem atW_some {l : List WrP} {k : Nat} (h : k < l.length) : l[k]? = some (atW l k) := by rw [List.getElem?_eq_getElem h, atW, List.getD_eq_getElem?_getD, List.getElem?_eq_getElem h]; rfl
/-- which place stands ahead. -/
def ahW (l : List WrP) (i j : Nat) : Bool := decide (wC (atW l i) (atW l j) < 0) || (decide (wC (atW l i) (atW l j) = 0) && decide (j < i))
theorem wC_is (l : List WrP) : (∀ i, wC (atW l i) (atW l i) = 0) ∧ (∀ i j, wC (atW l j) (atW l i) = - wC (atW l i) (atW l j)) ∧ ∀ i j k, wC (atW l i) (atW l j) ≤ 0 → wC (atW l j) (atW l k) ≤ 0 → wC (atW l i) (atW l k) ≤ 0 := ⟨fun i => (kC_is.zero _ _).2 rfl, fun i j => kC_is.flip _ _, fun i j k => kC_is.trans _ _ _⟩
theorem ahW_iff (l : List WrP) (i j : Nat) : ahW l i j = true ↔ (wC (atW l i) (atW l j) < 0 ∨ (wC (atW l i) (atW l j) = 0 ∧ j < i)) := by
  unfold ahW; simp
theorem ahW_ao (l : List WrP) (n : Nat) : AO (ahW l) n where
  irr := fun i _ => by
    cases h : ahW l i i with
    | false => rfl
    | true =>
      rcases (ahW_iff l i i).1 h with a | ⟨_, a⟩
      · rw [(wC_is l).1 i] at a; omega
      · omega
  tr := fun i j k h1 h2 => by
    rw [ahW_iff] at h1 h2 ⊢
    unfold wC at *
    rcases h1 with a | ⟨a, a'⟩ <;> rcases h2 with b | ⟨b, b'⟩
    · exact Or.inl (kC_is.lt a (by omega))
    · exact Or.inl (kC_is.lt a (by omega))
    · exact Or.inl (kC_is.lt2 (by omega) b)
    · refine Or.inr ⟨?_, by omega⟩
      have e1 := (kC_is.zero _ _).1 a
      have e2 := (kC_is.zero _ _).1 b
      exact (kC_is.zero _ _).2 (e1.trans e2)
  tot := fun i j _ _ hne => by
    rw [ahW_iff, ahW_iff, (wC_is l).2.1 i j]
    omega
set_option maxRecDepth 100000 in
set_option maxHeartbeats 8000000 in
/-- Order's function, its list in a box. -/
theorem ahead_any (w : World) (P1 : Nat) (a : Option Addr) (c : Nat) (l : List WrP) (hP : P1 < w.heap.size) (hc : w.cell? ⟨P1, 0, none⟩ = some (.slice a l.length c)) (hl : WIn w a l) (hn : l.length ≤ 4611686018427387904) :
    AhA w 40 #[.pointer (some ⟨P1, 0, none⟩)] l.length (ahW l) := by
  intro i j W hi hj hB
  show Calls Tryz.prog 40 #[.int .i64 (i : Int), .int .i64 (j : Int), .pointer (some ⟨P1, 0, none⟩)] W _
  have gx := atW_some hi
  have gy := atW_some hj
  obtain ⟨b, off, tx, cx, e1, hb, ax, fx⟩ := hl.at hB gx
  obtain ⟨b', off', ty, cy, e2, _, ay, fy⟩ := hl.at hB gy
  rw [e1] at e2
  injection e2 with e2
  injection e2 with e3 e4
  subst e3 e4
  have RES : Hid (ahW l i j = (decide (wC (atW l i) (atW l j) < 0) || (decide (wC (atW l i) (atW l j) = 0) && decide (j < i)))) := rfl
  have CH : Hid (∀ W', Below w.heap.size w W' → Calls Tryz.prog 41 #[wV (atW l i) tx cx, wV (atW l j) ty cy] W' fun e w' => e = .returned (.int .i64 (wC (atW l i) (atW l j))) ∧ Below W'.heap.size W' w') := fun W' hW' => bcompare_any _ _ tx ty cx cy W' (fx W' hW').2 (fy W' hW').2
  generalize ahW l i j = bv at RES ⊢
  generalize wC (atW l i) (atW l j) = cv at RES CH
  generalize atW l i = x at *
  generalize atW l j = y at *
  have a0 : W.cell? ⟨P1, 0, none⟩ = some (.slice (some ⟨b, off, none⟩) l.length c) := by rw [hB.cell (p := ⟨P1, 0, none⟩) hP, ← e1]; exact hc
  have pl : P1 < W.heap.size := Nat.lt_of_lt_of_le hP hB.size
  have bl : b < W.heap.size := Nat.lt_of_lt_of_le hb hB.size
  have BH : Hid (Below w.heap.size w W) := hB
  have i0 : (0 : Int) ≤ (i : Int) := by omega
  have j0 : (0 : Int) ≤ (j : Int) := by omega
  have iI : (i : Int) < (l.length : Int) := by omega
  have jI : (j : Int) < (l.length : Int) := by omega
  unfold wV at CH
  unfold WAt at ax ay
  generalize x.s.t.length = nx at *
  generalize y.s.t.length = ny at *
  generalize l.length = n at *
  clear hl hc hB gx gy fx fy hP hb
  obtain ⟨x1, x2, x3, x4, x5, x6⟩ := ax
  obtain ⟨y1, y2, y3, y4, y5, y6⟩ := ay
  go_enter Tryz.func40, Tryz.ntmps40
  go_wp2_with fail
  refine wp_region_noPanic ?_
  refine wp_region_held_drew (S := fun W => (W.cell? ⟨P1, 0, none⟩ = some (.slice (some ⟨b, off, none⟩) n c) ∧ W.cell? ⟨b, off + i * 6, none⟩ = some (.string x.s.m) ∧ W.cell? ⟨b, off + i * 6 + 1, none⟩ = some (.slice tx nx cx) ∧ W.cell? ⟨b, off + i * 6 + 2, none⟩ = some (.string x.s.f) ∧ W.cell? ⟨b, off + i * 6 + 3, none⟩ = some (.int .i64 x.tm) ∧ W.cell? ⟨b, off + i * 6 + 4, none⟩ = some (.int .u8 (x.kd : Int)) ∧ W.cell? ⟨b, off + i * 6 + 5, none⟩ = some (.int .i64 x.n)) ∧ W.cell? ⟨b, off + j * 6, none⟩ = some (.string y.s.m) ∧ W.cell? ⟨b, off + j * 6 + 1, none⟩ = some (.slice ty ny cy) ∧ W.cell? ⟨b, off + j * 6 + 2, none⟩ = some (.string y.s.f) ∧ W.cell? ⟨b, off + j * 6 + 3, none⟩ = some (.int .i64 y.tm) ∧ W.cell? ⟨b, off + j * 6 + 4, none⟩ = some (.int .u8 (y.kd : Int)) ∧ W.cell? ⟨b, off + j * 6 + 5, none⟩ = some (.int .i64 y.n)) (by kernel_rfl) ⟨⟨a0, x1, x2, x3, x4, x5, x6⟩, y1, y2, y3, y4, y5, y6⟩ (fun hHeld => ?_)
  refine zT 0 (v := ?_) rfl ?_ ?_
  rotate_left 1
  · (intro w0 hSw; (try dsimp only at hSw); obtain ⟨⟨s0, s1, s2, s3, s4, s5, s6⟩, t1, t2, t3, t4, t5, t6⟩ := hSw; go_simp; try with_reducible rfl)
  (try simp only [z1, z2, z3]); (try simp only [Act.put, z4, z5, z6])
  refine zT 1 (v := ?_) rfl ?_ ?_
  rotate_left 1
  · (intro w0 hSw; (try dsimp only at hSw); obtain ⟨⟨s0, s1, s2, s3, s4, s5, s6⟩, t1, t2, t3, t4, t5, t6⟩ := hSw; go_simp; try with_reducible rfl)
  (try simp only [z1, z2, z3]); (try simp only [Act.put, z4, z5, z6])
  refine zT 2 (v := ?_) rfl ?_ ?_
  rotate_left 1
  · (intro w0 hSw; (try dsimp only at hSw); obtain ⟨⟨s0, s1, s2, s3, s4, s5, s6⟩, t1, t2, t3, t4, t5, t6⟩ := hSw; go_simp; try with_reducible rfl)
  (try simp only [z1, z2, z3]); (try simp only [Act.put, z4, z5, z6])
  refine zT 3 (v := ?_) rfl ?_ ?_
  rotate_left 1
  · (intro w0 hSw; (try dsimp only at hSw); obtain ⟨⟨s0, s1, s2, s3, s4, s5, s6⟩, t1, t2, t3, t4, t5, t6⟩ := hSw; go_simp; try with_reducible rfl)
  (try simp only [z1, z2, z3]); (try simp only [Act.put, z4, z5, z6])
  refine zT 4 (v := ?_) rfl ?_ ?_
  rotate_left 1
  · (intro w0 hSw; (try dsimp only at hSw); obtain ⟨⟨s0, s1, s2, s3, s4, s5, s6⟩, t1, t2, t3, t4, t5, t6⟩ := hSw; go_simp; try with_reducible rfl)
  (try simp only [z1, z2, z3]); (try simp only [Act.put, z4, z5, z6])
  refine zT 5 (v := ?_) rfl ?_ ?_
  rotate_left 1
  · (intro w0 hSw; (try dsimp only at hSw); obtain ⟨⟨s0, s1, s2, s3, s4, s5, s6⟩, t1, t2, t3, t4, t5, t6⟩ := hSw; go_simp; try with_reducible rfl)
  (try simp only [z1, z2, z3]); (try simp only [Act.put, z4, z5, z6])
  refine zT 6 (v := ?_) rfl ?_ ?_
  rotate_left 1
  · (intro w0 hSw; (try dsimp only at hSw); obtain ⟨⟨s0, s1, s2, s3, s4, s5, s6⟩, t1, t2, t3, t4, t5, t6⟩ := hSw; go_simp; try with_reducible rfl)
  (try simp only [z1, z2, z3]); (try simp only [Act.put, z4, z5, z6])
  refine zT 7 (v := ?_) rfl ?_ ?_
  rotate_left 1
  · (intro w0 hSw; (try dsimp only at hSw); obtain ⟨⟨s0, s1, s2, s3, s4, s5, s6⟩, t1, t2, t3, t4, t5, t6⟩ := hSw; go_simp; try with_reducible rfl)
  (try simp only [z1, z2, z3]); (try simp only [Act.put, z4, z5, z6])
  refine wpAnyH_ready (rs := [8]) (by kernel_rfl) (by simp) ?_
  refine AllReadyH.cons (o := _) rfl (fun K hK => ?_) AllReadyH.nil
  go_simp
  refine Calls.mono (CH.out _ (show Below w.heap.size w W.drew from BH.out.drew)) ?_
  rintro e w' ⟨rfl, BB⟩
  try dsimp only
  refine hK _ _ ?_ (fun hHeld => ?_)
  · exact ⟨⟨by rw [BB.cell (p := ⟨P1, 0, none⟩) pl]; exact a0, by rw [BB.cell (p := ⟨b, off + i * 6, none⟩) bl]; exact x1, by rw [BB.cell (p := ⟨b, off + i * 6 + 1, none⟩) bl]; exact x2, by rw [BB.cell (p := ⟨b, off + i * 6 + 2, none⟩) bl]; exact x3, by rw [BB.cell (p := ⟨b, off + i * 6 + 3, none⟩) bl]; exact x4, by rw [BB.cell (p := ⟨b, off + i * 6 + 4, none⟩) bl]; exact x5, by rw [BB.cell (p := ⟨b, off + i * 6 + 5, none⟩) bl]; exact x6⟩, by rw [BB.cell (p := ⟨b, off + j * 6, none⟩) bl]; exact y1, by rw [BB.cell (p := ⟨b, off + j * 6 + 1, none⟩) bl]; exact y2, by rw [BB.cell (p := ⟨b, off + j * 6 + 2, none⟩) bl]; exact y3, by rw [BB.cell (p := ⟨b, off + j * 6 + 3, none⟩) bl]; exact y4, by rw [BB.cell (p := ⟨b, off + j * 6 + 4, none⟩) bl]; exact y5, by rw [BB.cell (p := ⟨b, off + j * 6 + 5, none⟩) bl]; exact y6⟩
  clear hK K
  (try simp only [z1, z2, z3]); (try simp only [Act.put, z4, z5, z6])
  refine zT 9 (v := ?_) rfl ?_ ?_
  rotate_left 1
  · (intro w0 hSw; (try dsimp only at hSw); obtain ⟨⟨s0, s1, s2, s3, s4, s5, s6⟩, t1, t2, t3, t4, t5, t6⟩ := hSw; go_simp; try with_reducible rfl)
  (try simp only [z1, z2, z3]); (try simp only [Act.put, z4, z5, z6])
  refine wpAnyH_done (by kernel_rfl) ?_ _
  refine NoPanic.normal ?_
  have fin : Hid (Below W.heap.size W w') := (show Below W.heap.size W W.drew from (Below.refl _ W).drew).trans BB
  clear BB BH CH a0 x1 x2 x3 x4 x5 x6 y1 y2 y3 y4 y5 y6 hHeld
  by_cases h1 : cv < 0
  · have h1d : decide (cv < 0) = true := decide_eq_true h1
    have r : Hid (bv = true) := by have := RES.out; rw [h1d] at this; show bv = true; simpa using this
    clear RES
    go_wp2_with fail
    go_ret
    exact ⟨by rw [r.out]; rfl, fin.out⟩
  · have h1d : decide (cv < 0) = false := decide_eq_false h1
    by_cases h2 : cv = 0
    · have h2b : (cv == 0) = true := by simpa using h2
      have r : Hid (bv = decide (j < i)) := by have := RES.out; rw [h1d, decide_eq_true h2] at this; show bv = decide (j < i); simpa using this
      clear RES
      subst h2
      by_cases h3 : j < i
      · have h3I : (i : Int) > (j : Int) := by omega
        have h3J : (j : Int) < (i : Int) := by omega
        have r2 : Hid (bv = true) := by have := r.out; rw [decide_eq_true h3] at this; exact this
        clear r
        go_wp2_with fail
        go_ret
        exact ⟨by rw [r2.out]; rfl, fin.out⟩
      · have h3I : ¬ (i : Int) > (j : Int) := by omega
        have h3J : ¬ (j : Int) < (i : Int) := by omega
        have r2 : Hid (bv = false) := by have := r.out; rw [decide_eq_false h3] at this; exact this
        clear r
        go_wp2_with fail
        go_ret
        exact ⟨by rw [r2.out]; rfl, fin.out⟩
    · have h2b : (cv == 0) = false := by simpa using h2
      have r : Hid (bv = false) := by have := RES.out; rw [h1d, decide_eq_false h2] at this; show bv = false; simpa using this
      clear RES h2
      go_wp2_with fail
      go_ret
      exact ⟨by rw [r.out]; rfl, fin.out⟩
end Go.Proofs.YtepakgfdakeibaaGreatDoor

namespace Go.Proofs.YtepakgfdakeibaaGreatDoor
open Go.RowKit _root_.Go.Proofs.YtepakgfdakeibaaGreatDoor.So
set_option linter.unusedVariables false
set_option linter.unusedSimpArgs false
/-! ### what Order tells, plain: of each series and time the last, in order -/
def kV (x : WrP) : (SerP × Int) × (Nat × Int) := ((x.s, x.tm), (x.kd, x.n))
/-- of the first k places in order those that begin a key. -/
def ordL (l : List WrP) (out : List Nat) : Nat → List WrP
  | 0 => []
  | k + 1 => ordL l out k ++ (if k = 0 ∨ wC (atW l (out.getD (k - 1) 0)) (atW l (out.getD k 0)) ≠ 0 then [atW l (out.getD k 0)] else [])
theorem ordL_len (l : List WrP) (out : List Nat) : ∀ k, (ordL l out k).length ≤ k
  | 0 => Nat.le_refl _
  | k + 1 => by
    have := ordL_len l out k
    unfold ordL
    rw [List.length_append]
    split <;> simp <;> omega
/-! ### samples appended -/
abbrev WrA := WrP × Option Addr × Nat
def encW : List WrA → List Value
  | [] => []
  | t :: r => [.string t.1.s.m, .slice t.2.1 t.1.s.t.length t.2.2, .string t.1.s.f, .int .i64 t.1.tm, .int .u8 (t.1.kd : Int), .int .i64 t.1.n] ++ encW r
theorem encW_append (a b : List WrA) : encW (a ++ b) = encW a ++ encW b := by
  induction a with
  | nil => rfl
  | cons s r ih => simp [encW, ih]
theorem encW_len (l : List WrA) : (encW l).length = l.length * 6 := by
  induction l with
  | nil => rfl
  | cons s r ih => simp only [encW, List.length_append, ih, List.length_cons, List.length_nil]; omega
theorem encW_one (l : List WrA) : ∀ u ∈ encW l, u.oneCell' = true := by
  induction l with
  | nil => intro u hu; cases hu
  | cons s r ih =>
    intro u hu
    simp only [encW, List.mem_append, List.mem_cons, List.not_mem_nil, or_false] at hu
    rcases hu with (rfl | rfl | rfl | rfl | rfl | rfl) | hu
    · rfl
    · rfl
    · rfl
    · rfl
    · rfl
    · rfl
    · exact ih u hu
theorem encW_get (l : List WrA) (i : Nat) (s : WrA) (h : l[i]? = some s) : (encW l)[i * 6]? = some (.string s.1.s.m) ∧ (encW l)[i * 6 + 1]? = some (.slice s.2.1 s.1.s.t.length s.2.2) ∧ (encW l)[i * 6 + 2]? = some (.string s.1.s.f) ∧ (encW l)[i * 6 + 3]? = some (.int .i64 s.1.tm) ∧ (encW l)[i * 6 + 4]? = some (.int .u8 (s.1.kd : Int)) ∧ (encW l)[i * 6 + 5]? = some (.int .i64 s.1.n) := by
  induction l generalizing i with
  | nil => simp at h
  | cons a r ih =>
    cases i with
    | zero => simp at h; subst h; simp [encW]
    | succ i =>
      simp at h
      have := ih i h
      simp only [encW]
      rw [show (i + 1) * 6 = i * 6 + 6 by omega]
      simpa using this
theorem wr_info : (Tryz.prog.info? 52).map (fun i => (i.zero, i.bytes, i.size)) = some (some (.agg #[.string ⟨#[]⟩, .slice none 0 0, .string ⟨#[]⟩, .int .i64 0, .int .u8 0, .int .i64 0]), 80, 6) := by kernel_rfl
/-- a row of samples of one's own, each with its tags somewhere. -/
def OW (w : World) (B : Nat) (v : Value) (L : List WrA) : Prop := w.ownsRow B 52 6 v L.length (encW L) ∧ ∀ t ∈ L, SerIn w t.2.1 t.1.s
theorem OW.nil (w : World) (B : Nat) : OW w B (.slice none 0 0) [] := ⟨⟨rfl, Or.inl ⟨rfl, rfl⟩⟩, fun t h => by cases h⟩
theorem OW.below {w w' : World} {B : Nat} {v : Value} {L : List WrA} (h : OW w B v L) (hb : Below w.heap.size w w') : OW w' B v L := by
  refine ⟨⟨h.1.1, ?_⟩, fun t ht => (h.2 t ht).belowW hb⟩
  rcases h.1.2 with h2 | ⟨g, cap, cur, e1, e2, e3, e4⟩
  · exact Or.inl h2
  · exact Or.inr ⟨g, cap, cur, e1, e2, by rw [hb.block g (Array.getElem?_eq_some_iff.1 e3).1]; exact e3, e4⟩
theorem OW.win {w : World} {B : Nat} {v : Value} {L : List WrA} (h : OW w B v L) : ∃ a cap, v = .slice a L.length cap ∧ WIn w a (L.map (·.1)) := by
  rcases h.1.2 with ⟨e, e0⟩ | ⟨g, cap, cur, e1, _, hg, hc, _⟩
  · exact ⟨none, 0, by rw [e, e0], Or.inl (by rw [List.eq_nil_of_length_eq_zero e0]; rfl)⟩
  · subst e1
    have hcs := World.ownsRow.cells h.1 (g := g) rfl
    refine ⟨some ⟨g, 0, none⟩, cap, rfl, Or.inr ⟨g, 0, rfl, (World.ownsRow.lt h.1 g rfl).2, fun i x hx => ?_⟩⟩
    rw [List.getElem?_map, Option.map_eq_some_iff] at hx
    obtain ⟨t, ht, rfl⟩ := hx
    obtain ⟨e1, e2, e3, e4, e5, e6⟩ := encW_get L i t ht
    have k1 := hcs _ _ e1
    have k2 := hcs _ _ e2
    have k3 := hcs _ _ e3
    have k4 := hcs _ _ e4
    have k5 := hcs _ _ e5
    have k6 := hcs _ _ e6
    rw [tag_add, Nat.zero_add] at k1 k2 k3 k4 k5 k6
    rw [Nat.zero_add]
    exact ⟨t.2.1, t.2.2, ⟨k1, k2, k3, k4, k5, k6⟩, h.2 t (List.mem_of_getElem? ht)⟩
/-- one more. -/
theorem app1W (W : World) (B : Nat) (v : Value) (L : List WrA) (h : OW W B v L) (hB : B ≤ W.heap.size) (t : WrA) (ht : SerIn W t.2.1 t.1.s) (hn : L.length + 1 ≤ 1099511627776) :
    ∃ a c w', (Builtin.append_ #[22, 22] 22 #[v, .slice (some ⟨W.heap.size, 0, none⟩) 1 1]).run Tryz.prog (W.alloc (.cells #[.string t.1.s.m, .slice t.2.1 t.1.s.t.length t.2.2, .string t.1.s.f, .int .i64 t.1.tm, .int .u8 (t.1.kd : Int), .int .i64 t.1.n] 52)) = .ok (.slice a (L.length + 1) c) w' ∧ w'.ownsRow B 52 6 (.slice a (L.length + 1) c) (L ++ [t]).length (encW (L ++ [t])) ∧ W.grownBy w' (if B ≤ B then v.ownBlock else none) ∧ Below B W w' := by
  have b1 : Below W.heap.size W (W.alloc (.cells #[.string t.1.s.m, .slice t.2.1 t.1.s.t.length t.2.2, .string t.1.s.f, .int .i64 t.1.tm, .int .u8 (t.1.kd : Int), .int .i64 t.1.n] 52)) := (Below.refl _ W).alloc (Nat.le_refl _) _
  have ho2 := (h.below b1).1
  obtain ⟨i, i1, i0⟩ := Option.map_eq_some_iff.1 wr_info
  have i2 : i.zero = some (.agg #[.string ⟨#[]⟩, .slice none 0 0, .string ⟨#[]⟩, .int .i64 0, .int .u8 0, .int .i64 0]) := congrArg (·.1) i0
  have i3 : i.bytes = 80 := congrArg (·.2.1) i0
  have i4 : i.size = 6 := congrArg (·.2.2) i0
  have hml : maxLen = 9223372036854775807 := by decide
  have hB2 := Nat.le_trans hB b1.size
  obtain ⟨g, cap, w', hr, own, gr, hat, hlt⟩ := run_append_lies (P := Tryz.prog) _ 22 22 B 52 i (.agg #[.string ⟨#[]⟩, .slice none 0 0, .string ⟨#[]⟩, .int .i64 0, .int .u8 0, .int .i64 0]) 6 80 Tryz.underlying22 i1 i2 i4 i3 rfl (by omega) v L.length (encW L) ho2 ⟨W.heap.size, 0, none⟩ 1 1 (encW [t]) rfl (fun j u hj => by
    rcases j with _ | _ | _ | _ | _ | _ | j <;> simp [encW] at hj <;> (try (subst hj; simp [go_sem]))) (encW_one _) (by omega) (by omega) (by omega) hB2 _ rfl
  refine ⟨_, cap, w', hr, ?_, ?_, (b1.mono hB).trans ((Below.refl B _).grown gr hB2 (fun k e => (World.ownsRow.lt ho2 k e).1))⟩
  · rw [List.length_append, List.length_singleton, encW_append]; exact own
  · rw [if_pos (Nat.le_refl _)]
    exact ⟨gr.os, gr.tape, gr.output, Nat.le_trans b1.size gr.size, fun k hk hne => by rw [gr.block k (Nat.lt_of_lt_of_le hk b1.size) hne]; exact b1.block k hk⟩
end Go.Proofs.YtepakgfdakeibaaGreatDoor

namespace Go.Proofs.YtepakgfdakeibaaGreatDoor
open Go.RowKit _root_.Go.Proofs.YtepakgfdakeibaaGreatDoor.So
set_option linter.unusedVariables false
set_option linter.unusedSimpArgs false
theorem TgIn.grownW {w w' : World} {a : Option Addr} {l : List TagP} {row : Option Nat} (h : TgIn w a l) (hg : w.grownBy w' row) (hne : l ≠ [] → ∀ ad, a = some ad → row ≠ some ad.block) : TgIn w' a l := by
  by_cases e : l = []
  · exact Or.inl e
  · rcases h with h | ⟨b, off, ha, hb, hc⟩
    · exact absurd h e
    · have hk : w'.heap[b]? = w.heap[b]? := hg.block b hb (fun q => hne e _ ha q.symm)
      refine Or.inr ⟨b, off, ha, Nat.lt_of_lt_of_le hb hg.size, fun i t ht => ?_⟩
      obtain ⟨k1, k2⟩ := hc i t ht
      exact ⟨by rw [World.cell?_of_block (w := w) (a := ⟨b, off + i * 2, none⟩) hk]; exact k1, by rw [World.cell?_of_block (w := w) (a := ⟨b, off + i * 2 + 1, none⟩) hk]; exact k2⟩
/-- and no tags lie in the row's own block. -/
def OW2 (w : World) (B : Nat) (v : Value) (L : List WrA) : Prop := OW w B v L ∧ ∀ t ∈ L, t.1.s.t ≠ [] → ∀ ad, t.2.1 = some ad → v.ownBlock ≠ some ad.block
theorem OW2.nil (w : World) (B : Nat) : OW2 w B (.slice none 0 0) [] := ⟨OW.nil w B, fun t h => by cases h⟩
theorem OW2.below {w w' : World} {B : Nat} {v : Value} {L : List WrA} (h : OW2 w B v L) (hb : Below w.heap.size w w') : OW2 w' B v L := ⟨h.1.below hb, h.2⟩
theorem app2W (W : World) (B : Nat) (v : Value) (L : List WrA) (h : OW2 W B v L) (hB : B ≤ W.heap.size) (t : WrA) (ht : SerIn W t.2.1 t.1.s) (htb : t.1.s.t ≠ [] → ∀ ad, t.2.1 = some ad → v.ownBlock ≠ some ad.block) (hn : L.length + 1 ≤ 1099511627776) :
    ∃ a c w', (Builtin.append_ #[22, 22] 22 #[v, .slice (some ⟨W.heap.size, 0, none⟩) 1 1]).run Tryz.prog (W.alloc (.cells #[.string t.1.s.m, .slice t.2.1 t.1.s.t.length t.2.2, .string t.1.s.f, .int .i64 t.1.tm, .int .u8 (t.1.kd : Int), .int .i64 t.1.n] 52)) = .ok (.slice a (L.length + 1) c) w' ∧ OW2 w' B (.slice a (L.length + 1) c) (L ++ [t]) ∧ Below B W w' := by
  have b1 : Below W.heap.size W (W.alloc (.cells #[.string t.1.s.m, .slice t.2.1 t.1.s.t.length t.2.2, .string t.1.s.f, .int .i64 t.1.tm, .int .u8 (t.1.kd : Int), .int .i64 t.1.n] 52)) := (Below.refl _ W).alloc (Nat.le_refl _) _
  have ho2 := (h.1.below b1).1
  obtain ⟨i, i1, i0⟩ := Option.map_eq_some_iff.1 wr_info
  have i2 : i.zero = some (.agg #[.string ⟨#[]⟩, .slice none 0 0, .string ⟨#[]⟩, .int .i64 0, .int .u8 0, .int .i64 0]) := congrArg (·.1) i0
  have i3 : i.bytes = 80 := congrArg (·.2.1) i0
  have i4 : i.size = 6 := congrArg (·.2.2) i0
  have hml : maxLen = 9223372036854775807 := by decide
  have hB2 := Nat.le_trans hB b1.size
  obtain ⟨g, cap, w', hr, own, gr, hat, hlt⟩ := run_append_lies (P := Tryz.prog) _ 22 22 B 52 i (.agg #[.string ⟨#[]⟩, .slice none 0 0, .string ⟨#[]⟩, .int .i64 0, .int .u8 0, .int .i64 0]) 6 80 Tryz.underlying22 i1 i2 i4 i3 rfl (by omega) v L.length (encW L) ho2 ⟨W.heap.size, 0, none⟩ 1 1 (encW [t]) rfl (fun j u hj => by
    rcases j with _ | _ | _ | _ | _ | _ | j <;> simp [encW] at hj <;> (try (subst hj; simp [go_sem]))) (encW_one _) (by omega) (by omega) (by omega) hB2 _ rfl
  have gW : W.grownBy w' v.ownBlock := ⟨gr.os, gr.tape, gr.output, Nat.le_trans b1.size gr.size, fun k hk hne => by rw [gr.block k (Nat.lt_of_lt_of_le hk b1.size) hne]; exact b1.block k hk⟩
  have all : ∀ u ∈ L ++ [t], SerIn W u.2.1 u.1.s ∧ (u.1.s.t ≠ [] → ∀ ad, u.2.1 = some ad → v.ownBlock ≠ some ad.block) := fun u hu => by
    rcases List.mem_append.1 hu with q | q
    · exact ⟨h.1.2 u q, h.2 u q⟩
    · rw [List.mem_singleton.1 q]; exact ⟨ht, htb⟩
  refine ⟨some ⟨g, 0, none⟩, cap, w', hr, ⟨⟨?_, fun u hu => ⟨(all u hu).1.1.grownW gW (all u hu).2, (all u hu).1.2⟩⟩, fun u hu he ad had => ?_⟩, (b1.mono hB).trans ((Below.refl B _).grown gr hB2 (fun k e => (World.ownsRow.lt ho2 k e).1))⟩
  · rw [List.length_append, List.length_singleton, encW_append]; exact own
  · rcases hat with e | e
    · intro q
      exact (all u hu).2 he ad had (e.trans q)
    · intro q
      have q1 : g = ad.block := by simpa [Value.ownBlock] using q
      rcases (all u hu).1.1 with q2 | ⟨b, off, q3, q4, _⟩
      · exact he q2
      · rw [had] at q3
        injection q3 with q3
        rw [q3] at q1
        have : (W.alloc (.cells #[.string t.1.s.m, .slice t.2.1 t.1.s.t.length t.2.2, .string t.1.s.f, .int .i64 t.1.tm, .int .u8 (t.1.kd : Int), .int .i64 t.1.n] 52)).heap.size = W.heap.size + 1 := by simp
        rw [this] at e
        simp only at q1
        omega
theorem make_n (n : Nat) (h : n ≤ 1099511627776) (w : World) : (Instr.makeSlice 78 (.int .i64 (n : Int)) (.int .i64 (n : Int))).run Tryz.prog w = .ok (.slice (some ⟨w.heap.size, 0, none⟩) n n) (w.alloc (.cells (madeCells #[.int .i64 0] n) 3)) := by
  obtain ⟨i, i1, i0⟩ := Option.map_eq_some_iff.1 int_info
  have i2 : i.zero = some (.int .i64 0) := congrArg (·.1) i0
  have i3 : i.bytes = 8 := congrArg (·.2.1) i0
  have i4 : i.size = 1 := congrArg (·.2.2) i0
  have := run_make (P := Tryz.prog) w 78 3 i (.int .i64 0) Tryz.underlying78 i1 i2 .i64 .i64 (n : Int) (n : Int) (by omega) (by omega) (by rw [i3]; omega) (by omega)
  rw [i4] at this
  simpa [Value.cells] using this
/-- places as they are filled in: k of n. -/
structure FP (w : World) (b0 n k : Nat) (wr : World) : Prop where
  c : ∀ j : Nat, j < n → wr.cell? ⟨b0, j, none⟩ = some (.int .i64 (if j < k then (j : Int) else 0))
  f : ∀ j : Nat, j < n → wr.frozen? ⟨b0, j, none⟩ = false
  b : Below w.heap.size w wr
  l : b0 < wr.heap.size
theorem FP.more {w : World} {b0 n k : Nat} {wr : World} (h : FP w b0 n k wr) (hk : k < n) (hb : w.heap.size ≤ b0) : FP w b0 n (k + 1) (wr.setCell ⟨b0, k, none⟩ (.int .i64 (k : Int))) := by
  refine ⟨fun j hj => ?_, fun j hj => by rw [World.frozen?_setCell]; exact h.f j hj, h.b.setCell (p := ⟨b0, k, none⟩) hb _, by simpa using h.l⟩
  by_cases e : j = k
  · subst e; rw [World.cell?_setCell_same _ _ _ (h.c j hj), if_pos (by omega)]
  · rw [World.cell?_setCell_other _ _ _ _ (by intro q; injection q; omega), h.c j hj]
    by_cases q : j < k
    · rw [if_pos q, if_pos (by omega)]
    · rw [if_neg q, if_neg (by omega)]
theorem FP.start (w : World) (n : Nat) : FP w w.heap.size n 0 (w.alloc (.cells (madeCells #[.int .i64 0] n) 3)) := by
  have hz : ∀ j, j < n → (madeCells #[Value.int .i64 0] n)[j]? = some (.int .i64 0) := fun j hj => by
    rw [← Array.getElem?_toList, toList_madeCells_one]; simp [hj]
  refine ⟨fun j hj => ?_, fun j hj => frozen_of_row _ w.heap.size j _ 3 (heap_alloc_new w _), (Below.refl _ w).alloc (Nat.le_refl _) _, by simp⟩
  rw [cell_of_row _ w.heap.size j _ 3 (0, 0) (heap_alloc_new w _), if_neg (by omega)]; exact hz j hj
theorem FP.done {w : World} {b0 n : Nat} {wr : World} (h : FP w b0 n n wr) : PW wr b0 n := ⟨h.l, fun j hj => by rw [h.c j hj, if_pos hj]⟩
/-- what stands while the samples are told. -/
structure OD1 (w3 : World) (l : List WrP) (out : List Nat) (k : Nat) (v : Value) (L : List WrA) (wr : World) : Prop where
  row : OW2 wr w3.heap.size v L
  is : L.map (·.1) = ordL l out k
  bl : Below w3.heap.size w3 wr
theorem OD1.below {w3 : World} {l : List WrP} {out : List Nat} {k : Nat} {v : Value} {L : List WrA} {wr wx : World} (s : OD1 w3 l out k v L wr) (hB : Below wr.heap.size wr wx) : OD1 w3 l out k v L wx := ⟨s.row.below hB, s.is, s.bl.trans (hB.mono s.bl.size)⟩
theorem ordL_skip {l : List WrP} {out : List Nat} {k q p : Nat} (hk : 0 < k) (hq : out[k - 1]? = some q) (hp : out[k]? = some p) (h : wC (atW l q) (atW l p) = 0) : ordL l out (k + 1) = ordL l out k := by
  conv => lhs; unfold ordL
  rw [if_neg, List.append_nil]
  rw [List.getD_eq_getElem?_getD, List.getD_eq_getElem?_getD, hq, hp]
  rintro (e | e)
  · omega
  · exact e h
theorem ordL_new {l : List WrP} {out : List Nat} {k p : Nat} (hp : out[k]? = some p) (h : k = 0 ∨ ∃ q, out[k - 1]? = some q ∧ wC (atW l q) (atW l p) ≠ 0) : ordL l out (k + 1) = ordL l out k ++ [atW l p] := by
  conv => lhs; unfold ordL
  rw [if_pos]
  · rw [List.getD_eq_getElem?_getD, hp]; rfl
  · rcases h with e | ⟨q, hq, e⟩
    · exact Or.inl e
    · right; rw [List.getD_eq_getElem?_getD, List.getD_eq_getElem?_getD, hq, hp]; exact e
/-- slices.Clone of tags, whatever they are: in a block of their own. -/
theorem cloneW_any (a : Option Addr) (c : Nat) (l : List TagP) (w : World) (h : TgIn w a l) (hn : l.length ≤ 4398046511104) :
    Calls Tryz.prog 42 #[.slice a l.length c] w fun e w' => ∃ a' c', e = .returned (.slice a' l.length c') ∧ TgIn w' a' l ∧ (∀ ad, a' = some ad → w.heap.size ≤ ad.block) ∧ Below w.heap.size w w' := by
  cases a with
  | none =>
    obtain rfl : l = [] := by
      rcases h with e | ⟨b, off, e, _⟩
      · exact e
      · cases e
    exact (cloneT_nil c w).mono fun e w' hh => ⟨none, 0, hh.1, Or.inl rfl, (fun ad q => by cases q), by rw [hh.2]; exact Below.refl _ _⟩
  | some ad =>
    refine (cloneT_any ad c l w h hn).mono fun e w' hh => ?_
    obtain ⟨g, cap, h1, h2, h3, h4, h5⟩ := hh
    exact ⟨some ⟨g, 0, none⟩, cap, h1, by have := (OT.tr h4).tin; rw [atT_map] at this; exact this, (fun ad q => by cases q; exact h2), h5⟩
end Go.Proofs.YtepakgfdakeibaaGreatDoor

namespace Go.Proofs.YtepakgfdakeibaaGreatDoor
open Go.RowKit _root_.Go.Proofs.YtepakgfdakeibaaGreatDoor.So
set_option linter.unusedVariables false
set_option linter.unusedSimpArgs false
/-- what Order tells. -/
def OrdR (w w' : World) (l : List WrP) (e : Ending) : Prop := ∃ (out : List Nat) (L : List WrA) (v : Value), e = .returned v ∧ Sorted1 (ahW l) l.length out ∧ OW2 w' w.heap.size v L ∧ L.map (·.1) = ordL l out out.length ∧ Below w.heap.size w w'
set_option maxRecDepth 100000 in
set_option maxHeartbeats 16000000 in
theorem order_any (a : Option Addr) (c : Nat) (l : List WrP) (w : World) (hl : WIn w a l) (hn : l.length ≤ 549755813888) (hts : ∀ x ∈ l, x.s.t.length ≤ 4398046511104) :
    Calls Tryz.prog 19 #[.slice a l.length c] w fun e w' => OrdR w w' l e := by
  obtain ⟨P1, hP1⟩ : ∃ P, P = w.heap.size := ⟨_, rfl⟩
  obtain ⟨w1, hw1⟩ : ∃ w1, w1 = w.alloc (.cells #[.slice a l.length c] 22) := ⟨_, rfl⟩
  have B1 : Below w.heap.size w w1 := by rw [hw1]; exact (Below.refl _ w).alloc (Nat.le_refl _) _
  have s1 : w1.heap.size = P1 + 1 := by rw [hw1, hP1]; simp
  have c1 : w1.cell? ⟨P1, 0, none⟩ = some (.slice a l.length c) := by rw [hw1, hP1]; simp [go_sem]
  have B1H : Hid (Below w.heap.size w w1) := B1
  have s1H : Hid (w1.heap.size = P1 + 1) := s1
  have c1H : Hid (w1.cell? ⟨P1, 0, none⟩ = some (.slice a l.length c)) := c1
  have hlH : Hid (WIn w a l) := hl
  have htsH : Hid (∀ x ∈ l, x.s.t.length ≤ 4398046511104) := hts
  have hmk := make_n l.length (by omega)
  obtain ⟨b0, hb0⟩ : ∃ b, b = w1.heap.size := ⟨_, rfl⟩
  have hb2 : b0 = P1 + 1 := by rw [hb0, s1]
  have F0 : Hid (FP w1 b0 l.length 0 (w1.alloc (.cells (madeCells #[.int .i64 0] l.length) 3))) := by rw [hb0]; exact FP.start w1 l.length
  have hbw : Hid (w1.heap.size ≤ b0) := by rw [hb0]; exact Nat.le_refl _
  have c1' : ∀ o, (w1.alloc o).cell? ⟨P1, 0, none⟩ = some (.slice a l.length c) := fun o => by rw [((Below.refl w1.heap.size w1).alloc (Nat.le_refl _) o).cell (p := ⟨P1, 0, none⟩) (by show P1 < w1.heap.size; omega)]; exact c1
  obtain ⟨n, hnl⟩ : ∃ n, l.length = n := ⟨_, rfl⟩
  have hN : Hid (l.length = n) := hnl
  rw [hnl] at hn c1 hmk F0 c1H hw1 c1' ⊢
  clear hl hts B1 hnl s1
  go_enter Tryz.func19, Tryz.ntmps19
  go_wp2_with fail
  rw [← hw1, ← hP1]
  rw [← hb2]
  generalize w1.alloc (.cells (madeCells #[.int .i64 0] n) 3) = w2 at F0 ⊢
  clear hw1 hP1 hb0 hb2 hmk c1 c1'
  go_loopw [14] (fun v wr => ∃ k : Nat, v = .int .i64 (k : Int) ∧ k ≤ n ∧ Hid (FP w1 b0 n k wr)) (fun v _ => n - (intOf v).toNat)
  case atStart => exact ⟨0, rfl, Nat.zero_le _, F0⟩
  case round =>
    clear F0
    obtain ⟨k, rfl, hkn, hF⟩ := hrel
    have kw : IntKind.i64.wrap ((k : Int) + 1) = ((k + 1 : Nat) : Int) := IntWalk.i64_in _ (by omega)
    by_cases hk : k < n
    · have hkI : (k : Int) < (n : Int) := by omega
      have k0 : (0 : Int) ≤ (k : Int) := by omega
      have cc := hF.out.c k hk
      have ff := hF.out.f k hk
      have F2 : Hid (FP w1 b0 n (k + 1) (wr.setCell ⟨b0, k, none⟩ (.int .i64 (k : Int)))) := hF.out.more hk hbw.out
      clear hF
      go_wp2_with fail
      exact ⟨⟨k + 1, by first | rfl | simp, by omega, F2⟩, by simp [intOf]; omega⟩
    · have hkI : ¬ (k : Int) < (n : Int) := by omega
      obtain rfl : k = n := by omega
      have Bw : Below w.heap.size w wr := B1H.out.trans (hF.out.b.mono B1H.out.size)
      have pcell : wr.cell? ⟨P1, 0, none⟩ = some (.slice a k c) := by rw [hF.out.b.cell (p := ⟨P1, 0, none⟩) (by show P1 < w1.heap.size; have := s1H.out; omega)]; exact c1H.out
      have pl : P1 < wr.heap.size := by have := s1H.out; have := hF.out.b.size; omega
      have CS : Hid (Calls Tryz.prog 39 #[.slice (some ⟨b0, 0, none⟩) k k, .func (.func 40) #[] #[.pointer (some ⟨P1, 0, none⟩)]] wr fun e w' => SrtR wr w' (ahW l) k e) := by
        have hA := ahead_any wr P1 a c l pl (by rw [hN.out]; exact pcell) (hlH.out.below Bw) (by rw [hN.out]; omega)
        rw [hN.out] at hA
        exact sorted_any wr b0 k P1 (ahW l) (ahW_ao l k) hA hF.out.done (by omega)
      have BwH : Hid (Below w.heap.size w wr) := Bw
      have plH : Hid (P1 < wr.heap.size ∧ wr.cell? ⟨P1, 0, none⟩ = some (.slice a k c)) := ⟨pl, pcell⟩
      clear hF Bw pcell pl
      go_wp2_with fail
      refine Calls.mono CS.out ?_
      rintro e w3 ⟨out, g, c', rfl, hsrt, hg, hcells, hB3⟩
      have pcell : w3.cell? ⟨P1, 0, none⟩ = some (.slice a k c) := by rw [hB3.cell (p := ⟨P1, 0, none⟩) plH.out.1]; exact plH.out.2
      have hP3 : Hid (∀ W, Below w3.heap.size w3 W → W.cell? ⟨P1, 0, none⟩ = some (.slice a k c)) := fun W hW => by rw [hW.cell (p := ⟨P1, 0, none⟩) (Nat.lt_of_lt_of_le plH.out.1 hB3.size)]; exact pcell
      have hcH : Hid (∀ (i p : Nat) W, out[i]? = some p → Below w3.heap.size w3 W → W.cell? ⟨g, i, none⟩ = some (.int .i64 (p : Int))) := fun i p W hi hW => by rw [hW.cell (p := ⟨g, i, none⟩) hg]; exact hcells i p hi
      have B3 : Hid (Below w.heap.size w w3) := BwH.out.trans (hB3.mono BwH.out.size)
      have hsH : Hid (Sorted1 (ahW l) k out) := hsrt
      have ple : Hid (P1 < w3.heap.size ∧ g < w3.heap.size) := ⟨Nat.lt_of_lt_of_le plH.out.1 hB3.size, hg⟩
      have D0 : Hid (OD1 w3 l out 0 (.slice none 0 0) [] w3) := ⟨OW2.nil _ _, rfl, Below.refl _ _⟩
      have m1 : out.length ≤ k := by
        have := nodup_leB out (List.range k) (by
          rw [List.nodup_iff_pairwise_ne]
          refine (List.Pairwise.and_mem.1 hsrt.ord).imp ?_
          rintro x y ⟨hx, hy, hxy⟩ e
          subst e
          rw [(ahW_ao l k).irr x ((hsrt.all x).1 hx)] at hxy
          cases hxy) (fun x hx => List.mem_range.2 ((hsrt.all x).1 hx))
        simpa using this
      clear hB3 hcells hg hsrt pcell CS plH BwH
      obtain ⟨m, hm⟩ : ∃ m, out.length = m := ⟨_, rfl⟩
      have hM : Hid (out.length = m) := hm
      rw [hm] at m1 ⊢
      clear hm
      go_wp2_with fail
      go_loopw [5, 27] (fun v5 v27 wr => ∃ (k2 z c3 : Nat) (a3 : Option Addr) (L : List WrA), v5 = .slice a3 z c3 ∧ v27 = .int .i64 (k2 : Int) ∧ k2 ≤ m ∧ Hid (OD1 w3 l out k2 (.slice a3 z c3) L wr)) (fun _ v27 _ => m - (intOf v27).toNat)
      case atStart => exact ⟨0, 0, 0, none, [], rfl, rfl, Nat.zero_le _, D0⟩
      case round =>
        clear D0
        obtain ⟨k2, z, c3, a3, L, rfl, rfl, hkm, hD0⟩ := hrel
        have kw : IntKind.i64.wrap ((k2 : Int) + 1) = ((k2 + 1 : Nat) : Int) := IntWalk.i64_in _ (by omega)
        by_cases hk2 : k2 < m
        · have hkI2 : (k2 : Int) < (m : Int) := by omega
          have k0 : (0 : Int) ≤ (k2 : Int) := by omega
          obtain ⟨p, hp⟩ : ∃ p, out[k2]? = some p := ⟨_, List.getElem?_eq_getElem (by have := hM.out; omega)⟩
          have hpH : Hid (out[k2]? = some p) := hp
          have hpn : p < k := (hsH.out.all p).1 (List.mem_of_getElem? hp)
          have p0 : (0 : Int) ≤ (p : Int) := by omega
          have pI : (p : Int) < (k : Int) := by omega
          have gx : l[p]? = some (atW l p) := atW_some (by rw [hN.out]; exact hpn)
          obtain ⟨b, off, tx, cx, e1, hb, _, fx⟩ := (hlH.out.below B3.out).at (Below.refl _ _) gx
          subst e1
          have hxt : (atW l p).s.t.length ≤ 4398046511104 := htsH.out _ (List.mem_of_getElem? gx)
          obtain ⟨x, hx⟩ : ∃ x, atW l p = x := ⟨_, rfl⟩
          rw [hx] at fx hxt
          have hxl : Hid (x = atW l p) := hx.symm
          obtain ⟨nx, hnx'⟩ : ∃ nx, x.s.t.length = nx := ⟨_, rfl⟩
          have hnx : Hid (x.s.t.length = nx) := hnx'
          have hat : Hid (∀ W, Below w3.heap.size w3 W → W.cell? ⟨g, k2, none⟩ = some (.int .i64 (p : Int)) ∧ W.cell? ⟨b, off + p * 6, none⟩ = some (.string x.s.m) ∧ W.cell? ⟨b, off + p * 6 + 1, none⟩ = some (.slice tx nx cx) ∧ W.cell? ⟨b, off + p * 6 + 2, none⟩ = some (.string x.s.f) ∧ W.cell? ⟨b, off + p * 6 + 3, none⟩ = some (.int .i64 x.tm) ∧ W.cell? ⟨b, off + p * 6 + 4, none⟩ = some (.int .u8 (x.kd : Int)) ∧ W.cell? ⟨b, off + p * 6 + 5, none⟩ = some (.int .i64 x.n)) := fun W hW => ⟨hcH.out k2 p W hp hW, by have := (fx W hW).1; unfold WAt at this; rw [hnx'] at this; exact this⟩
          have hser : Hid (∀ W, Below w3.heap.size w3 W → SerIn W tx x.s) := fun W hW => (fx W hW).2
          have hbH : Hid (b < w3.heap.size) := hb
          clear fx hx hnx' gx hb hp
          by_cases hk0 : k2 = 0
          · have hkz : ((k2 : Int) == 0) = true := by simp; omega
            have hk0H : Hid (k2 = 0) := hk0
            clear hk0
            obtain ⟨a0, _, _, _, _, _, _⟩ := hat.out wr hD0.out.bl
            go_wp2_with fail
            go_quiet (fail)
            generalize hwq : World.drewN wr _ = wq
            have hD : Hid (OD1 w3 l out k2 (.slice a3 z c3) L wq) := hD0.out.below (hwq ▸ bdrewB (Below.refl _ wr) _)
            clear hD0 hwq a0
            -- the sample goes in (world wq, state hD)
            obtain ⟨a0, x1, x2, x3, x4, x5, x6⟩ := hat.out wq hD.out.bl
            have pc := hP3.out wq hD.out.bl
            have serx : SerIn wq tx x.s := (hser.out wq hD.out.bl)
            have bA : Below wq.heap.size wq (wq.alloc (.cells #[.string x.s.m, .slice tx nx cx, .string x.s.f, .int .i64 x.tm, .int .u8 (x.kd : Int), .int .i64 x.n] 52)) := (Below.refl _ wq).alloc (Nat.le_refl _) _
            have CC : Hid (Calls Tryz.prog 42 #[.slice tx nx cx] (wq.alloc (.cells #[.string x.s.m, .slice tx nx cx, .string x.s.f, .int .i64 x.tm, .int .u8 (x.kd : Int), .int .i64 x.n] 52)) fun e w9 => ∃ a' c', e = .returned (.slice a' nx c') ∧ TgIn w9 a' x.s.t ∧ (∀ ad, a' = some ad → wq.heap.size + 1 ≤ ad.block) ∧ Below (wq.heap.size + 1) (wq.alloc (.cells #[.string x.s.m, .slice tx nx cx, .string x.s.f, .int .i64 x.tm, .int .u8 (x.kd : Int), .int .i64 x.n] 52)) w9) := by
              have := cloneW_any tx cx x.s.t (wq.alloc (.cells #[.string x.s.m, .slice tx nx cx, .string x.s.f, .int .i64 x.tm, .int .u8 (x.kd : Int), .int .i64 x.n] 52)) ((serx.belowW bA).1) hxt
              rw [hnx.out] at this
              rw [show (wq.alloc (.cells #[.string x.s.m, .slice tx nx cx, .string x.s.f, .int .i64 x.tm, .int .u8 (x.kd : Int), .int .i64 x.n] 52)).heap.size = wq.heap.size + 1 by simp] at this
              exact this
            have hfin : Hid (∀ (a' : Option Addr) (c' : Nat) (w5 : World), TgIn w5 a' x.s.t → (∀ ad, a' = some ad → wq.heap.size + 1 ≤ ad.block) → Below (wq.heap.size + 1) (wq.alloc (.cells #[.string x.s.m, .slice tx nx cx, .string x.s.f, .int .i64 x.tm, .int .u8 (x.kd : Int), .int .i64 x.n] 52)) w5 → ∃ a4 z4 c4 L4 w6, (Builtin.append_ #[22, 22] 22 #[.slice a3 z c3, .slice (some ⟨w5.heap.size, 0, none⟩) 1 1]).run Tryz.prog ((w5.setCell ⟨wq.heap.size, 1, none⟩ (.slice a' nx c')).alloc (.cells #[.string x.s.m, .slice a' nx c', .string x.s.f, .int .i64 x.tm, .int .u8 (x.kd : Int), .int .i64 x.n] 52)) = .ok (.slice a4 z4 c4) w6 ∧ OD1 w3 l out (k2 + 1) (.slice a4 z4 c4) L4 w6) := fun a' c' w5 t5 n5 b5 => by
              have sz : (wq.alloc (.cells #[.string x.s.m, .slice tx nx cx, .string x.s.f, .int .i64 x.tm, .int .u8 (x.kd : Int), .int .i64 x.n] 52)).heap.size = wq.heap.size + 1 := by simp
              have b5w : Below wq.heap.size wq w5 := bA.trans (b5.mono (by omega))
              have b5s : Below wq.heap.size wq (w5.setCell ⟨wq.heap.size, 1, none⟩ (.slice a' nx c')) := b5w.setCell (p := ⟨wq.heap.size, 1, none⟩) (Nat.le_refl _) _
              have hD5 := hD.out.below b5s
              have hts : TgIn (w5.setCell ⟨wq.heap.size, 1, none⟩ (.slice a' nx c')) a' x.s.t := by
                rcases t5 with q | ⟨bb, oo, q1, q2, q3⟩
                · exact Or.inl q
                · have q4 := n5 _ q1
                  simp only at q4
                  refine Or.inr ⟨bb, oo, q1, by simpa using q2, fun i t ht => ?_⟩
                  obtain ⟨r1, r2⟩ := q3 i t ht
                  exact ⟨by rw [World.cell?_setCell_other _ _ _ _ (by intro e; injection e; omega)]; exact r1, by rw [World.cell?_setCell_other _ _ _ _ (by intro e; injection e; omega)]; exact r2⟩
              have lz : L.length = z := by
                obtain ⟨_, _, e, _⟩ := hD.out.row.1.win
                injection e with _ e _
                exact e.symm
              have few : L.length ≤ k2 := by
                have := ordL_len l out k2
                rw [← hD.out.is, List.length_map] at this
                exact this
              obtain ⟨a4, c4, w6, q1, q2, q3⟩ := app2W _ w3.heap.size (.slice a3 z c3) L hD5.row (Nat.le_trans hD.out.bl.size b5s.size) (x, a', c') ⟨hts, serx.2⟩ (fun _ ad had e => by
                have h1 := n5 ad had
                rcases hD.out.row.1.1.2 with ⟨e1, _⟩ | ⟨g, _, _, e1, _, e3, _⟩
                · rw [e1] at e; cases e
                · rw [e1] at e
                  have h2 : g = ad.block := by simpa [Value.ownBlock] using e
                  have h3 := (Array.getElem?_eq_some_iff.1 e3).1
                  omega) (by omega)
              refine ⟨a4, L.length + 1, c4, L ++ [(x, a', c')], w6, ?_, q2, ?_, ?_⟩
              · have s5 : (w5.setCell ⟨wq.heap.size, 1, none⟩ (.slice a' nx c')).heap.size = w5.heap.size := by simp
                rw [s5] at q1
                simp only [hnx.out] at q1
                exact q1
              · rw [List.map_append, hD.out.is, ordL_new hpH.out (Or.inl hk0H.out)]
                congr 1
                show [x] = _
                rw [hxl.out]
              · exact hD5.bl.trans q3
            have hwb : Hid (∀ w5, Below (wq.heap.size + 1) (wq.alloc (.cells #[.string x.s.m, .slice tx nx cx, .string x.s.f, .int .i64 x.tm, .int .u8 (x.kd : Int), .int .i64 x.n] 52)) w5 → (w5.cell? ⟨wq.heap.size, 0, none⟩ = some (.string x.s.m) ∧ w5.cell? ⟨wq.heap.size, 1, none⟩ = some (.slice tx nx cx) ∧ w5.cell? ⟨wq.heap.size, 2, none⟩ = some (.string x.s.f) ∧ w5.cell? ⟨wq.heap.size, 3, none⟩ = some (.int .i64 x.tm) ∧ w5.cell? ⟨wq.heap.size, 4, none⟩ = some (.int .u8 (x.kd : Int)) ∧ w5.cell? ⟨wq.heap.size, 5, none⟩ = some (.int .i64 x.n)) ∧ w5.frozen? ⟨wq.heap.size, 1, none⟩ = false) := fun w5 b5 => by
              refine ⟨⟨?_, ?_, ?_, ?_, ?_, ?_⟩, ?_⟩
              · rw [b5.cell (p := ⟨wq.heap.size, 0, none⟩) (by show wq.heap.size < _; omega)]; simp [go_sem]
              · rw [b5.cell (p := ⟨wq.heap.size, 1, none⟩) (by show wq.heap.size < _; omega)]; simp [go_sem]
              · rw [b5.cell (p := ⟨wq.heap.size, 2, none⟩) (by show wq.heap.size < _; omega)]; simp [go_sem]
              · rw [b5.cell (p := ⟨wq.heap.size, 3, none⟩) (by show wq.heap.size < _; omega)]; simp [go_sem]
              · rw [b5.cell (p := ⟨wq.heap.size, 4, none⟩) (by show wq.heap.size < _; omega)]; simp [go_sem]
              · rw [b5.cell (p := ⟨wq.heap.size, 5, none⟩) (by show wq.heap.size < _; omega)]; simp [go_sem]
              · rw [b5.frozen (p := ⟨wq.heap.size, 1, none⟩) (by show wq.heap.size < _; omega)]; simp [go_sem]
            clear serx bA hD
            go_wp2_with fail
            refine Calls.mono CC.out ?_
            rintro e w5 ⟨a', c', rfl, t5, n5, b5⟩
            obtain ⟨⟨y1, y2, y3, y4, y5, y6⟩, y7⟩ := hwb.out w5 b5
            obtain ⟨a4, z4, c4, L4, w6, hr6, hD6⟩ := hfin.out a' c' w5 t5 n5 b5
            have hrH : Hid (∀ W, W = (w5.setCell ⟨wq.heap.size, 1, none⟩ (.slice a' nx c')).alloc (.cells #[.string x.s.m, .slice a' nx c', .string x.s.f, .int .i64 x.tm, .int .u8 (x.kd : Int), .int .i64 x.n] 52) → (Builtin.append_ #[22, 22] 22 #[.slice a3 z c3, .slice (some ⟨w5.heap.size, 0, none⟩) 1 1]).run Tryz.prog W = .ok (.slice a4 z4 c4) w6) := fun W e => by subst e; exact hr6
            have hD6H : Hid (OD1 w3 l out (k2 + 1) (.slice a4 z4 c4) L4 w6) := hD6
            clear t5 n5 b5 CC hwb hfin hr6 hD6 a0 pc x1 x2 x3 x4 x5 x6
            go_wp2_with (at_builtin; refine wpList_append_runB (by rfl) _ _ _ (by rfl) _ _ _ _ (by rfl) (by rfl) (hrH.out _ rfl) ?_)
            exact ⟨⟨k2 + 1, z4, c4, a4, L4, rfl, by first | rfl | simp, by omega, hD6H⟩, by simp [intOf]; omega⟩
          · have hkz : ((k2 : Int) == 0) = false := by simp; omega
            obtain ⟨q, hq⟩ : ∃ q, out[k2 - 1]? = some q := ⟨_, List.getElem?_eq_getElem (by have := hM.out; omega)⟩
            have hqH : Hid (out[k2 - 1]? = some q) := hq
            have hqn : q < k := (hsH.out.all q).1 (List.mem_of_getElem? hq)
            have q0 : (0 : Int) ≤ (q : Int) := by omega
            have qI : (q : Int) < (k : Int) := by omega
            have kv : IntKind.i64.wrap ((k2 : Int) - 1) = (k2 : Int) - 1 := IntWalk.i64_in _ (by omega)
            have k3 : (0 : Int) ≤ (k2 : Int) - 1 := by omega
            have k4 : (k2 : Int) - 1 < (m : Int) := by omega
            have k5 : (1 : Int) ≤ (k2 : Int) := by omega
            have gy : l[q]? = some (atW l q) := atW_some (by rw [hN.out]; exact hqn)
            obtain ⟨b', off', ty, cy, e2, _, _, fy⟩ := (hlH.out.below B3.out).at (Below.refl _ _) gy
            injection e2 with e2
            injection e2 with e3 e4
            subst e3 e4
            obtain ⟨y, hy⟩ : ∃ y, atW l q = y := ⟨_, rfl⟩
            rw [hy] at fy
            have hyl : Hid (y = atW l q) := hy.symm
            obtain ⟨ny, hny⟩ : ∃ ny, y.s.t.length = ny := ⟨_, rfl⟩
            have hay : Hid (∀ W, Below w3.heap.size w3 W → W.cell? ⟨g, k2 - 1, none⟩ = some (.int .i64 (q : Int)) ∧ W.cell? ⟨b, off + q * 6, none⟩ = some (.string y.s.m) ∧ W.cell? ⟨b, off + q * 6 + 1, none⟩ = some (.slice ty ny cy) ∧ W.cell? ⟨b, off + q * 6 + 2, none⟩ = some (.string y.s.f) ∧ W.cell? ⟨b, off + q * 6 + 3, none⟩ = some (.int .i64 y.tm) ∧ W.cell? ⟨b, off + q * 6 + 4, none⟩ = some (.int .u8 (y.kd : Int)) ∧ W.cell? ⟨b, off + q * 6 + 5, none⟩ = some (.int .i64 y.n)) := fun W hW => ⟨hcH.out (k2 - 1) q W hq hW, by have := (fy W hW).1; unfold WAt at this; rw [hny] at this; exact this⟩
            have CH : Hid (∀ W, Below w3.heap.size w3 W → Calls Tryz.prog 41 #[.agg #[.string y.s.m, .slice ty ny cy, .string y.s.f, .int .i64 y.tm, .int .u8 (y.kd : Int), .int .i64 y.n], .agg #[.string x.s.m, .slice tx nx cx, .string x.s.f, .int .i64 x.tm, .int .u8 (x.kd : Int), .int .i64 x.n]] W fun e w' => e = .returned (.int .i64 (wC y x)) ∧ Below W.heap.size W w') := fun W hW => by
              have := bcompare_any y x ty tx cy cx W (fy W hW).2 (hser.out W hW)
              unfold wV at this
              rw [hny, hnx.out] at this
              exact this
            obtain ⟨a0, x1, x2, x3, x4, x5, x6⟩ := hat.out wr hD0.out.bl
            obtain ⟨b0', y1, y2, y3, y4, y5, y6⟩ := hay.out wr hD0.out.bl
            have pc := hP3.out wr hD0.out.bl
            have pl : P1 < wr.heap.size := Nat.lt_of_lt_of_le ple.out.1 hD0.out.bl.size
            have gl : g < wr.heap.size := Nat.lt_of_lt_of_le ple.out.2 hD0.out.bl.size
            have bl : b < wr.heap.size := Nat.lt_of_lt_of_le hbH.out hD0.out.bl.size
            obtain ⟨cv, hcv⟩ : ∃ cv, wC y x = cv := ⟨_, rfl⟩
            rw [hcv] at CH
            have hcvH : Hid (wC y x = cv) := hcv
            clear fy hy hny gy hq hcv hay
            by_cases hc0 : cv = 0
            · have hcb : (cv == 0) = true := by simpa using hc0
              have nx2 : Hid (ordL l out (k2 + 1) = ordL l out k2) := ordL_skip (by omega) hqH.out hpH.out (by rw [← hxl.out, ← hyl.out, hcvH.out]; exact hc0)
              clear hc0
              go_wp2_with fail
              refine wp_region_noPanic ?_
              refine wp_region_held_drew (S := fun W => ((W.cell? ⟨P1, 0, none⟩ = some (.slice (some ⟨b, off, none⟩) k c) ∧ W.cell? ⟨g, k2 - 1, none⟩ = some (.int .i64 (q : Int))) ∧ W.cell? ⟨b, off + q * 6, none⟩ = some (.string y.s.m) ∧ W.cell? ⟨b, off + q * 6 + 1, none⟩ = some (.slice ty ny cy) ∧ W.cell? ⟨b, off + q * 6 + 2, none⟩ = some (.string y.s.f) ∧ W.cell? ⟨b, off + q * 6 + 3, none⟩ = some (.int .i64 y.tm) ∧ W.cell? ⟨b, off + q * 6 + 4, none⟩ = some (.int .u8 (y.kd : Int)) ∧ W.cell? ⟨b, off + q * 6 + 5, none⟩ = some (.int .i64 y.n)) ∧ W.cell? ⟨b, off + p * 6, none⟩ = some (.string x.s.m) ∧ W.cell? ⟨b, off + p * 6 + 1, none⟩ = some (.slice tx nx cx) ∧ W.cell? ⟨b, off + p * 6 + 2, none⟩ = some (.string x.s.f) ∧ W.cell? ⟨b, off + p * 6 + 3, none⟩ = some (.int .i64 x.tm) ∧ W.cell? ⟨b, off + p * 6 + 4, none⟩ = some (.int .u8 (x.kd : Int)) ∧ W.cell? ⟨b, off + p * 6 + 5, none⟩ = some (.int .i64 x.n)) (by kernel_rfl) ⟨⟨⟨pc, b0'⟩, y1, y2, y3, y4, y5, y6⟩, x1, x2, x3, x4, x5, x6⟩ (fun hHeld => ?_)
              refine zT 0 (v := ?_) rfl ?_ ?_
              rotate_left 1
              · (intro w0 hSw; (try dsimp only at hSw); obtain ⟨⟨⟨s0, s00⟩, s1, s2, s3, s4, s5, s6⟩, t1, t2, t3, t4, t5, t6⟩ := hSw; go_simp; try with_reducible rfl)
              (try simp only [z1, z2, z3]); (try simp only [Act.put, z4, z5, z6])
              refine zT 1 (v := ?_) rfl ?_ ?_
              rotate_left 1
              · (intro w0 hSw; (try dsimp only at hSw); obtain ⟨⟨⟨s0, s00⟩, s1, s2, s3, s4, s5, s6⟩, t1, t2, t3, t4, t5, t6⟩ := hSw; go_simp; try with_reducible rfl)
              (try simp only [z1, z2, z3]); (try simp only [Act.put, z4, z5, z6])
              refine zT 2 (v := ?_) rfl ?_ ?_
              rotate_left 1
              · (intro w0 hSw; (try dsimp only at hSw); obtain ⟨⟨⟨s0, s00⟩, s1, s2, s3, s4, s5, s6⟩, t1, t2, t3, t4, t5, t6⟩ := hSw; go_simp; try with_reducible rfl)
              (try simp only [z1, z2, z3]); (try simp only [Act.put, z4, z5, z6])
              refine zT 3 (v := ?_) rfl ?_ ?_
              rotate_left 1
              · (intro w0 hSw; (try dsimp only at hSw); obtain ⟨⟨⟨s0, s00⟩, s1, s2, s3, s4, s5, s6⟩, t1, t2, t3, t4, t5, t6⟩ := hSw; go_simp; try with_reducible rfl)
              (try simp only [z1, z2, z3]); (try simp only [Act.put, z4, z5, z6])
              refine zT 4 (v := ?_) rfl ?_ ?_
              rotate_left 1
              · (intro w0 hSw; (try dsimp only at hSw); obtain ⟨⟨⟨s0, s00⟩, s1, s2, s3, s4, s5, s6⟩, t1, t2, t3, t4, t5, t6⟩ := hSw; go_simp; try with_reducible rfl)
              (try simp only [z1, z2, z3]); (try simp only [Act.put, z4, z5, z6])
              refine zT 5 (v := ?_) rfl ?_ ?_
              rotate_left 1
              · (intro w0 hSw; (try dsimp only at hSw); obtain ⟨⟨⟨s0, s00⟩, s1, s2, s3, s4, s5, s6⟩, t1, t2, t3, t4, t5, t6⟩ := hSw; go_simp; try with_reducible rfl)
              (try simp only [z1, z2, z3]); (try simp only [Act.put, z4, z5, z6])
              refine zT 6 (v := ?_) rfl ?_ ?_
              rotate_left 1
              · (intro w0 hSw; (try dsimp only at hSw); obtain ⟨⟨⟨s0, s00⟩, s1, s2, s3, s4, s5, s6⟩, t1, t2, t3, t4, t5, t6⟩ := hSw; go_simp; try with_reducible rfl)
              (try simp only [z1, z2, z3]); (try simp only [Act.put, z4, z5, z6])
              refine zT 7 (v := ?_) rfl ?_ ?_
              rotate_left 1
              · (intro w0 hSw; (try dsimp only at hSw); obtain ⟨⟨⟨s0, s00⟩, s1, s2, s3, s4, s5, s6⟩, t1, t2, t3, t4, t5, t6⟩ := hSw; go_simp; try with_reducible rfl)
              (try simp only [z1, z2, z3]); (try simp only [Act.put, z4, z5, z6])
              refine zT 8 (v := ?_) rfl ?_ ?_
              rotate_left 1
              · (intro w0 hSw; (try dsimp only at hSw); obtain ⟨⟨⟨s0, s00⟩, s1, s2, s3, s4, s5, s6⟩, t1, t2, t3, t4, t5, t6⟩ := hSw; go_simp; try with_reducible rfl)
              (try simp only [z1, z2, z3]); (try simp only [Act.put, z4, z5, z6])
              refine zT 9 (v := ?_) rfl ?_ ?_
              rotate_left 1
              · (intro w0 hSw; (try dsimp only at hSw); obtain ⟨⟨⟨s0, s00⟩, s1, s2, s3, s4, s5, s6⟩, t1, t2, t3, t4, t5, t6⟩ := hSw; go_simp; try with_reducible rfl)
              (try simp only [z1, z2, z3]); (try simp only [Act.put, z4, z5, z6])
              refine zT 10 (v := ?_) rfl ?_ ?_
              rotate_left 1
              · (intro w0 hSw; (try dsimp only at hSw); obtain ⟨⟨⟨s0, s00⟩, s1, s2, s3, s4, s5, s6⟩, t1, t2, t3, t4, t5, t6⟩ := hSw; go_simp; try with_reducible rfl)
              (try simp only [z1, z2, z3]); (try simp only [Act.put, z4, z5, z6])
              refine zT 11 (v := ?_) rfl ?_ ?_
              rotate_left 1
              · (intro w0 hSw; (try dsimp only at hSw); obtain ⟨⟨⟨s0, s00⟩, s1, s2, s3, s4, s5, s6⟩, t1, t2, t3, t4, t5, t6⟩ := hSw; go_simp; try with_reducible rfl)
              (try simp only [z1, z2, z3]); (try simp only [Act.put, z4, z5, z6])
              refine zT 12 (v := ?_) rfl ?_ ?_
              rotate_left 1
              · (intro w0 hSw; (try dsimp only at hSw); obtain ⟨⟨⟨s0, s00⟩, s1, s2, s3, s4, s5, s6⟩, t1, t2, t3, t4, t5, t6⟩ := hSw; go_simp; try with_reducible rfl)
              (try simp only [z1, z2, z3]); (try simp only [Act.put, z4, z5, z6])
              refine zT 13 (v := ?_) rfl ?_ ?_
              rotate_left 1
              · (intro w0 hSw; (try dsimp only at hSw); obtain ⟨⟨⟨s0, s00⟩, s1, s2, s3, s4, s5, s6⟩, t1, t2, t3, t4, t5, t6⟩ := hSw; go_simp; try with_reducible rfl)
              (try simp only [z1, z2, z3]); (try simp only [Act.put, z4, z5, z6])
              refine zT 14 (v := ?_) rfl ?_ ?_
              rotate_left 1
              · (intro w0 hSw; (try dsimp only at hSw); obtain ⟨⟨⟨s0, s00⟩, s1, s2, s3, s4, s5, s6⟩, t1, t2, t3, t4, t5, t6⟩ := hSw; go_simp; try with_reducible rfl)
              (try simp only [z1, z2, z3]); (try simp only [Act.put, z4, z5, z6])
              refine wpAnyH_ready (rs := [15]) (by kernel_rfl) (by simp) ?_
              refine AllReadyH.cons (o := _) rfl (fun K hK => ?_) AllReadyH.nil
              go_simp
              refine Calls.mono (CH.out _ (show Below w3.heap.size w3 wr.drew from hD0.out.bl.drew)) ?_
              rintro e w' ⟨rfl, BB⟩
              try dsimp only
              refine hK _ _ ?_ (fun hHeld => ?_)
              · exact ⟨⟨⟨by rw [BB.cell (p := ⟨P1, 0, none⟩) pl]; exact pc, by rw [BB.cell (p := ⟨g, k2 - 1, none⟩) gl]; exact b0'⟩, by rw [BB.cell (p := ⟨b, off + q * 6, none⟩) bl]; exact y1, by rw [BB.cell (p := ⟨b, off + q * 6 + 1, none⟩) bl]; exact y2, by rw [BB.cell (p := ⟨b, off + q * 6 + 2, none⟩) bl]; exact y3, by rw [BB.cell (p := ⟨b, off + q * 6 + 3, none⟩) bl]; exact y4, by rw [BB.cell (p := ⟨b, off + q * 6 + 4, none⟩) bl]; exact y5, by rw [BB.cell (p := ⟨b, off + q * 6 + 5, none⟩) bl]; exact y6⟩, by rw [BB.cell (p := ⟨b, off + p * 6, none⟩) bl]; exact x1, by rw [BB.cell (p := ⟨b, off + p * 6 + 1, none⟩) bl]; exact x2, by rw [BB.cell (p := ⟨b, off + p * 6 + 2, none⟩) bl]; exact x3, by rw [BB.cell (p := ⟨b, off + p * 6 + 3, none⟩) bl]; exact x4, by rw [BB.cell (p := ⟨b, off + p * 6 + 4, none⟩) bl]; exact x5, by rw [BB.cell (p := ⟨b, off + p * 6 + 5, none⟩) bl]; exact x6⟩
              clear hK K
              (try simp only [z1, z2, z3]); (try simp only [Act.put, z4, z5, z6])
              refine zT 16 (v := ?_) rfl ?_ ?_
              rotate_left 1
              · (intro w0 hSw; (try dsimp only at hSw); obtain ⟨⟨⟨s0, s00⟩, s1, s2, s3, s4, s5, s6⟩, t1, t2, t3, t4, t5, t6⟩ := hSw; go_simp; try with_reducible rfl)
              (try simp only [z1, z2, z3]); (try simp only [Act.put, z4, z5, z6])
              refine zT 17 (v := ?_) rfl ?_ ?_
              rotate_left 1
              · (intro w0 hSw; (try dsimp only at hSw); obtain ⟨⟨⟨s0, s00⟩, s1, s2, s3, s4, s5, s6⟩, t1, t2, t3, t4, t5, t6⟩ := hSw; go_simp; try with_reducible rfl)
              (try simp only [z1, z2, z3]); (try simp only [Act.put, z4, z5, z6])
              refine wpAnyH_done (by kernel_rfl) ?_ _
              refine NoPanic.normal ?_
              have hD : Hid (OD1 w3 l out (k2 + 1) (.slice a3 z c3) L w') := by
                have d := hD0.out.below ((show Below wr.heap.size wr wr.drew from (Below.refl _ wr).drew).trans BB)
                exact ⟨d.row, by rw [nx2.out]; exact d.is, d.bl⟩
              clear BB CH hD0 a0 x1 x2 x3 x4 x5 x6 b0' y1 y2 y3 y4 y5 y6 pc hHeld
              go_wp2_with fail
              exact ⟨⟨k2 + 1, z, c3, a3, L, rfl, by first | rfl | simp, by omega, hD⟩, by simp [intOf]; omega⟩
            · have hcb : (cv == 0) = false := by simpa using hc0
              have hne : Hid (wC (atW l q) (atW l p) ≠ 0) := by rw [← hxl.out, ← hyl.out, hcvH.out]; exact hc0
              clear hc0
              go_wp2_with fail
              refine wp_region_noPanic ?_
              refine wp_region_held_drew (S := fun W => ((W.cell? ⟨P1, 0, none⟩ = some (.slice (some ⟨b, off, none⟩) k c) ∧ W.cell? ⟨g, k2 - 1, none⟩ = some (.int .i64 (q : Int))) ∧ W.cell? ⟨b, off + q * 6, none⟩ = some (.string y.s.m) ∧ W.cell? ⟨b, off + q * 6 + 1, none⟩ = some (.slice ty ny cy) ∧ W.cell? ⟨b, off + q * 6 + 2, none⟩ = some (.string y.s.f) ∧ W.cell? ⟨b, off + q * 6 + 3, none⟩ = some (.int .i64 y.tm) ∧ W.cell? ⟨b, off + q * 6 + 4, none⟩ = some (.int .u8 (y.kd : Int)) ∧ W.cell? ⟨b, off + q * 6 + 5, none⟩ = some (.int .i64 y.n)) ∧ W.cell? ⟨b, off + p * 6, none⟩ = some (.string x.s.m) ∧ W.cell? ⟨b, off + p * 6 + 1, none⟩ = some (.slice tx nx cx) ∧ W.cell? ⟨b, off + p * 6 + 2, none⟩ = some (.string x.s.f) ∧ W.cell? ⟨b, off + p * 6 + 3, none⟩ = some (.int .i64 x.tm) ∧ W.cell? ⟨b, off + p * 6 + 4, none⟩ = some (.int .u8 (x.kd : Int)) ∧ W.cell? ⟨b, off + p * 6 + 5, none⟩ = some (.int .i64 x.n)) (by kernel_rfl) ⟨⟨⟨pc, b0'⟩, y1, y2, y3, y4, y5, y6⟩, x1, x2, x3, x4, x5, x6⟩ (fun hHeld => ?_)
              refine zT 0 (v := ?_) rfl ?_ ?_
              rotate_left 1
              · (intro w0 hSw; (try dsimp only at hSw); obtain ⟨⟨⟨s0, s00⟩, s1, s2, s3, s4, s5, s6⟩, t1, t2, t3, t4, t5, t6⟩ := hSw; go_simp; try with_reducible rfl)
              (try simp only [z1, z2, z3]); (try simp only [Act.put, z4, z5, z6])
              refine zT 1 (v := ?_) rfl ?_ ?_
              rotate_left 1
              · (intro w0 hSw; (try dsimp only at hSw); obtain ⟨⟨⟨s0, s00⟩, s1, s2, s3, s4, s5, s6⟩, t1, t2, t3, t4, t5, t6⟩ := hSw; go_simp; try with_reducible rfl)
              (try simp only [z1, z2, z3]); (try simp only [Act.put, z4, z5, z6])
              refine zT 2 (v := ?_) rfl ?_ ?_
              rotate_left 1
              · (intro w0 hSw; (try dsimp only at hSw); obtain ⟨⟨⟨s0, s00⟩, s1, s2, s3, s4, s5, s6⟩, t1, t2, t3, t4, t5, t6⟩ := hSw; go_simp; try with_reducible rfl)
              (try simp only [z1, z2, z3]); (try simp only [Act.put, z4, z5, z6])
              refine zT 3 (v := ?_) rfl ?_ ?_
              rotate_left 1
              · (intro w0 hSw; (try dsimp only at hSw); obtain ⟨⟨⟨s0, s00⟩, s1, s2, s3, s4, s5, s6⟩, t1, t2, t3, t4, t5, t6⟩ := hSw; go_simp; try with_reducible rfl)
              (try simp only [z1, z2, z3]); (try simp only [Act.put, z4, z5, z6])
              refine zT 4 (v := ?_) rfl ?_ ?_
              rotate_left 1
              · (intro w0 hSw; (try dsimp only at hSw); obtain ⟨⟨⟨s0, s00⟩, s1, s2, s3, s4, s5, s6⟩, t1, t2, t3, t4, t5, t6⟩ := hSw; go_simp; try with_reducible rfl)
              (try simp only [z1, z2, z3]); (try simp only [Act.put, z4, z5, z6])
              refine zT 5 (v := ?_) rfl ?_ ?_
              rotate_left 1
              · (intro w0 hSw; (try dsimp only at hSw); obtain ⟨⟨⟨s0, s00⟩, s1, s2, s3, s4, s5, s6⟩, t1, t2, t3, t4, t5, t6⟩ := hSw; go_simp; try with_reducible rfl)
              (try simp only [z1, z2, z3]); (try simp only [Act.put, z4, z5, z6])
              refine zT 6 (v := ?_) rfl ?_ ?_
              rotate_left 1
              · (intro w0 hSw; (try dsimp only at hSw); obtain ⟨⟨⟨s0, s00⟩, s1, s2, s3, s4, s5, s6⟩, t1, t2, t3, t4, t5, t6⟩ := hSw; go_simp; try with_reducible rfl)
              (try simp only [z1, z2, z3]); (try simp only [Act.put, z4, z5, z6])
              refine zT 7 (v := ?_) rfl ?_ ?_
              rotate_left 1
              · (intro w0 hSw; (try dsimp only at hSw); obtain ⟨⟨⟨s0, s00⟩, s1, s2, s3, s4, s5, s6⟩, t1, t2, t3, t4, t5, t6⟩ := hSw; go_simp; try with_reducible rfl)
              (try simp only [z1, z2, z3]); (try simp only [Act.put, z4, z5, z6])
              refine zT 8 (v := ?_) rfl ?_ ?_
              rotate_left 1
              · (intro w0 hSw; (try dsimp only at hSw); obtain ⟨⟨⟨s0, s00⟩, s1, s2, s3, s4, s5, s6⟩, t1, t2, t3, t4, t5, t6⟩ := hSw; go_simp; try with_reducible rfl)
              (try simp only [z1, z2, z3]); (try simp only [Act.put, z4, z5, z6])
              refine zT 9 (v := ?_) rfl ?_ ?_
              rotate_left 1
              · (intro w0 hSw; (try dsimp only at hSw); obtain ⟨⟨⟨s0, s00⟩, s1, s2, s3, s4, s5, s6⟩, t1, t2, t3, t4, t5, t6⟩ := hSw; go_simp; try with_reducible rfl)
              (try simp only [z1, z2, z3]); (try simp only [Act.put, z4, z5, z6])
              refine zT 10 (v := ?_) rfl ?_ ?_
              rotate_left 1
              · (intro w0 hSw; (try dsimp only at hSw); obtain ⟨⟨⟨s0, s00⟩, s1, s2, s3, s4, s5, s6⟩, t1, t2, t3, t4, t5, t6⟩ := hSw; go_simp; try with_reducible rfl)
              (try simp only [z1, z2, z3]); (try simp only [Act.put, z4, z5, z6])
              refine zT 11 (v := ?_) rfl ?_ ?_
              rotate_left 1
              · (intro w0 hSw; (try dsimp only at hSw); obtain ⟨⟨⟨s0, s00⟩, s1, s2, s3, s4, s5, s6⟩, t1, t2, t3, t4, t5, t6⟩ := hSw; go_simp; try with_reducible rfl)
              (try simp only [z1, z2, z3]); (try simp only [Act.put, z4, z5, z6])
              refine zT 12 (v := ?_) rfl ?_ ?_
              rotate_left 1
              · (intro w0 hSw; (try dsimp only at hSw); obtain ⟨⟨⟨s0, s00⟩, s1, s2, s3, s4, s5, s6⟩, t1, t2, t3, t4, t5, t6⟩ := hSw; go_simp; try with_reducible rfl)
              (try simp only [z1, z2, z3]); (try simp only [Act.put, z4, z5, z6])
              refine zT 13 (v := ?_) rfl ?_ ?_
              rotate_left 1
              · (intro w0 hSw; (try dsimp only at hSw); obtain ⟨⟨⟨s0, s00⟩, s1, s2, s3, s4, s5, s6⟩, t1, t2, t3, t4, t5, t6⟩ := hSw; go_simp; try with_reducible rfl)
              (try simp only [z1, z2, z3]); (try simp only [Act.put, z4, z5, z6])
              refine zT 14 (v := ?_) rfl ?_ ?_
              rotate_left 1
              · (intro w0 hSw; (try dsimp only at hSw); obtain ⟨⟨⟨s0, s00⟩, s1, s2, s3, s4, s5, s6⟩, t1, t2, t3, t4, t5, t6⟩ := hSw; go_simp; try with_reducible rfl)
              (try simp only [z1, z2, z3]); (try simp only [Act.put, z4, z5, z6])
              refine wpAnyH_ready (rs := [15]) (by kernel_rfl) (by simp) ?_
              refine AllReadyH.cons (o := _) rfl (fun K hK => ?_) AllReadyH.nil
              go_simp
              refine Calls.mono (CH.out _ (show Below w3.heap.size w3 wr.drew from hD0.out.bl.drew)) ?_
              rintro e w' ⟨rfl, BB⟩
              try dsimp only
              refine hK _ _ ?_ (fun hHeld => ?_)
              · exact ⟨⟨⟨by rw [BB.cell (p := ⟨P1, 0, none⟩) pl]; exact pc, by rw [BB.cell (p := ⟨g, k2 - 1, none⟩) gl]; exact b0'⟩, by rw [BB.cell (p := ⟨b, off + q * 6, none⟩) bl]; exact y1, by rw [BB.cell (p := ⟨b, off + q * 6 + 1, none⟩) bl]; exact y2, by rw [BB.cell (p := ⟨b, off + q * 6 + 2, none⟩) bl]; exact y3, by rw [BB.cell (p := ⟨b, off + q * 6 + 3, none⟩) bl]; exact y4, by rw [BB.cell (p := ⟨b, off + q * 6 + 4, none⟩) bl]; exact y5, by rw [BB.cell (p := ⟨b, off + q * 6 + 5, none⟩) bl]; exact y6⟩, by rw [BB.cell (p := ⟨b, off + p * 6, none⟩) bl]; exact x1, by rw [BB.cell (p := ⟨b, off + p * 6 + 1, none⟩) bl]; exact x2, by rw [BB.cell (p := ⟨b, off + p * 6 + 2, none⟩) bl]; exact x3, by rw [BB.cell (p := ⟨b, off + p * 6 + 3, none⟩) bl]; exact x4, by rw [BB.cell (p := ⟨b, off + p * 6 + 4, none⟩) bl]; exact x5, by rw [BB.cell (p := ⟨b, off + p * 6 + 5, none⟩) bl]; exact x6⟩
              clear hK K
              (try simp only [z1, z2, z3]); (try simp only [Act.put, z4, z5, z6])
              refine zT 16 (v := ?_) rfl ?_ ?_
              rotate_left 1
              · (intro w0 hSw; (try dsimp only at hSw); obtain ⟨⟨⟨s0, s00⟩, s1, s2, s3, s4, s5, s6⟩, t1, t2, t3, t4, t5, t6⟩ := hSw; go_simp; try with_reducible rfl)
              (try simp only [z1, z2, z3]); (try simp only [Act.put, z4, z5, z6])
              refine zT 17 (v := ?_) rfl ?_ ?_
              rotate_left 1
              · (intro w0 hSw; (try dsimp only at hSw); obtain ⟨⟨⟨s0, s00⟩, s1, s2, s3, s4, s5, s6⟩, t1, t2, t3, t4, t5, t6⟩ := hSw; go_simp; try with_reducible rfl)
              (try simp only [z1, z2, z3]); (try simp only [Act.put, z4, z5, z6])
              refine wpAnyH_done (by kernel_rfl) ?_ _
              refine NoPanic.normal ?_
              have hD : Hid (OD1 w3 l out k2 (.slice a3 z c3) L w') := hD0.out.below ((show Below wr.heap.size wr wr.drew from (Below.refl _ wr).drew).trans BB)
              clear BB CH hD0 a0 x1 x2 x3 x4 x5 x6 b0' y1 y2 y3 y4 y5 y6 pc hHeld hyl hcvH
              -- the sample goes in (world w', state hD)
              obtain ⟨a0, x1, x2, x3, x4, x5, x6⟩ := hat.out w' hD.out.bl
              have pc := hP3.out w' hD.out.bl
              have serx : SerIn w' tx x.s := (hser.out w' hD.out.bl)
              have bA : Below w'.heap.size w' (w'.alloc (.cells #[.string x.s.m, .slice tx nx cx, .string x.s.f, .int .i64 x.tm, .int .u8 (x.kd : Int), .int .i64 x.n] 52)) := (Below.refl _ w').alloc (Nat.le_refl _) _
              have CC : Hid (Calls Tryz.prog 42 #[.slice tx nx cx] (w'.alloc (.cells #[.string x.s.m, .slice tx nx cx, .string x.s.f, .int .i64 x.tm, .int .u8 (x.kd : Int), .int .i64 x.n] 52)) fun e w9 => ∃ a' c', e = .returned (.slice a' nx c') ∧ TgIn w9 a' x.s.t ∧ (∀ ad, a' = some ad → w'.heap.size + 1 ≤ ad.block) ∧ Below (w'.heap.size + 1) (w'.alloc (.cells #[.string x.s.m, .slice tx nx cx, .string x.s.f, .int .i64 x.tm, .int .u8 (x.kd : Int), .int .i64 x.n] 52)) w9) := by
                have := cloneW_any tx cx x.s.t (w'.alloc (.cells #[.string x.s.m, .slice tx nx cx, .string x.s.f, .int .i64 x.tm, .int .u8 (x.kd : Int), .int .i64 x.n] 52)) ((serx.belowW bA).1) hxt
                rw [hnx.out] at this
                rw [show (w'.alloc (.cells #[.string x.s.m, .slice tx nx cx, .string x.s.f, .int .i64 x.tm, .int .u8 (x.kd : Int), .int .i64 x.n] 52)).heap.size = w'.heap.size + 1 by simp] at this
                exact this
              have hfin : Hid (∀ (a' : Option Addr) (c' : Nat) (w5 : World), TgIn w5 a' x.s.t → (∀ ad, a' = some ad → w'.heap.size + 1 ≤ ad.block) → Below (w'.heap.size + 1) (w'.alloc (.cells #[.string x.s.m, .slice tx nx cx, .string x.s.f, .int .i64 x.tm, .int .u8 (x.kd : Int), .int .i64 x.n] 52)) w5 → ∃ a4 z4 c4 L4 w6, (Builtin.append_ #[22, 22] 22 #[.slice a3 z c3, .slice (some ⟨w5.heap.size, 0, none⟩) 1 1]).run Tryz.prog ((w5.setCell ⟨w'.heap.size, 1, none⟩ (.slice a' nx c')).alloc (.cells #[.string x.s.m, .slice a' nx c', .string x.s.f, .int .i64 x.tm, .int .u8 (x.kd : Int), .int .i64 x.n] 52)) = .ok (.slice a4 z4 c4) w6 ∧ OD1 w3 l out (k2 + 1) (.slice a4 z4 c4) L4 w6) := fun a' c' w5 t5 n5 b5 => by
                have sz : (w'.alloc (.cells #[.string x.s.m, .slice tx nx cx, .string x.s.f, .int .i64 x.tm, .int .u8 (x.kd : Int), .int .i64 x.n] 52)).heap.size = w'.heap.size + 1 := by simp
                have b5w : Below w'.heap.size w' w5 := bA.trans (b5.mono (by omega))
                have b5s : Below w'.heap.size w' (w5.setCell ⟨w'.heap.size, 1, none⟩ (.slice a' nx c')) := b5w.setCell (p := ⟨w'.heap.size, 1, none⟩) (Nat.le_refl _) _
                have hD5 := hD.out.below b5s
                have hts : TgIn (w5.setCell ⟨w'.heap.size, 1, none⟩ (.slice a' nx c')) a' x.s.t := by
                  rcases t5 with q | ⟨bb, oo, q1, q2, q3⟩
                  · exact Or.inl q
                  · have q4 := n5 _ q1
                    simp only at q4
                    refine Or.inr ⟨bb, oo, q1, by simpa using q2, fun i t ht => ?_⟩
                    obtain ⟨r1, r2⟩ := q3 i t ht
                    exact ⟨by rw [World.cell?_setCell_other _ _ _ _ (by intro e; injection e; omega)]; exact r1, by rw [World.cell?_setCell_other _ _ _ _ (by intro e; injection e; omega)]; exact r2⟩
                have lz : L.length = z := by
                  obtain ⟨_, _, e, _⟩ := hD.out.row.1.win
                  injection e with _ e _
                  exact e.symm
                have few : L.length ≤ k2 := by
                  have := ordL_len l out k2
                  rw [← hD.out.is, List.length_map] at this
                  exact this
                obtain ⟨a4, c4, w6, q1, q2, q3⟩ := app2W _ w3.heap.size (.slice a3 z c3) L hD5.row (Nat.le_trans hD.out.bl.size b5s.size) (x, a', c') ⟨hts, serx.2⟩ (fun _ ad had e => by
                  have h1 := n5 ad had
                  rcases hD.out.row.1.1.2 with ⟨e1, _⟩ | ⟨g, _, _, e1, _, e3, _⟩
                  · rw [e1] at e; cases e
                  · rw [e1] at e
                    have h2 : g = ad.block := by simpa [Value.ownBlock] using e
                    have h3 := (Array.getElem?_eq_some_iff.1 e3).1
                    omega) (by omega)
                refine ⟨a4, L.length + 1, c4, L ++ [(x, a', c')], w6, ?_, q2, ?_, ?_⟩
                · have s5 : (w5.setCell ⟨w'.heap.size, 1, none⟩ (.slice a' nx c')).heap.size = w5.heap.size := by simp
                  rw [s5] at q1
                  simp only [hnx.out] at q1
                  exact q1
                · rw [List.map_append, hD.out.is, ordL_new hpH.out (Or.inr ⟨q, hqH.out, hne.out⟩)]
                  congr 1
                  show [x] = _
                  rw [hxl.out]
                · exact hD5.bl.trans q3
              have hwb : Hid (∀ w5, Below (w'.heap.size + 1) (w'.alloc (.cells #[.string x.s.m, .slice tx nx cx, .string x.s.f, .int .i64 x.tm, .int .u8 (x.kd : Int), .int .i64 x.n] 52)) w5 → (w5.cell? ⟨w'.heap.size, 0, none⟩ = some (.string x.s.m) ∧ w5.cell? ⟨w'.heap.size, 1, none⟩ = some (.slice tx nx cx) ∧ w5.cell? ⟨w'.heap.size, 2, none⟩ = some (.string x.s.f) ∧ w5.cell? ⟨w'.heap.size, 3, none⟩ = some (.int .i64 x.tm) ∧ w5.cell? ⟨w'.heap.size, 4, none⟩ = some (.int .u8 (x.kd : Int)) ∧ w5.cell? ⟨w'.heap.size, 5, none⟩ = some (.int .i64 x.n)) ∧ w5.frozen? ⟨w'.heap.size, 1, none⟩ = false) := fun w5 b5 => by
                refine ⟨⟨?_, ?_, ?_, ?_, ?_, ?_⟩, ?_⟩
                · rw [b5.cell (p := ⟨w'.heap.size, 0, none⟩) (by show w'.heap.size < _; omega)]; simp [go_sem]
                · rw [b5.cell (p := ⟨w'.heap.size, 1, none⟩) (by show w'.heap.size < _; omega)]; simp [go_sem]
                · rw [b5.cell (p := ⟨w'.heap.size, 2, none⟩) (by show w'.heap.size < _; omega)]; simp [go_sem]
                · rw [b5.cell (p := ⟨w'.heap.size, 3, none⟩) (by show w'.heap.size < _; omega)]; simp [go_sem]
                · rw [b5.cell (p := ⟨w'.heap.size, 4, none⟩) (by show w'.heap.size < _; omega)]; simp [go_sem]
                · rw [b5.cell (p := ⟨w'.heap.size, 5, none⟩) (by show w'.heap.size < _; omega)]; simp [go_sem]
                · rw [b5.frozen (p := ⟨w'.heap.size, 1, none⟩) (by show w'.heap.size < _; omega)]; simp [go_sem]
              clear serx bA hD
              go_wp2_with fail
              refine Calls.mono CC.out ?_
              rintro e w5 ⟨a', c', rfl, t5, n5, b5⟩
              obtain ⟨⟨y1, y2, y3, y4, y5, y6⟩, y7⟩ := hwb.out w5 b5
              obtain ⟨a4, z4, c4, L4, w6, hr6, hD6⟩ := hfin.out a' c' w5 t5 n5 b5
              have hrH : Hid (∀ W, W = (w5.setCell ⟨w'.heap.size, 1, none⟩ (.slice a' nx c')).alloc (.cells #[.string x.s.m, .slice a' nx c', .string x.s.f, .int .i64 x.tm, .int .u8 (x.kd : Int), .int .i64 x.n] 52) → (Builtin.append_ #[22, 22] 22 #[.slice a3 z c3, .slice (some ⟨w5.heap.size, 0, none⟩) 1 1]).run Tryz.prog W = .ok (.slice a4 z4 c4) w6) := fun W e => by subst e; exact hr6
              have hD6H : Hid (OD1 w3 l out (k2 + 1) (.slice a4 z4 c4) L4 w6) := hD6
              clear t5 n5 b5 CC hwb hfin hr6 hD6 a0 pc x1 x2 x3 x4 x5 x6
              go_wp2_with (at_builtin; refine wpList_append_runB (by rfl) _ _ _ (by rfl) _ _ _ _ (by rfl) (by rfl) (hrH.out _ rfl) ?_)
              exact ⟨⟨k2 + 1, z4, c4, a4, L4, rfl, by first | rfl | simp, by omega, hD6H⟩, by simp [intOf]; omega⟩
        · have hkI2 : ¬ (k2 : Int) < (m : Int) := by omega
          obtain rfl : k2 = m := by omega
          have fin : Hid (OrdR w wr l (.returned (.slice a3 z c3))) := by
            refine ⟨out, L, _, rfl, by rw [hN.out]; exact hsH.out, ?_, by rw [hM.out]; exact hD0.out.is, B3.out.trans (hD0.out.bl.mono B3.out.size)⟩
            obtain ⟨⟨⟨r1, r2⟩, r3⟩, r4⟩ := hD0.out.row
            refine ⟨⟨⟨r1, ?_⟩, r3⟩, r4⟩
            rcases r2 with r | ⟨g', cap, cur, e1, e2, e3, e4⟩
            · exact Or.inl r
            · exact Or.inr ⟨g', cap, cur, e1, Nat.le_trans B3.out.size e2, e3, e4⟩
          clear hD0
          go_wp2_with fail
          go_ret
          exact fin.out
end Go.Proofs.YtepakgfdakeibaaGreatDoor
