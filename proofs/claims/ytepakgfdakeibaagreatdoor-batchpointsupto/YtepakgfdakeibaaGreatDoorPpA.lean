
import Derived.Test.YtepakgfdakeibaaGreatDoorBaC
import Derived.Test.YtepakgfdakeibaaGreatDoorBgD
import Derived.Test.YtepakgfdakeibaaGreatDoorBaD
import Derived.Test.YtepakgfdakeibaaGreatDoorBaE
namespace Go.Proofs.YtepakgfdakeibaaGreatDoor.So.Wr
open Go.RowKit
set_option linter.unusedVariables false
set_option linter.unusedSimpArgs false
/-- a piece, as a slice of the row of writes (at b0, n of them). -/
def pV (b0 cp n : Nat) (p : Pc) : Value := .slice (some ⟨b0, p.1 * 6, none⟩) (p.2 - p.1) (cp - p.1)
/-- the row of writes. -/
def RW (w : World) (b0 cp n : Nat) (X : Nat → WrA) : Prop := b0 < w.heap.size ∧ ∀ i : Nat, i < n → WAt w b0 (i * 6) (X i).1 (X i).2.1 (X i).2.2
theorem RW.below {w w' : World} {b0 cp n : Nat} {X : Nat → WrA} (h : RW w b0 cp n X) (hb : Below w.heap.size w w') : RW w' b0 cp n X := ⟨Nat.lt_of_lt_of_le h.1 hb.size, fun i hi => (h.2 i hi).below hb h.1⟩
/-- what the function that sorted is handed answers. -/
def AhA (w0 : World) (f : Nat) (n : Nat) (X : Nat → WrA) (ah : Nat → Nat → Bool) : Prop := ∀ (a b : Nat) (W : World), a < n → b < n → Below w0.heap.size w0 W → Calls Tryz.prog f #[wV (X a).1 (X a).2.1 (X a).2.2, wV (X b).1 (X b).2.1 (X b).2.2] W fun e w' => e = .returned (.bool (ah a b)) ∧ Below W.heap.size W w'
set_option maxRecDepth 100000 in
set_option maxHeartbeats 4000000 in
/-- by their first ones. -/
theorem first_any (w0 : World) (b0 cp n P2 : Nat) (X : Nat → WrA) (ah : Nat → Nat → Bool) (hA : AhA w0 22 n X ah) (hw : RW w0 b0 cp n X) (hP : P2 < w0.heap.size) (hc : w0.cell? ⟨P2, 0, none⟩ = some (.func (.func 22) #[] #[]))
    (p q : Pc) (W : World) (hp : p.1 < p.2) (hpn : p.2 ≤ n) (hq : q.1 < q.2) (hqn : q.2 ≤ n) (hn : n ≤ 4611686018427387904) (hB : Below w0.heap.size w0 W) :
    Calls Tryz.prog 44 #[pV b0 cp n p, pV b0 cp n q, .pointer (some ⟨P2, 0, none⟩)] W fun e w' => e = .returned (.bool (ah p.1 q.1)) ∧ Below W.heap.size W w' := by
  obtain ⟨x, x2⟩ := p
  obtain ⟨y, y2⟩ := q
  simp only at hp hpn hq hqn ⊢
  have a0 : W.cell? ⟨P2, 0, none⟩ = some (.func (.func 22) #[] #[]) := by rw [hB.cell (p := ⟨P2, 0, none⟩) hP]; exact hc
  have ax := (hw.below hB).2 x (by omega)
  have ay := (hw.below hB).2 y (by omega)
  have CH : Hid (∀ W', Below w0.heap.size w0 W' → Calls Tryz.prog 22 #[wV (X x).1 (X x).2.1 (X x).2.2, wV (X y).1 (X y).2.1 (X y).2.2] W' fun e w' => e = .returned (.bool (ah x y)) ∧ Below W'.heap.size W' w') := fun W' h => hA x y W' (by omega) (by omega) h
  have bl : b0 < W.heap.size := Nat.lt_of_lt_of_le hw.1 hB.size
  have pl : P2 < W.heap.size := Nat.lt_of_lt_of_le hP hB.size
  have l1 : (0 : Int) < ((x2 - x : Nat) : Int) := by omega
  have l2 : (0 : Int) < ((y2 - y : Nat) : Int) := by omega
  have l3 : 0 < x2 - x := by omega
  have l4 : 0 < y2 - y := by omega
  have BH : Hid (Below w0.heap.size w0 W) := hB
  unfold WAt at ax ay
  unfold wV at CH
  generalize X x = Xx at ax CH
  generalize X y = Yy at ay CH
  obtain ⟨X, tx, cx⟩ := Xx
  obtain ⟨Y, ty, cy⟩ := Yy
  simp only at ax ay CH
  generalize X.s.t.length = nx at ax CH
  generalize Y.s.t.length = ny at ay CH
  obtain ⟨a1, a2, a3, a4, a5, a6⟩ := ax
  obtain ⟨b1, b2, b3, b4, b5, b6⟩ := ay
  generalize ah x y = bv at CH ⊢
  unfold pV
  simp only
  generalize x2 - x = lx at *
  generalize y2 - y = ly at *
  generalize cp - x = dx at *
  generalize cp - y = dy at *
  clear hA hw hc hB hp hpn hq hqn hn hP
  go_enter Tryz.func44, Tryz.ntmps44
  go_wp2_with fail
  refine wp_region_noPanic ?_
  refine wp_region_held_drew (S := fun W => (W.cell? ⟨P2, 0, none⟩ = some (.func (.func 22) #[] #[]) ∧ W.cell? ⟨b0, x * 6, none⟩ = some (.string X.s.m) ∧ W.cell? ⟨b0, x * 6 + 1, none⟩ = some (.slice tx nx cx) ∧ W.cell? ⟨b0, x * 6 + 2, none⟩ = some (.string X.s.f) ∧ W.cell? ⟨b0, x * 6 + 3, none⟩ = some (.int .i64 X.tm) ∧ W.cell? ⟨b0, x * 6 + 4, none⟩ = some (.int .u8 (X.kd : Int)) ∧ W.cell? ⟨b0, x * 6 + 5, none⟩ = some (.int .i64 X.n)) ∧ W.cell? ⟨b0, y * 6, none⟩ = some (.string Y.s.m) ∧ W.cell? ⟨b0, y * 6 + 1, none⟩ = some (.slice ty ny cy) ∧ W.cell? ⟨b0, y * 6 + 2, none⟩ = some (.string Y.s.f) ∧ W.cell? ⟨b0, y * 6 + 3, none⟩ = some (.int .i64 Y.tm) ∧ W.cell? ⟨b0, y * 6 + 4, none⟩ = some (.int .u8 (Y.kd : Int)) ∧ W.cell? ⟨b0, y * 6 + 5, none⟩ = some (.int .i64 Y.n)) (by kernel_rfl) ⟨⟨a0, a1, a2, a3, a4, a5, a6⟩, b1, b2, b3, b4, b5, b6⟩ (fun hHeld => ?_)
  refine zT 0 (v := ?_) rfl ?_ ?_
  rotate_left 1
  · (intro w0 hSw; (try dsimp only at hSw); obtain ⟨⟨s0, s1, s2, s3, s4, s5, s6⟩, t1, t2, t3, t4, t5, t6⟩ := hSw; go_simp; try with_reducible rfl)
  (try simp only [z1, z2, z3]); (try simp only [Act.put, z4, z5, z6])
  refine zT 1 (v := ?_) rfl ?_ ?_
  rotate_left 1
  · (intro w0 hSw; (try dsimp only at hSw); obtain ⟨⟨s0, s1, s2, s3, s4, s5, s6⟩, t1, t2, t3, t4, t5, t6⟩ := hSw; go_simp; try with_reducible rfl)
  (try simp only [z1, z2, z3]); (try simp only [Act.put, z4, z5, z6])
  refine zT 2 (v := ?_) rfl ?_ ?_
  rotate_left 1
  · (intro w0 hSw; (try dsimp only at hSw); obtain ⟨⟨s0, s1, s2, s3, s4, s5, s6⟩, t1, t2, t3, t4, t5, t6⟩ := hSw; go_simp; try with_reducible rfl)
  (try simp only [z1, z2, z3]); (try simp only [Act.put, z4, z5, z6])
  refine zT 3 (v := ?_) rfl ?_ ?_
  rotate_left 1
  · (intro w0 hSw; (try dsimp only at hSw); obtain ⟨⟨s0, s1, s2, s3, s4, s5, s6⟩, t1, t2, t3, t4, t5, t6⟩ := hSw; go_simp; try with_reducible rfl)
  (try simp only [z1, z2, z3]); (try simp only [Act.put, z4, z5, z6])
  refine zT 4 (v := ?_) rfl ?_ ?_
  rotate_left 1
  · (intro w0 hSw; (try dsimp only at hSw); obtain ⟨⟨s0, s1, s2, s3, s4, s5, s6⟩, t1, t2, t3, t4, t5, t6⟩ := hSw; go_simp; try with_reducible rfl)
  (try simp only [z1, z2, z3]); (try simp only [Act.put, z4, z5, z6])
  refine zT 5 (v := ?_) rfl ?_ ?_
  rotate_left 1
  · (intro w0 hSw; (try dsimp only at hSw); obtain ⟨⟨s0, s1, s2, s3, s4, s5, s6⟩, t1, t2, t3, t4, t5, t6⟩ := hSw; go_simp; try with_reducible rfl)
  (try simp only [z1, z2, z3]); (try simp only [Act.put, z4, z5, z6])
  refine zT 6 (v := ?_) rfl ?_ ?_
  rotate_left 1
  · (intro w0 hSw; (try dsimp only at hSw); obtain ⟨⟨s0, s1, s2, s3, s4, s5, s6⟩, t1, t2, t3, t4, t5, t6⟩ := hSw; go_simp; try with_reducible rfl)
  (try simp only [z1, z2, z3]); (try simp only [Act.put, z4, z5, z6])
  refine wpAnyH_ready (rs := [7]) (by kernel_rfl) (by simp) ?_
  refine AllReadyH.cons (o := _) rfl (fun K hK => ?_) AllReadyH.nil
  go_simp
  refine Calls.mono (CH.out _ (show Below w0.heap.size w0 W.drew from BH.out.drew)) ?_
  rintro e w' ⟨rfl, BB⟩
  try dsimp only
  refine hK _ _ ?_ (fun hHeld => ?_)
  · exact ⟨⟨by rw [BB.cell (p := ⟨P2, 0, none⟩) pl]; exact a0, by rw [BB.cell (p := ⟨b0, x * 6, none⟩) bl]; exact a1, by rw [BB.cell (p := ⟨b0, x * 6 + 1, none⟩) bl]; exact a2, by rw [BB.cell (p := ⟨b0, x * 6 + 2, none⟩) bl]; exact a3, by rw [BB.cell (p := ⟨b0, x * 6 + 3, none⟩) bl]; exact a4, by rw [BB.cell (p := ⟨b0, x * 6 + 4, none⟩) bl]; exact a5, by rw [BB.cell (p := ⟨b0, x * 6 + 5, none⟩) bl]; exact a6⟩, by rw [BB.cell (p := ⟨b0, y * 6, none⟩) bl]; exact b1, by rw [BB.cell (p := ⟨b0, y * 6 + 1, none⟩) bl]; exact b2, by rw [BB.cell (p := ⟨b0, y * 6 + 2, none⟩) bl]; exact b3, by rw [BB.cell (p := ⟨b0, y * 6 + 3, none⟩) bl]; exact b4, by rw [BB.cell (p := ⟨b0, y * 6 + 4, none⟩) bl]; exact b5, by rw [BB.cell (p := ⟨b0, y * 6 + 5, none⟩) bl]; exact b6⟩
  clear hK K
  (try simp only [z1, z2, z3]); (try simp only [Act.put, z4, z5, z6])
  refine zT 8 (v := ?_) rfl ?_ ?_
  rotate_left 1
  · (intro w0 hSw; (try dsimp only at hSw); obtain ⟨⟨s0, s1, s2, s3, s4, s5, s6⟩, t1, t2, t3, t4, t5, t6⟩ := hSw; go_simp; try with_reducible rfl)
  (try simp only [z1, z2, z3]); (try simp only [Act.put, z4, z5, z6])
  refine wpAnyH_done (by kernel_rfl) ?_ _
  refine NoPanic.normal ?_
  have fin : Hid (Below W.heap.size W w') := (show Below W.heap.size W W.drew from (Below.refl _ W).drew).trans BB
  clear BB BH CH a0 a1 b1
  go_wp2_with fail
  go_ret
  exact ⟨rfl, fin.out⟩
/-- what sink's function answers of two pieces. -/
def FiA (w0 : World) (b0 cp n P2 : Nat) (ah : Nat → Nat → Bool) : Prop := ∀ (p q : Pc) (W : World), p.1 < p.2 → p.2 ≤ n → q.1 < q.2 → q.2 ≤ n → Below w0.heap.size w0 W → Calls Tryz.prog 44 #[pV b0 cp n p, pV b0 cp n q, .pointer (some ⟨P2, 0, none⟩)] W fun e w' => e = .returned (.bool (ah p.1 q.1)) ∧ Below W.heap.size W w'
/-- the heap: pieces as slices, at hb. -/
def HR (w : World) (hb m b0 cp n : Nat) (h : Nat → Pc) : Prop := hb < w.heap.size ∧ ∀ i, i < m → w.cell? ⟨hb, i, none⟩ = some (pV b0 cp n (h i)) ∧ w.frozen? ⟨hb, i, none⟩ = false
theorem HR.below {w w' : World} {hb m b0 cp n : Nat} {h : Nat → Pc} (r : HR w hb m b0 cp n h) (hB : Below w.heap.size w w') : HR w' hb m b0 cp n h := ⟨Nat.lt_of_lt_of_le r.1 hB.size, fun i hi => by
  rw [hB.cell (p := ⟨hb, i, none⟩) r.1, hB.frozen (p := ⟨hb, i, none⟩) r.1]; exact r.2 i hi⟩
theorem HR.set {w : World} {hb m b0 cp n : Nat} {h : Nat → Pc} (r : HR w hb m b0 cp n h) {k : Nat} (hk : k < m) (p : Pc) : HR (w.setCell ⟨hb, k, none⟩ (pV b0 cp n p)) hb m b0 cp n (fun i => if i = k then p else h i) := by
  refine ⟨by simpa using r.1, fun i hi => ⟨?_, by rw [World.frozen?_setCell]; exact (r.2 i hi).2⟩⟩
  by_cases e : i = k
  · subst e; rw [World.cell?_setCell_same _ _ _ (r.2 i hi).1]; simp
  · rw [World.cell?_setCell_other _ _ _ _ (by intro q; injection q; omega), (r.2 i hi).1]; simp [e]
theorem HR.congr {w : World} {hb m b0 cp n : Nat} {h g : Nat → Pc} (r : HR w hb m b0 cp n h) (e : ∀ i, i < m → h i = g i) : HR w hb m b0 cp n g := ⟨r.1, fun i hi => by rw [← e i hi]; exact r.2 i hi⟩
theorem HR.swap {w : World} {hb m b0 cp n : Nat} {h : Nat → Pc} (r : HR w hb m b0 cp n h) {i j : Nat} (hi : i < m) (hj : j < m) : HR ((w.setCell ⟨hb, i, none⟩ (pV b0 cp n (h j))).setCell ⟨hb, j, none⟩ (pV b0 cp n (h i))) hb m b0 cp n (sw h i j) :=
  ((r.set hi (h j)).set hj (h i)).congr fun k hk => by
    unfold sw
    by_cases e : k = i <;> by_cases f : k = j <;> simp_all
/-- what stands while sink goes on. -/
structure SK1 (w0 w : World) (hb m b0 cp n r : Nat) (ah : Nat → Nat → Bool) (h : Nat → Pc) (k : Nat) (g : Nat → Pc) (wr : World) : Prop where
  pr : Pr 0 m h g
  hx : HX (hl ah) r k m g
  hr : HR wr hb m b0 cp n g
  ob : OB hb w wr
  bl : Below w0.heap.size w0 wr
theorem SK1.below {w0 w : World} {hb m b0 cp n r k : Nat} {ah : Nat → Nat → Bool} {h g : Nat → Pc} {wr wx : World} (s : SK1 w0 w hb m b0 cp n r ah h k g wr) (hB : Below wr.heap.size wr wx) : SK1 w0 w hb m b0 cp n r ah h k g wx := ⟨s.pr, s.hx, s.hr.below hB, s.ob.trans (OB.below hB), s.bl.trans (hB.mono s.bl.size)⟩
theorem SK1.step {w0 w : World} {hb m b0 cp n r k c : Nat} {ah : Nat → Nat → Bool} {h g : Nat → Pc} {wr : World} (o : AO ah n) (s : SK1 w0 w hb m b0 cp n r ah h k g wr) (hB : w0.heap.size ≤ hb) (hrk : r ≤ k) (hkm : k < m) (hc : c < m) (hk : c = 2 * k + 1 ∨ c = 2 * k + 2) (a1 : hl ah (g c) (g k) = true)
    (a2 : ∀ d, d < m → (d = 2 * k + 1 ∨ d = 2 * k + 2) → d ≠ c → hl ah (g c) (g d) = true) : SK1 w0 w hb m b0 cp n r ah h c (sw g k c) ((wr.setCell ⟨hb, k, none⟩ (pV b0 cp n (g c))).setCell ⟨hb, c, none⟩ (pV b0 cp n (g k))) :=
  ⟨s.pr.trans (sw_pr g (Nat.zero_le _) hkm (Nat.zero_le _) hc), s.hx.step (fun x y z => o.tr x.1 y.1 z.1) hrk hc hk a1 a2, s.hr.swap hkm hc, (s.ob.trans (OB.set _ _ _)).trans (OB.set _ _ _), (s.bl.setCell (p := ⟨hb, k, none⟩) hB _).setCell (p := ⟨hb, c, none⟩) hB _⟩
set_option maxRecDepth 100000 in
set_option maxHeartbeats 8000000 in
theorem sink_any (w0 : World) (b0 cp n P2 : Nat) (ah : Nat → Nat → Bool) (o : AO ah n) (hF : FiA w0 b0 cp n P2 ah) (hb m cap k r : Nat) (h : Nat → Pc) (w : World) (hR : HR w hb m b0 cp n h) (hB : Below w0.heap.size w0 w) (hbB : w0.heap.size ≤ hb) (ps : Ps ah n m h) (hx : HX (hl ah) r k m h) (hrk : r ≤ k) (hkm : k ≤ m) (hm : m ≤ 1152921504606846976) :
    Calls Tryz.prog 45 #[.slice (some ⟨hb, 0, none⟩) m cap, .int .i64 (k : Int), .func (.func 44) #[] #[.pointer (some ⟨P2, 0, none⟩)]] w fun e w' => e = .returned undef ∧ ∃ g, Pr 0 m h g ∧ HP (hl ah) r m g ∧ HR w' hb m b0 cp n g ∧ OB hb w w' := by
  have S0 : Hid (SK1 w0 w hb m b0 cp n r ah h k h w) := ⟨Pr.refl _ _ _, hx, hR, OB.refl _ _, hB⟩
  have hFH : Hid (FiA w0 b0 cp n P2 ah) := hF
  have psH : Hid (Ps ah n m h) := ps
  clear hR hB hx hF ps
  go_enter Tryz.func45, Tryz.ntmps45
  go_wp2_with fail
  go_loopw [1] (fun vr wr => ∃ (k : Nat) (g : Nat → Pc), vr = .int .i64 (k : Int) ∧ r ≤ k ∧ k ≤ m ∧ Hid (SK1 w0 w hb m b0 cp n r ah h k g wr)) (fun vr _ => m - (intOf vr).toNat)
  case atStart => exact ⟨k, h, rfl, hrk, hkm, S0⟩
  case round =>
    clear S0 hrk hkm
    obtain ⟨k, g, rfl, hrk, hkm, hS⟩ := hrel
    have u1 : IntKind.i64.wrap (2 * (k : Int)) = 2 * (k : Int) := IntWalk.i64_in _ (by omega)
    obtain ⟨d, hd⟩ : ∃ d, d = 2 * k + 1 := ⟨_, rfl⟩
    have u2 : IntKind.i64.wrap (2 * (k : Int) + 1) = (d : Int) := by rw [IntWalk.i64_in _ (by omega)]; omega
    have hdH : Hid (d = 2 * k + 1) := hd
    have hkd : k < d := by omega
    have hdb : d ≤ 2 * m + 1 := by omega
    clear hd
    by_cases hdm : d < m
    · have hdI : ¬ (d : Int) ≥ (m : Int) := by omega
      have hdJ : (d : Int) < (m : Int) := by omega
      have d0 : (0 : Int) ≤ (d : Int) := by omega
      have k0 : (0 : Int) ≤ (k : Int) := by omega
      have kJ : (k : Int) < (m : Int) := by omega
      obtain ⟨c, hc⟩ : ∃ c, c = d + 1 := ⟨_, rfl⟩
      have u3 : IntKind.i64.wrap ((d : Int) + 1) = (c : Int) := by rw [IntWalk.i64_in _ (by omega)]; omega
      have hcH : Hid (c = d + 1) := hc
      have hdc : ¬ d = c := by omega
      have hkc : k < c := by omega
      clear hc
      have runs : ∀ i, i < m → (g i).1 < (g i).2 ∧ (g i).2 ≤ n := fun i hi => by
        have := (psH.out.pr hS.out.pr).run i hi
        exact ⟨this.1.1, this.2⟩
      have ttH : Hid (Tt (hl ah) m g) := (psH.out.pr hS.out.pr).tt o
      by_cases hcm : c < m
      · have hcI : (c : Int) < (m : Int) := by omega
        have hcd : decide ((c : Int) < (m : Int)) = true := decide_eq_true hcI
        have c0 : (0 : Int) ≤ (c : Int) := by omega
        have CH : Hid (∀ W, Below w0.heap.size w0 W → Calls Tryz.prog 44 #[pV b0 cp n (g c), pV b0 cp n (g d), .pointer (some ⟨P2, 0, none⟩)] W fun e w' => e = .returned (.bool (hl ah (g c) (g d))) ∧ Below W.heap.size W w') := fun W hW => hFH.out (g c) (g d) W (runs c hcm).1 (runs c hcm).2 (runs d hdm).1 (runs d hdm).2 hW
        have a1 := (hS.out.hr.2 c hcm).1
        have b1 := (hS.out.hr.2 d hdm).1
        have bl : hb < wr.heap.size := hS.out.hr.1
        have hbv : Hid (hl ah (g c) (g d) = hl ah (g c) (g d)) := rfl
        have CF : Hid (∀ e, e < m → ∀ W, Below w0.heap.size w0 W → Calls Tryz.prog 44 #[pV b0 cp n (g k), pV b0 cp n (g e), .pointer (some ⟨P2, 0, none⟩)] W fun e' w' => e' = .returned (.bool (hl ah (g k) (g e))) ∧ Below W.heap.size W w') := fun e he W hW => hFH.out (g k) (g e) W (runs k (by omega)).1 (runs k (by omega)).2 (runs e he).1 (runs e he).2 hW
        clear runs
        obtain ⟨bv, hbv2⟩ : ∃ bv, hl ah (g c) (g d) = bv := ⟨_, rfl⟩
        rw [hbv2] at CH
        have hbH : Hid (hl ah (g c) (g d) = bv) := hbv2
        clear hbv hbv2
        obtain ⟨ax, lx, cx, hX⟩ : ∃ ax lx cx, pV b0 cp n (g c) = .slice ax lx cx := ⟨_, _, _, rfl⟩
        obtain ⟨ay, ly, cy, hY⟩ : ∃ ay ly cy, pV b0 cp n (g d) = .slice ay ly cy := ⟨_, _, _, rfl⟩
        rw [hX] at a1 CH
        rw [hY] at b1 CH
        clear hX hY
        cases bv with
        | true =>
          go_wp2_with fail
          refine wp_region_noPanic ?_
          refine wp_region_held_drew (S := fun W => W.cell? ⟨hb, c, none⟩ = some (.slice ax lx cx) ∧ W.cell? ⟨hb, d, none⟩ = some (.slice ay ly cy)) (by kernel_rfl) ⟨a1, b1⟩ (fun hHeld => ?_)
          refine zT 0 (v := ?_) rfl ?_ ?_
          rotate_left 1
          · (intro w0 hSw; (try dsimp only at hSw); obtain ⟨s1, s2⟩ := hSw; go_simp; try with_reducible rfl)
          (try simp only [z1, z2, z3]); (try simp only [Act.put, z4, z5, z6])
          refine zT 1 (v := ?_) rfl ?_ ?_
          rotate_left 1
          · (intro w0 hSw; (try dsimp only at hSw); obtain ⟨s1, s2⟩ := hSw; go_simp; try with_reducible rfl)
          (try simp only [z1, z2, z3]); (try simp only [Act.put, z4, z5, z6])
          refine zT 2 (v := ?_) rfl ?_ ?_
          rotate_left 1
          · (intro w0 hSw; (try dsimp only at hSw); obtain ⟨s1, s2⟩ := hSw; go_simp; try with_reducible rfl)
          (try simp only [z1, z2, z3]); (try simp only [Act.put, z4, z5, z6])
          refine zT 3 (v := ?_) rfl ?_ ?_
          rotate_left 1
          · (intro w0 hSw; (try dsimp only at hSw); obtain ⟨s1, s2⟩ := hSw; go_simp; try with_reducible rfl)
          (try simp only [z1, z2, z3]); (try simp only [Act.put, z4, z5, z6])
          refine zT 4 (v := ?_) rfl ?_ ?_
          rotate_left 1
          · (intro w0 hSw; (try dsimp only at hSw); obtain ⟨s1, s2⟩ := hSw; go_simp; try with_reducible rfl)
          (try simp only [z1, z2, z3]); (try simp only [Act.put, z4, z5, z6])
          refine zT 5 (v := ?_) rfl ?_ ?_
          rotate_left 1
          · (intro w0 hSw; (try dsimp only at hSw); obtain ⟨s1, s2⟩ := hSw; go_simp; try with_reducible rfl)
          (try simp only [z1, z2, z3]); (try simp only [Act.put, z4, z5, z6])
          refine zT 6 (v := ?_) rfl ?_ ?_
          rotate_left 1
          · (intro w0 hSw; (try dsimp only at hSw); obtain ⟨s1, s2⟩ := hSw; go_simp; try with_reducible rfl)
          (try simp only [z1, z2, z3]); (try simp only [Act.put, z4, z5, z6])
          refine zT 7 (v := ?_) rfl ?_ ?_
          rotate_left 1
          · (intro w0 hSw; (try dsimp only at hSw); obtain ⟨s1, s2⟩ := hSw; go_simp; try with_reducible rfl)
          (try simp only [z1, z2, z3]); (try simp only [Act.put, z4, z5, z6])
          refine zT 8 (v := ?_) rfl ?_ ?_
          rotate_left 1
          · (intro w0 hSw; (try dsimp only at hSw); obtain ⟨s1, s2⟩ := hSw; go_simp; try with_reducible rfl)
          (try simp only [z1, z2, z3]); (try simp only [Act.put, z4, z5, z6])
          refine zT 9 (v := ?_) rfl ?_ ?_
          rotate_left 1
          · (intro w0 hSw; (try dsimp only at hSw); obtain ⟨s1, s2⟩ := hSw; go_simp; try with_reducible rfl)
          (try simp only [z1, z2, z3]); (try simp only [Act.put, z4, z5, z6])
          refine zT 10 (v := ?_) rfl ?_ ?_
          rotate_left 1
          · (intro w0 hSw; (try dsimp only at hSw); obtain ⟨s1, s2⟩ := hSw; go_simp; try with_reducible rfl)
          (try simp only [z1, z2, z3]); (try simp only [Act.put, z4, z5, z6])
          refine zT 11 (v := ?_) rfl ?_ ?_
          rotate_left 1
          · (intro w0 hSw; (try dsimp only at hSw); obtain ⟨s1, s2⟩ := hSw; go_simp; try with_reducible rfl)
          (try simp only [z1, z2, z3]); (try simp only [Act.put, z4, z5, z6])
          refine zT 12 (v := ?_) rfl ?_ ?_
          rotate_left 1
          · (intro w0 hSw; (try dsimp only at hSw); obtain ⟨s1, s2⟩ := hSw; go_simp; try with_reducible rfl)
          (try simp only [z1, z2, z3]); (try simp only [Act.put, z4, z5, z6])
          refine zT 13 (v := ?_) rfl ?_ ?_
          rotate_left 1
          · (intro w0 hSw; (try dsimp only at hSw); obtain ⟨s1, s2⟩ := hSw; go_simp; try with_reducible rfl)
          (try simp only [z1, z2, z3]); (try simp only [Act.put, z4, z5, z6])
          refine zT 14 (v := ?_) rfl ?_ ?_
          rotate_left 1
          · (intro w0 hSw; (try dsimp only at hSw); obtain ⟨s1, s2⟩ := hSw; go_simp; try with_reducible rfl)
          (try simp only [z1, z2, z3]); (try simp only [Act.put, z4, z5, z6])
          refine zT 15 (v := ?_) rfl ?_ ?_
          rotate_left 1
          · (intro w0 hSw; (try dsimp only at hSw); obtain ⟨s1, s2⟩ := hSw; go_simp; try with_reducible rfl)
          (try simp only [z1, z2, z3]); (try simp only [Act.put, z4, z5, z6])
          refine wpAnyH_ready (rs := [16]) (by kernel_rfl) (by simp) ?_
          refine AllReadyH.cons (o := _) rfl (fun K hK => ?_) AllReadyH.nil
          go_simp
          refine Calls.mono (CH.out _ (show Below w0.heap.size w0 wr.drew from hS.out.bl.drew)) ?_
          rintro e w' ⟨rfl, BB⟩
          try dsimp only
          refine hK _ _ ?_ (fun hHeld => ?_)
          · exact ⟨by rw [BB.cell (p := ⟨hb, c, none⟩) bl]; exact a1, by rw [BB.cell (p := ⟨hb, d, none⟩) bl]; exact b1⟩
          clear hK K
          (try simp only [z1, z2, z3]); (try simp only [Act.put, z4, z5, z6])
          refine zT 17 (v := ?_) rfl ?_ ?_
          rotate_left 1
          · (intro w0 hSw; (try dsimp only at hSw); obtain ⟨s1, s2⟩ := hSw; go_simp; try with_reducible rfl)
          (try simp only [z1, z2, z3]); (try simp only [Act.put, z4, z5, z6])
          refine wpAnyH_done (by kernel_rfl) ?_ _
          refine NoPanic.normal ?_
          have hS2 : Hid (SK1 w0 w hb m b0 cp n r ah h k g w') := hS.out.below ((show Below wr.heap.size wr wr.drew from (Below.refl _ wr).drew).trans BB)
          have hoth : Hid (∀ z, z < m → (z = 2 * k + 1 ∨ z = 2 * k + 2) → z ≠ c → hl ah (g c) (g z) = true) := fun z z1 z2 z3 => by
            have e : z = d := by have := hdH.out; have := hcH.out; omega
            rw [e]; exact hbH.out
          have hkid : Hid (c = 2 * k + 1 ∨ c = 2 * k + 2) := by show _ ∨ _; have := hdH.out; have := hcH.out; omega
          clear a1 b1 BB CH hbH hS bl hHeld
          go_wp2_with fail
          have a1 := (hS2.out.hr.2 k (by omega)).1
          have a2 := (hS2.out.hr.2 k (by omega)).2
          have b1 := (hS2.out.hr.2 c hcm).1
          have b2 := (hS2.out.hr.2 c hcm).2
          have bl : hb < w'.heap.size := hS2.out.hr.1
          have CH := CF.out c hcm
          obtain ⟨bv, hbv⟩ : ∃ bv, hl ah (g k) (g c) = bv := ⟨_, rfl⟩
          rw [hbv] at CH
          have hbH : Hid (hl ah (g k) (g c) = bv) := hbv
          have hsw : Hid (hl ah (g c) (g k) = true → ∀ W, SK1 w0 w hb m b0 cp n r ah h k g W → SK1 w0 w hb m b0 cp n r ah h c (sw g k c) ((W.setCell ⟨hb, k, none⟩ (pV b0 cp n (g c))).setCell ⟨hb, c, none⟩ (pV b0 cp n (g k)))) := fun q W s => s.step o hbB hrk (by omega) hcm hkid.out q hoth.out
          have htt : Hid (bv = false → hl ah (g c) (g k) = true) := fun q => (ttH.out c k hcm (by omega) (by omega)).resolve_right (by rw [hbH.out, q]; simp)
          have hdone : Hid (bv = true → HP (hl ah) r m g) := fun q => hS2.out.hx.done (fun z z1 z2 => by
            by_cases e : z = c
            · rw [e, hbH.out]; exact q
            · have h1 : ah (g k).1 (g c).1 = true := by have := hbH.out; rw [q] at this; exact this
              exact o.tr _ _ _ h1 (hoth.out z z1 z2 e))
          have CH2 : Hid _ := CH
          clear hbv CH CF hoth hkid hbH
          obtain ⟨bx, mx, ex, hX⟩ : ∃ ax lx cx, pV b0 cp n (g k) = .slice ax lx cx := ⟨_, _, _, rfl⟩
          obtain ⟨vy, my, ey, hY⟩ : ∃ ay ly cy, pV b0 cp n (g c) = .slice ay ly cy := ⟨_, _, _, rfl⟩
          rw [hX] at a1 CH2 hsw
          rw [hY] at b1 CH2 hsw
          clear hX hY
          have eI : (c : Int) < (m : Int) := by omega
          have e0 : (0 : Int) ≤ (c : Int) := by omega
          have kE : ¬ k = c := by omega
          have Ek : ¬ c = k := by omega
          cases bv with
          | true =>
            refine wp_region_noPanic ?_
            refine wp_region_held_drew (S := fun W => W.cell? ⟨hb, k, none⟩ = some (.slice bx mx ex) ∧ W.cell? ⟨hb, c, none⟩ = some (.slice vy my ey)) (by kernel_rfl) ⟨a1, b1⟩ (fun hHeld => ?_)
            refine zT 0 (v := ?_) rfl ?_ ?_
            rotate_left 1
            · (intro w0 hSw; (try dsimp only at hSw); obtain ⟨s1, s2⟩ := hSw; go_simp; try with_reducible rfl)
            (try simp only [z1, z2, z3]); (try simp only [Act.put, z4, z5, z6])
            refine zT 1 (v := ?_) rfl ?_ ?_
            rotate_left 1
            · (intro w0 hSw; (try dsimp only at hSw); obtain ⟨s1, s2⟩ := hSw; go_simp; try with_reducible rfl)
            (try simp only [z1, z2, z3]); (try simp only [Act.put, z4, z5, z6])
            refine zT 2 (v := ?_) rfl ?_ ?_
            rotate_left 1
            · (intro w0 hSw; (try dsimp only at hSw); obtain ⟨s1, s2⟩ := hSw; go_simp; try with_reducible rfl)
            (try simp only [z1, z2, z3]); (try simp only [Act.put, z4, z5, z6])
            refine zT 3 (v := ?_) rfl ?_ ?_
            rotate_left 1
            · (intro w0 hSw; (try dsimp only at hSw); obtain ⟨s1, s2⟩ := hSw; go_simp; try with_reducible rfl)
            (try simp only [z1, z2, z3]); (try simp only [Act.put, z4, z5, z6])
            refine zT 4 (v := ?_) rfl ?_ ?_
            rotate_left 1
            · (intro w0 hSw; (try dsimp only at hSw); obtain ⟨s1, s2⟩ := hSw; go_simp; try with_reducible rfl)
            (try simp only [z1, z2, z3]); (try simp only [Act.put, z4, z5, z6])
            refine zT 5 (v := ?_) rfl ?_ ?_
            rotate_left 1
            · (intro w0 hSw; (try dsimp only at hSw); obtain ⟨s1, s2⟩ := hSw; go_simp; try with_reducible rfl)
            (try simp only [z1, z2, z3]); (try simp only [Act.put, z4, z5, z6])
            refine zT 6 (v := ?_) rfl ?_ ?_
            rotate_left 1
            · (intro w0 hSw; (try dsimp only at hSw); obtain ⟨s1, s2⟩ := hSw; go_simp; try with_reducible rfl)
            (try simp only [z1, z2, z3]); (try simp only [Act.put, z4, z5, z6])
            refine zT 7 (v := ?_) rfl ?_ ?_
            rotate_left 1
            · (intro w0 hSw; (try dsimp only at hSw); obtain ⟨s1, s2⟩ := hSw; go_simp; try with_reducible rfl)
            (try simp only [z1, z2, z3]); (try simp only [Act.put, z4, z5, z6])
            refine zT 8 (v := ?_) rfl ?_ ?_
            rotate_left 1
            · (intro w0 hSw; (try dsimp only at hSw); obtain ⟨s1, s2⟩ := hSw; go_simp; try with_reducible rfl)
            (try simp only [z1, z2, z3]); (try simp only [Act.put, z4, z5, z6])
            refine wpAnyH_ready (rs := [9]) (by kernel_rfl) (by simp) ?_
            refine AllReadyH.cons (o := _) rfl (fun K hK => ?_) AllReadyH.nil
            go_simp
            refine Calls.mono (CH2.out _ (show Below w0.heap.size w0 w'.drew from hS2.out.bl.drew)) ?_
            rintro e w'' ⟨rfl, BB⟩
            try dsimp only
            refine hK _ _ ?_ (fun hHeld => ?_)
            · exact ⟨by rw [BB.cell (p := ⟨hb, k, none⟩) bl]; exact a1, by rw [BB.cell (p := ⟨hb, c, none⟩) bl]; exact b1⟩
            clear hK K
            (try simp only [z1, z2, z3]); (try simp only [Act.put, z4, z5, z6])
            refine wpAnyH_done (by kernel_rfl) ?_ _
            refine NoPanic.normal ?_
            have hS3 : Hid (SK1 w0 w hb m b0 cp n r ah h k g w'') := hS2.out.below ((show Below w'.heap.size w' w'.drew from (Below.refl _ w').drew).trans BB)
            have fin : Hid (∃ g, Pr 0 m h g ∧ HP (hl ah) r m g ∧ HR w'' hb m b0 cp n g ∧ OB hb w w'') := ⟨g, hS3.out.pr, hdone.out rfl, hS3.out.hr, hS3.out.ob⟩
            clear a1 a2 b1 b2 BB CH2 hS2 hS3 hsw htt hdone bl hHeld
            go_wp2_with fail
            first | go_end0 | (simp only [Exit.inBlock, Exit.then]; refine bodyPost_ret (results_none rfl _ _ _) rfl ?_) | refine bodyPost_ret (results_none rfl _ _ _) rfl ?_
            exact ⟨rfl, fin.out⟩
          | false =>
            refine wp_region_noPanic ?_
            refine wp_region_held_drew (S := fun W => W.cell? ⟨hb, k, none⟩ = some (.slice bx mx ex) ∧ W.cell? ⟨hb, c, none⟩ = some (.slice vy my ey)) (by kernel_rfl) ⟨a1, b1⟩ (fun hHeld => ?_)
            refine zT 0 (v := ?_) rfl ?_ ?_
            rotate_left 1
            · (intro w0 hSw; (try dsimp only at hSw); obtain ⟨s1, s2⟩ := hSw; go_simp; try with_reducible rfl)
            (try simp only [z1, z2, z3]); (try simp only [Act.put, z4, z5, z6])
            refine zT 1 (v := ?_) rfl ?_ ?_
            rotate_left 1
            · (intro w0 hSw; (try dsimp only at hSw); obtain ⟨s1, s2⟩ := hSw; go_simp; try with_reducible rfl)
            (try simp only [z1, z2, z3]); (try simp only [Act.put, z4, z5, z6])
            refine zT 2 (v := ?_) rfl ?_ ?_
            rotate_left 1
            · (intro w0 hSw; (try dsimp only at hSw); obtain ⟨s1, s2⟩ := hSw; go_simp; try with_reducible rfl)
            (try simp only [z1, z2, z3]); (try simp only [Act.put, z4, z5, z6])
            refine zT 3 (v := ?_) rfl ?_ ?_
            rotate_left 1
            · (intro w0 hSw; (try dsimp only at hSw); obtain ⟨s1, s2⟩ := hSw; go_simp; try with_reducible rfl)
            (try simp only [z1, z2, z3]); (try simp only [Act.put, z4, z5, z6])
            refine zT 4 (v := ?_) rfl ?_ ?_
            rotate_left 1
            · (intro w0 hSw; (try dsimp only at hSw); obtain ⟨s1, s2⟩ := hSw; go_simp; try with_reducible rfl)
            (try simp only [z1, z2, z3]); (try simp only [Act.put, z4, z5, z6])
            refine zT 5 (v := ?_) rfl ?_ ?_
            rotate_left 1
            · (intro w0 hSw; (try dsimp only at hSw); obtain ⟨s1, s2⟩ := hSw; go_simp; try with_reducible rfl)
            (try simp only [z1, z2, z3]); (try simp only [Act.put, z4, z5, z6])
            refine zT 6 (v := ?_) rfl ?_ ?_
            rotate_left 1
            · (intro w0 hSw; (try dsimp only at hSw); obtain ⟨s1, s2⟩ := hSw; go_simp; try with_reducible rfl)
            (try simp only [z1, z2, z3]); (try simp only [Act.put, z4, z5, z6])
            refine zT 7 (v := ?_) rfl ?_ ?_
            rotate_left 1
            · (intro w0 hSw; (try dsimp only at hSw); obtain ⟨s1, s2⟩ := hSw; go_simp; try with_reducible rfl)
            (try simp only [z1, z2, z3]); (try simp only [Act.put, z4, z5, z6])
            refine zT 8 (v := ?_) rfl ?_ ?_
            rotate_left 1
            · (intro w0 hSw; (try dsimp only at hSw); obtain ⟨s1, s2⟩ := hSw; go_simp; try with_reducible rfl)
            (try simp only [z1, z2, z3]); (try simp only [Act.put, z4, z5, z6])
            refine wpAnyH_ready (rs := [9]) (by kernel_rfl) (by simp) ?_
            refine AllReadyH.cons (o := _) rfl (fun K hK => ?_) AllReadyH.nil
            go_simp
            refine Calls.mono (CH2.out _ (show Below w0.heap.size w0 w'.drew from hS2.out.bl.drew)) ?_
            rintro e w'' ⟨rfl, BB⟩
            try dsimp only
            refine hK _ _ ?_ (fun hHeld => ?_)
            · exact ⟨by rw [BB.cell (p := ⟨hb, k, none⟩) bl]; exact a1, by rw [BB.cell (p := ⟨hb, c, none⟩) bl]; exact b1⟩
            clear hK K
            (try simp only [z1, z2, z3]); (try simp only [Act.put, z4, z5, z6])
            refine wpAnyH_done (by kernel_rfl) ?_ _
            refine NoPanic.normal ?_
            have hS3 : Hid (SK1 w0 w hb m b0 cp n r ah h k g w'') := hS2.out.below ((show Below w'.heap.size w' w'.drew from (Below.refl _ w').drew).trans BB)
            have f1 : w''.frozen? ⟨hb, k, none⟩ = false := (hS3.out.hr.2 k (by omega)).2
            have f2 : w''.frozen? ⟨hb, c, none⟩ = false := (hS3.out.hr.2 c hcm).2
            have c1 : w''.cell? ⟨hb, k, none⟩ = some (.slice bx mx ex) := by rw [BB.cell (p := ⟨hb, k, none⟩) bl]; exact a1
            have c2 : w''.cell? ⟨hb, c, none⟩ = some (.slice vy my ey) := by rw [BB.cell (p := ⟨hb, c, none⟩) bl]; exact b1
            have hS4 : Hid (SK1 w0 w hb m b0 cp n r ah h c (sw g k c) ((w''.setCell ⟨hb, k, none⟩ (.slice vy my ey)).setCell ⟨hb, c, none⟩ (.slice bx mx ex))) := hsw.out (htt.out rfl) w'' hS3.out
            clear a1 a2 b1 b2 BB CH2 hS2 hS3 hsw htt hdone bl hHeld
            go_wp2_with fail
            go_region
            generalize (w''.setCell ⟨hb, k, none⟩ (.slice vy my ey)).setCell ⟨hb, c, none⟩ (.slice bx mx ex) = W4 at hS4 ⊢
            clear c1 c2 f1 f2
            go_wp2_with fail
            exact ⟨⟨c, sw g k c, rfl, by omega, by omega, ⟨hS4.out.pr, hS4.out.hx, hS4.out.hr, hS4.out.ob.drewB, hS4.out.bl.drew⟩⟩, by simp [intOf]; omega⟩
        | false =>
          go_wp2_with fail
          refine wp_region_noPanic ?_
          refine wp_region_held_drew (S := fun W => W.cell? ⟨hb, c, none⟩ = some (.slice ax lx cx) ∧ W.cell? ⟨hb, d, none⟩ = some (.slice ay ly cy)) (by kernel_rfl) ⟨a1, b1⟩ (fun hHeld => ?_)
          refine zT 0 (v := ?_) rfl ?_ ?_
          rotate_left 1
          · (intro w0 hSw; (try dsimp only at hSw); obtain ⟨s1, s2⟩ := hSw; go_simp; try with_reducible rfl)
          (try simp only [z1, z2, z3]); (try simp only [Act.put, z4, z5, z6])
          refine zT 1 (v := ?_) rfl ?_ ?_
          rotate_left 1
          · (intro w0 hSw; (try dsimp only at hSw); obtain ⟨s1, s2⟩ := hSw; go_simp; try with_reducible rfl)
          (try simp only [z1, z2, z3]); (try simp only [Act.put, z4, z5, z6])
          refine zT 2 (v := ?_) rfl ?_ ?_
          rotate_left 1
          · (intro w0 hSw; (try dsimp only at hSw); obtain ⟨s1, s2⟩ := hSw; go_simp; try with_reducible rfl)
          (try simp only [z1, z2, z3]); (try simp only [Act.put, z4, z5, z6])
          refine zT 3 (v := ?_) rfl ?_ ?_
          rotate_left 1
          · (intro w0 hSw; (try dsimp only at hSw); obtain ⟨s1, s2⟩ := hSw; go_simp; try with_reducible rfl)
          (try simp only [z1, z2, z3]); (try simp only [Act.put, z4, z5, z6])
          refine zT 4 (v := ?_) rfl ?_ ?_
          rotate_left 1
          · (intro w0 hSw; (try dsimp only at hSw); obtain ⟨s1, s2⟩ := hSw; go_simp; try with_reducible rfl)
          (try simp only [z1, z2, z3]); (try simp only [Act.put, z4, z5, z6])
          refine zT 5 (v := ?_) rfl ?_ ?_
          rotate_left 1
          · (intro w0 hSw; (try dsimp only at hSw); obtain ⟨s1, s2⟩ := hSw; go_simp; try with_reducible rfl)
          (try simp only [z1, z2, z3]); (try simp only [Act.put, z4, z5, z6])
          refine zT 6 (v := ?_) rfl ?_ ?_
          rotate_left 1
          · (intro w0 hSw; (try dsimp only at hSw); obtain ⟨s1, s2⟩ := hSw; go_simp; try with_reducible rfl)
          (try simp only [z1, z2, z3]); (try simp only [Act.put, z4, z5, z6])
          refine zT 7 (v := ?_) rfl ?_ ?_
          rotate_left 1
          · (intro w0 hSw; (try dsimp only at hSw); obtain ⟨s1, s2⟩ := hSw; go_simp; try with_reducible rfl)
          (try simp only [z1, z2, z3]); (try simp only [Act.put, z4, z5, z6])
          refine zT 8 (v := ?_) rfl ?_ ?_
          rotate_left 1
          · (intro w0 hSw; (try dsimp only at hSw); obtain ⟨s1, s2⟩ := hSw; go_simp; try with_reducible rfl)
          (try simp only [z1, z2, z3]); (try simp only [Act.put, z4, z5, z6])
          refine zT 9 (v := ?_) rfl ?_ ?_
          rotate_left 1
          · (intro w0 hSw; (try dsimp only at hSw); obtain ⟨s1, s2⟩ := hSw; go_simp; try with_reducible rfl)
          (try simp only [z1, z2, z3]); (try simp only [Act.put, z4, z5, z6])
          refine zT 10 (v := ?_) rfl ?_ ?_
          rotate_left 1
          · (intro w0 hSw; (try dsimp only at hSw); obtain ⟨s1, s2⟩ := hSw; go_simp; try with_reducible rfl)
          (try simp only [z1, z2, z3]); (try simp only [Act.put, z4, z5, z6])
          refine zT 11 (v := ?_) rfl ?_ ?_
          rotate_left 1
          · (intro w0 hSw; (try dsimp only at hSw); obtain ⟨s1, s2⟩ := hSw; go_simp; try with_reducible rfl)
          (try simp only [z1, z2, z3]); (try simp only [Act.put, z4, z5, z6])
          refine zT 12 (v := ?_) rfl ?_ ?_
          rotate_left 1
          · (intro w0 hSw; (try dsimp only at hSw); obtain ⟨s1, s2⟩ := hSw; go_simp; try with_reducible rfl)
          (try simp only [z1, z2, z3]); (try simp only [Act.put, z4, z5, z6])
          refine zT 13 (v := ?_) rfl ?_ ?_
          rotate_left 1
          · (intro w0 hSw; (try dsimp only at hSw); obtain ⟨s1, s2⟩ := hSw; go_simp; try with_reducible rfl)
          (try simp only [z1, z2, z3]); (try simp only [Act.put, z4, z5, z6])
          refine zT 14 (v := ?_) rfl ?_ ?_
          rotate_left 1
          · (intro w0 hSw; (try dsimp only at hSw); obtain ⟨s1, s2⟩ := hSw; go_simp; try with_reducible rfl)
          (try simp only [z1, z2, z3]); (try simp only [Act.put, z4, z5, z6])
          refine zT 15 (v := ?_) rfl ?_ ?_
          rotate_left 1
          · (intro w0 hSw; (try dsimp only at hSw); obtain ⟨s1, s2⟩ := hSw; go_simp; try with_reducible rfl)
          (try simp only [z1, z2, z3]); (try simp only [Act.put, z4, z5, z6])
          refine wpAnyH_ready (rs := [16]) (by kernel_rfl) (by simp) ?_
          refine AllReadyH.cons (o := _) rfl (fun K hK => ?_) AllReadyH.nil
          go_simp
          refine Calls.mono (CH.out _ (show Below w0.heap.size w0 wr.drew from hS.out.bl.drew)) ?_
          rintro e w' ⟨rfl, BB⟩
          try dsimp only
          refine hK _ _ ?_ (fun hHeld => ?_)
          · exact ⟨by rw [BB.cell (p := ⟨hb, c, none⟩) bl]; exact a1, by rw [BB.cell (p := ⟨hb, d, none⟩) bl]; exact b1⟩
          clear hK K
          (try simp only [z1, z2, z3]); (try simp only [Act.put, z4, z5, z6])
          refine zT 17 (v := ?_) rfl ?_ ?_
          rotate_left 1
          · (intro w0 hSw; (try dsimp only at hSw); obtain ⟨s1, s2⟩ := hSw; go_simp; try with_reducible rfl)
          (try simp only [z1, z2, z3]); (try simp only [Act.put, z4, z5, z6])
          refine wpAnyH_done (by kernel_rfl) ?_ _
          refine NoPanic.normal ?_
          have hS2 : Hid (SK1 w0 w hb m b0 cp n r ah h k g w') := hS.out.below ((show Below wr.heap.size wr wr.drew from (Below.refl _ wr).drew).trans BB)
          have hoth : Hid (∀ z, z < m → (z = 2 * k + 1 ∨ z = 2 * k + 2) → z ≠ d → hl ah (g d) (g z) = true) := fun z z1 z2 z3 => by
            have e : z = c := by have := hdH.out; have := hcH.out; omega
            rw [e]
            exact (ttH.out d c hdm hcm hdc).resolve_right (by rw [hbH.out]; simp)
          have hkid : Hid (d = 2 * k + 1 ∨ d = 2 * k + 2) := Or.inl hdH.out
          clear a1 b1 BB CH hbH hS bl hHeld
          go_wp2_with fail
          have a1 := (hS2.out.hr.2 k (by omega)).1
          have a2 := (hS2.out.hr.2 k (by omega)).2
          have b1 := (hS2.out.hr.2 d hdm).1
          have b2 := (hS2.out.hr.2 d hdm).2
          have bl : hb < w'.heap.size := hS2.out.hr.1
          have CH := CF.out d hdm
          obtain ⟨bv, hbv⟩ : ∃ bv, hl ah (g k) (g d) = bv := ⟨_, rfl⟩
          rw [hbv] at CH
          have hbH : Hid (hl ah (g k) (g d) = bv) := hbv
          have hsw : Hid (hl ah (g d) (g k) = true → ∀ W, SK1 w0 w hb m b0 cp n r ah h k g W → SK1 w0 w hb m b0 cp n r ah h d (sw g k d) ((W.setCell ⟨hb, k, none⟩ (pV b0 cp n (g d))).setCell ⟨hb, d, none⟩ (pV b0 cp n (g k)))) := fun q W s => s.step o hbB hrk (by omega) hdm hkid.out q hoth.out
          have htt : Hid (bv = false → hl ah (g d) (g k) = true) := fun q => (ttH.out d k hdm (by omega) (by omega)).resolve_right (by rw [hbH.out, q]; simp)
          have hdone : Hid (bv = true → HP (hl ah) r m g) := fun q => hS2.out.hx.done (fun z z1 z2 => by
            by_cases e : z = d
            · rw [e, hbH.out]; exact q
            · have h1 : ah (g k).1 (g d).1 = true := by have := hbH.out; rw [q] at this; exact this
              exact o.tr _ _ _ h1 (hoth.out z z1 z2 e))
          have CH2 : Hid _ := CH
          clear hbv CH CF hoth hkid hbH
          obtain ⟨bx, mx, ex, hX⟩ : ∃ ax lx cx, pV b0 cp n (g k) = .slice ax lx cx := ⟨_, _, _, rfl⟩
          obtain ⟨vy, my, ey, hY⟩ : ∃ ay ly cy, pV b0 cp n (g d) = .slice ay ly cy := ⟨_, _, _, rfl⟩
          rw [hX] at a1 CH2 hsw
          rw [hY] at b1 CH2 hsw
          clear hX hY
          have eI : (d : Int) < (m : Int) := by omega
          have e0 : (0 : Int) ≤ (d : Int) := by omega
          have kE : ¬ k = d := by omega
          have Ek : ¬ d = k := by omega
          cases bv with
          | true =>
            refine wp_region_noPanic ?_
            refine wp_region_held_drew (S := fun W => W.cell? ⟨hb, k, none⟩ = some (.slice bx mx ex) ∧ W.cell? ⟨hb, d, none⟩ = some (.slice vy my ey)) (by kernel_rfl) ⟨a1, b1⟩ (fun hHeld => ?_)
            refine zT 0 (v := ?_) rfl ?_ ?_
            rotate_left 1
            · (intro w0 hSw; (try dsimp only at hSw); obtain ⟨s1, s2⟩ := hSw; go_simp; try with_reducible rfl)
            (try simp only [z1, z2, z3]); (try simp only [Act.put, z4, z5, z6])
            refine zT 1 (v := ?_) rfl ?_ ?_
            rotate_left 1
            · (intro w0 hSw; (try dsimp only at hSw); obtain ⟨s1, s2⟩ := hSw; go_simp; try with_reducible rfl)
            (try simp only [z1, z2, z3]); (try simp only [Act.put, z4, z5, z6])
            refine zT 2 (v := ?_) rfl ?_ ?_
            rotate_left 1
            · (intro w0 hSw; (try dsimp only at hSw); obtain ⟨s1, s2⟩ := hSw; go_simp; try with_reducible rfl)
            (try simp only [z1, z2, z3]); (try simp only [Act.put, z4, z5, z6])
            refine zT 3 (v := ?_) rfl ?_ ?_
            rotate_left 1
            · (intro w0 hSw; (try dsimp only at hSw); obtain ⟨s1, s2⟩ := hSw; go_simp; try with_reducible rfl)
            (try simp only [z1, z2, z3]); (try simp only [Act.put, z4, z5, z6])
            refine zT 4 (v := ?_) rfl ?_ ?_
            rotate_left 1
            · (intro w0 hSw; (try dsimp only at hSw); obtain ⟨s1, s2⟩ := hSw; go_simp; try with_reducible rfl)
            (try simp only [z1, z2, z3]); (try simp only [Act.put, z4, z5, z6])
            refine zT 5 (v := ?_) rfl ?_ ?_
            rotate_left 1
            · (intro w0 hSw; (try dsimp only at hSw); obtain ⟨s1, s2⟩ := hSw; go_simp; try with_reducible rfl)
            (try simp only [z1, z2, z3]); (try simp only [Act.put, z4, z5, z6])
            refine zT 6 (v := ?_) rfl ?_ ?_
            rotate_left 1
            · (intro w0 hSw; (try dsimp only at hSw); obtain ⟨s1, s2⟩ := hSw; go_simp; try with_reducible rfl)
            (try simp only [z1, z2, z3]); (try simp only [Act.put, z4, z5, z6])
            refine zT 7 (v := ?_) rfl ?_ ?_
            rotate_left 1
            · (intro w0 hSw; (try dsimp only at hSw); obtain ⟨s1, s2⟩ := hSw; go_simp; try with_reducible rfl)
            (try simp only [z1, z2, z3]); (try simp only [Act.put, z4, z5, z6])
            refine zT 8 (v := ?_) rfl ?_ ?_
            rotate_left 1
            · (intro w0 hSw; (try dsimp only at hSw); obtain ⟨s1, s2⟩ := hSw; go_simp; try with_reducible rfl)
            (try simp only [z1, z2, z3]); (try simp only [Act.put, z4, z5, z6])
            refine wpAnyH_ready (rs := [9]) (by kernel_rfl) (by simp) ?_
            refine AllReadyH.cons (o := _) rfl (fun K hK => ?_) AllReadyH.nil
            go_simp
            refine Calls.mono (CH2.out _ (show Below w0.heap.size w0 w'.drew from hS2.out.bl.drew)) ?_
            rintro e w'' ⟨rfl, BB⟩
            try dsimp only
            refine hK _ _ ?_ (fun hHeld => ?_)
            · exact ⟨by rw [BB.cell (p := ⟨hb, k, none⟩) bl]; exact a1, by rw [BB.cell (p := ⟨hb, d, none⟩) bl]; exact b1⟩
            clear hK K
            (try simp only [z1, z2, z3]); (try simp only [Act.put, z4, z5, z6])
            refine wpAnyH_done (by kernel_rfl) ?_ _
            refine NoPanic.normal ?_
            have hS3 : Hid (SK1 w0 w hb m b0 cp n r ah h k g w'') := hS2.out.below ((show Below w'.heap.size w' w'.drew from (Below.refl _ w').drew).trans BB)
            have fin : Hid (∃ g, Pr 0 m h g ∧ HP (hl ah) r m g ∧ HR w'' hb m b0 cp n g ∧ OB hb w w'') := ⟨g, hS3.out.pr, hdone.out rfl, hS3.out.hr, hS3.out.ob⟩
            clear a1 a2 b1 b2 BB CH2 hS2 hS3 hsw htt hdone bl hHeld
            go_wp2_with fail
            first | go_end0 | (simp only [Exit.inBlock, Exit.then]; refine bodyPost_ret (results_none rfl _ _ _) rfl ?_) | refine bodyPost_ret (results_none rfl _ _ _) rfl ?_
            exact ⟨rfl, fin.out⟩
          | false =>
            refine wp_region_noPanic ?_
            refine wp_region_held_drew (S := fun W => W.cell? ⟨hb, k, none⟩ = some (.slice bx mx ex) ∧ W.cell? ⟨hb, d, none⟩ = some (.slice vy my ey)) (by kernel_rfl) ⟨a1, b1⟩ (fun hHeld => ?_)
            refine zT 0 (v := ?_) rfl ?_ ?_
            rotate_left 1
            · (intro w0 hSw; (try dsimp only at hSw); obtain ⟨s1, s2⟩ := hSw; go_simp; try with_reducible rfl)
            (try simp only [z1, z2, z3]); (try simp only [Act.put, z4, z5, z6])
            refine zT 1 (v := ?_) rfl ?_ ?_
            rotate_left 1
            · (intro w0 hSw; (try dsimp only at hSw); obtain ⟨s1, s2⟩ := hSw; go_simp; try with_reducible rfl)
            (try simp only [z1, z2, z3]); (try simp only [Act.put, z4, z5, z6])
            refine zT 2 (v := ?_) rfl ?_ ?_
            rotate_left 1
            · (intro w0 hSw; (try dsimp only at hSw); obtain ⟨s1, s2⟩ := hSw; go_simp; try with_reducible rfl)
            (try simp only [z1, z2, z3]); (try simp only [Act.put, z4, z5, z6])
            refine zT 3 (v := ?_) rfl ?_ ?_
            rotate_left 1
            · (intro w0 hSw; (try dsimp only at hSw); obtain ⟨s1, s2⟩ := hSw; go_simp; try with_reducible rfl)
            (try simp only [z1, z2, z3]); (try simp only [Act.put, z4, z5, z6])
            refine zT 4 (v := ?_) rfl ?_ ?_
            rotate_left 1
            · (intro w0 hSw; (try dsimp only at hSw); obtain ⟨s1, s2⟩ := hSw; go_simp; try with_reducible rfl)
            (try simp only [z1, z2, z3]); (try simp only [Act.put, z4, z5, z6])
            refine zT 5 (v := ?_) rfl ?_ ?_
            rotate_left 1
            · (intro w0 hSw; (try dsimp only at hSw); obtain ⟨s1, s2⟩ := hSw; go_simp; try with_reducible rfl)
            (try simp only [z1, z2, z3]); (try simp only [Act.put, z4, z5, z6])
            refine zT 6 (v := ?_) rfl ?_ ?_
            rotate_left 1
            · (intro w0 hSw; (try dsimp only at hSw); obtain ⟨s1, s2⟩ := hSw; go_simp; try with_reducible rfl)
            (try simp only [z1, z2, z3]); (try simp only [Act.put, z4, z5, z6])
            refine zT 7 (v := ?_) rfl ?_ ?_
            rotate_left 1
            · (intro w0 hSw; (try dsimp only at hSw); obtain ⟨s1, s2⟩ := hSw; go_simp; try with_reducible rfl)
            (try simp only [z1, z2, z3]); (try simp only [Act.put, z4, z5, z6])
            refine zT 8 (v := ?_) rfl ?_ ?_
            rotate_left 1
            · (intro w0 hSw; (try dsimp only at hSw); obtain ⟨s1, s2⟩ := hSw; go_simp; try with_reducible rfl)
            (try simp only [z1, z2, z3]); (try simp only [Act.put, z4, z5, z6])
            refine wpAnyH_ready (rs := [9]) (by kernel_rfl) (by simp) ?_
            refine AllReadyH.cons (o := _) rfl (fun K hK => ?_) AllReadyH.nil
            go_simp
            refine Calls.mono (CH2.out _ (show Below w0.heap.size w0 w'.drew from hS2.out.bl.drew)) ?_
            rintro e w'' ⟨rfl, BB⟩
            try dsimp only
            refine hK _ _ ?_ (fun hHeld => ?_)
            · exact ⟨by rw [BB.cell (p := ⟨hb, k, none⟩) bl]; exact a1, by rw [BB.cell (p := ⟨hb, d, none⟩) bl]; exact b1⟩
            clear hK K
            (try simp only [z1, z2, z3]); (try simp only [Act.put, z4, z5, z6])
            refine wpAnyH_done (by kernel_rfl) ?_ _
            refine NoPanic.normal ?_
            have hS3 : Hid (SK1 w0 w hb m b0 cp n r ah h k g w'') := hS2.out.below ((show Below w'.heap.size w' w'.drew from (Below.refl _ w').drew).trans BB)
            have f1 : w''.frozen? ⟨hb, k, none⟩ = false := (hS3.out.hr.2 k (by omega)).2
            have f2 : w''.frozen? ⟨hb, d, none⟩ = false := (hS3.out.hr.2 d hdm).2
            have c1 : w''.cell? ⟨hb, k, none⟩ = some (.slice bx mx ex) := by rw [BB.cell (p := ⟨hb, k, none⟩) bl]; exact a1
            have c2 : w''.cell? ⟨hb, d, none⟩ = some (.slice vy my ey) := by rw [BB.cell (p := ⟨hb, d, none⟩) bl]; exact b1
            have hS4 : Hid (SK1 w0 w hb m b0 cp n r ah h d (sw g k d) ((w''.setCell ⟨hb, k, none⟩ (.slice vy my ey)).setCell ⟨hb, d, none⟩ (.slice bx mx ex))) := hsw.out (htt.out rfl) w'' hS3.out
            clear a1 a2 b1 b2 BB CH2 hS2 hS3 hsw htt hdone bl hHeld
            go_wp2_with fail
            go_region
            generalize (w''.setCell ⟨hb, k, none⟩ (.slice vy my ey)).setCell ⟨hb, d, none⟩ (.slice bx mx ex) = W4 at hS4 ⊢
            clear c1 c2 f1 f2
            go_wp2_with fail
            exact ⟨⟨d, sw g k d, rfl, by omega, by omega, ⟨hS4.out.pr, hS4.out.hx, hS4.out.hr, hS4.out.ob.drewB, hS4.out.bl.drew⟩⟩, by simp [intOf]; omega⟩
      · have hcI : ¬ (c : Int) < (m : Int) := by omega
        have hcd : decide ((c : Int) < (m : Int)) = false := decide_eq_false hcI
        have CF : Hid (∀ e, e < m → ∀ W, Below w0.heap.size w0 W → Calls Tryz.prog 44 #[pV b0 cp n (g k), pV b0 cp n (g e), .pointer (some ⟨P2, 0, none⟩)] W fun e' w' => e' = .returned (.bool (hl ah (g k) (g e))) ∧ Below W.heap.size W w') := fun e he W hW => hFH.out (g k) (g e) W (runs k (by omega)).1 (runs k (by omega)).2 (runs e he).1 (runs e he).2 hW
        have hoth : Hid (∀ z, z < m → (z = 2 * k + 1 ∨ z = 2 * k + 2) → z ≠ d → hl ah (g d) (g z) = true) := fun z z1 z2 z3 => by have := hdH.out; have := hcH.out; omega
        have hkid : Hid (d = 2 * k + 1 ∨ d = 2 * k + 2) := Or.inl hdH.out
        clear runs
        go_wp2_with fail
        go_quiet (fail)
        generalize hwq : World.drewN wr _ = w'
        have hS2 : Hid (SK1 w0 w hb m b0 cp n r ah h k g w') := hS.out.below (hwq ▸ bdrewB (Below.refl _ wr) _)
        clear hS hwq
        go_wp2_with fail
        have a1 := (hS2.out.hr.2 k (by omega)).1
        have a2 := (hS2.out.hr.2 k (by omega)).2
        have b1 := (hS2.out.hr.2 d hdm).1
        have b2 := (hS2.out.hr.2 d hdm).2
        have bl : hb < w'.heap.size := hS2.out.hr.1
        have CH := CF.out d hdm
        obtain ⟨bv, hbv⟩ : ∃ bv, hl ah (g k) (g d) = bv := ⟨_, rfl⟩
        rw [hbv] at CH
        have hbH : Hid (hl ah (g k) (g d) = bv) := hbv
        have hsw : Hid (hl ah (g d) (g k) = true → ∀ W, SK1 w0 w hb m b0 cp n r ah h k g W → SK1 w0 w hb m b0 cp n r ah h d (sw g k d) ((W.setCell ⟨hb, k, none⟩ (pV b0 cp n (g d))).setCell ⟨hb, d, none⟩ (pV b0 cp n (g k)))) := fun q W s => s.step o hbB hrk (by omega) hdm hkid.out q hoth.out
        have htt : Hid (bv = false → hl ah (g d) (g k) = true) := fun q => (ttH.out d k hdm (by omega) (by omega)).resolve_right (by rw [hbH.out, q]; simp)
        have hdone : Hid (bv = true → HP (hl ah) r m g) := fun q => hS2.out.hx.done (fun z z1 z2 => by
          by_cases e : z = d
          · rw [e, hbH.out]; exact q
          · have h1 : ah (g k).1 (g d).1 = true := by have := hbH.out; rw [q] at this; exact this
            exact o.tr _ _ _ h1 (hoth.out z z1 z2 e))
        have CH2 : Hid _ := CH
        clear hbv CH CF hoth hkid hbH
        obtain ⟨bx, mx, ex, hX⟩ : ∃ ax lx cx, pV b0 cp n (g k) = .slice ax lx cx := ⟨_, _, _, rfl⟩
        obtain ⟨vy, my, ey, hY⟩ : ∃ ay ly cy, pV b0 cp n (g d) = .slice ay ly cy := ⟨_, _, _, rfl⟩
        rw [hX] at a1 CH2 hsw
        rw [hY] at b1 CH2 hsw
        clear hX hY
        have eI : (d : Int) < (m : Int) := by omega
        have e0 : (0 : Int) ≤ (d : Int) := by omega
        have kE : ¬ k = d := by omega
        have Ek : ¬ d = k := by omega
        cases bv with
        | true =>
          refine wp_region_noPanic ?_
          refine wp_region_held_drew (S := fun W => W.cell? ⟨hb, k, none⟩ = some (.slice bx mx ex) ∧ W.cell? ⟨hb, d, none⟩ = some (.slice vy my ey)) (by kernel_rfl) ⟨a1, b1⟩ (fun hHeld => ?_)
          refine zT 0 (v := ?_) rfl ?_ ?_
          rotate_left 1
          · (intro w0 hSw; (try dsimp only at hSw); obtain ⟨s1, s2⟩ := hSw; go_simp; try with_reducible rfl)
          (try simp only [z1, z2, z3]); (try simp only [Act.put, z4, z5, z6])
          refine zT 1 (v := ?_) rfl ?_ ?_
          rotate_left 1
          · (intro w0 hSw; (try dsimp only at hSw); obtain ⟨s1, s2⟩ := hSw; go_simp; try with_reducible rfl)
          (try simp only [z1, z2, z3]); (try simp only [Act.put, z4, z5, z6])
          refine zT 2 (v := ?_) rfl ?_ ?_
          rotate_left 1
          · (intro w0 hSw; (try dsimp only at hSw); obtain ⟨s1, s2⟩ := hSw; go_simp; try with_reducible rfl)
          (try simp only [z1, z2, z3]); (try simp only [Act.put, z4, z5, z6])
          refine zT 3 (v := ?_) rfl ?_ ?_
          rotate_left 1
          · (intro w0 hSw; (try dsimp only at hSw); obtain ⟨s1, s2⟩ := hSw; go_simp; try with_reducible rfl)
          (try simp only [z1, z2, z3]); (try simp only [Act.put, z4, z5, z6])
          refine zT 4 (v := ?_) rfl ?_ ?_
          rotate_left 1
          · (intro w0 hSw; (try dsimp only at hSw); obtain ⟨s1, s2⟩ := hSw; go_simp; try with_reducible rfl)
          (try simp only [z1, z2, z3]); (try simp only [Act.put, z4, z5, z6])
          refine zT 5 (v := ?_) rfl ?_ ?_
          rotate_left 1
          · (intro w0 hSw; (try dsimp only at hSw); obtain ⟨s1, s2⟩ := hSw; go_simp; try with_reducible rfl)
          (try simp only [z1, z2, z3]); (try simp only [Act.put, z4, z5, z6])
          refine zT 6 (v := ?_) rfl ?_ ?_
          rotate_left 1
          · (intro w0 hSw; (try dsimp only at hSw); obtain ⟨s1, s2⟩ := hSw; go_simp; try with_reducible rfl)
          (try simp only [z1, z2, z3]); (try simp only [Act.put, z4, z5, z6])
          refine zT 7 (v := ?_) rfl ?_ ?_
          rotate_left 1
          · (intro w0 hSw; (try dsimp only at hSw); obtain ⟨s1, s2⟩ := hSw; go_simp; try with_reducible rfl)
          (try simp only [z1, z2, z3]); (try simp only [Act.put, z4, z5, z6])
          refine zT 8 (v := ?_) rfl ?_ ?_
          rotate_left 1
          · (intro w0 hSw; (try dsimp only at hSw); obtain ⟨s1, s2⟩ := hSw; go_simp; try with_reducible rfl)
          (try simp only [z1, z2, z3]); (try simp only [Act.put, z4, z5, z6])
          refine wpAnyH_ready (rs := [9]) (by kernel_rfl) (by simp) ?_
          refine AllReadyH.cons (o := _) rfl (fun K hK => ?_) AllReadyH.nil
          go_simp
          refine Calls.mono (CH2.out _ (show Below w0.heap.size w0 w'.drew from hS2.out.bl.drew)) ?_
          rintro e w'' ⟨rfl, BB⟩
          try dsimp only
          refine hK _ _ ?_ (fun hHeld => ?_)
          · exact ⟨by rw [BB.cell (p := ⟨hb, k, none⟩) bl]; exact a1, by rw [BB.cell (p := ⟨hb, d, none⟩) bl]; exact b1⟩
          clear hK K
          (try simp only [z1, z2, z3]); (try simp only [Act.put, z4, z5, z6])
          refine wpAnyH_done (by kernel_rfl) ?_ _
          refine NoPanic.normal ?_
          have hS3 : Hid (SK1 w0 w hb m b0 cp n r ah h k g w'') := hS2.out.below ((show Below w'.heap.size w' w'.drew from (Below.refl _ w').drew).trans BB)
          have fin : Hid (∃ g, Pr 0 m h g ∧ HP (hl ah) r m g ∧ HR w'' hb m b0 cp n g ∧ OB hb w w'') := ⟨g, hS3.out.pr, hdone.out rfl, hS3.out.hr, hS3.out.ob⟩
          clear a1 a2 b1 b2 BB CH2 hS2 hS3 hsw htt hdone bl hHeld
          go_wp2_with fail
          first | go_end0 | (simp only [Exit.inBlock, Exit.then]; refine bodyPost_ret (results_none rfl _ _ _) rfl ?_) | refine bodyPost_ret (results_none rfl _ _ _) rfl ?_
          exact ⟨rfl, fin.out⟩
        | false =>
          refine wp_region_noPanic ?_
          refine wp_region_held_drew (S := fun W => W.cell? ⟨hb, k, none⟩ = some (.slice bx mx ex) ∧ W.cell? ⟨hb, d, none⟩ = some (.slice vy my ey)) (by kernel_rfl) ⟨a1, b1⟩ (fun hHeld => ?_)
          refine zT 0 (v := ?_) rfl ?_ ?_
          rotate_left 1
          · (intro w0 hSw; (try dsimp only at hSw); obtain ⟨s1, s2⟩ := hSw; go_simp; try with_reducible rfl)
          (try simp only [z1, z2, z3]); (try simp only [Act.put, z4, z5, z6])
          refine zT 1 (v := ?_) rfl ?_ ?_
          rotate_left 1
          · (intro w0 hSw; (try dsimp only at hSw); obtain ⟨s1, s2⟩ := hSw; go_simp; try with_reducible rfl)
          (try simp only [z1, z2, z3]); (try simp only [Act.put, z4, z5, z6])
          refine zT 2 (v := ?_) rfl ?_ ?_
          rotate_left 1
          · (intro w0 hSw; (try dsimp only at hSw); obtain ⟨s1, s2⟩ := hSw; go_simp; try with_reducible rfl)
          (try simp only [z1, z2, z3]); (try simp only [Act.put, z4, z5, z6])
          refine zT 3 (v := ?_) rfl ?_ ?_
          rotate_left 1
          · (intro w0 hSw; (try dsimp only at hSw); obtain ⟨s1, s2⟩ := hSw; go_simp; try with_reducible rfl)
          (try simp only [z1, z2, z3]); (try simp only [Act.put, z4, z5, z6])
          refine zT 4 (v := ?_) rfl ?_ ?_
          rotate_left 1
          · (intro w0 hSw; (try dsimp only at hSw); obtain ⟨s1, s2⟩ := hSw; go_simp; try with_reducible rfl)
          (try simp only [z1, z2, z3]); (try simp only [Act.put, z4, z5, z6])
          refine zT 5 (v := ?_) rfl ?_ ?_
          rotate_left 1
          · (intro w0 hSw; (try dsimp only at hSw); obtain ⟨s1, s2⟩ := hSw; go_simp; try with_reducible rfl)
          (try simp only [z1, z2, z3]); (try simp only [Act.put, z4, z5, z6])
          refine zT 6 (v := ?_) rfl ?_ ?_
          rotate_left 1
          · (intro w0 hSw; (try dsimp only at hSw); obtain ⟨s1, s2⟩ := hSw; go_simp; try with_reducible rfl)
          (try simp only [z1, z2, z3]); (try simp only [Act.put, z4, z5, z6])
          refine zT 7 (v := ?_) rfl ?_ ?_
          rotate_left 1
          · (intro w0 hSw; (try dsimp only at hSw); obtain ⟨s1, s2⟩ := hSw; go_simp; try with_reducible rfl)
          (try simp only [z1, z2, z3]); (try simp only [Act.put, z4, z5, z6])
          refine zT 8 (v := ?_) rfl ?_ ?_
          rotate_left 1
          · (intro w0 hSw; (try dsimp only at hSw); obtain ⟨s1, s2⟩ := hSw; go_simp; try with_reducible rfl)
          (try simp only [z1, z2, z3]); (try simp only [Act.put, z4, z5, z6])
          refine wpAnyH_ready (rs := [9]) (by kernel_rfl) (by simp) ?_
          refine AllReadyH.cons (o := _) rfl (fun K hK => ?_) AllReadyH.nil
          go_simp
          refine Calls.mono (CH2.out _ (show Below w0.heap.size w0 w'.drew from hS2.out.bl.drew)) ?_
          rintro e w'' ⟨rfl, BB⟩
          try dsimp only
          refine hK _ _ ?_ (fun hHeld => ?_)
          · exact ⟨by rw [BB.cell (p := ⟨hb, k, none⟩) bl]; exact a1, by rw [BB.cell (p := ⟨hb, d, none⟩) bl]; exact b1⟩
          clear hK K
          (try simp only [z1, z2, z3]); (try simp only [Act.put, z4, z5, z6])
          refine wpAnyH_done (by kernel_rfl) ?_ _
          refine NoPanic.normal ?_
          have hS3 : Hid (SK1 w0 w hb m b0 cp n r ah h k g w'') := hS2.out.below ((show Below w'.heap.size w' w'.drew from (Below.refl _ w').drew).trans BB)
          have f1 : w''.frozen? ⟨hb, k, none⟩ = false := (hS3.out.hr.2 k (by omega)).2
          have f2 : w''.frozen? ⟨hb, d, none⟩ = false := (hS3.out.hr.2 d hdm).2
          have c1 : w''.cell? ⟨hb, k, none⟩ = some (.slice bx mx ex) := by rw [BB.cell (p := ⟨hb, k, none⟩) bl]; exact a1
          have c2 : w''.cell? ⟨hb, d, none⟩ = some (.slice vy my ey) := by rw [BB.cell (p := ⟨hb, d, none⟩) bl]; exact b1
          have hS4 : Hid (SK1 w0 w hb m b0 cp n r ah h d (sw g k d) ((w''.setCell ⟨hb, k, none⟩ (.slice vy my ey)).setCell ⟨hb, d, none⟩ (.slice bx mx ex))) := hsw.out (htt.out rfl) w'' hS3.out
          clear a1 a2 b1 b2 BB CH2 hS2 hS3 hsw htt hdone bl hHeld
          go_wp2_with fail
          go_region
          generalize (w''.setCell ⟨hb, k, none⟩ (.slice vy my ey)).setCell ⟨hb, d, none⟩ (.slice bx mx ex) = W4 at hS4 ⊢
          clear c1 c2 f1 f2
          go_wp2_with fail
          exact ⟨⟨d, sw g k d, rfl, by omega, by omega, ⟨hS4.out.pr, hS4.out.hx, hS4.out.hr, hS4.out.ob.drewB, hS4.out.bl.drew⟩⟩, by simp [intOf]; omega⟩
    · have hdI : (d : Int) ≥ (m : Int) := by omega
      have fin : Hid (∃ g, Pr 0 m h g ∧ HP (hl ah) r m g ∧ HR wr hb m b0 cp n g ∧ OB hb w wr) := ⟨g, hS.out.pr, hS.out.hx.done (fun c c1 c2 => by have := hdH.out; omega), hS.out.hr, hS.out.ob⟩
      clear hS
      go_wp2_with fail
      first | go_end0 | (simp only [Exit.inBlock, Exit.then]; refine bodyPost_ret (results_none rfl _ _ _) rfl ?_) | refine bodyPost_ret (results_none rfl _ _ _) rfl ?_
      exact ⟨rfl, fin.out⟩
end Go.Proofs.YtepakgfdakeibaaGreatDoor.So.Wr

namespace Go.Proofs.YtepakgfdakeibaaGreatDoor.So.Wr
open Go.RowKit
set_option linter.unusedVariables false
set_option linter.unusedSimpArgs false
theorem wrs_info : (Tryz.prog.info? 22).map (fun i => (i.zero, i.bytes, i.size)) = some (some (.slice none 0 0), 24, 1) := by kernel_rfl
def plV (b0 cp n : Nat) (h : Nat → Pc) (m : Nat) : List Value := (List.range m).map fun i => pV b0 cp n (h i)
theorem plV_more (b0 cp n : Nat) (h : Nat → Pc) (m : Nat) (p : Pc) : plV b0 cp n (updP h m p) (m + 1) = plV b0 cp n h m ++ [pV b0 cp n p] := by
  unfold plV
  rw [List.range_succ, List.map_append]
  congr 1
  · apply List.map_congr_left
    intro i hi
    unfold updP
    rw [if_neg (by have := List.mem_range.1 hi; omega)]
  · simp [updP]
/-- what stands while the row is cut. -/
structure CT1 (w : World) (b0 cp n : Nat) (ah : Nat → Nat → Bool) (x m : Nat) (v : Value) (h : Nat → Pc) (wr : World) : Prop where
  ct : Cts ah n m x h
  few : m ≤ x
  row : OH wr 22 w.heap.size v (plV b0 cp n h m)
  bl : Below w.heap.size w wr
theorem CT1.below {w : World} {b0 cp n x m : Nat} {ah : Nat → Nat → Bool} {v : Value} {h : Nat → Pc} {wr wx : World} (s : CT1 w b0 cp n ah x m v h wr) (hB : Below wr.heap.size wr wx) : CT1 w b0 cp n ah x m v h wx := ⟨s.ct, s.few, s.row.below hB (Nat.le_refl _), s.bl.trans (hB.mono s.bl.size)⟩
set_option maxRecDepth 100000 in
set_option maxHeartbeats 8000000 in
theorem pieces_any (w : World) (b0 cp n : Nat) (X : Nat → WrA) (ah : Nat → Nat → Bool) (hA : AhA w 22 n X ah) (hw : RW w b0 cp n X) (hn : n ≤ 1099511627770) (hcp : n ≤ cp) :
    Calls Tryz.prog 43 #[.slice (some ⟨b0, 0, none⟩) n cp, .func (.func 22) #[] #[]] w fun e w' => ∃ a m c h, e = .returned (.slice a m c) ∧ CT1 w b0 cp n ah n m (.slice a m c) h w' := by
  have hAH : Hid (∀ (a b : Nat) (W : World), a < n → b < n → Below w.heap.size w W → Calls Tryz.prog 22 #[wV (X a).1 (X a).2.1 (X a).2.2, wV (X b).1 (X b).2.1 (X b).2.2] W fun e w' => e = .returned (.bool (ah a b)) ∧ Below W.heap.size W w') := fun a b W h1 h2 h3 => hA a b W h1 h2 h3
  have hwH : Hid (RW w b0 cp n X) := hw
  clear hA hw
  go_enter Tryz.func43, Tryz.ntmps43
  go_wp2_with fail
  go_loopw [0, 5] (fun vr vc wr => ∃ (x m lr cr c3 : Nat) (ar a3 : Option Addr) (h : Nat → Pc), vr = .slice ar lr cr ∧ vc = .slice a3 m c3 ∧ x ≤ n ∧ Hid (lr = n - x ∧ (x < n → ar = some ⟨b0, x * 6, none⟩ ∧ cr = cp - x)) ∧ Hid (CT1 w b0 cp n ah x m (.slice a3 m c3) h wr)) (fun vr _ _ => slLen vr)
  case atStart => exact ⟨0, 0, n, cp, 0, some ⟨b0, 0, none⟩, none, fun _ => (0, 0), rfl, rfl, Nat.zero_le _, ⟨by omega, fun _ => ⟨rfl, by omega⟩⟩, ⟨Cts.zero _ _, Nat.le_refl _, OH.nil _ _ _, Below.refl _ _⟩⟩
  case round =>
    obtain ⟨x, m, lr, cr, c3, ar, a3, h, rfl, rfl, hxn, hlr, hC⟩ := hrel
    by_cases hx : 0 < lr
    · have hxI : (lr : Int) > 0 := by omega
      have hxJ : (0 : Int) < (lr : Int) := by omega
      obtain ⟨e1, e2⟩ := hlr.out
      obtain ⟨e3, e4⟩ := e2 (by omega)
      subst e3
      have hl : Hid (lr = n - x) := e1
      have hcH : Hid (cr = cp - x) := e4
      have hxl : x + lr = n := by omega
      have hlH : Hid (x + lr = n) := hxl
      have hcrn : lr ≤ n := by omega
      have hlc : lr ≤ cr := by omega
      clear e1 e2 e4 hlr hxl
      go_wp2_with fail
      go_loopw [6] (fun vk wx => ∃ k : Nat, vk = .int .i64 (k : Int) ∧ 1 ≤ k ∧ k ≤ lr ∧ Hid (Run ah (x, x + k)) ∧ Hid (CT1 w b0 cp n ah x m (.slice a3 m c3) h wx)) (fun vk _ => lr - (intOf vk).toNat)
      case atStart => exact ⟨1, rfl, Nat.le_refl _, hx, Run.one ah x, hC⟩
      case round =>
        clear hC
        obtain ⟨k, rfl, hk1, hkl, hrun, hC⟩ := hrel
        have kw : IntKind.i64.wrap ((k : Int) + 1) = ((k + 1 : Nat) : Int) := IntWalk.i64_in _ (by omega)
        have kv : IntKind.i64.wrap ((k : Int) - 1) = (k : Int) - 1 := IntWalk.i64_in _ (by omega)
        have k0 : (0 : Int) ≤ (k : Int) := by omega
        have k2 : (0 : Int) ≤ (k : Int) - 1 := by omega
        have k4 : (1 : Int) ≤ (k : Int) := by omega
        by_cases hk : k < lr
        · have hkI : (k : Int) < (lr : Int) := by omega
          have hkd : decide ((k : Int) < (lr : Int)) = true := decide_eq_true hkI
          have k3 : (k : Int) - 1 < (lr : Int) := by omega
          have kne : ¬ k = lr := by omega
          have ax := (hwH.out.2 (x + (k - 1)) (by have := hlH.out; omega)).below hC.out.bl hwH.out.1
          have ay := (hwH.out.2 (x + k) (by have := hlH.out; omega)).below hC.out.bl hwH.out.1
          rw [Nat.add_mul] at ax ay
          have bl : b0 < wr.heap.size := Nat.lt_of_lt_of_le hwH.out.1 hC.out.bl.size
          have CH : Hid (∀ W, Below w.heap.size w W → Calls Tryz.prog 22 #[wV (X (x + (k - 1))).1 (X (x + (k - 1))).2.1 (X (x + (k - 1))).2.2, wV (X (x + k)).1 (X (x + k)).2.1 (X (x + k)).2.2] W fun e w' => e = .returned (.bool (ah (x + k - 1) (x + k))) ∧ Below W.heap.size W w') := fun W hW => by
            have := hAH.out (x + k - 1) (x + k) W (by have := hlH.out; omega) (by have := hlH.out; omega) hW
            rw [show x + k - 1 = x + (k - 1) by omega] at this ⊢
            exact this
          obtain ⟨bv, hbv⟩ : ∃ bv, ah (x + k - 1) (x + k) = bv := ⟨_, rfl⟩
          rw [hbv] at CH
          have hbH : Hid (ah (x + k - 1) (x + k) = bv) := hbv
          clear hbv
          unfold WAt at ax ay
          unfold wV at CH
          generalize X (x + (k - 1)) = Xx at ax CH
          generalize X (x + k) = Yy at ay CH
          obtain ⟨XX, tx, cx⟩ := Xx
          obtain ⟨YY, ty, cy⟩ := Yy
          simp only at ax ay CH
          generalize XX.s.t.length = nx at ax CH
          generalize YY.s.t.length = ny at ay CH
          obtain ⟨ca1, ca2, ca3, ca4, ca5, ca6⟩ := ax
          obtain ⟨b1, b2, b3, b4, b5, b6⟩ := ay
          cases bv with
          | true =>
            go_wp2_with fail
            refine wp_region_noPanic ?_
            refine wp_region_held_drew (S := fun W => (W.cell? ⟨b0, x * 6 + (k - 1) * 6, none⟩ = some (.string XX.s.m) ∧ W.cell? ⟨b0, x * 6 + (k - 1) * 6 + 1, none⟩ = some (.slice tx nx cx) ∧ W.cell? ⟨b0, x * 6 + (k - 1) * 6 + 2, none⟩ = some (.string XX.s.f) ∧ W.cell? ⟨b0, x * 6 + (k - 1) * 6 + 3, none⟩ = some (.int .i64 XX.tm) ∧ W.cell? ⟨b0, x * 6 + (k - 1) * 6 + 4, none⟩ = some (.int .u8 (XX.kd : Int)) ∧ W.cell? ⟨b0, x * 6 + (k - 1) * 6 + 5, none⟩ = some (.int .i64 XX.n)) ∧ W.cell? ⟨b0, x * 6 + k * 6, none⟩ = some (.string YY.s.m) ∧ W.cell? ⟨b0, x * 6 + k * 6 + 1, none⟩ = some (.slice ty ny cy) ∧ W.cell? ⟨b0, x * 6 + k * 6 + 2, none⟩ = some (.string YY.s.f) ∧ W.cell? ⟨b0, x * 6 + k * 6 + 3, none⟩ = some (.int .i64 YY.tm) ∧ W.cell? ⟨b0, x * 6 + k * 6 + 4, none⟩ = some (.int .u8 (YY.kd : Int)) ∧ W.cell? ⟨b0, x * 6 + k * 6 + 5, none⟩ = some (.int .i64 YY.n)) (by kernel_rfl) ⟨⟨ca1, ca2, ca3, ca4, ca5, ca6⟩, b1, b2, b3, b4, b5, b6⟩ (fun hHeld => ?_)
            refine zT 0 (v := ?_) rfl ?_ ?_
            rotate_left 1
            · (intro w0 hSw; (try dsimp only at hSw); obtain ⟨⟨s1, s2, s3, s4, s5, s6⟩, t1, t2, t3, t4, t5, t6⟩ := hSw; go_simp; try with_reducible rfl)
            (try simp only [z1, z2, z3]); (try simp only [Act.put, z4, z5, z6])
            refine zT 1 (v := ?_) rfl ?_ ?_
            rotate_left 1
            · (intro w0 hSw; (try dsimp only at hSw); obtain ⟨⟨s1, s2, s3, s4, s5, s6⟩, t1, t2, t3, t4, t5, t6⟩ := hSw; go_simp; try with_reducible rfl)
            (try simp only [z1, z2, z3]); (try simp only [Act.put, z4, z5, z6])
            refine zT 2 (v := ?_) rfl ?_ ?_
            rotate_left 1
            · (intro w0 hSw; (try dsimp only at hSw); obtain ⟨⟨s1, s2, s3, s4, s5, s6⟩, t1, t2, t3, t4, t5, t6⟩ := hSw; go_simp; try with_reducible rfl)
            (try simp only [z1, z2, z3]); (try simp only [Act.put, z4, z5, z6])
            refine zT 3 (v := ?_) rfl ?_ ?_
            rotate_left 1
            · (intro w0 hSw; (try dsimp only at hSw); obtain ⟨⟨s1, s2, s3, s4, s5, s6⟩, t1, t2, t3, t4, t5, t6⟩ := hSw; go_simp; try with_reducible rfl)
            (try simp only [z1, z2, z3]); (try simp only [Act.put, z4, z5, z6])
            refine zT 4 (v := ?_) rfl ?_ ?_
            rotate_left 1
            · (intro w0 hSw; (try dsimp only at hSw); obtain ⟨⟨s1, s2, s3, s4, s5, s6⟩, t1, t2, t3, t4, t5, t6⟩ := hSw; go_simp; try with_reducible rfl)
            (try simp only [z1, z2, z3]); (try simp only [Act.put, z4, z5, z6])
            refine zT 5 (v := ?_) rfl ?_ ?_
            rotate_left 1
            · (intro w0 hSw; (try dsimp only at hSw); obtain ⟨⟨s1, s2, s3, s4, s5, s6⟩, t1, t2, t3, t4, t5, t6⟩ := hSw; go_simp; try with_reducible rfl)
            (try simp only [z1, z2, z3]); (try simp only [Act.put, z4, z5, z6])
            refine zT 6 (v := ?_) rfl ?_ ?_
            rotate_left 1
            · (intro w0 hSw; (try dsimp only at hSw); obtain ⟨⟨s1, s2, s3, s4, s5, s6⟩, t1, t2, t3, t4, t5, t6⟩ := hSw; go_simp; try with_reducible rfl)
            (try simp only [z1, z2, z3]); (try simp only [Act.put, z4, z5, z6])
            refine zT 7 (v := ?_) rfl ?_ ?_
            rotate_left 1
            · (intro w0 hSw; (try dsimp only at hSw); obtain ⟨⟨s1, s2, s3, s4, s5, s6⟩, t1, t2, t3, t4, t5, t6⟩ := hSw; go_simp; try with_reducible rfl)
            (try simp only [z1, z2, z3]); (try simp only [Act.put, z4, z5, z6])
            refine zT 8 (v := ?_) rfl ?_ ?_
            rotate_left 1
            · (intro w0 hSw; (try dsimp only at hSw); obtain ⟨⟨s1, s2, s3, s4, s5, s6⟩, t1, t2, t3, t4, t5, t6⟩ := hSw; go_simp; try with_reducible rfl)
            (try simp only [z1, z2, z3]); (try simp only [Act.put, z4, z5, z6])
            refine zT 9 (v := ?_) rfl ?_ ?_
            rotate_left 1
            · (intro w0 hSw; (try dsimp only at hSw); obtain ⟨⟨s1, s2, s3, s4, s5, s6⟩, t1, t2, t3, t4, t5, t6⟩ := hSw; go_simp; try with_reducible rfl)
            (try simp only [z1, z2, z3]); (try simp only [Act.put, z4, z5, z6])
            refine zT 10 (v := ?_) rfl ?_ ?_
            rotate_left 1
            · (intro w0 hSw; (try dsimp only at hSw); obtain ⟨⟨s1, s2, s3, s4, s5, s6⟩, t1, t2, t3, t4, t5, t6⟩ := hSw; go_simp; try with_reducible rfl)
            (try simp only [z1, z2, z3]); (try simp only [Act.put, z4, z5, z6])
            refine zT 11 (v := ?_) rfl ?_ ?_
            rotate_left 1
            · (intro w0 hSw; (try dsimp only at hSw); obtain ⟨⟨s1, s2, s3, s4, s5, s6⟩, t1, t2, t3, t4, t5, t6⟩ := hSw; go_simp; try with_reducible rfl)
            (try simp only [z1, z2, z3]); (try simp only [Act.put, z4, z5, z6])
            refine zT 12 (v := ?_) rfl ?_ ?_
            rotate_left 1
            · (intro w0 hSw; (try dsimp only at hSw); obtain ⟨⟨s1, s2, s3, s4, s5, s6⟩, t1, t2, t3, t4, t5, t6⟩ := hSw; go_simp; try with_reducible rfl)
            (try simp only [z1, z2, z3]); (try simp only [Act.put, z4, z5, z6])
            refine zT 13 (v := ?_) rfl ?_ ?_
            rotate_left 1
            · (intro w0 hSw; (try dsimp only at hSw); obtain ⟨⟨s1, s2, s3, s4, s5, s6⟩, t1, t2, t3, t4, t5, t6⟩ := hSw; go_simp; try with_reducible rfl)
            (try simp only [z1, z2, z3]); (try simp only [Act.put, z4, z5, z6])
            refine zT 14 (v := ?_) rfl ?_ ?_
            rotate_left 1
            · (intro w0 hSw; (try dsimp only at hSw); obtain ⟨⟨s1, s2, s3, s4, s5, s6⟩, t1, t2, t3, t4, t5, t6⟩ := hSw; go_simp; try with_reducible rfl)
            (try simp only [z1, z2, z3]); (try simp only [Act.put, z4, z5, z6])
            refine wpAnyH_ready (rs := [15]) (by kernel_rfl) (by simp) ?_
            refine AllReadyH.cons (o := _) rfl (fun K hK => ?_) AllReadyH.nil
            go_simp
            refine Calls.mono (CH.out _ (show Below w.heap.size w wr.drew from hC.out.bl.drew)) ?_
            rintro e w' ⟨rfl, BB⟩
            try dsimp only
            refine hK _ _ ?_ (fun hHeld => ?_)
            · exact ⟨⟨by rw [BB.cell (p := ⟨b0, x * 6 + (k - 1) * 6, none⟩) bl]; exact ca1, by rw [BB.cell (p := ⟨b0, x * 6 + (k - 1) * 6 + 1, none⟩) bl]; exact ca2, by rw [BB.cell (p := ⟨b0, x * 6 + (k - 1) * 6 + 2, none⟩) bl]; exact ca3, by rw [BB.cell (p := ⟨b0, x * 6 + (k - 1) * 6 + 3, none⟩) bl]; exact ca4, by rw [BB.cell (p := ⟨b0, x * 6 + (k - 1) * 6 + 4, none⟩) bl]; exact ca5, by rw [BB.cell (p := ⟨b0, x * 6 + (k - 1) * 6 + 5, none⟩) bl]; exact ca6⟩, by rw [BB.cell (p := ⟨b0, x * 6 + k * 6, none⟩) bl]; exact b1, by rw [BB.cell (p := ⟨b0, x * 6 + k * 6 + 1, none⟩) bl]; exact b2, by rw [BB.cell (p := ⟨b0, x * 6 + k * 6 + 2, none⟩) bl]; exact b3, by rw [BB.cell (p := ⟨b0, x * 6 + k * 6 + 3, none⟩) bl]; exact b4, by rw [BB.cell (p := ⟨b0, x * 6 + k * 6 + 4, none⟩) bl]; exact b5, by rw [BB.cell (p := ⟨b0, x * 6 + k * 6 + 5, none⟩) bl]; exact b6⟩
            clear hK K
            (try simp only [z1, z2, z3]); (try simp only [Act.put, z4, z5, z6])
            refine zT 16 (v := ?_) rfl ?_ ?_
            rotate_left 1
            · (intro w0 hSw; (try dsimp only at hSw); obtain ⟨⟨s1, s2, s3, s4, s5, s6⟩, t1, t2, t3, t4, t5, t6⟩ := hSw; go_simp; try with_reducible rfl)
            (try simp only [z1, z2, z3]); (try simp only [Act.put, z4, z5, z6])
            refine wpAnyH_done (by kernel_rfl) ?_ _
            refine NoPanic.normal ?_
            have hC2 : Hid (CT1 w b0 cp n ah x m (.slice a3 m c3) h w') := hC.out.below ((show Below wr.heap.size wr wr.drew from (Below.refl _ wr).drew).trans BB)
            have nx : Hid (Run ah (x, x + (k + 1))) := hrun.out.more hk1 hbH.out
            clear ca1 ca2 ca3 ca4 ca5 ca6 b1 b2 b3 b4 b5 b6 BB CH hbH hC bl hHeld hrun
            go_wp2_with fail
            exact ⟨⟨k + 1, by first | rfl | simp, by omega, by omega, nx, hC2⟩, by simp [intOf]; omega⟩
          | false =>
            go_wp2_with fail
            refine wp_region_noPanic ?_
            refine wp_region_held_drew (S := fun W => (W.cell? ⟨b0, x * 6 + (k - 1) * 6, none⟩ = some (.string XX.s.m) ∧ W.cell? ⟨b0, x * 6 + (k - 1) * 6 + 1, none⟩ = some (.slice tx nx cx) ∧ W.cell? ⟨b0, x * 6 + (k - 1) * 6 + 2, none⟩ = some (.string XX.s.f) ∧ W.cell? ⟨b0, x * 6 + (k - 1) * 6 + 3, none⟩ = some (.int .i64 XX.tm) ∧ W.cell? ⟨b0, x * 6 + (k - 1) * 6 + 4, none⟩ = some (.int .u8 (XX.kd : Int)) ∧ W.cell? ⟨b0, x * 6 + (k - 1) * 6 + 5, none⟩ = some (.int .i64 XX.n)) ∧ W.cell? ⟨b0, x * 6 + k * 6, none⟩ = some (.string YY.s.m) ∧ W.cell? ⟨b0, x * 6 + k * 6 + 1, none⟩ = some (.slice ty ny cy) ∧ W.cell? ⟨b0, x * 6 + k * 6 + 2, none⟩ = some (.string YY.s.f) ∧ W.cell? ⟨b0, x * 6 + k * 6 + 3, none⟩ = some (.int .i64 YY.tm) ∧ W.cell? ⟨b0, x * 6 + k * 6 + 4, none⟩ = some (.int .u8 (YY.kd : Int)) ∧ W.cell? ⟨b0, x * 6 + k * 6 + 5, none⟩ = some (.int .i64 YY.n)) (by kernel_rfl) ⟨⟨ca1, ca2, ca3, ca4, ca5, ca6⟩, b1, b2, b3, b4, b5, b6⟩ (fun hHeld => ?_)
            refine zT 0 (v := ?_) rfl ?_ ?_
            rotate_left 1
            · (intro w0 hSw; (try dsimp only at hSw); obtain ⟨⟨s1, s2, s3, s4, s5, s6⟩, t1, t2, t3, t4, t5, t6⟩ := hSw; go_simp; try with_reducible rfl)
            (try simp only [z1, z2, z3]); (try simp only [Act.put, z4, z5, z6])
            refine zT 1 (v := ?_) rfl ?_ ?_
            rotate_left 1
            · (intro w0 hSw; (try dsimp only at hSw); obtain ⟨⟨s1, s2, s3, s4, s5, s6⟩, t1, t2, t3, t4, t5, t6⟩ := hSw; go_simp; try with_reducible rfl)
            (try simp only [z1, z2, z3]); (try simp only [Act.put, z4, z5, z6])
            refine zT 2 (v := ?_) rfl ?_ ?_
            rotate_left 1
            · (intro w0 hSw; (try dsimp only at hSw); obtain ⟨⟨s1, s2, s3, s4, s5, s6⟩, t1, t2, t3, t4, t5, t6⟩ := hSw; go_simp; try with_reducible rfl)
            (try simp only [z1, z2, z3]); (try simp only [Act.put, z4, z5, z6])
            refine zT 3 (v := ?_) rfl ?_ ?_
            rotate_left 1
            · (intro w0 hSw; (try dsimp only at hSw); obtain ⟨⟨s1, s2, s3, s4, s5, s6⟩, t1, t2, t3, t4, t5, t6⟩ := hSw; go_simp; try with_reducible rfl)
            (try simp only [z1, z2, z3]); (try simp only [Act.put, z4, z5, z6])
            refine zT 4 (v := ?_) rfl ?_ ?_
            rotate_left 1
            · (intro w0 hSw; (try dsimp only at hSw); obtain ⟨⟨s1, s2, s3, s4, s5, s6⟩, t1, t2, t3, t4, t5, t6⟩ := hSw; go_simp; try with_reducible rfl)
            (try simp only [z1, z2, z3]); (try simp only [Act.put, z4, z5, z6])
            refine zT 5 (v := ?_) rfl ?_ ?_
            rotate_left 1
            · (intro w0 hSw; (try dsimp only at hSw); obtain ⟨⟨s1, s2, s3, s4, s5, s6⟩, t1, t2, t3, t4, t5, t6⟩ := hSw; go_simp; try with_reducible rfl)
            (try simp only [z1, z2, z3]); (try simp only [Act.put, z4, z5, z6])
            refine zT 6 (v := ?_) rfl ?_ ?_
            rotate_left 1
            · (intro w0 hSw; (try dsimp only at hSw); obtain ⟨⟨s1, s2, s3, s4, s5, s6⟩, t1, t2, t3, t4, t5, t6⟩ := hSw; go_simp; try with_reducible rfl)
            (try simp only [z1, z2, z3]); (try simp only [Act.put, z4, z5, z6])
            refine zT 7 (v := ?_) rfl ?_ ?_
            rotate_left 1
            · (intro w0 hSw; (try dsimp only at hSw); obtain ⟨⟨s1, s2, s3, s4, s5, s6⟩, t1, t2, t3, t4, t5, t6⟩ := hSw; go_simp; try with_reducible rfl)
            (try simp only [z1, z2, z3]); (try simp only [Act.put, z4, z5, z6])
            refine zT 8 (v := ?_) rfl ?_ ?_
            rotate_left 1
            · (intro w0 hSw; (try dsimp only at hSw); obtain ⟨⟨s1, s2, s3, s4, s5, s6⟩, t1, t2, t3, t4, t5, t6⟩ := hSw; go_simp; try with_reducible rfl)
            (try simp only [z1, z2, z3]); (try simp only [Act.put, z4, z5, z6])
            refine zT 9 (v := ?_) rfl ?_ ?_
            rotate_left 1
            · (intro w0 hSw; (try dsimp only at hSw); obtain ⟨⟨s1, s2, s3, s4, s5, s6⟩, t1, t2, t3, t4, t5, t6⟩ := hSw; go_simp; try with_reducible rfl)
            (try simp only [z1, z2, z3]); (try simp only [Act.put, z4, z5, z6])
            refine zT 10 (v := ?_) rfl ?_ ?_
            rotate_left 1
            · (intro w0 hSw; (try dsimp only at hSw); obtain ⟨⟨s1, s2, s3, s4, s5, s6⟩, t1, t2, t3, t4, t5, t6⟩ := hSw; go_simp; try with_reducible rfl)
            (try simp only [z1, z2, z3]); (try simp only [Act.put, z4, z5, z6])
            refine zT 11 (v := ?_) rfl ?_ ?_
            rotate_left 1
            · (intro w0 hSw; (try dsimp only at hSw); obtain ⟨⟨s1, s2, s3, s4, s5, s6⟩, t1, t2, t3, t4, t5, t6⟩ := hSw; go_simp; try with_reducible rfl)
            (try simp only [z1, z2, z3]); (try simp only [Act.put, z4, z5, z6])
            refine zT 12 (v := ?_) rfl ?_ ?_
            rotate_left 1
            · (intro w0 hSw; (try dsimp only at hSw); obtain ⟨⟨s1, s2, s3, s4, s5, s6⟩, t1, t2, t3, t4, t5, t6⟩ := hSw; go_simp; try with_reducible rfl)
            (try simp only [z1, z2, z3]); (try simp only [Act.put, z4, z5, z6])
            refine zT 13 (v := ?_) rfl ?_ ?_
            rotate_left 1
            · (intro w0 hSw; (try dsimp only at hSw); obtain ⟨⟨s1, s2, s3, s4, s5, s6⟩, t1, t2, t3, t4, t5, t6⟩ := hSw; go_simp; try with_reducible rfl)
            (try simp only [z1, z2, z3]); (try simp only [Act.put, z4, z5, z6])
            refine zT 14 (v := ?_) rfl ?_ ?_
            rotate_left 1
            · (intro w0 hSw; (try dsimp only at hSw); obtain ⟨⟨s1, s2, s3, s4, s5, s6⟩, t1, t2, t3, t4, t5, t6⟩ := hSw; go_simp; try with_reducible rfl)
            (try simp only [z1, z2, z3]); (try simp only [Act.put, z4, z5, z6])
            refine wpAnyH_ready (rs := [15]) (by kernel_rfl) (by simp) ?_
            refine AllReadyH.cons (o := _) rfl (fun K hK => ?_) AllReadyH.nil
            go_simp
            refine Calls.mono (CH.out _ (show Below w.heap.size w wr.drew from hC.out.bl.drew)) ?_
            rintro e w' ⟨rfl, BB⟩
            try dsimp only
            refine hK _ _ ?_ (fun hHeld => ?_)
            · exact ⟨⟨by rw [BB.cell (p := ⟨b0, x * 6 + (k - 1) * 6, none⟩) bl]; exact ca1, by rw [BB.cell (p := ⟨b0, x * 6 + (k - 1) * 6 + 1, none⟩) bl]; exact ca2, by rw [BB.cell (p := ⟨b0, x * 6 + (k - 1) * 6 + 2, none⟩) bl]; exact ca3, by rw [BB.cell (p := ⟨b0, x * 6 + (k - 1) * 6 + 3, none⟩) bl]; exact ca4, by rw [BB.cell (p := ⟨b0, x * 6 + (k - 1) * 6 + 4, none⟩) bl]; exact ca5, by rw [BB.cell (p := ⟨b0, x * 6 + (k - 1) * 6 + 5, none⟩) bl]; exact ca6⟩, by rw [BB.cell (p := ⟨b0, x * 6 + k * 6, none⟩) bl]; exact b1, by rw [BB.cell (p := ⟨b0, x * 6 + k * 6 + 1, none⟩) bl]; exact b2, by rw [BB.cell (p := ⟨b0, x * 6 + k * 6 + 2, none⟩) bl]; exact b3, by rw [BB.cell (p := ⟨b0, x * 6 + k * 6 + 3, none⟩) bl]; exact b4, by rw [BB.cell (p := ⟨b0, x * 6 + k * 6 + 4, none⟩) bl]; exact b5, by rw [BB.cell (p := ⟨b0, x * 6 + k * 6 + 5, none⟩) bl]; exact b6⟩
            clear hK K
            (try simp only [z1, z2, z3]); (try simp only [Act.put, z4, z5, z6])
            refine zT 16 (v := ?_) rfl ?_ ?_
            rotate_left 1
            · (intro w0 hSw; (try dsimp only at hSw); obtain ⟨⟨s1, s2, s3, s4, s5, s6⟩, t1, t2, t3, t4, t5, t6⟩ := hSw; go_simp; try with_reducible rfl)
            (try simp only [z1, z2, z3]); (try simp only [Act.put, z4, z5, z6])
            refine wpAnyH_done (by kernel_rfl) ?_ _
            refine NoPanic.normal ?_
            have hC2 : Hid (CT1 w b0 cp n ah x m (.slice a3 m c3) h w') := hC.out.below ((show Below wr.heap.size wr wr.drew from (Below.refl _ wr).drew).trans BB)
            clear ca1 ca2 ca3 ca4 ca5 ca6 b1 b2 b3 b4 b5 b6 BB CH hbH hC bl hHeld
            have hlen : (plV b0 cp n h m).length = m := by simp [plV]
            obtain ⟨g, c, w1, hr1, ho1, hb1⟩ := app1H 83 22 (.slice none 0 0) 24 Tryz.underlying83 wrs_info rfl (by omega) (by omega) w' w.heap.size (.slice a3 m c3) (plV b0 cp n h m) hC2.out.row hC2.out.bl.size (.slice (some ⟨b0, x * 6, none⟩) k cr) rfl (by rw [hlen]; have := hC2.out.few; omega)
            rw [hlen] at hr1 ho1
            have hpv : pV b0 cp n (x, x + k) = .slice (some ⟨b0, x * 6, none⟩) k cr := by
              unfold pV
              simp only
              rw [show x + k - x = k by omega, show cp - x = cr from hcH.out.symm]
            rw [← hpv, ← plV_more] at ho1
            have hC3 : Hid (CT1 w b0 cp n ah (x + k) (m + 1) (.slice (some ⟨g, 0, none⟩) (m + 1) c) (updP h m (x, x + k)) w1) := ⟨hC2.out.ct.more (fun i hi => by unfold updP; rw [if_neg (by omega)]) (by unfold updP; rw [if_pos rfl]) hrun.out (by have := hlH.out; omega), by have := hC2.out.few; omega, ho1, hC2.out.bl.trans hb1⟩
            have hrH : Hid (∀ W, W = w'.alloc (.cells #[.slice (some ⟨b0, x * 6, none⟩) k cr] 22) → (Builtin.append_ #[83, 83] 83 #[.slice a3 m c3, .slice (some ⟨w'.heap.size, 0, none⟩) 1 1]).run Tryz.prog W = .ok (.slice (some ⟨g, 0, none⟩) (m + 1) c) w1) := fun W e => by subst e; exact hr1
            have hkc : (k : Int) ≤ (lr : Int) := by omega
            have hkc2 : (k : Int) ≤ (cr : Int) := by omega
            clear hr1 ho1 hb1 hlen hpv hrun hC2
            go_wp2_with (at_builtin; refine wpList_append_runB (by rfl) _ _ _ (by rfl) _ _ _ _ (by rfl) (by rfl) (hrH.out _ rfl) ?_)
            exact ⟨⟨x + k, m + 1, _, _, c, _, _, updP h m (x, x + k), rfl, rfl, by have := hlH.out; omega, ⟨by have := hlH.out; omega, fun _ => ⟨by first | rfl | rw [Nat.add_mul] | simp [Nat.add_mul], by have := hlH.out; have := hcH.out; omega⟩⟩, hC3⟩, by simp [slLen]; omega⟩
        · have hkI : ¬ (k : Int) < (lr : Int) := by omega
          have hkd : decide ((k : Int) < (lr : Int)) = false := decide_eq_false hkI
          obtain rfl : k = lr := by omega
          go_wp2_with fail
          go_quiet (fail)
          generalize hwq : World.drewN wr _ = w'
          have hC2 : Hid (CT1 w b0 cp n ah x m (.slice a3 m c3) h w') := hC.out.below (hwq ▸ bdrewB (Below.refl _ wr) _)
          clear hC hwq
          have hlen : (plV b0 cp n h m).length = m := by simp [plV]
          obtain ⟨g, c, w1, hr1, ho1, hb1⟩ := app1H 83 22 (.slice none 0 0) 24 Tryz.underlying83 wrs_info rfl (by omega) (by omega) w' w.heap.size (.slice a3 m c3) (plV b0 cp n h m) hC2.out.row hC2.out.bl.size (.slice (some ⟨b0, x * 6, none⟩) k cr) rfl (by rw [hlen]; have := hC2.out.few; omega)
          rw [hlen] at hr1 ho1
          have hpv : pV b0 cp n (x, x + k) = .slice (some ⟨b0, x * 6, none⟩) k cr := by
            unfold pV
            simp only
            rw [show x + k - x = k by omega, show cp - x = cr from hcH.out.symm]
          rw [← hpv, ← plV_more] at ho1
          have hC3 : Hid (CT1 w b0 cp n ah (x + k) (m + 1) (.slice (some ⟨g, 0, none⟩) (m + 1) c) (updP h m (x, x + k)) w1) := ⟨hC2.out.ct.more (fun i hi => by unfold updP; rw [if_neg (by omega)]) (by unfold updP; rw [if_pos rfl]) hrun.out (by have := hlH.out; omega), by have := hC2.out.few; omega, ho1, hC2.out.bl.trans hb1⟩
          have hrH : Hid (∀ W, W = w'.alloc (.cells #[.slice (some ⟨b0, x * 6, none⟩) k cr] 22) → (Builtin.append_ #[83, 83] 83 #[.slice a3 m c3, .slice (some ⟨w'.heap.size, 0, none⟩) 1 1]).run Tryz.prog W = .ok (.slice (some ⟨g, 0, none⟩) (m + 1) c) w1) := fun W e => by subst e; exact hr1
          have hkc : (k : Int) ≤ (k : Int) := by omega
          have hkc2 : (k : Int) ≤ (cr : Int) := by omega
          clear hr1 ho1 hb1 hlen hpv hrun hC2
          go_wp2_with (at_builtin; refine wpList_append_runB (by rfl) _ _ _ (by rfl) _ _ _ _ (by rfl) (by rfl) (hrH.out _ rfl) ?_)
          exact ⟨⟨x + k, m + 1, _, _, c, _, _, updP h m (x, x + k), rfl, rfl, by have := hlH.out; omega, ⟨by have := hlH.out; omega, fun q => by have := hlH.out; omega⟩, hC3⟩, by simp [slLen]; omega⟩
    · have hxI : ¬ (lr : Int) > 0 := by omega
      have hxJ : ¬ (0 : Int) < (lr : Int) := by omega
      have fin : Hid (CT1 w b0 cp n ah n m (.slice a3 m c3) h wr) := by
        obtain ⟨e1, _⟩ := hlr.out
        have e : x = n := by omega
        have := hC.out
        rw [e] at this; exact this
      clear hC hlr
      go_wp2_with fail
      go_ret
      first | exact ⟨a3, m, ⟨c3, rfl⟩, h, fin.out⟩ | exact ⟨a3, m, c3, h, rfl, fin.out⟩ | exact ⟨a3, m, c3, rfl, h, fin.out⟩
end Go.Proofs.YtepakgfdakeibaaGreatDoor.So.Wr

namespace Go.Proofs.YtepakgfdakeibaaGreatDoor.So.Wr
open Go.RowKit
set_option linter.unusedVariables false
set_option linter.unusedSimpArgs false
def zW : Array Value := #[.string ⟨#[]⟩, .slice none 0 0, .string ⟨#[]⟩, .int .i64 0, .int .u8 0, .int .i64 0]
theorem make_zero (n : Nat) (h : n ≤ 1099511627776) (w : World) : (Instr.makeSlice 22 (.int .i64 0) (.int .i64 (n : Int))).run Tryz.prog w = .ok (.slice (some ⟨w.heap.size, 0, none⟩) 0 n) (w.alloc (.cells (madeCells zW (n * 6)) 52)) := by
  obtain ⟨i, i1, i0⟩ := Option.map_eq_some_iff.1 wr_info
  have i2 : i.zero = some (.agg #[.string ⟨#[]⟩, .slice none 0 0, .string ⟨#[]⟩, .int .i64 0, .int .u8 0, .int .i64 0]) := congrArg (·.1) i0
  have i3 : i.bytes = 80 := congrArg (·.2.1) i0
  have i4 : i.size = 6 := congrArg (·.2.2) i0
  have := run_make (P := Tryz.prog) w 22 52 i (.agg #[.string ⟨#[]⟩, .slice none 0 0, .string ⟨#[]⟩, .int .i64 0, .int .u8 0, .int .i64 0]) Tryz.underlying22 i1 i2 .i64 .i64 0 (n : Int) (by omega) (by omega) (by rw [i3]; omega) (by omega)
  rw [i4] at this
  simpa [Value.cells, zW] using this
/-- a row of samples of one's own, as cells alone. -/
def OR6 (w : World) (B : Nat) (v : Value) (L : List WrA) : Prop := w.ownsRow B 52 6 v L.length (encW L)
theorem OR6.below {w w' : World} {B : Nat} {v : Value} {L : List WrA} (h : OR6 w B v L) (hb : Below w.heap.size w w') : OR6 w' B v L := by
  refine ⟨h.1, ?_⟩
  rcases h.2 with h2 | ⟨g, cap, cur, e1, e2, e3, e4⟩
  · exact Or.inl h2
  · exact Or.inr ⟨g, cap, cur, e1, e2, by rw [hb.block g (Array.getElem?_eq_some_iff.1 e3).1]; exact e3, e4⟩
theorem OR6.ob {w w' : World} {B hb : Nat} {v : Value} {L : List WrA} (h : OR6 w B v L) (hO : OB hb w w') (hB : hb < B) : OR6 w' B v L := by
  refine ⟨h.1, ?_⟩
  rcases h.2 with h2 | ⟨g, cap, cur, e1, e2, e3, e4⟩
  · exact Or.inl h2
  · exact Or.inr ⟨g, cap, cur, e1, e2, by rw [hO.keep g (Array.getElem?_eq_some_iff.1 e3).1 (by omega)]; exact e3, e4⟩
theorem OR6.made (w : World) (n : Nat) (hn : n ≤ 1099511627776) : OR6 (w.alloc (.cells (madeCells zW (n * 6)) 52)) w.heap.size (.slice (some ⟨w.heap.size, 0, none⟩) 0 n) [] := by
  have := World.ownsRow_made (e := 52) (size := 6) (base := w.heap.size) w (madeCells zW (n * 6)) n (Nat.le_refl _) (by simp [maxLen]; omega) (by simp [madeCells, zW])
  exact this
/-- one more. -/
theorem app1R (W : World) (B : Nat) (v : Value) (L : List WrA) (h : OR6 W B v L) (hB : B ≤ W.heap.size) (t : WrA) (hn : L.length + 1 ≤ 1099511627776) :
    ∃ g c w', (Builtin.append_ #[22, 22] 22 #[v, .slice (some ⟨W.heap.size, 0, none⟩) 1 1]).run Tryz.prog (W.alloc (.cells #[.string t.1.s.m, .slice t.2.1 t.1.s.t.length t.2.2, .string t.1.s.f, .int .i64 t.1.tm, .int .u8 (t.1.kd : Int), .int .i64 t.1.n] 52)) = .ok (.slice (some ⟨g, 0, none⟩) (L.length + 1) c) w' ∧ OR6 w' B (.slice (some ⟨g, 0, none⟩) (L.length + 1) c) (L ++ [t]) ∧ Below B W w' := by
  have b1 : Below W.heap.size W (W.alloc (.cells #[.string t.1.s.m, .slice t.2.1 t.1.s.t.length t.2.2, .string t.1.s.f, .int .i64 t.1.tm, .int .u8 (t.1.kd : Int), .int .i64 t.1.n] 52)) := (Below.refl _ W).alloc (Nat.le_refl _) _
  have ho2 := h.below b1
  obtain ⟨i, i1, i0⟩ := Option.map_eq_some_iff.1 wr_info
  have i2 : i.zero = some (.agg #[.string ⟨#[]⟩, .slice none 0 0, .string ⟨#[]⟩, .int .i64 0, .int .u8 0, .int .i64 0]) := congrArg (·.1) i0
  have i3 : i.bytes = 80 := congrArg (·.2.1) i0
  have i4 : i.size = 6 := congrArg (·.2.2) i0
  have hml : maxLen = 9223372036854775807 := by decide
  have hB2 := Nat.le_trans hB b1.size
  obtain ⟨g, cap, w', hr, own, gr, hat, hlt⟩ := run_append_lies (P := Tryz.prog) _ 22 22 B 52 i (.agg #[.string ⟨#[]⟩, .slice none 0 0, .string ⟨#[]⟩, .int .i64 0, .int .u8 0, .int .i64 0]) 6 80 Tryz.underlying22 i1 i2 i4 i3 rfl (by omega) v L.length (encW L) ho2 ⟨W.heap.size, 0, none⟩ 1 1 (encW [t]) rfl (fun j u hj => by
    rcases j with _ | _ | _ | _ | _ | _ | j <;> simp [encW] at hj <;> (try (subst hj; simp [go_sem]))) (encW_one _) (by omega) (by omega) (by omega) hB2 _ rfl
  refine ⟨g, cap, w', hr, ?_, (b1.mono hB).trans ((Below.refl B _).grown gr hB2 (fun k e => (World.ownsRow.lt ho2 k e).1))⟩
  unfold OR6
  rw [List.length_append, List.length_singleton, encW_append]; exact own
theorem HR.belowC {w w' : World} {hb m b0 cp n C : Nat} {h : Nat → Pc} (r : HR w hb m b0 cp n h) (hB : Below C w w') (hC : hb < C) : HR w' hb m b0 cp n h := ⟨Nat.lt_of_lt_of_le r.1 hB.size, fun i hi => by
  rw [hB.cell (p := ⟨hb, i, none⟩) hC, hB.frozen (p := ⟨hb, i, none⟩) hC]; exact r.2 i hi⟩
/-- what stands while the first of all is taken off. -/
structure TK1 (w0 : World) (X : Nat → WrA) (b0 cp n hb Bo : Nat) (ah : Nat → Nat → Bool) (m : Nat) (g : Nat → Pc) (v : Value) (out : List Nat) (wr : World) : Prop where
  s : So1 ah n m g out
  hp : HP (hl ah) 0 m g
  hr : HR wr hb m b0 cp n g
  row : OR6 wr Bo v (out.map X)
  bl : Below w0.heap.size w0 wr
  sz : Bo ≤ wr.heap.size
/-- while the heap is made: from j on it stands. -/
structure BL1 (w0 : World) (b0 cp n hb m : Nat) (ah : Nat → Nat → Bool) (j : Nat) (g : Nat → Pc) (wr : World) : Prop where
  s : So1 ah n m g []
  hp : HP (hl ah) j m g
  hr : HR wr hb m b0 cp n g
  bl : Below w0.heap.size w0 wr
theorem OH.hr {w : World} {B hb m c b0 cp n : Nat} {h : Nat → Pc} (r : OH w 22 B (.slice (some ⟨hb, 0, none⟩) m c) (plV b0 cp n h m)) : HR w hb m b0 cp n h := by
  have hl : (plV b0 cp n h m).length = m := by simp [plV]
  unfold OH at r
  rw [hl] at r
  have hcs := World.ownsRow.cells r (g := hb) rfl
  refine ⟨(World.ownsRow.lt r hb rfl).2, fun i hi => ⟨?_, World.ownsRow.frozenAt r i⟩⟩
  have := hcs i (pV b0 cp n (h i)) (by simp [plV, hi])
  rw [addB, Nat.zero_add] at this
  exact this
/-- what sorted tells. -/
def SrtR (w w' : World) (X : Nat → WrA) (ah : Nat → Nat → Bool) (n : Nat) (e : Ending) : Prop := ∃ (out : List Nat) (g c : Nat), e = .returned (.slice (some ⟨g, 0, none⟩) out.length c) ∧ Sorted1 ah n out ∧ g < w'.heap.size ∧ (∀ (i p : Nat), out[i]? = some p → WAt w' g (i * 6) (X p).1 (X p).2.1 (X p).2.2) ∧ Below w.heap.size w w'
set_option maxRecDepth 100000 in
set_option maxHeartbeats 8000000 in
theorem sorted_any (w : World) (b0 cp n : Nat) (X : Nat → WrA) (ah : Nat → Nat → Bool) (o : AO ah n) (hA : AhA w 22 n X ah) (hw : RW w b0 cp n X) (hn : n ≤ 1099511627770) (hcp : n ≤ cp) :
    Calls Tryz.prog 21 #[.slice (some ⟨b0, 0, none⟩) n cp, .func (.func 22) #[] #[]] w fun e w' => SrtR w w' X ah n e := by
  obtain ⟨w0, hw0⟩ : ∃ w0, w0 = w.alloc (.cells #[.func (.func 22) #[] #[]] 62) := ⟨_, rfl⟩
  obtain ⟨P2, hP2⟩ : ∃ P2, P2 = w.heap.size := ⟨_, rfl⟩
  have B0 : Below w.heap.size w w0 := by rw [hw0]; exact (Below.refl _ w).alloc (Nat.le_refl _) _
  have s0 : w0.heap.size = P2 + 1 := by rw [hw0, hP2]; simp
  have c0 : w0.cell? ⟨P2, 0, none⟩ = some (.func (.func 22) #[] #[]) := by rw [hw0, hP2]; simp [go_sem]
  have hA0 : AhA w0 22 n X ah := fun a b W h1 h2 h3 => hA a b W h1 h2 (B0.trans (h3.mono B0.size))
  have hw1 : RW w0 b0 cp n X := hw.below B0
  have CP : Hid _ := pieces_any w0 b0 cp n X ah hA0 hw1 hn hcp
  have hFH : Hid (FiA w0 b0 cp n P2 ah) := fun p q W h1 h2 h3 h4 h5 => first_any w0 b0 cp n P2 X ah hA0 hw1 (by omega) c0 p q W h1 h2 h3 h4 (by omega) h5
  have hwH : Hid (RW w0 b0 cp n X) := hw1
  have B0H : Hid (Below w.heap.size w w0) := B0
  have hmk := make_zero n (by omega)
  clear hA hA0 hw hw1 B0
  go_enter Tryz.func21, Tryz.ntmps21
  go_wp2_with fail
  rw [← hw0, ← hP2]
  clear hw0 c0 hP2 s0
  refine Calls.mono CP.out ?_
  rintro e w1 ⟨a, m, c, h, rfl, hC⟩
  clear CP
  rcases (hC.row.len).2 with m0 | ⟨hb, rfl, hb1, hb2⟩
  · subst m0
    have n0 : n = 0 := by
      rcases Nat.eq_zero_or_pos n with q | q
      · exact q
      · obtain ⟨i, hi, _⟩ := (hC.ct.upto 0).2 q
        omega
    subst n0
    have B1 : Hid (Below w.heap.size w w1) := B0H.out.trans (hC.bl.mono B0H.out.size)
    have hmk0 : ∀ w, (Instr.makeSlice 22 (.int .i64 0) (.int .i64 0)).run Tryz.prog w = .ok (.slice (some ⟨w.heap.size, 0, none⟩) 0 0) (w.alloc (.cells (madeCells zW 0) 52)) := fun w => by simpa using make_zero 0 (by omega) w
    clear hC hFH hwH B0H hmk
    go_wp2_with fail
    go_loopw [7] (fun v wr => v = .int .i64 (-1) ∧ wr = w1) (fun _ _ => 0)
    case atStart => exact ⟨rfl, rfl⟩
    case round =>
      obtain ⟨rfl, hwr⟩ := hrel
      subst hwr
      have fin : Hid (SrtR w (wr.alloc (.cells (madeCells zW 0) 52)) X ah 0 (.returned (.slice (some ⟨wr.heap.size, 0, none⟩) 0 0))) := ⟨[], wr.heap.size, 0, rfl, ⟨List.Pairwise.nil, fun p => by simp⟩, by simp, fun i p hi => by simp at hi, B1.out.alloc B1.out.size _⟩
      clear B1
      go_wp2_with fail
      generalize wr.alloc (.cells (madeCells zW 0) 52) = w2 at fin ⊢
      generalize wr.heap.size = go at fin ⊢
      go_loopw [5, 8] (fun v5 v8 wx => v5 = .slice a 0 c ∧ v8 = .slice (some ⟨go, 0, none⟩) 0 0 ∧ wx = w2) (fun _ _ _ => 0)
      case atStart => exact ⟨rfl, rfl, rfl⟩
      case round =>
        obtain ⟨rfl, rfl, hwx⟩ := hrel
        subst hwx
        go_wp2_with fail
        go_ret
        exact fin.out
  · have hmc : m ≤ c := by
      have hl : (plV b0 cp n h m).length = m := by simp [plV]
      have r := hC.row
      unfold OH at r
      rw [hl] at r
      rcases r.2 with ⟨q, _⟩ | ⟨g', cap, cur, q, _, _, hc', _⟩
      · cases q
      · injection q with q1 q2 q3
        omega
    have S0 : Hid (BL1 w0 b0 cp n hb m ah m h w1) := ⟨hC.ct.start, HP.none m h, (OH.hr hC.row), hC.bl⟩
    have mn : m ≤ n := hC.few
    have psm : Hid (w0.heap.size ≤ hb) := hb1
    have z1 : IntKind.i64.wrap ((m : Int) - 1) = (m : Int) - 1 := IntWalk.i64_in _ (by omega)
    clear hC
    go_wp2_with fail
    go_loopw [7] (fun v wr => ∃ (j : Nat) (R : Int) (g : Nat → Pc), v = .int .i64 R ∧ Hid (R = (j : Int) - 1) ∧ j ≤ m ∧ Hid (BL1 w0 b0 cp n hb m ah j g wr)) (fun v _ => (intOf v + 1).toNat)
    case atStart => exact ⟨m, (m : Int) - 1, h, rfl, rfl, Nat.le_refl _, S0⟩
    case round =>
      clear S0 z1
      obtain ⟨j, R, g, rfl, hR, hjm, hS⟩ := hrel
      by_cases hj : 0 ≤ R
      · obtain ⟨q, hq⟩ : ∃ q : Nat, R = (q : Int) := ⟨R.toNat, by omega⟩
        subst hq
        have hjq : j = q + 1 := by have := hR.out; omega
        subst hjq
        have hqI : (q : Int) ≥ 0 := by omega
        have qw : IntKind.i64.wrap ((q : Int) - 1) = (q : Int) - 1 := IntWalk.i64_in _ (by omega)
        have C : Hid _ := sink_any w0 b0 cp n P2 ah o hFH.out hb m c q q g wr hS.out.hr hS.out.bl psm.out hS.out.s.ps (HX.start hS.out.hp) (Nat.le_refl _) (by omega) (by omega)
        go_wp2_with fail
        refine Calls.mono C.out ?_
        rintro e w2 ⟨rfl, g', P2', H2, R2, O2⟩
        have S2 : Hid (BL1 w0 b0 cp n hb m ah q g' w2) := ⟨hS.out.s.pr P2', H2, R2, O2.into hS.out.bl psm.out hS.out.bl.size⟩
        clear C hS H2 R2 O2 P2'
        go_wp2_with fail
        exact ⟨⟨q, (q : Int) - 1, g', rfl, rfl, by omega, S2⟩, by simp [intOf] <;> omega⟩
      · have hjI : ¬ R ≥ 0 := by omega
        have hj0 : j = 0 := by have := hR.out; omega
        subst hj0
        obtain ⟨Bo, hBo⟩ : ∃ Bo, Bo = wr.heap.size := ⟨_, rfl⟩
        have T0 : Hid (TK1 w0 X b0 cp n hb Bo ah m g (.slice (some ⟨Bo, 0, none⟩) 0 n) [] (wr.alloc (.cells (madeCells zW (n * 6)) 52))) := by
          have bA : Below wr.heap.size wr (wr.alloc (.cells (madeCells zW (n * 6)) 52)) := (Below.refl _ wr).alloc (Nat.le_refl _) _
          refine ⟨hS.out.s, hS.out.hp, hS.out.hr.below bA, ?_, hS.out.bl.trans (bA.mono hS.out.bl.size), by rw [hBo]; exact bA.size⟩
          have := OR6.made wr n (by omega)
          rw [← hBo] at this
          exact this
        have hbo : hb < Bo := by rw [hBo]; exact hS.out.hr.1
        have B0o : w0.heap.size ≤ Bo := by rw [hBo]; exact hS.out.bl.size
        clear hS hR
        go_wp2_with fail
        rw [← hBo]
        generalize wr.alloc (.cells (madeCells zW (n * 6)) 52) = w3 at T0 ⊢
        clear hBo hmk
        go_loopw [5, 8] (fun v5 v8 wx => ∃ (k ch z go co : Nat) (g : Nat → Pc) (out : List Nat), v5 = .slice (some ⟨hb, 0, none⟩) k ch ∧ v8 = .slice (some ⟨go, 0, none⟩) z co ∧ k ≤ m ∧ k ≤ ch ∧ Hid (out.length = z ∧ TK1 w0 X b0 cp n hb Bo ah k g (.slice (some ⟨go, 0, none⟩) z co) out wx)) (fun _ v8 _ => n - slLen v8)
        case atStart => exact ⟨m, c, 0, Bo, n, g, [], rfl, rfl, Nat.le_refl _, hmc, ⟨rfl, T0.out⟩⟩
        case round =>
          clear T0
          obtain ⟨k, ch, z, go, co, g, out, rfl, rfl, hkm, hkc, hT⟩ := hrel
          by_cases hk : 0 < k
          · have hkI : (k : Int) > 0 := by omega
            have hkJ : (0 : Int) < (k : Int) := by omega
            have T := hT.out.2
            have zl := hT.out.1
            have run0 := T.s.ps.run 0 hk
            have few := T.s.few o
            obtain ⟨s, e, hse⟩ : ∃ s e, g 0 = (s, e) := ⟨(g 0).1, (g 0).2, rfl⟩
            have a1 := (T.hr.2 0 hk).1
            have a2 := (T.hr.2 0 hk).2
            rw [hse] at run0 a1
            have s1 : s < e := run0.1.1
            have s2 : e ≤ n := run0.2
            have bb := (hwH.out.2 s (by omega)).below T.bl hwH.out.1
            obtain ⟨Xs, hXs⟩ : ∃ Xs, Xs = X s := ⟨_, rfl⟩
            rw [← hXs] at bb
            have hXsH : Hid (Xs = X s) := hXs
            clear hXs
            obtain ⟨go1, co1, w4, hr1, ho0, hb4⟩ := app1R wr Bo (.slice (some ⟨go, 0, none⟩) z co) (out.map X) T.row T.sz Xs (by rw [List.length_map]; omega)
            rw [List.length_map, zl] at hr1 ho0
            have ho1 : OR6 w4 Bo (.slice (some ⟨go1, 0, none⟩) (z + 1) co1) ((out ++ [s]).map X) := by rw [List.map_append, List.map_cons, List.map_nil, ← hXsH.out]; exact ho0
            clear ho0
            obtain ⟨xp, xa, xc⟩ := Xs
            unfold WAt at bb
            simp only at bb hr1
            clear hXsH
            generalize xp.s.t.length = xn at bb hr1
            obtain ⟨b1, b2, b3, b4, b5, b6⟩ := bb
            have hrH : Hid (∀ W, W = wr.alloc (.cells #[.string xp.s.m, .slice xa xn xc, .string xp.s.f, .int .i64 xp.tm, .int .u8 (xp.kd : Int), .int .i64 xp.n] 52) → (Builtin.append_ #[22, 22] 22 #[.slice (some ⟨go, 0, none⟩) z co, .slice (some ⟨wr.heap.size, 0, none⟩) 1 1]).run Tryz.prog W = .ok (.slice (some ⟨go1, 0, none⟩) (z + 1) co1) w4) := fun W e => by subst e; exact hr1
            have R4 : HR w4 hb k b0 cp n g := T.hr.belowC hb4 hbo
            have Bl4 : Below w0.heap.size w0 w4 := T.bl.trans (hb4.mono B0o)
            have c1 := (R4.2 0 hk).1
            have c2 := (R4.2 0 hk).2
            rw [hse] at c1
            have sz4 : Bo ≤ w4.heap.size := Nat.le_trans T.sz hb4.size
            have hseH : Hid (g 0 = (s, e)) := hse
            have hcommon : Hid (HR w4 hb k b0 cp n g ∧ Below w0.heap.size w0 w4 ∧ Bo ≤ w4.heap.size ∧ OR6 w4 Bo (.slice (some ⟨go1, 0, none⟩) (z + 1) co1) ((out ++ [s]).map X)) := ⟨R4, Bl4, sz4, ho1⟩
            have l1 : 0 < e - s := by omega
            have l1I : (0 : Int) < ((e - s : Nat) : Int) := by omega
            have lc : 1 ≤ cp - s := by omega
            have lcI : (1 : Int) ≤ ((cp - s : Nat) : Int) := by omega
            have tail : Hid (∀ (k' : Nat) (g' : Nat → Pc) (W : World) (ch' : Nat), So1 ah n k' g' (out ++ [s]) → HX (hl ah) 0 0 k' g' → HR W hb k' b0 cp n g' → OB hb w4 W → k' ≤ m → Calls Tryz.prog 45 #[.slice (some ⟨hb, 0, none⟩) k' ch', .int .i64 0, .func (.func 44) #[] #[.pointer (some ⟨P2, 0, none⟩)]] W fun e w' => e = .returned undef ∧ ∃ g2, TK1 w0 X b0 cp n hb Bo ah k' g2 (.slice (some ⟨go1, 0, none⟩) (z + 1) co1) (out ++ [s]) w') := fun k' g' W ch' q1 q2 q3 q4 q5 => by
              have BW : Below w0.heap.size w0 W := q4.into Bl4 psm.out Bl4.size
              refine (sink_any w0 b0 cp n P2 ah o hFH.out hb k' ch' 0 0 g' W q3 BW psm.out q1.ps q2 (Nat.le_refl _) (Nat.zero_le _) (by omega)).mono fun e w' hh => ?_
              obtain ⟨rfl, g2, p1, p2, p3, p4⟩ := hh
              exact ⟨rfl, g2, q1.pr p1, p2, p3, (ho1.ob q4 hbo).ob p4 hbo, p4.into BW psm.out BW.size, Nat.le_trans sz4 (Nat.le_trans q4.size p4.size)⟩
            have TH : Hid (TK1 w0 X b0 cp n hb Bo ah k g (.slice (some ⟨go, 0, none⟩) z co) out wr) := T
            have zn : z + 1 ≤ n := by
              have : s ∉ out := fun hx => by
                have := T.s.fore s s hx ⟨0, hk, by rw [hse]; exact Nat.le_refl _, by rw [hse]; exact s1⟩
                rw [o.irr s (by omega)] at this
                cases this
              have q := nodup_leB (s :: out) (List.range n) (List.nodup_cons.2 ⟨this, by
                rw [List.nodup_iff_pairwise_ne]
                refine (List.Pairwise.and_mem.1 T.s.ord).imp ?_
                rintro x y ⟨hx, hy, hxy⟩ e
                subst e
                rw [o.irr x ((T.s.all x).2 (Or.inl hx))] at hxy
                cases hxy⟩) (fun x hx => by
                  rcases List.mem_cons.1 hx with e | e
                  · rw [e]; exact List.mem_range.2 (by omega)
                  · exact List.mem_range.2 ((T.s.all x).2 (Or.inl e)))
              simp at q; omega
            clear T hT hr1 ho1 hb4 R4 Bl4 sz4 hse run0
            unfold pV at a1 c1
            simp only at a1 c1
            by_cases hl1 : s + 1 < e
            · have hlI : ((e - s : Nat) : Int) > 1 := by omega
              have hlJ : (1 : Int) < ((e - s : Nat) : Int) := by omega
              have ne1 : ¬ 1 = cp - s := by omega
              have hpv : pV b0 cp n (s + 1, e) = .slice (some ⟨b0, s * 6 + 6, none⟩) (e - s - 1) (cp - s - 1) := by unfold pV; simp only; rw [show e - (s + 1) = e - s - 1 by omega, show cp - (s + 1) = cp - s - 1 by omega, show (s + 1) * 6 = s * 6 + 6 by omega]
              have C : Hid (Calls Tryz.prog 45 #[.slice (some ⟨hb, 0, none⟩) k ch, .int .i64 0, .func (.func 44) #[] #[.pointer (some ⟨P2, 0, none⟩)]] (w4.setCell ⟨hb, 0, none⟩ (.slice (some ⟨b0, s * 6 + 6, none⟩) (e - s - 1) (cp - s - 1))) fun e w' => e = .returned undef ∧ ∃ g2, TK1 w0 X b0 cp n hb Bo ah k g2 (.slice (some ⟨go1, 0, none⟩) (z + 1) co1) (out ++ [s]) w') := by
                have hs1 : So1 ah n k (fun i => if i = 0 then (s + 1, e) else g i) (out ++ [s]) := by
                  have := TH.out.s.more (g := fun i => if i = 0 then (s + 1, e) else g i) o TH.out.hp hk (by rw [hseH.out]; exact hl1) (by rw [hseH.out]; rfl) (fun i h1 h2 => by simp; omega)
                  rw [hseH.out] at this; exact this
                refine tail.out k _ _ ch hs1 (HX.top TH.out.hp k (Nat.le_refl _) (fun i h1 h2 => by simp; omega)) ?_ (OB.set _ _ _) hkm
                rw [← hpv]; exact hcommon.out.1.set hk (s + 1, e)
              clear tail TH hcommon hseH
              generalize e - s = le at *
              generalize cp - s = lc' at *
              go_wp2_with (at_builtin; refine wpList_append_runB (by rfl) _ _ _ (by rfl) _ _ _ _ (by rfl) (by rfl) (hrH.out _ rfl) ?_)
              refine Calls.mono C.out ?_
              rintro e' w5 ⟨rfl, g2, T5⟩
              have T5H : Hid (TK1 w0 X b0 cp n hb Bo ah k g2 (.slice (some ⟨go1, 0, none⟩) (z + 1) co1) (out ++ [s]) w5) := T5
              clear T5 C hrH a1 a2 b1 b2 b3 b4 b5 b6 c1 c2
              go_wp2_with fail
              exact ⟨⟨k, ch, z + 1, go1, co1, g2, out ++ [s], rfl, rfl, hkm, hkc, ⟨by rw [List.length_append, zl]; rfl, T5H.out⟩⟩, by simp [slLen]; omega⟩
            · have hlI : ¬ ((e - s : Nat) : Int) > 1 := by omega
              have hlJ : ¬ (1 : Int) < ((e - s : Nat) : Int) := by omega
              obtain ⟨k', rfl⟩ : ∃ k', k = k' + 1 := ⟨k - 1, by omega⟩
              have kw : IntKind.i64.wrap ((k' : Int) + 1 - 1) = (k' : Int) := by rw [show (k' : Int) + 1 - 1 = (k' : Int) by omega]; exact IntWalk.i64_in _ (by omega)
              have kw2 : IntKind.i64.wrap (((k' + 1 : Nat) : Int) - 1) = (k' : Int) := by rw [show ((k' + 1 : Nat) : Int) - 1 = (k' : Int) by omega]; exact IntWalk.i64_in _ (by omega)
              have k0 : (0 : Int) ≤ (k' : Int) := by omega
              have k1 : (k' : Int) < (k' : Int) + 1 := by omega
              have k2 : (k' : Int) ≤ (ch : Int) := by omega
              obtain ⟨ax, lx, cx, hX⟩ : ∃ ax lx cx, pV b0 cp n (g k') = .slice ax lx cx := ⟨_, _, _, rfl⟩
              have d1 : w4.cell? ⟨hb, k', none⟩ = some (.slice ax lx cx) := by rw [← hX]; exact (hcommon.out.1.2 k' (by omega)).1
              have C : Hid (Calls Tryz.prog 45 #[.slice (some ⟨hb, 0, none⟩) k' ch, .int .i64 0, .func (.func 44) #[] #[.pointer (some ⟨P2, 0, none⟩)]] (w4.setCell ⟨hb, 0, none⟩ (.slice ax lx cx)) fun e w' => e = .returned undef ∧ ∃ g2, TK1 w0 X b0 cp n hb Bo ah k' g2 (.slice (some ⟨go1, 0, none⟩) (z + 1) co1) (out ++ [s]) w') := by
                have hs1 : So1 ah n k' (fun i => if i = 0 then g k' else g i) (out ++ [s]) := by
                  have := TH.out.s.less (g := fun i => if i = 0 then g k' else g i) o TH.out.hp (by rw [hseH.out]; show e = s + 1; omega) (fun _ => rfl) (fun i h1 h2 => by simp; omega)
                  rw [hseH.out] at this; exact this
                refine tail.out k' _ _ ch hs1 (HX.top TH.out.hp k' (by omega) (fun i h1 h2 => by simp; omega)) ?_ (OB.set _ _ _) (by omega)
                rw [← hX]
                have := hcommon.out.1.set (k := 0) hk (g k')
                exact ⟨this.1, fun i hi => this.2 i (by omega)⟩
              clear tail TH hcommon hseH hX
              generalize e - s = le at *
              generalize cp - s = lc' at *
              go_wp2_with (at_builtin; refine wpList_append_runB (by rfl) _ _ _ (by rfl) _ _ _ _ (by rfl) (by rfl) (hrH.out _ rfl) ?_)
              refine Calls.mono C.out ?_
              rintro e' w5 ⟨rfl, g2, T5⟩
              have T5H : Hid (TK1 w0 X b0 cp n hb Bo ah k' g2 (.slice (some ⟨go1, 0, none⟩) (z + 1) co1) (out ++ [s]) w5) := T5
              clear T5 C hrH a1 a2 b1 b2 b3 b4 b5 b6 c1 c2 d1
              go_wp2_with fail
              exact ⟨⟨k', ch, z + 1, go1, co1, g2, out ++ [s], rfl, rfl, by omega, by omega, ⟨by rw [List.length_append, zl]; rfl, T5H.out⟩⟩, by simp [slLen]; omega⟩
          · have hkI : ¬ (k : Int) > 0 := by omega
            have hkJ : ¬ (0 : Int) < (k : Int) := by omega
            obtain rfl : k = 0 := by omega
            have fin : Hid (SrtR w wr X ah n (.returned (.slice (some ⟨go, 0, none⟩) z co))) := by
              obtain ⟨zl, T⟩ := hT.out
              have ro := T.row
              unfold OR6 at ro
              refine ⟨out, go, co, by rw [zl], T.s.done, (World.ownsRow.lt ro go rfl).2, fun i p hi => ?_, B0H.out.trans (T.bl.mono B0H.out.size)⟩
              have hcs := World.ownsRow.cells ro (g := go) rfl
              obtain ⟨e1, e2, e3, e4, e5, e6⟩ := encW_get (out.map X) i (X p) (by rw [List.getElem?_map, hi]; rfl)
              have k1 := hcs _ _ e1
              have k2 := hcs _ _ e2
              have k3 := hcs _ _ e3
              have k4 := hcs _ _ e4
              have k5 := hcs _ _ e5
              have k6 := hcs _ _ e6
              rw [tag_add, Nat.zero_add] at k1 k2 k3 k4 k5 k6
              exact ⟨k1, k2, k3, k4, k5, k6⟩
            clear hT
            go_wp2_with fail
            go_ret
            exact fin.out
end Go.Proofs.YtepakgfdakeibaaGreatDoor.So.Wr

namespace Go.Proofs.YtepakgfdakeibaaGreatDoor.So.Wr
open Go.RowKit
set_option linter.unusedVariables false
set_option linter.unusedSimpArgs false
/-! ### a row of samples by places: six cells each, not frozen -/
def Fr6 (w : World) (b o : Nat) : Prop := w.frozen? ⟨b, o, none⟩ = false ∧ w.frozen? ⟨b, o + 1, none⟩ = false ∧ w.frozen? ⟨b, o + 2, none⟩ = false ∧ w.frozen? ⟨b, o + 3, none⟩ = false ∧ w.frozen? ⟨b, o + 4, none⟩ = false ∧ w.frozen? ⟨b, o + 5, none⟩ = false
def T6 (w : World) (b n : Nat) (F : Nat → WrA) : Prop := b < w.heap.size ∧ ∀ k : Nat, k < n → WAt w b (k * 6) (F k).1 (F k).2.1 (F k).2.2 ∧ Fr6 w b (k * 6)
theorem T6.below {w w' : World} {b n : Nat} {F : Nat → WrA} (h : T6 w b n F) (hb : Below w.heap.size w w') : T6 w' b n F := by
  refine ⟨Nat.lt_of_lt_of_le h.1 hb.size, fun k hk => ⟨(h.2 k hk).1.below hb h.1, ?_⟩⟩
  obtain ⟨_, f1, f2, f3, f4, f5, f6⟩ := h.2 k hk
  exact ⟨by rw [hb.frozen (p := ⟨b, k * 6, none⟩) h.1]; exact f1, by rw [hb.frozen (p := ⟨b, k * 6 + 1, none⟩) h.1]; exact f2, by rw [hb.frozen (p := ⟨b, k * 6 + 2, none⟩) h.1]; exact f3, by rw [hb.frozen (p := ⟨b, k * 6 + 3, none⟩) h.1]; exact f4, by rw [hb.frozen (p := ⟨b, k * 6 + 4, none⟩) h.1]; exact f5, by rw [hb.frozen (p := ⟨b, k * 6 + 5, none⟩) h.1]; exact f6⟩
theorem T6.rw6 {w : World} {b n cp : Nat} {F : Nat → WrA} (h : T6 w b n F) : RW w b cp n F := ⟨h.1, fun i hi => (h.2 i hi).1⟩
def upd6 (F : Nat → WrA) (i : Nat) (x : WrA) : Nat → WrA := fun k => if k = i then x else F k
/-- a sample written over another one. -/
def put6 (w : World) (b o : Nat) (x : WrA) : World := (((((w.setCell ⟨b, o, none⟩ (.string x.1.s.m)).setCell ⟨b, o + 1, none⟩ (.slice x.2.1 x.1.s.t.length x.2.2)).setCell ⟨b, o + 2, none⟩ (.string x.1.s.f)).setCell ⟨b, o + 3, none⟩ (.int .i64 x.1.tm)).setCell ⟨b, o + 4, none⟩ (.int .u8 (x.1.kd : Int))).setCell ⟨b, o + 5, none⟩ (.int .i64 x.1.n)
theorem OB.put6 (w : World) (b o : Nat) (x : WrA) : OB b w (put6 w b o x) := (((((OB.set w o _).trans (OB.set _ _ _)).trans (OB.set _ _ _)).trans (OB.set _ _ _)).trans (OB.set _ _ _)).trans (OB.set _ _ _)
theorem put6_far (w : World) (b o : Nat) (x : WrA) (q : Nat) (h : q < o ∨ o + 6 ≤ q) : (put6 w b o x).cell? ⟨b, q, none⟩ = w.cell? ⟨b, q, none⟩ := by
  unfold put6
  rw [far2 (by intro h; injection h; omega), far2 (by intro h; injection h; omega), far2 (by intro h; injection h; omega), far2 (by intro h; injection h; omega), far2 (by intro h; injection h; omega), far2 (by intro h; injection h; omega)]
theorem T6.set {w : World} {b n : Nat} {F : Nat → WrA} (h : T6 w b n F) {i : Nat} (hi : i < n) (x : WrA) : T6 (put6 w b (i * 6) x) b n (upd6 F i x) := by
  refine ⟨Nat.lt_of_lt_of_le h.1 (OB.put6 _ _ _ _).size, fun k hk => ?_⟩
  obtain ⟨⟨c1, c2, c3, c4, c5, c6⟩, f1, f2, f3, f4, f5, f6⟩ := h.2 k hk
  have fz : ∀ q, (put6 w b (i * 6) x).frozen? ⟨b, q, none⟩ = w.frozen? ⟨b, q, none⟩ := fun q => by simp [put6, World.frozen?_setCell]
  refine ⟨?_, by rw [fz]; exact f1, by rw [fz]; exact f2, by rw [fz]; exact f3, by rw [fz]; exact f4, by rw [fz]; exact f5, by rw [fz]; exact f6⟩
  unfold upd6
  by_cases c : k = i
  · subst c
    rw [if_pos rfl]
    unfold put6 WAt
    simp [go_sem, c1, c2, c3, c4, c5, c6]
  · rw [if_neg c]
    refine ⟨?_, ?_, ?_, ?_, ?_, ?_⟩
    · rw [put6_far _ _ _ _ _ (by omega)]; exact c1
    · rw [put6_far _ _ _ _ _ (by omega)]; exact c2
    · rw [put6_far _ _ _ _ _ (by omega)]; exact c3
    · rw [put6_far _ _ _ _ _ (by omega)]; exact c4
    · rw [put6_far _ _ _ _ _ (by omega)]; exact c5
    · rw [put6_far _ _ _ _ _ (by omega)]; exact c6
/-! ### what is left -/
def isI (x : WrA) : Bool := decide (x.1.kd = 0)
def lft (F : Nat → WrA) (p : Nat) : List WrA := ((List.range p).map F).filter isI
theorem lft_skip (F : Nat → WrA) {p : Nat} (h : isI (F p) = false) : lft F (p + 1) = lft F p := by
  unfold lft; rw [List.range_succ, List.map_append, List.filter_append]; simp [h]
theorem lft_new (F : Nat → WrA) {p : Nat} (h : isI (F p) = true) : lft F (p + 1) = lft F p ++ [F p] := by
  unfold lft; rw [List.range_succ, List.map_append, List.filter_append]; simp [h]
theorem lft_plain (F : Nat → WrA) : ∀ k, (∀ i, i < k → isI (F i) = true) → lft F k = (List.range k).map F
  | 0, _ => rfl
  | k + 1, h => by rw [lft_new F (h k (by omega)), lft_plain F k fun i hi => h i (by omega), List.range_succ, List.map_append]; rfl
structure D6 (F H : Nat → WrA) (p k : Nat) : Prop where
  is : (List.range k).map H = lft F p
  rest : ∀ i, p ≤ i → H i = F i
theorem D6.skip {F H : Nat → WrA} {p k : Nat} (h : D6 F H p k) (e : isI (F p) = false) : D6 F H (p + 1) k := ⟨by rw [lft_skip F e]; exact h.is, fun i hi => h.rest i (by omega)⟩
theorem D6.new {F H : Nat → WrA} {p k : Nat} (h : D6 F H p k) (hk : k ≤ p) (e : isI (F p) = true) : D6 F (upd6 H k (F p)) (p + 1) (k + 1) := by
  refine ⟨?_, fun i hi => ?_⟩
  · rw [lft_new F e, ← h.is, List.range_succ, List.map_append]
    congr 1
    · apply List.map_congr_left
      intro i hi
      unfold upd6
      rw [if_neg (by have := List.mem_range.1 hi; omega)]
    · simp [upd6]
  · unfold upd6
    rw [if_neg (by omega)]
    exact h.rest i (by omega)
/-! ### clear -/
def noW6 (n : Nat) : List Value := (Builtin.zeroCells (Value.agg #[.string ⟨#[]⟩, .slice none 0 0, .string ⟨#[]⟩, .int .i64 0, .int .u8 0, .int .i64 0]).cells n).toList
theorem noW6_len (n : Nat) : (noW6 n).length = n * 6 := by
  unfold noW6
  have hz : (Value.agg #[.string ⟨#[]⟩, .slice none 0 0, .string ⟨#[]⟩, .int .i64 0, .int .u8 0, .int .i64 0]).cells = #[.string ⟨#[]⟩, .slice none 0 0, .string ⟨#[]⟩, .int .i64 0, .int .u8 0, .int .i64 0] := by kernel_rfl
  rw [hz]
  simp [Builtin.zeroCells]
theorem noW6_one (n : Nat) : ∀ u ∈ noW6 n, u.oneCell' = true := by
  intro u hu
  unfold noW6 at hu
  have hz : (Value.agg #[.string ⟨#[]⟩, .slice none 0 0, .string ⟨#[]⟩, .int .i64 0, .int .u8 0, .int .i64 0]).cells = #[.string ⟨#[]⟩, .slice none 0 0, .string ⟨#[]⟩, .int .i64 0, .int .u8 0, .int .i64 0] := by kernel_rfl
  rw [hz] at hu
  simp [Builtin.zeroCells] at hu
  obtain ⟨i, hi, e⟩ := hu
  have : i % 6 = 0 ∨ i % 6 = 1 ∨ i % 6 = 2 ∨ i % 6 = 3 ∨ i % 6 = 4 ∨ i % 6 = 5 := by omega
  rcases this with q | q | q | q | q | q <;> simp [q] at e <;> subst e <;> rfl
theorem run_clear6 (w : World) (ty : TypeId) (b o n c : Nat) (hn : 0 < n) (hc : ∀ j, j < n * 6 → (w.cell? ⟨b, o + j, none⟩).isSome = true) (hf : ∀ j, j < n * 6 → w.frozen? ⟨b, o + j, none⟩ = false) :
    (Builtin.clear_ #[22] ty #[.slice (some ⟨b, o, none⟩) n c]).run Tryz.prog w = .ok (.tuple #[]) (w.setCells b o (noW6 n)) := by
  obtain ⟨i, i1, i0⟩ := Option.map_eq_some_iff.1 wr_info
  have i2 : i.zero = some (.agg #[.string ⟨#[]⟩, .slice none 0 0, .string ⟨#[]⟩, .int .i64 0, .int .u8 0, .int .i64 0]) := congrArg (·.1) i0
  have hv : ∀ w, (zeroValue 52).run Tryz.prog w = .ok (.agg #[.string ⟨#[]⟩, .slice none 0 0, .string ⟨#[]⟩, .int .i64 0, .int .u8 0, .int .i64 0]) w := fun w => by simp [zeroValue, typeInfo, i1, i2]
  have hzc : (Builtin.zeroCells (Value.agg #[.string ⟨#[]⟩, .slice none 0 0, .string ⟨#[]⟩, .int .i64 0, .int .u8 0, .int .i64 0]).cells n).toList = noW6 n := rfl
  have hst := run_storeCells_cells (P := Tryz.prog) b o (noW6 n) 0 w (by rw [noW6_len]; exact hc) (by rw [noW6_len]; exact hf) (noW6_one n)
  simp only [Nat.add_zero] at hst
  obtain ⟨m, rfl⟩ : ∃ m, n = m + 1 := ⟨n - 1, by omega⟩
  simp [Builtin.clear_, run_underlying Tryz.underlying22, hv, hzc, hst]
theorem T6.some {w : World} {b n : Nat} {F : Nat → WrA} (h : T6 w b n F) {j : Nat} (hj : j < n * 6) : (w.cell? ⟨b, j, none⟩).isSome = true ∧ w.frozen? ⟨b, j, none⟩ = false := by
  obtain ⟨⟨c1, c2, c3, c4, c5, c6⟩, f1, f2, f3, f4, f5, f6⟩ := h.2 (j / 6) (by omega)
  have : j % 6 = 0 ∨ j % 6 = 1 ∨ j % 6 = 2 ∨ j % 6 = 3 ∨ j % 6 = 4 ∨ j % 6 = 5 := by omega
  rcases this with q | q | q | q | q | q
  · rw [show j = j / 6 * 6 by omega]; exact ⟨by rw [c1]; rfl, f1⟩
  · rw [show j = j / 6 * 6 + 1 by omega]; exact ⟨by rw [c2]; rfl, f2⟩
  · rw [show j = j / 6 * 6 + 2 by omega]; exact ⟨by rw [c3]; rfl, f3⟩
  · rw [show j = j / 6 * 6 + 3 by omega]; exact ⟨by rw [c4]; rfl, f4⟩
  · rw [show j = j / 6 * 6 + 4 by omega]; exact ⟨by rw [c5]; rfl, f5⟩
  · rw [show j = j / 6 * 6 + 5 by omega]; exact ⟨by rw [c6]; rfl, f6⟩
theorem T6.cleared {w : World} {b n k : Nat} {F : Nat → WrA} (h : T6 w b n F) (hk : k ≤ n) (vs : List Value) : T6 (w.setCells b (k * 6) vs) b k F := by
  refine ⟨Nat.lt_of_lt_of_le h.1 (OB.sets vs _ w).size, fun i hi => ?_⟩
  obtain ⟨⟨c1, c2, c3, c4, c5, c6⟩, f1, f2, f3, f4, f5, f6⟩ := h.2 i (by omega)
  have cc : ∀ q, q < k * 6 → (w.setCells b (k * 6) vs).cell? ⟨b, q, none⟩ = w.cell? ⟨b, q, none⟩ := fun q hq => World.cell?_setCells_out _ _ _ _ _ (fun _ _ => Or.inl (by show q < _; omega))
  refine ⟨⟨?_, ?_, ?_, ?_, ?_, ?_⟩, ?_, ?_, ?_, ?_, ?_, ?_⟩
  · rw [cc _ (by omega)]; exact c1
  · rw [cc _ (by omega)]; exact c2
  · rw [cc _ (by omega)]; exact c3
  · rw [cc _ (by omega)]; exact c4
  · rw [cc _ (by omega)]; exact c5
  · rw [cc _ (by omega)]; exact c6
  · rw [World.frozen?_setCells]; exact f1
  · rw [World.frozen?_setCells]; exact f2
  · rw [World.frozen?_setCells]; exact f3
  · rw [World.frozen?_setCells]; exact f4
  · rw [World.frozen?_setCells]; exact f5
  · rw [World.frozen?_setCells]; exact f6
/-- is it no number? -/
theorem isNot_any (x : WrP) (a : Option Addr) (c : Nat) (w : World) : Calls Tryz.prog 20 #[wV x a c] w fun e w' => e = .returned (.bool (! isI (x, a, c))) ∧ Below w.heap.size w w' := by
  obtain ⟨bv, hbv⟩ : ∃ bv, decide (x.kd = 0) = bv := ⟨_, rfl⟩
  have hbH : Hid (decide (x.kd = 0) = bv) := hbv
  have hI : isI (x, a, c) = bv := hbv
  rw [hI]
  unfold wV
  generalize x.s.t.length = n
  cases bv with
  | true =>
    have e : x.kd = 0 := of_decide_eq_true hbv
    rw [e]
    clear hbv hbH hI e
    go_enter Tryz.func20, Tryz.ntmps20
    go_wp2_with fail
    go_ret
    exact ⟨rfl, (Below.refl _ _).alloc (Nat.le_refl _) _⟩
  | false =>
    have e : ¬ x.kd = 0 := of_decide_eq_false hbv
    have e2 : ((x.kd : Int) == 0) = false := by simp; omega
    clear hbv hbH hI e
    generalize (x.kd : Int) = k at e2
    go_enter Tryz.func20, Tryz.ntmps20
    go_wp2_with fail
    go_ret
    exact ⟨by show Ending.returned (.bool (k != 0)) = _; rw [bne, e2], (Below.refl _ _).alloc (Nat.le_refl _) _⟩
/-- the first that is no number, or -1. -/
def FstR (n : Nat) (F : Nat → WrA) (r : Int) : Prop := (r = -1 ∧ ∀ k, k < n → isI (F k) = true) ∨ ∃ k : Nat, k < n ∧ r = (k : Int) ∧ isI (F k) = false ∧ ∀ j, j < k → isI (F j) = true
set_option maxRecDepth 100000 in
set_option maxHeartbeats 4000000 in
theorem indexW_any (b n cap : Nat) (F : Nat → WrA) (w : World) (h : T6 w b n F) (hn : n ≤ 4611686018427387904) (hcap : n ≤ cap) :
    Calls Tryz.prog 38 #[.slice (some ⟨b, 0, none⟩) n cap, .func (.func 20) #[] #[]] w fun e w' => ∃ r : Int, e = .returned (.int .i64 r) ∧ FstR n F r ∧ Below w.heap.size w w' := by
  have H0 : Hid (T6 w b n F) := h
  clear h
  go_enter Tryz.func38, Tryz.ntmps38
  go_wp2_with fail
  go_loopw [8] (fun vk wr => ∃ k : Nat, vk = .int .i64 (k : Int) ∧ k ≤ n ∧ Hid (∀ j, j < k → isI (F j) = true) ∧ Hid (Below w.heap.size w wr)) (fun vk _ => n - (intOf vk).toNat)
  case atStart => exact ⟨0, rfl, Nat.zero_le _, fun j hj => by omega, Below.refl _ _⟩
  case round =>
    obtain ⟨k, rfl, kn, hall, hB⟩ := hrel
    by_cases hk : k < n
    · have hkI : (k : Int) < (n : Int) := by omega
      have k0 : (0 : Int) ≤ (k : Int) := by omega
      have kw : IntKind.i64.wrap ((k : Int) + 1) = ((k + 1 : Nat) : Int) := IntWalk.i64_in _ (by omega)
      have aa := ((H0.out.below hB.out).2 k hk).1
      obtain ⟨bv, hbv⟩ : ∃ bv, isI (F k) = bv := ⟨_, rfl⟩
      have hbH : Hid (isI (F k) = bv) := hbv
      have CH : Hid (∀ W, Calls Tryz.prog 20 #[wV (F k).1 (F k).2.1 (F k).2.2] W fun e w' => e = .returned (.bool (! bv)) ∧ Below W.heap.size W w') := fun W => by
        have := isNot_any (F k).1 (F k).2.1 (F k).2.2 W
        rw [show isI ((F k).1, (F k).2.1, (F k).2.2) = bv from hbv] at this
        exact this
      clear hbv
      unfold WAt at aa
      unfold wV at CH
      generalize F k = x at aa CH
      obtain ⟨xp, xa, xc⟩ := x
      simp only at aa CH
      generalize xp.s.t.length = xn at aa CH
      obtain ⟨a1, a2, a3, a4, a5, a6⟩ := aa
      cases bv with
      | false =>
        go_wp2_with fail
        refine Calls.mono (CH.out _) ?_
        rintro e w' ⟨rfl, BB⟩
        have fin : Hid (Below w.heap.size w w') := hB.out.trans (BB.mono hB.out.size)
        clear BB hB CH a1 a2 a3 a4 a5 a6
        go_wp2_with fail
        go_ret
        exact ⟨(k : Int), rfl, Or.inr ⟨k, hk, rfl, hbH.out, hall.out⟩, fin.out⟩
      | true =>
        go_wp2_with fail
        refine Calls.mono (CH.out _) ?_
        rintro e w' ⟨rfl, BB⟩
        have fin : Hid (Below w.heap.size w w') := hB.out.trans (BB.mono hB.out.size)
        have nx : Hid (∀ j, j < k + 1 → isI (F j) = true) := fun j hj => by
          by_cases c : j < k
          · exact hall.out j c
          · have : j = k := by omega
            subst this
            exact hbH.out
        clear BB hB CH a1 a2 a3 a4 a5 a6 hall hbH
        go_wp2_with fail
        exact ⟨⟨k + 1, by first | rfl | simp, by omega, nx, fin⟩, by simp [intOf]; omega⟩
    · have hkI : ¬ (k : Int) < (n : Int) := by omega
      obtain rfl : k = n := by omega
      go_wp2_with fail
      go_ret
      exact ⟨-1, rfl, Or.inl ⟨rfl, hall.out⟩, hB.out⟩
set_option maxRecDepth 100000 in
set_option maxHeartbeats 8000000 in
/-- slices.DeleteFunc: what is no number goes. -/
theorem delete_any (b n cap : Nat) (F : Nat → WrA) (w : World) (h : T6 w b n F) (hn : n ≤ 1152921504606846976) (hcap : n ≤ cap) :
    Calls Tryz.prog 18 #[.slice (some ⟨b, 0, none⟩) n cap, .func (.func 20) #[] #[]] w fun e w' => ∃ (m : Nat) (H : Nat → WrA), e = .returned (.slice (some ⟨b, 0, none⟩) m cap) ∧ m ≤ n ∧ T6 w' b m H ∧ (List.range m).map H = lft F n ∧ OB b w w' := by
  have H0 : Hid (T6 w b n F) := h
  have CI : Hid _ := indexW_any b n cap F w h (by omega) hcap
  clear h
  go_enter Tryz.func18, Tryz.ntmps18
  go_wp2_with fail
  refine Calls.mono CI.out ?_
  rintro e w1 ⟨r, rfl, hr, B1⟩
  clear CI
  have T1 : Hid (T6 w1 b n F) := H0.out.below B1
  have O1 : Hid (OB b w w1) := OB.below B1
  clear H0 B1
  rcases hr with ⟨rfl, hall⟩ | ⟨k, hk, rfl, hnot, hall⟩
  · have fin : Hid ((List.range n).map F = lft F n) := (lft_plain F n hall).symm
    clear hall
    go_wp2_with fail
    go_ret
    exact ⟨n, F, rfl, Nat.le_refl _, T1.out, fin.out, O1.out⟩
  · have kq : ((k : Int) == -1) = false := by simp
    have kw : IntKind.i64.wrap ((k : Int) + 1) = ((k + 1 : Nat) : Int) := IntWalk.i64_in _ (by omega)
    have cs0 : Hid (D6 F F (k + 1) k) := ⟨by rw [lft_skip F hnot, lft_plain F k hall], fun i _ => rfl⟩
    clear hall hnot
    go_wp2_with fail
    go_loopw [5, 6] (fun vk vq wr => ∃ (m q : Nat) (H : Nat → WrA), vk = .int .i64 (m : Int) ∧ vq = .int .i64 (q : Int) ∧ q ≤ n ∧ m + 1 ≤ q ∧ Hid (D6 F H q m) ∧ Hid (T6 wr b n H) ∧ Hid (OB b w wr)) (fun _ vq _ => n - (intOf vq).toNat)
    case atStart => exact ⟨k, k + 1, F, rfl, by first | rfl | simp, by omega, by omega, cs0, T1, O1⟩
    case round =>
      clear T1 O1 cs0 kw kq
      obtain ⟨m, q, H, rfl, rfl, q2, m2, hcs, hT, hO⟩ := hrel
      by_cases hq : q < n
      · have hqI : (q : Int) < (n : Int) := by omega
        have q0 : (0 : Int) ≤ (q : Int) := by omega
        have qw : IntKind.i64.wrap ((q : Int) + 1) = ((q + 1 : Nat) : Int) := IntWalk.i64_in _ (by omega)
        have aa := (hT.out.2 q hq).1
        rw [hcs.out.rest q (Nat.le_refl _)] at aa
        obtain ⟨bv, hbv⟩ : ∃ bv, isI (F q) = bv := ⟨_, rfl⟩
        have CH : Hid (∀ W, Calls Tryz.prog 20 #[wV (F q).1 (F q).2.1 (F q).2.2] W fun e w' => e = .returned (.bool (! bv)) ∧ Below W.heap.size W w') := fun W => by
          have := isNot_any (F q).1 (F q).2.1 (F q).2.2 W
          rw [show isI ((F q).1, (F q).2.1, (F q).2.2) = bv from hbv] at this
          exact this
        have bl : b < wr.heap.size := hT.out.1
        have bn : ¬ wr.heap.size = b := by omega
        have bn2 : ¬ b = wr.heap.size := by omega
        cases bv with
        | false =>
          have nx : Hid (D6 F H (q + 1) m) := hcs.out.skip hbv
          clear hbv hcs
          unfold WAt at aa
          unfold wV at CH
          generalize F q = x at aa CH
          obtain ⟨xp, xa, xc⟩ := x
          simp only at aa CH
          generalize xp.s.t.length = xn at aa CH
          obtain ⟨a1, a2, a3, a4, a5, a6⟩ := aa
          have BW : Hid (Below wr.heap.size wr (wr.alloc (.cells #[.string xp.s.m, .slice xa xn xc, .string xp.s.f, .int .i64 xp.tm, .int .u8 (xp.kd : Int), .int .i64 xp.n] 52))) := (Below.refl _ wr).alloc (Nat.le_refl _) _
          go_wp2_with fail
          generalize hw1 : wr.alloc (.cells #[.string xp.s.m, .slice xa xn xc, .string xp.s.f, .int .i64 xp.tm, .int .u8 (xp.kd : Int), .int .i64 xp.n] 52) = W1 at BW ⊢
          clear hw1
          refine Calls.mono (CH.out _) ?_
          rintro e w' ⟨rfl, BB⟩
          have B2 : Below wr.heap.size wr w' := BW.out.trans (BB.mono BW.out.size)
          have T2 : Hid (T6 w' b n H) := hT.out.below B2
          have O2 : Hid (OB b w w') := hO.out.trans (OB.below B2)
          clear B2 BB BW CH hT hO a1 a2 a3 a4 a5 a6
          go_wp2_with fail
          exact ⟨⟨m, q + 1, H, rfl, by first | rfl | simp, by omega, by omega, nx, T2, O2⟩, by simp [intOf]; omega⟩
        | true =>
          have nx : Hid (D6 F (upd6 H m (F q)) (q + 1) (m + 1)) := hcs.out.new (by omega) hbv
          clear hbv hcs
          unfold WAt at aa
          unfold wV at CH
          generalize F q = x at aa CH nx
          obtain ⟨xp, xa, xc⟩ := x
          simp only at aa CH
          have nxH : Hid (∀ W : World, T6 W b n H → T6 (put6 W b (m * 6) (xp, xa, xc)) b n (upd6 H m (xp, xa, xc))) := fun W hW => hW.set (by omega) _
          unfold put6 at nxH
          simp only at nxH
          have obH : Hid (∀ W : World, OB b W (put6 W b (m * 6) (xp, xa, xc))) := fun W => OB.put6 _ _ _ _
          unfold put6 at obH
          simp only at obH
          generalize upd6 H m (xp, xa, xc) = H2 at nx nxH
          generalize xp.s.t.length = xn at aa CH nxH obH
          obtain ⟨a1, a2, a3, a4, a5, a6⟩ := aa
          obtain ⟨W1, hw1⟩ : ∃ W1, W1 = wr.alloc (.cells #[.string xp.s.m, .slice xa xn xc, .string xp.s.f, .int .i64 xp.tm, .int .u8 (xp.kd : Int), .int .i64 xp.n] 52) := ⟨_, rfl⟩
          obtain ⟨K, hK⟩ : ∃ K, K = wr.heap.size := ⟨_, rfl⟩
          have BW : Hid (Below K wr W1) := by rw [hw1, hK]; exact (Below.refl _ wr).alloc (Nat.le_refl _) _
          have KW : Hid (K < W1.heap.size) := by show K < W1.heap.size; rw [hw1, hK]; simp
          have v1 : W1.cell? ⟨K, 0, none⟩ = some (.string xp.s.m) := by rw [hw1, hK]; simp [go_sem]
          have v2 : W1.cell? ⟨K, 1, none⟩ = some (.slice xa xn xc) := by rw [hw1, hK]; simp [go_sem]
          have v3 : W1.cell? ⟨K, 2, none⟩ = some (.string xp.s.f) := by rw [hw1, hK]; simp [go_sem]
          have v4 : W1.cell? ⟨K, 3, none⟩ = some (.int .i64 xp.tm) := by rw [hw1, hK]; simp [go_sem]
          have v5 : W1.cell? ⟨K, 4, none⟩ = some (.int .u8 (xp.kd : Int)) := by rw [hw1, hK]; simp [go_sem]
          have v6 : W1.cell? ⟨K, 5, none⟩ = some (.int .i64 xp.n) := by rw [hw1, hK]; simp [go_sem]
          have hKH : Hid (K = wr.heap.size) := hK
          have m0 : (0 : Int) ≤ (m : Int) := by omega
          have mI : (m : Int) < (n : Int) := by omega
          have mw : IntKind.i64.wrap ((m : Int) + 1) = ((m + 1 : Nat) : Int) := IntWalk.i64_in _ (by omega)
          go_wp2_with fail
          rw [← hw1, ← hK]
          clear hw1 hK a1 a2 a3 a4 a5 a6
          refine Calls.mono (CH.out _) ?_
          rintro e w' ⟨rfl, BB⟩
          have u1 : w'.cell? ⟨K, 0, none⟩ = some (.string xp.s.m) := by rw [BB.cell (p := ⟨K, 0, none⟩) KW.out]; exact v1
          have u2 : w'.cell? ⟨K, 1, none⟩ = some (.slice xa xn xc) := by rw [BB.cell (p := ⟨K, 1, none⟩) KW.out]; exact v2
          have u3 : w'.cell? ⟨K, 2, none⟩ = some (.string xp.s.f) := by rw [BB.cell (p := ⟨K, 2, none⟩) KW.out]; exact v3
          have u4 : w'.cell? ⟨K, 3, none⟩ = some (.int .i64 xp.tm) := by rw [BB.cell (p := ⟨K, 3, none⟩) KW.out]; exact v4
          have u5 : w'.cell? ⟨K, 4, none⟩ = some (.int .u8 (xp.kd : Int)) := by rw [BB.cell (p := ⟨K, 4, none⟩) KW.out]; exact v5
          have u6 : w'.cell? ⟨K, 5, none⟩ = some (.int .i64 xp.n) := by rw [BB.cell (p := ⟨K, 5, none⟩) KW.out]; exact v6
          have B2 : Below wr.heap.size wr w' := by
            have := BW.out.trans (BB.mono (Nat.le_of_lt KW.out))
            rw [hKH.out] at this; exact this
          have T2 : T6 w' b n H := hT.out.below B2
          have O2 : Hid (OB b w w') := hO.out.trans (OB.below B2)
          obtain ⟨⟨c1, c2, c3, c4, c5, c6⟩, f1, f2, f3, f4, f5, f6⟩ := T2.2 m (by omega)
          have T3 : Hid _ := nxH.out w' T2
          have O3 : Hid _ := O2.out.trans (obH.out w')
          clear B2 BB BW CH hT hO T2 O2 v1 v2 v3 v4 v5 v6 nxH obH hKH KW
          go_wp2_with fail
          exact ⟨⟨m + 1, q + 1, H2, by first | rfl | simp, by first | rfl | simp, by omega, by omega, nx, T3, O3⟩, by simp [intOf]; omega⟩
      · have hqI : ¬ (q : Int) < (n : Int) := by omega
        have mn : m < n := by omega
        have fin : Hid ((List.range m).map H = lft F n) := by
          have := hcs.out.is
          rw [show q = n by omega] at this
          exact this
        have m0 : (0 : Int) ≤ (m : Int) := by omega
        have mc : (m : Int) ≤ (cap : Int) := by omega
        have mI : (m : Int) ≤ (n : Int) := by omega
        have mne : ¬ cap = m := by omega
        have mne2 : ¬ m = cap := by omega
        have hcl : ∀ ty, (Builtin.clear_ #[22] ty #[.slice (some ⟨b, m * 6, none⟩) (n - m) (cap - m)]).run Tryz.prog wr = .ok (.tuple #[]) (wr.setCells b (m * 6) (noW6 (n - m))) := fun ty => run_clear6 wr ty b (m * 6) (n - m) (cap - m) (by omega)
          (fun j hj => (hT.out.some (j := m * 6 + j) (by omega)).1) (fun j hj => (hT.out.some (j := m * 6 + j) (by omega)).2)
        have hT2 : Hid (T6 (wr.setCells b (m * 6) (noW6 (n - m))) b m H) := hT.out.cleared (by omega) _
        have hO2 : Hid (OB b w (wr.setCells b (m * 6) (noW6 (n - m)))) := hO.out.trans (OB.sets _ _ _)
        clear hT hO hcs
        go_wp2_with fail
        go_ret
        first | exact ⟨m, rfl, by omega, H, hT2.out, fin.out, hO2.out⟩ | exact ⟨m, H, rfl, by omega, hT2.out, fin.out, hO2.out⟩
end Go.Proofs.YtepakgfdakeibaaGreatDoor.So.Wr
