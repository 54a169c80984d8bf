
import Derived.Test.YtepakgfdakeibaaGreatDoorBaB
import Derived.Test.YtepakgfdakeibaaGreatDoorSoE
import Derived.WalkKit
import Derived.BigQuiet
import Derived.BigRegion
import Derived.LoopTactic
import Derived.Below
import Derived.Deep.RegionHeld3
import Derived.WalkLawsBesides
import Derived.Laws.EntriesVeiled
namespace Go.Proofs.YtepakgfdakeibaaGreatDoor.So
open Go.RowKit
set_option linter.unusedVariables false
set_option linter.unusedSimpArgs false
theorem OB.drewB {b : Nat} {w w' : World} (h : OB b w w') : OB b w w'.drew := ⟨h.size, h.keep, h.same⟩
/-- a piece, as a slice of the row of places (at b0, n of them). -/
def pV (b0 n : Nat) (p : Pc) : Value := .slice (some ⟨b0, p.1, none⟩) (p.2 - p.1) (n - p.1)
/-- the row of places. -/
def PW (w : World) (b0 n : Nat) : Prop := b0 < w.heap.size ∧ ∀ i : Nat, i < n → w.cell? ⟨b0, i, none⟩ = some (.int .i64 (i : Int))
theorem PW.below {w w' : World} {b0 n : Nat} (h : PW w b0 n) (hb : Below w.heap.size w w') : PW w' b0 n := ⟨Nat.lt_of_lt_of_le h.1 hb.size, fun i hi => by rw [hb.cell (p := ⟨b0, i, none⟩) h.1]; exact h.2 i hi⟩
/-- what the function that sorted is handed answers. -/
def AhA (w0 : World) (f : Nat) (cap : Array Value) (n : Nat) (ah : Nat → Nat → Bool) : Prop := ∀ (a b : Nat) (W : World), a < n → b < n → Below w0.heap.size w0 W → Calls Tryz.prog f (#[.int .i64 (a : Int), .int .i64 (b : Int)] ++ cap) W fun e w' => e = .returned (.bool (ah a b)) ∧ Below W.heap.size W w'
set_option maxRecDepth 100000 in
set_option maxHeartbeats 4000000 in
/-- by their first places. -/
theorem first_any (w0 : World) (b0 n P1 P2 : Nat) (ah : Nat → Nat → Bool) (hA : AhA w0 40 #[.pointer (some ⟨P1, 0, none⟩)] n ah) (hw : PW w0 b0 n) (hP : P2 < w0.heap.size) (hc : w0.cell? ⟨P2, 0, none⟩ = some (.func (.func 40) #[] #[.pointer (some ⟨P1, 0, none⟩)]))
    (p q : Pc) (W : World) (hp : p.1 < p.2) (hpn : p.2 ≤ n) (hq : q.1 < q.2) (hqn : q.2 ≤ n) (hn : n ≤ 4611686018427387904) (hB : Below w0.heap.size w0 W) :
    Calls Tryz.prog 69 #[pV b0 n p, pV b0 n q, .pointer (some ⟨P2, 0, none⟩)] W fun e w' => e = .returned (.bool (ah p.1 q.1)) ∧ Below W.heap.size W w' := by
  obtain ⟨x, x2⟩ := p
  obtain ⟨y, y2⟩ := q
  simp only at hp hpn hq hqn ⊢
  have a0 : W.cell? ⟨P2, 0, none⟩ = some (.func (.func 40) #[] #[.pointer (some ⟨P1, 0, none⟩)]) := by rw [hB.cell (p := ⟨P2, 0, none⟩) hP]; exact hc
  have a1 : W.cell? ⟨b0, x, none⟩ = some (.int .i64 (x : Int)) := by rw [hB.cell (p := ⟨b0, x, none⟩) hw.1]; exact hw.2 x (by omega)
  have b1 : W.cell? ⟨b0, y, none⟩ = some (.int .i64 (y : Int)) := by rw [hB.cell (p := ⟨b0, y, none⟩) hw.1]; exact hw.2 y (by omega)
  have CH : Hid (∀ W', Below w0.heap.size w0 W' → Calls Tryz.prog 40 #[.int .i64 (x : Int), .int .i64 (y : Int), .pointer (some ⟨P1, 0, none⟩)] W' fun e w' => e = .returned (.bool (ah x y)) ∧ Below W'.heap.size W' w') := fun W' h => hA x y W' (by omega) (by omega) h
  have bl : b0 < W.heap.size := Nat.lt_of_lt_of_le hw.1 hB.size
  have pl : P2 < W.heap.size := Nat.lt_of_lt_of_le hP hB.size
  have l1 : (0 : Int) < ((x2 - x : Nat) : Int) := by omega
  have l2 : (0 : Int) < ((y2 - y : Nat) : Int) := by omega
  have l3 : 0 < x2 - x := by omega
  have l4 : 0 < y2 - y := by omega
  have BH : Hid (Below w0.heap.size w0 W) := hB
  generalize ah x y = bv at CH ⊢
  unfold pV
  simp only
  generalize x2 - x = lx at *
  generalize y2 - y = ly at *
  generalize n - x = cx at *
  generalize n - y = cy at *
  clear hA hw hc hB hp hpn hq hqn hn hP
  go_enter Tryz.func69, Tryz.ntmps69
  go_wp2_with fail
  refine wp_region_noPanic ?_
  refine wp_region_held_drew (S := fun W => (W.cell? ⟨P2, 0, none⟩ = some (.func (.func 40) #[] #[.pointer (some ⟨P1, 0, none⟩)]) ∧ W.cell? ⟨b0, x, none⟩ = some (.int .i64 (x : Int))) ∧ W.cell? ⟨b0, y, none⟩ = some (.int .i64 (y : Int))) (by kernel_rfl) ⟨⟨a0, a1⟩, b1⟩ (fun hHeld => ?_)
  refine zT 0 (v := ?_) rfl ?_ ?_
  rotate_left 1
  · (intro w0 hSw; (try dsimp only at hSw); obtain ⟨⟨s1, s2⟩, s3⟩ := hSw; go_simp; try with_reducible rfl)
  (try simp only [z1, z2, z3]); (try simp only [Act.put, z4, z5, z6])
  refine zT 1 (v := ?_) rfl ?_ ?_
  rotate_left 1
  · (intro w0 hSw; (try dsimp only at hSw); obtain ⟨⟨s1, s2⟩, s3⟩ := hSw; go_simp; try with_reducible rfl)
  (try simp only [z1, z2, z3]); (try simp only [Act.put, z4, z5, z6])
  refine zT 2 (v := ?_) rfl ?_ ?_
  rotate_left 1
  · (intro w0 hSw; (try dsimp only at hSw); obtain ⟨⟨s1, s2⟩, s3⟩ := hSw; go_simp; try with_reducible rfl)
  (try simp only [z1, z2, z3]); (try simp only [Act.put, z4, z5, z6])
  refine zT 3 (v := ?_) rfl ?_ ?_
  rotate_left 1
  · (intro w0 hSw; (try dsimp only at hSw); obtain ⟨⟨s1, s2⟩, s3⟩ := hSw; go_simp; try with_reducible rfl)
  (try simp only [z1, z2, z3]); (try simp only [Act.put, z4, z5, z6])
  refine zT 4 (v := ?_) rfl ?_ ?_
  rotate_left 1
  · (intro w0 hSw; (try dsimp only at hSw); obtain ⟨⟨s1, s2⟩, s3⟩ := hSw; go_simp; try with_reducible rfl)
  (try simp only [z1, z2, z3]); (try simp only [Act.put, z4, z5, z6])
  refine zT 5 (v := ?_) rfl ?_ ?_
  rotate_left 1
  · (intro w0 hSw; (try dsimp only at hSw); obtain ⟨⟨s1, s2⟩, s3⟩ := hSw; go_simp; try with_reducible rfl)
  (try simp only [z1, z2, z3]); (try simp only [Act.put, z4, z5, z6])
  refine zT 6 (v := ?_) rfl ?_ ?_
  rotate_left 1
  · (intro w0 hSw; (try dsimp only at hSw); obtain ⟨⟨s1, s2⟩, s3⟩ := hSw; go_simp; try with_reducible rfl)
  (try simp only [z1, z2, z3]); (try simp only [Act.put, z4, z5, z6])
  refine wpAnyH_ready (rs := [7]) (by kernel_rfl) (by simp) ?_
  refine AllReadyH.cons (o := _) rfl (fun K hK => ?_) AllReadyH.nil
  go_simp
  refine Calls.mono (CH.out _ (show Below w0.heap.size w0 W.drew from BH.out.drew)) ?_
  rintro e w' ⟨rfl, BB⟩
  try dsimp only
  refine hK _ _ ?_ (fun hHeld => ?_)
  · exact ⟨⟨by rw [BB.cell (p := ⟨P2, 0, none⟩) pl]; exact a0, by rw [BB.cell (p := ⟨b0, x, none⟩) bl]; exact a1⟩, by rw [BB.cell (p := ⟨b0, y, none⟩) bl]; exact b1⟩
  clear hK K
  (try simp only [z1, z2, z3]); (try simp only [Act.put, z4, z5, z6])
  refine zT 8 (v := ?_) rfl ?_ ?_
  rotate_left 1
  · (intro w0 hSw; (try dsimp only at hSw); obtain ⟨⟨s1, s2⟩, s3⟩ := hSw; go_simp; try with_reducible rfl)
  (try simp only [z1, z2, z3]); (try simp only [Act.put, z4, z5, z6])
  refine wpAnyH_done (by kernel_rfl) ?_ _
  refine NoPanic.normal ?_
  have fin : Hid (Below W.heap.size W w') := (show Below W.heap.size W W.drew from (Below.refl _ W).drew).trans BB
  clear BB BH CH a0 a1 b1
  go_wp2_with fail
  go_ret
  exact ⟨rfl, fin.out⟩
theorem bdrewB {B : Nat} {a w : World} (h : Below B a w) : ∀ q, Below B a (w.drewN q)
  | 0 => h
  | q + 1 => (bdrewB h q).drew
/-- what sink's function answers of two pieces. -/
def FiA (w0 : World) (b0 n P2 : Nat) (ah : Nat → Nat → Bool) : Prop := ∀ (p q : Pc) (W : World), p.1 < p.2 → p.2 ≤ n → q.1 < q.2 → q.2 ≤ n → Below w0.heap.size w0 W → Calls Tryz.prog 69 #[pV b0 n p, pV b0 n q, .pointer (some ⟨P2, 0, none⟩)] W fun e w' => e = .returned (.bool (ah p.1 q.1)) ∧ Below W.heap.size W w'
/-- the heap: pieces as slices, at hb. -/
def HR (w : World) (hb m b0 n : Nat) (h : Nat → Pc) : Prop := hb < w.heap.size ∧ ∀ i, i < m → w.cell? ⟨hb, i, none⟩ = some (pV b0 n (h i)) ∧ w.frozen? ⟨hb, i, none⟩ = false
theorem HR.below {w w' : World} {hb m b0 n : Nat} {h : Nat → Pc} (r : HR w hb m b0 n h) (hB : Below w.heap.size w w') : HR w' hb m b0 n h := ⟨Nat.lt_of_lt_of_le r.1 hB.size, fun i hi => by
  rw [hB.cell (p := ⟨hb, i, none⟩) r.1, hB.frozen (p := ⟨hb, i, none⟩) r.1]; exact r.2 i hi⟩
theorem HR.set {w : World} {hb m b0 n : Nat} {h : Nat → Pc} (r : HR w hb m b0 n h) {k : Nat} (hk : k < m) (p : Pc) : HR (w.setCell ⟨hb, k, none⟩ (pV b0 n p)) hb m b0 n (fun i => if i = k then p else h i) := by
  refine ⟨by simpa using r.1, fun i hi => ⟨?_, by rw [World.frozen?_setCell]; exact (r.2 i hi).2⟩⟩
  by_cases e : i = k
  · subst e; rw [World.cell?_setCell_same _ _ _ (r.2 i hi).1]; simp
  · rw [World.cell?_setCell_other _ _ _ _ (by intro q; injection q; omega), (r.2 i hi).1]; simp [e]
theorem HR.congr {w : World} {hb m b0 n : Nat} {h g : Nat → Pc} (r : HR w hb m b0 n h) (e : ∀ i, i < m → h i = g i) : HR w hb m b0 n g := ⟨r.1, fun i hi => by rw [← e i hi]; exact r.2 i hi⟩
theorem HR.swap {w : World} {hb m b0 n : Nat} {h : Nat → Pc} (r : HR w hb m b0 n h) {i j : Nat} (hi : i < m) (hj : j < m) : HR ((w.setCell ⟨hb, i, none⟩ (pV b0 n (h j))).setCell ⟨hb, j, none⟩ (pV b0 n (h i))) hb m b0 n (sw h i j) :=
  ((r.set hi (h j)).set hj (h i)).congr fun k hk => by
    unfold sw
    by_cases e : k = i <;> by_cases f : k = j <;> simp_all
/-- what stands while sink goes on. -/
structure SK1 (w0 w : World) (hb m b0 n r : Nat) (ah : Nat → Nat → Bool) (h : Nat → Pc) (k : Nat) (g : Nat → Pc) (wr : World) : Prop where
  pr : Pr 0 m h g
  hx : HX (hl ah) r k m g
  hr : HR wr hb m b0 n g
  ob : OB hb w wr
  bl : Below w0.heap.size w0 wr
theorem SK1.below {w0 w : World} {hb m b0 n r k : Nat} {ah : Nat → Nat → Bool} {h g : Nat → Pc} {wr wx : World} (s : SK1 w0 w hb m b0 n r ah h k g wr) (hB : Below wr.heap.size wr wx) : SK1 w0 w hb m b0 n r ah h k g wx := ⟨s.pr, s.hx, s.hr.below hB, s.ob.trans (OB.below hB), s.bl.trans (hB.mono s.bl.size)⟩
theorem SK1.step {w0 w : World} {hb m b0 n r k c : Nat} {ah : Nat → Nat → Bool} {h g : Nat → Pc} {wr : World} (o : AO ah n) (s : SK1 w0 w hb m b0 n r ah h k g wr) (hB : w0.heap.size ≤ hb) (hrk : r ≤ k) (hkm : k < m) (hc : c < m) (hk : c = 2 * k + 1 ∨ c = 2 * k + 2) (a1 : hl ah (g c) (g k) = true)
    (a2 : ∀ d, d < m → (d = 2 * k + 1 ∨ d = 2 * k + 2) → d ≠ c → hl ah (g c) (g d) = true) : SK1 w0 w hb m b0 n r ah h c (sw g k c) ((wr.setCell ⟨hb, k, none⟩ (pV b0 n (g c))).setCell ⟨hb, c, none⟩ (pV b0 n (g k))) :=
  ⟨s.pr.trans (sw_pr g (Nat.zero_le _) hkm (Nat.zero_le _) hc), s.hx.step (fun x y z => o.tr x.1 y.1 z.1) hrk hc hk a1 a2, s.hr.swap hkm hc, (s.ob.trans (OB.set _ _ _)).trans (OB.set _ _ _), (s.bl.setCell (p := ⟨hb, k, none⟩) hB _).setCell (p := ⟨hb, c, none⟩) hB _⟩
set_option maxRecDepth 100000 in
set_option maxHeartbeats 8000000 in
theorem sink_any (w0 : World) (b0 n P2 : Nat) (ah : Nat → Nat → Bool) (o : AO ah n) (hF : FiA w0 b0 n P2 ah) (hb m cap k r : Nat) (h : Nat → Pc) (w : World) (hR : HR w hb m b0 n h) (hB : Below w0.heap.size w0 w) (hbB : w0.heap.size ≤ hb) (ps : Ps ah n m h) (hx : HX (hl ah) r k m h) (hrk : r ≤ k) (hkm : k ≤ m) (hm : m ≤ 1152921504606846976) :
    Calls Tryz.prog 70 #[.slice (some ⟨hb, 0, none⟩) m cap, .int .i64 (k : Int), .func (.func 69) #[] #[.pointer (some ⟨P2, 0, none⟩)]] w fun e w' => e = .returned undef ∧ ∃ g, Pr 0 m h g ∧ HP (hl ah) r m g ∧ HR w' hb m b0 n g ∧ OB hb w w' := by
  have S0 : Hid (SK1 w0 w hb m b0 n r ah h k h w) := ⟨Pr.refl _ _ _, hx, hR, OB.refl _ _, hB⟩
  have hFH : Hid (FiA w0 b0 n P2 ah) := hF
  have psH : Hid (Ps ah n m h) := ps
  clear hR hB hx hF ps
  go_enter Tryz.func70, Tryz.ntmps70
  go_wp2_with fail
  go_loopw [1] (fun vr wr => ∃ (k : Nat) (g : Nat → Pc), vr = .int .i64 (k : Int) ∧ r ≤ k ∧ k ≤ m ∧ Hid (SK1 w0 w hb m b0 n r ah h k g wr)) (fun vr _ => m - (intOf vr).toNat)
  case atStart => exact ⟨k, h, rfl, hrk, hkm, S0⟩
  case round =>
    clear S0 hrk hkm
    obtain ⟨k, g, rfl, hrk, hkm, hS⟩ := hrel
    have u1 : IntKind.i64.wrap (2 * (k : Int)) = 2 * (k : Int) := IntWalk.i64_in _ (by omega)
    obtain ⟨d, hd⟩ : ∃ d, d = 2 * k + 1 := ⟨_, rfl⟩
    have u2 : IntKind.i64.wrap (2 * (k : Int) + 1) = (d : Int) := by rw [IntWalk.i64_in _ (by omega)]; omega
    have hdH : Hid (d = 2 * k + 1) := hd
    have hkd : k < d := by omega
    have hdb : d ≤ 2 * m + 1 := by omega
    clear hd
    by_cases hdm : d < m
    · have hdI : ¬ (d : Int) ≥ (m : Int) := by omega
      have hdJ : (d : Int) < (m : Int) := by omega
      have d0 : (0 : Int) ≤ (d : Int) := by omega
      have k0 : (0 : Int) ≤ (k : Int) := by omega
      have kJ : (k : Int) < (m : Int) := by omega
      obtain ⟨c, hc⟩ : ∃ c, c = d + 1 := ⟨_, rfl⟩
      have u3 : IntKind.i64.wrap ((d : Int) + 1) = (c : Int) := by rw [IntWalk.i64_in _ (by omega)]; omega
      have hcH : Hid (c = d + 1) := hc
      have hdc : ¬ d = c := by omega
      have hkc : k < c := by omega
      clear hc
      have runs : ∀ i, i < m → (g i).1 < (g i).2 ∧ (g i).2 ≤ n := fun i hi => by
        have := (psH.out.pr hS.out.pr).run i hi
        exact ⟨this.1.1, this.2⟩
      have ttH : Hid (Tt (hl ah) m g) := (psH.out.pr hS.out.pr).tt o
      by_cases hcm : c < m
      · have hcI : (c : Int) < (m : Int) := by omega
        have hcd : decide ((c : Int) < (m : Int)) = true := decide_eq_true hcI
        have c0 : (0 : Int) ≤ (c : Int) := by omega
        have CH : Hid (∀ W, Below w0.heap.size w0 W → Calls Tryz.prog 69 #[pV b0 n (g c), pV b0 n (g d), .pointer (some ⟨P2, 0, none⟩)] W fun e w' => e = .returned (.bool (hl ah (g c) (g d))) ∧ Below W.heap.size W w') := fun W hW => hFH.out (g c) (g d) W (runs c hcm).1 (runs c hcm).2 (runs d hdm).1 (runs d hdm).2 hW
        have a1 := (hS.out.hr.2 c hcm).1
        have b1 := (hS.out.hr.2 d hdm).1
        have bl : hb < wr.heap.size := hS.out.hr.1
        have hbv : Hid (hl ah (g c) (g d) = hl ah (g c) (g d)) := rfl
        have CF : Hid (∀ e, e < m → ∀ W, Below w0.heap.size w0 W → Calls Tryz.prog 69 #[pV b0 n (g k), pV b0 n (g e), .pointer (some ⟨P2, 0, none⟩)] W fun e' w' => e' = .returned (.bool (hl ah (g k) (g e))) ∧ Below W.heap.size W w') := fun e he W hW => hFH.out (g k) (g e) W (runs k (by omega)).1 (runs k (by omega)).2 (runs e he).1 (runs e he).2 hW
        clear runs
        obtain ⟨bv, hbv2⟩ : ∃ bv, hl ah (g c) (g d) = bv := ⟨_, rfl⟩
        rw [hbv2] at CH
        have hbH : Hid (hl ah (g c) (g d) = bv) := hbv2
        clear hbv hbv2
        obtain ⟨ax, lx, cx, hX⟩ : ∃ ax lx cx, pV b0 n (g c) = .slice ax lx cx := ⟨_, _, _, rfl⟩
        obtain ⟨ay, ly, cy, hY⟩ : ∃ ay ly cy, pV b0 n (g d) = .slice ay ly cy := ⟨_, _, _, rfl⟩
        rw [hX] at a1 CH
        rw [hY] at b1 CH
        clear hX hY
        cases bv with
        | true =>
          go_wp2_with fail
          refine wp_region_noPanic ?_
          refine wp_region_held_drew (S := fun W => W.cell? ⟨hb, c, none⟩ = some (.slice ax lx cx) ∧ W.cell? ⟨hb, d, none⟩ = some (.slice ay ly cy)) (by kernel_rfl) ⟨a1, b1⟩ (fun hHeld => ?_)
          refine zT 0 (v := ?_) rfl ?_ ?_
          rotate_left 1
          · (intro w0 hSw; (try dsimp only at hSw); obtain ⟨s1, s2⟩ := hSw; go_simp; try with_reducible rfl)
          (try simp only [z1, z2, z3]); (try simp only [Act.put, z4, z5, z6])
          refine zT 1 (v := ?_) rfl ?_ ?_
          rotate_left 1
          · (intro w0 hSw; (try dsimp only at hSw); obtain ⟨s1, s2⟩ := hSw; go_simp; try with_reducible rfl)
          (try simp only [z1, z2, z3]); (try simp only [Act.put, z4, z5, z6])
          refine zT 2 (v := ?_) rfl ?_ ?_
          rotate_left 1
          · (intro w0 hSw; (try dsimp only at hSw); obtain ⟨s1, s2⟩ := hSw; go_simp; try with_reducible rfl)
          (try simp only [z1, z2, z3]); (try simp only [Act.put, z4, z5, z6])
          refine zT 3 (v := ?_) rfl ?_ ?_
          rotate_left 1
          · (intro w0 hSw; (try dsimp only at hSw); obtain ⟨s1, s2⟩ := hSw; go_simp; try with_reducible rfl)
          (try simp only [z1, z2, z3]); (try simp only [Act.put, z4, z5, z6])
          refine zT 4 (v := ?_) rfl ?_ ?_
          rotate_left 1
          · (intro w0 hSw; (try dsimp only at hSw); obtain ⟨s1, s2⟩ := hSw; go_simp; try with_reducible rfl)
          (try simp only [z1, z2, z3]); (try simp only [Act.put, z4, z5, z6])
          refine zT 5 (v := ?_) rfl ?_ ?_
          rotate_left 1
          · (intro w0 hSw; (try dsimp only at hSw); obtain ⟨s1, s2⟩ := hSw; go_simp; try with_reducible rfl)
          (try simp only [z1, z2, z3]); (try simp only [Act.put, z4, z5, z6])
          refine zT 6 (v := ?_) rfl ?_ ?_
          rotate_left 1
          · (intro w0 hSw; (try dsimp only at hSw); obtain ⟨s1, s2⟩ := hSw; go_simp; try with_reducible rfl)
          (try simp only [z1, z2, z3]); (try simp only [Act.put, z4, z5, z6])
          refine zT 7 (v := ?_) rfl ?_ ?_
          rotate_left 1
          · (intro w0 hSw; (try dsimp only at hSw); obtain ⟨s1, s2⟩ := hSw; go_simp; try with_reducible rfl)
          (try simp only [z1, z2, z3]); (try simp only [Act.put, z4, z5, z6])
          refine zT 8 (v := ?_) rfl ?_ ?_
          rotate_left 1
          · (intro w0 hSw; (try dsimp only at hSw); obtain ⟨s1, s2⟩ := hSw; go_simp; try with_reducible rfl)
          (try simp only [z1, z2, z3]); (try simp only [Act.put, z4, z5, z6])
          refine zT 9 (v := ?_) rfl ?_ ?_
          rotate_left 1
          · (intro w0 hSw; (try dsimp only at hSw); obtain ⟨s1, s2⟩ := hSw; go_simp; try with_reducible rfl)
          (try simp only [z1, z2, z3]); (try simp only [Act.put, z4, z5, z6])
          refine zT 10 (v := ?_) rfl ?_ ?_
          rotate_left 1
          · (intro w0 hSw; (try dsimp only at hSw); obtain ⟨s1, s2⟩ := hSw; go_simp; try with_reducible rfl)
          (try simp only [z1, z2, z3]); (try simp only [Act.put, z4, z5, z6])
          refine zT 11 (v := ?_) rfl ?_ ?_
          rotate_left 1
          · (intro w0 hSw; (try dsimp only at hSw); obtain ⟨s1, s2⟩ := hSw; go_simp; try with_reducible rfl)
          (try simp only [z1, z2, z3]); (try simp only [Act.put, z4, z5, z6])
          refine zT 12 (v := ?_) rfl ?_ ?_
          rotate_left 1
          · (intro w0 hSw; (try dsimp only at hSw); obtain ⟨s1, s2⟩ := hSw; go_simp; try with_reducible rfl)
          (try simp only [z1, z2, z3]); (try simp only [Act.put, z4, z5, z6])
          refine zT 13 (v := ?_) rfl ?_ ?_
          rotate_left 1
          · (intro w0 hSw; (try dsimp only at hSw); obtain ⟨s1, s2⟩ := hSw; go_simp; try with_reducible rfl)
          (try simp only [z1, z2, z3]); (try simp only [Act.put, z4, z5, z6])
          refine zT 14 (v := ?_) rfl ?_ ?_
          rotate_left 1
          · (intro w0 hSw; (try dsimp only at hSw); obtain ⟨s1, s2⟩ := hSw; go_simp; try with_reducible rfl)
          (try simp only [z1, z2, z3]); (try simp only [Act.put, z4, z5, z6])
          refine zT 15 (v := ?_) rfl ?_ ?_
          rotate_left 1
          · (intro w0 hSw; (try dsimp only at hSw); obtain ⟨s1, s2⟩ := hSw; go_simp; try with_reducible rfl)
          (try simp only [z1, z2, z3]); (try simp only [Act.put, z4, z5, z6])
          refine wpAnyH_ready (rs := [16]) (by kernel_rfl) (by simp) ?_
          refine AllReadyH.cons (o := _) rfl (fun K hK => ?_) AllReadyH.nil
          go_simp
          refine Calls.mono (CH.out _ (show Below w0.heap.size w0 wr.drew from hS.out.bl.drew)) ?_
          rintro e w' ⟨rfl, BB⟩
          try dsimp only
          refine hK _ _ ?_ (fun hHeld => ?_)
          · exact ⟨by rw [BB.cell (p := ⟨hb, c, none⟩) bl]; exact a1, by rw [BB.cell (p := ⟨hb, d, none⟩) bl]; exact b1⟩
          clear hK K
          (try simp only [z1, z2, z3]); (try simp only [Act.put, z4, z5, z6])
          refine zT 17 (v := ?_) rfl ?_ ?_
          rotate_left 1
          · (intro w0 hSw; (try dsimp only at hSw); obtain ⟨s1, s2⟩ := hSw; go_simp; try with_reducible rfl)
          (try simp only [z1, z2, z3]); (try simp only [Act.put, z4, z5, z6])
          refine wpAnyH_done (by kernel_rfl) ?_ _
          refine NoPanic.normal ?_
          have hS2 : Hid (SK1 w0 w hb m b0 n r ah h k g w') := hS.out.below ((show Below wr.heap.size wr wr.drew from (Below.refl _ wr).drew).trans BB)
          have hoth : Hid (∀ z, z < m → (z = 2 * k + 1 ∨ z = 2 * k + 2) → z ≠ c → hl ah (g c) (g z) = true) := fun z z1 z2 z3 => by
            have e : z = d := by have := hdH.out; have := hcH.out; omega
            rw [e]; exact hbH.out
          have hkid : Hid (c = 2 * k + 1 ∨ c = 2 * k + 2) := by show _ ∨ _; have := hdH.out; have := hcH.out; omega
          clear a1 b1 BB CH hbH hS bl hHeld
          go_wp2_with fail
          have a1 := (hS2.out.hr.2 k (by omega)).1
          have a2 := (hS2.out.hr.2 k (by omega)).2
          have b1 := (hS2.out.hr.2 c hcm).1
          have b2 := (hS2.out.hr.2 c hcm).2
          have bl : hb < w'.heap.size := hS2.out.hr.1
          have CH := CF.out c hcm
          obtain ⟨bv, hbv⟩ : ∃ bv, hl ah (g k) (g c) = bv := ⟨_, rfl⟩
          rw [hbv] at CH
          have hbH : Hid (hl ah (g k) (g c) = bv) := hbv
          have hsw : Hid (hl ah (g c) (g k) = true → ∀ W, SK1 w0 w hb m b0 n r ah h k g W → SK1 w0 w hb m b0 n r ah h c (sw g k c) ((W.setCell ⟨hb, k, none⟩ (pV b0 n (g c))).setCell ⟨hb, c, none⟩ (pV b0 n (g k)))) := fun q W s => s.step o hbB hrk (by omega) hcm hkid.out q hoth.out
          have htt : Hid (bv = false → hl ah (g c) (g k) = true) := fun q => (ttH.out c k hcm (by omega) (by omega)).resolve_right (by rw [hbH.out, q]; simp)
          have hdone : Hid (bv = true → HP (hl ah) r m g) := fun q => hS2.out.hx.done (fun z z1 z2 => by
            by_cases e : z = c
            · rw [e, hbH.out]; exact q
            · have h1 : ah (g k).1 (g c).1 = true := by have := hbH.out; rw [q] at this; exact this
              exact o.tr _ _ _ h1 (hoth.out z z1 z2 e))
          have CH2 : Hid _ := CH
          clear hbv CH CF hoth hkid hbH
          obtain ⟨bx, mx, ex, hX⟩ : ∃ ax lx cx, pV b0 n (g k) = .slice ax lx cx := ⟨_, _, _, rfl⟩
          obtain ⟨vy, my, ey, hY⟩ : ∃ ay ly cy, pV b0 n (g c) = .slice ay ly cy := ⟨_, _, _, rfl⟩
          rw [hX] at a1 CH2 hsw
          rw [hY] at b1 CH2 hsw
          clear hX hY
          have eI : (c : Int) < (m : Int) := by omega
          have e0 : (0 : Int) ≤ (c : Int) := by omega
          have kE : ¬ k = c := by omega
          have Ek : ¬ c = k := by omega
          cases bv with
          | true =>
            refine wp_region_noPanic ?_
            refine wp_region_held_drew (S := fun W => W.cell? ⟨hb, k, none⟩ = some (.slice bx mx ex) ∧ W.cell? ⟨hb, c, none⟩ = some (.slice vy my ey)) (by kernel_rfl) ⟨a1, b1⟩ (fun hHeld => ?_)
            refine zT 0 (v := ?_) rfl ?_ ?_
            rotate_left 1
            · (intro w0 hSw; (try dsimp only at hSw); obtain ⟨s1, s2⟩ := hSw; go_simp; try with_reducible rfl)
            (try simp only [z1, z2, z3]); (try simp only [Act.put, z4, z5, z6])
            refine zT 1 (v := ?_) rfl ?_ ?_
            rotate_left 1
            · (intro w0 hSw; (try dsimp only at hSw); obtain ⟨s1, s2⟩ := hSw; go_simp; try with_reducible rfl)
            (try simp only [z1, z2, z3]); (try simp only [Act.put, z4, z5, z6])
            refine zT 2 (v := ?_) rfl ?_ ?_
            rotate_left 1
            · (intro w0 hSw; (try dsimp only at hSw); obtain ⟨s1, s2⟩ := hSw; go_simp; try with_reducible rfl)
            (try simp only [z1, z2, z3]); (try simp only [Act.put, z4, z5, z6])
            refine zT 3 (v := ?_) rfl ?_ ?_
            rotate_left 1
            · (intro w0 hSw; (try dsimp only at hSw); obtain ⟨s1, s2⟩ := hSw; go_simp; try with_reducible rfl)
            (try simp only [z1, z2, z3]); (try simp only [Act.put, z4, z5, z6])
            refine zT 4 (v := ?_) rfl ?_ ?_
            rotate_left 1
            · (intro w0 hSw; (try dsimp only at hSw); obtain ⟨s1, s2⟩ := hSw; go_simp; try with_reducible rfl)
            (try simp only [z1, z2, z3]); (try simp only [Act.put, z4, z5, z6])
            refine zT 5 (v := ?_) rfl ?_ ?_
            rotate_left 1
            · (intro w0 hSw; (try dsimp only at hSw); obtain ⟨s1, s2⟩ := hSw; go_simp; try with_reducible rfl)
            (try simp only [z1, z2, z3]); (try simp only [Act.put, z4, z5, z6])
            refine zT 6 (v := ?_) rfl ?_ ?_
            rotate_left 1
            · (intro w0 hSw; (try dsimp only at hSw); obtain ⟨s1, s2⟩ := hSw; go_simp; try with_reducible rfl)
            (try simp only [z1, z2, z3]); (try simp only [Act.put, z4, z5, z6])
            refine zT 7 (v := ?_) rfl ?_ ?_
            rotate_left 1
            · (intro w0 hSw; (try dsimp only at hSw); obtain ⟨s1, s2⟩ := hSw; go_simp; try with_reducible rfl)
            (try simp only [z1, z2, z3]); (try simp only [Act.put, z4, z5, z6])
            refine zT 8 (v := ?_) rfl ?_ ?_
            rotate_left 1
            · (intro w0 hSw; (try dsimp only at hSw); obtain ⟨s1, s2⟩ := hSw; go_simp; try with_reducible rfl)
            (try simp only [z1, z2, z3]); (try simp only [Act.put, z4, z5, z6])
            refine wpAnyH_ready (rs := [9]) (by kernel_rfl) (by simp) ?_
            refine AllReadyH.cons (o := _) rfl (fun K hK => ?_) AllReadyH.nil
            go_simp
            refine Calls.mono (CH2.out _ (show Below w0.heap.size w0 w'.drew from hS2.out.bl.drew)) ?_
            rintro e w'' ⟨rfl, BB⟩
            try dsimp only
            refine hK _ _ ?_ (fun hHeld => ?_)
            · exact ⟨by rw [BB.cell (p := ⟨hb, k, none⟩) bl]; exact a1, by rw [BB.cell (p := ⟨hb, c, none⟩) bl]; exact b1⟩
            clear hK K
            (try simp only [z1, z2, z3]); (try simp only [Act.put, z4, z5, z6])
            refine wpAnyH_done (by kernel_rfl) ?_ _
            refine NoPanic.normal ?_
            have hS3 : Hid (SK1 w0 w hb m b0 n r ah h k g w'') := hS2.out.below ((show Below w'.heap.size w' w'.drew from (Below.refl _ w').drew).trans BB)
            have fin : Hid (∃ g, Pr 0 m h g ∧ HP (hl ah) r m g ∧ HR w'' hb m b0 n g ∧ OB hb w w'') := ⟨g, hS3.out.pr, hdone.out rfl, hS3.out.hr, hS3.out.ob⟩
            clear a1 a2 b1 b2 BB CH2 hS2 hS3 hsw htt hdone bl hHeld
            go_wp2_with fail
            first | go_end0 | (simp only [Exit.inBlock, Exit.then]; refine bodyPost_ret (results_none rfl _ _ _) rfl ?_) | refine bodyPost_ret (results_none rfl _ _ _) rfl ?_
            exact ⟨rfl, fin.out⟩
          | false =>
            refine wp_region_noPanic ?_
            refine wp_region_held_drew (S := fun W => W.cell? ⟨hb, k, none⟩ = some (.slice bx mx ex) ∧ W.cell? ⟨hb, c, none⟩ = some (.slice vy my ey)) (by kernel_rfl) ⟨a1, b1⟩ (fun hHeld => ?_)
            refine zT 0 (v := ?_) rfl ?_ ?_
            rotate_left 1
            · (intro w0 hSw; (try dsimp only at hSw); obtain ⟨s1, s2⟩ := hSw; go_simp; try with_reducible rfl)
            (try simp only [z1, z2, z3]); (try simp only [Act.put, z4, z5, z6])
            refine zT 1 (v := ?_) rfl ?_ ?_
            rotate_left 1
            · (intro w0 hSw; (try dsimp only at hSw); obtain ⟨s1, s2⟩ := hSw; go_simp; try with_reducible rfl)
            (try simp only [z1, z2, z3]); (try simp only [Act.put, z4, z5, z6])
            refine zT 2 (v := ?_) rfl ?_ ?_
            rotate_left 1
            · (intro w0 hSw; (try dsimp only at hSw); obtain ⟨s1, s2⟩ := hSw; go_simp; try with_reducible rfl)
            (try simp only [z1, z2, z3]); (try simp only [Act.put, z4, z5, z6])
            refine zT 3 (v := ?_) rfl ?_ ?_
            rotate_left 1
            · (intro w0 hSw; (try dsimp only at hSw); obtain ⟨s1, s2⟩ := hSw; go_simp; try with_reducible rfl)
            (try simp only [z1, z2, z3]); (try simp only [Act.put, z4, z5, z6])
            refine zT 4 (v := ?_) rfl ?_ ?_
            rotate_left 1
            · (intro w0 hSw; (try dsimp only at hSw); obtain ⟨s1, s2⟩ := hSw; go_simp; try with_reducible rfl)
            (try simp only [z1, z2, z3]); (try simp only [Act.put, z4, z5, z6])
            refine zT 5 (v := ?_) rfl ?_ ?_
            rotate_left 1
            · (intro w0 hSw; (try dsimp only at hSw); obtain ⟨s1, s2⟩ := hSw; go_simp; try with_reducible rfl)
            (try simp only [z1, z2, z3]); (try simp only [Act.put, z4, z5, z6])
            refine zT 6 (v := ?_) rfl ?_ ?_
            rotate_left 1
            · (intro w0 hSw; (try dsimp only at hSw); obtain ⟨s1, s2⟩ := hSw; go_simp; try with_reducible rfl)
            (try simp only [z1, z2, z3]); (try simp only [Act.put, z4, z5, z6])
            refine zT 7 (v := ?_) rfl ?_ ?_
            rotate_left 1
            · (intro w0 hSw; (try dsimp only at hSw); obtain ⟨s1, s2⟩ := hSw; go_simp; try with_reducible rfl)
            (try simp only [z1, z2, z3]); (try simp only [Act.put, z4, z5, z6])
            refine zT 8 (v := ?_) rfl ?_ ?_
            rotate_left 1
            · (intro w0 hSw; (try dsimp only at hSw); obtain ⟨s1, s2⟩ := hSw; go_simp; try with_reducible rfl)
            (try simp only [z1, z2, z3]); (try simp only [Act.put, z4, z5, z6])
            refine wpAnyH_ready (rs := [9]) (by kernel_rfl) (by simp) ?_
            refine AllReadyH.cons (o := _) rfl (fun K hK => ?_) AllReadyH.nil
            go_simp
            refine Calls.mono (CH2.out _ (show Below w0.heap.size w0 w'.drew from hS2.out.bl.drew)) ?_
            rintro e w'' ⟨rfl, BB⟩
            try dsimp only
            refine hK _ _ ?_ (fun hHeld => ?_)
            · exact ⟨by rw [BB.cell (p := ⟨hb, k, none⟩) bl]; exact a1, by rw [BB.cell (p := ⟨hb, c, none⟩) bl]; exact b1⟩
            clear hK K
            (try simp only [z1, z2, z3]); (try simp only [Act.put, z4, z5, z6])
            refine wpAnyH_done (by kernel_rfl) ?_ _
            refine NoPanic.normal ?_
            have hS3 : Hid (SK1 w0 w hb m b0 n r ah h k g w'') := hS2.out.below ((show Below w'.heap.size w' w'.drew from (Below.refl _ w').drew).trans BB)
            have f1 : w''.frozen? ⟨hb, k, none⟩ = false := (hS3.out.hr.2 k (by omega)).2
            have f2 : w''.frozen? ⟨hb, c, none⟩ = false := (hS3.out.hr.2 c hcm).2
            have c1 : w''.cell? ⟨hb, k, none⟩ = some (.slice bx mx ex) := by rw [BB.cell (p := ⟨hb, k, none⟩) bl]; exact a1
            have c2 : w''.cell? ⟨hb, c, none⟩ = some (.slice vy my ey) := by rw [BB.cell (p := ⟨hb, c, none⟩) bl]; exact b1
            have hS4 : Hid (SK1 w0 w hb m b0 n r ah h c (sw g k c) ((w''.setCell ⟨hb, k, none⟩ (.slice vy my ey)).setCell ⟨hb, c, none⟩ (.slice bx mx ex))) := hsw.out (htt.out rfl) w'' hS3.out
            clear a1 a2 b1 b2 BB CH2 hS2 hS3 hsw htt hdone bl hHeld
            go_wp2_with fail
            go_region
            generalize (w''.setCell ⟨hb, k, none⟩ (.slice vy my ey)).setCell ⟨hb, c, none⟩ (.slice bx mx ex) = W4 at hS4 ⊢
            clear c1 c2 f1 f2
            go_wp2_with fail
            exact ⟨⟨c, sw g k c, rfl, by omega, by omega, ⟨hS4.out.pr, hS4.out.hx, hS4.out.hr, hS4.out.ob.drewB, hS4.out.bl.drew⟩⟩, by simp [intOf]; omega⟩
        | false =>
          go_wp2_with fail
          refine wp_region_noPanic ?_
          refine wp_region_held_drew (S := fun W => W.cell? ⟨hb, c, none⟩ = some (.slice ax lx cx) ∧ W.cell? ⟨hb, d, none⟩ = some (.slice ay ly cy)) (by kernel_rfl) ⟨a1, b1⟩ (fun hHeld => ?_)
          refine zT 0 (v := ?_) rfl ?_ ?_
          rotate_left 1
          · (intro w0 hSw; (try dsimp only at hSw); obtain ⟨s1, s2⟩ := hSw; go_simp; try with_reducible rfl)
          (try simp only [z1, z2, z3]); (try simp only [Act.put, z4, z5, z6])
          refine zT 1 (v := ?_) rfl ?_ ?_
          rotate_left 1
          · (intro w0 hSw; (try dsimp only at hSw); obtain ⟨s1, s2⟩ := hSw; go_simp; try with_reducible rfl)
          (try simp only [z1, z2, z3]); (try simp only [Act.put, z4, z5, z6])
          refine zT 2 (v := ?_) rfl ?_ ?_
          rotate_left 1
          · (intro w0 hSw; (try dsimp only at hSw); obtain ⟨s1, s2⟩ := hSw; go_simp; try with_reducible rfl)
          (try simp only [z1, z2, z3]); (try simp only [Act.put, z4, z5, z6])
          refine zT 3 (v := ?_) rfl ?_ ?_
          rotate_left 1
          · (intro w0 hSw; (try dsimp only at hSw); obtain ⟨s1, s2⟩ := hSw; go_simp; try with_reducible rfl)
          (try simp only [z1, z2, z3]); (try simp only [Act.put, z4, z5, z6])
          refine zT 4 (v := ?_) rfl ?_ ?_
          rotate_left 1
          · (intro w0 hSw; (try dsimp only at hSw); obtain ⟨s1, s2⟩ := hSw; go_simp; try with_reducible rfl)
          (try simp only [z1, z2, z3]); (try simp only [Act.put, z4, z5, z6])
          refine zT 5 (v := ?_) rfl ?_ ?_
          rotate_left 1
          · (intro w0 hSw; (try dsimp only at hSw); obtain ⟨s1, s2⟩ := hSw; go_simp; try with_reducible rfl)
          (try simp only [z1, z2, z3]); (try simp only [Act.put, z4, z5, z6])
          refine zT 6 (v := ?_) rfl ?_ ?_
          rotate_left 1
          · (intro w0 hSw; (try dsimp only at hSw); obtain ⟨s1, s2⟩ := hSw; go_simp; try with_reducible rfl)
          (try simp only [z1, z2, z3]); (try simp only [Act.put, z4, z5, z6])
          refine zT 7 (v := ?_) rfl ?_ ?_
          rotate_left 1
          · (intro w0 hSw; (try dsimp only at hSw); obtain ⟨s1, s2⟩ := hSw; go_simp; try with_reducible rfl)
          (try simp only [z1, z2, z3]); (try simp only [Act.put, z4, z5, z6])
          refine zT 8 (v := ?_) rfl ?_ ?_
          rotate_left 1
          · (intro w0 hSw; (try dsimp only at hSw); obtain ⟨s1, s2⟩ := hSw; go_simp; try with_reducible rfl)
          (try simp only [z1, z2, z3]); (try simp only [Act.put, z4, z5, z6])
          refine zT 9 (v := ?_) rfl ?_ ?_
          rotate_left 1
          · (intro w0 hSw; (try dsimp only at hSw); obtain ⟨s1, s2⟩ := hSw; go_simp; try with_reducible rfl)
          (try simp only [z1, z2, z3]); (try simp only [Act.put, z4, z5, z6])
          refine zT 10 (v := ?_) rfl ?_ ?_
          rotate_left 1
          · (intro w0 hSw; (try dsimp only at hSw); obtain ⟨s1, s2⟩ := hSw; go_simp; try with_reducible rfl)
          (try simp only [z1, z2, z3]); (try simp only [Act.put, z4, z5, z6])
          refine zT 11 (v := ?_) rfl ?_ ?_
          rotate_left 1
          · (intro w0 hSw; (try dsimp only at hSw); obtain ⟨s1, s2⟩ := hSw; go_simp; try with_reducible rfl)
          (try simp only [z1, z2, z3]); (try simp only [Act.put, z4, z5, z6])
          refine zT 12 (v := ?_) rfl ?_ ?_
          rotate_left 1
          · (intro w0 hSw; (try dsimp only at hSw); obtain ⟨s1, s2⟩ := hSw; go_simp; try with_reducible rfl)
          (try simp only [z1, z2, z3]); (try simp only [Act.put, z4, z5, z6])
          refine zT 13 (v := ?_) rfl ?_ ?_
          rotate_left 1
          · (intro w0 hSw; (try dsimp only at hSw); obtain ⟨s1, s2⟩ := hSw; go_simp; try with_reducible rfl)
          (try simp only [z1, z2, z3]); (try simp only [Act.put, z4, z5, z6])
          refine zT 14 (v := ?_) rfl ?_ ?_
          rotate_left 1
          · (intro w0 hSw; (try dsimp only at hSw); obtain ⟨s1, s2⟩ := hSw; go_simp; try with_reducible rfl)
          (try simp only [z1, z2, z3]); (try simp only [Act.put, z4, z5, z6])
          refine zT 15 (v := ?_) rfl ?_ ?_
          rotate_left 1
          · (intro w0 hSw; (try dsimp only at hSw); obtain ⟨s1, s2⟩ := hSw; go_simp; try with_reducible rfl)
          (try simp only [z1, z2, z3]); (try simp only [Act.put, z4, z5, z6])
          refine wpAnyH_ready (rs := [16]) (by kernel_rfl) (by simp) ?_
          refine AllReadyH.cons (o := _) rfl (fun K hK => ?_) AllReadyH.nil
          go_simp
          refine Calls.mono (CH.out _ (show Below w0.heap.size w0 wr.drew from hS.out.bl.drew)) ?_
          rintro e w' ⟨rfl, BB⟩
          try dsimp only
          refine hK _ _ ?_ (fun hHeld => ?_)
          · exact ⟨by rw [BB.cell (p := ⟨hb, c, none⟩) bl]; exact a1, by rw [BB.cell (p := ⟨hb, d, none⟩) bl]; exact b1⟩
          clear hK K
          (try simp only [z1, z2, z3]); (try simp only [Act.put, z4, z5, z6])
          refine zT 17 (v := ?_) rfl ?_ ?_
          rotate_left 1
          · (intro w0 hSw; (try dsimp only at hSw); obtain ⟨s1, s2⟩ := hSw; go_simp; try with_reducible rfl)
          (try simp only [z1, z2, z3]); (try simp only [Act.put, z4, z5, z6])
          refine wpAnyH_done (by kernel_rfl) ?_ _
          refine NoPanic.normal ?_
          have hS2 : Hid (SK1 w0 w hb m b0 n r ah h k g w') := hS.out.below ((show Below wr.heap.size wr wr.drew from (Below.refl _ wr).drew).trans BB)
          have hoth : Hid (∀ z, z < m → (z = 2 * k + 1 ∨ z = 2 * k + 2) → z ≠ d → hl ah (g d) (g z) = true) := fun z z1 z2 z3 => by
            have e : z = c := by have := hdH.out; have := hcH.out; omega
            rw [e]
            exact (ttH.out d c hdm hcm hdc).resolve_right (by rw [hbH.out]; simp)
          have hkid : Hid (d = 2 * k + 1 ∨ d = 2 * k + 2) := Or.inl hdH.out
          clear a1 b1 BB CH hbH hS bl hHeld
          go_wp2_with fail
          have a1 := (hS2.out.hr.2 k (by omega)).1
          have a2 := (hS2.out.hr.2 k (by omega)).2
          have b1 := (hS2.out.hr.2 d hdm).1
          have b2 := (hS2.out.hr.2 d hdm).2
          have bl : hb < w'.heap.size := hS2.out.hr.1
          have CH := CF.out d hdm
          obtain ⟨bv, hbv⟩ : ∃ bv, hl ah (g k) (g d) = bv := ⟨_, rfl⟩
          rw [hbv] at CH
          have hbH : Hid (hl ah (g k) (g d) = bv) := hbv
          have hsw : Hid (hl ah (g d) (g k) = true → ∀ W, SK1 w0 w hb m b0 n r ah h k g W → SK1 w0 w hb m b0 n r ah h d (sw g k d) ((W.setCell ⟨hb, k, none⟩ (pV b0 n (g d))).setCell ⟨hb, d, none⟩ (pV b0 n (g k)))) := fun q W s => s.step o hbB hrk (by omega) hdm hkid.out q hoth.out
          have htt : Hid (bv = false → hl ah (g d) (g k) = true) := fun q => (ttH.out d k hdm (by omega) (by omega)).resolve_right (by rw [hbH.out, q]; simp)
          have hdone : Hid (bv = true → HP (hl ah) r m g) := fun q => hS2.out.hx.done (fun z z1 z2 => by
            by_cases e : z = d
            · rw [e, hbH.out]; exact q
            · have h1 : ah (g k).1 (g d).1 = true := by have := hbH.out; rw [q] at this; exact this
              exact o.tr _ _ _ h1 (hoth.out z z1 z2 e))
          have CH2 : Hid _ := CH
          clear hbv CH CF hoth hkid hbH
          obtain ⟨bx, mx, ex, hX⟩ : ∃ ax lx cx, pV b0 n (g k) = .slice ax lx cx := ⟨_, _, _, rfl⟩
          obtain ⟨vy, my, ey, hY⟩ : ∃ ay ly cy, pV b0 n (g d) = .slice ay ly cy := ⟨_, _, _, rfl⟩
          rw [hX] at a1 CH2 hsw
          rw [hY] at b1 CH2 hsw
          clear hX hY
          have eI : (d : Int) < (m : Int) := by omega
          have e0 : (0 : Int) ≤ (d : Int) := by omega
          have kE : ¬ k = d := by omega
          have Ek : ¬ d = k := by omega
          cases bv with
          | true =>
            refine wp_region_noPanic ?_
            refine wp_region_held_drew (S := fun W => W.cell? ⟨hb, k, none⟩ = some (.slice bx mx ex) ∧ W.cell? ⟨hb, d, none⟩ = some (.slice vy my ey)) (by kernel_rfl) ⟨a1, b1⟩ (fun hHeld => ?_)
            refine zT 0 (v := ?_) rfl ?_ ?_
            rotate_left 1
            · (intro w0 hSw; (try dsimp only at hSw); obtain ⟨s1, s2⟩ := hSw; go_simp; try with_reducible rfl)
            (try simp only [z1, z2, z3]); (try simp only [Act.put, z4, z5, z6])
            refine zT 1 (v := ?_) rfl ?_ ?_
            rotate_left 1
            · (intro w0 hSw; (try dsimp only at hSw); obtain ⟨s1, s2⟩ := hSw; go_simp; try with_reducible rfl)
            (try simp only [z1, z2, z3]); (try simp only [Act.put, z4, z5, z6])
            refine zT 2 (v := ?_) rfl ?_ ?_
            rotate_left 1
            · (intro w0 hSw; (try dsimp only at hSw); obtain ⟨s1, s2⟩ := hSw; go_simp; try with_reducible rfl)
            (try simp only [z1, z2, z3]); (try simp only [Act.put, z4, z5, z6])
            refine zT 3 (v := ?_) rfl ?_ ?_
            rotate_left 1
            · (intro w0 hSw; (try dsimp only at hSw); obtain ⟨s1, s2⟩ := hSw; go_simp; try with_reducible rfl)
            (try simp only [z1, z2, z3]); (try simp only [Act.put, z4, z5, z6])
            refine zT 4 (v := ?_) rfl ?_ ?_
            rotate_left 1
            · (intro w0 hSw; (try dsimp only at hSw); obtain ⟨s1, s2⟩ := hSw; go_simp; try with_reducible rfl)
            (try simp only [z1, z2, z3]); (try simp only [Act.put, z4, z5, z6])
            refine zT 5 (v := ?_) rfl ?_ ?_
            rotate_left 1
            · (intro w0 hSw; (try dsimp only at hSw); obtain ⟨s1, s2⟩ := hSw; go_simp; try with_reducible rfl)
            (try simp only [z1, z2, z3]); (try simp only [Act.put, z4, z5, z6])
            refine zT 6 (v := ?_) rfl ?_ ?_
            rotate_left 1
            · (intro w0 hSw; (try dsimp only at hSw); obtain ⟨s1, s2⟩ := hSw; go_simp; try with_reducible rfl)
            (try simp only [z1, z2, z3]); (try simp only [Act.put, z4, z5, z6])
            refine zT 7 (v := ?_) rfl ?_ ?_
            rotate_left 1
            · (intro w0 hSw; (try dsimp only at hSw); obtain ⟨s1, s2⟩ := hSw; go_simp; try with_reducible rfl)
            (try simp only [z1, z2, z3]); (try simp only [Act.put, z4, z5, z6])
            refine zT 8 (v := ?_) rfl ?_ ?_
            rotate_left 1
            · (intro w0 hSw; (try dsimp only at hSw); obtain ⟨s1, s2⟩ := hSw; go_simp; try with_reducible rfl)
            (try simp only [z1, z2, z3]); (try simp only [Act.put, z4, z5, z6])
            refine wpAnyH_ready (rs := [9]) (by kernel_rfl) (by simp) ?_
            refine AllReadyH.cons (o := _) rfl (fun K hK => ?_) AllReadyH.nil
            go_simp
            refine Calls.mono (CH2.out _ (show Below w0.heap.size w0 w'.drew from hS2.out.bl.drew)) ?_
            rintro e w'' ⟨rfl, BB⟩
            try dsimp only
            refine hK _ _ ?_ (fun hHeld => ?_)
            · exact ⟨by rw [BB.cell (p := ⟨hb, k, none⟩) bl]; exact a1, by rw [BB.cell (p := ⟨hb, d, none⟩) bl]; exact b1⟩
            clear hK K
            (try simp only [z1, z2, z3]); (try simp only [Act.put, z4, z5, z6])
            refine wpAnyH_done (by kernel_rfl) ?_ _
            refine NoPanic.normal ?_
            have hS3 : Hid (SK1 w0 w hb m b0 n r ah h k g w'') := hS2.out.below ((show Below w'.heap.size w' w'.drew from (Below.refl _ w').drew).trans BB)
            have fin : Hid (∃ g, Pr 0 m h g ∧ HP (hl ah) r m g ∧ HR w'' hb m b0 n g ∧ OB hb w w'') := ⟨g, hS3.out.pr, hdone.out rfl, hS3.out.hr, hS3.out.ob⟩
            clear a1 a2 b1 b2 BB CH2 hS2 hS3 hsw htt hdone bl hHeld
            go_wp2_with fail
            first | go_end0 | (simp only [Exit.inBlock, Exit.then]; refine bodyPost_ret (results_none rfl _ _ _) rfl ?_) | refine bodyPost_ret (results_none rfl _ _ _) rfl ?_
            exact ⟨rfl, fin.out⟩
          | false =>
            refine wp_region_noPanic ?_
            refine wp_region_held_drew (S := fun W => W.cell? ⟨hb, k, none⟩ = some (.slice bx mx ex) ∧ W.cell? ⟨hb, d, none⟩ = some (.slice vy my ey)) (by kernel_rfl) ⟨a1, b1⟩ (fun hHeld => ?_)
            refine zT 0 (v := ?_) rfl ?_ ?_
            rotate_left 1
            · (intro w0 hSw; (try dsimp only at hSw); obtain ⟨s1, s2⟩ := hSw; go_simp; try with_reducible rfl)
            (try simp only [z1, z2, z3]); (try simp only [Act.put, z4, z5, z6])
            refine zT 1 (v := ?_) rfl ?_ ?_
            rotate_left 1
            · (intro w0 hSw; (try dsimp only at hSw); obtain ⟨s1, s2⟩ := hSw; go_simp; try with_reducible rfl)
            (try simp only [z1, z2, z3]); (try simp only [Act.put, z4, z5, z6])
            refine zT 2 (v := ?_) rfl ?_ ?_
            rotate_left 1
            · (intro w0 hSw; (try dsimp only at hSw); obtain ⟨s1, s2⟩ := hSw; go_simp; try with_reducible rfl)
            (try simp only [z1, z2, z3]); (try simp only [Act.put, z4, z5, z6])
            refine zT 3 (v := ?_) rfl ?_ ?_
            rotate_left 1
            · (intro w0 hSw; (try dsimp only at hSw); obtain ⟨s1, s2⟩ := hSw; go_simp; try with_reducible rfl)
            (try simp only [z1, z2, z3]); (try simp only [Act.put, z4, z5, z6])
            refine zT 4 (v := ?_) rfl ?_ ?_
            rotate_left 1
            · (intro w0 hSw; (try dsimp only at hSw); obtain ⟨s1, s2⟩ := hSw; go_simp; try with_reducible rfl)
            (try simp only [z1, z2, z3]); (try simp only [Act.put, z4, z5, z6])
            refine zT 5 (v := ?_) rfl ?_ ?_
            rotate_left 1
            · (intro w0 hSw; (try dsimp only at hSw); obtain ⟨s1, s2⟩ := hSw; go_simp; try with_reducible rfl)
            (try simp only [z1, z2, z3]); (try simp only [Act.put, z4, z5, z6])
            refine zT 6 (v := ?_) rfl ?_ ?_
            rotate_left 1
            · (intro w0 hSw; (try dsimp only at hSw); obtain ⟨s1, s2⟩ := hSw; go_simp; try with_reducible rfl)
            (try simp only [z1, z2, z3]); (try simp only [Act.put, z4, z5, z6])
            refine zT 7 (v := ?_) rfl ?_ ?_
            rotate_left 1
            · (intro w0 hSw; (try dsimp only at hSw); obtain ⟨s1, s2⟩ := hSw; go_simp; try with_reducible rfl)
            (try simp only [z1, z2, z3]); (try simp only [Act.put, z4, z5, z6])
            refine zT 8 (v := ?_) rfl ?_ ?_
            rotate_left 1
            · (intro w0 hSw; (try dsimp only at hSw); obtain ⟨s1, s2⟩ := hSw; go_simp; try with_reducible rfl)
            (try simp only [z1, z2, z3]); (try simp only [Act.put, z4, z5, z6])
            refine wpAnyH_ready (rs := [9]) (by kernel_rfl) (by simp) ?_
            refine AllReadyH.cons (o := _) rfl (fun K hK => ?_) AllReadyH.nil
            go_simp
            refine Calls.mono (CH2.out _ (show Below w0.heap.size w0 w'.drew from hS2.out.bl.drew)) ?_
            rintro e w'' ⟨rfl, BB⟩
            try dsimp only
            refine hK _ _ ?_ (fun hHeld => ?_)
            · exact ⟨by rw [BB.cell (p := ⟨hb, k, none⟩) bl]; exact a1, by rw [BB.cell (p := ⟨hb, d, none⟩) bl]; exact b1⟩
            clear hK K
            (try simp only [z1, z2, z3]); (try simp only [Act.put, z4, z5, z6])
            refine wpAnyH_done (by kernel_rfl) ?_ _
            refine NoPanic.normal ?_
            have hS3 : Hid (SK1 w0 w hb m b0 n r ah h k g w'') := hS2.out.below ((show Below w'.heap.size w' w'.drew from (Below.refl _ w').drew).trans BB)
            have f1 : w''.frozen? ⟨hb, k, none⟩ = false := (hS3.out.hr.2 k (by omega)).2
            have f2 : w''.frozen? ⟨hb, d, none⟩ = false := (hS3.out.hr.2 d hdm).2
            have c1 : w''.cell? ⟨hb, k, none⟩ = some (.slice bx mx ex) := by rw [BB.cell (p := ⟨hb, k, none⟩) bl]; exact a1
            have c2 : w''.cell? ⟨hb, d, none⟩ = some (.slice vy my ey) := by rw [BB.cell (p := ⟨hb, d, none⟩) bl]; exact b1
            have hS4 : Hid (SK1 w0 w hb m b0 n r ah h d (sw g k d) ((w''.setCell ⟨hb, k, none⟩ (.slice vy my ey)).setCell ⟨hb, d, none⟩ (.slice bx mx ex))) := hsw.out (htt.out rfl) w'' hS3.out
            clear a1 a2 b1 b2 BB CH2 hS2 hS3 hsw htt hdone bl hHeld
            go_wp2_with fail
            go_region
            generalize (w''.setCell ⟨hb, k, none⟩ (.slice vy my ey)).setCell ⟨hb, d, none⟩ (.slice bx mx ex) = W4 at hS4 ⊢
            clear c1 c2 f1 f2
            go_wp2_with fail
            exact ⟨⟨d, sw g k d, rfl, by omega, by omega, ⟨hS4.out.pr, hS4.out.hx, hS4.out.hr, hS4.out.ob.drewB, hS4.out.bl.drew⟩⟩, by simp [intOf]; omega⟩
      · have hcI : ¬ (c : Int) < (m : Int) := by omega
        have hcd : decide ((c : Int) < (m : Int)) = false := decide_eq_false hcI
        have CF : Hid (∀ e, e < m → ∀ W, Below w0.heap.size w0 W → Calls Tryz.prog 69 #[pV b0 n (g k), pV b0 n (g e), .pointer (some ⟨P2, 0, none⟩)] W fun e' w' => e' = .returned (.bool (hl ah (g k) (g e))) ∧ Below W.heap.size W w') := fun e he W hW => hFH.out (g k) (g e) W (runs k (by omega)).1 (runs k (by omega)).2 (runs e he).1 (runs e he).2 hW
        have hoth : Hid (∀ z, z < m → (z = 2 * k + 1 ∨ z = 2 * k + 2) → z ≠ d → hl ah (g d) (g z) = true) := fun z z1 z2 z3 => by have := hdH.out; have := hcH.out; omega
        have hkid : Hid (d = 2 * k + 1 ∨ d = 2 * k + 2) := Or.inl hdH.out
        clear runs
        go_wp2_with fail
        go_quiet (fail)
        generalize hwq : World.drewN wr _ = w'
        have hS2 : Hid (SK1 w0 w hb m b0 n r ah h k g w') := hS.out.below (hwq ▸ bdrewB (Below.refl _ wr) _)
        clear hS hwq
        go_wp2_with fail
        have a1 := (hS2.out.hr.2 k (by omega)).1
        have a2 := (hS2.out.hr.2 k (by omega)).2
        have b1 := (hS2.out.hr.2 d hdm).1
        have b2 := (hS2.out.hr.2 d hdm).2
        have bl : hb < w'.heap.size := hS2.out.hr.1
        have CH := CF.out d hdm
        obtain ⟨bv, hbv⟩ : ∃ bv, hl ah (g k) (g d) = bv := ⟨_, rfl⟩
        rw [hbv] at CH
        have hbH : Hid (hl ah (g k) (g d) = bv) := hbv
        have hsw : Hid (hl ah (g d) (g k) = true → ∀ W, SK1 w0 w hb m b0 n r ah h k g W → SK1 w0 w hb m b0 n r ah h d (sw g k d) ((W.setCell ⟨hb, k, none⟩ (pV b0 n (g d))).setCell ⟨hb, d, none⟩ (pV b0 n (g k)))) := fun q W s => s.step o hbB hrk (by omega) hdm hkid.out q hoth.out
        have htt : Hid (bv = false → hl ah (g d) (g k) = true) := fun q => (ttH.out d k hdm (by omega) (by omega)).resolve_right (by rw [hbH.out, q]; simp)
        have hdone : Hid (bv = true → HP (hl ah) r m g) := fun q => hS2.out.hx.done (fun z z1 z2 => by
          by_cases e : z = d
          · rw [e, hbH.out]; exact q
          · have h1 : ah (g k).1 (g d).1 = true := by have := hbH.out; rw [q] at this; exact this
            exact o.tr _ _ _ h1 (hoth.out z z1 z2 e))
        have CH2 : Hid _ := CH
        clear hbv CH CF hoth hkid hbH
        obtain ⟨bx, mx, ex, hX⟩ : ∃ ax lx cx, pV b0 n (g k) = .slice ax lx cx := ⟨_, _, _, rfl⟩
        obtain ⟨vy, my, ey, hY⟩ : ∃ ay ly cy, pV b0 n (g d) = .slice ay ly cy := ⟨_, _, _, rfl⟩
        rw [hX] at a1 CH2 hsw
        rw [hY] at b1 CH2 hsw
        clear hX hY
        have eI : (d : Int) < (m : Int) := by omega
        have e0 : (0 : Int) ≤ (d : Int) := by omega
        have kE : ¬ k = d := by omega
        have Ek : ¬ d = k := by omega
        cases bv with
        | true =>
          refine wp_region_noPanic ?_
          refine wp_region_held_drew (S := fun W => W.cell? ⟨hb, k, none⟩ = some (.slice bx mx ex) ∧ W.cell? ⟨hb, d, none⟩ = some (.slice vy my ey)) (by kernel_rfl) ⟨a1, b1⟩ (fun hHeld => ?_)
          refine zT 0 (v := ?_) rfl ?_ ?_
          rotate_left 1
          · (intro w0 hSw; (try dsimp only at hSw); obtain ⟨s1, s2⟩ := hSw; go_simp; try with_reducible rfl)
          (try simp only [z1, z2, z3]); (try simp only [Act.put, z4, z5, z6])
          refine zT 1 (v := ?_) rfl ?_ ?_
          rotate_left 1
          · (intro w0 hSw; (try dsimp only at hSw); obtain ⟨s1, s2⟩ := hSw; go_simp; try with_reducible rfl)
          (try simp only [z1, z2, z3]); (try simp only [Act.put, z4, z5, z6])
          refine zT 2 (v := ?_) rfl ?_ ?_
          rotate_left 1
          · (intro w0 hSw; (try dsimp only at hSw); obtain ⟨s1, s2⟩ := hSw; go_simp; try with_reducible rfl)
          (try simp only [z1, z2, z3]); (try simp only [Act.put, z4, z5, z6])
          refine zT 3 (v := ?_) rfl ?_ ?_
          rotate_left 1
          · (intro w0 hSw; (try dsimp only at hSw); obtain ⟨s1, s2⟩ := hSw; go_simp; try with_reducible rfl)
          (try simp only [z1, z2, z3]); (try simp only [Act.put, z4, z5, z6])
          refine zT 4 (v := ?_) rfl ?_ ?_
          rotate_left 1
          · (intro w0 hSw; (try dsimp only at hSw); obtain ⟨s1, s2⟩ := hSw; go_simp; try with_reducible rfl)
          (try simp only [z1, z2, z3]); (try simp only [Act.put, z4, z5, z6])
          refine zT 5 (v := ?_) rfl ?_ ?_
          rotate_left 1
          · (intro w0 hSw; (try dsimp only at hSw); obtain ⟨s1, s2⟩ := hSw; go_simp; try with_reducible rfl)
          (try simp only [z1, z2, z3]); (try simp only [Act.put, z4, z5, z6])
          refine zT 6 (v := ?_) rfl ?_ ?_
          rotate_left 1
          · (intro w0 hSw; (try dsimp only at hSw); obtain ⟨s1, s2⟩ := hSw; go_simp; try with_reducible rfl)
          (try simp only [z1, z2, z3]); (try simp only [Act.put, z4, z5, z6])
          refine zT 7 (v := ?_) rfl ?_ ?_
          rotate_left 1
          · (intro w0 hSw; (try dsimp only at hSw); obtain ⟨s1, s2⟩ := hSw; go_simp; try with_reducible rfl)
          (try simp only [z1, z2, z3]); (try simp only [Act.put, z4, z5, z6])
          refine zT 8 (v := ?_) rfl ?_ ?_
          rotate_left 1
          · (intro w0 hSw; (try dsimp only at hSw); obtain ⟨s1, s2⟩ := hSw; go_simp; try with_reducible rfl)
          (try simp only [z1, z2, z3]); (try simp only [Act.put, z4, z5, z6])
          refine wpAnyH_ready (rs := [9]) (by kernel_rfl) (by simp) ?_
          refine AllReadyH.cons (o := _) rfl (fun K hK => ?_) AllReadyH.nil
          go_simp
          refine Calls.mono (CH2.out _ (show Below w0.heap.size w0 w'.drew from hS2.out.bl.drew)) ?_
          rintro e w'' ⟨rfl, BB⟩
          try dsimp only
          refine hK _ _ ?_ (fun hHeld => ?_)
          · exact ⟨by rw [BB.cell (p := ⟨hb, k, none⟩) bl]; exact a1, by rw [BB.cell (p := ⟨hb, d, none⟩) bl]; exact b1⟩
          clear hK K
          (try simp only [z1, z2, z3]); (try simp only [Act.put, z4, z5, z6])
          refine wpAnyH_done (by kernel_rfl) ?_ _
          refine NoPanic.normal ?_
          have hS3 : Hid (SK1 w0 w hb m b0 n r ah h k g w'') := hS2.out.below ((show Below w'.heap.size w' w'.drew from (Below.refl _ w').drew).trans BB)
          have fin : Hid (∃ g, Pr 0 m h g ∧ HP (hl ah) r m g ∧ HR w'' hb m b0 n g ∧ OB hb w w'') := ⟨g, hS3.out.pr, hdone.out rfl, hS3.out.hr, hS3.out.ob⟩
          clear a1 a2 b1 b2 BB CH2 hS2 hS3 hsw htt hdone bl hHeld
          go_wp2_with fail
          first | go_end0 | (simp only [Exit.inBlock, Exit.then]; refine bodyPost_ret (results_none rfl _ _ _) rfl ?_) | refine bodyPost_ret (results_none rfl _ _ _) rfl ?_
          exact ⟨rfl, fin.out⟩
        | false =>
          refine wp_region_noPanic ?_
          refine wp_region_held_drew (S := fun W => W.cell? ⟨hb, k, none⟩ = some (.slice bx mx ex) ∧ W.cell? ⟨hb, d, none⟩ = some (.slice vy my ey)) (by kernel_rfl) ⟨a1, b1⟩ (fun hHeld => ?_)
          refine zT 0 (v := ?_) rfl ?_ ?_
          rotate_left 1
          · (intro w0 hSw; (try dsimp only at hSw); obtain ⟨s1, s2⟩ := hSw; go_simp; try with_reducible rfl)
          (try simp only [z1, z2, z3]); (try simp only [Act.put, z4, z5, z6])
          refine zT 1 (v := ?_) rfl ?_ ?_
          rotate_left 1
          · (intro w0 hSw; (try dsimp only at hSw); obtain ⟨s1, s2⟩ := hSw; go_simp; try with_reducible rfl)
          (try simp only [z1, z2, z3]); (try simp only [Act.put, z4, z5, z6])
          refine zT 2 (v := ?_) rfl ?_ ?_
          rotate_left 1
          · (intro w0 hSw; (try dsimp only at hSw); obtain ⟨s1, s2⟩ := hSw; go_simp; try with_reducible rfl)
          (try simp only [z1, z2, z3]); (try simp only [Act.put, z4, z5, z6])
          refine zT 3 (v := ?_) rfl ?_ ?_
          rotate_left 1
          · (intro w0 hSw; (try dsimp only at hSw); obtain ⟨s1, s2⟩ := hSw; go_simp; try with_reducible rfl)
          (try simp only [z1, z2, z3]); (try simp only [Act.put, z4, z5, z6])
          refine zT 4 (v := ?_) rfl ?_ ?_
          rotate_left 1
          · (intro w0 hSw; (try dsimp only at hSw); obtain ⟨s1, s2⟩ := hSw; go_simp; try with_reducible rfl)
          (try simp only [z1, z2, z3]); (try simp only [Act.put, z4, z5, z6])
          refine zT 5 (v := ?_) rfl ?_ ?_
          rotate_left 1
          · (intro w0 hSw; (try dsimp only at hSw); obtain ⟨s1, s2⟩ := hSw; go_simp; try with_reducible rfl)
          (try simp only [z1, z2, z3]); (try simp only [Act.put, z4, z5, z6])
          refine zT 6 (v := ?_) rfl ?_ ?_
          rotate_left 1
          · (intro w0 hSw; (try dsimp only at hSw); obtain ⟨s1, s2⟩ := hSw; go_simp; try with_reducible rfl)
          (try simp only [z1, z2, z3]); (try simp only [Act.put, z4, z5, z6])
          refine zT 7 (v := ?_) rfl ?_ ?_
          rotate_left 1
          · (intro w0 hSw; (try dsimp only at hSw); obtain ⟨s1, s2⟩ := hSw; go_simp; try with_reducible rfl)
          (try simp only [z1, z2, z3]); (try simp only [Act.put, z4, z5, z6])
          refine zT 8 (v := ?_) rfl ?_ ?_
          rotate_left 1
          · (intro w0 hSw; (try dsimp only at hSw); obtain ⟨s1, s2⟩ := hSw; go_simp; try with_reducible rfl)
          (try simp only [z1, z2, z3]); (try simp only [Act.put, z4, z5, z6])
          refine wpAnyH_ready (rs := [9]) (by kernel_rfl) (by simp) ?_
          refine AllReadyH.cons (o := _) rfl (fun K hK => ?_) AllReadyH.nil
          go_simp
          refine Calls.mono (CH2.out _ (show Below w0.heap.size w0 w'.drew from hS2.out.bl.drew)) ?_
          rintro e w'' ⟨rfl, BB⟩
          try dsimp only
          refine hK _ _ ?_ (fun hHeld => ?_)
          · exact ⟨by rw [BB.cell (p := ⟨hb, k, none⟩) bl]; exact a1, by rw [BB.cell (p := ⟨hb, d, none⟩) bl]; exact b1⟩
          clear hK K
          (try simp only [z1, z2, z3]); (try simp only [Act.put, z4, z5, z6])
          refine wpAnyH_done (by kernel_rfl) ?_ _
          refine NoPanic.normal ?_
          have hS3 : Hid (SK1 w0 w hb m b0 n r ah h k g w'') := hS2.out.below ((show Below w'.heap.size w' w'.drew from (Below.refl _ w').drew).trans BB)
          have f1 : w''.frozen? ⟨hb, k, none⟩ = false := (hS3.out.hr.2 k (by omega)).2
          have f2 : w''.frozen? ⟨hb, d, none⟩ = false := (hS3.out.hr.2 d hdm).2
          have c1 : w''.cell? ⟨hb, k, none⟩ = some (.slice bx mx ex) := by rw [BB.cell (p := ⟨hb, k, none⟩) bl]; exact a1
          have c2 : w''.cell? ⟨hb, d, none⟩ = some (.slice vy my ey) := by rw [BB.cell (p := ⟨hb, d, none⟩) bl]; exact b1
          have hS4 : Hid (SK1 w0 w hb m b0 n r ah h d (sw g k d) ((w''.setCell ⟨hb, k, none⟩ (.slice vy my ey)).setCell ⟨hb, d, none⟩ (.slice bx mx ex))) := hsw.out (htt.out rfl) w'' hS3.out
          clear a1 a2 b1 b2 BB CH2 hS2 hS3 hsw htt hdone bl hHeld
          go_wp2_with fail
          go_region
          generalize (w''.setCell ⟨hb, k, none⟩ (.slice vy my ey)).setCell ⟨hb, d, none⟩ (.slice bx mx ex) = W4 at hS4 ⊢
          clear c1 c2 f1 f2
          go_wp2_with fail
          exact ⟨⟨d, sw g k d, rfl, by omega, by omega, ⟨hS4.out.pr, hS4.out.hx, hS4.out.hr, hS4.out.ob.drewB, hS4.out.bl.drew⟩⟩, by simp [intOf]; omega⟩
    · have hdI : (d : Int) ≥ (m : Int) := by omega
      have fin : Hid (∃ g, Pr 0 m h g ∧ HP (hl ah) r m g ∧ HR wr hb m b0 n g ∧ OB hb w wr) := ⟨g, hS.out.pr, hS.out.hx.done (fun c c1 c2 => by have := hdH.out; omega), hS.out.hr, hS.out.ob⟩
      clear hS
      go_wp2_with fail
      first | go_end0 | (simp only [Exit.inBlock, Exit.then]; refine bodyPost_ret (results_none rfl _ _ _) rfl ?_) | refine bodyPost_ret (results_none rfl _ _ _) rfl ?_
      exact ⟨rfl, fin.out⟩
end Go.Proofs.YtepakgfdakeibaaGreatDoor.So
