
import Derived.Test.YtlcppkemiogbeaaBaF
namespace Go.Proofs.Ytlcppkemiogbeaa
open Go.RowKit _root_.Go.Proofs.Ytlcppkemiogbeaa.So
set_option linter.unusedVariables false
set_option linter.unusedSimpArgs false
/-- a sample of a series in memory: six cells, its tags lying at a. -/
def WAt (w : World) (b o : Nat) (x : WrP) (a : Option Addr) (c : Nat) : Prop := w.cell? ⟨b, o, none⟩ = some (.string x.s.m) ∧ w.cell? ⟨b, o + 1, none⟩ = some (.slice a x.s.t.length c) ∧ w.cell? ⟨b, o + 2, none⟩ = some (.string x.s.f) ∧ w.cell? ⟨b, o + 3, none⟩ = some (.int .i64 x.tm) ∧ w.cell? ⟨b, o + 4, none⟩ = some (.int .u8 (x.kd : Int)) ∧ w.cell? ⟨b, o + 5, none⟩ = some (.int .i64 x.n)
theorem WAt.below {w w' : World} {b o : Nat} {x : WrP} {a : Option Addr} {c C : Nat} (h : WAt w b o x a c) (hB : Below C w w') (hb : b < C) : WAt w' b o x a c := by
  obtain ⟨h1, h2, h3, h4, h5, h6⟩ := h
  exact ⟨by rw [hB.cell (p := ⟨b, o, none⟩) hb]; exact h1, by rw [hB.cell (p := ⟨b, o + 1, none⟩) hb]; exact h2, by rw [hB.cell (p := ⟨b, o + 2, none⟩) hb]; exact h3, by rw [hB.cell (p := ⟨b, o + 3, none⟩) hb]; exact h4, by rw [hB.cell (p := ⟨b, o + 4, none⟩) hb]; exact h5, by rw [hB.cell (p := ⟨b, o + 5, none⟩) hb]; exact h6⟩
/-- samples of series that lie in memory. -/
def WIn (w : World) (a : Option Addr) (l : List WrP) : Prop := l = [] ∨ ∃ b off, a = some ⟨b, off, none⟩ ∧ b < w.heap.size ∧ ∀ i x, l[i]? = some x → ∃ ta tc, WAt w b (off + i * 6) x ta tc ∧ SerIn w ta x.s
theorem SerIn.belowW {w w' : World} {a : Option Addr} {s : SerP} (h : SerIn w a s) (hB : Below w.heap.size w w') : SerIn w' a s := ⟨h.1.below hB, h.2⟩
theorem WIn.below {w w' : World} {a : Option Addr} {l : List WrP} (h : WIn w a l) (hB : Below w.heap.size w w') : WIn w' a l := by
  rcases h with h | ⟨b, off, ha, hb, hc⟩
  · exact Or.inl h
  · refine Or.inr ⟨b, off, ha, Nat.lt_of_lt_of_le hb hB.size, fun i x hx => ?_⟩
    obtain ⟨ta, tc, h1, h2⟩ := hc i x hx
    exact ⟨ta, tc, h1.below hB hb, h2.belowW hB⟩
theorem WIn.at {w wr : World} {a : Option Addr} {l : List WrP} (h : WIn w a l) (hB : Below w.heap.size w wr) {k : Nat} {x : WrP} (hx : l[k]? = some x) : ∃ b off ta tc, a = some ⟨b, off, none⟩ ∧ b < w.heap.size ∧ WAt wr b (off + k * 6) x ta tc ∧ ∀ W, Below w.heap.size w W → WAt W b (off + k * 6) x ta tc ∧ SerIn W ta x.s := by
  rcases h with h0 | ⟨b, off, e, hb, hc⟩
  · rw [h0] at hx; simp at hx
  · obtain ⟨ta, tc, h1, h2⟩ := hc k x hx
    exact ⟨b, off, ta, tc, e, hb, h1.below hB hb, fun W hW => ⟨h1.below hW hb, h2.belowW hW⟩⟩
def noW : WrP := ⟨⟨⟨#[]⟩, [], ⟨#[]⟩⟩, 0, 0, 0⟩
def atW (l : List WrP) : Nat → WrP := fun k => l.getD k noW
theorem atW_get {l : List WrP} {k : Nat} {x : WrP} (h : l[k]? = some x) : atW l k = x := by unfold atW; rw [List.getD_eq_getElem?_getD, h]; rfl
theorem atW_some {l : List WrP} {k : Nat} (h : k < l.length) : l[k]? = some (atW l k) := by rw [List.getElem?_eq_getElem h, atW, List.getD_eq_getElem?_getD, List.getElem?_eq_getElem h]; rfl
/-- which place stands ahead. -/
def ahW (l : List WrP) (i j : Nat) : Bool := decide (wC (atW l i) (atW l j) < 0) || (decide (wC (atW l i) (atW l j) = 0) && decide (j < i))
theorem wC_is (l : List WrP) : (∀ i, wC (atW l i) (atW l i) = 0) ∧ (∀ i j, wC (atW l j) (atW l i) = - wC (atW l i) (atW l j)) ∧ ∀ i j k, wC (atW l i) (atW l j) ≤ 0 → wC (atW l j) (atW l k) ≤ 0 → wC (atW l i) (atW l k) ≤ 0 := ⟨fun i => (kC_is.zero _ _).2 rfl, fun i j => kC_is.flip _ _, fun i j k => kC_is.trans _ _ _⟩
theorem ahW_iff (l : List WrP) (i j : Nat) : ahW l i j = true ↔ (wC (atW l i) (atW l j) < 0 ∨ (wC (atW l i) (atW l j) = 0 ∧ j < i)) := by
  unfold ahW; simp
theorem ahW_ao (l : List WrP) (n : Nat) : AO (ahW l) n where
  irr := fun i _ => by
    cases h : ahW l i i with
    | false => rfl
    | true =>
      rcases (ahW_iff l i i).1 h with a | ⟨_, a⟩
      · rw [(wC_is l).1 i] at a; omega
      · omega
  tr := fun i j k h1 h2 => by
    rw [ahW_iff] at h1 h2 ⊢
    unfold wC at *
    rcases h1 with a | ⟨a, a'⟩ <;> rcases h2 with b | ⟨b, b'⟩
    · exact Or.inl (kC_is.lt a (by omega))
    · exact Or.inl (kC_is.lt a (by omega))
    · exact Or.inl (kC_is.lt2 (by omega) b)
    · refine Or.inr ⟨?_, by omega⟩
      have e1 := (kC_is.zero _ _).1 a
      have e2 := (kC_is.zero _ _).1 b
      exact (kC_is.zero _ _).2 (e1.trans e2)
  tot := fun i j _ _ hne => by
    rw [ahW_iff, ahW_iff, (wC_is l).2.1 i j]
    omega
set_option maxRecDepth 100000 in
set_option maxHeartbeats 8000000 in
/-- Order's function, its list in a box. -/
theorem ahead_any (w : World) (P1 : Nat) (a : Option Addr) (c : Nat) (l : List WrP) (hP : P1 < w.heap.size) (hc : w.cell? ⟨P1, 0, none⟩ = some (.slice a l.length c)) (hl : WIn w a l) (hn : l.length ≤ 4611686018427387904) :
    AhA w 32 #[.pointer (some ⟨P1, 0, none⟩)] l.length (ahW l) := by
  intro i j W hi hj hB
  show Calls Try.prog 32 #[.int .i64 (i : Int), .int .i64 (j : Int), .pointer (some ⟨P1, 0, none⟩)] W _
  have gx := atW_some hi
  have gy := atW_some hj
  obtain ⟨b, off, tx, cx, e1, hb, ax, fx⟩ := hl.at hB gx
  obtain ⟨b', off', ty, cy, e2, _, ay, fy⟩ := hl.at hB gy
  rw [e1] at e2
  injection e2 with e2
  injection e2 with e3 e4
  subst e3 e4
  have RES : Hid (ahW l i j = (decide (wC (atW l i) (atW l j) < 0) || (decide (wC (atW l i) (atW l j) = 0) && decide (j < i)))) := rfl
  have CH : Hid (∀ W', Below w.heap.size w W' → Calls Try.prog 33 #[wV (atW l i) tx cx, wV (atW l j) ty cy] W' fun e w' => e = .returned (.int .i64 (wC (atW l i) (atW l j))) ∧ Below W'.heap.size W' w') := fun W' hW' => bcompare_any _ _ tx ty cx cy W' (fx W' hW').2 (fy W' hW').2
  generalize ahW l i j = bv at RES ⊢
  generalize wC (atW l i) (atW l j) = cv at RES CH
  generalize atW l i = x at *
  generalize atW l j = y at *
  have a0 : W.cell? ⟨P1, 0, none⟩ = some (.slice (some ⟨b, off, none⟩) l.length c) := by rw [hB.cell (p := ⟨P1, 0, none⟩) hP, ← e1]; exact hc
  have pl : P1 < W.heap.size := Nat.lt_of_lt_of_le hP hB.size
  have bl : b < W.heap.size := Nat.lt_of_lt_of_le hb hB.size
  have BH : Hid (Below w.heap.size w W) := hB
  have i0 : (0 : Int) ≤ (i : Int) := by omega
  have j0 : (0 : Int) ≤ (j : Int) := by omega
  have iI : (i : Int) < (l.length : Int) := by omega
  have jI : (j : Int) < (l.length : Int) := by omega
  unfold wV at CH
  unfold WAt at ax ay
  generalize x.s.t.length = nx at *
  generalize y.s.t.length = ny at *
  generalize l.length = n at *
  clear hl hc hB gx gy fx fy hP hb
  obtain ⟨x1, x2, x3, x4, x5, x6⟩ := ax
  obtain ⟨y1, y2, y3, y4, y5, y6⟩ := ay
  go_enter Try.func32, Try.ntmps32
  go_wp2_with fail
  refine wp_region_noPanic ?_
  refine wp_region_held_drew (S := fun W => (W.cell? ⟨P1, 0, none⟩ = some (.slice (some ⟨b, off, none⟩) n c) ∧ W.cell? ⟨b, off + i * 6, none⟩ = some (.string x.s.m) ∧ W.cell? ⟨b, off + i * 6 + 1, none⟩ = some (.slice tx nx cx) ∧ W.cell? ⟨b, off + i * 6 + 2, none⟩ = some (.string x.s.f) ∧ W.cell? ⟨b, off + i * 6 + 3, none⟩ = some (.int .i64 x.tm) ∧ W.cell? ⟨b, off + i * 6 + 4, none⟩ = some (.int .u8 (x.kd : Int)) ∧ W.cell? ⟨b, off + i * 6 + 5, none⟩ = some (.int .i64 x.n)) ∧ W.cell? ⟨b, off + j * 6, none⟩ = some (.string y.s.m) ∧ W.cell? ⟨b, off + j * 6 + 1, none⟩ = some (.slice ty ny cy) ∧ W.cell? ⟨b, off + j * 6 + 2, none⟩ = some (.string y.s.f) ∧ W.cell? ⟨b, off + j * 6 + 3, none⟩ = some (.int .i64 y.tm) ∧ W.cell? ⟨b, off + j * 6 + 4, none⟩ = some (.int .u8 (y.kd : Int)) ∧ W.cell? ⟨b, off + j * 6 + 5, none⟩ = some (.int .i64 y.n)) (by kernel_rfl) ⟨⟨a0, x1, x2, x3, x4, x5, x6⟩, y1, y2, y3, y4, y5, y6⟩ (fun hHeld => ?_)
  refine wpAnyH_take (i := 0) (oi := _) (v := ?_) rfl (by kernel_rfl) (by kernel_rfl) (by kernel_rfl) (fun _ _ _ h => h) (Or.inl ⟨by rfl, ?_⟩) (by assumption) ?_
  rotate_left 1
  · (intro w0 hSw; (try dsimp only at hSw); obtain ⟨⟨s0, s1, s2, s3, s4, s5, s6⟩, t1, t2, t3, t4, t5, t6⟩ := hSw; go_simp; try with_reducible rfl)
  (try simp only [List.getElem_toArray, List.getElem_cons_succ, List.getElem_cons_zero]); (try simp only [Act.put, List.setIfInBounds_toArray, List.set_cons_zero, List.set_cons_succ])
  refine wpAnyH_take (i := 1) (oi := _) (v := ?_) rfl (by kernel_rfl) (by kernel_rfl) (by kernel_rfl) (fun _ _ _ h => h) (Or.inl ⟨by rfl, ?_⟩) (by assumption) ?_
  rotate_left 1
  · (intro w0 hSw; (try dsimp only at hSw); obtain ⟨⟨s0, s1, s2, s3, s4, s5, s6⟩, t1, t2, t3, t4, t5, t6⟩ := hSw; go_simp; try with_reducible rfl)
  (try simp only [List.getElem_toArray, List.getElem_cons_succ, List.getElem_cons_zero]); (try simp only [Act.put, List.setIfInBounds_toArray, List.set_cons_zero, List.set_cons_succ])
  refine wpAnyH_take (i := 2) (oi := _) (v := ?_) rfl (by kernel_rfl) (by kernel_rfl) (by kernel_rfl) (fun _ _ _ h => h) (Or.inl ⟨by rfl, ?_⟩) (by assumption) ?_
  rotate_left 1
  · (intro w0 hSw; (try dsimp only at hSw); obtain ⟨⟨s0, s1, s2, s3, s4, s5, s6⟩, t1, t2, t3, t4, t5, t6⟩ := hSw; go_simp; try with_reducible rfl)
  (try simp only [List.getElem_toArray, List.getElem_cons_succ, List.getElem_cons_zero]); (try simp only [Act.put, List.setIfInBounds_toArray, List.set_cons_zero, List.set_cons_succ])
  refine wpAnyH_take (i := 3) (oi := _) (v := ?_) rfl (by kernel_rfl) (by kernel_rfl) (by kernel_rfl) (fun _ _ _ h => h) (Or.inl ⟨by rfl, ?_⟩) (by assumption) ?_
  rotate_left 1
  · (intro w0 hSw; (try dsimp only at hSw); obtain ⟨⟨s0, s1, s2, s3, s4, s5, s6⟩, t1, t2, t3, t4, t5, t6⟩ := hSw; go_simp; try with_reducible rfl)
  (try simp only [List.getElem_toArray, List.getElem_cons_succ, List.getElem_cons_zero]); (try simp only [Act.put, List.setIfInBounds_toArray, List.set_cons_zero, List.set_cons_succ])
  refine wpAnyH_take (i := 4) (oi := _) (v := ?_) rfl (by kernel_rfl) (by kernel_rfl) (by kernel_rfl) (fun _ _ _ h => h) (Or.inl ⟨by rfl, ?_⟩) (by assumption) ?_
  rotate_left 1
  · (intro w0 hSw; (try dsimp only at hSw); obtain ⟨⟨s0, s1, s2, s3, s4, s5, s6⟩, t1, t2, t3, t4, t5, t6⟩ := hSw; go_simp; try with_reducible rfl)
  (try simp only [List.getElem_toArray, List.getElem_cons_succ, List.getElem_cons_zero]); (try simp only [Act.put, List.setIfInBounds_toArray, List.set_cons_zero, List.set_cons_succ])
  refine wpAnyH_take (i := 5) (oi := _) (v := ?_) rfl (by kernel_rfl) (by kernel_rfl) (by kernel_rfl) (fun _ _ _ h => h) (Or.inl ⟨by rfl, ?_⟩) (by assumption) ?_
  rotate_left 1
  · (intro w0 hSw; (try dsimp only at hSw); obtain ⟨⟨s0, s1, s2, s3, s4, s5, s6⟩, t1, t2, t3, t4, t5, t6⟩ := hSw; go_simp; try with_reducible rfl)
  (try simp only [List.getElem_toArray, List.getElem_cons_succ, List.getElem_cons_zero]); (try simp only [Act.put, List.setIfInBounds_toArray, List.set_cons_zero, List.set_cons_succ])
  refine wpAnyH_take (i := 6) (oi := _) (v := ?_) rfl (by kernel_rfl) (by kernel_rfl) (by kernel_rfl) (fun _ _ _ h => h) (Or.inl ⟨by rfl, ?_⟩) (by assumption) ?_
  rotate_left 1
  · (intro w0 hSw; (try dsimp only at hSw); obtain ⟨⟨s0, s1, s2, s3, s4, s5, s6⟩, t1, t2, t3, t4, t5, t6⟩ := hSw; go_simp; try with_reducible rfl)
  (try simp only [List.getElem_toArray, List.getElem_cons_succ, List.getElem_cons_zero]); (try simp only [Act.put, List.setIfInBounds_toArray, List.set_cons_zero, List.set_cons_succ])
  refine wpAnyH_take (i := 7) (oi := _) (v := ?_) rfl (by kernel_rfl) (by kernel_rfl) (by kernel_rfl) (fun _ _ _ h => h) (Or.inl ⟨by rfl, ?_⟩) (by assumption) ?_
  rotate_left 1
  · (intro w0 hSw; (try dsimp only at hSw); obtain ⟨⟨s0, s1, s2, s3, s4, s5, s6⟩, t1, t2, t3, t4, t5, t6⟩ := hSw; go_simp; try with_reducible rfl)
  (try simp only [List.getElem_toArray, List.getElem_cons_succ, List.getElem_cons_zero]); (try simp only [Act.put, List.setIfInBounds_toArray, List.set_cons_zero, List.set_cons_succ])
  refine wpAnyH_ready (rs := [8]) (by kernel_rfl) (by simp) ?_
  refine AllReadyH.cons (o := _) rfl (fun K hK => ?_) AllReadyH.nil
  go_simp
  refine Calls.mono (CH.out _ (show Below w.heap.size w W.drew from BH.out.drew)) ?_
  rintro e w' ⟨rfl, BB⟩
  try dsimp only
  refine hK _ _ ?_ (fun hHeld => ?_)
  · exact ⟨⟨by rw [BB.cell (p := ⟨P1, 0, none⟩) pl]; exact a0, by rw [BB.cell (p := ⟨b, off + i * 6, none⟩) bl]; exact x1, by rw [BB.cell (p := ⟨b, off + i * 6 + 1, none⟩) bl]; exact x2, by rw [BB.cell (p := ⟨b, off + i * 6 + 2, none⟩) bl]; exact x3, by rw [BB.cell (p := ⟨b, off + i * 6 + 3, none⟩) bl]; exact x4, by rw [BB.cell (p := ⟨b, off + i * 6 + 4, none⟩) bl]; exact x5, by rw [BB.cell (p := ⟨b, off + i * 6 + 5, none⟩) bl]; exact x6⟩, by rw [BB.cell (p := ⟨b, off + j * 6, none⟩) bl]; exact y1, by rw [BB.cell (p := ⟨b, off + j * 6 + 1, none⟩) bl]; exact y2, by rw [BB.cell (p := ⟨b, off + j * 6 + 2, none⟩) bl]; exact y3, by rw [BB.cell (p := ⟨b, off + j * 6 + 3, none⟩) bl]; exact y4, by rw [BB.cell (p := ⟨b, off + j * 6 + 4, none⟩) bl]; exact y5, by rw [BB.cell (p := ⟨b, off + j * 6 + 5, none⟩) bl]; exact y6⟩
  clear hK K
  (try simp only [List.getElem_toArray, List.getElem_cons_succ, List.getElem_cons_zero]); (try simp only [Act.put, List.setIfInBounds_toArray, List.set_cons_zero, List.set_cons_succ])
  refine wpAnyH_take (i := 9) (oi := _) (v := ?_) rfl (by kernel_rfl) (by kernel_rfl) (by kernel_rfl) (fun _ _ _ h => h) (Or.inl ⟨by rfl, ?_⟩) (by assumption) ?_
  rotate_left 1
  · (intro w0 hSw; (try dsimp only at hSw); obtain ⟨⟨s0, s1, s2, s3, s4, s5, s6⟩, t1, t2, t3, t4, t5, t6⟩ := hSw; go_simp; try with_reducible rfl)
  (try simp only [List.getElem_toArray, List.getElem_cons_succ, List.getElem_cons_zero]); (try simp only [Act.put, List.setIfInBounds_toArray, List.set_cons_zero, List.set_cons_succ])
  refine wpAnyH_done (by kernel_rfl) ?_ _
  refine NoPanic.normal ?_
  have fin : Hid (Below W.heap.size W w') := (show Below W.heap.size W W.drew from (Below.refl _ W).drew).trans BB
  clear BB BH CH a0 x1 x2 x3 x4 x5 x6 y1 y2 y3 y4 y5 y6 hHeld
  by_cases h1 : cv < 0
  · have h1d : decide (cv < 0) = true := decide_eq_true h1
    have r : Hid (bv = true) := by have := RES.out; rw [h1d] at this; show bv = true; simpa using this
    clear RES
    go_wp2_with fail
    go_ret
    exact ⟨by rw [r.out]; rfl, fin.out⟩
  · have h1d : decide (cv < 0) = false := decide_eq_false h1
    by_cases h2 : cv = 0
    · have h2b : (cv == 0) = true := by simpa using h2
      have r : Hid (bv = decide (j < i)) := by have := RES.out; rw [h1d, decide_eq_true h2] at this; show bv = decide (j < i); simpa using this
      clear RES
      subst h2
      by_cases h3 : j < i
      · have h3I : (i : Int) > (j : Int) := by omega
        have h3J : (j : Int) < (i : Int) := by omega
        have r2 : Hid (bv = true) := by have := r.out; rw [decide_eq_true h3] at this; exact this
        clear r
        go_wp2_with fail
        go_ret
        exact ⟨by rw [r2.out]; rfl, fin.out⟩
      · have h3I : ¬ (i : Int) > (j : Int) := by omega
        have h3J : ¬ (j : Int) < (i : Int) := by omega
        have r2 : Hid (bv = false) := by have := r.out; rw [decide_eq_false h3] at this; exact this
        clear r
        go_wp2_with fail
        go_ret
        exact ⟨by rw [r2.out]; rfl, fin.out⟩
    · have h2b : (cv == 0) = false := by simpa using h2
      have r : Hid (bv = false) := by have := RES.out; rw [h1d, decide_eq_false h2] at this; show bv = false; simpa using this
      clear RES h2
      go_wp2_with fail
      go_ret
      exact ⟨by rw [r.out]; rfl, fin.out⟩
end Go.Proofs.Ytlcppkemiogbeaa
