
import Derived.Test.YtlogghajbhllhaaDoorBcHq
namespace Go.Proofs.YtlogghajbhllhaaDoor
open Go.RowKit _root_.Go.Proofs.YtlogghajbhllhaaDoor.So
set_option linter.unusedVariables false
set_option linter.unusedSimpArgs false
theorem LW_sw : ∀ {l : List WrP}, SW l → ∀ e, LW l e ↔ e ∈ l
  | [], _, e => by simp [LW]
  | x :: l, h, e => by
    obtain ⟨h1, h2⟩ := List.pairwise_cons.1 h
    rw [LW.cons, LW_sw h2 e, List.mem_cons]
    constructor
    · rintro (⟨rfl, _⟩ | h3)
      · exact Or.inl rfl
      · exact Or.inr h3
    · rintro (rfl | h3)
      · exact Or.inl ⟨rfl, fun y hy h0 => by have := h1 y hy; omega⟩
      · exact Or.inr h3
theorem odD_sw (l : List WrP) : SW (odD l) := (odD_ok _ l (Nat.le_refl _)).1
theorem odD_idem (l : List WrP) : odD (odD l) = odD l := by
  obtain ⟨c1, c2⟩ := odD_ok _ (odD l) (Nat.le_refl _)
  exact sw_uniq _ _ c1 (odD_sw l) fun e => by rw [c2 e, LW_sw (odD_sw l)]
theorem odD_two_is (l m : List WrP) : odD (odD l ++ odD m) = odD (l ++ m) := by rw [odD_app, odD_app, odD_idem, odD_idem]
theorem odD_nil (l : List WrP) : 0 < (odD l).length ↔ 0 < l.length := by
  constructor
  · intro h; have := odD_len l; omega
  · intro h
    rcases l with _ | ⟨x, l⟩
    · simp at h
    · obtain ⟨z, hz, _⟩ := LW.ex (l := x :: l) (y := x) (by simp)
      have := (odD_ok _ (x :: l) (Nat.le_refl _)).2 z
      exact List.length_pos_of_mem (this.2 hz)
theorem odD_tags (l : List WrP) (h : ∀ x ∈ l, x.s.t.length ≤ 4398046511104) : ∀ x ∈ odD l, x.s.t.length ≤ 4398046511104 := fun x hx => h x (((odD_ok _ l (Nat.le_refl _)).2 x).1 hx).mem
theorem wC_m1 {x y : WrP} (h : wC x y < 0) : wC x y = -1 ∧ wC y x = 1 := by
  have h1 : wC x y = -1 ∨ wC x y = 0 ∨ wC x y = 1 := kC_is.range _ _
  have := wC_flip x y
  omega
set_option maxRecDepth 100000 in
set_option maxHeartbeats 16000000 in
theorem batchOnce_walk (a a2 : Option Addr) (c c2 : Nat) (l m : List WrP) (w : World) (ha : WIn w a l) (hb : WIn w a2 m) (hc : l.length ≤ c) (hc2 : m.length ≤ c2) (hl : l.length ≤ 268435456) (hm : m.length ≤ 268435456) (htl : ∀ x ∈ l, x.s.t.length ≤ 4398046511104) (htm : ∀ x ∈ m, x.s.t.length ≤ 4398046511104) (hT : UT w) (hE : ET w) :
    Calls Tryd.prog 4 #[.slice a l.length c, .slice a2 m.length c2] w fun e w' => e = .returned (.bool true) ∧ Below w.heap.size w w' := by
  have l1 := odD_len l
  have l2 := odD_len m
  have cO : Hid (Calls Tryd.prog 10 #[.slice a l.length c] w fun e w' => ∃ a' z c', e = .returned (.slice a' z c') ∧ z = (odD l).length ∧ z ≤ c' ∧ WIn w' a' (odD l) ∧ Below w.heap.size w w') := (orderD _ c l w ha (by omega) htl).mono fun e w' hh => same_od hh
  have cL : Hid (∀ W, Below w.heap.size w W → Calls Tryd.prog 8 #[] W fun e w' => e = .returned (.bool true) ∧ Below W.heap.size W w') := fun W hW => blive_any W (hT.below hW (Nat.le_refl _)) (ET_below hE hW)
  have cP : Hid (∀ W a1 z1 c1, z1 = (odD l).length → WIn W a1 (odD l) → Calls Tryd.prog 10 #[.slice a1 z1 c1] W fun e w' => ∃ a' z c', e = .returned (.slice a' z c') ∧ z = (odD l).length ∧ z ≤ c' ∧ WIn w' a' (odD l) ∧ Below W.heap.size W w') := fun W a1 z1 c1 e h => by
    subst e
    have := (orderD a1 c1 (odD l) W h (by omega) (odD_tags l htl)).mono fun e w' hh => same_od hh
    rwa [odD_idem] at this
  have cQ : Hid (∀ W, Below w.heap.size w W → Calls Tryd.prog 10 #[.slice a2 m.length c2] W fun e w' => ∃ a' z c', e = .returned (.slice a' z c') ∧ z = (odD m).length ∧ z ≤ c' ∧ WIn w' a' (odD m) ∧ Below W.heap.size W w') := fun W hW => (orderD _ c2 m W (hb.below hW) (by omega) htm).mono fun e w' hh => same_od hh
  have cM : Hid (∀ W, Below w.heap.size w W → Calls Tryd.prog 12 #[.slice a l.length c, .slice a2 m.length c2] W fun e w' => ∃ a' z c', e = .returned (.slice a' z c') ∧ z = (odD (l ++ m)).length ∧ z ≤ c' ∧ WIn w' a' (odD (l ++ m)) ∧ Below W.heap.size W w') := fun W hW => (bmerge_any a a2 c c2 l m W (ha.below hW) (hb.below hW) (by omega) htl htm).mono fun e w' hh => same_od hh
  have cN : Hid (∀ W a1 z1 c1 a3 z3 c3, z1 = (odD l).length → WIn W a1 (odD l) → z3 = (odD m).length → WIn W a3 (odD m) → Calls Tryd.prog 12 #[.slice a1 z1 c1, .slice a3 z3 c3] W fun e w' => ∃ a' z c', e = .returned (.slice a' z c') ∧ z = (odD (l ++ m)).length ∧ z ≤ c' ∧ WIn w' a' (odD (l ++ m)) ∧ Below W.heap.size W w') := fun W a1 z1 c1 a3 z3 c3 e h e' h' => by
    subst e e'
    have := (bmerge_any a1 a3 c1 c3 (odD l) (odD m) W h h' (by omega) (odD_tags l htl) (odD_tags m htm)).mono fun e w' hh => same_od hh
    rwa [odD_two_is] at this
  have cS1 : Hid (∀ W a' a3 z z' c' c3, z = (odD l).length → z' = (odD l).length → WIn W a' (odD l) → WIn W a3 (odD l) → Calls Tryd.prog 9 #[.slice a' z c', .slice a3 z' c3] W fun e w' => e = .returned (.bool true) ∧ Below W.heap.size W w') := fun W a' a3 z z' c' c3 e e' h1 h2 => by
    subst e e'
    exact sameWrites_true a' a3 c' c3 _ W h1 h2 (by omega)
  have cS2 : Hid (∀ W a' a3 z z' c' c3, z = (odD (l ++ m)).length → z' = (odD (l ++ m)).length → WIn W a' (odD (l ++ m)) → WIn W a3 (odD (l ++ m)) → Calls Tryd.prog 9 #[.slice a' z c', .slice a3 z' c3] W fun e w' => e = .returned (.bool true) ∧ Below W.heap.size W w') := fun W a' a3 z z' c' c3 e e' h1 h2 => by
    subst e e'
    exact sameWrites_true a' a3 c' c3 _ W h1 h2 (by have := odD_len (l ++ m); rw [List.length_append] at this; omega)
  have swH : Hid (SW (odD l)) := odD_sw l
  have zH : Hid ((odD l).length ≤ l.length ∧ (0 < (odD l).length ↔ 0 < l.length) ∧ l.length ≤ 268435456) := ⟨l1, odD_nil l, hl⟩
  clear ha hb hc hc2 hl hm htl htm hT hE l1 l2
  generalize l.length = n1 at *
  generalize m.length = n2 at *
  go_enter Tryd.func4, Tryd.ntmps4
  go_wp2_with fail
  refine Calls.mono cO.out ?_
  rintro e w1 ⟨a1, z1, c1, rfl, e1, _, r1, b1⟩
  have e1H : Hid (z1 = (odD l).length) := e1
  have z1b : z1 ≤ 268435456 := by rw [e1]; have := zH.out; omega
  have r1H : Hid (WIn w1 a1 (odD l)) := r1
  have b1H : Hid (Below w.heap.size w w1) := b1
  have B0 : Hid (Below w1.heap.size w1 w1) := Below.refl _ _
  clear e1 r1 b1 cO
  go_wp2_with fail
  go_loopw [6] (fun v wr => ∃ (i : Nat), v = .int .i64 (i : Int) ∧ 1 ≤ i ∧ (i ≤ z1 ∨ i = 1) ∧ Hid (Below w1.heap.size w1 wr)) (fun v _ => z1 - (intOf v).toNat)
  case atStart => exact ⟨1, rfl, Nat.le_refl _, Or.inr rfl, B0⟩
  case round =>
    clear B0
    obtain ⟨i, rfl, i1, il, BH⟩ := hrel
    have i0 : (0 : Int) ≤ (i : Int) := by omega
    have wi : IntKind.i64.wrap ((i : Int) + 1) = ((i + 1 : Nat) : Int) := IntWalk.i64_in _ (by omega)
    by_cases hi : i < z1
    · have iI : (i : Int) < (z1 : Int) := by omega
      obtain ⟨q, hq⟩ : ∃ q, i = q + 1 := ⟨i - 1, by omega⟩
      have hqH : Hid (i = q + 1) := hq
      have wq : IntKind.i64.wrap ((i : Int) - 1) = (q : Int) := by rw [hq]; exact (IntWalk.i64_in _ (by omega)).trans (by omega)
      have q0 : (0 : Int) ≤ (q : Int) := by omega
      have qI : (q : Int) < (z1 : Int) := by omega
      have hiL : i < (odD l).length := by rw [← e1H.out]; exact hi
      have hqL : q < (odD l).length := by omega
      obtain ⟨b, off, tx, cx, e1, hbx, ax, fx⟩ := r1H.out.at BH.out (atW_some hqL)
      obtain ⟨b', off', ty, cy, e2, hby, ay, fy⟩ := r1H.out.at BH.out (atW_some hiL)
      rw [e1] at e2
      injection e2 with e2
      injection e2 with e3 e4
      subst e3 e4
      subst e1
      have lt := wC_m1 ((List.pairwise_iff_getElem.1 swH.out) q i hqL hiL (by omega))
      have g1 : (odD l)[q] = atW (odD l) q := by have := atW_some hqL; rw [List.getElem?_eq_getElem hqL] at this; exact Option.some.inj this
      have g2 : (odD l)[i] = atW (odD l) i := by have := atW_some hiL; rw [List.getElem?_eq_getElem hiL] at this; exact Option.some.inj this
      rw [g1, g2] at lt
      have C1 : Hid (∀ W', Below w1.heap.size w1 W' → Calls Tryd.prog 6 #[wV (atW (odD l) q) tx cx, wV (atW (odD l) i) ty cy] W' fun e w' => e = .returned (.int .i64 (-1)) ∧ Below W'.heap.size W' w') := fun W' hW' => by
        have := bcompare_any (atW (odD l) q) (atW (odD l) i) tx ty cx cy W' (fx W' hW').2 (fy W' hW').2
        rw [lt.1] at this
        exact this
      have C2 : Hid (∀ W', Below w1.heap.size w1 W' → Calls Tryd.prog 6 #[wV (atW (odD l) i) ty cy, wV (atW (odD l) q) tx cx] W' fun e w' => e = .returned (.int .i64 1) ∧ Below W'.heap.size W' w') := fun W' hW' => by
        have := bcompare_any (atW (odD l) i) (atW (odD l) q) ty tx cy cx W' (fy W' hW').2 (fx W' hW').2
        rw [lt.2] at this
        exact this
      have bl : b < wr.heap.size := Nat.lt_of_lt_of_le hbx BH.out.size
      clear fx fy hbx hby lt g1 g2 hiL hqL hq
      unfold wV at C1 C2
      unfold WAt at ax ay
      generalize atW (odD l) q = x at ax C1 C2
      generalize atW (odD l) i = y at ay C1 C2
      generalize x.s.t.length = nx at ax C1 C2
      generalize y.s.t.length = ny at ay C1 C2
      obtain ⟨x1, x2, x3, x4, x5, x6⟩ := ax
      obtain ⟨y1, y2, y3, y4, y5, y6⟩ := ay
      go_wp2_with fail
      refine wp_region_noPanic ?_
      refine wp_region_held_drew (S := fun W => (W.cell? ⟨b, off + q * 6, none⟩ = some (.string x.s.m) ∧ W.cell? ⟨b, off + q * 6 + 1, none⟩ = some (.slice tx nx cx) ∧ W.cell? ⟨b, off + q * 6 + 2, none⟩ = some (.string x.s.f) ∧ W.cell? ⟨b, off + q * 6 + 3, none⟩ = some (.int .i64 x.tm) ∧ W.cell? ⟨b, off + q * 6 + 4, none⟩ = some (.int .u8 (x.kd : Int)) ∧ W.cell? ⟨b, off + q * 6 + 5, none⟩ = some (.int .i64 x.n)) ∧ W.cell? ⟨b, off + i * 6, none⟩ = some (.string y.s.m) ∧ W.cell? ⟨b, off + i * 6 + 1, none⟩ = some (.slice ty ny cy) ∧ W.cell? ⟨b, off + i * 6 + 2, none⟩ = some (.string y.s.f) ∧ W.cell? ⟨b, off + i * 6 + 3, none⟩ = some (.int .i64 y.tm) ∧ W.cell? ⟨b, off + i * 6 + 4, none⟩ = some (.int .u8 (y.kd : Int)) ∧ W.cell? ⟨b, off + i * 6 + 5, none⟩ = some (.int .i64 y.n)) (by kernel_rfl) ⟨⟨x1, x2, x3, x4, x5, x6⟩, y1, y2, y3, y4, y5, y6⟩ (fun hHeld => ?_)
      refine wpAnyH_take (i := 0) (oi := _) (v := ?_) rfl (by kernel_rfl) (by kernel_rfl) (by kernel_rfl) (fun _ _ _ h => h) (Or.inl ⟨by rfl, ?_⟩) (by assumption) ?_
      rotate_left 1
      · (intro w0 hSw; (try dsimp only at hSw); obtain ⟨⟨s1, s2, s3, s4, s5, s6⟩, t1, t2, t3, t4, t5, t6⟩ := hSw; go_simp; try with_reducible rfl)
      (try simp only [List.getElem_toArray, List.getElem_cons_succ, List.getElem_cons_zero]); (try simp only [Act.put, List.setIfInBounds_toArray, List.set_cons_zero, List.set_cons_succ])
      refine wpAnyH_take (i := 1) (oi := _) (v := ?_) rfl (by kernel_rfl) (by kernel_rfl) (by kernel_rfl) (fun _ _ _ h => h) (Or.inl ⟨by rfl, ?_⟩) (by assumption) ?_
      rotate_left 1
      · (intro w0 hSw; (try dsimp only at hSw); obtain ⟨⟨s1, s2, s3, s4, s5, s6⟩, t1, t2, t3, t4, t5, t6⟩ := hSw; go_simp; try with_reducible rfl)
      (try simp only [List.getElem_toArray, List.getElem_cons_succ, List.getElem_cons_zero]); (try simp only [Act.put, List.setIfInBounds_toArray, List.set_cons_zero, List.set_cons_succ])
      refine wpAnyH_take (i := 2) (oi := _) (v := ?_) rfl (by kernel_rfl) (by kernel_rfl) (by kernel_rfl) (fun _ _ _ h => h) (Or.inl ⟨by rfl, ?_⟩) (by assumption) ?_
      rotate_left 1
      · (intro w0 hSw; (try dsimp only at hSw); obtain ⟨⟨s1, s2, s3, s4, s5, s6⟩, t1, t2, t3, t4, t5, t6⟩ := hSw; go_simp; try with_reducible rfl)
      (try simp only [List.getElem_toArray, List.getElem_cons_succ, List.getElem_cons_zero]); (try simp only [Act.put, List.setIfInBounds_toArray, List.set_cons_zero, List.set_cons_succ])
      refine wpAnyH_take (i := 3) (oi := _) (v := ?_) rfl (by kernel_rfl) (by kernel_rfl) (by kernel_rfl) (fun _ _ _ h => h) (Or.inl ⟨by rfl, ?_⟩) (by assumption) ?_
      rotate_left 1
      · (intro w0 hSw; (try dsimp only at hSw); obtain ⟨⟨s1, s2, s3, s4, s5, s6⟩, t1, t2, t3, t4, t5, t6⟩ := hSw; go_simp; try with_reducible rfl)
      (try simp only [List.getElem_toArray, List.getElem_cons_succ, List.getElem_cons_zero]); (try simp only [Act.put, List.setIfInBounds_toArray, List.set_cons_zero, List.set_cons_succ])
      refine wpAnyH_take (i := 4) (oi := _) (v := ?_) rfl (by kernel_rfl) (by kernel_rfl) (by kernel_rfl) (fun _ _ _ h => h) (Or.inl ⟨by rfl, ?_⟩) (by assumption) ?_
      rotate_left 1
      · (intro w0 hSw; (try dsimp only at hSw); obtain ⟨⟨s1, s2, s3, s4, s5, s6⟩, t1, t2, t3, t4, t5, t6⟩ := hSw; go_simp; try with_reducible rfl)
      (try simp only [List.getElem_toArray, List.getElem_cons_succ, List.getElem_cons_zero]); (try simp only [Act.put, List.setIfInBounds_toArray, List.set_cons_zero, List.set_cons_succ])
      refine wpAnyH_take (i := 5) (oi := _) (v := ?_) rfl (by kernel_rfl) (by kernel_rfl) (by kernel_rfl) (fun _ _ _ h => h) (Or.inl ⟨by rfl, ?_⟩) (by assumption) ?_
      rotate_left 1
      · (intro w0 hSw; (try dsimp only at hSw); obtain ⟨⟨s1, s2, s3, s4, s5, s6⟩, t1, t2, t3, t4, t5, t6⟩ := hSw; go_simp; try with_reducible rfl)
      (try simp only [List.getElem_toArray, List.getElem_cons_succ, List.getElem_cons_zero]); (try simp only [Act.put, List.setIfInBounds_toArray, List.set_cons_zero, List.set_cons_succ])
      refine wpAnyH_take (i := 6) (oi := _) (v := ?_) rfl (by kernel_rfl) (by kernel_rfl) (by kernel_rfl) (fun _ _ _ h => h) (Or.inl ⟨by rfl, ?_⟩) (by assumption) ?_
      rotate_left 1
      · (intro w0 hSw; (try dsimp only at hSw); obtain ⟨⟨s1, s2, s3, s4, s5, s6⟩, t1, t2, t3, t4, t5, t6⟩ := hSw; go_simp; try with_reducible rfl)
      (try simp only [List.getElem_toArray, List.getElem_cons_succ, List.getElem_cons_zero]); (try simp only [Act.put, List.setIfInBounds_toArray, List.set_cons_zero, List.set_cons_succ])
      refine wpAnyH_take (i := 7) (oi := _) (v := ?_) rfl (by kernel_rfl) (by kernel_rfl) (by kernel_rfl) (fun _ _ _ h => h) (Or.inl ⟨by rfl, ?_⟩) (by assumption) ?_
      rotate_left 1
      · (intro w0 hSw; (try dsimp only at hSw); obtain ⟨⟨s1, s2, s3, s4, s5, s6⟩, t1, t2, t3, t4, t5, t6⟩ := hSw; go_simp; try with_reducible rfl)
      (try simp only [List.getElem_toArray, List.getElem_cons_succ, List.getElem_cons_zero]); (try simp only [Act.put, List.setIfInBounds_toArray, List.set_cons_zero, List.set_cons_succ])
      refine wpAnyH_take (i := 8) (oi := _) (v := ?_) rfl (by kernel_rfl) (by kernel_rfl) (by kernel_rfl) (fun _ _ _ h => h) (Or.inl ⟨by rfl, ?_⟩) (by assumption) ?_
      rotate_left 1
      · (intro w0 hSw; (try dsimp only at hSw); obtain ⟨⟨s1, s2, s3, s4, s5, s6⟩, t1, t2, t3, t4, t5, t6⟩ := hSw; go_simp; try with_reducible rfl)
      (try simp only [List.getElem_toArray, List.getElem_cons_succ, List.getElem_cons_zero]); (try simp only [Act.put, List.setIfInBounds_toArray, List.set_cons_zero, List.set_cons_succ])
      refine wpAnyH_ready (rs := [9]) (by kernel_rfl) (by simp) ?_
      refine AllReadyH.cons (o := _) rfl (fun K hK => ?_) AllReadyH.nil
      go_simp
      refine Calls.mono (C1.out _ (show Below w1.heap.size w1 wr.drew from BH.out.drew)) ?_
      rintro e w4 ⟨rfl, BB⟩
      have B4 : Hid (Below w1.heap.size w1 w4) := (show Below w1.heap.size w1 wr.drew from BH.out.drew).trans (BB.mono BH.out.size)
      try dsimp only
      refine hK _ _ ⟨⟨by rw [BB.cell (p := ⟨b, off + q * 6, none⟩) bl]; exact x1, by rw [BB.cell (p := ⟨b, off + q * 6 + 1, none⟩) bl]; exact x2, by rw [BB.cell (p := ⟨b, off + q * 6 + 2, none⟩) bl]; exact x3, by rw [BB.cell (p := ⟨b, off + q * 6 + 3, none⟩) bl]; exact x4, by rw [BB.cell (p := ⟨b, off + q * 6 + 4, none⟩) bl]; exact x5, by rw [BB.cell (p := ⟨b, off + q * 6 + 5, none⟩) bl]; exact x6⟩, by rw [BB.cell (p := ⟨b, off + i * 6, none⟩) bl]; exact y1, by rw [BB.cell (p := ⟨b, off + i * 6 + 1, none⟩) bl]; exact y2, by rw [BB.cell (p := ⟨b, off + i * 6 + 2, none⟩) bl]; exact y3, by rw [BB.cell (p := ⟨b, off + i * 6 + 3, none⟩) bl]; exact y4, by rw [BB.cell (p := ⟨b, off + i * 6 + 4, none⟩) bl]; exact y5, by rw [BB.cell (p := ⟨b, off + i * 6 + 5, none⟩) bl]; exact y6⟩ (fun hHeld => ?_)
      clear hK K
      (try simp only [List.getElem_toArray, List.getElem_cons_succ, List.getElem_cons_zero]); (try simp only [Act.put, List.setIfInBounds_toArray, List.set_cons_zero, List.set_cons_succ])
      refine wpAnyH_take (i := 10) (oi := _) (v := ?_) rfl (by kernel_rfl) (by kernel_rfl) (by kernel_rfl) (fun _ _ _ h => h) (Or.inl ⟨by rfl, ?_⟩) (by assumption) ?_
      rotate_left 1
      · (intro w0 hSw; (try dsimp only at hSw); obtain ⟨⟨s1, s2, s3, s4, s5, s6⟩, t1, t2, t3, t4, t5, t6⟩ := hSw; go_simp; try with_reducible rfl)
      (try simp only [List.getElem_toArray, List.getElem_cons_succ, List.getElem_cons_zero]); (try simp only [Act.put, List.setIfInBounds_toArray, List.set_cons_zero, List.set_cons_succ])
      refine wpAnyH_take (i := 11) (oi := _) (v := ?_) rfl (by kernel_rfl) (by kernel_rfl) (by kernel_rfl) (fun _ _ _ h => h) (Or.inl ⟨by rfl, ?_⟩) (by assumption) ?_
      rotate_left 1
      · (intro w0 hSw; (try dsimp only at hSw); obtain ⟨⟨s1, s2, s3, s4, s5, s6⟩, t1, t2, t3, t4, t5, t6⟩ := hSw; go_simp; try with_reducible rfl)
      (try simp only [List.getElem_toArray, List.getElem_cons_succ, List.getElem_cons_zero]); (try simp only [Act.put, List.setIfInBounds_toArray, List.set_cons_zero, List.set_cons_succ])
      refine wpAnyH_take (i := 12) (oi := _) (v := ?_) rfl (by kernel_rfl) (by kernel_rfl) (by kernel_rfl) (fun _ _ _ h => h) (Or.inl ⟨by rfl, ?_⟩) (by assumption) ?_
      rotate_left 1
      · (intro w0 hSw; (try dsimp only at hSw); obtain ⟨⟨s1, s2, s3, s4, s5, s6⟩, t1, t2, t3, t4, t5, t6⟩ := hSw; go_simp; try with_reducible rfl)
      (try simp only [List.getElem_toArray, List.getElem_cons_succ, List.getElem_cons_zero]); (try simp only [Act.put, List.setIfInBounds_toArray, List.set_cons_zero, List.set_cons_succ])
      refine wpAnyH_take (i := 13) (oi := _) (v := ?_) rfl (by kernel_rfl) (by kernel_rfl) (by kernel_rfl) (fun _ _ _ h => h) (Or.inl ⟨by rfl, ?_⟩) (by assumption) ?_
      rotate_left 1
      · (intro w0 hSw; (try dsimp only at hSw); obtain ⟨⟨s1, s2, s3, s4, s5, s6⟩, t1, t2, t3, t4, t5, t6⟩ := hSw; go_simp; try with_reducible rfl)
      (try simp only [List.getElem_toArray, List.getElem_cons_succ, List.getElem_cons_zero]); (try simp only [Act.put, List.setIfInBounds_toArray, List.set_cons_zero, List.set_cons_succ])
      refine wpAnyH_take (i := 14) (oi := _) (v := ?_) rfl (by kernel_rfl) (by kernel_rfl) (by kernel_rfl) (fun _ _ _ h => h) (Or.inl ⟨by rfl, ?_⟩) (by assumption) ?_
      rotate_left 1
      · (intro w0 hSw; (try dsimp only at hSw); obtain ⟨⟨s1, s2, s3, s4, s5, s6⟩, t1, t2, t3, t4, t5, t6⟩ := hSw; go_simp; try with_reducible rfl)
      (try simp only [List.getElem_toArray, List.getElem_cons_succ, List.getElem_cons_zero]); (try simp only [Act.put, List.setIfInBounds_toArray, List.set_cons_zero, List.set_cons_succ])
      refine wpAnyH_take (i := 15) (oi := _) (v := ?_) rfl (by kernel_rfl) (by kernel_rfl) (by kernel_rfl) (fun _ _ _ h => h) (Or.inl ⟨by rfl, ?_⟩) (by assumption) ?_
      rotate_left 1
      · (intro w0 hSw; (try dsimp only at hSw); obtain ⟨⟨s1, s2, s3, s4, s5, s6⟩, t1, t2, t3, t4, t5, t6⟩ := hSw; go_simp; try with_reducible rfl)
      (try simp only [List.getElem_toArray, List.getElem_cons_succ, List.getElem_cons_zero]); (try simp only [Act.put, List.setIfInBounds_toArray, List.set_cons_zero, List.set_cons_succ])
      refine wpAnyH_take (i := 16) (oi := _) (v := ?_) rfl (by kernel_rfl) (by kernel_rfl) (by kernel_rfl) (fun _ _ _ h => h) (Or.inl ⟨by rfl, ?_⟩) (by assumption) ?_
      rotate_left 1
      · (intro w0 hSw; (try dsimp only at hSw); obtain ⟨⟨s1, s2, s3, s4, s5, s6⟩, t1, t2, t3, t4, t5, t6⟩ := hSw; go_simp; try with_reducible rfl)
      (try simp only [List.getElem_toArray, List.getElem_cons_succ, List.getElem_cons_zero]); (try simp only [Act.put, List.setIfInBounds_toArray, List.set_cons_zero, List.set_cons_succ])
      refine wpAnyH_take (i := 17) (oi := _) (v := ?_) rfl (by kernel_rfl) (by kernel_rfl) (by kernel_rfl) (fun _ _ _ h => h) (Or.inl ⟨by rfl, ?_⟩) (by assumption) ?_
      rotate_left 1
      · (intro w0 hSw; (try dsimp only at hSw); obtain ⟨⟨s1, s2, s3, s4, s5, s6⟩, t1, t2, t3, t4, t5, t6⟩ := hSw; go_simp; try with_reducible rfl)
      (try simp only [List.getElem_toArray, List.getElem_cons_succ, List.getElem_cons_zero]); (try simp only [Act.put, List.setIfInBounds_toArray, List.set_cons_zero, List.set_cons_succ])
      refine wpAnyH_take (i := 18) (oi := _) (v := ?_) rfl (by kernel_rfl) (by kernel_rfl) (by kernel_rfl) (fun _ _ _ h => h) (Or.inl ⟨by rfl, ?_⟩) (by assumption) ?_
      rotate_left 1
      · (intro w0 hSw; (try dsimp only at hSw); obtain ⟨⟨s1, s2, s3, s4, s5, s6⟩, t1, t2, t3, t4, t5, t6⟩ := hSw; go_simp; try with_reducible rfl)
      (try simp only [List.getElem_toArray, List.getElem_cons_succ, List.getElem_cons_zero]); (try simp only [Act.put, List.setIfInBounds_toArray, List.set_cons_zero, List.set_cons_succ])
      refine wpAnyH_take (i := 19) (oi := _) (v := ?_) rfl (by kernel_rfl) (by kernel_rfl) (by kernel_rfl) (fun _ _ _ h => h) (Or.inl ⟨by rfl, ?_⟩) (by assumption) ?_
      rotate_left 1
      · (intro w0 hSw; (try dsimp only at hSw); obtain ⟨⟨s1, s2, s3, s4, s5, s6⟩, t1, t2, t3, t4, t5, t6⟩ := hSw; go_simp; try with_reducible rfl)
      (try simp only [List.getElem_toArray, List.getElem_cons_succ, List.getElem_cons_zero]); (try simp only [Act.put, List.setIfInBounds_toArray, List.set_cons_zero, List.set_cons_succ])
      refine wpAnyH_take (i := 20) (oi := _) (v := ?_) rfl (by kernel_rfl) (by kernel_rfl) (by kernel_rfl) (fun _ _ _ h => h) (Or.inl ⟨by rfl, ?_⟩) (by assumption) ?_
      rotate_left 1
      · (intro w0 hSw; (try dsimp only at hSw); obtain ⟨⟨s1, s2, s3, s4, s5, s6⟩, t1, t2, t3, t4, t5, t6⟩ := hSw; go_simp; try with_reducible rfl)
      (try simp only [List.getElem_toArray, List.getElem_cons_succ, List.getElem_cons_zero]); (try simp only [Act.put, List.setIfInBounds_toArray, List.set_cons_zero, List.set_cons_succ])
      refine wpAnyH_ready (rs := [21]) (by kernel_rfl) (by simp) ?_
      refine AllReadyH.cons (o := _) rfl (fun K hK => ?_) AllReadyH.nil
      go_simp
      refine Calls.mono (C2.out _ B4.out) ?_
      rintro e w5 ⟨rfl, BC⟩
      have B5 : Hid (Below w1.heap.size w1 w5) := B4.out.trans (BC.mono B4.out.size)
      have B5w : Hid (Below wr.heap.size wr w5) := ((show Below wr.heap.size wr wr.drew from (Below.refl _ wr).drew).trans BB).trans (BC.mono BB.size)
      try dsimp only
      refine hK _ _ ⟨⟨by rw [B5w.out.cell (p := ⟨b, off + q * 6, none⟩) bl]; exact x1, by rw [B5w.out.cell (p := ⟨b, off + q * 6 + 1, none⟩) bl]; exact x2, by rw [B5w.out.cell (p := ⟨b, off + q * 6 + 2, none⟩) bl]; exact x3, by rw [B5w.out.cell (p := ⟨b, off + q * 6 + 3, none⟩) bl]; exact x4, by rw [B5w.out.cell (p := ⟨b, off + q * 6 + 4, none⟩) bl]; exact x5, by rw [B5w.out.cell (p := ⟨b, off + q * 6 + 5, none⟩) bl]; exact x6⟩, by rw [B5w.out.cell (p := ⟨b, off + i * 6, none⟩) bl]; exact y1, by rw [B5w.out.cell (p := ⟨b, off + i * 6 + 1, none⟩) bl]; exact y2, by rw [B5w.out.cell (p := ⟨b, off + i * 6 + 2, none⟩) bl]; exact y3, by rw [B5w.out.cell (p := ⟨b, off + i * 6 + 3, none⟩) bl]; exact y4, by rw [B5w.out.cell (p := ⟨b, off + i * 6 + 4, none⟩) bl]; exact y5, by rw [B5w.out.cell (p := ⟨b, off + i * 6 + 5, none⟩) bl]; exact y6⟩ (fun hHeld => ?_)
      clear hK K
      (try simp only [List.getElem_toArray, List.getElem_cons_succ, List.getElem_cons_zero]); (try simp only [Act.put, List.setIfInBounds_toArray, List.set_cons_zero, List.set_cons_succ])
      refine wpAnyH_take (i := 22) (oi := _) (v := ?_) rfl (by kernel_rfl) (by kernel_rfl) (by kernel_rfl) (fun _ _ _ h => h) (Or.inl ⟨by rfl, ?_⟩) (by assumption) ?_
      rotate_left 1
      · (intro w0 hSw; (try dsimp only at hSw); obtain ⟨⟨s1, s2, s3, s4, s5, s6⟩, t1, t2, t3, t4, t5, t6⟩ := hSw; go_simp; try with_reducible rfl)
      (try simp only [List.getElem_toArray, List.getElem_cons_succ, List.getElem_cons_zero]); (try simp only [Act.put, List.setIfInBounds_toArray, List.set_cons_zero, List.set_cons_succ])
      refine wpAnyH_take (i := 23) (oi := _) (v := ?_) rfl (by kernel_rfl) (by kernel_rfl) (by kernel_rfl) (fun _ _ _ h => h) (Or.inl ⟨by rfl, ?_⟩) (by assumption) ?_
      rotate_left 1
      · (intro w0 hSw; (try dsimp only at hSw); obtain ⟨⟨s1, s2, s3, s4, s5, s6⟩, t1, t2, t3, t4, t5, t6⟩ := hSw; go_simp; try with_reducible rfl)
      (try simp only [List.getElem_toArray, List.getElem_cons_succ, List.getElem_cons_zero]); (try simp only [Act.put, List.setIfInBounds_toArray, List.set_cons_zero, List.set_cons_succ])
      refine wpAnyH_done (by kernel_rfl) ?_ _
      refine NoPanic.normal ?_
      clear BB BC BH B4 B5w C1 C2 x1 x2 x3 x4 x5 x6 y1 y2 y3 y4 y5 y6 hHeld
      go_wp2_with fail
      exact ⟨⟨i + 1, by first | rfl | simp, by omega, by omega, B5⟩, by simp [intOf]; omega⟩
    · have iI : ¬ (i : Int) < (z1 : Int) := by omega
      have bH : Hid (Below w.heap.size w wr ∧ WIn wr a1 (odD l)) := ⟨b1H.out.trans (BH.out.mono b1H.out.size), r1H.out.below BH.out⟩
      clear BH b1H r1H
      go_wp2_with fail
      refine Calls.mono (cL.out _ bH.out.1) ?_
      rintro e w2 ⟨rfl, b2⟩
      have b2H : Hid (Below w.heap.size w w2 ∧ WIn w2 a1 (odD l)) := ⟨bH.out.1.trans (b2.mono bH.out.1.size), bH.out.2.below b2⟩
      clear b2 bH cL
      go_wp2_with fail
      refine Calls.mono (cP.out _ a1 z1 c1 e1H.out b2H.out.2) ?_
      rintro e w3 ⟨a3, z3, c3, rfl, e3, _, r3, b3⟩
      have cX : Hid (Calls Tryd.prog 9 #[.slice a3 z3 c3, .slice a1 z1 c1] w3 fun e w' => e = .returned (.bool true) ∧ Below w3.heap.size w3 w') := cS1.out w3 a3 a1 z3 z1 c3 c1 e3 e1H.out r3 (b2H.out.2.below b3)
      have b3H : Hid (Below w.heap.size w w3 ∧ WIn w3 a1 (odD l)) := ⟨b2H.out.1.trans (b3.mono b2H.out.1.size), b2H.out.2.below b3⟩
      clear e3 r3 b3 b2H cP cS1
      go_wp2_with fail
      refine Calls.mono cX.out ?_
      rintro e w4 ⟨rfl, b4⟩
      have b4H : Hid (Below w.heap.size w w4 ∧ WIn w4 a1 (odD l)) := ⟨b3H.out.1.trans (b4.mono b3H.out.1.size), b3H.out.2.below b4⟩
      clear b4 b3H cX
      go_wp2_with fail
      refine Calls.mono (cM.out _ b4H.out.1) ?_
      rintro e w5 ⟨a5, z5, c5, rfl, e5, _, r5, b5⟩
      have b5H : Hid (Below w.heap.size w w5 ∧ WIn w5 a1 (odD l) ∧ z5 = (odD (l ++ m)).length ∧ WIn w5 a5 (odD (l ++ m))) := ⟨b4H.out.1.trans (b5.mono b4H.out.1.size), b4H.out.2.below b5, e5, r5⟩
      clear e5 r5 b5 b4H cM
      go_wp2_with fail
      refine Calls.mono (cQ.out _ b5H.out.1) ?_
      rintro e w6 ⟨a6, z6, c6, rfl, e6, _, r6, b6⟩
      have cY : Hid (Calls Tryd.prog 12 #[.slice a1 z1 c1, .slice a6 z6 c6] w6 fun e w' => ∃ a' z c', e = .returned (.slice a' z c') ∧ z = (odD (l ++ m)).length ∧ z ≤ c' ∧ WIn w' a' (odD (l ++ m)) ∧ Below w6.heap.size w6 w') := cN.out w6 a1 z1 c1 a6 z6 c6 e1H.out (b5H.out.2.1.below b6) e6 r6
      have b6H : Hid (Below w.heap.size w w6 ∧ z5 = (odD (l ++ m)).length ∧ WIn w6 a5 (odD (l ++ m))) := ⟨b5H.out.1.trans (b6.mono b5H.out.1.size), b5H.out.2.2.1, b5H.out.2.2.2.below b6⟩
      clear e6 r6 b6 b5H cQ cN
      go_wp2_with fail
      refine Calls.mono cY.out ?_
      rintro e w7 ⟨a7, z7, c7, rfl, e7, _, r7, b7⟩
      have cX : Hid (Calls Tryd.prog 9 #[.slice a5 z5 c5, .slice a7 z7 c7] w7 fun e w' => e = .returned (.bool true) ∧ Below w7.heap.size w7 w') := cS2.out w7 a5 a7 z5 z7 c5 c7 b6H.out.2.1 e7 (b6H.out.2.2.below b7) r7
      have b7H : Hid (Below w.heap.size w w7) := b6H.out.1.trans (b7.mono b6H.out.1.size)
      clear e7 r7 b7 b6H cY cS2
      go_wp2_with fail
      refine Calls.mono cX.out ?_
      rintro e w8 ⟨rfl, b8⟩
      have b8H : Hid (Below w.heap.size w w8) := b7H.out.trans (b8.mono b7H.out.size)
      clear b8 b7H cX
      have zn : (z1 : Int) ≤ (n1 : Int) := by have := zH.out.1; rw [← e1H.out] at this; omega
      by_cases h0 : 0 < n1
      · have h1 : (0 : Int) < (n1 : Int) := by omega
        have h2 : (0 : Int) < (z1 : Int) := by have := zH.out.2.1.2 h0; rw [← e1H.out] at this; omega
        go_wp2_with fail
        go_ret
        exact ⟨by first | rfl | (simp; omega), b8H.out⟩
      · have h1 : ¬ (0 : Int) < (n1 : Int) := by omega
        have h2 : ¬ (0 : Int) < (z1 : Int) := by omega
        go_wp2_with fail
        go_ret
        exact ⟨by first | rfl | (simp; omega), b8H.out⟩
end Go.Proofs.YtlogghajbhllhaaDoor
