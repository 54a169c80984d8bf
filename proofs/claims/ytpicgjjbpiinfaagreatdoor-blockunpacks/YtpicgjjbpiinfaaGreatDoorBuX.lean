
import Derived.Test.YtpicgjjbpiinfaaGreatDoorBuY
import Derived.Test.YtpicgjjbpiinfaaGreatDoorUtFq
import Derived.BigQuiet
import Derived.Test.YtpicgjjbpiinfaaGreatDoorHandBq
namespace Go.Proofs.YtpicgjjbpiinfaaGreatDoor
open Go.RowKit
set_option linter.unusedVariables false
set_option linter.unusedSimpArgs false
theorem sin_z {W : World} {q j m : Nat} {x : Value} {a : Option Addr} {tt : Nat → Int} {kk : Nat → Nat} {xx : Nat → Int} (hne : m = 0 ∨ ∃ g o, a = some ⟨g, o, none⟩ ∧ q < g) (h : SIn W a m tt kk xx) : SIn (W.setCell ⟨q, j, none⟩ x) a m tt kk xx := by
  obtain ⟨h1, h2, h2', h3⟩ := h
  refine ⟨h1, h2, h2', ?_⟩
  rcases h3 with h0 | ⟨b, off, e, hb, hc⟩
  · exact Or.inl h0
  · rcases hne with h0 | ⟨g, o, e2, hg⟩
    · exact Or.inl h0
    · have eb : b = g := by rw [e] at e2; injection e2 with e2; injection e2
      have oth : ∀ i, (W.setCell ⟨q, j, none⟩ x).cell? ⟨b, i, none⟩ = W.cell? ⟨b, i, none⟩ := fun i => World.cell?_setCell_other _ _ _ _ (by intro h; injection h with h1; omega)
      exact Or.inr ⟨b, off, e, by simpa using hb, fun i hi => ⟨by rw [oth]; exact (hc i hi).1, by rw [oth]; exact (hc i hi).2.1, by rw [oth]; exact (hc i hi).2.2⟩⟩
theorem cell_same {W : World} {p : Addr} {u : Value} (h : W.cell? p = some u) (r : Addr) : (W.setCell p u).cell? r = W.cell? r := by
  by_cases e : r = p
  · subst e; rw [World.cell?_setCell_same _ _ _ h, h]
  · exact World.cell?_setCell_other _ _ _ _ (fun h => e h.symm)
def set5 (W : World) (z : Nat) (x0 x1 x2 x3 x4 : Value) : World := ((((W.setCell ⟨z, 0, none⟩ x0).setCell ⟨z, 1, none⟩ x1).setCell ⟨z, 2, none⟩ x2).setCell ⟨z, 3, none⟩ x3).setCell ⟨z, 4, none⟩ x4
theorem set5_size (W : World) (z : Nat) (x0 x1 x2 x3 x4 : Value) : (set5 W z x0 x1 x2 x3 x4).heap.size = W.heap.size := by simp [set5]
theorem set5_below {w W : World} {z : Nat} (hz : w.heap.size ≤ z) (h : Below w.heap.size w W) (x0 x1 x2 x3 x4 : Value) : Below w.heap.size w (set5 W z x0 x1 x2 x3 x4) := by
  have bb : ∀ (W : World) (j : Nat) (x : Value), Below w.heap.size w W → Below w.heap.size w (W.setCell ⟨z, j, none⟩ x) := fun W j x hW => hW.setCell (p := ⟨z, j, none⟩) hz _
  exact bb _ _ _ (bb _ _ _ (bb _ _ _ (bb _ _ _ (bb _ _ _ h))))
theorem set5_oth (W : World) (z k : Nat) (x0 x1 x2 x3 x4 : Value) (hk : k ≠ z) : (set5 W z x0 x1 x2 x3 x4).heap[k]? = W.heap[k]? := by
  unfold set5
  rw [Below.heap_setCell _ _ _ _ hk, Below.heap_setCell _ _ _ _ hk, Below.heap_setCell _ _ _ _ hk, Below.heap_setCell _ _ _ _ hk, Below.heap_setCell _ _ _ _ hk]
theorem set5_cells {W : World} {z : Nat} (h : BZ z W) (x0 x1 x2 x3 x4 : Value) : (set5 W z x0 x1 x2 x3 x4).cell? ⟨z, 0, none⟩ = some x0 ∧ (set5 W z x0 x1 x2 x3 x4).cell? ⟨z, 1, none⟩ = some x1 ∧ (set5 W z x0 x1 x2 x3 x4).cell? ⟨z, 2, none⟩ = some x2 ∧ (set5 W z x0 x1 x2 x3 x4).cell? ⟨z, 3, none⟩ = some x3 ∧ (set5 W z x0 x1 x2 x3 x4).cell? ⟨z, 4, none⟩ = some x4 := by
  obtain ⟨z0, z1, z2, z3, z4, _⟩ := h
  have oth : ∀ (W : World) (i j : Nat) (x : Value), i ≠ j → (W.setCell ⟨z, i, none⟩ x).cell? ⟨z, j, none⟩ = W.cell? ⟨z, j, none⟩ := fun W i j x h => World.cell?_setCell_other _ _ _ _ (by intro e; injection e with e1 e2; omega)
  unfold set5
  refine ⟨?_, ?_, ?_, ?_, ?_⟩
  · rw [oth _ 4 0 _ (by omega), oth _ 3 0 _ (by omega), oth _ 2 0 _ (by omega), oth _ 1 0 _ (by omega)]; exact World.cell?_setCell_same _ _ _ z0
  · rw [oth _ 4 1 _ (by omega), oth _ 3 1 _ (by omega), oth _ 2 1 _ (by omega)]; exact World.cell?_setCell_same _ _ _ (u := .int .i64 0) (by rw [oth _ 0 1 _ (by omega)]; exact z1)
  · rw [oth _ 4 2 _ (by omega), oth _ 3 2 _ (by omega)]; exact World.cell?_setCell_same _ _ _ (u := .int .i64 0) (by rw [oth _ 1 2 _ (by omega), oth _ 0 2 _ (by omega)]; exact z2)
  · rw [oth _ 4 3 _ (by omega)]; exact World.cell?_setCell_same _ _ _ (u := .bool false) (by rw [oth _ 2 3 _ (by omega), oth _ 1 3 _ (by omega), oth _ 0 3 _ (by omega)]; exact z3)
  · exact World.cell?_setCell_same _ _ _ (u := .bool false) (by rw [oth _ 3 4 _ (by omega), oth _ 2 4 _ (by omega), oth _ 1 4 _ (by omega), oth _ 0 4 _ (by omega)]; exact z4)
theorem set5_same {W : World} {z : Nat} (h : BZ z W) (r : Addr) : (set5 W z (.int .i64 0) (.int .i64 0) (.int .i64 0) (.bool false) (.bool false)).cell? r = W.cell? r := by
  obtain ⟨z0, z1, z2, z3, z4, _⟩ := h
  unfold set5
  have e0 := cell_same z0
  have h1 : (W.setCell ⟨z, 0, none⟩ (.int .i64 0)).cell? ⟨z, 1, none⟩ = some (.int .i64 0) := by rw [e0]; exact z1
  have e1 := cell_same h1
  have h2 : ((W.setCell ⟨z, 0, none⟩ (.int .i64 0)).setCell ⟨z, 1, none⟩ (.int .i64 0)).cell? ⟨z, 2, none⟩ = some (.int .i64 0) := by rw [e1, e0]; exact z2
  have e2 := cell_same h2
  have h3 : (((W.setCell ⟨z, 0, none⟩ (.int .i64 0)).setCell ⟨z, 1, none⟩ (.int .i64 0)).setCell ⟨z, 2, none⟩ (.int .i64 0)).cell? ⟨z, 3, none⟩ = some (.bool false) := by rw [e2, e1, e0]; exact z3
  have e3 := cell_same h3
  have h4 : ((((W.setCell ⟨z, 0, none⟩ (.int .i64 0)).setCell ⟨z, 1, none⟩ (.int .i64 0)).setCell ⟨z, 2, none⟩ (.int .i64 0)).setCell ⟨z, 3, none⟩ (.bool false)).cell? ⟨z, 4, none⟩ = some (.bool false) := by rw [e3, e2, e1, e0]; exact z4
  rw [cell_same h4, e3, e2, e1, e0]
set_option maxRecDepth 100000 in
set_option maxHeartbeats 8000000 in
theorem dUnpack_any (ba : Option Addr) (bc : Nat) (B : List Nat) (w : World) (h : BytesIn w ba B.length (natsOf B)) : Calls Tryz.prog 13 #[.slice ba B.length bc] w fun e w' => UnpE (natsOf B) B.length fvB (badV 90) (badV 0) e w' ∧ Below w.heap.size w w' := by
  have hz0 := BZ.start w
  have hB0 := below_new (Below.refl _ w) (.cells #[.int .i64 0, .int .i64 0, .int .i64 0, .bool false, .bool false] 31)
  have hql : w.heap.size < (w.alloc (.cells #[.int .i64 0, .int .i64 0, .int .i64 0, .bool false, .bool false] 31)).heap.size := by simp
  obtain ⟨w0, hw0⟩ : ∃ w0, w0 = w.alloc (.cells #[.int .i64 0, .int .i64 0, .int .i64 0, .bool false, .bool false] 31) := ⟨_, rfl⟩
  have hN : Hid _ := dNew_any ba B.length bc (natsOf B) w0 (by rw [hw0]; exact h.below hB0)
  clear h
  go_enter Tryz.func13, Tryz.ntmps13
  go_wp2_with fail
  rw [← hw0] at hz0 hB0 hql ⊢
  have hz0H : Hid (BZ w.heap.size w0) := hz0
  clear hz0 hw0
  refine Calls.mono hN.out ?_
  rintro e w2 ⟨rfl, ⟨a, cap, hR, _⟩, hB2⟩
  obtain ⟨T, q1, s1, e1, eT, hfT, hC1⟩ : ∃ T q1 s1, (pc1 (natsOf B) B.length).1 = s1 ∧ pT (natsOf B) B.length = T ∧ (∀ i, i < T.length → natsOf B (q1 + i) = natsOf T i) ∧ Hid (Calls Tryz.prog 41 #[.pointer (some ⟨w0.heap.size, 0, none⟩), .int .i64 67108864] w2 fun e w' => ∃ a' c, e = .returned (.slice a' T.length c) ∧ Fresh (w0.heap.size + 1) T.length a' (fun i => natsOf B (q1 + i)) w' ∧ QB w0.heap.size w0 a B.length cap (natsOf B) s1 w' ∧ RF w0.heap.size w2 w') := by
    have hl : (pT (natsOf B) B.length).length = (pc1 (natsOf B) B.length).2.2 := by simp [pT, bytesL]
    refine ⟨pT (natsOf B) B.length, (pc1 (natsOf B) B.length).2.1, (pc1 (natsOf B) B.length).1, rfl, rfl, fun i hi => ?_, ?_⟩
    · rw [hl] at hi; exact (nats_bytesL (fun i => natsOf B ((pc1 (natsOf B) B.length).2.1 + i)) _ i hi).symm
    · rw [hl]; exact qb_raw (s := ⟨0, 0, none⟩) hR 67108864 (by omega) (by omega)
  have hfTH : Hid _ := hfT
  have eTH : Hid _ := eT
  clear hN hR hfT eT
  go_wp2_with fail
  refine Calls.mono hC1.out ?_
  rintro e w3 ⟨a1, c1, rfl, hFr1, hR3, hF3⟩
  obtain ⟨V, q2, s2, e2, eV, hfV, hC2⟩ : ∃ V q2 s2, (pc2 (natsOf B) B.length).1 = s2 ∧ pV (natsOf B) B.length = V ∧ (∀ i, i < V.length → natsOf B (q2 + i) = natsOf V i) ∧ Hid (Calls Tryz.prog 41 #[.pointer (some ⟨w0.heap.size, 0, none⟩), .int .i64 67108864] w3 fun e w' => ∃ a' c, e = .returned (.slice a' V.length c) ∧ Fresh (w0.heap.size + 1) V.length a' (fun i => natsOf B (q2 + i)) w' ∧ QB w0.heap.size w0 a B.length cap (natsOf B) s2 w' ∧ RF w0.heap.size w3 w') := by
    have hl : (pV (natsOf B) B.length).length = (pc2 (natsOf B) B.length).2.2 := by simp [pV, bytesL]
    have e0 : pc2 (natsOf B) B.length = pieceT (natsOf B) B.length 67108864 s1 := by unfold pc2; rw [e1]
    refine ⟨pV (natsOf B) B.length, (pc2 (natsOf B) B.length).2.1, (pc2 (natsOf B) B.length).1, rfl, rfl, fun i hi => ?_, ?_⟩
    · rw [hl] at hi; exact (nats_bytesL (fun i => natsOf B ((pc2 (natsOf B) B.length).2.1 + i)) _ i hi).symm
    · rw [hl, e0]; exact qb_raw hR3 67108864 (by omega) (by omega)
  have hFr1H : Hid _ := hFr1
  have hfVH : Hid _ := hfV
  have eVH : Hid _ := eV
  clear hC1 hR3 hFr1 hfV eV
  go_wp2_with fail
  refine Calls.mono hC2.out ?_
  rintro e w4 ⟨a2, c2, rfl, hFr2, hR4, hF4⟩
  have hFr1 := Fresh.ext (Fresh.rf hFr1H.out hF4 (by omega)) hfTH.out
  have hFr2' := Fresh.ext hFr2 hfVH.out
  have hD0 := dDone_rf hR4
  have hfe2 := doneF_fe (bs := natsOf B) (n := B.length) (p := s2.p) (r := s2.r) (QR.fe hR4)
  obtain ⟨dn, hdn⟩ : ∃ dn, dn = pD (natsOf B) B.length := ⟨_, rfl⟩
  have hdd : doneF (natsOf B) B.length s2.p s2.r s2.fv = dn := by rw [hdn]; unfold pD; rw [e2]
  rw [hdd] at hD0 hfe2
  have hD : Hid _ := hD0
  have hdnH : Hid _ := hdn
  have h1H : Hid _ := hFr1
  have h2H : Hid _ := hFr2'
  have hb4 : Hid (Below w0.heap.size w0 w4) := QR.b hR4
  clear hC2 hFr1H hfTH hfVH hFr2 hFr1 hFr2' hR4 hD0 hdd hdn e1 e2 hF3 hF4
  go_wp2_with fail
  refine Calls.mono hD.out ?_
  rintro e w5 ⟨rfl, hB5, hF5⟩
  have hB05 : Below w0.heap.size w0 w5 := hb4.out.trans hB5
  have hBw5 : Below w.heap.size w w5 := hB0.trans (hB05.mono (Nat.le_of_lt hql))
  have hz5 := hz0H.out.of (hB05.block w.heap.size hql)
  have hq5 : w.heap.size < w5.heap.size := Nat.lt_of_lt_of_le hql hB05.size
  have hT5 := Fresh.rf h1H.out hF5 (by omega)
  have hV5 := Fresh.rf h2H.out hF5 (by omega)
  clear hD hB5 hF5 h1H h2H hb4 hB05
  cases dn with
  | some x =>
    have hx2 := hfe2 x rfl
    obtain ⟨x1, x2⟩ := x
    have hx2' : ¬ x2 = 0 := by intro h; subst h; simp at hx2
    obtain ⟨z0, z1, z2, z3, z4, y0, y1, y2, y3, y4⟩ := hz5
    have hBw5H : Hid _ := hBw5
    clear hT5 hV5 hfe2 hBw5 hz0H
    simp only [fvB, fcd, fpl, Option.isSome]
    go_wp2_with fail
    go_region_with (fail)
    all_goals
      go_wp2_with fail
      simp [bodyPost, results, Tryz.results13, go_sem, z0, z1, z2, z3, z4, y0, y1, y2, y3, y4, World.cell?_alloc_lt, hq5]
      exact ⟨Or.inl ⟨(x1, x2), Or.inl hdnH.out.symm, rfl⟩, (below_new (bad_put w w5 hBw5H.out _ _ _ _ _) _).drew⟩
  | none =>
    have hBz := below_new (Below.refl _ w5) (.cells #[.int .i64 0, .int .i64 0, .int .i64 0, .bool false, .bool false] 31)
    have hU : Hid _ := dUnTimes_any a1 c1 T _ (Fresh.inn (Fresh.below hT5 hBz))
    have hV6H : Hid _ := Fresh.below hV5 hBz
    have hBw6 := below_then hBw5 hBz
    have hz6H : Hid _ := hz5.of (hBz.block w.heap.size hq5)
    clear hT5 hV5 hfe2 hz5 hz0H
    simp only [fvB, fcd, fpl, Option.isSome]
    go_wp2_with fail
    refine Calls.mono hU.out ?_
    rintro e w6 ⟨hE, hB6⟩
    have hBw7 := below_then hBw6 hB6
    have hz7 := hz6H.out.of (hB6.block w.heap.size (by simp; omega))
    have hq7 : w.heap.size < w6.heap.size := by have := hB6.size; simp at this; omega
    have hV7 := Fresh.below hV6H.out hB6
    clear hU hV6H hz6H hBz hB6
    rcases hE.cases with ⟨x, hx, rfl⟩ | ⟨hx, ta, tc, rfl, hI⟩ | ⟨hx, rfl⟩
    · have hx2 : (x.2 == 0) = false := doneF_fe (fun y hy => readT_fe _ _ _ (uintT_fe _ _ _) _ y hy) x hx
      obtain ⟨x1, x2⟩ := x
      have hx2' : ¬ x2 = 0 := by intro h; subst h; simp at hx2
      have hxH : Hid _ := hx
      obtain ⟨z0, z1, z2, z3, z4, y0, y1, y2, y3, y4⟩ := hz7
      have hBwH : Hid _ := hBw7
      clear hE hV7 hx hx2 hBw7 hBw6 hBw5
      simp only [fvB, fcd, fpl, Option.isSome]
      go_wp2_with fail
      go_region_with (fail)
      all_goals
        go_wp2_with fail
        simp [bodyPost, results, Tryz.results13, go_sem, z0, z1, z2, z3, z4, y0, y1, y2, y3, y4, World.cell?_alloc_lt, hq7]
        exact ⟨Or.inl ⟨(x1, x2), Or.inr ⟨hdnH.out.symm, Or.inl (by rw [eTH.out]; exact hxH.out)⟩, rfl⟩, (below_new (bad_put w w6 hBwH.out _ _ _ _ _) _).drew⟩
    · have hxH : Hid (TG T) := hx
      have hlT : (tL T).length ≤ 1048576 := lastT_len hx.1
      have hBz6 := below_new (Below.refl _ w6) (.cells #[.int .i64 0, .int .i64 0, .int .i64 0, .bool false, .bool false] 31)
      have hW : Hid _ := dUnValues_any a2 c2 V _ (Fresh.inn (Fresh.below hV7 hBz6))
      have hI8 : Hid _ := IsIn.below hI hBz6 (Nat.le_refl _)
      have hz8H : Hid _ := hz7.of (hBz6.block w.heap.size hq7)
      have hzb := BZ.start w6
      have hBw8 := below_then hBw7 hBz6
      clear hE hV7 hx hI hz7
      simp only [badV]
      go_wp2_with fail
      refine Calls.mono hW.out ?_
      rintro e w8 ⟨hE, hB8⟩
      have hBw9 := below_then hBw8 hB8
      have hz9 := hz8H.out.of (hB8.block w.heap.size (by simp; omega))
      have hzb9 := hzb.of (hB8.block w6.heap.size (by simp))
      have hq9 : w.heap.size < w8.heap.size := by have := hB8.size; simp at this; omega
      have hq9' : w6.heap.size < w8.heap.size := by have := hB8.size; simp at this; omega
      have hI9 := IsIn.below hI8.out hB8 (Nat.le_refl _)
      have hne : ¬ w6.heap.size = w.heap.size := by omega
      clear hW hI8 hz8H hBz6 hB8 hzb
      rcases hE.cases with ⟨x, hx, rfl⟩ | ⟨hx, va, vc, rfl, hVv⟩ | ⟨hx, rfl⟩
      · have hx2 : (x.2 == 0) = false := doneF_fe (fun y hy => readV_fe _ _ _ (uintT_fe _ _ _) _ y hy) x hx
        obtain ⟨x1, x2⟩ := x
        have hx2' : ¬ x2 = 0 := by intro h; subst h; simp at hx2
        have hyH : Hid _ := hx
        have hset : set5 w8 w6.heap.size (.int .i64 x2) (.int .i64 x1) (.int .i64 0) (.bool true) (.bool false) = ((((w8.setCell ⟨w6.heap.size, 0, none⟩ (.int .i64 x2)).setCell ⟨w6.heap.size, 1, none⟩ (.int .i64 x1)).setCell ⟨w6.heap.size, 2, none⟩ (.int .i64 0)).setCell ⟨w6.heap.size, 3, none⟩ (.bool true)).setCell ⟨w6.heap.size, 4, none⟩ (.bool false) := rfl
        obtain ⟨u0, u1, u2, u3, u4⟩ := set5_cells hzb9 (.int .i64 x2) (.int .i64 x1) (.int .i64 0) (.bool true) (.bool false)
        obtain ⟨z0, z1, z2, z3, z4, y0, y1, y2, y3, y4⟩ := hz9.of (set5_oth w8 w6.heap.size w.heap.size (.int .i64 x2) (.int .i64 x1) (.int .i64 0) (.bool true) (.bool false) (by omega))
        have hBwH : Hid _ := set5_below (show w.heap.size ≤ w6.heap.size by omega) hBw9 (.int .i64 x2) (.int .i64 x1) (.int .i64 0) (.bool true) (.bool false)
        have hq10 : w.heap.size < (set5 w8 w6.heap.size (.int .i64 x2) (.int .i64 x1) (.int .i64 0) (.bool true) (.bool false)).heap.size := by rw [set5_size]; exact hq9
        obtain ⟨f0, f1, f2, f3, f4⟩ : w8.frozen? ⟨w6.heap.size, 0, none⟩ = false ∧ w8.frozen? ⟨w6.heap.size, 1, none⟩ = false ∧ w8.frozen? ⟨w6.heap.size, 2, none⟩ = false ∧ w8.frozen? ⟨w6.heap.size, 3, none⟩ = false ∧ w8.frozen? ⟨w6.heap.size, 4, none⟩ = false := ⟨hzb9.y0, hzb9.y1, hzb9.y2, hzb9.y3, hzb9.y4⟩
        have hd0 := hzb9.z0
        have hd1 := hzb9.z1
        have hd2 := hzb9.z2
        have hd3 := hzb9.z3
        have hd4 := hzb9.z4
        obtain ⟨W9, hW9⟩ : ∃ W9, W9 = set5 w8 w6.heap.size (.int .i64 x2) (.int .i64 x1) (.int .i64 0) (.bool true) (.bool false) := ⟨_, rfl⟩
        rw [← hW9] at hset u0 u1 u2 u3 u4 z0 z1 z2 z3 z4 y0 y1 y2 y3 y4 hBwH hq10
        clear hE hI9 hx hBw9 hBw8 hBw7 hBw6 hBw5 hW9 hz9 hzb9
        simp only [fvB, fcd, fpl, Option.isSome]
        go_wp2_with fail
        rw [← hset]
        clear hset hd0 hd1 hd2 hd3 hd4 f0 f1 f2 f3 f4
        go_wp2_with fail
        go_region_with (fail)
        all_goals
          go_wp2_with fail
          simp [bodyPost, results, Tryz.results13, go_sem, z0, z1, z2, z3, z4, y0, y1, y2, y3, y4, World.cell?_alloc_lt, hq10]
          exact ⟨Or.inl ⟨(x1, x2), Or.inr ⟨hdnH.out.symm, Or.inr ⟨by rw [eTH.out]; exact hxH.out, by rw [eVH.out]; exact hyH.out⟩⟩, rfl⟩, (bad_put w W9 hBwH.out _ _ _ _ _).drew⟩
      · have hyH : Hid (VG V) := hx
        have hset : set5 w8 w6.heap.size (.int .i64 0) (.int .i64 0) (.int .i64 0) (.bool false) (.bool false) = ((((w8.setCell ⟨w6.heap.size, 0, none⟩ (.int .i64 0)).setCell ⟨w6.heap.size, 1, none⟩ (.int .i64 0)).setCell ⟨w6.heap.size, 2, none⟩ (.int .i64 0)).setCell ⟨w6.heap.size, 3, none⟩ (.bool false)).setCell ⟨w6.heap.size, 4, none⟩ (.bool false) := rfl
        have hsm := set5_same hzb9
        obtain ⟨u0, u1, u2, u3, u4⟩ := set5_cells hzb9 (.int .i64 0) (.int .i64 0) (.int .i64 0) (.bool false) (.bool false)
        have hzq := hz9.of (set5_oth w8 w6.heap.size w.heap.size (.int .i64 0) (.int .i64 0) (.int .i64 0) (.bool false) (.bool false) (by omega))
        have hBwp := set5_below (show w.heap.size ≤ w6.heap.size by omega) hBw9 (.int .i64 0) (.int .i64 0) (.int .i64 0) (.bool false) (.bool false)
        have hsz := set5_size w8 w6.heap.size (.int .i64 0) (.int .i64 0) (.int .i64 0) (.bool false) (.bool false)
        obtain ⟨f0, f1, f2, f3, f4⟩ : w8.frozen? ⟨w6.heap.size, 0, none⟩ = false ∧ w8.frozen? ⟨w6.heap.size, 1, none⟩ = false ∧ w8.frozen? ⟨w6.heap.size, 2, none⟩ = false ∧ w8.frozen? ⟨w6.heap.size, 3, none⟩ = false ∧ w8.frozen? ⟨w6.heap.size, 4, none⟩ = false := ⟨hzb9.y0, hzb9.y1, hzb9.y2, hzb9.y3, hzb9.y4⟩
        have hd0 := hzb9.z0
        have hd1 := hzb9.z1
        have hd2 := hzb9.z2
        have hd3 := hzb9.z3
        have hd4 := hzb9.z4
        obtain ⟨W9, hW9⟩ : ∃ W9, W9 = set5 w8 w6.heap.size (.int .i64 0) (.int .i64 0) (.int .i64 0) (.bool false) (.bool false) := ⟨_, rfl⟩
        rw [← hW9] at hset u0 u1 u2 u3 u4 hzq hBwp hsz
        have hsm' : ∀ r, W9.cell? r = w8.cell? r := fun r => by rw [hW9]; exact hsm r
        have hIW : IsIn W9 ta (tL T).length (ttL (tL T)) := by
          obtain ⟨g1, g2, g3⟩ := hI9
          refine ⟨g1, g2, ?_⟩
          rcases g3 with h0 | ⟨b, off, e, hb, hc⟩
          · exact Or.inl h0
          · exact Or.inr ⟨b, off, e, by omega, fun i hi => by rw [hsm']; exact hc i hi⟩
        have hVW : VIn W9 va (vL V).length (kkL (vL V)) (xxL (vL V)) := by
          obtain ⟨g1, g2, g3⟩ := hVv
          refine ⟨g1, g2, ?_⟩
          rcases g3 with h0 | ⟨b, off, e, hb, hc⟩
          · exact Or.inl h0
          · exact Or.inr ⟨b, off, e, by omega, fun i hi => ⟨by rw [hsm']; exact (hc i hi).1, by rw [hsm']; exact (hc i hi).2⟩⟩
        have hq10 : w.heap.size < W9.heap.size := by omega
        have hIH : Hid _ := hIW
        have hVH : Hid _ := hVW
        have hzqH : Hid _ := hzq
        have hBwH : Hid _ := hBwp
        clear hE hI9 hx hBw9 hBw8 hBw7 hBw6 hBw5 hW9 hz9 hzb9 hsm hsm' hIW hVW hzq hBwp hVv hsz
        simp only [badV]
        by_cases hlen : (tL T).length = (vL V).length
        · have hlI : ((tL T).length : Int) = ((vL V).length : Int) := by omega
          have hlenH : Hid _ := hlen
          obtain ⟨m, hm⟩ : ∃ m, m = (tL T).length := ⟨_, rfl⟩
          have hmH : Hid _ := hm
          have hVm : VIn W9 va m (kkL (vL V)) (xxL (vL V)) := by rw [hm, hlen]; exact hVH.out
          have hIm : IsIn W9 ta m (ttL (tL T)) := by rw [hm]; exact hIH.out
          rw [← hlen, ← hm]
          have hmle : m ≤ 1048576 := by omega
          have hst : Hid (W9.ownsRow W9.heap.size 51 3 (.slice none 0 0) 0 (encS (ttL (tL T)) (kkL (vL V)) (xxL (vL V)) 0)) := World.ownsRow_nil _ _ _ _
          have hVmH : Hid _ := hVm
          have hImH : Hid _ := hIm
          clear hIH hVH hlI hlen hm hlT hVm hIm
          go_wp2_with fail
          rw [← hset]
          clear hset hd0 hd1 hd2 hd3 hd4 f0 f1 f2 f3 f4
          go_wp2_with fail
          go_loopw [11, 12] (fun l i wr => ∃ k : Nat, k ≤ m ∧ i = .int .i64 (k : Int) ∧ wr.ownsRow W9.heap.size 51 3 l k (encS (ttL (tL T)) (kkL (vL V)) (xxL (vL V)) k) ∧ Below W9.heap.size W9 wr) (fun _ i _ => m - (intOf i).toNat)
          case atStart => exact ⟨0, by omega, rfl, hst.out, Below.refl _ _⟩
          case round =>
            clear hst
            obtain ⟨k, hk, rfl, hO, hB⟩ := hrel
            by_cases hkn : k < m
            · have hkI : (k : Int) < (m : Int) := by omega
              have k1 : (0 : Int) ≤ (k : Int) := by omega
              obtain ⟨_, _, hc⟩ := hImH.out
              obtain ⟨_, _, hc'⟩ := hVmH.out
              rcases hc with h0 | ⟨b1, o1, rfl, hb1, hcc⟩
              · omega
              rcases hc' with h0 | ⟨b2, o2, rfl, hb2, hcc'⟩
              · omega
              have d0 : wr.cell? ⟨b1, o1 + k, none⟩ = some (.int .i64 (ttL (tL T) k)) := by rw [hB.cell (p := ⟨b1, o1 + k, none⟩) hb1]; exact hcc k hkn
              have d1 : wr.cell? ⟨b2, o2 + k * 2, none⟩ = some (.int .u8 (kkL (vL V) k : Int)) := by rw [hB.cell (p := ⟨b2, o2 + k * 2, none⟩) hb2]; exact (hcc' k hkn).1
              have d2 : wr.cell? ⟨b2, o2 + k * 2 + 1, none⟩ = some (.int .i64 (xxL (vL V) k)) := by rw [hB.cell (p := ⟨b2, o2 + k * 2 + 1, none⟩) hb2]; exact (hcc' k hkn).2
              have hBd := (Below.refl wr.heap.size wr).drew
              have hb1w : b1 < wr.heap.size := Nat.lt_of_lt_of_le hb1 hB.size
              have hb2w : b2 < wr.heap.size := Nat.lt_of_lt_of_le hb2 hB.size
              obtain ⟨g1, c1', w1', hr1, ho1, hb1'⟩ := app1S wr.drew W9.heap.size _ k _ (ownsRow_belowS hO hBd) hB.size (ttL (tL T) k) (kkL (vL V) k : Int) (xxL (vL V) k) (by omega)
              have hBn : Below W9.heap.size W9 w1' := hB.drew.trans hb1'
              rw [← encS_succ] at ho1
              have hSW : wr.cell? ⟨b1, o1 + k, none⟩ = some (.int .i64 (ttL (tL T) k)) ∧ wr.cell? ⟨b2, o2 + k * 2, none⟩ = some (.int .u8 (kkL (vL V) k : Int)) ∧ wr.cell? ⟨b2, o2 + k * 2 + 1, none⟩ = some (.int .i64 (xxL (vL V) k)) := ⟨d0, d1, d2⟩
              have hSA : (wr.alloc (.cells #[.int .i64 (ttL (tL T) k), .int .u8 (kkL (vL V) k : Int), .int .i64 (xxL (vL V) k)] 51)).drew.cell? ⟨b1, o1 + k, none⟩ = some (.int .i64 (ttL (tL T) k)) ∧ (wr.alloc (.cells #[.int .i64 (ttL (tL T) k), .int .u8 (kkL (vL V) k : Int), .int .i64 (xxL (vL V) k)] 51)).drew.cell? ⟨b2, o2 + k * 2, none⟩ = some (.int .u8 (kkL (vL V) k : Int)) ∧ (wr.alloc (.cells #[.int .i64 (ttL (tL T) k), .int .u8 (kkL (vL V) k : Int), .int .i64 (xxL (vL V) k)] 51)).drew.cell? ⟨b2, o2 + k * 2 + 1, none⟩ = some (.int .i64 (xxL (vL V) k)) := by
                have hBa := (below_new (Below.refl wr.heap.size wr) (.cells #[.int .i64 (ttL (tL T) k), .int .u8 (kkL (vL V) k : Int), .int .i64 (xxL (vL V) k)] 51)).drew
                exact ⟨by rw [hBa.cell (p := ⟨b1, o1 + k, none⟩) hb1w]; exact d0, by rw [hBa.cell (p := ⟨b2, o2 + k * 2, none⟩) hb2w]; exact d1, by rw [hBa.cell (p := ⟨b2, o2 + k * 2 + 1, none⟩) hb2w]; exact d2⟩
              have hS1 : w1'.cell? ⟨b1, o1 + k, none⟩ = some (.int .i64 (ttL (tL T) k)) ∧ w1'.cell? ⟨b2, o2 + k * 2, none⟩ = some (.int .u8 (kkL (vL V) k : Int)) ∧ w1'.cell? ⟨b2, o2 + k * 2 + 1, none⟩ = some (.int .i64 (xxL (vL V) k)) := ⟨by rw [hBn.cell (p := ⟨b1, o1 + k, none⟩) hb1]; exact hcc k hkn, by rw [hBn.cell (p := ⟨b2, o2 + k * 2, none⟩) hb2]; exact (hcc' k hkn).1, by rw [hBn.cell (p := ⟨b2, o2 + k * 2 + 1, none⟩) hb2]; exact (hcc' k hkn).2⟩
              have hrD : (Builtin.append_ #[39, 39] 39 #[_, .slice (some ⟨wr.heap.size, 0, none⟩) 1 1]).run Tryz.prog (wr.alloc (.cells #[.int .i64 (ttL (tL T) k), .int .u8 (kkL (vL V) k : Int), .int .i64 (xxL (vL V) k)] 51)).drew = .ok (.slice (some ⟨g1, 0, none⟩) (k + 1) c1') w1' := hr1
              have hrH : Hid _ := hrD
              have hoH : Hid _ := ho1
              clear hcc hcc' hr1 ho1 hO hb1' hrD hBd
              go_wp2_with fail
              go_region_held3 (fun w' => w'.cell? ⟨b1, o1 + k, none⟩ = some (.int .i64 (ttL (tL T) k)) ∧ w'.cell? ⟨b2, o2 + k * 2, none⟩ = some (.int .u8 (kkL (vL V) k : Int)) ∧ w'.cell? ⟨b2, o2 + k * 2 + 1, none⟩ = some (.int .i64 (xxL (vL V) k))) (first | assumption | exact ⟨by assumption, by assumption, by assumption⟩)
                (first | (refine step_append_run rfl (.tmp 55) (.tmp 65) 39 rfl _ _ _ _ rfl rfl hrH.out ?_))
              all_goals
                go_wp2_with fail
                go_roundw
                case rel => first | exact ⟨k + 1, by omega, by go_num, hoH.out, hBn⟩ | exact ⟨k + 1, by omega, by go_num, hoH.out, hBn.drew⟩ | trace_state
                case measure => simp [intOf]; omega
            · obtain rfl : m = k := by omega
              have hkI : ¬ (m : Int) < (m : Int) := by omega
              have hrow := own_row hO
              obtain ⟨la, lc, hl5, hS⟩ := own_SIn hO hmle hVmH.out.2.1 hImH.out.2.1
              subst hl5
              have hlg : Hid (m = 0 ∨ ∃ g o, la = some ⟨g, o, none⟩ ∧ w.heap.size < g) := (by
                rcases hrow with h0 | ⟨g, c, e, hg⟩
                · exact Or.inl h0
                · injection e with e1; exact Or.inr ⟨g, 0, e1, by omega⟩ : m = 0 ∨ ∃ g o, la = some ⟨g, o, none⟩ ∧ w.heap.size < g)
              have hSH : Hid _ := hS
              have hBf : Hid (Below w.heap.size w wr) := hBwH.out.trans (hB.mono (by omega))
              obtain ⟨z0, z1, z2, z3, z4, y0, y1, y2, y3, y4⟩ := hzqH.out.of (hB.block w.heap.size hq10)
              have hq11 : w.heap.size < wr.heap.size := by have := hB.size; omega
              clear hO hS hrow hB hzqH hBwH
              go_wp2_with fail
              simp [bodyPost, results, Tryz.results13, go_sem, z0, z1, z2, z3, z4, y0, y1, y2, y3, y4, World.cell?_alloc_lt, hq11]
              refine ⟨Or.inr (Or.inr ⟨⟨hdnH.out.symm, by rw [eTH.out]; exact hxH.out, by rw [eVH.out]; exact hyH.out, by rw [eTH.out, eVH.out]; exact hlenH.out⟩, la, lc, by rw [eTH.out, ← hmH.out]; rfl, ?_⟩), bad_put w wr hBf.out _ _ _ _ _⟩
              rw [eTH.out, eVH.out, ← hmH.out]
              exact sin_z hlg.out (sin_z hlg.out (sin_z hlg.out (sin_z hlg.out (sin_z hlg.out hSH.out))))
        · have hlI : ¬ ((tL T).length : Int) = ((vL V).length : Int) := by omega
          have hlenH : Hid _ := hlen
          have hF : Hid _ := docNew 90
          clear hIH hVH hlen
          go_wp2_with fail
          rw [← hset]
          clear hset hd0 hd1 hd2 hd3 hd4 f0 f1 f2 f3 f4
          go_wp2_with fail
          refine Calls.mono (hF.out _) ?_
          rintro e w10 ⟨rfl, hB10⟩
          obtain ⟨z0, z1, z2, z3, z4, y0, y1, y2, y3, y4⟩ := hzqH.out.of (hB10.block w.heap.size hq10)
          have hBf : Hid _ := below_then hBwH.out hB10
          have hq11 : w.heap.size < w10.heap.size := by have := hB10.size; omega
          clear hF hzqH hBwH hB10
          simp only [badV]
          go_wp2_with fail
          simp [bodyPost, results, Tryz.results13, go_sem, z0, z1, z2, z3, z4, y0, y1, y2, y3, y4, World.cell?_alloc_lt, hq11]
          exact ⟨Or.inr (Or.inl ⟨⟨hdnH.out.symm, Or.inr ⟨by rw [eTH.out]; exact hxH.out, Or.inr ⟨by rw [eVH.out]; exact hyH.out, by rw [eTH.out, eVH.out]; exact hlenH.out⟩⟩⟩, rfl⟩), bad_put w w10 hBf.out _ _ _ _ _⟩
      · have hyH : Hid _ := hx
        have hset : set5 w8 w6.heap.size (.int .i64 90) (.int .i64 0) (.int .i64 0) (.bool false) (.bool false) = ((((w8.setCell ⟨w6.heap.size, 0, none⟩ (.int .i64 90)).setCell ⟨w6.heap.size, 1, none⟩ (.int .i64 0)).setCell ⟨w6.heap.size, 2, none⟩ (.int .i64 0)).setCell ⟨w6.heap.size, 3, none⟩ (.bool false)).setCell ⟨w6.heap.size, 4, none⟩ (.bool false) := rfl
        obtain ⟨u0, u1, u2, u3, u4⟩ := set5_cells hzb9 (.int .i64 90) (.int .i64 0) (.int .i64 0) (.bool false) (.bool false)
        obtain ⟨z0, z1, z2, z3, z4, y0, y1, y2, y3, y4⟩ := hz9.of (set5_oth w8 w6.heap.size w.heap.size (.int .i64 90) (.int .i64 0) (.int .i64 0) (.bool false) (.bool false) (by omega))
        have hBwH : Hid _ := set5_below (show w.heap.size ≤ w6.heap.size by omega) hBw9 (.int .i64 90) (.int .i64 0) (.int .i64 0) (.bool false) (.bool false)
        have hq10 : w.heap.size < (set5 w8 w6.heap.size (.int .i64 90) (.int .i64 0) (.int .i64 0) (.bool false) (.bool false)).heap.size := by rw [set5_size]; exact hq9
        obtain ⟨f0, f1, f2, f3, f4⟩ : w8.frozen? ⟨w6.heap.size, 0, none⟩ = false ∧ w8.frozen? ⟨w6.heap.size, 1, none⟩ = false ∧ w8.frozen? ⟨w6.heap.size, 2, none⟩ = false ∧ w8.frozen? ⟨w6.heap.size, 3, none⟩ = false ∧ w8.frozen? ⟨w6.heap.size, 4, none⟩ = false := ⟨hzb9.y0, hzb9.y1, hzb9.y2, hzb9.y3, hzb9.y4⟩
        have hd0 := hzb9.z0
        have hd1 := hzb9.z1
        have hd2 := hzb9.z2
        have hd3 := hzb9.z3
        have hd4 := hzb9.z4
        obtain ⟨W9, hW9⟩ : ∃ W9, W9 = set5 w8 w6.heap.size (.int .i64 90) (.int .i64 0) (.int .i64 0) (.bool false) (.bool false) := ⟨_, rfl⟩
        rw [← hW9] at hset u0 u1 u2 u3 u4 z0 z1 z2 z3 z4 y0 y1 y2 y3 y4 hBwH hq10
        clear hE hI9 hx hBw9 hBw8 hBw7 hBw6 hBw5 hW9 hz9 hzb9
        simp only [badV]
        go_wp2_with fail
        rw [← hset]
        clear hset hd0 hd1 hd2 hd3 hd4 f0 f1 f2 f3 f4
        go_wp2_with fail
        go_region_with (fail)
        all_goals
          go_wp2_with fail
          simp [bodyPost, results, Tryz.results13, go_sem, z0, z1, z2, z3, z4, y0, y1, y2, y3, y4, World.cell?_alloc_lt, hq10]
          exact ⟨Or.inr (Or.inl ⟨⟨hdnH.out.symm, Or.inr ⟨by rw [eTH.out]; exact hxH.out, Or.inl (by rw [eVH.out]; exact hyH.out)⟩⟩, rfl⟩), (bad_put w W9 hBwH.out _ _ _ _ _).drew⟩
    · have hxH : Hid _ := hx
      obtain ⟨z0, z1, z2, z3, z4, y0, y1, y2, y3, y4⟩ := hz7
      have hBwH : Hid _ := hBw7
      clear hE hV7 hx hBw7 hBw6 hBw5
      simp only [badV]
      go_wp2_with fail
      go_region_with (fail)
      all_goals
        go_wp2_with fail
        simp [bodyPost, results, Tryz.results13, go_sem, z0, z1, z2, z3, z4, y0, y1, y2, y3, y4, World.cell?_alloc_lt, hq7]
        exact ⟨Or.inr (Or.inl ⟨⟨hdnH.out.symm, Or.inl (by rw [eTH.out]; exact hxH.out)⟩, rfl⟩), (below_new (bad_put w w6 hBwH.out _ _ _ _ _) _).drew⟩
end Go.Proofs.YtpicgjjbpiinfaaGreatDoor

namespace Go.Proofs.YtpicgjjbpiinfaaGreatDoor
open Go.RowKit
set_option linter.unusedVariables false
set_option linter.unusedSimpArgs false
def HeadE (bs : Nat → Nat) (n : Nat) (e : Ending) : Prop :=
  (∃ x, UPf bs n x ∧ e = .returned (.tuple #[.int .i64 0, .int .i64 0, .int .i64 0, fvV (some x)])) ∨
  (UPb bs n ∧ e = .returned (.tuple #[.int .i64 0, .int .i64 0, .int .i64 0, .iface 29 (.int .i64 90)])) ∨
  (UPg bs n ∧ ((tL (pT bs n)).length = 0 ∧ e = .returned (.tuple #[.int .i64 0, .int .i64 0, .int .i64 0, .nilIface]) ∨
    0 < (tL (pT bs n)).length ∧ e = .returned (.tuple #[.int .i64 ((tL (pT bs n)).length : Int), .int .i64 (ttL (tL (pT bs n)) 0), .int .i64 (ttL (tL (pT bs n)) ((tL (pT bs n)).length - 1)), .nilIface])))
set_option maxRecDepth 100000 in
set_option maxHeartbeats 4000000 in
theorem head_any (ba : Option Addr) (bc : Nat) (B : List Nat) (w : World) (h : BytesIn w ba B.length (natsOf B)) (hc : ba = none → bc = 0) (hct : CT w) (hg : 0 < w.heap.size) : Calls Tryz.prog 14 #[.slice ba B.length bc] w fun e w' => HeadE (natsOf B) B.length e ∧ Below w.heap.size w w' := by
  have hU : Hid _ := unpack_any ba bc B w h hc hct hg
  clear h hct
  go_enter Tryz.func14, Tryz.ntmps14
  go_wp2_with fail
  refine Calls.mono hU.out ?_
  rintro e w2 ⟨hE, hB2⟩
  clear hU
  rcases hE with ⟨⟨x1, x2⟩, hx, rfl⟩ | ⟨hx, rfl⟩ | ⟨hG, ra, rc, rfl, hS⟩
  · have hxH : Hid _ := hx
    clear hx
    simp only [fvV]
    go_wp2_with fail
    refine bodyPost_ret (v := .tuple #[.int .i64 0, .int .i64 0, .int .i64 0, fvV (some (x1, x2))]) ?_ rfl ?_
    · simp [results, Tryz.results14, go_sem, fvV]
    · exact ⟨Or.inl ⟨(x1, x2), hxH.out, rfl⟩, hB2⟩
  · have hxH : Hid _ := hx
    clear hx
    go_wp2_with fail
    refine bodyPost_ret (v := .tuple #[.int .i64 0, .int .i64 0, .int .i64 0, .iface 29 (.int .i64 90)]) ?_ rfl ?_
    · simp [results, Tryz.results14, go_sem]
    · exact ⟨Or.inr (Or.inl ⟨hxH.out, rfl⟩), hB2⟩
  · have hGH : Hid _ := hG
    obtain ⟨m, hm⟩ : ∃ m, m = (tL (pT (natsOf B) B.length)).length := ⟨_, rfl⟩
    obtain ⟨tt, htt⟩ : ∃ tt, tt = ttL (tL (pT (natsOf B) B.length)) := ⟨_, rfl⟩
    have hmH : Hid _ := hm
    have htH : Hid _ := htt
    rw [← hm, ← htt] at hS
    rw [← hm]
    clear hG hm htt
    rcases Nat.eq_zero_or_pos m with h0 | h0
    · subst h0
      clear hS
      go_wp2_with fail
      refine bodyPost_ret (v := .tuple #[.int .i64 0, .int .i64 0, .int .i64 0, .nilIface]) ?_ rfl ?_
      · simp [results, Tryz.results14, go_sem]
      · exact ⟨Or.inr (Or.inr ⟨hGH.out, Or.inl ⟨hmH.out.symm, rfl⟩⟩), hB2⟩
    · have hm0 : ¬ (m : Int) = 0 := by omega
      have hmn : ¬ m = 0 := by omega
      have hI0 : (0 : Int) < (m : Int) := by omega
      obtain ⟨hml, _, hz', hc⟩ := hS
      rcases hc with e0 | ⟨b, off, rfl, hb, hcc⟩
      · omega
      have d0 : w2.cell? ⟨b, off, none⟩ = some (.int .i64 (tt 0)) := by have := (hcc 0 h0).1; simpa using this
      have d1 : w2.cell? ⟨b, off + (m - 1) * 3, none⟩ = some (.int .i64 (tt (m - 1))) := (hcc (m - 1) (by omega)).1
      have k2 : (m : Int) - 1 = ((m - 1 : Nat) : Int) := by omega
      have k3 : ((m - 1 : Nat) : Int) < (m : Int) := by omega
      have k4 : (0 : Int) ≤ ((m - 1 : Nat) : Int) := by omega
      have hfin : Hid (∀ W, Below w2.heap.size w2 W → HeadE (natsOf B) B.length (.returned (.tuple #[.int .i64 (m : Int), .int .i64 (tt 0), .int .i64 (tt (m - 1)), .nilIface])) ∧ Below w.heap.size w W) := (by
        intro W hW
        refine ⟨Or.inr (Or.inr ⟨hGH.out, Or.inr ⟨by rw [← hmH.out]; exact h0, ?_⟩⟩), below_then hB2 hW⟩
        rw [← hmH.out, ← htH.out] : ∀ W, Below w2.heap.size w2 W → HeadE (natsOf B) B.length (.returned (.tuple #[.int .i64 (m : Int), .int .i64 (tt 0), .int .i64 (tt (m - 1)), .nilIface])) ∧ Below w.heap.size w W)
      clear hcc hGH hmH htH hz'
      go_wp2_with fail
      go_quiet (fail)
      go_wp2_with fail
      refine bodyPost_ret (v := .tuple #[.int .i64 (m : Int), .int .i64 (tt 0), .int .i64 (tt (m - 1)), .nilIface]) ?_ rfl ?_
      · simp [results, Tryz.results14, go_sem]
      · exact hfin.out _ (below_drewN (Below.refl _ _) _)
theorem uintT_fe0 (bs : Nat → Nat) (n M : Nat) : ∀ x, (uintT bs n M ⟨0, 0, none⟩).1.fv = some x → (x.2 == 0) = false := uintT_fe bs n M
theorem pieceT_fe (bs : Nat → Nat) (n M : Nat) (s : PS) (h : ∀ x, s.fv = some x → (x.2 == 0) = false) : ∀ x, (pieceT bs n M s).1.fv = some x → (x.2 == 0) = false := by
  intro x
  unfold pieceT
  split
  · intro hx
    simp only at hx
    unfold startF at hx
    split at hx
    · exact h x hx
    · split at hx
      · injection hx with hx; rw [← hx]; rfl
      · cases hx
  · split
    · rename_i q hq
      intro hx
      simp at hx
      rw [← hx]; exact numS_fe _ _ _ 10 0 0 _ rfl (by omega) hq
    · split
      · intro hx; simp at hx; rw [← hx]; rfl
      · split
        · intro hx; simp at hx; rw [← hx]; rfl
        · intro hx; simp at hx
theorem UPf.fe {bs : Nat → Nat} {n : Nat} {x : Int × Int} (h : UPf bs n x) : (x.2 == 0) = false := by
  rcases h with h | ⟨_, h | ⟨_, h⟩⟩
  · exact doneF_fe (pieceT_fe _ _ _ _ (pieceT_fe _ _ _ _ (fun y hy => by cases hy))) x h
  · exact doneF_fe (fun y hy => readT_fe _ _ _ (uintT_fe _ _ _) _ y hy) x h
  · exact doneF_fe (fun y hy => readV_fe _ _ _ (uintT_fe _ _ _) _ y hy) x h
theorem UPf.uniq {bs : Nat → Nat} {n : Nat} {x y : Int × Int} (h : UPf bs n x) (g : UPf bs n y) : x = y := by
  rcases h with h | ⟨h0, h | ⟨h1, h⟩⟩
  · rcases g with g | ⟨g0, _⟩
    · rw [h] at g; injection g
    · rw [h] at g0; cases g0
  · rcases g with g | ⟨_, g | ⟨g1, _⟩⟩
    · rw [h0] at g; cases g
    · unfold TF at h g; rw [h] at g; injection g
    · unfold TF at h; rw [g1.1] at h; cases h
  · rcases g with g | ⟨_, g | ⟨_, g⟩⟩
    · rw [h0] at g; cases g
    · unfold TF at g; rw [h1.1] at g; cases g
    · unfold VF at h g; rw [h] at g; injection g
theorem UPf.notb {bs : Nat → Nat} {n : Nat} {x : Int × Int} (h : UPf bs n x) : ¬ UPb bs n := by
  rintro ⟨g0, g⟩
  rcases h with h | ⟨_, h | ⟨h1, h⟩⟩
  · rw [h] at g0; cases g0
  · unfold TF at h
    rcases g with g | ⟨g1, _⟩
    · rw [g.1] at h; cases h
    · rw [g1.1] at h; cases h
  · unfold VF at h
    rcases g with g | ⟨_, g | ⟨g1, _⟩⟩
    · exact g.2 h1.2
    · rw [g.1] at h; cases h
    · rw [g1.1] at h; cases h
theorem UPg.notf2 {bs : Nat → Nat} {n : Nat} {x : Int × Int} (h : UPg bs n) : ¬ UPf bs n x := by
  obtain ⟨h1, h2, h3, h4⟩ := h
  rintro (g | ⟨_, g | ⟨_, g⟩⟩)
  · rw [h1] at g; cases g
  · unfold TF at g; rw [h2.1] at g; cases g
  · unfold VF at g; rw [h3.1] at g; cases g
theorem UPg.notb2 {bs : Nat → Nat} {n : Nat} (h : UPg bs n) : ¬ UPb bs n := by
  obtain ⟨h1, h2, h3, h4⟩ := h
  rintro ⟨_, g | ⟨_, g | ⟨_, g⟩⟩⟩
  · exact g.2 h2.2
  · exact g.2 h3.2
  · exact g h4
theorem sin_none (W : World) : SIn W none 0 (fun _ => 0) (fun _ => 0) (fun _ => 0) := ⟨by omega, fun i => ⟨by show 0 < 256; omega, by show (-9223372036854775808 : Int) ≤ 0; omega, by show (0 : Int) ≤ 9223372036854775807; omega⟩, fun i => ⟨by show (-9223372036854775808 : Int) ≤ 0; omega, by show (0 : Int) ≤ 9223372036854775807; omega⟩, Or.inl rfl⟩
theorem UnpE.shape {bs : Nat → Nat} {n : Nat} {err : Option (Int × Int) → Value} {bad ok : Value} {e : Ending} {w' : World} (h : UnpE bs n err bad ok e w') : ∃ a m c er, e = .returned (.tuple #[.slice a m c, er]) := by
  rcases h with ⟨x, _, he⟩ | ⟨_, he⟩ | ⟨_, a, c, he, _⟩
  · exact ⟨_, _, _, _, he⟩
  · exact ⟨_, _, _, _, he⟩
  · exact ⟨_, _, _, _, he⟩
/-- what the law holds against one another. -/
theorem UnpE.three {bs : Nat → Nat} {n : Nat} {e e' eh : Ending} {w w' : World} (h : UnpE bs n fvV (.iface 29 (.int .i64 90)) .nilIface e w) (h' : UnpE bs n fvB (badV 90) (badV 0) e' w') (hh : HeadE bs n eh) (hB : Below w.heap.size w w') :
    ∃ ra rm rc er da dc b0 b1 b2 b3 b4 f t, e = .returned (.tuple #[.slice ra rm rc, er]) ∧ e' = .returned (.tuple #[.slice da rm dc, .agg #[.int .i64 b0, .int .i64 b1, .int .i64 b2, .bool b3, .bool b4]]) ∧ eh = .returned (.tuple #[.int .i64 ((rm : Nat) : Int), .int .i64 f, .int .i64 t, er]) ∧
      (∀ W, ET W → Calls Tryz.prog 9 #[er, .agg #[.int .i64 b0, .int .i64 b1, .int .i64 b2, .bool b3, .bool b4]] W fun e w' => e = .returned (.bool true) ∧ Below W.heap.size W w') ∧
      (∀ W, Below w'.heap.size w' W → Calls Tryz.prog 15 #[.slice ra rm rc, .slice da rm dc] W fun e w' => e = .returned (.bool true) ∧ Below W.heap.size W w') ∧
      ((rm = 0 ∧ f = 0 ∧ t = 0) ∨ (0 < rm ∧ rm ≤ 8796093022208 ∧ ∃ b off, da = some ⟨b, off, none⟩ ∧ b < w'.heap.size ∧ w'.cell? ⟨b, off, none⟩ = some (.int .i64 f) ∧ w'.cell? ⟨b, off + (rm - 1) * 3, none⟩ = some (.int .i64 t))) := by
  rcases h with ⟨x, hx, he⟩ | ⟨hx, he⟩ | ⟨hx, a, c, he, hS⟩
  · have hfe := hx.fe
    rcases h' with ⟨y, hy, he'⟩ | ⟨hy, _⟩ | ⟨hy, _⟩
    · rcases hh with ⟨z, hz, heh⟩ | ⟨hz, _⟩ | ⟨hz, _⟩
      · obtain rfl := UPf.uniq hx hy
        obtain rfl := UPf.uniq hx hz
        exact ⟨_, 0, _, _, _, _, _, _, _, _, _, _, _, he, he', heh, fun W hW => same_fv (some x) (fun y hy => by injection hy with hy; rw [← hy]; exact hfe) W hW, fun W _ => sameSamples_any none none 0 0 0 _ _ _ W (sin_none W) (sin_none W), Or.inl ⟨rfl, rfl, rfl⟩⟩
      · exact absurd hz (UPf.notb hx)
      · exact absurd hx (UPg.notf2 hz)
    · exact absurd hy (UPf.notb hx)
    · exact absurd hx (UPg.notf2 hy)
  · rcases h' with ⟨y, hy, _⟩ | ⟨hy, he'⟩ | ⟨hy, _⟩
    · exact absurd hx (UPf.notb hy)
    · rcases hh with ⟨z, hz, _⟩ | ⟨hz, heh⟩ | ⟨hz, _⟩
      · exact absurd hx (UPf.notb hz)
      · exact ⟨_, 0, _, _, _, _, _, _, _, _, _, _, _, he, he', heh, fun W hW => same_err 90 rfl W hW, fun W _ => sameSamples_any none none 0 0 0 _ _ _ W (sin_none W) (sin_none W), Or.inl ⟨rfl, rfl, rfl⟩⟩
      · exact absurd hx (UPg.notb2 hz)
    · exact absurd hx (UPg.notb2 hy)
  · rcases h' with ⟨y, hy, _⟩ | ⟨hy, _⟩ | ⟨_, a', c', he', hS'⟩
    · exact absurd hy (UPg.notf2 hx)
    · exact absurd hy (UPg.notb2 hx)
    · have hsame : ∀ W, Below w'.heap.size w' W → Calls Tryz.prog 15 #[.slice a (tL (pT bs n)).length c, .slice a' (tL (pT bs n)).length c'] W fun e w' => e = .returned (.bool true) ∧ Below W.heap.size W w' := fun W hW => sameSamples_any a a' _ c c' _ _ _ W (SIn.below (SIn.below hS hB (Nat.le_refl _)) hW (Nat.le_refl _)) (SIn.below hS' hW (Nat.le_refl _))
      rcases hh with ⟨z, hz, _⟩ | ⟨hz, _⟩ | ⟨_, ⟨h0, heh⟩ | ⟨h0, heh⟩⟩
      · exact absurd hz (UPg.notf2 hx)
      · exact absurd hz (UPg.notb2 hx)
      · refine ⟨_, (tL (pT bs n)).length, _, _, _, _, _, _, _, _, _, 0, 0, he, he', ?_, fun W hW => same_nilB W, hsame, Or.inl ⟨h0, rfl, rfl⟩⟩
        rw [h0]; exact heh
      · obtain ⟨g1, _, _, g4⟩ := hS'
        rcases g4 with e0 | ⟨b, off, e1, hb, hcc⟩
        · omega
        · refine ⟨_, (tL (pT bs n)).length, _, _, _, _, _, _, _, _, _, _, _, he, he', heh, fun W hW => same_nilB W, hsame, Or.inr ⟨h0, g1, b, off, e1, hb, ?_, (hcc _ (by omega)).1⟩⟩
          have := (hcc 0 h0).1
          simpa using this
end Go.Proofs.YtpicgjjbpiinfaaGreatDoor

namespace Go.Proofs.YtpicgjjbpiinfaaGreatDoor
open Go.RowKit
set_option linter.unusedVariables false
set_option linter.unusedSimpArgs false
theorem UnpE.shapeB {bs : Nat → Nat} {n : Nat} {e : Ending} {w' : World} (h : UnpE bs n fvB (badV 90) (badV 0) e w') : ∃ a m c b0 b1 b2 b3 b4, e = .returned (.tuple #[.slice a m c, .agg #[.int .i64 b0, .int .i64 b1, .int .i64 b2, .bool b3, .bool b4]]) := by
  rcases h with ⟨x, _, he⟩ | ⟨_, he⟩ | ⟨_, a, c, he, _⟩
  · exact ⟨_, _, _, _, _, _, _, _, he⟩
  · exact ⟨_, _, _, _, _, _, _, _, he⟩
  · exact ⟨_, _, _, _, _, _, _, _, he⟩
set_option maxRecDepth 100000 in
set_option maxHeartbeats 8000000 in
theorem blockUnpacks_walk (a : Option Addr) (len cap : Nat) (bs : Nat → Nat) (w : World) (h : BytesIn w a len bs) (hct : CT w) (hg : 0 < w.heap.size) (het : ET w) : Calls Tryz.prog 4 #[.slice a len cap] w fun e w' => e = .returned (.bool true) ∧ Below w.heap.size w w' := by
  have hbs : ∀ j, j < len → bs j < 256 := by
    rcases h.2 with h0 | ⟨b, off, e, hb, hB⟩
    · intro j hj; omega
    · exact fun j hj => (hB j hj).2
  have hH : Hid _ := hand_some a len cap bs w h
  have hBl : (bytesL bs len).length = len := by simp [bytesL]
  have hhH : Hid (BytesIn w a len bs) := h
  have hctH : Hid (CT w) := hct
  have hetH : Hid (ET w) := het
  have hbsH : Hid (∀ j, j < len → bs j < 256) := hbs
  have hlen := h.1
  clear h hct het hbs
  go_enter Tryz.func4, Tryz.ntmps4
  go_wp2_with fail
  refine Calls.mono hH.out ?_
  rintro e w1 ⟨rfl, hRow⟩
  have hB1 := hRow.b
  have hin1 : BytesIn w1 (some ⟨w.heap.size, 0, none⟩) len bs := ⟨hlen, Or.inr ⟨w.heap.size, 0, rfl, hRow.sz, hRow.bytes2 hbsH.out⟩⟩
  have hU0 := unpack_any (some ⟨w.heap.size, 0, none⟩) (len + 9) (bytesL bs len) w1 (by rw [hBl]; exact hin1.nats) (fun h => by cases h) (CT_below hctH.out hB1 hg) (by have := hB1.size; omega)
  rw [hBl] at hU0
  have hU : Hid _ := hU0
  have hRowH : Hid _ := hRow
  have hinH : Hid (BytesIn w1 (some ⟨w.heap.size, 0, none⟩) len (natsOf (bytesL bs len))) := hin1.nats
  clear hH hin1 hU0 hRow
  go_wp2_with fail
  refine Calls.mono hU.out ?_
  rintro e w2 ⟨hE, hB2⟩
  have hB02 := below_then hB1 hB2
  have hD0 := dUnpack_any a cap (bytesL bs len) w2 (by rw [hBl]; exact (hhH.out.below hB02).nats)
  rw [hBl] at hD0
  have hD : Hid _ := hD0
  have hEH : Hid _ := hE
  clear hU hD0
  obtain ⟨ra0, rm0, rc0, er0, rfl⟩ := UnpE.shape hE
  clear hE
  go_wp2_with fail
  refine Calls.mono hD.out ?_
  rintro e w3 ⟨hE', hB3⟩
  have hE'H : Hid _ := hE'
  obtain ⟨da0, dm0, dc0, b0, b1, b2, b3, b4, rfl⟩ := UnpE.shapeB hE'
  clear hD hE'
  have hB03 := below_then hB02 hB3
  have hB13 := below_then hB2 hB3
  have hBz := below_new (Below.refl _ w3) (.cells #[.int .i64 b0, .int .i64 b1, .int .i64 b2, .bool b3, .bool b4] 31)
  have hB04 := below_then hB03 hBz
  have hHd0 := head_any (some ⟨w.heap.size, 0, none⟩) (len + 9) (bytesL bs len) (w3.alloc (.cells #[.int .i64 b0, .int .i64 b1, .int .i64 b2, .bool b3, .bool b4] 31)) (by rw [hBl]; exact BytesIn.below (BytesIn.below hinH.out hB13) hBz) (fun h => by cases h) (CT_below hctH.out hB04 hg) (by have := hB04.size; omega)
  rw [hBl] at hHd0
  have hHd : Hid _ := hHd0
  clear hHd0 hinH
  go_wp2_with fail
  refine Calls.mono hHd.out ?_
  rintro e w4 ⟨hEh, hB4⟩
  obtain ⟨ra, rm, rc, er, da, dc, c0, c1, c2, c3, c4, f, t, he, he', heh, hSame, hVals, hft⟩ := UnpE.three hEH.out hE'H.out hEh hB3
  subst heh
  injection he with he
  injection he with he
  simp only [Array.mk.injEq, List.cons.injEq, Value.slice.injEq, and_true] at he
  obtain ⟨⟨rfl, rfl, rfl⟩, rfl⟩ := he
  injection he' with he'
  injection he' with he'
  simp only [Array.mk.injEq, List.cons.injEq, Value.slice.injEq, Value.agg.injEq, Value.int.injEq, Value.bool.injEq, true_and, and_true] at he'
  obtain ⟨⟨rfl, rfl, rfl⟩, rfl, rfl, rfl, rfl, rfl⟩ := he'
  have hSameH : Hid _ := hSame
  have hValsH : Hid _ := hVals
  clear hHd hEh hEH hE'H hSame hVals
  have hB34 := below_then hBz hB4
  have hB05 := below_then hB03 hB34
  have hzl : w3.heap.size < (w3.alloc (.cells #[.int .i64 b0, .int .i64 b1, .int .i64 b2, .bool b3, .bool b4] 31)).heap.size := by simp
  have cz : ∀ j, w4.cell? ⟨w3.heap.size, j, none⟩ = (w3.alloc (.cells #[.int .i64 b0, .int .i64 b1, .int .i64 b2, .bool b3, .bool b4] 31)).cell? ⟨w3.heap.size, j, none⟩ := fun j => hB4.cell (p := ⟨w3.heap.size, j, none⟩) hzl
  have z0 : w4.cell? ⟨w3.heap.size, 0, none⟩ = some (.int .i64 b0) := by rw [cz]; simp [go_sem]
  have z1 : w4.cell? ⟨w3.heap.size, 1, none⟩ = some (.int .i64 b1) := by rw [cz]; simp [go_sem]
  have z2 : w4.cell? ⟨w3.heap.size, 2, none⟩ = some (.int .i64 b2) := by rw [cz]; simp [go_sem]
  have z3 : w4.cell? ⟨w3.heap.size, 3, none⟩ = some (.bool b3) := by rw [cz]; simp [go_sem]
  have z4 : w4.cell? ⟨w3.heap.size, 4, none⟩ = some (.bool b4) := by rw [cz]; simp [go_sem]
  have hzl4 : w3.heap.size < w4.heap.size := by have := hB4.size; simp at this; omega
  clear cz hzl hB4 hBz hB04
  rcases hft with ⟨rfl, rfl, rfl⟩ | ⟨hpos, hrl, b, off, rfl, hb, hc0, hc1⟩
  · have hSe : Hid _ := hSameH.out w4 (ET_below hetH.out hB05)
    go_wp2_with fail
    refine Calls.mono hSe.out ?_
    rintro e w5 ⟨rfl, hB5⟩
    have hB35 := below_then hB34 hB5
    have hB06 := below_then hB05 hB5
    have y0 : w5.cell? ⟨w3.heap.size, 0, none⟩ = some (.int .i64 b0) := by rw [hB5.cell (p := ⟨w3.heap.size, 0, none⟩) hzl4]; exact z0
    have y1 : w5.cell? ⟨w3.heap.size, 1, none⟩ = some (.int .i64 b1) := by rw [hB5.cell (p := ⟨w3.heap.size, 1, none⟩) hzl4]; exact z1
    have y2 : w5.cell? ⟨w3.heap.size, 2, none⟩ = some (.int .i64 b2) := by rw [hB5.cell (p := ⟨w3.heap.size, 2, none⟩) hzl4]; exact z2
    have y3 : w5.cell? ⟨w3.heap.size, 3, none⟩ = some (.bool b3) := by rw [hB5.cell (p := ⟨w3.heap.size, 3, none⟩) hzl4]; exact z3
    have y4 : w5.cell? ⟨w3.heap.size, 4, none⟩ = some (.bool b4) := by rw [hB5.cell (p := ⟨w3.heap.size, 4, none⟩) hzl4]; exact z4
    have hSe2 : Hid _ := hSameH.out w5 (ET_below hetH.out hB06)
    clear hSe hB5 z0 z1 z2 z3 z4 hzl4 hSameH
    go_wp2_with fail
    refine Calls.mono hSe2.out ?_
    rintro e w6 ⟨rfl, hB6⟩
    have hB36 := below_then hB35 hB6
    have hB07 := below_then hB06 hB6
    have hVm : Hid _ := hValsH.out w6 hB36
    clear hSe2 hB6 y0 y1 y2 y3 y4 hValsH
    go_wp2_with fail
    refine Calls.mono hVm.out ?_
    rintro e w7 ⟨rfl, hB7⟩
    have hB37 := below_then hB36 hB7
    have hB08 := below_then hB07 hB7
    have hB17 := below_then hB13 hB37
    clear hVm hB7
    go_wp2_with fail
    have hLi : Hid _ := live_block w7 (CT_below hctH.out hB08 hg) (by have := hB08.size; omega)
    refine Calls.mono hLi.out ?_
    rintro e w8 ⟨rfl, hB8⟩
    have hB09 := below_then hB08 hB8
    have hB18 := below_then hB17 hB8
    have hKe : Hid _ := kept_true w.heap.size a len cap bs w8 (Nat.lt_of_lt_of_le hRowH.out.sz hB18.size) (fun j hj => by rw [hB18.cell (p := ⟨w.heap.size, j, none⟩) hRowH.out.sz]; exact hRowH.out.c j hj) hbsH.out (hhH.out.below hB09)
    clear hLi hB8
    go_wp2_with fail
    refine Calls.mono hKe.out ?_
    rintro e w9 ⟨rfl, hB9⟩
    have hB10 := below_then hB09 hB9
    clear hKe hB9
    go_wp2_with fail
    go_ret
    exact ⟨rfl, hB10⟩
  · have hrp : (0 : Int) < (dm0 : Int) := by omega
    have hr0 : ¬ (dm0 : Int) = 0 := by omega
    have hrn : ¬ dm0 = 0 := by omega
    have k2 : (dm0 : Int) - 1 = ((dm0 - 1 : Nat) : Int) := by omega
    have k3 : ((dm0 - 1 : Nat) : Int) < (dm0 : Int) := by omega
    have k4 : (0 : Int) ≤ ((dm0 - 1 : Nat) : Int) := by omega
    have hSe : Hid _ := hSameH.out w4 (ET_below hetH.out hB05)
    go_wp2_with fail
    refine Calls.mono hSe.out ?_
    rintro e w5 ⟨rfl, hB5⟩
    have hB35 := below_then hB34 hB5
    have hB06 := below_then hB05 hB5
    have y0 : w5.cell? ⟨w3.heap.size, 0, none⟩ = some (.int .i64 b0) := by rw [hB5.cell (p := ⟨w3.heap.size, 0, none⟩) hzl4]; exact z0
    have y1 : w5.cell? ⟨w3.heap.size, 1, none⟩ = some (.int .i64 b1) := by rw [hB5.cell (p := ⟨w3.heap.size, 1, none⟩) hzl4]; exact z1
    have y2 : w5.cell? ⟨w3.heap.size, 2, none⟩ = some (.int .i64 b2) := by rw [hB5.cell (p := ⟨w3.heap.size, 2, none⟩) hzl4]; exact z2
    have y3 : w5.cell? ⟨w3.heap.size, 3, none⟩ = some (.bool b3) := by rw [hB5.cell (p := ⟨w3.heap.size, 3, none⟩) hzl4]; exact z3
    have y4 : w5.cell? ⟨w3.heap.size, 4, none⟩ = some (.bool b4) := by rw [hB5.cell (p := ⟨w3.heap.size, 4, none⟩) hzl4]; exact z4
    have hSe2 : Hid _ := hSameH.out w5 (ET_below hetH.out hB06)
    clear hSe hB5 z0 z1 z2 z3 z4 hzl4 hSameH
    go_wp2_with fail
    refine Calls.mono hSe2.out ?_
    rintro e w6 ⟨rfl, hB6⟩
    have hB36 := below_then hB35 hB6
    have hB07 := below_then hB06 hB6
    have hVm : Hid _ := hValsH.out w6 hB36
    clear hSe2 hB6 y0 y1 y2 y3 y4 hValsH
    go_wp2_with fail
    refine Calls.mono hVm.out ?_
    rintro e w7 ⟨rfl, hB7⟩
    have hB37 := below_then hB36 hB7
    have hB08 := below_then hB07 hB7
    have hB17 := below_then hB13 hB37
    have d0 : w7.cell? ⟨b, off, none⟩ = some (.int .i64 f) := by rw [hB37.cell (p := ⟨b, off, none⟩) hb]; exact hc0
    have d1 : w7.cell? ⟨b, off + (dm0 - 1) * 3, none⟩ = some (.int .i64 t) := by rw [hB37.cell (p := ⟨b, off + (dm0 - 1) * 3, none⟩) hb]; exact hc1
    clear hc0 hc1
    clear hVm hB7
    go_wp2_with fail
    have hLi : Hid _ := live_block w7 (CT_below hctH.out hB08 hg) (by have := hB08.size; omega)
    refine Calls.mono hLi.out ?_
    rintro e w8 ⟨rfl, hB8⟩
    have hB09 := below_then hB08 hB8
    have hB18 := below_then hB17 hB8
    have hKe : Hid _ := kept_true w.heap.size a len cap bs w8 (Nat.lt_of_lt_of_le hRowH.out.sz hB18.size) (fun j hj => by rw [hB18.cell (p := ⟨w.heap.size, j, none⟩) hRowH.out.sz]; exact hRowH.out.c j hj) hbsH.out (hhH.out.below hB09)
    clear hLi hB8
    go_wp2_with fail
    refine Calls.mono hKe.out ?_
    rintro e w9 ⟨rfl, hB9⟩
    have hB10 := below_then hB09 hB9
    clear hKe hB9
    go_wp2_with fail
    go_ret
    exact ⟨rfl, hB10⟩
end Go.Proofs.YtpicgjjbpiinfaaGreatDoor
