
import Derived.Test.YtpicgjjbpiinfaaDoorBuN
import Derived.Test.YtpicgjjbpiinfaaDoorBlFq
import Derived.Test.YtpicgjjbpiinfaaDoorBuM
import Derived.BigQuiet
import Derived.Test.YtpicgjjbpiinfaaDoorBlSq
import Derived.Test.YtpicgjjbpiinfaaDoorBuR
namespace Go.Proofs.YtpicgjjbpiinfaaDoor
open Go.RowKit
set_option linter.unusedVariables false
set_option linter.unusedSimpArgs false
theorem put5 (w W : World) (q : Nat) (hq : w.heap.size ≤ q) (hB : Below w.heap.size w W) (x0 x1 x2 x3 x4 : Value) : Below w.heap.size w (((((W.setCell ⟨q, 0, none⟩ x0).setCell ⟨q, 1, none⟩ x1).setCell ⟨q, 2, none⟩ x2).setCell ⟨q, 3, none⟩ x3).setCell ⟨q, 4, none⟩ x4) := by
  have bb : ∀ (W : World) (j : Nat) (x : Value), Below w.heap.size w W → Below w.heap.size w (W.setCell ⟨q, j, none⟩ x) := fun W j x hW => hW.setCell (p := ⟨q, j, none⟩) hq _
  exact bb _ _ _ (bb _ _ _ (bb _ _ _ (bb _ _ _ (bb _ _ _ hB))))
theorem bytesIn_same {W : World} {p : Addr} {u : Value} {a : Option Addr} {m : Nat} {f : Nat → Nat} (hp : W.cell? p = some u) (h : BytesIn W a m f) : BytesIn (W.setCell p u) a m f := by
  refine ⟨h.1, ?_⟩
  rcases h.2 with h0 | ⟨b, off, e, hb, hB⟩
  · exact Or.inl h0
  · refine Or.inr ⟨b, off, e, by simpa using hb, fun i hi => ⟨?_, (hB i hi).2⟩⟩
    by_cases e' : (⟨b, off + i, none⟩ : Addr) = p
    · have h1 := (hB i hi).1
      rw [e'] at h1 ⊢
      rw [World.cell?_setCell_same _ _ _ hp, ← hp]; exact h1
    · rw [World.cell?_setCell_other _ _ _ _ (fun h => e' h.symm)]; exact (hB i hi).1
theorem BZ.set {z q j : Nat} {x : Value} {W : World} (h : BZ z W) (hne : z ≠ q) : BZ z (W.setCell ⟨q, j, none⟩ x) := by
  obtain ⟨z0, z1, z2, z3, z4, y0, y1, y2, y3, y4⟩ := h
  refine ⟨?_, ?_, ?_, ?_, ?_, by simpa using y0, by simpa using y1, by simpa using y2, by simpa using y3, by simpa using y4⟩
  · rw [World.cell?_setCell_other _ _ _ _ (by intro e; injection e with e1; omega)]; exact z0
  · rw [World.cell?_setCell_other _ _ _ _ (by intro e; injection e with e1; omega)]; exact z1
  · rw [World.cell?_setCell_other _ _ _ _ (by intro e; injection e with e1; omega)]; exact z2
  · rw [World.cell?_setCell_other _ _ _ _ (by intro e; injection e with e1; omega)]; exact z3
  · rw [World.cell?_setCell_other _ _ _ _ (by intro e; injection e with e1; omega)]; exact z4
set_option maxRecDepth 100000 in
set_option maxHeartbeats 8000000 in
theorem dpack_any (a : Option Addr) (n cap : Nat) (tt : Nat → Int) (kk : Nat → Nat) (xx : Nat → Int) (w : World) (h : SIn w a n tt kk xx) (hs : n ≤ 1048576) : Calls Tryd.prog 15 #[.slice a n cap] w fun e w' => PackE tt kk xx n badV (badV 0) e w' ∧ Below w.heap.size w w' := by
  have hz0 := BZ.start w
  have hB0 := below_new (Below.refl _ w) (.cells #[.int .i64 0, .int .i64 0, .int .i64 0, .bool false, .bool false] 41)
  have hql : w.heap.size < (w.alloc (.cells #[.int .i64 0, .int .i64 0, .int .i64 0, .bool false, .bool false] 41)).heap.size := by simp
  have hhH : Hid (SIn w a n tt kk xx) := h
  clear h
  go_enter Tryd.func15, Tryd.ntmps15
  go_wp2_with fail
  have hst : Hid _ := DP.start (w.alloc (.cells #[.int .i64 0, .int .i64 0, .int .i64 0, .bool false, .bool false] 41)) tt kk xx
  obtain ⟨w0, hw0⟩ : ∃ w0, w0 = w.alloc (.cells #[.int .i64 0, .int .i64 0, .int .i64 0, .bool false, .bool false] 41) := ⟨_, rfl⟩
  rw [← hw0] at hz0 hB0 hql hst ⊢
  have hz0H : Hid (BZ w.heap.size w0) := hz0
  clear hw0 hz0
  go_loopw [4, 5, 6] (fun t v i wr => ∃ k : Nat, k ≤ n ∧ i = .int .i64 (k : Int) ∧ DP w0 tt kk xx k t v wr) (fun _ _ i _ => n - (intOf i).toNat)
  case atStart => exact ⟨0, by omega, rfl, hst.out⟩
  case round =>
    clear hst
    obtain ⟨k, hk, rfl, hD⟩ := hrel
    have hBw : Below w.heap.size w _ := below_then hB0 hD.b
    by_cases hkn : k < n
    · have hkI : (k : Int) < (n : Int) := by omega
      have k1 : (0 : Int) ≤ (k : Int) := by omega
      obtain ⟨g1, c1, w1, g2, c2, w2, hr1, hb1, hr2, hD2⟩ := hD.step (by omega)
      obtain ⟨hn1, hz, hz', hc⟩ := hhH.out
      rcases hc with h0 | ⟨b, off, rfl, hb, hcc⟩
      · omega
      have hBw1 : Below w.heap.size w w1 := below_then hB0 hb1
      have d1 := (show _ = _ from by rw [hBw.cell (p := ⟨b, off + k * 3, none⟩) hb]; exact (hcc k hkn).1 : World.cell? _ ⟨b, off + k * 3, none⟩ = some (.int .i64 (tt k)))
      have d2 : w1.cell? ⟨b, off + k * 3 + 1, none⟩ = some (.int .u8 (kk k : Int)) := by rw [hBw1.cell (p := ⟨b, off + k * 3 + 1, none⟩) hb]; exact (hcc k hkn).2.1
      have d3 : w1.cell? ⟨b, off + k * 3 + 2, none⟩ = some (.int .i64 (xx k)) := by rw [hBw1.cell (p := ⟨b, off + k * 3 + 2, none⟩) hb]; exact (hcc k hkn).2.2
      have hr1H : Hid _ := hr1
      have hr2H : Hid _ := hr2
      have hD2H : Hid _ := hD2
      clear hr1 hr2 hD2 hD hcc hz hz' hBw hBw1 hb1
      go_wp2_with (at_builtin; first | (refine wpList_append_run2 (by rfl) _ _ _ _ (by rfl) _ _ _ _ (by rfl) (by rfl) hr1H.out ?_; clear hr1H) | (refine wpList_append_run2 (by rfl) _ _ _ _ (by rfl) _ _ _ _ (by rfl) (by rfl) hr2H.out ?_; clear hr2H))
      go_roundw
      case rel => exact ⟨k + 1, by omega, by go_num, hD2H.out⟩
      case measure => simp [intOf]; omega
    · obtain rfl : n = k := by omega
      have hkI : ¬ (n : Int) < (n : Int) := by omega
      obtain ⟨hn1, hz, hz', hc⟩ := hhH.out
      obtain ⟨ta, tc, rfl, hI⟩ := own_IsIn hD.ot hs hz'
      obtain ⟨va, vc, rfl, hV⟩ := own_VIn hD.ov hs hz
      have hT : Hid _ := dtimes_any ta n tc tt _ hI
      have hVH : Hid (VIn _ va n kk xx) := hV
      have hzw : BZ w.heap.size _ := hz0H.out.of (hD.b.block w.heap.size hql)
      have hzwH : Hid _ := hzw
      have hqw : w.heap.size < _ := Nat.lt_of_lt_of_le hql hD.b.size
      have hBwH : Hid _ := hBw
      clear hc hz hz' hI hV hD hz0H hzw hBw
      go_wp2_with fail
      refine Calls.mono hT.out ?_
      rintro e w3 ⟨hE, hB3⟩
      have hB03 := below_then hBwH.out hB3
      have hz3 := hzwH.out.of (hB3.block w.heap.size hqw)
      have hq3 : w.heap.size < w3.heap.size := Nat.lt_of_lt_of_le hqw hB3.size
      have hVa : Hid _ := dvalues_any va n vc kk xx w3 (hVH.out.below hB3 (Nat.le_refl _))
      rcases hE with ⟨hx, _⟩ | ⟨_, hnr, rfl⟩ | ⟨_, hnr, xa, xc, rfl, hin3⟩
      · omega
      · have hnrH : Hid (¬ Rises tt n) := hnr
        obtain ⟨z0, z1, z2, z3, z4, y0, y1, y2, y3, y4⟩ := hz3
        have hB03H : Hid _ := hB03
        clear hnr hVa hVH hT hzwH hB03 hBwH
        simp only [badV]
        go_wp2_with fail
        go_region_with (fail)
        all_goals
          go_wp2_with fail
          simp [bodyPost, results, Tryd.results15, go_sem, z0, z1, z2, z3, z4, y0, y1, y2, y3, y4, World.cell?_alloc_lt, hq3]
          exact ⟨Or.inl ⟨fun hx => hnrH.out hx.1, rfl⟩, (below_new (bad_put w w3 hB03H.out _ _ _ _ _) _).drew⟩
      · have hnrH : Hid (Rises tt n) := hnr
        have hl1 := timesS_len tt n n
        obtain ⟨sl, hsl⟩ : ∃ sl, sl = (timesS tt n n).1 := ⟨_, rfl⟩
        rw [← hsl] at hin3 hl1 ⊢
        have hslH : Hid (sl = (timesS tt n n).1) := hsl
        have hin3H : Hid (BytesIn w3 xa sl.length (natsOf sl)) := hin3
        have hBz := below_new (Below.refl _ w3) (.cells #[.int .i64 0, .int .i64 0, .int .i64 0, .bool false, .bool false] 41)
        have hzb := BZ.start w3
        have hzl : w3.heap.size < (w3.alloc (.cells #[.int .i64 0, .int .i64 0, .int .i64 0, .bool false, .bool false] 41)).heap.size := by simp
        have hz3' := hz3.of (hBz.block w.heap.size hq3)
        have hVa : Hid _ := dvalues_any va n vc kk xx _ (hVH.out.below (below_then hB3 hBz) (Nat.le_refl _))
        have hzH : Hid _ := And.intro hzb hz3'
        have hB03H : Hid _ := And.intro hB03 hBz
        clear hnr hin3 hsl hT hzwH hz3 hzb hz3' hB3 hBwH hVH hB03 hBz
        simp only [badV]
        go_wp2_with fail
        refine Calls.mono hVa.out ?_
        rintro e w4 ⟨hE, hB4⟩
        have hB34 := below_then hB03H.out.2 hB4
        have hB04 := below_then hB03H.out.1 hB34
        have hzb4 := hzH.out.1.of (hB4.block w3.heap.size hzl)
        have hzw4 := hzH.out.2.of (hB4.block w.heap.size (by omega))
        have hl34 : w3.heap.size < w4.heap.size := Nat.lt_of_lt_of_le hzl hB4.size
        have hq4 : w.heap.size < w4.heap.size := by omega
        have hq34 : ¬ w.heap.size = w3.heap.size := by omega
        have hq43 : ¬ w3.heap.size = w.heap.size := by omega
        have hB04H : Hid (Below w.heap.size w w4) := hB04
        have hB34H : Hid (Below w3.heap.size w3 w4) := hB34
        clear hVa hzH hB4 hB03H hB04 hB34
        rcases hE with ⟨hx, _⟩ | ⟨_, hnv, rfl⟩ | ⟨_, hnv, ya, yc, rfl, hin4⟩
        · omega
        · have hnvH : Hid (¬ AllV kk xx n) := hnv
          obtain ⟨z0, z1, z2, z3, z4, y0, y1, y2, y3, y4⟩ := hzw4
          obtain ⟨b0, b1, b2, b3, b4, f0, f1, f2, f3, f4⟩ := hzb4
          clear hnv
          simp only [badV]
          go_wp2_with fail
          go_region_with (fail)
          all_goals
            go_wp2_with fail
            simp [bodyPost, results, Tryd.results15, go_sem, z0, z1, z2, z3, z4, y0, y1, y2, y3, y4, b0, b1, b2, b3, b4, f0, f1, f2, f3, f4, hq34, hq43]
            exact ⟨Or.inl ⟨fun hx => hnvH.out hx.2, rfl⟩, (put5 w _ w.heap.size (Nat.le_refl _) (put5 w w4 w3.heap.size (by omega) hB04H.out _ _ _ _ _) _ _ _ _ _).drew⟩
        · have hnvH : Hid (AllV kk xx n) := hnv
          have hl2 := valsS_len kk xx n n
          obtain ⟨vl, hvl⟩ : ∃ vl, vl = (valsS kk xx n n).s.1 := ⟨_, rfl⟩
          rw [← hvl] at hin4 hl2 ⊢
          have hP : Hid (packS tt kk xx n = rawOn vl (rawOn sl ([], 0))) := (by rw [hvl, hslH.out]; rfl : packS tt kk xx n = rawOn vl (rawOn sl ([], 0)))
          have hul := uB_len sl.length
          have hu2 := uB_len vl.length
          obtain ⟨b0, b1, b2, b3, b4, f0, f1, f2, f3, f4⟩ := hzb4
          have hzw4H : Hid (BZ w.heap.size w4) := hzw4
          have hin4H : Hid (BytesIn w4 ya vl.length (natsOf vl)) := hin4
          clear hnv hin4 hvl hzw4
          simp only [badV]
          go_wp2_with fail
          obtain ⟨w5, hw5⟩ : ∃ w5, w5 = (((((w4.setCell ⟨w3.heap.size, 0, none⟩ (.int .i64 0)).setCell ⟨w3.heap.size, 1, none⟩ (.int .i64 0)).setCell ⟨w3.heap.size, 2, none⟩ (.int .i64 0)).setCell ⟨w3.heap.size, 3, none⟩ (.bool false)).setCell ⟨w3.heap.size, 4, none⟩ (.bool false)) := ⟨_, rfl⟩
          have hs5 : w4.heap.size = w5.heap.size := by rw [hw5]; simp
          have hkeep : ∀ (aa : Option Addr) (m : Nat) (f : Nat → Nat), BytesIn w4 aa m f → BytesIn w5 aa m f := fun aa m f hI => by
            rw [hw5]
            refine bytesIn_same ?_ (bytesIn_same ?_ (bytesIn_same ?_ (bytesIn_same ?_ (bytesIn_same b0 hI))))
            · rw [World.cell?_setCell_other _ _ _ _ (by simp), World.cell?_setCell_other _ _ _ _ (by simp), World.cell?_setCell_other _ _ _ _ (by simp), World.cell?_setCell_other _ _ _ _ (by simp)]; exact b4
            · rw [World.cell?_setCell_other _ _ _ _ (by simp), World.cell?_setCell_other _ _ _ _ (by simp), World.cell?_setCell_other _ _ _ _ (by simp)]; exact b3
            · rw [World.cell?_setCell_other _ _ _ _ (by simp), World.cell?_setCell_other _ _ _ _ (by simp)]; exact b2
            · rw [World.cell?_setCell_other _ _ _ _ (by simp)]; exact b1
          have hz5 : BZ w.heap.size w5 := by rw [hw5]; exact ((((hzw4H.out.set hq34).set hq34).set hq34).set hq34).set hq34
          have hB05 : Below w.heap.size w w5 := by rw [hw5]; exact put5 w w4 w3.heap.size (by omega) hB04H.out _ _ _ _ _
          have h5a := hkeep xa sl.length (natsOf sl) (hin3H.out.below hB34H.out)
          have h5b := hkeep ya vl.length (natsOf vl) hin4H.out
          rw [← hw5, hs5]
          have hq5 : w.heap.size < w5.heap.size := by omega
          have hR1 : Hid _ := dw_raw (DW.start w5) rfl sl xa xc h5a (by simp; omega)
          have hR2 : Hid (∀ wx, DW w5.heap.size w5 (rawOn sl ([], 0)) wx → Calls Tryd.prog 42 #[.pointer (some ⟨w5.heap.size, 0, none⟩), .slice ya vl.length yc] wx fun e w' => e = .returned undef ∧ DW w5.heap.size w5 (rawOn vl (rawOn sl ([], 0))) w') := fun wx hx => dw_raw hx rfl vl ya yc h5b (by simp [rawOn]; omega)
          have hlen : Hid ((rawOn vl (rawOn sl ([], 0))).1.length ≤ 140737488355327) := (by simp [rawOn]; omega : (rawOn vl (rawOn sl ([], 0))).1.length ≤ 140737488355327)
          have hz5H : Hid (BZ w.heap.size w5) := hz5
          have hB05H : Hid (Below w.heap.size w w5) := hB05
          clear hkeep hw5 hs5 hz5 hB05 h5a h5b b0 b1 b2 b3 b4 f0 f1 f2 f3 f4 hzw4H hin4H hin3H hB04H hB34H hul hu2 hl1 hl2 hq34 hq43 hl34 hq4 hzl hq3 hslH
          refine Calls.mono hR1.out ?_
          rintro e w6 ⟨rfl, h6⟩
          have hR3 : Hid _ := hR2.out _ h6
          clear hR1 hR2 h6
          go_wp2_with fail
          refine Calls.mono hR3.out ?_
          rintro e w7 ⟨rfl, h7⟩
          have hb7 := h7.b
          obtain ⟨hCL, v, hWS⟩ := h7
          obtain ⟨oa, oc, hv, hin⟩ := hWS.bytes hCL.2.1 hlen.out
          have c0 := hWS.c0
          rw [hv] at c0
          obtain ⟨z0, z1, z2, z3, z4, y0, y1, y2, y3, y4⟩ := hz5H.out.of (hb7.block w.heap.size hq5)
          obtain ⟨S, hS⟩ : ∃ S, S = (rawOn vl (rawOn sl ([], 0))).1 := ⟨_, rfl⟩
          rw [← hS] at c0 hin
          have hSH : Hid (S = (packS tt kk xx n).1) := (by rw [hS, hP.out] : S = (packS tt kk xx n).1)
          have hinH : Hid (BytesIn w7 oa S.length (natsOf S)) := hin
          have hfin : Hid (∀ W, Below w.heap.size w W → BytesIn W oa S.length (natsOf S) → PackE tt kk xx n badV (badV 0) (.returned (.tuple #[.slice oa S.length oc, badV 0])) W ∧ Below w.heap.size w W) := (fun W hBW hI => ⟨Or.inr ⟨⟨hnrH.out, hnvH.out⟩, oa, oc, by rw [hSH.out], by rw [← hSH.out]; exact hI⟩, hBW⟩ : ∀ W, Below w.heap.size w W → BytesIn W oa S.length (natsOf S) → PackE tt kk xx n badV (badV 0) (.returned (.tuple #[.slice oa S.length oc, badV 0])) W ∧ Below w.heap.size w W)
          have hne : S.length = 0 ∨ ∃ g o, oa = some ⟨g, o, none⟩ ∧ w.heap.size < g := by
            rcases hWS.own.2 with ⟨h1, h1'⟩ | ⟨g, cap', cur, h1, h2, _⟩
            · left; rw [hS]; rw [hv] at h1; injection h1
            · right; rw [hv] at h1; injection h1 with h1; exact ⟨g, 0, h1, by omega⟩
          have hneH : Hid _ := hne
          have hBwH : Hid (Below w.heap.size w w7) := below_then hB05H.out hb7
          clear hWS hCL hS hv hin hb7 hne hR3 hz5H hB05H hP hlen
          go_wp2_with fail
          simp [bodyPost, results, Tryd.results15, go_sem, z0, z1, z2, z3, z4, y0, y1, y2, y3, y4]
          have hfx := hfin.out _ (bad_put w w7 hBwH.out (.int .i64 0) (.int .i64 0) (.int .i64 0) (.bool false) (.bool false)) (bytesIn_z hneH.out (bytesIn_z hneH.out (bytesIn_z hneH.out (bytesIn_z hneH.out (bytesIn_z hneH.out hinH.out)))))
          exact hfx
end Go.Proofs.YtpicgjjbpiinfaaDoor

namespace Go.Proofs.YtpicgjjbpiinfaaDoor
open Go.RowKit
set_option linter.unusedVariables false
set_option linter.unusedSimpArgs false
end Go.Proofs.YtpicgjjbpiinfaaDoor

namespace Go.Proofs.YtpicgjjbpiinfaaDoor
open Go.ChangeShapes Go.WideShapes Go.ChangeAt Go.RowKit
set_option linter.unusedVariables false
set_option linter.unusedSimpArgs false
theorem bulk_appV {H : Type} (a b : List (DataW H)) : Rows.uptoBulkAll (a ++ b) = Rows.uptoBulkAll a + Rows.uptoBulkAll b := by
  induction a with
  | nil => simp [Rows.uptoBulkAll]
  | cons x a ih => simp [Rows.uptoBulkAll, ih]; omega
theorem bulk_posV {H : Type} (d : DataW H) : 1 ≤ Rows.uptoBulk d := by
  cases d <;> first | (simp [Rows.uptoBulk]; done) | (rename_i q; cases q <;> simp [Rows.uptoBulk])
theorem choose_belowV {α : Type} [Inhabited α] {p : Nat → α → Prop} {m : Nat} (h : ∀ i, i < m → ∃ x, p i x) : ∃ f : Nat → α, ∀ i, i < m → p i (f i) :=
  ⟨fun i => if hi : i < m then Classical.choose (h i hi) else default, fun i hi => by simp only [hi, dif_pos]; exact Classical.choose_spec (h i hi)⟩
set_option maxRecDepth 100000 in
/-- a slice of values, by its bulk. -/
theorem vals_bulk {H : Type} {enc : TypeId × Value → H} {W : World} {v : Value} {y : DataW H × List MemPlace} {fuel : Nat}
    (hf : DataW.trod enc Tryd.prog W 0 (fun _ => true) true fuel 36 [v] = some y) (hbk : Rows.uptoBulk y.1 ≤ 1048576) :
    ∃ a len cap kk xx, v = .slice a len cap ∧ len ≤ 1048576 ∧ VIn W a len kk xx := by
  rcases Go.Deep.open_slice Tryd.underlying36 hf with ⟨hcs, hx⟩ | ⟨a, len, cap, m, n, D, Pl, hcs, hb, hl, hm, hmm, hx, hall⟩
  · simp at hcs
    subst hcs
    exact ⟨none, 0, 0, fun _ => 0, fun _ => 0, rfl, by omega, by omega, fun _ => by simp, Or.inl rfl⟩
  · simp at hcs
    subst hcs
    simp only [if_true] at hmm
    subst hmm
    have hce : Tryd.prog.cellsOf 26 = 2 := by kernel_rfl
    have hy1 : y.1 = .slice ((List.range len).map D) ((List.range (m - len)).map fun j => D (len + j)) := by rw [hx]
    have hbe : Rows.uptoBulkAll ((List.range len).map D) ≤ 1048576 := by
      rw [hy1] at hbk; simp only [Rows.uptoBulk] at hbk; omega
    have hlen0 : ∀ k, k ≤ Rows.uptoBulkAll ((List.range k).map D) := by
      intro k
      induction k with
      | zero => simp
      | succ k ih =>
        rw [List.range_succ, List.map_append, bulk_appV]
        simp only [List.map_cons, List.map_nil, Rows.uptoBulkAll]
        have := bulk_posV (D k)
        omega
    have hll := hlen0 len
    have each : ∀ i, i < len → ∃ q : Nat × Int, (W.cell? (a.add (i * 2)) = some (.int .u8 (q.1 : Int)) ∧ W.cell? (a.add (i * 2 + 1)) = some (.int .i64 q.2)) ∧ q.1 < 256 ∧ -9223372036854775808 ≤ q.2 ∧ q.2 ≤ 9223372036854775807 := by
      intro i hi
      obtain ⟨cs', h1, h2⟩ := hall i (by omega)
      rw [hce] at h1
      obtain ⟨_, hlen, hcell⟩ := World.cells?_some h1
      obtain ⟨xs, k, hk, hxy, _, hxl, hff⟩ := DataW.trod_struct Tryd.underlying26 h2
      match xs, hxl, cs', hlen with
      | [y0, y1], _, [v0, v1], _ =>
        have ci : Tryd.prog.cellsOf 24 = 1 := by kernel_rfl
        have cu : Tryd.prog.cellsOf 2 = 1 := by kernel_rfl
        have g0 : DataW.trod enc Tryd.prog W 0 (fun _ => true) true k 24 (List.take (Tryd.prog.cellsOf 24) [v0, v1]) = some y0 := hff 0 _ rfl
        have g1 : DataW.trod enc Tryd.prog W 0 (fun _ => true) true k 2 (List.take (Tryd.prog.cellsOf 2) [v1]) = some y1 := hff 1 _ rfl
        rw [ci] at g0
        rw [cu] at g1
        simp only [List.take_succ_cons, List.take_zero] at g0 g1
        obtain ⟨k0, e0, _, w0⟩ := DataW.trod_int Tryd.underlying24 g0
        obtain ⟨k1, e1, _, w1⟩ := DataW.trod_int Tryd.underlying2 g1
        simp at e0 e1
        subst e0 e1
        have r0 := hcell 0 (by omega)
        have r1 := hcell 1 (by omega)
        rw [Go.Deep.add_add] at r0 r1
        have hw0 := bounds_u8 w0
        have hw1 := bounds_i64 w1
        refine ⟨(k0.toNat, k1), ⟨?_, by simpa using r1⟩, show k0.toNat < 256 by omega, hw1⟩
        have ek : ((k0.toNat : Nat) : Int) = k0 := by omega
        simpa [ek] using r0
    obtain ⟨q, hq⟩ := choose_belowV each
    refine ⟨some a, len, m, fun i => if i < len then (q i).1 else 0, fun i => if i < len then (q i).2 else 0, rfl, by omega, by omega, fun i => ?_, ?_⟩
    · by_cases hi : i < len
      · have := (hq i hi).2
        simp only [hi, if_true]
        exact this
      · simp [hi]
    · rcases Nat.eq_zero_or_pos len with h0 | h0
      · exact Or.inl h0
      · right
        obtain ⟨b, off, spot⟩ := a
        have hspot : spot = none := by simpa [Addr.add] using World.cell?_spot (hq 0 h0).1.1
        subst hspot
        refine ⟨b, off, rfl, ?_, fun i hi => ?_⟩
        · have h' := (hq 0 h0).1.1
          rw [Go.WideShapes.add_plain] at h'
          rcases Nat.lt_or_ge b W.heap.size with h2 | h2
          · exact h2
          · simp [World.cell?, Array.getElem?_eq_none h2] at h'
        · obtain ⟨⟨c0, c1⟩, _⟩ := hq i hi
          rw [Go.WideShapes.add_plain] at c0 c1
          rw [← Nat.add_assoc] at c1
          simp only [hi, if_true]
          exact ⟨c0, c1⟩
end Go.Proofs.YtpicgjjbpiinfaaDoor

namespace Go.Proofs.YtpicgjjbpiinfaaDoor
open Go.ChangeShapes Go.WideShapes Go.ChangeAt Go.RowKit
set_option linter.unusedVariables false
set_option linter.unusedSimpArgs false
set_option maxRecDepth 100000 in
/-- a slice of samples, by its bulk. -/
theorem smps_bulk {H : Type} {enc : TypeId × Value → H} {W : World} {v : Value} {y : DataW H × List MemPlace} {fuel : Nat}
    (hf : DataW.trod enc Tryd.prog W 0 (fun _ => true) true fuel 23 [v] = some y) (hbk : Rows.uptoBulk y.1 ≤ 1048576) :
    ∃ a len cap tt kk xx, v = .slice a len cap ∧ len ≤ 1048576 ∧ SIn W a len tt kk xx := by
  rcases Go.Deep.open_slice Tryd.underlying23 hf with ⟨hcs, hx⟩ | ⟨a, len, cap, m, n, D, Pl, hcs, hb, hl, hm, hmm, hx, hall⟩
  · simp at hcs
    subst hcs
    exact ⟨none, 0, 0, fun _ => 0, fun _ => 0, fun _ => 0, rfl, by omega, by omega, fun _ => by simp, fun _ => by simp, Or.inl rfl⟩
  · simp at hcs
    subst hcs
    simp only [if_true] at hmm
    subst hmm
    have hce : Tryd.prog.cellsOf 28 = 3 := by kernel_rfl
    have hcv : Tryd.prog.cellsOf 26 = 2 := by kernel_rfl
    have hy1 : y.1 = .slice ((List.range len).map D) ((List.range (m - len)).map fun j => D (len + j)) := by rw [hx]
    have hbe : Rows.uptoBulkAll ((List.range len).map D) ≤ 1048576 := by
      rw [hy1] at hbk; simp only [Rows.uptoBulk] at hbk; omega
    have hlen0 : ∀ k, k ≤ Rows.uptoBulkAll ((List.range k).map D) := by
      intro k
      induction k with
      | zero => simp
      | succ k ih =>
        rw [List.range_succ, List.map_append, bulk_appV]
        simp only [List.map_cons, List.map_nil, Rows.uptoBulkAll]
        have := bulk_posV (D k)
        omega
    have hll := hlen0 len
    have each : ∀ i, i < len → ∃ q : Int × Nat × Int, (W.cell? (a.add (i * 3)) = some (.int .i64 q.1) ∧ W.cell? (a.add (i * 3 + 1)) = some (.int .u8 (q.2.1 : Int)) ∧ W.cell? (a.add (i * 3 + 2)) = some (.int .i64 q.2.2)) ∧ (q.2.1 < 256 ∧ -9223372036854775808 ≤ q.2.2 ∧ q.2.2 ≤ 9223372036854775807) ∧ -9223372036854775808 ≤ q.1 ∧ q.1 ≤ 9223372036854775807 := by
      intro i hi
      obtain ⟨cs', h1, h2⟩ := hall i (by omega)
      rw [hce] at h1
      obtain ⟨_, hlen, hcell⟩ := World.cells?_some h1
      obtain ⟨xs, k, hk, hxy, _, hxl, hff⟩ := DataW.trod_struct Tryd.underlying28 h2
      match xs, hxl, cs', hlen with
      | [y0, y1], _, [v0, v1, v2], _ =>
        have ci : Tryd.prog.cellsOf 24 = 1 := by kernel_rfl
        have cu : Tryd.prog.cellsOf 2 = 1 := by kernel_rfl
        have g0 : DataW.trod enc Tryd.prog W 0 (fun _ => true) true k 2 (List.take (Tryd.prog.cellsOf 2) [v0, v1, v2]) = some y0 := hff 0 _ rfl
        have g1 : DataW.trod enc Tryd.prog W 0 (fun _ => true) true k 26 (List.take (Tryd.prog.cellsOf 26) [v1, v2]) = some y1 := hff 1 _ rfl
        rw [cu] at g0
        rw [hcv] at g1
        simp only [List.take_succ_cons, List.take_zero] at g0 g1
        obtain ⟨xs', k', hk', hxy', _, hxl', hff'⟩ := DataW.trod_struct Tryd.underlying26 g1
        match xs', hxl' with
        | [u0, u1], _ =>
          have g2 : DataW.trod enc Tryd.prog W 0 (fun _ => true) true k' 24 (List.take (Tryd.prog.cellsOf 24) [v1, v2]) = some u0 := hff' 0 _ rfl
          have g3 : DataW.trod enc Tryd.prog W 0 (fun _ => true) true k' 2 (List.take (Tryd.prog.cellsOf 2) [v2]) = some u1 := hff' 1 _ rfl
          rw [ci] at g2
          rw [cu] at g3
          simp only [List.take_succ_cons, List.take_zero] at g2 g3
          obtain ⟨kt, et, _, wt⟩ := DataW.trod_int Tryd.underlying2 g0
          obtain ⟨k0, e0, _, w0⟩ := DataW.trod_int Tryd.underlying24 g2
          obtain ⟨k1, e1, _, w1⟩ := DataW.trod_int Tryd.underlying2 g3
          simp at et e0 e1
          subst et e0 e1
          have r0 := hcell 0 (by omega)
          have r1 := hcell 1 (by omega)
          have r2 := hcell 2 (by omega)
          rw [Go.Deep.add_add] at r0 r1 r2
          have hwt := bounds_i64 wt
          have hw0 := bounds_u8 w0
          have hw1 := bounds_i64 w1
          refine ⟨(kt, k0.toNat, k1), ⟨by simpa using r0, ?_, by simpa using r2⟩, ⟨show k0.toNat < 256 by omega, hw1⟩, hwt⟩
          have ek : ((k0.toNat : Nat) : Int) = k0 := by omega
          simpa [ek] using r1
    obtain ⟨q, hq⟩ := choose_belowV each
    refine ⟨some a, len, m, fun i => if i < len then (q i).1 else 0, fun i => if i < len then (q i).2.1 else 0, fun i => if i < len then (q i).2.2 else 0, rfl, by omega, by omega, fun i => ?_, fun i => ?_, ?_⟩
    · by_cases hi : i < len
      · have := (hq i hi).2.1
        simp only [hi, if_true]
        exact this
      · simp [hi]
    · by_cases hi : i < len
      · have := (hq i hi).2.2
        simp only [hi, if_true]
        exact this
      · simp [hi]
    · rcases Nat.eq_zero_or_pos len with h0 | h0
      · exact Or.inl h0
      · right
        obtain ⟨b, off, spot⟩ := a
        have hspot : spot = none := by simpa [Addr.add] using World.cell?_spot (hq 0 h0).1.1
        subst hspot
        refine ⟨b, off, rfl, ?_, fun i hi => ?_⟩
        · have h' := (hq 0 h0).1.1
          rw [Go.WideShapes.add_plain] at h'
          rcases Nat.lt_or_ge b W.heap.size with h2 | h2
          · exact h2
          · simp [World.cell?, Array.getElem?_eq_none h2] at h'
        · obtain ⟨⟨c0, c1, c2⟩, _⟩ := hq i hi
          rw [Go.WideShapes.add_plain] at c0 c1 c2
          rw [← Nat.add_assoc] at c1 c2
          simp only [hi, if_true]
          exact ⟨c0, c1, c2⟩
end Go.Proofs.YtpicgjjbpiinfaaDoor
