
import Derived.Test.YtpicgjjbpiinfaaGreatDoorBlEq
import Derived.Test.YtpicgjjbpiinfaaGreatDoorSameq
namespace Go.Proofs.YtpicgjjbpiinfaaGreatDoor
open Go.RowKit
set_option linter.unusedVariables false
set_option linter.unusedSimpArgs false
theorem DW.start (w : World) : DW w.heap.size w ([], 0) (w.alloc (.cells #[.slice none 0 0, .int .i64 0] 117)) := by
  refine ⟨⟨by omega, by simp, by simp⟩, .slice none 0 0, ⟨by simp [go_sem], by simp [go_sem], by simp [go_sem], by simp [go_sem], World.ownsRow_nil _ _ _ _, (Below.refl _ _).alloc (Nat.le_refl _) _, by simp⟩⟩
theorem docNew (c : Int) (w : World) : Calls Tryz.prog 33 #[.int .i64 c] w fun e w' => e = .returned (badV c) ∧ Below w.heap.size w w' := by
  unfold badV
  go_enter Tryz.func33, Tryz.ntmps33
  go_wp2
  simp [bodyPost, results, Tryz.results33, go_sem]
  exact below_new (Below.refl _ _) _
theorem bad_put (w W : World) (hB : Below w.heap.size w W) (x0 x1 x2 x3 x4 : Value) : Below w.heap.size w (((((W.setCell ⟨w.heap.size, 0, none⟩ x0).setCell ⟨w.heap.size, 1, none⟩ x1).setCell ⟨w.heap.size, 2, none⟩ x2).setCell ⟨w.heap.size, 3, none⟩ x3).setCell ⟨w.heap.size, 4, none⟩ x4) := by
  have bb : ∀ (W : World) (j : Nat) (x : Value), Below w.heap.size w W → Below w.heap.size w (W.setCell ⟨w.heap.size, j, none⟩ x) := fun W j x hW => hW.setCell (p := ⟨w.heap.size, j, none⟩) (Nat.le_refl _) _
  exact bb _ _ _ (bb _ _ _ (bb _ _ _ (bb _ _ _ (bb _ _ _ hB))))
theorem bytesIn_z {W : World} {q j m : Nat} {x : Value} {a : Option Addr} {f : Nat → Nat} (hne : m = 0 ∨ ∃ g o, a = some ⟨g, o, none⟩ ∧ q < g) (h : BytesIn W a m f) : BytesIn (W.setCell ⟨q, j, none⟩ x) a m f := by
  refine ⟨h.1, ?_⟩
  rcases h.2 with h0 | ⟨b, off, e, hb, hB⟩
  · exact Or.inl h0
  · rcases hne with h0 | ⟨g, o, e', hg⟩
    · exact Or.inl h0
    · rw [e] at e'
      injection e' with e'
      injection e' with e' _
      subst e'
      exact Or.inr ⟨b, off, e, by simpa using hb, fun i hi => ⟨by rw [World.cell?_setCell_other _ _ _ _ (by intro e; injection e with e1; omega)]; exact (hB i hi).1, (hB i hi).2⟩⟩
/-- a struct of an error's five cells at z. -/
structure BZ (z : Nat) (w : World) : Prop where
  z0 : w.cell? ⟨z, 0, none⟩ = some (.int .i64 0)
  z1 : w.cell? ⟨z, 1, none⟩ = some (.int .i64 0)
  z2 : w.cell? ⟨z, 2, none⟩ = some (.int .i64 0)
  z3 : w.cell? ⟨z, 3, none⟩ = some (.bool false)
  z4 : w.cell? ⟨z, 4, none⟩ = some (.bool false)
  y0 : w.frozen? ⟨z, 0, none⟩ = false
  y1 : w.frozen? ⟨z, 1, none⟩ = false
  y2 : w.frozen? ⟨z, 2, none⟩ = false
  y3 : w.frozen? ⟨z, 3, none⟩ = false
  y4 : w.frozen? ⟨z, 4, none⟩ = false
theorem BZ.start (w : World) : BZ w.heap.size (w.alloc (.cells #[.int .i64 0, .int .i64 0, .int .i64 0, .bool false, .bool false] 31)) := by
  refine ⟨?_, ?_, ?_, ?_, ?_, ?_, ?_, ?_, ?_, ?_⟩ <;> simp [go_sem]
theorem BZ.of {z : Nat} {w w' : World} (h : BZ z w) (hk : w'.heap[z]? = w.heap[z]?) : BZ z w' := by
  obtain ⟨z0, z1, z2, z3, z4, y0, y1, y2, y3, y4⟩ := h
  refine ⟨?_, ?_, ?_, ?_, ?_, ?_, ?_, ?_, ?_, ?_⟩
  · rw [World.cell?_of_block (w := w) hk]; exact z0
  · rw [World.cell?_of_block (w := w) hk]; exact z1
  · rw [World.cell?_of_block (w := w) hk]; exact z2
  · rw [World.cell?_of_block (w := w) hk]; exact z3
  · rw [World.cell?_of_block (w := w) hk]; exact z4
  · rw [World.frozen?_of_block (w := w) hk]; exact y0
  · rw [World.frozen?_of_block (w := w) hk]; exact y1
  · rw [World.frozen?_of_block (w := w) hk]; exact y2
  · rw [World.frozen?_of_block (w := w) hk]; exact y3
  · rw [World.frozen?_of_block (w := w) hk]; exact y4
set_option maxRecDepth 100000 in
set_option maxHeartbeats 8000000 in
theorem dtimes_any (a : Option Addr) (n cap : Nat) (z : Nat → Int) (w : World) (h : IsIn w a n z) : Calls Tryz.prog 31 #[.slice a n cap] w fun e w' => TimesE z n badV (badV 0) e w' ∧ Below w.heap.size w w' := by
  have hn := h.1
  have hz0 := BZ.start w
  have hB0 := below_new (Below.refl _ w) (.cells #[.int .i64 0, .int .i64 0, .int .i64 0, .bool false, .bool false] 31)
  obtain ⟨q, hq⟩ : ∃ q, q = w.heap.size := ⟨_, rfl⟩
  have hql : w.heap.size < (w.alloc (.cells #[.int .i64 0, .int .i64 0, .int .i64 0, .bool false, .bool false] 31)).heap.size := by simp
  by_cases hlong : 1048576 < n
  · have hI : (1048576 : Int) < (n : Int) := by omega
    have hF : Hid _ := docNew 6
    simp only [badV] at hF ⊢
    clear h hq
    go_enter Tryz.func31, Tryz.ntmps31
    go_wp2_with fail
    refine Calls.mono (hF.out _) ?_
    rintro e w2 ⟨rfl, hB2⟩
    obtain ⟨z0, z1, z2, z3, z4, y0, y1, y2, y3, y4⟩ := hz0.of (hB2.block w.heap.size hql)
    have hB02 := below_then hB0 hB2
    clear hz0 hB2 hF
    go_wp2_with fail
    simp [bodyPost, results, Tryz.results31, go_sem, z0, z1, z2, z3, z4, y0, y1, y2, y3, y4]
    exact ⟨Or.inl ⟨hlong, rfl⟩, bad_put w w2 hB02 _ _ _ _ _⟩
  · have hI : ¬ (1048576 : Int) < (n : Int) := by omega
    have hR : Hid _ := rises_any a n cap z _ (h.below hB0 (Nat.le_refl _))
    have hhH : Hid (IsIn w a n z) := h
    clear h
    go_enter Tryz.func31, Tryz.ntmps31
    go_wp2_with fail
    refine Calls.mono hR.out ?_
    rintro e w2 ⟨⟨r, rfl, hr⟩, hB2⟩
    have hz2 := hz0.of (hB2.block w.heap.size hql)
    have hB02 := below_then hB0 hB2
    have hql2 : w.heap.size < w2.heap.size := by have := hB2.size; omega
    clear hz0 hR
    cases r with
    | false =>
      have hnr : Hid (¬ Rises z n) := (fun hx => Bool.noConfusion (hr.2 hx) : ¬ Rises z n)
      have hF : Hid _ := docNew 2
      simp only [badV] at hF ⊢
      clear hr hq
      go_wp2_with fail
      refine Calls.mono (hF.out _) ?_
      rintro e w3 ⟨rfl, hB3⟩
      obtain ⟨z0, z1, z2, z3, z4, y0, y1, y2, y3, y4⟩ := hz2.of (hB3.block w.heap.size hql2)
      have hB03 := below_then hB02 hB3
      clear hz2 hB3 hF
      go_wp2_with fail
      simp [bodyPost, results, Tryz.results31, go_sem, z0, z1, z2, z3, z4, y0, y1, y2, y3, y4]
      exact ⟨Or.inr (Or.inl ⟨by omega, hnr.out, rfl⟩), bad_put w w3 hB03 _ _ _ _ _⟩
    | true =>
      have hnr : Hid (Rises z n) := hr.1 rfl
      clear hr
      have hU : Hid _ := dw_uint (DW.start w2) n (by omega) (n : Int) rfl (by simp)
      have hnw : IntKind.u64.wrap (n : Int) = (n : Int) := by rw [IntKind.wrap_u64]; omega
      have hz2H : Hid (BZ w.heap.size w2) := hz2
      clear hz2
      go_wp2_with fail
      refine Calls.mono hU.out ?_
      rintro e w3 ⟨rfl, h3⟩
      have h3H : Hid (DW w2.heap.size w2 (timesS z n 0) w3) := h3
      clear h3 hU
      obtain ⟨M, hM⟩ : ∃ M, M = w2.heap.size := ⟨_, rfl⟩
      have hMH : Hid (M = w2.heap.size) := hM
      rw [← hM] at h3H ⊢
      have hqM : w.heap.size < M := by omega
      clear hM
      have hhx := hhH.out
      have hMw : M = w2.heap.size := hMH.out
      have hB3w : Below w.heap.size w w3 := hB02.trans (h3H.out.b.mono (by rw [hMw]; exact hB02.size))
      have hl3 := timesS_len z n 0
      have hl4 := timesS_len z n 1
      rcases Nat.eq_zero_or_pos n with hn0 | hn0
      · have p1 : ¬ (0 : Int) < (n : Int) := by omega
        have p2 : ¬ (1 : Int) < (n : Int) := by omega
        have hst : Hid (DW M w2 (timesS z n (min 2 n)) w3) := (by rw [show min 2 n = 0 by omega]; exact h3H.out : DW M w2 (timesS z n (min 2 n)) w3)
        clear hMw hB3w hhx h3H hn0 hq hl3 hl4
        go_wp2_with fail
        go_loopw [5] (fun ix wr => ∃ k : Nat, 2 ≤ k ∧ (k ≤ n ∨ k = 2) ∧ ix = .int .i64 (k : Int) ∧ DW M w2 (timesS z n (min k n)) wr) (fun ix _ => n - (intOf ix).toNat)
        case atStart => exact ⟨2, by omega, Or.inr rfl, rfl, hst.out⟩
        case round =>
          obtain ⟨k, hk2, hkn, rfl, hW⟩ := hrel
          have hMw : M = w2.heap.size := hMH.out
          have hBw : Below w.heap.size w wr := hB02.trans (hW.b.mono (by rw [hMw]; exact hB02.size))
          have hlen := timesS_len z n (min k n)
          by_cases hlt : k < n
          · exfalso; omega
          · have hkI : ¬ (k : Int) < (n : Int) := by omega
            rw [show min k n = n by omega] at hW hlen
            have hb2 := hW.b
            obtain ⟨hCL, v, hWS⟩ := hW
            obtain ⟨va, vc, hv, hin⟩ := hWS.bytes hCL.2.1 (by omega)
            have c0 := hWS.c0
            rw [hv] at c0
            obtain ⟨z0, z1, z2, z3, z4, y0, y1, y2, y3, y4⟩ := hz2H.out.of (hb2.block w.heap.size hqM)
            obtain ⟨sl, hsl⟩ : ∃ sl, sl = (timesS z n n).1 := ⟨_, rfl⟩
            rw [← hsl] at c0 hin
            have hslH : Hid (sl = (timesS z n n).1) := hsl
            have hinH : Hid (BytesIn wr va sl.length (natsOf sl)) := hin
            have hfin : Hid (∀ W, Below w.heap.size w W → BytesIn W va sl.length (natsOf sl) → TimesE z n badV (badV 0) (.returned (.tuple #[.slice va sl.length vc, badV 0])) W ∧ Below w.heap.size w W) := (fun W hBW hI => ⟨Or.inr (Or.inr ⟨by omega, hnr.out, va, vc, by rw [hslH.out], by rw [← hslH.out]; exact hI⟩), hBW⟩ : ∀ W, Below w.heap.size w W → BytesIn W va sl.length (natsOf sl) → TimesE z n badV (badV 0) (.returned (.tuple #[.slice va sl.length vc, badV 0])) W ∧ Below w.heap.size w W)
            have hne : sl.length = 0 ∨ ∃ g o, va = some ⟨g, o, none⟩ ∧ w.heap.size < g := by
              rcases hWS.own.2 with ⟨h1, h1'⟩ | ⟨g, cap', cur, h1, h2, _⟩
              · left; rw [hsl]; rw [hv] at h1; injection h1
              · right; rw [hv] at h1; injection h1 with h1; exact ⟨g, 0, h1, by omega⟩
            have hneH : Hid _ := hne
            have hBwH : Hid (Below w.heap.size w wr) := hBw
            clear hWS hCL hMw hsl hv hin hb2 hBw hne
            go_wp2_with fail
            simp [bodyPost, results, Tryz.results31, go_sem, z0, z1, z2, z3, z4, y0, y1, y2, y3, y4]
            have hfx := hfin.out _ (bad_put w wr hBwH.out (.int .i64 0) (.int .i64 0) (.int .i64 0) (.bool false) (.bool false)) (bytesIn_z hneH.out (bytesIn_z hneH.out (bytesIn_z hneH.out (bytesIn_z hneH.out (bytesIn_z hneH.out hinH.out)))))
            exact hfx
      · obtain ⟨hn1, hz, hc⟩ := hhx
        rcases hc with h0 | ⟨b, off, rfl, hb, hcc⟩
        · omega
        have q1 : (0 : Int) < (n : Int) := by omega
        have q1' : 0 < n := hn0
        have d0 : w3.cell? ⟨b, off, none⟩ = some (.int .i64 (z 0)) := by have := hcc 0 hn0; rw [hB3w.cell (p := ⟨b, off, none⟩) hb]; exact this
        have hI0 : Hid _ := dw_int h3H.out (z 0) (hz 0) (by omega)
        have hT1 : Hid (timesS z n 1 = uOn (foldZ (z 0)) (timesS z n 0)) := (rfl : timesS z n 1 = uOn (foldZ (z 0)) (timesS z n 0))
        rw [← hT1.out] at hI0
        obtain ⟨x, hx⟩ : ∃ x, x = z 0 := ⟨_, rfl⟩
        rw [← hx] at d0 hI0
        have hxH : Hid (x = z 0) := hx
        have hbH : Hid (∀ wx, Below M w2 wx → Below w.heap.size w wx) := (fun wx hwx => hB02.trans (hwx.mono (by rw [hMw]; exact hB02.size)) : ∀ wx, Below M w2 wx → Below w.heap.size w wx)
        by_cases hn2 : n = 1
        · have p2 : ¬ (1 : Int) < (n : Int) := by omega
          have hmm : Hid (min 2 n = 1) := (by omega : min 2 n = 1)
          have hnH : Hid (n = 1) := hn2
          clear hMw hB3w h3H hq hl3 hl4 hx hcc hz hn2
          go_wp2_with fail
          refine Calls.mono hI0.out ?_
          rintro e w4 ⟨rfl, h4⟩
          have hst : Hid (DW M w2 (timesS z n (min 2 n)) w4) := (by rw [hmm.out]; exact h4 : DW M w2 (timesS z n (min 2 n)) w4)
          clear h4 hI0
          go_wp2_with fail
          go_loopw [5] (fun ix wr => ∃ k : Nat, 2 ≤ k ∧ (k ≤ n ∨ k = 2) ∧ ix = .int .i64 (k : Int) ∧ DW M w2 (timesS z n (min k n)) wr) (fun ix _ => n - (intOf ix).toNat)
          case atStart => exact ⟨2, by omega, Or.inr rfl, rfl, hst.out⟩
          case round =>
            obtain ⟨k, hk2, hkn, rfl, hW⟩ := hrel
            have hMw : M = w2.heap.size := hMH.out
            have hBw : Below w.heap.size w wr := hB02.trans (hW.b.mono (by rw [hMw]; exact hB02.size))
            have hlen := timesS_len z n (min k n)
            by_cases hlt : k < n
            · exfalso; have := hnH.out; omega
            · have hkI : ¬ (k : Int) < (n : Int) := by omega
              rw [show min k n = n by omega] at hW hlen
              have hb2 := hW.b
              obtain ⟨hCL, v, hWS⟩ := hW
              obtain ⟨va, vc, hv, hin⟩ := hWS.bytes hCL.2.1 (by omega)
              have c0 := hWS.c0
              rw [hv] at c0
              obtain ⟨z0, z1, z2, z3, z4, y0, y1, y2, y3, y4⟩ := hz2H.out.of (hb2.block w.heap.size hqM)
              obtain ⟨sl, hsl⟩ : ∃ sl, sl = (timesS z n n).1 := ⟨_, rfl⟩
              rw [← hsl] at c0 hin
              have hslH : Hid (sl = (timesS z n n).1) := hsl
              have hinH : Hid (BytesIn wr va sl.length (natsOf sl)) := hin
              have hfin : Hid (∀ W, Below w.heap.size w W → BytesIn W va sl.length (natsOf sl) → TimesE z n badV (badV 0) (.returned (.tuple #[.slice va sl.length vc, badV 0])) W ∧ Below w.heap.size w W) := (fun W hBW hI => ⟨Or.inr (Or.inr ⟨by omega, hnr.out, va, vc, by rw [hslH.out], by rw [← hslH.out]; exact hI⟩), hBW⟩ : ∀ W, Below w.heap.size w W → BytesIn W va sl.length (natsOf sl) → TimesE z n badV (badV 0) (.returned (.tuple #[.slice va sl.length vc, badV 0])) W ∧ Below w.heap.size w W)
              have hne : sl.length = 0 ∨ ∃ g o, va = some ⟨g, o, none⟩ ∧ w.heap.size < g := by
                rcases hWS.own.2 with ⟨h1, h1'⟩ | ⟨g, cap', cur, h1, h2, _⟩
                · left; rw [hsl]; rw [hv] at h1; injection h1
                · right; rw [hv] at h1; injection h1 with h1; exact ⟨g, 0, h1, by omega⟩
              have hneH : Hid _ := hne
              have hBwH : Hid (Below w.heap.size w wr) := hBw
              clear hWS hCL hMw hsl hv hin hb2 hBw hne
              go_wp2_with fail
              simp [bodyPost, results, Tryz.results31, go_sem, z0, z1, z2, z3, z4, y0, y1, y2, y3, y4]
              have hfx := hfin.out _ (bad_put w wr hBwH.out (.int .i64 0) (.int .i64 0) (.int .i64 0) (.bool false) (.bool false)) (bytesIn_z hneH.out (bytesIn_z hneH.out (bytesIn_z hneH.out (bytesIn_z hneH.out (bytesIn_z hneH.out hinH.out)))))
              exact hfx
        · have p2 : (1 : Int) < (n : Int) := by omega
          have p2' : 1 < n := by omega
          have hmm : Hid (min 2 n = 2) := (by omega : min 2 n = 2)
          have hz1 := hz 1
          have hz0 := hz 0
          obtain ⟨S, hS⟩ : ∃ S, S = stepZ z 1 := ⟨_, rfl⟩
          have hSd : S = ((z 1 - z 0) % 18446744073709551616).toNat := by rw [hS]; rfl
          obtain ⟨y, hy⟩ : ∃ y, y = z 1 := ⟨_, rfl⟩
          rw [← hx, ← hy] at hSd
          have hSl : S < 18446744073709551616 := by omega
          have hst2 : IntKind.u64.wrap (IntKind.u64.wrap y - IntKind.u64.wrap x) = (S : Int) := by simp only [IntKind.wrap_u64]; omega
          have e1 : ∀ wx, Below w.heap.size w wx → wx.cell? ⟨b, off + 1, none⟩ = some (.int .i64 y) := fun wx hwx => by rw [hwx.cell (p := ⟨b, off + 1, none⟩) hb, hy]; exact hcc 1 (by omega)
          have e0 : ∀ wx, Below w.heap.size w wx → wx.cell? ⟨b, off, none⟩ = some (.int .i64 x) := fun wx hwx => by rw [hwx.cell (p := ⟨b, off, none⟩) hb, hx]; exact hcc 0 (by omega)
          have hU1 : Hid (∀ wx, DW M w2 (timesS z n 1) wx → Calls Tryz.prog 65 #[.pointer (some ⟨M, 0, none⟩), .int .u64 (S : Int)] wx fun e w' => e = .returned undef ∧ DW M w2 (timesS z n 2) w') := (fun wx h' => by
            have h1 := dw_uint h' S hSl (S : Int) rfl (by omega)
            rw [hS] at h1 ⊢
            exact h1 : ∀ wx, DW M w2 (timesS z n 1) wx → Calls Tryz.prog 65 #[.pointer (some ⟨M, 0, none⟩), .int .u64 (S : Int)] wx fun e w' => e = .returned undef ∧ DW M w2 (timesS z n 2) w')
          have e1H : Hid _ := e1
          have e0H : Hid _ := e0
          clear hMw hB3w h3H hq hl3 hl4 hx hcc hz hn2 hSd hS hy e1 e0 hz1 hz0
          go_wp2_with fail
          refine Calls.mono hI0.out ?_
          rintro e w4 ⟨rfl, h4⟩
          have hBw4 := hbH.out _ h4.b
          have g1 := e1H.out _ hBw4
          have g0 := e0H.out _ hBw4
          have h4H : Hid (DW M w2 (timesS z n 1) w4) := h4
          have hU2 : Hid (∀ nq, Calls Tryz.prog 65 #[.pointer (some ⟨M, 0, none⟩), .int .u64 (S : Int)] (w4.drewN nq) fun e w' => e = .returned undef ∧ DW M w2 (timesS z n 2) w') := fun nq => hU1.out _ (h4.below (below_drewN (Below.refl _ _) nq))
          have hU3 : Hid _ := hU1.out _ h4
          have h4a : DW M w2 (timesS z n 1) w4 := h4
          have h4d : DW M w2 (timesS z n 1) w4.drew := h4.below (Below.refl _ _).drew
          have SS : w4.cell? ⟨b, off + 1, none⟩ = some (.int .i64 y) ∧ w4.cell? ⟨b, off, none⟩ = some (.int .i64 x) := ⟨g1, g0⟩
          have SSd : w4.drew.cell? ⟨b, off + 1, none⟩ = some (.int .i64 y) ∧ w4.drew.cell? ⟨b, off, none⟩ = some (.int .i64 x) := ⟨g1, g0⟩
          clear h4 hI0 hU2 hU3 h4H
          go_wp2_with fail
          go_region_held3 (fun w' => w'.cell? ⟨b, off + 1, none⟩ = some (.int .i64 y) ∧ w'.cell? ⟨b, off, none⟩ = some (.int .i64 x)) (first | assumption)
            (first | (go_at_call 65; (with_reducible refine Calls.mono (hU1.out _ (by assumption)) ?_); rintro e w' ⟨rfl, h5⟩; have SS5 : w'.cell? ⟨b, off + 1, none⟩ = some (.int .i64 y) ∧ w'.cell? ⟨b, off, none⟩ = some (.int .i64 x) := ⟨e1H.out _ (hbH.out _ (DW.b h5)), e0H.out _ (hbH.out _ (DW.b h5))⟩))
          have hst : Hid (DW M w2 (timesS z n (min 2 n)) w') := (by rw [hmm.out]; exact h5 : DW M w2 (timesS z n (min 2 n)) w')
          clear h5 h4a h4d SS SSd g1 g0 SS5 d0 hU1
          go_wp2_with fail
          go_loopw [5] (fun ix wr => ∃ k : Nat, 2 ≤ k ∧ (k ≤ n ∨ k = 2) ∧ ix = .int .i64 (k : Int) ∧ DW M w2 (timesS z n (min k n)) wr) (fun ix _ => n - (intOf ix).toNat)
          case atStart => exact ⟨2, by omega, Or.inr rfl, rfl, hst.out⟩
          case round =>
            obtain ⟨k, hk2, hkn, rfl, hW⟩ := hrel
            have hMw : M = w2.heap.size := hMH.out
            have hBw : Below w.heap.size w wr := hB02.trans (hW.b.mono (by rw [hMw]; exact hB02.size))
            have hlen := timesS_len z n (min k n)
            by_cases hlt : k < n
            · have hkI : (k : Int) < (n : Int) := by omega
              have hmin : min k n = k := by omega
              have hmin2 : min (k + 1) n = k + 1 := by omega
              rw [hmin] at hW hlen
              obtain ⟨hn1, hz, hc⟩ := hhH.out
              rcases hc with h0 | ⟨b2, off2, e2, hb2, hcc⟩
              · omega
              injection e2 with e2
              injection e2 with e2 e3
              subst e2
              subst e3
              obtain ⟨j, hj⟩ : ∃ j, j = k - 1 := ⟨_, rfl⟩
              obtain ⟨i, hi⟩ : ∃ i, i = k - 2 := ⟨_, rfl⟩
              have d1 : wr.cell? ⟨b, off + k, none⟩ = some (.int .i64 (z k)) := by rw [hBw.cell (p := ⟨b, off + k, none⟩) hb]; exact hcc k hlt
              have d2 : wr.cell? ⟨b, off + j, none⟩ = some (.int .i64 (z j)) := by rw [hBw.cell (p := ⟨b, off + j, none⟩) hb]; exact hcc j (by omega)
              have d3 : wr.cell? ⟨b, off + i, none⟩ = some (.int .i64 (z i)) := by rw [hBw.cell (p := ⟨b, off + i, none⟩) hb]; exact hcc i (by omega)
              have k1 : (0 : Int) ≤ (k : Int) := by omega
              have k2 : (k : Int) - 1 = (j : Int) := by omega
              have k3 : (k : Int) - 2 = (i : Int) := by omega
              have k4 : (0 : Int) ≤ (j : Int) := by omega
              have k5 : (0 : Int) ≤ (i : Int) := by omega
              have k6 : (j : Int) < (n : Int) := by omega
              have k7 : (i : Int) < (n : Int) := by omega
              obtain ⟨D, hD⟩ : ∃ D, D = wrap64 ((stepZ z k : Int) - (stepZ z (k - 1) : Int)) := ⟨_, rfl⟩
              have hDr := wrap64_range2 ((stepZ z k : Int) - (stepZ z (k - 1) : Int))
              rw [← hD] at hDr
              have hT : timesS z n (k + 1) = turnOn D (timesS z n k) := by rw [hD]; show timeOn z k (timesS z n k) = _; unfold timeOn; rw [if_neg (by omega), if_neg (by omega)]
              have hS1 : stepZ z k = ((z k - z j) % 18446744073709551616).toNat := by rw [hj]; rfl
              have hS2 : stepZ z (k - 1) = ((z j - z i) % 18446744073709551616).toNat := by rw [← hj, show i = j - 1 by omega]; rfl
              rw [hS1, hS2] at hD
              obtain ⟨x, hx⟩ : ∃ x, x = z k := ⟨_, rfl⟩
              obtain ⟨y, hy⟩ : ∃ y, y = z j := ⟨_, rfl⟩
              obtain ⟨u, hu⟩ : ∃ u, u = z i := ⟨_, rfl⟩
              rw [← hx] at d1 hD
              rw [← hy] at d2 hD
              rw [← hu] at d3 hD
              have hDD : wrap64 (IntKind.u64.wrap (IntKind.u64.wrap (IntKind.u64.wrap x - IntKind.u64.wrap y) - IntKind.u64.wrap (IntKind.u64.wrap y - IntKind.u64.wrap u))) = D := by
                rw [hD]; simp only [IntKind.wrap_u64]; unfold wrap64; omega
              have hCl : Hid (∀ w', Calls Tryz.prog 67 #[.int .i64 D] w' fun e w'' => e = .returned (.tuple #[.int .u64 (turnA D : Int), .int .i64 (turnB D : Int), .int .i64 (addC D), .int .i64 (turnD D : Int)]) ∧ w'' = w') := fun w' => class_any D w'
              have hadd := addC_eq D hDr
              have hb1 : Hid (∀ nq, Calls Tryz.prog 68 #[.pointer (some ⟨M, 0, none⟩), .int .u64 (turnA D : Int), .int .i64 (turnB D : Int)] (wr.drewN nq) fun e w' => e = .returned undef ∧ DW M w2 (bitsOn (turnA D) (broughtN (turnB D : Int)) (timesS z n k)) w') := fun nq => dw_bits (hW.below (below_drewN (Below.refl _ _) nq)) (turnA D) (by have := turnA_lt D; omega) _ _ rfl (by omega)
              have hbl := bitsOn_len (turnA D) (broughtN (turnB D : Int)) (timesS z n k)
              have hbb := turnB_le D
              have hbd := turnD_le D
              have hbc := turnC_lt D
              rw [broughtN_nat _ (by omega)] at hb1 hbl
              have hb2 : Hid (∀ w', DW M w2 (bitsOn (turnA D) (turnB D) (timesS z n k)) w' → Calls Tryz.prog 68 #[.pointer (some ⟨M, 0, none⟩), .int .u64 (turnC D : Int), .int .i64 (turnD D : Int)] w' fun e w'' => e = .returned undef ∧ DW M w2 (timesS z n (k + 1)) w'') := fun w' h' => by
                have h1 := dw_bits h' (turnC D) hbc _ (turnD D : Int) rfl (by omega)
                rw [broughtN_nat _ hbd] at h1
                rw [hT]
                exact h1
              obtain ⟨tA, htA⟩ : ∃ tA, tA = turnA D := ⟨_, rfl⟩
              obtain ⟨tB, htB⟩ : ∃ tB, tB = turnB D := ⟨_, rfl⟩
              obtain ⟨tC, htC⟩ : ∃ tC, tC = turnC D := ⟨_, rfl⟩
              obtain ⟨tD, htD⟩ : ∃ tD, tD = turnD D := ⟨_, rfl⟩
              obtain ⟨tE, htE⟩ : ∃ tE, tE = addC D := ⟨_, rfl⟩
              rw [← htA, ← htB] at hb1 hb2
              rw [← htC, ← htD] at hb2
              rw [← htA, ← htB, ← htD, ← htE] at hCl
              rw [← htC, ← htE] at hadd
              clear hW hz hcc hx hy hu hBw hj hi hD hDr hT hS1 hS2 hMw htA htB htC htD htE hbl hbb hbd hbc hmin hlen
              go_wp2_with fail
              go_quiet (fail)
              go_wp2_with fail
              refine Calls.mono (hCl.out _) ?_
              rintro e w4 ⟨rfl, hw⟩
              have hw' := hw.symm
              subst hw'
              clear hw
              go_wp2_with fail
              refine Calls.mono (hb1.out _) ?_
              rintro e w5 ⟨rfl, h5⟩
              have hb3 : Hid _ := hb2.out _ h5
              clear h5
              go_wp2_with fail
              refine Calls.mono hb3.out ?_
              rintro e w6 ⟨rfl, h6⟩
              have h6H : Hid (DW M w2 (timesS z n (k + 1)) w6) := h6
              clear h6
              go_wp2_with fail
              go_roundw
              case rel => exact ⟨k + 1, by omega, by omega, by go_num, by rw [hmin2]; exact h6H.out⟩
              case measure => simp [intOf]; omega
            · have hkI : ¬ (k : Int) < (n : Int) := by omega
              rw [show min k n = n by omega] at hW hlen
              have hb2 := hW.b
              obtain ⟨hCL, v, hWS⟩ := hW
              obtain ⟨va, vc, hv, hin⟩ := hWS.bytes hCL.2.1 (by omega)
              have c0 := hWS.c0
              rw [hv] at c0
              obtain ⟨z0, z1, z2, z3, z4, y0, y1, y2, y3, y4⟩ := hz2H.out.of (hb2.block w.heap.size hqM)
              obtain ⟨sl, hsl⟩ : ∃ sl, sl = (timesS z n n).1 := ⟨_, rfl⟩
              rw [← hsl] at c0 hin
              have hslH : Hid (sl = (timesS z n n).1) := hsl
              have hinH : Hid (BytesIn wr va sl.length (natsOf sl)) := hin
              have hfin : Hid (∀ W, Below w.heap.size w W → BytesIn W va sl.length (natsOf sl) → TimesE z n badV (badV 0) (.returned (.tuple #[.slice va sl.length vc, badV 0])) W ∧ Below w.heap.size w W) := (fun W hBW hI => ⟨Or.inr (Or.inr ⟨by omega, hnr.out, va, vc, by rw [hslH.out], by rw [← hslH.out]; exact hI⟩), hBW⟩ : ∀ W, Below w.heap.size w W → BytesIn W va sl.length (natsOf sl) → TimesE z n badV (badV 0) (.returned (.tuple #[.slice va sl.length vc, badV 0])) W ∧ Below w.heap.size w W)
              have hne : sl.length = 0 ∨ ∃ g o, va = some ⟨g, o, none⟩ ∧ w.heap.size < g := by
                rcases hWS.own.2 with ⟨h1, h1'⟩ | ⟨g, cap', cur, h1, h2, _⟩
                · left; rw [hsl]; rw [hv] at h1; injection h1
                · right; rw [hv] at h1; injection h1 with h1; exact ⟨g, 0, h1, by omega⟩
              have hneH : Hid _ := hne
              have hBwH : Hid (Below w.heap.size w wr) := hBw
              clear hWS hCL hMw hsl hv hin hb2 hBw hne
              go_wp2_with fail
              simp [bodyPost, results, Tryz.results31, go_sem, z0, z1, z2, z3, z4, y0, y1, y2, y3, y4]
              have hfx := hfin.out _ (bad_put w wr hBwH.out (.int .i64 0) (.int .i64 0) (.int .i64 0) (.bool false) (.bool false)) (bytesIn_z hneH.out (bytesIn_z hneH.out (bytesIn_z hneH.out (bytesIn_z hneH.out (bytesIn_z hneH.out hinH.out)))))
              exact hfx
end Go.Proofs.YtpicgjjbpiinfaaGreatDoor
