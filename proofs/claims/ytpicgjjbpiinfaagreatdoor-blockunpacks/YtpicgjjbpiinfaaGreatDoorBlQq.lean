
import Derived.Test.YtpicgjjbpiinfaaGreatDoorBuL
namespace Go.Proofs.YtpicgjjbpiinfaaGreatDoor
open Go.RowKit
set_option linter.unusedVariables false
set_option linter.unusedSimpArgs false
set_option maxRecDepth 100000 in
set_option maxHeartbeats 8000000 in
theorem dvalues_any (a : Option Addr) (n cap : Nat) (kk : Nat → Nat) (xx : Nat → Int) (w : World) (h : VIn w a n kk xx) : Calls Tryz.prog 81 #[.slice a n cap] w fun e w' => ValuesE kk xx n badV (badV 0) e w' ∧ Below w.heap.size w w' := by
  have hn := h.1
  have hz0 := BZ.start w
  have hB0 := below_new (Below.refl _ w) (.cells #[.int .i64 0, .int .i64 0, .int .i64 0, .bool false, .bool false] 31)
  have hql : w.heap.size < (w.alloc (.cells #[.int .i64 0, .int .i64 0, .int .i64 0, .bool false, .bool false] 31)).heap.size := by simp
  by_cases hlong : 1048576 < n
  · have hI : (1048576 : Int) < (n : Int) := by omega
    have hF : Hid _ := docNew 6
    simp only [badV] at hF ⊢
    clear h
    go_enter Tryz.func81, Tryz.ntmps81
    go_wp2_with fail
    refine Calls.mono (hF.out _) ?_
    rintro e w2 ⟨rfl, hB2⟩
    obtain ⟨z0, z1, z2, z3, z4, y0, y1, y2, y3, y4⟩ := hz0.of (hB2.block w.heap.size hql)
    have hB02 := below_then hB0 hB2
    clear hz0 hB2 hF
    go_wp2_with fail
    simp [bodyPost, results, Tryz.results81, go_sem, z0, z1, z2, z3, z4, y0, y1, y2, y3, y4]
    exact ⟨Or.inl ⟨hlong, rfl⟩, bad_put w w2 hB02 _ _ _ _ _⟩
  · have hI : ¬ (1048576 : Int) < (n : Int) := by omega
    have hhH : Hid (VIn w a n kk xx) := h
    have e1 : (w.alloc (.cells #[.int .i64 0, .int .i64 0, .int .i64 0, .bool false, .bool false] 31)).heap.size = w.heap.size + 1 := by simp
    have hU := dw_uint (DW.start (w.alloc (.cells #[.int .i64 0, .int .i64 0, .int .i64 0, .bool false, .bool false] 31))) n (by omega) (n : Int) rfl (by simp)
    rw [e1] at hU
    have hUH : Hid _ := hU
    have hnw : IntKind.u64.wrap (n : Int) = (n : Int) := by rw [IntKind.wrap_u64]; omega
    clear h hU e1
    go_enter Tryz.func81, Tryz.ntmps81
    go_wp2_with fail
    refine Calls.mono hUH.out ?_
    rintro e w3 ⟨rfl, h3⟩
    obtain ⟨w2, hw2⟩ : ∃ w2, w2 = w.alloc (.cells #[.int .i64 0, .int .i64 0, .int .i64 0, .bool false, .bool false] 31) := ⟨_, rfl⟩
    rw [← hw2] at h3 hz0 hB0 hql
    obtain ⟨N, hN⟩ : ∃ N, N = w.heap.size + 1 := ⟨_, rfl⟩
    have hN2 : N = w2.heap.size := by rw [hw2, hN]; simp
    obtain ⟨za, hza⟩ : ∃ za, za = w3.heap.size := ⟨_, rfl⟩
    rw [← hN] at h3 ⊢
    have hs3 : N < w3.heap.size := h3.sz
    have hVA : WA N w2 za (valsS kk xx n 0) (w3.alloc (.cells #[.int .u8 0, .int .i64 0] 49)) := by
      have hB := below_new (Below.refl _ w3) (.cells #[.int .u8 0, .int .i64 0] 49)
      have h4 := h3.dz.more hB (by simp)
      obtain ⟨g1, v, g2, g3⟩ := h4
      rw [hza]
      exact ⟨⟨g1, v, g2, fun z hz => g3 z (Or.inr hz)⟩, by simp [go_sem, valsS], by simp [go_sem, valsS], by simp [go_sem], by simp [go_sem], by omega⟩
    have hVAH : Hid (WA N w2 za (valsS kk xx n 0) (w3.alloc (.cells #[.int .u8 0, .int .i64 0] 49))) := hVA
    have hzaH : Hid (za = w3.heap.size) := hza
    have hNl : N ≤ za := by omega
    have hqN : w.heap.size < N := by omega
    have hbwH : Hid (∀ wx, Below N w2 wx → Below w.heap.size w wx) := (fun wx hx => hB0.trans (hx.mono (by omega)) : ∀ wx, Below N w2 wx → Below w.heap.size w wx)
    have hz2H : Hid (BZ w.heap.size w2) := hz0
    clear h3 hVA hN hza hUH hs3 hw2 hz0 hB0 hN2
    go_wp2_with fail
    rw [← hzaH.out]
    go_loopw [7, 6] (fun i la wr => ∃ k : Nat, k ≤ n ∧ i = .int .i64 (k : Int) ∧ la = .int .i64 (valsS kk xx n k).la ∧ WA N w2 za (valsS kk xx n k) wr ∧ AllV kk xx k) (fun i _ _ => n - (intOf i).toNat)
    case atStart => exact ⟨0, by omega, rfl, rfl, hVAH.out, fun i hi => by omega⟩
    case round =>
      clear hVAH
      obtain ⟨k, hk, rfl, rfl, hV, hAk⟩ := hrel
      have hlen := valsS_len kk xx n k
      by_cases hkn : k < n
      · have hkI : (k : Int) < (n : Int) := by omega
        have k0 : (0 : Int) ≤ (k : Int) := by omega
        have hBw := hbwH.out _ hV.rz.dw.b
        have hBN := hV.rz.dw.b
        obtain ⟨hn1, hz, hc⟩ := hhH.out
        rcases hc with h0 | ⟨b, off, rfl, hb, hcc⟩
        · omega
        have d0 : wr.cell? ⟨b, off + k * 2, none⟩ = some (.int .u8 (kk k : Int)) := by rw [hBw.cell (p := ⟨b, off + k * 2, none⟩) hb]; exact (hcc k hkn).1
        have d1 : wr.cell? ⟨b, off + k * 2 + 1, none⟩ = some (.int .i64 (xx k)) := by rw [hBw.cell (p := ⟨b, off + k * 2 + 1, none⟩) hb]; exact (hcc k hkn).2
        have hzk := hz k
        obtain ⟨V, hVd⟩ : ∃ V, V = valsS kk xx n k := ⟨_, rfl⟩
        have hnext : valsS kk xx n (k + 1) = valStep (kk k) (xx k) V := by rw [hVd]; rfl
        rw [← hVd] at hV hlen ⊢
        obtain ⟨K, hK⟩ : ∃ K, K = kk k := ⟨_, rfl⟩
        obtain ⟨X, hX⟩ : ∃ X, X = xx k := ⟨_, rfl⟩
        have hAH : Hid (isV K X → AllV kk xx (k + 1)) := (fun hv i hi => by
          rcases Nat.lt_or_ge i k with h3 | h3
          · exact hAk i h3
          · obtain rfl : i = k := (by omega)
            rw [← hK, ← hX]; exact hv : isV K X → AllV kk xx (k + 1))
        have hNH : Hid (¬ isV K X → ¬ AllV kk xx n) := (fun hv hall => hv (by rw [hK, hX]; exact hall k hkn) : ¬ isV K X → ¬ AllV kk xx n)
        rw [← hK] at d0 hzk hnext
        rw [← hX] at d1 hzk hnext
        obtain ⟨s, ak, ax, la⟩ := V
        have hnextH : Hid (valsS kk xx n (k + 1) = valStep K X ⟨s, ak, ax, la⟩) := hnext
        obtain ⟨zv, hzv⟩ : ∃ zv, zv = wr.heap.size := ⟨_, rfl⟩
        have hVB := hV.new K X
        simp only at hVB hlen
        have hfin : Hid (∀ (s2 : List Nat × Nat) (la2 : Int) (wx : World), valStep K X ⟨s, ak, ax, la⟩ = ⟨s2, K, X, la2⟩ → WB N w2 za zv s2 K X wx → WA N w2 za (valsS kk xx n (k + 1)) ((wx.setCell ⟨za, 0, none⟩ (.int .u8 (K : Int))).setCell ⟨za, 1, none⟩ (.int .i64 X)) ∧ (valsS kk xx n (k + 1)).la = la2) := (fun s2 la2 wx he hx => by rw [hnextH.out, he]; exact ⟨hx.ahead hNl, rfl⟩ : ∀ (s2 : List Nat × Nat) (la2 : Int) (wx : World), valStep K X ⟨s, ak, ax, la⟩ = ⟨s2, K, X, la2⟩ → WB N w2 za zv s2 K X wx → WA N w2 za (valsS kk xx n (k + 1)) ((wx.setCell ⟨za, 0, none⟩ (.int .u8 (K : Int))).setCell ⟨za, 1, none⟩ (.int .i64 X)) ∧ (valsS kk xx n (k + 1)).la = la2)
        have a0 : wr.cell? ⟨za, 0, none⟩ = some (.int .u8 (ak : Int)) := hV.c0
        have a1 : wr.cell? ⟨za, 1, none⟩ = some (.int .i64 ax) := hV.c1
        have hzl : za < wr.heap.size := World.block_lt_of_cell? _ _ a0
        have hBv := below_new (Below.refl _ wr) (.cells #[.int .u8 (K : Int), .int .i64 X] 49)
        have hIs : Hid (∀ w', _) := fun w' => isvalue_any K X w'
        rw [← hzv] at hVB
        have hVBH : Hid (WB N w2 za zv s K X (wr.alloc (.cells #[.int .u8 (K : Int), .int .i64 X] 49))) := hVB
        have hzvH : Hid (zv = wr.heap.size) := hzv
        have hBwH : Hid (Below w.heap.size w wr) := hBw
        have hBNH : Hid (Below N w2 wr) := hBN
        have a0B : ∀ wx, Below (wr.alloc (.cells #[.int .u8 (K : Int), .int .i64 X] 49)).heap.size (wr.alloc (.cells #[.int .u8 (K : Int), .int .i64 X] 49)) wx → wx.cell? ⟨za, 0, none⟩ = some (.int .u8 (ak : Int)) ∧ wx.cell? ⟨za, 1, none⟩ = some (.int .i64 ax) := fun wx hx => by
          have h1 := below_then hBv hx
          exact ⟨by rw [h1.cell (p := ⟨za, 0, none⟩) hzl]; exact a0, by rw [h1.cell (p := ⟨za, 1, none⟩) hzl]; exact a1⟩
        have a0BH : Hid _ := a0B
        have hBvH : Hid _ := hBv
        clear hVd hnext hK hX hV hcc hz hVB hnextH hBw hBN a0 a1 a0B hBv hzv hAk
        go_wp2_with fail
        refine Calls.mono (hIs.out _) ?_
        rintro e w4 ⟨⟨r, rfl, hr⟩, hB4⟩
        have h4 : WB N w2 za zv s K X w4 := by
          obtain ⟨g1, ⟨u, g2⟩, ⟨u', g3⟩, g4, g5, g6, g7⟩ := hVBH.out
          have hzz : za < (wr.alloc (.cells #[.int .u8 (K : Int), .int .i64 X] 49)).heap.size := World.block_lt_of_cell? _ _ g2
          have hzw : zv < (wr.alloc (.cells #[.int .u8 (K : Int), .int .i64 X] 49)).heap.size := World.block_lt_of_cell? _ _ g6
          exact ⟨g1.below hB4, ⟨u, by rw [hB4.cell (p := ⟨za, 0, none⟩) hzz]; exact g2⟩, ⟨u', by rw [hB4.cell (p := ⟨za, 1, none⟩) hzz]; exact g3⟩, by rw [hB4.frozen (p := ⟨za, 0, none⟩) hzz]; exact g4, by rw [hB4.frozen (p := ⟨za, 1, none⟩) hzz]; exact g5, by rw [hB4.cell (p := ⟨zv, 0, none⟩) hzw]; exact g6, by rw [hB4.cell (p := ⟨zv, 1, none⟩) hzw]; exact g7⟩
        have h4H : Hid (WB N w2 za zv s K X w4) := h4
        obtain ⟨b0, b1⟩ := a0BH.out _ hB4
        have v0 := h4.v0
        have v1 := h4.v1
        rw [← hzvH.out]
        have hB14 := below_then hBvH.out hB4
        clear h4 a0BH hVBH hB4 hIs
        cases r with
        | false =>
          have hnv : Hid (¬ AllV kk xx n) := hNH.out (fun hv => Bool.noConfusion (hr.2 hv))
          have hF : Hid _ := docNew 2
          have hB04 := below_then hBwH.out hB14
          have hBN4 : Below N w2 w4 := hBNH.out.trans (hB14.mono (by have := hNl; omega))
          have hz4 := hz2H.out.of (hBN4.block w.heap.size hqN)
          have hql4 : w.heap.size < w4.heap.size := by have := hBN4.size; omega
          simp only [badV] at hF ⊢
          clear hr
          go_wp2_with fail
          refine Calls.mono (hF.out _) ?_
          rintro e w5 ⟨rfl, hB5⟩
          obtain ⟨z0, z1, z2, z3, z4, y0, y1, y2, y3, y4⟩ := hz4.of (hB5.block w.heap.size hql4)
          have hB05 := below_then hB04 hB5
          clear hz4 hB5 hF
          go_wp2_with fail
          simp [bodyPost, results, Tryz.results81, go_sem, z0, z1, z2, z3, z4, y0, y1, y2, y3, y4]
          exact ⟨Or.inr (Or.inl ⟨by omega, hnv.out, rfl⟩), bad_put w w5 hB05 _ _ _ _ _⟩
        | true =>
          have hv : isV K X := hr.1 rfl
          have hAnext : Hid (AllV kk xx (k + 1)) := hAH.out hv
          clear hr
          by_cases heq : K = ak ∧ X = ax
          · obtain ⟨rfl, rfl⟩ := heq
            have hB1 : Hid _ := wb_bits h4H.out 0 (by omega) 0 1 rfl 1 rfl (by omega) (by omega)
            go_wp2_with fail
            refine Calls.mono hB1.out ?_
            clear v0 v1
            rintro e w5 ⟨rfl, h5⟩
            have v0 := h5.v0
            have v1 := h5.v1
            obtain ⟨u0, a0'⟩ := h5.a0
            obtain ⟨u1, a1'⟩ := h5.a1
            have f0 := h5.f0
            have f1 := h5.f1
            have hF : Hid _ := hfin.out _ la w5 (by unfold valStep; rw [if_pos ⟨rfl, rfl⟩]) h5
            clear h5
            go_wp2_with fail
            go_roundw
            case rel => exact ⟨k + 1, by omega, by go_num, by rw [hF.out.2], hF.out.1, hAnext.out⟩
            case measure => simp [intOf]; omega
          · have hneH : Hid (¬ (K = ak ∧ X = ax)) := heq
            by_cases hKa : K = ak
            · have hXn : ¬ X = ax := fun h => heq ⟨hKa, h⟩
              subst hKa
              clear heq
              have hl1 := bitsOn_len 2 2 s
              have hl2 := bitsOn_len 3 2 s
              by_cases hK0 : K = 0
              · have hKb : ((K : Int) == 0) = true := by simp [hK0]
                have hK0H : Hid (K = 0) := hK0
                clear hK0
                obtain ⟨D, hD⟩ : ∃ D, D = wrap64 (X - la) := ⟨_, rfl⟩
                have hDr := wrap64_range2 (X - la)
                rw [← hD] at hDr
                have hDw : wrap64 (IntKind.u64.wrap (IntKind.u64.wrap X - IntKind.u64.wrap la)) = D := by rw [hD]; simp only [IntKind.wrap_u64]; unfold wrap64; omega
                have hDH : Hid (D = wrap64 (X - la)) := hD
                clear hD
                obtain ⟨x, hx⟩ : ∃ x, x = foldZ D := ⟨_, rfl⟩
                have hxl : x < 18446744073709551616 := by rw [hx]; exact foldZ_lt D hDr
                have hFo : Hid (∀ w', _) := fun w' => rfold D hDr w'
                rw [← hx] at hFo
                obtain ⟨m, hm⟩ : ∃ m, m = sizeN x := ⟨_, rfl⟩
                have hml := sizeN_le x
                rw [← hm] at hml
                have hSz : Hid (∀ w', _) := fun w' => size_any x hxl w'
                rw [← hm] at hSz
                have hmw : IntKind.u64.wrap ((m : Int) - 1) = (m : Int) - 1 := by rw [IntKind.wrap_u64]; omega
                have hst : Hid (stepOn D (bitsOn 2 2 s) = bitsOn x m (bitsOn (m - 1) 6 (bitsOn 2 2 s))) := (by unfold stepOn; rw [← hx, ← hm] : stepOn D (bitsOn 2 2 s) = bitsOn x m (bitsOn (m - 1) 6 (bitsOn 2 2 s)))
                have hl3 := bitsOn_len (m - 1) 6 (bitsOn 2 2 s)
                have hB1 : Hid (∀ wx, WB N w2 za zv s K X wx → _) := fun wx h' => wb_bits (wr := wx) h' 2 (by omega) 2 2 rfl 2 rfl (by omega) (by omega)
                have hB3 : Hid (∀ wx, WB N w2 za zv (bitsOn 2 2 s) K X wx → Calls Tryz.prog 68 #[.pointer (some ⟨N, 0, none⟩), .int .u64 ((m : Int) - 1), .int .i64 6] wx fun e w' => e = .returned undef ∧ WB N w2 za zv (bitsOn (m - 1) 6 (bitsOn 2 2 s)) K X w') := fun wx h' => wb_bits h' (m - 1) (by omega) _ 6 (by omega) 6 rfl (by omega) (by omega)
                have hB4 : Hid (∀ wx, WB N w2 za zv (bitsOn (m - 1) 6 (bitsOn 2 2 s)) K X wx → Calls Tryz.prog 68 #[.pointer (some ⟨N, 0, none⟩), .int .u64 (x : Int), .int .i64 (m : Int)] wx fun e w' => e = .returned undef ∧ WB N w2 za zv (stepOn D (bitsOn 2 2 s)) K X w') := fun wx h' => by rw [hst.out]; exact wb_bits h' x hxl (x : Int) (m : Int) rfl m rfl (by omega) (by omega)
                clear hx hm
                go_wp2_with fail
                refine Calls.mono (hFo.out _) ?_
                rintro e wf ⟨rfl, hw⟩
                have hw' := hw.symm
                subst hw'
                clear hw
                have hB1' : Hid _ := hB1.out _ h4H.out
                go_wp2_with fail
                refine Calls.mono hB1'.out ?_
                rintro e w6 ⟨rfl, h6⟩
                have h6H : Hid (WB N w2 za zv (bitsOn 2 2 s) K X w6) := h6
                clear h6 hB1'
                go_wp2_with fail
                refine Calls.mono (hSz.out _) ?_
                rintro e wf ⟨rfl, hw⟩
                have hw' := hw.symm
                subst hw'
                clear hw
                have hB3' : Hid _ := hB3.out _ h6H.out
                go_wp2_with fail
                refine Calls.mono hB3'.out ?_
                rintro e w7 ⟨rfl, h7⟩
                have h7H : Hid (WB N w2 za zv (bitsOn (m - 1) 6 (bitsOn 2 2 s)) K X w7) := h7
                clear h7 hB3'
                go_wp2_with fail
                refine Calls.mono (hSz.out _) ?_
                rintro e wf ⟨rfl, hw⟩
                have hw' := hw.symm
                subst hw'
                clear hw
                have hB4' : Hid _ := hB4.out _ h7H.out
                go_wp2_with fail
                refine Calls.mono hB4'.out ?_
                rintro e w5 ⟨rfl, h5⟩
                have v0 := h5.v0
                have v1 := h5.v1
                obtain ⟨u0, a0'⟩ := h5.a0
                obtain ⟨u1, a1'⟩ := h5.a1
                have f0 := h5.f0
                have f1 := h5.f1
                have hF : Hid _ := hfin.out _ X w5 (by unfold valStep; rw [if_neg (fun h => hXn h.2), if_pos hK0H.out, ← hDH.out]) h5
                clear h5
                go_wp2_with fail
                go_roundw
                case rel => exact ⟨k + 1, by omega, by go_num, by rw [hF.out.2], hF.out.1, hAnext.out⟩
                case measure => simp [intOf]; omega
              · have hKb : ((K : Int) == 0) = false := by simp [hK0]
                have hK12 : K = 1 ∨ K = 2 := by have := hv.1; omega
                have hKw : IntKind.u8.wrap ((K : Int) - 1) = ((K - 1 : Nat) : Int) := by rw [IntKind.wrap_u8]; omega
                have hKw2 : IntKind.u64.wrap ((K - 1 : Nat) : Int) = ((K - 1 : Nat) : Int) := by rw [IntKind.wrap_u64]; omega
                have hK0H : Hid (¬ K = 0) := hK0
                have hbt : Hid (bitsOn (K - 1) 1 (bitsOn 3 2 s) = (if K = 1 then bitsOn 6 3 s else bitsOn 7 3 s)) := (bits_two K hK12 s : bitsOn (K - 1) 1 (bitsOn 3 2 s) = (if K = 1 then bitsOn 6 3 s else bitsOn 7 3 s))
                have hwhy : Hid (valStep K X ⟨s, K, ax, la⟩ = ⟨bitsOn (K - 1) 1 (bitsOn 3 2 s), K, X, la⟩) := (by
                  rw [hbt.out]
                  unfold valStep
                  rw [if_neg (fun h => hXn h.2), if_neg hK0]
                  rcases hK12 with h1 | h1
                  · rw [if_pos h1, if_pos h1]
                  · rw [if_neg (by omega), if_neg (by omega)] : valStep K X ⟨s, K, ax, la⟩ = ⟨bitsOn (K - 1) 1 (bitsOn 3 2 s), K, X, la⟩)
                have hB1 : Hid _ := wb_bits h4H.out 3 (by omega) 3 2 rfl 2 rfl (by omega) (by omega)
                have hB3 : Hid (∀ wx, WB N w2 za zv (bitsOn 3 2 s) K X wx → Calls Tryz.prog 68 #[.pointer (some ⟨N, 0, none⟩), .int .u64 ((K - 1 : Nat) : Int), .int .i64 1] wx fun e w' => e = .returned undef ∧ WB N w2 za zv (bitsOn (K - 1) 1 (bitsOn 3 2 s)) K X w') := fun wx h' => wb_bits h' (K - 1) (by omega) _ 1 rfl 1 rfl (by omega) (by omega)
                clear hK0 hK12
                go_wp2_with fail
                refine Calls.mono hB1.out ?_
                rintro e w6 ⟨rfl, h6⟩
                have v0 := h6.v0
                have hB3' : Hid _ := hB3.out _ h6
                clear h6 hB1
                go_wp2_with fail
                refine Calls.mono hB3'.out ?_
                clear v0
                rintro e w5 ⟨rfl, h5⟩
                have v0 := h5.v0
                have v1 := h5.v1
                obtain ⟨u0, a0'⟩ := h5.a0
                obtain ⟨u1, a1'⟩ := h5.a1
                have f0 := h5.f0
                have f1 := h5.f1
                have hF : Hid _ := hfin.out _ la w5 (hwhy.out) h5
                clear h5
                go_wp2_with fail
                go_roundw
                case rel => exact ⟨k + 1, by omega, by go_num, by rw [hF.out.2], hF.out.1, hAnext.out⟩
                case measure => simp [intOf]; omega
            · have hKn : ¬ (K : Int) = (ak : Int) := by omega
              clear heq hKa
              have hl1 := bitsOn_len 2 2 s
              have hl2 := bitsOn_len 3 2 s
              by_cases hK0 : K = 0
              · have hKb : ((K : Int) == 0) = true := by simp [hK0]
                have hK0H : Hid (K = 0) := hK0
                clear hK0
                obtain ⟨D, hD⟩ : ∃ D, D = wrap64 (X - la) := ⟨_, rfl⟩
                have hDr := wrap64_range2 (X - la)
                rw [← hD] at hDr
                have hDw : wrap64 (IntKind.u64.wrap (IntKind.u64.wrap X - IntKind.u64.wrap la)) = D := by rw [hD]; simp only [IntKind.wrap_u64]; unfold wrap64; omega
                have hDH : Hid (D = wrap64 (X - la)) := hD
                clear hD
                obtain ⟨x, hx⟩ : ∃ x, x = foldZ D := ⟨_, rfl⟩
                have hxl : x < 18446744073709551616 := by rw [hx]; exact foldZ_lt D hDr
                have hFo : Hid (∀ w', _) := fun w' => rfold D hDr w'
                rw [← hx] at hFo
                obtain ⟨m, hm⟩ : ∃ m, m = sizeN x := ⟨_, rfl⟩
                have hml := sizeN_le x
                rw [← hm] at hml
                have hSz : Hid (∀ w', _) := fun w' => size_any x hxl w'
                rw [← hm] at hSz
                have hmw : IntKind.u64.wrap ((m : Int) - 1) = (m : Int) - 1 := by rw [IntKind.wrap_u64]; omega
                have hst : Hid (stepOn D (bitsOn 2 2 s) = bitsOn x m (bitsOn (m - 1) 6 (bitsOn 2 2 s))) := (by unfold stepOn; rw [← hx, ← hm] : stepOn D (bitsOn 2 2 s) = bitsOn x m (bitsOn (m - 1) 6 (bitsOn 2 2 s)))
                have hl3 := bitsOn_len (m - 1) 6 (bitsOn 2 2 s)
                have hB1 : Hid (∀ wx, WB N w2 za zv s K X wx → _) := fun wx h' => wb_bits (wr := wx) h' 2 (by omega) 2 2 rfl 2 rfl (by omega) (by omega)
                have hB3 : Hid (∀ wx, WB N w2 za zv (bitsOn 2 2 s) K X wx → Calls Tryz.prog 68 #[.pointer (some ⟨N, 0, none⟩), .int .u64 ((m : Int) - 1), .int .i64 6] wx fun e w' => e = .returned undef ∧ WB N w2 za zv (bitsOn (m - 1) 6 (bitsOn 2 2 s)) K X w') := fun wx h' => wb_bits h' (m - 1) (by omega) _ 6 (by omega) 6 rfl (by omega) (by omega)
                have hB4 : Hid (∀ wx, WB N w2 za zv (bitsOn (m - 1) 6 (bitsOn 2 2 s)) K X wx → Calls Tryz.prog 68 #[.pointer (some ⟨N, 0, none⟩), .int .u64 (x : Int), .int .i64 (m : Int)] wx fun e w' => e = .returned undef ∧ WB N w2 za zv (stepOn D (bitsOn 2 2 s)) K X w') := fun wx h' => by rw [hst.out]; exact wb_bits h' x hxl (x : Int) (m : Int) rfl m rfl (by omega) (by omega)
                clear hx hm
                go_wp2_with fail
                refine Calls.mono (hFo.out _) ?_
                rintro e wf ⟨rfl, hw⟩
                have hw' := hw.symm
                subst hw'
                clear hw
                have hB1' : Hid _ := hB1.out _ h4H.out
                go_wp2_with fail
                refine Calls.mono hB1'.out ?_
                rintro e w6 ⟨rfl, h6⟩
                have h6H : Hid (WB N w2 za zv (bitsOn 2 2 s) K X w6) := h6
                clear h6 hB1'
                go_wp2_with fail
                refine Calls.mono (hSz.out _) ?_
                rintro e wf ⟨rfl, hw⟩
                have hw' := hw.symm
                subst hw'
                clear hw
                have hB3' : Hid _ := hB3.out _ h6H.out
                go_wp2_with fail
                refine Calls.mono hB3'.out ?_
                rintro e w7 ⟨rfl, h7⟩
                have h7H : Hid (WB N w2 za zv (bitsOn (m - 1) 6 (bitsOn 2 2 s)) K X w7) := h7
                clear h7 hB3'
                go_wp2_with fail
                refine Calls.mono (hSz.out _) ?_
                rintro e wf ⟨rfl, hw⟩
                have hw' := hw.symm
                subst hw'
                clear hw
                have hB4' : Hid _ := hB4.out _ h7H.out
                go_wp2_with fail
                refine Calls.mono hB4'.out ?_
                rintro e w5 ⟨rfl, h5⟩
                have v0 := h5.v0
                have v1 := h5.v1
                obtain ⟨u0, a0'⟩ := h5.a0
                obtain ⟨u1, a1'⟩ := h5.a1
                have f0 := h5.f0
                have f1 := h5.f1
                have hF : Hid _ := hfin.out _ X w5 (by unfold valStep; rw [if_neg hneH.out, if_pos hK0H.out, ← hDH.out]) h5
                clear h5
                go_wp2_with fail
                go_roundw
                case rel => exact ⟨k + 1, by omega, by go_num, by rw [hF.out.2], hF.out.1, hAnext.out⟩
                case measure => simp [intOf]; omega
              · have hKb : ((K : Int) == 0) = false := by simp [hK0]
                have hK12 : K = 1 ∨ K = 2 := by have := hv.1; omega
                have hKw : IntKind.u8.wrap ((K : Int) - 1) = ((K - 1 : Nat) : Int) := by rw [IntKind.wrap_u8]; omega
                have hKw2 : IntKind.u64.wrap ((K - 1 : Nat) : Int) = ((K - 1 : Nat) : Int) := by rw [IntKind.wrap_u64]; omega
                have hK0H : Hid (¬ K = 0) := hK0
                have hbt : Hid (bitsOn (K - 1) 1 (bitsOn 3 2 s) = (if K = 1 then bitsOn 6 3 s else bitsOn 7 3 s)) := (bits_two K hK12 s : bitsOn (K - 1) 1 (bitsOn 3 2 s) = (if K = 1 then bitsOn 6 3 s else bitsOn 7 3 s))
                have hwhy : Hid (valStep K X ⟨s, ak, ax, la⟩ = ⟨bitsOn (K - 1) 1 (bitsOn 3 2 s), K, X, la⟩) := (by
                  rw [hbt.out]
                  unfold valStep
                  rw [if_neg hneH.out, if_neg hK0]
                  rcases hK12 with h1 | h1
                  · rw [if_pos h1, if_pos h1]
                  · rw [if_neg (by omega), if_neg (by omega)] : valStep K X ⟨s, ak, ax, la⟩ = ⟨bitsOn (K - 1) 1 (bitsOn 3 2 s), K, X, la⟩)
                have hB1 : Hid _ := wb_bits h4H.out 3 (by omega) 3 2 rfl 2 rfl (by omega) (by omega)
                have hB3 : Hid (∀ wx, WB N w2 za zv (bitsOn 3 2 s) K X wx → Calls Tryz.prog 68 #[.pointer (some ⟨N, 0, none⟩), .int .u64 ((K - 1 : Nat) : Int), .int .i64 1] wx fun e w' => e = .returned undef ∧ WB N w2 za zv (bitsOn (K - 1) 1 (bitsOn 3 2 s)) K X w') := fun wx h' => wb_bits h' (K - 1) (by omega) _ 1 rfl 1 rfl (by omega) (by omega)
                clear hK0 hK12
                go_wp2_with fail
                refine Calls.mono hB1.out ?_
                rintro e w6 ⟨rfl, h6⟩
                have v0 := h6.v0
                have hB3' : Hid _ := hB3.out _ h6
                clear h6 hB1
                go_wp2_with fail
                refine Calls.mono hB3'.out ?_
                clear v0
                rintro e w5 ⟨rfl, h5⟩
                have v0 := h5.v0
                have v1 := h5.v1
                obtain ⟨u0, a0'⟩ := h5.a0
                obtain ⟨u1, a1'⟩ := h5.a1
                have f0 := h5.f0
                have f1 := h5.f1
                have hF : Hid _ := hfin.out _ la w5 (hwhy.out) h5
                clear h5
                go_wp2_with fail
                go_roundw
                case rel => exact ⟨k + 1, by omega, by go_num, by rw [hF.out.2], hF.out.1, hAnext.out⟩
                case measure => simp [intOf]; omega
      · have hkI : ¬ (k : Int) < (n : Int) := by omega
        obtain rfl : n = k := by omega
        have hRW := hV.rz.dw
        have hBw := hbwH.out _ hRW.b
        have hb2 := hRW.b
        obtain ⟨hCL, v, hWS⟩ := hRW
        obtain ⟨va, vc, hv, hin⟩ := hWS.bytes hCL.2.1 (by omega)
        have c0 := hWS.c0
        rw [hv] at c0
        obtain ⟨z0, z1, z2, z3, z4, y0, y1, y2, y3, y4⟩ := hz2H.out.of (hb2.block w.heap.size hqN)
        obtain ⟨sl, hsl⟩ : ∃ sl, sl = (valsS kk xx n n).s.1 := ⟨_, rfl⟩
        rw [← hsl] at c0 hin
        obtain ⟨LA, hLA⟩ : ∃ LA, LA = (valsS kk xx n n).la := ⟨_, rfl⟩
        rw [← hLA]
        have hslH : Hid (sl = (valsS kk xx n n).s.1) := hsl
        have hinH : Hid (BytesIn wr va sl.length (natsOf sl)) := hin
        have hAkH : Hid (AllV kk xx n) := hAk
        have hfin : Hid (∀ W, Below w.heap.size w W → BytesIn W va sl.length (natsOf sl) → ValuesE kk xx n badV (badV 0) (.returned (.tuple #[.slice va sl.length vc, badV 0])) W ∧ Below w.heap.size w W) := (fun W hBW hI => ⟨Or.inr (Or.inr ⟨by omega, hAkH.out, va, vc, by rw [hslH.out], by rw [← hslH.out]; exact hI⟩), hBW⟩ : ∀ W, Below w.heap.size w W → BytesIn W va sl.length (natsOf sl) → ValuesE kk xx n badV (badV 0) (.returned (.tuple #[.slice va sl.length vc, badV 0])) W ∧ Below w.heap.size w W)
        have hne : sl.length = 0 ∨ ∃ g o, va = some ⟨g, o, none⟩ ∧ w.heap.size < g := by
          rcases hWS.own.2 with ⟨h1, h1'⟩ | ⟨g, cap', cur, h1, h2, _⟩
          · left; rw [hsl]; rw [hv] at h1; injection h1
          · right; rw [hv] at h1; injection h1 with h1; exact ⟨g, 0, h1, by omega⟩
        have hneH : Hid _ := hne
        have hBwH : Hid (Below w.heap.size w wr) := hBw
        clear hWS hCL hsl hv hin hb2 hBw hne hV hLA hAk hlen
        go_wp2_with fail
        simp [bodyPost, results, Tryz.results81, go_sem, z0, z1, z2, z3, z4, y0, y1, y2, y3, y4]
        have hfx := hfin.out _ (bad_put w wr hBwH.out (.int .i64 0) (.int .i64 0) (.int .i64 0) (.bool false) (.bool false)) (bytesIn_z hneH.out (bytesIn_z hneH.out (bytesIn_z hneH.out (bytesIn_z hneH.out (bytesIn_z hneH.out hinH.out)))))
        exact hfx
end Go.Proofs.YtpicgjjbpiinfaaGreatDoor
