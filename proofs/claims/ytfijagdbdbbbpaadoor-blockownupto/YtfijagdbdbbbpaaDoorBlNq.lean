
import Derived.Test.YtfijagdbdbbbpaaDoorBuK
namespace Go.Proofs.YtfijagdbdbbbpaaDoor
open Go.RowKit
set_option linter.unusedVariables false
set_option linter.unusedSimpArgs false
set_option maxRecDepth 100000 in
set_option maxHeartbeats 8000000 in
theorem values_any (a : Option Addr) (n cap : Nat) (kk : Nat → Nat) (xx : Nat → Int) (w : World) (h : VIn w a n kk xx) : Calls Tryd.prog 5 #[.slice a n cap] w fun e w' => ValuesE kk xx n (fun c => .iface 77 (.int .i64 c)) .nilIface e w' ∧ Below w.heap.size w w' := by
  have hn := h.1
  by_cases hlong : 1048576 < n
  · have hI : (1048576 : Int) < (n : Int) := by omega
    have hF : Hid _ := faultNew 6 rfl
    clear h
    go_enter Tryd.func5, Tryd.ntmps5
    go_wp2_with fail
    refine Calls.mono (hF.out _) ?_
    rintro e w2 ⟨rfl, hw⟩
    have hw' := hw.symm
    subst hw'
    clear hw
    go_wp2_with fail
    simp [bodyPost, results, Tryd.results5, go_sem]
    exact ⟨Or.inl ⟨hlong, rfl⟩, Below.refl _ _⟩
  · have hI : ¬ (1048576 : Int) < (n : Int) := by omega
    have hC : Hid _ := contains_any a n cap kk xx w h
    have hhH : Hid (VIn w a n kk xx) := h
    clear h
    go_enter Tryd.func5, Tryd.ntmps5
    go_wp2_with fail
    refine Calls.mono hC.out ?_
    rintro e w2 ⟨⟨r, rfl, hr⟩, hB2⟩
    cases r with
    | true =>
      have hnr : Hid (¬ AllV kk xx n) := hr.1 rfl
      have hF : Hid _ := faultNew 2 rfl
      clear hr
      go_wp2_with fail
      refine Calls.mono (hF.out _) ?_
      rintro e w3 ⟨rfl, hw⟩
      have hw' := hw.symm
      subst hw'
      clear hw
      go_wp2_with fail
      simp [bodyPost, results, Tryd.results5, go_sem]
      exact ⟨Or.inr (Or.inl ⟨by omega, hnr.out, rfl⟩), hB2⟩
    | false =>
      have hnr : Hid (AllV kk xx n) := (Classical.not_not.1 fun hh => Bool.noConfusion (hr.2 hh) : AllV kk xx n)
      clear hr hC
      have hU : Hid _ := rw_uint (RW.start w2) n (by omega) (n : Int) rfl (by simp)
      have hnw : IntKind.u64.wrap (n : Int) = (n : Int) := by rw [IntKind.wrap_u64]; omega
      go_wp2_with fail
      refine Calls.mono hU.out ?_
      rintro e w3 ⟨rfl, h3⟩
      have hbw : Below w.heap.size w w3 := hB2.trans (h3.b.mono hB2.size)
      have hs3 : w2.heap.size < w3.heap.size := h3.sz
      obtain ⟨N, hN⟩ : ∃ N, N = w2.heap.size := ⟨_, rfl⟩
      obtain ⟨za, hza⟩ : ∃ za, za = w3.heap.size := ⟨_, rfl⟩
      have hVA : VA N w2 za (valsS kk xx n 0) (w3.alloc (.cells #[.int .u8 0, .int .i64 0] 57)) := by
        have hB := below_new (Below.refl _ w3) (.cells #[.int .u8 0, .int .i64 0] 57)
        have h4 := h3.rz.more hB (by simp)
        obtain ⟨g1, v, g2, g3⟩ := h4
        rw [hza, hN]
        exact ⟨⟨g1, v, g2, fun z hz => g3 z (Or.inr hz)⟩, by simp [go_sem, valsS], by simp [go_sem, valsS], by simp [go_sem], by simp [go_sem], by omega⟩
      have hVAH : Hid (VA N w2 za (valsS kk xx n 0) (w3.alloc (.cells #[.int .u8 0, .int .i64 0] 57))) := hVA
      have hNH : Hid (N = w2.heap.size) := hN
      have hzaH : Hid (za = w3.heap.size) := hza
      have hNl : N ≤ za := by omega
      have hbwH : Hid (∀ wx, Below N w2 wx → Below w.heap.size w wx) := (fun wx hx => hB2.trans (hx.mono (by rw [hN]; exact hB2.size)) : ∀ wx, Below N w2 wx → Below w.heap.size w wx)
      rw [← hN]
      clear h3 hVA hN hza hU hbw hs3
      go_wp2_with fail
      rw [← hzaH.out]
      go_loopw [22, 6] (fun i la wr => ∃ k : Nat, k ≤ n ∧ i = .int .i64 (k : Int) ∧ la = .int .i64 (valsS kk xx n k).la ∧ VA N w2 za (valsS kk xx n k) wr) (fun i _ _ => n - (intOf i).toNat)
      case atStart => exact ⟨0, by omega, rfl, rfl, hVAH.out⟩
      case round =>
        clear hVAH
        obtain ⟨k, hk, rfl, rfl, hV⟩ := hrel
        have hlen := valsS_len kk xx n k
        by_cases hkn : k < n
        · have hkI : (k : Int) < (n : Int) := by omega
          have k0 : (0 : Int) ≤ (k : Int) := by omega
          have hBw := hbwH.out _ hV.rz.rw.b
          obtain ⟨hn1, hz, hc⟩ := hhH.out
          rcases hc with h0 | ⟨b, off, rfl, hb, hcc⟩
          · omega
          have d0 : wr.cell? ⟨b, off + k * 2, none⟩ = some (.int .u8 (kk k : Int)) := by rw [hBw.cell (p := ⟨b, off + k * 2, none⟩) hb]; exact (hcc k hkn).1
          have d1 : wr.cell? ⟨b, off + k * 2 + 1, none⟩ = some (.int .i64 (xx k)) := by rw [hBw.cell (p := ⟨b, off + k * 2 + 1, none⟩) hb]; exact (hcc k hkn).2
          have hzk := hz k
          have hisv := hnr.out k hkn
          obtain ⟨V, hVd⟩ : ∃ V, V = valsS kk xx n k := ⟨_, rfl⟩
          have hnext : valsS kk xx n (k + 1) = valStep (kk k) (xx k) V := by rw [hVd]; rfl
          rw [← hVd] at hV hlen ⊢
          obtain ⟨K, hK⟩ : ∃ K, K = kk k := ⟨_, rfl⟩
          obtain ⟨X, hX⟩ : ∃ X, X = xx k := ⟨_, rfl⟩
          rw [← hK] at d0 hzk hisv hnext
          rw [← hX] at d1 hzk hisv hnext
          obtain ⟨s, ak, ax, la⟩ := V
          have hnextH : Hid (valsS kk xx n (k + 1) = valStep K X ⟨s, ak, ax, la⟩) := hnext
          have a0 : wr.cell? ⟨za, 0, none⟩ = some (.int .u8 (ak : Int)) := hV.c0
          have a1 : wr.cell? ⟨za, 1, none⟩ = some (.int .i64 ax) := hV.c1
          have hzl : za < wr.heap.size := World.block_lt_of_cell? _ _ a0
          have hzne : ¬ wr.heap.size = za := by omega
          have hVB := hV.new K X
          simp only at hVB hlen
          have hfin : Hid (∀ (s2 : List Nat × Nat) (la2 : Int) (wx : World), valStep K X ⟨s, ak, ax, la⟩ = ⟨s2, K, X, la2⟩ → VB N w2 za wr.heap.size s2 K X wx → VA N w2 za (valsS kk xx n (k + 1)) ((wx.setCell ⟨za, 0, none⟩ (.int .u8 (K : Int))).setCell ⟨za, 1, none⟩ (.int .i64 X)) ∧ (valsS kk xx n (k + 1)).la = la2) := (fun s2 la2 wx he hx => by rw [hnextH.out, he]; exact ⟨hx.ahead hNl, rfl⟩ : ∀ (s2 : List Nat × Nat) (la2 : Int) (wx : World), valStep K X ⟨s, ak, ax, la⟩ = ⟨s2, K, X, la2⟩ → VB N w2 za wr.heap.size s2 K X wx → VA N w2 za (valsS kk xx n (k + 1)) ((wx.setCell ⟨za, 0, none⟩ (.int .u8 (K : Int))).setCell ⟨za, 1, none⟩ (.int .i64 X)) ∧ (valsS kk xx n (k + 1)).la = la2)
          have hVBH : Hid (VB N w2 za wr.heap.size s K X (wr.alloc (.cells #[.int .u8 (K : Int), .int .i64 X] 57))) := hVB
          clear hVd hnext hK hX hV hcc hz hVB hnextH hBw
          by_cases heq : K = ak ∧ X = ax
          · obtain ⟨rfl, rfl⟩ := heq
            have hB1 : Hid _ := vb_bits hVBH.out 0 (by omega) 0 1 rfl 1 rfl (by omega) (by omega)
            go_wp2_with fail
            refine Calls.mono hB1.out ?_
            rintro e w5 ⟨rfl, h5⟩
            have v0 := h5.v0
            have v1 := h5.v1
            obtain ⟨u0, a0'⟩ := h5.a0
            obtain ⟨u1, a1'⟩ := h5.a1
            have f0 := h5.f0
            have f1 := h5.f1
            have hF : Hid _ := hfin.out _ la w5 (by unfold valStep; rw [if_pos ⟨rfl, rfl⟩]) h5
            clear h5
            go_wp2_with fail
            go_roundw
            case rel => exact ⟨k + 1, by omega, by go_num, by rw [hF.out.2], hF.out.1⟩
            case measure => simp [intOf]; omega
          · have hneH : Hid (¬ (K = ak ∧ X = ax)) := heq
            by_cases hKa : K = ak
            · have hXn : ¬ X = ax := fun h => heq ⟨hKa, h⟩
              subst hKa
              clear heq
              have hl1 := bitsOn_len 2 2 s
              by_cases hK0 : K = 0
              · have hKb : ((K : Int) == 0) = true := by simp [hK0]
                have hK0H : Hid (K = 0) := hK0
                clear hK0
                obtain ⟨D, hD⟩ : ∃ D, D = wrap64 (X - la) := ⟨_, rfl⟩
                have hDr := wrap64_range2 (X - la)
                rw [← hD] at hDr
                have hDw : wrap64 (X - la) = D := hD.symm
                have hB1 : Hid _ := vb_bits hVBH.out 2 (by omega) 2 2 rfl 2 rfl (by omega) (by omega)
                have hDH : Hid (D = wrap64 (X - la)) := hD
                clear hD
                go_wp2_with fail
                refine Calls.mono hB1.out ?_
                rintro e w4 ⟨rfl, h4⟩
                have v0 := h4.v0
                have v1 := h4.v1
                have hS : Hid _ := vb_step h4 D hDr (by omega)
                clear h4 hB1
                go_wp2_with fail
                refine Calls.mono hS.out ?_
                clear v0 v1 hS
                rintro e w5 ⟨rfl, h5⟩
                have v0 := h5.v0
                have v1 := h5.v1
                obtain ⟨u0, a0'⟩ := h5.a0
                obtain ⟨u1, a1'⟩ := h5.a1
                have f0 := h5.f0
                have f1 := h5.f1
                have hF : Hid _ := hfin.out _ X w5 (by unfold valStep; rw [if_neg (fun h => hXn h.2), if_pos hK0H.out, ← hDH.out]) h5
                clear h5
                go_wp2_with fail
                go_roundw
                case rel => exact ⟨k + 1, by omega, by go_num, by rw [hF.out.2], hF.out.1⟩
                case measure => simp [intOf]; omega
              · have hKb : ((K : Int) == 0) = false := by simp [hK0]
                by_cases hK1 : K = 1
                · have hKc : ((K : Int) == 1) = true := by simp [hK1]
                  have hK0H : Hid (¬ K = 0) := hK0
                  have hK1H : Hid (K = 1) := hK1
                  clear hK0 hK1
                  have hB1 : Hid _ := vb_bits hVBH.out 6 (by omega) 6 3 rfl 3 rfl (by omega) (by omega)
                  go_wp2_with fail
                  refine Calls.mono hB1.out ?_
                  rintro e w5 ⟨rfl, h5⟩
                  have v0 := h5.v0
                  have v1 := h5.v1
                  obtain ⟨u0, a0'⟩ := h5.a0
                  obtain ⟨u1, a1'⟩ := h5.a1
                  have f0 := h5.f0
                  have f1 := h5.f1
                  have hF : Hid _ := hfin.out _ la w5 (by unfold valStep; rw [if_neg (fun h => hXn h.2), if_neg hK0H.out, if_pos hK1H.out]) h5
                  clear h5
                  go_wp2_with fail
                  go_roundw
                  case rel => exact ⟨k + 1, by omega, by go_num, by rw [hF.out.2], hF.out.1⟩
                  case measure => simp [intOf]; omega
                · have hKc : ((K : Int) == 1) = false := by rw [beq_eq_false_iff_ne]; omega
                  have hK0H : Hid (¬ K = 0) := hK0
                  have hK1H : Hid (¬ K = 1) := hK1
                  clear hK0 hK1
                  have hB1 : Hid _ := vb_bits hVBH.out 7 (by omega) 7 3 rfl 3 rfl (by omega) (by omega)
                  go_wp2_with fail
                  refine Calls.mono hB1.out ?_
                  rintro e w5 ⟨rfl, h5⟩
                  have v0 := h5.v0
                  have v1 := h5.v1
                  obtain ⟨u0, a0'⟩ := h5.a0
                  obtain ⟨u1, a1'⟩ := h5.a1
                  have f0 := h5.f0
                  have f1 := h5.f1
                  have hF : Hid _ := hfin.out _ la w5 (by unfold valStep; rw [if_neg (fun h => hXn h.2), if_neg hK0H.out, if_neg hK1H.out]) h5
                  clear h5
                  go_wp2_with fail
                  go_roundw
                  case rel => exact ⟨k + 1, by omega, by go_num, by rw [hF.out.2], hF.out.1⟩
                  case measure => simp [intOf]; omega
            · have hKn : ¬ (K : Int) = (ak : Int) := by omega
              clear heq hKa
              have hl1 := bitsOn_len 2 2 s
              by_cases hK0 : K = 0
              · have hKb : ((K : Int) == 0) = true := by simp [hK0]
                have hK0H : Hid (K = 0) := hK0
                clear hK0
                obtain ⟨D, hD⟩ : ∃ D, D = wrap64 (X - la) := ⟨_, rfl⟩
                have hDr := wrap64_range2 (X - la)
                rw [← hD] at hDr
                have hDw : wrap64 (X - la) = D := hD.symm
                have hB1 : Hid _ := vb_bits hVBH.out 2 (by omega) 2 2 rfl 2 rfl (by omega) (by omega)
                have hDH : Hid (D = wrap64 (X - la)) := hD
                clear hD
                go_wp2_with fail
                refine Calls.mono hB1.out ?_
                rintro e w4 ⟨rfl, h4⟩
                have v0 := h4.v0
                have v1 := h4.v1
                have hS : Hid _ := vb_step h4 D hDr (by omega)
                clear h4 hB1
                go_wp2_with fail
                refine Calls.mono hS.out ?_
                clear v0 v1 hS
                rintro e w5 ⟨rfl, h5⟩
                have v0 := h5.v0
                have v1 := h5.v1
                obtain ⟨u0, a0'⟩ := h5.a0
                obtain ⟨u1, a1'⟩ := h5.a1
                have f0 := h5.f0
                have f1 := h5.f1
                have hF : Hid _ := hfin.out _ X w5 (by unfold valStep; rw [if_neg hneH.out, if_pos hK0H.out, ← hDH.out]) h5
                clear h5
                go_wp2_with fail
                go_roundw
                case rel => exact ⟨k + 1, by omega, by go_num, by rw [hF.out.2], hF.out.1⟩
                case measure => simp [intOf]; omega
              · have hKb : ((K : Int) == 0) = false := by simp [hK0]
                by_cases hK1 : K = 1
                · have hKc : ((K : Int) == 1) = true := by simp [hK1]
                  have hK0H : Hid (¬ K = 0) := hK0
                  have hK1H : Hid (K = 1) := hK1
                  clear hK0 hK1
                  have hB1 : Hid _ := vb_bits hVBH.out 6 (by omega) 6 3 rfl 3 rfl (by omega) (by omega)
                  go_wp2_with fail
                  refine Calls.mono hB1.out ?_
                  rintro e w5 ⟨rfl, h5⟩
                  have v0 := h5.v0
                  have v1 := h5.v1
                  obtain ⟨u0, a0'⟩ := h5.a0
                  obtain ⟨u1, a1'⟩ := h5.a1
                  have f0 := h5.f0
                  have f1 := h5.f1
                  have hF : Hid _ := hfin.out _ la w5 (by unfold valStep; rw [if_neg hneH.out, if_neg hK0H.out, if_pos hK1H.out]) h5
                  clear h5
                  go_wp2_with fail
                  go_roundw
                  case rel => exact ⟨k + 1, by omega, by go_num, by rw [hF.out.2], hF.out.1⟩
                  case measure => simp [intOf]; omega
                · have hKc : ((K : Int) == 1) = false := by rw [beq_eq_false_iff_ne]; omega
                  have hK0H : Hid (¬ K = 0) := hK0
                  have hK1H : Hid (¬ K = 1) := hK1
                  clear hK0 hK1
                  have hB1 : Hid _ := vb_bits hVBH.out 7 (by omega) 7 3 rfl 3 rfl (by omega) (by omega)
                  go_wp2_with fail
                  refine Calls.mono hB1.out ?_
                  rintro e w5 ⟨rfl, h5⟩
                  have v0 := h5.v0
                  have v1 := h5.v1
                  obtain ⟨u0, a0'⟩ := h5.a0
                  obtain ⟨u1, a1'⟩ := h5.a1
                  have f0 := h5.f0
                  have f1 := h5.f1
                  have hF : Hid _ := hfin.out _ la w5 (by unfold valStep; rw [if_neg hneH.out, if_neg hK0H.out, if_neg hK1H.out]) h5
                  clear h5
                  go_wp2_with fail
                  go_roundw
                  case rel => exact ⟨k + 1, by omega, by go_num, by rw [hF.out.2], hF.out.1⟩
                  case measure => simp [intOf]; omega
        · obtain rfl : n = k := by omega
          have hkI : ¬ (n : Int) < (n : Int) := by omega
          have hRW := hV.rz.rw
          have hBw := hbwH.out _ hRW.b
          obtain ⟨hCL, v, hWS⟩ := hRW
          have hby : Hid _ := bytesB N w2 _ v _ wr hWS hCL.2.1 (by omega)
          obtain ⟨sl, hsl⟩ : ∃ sl, sl = (valsS kk xx n n).s.1 := ⟨_, rfl⟩
          rw [← hsl] at hby
          have hslH : Hid (sl = (valsS kk xx n n).s.1) := hsl
          obtain ⟨LA, hLA⟩ : ∃ LA, LA = (valsS kk xx n n).la := ⟨_, rfl⟩
          rw [← hLA]
          clear hWS hCL hsl hV hlen hLA
          go_wp2_with fail
          refine Calls.mono hby.out ?_
          rintro e w5 ⟨ga, gc, rfl, hin, hB5⟩
          have hinH : Hid _ := hin
          clear hin
          go_wp2_with fail
          simp [bodyPost, results, Tryd.results5, go_sem]
          refine ⟨Or.inr (Or.inr ⟨by omega, hnr.out, ga, gc, ?_, ?_⟩), below_then hBw hB5⟩
          · rw [hslH.out]
          · rw [← hslH.out]; exact hinH.out
end Go.Proofs.YtfijagdbdbbbpaaDoor
