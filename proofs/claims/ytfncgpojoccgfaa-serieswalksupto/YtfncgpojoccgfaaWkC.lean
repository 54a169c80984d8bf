
import Derived.Test.YtfncgpojoccgfaaWkE
namespace Go.Proofs.Ytfncgpojoccgfaa
open Go.RowKit
set_option linter.unusedVariables false
set_option linter.unusedSimpArgs false
set_option maxRecDepth 100000 in
set_option maxHeartbeats 4000000 in
theorem seriesWalks_walk (a : Option Addr) (cap : Nat) (l : List Smp) (w : World) (h : LIn w a l) (hn : l.length ≤ 1048576) : Calls Try.prog 6 #[.slice a l.length cap] w fun e w' => e = .returned (.bool true) ∧ Below w.heap.size w w' := by
  have hl : Hid _ := live_any w
  have hN : Hid (∀ W, Calls Try.prog 8 #[] W fun e w' => e = .returned (.pointer (some ⟨W.heap.size, 0, none⟩)) ∧ SS W.heap.size W.heap.size (.slice none 0 0) [] w' ∧ Below W.heap.size W w') := new_any
  have hI : Hid (LIn w a l) := h
  obtain ⟨n, hnl⟩ : ∃ n, n = l.length := ⟨_, rfl⟩
  have hnH : Hid (n = l.length) := hnl
  rw [← hnl] at hn ⊢
  clear h hnl
  go_enter Try.func6, Try.ntmps6
  go_wp2_with fail
  refine Calls.mono hl.out ?_
  rintro e w1 ⟨rfl, hB1⟩
  go_wp2_with fail
  refine Calls.mono (hN.out _) ?_
  rintro e w2 ⟨rfl, hS2, hB2⟩
  have hS2H : Hid _ := hS2
  clear hl hS2
  generalize hNN : w1.heap.size = N1 at *
  have hwN : w.heap.size ≤ N1 := by rw [← hNN]; exact hB1.size
  have hB02 : Below w.heap.size w w2 := hB1.trans (hB2.mono (by omega))
  clear hB1 hNN
  have hI2 : Hid (LIn w2 a l) := hI.out.below hB02 (Nat.le_refl _)
  obtain ⟨a3, c3, w3, hr3, hL3, hB3⟩ := copyS w2 a cap l hI2.out (by rw [← hnH.out]; omega)
  rw [← hnH.out] at hr3
  have hr3H : Hid _ := hr3
  have hS3 : Hid (SS N1 N1 (.slice none 0 0) [] w3) := hS2H.out.below hB3
  have hld : Hid _ := load_any N1 N1 (.slice none 0 0) [] l a3 c3 w3 hS3.out hL3 (by simp; rw [← hnH.out]; omega)
  rw [← hnH.out] at hld
  clear hr3 hL3
  go_wp2_with (at_builtin; refine wpList_append_run (by rfl) _ _ _ (by rfl) _ _ _ _ (by rfl) (by rfl) hr3H.out ?_)
  refine Calls.mono hld.out ?_
  rintro e w4 ⟨dv, v1, K, rfl, hKr, hKm, hS4, hF4, hD4, hne, hKn⟩
  generalize hnv : (fun t => (valOf l t).getD (0, 0)) = nv at hS4 hD4
  rw [loadL_nil nv hKr] at hS4
  rw [dlL_nil nv K] at hD4
  obtain ⟨X, hX⟩ : ∃ X, X = smpL nv K := ⟨_, rfl⟩
  obtain ⟨D, hD⟩ : ∃ D : List Dlt, D = K.map (fun t => ⟨t, false, 0, 0, (nv t).1, (nv t).2⟩) := ⟨_, rfl⟩
  rw [← hX] at hS4
  rw [← hD] at hD4
  have hXD : Hid (∀ k, k < X.length → D[k]? = some ⟨(nthS X k).t, false, 0, 0, (nthS X k).k, (nthS X k).x⟩) := by
    intro k hk
    have h1 : K[k]? = some (K.getD k 0) := by rw [hX] at hk; simp [smpL] at hk; rw [List.getD_eq_getElem?_getD, List.getElem?_eq_getElem hk]; rfl
    have h2 := nthS_some hk
    rw [hX] at h2
    unfold smpL at h2
    rw [List.getElem?_map, h1] at h2
    simp at h2
    rw [hD, List.getElem?_map, h1, hX]
    simp [smpL] 
    rw [← h2]
    simp
  have hXr : Hid (Rise X) := by rw [hX]; exact smpL_rise nv hKr
  obtain ⟨m, hm⟩ : ∃ m, m = X.length := ⟨_, rfl⟩
  have hmD : Hid (D.length = m) := by show D.length = m; rw [hm, hX, hD]; simp [smpL]
  have hmn : m ≤ n := by rw [hm, hX]; simpa [smpL] using hKn
  obtain ⟨da, dc, hdv⟩ : ∃ da dc, dv = .slice da m dc := by
    rcases hD4.2 with ⟨e, e0⟩ | ⟨g, cap, cur, e, _⟩
    · exact ⟨none, 0, by rw [e, ← hmD.out, e0]⟩
    · exact ⟨_, cap, by rw [e, ← hmD.out]⟩
  have hmH : Hid (m = X.length) := hm
  have hdl : Hid (∀ g, dv.ownBlock = some g → g < w4.heap.size) := fun g e => (hD4.lt g e).2
  have hS4H : Hid (SS N1 N1 v1 X w4) := hS4
  have hD4H : Hid (w4.ownsRow w3.heap.size 50 10 dv D.length (encD D)) := hD4
  have hagain : Hid (dlL (fun t => (valOf l t).getD (0, 0)) X K = []) := by rw [hX, hnv]; exact dlL_again nv hKr
  have hKH : Hid (K.Pairwise (· < ·) ∧ ∀ t, t ∈ K ↔ (valOf l t).isSome = true) := ⟨hKr, hKm⟩
  have hB04 : Below w.heap.size w w4 := (hB02.trans (hB3.mono hB02.size)).trans ((hF4.below hS3.out).mono hwN)
  have hI4 : Hid (LIn w4 a l) := hI.out.below hB04 (Nat.le_refl _)
  clear hKr hKm hS4 hD4 hne hKn hX hD hnv hm hF4 hS3 hB3 hS2H hld hr3H hB2 hB02
  go_wp2_with fail
  refine Calls.mono (hN.out _) ?_
  rintro e w5 ⟨rfl, hT5, hB5⟩
  obtain ⟨T, hT⟩ : ∃ T, T = w4.heap.size := ⟨_, rfl⟩
  have hTH : Hid (T = w4.heap.size) := hT
  rw [← hT] at hT5 hB5 ⊢
  have hT5H : Hid (SS T T (.slice none 0 0) [] w5) := hT5
  have hN1T : N1 < T := by rw [hT]; exact hS4H.out.hN
  have hv1T : Hid (∀ g, v1.ownBlock = some g → g < T) := fun g e => by rw [hTH.out]; exact hS4H.out.row.lt e
  have hSw : Hid (∀ W, Below T w4 W → SS N1 N1 v1 X W) := fun W hW => hS4H.out.tail hW hN1T hv1T.out
  have hTl : T < w5.heap.size := hT5.hN
  have hfirst : Hid (Calls Try.prog 16 #[.pointer (some ⟨N1, 0, none⟩)] w5 fun e w' => e = .returned (.tuple #[.agg #[.int .i64 (nthS X 0).t, .int .u8 ((nthS X 0).k : Int), .int .i64 (nthS X 0).x], .bool (decide (0 < m))]) ∧ Below w5.heap.size w5 w') := by
    have := first_any N1 N1 v1 X w5 (hSw.out _ hB5)
    rw [show (0 : Int) = ((0 : Nat) : Int) from rfl, numV_nat, ← hmH.out] at this
    exact this
  clear hT5 hN hT
  go_wp2_with fail
  refine Calls.mono hfirst.out ?_
  rintro e w6 ⟨rfl, hB6⟩
  clear hfirst
  go_wp2_with fail
  obtain ⟨xb, hxb⟩ : ∃ xb, xb = w6.heap.size := ⟨_, rfl⟩
  have hw56 : w5.heap.size ≤ w6.heap.size := hB6.size
  have hst : Hid (WkS T xb X w4 (w6.alloc (.cells #[.int .i64 (nthS X 0).t, .int .u8 ((nthS X 0).k : Int), .int .i64 (nthS X 0).x] 43)) (.slice none 0 0) 0 ∧ XC xb (nthS X 0) (w6.alloc (.cells #[.int .i64 (nthS X 0).t, .int .u8 ((nthS X 0).k : Int), .int .i64 (nthS X 0).x] 43))) := by
    have hS6 := (hT5H.out.below hB6).alloc (.cells #[.int .i64 (nthS X 0).t, .int .u8 ((nthS X 0).k : Int), .int .i64 (nthS X 0).x] 43)
    refine ⟨⟨by rw [List.take_zero]; exact hS6, by simp [Value.ownBlock], (hB5.trans (hB6.mono (by omega))).alloc (by omega) _, by omega, by simp; omega⟩, ?_⟩
    rw [hxb]
    exact ⟨by simp [go_sem], by simp [go_sem], by simp [go_sem], frozen_new _ _ _ _, frozen_new _ _ _ _, frozen_new _ _ _ _⟩
  rw [← hxb]
  have hTx : T < xb := by omega
  clear hB6 hB5 hT5H hxb hw56 hTl
  have hlen1 : Hid (∀ W, Below T w4 W → Calls Try.prog 19 #[.pointer (some ⟨N1, 0, none⟩)] W fun e w' => e = .returned (.int .i64 (m : Int)) ∧ w' = W) := fun W hb => by
    have := len_any N1 N1 v1 X W (hSw.out W hb)
    rw [← hmH.out] at this
    exact this
  have hlen2 : Hid (∀ W v, SS T T v (X.take m) W → Calls Try.prog 19 #[.pointer (some ⟨T, 0, none⟩)] W fun e w' => e = .returned (.int .i64 (m : Int)) ∧ w' = W) := fun W v hS => by
    have := len_any T T v (X.take m) W hS
    rw [List.length_take, ← hmH.out, Nat.min_self] at this
    exact this
  have hlast : Hid (∀ W, Below T w4 W → Calls Try.prog 20 #[.pointer (some ⟨N1, 0, none⟩)] W fun e w' => e = .returned (.tuple #[.agg #[.int .i64 (preS X m).t, .int .u8 ((preS X m).k : Int), .int .i64 (preS X m).x], .bool (decide (0 < m))]) ∧ Below W.heap.size W w') := fun W hb => last_pre N1 N1 v1 X W (hSw.out W hb) m hmH.out
  have hbef : Hid (∀ W j, j < m → Below T w4 W → Calls Try.prog 21 #[.pointer (some ⟨N1, 0, none⟩), .int .i64 (nthS X j).t] W fun e w' => e = .returned (.tuple #[.agg #[.int .i64 (preS X j).t, .int .u8 ((preS X j).k : Int), .int .i64 (preS X j).x], .bool (decide (0 < j))]) ∧ Below W.heap.size W w') := fun W j hj hb => before_pre N1 N1 v1 X W (hSw.out W hb) j (by rw [← hmH.out]; exact hj)
  go_loopw [6, 8] (fun i ok wr => ∃ (k : Nat) (v2 : Value), k ≤ m ∧ i = .int .i64 (k : Int) ∧ ok = .bool (decide (k < m)) ∧ Hid (WkS T xb X w4 wr v2 k ∧ XC xb (nthS X k) wr)) (fun i _ _ => m - (intOf i).toNat)
  case atStart => exact ⟨0, .slice none 0 0, by omega, rfl, rfl, hst.out⟩
  case round =>
    obtain ⟨k, v2, hk, rfl, rfl, hW⟩ := hrel
    clear hst
    by_cases hkm : k < m
    · have hkI : (k : Int) < (m : Int) := by omega
      have hkn : (k : Int) ≤ (n : Int) := by omega
      have k0 : (0 : Int) ≤ (k : Int) := by omega
      have hdt : decide (k < m) = true := decide_eq_true hkm
      rw [hdt]
      have hXk : Hid (X[k]? = some (nthS X k)) := nthS_some (by rw [← hmH.out]; exact hkm)
      obtain ⟨g, gc, hdg, hgT, hgc⟩ := dl_cells (T := T) hD4H.out (fun g e => by rw [hTH.out]; exact hdl.out g e) hW.out.1.b (hXD.out k (by rw [← hmH.out]; exact hkm))
      rw [hdv] at hdg
      obtain ⟨rfl, rfl⟩ : da = some ⟨g, 0, none⟩ ∧ dc = gc := by injection hdg with e1 e2 e3; exact ⟨e1, e3⟩
      have d3 : wr.cell? ⟨g, k * 10 + 3, none⟩ = some (.int .i64 (nthS X k).t) := hgc 3 (by omega)
      have d4 : wr.cell? ⟨g, k * 10 + 4, none⟩ = some (.bool false) := hgc 4 (by omega)
      have d5 : wr.cell? ⟨g, k * 10 + 5, none⟩ = some (.bool true) := hgc 5 (by omega)
      have d8 : wr.cell? ⟨g, k * 10 + 8, none⟩ = some (.int .u8 ((nthS X k).k : Int)) := hgc 8 (by omega)
      have d9 : wr.cell? ⟨g, k * 10 + 9, none⟩ = some (.int .i64 (nthS X k).x) := hgc 9 (by omega)
      have x0 := hW.out.2.c0
      have x1 := hW.out.2.c1
      have x2 := hW.out.2.c2
      have hsok : (nthS X k).ok := hS4H.out.hk _ (List.mem_of_getElem? hXk.out)
      have hput : Hid (∀ W, SS T T v2 (X.take k) W → Calls Try.prog 17 #[.pointer (some ⟨T, 0, none⟩), .int .i64 (nthS X k).t, .agg #[.int .u8 ((nthS X k).k : Int), .int .i64 (nthS X k).x]] W fun e w' => ∃ o1 o2 o3, e = .returned (.tuple #[.agg #[.int .u8 o1, .int .i64 o2], .bool o3]) ∧ ∃ v', SS T T v' (X.take (k + 1)) w' ∧ SFr T v2 v' W w') := fun W hS => by
        have := put_any T T v2 (X.take k) W hS (nthS X k) hsok (by rw [List.length_take]; omega)
        rw [putL_next hXr.out hXk.out] at this
        exact Calls.mono this (by rintro e w' ⟨rfl, v', h1, h2⟩; exact ⟨_, _, _, rfl, v', h1, h2⟩)
      clear hgc hdg hdt
      go_wp2_with fail
      have hmk : decide (m ≤ k) = false := decide_eq_false (by omega)
      go_quiet (fail)
      obtain ⟨wq, hwq⟩ : ∃ W, W = wr.drewN nq := ⟨_, rfl⟩
      rw [← hwq]
      have hWq : Hid (WkS T xb X w4 wq v2 k ∧ XC xb (nthS X k) wq) := by
        rw [hwq]
        exact ⟨hW.out.1.below (below_drewN (Below.refl _ _) _) (by have := hW.out.1.hx; have := hW.out.1.hl; omega), hW.out.2.keep rfl⟩
      clear hW d3 d4 d5 d8 d9 x0 x1 x2 hwq
      have x0 := hWq.out.2.c0
      have x1 := hWq.out.2.c1
      have x2 := hWq.out.2.c2
      go_wp2_with fail
      refine Calls.mono (hput.out _ hWq.out.1.s2) ?_
      rintro e w7 ⟨o1, o2, o3, rfl, v', hSp, hFp⟩
      have hWp : Hid (WkS T xb X w4 w7 v' (k + 1) ∧ XC xb (nthS X k) w7) := ⟨(hWq.out.1.put hSp hFp).1, hWq.out.2.keep (hWq.out.1.put hSp hFp).2⟩
      clear hWq x0 x1 x2 hSp hFp hput
      have x0 := hWp.out.2.c0
      have x1 := hWp.out.2.c1
      have x2 := hWp.out.2.c2
      obtain ⟨hs0, _, _⟩ := hsok
      by_cases htop : (nthS X k).t = 9223372036854775807
      · have hend : k + 1 = m := by
          rcases Nat.lt_or_ge (k + 1) m with h | h
          · have h0 : X[k + 1]? = some (nthS X (k + 1)) := nthS_some (by rw [← hmH.out]; exact h)
            have h1 := hXr.out.lt (Nat.lt_succ_self k) hXk.out h0
            have h2 := (hS4H.out.hk _ (List.mem_of_getElem? h0)).1
            omega
          · omega
        have hendI : (k : Int) + 1 = (m : Int) := by omega
        obtain ⟨wt, hwt⟩ : ∃ W, W = w7 := ⟨_, rfl⟩
        obtain ⟨v2t, hv2t⟩ : ∃ v, v = v' := ⟨_, rfl⟩
        obtain ⟨sx, hsx⟩ : ∃ s, s = nthS X k := ⟨_, rfl⟩
        have hWt : Hid (WkS T xb X w4 wt v2t m ∧ XC xb sx wt) := by rw [hwt, hv2t, hsx, ← hend]; exact hWp
        rw [← hwt] at x0 x1 x2 ⊢
        clear hwt hv2t hsx hWp hXk
        generalize hda : (some (⟨g, 0, none⟩ : Addr)) = da at hdv ⊢
        clear hda
        go_wp2_with fail
        clear x0 x1 x2 htop hs0 hend hendI
        refine Calls.mono (hlen1.out _ hWt.out.1.b) ?_
        rintro e w9 ⟨rfl, hw9⟩
        rw [hw9]
        clear hw9 w9
        go_wp2_with fail
        refine Calls.mono (hlen2.out _ _ hWt.out.1.s2) ?_
        rintro e w9 ⟨rfl, hw9⟩
        rw [hw9]
        clear hw9 w9 hlen1 hlen2
        go_wp2_with fail
        refine Calls.mono (hlast.out _ hWt.out.1.b) ?_
        rintro e w9 ⟨rfl, hB9⟩
        have hWl : Hid (WkS T xb X w4 w9 v2t m ∧ XC xb sx w9) := ⟨hWt.out.1.below hB9 (by have := hWt.out.1.hx; have := hWt.out.1.hl; omega), hWt.out.2.keep (hB9.block _ hWt.out.1.hl)⟩
        clear hWt hB9 hlast
        have x0 := hWl.out.2.c0
        have x1 := hWl.out.2.c1
        have x2 := hWl.out.2.c2
        have f0 := hWl.out.2.f0
        have f1 := hWl.out.2.f1
        have f2 := hWl.out.2.f2
        go_wp2_with fail
        have hst2 : Hid _ := hWl.out.1.lay0 hWl.out.2 (preS X m)
        clear hWl x0 x1 x2 f0 f1 f2
        go_loopw [6, 8] (fun i ok wr => ∃ k : Nat, k ≤ m ∧ i = .int .i64 (k : Int) ∧ ok = .bool (decide (0 < k)) ∧ Hid (WkS T xb X w4 wr v2t m ∧ XC xb (preS X k) wr)) (fun i _ _ => (intOf i).toNat)
        case atStart => exact ⟨m, Nat.le_refl _, rfl, rfl, hst2.out⟩
        case round =>
          obtain ⟨k, hk, rfl, rfl, hW⟩ := hrel
          clear hst2
          cases k with
          | zero =>
            have hdz : decide (0 < 0) = false := rfl
            rw [hdz]
            go_wp2_with fail
            have hr1 : Hid _ := range_lin N1 N1 v1 X wr (hSw.out _ hW.out.1.b) (-9223372036854775808) 9223372036854775807
            refine Calls.mono hr1.out ?_
            rintro e wA ⟨ra1, rc1, rfl, hLA, hBA⟩
            have hWA : Hid (SS T T v2t X wA) := by
              have := hW.out.1.s2.below hBA
              rw [hmH.out, List.take_length] at this
              exact this
            have hB0A : Below w.heap.size w wA := (hB04.trans (hW.out.1.b.mono (by omega))).trans (hBA.mono (by have := hB04.size; have := hW.out.1.b.size; omega))
            have hTA : T < wA.heap.size := hWA.out.hN
            have hLAH : Hid (LIn wA ra1 (rangeL X (-9223372036854775808) 9223372036854775807)) := hLA
            have hRl := rangeL_len X (-9223372036854775808) 9223372036854775807
            rw [← hmH.out] at hRl
            generalize hR : rangeL X (-9223372036854775808) 9223372036854775807 = R at hLAH hRl ⊢
            have hRH : Hid (rangeL X (-9223372036854775808) 9223372036854775807 = R) := hR
            obtain ⟨q, hq⟩ : ∃ q, q = R.length := ⟨_, rfl⟩
            have hqH : Hid (q = R.length) := hq
            rw [← hq] at hRl ⊢
            clear hr1 hLA hR hW hBA hq
            go_wp2_with fail
            have hr2 : Hid _ := range_lin T T v2t X wA hWA.out (-9223372036854775808) 9223372036854775807
            rw [hRH.out, ← hqH.out] at hr2
            refine Calls.mono hr2.out ?_
            rintro e wB ⟨ra2, rc2, rfl, hLB, hBB⟩
            have hWB : Hid (SS T T v2t X wB) := hWA.out.below hBB
            have hsm : Hid _ := sameS_any ra1 ra2 rc1 rc2 R wB (hLAH.out.below hBB (Nat.le_refl _)) hLB (by rw [← hqH.out]; omega)
            rw [← hqH.out] at hsm
            have hB0B : Below w.heap.size w wB := hB0A.trans (hBB.mono hB0A.size)
            clear hr2 hLB hLAH hBB hWA hB0A
            go_wp2_with fail
            refine Calls.mono hsm.out ?_
            rintro e wC ⟨rfl, hBC⟩
            have hWC : Hid (SS T T v2t X wC) := hWB.out.below hBC
            have hB0C : Below w.heap.size w wC := hB0B.trans (hBC.mono hB0B.size)
            have hIC : Hid (LIn wC a l) := hI.out.below hB0C (Nat.le_refl _)
            obtain ⟨a9, c9, w9, hr9, hL9, hB9⟩ := copyS wC a cap l hIC.out (by rw [← hnH.out]; omega)
            have hW9 : Hid (SS T T v2t X w9) := hWC.out.below hB9
            have hld : Hid _ := load_again T T v2t X l a9 c9 w9 hW9.out hL9 (by rw [← hmH.out, ← hnH.out]; omega) K hKH.out hagain.out
            rw [← hnH.out] at hr9 hld
            have hr9H : Hid _ := hr9
            have hB09 : Below w.heap.size w w9 := hB0C.trans (hB9.mono hB0C.size)
            clear hsm hBC hWB hWC hB0B hB0C hL9 hr9 hB9
            go_wp2_with (at_builtin; refine wpList_append_open (by first | rfl | simp [Region.wanted, yielded]) _ _ _ (by rfl) _ _ _ _ (by rfl) (by rfl) hr9H.out ?_)
            refine Calls.mono hld.out ?_
            rintro e wE ⟨a', c', rfl, hBE⟩
            go_wp2_with fail
            go_ret
            exact ⟨rfl, hB09.trans (hBE.mono (by omega))⟩
          | succ j =>
            have hjm : j < m := by omega
            have hjI : (j : Int) < (m : Int) := by omega
            have hjn : (j : Int) ≤ (n : Int) := by omega
            have j0 : (0 : Int) ≤ (j : Int) := by omega
            have hdt : decide (0 < j + 1) = true := decide_eq_true (by omega)
            rw [hdt]
            have ecast : ((j + 1 : Nat) : Int) = (j : Int) + 1 := by omega
            rw [ecast]
            rw [preS_succ] at hW
            obtain ⟨g2, gc2, hdg2, hgT2, hgc2⟩ := dl_cells (T := T) hD4H.out (fun g e => by rw [hTH.out]; exact hdl.out g e) hW.out.1.b (hXD.out j (by rw [← hmH.out]; exact hjm))
            have hda2 : da = some ⟨g2, 0, none⟩ := by rw [hdv] at hdg2; injection hdg2
            rw [hda2]
            have d3 : wr.cell? ⟨g2, j * 10 + 3, none⟩ = some (.int .i64 (nthS X j).t) := hgc2 3 (by omega)
            have x0 := hW.out.2.c0
            clear hgc2 hdg2 hdt
            go_wp2_with fail
            go_quiet (fail)
            obtain ⟨wq, hwq⟩ : ∃ W, W = wr.drewN nq := ⟨_, rfl⟩
            rw [← hwq]
            have hWq : Hid (WkS T xb X w4 wq v2t m ∧ XC xb (nthS X j) wq) := by
              rw [hwq]
              exact ⟨hW.out.1.below (below_drewN (Below.refl _ _) _) (by have := hW.out.1.hx; have := hW.out.1.hl; omega), hW.out.2.keep rfl⟩
            clear hW d3 x0 hwq
            have x0 := hWq.out.2.c0
            go_wp2_with fail
            refine Calls.mono (hbef.out _ j hjm hWq.out.1.b) ?_
            rintro e w10 ⟨rfl, hB10⟩
            have hWl : Hid (WkS T xb X w4 w10 v2t m ∧ XC xb (nthS X j) w10) := ⟨hWq.out.1.below hB10 (by have := hWq.out.1.hx; have := hWq.out.1.hl; omega), hWq.out.2.keep (hB10.block _ hWq.out.1.hl)⟩
            clear hWq hB10 x0
            have x0 := hWl.out.2.c0
            have x1 := hWl.out.2.c1
            have x2 := hWl.out.2.c2
            have f0 := hWl.out.2.f0
            have f1 := hWl.out.2.f1
            have f2 := hWl.out.2.f2
            go_wp2_with fail
            refine ⟨⟨j, by omega, rfl, rfl, hWl.out.1.lay0 hWl.out.2 (preS X j)⟩, by simp [intOf]⟩
      · have hbeh : Hid (Calls Try.prog 18 #[.pointer (some ⟨N1, 0, none⟩), .int .i64 ((nthS X k).t + 1)] w7 fun e w' => e = .returned (.tuple #[.agg #[.int .i64 (nthS X (k + 1)).t, .int .u8 ((nthS X (k + 1)).k : Int), .int .i64 (nthS X (k + 1)).x], .bool (decide (k + 1 < m))]) ∧ Below w7.heap.size w7 w') := by
          have := behind_any N1 N1 v1 X ((nthS X k).t + 1) w7 (hSw.out _ hWp.out.1.b)
          rw [ahd_next hXr.out hXk.out, numV_nat, ← hmH.out] at this
          exact this
        have hrise : Hid (k + 1 < m → (nthS X k).t < (nthS X (k + 1)).t) := fun h => hXr.out.lt (Nat.lt_succ_self k) hXk.out (nthS_some (by rw [← hmH.out]; exact h))
        obtain ⟨s1, hs1⟩ : ∃ s, s = nthS X (k + 1) := ⟨_, rfl⟩
        rw [← hs1] at hbeh hrise
        have hs1H : Hid (s1 = nthS X (k + 1)) := hs1
        clear hs1
        go_wp2_with fail
        refine Calls.mono hbeh.out ?_
        rintro e w8 ⟨rfl, hB8⟩
        have hWb : Hid (WkS T xb X w4 w8 v' (k + 1) ∧ XC xb (nthS X k) w8) := ⟨hWp.out.1.below hB8 (by have := hWp.out.1.hx; have := hWp.out.1.hl; omega), hWp.out.2.keep (hB8.block _ hWp.out.1.hl)⟩
        clear hbeh x0 x1 x2 hB8 hWp
        have x0 := hWb.out.2.c0
        have x1 := hWb.out.2.c1
        have x2 := hWb.out.2.c2
        have f0 := hWb.out.2.f0
        have f1 := hWb.out.2.f1
        have f2 := hWb.out.2.f2
        have hxl := hWb.out.1.hl
        have hne8 : xb ≠ w8.heap.size := by omega
        by_cases hmore : k + 1 < m
        · have hlt := hrise.out hmore
          have hmd : decide (k + 1 < m) = true := decide_eq_true hmore
          rw [hmd]
          go_wp2_with fail
          refine ⟨⟨k + 1, v', by omega, by push_cast; rfl, by rw [hmd], ?_⟩, by simp [intOf]; omega⟩
          rw [← hs1H.out]
          exact hWb.out.1.lay hWb.out.2 s1 _
        · have hmd : decide (k + 1 < m) = false := decide_eq_false hmore
          rw [hmd]
          go_wp2_with fail
          refine ⟨⟨k + 1, v', by omega, by push_cast; rfl, by rw [hmd], ?_⟩, by simp [intOf]; omega⟩
          rw [← hs1H.out]
          exact hWb.out.1.lay hWb.out.2 s1 _
    · obtain rfl : m = k := by omega
      have hdf : decide (m < m) = false := decide_eq_false (by omega)
      rw [hdf]
      obtain ⟨wt, hwt⟩ : ∃ W, W = wr := ⟨_, rfl⟩
      obtain ⟨v2t, hv2t⟩ : ∃ v, v = v2 := ⟨_, rfl⟩
      obtain ⟨sx, hsx⟩ : ∃ s, s = nthS X m := ⟨_, rfl⟩
      have hWt : Hid (WkS T xb X w4 wt v2t m ∧ XC xb sx wt) := by rw [hwt, hv2t, hsx]; exact hW
      rw [← hwt]
      clear hwt hv2t hsx hW
      go_wp2_with fail
      refine Calls.mono (hlen1.out _ hWt.out.1.b) ?_
      rintro e w9 ⟨rfl, hw9⟩
      rw [hw9]
      clear hw9 w9
      go_wp2_with fail
      refine Calls.mono (hlen2.out _ _ hWt.out.1.s2) ?_
      rintro e w9 ⟨rfl, hw9⟩
      rw [hw9]
      clear hw9 w9 hlen1 hlen2
      go_wp2_with fail
      refine Calls.mono (hlast.out _ hWt.out.1.b) ?_
      rintro e w9 ⟨rfl, hB9⟩
      have hWl : Hid (WkS T xb X w4 w9 v2t m ∧ XC xb sx w9) := ⟨hWt.out.1.below hB9 (by have := hWt.out.1.hx; have := hWt.out.1.hl; omega), hWt.out.2.keep (hB9.block _ hWt.out.1.hl)⟩
      clear hWt hB9 hlast
      have x0 := hWl.out.2.c0
      have x1 := hWl.out.2.c1
      have x2 := hWl.out.2.c2
      have f0 := hWl.out.2.f0
      have f1 := hWl.out.2.f1
      have f2 := hWl.out.2.f2
      go_wp2_with fail
      have hst2 : Hid _ := hWl.out.1.lay0 hWl.out.2 (preS X m)
      clear hWl x0 x1 x2 f0 f1 f2
      go_loopw [6, 8] (fun i ok wr => ∃ k : Nat, k ≤ m ∧ i = .int .i64 (k : Int) ∧ ok = .bool (decide (0 < k)) ∧ Hid (WkS T xb X w4 wr v2t m ∧ XC xb (preS X k) wr)) (fun i _ _ => (intOf i).toNat)
      case atStart => exact ⟨m, Nat.le_refl _, rfl, rfl, hst2.out⟩
      case round =>
        obtain ⟨k, hk, rfl, rfl, hW⟩ := hrel
        clear hst2
        cases k with
        | zero =>
          have hdz : decide (0 < 0) = false := rfl
          rw [hdz]
          go_wp2_with fail
          have hr1 : Hid _ := range_lin N1 N1 v1 X wr (hSw.out _ hW.out.1.b) (-9223372036854775808) 9223372036854775807
          refine Calls.mono hr1.out ?_
          rintro e wA ⟨ra1, rc1, rfl, hLA, hBA⟩
          have hWA : Hid (SS T T v2t X wA) := by
            have := hW.out.1.s2.below hBA
            rw [hmH.out, List.take_length] at this
            exact this
          have hB0A : Below w.heap.size w wA := (hB04.trans (hW.out.1.b.mono (by omega))).trans (hBA.mono (by have := hB04.size; have := hW.out.1.b.size; omega))
          have hTA : T < wA.heap.size := hWA.out.hN
          have hLAH : Hid (LIn wA ra1 (rangeL X (-9223372036854775808) 9223372036854775807)) := hLA
          have hRl := rangeL_len X (-9223372036854775808) 9223372036854775807
          rw [← hmH.out] at hRl
          generalize hR : rangeL X (-9223372036854775808) 9223372036854775807 = R at hLAH hRl ⊢
          have hRH : Hid (rangeL X (-9223372036854775808) 9223372036854775807 = R) := hR
          obtain ⟨q, hq⟩ : ∃ q, q = R.length := ⟨_, rfl⟩
          have hqH : Hid (q = R.length) := hq
          rw [← hq] at hRl ⊢
          clear hr1 hLA hR hW hBA hq
          go_wp2_with fail
          have hr2 : Hid _ := range_lin T T v2t X wA hWA.out (-9223372036854775808) 9223372036854775807
          rw [hRH.out, ← hqH.out] at hr2
          refine Calls.mono hr2.out ?_
          rintro e wB ⟨ra2, rc2, rfl, hLB, hBB⟩
          have hWB : Hid (SS T T v2t X wB) := hWA.out.below hBB
          have hsm : Hid _ := sameS_any ra1 ra2 rc1 rc2 R wB (hLAH.out.below hBB (Nat.le_refl _)) hLB (by rw [← hqH.out]; omega)
          rw [← hqH.out] at hsm
          have hB0B : Below w.heap.size w wB := hB0A.trans (hBB.mono hB0A.size)
          clear hr2 hLB hLAH hBB hWA hB0A
          go_wp2_with fail
          refine Calls.mono hsm.out ?_
          rintro e wC ⟨rfl, hBC⟩
          have hWC : Hid (SS T T v2t X wC) := hWB.out.below hBC
          have hB0C : Below w.heap.size w wC := hB0B.trans (hBC.mono hB0B.size)
          have hIC : Hid (LIn wC a l) := hI.out.below hB0C (Nat.le_refl _)
          obtain ⟨a9, c9, w9, hr9, hL9, hB9⟩ := copyS wC a cap l hIC.out (by rw [← hnH.out]; omega)
          have hW9 : Hid (SS T T v2t X w9) := hWC.out.below hB9
          have hld : Hid _ := load_again T T v2t X l a9 c9 w9 hW9.out hL9 (by rw [← hmH.out, ← hnH.out]; omega) K hKH.out hagain.out
          rw [← hnH.out] at hr9 hld
          have hr9H : Hid _ := hr9
          have hB09 : Below w.heap.size w w9 := hB0C.trans (hB9.mono hB0C.size)
          clear hsm hBC hWB hWC hB0B hB0C hL9 hr9 hB9
          go_wp2_with (at_builtin; refine wpList_append_open (by first | rfl | simp [Region.wanted, yielded]) _ _ _ (by rfl) _ _ _ _ (by rfl) (by rfl) hr9H.out ?_)
          refine Calls.mono hld.out ?_
          rintro e wE ⟨a', c', rfl, hBE⟩
          go_wp2_with fail
          go_ret
          exact ⟨rfl, hB09.trans (hBE.mono (by omega))⟩
        | succ j =>
          have hjm : j < m := by omega
          have hjI : (j : Int) < (m : Int) := by omega
          have hjn : (j : Int) ≤ (n : Int) := by omega
          have j0 : (0 : Int) ≤ (j : Int) := by omega
          have hdt : decide (0 < j + 1) = true := decide_eq_true (by omega)
          rw [hdt]
          have ecast : ((j + 1 : Nat) : Int) = (j : Int) + 1 := by omega
          rw [ecast]
          rw [preS_succ] at hW
          obtain ⟨g2, gc2, hdg2, hgT2, hgc2⟩ := dl_cells (T := T) hD4H.out (fun g e => by rw [hTH.out]; exact hdl.out g e) hW.out.1.b (hXD.out j (by rw [← hmH.out]; exact hjm))
          have hda2 : da = some ⟨g2, 0, none⟩ := by rw [hdv] at hdg2; injection hdg2
          rw [hda2]
          have d3 : wr.cell? ⟨g2, j * 10 + 3, none⟩ = some (.int .i64 (nthS X j).t) := hgc2 3 (by omega)
          have x0 := hW.out.2.c0
          clear hgc2 hdg2 hdt
          go_wp2_with fail
          go_quiet (fail)
          obtain ⟨wq, hwq⟩ : ∃ W, W = wr.drewN nq := ⟨_, rfl⟩
          rw [← hwq]
          have hWq : Hid (WkS T xb X w4 wq v2t m ∧ XC xb (nthS X j) wq) := by
            rw [hwq]
            exact ⟨hW.out.1.below (below_drewN (Below.refl _ _) _) (by have := hW.out.1.hx; have := hW.out.1.hl; omega), hW.out.2.keep rfl⟩
          clear hW d3 x0 hwq
          have x0 := hWq.out.2.c0
          go_wp2_with fail
          refine Calls.mono (hbef.out _ j hjm hWq.out.1.b) ?_
          rintro e w10 ⟨rfl, hB10⟩
          have hWl : Hid (WkS T xb X w4 w10 v2t m ∧ XC xb (nthS X j) w10) := ⟨hWq.out.1.below hB10 (by have := hWq.out.1.hx; have := hWq.out.1.hl; omega), hWq.out.2.keep (hB10.block _ hWq.out.1.hl)⟩
          clear hWq hB10 x0
          have x0 := hWl.out.2.c0
          have x1 := hWl.out.2.c1
          have x2 := hWl.out.2.c2
          have f0 := hWl.out.2.f0
          have f1 := hWl.out.2.f1
          have f2 := hWl.out.2.f2
          go_wp2_with fail
          refine ⟨⟨j, by omega, rfl, rfl, hWl.out.1.lay0 hWl.out.2 (preS X j)⟩, by simp [intOf]⟩
end Go.Proofs.Ytfncgpojoccgfaa
