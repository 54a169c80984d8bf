
import Derived.Test.YtipahdplkmmofaaGreatDoorSxB
import Derived.Test.YtipahdplkmmofaaGreatDoorSxA
import Derived.Test.YtipahdplkmmofaaGreatDoorSxD
import Derived.Test.YtipahdplkmmofaaGreatDoorSpLv
import Derived.Test.YtipahdplkmmofaaGreatDoorSame
import Derived.Test.YtipahdplkmmofaaGreatDoorSameDq
namespace Go.Proofs.YtipahdplkmmofaaGreatDoor
open Go.RowKit
set_option linter.unusedVariables false
set_option linter.unusedSimpArgs false
theorem fracR_le {l : List UInt8} {a a' : Nat} {ok ok' : Bool} {v : Int} (h : fracR l a ok = (a', ok', v)) (ha : a ≤ l.length) : a' ≤ l.length := by
  unfold fracR at h
  repeat' split at h
  all_goals simp only [Prod.mk.injEq] at h
  all_goals obtain ⟨rfl, _, _⟩ := h
  · exact ha
  · rename_i _ h2 h3 _ _
    have h9 : 0 < (l.drop a).length := by
      cases e : l.drop a with
      | nil => rw [e] at h2; simp at h2
      | cons => simp
    have := cnt_le (l.drop (a + 1))
    simp only [List.length_drop] at h9 this
    omega
  · exact ha
  · exact ha
theorem zero_step (T : List UInt8) (k : Nat) : valF 0 (T ++ List.replicate (k + 1) 48) = 10 * valF 0 (T ++ List.replicate k 48) := by
  rw [List.replicate_succ', ← List.append_assoc, valF_snoc]
  show _ * 10 + (((48 : UInt8).toNat : Int) - 48) = _
  rw [show ((48 : UInt8).toNat : Int) = 48 from rfl]; omega
set_option maxRecDepth 100000 in
set_option maxHeartbeats 4000000 in
theorem rfrac_any (C : Nat) (s : ByteArray) (hs : s.size ≤ 281474976710656) (a : Nat) (ok : Bool) (ha : a ≤ s.size) (a' : Nat) (ok' : Bool) (v : Int) (h : fracR s.data.toList a ok = (a', ok', v)) (W : World) (hC : CL W C s a ok) :
    Calls Tryz.prog 42 #[.pointer (some ⟨C, 0, none⟩)] W fun e w' => e = .returned (.int .i64 v) ∧ CL w' C s a' ok' ∧ W.grownBy w' (some C) := by
  have HH : Hid (CL W C s a ok) := hC
  obtain ⟨h0, ⟨h1, h2, h3, h4, h5, h6, h7⟩, f1, f2, f3, f4, f5, f6⟩ := hC
  cases ok with
  | false =>
    rw [fracR_no] at h
    simp only [Prod.mk.injEq] at h
    obtain ⟨rfl, rfl, rfl⟩ := h
    have e3 : bcK false = 41 := rfl
    rw [e3] at h3
    clear e3
    go_enter Tryz.func42, Tryz.ntmps42
    go_wp2_with fail
    go_quiet (fail)
    have KQ := HH.out.keep (below_drewN (Below.refl W.heap.size W) nq) HH.out.1
    have GQ := grown_of_below C (below_drewN (Below.refl W.heap.size W) nq)
    go_wp2_with fail
    go_ret
    exact ⟨rfl, KQ, GQ⟩
  | true =>
    have e3 : bcK true = 0 := rfl
    rw [e3] at h3
    clear e3
    unfold fracR at h
    rw [if_pos rfl] at h
    have WR := fun W hW => wrong_any C s a ha W hW
    by_cases c1 : a < s.size
    · rw [head4_at s a c1] at h
      have hd : decide ((s.size : Int) ≤ (a : Int)) = false := decide_eq_false (by omega)
      have hdN : decide (s.size ≤ a) = false := decide_eq_false (by omega)
      have hi1 : (a : Int) < (s.size : Int) := by omega
      have hi0 : (0 : Int) ≤ (a : Int) := by omega
      by_cases c2 : s[a] = 46
      · rw [if_pos (by rw [c2])] at h
        have hb : (((s[a]).toNat : Int) != 46) = false := byteq4 c2
        clear c2
        go_enter Tryz.func42, Tryz.ntmps42
        go_wp2_with fail
        go_quiet (fail)
        have KQ := HH.out.keep (below_drewN (Below.refl W.heap.size W) nq) HH.out.1
        have GQ := grown_of_below C (below_drewN (Below.refl W.heap.size W) nq)
        generalize W.drewN nq = wq at *
        have HQ : Hid (CL wq C s a true) := KQ
        obtain ⟨_, ⟨k1, k2, k3, k4, k5, k6, k7⟩, g1, g2, g3, g4, g5, g6⟩ := KQ
        clear h1 h2 h3 h4 h5 h6 h7 f1 f2 f3 f4 f5 f6 HH
        obtain ⟨Y, hY⟩ : ∃ Y, s.data.toList.drop (a + 1) = Y := ⟨_, rfl⟩
        rw [hY] at h
        have HYl : Hid (Y.length = s.size - (a + 1)) := by show _ = _; rw [← hY, List.length_drop, sz_list]
        have HG : Hid (∀ (q : Nat) (h : q < Y.length) (h' : a + 1 + q < s.size), Y[q] = s[a + 1 + q]) := by
          intro q h h'
          subst hY
          rw [List.getElem_drop]; rfl
        have HD : Hid (∀ (c : UInt8) (b : Bool), isD c = b → ∀ W, Calls Tryz.prog 68 #[.int .u8 (c.toNat : Int)] W fun e w' => e = .returned (.bool b) ∧ w' = W) := fun c b h W => by rw [← h]; exact digit_any c W
        have HM : Hid (CL wq C s a true ∧ W.grownBy wq (some C)) := ⟨HQ.out, GQ⟩
        have Hh : Hid ((if cnt Y < 1 ∨ 9 < cnt Y then (a, false, 0) else (a + (1 + cnt Y), true, valF 0 (Y.take (cnt Y) ++ List.replicate (9 - cnt Y) 48))) = (a', ok', v)) := h
        clear hY h k1 k2 k3 k4 k5 k6 k7 g1 g2 g3 g4 g5 g6 HQ GQ hb
        go_wp2_with fail
        go_loopw [3, 4] (fun n z wr => ∃ (j : Nat) (y : Int), a + 1 + j ≤ s.size ∧ n = .int .i64 (j : Int) ∧ z = .int .i64 y ∧ 0 ≤ y ∧ y < 1000000000 ∧ Hid (y = valF 0 (Y.take (min j 9))) ∧ Hid (∀ (q : Nat) (h : q < Y.length), q < j → isD Y[q] = true) ∧ Hid (CL wr C s a true ∧ W.grownBy wr (some C))) (fun n _ _ => s.size - (intOf n).toNat)
        case atStart => exact ⟨0, 0, by omega, rfl, rfl, by omega, by omega, rfl, fun q h hq => by omega, HM⟩
        case round =>
          obtain ⟨j, y, hj, rfl, rfl, y0, y1, hy, hA, hM⟩ := hrel
          clear HM
          obtain ⟨_, ⟨k1, k2, k3, k4, k5, k6, k7⟩, g1, g2, g3, g4, g5, g6⟩ := hM.out.1
          have zj : (0 : Int) ≤ (j : Int) := by omega
          have wn1 : IntKind.i64.wrap ((a : Int) + 1) = (a : Int) + 1 := IntWalk.i64_in _ (by omega)
          have wn2 : IntKind.i64.wrap ((a : Int) + 1 + (j : Int)) = (a : Int) + 1 + (j : Int) := IntWalk.i64_in _ (by omega)
          by_cases hgo : ∃ h : j < Y.length, isD Y[j] = true
          · obtain ⟨hjY, hdg⟩ := hgo
            have hls : a + 1 + j < s.size := by rw [HYl.out] at hjY; omega
            have hin : (a : Int) + 1 + (j : Int) < (s.size : Int) := by omega
            have hind : decide ((a : Int) + 1 + (j : Int) < (s.size : Int)) = true := decide_eq_true hin
            have hin0 : (0 : Int) ≤ (a : Int) + 1 + (j : Int) := by omega
            have et : ((a : Int) + 1 + (j : Int)).toNat = a + 1 + j := by omega
            have e := HG.out j hjY hls
            have dg : Hid (∀ W, Calls Tryz.prog 68 #[.int .u8 ((s[a + 1 + j]).toNat : Int)] W fun e w' => e = .returned (.bool true) ∧ w' = W) := HD.out s[a + 1 + j] true (by rw [← e]; exact hdg)
            have db := isD_bd hdg
            have hA' : Hid (∀ (q : Nat) (h : q < Y.length), q < j + 1 → isD Y[q] = true) := by
              intro q h hq
              by_cases e : q = j
              · subst e; exact hdg
              · exact hA.out q h (by omega)
            go_wp2_with fail
            go_quiet ((go_at_call 68; exact Calls.quiet_of_same (dg.out _)))
            have KQ := hM.out.1.keep (below_drewN (Below.refl wr.heap.size wr) nq) hM.out.1.1
            have GQ := grown_trans hM.out.2 (grown_of_below C (below_drewN (Below.refl wr.heap.size wr) nq))
            generalize wr.drewN nq = wq2 at *
            have HK2 : Hid (CL wq2 C s a true) := KQ
            have HG2 : Hid (W.grownBy wq2 (some C)) := GQ
            obtain ⟨_, ⟨m1, m2, m3, m4, m5, m6, m7⟩, n1, n2, n3, n4, n5, n6⟩ := KQ
            clear k1 k2 k3 k4 k5 k6 k7 g1 g2 g3 g4 g5 g6 GQ
            rw [e] at db
            by_cases h9 : j < 9
            · have hy2 : Hid (valF 0 (Y.take (j + 1)) = y * 10 + (((s[a + 1 + j]).toNat : Int) - 48)) := by
                show _ = _
                rw [take_next Y j hjY, hy.out, show min j 9 = j by omega, e]
              have hb2 : valF 0 (Y.take (j + 1)) < 1000000000 := by
                have := valF_le (Y.take (j + 1)) 9 (by
                  intro c hc
                  obtain ⟨q, hq, rfl⟩ := List.getElem_of_mem hc
                  simp only [List.length_take] at hq
                  rw [List.getElem_take]
                  exact hA'.out q (by omega) (by omega)) (by simp only [List.length_take]; omega)
                exact this
              rw [hy2.out] at hb2
              obtain ⟨c, hc⟩ : ∃ c, ((s[a + 1 + j]).toNat : Int) = c := ⟨_, rfl⟩
              rw [hc] at db hb2 hy2
              obtain ⟨db1, db2⟩ := db
              have wu : IntKind.u8.wrap (c - 48) = c - 48 := by rw [IntKind.wrap_u8]; omega
              have h9I : (j : Int) < 9 := by omega
              have hym : Hid (y * 10 + (c - 48) = valF 0 (Y.take (min (j + 1) 9))) := by show _ = _; rw [show min (j + 1) 9 = j + 1 by omega]; exact hy2.out.symm
              have w10 : IntKind.i64.wrap (10 * y) = 10 * y := IntWalk.i64_in _ (by omega)
              have w11 : IntKind.i64.wrap (c - 48) = c - 48 := IntWalk.i64_in _ (by omega)
              have w12 : IntKind.i64.wrap (10 * y + (c - 48)) = 10 * y + (c - 48) := IntWalk.i64_in _ (by omega)
              clear e hdg hA hy hy2 hM dg
              go_wp2_with fail
              go_quiet (fail)
              have KQ3 := HK2.out.keep (below_drewN (Below.refl wq2.heap.size wq2) nq) HK2.out.1
              have GQ3 := grown_trans HG2.out (grown_of_below C (below_drewN (Below.refl wq2.heap.size wq2) nq))
              generalize wq2.drewN nq = wq3 at *
              have HM3 : Hid (CL wq3 C s a true ∧ W.grownBy wq3 (some C)) := ⟨KQ3, GQ3⟩
              clear KQ3 GQ3
              go_wp2_with fail
              go_roundw
              case rel => exact ⟨j + 1, y * 10 + (c - 48), by omega, by go_num, by go_num, by omega, by omega, hym, hA', HM3⟩
              case measure => simp [intOf]; omega
            · have h9I : ¬ (j : Int) < 9 := by omega
              have hym : Hid (y = valF 0 (Y.take (min (j + 1) 9))) := by show _ = _; rw [hy.out, show min (j + 1) 9 = min j 9 by omega]
              have HM3 : Hid (CL wq2 C s a true ∧ W.grownBy wq2 (some C)) := ⟨HK2.out, HG2.out⟩
              clear e hdg hA hy hM dg db
              go_wp2_with fail
              go_roundw
              case rel => exact ⟨j + 1, y, by omega, by go_num, rfl, y0, y1, hym, hA', HM3⟩
              case measure => simp [intOf]; omega
          · have hc : cnt Y = j := cnt_of Y j (by rw [HYl.out]; omega) hA.out (fun h => by
              cases hb : isD Y[j] with
              | false => rfl
              | true => exact absurd ⟨h, hb⟩ hgo)
            have HR := Hh.out
            rw [hc] at HR
            have hyD : allD (Y.take j) := by rw [← hc]; exact allD_cnt Y
            have FIN : Hid (∀ (wz : World), CL wz C s a true → W.grownBy wz (some C) → Hid (CL wz C s a true ∧ W.grownBy wz (some C))) := fun wz p q => ⟨p, q⟩
            by_cases hjY : j < Y.length
            · have hls : a + 1 + j < s.size := by rw [HYl.out] at hjY; omega
              have hin : (a : Int) + 1 + (j : Int) < (s.size : Int) := by omega
              have hind : decide ((a : Int) + 1 + (j : Int) < (s.size : Int)) = true := decide_eq_true hin
              have hin0 : (0 : Int) ≤ (a : Int) + 1 + (j : Int) := by omega
              have et : ((a : Int) + 1 + (j : Int)).toNat = a + 1 + j := by omega
              have e := HG.out j hjY hls
              have hnd : isD Y[j] = false := by
                cases hb : isD Y[j] with
                | false => rfl
                | true => exact absurd ⟨hjY, hb⟩ hgo
              have dg : Hid (∀ W, Calls Tryz.prog 68 #[.int .u8 ((s[a + 1 + j]).toNat : Int)] W fun e w' => e = .returned (.bool false) ∧ w' = W) := HD.out s[a + 1 + j] false (by rw [← e]; exact hnd)
              clear e hnd hgo hc Hh HG HD hA
              go_wp2_with fail
              go_quiet ((go_at_call 68; exact Calls.quiet_of_same (dg.out _)))
              clear dg
              have KQ := hM.out.1.keep (below_drewN (Below.refl wr.heap.size wr) nq) hM.out.1.1
              have GQ := grown_trans hM.out.2 (grown_of_below C (below_drewN (Below.refl wr.heap.size wr) nq))
              generalize wr.drewN nq = wq2 at *
              have HK2 : Hid (CL wq2 C s a true) := KQ
              have HG2 : Hid (W.grownBy wq2 (some C)) := GQ
              obtain ⟨_, ⟨m1, m2, m3, m4, m5, m6, m7⟩, n1, n2, n3, n4, n5, n6⟩ := KQ
              clear k1 k2 k3 k4 k5 k6 k7 g1 g2 g3 g4 g5 g6 GQ hM
              by_cases j0 : j = 0
              · rw [if_pos (Or.inl (by omega))] at HR
                simp only [Prod.mk.injEq] at HR
                obtain ⟨rfl, rfl, rfl⟩ := HR
                have jz : ((j : Int) == 0) = true := by simp [j0]
                clear j0
                go_wp2_with fail
                refine (WR _ HK2.out).mono ?_
                rintro e w2 ⟨rfl, K2, G2⟩
                go_wp2_with fail
                go_ret
                exact ⟨rfl, K2, grown_trans HG2.out G2⟩
              have jz : ((j : Int) == 0) = false := by simp [j0]
              by_cases j9 : 9 < j
              · rw [if_pos (Or.inr j9)] at HR
                simp only [Prod.mk.injEq] at HR
                obtain ⟨rfl, rfl, rfl⟩ := HR
                have j9I : (9 : Int) < (j : Int) := by omega
                go_wp2_with fail
                refine (WR _ HK2.out).mono ?_
                rintro e w2 ⟨rfl, K2, G2⟩
                go_wp2_with fail
                go_ret
                exact ⟨rfl, K2, grown_trans HG2.out G2⟩
              have j9I : ¬ (9 : Int) < (j : Int) := by omega
              rw [if_neg (by omega)] at HR
              simp only [Prod.mk.injEq] at HR
              obtain ⟨rfl, rfl, rfl⟩ := HR
              have hy3 : Hid (y = valF 0 (Y.take j ++ List.replicate 0 48)) := by show _ = _; rw [hy.out, show min j 9 = j by omega]; simp
              have HD3 : Hid (allD (Y.take j)) := hyD
              have hYj : (Y.take j).length ≤ j := by rw [List.length_take]; omega
              have HYj : Hid ((Y.take j).length ≤ j) := hYj
              obtain ⟨T, hT⟩ : ∃ T, Y.take j = T := ⟨_, rfl⟩
              rw [hT] at hy3 HD3 HYj
              have HT : Hid (Y.take j = T) := hT
              clear hT
              clear hy hyD hYj HYl hjY
              go_wp2_with fail
              go_loop [4, 5] (fun z i => ∃ (k : Nat) (y : Int), j + k ≤ 9 ∧ i = .int .i64 ((j : Int) + (k : Int)) ∧ z = .int .i64 y ∧ 0 ≤ y ∧ y < 1000000000 ∧ Hid (y = valF 0 (T ++ List.replicate k 48))) (fun _ i => (9 - intOf i).toNat)
              case atStart => exact ⟨0, y, by omega, by go_num, rfl, y0, y1, hy3⟩
              case round =>
                obtain ⟨k, y2, hk, rfl, rfl, z0, z1, hz⟩ := hrel
                by_cases hk9 : j + k < 9
                · have hkI : (j : Int) + (k : Int) < 9 := by omega
                  have hst : Hid (10 * y2 = valF 0 (T ++ List.replicate (k + 1) 48)) := by show _ = _; rw [zero_step, ← hz.out]
                  have hb := valF_le (T ++ List.replicate (k + 1) 48) 9 (allD_app HD3.out (allD_rep _)) (by rw [List.length_append, List.length_replicate]; have := HYj.out; omega)
                  have hb2 : 10 * y2 < 1000000000 := by rw [hst.out]; exact hb
                  have w10 : IntKind.i64.wrap (10 * y2) = 10 * y2 := IntWalk.i64_in _ (by omega)
                  clear hz hb
                  go_wp2
                  go_round
                  case rel => exact ⟨k + 1, 10 * y2, by omega, by go_num, by go_num, by omega, hb2, hst⟩
                  case measure => simp [intOf]; omega
                · have hkI : ¬ (j : Int) + (k : Int) < 9 := by omega
                  have hk2 : k = 9 - j := by omega
                  have HZ : Hid (valF 0 (Y.take j ++ List.replicate (9 - j) 48) = y2) := by show _ = _; rw [HT.out, hz.out, hk2]
                  have wn3 : IntKind.i64.wrap (1 + (j : Int)) = 1 + (j : Int) := IntWalk.i64_in _ (by omega)
                  have wn4 : IntKind.i64.wrap ((a : Int) + (1 + (j : Int))) = ((a + (1 + j) : Nat) : Int) := by rw [IntWalk.i64_in _ (by omega)]; omega
                  clear hz hk2
                  go_wp2
                  go_ret
                  exact ⟨by rw [HZ.out]; rfl, HK2.out.move (a + (1 + j)), grown_trans HG2.out (grown_set _ _ _ _)⟩
            · have hls : ¬ a + 1 + j < s.size := by rw [HYl.out] at hjY; omega
              have hin : ¬ (a : Int) + 1 + (j : Int) < (s.size : Int) := by omega
              have hind : decide ((a : Int) + 1 + (j : Int) < (s.size : Int)) = false := decide_eq_false hin
              clear hgo hc Hh HG HD hA
              go_wp2_with fail
              go_quiet (fail)
              have KQ := hM.out.1.keep (below_drewN (Below.refl wr.heap.size wr) nq) hM.out.1.1
              have GQ := grown_trans hM.out.2 (grown_of_below C (below_drewN (Below.refl wr.heap.size wr) nq))
              generalize wr.drewN nq = wq2 at *
              have HK2 : Hid (CL wq2 C s a true) := KQ
              have HG2 : Hid (W.grownBy wq2 (some C)) := GQ
              obtain ⟨_, ⟨m1, m2, m3, m4, m5, m6, m7⟩, n1, n2, n3, n4, n5, n6⟩ := KQ
              clear k1 k2 k3 k4 k5 k6 k7 g1 g2 g3 g4 g5 g6 GQ hM
              by_cases j0 : j = 0
              · rw [if_pos (Or.inl (by omega))] at HR
                simp only [Prod.mk.injEq] at HR
                obtain ⟨rfl, rfl, rfl⟩ := HR
                have jz : ((j : Int) == 0) = true := by simp [j0]
                clear j0
                go_wp2_with fail
                refine (WR _ HK2.out).mono ?_
                rintro e w2 ⟨rfl, K2, G2⟩
                go_wp2_with fail
                go_ret
                exact ⟨rfl, K2, grown_trans HG2.out G2⟩
              have jz : ((j : Int) == 0) = false := by simp [j0]
              by_cases j9 : 9 < j
              · rw [if_pos (Or.inr j9)] at HR
                simp only [Prod.mk.injEq] at HR
                obtain ⟨rfl, rfl, rfl⟩ := HR
                have j9I : (9 : Int) < (j : Int) := by omega
                go_wp2_with fail
                refine (WR _ HK2.out).mono ?_
                rintro e w2 ⟨rfl, K2, G2⟩
                go_wp2_with fail
                go_ret
                exact ⟨rfl, K2, grown_trans HG2.out G2⟩
              have j9I : ¬ (9 : Int) < (j : Int) := by omega
              rw [if_neg (by omega)] at HR
              simp only [Prod.mk.injEq] at HR
              obtain ⟨rfl, rfl, rfl⟩ := HR
              have hy3 : Hid (y = valF 0 (Y.take j ++ List.replicate 0 48)) := by show _ = _; rw [hy.out, show min j 9 = j by omega]; simp
              have HD3 : Hid (allD (Y.take j)) := hyD
              have hYj : (Y.take j).length ≤ j := by rw [List.length_take]; omega
              have HYj : Hid ((Y.take j).length ≤ j) := hYj
              obtain ⟨T, hT⟩ : ∃ T, Y.take j = T := ⟨_, rfl⟩
              rw [hT] at hy3 HD3 HYj
              have HT : Hid (Y.take j = T) := hT
              clear hT
              clear hy hyD hYj HYl hjY
              go_wp2_with fail
              go_loop [4, 5] (fun z i => ∃ (k : Nat) (y : Int), j + k ≤ 9 ∧ i = .int .i64 ((j : Int) + (k : Int)) ∧ z = .int .i64 y ∧ 0 ≤ y ∧ y < 1000000000 ∧ Hid (y = valF 0 (T ++ List.replicate k 48))) (fun _ i => (9 - intOf i).toNat)
              case atStart => exact ⟨0, y, by omega, by go_num, rfl, y0, y1, hy3⟩
              case round =>
                obtain ⟨k, y2, hk, rfl, rfl, z0, z1, hz⟩ := hrel
                by_cases hk9 : j + k < 9
                · have hkI : (j : Int) + (k : Int) < 9 := by omega
                  have hst : Hid (10 * y2 = valF 0 (T ++ List.replicate (k + 1) 48)) := by show _ = _; rw [zero_step, ← hz.out]
                  have hb := valF_le (T ++ List.replicate (k + 1) 48) 9 (allD_app HD3.out (allD_rep _)) (by rw [List.length_append, List.length_replicate]; have := HYj.out; omega)
                  have hb2 : 10 * y2 < 1000000000 := by rw [hst.out]; exact hb
                  have w10 : IntKind.i64.wrap (10 * y2) = 10 * y2 := IntWalk.i64_in _ (by omega)
                  clear hz hb
                  go_wp2
                  go_round
                  case rel => exact ⟨k + 1, 10 * y2, by omega, by go_num, by go_num, by omega, hb2, hst⟩
                  case measure => simp [intOf]; omega
                · have hkI : ¬ (j : Int) + (k : Int) < 9 := by omega
                  have hk2 : k = 9 - j := by omega
                  have HZ : Hid (valF 0 (Y.take j ++ List.replicate (9 - j) 48) = y2) := by show _ = _; rw [HT.out, hz.out, hk2]
                  have wn3 : IntKind.i64.wrap (1 + (j : Int)) = 1 + (j : Int) := IntWalk.i64_in _ (by omega)
                  have wn4 : IntKind.i64.wrap ((a : Int) + (1 + (j : Int))) = ((a + (1 + j) : Nat) : Int) := by rw [IntWalk.i64_in _ (by omega)]; omega
                  clear hz hk2
                  go_wp2
                  go_ret
                  exact ⟨by rw [HZ.out]; rfl, HK2.out.move (a + (1 + j)), grown_trans HG2.out (grown_set _ _ _ _)⟩
      · rw [if_neg (by intro e; injection e with e; exact c2 e)] at h
        simp only [Prod.mk.injEq] at h
        obtain ⟨rfl, rfl, rfl⟩ := h
        have hb : (((s[a]).toNat : Int) != 46) = true := bytne4 c2
        clear c2
        go_enter Tryz.func42, Tryz.ntmps42
        go_wp2_with fail
        go_quiet (fail)
        have KQ := HH.out.keep (below_drewN (Below.refl W.heap.size W) nq) HH.out.1
        have GQ := grown_of_below C (below_drewN (Below.refl W.heap.size W) nq)
        generalize W.drewN nq = wq at *
        have HQ : Hid (CL wq C s a true) := KQ
        obtain ⟨_, ⟨k1, k2, k3, k4, k5, k6, k7⟩, g1, g2, g3, g4, g5, g6⟩ := KQ
        clear h1 h2 h3 h4 h5 h6 h7 f1 f2 f3 f4 f5 f6 HH
        go_wp2_with fail
        go_ret
        exact ⟨rfl, HQ.out, GQ⟩
    · rw [head4_end s a c1] at h
      rw [if_neg (by simp)] at h
      simp only [Prod.mk.injEq] at h
      obtain ⟨rfl, rfl, rfl⟩ := h
      have hd : decide ((s.size : Int) ≤ (a : Int)) = true := decide_eq_true (by omega)
      have hdN : decide (s.size ≤ a) = true := decide_eq_true (by omega)
      go_enter Tryz.func42, Tryz.ntmps42
      go_wp2_with fail
      go_quiet (fail)
      have KQ := HH.out.keep (below_drewN (Below.refl W.heap.size W) nq) HH.out.1
      have GQ := grown_of_below C (below_drewN (Below.refl W.heap.size W) nq)
      generalize W.drewN nq = wq at *
      have HQ : Hid (CL wq C s a true) := KQ
      obtain ⟨_, ⟨k1, k2, k3, k4, k5, k6, k7⟩, g1, g2, g3, g4, g5, g6⟩ := KQ
      clear h1 h2 h3 h4 h5 h6 h7 f1 f2 f3 f4 f5 f6 HH
      go_wp2_with fail
      go_ret
      exact ⟨rfl, HQ.out, GQ⟩
end Go.Proofs.YtipahdplkmmofaaGreatDoor

namespace Go.Proofs.YtipahdplkmmofaaGreatDoor
open Go.RowKit
set_option linter.unusedVariables false
set_option linter.unusedSimpArgs false
theorem numR_bd {n : Nat} {lo hi : Int} {l : List UInt8} {a a' : Nat} {ok ok' : Bool} {v : Int} (h : numR n lo hi l a ok = (a', ok', v)) (h0 : 0 ≤ lo) (h1 : 0 ≤ hi) : 0 ≤ v ∧ v ≤ hi := by
  unfold numR at h
  repeat' split at h
  all_goals simp only [Prod.mk.injEq] at h
  all_goals obtain ⟨_, _, rfl⟩ := h
  all_goals omega
theorem bytne4p {x : UInt8} {b : UInt8} (h : ¬ x = b) : (((x.toNat : Int)) == (b.toNat : Int)) = false := by
  rw [beq_eq_false_iff_ne]; intro e; exact h (UInt8.toNat_inj.1 (by omega))
set_option maxRecDepth 100000 in
set_option maxHeartbeats 4000000 in
theorem rzone_any (C : Nat) (s : ByteArray) (hs : s.size ≤ 281474976710656) (a : Nat) (ok : Bool) (ha : a ≤ s.size) (a' : Nat) (ok' : Bool) (v : Int) (h : zoneR s.data.toList a ok = (a', ok', v)) (W : World) (hC : CL W C s a ok) :
    Calls Tryz.prog 43 #[.pointer (some ⟨C, 0, none⟩)] W fun e w' => e = .returned (.int .i64 v) ∧ CL w' C s a' ok' ∧ W.grownBy w' (some C) := by
  have HH : Hid (CL W C s a ok) := hC
  obtain ⟨h0, ⟨h1, h2, h3, h4, h5, h6, h7⟩, f1, f2, f3, f4, f5, f6⟩ := hC
  cases ok with
  | false =>
    rw [zoneR_no] at h
    simp only [Prod.mk.injEq] at h
    obtain ⟨rfl, rfl, rfl⟩ := h
    have e3 : bcK false = 41 := rfl
    rw [e3] at h3
    clear e3
    go_enter Tryz.func43, Tryz.ntmps43
    go_wp2_with fail
    go_ret
    exact ⟨rfl, HH.out, grown_refl _ _⟩
  | true =>
    have e3 : bcK true = 0 := rfl
    rw [e3] at h3
    clear e3
    unfold zoneR at h
    rw [if_pos rfl] at h
    have WR := fun W hW => wrong_any C s a ha W hW
    by_cases c1 : a < s.size
    · rw [head4_at s a c1] at h
      have hd : decide ((s.size : Int) ≤ (a : Int)) = false := decide_eq_false (by omega)
      have hdN : decide (s.size ≤ a) = false := decide_eq_false (by omega)
      have hi1 : (a : Int) < (s.size : Int) := by omega
      have hi0 : (0 : Int) ≤ (a : Int) := by omega
      have wn : IntKind.i64.wrap ((a : Int) + 1) = ((a + 1 : Nat) : Int) := by rw [IntWalk.i64_in _ (by omega)]; omega
      have wn2 : wrap64 ((a : Int) + 1) = ((a + 1 : Nat) : Int) := by rw [IntWalk.wrap64_in _ (by omega)]; omega
      obtain ⟨b1, o1, x, i1⟩ : ∃ b1 o1 x, numR 2 0 23 s.data.toList (a + 1) true = (b1, o1, x) := ⟨_, _, _, rfl⟩
      obtain ⟨b2, o2, i2⟩ : ∃ b2 o2, letR 58 s.data.toList b1 o1 = (b2, o2) := ⟨_, _, rfl⟩
      obtain ⟨b3, o3, m, i3⟩ : ∃ b3 o3 m, numR 2 0 59 s.data.toList b2 o2 = (b3, o3, m) := ⟨_, _, _, rfl⟩
      have e3' : z3 s.data.toList (a + 1) = (b3, o3, x, m) := by unfold z3; rw [i1]; simp only; rw [i2]; simp only; rw [i3]
      rw [e3'] at h
      simp only at h
      have l1 := numR_le i1 (by rw [sz_list]; omega)
      have l2 := letR_le i2 l1
      have xb := numR_bd i1 (by omega) (by omega)
      have mb := numR_bd i3 (by omega) (by omega)
      rw [sz_list] at l1 l2
      have N1 : Hid (∀ W, CL W C s (a + 1) true → Calls Tryz.prog 39 #[.pointer (some ⟨C, 0, none⟩), .int .i64 2, .int .i64 0, .int .i64 23] W fun e w' => e = .returned (.int .i64 x) ∧ CL w' C s b1 o1 ∧ W.grownBy w' (some C)) := fun W hW => rnum_any C s hs (a + 1) true 2 (by omega) (by omega) 0 23 (by omega) b1 o1 x i1 W hW
      have N2 : Hid (∀ W, CL W C s b1 o1 → Calls Tryz.prog 40 #[.pointer (some ⟨C, 0, none⟩), .int .u8 58] W fun e w' => e = .returned undef ∧ CL w' C s b2 o2 ∧ W.grownBy w' (some C)) := fun W hW => rsign_any C s hs b1 o1 58 l1 b2 o2 i2 W hW
      have N3 : Hid (∀ W, CL W C s b2 o2 → Calls Tryz.prog 39 #[.pointer (some ⟨C, 0, none⟩), .int .i64 2, .int .i64 0, .int .i64 59] W fun e w' => e = .returned (.int .i64 m) ∧ CL w' C s b3 o3 ∧ W.grownBy w' (some C)) := fun W hW => rnum_any C s hs b2 o2 2 (by omega) (by omega) 0 59 l2 b3 o3 m i3 W hW
      obtain ⟨x0, x1⟩ := xb
      obtain ⟨m0, m1⟩ := mb
      have w60 : IntKind.i64.wrap (60 * x) = 60 * x := IntWalk.i64_in _ (by omega)
      have w61 : IntKind.i64.wrap (60 * x + m) = 60 * x + m := IntWalk.i64_in _ (by omega)
      have w62 : IntKind.i64.wrap (-(60 * x + m)) = -(60 * x + m) := IntWalk.i64_in _ (by omega)
      clear i1 i2 i3 e3' l1 l2
      by_cases c90 : s[a] = 90
      · have q90 : (((s[a]).toNat : Int) != 90) = false := byteq4 c90
        have p90 : (((s[a]).toNat : Int) == 90) = true := by rw [c90]; rfl
        rw [if_pos (by rw [c90])] at h
        simp only [Prod.mk.injEq] at h
        obtain ⟨rfl, rfl, rfl⟩ := h
        clear c90 N1 N2 N3
        go_enter Tryz.func43, Tryz.ntmps43
        go_wp2_with fail
        go_quiet (fail)
        have KQ := HH.out.keep (below_drewN (Below.refl W.heap.size W) nq) HH.out.1
        have GQ := grown_of_below C (below_drewN (Below.refl W.heap.size W) nq)
        generalize W.drewN nq = wq at *
        have HQ : Hid (CL wq C s a true) := KQ
        obtain ⟨_, ⟨k1, k2, k3, k4, k5, k6, k7⟩, g1, g2, g3, g4, g5, g6⟩ := KQ
        clear h1 h2 h3 h4 h5 h6 h7 f1 f2 f3 f4 f5 f6 HH
        go_wp2_with fail
        go_quiet (fail)
        have KQ2 := HQ.out.keep (below_drewN (Below.refl wq.heap.size wq) nq) HQ.out.1
        have GQ2 := grown_trans GQ (grown_of_below C (below_drewN (Below.refl wq.heap.size wq) nq))
        generalize wq.drewN nq = wq2 at *
        have HQ2 : Hid (CL wq2 C s a true) := KQ2
        obtain ⟨_, ⟨m1', m2', m3', m4', m5', m6', m7'⟩, n1', n2', n3', n4', n5', n6'⟩ := KQ2
        clear k1 k2 k3 k4 k5 k6 k7 g1 g2 g3 g4 g5 g6 HQ GQ
        go_wp2_with fail
        go_ret
        exact ⟨rfl, HQ2.out.move (a + 1), grown_trans GQ2 (grown_set _ _ _ _)⟩
      · have q90 : (((s[a]).toNat : Int) != 90) = true := bytne4 c90
        have p90 : (((s[a]).toNat : Int) == 90) = false := bytne4p c90
        rw [if_neg (by intro e; injection e with e; exact c90 e)] at h
        clear c90
        by_cases c43 : s[a] = 43
        · have q43 : (((s[a]).toNat : Int) != 43) = false := byteq4 c43
          have p45 : (((s[a]).toNat : Int) == 45) = false := by rw [c43]; rfl
          rw [if_pos (by rw [c43])] at h
          simp only [Prod.mk.injEq] at h
          obtain ⟨rfl, rfl, rfl⟩ := h
          clear c43
          go_enter Tryz.func43, Tryz.ntmps43
          go_wp2_with fail
          go_quiet (fail)
          have KQ := HH.out.keep (below_drewN (Below.refl W.heap.size W) nq) HH.out.1
          have GQ := grown_of_below C (below_drewN (Below.refl W.heap.size W) nq)
          generalize W.drewN nq = wq at *
          have HQ : Hid (CL wq C s a true) := KQ
          obtain ⟨_, ⟨k1, k2, k3, k4, k5, k6, k7⟩, g1, g2, g3, g4, g5, g6⟩ := KQ
          clear h1 h2 h3 h4 h5 h6 h7 f1 f2 f3 f4 f5 f6 HH
          go_wp2_with fail
          go_quiet (fail)
          have KQ2 := HQ.out.keep (below_drewN (Below.refl wq.heap.size wq) nq) HQ.out.1
          have GQ2 := grown_trans GQ (grown_of_below C (below_drewN (Below.refl wq.heap.size wq) nq))
          generalize wq.drewN nq = wq2 at *
          have HQ2 : Hid (CL wq2 C s a true) := KQ2
          obtain ⟨_, ⟨m1', m2', m3', m4', m5', m6', m7'⟩, n1', n2', n3', n4', n5', n6'⟩ := KQ2
          clear k1 k2 k3 k4 k5 k6 k7 g1 g2 g3 g4 g5 g6 HQ GQ
          have e11 : ((a + 1 : Nat) : Int) = (a : Int) + 1 := by omega
          have KM : Hid (CL (wq2.setCell ⟨C, 1, none⟩ (.int .i64 ((a : Int) + 1))) C s (a + 1) true) := by rw [← e11]; exact HQ2.out.move (a + 1)
          clear e11
          have GM : Hid (W.grownBy (wq2.setCell ⟨C, 1, none⟩ (.int .i64 ((a : Int) + 1))) (some C)) := grown_trans GQ2 (grown_set _ _ _ _)
          go_wp2_with fail
          generalize wq2.setCell ⟨C, 1, none⟩ (.int .i64 ((a : Int) + 1)) = wm at *
          clear m1' m2' m3' m4' m5' m6' m7' n1' n2' n3' n4' n5' n6'
          refine (N1.out _ KM.out).mono ?_
          rintro e w3 ⟨rfl, K3, G3⟩
          have G3' := grown_trans GM.out G3
          go_wp2_with fail
          refine (N2.out _ K3).mono ?_
          rintro e w4 ⟨rfl, K4, G4⟩
          have G4' := grown_trans G3' G4
          go_wp2_with fail
          refine (N3.out _ K4).mono ?_
          rintro e w5 ⟨rfl, K5, G5'⟩
          have G5 := grown_trans G4' G5'
          go_wp2_with fail
          go_ret
          exact ⟨rfl, K5, G5⟩
        · have q43 : (((s[a]).toNat : Int) != 43) = true := bytne4 c43
          rw [if_neg (by intro e; injection e with e; exact c43 e)] at h
          clear c43
          by_cases c45 : s[a] = 45
          · have q45 : (((s[a]).toNat : Int) != 45) = false := byteq4 c45
            have p45 : (((s[a]).toNat : Int) == 45) = true := by rw [c45]; rfl
            rw [if_pos (by rw [c45])] at h
            simp only [Prod.mk.injEq] at h
            obtain ⟨rfl, rfl, rfl⟩ := h
            clear c45
            go_enter Tryz.func43, Tryz.ntmps43
            go_wp2_with fail
            go_quiet (fail)
            have KQ := HH.out.keep (below_drewN (Below.refl W.heap.size W) nq) HH.out.1
            have GQ := grown_of_below C (below_drewN (Below.refl W.heap.size W) nq)
            generalize W.drewN nq = wq at *
            have HQ : Hid (CL wq C s a true) := KQ
            obtain ⟨_, ⟨k1, k2, k3, k4, k5, k6, k7⟩, g1, g2, g3, g4, g5, g6⟩ := KQ
            clear h1 h2 h3 h4 h5 h6 h7 f1 f2 f3 f4 f5 f6 HH
            go_wp2_with fail
            go_quiet (fail)
            have KQ2 := HQ.out.keep (below_drewN (Below.refl wq.heap.size wq) nq) HQ.out.1
            have GQ2 := grown_trans GQ (grown_of_below C (below_drewN (Below.refl wq.heap.size wq) nq))
            generalize wq.drewN nq = wq2 at *
            have HQ2 : Hid (CL wq2 C s a true) := KQ2
            obtain ⟨_, ⟨m1', m2', m3', m4', m5', m6', m7'⟩, n1', n2', n3', n4', n5', n6'⟩ := KQ2
            clear k1 k2 k3 k4 k5 k6 k7 g1 g2 g3 g4 g5 g6 HQ GQ
            have e11 : ((a + 1 : Nat) : Int) = (a : Int) + 1 := by omega
            have KM : Hid (CL (wq2.setCell ⟨C, 1, none⟩ (.int .i64 ((a : Int) + 1))) C s (a + 1) true) := by rw [← e11]; exact HQ2.out.move (a + 1)
            clear e11
            have GM : Hid (W.grownBy (wq2.setCell ⟨C, 1, none⟩ (.int .i64 ((a : Int) + 1))) (some C)) := grown_trans GQ2 (grown_set _ _ _ _)
            go_wp2_with fail
            generalize wq2.setCell ⟨C, 1, none⟩ (.int .i64 ((a : Int) + 1)) = wm at *
            clear m1' m2' m3' m4' m5' m6' m7' n1' n2' n3' n4' n5' n6'
            refine (N1.out _ KM.out).mono ?_
            rintro e w3 ⟨rfl, K3, G3⟩
            have G3' := grown_trans GM.out G3
            go_wp2_with fail
            refine (N2.out _ K3).mono ?_
            rintro e w4 ⟨rfl, K4, G4⟩
            have G4' := grown_trans G3' G4
            go_wp2_with fail
            refine (N3.out _ K4).mono ?_
            rintro e w5 ⟨rfl, K5, G5'⟩
            have G5 := grown_trans G4' G5'
            go_wp2_with fail
            go_ret
            exact ⟨rfl, K5, G5⟩
          · have q45 : (((s[a]).toNat : Int) != 45) = true := bytne4 c45
            rw [if_neg (by intro e; injection e with e; exact c45 e)] at h
            simp only [Prod.mk.injEq] at h
            obtain ⟨rfl, rfl, rfl⟩ := h
            clear c45 N1 N2 N3
            go_enter Tryz.func43, Tryz.ntmps43
            go_wp2_with fail
            go_quiet (fail)
            have KQ := HH.out.keep (below_drewN (Below.refl W.heap.size W) nq) HH.out.1
            have GQ := grown_of_below C (below_drewN (Below.refl W.heap.size W) nq)
            generalize W.drewN nq = wq at *
            have HQ : Hid (CL wq C s a true) := KQ
            obtain ⟨_, ⟨k1, k2, k3, k4, k5, k6, k7⟩, g1, g2, g3, g4, g5, g6⟩ := KQ
            clear h1 h2 h3 h4 h5 h6 h7 f1 f2 f3 f4 f5 f6 HH
            go_wp2_with fail
            refine (WR _ HQ.out).mono ?_
            rintro e w2 ⟨rfl, K2, G2⟩
            go_wp2_with fail
            go_ret
            exact ⟨rfl, K2, grown_trans GQ G2⟩
    · rw [head4_end s a c1] at h
      rw [if_neg (by simp), if_neg (by simp), if_neg (by simp)] at h
      simp only [Prod.mk.injEq] at h
      obtain ⟨rfl, rfl, rfl⟩ := h
      have hd : decide ((s.size : Int) ≤ (a : Int)) = true := decide_eq_true (by omega)
      have hdN : decide (s.size ≤ a) = true := decide_eq_true (by omega)
      go_enter Tryz.func43, Tryz.ntmps43
      go_wp2_with fail
      go_quiet (fail)
      have KQ := HH.out.keep (below_drewN (Below.refl W.heap.size W) nq) HH.out.1
      have GQ := grown_of_below C (below_drewN (Below.refl W.heap.size W) nq)
      generalize W.drewN nq = wq at *
      have HQ : Hid (CL wq C s a true) := KQ
      obtain ⟨_, ⟨k1, k2, k3, k4, k5, k6, k7⟩, g1, g2, g3, g4, g5, g6⟩ := KQ
      clear h1 h2 h3 h4 h5 h6 h7 f1 f2 f3 f4 f5 f6 HH
      go_wp2_with fail
      refine (WR _ HQ.out).mono ?_
      rintro e w2 ⟨rfl, K2, G2⟩
      go_wp2_with fail
      go_ret
      exact ⟨rfl, K2, grown_trans GQ G2⟩
end Go.Proofs.YtipahdplkmmofaaGreatDoor

namespace Go.Proofs.YtipahdplkmmofaaGreatDoor
open Go.RowKit
set_option linter.unusedVariables false
set_option linter.unusedSimpArgs false
theorem plus2_any (v n : Int) (h1 : S128 v) (h2 : S128 (v + n)) (hn : I64 n) (w : World) : Calls Tryz.prog 46 #[.agg #[.int .i64 (sH v), .int .u64 (sL v)], .int .i64 n] w fun e w' => e = .returned (.agg #[.int .i64 (sH (v + n)), .int .u64 (sL (v + n))]) ∧ Below w.heap.size w w' := by
  have H := rplus_any (sH v) (sL v) n (I64_sH v h1) (U64_sL v) hn w
  rw [sv_H_L, wr_of _ h2] at H
  exact H
theorem kmul_step (k P : Int) : k * P + P = (k + 1) * P := by rw [Int.add_mul, Int.one_mul]
set_option maxRecDepth 100000 in
set_option maxHeartbeats 2000000 in
theorem scaled_any (n : Int) (h1 : -1000000000000 ≤ n) (h2 : n ≤ 1000000000000) (w : World) : Calls Tryz.prog 47 #[.int .i64 n] w fun e w' => e = .returned (.agg #[.int .i64 (sH (n * 1000000000)), .int .u64 (sL (n * 1000000000))]) ∧ Below w.heap.size w w' := by
  obtain ⟨q, hq⟩ : ∃ q, n.tdiv 1000 = q := ⟨_, rfl⟩
  obtain ⟨r, hr⟩ : ∃ r, n.tmod 1000 = r := ⟨_, rfl⟩
  have hqr : 1000 * q + r = n := by rw [← hq, ← hr]; exact Int.mul_tdiv_add_tmod n 1000
  have hrb : -1000 < r ∧ r < 1000 := by
    rw [← hr]
    have := Int.tmod_lt_of_pos n (b := 1000) (by omega)
    have h3 : -1000 < n.tmod 1000 := by
      by_cases hn : 0 ≤ n
      · have := Int.tmod_nonneg 1000 hn; omega
      · have e := Int.neg_tmod n 1000
        have h4 := Int.tmod_lt_of_pos (-n) (b := 1000) (by omega)
        omega
    omega
  obtain ⟨r1, r2⟩ := hrb
  have q1 : -1000000001 ≤ q := by omega
  have q2 : q ≤ 1000000001 := by omega
  obtain ⟨P, hP⟩ : ∃ P, q * 1000000000 = P := ⟨_, rfl⟩
  have p1 : -1000000001000000000 ≤ P := by omega
  have p2 : P ≤ 1000000001000000000 := by omega
  have HT : Hid (1000 * P + r * 1000000000 = n * 1000000000) := by show _ = _; omega
  have C1 : Hid (∀ v W, v ≤ 17014118346046923173168 → -17014118346046923173168 ≤ v → Calls Tryz.prog 46 #[.agg #[.int .i64 (sH v), .int .u64 (sL v)], .int .i64 P] W fun e w' => e = .returned (.agg #[.int .i64 (sH (v + P)), .int .u64 (sL (v + P))]) ∧ Below W.heap.size W w') := fun v W a b => plus2_any v P ⟨by omega, by omega⟩ ⟨by omega, by omega⟩ ⟨by omega, by omega⟩ W
  have C2 : Hid (∀ W, Calls Tryz.prog 46 #[.agg #[.int .i64 (sH (1000 * P)), .int .u64 (sL (1000 * P))], .int .i64 (r * 1000000000)] W fun e w' => e = .returned (.agg #[.int .i64 (sH (n * 1000000000)), .int .u64 (sL (n * 1000000000))]) ∧ Below W.heap.size W w') := fun W => by
    have H := plus2_any (1000 * P) (r * 1000000000) ⟨by omega, by omega⟩ ⟨by omega, by omega⟩ ⟨by omega, by omega⟩ W
    rw [HT.out] at H; exact H
  obtain ⟨W0, hW0⟩ : ∃ W, W = (w.alloc (.cells #[.int .i64 0, .int .u64 0] 62)).alloc (.cells #[.int .i64 0, .int .u64 0] 62) := ⟨_, rfl⟩
  have z0 : sH 0 = 0 ∧ sL 0 = 0 := by decide
  have HS : Hid (SM W0 w.heap.size 0 0 ∧ SM W0 (w.heap.size + 1) (sH 0) (sL 0) ∧ Below w.heap.size w W0) := by
    rw [hW0, z0.1, z0.2]
    exact ⟨(SM.new _ _ _ _ rfl).alloc _, SM.new _ _ _ _ (by simp), below_new (below_new (Below.refl _ _) _) _⟩
  have HW : Hid (W0 = (w.alloc (.cells #[.int .i64 0, .int .u64 0] 62)).alloc (.cells #[.int .i64 0, .int .u64 0] 62)) := hW0
  have wq : IntKind.i64.wrap (n.tdiv 1000) = q := by rw [hq]; exact IntWalk.i64_in _ (by omega)
  have wr' : IntKind.i64.wrap (n.tmod 1000) = r := by rw [hr]; exact IntWalk.i64_in _ (by omega)
  have wP : IntKind.i64.wrap (q * 1000000000) = P := by rw [hP]; exact IntWalk.i64_in _ (by omega)
  have wR : IntKind.i64.wrap (r * 1000000000) = r * 1000000000 := IntWalk.i64_in _ (by omega)
  clear hW0 z0 HT hqr
  go_enter Tryz.func47, Tryz.ntmps47
  go_wp2
  rw [← HW.out]
  clear HW hq hr
  have x1 : w.heap.size ≠ w.heap.size + 1 := by omega
  have y1 : w.heap.size ≤ w.heap.size + 1 := by omega
  have y0 : w.heap.size ≤ w.heap.size := by omega
  generalize w.heap.size + 1 = S' at *
  generalize hX : w.heap.size = R' at *
  go_loopw [6] (fun i wr => ∃ k Z : Int, 0 ≤ k ∧ k ≤ 1000 ∧ i = .int .i64 k ∧ Z ≤ 1000000001000000000 * k ∧ -1000000001000000000 * k ≤ Z ∧ Hid (Z = k * P) ∧ Hid (SM wr R' 0 0 ∧ SM wr S' (sH Z) (sL Z) ∧ Below R' w wr)) (fun i _ => (1000 - intOf i).toNat)
  case atStart => exact ⟨0, 0, by omega, by omega, rfl, by omega, by omega, by show _ = _; rw [Int.zero_mul], HS⟩
  case round =>
    obtain ⟨k, Z, k0, k1, rfl, b1, b2, hZ, hM⟩ := hrel
    clear HS
    by_cases hk : k < 1000
    · obtain ⟨sR, sS, bl⟩ := hM.out
      obtain ⟨_, s1, s2, s3, s4⟩ := id sS
      have CC : Hid (∀ W, Calls Tryz.prog 46 #[.agg #[.int .i64 (sH Z), .int .u64 (sL Z)], .int .i64 P] W fun e w' => e = .returned (.agg #[.int .i64 (sH (Z + P)), .int .u64 (sL (Z + P))]) ∧ Below W.heap.size W w') := fun W => C1.out Z W (by omega) (by omega)
      have hZ2 : Hid (Z + P = (k + 1) * P) := by show _ = _; rw [hZ.out, kmul_step]
      clear sR sS bl hZ
      go_wp2_with fail
      refine (CC.out _).mono ?_
      rintro e w2 ⟨rfl, B2⟩
      obtain ⟨sR, sS, bl⟩ := hM.out
      have sS1 := sS.keep B2 sS.1
      have sR1 := sR.keep B2 sR.1
      have bl1 := below_then' bl B2 (Nat.le_of_lt sR.1)
      obtain ⟨_, t1, t2, t3, t4⟩ := id sS1
      have HF : Hid (SM ((w2.setCell ⟨S', 0, none⟩ (.int .i64 (sH (Z + P)))).setCell ⟨S', 1, none⟩ (.int .u64 (sL (Z + P)))) R' 0 0 ∧ SM ((w2.setCell ⟨S', 0, none⟩ (.int .i64 (sH (Z + P)))).setCell ⟨S', 1, none⟩ (.int .u64 (sL (Z + P)))) S' (sH (Z + P)) (sL (Z + P)) ∧ Below R' w ((w2.setCell ⟨S', 0, none⟩ (.int .i64 (sH (Z + P)))).setCell ⟨S', 1, none⟩ (.int .u64 (sL (Z + P))))) := ⟨(sR1.far x1 _).far x1 _, sS1.set _ _, below_set2 bl1 y1⟩
      clear s1 s2 s3 s4 sR sS bl sR1 sS1 bl1 B2 hM
      go_wp2_with fail
      go_roundw
      case rel => exact ⟨k + 1, Z + P, by omega, by omega, by go_num, by omega, by omega, hZ2, HF⟩
      case measure => simp [intOf]; omega
    · have hk2 : k = 1000 := by omega
      have eZ : Hid (1000 * P = Z) := by show _ = _; rw [hZ.out, hk2]
      have hkI : ¬ k < 1000 := hk
      obtain ⟨sR, sS, bl⟩ := hM.out
      obtain ⟨_, s1, s2, s3, s4⟩ := id sS
      have C3 : Hid (∀ W, Calls Tryz.prog 46 #[.agg #[.int .i64 (sH Z), .int .u64 (sL Z)], .int .i64 (r * 1000000000)] W fun e w' => e = .returned (.agg #[.int .i64 (sH (n * 1000000000)), .int .u64 (sL (n * 1000000000))]) ∧ Below W.heap.size W w') := fun W => by rw [← eZ.out]; exact C2.out W
      clear sR sS bl hZ hk2 C1 C2 eZ
      go_wp2_with fail
      refine (C3.out _).mono ?_
      rintro e w2 ⟨rfl, B2⟩
      obtain ⟨sR, sS, bl⟩ := hM.out
      have sR1 := sR.keep B2 sR.1
      have bl1 := below_then' bl B2 (Nat.le_of_lt sR.1)
      obtain ⟨_, t1, t2, t3, t4⟩ := id sR1
      have HB : Hid (Below R' w w2) := bl1
      clear s1 s2 s3 s4 sR sS bl sR1 bl1 B2 hM
      go_wp2_with fail
      simp [bodyPost, results, Tryz.results47, go_sem, t1, t2]
      rw [hX]
      exact below_set2 HB.out y0
end Go.Proofs.YtipahdplkmmofaaGreatDoor

namespace Go.Proofs.YtipahdplkmmofaaGreatDoor
open Go.RowKit
set_option linter.unusedVariables false
set_option linter.unusedSimpArgs false
theorem numR_ok {n : Nat} {lo hi : Int} {l : List UInt8} {a a' : Nat} {ok : Bool} {v : Int} (h : numR n lo hi l a ok = (a', true, v)) : ok = true ∧ lo ≤ v ∧ v ≤ hi := by
  unfold numR at h
  repeat' split at h
  all_goals simp only [Prod.mk.injEq] at h
  all_goals obtain ⟨_, h2, rfl⟩ := h
  all_goals first | (exfalso; simp at h2; done) | skip
  all_goals exact ⟨by assumption, by omega, by omega⟩
theorem letR_ok {b : UInt8} {l : List UInt8} {a a' : Nat} {ok : Bool} (h : letR b l a ok = (a', true)) : ok = true := by
  cases ok with
  | true => rfl
  | false => rw [letR_no] at h; simp at h
theorem fracR_ok {l : List UInt8} {a a' : Nat} {ok : Bool} {v : Int} (h : fracR l a ok = (a', true, v)) : ok = true ∧ 0 ≤ v ∧ v < 1000000000 := by
  cases ok with
  | false => rw [fracR_no] at h; simp at h
  | true =>
    refine ⟨rfl, ?_⟩
    unfold fracR at h
    rw [if_pos rfl] at h
    by_cases c1 : (l.drop a).head? = some 46
    · rw [if_pos c1] at h
      by_cases c2 : cnt (l.drop (a + 1)) < 1 ∨ 9 < cnt (l.drop (a + 1))
      · rw [if_pos c2] at h; simp at h
      · rw [if_neg c2] at h
        simp only [Prod.mk.injEq] at h
        obtain ⟨_, _, rfl⟩ := h
        have hd : allD ((l.drop (a + 1)).take (cnt (l.drop (a + 1))) ++ List.replicate (9 - cnt (l.drop (a + 1))) 48) := allD_app (allD_cnt _) (allD_rep _)
        refine ⟨valF_nonneg hd, ?_⟩
        exact valF_le _ 9 hd (by rw [List.length_append, List.length_replicate, List.length_take]; omega)
    · rw [if_neg c1] at h
      simp only [Prod.mk.injEq] at h
      obtain ⟨_, _, rfl⟩ := h
      omega
theorem zoneR_bd {l : List UInt8} {a a' : Nat} {ok ok' : Bool} {v : Int} (h : zoneR l a ok = (a', ok', v)) : -1439 ≤ v ∧ v ≤ 1439 ∧ (ok' = true → ok = true) := by
  cases ok with
  | false => rw [zoneR_no] at h; simp only [Prod.mk.injEq] at h; obtain ⟨_, rfl, rfl⟩ := h; simp
  | true =>
    unfold zoneR at h
    rw [if_pos rfl] at h
    obtain ⟨b1, o1, x, i1⟩ : ∃ b1 o1 x, numR 2 0 23 l (a + 1) true = (b1, o1, x) := ⟨_, _, _, rfl⟩
    obtain ⟨b2, o2, i2⟩ : ∃ b2 o2, letR 58 l b1 o1 = (b2, o2) := ⟨_, _, rfl⟩
    obtain ⟨b3, o3, m, i3⟩ : ∃ b3 o3 m, numR 2 0 59 l b2 o2 = (b3, o3, m) := ⟨_, _, _, rfl⟩
    have e3' : z3 l (a + 1) = (b3, o3, x, m) := by unfold z3; rw [i1]; simp only; rw [i2]; simp only; rw [i3]
    rw [e3'] at h
    have xb := numR_bd i1 (by omega) (by omega)
    have mb := numR_bd i3 (by omega) (by omega)
    repeat' split at h
    all_goals simp only [Prod.mk.injEq] at h
    all_goals obtain ⟨_, _, rfl⟩ := h
    all_goals exact ⟨by omega, by omega, fun _ => rfl⟩
theorem zoneR_le {l : List UInt8} {a a' : Nat} {ok ok' : Bool} {v : Int} (h : zoneR l a ok = (a', ok', v)) (ha : a ≤ l.length) : a' ≤ l.length := by
  cases ok with
  | false => rw [zoneR_no] at h; simp only [Prod.mk.injEq] at h; obtain ⟨rfl, _, _⟩ := h; exact ha
  | true =>
    unfold zoneR at h
    rw [if_pos rfl] at h
    obtain ⟨b1, o1, x, i1⟩ : ∃ b1 o1 x, numR 2 0 23 l (a + 1) true = (b1, o1, x) := ⟨_, _, _, rfl⟩
    obtain ⟨b2, o2, i2⟩ : ∃ b2 o2, letR 58 l b1 o1 = (b2, o2) := ⟨_, _, rfl⟩
    obtain ⟨b3, o3, m, i3⟩ : ∃ b3 o3 m, numR 2 0 59 l b2 o2 = (b3, o3, m) := ⟨_, _, _, rfl⟩
    have e3' : z3 l (a + 1) = (b3, o3, x, m) := by unfold z3; rw [i1]; simp only; rw [i2]; simp only; rw [i3]
    rw [e3'] at h
    have hh : ∀ c, (l.drop a).head? = some c → a + 1 ≤ l.length := by
      intro c hc
      have h9 : 0 < (l.drop a).length := by
        cases e : l.drop a with
        | nil => rw [e] at hc; simp at hc
        | cons => simp
      simp only [List.length_drop] at h9
      omega
    have hz : ∀ c, (l.drop a).head? = some c → b3 ≤ l.length := fun c hc => numR_le i3 (letR_le i2 (numR_le i1 (hh c hc)))
    by_cases g1 : (l.drop a).head? = some 90
    · rw [if_pos g1] at h; simp only [Prod.mk.injEq] at h; obtain ⟨rfl, _, _⟩ := h; exact hh _ g1
    · rw [if_neg g1] at h
      by_cases g2 : (l.drop a).head? = some 43
      · rw [if_pos g2] at h; simp only [Prod.mk.injEq] at h; obtain ⟨rfl, _, _⟩ := h; exact hz _ g2
      · rw [if_neg g2] at h
        by_cases g3 : (l.drop a).head? = some 45
        · rw [if_pos g3] at h; simp only [Prod.mk.injEq] at h; obtain ⟨rfl, _, _⟩ := h; exact hz _ g3
        · rw [if_neg g3] at h; simp only [Prod.mk.injEq] at h; obtain ⟨rfl, _, _⟩ := h; exact ha
theorem B5.grown {W W' : World} {N C : Nat} {c a i : Int} {p q : Bool} (h : B5 W N c a i p q) (hg : W.grownBy W' (some C)) (hN : N ≠ C) : B5 W' N c a i p q := by
  obtain ⟨h0, ⟨h1, h2, h3, h4, h5⟩, f1, f2, f3, f4, f5⟩ := h
  have cf : ∀ j, W'.cell? ⟨N, j, none⟩ = W.cell? ⟨N, j, none⟩ := fun j => by unfold World.cell?; simp only; rw [hg.block N h0 (fun e => hN (Option.some.inj e))]
  have ff : ∀ j, W'.frozen? ⟨N, j, none⟩ = W.frozen? ⟨N, j, none⟩ := fun j => by unfold World.frozen?; simp only; rw [hg.block N h0 (fun e => hN (Option.some.inj e))]
  refine ⟨Nat.lt_of_lt_of_le h0 hg.size, ⟨?_, ?_, ?_, ?_, ?_⟩, ?_, ?_, ?_, ?_, ?_⟩
  · rw [cf]; exact h1
  · rw [cf]; exact h2
  · rw [cf]; exact h3
  · rw [cf]; exact h4
  · rw [cf]; exact h5
  · rw [ff]; exact f1
  · rw [ff]; exact f2
  · rw [ff]; exact f3
  · rw [ff]; exact f4
  · rw [ff]; exact f5
def rtR (l : List UInt8) : Ending := if (goT l).2.2 = false ∨ (goT l).2.1 < l.length then .returned (.tuple #[.int .i64 0, .agg #[.int .i64 41, .int .i64 ((goT l).2.1 : Int), .int .i64 0, .bool true, .bool false]]) else .returned (.tuple #[.int .i64 (sm0 (nsC (goT l).1)), smB (nsC (goT l).1)])
theorem rmonth_any (y m : Int) (h1 : 0 ≤ y) (h2 : y ≤ 9999) (w : World) : Calls Tryz.prog 41 #[.int .i64 y, .int .i64 m] w fun e w' => e = .returned (.int .i64 (monR y m)) ∧ w' = w := by
  unfold monR
  by_cases h : 1 ≤ m ∧ m ≤ 12
  · rw [if_pos h]; exact month_any y m h1 (by omega) h.1 h.2 w
  · rw [if_neg h]; exact month_else y m (by omega) w
theorem monR_bd (y m : Int) : 0 ≤ monR y m := by
  unfold monR; split
  · have := lenM_bd y m; omega
  · omega
theorem CL.new (w : World) (s : ByteArray) (C : Nat) (hC : C = w.heap.size) : CL (w.alloc (.cells #[.string s, .int .i64 0, .int .i64 0, .int .i64 0, .int .i64 0, .bool false, .bool false] 87)) C s 0 true := by
  subst hC
  refine ⟨by simp, ⟨by simp [go_sem], by simp [go_sem], by simp [go_sem, bcK], by simp [go_sem, baK], by simp [go_sem], by simp [go_sem], by simp [go_sem]⟩, by simp [go_sem], by simp [go_sem], by simp [go_sem], by simp [go_sem], by simp [go_sem], by simp [go_sem]⟩
theorem dayN_bd2 (y m d : Int) (h : dayOk y m d) : -719528 ≤ dayN y m d ∧ dayN y m d < 2932897 := by
  exact day_bd h
set_option maxRecDepth 100000 in
set_option maxHeartbeats 8000000 in
theorem rtime_any (s : ByteArray) (hs : s.size ≤ 281474976710656) (w : World) : Calls Tryz.prog 13 #[.string s] w fun e w' => e = rtR s.data.toList ∧ Below w.heap.size w w' := by
  obtain ⟨l, hl⟩ : ∃ l, s.data.toList = l := ⟨_, rfl⟩
  have hlen : l.length = s.size := by rw [← hl]; exact sz_list s
  obtain ⟨a1, k1, y, h1⟩ : ∃ a k v, numR 4 0 9999 l 0 true = (a, k, v) := ⟨_, _, _, rfl⟩
  obtain ⟨a2, k2, h2⟩ : ∃ a k, letR 45 l a1 k1 = (a, k) := ⟨_, _, rfl⟩
  obtain ⟨a3, k3, mo, h3⟩ : ∃ a k v, numR 2 1 12 l a2 k2 = (a, k, v) := ⟨_, _, _, rfl⟩
  obtain ⟨a4, k4, h4⟩ : ∃ a k, letR 45 l a3 k3 = (a, k) := ⟨_, _, rfl⟩
  obtain ⟨a5, k5, d, h5⟩ : ∃ a k v, numR 2 1 (monR y mo) l a4 k4 = (a, k, v) := ⟨_, _, _, rfl⟩
  obtain ⟨a6, k6, h6⟩ : ∃ a k, letR 84 l a5 k5 = (a, k) := ⟨_, _, rfl⟩
  obtain ⟨a7, k7, h, h7⟩ : ∃ a k v, numR 2 0 23 l a6 k6 = (a, k, v) := ⟨_, _, _, rfl⟩
  obtain ⟨a8, k8, h8⟩ : ∃ a k, letR 58 l a7 k7 = (a, k) := ⟨_, _, rfl⟩
  obtain ⟨a9, k9, mi, h9⟩ : ∃ a k v, numR 2 0 59 l a8 k8 = (a, k, v) := ⟨_, _, _, rfl⟩
  obtain ⟨a10, k10, h10⟩ : ∃ a k, letR 58 l a9 k9 = (a, k) := ⟨_, _, rfl⟩
  obtain ⟨a11, k11, sc, h11⟩ : ∃ a k v, numR 2 0 59 l a10 k10 = (a, k, v) := ⟨_, _, _, rfl⟩
  obtain ⟨a12, k12, ns, h12⟩ : ∃ a k v, fracR l a11 k11 = (a, k, v) := ⟨_, _, _, rfl⟩
  obtain ⟨a13, k13, z, h13⟩ : ∃ a k v, zoneR l a12 k12 = (a, k, v) := ⟨_, _, _, rfl⟩
  have GR := goT_ref l a1 a2 a3 a4 a5 a6 a7 a8 a9 a10 a11 a12 a13 k1 k2 k3 k4 k5 k6 k7 k8 k9 k10 k11 k12 k13 y mo d h mi sc ns z h1 h2 h3 h4 h5 h6 h7 h8 h9 h10 h11 h12 h13
  have l1 := numR_le h1 (Nat.zero_le _)
  have l2 := letR_le h2 l1
  have l3 := numR_le h3 l2
  have l4 := letR_le h4 l3
  have l5 := numR_le h5 l4
  have l6 := letR_le h6 l5
  have l7 := numR_le h7 l6
  have l8 := letR_le h8 l7
  have l9 := numR_le h9 l8
  have l10 := letR_le h10 l9
  have l11 := numR_le h11 l10
  have l12 := fracR_le h12 l11
  have l13 := zoneR_le h13 l12
  rw [hlen] at l1 l2 l3 l4 l5 l6 l7 l8 l9 l10 l11 l12 l13
  have yb := numR_bd h1 (by omega) (by omega)
  have BD : k13 = true → dayOk y mo d ∧ (0 ≤ h ∧ h ≤ 23) ∧ (0 ≤ mi ∧ mi ≤ 59) ∧ (0 ≤ sc ∧ sc ≤ 59) ∧ (0 ≤ ns ∧ ns < 1000000000) := by
    intro e13
    subst e13
    have e12 := (zoneR_bd h13).2.2 rfl
    subst e12
    obtain ⟨e11, n1, n2⟩ := fracR_ok h12
    subst e11
    obtain ⟨e10, s1, s2⟩ := numR_ok h11
    subst e10
    have e9 := letR_ok h10
    subst e9
    obtain ⟨e8, m1, m2⟩ := numR_ok h9
    subst e8
    have e7 := letR_ok h8
    subst e7
    obtain ⟨e6, q1, q2⟩ := numR_ok h7
    subst e6
    have e5 := letR_ok h6
    subst e5
    obtain ⟨e4, d1, d2⟩ := numR_ok h5
    subst e4
    have e3 := letR_ok h4
    subst e3
    obtain ⟨e2, o1, o2⟩ := numR_ok h3
    unfold monR at d2
    rw [if_pos ⟨o1, o2⟩] at d2
    exact ⟨⟨yb.1, yb.2, o1, o2, d1, d2⟩, ⟨q1, q2⟩, ⟨m1, m2⟩, ⟨s1, s2⟩, n1, n2⟩
  have zb := zoneR_bd h13
  have HBD : Hid (k13 = true → dayOk y mo d ∧ (0 ≤ h ∧ h ≤ 23) ∧ (0 ≤ mi ∧ mi ≤ 59) ∧ (0 ≤ sc ∧ sc ≤ 59) ∧ (0 ≤ ns ∧ ns < 1000000000)) := BD
  have HGR : Hid ((goT l).2 = (a13, k13) ∧ (k13 = true → ∃ ah bh bm, (goT l).1 = ⟨y, mo, d, h, mi, sc, ns, ah, bh, bm⟩ ∧ z = ah * (60 * bh + bm))) := GR
  obtain ⟨RES, hRES⟩ : ∃ R, rtR s.data.toList = R := ⟨_, rfl⟩
  rw [hRES]
  rw [hl] at hRES
  have HR : Hid (rtR l = RES) := hRES
  clear GR BD hRES
  obtain ⟨C, hC⟩ : ∃ C, w.heap.size + 1 = C := ⟨_, rfl⟩
  have N1 : Hid (∀ W, CL W C s 0 true → Calls Tryz.prog 39 #[.pointer (some ⟨C, 0, none⟩), .int .i64 4, .int .i64 0, .int .i64 9999] W fun e w' => e = .returned (.int .i64 y) ∧ CL w' C s a1 k1 ∧ W.grownBy w' (some C)) := fun W hW => rnum_any C s hs 0 true 4 (by omega) (by omega) 0 9999 (Nat.zero_le _) a1 k1 y (by rw [hl]; exact h1) W hW
  have N2 : Hid (∀ W, CL W C s a1 k1 → Calls Tryz.prog 40 #[.pointer (some ⟨C, 0, none⟩), .int .u8 45] W fun e w' => e = .returned undef ∧ CL w' C s a2 k2 ∧ W.grownBy w' (some C)) := fun W hW => rsign_any C s hs a1 k1 45 l1 a2 k2 (by rw [hl]; exact h2) W hW
  have N3 : Hid (∀ W, CL W C s a2 k2 → Calls Tryz.prog 39 #[.pointer (some ⟨C, 0, none⟩), .int .i64 2, .int .i64 1, .int .i64 12] W fun e w' => e = .returned (.int .i64 mo) ∧ CL w' C s a3 k3 ∧ W.grownBy w' (some C)) := fun W hW => rnum_any C s hs a2 k2 2 (by omega) (by omega) 1 12 l2 a3 k3 mo (by rw [hl]; exact h3) W hW
  have N4 : Hid (∀ W, CL W C s a3 k3 → Calls Tryz.prog 40 #[.pointer (some ⟨C, 0, none⟩), .int .u8 45] W fun e w' => e = .returned undef ∧ CL w' C s a4 k4 ∧ W.grownBy w' (some C)) := fun W hW => rsign_any C s hs a3 k3 45 l3 a4 k4 (by rw [hl]; exact h4) W hW
  have N5 : Hid (∀ W, CL W C s a4 k4 → Calls Tryz.prog 39 #[.pointer (some ⟨C, 0, none⟩), .int .i64 2, .int .i64 1, .int .i64 (monR y mo)] W fun e w' => e = .returned (.int .i64 d) ∧ CL w' C s a5 k5 ∧ W.grownBy w' (some C)) := fun W hW => rnum_any C s hs a4 k4 2 (by omega) (by omega) 1 (monR y mo) l4 a5 k5 d (by rw [hl]; exact h5) W hW
  have N6 : Hid (∀ W, CL W C s a5 k5 → Calls Tryz.prog 40 #[.pointer (some ⟨C, 0, none⟩), .int .u8 84] W fun e w' => e = .returned undef ∧ CL w' C s a6 k6 ∧ W.grownBy w' (some C)) := fun W hW => rsign_any C s hs a5 k5 84 l5 a6 k6 (by rw [hl]; exact h6) W hW
  have N7 : Hid (∀ W, CL W C s a6 k6 → Calls Tryz.prog 39 #[.pointer (some ⟨C, 0, none⟩), .int .i64 2, .int .i64 0, .int .i64 23] W fun e w' => e = .returned (.int .i64 h) ∧ CL w' C s a7 k7 ∧ W.grownBy w' (some C)) := fun W hW => rnum_any C s hs a6 k6 2 (by omega) (by omega) 0 23 l6 a7 k7 h (by rw [hl]; exact h7) W hW
  have N8 : Hid (∀ W, CL W C s a7 k7 → Calls Tryz.prog 40 #[.pointer (some ⟨C, 0, none⟩), .int .u8 58] W fun e w' => e = .returned undef ∧ CL w' C s a8 k8 ∧ W.grownBy w' (some C)) := fun W hW => rsign_any C s hs a7 k7 58 l7 a8 k8 (by rw [hl]; exact h8) W hW
  have N9 : Hid (∀ W, CL W C s a8 k8 → Calls Tryz.prog 39 #[.pointer (some ⟨C, 0, none⟩), .int .i64 2, .int .i64 0, .int .i64 59] W fun e w' => e = .returned (.int .i64 mi) ∧ CL w' C s a9 k9 ∧ W.grownBy w' (some C)) := fun W hW => rnum_any C s hs a8 k8 2 (by omega) (by omega) 0 59 l8 a9 k9 mi (by rw [hl]; exact h9) W hW
  have N10 : Hid (∀ W, CL W C s a9 k9 → Calls Tryz.prog 40 #[.pointer (some ⟨C, 0, none⟩), .int .u8 58] W fun e w' => e = .returned undef ∧ CL w' C s a10 k10 ∧ W.grownBy w' (some C)) := fun W hW => rsign_any C s hs a9 k9 58 l9 a10 k10 (by rw [hl]; exact h10) W hW
  have N11 : Hid (∀ W, CL W C s a10 k10 → Calls Tryz.prog 39 #[.pointer (some ⟨C, 0, none⟩), .int .i64 2, .int .i64 0, .int .i64 59] W fun e w' => e = .returned (.int .i64 sc) ∧ CL w' C s a11 k11 ∧ W.grownBy w' (some C)) := fun W hW => rnum_any C s hs a10 k10 2 (by omega) (by omega) 0 59 l10 a11 k11 sc (by rw [hl]; exact h11) W hW
  have N12 : Hid (∀ W, CL W C s a11 k11 → Calls Tryz.prog 42 #[.pointer (some ⟨C, 0, none⟩)] W fun e w' => e = .returned (.int .i64 ns) ∧ CL w' C s a12 k12 ∧ W.grownBy w' (some C)) := fun W hW => rfrac_any C s hs a11 k11 l11 a12 k12 ns (by rw [hl]; exact h12) W hW
  have N13 : Hid (∀ W, CL W C s a12 k12 → Calls Tryz.prog 43 #[.pointer (some ⟨C, 0, none⟩)] W fun e w' => e = .returned (.int .i64 z) ∧ CL w' C s a13 k13 ∧ W.grownBy w' (some C)) := fun W hW => rzone_any C s hs a12 k12 l12 a13 k13 z (by rw [hl]; exact h13) W hW
  have NM : Hid (∀ W, Calls Tryz.prog 41 #[.int .i64 y, .int .i64 mo] W fun e w' => e = .returned (.int .i64 (monR y mo)) ∧ w' = W) := fun W => rmonth_any y mo yb.1 yb.2 W
  have NW : Hid (∀ W, CL W C s a13 true → Calls Tryz.prog 44 #[.pointer (some ⟨C, 0, none⟩), .int .i64 (a13 : Int)] W fun e w' => e = .returned undef ∧ CL w' C s a13 false ∧ W.grownBy w' (some C)) := fun W hW => wrong_any C s a13 l13 W hW
  have L13 : a13 ≤ s.size := l13
  obtain ⟨z1, z2, _⟩ := zb
  clear h1 h2 h3 h4 h5 h6 h7 h8 h9 h10 h11 h12 h13 l1 l2 l3 l4 l5 l6 l7 l8 l9 l10 l11 l12 l13 yb hl
  generalize monR y mo = mr at *
  obtain ⟨W0, hW0⟩ : ∃ W, W = (w.alloc (.cells #[.int .i64 0, .int .i64 0, .int .i64 0, .bool false, .bool false] 29)).alloc (.cells #[.string s, .int .i64 0, .int .i64 0, .int .i64 0, .int .i64 0, .bool false, .bool false] 87) := ⟨_, rfl⟩
  have HS : Hid (B5 W0 w.heap.size 0 0 0 false false ∧ CL W0 C s 0 true ∧ Below w.heap.size w W0) := by
    rw [hW0, ← hC]
    exact ⟨(B5.new _ _ _ _ _ _ _ rfl).alloc _, CL.new _ _ _ (by simp), below_new (below_new (Below.refl _ _) _) _⟩
  have HW : Hid (W0 = (w.alloc (.cells #[.int .i64 0, .int .i64 0, .int .i64 0, .bool false, .bool false] 29)).alloc (.cells #[.string s, .int .i64 0, .int .i64 0, .int .i64 0, .int .i64 0, .bool false, .bool false] 87)) := hW0
  have HC : Hid (w.heap.size + 1 = C) := hC
  have neC : w.heap.size ≠ C := by omega
  have leC : w.heap.size ≤ C := by omega
  clear hW0 hC
  go_enter Tryz.func13, Tryz.ntmps13
  go_wp2_with fail
  rw [← HW.out, HC.out]
  clear HW
  have y0 : w.heap.size ≤ w.heap.size := Nat.le_refl _
  generalize hX : w.heap.size = R' at *
  obtain ⟨bR, K0, bl⟩ := HS.out
  have HBR : Hid (B5 W0 R' 0 0 0 false false ∧ Below R' w W0) := ⟨bR, bl⟩
  have G0 : W0.grownBy W0 (some C) := grown_refl _ _
  clear bR bl HS HC
  refine (N1.out _ K0).mono ?_
  rintro e w1 ⟨rfl, K1, g1⟩
  have G1 := grown_trans G0 g1
  clear K0 G0 g1 N1
  go_wp2_with fail
  refine (N2.out _ K1).mono ?_
  rintro e w2 ⟨rfl, K2, g2⟩
  have G2 := grown_trans G1 g2
  clear K1 G1 g2 N2
  go_wp2_with fail
  refine (N3.out _ K2).mono ?_
  rintro e w3 ⟨rfl, K3, g3⟩
  have G3 := grown_trans G2 g3
  clear K2 G2 g3 N3
  go_wp2_with fail
  refine (N4.out _ K3).mono ?_
  rintro e w4 ⟨rfl, K4, g4⟩
  have G4 := grown_trans G3 g4
  clear K3 G3 g4 N4
  go_wp2_with fail
  refine (NM.out _).mono ?_
  rintro e wm ⟨rfl, hwm⟩
  subst wm
  go_wp2_with fail
  refine (N5.out _ K4).mono ?_
  rintro e w5 ⟨rfl, K5, g5⟩
  have G5 := grown_trans G4 g5
  clear K4 G4 g5 N5
  go_wp2_with fail
  refine (N6.out _ K5).mono ?_
  rintro e w6 ⟨rfl, K6, g6⟩
  have G6 := grown_trans G5 g6
  clear K5 G5 g6 N6
  go_wp2_with fail
  refine (N7.out _ K6).mono ?_
  rintro e w7 ⟨rfl, K7, g7⟩
  have G7 := grown_trans G6 g7
  clear K6 G6 g7 N7
  go_wp2_with fail
  refine (N8.out _ K7).mono ?_
  rintro e w8 ⟨rfl, K8, g8⟩
  have G8 := grown_trans G7 g8
  clear K7 G7 g8 N8
  go_wp2_with fail
  refine (N9.out _ K8).mono ?_
  rintro e w9 ⟨rfl, K9, g9⟩
  have G9 := grown_trans G8 g9
  clear K8 G8 g9 N9
  go_wp2_with fail
  refine (N10.out _ K9).mono ?_
  rintro e w10 ⟨rfl, K10, g10⟩
  have G10 := grown_trans G9 g10
  clear K9 G9 g10 N10
  go_wp2_with fail
  refine (N11.out _ K10).mono ?_
  rintro e w11 ⟨rfl, K11, g11⟩
  have G11 := grown_trans G10 g11
  clear K10 G10 g11 N11
  go_wp2_with fail
  refine (N12.out _ K11).mono ?_
  rintro e w12 ⟨rfl, K12, g12⟩
  have G12 := grown_trans G11 g12
  clear K11 G11 g12 N12
  go_wp2_with fail
  refine (N13.out _ K12).mono ?_
  rintro e w13 ⟨rfl, K13, g13⟩
  have G13 := grown_trans G12 g13
  clear K12 G12 g13 N13
  have HK : Hid (CL w13 C s a13 k13) := K13
  have HB13 : Hid (B5 w13 R' 0 0 0 false false ∧ Below R' w w13) := ⟨HBR.out.1.grown G13 neC, HBR.out.2.grown G13 (Nat.le_of_lt HBR.out.1.1) (fun k hk => by injection hk with hk; omega)⟩
  obtain ⟨cz, ⟨c1, c2, c3, c4, c5, c6, c7⟩, f1, f2, f3, f4, f5, f6⟩ := K13
  clear HBR G13
  cases k13 with
  | false =>
    have HR3 : Hid (RES = .returned (.tuple #[.int .i64 0, .agg #[.int .i64 41, .int .i64 (a13 : Int), .int .i64 0, .bool true, .bool false]])) := by
      show _ = _
      rw [← HR.out]; unfold rtR; rw [HGR.out.1]; exact if_pos (Or.inl rfl)
    rw [show bcK false = 41 from rfl] at c3
    rw [show baK a13 false = (a13 : Int) from rfl] at c4
    rw [show (!false) = true from rfl] at c6
    clear HR HGR HBD
    obtain ⟨⟨zr, ⟨t1, t2, t3, t4, t5⟩, e1, e2, e3, e4, e5⟩, bl⟩ := HB13.out
    have HBL : Hid (Below R' w w13) := bl
    clear bl HB13 HK
    go_wp2_with fail
    go_region
    all_goals
      go_wp2_with fail
      simp [bodyPost, results, Tryz.results13, go_sem, t1, t2, t3, t4, t5]
      exact ⟨HR3.out.symm, by rw [hX]; exact (setBad HBL.out y0).drew⟩
  | true =>
    rw [show bcK true = 0 from rfl] at c3
    by_cases hlt : a13 < s.size
    · have hltI : (a13 : Int) < (s.size : Int) := by omega
      have HR3 : Hid (RES = .returned (.tuple #[.int .i64 0, .agg #[.int .i64 41, .int .i64 (a13 : Int), .int .i64 0, .bool true, .bool false]])) := by
        show _ = _
        rw [← HR.out]; unfold rtR; rw [HGR.out.1]; exact if_pos (Or.inr (by rw [hlen]; exact hlt))
      clear HR HGR HBD
      go_wp2_with fail
      refine (NW.out _ HK.out).mono ?_
      rintro e w14 ⟨rfl, K14, G14⟩
      have B14 := HB13.out.1.grown G14 neC
      have L14 := HB13.out.2.grown G14 (Nat.le_of_lt HB13.out.1.1) (fun k hk => by injection hk with hk; omega)
      clear c1 c2 c3 c4 c5 c6 c7 f1 f2 f3 f4 f5 f6 HK HB13 G14
      obtain ⟨cz, ⟨c1, c2, c3, c4, c5, c6, c7⟩, f1, f2, f3, f4, f5, f6⟩ := K14
      rw [show bcK false = 41 from rfl] at c3
      rw [show baK a13 false = (a13 : Int) from rfl] at c4
      rw [show (!false) = true from rfl] at c6
      obtain ⟨zr, ⟨t1, t2, t3, t4, t5⟩, e1, e2, e3, e4, e5⟩ := B14
      have HBL : Hid (Below R' w w14) := L14
      clear L14
      go_wp2_with fail
      go_region
      all_goals
        go_wp2_with fail
        simp [bodyPost, results, Tryz.results13, go_sem, t1, t2, t3, t4, t5]
        exact ⟨HR3.out.symm, by rw [hX]; exact (setBad HBL.out y0).drew⟩
    · have hltI : ¬ (a13 : Int) < (s.size : Int) := by omega
      obtain ⟨hday, hh, hmi, hsc, hns⟩ := HBD.out rfl
      obtain ⟨ah, bh, bm, eg, ez⟩ := HGR.out.2 rfl
      have en : nsC (goT l).1 = (dayN y mo d * 86400 + (60 * (60 * h + mi - z) + sc)) * 1000000000 + ns := by
        rw [eg]; unfold nsC secC; simp only
        have e9 : ah * (60 * bh + bm) = 60 * (ah * bh) + ah * bm := by rw [Int.mul_add, Int.mul_left_comm]
        rw [ez, e9]
        generalize ah * bh = p1
        generalize ah * bm = p2
        omega
      have HR3' : RES = .returned (.tuple #[.int .i64 (sm0 (nsC (goT l).1)), smB (nsC (goT l).1)]) := by
        rw [← HR.out]; unfold rtR; rw [HGR.out.1]; exact if_neg (by rw [hlen]; simp; omega)
      rw [en] at HR3'
      have ND : Hid (∀ W, Calls Tryz.prog 45 #[.int .i64 y, .int .i64 mo, .int .i64 d] W fun e w' => e = .returned (.tuple #[.int .i64 (dayN y mo d), .agg #[.int .i64 0, .int .i64 0, .int .i64 0, .bool false, .bool false]]) ∧ Below W.heap.size W w') := fun W => rday_any y mo d hday W
      have db := dayN_bd2 y mo d hday
      obtain ⟨D, hD⟩ : ∃ D, dayN y mo d = D := ⟨_, rfl⟩
      rw [hD] at ND db HR3'
      obtain ⟨db1, db2⟩ := db
      obtain ⟨hh1, hh2⟩ := hh
      obtain ⟨hm1, hm2⟩ := hmi
      obtain ⟨hs1, hs2⟩ := hsc
      obtain ⟨hn1, hn2⟩ := hns
      clear HR HGR HBD en eg ez hD hday NW HK
      have q1 : IntKind.i64.wrap (D * 1440) = D * 1440 := IntWalk.i64_in _ (by omega)
      have q2 : IntKind.i64.wrap (60 * h) = 60 * h := IntWalk.i64_in _ (by omega)
      have q3 : IntKind.i64.wrap (60 * h + mi) = 60 * h + mi := IntWalk.i64_in _ (by omega)
      have q4 : IntKind.i64.wrap (60 * h + mi - z) = 60 * h + mi - z := IntWalk.i64_in _ (by omega)
      have q5 : IntKind.i64.wrap (D * 1440 + (60 * h + mi - z)) = D * 1440 + (60 * h + mi - z) := IntWalk.i64_in _ (by omega)
      have q6 : IntKind.i64.wrap ((D * 1440 + (60 * h + mi - z)) * 60) = (D * 1440 + (60 * h + mi - z)) * 60 := IntWalk.i64_in _ (by omega)
      have q7 : IntKind.i64.wrap ((D * 1440 + (60 * h + mi - z)) * 60 + sc) = (D * 1440 + (60 * h + mi - z)) * 60 + sc := IntWalk.i64_in _ (by omega)
      obtain ⟨Q, hQ⟩ : ∃ Q, (D * 1440 + (60 * h + mi - z)) * 60 + sc = Q := ⟨_, rfl⟩
      have hQ2 : D * 86400 + (60 * (60 * h + mi - z) + sc) = Q := by omega
      rw [hQ2] at HR3'
      have Q1 : -1000000000000 ≤ Q := by omega
      have Q2 : Q ≤ 1000000000000 := by omega
      have SC : Hid (∀ W, Calls Tryz.prog 47 #[.int .i64 ((D * 1440 + (60 * h + mi - z)) * 60 + sc)] W fun e w' => e = .returned (.agg #[.int .i64 (sH (Q * 1000000000)), .int .u64 (sL (Q * 1000000000))]) ∧ Below W.heap.size W w') := fun W => by rw [hQ]; exact scaled_any Q Q1 Q2 W
      have PL : Hid (∀ W, Calls Tryz.prog 46 #[.agg #[.int .i64 (sH (Q * 1000000000)), .int .u64 (sL (Q * 1000000000))], .int .i64 ns] W fun e w' => e = .returned (.agg #[.int .i64 (sH (Q * 1000000000 + ns)), .int .u64 (sL (Q * 1000000000 + ns))]) ∧ Below W.heap.size W w') := fun W => plus2_any (Q * 1000000000) ns ⟨by omega, by omega⟩ ⟨by omega, by omega⟩ ⟨by omega, by omega⟩ W
      have S1 : S128 (Q * 1000000000 + ns) := ⟨by omega, by omega⟩
      obtain ⟨V, hV⟩ : ∃ V, Q * 1000000000 + ns = V := ⟨_, rfl⟩
      rw [hV] at PL HR3' S1
      have SMR : ∀ W, Calls Tryz.prog 33 #[.agg #[.int .i64 (sH V), .int .u64 (sL V)]] W fun e w' => e = .returned (.tuple #[.int .i64 (sm0 V), smB V]) ∧ Below W.heap.size W w' := fun W => by
        have H := rsmall_any (sH V) (sL V) (I64_sH V S1) (U64_sL V) W
        rw [sv_H_L] at H; exact H
      clear hQ hQ2 hV S1
      obtain ⟨bR, bl⟩ := HB13.out
      have HBR : Hid (B5 w13 R' 0 0 0 false false) := bR
      have HBL : Hid (Below R' w w13) := bl
      clear bR bl HB13
      by_cases iv : I64 V
      · have HR3 : Hid (RES = .returned (.tuple #[.int .i64 V, .agg #[.int .i64 0, .int .i64 0, .int .i64 0, .bool false, .bool false]])) := by
          show _ = _
          rw [HR3', sm0_yes iv, show smB V = bad0 from if_pos iv]; rfl
        have SM2 : Hid (∀ W, Calls Tryz.prog 33 #[.agg #[.int .i64 (sH V), .int .u64 (sL V)]] W fun e w' => e = .returned (.tuple #[.int .i64 V, .agg #[.int .i64 0, .int .i64 0, .int .i64 0, .bool false, .bool false]]) ∧ Below W.heap.size W w') := fun W => by
          have H := SMR W
          rw [sm0_yes iv, show smB V = bad0 from if_pos iv] at H; exact H
        clear HR3' SMR iv
        go_wp2_with fail
        refine (ND.out _).mono ?_
        rintro e w15 ⟨rfl, B15⟩
        have b15 := HBR.out.keep B15 HBR.out.1
        have L15 := below_then' HBL.out B15 (Nat.le_of_lt HBR.out.1)
        have HB16 : Hid (B5 (w15.alloc (.cells #[.int .i64 0, .int .i64 0, .int .i64 0, .bool false, .bool false] 29)) R' 0 0 0 false false ∧ Below R' w (w15.alloc (.cells #[.int .i64 0, .int .i64 0, .int .i64 0, .bool false, .bool false] 29))) := ⟨b15.alloc _, L15.alloc (Nat.le_of_lt b15.1) _⟩
        clear b15 L15 B15 HBR HBL c1 c2 c3 c4 c5 c6 c7 f1 f2 f3 f4 f5 f6
        go_wp2_with fail
        generalize w15.alloc (.cells #[.int .i64 0, .int .i64 0, .int .i64 0, .bool false, .bool false] 29) = w16 at *
        refine (SC.out _).mono ?_
        rintro e w17 ⟨rfl, B17⟩
        have b17 := HB16.out.1.keep B17 HB16.out.1.1
        have L17 := below_then' HB16.out.2 B17 (Nat.le_of_lt HB16.out.1.1)
        clear HB16 B17
        go_wp2_with fail
        refine (PL.out _).mono ?_
        rintro e w18 ⟨rfl, B18⟩
        have b18 := b17.keep B18 b17.1
        have L18 := below_then' L17 B18 (Nat.le_of_lt b17.1)
        have HB19 : Hid (B5 (w18.alloc (.cells #[.int .i64 (sH V), .int .u64 (sL V)] 62)) R' 0 0 0 false false ∧ Below R' w (w18.alloc (.cells #[.int .i64 (sH V), .int .u64 (sL V)] 62))) := ⟨b18.alloc _, L18.alloc (Nat.le_of_lt b18.1) _⟩
        clear b17 L17 b18 L18 B18
        go_wp2_with fail
        generalize w18.alloc (.cells #[.int .i64 (sH V), .int .u64 (sL V)] 62) = w19 at *
        refine (SM2.out _).mono ?_
        rintro e wn ⟨rfl, Bn⟩
        have C5 := HB19.out.1.keep Bn HB19.out.1.1
        have D3 := below_then' HB19.out.2 Bn (Nat.le_of_lt HB19.out.1.1)
        obtain ⟨zr, ⟨t1, t2, t3, t4, t5⟩, e1, e2, e3, e4, e5⟩ := id C5
        have T9 := (C5.set 0 0 0 false false).alloc (.cells #[.int .i64 0, .int .i64 0, .int .i64 0, .bool false, .bool false] 29)
        have D4 := (setBad (v0 := .int .i64 0) (v1 := .int .i64 0) (v2 := .int .i64 0) (v3 := .bool false) (v4 := .bool false) D3 y0).alloc (Nat.le_of_lt (C5.set 0 0 0 false false).1) (.cells #[.int .i64 0, .int .i64 0, .int .i64 0, .bool false, .bool false] 29)
        obtain ⟨WZ, hWZ⟩ : ∃ WZ, (((((wn.setCell ⟨R', 0, none⟩ (.int .i64 0)).setCell ⟨R', 1, none⟩ (.int .i64 0)).setCell ⟨R', 2, none⟩ (.int .i64 0)).setCell ⟨R', 3, none⟩ (.bool false)).setCell ⟨R', 4, none⟩ (.bool false)).alloc (.cells #[.int .i64 0, .int .i64 0, .int .i64 0, .bool false, .bool false] 29) = WZ := ⟨_, rfl⟩
        rw [hWZ] at T9 D4
        have HZ : Hid ((((((wn.setCell ⟨R', 0, none⟩ (.int .i64 0)).setCell ⟨R', 1, none⟩ (.int .i64 0)).setCell ⟨R', 2, none⟩ (.int .i64 0)).setCell ⟨R', 3, none⟩ (.bool false)).setCell ⟨R', 4, none⟩ (.bool false)).alloc (.cells #[.int .i64 0, .int .i64 0, .int .i64 0, .bool false, .bool false] 29) = WZ) := hWZ
        obtain ⟨_, ⟨t1', t2', t3', t4', t5'⟩, _⟩ := T9
        clear Bn C5 D3 hWZ HB19
        go_wp2_with fail
        rw [HZ.out]
        simp [bodyPost, results, Tryz.results13, go_sem, t1', t2', t3', t4', t5']
        exact ⟨HR3.out.symm, by rw [hX]; exact D4⟩
      · have HR3 : Hid (RES = .returned (.tuple #[.int .i64 0, .agg #[.int .i64 20, .int .i64 0, .int .i64 0, .bool false, .bool false]])) := by
          show _ = _
          rw [HR3', sm0_no iv, show smB V = badN 20 from if_neg iv]; rfl
        have SM2 : Hid (∀ W, Calls Tryz.prog 33 #[.agg #[.int .i64 (sH V), .int .u64 (sL V)]] W fun e w' => e = .returned (.tuple #[.int .i64 0, .agg #[.int .i64 20, .int .i64 0, .int .i64 0, .bool false, .bool false]]) ∧ Below W.heap.size W w') := fun W => by
          have H := SMR W
          rw [sm0_no iv, show smB V = badN 20 from if_neg iv] at H; exact H
        clear HR3' SMR iv
        go_wp2_with fail
        refine (ND.out _).mono ?_
        rintro e w15 ⟨rfl, B15⟩
        have b15 := HBR.out.keep B15 HBR.out.1
        have L15 := below_then' HBL.out B15 (Nat.le_of_lt HBR.out.1)
        have HB16 : Hid (B5 (w15.alloc (.cells #[.int .i64 0, .int .i64 0, .int .i64 0, .bool false, .bool false] 29)) R' 0 0 0 false false ∧ Below R' w (w15.alloc (.cells #[.int .i64 0, .int .i64 0, .int .i64 0, .bool false, .bool false] 29))) := ⟨b15.alloc _, L15.alloc (Nat.le_of_lt b15.1) _⟩
        clear b15 L15 B15 HBR HBL c1 c2 c3 c4 c5 c6 c7 f1 f2 f3 f4 f5 f6
        go_wp2_with fail
        generalize w15.alloc (.cells #[.int .i64 0, .int .i64 0, .int .i64 0, .bool false, .bool false] 29) = w16 at *
        refine (SC.out _).mono ?_
        rintro e w17 ⟨rfl, B17⟩
        have b17 := HB16.out.1.keep B17 HB16.out.1.1
        have L17 := below_then' HB16.out.2 B17 (Nat.le_of_lt HB16.out.1.1)
        clear HB16 B17
        go_wp2_with fail
        refine (PL.out _).mono ?_
        rintro e w18 ⟨rfl, B18⟩
        have b18 := b17.keep B18 b17.1
        have L18 := below_then' L17 B18 (Nat.le_of_lt b17.1)
        have HB19 : Hid (B5 (w18.alloc (.cells #[.int .i64 (sH V), .int .u64 (sL V)] 62)) R' 0 0 0 false false ∧ Below R' w (w18.alloc (.cells #[.int .i64 (sH V), .int .u64 (sL V)] 62))) := ⟨b18.alloc _, L18.alloc (Nat.le_of_lt b18.1) _⟩
        clear b17 L17 b18 L18 B18
        go_wp2_with fail
        generalize w18.alloc (.cells #[.int .i64 (sH V), .int .u64 (sL V)] 62) = w19 at *
        refine (SM2.out _).mono ?_
        rintro e wn ⟨rfl, Bn⟩
        have C5 := HB19.out.1.keep Bn HB19.out.1.1
        have D3 := below_then' HB19.out.2 Bn (Nat.le_of_lt HB19.out.1.1)
        obtain ⟨zr, ⟨t1, t2, t3, t4, t5⟩, e1, e2, e3, e4, e5⟩ := id C5
        have T9 := (C5.set 20 0 0 false false).alloc (.cells #[.int .i64 20, .int .i64 0, .int .i64 0, .bool false, .bool false] 29)
        have D4 := (setBad (v0 := .int .i64 20) (v1 := .int .i64 0) (v2 := .int .i64 0) (v3 := .bool false) (v4 := .bool false) D3 y0).alloc (Nat.le_of_lt (C5.set 20 0 0 false false).1) (.cells #[.int .i64 20, .int .i64 0, .int .i64 0, .bool false, .bool false] 29)
        obtain ⟨WZ, hWZ⟩ : ∃ WZ, (((((wn.setCell ⟨R', 0, none⟩ (.int .i64 20)).setCell ⟨R', 1, none⟩ (.int .i64 0)).setCell ⟨R', 2, none⟩ (.int .i64 0)).setCell ⟨R', 3, none⟩ (.bool false)).setCell ⟨R', 4, none⟩ (.bool false)).alloc (.cells #[.int .i64 20, .int .i64 0, .int .i64 0, .bool false, .bool false] 29) = WZ := ⟨_, rfl⟩
        rw [hWZ] at T9 D4
        have HZ : Hid ((((((wn.setCell ⟨R', 0, none⟩ (.int .i64 20)).setCell ⟨R', 1, none⟩ (.int .i64 0)).setCell ⟨R', 2, none⟩ (.int .i64 0)).setCell ⟨R', 3, none⟩ (.bool false)).setCell ⟨R', 4, none⟩ (.bool false)).alloc (.cells #[.int .i64 20, .int .i64 0, .int .i64 0, .bool false, .bool false] 29) = WZ) := hWZ
        obtain ⟨_, ⟨t1', t2', t3', t4', t5'⟩, _⟩ := T9
        clear Bn C5 D3 hWZ HB19
        go_wp2_with fail
        go_region
        all_goals
          go_wp2_with fail
          rw [HZ.out]
          have t1d : WZ.drew.cell? ⟨R', 0, none⟩ = some (.int .i64 20) := t1'
          have t2d : WZ.drew.cell? ⟨R', 1, none⟩ = some (.int .i64 0) := t2'
          have t3d : WZ.drew.cell? ⟨R', 2, none⟩ = some (.int .i64 0) := t3'
          have t4d : WZ.drew.cell? ⟨R', 3, none⟩ = some (.bool false) := t4'
          have t5d : WZ.drew.cell? ⟨R', 4, none⟩ = some (.bool false) := t5'
          simp [bodyPost, results, Tryz.results13, go_sem, t1', t2', t3', t4', t5', t1d, t2d, t3d, t4d, t5d]
          exact ⟨HR3.out.symm, by rw [hX]; exact D4.drew⟩
end Go.Proofs.YtipahdplkmmofaaGreatDoor

namespace Go.Proofs.YtipahdplkmmofaaGreatDoor
open Go.RowKit Go.Shelf
set_option linter.unusedVariables false
set_option linter.unusedSimpArgs false
theorem both_tm (l : List UInt8) : ∃ (n : Int) (E : Value) (c p : Int) (pl : Bool), tmRes l = .returned (.tuple #[.int .i64 n, E]) ∧ rtR l = .returned (.tuple #[.int .i64 n, .agg #[.int .i64 c, .int .i64 p, .int .i64 0, .bool pl, .bool false]]) ∧ ∀ W, ET W → Calls Tryz.prog 9 #[E, .agg #[.int .i64 c, .int .i64 p, .int .i64 0, .bool pl, .bool false]] W fun e w' => e = .returned (.bool true) ∧ Below W.heap.size W w' := by
  unfold tmRes rtR
  by_cases h : (goT l).2.2 = false ∨ (goT l).2.1 < l.length
  · rw [if_pos h, if_pos h]
    exact ⟨_, _, _, _, _, rfl, rfl, fun W hW => sameC_hit_miss [(false, ((goT l).2.1 : Int))] 41 (by decide) ((goT l).2.1 : Int) [] rfl rfl W hW⟩
  · rw [if_neg h, if_neg h]
    by_cases iv : I64 (nsC (goT l).1)
    · rw [show nE (nsC (goT l).1) = .returned (.tuple #[.int .i64 (nsC (goT l).1), .nilIface]) from nE_yes iv, sm0_yes iv, show smB (nsC (goT l).1) = bad0 from if_pos iv]
      exact ⟨_, _, _, _, _, rfl, rfl, fun W _ => same_nil W⟩
    · rw [show nE (nsC (goT l).1) = .returned (.tuple #[.int .i64 0, .iface 27 (.int .i64 20)]) from nE_no iv, sm0_no iv, show smB (nsC (goT l).1) = badN 20 from if_neg iv]
      exact ⟨_, _, _, _, _, rfl, rfl, fun W hW => same_err 20 rfl W hW⟩
set_option maxRecDepth 100000 in
set_option maxHeartbeats 4000000 in
theorem spanTimes_walk (s : ByteArray) (hs : s.size ≤ 281474976710656) (w : World) (h : SW w) : Calls Tryz.prog 4 #[.string s] w fun e w' => e = .returned (.bool true) ∧ Below w.heap.size w w' := by
  have L := fun W hW => slive_any W hW
  obtain ⟨n, E, c, p, pl, e1, e2, P3'⟩ := both_tm s.data.toList
  have P1 : Hid (∀ W, SW W → Calls Tryz.prog 12 #[.string s] W fun e w' => e = .returned (.tuple #[.int .i64 n, E]) ∧ Below W.heap.size W w') := fun W hW => by
    have H := time_any s (by omega) W hW.m
    rw [e1] at H; exact H
  have P2 : Hid (∀ W, Calls Tryz.prog 13 #[.string s] W fun e w' => e = .returned (.tuple #[.int .i64 n, .agg #[.int .i64 c, .int .i64 p, .int .i64 0, .bool pl, .bool false]]) ∧ Below W.heap.size W w') := fun W => by
    have H := rtime_any s hs W
    rw [e2] at H; exact H
  have P3 : Hid (∀ W, ET W → Calls Tryz.prog 9 #[E, .agg #[.int .i64 c, .int .i64 p, .int .i64 0, .bool pl, .bool false]] W fun e w' => e = .returned (.bool true) ∧ Below W.heap.size W w') := P3'
  have HW : Hid (SW w) := h
  clear h e1 e2 P3'
  go_enter Tryz.func4, Tryz.ntmps4
  go_wp2_with fail
  refine (L _ HW.out).mono ?_
  rintro e w1 ⟨rfl, B1⟩
  go_wp2_with fail
  refine (P1.out _ (HW.out.below B1)).mono ?_
  rintro e w2 ⟨rfl, B2⟩
  have K2 := below_then B1 B2
  clear B1 B2
  go_wp2_with fail
  refine (P2.out _).mono ?_
  rintro e w3 ⟨rfl, B3⟩
  have K3 := below_then K2 B3
  have K4 := below_new K3 (.cells #[.int .i64 c, .int .i64 p, .int .i64 0, .bool pl, .bool false] 29)
  clear K2 K3 B3
  go_wp2_with fail
  generalize w3.alloc (.cells #[.int .i64 c, .int .i64 p, .int .i64 0, .bool pl, .bool false] 29) = w4 at *
  have S4 : Hid (SW w4) := HW.out.below K4
  refine (P3.out _ S4.out.e).mono ?_
  rintro e w5 ⟨rfl, B5'⟩
  have K5 := below_then K4 B5'
  go_wp2_with fail
  go_ret
  exact ⟨rfl, K5⟩
end Go.Proofs.YtipahdplkmmofaaGreatDoor
