
import Derived.Test.YtcbcpncbekeoaaaDoorMadeC
namespace Go.Proofs.YtcbcpncbekeoaaaDoor
open Go.RowKit
set_option linter.unusedVariables false
set_option linter.unusedSimpArgs false
theorem MZ.startF (w : World) (fo : Bool) (c : Int) (sl : Value) : MZ w fo c sl 0 0 0 false false (((w.alloc (.cells #[.bool fo, .int .i64 c, sl] 25)).alloc (.cells #[.int .i64 0, .int .i64 0, .int .i64 0, .bool false, .bool false] 29)).alloc (.cells #[.int .i64 0, .int .i64 0, .int .i64 0, .bool false, .bool false] 29)) := by
  refine ⟨⟨by simp [go_sem], by simp [go_sem], by simp [go_sem]⟩, ⟨by simp [go_sem], by simp [go_sem], by simp [go_sem], by simp [go_sem], by simp [go_sem]⟩, ⟨by simp [go_sem], by simp [go_sem], by simp [go_sem], by simp [go_sem], by simp [go_sem]⟩, fun k o hk => ?_, below_new (below_new (below_new (Below.refl _ _) _) _) _, by simp⟩
  rcases Nat.lt_or_ge k 1 with h | h
  · obtain rfl : k = 0 := by omega
    simp [go_sem]
  · rcases Nat.lt_or_ge k 2 with h2 | h2
    · obtain rfl : k = 1 := by omega
      simp [go_sem]
    · obtain rfl : k = 2 := by omega
      simp [go_sem]
set_option maxRecDepth 100000 in
set_option maxHeartbeats 4000000 in
theorem made_far (c : Int) (a : Option Addr) (len cap : Nat) (K N : Nat → Int) (hl : len ≤ 9223372036854775807) (w : World) (hW : WrapsAt w a len K N) :
    Calls Tryd.prog 5 #[.agg #[.bool true, .int .i64 c, .slice a len cap]] w fun e w' => MD true c (lnk K N len 0) e ∧ Below w.heap.size w w' := by
  have ZS : Hid _ := MZ.startF w true c (.slice a len cap)
  have hWr : Hid _ := hW
  have hFin0 : ∀ e, e = .returned (.tuple #[errW (lnk K N len 0) (.inr (w.heap.size + 1 + 1 + 1)), .agg #[.int .i64 0, .int .i64 ((fW 0 (lnk K N len 0)).getD 0), .int .i64 ((fW 1 (lnk K N len 0)).getD 0), .bool (fW 0 (lnk K N len 0)).isSome, .bool (fW 1 (lnk K N len 0)).isSome]]) → MD true c (lnk K N len 0) e := fun e he => ⟨.inr _, 0, Or.inl ⟨rfl, ⟨_, rfl⟩, rfl⟩, he⟩
  have hlw : wrap64 ((len : Int) - 1) = (len : Int) - 1 := by unfold wrap64; omega
  clear hW
  go_enter Tryd.func5, Tryd.ntmps5
  go_wp2_with (go_at_call 12; refine (newErr _).mono ?_; rintro e w' ⟨rfl, rfl⟩)
  go_loopw [4, 6] (fun x y wx => ∃ k : Nat, k ≤ len ∧ x = errW (lnk K N len k) (.inr (w.heap.size + 1 + 1 + 1)) ∧ y = .int .i64 ((k : Int) - 1) ∧ MZ w true c (.slice a len cap) 0 ((fW 0 (lnk K N len k)).getD 0) ((fW 1 (lnk K N len k)).getD 0) (fW 0 (lnk K N len k)).isSome (fW 1 (lnk K N len k)).isSome wx) (fun _ y _ => (intOf y + 1).toNat)
  case atStart => exact ⟨len, Nat.le_refl _, by rw [lnk_end]; rfl, by go_num, by rw [lnk_end]; exact ZS.out.below (below_new (Below.refl _ _) _)⟩
  case round =>
    clear ZS
    obtain ⟨k, hk, rfl, rfl, hZ⟩ := hrel
    rcases k with _ | m
    · have hFin : Hid _ := hFin0
      obtain ⟨r0, r1, r2, r3, r4⟩ := hZ.r
      obtain ⟨e0, e1, e2, e3, e4⟩ := hZ.e
      have f0 : wr.frozen? ⟨w.heap.size + 1, 0, none⟩ = false := hZ.f 1 0 (by omega)
      have f1 : wr.frozen? ⟨w.heap.size + 1, 1, none⟩ = false := hZ.f 1 1 (by omega)
      have f2 : wr.frozen? ⟨w.heap.size + 1, 2, none⟩ = false := hZ.f 1 2 (by omega)
      have f3 : wr.frozen? ⟨w.heap.size + 1, 3, none⟩ = false := hZ.f 1 3 (by omega)
      have f4 : wr.frozen? ⟨w.heap.size + 1, 4, none⟩ = false := hZ.f 1 4 (by omega)
      have hb := hZ.b
      have hsz := hZ.sz
      obtain ⟨A1, hA1⟩ : ∃ v, v = (fW 0 (lnk K N len 0)).getD 0 := ⟨_, rfl⟩
      obtain ⟨I1, hI1⟩ : ∃ v, v = (fW 1 (lnk K N len 0)).getD 0 := ⟨_, rfl⟩
      obtain ⟨P1, hP1⟩ : ∃ v, v = (fW 0 (lnk K N len 0)).isSome := ⟨_, rfl⟩
      obtain ⟨Q1, hQ1⟩ : ∃ v, v = (fW 1 (lnk K N len 0)).isSome := ⟨_, rfl⟩
      obtain ⟨V, hV⟩ : ∃ v, v = errW (lnk K N len 0) (.inr (w.heap.size + 1 + 1 + 1)) := ⟨_, rfl⟩
      rw [← hA1] at e1
      rw [← hI1] at e2
      rw [← hP1] at e3
      rw [← hQ1] at e4
      rw [← hV]
      rw [← hA1, ← hI1, ← hP1, ← hQ1, ← hV] at hFin
      clear hA1 hI1 hP1 hQ1 hV hZ hFin0
      go_wp2_with fail
      go_region
      all_goals
        go_wp2_with fail
        simp [bodyPost, results, Tryd.results5, go_sem, r0, r1, r2, r3, r4]
        first | exact ⟨hFin.out _ rfl, setBad5 hb (Nat.le_succ _)⟩ | exact ⟨hFin.out _ rfl, (setBad5 hb (Nat.le_succ _)).drew⟩
    · rcases hWr.out with h0 | ⟨b, off, rfl, hbk, hc⟩
      · omega
      have hm : m < len := by omega
      have km : ((m + 1 : Nat) : Int) - 1 = (m : Int) := by omega
      rw [km]
      have mI : (m : Int) < (len : Int) := by omega
      have m0 : (0 : Int) ≤ (m : Int) := by omega
      have sl := hZ.s.2.2
      have sz0 := hZ.sz
      have z0 : wr.cell? ⟨b, off + m * 2, none⟩ = some (.int .i64 (K m)) := by rw [hZ.b.cell (p := ⟨b, off + m * 2, none⟩) hbk]; exact (hc m hm).1
      have z1 : wr.cell? ⟨b, off + m * 2 + 1, none⟩ = some (.int .i64 (N m)) := by rw [hZ.b.cell (p := ⟨b, off + m * 2 + 1, none⟩) hbk]; exact (hc m hm).2
      have g1 : wr.frozen? ⟨w.heap.size + 1 + 1, 1, none⟩ = false := hZ.f 2 1 (by omega)
      have g2 : wr.frozen? ⟨w.heap.size + 1 + 1, 2, none⟩ = false := hZ.f 2 2 (by omega)
      have g3 : wr.frozen? ⟨w.heap.size + 1 + 1, 3, none⟩ = false := hZ.f 2 3 (by omega)
      have g4 : wr.frozen? ⟨w.heap.size + 1 + 1, 4, none⟩ = false := hZ.f 2 4 (by omega)
      obtain ⟨-, e1, e2, e3, e4⟩ := hZ.e
      have hZH : Hid _ := hZ
      have hcons : Hid _ := lnk_cons K N len m hm
      have wm : wrap64 ((m : Int) - 1) = (m : Int) - 1 := by unfold wrap64; omega
      obtain ⟨tt, pp, hV0⟩ := errW_iface (lnk K N len (m + 1)) (.inr (w.heap.size + 1 + 1 + 1))
      have hV : Hid _ := hV0
      rw [hV0]
      clear hV0 hZ hFin0 hWr hc
      by_cases h0 : K m = 0
      · rw [h0] at z0
        have h0H : Hid _ := h0
        clear h0
        go_wp2_with fail
        go_roundw
        case measure => simp [intOf]
        case rel =>
          refine ⟨m, by omega, ?_, by go_num, ?_⟩
          · rw [hcons.out, h0H.out]; simp only [kindN, if_true, errW, hV.out]
          · rw [hcons.out, h0H.out]; simp only [kindN, if_true, fW_hit, Option.getD_some, Option.isSome_some]
            rw [fW_miss 1 0 _ _ (by decide)]
            exact (hZH.out.set 1 (.int .i64 (N m)) (a2 := N m) rfl (by intro k hk; match k, hk with | 0, _ => rfl | 1, h => exact absurd rfl h | 2, _ => rfl | 3, _ => rfl | 4, _ => rfl | k + 5, _ => rfl)).set 3 (.bool true) (P2 := true) rfl (by intro k hk; match k, hk with | 0, _ => rfl | 1, _ => rfl | 2, _ => rfl | 3, h => exact absurd rfl h | 4, _ => rfl | k + 5, _ => rfl)
      · by_cases h1 : K m = 1
        · rw [h1] at z0
          have h1H : Hid _ := h1
          clear h1 h0
          go_wp2_with fail
          go_roundw
          case measure => simp [intOf]
          case rel =>
            refine ⟨m, by omega, ?_, by go_num, ?_⟩
            · rw [hcons.out, h1H.out]; simp [kindN, errW, hV.out]
            · rw [hcons.out, h1H.out]
              have k1 : kindN 1 = 1 := rfl
              rw [k1, fW_miss 0 1 _ _ (by decide), fW_hit]
              simp only [Option.getD_some, Option.isSome_some]
              exact (hZH.out.set 2 (.int .i64 (N m)) (i2 := N m) rfl (by intro k hk; match k, hk with | 0, _ => rfl | 1, _ => rfl | 2, h => exact absurd rfl h | 3, _ => rfl | 4, _ => rfl | k + 5, _ => rfl)).set 4 (.bool true) (Q2 := true) rfl (by intro k hk; match k, hk with | 0, _ => rfl | 1, _ => rfl | 2, _ => rfl | 3, _ => rfl | 4, h => exact absurd rfl h | k + 5, _ => rfl)
        · have k2 : Hid _ := (show kindN (K m) = 2 by unfold kindN; simp [h0, h1])
          go_wp2_with fail
          go_roundw
          case measure => simp [intOf]
          case rel =>
            refine ⟨m, by omega, ?_, by go_num, ?_⟩
            · rw [hcons.out, k2.out]; simp [errW, hV.out]
            · rw [hcons.out, k2.out, fW_miss 0 2 _ _ (by decide), fW_miss 1 2 _ _ (by decide)]
              exact hZH.out
end Go.Proofs.YtcbcpncbekeoaaaDoor
