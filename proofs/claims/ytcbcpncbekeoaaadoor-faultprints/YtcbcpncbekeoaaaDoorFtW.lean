
import Derived.Test.YtcbcpncbekeoaaaDoorFpCW
import Derived.Test.YtcbcpncbekeoaaaDoorMadeD
import Derived.Deep.RegionHeld3
namespace Go.Proofs.YtcbcpncbekeoaaaDoor
open Go.RowKit
set_option linter.unusedVariables false
set_option linter.unusedSimpArgs false
theorem made_any (fo : Bool) (c : Int) (a : Option Addr) (len cap : Nat) (K N : Nat → Int) (hl : len ≤ 9223372036854775807) (w : World) (hW : WrapsAt w a len K N) :
    Calls Tryd.prog 5 #[.agg #[.bool fo, .int .i64 c, .slice a len cap]] w fun e w' => MD fo c (lnk K N len 0) e ∧ Below w.heap.size w w' := by
  cases fo
  · exact made_own c a len cap K N hl w hW
  · exact made_far c a len cap K N hl w hW
theorem asE_nil (t : Value) (w : World) : Calls Tryd.prog 24 #[.nilIface, t] w fun e w' => e = .returned (.bool false) ∧ w' = w := by
  go_enter Tryd.func24, Tryd.ntmps24
  go_wp2
  go_ret
  exact ⟨rfl, rfl⟩
theorem find_nil (w : World) : Calls Tryd.prog 19 #[.nilIface] w fun e w' => e = .returned (.tuple #[.int .i64 0, .bool false]) ∧ Below w.heap.size w w' := by
  go_enter_defers Tryd.func19, Tryd.ntmps19
  go_wp2_with fail
  refine (asE_nil _ _).mono ?_
  rintro ev v1 ⟨rfl, rfl⟩
  have b1 : ∀ o, Below w.heap.size w (w.alloc o) := fun o => below_new (Below.refl _ _) _
  go_wp2
  refine leaves_cons (f := 26) (args := #[]) (by simp) (by simp [go_sem]) ?_
  refine (find_defer _).mono ?_
  rintro e u' w'' ⟨rfl, rfl, rfl⟩
  simp [Leaves, settle, results, Tryd.results19, go_sem]
  exact b1 _
theorem code_nil (w : World) : Calls Tryd.prog 9 #[.nilIface] w fun e w' => e = .returned (.int .i64 0) ∧ Below w.heap.size w w' := by
  go_enter Tryd.func9, Tryd.ntmps9
  go_wp2_with fail
  refine (find_nil _).mono ?_
  rintro e w1 ⟨rfl, hb1⟩
  go_wp2
  go_ret
  exact ⟨rfl, hb1⟩
theorem WrapsAt.below {w w' : World} {a : Option Addr} {len : Nat} {K N : Nat → Int} (h : WrapsAt w a len K N) (hB : Below w.heap.size w w') : WrapsAt w' a len K N := by
  rcases h with h | ⟨b, off, rfl, hb, hc⟩
  · exact Or.inl h
  · have hs := hB.size
    exact Or.inr ⟨b, off, rfl, by omega, fun i hi => ⟨by rw [hB.cell (p := ⟨b, off + i * 2, none⟩) hb]; exact (hc i hi).1, by rw [hB.cell (p := ⟨b, off + i * 2 + 1, none⟩) hb]; exact (hc i hi).2⟩⟩
theorem keepT {w wx wy : World} {z : Nat} {v0 v1 v2 v3 v4 : Value} (B : Below wx.heap.size wx wy) (S : Below w.heap.size w wx ∧ z < wx.heap.size ∧ wx.cell? ⟨z, 0, none⟩ = some v0 ∧ wx.cell? ⟨z, 1, none⟩ = some v1 ∧ wx.cell? ⟨z, 2, none⟩ = some v2 ∧ wx.cell? ⟨z, 3, none⟩ = some v3 ∧ wx.cell? ⟨z, 4, none⟩ = some v4) :
    Below w.heap.size w wy ∧ z < wy.heap.size ∧ wy.cell? ⟨z, 0, none⟩ = some v0 ∧ wy.cell? ⟨z, 1, none⟩ = some v1 ∧ wy.cell? ⟨z, 2, none⟩ = some v2 ∧ wy.cell? ⟨z, 3, none⟩ = some v3 ∧ wy.cell? ⟨z, 4, none⟩ = some v4 := by
  obtain ⟨b, hz, c0, c1, c2, c3, c4⟩ := S
  have hs := B.size
  refine ⟨below_then b B, by omega, ?_, ?_, ?_, ?_, ?_⟩
  · rw [B.cell (p := ⟨z, 0, none⟩) hz]; exact c0
  · rw [B.cell (p := ⟨z, 1, none⟩) hz]; exact c1
  · rw [B.cell (p := ⟨z, 2, none⟩) hz]; exact c2
  · rw [B.cell (p := ⟨z, 3, none⟩) hz]; exact c3
  · rw [B.cell (p := ⟨z, 4, none⟩) hz]; exact c4
set_option maxRecDepth 100000 in
set_option maxHeartbeats 4000000 in
theorem tells_any (fo : Bool) (c : Int) (a : Option Addr) (len cap : Nat) (K N : Nat → Int) (hl : len ≤ 9223372036854775807) (w : World) (hg : ET w) (hW : WrapsAt w a len K N) :
    Calls Tryd.prog 3 #[.agg #[.bool fo, .int .i64 c, .slice a len cap]] w fun e w' => e = .returned (.bool true) ∧ Below w.heap.size w w' := by
  have hM : Hid (∀ w, WrapsAt w a len K N → Calls Tryd.prog 5 #[.agg #[.bool fo, .int .i64 c, .slice a len cap]] w fun e w' => MD fo c (lnk K N len 0) e ∧ Below w.heap.size w w') := fun w h => made_any fo c a len cap K N hl w h
  have hWH : Hid (WrapsAt w a len K N) := hW
  have hgH : Hid (ET w) := hg
  have hl0 : Hid (∀ w, ET w → Calls Tryd.prog 8 #[] w fun e w' => e = .returned (.bool true) ∧ Below w.heap.size w w') := fun w h => live1_any w h
  have hW1 : Hid (∀ o, WrapsAt (w.alloc o) a len K N) := fun o => WrapsAt.below hW (below_new (Below.refl _ _) _)
  clear hW hg
  go_enter Tryd.func3, Tryd.ntmps3
  go_wp2_with fail
  refine (hM.out _ (hW1.out _)).mono ?_
  rintro e w1 ⟨⟨bs, c', hdis, rfl⟩, B1⟩
  have P1 : Below w.heap.size w w1 := (below_new (Below.refl _ _) _).trans (B1.mono (by simp))
  have hc' : Hid (codeB bs = c') := by
    show _ = _
    rcases hdis with ⟨_, ⟨F, rfl⟩, rfl⟩ | ⟨_, rfl, rfl⟩ <;> rfl
  have kI : Hid (∀ w, ET w → Calls Tryd.prog 7 #[errW (lnk K N len 0) bs] w fun e w' => e = .returned (.tuple #[.int .i64 ((fW 1 (lnk K N len 0)).getD 0), .bool (fW 1 (lnk K N len 0)).isSome]) ∧ Below w.heap.size w w') := fun w h => indexW _ bs w h
  have kA : Hid (∀ w, ET w → Calls Tryd.prog 6 #[errW (lnk K N len 0) bs] w fun e w' => e = .returned (.tuple #[.int .i64 ((fW 0 (lnk K N len 0)).getD 0), .bool (fW 0 (lnk K N len 0)).isSome]) ∧ Below w.heap.size w w') := fun w h => placeW _ bs w h
  have kC : Hid (∀ w, ET w → Calls Tryd.prog 9 #[errW (lnk K N len 0) bs] w fun e w' => e = .returned (.int .i64 c') ∧ Below w.heap.size w w') := fun w h => by rw [← hc'.out]; exact codeW _ bs w h
  have kZ : Hid (∀ w, Calls Tryd.prog 9 #[.nilIface] w fun e w' => e = .returned (.int .i64 0) ∧ Below w.heap.size w w') := fun w => code_nil w
  obtain ⟨tt, pp, hV⟩ := errW_iface (lnk K N len 0) bs
  rw [hV] at kI kA kC ⊢
  obtain ⟨fa, hfa⟩ : ∃ x, x = (fW 0 (lnk K N len 0)).getD 0 := ⟨_, rfl⟩
  obtain ⟨fi, hfi⟩ : ∃ x, x = (fW 1 (lnk K N len 0)).getD 0 := ⟨_, rfl⟩
  obtain ⟨pa, hpa⟩ : ∃ x, x = (fW 0 (lnk K N len 0)).isSome := ⟨_, rfl⟩
  obtain ⟨pi, hpi⟩ : ∃ x, x = (fW 1 (lnk K N len 0)).isSome := ⟨_, rfl⟩
  rw [← hfa, ← hpa] at kA
  rw [← hfi, ← hpi] at kI
  rw [← hfa, ← hpa, ← hfi, ← hpi]
  obtain ⟨W2, hW2⟩ : ∃ W, W = w1.alloc (.cells #[.int .i64 c', .int .i64 fa, .int .i64 fi, .bool pa, .bool pi] 29) := ⟨_, rfl⟩
  have S0 : Below w.heap.size w W2 ∧ w1.heap.size < W2.heap.size ∧ W2.cell? ⟨w1.heap.size, 0, none⟩ = some (.int .i64 c') ∧ W2.cell? ⟨w1.heap.size, 1, none⟩ = some (.int .i64 fa) ∧ W2.cell? ⟨w1.heap.size, 2, none⟩ = some (.int .i64 fi) ∧ W2.cell? ⟨w1.heap.size, 3, none⟩ = some (.bool pa) ∧ W2.cell? ⟨w1.heap.size, 4, none⟩ = some (.bool pi) := by
    rw [hW2]
    exact ⟨below_new P1 _, by simp, by simp [go_sem], by simp [go_sem], by simp [go_sem], by simp [go_sem], by simp [go_sem]⟩
  have hW2H : Hid _ := hW2
  clear hfa hfi hpa hpi hV hdis hM hW1 hWH hc' hW2
  go_wp2_with fail
  rw [← hW2H.out]
  refine (kA.out _ (ET_below hgH.out S0.1)).mono ?_
  rintro e w2 ⟨rfl, B2⟩
  have S2 := keepT B2 S0
  clear S0 B2
  go_wp2_with fail
  refine (kI.out _ (ET_below hgH.out S2.1)).mono ?_
  rintro e w3 ⟨rfl, B3⟩
  have S3 := keepT B3 S2
  have S3d : Below w.heap.size w w3.drew ∧ w1.heap.size < w3.drew.heap.size ∧ w3.drew.cell? ⟨w1.heap.size, 0, none⟩ = some (.int .i64 c') ∧ w3.drew.cell? ⟨w1.heap.size, 1, none⟩ = some (.int .i64 fa) ∧ w3.drew.cell? ⟨w1.heap.size, 2, none⟩ = some (.int .i64 fi) ∧ w3.drew.cell? ⟨w1.heap.size, 3, none⟩ = some (.bool pa) ∧ w3.drew.cell? ⟨w1.heap.size, 4, none⟩ = some (.bool pi) := ⟨S3.1.drew, S3.2⟩
  clear S2 B3
  go_upto_region 4 with fail
  go_region_held3 (fun w' => Below w.heap.size w w' ∧ w1.heap.size < w'.heap.size ∧ w'.cell? ⟨w1.heap.size, 0, none⟩ = some (.int .i64 c') ∧ w'.cell? ⟨w1.heap.size, 1, none⟩ = some (.int .i64 fa) ∧ w'.cell? ⟨w1.heap.size, 2, none⟩ = some (.int .i64 fi) ∧ w'.cell? ⟨w1.heap.size, 3, none⟩ = some (.bool pa) ∧ w'.cell? ⟨w1.heap.size, 4, none⟩ = some (.bool pi)) (first | assumption)
    (first
      | (go_at_call 8; (with_reducible refine Calls.mono (hl0.out _ (ET_below hgH.out (by assumption : _ ∧ _).1)) ?_); rintro e w' ⟨rfl, BB⟩; have SS := keepT BB (by assumption))
      | (go_at_call 9; (with_reducible refine Calls.mono (kZ.out _) ?_); rintro e w' ⟨rfl, BB⟩; have SS := keepT BB (by assumption))
      | (go_at_call 9; (with_reducible refine Calls.mono (kC.out _ (ET_below hgH.out (by assumption : _ ∧ _).1)) ?_); rintro e w' ⟨rfl, BB⟩; have SS := keepT BB (by assumption)))
  all_goals
    go_wp2_with fail
    go_ret
    exact ⟨rfl, (by assumption : Below w.heap.size w _ ∧ _).1⟩
end Go.Proofs.YtcbcpncbekeoaaaDoor
