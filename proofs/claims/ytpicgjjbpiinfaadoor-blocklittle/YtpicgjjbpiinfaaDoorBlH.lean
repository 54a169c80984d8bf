
import Derived.Test.YtpicgjjbpiinfaaDoorBlG
namespace Go.Proofs.YtpicgjjbpiinfaaDoor
open Go.RowKit
set_option linter.unusedVariables false
set_option linter.unusedSimpArgs false
/-- the times of live. -/
def zL (i : Nat) : Int := [0, 10, 21].getD i 0
theorem zL_rises : Rises zL 3 := by
  intro i h1 h2
  have : i = 1 ∨ i = 2 := by omega
  rcases this with rfl | rfl <;> decide
theorem zL_bytes : (timesS zL 3 3).1 = [3, 0, 10, 160, 0] := by decide +kernel
set_option maxRecDepth 100000 in
set_option maxHeartbeats 4000000 in
theorem live_block (w : World) (hct : CT w) (hg : 1 < w.heap.size) : Calls Tryd.prog 7 #[] w fun e w' => e = .returned (.bool true) ∧ Below w.heap.size w w' := by
  have hB1 := below_new (Below.refl _ w) (.cells #[.int .i64 0, .int .i64 10, .int .i64 21] 2)
  have hin : IsIn (w.alloc (.cells #[.int .i64 0, .int .i64 10, .int .i64 21] 2)) (some ⟨w.heap.size, 0, none⟩) 3 zL := by
    refine ⟨by omega, fun i => ?_, Or.inr ⟨w.heap.size, 0, rfl, by simp, fun i hi => ?_⟩⟩
    · unfold zL
      rcases i with _ | _ | _ | i <;> simp
    · have : i = 0 ∨ i = 1 ∨ i = 2 := by omega
      rcases this with rfl | rfl | rfl <;> simp [zL, go_sem]
  have hT : Hid _ := times_any (some ⟨w.heap.size, 0, none⟩) 3 3 zL _ hin (CT_below hct hB1 hg) (by have := hB1.size; omega)
  clear hin hct
  go_enter Tryd.func7, Tryd.ntmps7
  go_wp2_with fail
  refine Calls.mono hT.out ?_
  rintro e w2 ⟨hE, hB2⟩
  have hB02 := below_then hB1 hB2
  clear hT hB1 hB2
  rcases hE with ⟨h, _⟩ | ⟨_, h, _⟩ | ⟨_, _, ta, tc, rfl, hin2⟩
  · omega
  · exact absurd zL_rises h
  rw [zL_bytes] at hin2 ⊢
  have hin2H : Hid (BytesIn w2 ta 5 (natsOf [3, 0, 10, 160, 0])) := hin2
  clear hin2
  have hBv := below_new (Below.refl _ w2) (.cells #[.int .u8 0, .int .i64 1] 26)
  have hV : Hid _ := values_one w2.heap.size 0 1 (w2.alloc (.cells #[.int .u8 0, .int .i64 1] 26)) (by simp) (by simp [go_sem]) (by simp [go_sem])
  simp only [List.length_cons, List.length_nil, Nat.reduceAdd] at hV ⊢
  go_wp2_with fail
  refine Calls.mono hV.out ?_
  rintro e w3 ⟨⟨va, vc, rfl, hin3⟩, hB3⟩
  have hB23 := below_then hBv hB3
  have hin2' := hin2H.out.below hB23
  have hB03 := below_then hB02 hB23
  have hin3H : Hid (BytesIn w3 va 3 (natsOf [1, 129, 128])) := hin3
  have hin2aH : Hid (BytesIn w3 ta 5 (natsOf [3, 0, 10, 160, 0])) := hin2'
  clear hV hBv hB3 hB23 hin2' hin2H hB02 hin3
  have hBn := below_new (Below.refl _ w3) (.cells #[.int .u8 3, .int .u8 0, .int .u8 10, .int .u8 160, .int .u8 0] 5)
  have hnew : BytesIn (w3.alloc (.cells #[.int .u8 3, .int .u8 0, .int .u8 10, .int .u8 160, .int .u8 0] 5)) (some ⟨w3.heap.size, 0, none⟩) 5 (natsOf [3, 0, 10, 160, 0]) := ⟨by omega, Or.inr ⟨w3.heap.size, 0, rfl, by simp, bytes_new w3 [3, 0, 10, 160, 0] _ _ rfl (by simp)⟩⟩
  have hS1 : Hid _ := same_in ta (some ⟨w3.heap.size, 0, none⟩) 5 tc 5 (natsOf [3, 0, 10, 160, 0]) _ (hin2aH.out.below hBn) hnew
  have hBnH : Hid _ := hBn
  clear hnew hBn
  go_wp2_with fail
  refine Calls.mono hS1.out ?_
  rintro e w4 ⟨rfl, hB4⟩
  have hB34 := below_then hBnH.out hB4
  have hB04 := below_then hB03 hB34
  have hBm := below_new (Below.refl _ w4) (.cells #[.int .u8 1, .int .u8 129, .int .u8 128] 5)
  have hnew2 : BytesIn (w4.alloc (.cells #[.int .u8 1, .int .u8 129, .int .u8 128] 5)) (some ⟨w4.heap.size, 0, none⟩) 3 (natsOf [1, 129, 128]) := ⟨by omega, Or.inr ⟨w4.heap.size, 0, rfl, by simp, bytes_new w4 [1, 129, 128] _ _ rfl (by simp)⟩⟩
  have hS2 : Hid _ := same_in va (some ⟨w4.heap.size, 0, none⟩) 3 vc 3 (natsOf [1, 129, 128]) _ ((hin3H.out.below hB34).below hBm) hnew2
  have hBmH : Hid _ := hBm
  clear hnew2 hBm hS1 hB4 hB34 hB03
  go_wp2_with fail
  refine Calls.mono hS2.out ?_
  rintro e w5 ⟨rfl, hB5⟩
  have hB05 := below_then hB04 (below_then hBmH.out hB5)
  go_wp2_with fail
  go_ret
  exact ⟨rfl, hB05⟩
end Go.Proofs.YtpicgjjbpiinfaaDoor
