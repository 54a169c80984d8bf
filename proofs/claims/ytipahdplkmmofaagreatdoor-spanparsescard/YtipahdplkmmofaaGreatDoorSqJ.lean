
import Derived.Test.YtipahdplkmmofaaGreatDoorSqI
namespace Go.Proofs.YtipahdplkmmofaaGreatDoor
open Go.RowKit
set_option linter.unusedVariables false
set_option linter.unusedSimpArgs false
theorem below_then' {B : Nat} {a b c : World} (h : Below B a b) (h2 : Below b.heap.size b c) (hB : B ≤ b.heap.size) : Below B a c := h.trans (h2.mono hB)
theorem odd_step (O V k : Int) (h : k % 2 = 1) : O + V + (V + V) * (k / 2) = O + V * k := by
  obtain ⟨q, rfl⟩ : ∃ q, k = 2 * q + 1 := ⟨k / 2, by omega⟩
  rw [show (2 * q + 1) / 2 = q by omega, Int.mul_add, Int.mul_one, Int.add_mul, Int.mul_left_comm]
  omega
theorem even_step (O V k : Int) (h : k % 2 = 0) : O + (V + V) * (k / 2) = O + V * k := by
  obtain ⟨q, rfl⟩ : ∃ q, k = 2 * q := ⟨k / 2, by omega⟩
  rw [show (2 * q) / 2 = q by omega, Int.add_mul, Int.mul_left_comm]
  omega
theorem plus_sat (a b : Int) (a0 : 0 ≤ a) (b0 : 0 ≤ b) (w : World) :
    Calls Tryz.prog 31 #[.agg #[.int .i64 (sH (sat a)), .int .u64 (sL (sat a))], .agg #[.int .i64 (sH (sat b)), .int .u64 (sL (sat b))]] w fun e w' => e = .returned (.agg #[.int .i64 (sH (sat (a + b))), .int .u64 (sL (sat (a + b)))]) ∧ Below w.heap.size w w' := by
  have H := plus4_any (sat a) (sat b) (sat_bd a0).1 (sat_bd a0).2 (sat_bd b0).1 (sat_bd b0).2 w
  rw [sat_add a0 b0] at H
  exact H
set_option maxRecDepth 100000 in
set_option maxHeartbeats 2000000 in
theorem times_any (v n : Int) (v0 : 0 ≤ v) (n0 : 0 ≤ n) (n1 : n ≤ 604800000000000) (w : World) :
    Calls Tryz.prog 32 #[.agg #[.int .i64 (sH (sat v)), .int .u64 (sL (sat v))], .int .i64 n] w fun e w' => e = .returned (.agg #[.int .i64 (sH (sat (v * n))), .int .u64 (sL (sat (v * n)))]) ∧ Below w.heap.size w w' := by
  have P : Hid (∀ a b W, 0 ≤ a → 0 ≤ b → Calls Tryz.prog 31 #[.agg #[.int .i64 (sH (sat a)), .int .u64 (sL (sat a))], .agg #[.int .i64 (sH (sat b)), .int .u64 (sL (sat b))]] W fun e w' => e = .returned (.agg #[.int .i64 (sH (sat (a + b))), .int .u64 (sL (sat (a + b)))]) ∧ Below W.heap.size W w') := fun a b W ha hb => plus_sat a b ha hb W
  obtain ⟨T, hT⟩ : ∃ T, v * n = T := ⟨_, rfl⟩
  have hTH : Hid (0 + v * n = T) := by show _ = _; omega
  rw [hT]
  clear hT
  have z0 : sH (sat 0) = 0 ∧ sL (sat 0) = 0 := by decide
  obtain ⟨W0, hW0⟩ : ∃ W, W = (((w.alloc (.cells #[.int .i64 (sH (sat v)), .int .u64 (sL (sat v))] 62)).alloc (.cells #[.int .i64 0, .int .u64 0] 62)).alloc (.cells #[.int .i64 0, .int .u64 0] 62)) := ⟨_, rfl⟩
  have bW : Below w.heap.size w W0 := by rw [hW0]; exact below_new (below_new (below_new (Below.refl _ _) _) _) _
  have sV : SM W0 w.heap.size (sH (sat v)) (sL (sat v)) := by rw [hW0]; exact ((SM.new _ _ _ _ rfl).alloc _).alloc _
  have sR : SM W0 (w.heap.size + 1) 0 0 := by rw [hW0]; exact (SM.new _ 0 0 _ (by simp)).alloc _
  have sO : SM W0 (w.heap.size + 1 + 1) (sH (sat 0)) (sL (sat 0)) := by rw [hW0, z0.1, z0.2]; exact SM.new _ _ _ _ (by simp)
  have HS : Hid (SM W0 w.heap.size (sH (sat v)) (sL (sat v)) ∧ SM W0 (w.heap.size + 1) 0 0 ∧ SM W0 (w.heap.size + 1 + 1) (sH (sat 0)) (sL (sat 0)) ∧ Below w.heap.size w W0) := ⟨sV, sR, sO, bW⟩
  have HW : Hid (W0 = (((w.alloc (.cells #[.int .i64 (sH (sat v)), .int .u64 (sL (sat v))] 62)).alloc (.cells #[.int .i64 0, .int .u64 0] 62)).alloc (.cells #[.int .i64 0, .int .u64 0] 62))) := hW0
  clear hW0 sV sR sO z0 bW
  go_enter Tryz.func32, Tryz.ntmps32
  go_wp2
  rw [← HW.out]
  clear HW
  have x1 : w.heap.size ≠ w.heap.size + 1 := by omega
  have x2 : w.heap.size ≠ w.heap.size + 1 + 1 := by omega
  have x3 : w.heap.size + 1 ≠ w.heap.size + 1 + 1 := by omega
  have y1 : w.heap.size ≤ w.heap.size + 1 := by omega
  have y2 : w.heap.size ≤ w.heap.size + 1 + 1 := by omega
  have y0 : w.heap.size ≤ w.heap.size := by omega
  generalize w.heap.size + 1 + 1 = O' at *
  generalize w.heap.size + 1 = R' at *
  generalize hX : w.heap.size = V' at *
  go_loopw [1] (fun n wr => ∃ k V O : Int, n = .int .i64 k ∧ 0 ≤ k ∧ k ≤ 604800000000000 ∧ 0 ≤ V ∧ 0 ≤ O ∧ Hid (O + V * k = T) ∧ Hid (SM wr V' (sH (sat V)) (sL (sat V)) ∧ SM wr R' 0 0 ∧ SM wr O' (sH (sat O)) (sL (sat O)) ∧ Below V' w wr)) (fun n _ => (intOf n).toNat)
  case atStart => exact ⟨n, v, 0, rfl, n0, n1, v0, by omega, hTH, HS⟩
  case round =>
    obtain ⟨k, V, O, rfl, k0, k1, V0, O0, hE, hS⟩ := hrel
    clear HS hTH
    by_cases hk : 0 < k
    · by_cases ho : k % 2 = 1
      · have b1 : (k % 2 == 1) = true := by simp [ho]
        have hE' : Hid (O + V + (V + V) * (k / 2) = T) := by show _ = _; rw [odd_step O V k ho]; exact hE.out
        obtain ⟨sV, sR, sO, bl⟩ := hS.out
        obtain ⟨_, v1, v2, v3, v4⟩ := id sV
        obtain ⟨_, o1, o2, o3, o4⟩ := id sO
        have PO := P.out O V wr O0 V0
        have HSV : Hid (SM wr V' (sH (sat V)) (sL (sat V)) ∧ SM wr R' 0 0 ∧ SM wr O' (sH (sat O)) (sL (sat O)) ∧ Below V' w wr) := ⟨sV, sR, sO, bl⟩
        clear sV sR sO bl
        go_wp2_with fail
        refine PO.mono ?_
        rintro e w1 ⟨rfl, B1⟩
        clear v1 v2 v3 v4 o1 o2 o3 o4 PO
        obtain ⟨sV, sR, sO, bl⟩ := HSV.out
        have sV1 := sV.keep B1 sV.1
        have sR1 := sR.keep B1 sR.1
        have sO1 := sO.keep B1 sO.1
        have bl1 := below_then' bl B1 (Nat.le_of_lt sV.1)
        obtain ⟨_, v1, v2, v3, v4⟩ := id sV1
        obtain ⟨_, o1, o2, o3, o4⟩ := id sO1
        have P2 : Hid (∀ W, Calls Tryz.prog 31 #[.agg #[.int .i64 (sH (sat V)), .int .u64 (sL (sat V))], .agg #[.int .i64 (sH (sat V)), .int .u64 (sL (sat V))]] W fun e w' => e = .returned (.agg #[.int .i64 (sH (sat (V + V))), .int .u64 (sL (sat (V + V)))]) ∧ Below W.heap.size W w') := fun W => P.out V V W V0 V0
        have HT : Hid (SM ((w1.setCell ⟨O', 0, none⟩ (.int .i64 (sH (sat (O + V))))).setCell ⟨O', 1, none⟩ (.int .u64 (sL (sat (O + V))))) V' (sH (sat V)) (sL (sat V)) ∧ SM ((w1.setCell ⟨O', 0, none⟩ (.int .i64 (sH (sat (O + V))))).setCell ⟨O', 1, none⟩ (.int .u64 (sL (sat (O + V))))) R' 0 0 ∧ SM ((w1.setCell ⟨O', 0, none⟩ (.int .i64 (sH (sat (O + V))))).setCell ⟨O', 1, none⟩ (.int .u64 (sL (sat (O + V))))) O' (sH (sat (O + V))) (sL (sat (O + V))) ∧ Below V' w ((w1.setCell ⟨O', 0, none⟩ (.int .i64 (sH (sat (O + V))))).setCell ⟨O', 1, none⟩ (.int .u64 (sL (sat (O + V)))))) := ⟨(sV1.far x2 _).far x2 _, (sR1.far x3 _).far x3 _, sO1.set _ _, below_set2 bl1 y2⟩
        clear sV sR sO bl sV1 sR1 sO1 bl1 B1 HSV hS hE
        go_wp2_with fail
        generalize (w1.setCell ⟨O', 0, none⟩ (.int .i64 (sH (sat (O + V))))).setCell ⟨O', 1, none⟩ (.int .u64 (sL (sat (O + V)))) = w1s at *
        clear v1 v2 v3 v4 o1 o2 o3 o4
        refine (P2.out _).mono ?_
        rintro e w2 ⟨rfl, B2⟩
        obtain ⟨sV, sR, sO, bl⟩ := HT.out
        have sV1 := sV.keep B2 sV.1
        have sR1 := sR.keep B2 sR.1
        have sO1 := sO.keep B2 sO.1
        have bl1 := below_then' bl B2 (Nat.le_of_lt sV.1)
        obtain ⟨_, v1, v2, v3, v4⟩ := id sV1
        have HF : Hid (SM ((w2.setCell ⟨V', 0, none⟩ (.int .i64 (sH (sat (V + V))))).setCell ⟨V', 1, none⟩ (.int .u64 (sL (sat (V + V))))) V' (sH (sat (V + V))) (sL (sat (V + V))) ∧ SM ((w2.setCell ⟨V', 0, none⟩ (.int .i64 (sH (sat (V + V))))).setCell ⟨V', 1, none⟩ (.int .u64 (sL (sat (V + V))))) R' 0 0 ∧ SM ((w2.setCell ⟨V', 0, none⟩ (.int .i64 (sH (sat (V + V))))).setCell ⟨V', 1, none⟩ (.int .u64 (sL (sat (V + V))))) O' (sH (sat (O + V))) (sL (sat (O + V))) ∧ Below V' w ((w2.setCell ⟨V', 0, none⟩ (.int .i64 (sH (sat (V + V))))).setCell ⟨V', 1, none⟩ (.int .u64 (sL (sat (V + V)))))) := ⟨sV1.set _ _, (sR1.far (Ne.symm x1) _).far (Ne.symm x1) _, (sO1.far (Ne.symm x2) _).far (Ne.symm x2) _, below_set2 bl1 y0⟩
        clear sV sR sO bl sV1 sR1 sO1 bl1 B2 HT P2
        go_wp2_with fail
        go_roundw
        case rel => exact ⟨k / 2, V + V, O + V, by go_num, by omega, by omega, by omega, by omega, hE', HF⟩
        case measure => simp [intOf]; omega
      · have ho' : k % 2 = 0 := by omega
        have b1 : (k % 2 == 1) = false := by simp [ho']
        have hE' : Hid (O + (V + V) * (k / 2) = T) := by show _ = _; rw [even_step O V k ho']; exact hE.out
        obtain ⟨sV, sR, sO, bl⟩ := hS.out
        obtain ⟨_, v1, v2, v3, v4⟩ := id sV
        have P2 : Hid (∀ W, Calls Tryz.prog 31 #[.agg #[.int .i64 (sH (sat V)), .int .u64 (sL (sat V))], .agg #[.int .i64 (sH (sat V)), .int .u64 (sL (sat V))]] W fun e w' => e = .returned (.agg #[.int .i64 (sH (sat (V + V))), .int .u64 (sL (sat (V + V)))]) ∧ Below W.heap.size W w') := fun W => P.out V V W V0 V0
        have HT : Hid (SM wr V' (sH (sat V)) (sL (sat V)) ∧ SM wr R' 0 0 ∧ SM wr O' (sH (sat O)) (sL (sat O)) ∧ Below V' w wr) := ⟨sV, sR, sO, bl⟩
        clear sV sR sO bl hS hE
        go_wp2_with fail
        clear v1 v2 v3 v4
        refine (P2.out _).mono ?_
        rintro e w2 ⟨rfl, B2⟩
        obtain ⟨sV, sR, sO, bl⟩ := HT.out
        have sV1 := sV.keep B2 sV.1
        have sR1 := sR.keep B2 sR.1
        have sO1 := sO.keep B2 sO.1
        have bl1 := below_then' bl B2 (Nat.le_of_lt sV.1)
        obtain ⟨_, v1, v2, v3, v4⟩ := id sV1
        have HF : Hid (SM ((w2.setCell ⟨V', 0, none⟩ (.int .i64 (sH (sat (V + V))))).setCell ⟨V', 1, none⟩ (.int .u64 (sL (sat (V + V))))) V' (sH (sat (V + V))) (sL (sat (V + V))) ∧ SM ((w2.setCell ⟨V', 0, none⟩ (.int .i64 (sH (sat (V + V))))).setCell ⟨V', 1, none⟩ (.int .u64 (sL (sat (V + V))))) R' 0 0 ∧ SM ((w2.setCell ⟨V', 0, none⟩ (.int .i64 (sH (sat (V + V))))).setCell ⟨V', 1, none⟩ (.int .u64 (sL (sat (V + V))))) O' (sH (sat O)) (sL (sat O)) ∧ Below V' w ((w2.setCell ⟨V', 0, none⟩ (.int .i64 (sH (sat (V + V))))).setCell ⟨V', 1, none⟩ (.int .u64 (sL (sat (V + V)))))) := ⟨sV1.set _ _, (sR1.far (Ne.symm x1) _).far (Ne.symm x1) _, (sO1.far (Ne.symm x2) _).far (Ne.symm x2) _, below_set2 bl1 y0⟩
        clear sV sR sO bl sV1 sR1 sO1 bl1 B2 HT P2
        go_wp2_with fail
        go_roundw
        case rel => exact ⟨k / 2, V + V, O, by go_num, by omega, by omega, by omega, by omega, hE', HF⟩
        case measure => simp [intOf]; omega
    · have hk0 : k = 0 := by omega
      subst hk0
      obtain ⟨sV, sR, sO, bl⟩ := hS.out
      obtain ⟨_, o1, o2, o3, o4⟩ := id sO
      obtain ⟨_, r1, r2, r3, r4⟩ := id sR
      have eT : Hid (T = O) := by show _ = _; have := hE.out; rw [Int.mul_zero] at this; omega
      have HB : Hid (Below V' w wr) := bl
      clear sV sR sO bl hS hE
      go_wp2_with fail
      rw [eT.out]
      simp [bodyPost, results, Tryz.results32, go_sem, r1, r2]
      exact below_set2 HB.out y1
end Go.Proofs.YtipahdplkmmofaaGreatDoor
