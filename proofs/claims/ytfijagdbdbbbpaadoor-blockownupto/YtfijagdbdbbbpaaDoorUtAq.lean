
import Derived.Test.YtfijagdbdbbbpaaDoorBuO
import Derived.Test.YtfijagdbdbbbpaaDoorBuJ
import Derived.WalkMore
namespace Go.Proofs.YtfijagdbdbbbpaaDoor
open Go.RowKit
set_option linter.unusedVariables false
set_option linter.unusedSimpArgs false
/-- what turn tells. -/
def turnT (bs : Nat → Nat) (n : Nat) (s : PS) : PS × Int :=
  if (bitsT bs n 1 s).2 = 0 then ((bitsT bs n 1 s).1, 0) else
  if (bitsT bs n 1 (bitsT bs n 1 s).1).2 = 0 then ((bitsT bs n 7 (bitsT bs n 1 (bitsT bs n 1 s).1).1).1, ((bitsT bs n 7 (bitsT bs n 1 (bitsT bs n 1 s).1).1).2 : Int) - 63) else
  if (bitsT bs n 1 (bitsT bs n 1 (bitsT bs n 1 s).1).1).2 = 0 then ((bitsT bs n 9 (bitsT bs n 1 (bitsT bs n 1 (bitsT bs n 1 s).1).1).1).1, ((bitsT bs n 9 (bitsT bs n 1 (bitsT bs n 1 (bitsT bs n 1 s).1).1).1).2 : Int) - 255) else
  if (bitsT bs n 1 (bitsT bs n 1 (bitsT bs n 1 (bitsT bs n 1 s).1).1).1).2 = 0 then ((bitsT bs n 12 (bitsT bs n 1 (bitsT bs n 1 (bitsT bs n 1 (bitsT bs n 1 s).1).1).1).1).1, ((bitsT bs n 12 (bitsT bs n 1 (bitsT bs n 1 (bitsT bs n 1 (bitsT bs n 1 s).1).1).1).1).2 : Int) - 2047)
  else ((bitsT bs n 64 (bitsT bs n 1 (bitsT bs n 1 (bitsT bs n 1 (bitsT bs n 1 s).1).1).1).1).1, wrap64 ((bitsT bs n 64 (bitsT bs n 1 (bitsT bs n 1 (bitsT bs n 1 (bitsT bs n 1 s).1).1).1).1).2 : Int))
/-- where the Reader is behind k ones. -/
def ones (bs : Nat → Nat) (n : Nat) (s : PS) : Nat → PS
  | 0 => s
  | k + 1 => (bitsT bs n 1 (ones bs n s k)).1
theorem bitsT_zero {N : Nat} {w1 : World} {a : Option Addr} {n cap : Nat} {bs : Nat → Nat} {s : PS} {w : World} (h : RB N w1 a n cap bs s w) : bitsT bs n 0 s = (s, 0) := by
  obtain ⟨p, r, fv⟩ := s
  have h1 := h.1.pn
  have h2 := h.1.rp
  have h3 := h.2
  simp only at h1 h2 h3
  unfold bitsT
  cases fv with
  | some x => rfl
  | none =>
    simp only [Option.isSome_none, Bool.false_eq_true, if_false]
    rw [if_neg (by omega), show (8 * p - r + 0 + 7) / 8 = p by omega, show 8 * p - (8 * p - r + 0) = r by omega]
    rfl
section
variable {N : Nat} {w1 : World} {a : Option Addr} {n cap : Nat} {bs : Nat → Nat} {s : PS} {w : World}
theorem CT_RF {w w' : World} (h : CT w) (hF : RF N w w') (h1 : 0 < w.heap.size) (h2 : 0 ≠ N) : CT w' := fun j hj => by
  rw [World.cell?_of_block (w := w) (hF.keep 0 h1 h2)]; exact h j hj
set_option maxRecDepth 100000 in
set_option maxHeartbeats 8000000 in
theorem turn_any (h : RB N w1 a n cap bs s w) (hct : CT w) (hg : 0 < N) : Calls Tryd.prog 31 #[.pointer (some ⟨N, 0, none⟩)] w fun e w' => e = .returned (.int .i64 (turnT bs n s).2) ∧ RB N w1 a n cap bs (turnT bs n s).1 w' ∧ RF N w w' := by
  have t0 := hct 0 (by omega)
  have t1 := hct 1 (by omega)
  have t2 := hct 2 (by omega)
  have t3 := hct 3 (by omega)
  have t4 := hct 4 (by omega)
  have t5 := hct 5 (by omega)
  have t6 := hct 6 (by omega)
  have t7 := hct 7 (by omega)
  have t8 := hct 8 (by omega)
  have t9 := hct 9 (by omega)
  have t10 := hct 10 (by omega)
  have t11 := hct 11 (by omega)
  simp only [clsV, List.getD_cons_zero, List.getD_cons_succ] at t0 t1 t2 t3 t4 t5 t6 t7 t8 t9 t10 t11
  have i0 : ∀ w, _ := idx0
  have i1 : ∀ w, _ := idx1
  have i2 : ∀ w, _ := idx2
  have i3 : ∀ w, _ := idx3
  simp only [tabV] at i0 i1 i2 i3
  have hH : Hid (RB N w1 a n cap bs s w) := h
  clear h hct
  go_enter Tryd.func31, Tryd.ntmps31
  go_wp2_with fail
  go_loopw [6] (fun ix wr => ∃ k : Nat, k ≤ 4 ∧ ix = .int .i64 (k : Int) ∧ RB N w1 a n cap bs (ones bs n s k) wr ∧ RF N w wr ∧ ∀ j, j < k → (bitsT bs n 1 (ones bs n s j)).2 = 1) (fun ix _ => 4 - (intOf ix).toNat)
  case atStart => exact ⟨0, by omega, rfl, hH.out, RF.refl _ _, fun j hj => by omega⟩
  case round =>
    clear t0 t1 t2 t3 t4 t5 t6 t7 t8 t9 t10 t11 hH
    obtain ⟨k, hk, rfl, hR, hF, ho⟩ := hrel
    have hk5 : k = 0 ∨ k = 1 ∨ k = 2 ∨ k = 3 ∨ k = 4 := by omega
    rcases hk5 with rfl | rfl | rfl | rfl | rfl
    · simp only [show ((0 : Nat) : Int) = 0 from rfl]
      clear i1 i2 i3
      have hoH : Hid _ := ho
      have hFH : Hid _ := hF
      have hBz := below_new (Below.refl _ wr) (.cells #[.int .i64 0, .int .i64 0, .int .i64 0] 109)
      have hRz : RB N w1 a n cap bs (ones bs n s 0) (wr.alloc (.cells #[.int .i64 0, .int .i64 0, .int .i64 0] 109)) := ⟨hR.1.below hBz, hR.2⟩
      have z0 : (wr.alloc (.cells #[.int .i64 0, .int .i64 0, .int .i64 0] 109)).cell? ⟨wr.heap.size, 0, none⟩ = some (.int .i64 0) := by simp [go_sem]
      have z2 : (wr.alloc (.cells #[.int .i64 0, .int .i64 0, .int .i64 0] 109)).cell? ⟨wr.heap.size, 2, none⟩ = some (.int .i64 0) := by simp [go_sem]
      have zl : wr.heap.size < (wr.alloc (.cells #[.int .i64 0, .int .i64 0, .int .i64 0] 109)).heap.size := by simp
      have hNz : wr.heap.size ≠ N := by have := hR.1.sz; omega
      have hFz : RF N w (wr.alloc (.cells #[.int .i64 0, .int .i64 0, .int .i64 0] 109)) := hF.trans (RF.below hBz)
      rcases rb_bit hRz with ⟨s1, e1, hC⟩ | ⟨s1, e1, hC⟩
      · have hz0 : Hid _ := z0
        have hz2 : Hid _ := z2
        have hzl : Hid _ := zl
        have hFz' : Hid _ := hFz
        clear hR hF hRz z0 z2 zl hFz hBz hFH ho
        go_wp2_with fail
        refine Calls.mono hC.out ?_
        rintro e w5 ⟨rfl, hR5, hF5⟩
        have d0 : w5.cell? ⟨wr.heap.size, 0, none⟩ = some (.int .i64 0) := by rw [World.cell?_of_block (hF5.keep wr.heap.size hzl.out hNz)]; exact hz0.out
        have d2 : w5.cell? ⟨wr.heap.size, 2, none⟩ = some (.int .i64 0) := by rw [World.cell?_of_block (hF5.keep wr.heap.size hzl.out hNz)]; exact hz2.out
        have dl : wr.heap.size < w5.heap.size := Nat.lt_of_lt_of_le hzl.out hF5.size
        obtain ⟨x, s2, ex, hx, _⟩ := rb_bitsL hR5 0 0 rfl (by omega)
        have hx' : x < 1 := hx
        have hC2 : Hid (∀ W, Below w5.heap.size w5 W → Calls Tryd.prog 75 #[.pointer (some ⟨N, 0, none⟩), .int .i64 0] W fun e w' => e = .returned (.int .u64 (x : Int)) ∧ RB N w1 a n cap bs s2 w' ∧ RF N w w' ∧ (wr.heap.size < w'.heap.size ∧ w'.cell? ⟨wr.heap.size, 0, none⟩ = some (.int .i64 0) ∧ w'.cell? ⟨wr.heap.size, 2, none⟩ = some (.int .i64 0))) := (by
          intro W hW
          have hRW : RB N w1 a n cap bs s1 W := ⟨hR5.1.below hW, hR5.2⟩
          refine (rb_bits hRW 0 0 rfl (by omega)).mono ?_
          rintro e w' ⟨he, hR6, hF6⟩
          rw [ex] at he hR6
          have hk6 := (hF6.keep wr.heap.size (Nat.lt_of_lt_of_le dl hW.size) hNz).trans (hW.block wr.heap.size dl)
          exact ⟨he, hR6, ((hFz'.out.trans hF5).trans (RF.below hW)).trans hF6, Nat.lt_of_lt_of_le (Nat.lt_of_lt_of_le dl hW.size) hF6.size, by rw [World.cell?_of_block hk6]; exact d0, by rw [World.cell?_of_block hk6]; exact d2⟩ : ∀ W, Below w5.heap.size w5 W → Calls Tryd.prog 75 #[.pointer (some ⟨N, 0, none⟩), .int .i64 0] W fun e w' => e = .returned (.int .u64 (x : Int)) ∧ RB N w1 a n cap bs s2 w' ∧ RF N w w' ∧ (wr.heap.size < w'.heap.size ∧ w'.cell? ⟨wr.heap.size, 0, none⟩ = some (.int .i64 0) ∧ w'.cell? ⟨wr.heap.size, 2, none⟩ = some (.int .i64 0)))
        have hT : Hid (turnT bs n s = (s2, (x : Int) )) := (by
          have e1' : bitsT bs n 1 s = (s1, 0) := e1
          unfold turnT; rw [if_pos (by rw [e1'])]
          have hz := bitsT_zero hR5; rw [e1']; rw [hz] at ex; injection ex with ex1 ex2; rw [← ex1, ← ex2]; rfl : turnT bs n s = (s2, (x : Int) ))
        clear hC hR5 hF5 hz0 hz2 hzl hFz' e1 ex hx
        go_wp2_with fail
        have S5 : wr.heap.size < w5.heap.size ∧ w5.cell? ⟨wr.heap.size, 0, none⟩ = some (.int .i64 0) ∧ w5.cell? ⟨wr.heap.size, 2, none⟩ = some (.int .i64 0) := ⟨dl, d0, d2⟩
        have hW5 := (Below.refl w5.heap.size w5).drew
        go_region_held3 (fun w' => wr.heap.size < w'.heap.size ∧ w'.cell? ⟨wr.heap.size, 0, none⟩ = some (.int .i64 0) ∧ w'.cell? ⟨wr.heap.size, 2, none⟩ = some (.int .i64 0)) (first | assumption)
          (first
            | (go_at_call 75; (with_reducible refine Calls.mono (hC2.out _ (by assumption)) ?_); rintro e w' ⟨rfl, hR6, hF6, SS⟩))
        all_goals
          go_wp2_with fail
          go_ret
          rw [hT.out]
          refine ⟨?_, by assumption, by assumption⟩
          show Ending.returned (.int .i64 (IntKind.i64.wrap (IntKind.i64.wrap (x : Int)))) = Ending.returned (.int .i64 (x : Int)); rw [IntWalk.i64_in (x : Int) (by omega), IntWalk.i64_in (x : Int) (by omega)]
      · have hfin : Hid (∀ w5, RB N w1 a n cap bs s1 w5 → RF N (wr.alloc (.cells #[.int .i64 0, .int .i64 0, .int .i64 0] 109)) w5 → RB N w1 a n cap bs (ones bs n s (0 + 1)) w5 ∧ RF N w w5 ∧ ∀ j, j < 0 + 1 → (bitsT bs n 1 (ones bs n s j)).2 = 1) := (by
          intro w5 h5 f5
          have e2 : ones bs n s (0 + 1) = s1 := by show (bitsT bs n 1 (ones bs n s 0)).1 = s1; rw [e1]
          refine ⟨by rw [e2]; exact h5, hFz.trans f5, fun j hj => ?_⟩
          rcases Nat.lt_or_ge j 0 with h | h
          · exact hoH.out j h
          · obtain rfl : j = 0 := by omega
            rw [e1] : ∀ w5, RB N w1 a n cap bs s1 w5 → RF N (wr.alloc (.cells #[.int .i64 0, .int .i64 0, .int .i64 0] 109)) w5 → RB N w1 a n cap bs (ones bs n s (0 + 1)) w5 ∧ RF N w w5 ∧ ∀ j, j < 0 + 1 → (bitsT bs n 1 (ones bs n s j)).2 = 1)
        clear hR hF hRz z0 z2 zl hFz hBz hFH ho e1
        go_wp2_with fail
        refine Calls.mono hC.out ?_
        rintro e w5 ⟨rfl, hR5, hF5⟩
        have hf5 := hfin.out w5 hR5 hF5
        have hf5H : Hid _ := hf5
        clear hC hR5 hF5 hf5 hfin
        go_wp2_with fail
        go_roundw
        case rel => exact ⟨0 + 1, by omega, by first | rfl | go_num, hf5H.out⟩
        case measure => simp [intOf]
    · simp only [show ((1 : Nat) : Int) = 1 from rfl]
      clear i0 i2 i3
      have hoH : Hid _ := ho
      have hFH : Hid _ := hF
      have hBz := below_new (Below.refl _ wr) (.cells #[.int .i64 (-63), .int .i64 64, .int .i64 7] 109)
      have hRz : RB N w1 a n cap bs (ones bs n s 1) (wr.alloc (.cells #[.int .i64 (-63), .int .i64 64, .int .i64 7] 109)) := ⟨hR.1.below hBz, hR.2⟩
      have z0 : (wr.alloc (.cells #[.int .i64 (-63), .int .i64 64, .int .i64 7] 109)).cell? ⟨wr.heap.size, 0, none⟩ = some (.int .i64 (-63)) := by simp [go_sem]
      have z2 : (wr.alloc (.cells #[.int .i64 (-63), .int .i64 64, .int .i64 7] 109)).cell? ⟨wr.heap.size, 2, none⟩ = some (.int .i64 7) := by simp [go_sem]
      have zl : wr.heap.size < (wr.alloc (.cells #[.int .i64 (-63), .int .i64 64, .int .i64 7] 109)).heap.size := by simp
      have hNz : wr.heap.size ≠ N := by have := hR.1.sz; omega
      have hFz : RF N w (wr.alloc (.cells #[.int .i64 (-63), .int .i64 64, .int .i64 7] 109)) := hF.trans (RF.below hBz)
      rcases rb_bit hRz with ⟨s1, e1, hC⟩ | ⟨s1, e1, hC⟩
      · have hz0 : Hid _ := z0
        have hz2 : Hid _ := z2
        have hzl : Hid _ := zl
        have hFz' : Hid _ := hFz
        clear hR hF hRz z0 z2 zl hFz hBz hFH ho
        go_wp2_with fail
        refine Calls.mono hC.out ?_
        rintro e w5 ⟨rfl, hR5, hF5⟩
        have d0 : w5.cell? ⟨wr.heap.size, 0, none⟩ = some (.int .i64 (-63)) := by rw [World.cell?_of_block (hF5.keep wr.heap.size hzl.out hNz)]; exact hz0.out
        have d2 : w5.cell? ⟨wr.heap.size, 2, none⟩ = some (.int .i64 7) := by rw [World.cell?_of_block (hF5.keep wr.heap.size hzl.out hNz)]; exact hz2.out
        have dl : wr.heap.size < w5.heap.size := Nat.lt_of_lt_of_le hzl.out hF5.size
        obtain ⟨x, s2, ex, hx, _⟩ := rb_bitsL hR5 7 7 rfl (by omega)
        have hx' : x < 128 := hx
        have hC2 : Hid (∀ W, Below w5.heap.size w5 W → Calls Tryd.prog 75 #[.pointer (some ⟨N, 0, none⟩), .int .i64 7] W fun e w' => e = .returned (.int .u64 (x : Int)) ∧ RB N w1 a n cap bs s2 w' ∧ RF N w w' ∧ (wr.heap.size < w'.heap.size ∧ w'.cell? ⟨wr.heap.size, 0, none⟩ = some (.int .i64 (-63)) ∧ w'.cell? ⟨wr.heap.size, 2, none⟩ = some (.int .i64 7))) := (by
          intro W hW
          have hRW : RB N w1 a n cap bs s1 W := ⟨hR5.1.below hW, hR5.2⟩
          refine (rb_bits hRW 7 7 rfl (by omega)).mono ?_
          rintro e w' ⟨he, hR6, hF6⟩
          rw [ex] at he hR6
          have hk6 := (hF6.keep wr.heap.size (Nat.lt_of_lt_of_le dl hW.size) hNz).trans (hW.block wr.heap.size dl)
          exact ⟨he, hR6, ((hFz'.out.trans hF5).trans (RF.below hW)).trans hF6, Nat.lt_of_lt_of_le (Nat.lt_of_lt_of_le dl hW.size) hF6.size, by rw [World.cell?_of_block hk6]; exact d0, by rw [World.cell?_of_block hk6]; exact d2⟩ : ∀ W, Below w5.heap.size w5 W → Calls Tryd.prog 75 #[.pointer (some ⟨N, 0, none⟩), .int .i64 7] W fun e w' => e = .returned (.int .u64 (x : Int)) ∧ RB N w1 a n cap bs s2 w' ∧ RF N w w' ∧ (wr.heap.size < w'.heap.size ∧ w'.cell? ⟨wr.heap.size, 0, none⟩ = some (.int .i64 (-63)) ∧ w'.cell? ⟨wr.heap.size, 2, none⟩ = some (.int .i64 7)))
        have hT : Hid (turnT bs n s = (s2, (x : Int) - 63)) := (by
          have e1' : bitsT bs n 1 (bitsT bs n 1 s).1 = (s1, 0) := e1
          unfold turnT; rw [if_neg (by have := hoH.out 0 (by omega); simp only [ones] at this; omega)]; rw [if_pos (by rw [e1'])]
          simp only [e1', ex] : turnT bs n s = (s2, (x : Int) - 63))
        clear hC hR5 hF5 hz0 hz2 hzl hFz' e1 ex hx
        go_wp2_with fail
        have S5 : wr.heap.size < w5.heap.size ∧ w5.cell? ⟨wr.heap.size, 0, none⟩ = some (.int .i64 (-63)) ∧ w5.cell? ⟨wr.heap.size, 2, none⟩ = some (.int .i64 7) := ⟨dl, d0, d2⟩
        have hW5 := (Below.refl w5.heap.size w5).drew
        go_region_held3 (fun w' => wr.heap.size < w'.heap.size ∧ w'.cell? ⟨wr.heap.size, 0, none⟩ = some (.int .i64 (-63)) ∧ w'.cell? ⟨wr.heap.size, 2, none⟩ = some (.int .i64 7)) (first | assumption)
          (first
            | (go_at_call 75; (with_reducible refine Calls.mono (hC2.out _ (by assumption)) ?_); rintro e w' ⟨rfl, hR6, hF6, SS⟩))
        all_goals
          go_wp2_with fail
          go_ret
          rw [hT.out]
          refine ⟨?_, by assumption, by assumption⟩
          show Ending.returned (.int .i64 (IntKind.i64.wrap (IntKind.i64.wrap (x : Int) + -63))) = Ending.returned (.int .i64 ((x : Int) - 63)); rw [IntWalk.i64_in (x : Int) (by omega), IntWalk.i64_in _ (by omega)]; congr 1
      · have hfin : Hid (∀ w5, RB N w1 a n cap bs s1 w5 → RF N (wr.alloc (.cells #[.int .i64 (-63), .int .i64 64, .int .i64 7] 109)) w5 → RB N w1 a n cap bs (ones bs n s (1 + 1)) w5 ∧ RF N w w5 ∧ ∀ j, j < 1 + 1 → (bitsT bs n 1 (ones bs n s j)).2 = 1) := (by
          intro w5 h5 f5
          have e2 : ones bs n s (1 + 1) = s1 := by show (bitsT bs n 1 (ones bs n s 1)).1 = s1; rw [e1]
          refine ⟨by rw [e2]; exact h5, hFz.trans f5, fun j hj => ?_⟩
          rcases Nat.lt_or_ge j 1 with h | h
          · exact hoH.out j h
          · obtain rfl : j = 1 := by omega
            rw [e1] : ∀ w5, RB N w1 a n cap bs s1 w5 → RF N (wr.alloc (.cells #[.int .i64 (-63), .int .i64 64, .int .i64 7] 109)) w5 → RB N w1 a n cap bs (ones bs n s (1 + 1)) w5 ∧ RF N w w5 ∧ ∀ j, j < 1 + 1 → (bitsT bs n 1 (ones bs n s j)).2 = 1)
        clear hR hF hRz z0 z2 zl hFz hBz hFH ho e1
        go_wp2_with fail
        refine Calls.mono hC.out ?_
        rintro e w5 ⟨rfl, hR5, hF5⟩
        have hf5 := hfin.out w5 hR5 hF5
        have hf5H : Hid _ := hf5
        clear hC hR5 hF5 hf5 hfin
        go_wp2_with fail
        go_roundw
        case rel => exact ⟨1 + 1, by omega, by first | rfl | go_num, hf5H.out⟩
        case measure => simp [intOf]
    · simp only [show ((2 : Nat) : Int) = 2 from rfl]
      clear i0 i1 i3
      have hoH : Hid _ := ho
      have hFH : Hid _ := hF
      have hBz := below_new (Below.refl _ wr) (.cells #[.int .i64 (-255), .int .i64 256, .int .i64 9] 109)
      have hRz : RB N w1 a n cap bs (ones bs n s 2) (wr.alloc (.cells #[.int .i64 (-255), .int .i64 256, .int .i64 9] 109)) := ⟨hR.1.below hBz, hR.2⟩
      have z0 : (wr.alloc (.cells #[.int .i64 (-255), .int .i64 256, .int .i64 9] 109)).cell? ⟨wr.heap.size, 0, none⟩ = some (.int .i64 (-255)) := by simp [go_sem]
      have z2 : (wr.alloc (.cells #[.int .i64 (-255), .int .i64 256, .int .i64 9] 109)).cell? ⟨wr.heap.size, 2, none⟩ = some (.int .i64 9) := by simp [go_sem]
      have zl : wr.heap.size < (wr.alloc (.cells #[.int .i64 (-255), .int .i64 256, .int .i64 9] 109)).heap.size := by simp
      have hNz : wr.heap.size ≠ N := by have := hR.1.sz; omega
      have hFz : RF N w (wr.alloc (.cells #[.int .i64 (-255), .int .i64 256, .int .i64 9] 109)) := hF.trans (RF.below hBz)
      rcases rb_bit hRz with ⟨s1, e1, hC⟩ | ⟨s1, e1, hC⟩
      · have hz0 : Hid _ := z0
        have hz2 : Hid _ := z2
        have hzl : Hid _ := zl
        have hFz' : Hid _ := hFz
        clear hR hF hRz z0 z2 zl hFz hBz hFH ho
        go_wp2_with fail
        refine Calls.mono hC.out ?_
        rintro e w5 ⟨rfl, hR5, hF5⟩
        have d0 : w5.cell? ⟨wr.heap.size, 0, none⟩ = some (.int .i64 (-255)) := by rw [World.cell?_of_block (hF5.keep wr.heap.size hzl.out hNz)]; exact hz0.out
        have d2 : w5.cell? ⟨wr.heap.size, 2, none⟩ = some (.int .i64 9) := by rw [World.cell?_of_block (hF5.keep wr.heap.size hzl.out hNz)]; exact hz2.out
        have dl : wr.heap.size < w5.heap.size := Nat.lt_of_lt_of_le hzl.out hF5.size
        obtain ⟨x, s2, ex, hx, _⟩ := rb_bitsL hR5 9 9 rfl (by omega)
        have hx' : x < 512 := hx
        have hC2 : Hid (∀ W, Below w5.heap.size w5 W → Calls Tryd.prog 75 #[.pointer (some ⟨N, 0, none⟩), .int .i64 9] W fun e w' => e = .returned (.int .u64 (x : Int)) ∧ RB N w1 a n cap bs s2 w' ∧ RF N w w' ∧ (wr.heap.size < w'.heap.size ∧ w'.cell? ⟨wr.heap.size, 0, none⟩ = some (.int .i64 (-255)) ∧ w'.cell? ⟨wr.heap.size, 2, none⟩ = some (.int .i64 9))) := (by
          intro W hW
          have hRW : RB N w1 a n cap bs s1 W := ⟨hR5.1.below hW, hR5.2⟩
          refine (rb_bits hRW 9 9 rfl (by omega)).mono ?_
          rintro e w' ⟨he, hR6, hF6⟩
          rw [ex] at he hR6
          have hk6 := (hF6.keep wr.heap.size (Nat.lt_of_lt_of_le dl hW.size) hNz).trans (hW.block wr.heap.size dl)
          exact ⟨he, hR6, ((hFz'.out.trans hF5).trans (RF.below hW)).trans hF6, Nat.lt_of_lt_of_le (Nat.lt_of_lt_of_le dl hW.size) hF6.size, by rw [World.cell?_of_block hk6]; exact d0, by rw [World.cell?_of_block hk6]; exact d2⟩ : ∀ W, Below w5.heap.size w5 W → Calls Tryd.prog 75 #[.pointer (some ⟨N, 0, none⟩), .int .i64 9] W fun e w' => e = .returned (.int .u64 (x : Int)) ∧ RB N w1 a n cap bs s2 w' ∧ RF N w w' ∧ (wr.heap.size < w'.heap.size ∧ w'.cell? ⟨wr.heap.size, 0, none⟩ = some (.int .i64 (-255)) ∧ w'.cell? ⟨wr.heap.size, 2, none⟩ = some (.int .i64 9)))
        have hT : Hid (turnT bs n s = (s2, (x : Int) - 255)) := (by
          have e1' : bitsT bs n 1 (bitsT bs n 1 (bitsT bs n 1 s).1).1 = (s1, 0) := e1
          unfold turnT; rw [if_neg (by have := hoH.out 0 (by omega); simp only [ones] at this; omega)]; rw [if_neg (by have := hoH.out 1 (by omega); simp only [ones] at this; omega)]; rw [if_pos (by rw [e1'])]
          simp only [e1', ex] : turnT bs n s = (s2, (x : Int) - 255))
        clear hC hR5 hF5 hz0 hz2 hzl hFz' e1 ex hx
        go_wp2_with fail
        have S5 : wr.heap.size < w5.heap.size ∧ w5.cell? ⟨wr.heap.size, 0, none⟩ = some (.int .i64 (-255)) ∧ w5.cell? ⟨wr.heap.size, 2, none⟩ = some (.int .i64 9) := ⟨dl, d0, d2⟩
        have hW5 := (Below.refl w5.heap.size w5).drew
        go_region_held3 (fun w' => wr.heap.size < w'.heap.size ∧ w'.cell? ⟨wr.heap.size, 0, none⟩ = some (.int .i64 (-255)) ∧ w'.cell? ⟨wr.heap.size, 2, none⟩ = some (.int .i64 9)) (first | assumption)
          (first
            | (go_at_call 75; (with_reducible refine Calls.mono (hC2.out _ (by assumption)) ?_); rintro e w' ⟨rfl, hR6, hF6, SS⟩))
        all_goals
          go_wp2_with fail
          go_ret
          rw [hT.out]
          refine ⟨?_, by assumption, by assumption⟩
          show Ending.returned (.int .i64 (IntKind.i64.wrap (IntKind.i64.wrap (x : Int) + -255))) = Ending.returned (.int .i64 ((x : Int) - 255)); rw [IntWalk.i64_in (x : Int) (by omega), IntWalk.i64_in _ (by omega)]; congr 1
      · have hfin : Hid (∀ w5, RB N w1 a n cap bs s1 w5 → RF N (wr.alloc (.cells #[.int .i64 (-255), .int .i64 256, .int .i64 9] 109)) w5 → RB N w1 a n cap bs (ones bs n s (2 + 1)) w5 ∧ RF N w w5 ∧ ∀ j, j < 2 + 1 → (bitsT bs n 1 (ones bs n s j)).2 = 1) := (by
          intro w5 h5 f5
          have e2 : ones bs n s (2 + 1) = s1 := by show (bitsT bs n 1 (ones bs n s 2)).1 = s1; rw [e1]
          refine ⟨by rw [e2]; exact h5, hFz.trans f5, fun j hj => ?_⟩
          rcases Nat.lt_or_ge j 2 with h | h
          · exact hoH.out j h
          · obtain rfl : j = 2 := by omega
            rw [e1] : ∀ w5, RB N w1 a n cap bs s1 w5 → RF N (wr.alloc (.cells #[.int .i64 (-255), .int .i64 256, .int .i64 9] 109)) w5 → RB N w1 a n cap bs (ones bs n s (2 + 1)) w5 ∧ RF N w w5 ∧ ∀ j, j < 2 + 1 → (bitsT bs n 1 (ones bs n s j)).2 = 1)
        clear hR hF hRz z0 z2 zl hFz hBz hFH ho e1
        go_wp2_with fail
        refine Calls.mono hC.out ?_
        rintro e w5 ⟨rfl, hR5, hF5⟩
        have hf5 := hfin.out w5 hR5 hF5
        have hf5H : Hid _ := hf5
        clear hC hR5 hF5 hf5 hfin
        go_wp2_with fail
        go_roundw
        case rel => exact ⟨2 + 1, by omega, by first | rfl | go_num, hf5H.out⟩
        case measure => simp [intOf]
    · simp only [show ((3 : Nat) : Int) = 3 from rfl]
      clear i0 i1 i2
      have hoH : Hid _ := ho
      have hFH : Hid _ := hF
      have hBz := below_new (Below.refl _ wr) (.cells #[.int .i64 (-2047), .int .i64 2048, .int .i64 12] 109)
      have hRz : RB N w1 a n cap bs (ones bs n s 3) (wr.alloc (.cells #[.int .i64 (-2047), .int .i64 2048, .int .i64 12] 109)) := ⟨hR.1.below hBz, hR.2⟩
      have z0 : (wr.alloc (.cells #[.int .i64 (-2047), .int .i64 2048, .int .i64 12] 109)).cell? ⟨wr.heap.size, 0, none⟩ = some (.int .i64 (-2047)) := by simp [go_sem]
      have z2 : (wr.alloc (.cells #[.int .i64 (-2047), .int .i64 2048, .int .i64 12] 109)).cell? ⟨wr.heap.size, 2, none⟩ = some (.int .i64 12) := by simp [go_sem]
      have zl : wr.heap.size < (wr.alloc (.cells #[.int .i64 (-2047), .int .i64 2048, .int .i64 12] 109)).heap.size := by simp
      have hNz : wr.heap.size ≠ N := by have := hR.1.sz; omega
      have hFz : RF N w (wr.alloc (.cells #[.int .i64 (-2047), .int .i64 2048, .int .i64 12] 109)) := hF.trans (RF.below hBz)
      rcases rb_bit hRz with ⟨s1, e1, hC⟩ | ⟨s1, e1, hC⟩
      · have hz0 : Hid _ := z0
        have hz2 : Hid _ := z2
        have hzl : Hid _ := zl
        have hFz' : Hid _ := hFz
        clear hR hF hRz z0 z2 zl hFz hBz hFH ho
        go_wp2_with fail
        refine Calls.mono hC.out ?_
        rintro e w5 ⟨rfl, hR5, hF5⟩
        have d0 : w5.cell? ⟨wr.heap.size, 0, none⟩ = some (.int .i64 (-2047)) := by rw [World.cell?_of_block (hF5.keep wr.heap.size hzl.out hNz)]; exact hz0.out
        have d2 : w5.cell? ⟨wr.heap.size, 2, none⟩ = some (.int .i64 12) := by rw [World.cell?_of_block (hF5.keep wr.heap.size hzl.out hNz)]; exact hz2.out
        have dl : wr.heap.size < w5.heap.size := Nat.lt_of_lt_of_le hzl.out hF5.size
        obtain ⟨x, s2, ex, hx, _⟩ := rb_bitsL hR5 12 12 rfl (by omega)
        have hx' : x < 4096 := hx
        have hC2 : Hid (∀ W, Below w5.heap.size w5 W → Calls Tryd.prog 75 #[.pointer (some ⟨N, 0, none⟩), .int .i64 12] W fun e w' => e = .returned (.int .u64 (x : Int)) ∧ RB N w1 a n cap bs s2 w' ∧ RF N w w' ∧ (wr.heap.size < w'.heap.size ∧ w'.cell? ⟨wr.heap.size, 0, none⟩ = some (.int .i64 (-2047)) ∧ w'.cell? ⟨wr.heap.size, 2, none⟩ = some (.int .i64 12))) := (by
          intro W hW
          have hRW : RB N w1 a n cap bs s1 W := ⟨hR5.1.below hW, hR5.2⟩
          refine (rb_bits hRW 12 12 rfl (by omega)).mono ?_
          rintro e w' ⟨he, hR6, hF6⟩
          rw [ex] at he hR6
          have hk6 := (hF6.keep wr.heap.size (Nat.lt_of_lt_of_le dl hW.size) hNz).trans (hW.block wr.heap.size dl)
          exact ⟨he, hR6, ((hFz'.out.trans hF5).trans (RF.below hW)).trans hF6, Nat.lt_of_lt_of_le (Nat.lt_of_lt_of_le dl hW.size) hF6.size, by rw [World.cell?_of_block hk6]; exact d0, by rw [World.cell?_of_block hk6]; exact d2⟩ : ∀ W, Below w5.heap.size w5 W → Calls Tryd.prog 75 #[.pointer (some ⟨N, 0, none⟩), .int .i64 12] W fun e w' => e = .returned (.int .u64 (x : Int)) ∧ RB N w1 a n cap bs s2 w' ∧ RF N w w' ∧ (wr.heap.size < w'.heap.size ∧ w'.cell? ⟨wr.heap.size, 0, none⟩ = some (.int .i64 (-2047)) ∧ w'.cell? ⟨wr.heap.size, 2, none⟩ = some (.int .i64 12)))
        have hT : Hid (turnT bs n s = (s2, (x : Int) - 2047)) := (by
          have e1' : bitsT bs n 1 (bitsT bs n 1 (bitsT bs n 1 (bitsT bs n 1 s).1).1).1 = (s1, 0) := e1
          unfold turnT; rw [if_neg (by have := hoH.out 0 (by omega); simp only [ones] at this; omega)]; rw [if_neg (by have := hoH.out 1 (by omega); simp only [ones] at this; omega)]; rw [if_neg (by have := hoH.out 2 (by omega); simp only [ones] at this; omega)]; rw [if_pos (by rw [e1'])]
          simp only [e1', ex] : turnT bs n s = (s2, (x : Int) - 2047))
        clear hC hR5 hF5 hz0 hz2 hzl hFz' e1 ex hx
        go_wp2_with fail
        have S5 : wr.heap.size < w5.heap.size ∧ w5.cell? ⟨wr.heap.size, 0, none⟩ = some (.int .i64 (-2047)) ∧ w5.cell? ⟨wr.heap.size, 2, none⟩ = some (.int .i64 12) := ⟨dl, d0, d2⟩
        have hW5 := (Below.refl w5.heap.size w5).drew
        go_region_held3 (fun w' => wr.heap.size < w'.heap.size ∧ w'.cell? ⟨wr.heap.size, 0, none⟩ = some (.int .i64 (-2047)) ∧ w'.cell? ⟨wr.heap.size, 2, none⟩ = some (.int .i64 12)) (first | assumption)
          (first
            | (go_at_call 75; (with_reducible refine Calls.mono (hC2.out _ (by assumption)) ?_); rintro e w' ⟨rfl, hR6, hF6, SS⟩))
        all_goals
          go_wp2_with fail
          go_ret
          rw [hT.out]
          refine ⟨?_, by assumption, by assumption⟩
          show Ending.returned (.int .i64 (IntKind.i64.wrap (IntKind.i64.wrap (x : Int) + -2047))) = Ending.returned (.int .i64 ((x : Int) - 2047)); rw [IntWalk.i64_in (x : Int) (by omega), IntWalk.i64_in _ (by omega)]; congr 1
      · have hfin : Hid (∀ w5, RB N w1 a n cap bs s1 w5 → RF N (wr.alloc (.cells #[.int .i64 (-2047), .int .i64 2048, .int .i64 12] 109)) w5 → RB N w1 a n cap bs (ones bs n s (3 + 1)) w5 ∧ RF N w w5 ∧ ∀ j, j < 3 + 1 → (bitsT bs n 1 (ones bs n s j)).2 = 1) := (by
          intro w5 h5 f5
          have e2 : ones bs n s (3 + 1) = s1 := by show (bitsT bs n 1 (ones bs n s 3)).1 = s1; rw [e1]
          refine ⟨by rw [e2]; exact h5, hFz.trans f5, fun j hj => ?_⟩
          rcases Nat.lt_or_ge j 3 with h | h
          · exact hoH.out j h
          · obtain rfl : j = 3 := by omega
            rw [e1] : ∀ w5, RB N w1 a n cap bs s1 w5 → RF N (wr.alloc (.cells #[.int .i64 (-2047), .int .i64 2048, .int .i64 12] 109)) w5 → RB N w1 a n cap bs (ones bs n s (3 + 1)) w5 ∧ RF N w w5 ∧ ∀ j, j < 3 + 1 → (bitsT bs n 1 (ones bs n s j)).2 = 1)
        clear hR hF hRz z0 z2 zl hFz hBz hFH ho e1
        go_wp2_with fail
        refine Calls.mono hC.out ?_
        rintro e w5 ⟨rfl, hR5, hF5⟩
        have hf5 := hfin.out w5 hR5 hF5
        have hf5H : Hid _ := hf5
        clear hC hR5 hF5 hf5 hfin
        go_wp2_with fail
        go_roundw
        case rel => exact ⟨3 + 1, by omega, by first | rfl | go_num, hf5H.out⟩
        case measure => simp [intOf]
    · have hkI : ¬ (4 : Int) < 4 := by omega
      simp only [show ((4 : Nat) : Int) = 4 from rfl]
      obtain ⟨x, s2, ex, hx, hC⟩ := rb_bitsL hR 64 64 rfl (by omega)
      have hx64 : x < 18446744073709551616 := hx
      have hT : Hid (turnT bs n s = (s2, wrap64 (x : Int))) := (by
        unfold turnT
        rw [if_neg (by have := ho 0 (by omega); simp only [ones] at this; omega), if_neg (by have := ho 1 (by omega); simp only [ones] at this; omega), if_neg (by have := ho 2 (by omega); simp only [ones] at this; omega), if_neg (by have := ho 3 (by omega); simp only [ones] at this; omega)]
        simp only [ones] at ex
        simp only [ex] : turnT bs n s = (s2, wrap64 (x : Int)))
      have hFH : Hid _ := hF
      clear hR hF ho ex hx i0 i1 i2 i3
      go_wp2_with fail
      refine Calls.mono hC.out ?_
      rintro e w5 ⟨rfl, hR5, hF5⟩
      have hfin : Hid (RB N w1 a n cap bs s2 w5 ∧ RF N w w5) := ⟨hR5, hFH.out.trans hF5⟩
      clear hC hR5 hF5 hFH
      go_wp2_with fail
      go_ret
      rw [hT.out]
      exact ⟨rfl, hfin.out⟩
end
end Go.Proofs.YtfijagdbdbbbpaaDoor
