
import Derived.Test.YtnfpommplokemaaDoorDecS
namespace Go.Proofs.YtnfpommplokemaaDoor
open Go.RowKit
set_option linter.unusedVariables false
set_option linter.unusedSimpArgs false
theorem ba_ne {P T : ByteArray} (h : P ≠ T) : (P.toList == T.toList) = false := by
  rw [beq_eq_false_iff_ne, ByteArray.toList_eq, ByteArray.toList_eq]
  intro e; apply h
  cases P; cases T
  exact congrArg ByteArray.mk (Array.ext' e)
theorem S128_wr (x : Int) : S128 (wr x) := by unfold S128 wr; omega
theorem S128_zero : S128 0 := by unfold S128; omega
set_option maxRecDepth 100000 in
set_option maxHeartbeats 4000000 in
theorem parse_none (T : ByteArray) (hno : ∀ v, S128 v → decS v ≠ T) (w : World) :
    Calls Tryd.prog 5 #[.string T] w fun e w' => e = .returned (.tuple #[.agg #[.int .i64 0, .int .u64 0], .iface 30 (.int .i64 31)]) ∧ Below w.heap.size w w' := by
  have hcp := Tryd.strings_CutPrefix T ⟨#[45]⟩
  rw [show (⟨#[45]⟩ : ByteArray).data.toList = [45] from rfl] at hcp
  obtain ⟨b, hb⟩ : ∃ b, b = Lib.hasPrefix T.data.toList [45] := ⟨_, rfl⟩
  obtain ⟨D, hD⟩ : ∃ D, D = (⟨(Lib.trimPrefix T.data.toList [45]).toArray⟩ : ByteArray) := ⟨_, rfl⟩
  rw [← hb, ← hD] at hcp
  have hcpH : Hid _ := hcp
  have hnoH : Hid _ := hno
  clear hcp hb hD hno
  go_enter Tryd.func5, Tryd.ntmps5
  go_wp2_with fail
  refine (hcpH.out _).mono ?_
  rintro e w1 ⟨rfl, rfl⟩
  by_cases hlen : (39 : Int) < (D.size : Int)
  · go_wp2_with fail
    refine (new_any 31 rfl _).mono ?_
    rintro e w2 ⟨rfl, rfl⟩
    go_wp2_with fail
    simp [bodyPost, results, Tryd.results5, go_sem]
    exact below_new (Below.refl _ _) _
  · go_wp2_with fail
    have hP0 : PZ w 0 ((w.alloc (.cells #[.int .i64 0, .int .u64 0] 25)).alloc (.cells #[.int .i64 0, .int .u64 0] 25)) := by
      have e0 : sH 0 = 0 := by decide
      have e1 : sL 0 = 0 := by decide
      refine ⟨by simp [go_sem], by simp [go_sem], by simp [go_sem], by simp [go_sem], by rw [e0]; simp [go_sem], by rw [e1]; simp [go_sem], by simp [go_sem], by simp [go_sem], below_new (below_new (Below.refl _ _) _) _, by simp⟩
    go_loopw [20] (fun c wx => ∃ (k : Nat) (X : Int), c = .int .i64 (k : Int) ∧ k ≤ D.size ∧ S128 X ∧ PZ w X wx) (fun c _ => D.size - (intOf c).toNat)
    case atStart => exact ⟨0, 0, rfl, by omega, S128_zero, hP0⟩
    case round =>
      obtain ⟨k, X, rfl, hk, hXS, hZ⟩ := hrel
      by_cases hkl : k < D.size
      · have hkI : (k : Int) < (D.size : Int) := by omega
        have k0 : (0 : Int) ≤ (k : Int) := by omega
        have a0 := hZ.s0
        have a1 := hZ.s1
        have hZH : Hid _ := hZ
        clear hZ hXS
        go_wp2_with fail
        go_region_with (first | (go_at_call 15; refine (tenfold_next X _).mono ?_; rintro e w2 ⟨rfl, B2⟩; have Z2 := hZH.out.drew.below B2; have y0 := Z2.s0; have y1 := Z2.s1) | (go_at_call 12; refine (plus_nextI (Go.Proofs.YtnfpommplokemaaDoor.wr (X * 10)) _ (i64_wrap_I64 _) _).mono ?_; rintro e w3 ⟨rfl, B3⟩; have Z3 := Z2.below B3; have x0 := Z3.s0; have x1 := Z3.s1; have x2 := Z3.z0; have x3 := Z3.z1; have x4 := Z3.sz))
        all_goals
          go_wp2_with fail
          go_roundw
          case rel =>
            have hq := Z3.put (Go.Proofs.YtnfpommplokemaaDoor.wr (Go.Proofs.YtnfpommplokemaaDoor.wr (X * 10) + wrap64 (wrap64 ((D[k]'hkl).toNat : Int) - 48)))
            refine ⟨k + 1, Go.Proofs.YtnfpommplokemaaDoor.wr (Go.Proofs.YtnfpommplokemaaDoor.wr (X * 10) + wrap64 (wrap64 ((D[k]'hkl).toNat : Int) - 48)), by go_num, by omega, S128_wr _, ?_⟩
            first | exact hq | exact hq.drew
          case measure => simp [intOf]; omega
      · obtain rfl : k = D.size := by omega
        have a0 := hZ.s0
        have a1 := hZ.s1
        have a2 := hZ.z0
        have a3 := hZ.z1
        have a4 := hZ.sz
        cases b
        · have hpr := print_any (sH X) (sL X) (I64_sH X hXS) (U64_sL X)
          rw [sv_H_L] at hpr
          have hne := hnoH.out X hXS
          obtain ⟨P, hP⟩ : ∃ P, P = decS X := ⟨_, rfl⟩
          rw [← hP] at hne hpr
          have hprH : Hid _ := hpr
          have hZH : Hid _ := hZ
          have hne2 := ba_ne hne
          clear hZ hP hXS hpr hne
          go_wp2_with fail
          refine (hprH.out _).mono ?_
          rintro e w5 ⟨rfl, B5⟩
          have Z5 := hZH.out.below B5
          have m0 := Z5.s0
          have m1 := Z5.s1
          have m2 := Z5.r0
          have m3 := Z5.r1
          have m4 := Z5.q0
          have m5 := Z5.q1
          have m6 := Z5.sz
          have m7 := Z5.b
          clear hZH
          go_wp2_with fail
          refine (new_any 31 rfl _).mono ?_
          rintro e w6 ⟨rfl, rfl⟩
          go_wp2_with fail
          simp [bodyPost, results, Tryd.results5, go_sem, m0, m1, m2, m3]
          exact (m7.setCell (p := ⟨w.heap.size, 0, none⟩) (Nat.le_refl _) _).setCell (p := ⟨w.heap.size, 1, none⟩) (Nat.le_refl _) _
        · have hl := less_any 0 0 (sH X) (sL X) (by unfold U64; omega) (U64_sL _)
          rw [sv_H_L] at hl
          obtain ⟨Y, hY⟩ : ∃ Y, Y = Go.Proofs.YtnfpommplokemaaDoor.wr (sv 0 0 - X) := ⟨_, rfl⟩
          have hYS : S128 Y := by rw [hY]; exact S128_wr _
          rw [← hY] at hl
          have hlH : Hid _ := hl
          have hpr := print_any (sH Y) (sL Y) (I64_sH Y hYS) (U64_sL Y)
          rw [sv_H_L] at hpr
          have hne := hnoH.out Y hYS
          obtain ⟨P, hP⟩ : ∃ P, P = decS Y := ⟨_, rfl⟩
          rw [← hP] at hne hpr
          have hprH : Hid _ := hpr
          have hZH : Hid _ := hZ
          have hne2 := ba_ne hne
          clear hZ hl hY hXS hYS hpr hP hne
          go_wp2_with fail
          refine (hlH.out _).mono ?_
          rintro e w4 ⟨rfl, c1, c2, c3, hw4⟩
          have Z4 := hZH.out.below (show Below wr.heap.size wr w4 by rw [hw4]; exact below_new (below_new (below_new (Below.refl _ _) _) _) _)
          clear hw4 a0 a1 a2 a3 a4 hZH hlH
          have n0 := Z4.s0
          have n1 := Z4.s1
          have n2 := Z4.z0
          have n3 := Z4.z1
          have n4 := Z4.sz
          have Z4p := Z4.put Y
          have n5 := Z4p.s0
          have n6 := Z4p.s1
          have Z4H : Hid _ := Z4p
          clear Z4 Z4p
          go_wp2_with fail
          refine (hprH.out _).mono ?_
          rintro e w5 ⟨rfl, B5⟩
          have Z5 := Z4H.out.below B5
          have m0 := Z5.s0
          have m1 := Z5.s1
          have m2 := Z5.r0
          have m3 := Z5.r1
          have m4 := Z5.q0
          have m5 := Z5.q1
          have m6 := Z5.sz
          have m7 := Z5.b
          clear Z4H
          go_wp2_with fail
          refine (new_any 31 rfl _).mono ?_
          rintro e w6 ⟨rfl, rfl⟩
          go_wp2_with fail
          simp [bodyPost, results, Tryd.results5, go_sem, m0, m1, m2, m3]
          exact (m7.setCell (p := ⟨w.heap.size, 0, none⟩) (Nat.le_refl _) _).setCell (p := ⟨w.heap.size, 1, none⟩) (Nat.le_refl _) _
end Go.Proofs.YtnfpommplokemaaDoor
