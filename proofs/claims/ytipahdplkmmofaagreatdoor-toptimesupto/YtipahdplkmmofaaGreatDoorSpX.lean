
import Derived.Test.YtipahdplkmmofaaGreatDoorSpU
import Derived.Test.YtipahdplkmmofaaGreatDoorSpK
namespace Go.Proofs.YtipahdplkmmofaaGreatDoor
open Go.RowKit Go.Shelf
set_option linter.unusedVariables false
set_option linter.unusedSimpArgs false
structure Good (c : Clk) : Prop where
  day : dayOk c.y c.mo c.d
  h0 : 0 ≤ c.h
  h1 : c.h ≤ 23
  m0 : 0 ≤ c.mi
  m1 : c.mi ≤ 59
  s0 : 0 ≤ c.s
  s1 : c.s ≤ 59
  n0 : 0 ≤ c.ns
  n1 : c.ns < 1000000000
  a : c.ah = 0 ∨ c.ah = 1 ∨ c.ah = -1
  bh0 : 0 ≤ c.bh
  bh1 : c.bh ≤ 23
  bm0 : 0 ≤ c.bm
  bm1 : c.bm ≤ 59
set_option maxRecDepth 100000 in
set_option maxHeartbeats 8000000 in
theorem ctime_any (C : Nat) (c : Clk) (hg : Good c) (w : World) (hM : MT w) (hk : CK C c w) : Calls Tryz.prog 38 #[.pointer (some ⟨C, 0, none⟩)] w fun e w' => e = nE (nsC c) ∧ Below w.heap.size w w' := by
  obtain ⟨g1, g2, g3, g4, g5, g6, g7, g8, g9, g10, g11, g12, g13, g14⟩ := hg
  have DY : Hid (∀ W, MT W → Calls Tryz.prog 80 #[.int .i64 c.y, .int .i64 c.mo, .int .i64 c.d] W fun e w' => e = .returned (.tuple #[.int .i64 (dayN c.y c.mo c.d), .nilIface]) ∧ w' = W) := fun W h => day_any c.y c.mo c.d g1 W h
  have db := day_bd g1
  have c0 : w.cell? ⟨C, 0, none⟩ = some (.int .i64 c.y) := (hk 0 (by omega)).1
  have c1 : w.cell? ⟨C, 1, none⟩ = some (.int .i64 c.mo) := (hk 1 (by omega)).1
  have c2 : w.cell? ⟨C, 2, none⟩ = some (.int .i64 c.d) := (hk 2 (by omega)).1
  have c3 : w.cell? ⟨C, 3, none⟩ = some (.int .i64 c.h) := (hk 3 (by omega)).1
  have c4 : w.cell? ⟨C, 4, none⟩ = some (.int .i64 c.mi) := (hk 4 (by omega)).1
  have c5 : w.cell? ⟨C, 5, none⟩ = some (.int .i64 c.s) := (hk 5 (by omega)).1
  have c6 : w.cell? ⟨C, 6, none⟩ = some (.int .i64 c.ns) := (hk 6 (by omega)).1
  have c7 : w.cell? ⟨C, 7, none⟩ = some (.int .i64 c.ah) := (hk 7 (by omega)).1
  have c8 : w.cell? ⟨C, 8, none⟩ = some (.int .i64 c.bh) := (hk 8 (by omega)).1
  have c9 : w.cell? ⟨C, 9, none⟩ = some (.int .i64 c.bm) := (hk 9 (by omega)).1
  have HS : nsC c = (dayN c.y c.mo c.d * 86400 + (60 * (60 * (c.h - c.ah * c.bh) + c.mi - c.ah * c.bm) + c.s)) * 1000000000 + c.ns := rfl
  have HMd : Hid (∀ n, MT (w.drewN n)) := fun n => hM.below (below_drewN (Below.refl _ _) n)
  clear hM hk g1
  generalize nsC c = V at *
  generalize dayN c.y c.mo c.d = D at *
  generalize c.y = y at *
  generalize c.mo = mo at *
  generalize c.d = d at *
  generalize c.h = h at *
  generalize c.mi = mi at *
  generalize c.s = s at *
  generalize c.ns = ns at *
  generalize c.ah = ah at *
  generalize c.bh = bh at *
  generalize c.bm = bm at *
  obtain ⟨db1, db2⟩ := db
  obtain ⟨T, hT⟩ : ∃ T : Int, (dayN 0 0 0) * 0 + D * 86400 + (60 * (60 * (h - ah * bh) + mi - ah * bm) + s) = T := ⟨_, rfl⟩
  rw [Int.mul_zero, Int.zero_add] at hT
  rw [hT] at HS
  have i9 : I64 1000000000 := ⟨by omega, by omega⟩
  rcases g10 with e | e | e <;> subst e
  all_goals
    simp only [Int.zero_mul, Int.one_mul, Int.neg_mul, Int.sub_zero, Int.sub_neg] at hT
    have tb : -100000000000000 ≤ T ∧ T ≤ 1000000000000000 := by omega
    obtain ⟨tb1, tb2⟩ := tb
    have HV : Hid (V = T * 1000000000 + ns) := HS
    clear HS
    by_cases hneg : T < 0
    · by_cases hm : I64 ((T + 1) * 1000000000)
      · have M := fun W => mul_yes (T + 1) 1000000000 ⟨by omega, by omega⟩ i9 hm W
        have AD := fun W => add_any ((T + 1) * 1000000000) (ns - 1000000000) hm ⟨by omega, by omega⟩ W
        have HE : Hid ((T + 1) * 1000000000 + (ns - 1000000000) = V) := by have hh := HV.out; show _ = _; omega
        go_enter Tryz.func38, Tryz.ntmps38
        go_wp2
        go_quiet ((go_at_call 80; exact Calls.quiet_of_same (DY.out _ (HMd.out _))))
        go_wp2
        go_quiet (fail)
        go_wp2_with (first | (go_at_call 81; refine (M _).mono ?_; rintro e w1 ⟨rfl, B1⟩) | (go_at_call 82; refine (AD _).mono ?_; rintro e w2 ⟨rfl, B2⟩))
        go_ret2
        exact ⟨by rw [← HE.out]; rfl, below_then ((below_drewN (Below.refl w.heap.size w) _).trans (B1.mono (by simp))) B2⟩
      · have M := fun W => mul_no (T + 1) 1000000000 ⟨by omega, by omega⟩ i9 hm W
        have HE : Hid (¬ I64 V) := by show ¬ _; rw [HV.out]; unfold I64 at hm ⊢; omega
        go_enter Tryz.func38, Tryz.ntmps38
        go_wp2
        go_quiet ((go_at_call 80; exact Calls.quiet_of_same (DY.out _ (HMd.out _))))
        go_wp2
        go_quiet (fail)
        go_wp2_with (go_at_call 81; refine (M _).mono ?_; rintro e w1 ⟨rfl, B1⟩)
        go_ret2
        exact ⟨by rw [nE_no HE.out]; rfl, (below_drewN (Below.refl w.heap.size w) _).trans (B1.mono (by simp))⟩
    · by_cases hm : I64 ((T) * 1000000000)
      · have M := fun W => mul_yes (T) 1000000000 ⟨by omega, by omega⟩ i9 hm W
        have AD := fun W => add_any ((T) * 1000000000) (ns) hm ⟨by omega, by omega⟩ W
        have HE : Hid ((T) * 1000000000 + (ns) = V) := by have hh := HV.out; show _ = _; omega
        go_enter Tryz.func38, Tryz.ntmps38
        go_wp2
        go_quiet ((go_at_call 80; exact Calls.quiet_of_same (DY.out _ (HMd.out _))))
        go_wp2
        go_quiet (fail)
        go_wp2_with (first | (go_at_call 81; refine (M _).mono ?_; rintro e w1 ⟨rfl, B1⟩) | (go_at_call 82; refine (AD _).mono ?_; rintro e w2 ⟨rfl, B2⟩))
        go_ret2
        exact ⟨by rw [← HE.out]; rfl, below_then ((below_drewN (Below.refl w.heap.size w) _).trans (B1.mono (by simp))) B2⟩
      · have M := fun W => mul_no (T) 1000000000 ⟨by omega, by omega⟩ i9 hm W
        have HE : Hid (¬ I64 V) := by show ¬ _; rw [HV.out]; unfold I64 at hm ⊢; omega
        go_enter Tryz.func38, Tryz.ntmps38
        go_wp2
        go_quiet ((go_at_call 80; exact Calls.quiet_of_same (DY.out _ (HMd.out _))))
        go_wp2
        go_quiet (fail)
        go_wp2_with (go_at_call 81; refine (M _).mono ?_; rintro e w1 ⟨rfl, B1⟩)
        go_ret2
        exact ⟨by rw [nE_no HE.out]; rfl, (below_drewN (Below.refl w.heap.size w) _).trans (B1.mono (by simp))⟩
end Go.Proofs.YtipahdplkmmofaaGreatDoor
