
import Derived.Test.YtlcpkbllpkgihaaDoorRwA
namespace Go.Proofs.YtlcpkbllpkgihaaDoor
open Go.RowKit
set_option linter.unusedVariables false
set_option linter.unusedSimpArgs false
section
variable {N : Nat} {w1 : World} {a : Option Addr} {n cap p r : Nat} {bs : Nat → Nat} {w : World}
theorem starts_ok (h : RR N w1 a n cap bs p r none w) (hr : ¬ (r ≠ 0 ∧ bs (p - 1) % 2 ^ r ≠ 0)) : Calls Tryd.prog 72 #[.pointer (some ⟨N, 0, none⟩)] w fun e w' => e = .returned (.bool true) ∧ RR N w1 a n cap bs p r none w' ∧ RF N w w' := by
  have hd : decide (r ≠ 0 ∧ bs (p - 1) % 2 ^ r ≠ 0) = false := decide_eq_false hr
  have hS : Hid _ := sound_any h
  have hR := ragged_any h
  rw [hd] at hR
  have hRH : Hid _ := hR
  clear hR hd h hr
  go_enter Tryd.func72, Tryd.ntmps72
  go_wp2_with fail
  refine Calls.mono hS.out ?_
  rintro e w2 ⟨rfl, hw2⟩
  have hw3 := hw2.symm
  subst hw3
  go_wp2_with fail
  refine Calls.mono hRH.out ?_
  rintro e w3 ⟨rfl, h3, F3⟩
  go_wp2_with fail
  go_ret
  exact ⟨rfl, h3, F3⟩
theorem has_ok (h : RR N w1 a n cap bs p r none w) (m : Nat) (z : Int) (hz : z = (m : Int)) (hm : p + m ≤ n) : Calls Tryd.prog 73 #[.pointer (some ⟨N, 0, none⟩), .int .i64 z] w fun e w' => e = .returned (.bool true) ∧ RR N w1 a n cap bs p r none w' ∧ RF N w w' := by
  subst hz
  have hL : Hid _ := left_any h
  have hI : ¬ (n : Int) - (p : Int) < (m : Int) := by omega
  clear h
  go_enter Tryd.func73, Tryd.ntmps73
  go_wp2_with fail
  refine Calls.mono hL.out ?_
  rintro e w3 ⟨rfl, h3, F3⟩
  go_wp2_with fail
  go_ret
  exact ⟨rfl, h3, F3⟩
set_option maxRecDepth 100000 in
theorem rByte_ok (h : RR N w1 a n cap bs p r none w) (hr : ¬ (r ≠ 0 ∧ bs (p - 1) % 2 ^ r ≠ 0)) (hm : p < n) : Calls Tryd.prog 27 #[.pointer (some ⟨N, 0, none⟩)] w fun e w' => e = .returned (.int .u8 (bs p : Int)) ∧ RR N w1 a n cap bs (p + 1) 0 none w' ∧ RF N w w' := by
  have hS : Hid _ := starts_ok h hr
  clear h hr
  go_enter Tryd.func27, Tryd.ntmps27
  go_wp2_with fail
  refine Calls.mono hS.out ?_
  rintro e w2 ⟨rfl, h2, F2⟩
  have hH : Hid _ := has_ok h2 1 _ rfl (by omega)
  clear h2
  go_wp2_with fail
  refine Calls.mono hH.out ?_
  rintro e w3 ⟨rfl, h3, F3⟩
  have c0 := h3.c0
  have c1 := h3.c1
  rcases h3.row with h0 | ⟨b, off, rfl, hb, hbN, hB⟩
  · omega
  have hc := (hB p hm).1
  have hp0 : (0 : Int) ≤ (p : Int) := by omega
  have hp2 : (p : Int) < (n : Int) := by omega
  have hP : Hid (∀ k, Calls Tryd.prog 74 #[.pointer (some ⟨N, 0, none⟩), .int .i64 1] (w3.drewN k) fun e w' => e = .returned undef ∧ RR N w1 _ n cap bs (p + 1) 0 none w' ∧ RF N (w3.drewN k) w') := fun k => pass_any (h3.drewN k) 1 1 rfl (by omega)
  have hPF : RF N w w3 := F2.trans F3
  clear h3 hB
  go_wp2_with fail
  go_quiet (fail)
  go_wp2_with fail
  refine (hP.out _).mono ?_
  rintro e w4 ⟨rfl, h4, F4⟩
  go_wp2_with fail
  go_ret
  exact ⟨rfl, h4, (hPF.trans (RF.drewN _ _)).trans F4⟩
set_option maxRecDepth 100000 in
set_option maxHeartbeats 1000000 in
theorem rFix_ok (h : RR N w1 a n cap bs p r none w) (hr : ¬ (r ≠ 0 ∧ bs (p - 1) % 2 ^ r ≠ 0)) (hm : p + 4 ≤ n) : Calls Tryd.prog 28 #[.pointer (some ⟨N, 0, none⟩)] w fun e w' => e = .returned (.int .u32 (u32At bs p : Nat)) ∧ RR N w1 a n cap bs (p + 4) 0 none w' ∧ RF N w w' := by
  have hS : Hid _ := starts_ok h hr
  clear h hr
  go_enter Tryd.func28, Tryd.ntmps28
  go_wp2_with fail
  refine Calls.mono hS.out ?_
  rintro e w2 ⟨rfl, h2, F2⟩
  have hH : Hid _ := has_ok h2 4 _ rfl (by omega)
  clear h2
  go_wp2_with fail
  refine Calls.mono hH.out ?_
  rintro e w3 ⟨rfl, h3, F3⟩
  have c0 := h3.c0
  have c1 := h3.c1
  have nc := h3.nc
  have nb := h3.nb
  rcases h3.row with h0 | ⟨b, off, rfl, hb, hbN, hB⟩
  · omega
  have hp0 : (0 : Int) ≤ (p : Int) := by omega
  have hp2 : (p : Int) ≤ (n : Int) := by omega
  have hp3 : (p : Int) ≤ (cap : Int) := by omega
  have q0 := hB p (by omega)
  have q1 := hB (p + 1) (by omega)
  have q2 := hB (p + 2) (by omega)
  have q3 := hB (p + 3) (by omega)
  rw [← Nat.add_assoc] at q1 q2 q3
  have hU : Hid (∀ k c, Calls Tryd.prog 75 #[.slice (some ⟨b, off + p, none⟩) (n - p) c] (w3.drewN k) fun e w' => e = .returned (.int .u32 (u32At bs p : Nat)) ∧ ∃ m, w' = w3.drewN m) := fun k c => (unfour_any b (off + p) (n - p) c _ _ _ _ (w3.drewN k) (by omega) q0.1 q1.1 q2.1 q3.1 q0.2 q1.2 q2.2 q3.2).mono (by rintro e w' ⟨rfl, rfl⟩; exact ⟨rfl, k + 1, rfl⟩)
  have hP : Hid (∀ w', Below w3.heap.size w3 w' → Calls Tryd.prog 74 #[.pointer (some ⟨N, 0, none⟩), .int .i64 4] w' fun e w'' => e = .returned undef ∧ RR N w1 _ n cap bs (p + 4) 0 none w'' ∧ RF N w' w'') := fun w' hb => pass_any (h3.below hb) 4 4 rfl (by omega)
  have hPF : RF N w w3 := F2.trans F3
  have hpc : p < cap := by omega
  have hpc2 : ¬ cap ≤ p := by omega
  have hpc3 : ¬ cap - p = 0 := by omega
  have hpc4 : ¬ cap = p := by omega
  have hpn4 : p ≤ n := by omega
  have hpn5 : p ≤ cap := by omega
  clear h3 hB q0 q1 q2 q3
  go_wp2_with fail
  go_quiet ((go_at_call 75; exact hU.out _ _))
  go_wp2_with fail
  refine (hP.out _ (below_drewN (Below.refl _ _) _)).mono ?_
  rintro e w4 ⟨rfl, h4, F4⟩
  go_wp2_with fail
  go_ret
  exact ⟨rfl, h4, (hPF.trans (RF.drewN _ _)).trans F4⟩
end
end Go.Proofs.YtlcpkbllpkgihaaDoor
