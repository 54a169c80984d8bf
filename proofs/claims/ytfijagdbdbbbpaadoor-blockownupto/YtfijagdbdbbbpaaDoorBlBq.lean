
import Derived.Test.YtfijagdbdbbbpaaDoorBuI
import Derived.BigQuiet
import Derived.WalkMore
namespace Go.Proofs.YtfijagdbdbbbpaaDoor
open Go.RowKit
set_option linter.unusedVariables false
set_option linter.unusedSimpArgs false
/-- a turn is of none of the first k classes. -/
def outOf (d : Int) : Nat → Prop
  | 0 => True
  | 1 => d ≠ 0
  | 2 => ¬ (-63 ≤ d ∧ d ≤ 64)
  | 3 => ¬ (-255 ≤ d ∧ d ≤ 256)
  | _ => ¬ (-2047 ≤ d ∧ d ≤ 2048)
/-- the table as a value. -/
def tabV : Value := .agg #[.int .i64 0, .int .i64 0, .int .i64 0, .int .i64 (-63), .int .i64 64, .int .i64 7, .int .i64 (-255), .int .i64 256, .int .i64 9, .int .i64 (-2047), .int .i64 2048, .int .i64 12]
theorem idx0 (w : World) : (Instr.index 110 tabV (.int .i64 0)).run Tryd.prog w = .ok (.agg #[.int .i64 0, .int .i64 0, .int .i64 0]) w := by kernel_rfl
theorem idx1 (w : World) : (Instr.index 110 tabV (.int .i64 1)).run Tryd.prog w = .ok (.agg #[.int .i64 (-63), .int .i64 64, .int .i64 7]) w := by kernel_rfl
theorem idx2 (w : World) : (Instr.index 110 tabV (.int .i64 2)).run Tryd.prog w = .ok (.agg #[.int .i64 (-255), .int .i64 256, .int .i64 9]) w := by kernel_rfl
theorem idx3 (w : World) : (Instr.index 110 tabV (.int .i64 3)).run Tryd.prog w = .ok (.agg #[.int .i64 (-2047), .int .i64 2048, .int .i64 12]) w := by kernel_rfl
set_option maxRecDepth 100000 in
set_option maxHeartbeats 8000000 in
theorem putTurn_any {N : Nat} {w1 w : World} {s : List Nat × Nat} (h : RW N w1 s w) (hct : CT w) (hN : 0 < N) (d : Int) (hd : -9223372036854775808 ≤ d ∧ d ≤ 9223372036854775807) (hb : s.1.length + 200 ≤ 140737488355328) :
    Calls Tryd.prog 18 #[.pointer (some ⟨N, 0, none⟩), .int .i64 d] w fun e w' => e = .returned undef ∧ RW N w1 (turnOn d s) w' := by
  have t0 := hct 0 (by omega)
  have t1 := hct 1 (by omega)
  have t2 := hct 2 (by omega)
  have t3 := hct 3 (by omega)
  have t4 := hct 4 (by omega)
  have t5 := hct 5 (by omega)
  have t6 := hct 6 (by omega)
  have t7 := hct 7 (by omega)
  have t8 := hct 8 (by omega)
  have t9 := hct 9 (by omega)
  have t10 := hct 10 (by omega)
  have t11 := hct 11 (by omega)
  simp only [clsV, List.getD_cons_zero, List.getD_cons_succ] at t0 t1 t2 t3 t4 t5 t6 t7 t8 t9 t10 t11
  obtain ⟨U, hU⟩ : ∃ U : Nat, (U : Int) = d % 18446744073709551616 := ⟨(d % 18446744073709551616).toNat, by omega⟩
  have hUw : IntKind.u64.wrap d = (U : Int) := by rw [IntKind.wrap_u64]; omega
  have hUlt : U < 18446744073709551616 := by omega
  have hUm : d % 18446744073709551616 = (U : Int) := hU.symm
  have i0 : ∀ w, _ := idx0
  have i1 : ∀ w, _ := idx1
  have i2 : ∀ w, _ := idx2
  have i3 : ∀ w, _ := idx3
  simp only [tabV] at i0 i1 i2 i3
  have hUH : Hid _ := hU
  clear hU
  have hend : Hid (∀ (wr : World), Below w.heap.size w wr → ∀ (A : Nat) (B : Int) (C : Nat) (D : Int), turnOn d s = bitsOn C (broughtN D) (bitsOn A (broughtN B) s) → A < 100 → C < 18446744073709551616 → Calls Tryd.prog 22 #[.pointer (some ⟨N, 0, none⟩), .int .u64 (A : Int), .int .i64 B] wr fun e w2 => e = .returned undef ∧ Calls Tryd.prog 22 #[.pointer (some ⟨N, 0, none⟩), .int .u64 (C : Int), .int .i64 D] w2 fun e w3 => e = .returned undef ∧ RW N w1 (turnOn d s) w3) := by
    unfold Hid
    intro wr hB A B C D he hA hC
    refine (rw_bits (h.below hB) A (by omega) _ B rfl (by omega)).mono ?_
    rintro e w2 ⟨rfl, h2⟩
    have hl := bitsOn_len A (broughtN B) s
    have hk := broughtN_le B
    refine ⟨rfl, (rw_bits h2 C hC _ D rfl (by omega)).mono ?_⟩
    rintro e w3 ⟨rfl, h3⟩
    rw [he]
    exact ⟨rfl, h3⟩
  clear h hct
  go_enter Tryd.func18, Tryd.ntmps18
  go_wp2_with fail
  go_step3
  go_wp2_with fail
  go_step3
  go_wp2_with fail
  go_loopw [4, 5, 6, 7, 13] (fun hd ln rs sz ix wr => ∃ k : Nat, k ≤ 4 ∧ hd = .int .u64 ((2 ^ k - 1 : Nat) : Int) ∧ ln = .int .i64 (k : Int) ∧ rs = .int .u64 (U : Int) ∧ sz = .int .i64 64 ∧ ix = .int .i64 (k : Int) ∧ Below w.heap.size w wr ∧ outOf d k) (fun _ _ _ _ ix _ => 4 - (intOf ix).toNat)
  case atStart => exact ⟨0, by omega, rfl, rfl, rfl, rfl, rfl, Below.refl _ _, trivial⟩
  case round =>
    clear t0 t1 t2 t3 t4 t5 t6 t7 t8 t9 t10 t11
    obtain ⟨k, hk, rfl, rfl, rfl, rfl, rfl, hB, ho⟩ := hrel
    have hk5 : k = 0 ∨ k = 1 ∨ k = 2 ∨ k = 3 ∨ k = 4 := by omega
    rcases hk5 with rfl | rfl | rfl | rfl | rfl
    · simp only [show ((2 ^ 0 - 1 : Nat) : Int) = 0 from rfl, show ((0 : Nat) : Int) = 0 from rfl]
      clear i1 i2 i3
      by_cases hc : 0 ≤ d ∧ d ≤ 0
      · have hwhy : Hid (turnOn d s = bitsOn U (broughtN 0) (bitsOn 0 (broughtN 1) s)) := (by
          obtain rfl : d = 0 := by omega
          rfl : turnOn d s = bitsOn U (broughtN 0) (bitsOn 0 (broughtN 1) s))
        obtain ⟨c1, c2⟩ := hc
        clear ho
        have hdw : wrap64 d = d := by unfold wrap64; omega
        have hBz : ∀ (o : Obj) (nq : Nat), Below w.heap.size w ((wr.alloc o).drewN nq) := fun o nq => below_drewN (below_new hB o) nq
        go_wp2_with fail
        go_quiet (fail)
        go_wp2_with fail
        refine Calls.mono (hend.out _ (hBz _ _) 0 1 U 0 hwhy.out (by omega) (by omega)) ?_
        rintro e w2 ⟨rfl, h2⟩
        have h2H : Hid _ := h2
        clear h2
        go_wp2_with fail
        refine Calls.mono h2H.out ?_
        rintro e w3 ⟨rfl, h3⟩
        have h3H : Hid (RW N w1 (turnOn d s) w3) := h3
        clear h3
        go_wp2_with fail
        first | go_end0 | (simp only [Exit.inBlock, Exit.then]; refine bodyPost_ret (results_none rfl _ _ _) rfl ?_) | refine bodyPost_ret (results_none rfl _ _ _) rfl ?_ | skip
        first | exact ⟨rfl, h3H.out⟩ | exact ⟨_, results_none rfl _ _ _, rfl, h3H.out⟩ | exact ⟨rfl, _, results_none rfl _ _ _, rfl, h3H.out⟩
      · have hcc : Hid (outOf d 1) := (show d ≠ 0 by omega)
        have hn : d ≠ 0 := by omega
        rcases Int.lt_or_le d 0 with hlt | hge
        · have g1 : ¬ (0 : Int) ≤ d := by omega
          go_wp2_with fail
          go_roundw
          exact ⟨1, by omega, rfl, rfl, rfl, rfl, rfl, below_new hB _, hcc.out⟩
          simp [intOf]
        · have g2 : ¬ d ≤ (0 : Int) := by omega
          go_wp2_with fail
          go_roundw
          exact ⟨1, by omega, rfl, rfl, rfl, rfl, rfl, below_new hB _, hcc.out⟩
          simp [intOf]
    · simp only [show ((2 ^ 1 - 1 : Nat) : Int) = 1 from rfl, show ((1 : Nat) : Int) = 1 from rfl]
      clear i0 i2 i3
      by_cases hc : -63 ≤ d ∧ d ≤ 64
      · have hwhy : Hid (∀ R : Nat, (R : Int) = d - (-63) → turnOn d s = bitsOn R (broughtN 7) (bitsOn 2 (broughtN 2) s)) := (by
          intro R hR
          have ho' : d ≠ 0 := ho
          have e0 : ¬ d = 0 := by omega
          unfold turnOn
          have a1 : turnA d = 2 := by unfold turnA; rw [if_neg e0, if_pos hc]
          have a2 : turnB d = 2 := by unfold turnB; rw [if_neg e0, if_pos hc]
          have a3 : turnC d = R := by unfold turnC; rw [if_neg e0, if_pos hc]; omega
          have a4 : turnD d = 7 := by unfold turnD; rw [if_neg e0, if_pos hc]
          rw [a1, a2, a3, a4]
          rfl : ∀ R : Nat, (R : Int) = d - (-63) → turnOn d s = bitsOn R (broughtN 7) (bitsOn 2 (broughtN 2) s))
        obtain ⟨c1, c2⟩ := hc
        clear ho
        obtain ⟨R, hR⟩ : ∃ R : Nat, (R : Int) = d - (-63) := ⟨(d - (-63)).toNat, by omega⟩
        have hRl : R < 18446744073709551616 := by omega
        have hRH : Hid ((R : Int) = d - (-63)) := hR
        have hRa : d - (-63) = (R : Int) := hR.symm
        have hRb : d + 63 = (R : Int) := by omega
        have hRm : (R : Int) % 18446744073709551616 = (R : Int) := by omega
        have hRw : wrap64 (R : Int) = (R : Int) := by unfold wrap64; omega
        clear hR
        have hBz : ∀ (o : Obj) (nq : Nat), Below w.heap.size w ((wr.alloc o).drewN nq) := fun o nq => below_drewN (below_new hB o) nq
        go_wp2_with fail
        go_quiet (fail)
        go_wp2_with fail
        refine Calls.mono (hend.out _ (hBz _ _) 2 2 R 7 (hwhy.out R hRH.out) (by omega) (by omega)) ?_
        rintro e w2 ⟨rfl, h2⟩
        have h2H : Hid _ := h2
        clear h2
        go_wp2_with fail
        refine Calls.mono h2H.out ?_
        rintro e w3 ⟨rfl, h3⟩
        have h3H : Hid (RW N w1 (turnOn d s) w3) := h3
        clear h3
        go_wp2_with fail
        first | go_end0 | (simp only [Exit.inBlock, Exit.then]; refine bodyPost_ret (results_none rfl _ _ _) rfl ?_) | refine bodyPost_ret (results_none rfl _ _ _) rfl ?_ | skip
        first | exact ⟨rfl, h3H.out⟩ | exact ⟨_, results_none rfl _ _ _, rfl, h3H.out⟩ | exact ⟨rfl, _, results_none rfl _ _ _, rfl, h3H.out⟩
      · have hcc : Hid (outOf d 2) := (show ¬ (-63 ≤ d ∧ d ≤ 64) by omega)
        rcases Int.lt_or_le d (-63) with hlt | hge
        · have g1 : ¬ (-63 : Int) ≤ d := by omega
          go_wp2_with fail
          go_roundw
          exact ⟨2, by omega, rfl, rfl, rfl, rfl, rfl, below_new hB _, hcc.out⟩
          simp [intOf]
        · have g2 : ¬ d ≤ (64 : Int) := by omega
          go_wp2_with fail
          go_roundw
          exact ⟨2, by omega, rfl, rfl, rfl, rfl, rfl, below_new hB _, hcc.out⟩
          simp [intOf]
    · simp only [show ((2 ^ 2 - 1 : Nat) : Int) = 3 from rfl, show ((2 : Nat) : Int) = 2 from rfl]
      clear i0 i1 i3
      by_cases hc : -255 ≤ d ∧ d ≤ 256
      · have hwhy : Hid (∀ R : Nat, (R : Int) = d - (-255) → turnOn d s = bitsOn R (broughtN 9) (bitsOn 6 (broughtN 3) s)) := (by
          intro R hR
          have ho' : ¬ (-63 ≤ d ∧ d ≤ 64) := ho
          have e0 : ¬ d = 0 := by omega
          have e1 : ¬ (-63 ≤ d ∧ d ≤ 64) := by omega
          unfold turnOn
          have a1 : turnA d = 6 := by unfold turnA; rw [if_neg e0, if_neg e1, if_pos hc]
          have a2 : turnB d = 3 := by unfold turnB; rw [if_neg e0, if_neg e1, if_pos hc]
          have a3 : turnC d = R := by unfold turnC; rw [if_neg e0, if_neg e1, if_pos hc]; omega
          have a4 : turnD d = 9 := by unfold turnD; rw [if_neg e0, if_neg e1, if_pos hc]
          rw [a1, a2, a3, a4]
          rfl : ∀ R : Nat, (R : Int) = d - (-255) → turnOn d s = bitsOn R (broughtN 9) (bitsOn 6 (broughtN 3) s))
        obtain ⟨c1, c2⟩ := hc
        clear ho
        obtain ⟨R, hR⟩ : ∃ R : Nat, (R : Int) = d - (-255) := ⟨(d - (-255)).toNat, by omega⟩
        have hRl : R < 18446744073709551616 := by omega
        have hRH : Hid ((R : Int) = d - (-255)) := hR
        have hRa : d - (-255) = (R : Int) := hR.symm
        have hRb : d + 255 = (R : Int) := by omega
        have hRm : (R : Int) % 18446744073709551616 = (R : Int) := by omega
        have hRw : wrap64 (R : Int) = (R : Int) := by unfold wrap64; omega
        clear hR
        have hBz : ∀ (o : Obj) (nq : Nat), Below w.heap.size w ((wr.alloc o).drewN nq) := fun o nq => below_drewN (below_new hB o) nq
        go_wp2_with fail
        go_quiet (fail)
        go_wp2_with fail
        refine Calls.mono (hend.out _ (hBz _ _) 6 3 R 9 (hwhy.out R hRH.out) (by omega) (by omega)) ?_
        rintro e w2 ⟨rfl, h2⟩
        have h2H : Hid _ := h2
        clear h2
        go_wp2_with fail
        refine Calls.mono h2H.out ?_
        rintro e w3 ⟨rfl, h3⟩
        have h3H : Hid (RW N w1 (turnOn d s) w3) := h3
        clear h3
        go_wp2_with fail
        first | go_end0 | (simp only [Exit.inBlock, Exit.then]; refine bodyPost_ret (results_none rfl _ _ _) rfl ?_) | refine bodyPost_ret (results_none rfl _ _ _) rfl ?_ | skip
        first | exact ⟨rfl, h3H.out⟩ | exact ⟨_, results_none rfl _ _ _, rfl, h3H.out⟩ | exact ⟨rfl, _, results_none rfl _ _ _, rfl, h3H.out⟩
      · have hcc : Hid (outOf d 3) := (show ¬ (-255 ≤ d ∧ d ≤ 256) by omega)
        rcases Int.lt_or_le d (-255) with hlt | hge
        · have g1 : ¬ (-255 : Int) ≤ d := by omega
          go_wp2_with fail
          go_roundw
          exact ⟨3, by omega, rfl, rfl, rfl, rfl, rfl, below_new hB _, hcc.out⟩
          simp [intOf]
        · have g2 : ¬ d ≤ (256 : Int) := by omega
          go_wp2_with fail
          go_roundw
          exact ⟨3, by omega, rfl, rfl, rfl, rfl, rfl, below_new hB _, hcc.out⟩
          simp [intOf]
    · simp only [show ((2 ^ 3 - 1 : Nat) : Int) = 7 from rfl, show ((3 : Nat) : Int) = 3 from rfl]
      clear i0 i1 i2
      by_cases hc : -2047 ≤ d ∧ d ≤ 2048
      · have hwhy : Hid (∀ R : Nat, (R : Int) = d - (-2047) → turnOn d s = bitsOn R (broughtN 12) (bitsOn 14 (broughtN 4) s)) := (by
          intro R hR
          have ho' : ¬ (-255 ≤ d ∧ d ≤ 256) := ho
          have e0 : ¬ d = 0 := by omega
          have e1 : ¬ (-63 ≤ d ∧ d ≤ 64) := by omega
          have e2 : ¬ (-255 ≤ d ∧ d ≤ 256) := by omega
          unfold turnOn
          have a1 : turnA d = 14 := by unfold turnA; rw [if_neg e0, if_neg e1, if_neg e2, if_pos hc]
          have a2 : turnB d = 4 := by unfold turnB; rw [if_neg e0, if_neg e1, if_neg e2]
          have a3 : turnC d = R := by unfold turnC; rw [if_neg e0, if_neg e1, if_neg e2, if_pos hc]; omega
          have a4 : turnD d = 12 := by unfold turnD; rw [if_neg e0, if_neg e1, if_neg e2, if_pos hc]
          rw [a1, a2, a3, a4]
          rfl : ∀ R : Nat, (R : Int) = d - (-2047) → turnOn d s = bitsOn R (broughtN 12) (bitsOn 14 (broughtN 4) s))
        obtain ⟨c1, c2⟩ := hc
        clear ho
        obtain ⟨R, hR⟩ : ∃ R : Nat, (R : Int) = d - (-2047) := ⟨(d - (-2047)).toNat, by omega⟩
        have hRl : R < 18446744073709551616 := by omega
        have hRH : Hid ((R : Int) = d - (-2047)) := hR
        have hRa : d - (-2047) = (R : Int) := hR.symm
        have hRb : d + 2047 = (R : Int) := by omega
        have hRm : (R : Int) % 18446744073709551616 = (R : Int) := by omega
        have hRw : wrap64 (R : Int) = (R : Int) := by unfold wrap64; omega
        clear hR
        have hBz : ∀ (o : Obj) (nq : Nat), Below w.heap.size w ((wr.alloc o).drewN nq) := fun o nq => below_drewN (below_new hB o) nq
        go_wp2_with fail
        go_quiet (fail)
        go_wp2_with fail
        refine Calls.mono (hend.out _ (hBz _ _) 14 4 R 12 (hwhy.out R hRH.out) (by omega) (by omega)) ?_
        rintro e w2 ⟨rfl, h2⟩
        have h2H : Hid _ := h2
        clear h2
        go_wp2_with fail
        refine Calls.mono h2H.out ?_
        rintro e w3 ⟨rfl, h3⟩
        have h3H : Hid (RW N w1 (turnOn d s) w3) := h3
        clear h3
        go_wp2_with fail
        first | go_end0 | (simp only [Exit.inBlock, Exit.then]; refine bodyPost_ret (results_none rfl _ _ _) rfl ?_) | refine bodyPost_ret (results_none rfl _ _ _) rfl ?_ | skip
        first | exact ⟨rfl, h3H.out⟩ | exact ⟨_, results_none rfl _ _ _, rfl, h3H.out⟩ | exact ⟨rfl, _, results_none rfl _ _ _, rfl, h3H.out⟩
      · have hcc : Hid (outOf d 4) := (show ¬ (-2047 ≤ d ∧ d ≤ 2048) by omega)
        rcases Int.lt_or_le d (-2047) with hlt | hge
        · have g1 : ¬ (-2047 : Int) ≤ d := by omega
          go_wp2_with fail
          go_roundw
          exact ⟨4, by omega, rfl, rfl, rfl, rfl, rfl, below_new hB _, hcc.out⟩
          simp [intOf]
        · have g2 : ¬ d ≤ (2048 : Int) := by omega
          go_wp2_with fail
          go_roundw
          exact ⟨4, by omega, rfl, rfl, rfl, rfl, rfl, below_new hB _, hcc.out⟩
          simp [intOf]
    · simp only [show ((2 ^ 4 - 1 : Nat) : Int) = 15 from rfl, show ((4 : Nat) : Int) = 4 from rfl]
      clear i0 i1 i2 i3
      have hwhy : Hid (turnOn d s = bitsOn U (broughtN 64) (bitsOn 15 (broughtN 4) s)) := (by
        have ho' : ¬ (-2047 ≤ d ∧ d ≤ 2048) := ho
        have e0 : ¬ d = 0 := by omega
        have e1 : ¬ (-63 ≤ d ∧ d ≤ 64) := by omega
        have e2 : ¬ (-255 ≤ d ∧ d ≤ 256) := by omega
        have e3 : ¬ (-2047 ≤ d ∧ d ≤ 2048) := ho
        unfold turnOn
        have a1 : turnA d = 15 := by unfold turnA; rw [if_neg e0, if_neg e1, if_neg e2, if_neg e3]
        have a2 : turnB d = 4 := by unfold turnB; rw [if_neg e0, if_neg e1, if_neg e2]
        have a3 : turnC d = U := by unfold turnC; rw [if_neg e0, if_neg e1, if_neg e2, if_neg e3]; have := hUH.out; omega
        have a4 : turnD d = 64 := by unfold turnD; rw [if_neg e0, if_neg e1, if_neg e2, if_neg e3]
        rw [a1, a2, a3, a4]
        rfl : turnOn d s = bitsOn U (broughtN 64) (bitsOn 15 (broughtN 4) s))
      clear ho
      go_wp2_with fail
      refine Calls.mono (hend.out _ hB 15 4 U 64 hwhy.out (by omega) (by omega)) ?_
      rintro e w2 ⟨rfl, h2⟩
      have h2H : Hid _ := h2
      clear h2
      go_wp2_with fail
      refine Calls.mono h2H.out ?_
      rintro e w3 ⟨rfl, h3⟩
      have h3H : Hid (RW N w1 (turnOn d s) w3) := h3
      clear h3
      go_wp2_with fail
      first | go_end0 | (simp only [Exit.inBlock, Exit.then]; refine bodyPost_ret (results_none rfl _ _ _) rfl ?_) | refine bodyPost_ret (results_none rfl _ _ _) rfl ?_ | skip
      first | exact ⟨rfl, h3H.out⟩ | exact ⟨_, results_none rfl _ _ _, rfl, h3H.out⟩ | exact ⟨rfl, _, results_none rfl _ _ _, rfl, h3H.out⟩
end Go.Proofs.YtfijagdbdbbbpaaDoor
