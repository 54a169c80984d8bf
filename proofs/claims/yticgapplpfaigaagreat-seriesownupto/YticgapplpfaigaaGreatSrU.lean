
import Derived.Test.YticgapplpfaigaaGreatSrS
namespace Go.Proofs.YticgapplpfaigaaGreat
open Go.RowKit
set_option linter.unusedVariables false
set_option linter.unusedSimpArgs false
set_option maxRecDepth 100000 in
set_option maxHeartbeats 4000000 in
theorem sameD_nil (w : World) : Calls Tryz.prog 37 #[.slice none 0 0, .slice none 0 0] w fun e w' => e = .returned (.bool true) ∧ Below w.heap.size w w' := by
  go_enter Tryz.func37, Tryz.ntmps37
  go_wp2_with fail
  go_loopw [5] (fun i wr => i = .int .i64 0 ∧ wr = w) (fun _ _ => 0)
  case atStart => exact ⟨rfl, rfl⟩
  case round =>
    obtain ⟨rfl, rfl⟩ := hrel
    go_wp2_with fail
    go_ret
    exact ⟨rfl, Below.refl _ _⟩
theorem sameS_nil (w : World) : Calls Tryz.prog 35 #[.slice none 0 0, .slice none 0 0] w fun e w' => e = .returned (.bool true) ∧ Below w.heap.size w w' := sameS_any none none 0 0 [] w ⟨by simp, Or.inl rfl⟩ ⟨by simp, Or.inl rfl⟩ (by simp)
def stpV (s : Stp) : Value := .agg #[.int .i64 s.k, .int .i64 s.t, .int .i64 s.u, .int .u8 (s.vk : Int), .int .i64 s.vx, .slice s.la s.ls.length s.lc]
/-- a step's own block. -/
def Box (H : Nat) (s : Stp) (w : World) : Prop := H < w.heap.size ∧ w.cell? ⟨H, 0, none⟩ = some (.int .i64 s.k) ∧ w.cell? ⟨H, 1, none⟩ = some (.int .i64 s.t) ∧ w.cell? ⟨H, 2, none⟩ = some (.int .i64 s.u) ∧ w.cell? ⟨H, 3, none⟩ = some (.int .u8 (s.vk : Int)) ∧ w.cell? ⟨H, 4, none⟩ = some (.int .i64 s.vx) ∧ w.cell? ⟨H, 5, none⟩ = some (.slice s.la s.ls.length s.lc)
theorem Box.new (w : World) (s : Stp) (ty : TypeId) : Box w.heap.size s (w.alloc (.cells #[.int .i64 s.k, .int .i64 s.t, .int .i64 s.u, .int .u8 (s.vk : Int), .int .i64 s.vx, .slice s.la s.ls.length s.lc] ty)) := by
  refine ⟨by simp, ?_, ?_, ?_, ?_, ?_, ?_⟩ <;> simp [go_sem]
theorem Box.below {H B : Nat} {s : Stp} {w w' : World} (h : Box H s w) (hB : Below B w w') (hH : H < B) : Box H s w' := by
  obtain ⟨h0, h1, h2, h3, h4, h5, h6⟩ := h
  refine ⟨Nat.lt_of_lt_of_le h0 hB.size, ?_, ?_, ?_, ?_, ?_, ?_⟩
  · rw [hB.cell (p := ⟨H, 0, none⟩) hH]; exact h1
  · rw [hB.cell (p := ⟨H, 1, none⟩) hH]; exact h2
  · rw [hB.cell (p := ⟨H, 2, none⟩) hH]; exact h3
  · rw [hB.cell (p := ⟨H, 3, none⟩) hH]; exact h4
  · rw [hB.cell (p := ⟨H, 4, none⟩) hH]; exact h5
  · rw [hB.cell (p := ⟨H, 5, none⟩) hH]; exact h6
theorem SRow.below {H m : Nat} {f : Nat → Smp} {w1 wx w' : World} (h : SRow H m f w1 wx) (hb : Below wx.heap.size wx w') : SRow H m f w1 w' :=
  ⟨fun j hj => by rw [hb.cell (p := ⟨H, j * 3, none⟩) h.sz]; exact h.c0 j hj, fun j hj => by rw [hb.cell (p := ⟨H, j * 3 + 1, none⟩) h.sz]; exact h.c1 j hj, fun j hj => by rw [hb.cell (p := ⟨H, j * 3 + 2, none⟩) h.sz]; exact h.c2 j hj, fun j => by rw [frozen_block (hb.block H h.sz)]; exact h.z j, h.b.trans (hb.mono (Nat.le_of_lt h.sz)), Nat.lt_of_lt_of_le h.sz hb.size⟩
set_option maxRecDepth 100000 in
set_option maxHeartbeats 4000000 in
/-- a step with nil Series. -/
theorem step_nil (s : Stp) (w : World) (hL : LIn w s.la s.ls) (hn : s.ls.length ≤ 5864062014805) : Calls Tryz.prog 13 #[.pointer none, .pointer none, .agg #[.int .i64 s.k, .int .i64 s.t, .int .i64 s.u, .int .u8 (s.vk : Int), .int .i64 s.vx, .slice s.la s.ls.length s.lc]] w fun e w' => e = .returned (.bool true) ∧ Below w.heap.size w w' := by
  have hLH : Hid (LIn w s.la s.ls) := hL
  clear hL
  by_cases q0 : s.k = 0
  · rw [q0]
    go_enter Tryz.func13, Tryz.ntmps13
    go_wp2_with fail
    refine Calls.mono (ns_put _ _ _ _) ?_
    rintro e w1 ⟨rfl, hB1⟩
    have hX1 := (Box.new w s 64).below (by rw [q0]; exact hB1) (by simp)
    have hB1' := alloc_below hB1
    obtain ⟨x0, x1, x2, x3, x4, x5, x6⟩ := hX1
    clear hB1
    go_wp2_with fail
    refine Calls.mono (nr_put _ _ _ _) ?_
    rintro e w2 ⟨rfl, hB2⟩
    obtain ⟨r0, r1, f0, f1, hz⟩ := res_cells hB2
    have hB2' := hB1'.trans ((alloc_below hB2).mono hB1'.size)
    clear hB2
    go_wp2_with fail
    go_ret
    exact ⟨rfl, below_new hB2' _⟩
  · by_cases q1 : s.k = 1
    · rw [q1]
      go_enter Tryz.func13, Tryz.ntmps13
      go_wp2_with fail
      refine Calls.mono (ns_cut _ _) ?_
      rintro e w1 ⟨rfl, hB1⟩
      have hX1 := (Box.new w s 64).below (by rw [q1]; exact hB1) (by simp)
      have hB1' := alloc_below hB1
      obtain ⟨x0, x1, x2, x3, x4, x5, x6⟩ := hX1
      clear hB1
      go_wp2_with fail
      refine Calls.mono (nr_cut _ _) ?_
      rintro e w2 ⟨rfl, hB2⟩
      obtain ⟨r0, r1, f0, f1, hz⟩ := res_cells hB2
      have hB2' := hB1'.trans ((alloc_below hB2).mono hB1'.size)
      clear hB2
      go_wp2_with fail
      go_ret
      exact ⟨rfl, below_new hB2' _⟩
    · by_cases q2 : s.k = 2
      · rw [q2]
        go_enter Tryz.func13, Tryz.ntmps13
        go_wp2_with fail
        refine Calls.mono (ns_delete _ _ _) ?_
        rintro e w1 ⟨rfl, hB1⟩
        have hX1 := (Box.new w s 64).below (by rw [q2]; exact hB1) (by simp)
        have hB1' := alloc_below hB1
        obtain ⟨x0, x1, x2, x3, x4, x5, x6⟩ := hX1
        clear hB1
        go_wp2_with fail
        refine Calls.mono (nr_delete _ _ _) ?_
        rintro e w2 ⟨rfl, hB2⟩
        have hB2' := hB1'.trans (hB2.mono hB1'.size)
        go_wp2_with fail
        refine Calls.mono (sameS_nil _) ?_
        rintro e w3 ⟨rfl, hB3⟩
        go_wp2_with fail
        go_ret
        exact ⟨rfl, hB2'.trans (hB3.mono hB2'.size)⟩
      · by_cases q3 : s.k = 3
        · rw [q3]
          have hand : Hid (∀ W, LIn W s.la s.ls → Calls Tryz.prog 36 #[.slice s.la s.ls.length s.lc] W fun e w' => e = .returned (.slice (some ⟨W.heap.size, 0, none⟩) s.ls.length (s.ls.length + 9)) ∧ SRow W.heap.size (s.ls.length + 9) (handSF s.ls) W w') := fun W hW => handS_any s.la s.lc s.ls W hW hn
          have kept : Hid (∀ H W1 W, SRow H (s.ls.length + 9) (handSF s.ls) W1 W → LIn W s.la s.ls → Calls Tryz.prog 38 #[.slice (some ⟨H, 0, none⟩) s.ls.length (s.ls.length + 9), .slice s.la s.ls.length s.lc] W fun e w' => e = .returned (.bool true) ∧ Below W.heap.size W w') := fun H W1 W h1 h2 => keptS_any H s.la s.lc s.ls W1 W h1 h2 hn
          have hB0 := below_new (Below.refl _ w) (.cells #[.int .i64 s.k, .int .i64 s.t, .int .i64 s.u, .int .u8 (s.vk : Int), .int .i64 s.vx, .slice s.la s.ls.length s.lc] 64)
          have hX0 := Box.new w s 64
          rw [q3] at hB0 hX0
          have hL0 : Hid _ := LIn.below hLH.out hB0 (Nat.le_refl _)
          clear hLH
          go_enter Tryz.func13, Tryz.ntmps13
          go_wp2_with fail
          refine Calls.mono (hand.out _ hL0.out) ?_
          rintro e w1 ⟨rfl, hR1⟩
          have hB1 := hR1.b
          have hX1 := hX0.below hB1 (by simp)
          have hL1 : Hid (LIn w1 s.la s.ls) := LIn.below hL0.out hB1 (Nat.le_refl _)
          have hB1' := alloc_below hB1
          have hRH : Hid _ := hR1
          clear hB1 hR1 hL0 hX0 hand
          obtain ⟨x0, x1, x2, x3, x4, x5, x6⟩ := hX1
          go_wp2_with fail
          refine Calls.mono (ns_load _ _) ?_
          rintro e w2 ⟨rfl, hB2⟩
          have y6 := (hB2.cell (p := ⟨w.heap.size, 5, none⟩) x0).trans x6
          have hx0 : w.heap.size < w2.heap.size := Nat.lt_of_lt_of_le x0 hB2.size
          go_wp2_with fail
          refine Calls.mono (nr_load _ _) ?_
          rintro e w3 ⟨rfl, hB3⟩
          have hB13 := hB2.trans (hB3.mono hB2.size)
          go_wp2_with fail
          refine Calls.mono (sameD_nil _) ?_
          rintro e w4 ⟨rfl, hB4⟩
          have hB14 := hB13.trans (hB4.mono hB13.size)
          have z6 := (hB14.cell (p := ⟨w.heap.size, 5, none⟩) x0).trans x6
          have hHs : (w.alloc (.cells #[.int .i64 3, .int .i64 s.t, .int .i64 s.u, .int .u8 (s.vk : Int), .int .i64 s.vx, .slice s.la s.ls.length s.lc] 64)).heap.size = w.heap.size + 1 := by simp
          have hR4 := SRow.below hRH.out hB14
          rw [hHs] at hR4
          have hR4H : Hid _ := hR4
          have hk : Hid _ := kept.out (w.heap.size + 1) _ w4 hR4 (LIn.below hL1.out hB14 (Nat.le_refl _))
          have hx4 : w.heap.size < w4.heap.size := Nat.lt_of_lt_of_le x0 hB14.size
          clear hR4 hHs hRH kept hL1 y6 x1 x2 x3 x4 x5 x6 hB2 hB3 hB4 hB13
          go_wp2_with fail
          refine Calls.mono hk.out ?_
          rintro e w5 ⟨rfl, hB5⟩
          have hB15 := hB14.trans (hB5.mono hB14.size)
          have hB05 := hB1'.trans (hB15.mono hB1'.size)
          have hR5 : Hid _ := SRow.below hR4H.out hB5
          clear hk hR4H z6 hB14 hB15 hB5
          generalize s.ls.length = n at *
          generalize hHH : w.heap.size + 1 = H at *
          have hwH : w.heap.size ≤ H := by omega
          clear hHH
          go_wp2_with fail
          go_loopw [19] (fun i wr => ∃ k : Nat, k ≤ n ∧ i = .int .i64 (k : Int) ∧ Below w.heap.size w wr ∧ Hid (∃ f W1, SRow H (n + 9) f W1 wr)) (fun i _ => n - (intOf i).toNat)
          case atStart => exact ⟨0, by omega, rfl, hB05, ⟨_, _, hR5.out⟩⟩
          case round =>
            obtain ⟨k, hk, rfl, hB, hRr⟩ := hrel
            by_cases hkn : k < n
            · have hkI : (k : Int) < (n : Int) := by omega
              have k1 : (0 : Int) ≤ (k : Int) := by omega
              obtain ⟨f, W1, hR⟩ := hRr.out
              have y1 := hR.c0 k (by omega)
              have y2 := hR.c1 k (by omega)
              have y3 := hR.c2 k (by omega)
              have y4 := hR.z (k * 3)
              have y5 := hR.z (k * 3 + 1)
              have y6 := hR.z (k * 3 + 2)
              have hR' : Hid _ := hR.set k ⟨77, 0, 0⟩ (by omega)
              have hB' : Below w.heap.size w (((wr.setCell ⟨H, k * 3, none⟩ (.int .i64 77)).setCell ⟨H, k * 3 + 1, none⟩ (.int .u8 0)).setCell ⟨H, k * 3 + 2, none⟩ (.int .i64 0)) := ((hB.setCell (p := ⟨H, k * 3, none⟩) hwH _).setCell (p := ⟨H, k * 3 + 1, none⟩) hwH _).setCell (p := ⟨H, k * 3 + 2, none⟩) hwH _
              clear hR hRr
              go_wp2_with fail
              go_roundw
              case rel => exact ⟨k + 1, by omega, by go_num, hB', ⟨_, _, hR'.out⟩⟩
              case measure => simp [intOf]; omega
            · obtain rfl : k = n := by omega
              go_wp2_with fail
              go_ret
              exact ⟨rfl, hB⟩
        · go_enter Tryz.func13, Tryz.ntmps13
          go_wp2_with fail
          go_ret
          exact ⟨rfl, below_new (Below.refl _ _) _⟩
end Go.Proofs.YticgapplpfaigaaGreat
