
import Derived.Test.YtnfpommplokemaaDoorDecR
import Derived.Deep.RegionWith
namespace Go.Proofs.YtnfpommplokemaaDoor
open Go.RowKit
set_option linter.unusedVariables false
set_option linter.unusedSimpArgs false
/-- while a text is read: what is told (nothing yet), the sum so far. -/
structure PZ (w : World) (X : Int) (wx : World) : Prop where
  r0 : wx.cell? ⟨w.heap.size, 0, none⟩ = some (.int .i64 0)
  r1 : wx.cell? ⟨w.heap.size, 1, none⟩ = some (.int .u64 0)
  q0 : wx.frozen? ⟨w.heap.size, 0, none⟩ = false
  q1 : wx.frozen? ⟨w.heap.size, 1, none⟩ = false
  s0 : wx.cell? ⟨w.heap.size + 1, 0, none⟩ = some (.int .i64 (sH X))
  s1 : wx.cell? ⟨w.heap.size + 1, 1, none⟩ = some (.int .u64 (sL X))
  z0 : wx.frozen? ⟨w.heap.size + 1, 0, none⟩ = false
  z1 : wx.frozen? ⟨w.heap.size + 1, 1, none⟩ = false
  b : Below w.heap.size w wx
  sz : w.heap.size + 1 < wx.heap.size
theorem PZ.below {w : World} {X : Int} {wx w' : World} (h : PZ w X wx) (hb : Below wx.heap.size wx w') : PZ w X w' := by
  obtain ⟨r0, r1, q0, q1, s0, s1, z0, z1, b, sz⟩ := h
  refine ⟨?_, ?_, ?_, ?_, ?_, ?_, ?_, ?_, below_then b hb, Nat.lt_of_lt_of_le sz hb.size⟩
  · rw [hb.cell (by simp; omega)]; exact r0
  · rw [hb.cell (by simp; omega)]; exact r1
  · rw [hb.frozen (by simp; omega)]; exact q0
  · rw [hb.frozen (by simp; omega)]; exact q1
  · rw [hb.cell (by simp; omega)]; exact s0
  · rw [hb.cell (by simp; omega)]; exact s1
  · rw [hb.frozen (by simp; omega)]; exact z0
  · rw [hb.frozen (by simp; omega)]; exact z1
theorem PZ.drew {w : World} {X : Int} {wx : World} (h : PZ w X wx) : PZ w X wx.drew := ⟨h.r0, h.r1, h.q0, h.q1, h.s0, h.s1, h.z0, h.z1, h.b.drew, h.sz⟩
theorem PZ.put {w : World} {X : Int} {wx : World} (h : PZ w X wx) (Y : Int) : PZ w Y ((wx.setCell ⟨w.heap.size + 1, 0, none⟩ (.int .i64 (sH Y))).setCell ⟨w.heap.size + 1, 1, none⟩ (.int .u64 (sL Y))) := by
  obtain ⟨r0, r1, q0, q1, s0, s1, z0, z1, b, sz⟩ := h
  have n0 : ∀ i j, (⟨w.heap.size + 1, i, none⟩ : Addr) ≠ ⟨w.heap.size, j, none⟩ := fun i j e => by injection e with e1; omega
  refine ⟨?_, ?_, by simpa using q0, by simpa using q1, ?_, ?_, by simpa using z0, by simpa using z1, (b.setCell (p := ⟨w.heap.size + 1, 0, none⟩) (Nat.le_succ _) _).setCell (p := ⟨w.heap.size + 1, 1, none⟩) (Nat.le_succ _) _, by simpa using sz⟩
  · rw [World.cell?_setCell_other _ _ _ _ (n0 _ _), World.cell?_setCell_other _ _ _ _ (n0 _ _)]; exact r0
  · rw [World.cell?_setCell_other _ _ _ _ (n0 _ _), World.cell?_setCell_other _ _ _ _ (n0 _ _)]; exact r1
  · rw [World.cell?_setCell_other _ _ _ _ (by simp)]; exact World.cell?_setCell_same _ _ _ s0
  · exact World.cell?_setCell_same _ _ _ (u := .int .u64 (sL X)) (by rw [World.cell?_setCell_other _ _ _ _ (by simp)]; exact s1)
theorem tenfold_next (X : Int) (w : World) : Calls Tryd.prog 15 #[.agg #[.int .i64 (sH X), .int .u64 (sL X)]] w fun e w' => e = .returned (.agg #[.int .i64 (sH (wr (X * 10))), .int .u64 (sL (wr (X * 10)))]) ∧ Below w.heap.size w w' := by
  have h := tenfold_any (sH X) (sL X) (U64_sL X) w
  rw [sv_H_L] at h; exact h
theorem plus_nextI (Y d : Int) (hd : I64 d) (w : World) : Calls Tryd.prog 12 #[.agg #[.int .i64 (sH Y), .int .u64 (sL Y)], .int .i64 d] w fun e w' => e = .returned (.agg #[.int .i64 (sH (wr (Y + d))), .int .u64 (sL (wr (Y + d)))]) ∧ Below w.heap.size w w' := by
  have h := plus_any (sH Y) (sL Y) d (U64_sL Y) hd w
  rw [sv_H_L] at h
  refine h.mono ?_
  rintro e w' ⟨rfl, c1, c2, c3, c4, rfl⟩
  exact ⟨rfl, below_new (below_new (below_new (below_new (Below.refl _ _) _) _) _) _⟩
theorem i64_wrap_I64 (x : Int) : I64 (IntKind.i64.wrap x) := by rw [IntKind.wrap_i64]; unfold I64; omega
theorem digS_get (V k : Nat) (h : k < (digS V).size) : ((digS V)[k]'h).toNat = 48 + (decD V).getD k 0 := by
  have hk : k < (decD V).length := by rw [digS_size] at h; exact h
  have hd : (decD V).getD k 0 < 10 := by
    rw [List.getD_eq_getElem?_getD, List.getElem?_eq_getElem hk]
    exact decD_lt V _ (List.getElem_mem hk)
  have e : (digS V).data.toList = (decD V).map fun d => UInt8.ofNat (48 + d) := by
    unfold digS; rw [strOfNums_data, bytes_same, List.map_map]; rfl
  have h1 : ((digS V)[k]'h) = (digS V).data.toList[k]'(by rw [e, List.length_map]; exact hk) := rfl
  rw [h1]
  have h2 : (digS V).data.toList[k]? = some (UInt8.ofNat (48 + (decD V).getD k 0)) := by
    rw [e, List.getElem?_map, List.getElem?_eq_getElem hk]
    rw [List.getD_eq_getElem?_getD, List.getElem?_eq_getElem hk]; rfl
  have h3 := (List.getElem?_eq_some_iff.1 h2).2
  rw [h3, UInt8.toNat_ofNat']
  omega
theorem dig_val (x d : Nat) (h : x = 48 + d) (hd : d < 10) : IntKind.i64.wrap (IntKind.i64.wrap (x : Int) - 48) = (d : Int) := by
  rw [IntKind.wrap_i64, IntKind.wrap_i64]; omega
theorem dig_val2 (x d : Nat) (h : x = 48 + d) (hd : d < 10) : wrap64 (wrap64 (x : Int) - 48) = (d : Int) := by unfold wrap64; omega
theorem wr_ten (X d : Int) : wr (wr (wr X * 10) + d) = wr (X * 10 + d) := by
  have h1 : ∃ q, wr X = X - 340282366920938463463374607431768211456 * q := ⟨(X + 170141183460469231731687303715884105728) / 340282366920938463463374607431768211456, by unfold wr; omega⟩
  obtain ⟨q, hq⟩ := h1
  rw [hq]
  unfold wr
  omega
set_option maxRecDepth 100000 in
set_option maxHeartbeats 4000000 in
theorem parse_dec (v : Int) (hS : S128 v) (w : World) :
    Calls Tryd.prog 5 #[.string (decS v)] w fun e w' => e = .returned (.tuple #[.agg #[.int .i64 (sH v), .int .u64 (sL v)], .nilIface]) ∧ Below w.heap.size w w' := by
  have hV0 : 0 ≤ ab v := by unfold ab; split <;> omega
  obtain ⟨V, hV⟩ := Int.eq_ofNat_of_zero_le hV0
  have hV2 : V ≤ 170141183460469231731687303715884105728 := by unfold S128 at hS; unfold ab at hV; split at hV <;> omega
  have hcut : ∃ b, (b = true ↔ v < 0) ∧ Lib.hasPrefix (decS v).data.toList [45] = b ∧ (⟨(Lib.trimPrefix (decS v).data.toList [45]).toArray⟩ : ByteArray) = digS V := by
    by_cases h : v < 0
    · exact ⟨true, by simp [h], (cut_neg v h).1, by rw [(cut_neg v h).2, hV]; rfl⟩
    · exact ⟨false, by simp [h], (cut_pos v h).1, by rw [(cut_pos v h).2, hV]; rfl⟩
  obtain ⟨b, hb, hp1, hp2⟩ := hcut
  have hcp := Tryd.strings_CutPrefix (decS v) ⟨#[45]⟩
  rw [show (⟨#[45]⟩ : ByteArray).data.toList = [45] from rfl, hp1, hp2] at hcp
  have hpr := print_any (sH v) (sL v) (I64_sH v hS) (U64_sL v)
  rw [sv_H_L] at hpr
  have hcpH : Hid _ := hcp
  have hprH : Hid _ := hpr
  have hlen := decD_len V
  have hsz := digS_size V
  obtain ⟨D, hD⟩ : ∃ D, D = digS V := ⟨_, rfl⟩
  obtain ⟨T, hT⟩ : ∃ T, T = decS v := ⟨_, rfl⟩
  rw [← hD] at hsz
  rw [← hD, ← hT] at hcpH
  rw [← hT] at hprH ⊢
  have hTH : Hid _ := hT
  have hDH : Hid _ := hD
  clear hcp hpr hp1 hp2 hT hD
  have hs39 : ¬ (39 : Int) < (D.size : Int) := by omega
  have hszH : Hid (D.size = (decD V).length ∧ (decD V).length ≤ 39) := ⟨hsz, hlen⟩
  clear hsz hlen
  go_enter Tryd.func5, Tryd.ntmps5
  go_wp2_with fail
  refine (hcpH.out _).mono ?_
  rintro e w1 ⟨rfl, rfl⟩
  go_wp2_with fail
  have hXe : Hid (Go.Proofs.YtnfpommplokemaaDoor.wr ((val ((decD V).take D.size) : Nat) : Int) = Go.Proofs.YtnfpommplokemaaDoor.wr (V : Int)) := by
    show _ = _
    rw [hszH.out.1, List.take_length, val_decD V (by omega)]
  have hbf : Hid (b = false → Go.Proofs.YtnfpommplokemaaDoor.wr (V : Int) = v) := fun hb0 => by
    have hn : ¬ v < 0 := fun h => by have := hb.2 h; rw [this] at hb0; cases hb0
    rw [ab_pos hn] at hV
    rw [← hV]; exact wr_of v hS
  have hbt : Hid (b = true → Go.Proofs.YtnfpommplokemaaDoor.wr (sv 0 0 - Go.Proofs.YtnfpommplokemaaDoor.wr (V : Int)) = v) := fun hb1 => by
    have hn := hb.1 hb1
    rw [ab_neg hn] at hV
    rw [← hV]
    unfold S128 at hS; unfold Go.Proofs.YtnfpommplokemaaDoor.wr sv; omega
  clear hb hV hV0
  have hP0 : PZ w 0 ((w.alloc (.cells #[.int .i64 0, .int .u64 0] 25)).alloc (.cells #[.int .i64 0, .int .u64 0] 25)) := by
    have e0 : sH 0 = 0 := by decide
    have e1 : sL 0 = 0 := by decide
    refine ⟨by simp [go_sem], by simp [go_sem], by simp [go_sem], by simp [go_sem], by rw [e0]; simp [go_sem], by rw [e1]; simp [go_sem], by simp [go_sem], by simp [go_sem], below_new (below_new (Below.refl _ _) _) _, by simp⟩
  go_loopw [20] (fun c wx => ∃ k : Nat, c = .int .i64 (k : Int) ∧ k ≤ D.size ∧ PZ w (Go.Proofs.YtnfpommplokemaaDoor.wr ((val ((decD V).take k) : Nat) : Int)) wx) (fun c _ => D.size - (intOf c).toNat)
  case atStart => exact ⟨0, rfl, by omega, by simpa [val, wr] using hP0⟩
  case round =>
    obtain ⟨k, rfl, hk, hZ⟩ := hrel
    by_cases hkl : k < D.size
    · have hkI : (k : Int) < (D.size : Int) := by omega
      have k0 : (0 : Int) ≤ (k : Int) := by omega
      obtain ⟨X, hX⟩ : ∃ X, X = Go.Proofs.YtnfpommplokemaaDoor.wr ((val ((decD V).take k) : Nat) : Int) := ⟨_, rfl⟩
      rw [← hX] at hZ
      have hXH : Hid _ := hX
      clear hX
      have hdD : ∀ (D' : ByteArray) (h : D' = digS V) (hk : k < D'.size), (D'[k]'hk).toNat = 48 + (decD V).getD k 0 := by rintro _ rfl hk; exact digS_get V k hk
      have hkd : k < (decD V).length := by have := hszH.out; omega
      have hd10 : (decD V).getD k 0 < 10 := by
        rw [List.getD_eq_getElem?_getD, List.getElem?_eq_getElem hkd]
        exact decD_lt V _ (List.getElem_mem hkd)
      have hYeq : Hid (Go.Proofs.YtnfpommplokemaaDoor.wr (Go.Proofs.YtnfpommplokemaaDoor.wr (X * 10) + wrap64 (wrap64 ((D[k]'hkl).toNat : Int) - 48)) = Go.Proofs.YtnfpommplokemaaDoor.wr ((val ((decD V).take (k + 1)) : Nat) : Int)) := by
        show _ = _
        rw [dig_val2 _ _ (hdD D hDH.out hkl) hd10, hXH.out, wr_ten, val_step _ _ hkd]
        congr 1 <;> omega
      clear hdD hkd hd10
      have a0 := hZ.s0
      have a1 := hZ.s1
      have hZH : Hid _ := hZ
      clear hZ
      go_wp2_with fail
      go_region_with (first | (go_at_call 15; refine (tenfold_next X _).mono ?_; rintro e w2 ⟨rfl, B2⟩; have Z2 := hZH.out.drew.below B2; have y0 := Z2.s0; have y1 := Z2.s1) | (go_at_call 12; refine (plus_nextI (Go.Proofs.YtnfpommplokemaaDoor.wr (X * 10)) _ (i64_wrap_I64 _) _).mono ?_; rintro e w3 ⟨rfl, B3⟩; have Z3 := Z2.below B3; have x0 := Z3.s0; have x1 := Z3.s1; have x2 := Z3.z0; have x3 := Z3.z1; have x4 := Z3.sz))
      all_goals
        go_wp2_with fail
        go_roundw
        case rel =>
          have hq := Z3.put (Go.Proofs.YtnfpommplokemaaDoor.wr (Go.Proofs.YtnfpommplokemaaDoor.wr (X * 10) + wrap64 (wrap64 ((D[k]'hkl).toNat : Int) - 48)))
          rw [hYeq.out] at hq
          refine ⟨k + 1, by go_num, by omega, ?_⟩
          rw [hYeq.out]
          first | exact hq | exact hq.drew
        case measure => simp [intOf]; omega
    · obtain rfl : k = D.size := by omega
      have hend := hXe.out
      rw [hend] at hZ
      have a0 := hZ.s0
      have a1 := hZ.s1
      have a2 := hZ.z0
      have a3 := hZ.z1
      have a4 := hZ.sz
      cases b
      · have hv0 : Go.Proofs.YtnfpommplokemaaDoor.wr (V : Int) = v := hbf.out rfl
        rw [hv0] at hZ a0 a1
        have hZH : Hid _ := hZ
        clear hZ hv0 hend
        go_wp2_with fail
        refine (hprH.out _).mono ?_
        rintro e w5 ⟨rfl, B5⟩
        have Z5 := hZH.out.below B5
        have m0 := Z5.s0
        have m1 := Z5.s1
        have m2 := Z5.r0
        have m3 := Z5.r1
        have m4 := Z5.q0
        have m5 := Z5.q1
        have m6 := Z5.sz
        have m7 := Z5.b
        clear hZH
        go_wp2_with fail
        simp [bodyPost, results, Tryd.results5, go_sem, m0, m1, m2, m3]
        exact (m7.setCell (p := ⟨w.heap.size, 0, none⟩) (Nat.le_refl _) _).setCell (p := ⟨w.heap.size, 1, none⟩) (Nat.le_refl _) _
      · have hl := less_any 0 0 (sH (Go.Proofs.YtnfpommplokemaaDoor.wr (V : Int))) (sL (Go.Proofs.YtnfpommplokemaaDoor.wr (V : Int))) (by unfold U64; omega) (U64_sL _)
        rw [sv_H_L, hbt.out rfl] at hl
        have hlH : Hid _ := hl
        obtain ⟨X, hX⟩ : ∃ X, X = Go.Proofs.YtnfpommplokemaaDoor.wr (V : Int) := ⟨_, rfl⟩
        rw [← hX] at hlH hZ a0 a1
        have hZH : Hid _ := hZ
        clear hZ hl hX hend
        go_wp2_with fail
        refine (hlH.out _).mono ?_
        rintro e w4 ⟨rfl, c1, c2, c3, hw4⟩
        have Z4 := hZH.out.below (show Below wr.heap.size wr w4 by rw [hw4]; exact below_new (below_new (below_new (Below.refl _ _) _) _) _)
        clear hw4 a0 a1 a2 a3 a4 hZH hlH
        have n0 := Z4.s0
        have n1 := Z4.s1
        have n2 := Z4.z0
        have n3 := Z4.z1
        have n4 := Z4.sz
        have Z4p := Z4.put v
        have n5 := Z4p.s0
        have n6 := Z4p.s1
        have Z4H : Hid _ := Z4p
        clear Z4 Z4p
        go_wp2_with fail
        refine (hprH.out _).mono ?_
        rintro e w5 ⟨rfl, B5⟩
        have Z5 := Z4H.out.below B5
        have m0 := Z5.s0
        have m1 := Z5.s1
        have m2 := Z5.r0
        have m3 := Z5.r1
        have m4 := Z5.q0
        have m5 := Z5.q1
        have m6 := Z5.sz
        have m7 := Z5.b
        clear Z4H
        go_wp2_with fail
        simp [bodyPost, results, Tryd.results5, go_sem, m0, m1, m2, m3]
        exact (m7.setCell (p := ⟨w.heap.size, 0, none⟩) (Nat.le_refl _) _).setCell (p := ⟨w.heap.size, 1, none⟩) (Nat.le_refl _) _
end Go.Proofs.YtnfpommplokemaaDoor
