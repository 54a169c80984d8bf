
import Derived.Test.YtipahdplkmmofaaGreatDoorSqM
namespace Go.Proofs.YtipahdplkmmofaaGreatDoor
open Go.RowKit
set_option linter.unusedVariables false
set_option linter.unusedSimpArgs false
theorem i64_neg (v : Int) (h0 : 0 ≤ v) (h1 : v < 9223372036854775808) : IntKind.i64.wrap (-v) = -v := IntWalk.i64_in _ (by omega)
theorem w64_neg (v : Int) (h0 : 0 ≤ v) (h1 : v < 9223372036854775808) : wrap64 (-v) = -v := IntWalk.wrap64_in _ (by omega)
theorem rscan_at (s : ByteArray) (hs : s.size ≤ 281474976710656) (v : Int) (k : Nat) (h : rdAll s.data.toList = (v, k)) (hk : ¬ k = 0) (W : World) : (v < 9223372036854775808 → Calls Tryz.prog 11 #[.string s] W fun e w' => e = .returned (.tuple #[.int .i64 v, .int .i64 (k : Int), .agg #[.int .i64 0, .int .i64 0, .int .i64 0, .bool false, .bool false]]) ∧ Below W.heap.size W w') ∧ (¬ v < 9223372036854775808 → Calls Tryz.prog 11 #[.string s] W fun e w' => e = .returned (.tuple #[.int .i64 0, .int .i64 0, .agg #[.int .i64 20, .int .i64 0, .int .i64 0, .bool false, .bool false]]) ∧ Below W.heap.size W w') := by
  have H := rscan_any s hs v k h W
  have e : scE s.data.toList = if v < 9223372036854775808 then 0 else 20 := by unfold scE; rw [h]; exact if_neg hk
  rw [e] at H
  constructor
  · intro hv; rw [if_pos hv] at H; exact H
  · intro hv; rw [if_neg hv] at H; exact H
theorem byte0_yes (s : ByteArray) (hz : 0 < s.size) (h : s.data.toList.head? = some 45) : (((s[0]).toNat : Int) == 45) = true := by
  have e : s.data.toList.head? = some s[0] := by
    rw [List.head?_eq_getElem?, List.getElem?_eq_getElem (by rw [sz_list]; exact hz)]; rfl
  rw [e] at h
  injection h with h
  rw [h]; rfl
theorem byte0_no (s : ByteArray) (hz : 0 < s.size) (h : ¬ s.data.toList.head? = some 45) : (((s[0]).toNat : Int) == 45) = false := by
  have e : s.data.toList.head? = some s[0] := by
    rw [List.head?_eq_getElem?, List.getElem?_eq_getElem (by rw [sz_list]; exact hz)]; rfl
  rw [beq_eq_false_iff_ne]
  intro h2
  have h3 : (s[0]).toNat = 45 := by omega
  apply h
  rw [e]
  have h4 : s[0] = 45 := UInt8.toNat_inj.1 h3
  rw [h4]
set_option maxRecDepth 100000 in
set_option maxHeartbeats 8000000 in
theorem rparse_none (s : ByteArray) (hs : s.size ≤ 281474976710656) (h45 : ¬ s.data.toList.head? = some 45) (hz : ¬ 0 < s.size) (w : World) :
    Calls Tryz.prog 8 #[.string s] w fun e w' => e = .returned (.tuple #[.int .i64 (spV s.data.toList), .agg #[.int .i64 (spE s.data.toList), .int .i64 0, .int .i64 0, .bool false, .bool false]]) ∧ Below w.heap.size w w' := by
  have hT : s.data.toList = spT s.data.toList := by unfold spT; rw [if_neg h45]
  have hsT := hs
  have hzI : ¬ (0 : Int) < (s.size : Int) := by omega
  obtain ⟨v0, k0, hR0⟩ : ∃ v k, rdAll s.data.toList = (v, k) := ⟨_, _, rfl⟩
  have bd := rdAll_bd s.data.toList
  rw [hR0] at bd
  have v00 : 0 ≤ v0 := bd.1
  have HL : Hid (s.data.toList.length = s.size) := sz_list s
  have eE : spE s.data.toList = if k0 = 0 ∨ k0 < s.size then 40 else if v0 < 9223372036854775808 then 0 else 20 := by
    unfold spE; rw [← hT, hR0, sz_list]
  have eV : spV s.data.toList = if spE s.data.toList = 0 then v0 else 0 := by
    unfold spV; rw [← hT, hR0, if_neg h45]
  obtain ⟨RES, hRES⟩ : ∃ R, Ending.returned (.tuple #[.int .i64 (spV s.data.toList), .agg #[.int .i64 (spE s.data.toList), .int .i64 0, .int .i64 0, .bool false, .bool false]]) = R := ⟨_, rfl⟩
  rw [hRES]
  rw [eV, eE] at hRES
  have HR : Hid (Ending.returned (.tuple #[.int .i64 (if (if k0 = 0 ∨ k0 < s.size then 40 else if v0 < 9223372036854775808 then 0 else 20) = (0 : Int) then v0 else 0), .agg #[.int .i64 (if k0 = 0 ∨ k0 < s.size then 40 else if v0 < 9223372036854775808 then 0 else 20), .int .i64 0, .int .i64 0, .bool false, .bool false]]) = RES) := hRES
  have HR0 : Hid (rdAll s.data.toList = (v0, k0)) := hR0
  clear hRES eE eV hR0 hT bd
  obtain ⟨W0, hW0⟩ : ∃ W, W = w.alloc (.cells #[.int .i64 0, .int .i64 0, .int .i64 0, .bool false, .bool false] 29) := ⟨_, rfl⟩
  have HS : Hid (B5 W0 w.heap.size 0 0 0 false false ∧ Below w.heap.size w W0) := by
    rw [hW0]
    exact ⟨B5.new _ _ _ _ _ _ _ rfl, below_new (Below.refl _ _) _⟩
  have HW : Hid (W0 = w.alloc (.cells #[.int .i64 0, .int .i64 0, .int .i64 0, .bool false, .bool false] 29)) := hW0
  clear hW0
  go_enter Tryz.func8, Tryz.ntmps8
  go_wp2
  rw [← HW.out]
  clear HW
  have y0 : w.heap.size ≤ w.heap.size := by omega
  generalize hX : w.heap.size = R' at *
  go_loopw [6, 7] (fun i la wr => ∃ (last v : Int) (k f : Nat), -1 ≤ last ∧ last ≤ 7 ∧ 8 ≤ (f : Int) + last ∧ k ≤ s.size ∧ Hid (rd f (s.data.toList.drop k) last v k = rdAll s.data.toList) ∧ i = .int .i64 k ∧ la = .int .i64 (lsz last) ∧ Hid (B5 wr R' 0 0 0 false false ∧ Below R' w wr)) (fun i _ _ => s.size - (intOf i).toNat)
  case atStart => exact ⟨-1, 0, 0, 9, by omega, by omega, by omega, by omega, rfl, rfl, rfl, HS⟩
  case round =>
    obtain ⟨last, v, k, f, l1, l2, hf, hk, hR, rfl, rfl, hM⟩ := hrel
    clear HS
    obtain ⟨d, hd⟩ : ∃ d, cnt (s.data.toList.drop k) = d := ⟨_, rfl⟩
    obtain ⟨u, hu⟩ : ∃ u, parU (s.data.toList.drop k) = u := ⟨_, rfl⟩
    obtain ⟨V, hV⟩ : ∃ V, valF 0 ((s.data.toList.drop k).take d) = V := ⟨_, rfl⟩
    have ub := parU_bd (s.data.toList.drop k)
    rw [hu] at ub
    obtain ⟨ub1, ub2⟩ := ub
    have P := fun W => part4_at s hsT k d u V hd hu hV W
    have kb : ¬ (s.size : Int) < k := by omega
    by_cases hlt : k < s.size
    · exfalso; omega
    · have hltI : ¬ (k : Int) < (s.size : Int) := by omega
      have HE : rdAll s.data.toList = (v, k) := by
        rw [← hR.out]
        refine rd_end hf l2 ?_
        have e0 : s.data.toList.drop k = [] := List.drop_eq_nil_of_le (by rw [HL.out]; omega)
        rw [e0]; show (-1 : Int) ≤ last; omega
      have SC := fun (hk : ¬ k0 = 0) W => rscan_at s hsT v0 k0 HR0.out hk W
      rw [HR0.out] at HE
      injection HE with e1 e2
      subst e1 e2
      clear hR hd hu hV HR0 P
      by_cases hk0 : k0 = 0
      · have HR3 : Hid (RES = .returned (.tuple #[.int .i64 0, .agg #[.int .i64 40, .int .i64 0, .int .i64 0, .bool false, .bool false]])) := by
          show _ = _
          rw [← HR.out, if_pos (Or.inl hk0)]; rfl
        have kz : ((k0 : Int) == 0) = true := by simp [hk0]
        clear HR hk0 SC
        go_wp2_with fail
        refine (rnew_any 40 _).mono ?_
        rintro e wn ⟨rfl, Bn⟩
        have C1 := hM.out.1
        have D3 := below_then' hM.out.2 Bn (Nat.le_of_lt C1.1)
        obtain ⟨_, ⟨t1, t2, t3, t4, t5⟩, f1, f2, f3, f4, f5⟩ := C1.keep Bn C1.1
        clear Bn C1
        go_wp2_with fail
        simp [bodyPost, results, Tryz.results8, go_sem, t1, t2, t3, t4, t5]
        exact ⟨HR3.out.symm, by rw [hX]; exact setBad D3 y0⟩
      · have kz : ((k0 : Int) == 0) = false := by simp [hk0]
        have e0 : (if k0 = 0 ∨ k0 < s.size then 40 else if v0 < 9223372036854775808 then 0 else 20) = if v0 < 9223372036854775808 then (0 : Int) else 20 := if_neg (fun h => h.elim hk0 hlt)
        have HR2 := HR.out
        rw [e0] at HR2
        have SC2 := SC hk0
        clear e0 HR SC hk0
        by_cases hv : v0 < 9223372036854775808
        · rw [if_pos hv, if_pos rfl] at HR2
          have HR3 : Hid (RES = .returned (.tuple #[.int .i64 (v0), .agg #[.int .i64 0, .int .i64 0, .int .i64 0, .bool false, .bool false]])) := HR2.symm
          have HC : Hid (∀ W, Calls Tryz.prog 11 #[.string s] W fun e w' => e = .returned (.tuple #[.int .i64 v0, .int .i64 (k0 : Int), .agg #[.int .i64 0, .int .i64 0, .int .i64 0, .bool false, .bool false]]) ∧ Below W.heap.size W w') := fun W => (SC2 W).1 hv
          have ng1 : IntKind.i64.wrap (-v0) = -v0 := i64_neg v0 v00 hv
          have ng2 : wrap64 (-v0) = -v0 := w64_neg v0 v00 hv
          clear HR2 SC2
          go_wp2_with fail
          refine (HC.out _).mono ?_
          rintro e wn ⟨rfl, Bn⟩
          have C1 := hM.out.1
          have D3 := below_then' hM.out.2 Bn (Nat.le_of_lt C1.1)
          have C5 := C1.keep Bn C1.1
          obtain ⟨zr, ⟨t1, t2, t3, t4, t5⟩, f1, f2, f3, f4, f5⟩ := id C5
          have T9 := (C5.set 0 0 0 false false).alloc (.cells #[.int .i64 0, .int .i64 0, .int .i64 0, .bool false, .bool false] 29)
          have D4 := (setBad (v0 := .int .i64 0) (v1 := .int .i64 0) (v2 := .int .i64 0) (v3 := .bool false) (v4 := .bool false) D3 y0).alloc (Nat.le_of_lt (C5.set 0 0 0 false false).1) (.cells #[.int .i64 0, .int .i64 0, .int .i64 0, .bool false, .bool false] 29)
          obtain ⟨WZ, hWZ⟩ : ∃ WZ, (((((wn.setCell ⟨R', 0, none⟩ (.int .i64 0)).setCell ⟨R', 1, none⟩ (.int .i64 0)).setCell ⟨R', 2, none⟩ (.int .i64 0)).setCell ⟨R', 3, none⟩ (.bool false)).setCell ⟨R', 4, none⟩ (.bool false)).alloc (.cells #[.int .i64 0, .int .i64 0, .int .i64 0, .bool false, .bool false] 29) = WZ := ⟨_, rfl⟩
          rw [hWZ] at T9 D4
          have HZ : Hid ((((((wn.setCell ⟨R', 0, none⟩ (.int .i64 0)).setCell ⟨R', 1, none⟩ (.int .i64 0)).setCell ⟨R', 2, none⟩ (.int .i64 0)).setCell ⟨R', 3, none⟩ (.bool false)).setCell ⟨R', 4, none⟩ (.bool false)).alloc (.cells #[.int .i64 0, .int .i64 0, .int .i64 0, .bool false, .bool false] 29) = WZ) := hWZ
          obtain ⟨_, ⟨t1', t2', t3', t4', t5'⟩, _⟩ := T9
          clear Bn C5 C1 D3 hWZ
          go_wp2_with fail
          rw [HZ.out]
          simp [bodyPost, results, Tryz.results8, go_sem, t1', t2', t3', t4', t5']
          exact ⟨HR3.out.symm, by rw [hX]; exact D4⟩
        · rw [if_neg hv, if_neg (by omega)] at HR2
          have HR3 : Hid (RES = .returned (.tuple #[.int .i64 0, .agg #[.int .i64 20, .int .i64 0, .int .i64 0, .bool false, .bool false]])) := HR2.symm
          have HC : Hid (∀ W, Calls Tryz.prog 11 #[.string s] W fun e w' => e = .returned (.tuple #[.int .i64 0, .int .i64 0, .agg #[.int .i64 20, .int .i64 0, .int .i64 0, .bool false, .bool false]]) ∧ Below W.heap.size W w') := fun W => (SC2 W).2 hv
          clear HR2 SC2
          go_wp2_with fail
          refine (HC.out _).mono ?_
          rintro e wn ⟨rfl, Bn⟩
          have C1 := hM.out.1
          have D3 := below_then' hM.out.2 Bn (Nat.le_of_lt C1.1)
          have C5 := C1.keep Bn C1.1
          obtain ⟨zr, ⟨t1, t2, t3, t4, t5⟩, f1, f2, f3, f4, f5⟩ := id C5
          have T9 := (C5.set 20 0 0 false false).alloc (.cells #[.int .i64 20, .int .i64 0, .int .i64 0, .bool false, .bool false] 29)
          have D4 := (setBad (v0 := .int .i64 20) (v1 := .int .i64 0) (v2 := .int .i64 0) (v3 := .bool false) (v4 := .bool false) D3 y0).alloc (Nat.le_of_lt (C5.set 20 0 0 false false).1) (.cells #[.int .i64 20, .int .i64 0, .int .i64 0, .bool false, .bool false] 29)
          obtain ⟨WZ, hWZ⟩ : ∃ WZ, (((((wn.setCell ⟨R', 0, none⟩ (.int .i64 20)).setCell ⟨R', 1, none⟩ (.int .i64 0)).setCell ⟨R', 2, none⟩ (.int .i64 0)).setCell ⟨R', 3, none⟩ (.bool false)).setCell ⟨R', 4, none⟩ (.bool false)).alloc (.cells #[.int .i64 20, .int .i64 0, .int .i64 0, .bool false, .bool false] 29) = WZ := ⟨_, rfl⟩
          rw [hWZ] at T9 D4
          have HZ : Hid ((((((wn.setCell ⟨R', 0, none⟩ (.int .i64 20)).setCell ⟨R', 1, none⟩ (.int .i64 0)).setCell ⟨R', 2, none⟩ (.int .i64 0)).setCell ⟨R', 3, none⟩ (.bool false)).setCell ⟨R', 4, none⟩ (.bool false)).alloc (.cells #[.int .i64 20, .int .i64 0, .int .i64 0, .bool false, .bool false] 29) = WZ) := hWZ
          obtain ⟨_, ⟨t1', t2', t3', t4', t5'⟩, _⟩ := T9
          clear Bn C5 C1 D3 hWZ
          go_wp2_with fail
          go_region
          all_goals
            go_wp2_with fail
            rw [HZ.out]
            have t1d : WZ.drew.cell? ⟨R', 0, none⟩ = some (.int .i64 20) := t1'
            have t2d : WZ.drew.cell? ⟨R', 1, none⟩ = some (.int .i64 0) := t2'
            have t3d : WZ.drew.cell? ⟨R', 2, none⟩ = some (.int .i64 0) := t3'
            have t4d : WZ.drew.cell? ⟨R', 3, none⟩ = some (.bool false) := t4'
            have t5d : WZ.drew.cell? ⟨R', 4, none⟩ = some (.bool false) := t5'
            simp [bodyPost, results, Tryz.results8, go_sem, t1', t2', t3', t4', t5', t1d, t2d, t3d, t4d, t5d]
            exact ⟨HR3.out.symm, by rw [hX]; exact D4.drew⟩
set_option maxRecDepth 100000 in
set_option maxHeartbeats 8000000 in
theorem rparse_plain (s : ByteArray) (hs : s.size ≤ 281474976710656) (h45 : ¬ s.data.toList.head? = some 45) (hz : 0 < s.size) (w : World) :
    Calls Tryz.prog 8 #[.string s] w fun e w' => e = .returned (.tuple #[.int .i64 (spV s.data.toList), .agg #[.int .i64 (spE s.data.toList), .int .i64 0, .int .i64 0, .bool false, .bool false]]) ∧ Below w.heap.size w w' := by
  have hT : s.data.toList = spT s.data.toList := by unfold spT; rw [if_neg h45]
  have hsT := hs
  have hzI : (0 : Int) < (s.size : Int) := by omega
  have hb0 : (((s[0]).toNat : Int) == 45) = false := byte0_no s hz h45
  obtain ⟨v0, k0, hR0⟩ : ∃ v k, rdAll s.data.toList = (v, k) := ⟨_, _, rfl⟩
  have bd := rdAll_bd s.data.toList
  rw [hR0] at bd
  have v00 : 0 ≤ v0 := bd.1
  have HL : Hid (s.data.toList.length = s.size) := sz_list s
  have eE : spE s.data.toList = if k0 = 0 ∨ k0 < s.size then 40 else if v0 < 9223372036854775808 then 0 else 20 := by
    unfold spE; rw [← hT, hR0, sz_list]
  have eV : spV s.data.toList = if spE s.data.toList = 0 then v0 else 0 := by
    unfold spV; rw [← hT, hR0, if_neg h45]
  obtain ⟨RES, hRES⟩ : ∃ R, Ending.returned (.tuple #[.int .i64 (spV s.data.toList), .agg #[.int .i64 (spE s.data.toList), .int .i64 0, .int .i64 0, .bool false, .bool false]]) = R := ⟨_, rfl⟩
  rw [hRES]
  rw [eV, eE] at hRES
  have HR : Hid (Ending.returned (.tuple #[.int .i64 (if (if k0 = 0 ∨ k0 < s.size then 40 else if v0 < 9223372036854775808 then 0 else 20) = (0 : Int) then v0 else 0), .agg #[.int .i64 (if k0 = 0 ∨ k0 < s.size then 40 else if v0 < 9223372036854775808 then 0 else 20), .int .i64 0, .int .i64 0, .bool false, .bool false]]) = RES) := hRES
  have HR0 : Hid (rdAll s.data.toList = (v0, k0)) := hR0
  clear hRES eE eV hR0 hT bd
  obtain ⟨W0, hW0⟩ : ∃ W, W = w.alloc (.cells #[.int .i64 0, .int .i64 0, .int .i64 0, .bool false, .bool false] 29) := ⟨_, rfl⟩
  have HS : Hid (B5 W0 w.heap.size 0 0 0 false false ∧ Below w.heap.size w W0) := by
    rw [hW0]
    exact ⟨B5.new _ _ _ _ _ _ _ rfl, below_new (Below.refl _ _) _⟩
  have HW : Hid (W0 = w.alloc (.cells #[.int .i64 0, .int .i64 0, .int .i64 0, .bool false, .bool false] 29)) := hW0
  clear hW0
  go_enter Tryz.func8, Tryz.ntmps8
  go_wp2
  rw [← HW.out]
  clear HW
  have y0 : w.heap.size ≤ w.heap.size := by omega
  generalize hX : w.heap.size = R' at *
  go_loopw [6, 7] (fun i la wr => ∃ (last v : Int) (k f : Nat), -1 ≤ last ∧ last ≤ 7 ∧ 8 ≤ (f : Int) + last ∧ k ≤ s.size ∧ Hid (rd f (s.data.toList.drop k) last v k = rdAll s.data.toList) ∧ i = .int .i64 k ∧ la = .int .i64 (lsz last) ∧ Hid (B5 wr R' 0 0 0 false false ∧ Below R' w wr)) (fun i _ _ => s.size - (intOf i).toNat)
  case atStart => exact ⟨-1, 0, 0, 9, by omega, by omega, by omega, by omega, rfl, rfl, rfl, HS⟩
  case round =>
    obtain ⟨last, v, k, f, l1, l2, hf, hk, hR, rfl, rfl, hM⟩ := hrel
    clear HS
    obtain ⟨d, hd⟩ : ∃ d, cnt (s.data.toList.drop k) = d := ⟨_, rfl⟩
    obtain ⟨u, hu⟩ : ∃ u, parU (s.data.toList.drop k) = u := ⟨_, rfl⟩
    obtain ⟨V, hV⟩ : ∃ V, valF 0 ((s.data.toList.drop k).take d) = V := ⟨_, rfl⟩
    have ub := parU_bd (s.data.toList.drop k)
    rw [hu] at ub
    obtain ⟨ub1, ub2⟩ := ub
    have P := fun W => part4_at s hsT k d u V hd hu hV W
    have kb : ¬ (s.size : Int) < k := by omega
    by_cases hlt : k < s.size
    · have hltI : (k : Int) < (s.size : Int) := by omega
      by_cases hle : u ≤ last
      · have HE : rdAll s.data.toList = (v, k) := by
          rw [← hR.out]; exact rd_end hf l2 (by rw [hu]; exact hle)
        rw [HR0.out] at HE
        injection HE with e1 e2
        subst e1 e2
        have HR3 : Hid (RES = .returned (.tuple #[.int .i64 0, .agg #[.int .i64 40, .int .i64 0, .int .i64 0, .bool false, .bool false]])) := by
          show _ = _
          rw [← HR.out, if_pos (Or.inr hlt)]; rfl
        clear hR hd hu hV HR0 HR
        have hex : Hid (∀ wp, Below wr.heap.size wr wp → B5 (wp.alloc (.cells #[.int .i64 (sH (sat V)), .int .u64 (sL (sat V))] 62)) R' 0 0 0 false false ∧ Below R' w (wp.alloc (.cells #[.int .i64 (sH (sat V)), .int .u64 (sL (sat V))] 62))) := by
          intro wp hb
          obtain ⟨a1, a3⟩ := hM.out
          have b3 := below_then' a3 hb (Nat.le_of_lt a1.1)
          have a4 := a1.keep hb a1.1
          exact ⟨a4.alloc _, b3.alloc (Nat.le_of_lt a4.1) _⟩
        clear hM
        have PX : Hid (∃ (u1 u2 : Int) (ok : Bool), (ok = true → lsz last ≤ u1) ∧ ∀ W, Calls Tryz.prog 28 #[.string (s.extract k0 s.size)] W fun e w' => e = .returned (.tuple #[.int .i64 u1, .int .i64 u2, .agg #[.int .i64 (sH (sat V)), .int .u64 (sL (sat V))], .bool ok]) ∧ Below W.heap.size W w') := by
          refine ⟨_, _, _, ?_, P⟩
          intro ho
          have h0 : 0 ≤ u := of_decide_eq_true ho
          rw [if_neg (by omega)]
          exact (lsz_le h0 ub2 l1 l2).2 hle
        obtain ⟨u1, u2, ok, hok, PP⟩ := PX.out
        clear PX P ub1 ub2 hle
        have HP : Hid (∀ W, Calls Tryz.prog 28 #[.string (s.extract k0 s.size)] W fun e w' => e = .returned (.tuple #[.int .i64 u1, .int .i64 u2, .agg #[.int .i64 (sH (sat V)), .int .u64 (sL (sat V))], .bool ok]) ∧ Below W.heap.size W w') := PP
        clear PP
        generalize lsz last = lz at *
        by_cases hk0 : k0 = 0
        · have kz : ((k0 : Int) == 0) = true := by simp [hk0]
          clear hk0
          cases ok with
          | false =>
            go_wp2_with fail
            refine (HP.out _).mono ?_
            rintro e wp ⟨rfl, Bp⟩
            obtain ⟨c1, c3⟩ := hex.out wp Bp
            have C1 : Hid (B5 (wp.alloc (.cells #[.int .i64 (sH (sat V)), .int .u64 (sL (sat V))] 62)) R' 0 0 0 false false) := c1
            have C3 : Hid (Below R' w (wp.alloc (.cells #[.int .i64 (sH (sat V)), .int .u64 (sL (sat V))] 62))) := c3
            clear c1 c3 Bp
            go_wp2_with fail
            generalize wp.alloc (.cells #[.int .i64 (sH (sat V)), .int .u64 (sL (sat V))] 62) = wq at *
            refine (rnew_any 40 _).mono ?_
            rintro e wn ⟨rfl, Bn⟩
            have D3 := below_then' C3.out Bn (Nat.le_of_lt C1.out.1)
            obtain ⟨_, ⟨t1, t2, t3, t4, t5⟩, f1, f2, f3, f4, f5⟩ := C1.out.keep Bn C1.out.1
            clear Bn
            go_wp2_with fail
            simp [bodyPost, results, Tryz.results8, go_sem, t1, t2, t3, t4, t5]
            exact ⟨HR3.out.symm, by rw [hX]; exact setBad D3 y0⟩
          | true =>
            have hge : lz ≤ u1 := hok rfl
            go_wp2_with fail
            refine (HP.out _).mono ?_
            rintro e wp ⟨rfl, Bp⟩
            obtain ⟨c1, c3⟩ := hex.out wp Bp
            have C1 : Hid (B5 (wp.alloc (.cells #[.int .i64 (sH (sat V)), .int .u64 (sL (sat V))] 62)) R' 0 0 0 false false) := c1
            have C3 : Hid (Below R' w (wp.alloc (.cells #[.int .i64 (sH (sat V)), .int .u64 (sL (sat V))] 62))) := c3
            clear c1 c3 Bp
            go_wp2_with fail
            generalize wp.alloc (.cells #[.int .i64 (sH (sat V)), .int .u64 (sL (sat V))] 62) = wq at *
            refine (rnew_any 40 _).mono ?_
            rintro e wn ⟨rfl, Bn⟩
            have D3 := below_then' C3.out Bn (Nat.le_of_lt C1.out.1)
            obtain ⟨_, ⟨t1, t2, t3, t4, t5⟩, f1, f2, f3, f4, f5⟩ := C1.out.keep Bn C1.out.1
            clear Bn
            go_wp2_with fail
            simp [bodyPost, results, Tryz.results8, go_sem, t1, t2, t3, t4, t5]
            exact ⟨HR3.out.symm, by rw [hX]; exact setBad D3 y0⟩
        · have kz : ((k0 : Int) == 0) = false := by simp [hk0]
          clear hk0
          cases ok with
          | false =>
            go_wp2_with fail
            refine (HP.out _).mono ?_
            rintro e wp ⟨rfl, Bp⟩
            obtain ⟨c1, c3⟩ := hex.out wp Bp
            have C1 : Hid (B5 (wp.alloc (.cells #[.int .i64 (sH (sat V)), .int .u64 (sL (sat V))] 62)) R' 0 0 0 false false) := c1
            have C3 : Hid (Below R' w (wp.alloc (.cells #[.int .i64 (sH (sat V)), .int .u64 (sL (sat V))] 62))) := c3
            clear c1 c3 Bp
            go_wp2_with fail
            generalize wp.alloc (.cells #[.int .i64 (sH (sat V)), .int .u64 (sL (sat V))] 62) = wq at *
            refine (rnew_any 40 _).mono ?_
            rintro e wn ⟨rfl, Bn⟩
            have D3 := below_then' C3.out Bn (Nat.le_of_lt C1.out.1)
            obtain ⟨_, ⟨t1, t2, t3, t4, t5⟩, f1, f2, f3, f4, f5⟩ := C1.out.keep Bn C1.out.1
            clear Bn
            go_wp2_with fail
            simp [bodyPost, results, Tryz.results8, go_sem, t1, t2, t3, t4, t5]
            exact ⟨HR3.out.symm, by rw [hX]; exact setBad D3 y0⟩
          | true =>
            have hge : lz ≤ u1 := hok rfl
            go_wp2_with fail
            refine (HP.out _).mono ?_
            rintro e wp ⟨rfl, Bp⟩
            obtain ⟨c1, c3⟩ := hex.out wp Bp
            have C1 : Hid (B5 (wp.alloc (.cells #[.int .i64 (sH (sat V)), .int .u64 (sL (sat V))] 62)) R' 0 0 0 false false) := c1
            have C3 : Hid (Below R' w (wp.alloc (.cells #[.int .i64 (sH (sat V)), .int .u64 (sL (sat V))] 62))) := c3
            clear c1 c3 Bp
            go_wp2_with fail
            generalize wp.alloc (.cells #[.int .i64 (sH (sat V)), .int .u64 (sL (sat V))] 62) = wq at *
            refine (rnew_any 40 _).mono ?_
            rintro e wn ⟨rfl, Bn⟩
            have D3 := below_then' C3.out Bn (Nat.le_of_lt C1.out.1)
            obtain ⟨_, ⟨t1, t2, t3, t4, t5⟩, f1, f2, f3, f4, f5⟩ := C1.out.keep Bn C1.out.1
            clear Bn
            go_wp2_with fail
            simp [bodyPost, results, Tryz.results8, go_sem, t1, t2, t3, t4, t5]
            exact ⟨HR3.out.symm, by rw [hX]; exact setBad D3 y0⟩
      · have hN := rd_next (v := v) (k := k) hf l2 (by rw [hu]; exact hle)
        rw [hd, hu, hV] at hN
        obtain ⟨f', hf', hN⟩ := hN
        have dl2 := parU_len (s.data.toList.drop k) (by rw [hu]; omega)
        rw [List.length_drop, HL.out, hd, hu] at dl2
        have HN : Hid (rd f' (s.data.toList.drop (k + (d + unl u))) u (v + V * usz u) (k + (d + unl u)) = rdAll s.data.toList) := by
          show _ = _
          rw [← hR.out, hN, List.drop_drop]
        have ug : 0 ≤ u := by omega
        have ul := unl_bd u
        have hlz : ¬ lsz last ≤ usz u := fun h => hle ((lsz_le ug ub2 l1 l2).1 h)
        have PP : ∀ W, Calls Tryz.prog 28 #[.string (s.extract k s.size)] W fun e w' => e = .returned (.tuple #[.int .i64 (usz u), .int .i64 ((d + unl u : Nat) : Int), .agg #[.int .i64 (sH (sat V)), .int .u64 (sL (sat V))], .bool true]) ∧ Below W.heap.size W w' := fun W => by
          have H := P W
          rw [if_neg (by omega), if_neg (by omega), decide_eq_true ug] at H; exact H
        have HP : Hid (∀ W, Calls Tryz.prog 28 #[.string (s.extract k s.size)] W fun e w' => e = .returned (.tuple #[.int .i64 (usz u), .int .i64 ((d + unl u : Nat) : Int), .agg #[.int .i64 (sH (sat V)), .int .u64 (sL (sat V))], .bool true]) ∧ Below W.heap.size W w') := PP
        have hz : Hid (lsz u = usz u) := by show _ = _; unfold lsz; rw [if_neg (by omega)]
        clear PP P hR hN hd hu hV
        obtain ⟨n, hn⟩ : ∃ n, d + unl u = n := ⟨_, rfl⟩
        rw [hn] at HP HN
        have n1 : 1 ≤ n := by omega
        have n2 : k + n ≤ s.size := by omega
        obtain ⟨vv, hvv⟩ : ∃ vv, v + V * usz u = vv := ⟨_, rfl⟩
        rw [hvv] at HN
        clear hvv
        generalize usz u = z at *
        generalize lsz last = lz at *
        clear hn ul dl2 hle
        have hex : Hid (∀ wp, Below wr.heap.size wr wp → B5 (wp.alloc (.cells #[.int .i64 (sH (sat V)), .int .u64 (sL (sat V))] 62)) R' 0 0 0 false false ∧ Below R' w (wp.alloc (.cells #[.int .i64 (sH (sat V)), .int .u64 (sL (sat V))] 62))) := by
          intro wp hb
          obtain ⟨a1, a3⟩ := hM.out
          have b3 := below_then' a3 hb (Nat.le_of_lt a1.1)
          have a4 := a1.keep hb a1.1
          exact ⟨a4.alloc _, b3.alloc (Nat.le_of_lt a4.1) _⟩
        clear hM HR HR0
        go_wp2_with fail
        refine (HP.out _).mono ?_
        rintro e wp ⟨rfl, Bp⟩
        have GG : Hid (B5 (wp.alloc (.cells #[.int .i64 (sH (sat V)), .int .u64 (sL (sat V))] 62)) R' 0 0 0 false false ∧ Below R' w (wp.alloc (.cells #[.int .i64 (sH (sat V)), .int .u64 (sL (sat V))] 62))) := hex.out wp Bp
        clear Bp hex HP
        go_wp2_with fail
        go_roundw
        case rel => exact ⟨u, vv, k + n, f', by omega, ub2, hf', n2, HN, by go_num, by rw [hz.out], GG⟩
        case measure => simp [intOf]; omega
    · have hltI : ¬ (k : Int) < (s.size : Int) := by omega
      have HE : rdAll s.data.toList = (v, k) := by
        rw [← hR.out]
        refine rd_end hf l2 ?_
        have e0 : s.data.toList.drop k = [] := List.drop_eq_nil_of_le (by rw [HL.out]; omega)
        rw [e0]; show (-1 : Int) ≤ last; omega
      have SC := fun (hk : ¬ k0 = 0) W => rscan_at s hsT v0 k0 HR0.out hk W
      rw [HR0.out] at HE
      injection HE with e1 e2
      subst e1 e2
      clear hR hd hu hV HR0 P
      by_cases hk0 : k0 = 0
      · have HR3 : Hid (RES = .returned (.tuple #[.int .i64 0, .agg #[.int .i64 40, .int .i64 0, .int .i64 0, .bool false, .bool false]])) := by
          show _ = _
          rw [← HR.out, if_pos (Or.inl hk0)]; rfl
        have kz : ((k0 : Int) == 0) = true := by simp [hk0]
        clear HR hk0 SC
        go_wp2_with fail
        refine (rnew_any 40 _).mono ?_
        rintro e wn ⟨rfl, Bn⟩
        have C1 := hM.out.1
        have D3 := below_then' hM.out.2 Bn (Nat.le_of_lt C1.1)
        obtain ⟨_, ⟨t1, t2, t3, t4, t5⟩, f1, f2, f3, f4, f5⟩ := C1.keep Bn C1.1
        clear Bn C1
        go_wp2_with fail
        simp [bodyPost, results, Tryz.results8, go_sem, t1, t2, t3, t4, t5]
        exact ⟨HR3.out.symm, by rw [hX]; exact setBad D3 y0⟩
      · have kz : ((k0 : Int) == 0) = false := by simp [hk0]
        have e0 : (if k0 = 0 ∨ k0 < s.size then 40 else if v0 < 9223372036854775808 then 0 else 20) = if v0 < 9223372036854775808 then (0 : Int) else 20 := if_neg (fun h => h.elim hk0 hlt)
        have HR2 := HR.out
        rw [e0] at HR2
        have SC2 := SC hk0
        clear e0 HR SC hk0
        by_cases hv : v0 < 9223372036854775808
        · rw [if_pos hv, if_pos rfl] at HR2
          have HR3 : Hid (RES = .returned (.tuple #[.int .i64 (v0), .agg #[.int .i64 0, .int .i64 0, .int .i64 0, .bool false, .bool false]])) := HR2.symm
          have HC : Hid (∀ W, Calls Tryz.prog 11 #[.string s] W fun e w' => e = .returned (.tuple #[.int .i64 v0, .int .i64 (k0 : Int), .agg #[.int .i64 0, .int .i64 0, .int .i64 0, .bool false, .bool false]]) ∧ Below W.heap.size W w') := fun W => (SC2 W).1 hv
          have ng1 : IntKind.i64.wrap (-v0) = -v0 := i64_neg v0 v00 hv
          have ng2 : wrap64 (-v0) = -v0 := w64_neg v0 v00 hv
          clear HR2 SC2
          go_wp2_with fail
          refine (HC.out _).mono ?_
          rintro e wn ⟨rfl, Bn⟩
          have C1 := hM.out.1
          have D3 := below_then' hM.out.2 Bn (Nat.le_of_lt C1.1)
          have C5 := C1.keep Bn C1.1
          obtain ⟨zr, ⟨t1, t2, t3, t4, t5⟩, f1, f2, f3, f4, f5⟩ := id C5
          have T9 := (C5.set 0 0 0 false false).alloc (.cells #[.int .i64 0, .int .i64 0, .int .i64 0, .bool false, .bool false] 29)
          have D4 := (setBad (v0 := .int .i64 0) (v1 := .int .i64 0) (v2 := .int .i64 0) (v3 := .bool false) (v4 := .bool false) D3 y0).alloc (Nat.le_of_lt (C5.set 0 0 0 false false).1) (.cells #[.int .i64 0, .int .i64 0, .int .i64 0, .bool false, .bool false] 29)
          obtain ⟨WZ, hWZ⟩ : ∃ WZ, (((((wn.setCell ⟨R', 0, none⟩ (.int .i64 0)).setCell ⟨R', 1, none⟩ (.int .i64 0)).setCell ⟨R', 2, none⟩ (.int .i64 0)).setCell ⟨R', 3, none⟩ (.bool false)).setCell ⟨R', 4, none⟩ (.bool false)).alloc (.cells #[.int .i64 0, .int .i64 0, .int .i64 0, .bool false, .bool false] 29) = WZ := ⟨_, rfl⟩
          rw [hWZ] at T9 D4
          have HZ : Hid ((((((wn.setCell ⟨R', 0, none⟩ (.int .i64 0)).setCell ⟨R', 1, none⟩ (.int .i64 0)).setCell ⟨R', 2, none⟩ (.int .i64 0)).setCell ⟨R', 3, none⟩ (.bool false)).setCell ⟨R', 4, none⟩ (.bool false)).alloc (.cells #[.int .i64 0, .int .i64 0, .int .i64 0, .bool false, .bool false] 29) = WZ) := hWZ
          obtain ⟨_, ⟨t1', t2', t3', t4', t5'⟩, _⟩ := T9
          clear Bn C5 C1 D3 hWZ
          go_wp2_with fail
          rw [HZ.out]
          simp [bodyPost, results, Tryz.results8, go_sem, t1', t2', t3', t4', t5']
          exact ⟨HR3.out.symm, by rw [hX]; exact D4⟩
        · rw [if_neg hv, if_neg (by omega)] at HR2
          have HR3 : Hid (RES = .returned (.tuple #[.int .i64 0, .agg #[.int .i64 20, .int .i64 0, .int .i64 0, .bool false, .bool false]])) := HR2.symm
          have HC : Hid (∀ W, Calls Tryz.prog 11 #[.string s] W fun e w' => e = .returned (.tuple #[.int .i64 0, .int .i64 0, .agg #[.int .i64 20, .int .i64 0, .int .i64 0, .bool false, .bool false]]) ∧ Below W.heap.size W w') := fun W => (SC2 W).2 hv
          clear HR2 SC2
          go_wp2_with fail
          refine (HC.out _).mono ?_
          rintro e wn ⟨rfl, Bn⟩
          have C1 := hM.out.1
          have D3 := below_then' hM.out.2 Bn (Nat.le_of_lt C1.1)
          have C5 := C1.keep Bn C1.1
          obtain ⟨zr, ⟨t1, t2, t3, t4, t5⟩, f1, f2, f3, f4, f5⟩ := id C5
          have T9 := (C5.set 20 0 0 false false).alloc (.cells #[.int .i64 20, .int .i64 0, .int .i64 0, .bool false, .bool false] 29)
          have D4 := (setBad (v0 := .int .i64 20) (v1 := .int .i64 0) (v2 := .int .i64 0) (v3 := .bool false) (v4 := .bool false) D3 y0).alloc (Nat.le_of_lt (C5.set 20 0 0 false false).1) (.cells #[.int .i64 20, .int .i64 0, .int .i64 0, .bool false, .bool false] 29)
          obtain ⟨WZ, hWZ⟩ : ∃ WZ, (((((wn.setCell ⟨R', 0, none⟩ (.int .i64 20)).setCell ⟨R', 1, none⟩ (.int .i64 0)).setCell ⟨R', 2, none⟩ (.int .i64 0)).setCell ⟨R', 3, none⟩ (.bool false)).setCell ⟨R', 4, none⟩ (.bool false)).alloc (.cells #[.int .i64 20, .int .i64 0, .int .i64 0, .bool false, .bool false] 29) = WZ := ⟨_, rfl⟩
          rw [hWZ] at T9 D4
          have HZ : Hid ((((((wn.setCell ⟨R', 0, none⟩ (.int .i64 20)).setCell ⟨R', 1, none⟩ (.int .i64 0)).setCell ⟨R', 2, none⟩ (.int .i64 0)).setCell ⟨R', 3, none⟩ (.bool false)).setCell ⟨R', 4, none⟩ (.bool false)).alloc (.cells #[.int .i64 20, .int .i64 0, .int .i64 0, .bool false, .bool false] 29) = WZ) := hWZ
          obtain ⟨_, ⟨t1', t2', t3', t4', t5'⟩, _⟩ := T9
          clear Bn C5 C1 D3 hWZ
          go_wp2_with fail
          go_region
          all_goals
            go_wp2_with fail
            rw [HZ.out]
            have t1d : WZ.drew.cell? ⟨R', 0, none⟩ = some (.int .i64 20) := t1'
            have t2d : WZ.drew.cell? ⟨R', 1, none⟩ = some (.int .i64 0) := t2'
            have t3d : WZ.drew.cell? ⟨R', 2, none⟩ = some (.int .i64 0) := t3'
            have t4d : WZ.drew.cell? ⟨R', 3, none⟩ = some (.bool false) := t4'
            have t5d : WZ.drew.cell? ⟨R', 4, none⟩ = some (.bool false) := t5'
            simp [bodyPost, results, Tryz.results8, go_sem, t1', t2', t3', t4', t5', t1d, t2d, t3d, t4d, t5d]
            exact ⟨HR3.out.symm, by rw [hX]; exact D4.drew⟩
set_option maxRecDepth 100000 in
set_option maxHeartbeats 8000000 in
theorem rparse_minus (s : ByteArray) (hs : s.size ≤ 281474976710656) (h45 : s.data.toList.head? = some 45) (w : World) :
    Calls Tryz.prog 8 #[.string s] w fun e w' => e = .returned (.tuple #[.int .i64 (spV s.data.toList), .agg #[.int .i64 (spE s.data.toList), .int .i64 0, .int .i64 0, .bool false, .bool false]]) ∧ Below w.heap.size w w' := by
  have hT : (s.extract 1 s.size).data.toList = spT s.data.toList := by rw [ex_list]; unfold spT; rw [if_pos h45]
  have hsT : (s.extract 1 s.size).size ≤ 281474976710656 := by rw [ex_size]; omega
  have hz : 0 < s.size := by
    rw [← sz_list]; cases hl : s.data.toList with
    | nil => rw [hl] at h45; simp at h45
    | cons => simp
  have hzI : (0 : Int) < (s.size : Int) := by omega
  have hz1 : ¬ (s.size : Int) < 1 := by omega
  have hb0 : (((s[0]).toNat : Int) == 45) = true := byte0_yes s hz h45
  obtain ⟨v0, k0, hR0⟩ : ∃ v k, rdAll (s.extract 1 s.size).data.toList = (v, k) := ⟨_, _, rfl⟩
  have bd := rdAll_bd (s.extract 1 s.size).data.toList
  rw [hR0] at bd
  have v00 : 0 ≤ v0 := bd.1
  have HL : Hid ((s.extract 1 s.size).data.toList.length = (s.extract 1 s.size).size) := sz_list (s.extract 1 s.size)
  have eE : spE s.data.toList = if k0 = 0 ∨ k0 < (s.extract 1 s.size).size then 40 else if v0 < 9223372036854775808 then 0 else 20 := by
    unfold spE; rw [← hT, hR0, sz_list]
  have eV : spV s.data.toList = if spE s.data.toList = 0 then (-v0) else 0 := by
    unfold spV; rw [← hT, hR0, if_pos h45]
  obtain ⟨RES, hRES⟩ : ∃ R, Ending.returned (.tuple #[.int .i64 (spV s.data.toList), .agg #[.int .i64 (spE s.data.toList), .int .i64 0, .int .i64 0, .bool false, .bool false]]) = R := ⟨_, rfl⟩
  rw [hRES]
  rw [eV, eE] at hRES
  have HR : Hid (Ending.returned (.tuple #[.int .i64 (if (if k0 = 0 ∨ k0 < (s.extract 1 s.size).size then 40 else if v0 < 9223372036854775808 then 0 else 20) = (0 : Int) then (-v0) else 0), .agg #[.int .i64 (if k0 = 0 ∨ k0 < (s.extract 1 s.size).size then 40 else if v0 < 9223372036854775808 then 0 else 20), .int .i64 0, .int .i64 0, .bool false, .bool false]]) = RES) := hRES
  have HR0 : Hid (rdAll (s.extract 1 s.size).data.toList = (v0, k0)) := hR0
  clear hRES eE eV hR0 hT bd
  obtain ⟨W0, hW0⟩ : ∃ W, W = w.alloc (.cells #[.int .i64 0, .int .i64 0, .int .i64 0, .bool false, .bool false] 29) := ⟨_, rfl⟩
  have HS : Hid (B5 W0 w.heap.size 0 0 0 false false ∧ Below w.heap.size w W0) := by
    rw [hW0]
    exact ⟨B5.new _ _ _ _ _ _ _ rfl, below_new (Below.refl _ _) _⟩
  have HW : Hid (W0 = w.alloc (.cells #[.int .i64 0, .int .i64 0, .int .i64 0, .bool false, .bool false] 29)) := hW0
  clear hW0
  go_enter Tryz.func8, Tryz.ntmps8
  go_wp2
  rw [← HW.out]
  clear HW
  generalize s.extract 1 s.size = TT at *
  have y0 : w.heap.size ≤ w.heap.size := by omega
  generalize hX : w.heap.size = R' at *
  go_loopw [6, 7] (fun i la wr => ∃ (last v : Int) (k f : Nat), -1 ≤ last ∧ last ≤ 7 ∧ 8 ≤ (f : Int) + last ∧ k ≤ TT.size ∧ Hid (rd f (TT.data.toList.drop k) last v k = rdAll TT.data.toList) ∧ i = .int .i64 k ∧ la = .int .i64 (lsz last) ∧ Hid (B5 wr R' 0 0 0 false false ∧ Below R' w wr)) (fun i _ _ => TT.size - (intOf i).toNat)
  case atStart => exact ⟨-1, 0, 0, 9, by omega, by omega, by omega, by omega, rfl, rfl, rfl, HS⟩
  case round =>
    obtain ⟨last, v, k, f, l1, l2, hf, hk, hR, rfl, rfl, hM⟩ := hrel
    clear HS
    obtain ⟨d, hd⟩ : ∃ d, cnt (TT.data.toList.drop k) = d := ⟨_, rfl⟩
    obtain ⟨u, hu⟩ : ∃ u, parU (TT.data.toList.drop k) = u := ⟨_, rfl⟩
    obtain ⟨V, hV⟩ : ∃ V, valF 0 ((TT.data.toList.drop k).take d) = V := ⟨_, rfl⟩
    have ub := parU_bd (TT.data.toList.drop k)
    rw [hu] at ub
    obtain ⟨ub1, ub2⟩ := ub
    have P := fun W => part4_at TT hsT k d u V hd hu hV W
    have kb : ¬ (TT.size : Int) < k := by omega
    by_cases hlt : k < TT.size
    · have hltI : (k : Int) < (TT.size : Int) := by omega
      by_cases hle : u ≤ last
      · have HE : rdAll TT.data.toList = (v, k) := by
          rw [← hR.out]; exact rd_end hf l2 (by rw [hu]; exact hle)
        rw [HR0.out] at HE
        injection HE with e1 e2
        subst e1 e2
        have HR3 : Hid (RES = .returned (.tuple #[.int .i64 0, .agg #[.int .i64 40, .int .i64 0, .int .i64 0, .bool false, .bool false]])) := by
          show _ = _
          rw [← HR.out, if_pos (Or.inr hlt)]; rfl
        clear hR hd hu hV HR0 HR
        have hex : Hid (∀ wp, Below wr.heap.size wr wp → B5 (wp.alloc (.cells #[.int .i64 (sH (sat V)), .int .u64 (sL (sat V))] 62)) R' 0 0 0 false false ∧ Below R' w (wp.alloc (.cells #[.int .i64 (sH (sat V)), .int .u64 (sL (sat V))] 62))) := by
          intro wp hb
          obtain ⟨a1, a3⟩ := hM.out
          have b3 := below_then' a3 hb (Nat.le_of_lt a1.1)
          have a4 := a1.keep hb a1.1
          exact ⟨a4.alloc _, b3.alloc (Nat.le_of_lt a4.1) _⟩
        clear hM
        have PX : Hid (∃ (u1 u2 : Int) (ok : Bool), (ok = true → lsz last ≤ u1) ∧ ∀ W, Calls Tryz.prog 28 #[.string (TT.extract k0 TT.size)] W fun e w' => e = .returned (.tuple #[.int .i64 u1, .int .i64 u2, .agg #[.int .i64 (sH (sat V)), .int .u64 (sL (sat V))], .bool ok]) ∧ Below W.heap.size W w') := by
          refine ⟨_, _, _, ?_, P⟩
          intro ho
          have h0 : 0 ≤ u := of_decide_eq_true ho
          rw [if_neg (by omega)]
          exact (lsz_le h0 ub2 l1 l2).2 hle
        obtain ⟨u1, u2, ok, hok, PP⟩ := PX.out
        clear PX P ub1 ub2 hle
        have HP : Hid (∀ W, Calls Tryz.prog 28 #[.string (TT.extract k0 TT.size)] W fun e w' => e = .returned (.tuple #[.int .i64 u1, .int .i64 u2, .agg #[.int .i64 (sH (sat V)), .int .u64 (sL (sat V))], .bool ok]) ∧ Below W.heap.size W w') := PP
        clear PP
        generalize lsz last = lz at *
        by_cases hk0 : k0 = 0
        · have kz : ((k0 : Int) == 0) = true := by simp [hk0]
          clear hk0
          cases ok with
          | false =>
            go_wp2_with fail
            refine (HP.out _).mono ?_
            rintro e wp ⟨rfl, Bp⟩
            obtain ⟨c1, c3⟩ := hex.out wp Bp
            have C1 : Hid (B5 (wp.alloc (.cells #[.int .i64 (sH (sat V)), .int .u64 (sL (sat V))] 62)) R' 0 0 0 false false) := c1
            have C3 : Hid (Below R' w (wp.alloc (.cells #[.int .i64 (sH (sat V)), .int .u64 (sL (sat V))] 62))) := c3
            clear c1 c3 Bp
            go_wp2_with fail
            generalize wp.alloc (.cells #[.int .i64 (sH (sat V)), .int .u64 (sL (sat V))] 62) = wq at *
            refine (rnew_any 40 _).mono ?_
            rintro e wn ⟨rfl, Bn⟩
            have D3 := below_then' C3.out Bn (Nat.le_of_lt C1.out.1)
            obtain ⟨_, ⟨t1, t2, t3, t4, t5⟩, f1, f2, f3, f4, f5⟩ := C1.out.keep Bn C1.out.1
            clear Bn
            go_wp2_with fail
            simp [bodyPost, results, Tryz.results8, go_sem, t1, t2, t3, t4, t5]
            exact ⟨HR3.out.symm, by rw [hX]; exact setBad D3 y0⟩
          | true =>
            have hge : lz ≤ u1 := hok rfl
            go_wp2_with fail
            refine (HP.out _).mono ?_
            rintro e wp ⟨rfl, Bp⟩
            obtain ⟨c1, c3⟩ := hex.out wp Bp
            have C1 : Hid (B5 (wp.alloc (.cells #[.int .i64 (sH (sat V)), .int .u64 (sL (sat V))] 62)) R' 0 0 0 false false) := c1
            have C3 : Hid (Below R' w (wp.alloc (.cells #[.int .i64 (sH (sat V)), .int .u64 (sL (sat V))] 62))) := c3
            clear c1 c3 Bp
            go_wp2_with fail
            generalize wp.alloc (.cells #[.int .i64 (sH (sat V)), .int .u64 (sL (sat V))] 62) = wq at *
            refine (rnew_any 40 _).mono ?_
            rintro e wn ⟨rfl, Bn⟩
            have D3 := below_then' C3.out Bn (Nat.le_of_lt C1.out.1)
            obtain ⟨_, ⟨t1, t2, t3, t4, t5⟩, f1, f2, f3, f4, f5⟩ := C1.out.keep Bn C1.out.1
            clear Bn
            go_wp2_with fail
            simp [bodyPost, results, Tryz.results8, go_sem, t1, t2, t3, t4, t5]
            exact ⟨HR3.out.symm, by rw [hX]; exact setBad D3 y0⟩
        · have kz : ((k0 : Int) == 0) = false := by simp [hk0]
          clear hk0
          cases ok with
          | false =>
            go_wp2_with fail
            refine (HP.out _).mono ?_
            rintro e wp ⟨rfl, Bp⟩
            obtain ⟨c1, c3⟩ := hex.out wp Bp
            have C1 : Hid (B5 (wp.alloc (.cells #[.int .i64 (sH (sat V)), .int .u64 (sL (sat V))] 62)) R' 0 0 0 false false) := c1
            have C3 : Hid (Below R' w (wp.alloc (.cells #[.int .i64 (sH (sat V)), .int .u64 (sL (sat V))] 62))) := c3
            clear c1 c3 Bp
            go_wp2_with fail
            generalize wp.alloc (.cells #[.int .i64 (sH (sat V)), .int .u64 (sL (sat V))] 62) = wq at *
            refine (rnew_any 40 _).mono ?_
            rintro e wn ⟨rfl, Bn⟩
            have D3 := below_then' C3.out Bn (Nat.le_of_lt C1.out.1)
            obtain ⟨_, ⟨t1, t2, t3, t4, t5⟩, f1, f2, f3, f4, f5⟩ := C1.out.keep Bn C1.out.1
            clear Bn
            go_wp2_with fail
            simp [bodyPost, results, Tryz.results8, go_sem, t1, t2, t3, t4, t5]
            exact ⟨HR3.out.symm, by rw [hX]; exact setBad D3 y0⟩
          | true =>
            have hge : lz ≤ u1 := hok rfl
            go_wp2_with fail
            refine (HP.out _).mono ?_
            rintro e wp ⟨rfl, Bp⟩
            obtain ⟨c1, c3⟩ := hex.out wp Bp
            have C1 : Hid (B5 (wp.alloc (.cells #[.int .i64 (sH (sat V)), .int .u64 (sL (sat V))] 62)) R' 0 0 0 false false) := c1
            have C3 : Hid (Below R' w (wp.alloc (.cells #[.int .i64 (sH (sat V)), .int .u64 (sL (sat V))] 62))) := c3
            clear c1 c3 Bp
            go_wp2_with fail
            generalize wp.alloc (.cells #[.int .i64 (sH (sat V)), .int .u64 (sL (sat V))] 62) = wq at *
            refine (rnew_any 40 _).mono ?_
            rintro e wn ⟨rfl, Bn⟩
            have D3 := below_then' C3.out Bn (Nat.le_of_lt C1.out.1)
            obtain ⟨_, ⟨t1, t2, t3, t4, t5⟩, f1, f2, f3, f4, f5⟩ := C1.out.keep Bn C1.out.1
            clear Bn
            go_wp2_with fail
            simp [bodyPost, results, Tryz.results8, go_sem, t1, t2, t3, t4, t5]
            exact ⟨HR3.out.symm, by rw [hX]; exact setBad D3 y0⟩
      · have hN := rd_next (v := v) (k := k) hf l2 (by rw [hu]; exact hle)
        rw [hd, hu, hV] at hN
        obtain ⟨f', hf', hN⟩ := hN
        have dl2 := parU_len (TT.data.toList.drop k) (by rw [hu]; omega)
        rw [List.length_drop, HL.out, hd, hu] at dl2
        have HN : Hid (rd f' (TT.data.toList.drop (k + (d + unl u))) u (v + V * usz u) (k + (d + unl u)) = rdAll TT.data.toList) := by
          show _ = _
          rw [← hR.out, hN, List.drop_drop]
        have ug : 0 ≤ u := by omega
        have ul := unl_bd u
        have hlz : ¬ lsz last ≤ usz u := fun h => hle ((lsz_le ug ub2 l1 l2).1 h)
        have PP : ∀ W, Calls Tryz.prog 28 #[.string (TT.extract k TT.size)] W fun e w' => e = .returned (.tuple #[.int .i64 (usz u), .int .i64 ((d + unl u : Nat) : Int), .agg #[.int .i64 (sH (sat V)), .int .u64 (sL (sat V))], .bool true]) ∧ Below W.heap.size W w' := fun W => by
          have H := P W
          rw [if_neg (by omega), if_neg (by omega), decide_eq_true ug] at H; exact H
        have HP : Hid (∀ W, Calls Tryz.prog 28 #[.string (TT.extract k TT.size)] W fun e w' => e = .returned (.tuple #[.int .i64 (usz u), .int .i64 ((d + unl u : Nat) : Int), .agg #[.int .i64 (sH (sat V)), .int .u64 (sL (sat V))], .bool true]) ∧ Below W.heap.size W w') := PP
        have hz : Hid (lsz u = usz u) := by show _ = _; unfold lsz; rw [if_neg (by omega)]
        clear PP P hR hN hd hu hV
        obtain ⟨n, hn⟩ : ∃ n, d + unl u = n := ⟨_, rfl⟩
        rw [hn] at HP HN
        have n1 : 1 ≤ n := by omega
        have n2 : k + n ≤ TT.size := by omega
        obtain ⟨vv, hvv⟩ : ∃ vv, v + V * usz u = vv := ⟨_, rfl⟩
        rw [hvv] at HN
        clear hvv
        generalize usz u = z at *
        generalize lsz last = lz at *
        clear hn ul dl2 hle
        have hex : Hid (∀ wp, Below wr.heap.size wr wp → B5 (wp.alloc (.cells #[.int .i64 (sH (sat V)), .int .u64 (sL (sat V))] 62)) R' 0 0 0 false false ∧ Below R' w (wp.alloc (.cells #[.int .i64 (sH (sat V)), .int .u64 (sL (sat V))] 62))) := by
          intro wp hb
          obtain ⟨a1, a3⟩ := hM.out
          have b3 := below_then' a3 hb (Nat.le_of_lt a1.1)
          have a4 := a1.keep hb a1.1
          exact ⟨a4.alloc _, b3.alloc (Nat.le_of_lt a4.1) _⟩
        clear hM HR HR0
        go_wp2_with fail
        refine (HP.out _).mono ?_
        rintro e wp ⟨rfl, Bp⟩
        have GG : Hid (B5 (wp.alloc (.cells #[.int .i64 (sH (sat V)), .int .u64 (sL (sat V))] 62)) R' 0 0 0 false false ∧ Below R' w (wp.alloc (.cells #[.int .i64 (sH (sat V)), .int .u64 (sL (sat V))] 62))) := hex.out wp Bp
        clear Bp hex HP
        go_wp2_with fail
        go_roundw
        case rel => exact ⟨u, vv, k + n, f', by omega, ub2, hf', n2, HN, by go_num, by rw [hz.out], GG⟩
        case measure => simp [intOf]; omega
    · have hltI : ¬ (k : Int) < (TT.size : Int) := by omega
      have HE : rdAll TT.data.toList = (v, k) := by
        rw [← hR.out]
        refine rd_end hf l2 ?_
        have e0 : TT.data.toList.drop k = [] := List.drop_eq_nil_of_le (by rw [HL.out]; omega)
        rw [e0]; show (-1 : Int) ≤ last; omega
      have SC := fun (hk : ¬ k0 = 0) W => rscan_at TT hsT v0 k0 HR0.out hk W
      rw [HR0.out] at HE
      injection HE with e1 e2
      subst e1 e2
      clear hR hd hu hV HR0 P
      by_cases hk0 : k0 = 0
      · have HR3 : Hid (RES = .returned (.tuple #[.int .i64 0, .agg #[.int .i64 40, .int .i64 0, .int .i64 0, .bool false, .bool false]])) := by
          show _ = _
          rw [← HR.out, if_pos (Or.inl hk0)]; rfl
        have kz : ((k0 : Int) == 0) = true := by simp [hk0]
        clear HR hk0 SC
        go_wp2_with fail
        refine (rnew_any 40 _).mono ?_
        rintro e wn ⟨rfl, Bn⟩
        have C1 := hM.out.1
        have D3 := below_then' hM.out.2 Bn (Nat.le_of_lt C1.1)
        obtain ⟨_, ⟨t1, t2, t3, t4, t5⟩, f1, f2, f3, f4, f5⟩ := C1.keep Bn C1.1
        clear Bn C1
        go_wp2_with fail
        simp [bodyPost, results, Tryz.results8, go_sem, t1, t2, t3, t4, t5]
        exact ⟨HR3.out.symm, by rw [hX]; exact setBad D3 y0⟩
      · have kz : ((k0 : Int) == 0) = false := by simp [hk0]
        have e0 : (if k0 = 0 ∨ k0 < TT.size then 40 else if v0 < 9223372036854775808 then 0 else 20) = if v0 < 9223372036854775808 then (0 : Int) else 20 := if_neg (fun h => h.elim hk0 hlt)
        have HR2 := HR.out
        rw [e0] at HR2
        have SC2 := SC hk0
        clear e0 HR SC hk0
        by_cases hv : v0 < 9223372036854775808
        · rw [if_pos hv, if_pos rfl] at HR2
          have HR3 : Hid (RES = .returned (.tuple #[.int .i64 ((-v0)), .agg #[.int .i64 0, .int .i64 0, .int .i64 0, .bool false, .bool false]])) := HR2.symm
          have HC : Hid (∀ W, Calls Tryz.prog 11 #[.string TT] W fun e w' => e = .returned (.tuple #[.int .i64 v0, .int .i64 (k0 : Int), .agg #[.int .i64 0, .int .i64 0, .int .i64 0, .bool false, .bool false]]) ∧ Below W.heap.size W w') := fun W => (SC2 W).1 hv
          have ng1 : IntKind.i64.wrap (-v0) = -v0 := i64_neg v0 v00 hv
          have ng2 : wrap64 (-v0) = -v0 := w64_neg v0 v00 hv
          clear HR2 SC2
          go_wp2_with fail
          refine (HC.out _).mono ?_
          rintro e wn ⟨rfl, Bn⟩
          have C1 := hM.out.1
          have D3 := below_then' hM.out.2 Bn (Nat.le_of_lt C1.1)
          have C5 := C1.keep Bn C1.1
          obtain ⟨zr, ⟨t1, t2, t3, t4, t5⟩, f1, f2, f3, f4, f5⟩ := id C5
          have T9 := (C5.set 0 0 0 false false).alloc (.cells #[.int .i64 0, .int .i64 0, .int .i64 0, .bool false, .bool false] 29)
          have D4 := (setBad (v0 := .int .i64 0) (v1 := .int .i64 0) (v2 := .int .i64 0) (v3 := .bool false) (v4 := .bool false) D3 y0).alloc (Nat.le_of_lt (C5.set 0 0 0 false false).1) (.cells #[.int .i64 0, .int .i64 0, .int .i64 0, .bool false, .bool false] 29)
          obtain ⟨WZ, hWZ⟩ : ∃ WZ, (((((wn.setCell ⟨R', 0, none⟩ (.int .i64 0)).setCell ⟨R', 1, none⟩ (.int .i64 0)).setCell ⟨R', 2, none⟩ (.int .i64 0)).setCell ⟨R', 3, none⟩ (.bool false)).setCell ⟨R', 4, none⟩ (.bool false)).alloc (.cells #[.int .i64 0, .int .i64 0, .int .i64 0, .bool false, .bool false] 29) = WZ := ⟨_, rfl⟩
          rw [hWZ] at T9 D4
          have HZ : Hid ((((((wn.setCell ⟨R', 0, none⟩ (.int .i64 0)).setCell ⟨R', 1, none⟩ (.int .i64 0)).setCell ⟨R', 2, none⟩ (.int .i64 0)).setCell ⟨R', 3, none⟩ (.bool false)).setCell ⟨R', 4, none⟩ (.bool false)).alloc (.cells #[.int .i64 0, .int .i64 0, .int .i64 0, .bool false, .bool false] 29) = WZ) := hWZ
          obtain ⟨_, ⟨t1', t2', t3', t4', t5'⟩, _⟩ := T9
          clear Bn C5 C1 D3 hWZ
          go_wp2_with fail
          rw [HZ.out]
          simp [bodyPost, results, Tryz.results8, go_sem, t1', t2', t3', t4', t5']
          exact ⟨HR3.out.symm, by rw [hX]; exact D4⟩
        · rw [if_neg hv, if_neg (by omega)] at HR2
          have HR3 : Hid (RES = .returned (.tuple #[.int .i64 0, .agg #[.int .i64 20, .int .i64 0, .int .i64 0, .bool false, .bool false]])) := HR2.symm
          have HC : Hid (∀ W, Calls Tryz.prog 11 #[.string TT] W fun e w' => e = .returned (.tuple #[.int .i64 0, .int .i64 0, .agg #[.int .i64 20, .int .i64 0, .int .i64 0, .bool false, .bool false]]) ∧ Below W.heap.size W w') := fun W => (SC2 W).2 hv
          clear HR2 SC2
          go_wp2_with fail
          refine (HC.out _).mono ?_
          rintro e wn ⟨rfl, Bn⟩
          have C1 := hM.out.1
          have D3 := below_then' hM.out.2 Bn (Nat.le_of_lt C1.1)
          have C5 := C1.keep Bn C1.1
          obtain ⟨zr, ⟨t1, t2, t3, t4, t5⟩, f1, f2, f3, f4, f5⟩ := id C5
          have T9 := (C5.set 20 0 0 false false).alloc (.cells #[.int .i64 20, .int .i64 0, .int .i64 0, .bool false, .bool false] 29)
          have D4 := (setBad (v0 := .int .i64 20) (v1 := .int .i64 0) (v2 := .int .i64 0) (v3 := .bool false) (v4 := .bool false) D3 y0).alloc (Nat.le_of_lt (C5.set 20 0 0 false false).1) (.cells #[.int .i64 20, .int .i64 0, .int .i64 0, .bool false, .bool false] 29)
          obtain ⟨WZ, hWZ⟩ : ∃ WZ, (((((wn.setCell ⟨R', 0, none⟩ (.int .i64 20)).setCell ⟨R', 1, none⟩ (.int .i64 0)).setCell ⟨R', 2, none⟩ (.int .i64 0)).setCell ⟨R', 3, none⟩ (.bool false)).setCell ⟨R', 4, none⟩ (.bool false)).alloc (.cells #[.int .i64 20, .int .i64 0, .int .i64 0, .bool false, .bool false] 29) = WZ := ⟨_, rfl⟩
          rw [hWZ] at T9 D4
          have HZ : Hid ((((((wn.setCell ⟨R', 0, none⟩ (.int .i64 20)).setCell ⟨R', 1, none⟩ (.int .i64 0)).setCell ⟨R', 2, none⟩ (.int .i64 0)).setCell ⟨R', 3, none⟩ (.bool false)).setCell ⟨R', 4, none⟩ (.bool false)).alloc (.cells #[.int .i64 20, .int .i64 0, .int .i64 0, .bool false, .bool false] 29) = WZ) := hWZ
          obtain ⟨_, ⟨t1', t2', t3', t4', t5'⟩, _⟩ := T9
          clear Bn C5 C1 D3 hWZ
          go_wp2_with fail
          go_region
          all_goals
            go_wp2_with fail
            rw [HZ.out]
            have t1d : WZ.drew.cell? ⟨R', 0, none⟩ = some (.int .i64 20) := t1'
            have t2d : WZ.drew.cell? ⟨R', 1, none⟩ = some (.int .i64 0) := t2'
            have t3d : WZ.drew.cell? ⟨R', 2, none⟩ = some (.int .i64 0) := t3'
            have t4d : WZ.drew.cell? ⟨R', 3, none⟩ = some (.bool false) := t4'
            have t5d : WZ.drew.cell? ⟨R', 4, none⟩ = some (.bool false) := t5'
            simp [bodyPost, results, Tryz.results8, go_sem, t1', t2', t3', t4', t5', t1d, t2d, t3d, t4d, t5d]
            exact ⟨HR3.out.symm, by rw [hX]; exact D4.drew⟩
theorem rparse4_any (s : ByteArray) (hs : s.size ≤ 281474976710656) (w : World) :
    Calls Tryz.prog 8 #[.string s] w fun e w' => e = .returned (.tuple #[.int .i64 (spV s.data.toList), .agg #[.int .i64 (spE s.data.toList), .int .i64 0, .int .i64 0, .bool false, .bool false]]) ∧ Below w.heap.size w w' := by
  by_cases h : s.data.toList.head? = some 45
  · exact rparse_minus s hs h w
  · by_cases hz : 0 < s.size
    · exact rparse_plain s hs h hz w
    · exact rparse_none s hs h hz w
end Go.Proofs.YtipahdplkmmofaaGreatDoor
