
import Derived.Test.YtipahdplkmmofaaGreatDoorSqK
import Derived.Deep.RegionWith
import Derived.Deep.RegionHeld3
namespace Go.Proofs.YtipahdplkmmofaaGreatDoor
open Go.RowKit
set_option linter.unusedVariables false
set_option linter.unusedSimpArgs false
theorem sz_list4 (s : ByteArray) : s.data.toList.length = s.size := by simp
theorem ex_list4 (s : ByteArray) (k d : Nat) : (s.data.toList.drop k).take d = (s.extract k (k + d)).data.toList := by
  simp [ByteArray.data_extract, Array.toList_extract, List.extract_eq_take_drop]
theorem ten_step (X k : Int) : X * (k + 1) + X = X * (k + 1 + 1) := by rw [Int.mul_add X (k + 1) 1, Int.mul_one]
theorem plus_dig (Y d : Int) (y0 : 0 ≤ Y) (d0 : 0 ≤ d) (d1 : d ≤ 9) (w : World) :
    Calls Tryz.prog 31 #[.agg #[.int .i64 (sH (sat Y)), .int .u64 (sL (sat Y))], .agg #[.int .i64 0, .int .u64 d]] w fun e w' => e = .returned (.agg #[.int .i64 (sH (sat (Y + d))), .int .u64 (sL (sat (Y + d)))]) ∧ Below w.heap.size w w' := by
  have H := plus_sat Y d y0 d0 w
  have e1 : sat d = d := sat_of (by rw [MU_val]; omega)
  have e2 : sH d = 0 := by unfold sH; omega
  have e3 : sL d = d := by unfold sL; omega
  rw [e1, e2, e3] at H
  exact H
theorem take_next (l : List UInt8) (i : Nat) (h : i < l.length) : valF 0 (l.take (i + 1)) = valF 0 (l.take i) * 10 + ((l[i].toNat : Int) - 48) := by
  rw [List.take_succ_eq_append_getElem h, valF_snoc]
set_option maxRecDepth 100000 in
set_option maxHeartbeats 4000000 in
theorem part4_any (s : ByteArray) (hs : s.size ≤ 281474976710656) (w : World) :
    Calls Tryz.prog 28 #[.string s] w fun e w' => e = .returned (.tuple #[.int .i64 (if parU s.data.toList < 0 then 0 else usz (parU s.data.toList)), .int .i64 (if parU s.data.toList < 0 then 0 else ((cnt s.data.toList + unl (parU s.data.toList) : Nat) : Int)), .agg #[.int .i64 (sH (sat (valF 0 (s.data.toList.take (cnt s.data.toList))))), .int .u64 (sL (sat (valF 0 (s.data.toList.take (cnt s.data.toList)))))], .bool (decide (0 ≤ parU s.data.toList))]) ∧ Below w.heap.size w w' := by
  obtain ⟨l, hl⟩ : ∃ l, l = s.data.toList := ⟨_, rfl⟩
  have HL : Hid (l.length = s.size) := by rw [hl]; exact sz_list4 s
  have HG : Hid (∀ (i : Nat) (h : i < s.size) (h' : i < l.length), s[i] = l[i]) := by intro i h h'; subst hl; rfl
  rw [← hl]
  have HLL : Hid (l = s.data.toList) := hl
  clear hl
  obtain ⟨RES, hRES⟩ : ∃ R, Ending.returned (.tuple #[.int .i64 (if parU l < 0 then 0 else usz (parU l)), .int .i64 (if parU l < 0 then 0 else ((cnt l + unl (parU l) : Nat) : Int)), .agg #[.int .i64 (sH (sat (valF 0 (l.take (cnt l))))), .int .u64 (sL (sat (valF 0 (l.take (cnt l)))))], .bool (decide (0 ≤ parU l))]) = R := ⟨_, rfl⟩
  rw [hRES]
  have HR : Hid (Ending.returned (.tuple #[.int .i64 (if parU l < 0 then 0 else usz (parU l)), .int .i64 (if parU l < 0 then 0 else ((cnt l + unl (parU l) : Nat) : Int)), .agg #[.int .i64 (sH (sat (valF 0 (l.take (cnt l))))), .int .u64 (sL (sat (valF 0 (l.take (cnt l)))))], .bool (decide (0 ≤ parU l))]) = RES) := hRES
  clear hRES
  have HU : Hid (∀ T W, Calls Tryz.prog 69 #[.string T] W fun e w' => e = .returned (.int .i64 (unF T)) ∧ w' = W) := fun T W => unit4_any T W
  have z0 : sH (sat 0) = 0 ∧ sL (sat 0) = 0 := by decide
  obtain ⟨W0, hW0⟩ : ∃ W, W = (w.alloc (.cells #[.int .i64 0, .int .u64 0] 62)).alloc (.cells #[.int .i64 0, .int .u64 0] 62) := ⟨_, rfl⟩
  have bW : Below w.heap.size w W0 := by rw [hW0]; exact below_new (below_new (Below.refl _ _) _) _
  have sR : SM W0 w.heap.size 0 0 := by rw [hW0]; exact (SM.new _ _ _ _ rfl).alloc _
  have sV : SM W0 (w.heap.size + 1) (sH (sat (valF 0 (l.take 0)))) (sL (sat (valF 0 (l.take 0)))) := by
    rw [hW0, show valF 0 (l.take 0) = 0 from rfl, z0.1, z0.2]; exact SM.new _ _ _ _ (by simp)
  have HS : Hid (SM W0 w.heap.size 0 0 ∧ SM W0 (w.heap.size + 1) (sH (sat (valF 0 (l.take 0)))) (sL (sat (valF 0 (l.take 0)))) ∧ Below w.heap.size w W0) := ⟨sR, sV, bW⟩
  have HW : Hid (W0 = (w.alloc (.cells #[.int .i64 0, .int .u64 0] 62)).alloc (.cells #[.int .i64 0, .int .u64 0] 62)) := hW0
  clear hW0 sV sR z0 bW
  have DG : Hid (∀ (c : UInt8) (b : Bool) W, isD c = b → Calls Tryz.prog 68 #[.int .u8 (c.toNat : Int)] W fun e w' => e = .returned (.bool b) ∧ w' = W) := fun c b W h => by rw [← h]; exact digit_any c W
  go_enter Tryz.func28, Tryz.ntmps28
  go_wp2
  rw [← HW.out]
  clear HW
  have x1 : w.heap.size ≠ w.heap.size + 1 := by omega
  have y1 : w.heap.size ≤ w.heap.size + 1 := by omega
  have y0 : w.heap.size ≤ w.heap.size := by omega
  generalize w.heap.size + 1 = V' at *
  generalize hX : w.heap.size = R' at *
  go_loopw [6] (fun n wr => ∃ i : Nat, i ≤ s.size ∧ n = .int .i64 i ∧ Hid (∀ (j : Nat) (h : j < l.length), j < i → isD l[j] = true) ∧ Hid (SM wr R' 0 0 ∧ SM wr V' (sH (sat (valF 0 (l.take i)))) (sL (sat (valF 0 (l.take i)))) ∧ Below R' w wr)) (fun n _ => s.size - (intOf n).toNat)
  case atStart => exact ⟨0, Nat.zero_le _, rfl, fun j h hj => by omega, HS⟩
  case round =>
    obtain ⟨i, hi, rfl, hA, hS⟩ := hrel
    clear HS
    by_cases hgo : ∃ h : i < l.length, isD l[i] = true
    · obtain ⟨hil, hd⟩ := hgo
      have hlt : i < s.size := by rw [← HL.out]; exact hil
      have dg : Hid (∀ W, Calls Tryz.prog 68 #[.int .u8 ((s[i]).toNat : Int)] W fun e w' => e = .returned (.bool true) ∧ w' = W) := fun W => DG.out s[i] true W (by rw [HG.out i hlt hil]; exact hd)
      have dn : ((s[i]).toNat : Int) = (l[i].toNat : Int) := by rw [HG.out i hlt hil]
      have db := isD_bd hd
      have hT : Hid (valF 0 (l.take (i + 1)) = valF 0 (l.take i) * 10 + ((l[i].toNat : Int) - 48)) := take_next l i hil
      have X0 : 0 ≤ valF 0 (l.take i) := valF_nonneg (by
        intro c hc
        obtain ⟨j, hj, rfl⟩ := List.getElem_of_mem hc
        simp only [List.length_take] at hj
        rw [List.getElem_take]
        exact hA.out j (by omega) (by omega))
      have hA' : Hid (∀ (j : Nat) (h : j < l.length), j < i + 1 → isD l[j] = true) := by
        intro j h hj
        by_cases e : j = i
        · subst e; exact hd
        · exact hA.out j h (by omega)
      rw [← dn] at db hT
      clear dn hd hA
      obtain ⟨c, hc⟩ : ∃ c, ((s[i]).toNat : Int) = c := ⟨_, rfl⟩
      obtain ⟨X, hX2⟩ : ∃ X, valF 0 (l.take i) = X := ⟨_, rfl⟩
      rw [hX2] at hS hT X0
      rw [hc] at db hT
      simp only [hc] at dg
      clear hX2
      obtain ⟨sR, sV, bl⟩ := hS.out
      obtain ⟨_, v1, v2, v3, v4⟩ := id sV
      have HSW : Hid (SM wr R' 0 0 ∧ SM wr V' (sH (sat X)) (sL (sat X)) ∧ Below R' w wr) := ⟨sR, sV, bl⟩
      clear sR sV bl hS
      obtain ⟨db1, db2⟩ := db
      go_wp2_with (go_at_call 68; refine (dg.out _).mono ?_; rintro e w' ⟨rfl, hw'⟩; subst w')
      have PS : Hid (∀ a W, 0 ≤ a → Calls Tryz.prog 31 #[.agg #[.int .i64 (sH (sat a)), .int .u64 (sL (sat a))], .agg #[.int .i64 (sH (sat X)), .int .u64 (sL (sat X))]] W fun e w' => e = .returned (.agg #[.int .i64 (sH (sat (a + X))), .int .u64 (sL (sat (a + X)))]) ∧ Below W.heap.size W w') := fun a W ha => plus_sat a X ha X0 W
      obtain ⟨W1, hW1⟩ : ∃ W1, W1 = wr.alloc (.cells #[.int .i64 (sH (sat X)), .int .u64 (sL (sat X))] 62) := ⟨_, rfl⟩
      rw [← hW1]
      obtain ⟨sR, sV, bl⟩ := HSW.out
      have zV := sV.1
      have zR := sR.1
      have HI : Hid (SM W1 R' 0 0 ∧ SM W1 V' (sH (sat (X * (0 + 1)))) (sL (sat (X * (0 + 1)))) ∧ SM W1 wr.heap.size (sH (sat X)) (sL (sat X)) ∧ Below R' w W1) := by
        rw [hW1, show X * (0 + 1) = X by omega]
        exact ⟨sR.alloc _, sV.alloc _, SM.new _ _ _ _ rfl, bl.alloc (Nat.le_of_lt zR) _⟩
      have xV : V' ≠ wr.heap.size := by omega
      have xR : R' ≠ wr.heap.size := by omega
      clear sR sV bl HSW hW1 v1 v2 v3 v4
      generalize wr.heap.size = Y' at *
      go_loopw [9] (fun n wq => ∃ k : Int, 0 ≤ k ∧ k ≤ 9 ∧ n = .int .i64 k ∧ Hid (SM wq R' 0 0 ∧ SM wq V' (sH (sat (X * (k + 1)))) (sL (sat (X * (k + 1)))) ∧ SM wq Y' (sH (sat X)) (sL (sat X)) ∧ Below R' w wq)) (fun n _ => (9 - intOf n).toNat)
      case atStart => exact ⟨0, by omega, by omega, rfl, HI⟩
      case round =>
        obtain ⟨k, k0, k1, rfl, hS⟩ := hrel
        clear HI
        by_cases hk : k < 9
        · obtain ⟨sR, sV, sY, bl⟩ := hS.out
          obtain ⟨_, v1, v2, v3, v4⟩ := id sV
          obtain ⟨_, q1, q2, _, _⟩ := id sY
          have Z0 : 0 ≤ X * (k + 1) := Int.mul_nonneg X0 (by omega)
          obtain ⟨Z, hZ⟩ : ∃ Z, X * (k + 1) = Z := ⟨_, rfl⟩
          have hZ2 : Hid (X * (k + 1 + 1) = Z + X) := by show _ = _; rw [← hZ, ten_step]
          rw [hZ] at v1 v2 Z0
          have P1 : Hid (∀ W, Calls Tryz.prog 31 #[.agg #[.int .i64 (sH (sat Z)), .int .u64 (sL (sat Z))], .agg #[.int .i64 (sH (sat X)), .int .u64 (sL (sat X))]] W fun e w' => e = .returned (.agg #[.int .i64 (sH (sat (Z + X))), .int .u64 (sL (sat (Z + X)))]) ∧ Below W.heap.size W w') := fun W => PS.out Z W Z0
          clear sR sV sY bl hZ
          go_wp2_with fail
          clear v1 v2 v3 v4 q1 q2
          refine (P1.out _).mono ?_
          rintro e w2 ⟨rfl, B2⟩
          obtain ⟨sR, sV, sY, bl⟩ := hS.out
          have sV1 := sV.keep B2 sV.1
          have sR1 := sR.keep B2 sR.1
          have sY1 := sY.keep B2 sY.1
          have bl1 := below_then' bl B2 (Nat.le_of_lt sR.1)
          obtain ⟨_, v1, v2, v3, v4⟩ := id sV1
          have HF : Hid (SM ((w2.setCell ⟨V', 0, none⟩ (.int .i64 (sH (sat (Z + X))))).setCell ⟨V', 1, none⟩ (.int .u64 (sL (sat (Z + X))))) R' 0 0 ∧ SM ((w2.setCell ⟨V', 0, none⟩ (.int .i64 (sH (sat (Z + X))))).setCell ⟨V', 1, none⟩ (.int .u64 (sL (sat (Z + X))))) V' (sH (sat (X * (k + 1 + 1)))) (sL (sat (X * (k + 1 + 1)))) ∧ SM ((w2.setCell ⟨V', 0, none⟩ (.int .i64 (sH (sat (Z + X))))).setCell ⟨V', 1, none⟩ (.int .u64 (sL (sat (Z + X))))) Y' (sH (sat X)) (sL (sat X)) ∧ Below R' w ((w2.setCell ⟨V', 0, none⟩ (.int .i64 (sH (sat (Z + X))))).setCell ⟨V', 1, none⟩ (.int .u64 (sL (sat (Z + X)))))) := by
            rw [hZ2.out]
            exact ⟨(sR1.far x1 _).far x1 _, sV1.set _ _, (sY1.far (Ne.symm xV) _).far (Ne.symm xV) _, below_set2 bl1 y1⟩
          clear sV sR sY bl sV1 sR1 sY1 bl1 B2 P1 hS
          go_wp2_with fail
          go_roundw
          case rel => exact ⟨k + 1, by omega, by omega, by go_num, HF⟩
          case measure => simp [intOf]; omega
        · have hk9 : k = 9 := by omega
          subst hk9
          obtain ⟨sR, sV, sY, bl⟩ := hS.out
          obtain ⟨_, v1, v2, v3, v4⟩ := id sV
          obtain ⟨Z, hZ⟩ : ∃ Z, X * (9 + 1) = Z := ⟨_, rfl⟩
          have Z0 : 0 ≤ Z := by omega
          rw [hZ] at v1 v2
          have HN : Hid (SM wr R' 0 0 ∧ SM wr V' (sH (sat Z)) (sL (sat Z)) ∧ Below R' w wr) := by rw [hZ] at sV; exact ⟨sR, sV, bl⟩
          have hT2 : Hid (valF 0 (l.take (i + 1)) = Z + (c - 48)) := by show _ = _; rw [hT.out]; omega
          have PD : Hid (∀ W, Calls Tryz.prog 31 #[.agg #[.int .i64 (sH (sat Z)), .int .u64 (sL (sat Z))], .agg #[.int .i64 0, .int .u64 (c - 48)]] W fun e w' => e = .returned (.agg #[.int .i64 (sH (sat (Z + (c - 48)))), .int .u64 (sL (sat (Z + (c - 48))))]) ∧ Below W.heap.size W w') := fun W => plus_dig Z (c - 48) Z0 (by omega) (by omega) W
          clear sR sV sY bl hS hZ hT
          have wu : IntKind.u8.wrap (c - 48) = c - 48 := by rw [IntKind.wrap_u8]; omega
          have wu6 : IntKind.u64.wrap (c - 48) = c - 48 := by rw [IntKind.wrap_u64]; omega
          have zR' : R' ≤ wr.drew.heap.size := Nat.le_of_lt HN.out.1.1
          have hF : Hid (∀ w2, Below wr.drew.heap.size wr.drew w2 → (SM w2 V' (sH (sat Z)) (sL (sat Z)) ∧ Hid (SM ((w2.setCell ⟨V', 0, none⟩ (.int .i64 (sH (sat (Z + (c - 48)))))).setCell ⟨V', 1, none⟩ (.int .u64 (sL (sat (Z + (c - 48)))))) R' 0 0 ∧ SM ((w2.setCell ⟨V', 0, none⟩ (.int .i64 (sH (sat (Z + (c - 48)))))).setCell ⟨V', 1, none⟩ (.int .u64 (sL (sat (Z + (c - 48)))))) V' (sH (sat (valF 0 (l.take (i + 1))))) (sL (sat (valF 0 (l.take (i + 1))))) ∧ Below R' w ((w2.setCell ⟨V', 0, none⟩ (.int .i64 (sH (sat (Z + (c - 48)))))).setCell ⟨V', 1, none⟩ (.int .u64 (sL (sat (Z + (c - 48))))))))) := by
            intro w2 B2
            obtain ⟨sR, sV, bl⟩ := HN.out
            have sVd : SM wr.drew V' (sH (sat Z)) (sL (sat Z)) := sV
            have sRd : SM wr.drew R' 0 0 := sR
            have sV1 := sVd.keep B2 sVd.1
            have sR1 := sRd.keep B2 sRd.1
            have bl1 := below_then' bl.drew B2 zR'
            refine ⟨sV1, ?_⟩
            show _ ∧ _ ∧ _
            rw [hT2.out]
            exact ⟨(sR1.far x1 _).far x1 _, sV1.set _ _, below_set2 bl1 y1⟩
          clear hT2
          have SS : Below R' w wr.drew := (HN.out.2.2).drew
          have v1' : wr.drew.cell? ⟨V', 0, none⟩ = some (.int .i64 (sH (sat Z))) := v1
          have v2' : wr.drew.cell? ⟨V', 1, none⟩ = some (.int .u64 (sL (sat Z))) := v2
          have sb0 : (0 : Int) ≤ (i : Int) := by omega
          have sb1 : (i : Int) < (s.size : Int) := by omega
          go_wp2_with fail
          refine wp_region_noPanic ?_
          refine wp_region_held_drew (S := fun _ => True) (by kernel_rfl) trivial (fun hHeld => ?_)
          refine wpAnyH_take (i := 1) (oi := _) (v := ?_) rfl (by kernel_rfl) (by kernel_rfl) (by kernel_rfl) (fun _ _ _ h => h) (Or.inl ⟨by rfl, ?_⟩) (by assumption) ?_
          rotate_left 1
          · (intro w0 hSw; (try dsimp only at hSw); go_simp; try with_reducible rfl)
          (try simp only [Act.put, List.setIfInBounds_toArray, List.set_cons_zero, List.set_cons_succ])
          refine wpAnyH_take (i := 2) (oi := _) (v := ?_) rfl (by kernel_rfl) (by kernel_rfl) (by kernel_rfl) (fun _ _ _ h => h) (Or.inl ⟨by rfl, ?_⟩) (by assumption) ?_
          rotate_left 1
          · (intro w0 hSw; (try dsimp only at hSw); go_simp; try with_reducible rfl)
          (try simp only [Act.put, List.setIfInBounds_toArray, List.set_cons_zero, List.set_cons_succ])
          refine wpAnyH_take (i := 3) (oi := _) (v := ?_) rfl (by kernel_rfl) (by kernel_rfl) (by kernel_rfl) (fun _ _ _ h => h) (Or.inl ⟨by rfl, ?_⟩) (by assumption) ?_
          rotate_left 1
          · (intro w0 hSw; (try dsimp only at hSw); go_simp; try with_reducible rfl)
          (try simp only [Act.put, List.setIfInBounds_toArray, List.set_cons_zero, List.set_cons_succ])
          refine wpAnyH_take (i := 4) (oi := _) (v := ?_) rfl (by kernel_rfl) (by kernel_rfl) (by kernel_rfl) (fun _ _ _ h => h) (Or.inl ⟨by rfl, ?_⟩) (by assumption) ?_
          rotate_left 1
          · (intro w0 hSw; (try dsimp only at hSw); go_simp; try with_reducible rfl)
          (try simp only [Act.put, List.setIfInBounds_toArray, List.set_cons_zero, List.set_cons_succ])
          refine wpAnyH_take (i := 5) (oi := _) (v := ?_) rfl (by kernel_rfl) (by kernel_rfl) (by kernel_rfl) (fun _ _ _ h => h) (Or.inl ⟨by rfl, ?_⟩) (by assumption) ?_
          rotate_left 1
          · (intro w0 hSw; (try dsimp only at hSw); go_simp; try with_reducible rfl)
          (try simp only [Act.put, List.setIfInBounds_toArray, List.set_cons_zero, List.set_cons_succ])
          refine wpAnyH_take (i := 6) (oi := _) (v := ?_) rfl (by kernel_rfl) (by kernel_rfl) (by kernel_rfl) (fun _ _ _ h => h) (Or.inl ⟨by rfl, ?_⟩) (by assumption) ?_
          rotate_left 1
          · (intro w0 hSw; (try dsimp only at hSw); go_simp; try with_reducible rfl)
          (try simp only [Act.put, List.setIfInBounds_toArray, List.set_cons_zero, List.set_cons_succ])
          refine wpAnyH_ready (rs := [0]) (by kernel_rfl) (by simp) ?_
          refine AllReadyH.cons (o := _) rfl (fun K hK => ?_) AllReadyH.nil
          go_simp
          try dsimp only
          refine hK _ _ trivial (fun hHeld => ?_)
          clear hK K
          (try simp only [Act.put, List.setIfInBounds_toArray, List.set_cons_zero, List.set_cons_succ])
          refine wpAnyH_ready (rs := [7]) (by kernel_rfl) (by simp) ?_
          refine AllReadyH.cons (o := _) rfl (fun K hK => ?_) AllReadyH.nil
          go_simp
          go_at_call 31
          refine (PD.out _).mono ?_
          rintro e w2 ⟨rfl, B2⟩
          obtain ⟨⟨_, g1, g2, g3, g4⟩, HF⟩ := hF.out _ B2
          try dsimp only
          refine hK _ _ trivial (fun hHeld => ?_)
          clear hK K
          (try simp only [Act.put, List.setIfInBounds_toArray, List.set_cons_zero, List.set_cons_succ])
          refine wpAnyH_ready (rs := [8]) (by kernel_rfl) (by simp) ?_
          refine AllReadyH.cons (o := _) rfl (fun K hK => ?_) AllReadyH.nil
          go_simp
          try dsimp only
          refine hK _ _ trivial (fun hHeld => ?_)
          clear hK K
          (try simp only [Act.put, List.setIfInBounds_toArray, List.set_cons_zero, List.set_cons_succ])
          refine wpAnyH_done (by kernel_rfl) ?_ _
          refine NoPanic.normal ?_
          go_wp2_with fail
          go_roundw
          case rel => exact ⟨i + 1, by omega, by go_num, hA', HF⟩
          case measure => simp [intOf]; omega
    · have hc : cnt l = i := cnt_of l i (by rw [HL.out]; exact hi) hA.out (fun h => by
        cases hb : isD l[i] with
        | false => rfl
        | true => exact absurd ⟨h, hb⟩ hgo)
      obtain ⟨sR, sV, bl⟩ := hS.out
      obtain ⟨_, v1, v2, _, _⟩ := id sV
      obtain ⟨_, r1, r2, r3, r4⟩ := id sR
      have HB : Hid (Below R' w wr) := bl
      have HR2 := HR.out
      rw [hc] at HR2
      have hpar : parU l = if i = 0 then -1 else unitP (l.drop i) := by unfold parU; rw [hc]
      obtain ⟨X, hX2⟩ : ∃ X, valF 0 (l.take i) = X := ⟨_, rfl⟩
      rw [hX2] at v1 v2 HR2
      clear sR sV bl hS hX2 hA HR
      by_cases hlt : i < s.size
      · have hil : i < l.length := by rw [HL.out]; exact hlt
        have hnd : isD l[i] = false := by
          cases hb : isD l[i] with
          | false => rfl
          | true => exact absurd ⟨hil, hb⟩ hgo
        have ea : s[i] = l[i] := HG.out i hlt hil
        have dg : Hid (∀ W, Calls Tryz.prog 68 #[.int .u8 ((s[i]).toNat : Int)] W fun e w' => e = .returned (.bool false) ∧ w' = W) := fun W => DG.out s[i] false W (by rw [ea]; exact hnd)
        have hdr : l.drop i = l[i] :: l.drop (i + 1) := List.drop_eq_getElem_cons hil
        have hT1 : Hid (unF (s.extract i (i + 1)) = un1 l[i]) := unF_one _ _ (by rw [← ex_list4, ← HLL.out, hdr]; rfl)
        have hT2 : Hid (∀ h : i + 1 < l.length, unF (s.extract i (i + 2)) = un2 l[i] l[i + 1]) := fun h => unF_two _ _ _ (by rw [← ex_list4, ← HLL.out, hdr, List.drop_eq_getElem_cons h]; rfl)
        have U1 : Hid (∀ W, Calls Tryz.prog 69 #[.string (s.extract i (i + 1))] W fun e w' => e = .returned (.int .i64 (un1 l[i])) ∧ w' = W) := fun W => by rw [← hT1.out]; exact HU.out _ W
        have U2 : Hid (∀ h : i + 1 < l.length, ∀ W, Calls Tryz.prog 69 #[.string (s.extract i (i + 2))] W fun e w' => e = .returned (.int .i64 (un2 l[i] l[i + 1])) ∧ w' = W) := fun h W => by rw [← hT2.out h]; exact HU.out _ W
        clear hT1 hT2 HU DG hgo hnd
        by_cases h0 : i = 0
        · rw [if_pos h0] at hpar
          rw [hpar] at HR2
          have HR3 : Hid (RES = .returned (.tuple #[.int .i64 0, .int .i64 0, .agg #[.int .i64 (sH (sat X)), .int .u64 (sL (sat X))], .bool false])) := HR2.symm
          clear HR2 hpar U1 U2 hdr ea
          subst h0
          go_wp2_with (go_at_call 68; refine (dg.out _).mono ?_; rintro e w' ⟨rfl, hw'⟩; subst w')
          go_region
          all_goals
            go_wp2_with fail
            simp [bodyPost, results, Tryz.results28, go_sem, r1, r2]
            exact ⟨HR3.out.symm, by rw [hX]; exact (below_set2 HB.out y0).drew⟩
        · have b0 : ((i : Int) == 0) = false := by simp [h0]
          rw [if_neg h0, hdr] at hpar
          have w2 : IntKind.i64.wrap ((i : Int) + 2) = (i : Int) + 2 := IntWalk.i64_in _ (by omega)
          have w1 : IntKind.i64.wrap ((i : Int) + 1) = (i : Int) + 1 := IntWalk.i64_in _ (by omega)
          have g1 : (i : Int) + 1 ≤ (s.size : Int) := by omega
          have zi : (0 : Int) ≤ (i : Int) := by omega
          by_cases h2 : i + 1 < l.length
          · have g2 : (i : Int) + 2 ≤ (s.size : Int) := by rw [HL.out] at h2; omega
            have U2' : Hid (∀ W, Calls Tryz.prog 69 #[.string (s.extract i (i + 2))] W fun e w' => e = .returned (.int .i64 (un2 l[i] l[i + 1])) ∧ w' = W) := U2.out h2
            have hd2 : l.drop (i + 1) = l[i + 1] :: l.drop (i + 1 + 1) := List.drop_eq_getElem_cons h2
            by_cases p2 : 0 < un2 l[i] l[i + 1]
            · obtain ⟨q1, q2, q3⟩ := unit_two l[i] l[i + 1] (l.drop (i + 1 + 1)) p2
              rw [← hd2, ← hpar] at q1 q2 q3
              rw [if_neg (by omega), if_neg (by omega), q2, q3, decide_eq_true q1] at HR2
              have HR3 : Hid (RES = .returned (.tuple #[.int .i64 (un2 l[i] l[i + 1]), .int .i64 ((i : Int) + 2), .agg #[.int .i64 (sH (sat X)), .int .u64 (sL (sat X))], .bool true])) := HR2.symm
              clear HR2 hpar q1 q2 q3 hd2 hdr U1 U2 ea
              generalize un2 l[i] l[i + 1] = u2 at *
              go_wp2_with (first | (go_at_call 68; refine (dg.out _).mono ?_; rintro e w' ⟨rfl, hw'⟩; subst w') | (go_at_call 69; refine (U2'.out _).mono ?_; rintro e w' ⟨rfl, hw'⟩; subst w'))
              go_region_with (go_at_call 69; refine (U2'.out _).mono ?_; rintro e w' ⟨rfl, hw'⟩; subst w')
              all_goals
                go_wp2_with fail
                simp [bodyPost, results, Tryz.results28, go_sem, r1, r2]
                exact ⟨HR3.out.symm, by rw [hX]; exact (below_set2 HB.out y0).drew⟩
            · have HN2 : ∀ b t, l.drop (i + 1) = b :: t → ¬ 0 < un2 l[i] b := fun b t hbt => by rw [hd2] at hbt; injection hbt with e1 e2; subst e1; exact p2
              by_cases p1 : 0 < un1 l[i]
              · obtain ⟨q1, q2, q3⟩ := unit_one l[i] (l.drop (i + 1)) HN2 p1
                rw [← hpar] at q1 q2 q3
                rw [if_neg (by omega), if_neg (by omega), q2, q3, decide_eq_true q1] at HR2
                have HR3 : Hid (RES = .returned (.tuple #[.int .i64 (un1 l[i]), .int .i64 ((i : Int) + 1), .agg #[.int .i64 (sH (sat X)), .int .u64 (sL (sat X))], .bool true])) := HR2.symm
                clear HR2 hpar q1 q2 q3 hdr U2 ea HN2
                clear hd2
                generalize un2 l[i] l[i + 1] = u2 at *
                generalize un1 l[i] = u1 at *
                go_wp2_with (first | (go_at_call 68; refine (dg.out _).mono ?_; rintro e w' ⟨rfl, hw'⟩; subst w') | (go_at_call 69; (first | (with_reducible refine Calls.mono (U2'.out _) ?_) | (with_reducible refine Calls.mono (U1.out _) ?_)); rintro e w' ⟨rfl, hw'⟩; subst w'))
                go_region_with (go_at_call 69; refine (U1.out _).mono ?_; rintro e w' ⟨rfl, hw'⟩; subst w')
                all_goals
                  go_wp2_with fail
                  simp [bodyPost, results, Tryz.results28, go_sem, r1, r2]
                  exact ⟨HR3.out.symm, by rw [hX]; exact (below_set2 HB.out y0).drew⟩
              · have q1 := unit_no l[i] (l.drop (i + 1)) HN2 p1
                rw [← hpar] at q1
                rw [q1] at HR2
                have HR3 : Hid (RES = .returned (.tuple #[.int .i64 0, .int .i64 0, .agg #[.int .i64 (sH (sat X)), .int .u64 (sL (sat X))], .bool false])) := HR2.symm
                clear HR2 hpar q1 hdr U2 ea HN2
                clear hd2
                generalize un2 l[i] l[i + 1] = u2 at *
                generalize un1 l[i] = u1 at *
                go_wp2_with (first | (go_at_call 68; refine (dg.out _).mono ?_; rintro e w' ⟨rfl, hw'⟩; subst w') | (go_at_call 69; (first | (with_reducible refine Calls.mono (U2'.out _) ?_) | (with_reducible refine Calls.mono (U1.out _) ?_)); rintro e w' ⟨rfl, hw'⟩; subst w'))
                go_region
                all_goals
                  go_wp2_with fail
                  simp [bodyPost, results, Tryz.results28, go_sem, r1, r2]
                  exact ⟨HR3.out.symm, by rw [hX]; exact (below_set2 HB.out y0).drew⟩
          · have g2 : ¬ (i : Int) + 2 ≤ (s.size : Int) := by rw [HL.out] at h2; omega
            have HN2 : ∀ b t, l.drop (i + 1) = b :: t → ¬ 0 < un2 l[i] b := fun b t hbt => by have := congrArg List.length hbt; simp only [List.length_drop, List.length_cons] at this; omega
            by_cases p1 : 0 < un1 l[i]
            · obtain ⟨q1, q2, q3⟩ := unit_one l[i] (l.drop (i + 1)) HN2 p1
              rw [← hpar] at q1 q2 q3
              rw [if_neg (by omega), if_neg (by omega), q2, q3, decide_eq_true q1] at HR2
              have HR3 : Hid (RES = .returned (.tuple #[.int .i64 (un1 l[i]), .int .i64 ((i : Int) + 1), .agg #[.int .i64 (sH (sat X)), .int .u64 (sL (sat X))], .bool true])) := HR2.symm
              clear HR2 hpar q1 q2 q3 hdr U2 ea HN2
              generalize un1 l[i] = u1 at *
              go_wp2_with (first | (go_at_call 68; refine (dg.out _).mono ?_; rintro e w' ⟨rfl, hw'⟩; subst w') | (go_at_call 69; refine (U1.out _).mono ?_; rintro e w' ⟨rfl, hw'⟩; subst w'))
              go_region_with (go_at_call 69; refine (U1.out _).mono ?_; rintro e w' ⟨rfl, hw'⟩; subst w')
              all_goals
                go_wp2_with fail
                simp [bodyPost, results, Tryz.results28, go_sem, r1, r2]
                exact ⟨HR3.out.symm, by rw [hX]; exact (below_set2 HB.out y0).drew⟩
            · have q1 := unit_no l[i] (l.drop (i + 1)) HN2 p1
              rw [← hpar] at q1
              rw [q1] at HR2
              have HR3 : Hid (RES = .returned (.tuple #[.int .i64 0, .int .i64 0, .agg #[.int .i64 (sH (sat X)), .int .u64 (sL (sat X))], .bool false])) := HR2.symm
              clear HR2 hpar q1 hdr U2 ea HN2
              generalize un1 l[i] = u1 at *
              go_wp2_with (first | (go_at_call 68; refine (dg.out _).mono ?_; rintro e w' ⟨rfl, hw'⟩; subst w') | (go_at_call 69; refine (U1.out _).mono ?_; rintro e w' ⟨rfl, hw'⟩; subst w'))
              go_region
              all_goals
                go_wp2_with fail
                simp [bodyPost, results, Tryz.results28, go_sem, r1, r2]
                exact ⟨HR3.out.symm, by rw [hX]; exact (below_set2 HB.out y0).drew⟩
      · have e0 : l.drop i = [] := List.drop_eq_nil_of_le (by rw [HL.out]; omega)
        have hp : parU l = -1 := by rw [hpar, e0]; split <;> rfl
        rw [hp] at HR2
        have HR3 : Hid (RES = .returned (.tuple #[.int .i64 0, .int .i64 0, .agg #[.int .i64 (sH (sat X)), .int .u64 (sL (sat X))], .bool false])) := HR2.symm
        clear HR2 hp hpar e0 HU DG hgo
        have g2 : ¬ (i : Int) + 2 ≤ (s.size : Int) := by omega
        have g1 : ¬ (i : Int) + 1 ≤ (s.size : Int) := by omega
        have w2 : IntKind.i64.wrap ((i : Int) + 2) = (i : Int) + 2 := IntWalk.i64_in _ (by omega)
        have w1 : IntKind.i64.wrap ((i : Int) + 1) = (i : Int) + 1 := IntWalk.i64_in _ (by omega)
        by_cases h0 : i = 0
        · subst h0
          go_wp2_with fail
          go_region
          all_goals
            go_wp2_with fail
            simp [bodyPost, results, Tryz.results28, go_sem, r1, r2]
            exact ⟨HR3.out.symm, by rw [hX]; exact (below_set2 HB.out y0).drew⟩
        · have b0 : ((i : Int) == 0) = false := by simp [h0]
          go_wp2_with fail
          go_region
          all_goals
            go_wp2_with fail
            simp [bodyPost, results, Tryz.results28, go_sem, r1, r2]
            exact ⟨HR3.out.symm, by rw [hX]; exact (below_set2 HB.out y0).drew⟩
end Go.Proofs.YtipahdplkmmofaaGreatDoor
