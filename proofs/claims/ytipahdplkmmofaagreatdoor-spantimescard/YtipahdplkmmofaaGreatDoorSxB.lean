
import Derived.Test.YtipahdplkmmofaaGreatDoorSxA
import Derived.Test.YtipahdplkmmofaaGreatDoorSpN
import Derived.Test.YtipahdplkmmofaaGreatDoorSqT
import Derived.Test.YtipahdplkmmofaaGreatDoorSpR
import Derived.BigQuiet
namespace Go.Proofs.YtipahdplkmmofaaGreatDoor
open Go.RowKit
set_option linter.unusedVariables false
set_option linter.unusedSimpArgs false
/-- an error of the document's in memory. -/
def B5 (W : World) (N : Nat) (c a i : Int) (p q : Bool) : Prop := N < W.heap.size ∧ (W.cell? ⟨N, 0, none⟩ = some (.int .i64 c) ∧ W.cell? ⟨N, 1, none⟩ = some (.int .i64 a) ∧ W.cell? ⟨N, 2, none⟩ = some (.int .i64 i) ∧ W.cell? ⟨N, 3, none⟩ = some (.bool p) ∧ W.cell? ⟨N, 4, none⟩ = some (.bool q)) ∧ (W.frozen? ⟨N, 0, none⟩ = false ∧ W.frozen? ⟨N, 1, none⟩ = false ∧ W.frozen? ⟨N, 2, none⟩ = false ∧ W.frozen? ⟨N, 3, none⟩ = false ∧ W.frozen? ⟨N, 4, none⟩ = false)
theorem B5.new (w : World) (c a i : Int) (p q : Bool) (N : Nat) (hN : N = w.heap.size) : B5 (w.alloc (.cells #[.int .i64 c, .int .i64 a, .int .i64 i, .bool p, .bool q] 29)) N c a i p q := by
  subst hN
  refine ⟨by simp, ⟨by simp [go_sem], by simp [go_sem], by simp [go_sem], by simp [go_sem], by simp [go_sem]⟩, by simp [go_sem], by simp [go_sem], by simp [go_sem], by simp [go_sem], by simp [go_sem]⟩
theorem B5.keep {W W' : World} {N B : Nat} {c a i : Int} {p q : Bool} (h : B5 W N c a i p q) (hb : Below B W W') (hB : N < B) : B5 W' N c a i p q := by
  obtain ⟨h0, ⟨h1, h2, h3, h4, h5⟩, f1, f2, f3, f4, f5⟩ := h
  refine ⟨Nat.lt_of_lt_of_le h0 hb.size, ⟨?_, ?_, ?_, ?_, ?_⟩, ?_, ?_, ?_, ?_, ?_⟩
  · rw [hb.cell (p := ⟨N, 0, none⟩) hB]; exact h1
  · rw [hb.cell (p := ⟨N, 1, none⟩) hB]; exact h2
  · rw [hb.cell (p := ⟨N, 2, none⟩) hB]; exact h3
  · rw [hb.cell (p := ⟨N, 3, none⟩) hB]; exact h4
  · rw [hb.cell (p := ⟨N, 4, none⟩) hB]; exact h5
  · rw [hb.frozen (p := ⟨N, 0, none⟩) hB]; exact f1
  · rw [hb.frozen (p := ⟨N, 1, none⟩) hB]; exact f2
  · rw [hb.frozen (p := ⟨N, 2, none⟩) hB]; exact f3
  · rw [hb.frozen (p := ⟨N, 3, none⟩) hB]; exact f4
  · rw [hb.frozen (p := ⟨N, 4, none⟩) hB]; exact f5
theorem B5.alloc {W : World} {N : Nat} {c a i : Int} {p q : Bool} (h : B5 W N c a i p q) (o : Obj) : B5 (W.alloc o) N c a i p q := h.keep (below_new (Below.refl _ _) o) h.1
theorem B5.set {W : World} {N : Nat} {c a i : Int} {p q : Bool} (h : B5 W N c a i p q) (c' a' i' : Int) (p' q' : Bool) : B5 (((((W.setCell ⟨N, 0, none⟩ (.int .i64 c')).setCell ⟨N, 1, none⟩ (.int .i64 a')).setCell ⟨N, 2, none⟩ (.int .i64 i')).setCell ⟨N, 3, none⟩ (.bool p')).setCell ⟨N, 4, none⟩ (.bool q')) N c' a' i' p' q' := by
  obtain ⟨h0, ⟨h1, h2, h3, h4, h5⟩, f1, f2, f3, f4, f5⟩ := h
  refine ⟨by simpa using h0, ⟨by simp [go_sem, h1], by simp [go_sem, h2], by simp [go_sem, h3], by simp [go_sem, h4], by simp [go_sem, h5]⟩, by simp [go_sem, f1], by simp [go_sem, f2], by simp [go_sem, f3], by simp [go_sem, f4], by simp [go_sem, f5]⟩
theorem B5.far {W : World} {N M j : Nat} {c a i : Int} {p q : Bool} (h : B5 W N c a i p q) (hM : N ≠ M) (v : Value) : B5 (W.setCell ⟨M, j, none⟩ v) N c a i p q := by
  obtain ⟨h0, ⟨h1, h2, h3, h4, h5⟩, f1, f2, f3, f4, f5⟩ := h
  have ne : ∀ k : Nat, ¬ ((⟨M, j, none⟩ : Addr) = ⟨N, k, none⟩) := fun k e => by injection e with e1 e2; exact hM e1.symm
  refine ⟨by simpa using h0, ⟨?_, ?_, ?_, ?_, ?_⟩, ?_, ?_, ?_, ?_, ?_⟩
  · rw [World.cell?_setCell_other _ _ _ _ (ne 0)]; exact h1
  · rw [World.cell?_setCell_other _ _ _ _ (ne 1)]; exact h2
  · rw [World.cell?_setCell_other _ _ _ _ (ne 2)]; exact h3
  · rw [World.cell?_setCell_other _ _ _ _ (ne 3)]; exact h4
  · rw [World.cell?_setCell_other _ _ _ _ (ne 4)]; exact h5
  · simp [go_sem, f1]
  · simp [go_sem, f2]
  · simp [go_sem, f3]
  · simp [go_sem, f4]
  · simp [go_sem, f5]
theorem part4_at (s : ByteArray) (hs : s.size ≤ 281474976710656) (k d : Nat) (u V : Int) (hd : cnt (s.data.toList.drop k) = d) (hu : parU (s.data.toList.drop k) = u) (hV : valF 0 ((s.data.toList.drop k).take d) = V) (W : World) : Calls Tryz.prog 28 #[.string (s.extract k s.size)] W fun e w' => e = .returned (.tuple #[.int .i64 (if u < 0 then 0 else usz u), .int .i64 (if u < 0 then 0 else ((d + unl u : Nat) : Int)), .agg #[.int .i64 (sH (sat V)), .int .u64 (sL (sat V))], .bool (decide (0 ≤ u))]) ∧ Below W.heap.size W w' := by
  have H := part4_any (s.extract k s.size) (by rw [ex_size]; omega) W
  rw [ex_list, hd, hu, hV] at H; exact H
theorem times_at (V z : Int) (V0 : 0 ≤ V) (z0 : 1 ≤ z) (z1 : z ≤ 604800000000000) (W : World) : Calls Tryz.prog 32 #[.agg #[.int .i64 (sH (sat V)), .int .u64 (sL (sat V))], .int .i64 z] W fun e w' => e = .returned (.agg #[.int .i64 (sH (sat (V * z))), .int .u64 (sL (sat (V * z)))]) ∧ Below W.heap.size W w' := times_any V z V0 (by omega) z1 W
theorem unl_bd (u : Int) : 1 ≤ unl u ∧ unl u ≤ 2 := by unfold unl; split <;> omega
set_option maxRecDepth 100000 in
set_option maxHeartbeats 8000000 in
theorem rscan_any (s : ByteArray) (hs : s.size ≤ 281474976710656) (v0 : Int) (k0 : Nat) (hR0 : rdAll s.data.toList = (v0, k0)) (w : World) :
    Calls Tryz.prog 11 #[.string s] w fun e w' => e = .returned (.tuple #[.int .i64 (if scE s.data.toList = 0 then v0 else 0), .int .i64 (if scE s.data.toList = 0 then (k0 : Int) else 0), .agg #[.int .i64 (scE s.data.toList), .int .i64 0, .int .i64 0, .bool false, .bool false]]) ∧ Below w.heap.size w w' := by
  have HL : Hid (s.data.toList.length = s.size) := sz_list s
  have eE : scE s.data.toList = if k0 = 0 then 40 else if v0 < 9223372036854775808 then 0 else 20 := by unfold scE; rw [hR0]
  obtain ⟨RES, hRES⟩ : ∃ R, Ending.returned (.tuple #[.int .i64 (if scE s.data.toList = 0 then v0 else 0), .int .i64 (if scE s.data.toList = 0 then (k0 : Int) else 0), .agg #[.int .i64 (scE s.data.toList), .int .i64 0, .int .i64 0, .bool false, .bool false]]) = R := ⟨_, rfl⟩
  rw [hRES]
  rw [eE] at hRES
  have HR : Hid (Ending.returned (.tuple #[.int .i64 (if (if k0 = 0 then 40 else if v0 < 9223372036854775808 then 0 else 20) = (0 : Int) then v0 else 0), .int .i64 (if (if k0 = 0 then 40 else if v0 < 9223372036854775808 then 0 else 20) = (0 : Int) then (k0 : Int) else 0), .agg #[.int .i64 (if k0 = 0 then 40 else if v0 < 9223372036854775808 then 0 else 20), .int .i64 0, .int .i64 0, .bool false, .bool false]]) = RES) := hRES
  have HR0 : Hid (rdAll s.data.toList = (v0, k0)) := hR0
  clear hRES eE hR0
  obtain ⟨W0, hW0⟩ : ∃ W, W = (w.alloc (.cells #[.int .i64 0, .int .i64 0, .int .i64 0, .bool false, .bool false] 29)).alloc (.cells #[.int .i64 0, .int .u64 0] 62) := ⟨_, rfl⟩
  have z0 : sH (sat 0) = 0 ∧ sL (sat 0) = 0 := by decide
  have HS : Hid (B5 W0 w.heap.size 0 0 0 false false ∧ SM W0 (w.heap.size + 1) (sH (sat 0)) (sL (sat 0)) ∧ Below w.heap.size w W0) := by
    rw [hW0, z0.1, z0.2]
    exact ⟨(B5.new _ _ _ _ _ _ _ rfl).alloc _, SM.new _ _ _ _ (by simp), below_new (below_new (Below.refl _ _) _) _⟩
  have HW : Hid (W0 = (w.alloc (.cells #[.int .i64 0, .int .i64 0, .int .i64 0, .bool false, .bool false] 29)).alloc (.cells #[.int .i64 0, .int .u64 0] 62)) := hW0
  clear hW0 z0
  go_enter Tryz.func11, Tryz.ntmps11
  go_wp2
  rw [← HW.out]
  clear HW
  have x1 : w.heap.size ≠ w.heap.size + 1 := by omega
  have y1 : w.heap.size ≤ w.heap.size + 1 := by omega
  have y0 : w.heap.size ≤ w.heap.size := by omega
  generalize w.heap.size + 1 = S' at *
  generalize hX : w.heap.size = R' at *
  go_loopw [5, 7] (fun i la wr => ∃ (last v : Int) (k f : Nat), -1 ≤ last ∧ last ≤ 7 ∧ 8 ≤ (f : Int) + last ∧ 0 ≤ v ∧ k ≤ s.size ∧ Hid (rd f (s.data.toList.drop k) last v k = rdAll s.data.toList) ∧ i = .int .i64 k ∧ la = .int .i64 (lsz last) ∧ Hid (B5 wr R' 0 0 0 false false ∧ SM wr S' (sH (sat v)) (sL (sat v)) ∧ Below R' w wr)) (fun i _ _ => s.size - (intOf i).toNat)
  case atStart => exact ⟨-1, 0, 0, 9, by omega, by omega, by omega, by omega, by omega, rfl, rfl, rfl, HS⟩
  case round =>
    obtain ⟨last, v, k, f, l1, l2, hf, v0', hk, hR, rfl, rfl, hM⟩ := hrel
    clear HS
    obtain ⟨d, hd⟩ : ∃ d, cnt (s.data.toList.drop k) = d := ⟨_, rfl⟩
    obtain ⟨u, hu⟩ : ∃ u, parU (s.data.toList.drop k) = u := ⟨_, rfl⟩
    obtain ⟨V, hV⟩ : ∃ V, valF 0 ((s.data.toList.drop k).take d) = V := ⟨_, rfl⟩
    have V0 : 0 ≤ V := by rw [← hV, ← hd]; exact valF_nonneg (allD_cnt _)
    have ub := parU_bd (s.data.toList.drop k)
    rw [hu] at ub
    obtain ⟨ub1, ub2⟩ := ub
    have P := fun W => part4_at s hs k d u V hd hu hV W
    have kb : ¬ (s.size : Int) < k := by omega
    by_cases hle : u ≤ last
    · have HE : rdAll s.data.toList = (v, k) := by
        rw [← hR.out]; exact rd_end hf l2 (by rw [hu]; exact hle)
      rw [HR0.out] at HE
      injection HE with e1 e2
      subst e1 e2
      clear hR hd hu hV HR0
      have hex : Hid (∀ wp, Below wr.heap.size wr wp → B5 (wp.alloc (.cells #[.int .i64 (sH (sat V)), .int .u64 (sL (sat V))] 62)) R' 0 0 0 false false ∧ SM (wp.alloc (.cells #[.int .i64 (sH (sat V)), .int .u64 (sL (sat V))] 62)) S' (sH (sat v0)) (sL (sat v0)) ∧ Below R' w (wp.alloc (.cells #[.int .i64 (sH (sat V)), .int .u64 (sL (sat V))] 62))) := by
        intro wp hb
        obtain ⟨a1, a2, a3⟩ := hM.out
        have b3 := below_then' a3 hb (Nat.le_of_lt a1.1)
        have a4 := a1.keep hb a1.1
        exact ⟨a4.alloc _, (a2.keep hb a2.1).alloc _, b3.alloc (Nat.le_of_lt a4.1) _⟩
      clear hM
      have PX : Hid (∃ (u1 u2 : Int) (ok : Bool), (ok = true → lsz last ≤ u1) ∧ ∀ W, Calls Tryz.prog 28 #[.string (s.extract k0 s.size)] W fun e w' => e = .returned (.tuple #[.int .i64 u1, .int .i64 u2, .agg #[.int .i64 (sH (sat V)), .int .u64 (sL (sat V))], .bool ok]) ∧ Below W.heap.size W w') := by
        refine ⟨_, _, _, ?_, P⟩
        intro ho
        have h0 : 0 ≤ u := of_decide_eq_true ho
        rw [if_neg (by omega)]
        exact (lsz_le h0 ub2 l1 l2).2 hle
      obtain ⟨u1, u2, ok, hok, PP⟩ := PX.out
      clear PX P ub1 ub2 hle
      have HP : Hid (∀ W, Calls Tryz.prog 28 #[.string (s.extract k0 s.size)] W fun e w' => e = .returned (.tuple #[.int .i64 u1, .int .i64 u2, .agg #[.int .i64 (sH (sat V)), .int .u64 (sL (sat V))], .bool ok]) ∧ Below W.heap.size W w') := PP
      clear PP
      generalize lsz last = lz at *
      by_cases hk0 : k0 = 0
      · have HR3 : Hid (RES = .returned (.tuple #[.int .i64 0, .int .i64 0, .agg #[.int .i64 40, .int .i64 0, .int .i64 0, .bool false, .bool false]])) := by
          show _ = _
          rw [← HR.out, if_pos hk0]; rfl
        have kz : ((k0 : Int) == 0) = true := by simp [hk0]
        clear HR hk0
        cases ok with
        | false =>
          go_wp2_with fail
          refine (HP.out _).mono ?_
          rintro e wp ⟨rfl, Bp⟩
          obtain ⟨c1, c2, c3⟩ := hex.out wp Bp
          have C1 : Hid (B5 (wp.alloc (.cells #[.int .i64 (sH (sat V)), .int .u64 (sL (sat V))] 62)) R' 0 0 0 false false) := c1
          have C3 : Hid (Below R' w (wp.alloc (.cells #[.int .i64 (sH (sat V)), .int .u64 (sL (sat V))] 62))) := c3
          clear c1 c2 c3 Bp
          go_wp2_with fail
          generalize wp.alloc (.cells #[.int .i64 (sH (sat V)), .int .u64 (sL (sat V))] 62) = wq at *
          refine (rnew_any 40 _).mono ?_
          rintro e wn ⟨rfl, Bn⟩
          have D3 := below_then' C3.out Bn (Nat.le_of_lt C1.out.1)
          obtain ⟨_, ⟨t1, t2, t3, t4, t5⟩, f1, f2, f3, f4, f5⟩ := C1.out.keep Bn C1.out.1
          clear Bn
          go_wp2_with fail
          simp [bodyPost, results, Tryz.results11, go_sem, t1, t2, t3, t4, t5]
          exact ⟨HR3.out.symm, by rw [hX]; exact setBad D3 y0⟩
        | true =>
          have hge : lz ≤ u1 := hok rfl
          go_wp2_with fail
          refine (HP.out _).mono ?_
          rintro e wp ⟨rfl, Bp⟩
          obtain ⟨c1, c2, c3⟩ := hex.out wp Bp
          have C1 : Hid (B5 (wp.alloc (.cells #[.int .i64 (sH (sat V)), .int .u64 (sL (sat V))] 62)) R' 0 0 0 false false) := c1
          have C3 : Hid (Below R' w (wp.alloc (.cells #[.int .i64 (sH (sat V)), .int .u64 (sL (sat V))] 62))) := c3
          clear c1 c2 c3 Bp
          go_wp2_with fail
          generalize wp.alloc (.cells #[.int .i64 (sH (sat V)), .int .u64 (sL (sat V))] 62) = wq at *
          refine (rnew_any 40 _).mono ?_
          rintro e wn ⟨rfl, Bn⟩
          have D3 := below_then' C3.out Bn (Nat.le_of_lt C1.out.1)
          obtain ⟨_, ⟨t1, t2, t3, t4, t5⟩, f1, f2, f3, f4, f5⟩ := C1.out.keep Bn C1.out.1
          clear Bn
          go_wp2_with fail
          simp [bodyPost, results, Tryz.results11, go_sem, t1, t2, t3, t4, t5]
          exact ⟨HR3.out.symm, by rw [hX]; exact setBad D3 y0⟩
      · have kz : ((k0 : Int) == 0) = false := by simp [hk0]
        have Hk0 : Hid (¬ k0 = 0) := hk0
        clear hk0
        have SMR : Hid (∀ W, Calls Tryz.prog 33 #[.agg #[.int .i64 (sH (sat v0)), .int .u64 (sL (sat v0))]] W fun e w' => e = .returned (.tuple #[.int .i64 (sm0 (sat v0)), smB (sat v0)]) ∧ Below W.heap.size W w') := fun W => by
          have H := rsmall_any (sH (sat v0)) (sL (sat v0)) (I64_sH _ (by have := sat_bd v0'; have h9 := MU_val; unfold S128; omega)) (U64_sL _) W
          rw [sv_H_L] at H; exact H
        by_cases hv : v0 < 9223372036854775808
        · have ev : sat v0 = v0 := sat_val hv
          have iv : I64 v0 := ⟨by omega, hv⟩
          have SMR2 : Hid (∀ W, Calls Tryz.prog 33 #[.agg #[.int .i64 (sH (sat v0)), .int .u64 (sL (sat v0))]] W fun e w' => e = .returned (.tuple #[.int .i64 v0, .agg #[.int .i64 0, .int .i64 0, .int .i64 0, .bool false, .bool false]]) ∧ Below W.heap.size W w') := fun W => by
            have H := SMR.out W
            rw [show sm0 (sat v0) = v0 by rw [ev, sm0_yes iv], show smB (sat v0) = bad0 by rw [ev]; exact if_pos iv] at H; exact H
          have HR3 : Hid (RES = .returned (.tuple #[.int .i64 v0, .int .i64 (k0 : Int), .agg #[.int .i64 0, .int .i64 0, .int .i64 0, .bool false, .bool false]])) := by
            show _ = _
            rw [← HR.out, if_neg Hk0.out, if_pos hv]; rfl
          clear HR SMR ev iv
          cases ok with
          | false =>
            go_wp2_with fail
            refine (HP.out _).mono ?_
            rintro e wp ⟨rfl, Bp⟩
            obtain ⟨c1, c2, c3⟩ := hex.out wp Bp
            have C1 : Hid (B5 (wp.alloc (.cells #[.int .i64 (sH (sat V)), .int .u64 (sL (sat V))] 62)) R' 0 0 0 false false) := c1
            have C3 : Hid (Below R' w (wp.alloc (.cells #[.int .i64 (sH (sat V)), .int .u64 (sL (sat V))] 62))) := c3
            obtain ⟨_, s1, s2, _, _⟩ := id c2
            clear c1 c2 c3 Bp
            go_wp2_with fail
            generalize wp.alloc (.cells #[.int .i64 (sH (sat V)), .int .u64 (sL (sat V))] 62) = wq at *
            refine (SMR2.out _).mono ?_
            rintro e wn ⟨rfl, Bn⟩
            have D3 := below_then' C3.out Bn (Nat.le_of_lt C1.out.1)
            have C5 := C1.out.keep Bn C1.out.1
            obtain ⟨zr, ⟨t1, t2, t3, t4, t5⟩, f1, f2, f3, f4, f5⟩ := id C5
            have T := (C5.set 0 0 0 false false).alloc (.cells #[.int .i64 0, .int .i64 0, .int .i64 0, .bool false, .bool false] 29)
            have D4 := (setBad (v0 := .int .i64 0) (v1 := .int .i64 0) (v2 := .int .i64 0) (v3 := .bool false) (v4 := .bool false) D3 y0).alloc (Nat.le_of_lt (C5.set 0 0 0 false false).1) (.cells #[.int .i64 0, .int .i64 0, .int .i64 0, .bool false, .bool false] 29)
            obtain ⟨WZ, hWZ⟩ : ∃ WZ, (((((wn.setCell ⟨R', 0, none⟩ (.int .i64 0)).setCell ⟨R', 1, none⟩ (.int .i64 0)).setCell ⟨R', 2, none⟩ (.int .i64 0)).setCell ⟨R', 3, none⟩ (.bool false)).setCell ⟨R', 4, none⟩ (.bool false)).alloc (.cells #[.int .i64 0, .int .i64 0, .int .i64 0, .bool false, .bool false] 29) = WZ := ⟨_, rfl⟩
            rw [hWZ] at T D4
            have HZ : Hid ((((((wn.setCell ⟨R', 0, none⟩ (.int .i64 0)).setCell ⟨R', 1, none⟩ (.int .i64 0)).setCell ⟨R', 2, none⟩ (.int .i64 0)).setCell ⟨R', 3, none⟩ (.bool false)).setCell ⟨R', 4, none⟩ (.bool false)).alloc (.cells #[.int .i64 0, .int .i64 0, .int .i64 0, .bool false, .bool false] 29) = WZ) := hWZ
            obtain ⟨_, ⟨t1', t2', t3', t4', t5'⟩, _⟩ := T
            clear Bn C5 s1 s2 D3 hWZ
            go_wp2_with fail
            rw [HZ.out]
            simp [bodyPost, results, Tryz.results11, go_sem, t1', t2', t3', t4', t5']
            exact ⟨HR3.out.symm, by rw [hX]; exact D4⟩
          | true =>
            have hge : lz ≤ u1 := hok rfl
            go_wp2_with fail
            refine (HP.out _).mono ?_
            rintro e wp ⟨rfl, Bp⟩
            obtain ⟨c1, c2, c3⟩ := hex.out wp Bp
            have C1 : Hid (B5 (wp.alloc (.cells #[.int .i64 (sH (sat V)), .int .u64 (sL (sat V))] 62)) R' 0 0 0 false false) := c1
            have C3 : Hid (Below R' w (wp.alloc (.cells #[.int .i64 (sH (sat V)), .int .u64 (sL (sat V))] 62))) := c3
            obtain ⟨_, s1, s2, _, _⟩ := id c2
            clear c1 c2 c3 Bp
            go_wp2_with fail
            generalize wp.alloc (.cells #[.int .i64 (sH (sat V)), .int .u64 (sL (sat V))] 62) = wq at *
            refine (SMR2.out _).mono ?_
            rintro e wn ⟨rfl, Bn⟩
            have D3 := below_then' C3.out Bn (Nat.le_of_lt C1.out.1)
            have C5 := C1.out.keep Bn C1.out.1
            obtain ⟨zr, ⟨t1, t2, t3, t4, t5⟩, f1, f2, f3, f4, f5⟩ := id C5
            have T := (C5.set 0 0 0 false false).alloc (.cells #[.int .i64 0, .int .i64 0, .int .i64 0, .bool false, .bool false] 29)
            have D4 := (setBad (v0 := .int .i64 0) (v1 := .int .i64 0) (v2 := .int .i64 0) (v3 := .bool false) (v4 := .bool false) D3 y0).alloc (Nat.le_of_lt (C5.set 0 0 0 false false).1) (.cells #[.int .i64 0, .int .i64 0, .int .i64 0, .bool false, .bool false] 29)
            obtain ⟨WZ, hWZ⟩ : ∃ WZ, (((((wn.setCell ⟨R', 0, none⟩ (.int .i64 0)).setCell ⟨R', 1, none⟩ (.int .i64 0)).setCell ⟨R', 2, none⟩ (.int .i64 0)).setCell ⟨R', 3, none⟩ (.bool false)).setCell ⟨R', 4, none⟩ (.bool false)).alloc (.cells #[.int .i64 0, .int .i64 0, .int .i64 0, .bool false, .bool false] 29) = WZ := ⟨_, rfl⟩
            rw [hWZ] at T D4
            have HZ : Hid ((((((wn.setCell ⟨R', 0, none⟩ (.int .i64 0)).setCell ⟨R', 1, none⟩ (.int .i64 0)).setCell ⟨R', 2, none⟩ (.int .i64 0)).setCell ⟨R', 3, none⟩ (.bool false)).setCell ⟨R', 4, none⟩ (.bool false)).alloc (.cells #[.int .i64 0, .int .i64 0, .int .i64 0, .bool false, .bool false] 29) = WZ) := hWZ
            obtain ⟨_, ⟨t1', t2', t3', t4', t5'⟩, _⟩ := T
            clear Bn C5 s1 s2 D3 hWZ
            go_wp2_with fail
            rw [HZ.out]
            simp [bodyPost, results, Tryz.results11, go_sem, t1', t2', t3', t4', t5']
            exact ⟨HR3.out.symm, by rw [hX]; exact D4⟩
        · have hnv : ¬ I64 (sat v0) := fun h => hv ((sat_small v0').1 h.2)
          have SMR2 : Hid (∀ W, Calls Tryz.prog 33 #[.agg #[.int .i64 (sH (sat v0)), .int .u64 (sL (sat v0))]] W fun e w' => e = .returned (.tuple #[.int .i64 0, .agg #[.int .i64 20, .int .i64 0, .int .i64 0, .bool false, .bool false]]) ∧ Below W.heap.size W w') := fun W => by
            have H := SMR.out W
            rw [sm0_no hnv, show smB (sat v0) = badN 20 from if_neg hnv] at H; exact H
          have HR3 : Hid (RES = .returned (.tuple #[.int .i64 0, .int .i64 0, .agg #[.int .i64 20, .int .i64 0, .int .i64 0, .bool false, .bool false]])) := by
            show _ = _
            rw [← HR.out, if_neg Hk0.out, if_neg hv]; rfl
          clear HR SMR hnv
          cases ok with
          | false =>
            go_wp2_with fail
            refine (HP.out _).mono ?_
            rintro e wp ⟨rfl, Bp⟩
            obtain ⟨c1, c2, c3⟩ := hex.out wp Bp
            have C1 : Hid (B5 (wp.alloc (.cells #[.int .i64 (sH (sat V)), .int .u64 (sL (sat V))] 62)) R' 0 0 0 false false) := c1
            have C3 : Hid (Below R' w (wp.alloc (.cells #[.int .i64 (sH (sat V)), .int .u64 (sL (sat V))] 62))) := c3
            obtain ⟨_, s1, s2, _, _⟩ := id c2
            clear c1 c2 c3 Bp
            go_wp2_with fail
            generalize wp.alloc (.cells #[.int .i64 (sH (sat V)), .int .u64 (sL (sat V))] 62) = wq at *
            refine (SMR2.out _).mono ?_
            rintro e wn ⟨rfl, Bn⟩
            have D3 := below_then' C3.out Bn (Nat.le_of_lt C1.out.1)
            have C5 := C1.out.keep Bn C1.out.1
            obtain ⟨zr, ⟨t1, t2, t3, t4, t5⟩, f1, f2, f3, f4, f5⟩ := id C5
            have T := (C5.set 20 0 0 false false).alloc (.cells #[.int .i64 20, .int .i64 0, .int .i64 0, .bool false, .bool false] 29)
            have D4 := (setBad (v0 := .int .i64 20) (v1 := .int .i64 0) (v2 := .int .i64 0) (v3 := .bool false) (v4 := .bool false) D3 y0).alloc (Nat.le_of_lt (C5.set 20 0 0 false false).1) (.cells #[.int .i64 20, .int .i64 0, .int .i64 0, .bool false, .bool false] 29)
            obtain ⟨WZ, hWZ⟩ : ∃ WZ, (((((wn.setCell ⟨R', 0, none⟩ (.int .i64 20)).setCell ⟨R', 1, none⟩ (.int .i64 0)).setCell ⟨R', 2, none⟩ (.int .i64 0)).setCell ⟨R', 3, none⟩ (.bool false)).setCell ⟨R', 4, none⟩ (.bool false)).alloc (.cells #[.int .i64 20, .int .i64 0, .int .i64 0, .bool false, .bool false] 29) = WZ := ⟨_, rfl⟩
            rw [hWZ] at T D4
            have HZ : Hid ((((((wn.setCell ⟨R', 0, none⟩ (.int .i64 20)).setCell ⟨R', 1, none⟩ (.int .i64 0)).setCell ⟨R', 2, none⟩ (.int .i64 0)).setCell ⟨R', 3, none⟩ (.bool false)).setCell ⟨R', 4, none⟩ (.bool false)).alloc (.cells #[.int .i64 20, .int .i64 0, .int .i64 0, .bool false, .bool false] 29) = WZ) := hWZ
            obtain ⟨_, ⟨t1', t2', t3', t4', t5'⟩, _⟩ := T
            clear Bn C5 s1 s2 D3 hWZ
            go_wp2_with fail
            go_region
            all_goals
              go_wp2_with fail
              rw [HZ.out]
              have t1d : WZ.drew.cell? ⟨R', 0, none⟩ = some (.int .i64 20) := t1'
              have t2d : WZ.drew.cell? ⟨R', 1, none⟩ = some (.int .i64 0) := t2'
              have t3d : WZ.drew.cell? ⟨R', 2, none⟩ = some (.int .i64 0) := t3'
              have t4d : WZ.drew.cell? ⟨R', 3, none⟩ = some (.bool false) := t4'
              have t5d : WZ.drew.cell? ⟨R', 4, none⟩ = some (.bool false) := t5'
              simp [bodyPost, results, Tryz.results11, go_sem, t1', t2', t3', t4', t5', t1d, t2d, t3d, t4d, t5d]
              exact ⟨HR3.out.symm, by rw [hX]; exact D4.drew⟩
          | true =>
            have hge : lz ≤ u1 := hok rfl
            go_wp2_with fail
            refine (HP.out _).mono ?_
            rintro e wp ⟨rfl, Bp⟩
            obtain ⟨c1, c2, c3⟩ := hex.out wp Bp
            have C1 : Hid (B5 (wp.alloc (.cells #[.int .i64 (sH (sat V)), .int .u64 (sL (sat V))] 62)) R' 0 0 0 false false) := c1
            have C3 : Hid (Below R' w (wp.alloc (.cells #[.int .i64 (sH (sat V)), .int .u64 (sL (sat V))] 62))) := c3
            obtain ⟨_, s1, s2, _, _⟩ := id c2
            clear c1 c2 c3 Bp
            go_wp2_with fail
            generalize wp.alloc (.cells #[.int .i64 (sH (sat V)), .int .u64 (sL (sat V))] 62) = wq at *
            refine (SMR2.out _).mono ?_
            rintro e wn ⟨rfl, Bn⟩
            have D3 := below_then' C3.out Bn (Nat.le_of_lt C1.out.1)
            have C5 := C1.out.keep Bn C1.out.1
            obtain ⟨zr, ⟨t1, t2, t3, t4, t5⟩, f1, f2, f3, f4, f5⟩ := id C5
            have T := (C5.set 20 0 0 false false).alloc (.cells #[.int .i64 20, .int .i64 0, .int .i64 0, .bool false, .bool false] 29)
            have D4 := (setBad (v0 := .int .i64 20) (v1 := .int .i64 0) (v2 := .int .i64 0) (v3 := .bool false) (v4 := .bool false) D3 y0).alloc (Nat.le_of_lt (C5.set 20 0 0 false false).1) (.cells #[.int .i64 20, .int .i64 0, .int .i64 0, .bool false, .bool false] 29)
            obtain ⟨WZ, hWZ⟩ : ∃ WZ, (((((wn.setCell ⟨R', 0, none⟩ (.int .i64 20)).setCell ⟨R', 1, none⟩ (.int .i64 0)).setCell ⟨R', 2, none⟩ (.int .i64 0)).setCell ⟨R', 3, none⟩ (.bool false)).setCell ⟨R', 4, none⟩ (.bool false)).alloc (.cells #[.int .i64 20, .int .i64 0, .int .i64 0, .bool false, .bool false] 29) = WZ := ⟨_, rfl⟩
            rw [hWZ] at T D4
            have HZ : Hid ((((((wn.setCell ⟨R', 0, none⟩ (.int .i64 20)).setCell ⟨R', 1, none⟩ (.int .i64 0)).setCell ⟨R', 2, none⟩ (.int .i64 0)).setCell ⟨R', 3, none⟩ (.bool false)).setCell ⟨R', 4, none⟩ (.bool false)).alloc (.cells #[.int .i64 20, .int .i64 0, .int .i64 0, .bool false, .bool false] 29) = WZ) := hWZ
            obtain ⟨_, ⟨t1', t2', t3', t4', t5'⟩, _⟩ := T
            clear Bn C5 s1 s2 D3 hWZ
            go_wp2_with fail
            go_region
            all_goals
              go_wp2_with fail
              rw [HZ.out]
              have t1d : WZ.drew.cell? ⟨R', 0, none⟩ = some (.int .i64 20) := t1'
              have t2d : WZ.drew.cell? ⟨R', 1, none⟩ = some (.int .i64 0) := t2'
              have t3d : WZ.drew.cell? ⟨R', 2, none⟩ = some (.int .i64 0) := t3'
              have t4d : WZ.drew.cell? ⟨R', 3, none⟩ = some (.bool false) := t4'
              have t5d : WZ.drew.cell? ⟨R', 4, none⟩ = some (.bool false) := t5'
              simp [bodyPost, results, Tryz.results11, go_sem, t1', t2', t3', t4', t5', t1d, t2d, t3d, t4d, t5d]
              exact ⟨HR3.out.symm, by rw [hX]; exact D4.drew⟩
    · have hN := rd_next (v := v) (k := k) hf l2 (by rw [hu]; exact hle)
      rw [hd, hu, hV] at hN
      obtain ⟨f', hf', hN⟩ := hN
      have dl2 := parU_len (s.data.toList.drop k) (by rw [hu]; omega)
      rw [List.length_drop, HL.out, hd, hu] at dl2
      have HN : Hid (rd f' (s.data.toList.drop (k + (d + unl u))) u (v + V * usz u) (k + (d + unl u)) = rdAll s.data.toList) := by
        show _ = _
        rw [← hR.out, hN, List.drop_drop]
      have ug : 0 ≤ u := by omega
      have ul := unl_bd u
      have uz := usz_bd u
      have hlz : ¬ lsz last ≤ usz u := fun h => hle ((lsz_le ug ub2 l1 l2).1 h)
      have PP : ∀ W, Calls Tryz.prog 28 #[.string (s.extract k s.size)] W fun e w' => e = .returned (.tuple #[.int .i64 (usz u), .int .i64 ((d + unl u : Nat) : Int), .agg #[.int .i64 (sH (sat V)), .int .u64 (sL (sat V))], .bool true]) ∧ Below W.heap.size W w' := fun W => by
        have H := P W
        rw [if_neg (by omega), if_neg (by omega), decide_eq_true ug] at H; exact H
      have HP : Hid (∀ W, Calls Tryz.prog 28 #[.string (s.extract k s.size)] W fun e w' => e = .returned (.tuple #[.int .i64 (usz u), .int .i64 ((d + unl u : Nat) : Int), .agg #[.int .i64 (sH (sat V)), .int .u64 (sL (sat V))], .bool true]) ∧ Below W.heap.size W w') := PP
      have hz : Hid (lsz u = usz u) := by show _ = _; unfold lsz; rw [if_neg (by omega)]
      have hv' : 0 ≤ V * usz u := Int.mul_nonneg V0 (by omega)
      have TT : Hid (∀ W, Calls Tryz.prog 32 #[.agg #[.int .i64 (sH (sat V)), .int .u64 (sL (sat V))], .int .i64 (usz u)] W fun e w' => e = .returned (.agg #[.int .i64 (sH (sat (V * usz u))), .int .u64 (sL (sat (V * usz u)))]) ∧ Below W.heap.size W w') := fun W => times_at V (usz u) V0 uz.1 uz.2 W
      obtain ⟨X, hX2⟩ : ∃ X, V * usz u = X := ⟨_, rfl⟩
      have PS : Hid (∀ W, Calls Tryz.prog 31 #[.agg #[.int .i64 (sH (sat v)), .int .u64 (sL (sat v))], .agg #[.int .i64 (sH (sat X)), .int .u64 (sL (sat X))]] W fun e w' => e = .returned (.agg #[.int .i64 (sH (sat (v + X))), .int .u64 (sL (sat (v + X)))]) ∧ Below W.heap.size W w') := fun W => plus_sat v X v0' (by omega) W
      rw [hX2] at TT HN hv'
      clear hX2 PP P hR hN hd hu hV
      obtain ⟨n, hn⟩ : ∃ n, d + unl u = n := ⟨_, rfl⟩
      rw [hn] at HP HN
      have n1 : 1 ≤ n := by omega
      have n2 : k + n ≤ s.size := by omega
      generalize usz u = z at *
      generalize lsz last = lz at *
      clear hn ul dl2 uz hle
      have hex : Hid (∀ wp, Below wr.heap.size wr wp → B5 (wp.alloc (.cells #[.int .i64 (sH (sat V)), .int .u64 (sL (sat V))] 62)) R' 0 0 0 false false ∧ SM (wp.alloc (.cells #[.int .i64 (sH (sat V)), .int .u64 (sL (sat V))] 62)) S' (sH (sat v)) (sL (sat v)) ∧ SM (wp.alloc (.cells #[.int .i64 (sH (sat V)), .int .u64 (sL (sat V))] 62)) wp.heap.size (sH (sat V)) (sL (sat V)) ∧ Below R' w (wp.alloc (.cells #[.int .i64 (sH (sat V)), .int .u64 (sL (sat V))] 62))) := by
        intro wp hb
        obtain ⟨a1, a2, a3⟩ := hM.out
        have b3 := below_then' a3 hb (Nat.le_of_lt a1.1)
        have a4 := a1.keep hb a1.1
        exact ⟨a4.alloc _, (a2.keep hb a2.1).alloc _, SM.new _ _ _ _ rfl, b3.alloc (Nat.le_of_lt a4.1) _⟩
      clear hM HR HR0
      go_wp2_with fail
      refine (HP.out _).mono ?_
      rintro e wp ⟨rfl, Bp⟩
      have C0 := hex.out wp Bp
      have C : Hid (B5 (wp.alloc (.cells #[.int .i64 (sH (sat V)), .int .u64 (sL (sat V))] 62)) R' 0 0 0 false false ∧ SM (wp.alloc (.cells #[.int .i64 (sH (sat V)), .int .u64 (sL (sat V))] 62)) S' (sH (sat v)) (sL (sat v)) ∧ SM (wp.alloc (.cells #[.int .i64 (sH (sat V)), .int .u64 (sL (sat V))] 62)) wp.heap.size (sH (sat V)) (sL (sat V)) ∧ Below R' w (wp.alloc (.cells #[.int .i64 (sH (sat V)), .int .u64 (sL (sat V))] 62))) := C0
      clear C0 hex Bp HP
      go_wp2_with fail
      generalize wp.alloc (.cells #[.int .i64 (sH (sat V)), .int .u64 (sL (sat V))] 62) = wq at *
      generalize wp.heap.size = Y' at *
      have a1 : wq.drew.cell? ⟨S', 0, none⟩ = some (.int .i64 (sH (sat v))) := C.out.2.1.2.1
      have a2 : wq.drew.cell? ⟨S', 1, none⟩ = some (.int .u64 (sL (sat v))) := C.out.2.1.2.2.1
      have a3 : wq.drew.cell? ⟨Y', 0, none⟩ = some (.int .i64 (sH (sat V))) := C.out.2.2.1.2.1
      have a4 : wq.drew.cell? ⟨Y', 1, none⟩ = some (.int .u64 (sL (sat V))) := C.out.2.2.1.2.2.1
      have G : Hid (∀ w3 w4, Below wq.drew.heap.size wq.drew w3 → Below w3.heap.size w3 w4 → SM w3 S' (sH (sat v)) (sL (sat v)) ∧ SM w4 S' (sH (sat v)) (sL (sat v)) ∧ Hid (B5 ((w4.setCell ⟨S', 0, none⟩ (.int .i64 (sH (sat (v + X))))).setCell ⟨S', 1, none⟩ (.int .u64 (sL (sat (v + X))))) R' 0 0 0 false false ∧ SM ((w4.setCell ⟨S', 0, none⟩ (.int .i64 (sH (sat (v + X))))).setCell ⟨S', 1, none⟩ (.int .u64 (sL (sat (v + X))))) S' (sH (sat (v + X))) (sL (sat (v + X))) ∧ Below R' w ((w4.setCell ⟨S', 0, none⟩ (.int .i64 (sH (sat (v + X))))).setCell ⟨S', 1, none⟩ (.int .u64 (sL (sat (v + X))))))) := by
        intro w3 w4 b3 b4
        obtain ⟨c1, c2, c3, c4⟩ := C.out
        have d1 : B5 wq.drew R' 0 0 0 false false := c1
        have d2 : SM wq.drew S' (sH (sat v)) (sL (sat v)) := c2
        have e1 := d1.keep b3 d1.1
        have e2 := d2.keep b3 d2.1
        have g1 := e1.keep b4 e1.1
        have g2 := e2.keep b4 e2.1
        have h3 := below_then' c4.drew b3 (Nat.le_of_lt d1.1)
        have h4 := below_then' h3 b4 (Nat.le_of_lt e1.1)
        exact ⟨e2, g2, (g1.far x1 _).far x1 _, g2.set _ _, below_set2 h4 y1⟩
      clear C
      refine wp_region_noPanic ?_
      refine wp_region_held_drew (S := fun _ => True) (by kernel_rfl) trivial (fun hHeld => ?_)
      refine wpAnyH_take (i := 2) (oi := _) (v := ?_) rfl (by kernel_rfl) (by kernel_rfl) (by kernel_rfl) (fun _ _ _ h => h) (Or.inl ⟨by rfl, ?_⟩) (by assumption) ?_
      rotate_left 1
      · (intro w0 hSw; (try dsimp only at hSw); go_simp; try with_reducible rfl)
      (try simp only [Act.put, List.setIfInBounds_toArray, List.set_cons_zero, List.set_cons_succ])
      refine wpAnyH_ready (rs := [0, 1]) (by kernel_rfl) (by simp) ?_
      refine AllReadyH.cons (o := _) rfl (fun K hK => ?_) ?_
      · go_simp
        try dsimp only
        refine hK _ _ trivial (fun hHeld => ?_)
        clear hK K
        (try simp only [Act.put, List.setIfInBounds_toArray, List.set_cons_zero, List.set_cons_succ])
        refine wpAnyH_ready (rs := [1]) (by kernel_rfl) (by simp) ?_
        refine AllReadyH.cons (o := _) rfl (fun K hK => ?_) AllReadyH.nil
        go_simp
        try dsimp only
        refine hK _ _ trivial (fun hHeld => ?_)
        clear hK K
        (try simp only [Act.put, List.setIfInBounds_toArray, List.set_cons_zero, List.set_cons_succ])
        refine wpAnyH_ready (rs := [3]) (by kernel_rfl) (by simp) ?_
        refine AllReadyH.cons (o := _) rfl (fun K hK => ?_) AllReadyH.nil
        go_simp
        go_at_call 32
        refine (TT.out _).mono ?_
        rintro e w3 ⟨rfl, B3⟩
        obtain ⟨⟨_, s1, s2, _, _⟩, _, _⟩ := G.out w3 w3 B3 (Below.refl _ _)
        try dsimp only
        refine hK _ _ trivial (fun hHeld => ?_)
        clear hK K
        (try simp only [Act.put, List.setIfInBounds_toArray, List.set_cons_zero, List.set_cons_succ])
        refine wpAnyH_ready (rs := [4]) (by kernel_rfl) (by simp) ?_
        refine AllReadyH.cons (o := _) rfl (fun K hK => ?_) AllReadyH.nil
        go_simp
        go_at_call 31
        refine (PS.out _).mono ?_
        rintro e w4 ⟨rfl, B4⟩
        obtain ⟨_, ⟨_, g1, g2, g3, g4⟩, GG⟩ := G.out w3 w4 B3 B4
        try dsimp only
        refine hK _ _ trivial (fun hHeld => ?_)
        clear hK K
        (try simp only [Act.put, List.setIfInBounds_toArray, List.set_cons_zero, List.set_cons_succ])
        refine wpAnyH_ready (rs := [5]) (by kernel_rfl) (by simp) ?_
        refine AllReadyH.cons (o := _) rfl (fun K hK => ?_) AllReadyH.nil
        go_simp
        try dsimp only
        refine hK _ _ trivial (fun hHeld => ?_)
        clear hK K
        (try simp only [Act.put, List.setIfInBounds_toArray, List.set_cons_zero, List.set_cons_succ])
        refine wpAnyH_done (by kernel_rfl) ?_ _
        refine NoPanic.normal ?_
        go_wp2_with fail
        go_roundw
        case rel => exact ⟨u, v + X, k + n, f', by omega, ub2, hf', by omega, n2, HN, by go_num, by rw [hz.out], GG⟩
        case measure => simp [intOf]; omega
      refine AllReadyH.cons (o := _) rfl (fun K hK => ?_) AllReadyH.nil
      go_simp
      try dsimp only
      refine hK _ _ trivial (fun hHeld => ?_)
      clear hK K
      (try simp only [Act.put, List.setIfInBounds_toArray, List.set_cons_zero, List.set_cons_succ])
      refine wpAnyH_ready (rs := [0, 3]) (by kernel_rfl) (by simp) ?_
      refine AllReadyH.cons (o := _) rfl (fun K hK => ?_) ?_
      · go_simp
        try dsimp only
        refine hK _ _ trivial (fun hHeld => ?_)
        clear hK K
        (try simp only [Act.put, List.setIfInBounds_toArray, List.set_cons_zero, List.set_cons_succ])
        refine wpAnyH_ready (rs := [3]) (by kernel_rfl) (by simp) ?_
        refine AllReadyH.cons (o := _) rfl (fun K hK => ?_) AllReadyH.nil
        go_simp
        go_at_call 32
        refine (TT.out _).mono ?_
        rintro e w3 ⟨rfl, B3⟩
        obtain ⟨⟨_, s1, s2, _, _⟩, _, _⟩ := G.out w3 w3 B3 (Below.refl _ _)
        try dsimp only
        refine hK _ _ trivial (fun hHeld => ?_)
        clear hK K
        (try simp only [Act.put, List.setIfInBounds_toArray, List.set_cons_zero, List.set_cons_succ])
        refine wpAnyH_ready (rs := [4]) (by kernel_rfl) (by simp) ?_
        refine AllReadyH.cons (o := _) rfl (fun K hK => ?_) AllReadyH.nil
        go_simp
        go_at_call 31
        refine (PS.out _).mono ?_
        rintro e w4 ⟨rfl, B4⟩
        obtain ⟨_, ⟨_, g1, g2, g3, g4⟩, GG⟩ := G.out w3 w4 B3 B4
        try dsimp only
        refine hK _ _ trivial (fun hHeld => ?_)
        clear hK K
        (try simp only [Act.put, List.setIfInBounds_toArray, List.set_cons_zero, List.set_cons_succ])
        refine wpAnyH_ready (rs := [5]) (by kernel_rfl) (by simp) ?_
        refine AllReadyH.cons (o := _) rfl (fun K hK => ?_) AllReadyH.nil
        go_simp
        try dsimp only
        refine hK _ _ trivial (fun hHeld => ?_)
        clear hK K
        (try simp only [Act.put, List.setIfInBounds_toArray, List.set_cons_zero, List.set_cons_succ])
        refine wpAnyH_done (by kernel_rfl) ?_ _
        refine NoPanic.normal ?_
        go_wp2_with fail
        go_roundw
        case rel => exact ⟨u, v + X, k + n, f', by omega, ub2, hf', by omega, n2, HN, by go_num, by rw [hz.out], GG⟩
        case measure => simp [intOf]; omega
      refine AllReadyH.cons (o := _) rfl (fun K hK => ?_) AllReadyH.nil
      go_simp
      go_at_call 32
      refine (TT.out _).mono ?_
      rintro e w3 ⟨rfl, B3⟩
      obtain ⟨⟨_, s1, s2, _, _⟩, _, _⟩ := G.out w3 w3 B3 (Below.refl _ _)
      try dsimp only
      refine hK _ _ trivial (fun hHeld => ?_)
      clear hK K
      (try simp only [Act.put, List.setIfInBounds_toArray, List.set_cons_zero, List.set_cons_succ])
      refine wpAnyH_ready (rs := [0]) (by kernel_rfl) (by simp) ?_
      refine AllReadyH.cons (o := _) rfl (fun K hK => ?_) AllReadyH.nil
      go_simp
      try dsimp only
      refine hK _ _ trivial (fun hHeld => ?_)
      clear hK K
      (try simp only [Act.put, List.setIfInBounds_toArray, List.set_cons_zero, List.set_cons_succ])
      refine wpAnyH_ready (rs := [4]) (by kernel_rfl) (by simp) ?_
      refine AllReadyH.cons (o := _) rfl (fun K hK => ?_) AllReadyH.nil
      go_simp
      go_at_call 31
      refine (PS.out _).mono ?_
      rintro e w4 ⟨rfl, B4⟩
      obtain ⟨_, ⟨_, g1, g2, g3, g4⟩, GG⟩ := G.out w3 w4 B3 B4
      try dsimp only
      refine hK _ _ trivial (fun hHeld => ?_)
      clear hK K
      (try simp only [Act.put, List.setIfInBounds_toArray, List.set_cons_zero, List.set_cons_succ])
      refine wpAnyH_ready (rs := [5]) (by kernel_rfl) (by simp) ?_
      refine AllReadyH.cons (o := _) rfl (fun K hK => ?_) AllReadyH.nil
      go_simp
      try dsimp only
      refine hK _ _ trivial (fun hHeld => ?_)
      clear hK K
      (try simp only [Act.put, List.setIfInBounds_toArray, List.set_cons_zero, List.set_cons_succ])
      refine wpAnyH_done (by kernel_rfl) ?_ _
      refine NoPanic.normal ?_
      go_wp2_with fail
      go_roundw
      case rel => exact ⟨u, v + X, k + n, f', by omega, ub2, hf', by omega, n2, HN, by go_num, by rw [hz.out], GG⟩
      case measure => simp [intOf]; omega
end Go.Proofs.YtipahdplkmmofaaGreatDoor

namespace Go.Proofs.YtipahdplkmmofaaGreatDoor
open Go.RowKit
set_option linter.unusedVariables false
set_option linter.unusedSimpArgs false
def bcK (ok : Bool) : Int := if ok then 0 else 41
def baK (a : Nat) (ok : Bool) : Int := if ok then 0 else (a : Int)
/-- the document's clock in memory. -/
def CL (W : World) (C : Nat) (s : ByteArray) (a : Nat) (ok : Bool) : Prop := C < W.heap.size ∧ (W.cell? ⟨C, 0, none⟩ = some (.string s) ∧ W.cell? ⟨C, 1, none⟩ = some (.int .i64 (a : Int)) ∧ W.cell? ⟨C, 2, none⟩ = some (.int .i64 (bcK ok)) ∧ W.cell? ⟨C, 3, none⟩ = some (.int .i64 (baK a ok)) ∧ W.cell? ⟨C, 4, none⟩ = some (.int .i64 0) ∧ W.cell? ⟨C, 5, none⟩ = some (.bool (!ok)) ∧ W.cell? ⟨C, 6, none⟩ = some (.bool false)) ∧ (W.frozen? ⟨C, 1, none⟩ = false ∧ W.frozen? ⟨C, 2, none⟩ = false ∧ W.frozen? ⟨C, 3, none⟩ = false ∧ W.frozen? ⟨C, 4, none⟩ = false ∧ W.frozen? ⟨C, 5, none⟩ = false ∧ W.frozen? ⟨C, 6, none⟩ = false)
theorem CL.keep {W W' : World} {C B : Nat} {s : ByteArray} {a : Nat} {ok : Bool} (h : CL W C s a ok) (hb : Below B W W') (hB : C < B) : CL W' C s a ok := by
  obtain ⟨h0, ⟨h1, h2, h3, h4, h5, h6, h7⟩, f1, f2, f3, f4, f5, f6⟩ := h
  refine ⟨Nat.lt_of_lt_of_le h0 hb.size, ⟨?_, ?_, ?_, ?_, ?_, ?_, ?_⟩, ?_, ?_, ?_, ?_, ?_, ?_⟩
  · rw [hb.cell (p := ⟨C, 0, none⟩) hB]; exact h1
  · rw [hb.cell (p := ⟨C, 1, none⟩) hB]; exact h2
  · rw [hb.cell (p := ⟨C, 2, none⟩) hB]; exact h3
  · rw [hb.cell (p := ⟨C, 3, none⟩) hB]; exact h4
  · rw [hb.cell (p := ⟨C, 4, none⟩) hB]; exact h5
  · rw [hb.cell (p := ⟨C, 5, none⟩) hB]; exact h6
  · rw [hb.cell (p := ⟨C, 6, none⟩) hB]; exact h7
  · rw [hb.frozen (p := ⟨C, 1, none⟩) hB]; exact f1
  · rw [hb.frozen (p := ⟨C, 2, none⟩) hB]; exact f2
  · rw [hb.frozen (p := ⟨C, 3, none⟩) hB]; exact f3
  · rw [hb.frozen (p := ⟨C, 4, none⟩) hB]; exact f4
  · rw [hb.frozen (p := ⟨C, 5, none⟩) hB]; exact f5
  · rw [hb.frozen (p := ⟨C, 6, none⟩) hB]; exact f6
theorem CL.drew {W : World} {C : Nat} {s : ByteArray} {a : Nat} {ok : Bool} (h : CL W C s a ok) : CL W.drew C s a ok := h
theorem CL.move {W : World} {C : Nat} {s : ByteArray} {a : Nat} (h : CL W C s a true) (b : Nat) : CL (W.setCell ⟨C, 1, none⟩ (.int .i64 (b : Int))) C s b true := by
  obtain ⟨h0, ⟨h1, h2, h3, h4, h5, h6, h7⟩, f1, f2, f3, f4, f5, f6⟩ := h
  refine ⟨by simpa using h0, ⟨by simp [go_sem, h1], by simp [go_sem, h2], by simp [go_sem, h3], ?_, by simp [go_sem, h5], by simp [go_sem, h6], by simp [go_sem, h7]⟩, by simp [go_sem, f1], by simp [go_sem, f2], by simp [go_sem, f3], by simp [go_sem, f4], by simp [go_sem, f5], by simp [go_sem, f6]⟩
  rw [show baK b true = baK a true from rfl]; simp [go_sem, h4]
theorem CL.fail {W : World} {C : Nat} {s : ByteArray} {a : Nat} {ok : Bool} (h : CL W C s a ok) : CL (((((W.setCell ⟨C, 2, none⟩ (.int .i64 41)).setCell ⟨C, 3, none⟩ (.int .i64 (a : Int))).setCell ⟨C, 4, none⟩ (.int .i64 0)).setCell ⟨C, 5, none⟩ (.bool true)).setCell ⟨C, 6, none⟩ (.bool false)) C s a false := by
  obtain ⟨h0, ⟨h1, h2, h3, h4, h5, h6, h7⟩, f1, f2, f3, f4, f5, f6⟩ := h
  refine ⟨by simpa using h0, ⟨by simp [go_sem, h1], by simp [go_sem, h2], by simp [go_sem, h3, bcK], by simp [go_sem, h4, baK], by simp [go_sem, h5], by simp [go_sem, h6], by simp [go_sem, h7]⟩, by simp [go_sem, f1], by simp [go_sem, f2], by simp [go_sem, f3], by simp [go_sem, f4], by simp [go_sem, f5], by simp [go_sem, f6]⟩
theorem grown_set5 (W : World) (C i j k l m : Nat) (a b c d e : Value) : W.grownBy (((((W.setCell ⟨C, i, none⟩ a).setCell ⟨C, j, none⟩ b).setCell ⟨C, k, none⟩ c).setCell ⟨C, l, none⟩ d).setCell ⟨C, m, none⟩ e) (some C) :=
  grown_trans (grown_trans (grown_trans (grown_trans (grown_set _ _ _ _) (grown_set _ _ _ _)) (grown_set _ _ _ _)) (grown_set _ _ _ _)) (grown_set _ _ _ _)
theorem rat_any (p : Int) (w : World) : Calls Tryz.prog 85 #[.int .i64 p, .int .i64 41] w fun e w' => e = .returned (.agg #[.int .i64 41, .int .i64 p, .int .i64 0, .bool true, .bool false]) ∧ Below w.heap.size w w' := by
  go_enter Tryz.func85, Tryz.ntmps85
  go_wp2
  simp [bodyPost, results, Tryz.results85, go_sem]
  exact below_new (Below.refl _ _) _
set_option maxRecDepth 100000 in
theorem wrong_any (C : Nat) (s : ByteArray) (a : Nat) (ha : a ≤ s.size) (W : World) (h : CL W C s a true) : Calls Tryz.prog 44 #[.pointer (some ⟨C, 0, none⟩), .int .i64 (a : Int)] W fun e w' => e = .returned undef ∧ CL w' C s a false ∧ W.grownBy w' (some C) := by
  have HH : Hid (CL W C s a true) := h
  obtain ⟨h0, ⟨h1, h2, h3, h4, h5, h6, h7⟩, f1, f2, f3, f4, f5, f6⟩ := h
  have e3 : bcK true = 0 := rfl
  rw [e3] at h3
  have hn : ¬ (s.size : Int) < (a : Int) := by omega
  have A1 : Hid (∀ W, Calls Tryz.prog 85 #[.int .i64 (a : Int), .int .i64 41] W fun e w' => e = .returned (.agg #[.int .i64 41, .int .i64 (a : Int), .int .i64 0, .bool true, .bool false]) ∧ Below W.heap.size W w') := fun W => rat_any a W
  clear e3
  go_enter Tryz.func44, Tryz.ntmps44
  go_wp2_with fail
  refine (A1.out _).mono ?_
  rintro e w1 ⟨rfl, B1⟩
  have K := HH.out.keep B1 HH.out.1
  have HK : Hid (CL w1 C s a true) := K
  have G1 := grown_of_below C B1
  obtain ⟨_, ⟨k1, k2, k3, k4, k5, k6, k7⟩, g1, g2, g3, g4, g5, g6⟩ := K
  clear h1 h2 h3 h4 h5 h6 h7 f1 f2 f3 f4 f5 f6 B1 HH
  go_wp2_with fail
  first | go_end0 | (simp only [Exit.inBlock, Exit.then]; refine bodyPost_ret (results_none rfl _ _ _) rfl ?_) | refine bodyPost_ret (results_none rfl _ _ _) rfl ?_
  exact ⟨rfl, HK.out.fail, grown_trans G1 (grown_set5 _ _ _ _ _ _ _ _ _ _ _ _)⟩
end Go.Proofs.YtipahdplkmmofaaGreatDoor

namespace Go.Proofs.YtipahdplkmmofaaGreatDoor
open Go.RowKit
set_option linter.unusedVariables false
set_option linter.unusedSimpArgs false
theorem valF_pow (l : List UInt8) : ∀ (a : Int), 0 ≤ a → allD l → valF a l < (a + 1) * ((10 ^ l.length : Nat) : Int) := by
  induction l with
  | nil => intro a h _; simp [valF]; omega
  | cons c r ih =>
    intro a h hd
    have hc := isD_bd (hd c (by simp))
    have := ih (a * 10 + ((c.toNat : Int) - 48)) (by omega) (fun x hx => hd x (by simp [hx]))
    simp only [valF, List.length_cons, Nat.pow_succ]
    refine Int.lt_of_lt_of_le this ?_
    have h2 : a * 10 + ((c.toNat : Int) - 48) + 1 ≤ (a + 1) * 10 := by omega
    have h3 := Int.mul_le_mul_of_nonneg_right h2 (Int.natCast_nonneg (10 ^ r.length))
    refine Int.le_trans h3 ?_
    rw [Int.natCast_mul, Int.mul_assoc, Int.mul_comm (10 : Int)]
    exact Int.le_refl _
theorem valF_le (l : List UInt8) (k : Nat) (h : allD l) (hk : l.length ≤ k) : valF 0 l < ((10 ^ k : Nat) : Int) := by
  have h1 := valF_pow l 0 (by omega) h
  have h2 : (10 ^ l.length : Nat) ≤ 10 ^ k := Nat.pow_le_pow_right (by omega) hk
  omega
set_option maxRecDepth 100000 in
set_option maxHeartbeats 2000000 in
theorem digits_any (s : ByteArray) (hs : s.size ≤ 281474976710656) (a n : Nat) (hn : 1 ≤ n) (hn4 : n ≤ 4) (ha : a ≤ s.size) (W : World) :
    Calls Tryz.prog 83 #[.string s, .int .i64 (a : Int), .int .i64 (n : Int)] W fun e w' => e = .returned (.tuple #[.int .i64 (if cnt ((s.data.toList.drop a).take n) < n then 0 else valF 0 ((s.data.toList.drop a).take n)), .bool (decide (¬ cnt ((s.data.toList.drop a).take n) < n))]) ∧ w' = W := by
  obtain ⟨X, hX⟩ : ∃ X, (s.data.toList.drop a).take n = X := ⟨_, rfl⟩
  rw [hX]
  obtain ⟨RES, hRES⟩ : ∃ R, Ending.returned (.tuple #[.int .i64 (if cnt X < n then 0 else valF 0 X), .bool (decide (¬ cnt X < n))]) = R := ⟨_, rfl⟩
  rw [hRES]
  have HR : Hid (Ending.returned (.tuple #[.int .i64 (if cnt X < n then 0 else valF 0 X), .bool (decide (¬ cnt X < n))]) = RES) := hRES
  have HX : Hid ((s.data.toList.drop a).take n = X) := hX
  have hl : X.length = min n (s.size - a) := by rw [← hX, List.length_take, List.length_drop, sz_list]
  clear hRES hX
  by_cases hlt : s.size < a + n
  · have hc : cnt X < n := by have := cnt_le X; omega
    have HR3 : Hid (RES = .returned (.tuple #[.int .i64 0, .bool false])) := by
      show _ = _
      rw [← HR.out, if_pos hc]; simp [hc]
    have hI : (s.size : Int) < (a : Int) + (n : Int) := by omega
    clear HR hc
    go_enter Tryz.func83, Tryz.ntmps83
    go_wp2
    go_ret2
    exact ⟨HR3.out.symm, rfl⟩
  · have hI : ¬ (s.size : Int) < (a : Int) + (n : Int) := by omega
    have hXl : X.length = n := by omega
    have HG : Hid (∀ (q : Nat) (h : q < X.length) (h' : a + q < s.size), X[q] = s[a + q]) := by
      intro q h h'
      have e := HX.out
      subst e
      rw [List.getElem_take, List.getElem_drop]; rfl
    have HD : Hid (∀ (c : UInt8) (b : Bool), isD c = b → ∀ W, Calls Tryz.prog 68 #[.int .u8 (c.toNat : Int)] W fun e w' => e = .returned (.bool b) ∧ w' = W) := fun c b h W => by rw [← h]; exact digit_any c W
    have HXl : Hid (X.length = n) := hXl
    clear hXl hl
    go_enter Tryz.func83, Tryz.ntmps83
    go_wp2
    go_loop [8, 9] (fun v i => ∃ (j : Nat) (y : Int), j ≤ n ∧ i = .int .i64 ((a : Int) + (j : Int)) ∧ v = .int .i64 y ∧ 0 ≤ y ∧ y < 10000 ∧ Hid (y = valF 0 (X.take j)) ∧ Hid (∀ (q : Nat) (h : q < X.length), q < j → isD X[q] = true)) (fun _ i => (((a : Int) + (n : Int)) - intOf i).toNat)
    case atStart => exact ⟨0, 0, by omega, by go_num, rfl, by omega, by omega, rfl, fun q h hq => by omega⟩
    case round =>
      obtain ⟨j, y, hj, rfl, rfl, y0, y1, hy, hA⟩ := hrel
      by_cases hjn : j < n
      · have hjX : j < X.length := by rw [HXl.out]; exact hjn
        have hls : a + j < s.size := by omega
        have hin : (a : Int) + (j : Int) < (a : Int) + (n : Int) := by omega
        have hin2 : (a : Int) + (j : Int) < (s.size : Int) := by omega
        have e := HG.out j hjX hls
        have et : ((a : Int) + (j : Int)).toNat = a + j := by omega
        cases hd : isD X[j] with
        | false =>
          have hc : cnt X < n := by
            have h1 : cnt X ≤ j := by
              apply Decidable.byContradiction; intro hh
              have := cnt_all X j hjX (by omega)
              rw [hd] at this; simp at this
            omega
          have HR3 : Hid (RES = .returned (.tuple #[.int .i64 0, .bool false])) := by
            show _ = _
            rw [← HR.out, if_pos hc]; simp [hc]
          have dg := HD.out s[a + j] false (by rw [← e]; exact hd)
          clear HR hc e hd
          go_wp2_with (go_at_call 68; refine (dg _).mono ?_; rintro e w' ⟨rfl, hw'⟩; subst w')
          exact bodyPost_ret (v := .tuple #[.int .i64 0, .bool false]) (by simp [results, Tryz.results83, go_sem]) rfl ⟨HR3.out.symm, rfl⟩
        | true =>
          have dg := HD.out s[a + j] true (by rw [← e]; exact hd)
          have db := isD_bd hd
          have hy2 : Hid (valF 0 (X.take (j + 1)) = y * 10 + ((X[j].toNat : Int) - 48)) := by show _ = _; rw [take_next X j hjX, ← hy.out]
          have hA' : Hid (∀ (q : Nat) (h : q < X.length), q < j + 1 → isD X[q] = true) := by
            intro q h hq
            by_cases e : q = j
            · subst e; exact hd
            · exact hA.out q h (by omega)
          have hb2 : valF 0 (X.take (j + 1)) < 10000 := by
            have := valF_le (X.take (j + 1)) 4 (by
              intro c hc
              obtain ⟨q, hq, rfl⟩ := List.getElem_of_mem hc
              simp only [List.length_take] at hq
              rw [List.getElem_take]
              exact hA'.out q (by omega) (by omega)) (by simp only [List.length_take]; omega)
            exact this
          rw [hy2.out] at hb2
          rw [e] at db hb2 hy2
          obtain ⟨c, hc⟩ : ∃ c, ((s[a + j]).toNat : Int) = c := ⟨_, rfl⟩
          rw [hc] at db hb2 hy2
          simp only [hc] at dg
          obtain ⟨db1, db2⟩ := db
          have wu : IntKind.u8.wrap (c - 48) = c - 48 := by rw [IntKind.wrap_u8]; omega
          clear e hd hA hy HR
          go_wp2_with (go_at_call 68; refine (dg _).mono ?_; rintro e w' ⟨rfl, hw'⟩; subst w')
          go_round
          case rel => exact ⟨j + 1, y * 10 + (c - 48), by omega, by go_num, by go_num, by omega, by omega, hy2.out.symm, hA'⟩
          case measure => simp [intOf]; omega
      · have hj2 : j = n := by omega
        have hD : allD X := by
          intro c hc
          obtain ⟨q, hq, rfl⟩ := List.getElem_of_mem hc
          exact hA.out q hq (by rw [HXl.out] at hq; omega)
        have hc : ¬ cnt X < n := by rw [cnt_full hD, HXl.out]; omega
        have hy3 : y = valF 0 X := by rw [hy.out, hj2, ← HXl.out, List.take_length]
        have HR3 : Hid (RES = .returned (.tuple #[.int .i64 y, .bool true])) := by
          show _ = _
          rw [← HR.out, if_neg hc, hy3]; simp [hc]
        have hin : ¬ (a : Int) + (j : Int) < (a : Int) + (n : Int) := by omega
        clear HR hc hy hA hD hy3 hj2 hjn
        go_wp2
        exact bodyPost_ret (v := .tuple #[.int .i64 y, .bool true]) (by simp [results, Tryz.results83, go_sem]) rfl ⟨HR3.out.symm, rfl⟩
end Go.Proofs.YtipahdplkmmofaaGreatDoor

namespace Go.Proofs.YtipahdplkmmofaaGreatDoor
open Go.RowKit
set_option linter.unusedVariables false
set_option linter.unusedSimpArgs false
theorem numR_le {n : Nat} {lo hi : Int} {l : List UInt8} {a a' : Nat} {ok ok' : Bool} {v : Int} (h : numR n lo hi l a ok = (a', ok', v)) (ha : a ≤ l.length) : a' ≤ l.length := by
  unfold numR at h
  repeat' split at h
  all_goals simp only [Prod.mk.injEq] at h
  all_goals obtain ⟨rfl, _, _⟩ := h
  · exact ha
  · exact ha
  · rename_i h1 h2 h3
    have := cnt_le ((l.drop a).take n)
    simp only [List.length_take, List.length_drop] at this
    omega
  · exact ha
theorem letR_le {b : UInt8} {l : List UInt8} {a a' : Nat} {ok ok' : Bool} (h : letR b l a ok = (a', ok')) (ha : a ≤ l.length) : a' ≤ l.length := by
  unfold letR at h
  repeat' split at h
  all_goals simp only [Prod.mk.injEq] at h
  all_goals obtain ⟨rfl, _⟩ := h
  · rename_i _ h2 _
    have h9 : 0 < (l.drop a).length := by
      cases e : l.drop a with
      | nil => rw [e] at h2; simp at h2
      | cons => simp
    simp only [List.length_drop] at h9
    omega
  · exact ha
  · exact ha
set_option maxRecDepth 100000 in
set_option maxHeartbeats 2000000 in
theorem rnum_any (C : Nat) (s : ByteArray) (hs : s.size ≤ 281474976710656) (a : Nat) (ok : Bool) (n : Nat) (hn : 1 ≤ n) (hn4 : n ≤ 4) (lo hi : Int) (ha : a ≤ s.size) (a' : Nat) (ok' : Bool) (v : Int) (h : numR n lo hi s.data.toList a ok = (a', ok', v)) (W : World) (hC : CL W C s a ok) :
    Calls Tryz.prog 39 #[.pointer (some ⟨C, 0, none⟩), .int .i64 (n : Int), .int .i64 lo, .int .i64 hi] W fun e w' => e = .returned (.int .i64 v) ∧ CL w' C s a' ok' ∧ W.grownBy w' (some C) := by
  have HH : Hid (CL W C s a ok) := hC
  obtain ⟨h0, ⟨h1, h2, h3, h4, h5, h6, h7⟩, f1, f2, f3, f4, f5, f6⟩ := hC
  cases ok with
  | false =>
    rw [numR_no] at h
    simp only [Prod.mk.injEq] at h
    obtain ⟨rfl, rfl, rfl⟩ := h
    have e3 : bcK false = 41 := rfl
    rw [e3] at h3
    go_enter Tryz.func39, Tryz.ntmps39
    go_wp2_with fail
    go_ret
    exact ⟨rfl, HH.out, grown_refl _ _⟩
  | true =>
    have e3 : bcK true = 0 := rfl
    rw [e3] at h3
    unfold numR at h
    rw [if_pos rfl] at h
    have D := fun W => digits_any s hs a n hn hn4 ha W
    have WR := fun W hW => wrong_any C s a ha W hW
    obtain ⟨X, hX⟩ : ∃ X, (s.data.toList.drop a).take n = X := ⟨_, rfl⟩
    rw [hX] at h
    simp only [hX] at D
    have hXa : X.length = min n (s.size - a) := by rw [← hX, List.length_take, List.length_drop, sz_list]
    clear hX e3
    by_cases c1 : cnt X < n
    · rw [if_pos c1] at h
      simp only [Prod.mk.injEq] at h
      obtain ⟨rfl, rfl, rfl⟩ := h
      have D2 : Hid (∀ W, Calls Tryz.prog 83 #[.string s, .int .i64 (a : Int), .int .i64 (n : Int)] W fun e w' => e = .returned (.tuple #[.int .i64 0, .bool false]) ∧ w' = W) := fun W => by
        have H := D W
        rw [if_pos c1, decide_eq_false (fun hh => hh c1)] at H; exact H
      clear D c1
      go_enter Tryz.func39, Tryz.ntmps39
      go_wp2_with fail
      go_quiet ((go_at_call 83; exact Calls.quiet_of_same (D2.out _)))
      have KQ := HH.out.keep (below_drewN (Below.refl W.heap.size W) nq) HH.out.1
      have GQ := grown_of_below C (below_drewN (Below.refl W.heap.size W) nq)
      generalize W.drewN nq = wq at *
      have HQ : Hid (CL wq C s a true) := KQ
      obtain ⟨_, ⟨k1, k2, k3, k4, k5, k6, k7⟩, g1, g2, g3, g4, g5, g6⟩ := KQ
      clear h1 h2 h3 h4 h5 h6 h7 f1 f2 f3 f4 f5 f6 HH
      go_wp2_with fail
      refine (WR _ HQ.out).mono ?_
      rintro e w2 ⟨rfl, K2, G2⟩
      go_wp2_with fail
      go_ret
      exact ⟨rfl, K2, grown_trans GQ G2⟩
    · rw [if_neg c1] at h
      have D2 : Hid (∀ W, Calls Tryz.prog 83 #[.string s, .int .i64 (a : Int), .int .i64 (n : Int)] W fun e w' => e = .returned (.tuple #[.int .i64 (valF 0 X), .bool true]) ∧ w' = W) := fun W => by
        have H := D W
        rw [if_neg c1, decide_eq_true c1] at H; exact H
      have hXn : a + n ≤ s.size ∧ X.length = n := by
        have := cnt_le X
        have h8 := hXa
        omega
      generalize valF 0 X = y at *
      clear D c1
      by_cases c2 : y < lo
      · rw [if_pos (Or.inl c2)] at h
        simp only [Prod.mk.injEq] at h
        obtain ⟨rfl, rfl, rfl⟩ := h
        go_enter Tryz.func39, Tryz.ntmps39
        go_wp2_with fail
        go_quiet ((go_at_call 83; exact Calls.quiet_of_same (D2.out _)))
        have KQ := HH.out.keep (below_drewN (Below.refl W.heap.size W) nq) HH.out.1
        have GQ := grown_of_below C (below_drewN (Below.refl W.heap.size W) nq)
        generalize W.drewN nq = wq at *
        have HQ : Hid (CL wq C s a true) := KQ
        obtain ⟨_, ⟨k1, k2, k3, k4, k5, k6, k7⟩, g1, g2, g3, g4, g5, g6⟩ := KQ
        clear h1 h2 h3 h4 h5 h6 h7 f1 f2 f3 f4 f5 f6 HH
        go_wp2_with fail
        refine (WR _ HQ.out).mono ?_
        rintro e w2 ⟨rfl, K2, G2⟩
        go_wp2_with fail
        go_ret
        exact ⟨rfl, K2, grown_trans GQ G2⟩
      · by_cases c3 : hi < y
        · rw [if_pos (Or.inr c3)] at h
          simp only [Prod.mk.injEq] at h
          obtain ⟨rfl, rfl, rfl⟩ := h
          go_enter Tryz.func39, Tryz.ntmps39
          go_wp2_with fail
          go_quiet ((go_at_call 83; exact Calls.quiet_of_same (D2.out _)))
          have KQ := HH.out.keep (below_drewN (Below.refl W.heap.size W) nq) HH.out.1
          have GQ := grown_of_below C (below_drewN (Below.refl W.heap.size W) nq)
          generalize W.drewN nq = wq at *
          have HQ : Hid (CL wq C s a true) := KQ
          obtain ⟨_, ⟨k1, k2, k3, k4, k5, k6, k7⟩, g1, g2, g3, g4, g5, g6⟩ := KQ
          clear h1 h2 h3 h4 h5 h6 h7 f1 f2 f3 f4 f5 f6 HH
          go_wp2_with fail
          refine (WR _ HQ.out).mono ?_
          rintro e w2 ⟨rfl, K2, G2⟩
          go_wp2_with fail
          go_ret
          exact ⟨rfl, K2, grown_trans GQ G2⟩
        · rw [if_neg (fun hh => hh.elim c2 c3)] at h
          simp only [Prod.mk.injEq] at h
          obtain ⟨rfl, rfl, rfl⟩ := h
          go_enter Tryz.func39, Tryz.ntmps39
          go_wp2_with fail
          go_quiet ((go_at_call 83; exact Calls.quiet_of_same (D2.out _)))
          have KQ := HH.out.keep (below_drewN (Below.refl W.heap.size W) nq) HH.out.1
          have GQ := grown_of_below C (below_drewN (Below.refl W.heap.size W) nq)
          generalize W.drewN nq = wq at *
          have HQ : Hid (CL wq C s a true) := KQ
          obtain ⟨_, ⟨k1, k2, k3, k4, k5, k6, k7⟩, g1, g2, g3, g4, g5, g6⟩ := KQ
          clear h1 h2 h3 h4 h5 h6 h7 f1 f2 f3 f4 f5 f6 HH
          have wn : IntKind.i64.wrap ((a : Int) + (n : Int)) = ((a + n : Nat) : Int) := by rw [IntWalk.i64_in _ (by omega)]; omega
          have wn2 : wrap64 ((a : Int) + (n : Int)) = ((a + n : Nat) : Int) := by rw [IntWalk.wrap64_in _ (by omega)]; omega
          go_wp2_with fail
          go_ret
          exact ⟨rfl, HQ.out.move (a + n), grown_trans GQ (grown_set _ _ _ _)⟩
end Go.Proofs.YtipahdplkmmofaaGreatDoor

namespace Go.Proofs.YtipahdplkmmofaaGreatDoor
open Go.RowKit
set_option linter.unusedVariables false
set_option linter.unusedSimpArgs false
theorem head4_at (s : ByteArray) (a : Nat) (h : a < s.size) : (s.data.toList.drop a).head? = some s[a] := by
  rw [List.drop_eq_getElem_cons (by rw [sz_list]; exact h)]; rfl
theorem head4_end (s : ByteArray) (a : Nat) (h : ¬ a < s.size) : (s.data.toList.drop a).head? = none := by
  rw [List.drop_eq_nil_of_le (by rw [sz_list]; omega)]; rfl
theorem bytne4 {x b : UInt8} (h : ¬ x = b) : (((x.toNat : Int)) != (b.toNat : Int)) = true := by
  rw [bne_iff_ne]; intro e; exact h (UInt8.toNat_inj.1 (by omega))
theorem byteq4 {x b : UInt8} (h : x = b) : (((x.toNat : Int)) != (b.toNat : Int)) = false := by rw [h]; simp
set_option maxRecDepth 100000 in
set_option maxHeartbeats 2000000 in
theorem rsign_any (C : Nat) (s : ByteArray) (hs : s.size ≤ 281474976710656) (a : Nat) (ok : Bool) (b : UInt8) (ha : a ≤ s.size) (a' : Nat) (ok' : Bool) (h : letR b s.data.toList a ok = (a', ok')) (W : World) (hC : CL W C s a ok) :
    Calls Tryz.prog 40 #[.pointer (some ⟨C, 0, none⟩), .int .u8 (b.toNat : Int)] W fun e w' => e = .returned undef ∧ CL w' C s a' ok' ∧ W.grownBy w' (some C) := by
  have HH : Hid (CL W C s a ok) := hC
  obtain ⟨h0, ⟨h1, h2, h3, h4, h5, h6, h7⟩, f1, f2, f3, f4, f5, f6⟩ := hC
  cases ok with
  | false =>
    rw [letR_no] at h
    simp only [Prod.mk.injEq] at h
    obtain ⟨rfl, rfl⟩ := h
    have e3 : bcK false = 41 := rfl
    rw [e3] at h3
    go_enter Tryz.func40, Tryz.ntmps40
    go_wp2_with fail
    first | go_end0 | (simp only [Exit.inBlock, Exit.then]; refine bodyPost_ret (results_none rfl _ _ _) rfl ?_) | refine bodyPost_ret (results_none rfl _ _ _) rfl ?_
    exact ⟨rfl, HH.out, grown_refl _ _⟩
  | true =>
    have e3 : bcK true = 0 := rfl
    rw [e3] at h3
    clear e3
    unfold letR at h
    rw [if_pos rfl] at h
    have WR := fun W hW => wrong_any C s a ha W hW
    by_cases c1 : a < s.size
    · rw [head4_at s a c1] at h
      have hd : decide ((s.size : Int) ≤ (a : Int)) = false := decide_eq_false (by omega)
      have hi1 : (a : Int) < (s.size : Int) := by omega
      have hi0 : (0 : Int) ≤ (a : Int) := by omega
      by_cases c2 : s[a] = b
      · rw [if_pos (by rw [c2])] at h
        simp only [Prod.mk.injEq] at h
        obtain ⟨rfl, rfl⟩ := h
        have hb := byteq4 c2
        clear c2
        go_enter Tryz.func40, Tryz.ntmps40
        go_wp2_with fail
        go_quiet (fail)
        have KQ := HH.out.keep (below_drewN (Below.refl W.heap.size W) nq) HH.out.1
        have GQ := grown_of_below C (below_drewN (Below.refl W.heap.size W) nq)
        generalize W.drewN nq = wq at *
        have HQ : Hid (CL wq C s a true) := KQ
        obtain ⟨_, ⟨k1, k2, k3, k4, k5, k6, k7⟩, g1, g2, g3, g4, g5, g6⟩ := KQ
        clear h1 h2 h3 h4 h5 h6 h7 f1 f2 f3 f4 f5 f6 HH
        have wn : IntKind.i64.wrap ((a : Int) + 1) = ((a + 1 : Nat) : Int) := by rw [IntWalk.i64_in _ (by omega)]; omega
        have wn2 : wrap64 ((a : Int) + 1) = ((a + 1 : Nat) : Int) := by rw [IntWalk.wrap64_in _ (by omega)]; omega
        go_wp2_with fail
        first | go_end0 | (simp only [Exit.inBlock, Exit.then]; refine bodyPost_ret (results_none rfl _ _ _) rfl ?_) | refine bodyPost_ret (results_none rfl _ _ _) rfl ?_
        exact ⟨rfl, HQ.out.move (a + 1), grown_trans GQ (grown_set _ _ _ _)⟩
      · rw [if_neg (by intro e; injection e with e; exact c2 e)] at h
        simp only [Prod.mk.injEq] at h
        obtain ⟨rfl, rfl⟩ := h
        have hb := bytne4 c2
        clear c2
        go_enter Tryz.func40, Tryz.ntmps40
        go_wp2_with fail
        go_quiet (fail)
        have KQ := HH.out.keep (below_drewN (Below.refl W.heap.size W) nq) HH.out.1
        have GQ := grown_of_below C (below_drewN (Below.refl W.heap.size W) nq)
        generalize W.drewN nq = wq at *
        have HQ : Hid (CL wq C s a true) := KQ
        obtain ⟨_, ⟨k1, k2, k3, k4, k5, k6, k7⟩, g1, g2, g3, g4, g5, g6⟩ := KQ
        clear h1 h2 h3 h4 h5 h6 h7 f1 f2 f3 f4 f5 f6 HH
        go_wp2_with fail
        refine (WR _ HQ.out).mono ?_
        rintro e w2 ⟨rfl, K2, G2⟩
        go_wp2_with fail
        first | go_end0 | (simp only [Exit.inBlock, Exit.then]; refine bodyPost_ret (results_none rfl _ _ _) rfl ?_) | refine bodyPost_ret (results_none rfl _ _ _) rfl ?_
        exact ⟨rfl, K2, grown_trans GQ G2⟩
    · rw [head4_end s a c1] at h
      rw [if_neg (by simp)] at h
      simp only [Prod.mk.injEq] at h
      obtain ⟨rfl, rfl⟩ := h
      have hd : decide ((s.size : Int) ≤ (a : Int)) = true := decide_eq_true (by omega)
      go_enter Tryz.func40, Tryz.ntmps40
      go_wp2_with fail
      go_quiet (fail)
      have KQ := HH.out.keep (below_drewN (Below.refl W.heap.size W) nq) HH.out.1
      have GQ := grown_of_below C (below_drewN (Below.refl W.heap.size W) nq)
      generalize W.drewN nq = wq at *
      have HQ : Hid (CL wq C s a true) := KQ
      obtain ⟨_, ⟨k1, k2, k3, k4, k5, k6, k7⟩, g1, g2, g3, g4, g5, g6⟩ := KQ
      clear h1 h2 h3 h4 h5 h6 h7 f1 f2 f3 f4 f5 f6 HH
      go_wp2_with fail
      refine (WR _ HQ.out).mono ?_
      rintro e w2 ⟨rfl, K2, G2⟩
      go_wp2_with fail
      first | go_end0 | (simp only [Exit.inBlock, Exit.then]; refine bodyPost_ret (results_none rfl _ _ _) rfl ?_) | refine bodyPost_ret (results_none rfl _ _ _) rfl ?_
      exact ⟨rfl, K2, grown_trans GQ G2⟩
end Go.Proofs.YtipahdplkmmofaaGreatDoor
