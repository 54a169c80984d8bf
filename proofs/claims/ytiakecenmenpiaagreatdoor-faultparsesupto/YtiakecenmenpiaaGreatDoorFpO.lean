
import Derived.Test.YtiakecenmenpiaaGreatDoorFpM
import Derived.Test.YtiakecenmenpiaaGreatDoorFnJ
namespace Go.Proofs.YtiakecenmenpiaaGreatDoor
open Go.RowKit
set_option linter.unusedVariables false
set_option linter.unusedSimpArgs false
/-- of a line the document reads what it says. -/
theorem doc_reads {i p : Option Int} {c : Int} (hi : OkI i) (hp : OkI p) {S R1 R2 : ByteArray} {v1 v2 : Int} {q1 q2 : Bool} (hS : lineL i p c = S.data.toList) (h1 : LDr numW S v1 R1 q1) (h2 : LDr atW R1 v2 R2 q2) :
    v1 = i.getD 0 ∧ q1 = i.isSome ∧ v2 = p.getD 0 ∧ q2 = p.isSome ∧ R2 = nameS c := by
  obtain ⟨a1, a2, a3⟩ := LDr.num hi hS.symm h1
  obtain ⟨b1, b2, b3⟩ := LDr.at hp a3 h2
  exact ⟨a1, a2, b1, b2, ba_eq (by rw [b3, nameS_list])⟩
theorem oI_back (i : Option Int) : oI i.isSome (i.getD 0) = i := by cases i <;> rfl
set_option maxRecDepth 100000 in
set_option maxHeartbeats 4000000 in
theorem rparse_any (S : ByteArray) (hs : S.size ≤ 281474976710656) (w : World) (hE : EV w) :
    Calls Tryz.prog 5 #[.string S] w fun e w' => PRD S e ∧ Below w.heap.size w w' := by
  have kN : Hid (∀ w, EV w → Calls Tryz.prog 11 #[.string S, .string ⟨#[110, 117, 109, 98, 101, 114, 32]⟩] w fun e w' => LD numW S e ∧ Below w.heap.size w w') := fun w h => leadN S hs w h
  have Z0 := RZ.start w
  obtain ⟨W0, hW0⟩ : ∃ W0, W0 = ((w.alloc (.cells #[.int .i64 0, .int .i64 0, .int .i64 0, .bool false, .bool false] 28)).alloc (.cells #[.int .i64 0, .int .i64 0, .int .i64 0, .bool false, .bool false] 28)).alloc (.cells #[.int .i64 0, .int .i64 0, .int .i64 0, .bool false, .bool false] 28) := ⟨_, rfl⟩
  rw [← hW0] at Z0
  have hWH : Hid _ := hW0
  have Z0H : Hid _ := Z0
  have hEH : Hid _ := hE
  have hsH : Hid _ := hs
  clear hW0 Z0 hE hs
  go_enter Tryz.func5, Tryz.ntmps5
  go_wp2_with fail
  rw [← hWH.out]
  refine (kN.out _ (hEH.out.below Z0H.out.b)).mono ?_
  rintro e1 w1 ⟨hl1, B1⟩
  obtain ⟨v1, R1, q1, hL1, rfl⟩ := LD_r hl1
  have Z1 := Z0H.out.below B1
  have Z1a := Z1.set 2 (.int .i64 v1) (c' := 0) (a' := 0) (i' := v1) (P' := false) (Q' := false) rfl (fun k hk => by match k, hk with | 0, _ => rfl | 1, _ => rfl | 3, _ => rfl | 4, _ => rfl | k + 5, _ => rfl)
  have Z1b := Z1a.set 4 (.bool q1) (c' := 0) (a' := 0) (i' := v1) (P' := false) (Q' := q1) rfl (fun k hk => by match k, hk with | 0, _ => rfl | 1, _ => rfl | 2, _ => rfl | 3, _ => rfl | k + 5, _ => rfl)
  have x1 := Z1.e.2.2.1
  have x2 : w1.frozen? ⟨w.heap.size + 1 + 1, 2, none⟩ = false := Z1.f 2 2 (by omega)
  have x3 := Z1a.e.2.2.2.2
  have x4 : (w1.setCell ⟨w.heap.size + 1 + 1, 2, none⟩ (.int .i64 v1)).frozen? ⟨w.heap.size + 1 + 1, 4, none⟩ = false := Z1a.f 2 4 (by omega)
  have xz := Z1.sz
  have hL1H : Hid (LDr numW S v1 R1 q1) := hL1
  have Z1H : Hid _ := Z1b
  have kA : Hid (∀ w, EV w → Calls Tryz.prog 11 #[.string R1, .string ⟨#[97, 116, 32]⟩] w fun e w' => LD atW R1 e ∧ Below w.heap.size w w') := fun w h => leadA R1 (Nat.le_trans (LDr.le hL1H.out) hsH.out) w h
  clear hl1 hL1 Z1 Z1a Z1b B1 Z0H hWH kN
  go_wp2_with fail
  refine (kA.out _ (hEH.out.below Z1H.out.b)).mono ?_
  rintro e2 w2 ⟨hl2, B2⟩
  obtain ⟨v2, R2, q2, hL2, rfl⟩ := LD_r hl2
  have Z2 := Z1H.out.below B2
  have Z2a := Z2.set 1 (.int .i64 v2) (c' := 0) (a' := v2) (i' := v1) (P' := false) (Q' := q1) rfl (fun k hk => by match k, hk with | 0, _ => rfl | 2, _ => rfl | 3, _ => rfl | 4, _ => rfl | k + 5, _ => rfl)
  have Z2b := Z2a.set 3 (.bool q2) (c' := 0) (a' := v2) (i' := v1) (P' := q2) (Q' := q1) rfl (fun k hk => by match k, hk with | 0, _ => rfl | 1, _ => rfl | 2, _ => rfl | 4, _ => rfl | k + 5, _ => rfl)
  have y1 := Z2.e.2.1
  have y2 : w2.frozen? ⟨w.heap.size + 1 + 1, 1, none⟩ = false := Z2.f 2 1 (by omega)
  have y3 := Z2a.e.2.2.2.1
  have y4 : (w2.setCell ⟨w.heap.size + 1 + 1, 1, none⟩ (.int .i64 v2)).frozen? ⟨w.heap.size + 1 + 1, 3, none⟩ = false := Z2a.f 2 3 (by omega)
  have yz := Z2.sz
  have hL2H : Hid (LDr atW R1 v2 R2 q2) := hL2
  have Z2H : Hid _ := Z2b
  have kF : Hid (∀ w, EV w → Calls Tryz.prog 12 #[.string R2] w fun e w' => FTr R2 e ∧ Below w.heap.size w w') := fun w h => rfind_any R2 (Nat.le_trans (LDr.le hL2H.out) (Nat.le_trans (LDr.le hL1H.out) hsH.out)) w h
  clear hl2 hL2 Z2 Z2a Z2b B2 Z1H kA x1 x2 x3 x4 xz
  go_wp2_with fail
  refine (kF.out _ (hEH.out.below Z2H.out.b)).mono ?_
  rintro e3 w3 ⟨hf, B3⟩
  have Z3 := Z2H.out.below B3
  clear y1 y2 y3 y4 yz Z2H kF B3
  obtain ⟨c, bc, rfl, hcc⟩ : ∃ c bc, e3 = .returned (.tuple #[.int .i64 c, .agg #[.int .i64 bc, .int .i64 0, .int .i64 0, .bool false, .bool false]]) ∧ ((bc = 0 ∧ I64' c ∧ nameS c = R2) ∨ (bc = 4 ∧ c = 0 ∧ ∀ n, I64' n → nameS n ≠ R2)) := by
    rcases hf with ⟨n, hn, hT, rfl⟩ | ⟨hno, rfl⟩
    · exact ⟨n, 0, rfl, Or.inl ⟨rfl, hn, hT⟩⟩
    · exact ⟨0, 4, rfl, Or.inr ⟨rfl, rfl, hno⟩⟩
  have Z4 := Z3.below (bnew (Below.refl _ w3) (.cells #[.int .i64 bc, .int .i64 0, .int .i64 0, .bool false, .bool false] 28))
  have Z3s := Z3.set 0 (.int .i64 c) (c' := c) (a' := v2) (i' := v1) (P' := q2) (Q' := q1) rfl (fun k hk => by match k, hk with | 1, _ => rfl | 2, _ => rfl | 3, _ => rfl | 4, _ => rfl | k + 5, _ => rfl)
  have Z5 := Z3s.below (bnew (Below.refl _ (w3.setCell ⟨w.heap.size + 1 + 1, 0, none⟩ (.int .i64 c))) (.cells #[.int .i64 bc, .int .i64 0, .int .i64 0, .bool false, .bool false] 28))
  have u1 := Z4.e.1
  have u2 : (w3.alloc (.cells #[.int .i64 bc, .int .i64 0, .int .i64 0, .bool false, .bool false] 28)).frozen? ⟨w.heap.size + 1 + 1, 0, none⟩ = false := Z4.f 2 0 (by omega)
  have uz := Z3.sz
  have ub : ((w3.setCell ⟨w.heap.size + 1 + 1, 0, none⟩ (.int .i64 c)).alloc (.cells #[.int .i64 bc, .int .i64 0, .int .i64 0, .bool false, .bool false] 28)).cell? ⟨w3.heap.size, 0, none⟩ = some (.int .i64 bc) := by
    obtain ⟨X, hX⟩ : ∃ X, X = w3.setCell ⟨w.heap.size + 1 + 1, 0, none⟩ (.int .i64 c) := ⟨_, rfl⟩
    have h1 : X.heap.size = w3.heap.size := by rw [hX]; simp
    rw [← hX, ← h1]
    simp [go_sem]
  obtain ⟨W5, hW5⟩ : ∃ W5, W5 = (w3.setCell ⟨w.heap.size + 1 + 1, 0, none⟩ (.int .i64 c)).alloc (.cells #[.int .i64 bc, .int .i64 0, .int .i64 0, .bool false, .bool false] 28) := ⟨_, rfl⟩
  rw [← hW5] at Z5 ub
  have uz5 : w3.heap.size < W5.heap.size := by rw [hW5]; simp
  have hW5H : Hid _ := hW5
  have ZX : Hid _ := Z5
  have hccH : Hid _ := hcc
  have iv1 : I64' v1 := LDr.I hL1H.out
  have iv2 : I64' v2 := LDr.I hL2H.out
  have ivH : Hid (I64' v1 ∧ I64' v2) := ⟨iv1, iv2⟩
  clear hf Z3 Z4 Z5 Z3s hW5 hcc iv1 iv2
  by_cases hok : S = ⟨#[111, 107]⟩
  · have hokb : (S.toList == [111, 107]) = true := by rw [hok, ByteArray.toList_eq]; rfl
    have hE1 : Hid (∀ e, e = .returned (.tuple #[badV 0 0 0 false false, badV 0 0 0 false false]) → PRD S e) := fun e he => Or.inl ⟨hok, he⟩
    clear hok
    go_upto_region 7 with fail
    rw [← hW5H.out]
    clear u1 u2
    obtain ⟨m0, m1, m2, m3, m4⟩ := ZX.out.r 0 (by omega)
    obtain ⟨n0, n1, n2, n3, n4⟩ := ZX.out.r 1 (by omega)
    have g0 := ZX.out.f 0 0 (by omega)
    have g1 := ZX.out.f 0 1 (by omega)
    have g2 := ZX.out.f 0 2 (by omega)
    have g3 := ZX.out.f 0 3 (by omega)
    have g4 := ZX.out.f 0 4 (by omega)
    have k0 := ZX.out.f 1 0 (by omega)
    have k1 := ZX.out.f 1 1 (by omega)
    have k2 := ZX.out.f 1 2 (by omega)
    have k3 := ZX.out.f 1 3 (by omega)
    have k4 := ZX.out.f 1 4 (by omega)
    have z9 := ZX.out.sz
    have b9 := ZX.out.b
    simp only [Nat.add_zero] at m0 m1 m2 m3 m4 g0 g1 g2 g3 g4
    go_wp2_with fail
    simp [bodyPost, results, Tryz.results5, go_sem, m0, m1, m2, m3, m4, n0, n1, n2, n3, n4]
    exact ⟨hE1.out _ rfl, setBad5 (setBad5 b9 (Nat.le_refl _)) (Nat.le_succ _)⟩
  · have hokb : (S.toList == [111, 107]) = false := by rw [beq_eq_false_iff_ne, ByteArray.toList_eq]; exact fun h => hok (ba_eq h)
    have hokH : Hid _ := hok
    clear hok
    go_upto_region 7 with fail
    rw [← hW5H.out]
    clear u1 u2
    rcases hccH.out with ⟨hb0, hcI, hnm⟩ | ⟨hb4, hc0, hno⟩
    · by_cases h0 : c = 0
      · have hE3 : Hid (∀ e, e = .returned (.tuple #[badV 0 0 0 false false, badV 31 0 0 false false]) → PRD S e) := fun e he => by
          refine Or.inr (Or.inr ⟨hokH.out, fun i p c' hi hp hc' hc0' hl => ?_, he⟩)
          have hr := (doc_reads hi hp hl hL1H.out hL2H.out).2.2.2.2
          exact hc0' (nameS_inj hc' hcI (by rw [← hr, hnm]) |>.trans h0)
        clear hccH hnm hcI
        subst hb0 h0
        go_wp2_with fail
        refine (rnew_any 31 _).mono ?_
        rintro e9 w9 ⟨rfl, B9⟩
        have Z9 := ZX.out.below B9
        obtain ⟨m0, m1, m2, m3, m4⟩ := Z9.r 0 (by omega)
        obtain ⟨n0, n1, n2, n3, n4⟩ := Z9.r 1 (by omega)
        have g0 : w9.frozen? ⟨w.heap.size, 0, none⟩ = false := Z9.f 0 0 (by omega)
        have g1 : w9.frozen? ⟨w.heap.size, 1, none⟩ = false := Z9.f 0 1 (by omega)
        have g2 : w9.frozen? ⟨w.heap.size, 2, none⟩ = false := Z9.f 0 2 (by omega)
        have g3 : w9.frozen? ⟨w.heap.size, 3, none⟩ = false := Z9.f 0 3 (by omega)
        have g4 : w9.frozen? ⟨w.heap.size, 4, none⟩ = false := Z9.f 0 4 (by omega)
        have k0 : w9.frozen? ⟨w.heap.size + 1, 0, none⟩ = false := Z9.f 1 0 (by omega)
        have k1 : w9.frozen? ⟨w.heap.size + 1, 1, none⟩ = false := Z9.f 1 1 (by omega)
        have k2 : w9.frozen? ⟨w.heap.size + 1, 2, none⟩ = false := Z9.f 1 2 (by omega)
        have k3 : w9.frozen? ⟨w.heap.size + 1, 3, none⟩ = false := Z9.f 1 3 (by omega)
        have k4 : w9.frozen? ⟨w.heap.size + 1, 4, none⟩ = false := Z9.f 1 4 (by omega)
        have z9 := Z9.sz
        have b9 := Z9.b
        simp only [Nat.add_zero] at m0 m1 m2 m3 m4
        clear Z9 B9
        go_wp2_with fail
        simp [bodyPost, results, Tryz.results5, go_sem, m0, m1, m2, m3, m4, n0, n1, n2, n3, n4]
        exact ⟨hE3.out _ rfl, setBad5 (setBad5 b9 (Nat.le_refl _)) (Nat.le_succ _)⟩
      · have hz : (c == 0) = false := by rw [beq_eq_false_iff_ne]; exact h0
        have kP : Hid (∀ w, EV w → Calls Tryz.prog 13 #[.agg #[.int .i64 c, .int .i64 v2, .int .i64 v1, .bool q2, .bool q1]] w fun e w' => e = .returned (.string (B (lineL (oI q1 v1) (oI q2 v2) c))) ∧ Below w.heap.size w w') := fun w h => rprint_any c v2 v1 q2 q1 hcI ivH.out.2 ivH.out.1 h0 w h
        obtain ⟨L, hL⟩ : ∃ L, L = B (lineL (oI q1 v1) (oI q2 v2) c) := ⟨_, rfl⟩
        rw [← hL] at kP
        have hLH : Hid _ := hL
        have hfin : Hid (L = S → ∀ e, e = .returned (.tuple #[badV c v2 v1 q2 q1, badV 0 0 0 false false]) → PRD S e) := fun hLS e he => by
          have g1 := oI_getD q1 v1 (LDr.zero hL1H.out)
          have g2 := oI_getD q2 v2 (LDr.zero hL2H.out)
          refine Or.inr (Or.inl ⟨hokH.out, oI q1 v1, oI q2 v2, c, oI_ok _ _ ivH.out.1, oI_ok _ _ ivH.out.2, hcI, h0, ?_, ?_⟩)
          · rw [← hLS, hLH.out, B_list]
          · rw [g1.1, g1.2, g2.1, g2.2]; exact he
        have hbadL : Hid (L ≠ S → ∀ e, e = .returned (.tuple #[badV 0 0 0 false false, badV 31 0 0 false false]) → PRD S e) := fun hLS e he => by
          refine Or.inr (Or.inr ⟨hokH.out, fun i p c' hi hp hc' hc0' hl => ?_, he⟩)
          obtain ⟨r1, r2, r3, r4, r5⟩ := doc_reads hi hp hl hL1H.out hL2H.out
          have hcc' : c = c' := nameS_inj hcI hc' (by rw [← r5, hnm])
          refine hLS ?_
          rw [hLH.out, r1, r2, r3, r4, oI_back, oI_back, hcc', hl, B_of]
        subst hb0
        obtain ⟨z0, z1, z2, z3, z4⟩ := ZX.out.e
        have zz := ZX.out.sz
        clear hccH hnm hcI h0 hL
        go_wp2_with fail
        refine (kP.out _ (hEH.out.below ZX.out.b)).mono ?_
        rintro e6 w6 ⟨rfl, B6⟩
        have Z6 := ZX.out.below B6
        have ZX6 : Hid _ := Z6
        clear z0 z1 z2 z3 z4 zz ub uz5 B6 Z6 ZX
        have ZX := ZX6
        clear ZX6
        by_cases hLS : L = S
        · have hb : (L.toList == S.toList) = true := by rw [hLS]; simp
          have hE2 : Hid _ := hfin.out hLS
          obtain ⟨z0, z1, z2, z3, z4⟩ := ZX.out.e
          clear hLS hbadL hfin
          obtain ⟨m0, m1, m2, m3, m4⟩ := ZX.out.r 0 (by omega)
          obtain ⟨n0, n1, n2, n3, n4⟩ := ZX.out.r 1 (by omega)
          have g0 := ZX.out.f 0 0 (by omega)
          have g1 := ZX.out.f 0 1 (by omega)
          have g2 := ZX.out.f 0 2 (by omega)
          have g3 := ZX.out.f 0 3 (by omega)
          have g4 := ZX.out.f 0 4 (by omega)
          have k0 := ZX.out.f 1 0 (by omega)
          have k1 := ZX.out.f 1 1 (by omega)
          have k2 := ZX.out.f 1 2 (by omega)
          have k3 := ZX.out.f 1 3 (by omega)
          have k4 := ZX.out.f 1 4 (by omega)
          have z9 := ZX.out.sz
          have b9 := ZX.out.b
          simp only [Nat.add_zero] at m0 m1 m2 m3 m4 g0 g1 g2 g3 g4
          go_wp2_with fail
          simp [bodyPost, results, Tryz.results5, go_sem, m0, m1, m2, m3, m4, n0, n1, n2, n3, n4]
          exact ⟨hE2.out _ rfl, setBad5 (setBad5 b9 (Nat.le_refl _)) (Nat.le_succ _)⟩
        · have hb := ba_ne hLS
          have hE3 : Hid _ := hbadL.out hLS
          clear hLS hbadL hfin
          go_wp2_with fail
          refine (rnew_any 31 _).mono ?_
          rintro e9 w9 ⟨rfl, B9⟩
          have Z9 := ZX.out.below B9
          obtain ⟨m0, m1, m2, m3, m4⟩ := Z9.r 0 (by omega)
          obtain ⟨n0, n1, n2, n3, n4⟩ := Z9.r 1 (by omega)
          have g0 : w9.frozen? ⟨w.heap.size, 0, none⟩ = false := Z9.f 0 0 (by omega)
          have g1 : w9.frozen? ⟨w.heap.size, 1, none⟩ = false := Z9.f 0 1 (by omega)
          have g2 : w9.frozen? ⟨w.heap.size, 2, none⟩ = false := Z9.f 0 2 (by omega)
          have g3 : w9.frozen? ⟨w.heap.size, 3, none⟩ = false := Z9.f 0 3 (by omega)
          have g4 : w9.frozen? ⟨w.heap.size, 4, none⟩ = false := Z9.f 0 4 (by omega)
          have k0 : w9.frozen? ⟨w.heap.size + 1, 0, none⟩ = false := Z9.f 1 0 (by omega)
          have k1 : w9.frozen? ⟨w.heap.size + 1, 1, none⟩ = false := Z9.f 1 1 (by omega)
          have k2 : w9.frozen? ⟨w.heap.size + 1, 2, none⟩ = false := Z9.f 1 2 (by omega)
          have k3 : w9.frozen? ⟨w.heap.size + 1, 3, none⟩ = false := Z9.f 1 3 (by omega)
          have k4 : w9.frozen? ⟨w.heap.size + 1, 4, none⟩ = false := Z9.f 1 4 (by omega)
          have z9 := Z9.sz
          have b9 := Z9.b
          simp only [Nat.add_zero] at m0 m1 m2 m3 m4
          clear Z9 B9
          go_wp2_with fail
          simp [bodyPost, results, Tryz.results5, go_sem, m0, m1, m2, m3, m4, n0, n1, n2, n3, n4]
          exact ⟨hE3.out _ rfl, setBad5 (setBad5 b9 (Nat.le_refl _)) (Nat.le_succ _)⟩
    · have hE3 : Hid (∀ e, e = .returned (.tuple #[badV 0 0 0 false false, badV 31 0 0 false false]) → PRD S e) := fun e he => by
        refine Or.inr (Or.inr ⟨hokH.out, fun i p c' hi hp hc' hc0' hl => ?_, he⟩)
        have hr := (doc_reads hi hp hl hL1H.out hL2H.out).2.2.2.2
        exact hno c' hc' hr.symm
      clear hccH hno
      subst hb4
      go_wp2_with fail
      refine (rnew_any 31 _).mono ?_
      rintro e9 w9 ⟨rfl, B9⟩
      have Z9 := ZX.out.below B9
      obtain ⟨m0, m1, m2, m3, m4⟩ := Z9.r 0 (by omega)
      obtain ⟨n0, n1, n2, n3, n4⟩ := Z9.r 1 (by omega)
      have g0 : w9.frozen? ⟨w.heap.size, 0, none⟩ = false := Z9.f 0 0 (by omega)
      have g1 : w9.frozen? ⟨w.heap.size, 1, none⟩ = false := Z9.f 0 1 (by omega)
      have g2 : w9.frozen? ⟨w.heap.size, 2, none⟩ = false := Z9.f 0 2 (by omega)
      have g3 : w9.frozen? ⟨w.heap.size, 3, none⟩ = false := Z9.f 0 3 (by omega)
      have g4 : w9.frozen? ⟨w.heap.size, 4, none⟩ = false := Z9.f 0 4 (by omega)
      have k0 : w9.frozen? ⟨w.heap.size + 1, 0, none⟩ = false := Z9.f 1 0 (by omega)
      have k1 : w9.frozen? ⟨w.heap.size + 1, 1, none⟩ = false := Z9.f 1 1 (by omega)
      have k2 : w9.frozen? ⟨w.heap.size + 1, 2, none⟩ = false := Z9.f 1 2 (by omega)
      have k3 : w9.frozen? ⟨w.heap.size + 1, 3, none⟩ = false := Z9.f 1 3 (by omega)
      have k4 : w9.frozen? ⟨w.heap.size + 1, 4, none⟩ = false := Z9.f 1 4 (by omega)
      have z9 := Z9.sz
      have b9 := Z9.b
      simp only [Nat.add_zero] at m0 m1 m2 m3 m4
      clear Z9 B9
      go_wp2_with fail
      simp [bodyPost, results, Tryz.results5, go_sem, m0, m1, m2, m3, m4, n0, n1, n2, n3, n4]
      exact ⟨hE3.out _ rfl, setBad5 (setBad5 b9 (Nat.le_refl _)) (Nat.le_succ _)⟩
end Go.Proofs.YtiakecenmenpiaaGreatDoor
