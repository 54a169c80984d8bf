
import Derived.Test.YtipahdplkmmofaaGreatDoorSpW
import Derived.Test.YtipahdplkmmofaaGreatDoorSpY
namespace Go.Proofs.YtipahdplkmmofaaGreatDoor
open Go.RowKit Go.Shelf
set_option linter.unusedVariables false
set_option linter.unusedSimpArgs false
def atE (p : Int) : Value := .iface 67 (.agg #[.int .i64 p, .iface 27 (.int .i64 41)])
theorem at41 (p : Int) (w : World) : Calls Tryz.prog 37 #[.int .i64 p, .int .i64 41] w fun e w' => e = .returned (.iface 67 (.agg #[.int .i64 p, .iface 27 (.int .i64 41)])) ∧ Below w.heap.size w w' := by
  go_enter Tryz.func37, Tryz.ntmps37
  go_wp2_with fail
  go_ret
  exact ⟨rfl, by first | exact Below.refl _ _ | exact (Below.refl _ w).alloc (Nat.le_refl _) _⟩
def tmRes (l : List UInt8) : Ending := if (goT l).2.2 = false ∨ (goT l).2.1 < l.length then .returned (.tuple #[.int .i64 0, atE (goT l).2.1]) else nE (nsC (goT l).1)
theorem ck_new (w : World) : CK w.heap.size clk0 (w.alloc (.cells #[.int .i64 0, .int .i64 0, .int .i64 0, .int .i64 0, .int .i64 0, .int .i64 0, .int .i64 0, .int .i64 0, .int .i64 0, .int .i64 0] 78)) := by
  intro i hi
  have a : i = 0 ∨ i = 1 ∨ i = 2 ∨ i = 3 ∨ i = 4 ∨ i = 5 ∨ i = 6 ∨ i = 7 ∨ i = 8 ∨ i = 9 := by omega
  rcases a with e | e | e | e | e | e | e | e | e | e <;> subst e <;> exact ⟨by simp [go_sem, Clk.get, clk0], by simp [go_sem]⟩
theorem MT.lt {w : World} (h : MT w) : 3 < w.heap.size := World.block_lt_of_cell? _ _ (h 0 (by omega))
/-- the last steps of Time: what is told at a place and a clock. -/
theorem drop0 (l : List UInt8) : l.drop 0 = l := rfl
set_option maxRecDepth 100000 in
set_option maxHeartbeats 8000000 in
theorem time_any (s : ByteArray) (hs : s.size ≤ 9223372036854775807) (w : World) (hM : MT w) : Calls Tryz.prog 12 #[.string s] w fun e w' => e = tmRes s.data.toList ∧ Below w.heap.size w w' := by
  have HL : Hid (s.data.toList.length = s.size) := sz_list s
  have HM : Hid (MT w) := hM
  have mlt := hM.lt
  clear hM
  obtain ⟨R, hR⟩ : ∃ R, thr locP clk0 s.data.toList 0 = R := ⟨_, rfl⟩
  have HR : Hid (thr locP clk0 (s.data.toList.drop 0) 0 = R) := hR
  have HG : goT s.data.toList = if R.2.2 = true ∧ R.1.ah ≠ 0 then thr zonP R.1 (s.data.toList.drop R.2.1) R.2.1 else R := by unfold goT; rw [hR]
  obtain ⟨C, hC⟩ : ∃ C, C = w.heap.size := ⟨_, rfl⟩
  have HC : Hid (C = w.heap.size) := hC
  have hCm : C ≠ 3 := by omega
  obtain ⟨WA, hWA⟩ : ∃ WA, WA = w.alloc (.cells #[.int .i64 0, .int .i64 0, .int .i64 0, .int .i64 0, .int .i64 0, .int .i64 0, .int .i64 0, .int .i64 0, .int .i64 0, .int .i64 0] 78) := ⟨_, rfl⟩
  have HWA : Hid (WA = w.alloc (.cells #[.int .i64 0, .int .i64 0, .int .i64 0, .int .i64 0, .int .i64 0, .int .i64 0, .int .i64 0, .int .i64 0, .int .i64 0, .int .i64 0] 78)) := hWA
  have BA : Below w.heap.size w WA := by rw [hWA]; exact below_new (Below.refl _ _) _
  have KA : CK C clk0 WA := by rw [hC, hWA]; exact ck_new w
  have CA : C < WA.heap.size := KA.lt
  have wc : w.heap.size ≤ C := by omega
  clear hC hWA hR mlt
  go_enter Tryz.func12, Tryz.ntmps12
  go_wp2_with fail
  rw [← HWA.out, ← HC.out]
  refine (local_any C WA CA).mono ?_
  rintro e w1 ⟨S, fs, rfl, hSC, hfl, hcell, hpc, B1⟩
  have TH : Hid (Calls Tryz.prog 34 #[.string s, .int .i64 0, .slice (some ⟨S, 0, none⟩) 13 13] w1 fun e w' => e = .returned (.tuple #[.int .i64 (R.2.1 : Int), .bool R.2.2]) ∧ CK C R.1 w' ∧ w1.grownBy w' (some C) ∧ (R.2.2 = true → InvL 13 R.1) ∧ R.2.1 ≤ s.size) :=
    through_any C S 13 13 fs locP hfl rfl (by omega) s hs 0 (Nat.zero_le _) clk0 InvL invL_0 invL_step invL_day w1 (HM.out.below (below_then BA B1)) hCm hSC hcell hpc (KA.after B1) R HR.out
  have B1' : Below w.heap.size w w1 := below_then BA B1
  clear hcell hpc hfl hSC HR BA KA B1 CA
  go_wp2_with fail
  refine TH.out.mono ?_
  rintro e w2 ⟨rfl, K2, G2, I2, at2⟩
  have B2 : Below w.heap.size w w2 := B1'.grown G2 B1'.size (fun k hk => by injection hk with hk; omega)
  clear TH G2 B1'
  have HD : Hid (∀ (G : Clk × Nat × Bool) (W : World), Below w.heap.size w W → CK C G.1 W → Good G.1 → Calls Tryz.prog 38 #[.pointer (some ⟨C, 0, none⟩)] W fun e w' => e = .returned (.tuple #[.int .i64 (sm0 (nsC G.1)), sm1 (nsC G.1)]) ∧ Below W.heap.size W w') := fun G W hb hk hg => ctime_any C G.1 hg W (HM.out.below hb) hk
  have HA : Hid (∀ (p : Int) (W : World), Calls Tryz.prog 37 #[.int .i64 p, .int .i64 41] W fun e w' => e = .returned (.iface 67 (.agg #[.int .i64 p, .iface 27 (.int .i64 41)])) ∧ Below W.heap.size W w') := at41
  obtain ⟨c, a, ok⟩ := R
  simp only at HG K2 I2 at2 ⊢
  cases ok with
  | false =>
    have eG : goT s.data.toList = (c, a, false) := by rw [HG, if_neg (by simp)]
    have HE : Hid (tmRes s.data.toList = .returned (.tuple #[.int .i64 0, atE a])) := by
      show _ = _
      unfold tmRes; rw [eG, if_pos (Or.inl rfl)]
    clear eG
    clear HG I2
    go_wp2_with (go_at_call 37; refine (HA.out _ _).mono ?_; rintro e w3 ⟨rfl, B3⟩)
    go_ret2
    exact ⟨by rw [HE.out]; rfl, below_then B2 B3⟩
  | true =>
    have gd := (I2 rfl).good
    clear I2
    have k7 : w2.cell? ⟨C, 7, none⟩ = some (.int .i64 c.ah) := (K2 7 (by omega)).1
    by_cases hz : c.ah = 0
    · have hz' : (c.ah != 0) = false := by simp [hz]
      have eG : goT s.data.toList = (c, a, true) := by rw [HG, if_neg (by simp [hz])]
      clear HG
      by_cases hlt : a < s.size
      · have hltI : (a : Int) < (s.size : Int) := by omega
        have HE : Hid (tmRes s.data.toList = .returned (.tuple #[.int .i64 0, atE a])) := by
          show _ = _
          unfold tmRes; rw [eG, if_pos (Or.inr (by rw [HL.out]; exact hlt))]
        clear eG
        go_wp2_with (go_at_call 37; refine (HA.out _ _).mono ?_; rintro e w3 ⟨rfl, B3⟩)
        go_ret2
        exact ⟨by rw [HE.out]; rfl, below_then B2 B3⟩
      · have hltI : ¬ (a : Int) < (s.size : Int) := by omega
        have HE : Hid (tmRes s.data.toList = nE (nsC c)) := by
          show _ = _
          unfold tmRes; rw [eG, if_neg (by rw [HL.out]; simp; omega)]
        clear eG
        go_wp2_with (go_at_call 38; refine (HD.out (c, a, true) _ B2 K2 gd).mono ?_; rintro e w3 ⟨rfl, B3⟩)
        go_ret2
        exact ⟨by rw [HE.out]; rfl, below_then B2 B3⟩
    · have hz' : (c.ah != 0) = true := by simp [hz]
      obtain ⟨R2, hR2⟩ : ∃ R2, thr zonP c (s.data.toList.drop a) a = R2 := ⟨_, rfl⟩
      have eG : goT s.data.toList = R2 := by rw [HG, if_pos ⟨rfl, hz⟩, hR2]
      have HR2 : Hid (thr zonP c (s.data.toList.drop a) a = R2) := hR2
      have HGd : Hid (Good c) := gd
      have cl : C < w2.heap.size := K2.lt
      clear HG hR2 gd
      go_wp2_with (go_at_call 36; refine (zone_any C _ cl).mono ?_; rintro e w3 ⟨S2, fs2, rfl, hSC2, hfl2, hcell2, hpc2, B3⟩)
      have TH2 : Hid (Calls Tryz.prog 34 #[.string s, .int .i64 (a : Int), .slice (some ⟨S2, 0, none⟩) 3 3] w3 fun e w' => e = .returned (.tuple #[.int .i64 (R2.2.1 : Int), .bool R2.2.2]) ∧ CK C R2.1 w' ∧ w3.grownBy w' (some C) ∧ (R2.2.2 = true → Good R2.1) ∧ R2.2.1 ≤ s.size) :=
        through_any C S2 3 3 fs2 zonP hfl2 rfl (by omega) s hs a at2 c (fun _ c => Good c) HGd.out good_step (fun k c h hi _ => hi.pre) w3 (HM.out.below (below_then B2 B3)) hCm hSC2 hcell2 hpc2 (K2.after B3) R2 HR2.out
      have B3' : Below w.heap.size w w3 := below_then B2 B3
      clear hcell2 hpc2 hfl2 hSC2 HR2 B3 K2 k7
      go_wp2_with fail
      refine TH2.out.mono ?_
      rintro e w4 ⟨rfl, K4, G4, I4, at4⟩
      have B4 : Below w.heap.size w w4 := B3'.grown G4 B3'.size (fun k hk => by injection hk with hk; omega)
      clear TH2 G4 B3'
      obtain ⟨c2, a2, ok2⟩ := R2
      simp only at K4 I4 at4 eG ⊢
      cases ok2 with
      | false =>
        have HE : Hid (tmRes s.data.toList = .returned (.tuple #[.int .i64 0, atE a2])) := by
          show _ = _
          unfold tmRes; rw [eG, if_pos (Or.inl rfl)]
        clear eG
        go_wp2_with (go_at_call 37; refine (HA.out _ _).mono ?_; rintro e w5 ⟨rfl, B5⟩)
        go_ret2
        exact ⟨by rw [HE.out]; rfl, below_then B4 B5⟩
      | true =>
        have gd2 := I4 rfl
        by_cases hlt : a2 < s.size
        · have hltI : (a2 : Int) < (s.size : Int) := by omega
          have HE : Hid (tmRes s.data.toList = .returned (.tuple #[.int .i64 0, atE a2])) := by
            show _ = _
            unfold tmRes; rw [eG, if_pos (Or.inr (by rw [HL.out]; exact hlt))]
          clear eG
          go_wp2_with (go_at_call 37; refine (HA.out _ _).mono ?_; rintro e w5 ⟨rfl, B5⟩)
          go_ret2
          exact ⟨by rw [HE.out]; rfl, below_then B4 B5⟩
        · have hltI : ¬ (a2 : Int) < (s.size : Int) := by omega
          have HE : Hid (tmRes s.data.toList = nE (nsC c2)) := by
            show _ = _
            unfold tmRes; rw [eG, if_neg (by rw [HL.out]; simp; omega)]
          clear eG
          go_wp2_with (go_at_call 38; refine (HD.out (c2, a2, true) _ B4 K4 gd2).mono ?_; rintro e w5 ⟨rfl, B5⟩)
          go_ret2
          exact ⟨by rw [HE.out]; rfl, below_then B4 B5⟩
end Go.Proofs.YtipahdplkmmofaaGreatDoor
