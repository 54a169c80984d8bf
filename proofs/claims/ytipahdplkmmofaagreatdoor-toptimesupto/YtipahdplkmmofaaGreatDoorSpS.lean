
import Derived.Test.YtipahdplkmmofaaGreatDoorSpR
import Derived.Lib.AtoiErrMem
import Derived.BigQuiet
import Derived.Deep.QuietTactic
namespace Go.Proofs.YtipahdplkmmofaaGreatDoor
open Go.RowKit Go.Shelf
set_option linter.unusedVariables false
set_option linter.unusedSimpArgs false
theorem decFrom_val : ∀ (l : List UInt8) (a : Nat), allD l → Lib.decFrom a l = some (valF (a : Int) l).toNat ∧ 0 ≤ valF (a : Int) l
  | [], a, _ => by simp [Lib.decFrom, valF]
  | c :: r, a, h => by
    have hc := isD_bd (h c (by simp))
    have e : (a : Int) * 10 + ((c.toNat : Int) - 48) = ((a * 10 + (c.toNat - 48) : Nat) : Int) := by omega
    have ih := decFrom_val r (a * 10 + (c.toNat - 48)) (fun x hx => h x (by simp [hx]))
    have h1 : 48 ≤ c.toNat := by omega
    have h2 : c.toNat ≤ 57 := by omega
    simp only [valF, e]
    refine ⟨?_, ih.2⟩
    rw [← ih.1, Lib.decFrom]
    have hv : Lib.digitVal c = some (c.toNat - 48) := by unfold Lib.digitVal; simp [h1, h2, UInt8.le_iff_toNat_le]
    rw [hv]
theorem atoi_val (l : List UInt8) (h : allD l) (hne : l ≠ []) : Lib.atoi l = some (valF 0 l) := by
  cases l with
  | nil => exact absurd rfl hne
  | cons c r =>
    have hc := isD_bd (h c (by simp))
    have e1 : ¬ c = 45 := by intro e; subst e; simp at hc
    have e2 : ¬ c = 43 := by intro e; subst e; simp at hc
    obtain ⟨d1, d2⟩ := decFrom_val (c :: r) 0 h
    unfold Lib.atoi
    simp only [beq_iff_eq, e1, e2, if_false]
    unfold Lib.decNat
    rw [if_neg (by simp), d1]
    simp only [Option.map_some, Option.some.injEq, Int.toNat_of_nonneg d2]
    rfl
theorem atoiB (s : ByteArray) (h : allD s.data.toList) (h1 : 1 ≤ s.size) (h2 : s.size ≤ 18) (w : World) : Calls Tryz.prog 108 #[.string s] w fun e w' => e = .returned (.tuple #[.int .i64 (valF 0 s.data.toList), .nilIface]) ∧ Below w.heap.size w w' := by
  refine (Tryz.strconv_Atoi s _ h2 (atoi_val _ h (by intro e; rw [← sz_list, e] at h1; simp at h1)) w).mono ?_
  rintro e w' ⟨rfl, t, rfl⟩
  exact ⟨rfl, Lib.bytesWorld_below _ _ _⟩
/-- what a piece leaves. -/
def PPost (C : Nat) (c : Clk) (p : Pc) (l : List UInt8) (w : World) (e : Ending) (w' : World) : Prop :=
  (p c l = none ∧ e = .returned (.int .i64 (-1)) ∧ CK C c w' ∧ w.grownBy w' (some C)) ∨ (∃ c' k, p c l = some (c', k) ∧ k ≤ l.length ∧ e = .returned (.int .i64 ((k : Nat) : Int)) ∧ CK C c' w' ∧ w.grownBy w' (some C))
theorem take_list (s : ByteArray) (k : Nat) : (s.extract 0 k).data.toList = s.data.toList.take k := by
  have := ex2_list s 0 k
  rw [Nat.zero_add, List.drop_zero] at this
  exact this
theorem valF_lt : ∀ (l : List UInt8) (a : Int), 0 ≤ a → allD l → valF a l < (a + 1) * 10 ^ l.length
  | [], a, _, _ => by simp [valF]; omega
  | c :: r, a, ha, h => by
    have hc := isD_bd (h c (by simp))
    have ih := valF_lt r (a * 10 + ((c.toNat : Int) - 48)) (by omega) (fun x hx => h x (by simp [hx]))
    have hp : (0 : Int) ≤ 10 ^ r.length := Int.pow_nonneg (by omega)
    have hm := Int.mul_le_mul_of_nonneg_right (show a * 10 + ((c.toNat : Int) - 48) + 1 ≤ (a + 1) * 10 by omega) hp
    simp only [valF, List.length_cons, Int.pow_succ]
    rw [Int.mul_assoc] at hm
    rw [Int.mul_comm (10 ^ r.length) 10]
    omega
theorem val_18 (l : List UInt8) (h : allD l) (hl : l.length ≤ 18) : valF 0 l < 1000000000000000000 := by
  have h1 := valF_lt l 0 (by omega) h
  have h2 : (10 : Nat) ^ l.length ≤ 10 ^ 18 := Nat.pow_le_pow_right (by omega) hl
  have h3 : (10 : Int) ^ l.length = ((10 ^ l.length : Nat) : Int) := by simp
  rw [h3] at h1
  have h4 : (10 : Nat) ^ 18 = 1000000000000000000 := rfl
  omega
set_option maxRecDepth 100000 in
set_option maxHeartbeats 4000000 in
theorem num1_any (C : Nat) (k : Clk) (s : ByteArray) (hs : s.size ≤ 9223372036854775807) (a b c d size i : Nat) (lo hi : Int) (hi' : i < 10) (na : a ≠ C) (nb : b ≠ C) (nc : c ≠ C) (nd : d ≠ C) (w : World) (ha : w.cell? ⟨a, 0, none⟩ = some (.int .i64 (size : Int))) (hb : w.cell? ⟨b, 0, none⟩ = some (.int .i64 lo)) (hc : w.cell? ⟨c, 0, none⟩ = some (.int .i64 hi)) (hd : w.cell? ⟨d, 0, none⟩ = some (.pointer (some ⟨C, i, none⟩))) (hz : 1 ≤ size ∧ size ≤ 18) (hk : CK C k w) :
    Calls Tryz.prog 107 #[.string s, .pointer (some ⟨a, 0, none⟩), .pointer (some ⟨b, 0, none⟩), .pointer (some ⟨c, 0, none⟩), .pointer (some ⟨d, 0, none⟩)] w fun e w' => PPost C k (numPc size lo hi (setC i)) s.data.toList w e w' := by
  have CL : Hid (cnt (s.data.toList.take size) ≤ (s.data.toList.take size).length) := cnt_le _
  have LL : Hid ((s.data.toList.take size).length = min size s.size) := by show _ = _; rw [List.length_take, sz_list]
  obtain ⟨hz1, hz2⟩ := hz
  have HK : Hid (CK C k w) := hk
  by_cases h1 : (s.size : Int) < (size : Int)
  · have HN : Hid (numPc size lo hi (setC i) k s.data.toList = none) := by
      show _ = _
      unfold numPc; rw [if_pos]
      have := CL.out; have := LL.out; omega
    go_enter Tryz.func107, Tryz.ntmps107
    go_wp2
    go_quiet (fail)
    go_wp2
    go_ret
    exact Or.inl ⟨HN.out, rfl, HK.out.below (B := w.heap.size) (below_drewN (Below.refl _ _) _) HK.out.lt, grown_of_below C (below_drewN (Below.refl _ _) _)⟩
  have h1' : decide ((s.size : Int) < (size : Int)) = false := by simpa using h1
  have hc1 : Hid (∀ W, Calls Tryz.prog 102 #[.string (s.extract 0 size)] W fun e w' => e = .returned (.int .i64 ((cnt (s.data.toList.take size) : Nat) : Int)) ∧ w' = W) := fun W => by
    have H := count_any (s.extract 0 size) (by have := ex2_size s 0 size; simp at this ⊢; omega) W
    rw [take_list] at H; exact H
  obtain ⟨q, hq⟩ : ∃ q, cnt (s.data.toList.take size) = q := ⟨_, rfl⟩
  have LEN : Hid ((s.data.toList.take size).length = size) := by show _ = _; rw [LL.out]; omega
  have qb : q ≤ size := by have := CL.out; rw [LEN.out, hq] at this; exact this
  have hc2 : Hid (∀ W, Calls Tryz.prog 102 #[.string (s.extract 0 size)] W fun e w' => e = .returned (.int .i64 (q : Int)) ∧ w' = W) := fun W => by rw [← hq]; exact hc1.out W
  clear hc1 CL LL
  have sb1 : (0 : Int) ≤ (size : Int) := by omega
  have sb2 : (size : Int) ≤ (s.size : Int) := by omega
  by_cases h2 : q < size
  · have h2' : decide ((q : Int) < (size : Int)) = true := by simpa using h2
    have HN : Hid (numPc size lo hi (setC i) k s.data.toList = none) := by
      show _ = _
      unfold numPc; rw [if_pos (by rw [hq]; exact h2)]
    clear hq
    go_enter Tryz.func107, Tryz.ntmps107
    go_wp2
    have g1 : decide (s.size < size) = false := by simp; omega
    have g2 : decide (q < size) = true := by simp; omega
    go_quiet ((go_at_call 102; exact Calls.quiet_of_same (hc2.out _)))
    go_wp2
    go_ret
    exact Or.inl ⟨HN.out, rfl, HK.out.below (B := w.heap.size) (below_drewN (Below.refl _ _) _) HK.out.lt, grown_of_below C (below_drewN (Below.refl _ _) _)⟩
  have h2' : decide ((q : Int) < (size : Int)) = false := by simpa using h2
  have eq : q = size := by omega
  have AD : Hid (allD (s.data.toList.take size)) := by
    show allD _
    have := allD_cnt (s.data.toList.take size)
    rw [hq, eq, List.take_take, Nat.min_self] at this; exact this
  have HA : Hid (∀ W, Calls Tryz.prog 108 #[.string (s.extract 0 size)] W fun e w' => e = .returned (.tuple #[.int .i64 (valF 0 (s.data.toList.take size)), .nilIface]) ∧ Below W.heap.size W w') := fun W => by
    have e1 : (s.extract 0 size).size = size := by rw [← sz_list, take_list, LEN.out]
    have H := atoiB (s.extract 0 size) (by rw [take_list]; exact AD.out) (by omega) (by omega) W
    rw [take_list] at H; exact H
  have V1 := val_18 _ AD.out (by rw [LEN.out]; omega)
  have V0 := valF_nonneg AD.out
  have HV : numPc size lo hi (setC i) k s.data.toList = if valF 0 (s.data.toList.take size) < lo ∨ hi < valF 0 (s.data.toList.take size) then none else some (setC i (valF 0 (s.data.toList.take size)) k, size) := by
    unfold numPc; rw [if_neg (by rw [hq, eq]; omega)]
  have hle : size ≤ s.data.toList.length := by rw [sz_list]; omega
  clear hq
  obtain ⟨n, hn⟩ : ∃ n, valF 0 (s.data.toList.take size) = n := ⟨_, rfl⟩
  rw [hn] at V1 V0 HV
  rw [hn] at HA
  clear hn AD
  have hal := World.block_lt_of_cell? _ _ ha
  have hbl := World.block_lt_of_cell? _ _ hb
  have hcl := World.block_lt_of_cell? _ _ hc
  have hdl := World.block_lt_of_cell? _ _ hd
  by_cases h3 : n < lo
  · have HN : Hid (numPc size lo hi (setC i) k s.data.toList = none) := by show _ = _; rw [HV, if_pos (Or.inl h3)]
    clear HV
    go_enter Tryz.func107, Tryz.ntmps107
    go_wp2
    have g1 : decide (s.size < size) = false := by simp; omega
    have g2 : decide (q < size) = false := by simp; omega
    go_quiet ((go_at_call 102; exact Calls.quiet_of_same (hc2.out _)))
    go_wp2_with (go_at_call 108; refine (HA.out _).mono ?_; rintro e w1 ⟨rfl, B1⟩; have B2 := (below_drewN (Below.refl w.heap.size w) _).trans (B1.mono (by simp)); have b1 := (by rw [B2.cell (p := ⟨b, 0, none⟩) hbl]; exact hb : w1.cell? ⟨b, 0, none⟩ = some (.int .i64 lo)))
    go_ret
    exact Or.inl ⟨HN.out, rfl, HK.out.after B2, grown_of_below C B2⟩
  by_cases h4 : hi < n
  · have HN : Hid (numPc size lo hi (setC i) k s.data.toList = none) := by show _ = _; rw [HV, if_pos (Or.inr h4)]
    clear HV
    go_enter Tryz.func107, Tryz.ntmps107
    go_wp2
    have g1 : decide (s.size < size) = false := by simp; omega
    have g2 : decide (q < size) = false := by simp; omega
    go_quiet ((go_at_call 102; exact Calls.quiet_of_same (hc2.out _)))
    go_wp2_with (go_at_call 108; refine (HA.out _).mono ?_; rintro e w1 ⟨rfl, B1⟩; have B2 := (below_drewN (Below.refl w.heap.size w) _).trans (B1.mono (by simp)); have b1 := (by rw [B2.cell (p := ⟨b, 0, none⟩) hbl]; exact hb : w1.cell? ⟨b, 0, none⟩ = some (.int .i64 lo)); have c1 := (by rw [B2.cell (p := ⟨c, 0, none⟩) hcl]; exact hc : w1.cell? ⟨c, 0, none⟩ = some (.int .i64 hi)))
    go_ret
    exact Or.inl ⟨HN.out, rfl, HK.out.after B2, grown_of_below C B2⟩
  have HN : Hid (numPc size lo hi (setC i) k s.data.toList = some (setC i n k, size)) := by show _ = _; rw [HV, if_neg (by omega)]
  clear HV
  go_enter Tryz.func107, Tryz.ntmps107
  go_wp2
  have g1 : decide (s.size < size) = false := by simp; omega
  have g2 : decide (q < size) = false := by simp; omega
  go_quiet ((go_at_call 102; exact Calls.quiet_of_same (hc2.out _)))
  go_wp2_with (go_at_call 108; refine (HA.out _).mono ?_; rintro e w1 ⟨rfl, B1⟩; have B2 := (below_drewN (Below.refl w.heap.size w) _).trans (B1.mono (by simp)); have b1 := (by rw [B2.cell (p := ⟨b, 0, none⟩) hbl]; exact hb : w1.cell? ⟨b, 0, none⟩ = some (.int .i64 lo)); have c1 := (by rw [B2.cell (p := ⟨c, 0, none⟩) hcl]; exact hc : w1.cell? ⟨c, 0, none⟩ = some (.int .i64 hi)); have d1 := (by rw [B2.cell (p := ⟨d, 0, none⟩) hdl]; exact hd : w1.cell? ⟨d, 0, none⟩ = some (.pointer (some ⟨C, i, none⟩))); have a1 := (by rw [B2.cell (p := ⟨a, 0, none⟩) hal]; exact ha : w1.cell? ⟨a, 0, none⟩ = some (.int .i64 (size : Int))); have k1 := (HK.out.after B2) i hi'; obtain ⟨k2, k3⟩ := k1)
  go_ret
  exact Or.inr ⟨setC i n k, size, HN.out, hle, rfl, (HK.out.after B2).set i hi' n, grown_trans (grown_of_below C B2) (grown_set _ _ _ _)⟩
end Go.Proofs.YtipahdplkmmofaaGreatDoor
