
import Derived.Test.YtjiiafmbneehhaaDoorSpH
namespace Go.Proofs.YtjiiafmbneehhaaDoor
open Go.RowKit Go.Shelf
set_option linter.unusedVariables false
set_option linter.unusedSimpArgs false
theorem I64_iff (x : Int) : I64 x ↔ (-9223372036854775808 ≤ x ∧ x < 9223372036854775808) := Iff.rfl
theorem mul_yes (a b : Int) (ha : I64 a) (hb : I64 b) (h : I64 (a * b)) (w : World) : Calls Tryd.prog 47 #[.int .i64 a, .int .i64 b] w fun e w' => e = .returned (.tuple #[.int .i64 (a * b), .nilIface]) ∧ Below w.heap.size w w' := by
  have H := mul_any a b ha hb w
  rw [sm0_yes h, sm1_yes h] at H; exact H
theorem mul_no (a b : Int) (ha : I64 a) (hb : I64 b) (h : ¬ I64 (a * b)) (w : World) : Calls Tryd.prog 47 #[.int .i64 a, .int .i64 b] w fun e w' => e = .returned (.tuple #[.int .i64 0, .iface 33 (.int .i64 20)]) ∧ Below w.heap.size w w' := by
  have H := mul_any a b ha hb w
  rw [sm0_no h, sm1_no h] at H; exact H
theorem add_yes (a b : Int) (ha : I64 a) (hb : I64 b) (h : I64 (a + b)) (w : World) : Calls Tryd.prog 48 #[.int .i64 a, .int .i64 b] w fun e w' => e = .returned (.tuple #[.int .i64 (a + b), .nilIface]) ∧ Below w.heap.size w w' := by
  have H := add_any a b ha hb w
  rw [sm0_yes h, sm1_yes h] at H; exact H
theorem add_no (a b : Int) (ha : I64 a) (hb : I64 b) (h : ¬ I64 (a + b)) (w : World) : Calls Tryd.prog 48 #[.int .i64 a, .int .i64 b] w fun e w' => e = .returned (.tuple #[.int .i64 0, .iface 33 (.int .i64 20)]) ∧ Below w.heap.size w w' := by
  have H := add_any a b ha hb w
  rw [sm0_no h, sm1_no h] at H; exact H
theorem val_split (l : List UInt8) (k : Nat) (h : k < l.length) : valF 0 (l.take (k + 1)) = valF 0 (l.take k) * 10 + ((l[k].toNat : Int) - 48) := by
  rw [List.take_succ_eq_append_getElem h, valF_snoc]
theorem val_le (l : List UInt8) (hd : allD l) (k : Nat) : valF 0 (l.take k) ≤ valF 0 l := by
  have e : valF 0 l = valF (valF 0 (l.take k)) (l.drop k) := by rw [← valF_app, List.take_append_drop]
  rw [e]
  exact valF_ge _ _ (valF_nonneg (allD_take hd k)) (fun c hc => hd c (List.mem_of_mem_drop hc))
/-- what is outside stays outside. -/
theorem over_of (n v z : Int) (hn : 0 ≤ n) (hz : 1 ≤ z) (hv : 9223372036854775808 ≤ v) : ¬ I64 (n + v * z) := by
  have : v * 1 ≤ v * z := Int.mul_le_mul_of_nonneg_left hz (by omega)
  unfold I64; omega
def nE (v : Int) : Ending := .returned (.tuple #[.int .i64 (sm0 v), sm1 v])
theorem nE_yes {v : Int} (h : I64 v) : nE v = .returned (.tuple #[.int .i64 v, .nilIface]) := by unfold nE; rw [sm0_yes h, sm1_yes h]
theorem nE_no {v : Int} (h : ¬ I64 v) : nE v = .returned (.tuple #[.int .i64 0, .iface 33 (.int .i64 20)]) := by unfold nE; rw [sm0_no h, sm1_no h]
set_option maxRecDepth 100000 in
set_option maxHeartbeats 4000000 in
theorem more_any (n z : Int) (s : ByteArray) (hn0 : 0 ≤ n) (hn1 : n < 9223372036854775808) (hz0 : 1 ≤ z) (hz1 : z ≤ 604800000000000) (hd : allD s.data.toList) (hs : s.size ≤ 9223372036854775807) (w : World) :
    Calls Tryd.prog 40 #[.int .i64 n, .string s, .int .i64 z] w fun e w' => e = nE (n + valF 0 s.data.toList * z) ∧ Below w.heap.size w w' := by
  have HD : Hid (allD s.data.toList) := hd
  have HL : Hid (s.data.toList.length = s.size) := sz_list s
  obtain ⟨V, hV⟩ : ∃ V : Int, V = valF 0 s.data.toList := ⟨_, rfl⟩
  have HV : Hid (V = valF 0 s.data.toList) := hV
  rw [← hV]
  clear hV hd
  have iN : I64 n := ⟨by omega, by omega⟩
  have i10 : I64 10 := ⟨by omega, by omega⟩
  have iz : I64 z := ⟨by omega, by omega⟩
  go_enter Tryd.func40, Tryd.ntmps40
  go_wp2
  go_loopw [8, 15] (fun t i wr => ∃ (k : Nat) (v : Int), k ≤ s.size ∧ i = .int .i64 k ∧ t = .int .i64 v ∧ Hid (v = valF 0 (s.data.toList.take k)) ∧ 0 ≤ v ∧ v < 9223372036854775808 ∧ Below w.heap.size w wr) (fun _ i _ => s.size - (intOf i).toNat)
  case atStart => exact ⟨0, 0, Nat.zero_le _, rfl, rfl, rfl, by omega, by omega, Below.refl _ _⟩
  case round =>
    obtain ⟨k, v, hk, rfl, rfl, hv, v0, v1, hB⟩ := hrel
    have iv : I64 v := ⟨by omega, by omega⟩
    by_cases hlt : k < s.size
    · have hkL : k < s.data.toList.length := by rw [HL.out]; exact hlt
      have dB := isD_bd (HD.out _ (List.getElem_mem hkL))
      have dB1 : 48 ≤ (s[k].toNat : Int) := dB.1
      have dB2 : (s[k].toNat : Int) ≤ 57 := dB.2
      have hS : Hid (valF 0 (s.data.toList.take (k + 1)) = v * 10 + ((s[k].toNat : Int) - 48)) := by
        show _ = _
        rw [val_split _ _ hkL, ← hv.out]; rfl
      have hle : v * 10 + ((s[k].toNat : Int) - 48) ≤ V := by
        rw [← hS.out, HV.out]; exact val_le _ HD.out _
      clear dB
      have idg : I64 ((s[k].toNat : Int) - 48) := ⟨by omega, by omega⟩
      by_cases m1 : I64 (v * 10)
      · by_cases m2 : I64 (v * 10 + ((s[k].toNat : Int) - 48))
        · have M := fun W => mul_yes v 10 iv i10 m1 W
          have A := fun W => add_yes (v * 10) ((s[k].toNat : Int) - 48) m1 idg m2 W
          go_wp2_with (first | (go_at_call 47; refine (M _).mono ?_; rintro e w1 ⟨rfl, B1⟩) | (go_at_call 48; refine (A _).mono ?_; rintro e w2 ⟨rfl, B2⟩))
          go_roundw
          case rel => exact ⟨k + 1, v * 10 + ((s[k].toNat : Int) - 48), by omega, by go_num, rfl, hS.out.symm, by omega, m2.2, below_then (below_then hB B1) B2⟩
          case measure => simp [intOf]; omega
        · have M := fun W => mul_yes v 10 iv i10 m1 W
          have A := fun W => add_no (v * 10) ((s[k].toNat : Int) - 48) m1 idg m2 W
          have HO : Hid (¬ I64 (n + V * z)) := over_of n V z hn0 hz0 (by unfold I64 at m2; omega)
          go_wp2_with (first | (go_at_call 47; refine (M _).mono ?_; rintro e w1 ⟨rfl, B1⟩) | (go_at_call 48; refine (A _).mono ?_; rintro e w2 ⟨rfl, B2⟩))
          go_ret2
          exact ⟨by rw [nE_no HO.out]; rfl, below_then (below_then hB B1) B2⟩
      · have M := fun W => mul_no v 10 iv i10 m1 W
        have HO : Hid (¬ I64 (n + V * z)) := over_of n V z hn0 hz0 (by unfold I64 at m1; omega)
        go_wp2_with (go_at_call 47; refine (M _).mono ?_; rintro e w1 ⟨rfl, B1⟩)
        go_ret2
        exact ⟨by rw [nE_no HO.out]; rfl, below_then hB B1⟩
    · have ek : k = s.size := by omega
      have ev : v = V := by rw [hv.out, HV.out, List.take_of_length_le (by rw [HL.out]; omega)]
      subst ev
      clear hv HV
      by_cases m1 : I64 (v * z)
      · have M := fun W => mul_yes v z iv iz m1 W
        have A := fun W => add_any n (v * z) iN m1 W
        go_wp2_with (first | (go_at_call 47; refine (M _).mono ?_; rintro e w1 ⟨rfl, B1⟩) | (go_at_call 48; refine (A _).mono ?_; rintro e w2 ⟨rfl, B2⟩))
        go_ret2
        exact ⟨rfl, below_then (below_then hB B1) B2⟩
      · have M := fun W => mul_no v z iv iz m1 W
        have HO : Hid (¬ I64 (n + v * z)) := by
          show ¬ _
          have := Int.mul_nonneg v0 (by omega : 0 ≤ z)
          unfold I64 at m1 ⊢; omega
        go_wp2_with (go_at_call 47; refine (M _).mono ?_; rintro e w1 ⟨rfl, B1⟩)
        go_ret2
        exact ⟨by rw [nE_no HO.out]; rfl, below_then hB B1⟩
end Go.Proofs.YtjiiafmbneehhaaDoor
