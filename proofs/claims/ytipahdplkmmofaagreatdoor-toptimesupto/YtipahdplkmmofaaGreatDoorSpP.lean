
import Derived.Test.YtipahdplkmmofaaGreatDoorSpM
import Derived.Test.YtipahdplkmmofaaGreatDoorSpG
import Derived.Test.YtipahdplkmmofaaGreatDoorSpD
import Derived.Lib.AppendIntMem
import Derived.Lib.SmallJoins
namespace Go.Proofs.YtipahdplkmmofaaGreatDoor
open Go.RowKit Go.Shelf
set_option linter.unusedVariables false
set_option linter.unusedSimpArgs false
def B (l : List UInt8) : ByteArray := ⟨l.toArray⟩
theorem B_list (l : List UInt8) : (B l).data.toList = l := by simp [B]
theorem B_of (T : ByteArray) : B T.data.toList = T := by cases T; simp [B]
theorem B_app (a b : List UInt8) : B a ++ B b = B (a ++ b) := by unfold B; rw [ByteArray.ext_iff]; simp
theorem B_size (l : List UInt8) : (B l).size = l.length := by simp [B, ByteArray.size]
/-- what FormatInt wants of the world. -/
def PT (w : World) : Prop := Lib.TabIs Tryz.prog w "internal/strconv.uint64pow10" .u64 Lib.pow10Tab
theorem PT.below {w w' : World} (h : PT w) (hb : Below w.heap.size w w') : PT w' := Lib.tabBelow_of_tabIs h w' hb
theorem itoaB (n : Int) (hn : I64 n) (w : World) (h : PT w) : Calls Tryz.prog 92 #[.int .i64 n] w fun e w' => e = .returned (.string (B (Lib.itoa n))) ∧ Below w.heap.size w w' := by
  refine (Tryz.strconv_Itoa n hn.1 (by have := hn.2; omega) w h).mono ?_
  rintro e w' ⟨rfl, k, os, rfl⟩
  exact ⟨rfl, Lib.below_grow _ w (Nat.le_refl _) k os⟩
theorem formB (n : Int) (hn : I64 n) (w : World) (h : PT w) : Calls Tryz.prog 54 #[.int .i64 n, .int .i64 10] w fun e w' => e = .returned (.string (B (Lib.itoa n))) ∧ Below w.heap.size w w' := by
  refine (Tryz.strconv_FormatInt_10 n hn.1 (by have := hn.2; omega) w h).mono ?_
  rintro e w' ⟨rfl, k, os, rfl⟩
  exact ⟨rfl, Lib.below_grow _ w (Nat.le_refl _) k os⟩
theorem itoa_len0 (n : Int) (hn : I64 n) : (Lib.itoa n).length ≤ 21 := by
  unfold I64 at hn
  unfold Lib.itoa
  split
  · have := dec_len0 19 n.natAbs (by omega); simp; omega
  · have := dec_len0 19 n.toNat (by omega); omega
theorem rep_zero : ∀ j : Nat, Lib.repeatL [48] j = List.replicate j 48
  | 0 => rfl
  | j + 1 => by rw [Lib.repeatL, rep_zero j, List.replicate_succ]; rfl
theorem repB (j : Nat) (hj : j ≤ 100) (w : World) : Calls Tryz.prog 93 #[.string ⟨#[48]⟩, .int .i64 (j : Int)] w fun e w' => e = .returned (.string (B (List.replicate j 48))) ∧ Below w.heap.size w w' := by
  have H := Tryz.strings_Repeat ⟨#[48]⟩ j w (by omega) (by show 1 * j ≤ _; omega)
  rw [show (⟨#[48]⟩ : ByteArray).data.toList = [48] from rfl, rep_zero] at H
  exact H
theorem padP_len (n : Int) (k : Nat) (hn : I64 n) (hk : k ≤ 20) : (padP n k).length ≤ 21 := by
  have := itoa_len0 n hn
  unfold padP; simp; omega
set_option maxRecDepth 100000 in
set_option maxHeartbeats 2000000 in
theorem padded_any (n : Int) (k : Nat) (hn : I64 n) (hk : k ≤ 20) (w : World) (hP : PT w) : Calls Tryz.prog 52 #[.int .i64 n, .int .i64 (k : Int)] w fun e w' => e = .returned (.string (B (padP n k))) ∧ Below w.heap.size w w' := by
  have hl := itoa_len0 n hn
  have H1 : Hid (∀ W, PT W → Calls Tryz.prog 92 #[.int .i64 n] W fun e w' => e = .returned (.string (B (Lib.itoa n))) ∧ Below W.heap.size W w') := fun W h => itoaB n hn W h
  have s2 := B_size (Lib.itoa n)
  have hR : Hid (B (padP n k) = B (List.replicate (k - (Lib.itoa n).length) 48) ++ B (Lib.itoa n)) := by
    show _ = _
    rw [B_app]; rfl
  rw [← s2] at hR hl
  obtain ⟨T, hT⟩ : ∃ T, T = B (Lib.itoa n) := ⟨_, rfl⟩
  rw [← hT] at H1 hR hl
  clear hT s2
  obtain ⟨j, hj⟩ : ∃ j : Nat, k - T.size = j := ⟨_, rfl⟩
  have hjb : j ≤ 20 := by omega
  have s3 := B_size (List.replicate j 48)
  rw [List.length_replicate] at s3
  have H2 : Hid (∀ W, Calls Tryz.prog 93 #[.string ⟨#[48]⟩, .int .i64 (j : Int)] W fun e w' => e = .returned (.string (B (List.replicate j 48))) ∧ Below W.heap.size W w') := fun W => repB j (by omega) W
  rw [hj] at hR
  obtain ⟨R, hRR⟩ : ∃ R, R = B (List.replicate j 48) := ⟨_, rfl⟩
  rw [← hRR] at H2 hR s3
  clear hRR
  have c1 : ¬ 9223372036854775807 < R.size + T.size := by omega
  clear s3
  have HP : Hid (PT w) := hP
  clear hP
  by_cases hle : (k : Int) - (T.size : Int) ≤ 0
  · have ej : j = 0 := by omega
    subst ej
    have mx : max ((k : Int) - (T.size : Int)) 0 = 0 := by omega
    clear hj
    go_enter Tryz.func52, Tryz.ntmps52
    go_wp2_with (first | (go_at_call 92; refine (H1.out _ HP.out).mono ?_; rintro e w1 ⟨rfl, B1⟩) | (go_at_call 93; refine (H2.out _).mono ?_; rintro e w2 ⟨rfl, B2⟩))
    go_ret
    exact ⟨by rw [hR.out]; rfl, below_then B1 B2⟩
  · have mx : max ((k : Int) - (T.size : Int)) 0 = (j : Int) := by omega
    clear hj
    go_enter Tryz.func52, Tryz.ntmps52
    go_wp2_with (first | (go_at_call 92; refine (H1.out _ HP.out).mono ?_; rintro e w1 ⟨rfl, B1⟩) | (go_at_call 93; refine (H2.out _).mono ?_; rintro e w2 ⟨rfl, B2⟩))
    go_ret
    exact ⟨by rw [hR.out]; rfl, below_then B1 B2⟩
end Go.Proofs.YtipahdplkmmofaaGreatDoor
