
import Derived.Test.YtpilohnlkckpfaaDoorKyV
import Derived.Test.YtpilohnlkckpfaaDoorKyS
import Derived.Test.YtpilohnlkckpfaaDoorKyN
namespace Go.Proofs.YtpilohnlkckpfaaDoor
open Go.RowKit Go.Shelf
set_option linter.unusedVariables false
set_option linter.unusedSimpArgs false
theorem ba_list (s : ByteArray) : (⟨s.data.toList.toArray⟩ : ByteArray) = s := by cases s; simp
theorem outV_esc (s : ByteArray) : outV (uneT (escL s.data.toList)) = .tuple #[.string s, .int .i64 ((escL s.data.toList).length : Int), .nilIface] := by
  rw [uneT_esc]; simp only [outV, ba_list]
theorem outV_sign (s m : ByteArray) (b : UInt8) (hb : mkL.contains b = true) (h92 : b ≠ 92) : outV (uneT ((⟨(escL s.data.toList).toArray⟩ : ByteArray) ++ ⟨#[b]⟩ ++ m).data.toList) = .tuple #[.string s, .int .i64 ((escL s.data.toList).length : Int), .nilIface] := by
  have e : ((⟨(escL s.data.toList).toArray⟩ : ByteArray) ++ ⟨#[b]⟩ ++ m).data.toList = escL s.data.toList ++ b :: m.data.toList := by simp [ByteArray.data_append]
  rw [e, uneT_sign _ _ _ hb h92]; simp only [outV, ba_list]
theorem sz_esc (s : ByteArray) : (⟨(escL s.data.toList).toArray⟩ : ByteArray).size ≤ 2 * s.size := by
  have := escL_len s.data.toList
  rw [Lib.size_eq s]; exact this
theorem rem3 (g : Int) : g.tmod 3 = -2 ∨ g.tmod 3 = -1 ∨ g.tmod 3 = 0 ∨ g.tmod 3 = 1 ∨ g.tmod 3 = 2 := by
  have h : ∀ n : Nat, (n : Int).tmod 3 = ((n % 3 : Nat) : Int) := fun n => rfl
  obtain ⟨n, rfl | rfl⟩ := Int.eq_nat_or_neg g
  · rw [h]; omega
  · rw [Int.neg_tmod, h]; omega
set_option maxRecDepth 100000 in
set_option maxHeartbeats 8000000 in
theorem keyUnescapes_walk (s m : ByteArray) (g : Int) (w : World) (hs : s.size + m.size ≤ 1048576) (hT : UT w) (hg : ET w) :
    Calls Tryd.prog 6 #[.string s, .int .i64 g, .string m] w fun e w' => e = .returned (.bool true) ∧ Below w.heap.size w w' := by
  have hz := sz_esc s
  have cL : Hid (∀ W, Below w.heap.size w W → Calls Tryd.prog 8 #[] W fun e w' => e = .returned (.bool true) ∧ Below W.heap.size W w') := fun W hW => live_any W (hT.below hW (Nat.le_refl _)) (ET_below hg hW)
  have cE : Hid (∀ W, Calls Tryd.prog 14 #[.string s] W fun e w' => e = .returned (.string ⟨(escL s.data.toList).toArray⟩) ∧ Below W.heap.size W w') := fun W => escape_any s W (by omega) (mk_extract s (by omega))
  have cU : Hid (∀ W, Calls Tryd.prog 12 #[.string ⟨(escL s.data.toList).toArray⟩] W fun e w' => e = .returned (.tuple #[.string s, .int .i64 ((escL s.data.toList).length : Int), .nilIface]) ∧ Below W.heap.size W w') := fun W => by
    have h := unescape_any ⟨(escL s.data.toList).toArray⟩ W (by omega) (mk_extract _ (by omega))
    rw [show (⟨(escL s.data.toList).toArray⟩ : ByteArray).data.toList = escL s.data.toList by simp, outV_esc] at h
    exact h
  have cV : Hid (∀ (b : UInt8), mkL.contains b = true → b ≠ 92 → ∀ W, Calls Tryd.prog 12 #[.string ((⟨(escL s.data.toList).toArray⟩ : ByteArray) ++ ⟨#[b]⟩ ++ m)] W fun e w' => e = .returned (.tuple #[.string s, .int .i64 ((escL s.data.toList).length : Int), .nilIface]) ∧ Below W.heap.size W w') := fun b hb h92 W => by
    have e1 : (⟨#[b]⟩ : ByteArray).size = 1 := rfl
    have hzz : ((⟨(escL s.data.toList).toArray⟩ : ByteArray) ++ ⟨#[b]⟩ ++ m).size ≤ 4000000 := by rw [ByteArray.size_append, ByteArray.size_append]; omega
    have h := unescape_any ((⟨(escL s.data.toList).toArray⟩ : ByteArray) ++ ⟨#[b]⟩ ++ m) W hzz (mk_extract _ (by omega))
    rw [outV_sign s m b hb h92] at h
    exact h
  have q1 : ∀ (b : UInt8) W, (Op.stringOp .add ⟨(escL s.data.toList).toArray⟩ ⟨#[b]⟩).run Tryd.prog W = .ok (.string (⟨(escL s.data.toList).toArray⟩ ++ ⟨#[b]⟩)) W := fun b W => cat_run _ _ (by have e1 : (⟨#[b]⟩ : ByteArray).size = 1 := rfl; omega) W
  have q2 : ∀ (b : UInt8) W, (Op.stringOp .add (⟨(escL s.data.toList).toArray⟩ ++ ⟨#[b]⟩) m).run Tryd.prog W = .ok (.string (⟨(escL s.data.toList).toArray⟩ ++ ⟨#[b]⟩ ++ m)) W := fun b W => cat_run _ _ (by rw [ByteArray.size_append]; have e1 : (⟨#[b]⟩ : ByteArray).size = 1 := rfl; omega) W
  have hL : ((⟨(escL s.data.toList).toArray⟩ : ByteArray).size : Int) = ((escL s.data.toList).length : Int) := by simp [ByteArray.size]
  generalize ((escL s.data.toList).length : Int) = L at cU cV hL
  generalize (⟨(escL s.data.toList).toArray⟩ : ByteArray) = E at cE cU cV q1 q2 hL hz
  clear hT hg
  go_enter Tryd.func6, Tryd.ntmps6
  go_wp2_with fail
  refine Calls.mono (cE.out _) ?_
  rintro e w1 ⟨rfl, B1⟩
  go_wp2_with fail
  refine Calls.mono (cU.out _) ?_
  rintro e w2 ⟨rfl, B2⟩
  have w1' : wrap64 (-2 + 3) = 1 := by decide +kernel
  have w2' : wrap64 (-1 + 3) = 2 := by decide +kernel
  rcases rem3 g with hr | hr | hr | hr | hr
  all_goals
    go_wp2_with (simp only [hr, w1', w2', q1, q2])
    refine Calls.mono (cV.out _ (by decide) (by decide) _) ?_
    rintro e w3 ⟨rfl, B3⟩
    have S3 : Below w.heap.size w w3 := (B1.trans (B2.mono B1.size)).trans (((Below.refl _ w2).alloc (Nat.le_refl _) _).trans (B3.mono (by simp)) |>.mono (Nat.le_trans B1.size B2.size))
    have hK : ∀ W W', Below w.heap.size w W → Below W.heap.size W W' → Below w.heap.size w W' := fun W W' h1 h2 => h1.trans (h2.mono h1.size)
    go_wp2_with fail
    refine Calls.mono (cL.out _ S3) ?_
    rintro e w4 ⟨rfl, B4⟩
    go_wp2_with (simp only [hL, decide_true, beq_self_eq_true])
    go_ret
    exact ⟨by simp [hL], hK _ _ S3 B4⟩
end Go.Proofs.YtpilohnlkckpfaaDoor
