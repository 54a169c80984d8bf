
import Derived.Test.YtpilohnlkckpfaaDoorKzA
namespace Go.Proofs.YtpilohnlkckpfaaDoor
open Go.RowKit Go.Shelf
set_option linter.unusedVariables false
set_option linter.unusedSimpArgs false
theorem app_list (a b : ByteArray) : (a ++ b).data.toList = a.data.toList ++ b.data.toList := by simp [ByteArray.data_append]
def EI (s o : ByteArray) (k : Nat) : Prop := o.data.toList = escL (s.data.toList.take k)
theorem get_list (s : ByteArray) (k : Nat) (h : k < s.size) : s.data.toList[k]? = some (s.get! k) := by
  rw [← Lib.getD_get!', List.getD]
  have : k < s.data.toList.length := by rw [← Lib.size_eq]; exact h
  rw [List.getElem?_eq_getElem this]; rfl
theorem ext_one (s : ByteArray) (k : Nat) (h : k < s.size) : (s.extract k (k + 1)).data.toList = [s.get! k] := by
  rw [Lib.extract_data, show k + 1 - k = 1 by omega]
  have hg := get_list s k h
  have hl : k < s.data.toList.length := by rw [← Lib.size_eq]; exact h
  rw [List.getElem?_eq_getElem hl] at hg
  rw [List.drop_eq_getElem_cons hl, List.take_succ_cons, List.take_zero]
  rw [Option.some.inj hg]
theorem EI.next {s o : ByteArray} {k : Nat} (h : EI s o k) (hk : k < s.size) {o' : ByteArray} (ho : o'.data.toList = o.data.toList ++ (if mkL.contains (s.get! k) then [92, s.get! k] else [s.get! k])) : EI s o' (k + 1) := by
  unfold EI at *
  have hl : k < s.data.toList.length := by rw [← Lib.size_eq]; exact hk
  rw [ho, h, List.take_add_one, get_list s k hk]
  simp [escL]
theorem EI.size {s o : ByteArray} {k : Nat} (h : EI s o k) (hk : k ≤ s.size) : o.size ≤ 2 * k := by
  rw [Lib.size_eq, h]
  have := escL_len (s.data.toList.take k)
  rw [List.length_take] at this; omega
theorem EI.done {s o : ByteArray} {k : Nat} (h : EI s o k) (hk : s.size ≤ k) : o = ⟨(escL s.data.toList).toArray⟩ := by
  unfold EI at h
  rw [List.take_of_length_le (by rw [← Lib.size_eq]; exact hk)] at h
  rw [← h]
set_option maxRecDepth 100000 in
set_option maxHeartbeats 8000000 in
theorem rescape_any (s : ByteArray) (w : World) (hs : s.size ≤ 1048576) : Calls Tryd.prog 15 #[.string s] w fun e w' => e = .returned (.string ⟨(escL s.data.toList).toArray⟩) ∧ Below w.heap.size w w' := by
  obtain ⟨R, hR⟩ : ∃ R : ByteArray, R = ⟨(escL s.data.toList).toArray⟩ := ⟨_, rfl⟩
  have hRH : Hid (R = ⟨(escL s.data.toList).toArray⟩) := hR
  rw [← hR]
  clear hR
  have h0 : EI s ⟨#[]⟩ 0 := by simp [EI, escL]
  go_enter Tryd.func15, Tryd.ntmps15
  go_wp2_with fail
  go_loopw [3, 4] (fun o i wr => ∃ (k : Nat) (b : ByteArray), i = .int .i64 (k : Int) ∧ o = .string b ∧ k ≤ s.size ∧ EI s b k ∧ Below w.heap.size w wr) (fun _ i _ => s.size - (intOf i).toNat)
  case atStart => exact ⟨0, ⟨#[]⟩, rfl, rfl, Nat.zero_le _, h0, Below.refl _ _⟩
  case round =>
    obtain ⟨k, b, rfl, rfl, hkn, hI, hB⟩ := hrel
    by_cases hk : k < s.size
    · have hkI : (k : Int) < (s.size : Int) := by omega
      have hz := hI.size hkn
      obtain ⟨x, hx⟩ : ∃ x, s.get! k = x := ⟨_, rfl⟩
      have hsk : s[k]'hk = x := get_at s k hk x hx
      have hE1 := ext_one s k hk
      rw [hx] at hE1
      have hw1 : wrap64 ((k : Int) + 1) = (k : Int) + 1 := IntWalk.wrap64_in _ (by omega)
      have hw2 : IntKind.i64.wrap ((k : Int) + 1) = (k : Int) + 1 := IntWalk.i64_in _ (by omega)
      have hk2 : (k : Int) + 1 ≤ (s.size : Int) := by omega
      have es : (s.extract k (k + 1)).size = 1 := by rw [Lib.size_eq, hE1]; rfl
      have e92 : (⟨#[92]⟩ : ByteArray).size = 1 := rfl
      have q1 : ∀ W, (Op.stringOp .add b ⟨#[92]⟩).run Tryd.prog W = .ok (.string (b ++ ⟨#[92]⟩)) W := fun W => cat_run _ _ (by omega) W
      have q2 : ∀ W, (Op.stringOp .add (b ++ ⟨#[92]⟩) (s.extract k (k + 1))).run Tryd.prog W = .ok (.string (b ++ ⟨#[92]⟩ ++ s.extract k (k + 1))) W := fun W => cat_run _ _ (by rw [ByteArray.size_append]; omega) W
      have q3 : ∀ W, (Op.stringOp .add b (s.extract k (k + 1))).run Tryd.prog W = .ok (.string (b ++ s.extract k (k + 1))) W := fun W => cat_run _ _ (by omega) W
      have q0 : ∀ W, (Instr.slice 9 (.string s) (some (.int .i64 (k : Int))) (some (.int .i64 ((k : Int) + 1))) none).run Tryd.prog W = .ok (.string (s.extract k (k + 1))) W := fun W => by
        have h := run_slice_string (P := Tryd.prog) (w := W) 9 s .i64 .i64 (k : Int) ((k : Int) + 1) Tryd.underlying9 (by omega) (by omega) (by omega)
        rw [show ((k : Int)).toNat = k by omega, show ((k : Int) + 1).toNat = k + 1 by omega] at h
        exact h
      have n1 : mkL.contains x = true → EI s (b ++ ⟨#[92]⟩ ++ s.extract k (k + 1)) (k + 1) := fun h => hI.next hk (by rw [hx, h, if_pos rfl, app_list, app_list, hE1, List.append_assoc]; rfl)
      have n2 : mkL.contains x = false → EI s (b ++ s.extract k (k + 1)) (k + 1) := fun h => hI.next hk (by rw [hx, h, if_neg (by simp), app_list, hE1])
      have cS : Hid (∀ W, Calls Tryd.prog 31 #[.int .u8 (x.toNat : Int)] W fun e w' => e = .returned (.bool (mkL.contains x)) ∧ w' = W) := special_any x
      generalize mkL.contains x = m at *
      have n1H : Hid (m = true → EI s (b ++ ⟨#[92]⟩ ++ s.extract k (k + 1)) (k + 1)) := n1
      have n2H : Hid (m = false → EI s (b ++ s.extract k (k + 1)) (k + 1)) := n2
      have gM : Hid (s.size - ((k : Int) + 1).toNat < s.size - (k : Int).toNat) := by show _ < _; omega
      have g2 : k + 1 ≤ s.size := hk
      clear n1 n2 hI hz hE1 es e92 h0 hx
      cases m with
      | true =>
        go_wp2_with fail
        refine Calls.mono (cS.out _) ?_
        rintro e w1 ⟨rfl, rfl⟩
        go_wp2_with (simp only [q0, q1, q2, q3])
        go_round
        case measure => simp only [intOf]; exact gM.out
        case rel => exact ⟨k + 1, _, by simp only [Int.natCast_add, Int.cast_ofNat_Int], rfl, g2, n1H.out (by trivial), hB⟩
      | false =>
        go_wp2_with fail
        refine Calls.mono (cS.out _) ?_
        rintro e w1 ⟨rfl, rfl⟩
        go_wp2_with (simp only [q0, q1, q2, q3])
        go_round
        case measure => simp only [intOf]; exact gM.out
        case rel => exact ⟨k + 1, _, by simp only [Int.natCast_add, Int.cast_ofNat_Int], rfl, g2, n2H.out (by trivial), hB⟩
    · have hkI : ¬ (k : Int) < (s.size : Int) := by omega
      have := hI.done (by omega)
      rw [← hRH.out] at this
      subst this
      clear hI h0 hRH
      go_wp2_with fail
      go_ret
      exact ⟨rfl, hB⟩
end Go.Proofs.YtpilohnlkckpfaaDoor
