
import Derived.Test.YtjiiafmbneehhaaDoorTxB
namespace Go.Proofs.YtjiiafmbneehhaaDoor.Lx
open Go.RowKit Go.Shelf
set_option linter.unusedVariables false
set_option linter.unusedSimpArgs false
set_option maxRecDepth 100000
theorem drop_at (s : ByteArray) (k : Nat) (hk : k < s.size) : (bL s).drop k = s[k] :: (bL s).drop (k + 1) := by
  have h : k < (bL s).length := by rw [bL_len]; exact hk
  rw [List.drop_eq_getElem_cons h]
  rfl
theorem drop_end (s : ByteArray) (k : Nat) (hk : s.size ≤ k) : (bL s).drop k = [] := List.drop_eq_nil_of_le (by rw [bL_len]; exact hk)
theorem isR_or (c : UInt8) : isR c = (isLt c || isD c) := rfl
set_option maxHeartbeats 2000000 in
theorem row_any (s : ByteArray) (hs : s.size ≤ 4611686018427387904) (a : Nat) (ha : a ≤ s.size) (w : World) : Calls Tryd.prog 15 #[.string s, .int .i64 (a : Int)] w fun e w' => e = .returned (.int .i64 ((a + rowL ((bL s).drop a) : Nat) : Int)) ∧ w' = w := by
  obtain ⟨R, hR⟩ : ∃ R, a + rowL ((bL s).drop a) = R := ⟨_, rfl⟩
  rw [hR]
  have hRH : Hid (a + rowL ((bL s).drop a) = R) := hR
  clear hR
  go_enter Tryd.func15, Tryd.ntmps15
  go_wp2_with fail
  go_loopw [1] (fun v1 wr => ∃ k : Nat, v1 = .int .i64 (k : Int) ∧ k ≤ s.size ∧ Hid (k + rowL ((bL s).drop k) = R) ∧ wr = w) (fun v1 _ => s.size - (intOf v1).toNat)
  case atStart => exact ⟨a, rfl, ha, hRH, rfl⟩
  case round =>
    clear hRH
    obtain ⟨k, rfl, hk, hr, rfl⟩ := hrel
    have k0 : (0 : Int) ≤ (k : Int) := by omega
    by_cases hlt : k < s.size
    · have kI : (k : Int) < (s.size : Int) := by omega
      have kw : IntKind.i64.wrap ((k : Int) + 1) = ((k + 1 : Nat) : Int) := IntWalk.i64_in _ (by omega)
      have e0 := drop_at s k hlt
      have cL0 := fun W => letter_n (s[k].toNat) W
      have cD0 := fun W => digit_n (s[k].toNat) W
      have r1 : rowL ((bL s).drop k) = if isR s[k] = true then rowL ((bL s).drop (k + 1)) + 1 else 0 := by rw [e0]; rfl
      rw [isR_or, ltN_is, dN_is] at r1
      cases hl : ltN s[k].toNat with
      | true =>
        have NX : Hid (k + 1 + rowL ((bL s).drop (k + 1)) = R) := by
          have := hr.out
          rw [r1, hl] at this
          simp at this
          show k + 1 + rowL ((bL s).drop (k + 1)) = R
          omega
        rw [hl] at cL0
        have cL : Hid (∀ W, Calls Tryd.prog 14 #[.int .u8 (s[k].toNat : Int)] W fun e w' => e = .returned (.bool true) ∧ w' = W) := cL0
        clear cL0 cD0 r1 e0 hr
        go_wp2_with fail
        with_reducible refine Calls.mono (cL.out _) ?_
        rintro e w2 ⟨rfl, hw⟩
        subst hw
        go_wp2_with fail
        exact ⟨⟨k + 1, by first | rfl | (rw [kw]), hlt, NX, by first | rfl | trivial⟩, by first | (simp [intOf]; done) | (simp [intOf]; omega)⟩
      | false =>
        rw [hl] at cL0
        have cL : Hid (∀ W, Calls Tryd.prog 14 #[.int .u8 (s[k].toNat : Int)] W fun e w' => e = .returned (.bool false) ∧ w' = W) := cL0
        cases hd : dN s[k].toNat with
        | true =>
          have NX : Hid (k + 1 + rowL ((bL s).drop (k + 1)) = R) := by
            have := hr.out
            rw [r1, hl, hd] at this
            simp at this
            show k + 1 + rowL ((bL s).drop (k + 1)) = R
            omega
          rw [hd] at cD0
          have cD : Hid (∀ W, Calls Tryd.prog 16 #[.int .u8 (s[k].toNat : Int)] W fun e w' => e = .returned (.bool true) ∧ w' = W) := cD0
          clear cL0 cD0 r1 e0 hr
          go_wp2_with fail
          with_reducible refine Calls.mono (cL.out _) ?_
          rintro e w2 ⟨rfl, hw⟩
          subst hw
          go_wp2_with fail
          with_reducible refine Calls.mono (cD.out _) ?_
          rintro e w2 ⟨rfl, hw⟩
          subst hw
          go_wp2_with fail
          exact ⟨⟨k + 1, by first | rfl | (rw [kw]), hlt, NX, by first | rfl | trivial⟩, by first | (simp [intOf]; done) | (simp [intOf]; omega)⟩
        | false =>
          have NX : Hid (k = R) := by
            have := hr.out
            rw [r1, hl, hd] at this
            simp at this
            exact this
          rw [hd] at cD0
          have cD : Hid (∀ W, Calls Tryd.prog 16 #[.int .u8 (s[k].toNat : Int)] W fun e w' => e = .returned (.bool false) ∧ w' = W) := cD0
          clear cL0 cD0 r1 e0 hr
          go_wp2_with fail
          with_reducible refine Calls.mono (cL.out _) ?_
          rintro e w2 ⟨rfl, hw⟩
          subst hw
          go_wp2_with fail
          with_reducible refine Calls.mono (cD.out _) ?_
          rintro e w2 ⟨rfl, hw⟩
          subst hw
          go_wp2_with fail
          go_ret
          exact ⟨congrArg (fun n : Nat => Ending.returned (.int .i64 (n : Int))) NX.out, by first | rfl | trivial⟩
    · have kI : ¬ (k : Int) < (s.size : Int) := by omega
      have NX : Hid (k = R) := by
        have := hr.out
        rw [drop_end s k (by omega)] at this
        exact this
      clear hr
      go_wp2_with fail
      go_ret
      exact ⟨congrArg (fun n : Nat => Ending.returned (.int .i64 (n : Int))) NX.out, by first | rfl | trivial⟩
end Go.Proofs.YtjiiafmbneehhaaDoor.Lx
