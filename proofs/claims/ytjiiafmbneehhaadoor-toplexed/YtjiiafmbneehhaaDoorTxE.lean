
import Derived.Test.YtjiiafmbneehhaaDoorTxD
namespace Go.Proofs.YtjiiafmbneehhaaDoor.Lx
open Go.RowKit Go.Shelf
set_option linter.unusedVariables false
set_option linter.unusedSimpArgs false
set_option maxRecDepth 100000
theorem bL_mk (l : List UInt8) : bL ⟨l.toArray⟩ = l := by unfold bL; simp
theorem bL_app (a b : ByteArray) : bL (a ++ b) = bL a ++ bL b := by unfold bL; simp [ByteArray.data_append]
theorem bL_ext (S : ByteArray) (a b : Nat) : bL (S.extract a b) = ((bL S).drop a).take (b - a) := by
  unfold bL
  simp [ByteArray.data_extract, List.extract_eq_take_drop]
theorem cat_run (a b : ByteArray) (h : (bL a).length + (bL b).length ≤ 8388608) (W : World) : (Op.stringOp .add a b).run Tryd.prog W = .ok (.string (a ++ b)) W := by
  rw [bL_len, bL_len] at h
  exact run_string_add W a b (by omega) (by omega)
theorem text_any (s : ByteArray) (hs : s.size ≤ 1048576) (w : World) : Calls Tryd.prog 6 #[.string s] w fun e w' => ∃ T, e = .returned (.string T) ∧ bL T = 39 :: (escL 39 (bL s) ++ [39]) ∧ Below w.heap.size w w' := by
  have c1 : Hid (Calls Tryd.prog 9 #[.string s, .int .u8 39] w fun e w' => e = .returned (.string ⟨(39 :: (escL 39 (bL s) ++ [39])).toArray⟩) ∧ Below w.heap.size w w') := enclose_any s hs 39 w
  obtain ⟨T, hT⟩ : ∃ T : ByteArray, ⟨(39 :: (escL 39 (bL s) ++ [39])).toArray⟩ = T := ⟨_, rfl⟩
  rw [hT] at c1
  have eT : Hid (bL T = 39 :: (escL 39 (bL s) ++ [39])) := by rw [← hT]; exact bL_mk _
  clear hT
  go_enter Tryd.func6, Tryd.ntmps6
  go_wp2_with fail
  with_reducible refine Calls.mono c1.out ?_
  rintro e w2 ⟨rfl, b2⟩
  have B2 : Hid (Below w.heap.size w w2) := b2
  clear b2 c1
  go_wp2_with fail
  go_ret
  exact ⟨T, rfl, eT.out, B2.out⟩
set_option maxHeartbeats 4000000 in
theorem tquoted_any (s : ByteArray) (hs : s.size ≤ 1048576) (w : World) : Calls Tryd.prog 5 #[.string s] w fun e w' => ∃ T, e = .returned (.string T) ∧ bL T = 34 :: (escL 34 (bL s) ++ [34]) ∧ w' = w := by
  go_enter Tryd.func5, Tryd.ntmps5
  go_wp2_with fail
  go_loopw [3, 4] (fun v3 v4 wr => ∃ (k : Nat) (T : ByteArray), v3 = .string T ∧ v4 = .int .i64 (k : Int) ∧ k ≤ s.size ∧ Hid (bL T = 34 :: escL 34 ((bL s).take k)) ∧ wr = w) (fun _ v4 _ => s.size - (intOf v4).toNat)
  case atStart => exact ⟨0, _, rfl, rfl, Nat.zero_le _, rfl, rfl⟩
  case round =>
    obtain ⟨k, T, rfl, rfl, hk, hB, rfl⟩ := hrel
    have k0 : (0 : Int) ≤ (k : Int) := by omega
    by_cases hlt : k < s.size
    · have kI : (k : Int) < (s.size : Int) := by omega
      have kw : IntKind.i64.wrap ((k : Int) + 1) = ((k + 1 : Nat) : Int) := IntWalk.i64_in _ (by omega)
      have kw2 : wrap64 ((k : Int) + 1) = ((k + 1 : Nat) : Int) := IntWalk.wrap64_in _ (by omega)
      have k1 : (0 : Int) ≤ ((k + 1 : Nat) : Int) := by omega
      have k2 : ((k + 1 : Nat) : Int) ≤ (s.size : Int) := by omega
      have k3 : (k : Int) ≤ ((k + 1 : Nat) : Int) := by omega
      have et := escL_take 34 s k hlt
      have ln : (bL T).length ≤ 2 * k + 1 := by
        have := escL_len 34 ((bL s).take k)
        rw [List.length_take] at this
        rw [hB.out]; simp; omega
      have ex : bL (s.extract k (k + 1)) = [s[k]] := by
        rw [bL_ext, drop_at s k hlt]
        rw [show k + 1 - k = 1 by omega]; rfl
      have asl0 : ∀ W, (Instr.slice 9 (.string s) (some (.int .i64 (k : Int))) (some (.int .i64 ((k : Int) + 1))) none).run Tryd.prog W = .ok (.string (s.extract k (k + 1))) W := fun W => by
        have h := run_slice_string (P := Tryd.prog) (w := W) 9 s .i64 .i64 (k : Int) ((k + 1 : Nat) : Int) Tryd.underlying9 (by omega) (by omega) (by omega)
        simpa using h
      by_cases h1 : s[k] = 34
      · have q1 : ((s[k].toNat : Int) == 34) = true := (tn_eq h1).1
        have q2 : decide ((s[k].toNat : Int) = 34) = true := (tn_eq h1).2
        have NX : Hid (bL (T ++ ⟨#[92]⟩ ++ s.extract k (k + 1)) = 34 :: escL 34 ((bL s).take (k + 1))) := hid (by
          rw [bL_app, bL_app, hB.out, ex, et, if_pos (Or.inl h1)]; simp [bL])
        have a1 : Hid (∀ W, (Op.stringOp .add T ⟨#[92]⟩).run Tryd.prog W = .ok (.string (T ++ ⟨#[92]⟩)) W) := fun W => cat_run _ _ (by show (bL T).length + 1 ≤ _; omega) W
        have a2 : Hid (∀ W, (Op.stringOp .add (T ++ ⟨#[92]⟩) (s.extract k (k + 1))).run Tryd.prog W = .ok (.string (T ++ ⟨#[92]⟩ ++ s.extract k (k + 1))) W) := fun W => cat_run _ _ (by rw [bL_app, ex, List.length_append]; show (bL T).length + 1 + 1 ≤ _; omega) W
        have a1' := a1.out
        have a2' := a2.out
        clear et ln ex h1 hB
        generalize s.extract k (k + 1) = X at *
        go_wp2_with (first | simp only [asl0, a1', a2'])
        exact ⟨⟨k + 1, _, rfl, by first | rfl | (rw [kw]), hlt, NX, by first | rfl | trivial⟩, by first | (simp [intOf]; done) | (simp [intOf]; omega)⟩
      · have q1 : ((s[k].toNat : Int) == 34) = false := (tn_ne h1).1
        have q2 : decide ((s[k].toNat : Int) = 34) = false := (tn_ne h1).2
        by_cases h2 : s[k] = 92
        · have q3 : ((s[k].toNat : Int) == 92) = true := (tn_eq h2).1
          have q4 : decide ((s[k].toNat : Int) = 92) = true := (tn_eq h2).2
          have NX : Hid (bL (T ++ ⟨#[92]⟩ ++ s.extract k (k + 1)) = 34 :: escL 34 ((bL s).take (k + 1))) := hid (by
            rw [bL_app, bL_app, hB.out, ex, et, if_pos (Or.inr h2)]; simp [bL])
          have a1 : Hid (∀ W, (Op.stringOp .add T ⟨#[92]⟩).run Tryd.prog W = .ok (.string (T ++ ⟨#[92]⟩)) W) := fun W => cat_run _ _ (by show (bL T).length + 1 ≤ _; omega) W
          have a2 : Hid (∀ W, (Op.stringOp .add (T ++ ⟨#[92]⟩) (s.extract k (k + 1))).run Tryd.prog W = .ok (.string (T ++ ⟨#[92]⟩ ++ s.extract k (k + 1))) W) := fun W => cat_run _ _ (by rw [bL_app, ex, List.length_append]; show (bL T).length + 1 + 1 ≤ _; omega) W
          have a1' := a1.out
          have a2' := a2.out
          clear et ln ex h1 h2 hB
          generalize s.extract k (k + 1) = X at *
          go_wp2_with (first | simp only [asl0, a1', a2'])
          exact ⟨⟨k + 1, _, rfl, by first | rfl | (rw [kw]), hlt, NX, by first | rfl | trivial⟩, by first | (simp [intOf]; done) | (simp [intOf]; omega)⟩
        · have q3 : ((s[k].toNat : Int) == 92) = false := (tn_ne h2).1
          have q4 : decide ((s[k].toNat : Int) = 92) = false := (tn_ne h2).2
          have NX : Hid (bL (T ++ s.extract k (k + 1)) = 34 :: escL 34 ((bL s).take (k + 1))) := hid (by
            rw [bL_app, hB.out, ex, et, if_neg (by rintro (q | q); exact h1 q; exact h2 q)]; simp)
          have a2 : Hid (∀ W, (Op.stringOp .add T (s.extract k (k + 1))).run Tryd.prog W = .ok (.string (T ++ s.extract k (k + 1))) W) := fun W => cat_run _ _ (by rw [ex]; show (bL T).length + 1 ≤ _; omega) W
          have a2' := a2.out
          clear et ln ex h1 h2 hB
          generalize s.extract k (k + 1) = X at *
          go_wp2_with (first | simp only [asl0, a2'])
          exact ⟨⟨k + 1, _, rfl, by first | rfl | (rw [kw]), hlt, NX, by first | rfl | trivial⟩, by first | (simp [intOf]; done) | (simp [intOf]; omega)⟩
    · have kI : ¬ (k : Int) < (s.size : Int) := by omega
      have ee : (bL s).take k = bL s := List.take_of_length_le (by rw [bL_len]; omega)
      have ln := escL_len 34 (bL s)
      rw [bL_len] at ln
      rw [ee] at hB
      have NX : Hid (bL (T ++ ⟨#[34]⟩) = 34 :: (escL 34 (bL s) ++ [34])) := hid (by rw [bL_app, hB.out]; simp [bL])
      have a2 : Hid (∀ W, (Op.stringOp .add T ⟨#[34]⟩).run Tryd.prog W = .ok (.string (T ++ ⟨#[34]⟩)) W) := fun W => cat_run _ _ (by rw [hB.out]; show (34 :: escL 34 (bL s)).length + 1 ≤ _; simp; omega) W
      have a2' := a2.out
      clear ee ln hB
      go_wp2_with (first | simp only [a2'])
      go_ret
      exact ⟨_, rfl, NX.out, by first | rfl | trivial⟩
end Go.Proofs.YtjiiafmbneehhaaDoor.Lx
