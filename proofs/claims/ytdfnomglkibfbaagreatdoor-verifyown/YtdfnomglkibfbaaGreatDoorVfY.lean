
import Derived.Test.YtdfnomglkibfbaaGreatDoorVfX
namespace Go.Proofs.YtdfnomglkibfbaaGreatDoor.Vf
open Go.RowKit
set_option linter.unusedVariables false
set_option linter.unusedSimpArgs false
set_option maxRecDepth 100000
theorem vcolumn_any (s : ByteArray) (w : World) (hT : UT w) : Calls Tryz.prog 96 #[.string s] w fun e w' => e = .returned (.bool (columnB s)) ∧ Below w.heap.size w w' := by
  have c : Hid (Calls Tryz.prog 94 #[.string s] w fun e w' => e = .returned (erV (cleanB s 64) 50) ∧ Below w.heap.size w w') := name_any s w hT
  unfold columnB
  generalize cleanB s 64 = v at c ⊢
  cases h : (s.toList == [116, 105, 109, 101]) with
  | true =>
    have h' : s.toList = [116, 105, 109, 101] := by simpa using h
    go_enter Tryz.func96, Tryz.ntmps96
    go_wp2_with fail
    go_ret
    exact ⟨by simp [h'], Below.refl _ _⟩
  | false =>
    have h' : ¬ s.toList = [116, 105, 109, 101] := by simpa using h
    cases v with
    | true =>
      have e : erV true 50 = .nilIface := rfl
      rw [e] at c
      go_enter Tryz.func96, Tryz.ntmps96
      go_wp2_with (go_at_call 94; with_reducible refine Calls.mono c.out ?_; rintro e w' ⟨rfl, hb⟩)
      go_ret
      exact ⟨by simp, hb⟩
    | false =>
      have e : erV false 50 = .iface 34 (.int .i64 50) := rfl
      rw [e] at c
      go_enter Tryz.func96, Tryz.ntmps96
      go_wp2_with (go_at_call 94; with_reducible refine Calls.mono c.out ?_; rintro e w' ⟨rfl, hb⟩)
      go_ret
      exact ⟨by simp, hb⟩
theorem ktext_any (s : ByteArray) (w : World) (hT : UT w) : Calls Tryz.prog 128 #[.string s] w fun e w' => e = .returned (erV (cleanB s 256) 51) ∧ Below w.heap.size w w' := by
  have c : Hid (Calls Tryz.prog 120 #[.string s, .int .i64 256] w fun e w' => e = .returned (.bool (cleanB s 256)) ∧ Below w.heap.size w w') := clean_any s 256 w (by omega) hT
  generalize cleanB s 256 = v at c ⊢
  have u : Hid (∀ W, Calls Tryz.prog 119 #[.bool v, .int .i64 51] W fun ev w' => ev = .returned (erV v 51) ∧ Below W.heap.size W w') := fun W => unless_any v 51 (by decide) W
  generalize erV v 51 = r at u ⊢
  go_enter Tryz.func128, Tryz.ntmps128
  go_wp2_with (first | (go_at_call 120; with_reducible refine Calls.mono c.out ?_; rintro e w' ⟨rfl, hb⟩) | (go_at_call 119; with_reducible refine Calls.mono (u.out _) ?_; rintro e w2 ⟨rfl, hb2⟩))
  go_ret
  exact ⟨rfl, hb.trans (hb2.mono hb.size)⟩
theorem vvalue_any (s : ByteArray) (w : World) (hT : UT w) : Calls Tryz.prog 100 #[.string s] w fun e w' => e = .returned (.bool (textB s)) ∧ Below w.heap.size w w' := by
  have c : Hid (Calls Tryz.prog 128 #[.string s] w fun e w' => e = .returned (erV (cleanB s 256) 51) ∧ Below w.heap.size w w') := ktext_any s w hT
  unfold textB
  generalize cleanB s 256 = v at c ⊢
  by_cases hs : s = ⟨#[]⟩
  · subst hs
    go_enter Tryz.func100, Tryz.ntmps100
    go_wp2_with fail
    go_ret
    exact ⟨by simp, Below.refl _ _⟩
  · have hnt : ¬ s.toList = [] := fun q => hs (toList_inj' (by rw [q, ByteArray.toList_eq]))
    cases v with
    | true =>
      have e : erV true 51 = .nilIface := rfl
      rw [e] at c
      go_enter Tryz.func100, Tryz.ntmps100
      go_wp2_with (go_at_call 128; with_reducible refine Calls.mono c.out ?_; rintro e w' ⟨rfl, hb⟩)
      go_ret
      exact ⟨by simp, hb⟩
    | false =>
      have e : erV false 51 = .iface 34 (.int .i64 51) := rfl
      rw [e] at c
      go_enter Tryz.func100, Tryz.ntmps100
      go_wp2_with (go_at_call 128; with_reducible refine Calls.mono c.out ?_; rintro e w' ⟨rfl, hb⟩)
      go_ret
      exact ⟨by simp [hs, hnt], hb⟩
theorem kept_any (a : AcP) (w : World) (hT : UT w) : Calls Tryz.prog 98 #[.agg #[.int .u8 (a.1 : Int), .string a.2]] w fun e w' => e = .returned (.bool (accB a)) ∧ Below w.heap.size w w' := by
  obtain ⟨f, s⟩ := a
  unfold accB
  have c : Hid (∀ o, Calls Tryz.prog 96 #[.string s] (w.alloc o) fun e w' => e = .returned (.bool (columnB s)) ∧ Below w.heap.size w w') := fun o => (vcolumn_any s _ (hT.below ((Below.refl _ w).alloc (Nat.le_refl _) o) (Nat.le_refl _))).mono fun e w' ⟨h1, h2⟩ => ⟨h1, ((Below.refl _ w).alloc (Nat.le_refl _) o).trans (h2.mono (by simp))⟩
  simp only
  generalize columnB s = v at c ⊢
  clear hT
  by_cases h1 : f = 1
  · subst h1
    have e : (oneB 1 && v) = v := by simp [oneB]
    rw [e]
    go_enter Tryz.func98, Tryz.ntmps98
    go_wp2_with (go_at_call 96; with_reducible refine Calls.mono (c.out _) ?_; rintro e w' ⟨rfl, hb⟩)
    go_ret
    exact ⟨rfl, hb⟩
  by_cases h2 : f = 2
  · subst h2
    have e : (oneB 2 && v) = v := by simp [oneB]
    rw [e]
    go_enter Tryz.func98, Tryz.ntmps98
    go_wp2_with (go_at_call 96; with_reducible refine Calls.mono (c.out _) ?_; rintro e w' ⟨rfl, hb⟩)
    go_ret
    exact ⟨rfl, hb⟩
  by_cases h4 : f = 4
  · subst h4
    have e : (oneB 4 && v) = v := by simp [oneB]
    rw [e]
    go_enter Tryz.func98, Tryz.ntmps98
    go_wp2_with (go_at_call 96; with_reducible refine Calls.mono (c.out _) ?_; rintro e w' ⟨rfl, hb⟩)
    go_ret
    exact ⟨rfl, hb⟩
  by_cases h5 : f = 5
  · subst h5
    have e : (oneB 5 && v) = v := by simp [oneB]
    rw [e]
    go_enter Tryz.func98, Tryz.ntmps98
    go_wp2_with (go_at_call 96; with_reducible refine Calls.mono (c.out _) ?_; rintro e w' ⟨rfl, hb⟩)
    go_ret
    exact ⟨rfl, hb⟩
  by_cases h6 : f = 6
  · subst h6
    have e : (oneB 6 && v) = v := by simp [oneB]
    rw [e]
    go_enter Tryz.func98, Tryz.ntmps98
    go_wp2_with (go_at_call 96; with_reducible refine Calls.mono (c.out _) ?_; rintro e w' ⟨rfl, hb⟩)
    go_ret
    exact ⟨rfl, hb⟩
  by_cases h7 : f = 7
  · subst h7
    have e : (oneB 7 && v) = v := by simp [oneB]
    rw [e]
    go_enter Tryz.func98, Tryz.ntmps98
    go_wp2_with (go_at_call 96; with_reducible refine Calls.mono (c.out _) ?_; rintro e w' ⟨rfl, hb⟩)
    go_ret
    exact ⟨rfl, hb⟩
  have e : (oneB f && v) = false := by simp [oneB, h1, h2, h4, h5, h6, h7]
  rw [e]
  have q1 : ¬ (f : Int) = 1 := by omega
  have q2 : ¬ (f : Int) = 2 := by omega
  have q4 : ¬ (f : Int) = 4 := by omega
  have q5 : ¬ (f : Int) = 5 := by omega
  have q6 : ¬ (f : Int) = 6 := by omega
  have q7 : ¬ (f : Int) = 7 := by omega
  clear h1 h2 h4 h5 h6 h7 e c
  generalize (f : Int) = fi at *
  go_enter Tryz.func98, Tryz.ntmps98
  go_wp2_with fail
  go_ret
  exact ⟨rfl, (Below.refl _ w).alloc (Nat.le_refl _) _⟩
end Go.Proofs.YtdfnomglkibfbaaGreatDoor.Vf
