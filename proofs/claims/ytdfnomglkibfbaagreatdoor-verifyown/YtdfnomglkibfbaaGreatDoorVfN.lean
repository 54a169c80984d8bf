
import Derived.Test.YtdfnomglkibfbaaGreatDoorVfM
namespace Go.Proofs.YtdfnomglkibfbaaGreatDoor.Vf
open Go.RowKit Go.Maps
set_option linter.unusedVariables false
set_option linter.unusedSimpArgs false
set_option maxRecDepth 100000
theorem take_any {w : World} {mb c : Nat} {f : Nat → Option Int} (h : MI w mb f c) (s : Nat) (hs : s ≤ 4611686018427387904) : Calls Tryz.prog 108 #[.map (some mb), .int .i64 (s : Int)] w fun e w' => e = .returned (.tuple #[.int .i64 ((f s).getD 0), .bool (f s).isSome]) ∧ (∃ c', c' ≤ c ∧ MI w' mb (dropP f s) c') ∧ w.grownBy w' (some mb) ∧ ∀ a, w'.frozen? a = w.frozen? a := by
  have r := h.look s hs
  obtain ⟨w', r2, m2, g2, z2⟩ := h.del s hs 0
  have fin : Hid ((∃ c', c' ≤ c ∧ MI w' mb (dropP f s) c') ∧ w.grownBy w' (some mb) ∧ ∀ a, w'.frozen? a = w.frozen? a) := ⟨m2, g2, z2⟩
  clear m2 g2 z2 h
  generalize (f s).getD 0 = x at *
  generalize (f s).isSome = b at *
  go_enter Tryz.func108, Tryz.ntmps108
  go_wp2
  go_returns
  exact ⟨rfl, fin.out⟩
theorem meet_le {o : Option Int} {v : Int} (h1 : -1 ≤ v) (h2 : v ≤ 1000) : -4611686018427387904 ≤ meetP o v ∧ meetP o v ≤ 4611686018427387904 := by
  unfold meetP
  cases o with
  | none => simp only; omega
  | some o => simp only; split <;> omega
theorem bring_any {w : World} {mb c : Nat} {f : Nat → Option Int} (h : MI w mb f c) (s : Nat) (hs : s ≤ 4611686018427387904) (v : Int) (h1 : -1 ≤ v) (h2 : v ≤ 1000) (hc : c < 4611686018427387904) : Calls Tryz.prog 109 #[.map (some mb), .int .i64 (s : Int), .int .i64 v, .func (.func 110) #[] #[]] w fun e w' => e = .returned (.tuple #[]) ∧ (∃ c', c' ≤ c + 1 ∧ MI w' mb (bringP f s v) c') ∧ w.grownBy w' (some mb) ∧ ∀ a, w'.frozen? a = w.frozen? a := by
  have r := h.look s hs
  obtain ⟨m1, m2⟩ := meet_le (o := f s) h1 h2
  obtain ⟨w', r2, g1, g2, z2⟩ := h.put s hs (meetP (f s) v) m1 m2 hc
  have fin : Hid ((∃ c', c' ≤ c + 1 ∧ MI w' mb (bringP f s v) c') ∧ w.grownBy w' (some mb) ∧ ∀ a, w'.frozen? a = w.frozen? a) := ⟨g1, g2, z2⟩
  clear g1 g2 z2 h m1 m2
  cases q : f s with
  | none =>
    rw [q] at r r2
    simp only [Option.getD_none, Option.isSome_none, meetP] at r r2
    go_enter Tryz.func109, Tryz.ntmps109
    go_wp2
    go_returns
    exact ⟨rfl, fin.out⟩
  | some o =>
    rw [q] at r r2
    simp only [Option.getD_some, Option.isSome_some] at r r2
    have cS : Hid (∀ W, Calls Tryz.prog 110 #[.int .i64 o, .int .i64 v] W fun e w' => e = .returned (.int .i64 (meetP (some o) v)) ∧ w' = W) := fun W => by
      have e : meetP (some o) v = if o = v then o else -1 := by
        unfold meetP
        simp only
        by_cases p : o = v
        · rw [if_neg (by omega), if_pos p]
        · rw [if_pos p, if_neg p]
      rw [e]; exact sameHeight_any o v W
    generalize meetP (some o) v = y at *
    go_enter Tryz.func109, Tryz.ntmps109
    go_wp2_with (go_at_call 110; with_reducible refine Calls.mono (cS.out _) ?_; rintro e w2 ⟨rfl, rfl⟩)
    go_returns
    exact ⟨rfl, fin.out⟩
end Go.Proofs.YtdfnomglkibfbaaGreatDoor.Vf
