
import Derived.Test.YtdfnomglkibfbaaGreatDoorVfO
namespace Go.Proofs.YtdfnomglkibfbaaGreatDoor.Vf
open Go.RowKit
set_option linter.unusedVariables false
set_option linter.unusedSimpArgs false
set_option maxRecDepth 100000
/-- an instruction as a value. -/
def InP.v (i : InP) : Value := .agg #[.int .u8 (i.c : Int), .int .i64 i.a, .int .i64 i.b]
theorem operands_3 (p : PrH) (a b : Int) (ra : Bool) (w : World) : Calls Tryz.prog 82 #[p.v, InP.v ⟨3, a, b⟩] w fun e w' => e = .returned (.bool (opsD p.sz ra ⟨3, a, b⟩)) ∧ Below w.heap.size w w' := by
  have e : opsD p.sz ra ⟨3, a, b⟩ = (inB a p.names.n && inB b p.texts.n) := rfl
  rw [e]
  have k1 : Hid (∀ W, Calls Tryz.prog 117 #[.int .i64 a, .int .i64 ((p.names.n : Nat) : Int)] W fun e w' => e = .returned (.bool (inB a p.names.n)) ∧ w' = W) := fun W => in_any a p.names.n W
  have k2 : Hid (∀ W, Calls Tryz.prog 117 #[.int .i64 b, .int .i64 ((p.texts.n : Nat) : Int)] W fun e w' => e = .returned (.bool (inB b p.texts.n)) ∧ w' = W) := fun W => in_any b p.texts.n W
  unfold PrH.v InP.v
  generalize inB a p.names.n = x1 at *
  generalize inB b p.texts.n = x2 at *
  cases x1 with
  | true =>
    go_enter Tryz.func82, Tryz.ntmps82
    go_wp2_with (go_at_call 117; (first | with_reducible refine Calls.mono (k1.out _) ?_ | with_reducible refine Calls.mono (k2.out _) ?_); rintro e w2 ⟨rfl, rfl⟩)
    go_ret
    exact ⟨rfl, ((Below.refl _ w).alloc (Nat.le_refl _) _).alloc (by simp) _⟩
  | false =>
    go_enter Tryz.func82, Tryz.ntmps82
    go_wp2_with (go_at_call 117; (first | with_reducible refine Calls.mono (k1.out _) ?_ | with_reducible refine Calls.mono (k2.out _) ?_); rintro e w2 ⟨rfl, rfl⟩)
    go_ret
    exact ⟨rfl, ((Below.refl _ w).alloc (Nat.le_refl _) _).alloc (by simp) _⟩
theorem operands_4 (p : PrH) (a b : Int) (ra : Bool) (w : World) : Calls Tryz.prog 82 #[p.v, InP.v ⟨4, a, b⟩] w fun e w' => e = .returned (.bool (opsD p.sz ra ⟨4, a, b⟩)) ∧ Below w.heap.size w w' := by
  have e : opsD p.sz ra ⟨4, a, b⟩ = (inB a p.names.n && inB b p.lists.n) := rfl
  rw [e]
  have k1 : Hid (∀ W, Calls Tryz.prog 117 #[.int .i64 a, .int .i64 ((p.names.n : Nat) : Int)] W fun e w' => e = .returned (.bool (inB a p.names.n)) ∧ w' = W) := fun W => in_any a p.names.n W
  have k2 : Hid (∀ W, Calls Tryz.prog 117 #[.int .i64 b, .int .i64 ((p.lists.n : Nat) : Int)] W fun e w' => e = .returned (.bool (inB b p.lists.n)) ∧ w' = W) := fun W => in_any b p.lists.n W
  unfold PrH.v InP.v
  generalize inB a p.names.n = x1 at *
  generalize inB b p.lists.n = x2 at *
  cases x1 with
  | true =>
    go_enter Tryz.func82, Tryz.ntmps82
    go_wp2_with (go_at_call 117; (first | with_reducible refine Calls.mono (k1.out _) ?_ | with_reducible refine Calls.mono (k2.out _) ?_); rintro e w2 ⟨rfl, rfl⟩)
    go_ret
    exact ⟨rfl, ((Below.refl _ w).alloc (Nat.le_refl _) _).alloc (by simp) _⟩
  | false =>
    go_enter Tryz.func82, Tryz.ntmps82
    go_wp2_with (go_at_call 117; (first | with_reducible refine Calls.mono (k1.out _) ?_ | with_reducible refine Calls.mono (k2.out _) ?_); rintro e w2 ⟨rfl, rfl⟩)
    go_ret
    exact ⟨rfl, ((Below.refl _ w).alloc (Nat.le_refl _) _).alloc (by simp) _⟩
theorem operands_5 (p : PrH) (a b : Int) (ra : Bool) (w : World) : Calls Tryz.prog 82 #[p.v, InP.v ⟨5, a, b⟩] w fun e w' => e = .returned (.bool (opsD p.sz ra ⟨5, a, b⟩)) ∧ Below w.heap.size w w' := by
  have e : opsD p.sz ra ⟨5, a, b⟩ = (inB a p.names.n && inB b p.names.n) := rfl
  rw [e]
  have k1 : Hid (∀ W, Calls Tryz.prog 117 #[.int .i64 a, .int .i64 ((p.names.n : Nat) : Int)] W fun e w' => e = .returned (.bool (inB a p.names.n)) ∧ w' = W) := fun W => in_any a p.names.n W
  have k2 : Hid (∀ W, Calls Tryz.prog 117 #[.int .i64 b, .int .i64 ((p.names.n : Nat) : Int)] W fun e w' => e = .returned (.bool (inB b p.names.n)) ∧ w' = W) := fun W => in_any b p.names.n W
  unfold PrH.v InP.v
  generalize inB a p.names.n = x1 at *
  generalize inB b p.names.n = x2 at *
  cases x1 with
  | true =>
    go_enter Tryz.func82, Tryz.ntmps82
    go_wp2_with (go_at_call 117; (first | with_reducible refine Calls.mono (k1.out _) ?_ | with_reducible refine Calls.mono (k2.out _) ?_); rintro e w2 ⟨rfl, rfl⟩)
    go_ret
    exact ⟨rfl, ((Below.refl _ w).alloc (Nat.le_refl _) _).alloc (by simp) _⟩
  | false =>
    go_enter Tryz.func82, Tryz.ntmps82
    go_wp2_with (go_at_call 117; (first | with_reducible refine Calls.mono (k1.out _) ?_ | with_reducible refine Calls.mono (k2.out _) ?_); rintro e w2 ⟨rfl, rfl⟩)
    go_ret
    exact ⟨rfl, ((Below.refl _ w).alloc (Nat.le_refl _) _).alloc (by simp) _⟩
theorem operands_6 (p : PrH) (a b : Int) (ra : Bool) (w : World) : Calls Tryz.prog 82 #[p.v, InP.v ⟨6, a, b⟩] w fun e w' => e = .returned (.bool (opsD p.sz ra ⟨6, a, b⟩)) ∧ Below w.heap.size w w' := by
  have e : opsD p.sz ra ⟨6, a, b⟩ = (inB a 6 && inB b p.times.n) := rfl
  rw [e]
  have k1 : Hid (∀ W, Calls Tryz.prog 117 #[.int .i64 a, .int .i64 ((6 : Nat) : Int)] W fun e w' => e = .returned (.bool (inB a 6)) ∧ w' = W) := fun W => in_any a 6 W
  have k2 : Hid (∀ W, Calls Tryz.prog 117 #[.int .i64 b, .int .i64 ((p.times.n : Nat) : Int)] W fun e w' => e = .returned (.bool (inB b p.times.n)) ∧ w' = W) := fun W => in_any b p.times.n W
  unfold PrH.v InP.v
  generalize inB a 6 = x1 at *
  generalize inB b p.times.n = x2 at *
  cases x1 with
  | true =>
    go_enter Tryz.func82, Tryz.ntmps82
    go_wp2_with (go_at_call 117; (first | with_reducible refine Calls.mono (k1.out _) ?_ | with_reducible refine Calls.mono (k2.out _) ?_); rintro e w2 ⟨rfl, rfl⟩)
    go_ret
    exact ⟨rfl, ((Below.refl _ w).alloc (Nat.le_refl _) _).alloc (by simp) _⟩
  | false =>
    go_enter Tryz.func82, Tryz.ntmps82
    go_wp2_with (go_at_call 117; (first | with_reducible refine Calls.mono (k1.out _) ?_ | with_reducible refine Calls.mono (k2.out _) ?_); rintro e w2 ⟨rfl, rfl⟩)
    go_ret
    exact ⟨rfl, ((Below.refl _ w).alloc (Nat.le_refl _) _).alloc (by simp) _⟩
theorem operands_14 (p : PrH) (a b : Int) (ra : Bool) (w : World) : Calls Tryz.prog 82 #[p.v, InP.v ⟨14, a, b⟩] w fun e w' => e = .returned (.bool (opsD p.sz ra ⟨14, a, b⟩)) ∧ Below w.heap.size w w' := by
  have e : opsD p.sz ra ⟨14, a, b⟩ = (inB a p.accs.n && decide (b = 0)) := rfl
  rw [e]
  have k1 : Hid (∀ W, Calls Tryz.prog 117 #[.int .i64 a, .int .i64 ((p.accs.n : Nat) : Int)] W fun e w' => e = .returned (.bool (inB a p.accs.n)) ∧ w' = W) := fun W => in_any a p.accs.n W
  unfold PrH.v InP.v
  generalize inB a p.accs.n = x1 at *
  cases x1 with
  | true =>
    go_enter Tryz.func82, Tryz.ntmps82
    go_wp2_with (go_at_call 117; with_reducible refine Calls.mono (k1.out _) ?_; rintro e w2 ⟨rfl, rfl⟩)
    go_ret
    exact ⟨by first | rfl | simp | (congr 1), ((Below.refl _ w).alloc (Nat.le_refl _) _).alloc (by simp) _⟩
  | false =>
    go_enter Tryz.func82, Tryz.ntmps82
    go_wp2_with (go_at_call 117; with_reducible refine Calls.mono (k1.out _) ?_; rintro e w2 ⟨rfl, rfl⟩)
    go_ret
    exact ⟨by first | rfl | simp | (congr 1), ((Below.refl _ w).alloc (Nat.le_refl _) _).alloc (by simp) _⟩
theorem operands_15 (p : PrH) (a b : Int) (ra : Bool) (w : World) : Calls Tryz.prog 82 #[p.v, InP.v ⟨15, a, b⟩] w fun e w' => e = .returned (.bool (opsD p.sz ra ⟨15, a, b⟩)) ∧ Below w.heap.size w w' := by
  have e : opsD p.sz ra ⟨15, a, b⟩ = (inB a p.ints.n && decide (b = 0)) := rfl
  rw [e]
  have k1 : Hid (∀ W, Calls Tryz.prog 117 #[.int .i64 a, .int .i64 ((p.ints.n : Nat) : Int)] W fun e w' => e = .returned (.bool (inB a p.ints.n)) ∧ w' = W) := fun W => in_any a p.ints.n W
  unfold PrH.v InP.v
  generalize inB a p.ints.n = x1 at *
  cases x1 with
  | true =>
    go_enter Tryz.func82, Tryz.ntmps82
    go_wp2_with (go_at_call 117; with_reducible refine Calls.mono (k1.out _) ?_; rintro e w2 ⟨rfl, rfl⟩)
    go_ret
    exact ⟨by first | rfl | simp | (congr 1), ((Below.refl _ w).alloc (Nat.le_refl _) _).alloc (by simp) _⟩
  | false =>
    go_enter Tryz.func82, Tryz.ntmps82
    go_wp2_with (go_at_call 117; with_reducible refine Calls.mono (k1.out _) ?_; rintro e w2 ⟨rfl, rfl⟩)
    go_ret
    exact ⟨by first | rfl | simp | (congr 1), ((Below.refl _ w).alloc (Nat.le_refl _) _).alloc (by simp) _⟩
theorem operands_23 (p : PrH) (a b : Int) (ra : Bool) (w : World) : Calls Tryz.prog 82 #[p.v, InP.v ⟨23, a, b⟩] w fun e w' => e = .returned (.bool (opsD p.sz ra ⟨23, a, b⟩)) ∧ Below w.heap.size w w' := by
  have e : opsD p.sz ra ⟨23, a, b⟩ = (inB a p.alias.n && decide (b = 0)) := rfl
  rw [e]
  have k1 : Hid (∀ W, Calls Tryz.prog 117 #[.int .i64 a, .int .i64 ((p.alias.n : Nat) : Int)] W fun e w' => e = .returned (.bool (inB a p.alias.n)) ∧ w' = W) := fun W => in_any a p.alias.n W
  unfold PrH.v InP.v
  generalize inB a p.alias.n = x1 at *
  cases x1 with
  | true =>
    go_enter Tryz.func82, Tryz.ntmps82
    go_wp2_with (go_at_call 117; with_reducible refine Calls.mono (k1.out _) ?_; rintro e w2 ⟨rfl, rfl⟩)
    go_ret
    exact ⟨by first | rfl | simp | (congr 1), ((Below.refl _ w).alloc (Nat.le_refl _) _).alloc (by simp) _⟩
  | false =>
    go_enter Tryz.func82, Tryz.ntmps82
    go_wp2_with (go_at_call 117; with_reducible refine Calls.mono (k1.out _) ?_; rintro e w2 ⟨rfl, rfl⟩)
    go_ret
    exact ⟨by first | rfl | simp | (congr 1), ((Below.refl _ w).alloc (Nat.le_refl _) _).alloc (by simp) _⟩
theorem operands_10 (p : PrH) (a b : Int) (ra : Bool) (w : World) : Calls Tryz.prog 82 #[p.v, InP.v ⟨10, a, b⟩] w fun e w' => e = .returned (.bool (opsD p.sz ra ⟨10, a, b⟩)) ∧ Below w.heap.size w w' := by
  have e : opsD p.sz ra ⟨10, a, b⟩ = decide (b = 0) := rfl
  rw [e]
  unfold PrH.v InP.v
  go_enter Tryz.func82, Tryz.ntmps82
  go_wp2
  go_ret
  exact ⟨by first | rfl | simp | (congr 1), ((Below.refl _ w).alloc (Nat.le_refl _) _).alloc (by simp) _⟩
theorem operands_11 (p : PrH) (a b : Int) (ra : Bool) (w : World) : Calls Tryz.prog 82 #[p.v, InP.v ⟨11, a, b⟩] w fun e w' => e = .returned (.bool (opsD p.sz ra ⟨11, a, b⟩)) ∧ Below w.heap.size w w' := by
  have e : opsD p.sz ra ⟨11, a, b⟩ = decide (b = 0) := rfl
  rw [e]
  unfold PrH.v InP.v
  go_enter Tryz.func82, Tryz.ntmps82
  go_wp2
  go_ret
  exact ⟨by first | rfl | simp | (congr 1), ((Below.refl _ w).alloc (Nat.le_refl _) _).alloc (by simp) _⟩
end Go.Proofs.YtdfnomglkibfbaaGreatDoor.Vf
