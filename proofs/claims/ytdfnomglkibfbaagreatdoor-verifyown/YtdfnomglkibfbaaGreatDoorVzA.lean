
import Derived.Test.YtdfnomglkibfbaaGreatDoorVgH
import Derived.Test.YtdfnomglkibfbaaGreatDoorVfS
import Derived.Deep.QuietTactic
import Derived.BigQuiet
namespace Go.Proofs.YtdfnomglkibfbaaGreatDoor.Vf
open Go.RowKit
set_option linter.unusedVariables false
set_option linter.unusedSimpArgs false
set_option maxRecDepth 100000
/-! ### plain: what is told of a whole program -/
def resOf (hd : Bool) (e1 e2 : Option (Nat × Int)) (h1 h2 : Option Nat) (nf : Nat) (em : Bool) : Option (Int × Option Int) :=
  if hd = false then some (192, none) else
  match e1 with
  | some (k, e) => some (e, some (((0 : Nat) : Int) + (k : Int)))
  | none => match e2 with
    | some (k, e) => some (e, some ((nf : Int) + (k : Int)))
    | none => match h1 with
      | some k => some (190, some (((0 : Nat) : Int) + (k : Int)))
      | none => match h2 with
        | some k => some (190, some ((nf : Int) + (k : Int)))
        | none => if em = true then none else some (193, none)
/-- the program's way. -/
def resP (p : PrH) (q : PrL) : Option (Int × Option Int) := resOf (hdB p q) (eachP p.sz true q.accs q.filter) (eachP p.sz false q.accs q.output) (hgtP q.filter 0 m0 []).2 (hgtP q.output 0 m0 []).2 p.filter.n (emitB p.alias.n q.output)
/-- the document's. -/
def resD (p : PrH) (q : PrL) : Option (Int × Option Int) := resOf (hdB p q) (eachD p.sz true q.accs q.filter) (eachD p.sz false q.accs q.output) (hgtD q.filter 0 s0).2 (hgtD q.output 0 s0).2 p.filter.n (emitB p.alias.n q.output)
theorem res_same (p : PrH) (q : PrL) : resP p q = resD p q := by
  unfold resP resD
  rw [← each_same, ← each_same]
  cases e1 : eachP p.sz true q.accs q.filter with
  | some x => unfold resOf; rfl
  | none =>
    cases e2 : eachP p.sz false q.accs q.output with
    | some x => unfold resOf; rfl
    | none => rw [hgt0 (fmd_of e1), hgt0 (fmd_of e2)]
theorem firstBad_ne {bad : Nat → InP → Int} : ∀ (l : List InP) (k j : Nat) (e : Int), firstBad bad l k = some (j, e) → e ≠ 0
  | [], _, _, _, h => by cases h
  | i :: r, k, j, e, h => by
    unfold firstBad at h
    split at h
    · exact firstBad_ne r (k + 1) j e h
    · rename_i q
      injection h with h
      injection h with h1 h2
      rw [← h2]; exact q
theorem eachD_ne {z : SzP} {f : Bool} {acc : List AcP} {l : List InP} {k : Nat} {e : Int} (h : eachD z f acc l = some (k, e)) : e ≠ 0 := by
  unfold eachD at h
  cases q : firstBad (fun k i => badD z (if f then 13 else 24) k ((l.length : Int) - 1) (raOf acc i.a i.b) i) l 0 with
  | some x =>
    rw [q] at h
    obtain ⟨j, x⟩ := x
    injection h with h
    injection h with h1 h2
    rw [← h2]; exact firstBad_ne l 0 j x q
  | none =>
    rw [q] at h
    dsimp only at h
    by_cases c : (l.getLast?.map fun i => i.c) = some (if f then 13 else 24)
    · rw [if_pos c] at h; cases h
    · rw [if_neg c] at h
      injection h with h
      injection h with h1 h2
      rw [← h2]; decide
/-- as the program's error. -/
def errV : Option (Int × Option Int) → Value
  | none => .nilIface
  | some (c, none) => .iface 34 (.int .i64 c)
  | some (c, some x) => atE x c
/-- as the document's. -/
def badR : Option (Int × Option Int) → Value
  | none => badV 0 0 false
  | some (c, none) => badV c 0 false
  | some (c, some x) => badV c x true
end Go.Proofs.YtdfnomglkibfbaaGreatDoor.Vf

namespace Go.Proofs.YtdfnomglkibfbaaGreatDoor.Vf
open Go.RowKit
set_option linter.unusedVariables false
set_option linter.unusedSimpArgs false
set_option maxRecDepth 100000
theorem operands_3g (p : PrH) (a b : Int) (ra : Bool) (w : World) : Calls Tryz.prog 82 #[p.v, InP.v ⟨3, a, b⟩] w fun e w' => e = .returned (.bool (opsD p.sz ra ⟨3, a, b⟩)) ∧ GR w w' := by
  have e : opsD p.sz ra ⟨3, a, b⟩ = (inB a p.names.n && inB b p.texts.n) := rfl
  rw [e]
  have k1 : Hid (∀ W, Calls Tryz.prog 117 #[.int .i64 a, .int .i64 ((p.names.n : Nat) : Int)] W fun e w' => e = .returned (.bool (inB a p.names.n)) ∧ w' = W) := fun W => in_any a p.names.n W
  have k2 : Hid (∀ W, Calls Tryz.prog 117 #[.int .i64 b, .int .i64 ((p.texts.n : Nat) : Int)] W fun e w' => e = .returned (.bool (inB b p.texts.n)) ∧ w' = W) := fun W => in_any b p.texts.n W
  unfold PrH.v InP.v
  generalize inB a p.names.n = x1 at *
  generalize inB b p.texts.n = x2 at *
  cases x1 with
  | true =>
    go_enter Tryz.func82, Tryz.ntmps82
    go_wp2_with (go_at_call 117; (first | with_reducible refine Calls.mono (k1.out _) ?_ | with_reducible refine Calls.mono (k2.out _) ?_); rintro e w2 ⟨rfl, rfl⟩)
    go_ret
    exact ⟨rfl, ((GR.refl w).alloc _).alloc _⟩
  | false =>
    go_enter Tryz.func82, Tryz.ntmps82
    go_wp2_with (go_at_call 117; (first | with_reducible refine Calls.mono (k1.out _) ?_ | with_reducible refine Calls.mono (k2.out _) ?_); rintro e w2 ⟨rfl, rfl⟩)
    go_ret
    exact ⟨rfl, ((GR.refl w).alloc _).alloc _⟩
theorem operands_4g (p : PrH) (a b : Int) (ra : Bool) (w : World) : Calls Tryz.prog 82 #[p.v, InP.v ⟨4, a, b⟩] w fun e w' => e = .returned (.bool (opsD p.sz ra ⟨4, a, b⟩)) ∧ GR w w' := by
  have e : opsD p.sz ra ⟨4, a, b⟩ = (inB a p.names.n && inB b p.lists.n) := rfl
  rw [e]
  have k1 : Hid (∀ W, Calls Tryz.prog 117 #[.int .i64 a, .int .i64 ((p.names.n : Nat) : Int)] W fun e w' => e = .returned (.bool (inB a p.names.n)) ∧ w' = W) := fun W => in_any a p.names.n W
  have k2 : Hid (∀ W, Calls Tryz.prog 117 #[.int .i64 b, .int .i64 ((p.lists.n : Nat) : Int)] W fun e w' => e = .returned (.bool (inB b p.lists.n)) ∧ w' = W) := fun W => in_any b p.lists.n W
  unfold PrH.v InP.v
  generalize inB a p.names.n = x1 at *
  generalize inB b p.lists.n = x2 at *
  cases x1 with
  | true =>
    go_enter Tryz.func82, Tryz.ntmps82
    go_wp2_with (go_at_call 117; (first | with_reducible refine Calls.mono (k1.out _) ?_ | with_reducible refine Calls.mono (k2.out _) ?_); rintro e w2 ⟨rfl, rfl⟩)
    go_ret
    exact ⟨rfl, ((GR.refl w).alloc _).alloc _⟩
  | false =>
    go_enter Tryz.func82, Tryz.ntmps82
    go_wp2_with (go_at_call 117; (first | with_reducible refine Calls.mono (k1.out _) ?_ | with_reducible refine Calls.mono (k2.out _) ?_); rintro e w2 ⟨rfl, rfl⟩)
    go_ret
    exact ⟨rfl, ((GR.refl w).alloc _).alloc _⟩
theorem operands_5g (p : PrH) (a b : Int) (ra : Bool) (w : World) : Calls Tryz.prog 82 #[p.v, InP.v ⟨5, a, b⟩] w fun e w' => e = .returned (.bool (opsD p.sz ra ⟨5, a, b⟩)) ∧ GR w w' := by
  have e : opsD p.sz ra ⟨5, a, b⟩ = (inB a p.names.n && inB b p.names.n) := rfl
  rw [e]
  have k1 : Hid (∀ W, Calls Tryz.prog 117 #[.int .i64 a, .int .i64 ((p.names.n : Nat) : Int)] W fun e w' => e = .returned (.bool (inB a p.names.n)) ∧ w' = W) := fun W => in_any a p.names.n W
  have k2 : Hid (∀ W, Calls Tryz.prog 117 #[.int .i64 b, .int .i64 ((p.names.n : Nat) : Int)] W fun e w' => e = .returned (.bool (inB b p.names.n)) ∧ w' = W) := fun W => in_any b p.names.n W
  unfold PrH.v InP.v
  generalize inB a p.names.n = x1 at *
  generalize inB b p.names.n = x2 at *
  cases x1 with
  | true =>
    go_enter Tryz.func82, Tryz.ntmps82
    go_wp2_with (go_at_call 117; (first | with_reducible refine Calls.mono (k1.out _) ?_ | with_reducible refine Calls.mono (k2.out _) ?_); rintro e w2 ⟨rfl, rfl⟩)
    go_ret
    exact ⟨rfl, ((GR.refl w).alloc _).alloc _⟩
  | false =>
    go_enter Tryz.func82, Tryz.ntmps82
    go_wp2_with (go_at_call 117; (first | with_reducible refine Calls.mono (k1.out _) ?_ | with_reducible refine Calls.mono (k2.out _) ?_); rintro e w2 ⟨rfl, rfl⟩)
    go_ret
    exact ⟨rfl, ((GR.refl w).alloc _).alloc _⟩
theorem operands_6g (p : PrH) (a b : Int) (ra : Bool) (w : World) : Calls Tryz.prog 82 #[p.v, InP.v ⟨6, a, b⟩] w fun e w' => e = .returned (.bool (opsD p.sz ra ⟨6, a, b⟩)) ∧ GR w w' := by
  have e : opsD p.sz ra ⟨6, a, b⟩ = (inB a 6 && inB b p.times.n) := rfl
  rw [e]
  have k1 : Hid (∀ W, Calls Tryz.prog 117 #[.int .i64 a, .int .i64 ((6 : Nat) : Int)] W fun e w' => e = .returned (.bool (inB a 6)) ∧ w' = W) := fun W => in_any a 6 W
  have k2 : Hid (∀ W, Calls Tryz.prog 117 #[.int .i64 b, .int .i64 ((p.times.n : Nat) : Int)] W fun e w' => e = .returned (.bool (inB b p.times.n)) ∧ w' = W) := fun W => in_any b p.times.n W
  unfold PrH.v InP.v
  generalize inB a 6 = x1 at *
  generalize inB b p.times.n = x2 at *
  cases x1 with
  | true =>
    go_enter Tryz.func82, Tryz.ntmps82
    go_wp2_with (go_at_call 117; (first | with_reducible refine Calls.mono (k1.out _) ?_ | with_reducible refine Calls.mono (k2.out _) ?_); rintro e w2 ⟨rfl, rfl⟩)
    go_ret
    exact ⟨rfl, ((GR.refl w).alloc _).alloc _⟩
  | false =>
    go_enter Tryz.func82, Tryz.ntmps82
    go_wp2_with (go_at_call 117; (first | with_reducible refine Calls.mono (k1.out _) ?_ | with_reducible refine Calls.mono (k2.out _) ?_); rintro e w2 ⟨rfl, rfl⟩)
    go_ret
    exact ⟨rfl, ((GR.refl w).alloc _).alloc _⟩
theorem operands_14g (p : PrH) (a b : Int) (ra : Bool) (w : World) : Calls Tryz.prog 82 #[p.v, InP.v ⟨14, a, b⟩] w fun e w' => e = .returned (.bool (opsD p.sz ra ⟨14, a, b⟩)) ∧ GR w w' := by
  have e : opsD p.sz ra ⟨14, a, b⟩ = (inB a p.accs.n && decide (b = 0)) := rfl
  rw [e]
  have k1 : Hid (∀ W, Calls Tryz.prog 117 #[.int .i64 a, .int .i64 ((p.accs.n : Nat) : Int)] W fun e w' => e = .returned (.bool (inB a p.accs.n)) ∧ w' = W) := fun W => in_any a p.accs.n W
  unfold PrH.v InP.v
  generalize inB a p.accs.n = x1 at *
  cases x1 with
  | true =>
    go_enter Tryz.func82, Tryz.ntmps82
    go_wp2_with (go_at_call 117; with_reducible refine Calls.mono (k1.out _) ?_; rintro e w2 ⟨rfl, rfl⟩)
    go_ret
    exact ⟨by first | rfl | simp | (congr 1), ((GR.refl w).alloc _).alloc _⟩
  | false =>
    go_enter Tryz.func82, Tryz.ntmps82
    go_wp2_with (go_at_call 117; with_reducible refine Calls.mono (k1.out _) ?_; rintro e w2 ⟨rfl, rfl⟩)
    go_ret
    exact ⟨by first | rfl | simp | (congr 1), ((GR.refl w).alloc _).alloc _⟩
theorem operands_15g (p : PrH) (a b : Int) (ra : Bool) (w : World) : Calls Tryz.prog 82 #[p.v, InP.v ⟨15, a, b⟩] w fun e w' => e = .returned (.bool (opsD p.sz ra ⟨15, a, b⟩)) ∧ GR w w' := by
  have e : opsD p.sz ra ⟨15, a, b⟩ = (inB a p.ints.n && decide (b = 0)) := rfl
  rw [e]
  have k1 : Hid (∀ W, Calls Tryz.prog 117 #[.int .i64 a, .int .i64 ((p.ints.n : Nat) : Int)] W fun e w' => e = .returned (.bool (inB a p.ints.n)) ∧ w' = W) := fun W => in_any a p.ints.n W
  unfold PrH.v InP.v
  generalize inB a p.ints.n = x1 at *
  cases x1 with
  | true =>
    go_enter Tryz.func82, Tryz.ntmps82
    go_wp2_with (go_at_call 117; with_reducible refine Calls.mono (k1.out _) ?_; rintro e w2 ⟨rfl, rfl⟩)
    go_ret
    exact ⟨by first | rfl | simp | (congr 1), ((GR.refl w).alloc _).alloc _⟩
  | false =>
    go_enter Tryz.func82, Tryz.ntmps82
    go_wp2_with (go_at_call 117; with_reducible refine Calls.mono (k1.out _) ?_; rintro e w2 ⟨rfl, rfl⟩)
    go_ret
    exact ⟨by first | rfl | simp | (congr 1), ((GR.refl w).alloc _).alloc _⟩
theorem operands_23g (p : PrH) (a b : Int) (ra : Bool) (w : World) : Calls Tryz.prog 82 #[p.v, InP.v ⟨23, a, b⟩] w fun e w' => e = .returned (.bool (opsD p.sz ra ⟨23, a, b⟩)) ∧ GR w w' := by
  have e : opsD p.sz ra ⟨23, a, b⟩ = (inB a p.alias.n && decide (b = 0)) := rfl
  rw [e]
  have k1 : Hid (∀ W, Calls Tryz.prog 117 #[.int .i64 a, .int .i64 ((p.alias.n : Nat) : Int)] W fun e w' => e = .returned (.bool (inB a p.alias.n)) ∧ w' = W) := fun W => in_any a p.alias.n W
  unfold PrH.v InP.v
  generalize inB a p.alias.n = x1 at *
  cases x1 with
  | true =>
    go_enter Tryz.func82, Tryz.ntmps82
    go_wp2_with (go_at_call 117; with_reducible refine Calls.mono (k1.out _) ?_; rintro e w2 ⟨rfl, rfl⟩)
    go_ret
    exact ⟨by first | rfl | simp | (congr 1), ((GR.refl w).alloc _).alloc _⟩
  | false =>
    go_enter Tryz.func82, Tryz.ntmps82
    go_wp2_with (go_at_call 117; with_reducible refine Calls.mono (k1.out _) ?_; rintro e w2 ⟨rfl, rfl⟩)
    go_ret
    exact ⟨by first | rfl | simp | (congr 1), ((GR.refl w).alloc _).alloc _⟩
theorem operands_10g (p : PrH) (a b : Int) (ra : Bool) (w : World) : Calls Tryz.prog 82 #[p.v, InP.v ⟨10, a, b⟩] w fun e w' => e = .returned (.bool (opsD p.sz ra ⟨10, a, b⟩)) ∧ GR w w' := by
  have e : opsD p.sz ra ⟨10, a, b⟩ = decide (b = 0) := rfl
  rw [e]
  unfold PrH.v InP.v
  go_enter Tryz.func82, Tryz.ntmps82
  go_wp2
  go_ret
  exact ⟨by first | rfl | simp | (congr 1), ((GR.refl w).alloc _).alloc _⟩
theorem operands_11g (p : PrH) (a b : Int) (ra : Bool) (w : World) : Calls Tryz.prog 82 #[p.v, InP.v ⟨11, a, b⟩] w fun e w' => e = .returned (.bool (opsD p.sz ra ⟨11, a, b⟩)) ∧ GR w w' := by
  have e : opsD p.sz ra ⟨11, a, b⟩ = decide (b = 0) := rfl
  rw [e]
  unfold PrH.v InP.v
  go_enter Tryz.func82, Tryz.ntmps82
  go_wp2
  go_ret
  exact ⟨by first | rfl | simp | (congr 1), ((GR.refl w).alloc _).alloc _⟩
end Go.Proofs.YtdfnomglkibfbaaGreatDoor.Vf

namespace Go.Proofs.YtdfnomglkibfbaaGreatDoor.Vf
open Go.RowKit
set_option linter.unusedVariables false
set_option linter.unusedSimpArgs false
set_option maxRecDepth 100000
theorem operands_noneg (p : PrH) (c : Nat) (a b : Int) (ra : Bool) (w : World) (h3 : c ≠ 3) (h4 : c ≠ 4) (h5 : c ≠ 5) (h6 : c ≠ 6) (h10 : c ≠ 10) (h11 : c ≠ 11) (h14 : c ≠ 14) (h15 : c ≠ 15) (h16 : c ≠ 16) (h23 : c ≠ 23) : Calls Tryz.prog 82 #[p.v, InP.v ⟨c, a, b⟩] w fun e w' => e = .returned (.bool (opsD p.sz ra ⟨c, a, b⟩)) ∧ GR w w' := by
  have e : opsD p.sz ra ⟨c, a, b⟩ = (decide (a = 0) && decide (b = 0)) := by
    unfold opsD
    simp only [h3, h4, h5, h6, h10, h11, h14, h15, h16, h23, or_self, if_false]
  rw [e]
  have q3 : ¬ (c : Int) = 3 := by omega
  have q4 : ¬ (c : Int) = 4 := by omega
  have q5 : ¬ (c : Int) = 5 := by omega
  have q6 : ¬ (c : Int) = 6 := by omega
  have q10 : ¬ (c : Int) = 10 := by omega
  have q11 : ¬ (c : Int) = 11 := by omega
  have q14 : ¬ (c : Int) = 14 := by omega
  have q15 : ¬ (c : Int) = 15 := by omega
  have q16 : ¬ (c : Int) = 16 := by omega
  have q23 : ¬ (c : Int) = 23 := by omega
  clear h3 h4 h5 h6 h10 h11 h14 h15 h16 h23 e
  unfold PrH.v InP.v
  dsimp only
  generalize (c : Int) = ci at *
  by_cases h : a = 0
  · subst h
    have e0 : (decide ((0 : Int) = 0) && decide (b = 0)) = decide (b = 0) := by simp
    rw [e0]
    go_enter Tryz.func82, Tryz.ntmps82
    go_wp2
    go_ret
    exact ⟨by first | rfl | simp | (congr 1), ((GR.refl w).alloc _).alloc _⟩
  · have e0 : (decide (a = 0) && decide (b = 0)) = false := by simp [h]
    rw [e0]
    go_enter Tryz.func82, Tryz.ntmps82
    go_wp2
    go_ret
    exact ⟨by first | rfl | simp | (congr 1), ((GR.refl w).alloc _).alloc _⟩
end Go.Proofs.YtdfnomglkibfbaaGreatDoor.Vf

namespace Go.Proofs.YtdfnomglkibfbaaGreatDoor.Vf
open Go.RowKit
set_option linter.unusedVariables false
set_option linter.unusedSimpArgs false
set_option maxRecDepth 100000
theorem gr_drewN {w w' : World} (h : GR w w') (k : Nat) : GR w (w'.drewN k) := h.trans ⟨k, #[], by rw [Sort.grow_empty]⟩
set_option maxHeartbeats 1500000 in
theorem operands_16g (p : PrH) (l : List AcP) (hl : p.accs.n = l.length) (a b : Int) (w : World) (hA : AcIn w p.accs.a l) : Calls Tryz.prog 82 #[p.v, InP.v ⟨16, a, b⟩] w fun e w' => e = .returned (.bool (opsD p.sz (raOf l a b) ⟨16, a, b⟩)) ∧ GR w w' := by
  have e : opsD p.sz (raOf l a b) ⟨16, a, b⟩ = (inB a p.accs.n && inB b p.accs.n && raOf l a b) := rfl
  rw [e]
  have k1 : Hid (∀ W, Calls Tryz.prog 117 #[.int .i64 a, .int .i64 ((p.accs.n : Nat) : Int)] W fun e w' => e = .returned (.bool (inB a p.accs.n)) ∧ w' = W) := fun W => in_any a p.accs.n W
  have k2 : Hid (∀ W, Calls Tryz.prog 117 #[.int .i64 b, .int .i64 ((p.accs.n : Nat) : Int)] W fun e w' => e = .returned (.bool (inB b p.accs.n)) ∧ w' = W) := fun W => in_any b p.accs.n W
  obtain ⟨x1, hx1⟩ : ∃ x, inB a p.accs.n = x := ⟨_, rfl⟩
  obtain ⟨x2, hx2⟩ : ∃ x, inB b p.accs.n = x := ⟨_, rfl⟩
  rw [hx1, hx2]
  rw [hx1] at k1
  rw [hx2] at k2
  unfold PrH.v InP.v
  cases x1 with
  | false =>
    clear hx1 hx2 hA hl e
    simp only [Bool.false_and]
    go_enter Tryz.func82, Tryz.ntmps82
    go_wp2_with fail
    go_quiet ((go_at_call 117; first | with_reducible exact Calls.quiet_of_same (k1.out _) | with_reducible exact Calls.quiet_of_same (k2.out _)))
    go_wp2
    go_ret
    exact ⟨by first | rfl | simp | (congr 1), gr_drewN (((GR.refl w).alloc _).alloc _) _⟩
  | true =>
    cases x2 with
    | false =>
      clear hx1 hx2 hA hl e
      simp only [Bool.true_and, Bool.false_and]
      go_enter Tryz.func82, Tryz.ntmps82
      go_wp2_with fail
      go_quiet ((go_at_call 117; first | with_reducible exact Calls.quiet_of_same (k1.out _) | with_reducible exact Calls.quiet_of_same (k2.out _)))
      go_wp2
      go_ret
      exact ⟨by first | rfl | simp | (congr 1), gr_drewN (((GR.refl w).alloc _).alloc _) _⟩
    | true =>
      obtain ⟨i, rfl, hi⟩ := inB_true hx1
      obtain ⟨j, rfl, hj⟩ := inB_true hx2
      obtain ⟨g, off, ea, gb, hcs⟩ : ∃ g off, p.accs.a = some ⟨g, off, none⟩ ∧ g < w.heap.size ∧ ∀ i t, l[i]? = some t → w.cell? ⟨g, off + i * 2, none⟩ = some (.int .u8 (t.1 : Int)) ∧ w.cell? ⟨g, off + i * 2 + 1, none⟩ = some (.string t.2) := by
        rcases hA with q | q
        · rw [q] at hl; simp at hl; omega
        · exact q
      obtain ⟨x, hx⟩ : ∃ x, l[i]? = some x := ⟨_, List.getElem?_eq_getElem (by omega)⟩
      obtain ⟨y, hy⟩ : ∃ y, l[j]? = some y := ⟨_, List.getElem?_eq_getElem (by omega)⟩
      obtain ⟨a1, a2⟩ := hcs i x hx
      obtain ⟨b1, b2⟩ := hcs j y hy
      have er : raOf l (i : Int) (j : Int) = ratB x y := by
        unfold raOf
        simp only [Int.toNat_natCast, hx, hy]
      rw [er, ea]
      obtain ⟨xf, xs⟩ := x
      obtain ⟨yf, ys⟩ := y
      have i0 : (0 : Int) ≤ (i : Int) := by omega
      have j0 : (0 : Int) ≤ (j : Int) := by omega
      have iI : (i : Int) < (p.accs.n : Int) := by omega
      have jI : (j : Int) < (p.accs.n : Int) := by omega
      clear hx1 hx2 hA hl e hx hy hcs er hi hj
      simp only [Bool.true_and]
      by_cases h : xf = 2
      · subst h
        by_cases h1 : yf = 1
        · subst h1
          have q1 : decide (((2 : Nat) : Int) = 2) = true := by decide
          have e : ratB (2, xs) (1, ys) = (xs.toList == ys.toList) := by
            by_cases h2 : xs = ys
            · subst h2; simp [ratB]
            · rw [beq_eq_false_iff_ne.2 (fun q => h2 (toList_inj' q))]
              simp [ratB]; exact fun q => h2 q.symm
          rw [e]
          go_enter Tryz.func82, Tryz.ntmps82
          go_wp2_with fail
          go_quiet ((go_at_call 117; first | with_reducible exact Calls.quiet_of_same (k1.out _) | with_reducible exact Calls.quiet_of_same (k2.out _)))
          go_wp2
          go_ret
          exact ⟨by first | rfl | simp | (congr 1), gr_drewN (((GR.refl w).alloc _).alloc _) _⟩
        · have e : ratB (2, xs) (yf, ys) = false := by simp [ratB, h1]
          rw [e]
          have hd : decide ((yf : Int) = 1) = false := decide_eq_false (by omega)
          have hd2 : ((yf : Int) == 1) = false := by rw [beq_eq_false_iff_ne]; omega
          go_enter Tryz.func82, Tryz.ntmps82
          go_wp2_with fail
          go_quiet ((go_at_call 117; first | with_reducible exact Calls.quiet_of_same (k1.out _) | with_reducible exact Calls.quiet_of_same (k2.out _)))
          go_wp2
          go_ret
          exact ⟨by first | rfl | simp | (congr 1), gr_drewN (((GR.refl w).alloc _).alloc _) _⟩
      · have e : ratB (xf, xs) (yf, ys) = false := by simp [ratB, h]
        rw [e]
        have hd : decide ((xf : Int) = 2) = false := decide_eq_false (by omega)
        have hd2 : ((xf : Int) == 2) = false := by rw [beq_eq_false_iff_ne]; omega
        go_enter Tryz.func82, Tryz.ntmps82
        go_wp2_with fail
        go_quiet ((go_at_call 117; first | with_reducible exact Calls.quiet_of_same (k1.out _) | with_reducible exact Calls.quiet_of_same (k2.out _)))
        go_wp2
        go_ret
        exact ⟨by first | rfl | simp | (congr 1), gr_drewN (((GR.refl w).alloc _).alloc _) _⟩
end Go.Proofs.YtdfnomglkibfbaaGreatDoor.Vf

namespace Go.Proofs.YtdfnomglkibfbaaGreatDoor.Vf
open Go.RowKit
set_option linter.unusedVariables false
theorem gcell {w : World} {a : Addr} {v : Value} (h : w.cell? a = some v) (n : Nat) (os : Array Obj) : (Sort.grow (w.drewN n) os).cell? a = some v := by
  rw [(GR.below ⟨n, os, rfl⟩ : Below w.heap.size w (Sort.grow (w.drewN n) os)).cell (p := a) (World.block_lt_of_cell? _ _ h)]; exact h
theorem operands_gr (p : PrH) (l : List AcP) (hl : p.accs.n = l.length) (i : InP) (w : World) (hA : AcIn w p.accs.a l) : Calls Tryz.prog 82 #[p.v, i.v] w fun e w' => e = .returned (.bool (opsD p.sz (raOf l i.a i.b) i)) ∧ GR w w' := by
  obtain ⟨c, a, b⟩ := i
  by_cases h3 : c = 3
  · subst h3; exact operands_3g p a b _ w
  by_cases h4 : c = 4
  · subst h4; exact operands_4g p a b _ w
  by_cases h5 : c = 5
  · subst h5; exact operands_5g p a b _ w
  by_cases h6 : c = 6
  · subst h6; exact operands_6g p a b _ w
  by_cases h10 : c = 10
  · subst h10; exact operands_10g p a b _ w
  by_cases h11 : c = 11
  · subst h11; exact operands_11g p a b _ w
  by_cases h14 : c = 14
  · subst h14; exact operands_14g p a b _ w
  by_cases h15 : c = 15
  · subst h15; exact operands_15g p a b _ w
  by_cases h16 : c = 16
  · subst h16; exact operands_16g p l hl a b w hA
  by_cases h23 : c = 23
  · subst h23; exact operands_23g p a b _ w
  exact operands_noneg p c a b _ w h3 h4 h5 h6 h10 h11 h14 h15 h16 h23
end Go.Proofs.YtdfnomglkibfbaaGreatDoor.Vf
