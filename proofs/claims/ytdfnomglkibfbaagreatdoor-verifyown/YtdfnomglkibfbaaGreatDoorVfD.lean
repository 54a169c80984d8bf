
import Derived.Test.YtdfnomglkibfbaaGreatDoorVfG
namespace Go.Proofs.YtdfnomglkibfbaaGreatDoor.Vf
open Go.RowKit
set_option linter.unusedVariables false
set_option linter.unusedSimpArgs false
set_option maxRecDepth 100000
/-- the sizes as a value. -/
def szA (z : SzP) : Value := .agg #[.int .i64 1, .int .i64 z.names, .int .i64 z.texts, .int .i64 z.lists, .int .i64 z.times, .int .i64 6, .int .i64 z.accs, .int .i64 z.ints, .int .i64 z.alias, .int .i64 0]
theorem have_gr (z : SzP) (o : Nat) (ho : o < 10) (n : Int) (w : World) : Calls Tryz.prog 106 #[szA z, .int .u8 o, .int .i64 n] w fun e w' => e = .returned (.bool (haveB z o n)) ∧ GR w w' := by
  unfold szA
  by_cases h : (0 : Int) ≤ n
  · have hd : decide ((0 : Int) ≤ n) = true := decide_eq_true h
    match o, ho with
    | 0, _ =>
      have e : haveB z 0 n = decide (n < 1) := by simp [haveB, szL, h]
      rw [e]
      go_enter Tryz.func106, Tryz.ntmps106
      go_wp2
      go_ret
      exact ⟨rfl, (GR.refl w).alloc _⟩
    | 1, _ =>
      have e : haveB z 1 n = decide (n < (z.names : Int)) := by simp [haveB, szL, h]
      rw [e]
      go_enter Tryz.func106, Tryz.ntmps106
      go_wp2
      go_ret
      exact ⟨rfl, (GR.refl w).alloc _⟩
    | 2, _ =>
      have e : haveB z 2 n = decide (n < (z.texts : Int)) := by simp [haveB, szL, h]
      rw [e]
      go_enter Tryz.func106, Tryz.ntmps106
      go_wp2
      go_ret
      exact ⟨rfl, (GR.refl w).alloc _⟩
    | 3, _ =>
      have e : haveB z 3 n = decide (n < (z.lists : Int)) := by simp [haveB, szL, h]
      rw [e]
      go_enter Tryz.func106, Tryz.ntmps106
      go_wp2
      go_ret
      exact ⟨rfl, (GR.refl w).alloc _⟩
    | 4, _ =>
      have e : haveB z 4 n = decide (n < (z.times : Int)) := by simp [haveB, szL, h]
      rw [e]
      go_enter Tryz.func106, Tryz.ntmps106
      go_wp2
      go_ret
      exact ⟨rfl, (GR.refl w).alloc _⟩
    | 5, _ =>
      have e : haveB z 5 n = decide (n < 6) := by simp [haveB, szL, h]
      rw [e]
      go_enter Tryz.func106, Tryz.ntmps106
      go_wp2
      go_ret
      exact ⟨rfl, (GR.refl w).alloc _⟩
    | 6, _ =>
      have e : haveB z 6 n = decide (n < (z.accs : Int)) := by simp [haveB, szL, h]
      rw [e]
      go_enter Tryz.func106, Tryz.ntmps106
      go_wp2
      go_ret
      exact ⟨rfl, (GR.refl w).alloc _⟩
    | 7, _ =>
      have e : haveB z 7 n = decide (n < (z.ints : Int)) := by simp [haveB, szL, h]
      rw [e]
      go_enter Tryz.func106, Tryz.ntmps106
      go_wp2
      go_ret
      exact ⟨rfl, (GR.refl w).alloc _⟩
    | 8, _ =>
      have e : haveB z 8 n = decide (n < (z.alias : Int)) := by simp [haveB, szL, h]
      rw [e]
      go_enter Tryz.func106, Tryz.ntmps106
      go_wp2
      go_ret
      exact ⟨rfl, (GR.refl w).alloc _⟩
    | 9, _ =>
      have e : haveB z 9 n = true := by simp [haveB, szL, h]
      rw [e]
      go_enter Tryz.func106, Tryz.ntmps106
      go_wp2
      go_ret
      exact ⟨rfl, (GR.refl w).alloc _⟩
    | o + 10, ho => omega
  · have hd : decide ((0 : Int) ≤ n) = false := decide_eq_false h
    match o, ho with
    | 0, _ =>
      have e : haveB z 0 n = false := by simp [haveB, szL, h]
      rw [e]
      go_enter Tryz.func106, Tryz.ntmps106
      go_wp2
      go_ret
      exact ⟨rfl, (GR.refl w).alloc _⟩
    | 1, _ =>
      have e : haveB z 1 n = false := by simp [haveB, szL, h]
      rw [e]
      go_enter Tryz.func106, Tryz.ntmps106
      go_wp2
      go_ret
      exact ⟨rfl, (GR.refl w).alloc _⟩
    | 2, _ =>
      have e : haveB z 2 n = false := by simp [haveB, szL, h]
      rw [e]
      go_enter Tryz.func106, Tryz.ntmps106
      go_wp2
      go_ret
      exact ⟨rfl, (GR.refl w).alloc _⟩
    | 3, _ =>
      have e : haveB z 3 n = false := by simp [haveB, szL, h]
      rw [e]
      go_enter Tryz.func106, Tryz.ntmps106
      go_wp2
      go_ret
      exact ⟨rfl, (GR.refl w).alloc _⟩
    | 4, _ =>
      have e : haveB z 4 n = false := by simp [haveB, szL, h]
      rw [e]
      go_enter Tryz.func106, Tryz.ntmps106
      go_wp2
      go_ret
      exact ⟨rfl, (GR.refl w).alloc _⟩
    | 5, _ =>
      have e : haveB z 5 n = false := by simp [haveB, szL, h]
      rw [e]
      go_enter Tryz.func106, Tryz.ntmps106
      go_wp2
      go_ret
      exact ⟨rfl, (GR.refl w).alloc _⟩
    | 6, _ =>
      have e : haveB z 6 n = false := by simp [haveB, szL, h]
      rw [e]
      go_enter Tryz.func106, Tryz.ntmps106
      go_wp2
      go_ret
      exact ⟨rfl, (GR.refl w).alloc _⟩
    | 7, _ =>
      have e : haveB z 7 n = false := by simp [haveB, szL, h]
      rw [e]
      go_enter Tryz.func106, Tryz.ntmps106
      go_wp2
      go_ret
      exact ⟨rfl, (GR.refl w).alloc _⟩
    | 8, _ =>
      have e : haveB z 8 n = false := by simp [haveB, szL, h]
      rw [e]
      go_enter Tryz.func106, Tryz.ntmps106
      go_wp2
      go_ret
      exact ⟨rfl, (GR.refl w).alloc _⟩
    | 9, _ =>
      have e : haveB z 9 n = true := by simp [haveB, szL, h]
      rw [e]
      go_enter Tryz.func106, Tryz.ntmps106
      go_wp2
      go_ret
      exact ⟨rfl, (GR.refl w).alloc _⟩
    | o + 10, ho => omega
theorem have_any (z : SzP) (o : Nat) (ho : o < 10) (n : Int) (w : World) : Calls Tryz.prog 106 #[szA z, .int .u8 o, .int .i64 n] w fun e w' => e = .returned (.bool (haveB z o n)) ∧ Below w.heap.size w w' := (have_gr z o ho n w).mono (fun _ _ h => ⟨h.1, h.2.below⟩)
/-- an accumulator. -/
abbrev AcP := Nat × ByteArray
def ratB (a b : AcP) : Bool := decide (a.1 = 2) && (decide (b.1 = 1) && decide (b.2 = a.2))
end Go.Proofs.YtdfnomglkibfbaaGreatDoor.Vf
