
import Derived.Test.YticgapplpfaigaaGreatProg
import Derived.WalkKit
import Derived.Laws.BitsAllLaws
import Derived.BigQuiet
import Derived.Laws.OwnMore
import Derived.Deep.AppendLies
import Derived.OwnWalk
import Derived.LoopTactic
import Derived.Below
import Derived.Deep.RegionHeld3
namespace Go.Proofs.YticgapplpfaigaaGreat
open Go.RowKit
set_option linter.unusedVariables false
set_option linter.unusedSimpArgs false
/-- a sample: its time, its kind, its number. -/
structure Smp where
  t : Int
  k : Nat
  x : Int
  deriving DecidableEq
instance : Inhabited Smp := ⟨⟨0, 0, 0⟩⟩
def Smp.enc (s : Smp) : List Value := [.int .i64 s.t, .int .u8 (s.k : Int), .int .i64 s.x]
def Smp.val (s : Smp) : Value := .agg #[.int .i64 s.t, .int .u8 (s.k : Int), .int .i64 s.x]
def Smp.ok (s : Smp) : Prop := (-9223372036854775808 ≤ s.t ∧ s.t ≤ 9223372036854775807) ∧ s.k < 256 ∧ -9223372036854775808 ≤ s.x ∧ s.x ≤ 9223372036854775807
def encL : List Smp → List Value
  | [] => []
  | s :: r => s.enc ++ encL r
theorem encL_append (a b : List Smp) : encL (a ++ b) = encL a ++ encL b := by
  induction a with
  | nil => rfl
  | cons s r ih => simp [encL, ih]
theorem encL_len (l : List Smp) : (encL l).length = l.length * 3 := by
  induction l with
  | nil => rfl
  | cons s r ih => simp only [encL, List.length_append, ih, Smp.enc, List.length_cons, List.length_nil]; omega
theorem encL_one (l : List Smp) : ∀ u ∈ encL l, u.oneCell' = true := by
  induction l with
  | nil => intro u hu; cases hu
  | cons s r ih =>
    intro u hu
    simp only [encL, List.mem_append, Smp.enc, List.mem_cons, List.not_mem_nil, or_false] at hu
    rcases hu with (rfl | rfl | rfl) | hu
    · rfl
    · rfl
    · rfl
    · exact ih u hu
theorem encL_get (l : List Smp) (i : Nat) (s : Smp) (h : l[i]? = some s) : (encL l)[i * 3]? = some (.int .i64 s.t) ∧ (encL l)[i * 3 + 1]? = some (.int .u8 (s.k : Int)) ∧ (encL l)[i * 3 + 2]? = some (.int .i64 s.x) := by
  induction l generalizing i with
  | nil => simp at h
  | cons a r ih =>
    cases i with
    | zero => simp at h; subst h; simp [encL, Smp.enc]
    | succ i =>
      simp at h
      have := ih i h
      simp only [encL, Smp.enc]
      rw [show (i + 1) * 3 = i * 3 + 3 by omega]
      simpa using this
theorem encL_take (l : List Smp) (n : Nat) : encL (l.take n) = (encL l).take (n * 3) := by
  induction l generalizing n with
  | nil => simp [encL]
  | cons a r ih =>
    cases n with
    | zero => simp [encL]
    | succ n => rw [List.take_succ_cons, show (n + 1) * 3 = n * 3 + 3 by omega]; simp [encL, Smp.enc, ih]
theorem encL_drop (l : List Smp) (n : Nat) : encL (l.drop n) = (encL l).drop (n * 3) := by
  induction l generalizing n with
  | nil => simp [encL]
  | cons a r ih =>
    cases n with
    | zero => simp [encL]
    | succ n => rw [List.drop_succ_cons, show (n + 1) * 3 = n * 3 + 3 by omega]; simp [encL, Smp.enc, ih]
theorem smp_add (b o j : Nat) : ((⟨b, o, none⟩ : Addr).add j) = ⟨b, o + j, none⟩ := by
  simp [Addr.add]
/-- samples that lie in memory. -/
def LIn (w : World) (a : Option Addr) (l : List Smp) : Prop := (∀ s ∈ l, s.ok) ∧ (l = [] ∨ ∃ b off, a = some ⟨b, off, none⟩ ∧ b < w.heap.size ∧ ∀ i s, l[i]? = some s → w.cell? ⟨b, off + i * 3, none⟩ = some (.int .i64 s.t) ∧ w.cell? ⟨b, off + i * 3 + 1, none⟩ = some (.int .u8 (s.k : Int)) ∧ w.cell? ⟨b, off + i * 3 + 2, none⟩ = some (.int .i64 s.x))
/-- by rising times. -/
def Rise (l : List Smp) : Prop := l.Pairwise (fun a b => a.t < b.t)
theorem Rise.lt {l : List Smp} (h : Rise l) {i j : Nat} {a b : Smp} (hij : i < j) (ha : l[i]? = some a) (hb : l[j]? = some b) : a.t < b.t := by
  obtain ⟨h1, rfl⟩ := List.getElem?_eq_some_iff.1 ha
  obtain ⟨h2, rfl⟩ := List.getElem?_eq_some_iff.1 hb
  exact List.pairwise_iff_getElem.1 h i j h1 h2 hij
/-- how many lie ahead of a time. -/
def ahd (l : List Smp) (t : Int) : Nat := l.countP (fun s => decide (s.t < t))
def hasT (l : List Smp) (t : Int) : Bool := l.any (fun s => decide (s.t = t))
theorem ahd_le (l : List Smp) (t : Int) : ahd l t ≤ l.length := List.countP_le_length
theorem ahd_of (t : Int) : ∀ (l : List Smp) (i : Nat), i ≤ l.length → (∀ j s, j < i → l[j]? = some s → s.t < t) → (∀ j s, i ≤ j → l[j]? = some s → ¬ s.t < t) → ahd l t = i
  | [], i, hi, _, _ => by simp at hi; subst hi; rfl
  | a :: r, 0, _, _, h2 => by
    unfold ahd
    rw [List.countP_eq_zero]
    intro x hx
    obtain ⟨j, hj⟩ := List.getElem?_of_mem hx
    simpa using h2 j x (Nat.zero_le _) hj
  | a :: r, i + 1, hi, h1, h2 => by
    have ha : decide (a.t < t) = true := by simpa using h1 0 a (Nat.succ_pos _) rfl
    have := ahd_of t r i (by simpa using hi) (fun j s hj hs => h1 (j + 1) s (by omega) (by simpa using hs)) (fun j s hj hs => h2 (j + 1) s (by omega) (by simpa using hs))
    unfold ahd at this ⊢
    exact (List.countP_cons_of_pos (p := fun s : Smp => decide (s.t < t)) (a := a) (l := r) ha).trans (by rw [this])
theorem ahd_iff {l : List Smp} (h : Rise l) (t : Int) : ∀ {i : Nat} {s : Smp}, l[i]? = some s → (i < ahd l t ↔ s.t < t) := by
  induction l with
  | nil => intro i s hs; simp at hs
  | cons a r ih =>
    intro i s hs
    have hr : Rise r := (List.pairwise_cons.1 h).2
    have ha := (List.pairwise_cons.1 h).1
    by_cases hat : a.t < t
    · have e : ahd (a :: r) t = ahd r t + 1 := List.countP_cons_of_pos (by simpa using hat)
      rw [e]
      cases i with
      | zero => simp at hs; subst hs; simp [hat]
      | succ i => simp at hs; rw [← ih hr hs]; omega
    · have z : ahd (a :: r) t = 0 := by
        unfold ahd
        rw [List.countP_eq_zero]
        intro x hx
        rcases List.mem_cons.1 hx with rfl | hx
        · simpa using hat
        · have := ha x hx; simp; omega
      rw [z]
      cases i with
      | zero => simp at hs; subst hs; omega
      | succ i =>
        simp at hs
        have := ha s (List.mem_of_getElem? hs)
        omega
theorem hasT_iff {l : List Smp} (h : Rise l) (t : Int) : hasT l t = true ↔ ∃ s, l[ahd l t]? = some s ∧ s.t = t := by
  constructor
  · intro hh
    obtain ⟨s, hs, ht⟩ := List.any_eq_true.1 hh
    have ht : s.t = t := by simpa using ht
    obtain ⟨j, hj⟩ := List.getElem?_of_mem hs
    have k1 : ¬ j < ahd l t := by rw [ahd_iff h t hj]; omega
    have hjl := (List.getElem?_eq_some_iff.1 hj).1
    have e : l[ahd l t]? = some l[ahd l t] := List.getElem?_eq_getElem (by omega)
    have k2 : ¬ l[ahd l t].t < t := by rw [← ahd_iff h t e]; omega
    rcases Nat.lt_or_ge (ahd l t) j with hlt | hge
    · have := h.lt hlt e hj; omega
    · obtain rfl : j = ahd l t := by omega
      exact ⟨s, hj, ht⟩
  · rintro ⟨s, hs, ht⟩
    exact List.any_eq_true.2 ⟨s, List.mem_of_getElem? hs, by simpa using ht⟩
set_option maxRecDepth 100000 in
theorem nan_any (x : Int) (w : World) : Calls Tryz.prog 91 #[.int .i64 x] w fun e w' => e = .returned (.bool false) ∧ w' = w := by
  go_enter Tryz.func91, Tryz.ntmps91
  go_wp2_with fail
  go_ret
  exact ⟨by simp, rfl⟩
def cmpI (a b : Int) : Int := if a < b then -1 else if b < a then 1 else 0
set_option maxRecDepth 100000 in
theorem cmp_int (x y : Int) (w : World) : Calls Tryz.prog 83 #[.int .i64 x, .int .i64 y] w fun e w' => e = .returned (.int .i64 (cmpI x y)) ∧ w' = w := by
  have n1 : Hid (∀ x, Calls Tryz.prog 91 #[.int .i64 x] w fun e w' => e = .returned (.bool false) ∧ w' = w) := fun x => nan_any x w
  unfold cmpI
  by_cases h1 : x < y
  · rw [if_pos h1]
    go_enter Tryz.func83, Tryz.ntmps83
    go_wp2_with (refine Calls.mono (n1.out _) ?_; rintro e w' ⟨rfl, rfl⟩)
    go_ret
    exact ⟨rfl, rfl⟩
  · rw [if_neg h1]
    by_cases h2 : y < x
    · rw [if_pos h2]
      go_enter Tryz.func83, Tryz.ntmps83
      go_wp2_with (refine Calls.mono (n1.out _) ?_; rintro e w' ⟨rfl, rfl⟩)
      go_ret
      exact ⟨rfl, rfl⟩
    · rw [if_neg h2]
      go_enter Tryz.func83, Tryz.ntmps83
      go_wp2_with (refine Calls.mono (n1.out _) ?_; rintro e w' ⟨rfl, rfl⟩)
      go_ret
      exact ⟨rfl, rfl⟩
set_option maxRecDepth 100000 in
theorem cmp_any (s : Smp) (t : Int) (w : World) : Calls Tryz.prog 82 #[.agg #[.int .i64 s.t, .int .u8 (s.k : Int), .int .i64 s.x], .int .i64 t] w fun e w' => e = .returned (.int .i64 (cmpI s.t t)) ∧ Below w.heap.size w w' := by
  have n1 : Hid (∀ W, Calls Tryz.prog 83 #[.int .i64 s.t, .int .i64 t] W fun e w' => e = .returned (.int .i64 (cmpI s.t t)) ∧ w' = W) := fun W => cmp_int s.t t W
  generalize cmpI s.t t = r at n1 ⊢
  generalize s.t = a at n1 ⊢
  go_enter Tryz.func82, Tryz.ntmps82
  go_wp2_with (refine Calls.mono (n1.out _) ?_; rintro e w' ⟨rfl, rfl⟩)
  go_ret
  exact ⟨rfl, (Below.refl _ w).alloc (Nat.le_refl _) _⟩
end Go.Proofs.YticgapplpfaigaaGreat
