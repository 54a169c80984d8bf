
import Derived.Test.YtfpfeecoideedaaGreatDoorKyD
import Derived.Test.YtfpfeecoideedaaGreatDoorBase
namespace Go.Proofs.YtfpfeecoideedaaGreatDoor
open Go.RowKit Go.Shelf
set_option linter.unusedVariables false
set_option linter.unusedSimpArgs false
def columnB (s : ByteArray) : Bool := !(s.toList == [116, 105, 109, 101]) && cleanB s 64
def oddB (t : TagP) : Bool := !columnB t.1 || !cleanB t.2 256
def risB : List TagP → Bool
  | a :: b :: r => decide (strC a.1 b.1 < 0) && risB (b :: r)
  | _ => true
def tagsB (l : List TagP) : Bool := decide (l.length ≤ 8) && risB l && !l.any oddB
set_option maxRecDepth 100000 in
theorem column_any (s : ByteArray) (w : World) (hT : UT w) : Calls Tryz.prog 77 #[.string s] w fun e w' => e = .returned (.bool (columnB s)) ∧ Below w.heap.size w w' := by
  have c : Hid (Calls Tryz.prog 83 #[.string s, .int .i64 64] w fun e w' => e = .returned (.bool (cleanB s 64)) ∧ Below w.heap.size w w') := clean_any s 64 w (by omega) hT
  unfold columnB
  generalize cleanB s 64 = v at c ⊢
  cases h : (s.toList == [116, 105, 109, 101]) with
  | true =>
    have h' : s.toList = [116, 105, 109, 101] := by simpa using h
    go_enter Tryz.func77, Tryz.ntmps77
    go_wp2_with fail
    go_ret
    exact ⟨by simp [h'], Below.refl _ _⟩
  | false =>
    have h' : ¬ s.toList = [116, 105, 109, 101] := by simpa using h
    go_enter Tryz.func77, Tryz.ntmps77
    go_wp2_with (go_at_call 83; with_reducible refine Calls.mono c.out ?_; rintro e w' ⟨rfl, hb⟩)
    go_ret
    exact ⟨by simp, hb⟩
set_option maxRecDepth 100000 in
theorem unless_true (e : Int) (w : World) : Calls Tryz.prog 76 #[.bool true, .int .i64 e] w fun ev w' => ev = .returned .nilIface ∧ Below w.heap.size w w' := by
  go_enter Tryz.func76, Tryz.ntmps76
  go_wp2_with fail
  go_ret
  exact ⟨rfl, Below.refl _ _⟩
set_option maxRecDepth 100000 in
theorem unless_false (e : Int) (he : (e == 0) = false) (w : World) : Calls Tryz.prog 76 #[.bool false, .int .i64 e] w fun ev w' => ev = .returned (.iface 29 (.int .i64 e)) ∧ Below w.heap.size w w' := by
  have c : Hid (Calls Tryz.prog 102 #[.int .i64 e] w fun ev w' => ev = .returned (.iface 29 (.int .i64 e)) ∧ w' = w) := new_any e he w
  clear he
  go_enter Tryz.func76, Tryz.ntmps76
  go_wp2_with (go_at_call 102; with_reducible refine Calls.mono c.out ?_; rintro ev w' ⟨rfl, hw⟩)
  go_ret
  exact ⟨rfl, by first | exact Below.refl _ _ | (rw [hw]; exact Below.refl _ _)⟩
/-- an error, or none. -/
def erV (ok : Bool) (e : Int) : Value := if ok then .nilIface else .iface 29 (.int .i64 e)
theorem unless_any (ok : Bool) (e : Int) (he : (e == 0) = false) (w : World) : Calls Tryz.prog 76 #[.bool ok, .int .i64 e] w fun ev w' => ev = .returned (erV ok e) ∧ Below w.heap.size w w' := by
  cases ok with
  | true => exact unless_true e w
  | false => exact unless_false e he w
set_option maxRecDepth 100000 in
theorem name_any (s : ByteArray) (w : World) (hT : UT w) : Calls Tryz.prog 29 #[.string s] w fun e w' => e = .returned (erV (cleanB s 64) 50) ∧ Below w.heap.size w w' := by
  have c : Hid (Calls Tryz.prog 83 #[.string s, .int .i64 64] w fun e w' => e = .returned (.bool (cleanB s 64)) ∧ Below w.heap.size w w') := clean_any s 64 w (by omega) hT
  generalize cleanB s 64 = v at c ⊢
  have u : Hid (∀ W, Calls Tryz.prog 76 #[.bool v, .int .i64 50] W fun ev w' => ev = .returned (erV v 50) ∧ Below W.heap.size W w') := fun W => unless_any v 50 (by decide) W
  generalize erV v 50 = r at u ⊢
  go_enter Tryz.func29, Tryz.ntmps29
  go_wp2_with (first | (go_at_call 83; with_reducible refine Calls.mono c.out ?_; rintro e w' ⟨rfl, hb⟩) | (go_at_call 76; with_reducible refine Calls.mono (u.out _) ?_; rintro e w2 ⟨rfl, hb2⟩))
  go_ret
  exact ⟨rfl, hb.trans (hb2.mono hb.size)⟩
set_option maxRecDepth 100000 in
theorem odd_any (a b : ByteArray) (w : World) (hT : UT w) : Calls Tryz.prog 101 #[.agg #[.string a, .string b]] w fun e w' => e = .returned (.bool (oddB (a, b))) ∧ Below w.heap.size w w' := by
  have c : Hid (∀ o, Calls Tryz.prog 77 #[.string a] (w.alloc o) fun e w' => e = .returned (.bool (columnB a)) ∧ UT w' ∧ w'.cell? ⟨w.heap.size, 1, none⟩ = (w.alloc o).cell? ⟨w.heap.size, 1, none⟩ ∧ Below w.heap.size w w') := fun o => (column_any a _ (hT.below ((Below.refl _ w).alloc (Nat.le_refl _) o) (Nat.le_refl _))).mono fun e w' ⟨h1, h2⟩ => ⟨h1, (hT.below ((Below.refl _ w).alloc (Nat.le_refl _) o) (Nat.le_refl _)).below h2 (Nat.le_refl _), h2.cell (p := ⟨w.heap.size, 1, none⟩) (by simp), ((Below.refl _ w).alloc (Nat.le_refl _) o).trans (h2.mono (by simp))⟩
  have d : Hid (∀ W, UT W → Calls Tryz.prog 83 #[.string b, .int .i64 256] W fun e w' => e = .returned (.bool (cleanB b 256)) ∧ Below W.heap.size W w') := fun W h => clean_any b 256 W (by omega) h
  unfold oddB
  simp only
  generalize columnB a = p at c ⊢
  generalize cleanB b 256 = q at d ⊢
  have hH : Hid (UT w) := hT
  clear hT
  cases p with
  | true =>
    go_enter Tryz.func101, Tryz.ntmps101
    go_wp2_with (first | (go_at_call 77; with_reducible refine Calls.mono (c.out _) ?_; rintro e w' ⟨rfl, hu, hc, hb⟩; simp [go_sem] at hc) | (go_at_call 83; with_reducible refine Calls.mono (d.out _ hu) ?_; rintro e w2 ⟨rfl, hb2⟩))
    go_ret
    exact ⟨rfl, hb.trans (hb2.mono hb.size)⟩
  | false =>
    go_enter Tryz.func101, Tryz.ntmps101
    go_wp2_with (first | (go_at_call 77; with_reducible refine Calls.mono (c.out _) ?_; rintro e w' ⟨rfl, hu, hc, hb⟩; simp [go_sem] at hc) | (go_at_call 83; with_reducible refine Calls.mono (d.out _ hu) ?_; rintro e w2 ⟨rfl, hb2⟩))
    go_ret
    exact ⟨rfl, hb⟩
end Go.Proofs.YtfpfeecoideedaaGreatDoor
