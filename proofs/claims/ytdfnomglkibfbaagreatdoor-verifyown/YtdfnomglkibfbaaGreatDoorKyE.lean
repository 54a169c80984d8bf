
import Derived.Test.YtdfnomglkibfbaaGreatDoorKyD
import Derived.Test.YtdfnomglkibfbaaGreatDoorBase
namespace Go.Proofs.YtdfnomglkibfbaaGreatDoor
open Go.RowKit Go.Shelf
set_option linter.unusedVariables false
set_option linter.unusedSimpArgs false
def columnB (s : ByteArray) : Bool := !(s.toList == [116, 105, 109, 101]) && cleanB s 64
def oddB (t : TagP) : Bool := !columnB t.1 || !cleanB t.2 256
def risB : List TagP → Bool
  | a :: b :: r => decide (strC a.1 b.1 < 0) && risB (b :: r)
  | _ => true
def tagsB (l : List TagP) : Bool := decide (l.length ≤ 8) && risB l && !l.any oddB
set_option maxRecDepth 100000 in
theorem unless_true (e : Int) (w : World) : Calls Tryz.prog 119 #[.bool true, .int .i64 e] w fun ev w' => ev = .returned .nilIface ∧ Below w.heap.size w w' := by
  go_enter Tryz.func119, Tryz.ntmps119
  go_wp2_with fail
  go_ret
  exact ⟨rfl, Below.refl _ _⟩
set_option maxRecDepth 100000 in
theorem unless_false (e : Int) (he : (e == 0) = false) (w : World) : Calls Tryz.prog 119 #[.bool false, .int .i64 e] w fun ev w' => ev = .returned (.iface 34 (.int .i64 e)) ∧ Below w.heap.size w w' := by
  have c : Hid (Calls Tryz.prog 71 #[.int .i64 e] w fun ev w' => ev = .returned (.iface 34 (.int .i64 e)) ∧ w' = w) := new_any e he w
  clear he
  go_enter Tryz.func119, Tryz.ntmps119
  go_wp2_with (go_at_call 71; with_reducible refine Calls.mono c.out ?_; rintro ev w' ⟨rfl, hw⟩)
  go_ret
  exact ⟨rfl, by first | exact Below.refl _ _ | (rw [hw]; exact Below.refl _ _)⟩
/-- an error, or none. -/
def erV (ok : Bool) (e : Int) : Value := if ok then .nilIface else .iface 34 (.int .i64 e)
theorem unless_any (ok : Bool) (e : Int) (he : (e == 0) = false) (w : World) : Calls Tryz.prog 119 #[.bool ok, .int .i64 e] w fun ev w' => ev = .returned (erV ok e) ∧ Below w.heap.size w w' := by
  cases ok with
  | true => exact unless_true e w
  | false => exact unless_false e he w
set_option maxRecDepth 100000 in
theorem name_any (s : ByteArray) (w : World) (hT : UT w) : Calls Tryz.prog 94 #[.string s] w fun e w' => e = .returned (erV (cleanB s 64) 50) ∧ Below w.heap.size w w' := by
  have c : Hid (Calls Tryz.prog 120 #[.string s, .int .i64 64] w fun e w' => e = .returned (.bool (cleanB s 64)) ∧ Below w.heap.size w w') := clean_any s 64 w (by omega) hT
  generalize cleanB s 64 = v at c ⊢
  have u : Hid (∀ W, Calls Tryz.prog 119 #[.bool v, .int .i64 50] W fun ev w' => ev = .returned (erV v 50) ∧ Below W.heap.size W w') := fun W => unless_any v 50 (by decide) W
  generalize erV v 50 = r at u ⊢
  go_enter Tryz.func94, Tryz.ntmps94
  go_wp2_with (first | (go_at_call 120; with_reducible refine Calls.mono c.out ?_; rintro e w' ⟨rfl, hb⟩) | (go_at_call 119; with_reducible refine Calls.mono (u.out _) ?_; rintro e w2 ⟨rfl, hb2⟩))
  go_ret
  exact ⟨rfl, hb.trans (hb2.mono hb.size)⟩
end Go.Proofs.YtdfnomglkibfbaaGreatDoor
