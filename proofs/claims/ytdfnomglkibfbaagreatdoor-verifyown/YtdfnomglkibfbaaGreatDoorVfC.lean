
import Derived.Test.YtdfnomglkibfbaaGreatDoorVfT
import Derived.Test.YtdfnomglkibfbaaGreatDoorKyE
import Derived.BigQuiet
import Derived.WalkMore
import Derived.WalkKit
import Derived.Handy
import Derived.Deep.RegionHeld3
namespace Go.Proofs.YtdfnomglkibfbaaGreatDoor.Vf
open Go.RowKit
set_option linter.unusedVariables false
set_option linter.unusedSimpArgs false
set_option maxRecDepth 100000
/-- a row as a value. -/
def rowA (r : RwP) : Value := .agg #[.int .u8 r.of, .int .i64 r.tk, .int .i64 r.pt, .int .u8 r.a, .int .u8 r.b, .bool r.en]
theorem RT.below {w w' : World} {n : Nat} (h : RT w) (hb : Below n w w') (hn : 1 < n) : RT w' := fun c hc j hj => by
  rw [hb.cell (p := ⟨1, c * 6 + j, none⟩) hn]; exact h c hc j hj
/-- an error at a place. -/
def atE (p e : Int) : Value := .iface 93 (.agg #[.int .i64 p, .iface 34 (.int .i64 e)])
theorem faultAt_any (p e : Int) (he : (e == 0) = false) (w : World) : Calls Tryz.prog 131 #[.int .i64 p, .int .i64 e] w fun ev w' => ev = .returned (atE p e) ∧ w' = w := by
  go_enter Tryz.func131, Tryz.ntmps131
  go_wp2
  go_ret
  exact ⟨rfl, rfl⟩
theorem fail_any (m : Int) (cv : Value) (first at_ e : Int) (he : (e == 0) = false) (w : World) : Calls Tryz.prog 105 #[.agg #[.int .u8 m, cv, .int .i64 first], .int .i64 at_, .int .i64 e] w fun ev w' => ev = .returned (atE (wrap64 (first + at_)) e) ∧ Below w.heap.size w w' := by
  have cA : Hid (∀ W, Calls Tryz.prog 131 #[.int .i64 (wrap64 (first + at_)), .int .i64 e] W fun ev w' => ev = .returned (atE (wrap64 (first + at_)) e) ∧ w' = W) := fun W => faultAt_any _ e he W
  go_enter Tryz.func105, Tryz.ntmps105
  go_wp2_with (go_at_call 131; with_reducible refine Calls.mono (cA.out _) ?_; rintro e w' ⟨rfl, rfl⟩)
  go_ret
  exact ⟨rfl, (Below.refl _ w).alloc (Nat.le_refl _) _⟩
theorem rowOf_any (c : Nat) (hc : c < 256) (w : World) (hT : RT w) : Calls Tryz.prog 104 #[.int .u8 c] w fun e w' => e = .returned (rowA (rowF c)) ∧ Below w.heap.size w w' := by
  by_cases h : c < 25
  · have hd : decide ((25 : Int) ≤ (c : Int)) = false := decide_eq_false (by omega)
    have t0 := hT c h 0 (by omega)
    have t1 := hT c h 1 (by omega)
    have t2 := hT c h 2 (by omega)
    have t3 := hT c h 3 (by omega)
    have t4 := hT c h 4 (by omega)
    have t5 := hT c h 5 (by omega)
    simp only [rowV, List.getElem?_cons_zero, List.getElem?_cons_succ, Nat.add_zero] at t0 t1 t2 t3 t4 t5
    have hl := hT.lt
    go_enter Tryz.func104, Tryz.ntmps104
    go_wp2
    go_returns
    exact ⟨rfl, (Below.refl _ w).alloc (Nat.le_refl _) _⟩
  · have hd : decide ((25 : Int) ≤ (c : Int)) = true := decide_eq_true (by omega)
    rw [row_big (by omega)]
    go_enter Tryz.func104, Tryz.ntmps104
    go_wp2
    go_returns
    exact ⟨rfl, (Below.refl _ w).alloc (Nat.le_refl _) _⟩
end Go.Proofs.YtdfnomglkibfbaaGreatDoor.Vf
