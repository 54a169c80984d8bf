
import Derived.Test.YtipahdplkmmofaaGreatDoorAsC
import Derived.Test.YtipahdplkmmofaaGreatDoorNum4
namespace Go.Proofs.YtipahdplkmmofaaGreatDoor
open Go.RowKit Go.Shelf

theorem ET_alloc {w : World} (h : ET w) (o : Obj) : ET (w.alloc o) := by
  unfold ET at *
  have hlt : 1 < w.heap.size := by
    rcases Nat.lt_or_ge 1 w.heap.size with h' | h'
    · exact h'
    · simp [World.cell?, Array.getElem?_eq_none h'] at h
  rw [World.cell?_alloc_lt _ _ ⟨1, 0, none⟩ hlt]; exact h
theorem ET_lt {w : World} (h : ET w) : 1 < w.heap.size := by
  unfold ET at h
  rcases Nat.lt_or_ge 1 w.heap.size with h' | h'
  · exact h'
  · simp [World.cell?, Array.getElem?_eq_none h'] at h
theorem ET_below {w w' : World} (h : ET w) (hb : Below w.heap.size w w') : ET w' := by
  have hl := ET_lt h
  unfold ET at *
  rw [hb.cell (p := ⟨1, 0, none⟩) hl]; exact h

/-- weirboth.Is, of an Errno. -/
theorem is_any (c e : Int) (he : (e == 0) = false) (w : World) (hg : ET w) :
    Calls Tryz.prog 24 #[.iface 27 (.int .i64 c), .int .i64 e] w fun ev w' => ev = .returned (.bool (c == e)) ∧ Below w.heap.size w w' := by
  have hgA : ET (w.alloc (.cells #[.int .i64 0] 27)) := ET_alloc hg _
  go_enter Tryz.func24, Tryz.ntmps24
  go_wp2_with fail
  refine (as_EE c ⟨w.heap.size, 0, none⟩ (.int .i64 0) _ hgA (by simp) (by simp)).mono ?_
  rintro ev w1 ⟨rfl, rfl⟩
  go_wp2
  go_ret
  exact ⟨rfl, below_new (below_new (below_new (below_new (below_new (Below.refl _ _) _) _) _) _) _⟩

/-! ### live -/
theorem live_add (w : World) : Calls Tryz.prog 82 #[.int .i64 2, .int .i64 3] w fun e w' => e = .returned (.tuple #[.int .i64 5, .nilIface]) ∧ Below w.heap.size w w' :=
  add_any 2 3 ⟨by omega, by omega⟩ ⟨by omega, by omega⟩ w
theorem live_div (w : World) : Calls Tryz.prog 49 #[.int .i64 (-7), .int .i64 2] w fun e w' => e = .returned (.tuple #[.int .i64 (-4), .nilIface]) ∧ Below w.heap.size w w' :=
  div_any (-7) 2 ⟨by omega, by omega⟩ ⟨by omega, by omega⟩ (by omega) w
theorem live_h : sH (wr (sv 0 0 + -1)) = -1 := by unfold sH wr sv; omega
theorem live_l : sL (wr (sv 0 0 + -1)) = 18446744073709551615 := by unfold sL wr sv; omega
theorem live_plus (w : World) : Calls Tryz.prog 112 #[.agg #[.int .i64 0, .int .u64 0], .int .i64 (-1)] w fun e w' => e = .returned (.agg #[.int .i64 (-1), .int .u64 18446744073709551615]) ∧ Below w.heap.size w w' := by
  refine (plus_any 0 0 (-1) ⟨by omega, by omega⟩ ⟨by omega, by omega⟩ w).mono ?_
  rintro e w1 ⟨rfl, o1, o2, o3, o4, rfl⟩
  exact ⟨by rw [live_h, live_l], below_new (below_new (below_new (below_new (Below.refl _ _) _) _) _) _⟩
end Go.Proofs.YtipahdplkmmofaaGreatDoor
