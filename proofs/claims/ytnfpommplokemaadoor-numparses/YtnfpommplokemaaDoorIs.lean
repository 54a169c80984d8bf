
import Derived.Test.YtnfpommplokemaaDoorAsC
import Derived.Test.YtnfpommplokemaaDoorNum4
namespace Go.Proofs.YtnfpommplokemaaDoor
open Go.RowKit Go.Shelf

theorem ET_alloc {w : World} (h : ET w) (o : Obj) : ET (w.alloc o) := by
  unfold ET at *
  have hlt : 0 < w.heap.size := by
    rcases Nat.lt_or_ge 0 w.heap.size with h' | h'
    · exact h'
    · simp [World.cell?, Array.getElem?_eq_none h'] at h
  rw [World.cell?_alloc_lt _ _ ⟨0, 0, none⟩ hlt]; exact h
theorem ET_lt {w : World} (h : ET w) : 0 < w.heap.size := by
  unfold ET at h
  rcases Nat.lt_or_ge 0 w.heap.size with h' | h'
  · exact h'
  · simp [World.cell?, Array.getElem?_eq_none h'] at h
theorem ET_below {w w' : World} (h : ET w) (hb : Below w.heap.size w w') : ET w' := by
  have hl := ET_lt h
  unfold ET at *
  rw [hb.cell (p := ⟨0, 0, none⟩) hl]; exact h

/-- weirboth.Is, of an Errno. -/
theorem is_any (c e : Int) (he : (e == 0) = false) (w : World) (hg : ET w) :
    Calls Tryd.prog 11 #[.iface 30 (.int .i64 c), .int .i64 e] w fun ev w' => ev = .returned (.bool (c == e)) ∧ Below w.heap.size w w' := by
  have hgA : ET (w.alloc (.cells #[.int .i64 0] 30)) := ET_alloc hg _
  go_enter Tryd.func11, Tryd.ntmps11
  go_wp2_with fail
  refine (as_EE c ⟨w.heap.size, 0, none⟩ (.int .i64 0) _ hgA (by simp) (by simp)).mono ?_
  rintro ev w1 ⟨rfl, rfl⟩
  go_wp2
  go_ret
  exact ⟨rfl, below_new (below_new (below_new (below_new (below_new (Below.refl _ _) _) _) _) _) _⟩

/-! ### live -/
theorem live_add (w : World) : Calls Tryd.prog 8 #[.int .i64 2, .int .i64 3] w fun e w' => e = .returned (.tuple #[.int .i64 5, .nilIface]) ∧ Below w.heap.size w w' :=
  add_any 2 3 ⟨by omega, by omega⟩ ⟨by omega, by omega⟩ w
theorem live_div (w : World) : Calls Tryd.prog 9 #[.int .i64 (-7), .int .i64 2] w fun e w' => e = .returned (.tuple #[.int .i64 (-4), .nilIface]) ∧ Below w.heap.size w w' :=
  div_any (-7) 2 ⟨by omega, by omega⟩ ⟨by omega, by omega⟩ (by omega) w
theorem live_h : sH (wr (sv 0 0 + -1)) = -1 := by unfold sH wr sv; omega
theorem live_l : sL (wr (sv 0 0 + -1)) = 18446744073709551615 := by unfold sL wr sv; omega
theorem live_plus (w : World) : Calls Tryd.prog 12 #[.agg #[.int .i64 0, .int .u64 0], .int .i64 (-1)] w fun e w' => e = .returned (.agg #[.int .i64 (-1), .int .u64 18446744073709551615]) ∧ Below w.heap.size w w' := by
  refine (plus_any 0 0 (-1) ⟨by omega, by omega⟩ ⟨by omega, by omega⟩ w).mono ?_
  rintro e w1 ⟨rfl, o1, o2, o3, o4, rfl⟩
  exact ⟨by rw [live_h, live_l], below_new (below_new (below_new (below_new (Below.refl _ _) _) _) _) _⟩
theorem live_any (w : World) (hg : ET w) : Calls Tryd.prog 4 #[] w fun e w' => e = .returned (.bool true) ∧ Below w.heap.size w w' := by
  go_enter Tryd.func4, Tryd.ntmps4
  go_wp2_with fail
  refine (live_add _).mono ?_
  rintro e w1 ⟨rfl, hb1⟩
  go_wp2_with fail
  refine (live_div _).mono ?_
  rintro e w2 ⟨rfl, hb2⟩
  have hb12 := below_then hb1 hb2
  go_wp2_with fail
  refine (mod_zero 1 _).mono ?_
  rintro e w3 ⟨rfl, rfl⟩
  go_wp2_with fail
  refine (is_any 21 21 rfl _ (ET_below hg hb12)).mono ?_
  rintro e w4 ⟨rfl, hb4⟩
  go_wp2_with fail
  refine (live_plus _).mono ?_
  rintro e w5 ⟨rfl, hb5⟩
  go_wp2
  go_ret
  exact ⟨rfl, below_then (below_then hb12 hb4) hb5⟩
end Go.Proofs.YtnfpommplokemaaDoor
