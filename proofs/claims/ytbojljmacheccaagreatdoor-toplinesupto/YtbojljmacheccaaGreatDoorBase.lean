
import Derived.Test.YtbojljmacheccaaGreatDoorAsC
namespace Go.Proofs.YtbojljmacheccaaGreatDoor
open Go.RowKit
theorem below_new {w w' : World} (h : Below w.heap.size w w') (o : Obj) : Below w.heap.size w (w'.alloc o) := h.alloc h.size o
theorem below_then {w W w1 : World} (h : Below w.heap.size w W) (hb : Below W.heap.size W w1) : Below w.heap.size w w1 := h.trans (hb.mono h.size)
theorem ET_lt {w : World} (h : ET w) : 0 < w.heap.size := by
  unfold ET at h
  rcases Nat.lt_or_ge 0 w.heap.size with h' | h'
  · exact h'
  · simp [World.cell?, Array.getElem?_eq_none h'] at h
theorem ET_alloc {w : World} (h : ET w) (o : Obj) : ET (w.alloc o) := by
  have hlt := ET_lt h
  unfold ET at *
  rw [World.cell?_alloc_lt _ _ ⟨0, 0, none⟩ hlt]; exact h
theorem ET_below {w w' : World} (h : ET w) (hb : Below w.heap.size w w') : ET w' := by
  have hl := ET_lt h
  unfold ET at *
  rw [hb.cell (p := ⟨0, 0, none⟩) hl]; exact h
theorem new_any (c : Int) (h : (c == 0) = false) (w : World) : Calls Tryz.prog 31 #[.int .i64 c] w fun e w' => e = .returned (.iface 33 (.int .i64 c)) ∧ w' = w := by
  go_enter Tryz.func31, Tryz.ntmps31
  go_wp2
  go_ret
  exact ⟨rfl, rfl⟩
end Go.Proofs.YtbojljmacheccaaGreatDoor
