
import Derived.Test.YtbojljmacheccaaGreatDoorAsC
namespace Go.Proofs.YtbojljmacheccaaGreatDoor
open Go.RowKit
theorem below_new {w w' : World} (h : Below w.heap.size w w') (o : Obj) : Below w.heap.size w (w'.alloc o) := h.alloc h.size o
theorem below_then {w W w1 : World} (h : Below w.heap.size w W) (hb : Below W.heap.size W w1) : Below w.heap.size w w1 := h.trans (hb.mono h.size)
theorem bcell {W w1 : World} (hb : Below W.heap.size W w1) : (∀ b o, b < W.heap.size → w1.cell? ⟨b, o, none⟩ = W.cell? ⟨b, o, none⟩) ∧ (∀ b o, b < W.heap.size → w1.frozen? ⟨b, o, none⟩ = W.frozen? ⟨b, o, none⟩) :=
  ⟨fun b o h => hb.cell (p := ⟨b, o, none⟩) h, fun b o h => hb.frozen (p := ⟨b, o, none⟩) h⟩
theorem ET_lt {w : World} (h : ET w) : 0 < w.heap.size := by
  unfold ET at h
  rcases Nat.lt_or_ge 0 w.heap.size with h' | h'
  · exact h'
  · simp [World.cell?, Array.getElem?_eq_none h'] at h
theorem ET_alloc {w : World} (h : ET w) (o : Obj) : ET (w.alloc o) := by
  have hlt := ET_lt h
  unfold ET at *
  rw [World.cell?_alloc_lt _ _ ⟨0, 0, none⟩ hlt]; exact h
theorem ET_below {w w' : World} (h : ET w) (hb : Below w.heap.size w w') : ET w' := by
  have hl := ET_lt h
  unfold ET at *
  rw [hb.cell (p := ⟨0, 0, none⟩) hl]; exact h
theorem ET_drew {w : World} (h : ET w) : ET w.drew := h
theorem same_nil (w : World) : Calls Tryz.prog 10 #[.nilIface, .agg #[.int .i64 0, .int .i64 0, .int .i64 0, .bool false, .bool false]] w fun e w' => e = .returned (.bool true) ∧ Below w.heap.size w w' := by
  go_enter Tryz.func10, Tryz.ntmps10
  go_wp2
  go_ret
  exact ⟨rfl, below_new (Below.refl _ _) _⟩
theorem new_any (c : Int) (h : (c == 0) = false) (w : World) : Calls Tryz.prog 31 #[.int .i64 c] w fun e w' => e = .returned (.iface 33 (.int .i64 c)) ∧ w' = w := by
  go_enter Tryz.func31, Tryz.ntmps31
  go_wp2
  go_ret
  exact ⟨rfl, rfl⟩
end Go.Proofs.YtbojljmacheccaaGreatDoor
