
import Derived.Test.YtdfnomglkibfbaaGreatDoorVfC
import Derived.Shelf.SlSortCmp.QuietGrown
namespace Go.Proofs.YtdfnomglkibfbaaGreatDoor.Vf
open Go.RowKit
set_option linter.unusedVariables false
/-- behind draws and new blocks only. -/
def GR (W w' : World) : Prop := ∃ q os, w' = Sort.grow (W.drewN q) os
theorem GR.refl (W : World) : GR W W := ⟨0, #[], by rw [Sort.grow_empty]; rfl⟩
theorem GR.trans {W w1 w2 : World} (h : GR W w1) (k : GR w1 w2) : GR W w2 := by
  obtain ⟨q, os, rfl⟩ := h
  obtain ⟨p, os', rfl⟩ := k
  exact ⟨q + p, os ++ os', by show Sort.grow (Sort.grow ((W.drewN q).drewN p) os) os' = _; rw [Sort.grow_grow, World.drewN_drewN]⟩
theorem GR.alloc {W w1 : World} (h : GR W w1) (o : Obj) : GR W (w1.alloc o) := h.trans ⟨0, #[o], by rw [Sort.alloc_eq_grow]; rfl⟩
theorem GR.below {W w' : World} (h : GR W w') : Below W.heap.size W w' := by
  obtain ⟨q, os, rfl⟩ := h
  refine ⟨rfl, rfl, rfl, by simp [Sort.grow, World.drewN], fun k hk => ?_⟩
  show (W.heap ++ os)[k]? = W.heap[k]?
  rw [Array.getElem?_append_left hk]
end Go.Proofs.YtdfnomglkibfbaaGreatDoor.Vf
