
import Derived.Test.YtepgcgphnjlcoaaDoorBkWq
import Derived.Deep.RegionHeld3
import Derived.Deep.Cut
namespace Go.Proofs.YtepgcgphnjlcoaaDoor
open Go.RowKit
set_option linter.unusedVariables false
set_option linter.unusedSimpArgs false
theorem newR_any (l : List Nat) (v : Value) (w : World) (h : (v = .slice none 0 0 ∧ l = []) ∨ ∃ g o c, v = .slice (some ⟨g, o, none⟩) l.length c ∧ BytesIn w (some ⟨g, o, none⟩) l.length (natsOf l)) :
    Calls Tryd.prog 9 #[v] w fun e w' => ∃ N a cap, e = .returned (.pointer (some ⟨N, 0, none⟩)) ∧ w.heap.size ≤ N ∧ RR N w' a l.length cap (natsOf l) 0 0 none w' ∧ Below w.heap.size w w' := by
  rcases h with ⟨rfl, rfl⟩ | ⟨g, o, c, rfl, hin⟩
  · exact new_nil _ w
  · exact new_ok g o _ c _ w hin
theorem keepZ {w wx wy : World} {N z : Nat} {v0 v1 v2 v3 : Value} (F : RF N wx wy) (hz : z ≠ N) (hB : Below w.heap.size w wy) (S : Below w.heap.size w wx ∧ z < wx.heap.size ∧ wx.cell? ⟨z, 0, none⟩ = some v0 ∧ wx.cell? ⟨z, 1, none⟩ = some v1 ∧ wx.cell? ⟨z, 2, none⟩ = some v2 ∧ wx.cell? ⟨z, 3, none⟩ = some v3) :
    Below w.heap.size w wy ∧ z < wy.heap.size ∧ wy.cell? ⟨z, 0, none⟩ = some v0 ∧ wy.cell? ⟨z, 1, none⟩ = some v1 ∧ wy.cell? ⟨z, 2, none⟩ = some v2 ∧ wy.cell? ⟨z, 3, none⟩ = some v3 := by
  obtain ⟨b, h1, c0, c1, c2, c3⟩ := S
  have hk := F.keep z h1 hz
  have hs := F.size
  refine ⟨hB, by omega, ?_, ?_, ?_, ?_⟩
  · rw [World.cell?_of_block (w := wx) hk]; exact c0
  · rw [World.cell?_of_block (w := wx) hk]; exact c1
  · rw [World.cell?_of_block (w := wx) hk]; exact c2
  · rw [World.cell?_of_block (w := wx) hk]; exact c3
theorem keepZ4 {w wx wy : World} {N z : Nat} {v0 v1 v2 v3 : Value} {sv : Value} {s : ByteArray} (hcv : Hid (∀ w', Below w.heap.size w w' → (convert 23 9 sv).run Tryd.prog w' = .ok (.string s) w')) (F : RF N wx wy) (hz : z ≠ N) (hB : Below w.heap.size w wy) (S : Below w.heap.size w wx ∧ z < wx.heap.size ∧ wx.cell? ⟨z, 0, none⟩ = some v0 ∧ wx.cell? ⟨z, 1, none⟩ = some v1 ∧ wx.cell? ⟨z, 2, none⟩ = some v2 ∧ wx.cell? ⟨z, 3, none⟩ = some v3 ∧ (convert 23 9 sv).run Tryd.prog wx = .ok (.string s) wx) :
    Below w.heap.size w wy ∧ z < wy.heap.size ∧ wy.cell? ⟨z, 0, none⟩ = some v0 ∧ wy.cell? ⟨z, 1, none⟩ = some v1 ∧ wy.cell? ⟨z, 2, none⟩ = some v2 ∧ wy.cell? ⟨z, 3, none⟩ = some v3 ∧ (convert 23 9 sv).run Tryd.prog wy = .ok (.string s) wy := by
  obtain ⟨h1, h2, h3, h4, h5, h6, _⟩ := S
  obtain ⟨g1, g2, g3, g4, g5, g6⟩ := keepZ F hz hB ⟨h1, h2, h3, h4, h5, h6⟩
  exact ⟨g1, g2, g3, g4, g5, g6, hcv.out _ hB⟩
end Go.Proofs.YtepgcgphnjlcoaaDoor
