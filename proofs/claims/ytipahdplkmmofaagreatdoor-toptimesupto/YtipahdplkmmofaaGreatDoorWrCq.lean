
import Derived.Test.YtipahdplkmmofaaGreatDoorWxA
namespace Go.Proofs.YtipahdplkmmofaaGreatDoor.Wi
open Go.RowKit
set_option linter.unusedVariables false
set_option linter.unusedSimpArgs false
theorem WS.free {N : Nat} {w1 wx : World} {fr : Int} {v : Value} {n : Nat} {xs : List Value} (h : WS N w1 fr v n xs wx) (fr' : Int) : WS N w1 fr' v n xs (wx.setCell ⟨N, 1, none⟩ (.int .i64 fr')) := by
  obtain ⟨c0, c1, f0, f1, own, b, sz⟩ := h
  refine ⟨?_, World.cell?_setCell_same _ _ _ c1, by simpa using f0, by simpa using f1, ?_, b.setCell (p := ⟨N, 1, none⟩) (Nat.le_refl _) _, by simpa using sz⟩
  · rw [World.cell?_setCell_other _ _ _ _ (by simp)]; exact c0
  · obtain ⟨h1, h2⟩ := own
    refine ⟨h1, ?_⟩
    rcases h2 with h2 | ⟨g, cap, cur, e1, e2, e3, e4⟩
    · exact Or.inl h2
    · exact Or.inr ⟨g, cap, cur, e1, e2, by rw [Below.heap_setCell _ _ _ _ (by simp; omega)]; exact e3, e4⟩
theorem WS.byte {N : Nat} {w1 wx : World} {fr : Int} {g cap n : Nat} {xs : List Value} (h : WS N w1 fr (.slice (some ⟨g, 0, none⟩) n cap) n xs wx) (j : Nat) (u : Value) : WS N w1 fr (.slice (some ⟨g, 0, none⟩) n cap) n (xs.set j u) (wx.setCell ⟨g, j, none⟩ u) := by
  obtain ⟨c0, c1, f0, f1, own, b, sz⟩ := h
  have hg : N + 1 ≤ g := (own.lt g rfl).1
  obtain ⟨o1, o2⟩ := own.stored j u
  refine ⟨?_, ?_, by simpa using f0, by simpa using f1, o1, b.setCell (p := ⟨g, j, none⟩) (show N ≤ g by omega) _, by simpa using sz⟩
  · rw [World.cell?_setCell_other _ _ _ _ (by intro e; injection e with e1; omega)]; exact c0
  · rw [World.cell?_setCell_other _ _ _ _ (by intro e; injection e with e1; omega)]; exact c1
theorem lowest_5 (w : World) : Calls Tryz.prog 100 #[.int .u64 5, .int .i64 3] w fun e w' => e = .returned (.int .u8 5) ∧ w' = w := by
  have e1 : bits .and .u64 5 7 = 5 := by decide +kernel
  go_enter Tryz.func100, Tryz.ntmps100
  go_wp2
  go_ret
  exact ⟨rfl, rfl⟩
end Go.Proofs.YtipahdplkmmofaaGreatDoor.Wi
