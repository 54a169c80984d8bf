
import Derived.Test.YtcbcpncbekeoaaaDoorMadeA
namespace Go.Proofs.YtcbcpncbekeoaaaDoor
open Go.RowKit
set_option linter.unusedVariables false
set_option linter.unusedSimpArgs false
/-- a shape in its box, the result's place, and the error that is being told. -/
structure MZ (w : World) (fo : Bool) (c : Int) (sl : Value) (c' a i : Int) (P Q : Bool) (wx : World) : Prop where
  s : wx.cell? ⟨w.heap.size, 0, none⟩ = some (.bool fo) ∧ wx.cell? ⟨w.heap.size, 1, none⟩ = some (.int .i64 c) ∧ wx.cell? ⟨w.heap.size, 2, none⟩ = some sl
  r : wx.cell? ⟨w.heap.size + 1, 0, none⟩ = some (.int .i64 0) ∧ wx.cell? ⟨w.heap.size + 1, 1, none⟩ = some (.int .i64 0) ∧ wx.cell? ⟨w.heap.size + 1, 2, none⟩ = some (.int .i64 0) ∧ wx.cell? ⟨w.heap.size + 1, 3, none⟩ = some (.bool false) ∧ wx.cell? ⟨w.heap.size + 1, 4, none⟩ = some (.bool false)
  e : wx.cell? ⟨w.heap.size + 1 + 1, 0, none⟩ = some (.int .i64 c') ∧ wx.cell? ⟨w.heap.size + 1 + 1, 1, none⟩ = some (.int .i64 a) ∧ wx.cell? ⟨w.heap.size + 1 + 1, 2, none⟩ = some (.int .i64 i) ∧ wx.cell? ⟨w.heap.size + 1 + 1, 3, none⟩ = some (.bool P) ∧ wx.cell? ⟨w.heap.size + 1 + 1, 4, none⟩ = some (.bool Q)
  f : ∀ k o, k ≤ 2 → wx.frozen? ⟨w.heap.size + k, o, none⟩ = false
  b : Below w.heap.size w wx
  sz : w.heap.size + 1 + 1 < wx.heap.size
theorem MZ.below {w wx wy : World} {fo : Bool} {c : Int} {sl : Value} {c' a i : Int} {P Q : Bool} (h : MZ w fo c sl c' a i P Q wx) (hb : Below wx.heap.size wx wy) : MZ w fo c sl c' a i P Q wy := by
  obtain ⟨s, r, e, f, b, sz⟩ := h
  have cc : ∀ (k o : Nat), k ≤ w.heap.size + 1 + 1 → wy.cell? ⟨k, o, none⟩ = wx.cell? ⟨k, o, none⟩ := fun k o hk => hb.cell (p := ⟨k, o, none⟩) (by simp; omega)
  have ff : ∀ (k o : Nat), k ≤ w.heap.size + 1 + 1 → wy.frozen? ⟨k, o, none⟩ = wx.frozen? ⟨k, o, none⟩ := fun k o hk => hb.frozen (p := ⟨k, o, none⟩) (by simp; omega)
  have hs := hb.size
  refine ⟨?_, ?_, ?_, fun k o hk => ?_, below_then b hb, by omega⟩
  · rw [cc _ _ (by omega), cc _ _ (by omega), cc _ _ (by omega)]; exact s
  · rw [cc _ _ (by omega), cc _ _ (by omega), cc _ _ (by omega), cc _ _ (by omega), cc _ _ (by omega)]; exact r
  · rw [cc _ _ (by omega), cc _ _ (by omega), cc _ _ (by omega), cc _ _ (by omega), cc _ _ (by omega)]; exact e
  · rw [ff _ _ (by omega)]; exact f k o hk
theorem MZ.set {w wx : World} {fo : Bool} {c : Int} {sl : Value} {c' a i : Int} {P Q : Bool} (h : MZ w fo c sl c' a i P Q wx) (j : Nat) (v : Value) {c2 a2 i2 : Int} {P2 Q2 : Bool}
    (hv : (#[Value.int .i64 c2, .int .i64 a2, .int .i64 i2, .bool P2, .bool Q2] : Array Value)[j]? = some v)
    (ho : ∀ k, k ≠ j → (#[Value.int .i64 c2, .int .i64 a2, .int .i64 i2, .bool P2, .bool Q2] : Array Value)[k]? = (#[Value.int .i64 c', .int .i64 a, .int .i64 i, .bool P, .bool Q] : Array Value)[k]?) :
    MZ w fo c sl c2 a2 i2 P2 Q2 (wx.setCell ⟨w.heap.size + 1 + 1, j, none⟩ v) := by
  obtain ⟨s, r, e, f, b, sz⟩ := h
  have hj : j < 5 := by
    rcases Nat.lt_or_ge j 5 with h | h
    · exact h
    · rw [Array.getElem?_eq_none (by simpa using h)] at hv; cases hv
  have ot : ∀ (k o : Nat), k ≠ w.heap.size + 1 + 1 → (wx.setCell ⟨w.heap.size + 1 + 1, j, none⟩ v).cell? ⟨k, o, none⟩ = wx.cell? ⟨k, o, none⟩ := fun k o hk => by
    rw [World.cell?_setCell_other _ _ _ _ (by intro e; injection e with e1; omega)]
  have hold : ∀ k u, (#[Value.int .i64 c', .int .i64 a, .int .i64 i, .bool P, .bool Q] : Array Value)[k]? = some u → wx.cell? ⟨w.heap.size + 1 + 1, k, none⟩ = some u := fun k u hu => by
    obtain ⟨e0, e1, e2, e3, e4⟩ := e
    match k, hu with
    | 0, hu => simp at hu; subst hu; exact e0
    | 1, hu => simp at hu; subst hu; exact e1
    | 2, hu => simp at hu; subst hu; exact e2
    | 3, hu => simp at hu; subst hu; exact e3
    | 4, hu => simp at hu; subst hu; exact e4
    | k + 5, hu => simp at hu
  have hnew : ∀ k u, (#[Value.int .i64 c2, .int .i64 a2, .int .i64 i2, .bool P2, .bool Q2] : Array Value)[k]? = some u → (wx.setCell ⟨w.heap.size + 1 + 1, j, none⟩ v).cell? ⟨w.heap.size + 1 + 1, k, none⟩ = some u := fun k u hu => by
    by_cases hk : k = j
    · subst hk
      rw [hv] at hu
      obtain rfl := Option.some.inj hu
      obtain ⟨old, hold'⟩ : ∃ old, (#[Value.int .i64 c', .int .i64 a, .int .i64 i, .bool P, .bool Q] : Array Value)[k]? = some old := ⟨_, Array.getElem?_eq_getElem (by simpa using hj)⟩
      exact World.cell?_setCell_same _ _ _ (hold k old hold')
    · rw [World.cell?_setCell_other _ _ _ _ (by intro e; injection e with e1 e2; exact hk e2.symm)]
      exact hold k u (by rw [← ho k hk]; exact hu)
  refine ⟨?_, ?_, ⟨hnew 0 _ rfl, hnew 1 _ rfl, hnew 2 _ rfl, hnew 3 _ rfl, hnew 4 _ rfl⟩, fun k o hk => by simpa using f k o hk, b.setCell (p := ⟨w.heap.size + 1 + 1, j, none⟩) (show w.heap.size ≤ w.heap.size + 1 + 1 by omega) _, by simpa using sz⟩
  · rw [ot _ _ (by omega), ot _ _ (by omega), ot _ _ (by omega)]; exact s
  · rw [ot _ _ (by omega), ot _ _ (by omega), ot _ _ (by omega), ot _ _ (by omega), ot _ _ (by omega)]; exact r
theorem newErr (w : World) : Calls Tryd.prog 12 #[.string ⟨#[102, 111, 114, 101, 105, 103, 110]⟩] w fun e w' => e = .returned (.iface 61 (.pointer (some ⟨w.heap.size, 0, none⟩))) ∧ w' = w.alloc (.cells #[.string ⟨#[102, 111, 114, 101, 105, 103, 110]⟩] 63) := by
  go_enter Tryd.func12, Tryd.ntmps12
  go_wp2
  go_ret
  exact ⟨rfl, rfl⟩
end Go.Proofs.YtcbcpncbekeoaaaDoor
