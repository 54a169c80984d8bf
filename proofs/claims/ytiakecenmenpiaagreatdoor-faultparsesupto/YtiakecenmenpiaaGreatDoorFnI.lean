
import Derived.Test.YtiakecenmenpiaaGreatDoorFnH
import Derived.Test.YtiakecenmenpiaaGreatDoorFnP
namespace Go.Proofs.YtiakecenmenpiaaGreatDoor
open Go.RowKit
set_option linter.unusedVariables false
set_option linter.unusedSimpArgs false
/-- what the document's Find tells of a text. -/
def FTr (T : ByteArray) (e : Ending) : Prop :=
  (∃ n, I64' n ∧ nameS n = T ∧ e = .returned (.tuple #[.int .i64 n, .agg #[.int .i64 0, .int .i64 0, .int .i64 0, .bool false, .bool false]])) ∨
  ((∀ n, I64' n → nameS n ≠ T) ∧ e = .returned (.tuple #[.int .i64 0, .agg #[.int .i64 4, .int .i64 0, .int .i64 0, .bool false, .bool false]]))
theorem rnew_any (c : Int) (w : World) : Calls Tryz.prog 14 #[.int .i64 c] w fun e w' => e = .returned (.agg #[.int .i64 c, .int .i64 0, .int .i64 0, .bool false, .bool false]) ∧ Below w.heap.size w w' := by
  go_enter Tryz.func14, Tryz.ntmps14
  go_wp2
  simp [bodyPost, results, Tryz.results14, go_sem]
  exact bnew (Below.refl _ _) _
theorem setBad5 {B : Nat} {a w : World} {N : Nat} {v0 v1 v2 v3 v4 : Value} (h : Below B a w) (hN : B ≤ N) : Below B a (((((w.setCell ⟨N, 0, none⟩ v0).setCell ⟨N, 1, none⟩ v1).setCell ⟨N, 2, none⟩ v2).setCell ⟨N, 3, none⟩ v3).setCell ⟨N, 4, none⟩ v4) :=
  ((((h.setCell (p := ⟨N, 0, none⟩) hN _).setCell (p := ⟨N, 1, none⟩) hN _).setCell (p := ⟨N, 2, none⟩) hN _).setCell (p := ⟨N, 3, none⟩) hN _).setCell (p := ⟨N, 4, none⟩) hN _
/-- the result's place, still empty. -/
structure RB (w : World) (wx : World) : Prop where
  e : wx.cell? ⟨w.heap.size, 0, none⟩ = some (.int .i64 0) ∧ wx.cell? ⟨w.heap.size, 1, none⟩ = some (.int .i64 0) ∧ wx.cell? ⟨w.heap.size, 2, none⟩ = some (.int .i64 0) ∧ wx.cell? ⟨w.heap.size, 3, none⟩ = some (.bool false) ∧ wx.cell? ⟨w.heap.size, 4, none⟩ = some (.bool false)
  f : ∀ o, wx.frozen? ⟨w.heap.size, o, none⟩ = false
  b : Below w.heap.size w wx
  sz : w.heap.size < wx.heap.size
theorem RB.below {w wx wy : World} (h : RB w wx) (hb : Below wx.heap.size wx wy) : RB w wy := by
  obtain ⟨e, f, b, sz⟩ := h
  have cc : ∀ (o : Nat), wy.cell? ⟨w.heap.size, o, none⟩ = wx.cell? ⟨w.heap.size, o, none⟩ := fun o => hb.cell (p := ⟨w.heap.size, o, none⟩) sz
  have ff : ∀ (o : Nat), wy.frozen? ⟨w.heap.size, o, none⟩ = wx.frozen? ⟨w.heap.size, o, none⟩ := fun o => hb.frozen (p := ⟨w.heap.size, o, none⟩) sz
  have hs := hb.size
  exact ⟨by rw [cc, cc, cc, cc, cc]; exact e, fun o => by rw [ff]; exact f o, bthen b hb, by omega⟩
theorem RB.start (w : World) : RB w (w.alloc (.cells #[.int .i64 0, .int .i64 0, .int .i64 0, .bool false, .bool false] 28)) :=
  ⟨⟨by simp [go_sem], by simp [go_sem], by simp [go_sem], by simp [go_sem], by simp [go_sem]⟩, fun o => by simp [go_sem], bnew (Below.refl _ _) _, by simp⟩
theorem kn_name {e : Int} {T : ByteArray} (he : I64' e) (h0 : e ≠ 0) (hk : (⟨(knL e).toArray⟩ : ByteArray) = T) (hT : T ≠ ⟨#[]⟩) : nameS e = T := by
  rw [← hk]
  refine name_kn h0 (fun h => hT ?_)
  rw [← hk, h]
/-- the names of the table: 'ok', or one of a number from 1 to 299. -/
theorem tab_name {p : Int × List UInt8} (h : p ∈ tab) : p.2 = [111, 107] ∨ (1 ≤ p.1 ∧ p.1 < 300 ∧ knL p.1 = p.2) := by
  by_cases h0 : p.1 = 0
  · left
    have h1 : ((0 : Int), ([111, 107] : List UInt8)) ∈ tab := by decide +kernel
    rw [nodup_inj (·.1) tab tab_nums p _ h h1 h0]
  · right
    have h1 := tab_small p h
    refine ⟨by omega, h1.2, ?_⟩
    unfold knL; rw [if_neg h0, lkp_some h]; rfl
end Go.Proofs.YtiakecenmenpiaaGreatDoor
