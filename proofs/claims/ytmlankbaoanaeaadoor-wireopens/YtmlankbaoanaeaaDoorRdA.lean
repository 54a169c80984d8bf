
import Derived.Test.YtmlankbaoanaeaaDoorSealA
import Derived.BigQuiet
namespace Go.Proofs.YtmlankbaoanaeaaDoor
open Go.RowKit
set_option linter.unusedVariables false
set_option linter.unusedSimpArgs false
/-- the document's Reader at block N: it stands at a whole byte, without a fault. -/
structure RS (N : Nat) (w1 : World) (g n cap at' : Nat) (bs : Nat → Nat) (wx : World) : Prop where
  c0 : wx.cell? ⟨N, 0, none⟩ = some (.slice (some ⟨g, 0, none⟩) n cap)
  c1 : wx.cell? ⟨N, 1, none⟩ = some (.int .i64 (at' : Int))
  c2 : wx.cell? ⟨N, 2, none⟩ = some (.int .i64 0)
  c3 : wx.cell? ⟨N, 3, none⟩ = some (.int .i64 0)
  f1 : wx.frozen? ⟨N, 1, none⟩ = false
  f2 : wx.frozen? ⟨N, 2, none⟩ = false
  row : BytesAt wx g 0 n bs
  gN : N < g
  gl : g < wx.heap.size
  b : Below N w1 wx
  sz : N < wx.heap.size
theorem RS.drew {N : Nat} {w1 wx : World} {g n cap at' : Nat} {bs : Nat → Nat} (h : RS N w1 g n cap at' bs wx) : RS N w1 g n cap at' bs wx.drew :=
  ⟨h.c0, h.c1, h.c2, h.c3, h.f1, h.f2, h.row, h.gN, h.gl, h.b.drew, h.sz⟩
theorem RS.drewN {N : Nat} {w1 wx : World} {g n cap at' : Nat} {bs : Nat → Nat} (h : RS N w1 g n cap at' bs wx) (k : Nat) : RS N w1 g n cap at' bs (wx.drewN k) :=
  ⟨h.c0, h.c1, h.c2, h.c3, h.f1, h.f2, h.row, h.gN, h.gl, ⟨h.b.os, h.b.tape, h.b.output, h.b.size, h.b.block⟩, h.sz⟩
theorem RS.step {N : Nat} {w1 wx : World} {g n cap at' : Nat} {bs : Nat → Nat} (h : RS N w1 g n cap at' bs wx) : RS N w1 g n cap (at' + 1) bs ((wx.setCell ⟨N, 2, none⟩ (.int .i64 0)).setCell ⟨N, 1, none⟩ (.int .i64 ((at' : Int) + 1))) := by
  obtain ⟨c0, c1, c2, c3, f1, f2, row, gN, gl, b, sz⟩ := h
  have ot : ∀ (p : Addr), p ≠ ⟨N, 1, none⟩ → p ≠ ⟨N, 2, none⟩ → ((wx.setCell ⟨N, 2, none⟩ (.int .i64 0)).setCell ⟨N, 1, none⟩ (.int .i64 ((at' : Int) + 1))).cell? p = wx.cell? p := fun p h1 h2 => by
    rw [World.cell?_setCell_other _ _ _ _ (Ne.symm h1), World.cell?_setCell_other _ _ _ _ (Ne.symm h2)]
  refine ⟨?_, ?_, ?_, ?_, by simpa using f1, by simpa using f2, fun i hi => ⟨?_, (row i hi).2⟩, gN, by simpa using gl, (b.setCell (p := ⟨N, 2, none⟩) (Nat.le_refl _) _).setCell (p := ⟨N, 1, none⟩) (Nat.le_refl _) _, by simpa using sz⟩
  · rw [ot _ (by simp) (by simp)]; exact c0
  · exact World.cell?_setCell_same _ _ _ (u := .int .i64 (at' : Int)) (by rw [World.cell?_setCell_other _ _ _ _ (by simp)]; exact c1)
  · rw [World.cell?_setCell_other _ _ _ _ (by simp)]; exact World.cell?_setCell_same _ _ _ c2
  · rw [ot _ (by simp) (by simp)]; exact c3
  · rw [ot _ (by intro e; injection e with e1; omega) (by intro e; injection e with e1; omega)]; exact (row i hi).1
set_option maxRecDepth 100000 in
set_option maxHeartbeats 2000000 in
theorem rrest_any (N : Nat) (w1 : World) (g n cap at' : Nat) (bs : Nat → Nat) (w : World) (h : RS N w1 g n cap at' bs w) :
    Calls Tryd.prog 73 #[.pointer (some ⟨N, 0, none⟩)] w fun e w' => e = .returned (.bool true) ∧ RS N w1 g n cap at' bs w' := by
  have c2 := h.c2
  go_enter Tryd.func73, Tryd.ntmps73
  go_wp2_with fail
  go_quiet (fail)
  go_wp2_with fail
  go_ret
  exact ⟨rfl, h.drewN _⟩
set_option maxRecDepth 100000 in
set_option maxHeartbeats 2000000 in
theorem rbegin_any (N : Nat) (w1 : World) (g n cap at' m : Nat) (bs : Nat → Nat) (w : World) (h : RS N w1 g n cap at' bs w) (hm : at' + m ≤ n) (hn : n ≤ 9223372036854775807) :
    Calls Tryd.prog 89 #[.pointer (some ⟨N, 0, none⟩), .int .i64 (m : Int)] w fun e w' => e = .returned (.bool true) ∧ RS N w1 g n cap at' bs w' := by
  have c3 := h.c3
  have hI : ¬ (n : Int) - (at' : Int) < (m : Int) := by omega
  have hA : (at' : Int) ≤ (n : Int) := by omega
  go_enter Tryd.func89, Tryd.ntmps89
  go_wp2_with fail
  refine (rrest_any N w1 g n cap at' bs _ h).mono ?_
  rintro e w2 ⟨rfl, h2⟩
  have d0 := h2.c0
  have d1 := h2.c1
  have d3 := h2.c3
  clear c3 h
  go_wp2_with fail
  go_quiet (fail)
  go_wp2_with fail
  go_ret
  exact ⟨rfl, h2.drewN _⟩
set_option maxRecDepth 100000 in
set_option maxHeartbeats 2000000 in
theorem rtake_any (N : Nat) (w1 : World) (g n cap at' : Nat) (bs : Nat → Nat) (w : World) (h : RS N w1 g n cap at' bs w) (hm : at' < n) (hn : n ≤ 9223372036854775807) :
    Calls Tryd.prog 90 #[.pointer (some ⟨N, 0, none⟩)] w fun e w' => e = .returned (.int .u8 (bs at' : Int)) ∧ RS N w1 g n cap (at' + 1) bs w' := by
  have hS := h.step
  have c1 := h.c1
  have c2 := h.c2
  have f1 := h.f1
  have f2 := h.f2
  have d0 := hS.c0
  have d1 : ((w.setCell ⟨N, 2, none⟩ (.int .i64 0)).setCell ⟨N, 1, none⟩ (.int .i64 ((at' : Int) + 1))).cell? ⟨N, 1, none⟩ = some (.int .i64 ((at' : Int) + 1)) := hS.c1
  have d2 : ((w.setCell ⟨N, 2, none⟩ (.int .i64 0)).setCell ⟨N, 1, none⟩ (.int .i64 ((at' : Int) + 1))).cell? ⟨g, at', none⟩ = some (.int .u8 (bs at' : Int)) := by have := (hS.row at' hm).1; rw [Nat.zero_add] at this; exact this
  have i1 : (at' : Int) < (n : Int) := by omega
  have i2 : (0 : Int) ≤ (at' : Int) := by omega
  have hS' : Hid _ := hS
  clear hS
  go_enter Tryd.func90, Tryd.ntmps90
  go_wp2_with fail
  go_quiet (fail)
  go_wp2_with fail
  go_ret
  exact ⟨rfl, hS'.out.drewN _⟩
end Go.Proofs.YtmlankbaoanaeaaDoor
