
import Derived.Test.YtnfpommplokemaaDiv64b
import Derived.Test.YtnfpommplokemaaDec
import Derived.Laws.BytesArg
import Derived.Laws.CopyOwn
namespace Go.Proofs.Ytnfpommplokemaa
open Go.RowKit
set_option linter.unusedVariables false
set_option linter.unusedSimpArgs false
set_option maxRecDepth 100000 in
theorem tenth_l (h H L : Int) (hh : h % 18446744073709551616 = H) (hH : U64 H) (hL : U64 L) (w : World) :
    Calls Try.prog 14 #[.agg #[.int .i64 h, .int .u64 L]] w fun e w' => e = .returned (.tuple #[.agg #[.int .i64 (H / 10), .int .u64 (sv (H % 10) L / 10)], .int .u8 (sv (H % 10) L % 10)]) ∧ Below w.heap.size w w' := by
  have e1 : H.tmod 10 = H % 10 := Int.tmod_eq_emod_of_nonneg hH.1
  have e2 : H.tdiv 10 = H / 10 := Int.tdiv_eq_ediv_of_nonneg hH.1
  have hd := div64_any (H % 10) L 10 (by unfold U64 at *; omega) hL (by unfold U64; omega) (by omega)
  have hq : U64 (sv (H % 10) L / 10) := by unfold U64 sv at *; omega
  have hr : 0 ≤ sv (H % 10) L % 10 ∧ sv (H % 10) L % 10 < 10 := by omega
  obtain ⟨q, hqq⟩ : ∃ q, q = sv (H % 10) L / 10 := ⟨_, rfl⟩
  obtain ⟨r, hrr⟩ : ∃ r, r = sv (H % 10) L % 10 := ⟨_, rfl⟩
  have hd' : Hid (∀ w : World, Calls Try.prog 16 #[.int .u64 (H % 10), .int .u64 L, .int .u64 10] w fun e w' => e = .returned (.tuple #[.int .u64 q, .int .u64 r]) ∧ Below w.heap.size w w') := by rw [hqq, hrr]; exact hd
  rw [← hqq, ← hrr]
  rw [← hqq] at hq
  rw [← hrr] at hr
  clear hqq hrr hd
  have hH1 := hH.1
  have hH2 := hH.2
  have e3 : wrap64 (H / 10) = H / 10 := by unfold wrap64; omega
  have e4 : r % 256 = r := by omega
  have e5 : IntKind.u64.wrap h = H := by rw [IntKind.wrap_u64]; exact hh
  obtain ⟨W, hW⟩ : ∃ W, W = (w.alloc (.cells #[.int .i64 h, .int .u64 L] 24)).alloc (.cells #[.int .i64 0, .int .u64 0] 24) := ⟨_, rfl⟩
  have hB0 : Below w.heap.size w W := by rw [hW]; exact below_new (below_new (Below.refl _ _) _) _
  have hsz : W.heap.size = w.heap.size + 1 + 1 := by rw [hW]; simp
  have a0 : W.cell? ⟨w.heap.size + 1, 0, none⟩ = some (.int .i64 0) := by rw [hW]; simp [go_sem]
  have a1 : W.cell? ⟨w.heap.size + 1, 1, none⟩ = some (.int .u64 0) := by rw [hW]; simp [go_sem]
  have f0 : W.frozen? ⟨w.heap.size + 1, 0, none⟩ = false := by rw [hW]; simp [go_sem]
  have f1 : W.frozen? ⟨w.heap.size + 1, 1, none⟩ = false := by rw [hW]; simp [go_sem]
  have hWH : Hid _ := hW
  clear hW
  go_enter Try.func14, Try.ntmps14
  go_wp2_with fail
  rw [← hWH.out]
  refine (hd'.out _).mono ?_
  rintro e w1 ⟨rfl, B1⟩
  have z1 := B1.size
  have b0 : w1.cell? ⟨w.heap.size + 1, 0, none⟩ = some (.int .i64 0) := by rw [B1.cell (by simp; omega)]; exact a0
  have b1 : w1.cell? ⟨w.heap.size + 1, 1, none⟩ = some (.int .u64 0) := by rw [B1.cell (by simp; omega)]; exact a1
  have g0 : w1.frozen? ⟨w.heap.size + 1, 0, none⟩ = false := by rw [B1.frozen (by simp; omega)]; exact f0
  have g1 : w1.frozen? ⟨w.heap.size + 1, 1, none⟩ = false := by rw [B1.frozen (by simp; omega)]; exact f1
  have P1 := below_then hB0 B1
  clear B1 a0 a1 f0 f1 hh
  go_wp2_with fail
  simp [bodyPost, results, Try.results14, go_sem, b0, b1]
  exact (P1.setCell (p := ⟨w.heap.size + 1, 0, none⟩) (Nat.le_succ _) _).setCell (p := ⟨w.heap.size + 1, 1, none⟩) (Nat.le_succ _) _
theorem tenth_any (V : Nat) (hV : V ≤ 170141183460469231731687303715884105728) (w : World) :
    Calls Try.prog 14 #[.agg #[.int .i64 (sH (wr (V : Int))), .int .u64 (sL (V : Int))]] w fun e w' => e = .returned (.tuple #[.agg #[.int .i64 (sH (wr ((V / 10 : Nat) : Int))), .int .u64 (sL ((V / 10 : Nat) : Int))], .int .u8 ((V % 10 : Nat) : Int)]) ∧ Below w.heap.size w w' := by
  have h1 := wr_hi (V : Int) (by omega)
  rw [IntKind.wrap_u64] at h1
  have h2 := tenth_l (sH (wr (V : Int))) (sH (V : Int)) (sL (V : Int)) h1 (by unfold U64 sH; omega) (U64_sL _) w
  have e1 : sH (V : Int) / 10 = sH (wr ((V / 10 : Nat) : Int)) := by
    rw [wr_of ((V / 10 : Nat) : Int) (by unfold S128; omega)]; unfold sH; omega
  have e2 : sv (sH (V : Int) % 10) (sL (V : Int)) / 10 = sL ((V / 10 : Nat) : Int) := by unfold sv sH sL; omega
  have e3 : sv (sH (V : Int) % 10) (sL (V : Int)) % 10 = ((V % 10 : Nat) : Int) := by unfold sv sH sL; omega
  rw [e1, e2, e3] at h2
  exact h2
/-- what stands while a sum is printed: its own cells, the text, what is left of it. -/
structure PI (w : World) (t r : Nat) (hi : Int) (R : Nat) (f : Nat → Nat) (wx : World) : Prop where
  s0 : wx.cell? ⟨w.heap.size, 0, none⟩ = some (.int .i64 hi)
  r0 : wx.cell? ⟨r, 0, none⟩ = some (.int .i64 (sH (wr (R : Int))))
  r1 : wx.cell? ⟨r, 1, none⟩ = some (.int .u64 (sL (R : Int)))
  g0 : wx.frozen? ⟨r, 0, none⟩ = false
  g1 : wx.frozen? ⟨r, 1, none⟩ = false
  tc : ∀ j, j < 40 → wx.cell? ⟨t, j, none⟩ = some (.int .u8 (f j : Int))
  tf : ∀ j, j < 40 → wx.frozen? ⟨t, j, none⟩ = false
  b : Below w.heap.size w wx
  l1 : w.heap.size < t
  l2 : t < r
  l3 : r < wx.heap.size
theorem PI.below {w : World} {t r : Nat} {hi : Int} {R : Nat} {f : Nat → Nat} {wx w' : World} (h : PI w t r hi R f wx) (hb : Below wx.heap.size wx w') : PI w t r hi R f w' := by
  obtain ⟨s0, r0, r1, g0, g1, tc, tf, b, l1, l2, l3⟩ := h
  refine ⟨?_, ?_, ?_, ?_, ?_, fun j hj => ?_, fun j hj => ?_, below_then b hb, l1, l2, Nat.lt_of_lt_of_le l3 hb.size⟩
  · rw [hb.cell (p := ⟨w.heap.size, 0, none⟩) (by simp; omega)]; exact s0
  · rw [hb.cell (p := ⟨r, 0, none⟩) l3]; exact r0
  · rw [hb.cell (p := ⟨r, 1, none⟩) l3]; exact r1
  · rw [hb.frozen (p := ⟨r, 0, none⟩) l3]; exact g0
  · rw [hb.frozen (p := ⟨r, 1, none⟩) l3]; exact g1
  · rw [hb.cell (p := ⟨t, j, none⟩) (by simp; omega)]; exact tc j hj
  · rw [hb.frozen (p := ⟨t, j, none⟩) (by simp; omega)]; exact tf j hj
def updF (f : Nat → Nat) (k v : Nat) : Nat → Nat := fun j => if j = k then v else f j
theorem PI.left {w : World} {t r : Nat} {hi : Int} {R : Nat} {f : Nat → Nat} {wx : World} (h : PI w t r hi R f wx) (R' : Nat) :
    PI w t r hi R' f ((wx.setCell ⟨r, 0, none⟩ (.int .i64 (sH (wr (R' : Int))))).setCell ⟨r, 1, none⟩ (.int .u64 (sL (R' : Int)))) := by
  obtain ⟨s0, r0, r1, g0, g1, tc, tf, b, l1, l2, l3⟩ := h
  refine ⟨?_, ?_, ?_, by simpa using g0, by simpa using g1, fun j hj => ?_, fun j hj => by simpa using tf j hj, (b.setCell (p := ⟨r, 0, none⟩) (show w.heap.size ≤ r by omega) _).setCell (p := ⟨r, 1, none⟩) (show w.heap.size ≤ r by omega) _, l1, l2, by simpa using l3⟩
  · rw [World.cell?_setCell_other _ _ _ _ (by intro e; injection e with e1; omega), World.cell?_setCell_other _ _ _ _ (by intro e; injection e with e1; omega)]; exact s0
  · rw [World.cell?_setCell_other _ _ _ _ (by simp)]; exact World.cell?_setCell_same _ _ _ r0
  · exact World.cell?_setCell_same _ _ _ (u := .int .u64 (sL (R : Int))) (by rw [World.cell?_setCell_other _ _ _ _ (by simp)]; exact r1)
  · rw [World.cell?_setCell_other _ _ _ _ (by intro e; injection e with e1; omega), World.cell?_setCell_other _ _ _ _ (by intro e; injection e with e1; omega)]; exact tc j hj
theorem PI.put {w : World} {t r : Nat} {hi : Int} {R : Nat} {f : Nat → Nat} {wx : World} (h : PI w t r hi R f wx) (k v : Nat) (hk : k < 40) : PI w t r hi R (updF f k v) (wx.setCell ⟨t, k, none⟩ (.int .u8 (v : Int))) := by
  obtain ⟨s0, r0, r1, g0, g1, tc, tf, b, l1, l2, l3⟩ := h
  refine ⟨?_, ?_, ?_, by simpa using g0, by simpa using g1, fun j hj => ?_, fun j hj => by simpa using tf j hj, b.setCell (p := ⟨t, k, none⟩) (show w.heap.size ≤ t by omega) _, l1, l2, by simpa using l3⟩
  · rw [World.cell?_setCell_other _ _ _ _ (by intro e; injection e with e1; omega)]; exact s0
  · rw [World.cell?_setCell_other _ _ _ _ (by intro e; injection e with e1; omega)]; exact r0
  · rw [World.cell?_setCell_other _ _ _ _ (by intro e; injection e with e1; omega)]; exact r1
  · unfold updF
    by_cases e : j = k
    · subst e; rw [if_pos rfl]; exact World.cell?_setCell_same _ _ _ (tc j hj)
    · rw [if_neg e, World.cell?_setCell_other _ _ _ _ (by intro e'; injection e' with e1 e2; omega)]; exact tc j hj
/-- the text with the digits T at its end. -/
def txtF (T : List Nat) : Nat → Nat := fun j => if j < 40 - T.length then 0 else T.getD (j - (40 - T.length)) 0
theorem txtF_put (T : List Nat) (v : Nat) (h : T.length < 40) (j : Nat) (hj : j < 40) : updF (txtF T) (40 - (T.length + 1)) v j = txtF (v :: T) j := by
  unfold updF txtF
  simp only [List.length_cons]
  by_cases e : j = 40 - (T.length + 1)
  · rw [if_pos e, if_neg (by omega), show j - (40 - (T.length + 1)) = 0 by omega]; rfl
  · rw [if_neg e]
    by_cases e2 : j < 40 - (T.length + 1)
    · rw [if_pos (by omega), if_pos e2]
    · rw [if_neg (by omega), if_neg e2, show j - (40 - (T.length + 1)) = (j - (40 - T.length)) + 1 by omega, List.getD_cons_succ]
theorem PI.ext {w : World} {t r : Nat} {hi : Int} {R : Nat} {f g : Nat → Nat} {wx : World} (h : PI w t r hi R f wx) (e : ∀ j, j < 40 → f j = g j) : PI w t r hi R g wx :=
  ⟨h.s0, h.r0, h.r1, h.g0, h.g1, fun j hj => by rw [← e j hj]; exact h.tc j hj, h.tf, h.b, h.l1, h.l2, h.l3⟩
end Go.Proofs.Ytnfpommplokemaa
