
import Derived.Test.YtipahdplkmmofaaGreatDoorNum4
import Derived.LoopTactic
import Derived.Laws.Rows
import Derived.Lib.SmallJoins
namespace Go.Proofs.YtipahdplkmmofaaGreatDoor
open Go.RowKit
set_option linter.unusedVariables false
set_option linter.unusedSimpArgs false
set_option maxRecDepth 100000 in
theorem rplus_any (hi lo n : Int) (h1 : I64 hi) (h2 : U64 lo) (hn : I64 n) (w : World) :
    Calls Tryz.prog 46 #[.agg #[.int .i64 hi, .int .u64 lo], .int .i64 n] w fun e w' => e = .returned (.agg #[.int .i64 (sH (wr (sv hi lo + n))), .int .u64 (sL (wr (sv hi lo + n)))]) ∧ Below w.heap.size w w' := by
  obtain ⟨U, hU⟩ : ∃ U, U = n % 18446744073709551616 := ⟨_, rfl⟩
  obtain ⟨Q, hQ⟩ : ∃ Q, Q = (lo + n) % 18446744073709551616 := ⟨_, rfl⟩
  have eU : IntKind.u64.wrap n = U := by rw [IntKind.wrap_u64, hU]
  have eQ : IntKind.u64.wrap (lo + U) = Q := by rw [IntKind.wrap_u64, hQ, hU]; omega
  have hQ2 : U64 Q := by unfold U64; omega
  by_cases c1 : Q < lo
  · by_cases c2 : n < 0
    · skip
      have es : sv hi lo + n = sv (hi + 0) Q := by rw [hQ]; rw [hQ] at hQ2; unfold I64 at hn; unfold U64 at h2; unfold sv; omega
      have eh : sH (wr (sv hi lo + n)) = wrap64 (wrap64 (hi + 1) - 1) := by rw [es, sH_wr _ _ hQ2] <;> (unfold I64 at h1; unfold wrap64; omega)
      have el : sL (wr (sv hi lo + n)) = Q := by rw [es, sL_wr _ _ hQ2]
      rw [eh, el]
      clear es eh el hQ hU
      go_enter Tryz.func46, Tryz.ntmps46
      go_wp2_with fail
      simp [bodyPost, results, Tryz.results46, go_sem]
      exact below_new (below_new (below_new (Below.refl _ _) _) _) _
    · skip
      have es : sv hi lo + n = sv (hi + 1) Q := by rw [hQ]; rw [hQ] at hQ2; unfold I64 at hn; unfold U64 at h2; unfold sv; omega
      have eh : sH (wr (sv hi lo + n)) = wrap64 (hi + 1) := by rw [es, sH_wr _ _ hQ2] <;> (unfold I64 at h1; unfold wrap64; omega)
      have el : sL (wr (sv hi lo + n)) = Q := by rw [es, sL_wr _ _ hQ2]
      rw [eh, el]
      clear es eh el hQ hU
      go_enter Tryz.func46, Tryz.ntmps46
      go_wp2_with fail
      simp [bodyPost, results, Tryz.results46, go_sem]
      exact below_new (below_new (below_new (Below.refl _ _) _) _) _
  · by_cases c2 : n < 0
    · skip
      have es : sv hi lo + n = sv (hi + (-1)) Q := by rw [hQ]; rw [hQ] at hQ2; unfold I64 at hn; unfold U64 at h2; unfold sv; omega
      have eh : sH (wr (sv hi lo + n)) = wrap64 (hi - 1) := by rw [es, sH_wr _ _ hQ2] <;> (unfold I64 at h1; unfold wrap64; omega)
      have el : sL (wr (sv hi lo + n)) = Q := by rw [es, sL_wr _ _ hQ2]
      rw [eh, el]
      clear es eh el hQ hU
      go_enter Tryz.func46, Tryz.ntmps46
      go_wp2_with fail
      simp [bodyPost, results, Tryz.results46, go_sem]
      exact below_new (below_new (below_new (Below.refl _ _) _) _) _
    · skip
      have es : sv hi lo + n = sv (hi + 0) Q := by rw [hQ]; rw [hQ] at hQ2; unfold I64 at hn; unfold U64 at h2; unfold sv; omega
      have eh : sH (wr (sv hi lo + n)) = hi := by rw [es, sH_wr _ _ hQ2] <;> (unfold I64 at h1; unfold wrap64; omega)
      have el : sL (wr (sv hi lo + n)) = Q := by rw [es, sL_wr _ _ hQ2]
      rw [eh, el]
      clear es eh el hQ hU
      go_enter Tryz.func46, Tryz.ntmps46
      go_wp2_with fail
      simp [bodyPost, results, Tryz.results46, go_sem]
      exact below_new (below_new (below_new (Below.refl _ _) _) _) _
set_option maxRecDepth 100000 in
theorem rcmp_any (ah al bh bl : Int) (h1 : U64 al) (h2 : U64 bl) (w : World) :
    Calls Tryz.prog 74 #[.agg #[.int .i64 ah, .int .u64 al], .agg #[.int .i64 bh, .int .u64 bl]] w fun e w' => e = .returned (.int .i64 (cmpI (sv ah al) (sv bh bl))) ∧ Below w.heap.size w w' := by
  by_cases c1 : ah < bh
  · have e : cmpI (sv ah al) (sv bh bl) = -1 := by unfold cmpI; rw [if_pos (by unfold U64 at h1 h2; unfold sv; omega)]
    rw [e]
    go_enter Tryz.func74, Tryz.ntmps74
    go_wp2_with fail
    go_ret
    exact ⟨rfl, below_new (below_new (Below.refl _ _) _) _⟩
  by_cases c2 : bh < ah
  · have e : cmpI (sv ah al) (sv bh bl) = 1 := by unfold cmpI; rw [if_neg (by unfold U64 at h1 h2; unfold sv; omega), if_pos (by unfold U64 at h1 h2; unfold sv; omega)]
    rw [e]
    go_enter Tryz.func74, Tryz.ntmps74
    go_wp2_with fail
    go_ret
    exact ⟨rfl, below_new (below_new (Below.refl _ _) _) _⟩
  obtain rfl : ah = bh := by omega
  by_cases c3 : al < bl
  · have e : cmpI (sv ah al) (sv ah bl) = -1 := by unfold cmpI; rw [if_pos (by unfold sv; omega)]
    rw [e]
    go_enter Tryz.func74, Tryz.ntmps74
    go_wp2_with fail
    go_ret
    exact ⟨rfl, below_new (below_new (Below.refl _ _) _) _⟩
  by_cases c4 : bl < al
  · have e : cmpI (sv ah al) (sv ah bl) = 1 := by unfold cmpI; rw [if_neg (by unfold sv; omega), if_pos (by unfold sv; omega)]
    rw [e]
    go_enter Tryz.func74, Tryz.ntmps74
    go_wp2_with fail
    go_ret
    exact ⟨rfl, below_new (below_new (Below.refl _ _) _) _⟩
  obtain rfl : al = bl := by omega
  have e : cmpI (sv ah al) (sv ah al) = 0 := by unfold cmpI; rw [if_neg (by omega), if_neg (by omega)]
  rw [e]
  go_enter Tryz.func74, Tryz.ntmps74
  go_wp2_with fail
  go_ret
  exact ⟨rfl, below_new (below_new (Below.refl _ _) _) _⟩
theorem setBad {B : Nat} {a w : World} {N : Nat} {v0 v1 v2 v3 v4 : Value} (h : Below B a w) (hN : B ≤ N) : Below B a (((((w.setCell ⟨N, 0, none⟩ v0).setCell ⟨N, 1, none⟩ v1).setCell ⟨N, 2, none⟩ v2).setCell ⟨N, 3, none⟩ v3).setCell ⟨N, 4, none⟩ v4) :=
  ((((h.setCell (p := ⟨N, 0, none⟩) hN _).setCell (p := ⟨N, 1, none⟩) hN _).setCell (p := ⟨N, 2, none⟩) hN _).setCell (p := ⟨N, 3, none⟩) hN _).setCell (p := ⟨N, 4, none⟩) hN _
def bad0 : Value := .agg #[.int .i64 0, .int .i64 0, .int .i64 0, .bool false, .bool false]
def badN (c : Int) : Value := .agg #[.int .i64 c, .int .i64 0, .int .i64 0, .bool false, .bool false]
def smB (v : Int) : Value := if -9223372036854775808 ≤ v ∧ v < 9223372036854775808 then bad0 else badN 20
theorem rnew_any (c : Int) (w : World) : Calls Tryz.prog 29 #[.int .i64 c] w fun e w' => e = .returned (.agg #[.int .i64 c, .int .i64 0, .int .i64 0, .bool false, .bool false]) ∧ Below w.heap.size w w' := by
  go_enter Tryz.func29, Tryz.ntmps29
  go_wp2
  simp [bodyPost, results, Tryz.results29, go_sem]
  exact below_new (Below.refl _ _) _
set_option maxRecDepth 100000 in
theorem rsmall_any (hi lo : Int) (h1 : I64 hi) (h2 : U64 lo) (w : World) :
    Calls Tryz.prog 33 #[.agg #[.int .i64 hi, .int .u64 lo]] w fun e w' => e = .returned (.tuple #[.int .i64 (sm0 (sv hi lo)), smB (sv hi lo)]) ∧ Below w.heap.size w w' := by
  have h20 := h2.1
  have h21 := h2.2
  by_cases c1 : hi = 0 ∧ lo ≤ 9223372036854775807
  · obtain ⟨rfl, c2⟩ := c1
    have hv : I64 (sv 0 lo) := by unfold I64 sv; omega
    have e1 : sm0 (sv 0 lo) = lo := by rw [sm0_yes hv]; unfold sv; omega
    have e2 : smB (sv 0 lo) = bad0 := if_pos hv
    have e3 : wrap64 lo = lo := by unfold wrap64; omega
    rw [e1, e2]
    unfold bad0
    clear e1 e2
    go_enter Tryz.func33, Tryz.ntmps33
    go_wp2_with fail
    simp [bodyPost, results, Tryz.results33, go_sem, e3]
    exact below_new (below_new (Below.refl _ _) _) _
  by_cases c3 : hi = -1 ∧ 9223372036854775807 < lo
  · obtain ⟨rfl, c2⟩ := c3
    have hv : I64 (sv (-1) lo) := by unfold I64 sv; omega
    have e1 : sm0 (sv (-1) lo) = wrap64 lo := by rw [sm0_yes hv]; unfold sv wrap64; omega
    have e2 : smB (sv (-1) lo) = bad0 := if_pos hv
    rw [e1, e2]
    unfold bad0
    clear e1 e2 c1
    go_enter Tryz.func33, Tryz.ntmps33
    go_wp2_with fail
    simp [bodyPost, results, Tryz.results33, go_sem]
    exact below_new (below_new (Below.refl _ _) _) _
  have hv : ¬ I64 (sv hi lo) := by unfold I64 sv; unfold I64 at h1; omega
  have e1 := sm0_no hv
  have e2 : smB (sv hi lo) = badN 20 := if_neg hv
  rw [e1, e2]
  unfold badN
  clear e1 e2 hv
  obtain ⟨W, hW⟩ : ∃ W, W = (w.alloc (.cells #[.int .i64 hi, .int .u64 lo] 62)).alloc (.cells #[.int .i64 0, .int .i64 0, .int .i64 0, .bool false, .bool false] 29) := ⟨_, rfl⟩
  have hB0 : Below w.heap.size w W := by rw [hW]; exact below_new (below_new (Below.refl _ _) _) _
  have hsz : W.heap.size = w.heap.size + 1 + 1 := by rw [hW]; simp
  have a0 : ∀ j v, (#[Value.int .i64 0, .int .i64 0, .int .i64 0, .bool false, .bool false] : Array Value)[j]? = some v → W.cell? ⟨w.heap.size + 1, j, none⟩ = some v := fun j v hj => by
    have hn := heap_alloc_new (w.alloc (.cells #[.int .i64 hi, .int .u64 lo] 62)) (.cells #[.int .i64 0, .int .i64 0, .int .i64 0, .bool false, .bool false] 29)
    have es : (w.alloc (.cells #[.int .i64 hi, .int .u64 lo] 62)).heap.size = w.heap.size + 1 := by simp
    rw [es] at hn
    rw [hW, cell_of_row _ (w.heap.size + 1) j _ _ (0, 0) hn]; exact hj
  have f0 : ∀ j, W.frozen? ⟨w.heap.size + 1, j, none⟩ = false := fun j => by rw [hW]; simp [go_sem]
  have a1 := a0 0 _ rfl
  have a2 := a0 1 _ rfl
  have a3 := a0 2 _ rfl
  have a4 := a0 3 _ rfl
  have a5 := a0 4 _ rfl
  have hWH : Hid _ := hW
  clear hW a0
  have c4 : ¬ (hi = 0 ∧ lo ≤ 9223372036854775807) := c1
  by_cases c5 : hi = 0
  · have c6 : ¬ lo ≤ 9223372036854775807 := fun h => c1 ⟨c5, h⟩
    have c7 : ¬ hi = -1 := by omega
    clear c1 c3 c4
    subst c5
    go_enter Tryz.func33, Tryz.ntmps33
    go_wp2_with fail
    rw [← hWH.out]
    refine (rnew_any 20 W).mono ?_
    rintro e w1 ⟨rfl, B1⟩
    have z1 := B1.size
    have b1 : w1.cell? ⟨w.heap.size + 1, 0, none⟩ = some (.int .i64 0) := by rw [B1.cell (by simp; omega)]; exact a1
    have b2 : w1.cell? ⟨w.heap.size + 1, 1, none⟩ = some (.int .i64 0) := by rw [B1.cell (by simp; omega)]; exact a2
    have b3 : w1.cell? ⟨w.heap.size + 1, 2, none⟩ = some (.int .i64 0) := by rw [B1.cell (by simp; omega)]; exact a3
    have b4 : w1.cell? ⟨w.heap.size + 1, 3, none⟩ = some (.bool false) := by rw [B1.cell (by simp; omega)]; exact a4
    have b5 : w1.cell? ⟨w.heap.size + 1, 4, none⟩ = some (.bool false) := by rw [B1.cell (by simp; omega)]; exact a5
    have g0 : ∀ j, w1.frozen? ⟨w.heap.size + 1, j, none⟩ = false := fun j => by rw [B1.frozen (by simp; omega)]; exact f0 j
    have g1 := g0 0
    have g2 := g0 1
    have g3 := g0 2
    have g4 := g0 3
    have g5 := g0 4
    have P1 := below_then hB0 B1
    clear a1 a2 a3 a4 a5 f0 g0 B1
    go_wp2_with fail
    simp [bodyPost, results, Tryz.results33, go_sem, b1, b2, b3, b4, b5]
    exact setBad P1 (Nat.le_succ _)
  · by_cases c7 : hi = -1
    · have c8 : ¬ 9223372036854775807 < lo := fun h => c3 ⟨c7, h⟩
      clear c1 c3 c4
      subst c7
      go_enter Tryz.func33, Tryz.ntmps33
      go_wp2_with fail
      rw [← hWH.out]
      refine (rnew_any 20 W).mono ?_
      rintro e w1 ⟨rfl, B1⟩
      have z1 := B1.size
      have b1 : w1.cell? ⟨w.heap.size + 1, 0, none⟩ = some (.int .i64 0) := by rw [B1.cell (by simp; omega)]; exact a1
      have b2 : w1.cell? ⟨w.heap.size + 1, 1, none⟩ = some (.int .i64 0) := by rw [B1.cell (by simp; omega)]; exact a2
      have b3 : w1.cell? ⟨w.heap.size + 1, 2, none⟩ = some (.int .i64 0) := by rw [B1.cell (by simp; omega)]; exact a3
      have b4 : w1.cell? ⟨w.heap.size + 1, 3, none⟩ = some (.bool false) := by rw [B1.cell (by simp; omega)]; exact a4
      have b5 : w1.cell? ⟨w.heap.size + 1, 4, none⟩ = some (.bool false) := by rw [B1.cell (by simp; omega)]; exact a5
      have g0 : ∀ j, w1.frozen? ⟨w.heap.size + 1, j, none⟩ = false := fun j => by rw [B1.frozen (by simp; omega)]; exact f0 j
      have g1 := g0 0
      have g2 := g0 1
      have g3 := g0 2
      have g4 := g0 3
      have g5 := g0 4
      have P1 := below_then hB0 B1
      clear a1 a2 a3 a4 a5 f0 g0 B1
      go_wp2_with fail
      simp [bodyPost, results, Tryz.results33, go_sem, b1, b2, b3, b4, b5]
      exact setBad P1 (Nat.le_succ _)
    · clear c1 c3 c4
      go_enter Tryz.func33, Tryz.ntmps33
      go_wp2_with fail
      rw [← hWH.out]
      refine (rnew_any 20 W).mono ?_
      rintro e w1 ⟨rfl, B1⟩
      have z1 := B1.size
      have b1 : w1.cell? ⟨w.heap.size + 1, 0, none⟩ = some (.int .i64 0) := by rw [B1.cell (by simp; omega)]; exact a1
      have b2 : w1.cell? ⟨w.heap.size + 1, 1, none⟩ = some (.int .i64 0) := by rw [B1.cell (by simp; omega)]; exact a2
      have b3 : w1.cell? ⟨w.heap.size + 1, 2, none⟩ = some (.int .i64 0) := by rw [B1.cell (by simp; omega)]; exact a3
      have b4 : w1.cell? ⟨w.heap.size + 1, 3, none⟩ = some (.bool false) := by rw [B1.cell (by simp; omega)]; exact a4
      have b5 : w1.cell? ⟨w.heap.size + 1, 4, none⟩ = some (.bool false) := by rw [B1.cell (by simp; omega)]; exact a5
      have g0 : ∀ j, w1.frozen? ⟨w.heap.size + 1, j, none⟩ = false := fun j => by rw [B1.frozen (by simp; omega)]; exact f0 j
      have g1 := g0 0
      have g2 := g0 1
      have g3 := g0 2
      have g4 := g0 3
      have g5 := g0 4
      have P1 := below_then hB0 B1
      clear a1 a2 a3 a4 a5 f0 g0 B1
      go_wp2_with fail
      simp [bodyPost, results, Tryz.results33, go_sem, b1, b2, b3, b4, b5]
      exact setBad P1 (Nat.le_succ _)
end Go.Proofs.YtipahdplkmmofaaGreatDoor
