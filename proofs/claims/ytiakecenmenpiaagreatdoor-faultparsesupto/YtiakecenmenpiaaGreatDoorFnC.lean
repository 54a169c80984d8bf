
import Derived.Test.YtiakecenmenpiaaGreatDoorFnB
import Derived.Test.YtiakecenmenpiaaGreatDoorShelf

import Derived.Lib.AppendIntMem
import Derived.Lib.AtoiErrMem
namespace Go.Proofs.YtiakecenmenpiaaGreatDoor
open Go.RowKit
set_option linter.unusedVariables false
set_option linter.unusedSimpArgs false
theorem bthen {w W w1 : World} (h : Below w.heap.size w W) (hb : Below W.heap.size W w1) : Below w.heap.size w w1 := h.trans (hb.mono h.size)
theorem bnew {w w' : World} (h : Below w.heap.size w w') (o : Obj) : Below w.heap.size w (w'.alloc o) := h.alloc h.size o
def IfaceV (ev : Value) : Prop := ev = .nilIface ∨ ∃ te pe, ev = .iface te pe
/-- what strconv wants of the world. -/
structure EV (w : World) : Prop where
  tab : Lib.TabIs Tryz.prog w "internal/strconv.uint64pow10" .u64 Lib.pow10Tab
  syn : ∃ ev, w.cell? ⟨1, 0, none⟩ = some ev ∧ IfaceV ev
  rng : ∃ ev, w.cell? ⟨2, 0, none⟩ = some ev ∧ IfaceV ev
theorem EV.below {w w' : World} (h : EV w) (hb : Below w.heap.size w w') : EV w' := by
  obtain ⟨t, ⟨e1, c1, i1⟩, ⟨e2, c2, i2⟩⟩ := h
  refine ⟨Lib.tabBelow_of_tabIs t w' hb, ⟨e1, ?_, i1⟩, ⟨e2, ?_, i2⟩⟩
  · rw [hb.cell (World.block_lt_of_cell? _ _ c1)]; exact c1
  · rw [hb.cell (World.block_lt_of_cell? _ _ c2)]; exact c2
theorem itoa_any (n : Int) (h1 : -9223372036854775808 ≤ n) (h2 : n ≤ 9223372036854775807) (w : World) (h : EV w) : Calls Tryz.prog 30 #[.int .i64 n] w fun e w' => e = .returned (.string ⟨(Lib.itoa n).toArray⟩) ∧ Below w.heap.size w w' := by
  refine (Tryz.strconv_Itoa n h1 h2 w h.tab).mono ?_
  rintro e w' ⟨rfl, k, os, rfl⟩
  exact ⟨rfl, Lib.below_grow _ w (Nat.le_refl _) k os⟩
/-- what Atoi tells: a number, and nothing wrong; or something is wrong. -/
def AtoiE (s : ByteArray) (e : Ending) : Prop :=
  ∃ v E, (-9223372036854775808 ≤ v ∧ v ≤ 9223372036854775807) ∧ e = .returned (.tuple #[.int .i64 v, E]) ∧ ((E = .nilIface ∧ Lib.atoiAll s.data.toList = .ok v) ∨ (∃ te pe, E = .iface te pe ∧ ∀ u, Lib.atoiAll s.data.toList ≠ .ok u))
theorem atoi_any (s : ByteArray) (hs : s.size ≤ 281474976710656) (w : World) (h : EV w) : Calls Tryz.prog 27 #[.string s] w fun e w' => AtoiE s e ∧ Below w.heap.size w w' := by
  obtain ⟨t, ⟨e1, c1, i1⟩, ⟨e2, c2, i2⟩⟩ := h
  cases hA : Lib.atoiAll s.data.toList with
  | ok v =>
    refine (Tryz.strconv_Atoi_ok s (by omega) v hA w).mono ?_
    rintro e w' ⟨rfl, hw⟩
    refine ⟨⟨v, .nilIface, Lib.atoiAll_bounds hA, rfl, Or.inl ⟨rfl, hA⟩⟩, ?_⟩
    rcases hw with rfl | ⟨t, rfl⟩
    · exact Below.refl _ _
    · exact Lib.bytesWorld_below _ _ _
  | «syntax» =>
    refine (Tryz.strconv_Atoi_syntax s hs hA e1 w c1 i1).mono ?_
    rintro e w' ⟨N, rfl, _, _, hb⟩
    exact ⟨⟨0, _, by omega, rfl, Or.inr ⟨_, _, rfl, fun u hu => by rw [hA] at hu; cases hu⟩⟩, hb⟩
  | range =>
    refine (Tryz.strconv_Atoi_range s hs hA e2 w c2 i2).mono ?_
    rintro e w' ⟨N, rfl, _, _, hb⟩
    exact ⟨⟨Lib.atoiSat s.data.toList, _, by unfold Lib.atoiSat; split <;> omega, rfl, Or.inr ⟨_, _, rfl, fun u hu => by rw [hA] at hu; cases hu⟩⟩, hb⟩
theorem dec_len : ∀ (k u : Nat), u < 10 ^ (k + 1) → (Lib.decDigits u).length ≤ k + 1 := by
  intro k
  induction k with
  | zero => intro u h; rw [Lib.decDigits, dif_pos (by simpa using h)]; simp
  | succ k ih =>
    intro u h
    rw [Lib.decDigits]
    split
    · simp
    · have := ih (u / 10) (by rw [Nat.pow_succ] at h; omega)
      simp; omega
theorem itoa_len (n : Int) (h1 : -9223372036854775808 ≤ n) (h2 : n ≤ 9223372036854775807) : (Lib.itoa n).length ≤ 21 := by
  unfold Lib.itoa
  split
  · have := dec_len 19 n.natAbs (by omega); simp; omega
  · have := dec_len 19 n.toNat (by omega); omega
end Go.Proofs.YtiakecenmenpiaaGreatDoor
