
import Derived.Test.YtfgfeipoddnekaaDoorBsB
namespace Go.Proofs.YtfgfeipoddnekaaDoor.Ser
open Go.RowKit
set_option linter.unusedVariables false
set_option linter.unusedSimpArgs false
set_option maxRecDepth 100000 in
set_option maxHeartbeats 4000000 in
theorem ns_range (f t : Int) (w : World) : Calls Tryd.prog 6 #[.pointer none, .int .i64 f, .int .i64 t] w fun e w' => e = .returned (.slice none 0 0) ∧ Below w.heap.size w w' := by
  go_enter Tryd.func6, Tryd.ntmps6
  go_wp2_with fail
  have hB0 : Below w.heap.size w w := Below.refl _ _
  first | go_ret2 | go_ret
  exact ⟨by first | rfl | simp, Below.refl _ _⟩
set_option maxRecDepth 100000 in
set_option maxHeartbeats 4000000 in
theorem ns_load (v : Value) (w : World) : Calls Tryd.prog 5 #[.pointer none, v] w fun e w' => e = .returned (.slice none 0 0) ∧ Below w.heap.size w w' := by
  go_enter Tryd.func5, Tryd.ntmps5
  go_wp2_with fail
  have hB0 : Below w.heap.size w w := Below.refl _ _
  first | go_ret2 | go_ret
  exact ⟨by first | rfl | simp, Below.refl _ _⟩
end Go.Proofs.YtfgfeipoddnekaaDoor.Ser

namespace Go.Proofs.YtfgfeipoddnekaaDoor.Ser
open Go.RowKit
set_option linter.unusedVariables false
set_option linter.unusedSimpArgs false
theorem res_cells3 {w w' : World} {a b c : Value} {ty : TypeId} (h : Below (w.alloc (.cells #[a, b, c] ty)).heap.size (w.alloc (.cells #[a, b, c] ty)) w') : w'.cell? ⟨w.heap.size, 0, none⟩ = some a ∧ w'.cell? ⟨w.heap.size, 1, none⟩ = some b ∧ w'.cell? ⟨w.heap.size, 2, none⟩ = some c ∧ w'.frozen? ⟨w.heap.size, 0, none⟩ = false ∧ w'.frozen? ⟨w.heap.size, 1, none⟩ = false ∧ w'.frozen? ⟨w.heap.size, 2, none⟩ = false ∧ w.heap.size < w'.heap.size := by
  have hs : w.heap.size < (w.alloc (.cells #[a, b, c] ty)).heap.size := by simp
  refine ⟨?_, ?_, ?_, ?_, ?_, ?_, Nat.lt_of_lt_of_le hs h.size⟩
  · rw [h.cell (p := ⟨w.heap.size, 0, none⟩) hs]; simp [go_sem]
  · rw [h.cell (p := ⟨w.heap.size, 1, none⟩) hs]; simp [go_sem]
  · rw [h.cell (p := ⟨w.heap.size, 2, none⟩) hs]; simp [go_sem]
  · rw [frozen_block (h.block _ hs)]; exact frozen_new _ _ _ _
  · rw [frozen_block (h.block _ hs)]; exact frozen_new _ _ _ _
  · rw [frozen_block (h.block _ hs)]; exact frozen_new _ _ _ _
end Go.Proofs.YtfgfeipoddnekaaDoor.Ser

namespace Go.Proofs.YtfgfeipoddnekaaDoor.Ser
open Go.RowKit
set_option linter.unusedVariables false
set_option linter.unusedSimpArgs false
theorem makeS (n : Nat) (h : n ≤ 11728124029610) (w : World) : (Instr.makeSlice 22 (.int .i64 (n : Int)) (.int .i64 (n : Int))).run Tryd.prog w = .ok (.slice (some ⟨w.heap.size, 0, none⟩) n n) (w.alloc (.cells (madeCells #[.int .i64 0, .int .u8 0, .int .i64 0] (n * 3)) 37)) := by
  obtain ⟨i, h1, h0⟩ := Option.map_eq_some_iff.1 smp_info
  have h2 : i.zero = some (.agg #[.int .i64 0, .int .u8 0, .int .i64 0]) := congrArg (·.1) h0
  have h3 : i.bytes = 24 := congrArg (·.2.1) h0
  have h4 : i.size = 3 := congrArg (·.2.2) h0
  have := run_make (P := Tryd.prog) w 22 37 i (.agg #[.int .i64 0, .int .u8 0, .int .i64 0]) Tryd.underlying22 h1 h2 .i64 .i64 (n : Int) (n : Int) (by omega) (by omega) (by rw [h3]; omega) (by omega)
  rw [h4] at this
  simpa [Value.cells] using this
/-- samples in a block of one's own. -/
structure SRow (H m : Nat) (f : Nat → Smp) (w1 wx : World) : Prop where
  c0 : ∀ j, j < m → wx.cell? ⟨H, j * 3, none⟩ = some (.int .i64 (f j).t)
  c1 : ∀ j, j < m → wx.cell? ⟨H, j * 3 + 1, none⟩ = some (.int .u8 ((f j).k : Int))
  c2 : ∀ j, j < m → wx.cell? ⟨H, j * 3 + 2, none⟩ = some (.int .i64 (f j).x)
  z : ∀ j, wx.frozen? ⟨H, j, none⟩ = false
  b : Below H w1 wx
  sz : H < wx.heap.size
def updS (f : Nat → Smp) (k : Nat) (v : Smp) : Nat → Smp := fun j => if j = k then v else f j
theorem SRow.set {H m : Nat} {f : Nat → Smp} {w1 wx : World} (h : SRow H m f w1 wx) (k : Nat) (v : Smp) (hk : k < m) : SRow H m (updS f k v) w1 (((wx.setCell ⟨H, k * 3, none⟩ (.int .i64 v.t)).setCell ⟨H, k * 3 + 1, none⟩ (.int .u8 (v.k : Int))).setCell ⟨H, k * 3 + 2, none⟩ (.int .i64 v.x)) := by
  have oth : ∀ (x : World) (p q : Nat) (u : Value), p ≠ q → (x.setCell ⟨H, p, none⟩ u).cell? ⟨H, q, none⟩ = x.cell? ⟨H, q, none⟩ := fun x p q u hne => World.cell?_setCell_other _ _ _ _ (by intro e'; injection e' with e1 e2; omega)
  refine ⟨fun j hj => ?_, fun j hj => ?_, fun j hj => ?_, fun j => by simpa using h.z j, ((h.b.setCell (p := ⟨H, k * 3, none⟩) (Nat.le_refl _) _).setCell (p := ⟨H, k * 3 + 1, none⟩) (Nat.le_refl _) _).setCell (p := ⟨H, k * 3 + 2, none⟩) (Nat.le_refl _) _, by simpa using h.sz⟩
  · unfold updS
    rw [oth _ _ _ _ (by omega), oth _ _ _ _ (by omega)]
    by_cases e : j = k
    · subst e; rw [if_pos rfl]; exact World.cell?_setCell_same _ _ _ (h.c0 j hj)
    · rw [if_neg e, oth _ _ _ _ (by omega)]; exact h.c0 j hj
  · unfold updS
    rw [oth _ _ _ _ (by omega)]
    by_cases e : j = k
    · subst e; rw [if_pos rfl]; exact World.cell?_setCell_same _ _ _ (u := .int .u8 ((f j).k : Int)) (by rw [oth _ _ _ _ (by omega)]; exact h.c1 j hj)
    · rw [if_neg e, oth _ _ _ _ (by omega), oth _ _ _ _ (by omega)]; exact h.c1 j hj
  · unfold updS
    by_cases e : j = k
    · subst e; rw [if_pos rfl]; exact World.cell?_setCell_same _ _ _ (u := .int .i64 (f j).x) (by rw [oth _ _ _ _ (by omega), oth _ _ _ _ (by omega)]; exact h.c2 j hj)
    · rw [if_neg e, oth _ _ _ _ (by omega), oth _ _ _ _ (by omega), oth _ _ _ _ (by omega)]; exact h.c2 j hj
theorem SRow.ext {H m : Nat} {f g : Nat → Smp} {w1 wx : World} (h : SRow H m f w1 wx) (e : ∀ j, j < m → f j = g j) : SRow H m g w1 wx :=
  ⟨fun j hj => by rw [← e j hj]; exact h.c0 j hj, fun j hj => by rw [← e j hj]; exact h.c1 j hj, fun j hj => by rw [← e j hj]; exact h.c2 j hj, h.z, h.b, h.sz⟩
theorem SRow.start (w : World) (n : Nat) : SRow w.heap.size n (fun _ => ⟨0, 0, 0⟩) w (w.alloc (.cells (madeCells #[.int .i64 0, .int .u8 0, .int .i64 0] (n * 3)) 37)) := by
  have hz : ∀ j, j < n * 3 → (madeCells #[Value.int .i64 0, .int .u8 0, .int .i64 0] (n * 3))[j]? = some (#[Value.int .i64 0, .int .u8 0, .int .i64 0][j % 3]!) := fun j hj => by
    simp [madeCells, hj]
  refine ⟨fun j hj => ?_, fun j hj => ?_, fun j hj => ?_, fun j => frozen_of_row _ w.heap.size j _ 37 (heap_alloc_new w _), (Below.refl _ _).alloc (Nat.le_refl _) _, by simp⟩
  · rw [cell_of_row _ w.heap.size _ _ 37 (0, 0) (heap_alloc_new w _), hz _ (by omega), show j * 3 % 3 = 0 by omega]; rfl
  · rw [cell_of_row _ w.heap.size _ _ 37 (0, 0) (heap_alloc_new w _), hz _ (by omega), show (j * 3 + 1) % 3 = 1 by omega]; rfl
  · rw [cell_of_row _ w.heap.size _ _ 37 (0, 0) (heap_alloc_new w _), hz _ (by omega), show (j * 3 + 2) % 3 = 2 by omega]; rfl
/-- a copy with marks behind it. -/
def handSF (l : List Smp) : Nat → Smp := fun j => if j < l.length then l.getD j ⟨0, 0, 0⟩ else ⟨-700 - (j : Int) + (l.length : Int), 0, 0⟩
def handST (l : List Smp) (m : Nat) : Nat → Smp := fun j => if j < l.length then l.getD j ⟨0, 0, 0⟩ else if j < m then ⟨-700 - (j : Int) + (l.length : Int), 0, 0⟩ else ⟨0, 0, 0⟩
theorem getD_some {l : List Smp} {i : Nat} (h : i < l.length) : l[i]? = some (l.getD i ⟨0, 0, 0⟩) := by
  rw [List.getD_eq_getElem?_getD, List.getElem?_eq_getElem h]; rfl
theorem LIn.at {w wr : World} {a : Option Addr} {l : List Smp} (h : LIn w a l) (hB : Below w.heap.size w wr) {k : Nat} (hk : k < l.length) : ∃ b off s, a = some ⟨b, off, none⟩ ∧ b < w.heap.size ∧ l[k]? = some s ∧ wr.cell? ⟨b, off + k * 3, none⟩ = some (.int .i64 s.t) ∧ wr.cell? ⟨b, off + k * 3 + 1, none⟩ = some (.int .u8 (s.k : Int)) ∧ wr.cell? ⟨b, off + k * 3 + 2, none⟩ = some (.int .i64 s.x) := by
  rcases h.2 with h0 | ⟨b, off, e, hb, hc⟩
  · rw [h0] at hk; simp at hk
  · have hs := List.getElem?_eq_getElem hk
    obtain ⟨c0, c1, c2⟩ := hc k _ hs
    refine ⟨b, off, _, e, hb, hs, ?_, ?_, ?_⟩
    · rw [hB.cell (p := ⟨b, off + k * 3, none⟩) hb]; exact c0
    · rw [hB.cell (p := ⟨b, off + k * 3 + 1, none⟩) hb]; exact c1
    · rw [hB.cell (p := ⟨b, off + k * 3 + 2, none⟩) hb]; exact c2
theorem SRow.lin {H m : Nat} {l : List Smp} {w1 wx : World} (h : SRow H m (handSF l) w1 wx) (hm : l.length ≤ m) (hk : ∀ s ∈ l, s.ok) : LIn wx (some ⟨H, 0, none⟩) l := by
  refine ⟨hk, Or.inr ⟨H, 0, rfl, h.sz, fun i s hs => ?_⟩⟩
  have hi := (List.getElem?_eq_some_iff.1 hs).1
  have e : handSF l i = s := by
    unfold handSF
    rw [if_pos hi, List.getD_eq_getElem?_getD, hs]; rfl
  have c0 := h.c0 i (by omega)
  have c1 := h.c1 i (by omega)
  have c2 := h.c2 i (by omega)
  rw [e] at c0 c1 c2
  rw [Nat.zero_add]
  exact ⟨c0, c1, c2⟩
end Go.Proofs.YtfgfeipoddnekaaDoor.Ser

namespace Go.Proofs.YtfgfeipoddnekaaDoor.Ser
open Go.RowKit
set_option linter.unusedVariables false
set_option linter.unusedSimpArgs false
/-- the sample at a place, as it is told. -/
def numV (l : List Smp) (i : Int) : Smp × Bool := if 0 ≤ i ∧ i < l.length then (l.getD i.toNat ⟨0, 0, 0⟩, true) else (⟨0, 0, 0⟩, false)
end Go.Proofs.YtfgfeipoddnekaaDoor.Ser

namespace Go.Proofs.YtfgfeipoddnekaaDoor.Ser
open Go.RowKit
set_option linter.unusedVariables false
set_option linter.unusedSimpArgs false
/-- the last value of a time. -/
def valOf (L : List Smp) (t : Int) : Option (Nat × Int) := (L.reverse.find? (fun s => decide (s.t = t))).map (fun s => (s.k, s.x))
theorem valOf_snoc (L : List Smp) (s : Smp) (t : Int) : valOf (L ++ [s]) t = if s.t = t then some (s.k, s.x) else valOf L t := by
  unfold valOf
  rw [List.reverse_append, List.reverse_singleton, List.singleton_append, List.find?_cons]
  by_cases h : s.t = t
  · simp [h]
  · simp [h]
theorem valOf_some {L : List Smp} {t : Int} : (valOf L t).isSome = L.any (fun s => decide (s.t = t)) := by
  unfold valOf
  rw [Option.isSome_map, Bool.eq_iff_iff, List.find?_isSome, List.any_eq_true]
  simp
/-- the times alone count for where one stands. -/
theorem ahd_times (l : List Smp) (t : Int) : ahd l t = (l.map Smp.t).countP (fun x => decide (x < t)) := by
  unfold ahd; rw [List.countP_map]; rfl
theorem hasT_times (l : List Smp) (t : Int) : hasT l t = (l.map Smp.t).any (fun x => decide (x = t)) := by
  unfold hasT; rw [List.any_map]; rfl
/-- a value laid at a time where there is one. -/
def chg (nv : Int → Nat × Int) (l : List Smp) (t : Int) : List Smp := if hasT l t = true then l.set (ahd l t) ⟨t, (nv t).1, (nv t).2⟩ else l
theorem chg_times (nv : Int → Nat × Int) {l : List Smp} (h : Rise l) (t : Int) : (chg nv l t).map Smp.t = l.map Smp.t := by
  unfold chg
  split
  · rename_i hh
    obtain ⟨y, hy, ht⟩ := (hasT_iff h t).1 hh
    rw [List.map_set]
    refine List.ext_getElem? fun i => ?_
    rw [List.getElem?_set]
    split
    · rename_i e
      subst e
      rw [List.getElem?_map, hy]
      have hlt := (List.getElem?_eq_some_iff.1 hy).1
      simp [hlt, ht]
    · rfl
  · rfl
theorem chg_rise (nv : Int → Nat × Int) {l : List Smp} (h : Rise l) (t : Int) : Rise (chg nv l t) := by
  unfold chg
  split
  · rename_i hh
    obtain ⟨y, hy, ht⟩ := (hasT_iff h t).1 hh
    have := h.set hy (nv t).1 (nv t).2
    rw [ht] at this; exact this
  · exact h
theorem chg_mem (nv : Int → Nat × Int) {l : List Smp} (h : Rise l) (t : Int) (x : Smp) : x ∈ chg nv l t ↔ (x ∈ l ∧ x.t ≠ t) ∨ (hasT l t = true ∧ x = ⟨t, (nv t).1, (nv t).2⟩) := by
  unfold chg
  split
  · rename_i hh
    have := putL_mem h ⟨t, (nv t).1, (nv t).2⟩ x
    unfold putL at this
    rw [if_pos hh] at this
    rw [this]
    constructor
    · rintro (e | e)
      · exact Or.inr ⟨hh, e⟩
      · exact Or.inl e
    · rintro (e | ⟨_, e⟩)
      · exact Or.inr e
      · exact Or.inl e
  · rename_i hh
    have hf : hasT l t = false := by simpa using hh
    constructor
    · intro hx; exact Or.inl ⟨hx, hasT_false hf x hx⟩
    · rintro (e | ⟨e, _⟩)
      · exact e.1
      · rw [hf] at e; cases e
def chgL (nv : Int → Nat × Int) (l : List Smp) (K : List Int) : List Smp := K.foldl (chg nv) l
theorem chgL_snoc (nv : Int → Nat × Int) (l : List Smp) (K : List Int) (t : Int) : chgL nv l (K ++ [t]) = chg nv (chgL nv l K) t := by unfold chgL; rw [List.foldl_append]; rfl
theorem chgL_rise (nv : Int → Nat × Int) {l : List Smp} (h : Rise l) (K : List Int) : Rise (chgL nv l K) := by
  induction K generalizing l with
  | nil => exact h
  | cons t K ih => exact ih (chg_rise nv h t)
theorem chgL_times (nv : Int → Nat × Int) {l : List Smp} (h : Rise l) (K : List Int) : (chgL nv l K).map Smp.t = l.map Smp.t := by
  induction K generalizing l with
  | nil => rfl
  | cons t K ih => exact (ih (chg_rise nv h t)).trans (chg_times nv h t)
theorem chgL_len (nv : Int → Nat × Int) {l : List Smp} (h : Rise l) (K : List Int) : (chgL nv l K).length = l.length := by
  have := congrArg List.length (chgL_times nv h K); simpa using this
theorem chgL_ahd (nv : Int → Nat × Int) {l : List Smp} (h : Rise l) (K : List Int) (t : Int) : ahd (chgL nv l K) t = ahd l t := by rw [ahd_times, ahd_times, chgL_times nv h]
theorem chgL_has (nv : Int → Nat × Int) {l : List Smp} (h : Rise l) (K : List Int) (t : Int) : hasT (chgL nv l K) t = hasT l t := by rw [hasT_times, hasT_times, chgL_times nv h]
theorem chgL_mem (nv : Int → Nat × Int) {l : List Smp} (h : Rise l) (K : List Int) (x : Smp) : x ∈ chgL nv l K ↔ (x ∈ l ∧ x.t ∉ K) ∨ (x.t ∈ K ∧ hasT l x.t = true ∧ x = ⟨x.t, (nv x.t).1, (nv x.t).2⟩) := by
  induction K generalizing l with
  | nil => simp [chgL]
  | cons t K ih =>
    show x ∈ chgL nv (chg nv l t) K ↔ _
    rw [ih (chg_rise nv h t), chg_mem nv h]
    have hh : hasT (chg nv l t) x.t = hasT l x.t := by rw [hasT_times, hasT_times, chg_times nv h]
    rw [hh]
    by_cases hxt : x.t = t
    · subst hxt
      constructor
      · rintro (⟨(⟨_, e⟩ | ⟨e1, e2⟩), e3⟩ | ⟨e1, e2, e3⟩)
        · exact absurd rfl e
        · exact Or.inr ⟨by simp, e1, e2⟩
        · exact Or.inr ⟨by simp, e2, e3⟩
      · rintro (⟨_, e⟩ | ⟨_, e2, e3⟩)
        · exact absurd (by simp) e
        · by_cases hK : x.t ∈ K
          · exact Or.inr ⟨hK, e2, e3⟩
          · exact Or.inl ⟨Or.inr ⟨e2, e3⟩, hK⟩
    · constructor
      · rintro (⟨(⟨e1, _⟩ | ⟨_, e2⟩), e3⟩ | ⟨e1, e2, e3⟩)
        · exact Or.inl ⟨e1, by simp [hxt, e3]⟩
        · exact absurd (by rw [e2]) hxt
        · exact Or.inr ⟨by simp [e1], e2, e3⟩
      · rintro (⟨e1, e2⟩ | ⟨e1, e2, e3⟩)
        · simp at e2
          exact Or.inl ⟨Or.inl ⟨e1, hxt⟩, e2.2⟩
        · simp [hxt] at e1
          exact Or.inr ⟨e1, e2, e3⟩
theorem getV_mem {l : List Smp} (h : Rise l) {s : Smp} (hs : s ∈ l) : getV l s.t = (s.k, s.x) := by
  have hh : hasT l s.t = true := hasT_mem.2 ⟨s, hs, rfl⟩
  obtain ⟨y, hy, hyt, hv⟩ := getV_hit h hh
  rw [hv, h.inj (List.mem_of_getElem? hy) hs hyt]
theorem chgL_getV (nv : Int → Nat × Int) {l : List Smp} (h : Rise l) (K : List Int) (t : Int) (ht : t ∉ K) : getV (chgL nv l K) t = getV l t := by
  cases hh : hasT l t with
  | false => rw [getV_miss hh, getV_miss (by rw [chgL_has nv h]; exact hh)]
  | true =>
    obtain ⟨y, hy, hyt⟩ := hasT_mem.1 hh
    subst hyt
    rw [getV_mem h hy, getV_mem (chgL_rise nv h K) ((chgL_mem nv h K y).2 (Or.inl ⟨hy, ht⟩))]
/-- the samples of times that were not there. -/
def frL (nv : Int → Nat × Int) (l : List Smp) (K : List Int) : List Smp := (K.filter (fun t => !hasT l t)).map (fun t => ⟨t, (nv t).1, (nv t).2⟩)
/-- what became of a time. -/
structure Dlt where
  t : Int
  had : Bool
  ok : Nat
  ox : Int
  nk : Nat
  nx : Int
def dlt (nv : Int → Nat × Int) (l : List Smp) (t : Int) : Dlt := ⟨t, hasT l t, (getV l t).1, (getV l t).2, (nv t).1, (nv t).2⟩
def isD (nv : Int → Nat × Int) (l : List Smp) (t : Int) : Bool := !hasT l t || decide (getV l t ≠ nv t)
def dlL (nv : Int → Nat × Int) (l : List Smp) (K : List Int) : List Dlt := (K.filter (isD nv l)).map (dlt nv l)
theorem frL_snoc (nv : Int → Nat × Int) (l : List Smp) (K : List Int) (t : Int) : frL nv l (K ++ [t]) = frL nv l K ++ (if hasT l t = true then [] else [⟨t, (nv t).1, (nv t).2⟩]) := by
  unfold frL
  rw [List.filter_append, List.map_append]
  congr 1
  cases h : hasT l t <;> simp [h]
theorem dlL_snoc (nv : Int → Nat × Int) (l : List Smp) (K : List Int) (t : Int) : dlL nv l (K ++ [t]) = dlL nv l K ++ (if isD nv l t = true then [dlt nv l t] else []) := by
  unfold dlL
  rw [List.filter_append, List.map_append]
  congr 1
  cases h : isD nv l t <;> simp [h]
theorem frL_rise (nv : Int → Nat × Int) (l : List Smp) {K : List Int} (h : K.Pairwise (· < ·)) : Rise (frL nv l K) := by
  unfold frL Rise
  rw [List.pairwise_map]
  exact List.Pairwise.sublist List.filter_sublist h
theorem frL_mem (nv : Int → Nat × Int) (l : List Smp) (K : List Int) (x : Smp) : x ∈ frL nv l K ↔ x.t ∈ K ∧ hasT l x.t = false ∧ x = ⟨x.t, (nv x.t).1, (nv x.t).2⟩ := by
  unfold frL
  rw [List.mem_map]
  constructor
  · rintro ⟨t, ht, rfl⟩
    rw [List.mem_filter] at ht
    exact ⟨ht.1, by simpa using ht.2, rfl⟩
  · rintro ⟨h1, h2, h3⟩
    exact ⟨x.t, List.mem_filter.2 ⟨h1, by simp [h2]⟩, h3.symm⟩
/-- what lies there behind a Load. -/
def loadL (nv : Int → Nat × Int) (l : List Smp) (K : List Int) : List Smp := layL (chgL nv l K) (frL nv l K)
theorem loadL_mem (nv : Int → Nat × Int) {l : List Smp} (h : Rise l) (K : List Int) (x : Smp) : x ∈ loadL nv l K ↔ (x ∈ l ∧ x.t ∉ K) ∨ (x.t ∈ K ∧ x = ⟨x.t, (nv x.t).1, (nv x.t).2⟩) := by
  unfold loadL layL
  rw [layR_mem]
  simp only [List.take_length, List.mem_reverse, List.not_mem_nil, or_false]
  rw [chgL_mem nv h, frL_mem]
  constructor
  · rintro ((e | ⟨e1, _, e3⟩) | ⟨e1, _, e3⟩)
    · exact Or.inl e
    · exact Or.inr ⟨e1, e3⟩
    · exact Or.inr ⟨e1, e3⟩
  · rintro (e | ⟨e1, e3⟩)
    · exact Or.inl (Or.inl e)
    · cases hh : hasT l x.t with
      | true => exact Or.inl (Or.inr ⟨e1, rfl, e3⟩)
      | false => exact Or.inr ⟨e1, rfl, e3⟩
theorem loadL_rise (nv : Int → Nat × Int) {l : List Smp} (h : Rise l) {K : List Int} (hK : K.Pairwise (· < ·)) : Rise (loadL nv l K) := by
  unfold loadL layL
  refine layR_rise _ _ _ _ ?_ (by simp) ?_ ?_
  · rw [List.take_length, List.append_nil]; exact chgL_rise nv h K
  · rw [List.pairwise_reverse]; exact frL_rise nv l hK
  · intro s hs y hy e
    rw [List.mem_reverse, frL_mem] at hs
    have : hasT (chgL nv l K) s.t = true := hasT_mem.2 ⟨y, hy, e⟩
    rw [chgL_has nv h, hs.2.1] at this
    cases this
end Go.Proofs.YtfgfeipoddnekaaDoor.Ser
