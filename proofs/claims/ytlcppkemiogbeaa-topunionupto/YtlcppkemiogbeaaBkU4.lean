
import Derived.Test.YtlcppkemiogbeaaSrI
namespace Go.Proofs.Ytlcppkemiogbeaa.Ser
open Go.RowKit
set_option linter.unusedVariables false
set_option linter.unusedSimpArgs false
/-- a step. -/
structure Stp where
  k : Int
  t : Int
  u : Int
  vk : Nat
  vx : Int
  la : Option Addr
  lc : Nat
  ls : List Smp
def Stp.smp (s : Stp) : Smp := ⟨s.t, s.vk, s.vx⟩
def Stp.ok (s : Stp) : Prop := (-9223372036854775808 ≤ s.t ∧ s.t ≤ 9223372036854775807) ∧ (-9223372036854775808 ≤ s.u ∧ s.u ≤ 9223372036854775807) ∧ s.vk < 256 ∧ -9223372036854775808 ≤ s.vx ∧ s.vx ≤ 9223372036854775807
/-- steps in memory. -/
def StIn (w : World) (a : Option Addr) (n : Nat) (st : Nat → Stp) : Prop := n ≤ 2199023255552 ∧ (∀ i, i < n → (st i).ok) ∧ (n = 0 ∨ ∃ b off, a = some ⟨b, off, none⟩ ∧ b < w.heap.size ∧ ∀ i, i < n → w.cell? ⟨b, off + i * 6, none⟩ = some (.int .i64 (st i).k) ∧ w.cell? ⟨b, off + i * 6 + 1, none⟩ = some (.int .i64 (st i).t) ∧ w.cell? ⟨b, off + i * 6 + 2, none⟩ = some (.int .i64 (st i).u) ∧ w.cell? ⟨b, off + i * 6 + 3, none⟩ = some (.int .u8 ((st i).vk : Int)) ∧ w.cell? ⟨b, off + i * 6 + 4, none⟩ = some (.int .i64 (st i).vx) ∧ w.cell? ⟨b, off + i * 6 + 5, none⟩ = some (.slice (st i).la (st i).ls.length (st i).lc))
theorem below_drewN {B : Nat} {w w' : World} (h : Below B w w') (k : Nat) : Below B w (w'.drewN k) := ⟨h.os, h.tape, h.output, h.size, h.block⟩
theorem StIn.cells {w wr : World} {a : Option Addr} {n : Nat} {st : Nat → Stp} (h : StIn w a n st) (hB : Below w.heap.size w wr) {k : Nat} (hk : k < n) : ∃ b off, a = some ⟨b, off, none⟩ ∧ b < w.heap.size ∧ wr.cell? ⟨b, off + k * 6, none⟩ = some (.int .i64 (st k).k) ∧ wr.cell? ⟨b, off + k * 6 + 1, none⟩ = some (.int .i64 (st k).t) ∧ wr.cell? ⟨b, off + k * 6 + 2, none⟩ = some (.int .i64 (st k).u) ∧ wr.cell? ⟨b, off + k * 6 + 3, none⟩ = some (.int .u8 ((st k).vk : Int)) ∧ wr.cell? ⟨b, off + k * 6 + 4, none⟩ = some (.int .i64 (st k).vx) ∧ wr.cell? ⟨b, off + k * 6 + 5, none⟩ = some (.slice (st k).la (st k).ls.length (st k).lc) := by
  rcases h.2.2 with h0 | ⟨b, off, e, hb, hc⟩
  · omega
  · obtain ⟨c0, c1, c2, c3, c4, c5⟩ := hc k hk
    refine ⟨b, off, e, hb, ?_, ?_, ?_, ?_, ?_, ?_⟩
    · rw [hB.cell (p := ⟨b, off + k * 6, none⟩) hb]; exact c0
    · rw [hB.cell (p := ⟨b, off + k * 6 + 1, none⟩) hb]; exact c1
    · rw [hB.cell (p := ⟨b, off + k * 6 + 2, none⟩) hb]; exact c2
    · rw [hB.cell (p := ⟨b, off + k * 6 + 3, none⟩) hb]; exact c3
    · rw [hB.cell (p := ⟨b, off + k * 6 + 4, none⟩) hb]; exact c4
    · rw [hB.cell (p := ⟨b, off + k * 6 + 5, none⟩) hb]; exact c5
/-- what lies there behind steps of puts, cuts and deletions. -/
def runS (st : Nat → Stp) : Nat → List Smp
  | 0 => []
  | i + 1 => if (st i).k = 0 then putL (runS st i) (st i).smp else if (st i).k = 1 then cutL (runS st i) (st i).t else if (st i).k = 2 then delL (runS st i) (st i).t (st i).u else runS st i
theorem cutL_sub (l : List Smp) (t : Int) : (cutL l t).Sublist l := by
  unfold cutL
  split
  · exact cut_sub l _ _ (by omega)
  · exact List.Sublist.refl _
theorem delL_sub (l : List Smp) (f t : Int) : (delL l f t).Sublist l := cut_sub l _ _ (Nat.le_max_left _ _)
theorem putL_rise {l : List Smp} (h : Rise l) (s : Smp) : Rise (putL l s) := by
  unfold putL
  split
  · rename_i hh
    obtain ⟨y, hy, ht⟩ := (hasT_iff h s.t).1 hh
    have := h.set hy s.k s.x
    rw [ht] at this; exact this
  · rename_i hh
    have hf : hasT l s.t = false := by simpa using hh
    refine layR_rise l _ _ _ ?_ (by simp) (by simp) ?_
    · rw [List.take_length, List.append_nil]; exact h
    · intro x hx y hy
      simp at hx; subst hx
      exact hasT_false hf y hy
theorem runS_rise (st : Nat → Stp) : ∀ i, Rise (runS st i)
  | 0 => List.Pairwise.nil
  | i + 1 => by
    unfold runS
    split
    · exact putL_rise (runS_rise st i) _
    · split
      · exact List.Pairwise.sublist (cutL_sub _ _) (runS_rise st i)
      · split
        · exact List.Pairwise.sublist (delL_sub _ _ _) (runS_rise st i)
        · exact runS_rise st i
theorem runS_len (st : Nat → Stp) : ∀ i, (runS st i).length ≤ i
  | 0 => by simp [runS]
  | i + 1 => by
    have ih := runS_len st i
    unfold runS
    split
    · have := putL_len (l := runS st i) (st i).smp; omega
    · split
      · have := (cutL_sub (runS st i) (st i).t).length_le; omega
      · split
        · have := (delL_sub (runS st i) (st i).t (st i).u).length_le; omega
        · omega
/-- takes a time away. -/
def Stp.rem (s : Stp) (t : Int) : Prop := (s.k = 1 ∧ s.t = t) ∨ (s.k = 2 ∧ s.t ≤ t ∧ t < s.u)
theorem runS_mem (st : Nat → Stp) : ∀ m x, x ∈ runS st m ↔ ∃ i, i < m ∧ (st i).k = 0 ∧ x = (st i).smp ∧ ∀ k, i < k → k < m → ¬ ((st k).k = 0 ∧ (st k).t = x.t) ∧ ¬ (st k).rem x.t
  | 0, x => by simp [runS]
  | m + 1, x => by
    have ih := runS_mem st m x
    have hr := runS_rise st m
    -- x was there, and the step leaves it
    have key : (x ∈ runS st m ∧ ¬ ((st m).k = 0 ∧ (st m).t = x.t) ∧ ¬ (st m).rem x.t) ↔ ∃ i, i < m ∧ (st i).k = 0 ∧ x = (st i).smp ∧ ∀ k, i < k → k < m + 1 → ¬ ((st k).k = 0 ∧ (st k).t = x.t) ∧ ¬ (st k).rem x.t := by
      rw [ih]
      constructor
      · rintro ⟨⟨i, h1, h2, h3, h4⟩, h5⟩
        refine ⟨i, h1, h2, h3, fun k hk hk2 => ?_⟩
        rcases Nat.lt_or_ge k m with h | h
        · exact h4 k hk h
        · obtain rfl : k = m := by omega
          exact h5
      · rintro ⟨i, h1, h2, h3, h4⟩
        exact ⟨⟨i, h1, h2, h3, fun k hk hk2 => h4 k hk (by omega)⟩, h4 m h1 (by omega)⟩
    have split' : (∃ i, i < m + 1 ∧ (st i).k = 0 ∧ x = (st i).smp ∧ ∀ k, i < k → k < m + 1 → ¬ ((st k).k = 0 ∧ (st k).t = x.t) ∧ ¬ (st k).rem x.t) ↔ ((st m).k = 0 ∧ x = (st m).smp) ∨ (x ∈ runS st m ∧ ¬ ((st m).k = 0 ∧ (st m).t = x.t) ∧ ¬ (st m).rem x.t) := by
      rw [key]
      constructor
      · rintro ⟨i, h1, h2, h3, h4⟩
        rcases Nat.lt_or_ge i m with h | h
        · exact Or.inr ⟨i, h, h2, h3, h4⟩
        · obtain rfl : i = m := by omega
          exact Or.inl ⟨h2, h3⟩
      · rintro (⟨h1, h2⟩ | ⟨i, h1, h2, h3, h4⟩)
        · exact ⟨m, by omega, h1, h2, fun k hk hk2 => by omega⟩
        · exact ⟨i, by omega, h2, h3, h4⟩
    rw [split', show runS st (m + 1) = (if (st m).k = 0 then putL (runS st m) (st m).smp else if (st m).k = 1 then cutL (runS st m) (st m).t else if (st m).k = 2 then delL (runS st m) (st m).t (st m).u else runS st m) from rfl]
    split
    · rename_i h0
      rw [putL_mem hr]
      have hs : (st m).smp.t = (st m).t := rfl
      have hrem : ¬ (st m).rem x.t := by unfold Stp.rem; omega
      constructor
      · rintro (h | ⟨h, hne⟩)
        · exact Or.inl ⟨h0, h⟩
        · exact Or.inr ⟨h, fun hh => hne (by rw [hs]; exact hh.2.symm), hrem⟩
      · rintro (⟨_, h⟩ | ⟨h, hne, _⟩)
        · exact Or.inl h
        · exact Or.inr ⟨h, fun e => hne ⟨h0, by rw [hs] at e; exact e.symm⟩⟩
    · rename_i h0
      split
      · rename_i h1
        rw [cutL_mem hr]
        have hrem : (st m).rem x.t ↔ (st m).t = x.t := by unfold Stp.rem; omega
        rw [hrem]
        constructor
        · rintro ⟨h, hne⟩; exact Or.inr ⟨h, fun hh => h0 hh.1, fun e => hne e.symm⟩
        · rintro (⟨h, _⟩ | ⟨h, _, hne⟩)
          · exact absurd h h0
          · exact ⟨h, fun e => hne e.symm⟩
      · rename_i h1
        split
        · rename_i h2
          rw [delL_mem hr]
          have hrem : (st m).rem x.t ↔ ((st m).t ≤ x.t ∧ x.t < (st m).u) := by unfold Stp.rem; omega
          rw [hrem]
          constructor
          · rintro ⟨h, hne⟩; exact Or.inr ⟨h, fun hh => h0 hh.1, hne⟩
          · rintro (⟨h, _⟩ | ⟨h, _, hne⟩)
            · exact absurd h h0
            · exact ⟨h, hne⟩
        · rename_i h2
          have hrem : ¬ (st m).rem x.t := by unfold Stp.rem; omega
          constructor
          · intro h; exact Or.inr ⟨h, fun hh => h0 hh.1, hrem⟩
          · rintro (⟨h, _⟩ | ⟨h, _, _⟩)
            · exact absurd h h0
            · exact h
/-- no put of its time behind it. -/
def lastTo (st : Nat → Stp) (i : Nat) (m : Nat) : Prop := ∀ k, i < k → k < m → ¬ ((st k).k = 0 ∧ (st k).t = (st i).t)
def goneTo (st : Nat → Stp) (i : Nat) (m : Nat) : Prop := ∃ k, i < k ∧ k < m ∧ (st k).rem (st i).t
theorem last_has (st : Nat → Stp) (n i : Nat) (hi : i < n) (h0 : (st i).k = 0) (hl : lastTo st i n) : (hasT (runS st n) (st i).t = true ↔ ¬ goneTo st i n) ∧ (hasT (runS st n) (st i).t = true → getV (runS st n) (st i).t = ((st i).vk, (st i).vx)) := by
  have hr := runS_rise st n
  have only : ∀ x, x ∈ runS st n → x.t = (st i).t → x = (st i).smp ∧ ¬ goneTo st i n := by
    intro x hx hxt
    obtain ⟨j, h1, h2, h3, h4⟩ := (runS_mem st n x).1 hx
    have hjt : (st j).t = x.t := by rw [h3]; rfl
    rcases Nat.lt_trichotomy j i with h | h | h
    · exact absurd ⟨h0, hxt.symm⟩ (h4 i h hi).1
    · subst h
      refine ⟨h3, ?_⟩
      rintro ⟨k, k1, k2, k3⟩
      exact (h4 k k1 k2).2 (by rw [hxt]; exact k3)
    · exact absurd ⟨h2, by omega⟩ (hl j h h1)
  refine ⟨⟨fun hh => ?_, fun hg => ?_⟩, fun hh => ?_⟩
  · obtain ⟨y, hy, hyt⟩ := hasT_mem.1 hh
    exact (only y hy hyt).2
  · refine hasT_mem.2 ⟨(st i).smp, (runS_mem st n _).2 ⟨i, hi, h0, rfl, fun k hk hk2 => ⟨hl k hk hk2, fun hr => hg ⟨k, hk, hk2, hr⟩⟩⟩, rfl⟩
  · obtain ⟨y, hy, hyt, hv⟩ := getV_hit hr hh
    rw [hv, (only y (List.mem_of_getElem? hy) hyt).1]; rfl
open Classical in
/-- how many of the first puts are the last ones of their times, and are there. -/
noncomputable def cntS (st : Nat → Stp) (n : Nat) : Nat → Nat
  | 0 => 0
  | i + 1 => cntS st n i + (if (st i).k = 0 ∧ lastTo st i n ∧ hasT (runS st n) (st i).t = true then 1 else 0)
open Classical in
theorem cntS_eq (st : Nat → Stp) (n : Nat) : ∀ i, cntS st n i = ((List.range i).filter (fun i => decide ((st i).k = 0 ∧ lastTo st i n ∧ hasT (runS st n) (st i).t = true))).length
  | 0 => by simp [cntS]
  | i + 1 => by
    rw [cntS, cntS_eq st n i, List.range_succ, List.filter_append, List.length_append]
    congr 1
    split
    · rename_i h; simp [h]
    · rename_i h; simp [h]
theorem cntS_hit (st : Nat → Stp) (n i : Nat) (h : (st i).k = 0 ∧ lastTo st i n ∧ hasT (runS st n) (st i).t = true) : cntS st n (i + 1) = cntS st n i + 1 := by
  rw [cntS, if_pos h]
theorem cntS_miss (st : Nat → Stp) (n i : Nat) (h : ¬ ((st i).k = 0 ∧ lastTo st i n ∧ hasT (runS st n) (st i).t = true)) : cntS st n (i + 1) = cntS st n i := by
  rw [cntS, if_neg h]; rfl
theorem cntS_le (st : Nat → Stp) (n : Nat) : ∀ i, cntS st n i ≤ i
  | 0 => by simp [cntS]
  | i + 1 => by
    have := cntS_le st n i
    unfold cntS
    split <;> omega
open Classical in
theorem cntS_len (st : Nat → Stp) (n : Nat) : (runS st n).length = cntS st n n := by
  have hr := runS_rise st n
  rw [cntS_eq]
  have e : ((List.range n).filter (fun i => decide ((st i).k = 0 ∧ lastTo st i n ∧ hasT (runS st n) (st i).t = true))).length = (((List.range n).filter (fun i => decide ((st i).k = 0 ∧ lastTo st i n ∧ hasT (runS st n) (st i).t = true))).map (fun i => (st i).smp)).length := by simp
  rw [e]
  refine List.Perm.length_eq ((List.perm_ext_iff_of_nodup ?_ ?_).2 ?_)
  · refine List.Pairwise.imp (fun {a b} h => ?_) hr
    intro e; subst e; omega
  · rw [List.Nodup, List.pairwise_map]
    have hnd : ((List.range n).filter (fun i => decide ((st i).k = 0 ∧ lastTo st i n ∧ hasT (runS st n) (st i).t = true))).Pairwise (· < ·) := List.Pairwise.sublist List.filter_sublist List.pairwise_lt_range
    rw [List.pairwise_iff_forall_sublist] at hnd ⊢
    intro a b hab e
    have hlt := hnd hab
    have ha := hab.subset (by simp : a ∈ [a, b])
    have hb := hab.subset (by simp : b ∈ [a, b])
    simp only [List.mem_filter, List.mem_range, decide_eq_true_iff] at ha hb
    exact ha.2.2.1 b hlt hb.1 ⟨hb.2.1, (congrArg Smp.t e).symm⟩
  · intro x
    rw [runS_mem, List.mem_map]
    constructor
    · rintro ⟨i, h1, h2, h3, h4⟩
      have hl : lastTo st i n := fun k hk hk2 hh => (h4 k hk hk2).1 ⟨hh.1, by rw [h3]; exact hh.2⟩
      refine ⟨i, ?_, h3.symm⟩
      simp only [List.mem_filter, List.mem_range, decide_eq_true_iff]
      exact ⟨h1, h2, hl, (last_has st n i h1 h2 hl).1.2 (fun ⟨k, k1, k2, k3⟩ => (h4 k k1 k2).2 (by rw [h3]; exact k3))⟩
    · rintro ⟨i, hi, rfl⟩
      simp only [List.mem_filter, List.mem_range, decide_eq_true_iff] at hi
      obtain ⟨h1, h2, h3, h4⟩ := hi
      have hg := (last_has st n i h1 h2 h3).1.1 h4
      exact ⟨i, h1, h2, rfl, fun k hk hk2 => ⟨h3 k hk hk2, fun hr => hg ⟨k, hk, hk2, hr⟩⟩⟩
end Go.Proofs.Ytlcppkemiogbeaa.Ser

namespace Go.Proofs.Ytlcppkemiogbeaa.Ser
open Go.RowKit
set_option linter.unusedVariables false
set_option linter.unusedSimpArgs false
set_option maxRecDepth 100000 in
set_option maxHeartbeats 4000000 in
theorem ns_put (t : Int) (k x : Int) (w : World) : Calls Try.prog 10 #[.pointer none, .int .i64 t, .agg #[.int .u8 k, .int .i64 x]] w fun e w' => e = .returned (.tuple #[.agg #[.int .u8 0, .int .i64 0], .bool false]) ∧ Below w.heap.size w w' := by
  go_enter Try.func10, Try.ntmps10
  go_wp2_with fail
  refine bodyPost_ret (v := .tuple #[.agg #[.int .u8 0, .int .i64 0], .bool false]) ?_ rfl ⟨rfl, ?_⟩
  · simp [results, Try.results10, go_sem]
  · first | exact below_new (Below.refl _ _) _ | exact below_new (below_new (Below.refl _ _) _) _ | exact below_new (below_new (below_new (Below.refl _ _) _) _) _ | exact ((below_new (Below.refl _ _) _).setCell (p := ⟨w.heap.size, 0, none⟩) (by simp) _).setCell (p := ⟨w.heap.size, 1, none⟩) (by simp) _ | exact ((below_new (below_new (Below.refl _ _) _) _).setCell (p := ⟨w.heap.size + 1, 0, none⟩) (by simp) _).setCell (p := ⟨w.heap.size + 1, 1, none⟩) (by simp) _ | exact (((below_new (Below.refl _ _) _).setCell (p := ⟨w.heap.size, 0, none⟩) (by simp) _).setCell (p := ⟨w.heap.size, 1, none⟩) (by simp) _).setCell (p := ⟨w.heap.size, 2, none⟩) (by simp) _
set_option maxRecDepth 100000 in
set_option maxHeartbeats 4000000 in
theorem ns_len (w : World) : Calls Try.prog 11 #[.pointer none] w fun e w' => e = .returned (.int .i64 0) ∧ Below w.heap.size w w' := by
  go_enter Try.func11, Try.ntmps11
  go_wp2_with fail
  have hB0 : Below w.heap.size w w := Below.refl _ _
  first | go_ret2 | go_ret
  exact ⟨by first | rfl | simp, Below.refl _ _⟩
set_option maxRecDepth 100000 in
set_option maxHeartbeats 4000000 in
theorem ns_range (f t : Int) (w : World) : Calls Try.prog 8 #[.pointer none, .int .i64 f, .int .i64 t] w fun e w' => e = .returned (.slice none 0 0) ∧ Below w.heap.size w w' := by
  go_enter Try.func8, Try.ntmps8
  go_wp2_with fail
  have hB0 : Below w.heap.size w w := Below.refl _ _
  first | go_ret2 | go_ret
  exact ⟨by first | rfl | simp, Below.refl _ _⟩
set_option maxRecDepth 100000 in
set_option maxHeartbeats 4000000 in
theorem ns_load (v : Value) (w : World) : Calls Try.prog 6 #[.pointer none, v] w fun e w' => e = .returned (.slice none 0 0) ∧ Below w.heap.size w w' := by
  go_enter Try.func6, Try.ntmps6
  go_wp2_with fail
  have hB0 : Below w.heap.size w w := Below.refl _ _
  first | go_ret2 | go_ret
  exact ⟨by first | rfl | simp, Below.refl _ _⟩
set_option maxRecDepth 100000 in
set_option maxHeartbeats 4000000 in
theorem ns_last (w : World) : Calls Try.prog 9 #[.pointer none] w fun e w' => e = .returned (.tuple #[.agg #[.int .i64 0, .int .u8 0, .int .i64 0], .bool false]) ∧ Below w.heap.size w w' := by
  go_enter Try.func9, Try.ntmps9
  go_wp2_with fail
  refine bodyPost_ret (v := .tuple #[.agg #[.int .i64 0, .int .u8 0, .int .i64 0], .bool false]) ?_ rfl ⟨rfl, ?_⟩
  · simp [results, Try.results9, go_sem]
  · first | exact below_new (Below.refl _ _) _ | exact below_new (below_new (Below.refl _ _) _) _ | exact below_new (below_new (below_new (Below.refl _ _) _) _) _ | exact ((below_new (Below.refl _ _) _).setCell (p := ⟨w.heap.size, 0, none⟩) (by simp) _).setCell (p := ⟨w.heap.size, 1, none⟩) (by simp) _ | exact ((below_new (below_new (Below.refl _ _) _) _).setCell (p := ⟨w.heap.size + 1, 0, none⟩) (by simp) _).setCell (p := ⟨w.heap.size + 1, 1, none⟩) (by simp) _ | exact (((below_new (Below.refl _ _) _).setCell (p := ⟨w.heap.size, 0, none⟩) (by simp) _).setCell (p := ⟨w.heap.size, 1, none⟩) (by simp) _).setCell (p := ⟨w.heap.size, 2, none⟩) (by simp) _
end Go.Proofs.Ytlcppkemiogbeaa.Ser

namespace Go.Proofs.Ytlcppkemiogbeaa.Ser
open Go.RowKit
set_option linter.unusedVariables false
set_option linter.unusedSimpArgs false
theorem res_cells3 {w w' : World} {a b c : Value} {ty : TypeId} (h : Below (w.alloc (.cells #[a, b, c] ty)).heap.size (w.alloc (.cells #[a, b, c] ty)) w') : w'.cell? ⟨w.heap.size, 0, none⟩ = some a ∧ w'.cell? ⟨w.heap.size, 1, none⟩ = some b ∧ w'.cell? ⟨w.heap.size, 2, none⟩ = some c ∧ w'.frozen? ⟨w.heap.size, 0, none⟩ = false ∧ w'.frozen? ⟨w.heap.size, 1, none⟩ = false ∧ w'.frozen? ⟨w.heap.size, 2, none⟩ = false ∧ w.heap.size < w'.heap.size := by
  have hs : w.heap.size < (w.alloc (.cells #[a, b, c] ty)).heap.size := by simp
  refine ⟨?_, ?_, ?_, ?_, ?_, ?_, Nat.lt_of_lt_of_le hs h.size⟩
  · rw [h.cell (p := ⟨w.heap.size, 0, none⟩) hs]; simp [go_sem]
  · rw [h.cell (p := ⟨w.heap.size, 1, none⟩) hs]; simp [go_sem]
  · rw [h.cell (p := ⟨w.heap.size, 2, none⟩) hs]; simp [go_sem]
  · rw [frozen_block (h.block _ hs)]; exact frozen_new _ _ _ _
  · rw [frozen_block (h.block _ hs)]; exact frozen_new _ _ _ _
  · rw [frozen_block (h.block _ hs)]; exact frozen_new _ _ _ _
end Go.Proofs.Ytlcppkemiogbeaa.Ser

namespace Go.Proofs.Ytlcppkemiogbeaa.Ser
open Go.RowKit
set_option linter.unusedVariables false
set_option linter.unusedSimpArgs false
theorem makeS (n : Nat) (h : n ≤ 11728124029610) (w : World) : (Instr.makeSlice 29 (.int .i64 (n : Int)) (.int .i64 (n : Int))).run Try.prog w = .ok (.slice (some ⟨w.heap.size, 0, none⟩) n n) (w.alloc (.cells (madeCells #[.int .i64 0, .int .u8 0, .int .i64 0] (n * 3)) 35)) := by
  obtain ⟨i, h1, h0⟩ := Option.map_eq_some_iff.1 smp_info
  have h2 : i.zero = some (.agg #[.int .i64 0, .int .u8 0, .int .i64 0]) := congrArg (·.1) h0
  have h3 : i.bytes = 24 := congrArg (·.2.1) h0
  have h4 : i.size = 3 := congrArg (·.2.2) h0
  have := run_make (P := Try.prog) w 29 35 i (.agg #[.int .i64 0, .int .u8 0, .int .i64 0]) Try.underlying29 h1 h2 .i64 .i64 (n : Int) (n : Int) (by omega) (by omega) (by rw [h3]; omega) (by omega)
  rw [h4] at this
  simpa [Value.cells] using this
/-- samples in a block of one's own. -/
structure SRow (H m : Nat) (f : Nat → Smp) (w1 wx : World) : Prop where
  c0 : ∀ j, j < m → wx.cell? ⟨H, j * 3, none⟩ = some (.int .i64 (f j).t)
  c1 : ∀ j, j < m → wx.cell? ⟨H, j * 3 + 1, none⟩ = some (.int .u8 ((f j).k : Int))
  c2 : ∀ j, j < m → wx.cell? ⟨H, j * 3 + 2, none⟩ = some (.int .i64 (f j).x)
  z : ∀ j, wx.frozen? ⟨H, j, none⟩ = false
  b : Below H w1 wx
  sz : H < wx.heap.size
def updS (f : Nat → Smp) (k : Nat) (v : Smp) : Nat → Smp := fun j => if j = k then v else f j
theorem SRow.set {H m : Nat} {f : Nat → Smp} {w1 wx : World} (h : SRow H m f w1 wx) (k : Nat) (v : Smp) (hk : k < m) : SRow H m (updS f k v) w1 (((wx.setCell ⟨H, k * 3, none⟩ (.int .i64 v.t)).setCell ⟨H, k * 3 + 1, none⟩ (.int .u8 (v.k : Int))).setCell ⟨H, k * 3 + 2, none⟩ (.int .i64 v.x)) := by
  have oth : ∀ (x : World) (p q : Nat) (u : Value), p ≠ q → (x.setCell ⟨H, p, none⟩ u).cell? ⟨H, q, none⟩ = x.cell? ⟨H, q, none⟩ := fun x p q u hne => World.cell?_setCell_other _ _ _ _ (by intro e'; injection e' with e1 e2; omega)
  refine ⟨fun j hj => ?_, fun j hj => ?_, fun j hj => ?_, fun j => by simpa using h.z j, ((h.b.setCell (p := ⟨H, k * 3, none⟩) (Nat.le_refl _) _).setCell (p := ⟨H, k * 3 + 1, none⟩) (Nat.le_refl _) _).setCell (p := ⟨H, k * 3 + 2, none⟩) (Nat.le_refl _) _, by simpa using h.sz⟩
  · unfold updS
    rw [oth _ _ _ _ (by omega), oth _ _ _ _ (by omega)]
    by_cases e : j = k
    · subst e; rw [if_pos rfl]; exact World.cell?_setCell_same _ _ _ (h.c0 j hj)
    · rw [if_neg e, oth _ _ _ _ (by omega)]; exact h.c0 j hj
  · unfold updS
    rw [oth _ _ _ _ (by omega)]
    by_cases e : j = k
    · subst e; rw [if_pos rfl]; exact World.cell?_setCell_same _ _ _ (u := .int .u8 ((f j).k : Int)) (by rw [oth _ _ _ _ (by omega)]; exact h.c1 j hj)
    · rw [if_neg e, oth _ _ _ _ (by omega), oth _ _ _ _ (by omega)]; exact h.c1 j hj
  · unfold updS
    by_cases e : j = k
    · subst e; rw [if_pos rfl]; exact World.cell?_setCell_same _ _ _ (u := .int .i64 (f j).x) (by rw [oth _ _ _ _ (by omega), oth _ _ _ _ (by omega)]; exact h.c2 j hj)
    · rw [if_neg e, oth _ _ _ _ (by omega), oth _ _ _ _ (by omega), oth _ _ _ _ (by omega)]; exact h.c2 j hj
theorem SRow.ext {H m : Nat} {f g : Nat → Smp} {w1 wx : World} (h : SRow H m f w1 wx) (e : ∀ j, j < m → f j = g j) : SRow H m g w1 wx :=
  ⟨fun j hj => by rw [← e j hj]; exact h.c0 j hj, fun j hj => by rw [← e j hj]; exact h.c1 j hj, fun j hj => by rw [← e j hj]; exact h.c2 j hj, h.z, h.b, h.sz⟩
theorem SRow.start (w : World) (n : Nat) : SRow w.heap.size n (fun _ => ⟨0, 0, 0⟩) w (w.alloc (.cells (madeCells #[.int .i64 0, .int .u8 0, .int .i64 0] (n * 3)) 35)) := by
  have hz : ∀ j, j < n * 3 → (madeCells #[Value.int .i64 0, .int .u8 0, .int .i64 0] (n * 3))[j]? = some (#[Value.int .i64 0, .int .u8 0, .int .i64 0][j % 3]!) := fun j hj => by
    simp [madeCells, hj]
  refine ⟨fun j hj => ?_, fun j hj => ?_, fun j hj => ?_, fun j => frozen_of_row _ w.heap.size j _ 35 (heap_alloc_new w _), (Below.refl _ _).alloc (Nat.le_refl _) _, by simp⟩
  · rw [cell_of_row _ w.heap.size _ _ 35 (0, 0) (heap_alloc_new w _), hz _ (by omega), show j * 3 % 3 = 0 by omega]; rfl
  · rw [cell_of_row _ w.heap.size _ _ 35 (0, 0) (heap_alloc_new w _), hz _ (by omega), show (j * 3 + 1) % 3 = 1 by omega]; rfl
  · rw [cell_of_row _ w.heap.size _ _ 35 (0, 0) (heap_alloc_new w _), hz _ (by omega), show (j * 3 + 2) % 3 = 2 by omega]; rfl
/-- a copy with marks behind it. -/
def handSF (l : List Smp) : Nat → Smp := fun j => if j < l.length then l.getD j ⟨0, 0, 0⟩ else ⟨-700 - (j : Int) + (l.length : Int), 0, 0⟩
def handST (l : List Smp) (m : Nat) : Nat → Smp := fun j => if j < l.length then l.getD j ⟨0, 0, 0⟩ else if j < m then ⟨-700 - (j : Int) + (l.length : Int), 0, 0⟩ else ⟨0, 0, 0⟩
theorem getD_some {l : List Smp} {i : Nat} (h : i < l.length) : l[i]? = some (l.getD i ⟨0, 0, 0⟩) := by
  rw [List.getD_eq_getElem?_getD, List.getElem?_eq_getElem h]; rfl
theorem LIn.at {w wr : World} {a : Option Addr} {l : List Smp} (h : LIn w a l) (hB : Below w.heap.size w wr) {k : Nat} (hk : k < l.length) : ∃ b off s, a = some ⟨b, off, none⟩ ∧ b < w.heap.size ∧ l[k]? = some s ∧ wr.cell? ⟨b, off + k * 3, none⟩ = some (.int .i64 s.t) ∧ wr.cell? ⟨b, off + k * 3 + 1, none⟩ = some (.int .u8 (s.k : Int)) ∧ wr.cell? ⟨b, off + k * 3 + 2, none⟩ = some (.int .i64 s.x) := by
  rcases h.2 with h0 | ⟨b, off, e, hb, hc⟩
  · rw [h0] at hk; simp at hk
  · have hs := List.getElem?_eq_getElem hk
    obtain ⟨c0, c1, c2⟩ := hc k _ hs
    refine ⟨b, off, _, e, hb, hs, ?_, ?_, ?_⟩
    · rw [hB.cell (p := ⟨b, off + k * 3, none⟩) hb]; exact c0
    · rw [hB.cell (p := ⟨b, off + k * 3 + 1, none⟩) hb]; exact c1
    · rw [hB.cell (p := ⟨b, off + k * 3 + 2, none⟩) hb]; exact c2
theorem SRow.lin {H m : Nat} {l : List Smp} {w1 wx : World} (h : SRow H m (handSF l) w1 wx) (hm : l.length ≤ m) (hk : ∀ s ∈ l, s.ok) : LIn wx (some ⟨H, 0, none⟩) l := by
  refine ⟨hk, Or.inr ⟨H, 0, rfl, h.sz, fun i s hs => ?_⟩⟩
  have hi := (List.getElem?_eq_some_iff.1 hs).1
  have e : handSF l i = s := by
    unfold handSF
    rw [if_pos hi, List.getD_eq_getElem?_getD, hs]; rfl
  have c0 := h.c0 i (by omega)
  have c1 := h.c1 i (by omega)
  have c2 := h.c2 i (by omega)
  rw [e] at c0 c1 c2
  rw [Nat.zero_add]
  exact ⟨c0, c1, c2⟩
end Go.Proofs.Ytlcppkemiogbeaa.Ser

namespace Go.Proofs.Ytlcppkemiogbeaa.Ser
open Go.RowKit
set_option linter.unusedVariables false
set_option linter.unusedSimpArgs false
/-- the sample at a place, as it is told. -/
def numV (l : List Smp) (i : Int) : Smp × Bool := if 0 ≤ i ∧ i < l.length then (l.getD i.toNat ⟨0, 0, 0⟩, true) else (⟨0, 0, 0⟩, false)
set_option maxRecDepth 100000 in
set_option maxHeartbeats 4000000 in
theorem number_any (N B : Nat) (v : Value) (l : List Smp) (i : Int) (w : World) (h : SS N B v l w) : Calls Try.prog 22 #[.pointer (some ⟨N, 0, none⟩), .int .i64 i] w fun e w' => e = .returned (.tuple #[.agg #[.int .i64 (numV l i).1.t, .int .u8 ((numV l i).1.k : Int), .int .i64 (numV l i).1.x], .bool (numV l i).2]) ∧ Below w.heap.size w w' := by
  obtain ⟨a, cap, rfl, hcap, hL⟩ := h.row.lin h.hk
  have c0 := h.c0
  have hN := h.hN
  have hn := h.hn
  have hLH : Hid (LIn w a l) := hL
  clear h hL hcap
  unfold numV
  by_cases h1 : i < 0
  · rw [if_neg (by omega)]
    go_enter Try.func22, Try.ntmps22
    go_wp2_with fail
    refine bodyPost_ret (v := .tuple #[.agg #[.int .i64 0, .int .u8 0, .int .i64 0], .bool false]) ?_ rfl ⟨rfl, ?_⟩
    · simp [results, Try.results22, go_sem]
    · first | exact below_new (Below.refl _ _) _ | exact (((below_new (Below.refl _ _) _).setCell (p := ⟨w.heap.size, 0, none⟩) (by simp) _).setCell (p := ⟨w.heap.size, 1, none⟩) (by simp) _).setCell (p := ⟨w.heap.size, 2, none⟩) (by simp) _
  · by_cases h2 : i < l.length
    · rw [if_pos ⟨by omega, h2⟩]
      obtain ⟨j, rfl⟩ : ∃ j : Nat, i = (j : Int) := ⟨i.toNat, by omega⟩
      obtain ⟨b, off, s, rfl, hb, hs, d1, d2, d3⟩ := LIn.at hLH.out (Below.refl _ _) (by omega : j < l.length)
      have es : l.getD (j : Int).toNat ⟨0, 0, 0⟩ = s := by rw [List.getD_eq_getElem?_getD, Int.toNat_natCast, hs]; rfl
      rw [es]
      clear es hs
      have hj0 : (0 : Int) ≤ (j : Int) := by omega
      generalize l.length = n at *
      have hB0 := below_new (Below.refl _ w) (.cells #[.int .i64 0, .int .u8 0, .int .i64 0] 35)
      have c0' := (hB0.cell (p := ⟨N, 0, none⟩) hN).trans c0
      have d1' := (hB0.cell (p := ⟨b, off + j * 3, none⟩) hb).trans d1
      have d2' := (hB0.cell (p := ⟨b, off + j * 3 + 1, none⟩) hb).trans d2
      have d3' := (hB0.cell (p := ⟨b, off + j * 3 + 2, none⟩) hb).trans d3
      go_enter Try.func22, Try.ntmps22
      go_wp2_with fail
      refine bodyPost_ret (v := .tuple #[.agg #[.int .i64 s.t, .int .u8 (s.k : Int), .int .i64 s.x], .bool true]) ?_ rfl ⟨rfl, ?_⟩
      · simp [results, Try.results22, go_sem]
      · first | exact below_new (Below.refl _ _) _ | exact (((below_new (Below.refl _ _) _).setCell (p := ⟨w.heap.size, 0, none⟩) (by simp) _).setCell (p := ⟨w.heap.size, 1, none⟩) (by simp) _).setCell (p := ⟨w.heap.size, 2, none⟩) (by simp) _
    · rw [if_neg (by omega)]
      generalize l.length = n at *
      have hB0 := below_new (Below.refl _ w) (.cells #[.int .i64 0, .int .u8 0, .int .i64 0] 35)
      have c0' := (hB0.cell (p := ⟨N, 0, none⟩) hN).trans c0
      have h1' : 0 ≤ i := by omega
      go_enter Try.func22, Try.ntmps22
      go_wp2_with fail
      refine bodyPost_ret (v := .tuple #[.agg #[.int .i64 0, .int .u8 0, .int .i64 0], .bool false]) ?_ rfl ⟨rfl, ?_⟩
      · simp [results, Try.results22, go_sem]
      · first | exact below_new (Below.refl _ _) _ | exact (((below_new (Below.refl _ _) _).setCell (p := ⟨w.heap.size, 0, none⟩) (by simp) _).setCell (p := ⟨w.heap.size, 1, none⟩) (by simp) _).setCell (p := ⟨w.heap.size, 2, none⟩) (by simp) _
set_option maxRecDepth 100000 in
set_option maxHeartbeats 4000000 in
theorem last_any (N B : Nat) (v : Value) (l : List Smp) (w : World) (h : SS N B v l w) : Calls Try.prog 9 #[.pointer (some ⟨N, 0, none⟩)] w fun e w' => e = .returned (.tuple #[.agg #[.int .i64 (numV l ((l.length : Int) - 1)).1.t, .int .u8 ((numV l ((l.length : Int) - 1)).1.k : Int), .int .i64 (numV l ((l.length : Int) - 1)).1.x], .bool (numV l ((l.length : Int) - 1)).2]) ∧ Below w.heap.size w w' := by
  have hnum : Hid (∀ W, SS N B v l W → Calls Try.prog 22 #[.pointer (some ⟨N, 0, none⟩), .int .i64 ((l.length : Int) - 1)] W fun e w' => e = .returned (.tuple #[.agg #[.int .i64 (numV l ((l.length : Int) - 1)).1.t, .int .u8 ((numV l ((l.length : Int) - 1)).1.k : Int), .int .i64 (numV l ((l.length : Int) - 1)).1.x], .bool (numV l ((l.length : Int) - 1)).2]) ∧ Below W.heap.size W w') := fun W hW => number_any N B v l ((l.length : Int) - 1) W hW
  obtain ⟨a, cap, rfl, hcap, hL⟩ := h.row.lin h.hk
  have hH : Hid (SS N B (.slice a l.length cap) l w) := h
  have c0 := h.c0
  have hN := h.hN
  have hn := h.hn
  have hB0 := below_new (Below.refl _ w) (.cells #[.int .i64 0, .int .u8 0, .int .i64 0] 35)
  have c0' := (hB0.cell (p := ⟨N, 0, none⟩) hN).trans c0
  clear h hL
  generalize numV l ((l.length : Int) - 1) = r at *
  go_enter Try.func9, Try.ntmps9
  go_wp2_with fail
  have hW0 : Hid (SS N B (.slice a l.length cap) l (w.alloc (.cells #[.int .i64 0, .int .u8 0, .int .i64 0] 35)).drew) := SS.below (SS.below hH.out hB0) ((Below.refl _ _).drew)
  have hcall : Hid (Calls Try.prog 22 #[.pointer (some ⟨N, 0, none⟩), .int .i64 ((l.length : Int) - 1)] (w.alloc (.cells #[.int .i64 0, .int .u8 0, .int .i64 0] 35)).drew fun e w' => e = .returned (.tuple #[.agg #[.int .i64 r.1.t, .int .u8 (r.1.k : Int), .int .i64 r.1.x], .bool r.2]) ∧ w'.cell? ⟨N, 0, none⟩ = some (.slice a l.length cap) ∧ (w'.cell? ⟨w.heap.size, 0, none⟩ = some (.int .i64 0) ∧ w'.cell? ⟨w.heap.size, 1, none⟩ = some (.int .u8 0) ∧ w'.cell? ⟨w.heap.size, 2, none⟩ = some (.int .i64 0) ∧ w'.frozen? ⟨w.heap.size, 0, none⟩ = false ∧ w'.frozen? ⟨w.heap.size, 1, none⟩ = false ∧ w'.frozen? ⟨w.heap.size, 2, none⟩ = false ∧ w.heap.size < w'.heap.size) ∧ Below w.heap.size w w') := Calls.mono (hnum.out _ hW0.out) (by
    rintro e w' ⟨rfl, hb⟩
    have hb2 : Below (w.alloc (.cells #[.int .i64 0, .int .u8 0, .int .i64 0] 35)).heap.size (w.alloc (.cells #[.int .i64 0, .int .u8 0, .int .i64 0] 35)) w' := ((Below.refl _ _).drew).trans hb
    exact ⟨rfl, (SS.below (SS.below hH.out hB0) hb2).c0, res_cells3 hb2, alloc_below hb2⟩)
  generalize l.length = n at *
  have hwr : IntKind.i64.wrap ((n : Int) - 1) = (n : Int) - 1 := IntWalk.i64_in _ (by omega)
  have S5 := c0'
  have hNe : N ≠ w.heap.size := by omega
  have hNe' : w.heap.size ≠ N := by omega
  clear hnum hW0 hH
  go_wp2_with fail
  go_region_held3 (fun w' => w'.cell? ⟨N, 0, none⟩ = some (.slice a n cap)) (first | assumption | go_keep)
    (first
      | (go_at_call 22; (with_reducible refine Calls.mono hcall.out ?_); rintro e w2 ⟨rfl, hSk, ⟨r0, r1, r2, q0, q1, q2, hz⟩, hB'⟩))
  go_wp2_with fail
  have hT : Below w.heap.size w (((w2.setCell ⟨w.heap.size, 0, none⟩ (.int .i64 r.1.t)).setCell ⟨w.heap.size, 1, none⟩ (.int .u8 (r.1.k : Int))).setCell ⟨w.heap.size, 2, none⟩ (.int .i64 r.1.x)) := ((hB'.setCell (p := ⟨w.heap.size, 0, none⟩) (by simp) _).setCell (p := ⟨w.heap.size, 1, none⟩) (by simp) _).setCell (p := ⟨w.heap.size, 2, none⟩) (by simp) _
  refine bodyPost_ret (v := .tuple #[.agg #[.int .i64 r.1.t, .int .u8 (r.1.k : Int), .int .i64 r.1.x], .bool r.2]) ?_ rfl ⟨rfl, hT⟩
  simp [results, Try.results9, go_sem, r0, r1, r2, hz]
end Go.Proofs.Ytlcppkemiogbeaa.Ser

namespace Go.Proofs.Ytlcppkemiogbeaa.Ser
open Go.RowKit
set_option linter.unusedVariables false
set_option linter.unusedSimpArgs false
/-- the last value of a time. -/
def valOf (L : List Smp) (t : Int) : Option (Nat × Int) := (L.reverse.find? (fun s => decide (s.t = t))).map (fun s => (s.k, s.x))
theorem valOf_snoc (L : List Smp) (s : Smp) (t : Int) : valOf (L ++ [s]) t = if s.t = t then some (s.k, s.x) else valOf L t := by
  unfold valOf
  rw [List.reverse_append, List.reverse_singleton, List.singleton_append, List.find?_cons]
  by_cases h : s.t = t
  · simp [h]
  · simp [h]
theorem valOf_some {L : List Smp} {t : Int} : (valOf L t).isSome = L.any (fun s => decide (s.t = t)) := by
  unfold valOf
  rw [Option.isSome_map, Bool.eq_iff_iff, List.find?_isSome, List.any_eq_true]
  simp
/-- the times alone count for where one stands. -/
theorem ahd_times (l : List Smp) (t : Int) : ahd l t = (l.map Smp.t).countP (fun x => decide (x < t)) := by
  unfold ahd; rw [List.countP_map]; rfl
theorem hasT_times (l : List Smp) (t : Int) : hasT l t = (l.map Smp.t).any (fun x => decide (x = t)) := by
  unfold hasT; rw [List.any_map]; rfl
/-- a value laid at a time where there is one. -/
def chg (nv : Int → Nat × Int) (l : List Smp) (t : Int) : List Smp := if hasT l t = true then l.set (ahd l t) ⟨t, (nv t).1, (nv t).2⟩ else l
theorem chg_times (nv : Int → Nat × Int) {l : List Smp} (h : Rise l) (t : Int) : (chg nv l t).map Smp.t = l.map Smp.t := by
  unfold chg
  split
  · rename_i hh
    obtain ⟨y, hy, ht⟩ := (hasT_iff h t).1 hh
    rw [List.map_set]
    refine List.ext_getElem? fun i => ?_
    rw [List.getElem?_set]
    split
    · rename_i e
      subst e
      rw [List.getElem?_map, hy]
      have hlt := (List.getElem?_eq_some_iff.1 hy).1
      simp [hlt, ht]
    · rfl
  · rfl
theorem chg_rise (nv : Int → Nat × Int) {l : List Smp} (h : Rise l) (t : Int) : Rise (chg nv l t) := by
  unfold chg
  split
  · rename_i hh
    obtain ⟨y, hy, ht⟩ := (hasT_iff h t).1 hh
    have := h.set hy (nv t).1 (nv t).2
    rw [ht] at this; exact this
  · exact h
theorem chg_mem (nv : Int → Nat × Int) {l : List Smp} (h : Rise l) (t : Int) (x : Smp) : x ∈ chg nv l t ↔ (x ∈ l ∧ x.t ≠ t) ∨ (hasT l t = true ∧ x = ⟨t, (nv t).1, (nv t).2⟩) := by
  unfold chg
  split
  · rename_i hh
    have := putL_mem h ⟨t, (nv t).1, (nv t).2⟩ x
    unfold putL at this
    rw [if_pos hh] at this
    rw [this]
    constructor
    · rintro (e | e)
      · exact Or.inr ⟨hh, e⟩
      · exact Or.inl e
    · rintro (e | ⟨_, e⟩)
      · exact Or.inr e
      · exact Or.inl e
  · rename_i hh
    have hf : hasT l t = false := by simpa using hh
    constructor
    · intro hx; exact Or.inl ⟨hx, hasT_false hf x hx⟩
    · rintro (e | ⟨e, _⟩)
      · exact e.1
      · rw [hf] at e; cases e
def chgL (nv : Int → Nat × Int) (l : List Smp) (K : List Int) : List Smp := K.foldl (chg nv) l
theorem chgL_snoc (nv : Int → Nat × Int) (l : List Smp) (K : List Int) (t : Int) : chgL nv l (K ++ [t]) = chg nv (chgL nv l K) t := by unfold chgL; rw [List.foldl_append]; rfl
theorem chgL_rise (nv : Int → Nat × Int) {l : List Smp} (h : Rise l) (K : List Int) : Rise (chgL nv l K) := by
  induction K generalizing l with
  | nil => exact h
  | cons t K ih => exact ih (chg_rise nv h t)
theorem chgL_times (nv : Int → Nat × Int) {l : List Smp} (h : Rise l) (K : List Int) : (chgL nv l K).map Smp.t = l.map Smp.t := by
  induction K generalizing l with
  | nil => rfl
  | cons t K ih => exact (ih (chg_rise nv h t)).trans (chg_times nv h t)
theorem chgL_len (nv : Int → Nat × Int) {l : List Smp} (h : Rise l) (K : List Int) : (chgL nv l K).length = l.length := by
  have := congrArg List.length (chgL_times nv h K); simpa using this
theorem chgL_ahd (nv : Int → Nat × Int) {l : List Smp} (h : Rise l) (K : List Int) (t : Int) : ahd (chgL nv l K) t = ahd l t := by rw [ahd_times, ahd_times, chgL_times nv h]
theorem chgL_has (nv : Int → Nat × Int) {l : List Smp} (h : Rise l) (K : List Int) (t : Int) : hasT (chgL nv l K) t = hasT l t := by rw [hasT_times, hasT_times, chgL_times nv h]
theorem chgL_mem (nv : Int → Nat × Int) {l : List Smp} (h : Rise l) (K : List Int) (x : Smp) : x ∈ chgL nv l K ↔ (x ∈ l ∧ x.t ∉ K) ∨ (x.t ∈ K ∧ hasT l x.t = true ∧ x = ⟨x.t, (nv x.t).1, (nv x.t).2⟩) := by
  induction K generalizing l with
  | nil => simp [chgL]
  | cons t K ih =>
    show x ∈ chgL nv (chg nv l t) K ↔ _
    rw [ih (chg_rise nv h t), chg_mem nv h]
    have hh : hasT (chg nv l t) x.t = hasT l x.t := by rw [hasT_times, hasT_times, chg_times nv h]
    rw [hh]
    by_cases hxt : x.t = t
    · subst hxt
      constructor
      · rintro (⟨(⟨_, e⟩ | ⟨e1, e2⟩), e3⟩ | ⟨e1, e2, e3⟩)
        · exact absurd rfl e
        · exact Or.inr ⟨by simp, e1, e2⟩
        · exact Or.inr ⟨by simp, e2, e3⟩
      · rintro (⟨_, e⟩ | ⟨_, e2, e3⟩)
        · exact absurd (by simp) e
        · by_cases hK : x.t ∈ K
          · exact Or.inr ⟨hK, e2, e3⟩
          · exact Or.inl ⟨Or.inr ⟨e2, e3⟩, hK⟩
    · constructor
      · rintro (⟨(⟨e1, _⟩ | ⟨_, e2⟩), e3⟩ | ⟨e1, e2, e3⟩)
        · exact Or.inl ⟨e1, by simp [hxt, e3]⟩
        · exact absurd (by rw [e2]) hxt
        · exact Or.inr ⟨by simp [e1], e2, e3⟩
      · rintro (⟨e1, e2⟩ | ⟨e1, e2, e3⟩)
        · simp at e2
          exact Or.inl ⟨Or.inl ⟨e1, hxt⟩, e2.2⟩
        · simp [hxt] at e1
          exact Or.inr ⟨e1, e2, e3⟩
theorem getV_mem {l : List Smp} (h : Rise l) {s : Smp} (hs : s ∈ l) : getV l s.t = (s.k, s.x) := by
  have hh : hasT l s.t = true := hasT_mem.2 ⟨s, hs, rfl⟩
  obtain ⟨y, hy, hyt, hv⟩ := getV_hit h hh
  rw [hv, h.inj (List.mem_of_getElem? hy) hs hyt]
theorem chgL_getV (nv : Int → Nat × Int) {l : List Smp} (h : Rise l) (K : List Int) (t : Int) (ht : t ∉ K) : getV (chgL nv l K) t = getV l t := by
  cases hh : hasT l t with
  | false => rw [getV_miss hh, getV_miss (by rw [chgL_has nv h]; exact hh)]
  | true =>
    obtain ⟨y, hy, hyt⟩ := hasT_mem.1 hh
    subst hyt
    rw [getV_mem h hy, getV_mem (chgL_rise nv h K) ((chgL_mem nv h K y).2 (Or.inl ⟨hy, ht⟩))]
/-- the samples of times that were not there. -/
def frL (nv : Int → Nat × Int) (l : List Smp) (K : List Int) : List Smp := (K.filter (fun t => !hasT l t)).map (fun t => ⟨t, (nv t).1, (nv t).2⟩)
/-- what became of a time. -/
structure Dlt where
  t : Int
  had : Bool
  ok : Nat
  ox : Int
  nk : Nat
  nx : Int
def dlt (nv : Int → Nat × Int) (l : List Smp) (t : Int) : Dlt := ⟨t, hasT l t, (getV l t).1, (getV l t).2, (nv t).1, (nv t).2⟩
def isD (nv : Int → Nat × Int) (l : List Smp) (t : Int) : Bool := !hasT l t || decide (getV l t ≠ nv t)
def dlL (nv : Int → Nat × Int) (l : List Smp) (K : List Int) : List Dlt := (K.filter (isD nv l)).map (dlt nv l)
theorem frL_snoc (nv : Int → Nat × Int) (l : List Smp) (K : List Int) (t : Int) : frL nv l (K ++ [t]) = frL nv l K ++ (if hasT l t = true then [] else [⟨t, (nv t).1, (nv t).2⟩]) := by
  unfold frL
  rw [List.filter_append, List.map_append]
  congr 1
  cases h : hasT l t <;> simp [h]
theorem dlL_snoc (nv : Int → Nat × Int) (l : List Smp) (K : List Int) (t : Int) : dlL nv l (K ++ [t]) = dlL nv l K ++ (if isD nv l t = true then [dlt nv l t] else []) := by
  unfold dlL
  rw [List.filter_append, List.map_append]
  congr 1
  cases h : isD nv l t <;> simp [h]
theorem frL_rise (nv : Int → Nat × Int) (l : List Smp) {K : List Int} (h : K.Pairwise (· < ·)) : Rise (frL nv l K) := by
  unfold frL Rise
  rw [List.pairwise_map]
  exact List.Pairwise.sublist List.filter_sublist h
theorem frL_mem (nv : Int → Nat × Int) (l : List Smp) (K : List Int) (x : Smp) : x ∈ frL nv l K ↔ x.t ∈ K ∧ hasT l x.t = false ∧ x = ⟨x.t, (nv x.t).1, (nv x.t).2⟩ := by
  unfold frL
  rw [List.mem_map]
  constructor
  · rintro ⟨t, ht, rfl⟩
    rw [List.mem_filter] at ht
    exact ⟨ht.1, by simpa using ht.2, rfl⟩
  · rintro ⟨h1, h2, h3⟩
    exact ⟨x.t, List.mem_filter.2 ⟨h1, by simp [h2]⟩, h3.symm⟩
/-- what lies there behind a Load. -/
def loadL (nv : Int → Nat × Int) (l : List Smp) (K : List Int) : List Smp := layL (chgL nv l K) (frL nv l K)
theorem loadL_mem (nv : Int → Nat × Int) {l : List Smp} (h : Rise l) (K : List Int) (x : Smp) : x ∈ loadL nv l K ↔ (x ∈ l ∧ x.t ∉ K) ∨ (x.t ∈ K ∧ x = ⟨x.t, (nv x.t).1, (nv x.t).2⟩) := by
  unfold loadL layL
  rw [layR_mem]
  simp only [List.take_length, List.mem_reverse, List.not_mem_nil, or_false]
  rw [chgL_mem nv h, frL_mem]
  constructor
  · rintro ((e | ⟨e1, _, e3⟩) | ⟨e1, _, e3⟩)
    · exact Or.inl e
    · exact Or.inr ⟨e1, e3⟩
    · exact Or.inr ⟨e1, e3⟩
  · rintro (e | ⟨e1, e3⟩)
    · exact Or.inl (Or.inl e)
    · cases hh : hasT l x.t with
      | true => exact Or.inl (Or.inr ⟨e1, rfl, e3⟩)
      | false => exact Or.inr ⟨e1, rfl, e3⟩
theorem loadL_rise (nv : Int → Nat × Int) {l : List Smp} (h : Rise l) {K : List Int} (hK : K.Pairwise (· < ·)) : Rise (loadL nv l K) := by
  unfold loadL layL
  refine layR_rise _ _ _ _ ?_ (by simp) ?_ ?_
  · rw [List.take_length, List.append_nil]; exact chgL_rise nv h K
  · rw [List.pairwise_reverse]; exact frL_rise nv l hK
  · intro s hs y hy e
    rw [List.mem_reverse, frL_mem] at hs
    have : hasT (chgL nv l K) s.t = true := hasT_mem.2 ⟨y, hy, e⟩
    rw [chgL_has nv h, hs.2.1] at this
    cases this
end Go.Proofs.Ytlcppkemiogbeaa.Ser
