
import Derived.Test.YticgapplpfaigaaGreatSrI
namespace Go.Proofs.YticgapplpfaigaaGreat
open Go.RowKit
set_option linter.unusedVariables false
set_option linter.unusedSimpArgs false
set_option maxRecDepth 100000 in
set_option maxHeartbeats 4000000 in
/-- what must be whatever is asked. -/
theorem live_any (w : World) : Calls Tryz.prog 4 #[] w fun e w' => e = .returned (.bool true) ∧ Below w.heap.size w w' := by
  have h1 : Hid _ := new_any w
  have l1 : putL [] ⟨10, 0, 1⟩ = [⟨10, 0, 1⟩] := by decide
  have l2 : putL [⟨10, 0, 1⟩] ⟨10, 0, 2⟩ = [⟨10, 0, 2⟩] := by decide
  have h2 : Hid (∀ N B v W, SS N B v [] W → Calls Tryz.prog 18 #[.pointer (some ⟨N, 0, none⟩), .int .i64 10, .agg #[.int .u8 0, .int .i64 1]] W fun e w' => e = .returned (.tuple #[.agg #[.int .u8 0, .int .i64 0], .bool false]) ∧ ∃ v', SS N B v' [⟨10, 0, 1⟩] w' ∧ SFr N v v' W w') := fun N B v W hW => by
    have := put_any N B v [] W hW ⟨10, 0, 1⟩ (by unfold Smp.ok; simp) (by simp)
    rw [l1] at this
    exact this
  have h3 : Hid (∀ N B v W, SS N B v [⟨10, 0, 1⟩] W → Calls Tryz.prog 18 #[.pointer (some ⟨N, 0, none⟩), .int .i64 10, .agg #[.int .u8 0, .int .i64 2]] W fun e w' => e = .returned (.tuple #[.agg #[.int .u8 0, .int .i64 1], .bool true]) ∧ ∃ v', SS N B v' [⟨10, 0, 2⟩] w' ∧ SFr N v v' W w') := fun N B v W hW => by
    have := put_any N B v [⟨10, 0, 1⟩] W hW ⟨10, 0, 2⟩ (by unfold Smp.ok; simp) (by simp)
    rw [l2] at this
    exact this
  have h4 : Hid (∀ N B v W, SS N B v [⟨10, 0, 2⟩] W → Calls Tryz.prog 19 #[.pointer (some ⟨N, 0, none⟩), .int .i64 10] W fun e w' => e = .returned (.tuple #[.agg #[.int .u8 0, .int .i64 2], .bool true]) ∧ Below W.heap.size W w') := fun N B v W hW => get_any N B v [⟨10, 0, 2⟩] 10 W hW
  have h5 : Hid (∀ N B v W, SS N B v [⟨10, 0, 2⟩] W → Calls Tryz.prog 20 #[.pointer (some ⟨N, 0, none⟩)] W fun e w' => e = .returned (.int .i64 1) ∧ w' = W) := fun N B v W hW => len_any N B v [⟨10, 0, 2⟩] W hW
  clear l1 l2
  go_enter Tryz.func4, Tryz.ntmps4
  go_wp2_with fail
  refine Calls.mono h1.out ?_
  rintro e w1 ⟨rfl, hS1, hB1⟩
  go_wp2_with fail
  refine Calls.mono (h2.out _ _ _ _ hS1) ?_
  rintro e w2 ⟨rfl, v2, hS2, hF2⟩
  have hB2 := hB1.trans (hF2.below hS1)
  clear hS1 hF2
  go_wp2_with fail
  refine Calls.mono (h3.out _ _ _ _ (hS2.alloc _)) ?_
  rintro e w3 ⟨rfl, v3, hS3, hF3⟩
  have hB3 := (below_new hB2 (.cells #[.int .u8 0, .int .i64 0] 61)).trans (hF3.below (hS2.alloc _))
  clear hS2 hF3 hB2
  go_wp2_with fail
  refine Calls.mono (h4.out _ _ _ _ (hS3.alloc _)) ?_
  rintro e w4 ⟨rfl, hB4⟩
  obtain ⟨r0, r1, q0, q1, hz⟩ := res_cells hB4
  have hB34 := alloc_below hB4
  have hS4 := hS3.below hB34
  have hB4' := hB3.trans (hB34.mono hB3.size)
  clear hS3 hB3 hB4 hB34
  go_wp2_with fail
  refine Calls.mono (h5.out _ _ _ _ (hS4.alloc _)) ?_
  rintro e w5 ⟨rfl, rfl⟩
  go_wp2_with fail
  go_ret
  exact ⟨rfl, below_new hB4' _⟩
/-- a step. -/
structure Stp where
  k : Int
  t : Int
  u : Int
  vk : Nat
  vx : Int
  la : Option Addr
  lc : Nat
  ls : List Smp
def Stp.smp (s : Stp) : Smp := ⟨s.t, s.vk, s.vx⟩
def Stp.ok (s : Stp) : Prop := (-9223372036854775808 ≤ s.t ∧ s.t ≤ 9223372036854775807) ∧ (-9223372036854775808 ≤ s.u ∧ s.u ≤ 9223372036854775807) ∧ s.vk < 256 ∧ -9223372036854775808 ≤ s.vx ∧ s.vx ≤ 9223372036854775807
/-- steps in memory. -/
def StIn (w : World) (a : Option Addr) (n : Nat) (st : Nat → Stp) : Prop := n ≤ 2199023255552 ∧ (∀ i, i < n → (st i).ok) ∧ (n = 0 ∨ ∃ b off, a = some ⟨b, off, none⟩ ∧ b < w.heap.size ∧ ∀ i, i < n → w.cell? ⟨b, off + i * 6, none⟩ = some (.int .i64 (st i).k) ∧ w.cell? ⟨b, off + i * 6 + 1, none⟩ = some (.int .i64 (st i).t) ∧ w.cell? ⟨b, off + i * 6 + 2, none⟩ = some (.int .i64 (st i).u) ∧ w.cell? ⟨b, off + i * 6 + 3, none⟩ = some (.int .u8 ((st i).vk : Int)) ∧ w.cell? ⟨b, off + i * 6 + 4, none⟩ = some (.int .i64 (st i).vx) ∧ w.cell? ⟨b, off + i * 6 + 5, none⟩ = some (.slice (st i).la (st i).ls.length (st i).lc))
theorem below_drewN {B : Nat} {w w' : World} (h : Below B w w') (k : Nat) : Below B w (w'.drewN k) := ⟨h.os, h.tape, h.output, h.size, h.block⟩
theorem StIn.cells {w wr : World} {a : Option Addr} {n : Nat} {st : Nat → Stp} (h : StIn w a n st) (hB : Below w.heap.size w wr) {k : Nat} (hk : k < n) : ∃ b off, a = some ⟨b, off, none⟩ ∧ b < w.heap.size ∧ wr.cell? ⟨b, off + k * 6, none⟩ = some (.int .i64 (st k).k) ∧ wr.cell? ⟨b, off + k * 6 + 1, none⟩ = some (.int .i64 (st k).t) ∧ wr.cell? ⟨b, off + k * 6 + 2, none⟩ = some (.int .i64 (st k).u) ∧ wr.cell? ⟨b, off + k * 6 + 3, none⟩ = some (.int .u8 ((st k).vk : Int)) ∧ wr.cell? ⟨b, off + k * 6 + 4, none⟩ = some (.int .i64 (st k).vx) ∧ wr.cell? ⟨b, off + k * 6 + 5, none⟩ = some (.slice (st k).la (st k).ls.length (st k).lc) := by
  rcases h.2.2 with h0 | ⟨b, off, e, hb, hc⟩
  · omega
  · obtain ⟨c0, c1, c2, c3, c4, c5⟩ := hc k hk
    refine ⟨b, off, e, hb, ?_, ?_, ?_, ?_, ?_, ?_⟩
    · rw [hB.cell (p := ⟨b, off + k * 6, none⟩) hb]; exact c0
    · rw [hB.cell (p := ⟨b, off + k * 6 + 1, none⟩) hb]; exact c1
    · rw [hB.cell (p := ⟨b, off + k * 6 + 2, none⟩) hb]; exact c2
    · rw [hB.cell (p := ⟨b, off + k * 6 + 3, none⟩) hb]; exact c3
    · rw [hB.cell (p := ⟨b, off + k * 6 + 4, none⟩) hb]; exact c4
    · rw [hB.cell (p := ⟨b, off + k * 6 + 5, none⟩) hb]; exact c5
/-- what lies there behind steps of puts, cuts and deletions. -/
def runS (st : Nat → Stp) : Nat → List Smp
  | 0 => []
  | i + 1 => if (st i).k = 0 then putL (runS st i) (st i).smp else if (st i).k = 1 then cutL (runS st i) (st i).t else if (st i).k = 2 then delL (runS st i) (st i).t (st i).u else runS st i
theorem cutL_sub (l : List Smp) (t : Int) : (cutL l t).Sublist l := by
  unfold cutL
  split
  · exact cut_sub l _ _ (by omega)
  · exact List.Sublist.refl _
theorem delL_sub (l : List Smp) (f t : Int) : (delL l f t).Sublist l := cut_sub l _ _ (Nat.le_max_left _ _)
theorem putL_rise {l : List Smp} (h : Rise l) (s : Smp) : Rise (putL l s) := by
  unfold putL
  split
  · rename_i hh
    obtain ⟨y, hy, ht⟩ := (hasT_iff h s.t).1 hh
    have := h.set hy s.k s.x
    rw [ht] at this; exact this
  · rename_i hh
    have hf : hasT l s.t = false := by simpa using hh
    refine layR_rise l _ _ _ ?_ (by simp) (by simp) ?_
    · rw [List.take_length, List.append_nil]; exact h
    · intro x hx y hy
      simp at hx; subst hx
      exact hasT_false hf y hy
theorem runS_rise (st : Nat → Stp) : ∀ i, Rise (runS st i)
  | 0 => List.Pairwise.nil
  | i + 1 => by
    unfold runS
    split
    · exact putL_rise (runS_rise st i) _
    · split
      · exact List.Pairwise.sublist (cutL_sub _ _) (runS_rise st i)
      · split
        · exact List.Pairwise.sublist (delL_sub _ _ _) (runS_rise st i)
        · exact runS_rise st i
theorem runS_len (st : Nat → Stp) : ∀ i, (runS st i).length ≤ i
  | 0 => by simp [runS]
  | i + 1 => by
    have ih := runS_len st i
    unfold runS
    split
    · have := putL_len (l := runS st i) (st i).smp; omega
    · split
      · have := (cutL_sub (runS st i) (st i).t).length_le; omega
      · split
        · have := (delL_sub (runS st i) (st i).t (st i).u).length_le; omega
        · omega
/-- takes a time away. -/
def Stp.rem (s : Stp) (t : Int) : Prop := (s.k = 1 ∧ s.t = t) ∨ (s.k = 2 ∧ s.t ≤ t ∧ t < s.u)
theorem runS_mem (st : Nat → Stp) : ∀ m x, x ∈ runS st m ↔ ∃ i, i < m ∧ (st i).k = 0 ∧ x = (st i).smp ∧ ∀ k, i < k → k < m → ¬ ((st k).k = 0 ∧ (st k).t = x.t) ∧ ¬ (st k).rem x.t
  | 0, x => by simp [runS]
  | m + 1, x => by
    have ih := runS_mem st m x
    have hr := runS_rise st m
    -- x was there, and the step leaves it
    have key : (x ∈ runS st m ∧ ¬ ((st m).k = 0 ∧ (st m).t = x.t) ∧ ¬ (st m).rem x.t) ↔ ∃ i, i < m ∧ (st i).k = 0 ∧ x = (st i).smp ∧ ∀ k, i < k → k < m + 1 → ¬ ((st k).k = 0 ∧ (st k).t = x.t) ∧ ¬ (st k).rem x.t := by
      rw [ih]
      constructor
      · rintro ⟨⟨i, h1, h2, h3, h4⟩, h5⟩
        refine ⟨i, h1, h2, h3, fun k hk hk2 => ?_⟩
        rcases Nat.lt_or_ge k m with h | h
        · exact h4 k hk h
        · obtain rfl : k = m := by omega
          exact h5
      · rintro ⟨i, h1, h2, h3, h4⟩
        exact ⟨⟨i, h1, h2, h3, fun k hk hk2 => h4 k hk (by omega)⟩, h4 m h1 (by omega)⟩
    have split' : (∃ i, i < m + 1 ∧ (st i).k = 0 ∧ x = (st i).smp ∧ ∀ k, i < k → k < m + 1 → ¬ ((st k).k = 0 ∧ (st k).t = x.t) ∧ ¬ (st k).rem x.t) ↔ ((st m).k = 0 ∧ x = (st m).smp) ∨ (x ∈ runS st m ∧ ¬ ((st m).k = 0 ∧ (st m).t = x.t) ∧ ¬ (st m).rem x.t) := by
      rw [key]
      constructor
      · rintro ⟨i, h1, h2, h3, h4⟩
        rcases Nat.lt_or_ge i m with h | h
        · exact Or.inr ⟨i, h, h2, h3, h4⟩
        · obtain rfl : i = m := by omega
          exact Or.inl ⟨h2, h3⟩
      · rintro (⟨h1, h2⟩ | ⟨i, h1, h2, h3, h4⟩)
        · exact ⟨m, by omega, h1, h2, fun k hk hk2 => by omega⟩
        · exact ⟨i, by omega, h2, h3, h4⟩
    rw [split', show runS st (m + 1) = (if (st m).k = 0 then putL (runS st m) (st m).smp else if (st m).k = 1 then cutL (runS st m) (st m).t else if (st m).k = 2 then delL (runS st m) (st m).t (st m).u else runS st m) from rfl]
    split
    · rename_i h0
      rw [putL_mem hr]
      have hs : (st m).smp.t = (st m).t := rfl
      have hrem : ¬ (st m).rem x.t := by unfold Stp.rem; omega
      constructor
      · rintro (h | ⟨h, hne⟩)
        · exact Or.inl ⟨h0, h⟩
        · exact Or.inr ⟨h, fun hh => hne (by rw [hs]; exact hh.2.symm), hrem⟩
      · rintro (⟨_, h⟩ | ⟨h, hne, _⟩)
        · exact Or.inl h
        · exact Or.inr ⟨h, fun e => hne ⟨h0, by rw [hs] at e; exact e.symm⟩⟩
    · rename_i h0
      split
      · rename_i h1
        rw [cutL_mem hr]
        have hrem : (st m).rem x.t ↔ (st m).t = x.t := by unfold Stp.rem; omega
        rw [hrem]
        constructor
        · rintro ⟨h, hne⟩; exact Or.inr ⟨h, fun hh => h0 hh.1, fun e => hne e.symm⟩
        · rintro (⟨h, _⟩ | ⟨h, _, hne⟩)
          · exact absurd h h0
          · exact ⟨h, fun e => hne e.symm⟩
      · rename_i h1
        split
        · rename_i h2
          rw [delL_mem hr]
          have hrem : (st m).rem x.t ↔ ((st m).t ≤ x.t ∧ x.t < (st m).u) := by unfold Stp.rem; omega
          rw [hrem]
          constructor
          · rintro ⟨h, hne⟩; exact Or.inr ⟨h, fun hh => h0 hh.1, hne⟩
          · rintro (⟨h, _⟩ | ⟨h, _, hne⟩)
            · exact absurd h h0
            · exact ⟨h, hne⟩
        · rename_i h2
          have hrem : ¬ (st m).rem x.t := by unfold Stp.rem; omega
          constructor
          · intro h; exact Or.inr ⟨h, fun hh => h0 hh.1, hrem⟩
          · rintro (⟨h, _⟩ | ⟨h, _, _⟩)
            · exact absurd h h0
            · exact h
/-- no put of its time behind it. -/
def lastTo (st : Nat → Stp) (i : Nat) (m : Nat) : Prop := ∀ k, i < k → k < m → ¬ ((st k).k = 0 ∧ (st k).t = (st i).t)
def goneTo (st : Nat → Stp) (i : Nat) (m : Nat) : Prop := ∃ k, i < k ∧ k < m ∧ (st k).rem (st i).t
theorem last_has (st : Nat → Stp) (n i : Nat) (hi : i < n) (h0 : (st i).k = 0) (hl : lastTo st i n) : (hasT (runS st n) (st i).t = true ↔ ¬ goneTo st i n) ∧ (hasT (runS st n) (st i).t = true → getV (runS st n) (st i).t = ((st i).vk, (st i).vx)) := by
  have hr := runS_rise st n
  have only : ∀ x, x ∈ runS st n → x.t = (st i).t → x = (st i).smp ∧ ¬ goneTo st i n := by
    intro x hx hxt
    obtain ⟨j, h1, h2, h3, h4⟩ := (runS_mem st n x).1 hx
    have hjt : (st j).t = x.t := by rw [h3]; rfl
    rcases Nat.lt_trichotomy j i with h | h | h
    · exact absurd ⟨h0, hxt.symm⟩ (h4 i h hi).1
    · subst h
      refine ⟨h3, ?_⟩
      rintro ⟨k, k1, k2, k3⟩
      exact (h4 k k1 k2).2 (by rw [hxt]; exact k3)
    · exact absurd ⟨h2, by omega⟩ (hl j h h1)
  refine ⟨⟨fun hh => ?_, fun hg => ?_⟩, fun hh => ?_⟩
  · obtain ⟨y, hy, hyt⟩ := hasT_mem.1 hh
    exact (only y hy hyt).2
  · refine hasT_mem.2 ⟨(st i).smp, (runS_mem st n _).2 ⟨i, hi, h0, rfl, fun k hk hk2 => ⟨hl k hk hk2, fun hr => hg ⟨k, hk, hk2, hr⟩⟩⟩, rfl⟩
  · obtain ⟨y, hy, hyt, hv⟩ := getV_hit hr hh
    rw [hv, (only y (List.mem_of_getElem? hy) hyt).1]; rfl
open Classical in
/-- how many of the first puts are the last ones of their times, and are there. -/
noncomputable def cntS (st : Nat → Stp) (n : Nat) : Nat → Nat
  | 0 => 0
  | i + 1 => cntS st n i + (if (st i).k = 0 ∧ lastTo st i n ∧ hasT (runS st n) (st i).t = true then 1 else 0)
open Classical in
theorem cntS_eq (st : Nat → Stp) (n : Nat) : ∀ i, cntS st n i = ((List.range i).filter (fun i => decide ((st i).k = 0 ∧ lastTo st i n ∧ hasT (runS st n) (st i).t = true))).length
  | 0 => by simp [cntS]
  | i + 1 => by
    rw [cntS, cntS_eq st n i, List.range_succ, List.filter_append, List.length_append]
    congr 1
    split
    · rename_i h; simp [h]
    · rename_i h; simp [h]
theorem cntS_hit (st : Nat → Stp) (n i : Nat) (h : (st i).k = 0 ∧ lastTo st i n ∧ hasT (runS st n) (st i).t = true) : cntS st n (i + 1) = cntS st n i + 1 := by
  rw [cntS, if_pos h]
theorem cntS_miss (st : Nat → Stp) (n i : Nat) (h : ¬ ((st i).k = 0 ∧ lastTo st i n ∧ hasT (runS st n) (st i).t = true)) : cntS st n (i + 1) = cntS st n i := by
  rw [cntS, if_neg h]; rfl
theorem cntS_le (st : Nat → Stp) (n : Nat) : ∀ i, cntS st n i ≤ i
  | 0 => by simp [cntS]
  | i + 1 => by
    have := cntS_le st n i
    unfold cntS
    split <;> omega
open Classical in
theorem cntS_len (st : Nat → Stp) (n : Nat) : (runS st n).length = cntS st n n := by
  have hr := runS_rise st n
  rw [cntS_eq]
  have e : ((List.range n).filter (fun i => decide ((st i).k = 0 ∧ lastTo st i n ∧ hasT (runS st n) (st i).t = true))).length = (((List.range n).filter (fun i => decide ((st i).k = 0 ∧ lastTo st i n ∧ hasT (runS st n) (st i).t = true))).map (fun i => (st i).smp)).length := by simp
  rw [e]
  refine List.Perm.length_eq ((List.perm_ext_iff_of_nodup ?_ ?_).2 ?_)
  · refine List.Pairwise.imp (fun {a b} h => ?_) hr
    intro e; subst e; omega
  · rw [List.Nodup, List.pairwise_map]
    have hnd : ((List.range n).filter (fun i => decide ((st i).k = 0 ∧ lastTo st i n ∧ hasT (runS st n) (st i).t = true))).Pairwise (· < ·) := List.Pairwise.sublist List.filter_sublist List.pairwise_lt_range
    rw [List.pairwise_iff_forall_sublist] at hnd ⊢
    intro a b hab e
    have hlt := hnd hab
    have ha := hab.subset (by simp : a ∈ [a, b])
    have hb := hab.subset (by simp : b ∈ [a, b])
    simp only [List.mem_filter, List.mem_range, decide_eq_true_iff] at ha hb
    exact ha.2.2.1 b hlt hb.1 ⟨hb.2.1, (congrArg Smp.t e).symm⟩
  · intro x
    rw [runS_mem, List.mem_map]
    constructor
    · rintro ⟨i, h1, h2, h3, h4⟩
      have hl : lastTo st i n := fun k hk hk2 hh => (h4 k hk hk2).1 ⟨hh.1, by rw [h3]; exact hh.2⟩
      refine ⟨i, ?_, h3.symm⟩
      simp only [List.mem_filter, List.mem_range, decide_eq_true_iff]
      exact ⟨h1, h2, hl, (last_has st n i h1 h2 hl).1.2 (fun ⟨k, k1, k2, k3⟩ => (h4 k k1 k2).2 (by rw [h3]; exact k3))⟩
    · rintro ⟨i, hi, rfl⟩
      simp only [List.mem_filter, List.mem_range, decide_eq_true_iff] at hi
      obtain ⟨h1, h2, h3, h4⟩ := hi
      have hg := (last_has st n i h1 h2 h3).1.1 h4
      exact ⟨i, h1, h2, rfl, fun k hk hk2 => ⟨h3 k hk hk2, fun hr => hg ⟨k, hk, hk2, hr⟩⟩⟩
end Go.Proofs.YticgapplpfaigaaGreat
