
import Derived.Test.YtdfnomglkibfbaaGreatDoorVgG
import Derived.Lib.SlicesCompact
import Derived.Test.YtdfnomglkibfbaaGreatDoorVgF
import Derived.RangeFuncFrom
import Derived.RangeFuncKeeps
import Derived.RangeFuncNested
import Derived.RangeFuncCalls
import Derived.RangeFuncLeaves
import Derived.RangeFuncBound
import Derived.Shelf.AbstractIn
import Derived.Maps.AppendAt
import Derived.OwnWalkIn
import Derived.RangeFuncBox
import Derived.BigFrameIn
import Derived.BigFrame
import Derived.Shelf.SortM.Plain
import Derived.Shelf.SortM.SortNone
import Derived.Ground.SlgmProg
import Derived.Test.YtdfnomglkibfbaaGreatDoorProg
import Derived.Sort.OwnSorted
namespace Go.Proofs.YtdfnomglkibfbaaGreatDoor.Vf
open Go.Lib
set_option linter.unusedVariables false
/-! ### plain: sorted and made compact it is as long as it was just if no name stands twice -/
theorem srt (ss : List (List UInt8)) : (ss.mergeSort (fun x y => decide (x ≤ y))).Pairwise (fun x y => x ≤ y) := by
  have := List.pairwise_mergeSort (le := fun x y : List UInt8 => decide (x ≤ y)) (fun a b c h1 h2 => by
    have h1' : a ≤ b := by simpa using h1
    have h2' : b ≤ c := by simpa using h2
    simpa using List.le_trans h1' h2') (fun a b => by simpa using List.le_total a b) ss
  exact this.imp (fun h => by simpa using h)
theorem get_bang {α : Type} [Inhabited α] (l : List α) (j : Nat) (h : j < l.length) : l.toArray[j]! = l[j] := by simp [h]
theorem compact_len (zs : List (List UInt8)) : (compact zs).length = zs.length ↔ ∀ j, j < zs.length → keeps zs.toArray j = true := by
  unfold compact compactUpTo
  rw [List.length_map]
  constructor
  · intro h j hj
    have h2 : ((List.range zs.length).filter (keeps zs.toArray)).length = (List.range zs.length).length := by rw [h, List.length_range]
    have h3 := List.length_filter_eq_length_iff.1 h2
    exact h3 j (List.mem_range.2 hj)
  · intro h
    rw [List.filter_eq_self.2 (fun j hj => h j (List.mem_range.1 hj)), List.length_range]
theorem compact_nodup (zs : List (List UInt8)) (hs : zs.Pairwise (fun x y => x ≤ y)) : (compact zs).length = zs.length ↔ zs.Nodup := by
  rw [compact_len]
  rw [List.pairwise_iff_getElem] at hs
  constructor
  · intro h
    unfold List.Nodup
    rw [List.pairwise_iff_getElem]
    intro i j hi hj hij e
    have h1 := h (i + 1) (by omega)
    unfold keeps at h1
    have h2 := of_decide_eq_true h1
    rcases h2 with h2 | h2
    · omega
    · apply h2
      rw [show i + 1 - 1 = i by omega, get_bang zs (i + 1) (by omega), get_bang zs i hi]
      have a1 : zs[i] ≤ zs[i+1] := hs i (i+1) hi (by omega) (by omega)
      have a2 : zs[i+1] ≤ zs[j] := by
        rcases Nat.lt_or_ge (i + 1) j with c | c
        · exact hs (i+1) j (by omega) hj c
        · have : i + 1 = j := by omega
          subst this; exact List.le_refl _
      rw [← e] at a2
      exact List.le_antisymm a2 a1
  · intro h j hj
    unfold keeps
    apply decide_eq_true
    rcases Nat.eq_zero_or_pos j with e | e
    · exact Or.inl e
    · right
      rw [get_bang zs j hj, get_bang zs (j - 1) (by omega)]
      unfold List.Nodup at h
      rw [List.pairwise_iff_getElem] at h
      exact fun q => h (j - 1) j (by omega) hj (by omega) q.symm
theorem distinct_is (ss : List (List UInt8)) : (compact (ss.mergeSort (fun x y => decide (x ≤ y)))).length = ss.length ↔ ss.Nodup := by
  have hp := List.mergeSort_perm ss (fun x y => decide (x ≤ y))
  have h := compact_nodup _ (srt ss)
  rw [hp.length_eq] at h
  exact h.trans hp.nodup_iff
end Go.Proofs.YtdfnomglkibfbaaGreatDoor.Vf

namespace Go.Proofs.YtdfnomglkibfbaaGreatDoor.Vf
open Go.RowKit Go.Shelf
attribute [local go_sem] Oper.semAt_some
set_option linter.unusedVariables false
set_option linter.unusedSimpArgs false
/-- what lay below a bound stays. -/
def KeepN (N : Nat) (W W' : World) : Prop := W.heap.size ≤ W'.heap.size ∧ ∀ k, k < N → W'.heap[k]? = W.heap[k]?
set_option maxHeartbeats 8000000 in
set_option maxRecDepth 100000 in
theorem values_stops (n : Nat) (hn : 3 ≤ n) (Bn : Nat) (l : List ByteArray) (a : Option Addr) (c : Nat) (w : World) (hl : l.length ≤ 4611686018427387903) (hBn : Bn < w.heap.size) (hc : w.cell? ⟨Bn, 0, none⟩ = some (.slice a l.length c)) (hS : StIn w a l) :
    SeqStopsK Fence.wide n Tryz.prog 141 #[.pointer (some ⟨Bn, 0, none⟩)] (fun x : ByteArray => #[.string x]) (KeepN w.heap.size) (fun xs => xs = l) (fun pre => pre <+: l) l.length w := fun lp J Jx W hW hJ hJx hY h0 => by
  have hcW : W.cell? ⟨Bn, 0, none⟩ = some (.slice a l.length c) := by rw [hW.cell (p := ⟨Bn, 0, none⟩) hBn]; exact hc
  have hSH : Hid (∀ W', KeepN w.heap.size W W' → StIn W' a l) := fun W' hk => by
    have hS2 := hS.below hW (Nat.le_refl _)
    rcases hS with h | ⟨b, off, h1, h2, h3⟩
    · exact Or.inl h
    · refine Or.inr ⟨b, off, h1, Nat.lt_of_lt_of_le (Nat.lt_of_lt_of_le h2 hW.size) hk.1, fun i t ht => ?_⟩
      rw [World.cell?_of_block (w := W) (hk.2 b h2), hW.cell (p := ⟨b, off + i, none⟩) h2]
      exact h3 i t ht
  obtain ⟨m, hm⟩ : ∃ m, l.length = m := ⟨_, rfl⟩
  have hmH : Hid (l.length = m) := hm
  rw [hm] at hcW hl hY
  clear hc hS hm
  refine callsIn_of_wp Tryz.func141 rfl trivial ?_ rfl
  simp only [Tryz.ntmps141, List.size_toArray, List.length_cons, List.length_nil, Nat.reduceAdd, Nat.reduceSub, Array.replicate_succ, Array.replicate_zero, List.push_toArray, List.append_toArray, List.nil_append, List.cons_append]
  gi_wp2
  gi_loopw [7] (fun p wr => ∃ k : Nat, p = .int .i64 (k : Int) ∧ k ≤ m ∧ Hid (KeepN w.heap.size W wr) ∧ J (l.take k) wr) (fun p _ => m - (intOf p).toNat)
  case atStart => exact ⟨0, rfl, by omega, ⟨Nat.le_refl _, fun _ _ => rfl⟩, h0⟩
  case round =>
    obtain ⟨k, rfl, hk, hkp, hJs⟩ := hrel
    have k0 : (0 : Int) ≤ (k : Int) := by omega
    by_cases hlt : k < m
    · have hltI : (k : Int) < (m : Int) := by omega
      have kw : IntKind.i64.wrap ((k : Int) + 1) = ((k + 1 : Nat) : Int) := IntWalk.i64_in _ (by omega)
      obtain ⟨b, off, x, ex, ea, gl, cx⟩ := (hSH.out wr hkp.out).at (k := k) (by rw [hmH.out]; exact hlt)
      subst ea
      have tk : Hid (l.take (k + 1) = l.take k ++ [x]) := hid (by rw [List.take_add_one, ex]; rfl)
      obtain ⟨fn, tmps, assign, body, hy, hR⟩ := hY (l.take k) x wr hJs (by rw [List.length_take]; omega)
      clear ex
      gi_wp2
      refine ⟨fun _ => by omega, hR.mono ?_⟩
      rintro e W3 (⟨rfl, hJ3, hk3⟩ | ⟨rfl, hJx3⟩)
      · have kp3 : Hid (KeepN w.heap.size W W3) := ⟨Nat.le_trans hkp.out.1 hk3.1, fun j hj => (hk3.2 j hj).trans (hkp.out.2 j hj)⟩
        rw [← tk.out] at hJ3
        gi_wp2
        go_roundw
        case rel => exact ⟨k + 1, by first | rfl | (rw [kw]) | simp, by omega, kp3, hJ3⟩
        case measure => first | (simp only [intOf]; omega) | (simp [intOf]; omega)
      · gi_wp2
        refine bodyPost_ret (results_none rfl _ _ _) rfl ?_
        exact ⟨⟨_, rfl⟩, .inr ⟨l.take k ++ [x], by rw [← tk.out]; exact List.take_prefix _ _, hJx3⟩⟩
    · have hltI : ¬ (k : Int) < (m : Int) := by omega
      have hJl : J l wr := by rw [List.take_of_length_le (by rw [hmH.out]; omega)] at hJs; exact hJs
      gi_wp2
      go_end0
      exact ⟨⟨_, rfl⟩, .inl (by first | exact hJl | exact ⟨l, rfl, hJl⟩)⟩
end Go.Proofs.YtdfnomglkibfbaaGreatDoor.Vf

namespace Go.Proofs.YtdfnomglkibfbaaGreatDoor.Vf
open Go.RowKit Go.Shelf
attribute [local go_sem] Oper.semAt_some
set_option linter.unusedVariables false
set_option linter.unusedSimpArgs false
/-- while names come: the box holds a row of one's own with those that have come. -/
def ApI (w : World) (pre : List ByteArray) (W : World) : Prop := ∃ v, W.heap[w.heap.size]? = some (.cells #[v] 22 (0, 0)) ∧ W.ownsRow w.heap.size 9 1 v pre.length (pre.map Value.string) ∧ Below w.heap.size w W
theorem ownsRow_far {W W' : World} {base : Nat} {e : TypeId} {v : Value} {k : Nat} {xs : List Value} {row : Option Nat} (h : W.ownsRow base e 1 v k xs) (hg : W.grownBy W' row) (hr : ∀ r, row = some r → ∃ o : Obj, W.heap[r]? = some o ∧ ∀ cur, o ≠ .cells cur e (0, 0)) : W'.ownsRow base e 1 v k xs := by
  refine ⟨h.1, ?_⟩
  rcases h.2 with hn | ⟨g, cap, cur, hv, hbg, hgg, rest⟩
  · exact .inl hn
  · refine .inr ⟨g, cap, cur, hv, hbg, ?_, rest⟩
    rw [hg.block g (Array.getElem?_eq_some_iff.1 hgg).1 (fun e1 => by obtain ⟨o, ho, hc⟩ := hr g e1.symm; rw [hgg] at ho; cases ho; exact hc _ rfl)]
    exact hgg
theorem ty_ne : (22 : Nat) ≠ 9 := by decide
theorem apI_own (w : World) (B : Nat) (hB : w.heap.size ≤ B) : OwnFrom B (ApI w) := fun q W W' row hs' hg hr => by
  obtain ⟨v, h1, h2, h3⟩ := hs'
  have hg' := hg
  obtain ⟨g1, g2, g3, g4, g5⟩ := hg
  refine ⟨v, ?_, ownsRow_far h2 hg' (fun r e => by obtain ⟨_, o, ho, hc⟩ := hr r e; exact ⟨o, ho, fun cur e2 => by rw [e2] at hc; cases hc⟩), h3.trans ⟨g1, g2, g3, g4, fun k hk => g5 k (by have := h3.size; omega) (fun e => by have := (hr k e.symm).1; omega)⟩⟩
  rw [g5 _ (Array.getElem?_eq_some_iff.1 h1).1 (fun e => by obtain ⟨_, o, ho, hc⟩ := hr _ e.symm; rw [h1] at ho; cases ho; cases hc)]
  exact h1
theorem str_info : (Tryz.prog.info? 9).map (fun i => (i.zero, i.bytes, i.size)) = some (some (.string ⟨#[]⟩), 16, 1) := by kernel_rfl
set_option maxHeartbeats 8000000 in
set_option maxRecDepth 100000 in
theorem appendSeq_any (l : List ByteArray) (a : Option Addr) (c : Nat) (Bn : Nat) (w : World) (hl : l.length ≤ 65536) (hBn : Bn < w.heap.size) (hc : w.cell? ⟨Bn, 0, none⟩ = some (.slice a l.length c)) (hS : StIn w a l) :
    Calls Tryz.prog 146 #[.slice none 0 0, .func (.func 141) #[] #[.pointer (some ⟨Bn, 0, none⟩)]] w fun e w' => ∃ v, e = .returned v ∧ w'.ownsRow w.heap.size 9 1 v l.length (l.map Value.string) ∧ Below w.heap.size w w' := by
  refine (callsIn_wide (n := 9)).1 ?_
  refine callsIn_of_wp_marks Tryz.func146 rfl trivial ?_ rfl
  simp only [Tryz.ntmps146, List.size_toArray, List.length_cons, List.length_nil, Nat.reduceAdd, Nat.reduceSub, Array.replicate_succ, Array.replicate_zero, List.push_toArray, List.append_toArray, List.nil_append, List.cons_append]
  gi_wp2
  generalize hw1 : w.alloc _ = w1
  have hB1 : Below w.heap.size w w1 := by rw [← hw1]; exact (Below.refl _ w).alloc (Nat.le_refl _) _
  have hs1 : w1.heap.size = w.heap.size + 1 := by rw [← hw1]; simp
  have hb1 : w1.heap[w.heap.size]? = some (.cells #[.slice none 0 0] 22 (0, 0)) := by rw [← hw1]; exact World.alloc_heap_new w _
  have I0 : ApI w [] w1 := ⟨_, hb1, ⟨rfl, .inl ⟨rfl, rfl⟩⟩, hB1⟩
  clear hw1
  refine wpIn_rangeFunc_ownF rfl (by omega) (gf := 141) (lb := #[.pointer (some ⟨Bn, 0, none⟩)]) rfl trivial (enters_of Tryz.func141 (by kernel_rfl) rfl)
    (values_stops 8 (by omega) Bn l a c w (by omega) hBn hc hS) (fun h k => ⟨Nat.le_trans h.1 k.1, fun j hj => (k.2 j hj).trans (h.2 j hj)⟩)
    (fun W l o o' hl hlo _ _ => ⟨by simp, fun j hj => World.putObj_heap_other (by omega)⟩) hB1 (fun _ => rfl)
    (ApI w)
    (fun _ _ _ => False)
    (apI_own w _ (by omega))
    (fun _ _ _ _ _ hs' _ _ => hs'.elim)
    I0
    (fun x => { tmps := #[.slice none 0 0, .func (.func 141) #[] #[.pointer (some ⟨Bn, 0, none⟩)], .pointer (some ⟨w.heap.size, 0, none⟩), undef, .slice none 0 0, .string x, .func (.func 141) #[] #[.pointer (some ⟨Bn, 0, none⟩)], .string x, undef, undef, undef, undef, undef], defers := [] }) ?assign ?body ?done ?stop
  case assign =>
    intro l x W K hK
    gi_wp2
    exact hK
  case body =>
    rintro lp pre x W ⟨v, hv, hrow, hB⟩ hpl
    obtain ⟨i0, hi, hi0⟩ := Option.map_eq_some_iff.1 str_info
    have hz0 : i0.zero = some (.string ⟨#[]⟩) := congrArg (·.1) hi0
    have hz1 : i0.bytes = 16 := congrArg (·.2.1) hi0
    have hz2 : i0.size = 1 := congrArg (·.2.2) hi0
    have hc2 : W.cell? ⟨w.heap.size, 0, none⟩ = some v := by rw [cell_of_row _ w.heap.size 0 _ 22 (0, 0) hv]; rfl
    have hlt : w.heap.size < W.heap.size := (Array.getElem?_eq_some_iff.1 hv).1
    have hne : some w.heap.size ≠ v.ownBlock := by
      rcases hrow.2 with ⟨rfl, _⟩ | ⟨g, cap, cur, rfl, _, hgg, _⟩
      · simp [Value.ownBlock]
      · simp only [Value.ownBlock]
        intro e
        injection e with e
        rw [← e, hv] at hgg
        injection hgg with hgg
        injection hgg with _ h2 _
        exact ty_ne h2
    have mL : maxLen = 9223372036854775807 := by decide
    gi_wp2_with (first
      | (gi_at_builtin; refine wpListIn_append_own _ rfl _ _ 22 rfl w.heap.size 9 i0 (.string ⟨#[]⟩) 1 16 Tryz.underlying22 hi hz0 hz2 hz1 rfl (by decide) _ _ _ rfl (hrow.alloc _) ⟨W.heap.size, 0, none⟩ 1 1 [.string x] rfl rfl (cell_one_new _ _ _) (by simp [Value.oneCell']) (by omega) (by omega) (by have := hB.size; simp; omega) ?_; intro v' w3 hown' hg3 hnil3
         have hv3 : w3.heap[w.heap.size]? = some (.cells #[v] 22 (0, 0)) := (hg3.block _ (by simp; omega) hne).trans ((Below.heap_alloc _ _ _ hlt).trans hv)
         have hc3 : w3.cell? ⟨w.heap.size, 0, none⟩ = some v := by rw [cell_of_row _ w.heap.size 0 _ 22 (0, 0) hv3]; rfl
         have hf3 : w3.frozen? ⟨w.heap.size, 0, none⟩ = false := frozen_of_row _ w.heap.size 0 _ 22 hv3
         obtain ⟨g', cap', cur', rfl, hbase', hgb', hr'⟩ : ∃ g' cap' cur', v' = .slice (some ⟨g', 0, none⟩) (pre.length + 1) cap' ∧ w.heap.size ≤ g' ∧ w3.heap[g']? = some (.cells cur' 9 (0, 0)) ∧ True := by
           rcases hown'.2 with ⟨_, h0⟩ | ⟨g', cap', cur', q1, q2, q3, _⟩
           · exact absurd h0 (by omega)
           · exact ⟨g', cap', cur', q1, q2, q3, trivial⟩))
    have gA : W.grownBy (W.alloc (.cells #[.string x] 9)) none := World.grownBy_alloc W _ none
    have hg3' : (W.alloc (.cells #[.string x] 9)).grownBy w3 v.ownBlock := hg3
    have hg4 : w3.grownBy (w3.setCell ⟨w.heap.size, 0, none⟩ (.slice (some ⟨g', 0, none⟩) (pre.length + 1) cap')) (some w.heap.size) := grownBy_setCell' _ _ _
    have hown4 := ownsRow_far hown' hg4 (fun r e => by cases e; exact ⟨_, hv3, fun cur e2 => by injection e2 with _ h2 _; exact ty_ne h2⟩)
    have hv4 : (w3.setCell ⟨w.heap.size, 0, none⟩ (.slice (some ⟨g', 0, none⟩) (pre.length + 1) cap')).heap[w.heap.size]? = some (.cells #[.slice (some ⟨g', 0, none⟩) (pre.length + 1) cap'] 22 (0, 0)) := by
      rw [heap_setCell_same w3 w.heap.size 0 _ _ _ hv3]; rfl
    have hb3 : Below w.heap.size w w3 := (hB.alloc hB.size _).grown hg3' (by have := hB.size; simp; omega) (fun k e => (hrow.lt k e).1)
    have hb4 := hb3.grown hg4 hb3.size (fun k e => by cases e; exact Nat.le_refl _)
    generalize w3.setCell ⟨w.heap.size, 0, none⟩ (.slice (some ⟨g', 0, none⟩) (pre.length + 1) cap') = w4 at *
    refine ⟨⟨Nat.le_trans (by simp) (Nat.le_trans hg3'.size hg4.size), fun k o hk ho => ?_⟩, ⟨Nat.le_trans (by simp) (Nat.le_trans hg3'.size hg4.size), fun k hk => ?_⟩, ⟨_, hv4, by simpa using hown4, hb4⟩⟩
    · have hkl : k < W.heap.size := (Array.getElem?_eq_some_iff.1 hk).1
      have k1 : k ≠ w.heap.size := fun e => by rw [e, hv] at hk; cases hk; cases ho
      have k2 : some k ≠ v.ownBlock := fun e => by
        rcases hrow.2 with ⟨rfl, _⟩ | ⟨g, cap, cur, rfl, _, hgg, _⟩
        · simp [Value.ownBlock] at e
        · simp only [Value.ownBlock] at e
          injection e with e
          rw [e, hgg] at hk; cases hk; cases ho
      rw [hg4.block k (by have := hg3'.size; simp at this; omega) (fun e => by injection e with e; exact k1 e), hg3'.block k (by simp; omega) k2, Below.heap_alloc _ _ k hkl]
      exact hk
    · exact (hb4.block k hk).trans (hB.block k hk).symm
  case done =>
    rintro D ys W hD rfl ⟨v, hv, hrow, hB⟩ hK
    have hc2 : W.cell? ⟨w.heap.size, 0, none⟩ = some v := by rw [cell_of_row _ w.heap.size 0 _ 22 (0, 0) hv]; rfl
    gi_wp2
    refine ⟨by simp, .inl ⟨_, _, rfl, run_takeDeferred hK, ?_⟩⟩
    refine ⟨_, results_tmp rfl _ _ _, v, rfl, ?_, hB.trans (belowK_b (w := w) (Nat.le_refl _) W D _ _ (by omega) hK rfl rfl)⟩
    refine ownsRow_far hrow (row := some D) ⟨rfl, rfl, rfl, by simp, fun i hi hne => World.putObj_heap_other (fun e => hne (by rw [e]))⟩ (fun r e => by cases e; exact ⟨_, hK, fun cur e2 => by cases e2⟩)
  case stop =>
    rintro D c pre W _ _ h _
    exact h.elim
theorem collect_any (l : List ByteArray) (a : Option Addr) (c : Nat) (Bn : Nat) (w : World) (hl : l.length ≤ 65536) (hBn : Bn < w.heap.size) (hc : w.cell? ⟨Bn, 0, none⟩ = some (.slice a l.length c)) (hS : StIn w a l) :
    Calls Tryz.prog 139 #[.func (.func 141) #[] #[.pointer (some ⟨Bn, 0, none⟩)]] w fun e w' => ∃ v, e = .returned v ∧ w'.ownsRow w.heap.size 9 1 v l.length (l.map Value.string) ∧ Below w.heap.size w w' := by
  have C : Hid (Calls Tryz.prog 146 #[.slice none 0 0, .func (.func 141) #[] #[.pointer (some ⟨Bn, 0, none⟩)]] w fun e w' => ∃ v, e = .returned v ∧ w'.ownsRow w.heap.size 9 1 v l.length (l.map Value.string) ∧ Below w.heap.size w w') := appendSeq_any l a c Bn w hl hBn hc hS
  clear hc hS
  go_enter Tryz.func139, Tryz.ntmps139
  go_wp2_with fail
  with_reducible refine Calls.mono C.out ?_
  rintro e w2 ⟨v, rfl, hr, hb⟩
  go_wp2_with fail
  go_ret
  exact ⟨v, rfl, hr, hb⟩
end Go.Proofs.YtdfnomglkibfbaaGreatDoor.Vf

namespace Go.Proofs
open Go.Shelf
def Tryz.sortS_ren : Go.Shelf.Ren := ⟨fun | 6 => 140 | 8 => 148 | 9 => 147 | 19 => 159 | 20 => 160 | 21 => 150 | 22 => 151 | 23 => 152 | 24 => 153 | 25 => 154 | 26 => 155 | 27 => 156 | 28 => 157 | 29 => 158 | 36 => 161 | 31 => 162 | 32 => 163 | 37 => 164 | 38 => 165 | 39 => 166 | 41 => 167 | n => n, fun | 27 => 22 | 29 => 9 | 3 => 3 | 32 => 283 | 26 => 22 | 0 => 0 | 44 => 298 | 46 => 152 | 4 => 4 | 36 => 291 | 35 => 290 | 41 => 253 | 5 => 5 | 9 => 9 | 53 => 300 | 57 => 304 | 63 => 306 | 64 => 109 | n => n, fun | n => n⟩
theorem Tryz.sortS : Go.Proofs.SlLaysM.n6 Tryz.prog Tryz.sortS_ren := {
  mixed := by kernel_rfl
  f6 := ⟨Tryz.f140.name, by decide, Tryz.func140.trans (congrArg some (by kernel_rfl))⟩
  f8 := Tryz.func148.trans (congrArg some (by kernel_rfl))
  f9 := ⟨Tryz.f147.name, by decide, Tryz.func147.trans (congrArg some (by kernel_rfl))⟩
  f19 := Tryz.func159.trans (congrArg some (by kernel_rfl))
  f20 := Tryz.func160.trans (congrArg some (by kernel_rfl))
  f21 := ⟨Tryz.f150.name, by decide, Tryz.func150.trans (congrArg some (by kernel_rfl))⟩
  f22 := ⟨Tryz.f151.name, by decide, Tryz.func151.trans (congrArg some (by kernel_rfl))⟩
  f23 := ⟨Tryz.f152.name, by decide, Tryz.func152.trans (congrArg some (by kernel_rfl))⟩
  f24 := ⟨Tryz.f153.name, by decide, Tryz.func153.trans (congrArg some (by kernel_rfl))⟩
  f25 := ⟨Tryz.f154.name, by decide, Tryz.func154.trans (congrArg some (by kernel_rfl))⟩
  f26 := ⟨Tryz.f155.name, by decide, Tryz.func155.trans (congrArg some (by kernel_rfl))⟩
  f27 := ⟨Tryz.f156.name, by decide, Tryz.func156.trans (congrArg some (by kernel_rfl))⟩
  f28 := ⟨Tryz.f157.name, by decide, Tryz.func157.trans (congrArg some (by kernel_rfl))⟩
  f29 := ⟨Tryz.f158.name, by decide, Tryz.func158.trans (congrArg some (by kernel_rfl))⟩
  f31 := Tryz.func162.trans (congrArg some (by kernel_rfl))
  f32 := Tryz.func163.trans (congrArg some (by kernel_rfl))
  f36 := ⟨Tryz.f161.name, by decide, Tryz.func161.trans (congrArg some (by kernel_rfl))⟩
  f37 := ⟨Tryz.f164.name, by decide, Tryz.func164.trans (congrArg some (by kernel_rfl))⟩
  f38 := ⟨Tryz.f165.name, by decide, Tryz.func165.trans (congrArg some (by kernel_rfl))⟩
  f39 := ⟨Tryz.f166.name, by decide, Tryz.func166.trans (congrArg some (by kernel_rfl))⟩
  f41 := ⟨Tryz.f167.name, by decide, Tryz.func167.trans (congrArg some (by kernel_rfl))⟩
  t0 := Tryz.underlying0
  a0 := Tryz.isAgg0
  z0 := Tryz.sizeOf0
  v0 := Tryz.zeroValue0
  t3 := Tryz.underlying3
  a3 := Tryz.isAgg3
  z3 := Tryz.sizeOf3
  v3 := Tryz.zeroValue3
  t4 := Tryz.underlying4
  a4 := Tryz.isAgg4
  z4 := Tryz.sizeOf4
  v4 := Tryz.zeroValue4
  t5 := Tryz.underlying5
  a5 := Tryz.isAgg5
  z5 := Tryz.sizeOf5
  v5 := Tryz.zeroValue5
  t9 := Tryz.underlying9
  a9 := Tryz.isAgg9
  z9 := Tryz.sizeOf9
  v9 := Tryz.zeroValue9
  t26 := Tryz.underlying22
  a26 := Tryz.isAgg22
  z26 := Tryz.sizeOf22
  v26 := Tryz.zeroValue22
  t27 := Tryz.underlying22
  a27 := Tryz.isAgg22
  z27 := Tryz.sizeOf22
  v27 := Tryz.zeroValue22
  t29 := Tryz.underlying9
  a29 := Tryz.isAgg9
  z29 := Tryz.sizeOf9
  v29 := Tryz.zeroValue9
  t32 := Tryz.underlying283
  a32 := Tryz.isAgg283
  z32 := Tryz.sizeOf283
  v32 := Tryz.zeroValue283
  t35 := Tryz.underlying290
  a35 := Tryz.isAgg290
  z35 := Tryz.sizeOf290
  v35 := Tryz.zeroValue290
  t36 := Tryz.underlying291
  a36 := Tryz.isAgg291
  z36 := Tryz.sizeOf291
  v36 := Tryz.zeroValue291
  t41 := Tryz.underlying253
  a41 := Tryz.isAgg253
  z41 := Tryz.sizeOf253
  v41 := Tryz.zeroValue253
  t44 := Tryz.underlying298
  a44 := Tryz.isAgg298
  z44 := Tryz.sizeOf298
  v44 := Tryz.zeroValue298
  t46 := Tryz.underlying152
  a46 := Tryz.isAgg152
  z46 := Tryz.sizeOf152
  v46 := Tryz.zeroValue152
  t53 := Tryz.underlying300
  a53 := Tryz.isAgg300
  z53 := Tryz.sizeOf300
  v53 := Tryz.zeroValue300
  t57 := Tryz.underlying304
  a57 := Tryz.isAgg304
  z57 := Tryz.sizeOf304
  v57 := Tryz.zeroValue304
  t63 := Tryz.underlying306
  a63 := Tryz.isAgg306
  z63 := Tryz.sizeOf306
  v63 := Tryz.zeroValue306
  t64 := Tryz.underlying109
  a64 := Tryz.isAgg109
  z64 := Tryz.sizeOf109
  v64 := Tryz.zeroValue109 }
end Go.Proofs

namespace Go.Proofs.YtdfnomglkibfbaaGreatDoor.Vf
open Go.RowKit Go.Shelf Go.Sort
set_option linter.unusedVariables false
set_option linter.unusedSimpArgs false
set_option maxRecDepth 100000
def bsL (l : List ByteArray) : List (List UInt8) := l.map (fun s => s.data.toList)
theorem bs_str (l : List ByteArray) : (bsL l).map encStr = l.map Value.string := by
  unfold bsL
  rw [List.map_map]
  apply List.map_congr_left
  intro s hs
  rfl
theorem bs_nodup (l : List ByteArray) : (bsL l).Nodup ↔ l.Nodup := by
  unfold bsL List.Nodup
  rw [List.pairwise_map]
  constructor
  · intro h
    exact h.imp (fun q e => q (by rw [e]))
  · intro h
    exact h.imp (fun q e => q (ByteArray.ext (Array.toList_inj.1 e)))
/-- slices.Sorted of names. -/
theorem sorted_any (l : List ByteArray) (hne : 0 < l.length) (a : Option Addr) (c : Nat) (Bn : Nat) (w : World) (hl : l.length ≤ 65536) (hBn : Bn < w.heap.size) (hc : w.cell? ⟨Bn, 0, none⟩ = some (.slice a l.length c)) (hS : StIn w a l) :
    Calls Tryz.prog 126 #[.func (.func 141) #[] #[.pointer (some ⟨Bn, 0, none⟩)]] w fun e w' => ∃ g cap, e = .returned (.slice (some ⟨g, 0, none⟩) l.length cap) ∧ l.length ≤ cap ∧ w.heap.size ≤ g ∧ g < w'.heap.size ∧ Holds encStr w' g 0 ((bsL l).mergeSort (fun x y => decide (x ≤ y))).toArray ∧ Below w.heap.size w w' := by
  have C : Hid (Calls Tryz.prog 139 #[.func (.func 141) #[] #[.pointer (some ⟨Bn, 0, none⟩)]] w fun e w' => ∃ v, e = .returned v ∧ w'.ownsRow w.heap.size 9 1 v l.length (l.map Value.string) ∧ Below w.heap.size w w') := collect_any l a c Bn w hl hBn hc hS
  clear hc hS
  go_enter Tryz.func126, Tryz.ntmps126
  go_wp2_with fail
  with_reducible refine Calls.mono C.out ?_
  rintro e W ⟨v, rfl, hrow, hb⟩
  rcases hrow.2 with ⟨rfl, hz⟩ | ⟨gb, cap, cur, rfl, hbase, hgb, r1, r2, r3, r4⟩
  · omega
  · have el : (bsL l).length = l.length := by unfold bsL; simp
    have hH : Holds encStr W gb 0 (bsL l).toArray := holds_of_block hgb (by rw [bs_str, el]; simpa using r4)
    have hgl : gb < W.heap.size := (Array.getElem?_eq_some_iff.1 hgb).1
    have cS0 := AnyM.slices_Sort_string Tryz.sortS gb 0 cap (bsL l) W hH hgl (by rw [el]; omega)
    rw [el] at cS0
    have cS : Hid (Calls Tryz.prog 140 #[.slice (some ⟨gb, 0, none⟩) l.length cap] W fun e w' => e = .returned (.tuple #[]) ∧ ∃ n os, w' = grow (putRow encStr (Sort.ahead W n) gb 0 ((bsL l).mergeSort fun x y => decide (x ≤ y)).toArray) os) := cS0
    clear cS0
    go_wp2_with fail
    with_reducible refine Calls.mono cS.out ?_
    rintro e w' ⟨rfl, nn, os, rfl⟩
    go_wp2_with fail
    go_ret
    refine ⟨gb, cap, rfl, r1, hbase, ?_, ?_, hb.grown (grownBy_sorted _) hb.size (fun j hj => by cases hj; exact hbase)⟩
    · exact Nat.lt_of_lt_of_le hgl (grownBy_sorted (w := W) (g := gb) (n := nn) (os := os) _).size
    · refine holds_grow encStr _ os gb 0 _ ?_ (holds_putRow encStr (Sort.ahead W nn) gb 0 (bsL l).toArray _ (holds_ahead encStr W nn gb 0 _ hH) (by simp))
      have := (grownBy_sorted (w := W) (g := gb) (n := nn) (os := #[]) ((bsL l).mergeSort fun x y => decide (x ≤ y)).toArray).size
      rw [grow_empty] at this
      omega
/-- verify.distinct of some names. -/
theorem distinct_any (l : List ByteArray) (hne : 0 < l.length) (a : Option Addr) (c : Nat) (w : World) (hl : l.length ≤ 65536) (hS : StIn w a l) : Calls Tryz.prog 99 #[.slice a l.length c] w fun e w' => e = .returned (.bool (nodB l l.length)) ∧ Below w.heap.size w w' := by
  have el : (bsL l).length = l.length := by unfold bsL; simp
  obtain ⟨w1, hw1⟩ : ∃ w1, w1 = w.alloc (.cells #[.slice a l.length c] 22) := ⟨_, rfl⟩
  have hb1 : Below w.heap.size w w1 := by rw [hw1]; exact (Below.refl _ w).alloc (Nat.le_refl _) _
  have hs1 : w1.heap.size = w.heap.size + 1 := by rw [hw1]; simp
  have hc1 : w1.cell? ⟨w.heap.size, 0, none⟩ = some (.slice a l.length c) := by rw [hw1]; simp [go_sem]
  have cV : Hid (Calls Tryz.prog 127 #[.slice a l.length c] w fun e w' => e = .returned (.func (.func 141) #[] #[.pointer (some ⟨w.heap.size, 0, none⟩)]) ∧ w' = w1) := by
    show Calls _ _ _ _ _
    go_enter Tryz.func127, Tryz.ntmps127
    go_wp2
    go_ret
    exact ⟨rfl, hw1.symm⟩
  have cS : Hid (Calls Tryz.prog 126 #[.func (.func 141) #[] #[.pointer (some ⟨w.heap.size, 0, none⟩)]] w1 fun e w' => ∃ g cap, e = .returned (.slice (some ⟨g, 0, none⟩) l.length cap) ∧ l.length ≤ cap ∧ w1.heap.size ≤ g ∧ g < w'.heap.size ∧ Holds encStr w' g 0 ((bsL l).mergeSort (fun x y => decide (x ≤ y))).toArray ∧ Below w1.heap.size w1 w') := sorted_any l hne a c w.heap.size w1 hl (by omega) hc1 (hS.below hb1 (Nat.le_refl _))
  have RES : Hid (nodB l l.length = decide (((Lib.compact ((bsL l).mergeSort (fun x y => decide (x ≤ y)))).length : Int) = (l.length : Int))) := hid (by
    rw [Bool.eq_iff_iff, nod_is, ← bs_nodup, ← distinct_is, el, decide_eq_true_iff]
    exact ⟨fun h => by rw [h], fun h => by omega⟩)
  generalize nodB l l.length = r at *
  have em : ((bsL l).mergeSort (fun x y => decide (x ≤ y))).length = l.length := by rw [List.length_mergeSort, el]
  have emH : Hid (((bsL l).mergeSort (fun x y => decide (x ≤ y))).length = l.length) := em
  have hb1H : Hid (Below w.heap.size w w1) := hb1
  clear em el hS hw1 hc1 hb1
  generalize (bsL l).mergeSort (fun x y => decide (x ≤ y)) = zs at *
  generalize l.length = n at *
  go_enter Tryz.func99, Tryz.ntmps99
  go_wp2_with fail
  with_reducible refine Calls.mono cV.out ?_
  rintro e w' ⟨rfl, rfl⟩
  go_wp2_with fail
  with_reducible refine Calls.mono cS.out ?_
  rintro e w2 ⟨g, cap, rfl, q1, q2, q3, q4, q5⟩
  have cC0 := Tryz.slices_Compact_string g 0 cap zs w2 q4 (by rw [emH.out]; omega) (by rw [emH.out]; exact q1)
  rw [emH.out] at cC0
  have hb2 : Hid (∀ q, Below w.heap.size w (putRow encStr (Sort.ahead w2 q) g 0 (Lib.compact zs ++ List.replicate (n - (Lib.compact zs).length) []).toArray)) := hid (fun q => by
    have h1 := grownBy_sorted (w := w2) (g := g) (n := q) (os := #[]) (Lib.compact zs ++ List.replicate (n - (Lib.compact zs).length) []).toArray
    rw [grow_empty] at h1
    have h2 : Below w.heap.size w w2 := hb1H.out.trans (q5.mono hb1H.out.size)
    exact h2.grown h1 h2.size (fun k e => by cases e; have := hb1H.out.size; omega))
  generalize (Lib.compact zs).length = m at *
  have cC : Hid (Calls Tryz.prog 125 #[.slice (some ⟨g, 0, none⟩) n cap] w2 fun e w' => e = .returned (.slice (some ⟨g, 0, none⟩) m cap) ∧ ∃ q, w' = putRow encStr (Sort.ahead w2 q) g 0 (Lib.compact zs ++ List.replicate (n - m) []).toArray) := cC0
  clear cC0 q4
  go_wp2_with fail
  with_reducible refine Calls.mono cC.out ?_
  rintro e w3 ⟨rfl, q, rfl⟩
  go_wp2_with fail
  go_ret
  exact ⟨by rw [RES.out]; rfl, hb2.out q⟩
end Go.Proofs.YtdfnomglkibfbaaGreatDoor.Vf

namespace Go.Proofs.YtdfnomglkibfbaaGreatDoor.Vf
open Go.RowKit
set_option linter.unusedVariables false
set_option linter.unusedSimpArgs false
set_option maxRecDepth 100000
theorem clo_lst (s : List ByteArray) (sx : Option Addr) (sc : Nat) (hs : s.length ≤ 1152921504606846976) (bx : Nat) (w : World) (hT : UT w) (hS : StIn w sx s) (hb : w.cell? ⟨bx, 0, none⟩ = some (.func (.func 102) #[] #[])) : Calls Tryz.prog 130 #[.slice sx s.length sc, .pointer (some ⟨bx, 0, none⟩)] w fun e w' => e = .returned (.bool (!listB s)) ∧ Below w.heap.size w w' := by
  have c : Hid (Calls Tryz.prog 102 #[.slice sx s.length sc] w fun e w' => e = .returned (.bool (listB s)) ∧ Below w.heap.size w w') := list_any s sx sc hs w hT hS
  generalize listB s = v at c ⊢
  clear hT hS hs
  generalize s.length = sn at *
  go_enter Tryz.func130, Tryz.ntmps130
  go_wp2_with (go_at_call 102; with_reducible refine Calls.mono c.out ?_; rintro e w' ⟨rfl, hb⟩)
  go_ret
  exact ⟨rfl, hb⟩
set_option maxHeartbeats 2000000 in
theorem idx_lst (l : List (List ByteArray)) (a : Option Addr) (c : Nat) (hn : l.length ≤ 1152921504606846976) (bx : Nat) (w : World) (hT : UT w) (h : LsIn w a l) (hbl : bx < w.heap.size) (hb : w.cell? ⟨bx, 0, none⟩ = some (.func (.func 102) #[] #[])) : Calls Tryz.prog 142 #[.slice a l.length c, .func (.func 130) #[] #[.pointer (some ⟨bx, 0, none⟩)]] w fun e w' => (∃ r : Int, e = .returned (.int .i64 r) ∧ decide (0 ≤ r) = !(l.all listB)) ∧ Below w.heap.size w w' := by
  have hH : Hid (LsIn w a l ∧ UT w ∧ bx < w.heap.size ∧ w.cell? ⟨bx, 0, none⟩ = some (.func (.func 102) #[] #[])) := ⟨h, hT, hbl, hb⟩
  clear h hT hbl hb
  go_enter Tryz.func142, Tryz.ntmps142
  go_wp2_with fail
  go_loopw [8] (fun v8 wr => ∃ k : Nat, v8 = .int .i64 (k : Int) ∧ k ≤ l.length ∧ Hid ((l.take k).all listB = true) ∧ Hid (Below w.heap.size w wr)) (fun v8 _ => l.length - (intOf v8).toNat)
  case atStart => exact ⟨0, rfl, Nat.zero_le _, rfl, Below.refl _ _⟩
  case round =>
    obtain ⟨k, rfl, hkl, hp, hB⟩ := hrel
    by_cases hk : k < l.length
    · obtain ⟨hS, hT, hbl, hbc⟩ := hH.out
      have hS2 := hS.below hB.out (Nat.le_refl _)
      obtain ⟨g, off, s, sx, sc, es, stl, rfl, gl, cs, sst⟩ := hS2.at hk
      have hT2 : UT wr := hT.below hB.out (Nat.le_refl _)
      have hb2 : wr.cell? ⟨bx, 0, none⟩ = some (.func (.func 102) #[] #[]) := by rw [hB.out.cell (p := ⟨bx, 0, none⟩) hbl]; exact hbc
      have kI : (k : Int) < (l.length : Int) := by omega
      have k0 : (0 : Int) ≤ (k : Int) := by omega
      have kw : IntKind.i64.wrap ((k : Int) + 1) = ((k + 1 : Nat) : Int) := IntWalk.i64_in _ (by omega)
      obtain ⟨x, hx⟩ : ∃ x, listB s = x := ⟨_, rfl⟩
      have cW : Hid (Calls Tryz.prog 130 #[.slice sx s.length sc, .pointer (some ⟨bx, 0, none⟩)] wr fun e w' => e = .returned (.bool (!x)) ∧ Below w.heap.size w w') := by
        rw [← hx]
        exact (clo_lst s sx sc stl bx wr hT2 sst hb2).mono fun e w' ⟨h1, h2⟩ => ⟨h1, hB.out.trans (h2.mono hB.out.size)⟩
      clear sst stl
      cases x with
      | false =>
        have fin0 : l.all listB = false := all_false es hx
        have fin : Hid (l.all listB = false) := fin0
        clear hS hS2 hT hT2 hbl hbc hb2 hH hp hB hx es fin0
        generalize s.length = sn at *
        simp only [Bool.not_false] at cW
        go_wp2_with (go_at_call 130; with_reducible refine Calls.mono cW.out ?_; rintro e w2 ⟨rfl, bw⟩)
        go_ret
        exact ⟨⟨(k : Int), rfl, by rw [fin.out]; simp⟩, bw⟩
      | true =>
        have NX0 : (l.take (k + 1)).all listB = true := all_take hp.out es hx
        have NX : Hid ((l.take (k + 1)).all listB = true) := NX0
        clear hS hS2 hT hT2 hbl hbc hb2 hH hp hB hx es NX0
        generalize s.length = sn at *
        simp only [Bool.not_true] at cW
        go_wp2_with (go_at_call 130; with_reducible refine Calls.mono cW.out ?_; rintro e w2 ⟨rfl, bw⟩)
        exact ⟨⟨k + 1, by first | rfl | (rw [kw]), hk, NX, bw⟩, by first | (simp [intOf]; done) | (simp [intOf]; omega)⟩
    · have kI : ¬ (k : Int) < (l.length : Int) := by omega
      have fin : Hid (l.all listB = true) := by
        have := hp.out
        rw [List.take_of_length_le (by omega)] at this
        exact this
      clear hH hp
      go_wp2_with fail
      go_ret
      exact ⟨⟨-1, rfl, by rw [fin.out]; rfl⟩, hB.out⟩
theorem con_lst (l : List (List ByteArray)) (a : Option Addr) (c : Nat) (hn : l.length ≤ 1152921504606846976) (bx : Nat) (w : World) (hT : UT w) (h : LsIn w a l) (hbl : bx < w.heap.size) (hb : w.cell? ⟨bx, 0, none⟩ = some (.func (.func 102) #[] #[])) : Calls Tryz.prog 129 #[.slice a l.length c, .func (.func 130) #[] #[.pointer (some ⟨bx, 0, none⟩)]] w fun e w' => e = .returned (.bool (!(l.all listB))) ∧ Below w.heap.size w w' := by
  have k : Hid (Calls Tryz.prog 142 #[.slice a l.length c, .func (.func 130) #[] #[.pointer (some ⟨bx, 0, none⟩)]] w fun e w' => (∃ r : Int, e = .returned (.int .i64 r) ∧ decide (0 ≤ r) = !(l.all listB)) ∧ Below w.heap.size w w') := idx_lst l a c hn bx w hT h hbl hb
  clear hT h hbl hb hn
  generalize l.all listB = v at k ⊢
  go_enter Tryz.func129, Tryz.ntmps129
  go_wp2_with fail
  refine Calls.mono k.out ?_
  rintro e w' ⟨⟨r, rfl, hr⟩, hb⟩
  have hrH : Hid (decide (0 ≤ r) = !v) := hr
  clear hr
  go_wp2_with fail
  go_ret
  exact ⟨by rw [← hrH.out]; rfl, hb⟩
theorem all_lst (l : List (List ByteArray)) (a : Option Addr) (c : Nat) (hn : l.length ≤ 1152921504606846976) (w : World) (hT : UT w) (h : LsIn w a l) : Calls Tryz.prog 101 #[.slice a l.length c, .func (.func 102) #[] #[]] w fun e w' => e = .returned (.bool (l.all listB)) ∧ Below w.heap.size w w' := by
  have k : Hid (∀ W, W = w.alloc (.cells #[.func (.func 102) #[] #[]] 133) → Calls Tryz.prog 129 #[.slice a l.length c, .func (.func 130) #[] #[.pointer (some ⟨w.heap.size, 0, none⟩)]] W fun e w' => e = .returned (.bool (!(l.all listB))) ∧ Below w.heap.size w w') := fun W hW => by
    subst hW
    have b := (Below.refl w.heap.size w).alloc (Nat.le_refl _) (.cells #[.func (.func 102) #[] #[]] 133)
    exact (con_lst l a c hn w.heap.size _ (hT.below b (Nat.le_refl _)) (h.below b (Nat.le_refl _)) (by simp) (by simp [go_sem])).mono fun e w' ⟨h1, h2⟩ => ⟨h1, b.trans (h2.mono b.size)⟩
  clear hT h hn
  generalize l.all listB = v at k ⊢
  generalize l.length = n at *
  go_enter Tryz.func101, Tryz.ntmps101
  go_wp2_with (go_at_call 129; with_reducible refine Calls.mono (k.out _ rfl) ?_; rintro e w' ⟨rfl, hb⟩)
  go_ret
  exact ⟨by simp, hb⟩
end Go.Proofs.YtdfnomglkibfbaaGreatDoor.Vf

namespace Go.Proofs.YtdfnomglkibfbaaGreatDoor.Vf
open Go.RowKit
set_option linter.unusedVariables false
set_option linter.unusedSimpArgs false
set_option maxRecDepth 100000
theorem make_intE (n : Nat) (h : n ≤ 1048576) (w : World) : (Instr.makeSlice 39 (.int .i64 (n : Int)) (.int .i64 (n : Int))).run Tryz.prog w = .ok (.slice (some ⟨w.heap.size, 0, none⟩) n n) (w.alloc (.cells (madeCells #[.int .i64 0] n) 3)) := by
  have hi : (Tryz.prog.info? 3).map (fun i => (i.zero, i.bytes, i.size)) = some (some (.int .i64 0), 8, 1) := by kernel_rfl
  obtain ⟨i, i1, i0⟩ := Option.map_eq_some_iff.1 hi
  have i2 : i.zero = some (.int .i64 0) := congrArg (·.1) i0
  have i3 : i.bytes = 8 := congrArg (·.2.1) i0
  have i4 : i.size = 1 := congrArg (·.2.2) i0
  have := run_make (P := Tryz.prog) w 39 3 i (.int .i64 0) Tryz.underlying39 i1 i2 .i64 .i64 (n : Int) (n : Int) (by omega) (by omega) (by rw [i3]; omega) (by omega)
  rw [i4] at this
  simpa [Value.cells] using this
def oneAll (F : Nat → Int) (n : Nat) : Bool := (List.range n).all fun a => decide (F a = 1)
theorem oneAll_succ (F : Nat → Int) (n : Nat) : oneAll F (n + 1) = (oneAll F n && decide (F n = 1)) := by
  unfold oneAll
  rw [List.range_succ, List.all_append]
  simp
theorem oneAll_false {F : Nat → Int} {n k : Nat} (hk : k < n) (h : ¬ F k = 1) : oneAll F n = false := by
  unfold oneAll
  rw [List.all_eq_false]
  exact ⟨k, List.mem_range.2 hk, by simpa using h⟩
theorem clo_one (x : Int) (w : World) : Calls Tryz.prog 112 #[.int .i64 x] w fun e w' => e = .returned (.bool (!decide (x = 1))) ∧ w' = w := by
  by_cases h : x = 1
  · have d : decide (x = 1) = true := decide_eq_true h
    rw [d]
    subst h
    go_enter Tryz.func112, Tryz.ntmps112
    go_wp2
    go_ret
    exact ⟨rfl, rfl⟩
  · have d : decide (x = 1) = false := decide_eq_false h
    rw [d]
    go_enter Tryz.func112, Tryz.ntmps112
    go_wp2
    go_ret
    exact ⟨by first | rfl | simp [h], rfl⟩
theorem idx_one (F : Nat → Int) (n cp b : Nat) (hn : n ≤ 1152921504606846976) (w : World) (h : RW w b n (fun k => .int .i64 (F k))) : Calls Tryz.prog 132 #[.slice (some ⟨b, 0, none⟩) n cp, .func (.func 112) #[] #[]] w fun e w' => (∃ r : Int, e = .returned (.int .i64 r) ∧ decide (0 ≤ r) = !(oneAll F n)) ∧ w' = w := by
  have hH : Hid (RW w b n (fun k => .int .i64 (F k))) := h
  clear h
  go_enter Tryz.func132, Tryz.ntmps132
  go_wp2_with fail
  go_loopw [8] (fun v8 wr => wr = w ∧ ∃ k : Nat, v8 = .int .i64 (k : Int) ∧ k ≤ n ∧ Hid (oneAll F k = true)) (fun v8 _ => n - (intOf v8).toNat)
  case atStart => exact ⟨rfl, 0, rfl, Nat.zero_le _, rfl⟩
  case round =>
    obtain ⟨rfl, k, rfl, hkn, hp⟩ := hrel
    have k0 : (0 : Int) ≤ (k : Int) := by omega
    by_cases hk : k < n
    · have kI : (k : Int) < (n : Int) := by omega
      have kw : IntKind.i64.wrap ((k : Int) + 1) = ((k + 1 : Nat) : Int) := IntWalk.i64_in _ (by omega)
      obtain ⟨x1, x2⟩ := hH.out.2 k hk
      dsimp only at x1
      obtain ⟨x, hx⟩ : ∃ x, F k = x := ⟨_, rfl⟩
      rw [hx] at x1
      have cW0 := clo_one x wr
      by_cases h1 : x = 1
      · have NX : Hid (oneAll F (k + 1) = true) := hid (by rw [oneAll_succ, hp.out, hx, h1]; rfl)
        rw [decide_eq_true h1] at cW0
        have cW : Hid (Calls Tryz.prog 112 #[.int .i64 x] wr fun e w' => e = .returned (.bool false) ∧ wr = w') := cW0.mono (fun _ _ h => ⟨h.1, h.2.symm⟩)
        clear hH hp hx cW0 h1
        go_wp2_with (go_at_call 112; with_reducible refine Calls.mono cW.out ?_; rintro e w2 ⟨rfl, rfl⟩)
        exact ⟨⟨by first | trivial | rfl, k + 1, by first | rfl | (rw [kw]), by omega, NX⟩, by first | (simp [intOf]; done) | (simp [intOf]; omega)⟩
      · have fin : Hid (oneAll F n = false) := hid (oneAll_false hk (by rw [hx]; exact h1))
        rw [decide_eq_false h1] at cW0
        have cW : Hid (Calls Tryz.prog 112 #[.int .i64 x] wr fun e w' => e = .returned (.bool true) ∧ wr = w') := cW0.mono (fun _ _ h => ⟨h.1, h.2.symm⟩)
        clear hH hp hx cW0 h1
        go_wp2_with (go_at_call 112; with_reducible refine Calls.mono cW.out ?_; rintro e w2 ⟨rfl, rfl⟩)
        go_ret
        exact ⟨⟨(k : Int), rfl, by rw [fin.out]; simp⟩, rfl⟩
    · have kI : ¬ (k : Int) < (n : Int) := by omega
      have fin : Hid (oneAll F n = true) := by
        have e : k = n := by omega
        rw [← e]; exact hp.out
      clear hH hp
      go_wp2_with fail
      go_ret
      exact ⟨⟨-1, rfl, by rw [fin.out]; rfl⟩, rfl⟩
theorem con_one (F : Nat → Int) (n cp b : Nat) (hn : n ≤ 1152921504606846976) (w : World) (h : RW w b n (fun k => .int .i64 (F k))) : Calls Tryz.prog 111 #[.slice (some ⟨b, 0, none⟩) n cp, .func (.func 112) #[] #[]] w fun e w' => e = .returned (.bool (!(oneAll F n))) ∧ w' = w := by
  have k : Hid (Calls Tryz.prog 132 #[.slice (some ⟨b, 0, none⟩) n cp, .func (.func 112) #[] #[]] w fun e w' => (∃ r : Int, e = .returned (.int .i64 r) ∧ decide (0 ≤ r) = !(oneAll F n)) ∧ w' = w) := idx_one F n cp b hn w h
  clear h hn
  generalize oneAll F n = v at k ⊢
  go_enter Tryz.func111, Tryz.ntmps111
  go_wp2_with fail
  with_reducible refine Calls.mono k.out ?_
  rintro e w' ⟨⟨r, rfl, hr⟩, hb⟩
  have hrH : Hid (decide (0 ≤ r) = !v) := hr
  have hbH : Hid (w' = w) := hb
  clear hr hb
  go_wp2_with fail
  go_ret
  exact ⟨by rw [← hrH.out]; rfl, hbH.out⟩
end Go.Proofs.YtdfnomglkibfbaaGreatDoor.Vf

namespace Go.Proofs.YtdfnomglkibfbaaGreatDoor.Vf
open Go.RowKit
set_option linter.unusedVariables false
set_option linter.unusedSimpArgs false
set_option maxRecDepth 100000
/-- while it is counted. -/
structure ES (w : World) (n : Nat) (F : Nat → Nat) (W : World) : Prop where
  b : Below w.heap.size w W
  t : RW W (w.heap.size + 1) n (fun a => .int .i64 (F a : Int))
  sz : w.heap.size + 2 ≤ W.heap.size
theorem ES.below {w W W' : World} {n : Nat} {F : Nat → Nat} (h : ES w n F W) (hb : Below W.heap.size W W') : ES w n F W' := ⟨h.b.trans (hb.mono h.b.size), h.t.below hb (by have := h.sz; omega), Nat.le_trans h.sz hb.size⟩
theorem ES.set {w W : World} {n a : Nat} {F F' : Nat → Nat} (h : ES w n F W) (ha : a < n) (hF : ∀ k, k < n → F' k = if k = a then F a + 1 else F k) : ES w n F' (W.setCell ⟨w.heap.size + 1, a, none⟩ (.int .i64 ((F a + 1 : Nat) : Int))) :=
  ⟨h.b.setCell (p := ⟨w.heap.size + 1, a, none⟩) (by simp) _, (h.t.set ha _).congr (fun k hk => by
    unfold upG
    dsimp only
    rw [hF k hk]
    by_cases e : k = a
    · rw [if_pos e, if_pos e]
    · rw [if_neg e, if_neg e]), by simpa using h.sz⟩
theorem ES.new (w : World) (p : PrH) (n : Nat) : ES w n (fun _ => 0) ((w.alloc (.cells p.cells 28)).alloc (.cells (madeCells #[.int .i64 0] n) 3)) := by
  have h2 := RW.made (w.alloc (.cells p.cells 28)) n (.int .i64 0) 3
  rw [World.size_alloc] at h2
  exact ⟨((Below.refl _ w).alloc (Nat.le_refl _) _).alloc (by simp) _, h2, by simp⟩
theorem oneAll_emit (l : List InP) (n : Nat) : oneAll (fun a => (cntE l a : Int)) n = emitB n l := by
  unfold oneAll emitB
  congr 1
  funext a
  by_cases h : cntE l a = 1
  · have h2 : (cntE l a : Int) = 1 := by omega
    rw [decide_eq_true h, decide_eq_true h2]
  · have h2 : ¬ (cntE l a : Int) = 1 := by omega
    rw [decide_eq_false h, decide_eq_false h2]
set_option maxHeartbeats 4000000 in
theorem emitsEach_any (p : PrH) (l : List InP) (hl : p.output.n = l.length) (hn : l.length ≤ 1152921504606846976) (hm : p.alias.n ≤ 65536) (hE : ∀ (j : Nat) (t : InP), l[j]? = some t → t.c = 23 → 0 ≤ t.a ∧ t.a < (p.alias.n : Int)) (w : World) (h : InIn w p.output.a l) : Calls Tryz.prog 74 #[p.v] w fun e w' => e = .returned (.bool (emitB p.alias.n l)) ∧ Below w.heap.size w w' := by
  obtain ⟨n, hnn⟩ : ∃ n, p.alias.n = n := ⟨_, rfl⟩
  have hnH : Hid (p.alias.n = n) := hnn
  have hmN : n ≤ 65536 := by omega
  have mk : ∀ W, (Instr.makeSlice 39 (.int .i64 (p.alias.n : Int)) (.int .i64 (p.alias.n : Int))).run Tryz.prog W = .ok (.slice (some ⟨W.heap.size, 0, none⟩) p.alias.n p.alias.n) (W.alloc (.cells (madeCells #[.int .i64 0] p.alias.n) 3)) := fun W => make_intE p.alias.n (by omega) W
  have E0 : Hid (ES w p.alias.n (fun _ => 0) ((w.alloc (.cells p.cells 28)).alloc (.cells (madeCells #[.int .i64 0] p.alias.n) 3))) := ES.new w p p.alias.n
  have hIH : Hid (InIn w p.output.a l) := h
  have hEH : Hid (∀ (j : Nat) (t : InP), l[j]? = some t → t.c = 23 → 0 ≤ t.a ∧ t.a < (n : Int)) := by rw [← hnn]; exact hE
  have hlH : Hid (p.output.n = l.length) := hl
  obtain ⟨V, hV⟩ : ∃ V, emitB p.alias.n l = V := ⟨_, rfl⟩
  have hVH : Hid (emitB n l = V) := by rw [← hnn]; exact hV
  rw [hV]
  clear h hE hl hnn hV
  unfold PrH.cells at E0
  unfold PrH.v
  go_enter Tryz.func74, Tryz.ntmps74
  go_wp2_with fail
  generalize hW : World.alloc (World.alloc w _) _ = W1 at E0 ⊢
  clear hW mk
  rw [hnH.out] at E0 ⊢
  obtain ⟨m, hmm⟩ : ∃ m, p.output.n = m := ⟨_, rfl⟩
  rw [hmm]
  have hml : Hid (l.length = m) := hid (by rw [← hlH.out, hmm])
  have hmn : m ≤ 1152921504606846976 := by rw [← hml.out]; exact hn
  clear hmm hlH hnH hm hn
  generalize p.output.a = oa at *
  go_loopw [13] (fun v13 wr => ∃ k : Nat, v13 = .int .i64 (k : Int) ∧ k ≤ m ∧ Hid (ES w n (fun a => cntE (l.take k) a) wr)) (fun v13 _ => m - (intOf v13).toNat)
  case atStart => exact ⟨0, rfl, Nat.zero_le _, E0⟩
  case round =>
    clear E0
    obtain ⟨k, rfl, hkm, hes⟩ := hrel
    have k0 : (0 : Int) ≤ (k : Int) := by omega
    by_cases hk : k < m
    · have kI : (k : Int) < (m : Int) := by omega
      have kw : IntKind.i64.wrap ((k : Int) + 1) = ((k + 1 : Nat) : Int) := IntWalk.i64_in _ (by omega)
      obtain ⟨g, off, t, et, ea, gl, c1, c2, c3⟩ := (hIH.out.below hes.out.b (Nat.le_refl _)).at (k := k) (by rw [hml.out]; exact hk)
      subst ea
      obtain ⟨tc, ta, tb⟩ := t
      have ct := fun a => cnt_take (a := a) et
      have ctH : Hid (∀ a, cntE (l.take (k + 1)) a = cntE (l.take k) a + if isE a ⟨tc, ta, tb⟩ then 1 else 0) := ct
      by_cases h1 : tc = 23
      · have hr := hEH.out k _ et h1
        simp only at hr
        obtain ⟨a, ha⟩ : ∃ a : Nat, ta = (a : Int) := ⟨ta.toNat, by omega⟩
        subst ha
        have aN : a < n := by omega
        have aI : (a : Int) < (n : Int) := by omega
        have a0 : (0 : Int) ≤ (a : Int) := by omega
        obtain ⟨t1, t2⟩ := hes.out.t.2 a aN
        dsimp only at t1
        have hsz := hes.out.sz
        have bl : w.heap.size + 1 < wr.heap.size := by omega
        have cl : cntE (l.take k) a ≤ 1152921504606846976 := by
          have := cnt_le (l.take k) a
          rw [List.length_take] at this
          omega
        have NX : Hid (ES w n (fun a => cntE (l.take (k + 1)) a) ((wr.setCell ⟨w.heap.size + 1, a, none⟩ (.int .i64 ((cntE (l.take k) a + 1 : Nat) : Int))).alloc (.cells #[.int .u8 23, .int .i64 (a : Int), .int .i64 tb] 59))) := hid (by
          refine ES.below (hes.out.set aN (fun j hj => ?_)) ((Below.refl _ _).alloc (Nat.le_refl _) _)
          rw [ctH.out j]
          by_cases e : j = a
          · subst e; rw [if_pos rfl]; simp [isE, h1]
          · rw [if_neg e]
            have : ¬ (a : Int) = (j : Int) := by omega
            simp [isE, this])
        subst h1
        generalize cntE (l.take k) a = cn at *
        have cw : IntKind.i64.wrap ((cn : Int) + 1) = ((cn + 1 : Nat) : Int) := IntWalk.i64_in _ (by omega)
        clear hes ct ctH et hr hsz hEH hIH
        go_wp2_with fail
        exact ⟨⟨k + 1, by first | rfl | (rw [kw]), by omega, by first | exact NX | (rw [← cw] at NX; exact NX)⟩, by first | (simp [intOf]; done) | (simp [intOf]; omega)⟩
      · have h1i : ¬ (tc : Int) = 23 := by omega
        have hd : decide ((tc : Int) = 23) = false := decide_eq_false h1i
        have NX : Hid (ES w n (fun a => cntE (l.take (k + 1)) a) (wr.alloc (.cells #[.int .u8 (tc : Int), .int .i64 ta, .int .i64 tb] 59))) := hid (by
          refine ES.below ⟨hes.out.b, hes.out.t.congr (fun j hj => ?_), hes.out.sz⟩ ((Below.refl _ _).alloc (Nat.le_refl _) _)
          rw [ctH.out j]
          simp [isE, h1])
        clear hes ct ctH et hEH hIH
        go_wp2_with fail
        exact ⟨⟨k + 1, by first | rfl | (rw [kw]), by omega, NX⟩, by first | (simp [intOf]; done) | (simp [intOf]; omega)⟩
    · have kI : ¬ (k : Int) < (m : Int) := by omega
      have hall : l.take k = l := List.take_of_length_le (by rw [hml.out]; omega)
      have hes2 := hes.out
      rw [hall] at hes2
      have cC0 := con_one (fun a => (cntE l a : Int)) n n (w.heap.size + 1) (by omega) wr hes2.t
      rw [oneAll_emit, hVH.out] at cC0
      have cC : Hid (Calls Tryz.prog 111 #[.slice (some ⟨w.heap.size + 1, 0, none⟩) n n, .func (.func 112) #[] #[]] wr fun e w' => e = .returned (.bool (!V)) ∧ wr = w') := cC0.mono (fun _ _ h => ⟨h.1, h.2.symm⟩)
      have fin : Hid (Below w.heap.size w wr) := hes2.b
      clear cC0 hes2 hes hall hEH hIH hVH
      go_wp2_with fail
      with_reducible refine Calls.mono cC.out ?_
      rintro e w2 ⟨rfl, rfl⟩
      go_wp2_with fail
      go_ret
      exact ⟨by cases V <;> rfl, fin.out⟩
end Go.Proofs.YtdfnomglkibfbaaGreatDoor.Vf

namespace Go.Proofs.YtdfnomglkibfbaaGreatDoor.Vf
open Go.RowKit Go.Maps
set_option linter.unusedVariables false
set_option linter.unusedSimpArgs false
set_option maxRecDepth 100000
theorem hgtP_drop {l : List InP} {k : Nat} {t : InP} (m : Nat → Option Int) (hs : List Int) (h : l[k]? = some t) : hgtP (l.drop k) k m hs = if errP ((m k).getD 0) t.c then (hs, some k) else hgtP (l.drop (k + 1)) (k + 1) (nextP m k t (bhd ((m k).getD 0) t.c)) (hs ++ [(m k).getD 0]) := by
  obtain ⟨hl, he⟩ := List.getElem?_eq_some_iff.1 h
  rw [List.drop_eq_getElem_cons hl, he]; rfl
/-- while the heights are found, the program's way. -/
structure PH (w : World) (of : Nat) (a : Option Addr) (c first n k : Nat) (hs : List Int) (m : Nat → Option Int) (W : World) : Prop where
  b : Below w.heap.size w W
  x0 : W.cell? ⟨w.heap.size, 0, none⟩ = some (.int .u8 (of : Int))
  x1 : W.cell? ⟨w.heap.size, 1, none⟩ = some (.slice a n c)
  x2 : W.cell? ⟨w.heap.size, 2, none⟩ = some (.int .i64 (first : Int))
  row : RI W (w.heap.size + 1) n (fun j => .int .i64 (hs.getD j 0))
  map : ∃ q, q ≤ 2 * k + 1 ∧ MI W (w.heap.size + 2) m q
  sz : w.heap.size + 3 ≤ W.heap.size
  len : hs.length = k
theorem PH.below {w W W' : World} {of c first n k : Nat} {a : Option Addr} {hs : List Int} {m : Nat → Option Int} (h : PH w of a c first n k hs m W) (hb : Below W.heap.size W W') : PH w of a c first n k hs m W' := by
  have hz := h.sz
  obtain ⟨q, q1, q2⟩ := h.map
  exact ⟨h.b.trans (hb.mono h.b.size), by rw [hb.cell (p := ⟨w.heap.size, 0, none⟩) (by show w.heap.size < _; omega)]; exact h.x0, by rw [hb.cell (p := ⟨w.heap.size, 1, none⟩) (by show w.heap.size < _; omega)]; exact h.x1, by rw [hb.cell (p := ⟨w.heap.size, 2, none⟩) (by show w.heap.size < _; omega)]; exact h.x2, h.row.below hb (by omega), ⟨q, q1, q2.keep (hb.block _ (by omega))⟩, Nat.le_trans hz hb.size, h.len⟩
/-- the map changed, nothing else. -/
theorem PH.mapped {w W W' : World} {of c first n k : Nat} {a : Option Addr} {hs : List Int} {m m' : Nat → Option Int} {q : Nat} (h : PH w of a c first n k hs m W) (hg : W.grownBy W' (some (w.heap.size + 2))) (hm : MI W' (w.heap.size + 2) m' q) (hq : q ≤ 2 * k + 1) : PH w of a c first n k hs m' W' := by
  have hz := h.sz
  have e : ∀ j, W'.cell? ⟨w.heap.size, j, none⟩ = W.cell? ⟨w.heap.size, j, none⟩ := fun j => World.cell?_of_block (w := W) (hg.block w.heap.size (by omega) (fun e => by injection e; omega))
  exact ⟨h.b.grown hg h.b.size (fun j e => by cases e; omega), by rw [e]; exact h.x0, by rw [e]; exact h.x1, by rw [e]; exact h.x2, h.row.grown hg (by omega), ⟨q, hq, hm⟩, Nat.le_trans hz hg.size, h.len⟩
end Go.Proofs.YtdfnomglkibfbaaGreatDoor.Vf

namespace Go.Proofs.YtdfnomglkibfbaaGreatDoor.Vf
open Go.RowKit Go.Maps
set_option linter.unusedVariables false
set_option linter.unusedSimpArgs false
set_option maxRecDepth 100000
theorem row_smallP {c : Nat} : (rowF c).tk ≤ 2 ∧ (rowF c).pt ≤ 1 := by
  rcases Nat.lt_or_ge 24 c with q | q
  · rw [row_big q]; simp [noR]
  · match c, q with
    | 0, _ | 1, _ | 2, _ | 3, _ | 4, _ | 5, _ | 6, _ | 7, _ | 8, _ | 9, _ | 10, _ | 11, _ | 12, _ | 13, _ | 14, _ | 15, _ | 16, _ | 17, _ | 18, _ | 19, _ | 20, _ | 21, _ | 22, _ | 23, _ | 24, _ => simp [rowF, rowsL, noR]
    | c + 25, q => omega
/-- what is told of heights, the program's way. -/
def HpR (w : World) (n first : Nat) (r : List Int × Option Nat) (e : Ending) (w' : World) : Prop := match r.2 with
  | some k => e = .returned (.tuple #[.slice none 0 0, atE ((first : Int) + (k : Int)) 190])
  | none => ∃ hb, w.heap.size ≤ hb ∧ e = .returned (.tuple #[.slice (some ⟨hb, 0, none⟩) n n, .nilIface]) ∧ RI w' hb n (fun j => .int .i64 (r.1.getD j 0))
theorem PH.start (w : World) (of : Nat) (a : Option Addr) (c first n : Nat) : ∃ W3, (Instr.mapUpdate 252 (.map (some (w.heap.size + 2))) (.int .i64 0) (.int .i64 0)).run Tryz.prog (((w.alloc (.cells #[.int .u8 (of : Int), .slice a n c, .int .i64 (first : Int)] 127)).alloc (.cells (madeCells #[.int .i64 0] n) 3)).alloc (.map #[] 0)) = .ok () W3 ∧ PH w of a c first n 0 [] m0 W3 := by
  obtain ⟨V1, hV1⟩ : ∃ V1, V1 = w.alloc (.cells #[.int .u8 (of : Int), .slice a n c, .int .i64 (first : Int)] 127) := ⟨_, rfl⟩
  have s1 : V1.heap.size = w.heap.size + 1 := by rw [hV1]; simp
  have r2 := RI.made V1 n (.int .i64 0)
  have b1 : Below w.heap.size w V1 := by rw [hV1]; exact (Below.refl _ w).alloc (Nat.le_refl _) _
  have y0 : V1.cell? ⟨w.heap.size, 0, none⟩ = some (.int .u8 (of : Int)) := by rw [hV1]; simp [go_sem]
  have y1 : V1.cell? ⟨w.heap.size, 1, none⟩ = some (.slice a n c) := by rw [hV1]; simp [go_sem]
  have y2 : V1.cell? ⟨w.heap.size, 2, none⟩ = some (.int .i64 (first : Int)) := by rw [hV1]; simp [go_sem]
  rw [← hV1]
  obtain ⟨V2, hV2⟩ : ∃ V2, V2 = V1.alloc (.cells (madeCells #[.int .i64 0] n) 3) := ⟨_, rfl⟩
  have s2 : V2.heap.size = w.heap.size + 2 := by rw [hV2]; simp [s1]
  have b2 : Below V1.heap.size V1 V2 := by rw [hV2]; exact (Below.refl _ _).alloc (Nat.le_refl _) _
  rw [← hV2, s1] at r2
  rw [← hV2]
  have m3 := MI.start V2
  rw [s2] at m3
  have b3 : Below V2.heap.size V2 (V2.alloc (.map #[] 0)) := (Below.refl _ _).alloc (Nat.le_refl _) _
  have s3 : (V2.alloc (.map #[] 0)).heap.size = w.heap.size + 3 := by simp [s2]
  have P3 : PH w of a c first n 0 [] (fun _ => none) (V2.alloc (.map #[] 0)) := by
    refine ⟨(b1.trans (b2.mono (by omega))).trans (b3.mono (by omega)), ?_, ?_, ?_, (r2.below b3 (by omega)).congr (fun j hj => rfl), ⟨0, by omega, m3⟩, by omega, rfl⟩
    · rw [b3.cell (p := ⟨w.heap.size, 0, none⟩) (by show w.heap.size < _; omega), b2.cell (p := ⟨w.heap.size, 0, none⟩) (by show w.heap.size < _; omega)]; exact y0
    · rw [b3.cell (p := ⟨w.heap.size, 1, none⟩) (by show w.heap.size < _; omega), b2.cell (p := ⟨w.heap.size, 1, none⟩) (by show w.heap.size < _; omega)]; exact y1
    · rw [b3.cell (p := ⟨w.heap.size, 2, none⟩) (by show w.heap.size < _; omega), b2.cell (p := ⟨w.heap.size, 2, none⟩) (by show w.heap.size < _; omega)]; exact y2
  obtain ⟨W3, hr, ⟨c', hc', hm⟩, hg, hz⟩ := m3.put 0 (by omega) 0 (by omega) (by omega) (by omega)
  refine ⟨W3, hr, P3.mapped hg (m' := m0) (q := c') ?_ (by omega)⟩
  have e : putI (fun _ => none) 0 0 = m0 := by funext k; unfold putI m0; rfl
  rw [← e]; exact hm
theorem PH.set {w W : World} {of c first n k : Nat} {a : Option Addr} {hs : List Int} {m : Nat → Option Int} (h : PH w of a c first n k hs m W) (hk : k < n) (v : Int) : PH w of a c first n (k + 1) (hs ++ [v]) m (W.setCell ⟨w.heap.size + 1, k, none⟩ (.int .i64 v)) := by
  have hz := h.sz
  obtain ⟨q, q1, q2⟩ := h.map
  have e : ∀ j, (W.setCell ⟨w.heap.size + 1, k, none⟩ (.int .i64 v)).cell? ⟨w.heap.size, j, none⟩ = W.cell? ⟨w.heap.size, j, none⟩ := fun j => World.cell?_setCell_other _ _ _ _ (by intro h; injection h; omega)
  refine ⟨h.b.setCell (p := ⟨w.heap.size + 1, k, none⟩) (by simp) _, by rw [e]; exact h.x0, by rw [e]; exact h.x1, by rw [e]; exact h.x2, (h.row.set hk _).congr (fun j hj => ?_), ⟨q, by omega, q2.keep (Below.heap_setCell _ _ _ _ (by simp))⟩, by simpa using hz, by simp [h.len]⟩
  unfold upG
  dsimp only
  have hl := h.len
  by_cases e : j = k
  · subst e
    rw [if_pos rfl, List.getD_eq_getElem?_getD, ← hl, List.getElem?_concat_length]; rfl
  · rw [if_neg e]
    congr 1
    rw [List.getD_eq_getElem?_getD, List.getD_eq_getElem?_getD]
    rcases Nat.lt_or_ge j hs.length with q | q
    · rw [List.getElem?_append_left q]
    · rw [List.getElem?_eq_none q, List.getElem?_eq_none (by simp; omega)]
/-- what the map holds is no height that is too great. -/
def Bnd (m : Nat → Option Int) : Prop := ∀ j v, m j = some v → -1 ≤ v ∧ v ≤ 200
theorem Bnd.drop {m : Nat → Option Int} (h : Bnd m) (k : Nat) : Bnd (dropP m k) := fun j v hv => by
  unfold dropP at hv
  split at hv
  · cases hv
  · exact h j v hv
theorem Bnd.bring {m : Nat → Option Int} (h : Bnd m) (k : Nat) {x : Int} (hx : -1 ≤ x ∧ x ≤ 200) : Bnd (bringP m k x) := fun j v hv => by
  unfold bringP at hv
  split at hv
  · injection hv with hv
    subst hv
    unfold meetP
    cases q : m k with
    | none => exact hx
    | some o =>
      simp only
      split
      · omega
      · exact h k o q
  · exact h j v hv
theorem Bnd.getD {m : Nat → Option Int} (h : Bnd m) (k : Nat) : -1 ≤ (m k).getD 0 ∧ (m k).getD 0 ≤ 200 := by
  cases q : m k with
  | none => simp
  | some v => exact h k v q
theorem bnd0 : Bnd m0 := fun j v hv => by
  unfold m0 at hv
  split at hv
  · injection hv with hv; omega
  · cases hv
/-- one more way brought. -/
theorem bring_ph {w W : World} {of c first n k : Nat} {a : Option Addr} {hs : List Int} {m : Nat → Option Int} {q : Nat} (h : PH w of a c first n k hs m W) (hm : MI W (w.heap.size + 2) m q) (hq : q ≤ 2 * k) (s : Nat) (hs' : s ≤ 65536) (hk : k ≤ 65536) (v : Int) (hv : -1 ≤ v ∧ v ≤ 200) : Calls Tryz.prog 109 #[.map (some (w.heap.size + 1 + 1)), .int .i64 (s : Int), .int .i64 v, .func (.func 110) #[] #[]] W fun e w' => e = .returned (.tuple #[]) ∧ W.grownBy w' (some (w.heap.size + 2)) ∧ (∃ q', q' ≤ q + 1 ∧ MI w' (w.heap.size + 2) (bringP m s v) q') ∧ PH w of a c first n k hs (bringP m s v) w' :=
  (bring_any hm s (by omega) v hv.1 (by omega) (by omega)).mono (fun e w' ⟨h1, ⟨q', hq', hm'⟩, hg, _⟩ => ⟨h1, hg, ⟨q', hq', hm'⟩, h.mapped hg hm' (by omega)⟩)
set_option maxHeartbeats 8000000 in
theorem pheights_any {z : SzP} (of : Nat) (l : List InP) (hF : Fmd z l) (a : Option Addr) (c first : Nat) (hfi : first ≤ 1152921504606846976) (hn : l.length ≤ 65536) (w : World) (hR : RT w) (hI : InIn w a l) : Calls Tryz.prog 73 #[.agg #[.int .u8 (of : Int), .slice a l.length c, .int .i64 (first : Int)]] w fun e w' => HpR w l.length first (hgtP l 0 m0 []) e w' ∧ Below w.heap.size w w' := by
  obtain ⟨R, hRR⟩ : ∃ R, hgtP l 0 m0 [] = R := ⟨_, rfl⟩
  have hRH : Hid (hgtP l 0 m0 [] = R) := hRR
  rw [hRR]
  have hFH : Hid (Fmd z l) := hF
  have hIH : Hid (InIn w a l) := hI
  have hTH : Hid (RT w ∧ 1 < w.heap.size) := ⟨hR, hR.lt⟩
  obtain ⟨n, hnn⟩ : ∃ n, l.length = n := ⟨_, rfl⟩
  have hnH : Hid (l.length = n) := hnn
  rw [hnn] at hn ⊢
  have mk1 : ∀ W, (Instr.makeSlice 39 (.int .i64 (n : Int)) (.int .i64 (n : Int))).run Tryz.prog W = .ok (.slice (some ⟨W.heap.size, 0, none⟩) n n) (W.alloc (.cells (madeCells #[.int .i64 0] n) 3)) := fun W => make_intE n (by omega) W
  have hmk : ∀ W, (Instr.makeMap 252 none).run Tryz.prog W = .ok (.map (some W.heap.size)) (W.alloc (.map #[] 0)) := fun W => by
    first | exact run_makeMap_none W | (simp [Instr.makeMap, go_sem]; done) | (unfold Instr.makeMap; simp [newObj, go_sem])
  obtain ⟨W3, hup, hst⟩ := PH.start w of a c first n
  have hstH : Hid (PH w of a c first n 0 [] m0 W3) := hst
  have sx1 := hst.x1
  clear hRR hF hI hR hnn hst
  go_enter Tryz.func73, Tryz.ntmps73
  go_wp2_with fail
  clear sx1 hup mk1 hmk
  go_loopw [21] (fun v21 wr => ∃ (k : Nat) (hs : List Int) (m : Nat → Option Int), v21 = .int .i64 (k : Int) ∧ k ≤ n ∧ Hid (hgtP (l.drop k) k m hs = R) ∧ Hid (PH w of a c first n k hs m wr ∧ Bnd m)) (fun v21 _ => n - (intOf v21).toNat)
  case atStart => exact ⟨0, [], m0, rfl, Nat.zero_le _, hRH, ⟨hstH.out, bnd0⟩⟩
  case round =>
    clear hstH
    obtain ⟨k, hs, m, rfl, hkn, hrr, hph⟩ := hrel
    have k0 : (0 : Int) ≤ (k : Int) := by omega
    by_cases hk : k < n
    · have kI : (k : Int) < (n : Int) := by omega
      have kw : IntKind.i64.wrap ((k : Int) + 1) = ((k + 1 : Nat) : Int) := IntWalk.i64_in _ (by omega)
      obtain ⟨g, off, t, et, ea, gl, c1, c2, c3⟩ := (hIH.out.below hph.out.1.b (Nat.le_refl _)).at (k := k) (by rw [hnH.out]; exact hk)
      subst ea
      obtain ⟨tc, ta, tb⟩ := t
      have ST : Hid (R = if errP ((m k).getD 0) tc then (hs, some k) else hgtP (l.drop (k + 1)) (k + 1) (nextP m k ⟨tc, ta, tb⟩ (bhd ((m k).getD 0) tc)) (hs ++ [(m k).getD 0])) := by rw [← hrr.out]; exact hgtP_drop m hs et
      obtain ⟨tc1, tc2⟩ := hFH.out.code k _ et
      simp only at tc1 tc2
      have hjmp : Hid ((rowF tc).a = 9 → (k : Int) < ta ∧ ta < (n : Int)) := by rw [← hnH.out]; exact hFH.out.jump k _ et
      have hzr : w.heap.size + 3 ≤ wr.heap.size := hph.out.1.sz
      have cT : Hid (∀ W, W = wr.alloc (.cells #[.int .u8 (tc : Int), .int .i64 ta, .int .i64 tb] 59) → Calls Tryz.prog 108 #[.map (some (w.heap.size + 1 + 1)), .int .i64 (k : Int)] W fun e w' => e = .returned (.tuple #[.int .i64 ((m k).getD 0), .bool (m k).isSome]) ∧ Hid (PH w of (some ⟨g, off, none⟩) c first n k hs (dropP m k) w' ∧ Bnd (dropP m k) ∧ RT w' ∧ 1 < w'.heap.size ∧ (w'.cell? ⟨wr.heap.size, 0, none⟩ = some (.int .u8 (tc : Int)) ∧ w'.cell? ⟨wr.heap.size, 1, none⟩ = some (.int .i64 ta)) ∧ wr.heap.size < w'.heap.size)) := fun W hW => by
        have hb : Below wr.heap.size wr W := by rw [hW]; exact (Below.refl _ _).alloc (Nat.le_refl _) _
        have hP := hph.out.1.below hb
        obtain ⟨q, hq, hm⟩ := hP.map
        have sW : W.heap.size = wr.heap.size + 1 := by rw [hW]; simp
        have w0 : W.cell? ⟨wr.heap.size, 0, none⟩ = some (.int .u8 (tc : Int)) := by rw [hW]; simp [go_sem]
        have w1 : W.cell? ⟨wr.heap.size, 1, none⟩ = some (.int .i64 ta) := by rw [hW]; simp [go_sem]
        have hzz := hph.out.1.sz
        refine (take_any hm k (by omega)).mono (fun e w' ⟨h1, ⟨c', hc', hm'⟩, hg, _⟩ => ⟨h1, hP.mapped hg hm' (by omega), hph.out.2.drop k, ?_, ?_, ⟨?_, ?_⟩, ?_⟩)
        · exact hTH.out.1.below (hP.b.grown hg hP.b.size (fun j e => by cases e; omega)) hTH.out.2
        · have := hg.size; have := hTH.out.2; have := hph.out.1.b.size; omega
        · rw [World.cell?_of_block (w := W) (hg.block wr.heap.size (by omega) (fun e => by injection e; omega))]; exact w0
        · rw [World.cell?_of_block (w := W) (hg.block wr.heap.size (by omega) (fun e => by injection e; omega))]; exact w1
        · have := hg.size; omega
      obtain ⟨hb1, hb2⟩ := hph.out.2.getD k
      obtain ⟨rs1, rs2⟩ := row_smallP (c := tc)
      have bsH : Hid (hs.length = k) := hph.out.1.len
      have errH : Hid (errP ((m k).getD 0) tc ↔ ((m k).getD 0 < ((rowF tc).tk : Int) ∨ 200 < (m k).getD 0 - ((rowF tc).tk : Int) + ((rowF tc).pt : Int) ∨ ((rowF tc).en = true ∧ 0 < (m k).getD 0 - ((rowF tc).tk : Int) + ((rowF tc).pt : Int)))) := Iff.rfl
      have bhH : Hid (bhd ((m k).getD 0) tc = (m k).getD 0 - ((rowF tc).tk : Int) + ((rowF tc).pt : Int)) := rfl
      generalize (m k).getD 0 = hv at *
      generalize (m k).isSome = hsome at *
      go_wp2_with fail
      with_reducible refine Calls.mono (cT.out _ rfl) ?_
      rintro e wB ⟨rfl, hB⟩
      clear cT c1 c2 c3 gl
      obtain ⟨pB, bB, rB, lB, ⟨i0, i1⟩, szB⟩ := hB.out
      have t0 := rB tc (by omega) 0 (by omega)
      have t1 := rB tc (by omega) 1 (by omega)
      have t2 := rB tc (by omega) 2 (by omega)
      have t3 := rB tc (by omega) 3 (by omega)
      have t4 := rB tc (by omega) 4 (by omega)
      have t5 := rB tc (by omega) 5 (by omega)
      simp only [rowV, List.getElem?_cons_zero, List.getElem?_cons_succ, Nat.add_zero] at t0 t1 t2 t3 t4 t5
      have tcI : (tc : Int) < 25 := by omega
      have tc0 : (0 : Int) ≤ (tc : Int) := by omega
      have x0 := pB.x0
      have x1 := pB.x1
      have x2 := pB.x2
      obtain ⟨y1, y2⟩ := pB.row.2 k hk
      have hzB := pB.sz
      have z1 : w.heap.size < wB.heap.size := by omega
      have z2 : w.heap.size + 1 < wB.heap.size := by omega
      have fw : IntKind.i64.wrap ((first : Int) + (k : Int)) = (first : Int) + (k : Int) := IntWalk.i64_in _ (by omega)
      have cF : Hid (∀ W, Calls Tryz.prog 105 #[.agg #[.int .u8 (of : Int), .slice (some ⟨g, off, none⟩) n c, .int .i64 (first : Int)], .int .i64 (k : Int), .int .i64 190] W fun ev w' => ev = .returned (atE ((first : Int) + (k : Int)) 190) ∧ Below W.heap.size W w') := fun W => by
        have h := fail_any (of : Int) (.slice (some ⟨g, off, none⟩) n c) (first : Int) (k : Int) 190 (by decide) W
        rw [IntWalk.wrap64_in _ (by omega)] at h
        exact h
      have juP : Hid ((rowF tc).a = (rowF tc).a) := rfl
      have bhB : Hid (¬ hv < ((rowF tc).tk : Int) → ¬ 200 < hv - ((rowF tc).tk : Int) + ((rowF tc).pt : Int) → 0 ≤ hv - ((rowF tc).tk : Int) + ((rowF tc).pt : Int) ∧ hv - ((rowF tc).tk : Int) + ((rowF tc).pt : Int) ≤ 200) := fun h1 h2 => by omega
      generalize (rowF tc).tk = tk at *
      generalize (rowF tc).pt = pt at *
      generalize (rowF tc).of = ro at *
      generalize (rowF tc).b = rb at *
      obtain ⟨ra, hra⟩ : ∃ ra, (rowF tc).a = ra := ⟨_, rfl⟩
      have raH : Hid ((rowF tc).a = ra) := hra
      rw [hra] at t3
      rw [raH.out] at hjmp
      obtain ⟨en, hen⟩ : ∃ en, (rowF tc).en = en := ⟨_, rfl⟩
      rw [hen] at t5 errH
      clear hra hen juP
      by_cases e2 : hv < (tk : Int)
      · have VV : Hid (R.2 = some k) := hid (by rw [ST.out, if_pos (errH.out.2 (by first | exact Or.inl (by assumption) | exact Or.inr (Or.inl (by assumption)) | exact Or.inr (Or.inr ⟨rfl, by assumption⟩)))])
        clear ST errH bhH hjmp hRH hFH hIH hTH hnH hB rB bB
        go_wp2_with fail
        with_reducible refine Calls.mono (cF.out _) ?_
        rintro e w5 ⟨rfl, b5⟩
        have fin : Hid (Below w.heap.size w w5) := hid (by
          have hz := pB.b.size
          exact (pB.b.trans (((Below.refl _ _).alloc (Nat.le_refl _) _).mono hz)).trans (b5.mono (by simp; omega)))
        clear b5 pB
        go_wp2_with fail
        go_returns
        refine ⟨?_, fin.out⟩
        unfold HpR
        rw [VV.out]
        rfl
      by_cases e3 : (200 : Int) < hv - (tk : Int) + (pt : Int)
      · have VV : Hid (R.2 = some k) := hid (by rw [ST.out, if_pos (errH.out.2 (by first | exact Or.inl (by assumption) | exact Or.inr (Or.inl (by assumption)) | exact Or.inr (Or.inr ⟨rfl, by assumption⟩)))])
        clear ST errH bhH hjmp hRH hFH hIH hTH hnH hB rB bB
        go_wp2_with fail
        with_reducible refine Calls.mono (cF.out _) ?_
        rintro e w5 ⟨rfl, b5⟩
        have fin : Hid (Below w.heap.size w w5) := hid (by
          have hz := pB.b.size
          exact (pB.b.trans (((Below.refl _ _).alloc (Nat.le_refl _) _).mono hz)).trans (b5.mono (by simp; omega)))
        clear b5 pB
        go_wp2_with fail
        go_returns
        refine ⟨?_, fin.out⟩
        unfold HpR
        rw [VV.out]
        rfl
      cases en with
      | true =>
        by_cases e4 : (0 : Int) < hv - (tk : Int) + (pt : Int)
        · have VV : Hid (R.2 = some k) := hid (by rw [ST.out, if_pos (errH.out.2 (by first | exact Or.inl (by assumption) | exact Or.inr (Or.inl (by assumption)) | exact Or.inr (Or.inr ⟨rfl, by assumption⟩)))])
          clear ST errH bhH hjmp hRH hFH hIH hTH hnH hB rB bB
          go_wp2_with fail
          with_reducible refine Calls.mono (cF.out _) ?_
          rintro e w5 ⟨rfl, b5⟩
          have fin : Hid (Below w.heap.size w w5) := hid (by
            have hz := pB.b.size
            exact (pB.b.trans (((Below.refl _ _).alloc (Nat.le_refl _) _).mono hz)).trans (b5.mono (by simp; omega)))
          clear b5 pB
          go_wp2_with fail
          go_returns
          refine ⟨?_, fin.out⟩
          unfold HpR
          rw [VV.out]
          rfl
        have NOT : Hid (¬ errP hv tc) := hid (fun h => by
          rcases errH.out.1 h with q | q | ⟨q, q2⟩
          · exact e2 q
          · exact e3 q
          · exact e4 q2)
        have nb := bhB.out e2 e3
        obtain ⟨q, hq, hm⟩ := pB.map
        have RN0 : Hid (hgtP (l.drop (k + 1)) (k + 1) (nextP m k ⟨tc, ta, tb⟩ (hv - (tk : Int) + (pt : Int))) (hs ++ [hv]) = R) := hid (by rw [ST.out, if_neg NOT.out, bhH.out])
        have bnd1 : Bnd (dropP m k) := bB
        have pS := pB.set hk hv
        have hmS : MI (wB.setCell ⟨w.heap.size + 1, k, none⟩ (.int .i64 hv)) (w.heap.size + 2) (dropP m k) q := hm.keep (Below.heap_setCell _ _ _ _ (by simp))
        have mB : ∀ o : Obj, Below (wB.setCell ⟨w.heap.size + 1, k, none⟩ (.int .i64 hv)).heap.size (wB.setCell ⟨w.heap.size + 1, k, none⟩ (.int .i64 hv)) ((wB.setCell ⟨w.heap.size + 1, k, none⟩ (.int .i64 hv)).alloc o) := fun o => (Below.refl _ _).alloc (Nat.le_refl _) _
        have cB : Hid (∀ o : Obj, Calls Tryz.prog 109 #[.map (some (w.heap.size + 1 + 1)), .int .i64 ((k : Int) + 1), .int .i64 (hv - (tk : Int) + (pt : Int)), .func (.func 110) #[] #[]] ((wB.setCell ⟨w.heap.size + 1, k, none⟩ (.int .i64 hv)).alloc o) fun e w' => e = .returned (.tuple #[]) ∧ ((wB.setCell ⟨w.heap.size + 1, k, none⟩ (.int .i64 hv)).alloc o).grownBy w' (some (w.heap.size + 2)) ∧ (∃ q', q' ≤ q + 1 ∧ MI w' (w.heap.size + 2) (bringP (dropP m k) (k + 1) (hv - (tk : Int) + (pt : Int))) q') ∧ PH w of (some ⟨g, off, none⟩) c first n (k + 1) (hs ++ [hv]) (bringP (dropP m k) (k + 1) (hv - (tk : Int) + (pt : Int))) w' ∧ w'.cell? ⟨wB.heap.size, 3, none⟩ = ((wB.setCell ⟨w.heap.size + 1, k, none⟩ (.int .i64 hv)).alloc o).cell? ⟨wB.heap.size, 3, none⟩ ∧ w'.cell? ⟨wr.heap.size, 1, none⟩ = some (.int .i64 ta)) := fun o => (bring_ph (pS.below (mB o)) (hmS.keep ((mB o).block _ (by simp; omega))) (by omega) (k + 1) (by omega) (by omega) _ (by omega)).mono (fun e w' ⟨h1, h2, h3, h4⟩ => ⟨h1, h2, h3, h4, World.cell?_of_block (h2.block wB.heap.size (by simp) (fun e => by injection e; omega)), by
          rw [World.cell?_of_block (h2.block wr.heap.size (by simp; omega) (fun e => by injection e; omega)), (mB o).cell (p := ⟨wr.heap.size, 1, none⟩) (by simp; omega), World.cell?_setCell_other _ _ _ _ (by intro h; injection h; omega)]
          exact i1⟩)
        clear pS hmS mB ST errH bhH bhB NOT hRH hFH hIH hTH hnH hB rB bB hm cF pB
        go_wp2_with fail
        with_reducible refine Calls.mono (cB.out _) ?_
        rintro e wC ⟨rfl, gC, ⟨q1, hq1, mC⟩, pC, a3, a1⟩
        simp [go_sem] at a3
        have bnd2 : Hid (Bnd (bringP (dropP m k) (k + 1) (hv - (tk : Int) + (pt : Int)))) := hid (bnd1.bring (k + 1) (by omega))
        clear cB gC bnd1 t0 t1 t2 t3 t4 t5 x0 x1 x2 y1 y2
        by_cases r9 : ra = 9
        · have RN : Hid (hgtP (l.drop (k + 1)) (k + 1) (bringP (bringP (dropP m k) (k + 1) (hv - (tk : Int) + (pt : Int))) ta.toNat (hv - (tk : Int) + (pt : Int))) (hs ++ [hv]) = R) := hid (by
            have := RN0.out
            unfold nextP at this
            rw [if_pos (by show (rowF tc).a = 9; rw [raH.out]; exact r9)] at this
            exact this)
          obtain ⟨ja, hja⟩ : ∃ ja : Nat, ta = (ja : Int) := ⟨ta.toNat, by have := hjmp.out r9; omega⟩
          have jan : ja ≤ 65536 := by have := hjmp.out r9; omega
          have jaN : ta.toNat = ja := by omega
          rw [jaN] at RN
          have cD : Hid (Calls Tryz.prog 109 #[.map (some (w.heap.size + 1 + 1)), .int .i64 (ja : Int), .int .i64 (hv - (tk : Int) + (pt : Int)), .func (.func 110) #[] #[]] wC fun e w' => e = .returned (.tuple #[]) ∧ Hid (PH w of (some ⟨g, off, none⟩) c first n (k + 1) (hs ++ [hv]) (bringP (bringP (dropP m k) (k + 1) (hv - (tk : Int) + (pt : Int))) ja (hv - (tk : Int) + (pt : Int))) w')) := (bring_ph pC mC (by omega) ja (by omega) (by omega) _ (by omega)).mono (fun e w' ⟨h1, _, _, h4⟩ => ⟨h1, h4⟩)
          have bnd3 : Hid (Bnd (bringP (bringP (dropP m k) (k + 1) (hv - (tk : Int) + (pt : Int))) ja (hv - (tk : Int) + (pt : Int)))) := hid (bnd2.out.bring ja (by omega))
          subst hja
          subst r9
          clear RN0 hjmp raH pC mC bnd2 jaN
          go_wp2_with fail
          with_reducible refine Calls.mono cD.out ?_
          rintro e wD ⟨rfl, pD⟩
          go_wp2_with fail
          exact ⟨⟨k + 1, hs ++ [hv], _, by first | rfl | (rw [kw]), by omega, RN, ⟨pD.out, bnd3.out⟩⟩, by first | (simp [intOf]; done) | (simp [intOf]; omega)⟩
        · have RN : Hid (hgtP (l.drop (k + 1)) (k + 1) (bringP (dropP m k) (k + 1) (hv - (tk : Int) + (pt : Int))) (hs ++ [hv]) = R) := hid (by
            have := RN0.out
            unfold nextP at this
            rw [if_neg (by show ¬ (rowF tc).a = 9; rw [raH.out]; exact r9)] at this
            exact this)
          have r9i : ¬ (ra : Int) = 9 := by omega
          have r9d : decide ((ra : Int) = 9) = false := decide_eq_false r9i
          have r9b : ((ra : Int) == 9) = false := by rw [beq_eq_false_iff_ne]; exact r9i
          have pCH : Hid (PH w of (some ⟨g, off, none⟩) c first n (k + 1) (hs ++ [hv]) (bringP (dropP m k) (k + 1) (hv - (tk : Int) + (pt : Int))) wC) := pC
          clear RN0 hjmp raH pC mC
          go_wp2_with fail
          exact ⟨⟨k + 1, hs ++ [hv], _, by first | rfl | (rw [kw]), by omega, RN, ⟨pCH.out, bnd2.out⟩⟩, by first | (simp [intOf]; done) | (simp [intOf]; omega)⟩
      | false =>
        have NOT : Hid (¬ errP hv tc) := hid (fun h => by
          rcases errH.out.1 h with q | q | ⟨q, q2⟩
          · exact e2 q
          · exact e3 q
          · cases q)
        have nb := bhB.out e2 e3
        obtain ⟨q, hq, hm⟩ := pB.map
        have RN0 : Hid (hgtP (l.drop (k + 1)) (k + 1) (nextP m k ⟨tc, ta, tb⟩ (hv - (tk : Int) + (pt : Int))) (hs ++ [hv]) = R) := hid (by rw [ST.out, if_neg NOT.out, bhH.out])
        have bnd1 : Bnd (dropP m k) := bB
        have pS := pB.set hk hv
        have hmS : MI (wB.setCell ⟨w.heap.size + 1, k, none⟩ (.int .i64 hv)) (w.heap.size + 2) (dropP m k) q := hm.keep (Below.heap_setCell _ _ _ _ (by simp))
        have mB : ∀ o : Obj, Below (wB.setCell ⟨w.heap.size + 1, k, none⟩ (.int .i64 hv)).heap.size (wB.setCell ⟨w.heap.size + 1, k, none⟩ (.int .i64 hv)) ((wB.setCell ⟨w.heap.size + 1, k, none⟩ (.int .i64 hv)).alloc o) := fun o => (Below.refl _ _).alloc (Nat.le_refl _) _
        have cB : Hid (∀ o : Obj, Calls Tryz.prog 109 #[.map (some (w.heap.size + 1 + 1)), .int .i64 ((k : Int) + 1), .int .i64 (hv - (tk : Int) + (pt : Int)), .func (.func 110) #[] #[]] ((wB.setCell ⟨w.heap.size + 1, k, none⟩ (.int .i64 hv)).alloc o) fun e w' => e = .returned (.tuple #[]) ∧ ((wB.setCell ⟨w.heap.size + 1, k, none⟩ (.int .i64 hv)).alloc o).grownBy w' (some (w.heap.size + 2)) ∧ (∃ q', q' ≤ q + 1 ∧ MI w' (w.heap.size + 2) (bringP (dropP m k) (k + 1) (hv - (tk : Int) + (pt : Int))) q') ∧ PH w of (some ⟨g, off, none⟩) c first n (k + 1) (hs ++ [hv]) (bringP (dropP m k) (k + 1) (hv - (tk : Int) + (pt : Int))) w' ∧ w'.cell? ⟨wB.heap.size, 3, none⟩ = ((wB.setCell ⟨w.heap.size + 1, k, none⟩ (.int .i64 hv)).alloc o).cell? ⟨wB.heap.size, 3, none⟩ ∧ w'.cell? ⟨wr.heap.size, 1, none⟩ = some (.int .i64 ta)) := fun o => (bring_ph (pS.below (mB o)) (hmS.keep ((mB o).block _ (by simp; omega))) (by omega) (k + 1) (by omega) (by omega) _ (by omega)).mono (fun e w' ⟨h1, h2, h3, h4⟩ => ⟨h1, h2, h3, h4, World.cell?_of_block (h2.block wB.heap.size (by simp) (fun e => by injection e; omega)), by
          rw [World.cell?_of_block (h2.block wr.heap.size (by simp; omega) (fun e => by injection e; omega)), (mB o).cell (p := ⟨wr.heap.size, 1, none⟩) (by simp; omega), World.cell?_setCell_other _ _ _ _ (by intro h; injection h; omega)]
          exact i1⟩)
        clear pS hmS mB ST errH bhH bhB NOT hRH hFH hIH hTH hnH hB rB bB hm cF pB
        go_wp2_with fail
        with_reducible refine Calls.mono (cB.out _) ?_
        rintro e wC ⟨rfl, gC, ⟨q1, hq1, mC⟩, pC, a3, a1⟩
        simp [go_sem] at a3
        have bnd2 : Hid (Bnd (bringP (dropP m k) (k + 1) (hv - (tk : Int) + (pt : Int)))) := hid (bnd1.bring (k + 1) (by omega))
        clear cB gC bnd1 t0 t1 t2 t3 t4 t5 x0 x1 x2 y1 y2
        by_cases r9 : ra = 9
        · have RN : Hid (hgtP (l.drop (k + 1)) (k + 1) (bringP (bringP (dropP m k) (k + 1) (hv - (tk : Int) + (pt : Int))) ta.toNat (hv - (tk : Int) + (pt : Int))) (hs ++ [hv]) = R) := hid (by
            have := RN0.out
            unfold nextP at this
            rw [if_pos (by show (rowF tc).a = 9; rw [raH.out]; exact r9)] at this
            exact this)
          obtain ⟨ja, hja⟩ : ∃ ja : Nat, ta = (ja : Int) := ⟨ta.toNat, by have := hjmp.out r9; omega⟩
          have jan : ja ≤ 65536 := by have := hjmp.out r9; omega
          have jaN : ta.toNat = ja := by omega
          rw [jaN] at RN
          have cD : Hid (Calls Tryz.prog 109 #[.map (some (w.heap.size + 1 + 1)), .int .i64 (ja : Int), .int .i64 (hv - (tk : Int) + (pt : Int)), .func (.func 110) #[] #[]] wC fun e w' => e = .returned (.tuple #[]) ∧ Hid (PH w of (some ⟨g, off, none⟩) c first n (k + 1) (hs ++ [hv]) (bringP (bringP (dropP m k) (k + 1) (hv - (tk : Int) + (pt : Int))) ja (hv - (tk : Int) + (pt : Int))) w')) := (bring_ph pC mC (by omega) ja (by omega) (by omega) _ (by omega)).mono (fun e w' ⟨h1, _, _, h4⟩ => ⟨h1, h4⟩)
          have bnd3 : Hid (Bnd (bringP (bringP (dropP m k) (k + 1) (hv - (tk : Int) + (pt : Int))) ja (hv - (tk : Int) + (pt : Int)))) := hid (bnd2.out.bring ja (by omega))
          subst hja
          subst r9
          clear RN0 hjmp raH pC mC bnd2 jaN
          go_wp2_with fail
          with_reducible refine Calls.mono cD.out ?_
          rintro e wD ⟨rfl, pD⟩
          go_wp2_with fail
          exact ⟨⟨k + 1, hs ++ [hv], _, by first | rfl | (rw [kw]), by omega, RN, ⟨pD.out, bnd3.out⟩⟩, by first | (simp [intOf]; done) | (simp [intOf]; omega)⟩
        · have RN : Hid (hgtP (l.drop (k + 1)) (k + 1) (bringP (dropP m k) (k + 1) (hv - (tk : Int) + (pt : Int))) (hs ++ [hv]) = R) := hid (by
            have := RN0.out
            unfold nextP at this
            rw [if_neg (by show ¬ (rowF tc).a = 9; rw [raH.out]; exact r9)] at this
            exact this)
          have r9i : ¬ (ra : Int) = 9 := by omega
          have r9d : decide ((ra : Int) = 9) = false := decide_eq_false r9i
          have r9b : ((ra : Int) == 9) = false := by rw [beq_eq_false_iff_ne]; exact r9i
          have pCH : Hid (PH w of (some ⟨g, off, none⟩) c first n (k + 1) (hs ++ [hv]) (bringP (dropP m k) (k + 1) (hv - (tk : Int) + (pt : Int))) wC) := pC
          clear RN0 hjmp raH pC mC
          go_wp2_with fail
          exact ⟨⟨k + 1, hs ++ [hv], _, by first | rfl | (rw [kw]), by omega, RN, ⟨pCH.out, bnd2.out⟩⟩, by first | (simp [intOf]; done) | (simp [intOf]; omega)⟩
    · have kI : ¬ (k : Int) < (n : Int) := by omega
      have R2 : Hid ((hs, (none : Option Nat)) = R) := by
        have h2 := hrr.out
        rw [List.drop_eq_nil_of_le (by rw [hnH.out]; omega)] at h2
        exact h2
      have fin : Hid (PH w of a c first n k hs m wr) := hph.out.1
      clear hph hrr hRH hFH hIH hTH hnH
      go_wp2_with fail
      go_returns
      refine ⟨?_, fin.out.b⟩
      unfold HpR
      rw [← R2.out]
      exact ⟨w.heap.size + 1, by omega, rfl, fin.out.row⟩
end Go.Proofs.YtdfnomglkibfbaaGreatDoor.Vf
