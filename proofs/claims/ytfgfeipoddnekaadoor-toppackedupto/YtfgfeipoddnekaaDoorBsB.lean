
import Derived.Test.YtfgfeipoddnekaaDoorBsA
import Derived.Lib.SliceRun
namespace Go.Proofs.YtfgfeipoddnekaaDoor.Ser
open Go.RowKit
set_option linter.unusedVariables false
set_option linter.unusedSimpArgs false
/-- a sample laid at its time. -/
def putL (l : List Smp) (s : Smp) : List Smp := if hasT l s.t = true then l.set (ahd l s.t) s else layL l [s]
theorem hasT_false {l : List Smp} {t : Int} (h : hasT l t = false) : ∀ y ∈ l, y.t ≠ t := by
  intro y hy e
  unfold hasT at h
  rw [List.any_eq_false] at h
  have := h y hy
  simp at this; exact this e
theorem hasT_mem {l : List Smp} {t : Int} : hasT l t = true ↔ ∃ y ∈ l, y.t = t := by
  unfold hasT
  rw [List.any_eq_true]
  simp
theorem Rise.inj {l : List Smp} (h : Rise l) {x y : Smp} (hx : x ∈ l) (hy : y ∈ l) (e : x.t = y.t) : x = y := by
  obtain ⟨i, hi⟩ := List.getElem?_of_mem hx
  obtain ⟨j, hj⟩ := List.getElem?_of_mem hy
  rcases Nat.lt_trichotomy i j with h1 | h1 | h1
  · have := h.lt h1 hi hj; omega
  · subst h1; rw [hi] at hj; exact Option.some.inj hj
  · have := h.lt h1 hj hi; omega
theorem putL_mem {l : List Smp} (h : Rise l) (s : Smp) (x : Smp) : x ∈ putL l s ↔ x = s ∨ (x ∈ l ∧ x.t ≠ s.t) := by
  unfold putL
  split
  · rename_i hh
    obtain ⟨y, hy, ht⟩ := (hasT_iff h s.t).1 hh
    have hlt := (List.getElem?_eq_some_iff.1 hy).1
    constructor
    · intro hx
      obtain ⟨j, hj⟩ := List.getElem?_of_mem hx
      rw [List.getElem?_set] at hj
      split at hj
      · first | (rw [if_pos hlt] at hj; exact Or.inl (Option.some.inj hj).symm) | exact Or.inl (Option.some.inj hj).symm
      · rename_i hne
        refine Or.inr ⟨List.mem_of_getElem? hj, fun e => ?_⟩
        have := h.inj (List.mem_of_getElem? hj) (List.mem_of_getElem? hy) (by omega)
        subst this
        rcases Nat.lt_trichotomy j (ahd l s.t) with h1 | h1 | h1
        · have := h.lt h1 hj hy; omega
        · exact hne h1.symm
        · have := h.lt h1 hy hj; omega
    · rintro (rfl | ⟨hx, hne⟩)
      · exact List.mem_set hlt _
      · obtain ⟨j, hj⟩ := List.getElem?_of_mem hx
        refine List.mem_of_getElem? (i := j) ?_
        rw [List.getElem?_set]
        split
        · rename_i e; subst e; rw [hy] at hj; cases hj; exact absurd ht hne
        · exact hj
  · rename_i hh
    have hf : hasT l s.t = false := by simpa using hh
    unfold layL
    rw [layR_mem]
    simp
    constructor
    · rintro (hx | rfl)
      · exact Or.inr ⟨hx, hasT_false hf x hx⟩
      · exact Or.inl rfl
    · rintro (rfl | ⟨hx, _⟩)
      · exact Or.inr rfl
      · exact Or.inl hx
theorem putL_len {l : List Smp} (s : Smp) : (putL l s).length ≤ l.length + 1 := by
  unfold putL
  split
  · rw [List.length_set]; omega
  · unfold layL; rw [layR_len _ _ _ _ (Nat.le_refl _)]; simp
theorem res_cells2 {w w' : World} {a b c d : Value} {ty ty' : TypeId} (h : Below ((w.alloc (.cells #[a, b] ty)).alloc (.cells #[c, d] ty')).heap.size ((w.alloc (.cells #[a, b] ty)).alloc (.cells #[c, d] ty')) w') : w'.cell? ⟨w.heap.size, 0, none⟩ = some a ∧ w'.cell? ⟨w.heap.size, 1, none⟩ = some b ∧ w'.cell? ⟨w.heap.size + 1, 0, none⟩ = some c ∧ w'.cell? ⟨w.heap.size + 1, 1, none⟩ = some d ∧ w'.frozen? ⟨w.heap.size + 1, 0, none⟩ = false ∧ w'.frozen? ⟨w.heap.size + 1, 1, none⟩ = false ∧ w.heap.size + 1 < w'.heap.size := by
  have hs : ((w.alloc (.cells #[a, b] ty)).alloc (.cells #[c, d] ty')).heap.size = w.heap.size + 2 := by simp
  have hs1 : w.heap.size + 1 = (w.alloc (.cells #[a, b] ty)).heap.size := by simp
  refine ⟨?_, ?_, ?_, ?_, ?_, ?_, by have := h.size; omega⟩
  · rw [h.cell (p := ⟨w.heap.size, 0, none⟩) (by rw [hs]; simp)]; simp [go_sem]
  · rw [h.cell (p := ⟨w.heap.size, 1, none⟩) (by rw [hs]; simp)]; simp [go_sem]
  · rw [h.cell (p := ⟨w.heap.size + 1, 0, none⟩) (by rw [hs]; simp)]; simp [go_sem]
  · rw [h.cell (p := ⟨w.heap.size + 1, 1, none⟩) (by rw [hs]; simp)]; simp [go_sem]
  · rw [frozen_block (h.block (w.heap.size + 1) (by omega))]; rw [hs1]; exact frozen_new _ _ _ _
  · rw [frozen_block (h.block (w.heap.size + 1) (by omega))]; rw [hs1]; exact frozen_new _ _ _ _
theorem SS.keepN {N B M : Nat} {v : Value} {l : List Smp} {w w' : World} (h : SS N B v l w) (hb : Below M w w') (hN : N < M) (hg : ∀ g, v.ownBlock = some g → g < M ∨ w'.heap[g]? = w.heap[g]?) : SS N B v l w' :=
  ⟨by rw [hb.cell (p := ⟨N, 0, none⟩) hN]; exact h.c0, by rw [frozen_block (hb.block N hN)]; exact h.f0, h.row.keep hb.size (fun g e => by
    rcases hg g e with h1 | h1
    · exact hb.block g h1
    · exact h1), h.ne, Nat.lt_of_lt_of_le h.hN hb.size, h.hB, h.hk, h.hr, h.hn⟩
theorem alloc_below2 {w w' : World} {o o' : Obj} (h : Below ((w.alloc o).alloc o').heap.size ((w.alloc o).alloc o') w') : Below w.heap.size w w' := alloc_below (alloc_below h)
end Go.Proofs.YtfgfeipoddnekaaDoor.Ser

namespace Go.Proofs.YtfgfeipoddnekaaDoor.Ser
open Go.RowKit
set_option linter.unusedVariables false
set_option linter.unusedSimpArgs false
theorem step_append_run {P : Program} {ops : Array Oper} {o : Oper} {a : Act} {w : World} {K : Act → World → Prop} {Q : Exit → Act → World → Prop} {E : Prop}
    (hg : o.guard = none) (s x : Operand) (t : TypeId) (hop : o.op = Op.call { callee := Callee.builtin Builtin.append, args := #[s, x], argTypes := #[t, t] })
    (v y v' : Value) (w' : World) (hs : a.eval s = v) (hx : a.eval x = y) (hr : (Builtin.append_ #[t, t] o.type #[v, y]).run P w = .ok v' w') (hK : K (a.put o.dst v') w') :
    if Region.wanted o (yielded ops a.tmps) = true then Oper.wp P o a w K Q else E := by
  have hw : Region.wanted o (yielded ops a.tmps) = true := by simp [Region.wanted, hg]
  rw [if_pos hw]
  unfold Oper.wp execOp
  simp only [hop, resolve, invoke, builtin, Sem.run_bind, Sem.run_pure, Result.andThen_ok, List.map_toArray, List.map_cons, List.map_nil, hs, hx, hr]
  exact hK
theorem cut_sub (l : List Smp) (a b : Nat) (h : a ≤ b) : (l.take a ++ l.drop b).Sublist l := by
  conv => rhs; rw [← List.take_append_drop a l]
  refine List.Sublist.append (List.Sublist.refl _) ?_
  rw [show b = a + (b - a) by omega, ← List.drop_drop]
  exact List.drop_sublist _ _
/-- samples behind a row's beginning appended to it. -/
theorem app_cut (W : World) (B g cap : Nat) (l : List Smp) (a b : Nat) (own : W.ownsRow B 37 3 (.slice (some ⟨g, 0, none⟩) l.length cap) l.length (encL l)) (hab : a ≤ b) (hbl : b ≤ l.length) (hn : l.length ≤ 2199023255552) (hB : B ≤ W.heap.size) (ad : Addr) (c : Nat) (had : b < l.length → ad = ⟨g, b * 3, none⟩) :
    ∃ g1 cap1 w', (Builtin.append_ #[22, 22] 22 #[.slice (some ⟨g, 0, none⟩) a cap, .slice (some ad) (l.length - b) c]).run Tryd.prog W = .ok (.slice (some ⟨g1, 0, none⟩) (a + (l.length - b)) cap1) w' ∧ w'.ownsRow B 37 3 (.slice (some ⟨g1, 0, none⟩) (a + (l.length - b)) cap1) (a + (l.length - b)) (encL (l.take a ++ l.drop b)) ∧ W.grownBy w' (some g) ∧ (g1 = g ∨ g1 = W.heap.size) := by
  obtain ⟨i, i1, i0⟩ := Option.map_eq_some_iff.1 smp_info
  have i2 : i.zero = some (.agg #[.int .i64 0, .int .u8 0, .int .i64 0]) := congrArg (·.1) i0
  have i3 : i.bytes = 24 := congrArg (·.2.1) i0
  have i4 : i.size = 3 := congrArg (·.2.2) i0
  have hml : maxLen = 9223372036854775807 := by decide
  have own2 := own_take own rfl (by omega : a ≤ l.length)
  have hcl := own.cells (g := g) rfl
  obtain ⟨v', w', hr, ho, hg, hnil, hat⟩ := run_append_own_at (P := Tryd.prog) W B 22 22 37 i (.agg #[.int .i64 0, .int .u8 0, .int .i64 0]) 3 24 Tryd.underlying22 i1 i2 i4 i3 rfl (by omega) _ a _ own2 ad (l.length - b) c (encL (l.drop b)) (by rw [encL_len, List.length_drop]) (fun j u hj => by
    have hj3 : j < (l.length - b) * 3 := by have := (List.getElem?_eq_some_iff.1 hj).1; rw [encL_len, List.length_drop] at this; exact this
    rw [had (by omega), smp_add]
    rw [encL_drop, List.getElem?_drop] at hj
    have := hcl _ _ hj
    rw [smp_add, Nat.zero_add] at this; exact this) (encL_one _) (by omega) (by omega) hB
  rw [← encL_append] at ho
  rcases ho.2 with ⟨hq, _⟩ | ⟨g1, c1, cur, hq, _⟩
  · have := hnil.1 hq; simp at this
  · subst hq
    refine ⟨g1, c1, w', hr, ho, hg, ?_⟩
    rcases hat with e | e
    · simp [Value.ownBlock] at e; exact Or.inl e
    · simp [Value.ownBlock] at e; exact Or.inr e
theorem app_none (W : World) (a ad : Option Addr) (c : Nat) : (Builtin.append_ #[22, 22] 22 #[.slice a 0 0, .slice ad 0 c]).run Tryd.prog W = .ok (.slice a 0 0) W := by
  obtain ⟨i, i1, i0⟩ := Option.map_eq_some_iff.1 smp_info
  cases a <;> cases ad <;> simp [Builtin.append_, run_underlying Tryd.underlying22, sizeOf, typeInfo, i1, Builtin.lenOf, Builtin.firstCells, storeCells, loadCells, loadCellsFrom]
theorem SS.put {N B : Nat} {v v2 : Value} {l l2 : List Smp} {w w2 : World} (h : SS N B v l w) (gr : w.grownBy w2 v.ownBlock) (row : OR w2 B v2 l2) (hat : v2.ownBlock = v.ownBlock ∨ ∃ k, v2.ownBlock = some k ∧ w.heap.size ≤ k) (hk : ∀ s ∈ l2, s.ok) (hr : Rise l2) (hn : l2.length ≤ 2199023255552) :
    SS N B v2 l2 (w2.setCell ⟨N, 0, none⟩ v2) ∧ SFr N v v2 w (w2.setCell ⟨N, 0, none⟩ v2) := by
  have hNl := h.hN
  have hne2 : v2.ownBlock ≠ some N := by
    rcases hat with e | ⟨k, e, hk⟩
    · rw [e]; exact h.ne
    · rw [e]; intro e'; injection e' with e'; omega
  have c1 : w2.cell? ⟨N, 0, none⟩ = some v := (gr.cell_far ⟨N, 0, none⟩ hNl h.ne.symm).trans h.c0
  have f1 : w2.frozen? ⟨N, 0, none⟩ = false := (gr.frozen_far ⟨N, 0, none⟩ hNl h.ne.symm).trans h.f0
  have hkb : ∀ j, j ≠ N → (w2.setCell ⟨N, 0, none⟩ v2).heap[j]? = w2.heap[j]? := fun j hj => Below.heap_setCell _ _ _ _ hj
  refine ⟨⟨World.cell?_setCell_same _ _ _ c1, by simpa using f1, row.keep (by simp) (fun g e => hkb g (fun e' => hne2 (by rw [e, e']))), hne2, by have := gr.size; simp; omega, h.hB, hk, hr, hn⟩, ⟨⟨gr.os, gr.tape, gr.output, by have := gr.size; simpa using this, fun j hj => absurd hj (Nat.not_lt_zero _)⟩, fun j hj hn ho => by rw [hkb j hn]; exact gr.block j hj ho, hat⟩⟩
end Go.Proofs.YtfgfeipoddnekaaDoor.Ser

namespace Go.Proofs.YtfgfeipoddnekaaDoor.Ser
open Go.RowKit
set_option linter.unusedVariables false
set_option linter.unusedSimpArgs false
set_option maxRecDepth 100000 in
set_option maxHeartbeats 4000000 in
theorem between_any (N B : Nat) (v : Value) (l : List Smp) (w : World) (h : SS N B v l w) (f t : Int) :
    Calls Tryd.prog 15 #[.pointer (some ⟨N, 0, none⟩), .int .i64 f, .int .i64 t] w fun e w' => e = .returned (.tuple #[.int .i64 (ahd l f : Int), .int .i64 (Nat.max (ahd l f) (ahd l t) : Nat)]) ∧ Below w.heap.size w w' := by
  have h1 : Hid _ := find_any N B v l f w h
  have h2 : Hid (∀ W, SS N B v l W → _) := fun W hW => find_any N B v l t W hW
  have hH : Hid _ := h
  have hl1 := ahd_le l f
  have hl2 := ahd_le l t
  have hn := h.hn
  clear h
  generalize ahd l f = p at *
  generalize ahd l t = q at *
  generalize hasT l f = x at *
  generalize hasT l t = y at *
  go_enter Tryd.func15, Tryd.ntmps15
  go_wp2_with fail
  refine Calls.mono h1.out ?_
  rintro e w2 ⟨rfl, hB2⟩
  have hS2 : Hid _ := hH.out.below hB2
  go_wp2_with fail
  refine Calls.mono (h2.out _ hS2.out) ?_
  rintro e w3 ⟨rfl, hB3⟩
  have hB := hB2.trans (hB3.mono hB2.size)
  rcases Nat.lt_or_ge p q with hpq | hpq
  · have hpqI : (p : Int) < (q : Int) := by omega
    go_wp2_with fail
    first | go_ret2 | go_ret
    exact ⟨by rw [show Nat.max p q = q from Nat.max_eq_right (by omega)]; rfl, hB⟩
  · have hpqI : ¬ (p : Int) < (q : Int) := by omega
    go_wp2_with fail
    first | go_ret2 | go_ret
    exact ⟨by rw [show Nat.max p q = p from Nat.max_eq_left (by omega)]; rfl, hB⟩
theorem app_copy (W : World) (ad : Addr) (c : Nat) (l : List Smp) (hnews : ∀ j u, (encL l)[j]? = some u → W.cell? (ad.add j) = some u) (hal : ad.block < W.heap.size ∨ l = []) (hn : l.length ≤ 2199023255552) :
    ∃ v' w', (Builtin.append_ #[22, 22] 22 #[.slice (some ⟨W.heap.size, 0, none⟩) 0 0, .slice (some ad) l.length c]).run Tryd.prog (W.alloc (.cells #[] 37)) = .ok v' w' ∧ w'.ownsRow W.heap.size 37 3 v' l.length (encL l) ∧ Below W.heap.size W w' := by
  obtain ⟨i, i1, i0⟩ := Option.map_eq_some_iff.1 smp_info
  have i2 : i.zero = some (.agg #[.int .i64 0, .int .u8 0, .int .i64 0]) := congrArg (·.1) i0
  have i3 : i.bytes = 24 := congrArg (·.2.1) i0
  have i4 : i.size = 3 := congrArg (·.2.2) i0
  have hml : maxLen = 9223372036854775807 := by decide
  have hB0 := below_new (Below.refl _ W) (.cells #[] 37)
  have own0 : (W.alloc (.cells #[] 37)).ownsRow W.heap.size 37 3 (.slice (some ⟨W.heap.size, 0, none⟩) 0 0) 0 [] := by
    have := World.ownsRow_made (e := 37) (size := 3) (base := W.heap.size) W #[] 0 (by simp) (by simp [maxLen]) rfl
    simpa using this
  obtain ⟨v', w', hr, ho, hg, hnil, hat⟩ := run_append_own_at (P := Tryd.prog) (W.alloc (.cells #[] 37)) W.heap.size 22 22 37 i (.agg #[.int .i64 0, .int .u8 0, .int .i64 0]) 3 24 Tryd.underlying22 i1 i2 i4 i3 rfl (by omega) _ 0 _ own0 ad l.length c (encL l) (encL_len _) (fun j u hj => by
    rcases hal with hal | hal
    · have := hnews j u hj
      rw [hB0.cell (p := ad.add j) (by rw [show (ad.add j).block = ad.block from by unfold Addr.add; split <;> rfl]; exact hal)]; exact this
    · rw [hal] at hj; simp [encL] at hj) (encL_one _) (by omega) (by omega) (by simp)
  rw [List.nil_append, Nat.zero_add] at ho
  exact ⟨v', w', hr, ho, hB0.trans ((Below.refl _ _).grown hg (by simp) (fun k e => (own0.lt k e).1))⟩
theorem LIn.news {w : World} {ad : Addr} {l : List Smp} (h : LIn w (some ad) l) : (∀ j u, (encL l)[j]? = some u → w.cell? (ad.add j) = some u) ∧ (ad.block < w.heap.size ∨ l = []) := by
  rcases h.2 with e | ⟨b, off, e, hb, hc⟩
  · subst e; exact ⟨by simp [encL], Or.inr rfl⟩
  · cases e
    refine ⟨fun j u hj => ?_, Or.inl hb⟩
    have hj3 : j < l.length * 3 := by rw [← encL_len]; exact (List.getElem?_eq_some_iff.1 hj).1
    obtain ⟨s, hs⟩ : ∃ s, l[j / 3]? = some s := ⟨_, List.getElem?_eq_getElem (by omega)⟩
    obtain ⟨e1, e2, e3⟩ := encL_get l _ s hs
    obtain ⟨c1, c2, c3⟩ := hc _ s hs
    rw [smp_add]
    rcases (by omega : j % 3 = 0 ∨ j % 3 = 1 ∨ j % 3 = 2) with q | q | q
    · rw [show j = j / 3 * 3 by omega] at hj ⊢
      rw [e1] at hj
      rw [c1, ← hj]
    · rw [show j = j / 3 * 3 + 1 by omega] at hj ⊢
      rw [e2] at hj
      rw [← Nat.add_assoc, c2, ← hj]
    · rw [show j = j / 3 * 3 + 2 by omega] at hj ⊢
      rw [e3] at hj
      rw [← Nat.add_assoc, c3, ← hj]
set_option maxRecDepth 100000 in
set_option maxHeartbeats 4000000 in
theorem clone_any (a : Option Addr) (c : Nat) (l : List Smp) (w : World) (h : LIn w a l) (hn : l.length ≤ 2199023255552) :
    Calls Tryd.prog 16 #[.slice a l.length c] w fun e w' => ∃ v', e = .returned v' ∧ w'.ownsRow w.heap.size 37 3 v' l.length (encL l) ∧ Below w.heap.size w w' := by
  have q29 : ∀ (w : World) (a : Option Addr) (n c n' c' : Nat), (binOp .eql 22 (.slice a n c) (.slice none n' c')).run Tryd.prog w = .ok (.bool a.isNone) w := fun w a n c n' c' => Lib.run_eql_slice_nil w _ _ a n c n' c' Tryd.underlying22
  cases a with
  | none =>
    obtain rfl : l = [] := by
      rcases h.2 with e | ⟨b, off, e, _⟩
      · exact e
      · cases e
    go_enter Tryd.func16, Tryd.ntmps16
    go_wp2_with fail
    go_ret
    exact ⟨_, rfl, World.ownsRow_nil _ _ _ _, Below.refl _ _⟩
  | some ad =>
    obtain ⟨hnews, hal⟩ := h.news
    obtain ⟨v', w', hr, ho, hB⟩ := app_copy w ad c l hnews hal hn
    have hrH : Hid _ := hr
    have hoH : Hid _ := ho
    clear hr ho h hnews hal hn
    go_enter Tryd.func16, Tryd.ntmps16
    go_wp2_with (at_builtin; refine wpList_append_run (by rfl) _ _ _ (by rfl) _ _ _ _ (by rfl) (by rfl) hrH.out ?_)
    go_ret
    exact ⟨_, rfl, hoH.out, hB⟩
/-- those of a range. -/
def rangeL (l : List Smp) (f t : Int) : List Smp := (l.drop (ahd l f)).take (Nat.max (ahd l f) (ahd l t) - ahd l f)
set_option maxRecDepth 100000 in
set_option maxHeartbeats 4000000 in
theorem range_any (N B : Nat) (v : Value) (l : List Smp) (w : World) (h : SS N B v l w) (f t : Int) :
    Calls Tryd.prog 6 #[.pointer (some ⟨N, 0, none⟩), .int .i64 f, .int .i64 t] w fun e w' => ∃ v', e = .returned v' ∧ w'.ownsRow w.heap.size 37 3 v' (rangeL l f t).length (encL (rangeL l f t)) ∧ Below w.heap.size w w' := by
  have h1 : Hid _ := between_any N B v l w h f t
  obtain ⟨a, cap, rfl, hcap, hL⟩ := h.row.lin h.hk
  have hH : Hid _ := h
  have hl1 := ahd_le l f
  have hl2 := ahd_le l t
  have hn := h.hn
  have hrl : Hid (rangeL l f t = (l.drop (ahd l f)).take (Nat.max (ahd l f) (ahd l t) - ahd l f)) := rfl
  clear h
  generalize ahd l f = p at *
  generalize ahd l t = q at *
  obtain ⟨e, he⟩ : ∃ e, e = Nat.max p q := ⟨_, rfl⟩
  rw [← he] at h1 hrl
  have hpe : p ≤ e := by rw [he]; exact Nat.le_max_left _ _
  have hen : e ≤ l.length := by rw [he]; exact Nat.max_le.2 ⟨hl1, hl2⟩
  clear he hl1 hl2
  go_enter Tryd.func6, Tryd.ntmps6
  go_wp2_with fail
  refine Calls.mono h1.out ?_
  rintro e2 w2 ⟨rfl, hB2⟩
  have hS2 : Hid _ := hH.out.below hB2
  have c2 := hS2.out.c0
  have hL2 := hL.below hB2 (Nat.le_refl _)
  have hLR : LIn w2 (Option.map (fun x => x.add (p * 3)) a) (rangeL l f t) := by
    rw [hrl.out]
    refine ⟨fun s hs => hL2.1 s (List.mem_of_mem_drop (List.mem_of_mem_take hs)), ?_⟩
    rcases hL2.2 with h0 | ⟨b, off, rfl, hb, hcc⟩
    · exact Or.inl (by rw [h0]; simp)
    · refine Or.inr ⟨b, off + p * 3, by rw [Option.map_some, smp_add], hb, fun i s hs => ?_⟩
      rw [List.getElem?_take] at hs
      split at hs
      · rw [List.getElem?_drop] at hs
        have := hcc _ s hs
        rw [Nat.add_mul, ← Nat.add_assoc] at this; exact this
      · cases hs
  have hrlen : (rangeL l f t).length = e - p := by
    rw [hrl.out, List.length_take, List.length_drop]; omega
  have hc1 : Hid _ := clone_any (Option.map (fun x => x.add (p * 3)) a) (cap - p) (rangeL l f t) w2 hLR (by rw [hrlen]; omega)
  have hc2 : Hid (p = cap → ∀ z, Calls Tryd.prog 16 #[.slice a (e - p) z] w2 fun e w' => ∃ v', e = .returned v' ∧ w'.ownsRow w2.heap.size 37 3 v' (rangeL l f t).length (encL (rangeL l f t)) ∧ Below w2.heap.size w2 w') := by
    intro hpc z
    have h0 : rangeL l f t = [] := List.eq_nil_of_length_eq_zero (by rw [hrlen]; omega)
    have := clone_any a z [] w2 ⟨by simp, Or.inl rfl⟩ (by simp)
    rw [h0, show e - p = 0 by omega]; exact this
  rw [hrlen] at hc1
  have hfin : Hid (∀ (v' : Value) (w' : World), w'.ownsRow w2.heap.size 37 3 v' (e - p) (encL (rangeL l f t)) → w'.ownsRow w.heap.size 37 3 v' (rangeL l f t).length (encL (rangeL l f t))) := by
    intro v' w' ho
    rw [hrlen]
    refine ⟨ho.1, ?_⟩
    rcases ho.2 with h2 | ⟨g, cap, cur, e1, e2, e3⟩
    · exact Or.inl h2
    · exact Or.inr ⟨g, cap, cur, e1, Nat.le_trans hB2.size e2, e3⟩
  have hrlH : Hid _ := hrlen
  have hp0 : (0 : Int) ≤ (p : Int) := by omega
  have hpeI : (p : Int) ≤ (e : Int) := by omega
  have heI : (e : Int) ≤ (cap : Int) := by omega
  clear hL hL2 hLR hrlen h1 hH
  rcases Nat.decEq cap p with q8 | q8
  · go_wp2_with fail
    refine Calls.mono hc1.out ?_
    rintro e3 w3 ⟨v', rfl, ho, hB3⟩
    have hoH : Hid _ := ho
    clear ho
    go_wp2_with fail
    go_ret
    refine ⟨_, rfl, hfin.out _ _ ?_, hB2.trans (hB3.mono hB2.size)⟩
    exact hoH.out
  · go_wp2_with fail
    all_goals
      refine Calls.mono (hc2.out (by omega) _) ?_
      rintro e3 w3 ⟨v', rfl, ho, hB3⟩
      have hoH : Hid _ := ho
      clear ho
      go_wp2_with fail
      go_ret
      refine ⟨_, rfl, hfin.out _ _ ?_, hB2.trans (hB3.mono hB2.size)⟩
      have := hoH.out
      rw [hrlH.out] at this; exact this
theorem rangeL_mem {l : List Smp} (h : Rise l) (f t : Int) (x : Smp) : x ∈ rangeL l f t ↔ x ∈ l ∧ f ≤ x.t ∧ x.t < t := by
  unfold rangeL
  constructor
  · intro hx
    obtain ⟨j, hj⟩ := List.getElem?_of_mem hx
    rw [List.getElem?_take] at hj
    split at hj
    · rename_i hlt
      rw [List.getElem?_drop] at hj
      have h1 := ahd_iff h f hj
      have h2 := ahd_iff h t hj
      refine ⟨List.mem_of_getElem? hj, ?_, ?_⟩
      · have : ¬ x.t < f := fun hh => by have := h1.2 hh; omega
        omega
      · refine h2.1 ?_
        have hm : Nat.max (ahd l f) (ahd l t) = ahd l f ∨ Nat.max (ahd l f) (ahd l t) = ahd l t := by
          rcases Nat.le_total (ahd l f) (ahd l t) with h | h
          · exact Or.inr (Nat.max_eq_right h)
          · exact Or.inl (Nat.max_eq_left h)
        omega
    · cases hj
  · rintro ⟨hx, h1, h2⟩
    obtain ⟨j, hj⟩ := List.getElem?_of_mem hx
    have k1 : ¬ j < ahd l f := fun hh => by have := (ahd_iff h f hj).1 hh; omega
    have k2 : j < ahd l t := (ahd_iff h t hj).2 h2
    refine List.mem_of_getElem? (i := j - ahd l f) ?_
    have hm : ahd l t ≤ Nat.max (ahd l f) (ahd l t) := Nat.le_max_right _ _
    rw [List.getElem?_take, if_pos (by omega), List.getElem?_drop, show ahd l f + (j - ahd l f) = j by omega]
    exact hj
theorem rangeL_rise {l : List Smp} (h : Rise l) (f t : Int) : Rise (rangeL l f t) := List.Pairwise.sublist ((List.take_sublist _ _).trans (List.drop_sublist _ _)) h
/-- without those of a range. -/
def delL (l : List Smp) (f t : Int) : List Smp := l.take (ahd l f) ++ l.drop (Nat.max (ahd l f) (ahd l t))
theorem delL_mem {l : List Smp} (h : Rise l) (f t : Int) (x : Smp) : x ∈ delL l f t ↔ x ∈ l ∧ ¬ (f ≤ x.t ∧ x.t < t) := by
  unfold delL
  rw [List.mem_append]
  have hm : ahd l t ≤ Nat.max (ahd l f) (ahd l t) := Nat.le_max_right _ _
  have hm2 : ahd l f ≤ Nat.max (ahd l f) (ahd l t) := Nat.le_max_left _ _
  have hm3 : Nat.max (ahd l f) (ahd l t) = ahd l f ∨ Nat.max (ahd l f) (ahd l t) = ahd l t := by
    rcases Nat.le_total (ahd l f) (ahd l t) with h | h
    · exact Or.inr (Nat.max_eq_right h)
    · exact Or.inl (Nat.max_eq_left h)
  constructor
  · rintro (hx | hx)
    · obtain ⟨j, hj⟩ := List.getElem?_of_mem hx
      rw [List.getElem?_take] at hj
      split at hj
      · rename_i hlt
        have := (ahd_iff h f hj).1 hlt
        exact ⟨List.mem_of_getElem? hj, by omega⟩
      · cases hj
    · obtain ⟨j, hj⟩ := List.getElem?_of_mem hx
      rw [List.getElem?_drop] at hj
      have h2 := ahd_iff h t hj
      refine ⟨List.mem_of_getElem? hj, fun hh => ?_⟩
      have := h2.2 hh.2
      omega
  · rintro ⟨hx, hne⟩
    obtain ⟨j, hj⟩ := List.getElem?_of_mem hx
    have h1 := ahd_iff h f hj
    have h2 := ahd_iff h t hj
    rcases Nat.lt_or_ge j (ahd l f) with hlt | hge
    · refine Or.inl (List.mem_of_getElem? (i := j) ?_)
      rw [List.getElem?_take, if_pos hlt]; exact hj
    · refine Or.inr (List.mem_of_getElem? (i := j - Nat.max (ahd l f) (ahd l t)) ?_)
      have k1 : ¬ x.t < f := fun hh => by have := h1.2 hh; omega
      have k2 : ¬ j < ahd l t := fun hh => hne ⟨by omega, h2.1 hh⟩
      rw [List.getElem?_drop, show Nat.max (ahd l f) (ahd l t) + (j - Nat.max (ahd l f) (ahd l t)) = j by omega]
      exact hj
theorem delL_none {l : List Smp} (f t : Int) (h : (rangeL l f t).length = 0) : delL l f t = l := by
  unfold rangeL at h
  rw [List.length_take, List.length_drop] at h
  have h1 := ahd_le l f
  have h2 := ahd_le l t
  have hm : Nat.max (ahd l f) (ahd l t) ≤ l.length := Nat.max_le.2 ⟨h1, h2⟩
  have hm2 : ahd l f ≤ Nat.max (ahd l f) (ahd l t) := Nat.le_max_left _ _
  unfold delL
  rw [show Nat.max (ahd l f) (ahd l t) = ahd l f by omega, List.take_append_drop]
end Go.Proofs.YtfgfeipoddnekaaDoor.Ser

namespace Go.Proofs.YtfgfeipoddnekaaDoor.Ser
open Go.RowKit
set_option linter.unusedVariables false
set_option linter.unusedSimpArgs false
theorem own_keep {w w' : World} {B n : Nat} {v : Value} {xs : List Value} (h : w.ownsRow B 37 3 v n xs) (hk : ∀ g, v.ownBlock = some g → w'.heap[g]? = w.heap[g]?) : w'.ownsRow B 37 3 v n xs := by
  refine ⟨h.1, ?_⟩
  rcases h.2 with h2 | ⟨g, cap, cur, e1, e2, e3, e4⟩
  · exact Or.inl h2
  · exact Or.inr ⟨g, cap, cur, e1, e2, by rw [hk g (by rw [e1]; rfl)]; exact e3, e4⟩
/-- without the one of a time. -/
def cutL (l : List Smp) (t : Int) : List Smp := if hasT l t = true then l.take (ahd l t) ++ l.drop (ahd l t + 1) else l
theorem cutL_mem {l : List Smp} (h : Rise l) (t : Int) (x : Smp) : x ∈ cutL l t ↔ x ∈ l ∧ x.t ≠ t := by
  unfold cutL
  split
  · rename_i hh
    obtain ⟨y, hy, hyt⟩ := (hasT_iff h t).1 hh
    rw [List.mem_append]
    constructor
    · rintro (hx | hx)
      · obtain ⟨j, hj⟩ := List.getElem?_of_mem hx
        rw [List.getElem?_take] at hj
        split at hj
        · rename_i hlt
          have := (ahd_iff h t hj).1 hlt
          exact ⟨List.mem_of_getElem? hj, by omega⟩
        · cases hj
      · obtain ⟨j, hj⟩ := List.getElem?_of_mem hx
        rw [List.getElem?_drop] at hj
        have := h.lt (by omega) hy hj
        exact ⟨List.mem_of_getElem? hj, by omega⟩
    · rintro ⟨hx, hne⟩
      obtain ⟨j, hj⟩ := List.getElem?_of_mem hx
      rcases Nat.lt_trichotomy j (ahd l t) with hlt | he | hgt
      · refine Or.inl (List.mem_of_getElem? (i := j) ?_)
        rw [List.getElem?_take, if_pos hlt]; exact hj
      · subst he; rw [hy] at hj; cases hj; exact absurd hyt hne
      · refine Or.inr (List.mem_of_getElem? (i := j - (ahd l t + 1)) ?_)
        rw [List.getElem?_drop, show ahd l t + 1 + (j - (ahd l t + 1)) = j by omega]; exact hj
  · rename_i hh
    have hf : hasT l t = false := by simpa using hh
    exact ⟨fun hx => ⟨hx, hasT_false hf x hx⟩, fun hx => hx.1⟩
end Go.Proofs.YtfgfeipoddnekaaDoor.Ser

namespace Go.Proofs.YtfgfeipoddnekaaDoor.Ser
open Go.RowKit
set_option linter.unusedVariables false
set_option linter.unusedSimpArgs false
/-- a step. -/
structure Stp where
  k : Int
  t : Int
  u : Int
  vk : Nat
  vx : Int
  la : Option Addr
  lc : Nat
  ls : List Smp
def Stp.smp (s : Stp) : Smp := ⟨s.t, s.vk, s.vx⟩
def Stp.ok (s : Stp) : Prop := (-9223372036854775808 ≤ s.t ∧ s.t ≤ 9223372036854775807) ∧ (-9223372036854775808 ≤ s.u ∧ s.u ≤ 9223372036854775807) ∧ s.vk < 256 ∧ -9223372036854775808 ≤ s.vx ∧ s.vx ≤ 9223372036854775807
/-- steps in memory. -/
def StIn (w : World) (a : Option Addr) (n : Nat) (st : Nat → Stp) : Prop := n ≤ 2199023255552 ∧ (∀ i, i < n → (st i).ok) ∧ (n = 0 ∨ ∃ b off, a = some ⟨b, off, none⟩ ∧ b < w.heap.size ∧ ∀ i, i < n → w.cell? ⟨b, off + i * 6, none⟩ = some (.int .i64 (st i).k) ∧ w.cell? ⟨b, off + i * 6 + 1, none⟩ = some (.int .i64 (st i).t) ∧ w.cell? ⟨b, off + i * 6 + 2, none⟩ = some (.int .i64 (st i).u) ∧ w.cell? ⟨b, off + i * 6 + 3, none⟩ = some (.int .u8 ((st i).vk : Int)) ∧ w.cell? ⟨b, off + i * 6 + 4, none⟩ = some (.int .i64 (st i).vx) ∧ w.cell? ⟨b, off + i * 6 + 5, none⟩ = some (.slice (st i).la (st i).ls.length (st i).lc))
theorem below_drewN {B : Nat} {w w' : World} (h : Below B w w') (k : Nat) : Below B w (w'.drewN k) := ⟨h.os, h.tape, h.output, h.size, h.block⟩
theorem StIn.cells {w wr : World} {a : Option Addr} {n : Nat} {st : Nat → Stp} (h : StIn w a n st) (hB : Below w.heap.size w wr) {k : Nat} (hk : k < n) : ∃ b off, a = some ⟨b, off, none⟩ ∧ b < w.heap.size ∧ wr.cell? ⟨b, off + k * 6, none⟩ = some (.int .i64 (st k).k) ∧ wr.cell? ⟨b, off + k * 6 + 1, none⟩ = some (.int .i64 (st k).t) ∧ wr.cell? ⟨b, off + k * 6 + 2, none⟩ = some (.int .i64 (st k).u) ∧ wr.cell? ⟨b, off + k * 6 + 3, none⟩ = some (.int .u8 ((st k).vk : Int)) ∧ wr.cell? ⟨b, off + k * 6 + 4, none⟩ = some (.int .i64 (st k).vx) ∧ wr.cell? ⟨b, off + k * 6 + 5, none⟩ = some (.slice (st k).la (st k).ls.length (st k).lc) := by
  rcases h.2.2 with h0 | ⟨b, off, e, hb, hc⟩
  · omega
  · obtain ⟨c0, c1, c2, c3, c4, c5⟩ := hc k hk
    refine ⟨b, off, e, hb, ?_, ?_, ?_, ?_, ?_, ?_⟩
    · rw [hB.cell (p := ⟨b, off + k * 6, none⟩) hb]; exact c0
    · rw [hB.cell (p := ⟨b, off + k * 6 + 1, none⟩) hb]; exact c1
    · rw [hB.cell (p := ⟨b, off + k * 6 + 2, none⟩) hb]; exact c2
    · rw [hB.cell (p := ⟨b, off + k * 6 + 3, none⟩) hb]; exact c3
    · rw [hB.cell (p := ⟨b, off + k * 6 + 4, none⟩) hb]; exact c4
    · rw [hB.cell (p := ⟨b, off + k * 6 + 5, none⟩) hb]; exact c5
/-- what lies there behind steps of puts, cuts and deletions. -/
def runS (st : Nat → Stp) : Nat → List Smp
  | 0 => []
  | i + 1 => if (st i).k = 0 then putL (runS st i) (st i).smp else if (st i).k = 1 then cutL (runS st i) (st i).t else if (st i).k = 2 then delL (runS st i) (st i).t (st i).u else runS st i
theorem cutL_sub (l : List Smp) (t : Int) : (cutL l t).Sublist l := by
  unfold cutL
  split
  · exact cut_sub l _ _ (by omega)
  · exact List.Sublist.refl _
theorem delL_sub (l : List Smp) (f t : Int) : (delL l f t).Sublist l := cut_sub l _ _ (Nat.le_max_left _ _)
theorem putL_rise {l : List Smp} (h : Rise l) (s : Smp) : Rise (putL l s) := by
  unfold putL
  split
  · rename_i hh
    obtain ⟨y, hy, ht⟩ := (hasT_iff h s.t).1 hh
    have := h.set hy s.k s.x
    rw [ht] at this; exact this
  · rename_i hh
    have hf : hasT l s.t = false := by simpa using hh
    refine layR_rise l _ _ _ ?_ (by simp) (by simp) ?_
    · rw [List.take_length, List.append_nil]; exact h
    · intro x hx y hy
      simp at hx; subst hx
      exact hasT_false hf y hy
theorem runS_rise (st : Nat → Stp) : ∀ i, Rise (runS st i)
  | 0 => List.Pairwise.nil
  | i + 1 => by
    unfold runS
    split
    · exact putL_rise (runS_rise st i) _
    · split
      · exact List.Pairwise.sublist (cutL_sub _ _) (runS_rise st i)
      · split
        · exact List.Pairwise.sublist (delL_sub _ _ _) (runS_rise st i)
        · exact runS_rise st i
theorem runS_len (st : Nat → Stp) : ∀ i, (runS st i).length ≤ i
  | 0 => by simp [runS]
  | i + 1 => by
    have ih := runS_len st i
    unfold runS
    split
    · have := putL_len (l := runS st i) (st i).smp; omega
    · split
      · have := (cutL_sub (runS st i) (st i).t).length_le; omega
      · split
        · have := (delL_sub (runS st i) (st i).t (st i).u).length_le; omega
        · omega
/-- takes a time away. -/
def Stp.rem (s : Stp) (t : Int) : Prop := (s.k = 1 ∧ s.t = t) ∨ (s.k = 2 ∧ s.t ≤ t ∧ t < s.u)
theorem runS_mem (st : Nat → Stp) : ∀ m x, x ∈ runS st m ↔ ∃ i, i < m ∧ (st i).k = 0 ∧ x = (st i).smp ∧ ∀ k, i < k → k < m → ¬ ((st k).k = 0 ∧ (st k).t = x.t) ∧ ¬ (st k).rem x.t
  | 0, x => by simp [runS]
  | m + 1, x => by
    have ih := runS_mem st m x
    have hr := runS_rise st m
    -- x was there, and the step leaves it
    have key : (x ∈ runS st m ∧ ¬ ((st m).k = 0 ∧ (st m).t = x.t) ∧ ¬ (st m).rem x.t) ↔ ∃ i, i < m ∧ (st i).k = 0 ∧ x = (st i).smp ∧ ∀ k, i < k → k < m + 1 → ¬ ((st k).k = 0 ∧ (st k).t = x.t) ∧ ¬ (st k).rem x.t := by
      rw [ih]
      constructor
      · rintro ⟨⟨i, h1, h2, h3, h4⟩, h5⟩
        refine ⟨i, h1, h2, h3, fun k hk hk2 => ?_⟩
        rcases Nat.lt_or_ge k m with h | h
        · exact h4 k hk h
        · obtain rfl : k = m := by omega
          exact h5
      · rintro ⟨i, h1, h2, h3, h4⟩
        exact ⟨⟨i, h1, h2, h3, fun k hk hk2 => h4 k hk (by omega)⟩, h4 m h1 (by omega)⟩
    have split' : (∃ i, i < m + 1 ∧ (st i).k = 0 ∧ x = (st i).smp ∧ ∀ k, i < k → k < m + 1 → ¬ ((st k).k = 0 ∧ (st k).t = x.t) ∧ ¬ (st k).rem x.t) ↔ ((st m).k = 0 ∧ x = (st m).smp) ∨ (x ∈ runS st m ∧ ¬ ((st m).k = 0 ∧ (st m).t = x.t) ∧ ¬ (st m).rem x.t) := by
      rw [key]
      constructor
      · rintro ⟨i, h1, h2, h3, h4⟩
        rcases Nat.lt_or_ge i m with h | h
        · exact Or.inr ⟨i, h, h2, h3, h4⟩
        · obtain rfl : i = m := by omega
          exact Or.inl ⟨h2, h3⟩
      · rintro (⟨h1, h2⟩ | ⟨i, h1, h2, h3, h4⟩)
        · exact ⟨m, by omega, h1, h2, fun k hk hk2 => by omega⟩
        · exact ⟨i, by omega, h2, h3, h4⟩
    rw [split', show runS st (m + 1) = (if (st m).k = 0 then putL (runS st m) (st m).smp else if (st m).k = 1 then cutL (runS st m) (st m).t else if (st m).k = 2 then delL (runS st m) (st m).t (st m).u else runS st m) from rfl]
    split
    · rename_i h0
      rw [putL_mem hr]
      have hs : (st m).smp.t = (st m).t := rfl
      have hrem : ¬ (st m).rem x.t := by unfold Stp.rem; omega
      constructor
      · rintro (h | ⟨h, hne⟩)
        · exact Or.inl ⟨h0, h⟩
        · exact Or.inr ⟨h, fun hh => hne (by rw [hs]; exact hh.2.symm), hrem⟩
      · rintro (⟨_, h⟩ | ⟨h, hne, _⟩)
        · exact Or.inl h
        · exact Or.inr ⟨h, fun e => hne ⟨h0, by rw [hs] at e; exact e.symm⟩⟩
    · rename_i h0
      split
      · rename_i h1
        rw [cutL_mem hr]
        have hrem : (st m).rem x.t ↔ (st m).t = x.t := by unfold Stp.rem; omega
        rw [hrem]
        constructor
        · rintro ⟨h, hne⟩; exact Or.inr ⟨h, fun hh => h0 hh.1, fun e => hne e.symm⟩
        · rintro (⟨h, _⟩ | ⟨h, _, hne⟩)
          · exact absurd h h0
          · exact ⟨h, fun e => hne e.symm⟩
      · rename_i h1
        split
        · rename_i h2
          rw [delL_mem hr]
          have hrem : (st m).rem x.t ↔ ((st m).t ≤ x.t ∧ x.t < (st m).u) := by unfold Stp.rem; omega
          rw [hrem]
          constructor
          · rintro ⟨h, hne⟩; exact Or.inr ⟨h, fun hh => h0 hh.1, hne⟩
          · rintro (⟨h, _⟩ | ⟨h, _, hne⟩)
            · exact absurd h h0
            · exact ⟨h, hne⟩
        · rename_i h2
          have hrem : ¬ (st m).rem x.t := by unfold Stp.rem; omega
          constructor
          · intro h; exact Or.inr ⟨h, fun hh => h0 hh.1, hrem⟩
          · rintro (⟨h, _⟩ | ⟨h, _, _⟩)
            · exact absurd h h0
            · exact h
/-- no put of its time behind it. -/
def lastTo (st : Nat → Stp) (i : Nat) (m : Nat) : Prop := ∀ k, i < k → k < m → ¬ ((st k).k = 0 ∧ (st k).t = (st i).t)
def goneTo (st : Nat → Stp) (i : Nat) (m : Nat) : Prop := ∃ k, i < k ∧ k < m ∧ (st k).rem (st i).t
theorem last_has (st : Nat → Stp) (n i : Nat) (hi : i < n) (h0 : (st i).k = 0) (hl : lastTo st i n) : (hasT (runS st n) (st i).t = true ↔ ¬ goneTo st i n) ∧ (hasT (runS st n) (st i).t = true → getV (runS st n) (st i).t = ((st i).vk, (st i).vx)) := by
  have hr := runS_rise st n
  have only : ∀ x, x ∈ runS st n → x.t = (st i).t → x = (st i).smp ∧ ¬ goneTo st i n := by
    intro x hx hxt
    obtain ⟨j, h1, h2, h3, h4⟩ := (runS_mem st n x).1 hx
    have hjt : (st j).t = x.t := by rw [h3]; rfl
    rcases Nat.lt_trichotomy j i with h | h | h
    · exact absurd ⟨h0, hxt.symm⟩ (h4 i h hi).1
    · subst h
      refine ⟨h3, ?_⟩
      rintro ⟨k, k1, k2, k3⟩
      exact (h4 k k1 k2).2 (by rw [hxt]; exact k3)
    · exact absurd ⟨h2, by omega⟩ (hl j h h1)
  refine ⟨⟨fun hh => ?_, fun hg => ?_⟩, fun hh => ?_⟩
  · obtain ⟨y, hy, hyt⟩ := hasT_mem.1 hh
    exact (only y hy hyt).2
  · refine hasT_mem.2 ⟨(st i).smp, (runS_mem st n _).2 ⟨i, hi, h0, rfl, fun k hk hk2 => ⟨hl k hk hk2, fun hr => hg ⟨k, hk, hk2, hr⟩⟩⟩, rfl⟩
  · obtain ⟨y, hy, hyt, hv⟩ := getV_hit hr hh
    rw [hv, (only y (List.mem_of_getElem? hy) hyt).1]; rfl
open Classical in
/-- how many of the first puts are the last ones of their times, and are there. -/
noncomputable def cntS (st : Nat → Stp) (n : Nat) : Nat → Nat
  | 0 => 0
  | i + 1 => cntS st n i + (if (st i).k = 0 ∧ lastTo st i n ∧ hasT (runS st n) (st i).t = true then 1 else 0)
open Classical in
theorem cntS_eq (st : Nat → Stp) (n : Nat) : ∀ i, cntS st n i = ((List.range i).filter (fun i => decide ((st i).k = 0 ∧ lastTo st i n ∧ hasT (runS st n) (st i).t = true))).length
  | 0 => by simp [cntS]
  | i + 1 => by
    rw [cntS, cntS_eq st n i, List.range_succ, List.filter_append, List.length_append]
    congr 1
    split
    · rename_i h; simp [h]
    · rename_i h; simp [h]
theorem cntS_hit (st : Nat → Stp) (n i : Nat) (h : (st i).k = 0 ∧ lastTo st i n ∧ hasT (runS st n) (st i).t = true) : cntS st n (i + 1) = cntS st n i + 1 := by
  rw [cntS, if_pos h]
theorem cntS_miss (st : Nat → Stp) (n i : Nat) (h : ¬ ((st i).k = 0 ∧ lastTo st i n ∧ hasT (runS st n) (st i).t = true)) : cntS st n (i + 1) = cntS st n i := by
  rw [cntS, if_neg h]; rfl
theorem cntS_le (st : Nat → Stp) (n : Nat) : ∀ i, cntS st n i ≤ i
  | 0 => by simp [cntS]
  | i + 1 => by
    have := cntS_le st n i
    unfold cntS
    split <;> omega
open Classical in
theorem cntS_len (st : Nat → Stp) (n : Nat) : (runS st n).length = cntS st n n := by
  have hr := runS_rise st n
  rw [cntS_eq]
  have e : ((List.range n).filter (fun i => decide ((st i).k = 0 ∧ lastTo st i n ∧ hasT (runS st n) (st i).t = true))).length = (((List.range n).filter (fun i => decide ((st i).k = 0 ∧ lastTo st i n ∧ hasT (runS st n) (st i).t = true))).map (fun i => (st i).smp)).length := by simp
  rw [e]
  refine List.Perm.length_eq ((List.perm_ext_iff_of_nodup ?_ ?_).2 ?_)
  · refine List.Pairwise.imp (fun {a b} h => ?_) hr
    intro e; subst e; omega
  · rw [List.Nodup, List.pairwise_map]
    have hnd : ((List.range n).filter (fun i => decide ((st i).k = 0 ∧ lastTo st i n ∧ hasT (runS st n) (st i).t = true))).Pairwise (· < ·) := List.Pairwise.sublist List.filter_sublist List.pairwise_lt_range
    rw [List.pairwise_iff_forall_sublist] at hnd ⊢
    intro a b hab e
    have hlt := hnd hab
    have ha := hab.subset (by simp : a ∈ [a, b])
    have hb := hab.subset (by simp : b ∈ [a, b])
    simp only [List.mem_filter, List.mem_range, decide_eq_true_iff] at ha hb
    exact ha.2.2.1 b hlt hb.1 ⟨hb.2.1, (congrArg Smp.t e).symm⟩
  · intro x
    rw [runS_mem, List.mem_map]
    constructor
    · rintro ⟨i, h1, h2, h3, h4⟩
      have hl : lastTo st i n := fun k hk hk2 hh => (h4 k hk hk2).1 ⟨hh.1, by rw [h3]; exact hh.2⟩
      refine ⟨i, ?_, h3.symm⟩
      simp only [List.mem_filter, List.mem_range, decide_eq_true_iff]
      exact ⟨h1, h2, hl, (last_has st n i h1 h2 hl).1.2 (fun ⟨k, k1, k2, k3⟩ => (h4 k k1 k2).2 (by rw [h3]; exact k3))⟩
    · rintro ⟨i, hi, rfl⟩
      simp only [List.mem_filter, List.mem_range, decide_eq_true_iff] at hi
      obtain ⟨h1, h2, h3, h4⟩ := hi
      have hg := (last_has st n i h1 h2 h3).1.1 h4
      exact ⟨i, h1, h2, rfl, fun k hk hk2 => ⟨h3 k hk hk2, fun hr => hg ⟨k, hk, hk2, hr⟩⟩⟩
end Go.Proofs.YtfgfeipoddnekaaDoor.Ser
