
import Derived.Test.YtfijagdbdbbbpaaDoorBuM
import Derived.Deep.CutRange
import Derived.Test.YtfijagdbdbbbpaaDoorBlFq
namespace Go.Proofs.YtfijagdbdbbbpaaDoor
open Go.RowKit
set_option linter.unusedVariables false
set_option linter.unusedSimpArgs false
theorem make_i64 (n : Nat) (h : n ≤ 1048576) (w : World) : (Instr.makeSlice 53 (.int .i64 (n : Int)) (.int .i64 (n : Int))).run Tryd.prog w = .ok (.slice (some ⟨w.heap.size, 0, none⟩) n n) (w.alloc (.cells (madeCells #[.int .i64 0] n) 2)) := by
  have hi : (Tryd.prog.info? 2).map (fun i => (i.zero, i.bytes, i.size)) = some (some (.int .i64 0), 8, 1) := by kernel_rfl
  obtain ⟨i, i1, i0⟩ := Option.map_eq_some_iff.1 hi
  have i2 : i.zero = some (.int .i64 0) := congrArg (·.1) i0
  have i3 : i.bytes = 8 := congrArg (·.2.1) i0
  have i4 : i.size = 1 := congrArg (·.2.2) i0
  have := run_make (P := Tryd.prog) w 53 2 i (.int .i64 0) Tryd.underlying53 i1 i2 .i64 .i64 (n : Int) (n : Int) (by omega) (by omega) (by rw [i3]; omega) (by omega)
  rw [i4] at this
  simpa [Value.cells] using this
theorem make_val (n : Nat) (h : n ≤ 1048576) (w : World) : (Instr.makeSlice 54 (.int .i64 (n : Int)) (.int .i64 (n : Int))).run Tryd.prog w = .ok (.slice (some ⟨w.heap.size, 0, none⟩) n n) (w.alloc (.cells (madeCells #[.int .u8 0, .int .i64 0] (n * 2)) 57)) := by
  obtain ⟨i, i1, i0⟩ := Option.map_eq_some_iff.1 val_info
  have i2 : i.zero = some (.agg #[.int .u8 0, .int .i64 0]) := congrArg (·.1) i0
  have i3 : i.bytes = 16 := congrArg (·.2.1) i0
  have i4 : i.size = 2 := congrArg (·.2.2) i0
  have := run_make (P := Tryd.prog) w 54 57 i (.agg #[.int .u8 0, .int .i64 0]) Tryd.underlying54 i1 i2 .i64 .i64 (n : Int) (n : Int) (by omega) (by omega) (by rw [i3]; omega) (by omega)
  rw [i4] at this
  simpa [Value.cells] using this
theorem made2_get (n j : Nat) (h : j < n * 2) : (madeCells #[Value.int .u8 0, Value.int .i64 0] (n * 2))[j]? = some (if j % 2 = 0 then .int .u8 0 else .int .i64 0) := by
  unfold madeCells
  rw [Array.getElem?_map, Array.getElem?_range, if_pos h]
  rcases Nat.mod_two_eq_zero_or_one j with e | e <;> simp [e]
/-- what stands while samples are split: the times at g, the values at h; k of them are there. -/
structure SP (w : World) (g h n k : Nat) (tt : Nat → Int) (kk : Nat → Nat) (xx : Nat → Int) (wx : World) : Prop where
  tc : ∀ j, j < n → wx.cell? ⟨g, j, none⟩ = some (.int .i64 (if j < k then tt j else 0))
  tf : ∀ j, j < n → wx.frozen? ⟨g, j, none⟩ = false
  vk : ∀ j, j < n → wx.cell? ⟨h, j * 2, none⟩ = some (.int .u8 (if j < k then (kk j : Int) else 0))
  vx : ∀ j, j < n → wx.cell? ⟨h, j * 2 + 1, none⟩ = some (.int .i64 (if j < k then xx j else 0))
  vf : ∀ j, j < n * 2 → wx.frozen? ⟨h, j, none⟩ = false
  b : Below w.heap.size w wx
  l1 : w.heap.size ≤ g
  l2 : g ≠ h
  l3 : h < wx.heap.size
  l4 : g < wx.heap.size
  l5 : w.heap.size ≤ h
theorem SP.start (w : World) (n : Nat) (tt : Nat → Int) (kk : Nat → Nat) (xx : Nat → Int) : SP w w.heap.size (w.heap.size + 1) n 0 tt kk xx ((w.alloc (.cells (madeCells #[.int .i64 0] n) 2)).alloc (.cells (madeCells #[.int .u8 0, .int .i64 0] (n * 2)) 57)) := by
  have hz : ∀ j, j < n → (madeCells #[Value.int .i64 0] n)[j]? = some (.int .i64 0) := fun j hj => by
    rw [← Array.getElem?_toList, toList_madeCells_one]; simp [hj]
  have hB1 := below_new (Below.refl _ w) (.cells (madeCells #[.int .i64 0] n) 2)
  obtain ⟨W, hW⟩ : ∃ W, W = w.alloc (.cells (madeCells #[.int .i64 0] n) 2) := ⟨_, rfl⟩
  have hWs : W.heap.size = w.heap.size + 1 := by rw [hW]; simp
  have hB2 := below_new (Below.refl _ W) (.cells (madeCells #[.int .u8 0, .int .i64 0] (n * 2)) 57)
  have c2 : ∀ j, j < n * 2 → (W.alloc (.cells (madeCells #[.int .u8 0, .int .i64 0] (n * 2)) 57)).cell? ⟨W.heap.size, j, none⟩ = some (if j % 2 = 0 then .int .u8 0 else .int .i64 0) := fun j hj => by
    rw [cell_of_row _ W.heap.size j _ 57 (0, 0) (heap_alloc_new W _)]; exact made2_get n j hj
  have f2 : ∀ j, (W.alloc (.cells (madeCells #[.int .u8 0, .int .i64 0] (n * 2)) 57)).frozen? ⟨W.heap.size, j, none⟩ = false := fun j => frozen_of_row _ W.heap.size j _ 57 (heap_alloc_new W _)
  rw [← hW] at hB1 ⊢
  rw [hWs] at c2 f2
  refine ⟨fun j hj => ?_, fun j hj => ?_, fun j hj => ?_, fun j hj => ?_, fun j hj => f2 j, below_then hB1 hB2, Nat.le_refl _, by omega, by simp [hWs], by simp [hWs]; omega, by omega⟩
  · rw [hB2.cell (p := ⟨w.heap.size, j, none⟩) (by show w.heap.size < W.heap.size; omega), hW, cell_of_row _ w.heap.size j _ 2 (0, 0) (heap_alloc_new w _), if_neg (by omega)]; exact hz j hj
  · rw [hB2.frozen (p := ⟨w.heap.size, j, none⟩) (by show w.heap.size < W.heap.size; omega), hW]; exact frozen_of_row _ w.heap.size j _ 2 (heap_alloc_new w _)
  · rw [c2 _ (by omega), if_pos (by omega), if_neg (by omega)]
  · rw [c2 _ (by omega), if_neg (by omega), if_neg (by omega)]
theorem SP.start2 (w : World) (n : Nat) (tt : Nat → Int) (kk : Nat → Nat) (xx : Nat → Int) : SP w (w.heap.size + 1) w.heap.size n 0 tt kk xx ((w.alloc (.cells (madeCells #[.int .u8 0, .int .i64 0] (n * 2)) 57)).alloc (.cells (madeCells #[.int .i64 0] n) 2)) := by
  have hz : ∀ j, j < n → (madeCells #[Value.int .i64 0] n)[j]? = some (.int .i64 0) := fun j hj => by
    rw [← Array.getElem?_toList, toList_madeCells_one]; simp [hj]
  have hB1 := below_new (Below.refl _ w) (.cells (madeCells #[.int .u8 0, .int .i64 0] (n * 2)) 57)
  have c2 : ∀ j, j < n * 2 → (w.alloc (.cells (madeCells #[.int .u8 0, .int .i64 0] (n * 2)) 57)).cell? ⟨w.heap.size, j, none⟩ = some (if j % 2 = 0 then .int .u8 0 else .int .i64 0) := fun j hj => by
    rw [cell_of_row _ w.heap.size j _ 57 (0, 0) (heap_alloc_new w _)]; exact made2_get n j hj
  have f2 : ∀ j, (w.alloc (.cells (madeCells #[.int .u8 0, .int .i64 0] (n * 2)) 57)).frozen? ⟨w.heap.size, j, none⟩ = false := fun j => frozen_of_row _ w.heap.size j _ 57 (heap_alloc_new w _)
  obtain ⟨W, hW⟩ : ∃ W, W = w.alloc (.cells (madeCells #[.int .u8 0, .int .i64 0] (n * 2)) 57) := ⟨_, rfl⟩
  have hWs : W.heap.size = w.heap.size + 1 := by rw [hW]; simp
  rw [← hW] at hB1 c2 f2 ⊢
  have hB2 := below_new (Below.refl _ W) (.cells (madeCells #[.int .i64 0] n) 2)
  have hl : w.heap.size < W.heap.size := by omega
  rw [← hWs]
  refine ⟨fun j hj => ?_, fun j hj => ?_, fun j hj => ?_, fun j hj => ?_, fun j hj => ?_, below_then hB1 hB2, by omega, by omega, by simp; omega, by simp, Nat.le_refl _⟩
  · rw [cell_of_row _ W.heap.size j _ 2 (0, 0) (heap_alloc_new W _), if_neg (by omega)]; exact hz j hj
  · exact frozen_of_row _ W.heap.size j _ 2 (heap_alloc_new W _)
  · rw [hB2.cell (p := ⟨w.heap.size, j * 2, none⟩) hl, c2 _ (by omega), if_pos (by omega), if_neg (by omega)]
  · rw [hB2.cell (p := ⟨w.heap.size, j * 2 + 1, none⟩) hl, c2 _ (by omega), if_neg (by omega), if_neg (by omega)]
  · rw [hB2.frozen (p := ⟨w.heap.size, j, none⟩) hl]; exact f2 j
theorem SP.below {w : World} {g h n k : Nat} {tt : Nat → Int} {kk : Nat → Nat} {xx : Nat → Int} {wx w' : World} (s : SP w g h n k tt kk xx wx) (hb : Below wx.heap.size wx w') : SP w g h n k tt kk xx w' := by
  obtain ⟨tc, tf, vk, vx, vf, b, l1, l2, l3, l4, l5⟩ := s
  refine ⟨fun j hj => ?_, fun j hj => ?_, fun j hj => ?_, fun j hj => ?_, fun j hj => ?_, below_then b hb, l1, l2, Nat.lt_of_lt_of_le l3 hb.size, Nat.lt_of_lt_of_le l4 hb.size, l5⟩
  · rw [hb.cell (p := ⟨g, j, none⟩) l4]; exact tc j hj
  · rw [hb.frozen (p := ⟨g, j, none⟩) l4]; exact tf j hj
  · rw [hb.cell (p := ⟨h, j * 2, none⟩) l3]; exact vk j hj
  · rw [hb.cell (p := ⟨h, j * 2 + 1, none⟩) l3]; exact vx j hj
  · rw [hb.frozen (p := ⟨h, j, none⟩) l3]; exact vf j hj
theorem SP.put {w : World} {g h n k : Nat} {tt : Nat → Int} {kk : Nat → Nat} {xx : Nat → Int} {wx : World} (s : SP w g h n k tt kk xx wx) (hk : k < n) : SP w g h n (k + 1) tt kk xx (((wx.setCell ⟨g, k, none⟩ (.int .i64 (tt k))).setCell ⟨h, k * 2, none⟩ (.int .u8 (kk k : Int))).setCell ⟨h, k * 2 + 1, none⟩ (.int .i64 (xx k))) := by
  obtain ⟨tc, tf, vk, vx, vf, b, l1, l2, l3, l4, l5⟩ := s
  refine ⟨fun j hj => ?_, fun j hj => by simpa using tf j hj, fun j hj => ?_, fun j hj => ?_, fun j hj => by simpa using vf j hj, ((b.setCell (p := ⟨g, k, none⟩) l1 _).setCell (p := ⟨h, k * 2, none⟩) (show w.heap.size ≤ h by omega) _).setCell (p := ⟨h, k * 2 + 1, none⟩) (show w.heap.size ≤ h by omega) _, l1, l2, by simpa using l3, by simpa using l4, l5⟩
  · rw [World.cell?_setCell_other _ _ _ _ (by intro e; injection e with e1; omega), World.cell?_setCell_other _ _ _ _ (by intro e; injection e with e1; omega)]
    by_cases e : j = k
    · subst e; rw [if_pos (by omega)]; exact World.cell?_setCell_same _ _ _ (tc j hj)
    · rw [World.cell?_setCell_other _ _ _ _ (by intro e'; injection e' with e1 e2; omega), tc j hj]
      by_cases e2 : j < k
      · rw [if_pos e2, if_pos (by omega)]
      · rw [if_neg e2, if_neg (by omega)]
  · rw [World.cell?_setCell_other _ _ _ _ (by intro e; injection e with e1 e2; omega)]
    by_cases e : j = k
    · subst e; rw [if_pos (by omega)]; exact World.cell?_setCell_same _ _ _ (u := .int .u8 (if j < j then (kk j : Int) else 0)) (by rw [World.cell?_setCell_other _ _ _ _ (by intro e; injection e with e1; omega)]; exact vk j hj)
    · rw [World.cell?_setCell_other _ _ _ _ (by intro e'; injection e' with e1 e2; omega), World.cell?_setCell_other _ _ _ _ (by intro e'; injection e' with e1 e2; omega), vk j hj]
      by_cases e2 : j < k
      · rw [if_pos e2, if_pos (by omega)]
      · rw [if_neg e2, if_neg (by omega)]
  · by_cases e : j = k
    · subst e; rw [if_pos (by omega)]; exact World.cell?_setCell_same _ _ _ (u := .int .i64 (if j < j then xx j else 0)) (by rw [World.cell?_setCell_other _ _ _ _ (by intro e; injection e with e1 e2; omega), World.cell?_setCell_other _ _ _ _ (by intro e; injection e with e1; omega)]; exact vx j hj)
    · rw [World.cell?_setCell_other _ _ _ _ (by intro e'; injection e' with e1 e2; omega), World.cell?_setCell_other _ _ _ _ (by intro e'; injection e' with e1 e2; omega), World.cell?_setCell_other _ _ _ _ (by intro e'; injection e' with e1 e2; omega), vx j hj]
      by_cases e2 : j < k
      · rw [if_pos e2, if_pos (by omega)]
      · rw [if_neg e2, if_neg (by omega)]
set_option maxRecDepth 100000 in
set_option maxHeartbeats 4000000 in
theorem split_any (a : Option Addr) (n cap : Nat) (tt : Nat → Int) (kk : Nat → Nat) (xx : Nat → Int) (w : World) (h : SIn w a n tt kk xx) (hs : n ≤ 1048576) : Calls Tryd.prog 24 #[.slice a n cap] w fun e w' => ∃ g h, e = .returned (.tuple #[.slice (some ⟨g, 0, none⟩) n n, .slice (some ⟨h, 0, none⟩) n n]) ∧ IsIn w' (some ⟨g, 0, none⟩) n tt ∧ VIn w' (some ⟨h, 0, none⟩) n kk xx ∧ Below w.heap.size w w' := by
  have hmk := make_i64 n hs
  have hmk2 := make_val n hs
  have hst : Hid _ := SP.start w n tt kk xx
  have hst2 : Hid _ := SP.start2 w n tt kk xx
  have hhH : Hid (SIn w a n tt kk xx) := h
  clear h
  go_enter Tryd.func24, Tryd.ntmps24
  go_wp2_with fail
  go_cut [2, 3] from 6 to 11 (fun t v wx => ∃ g h, t = .slice (some ⟨g, 0, none⟩) n n ∧ v = .slice (some ⟨h, 0, none⟩) n n ∧ SP w g h n 0 tt kk xx wx)
  case first =>
    go_region_with (fail)
    all_goals
      go_wp2_with fail
      go_meet
      first | exact ⟨_, _, rfl, rfl, hst.out.below (Below.refl _ _).drew⟩ | exact ⟨_, _, rfl, rfl, hst2.out.below (Below.refl _ _).drew⟩
  case rest =>
    clear hst hst2 hmk hmk2
    obtain ⟨g, h, rfl, rfl, hS⟩ := hcut
    have hSH : Hid (SP w g h n 0 tt kk xx wc) := hS
    clear hS
    go_wp2_with fail
    go_loopw [14] (fun ix wr => ∃ k : Nat, k ≤ n ∧ ix = .int .i64 (k : Int) ∧ SP w g h n k tt kk xx wr) (fun ix _ => n - (intOf ix).toNat)
    case atStart => exact ⟨0, by omega, rfl, hSH.out⟩
    case round =>
      clear hSH
      obtain ⟨k, hk, rfl, hS⟩ := hrel
      by_cases hkn : k < n
      · have hkI : (k : Int) < (n : Int) := by omega
        have k1 : (0 : Int) ≤ (k : Int) := by omega
        obtain ⟨hn1, hz, hz', hc⟩ := hhH.out
        rcases hc with h0 | ⟨b, off, rfl, hb, hcc⟩
        · omega
        have hBw := hS.b
        have d1 : wr.cell? ⟨b, off + k * 3, none⟩ = some (.int .i64 (tt k)) := by rw [hBw.cell (p := ⟨b, off + k * 3, none⟩) hb]; exact (hcc k hkn).1
        have d2 : wr.cell? ⟨b, off + k * 3 + 1, none⟩ = some (.int .u8 (kk k : Int)) := by rw [hBw.cell (p := ⟨b, off + k * 3 + 1, none⟩) hb]; exact (hcc k hkn).2.1
        have d3 : wr.cell? ⟨b, off + k * 3 + 2, none⟩ = some (.int .i64 (xx k)) := by rw [hBw.cell (p := ⟨b, off + k * 3 + 2, none⟩) hb]; exact (hcc k hkn).2.2
        have e1 := hS.tc k hkn
        have e2 := hS.tf k hkn
        have e3 := hS.vk k hkn
        have e4 := hS.vx k hkn
        have e5 := hS.vf (k * 2) (by omega)
        have e6 := hS.vf (k * 2 + 1) (by omega)
        have l2 := hS.l2
        have l3 := hS.l3
        have l4 := hS.l4
        have hSH : Hid _ := hS
        clear hz hz' hcc hS hBw
        go_wp2_with fail
        go_region_with (fail)
        all_goals
          go_wp2_with fail
          go_roundw
          case rel =>
            exact ⟨k + 1, by omega, by go_num, ((hSH.out.put hkn).below (below_new (Below.refl _ _) _)).below (Below.refl _ _).drew⟩
          case measure => simp [intOf]; omega
      · obtain rfl : n = k := by omega
        have hkI : ¬ (n : Int) < (n : Int) := by omega
        obtain ⟨hn1, hz, hz', hc⟩ := hhH.out
        clear hc
        go_wp2_with fail
        simp [bodyPost, results, Tryd.results24, go_sem]
        refine ⟨g, h, ⟨rfl, rfl⟩, ⟨by omega, hz', Or.inr ⟨g, 0, rfl, hS.l4, fun i hi => ?_⟩⟩, ⟨hn1, hz, Or.inr ⟨h, 0, rfl, hS.l3, fun i hi => ⟨?_, ?_⟩⟩⟩, hS.b⟩
        · rw [Nat.zero_add, hS.tc i hi, if_pos hi]
        · rw [Nat.zero_add, hS.vk i hi, if_pos hi]
        · rw [Nat.zero_add, hS.vx i hi, if_pos hi]
end Go.Proofs.YtfijagdbdbbbpaaDoor

namespace Go.Proofs.YtfijagdbdbbbpaaDoor
open Go.RowKit
set_option linter.unusedVariables false
set_option linter.unusedSimpArgs false
/-- bytes more, their length ahead. -/
def rawOn (l : List Nat) (s : List Nat × Nat) : List Nat × Nat := (s.1 ++ uB l.length ++ l, 0)
theorem bytesL_nats (l : List Nat) : bytesL (natsOf l) l.length = l := by
  apply List.ext_getElem?
  intro i
  unfold bytesL natsOf
  rw [List.getElem?_map]
  by_cases h : i < l.length
  · rw [List.getElem?_range h]; simp [List.getD_eq_getElem?_getD, h]
  · rw [List.getElem?_eq_none (by simp; omega), List.getElem?_eq_none (by omega)]; rfl
theorem rawOn_CL {l : List Nat} {s : List Nat × Nat} (hl : ∀ y ∈ l, y < 256) (hn : l.length < 18446744073709551616) (h : CL s.1 s.2) : CL (rawOn l s).1 (rawOn l s).2 := by
  have h1 := uOn_CL hn h
  refine ⟨by simp [rawOn], fun y hy => ?_, fun h => absurd rfl h⟩
  rcases List.mem_append.1 hy with h2 | h2
  · exact h1.2.1 y h2
  · exact hl y h2
theorem in_lt {w : World} {a : Option Addr} {l : List Nat} (h : BytesIn w a l.length (natsOf l)) : ∀ y ∈ l, y < 256 := by
  rcases h.2 with h0 | ⟨b, off, e, hb, hB⟩
  · intro y hy
    rw [List.eq_nil_of_length_eq_zero h0] at hy
    cases hy
  · have := bytesL_lt (bs := natsOf l) (m := l.length) fun i hi => (hB i hi).2
    rw [bytesL_nats] at this
    exact this
theorem raw_in {N : Nat} {w1 w : World} {fr : Int} {v : Value} {n : Nat} {xs : List Value} (h : WS N w1 fr v n xs w) (hN : N = w1.heap.size) {a : Option Addr} {m : Nat} {f : Nat → Nat} (hin : BytesIn w1 a m f) :
    m = 0 ∨ ∃ b off, a = some ⟨b, off, none⟩ ∧ b < w.heap.size ∧ b ≠ N ∧ some b ≠ v.ownBlock ∧ BytesAt w b off m f := by
  rcases hin.2 with h0 | ⟨b, off, e, hb', hB⟩
  · exact Or.inl h0
  · refine Or.inr ⟨b, off, e, by have := h.sz; omega, by omega, ?_, fun i hi => ⟨by rw [h.b.cell (p := ⟨b, off + i, none⟩) (by show b < N; omega)]; exact (hB i hi).1, (hB i hi).2⟩⟩
    intro e'
    have := (h.own.lt b e'.symm).1
    omega
theorem rw_raw {N : Nat} {w1 w : World} {s : List Nat × Nat} (h : RW N w1 s w) (hN : N = w1.heap.size) (l : List Nat) (a : Option Addr) (c : Nat) (hin : BytesIn w1 a l.length (natsOf l)) (hb : s.1.length + l.length + 100 ≤ 140737488355328) : Calls Tryd.prog 25 #[.pointer (some ⟨N, 0, none⟩), .slice a l.length c] w fun e w' => e = .returned undef ∧ RW N w1 (rawOn l s) w' := by
  obtain ⟨h1, v, h2⟩ := h
  refine (wraw_fr N w1 _ v _ s.1 w h2 a l.length c (natsOf l) (raw_in h2 hN hin) (by omega)).mono ?_
  rintro e w' ⟨rfl, v', n', hW, _, _⟩
  rw [enc_append, bytesL_nats, enc_append] at hW
  have hn := hW.len
  subst hn
  exact ⟨rfl, rawOn_CL (in_lt hin) (by omega) h1, v', (show WS N w1 (((8 - 0) % 8 : Nat) : Int) v' _ _ w' from hW)⟩
def packS (tt : Nat → Int) (kk : Nat → Nat) (xx : Nat → Int) (n : Nat) : List Nat × Nat := rawOn (valsS kk xx n n).s.1 (rawOn (timesS tt n n).1 ([], 0))
def PackE (tt : Nat → Int) (kk : Nat → Nat) (xx : Nat → Int) (n : Nat) (err : Int → Value) (ok : Value) (e : Ending) (w' : World) : Prop :=
  (¬ (Rises tt n ∧ AllV kk xx n) ∧ e = .returned (.tuple #[.slice none 0 0, err 2])) ∨
  ((Rises tt n ∧ AllV kk xx n) ∧ ∃ a c, e = .returned (.tuple #[.slice a (packS tt kk xx n).1.length c, ok]) ∧ BytesIn w' a (packS tt kk xx n).1.length (natsOf (packS tt kk xx n).1))
set_option maxRecDepth 100000 in
set_option maxHeartbeats 4000000 in
theorem pack_any (a : Option Addr) (n cap : Nat) (tt : Nat → Int) (kk : Nat → Nat) (xx : Nat → Int) (w : World) (h : SIn w a n tt kk xx) (hs : n ≤ 1048576) (hct : CT w) (hg : 0 < w.heap.size) : Calls Tryd.prog 6 #[.slice a n cap] w fun e w' => PackE tt kk xx n (fun c => .iface 77 (.int .i64 c)) .nilIface e w' ∧ Below w.heap.size w w' := by
  have hSp : Hid _ := split_any a n cap tt kk xx w h hs
  have hctH : Hid (CT w) := hct
  clear h hct
  go_enter Tryd.func6, Tryd.ntmps6
  go_wp2_with fail
  refine Calls.mono hSp.out ?_
  rintro e w2 ⟨g, h, rfl, hI, hV, hB2⟩
  have hT : Hid _ := times_any (some ⟨g, 0, none⟩) n n tt w2 hI (CT_below hctH.out hB2 hg) (by have := hB2.size; omega)
  have hVH : Hid (VIn w2 (some ⟨h, 0, none⟩) n kk xx) := hV
  clear hSp hI hV
  go_wp2_with fail
  refine Calls.mono hT.out ?_
  rintro e w3 ⟨hE, hB3⟩
  have hB03 := below_then hB2 hB3
  have hVa : Hid _ := values_any (some ⟨h, 0, none⟩) n n kk xx w3 (hVH.out.below hB3 (Nat.le_refl _))
  clear hT hVH
  rcases hE with ⟨hx, _⟩ | ⟨_, hnr, rfl⟩ | ⟨_, hnr, ta, tc, rfl, hin3⟩
  · omega
  · have hnrH : Hid (¬ Rises tt n) := hnr
    clear hnr hVa hB3 hB2
    go_wp2_with fail
    simp [bodyPost, results, Tryd.results6, go_sem]
    exact ⟨Or.inl ⟨fun hx => hnrH.out hx.1, rfl⟩, hB03⟩
  · have hnrH : Hid (Rises tt n) := hnr
    have hl1 := timesS_len tt n n
    obtain ⟨sl, hsl⟩ : ∃ sl, sl = (timesS tt n n).1 := ⟨_, rfl⟩
    rw [← hsl] at hin3 hl1 ⊢
    have hslH : Hid (sl = (timesS tt n n).1) := hsl
    have hin3H : Hid (BytesIn w3 ta sl.length (natsOf sl)) := hin3
    clear hnr hin3 hsl hB2
    go_wp2_with fail
    refine Calls.mono hVa.out ?_
    rintro e w4 ⟨hE, hB4⟩
    have hB04 := below_then hB03 hB4
    clear hVa
    rcases hE with ⟨hx, _⟩ | ⟨_, hnv, rfl⟩ | ⟨_, hnv, va, vc, rfl, hin4⟩
    · omega
    · have hnvH : Hid (¬ AllV kk xx n) := hnv
      clear hnv hB3 hB4 hB03
      go_wp2_with fail
      simp [bodyPost, results, Tryd.results6, go_sem]
      exact ⟨Or.inl ⟨fun hx => hnvH.out hx.2, rfl⟩, hB04⟩
    · have hnvH : Hid (AllV kk xx n) := hnv
      have hl2 := valsS_len kk xx n n
      obtain ⟨vl, hvl⟩ : ∃ vl, vl = (valsS kk xx n n).s.1 := ⟨_, rfl⟩
      rw [← hvl] at hin4 hl2 ⊢
      have hP : Hid (packS tt kk xx n = rawOn vl (rawOn sl ([], 0))) := (by rw [hvl, hslH.out]; rfl : packS tt kk xx n = rawOn vl (rawOn sl ([], 0)))
      have hul := uB_len sl.length
      have hR1 : Hid _ := rw_raw (RW.start w4) rfl sl ta tc (hin3H.out.below hB4) (by simp; omega)
      have hR2 : Hid (∀ wx, RW w4.heap.size w4 (rawOn sl ([], 0)) wx → Calls Tryd.prog 25 #[.pointer (some ⟨w4.heap.size, 0, none⟩), .slice va vl.length vc] wx fun e w' => e = .returned undef ∧ RW w4.heap.size w4 (rawOn vl (rawOn sl ([], 0))) w') := fun wx hx => rw_raw hx rfl vl va vc hin4 (by simp [rawOn]; omega)
      have hlen : Hid ((rawOn vl (rawOn sl ([], 0))).1.length ≤ 140737488355327) := (by have hu1 := uB_len sl.length; have hu2 := uB_len vl.length; simp [rawOn]; omega : (rawOn vl (rawOn sl ([], 0))).1.length ≤ 140737488355327)
      clear hnv hB3 hB4 hB03 hin4 hvl hul hl1 hl2 hslH hin3H
      go_wp2_with fail
      refine Calls.mono hR1.out ?_
      rintro e w5 ⟨rfl, h5⟩
      have hR3 : Hid _ := hR2.out _ h5
      clear hR1 hR2 h5
      go_wp2_with fail
      refine Calls.mono hR3.out ?_
      rintro e w6 ⟨rfl, h6⟩
      have hb6 := h6.b
      obtain ⟨hCL, v, hWS⟩ := h6
      obtain ⟨S, hS⟩ : ∃ S, S = (rawOn vl (rawOn sl ([], 0))).1 := ⟨_, rfl⟩
      have hlen' := hlen.out
      have hBy : Hid _ := bytesB w4.heap.size w4 _ v S w6 (by rw [hS]; exact hWS) (by rw [hS]; exact hCL.2.1) (by rw [hS]; exact hlen')
      have hSH : Hid (S = (packS tt kk xx n).1) := (by rw [hS, hP.out] : S = (packS tt kk xx n).1)
      have hB06 : Below w.heap.size w w6 := below_then hB04 hb6
      clear hR3 hCL hWS hS hP hlen hlen' hb6
      go_wp2_with fail
      refine Calls.mono hBy.out ?_
      rintro e w7 ⟨ga, gc, rfl, hin, hB7⟩
      have hinH : Hid _ := hin
      clear hin hBy
      go_wp2_with fail
      simp [bodyPost, results, Tryd.results6, go_sem]
      refine ⟨Or.inr ⟨⟨hnrH.out, hnvH.out⟩, ga, gc, ?_, ?_⟩, below_then hB06 hB7⟩
      · rw [hSH.out]
      · rw [← hSH.out]; exact hinH.out
end Go.Proofs.YtfijagdbdbbbpaaDoor

namespace Go.Proofs.YtfijagdbdbbbpaaDoor
open Go.RowKit
set_option linter.unusedVariables false
set_option linter.unusedSimpArgs false
theorem app1I (W : World) (base : Nat) (v : Value) (m : Nat) (xs : List Value) (own : W.ownsRow base 2 1 v m xs) (hbase : base ≤ W.heap.size) (x : Int) (hbig : m + 1 ≤ 10000000) :
    ∃ g c w', (Builtin.append_ #[53, 53] 53 #[v, .slice (some ⟨W.heap.size, 0, none⟩) 1 1]).run Tryd.prog (W.alloc (.cells #[.int .i64 x] 2)) = .ok (.slice (some ⟨g, 0, none⟩) (m + 1) c) w' ∧ w'.ownsRow base 2 1 (.slice (some ⟨g, 0, none⟩) (m + 1) c) (m + 1) (xs ++ [.int .i64 x]) ∧ (W.alloc (.cells #[.int .i64 x] 2)).grownBy w' v.ownBlock ∧ (some g = v.ownBlock ∨ W.heap.size ≤ g) ∧ Below base W w' := by
  obtain ⟨i, i1, i0⟩ := Option.map_eq_some_iff.1 i64_info
  have i2 : i.zero = some (.int .i64 0) := congrArg (·.1) i0
  have i3 : i.bytes = 8 := congrArg (·.2.1) i0
  have i4 : i.size = 1 := congrArg (·.2.2) i0
  have hB0 := below_new (Below.refl _ W) (.cells #[.int .i64 x] 2)
  have own' := own.alloc (.cells #[.int .i64 x] 2)
  have hbase' : base ≤ (W.alloc (.cells #[.int .i64 x] 2)).heap.size := by simp; omega
  obtain ⟨v', w', hr, ho', hg, hnil, hwh⟩ := run_append_own_at (P := Tryd.prog) (W.alloc (.cells #[.int .i64 x] 2)) base 53 53 2 i (.int .i64 0) 1 8 Tryd.underlying53 i1 i2 i4 i3 rfl (by omega) _ m xs own' ⟨W.heap.size, 0, none⟩ 1 1 [.int .i64 x] rfl (fun j u hu => by
    cases j with
    | zero => simp at hu; subst hu; rw [add_none2]; simp [go_sem]
    | succ j => simp at hu) (by intro u hu; simp at hu; subst hu; rfl) (by simp [maxLen]; omega) (by omega) hbase'
  have hB2 : Below base (W.alloc (.cells #[.int .i64 x] 2)) w' := (Below.refl _ _).grown hg hbase' (fun k e => (own'.lt k e).1)
  rcases ho'.2 with ⟨hq, _⟩ | ⟨g, c, cur, hq, hbg, hgr, _⟩
  · have := hnil.1 hq; simp at this
  · subst hq
    refine ⟨g, c, w', hr, ho', hg, ?_, (hB0.mono hbase).trans hB2⟩
    rcases hwh with h | h
    · exact Or.inl h
    · right
      have h' : some g = some (W.alloc (.cells #[.int .i64 x] 2)).heap.size := h
      injection h' with h'
      rw [h']; simp
theorem app1V (W : World) (base : Nat) (v : Value) (m : Nat) (xs : List Value) (own : W.ownsRow base 57 2 v m xs) (hbase : base ≤ W.heap.size) (y x : Int) (hbig : m + 1 ≤ 10000000) :
    ∃ g c w', (Builtin.append_ #[54, 54] 54 #[v, .slice (some ⟨W.heap.size, 0, none⟩) 1 1]).run Tryd.prog (W.alloc (.cells #[.int .u8 y, .int .i64 x] 57)) = .ok (.slice (some ⟨g, 0, none⟩) (m + 1) c) w' ∧ w'.ownsRow base 57 2 (.slice (some ⟨g, 0, none⟩) (m + 1) c) (m + 1) (xs ++ [.int .u8 y, .int .i64 x]) ∧ (W.alloc (.cells #[.int .u8 y, .int .i64 x] 57)).grownBy w' v.ownBlock ∧ (some g = v.ownBlock ∨ W.heap.size ≤ g) ∧ Below base W w' := by
  obtain ⟨i, i1, i0⟩ := Option.map_eq_some_iff.1 val_info
  have i2 : i.zero = some (.agg #[.int .u8 0, .int .i64 0]) := congrArg (·.1) i0
  have i3 : i.bytes = 16 := congrArg (·.2.1) i0
  have i4 : i.size = 2 := congrArg (·.2.2) i0
  have hB0 := below_new (Below.refl _ W) (.cells #[.int .u8 y, .int .i64 x] 57)
  have own' := own.alloc (.cells #[.int .u8 y, .int .i64 x] 57)
  have hbase' : base ≤ (W.alloc (.cells #[.int .u8 y, .int .i64 x] 57)).heap.size := by simp; omega
  obtain ⟨v', w', hr, ho', hg, hnil, hwh⟩ := run_append_own_at (P := Tryd.prog) (W.alloc (.cells #[.int .u8 y, .int .i64 x] 57)) base 54 54 57 i (.agg #[.int .u8 0, .int .i64 0]) 2 16 Tryd.underlying54 i1 i2 i4 i3 rfl (by omega) _ m xs own' ⟨W.heap.size, 0, none⟩ 1 1 [.int .u8 y, .int .i64 x] rfl (fun j u hu => by
    cases j with
    | zero => simp at hu; subst hu; rw [add_none2]; simp [go_sem]
    | succ j =>
      cases j with
      | zero => simp at hu; subst hu; rw [add_none2]; simp [go_sem]
      | succ j => simp at hu) (by intro u hu; simp at hu; rcases hu with rfl | rfl <;> rfl) (by simp [maxLen]; omega) (by omega) hbase'
  have hB2 : Below base (W.alloc (.cells #[.int .u8 y, .int .i64 x] 57)) w' := (Below.refl _ _).grown hg hbase' (fun k e => (own'.lt k e).1)
  rcases ho'.2 with ⟨hq, _⟩ | ⟨g, c, cur, hq, hbg, hgr, _⟩
  · have := hnil.1 hq; simp at this
  · subst hq
    refine ⟨g, c, w', hr, ho', hg, ?_, (hB0.mono hbase).trans hB2⟩
    rcases hwh with h | h
    · exact Or.inl h
    · right
      have h' : some g = some (W.alloc (.cells #[.int .u8 y, .int .i64 x] 57)).heap.size := h
      injection h' with h'
      rw [h']; simp
theorem encI_succ (z : Nat → Int) (n : Nat) : encI z (n + 1) = encI z n ++ [.int .i64 (z n)] := by simp [encI, List.range_succ]
theorem encV_succ (kk : Nat → Nat) (xx : Nat → Int) (n : Nat) : encV kk xx (n + 1) = encV kk xx n ++ [.int .u8 (kk n : Int), .int .i64 (xx n)] := by
  unfold encV
  rw [show (n + 1) * 2 = n * 2 + 1 + 1 by omega, List.range_succ, List.range_succ]
  simp only [List.map_append, List.map_cons, List.map_nil, List.append_assoc, List.cons_append, List.nil_append]
  congr 1
  unfold valC
  rw [if_pos (by omega), if_neg (by omega), show n * 2 / 2 = n by omega, show (n * 2 + 1) / 2 = n by omega]
theorem own_IsIn {W : World} {base n : Nat} {v : Value} {tt : Nat → Int} (h : W.ownsRow base 2 1 v n (encI tt n)) (hn : n ≤ 1048576) (hz : ∀ i, -9223372036854775808 ≤ tt i ∧ tt i ≤ 9223372036854775807) : ∃ a c, v = .slice a n c ∧ IsIn W a n tt := by
  rcases h.2 with ⟨e, e0⟩ | ⟨g, cap, cur, e1, _⟩
  · exact ⟨none, 0, by rw [e, e0], by omega, hz, Or.inl e0⟩
  · subst e1
    have hcs := h.cells (g := g) rfl
    refine ⟨some ⟨g, 0, none⟩, cap, rfl, by omega, hz, Or.inr ⟨g, 0, rfl, (h.lt g rfl).2, fun i hi => ?_⟩⟩
    have := hcs i _ (encI_get tt n i hi)
    rw [add_none2] at this; exact this
theorem own_VIn {W : World} {base n : Nat} {v : Value} {kk : Nat → Nat} {xx : Nat → Int} (h : W.ownsRow base 57 2 v n (encV kk xx n)) (hn : n ≤ 1048576) (hz : ∀ i, kk i < 256 ∧ -9223372036854775808 ≤ xx i ∧ xx i ≤ 9223372036854775807) : ∃ a c, v = .slice a n c ∧ VIn W a n kk xx := by
  rcases h.2 with ⟨e, e0⟩ | ⟨g, cap, cur, e1, _⟩
  · exact ⟨none, 0, by rw [e, e0], by omega, hz, Or.inl e0⟩
  · subst e1
    have hcs := h.cells (g := g) rfl
    refine ⟨some ⟨g, 0, none⟩, cap, rfl, by omega, hz, Or.inr ⟨g, 0, rfl, (h.lt g rfl).2, fun i hi => ⟨?_, ?_⟩⟩⟩
    · have := hcs (i * 2) _ (encV_get kk xx n (i * 2) (by omega))
      rw [add_none2, Nat.zero_add] at this
      rw [Nat.zero_add, this]; unfold valC; rw [if_pos (by omega), show i * 2 / 2 = i by omega]
    · have := hcs (i * 2 + 1) _ (encV_get kk xx n (i * 2 + 1) (by omega))
      rw [add_none2, Nat.zero_add] at this
      rw [Nat.zero_add, this]; unfold valC; rw [if_neg (by omega), show (i * 2 + 1) / 2 = i by omega]
/-- what stands while the document takes samples apart. -/
structure DP (w0 : World) (tt : Nat → Int) (kk : Nat → Nat) (xx : Nat → Int) (k : Nat) (t v : Value) (wr : World) : Prop where
  ot : wr.ownsRow w0.heap.size 2 1 t k (encI tt k)
  ov : wr.ownsRow w0.heap.size 57 2 v k (encV kk xx k)
  ne : ∀ b, t.ownBlock = some b → v.ownBlock ≠ some b
  b : Below w0.heap.size w0 wr
theorem DP.start (w0 : World) (tt : Nat → Int) (kk : Nat → Nat) (xx : Nat → Int) : DP w0 tt kk xx 0 (.slice none 0 0) (.slice none 0 0) w0 :=
  ⟨World.ownsRow_nil _ _ _ _, World.ownsRow_nil _ _ _ _, (fun b h => by cases h), Below.refl _ _⟩
theorem DP.step {w0 : World} {tt : Nat → Int} {kk : Nat → Nat} {xx : Nat → Int} {k : Nat} {t v : Value} {wr : World} (h : DP w0 tt kk xx k t v wr) (hk : k + 1 ≤ 1048576) : ∃ g1 c1 w1 g2 c2 w2,
    (Builtin.append_ #[53, 53] 53 #[t, .slice (some ⟨wr.heap.size, 0, none⟩) 1 1]).run Tryd.prog (wr.alloc (.cells #[.int .i64 (tt k)] 2)) = .ok (.slice (some ⟨g1, 0, none⟩) (k + 1) c1) w1 ∧ Below w0.heap.size w0 w1 ∧
    (Builtin.append_ #[54, 54] 54 #[v, .slice (some ⟨w1.heap.size, 0, none⟩) 1 1]).run Tryd.prog (w1.alloc (.cells #[.int .u8 (kk k : Int), .int .i64 (xx k)] 57)) = .ok (.slice (some ⟨g2, 0, none⟩) (k + 1) c2) w2 ∧
    DP w0 tt kk xx (k + 1) (.slice (some ⟨g1, 0, none⟩) (k + 1) c1) (.slice (some ⟨g2, 0, none⟩) (k + 1) c2) w2 := by
  have hs0 := h.b.size
  obtain ⟨g1, c1, w1, r1, o1, gr1, p1, b1⟩ := app1I wr w0.heap.size t k _ h.ot hs0 (tt k) (by omega)
  have ov1 := (h.ov.alloc (.cells #[.int .i64 (tt k)] 2)).kept gr1 (by
    cases hv : v.ownBlock with
    | none => exact Or.inl rfl
    | some b => right; intro e; exact h.ne b e.symm hv)
  have hs1 := b1.size
  obtain ⟨g2, c2, w2, r2, o2, gr2, p2, b2⟩ := app1V w1 w0.heap.size v k _ ov1 (by omega) (kk k : Int) (xx k) (by omega)
  have hg1 := (o1.lt g1 rfl).2
  have hvlt : ∀ b, v.ownBlock = some b → b < wr.heap.size := fun b e => (h.ov.lt b e).2
  have hne1 : ∀ b, v.ownBlock = some b → b ≠ g1 := fun b e e' => by
    subst e'
    rcases p1 with p | p
    · exact h.ne b p.symm e
    · have := hvlt b e; omega
  have ot2 := (o1.alloc (.cells #[.int .u8 (kk k : Int), .int .i64 (xx k)] 57)).kept gr2 (by
    right; intro e; exact hne1 g1 e.symm rfl)
  refine ⟨g1, c1, w1, g2, c2, w2, r1, h.b.trans b1, r2, ⟨by rw [encI_succ]; exact ot2, by rw [encV_succ]; exact o2, fun b e e' => ?_, (h.b.trans b1).trans b2⟩⟩
  have e1 : g1 = b := by injection e
  have e2 : g2 = b := by injection e'
  subst e1
  rcases p2 with p | p
  · exact hne1 g2 p.symm e2
  · omega
end Go.Proofs.YtfijagdbdbbbpaaDoor
