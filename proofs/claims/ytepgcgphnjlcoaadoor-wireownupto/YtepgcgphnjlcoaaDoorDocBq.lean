
import Derived.Test.YtepgcgphnjlcoaaDoorBuC
namespace Go.Proofs.YtepgcgphnjlcoaaDoor
open Go.RowKit
set_option linter.unusedVariables false
set_option linter.unusedSimpArgs false
def broughtN (n : Int) : Nat := if n < 0 then 0 else if 64 < n then 64 else n.toNat
theorem broughtN_le (n : Int) : broughtN n ≤ 64 := by unfold broughtN; split; omega; split <;> omega
set_option maxRecDepth 100000 in
theorem rbrought (n : Int) (w : World) : Calls Tryd.prog 67 #[.int .i64 n] w fun e w' => e = .returned (.int .i64 ((broughtN n : Nat) : Int)) ∧ w' = w := by
  unfold broughtN
  by_cases h1 : n < 0
  · rw [if_pos h1]
    go_enter Tryd.func67, Tryd.ntmps67
    go_wp2_with fail
    go_ret
    exact ⟨rfl, rfl⟩
  rw [if_neg h1]
  by_cases h2 : 64 < n
  · rw [if_pos h2]
    go_enter Tryd.func67, Tryd.ntmps67
    go_wp2_with fail
    go_ret
    exact ⟨rfl, rfl⟩
  rw [if_neg h2]
  go_enter Tryd.func67, Tryd.ntmps67
  go_wp2_with fail
  go_ret
  exact ⟨congrArg (fun z => Ending.returned (.int .i64 z)) (show n = max n 0 by omega), rfl⟩
/-- one bit more, as the document writes it: the bytes, and how many bits of the last one are filled. -/
def bitOn (bit : Nat) (s : List Nat × Nat) : List Nat × Nat :=
  let l := if s.2 = 0 then s.1 ++ [0] else s.1
  (if bit = 1 then l.set (l.length - 1) ((l.getD (l.length - 1) 0 + 128 / 2 ^ s.2) % 256) else l, (s.2 + 1) % 8)
def bitsOn (v : Nat) : Nat → List Nat × Nat → List Nat × Nat
  | 0, s => s
  | i + 1, s => bitsOn v i (bitOn (v / 2 ^ i % 2) s)
theorem enc_set (l : List Nat) (j x : Nat) : (enc l).set j (.int .u8 (x : Int)) = enc (l.set j x) := by simp [enc, List.map_set]
/-- a byte of its row set anew. -/
theorem WS.byteF {N : Nat} {w1 wx : World} {fr : Int} {g cap n : Nat} {l : List Nat} (h : WS N w1 fr (.slice (some ⟨g, 0, none⟩) n cap) n (enc l) wx) (j x : Nat) :
    WS N w1 fr (.slice (some ⟨g, 0, none⟩) n cap) n (enc (l.set j x)) (wx.setCell ⟨g, j, none⟩ (.int .u8 (x : Int))) ∧ Fr N (.slice (some ⟨g, 0, none⟩) n cap) (.slice (some ⟨g, 0, none⟩) n cap) wx (wx.setCell ⟨g, j, none⟩ (.int .u8 (x : Int))) := by
  refine ⟨by rw [← enc_set]; exact h.byte j _, by simp, fun k hk hn ho => ?_, Or.inl rfl⟩
  rw [Below.heap_setCell _ _ _ _ (fun e => ho (by simp [Value.ownBlock, e]))]
theorem WS.freeF {N : Nat} {w1 wx : World} {fr : Int} {v : Value} {n : Nat} {xs : List Value} (h : WS N w1 fr v n xs wx) (fr' : Int) :
    WS N w1 fr' v n xs (wx.setCell ⟨N, 1, none⟩ (.int .i64 fr')) ∧ Fr N v v wx (wx.setCell ⟨N, 1, none⟩ (.int .i64 fr')) :=
  ⟨h.free fr', by simp, fun k hk hn ho => Below.heap_setCell _ _ _ _ hn, Or.inl rfl⟩
theorem shr_bit (x j : Nat) : ((x : Int) / 2 ^ j).tmod 2 = ((x / 2 ^ j % 2 : Nat) : Int) := by
  have h1 : ((2 : Int) ^ j) = ((2 ^ j : Nat) : Int) := by simp
  rw [h1, ← Int.natCast_ediv, Int.tmod_eq_emod_of_nonneg (Int.natCast_nonneg _)]
  omega
theorem shr_128 (b : Nat) : (128 : Int) / 2 ^ b = ((128 / 2 ^ b : Nat) : Int) := by
  have h1 : ((2 : Int) ^ b) = ((2 ^ b : Nat) : Int) := by simp
  rw [h1]; rfl
theorem Fr.drew {N : Nat} {v v' : Value} {w w' : World} (h : Fr N v v' w w') : Fr N v v' w w'.drew := ⟨h.size, h.keep, h.own⟩
theorem bitOn_eq (bit : Nat) (l : List Nat) (b : Nat) (L : List Nat) (n : Nat) (hL : L = if b = 0 then l ++ [0] else l) (hn : L.length = n + 1) :
    bitOn bit (l, b) = (if bit = 1 then L.set n ((L.getD n 0 + 128 / 2 ^ b) % 256) else L, (b + 1) % 8) := by
  unfold bitOn
  simp only [← hL, hn, Nat.add_sub_cancel]
theorem WS.put0 {N : Nat} {w1 wx : World} {fr : Int} {v : Value} (c0 : wx.cell? ⟨N, 0, none⟩ = some v) (c1 : wx.cell? ⟨N, 1, none⟩ = some (.int .i64 fr)) (f0 : wx.frozen? ⟨N, 0, none⟩ = false) (f1 : wx.frozen? ⟨N, 1, none⟩ = false)
    (b : Below N w1 wx) (sz : N < wx.heap.size) {v' : Value} {n : Nat} {xs : List Value} (own : wx.ownsRow (N + 1) 5 1 v' n xs) :
    WS N w1 fr v' n xs (wx.setCell ⟨N, 0, none⟩ v') := by
  refine ⟨World.cell?_setCell_same _ _ _ c0, ?_, by simpa using f0, by simpa using f1, ?_, b.setCell (p := ⟨N, 0, none⟩) (Nat.le_refl _) _, by simpa using sz⟩
  · rw [World.cell?_setCell_other _ _ _ _ (by simp)]; exact c1
  · obtain ⟨h1, h2⟩ := own
    refine ⟨h1, ?_⟩
    rcases h2 with h2 | ⟨g, cap, cur, e1, e2, e3, e4⟩
    · exact Or.inl h2
    · exact Or.inr ⟨g, cap, cur, e1, e2, by rw [Below.heap_setCell _ _ _ _ (by simp; omega)]; exact e3, e4⟩
set_option maxRecDepth 100000 in
set_option maxHeartbeats 4000000 in
theorem rbits_fr (N : Nat) (w1 : World) (b : Nat) (hb8 : b < 8) (v : Value) (l : List Nat) (w : World) (h : WS N w1 (b : Int) v l.length (enc l) w) (hl0 : b ≠ 0 → 0 < l.length) (x : Nat) (hx : x < 18446744073709551616) (k : Int) (hb : l.length + 64 ≤ 140737488355328) :
    Calls Tryd.prog 27 #[.pointer (some ⟨N, 0, none⟩), .int .u64 (x : Int), .int .i64 k] w fun e w' => e = .returned undef ∧ ∃ v', WS N w1 (((bitsOn x (broughtN k) (l, b)).2 : Nat) : Int) v' (bitsOn x (broughtN k) (l, b)).1.length (enc (bitsOn x (broughtN k) (l, b)).1) w' ∧ Fr N v v' w w' := by
  have hbk := broughtN_le k
  obtain ⟨c, hcc⟩ : ∃ c, c = broughtN k := ⟨_, rfl⟩
  rw [← hcc] at hbk ⊢
  obtain ⟨i, i1, i0⟩ := Option.map_eq_some_iff.1 byte_info
  have i2 : i.zero = some (.int .u8 0) := congrArg (·.1) i0
  have i3 : i.bytes = 1 := congrArg (·.2.1) i0
  have i4 : i.size = 1 := congrArg (·.2.2) i0
  have hml : maxLen = 9223372036854775807 := by decide
  clear i0
  go_enter Tryd.func27, Tryd.ntmps27
  go_wp2_with fail
  refine (rbrought k _).mono ?_
  rintro e w2 ⟨rfl, rfl⟩
  rw [← hcc]
  clear hcc
  go_wp2_with fail
  go_loopw [6] (fun i wr => ∃ (j b' : Nat) (v' : Value) (l' : List Nat), i = .int .i64 ((j : Int) - 1) ∧ j ≤ 64 ∧ b' < 8 ∧ (b' ≠ 0 → 0 < l'.length) ∧ l'.length + j ≤ l.length + 64 ∧ WS N w1 (b' : Int) v' l'.length (enc l') wr ∧ Fr N v v' w2 wr ∧ bitsOn x j (l', b') = bitsOn x c (l, b)) (fun i _ => (intOf i + 1).toNat)
  case atStart => exact ⟨c, b, v, l, rfl, hbk, hb8, hl0, by omega, h, Fr.refl _ _ _, rfl⟩
  case round =>
    obtain ⟨j, b', v', l', rfl, hj, hb', hl', hlen, hW, hF, heq⟩ := hrel
    rcases j with _ | j
    · have heq' : (l', b') = bitsOn x c (l, b) := heq
      go_wp2_with fail
      first | go_end0 | (simp only [Exit.inBlock, Exit.then]; refine bodyPost_ret (results_none rfl _ _ _) rfl ?_) | refine bodyPost_ret (results_none rfl _ _ _) rfl ?_
      refine ⟨rfl, v', ?_, hF⟩
      rw [← heq']; exact hW
    · have hjI : (0 : Int) ≤ ((j + 1 : Nat) : Int) - 1 := by omega
      have hjE : ((j + 1 : Nat) : Int) - 1 = (j : Int) := by omega
      have heqH : Hid _ := heq
      clear heq
      rw [hjE]
      by_cases hz : b' = 0
      · subst hz
        by_cases hbit : x / 2 ^ j % 2 = 1
        · skip
          have hbI : ((x : Int) / 2 ^ j).tmod 2 = 1 := by rw [shr_bit, hbit]; rfl
          have hbH : Hid _ := hbit
          clear hbit
          have z1 := hW.c1
          have hs0 := hW.sz
          have h2 := hW.alloc (.cells #[.int .u8 0] 5)
          have nw : ∀ j u, (enc [0])[j]? = some u → (wr.alloc (.cells #[.int .u8 0] 5)).cell? ((⟨wr.heap.size, 0, none⟩ : Addr).add j) = some u := cells_news wr [0] (0, 0)
          have hs := h2.sz
          have z0 := h2.c0
          have z00 := hW.c0
          go_wp2_with (at_builtin; refine wpList_append_lies _ (by rfl) _ _ _ (by rfl) (N + 1) 5 i (.int .u8 0) 1 1 Tryd.underlying23 i1 i2 i4 i3 rfl (by omega) v' l'.length (enc l') (by rfl) h2.own ⟨wr.heap.size, 0, none⟩ 1 1 (enc [0]) (by rfl) (by simp [enc]) nw (enc_one _) (by omega) (by omega) (by omega) (by omega) _ rfl ?_)
          intro g cap w3 hown hgrow hat hlt
          have hne : some N ≠ v'.ownBlock := fun e => by have := h2.own.lt N e.symm; omega
          have y0 := (hgrow.cell_far ⟨N, 0, none⟩ hs hne).trans h2.c0
          have y1 := (hgrow.cell_far ⟨N, 1, none⟩ hs hne).trans h2.c1
          have y2 := (hgrow.frozen_far ⟨N, 0, none⟩ hs hne).trans h2.f0
          have y3 := (hgrow.frozen_far ⟨N, 1, none⟩ hs hne).trans h2.f1
          have hb' := h2.b.grown hgrow (by omega) (fun k e => by have := h2.own.lt k e; omega)
          have hz' := hgrow.size
          have hWp := WS.put0 y0 y1 y2 y3 hb' (by omega) hown
          have hFp : Fr N v' (.slice (some ⟨g, 0, none⟩) (l'.length + 1) cap) wr (w3.setCell ⟨N, 0, none⟩ (.slice (some ⟨g, 0, none⟩) (l'.length + 1) cap)) := by
            have hsz : wr.heap.size ≤ w3.heap.size := by have := hgrow.size; simp at this; omega
            refine ⟨by simpa using hsz, fun k hk hn ho => ?_, ?_⟩
            · rw [Below.heap_setCell _ _ _ _ hn, hgrow.block k (by simp; omega) ho]
              exact Below.heap_alloc wr _ k hk
            · rcases hat with e | e
              · exact Or.inl (by rw [e]; rfl)
              · exact Or.inr ⟨g, rfl, by first | omega | (simp at e; omega)⟩
          obtain ⟨wx, hwx⟩ : ∃ wx, wx = w3.setCell ⟨N, 0, none⟩ (.slice (some ⟨g, 0, none⟩) (l'.length + 1) cap) := ⟨_, rfl⟩
          rw [enc_append, ← hwx] at hWp
          rw [← hwx] at hFp
          have hwxH : Hid _ := hwx
          clear hwx hat hgrow nw h2 z0 z00 hown hb' z1
          have hLn : (l' ++ [0]).length = l'.length + 1 := by simp
          have hX := hWp
          have FX := hF.trans hFp
          clear hWp hFp hW hF
          have y1w : wx.cell? ⟨N, 1, none⟩ = some (.int .i64 ((0 : Nat) : Int)) := hX.c1
          go_wp2_with fail
          rw [← hwxH.out]
          have c0 := hX.c0
          have c1 := hX.c1
          have f0 := hX.f0
          have f1 := hX.f1
          have sx := hX.sz
          have rc : wx.cell? ⟨g, l'.length, none⟩ = some (.int .u8 (((l' ++ [0]).getD l'.length 0 : Nat) : Int)) := by
            have := hX.own.cellAt l'.length (by omega)
            rw [this]
            simp [enc, hLn, List.getD_eq_getElem?_getD]
          have rf : wx.frozen? ⟨g, l'.length, none⟩ = false := hX.own.frozenAt l'.length
          have gN : g ≠ N := by have := (hX.own.lt g rfl).1; omega
          have s1 : ((l'.length + 1 : Nat) : Int) - 1 = (l'.length : Int) := by omega
          have s2 : (0 : Int) ≤ (l'.length : Int) := by omega
          have s3 : (l'.length : Int) < ((l'.length + 1 : Nat) : Int) := by omega
          have s4 : l'.length < l'.length + 1 := by omega
          generalize hLx : (l' ++ [0]).getD l'.length 0 = lx at *
          go_region
          obtain ⟨x8, hx8⟩ : ∃ x8, x8 = (lx + 128 / 2 ^ 0) % 256 := ⟨_, rfl⟩
          have ez : (((lx : Int) + 128) % 256) = (x8 : Int) := by rw [hx8]; have := shr_128 0; simp
          obtain ⟨hY, FY⟩ := hX.byteF l'.length x8
          rw [ez]
          obtain ⟨wy, hwy⟩ : ∃ wy, wy = (wx.setCell ⟨g, l'.length, none⟩ (.int .u8 (x8 : Int))).drew := ⟨_, rfl⟩
          rw [← hwy]
          have hZ : WS N w1 ((0 : Nat) : Int) (.slice (some ⟨g, 0, none⟩) (l'.length + 1) cap) (l'.length + 1) (enc ((l' ++ [0]).set l'.length x8)) wy := by rw [hwy]; exact hY.drew
          have FZ := FX.trans (show Fr N _ (.slice (some ⟨g, 0, none⟩) (l'.length + 1) cap) wx wy by rw [hwy]; exact FY.drew)
          have d1 := hZ.c1
          have d2 := hZ.f1
          have d3 := hZ.sz
          have hbq := bitOn_eq 1 l' 0 (l' ++ [0]) l'.length (by rw [if_pos rfl]) hLn
          rw [if_pos rfl, hLx, ← hx8] at hbq
          have hbq' : Hid _ := hbq
          clear hwy hY FY hX FX rc rf c0 c1 f0 f1 ez hx8 hbq sx
          go_wp2_with fail
          go_roundw
          case rel =>
            obtain ⟨hQ, FQ⟩ := hZ.freeF 1
            have hql : ((l' ++ [0]).set l'.length x8).length = l'.length + 1 := by rw [List.length_set, hLn]
            refine ⟨j, (0 + 1) % 8, .slice (some ⟨g, 0, none⟩) (l'.length + 1) cap, (l' ++ [0]).set l'.length x8, rfl, by omega, by omega, fun _ => by omega, by omega, ?_, FZ.trans FQ, ?_⟩
            · rw [hql, show (((0 + 1) % 8 : Nat) : Int) = 1 by omega]; exact hQ
            · rw [← heqH.out]; show _ = bitsOn x j (bitOn (x / 2 ^ j % 2) _); rw [hbH.out, hbq'.out]
          case measure => simp [intOf] <;> omega
        · skip
          have hbI : ((x : Int) / 2 ^ j).tmod 2 = 0 := by rw [shr_bit]; omega
          have hbH : Hid _ := hbit
          clear hbit
          have z1 := hW.c1
          have hs0 := hW.sz
          have h2 := hW.alloc (.cells #[.int .u8 0] 5)
          have nw : ∀ j u, (enc [0])[j]? = some u → (wr.alloc (.cells #[.int .u8 0] 5)).cell? ((⟨wr.heap.size, 0, none⟩ : Addr).add j) = some u := cells_news wr [0] (0, 0)
          have hs := h2.sz
          have z0 := h2.c0
          have z00 := hW.c0
          go_wp2_with (at_builtin; refine wpList_append_lies _ (by rfl) _ _ _ (by rfl) (N + 1) 5 i (.int .u8 0) 1 1 Tryd.underlying23 i1 i2 i4 i3 rfl (by omega) v' l'.length (enc l') (by rfl) h2.own ⟨wr.heap.size, 0, none⟩ 1 1 (enc [0]) (by rfl) (by simp [enc]) nw (enc_one _) (by omega) (by omega) (by omega) (by omega) _ rfl ?_)
          intro g cap w3 hown hgrow hat hlt
          have hne : some N ≠ v'.ownBlock := fun e => by have := h2.own.lt N e.symm; omega
          have y0 := (hgrow.cell_far ⟨N, 0, none⟩ hs hne).trans h2.c0
          have y1 := (hgrow.cell_far ⟨N, 1, none⟩ hs hne).trans h2.c1
          have y2 := (hgrow.frozen_far ⟨N, 0, none⟩ hs hne).trans h2.f0
          have y3 := (hgrow.frozen_far ⟨N, 1, none⟩ hs hne).trans h2.f1
          have hb' := h2.b.grown hgrow (by omega) (fun k e => by have := h2.own.lt k e; omega)
          have hz' := hgrow.size
          have hWp := WS.put0 y0 y1 y2 y3 hb' (by omega) hown
          have hFp : Fr N v' (.slice (some ⟨g, 0, none⟩) (l'.length + 1) cap) wr (w3.setCell ⟨N, 0, none⟩ (.slice (some ⟨g, 0, none⟩) (l'.length + 1) cap)) := by
            have hsz : wr.heap.size ≤ w3.heap.size := by have := hgrow.size; simp at this; omega
            refine ⟨by simpa using hsz, fun k hk hn ho => ?_, ?_⟩
            · rw [Below.heap_setCell _ _ _ _ hn, hgrow.block k (by simp; omega) ho]
              exact Below.heap_alloc wr _ k hk
            · rcases hat with e | e
              · exact Or.inl (by rw [e]; rfl)
              · exact Or.inr ⟨g, rfl, by first | omega | (simp at e; omega)⟩
          obtain ⟨wx, hwx⟩ : ∃ wx, wx = w3.setCell ⟨N, 0, none⟩ (.slice (some ⟨g, 0, none⟩) (l'.length + 1) cap) := ⟨_, rfl⟩
          rw [enc_append, ← hwx] at hWp
          rw [← hwx] at hFp
          have hwxH : Hid _ := hwx
          clear hwx hat hgrow nw h2 z0 z00 hown hb' z1
          have hLn : (l' ++ [0]).length = l'.length + 1 := by simp
          have hX := hWp
          have FX := hF.trans hFp
          clear hWp hFp hW hF
          have hbq := bitOn_eq (x / 2 ^ j % 2) l' 0 (l' ++ [0]) l'.length (by rw [if_pos rfl]) hLn
          rw [if_neg hbH.out] at hbq
          have hbq' : Hid _ := hbq
          clear hbq
          go_wp2_with fail
          go_roundw
          case rel =>
            rw [hwxH.out] at hX FX
            obtain ⟨hQ, FQ⟩ := hX.freeF 1
            refine ⟨j, (0 + 1) % 8, .slice (some ⟨g, 0, none⟩) (l'.length + 1) cap, (l' ++ [0]), rfl, by omega, by omega, fun _ => by omega, by omega, ?_, FX.trans FQ, ?_⟩
            · rw [hLn, show (((0 + 1) % 8 : Nat) : Int) = 1 by omega]; exact hQ
            · rw [← heqH.out]; show _ = bitsOn x j (bitOn (x / 2 ^ j % 2) _); rw [hbq'.out]
          case measure => simp [intOf] <;> omega
      · have hzI : ¬ ((b' : Int) = 0) := by omega
        have hpos := hl' hz
        obtain ⟨g, n, cap, hv, hLn⟩ : ∃ g n cap, v' = .slice (some ⟨g, 0, none⟩) (n + 1) cap ∧ l'.length = n + 1 := by
          rcases hW.own.2 with ⟨_, h0⟩ | ⟨g, cap, cur, e1, _⟩
          · omega
          · exact ⟨g, l'.length - 1, cap, by rw [e1]; congr 1; omega, by omega⟩
        subst hv
        rw [hLn] at hW hlen
        have hX := hW
        have FX := hF
        clear hW hF
        have c0 := hX.c0
        have c1 := hX.c1
        have f0 := hX.f0
        have f1 := hX.f1
        have sx := hX.sz
        have rc : wr.cell? ⟨g, n, none⟩ = some (.int .u8 ((l'.getD n 0 : Nat) : Int)) := by
          have := hX.own.cellAt n (by omega)
          rw [this]
          simp [enc, hLn, List.getD_eq_getElem?_getD]
        have rf : wr.frozen? ⟨g, n, none⟩ = false := hX.own.frozenAt n
        have gN : g ≠ N := by have := (hX.own.lt g rfl).1; omega
        have s1 : ((n + 1 : Nat) : Int) - 1 = (n : Int) := by omega
        have s2 : (0 : Int) ≤ (n : Int) := by omega
        have s3 : (n : Int) < ((n + 1 : Nat) : Int) := by omega
        have s4 : n < n + 1 := by omega
        generalize hLx : l'.getD n 0 = lx at *
        by_cases hbit : x / 2 ^ j % 2 = 1
        · skip
          have hbI : ((x : Int) / 2 ^ j).tmod 2 = 1 := by rw [shr_bit, hbit]; rfl
          have hbH : Hid _ := hbit
          clear hbit
          go_wp2_with fail
          go_region
          obtain ⟨x8, hx8⟩ : ∃ x8, x8 = (lx + 128 / 2 ^ b') % 256 := ⟨_, rfl⟩
          have ez : (((lx : Int) + 128 / 2 ^ b') % 256) = (x8 : Int) := by rw [hx8]; have := shr_128 b'; rw [this]; omega
          obtain ⟨hY, FY⟩ := hX.byteF n x8
          rw [ez]
          obtain ⟨wy, hwy⟩ : ∃ wy, wy = (wr.setCell ⟨g, n, none⟩ (.int .u8 (x8 : Int))).drew := ⟨_, rfl⟩
          rw [← hwy]
          have hZ : WS N w1 (b' : Int) (.slice (some ⟨g, 0, none⟩) (n + 1) cap) (n + 1) (enc (l'.set n x8)) wy := by rw [hwy]; exact hY.drew
          have FZ := FX.trans (show Fr N _ (.slice (some ⟨g, 0, none⟩) (n + 1) cap) wr wy by rw [hwy]; exact FY.drew)
          have d1 := hZ.c1
          have d2 := hZ.f1
          have d3 := hZ.sz
          have hbq := bitOn_eq 1 l' b' l' n (by rw [if_neg hz]) hLn
          rw [if_pos rfl, hLx, ← hx8] at hbq
          have hbq' : Hid _ := hbq
          clear hwy hY FY hX FX rc rf c0 c1 f0 f1 ez hx8 hbq sx
          go_wp2_with fail
          go_roundw
          case rel =>
            obtain ⟨hQ, FQ⟩ := hZ.freeF (((b' : Int) + 1) % 8)
            have hql : (l'.set n x8).length = n + 1 := by rw [List.length_set, hLn]
            refine ⟨j, (b' + 1) % 8, .slice (some ⟨g, 0, none⟩) (n + 1) cap, l'.set n x8, rfl, by omega, by omega, fun _ => by omega, by omega, ?_, FZ.trans FQ, ?_⟩
            · rw [hql, show (((b' + 1) % 8 : Nat) : Int) = (((b' : Int) + 1) % 8) by omega]; exact hQ
            · rw [← heqH.out]; show _ = bitsOn x j (bitOn (x / 2 ^ j % 2) _); rw [hbH.out, hbq'.out]
          case measure => simp [intOf] <;> omega
        · skip
          have hbI : ((x : Int) / 2 ^ j).tmod 2 = 0 := by rw [shr_bit]; omega
          have hbH : Hid _ := hbit
          clear hbit
          have hbq := bitOn_eq (x / 2 ^ j % 2) l' b' l' n (by rw [if_neg hz]) hLn
          rw [if_neg hbH.out] at hbq
          have hbq' : Hid _ := hbq
          clear hbq
          clear rc rf
          go_wp2_with fail
          go_roundw
          case rel =>
            obtain ⟨hQ, FQ⟩ := hX.freeF (((b' : Int) + 1) % 8)
            refine ⟨j, (b' + 1) % 8, .slice (some ⟨g, 0, none⟩) (n + 1) cap, l', rfl, by omega, by omega, fun _ => by omega, by omega, ?_, FX.trans FQ, ?_⟩
            · rw [hLn, show (((b' + 1) % 8 : Nat) : Int) = (((b' : Int) + 1) % 8) by omega]; exact hQ
            · rw [← heqH.out]; show _ = bitsOn x j (bitOn (x / 2 ^ j % 2) _); rw [hbq'.out]
          case measure => simp [intOf] <;> omega
end Go.Proofs.YtepgcgphnjlcoaaDoor
