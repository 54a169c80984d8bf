
import Derived.Test.YticgapplpfaigaaGreatSrO
namespace Go.Proofs.YticgapplpfaigaaGreat
open Go.RowKit
set_option linter.unusedVariables false
set_option linter.unusedSimpArgs false
theorem makeS (n : Nat) (h : n ≤ 11728124029610) (w : World) : (Instr.makeSlice 62 (.int .i64 (n : Int)) (.int .i64 (n : Int))).run Tryz.prog w = .ok (.slice (some ⟨w.heap.size, 0, none⟩) n n) (w.alloc (.cells (madeCells #[.int .i64 0, .int .u8 0, .int .i64 0] (n * 3)) 89)) := by
  obtain ⟨i, h1, h0⟩ := Option.map_eq_some_iff.1 smp_info
  have h2 : i.zero = some (.agg #[.int .i64 0, .int .u8 0, .int .i64 0]) := congrArg (·.1) h0
  have h3 : i.bytes = 24 := congrArg (·.2.1) h0
  have h4 : i.size = 3 := congrArg (·.2.2) h0
  have := run_make (P := Tryz.prog) w 62 89 i (.agg #[.int .i64 0, .int .u8 0, .int .i64 0]) Tryz.underlying62 h1 h2 .i64 .i64 (n : Int) (n : Int) (by omega) (by omega) (by rw [h3]; omega) (by omega)
  rw [h4] at this
  simpa [Value.cells] using this
/-- samples in a block of one's own. -/
structure SRow (H m : Nat) (f : Nat → Smp) (w1 wx : World) : Prop where
  c0 : ∀ j, j < m → wx.cell? ⟨H, j * 3, none⟩ = some (.int .i64 (f j).t)
  c1 : ∀ j, j < m → wx.cell? ⟨H, j * 3 + 1, none⟩ = some (.int .u8 ((f j).k : Int))
  c2 : ∀ j, j < m → wx.cell? ⟨H, j * 3 + 2, none⟩ = some (.int .i64 (f j).x)
  z : ∀ j, wx.frozen? ⟨H, j, none⟩ = false
  b : Below H w1 wx
  sz : H < wx.heap.size
def updS (f : Nat → Smp) (k : Nat) (v : Smp) : Nat → Smp := fun j => if j = k then v else f j
theorem SRow.set {H m : Nat} {f : Nat → Smp} {w1 wx : World} (h : SRow H m f w1 wx) (k : Nat) (v : Smp) (hk : k < m) : SRow H m (updS f k v) w1 (((wx.setCell ⟨H, k * 3, none⟩ (.int .i64 v.t)).setCell ⟨H, k * 3 + 1, none⟩ (.int .u8 (v.k : Int))).setCell ⟨H, k * 3 + 2, none⟩ (.int .i64 v.x)) := by
  have oth : ∀ (x : World) (p q : Nat) (u : Value), p ≠ q → (x.setCell ⟨H, p, none⟩ u).cell? ⟨H, q, none⟩ = x.cell? ⟨H, q, none⟩ := fun x p q u hne => World.cell?_setCell_other _ _ _ _ (by intro e'; injection e' with e1 e2; omega)
  refine ⟨fun j hj => ?_, fun j hj => ?_, fun j hj => ?_, fun j => by simpa using h.z j, ((h.b.setCell (p := ⟨H, k * 3, none⟩) (Nat.le_refl _) _).setCell (p := ⟨H, k * 3 + 1, none⟩) (Nat.le_refl _) _).setCell (p := ⟨H, k * 3 + 2, none⟩) (Nat.le_refl _) _, by simpa using h.sz⟩
  · unfold updS
    rw [oth _ _ _ _ (by omega), oth _ _ _ _ (by omega)]
    by_cases e : j = k
    · subst e; rw [if_pos rfl]; exact World.cell?_setCell_same _ _ _ (h.c0 j hj)
    · rw [if_neg e, oth _ _ _ _ (by omega)]; exact h.c0 j hj
  · unfold updS
    rw [oth _ _ _ _ (by omega)]
    by_cases e : j = k
    · subst e; rw [if_pos rfl]; exact World.cell?_setCell_same _ _ _ (u := .int .u8 ((f j).k : Int)) (by rw [oth _ _ _ _ (by omega)]; exact h.c1 j hj)
    · rw [if_neg e, oth _ _ _ _ (by omega), oth _ _ _ _ (by omega)]; exact h.c1 j hj
  · unfold updS
    by_cases e : j = k
    · subst e; rw [if_pos rfl]; exact World.cell?_setCell_same _ _ _ (u := .int .i64 (f j).x) (by rw [oth _ _ _ _ (by omega), oth _ _ _ _ (by omega)]; exact h.c2 j hj)
    · rw [if_neg e, oth _ _ _ _ (by omega), oth _ _ _ _ (by omega), oth _ _ _ _ (by omega)]; exact h.c2 j hj
theorem SRow.ext {H m : Nat} {f g : Nat → Smp} {w1 wx : World} (h : SRow H m f w1 wx) (e : ∀ j, j < m → f j = g j) : SRow H m g w1 wx :=
  ⟨fun j hj => by rw [← e j hj]; exact h.c0 j hj, fun j hj => by rw [← e j hj]; exact h.c1 j hj, fun j hj => by rw [← e j hj]; exact h.c2 j hj, h.z, h.b, h.sz⟩
theorem SRow.start (w : World) (n : Nat) : SRow w.heap.size n (fun _ => ⟨0, 0, 0⟩) w (w.alloc (.cells (madeCells #[.int .i64 0, .int .u8 0, .int .i64 0] (n * 3)) 89)) := by
  have hz : ∀ j, j < n * 3 → (madeCells #[Value.int .i64 0, .int .u8 0, .int .i64 0] (n * 3))[j]? = some (#[Value.int .i64 0, .int .u8 0, .int .i64 0][j % 3]!) := fun j hj => by
    simp [madeCells, hj]
  refine ⟨fun j hj => ?_, fun j hj => ?_, fun j hj => ?_, fun j => frozen_of_row _ w.heap.size j _ 89 (heap_alloc_new w _), (Below.refl _ _).alloc (Nat.le_refl _) _, by simp⟩
  · rw [cell_of_row _ w.heap.size _ _ 89 (0, 0) (heap_alloc_new w _), hz _ (by omega), show j * 3 % 3 = 0 by omega]; rfl
  · rw [cell_of_row _ w.heap.size _ _ 89 (0, 0) (heap_alloc_new w _), hz _ (by omega), show (j * 3 + 1) % 3 = 1 by omega]; rfl
  · rw [cell_of_row _ w.heap.size _ _ 89 (0, 0) (heap_alloc_new w _), hz _ (by omega), show (j * 3 + 2) % 3 = 2 by omega]; rfl
/-- a copy with marks behind it. -/
def handSF (l : List Smp) : Nat → Smp := fun j => if j < l.length then l.getD j ⟨0, 0, 0⟩ else ⟨-700 - (j : Int) + (l.length : Int), 0, 0⟩
def handST (l : List Smp) (m : Nat) : Nat → Smp := fun j => if j < l.length then l.getD j ⟨0, 0, 0⟩ else if j < m then ⟨-700 - (j : Int) + (l.length : Int), 0, 0⟩ else ⟨0, 0, 0⟩
theorem getD_some {l : List Smp} {i : Nat} (h : i < l.length) : l[i]? = some (l.getD i ⟨0, 0, 0⟩) := by
  rw [List.getD_eq_getElem?_getD, List.getElem?_eq_getElem h]; rfl
set_option maxRecDepth 100000 in
set_option maxHeartbeats 4000000 in
theorem handS_any (a : Option Addr) (cap : Nat) (l : List Smp) (w : World) (h : LIn w a l) (hn : l.length ≤ 5864062014805) :
    Calls Tryz.prog 36 #[.slice a l.length cap] w fun e w' => e = .returned (.slice (some ⟨w.heap.size, 0, none⟩) l.length (l.length + 9)) ∧ SRow w.heap.size (l.length + 9) (handSF l) w w' := by
  have hmk := makeS (l.length + 9) (by omega)
  have hI : Hid (LIn w a l) := h
  have hgd : Hid (∀ i, i < l.length → l[i]? = some (l.getD i ⟨0, 0, 0⟩)) := fun i hi => getD_some hi
  generalize hl : l.length = n at *
  have hlH : Hid (l.length = n) := hl
  have hmc : ((n + 9 : Nat) : Int) = (n : Int) + 9 := by omega
  rw [hmc] at hmk
  clear hmc h hl
  go_enter Tryz.func36, Tryz.ntmps36
  go_wp2_with fail
  clear hmk
  go_loopw [4] (fun i wr => ∃ (k : Nat), k ≤ n ∧ i = .int .i64 k ∧ SRow w.heap.size (n + 9) (fun j => if j < k then l.getD j ⟨0, 0, 0⟩ else ⟨0, 0, 0⟩) w wr) (fun i _ => n - (intOf i).toNat)
  case atStart => exact ⟨0, Nat.zero_le _, rfl, (SRow.start w (n + 9)).ext (fun j _ => by simp)⟩
  case round =>
    obtain ⟨k, hk, rfl, hR⟩ := hrel
    by_cases hlt : k < n
    · have hltI : (k : Int) < (n : Int) := by omega
      have hk0 : (0 : Int) ≤ (k : Int) := by omega
      have hlt9 : (k : Int) < (n : Int) + 9 := by omega
      obtain ⟨b, off, rfl, hb, hcc⟩ : ∃ b off, a = some ⟨b, off, none⟩ ∧ b < w.heap.size ∧ ∀ i s, l[i]? = some s → w.cell? ⟨b, off + i * 3, none⟩ = some (.int .i64 s.t) ∧ w.cell? ⟨b, off + i * 3 + 1, none⟩ = some (.int .u8 (s.k : Int)) ∧ w.cell? ⟨b, off + i * 3 + 2, none⟩ = some (.int .i64 s.x) := by
        rcases hI.out.2 with h0 | h1
        · have := hlH.out; rw [h0] at this; simp at this; omega
        · exact h1
      obtain ⟨x1, x2, x3⟩ := hcc k _ (hgd.out k hlt)
      obtain ⟨s, hs⟩ : ∃ s, s = l.getD k ⟨0, 0, 0⟩ := ⟨_, rfl⟩
      have hsH : Hid (s = l.getD k ⟨0, 0, 0⟩) := hs
      rw [← hs] at x1 x2 x3
      rw [← hR.b.cell (p := ⟨b, off + k * 3, none⟩) hb] at x1
      rw [← hR.b.cell (p := ⟨b, off + k * 3 + 1, none⟩) hb] at x2
      rw [← hR.b.cell (p := ⟨b, off + k * 3 + 2, none⟩) hb] at x3
      have y1 := hR.c0 k (by omega)
      have y2 := hR.c1 k (by omega)
      have y3 := hR.c2 k (by omega)
      have y4 := hR.z (k * 3)
      have y5 := hR.z (k * 3 + 1)
      have y6 := hR.z (k * 3 + 2)
      have hR' : Hid _ := hR.set k s (by omega)
      clear hcc hs hR
      go_wp2_with fail
      go_roundw
      case rel =>
        refine ⟨k + 1, by omega, by go_num, SRow.ext hR'.out (fun j hj => ?_)⟩
        unfold updS
        by_cases e : j = k
        · subst e; rw [if_pos rfl, if_pos (by omega)]; exact hsH.out
        · rw [if_neg e]
          show (if j < k then l.getD j ⟨0, 0, 0⟩ else (⟨0, 0, 0⟩ : Smp)) = (if j < k + 1 then l.getD j ⟨0, 0, 0⟩ else ⟨0, 0, 0⟩)
          by_cases e2 : j < k
          · rw [if_pos e2, if_pos (by omega)]
          · rw [if_neg e2, if_neg (by omega)]
      case measure => simp [intOf]; omega
    · obtain rfl : k = n := by omega
      clear hlt hk
      go_wp2_with fail
      go_loopw [5] (fun i wr => ∃ (m : Nat), k ≤ m ∧ m ≤ k + 9 ∧ i = .int .i64 m ∧ SRow w.heap.size (k + 9) (handST l m) w wr) (fun i _ => k + 9 - (intOf i).toNat)
      case atStart => exact ⟨k, Nat.le_refl _, by omega, rfl, hR.ext (fun j _ => by
        unfold handST
        rw [hlH.out]
        by_cases e : j < k
        · rw [if_pos e, if_pos e]
        · rw [if_neg e, if_neg e, if_neg e])⟩
      case round =>
        clear hR
        obtain ⟨m, hm1, hm2, rfl, hR⟩ := hrel
        by_cases hlt : m < k + 9
        · have hltI : (m : Int) < (k : Int) + 9 := by omega
          have hm0 : (0 : Int) ≤ (m : Int) := by omega
          have y1 := hR.c0 m (by omega)
          have y2 := hR.c1 m (by omega)
          have y3 := hR.c2 m (by omega)
          have y4 := hR.z (m * 3)
          have y5 := hR.z (m * 3 + 1)
          have y6 := hR.z (m * 3 + 2)
          have hR' : Hid _ := hR.set m ⟨-700 - (m : Int) + (k : Int), 0, 0⟩ (by omega)
          clear hR
          go_wp2_with fail
          go_roundw
          case rel =>
            refine ⟨m + 1, by omega, by omega, by go_num, SRow.ext hR'.out (fun j hj => ?_)⟩
            unfold updS handST
            rw [hlH.out]
            by_cases e : j = m
            · subst e; rw [if_pos rfl, if_neg (by omega), if_pos (by omega)]
            · rw [if_neg e]
              by_cases e2 : j < k
              · rw [if_pos e2, if_pos e2]
              · rw [if_neg e2, if_neg e2]
                by_cases e3 : j < m
                · rw [if_pos e3, if_pos (by omega)]
                · rw [if_neg e3, if_neg (by omega)]
          case measure => simp [intOf]; omega
        · obtain rfl : m = k + 9 := by omega
          have hF : Hid (SRow w.heap.size (k + 9) (handSF l) w wr) := hR.ext (fun j hj => by
            unfold handST handSF
            rw [hlH.out]
            by_cases e : j < k
            · rw [if_pos e, if_pos e]
            · rw [if_neg e, if_neg e, if_pos (by omega)])
          clear hR
          go_wp2_with fail
          go_ret
          refine ⟨?_, hF.out⟩
          simp
theorem LIn.at {w wr : World} {a : Option Addr} {l : List Smp} (h : LIn w a l) (hB : Below w.heap.size w wr) {k : Nat} (hk : k < l.length) : ∃ b off s, a = some ⟨b, off, none⟩ ∧ b < w.heap.size ∧ l[k]? = some s ∧ wr.cell? ⟨b, off + k * 3, none⟩ = some (.int .i64 s.t) ∧ wr.cell? ⟨b, off + k * 3 + 1, none⟩ = some (.int .u8 (s.k : Int)) ∧ wr.cell? ⟨b, off + k * 3 + 2, none⟩ = some (.int .i64 s.x) := by
  rcases h.2 with h0 | ⟨b, off, e, hb, hc⟩
  · rw [h0] at hk; simp at hk
  · have hs := List.getElem?_eq_getElem hk
    obtain ⟨c0, c1, c2⟩ := hc k _ hs
    refine ⟨b, off, _, e, hb, hs, ?_, ?_, ?_⟩
    · rw [hB.cell (p := ⟨b, off + k * 3, none⟩) hb]; exact c0
    · rw [hB.cell (p := ⟨b, off + k * 3 + 1, none⟩) hb]; exact c1
    · rw [hB.cell (p := ⟨b, off + k * 3 + 2, none⟩) hb]; exact c2
set_option maxRecDepth 100000 in
set_option maxHeartbeats 4000000 in
theorem sameS_any (a1 a2 : Option Addr) (c1 c2 : Nat) (l : List Smp) (w : World) (h1 : LIn w a1 l) (h2 : LIn w a2 l) (hn : l.length ≤ 5864062014805) : Calls Tryz.prog 35 #[.slice a1 l.length c1, .slice a2 l.length c2] w fun e w' => e = .returned (.bool true) ∧ Below w.heap.size w w' := by
  have hI1 : Hid (LIn w a1 l) := h1
  have hI2 : Hid (LIn w a2 l) := h2
  generalize hl : l.length = n at *
  have hlH : Hid (l.length = n) := hl
  clear hl h1 h2
  go_enter Tryz.func35, Tryz.ntmps35
  go_wp2_with fail
  go_loopw [5] (fun i wr => ∃ k : Nat, k ≤ n ∧ i = .int .i64 (k : Int) ∧ Below w.heap.size w wr) (fun i _ => n - (intOf i).toNat)
  case atStart => exact ⟨0, by omega, rfl, Below.refl _ _⟩
  case round =>
    obtain ⟨k, hk, rfl, hB⟩ := hrel
    by_cases hkn : k < n
    · have hkI : (k : Int) < (n : Int) := by omega
      have k1 : (0 : Int) ≤ (k : Int) := by omega
      obtain ⟨b, off, s, rfl, hb, hs, d1, d2, d3⟩ := LIn.at hI1.out hB (by have := hlH.out; omega : k < l.length)
      obtain ⟨b', off', s', rfl, hb', hs', e1, e2, e3⟩ := LIn.at hI2.out hB (by have := hlH.out; omega : k < l.length)
      obtain rfl : s = s' := by rw [hs] at hs'; exact Option.some.inj hs'
      clear hs hs'
      have hBd : ∀ q, Below w.heap.size w (wr.drewN q) := fun q => below_drewN hB q
      generalize s.t = st at *
      generalize s.k = sk at *
      generalize s.x = sx at *
      clear hB
      go_wp2_with fail
      go_quiet (fail)
      go_wp2_with fail
      go_roundw
      case rel => exact ⟨k + 1, by omega, by go_num, hBd _⟩
      case measure => simp [intOf]; omega
    · obtain rfl : k = n := by omega
      go_wp2_with fail
      go_ret
      exact ⟨rfl, hB⟩
theorem SRow.lin {H m : Nat} {l : List Smp} {w1 wx : World} (h : SRow H m (handSF l) w1 wx) (hm : l.length ≤ m) (hk : ∀ s ∈ l, s.ok) : LIn wx (some ⟨H, 0, none⟩) l := by
  refine ⟨hk, Or.inr ⟨H, 0, rfl, h.sz, fun i s hs => ?_⟩⟩
  have hi := (List.getElem?_eq_some_iff.1 hs).1
  have e : handSF l i = s := by
    unfold handSF
    rw [if_pos hi, List.getD_eq_getElem?_getD, hs]; rfl
  have c0 := h.c0 i (by omega)
  have c1 := h.c1 i (by omega)
  have c2 := h.c2 i (by omega)
  rw [e] at c0 c1 c2
  rw [Nat.zero_add]
  exact ⟨c0, c1, c2⟩
set_option maxRecDepth 100000 in
set_option maxHeartbeats 4000000 in
theorem keptS_any (H : Nat) (a : Option Addr) (cap : Nat) (l : List Smp) (w1 w : World) (h : SRow H (l.length + 9) (handSF l) w1 w) (h2 : LIn w a l) (hn : l.length ≤ 5864062014805) : Calls Tryz.prog 38 #[.slice (some ⟨H, 0, none⟩) l.length (l.length + 9), .slice a l.length cap] w fun e w' => e = .returned (.bool true) ∧ Below w.heap.size w w' := by
  have hsm : Hid _ := sameS_any (some ⟨H, 0, none⟩) a (l.length + 9) cap l w (h.lin (by omega) h2.1) h2 hn
  have hR : Hid (∀ j, l.length ≤ j → j < l.length + 9 → w.cell? ⟨H, j * 3, none⟩ = some (.int .i64 (-700 - (j : Int) + (l.length : Int))) ∧ w.cell? ⟨H, j * 3 + 1, none⟩ = some (.int .u8 0) ∧ w.cell? ⟨H, j * 3 + 2, none⟩ = some (.int .i64 0)) := by
    intro j hj hj2
    have c0 := h.c0 j hj2
    have c1 := h.c1 j hj2
    have c2 := h.c2 j hj2
    have e : handSF l j = ⟨-700 - (j : Int) + (l.length : Int), 0, 0⟩ := by unfold handSF; rw [if_neg (by omega)]
    rw [e] at c0 c1 c2
    exact ⟨c0, c1, c2⟩
  have hHl := h.sz
  clear h h2
  generalize l.length = n at *
  go_enter Tryz.func38, Tryz.ntmps38
  go_wp2_with fail
  refine Calls.mono hsm.out ?_
  rintro e w2 ⟨rfl, hB2⟩
  clear hsm
  go_wp2_with fail
  go_loopw [6] (fun i wr => ∃ (m : Nat), n ≤ m ∧ m ≤ n + 9 ∧ i = .int .i64 m ∧ Below w.heap.size w wr) (fun i _ => n + 9 - (intOf i).toNat)
  case atStart => exact ⟨n, Nat.le_refl _, by omega, rfl, hB2⟩
  case round =>
    obtain ⟨m, hm1, hm2, rfl, hB⟩ := hrel
    by_cases hlt : m < n + 9
    · have hltI : (m : Int) < (n : Int) + 9 := by omega
      have hm0 : (0 : Int) ≤ (m : Int) := by omega
      obtain ⟨d1, d2, d3⟩ := hR.out m hm1 hlt
      rw [← hB.cell (p := ⟨H, m * 3, none⟩) hHl] at d1
      rw [← hB.cell (p := ⟨H, m * 3 + 1, none⟩) hHl] at d2
      rw [← hB.cell (p := ⟨H, m * 3 + 2, none⟩) hHl] at d3
      have hBd : ∀ q, Below w.heap.size w (wr.drewN q) := fun q => below_drewN hB q
      go_wp2_with fail
      go_roundw
      case rel => exact ⟨m + 1, by omega, by omega, by go_num, hB⟩
      case measure => simp [intOf]; omega
    · obtain rfl : m = n + 9 := by omega
      go_wp2_with fail
      go_ret
      exact ⟨rfl, hB⟩
end Go.Proofs.YticgapplpfaigaaGreat
