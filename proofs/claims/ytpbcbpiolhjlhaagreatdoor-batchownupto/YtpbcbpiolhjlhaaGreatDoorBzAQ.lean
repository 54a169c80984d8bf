
import Derived.Test.YtpbcbpiolhjlhaaGreatDoorRows
import Derived.Test.YtpbcbpiolhjlhaaGreatDoorBzAP
import Derived.Test.YtpbcbpiolhjlhaaGreatDoorBzAN

namespace Go.Proofs.YtpbcbpiolhjlhaaGreatDoor
open Go.ChangeShapes Go.WideShapes Go.ChangeAt Go.RowKit
set_option linter.unusedVariables false
set_option linter.unusedSimpArgs false
/-- the bulk of fields bounds how many there are. -/
theorem fields_fewW {H : Type} {enc : TypeId × Value → H} {W : World} {a : Option Addr} {n cap : Nat} {y : DataW H × List MemPlace} {fuel : Nat}
    (hf : DataW.trod enc Tryz.prog W 0 (fun _ => true) true fuel 78 [.slice a n cap] = some y) : n ≤ Rows.uptoBulk y.1 := by
  rcases Go.Deep.open_slice Tryz.underlying78 hf with ⟨hcs, hx⟩ | ⟨a', len, cap', m, n', D, Pl, hcs, _, hl, hm, hmm, hx, hall⟩
  · simp at hcs
    omega
  · simp at hcs
    obtain ⟨_, rfl, rfl⟩ := hcs
    rw [hx]
    simp only [Rows.uptoBulk]
    have := bulk_lenW ((List.range n).map D)
    simp at this
    omega
set_option maxRecDepth 100000 in
/-- points, as they are read, by their bulk. -/
theorem points_bulk {H : Type} {enc : TypeId × Value → H} {W : World} {v : Value} {y : DataW H × List MemPlace} {fuel : Nat}
    (hf : DataW.trod enc Tryz.prog W 0 (fun _ => true) true fuel 22 [v] = some y) (hbk : Rows.uptoBulk y.1 ≤ 1048576) :
    ∃ a l cap, v = .slice a (List.length l) cap ∧ PsIn W a l ∧ l.length ≤ cap ∧ l.length ≤ 1048576 ∧ ∀ p ∈ l, p.t.length ≤ 1048576 := by
  rcases Go.Deep.open_slice Tryz.underlying22 hf with ⟨hcs, hx⟩ | ⟨a, len, cap, m, n, D, Pl, hcs, hb, hl, hm, hmm, hx, hall⟩
  · simp at hcs
    subst hcs
    exact ⟨none, [], 0, rfl, Or.inl rfl, by simp, by simp, by simp⟩
  · simp at hcs
    subst hcs
    simp only [if_true] at hmm
    subst hmm
    have hce : Tryz.prog.cellsOf 80 = 4 := by kernel_rfl
    have cu : Tryz.prog.cellsOf 2 = 1 := by kernel_rfl
    have cs : Tryz.prog.cellsOf 9 = 1 := by kernel_rfl
    have ct : Tryz.prog.cellsOf 66 = 1 := by kernel_rfl
    have cf : Tryz.prog.cellsOf 78 = 1 := by kernel_rfl
    have hy1 : y.1 = .slice ((List.range len).map D) ((List.range (m - len)).map fun j => D (len + j)) := by rw [hx]
    have hbe : Rows.uptoBulkAll ((List.range len).map D) ≤ 1048576 := by
      rw [hy1] at hbk; simp only [Rows.uptoBulk] at hbk; omega
    have hsz : len ≤ 1048576 := by have := bulk_lenW ((List.range len).map D); simp at this; omega
    have each : ∀ i, i < len → ∃ q : PtA, (W.cell? (a.add (i * 4)) = some (.string q.1.m) ∧ W.cell? (a.add (i * 4 + 1)) = some (.slice q.2.1.1 q.1.t.length q.2.1.2) ∧ W.cell? (a.add (i * 4 + 2)) = some (.slice q.2.2.1 q.1.f.length q.2.2.2) ∧ W.cell? (a.add (i * 4 + 3)) = some (.int .i64 q.1.tm)) ∧ PtIn W q.2.1.1 q.2.2.1 q.2.2.2 q.1 ∧ q.1.t.length ≤ 1048576 := by
      intro i hi
      obtain ⟨cs', h1, h2⟩ := hall i (by omega)
      rw [hce] at h1
      obtain ⟨_, hlen, hcell⟩ := World.cells?_some h1
      obtain ⟨xs, k, hk, hxy, _, hxl, hff⟩ := DataW.trod_struct Tryz.underlying80 h2
      have hDb : Rows.uptoBulk (D i) ≤ 1048576 := Nat.le_trans (bulk_memW (List.mem_map.2 ⟨i, List.mem_range.2 hi, rfl⟩)) hbe
      match xs, hxl, cs', hlen with
      | [y0, y1, y2, y3], _, [v0, v1, v2, v3], _ =>
        have g0 : DataW.trod enc Tryz.prog W 0 (fun _ => true) true k 9 (List.take (Tryz.prog.cellsOf 9) [v0, v1, v2, v3]) = some y0 := hff 0 _ rfl
        have g1 : DataW.trod enc Tryz.prog W 0 (fun _ => true) true k 66 (List.take (Tryz.prog.cellsOf 66) [v1, v2, v3]) = some y1 := hff 1 _ rfl
        have g2 : DataW.trod enc Tryz.prog W 0 (fun _ => true) true k 78 (List.take (Tryz.prog.cellsOf 78) [v2, v3]) = some y2 := hff 2 _ rfl
        have g3 : DataW.trod enc Tryz.prog W 0 (fun _ => true) true k 2 (List.take (Tryz.prog.cellsOf 2) [v3]) = some y3 := hff 3 _ rfl
        rw [cs] at g0
        rw [ct] at g1
        rw [cf] at g2
        rw [cu] at g3
        simp only [List.take_succ_cons, List.take_zero] at g0 g1 g2 g3
        have hDi : D i = .agg [y0.1, y1.1, y2.1, y3.1] := by simpa using congrArg (·.1) hxy
        obtain ⟨sm, e0, _⟩ := DataW.trod_string Tryz.underlying9 g0
        obtain ⟨n3, e3, _, w3⟩ := DataW.trod_int Tryz.underlying2 g3
        obtain ⟨ta, tl, tc, e1, ti, tn⟩ := tags_read g1
        obtain ⟨fa, fl, fc, e2, fi, fn⟩ := fields_read g2
        subst e1 e2
        have hfew := tags_fewW g1
        have hfew2 := fields_fewW g2
        rw [hDi] at hDb
        simp only [Rows.uptoBulk, Rows.uptoBulkAll] at hDb
        simp at e0 e3
        subst e0 e3
        have r0 := hcell 0 (by omega)
        have r1 := hcell 1 (by omega)
        have r2 := hcell 2 (by omega)
        have r3 := hcell 3 (by omega)
        rw [Go.Deep.add_add] at r0 r1 r2 r3
        exact ⟨(⟨sm, tl, fl, n3⟩, (ta, tc), (fa, fc)), ⟨by simpa using r0, by simpa using r1, by simpa using r2, by simpa using r3⟩, ⟨ti, by show tl.length ≤ 4398046511104; omega, fi, by show fl.length ≤ 4611686018427387904; omega, fn⟩, by show tl.length ≤ 1048576; omega⟩
    haveI : Inhabited PtA := ⟨(noP, (none, 0), (none, 0))⟩
    obtain ⟨q, hq⟩ := choose_belowW each
    refine ⟨some a, (List.range len).map (fun i => (q i).1), m, by simp, ?_, by simpa using hl, by simpa using hsz, fun x hx => ?_⟩
    · rcases Nat.eq_zero_or_pos len with h0 | h0
      · exact Or.inl (by rw [h0]; rfl)
      · right
        obtain ⟨b, off, spot⟩ := a
        have hspot : spot = none := by simpa [Addr.add] using World.cell?_spot (hq 0 h0).1.1
        subst hspot
        refine ⟨b, off, rfl, ?_, fun i s hs => ?_⟩
        · have h' := (hq 0 h0).1.1
          rw [tag_add] at h'
          rcases Nat.lt_or_ge b W.heap.size with h2 | h2
          · exact h2
          · simp [World.cell?, Array.getElem?_eq_none h2] at h'
        · have hi : i < len := by have := (List.getElem?_eq_some_iff.1 hs).1; simpa using this
          have es : s = (q i).1 := by
            rw [List.getElem?_map, List.getElem?_range hi] at hs
            simpa using hs.symm
          subst es
          obtain ⟨⟨r0, r1, r2, r3⟩, hS, _⟩ := hq i hi
          rw [tag_add] at r0 r1 r2 r3
          exact ⟨(q i).2.1.1, (q i).2.1.2, (q i).2.2.1, (q i).2.2.2, ⟨r0, by rw [Nat.add_assoc]; exact r1, by rw [Nat.add_assoc]; exact r2, by rw [Nat.add_assoc]; exact r3⟩, hS⟩
    · simp only [List.mem_map, List.mem_range] at hx
      obtain ⟨i, hi, rfl⟩ := hx
      exact (hq i hi).2.2
end Go.Proofs.YtpbcbpiolhjlhaaGreatDoor


namespace Go.Proofs.YtpbcbpiolhjlhaaGreatDoor
open Go.ChangeShapes Go.WideShapes Go.ChangeAt Go.RowKit
set_option linter.unusedVariables false
set_option linter.unusedSimpArgs false
theorem bulk_len3 {H : Type} : ∀ l : List (DataW H), (∀ d ∈ l, 3 ≤ Rows.uptoBulk d) → 3 * l.length ≤ Rows.uptoBulkAll l
  | [], _ => Nat.zero_le _
  | d :: r, h => by
    have h1 := h d (List.mem_cons_self ..)
    have h2 := bulk_len3 r (fun x hx => h x (List.mem_cons_of_mem _ hx))
    simp only [Rows.uptoBulkAll, List.length_cons]; omega
set_option maxRecDepth 100000 in
/-- writes, as they are read, by their bulk. -/
theorem writes_bulk3 {H : Type} {enc : TypeId × Value → H} {W : World} {v : Value} {y : DataW H × List MemPlace} {fuel : Nat}
    (hf : DataW.trod enc Tryz.prog W 0 (fun _ => true) true fuel 23 [v] = some y) (hbk : Rows.uptoBulk y.1 ≤ 1048576) :
    ∃ a l cap, v = .slice a (List.length l) cap ∧ WIn W a l ∧ l.length ≤ cap ∧ l.length ≤ 349525 ∧ ∀ x ∈ l, x.s.t.length ≤ 1048576 := by
  rcases Go.Deep.open_slice Tryz.underlying23 hf with ⟨hcs, hx⟩ | ⟨a, len, cap, m, n, D, Pl, hcs, hb, hl, hm, hmm, hx, hall⟩
  · simp at hcs
    subst hcs
    exact ⟨none, [], 0, rfl, Or.inl rfl, by simp, by simp, by simp⟩
  · simp at hcs
    subst hcs
    simp only [if_true] at hmm
    subst hmm
    have hce : Tryz.prog.cellsOf 76 = 6 := by kernel_rfl
    have hcs : Tryz.prog.cellsOf 68 = 3 := by kernel_rfl
    have hcm : Tryz.prog.cellsOf 74 = 3 := by kernel_rfl
    have hcv : Tryz.prog.cellsOf 72 = 2 := by kernel_rfl
    have ck : Tryz.prog.cellsOf 70 = 1 := by kernel_rfl
    have cu : Tryz.prog.cellsOf 2 = 1 := by kernel_rfl
    have cs : Tryz.prog.cellsOf 9 = 1 := by kernel_rfl
    have ct : Tryz.prog.cellsOf 66 = 1 := by kernel_rfl
    have hy1 : y.1 = .slice ((List.range len).map D) ((List.range (m - len)).map fun j => D (len + j)) := by rw [hx]
    have hbe : Rows.uptoBulkAll ((List.range len).map D) ≤ 1048576 := by
      rw [hy1] at hbk; simp only [Rows.uptoBulk] at hbk; omega
    have h3 : ∀ i, i < len → 3 ≤ Rows.uptoBulk (D i) := fun i hi => by
      obtain ⟨cs', h1, h2⟩ := hall i (by omega)
      obtain ⟨xs, k, hk, hxy, _, hxl, hff⟩ := DataW.trod_struct Tryz.underlying76 h2
      match xs, hxl with
      | [y0, y1], _ =>
        have hDi : D i = .agg [y0.1, y1.1] := by simpa using congrArg (·.1) hxy
        rw [hDi]
        simp only [Rows.uptoBulk, Rows.uptoBulkAll]
        have q0 := bulk_posW y0.1
        have q1 := bulk_posW y1.1
        omega
    have hsz : len ≤ 349525 := by
      have := bulk_len3 ((List.range len).map D) (fun d hd => by
        obtain ⟨i, hi, rfl⟩ := List.mem_map.1 hd
        exact h3 i (List.mem_range.1 hi))
      simp at this; omega
    have each : ∀ i, i < len → ∃ q : WrA, (W.cell? (a.add (i * 6)) = some (.string q.1.s.m) ∧ W.cell? (a.add (i * 6 + 1)) = some (.slice q.2.1 q.1.s.t.length q.2.2) ∧ W.cell? (a.add (i * 6 + 2)) = some (.string q.1.s.f) ∧ W.cell? (a.add (i * 6 + 3)) = some (.int .i64 q.1.tm) ∧ W.cell? (a.add (i * 6 + 4)) = some (.int .u8 (q.1.kd : Int)) ∧ W.cell? (a.add (i * 6 + 5)) = some (.int .i64 q.1.n)) ∧ SerIn W q.2.1 q.1.s ∧ q.1.s.t.length ≤ 1048576 := by
      intro i hi
      obtain ⟨cs', h1, h2⟩ := hall i (by omega)
      rw [hce] at h1
      obtain ⟨_, hlen, hcell⟩ := World.cells?_some h1
      obtain ⟨xs, k, hk, hxy, _, hxl, hff⟩ := DataW.trod_struct Tryz.underlying76 h2
      have hDb : Rows.uptoBulk (D i) ≤ 1048576 := Nat.le_trans (bulk_memW (List.mem_map.2 ⟨i, List.mem_range.2 hi, rfl⟩)) hbe
      match xs, hxl, cs', hlen with
      | [y0, y1], _, [v0, v1, v2, v3, v4, v5], _ =>
        have g0 : DataW.trod enc Tryz.prog W 0 (fun _ => true) true k 68 (List.take (Tryz.prog.cellsOf 68) [v0, v1, v2, v3, v4, v5]) = some y0 := hff 0 _ rfl
        have g1 : DataW.trod enc Tryz.prog W 0 (fun _ => true) true k 74 (List.take (Tryz.prog.cellsOf 74) [v3, v4, v5]) = some y1 := hff 1 _ rfl
        rw [hcs] at g0
        rw [hcm] at g1
        simp only [List.take_succ_cons, List.take_zero] at g0 g1
        have hDi : D i = .agg [y0.1, y1.1] := by simpa using congrArg (·.1) hxy
        obtain ⟨xs', k', hk', hxy', _, hxl', hff'⟩ := DataW.trod_struct Tryz.underlying68 g0
        obtain ⟨xs2, k2, hk2, hxy2, _, hxl2, hff2⟩ := DataW.trod_struct Tryz.underlying74 g1
        match xs', hxl', xs2, hxl2 with
        | [u0, u1, u2], _, [u3, u4], _ =>
          have hy0 : y0.1 = .agg [u0.1, u1.1, u2.1] := by simpa using congrArg (·.1) hxy'
          have f0 : DataW.trod enc Tryz.prog W 0 (fun _ => true) true k' 9 (List.take (Tryz.prog.cellsOf 9) [v0, v1, v2]) = some u0 := hff' 0 _ rfl
          have f1 : DataW.trod enc Tryz.prog W 0 (fun _ => true) true k' 66 (List.take (Tryz.prog.cellsOf 66) [v1, v2]) = some u1 := hff' 1 _ rfl
          have f2 : DataW.trod enc Tryz.prog W 0 (fun _ => true) true k' 9 (List.take (Tryz.prog.cellsOf 9) [v2]) = some u2 := hff' 2 _ rfl
          have f3 : DataW.trod enc Tryz.prog W 0 (fun _ => true) true k2 2 (List.take (Tryz.prog.cellsOf 2) [v3, v4, v5]) = some u3 := hff2 0 _ rfl
          have f4 : DataW.trod enc Tryz.prog W 0 (fun _ => true) true k2 72 (List.take (Tryz.prog.cellsOf 72) [v4, v5]) = some u4 := hff2 1 _ rfl
          rw [cs] at f0 f2
          rw [ct] at f1
          rw [cu] at f3
          rw [hcv] at f4
          simp only [List.take_succ_cons, List.take_zero] at f0 f1 f2 f3 f4
          obtain ⟨xs3, k3, hk3, hxy3, _, hxl3, hff3⟩ := DataW.trod_struct Tryz.underlying72 f4
          match xs3, hxl3 with
          | [u5, u6], _ =>
            have f5 : DataW.trod enc Tryz.prog W 0 (fun _ => true) true k3 70 (List.take (Tryz.prog.cellsOf 70) [v4, v5]) = some u5 := hff3 0 _ rfl
            have f6 : DataW.trod enc Tryz.prog W 0 (fun _ => true) true k3 2 (List.take (Tryz.prog.cellsOf 2) [v5]) = some u6 := hff3 1 _ rfl
            rw [ck] at f5
            rw [cu] at f6
            simp only [List.take_succ_cons, List.take_zero] at f5 f6
            obtain ⟨sm, e0, _⟩ := DataW.trod_string Tryz.underlying9 f0
            obtain ⟨sf, e2, _⟩ := DataW.trod_string Tryz.underlying9 f2
            obtain ⟨n3, e3, _, w3⟩ := DataW.trod_int Tryz.underlying2 f3
            obtain ⟨n5, e5, _, w5⟩ := DataW.trod_int Tryz.underlying70 f5
            obtain ⟨n6, e6, _, w6⟩ := DataW.trod_int Tryz.underlying2 f6
            obtain ⟨ta, tl, tc, e1, ti, tn⟩ := tags_read f1
            subst e1
            have hfew := tags_fewW f1
            have hfew2 : tl.length ≤ 1048576 := by
              rw [hDi] at hDb
              simp only [Rows.uptoBulk, Rows.uptoBulkAll] at hDb
              rw [hy0] at hDb
              simp only [Rows.uptoBulk, Rows.uptoBulkAll] at hDb
              omega
            simp at e0 e2 e3 e5 e6
            subst e0 e2 e3 e5 e6
            have r0 := hcell 0 (by omega)
            have r1 := hcell 1 (by omega)
            have r2 := hcell 2 (by omega)
            have r3 := hcell 3 (by omega)
            have r4 := hcell 4 (by omega)
            have r5 := hcell 5 (by omega)
            rw [Go.Deep.add_add] at r0 r1 r2 r3 r4 r5
            have b5 := bounds_u8 w5
            refine ⟨(⟨⟨sm, tl, sf⟩, n3, n5.toNat, n6⟩, ta, tc), ⟨by simpa using r0, by simpa using r1, by simpa using r2, by simpa using r3, ?_, by simpa using r5⟩, ⟨ti, tn⟩, hfew2⟩
            have ek : ((n5.toNat : Nat) : Int) = n5 := by omega
            simpa [ek] using r4
    have each2 : ∀ i, i < len → ∃ q : WrA, _ := each
    haveI : Inhabited WrA := ⟨(noW, none, 0)⟩
    obtain ⟨q, hq⟩ := choose_belowW each2
    refine ⟨some a, (List.range len).map (fun i => (q i).1), m, by simp, ?_, by simpa using hl, by simpa using hsz, fun x hx => ?_⟩
    · rcases Nat.eq_zero_or_pos len with h0 | h0
      · exact Or.inl (by rw [h0]; rfl)
      · right
        obtain ⟨b, off, spot⟩ := a
        have hspot : spot = none := by simpa [Addr.add] using World.cell?_spot (hq 0 h0).1.1
        subst hspot
        refine ⟨b, off, rfl, ?_, fun i s hs => ?_⟩
        · have h' := (hq 0 h0).1.1
          rw [tag_add] at h'
          rcases Nat.lt_or_ge b W.heap.size with h2 | h2
          · exact h2
          · simp [World.cell?, Array.getElem?_eq_none h2] at h'
        · have hi : i < len := by have := (List.getElem?_eq_some_iff.1 hs).1; simpa using this
          have es : s = (q i).1 := by
            rw [List.getElem?_map, List.getElem?_range hi] at hs
            simpa using hs.symm
          subst es
          obtain ⟨⟨r0, r1, r2, r3, r4, r5⟩, hS, _⟩ := hq i hi
          rw [tag_add] at r0 r1 r2 r3 r4 r5
          exact ⟨(q i).2.1, (q i).2.2, ⟨r0, by rw [Nat.add_assoc]; exact r1, by rw [Nat.add_assoc]; exact r2, by rw [Nat.add_assoc]; exact r3, by rw [Nat.add_assoc]; exact r4, by rw [Nat.add_assoc]; exact r5⟩, hS⟩
    · simp only [List.mem_map, List.mem_range] at hx
      obtain ⟨i, hi, rfl⟩ := hx
      exact (hq i hi).2.2
end Go.Proofs.YtpbcbpiolhjlhaaGreatDoor
