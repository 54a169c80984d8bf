
import Derived.Test.YtlcppkemiogbeaaKyB
import Derived.ProofKit
import Derived.OpenShut
import Derived.Deep.SlicePairs
import Derived.Lib.SmallJoins
import Derived.Test.YtlcppkemiogbeaaRows
import Derived.Test.YtlcppkemiogbeaaBkU6
namespace Go.Proofs.Ytlcppkemiogbeaa
open Go.ChangeShapes Go.WideShapes Go.ChangeAt Go.RowKit
set_option linter.unusedVariables false
def strOf : Value → ByteArray
  | .string s => s
  | _ => ⟨#[]⟩
set_option maxRecDepth 100000 in
/-- tags, as they are read. -/
theorem tags_read {H : Type} {enc : TypeId × Value → H} {W : World} {v : Value} {y : DataW H × List MemPlace} {fuel : Nat}
    (hf : DataW.trod enc Try.prog W 0 (fun _ => true) true fuel 23 [v] = some y) :
    ∃ a l cap, v = .slice a l.length cap ∧ TgIn W a l ∧ l.length ≤ 9223372036854775807 := by
  rcases Go.Deep.open_slice_pairs Try.underlying23 Try.underlying85 (by kernel_rfl) rfl rfl (by kernel_rfl) (by kernel_rfl) hf with ⟨hcs, hx⟩ | ⟨a, len, cap, m, n, V0, V1, D0, D1, P0, P1, hcs, _, hl, hm, hmeq, hx, hall⟩
  · simp at hcs
    subst hcs
    exact ⟨none, [], 0, rfl, Or.inl rfl, by simp⟩
  · simp at hcs
    subst hcs
    simp only [if_true] at hmeq
    have hml : len ≤ 9223372036854775807 := by have : maxLen = 9223372036854775807 := rfl; omega
    have key : ∀ i, i < m → ∃ s t, V0 i = .string s ∧ V1 i = .string t := fun i hi => by
      obtain ⟨_, _, t0, t1⟩ := hall i hi
      obtain ⟨s, e0, _⟩ := DataW.trod_string Try.underlying9 t0
      obtain ⟨t, e1, _⟩ := DataW.trod_string Try.underlying9 t1
      simp at e0 e1
      exact ⟨s, t, e0, e1⟩
    refine ⟨some a, (List.range len).map (fun i => (strOf (V0 i), strOf (V1 i))), cap, by simp, ?_, by simpa using hml⟩
    rcases Nat.eq_zero_or_pos len with h0 | h0
    · subst h0; exact Or.inl rfl
    · right
      obtain ⟨b, off, spot⟩ := a
      have hspot : spot = none := by simpa [Addr.add] using World.cell?_spot (hall 0 (by omega)).1
      subst hspot
      refine ⟨b, off, rfl, ?_, fun i t ht => ?_⟩
      · have h' := (hall 0 (by omega)).1
        rw [Go.WideShapes.add_plain] at h'
        rcases Nat.lt_or_ge b W.heap.size with h2 | h2
        · exact h2
        · simp [World.cell?, Array.getElem?_eq_none h2] at h'
      · have hi : i < len := by
          have := (List.getElem?_eq_some_iff.1 ht).1
          simpa using this
        have et : t = (strOf (V0 i), strOf (V1 i)) := by
          rw [List.getElem?_map, List.getElem?_range hi] at ht
          simpa using ht.symm
        subst et
        obtain ⟨s, u, e0, e1⟩ := key i (by omega)
        obtain ⟨c0, c1, _, _⟩ := hall i (by omega)
        rw [Go.WideShapes.add_plain] at c0 c1
        refine ⟨?_, ?_⟩
        · rw [c0, e0]; rfl
        · rw [← Nat.add_assoc] at c1; rw [c1, e1]; rfl
end Go.Proofs.Ytlcppkemiogbeaa

namespace Go.Proofs.Ytlcppkemiogbeaa
open Go.ChangeShapes Go.WideShapes Go.ChangeAt Go.RowKit
set_option linter.unusedVariables false
set_option linter.unusedSimpArgs false
theorem bulk_posW {H : Type} (d : DataW H) : 1 ≤ Rows.uptoBulk d := by
  cases d <;> first | (simp [Rows.uptoBulk]; done) | (rename_i q; cases q <;> simp [Rows.uptoBulk])
theorem bulk_lenW {H : Type} : ∀ l : List (DataW H), l.length ≤ Rows.uptoBulkAll l
  | [] => Nat.zero_le _
  | d :: r => by
    have h1 := bulk_posW d
    have h2 := bulk_lenW r
    simp only [Rows.uptoBulkAll, List.length_cons]; omega
theorem bulk_memW {H : Type} : ∀ {l : List (DataW H)} {d : DataW H}, d ∈ l → Rows.uptoBulk d ≤ Rows.uptoBulkAll l
  | x :: r, d, h => by
    simp only [Rows.uptoBulkAll]
    rcases List.mem_cons.1 h with e | e
    · subst e; omega
    · have := bulk_memW e; omega
/-- the bulk of tags bounds how many there are. -/
theorem tags_fewW {H : Type} {enc : TypeId × Value → H} {W : World} {a : Option Addr} {n cap : Nat} {y : DataW H × List MemPlace} {fuel : Nat}
    (hf : DataW.trod enc Try.prog W 0 (fun _ => true) true fuel 23 [.slice a n cap] = some y) : n ≤ Rows.uptoBulk y.1 := by
  rcases Go.Deep.open_slice Try.underlying23 hf with ⟨hcs, hx⟩ | ⟨a', len, cap', m, n', D, Pl, hcs, _, hl, hm, hmm, hx, hall⟩
  · simp at hcs
    omega
  · simp at hcs
    obtain ⟨_, rfl, rfl⟩ := hcs
    rw [hx]
    simp only [Rows.uptoBulk]
    have := bulk_lenW ((List.range n).map D)
    simp at this
    omega
set_option maxRecDepth 100000 in
/-- writes, as they are read, by their bulk. -/
theorem writes_bulk {H : Type} {enc : TypeId × Value → H} {W : World} {v : Value} {y : DataW H × List MemPlace} {fuel : Nat}
    (hf : DataW.trod enc Try.prog W 0 (fun _ => true) true fuel 28 [v] = some y) (hbk : Rows.uptoBulk y.1 ≤ 1048576) :
    ∃ a l cap, v = .slice a (List.length l) cap ∧ WIn W a l ∧ l.length ≤ cap ∧ l.length ≤ Rows.uptoBulk y.1 ∧ ∀ x ∈ l, x.s.t.length ≤ 4398046511104 ∧ (smpOf x).ok := by
  rcases Go.Deep.open_slice Try.underlying28 hf with ⟨hcs, hx⟩ | ⟨a, len, cap, m, n, D, Pl, hcs, hb, hl, hm, hmm, hx, hall⟩
  · simp at hcs
    subst hcs
    exact ⟨none, [], 0, rfl, Or.inl rfl, by simp, by simp, by simp⟩
  · simp at hcs
    subst hcs
    simp only [if_true] at hmm
    subst hmm
    have hce : Try.prog.cellsOf 37 = 6 := by kernel_rfl
    have hcs : Try.prog.cellsOf 25 = 3 := by kernel_rfl
    have hcm : Try.prog.cellsOf 35 = 3 := by kernel_rfl
    have hcv : Try.prog.cellsOf 33 = 2 := by kernel_rfl
    have ck : Try.prog.cellsOf 31 = 1 := by kernel_rfl
    have cu : Try.prog.cellsOf 2 = 1 := by kernel_rfl
    have cs : Try.prog.cellsOf 9 = 1 := by kernel_rfl
    have ct : Try.prog.cellsOf 23 = 1 := by kernel_rfl
    have hy1 : y.1 = .slice ((List.range len).map D) ((List.range (m - len)).map fun j => D (len + j)) := by rw [hx]
    have hbe : Rows.uptoBulkAll ((List.range len).map D) ≤ 1048576 := by
      rw [hy1] at hbk; simp only [Rows.uptoBulk] at hbk; omega
    have hsz : len ≤ Rows.uptoBulk y.1 := by
      have := bulk_lenW ((List.range len).map D)
      rw [hy1]
      simp only [Rows.uptoBulk]
      simp at this
      omega
    have each : ∀ i, i < len → ∃ q : WrA, (W.cell? (a.add (i * 6)) = some (.string q.1.s.m) ∧ W.cell? (a.add (i * 6 + 1)) = some (.slice q.2.1 q.1.s.t.length q.2.2) ∧ W.cell? (a.add (i * 6 + 2)) = some (.string q.1.s.f) ∧ W.cell? (a.add (i * 6 + 3)) = some (.int .i64 q.1.tm) ∧ W.cell? (a.add (i * 6 + 4)) = some (.int .u8 (q.1.kd : Int)) ∧ W.cell? (a.add (i * 6 + 5)) = some (.int .i64 q.1.n)) ∧ SerIn W q.2.1 q.1.s ∧ q.1.s.t.length ≤ 4398046511104 ∧ (smpOf q.1).ok := by
      intro i hi
      obtain ⟨cs', h1, h2⟩ := hall i (by omega)
      rw [hce] at h1
      obtain ⟨_, hlen, hcell⟩ := World.cells?_some h1
      obtain ⟨xs, k, hk, hxy, _, hxl, hff⟩ := DataW.trod_struct Try.underlying37 h2
      have hDb : Rows.uptoBulk (D i) ≤ 1048576 := Nat.le_trans (bulk_memW (List.mem_map.2 ⟨i, List.mem_range.2 hi, rfl⟩)) hbe
      match xs, hxl, cs', hlen with
      | [y0, y1], _, [v0, v1, v2, v3, v4, v5], _ =>
        have g0 : DataW.trod enc Try.prog W 0 (fun _ => true) true k 25 (List.take (Try.prog.cellsOf 25) [v0, v1, v2, v3, v4, v5]) = some y0 := hff 0 _ rfl
        have g1 : DataW.trod enc Try.prog W 0 (fun _ => true) true k 35 (List.take (Try.prog.cellsOf 35) [v3, v4, v5]) = some y1 := hff 1 _ rfl
        rw [hcs] at g0
        rw [hcm] at g1
        simp only [List.take_succ_cons, List.take_zero] at g0 g1
        have hDi : D i = .agg [y0.1, y1.1] := by simpa using congrArg (·.1) hxy
        obtain ⟨xs', k', hk', hxy', _, hxl', hff'⟩ := DataW.trod_struct Try.underlying25 g0
        obtain ⟨xs2, k2, hk2, hxy2, _, hxl2, hff2⟩ := DataW.trod_struct Try.underlying35 g1
        match xs', hxl', xs2, hxl2 with
        | [u0, u1, u2], _, [u3, u4], _ =>
          have hy0 : y0.1 = .agg [u0.1, u1.1, u2.1] := by simpa using congrArg (·.1) hxy'
          have f0 : DataW.trod enc Try.prog W 0 (fun _ => true) true k' 9 (List.take (Try.prog.cellsOf 9) [v0, v1, v2]) = some u0 := hff' 0 _ rfl
          have f1 : DataW.trod enc Try.prog W 0 (fun _ => true) true k' 23 (List.take (Try.prog.cellsOf 23) [v1, v2]) = some u1 := hff' 1 _ rfl
          have f2 : DataW.trod enc Try.prog W 0 (fun _ => true) true k' 9 (List.take (Try.prog.cellsOf 9) [v2]) = some u2 := hff' 2 _ rfl
          have f3 : DataW.trod enc Try.prog W 0 (fun _ => true) true k2 2 (List.take (Try.prog.cellsOf 2) [v3, v4, v5]) = some u3 := hff2 0 _ rfl
          have f4 : DataW.trod enc Try.prog W 0 (fun _ => true) true k2 33 (List.take (Try.prog.cellsOf 33) [v4, v5]) = some u4 := hff2 1 _ rfl
          rw [cs] at f0 f2
          rw [ct] at f1
          rw [cu] at f3
          rw [hcv] at f4
          simp only [List.take_succ_cons, List.take_zero] at f0 f1 f2 f3 f4
          obtain ⟨xs3, k3, hk3, hxy3, _, hxl3, hff3⟩ := DataW.trod_struct Try.underlying33 f4
          match xs3, hxl3 with
          | [u5, u6], _ =>
            have f5 : DataW.trod enc Try.prog W 0 (fun _ => true) true k3 31 (List.take (Try.prog.cellsOf 31) [v4, v5]) = some u5 := hff3 0 _ rfl
            have f6 : DataW.trod enc Try.prog W 0 (fun _ => true) true k3 2 (List.take (Try.prog.cellsOf 2) [v5]) = some u6 := hff3 1 _ rfl
            rw [ck] at f5
            rw [cu] at f6
            simp only [List.take_succ_cons, List.take_zero] at f5 f6
            obtain ⟨sm, e0, _⟩ := DataW.trod_string Try.underlying9 f0
            obtain ⟨sf, e2, _⟩ := DataW.trod_string Try.underlying9 f2
            obtain ⟨n3, e3, _, w3⟩ := DataW.trod_int Try.underlying2 f3
            obtain ⟨n5, e5, _, w5⟩ := DataW.trod_int Try.underlying31 f5
            obtain ⟨n6, e6, _, w6⟩ := DataW.trod_int Try.underlying2 f6
            obtain ⟨ta, tl, tc, e1, ti, tn⟩ := tags_read f1
            subst e1
            have hfew := tags_fewW f1
            have hfew2 : tl.length ≤ 4398046511104 := by
              rw [hDi] at hDb
              simp only [Rows.uptoBulk, Rows.uptoBulkAll] at hDb
              rw [hy0] at hDb
              simp only [Rows.uptoBulk, Rows.uptoBulkAll] at hDb
              omega
            simp at e0 e2 e3 e5 e6
            subst e0 e2 e3 e5 e6
            have r0 := hcell 0 (by omega)
            have r1 := hcell 1 (by omega)
            have r2 := hcell 2 (by omega)
            have r3 := hcell 3 (by omega)
            have r4 := hcell 4 (by omega)
            have r5 := hcell 5 (by omega)
            rw [Go.Deep.add_add] at r0 r1 r2 r3 r4 r5
            have b5 := bounds_u8 w5
            refine ⟨(⟨⟨sm, tl, sf⟩, n3, n5.toNat, n6⟩, ta, tc), ⟨by simpa using r0, by simpa using r1, by simpa using r2, by simpa using r3, ?_, by simpa using r5⟩, ⟨ti, tn⟩, hfew2, ⟨by simpa [smpOf] using bounds_i64 w3, by show n5.toNat < 256; omega, by simpa [smpOf] using bounds_i64 w6⟩⟩
            have ek : ((n5.toNat : Nat) : Int) = n5 := by omega
            simpa [ek] using r4
    have each2 : ∀ i, i < len → ∃ q : WrA, _ := each
    haveI : Inhabited WrA := ⟨(noW, none, 0)⟩
    obtain ⟨q, hq⟩ := choose_belowW each2
    refine ⟨some a, (List.range len).map (fun i => (q i).1), m, by simp, ?_, by simpa using hl, by simpa using hsz, fun x hx => ?_⟩
    · rcases Nat.eq_zero_or_pos len with h0 | h0
      · exact Or.inl (by rw [h0]; rfl)
      · right
        obtain ⟨b, off, spot⟩ := a
        have hspot : spot = none := by simpa [Addr.add] using World.cell?_spot (hq 0 h0).1.1
        subst hspot
        refine ⟨b, off, rfl, ?_, fun i s hs => ?_⟩
        · have h' := (hq 0 h0).1.1
          rw [tag_add] at h'
          rcases Nat.lt_or_ge b W.heap.size with h2 | h2
          · exact h2
          · simp [World.cell?, Array.getElem?_eq_none h2] at h'
        · have hi : i < len := by have := (List.getElem?_eq_some_iff.1 hs).1; simpa using this
          have es : s = (q i).1 := by
            rw [List.getElem?_map, List.getElem?_range hi] at hs
            simpa using hs.symm
          subst es
          obtain ⟨⟨r0, r1, r2, r3, r4, r5⟩, hS, _⟩ := hq i hi
          rw [tag_add] at r0 r1 r2 r3 r4 r5
          exact ⟨(q i).2.1, (q i).2.2, ⟨r0, by rw [Nat.add_assoc]; exact r1, by rw [Nat.add_assoc]; exact r2, by rw [Nat.add_assoc]; exact r3, by rw [Nat.add_assoc]; exact r4, by rw [Nat.add_assoc]; exact r5⟩, hS⟩
    · simp only [List.mem_map, List.mem_range] at hx
      obtain ⟨i, hi, rfl⟩ := hx
      exact (hq i hi).2.2
theorem flat_bulk {H : Type} (f : Nat → List WrP) (D : Nat → DataW H) : ∀ L : List Nat, (∀ i ∈ L, (f i).length ≤ Rows.uptoBulk (D i)) → ((L.map f).flatten).length ≤ Rows.uptoBulkAll (L.map D)
  | [], _ => Nat.zero_le _
  | i :: L, h => by
    have h1 := flat_bulk f D L (fun j hj => h j (List.mem_cons_of_mem _ hj))
    have h2 := h i (List.mem_cons_self ..)
    simp only [List.map_cons, List.flatten_cons, List.length_append, Rows.uptoBulkAll]
    omega
set_option maxRecDepth 100000 in
/-- rows of writes, as they are read, by their bulk. -/
theorem lw_bulk {H : Type} {enc : TypeId × Value → H} {W : World} {v : Value} {y : DataW H × List MemPlace} {fuel : Nat}
    (hf : DataW.trod enc Try.prog W 0 (fun _ => true) true fuel 22 [v] = some y) (hbk : Rows.uptoBulk y.1 ≤ 1048576) :
    ∃ a ll cap, v = .slice a (List.length ll) cap ∧ LwIn W a ll ∧ ll.length ≤ 1048576 ∧ ll.flatten.length ≤ 1048576 ∧ (∀ x ∈ ll.flatten, x.s.t.length ≤ 4398046511104) ∧ ∀ x ∈ ll.flatten, (smpOf x).ok := by
  rcases Go.Deep.open_slice Try.underlying22 hf with ⟨hcs, hx⟩ | ⟨a, len, cap, m, n, D, Pl, hcs, hb, hl, hm, hmm, hx, hall⟩
  · simp at hcs
    subst hcs
    exact ⟨none, [], 0, rfl, Or.inl rfl, by simp, by simp, by simp, by simp⟩
  · simp at hcs
    subst hcs
    simp only [if_true] at hmm
    subst hmm
    have hce : Try.prog.cellsOf 28 = 1 := by kernel_rfl
    have hy1 : y.1 = .slice ((List.range len).map D) ((List.range (m - len)).map fun j => D (len + j)) := by rw [hx]
    have hbe : Rows.uptoBulkAll ((List.range len).map D) ≤ 1048576 := by
      rw [hy1] at hbk; simp only [Rows.uptoBulk] at hbk; omega
    have hsz : len ≤ 1048576 := by have := bulk_lenW ((List.range len).map D); simp at this; omega
    have each : ∀ i, i < len → ∃ q : List WrP × Option Addr × Nat, W.cell? (a.add i) = some (.slice q.2.1 q.1.length q.2.2) ∧ WIn W q.2.1 q.1 ∧ q.1.length ≤ Rows.uptoBulk (D i) ∧ ∀ x ∈ q.1, x.s.t.length ≤ 4398046511104 ∧ (smpOf x).ok := by
      intro i hi
      obtain ⟨cs', h1, h2⟩ := hall i (by omega)
      rw [hce] at h1
      obtain ⟨_, hlen, hcell⟩ := World.cells?_some h1
      have hDb : Rows.uptoBulk (D i) ≤ 1048576 := Nat.le_trans (bulk_memW (List.mem_map.2 ⟨i, List.mem_range.2 hi, rfl⟩)) hbe
      match cs', hlen with
      | [v0], _ =>
        obtain ⟨a0, l0, c0, e0, i0, _, n0, t0⟩ := writes_bulk h2 hDb
        subst e0
        have r0 := hcell 0 (by omega)
        rw [Go.Deep.add_add] at r0
        exact ⟨(l0, a0, c0), by simpa using r0, i0, n0, t0⟩
    haveI : Inhabited (List WrP × Option Addr × Nat) := ⟨([], none, 0)⟩
    obtain ⟨q, hq⟩ := choose_belowW each
    have hfl : (((List.range len).map fun i => (q i).1).flatten).length ≤ 1048576 := Nat.le_trans (flat_bulk (fun i => (q i).1) D _ (fun i hi => (hq i (List.mem_range.1 hi)).2.2.1)) hbe
    have hme : ∀ x ∈ ((List.range len).map fun i => (q i).1).flatten, x.s.t.length ≤ 4398046511104 ∧ (smpOf x).ok := fun x hx => by
      obtain ⟨l, hl, hxl⟩ := List.mem_flatten.1 hx
      simp only [List.mem_map, List.mem_range] at hl
      obtain ⟨i, hi, rfl⟩ := hl
      exact (hq i hi).2.2.2 x hxl
    refine ⟨some a, (List.range len).map (fun i => (q i).1), m, by simp, ?_, by simpa using hsz, hfl, fun x hx => (hme x hx).1, fun x hx => (hme x hx).2⟩
    rcases Nat.eq_zero_or_pos len with h0 | h0
    · exact Or.inl (by rw [h0]; rfl)
    · right
      obtain ⟨b, off, spot⟩ := a
      have hspot : spot = none := by simpa [Addr.add] using World.cell?_spot (hq 0 h0).1
      subst hspot
      refine ⟨b, off, rfl, ?_, fun i s hs => ?_⟩
      · have h' := (hq 0 h0).1
        rw [tag_add] at h'
        rcases Nat.lt_or_ge b W.heap.size with h2 | h2
        · exact h2
        · simp [World.cell?, Array.getElem?_eq_none h2] at h'
      · have hi : i < len := by have := (List.getElem?_eq_some_iff.1 hs).1; simpa using this
        have es : s = (q i).1 := by
          rw [List.getElem?_map, List.getElem?_range hi] at hs
          simpa using hs.symm
        subst es
        obtain ⟨r0, r1, _⟩ := hq i hi
        rw [tag_add] at r0
        exact ⟨(q i).2.1, (q i).2.2, r0, r1⟩
end Go.Proofs.Ytlcppkemiogbeaa
