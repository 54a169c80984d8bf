
import Derived.Test.YtgodihhlpcnbiaaGreatDoorKyB
import Derived.ProofKit
import Derived.OpenShut
import Derived.Deep.SlicePairs
import Derived.Lib.SmallJoins
import Derived.SizedLaws
import Derived.Test.YtgodihhlpcnbiaaGreatDoorBdC
import Derived.Test.YtgodihhlpcnbiaaGreatDoorRows
import Derived.Test.YtgodihhlpcnbiaaGreatDoorBiM
namespace Go.Proofs.YtgodihhlpcnbiaaGreatDoor
open Go.ChangeShapes Go.WideShapes Go.ChangeAt Go.RowKit
set_option linter.unusedVariables false
def strOf : Value → ByteArray
  | .string s => s
  | _ => ⟨#[]⟩
set_option maxRecDepth 100000 in
/-- tags, as they are read. -/
theorem tags_read {H : Type} {enc : TypeId × Value → H} {W : World} {v : Value} {y : DataW H × List MemPlace} {fuel : Nat}
    (hf : DataW.trod enc Tryz.prog W 0 (fun _ => true) true fuel 43 [v] = some y) :
    ∃ a l cap, v = .slice a l.length cap ∧ TgIn W a l ∧ l.length ≤ 9223372036854775807 := by
  rcases Go.Deep.open_slice_pairs Tryz.underlying43 Tryz.underlying49 (by kernel_rfl) rfl rfl (by kernel_rfl) (by kernel_rfl) hf with ⟨hcs, hx⟩ | ⟨a, len, cap, m, n, V0, V1, D0, D1, P0, P1, hcs, _, hl, hm, hmeq, hx, hall⟩
  · simp at hcs
    subst hcs
    exact ⟨none, [], 0, rfl, Or.inl rfl, by simp⟩
  · simp at hcs
    subst hcs
    simp only [if_true] at hmeq
    have hml : len ≤ 9223372036854775807 := by have : maxLen = 9223372036854775807 := rfl; omega
    have key : ∀ i, i < m → ∃ s t, V0 i = .string s ∧ V1 i = .string t := fun i hi => by
      obtain ⟨_, _, t0, t1⟩ := hall i hi
      obtain ⟨s, e0, _⟩ := DataW.trod_string Tryz.underlying9 t0
      obtain ⟨t, e1, _⟩ := DataW.trod_string Tryz.underlying9 t1
      simp at e0 e1
      exact ⟨s, t, e0, e1⟩
    refine ⟨some a, (List.range len).map (fun i => (strOf (V0 i), strOf (V1 i))), cap, by simp, ?_, by simpa using hml⟩
    rcases Nat.eq_zero_or_pos len with h0 | h0
    · subst h0; exact Or.inl rfl
    · right
      obtain ⟨b, off, spot⟩ := a
      have hspot : spot = none := by simpa [Addr.add] using World.cell?_spot (hall 0 (by omega)).1
      subst hspot
      refine ⟨b, off, rfl, ?_, fun i t ht => ?_⟩
      · have h' := (hall 0 (by omega)).1
        rw [Go.WideShapes.add_plain] at h'
        rcases Nat.lt_or_ge b W.heap.size with h2 | h2
        · exact h2
        · simp [World.cell?, Array.getElem?_eq_none h2] at h'
      · have hi : i < len := by
          have := (List.getElem?_eq_some_iff.1 ht).1
          simpa using this
        have et : t = (strOf (V0 i), strOf (V1 i)) := by
          rw [List.getElem?_map, List.getElem?_range hi] at ht
          simpa using ht.symm
        subst et
        obtain ⟨s, u, e0, e1⟩ := key i (by omega)
        obtain ⟨c0, c1, _, _⟩ := hall i (by omega)
        rw [Go.WideShapes.add_plain] at c0 c1
        refine ⟨?_, ?_⟩
        · rw [c0, e0]; rfl
        · rw [← Nat.add_assoc] at c1; rw [c1, e1]; rfl
end Go.Proofs.YtgodihhlpcnbiaaGreatDoor

namespace Go.Proofs.YtgodihhlpcnbiaaGreatDoor
open Go.ChangeShapes Go.WideShapes Go.ChangeAt Go.RowKit
set_option linter.unusedVariables false
set_option maxRecDepth 100000 in
/-- what tags weigh bounds how many there are. -/
theorem tags_small {H : Type} {enc : TypeId × Value → H} {W : World} {a : Option Addr} {n cap : Nat} {y : DataW H × List MemPlace} {fuel : Nat}
    (hf : DataW.trod enc Tryz.prog W 0 (fun _ => true) true fuel 43 [.slice a n cap] = some y) (hw : ∀ k ∈ y.1.weights Tryz.prog 43, k ≤ reachBytes) : n ≤ 4398046511000 := by
  rcases Go.Deep.open_slice_pairs Tryz.underlying43 Tryz.underlying49 (by kernel_rfl) rfl rfl (by kernel_rfl) (by kernel_rfl) hf with ⟨hcs, hx⟩ | ⟨a', len, cap', m, n', V0, V1, D0, D1, P0, P1, hcs, _, hl, hm, hmeq, hx, hall⟩
  · simp at hcs
    omega
  · simp at hcs
    obtain ⟨_, rfl, rfl⟩ := hcs
    have hd : y.1 = .slice ((List.range n).map fun i => .agg [D0 i, D1 i]) ((List.range (m - n)).map fun j => .agg [D0 (n + j), D1 (n + j)]) := congrArg (·.1) hx
    have hb : Tryz.prog.bytesOf 49 = 32 := by kernel_rfl
    have h1 := hw ((((List.range n).map fun i => (DataW.agg [D0 i, D1 i] : DataW H)).length + ((List.range (m - n)).map fun j => (DataW.agg [D0 (n + j), D1 (n + j)] : DataW H)).length) * Tryz.prog.bytesOf 49) (by rw [hd]; simp [DataW.weights, Tryz.underlying43])
    rw [hb, List.length_map, List.length_map, List.length_range, List.length_range] at h1
    have : reachBytes = 140737488351232 := by decide
    omega
theorem tags_in_ser {H : Type} {x y z : DataW H} {n : Nat} (hn : n ∈ y.weights Tryz.prog 43) : n ∈ (DataW.agg [x, y, z]).weights Tryz.prog 53 := by
  simp [DataW.weights, Tryz.underlying53, DataW.weightsEach, hn]
end Go.Proofs.YtgodihhlpcnbiaaGreatDoor

namespace Go.Proofs.YtgodihhlpcnbiaaGreatDoor
open Go.ChangeShapes Go.WideShapes Go.ChangeAt Go.RowKit
set_option linter.unusedVariables false
def numOf : Value → Int
  | .int _ n => n
  | _ => 0
set_option maxRecDepth 100000 in
/-- fields, as they are read. -/
theorem fields_read {H : Type} {enc : TypeId × Value → H} {W : World} {v : Value} {y : DataW H × List MemPlace} {fuel : Nat}
    (hf : DataW.trod enc Tryz.prog W 0 (fun _ => true) true fuel 44 [v] = some y) :
    ∃ a l cap, v = .slice a l.length cap ∧ FdIn W a l ∧ l.length ≤ cap := by
  rcases Go.Deep.open_slice_pairs Tryz.underlying44 Tryz.underlying51 (by kernel_rfl) rfl rfl (by kernel_rfl) (by kernel_rfl) hf with ⟨hcs, hx⟩ | ⟨a, len, cap, m, n, V0, V1, D0, D1, P0, P1, hcs, _, hl, hm, hmeq, hx, hall⟩
  · simp at hcs
    subst hcs
    exact ⟨none, [], 0, rfl, Or.inl rfl, by simp⟩
  · simp at hcs
    subst hcs
    simp only [if_true] at hmeq
    have key : ∀ i, i < m → ∃ s t, V0 i = .string s ∧ V1 i = .int .i64 t := fun i hi => by
      obtain ⟨_, _, t0, t1⟩ := hall i hi
      obtain ⟨s, e0, _⟩ := DataW.trod_string Tryz.underlying9 t0
      obtain ⟨t, e1, _⟩ := DataW.trod_int Tryz.underlying2 t1
      simp at e0 e1
      exact ⟨s, t, e0, e1⟩
    refine ⟨some a, (List.range len).map (fun i => (strOf (V0 i), numOf (V1 i))), cap, by simp, ?_, by simp; omega⟩
    rcases Nat.eq_zero_or_pos len with h0 | h0
    · subst h0; exact Or.inl rfl
    · right
      obtain ⟨b, off, spot⟩ := a
      have hspot : spot = none := by simpa [Addr.add] using World.cell?_spot (hall 0 (by omega)).1
      subst hspot
      refine ⟨b, off, rfl, ?_, fun i t ht => ?_⟩
      · have h' := (hall 0 (by omega)).1
        rw [Go.WideShapes.add_plain] at h'
        rcases Nat.lt_or_ge b W.heap.size with h2 | h2
        · exact h2
        · simp [World.cell?, Array.getElem?_eq_none h2] at h'
      · have hi : i < len := by
          have := (List.getElem?_eq_some_iff.1 ht).1
          simpa using this
        have et : t = (strOf (V0 i), numOf (V1 i)) := by
          rw [List.getElem?_map, List.getElem?_range hi] at ht
          simpa using ht.symm
        subst et
        obtain ⟨s, u, e0, e1⟩ := key i (by omega)
        obtain ⟨c0, c1, _, _⟩ := hall i (by omega)
        rw [Go.WideShapes.add_plain] at c0 c1
        refine ⟨?_, ?_⟩
        · rw [c0, e0]; rfl
        · rw [← Nat.add_assoc] at c1; rw [c1, e1]; rfl
set_option maxRecDepth 100000 in
/-- what fields weigh bounds how many there are. -/
theorem fields_small {H : Type} {enc : TypeId × Value → H} {W : World} {a : Option Addr} {n cap : Nat} {y : DataW H × List MemPlace} {fuel : Nat}
    (hf : DataW.trod enc Tryz.prog W 0 (fun _ => true) true fuel 44 [.slice a n cap] = some y) (hw : ∀ k ∈ y.1.weights Tryz.prog 44, k ≤ reachBytes) : n ≤ 5864062014634 := by
  rcases Go.Deep.open_slice_pairs Tryz.underlying44 Tryz.underlying51 (by kernel_rfl) rfl rfl (by kernel_rfl) (by kernel_rfl) hf with ⟨hcs, hx⟩ | ⟨a', len, cap', m, n', V0, V1, D0, D1, P0, P1, hcs, _, hl, hm, hmeq, hx, hall⟩
  · simp at hcs
    omega
  · simp at hcs
    obtain ⟨_, rfl, rfl⟩ := hcs
    have hd : y.1 = .slice ((List.range n).map fun i => .agg [D0 i, D1 i]) ((List.range (m - n)).map fun j => .agg [D0 (n + j), D1 (n + j)]) := congrArg (·.1) hx
    have hb : Tryz.prog.bytesOf 51 = 24 := by kernel_rfl
    have h1 := hw ((((List.range n).map fun i => (DataW.agg [D0 i, D1 i] : DataW H)).length + ((List.range (m - n)).map fun j => (DataW.agg [D0 (n + j), D1 (n + j)] : DataW H)).length) * Tryz.prog.bytesOf 51) (by rw [hd]; simp [DataW.weights, Tryz.underlying44])
    rw [hb, List.length_map, List.length_map, List.length_range, List.length_range] at h1
    have : reachBytes = 140737488351232 := by decide
    omega
theorem tags_in_pt {H : Type} {x y z t : DataW H} {n : Nat} (hn : n ∈ y.weights Tryz.prog 43) : n ∈ (DataW.agg [x, y, z, t]).weights Tryz.prog 46 := by
  simp [DataW.weights, Tryz.underlying46, DataW.weightsEach, hn]
theorem fields_in_pt {H : Type} {x y z t : DataW H} {n : Nat} (hn : n ∈ z.weights Tryz.prog 44) : n ∈ (DataW.agg [x, y, z, t]).weights Tryz.prog 46 := by
  simp [DataW.weights, Tryz.underlying46, DataW.weightsEach, hn]
end Go.Proofs.YtgodihhlpcnbiaaGreatDoor

namespace Go.Proofs.YtgodihhlpcnbiaaGreatDoor
open Go.ChangeShapes Go.WideShapes Go.ChangeAt Go.RowKit
set_option linter.unusedVariables false
set_option linter.unusedSimpArgs false
theorem bulk_posW {H : Type} (d : DataW H) : 1 ≤ Rows.uptoBulk d := by
  cases d <;> first | (simp [Rows.uptoBulk]; done) | (rename_i q; cases q <;> simp [Rows.uptoBulk])
theorem bulk_lenW {H : Type} : ∀ l : List (DataW H), l.length ≤ Rows.uptoBulkAll l
  | [] => Nat.zero_le _
  | d :: r => by
    have h1 := bulk_posW d
    have h2 := bulk_lenW r
    simp only [Rows.uptoBulkAll, List.length_cons]; omega
theorem bulk_memW {H : Type} : ∀ {l : List (DataW H)} {d : DataW H}, d ∈ l → Rows.uptoBulk d ≤ Rows.uptoBulkAll l
  | x :: r, d, h => by
    simp only [Rows.uptoBulkAll]
    rcases List.mem_cons.1 h with e | e
    · subst e; omega
    · have := bulk_memW e; omega
/-- the bulk of tags bounds how many there are. -/
theorem tags_fewW {H : Type} {enc : TypeId × Value → H} {W : World} {a : Option Addr} {n cap : Nat} {y : DataW H × List MemPlace} {fuel : Nat}
    (hf : DataW.trod enc Tryz.prog W 0 (fun _ => true) true fuel 43 [.slice a n cap] = some y) : n ≤ Rows.uptoBulk y.1 := by
  rcases Go.Deep.open_slice Tryz.underlying43 hf with ⟨hcs, hx⟩ | ⟨a', len, cap', m, n', D, Pl, hcs, _, hl, hm, hmm, hx, hall⟩
  · simp at hcs
    omega
  · simp at hcs
    obtain ⟨_, rfl, rfl⟩ := hcs
    rw [hx]
    simp only [Rows.uptoBulk]
    have := bulk_lenW ((List.range n).map D)
    simp at this
    omega
/-- the bulk of fields bounds how many there are. -/
theorem fields_fewW {H : Type} {enc : TypeId × Value → H} {W : World} {a : Option Addr} {n cap : Nat} {y : DataW H × List MemPlace} {fuel : Nat}
    (hf : DataW.trod enc Tryz.prog W 0 (fun _ => true) true fuel 44 [.slice a n cap] = some y) : n ≤ Rows.uptoBulk y.1 := by
  rcases Go.Deep.open_slice Tryz.underlying44 hf with ⟨hcs, hx⟩ | ⟨a', len, cap', m, n', D, Pl, hcs, _, hl, hm, hmm, hx, hall⟩
  · simp at hcs
    omega
  · simp at hcs
    obtain ⟨_, rfl, rfl⟩ := hcs
    rw [hx]
    simp only [Rows.uptoBulk]
    have := bulk_lenW ((List.range n).map D)
    simp at this
    omega
set_option maxRecDepth 100000 in
/-- points, as they are read, by their bulk. -/
theorem points_bulk {H : Type} {enc : TypeId × Value → H} {W : World} {v : Value} {y : DataW H × List MemPlace} {fuel : Nat}
    (hf : DataW.trod enc Tryz.prog W 0 (fun _ => true) true fuel 22 [v] = some y) (hbk : Rows.uptoBulk y.1 ≤ 1048576) :
    ∃ a l cap, v = .slice a (List.length l) cap ∧ PsIn W a l ∧ l.length ≤ cap ∧ l.length ≤ 1048576 ∧ ∀ p ∈ l, p.t.length ≤ 1048576 := by
  rcases Go.Deep.open_slice Tryz.underlying22 hf with ⟨hcs, hx⟩ | ⟨a, len, cap, m, n, D, Pl, hcs, hb, hl, hm, hmm, hx, hall⟩
  · simp at hcs
    subst hcs
    exact ⟨none, [], 0, rfl, Or.inl rfl, by simp, by simp, by simp⟩
  · simp at hcs
    subst hcs
    simp only [if_true] at hmm
    subst hmm
    have hce : Tryz.prog.cellsOf 46 = 4 := by kernel_rfl
    have cu : Tryz.prog.cellsOf 2 = 1 := by kernel_rfl
    have cs : Tryz.prog.cellsOf 9 = 1 := by kernel_rfl
    have ct : Tryz.prog.cellsOf 43 = 1 := by kernel_rfl
    have cf : Tryz.prog.cellsOf 44 = 1 := by kernel_rfl
    have hy1 : y.1 = .slice ((List.range len).map D) ((List.range (m - len)).map fun j => D (len + j)) := by rw [hx]
    have hbe : Rows.uptoBulkAll ((List.range len).map D) ≤ 1048576 := by
      rw [hy1] at hbk; simp only [Rows.uptoBulk] at hbk; omega
    have hsz : len ≤ 1048576 := by have := bulk_lenW ((List.range len).map D); simp at this; omega
    have each : ∀ i, i < len → ∃ q : PtA, (W.cell? (a.add (i * 4)) = some (.string q.1.m) ∧ W.cell? (a.add (i * 4 + 1)) = some (.slice q.2.1.1 q.1.t.length q.2.1.2) ∧ W.cell? (a.add (i * 4 + 2)) = some (.slice q.2.2.1 q.1.f.length q.2.2.2) ∧ W.cell? (a.add (i * 4 + 3)) = some (.int .i64 q.1.tm)) ∧ PtIn W q.2.1.1 q.2.2.1 q.2.2.2 q.1 ∧ q.1.t.length ≤ 1048576 := by
      intro i hi
      obtain ⟨cs', h1, h2⟩ := hall i (by omega)
      rw [hce] at h1
      obtain ⟨_, hlen, hcell⟩ := World.cells?_some h1
      obtain ⟨xs, k, hk, hxy, _, hxl, hff⟩ := DataW.trod_struct Tryz.underlying46 h2
      have hDb : Rows.uptoBulk (D i) ≤ 1048576 := Nat.le_trans (bulk_memW (List.mem_map.2 ⟨i, List.mem_range.2 hi, rfl⟩)) hbe
      match xs, hxl, cs', hlen with
      | [y0, y1, y2, y3], _, [v0, v1, v2, v3], _ =>
        have g0 : DataW.trod enc Tryz.prog W 0 (fun _ => true) true k 9 (List.take (Tryz.prog.cellsOf 9) [v0, v1, v2, v3]) = some y0 := hff 0 _ rfl
        have g1 : DataW.trod enc Tryz.prog W 0 (fun _ => true) true k 43 (List.take (Tryz.prog.cellsOf 43) [v1, v2, v3]) = some y1 := hff 1 _ rfl
        have g2 : DataW.trod enc Tryz.prog W 0 (fun _ => true) true k 44 (List.take (Tryz.prog.cellsOf 44) [v2, v3]) = some y2 := hff 2 _ rfl
        have g3 : DataW.trod enc Tryz.prog W 0 (fun _ => true) true k 2 (List.take (Tryz.prog.cellsOf 2) [v3]) = some y3 := hff 3 _ rfl
        rw [cs] at g0
        rw [ct] at g1
        rw [cf] at g2
        rw [cu] at g3
        simp only [List.take_succ_cons, List.take_zero] at g0 g1 g2 g3
        have hDi : D i = .agg [y0.1, y1.1, y2.1, y3.1] := by simpa using congrArg (·.1) hxy
        obtain ⟨sm, e0, _⟩ := DataW.trod_string Tryz.underlying9 g0
        obtain ⟨n3, e3, _, w3⟩ := DataW.trod_int Tryz.underlying2 g3
        obtain ⟨ta, tl, tc, e1, ti, tn⟩ := tags_read g1
        obtain ⟨fa, fl, fc, e2, fi, fn⟩ := fields_read g2
        subst e1 e2
        have hfew := tags_fewW g1
        have hfew2 := fields_fewW g2
        rw [hDi] at hDb
        simp only [Rows.uptoBulk, Rows.uptoBulkAll] at hDb
        simp at e0 e3
        subst e0 e3
        have r0 := hcell 0 (by omega)
        have r1 := hcell 1 (by omega)
        have r2 := hcell 2 (by omega)
        have r3 := hcell 3 (by omega)
        rw [Go.Deep.add_add] at r0 r1 r2 r3
        exact ⟨(⟨sm, tl, fl, n3⟩, (ta, tc), (fa, fc)), ⟨by simpa using r0, by simpa using r1, by simpa using r2, by simpa using r3⟩, ⟨ti, by show tl.length ≤ 4398046511104; omega, fi, by show fl.length ≤ 4611686018427387904; omega, fn⟩, by show tl.length ≤ 1048576; omega⟩
    haveI : Inhabited PtA := ⟨(noP, (none, 0), (none, 0))⟩
    obtain ⟨q, hq⟩ := choose_belowW each
    refine ⟨some a, (List.range len).map (fun i => (q i).1), m, by simp, ?_, by simpa using hl, by simpa using hsz, fun x hx => ?_⟩
    · rcases Nat.eq_zero_or_pos len with h0 | h0
      · exact Or.inl (by rw [h0]; rfl)
      · right
        obtain ⟨b, off, spot⟩ := a
        have hspot : spot = none := by simpa [Addr.add] using World.cell?_spot (hq 0 h0).1.1
        subst hspot
        refine ⟨b, off, rfl, ?_, fun i s hs => ?_⟩
        · have h' := (hq 0 h0).1.1
          rw [tag_add] at h'
          rcases Nat.lt_or_ge b W.heap.size with h2 | h2
          · exact h2
          · simp [World.cell?, Array.getElem?_eq_none h2] at h'
        · have hi : i < len := by have := (List.getElem?_eq_some_iff.1 hs).1; simpa using this
          have es : s = (q i).1 := by
            rw [List.getElem?_map, List.getElem?_range hi] at hs
            simpa using hs.symm
          subst es
          obtain ⟨⟨r0, r1, r2, r3⟩, hS, _⟩ := hq i hi
          rw [tag_add] at r0 r1 r2 r3
          exact ⟨(q i).2.1.1, (q i).2.1.2, (q i).2.2.1, (q i).2.2.2, ⟨r0, by rw [Nat.add_assoc]; exact r1, by rw [Nat.add_assoc]; exact r2, by rw [Nat.add_assoc]; exact r3⟩, hS⟩
    · simp only [List.mem_map, List.mem_range] at hx
      obtain ⟨i, hi, rfl⟩ := hx
      exact (hq i hi).2.2
end Go.Proofs.YtgodihhlpcnbiaaGreatDoor

namespace Go.Proofs.YtgodihhlpcnbiaaGreatDoor
open Go.ChangeShapes Go.WideShapes Go.ChangeAt Go.RowKit
set_option linter.unusedVariables false
set_option linter.unusedSimpArgs false
set_option maxRecDepth 100000 in
/-- points, as they are read, by their bulk. -/
theorem pointsh_bulk {H : Type} {enc : TypeId × Value → H} {W : World} {v : Value} {y : DataW H × List MemPlace} {fuel : Nat}
    (hf : DataW.trod enc Tryz.prog W 0 (fun _ => true) true fuel 22 [v] = some y) (hbk : Rows.uptoBulk y.1 ≤ 1048576) :
    ∃ a l cap, v = .slice a (List.length l) cap ∧ PsIn W a l ∧ l.length ≤ cap ∧ l.length ≤ 1048576 ∧ ∀ p ∈ l, p.t.length ≤ 1048576 ∧ p.f.length ≤ 1048576 := by
  rcases Go.Deep.open_slice Tryz.underlying22 hf with ⟨hcs, hx⟩ | ⟨a, len, cap, m, n, D, Pl, hcs, hb, hl, hm, hmm, hx, hall⟩
  · simp at hcs
    subst hcs
    exact ⟨none, [], 0, rfl, Or.inl rfl, by simp, by simp, by simp⟩
  · simp at hcs
    subst hcs
    simp only [if_true] at hmm
    subst hmm
    have hce : Tryz.prog.cellsOf 46 = 4 := by kernel_rfl
    have cu : Tryz.prog.cellsOf 2 = 1 := by kernel_rfl
    have cs : Tryz.prog.cellsOf 9 = 1 := by kernel_rfl
    have ct : Tryz.prog.cellsOf 43 = 1 := by kernel_rfl
    have cf : Tryz.prog.cellsOf 44 = 1 := by kernel_rfl
    have hy1 : y.1 = .slice ((List.range len).map D) ((List.range (m - len)).map fun j => D (len + j)) := by rw [hx]
    have hbe : Rows.uptoBulkAll ((List.range len).map D) ≤ 1048576 := by
      rw [hy1] at hbk; simp only [Rows.uptoBulk] at hbk; omega
    have hsz : len ≤ 1048576 := by have := bulk_lenW ((List.range len).map D); simp at this; omega
    have each : ∀ i, i < len → ∃ q : PtA, (W.cell? (a.add (i * 4)) = some (.string q.1.m) ∧ W.cell? (a.add (i * 4 + 1)) = some (.slice q.2.1.1 q.1.t.length q.2.1.2) ∧ W.cell? (a.add (i * 4 + 2)) = some (.slice q.2.2.1 q.1.f.length q.2.2.2) ∧ W.cell? (a.add (i * 4 + 3)) = some (.int .i64 q.1.tm)) ∧ PtIn W q.2.1.1 q.2.2.1 q.2.2.2 q.1 ∧ q.1.t.length ≤ 1048576 ∧ q.1.f.length ≤ 1048576 := by
      intro i hi
      obtain ⟨cs', h1, h2⟩ := hall i (by omega)
      rw [hce] at h1
      obtain ⟨_, hlen, hcell⟩ := World.cells?_some h1
      obtain ⟨xs, k, hk, hxy, _, hxl, hff⟩ := DataW.trod_struct Tryz.underlying46 h2
      have hDb : Rows.uptoBulk (D i) ≤ 1048576 := Nat.le_trans (bulk_memW (List.mem_map.2 ⟨i, List.mem_range.2 hi, rfl⟩)) hbe
      match xs, hxl, cs', hlen with
      | [y0, y1, y2, y3], _, [v0, v1, v2, v3], _ =>
        have g0 : DataW.trod enc Tryz.prog W 0 (fun _ => true) true k 9 (List.take (Tryz.prog.cellsOf 9) [v0, v1, v2, v3]) = some y0 := hff 0 _ rfl
        have g1 : DataW.trod enc Tryz.prog W 0 (fun _ => true) true k 43 (List.take (Tryz.prog.cellsOf 43) [v1, v2, v3]) = some y1 := hff 1 _ rfl
        have g2 : DataW.trod enc Tryz.prog W 0 (fun _ => true) true k 44 (List.take (Tryz.prog.cellsOf 44) [v2, v3]) = some y2 := hff 2 _ rfl
        have g3 : DataW.trod enc Tryz.prog W 0 (fun _ => true) true k 2 (List.take (Tryz.prog.cellsOf 2) [v3]) = some y3 := hff 3 _ rfl
        rw [cs] at g0
        rw [ct] at g1
        rw [cf] at g2
        rw [cu] at g3
        simp only [List.take_succ_cons, List.take_zero] at g0 g1 g2 g3
        have hDi : D i = .agg [y0.1, y1.1, y2.1, y3.1] := by simpa using congrArg (·.1) hxy
        obtain ⟨sm, e0, _⟩ := DataW.trod_string Tryz.underlying9 g0
        obtain ⟨n3, e3, _, w3⟩ := DataW.trod_int Tryz.underlying2 g3
        obtain ⟨ta, tl, tc, e1, ti, tn⟩ := tags_read g1
        obtain ⟨fa, fl, fc, e2, fi, fn⟩ := fields_read g2
        subst e1 e2
        have hfew := tags_fewW g1
        have hfew2 := fields_fewW g2
        rw [hDi] at hDb
        simp only [Rows.uptoBulk, Rows.uptoBulkAll] at hDb
        simp at e0 e3
        subst e0 e3
        have r0 := hcell 0 (by omega)
        have r1 := hcell 1 (by omega)
        have r2 := hcell 2 (by omega)
        have r3 := hcell 3 (by omega)
        rw [Go.Deep.add_add] at r0 r1 r2 r3
        exact ⟨(⟨sm, tl, fl, n3⟩, (ta, tc), (fa, fc)), ⟨by simpa using r0, by simpa using r1, by simpa using r2, by simpa using r3⟩, ⟨ti, by show tl.length ≤ 4398046511104; omega, fi, by show fl.length ≤ 4611686018427387904; omega, fn⟩, by show tl.length ≤ 1048576 ∧ fl.length ≤ 1048576; omega⟩
    haveI : Inhabited PtA := ⟨(noP, (none, 0), (none, 0))⟩
    obtain ⟨q, hq⟩ := choose_belowW each
    refine ⟨some a, (List.range len).map (fun i => (q i).1), m, by simp, ?_, by simpa using hl, by simpa using hsz, fun x hx => ?_⟩
    · rcases Nat.eq_zero_or_pos len with h0 | h0
      · exact Or.inl (by rw [h0]; rfl)
      · right
        obtain ⟨b, off, spot⟩ := a
        have hspot : spot = none := by simpa [Addr.add] using World.cell?_spot (hq 0 h0).1.1
        subst hspot
        refine ⟨b, off, rfl, ?_, fun i s hs => ?_⟩
        · have h' := (hq 0 h0).1.1
          rw [tag_add] at h'
          rcases Nat.lt_or_ge b W.heap.size with h2 | h2
          · exact h2
          · simp [World.cell?, Array.getElem?_eq_none h2] at h'
        · have hi : i < len := by have := (List.getElem?_eq_some_iff.1 hs).1; simpa using this
          have es : s = (q i).1 := by
            rw [List.getElem?_map, List.getElem?_range hi] at hs
            simpa using hs.symm
          subst es
          obtain ⟨⟨r0, r1, r2, r3⟩, hS, _⟩ := hq i hi
          rw [tag_add] at r0 r1 r2 r3
          exact ⟨(q i).2.1.1, (q i).2.1.2, (q i).2.2.1, (q i).2.2.2, ⟨r0, by rw [Nat.add_assoc]; exact r1, by rw [Nat.add_assoc]; exact r2, by rw [Nat.add_assoc]; exact r3⟩, hS⟩
    · simp only [List.mem_map, List.mem_range] at hx
      obtain ⟨i, hi, rfl⟩ := hx
      exact (hq i hi).2.2
end Go.Proofs.YtgodihhlpcnbiaaGreatDoor
