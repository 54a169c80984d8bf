
import Derived.Test.YticgapplpfaigaaGreatSrJ
import Derived.ProofKit
import Derived.OpenShut
import Derived.Carry
import Derived.SizedLaws
import Derived.Deep.SlicePairs
import Derived.Lib.SmallJoins
import Derived.Test.YticgapplpfaigaaGreatRows
import Derived.Test.YticgapplpfaigaaGreatDrL
namespace Go.Proofs.YticgapplpfaigaaGreat
open Go.ChangeShapes Go.WideShapes Go.ChangeAt Go.RowKit
set_option linter.unusedVariables false
set_option linter.unusedSimpArgs false
theorem choose_below {α : Type} [Inhabited α] {p : Nat → α → Prop} {m : Nat} (h : ∀ i, i < m → ∃ x, p i x) : ∃ f : Nat → α, ∀ i, i < m → p i (f i) :=
  ⟨fun i => if hi : i < m then Classical.choose (h i hi) else default, fun i hi => by simp only [hi, dif_pos]; exact Classical.choose_spec (h i hi)⟩
theorem weights_all {H : Type} {P : Program} {e : TypeId} : ∀ {l : List (DataW H)} {d : DataW H}, d ∈ l → ∀ n ∈ d.weights P e, n ∈ DataW.weightsAll P e l
  | [], _, h, _, _ => by cases h
  | x :: r, d, h, n, hn => by
    rw [DataW.weightsAll, List.mem_append]
    rcases List.mem_cons.1 h with rfl | h
    · exact Or.inl hn
    · exact Or.inr (weights_all h n hn)
theorem reach_le : reachBytes ≤ 140737488355328 := by decide
set_option maxRecDepth 100000 in
/-- samples, as they are read. -/
theorem smps_read {H : Type} {enc : TypeId × Value → H} {W : World} {v : Value} {y : DataW H × List MemPlace} {fuel : Nat}
    (hf : DataW.trod enc Tryz.prog W 0 (fun _ => true) true fuel 62 [v] = some y) (hw : ∀ n ∈ y.1.weights Tryz.prog 62, n ≤ reachBytes) :
    ∃ a cap l, v = .slice a (List.length l) cap ∧ LIn W a l ∧ l.length * 24 ≤ 140737488355328 := by
  rcases Go.Deep.open_slice Tryz.underlying62 hf with ⟨hcs, hx⟩ | ⟨a, len, cap, m, n, D, Pl, hcs, hb, hl, hm, hmm, hx, hall⟩
  · simp at hcs
    subst hcs
    exact ⟨none, 0, [], rfl, ⟨by simp, Or.inl rfl⟩, by simp⟩
  · simp at hcs
    subst hcs
    simp only [if_true] at hmm
    subst hmm
    have hce : Tryz.prog.cellsOf 89 = 3 := by kernel_rfl
    have hcv : Tryz.prog.cellsOf 61 = 2 := by kernel_rfl
    have hy1 : y.1 = .slice ((List.range len).map D) ((List.range (m - len)).map fun j => D (len + j)) := by rw [hx]
    have hsz : len * 24 ≤ 140737488355328 := by
      have hbe : Tryz.prog.bytesOf 89 = 24 := by kernel_rfl
      have h1 := hw ((((List.range len).map D).length + ((List.range (m - len)).map fun j => D (len + j)).length) * Tryz.prog.bytesOf 89) (by rw [hy1]; simp [DataW.weights, Tryz.underlying62])
      rw [hbe] at h1
      simp only [List.length_map, List.length_range] at h1
      have := reach_le
      omega
    have each : ∀ i, i < len → ∃ q : Smp, (W.cell? (a.add (i * 3)) = some (.int .i64 q.t) ∧ W.cell? (a.add (i * 3 + 1)) = some (.int .u8 (q.k : Int)) ∧ W.cell? (a.add (i * 3 + 2)) = some (.int .i64 q.x)) ∧ q.ok := by
      intro i hi
      obtain ⟨cs', h1, h2⟩ := hall i (by omega)
      rw [hce] at h1
      obtain ⟨_, hlen, hcell⟩ := World.cells?_some h1
      obtain ⟨xs, k, hk, hxy, _, hxl, hff⟩ := DataW.trod_struct Tryz.underlying89 h2
      match xs, hxl, cs', hlen with
      | [y0, y1], _, [v0, v1, v2], _ =>
        have ci : Tryz.prog.cellsOf 59 = 1 := by kernel_rfl
        have cu : Tryz.prog.cellsOf 2 = 1 := by kernel_rfl
        have g0 : DataW.trod enc Tryz.prog W 0 (fun _ => true) true k 2 (List.take (Tryz.prog.cellsOf 2) [v0, v1, v2]) = some y0 := hff 0 _ rfl
        have g1 : DataW.trod enc Tryz.prog W 0 (fun _ => true) true k 61 (List.take (Tryz.prog.cellsOf 61) [v1, v2]) = some y1 := hff 1 _ rfl
        rw [cu] at g0
        rw [hcv] at g1
        simp only [List.take_succ_cons, List.take_zero] at g0 g1
        obtain ⟨xs', k', hk', hxy', _, hxl', hff'⟩ := DataW.trod_struct Tryz.underlying61 g1
        match xs', hxl' with
        | [u0, u1], _ =>
          have g2 : DataW.trod enc Tryz.prog W 0 (fun _ => true) true k' 59 (List.take (Tryz.prog.cellsOf 59) [v1, v2]) = some u0 := hff' 0 _ rfl
          have g3 : DataW.trod enc Tryz.prog W 0 (fun _ => true) true k' 2 (List.take (Tryz.prog.cellsOf 2) [v2]) = some u1 := hff' 1 _ rfl
          rw [ci] at g2
          rw [cu] at g3
          simp only [List.take_succ_cons, List.take_zero] at g2 g3
          obtain ⟨kt, et, _, wt⟩ := DataW.trod_int Tryz.underlying2 g0
          obtain ⟨k0, e0, _, w0⟩ := DataW.trod_int Tryz.underlying59 g2
          obtain ⟨k1, e1, _, w1⟩ := DataW.trod_int Tryz.underlying2 g3
          simp at et e0 e1
          subst et e0 e1
          have r0 := hcell 0 (by omega)
          have r1 := hcell 1 (by omega)
          have r2 := hcell 2 (by omega)
          rw [Go.Deep.add_add] at r0 r1 r2
          have b0 := bounds_i64 wt
          have b1 := bounds_u8 w0
          have b2 := bounds_i64 w1
          have b0' : -9223372036854775808 ≤ kt ∧ kt ≤ 9223372036854775807 := by omega
          have b2' : -9223372036854775808 ≤ k1 ∧ k1 ≤ 9223372036854775807 := by omega
          refine ⟨⟨kt, k0.toNat, k1⟩, ⟨by simpa using r0, ?_, by simpa using r2⟩, ⟨b0', show k0.toNat < 256 by omega, b2'⟩⟩
          have ek : ((k0.toNat : Nat) : Int) = k0 := by omega
          simpa [ek] using r1
    obtain ⟨q, hq⟩ := choose_below each
    refine ⟨some a, m, (List.range len).map q, by simp, ⟨fun s hs => ?_, ?_⟩, by simpa using hsz⟩
    · simp only [List.mem_map, List.mem_range] at hs
      obtain ⟨i, hi, rfl⟩ := hs
      exact (hq i hi).2
    · rcases Nat.eq_zero_or_pos len with h0 | h0
      · exact Or.inl (by rw [h0]; rfl)
      · right
        obtain ⟨b, off, spot⟩ := a
        have hspot : spot = none := by simpa [Addr.add] using World.cell?_spot (hq 0 h0).1.1
        subst hspot
        refine ⟨b, off, rfl, ?_, fun i s hs => ?_⟩
        · have h' := (hq 0 h0).1.1
          rw [smp_add] at h'
          rcases Nat.lt_or_ge b W.heap.size with h2 | h2
          · exact h2
          · simp [World.cell?, Array.getElem?_eq_none h2] at h'
        · have hi : i < len := by have := (List.getElem?_eq_some_iff.1 hs).1; simpa using this
          have es : s = q i := by
            rw [List.getElem?_map, List.getElem?_range hi] at hs
            simpa using hs.symm
          subst es
          obtain ⟨⟨r0, r1, r2⟩, _⟩ := hq i hi
          rw [smp_add] at r0 r1 r2
          exact ⟨r0, by rw [Nat.add_assoc]; exact r1, by rw [Nat.add_assoc]; exact r2⟩
instance : Inhabited Stp := ⟨⟨0, 0, 0, 0, 0, none, 0, []⟩⟩
set_option maxRecDepth 100000 in
/-- steps, as they are read. -/
theorem steps_read {H : Type} {enc : TypeId × Value → H} {W : World} {v : Value} {y : DataW H × List MemPlace} {fuel : Nat}
    (hf : DataW.trod enc Tryz.prog W 0 (fun _ => true) true fuel 22 [v] = some y) (hw : ∀ n ∈ y.1.weights Tryz.prog 22, n ≤ reachBytes) :
    ∃ a len cap st, v = .slice a len cap ∧ StIn W a len st ∧ (∀ i, i < len → LIn W (st i).la (st i).ls ∧ (st i).ls.length * 24 ≤ 140737488355328) := by
  rcases Go.Deep.open_slice Tryz.underlying22 hf with ⟨hcs, hx⟩ | ⟨a, len, cap, m, n, D, Pl, hcs, hb, hl, hm, hmm, hx, hall⟩
  · simp at hcs
    subst hcs
    exact ⟨none, 0, 0, fun _ => default, rfl, ⟨by omega, fun i hi => by omega, Or.inl rfl⟩, fun i hi => by omega⟩
  · simp at hcs
    subst hcs
    simp only [if_true] at hmm
    subst hmm
    have hce : Tryz.prog.cellsOf 64 = 6 := by kernel_rfl
    have hcv : Tryz.prog.cellsOf 61 = 2 := by kernel_rfl
    have hy1 : y.1 = .slice ((List.range len).map D) ((List.range (m - len)).map fun j => D (len + j)) := by rw [hx]
    have hsz : len * 64 ≤ 140737488355328 := by
      have hbe : Tryz.prog.bytesOf 64 = 64 := by kernel_rfl
      have h1 := hw ((((List.range len).map D).length + ((List.range (m - len)).map fun j => D (len + j)).length) * Tryz.prog.bytesOf 64) (by rw [hy1]; simp [DataW.weights, Tryz.underlying22])
      rw [hbe] at h1
      simp only [List.length_map, List.length_range] at h1
      have := reach_le
      omega
    have hwD : ∀ i, i < len → ∀ n ∈ (D i).weights Tryz.prog 64, n ≤ reachBytes := fun i hi n hn => hw n (by
      rw [hy1]
      simp only [DataW.weights, Tryz.underlying22, List.mem_cons, List.mem_append]
      exact Or.inr (Or.inl (weights_all (List.mem_map.2 ⟨i, List.mem_range.2 hi, rfl⟩) n hn)))
    have each : ∀ i, i < len → ∃ q : Stp, (W.cell? (a.add (i * 6)) = some (.int .i64 q.k) ∧ W.cell? (a.add (i * 6 + 1)) = some (.int .i64 q.t) ∧ W.cell? (a.add (i * 6 + 2)) = some (.int .i64 q.u) ∧ W.cell? (a.add (i * 6 + 3)) = some (.int .u8 (q.vk : Int)) ∧ W.cell? (a.add (i * 6 + 4)) = some (.int .i64 q.vx) ∧ W.cell? (a.add (i * 6 + 5)) = some (.slice q.la q.ls.length q.lc)) ∧ q.ok ∧ LIn W q.la q.ls ∧ q.ls.length * 24 ≤ 140737488355328 := by
      intro i hi
      obtain ⟨cs', h1, h2⟩ := hall i (by omega)
      rw [hce] at h1
      obtain ⟨_, hlen, hcell⟩ := World.cells?_some h1
      obtain ⟨xs, k, hk, hxy, _, hxl, hff⟩ := DataW.trod_struct Tryz.underlying64 h2
      match xs, hxl, cs', hlen with
      | [y0, y1, y2, y3, y4], _, [v0, v1, v2, v3, v4, v5], _ =>
        have ck : Tryz.prog.cellsOf 59 = 1 := by kernel_rfl
        have cu : Tryz.prog.cellsOf 2 = 1 := by kernel_rfl
        have ci : Tryz.prog.cellsOf 3 = 1 := by kernel_rfl
        have cl : Tryz.prog.cellsOf 62 = 1 := by kernel_rfl
        have g0 : DataW.trod enc Tryz.prog W 0 (fun _ => true) true k 3 (List.take (Tryz.prog.cellsOf 3) [v0, v1, v2, v3, v4, v5]) = some y0 := hff 0 _ rfl
        have g1 : DataW.trod enc Tryz.prog W 0 (fun _ => true) true k 2 (List.take (Tryz.prog.cellsOf 2) [v1, v2, v3, v4, v5]) = some y1 := hff 1 _ rfl
        have g2 : DataW.trod enc Tryz.prog W 0 (fun _ => true) true k 2 (List.take (Tryz.prog.cellsOf 2) [v2, v3, v4, v5]) = some y2 := hff 2 _ rfl
        have g3 : DataW.trod enc Tryz.prog W 0 (fun _ => true) true k 61 (List.take (Tryz.prog.cellsOf 61) [v3, v4, v5]) = some y3 := hff 3 _ rfl
        have g4 : DataW.trod enc Tryz.prog W 0 (fun _ => true) true k 62 (List.take (Tryz.prog.cellsOf 62) [v5]) = some y4 := hff 4 _ rfl
        rw [ci] at g0
        rw [cu] at g1 g2
        rw [hcv] at g3
        rw [cl] at g4
        simp only [List.take_succ_cons, List.take_zero] at g0 g1 g2 g3 g4
        obtain ⟨xs', k', hk', hxy', _, hxl', hff'⟩ := DataW.trod_struct Tryz.underlying61 g3
        match xs', hxl' with
        | [u0, u1], _ =>
          have g5 : DataW.trod enc Tryz.prog W 0 (fun _ => true) true k' 59 (List.take (Tryz.prog.cellsOf 59) [v3, v4]) = some u0 := hff' 0 _ rfl
          have g6 : DataW.trod enc Tryz.prog W 0 (fun _ => true) true k' 2 (List.take (Tryz.prog.cellsOf 2) [v4]) = some u1 := hff' 1 _ rfl
          rw [ck] at g5
          rw [cu] at g6
          simp only [List.take_succ_cons, List.take_zero] at g5 g6
          obtain ⟨k0, e0, _, w0⟩ := DataW.trod_int Tryz.underlying3 g0
          obtain ⟨k1, e1, _, w1⟩ := DataW.trod_int Tryz.underlying2 g1
          obtain ⟨k2, e2, _, w2⟩ := DataW.trod_int Tryz.underlying2 g2
          obtain ⟨k3, e3, _, w3⟩ := DataW.trod_int Tryz.underlying59 g5
          obtain ⟨k4, e4, _, w4⟩ := DataW.trod_int Tryz.underlying2 g6
          have hDi : D i = .agg [y0.1, y1.1, y2.1, y3.1, y4.1] := by simpa using congrArg (·.1) hxy
          obtain ⟨la, lc, ls, e5, hL, hLs⟩ := smps_read g4 (fun n hn => hwD i hi n (by
            rw [hDi]
            simp [DataW.weights, DataW.weightsEach, Tryz.underlying64, hn]))
          simp at e0 e1 e2 e3 e4
          subst e0 e1 e2 e3 e4 e5
          have r0 := hcell 0 (by omega)
          have r1 := hcell 1 (by omega)
          have r2 := hcell 2 (by omega)
          have r3 := hcell 3 (by omega)
          have r4 := hcell 4 (by omega)
          have r5 := hcell 5 (by omega)
          rw [Go.Deep.add_add] at r0 r1 r2 r3 r4 r5
          have b1 := bounds_i64 w1
          have b2 := bounds_i64 w2
          have b3 := bounds_u8 w3
          have b4 := bounds_i64 w4
          have b1' : -9223372036854775808 ≤ k1 ∧ k1 ≤ 9223372036854775807 := by omega
          have b2' : -9223372036854775808 ≤ k2 ∧ k2 ≤ 9223372036854775807 := by omega
          have b4' : -9223372036854775808 ≤ k4 ∧ k4 ≤ 9223372036854775807 := by omega
          refine ⟨⟨k0, k1, k2, k3.toNat, k4, la, lc, ls⟩, ⟨by simpa using r0, by simpa using r1, by simpa using r2, ?_, by simpa using r4, by simpa using r5⟩, ⟨b1', b2', show k3.toNat < 256 by omega, b4'⟩, hL, hLs⟩
          have ek : ((k3.toNat : Nat) : Int) = k3 := by omega
          simpa [ek] using r3
    obtain ⟨q, hq⟩ := choose_below each
    refine ⟨some a, len, m, q, rfl, ⟨by omega, fun i hi => (hq i hi).2.1, ?_⟩, fun i hi => (hq i hi).2.2⟩
    rcases Nat.eq_zero_or_pos len with h0 | h0
    · exact Or.inl h0
    · right
      obtain ⟨b, off, spot⟩ := a
      have hspot : spot = none := by simpa [Addr.add] using World.cell?_spot (hq 0 h0).1.1
      subst hspot
      refine ⟨b, off, rfl, ?_, fun i hi => ?_⟩
      · have h' := (hq 0 h0).1.1
        rw [smp_add] at h'
        rcases Nat.lt_or_ge b W.heap.size with h2 | h2
        · exact h2
        · simp [World.cell?, Array.getElem?_eq_none h2] at h'
      · obtain ⟨⟨r0, r1, r2, r3, r4, r5⟩, _⟩ := hq i hi
        rw [smp_add] at r0 r1 r2 r3 r4 r5
        exact ⟨r0, by rw [Nat.add_assoc]; exact r1, by rw [Nat.add_assoc]; exact r2, by rw [Nat.add_assoc]; exact r3, by rw [Nat.add_assoc]; exact r4, by rw [Nat.add_assoc]; exact r5⟩
end Go.Proofs.YticgapplpfaigaaGreat

namespace Go.Proofs.YticgapplpfaigaaGreat
open Go.ChangeShapes Go.WideShapes Go.ChangeAt Go.RowKit
set_option linter.unusedVariables false
set_option linter.unusedSimpArgs false
theorem bulk_appS {H : Type} (a b : List (DataW H)) : Rows.uptoBulkAll (a ++ b) = Rows.uptoBulkAll a + Rows.uptoBulkAll b := by
  induction a with
  | nil => simp [Rows.uptoBulkAll]
  | cons x a ih => simp [Rows.uptoBulkAll, ih]; omega
theorem bulk_posS {H : Type} (d : DataW H) : 1 ≤ Rows.uptoBulk d := by
  cases d <;> first | (simp [Rows.uptoBulk]; done) | (rename_i q; cases q <;> simp [Rows.uptoBulk])
set_option maxRecDepth 100000 in
/-- samples, as they are read, by their bulk. -/
theorem smps_bulk {H : Type} {enc : TypeId × Value → H} {W : World} {v : Value} {y : DataW H × List MemPlace} {fuel : Nat}
    (hf : DataW.trod enc Tryz.prog W 0 (fun _ => true) true fuel 62 [v] = some y) (hbk : Rows.uptoBulk y.1 ≤ 1048576) :
    ∃ a cap l, v = .slice a (List.length l) cap ∧ LIn W a l ∧ l.length ≤ 1048576 := by
  rcases Go.Deep.open_slice Tryz.underlying62 hf with ⟨hcs, hx⟩ | ⟨a, len, cap, m, n, D, Pl, hcs, hb, hl, hm, hmm, hx, hall⟩
  · simp at hcs
    subst hcs
    exact ⟨none, 0, [], rfl, ⟨by simp, Or.inl rfl⟩, by simp⟩
  · simp at hcs
    subst hcs
    simp only [if_true] at hmm
    subst hmm
    have hce : Tryz.prog.cellsOf 89 = 3 := by kernel_rfl
    have hcv : Tryz.prog.cellsOf 61 = 2 := by kernel_rfl
    have hy1 : y.1 = .slice ((List.range len).map D) ((List.range (m - len)).map fun j => D (len + j)) := by rw [hx]
    have hbe : Rows.uptoBulkAll ((List.range len).map D) ≤ 1048576 := by
      rw [hy1] at hbk; simp only [Rows.uptoBulk] at hbk; omega
    have hlen0 : ∀ k, k ≤ Rows.uptoBulkAll ((List.range k).map D) := by
      intro k
      induction k with
      | zero => simp
      | succ k ih =>
        rw [List.range_succ, List.map_append, bulk_appS]
        simp only [List.map_cons, List.map_nil, Rows.uptoBulkAll]
        have := bulk_posS (D k)
        omega
    have hsz : len ≤ 1048576 := by have := hlen0 len; omega
    have each : ∀ i, i < len → ∃ q : Smp, (W.cell? (a.add (i * 3)) = some (.int .i64 q.t) ∧ W.cell? (a.add (i * 3 + 1)) = some (.int .u8 (q.k : Int)) ∧ W.cell? (a.add (i * 3 + 2)) = some (.int .i64 q.x)) ∧ q.ok := by
      intro i hi
      obtain ⟨cs', h1, h2⟩ := hall i (by omega)
      rw [hce] at h1
      obtain ⟨_, hlen, hcell⟩ := World.cells?_some h1
      obtain ⟨xs, k, hk, hxy, _, hxl, hff⟩ := DataW.trod_struct Tryz.underlying89 h2
      match xs, hxl, cs', hlen with
      | [y0, y1], _, [v0, v1, v2], _ =>
        have ci : Tryz.prog.cellsOf 59 = 1 := by kernel_rfl
        have cu : Tryz.prog.cellsOf 2 = 1 := by kernel_rfl
        have g0 : DataW.trod enc Tryz.prog W 0 (fun _ => true) true k 2 (List.take (Tryz.prog.cellsOf 2) [v0, v1, v2]) = some y0 := hff 0 _ rfl
        have g1 : DataW.trod enc Tryz.prog W 0 (fun _ => true) true k 61 (List.take (Tryz.prog.cellsOf 61) [v1, v2]) = some y1 := hff 1 _ rfl
        rw [cu] at g0
        rw [hcv] at g1
        simp only [List.take_succ_cons, List.take_zero] at g0 g1
        obtain ⟨xs', k', hk', hxy', _, hxl', hff'⟩ := DataW.trod_struct Tryz.underlying61 g1
        match xs', hxl' with
        | [u0, u1], _ =>
          have g2 : DataW.trod enc Tryz.prog W 0 (fun _ => true) true k' 59 (List.take (Tryz.prog.cellsOf 59) [v1, v2]) = some u0 := hff' 0 _ rfl
          have g3 : DataW.trod enc Tryz.prog W 0 (fun _ => true) true k' 2 (List.take (Tryz.prog.cellsOf 2) [v2]) = some u1 := hff' 1 _ rfl
          rw [ci] at g2
          rw [cu] at g3
          simp only [List.take_succ_cons, List.take_zero] at g2 g3
          obtain ⟨kt, et, _, wt⟩ := DataW.trod_int Tryz.underlying2 g0
          obtain ⟨k0, e0, _, w0⟩ := DataW.trod_int Tryz.underlying59 g2
          obtain ⟨k1, e1, _, w1⟩ := DataW.trod_int Tryz.underlying2 g3
          simp at et e0 e1
          subst et e0 e1
          have r0 := hcell 0 (by omega)
          have r1 := hcell 1 (by omega)
          have r2 := hcell 2 (by omega)
          rw [Go.Deep.add_add] at r0 r1 r2
          have b0 := bounds_i64 wt
          have b1 := bounds_u8 w0
          have b2 := bounds_i64 w1
          have b0' : -9223372036854775808 ≤ kt ∧ kt ≤ 9223372036854775807 := by omega
          have b2' : -9223372036854775808 ≤ k1 ∧ k1 ≤ 9223372036854775807 := by omega
          refine ⟨⟨kt, k0.toNat, k1⟩, ⟨by simpa using r0, ?_, by simpa using r2⟩, ⟨b0', show k0.toNat < 256 by omega, b2'⟩⟩
          have ek : ((k0.toNat : Nat) : Int) = k0 := by omega
          simpa [ek] using r1
    obtain ⟨q, hq⟩ := choose_below each
    refine ⟨some a, m, (List.range len).map q, by simp, ⟨fun s hs => ?_, ?_⟩, by simpa using hsz⟩
    · simp only [List.mem_map, List.mem_range] at hs
      obtain ⟨i, hi, rfl⟩ := hs
      exact (hq i hi).2
    · rcases Nat.eq_zero_or_pos len with h0 | h0
      · exact Or.inl (by rw [h0]; rfl)
      · right
        obtain ⟨b, off, spot⟩ := a
        have hspot : spot = none := by simpa [Addr.add] using World.cell?_spot (hq 0 h0).1.1
        subst hspot
        refine ⟨b, off, rfl, ?_, fun i s hs => ?_⟩
        · have h' := (hq 0 h0).1.1
          rw [smp_add] at h'
          rcases Nat.lt_or_ge b W.heap.size with h2 | h2
          · exact h2
          · simp [World.cell?, Array.getElem?_eq_none h2] at h'
        · have hi : i < len := by have := (List.getElem?_eq_some_iff.1 hs).1; simpa using this
          have es : s = q i := by
            rw [List.getElem?_map, List.getElem?_range hi] at hs
            simpa using hs.symm
          subst es
          obtain ⟨⟨r0, r1, r2⟩, _⟩ := hq i hi
          rw [smp_add] at r0 r1 r2
          exact ⟨r0, by rw [Nat.add_assoc]; exact r1, by rw [Nat.add_assoc]; exact r2⟩
end Go.Proofs.YticgapplpfaigaaGreat

namespace Go.Proofs.YticgapplpfaigaaGreat
open Go.ChangeShapes Go.WideShapes Go.ChangeAt Go.RowKit
set_option linter.unusedVariables false
set_option linter.unusedSimpArgs false
theorem sumL_bulk {H : Type} (st : Nat → Stp) (D : Nat → DataW H) : ∀ (len : Nat), (∀ i, i < len → (st i).ls.length + 1 ≤ Rows.uptoBulk (D i)) → sumL st len ≤ Rows.uptoBulkAll ((List.range len).map D) := by
  intro len
  induction len with
  | zero => intro _; simp [sumL]
  | succ k ih =>
    intro h
    have h1 := ih (fun i hi => h i (by omega))
    have h2 := h k (by omega)
    rw [List.range_succ, List.map_append, bulk_appS]
    simp only [sumL, List.map_cons, List.map_nil, Rows.uptoBulkAll]
    omega
set_option maxRecDepth 100000 in
/-- samples, as they are read, by their bulk. -/
theorem smps_bulk2 {H : Type} {enc : TypeId × Value → H} {W : World} {v : Value} {y : DataW H × List MemPlace} {fuel : Nat}
    (hf : DataW.trod enc Tryz.prog W 0 (fun _ => true) true fuel 62 [v] = some y) :
    ∃ a cap l, v = .slice a (List.length l) cap ∧ LIn W a l ∧ l.length + 1 ≤ Rows.uptoBulk y.1 := by
  rcases Go.Deep.open_slice Tryz.underlying62 hf with ⟨hcs, hx⟩ | ⟨a, len, cap, m, n, D, Pl, hcs, hb, hl, hm, hmm, hx, hall⟩
  · simp at hcs
    subst hcs
    exact ⟨none, 0, [], rfl, ⟨by simp, Or.inl rfl⟩, by simpa using bulk_posS y.1⟩
  · simp at hcs
    subst hcs
    simp only [if_true] at hmm
    subst hmm
    have hce : Tryz.prog.cellsOf 89 = 3 := by kernel_rfl
    have hcv : Tryz.prog.cellsOf 61 = 2 := by kernel_rfl
    have hy1 : y.1 = .slice ((List.range len).map D) ((List.range (m - len)).map fun j => D (len + j)) := by rw [hx]
    have hlen0 : ∀ k, k ≤ Rows.uptoBulkAll ((List.range k).map D) := by
      intro k
      induction k with
      | zero => simp
      | succ k ih =>
        rw [List.range_succ, List.map_append, bulk_appS]
        simp only [List.map_cons, List.map_nil, Rows.uptoBulkAll]
        have := bulk_posS (D k)
        omega
    have hsz : len + 1 ≤ Rows.uptoBulk y.1 := by
      rw [hy1]; simp only [Rows.uptoBulk]; have := hlen0 len; omega
    have each : ∀ i, i < len → ∃ q : Smp, (W.cell? (a.add (i * 3)) = some (.int .i64 q.t) ∧ W.cell? (a.add (i * 3 + 1)) = some (.int .u8 (q.k : Int)) ∧ W.cell? (a.add (i * 3 + 2)) = some (.int .i64 q.x)) ∧ q.ok := by
      intro i hi
      obtain ⟨cs', h1, h2⟩ := hall i (by omega)
      rw [hce] at h1
      obtain ⟨_, hlen, hcell⟩ := World.cells?_some h1
      obtain ⟨xs, k, hk, hxy, _, hxl, hff⟩ := DataW.trod_struct Tryz.underlying89 h2
      match xs, hxl, cs', hlen with
      | [y0, y1], _, [v0, v1, v2], _ =>
        have ci : Tryz.prog.cellsOf 59 = 1 := by kernel_rfl
        have cu : Tryz.prog.cellsOf 2 = 1 := by kernel_rfl
        have g0 : DataW.trod enc Tryz.prog W 0 (fun _ => true) true k 2 (List.take (Tryz.prog.cellsOf 2) [v0, v1, v2]) = some y0 := hff 0 _ rfl
        have g1 : DataW.trod enc Tryz.prog W 0 (fun _ => true) true k 61 (List.take (Tryz.prog.cellsOf 61) [v1, v2]) = some y1 := hff 1 _ rfl
        rw [cu] at g0
        rw [hcv] at g1
        simp only [List.take_succ_cons, List.take_zero] at g0 g1
        obtain ⟨xs', k', hk', hxy', _, hxl', hff'⟩ := DataW.trod_struct Tryz.underlying61 g1
        match xs', hxl' with
        | [u0, u1], _ =>
          have g2 : DataW.trod enc Tryz.prog W 0 (fun _ => true) true k' 59 (List.take (Tryz.prog.cellsOf 59) [v1, v2]) = some u0 := hff' 0 _ rfl
          have g3 : DataW.trod enc Tryz.prog W 0 (fun _ => true) true k' 2 (List.take (Tryz.prog.cellsOf 2) [v2]) = some u1 := hff' 1 _ rfl
          rw [ci] at g2
          rw [cu] at g3
          simp only [List.take_succ_cons, List.take_zero] at g2 g3
          obtain ⟨kt, et, _, wt⟩ := DataW.trod_int Tryz.underlying2 g0
          obtain ⟨k0, e0, _, w0⟩ := DataW.trod_int Tryz.underlying59 g2
          obtain ⟨k1, e1, _, w1⟩ := DataW.trod_int Tryz.underlying2 g3
          simp at et e0 e1
          subst et e0 e1
          have r0 := hcell 0 (by omega)
          have r1 := hcell 1 (by omega)
          have r2 := hcell 2 (by omega)
          rw [Go.Deep.add_add] at r0 r1 r2
          have b0 := bounds_i64 wt
          have b1 := bounds_u8 w0
          have b2 := bounds_i64 w1
          have b0' : -9223372036854775808 ≤ kt ∧ kt ≤ 9223372036854775807 := by omega
          have b2' : -9223372036854775808 ≤ k1 ∧ k1 ≤ 9223372036854775807 := by omega
          refine ⟨⟨kt, k0.toNat, k1⟩, ⟨by simpa using r0, ?_, by simpa using r2⟩, ⟨b0', show k0.toNat < 256 by omega, b2'⟩⟩
          have ek : ((k0.toNat : Nat) : Int) = k0 := by omega
          simpa [ek] using r1
    obtain ⟨q, hq⟩ := choose_below each
    refine ⟨some a, m, (List.range len).map q, by simp, ⟨fun s hs => ?_, ?_⟩, by simpa using hsz⟩
    · simp only [List.mem_map, List.mem_range] at hs
      obtain ⟨i, hi, rfl⟩ := hs
      exact (hq i hi).2
    · rcases Nat.eq_zero_or_pos len with h0 | h0
      · exact Or.inl (by rw [h0]; rfl)
      · right
        obtain ⟨b, off, spot⟩ := a
        have hspot : spot = none := by simpa [Addr.add] using World.cell?_spot (hq 0 h0).1.1
        subst hspot
        refine ⟨b, off, rfl, ?_, fun i s hs => ?_⟩
        · have h' := (hq 0 h0).1.1
          rw [smp_add] at h'
          rcases Nat.lt_or_ge b W.heap.size with h2 | h2
          · exact h2
          · simp [World.cell?, Array.getElem?_eq_none h2] at h'
        · have hi : i < len := by have := (List.getElem?_eq_some_iff.1 hs).1; simpa using this
          have es : s = q i := by
            rw [List.getElem?_map, List.getElem?_range hi] at hs
            simpa using hs.symm
          subst es
          obtain ⟨⟨r0, r1, r2⟩, _⟩ := hq i hi
          rw [smp_add] at r0 r1 r2
          exact ⟨r0, by rw [Nat.add_assoc]; exact r1, by rw [Nat.add_assoc]; exact r2⟩
set_option maxRecDepth 100000 in
/-- steps, as they are read. -/
theorem steps_bulk {H : Type} {enc : TypeId × Value → H} {W : World} {v : Value} {y : DataW H × List MemPlace} {fuel : Nat}
    (hf : DataW.trod enc Tryz.prog W 0 (fun _ => true) true fuel 22 [v] = some y) (hbk : Rows.uptoBulk y.1 ≤ 1048576) :
    ∃ a len cap st, v = .slice a len cap ∧ StIn W a len st ∧ (∀ i, i < len → LIn W (st i).la (st i).ls) ∧ sumL st len ≤ 1048576 := by
  rcases Go.Deep.open_slice Tryz.underlying22 hf with ⟨hcs, hx⟩ | ⟨a, len, cap, m, n, D, Pl, hcs, hb, hl, hm, hmm, hx, hall⟩
  · simp at hcs
    subst hcs
    exact ⟨none, 0, 0, fun _ => default, rfl, ⟨by omega, fun i hi => by omega, Or.inl rfl⟩, fun i hi => by omega, by simp [sumL]⟩
  · simp at hcs
    subst hcs
    simp only [if_true] at hmm
    subst hmm
    have hce : Tryz.prog.cellsOf 64 = 6 := by kernel_rfl
    have hcv : Tryz.prog.cellsOf 61 = 2 := by kernel_rfl
    have hy1 : y.1 = .slice ((List.range len).map D) ((List.range (m - len)).map fun j => D (len + j)) := by rw [hx]
    have hbe : Rows.uptoBulkAll ((List.range len).map D) ≤ 1048576 := by
      rw [hy1] at hbk; simp only [Rows.uptoBulk] at hbk; omega
    have hlen0 : ∀ k, k ≤ Rows.uptoBulkAll ((List.range k).map D) := by
      intro k
      induction k with
      | zero => simp
      | succ k ih =>
        rw [List.range_succ, List.map_append, bulk_appS]
        simp only [List.map_cons, List.map_nil, Rows.uptoBulkAll]
        have := bulk_posS (D k)
        omega
    have hsz : len ≤ 1048576 := by have := hlen0 len; omega
    have each : ∀ i, i < len → ∃ q : Stp, (W.cell? (a.add (i * 6)) = some (.int .i64 q.k) ∧ W.cell? (a.add (i * 6 + 1)) = some (.int .i64 q.t) ∧ W.cell? (a.add (i * 6 + 2)) = some (.int .i64 q.u) ∧ W.cell? (a.add (i * 6 + 3)) = some (.int .u8 (q.vk : Int)) ∧ W.cell? (a.add (i * 6 + 4)) = some (.int .i64 q.vx) ∧ W.cell? (a.add (i * 6 + 5)) = some (.slice q.la q.ls.length q.lc)) ∧ q.ok ∧ LIn W q.la q.ls ∧ q.ls.length + 1 ≤ Rows.uptoBulk (D i) := by
      intro i hi
      obtain ⟨cs', h1, h2⟩ := hall i (by omega)
      rw [hce] at h1
      obtain ⟨_, hlen, hcell⟩ := World.cells?_some h1
      obtain ⟨xs, k, hk, hxy, _, hxl, hff⟩ := DataW.trod_struct Tryz.underlying64 h2
      match xs, hxl, cs', hlen with
      | [y0, y1, y2, y3, y4], _, [v0, v1, v2, v3, v4, v5], _ =>
        have ck : Tryz.prog.cellsOf 59 = 1 := by kernel_rfl
        have cu : Tryz.prog.cellsOf 2 = 1 := by kernel_rfl
        have ci : Tryz.prog.cellsOf 3 = 1 := by kernel_rfl
        have cl : Tryz.prog.cellsOf 62 = 1 := by kernel_rfl
        have g0 : DataW.trod enc Tryz.prog W 0 (fun _ => true) true k 3 (List.take (Tryz.prog.cellsOf 3) [v0, v1, v2, v3, v4, v5]) = some y0 := hff 0 _ rfl
        have g1 : DataW.trod enc Tryz.prog W 0 (fun _ => true) true k 2 (List.take (Tryz.prog.cellsOf 2) [v1, v2, v3, v4, v5]) = some y1 := hff 1 _ rfl
        have g2 : DataW.trod enc Tryz.prog W 0 (fun _ => true) true k 2 (List.take (Tryz.prog.cellsOf 2) [v2, v3, v4, v5]) = some y2 := hff 2 _ rfl
        have g3 : DataW.trod enc Tryz.prog W 0 (fun _ => true) true k 61 (List.take (Tryz.prog.cellsOf 61) [v3, v4, v5]) = some y3 := hff 3 _ rfl
        have g4 : DataW.trod enc Tryz.prog W 0 (fun _ => true) true k 62 (List.take (Tryz.prog.cellsOf 62) [v5]) = some y4 := hff 4 _ rfl
        rw [ci] at g0
        rw [cu] at g1 g2
        rw [hcv] at g3
        rw [cl] at g4
        simp only [List.take_succ_cons, List.take_zero] at g0 g1 g2 g3 g4
        obtain ⟨xs', k', hk', hxy', _, hxl', hff'⟩ := DataW.trod_struct Tryz.underlying61 g3
        match xs', hxl' with
        | [u0, u1], _ =>
          have g5 : DataW.trod enc Tryz.prog W 0 (fun _ => true) true k' 59 (List.take (Tryz.prog.cellsOf 59) [v3, v4]) = some u0 := hff' 0 _ rfl
          have g6 : DataW.trod enc Tryz.prog W 0 (fun _ => true) true k' 2 (List.take (Tryz.prog.cellsOf 2) [v4]) = some u1 := hff' 1 _ rfl
          rw [ck] at g5
          rw [cu] at g6
          simp only [List.take_succ_cons, List.take_zero] at g5 g6
          obtain ⟨k0, e0, _, w0⟩ := DataW.trod_int Tryz.underlying3 g0
          obtain ⟨k1, e1, _, w1⟩ := DataW.trod_int Tryz.underlying2 g1
          obtain ⟨k2, e2, _, w2⟩ := DataW.trod_int Tryz.underlying2 g2
          obtain ⟨k3, e3, _, w3⟩ := DataW.trod_int Tryz.underlying59 g5
          obtain ⟨k4, e4, _, w4⟩ := DataW.trod_int Tryz.underlying2 g6
          have hDi : D i = .agg [y0.1, y1.1, y2.1, y3.1, y4.1] := by simpa using congrArg (·.1) hxy
          obtain ⟨la, lc, ls, e5, hL, hLs0⟩ := smps_bulk2 g4
          have hLs : ls.length + 1 ≤ Rows.uptoBulk (D i) := by
            rw [hDi]; simp only [Rows.uptoBulk, Rows.uptoBulkAll]; omega
          simp at e0 e1 e2 e3 e4
          subst e0 e1 e2 e3 e4 e5
          have r0 := hcell 0 (by omega)
          have r1 := hcell 1 (by omega)
          have r2 := hcell 2 (by omega)
          have r3 := hcell 3 (by omega)
          have r4 := hcell 4 (by omega)
          have r5 := hcell 5 (by omega)
          rw [Go.Deep.add_add] at r0 r1 r2 r3 r4 r5
          have b1 := bounds_i64 w1
          have b2 := bounds_i64 w2
          have b3 := bounds_u8 w3
          have b4 := bounds_i64 w4
          have b1' : -9223372036854775808 ≤ k1 ∧ k1 ≤ 9223372036854775807 := by omega
          have b2' : -9223372036854775808 ≤ k2 ∧ k2 ≤ 9223372036854775807 := by omega
          have b4' : -9223372036854775808 ≤ k4 ∧ k4 ≤ 9223372036854775807 := by omega
          refine ⟨⟨k0, k1, k2, k3.toNat, k4, la, lc, ls⟩, ⟨by simpa using r0, by simpa using r1, by simpa using r2, ?_, by simpa using r4, by simpa using r5⟩, ⟨b1', b2', show k3.toNat < 256 by omega, b4'⟩, hL, hLs⟩
          have ek : ((k3.toNat : Nat) : Int) = k3 := by omega
          simpa [ek] using r3
    obtain ⟨q, hq⟩ := choose_below each
    refine ⟨some a, len, m, q, rfl, ⟨by omega, fun i hi => (hq i hi).2.1, ?_⟩, fun i hi => (hq i hi).2.2.1, Nat.le_trans (sumL_bulk q D len (fun i hi => (hq i hi).2.2.2)) hbe⟩
    rcases Nat.eq_zero_or_pos len with h0 | h0
    · exact Or.inl h0
    · right
      obtain ⟨b, off, spot⟩ := a
      have hspot : spot = none := by simpa [Addr.add] using World.cell?_spot (hq 0 h0).1.1
      subst hspot
      refine ⟨b, off, rfl, ?_, fun i hi => ?_⟩
      · have h' := (hq 0 h0).1.1
        rw [smp_add] at h'
        rcases Nat.lt_or_ge b W.heap.size with h2 | h2
        · exact h2
        · simp [World.cell?, Array.getElem?_eq_none h2] at h'
      · obtain ⟨⟨r0, r1, r2, r3, r4, r5⟩, _⟩ := hq i hi
        rw [smp_add] at r0 r1 r2 r3 r4 r5
        exact ⟨r0, by rw [Nat.add_assoc]; exact r1, by rw [Nat.add_assoc]; exact r2, by rw [Nat.add_assoc]; exact r3, by rw [Nat.add_assoc]; exact r4, by rw [Nat.add_assoc]; exact r5⟩
end Go.Proofs.YticgapplpfaigaaGreat
