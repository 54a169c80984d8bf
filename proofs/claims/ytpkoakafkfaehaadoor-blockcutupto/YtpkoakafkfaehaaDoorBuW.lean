
import Derived.Test.YtpkoakafkfaehaaDoorBuN
import Derived.Test.YtpkoakafkfaehaaDoorBlFq
import Derived.Test.YtpkoakafkfaehaaDoorBuM
import Derived.BigQuiet
import Derived.Test.YtpkoakafkfaehaaDoorBlSq
import Derived.Test.YtpkoakafkfaehaaDoorBuR
namespace Go.Proofs.YtpkoakafkfaehaaDoor
open Go.RowKit
set_option linter.unusedVariables false
set_option linter.unusedSimpArgs false
theorem put5 (w W : World) (q : Nat) (hq : w.heap.size ≤ q) (hB : Below w.heap.size w W) (x0 x1 x2 x3 x4 : Value) : Below w.heap.size w (((((W.setCell ⟨q, 0, none⟩ x0).setCell ⟨q, 1, none⟩ x1).setCell ⟨q, 2, none⟩ x2).setCell ⟨q, 3, none⟩ x3).setCell ⟨q, 4, none⟩ x4) := by
  have bb : ∀ (W : World) (j : Nat) (x : Value), Below w.heap.size w W → Below w.heap.size w (W.setCell ⟨q, j, none⟩ x) := fun W j x hW => hW.setCell (p := ⟨q, j, none⟩) hq _
  exact bb _ _ _ (bb _ _ _ (bb _ _ _ (bb _ _ _ (bb _ _ _ hB))))
theorem bytesIn_same {W : World} {p : Addr} {u : Value} {a : Option Addr} {m : Nat} {f : Nat → Nat} (hp : W.cell? p = some u) (h : BytesIn W a m f) : BytesIn (W.setCell p u) a m f := by
  refine ⟨h.1, ?_⟩
  rcases h.2 with h0 | ⟨b, off, e, hb, hB⟩
  · exact Or.inl h0
  · refine Or.inr ⟨b, off, e, by simpa using hb, fun i hi => ⟨?_, (hB i hi).2⟩⟩
    by_cases e' : (⟨b, off + i, none⟩ : Addr) = p
    · have h1 := (hB i hi).1
      rw [e'] at h1 ⊢
      rw [World.cell?_setCell_same _ _ _ hp, ← hp]; exact h1
    · rw [World.cell?_setCell_other _ _ _ _ (fun h => e' h.symm)]; exact (hB i hi).1
theorem BZ.set {z q j : Nat} {x : Value} {W : World} (h : BZ z W) (hne : z ≠ q) : BZ z (W.setCell ⟨q, j, none⟩ x) := by
  obtain ⟨z0, z1, z2, z3, z4, y0, y1, y2, y3, y4⟩ := h
  refine ⟨?_, ?_, ?_, ?_, ?_, by simpa using y0, by simpa using y1, by simpa using y2, by simpa using y3, by simpa using y4⟩
  · rw [World.cell?_setCell_other _ _ _ _ (by intro e; injection e with e1; omega)]; exact z0
  · rw [World.cell?_setCell_other _ _ _ _ (by intro e; injection e with e1; omega)]; exact z1
  · rw [World.cell?_setCell_other _ _ _ _ (by intro e; injection e with e1; omega)]; exact z2
  · rw [World.cell?_setCell_other _ _ _ _ (by intro e; injection e with e1; omega)]; exact z3
  · rw [World.cell?_setCell_other _ _ _ _ (by intro e; injection e with e1; omega)]; exact z4
end Go.Proofs.YtpkoakafkfaehaaDoor

namespace Go.Proofs.YtpkoakafkfaehaaDoor
open Go.RowKit
set_option linter.unusedVariables false
set_option linter.unusedSimpArgs false
end Go.Proofs.YtpkoakafkfaehaaDoor

namespace Go.Proofs.YtpkoakafkfaehaaDoor
open Go.ChangeShapes Go.WideShapes Go.ChangeAt Go.RowKit
set_option linter.unusedVariables false
set_option linter.unusedSimpArgs false
theorem bulk_appV {H : Type} (a b : List (DataW H)) : Rows.uptoBulkAll (a ++ b) = Rows.uptoBulkAll a + Rows.uptoBulkAll b := by
  induction a with
  | nil => simp [Rows.uptoBulkAll]
  | cons x a ih => simp [Rows.uptoBulkAll, ih]; omega
theorem bulk_posV {H : Type} (d : DataW H) : 1 ≤ Rows.uptoBulk d := by
  cases d <;> first | (simp [Rows.uptoBulk]; done) | (rename_i q; cases q <;> simp [Rows.uptoBulk])
theorem choose_belowV {α : Type} [Inhabited α] {p : Nat → α → Prop} {m : Nat} (h : ∀ i, i < m → ∃ x, p i x) : ∃ f : Nat → α, ∀ i, i < m → p i (f i) :=
  ⟨fun i => if hi : i < m then Classical.choose (h i hi) else default, fun i hi => by simp only [hi, dif_pos]; exact Classical.choose_spec (h i hi)⟩
set_option maxRecDepth 100000 in
/-- a slice of values, by its bulk. -/
theorem vals_bulk {H : Type} {enc : TypeId × Value → H} {W : World} {v : Value} {y : DataW H × List MemPlace} {fuel : Nat}
    (hf : DataW.trod enc Tryd.prog W 0 (fun _ => true) true fuel 63 [v] = some y) (hbk : Rows.uptoBulk y.1 ≤ 1048576) :
    ∃ a len cap kk xx, v = .slice a len cap ∧ len ≤ 1048576 ∧ VIn W a len kk xx := by
  rcases Go.Deep.open_slice Tryd.underlying63 hf with ⟨hcs, hx⟩ | ⟨a, len, cap, m, n, D, Pl, hcs, hb, hl, hm, hmm, hx, hall⟩
  · simp at hcs
    subst hcs
    exact ⟨none, 0, 0, fun _ => 0, fun _ => 0, rfl, by omega, by omega, fun _ => by simp, Or.inl rfl⟩
  · simp at hcs
    subst hcs
    simp only [if_true] at hmm
    subst hmm
    have hce : Tryd.prog.cellsOf 66 = 2 := by kernel_rfl
    have hy1 : y.1 = .slice ((List.range len).map D) ((List.range (m - len)).map fun j => D (len + j)) := by rw [hx]
    have hbe : Rows.uptoBulkAll ((List.range len).map D) ≤ 1048576 := by
      rw [hy1] at hbk; simp only [Rows.uptoBulk] at hbk; omega
    have hlen0 : ∀ k, k ≤ Rows.uptoBulkAll ((List.range k).map D) := by
      intro k
      induction k with
      | zero => simp
      | succ k ih =>
        rw [List.range_succ, List.map_append, bulk_appV]
        simp only [List.map_cons, List.map_nil, Rows.uptoBulkAll]
        have := bulk_posV (D k)
        omega
    have hll := hlen0 len
    have each : ∀ i, i < len → ∃ q : Nat × Int, (W.cell? (a.add (i * 2)) = some (.int .u8 (q.1 : Int)) ∧ W.cell? (a.add (i * 2 + 1)) = some (.int .i64 q.2)) ∧ q.1 < 256 ∧ -9223372036854775808 ≤ q.2 ∧ q.2 ≤ 9223372036854775807 := by
      intro i hi
      obtain ⟨cs', h1, h2⟩ := hall i (by omega)
      rw [hce] at h1
      obtain ⟨_, hlen, hcell⟩ := World.cells?_some h1
      obtain ⟨xs, k, hk, hxy, _, hxl, hff⟩ := DataW.trod_struct Tryd.underlying66 h2
      match xs, hxl, cs', hlen with
      | [y0, y1], _, [v0, v1], _ =>
        have ci : Tryd.prog.cellsOf 64 = 1 := by kernel_rfl
        have cu : Tryd.prog.cellsOf 2 = 1 := by kernel_rfl
        have g0 : DataW.trod enc Tryd.prog W 0 (fun _ => true) true k 64 (List.take (Tryd.prog.cellsOf 64) [v0, v1]) = some y0 := hff 0 _ rfl
        have g1 : DataW.trod enc Tryd.prog W 0 (fun _ => true) true k 2 (List.take (Tryd.prog.cellsOf 2) [v1]) = some y1 := hff 1 _ rfl
        rw [ci] at g0
        rw [cu] at g1
        simp only [List.take_succ_cons, List.take_zero] at g0 g1
        obtain ⟨k0, e0, _, w0⟩ := DataW.trod_int Tryd.underlying64 g0
        obtain ⟨k1, e1, _, w1⟩ := DataW.trod_int Tryd.underlying2 g1
        simp at e0 e1
        subst e0 e1
        have r0 := hcell 0 (by omega)
        have r1 := hcell 1 (by omega)
        rw [Go.Deep.add_add] at r0 r1
        have hw0 := bounds_u8 w0
        have hw1 := bounds_i64 w1
        refine ⟨(k0.toNat, k1), ⟨?_, by simpa using r1⟩, show k0.toNat < 256 by omega, hw1⟩
        have ek : ((k0.toNat : Nat) : Int) = k0 := by omega
        simpa [ek] using r0
    obtain ⟨q, hq⟩ := choose_belowV each
    refine ⟨some a, len, m, fun i => if i < len then (q i).1 else 0, fun i => if i < len then (q i).2 else 0, rfl, by omega, by omega, fun i => ?_, ?_⟩
    · by_cases hi : i < len
      · have := (hq i hi).2
        simp only [hi, if_true]
        exact this
      · simp [hi]
    · rcases Nat.eq_zero_or_pos len with h0 | h0
      · exact Or.inl h0
      · right
        obtain ⟨b, off, spot⟩ := a
        have hspot : spot = none := by simpa [Addr.add] using World.cell?_spot (hq 0 h0).1.1
        subst hspot
        refine ⟨b, off, rfl, ?_, fun i hi => ?_⟩
        · have h' := (hq 0 h0).1.1
          rw [Go.WideShapes.add_plain] at h'
          rcases Nat.lt_or_ge b W.heap.size with h2 | h2
          · exact h2
          · simp [World.cell?, Array.getElem?_eq_none h2] at h'
        · obtain ⟨⟨c0, c1⟩, _⟩ := hq i hi
          rw [Go.WideShapes.add_plain] at c0 c1
          rw [← Nat.add_assoc] at c1
          simp only [hi, if_true]
          exact ⟨c0, c1⟩
end Go.Proofs.YtpkoakafkfaehaaDoor

namespace Go.Proofs.YtpkoakafkfaehaaDoor
open Go.ChangeShapes Go.WideShapes Go.ChangeAt Go.RowKit
set_option linter.unusedVariables false
set_option linter.unusedSimpArgs false
set_option maxRecDepth 100000 in
/-- a slice of samples, by its bulk. -/
theorem smps_bulk {H : Type} {enc : TypeId × Value → H} {W : World} {v : Value} {y : DataW H × List MemPlace} {fuel : Nat}
    (hf : DataW.trod enc Tryd.prog W 0 (fun _ => true) true fuel 22 [v] = some y) (hbk : Rows.uptoBulk y.1 ≤ 1048576) :
    ∃ a len cap tt kk xx, v = .slice a len cap ∧ len ≤ 1048576 ∧ SIn W a len tt kk xx := by
  rcases Go.Deep.open_slice Tryd.underlying22 hf with ⟨hcs, hx⟩ | ⟨a, len, cap, m, n, D, Pl, hcs, hb, hl, hm, hmm, hx, hall⟩
  · simp at hcs
    subst hcs
    exact ⟨none, 0, 0, fun _ => 0, fun _ => 0, fun _ => 0, rfl, by omega, by omega, fun _ => by simp, fun _ => by simp, Or.inl rfl⟩
  · simp at hcs
    subst hcs
    simp only [if_true] at hmm
    subst hmm
    have hce : Tryd.prog.cellsOf 68 = 3 := by kernel_rfl
    have hcv : Tryd.prog.cellsOf 66 = 2 := by kernel_rfl
    have hy1 : y.1 = .slice ((List.range len).map D) ((List.range (m - len)).map fun j => D (len + j)) := by rw [hx]
    have hbe : Rows.uptoBulkAll ((List.range len).map D) ≤ 1048576 := by
      rw [hy1] at hbk; simp only [Rows.uptoBulk] at hbk; omega
    have hlen0 : ∀ k, k ≤ Rows.uptoBulkAll ((List.range k).map D) := by
      intro k
      induction k with
      | zero => simp
      | succ k ih =>
        rw [List.range_succ, List.map_append, bulk_appV]
        simp only [List.map_cons, List.map_nil, Rows.uptoBulkAll]
        have := bulk_posV (D k)
        omega
    have hll := hlen0 len
    have each : ∀ i, i < len → ∃ q : Int × Nat × Int, (W.cell? (a.add (i * 3)) = some (.int .i64 q.1) ∧ W.cell? (a.add (i * 3 + 1)) = some (.int .u8 (q.2.1 : Int)) ∧ W.cell? (a.add (i * 3 + 2)) = some (.int .i64 q.2.2)) ∧ (q.2.1 < 256 ∧ -9223372036854775808 ≤ q.2.2 ∧ q.2.2 ≤ 9223372036854775807) ∧ -9223372036854775808 ≤ q.1 ∧ q.1 ≤ 9223372036854775807 := by
      intro i hi
      obtain ⟨cs', h1, h2⟩ := hall i (by omega)
      rw [hce] at h1
      obtain ⟨_, hlen, hcell⟩ := World.cells?_some h1
      obtain ⟨xs, k, hk, hxy, _, hxl, hff⟩ := DataW.trod_struct Tryd.underlying68 h2
      match xs, hxl, cs', hlen with
      | [y0, y1], _, [v0, v1, v2], _ =>
        have ci : Tryd.prog.cellsOf 64 = 1 := by kernel_rfl
        have cu : Tryd.prog.cellsOf 2 = 1 := by kernel_rfl
        have g0 : DataW.trod enc Tryd.prog W 0 (fun _ => true) true k 2 (List.take (Tryd.prog.cellsOf 2) [v0, v1, v2]) = some y0 := hff 0 _ rfl
        have g1 : DataW.trod enc Tryd.prog W 0 (fun _ => true) true k 66 (List.take (Tryd.prog.cellsOf 66) [v1, v2]) = some y1 := hff 1 _ rfl
        rw [cu] at g0
        rw [hcv] at g1
        simp only [List.take_succ_cons, List.take_zero] at g0 g1
        obtain ⟨xs', k', hk', hxy', _, hxl', hff'⟩ := DataW.trod_struct Tryd.underlying66 g1
        match xs', hxl' with
        | [u0, u1], _ =>
          have g2 : DataW.trod enc Tryd.prog W 0 (fun _ => true) true k' 64 (List.take (Tryd.prog.cellsOf 64) [v1, v2]) = some u0 := hff' 0 _ rfl
          have g3 : DataW.trod enc Tryd.prog W 0 (fun _ => true) true k' 2 (List.take (Tryd.prog.cellsOf 2) [v2]) = some u1 := hff' 1 _ rfl
          rw [ci] at g2
          rw [cu] at g3
          simp only [List.take_succ_cons, List.take_zero] at g2 g3
          obtain ⟨kt, et, _, wt⟩ := DataW.trod_int Tryd.underlying2 g0
          obtain ⟨k0, e0, _, w0⟩ := DataW.trod_int Tryd.underlying64 g2
          obtain ⟨k1, e1, _, w1⟩ := DataW.trod_int Tryd.underlying2 g3
          simp at et e0 e1
          subst et e0 e1
          have r0 := hcell 0 (by omega)
          have r1 := hcell 1 (by omega)
          have r2 := hcell 2 (by omega)
          rw [Go.Deep.add_add] at r0 r1 r2
          have hwt := bounds_i64 wt
          have hw0 := bounds_u8 w0
          have hw1 := bounds_i64 w1
          refine ⟨(kt, k0.toNat, k1), ⟨by simpa using r0, ?_, by simpa using r2⟩, ⟨show k0.toNat < 256 by omega, hw1⟩, hwt⟩
          have ek : ((k0.toNat : Nat) : Int) = k0 := by omega
          simpa [ek] using r1
    obtain ⟨q, hq⟩ := choose_belowV each
    refine ⟨some a, len, m, fun i => if i < len then (q i).1 else 0, fun i => if i < len then (q i).2.1 else 0, fun i => if i < len then (q i).2.2 else 0, rfl, by omega, by omega, fun i => ?_, fun i => ?_, ?_⟩
    · by_cases hi : i < len
      · have := (hq i hi).2.1
        simp only [hi, if_true]
        exact this
      · simp [hi]
    · by_cases hi : i < len
      · have := (hq i hi).2.2
        simp only [hi, if_true]
        exact this
      · simp [hi]
    · rcases Nat.eq_zero_or_pos len with h0 | h0
      · exact Or.inl h0
      · right
        obtain ⟨b, off, spot⟩ := a
        have hspot : spot = none := by simpa [Addr.add] using World.cell?_spot (hq 0 h0).1.1
        subst hspot
        refine ⟨b, off, rfl, ?_, fun i hi => ?_⟩
        · have h' := (hq 0 h0).1.1
          rw [Go.WideShapes.add_plain] at h'
          rcases Nat.lt_or_ge b W.heap.size with h2 | h2
          · exact h2
          · simp [World.cell?, Array.getElem?_eq_none h2] at h'
        · obtain ⟨⟨c0, c1, c2⟩, _⟩ := hq i hi
          rw [Go.WideShapes.add_plain] at c0 c1 c2
          rw [← Nat.add_assoc] at c1 c2
          simp only [hi, if_true]
          exact ⟨c0, c1, c2⟩
end Go.Proofs.YtpkoakafkfaehaaDoor
