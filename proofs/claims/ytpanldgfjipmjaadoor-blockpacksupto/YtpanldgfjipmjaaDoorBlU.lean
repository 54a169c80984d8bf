
import Derived.Test.YtpanldgfjipmjaaDoorBlS
import Derived.Test.YtpanldgfjipmjaaDoorBlT
namespace Go.Proofs.YtpanldgfjipmjaaDoor
open Go.ChangeShapes Go.WideShapes Go.ChangeAt Go.RowKit
set_option linter.unusedVariables false
set_option linter.unusedSimpArgs false
theorem bulk_appV {H : Type} (a b : List (DataW H)) : Rows.uptoBulkAll (a ++ b) = Rows.uptoBulkAll a + Rows.uptoBulkAll b := by
  induction a with
  | nil => simp [Rows.uptoBulkAll]
  | cons x a ih => simp [Rows.uptoBulkAll, ih]; omega
theorem bulk_posV {H : Type} (d : DataW H) : 1 ≤ Rows.uptoBulk d := by
  cases d <;> first | (simp [Rows.uptoBulk]; done) | (rename_i q; cases q <;> simp [Rows.uptoBulk])
theorem choose_belowV {α : Type} [Inhabited α] {p : Nat → α → Prop} {m : Nat} (h : ∀ i, i < m → ∃ x, p i x) : ∃ f : Nat → α, ∀ i, i < m → p i (f i) :=
  ⟨fun i => if hi : i < m then Classical.choose (h i hi) else default, fun i hi => by simp only [hi, dif_pos]; exact Classical.choose_spec (h i hi)⟩
set_option maxRecDepth 100000 in
/-- a slice of values, by its bulk. -/
theorem vals_bulk {H : Type} {enc : TypeId × Value → H} {W : World} {v : Value} {y : DataW H × List MemPlace} {fuel : Nat}
    (hf : DataW.trod enc Tryd.prog W 0 (fun _ => true) true fuel 38 [v] = some y) (hbk : Rows.uptoBulk y.1 ≤ 1048576) :
    ∃ a len cap kk xx, v = .slice a len cap ∧ len ≤ 1048576 ∧ VIn W a len kk xx := by
  rcases Go.Deep.open_slice Tryd.underlying38 hf with ⟨hcs, hx⟩ | ⟨a, len, cap, m, n, D, Pl, hcs, hb, hl, hm, hmm, hx, hall⟩
  · simp at hcs
    subst hcs
    exact ⟨none, 0, 0, fun _ => 0, fun _ => 0, rfl, by omega, by omega, fun _ => by simp, Or.inl rfl⟩
  · simp at hcs
    subst hcs
    simp only [if_true] at hmm
    subst hmm
    have hce : Tryd.prog.cellsOf 41 = 2 := by kernel_rfl
    have hy1 : y.1 = .slice ((List.range len).map D) ((List.range (m - len)).map fun j => D (len + j)) := by rw [hx]
    have hbe : Rows.uptoBulkAll ((List.range len).map D) ≤ 1048576 := by
      rw [hy1] at hbk; simp only [Rows.uptoBulk] at hbk; omega
    have hlen0 : ∀ k, k ≤ Rows.uptoBulkAll ((List.range k).map D) := by
      intro k
      induction k with
      | zero => simp
      | succ k ih =>
        rw [List.range_succ, List.map_append, bulk_appV]
        simp only [List.map_cons, List.map_nil, Rows.uptoBulkAll]
        have := bulk_posV (D k)
        omega
    have hll := hlen0 len
    have each : ∀ i, i < len → ∃ q : Nat × Int, (W.cell? (a.add (i * 2)) = some (.int .u8 (q.1 : Int)) ∧ W.cell? (a.add (i * 2 + 1)) = some (.int .i64 q.2)) ∧ q.1 < 256 ∧ -9223372036854775808 ≤ q.2 ∧ q.2 ≤ 9223372036854775807 := by
      intro i hi
      obtain ⟨cs', h1, h2⟩ := hall i (by omega)
      rw [hce] at h1
      obtain ⟨_, hlen, hcell⟩ := World.cells?_some h1
      obtain ⟨xs, k, hk, hxy, _, hxl, hff⟩ := DataW.trod_struct Tryd.underlying41 h2
      match xs, hxl, cs', hlen with
      | [y0, y1], _, [v0, v1], _ =>
        have ci : Tryd.prog.cellsOf 39 = 1 := by kernel_rfl
        have cu : Tryd.prog.cellsOf 2 = 1 := by kernel_rfl
        have g0 : DataW.trod enc Tryd.prog W 0 (fun _ => true) true k 39 (List.take (Tryd.prog.cellsOf 39) [v0, v1]) = some y0 := hff 0 _ rfl
        have g1 : DataW.trod enc Tryd.prog W 0 (fun _ => true) true k 2 (List.take (Tryd.prog.cellsOf 2) [v1]) = some y1 := hff 1 _ rfl
        rw [ci] at g0
        rw [cu] at g1
        simp only [List.take_succ_cons, List.take_zero] at g0 g1
        obtain ⟨k0, e0, _, w0⟩ := DataW.trod_int Tryd.underlying39 g0
        obtain ⟨k1, e1, _, w1⟩ := DataW.trod_int Tryd.underlying2 g1
        simp at e0 e1
        subst e0 e1
        have r0 := hcell 0 (by omega)
        have r1 := hcell 1 (by omega)
        rw [Go.Deep.add_add] at r0 r1
        have hw0 := bounds_u8 w0
        have hw1 := bounds_i64 w1
        refine ⟨(k0.toNat, k1), ⟨?_, by simpa using r1⟩, show k0.toNat < 256 by omega, hw1⟩
        have ek : ((k0.toNat : Nat) : Int) = k0 := by omega
        simpa [ek] using r0
    obtain ⟨q, hq⟩ := choose_belowV each
    refine ⟨some a, len, m, fun i => if i < len then (q i).1 else 0, fun i => if i < len then (q i).2 else 0, rfl, by omega, by omega, fun i => ?_, ?_⟩
    · by_cases hi : i < len
      · have := (hq i hi).2
        simp only [hi, if_true]
        exact this
      · simp [hi]
    · rcases Nat.eq_zero_or_pos len with h0 | h0
      · exact Or.inl h0
      · right
        obtain ⟨b, off, spot⟩ := a
        have hspot : spot = none := by simpa [Addr.add] using World.cell?_spot (hq 0 h0).1.1
        subst hspot
        refine ⟨b, off, rfl, ?_, fun i hi => ?_⟩
        · have h' := (hq 0 h0).1.1
          rw [Go.WideShapes.add_plain] at h'
          rcases Nat.lt_or_ge b W.heap.size with h2 | h2
          · exact h2
          · simp [World.cell?, Array.getElem?_eq_none h2] at h'
        · obtain ⟨⟨c0, c1⟩, _⟩ := hq i hi
          rw [Go.WideShapes.add_plain] at c0 c1
          rw [← Nat.add_assoc] at c1
          simp only [hi, if_true]
          exact ⟨c0, c1⟩
end Go.Proofs.YtpanldgfjipmjaaDoor
