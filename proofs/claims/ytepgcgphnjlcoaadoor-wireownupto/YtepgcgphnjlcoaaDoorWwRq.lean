
import Derived.Test.YtepgcgphnjlcoaaDoorRows
import Derived.Test.YtepgcgphnjlcoaaDoorWwWq
import Derived.ProofKit
import Derived.OpenShut
import Derived.Deep.SlicePairs
import Derived.Lib.SmallJoins
namespace Go.Proofs.YtepgcgphnjlcoaaDoor
open Go.ChangeShapes Go.WideShapes Go.ChangeAt Go.RowKit
set_option linter.unusedVariables false
set_option linter.unusedSimpArgs false
theorem bulk_app {H : Type} (a b : List (DataW H)) : Rows.uptoBulkAll (a ++ b) = Rows.uptoBulkAll a + Rows.uptoBulkAll b := by
  induction a with
  | nil => simp [Rows.uptoBulkAll]
  | cons x a ih => simp [Rows.uptoBulkAll, ih]; omega
theorem bulk_litsW {H : Type} (k : IntKind) (l : List Int) : Rows.uptoBulkAll (lits (H := H) k l) = l.length := by
  unfold lits
  induction l with
  | nil => simp [Rows.uptoBulkAll]
  | cons x a ih => simp [Rows.uptoBulkAll, Rows.uptoBulk, ih]; omega
theorem bulk_pos {H : Type} (d : DataW H) : 1 ≤ Rows.uptoBulk d := by
  cases d <;> first | (simp [Rows.uptoBulk]; done) | (rename_i q; cases q <;> simp [Rows.uptoBulk])
set_option maxRecDepth 100000 in
/-- a slice of bytes that lies in a struct, by its bulk. -/
theorem bytes_bulk {H : Type} {enc : TypeId × Value → H} {t e : TypeId} {W : World} {v : Value} {y : DataW H × List MemPlace} {fuel : Nat}
    (ht : Tryd.prog.underlying t = some (.slice e)) (he : Tryd.prog.underlying e = some (.int .u8)) (hc : Tryd.prog.cellsOf e = 1)
    (hf : DataW.trod enc Tryd.prog W 0 (fun _ => true) true fuel t [v] = some y) :
    ∃ a len cap bs, v = .slice a len cap ∧ len + 1 ≤ Rows.uptoBulk y.1 ∧ (len ≤ 140737488355327 → BytesIn W a len bs) := by
  rcases open_ints ht he hc hf with ⟨hcs, hx⟩ | ⟨a', len, cap, zs, hcs, _, hl, hm, hzl, hx, hcell, hwz⟩
  · simp at hcs
    subst hcs
    exact ⟨none, 0, 0, fun _ => 0, rfl, by rw [hx]; simp [Rows.uptoBulk], fun _ => ⟨by omega, Or.inl rfl⟩⟩
  · simp at hcs
    subst hcs
    simp at hzl
    refine ⟨some a', len, cap, fun i => (zs.getD i 0).toNat, rfl, ?_, fun hsm => ⟨hsm, ?_⟩⟩
    · rw [hx]
      simp only [Rows.uptoBulk, bulk_litsW, List.length_take, List.length_drop]
      omega
    rcases Nat.eq_zero_or_pos len with h0 | h0
    · exact Or.inl h0
    · right
      obtain ⟨b, off, rfl, hc'⟩ := ints_at hcell (by omega)
      refine ⟨b, off, rfl, ?_, fun i hi => ?_⟩
      · have := hc' 0 (by omega)
        rcases Nat.lt_or_ge b W.heap.size with h' | h'
        · exact h'
        · simp [World.cell?, Array.getElem?_eq_none h'] at this
      · have hi' : i < zs.length := by omega
        have hm2 : zs.getD i 0 ∈ zs := by rw [List.getD_eq_getElem?_getD, List.getElem?_eq_getElem hi']; exact List.getElem_mem hi'
        have hb8 := bounds_u8 (hwz (zs.getD i 0) hm2)
        have h0 := hc' i hi'
        have e0 : (((zs.getD i 0).toNat : Nat) : Int) = zs.getD i 0 := by omega
        exact ⟨by rw [e0]; exact h0, show (zs.getD i 0).toNat < 256 by omega⟩
theorem choose_below {α : Type} [Inhabited α] {p : Nat → α → Prop} {m : Nat} (h : ∀ i, i < m → ∃ x, p i x) : ∃ f : Nat → α, ∀ i, i < m → p i (f i) :=
  ⟨fun i => if hi : i < m then Classical.choose (h i hi) else default, fun i hi => by simp only [hi, dif_pos]; exact Classical.choose_spec (h i hi)⟩
theorem mAll_bulk {H : Type} (o : Ops) (D : Nat → DataW H) : ∀ (len : Nat), (∀ i, i < len → o.M i + 1 ≤ Rows.uptoBulk (D i)) → mAll o len ≤ 64 * Rows.uptoBulkAll ((List.range len).map D) := by
  intro len
  induction len with
  | zero => intro _; simp [mAll]
  | succ k ih =>
    intro h
    have h1 := ih (fun i hi => h i (by omega))
    have h2 := h k (by omega)
    rw [List.range_succ, List.map_append, bulk_app]
    simp only [mAll, List.map_cons, List.map_nil, Rows.uptoBulkAll]
    omega
set_option maxRecDepth 100000 in
/-- things to be written, as they are read. -/
theorem ops_read {H : Type} {enc : TypeId × Value → H} {W : World} {v : Value} {y : DataW H × List MemPlace} {fuel : Nat}
    (hf : DataW.trod enc Tryd.prog W 0 (fun _ => true) true fuel 22 [v] = some y) (hbk : Rows.uptoBulk y.1 ≤ 1048576) :
    ∃ a len cap o, v = .slice a len cap ∧ OpsAt W a len o ∧ len ≤ 9223372036854775807 ∧ mAll o len ≤ 67108864 ∧ len ≤ 1048576 := by
  rcases Go.Deep.open_slice Tryd.underlying22 hf with ⟨hcs, hx⟩ | ⟨a, len, cap, m, n, D, Pl, hcs, hb, hl, hm, hmm, hx, hall⟩
  · simp at hcs
    subst hcs
    exact ⟨none, 0, 0, ⟨fun _ => 0, fun _ => 0, fun _ => 0, fun _ => none, fun _ => 0, fun _ => 0, fun _ _ => 0⟩, rfl, Or.inl rfl, by omega, by simp [mAll], by omega⟩
  · simp at hcs
    subst hcs
    simp only [if_true] at hmm
    subst hmm
    have hce : Tryd.prog.cellsOf 62 = 4 := by kernel_rfl
    have hy1 : y.1 = .slice ((List.range len).map D) ((List.range (m - len)).map fun j => D (len + j)) := by rw [hx]
    have hbe : Rows.uptoBulkAll ((List.range len).map D) ≤ 1048576 := by
      rw [hy1] at hbk; simp only [Rows.uptoBulk] at hbk; omega
    have hlen0 : ∀ k, k ≤ Rows.uptoBulkAll ((List.range k).map D) := by
      intro k
      induction k with
      | zero => simp
      | succ k ih =>
        rw [List.range_succ, List.map_append, bulk_app]
        simp only [List.map_cons, List.map_nil, Rows.uptoBulkAll]
        have := bulk_pos (D k)
        omega
    have hll := hlen0 len
    have each : ∀ i, i < len → ∃ q : Int × Nat × Int × Option Addr × Nat × Nat × (Nat → Nat),
        (W.cell? (a.add (i * 4)) = some (.int .i64 q.1) ∧ W.cell? (a.add (i * 4 + 1)) = some (.int .u64 (q.2.1 : Int)) ∧ W.cell? (a.add (i * 4 + 2)) = some (.int .i64 q.2.2.1) ∧ W.cell? (a.add (i * 4 + 3)) = some (.slice q.2.2.2.1 q.2.2.2.2.1 q.2.2.2.2.2.1)) ∧ q.2.1 < 18446744073709551616 ∧ BytesIn W q.2.2.2.1 q.2.2.2.2.1 q.2.2.2.2.2.2 ∧ q.2.2.2.2.1 + 1 ≤ Rows.uptoBulk (D i) := by
      intro i hi
      obtain ⟨cs', h1, h2⟩ := hall i (by omega)
      rw [hce] at h1
      obtain ⟨_, hlen, hcell⟩ := World.cells?_some h1
      obtain ⟨xs, k, hk, hxy, _, hxl, hff⟩ := DataW.trod_struct Tryd.underlying62 h2
      match xs, hxl, cs', hlen with
      | [y0, y1, y2, y3], _, [v0, v1, v2, v3], _ =>
        have ci : Tryd.prog.cellsOf 3 = 1 := by kernel_rfl
        have cu : Tryd.prog.cellsOf 60 = 1 := by kernel_rfl
        have cb : Tryd.prog.cellsOf 23 = 1 := by kernel_rfl
        have g0 : DataW.trod enc Tryd.prog W 0 (fun _ => true) true k 3 (List.take (Tryd.prog.cellsOf 3) [v0, v1, v2, v3]) = some y0 := hff 0 _ rfl
        have g1 : DataW.trod enc Tryd.prog W 0 (fun _ => true) true k 60 (List.take (Tryd.prog.cellsOf 60) [v1, v2, v3]) = some y1 := hff 1 _ rfl
        have g2 : DataW.trod enc Tryd.prog W 0 (fun _ => true) true k 3 (List.take (Tryd.prog.cellsOf 3) [v2, v3]) = some y2 := hff 2 _ rfl
        have g3 : DataW.trod enc Tryd.prog W 0 (fun _ => true) true k 23 (List.take (Tryd.prog.cellsOf 23) [v3]) = some y3 := hff 3 _ rfl
        rw [ci] at g0 g2
        rw [cu] at g1
        rw [cb] at g3
        simp only [List.take_succ_cons, List.take_zero] at g0 g1 g2 g3
        obtain ⟨k0, e0, _, _⟩ := DataW.trod_int Tryd.underlying3 g0
        obtain ⟨k1, e1, _, w1⟩ := DataW.trod_int Tryd.underlying60 g1
        obtain ⟨k2, e2, _, _⟩ := DataW.trod_int Tryd.underlying3 g2
        obtain ⟨ba, bl, bc, bs, e3, hbb, hbin⟩ := bytes_bulk Tryd.underlying23 Tryd.underlying5 (by kernel_rfl) g3
        simp at e0 e1 e2
        subst e0 e1 e2 e3
        have r0 := hcell 0 (by omega)
        have r1 := hcell 1 (by omega)
        have r2 := hcell 2 (by omega)
        have r3 := hcell 3 (by omega)
        rw [Go.Deep.add_add] at r0 r1 r2 r3
        have hw1 := bounds_u64 w1
        have hDi : Rows.uptoBulk (D i) = Rows.uptoBulk y0.1 + (Rows.uptoBulk y1.1 + (Rows.uptoBulk y2.1 + (Rows.uptoBulk y3.1 + 0))) + 1 := by
          have : D i = .agg [y0.1, y1.1, y2.1, y3.1] := by simpa using congrArg (·.1) hxy
          rw [this]; simp [Rows.uptoBulk, Rows.uptoBulkAll]
        have hDb : Rows.uptoBulk (D i) ≤ 1048576 := by
          have hmem : ∀ (l : List (DataW H)) (d : DataW H), d ∈ l → Rows.uptoBulk d ≤ Rows.uptoBulkAll l := by
            intro l
            induction l with
            | nil => intro d hd; cases hd
            | cons z l ih => intro d hd; rcases List.mem_cons.1 hd with e | hd; subst e; simp [Rows.uptoBulkAll]; have := ih d hd; simp [Rows.uptoBulkAll]; omega
          exact Nat.le_trans (hmem _ _ (List.mem_map.2 ⟨i, List.mem_range.2 hi, rfl⟩)) hbe
        refine ⟨(k0, k1.toNat, k2, ba, bl, bc, bs), ⟨by simpa using r0, ?_, by simpa using r2, by simpa using r3⟩, show k1.toNat < _ by omega, hbin (by omega), show bl + 1 ≤ _ by omega⟩
        have ek : ((k1.toNat : Nat) : Int) = k1 := by omega
        simpa [ek] using r1
    obtain ⟨q, hq⟩ := choose_below each
    refine ⟨some a, len, m, ⟨fun i => (q i).1, fun i => (q i).2.1, fun i => (q i).2.2.1, fun i => (q i).2.2.2.1, fun i => (q i).2.2.2.2.1, fun i => (q i).2.2.2.2.2.1, fun i => (q i).2.2.2.2.2.2⟩, rfl, ?_, by have : maxLen = 9223372036854775807 := rfl; omega, ?_, by omega⟩
    · rcases Nat.eq_zero_or_pos len with h0 | h0
      · exact Or.inl h0
      · right
        obtain ⟨b, off, spot⟩ := a
        have hspot : spot = none := by simpa [Addr.add] using World.cell?_spot (hq 0 h0).1.1
        subst hspot
        refine ⟨b, off, rfl, ?_, fun i hi => ?_⟩
        · have h' := (hq 0 h0).1.1
          rw [Go.WideShapes.add_plain] at h'
          rcases Nat.lt_or_ge b W.heap.size with h2 | h2
          · exact h2
          · simp [World.cell?, Array.getElem?_eq_none h2] at h'
        · obtain ⟨⟨c0, c1, c2, c3⟩, hx1, hB, _⟩ := hq i hi
          rw [Go.WideShapes.add_plain] at c0 c1 c2 c3
          rw [← Nat.add_assoc] at c1 c2 c3
          exact ⟨⟨c0, c1, c2, c3⟩, hx1, hB⟩
    · have := mAll_bulk ⟨fun i => (q i).1, fun i => (q i).2.1, fun i => (q i).2.2.1, fun i => (q i).2.2.2.1, fun i => (q i).2.2.2.2.1, fun i => (q i).2.2.2.2.2.1, fun i => (q i).2.2.2.2.2.2⟩ D len (fun i hi => (hq i hi).2.2.2)
      omega
end Go.Proofs.YtepgcgphnjlcoaaDoor
