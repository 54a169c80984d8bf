
import Derived.Test.YtfgfeipoddnekaaDoorBsE
import Derived.Test.YtfgfeipoddnekaaDoorRows
import Derived.ProofKit
import Derived.OpenShut
import Derived.Carry
import Derived.SizedLaws
import Derived.Deep.SlicePairs
import Derived.Lib.SmallJoins
namespace Go.Proofs.YtfgfeipoddnekaaDoor.Ser
open Go.ChangeShapes Go.WideShapes Go.ChangeAt Go.RowKit
set_option linter.unusedVariables false
set_option linter.unusedSimpArgs false
theorem choose_below {α : Type} [Inhabited α] {p : Nat → α → Prop} {m : Nat} (h : ∀ i, i < m → ∃ x, p i x) : ∃ f : Nat → α, ∀ i, i < m → p i (f i) :=
  ⟨fun i => if hi : i < m then Classical.choose (h i hi) else default, fun i hi => by simp only [hi, dif_pos]; exact Classical.choose_spec (h i hi)⟩
theorem bulk_appS {H : Type} (a b : List (DataW H)) : Rows.uptoBulkAll (a ++ b) = Rows.uptoBulkAll a + Rows.uptoBulkAll b := by
  induction a with
  | nil => simp [Rows.uptoBulkAll]
  | cons x a ih => simp [Rows.uptoBulkAll, ih]; omega
theorem bulk_posS {H : Type} (d : DataW H) : 1 ≤ Rows.uptoBulk d := by
  cases d <;> first | (simp [Rows.uptoBulk]; done) | (rename_i q; cases q <;> simp [Rows.uptoBulk])
set_option maxRecDepth 100000 in
/-- samples, as they are read, by their bulk. -/
theorem smps_bulk {H : Type} {enc : TypeId × Value → H} {W : World} {v : Value} {y : DataW H × List MemPlace} {fuel : Nat}
    (hf : DataW.trod enc Tryd.prog W 0 (fun _ => true) true fuel 22 [v] = some y) (hbk : Rows.uptoBulk y.1 ≤ 1048576) :
    ∃ a cap l, v = .slice a (List.length l) cap ∧ LIn W a l ∧ l.length ≤ 1048576 := by
  rcases Go.Deep.open_slice Tryd.underlying22 hf with ⟨hcs, hx⟩ | ⟨a, len, cap, m, n, D, Pl, hcs, hb, hl, hm, hmm, hx, hall⟩
  · simp at hcs
    subst hcs
    exact ⟨none, 0, [], rfl, ⟨by simp, Or.inl rfl⟩, by simp⟩
  · simp at hcs
    subst hcs
    simp only [if_true] at hmm
    subst hmm
    have hce : Tryd.prog.cellsOf 37 = 3 := by kernel_rfl
    have hcv : Tryd.prog.cellsOf 35 = 2 := by kernel_rfl
    have hy1 : y.1 = .slice ((List.range len).map D) ((List.range (m - len)).map fun j => D (len + j)) := by rw [hx]
    have hbe : Rows.uptoBulkAll ((List.range len).map D) ≤ 1048576 := by
      rw [hy1] at hbk; simp only [Rows.uptoBulk] at hbk; omega
    have hlen0 : ∀ k, k ≤ Rows.uptoBulkAll ((List.range k).map D) := by
      intro k
      induction k with
      | zero => simp
      | succ k ih =>
        rw [List.range_succ, List.map_append, bulk_appS]
        simp only [List.map_cons, List.map_nil, Rows.uptoBulkAll]
        have := bulk_posS (D k)
        omega
    have hsz : len ≤ 1048576 := by have := hlen0 len; omega
    have each : ∀ i, i < len → ∃ q : Smp, (W.cell? (a.add (i * 3)) = some (.int .i64 q.t) ∧ W.cell? (a.add (i * 3 + 1)) = some (.int .u8 (q.k : Int)) ∧ W.cell? (a.add (i * 3 + 2)) = some (.int .i64 q.x)) ∧ q.ok := by
      intro i hi
      obtain ⟨cs', h1, h2⟩ := hall i (by omega)
      rw [hce] at h1
      obtain ⟨_, hlen, hcell⟩ := World.cells?_some h1
      obtain ⟨xs, k, hk, hxy, _, hxl, hff⟩ := DataW.trod_struct Tryd.underlying37 h2
      match xs, hxl, cs', hlen with
      | [y0, y1], _, [v0, v1, v2], _ =>
        have ci : Tryd.prog.cellsOf 33 = 1 := by kernel_rfl
        have cu : Tryd.prog.cellsOf 2 = 1 := by kernel_rfl
        have g0 : DataW.trod enc Tryd.prog W 0 (fun _ => true) true k 2 (List.take (Tryd.prog.cellsOf 2) [v0, v1, v2]) = some y0 := hff 0 _ rfl
        have g1 : DataW.trod enc Tryd.prog W 0 (fun _ => true) true k 35 (List.take (Tryd.prog.cellsOf 35) [v1, v2]) = some y1 := hff 1 _ rfl
        rw [cu] at g0
        rw [hcv] at g1
        simp only [List.take_succ_cons, List.take_zero] at g0 g1
        obtain ⟨xs', k', hk', hxy', _, hxl', hff'⟩ := DataW.trod_struct Tryd.underlying35 g1
        match xs', hxl' with
        | [u0, u1], _ =>
          have g2 : DataW.trod enc Tryd.prog W 0 (fun _ => true) true k' 33 (List.take (Tryd.prog.cellsOf 33) [v1, v2]) = some u0 := hff' 0 _ rfl
          have g3 : DataW.trod enc Tryd.prog W 0 (fun _ => true) true k' 2 (List.take (Tryd.prog.cellsOf 2) [v2]) = some u1 := hff' 1 _ rfl
          rw [ci] at g2
          rw [cu] at g3
          simp only [List.take_succ_cons, List.take_zero] at g2 g3
          obtain ⟨kt, et, _, wt⟩ := DataW.trod_int Tryd.underlying2 g0
          obtain ⟨k0, e0, _, w0⟩ := DataW.trod_int Tryd.underlying33 g2
          obtain ⟨k1, e1, _, w1⟩ := DataW.trod_int Tryd.underlying2 g3
          simp at et e0 e1
          subst et e0 e1
          have r0 := hcell 0 (by omega)
          have r1 := hcell 1 (by omega)
          have r2 := hcell 2 (by omega)
          rw [Go.Deep.add_add] at r0 r1 r2
          have b0 := bounds_i64 wt
          have b1 := bounds_u8 w0
          have b2 := bounds_i64 w1
          have b0' : -9223372036854775808 ≤ kt ∧ kt ≤ 9223372036854775807 := by omega
          have b2' : -9223372036854775808 ≤ k1 ∧ k1 ≤ 9223372036854775807 := by omega
          refine ⟨⟨kt, k0.toNat, k1⟩, ⟨by simpa using r0, ?_, by simpa using r2⟩, ⟨b0', show k0.toNat < 256 by omega, b2'⟩⟩
          have ek : ((k0.toNat : Nat) : Int) = k0 := by omega
          simpa [ek] using r1
    obtain ⟨q, hq⟩ := choose_below each
    refine ⟨some a, m, (List.range len).map q, by simp, ⟨fun s hs => ?_, ?_⟩, by simpa using hsz⟩
    · simp only [List.mem_map, List.mem_range] at hs
      obtain ⟨i, hi, rfl⟩ := hs
      exact (hq i hi).2
    · rcases Nat.eq_zero_or_pos len with h0 | h0
      · exact Or.inl (by rw [h0]; rfl)
      · right
        obtain ⟨b, off, spot⟩ := a
        have hspot : spot = none := by simpa [Addr.add] using World.cell?_spot (hq 0 h0).1.1
        subst hspot
        refine ⟨b, off, rfl, ?_, fun i s hs => ?_⟩
        · have h' := (hq 0 h0).1.1
          rw [smp_add] at h'
          rcases Nat.lt_or_ge b W.heap.size with h2 | h2
          · exact h2
          · simp [World.cell?, Array.getElem?_eq_none h2] at h'
        · have hi : i < len := by have := (List.getElem?_eq_some_iff.1 hs).1; simpa using this
          have es : s = q i := by
            rw [List.getElem?_map, List.getElem?_range hi] at hs
            simpa using hs.symm
          subst es
          obtain ⟨⟨r0, r1, r2⟩, _⟩ := hq i hi
          rw [smp_add] at r0 r1 r2
          exact ⟨r0, by rw [Nat.add_assoc]; exact r1, by rw [Nat.add_assoc]; exact r2⟩
end Go.Proofs.YtfgfeipoddnekaaDoor.Ser
