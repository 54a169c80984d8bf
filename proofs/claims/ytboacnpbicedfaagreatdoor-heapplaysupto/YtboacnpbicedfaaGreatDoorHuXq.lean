
import Derived.Test.YtboacnpbicedfaaGreatDoorRows
import Derived.Test.YtboacnpbicedfaaGreatDoorByH
import Derived.ProofKit
import Derived.OpenShut
import Derived.Carry
import Derived.SizedLaws
import Derived.Deep.SlicePairs
import Derived.Lib.SmallJoins
namespace Go.Proofs.YtboacnpbicedfaaGreatDoor.Hp
open Go.ChangeShapes Go.WideShapes Go.ChangeAt Go.RowKit
set_option linter.unusedVariables false
set_option linter.unusedSimpArgs false
set_option maxRecDepth 100000
theorem choose_belowE {α : Type} [Inhabited α] {p : Nat → α → Prop} {m : Nat} (h : ∀ i, i < m → ∃ x, p i x) : ∃ f : Nat → α, ∀ i, i < m → p i (f i) :=
  ⟨fun i => if hi : i < m then Classical.choose (h i hi) else default, fun i hi => by simp only [hi, dif_pos]; exact Classical.choose_spec (h i hi)⟩
theorem bulk_posE {H : Type} (d : DataW H) : 1 ≤ Rows.uptoBulk d := by
  cases d <;> first | (simp [Rows.uptoBulk]; done) | (rename_i q; cases q <;> simp [Rows.uptoBulk])
theorem bulk_lenE {H : Type} : ∀ l : List (DataW H), l.length ≤ Rows.uptoBulkAll l
  | [] => Nat.zero_le _
  | d :: r => by
    have h1 := bulk_posE d
    have h2 := bulk_lenE r
    simp only [Rows.uptoBulkAll, List.length_cons]; omega
theorem bulk_memE {H : Type} : ∀ {l : List (DataW H)} {d : DataW H}, d ∈ l → Rows.uptoBulk d ≤ Rows.uptoBulkAll l
  | x :: r, d, h => by
    simp only [Rows.uptoBulkAll]
    rcases List.mem_cons.1 h with e | e
    · subst e; omega
    · have := bulk_memE e; omega
theorem blk_lt {W : World} {b o : Nat} {v : Value} (h : W.cell? ⟨b, o, none⟩ = some v) : b < W.heap.size := by
  rcases Nat.lt_or_ge b W.heap.size with h2 | h2
  · exact h2
  · simp [World.cell?, Array.getElem?_eq_none h2] at h
set_option maxRecDepth 100000 in
/-- entries, as they are read, by their bulk. -/
theorem ents_bulk {H : Type} {enc : TypeId × Value → H} {W : World} {v : Value} {y : DataW H × List MemPlace} {fuel : Nat}
    (hf : DataW.trod enc Tryz.prog W 0 (fun _ => true) true fuel 31 [v] = some y) (hbk : Rows.uptoBulk y.1 ≤ 1048576) :
    ∃ a cap l, v = .slice a (List.length l) cap ∧ EnIn W a l ∧ (∀ e ∈ l, e.2.size ≤ 9223372036854775807) ∧ l.length ≤ 1048576 := by
  have hml : maxLen = 9223372036854775807 := by decide
  rcases Go.Deep.open_slice Tryz.underlying31 hf with ⟨hcs, hx⟩ | ⟨a, len, cap, m, n, D, Pl, hcs, hb, hl, hm, hmm, hx, hall⟩
  · simp at hcs
    subst hcs
    exact ⟨none, 0, [], rfl, Or.inl rfl, by simp, by simp⟩
  · simp at hcs
    subst hcs
    simp only [if_true] at hmm
    subst hmm
    have hce : Tryz.prog.cellsOf 30 = 2 := by kernel_rfl
    have hy1 : y.1 = .slice ((List.range len).map D) ((List.range (m - len)).map fun j => D (len + j)) := by rw [hx]
    have hbe : Rows.uptoBulkAll ((List.range len).map D) ≤ 1048576 := by
      rw [hy1] at hbk; simp only [Rows.uptoBulk] at hbk; omega
    have hsz : len ≤ 1048576 := by have := bulk_lenE ((List.range len).map D); simp at this; omega
    have each : ∀ i, i < len → ∃ q : Ent, (W.cell? (a.add (i * 2)) = some (.int .i64 q.1) ∧ W.cell? (a.add (i * 2 + 1)) = some (.string q.2)) ∧ q.2.size ≤ 9223372036854775807 := by
      intro i hi
      obtain ⟨cs', h1, h2⟩ := hall i (by omega)
      rw [hce] at h1
      obtain ⟨_, hlen, hcell⟩ := World.cells?_some h1
      obtain ⟨xs, k, hk, hxy, _, hxl, hff⟩ := DataW.trod_struct Tryz.underlying30 h2
      match xs, hxl, cs', hlen with
      | [y0, y1], _, [v0, v1], _ =>
        have cs : Tryz.prog.cellsOf 9 = 1 := by kernel_rfl
        have cu : Tryz.prog.cellsOf 2 = 1 := by kernel_rfl
        have g0 : DataW.trod enc Tryz.prog W 0 (fun _ => true) true k 2 (List.take (Tryz.prog.cellsOf 2) [v0, v1]) = some y0 := hff 0 _ rfl
        have g1 : DataW.trod enc Tryz.prog W 0 (fun _ => true) true k 9 (List.take (Tryz.prog.cellsOf 9) [v1]) = some y1 := hff 1 _ rfl
        rw [cu] at g0
        rw [cs] at g1
        simp only [List.take_succ_cons, List.take_zero] at g0 g1
        obtain ⟨k0, e0, _, w0⟩ := DataW.trod_int Tryz.underlying2 g0
        obtain ⟨s1, e1, _, w1⟩ := DataW.trod_string Tryz.underlying9 g1
        simp at e0 e1
        subst e0 e1
        have r0 := hcell 0 (by omega)
        have r1 := hcell 1 (by omega)
        rw [Go.Deep.add_add] at r0 r1
        exact ⟨(k0, s1), ⟨by simpa using r0, by simpa using r1⟩, by show s1.size ≤ _; omega⟩
    haveI : Inhabited Ent := ⟨nE⟩
    obtain ⟨q, hq⟩ := choose_belowE each
    refine ⟨some a, m, (List.range len).map q, by simp, ?_, fun e he => ?_, by simpa using hsz⟩
    · rcases Nat.eq_zero_or_pos len with h0 | h0
      · exact Or.inl (by rw [h0]; rfl)
      · right
        obtain ⟨b, off, spot⟩ := a
        have hspot : spot = none := by simpa [Addr.add] using World.cell?_spot (hq 0 h0).1.1
        subst hspot
        refine ⟨b, off, rfl, ?_, fun i s hs => ?_⟩
        · have h' := (hq 0 h0).1.1
          rw [add_lt0] at h'
          exact blk_lt h'
        · have hi : i < len := by have := (List.getElem?_eq_some_iff.1 hs).1; simpa using this
          have es : s = q i := by
            rw [List.getElem?_map, List.getElem?_range hi] at hs
            simpa using hs.symm
          subst es
          obtain ⟨⟨r0, r1⟩, _⟩ := hq i hi
          rw [add_lt0] at r0 r1
          exact ⟨r0, by rw [Nat.add_assoc]; exact r1⟩
    · simp only [List.mem_map, List.mem_range] at he
      obtain ⟨i, hi, rfl⟩ := he
      exact (hq i hi).2
set_option maxRecDepth 100000 in
/-- calls and their lists, as they are read, by their bulk. -/
theorem ops_bulk {H : Type} {enc : TypeId × Value → H} {W : World} {v : Value} {y : DataW H × List MemPlace} {fuel : Nat}
    (hf : DataW.trod enc Tryz.prog W 0 (fun _ => true) true fuel 22 [v] = some y) (hbk : Rows.uptoBulk y.1 ≤ 1048576) :
    ∃ a len cap op, v = .slice a len cap ∧ OpIn W a len op ∧ (∀ i, i < len → (op i).e.2.size ≤ 9223372036854775807 ∧ ∃ l, (op i).ln = List.length l ∧ EnIn W (op i).la l ∧ (∀ e ∈ l, e.2.size ≤ 9223372036854775807) ∧ l.length ≤ 1048576) ∧ len ≤ 1048576 := by
  have hml : maxLen = 9223372036854775807 := by decide
  rcases Go.Deep.open_slice Tryz.underlying22 hf with ⟨hcs, hx⟩ | ⟨a, len, cap, m, n, D, Pl, hcs, hb, hl, hm, hmm, hx, hall⟩
  · simp at hcs
    subst hcs
    exact ⟨none, 0, 0, fun _ => ⟨0, 0, false, nE, none, 0, 0⟩, rfl, Or.inl rfl, fun i hi => by omega, by omega⟩
  · simp at hcs
    subst hcs
    simp only [if_true] at hmm
    subst hmm
    have hce : Tryz.prog.cellsOf 33 = 6 := by kernel_rfl
    have hcn : Tryz.prog.cellsOf 30 = 2 := by kernel_rfl
    have hy1 : y.1 = .slice ((List.range len).map D) ((List.range (m - len)).map fun j => D (len + j)) := by rw [hx]
    have hbe : Rows.uptoBulkAll ((List.range len).map D) ≤ 1048576 := by
      rw [hy1] at hbk; simp only [Rows.uptoBulk] at hbk; omega
    have hsz : len ≤ 1048576 := by have := bulk_lenE ((List.range len).map D); simp at this; omega
    have each : ∀ i, i < len → ∃ q : OpP, (W.cell? (a.add (i * 6)) = some (.int .i64 q.k) ∧ W.cell? (a.add (i * 6 + 1)) = some (.int .i64 q.wh) ∧ W.cell? (a.add (i * 6 + 2)) = some (.bool q.mo) ∧ W.cell? (a.add (i * 6 + 3)) = some (.int .i64 q.e.1) ∧ W.cell? (a.add (i * 6 + 4)) = some (.string q.e.2) ∧ W.cell? (a.add (i * 6 + 5)) = some (.slice q.la q.ln q.lc)) ∧ q.e.2.size ≤ 9223372036854775807 ∧ ∃ l, q.ln = List.length l ∧ EnIn W q.la l ∧ (∀ e ∈ l, e.2.size ≤ 9223372036854775807) ∧ l.length ≤ 1048576 := by
      intro i hi
      obtain ⟨cs', h1, h2⟩ := hall i (by omega)
      rw [hce] at h1
      obtain ⟨_, hlen, hcell⟩ := World.cells?_some h1
      obtain ⟨xs, k, hk, hxy, _, hxl, hff⟩ := DataW.trod_struct Tryz.underlying33 h2
      have hDb : Rows.uptoBulk (D i) ≤ 1048576 := Nat.le_trans (bulk_memE (List.mem_map.2 ⟨i, List.mem_range.2 hi, rfl⟩)) hbe
      match xs, hxl, cs', hlen with
      | [y0, y1, y2, y3, y4], _, [v0, v1, v2, v3, v4, v5], _ =>
        have cs : Tryz.prog.cellsOf 9 = 1 := by kernel_rfl
        have cu : Tryz.prog.cellsOf 2 = 1 := by kernel_rfl
        have ci : Tryz.prog.cellsOf 3 = 1 := by kernel_rfl
        have cb : Tryz.prog.cellsOf 4 = 1 := by kernel_rfl
        have cl : Tryz.prog.cellsOf 31 = 1 := by kernel_rfl
        have g0 : DataW.trod enc Tryz.prog W 0 (fun _ => true) true k 3 (List.take (Tryz.prog.cellsOf 3) [v0, v1, v2, v3, v4, v5]) = some y0 := hff 0 _ rfl
        have g1 : DataW.trod enc Tryz.prog W 0 (fun _ => true) true k 3 (List.take (Tryz.prog.cellsOf 3) [v1, v2, v3, v4, v5]) = some y1 := hff 1 _ rfl
        have g2 : DataW.trod enc Tryz.prog W 0 (fun _ => true) true k 4 (List.take (Tryz.prog.cellsOf 4) [v2, v3, v4, v5]) = some y2 := hff 2 _ rfl
        have g3 : DataW.trod enc Tryz.prog W 0 (fun _ => true) true k 30 (List.take (Tryz.prog.cellsOf 30) [v3, v4, v5]) = some y3 := hff 3 _ rfl
        have g4 : DataW.trod enc Tryz.prog W 0 (fun _ => true) true k 31 (List.take (Tryz.prog.cellsOf 31) [v5]) = some y4 := hff 4 _ rfl
        rw [ci] at g0 g1
        rw [cb] at g2
        rw [hcn] at g3
        rw [cl] at g4
        simp only [List.take_succ_cons, List.take_zero] at g0 g1 g2 g3 g4
        have hDi : D i = .agg [y0.1, y1.1, y2.1, y3.1, y4.1] := by simpa using congrArg (·.1) hxy
        have hb4 : Rows.uptoBulk y4.1 ≤ 1048576 := by
          rw [hDi] at hDb
          simp only [Rows.uptoBulk, Rows.uptoBulkAll] at hDb
          omega
        obtain ⟨la, lc, ll, e5, lin, lnm, lle⟩ := ents_bulk g4 hb4
        obtain ⟨xs', k', hk', hxy', _, hxl', hff'⟩ := DataW.trod_struct Tryz.underlying30 g3
        match xs', hxl' with
        | [u0, u1], _ =>
          have g5 : DataW.trod enc Tryz.prog W 0 (fun _ => true) true k' 2 (List.take (Tryz.prog.cellsOf 2) [v3, v4]) = some u0 := hff' 0 _ rfl
          have g6 : DataW.trod enc Tryz.prog W 0 (fun _ => true) true k' 9 (List.take (Tryz.prog.cellsOf 9) [v4]) = some u1 := hff' 1 _ rfl
          rw [cu] at g5
          rw [cs] at g6
          simp only [List.take_succ_cons, List.take_zero] at g5 g6
          obtain ⟨k0, e0, _, w0⟩ := DataW.trod_int Tryz.underlying3 g0
          obtain ⟨k1, e1, _, w1⟩ := DataW.trod_int Tryz.underlying3 g1
          obtain ⟨k2, e2, _⟩ := DataW.trod_bool Tryz.underlying4 g2
          obtain ⟨k3, e3, _, w3⟩ := DataW.trod_int Tryz.underlying2 g5
          obtain ⟨s4, e4, _, w4⟩ := DataW.trod_string Tryz.underlying9 g6
          simp at e0 e1 e2 e3 e4
          subst e0 e1 e2 e3 e4 e5
          have r0 := hcell 0 (by omega)
          have r1 := hcell 1 (by omega)
          have r2 := hcell 2 (by omega)
          have r3 := hcell 3 (by omega)
          have r4 := hcell 4 (by omega)
          have r5 := hcell 5 (by omega)
          rw [Go.Deep.add_add] at r0 r1 r2 r3 r4 r5
          exact ⟨⟨k0, k1, k2, (k3, s4), la, ll.length, lc⟩, ⟨by simpa using r0, by simpa using r1, by simpa using r2, by simpa using r3, by simpa using r4, by simpa using r5⟩, by show s4.size ≤ _; omega, ll, rfl, lin, lnm, lle⟩
    haveI : Inhabited OpP := ⟨⟨0, 0, false, nE, none, 0, 0⟩⟩
    obtain ⟨q, hq⟩ := choose_belowE each
    refine ⟨some a, len, m, q, rfl, ?_, fun i hi => (hq i hi).2, by omega⟩
    rcases Nat.eq_zero_or_pos len with h0 | h0
    · exact Or.inl h0
    · right
      obtain ⟨b, off, spot⟩ := a
      have hspot : spot = none := by simpa [Addr.add] using World.cell?_spot (hq 0 h0).1.1
      subst hspot
      refine ⟨b, off, rfl, ?_, fun i hi => ?_⟩
      · have h' := (hq 0 h0).1.1
        rw [add_lt0] at h'
        exact blk_lt h'
      · obtain ⟨⟨r0, r1, r2, r3, r4, r5⟩, _⟩ := hq i hi
        rw [add_lt0] at r0 r1 r2 r3 r4 r5
        exact ⟨r0, by rw [Nat.add_assoc]; exact r1, by rw [Nat.add_assoc]; exact r2, by rw [Nat.add_assoc]; exact r3, by rw [Nat.add_assoc]; exact r4, by rw [Nat.add_assoc]; exact r5⟩
end Go.Proofs.YtboacnpbicedfaaGreatDoor.Hp
