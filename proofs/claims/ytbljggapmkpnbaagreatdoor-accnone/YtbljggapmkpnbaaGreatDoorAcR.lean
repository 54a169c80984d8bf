
import Derived.Test.YtbljggapmkpnbaaGreatDoorAcC
import Derived.ProofKit
import Derived.OpenShut
import Derived.Carry
import Derived.Deep.SlicePairs
import Derived.Lib.SmallJoins
namespace Go.Proofs.YtbljggapmkpnbaaGreatDoor.Ac
open Go.ChangeShapes Go.WideShapes Go.ChangeAt Go.RowKit Hp
set_option linter.unusedVariables false
set_option linter.unusedSimpArgs false
set_option maxRecDepth 100000
theorem choose_belowA {α : Type} [Inhabited α] {p : Nat → α → Prop} {m : Nat} (h : ∀ i, i < m → ∃ x, p i x) : ∃ f : Nat → α, ∀ i, i < m → p i (f i) :=
  ⟨fun i => if hi : i < m then Classical.choose (h i hi) else default, fun i hi => by simp only [hi, dif_pos]; exact Classical.choose_spec (h i hi)⟩
/-- calls, as they are read. -/
theorem sq_read {H : Type} {enc : TypeId × Value → H} {W : World} {v : Value} {y : DataW H × List MemPlace} {fuel : Nat}
    (hf : DataW.trod enc Tryz.prog W 0 (fun _ => true) true fuel 22 [v] = some y) :
    ∃ a len cap st, v = .slice a len cap ∧ SqIn W a len st ∧ len ≤ 9223372036854775807 := by
  have hml : maxLen = 9223372036854775807 := by decide
  rcases Go.Deep.open_slice Tryz.underlying22 hf with ⟨hcs, hx⟩ | ⟨a, len, cap, m, n, D, Pl, hcs, hb, hl, hm, hmm, hx, hall⟩
  · simp at hcs
    subst hcs
    exact ⟨none, 0, 0, fun _ => ⟨0, ⟨#[]⟩, 0, 0⟩, rfl, Or.inl rfl, by omega⟩
  · simp at hcs
    subst hcs
    simp only [if_true] at hmm
    subst hmm
    have hce : Tryz.prog.cellsOf 27 = 4 := by kernel_rfl
    have each : ∀ i, i < len → ∃ q : StQ, W.cell? (a.add (i * 4)) = some (.int .i64 q.k) ∧ W.cell? (a.add (i * 4 + 1)) = some (.string q.s) ∧ W.cell? (a.add (i * 4 + 2)) = some (.int .i64 q.t) ∧ W.cell? (a.add (i * 4 + 3)) = some (.int .i64 q.n) := by
      intro i hi
      obtain ⟨cs', h1, h2⟩ := hall i (by omega)
      rw [hce] at h1
      obtain ⟨_, hlen, hcell⟩ := World.cells?_some h1
      obtain ⟨xs, k, hk, hxy, _, hxl, hff⟩ := DataW.trod_struct Tryz.underlying27 h2
      match xs, hxl, cs', hlen with
      | [y0, y1, y2, y3], _, [v0, v1, v2, v3], _ =>
        have cs : Tryz.prog.cellsOf 9 = 1 := by kernel_rfl
        have cu : Tryz.prog.cellsOf 2 = 1 := by kernel_rfl
        have ci : Tryz.prog.cellsOf 3 = 1 := by kernel_rfl
        have g0 : DataW.trod enc Tryz.prog W 0 (fun _ => true) true k 3 (List.take (Tryz.prog.cellsOf 3) [v0, v1, v2, v3]) = some y0 := hff 0 _ rfl
        have g1 : DataW.trod enc Tryz.prog W 0 (fun _ => true) true k 9 (List.take (Tryz.prog.cellsOf 9) [v1, v2, v3]) = some y1 := hff 1 _ rfl
        have g2 : DataW.trod enc Tryz.prog W 0 (fun _ => true) true k 2 (List.take (Tryz.prog.cellsOf 2) [v2, v3]) = some y2 := hff 2 _ rfl
        have g3 : DataW.trod enc Tryz.prog W 0 (fun _ => true) true k 2 (List.take (Tryz.prog.cellsOf 2) [v3]) = some y3 := hff 3 _ rfl
        rw [ci] at g0
        rw [cs] at g1
        rw [cu] at g2 g3
        simp only [List.take_succ_cons, List.take_zero] at g0 g1 g2 g3
        obtain ⟨k0, e0, _, w0⟩ := DataW.trod_int Tryz.underlying3 g0
        obtain ⟨s1, e1, _, w1⟩ := DataW.trod_string Tryz.underlying9 g1
        obtain ⟨k2, e2, _, w2⟩ := DataW.trod_int Tryz.underlying2 g2
        obtain ⟨k3, e3, _, w3⟩ := DataW.trod_int Tryz.underlying2 g3
        simp at e0 e1 e2 e3
        subst e0 e1 e2 e3
        have r0 := hcell 0 (by omega)
        have r1 := hcell 1 (by omega)
        have r2 := hcell 2 (by omega)
        have r3 := hcell 3 (by omega)
        rw [Go.Deep.add_add] at r0 r1 r2 r3
        exact ⟨⟨k0, s1, k2, k3⟩, by simpa using r0, by simpa using r1, by simpa using r2, by simpa using r3⟩
    haveI : Inhabited StQ := ⟨⟨0, ⟨#[]⟩, 0, 0⟩⟩
    obtain ⟨q, hq⟩ := choose_belowA each
    refine ⟨some a, len, m, q, rfl, ?_, by omega⟩
    rcases Nat.eq_zero_or_pos len with h0 | h0
    · exact Or.inl h0
    · right
      obtain ⟨b, off, spot⟩ := a
      have hspot : spot = none := by simpa [Addr.add] using World.cell?_spot (hq 0 h0).1
      subst hspot
      refine ⟨b, off, rfl, ?_, fun i hi => ?_⟩
      · have h' := (hq 0 h0).1
        rw [add_lt0] at h'
        rcases Nat.lt_or_ge b W.heap.size with h2 | h2
        · exact h2
        · simp [World.cell?, Array.getElem?_eq_none h2] at h'
      · obtain ⟨r0, r1, r2, r3⟩ := hq i hi
        rw [add_lt0] at r0 r1 r2 r3
        exact ⟨r0, by rw [Nat.add_assoc]; exact r1, by rw [Nat.add_assoc]; exact r2, by rw [Nat.add_assoc]; exact r3⟩
end Go.Proofs.YtbljggapmkpnbaaGreatDoor.Ac
