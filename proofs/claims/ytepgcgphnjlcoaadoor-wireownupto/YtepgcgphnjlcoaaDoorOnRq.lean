
import Derived.Test.YtepgcgphnjlcoaaDoorWwRq
import Derived.Test.YtepgcgphnjlcoaaDoorBkXq
import Derived.ProofKit
import Derived.OpenShut
import Derived.Deep.SlicePairs
import Derived.Lib.SmallJoins
namespace Go.Proofs.YtepgcgphnjlcoaaDoor
open Go.ChangeShapes Go.WideShapes Go.ChangeAt Go.RowKit
set_option linter.unusedVariables false
set_option linter.unusedSimpArgs false
theorem clone_noneA (ad : Addr) (c : Nat) (w : World) : Calls Tryd.prog 28 #[.slice (some ad) 0 c] w fun e w' => (∃ g c', e = .returned (.slice (some ⟨g, 0, none⟩) 0 c') ∧ w.heap.size ≤ g ∧ g < w'.heap.size) ∧ Below w.heap.size w w' := by
  have hnil : ∀ w0 : World, (binOp .eql 23 (.slice (some ad) 0 c) (.slice none 0 0)).run Tryd.prog w0 = .ok (.bool false) w0 := fun w0 => Go.Lib.run_eql_slice_nil w0 23 5 (some ad) 0 c 0 0 Tryd.underlying23
  have hown : (w.alloc (.cells #[] 5)).ownsRow w.heap.size 5 1 (.slice (some ⟨w.heap.size, 0, none⟩) 0 0) 0 (enc []) := World.ownsRow_lit w #[] 0 (Nat.le_refl _) (by omega) (by simp)
  obtain ⟨g', c', w', hr, ho, hgrow, _⟩ := app_any2 w.heap.size w.heap.size 0 0 0 [] [] _ (some ad) c hown rfl (Or.inl rfl) (by omega) (by simp)
  have hB := below_grown (below_new (Below.refl _ w) (.cells #[] 5)) hgrow (fun k e => by injection e with e; omega)
  have hrH : Hid _ := hr
  have hgl := ho.lt g' rfl
  clear hr ho hgrow hown
  go_enter Tryd.func28, Tryd.ntmps28
  go_wp2_with (at_builtin; refine wpList_append_run2 (by rfl) _ _ _ _ (by rfl) _ _ _ _ (by rfl) (by rfl) hrH.out ?_)
  go_wp2_with fail
  go_ret
  exact ⟨⟨_, _, rfl, hgl.1, hgl.2⟩, hB⟩
theorem new_none (ad : Addr) (c : Nat) (bs : Nat → Nat) (w : World) : Calls Tryd.prog 9 #[.slice (some ad) 0 c] w fun e w' => ∃ N a cap, e = .returned (.pointer (some ⟨N, 0, none⟩)) ∧ w.heap.size ≤ N ∧ RR N w' a 0 cap bs 0 0 none w' ∧ Below w.heap.size w w' := by
  have hC : Hid (∀ w', Below w.heap.size w w' → _) := fun w' hb => clone_noneA ad c w'
  go_enter Tryd.func9, Tryd.ntmps9
  go_wp2_with fail
  refine Calls.mono (hC.out _ (Below.refl _ _)) ?_
  rintro e w2 ⟨⟨g, c', rfl, hg1, hg2⟩, hBe⟩
  have hRR : RR w2.heap.size (w2.alloc (.cells #[.slice (some ⟨g, 0, none⟩) 0 c', .int .i64 0, .int .i64 0, .nilIface] 97)) (some ⟨g, 0, none⟩) 0 c' bs 0 0 none (w2.alloc (.cells #[.slice (some ⟨g, 0, none⟩) 0 c', .int .i64 0, .int .i64 0, .nilIface] 97)) := by
    refine ⟨by simp [go_sem], by simp [go_sem], by simp [go_sem], by simp [go_sem, fvV], by simp [go_sem], by simp [go_sem], by simp [go_sem], Or.inl rfl, by omega, by omega, by omega, by omega, fun h => absurd rfl h, Below.refl _ _, by simp⟩
  have hRRH : Hid _ := hRR
  have hBe2 := hBe.size
  clear hRR
  go_wp2_with fail
  go_ret
  exact ⟨w2.heap.size, _, c', rfl, hBe2, hRRH.out, below_new hBe _⟩

theorem newR_in (ba : Option Addr) (bc : Nat) (L : List Nat) (w : World) (h : BytesIn w ba L.length (natsOf L)) (hc : ba = none → bc = 0) :
    Calls Tryd.prog 9 #[.slice ba L.length bc] w fun e w' => ∃ N a cap, e = .returned (.pointer (some ⟨N, 0, none⟩)) ∧ w.heap.size ≤ N ∧ RR N w' a L.length cap (natsOf L) 0 0 none w' ∧ Below w.heap.size w w' := by
  cases ba with
  | none =>
    have h0 : L.length = 0 := by
      rcases h.2 with h0 | ⟨_, _, e, _⟩
      · exact h0
      · cases e
    rw [hc rfl, h0]
    exact new_nil _ w
  | some ad =>
    rcases h.2 with h0 | ⟨b, off, e, hb, hB⟩
    · rw [h0]; exact new_none ad bc _ w
    · rw [e] at h ⊢
      exact new_ok b off _ bc _ w h
theorem bytes_bulk2 {H : Type} {enc : TypeId × Value → H} {t e : TypeId} {W : World} {v : Value} {y : DataW H × List MemPlace} {fuel : Nat}
    (ht : Tryd.prog.underlying t = some (.slice e)) (he : Tryd.prog.underlying e = some (.int .u8)) (hc : Tryd.prog.cellsOf e = 1)
    (hf : DataW.trod enc Tryd.prog W 0 (fun _ => true) true fuel t [v] = some y) (hbk : Rows.uptoBulk y.1 ≤ 1048576) :
    ∃ ba bc, ∃ L : List Nat, v = .slice ba L.length bc ∧ (ba = none → bc = 0) ∧ L.length ≤ 1048576 ∧ BytesIn W ba L.length (natsOf L) ∧ ∀ x ∈ L, x < 256 := by
  have hnone : ∀ c l, v = .slice none l c → c = 0 := by
    intro c l e
    rcases open_ints ht he hc hf with ⟨hcs, hx⟩ | ⟨a', len, cap, zs, hcs, _⟩
    · have e2 := (List.cons.inj hcs).1; exact (Value.slice.inj (e.symm.trans e2)).2.2
    · have e2 := (List.cons.inj hcs).1; cases (Value.slice.inj (e.symm.trans e2)).1
  obtain ⟨a, len, cap, bs, rfl, h1, h2⟩ := bytes_bulk ht he hc hf
  have h3 := h2 (by omega)
  have hl : (bytesL bs len).length = len := by simp [bytesL]
  refine ⟨a, cap, bytesL bs len, by rw [hl], fun e => hnone cap len (by rw [e]), by omega, ?_, ?_⟩
  · rw [hl]
    refine ⟨h3.1, ?_⟩
    rcases h3.2 with h0 | ⟨b, off, e, hb, hB⟩
    · exact Or.inl h0
    · exact Or.inr ⟨b, off, e, hb, fun i hi => by rw [nats_bytesL bs len i hi]; exact hB i hi⟩
  · rcases h3.2 with h0 | ⟨b, off, e, hb, hB⟩
    · subst h0; simp [bytesL]
    · exact bytesL_lt fun i hi => (hB i hi).2
set_option maxRecDepth 100000 in
/-- things to be written, as they are read. -/
theorem ops_read2 {H : Type} {enc : TypeId × Value → H} {W : World} {v : Value} {y : DataW H × List MemPlace} {fuel : Nat}
    (hf : DataW.trod enc Tryd.prog W 0 (fun _ => true) true fuel 22 [v] = some y) (hbk : Rows.uptoBulk y.1 ≤ 1048576) :
    ∃ a len cap o, v = .slice a len cap ∧ OpsAt W a len o ∧ len ≤ 9223372036854775807 ∧ mAll o len ≤ 67108864 ∧ len ≤ 1048576 ∧ ∀ i, i < len → -9223372036854775808 ≤ o.B i ∧ o.B i ≤ 9223372036854775807 := by
  rcases Go.Deep.open_slice Tryd.underlying22 hf with ⟨hcs, hx⟩ | ⟨a, len, cap, m, n, D, Pl, hcs, hb, hl, hm, hmm, hx, hall⟩
  · simp at hcs
    subst hcs
    exact ⟨none, 0, 0, ⟨fun _ => 0, fun _ => 0, fun _ => 0, fun _ => none, fun _ => 0, fun _ => 0, fun _ _ => 0⟩, rfl, Or.inl rfl, by omega, by simp [mAll], by omega, fun i hi => by omega⟩
  · simp at hcs
    subst hcs
    simp only [if_true] at hmm
    subst hmm
    have hce : Tryd.prog.cellsOf 62 = 4 := by kernel_rfl
    have hy1 : y.1 = .slice ((List.range len).map D) ((List.range (m - len)).map fun j => D (len + j)) := by rw [hx]
    have hbe : Rows.uptoBulkAll ((List.range len).map D) ≤ 1048576 := by
      rw [hy1] at hbk; simp only [Rows.uptoBulk] at hbk; omega
    have hlen0 : ∀ k, k ≤ Rows.uptoBulkAll ((List.range k).map D) := by
      intro k
      induction k with
      | zero => simp
      | succ k ih =>
        rw [List.range_succ, List.map_append, bulk_app]
        simp only [List.map_cons, List.map_nil, Rows.uptoBulkAll]
        have := bulk_pos (D k)
        omega
    have hll := hlen0 len
    have each : ∀ i, i < len → ∃ q : Int × Nat × Int × Option Addr × Nat × Nat × (Nat → Nat),
        (W.cell? (a.add (i * 4)) = some (.int .i64 q.1) ∧ W.cell? (a.add (i * 4 + 1)) = some (.int .u64 (q.2.1 : Int)) ∧ W.cell? (a.add (i * 4 + 2)) = some (.int .i64 q.2.2.1) ∧ W.cell? (a.add (i * 4 + 3)) = some (.slice q.2.2.2.1 q.2.2.2.2.1 q.2.2.2.2.2.1)) ∧ q.2.1 < 18446744073709551616 ∧ BytesIn W q.2.2.2.1 q.2.2.2.2.1 q.2.2.2.2.2.2 ∧ q.2.2.2.2.1 + 1 ≤ Rows.uptoBulk (D i) ∧ (-9223372036854775808 ≤ q.2.2.1 ∧ q.2.2.1 ≤ 9223372036854775807) := by
      intro i hi
      obtain ⟨cs', h1, h2⟩ := hall i (by omega)
      rw [hce] at h1
      obtain ⟨_, hlen, hcell⟩ := World.cells?_some h1
      obtain ⟨xs, k, hk, hxy, _, hxl, hff⟩ := DataW.trod_struct Tryd.underlying62 h2
      match xs, hxl, cs', hlen with
      | [y0, y1, y2, y3], _, [v0, v1, v2, v3], _ =>
        have ci : Tryd.prog.cellsOf 3 = 1 := by kernel_rfl
        have cu : Tryd.prog.cellsOf 60 = 1 := by kernel_rfl
        have cb : Tryd.prog.cellsOf 23 = 1 := by kernel_rfl
        have g0 : DataW.trod enc Tryd.prog W 0 (fun _ => true) true k 3 (List.take (Tryd.prog.cellsOf 3) [v0, v1, v2, v3]) = some y0 := hff 0 _ rfl
        have g1 : DataW.trod enc Tryd.prog W 0 (fun _ => true) true k 60 (List.take (Tryd.prog.cellsOf 60) [v1, v2, v3]) = some y1 := hff 1 _ rfl
        have g2 : DataW.trod enc Tryd.prog W 0 (fun _ => true) true k 3 (List.take (Tryd.prog.cellsOf 3) [v2, v3]) = some y2 := hff 2 _ rfl
        have g3 : DataW.trod enc Tryd.prog W 0 (fun _ => true) true k 23 (List.take (Tryd.prog.cellsOf 23) [v3]) = some y3 := hff 3 _ rfl
        rw [ci] at g0 g2
        rw [cu] at g1
        rw [cb] at g3
        simp only [List.take_succ_cons, List.take_zero] at g0 g1 g2 g3
        obtain ⟨k0, e0, _, _⟩ := DataW.trod_int Tryd.underlying3 g0
        obtain ⟨k1, e1, _, w1⟩ := DataW.trod_int Tryd.underlying60 g1
        obtain ⟨k2, e2, _, w2⟩ := DataW.trod_int Tryd.underlying3 g2
        obtain ⟨ba, bl, bc, bs, e3, hbb, hbin⟩ := bytes_bulk Tryd.underlying23 Tryd.underlying5 (by kernel_rfl) g3
        simp at e0 e1 e2
        subst e0 e1 e2 e3
        have r0 := hcell 0 (by omega)
        have r1 := hcell 1 (by omega)
        have r2 := hcell 2 (by omega)
        have r3 := hcell 3 (by omega)
        rw [Go.Deep.add_add] at r0 r1 r2 r3
        have hw1 := bounds_u64 w1
        have hDi : Rows.uptoBulk (D i) = Rows.uptoBulk y0.1 + (Rows.uptoBulk y1.1 + (Rows.uptoBulk y2.1 + (Rows.uptoBulk y3.1 + 0))) + 1 := by
          have : D i = .agg [y0.1, y1.1, y2.1, y3.1] := by simpa using congrArg (·.1) hxy
          rw [this]; simp [Rows.uptoBulk, Rows.uptoBulkAll]
        have hDb : Rows.uptoBulk (D i) ≤ 1048576 := by
          have hmem : ∀ (l : List (DataW H)) (d : DataW H), d ∈ l → Rows.uptoBulk d ≤ Rows.uptoBulkAll l := by
            intro l
            induction l with
            | nil => intro d hd; cases hd
            | cons z l ih => intro d hd; rcases List.mem_cons.1 hd with e | hd; subst e; simp [Rows.uptoBulkAll]; have := ih d hd; simp [Rows.uptoBulkAll]; omega
          exact Nat.le_trans (hmem _ _ (List.mem_map.2 ⟨i, List.mem_range.2 hi, rfl⟩)) hbe
        refine ⟨(k0, k1.toNat, k2, ba, bl, bc, bs), ⟨by simpa using r0, ?_, by simpa using r2, by simpa using r3⟩, show k1.toNat < _ by omega, hbin (by omega), show bl + 1 ≤ _ by omega, bounds_i64 w2⟩
        have ek : ((k1.toNat : Nat) : Int) = k1 := by omega
        simpa [ek] using r1
    obtain ⟨q, hq⟩ := choose_below each
    refine ⟨some a, len, m, ⟨fun i => (q i).1, fun i => (q i).2.1, fun i => (q i).2.2.1, fun i => (q i).2.2.2.1, fun i => (q i).2.2.2.2.1, fun i => (q i).2.2.2.2.2.1, fun i => (q i).2.2.2.2.2.2⟩, rfl, ?_, by have : maxLen = 9223372036854775807 := rfl; omega, ?_, by omega, fun i hi => (hq i hi).2.2.2.2⟩
    · rcases Nat.eq_zero_or_pos len with h0 | h0
      · exact Or.inl h0
      · right
        obtain ⟨b, off, spot⟩ := a
        have hspot : spot = none := by simpa [Addr.add] using World.cell?_spot (hq 0 h0).1.1
        subst hspot
        refine ⟨b, off, rfl, ?_, fun i hi => ?_⟩
        · have h' := (hq 0 h0).1.1
          rw [Go.WideShapes.add_plain] at h'
          rcases Nat.lt_or_ge b W.heap.size with h2 | h2
          · exact h2
          · simp [World.cell?, Array.getElem?_eq_none h2] at h'
        · obtain ⟨⟨c0, c1, c2, c3⟩, hx1, hB, _⟩ := hq i hi
          rw [Go.WideShapes.add_plain] at c0 c1 c2 c3
          rw [← Nat.add_assoc] at c1 c2 c3
          exact ⟨⟨c0, c1, c2, c3⟩, hx1, hB⟩
    · have := mAll_bulk ⟨fun i => (q i).1, fun i => (q i).2.1, fun i => (q i).2.2.1, fun i => (q i).2.2.2.1, fun i => (q i).2.2.2.2.1, fun i => (q i).2.2.2.2.2.1, fun i => (q i).2.2.2.2.2.2⟩ D len (fun i hi => (hq i hi).2.2.2.1)
      omega
end Go.Proofs.YtepgcgphnjlcoaaDoor
