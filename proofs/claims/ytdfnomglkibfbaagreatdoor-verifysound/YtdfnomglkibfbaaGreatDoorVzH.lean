
import Derived.Test.YtdfnomglkibfbaaGreatDoorVzD
import Derived.ProofKit
import Derived.OpenShut
import Derived.Carry
import Derived.Deep.SlicePairs
import Derived.Lib.SmallJoins
import Derived.Lib.LaidU8
import Derived.Test.YtdfnomglkibfbaaGreatDoorVzC
import Derived.Test.YtdfnomglkibfbaaGreatDoorVzG
import Derived.BigQuiet
import Derived.Test.YtdfnomglkibfbaaGreatDoorVkPq
import Derived.Test.YtdfnomglkibfbaaGreatDoorVzE
import Derived.Test.YtdfnomglkibfbaaGreatDoorRows
import Derived.Test.YtdfnomglkibfbaaGreatDoorCards
import Derived.Test.YtdfnomglkibfbaaGreatDoorTie
import Derived.LaidMore
import Derived.LaidHandle
import Derived.Stop.Joined
import Derived.SevenTiedAt
import Derived.PinnedBridge
import Derived.Lay
import Derived.Lib.LaidU8T
import Derived.Lib.LaidIn
namespace Go.Proofs.YtdfnomglkibfbaaGreatDoor.Vf
open Go.ChangeShapes Go.WideShapes Go.ChangeAt Go.RowKit Go.Joins
set_option linter.unusedVariables false
set_option linter.unusedSimpArgs false
set_option maxRecDepth 100000
theorem RT_of_reads {W : World} (h : Lib.VarReads Tryz.prog W "weir/verify.rows" Rows.laid_weir_verify_rows) : RT W := by
  obtain ⟨g, t, cs, fuel, p, hg, ht, hvar, hd⟩ := h
  obtain rfl := Option.some.inj (rows_global.symm.trans hg)
  obtain rfl := Option.some.inj (rows_type.symm.trans ht)
  obtain ⟨xs, m, hk, hx, hcl, hxl, hff⟩ := DataW.trod_array Tryz.underlying250 hd
  rw [rows_cells] at hcl
  simp only [rows_cell] at hff
  have hx1 := congrArg (·.1) hx
  rw [laid_rows] at hx1
  have hx2 : rowsL.map rowD = xs.map (·.1) := by simpa using hx1
  intro c hc j hj
  have hxc : c < xs.length := by omega
  have e1 := hff c hc
  rw [List.getElem?_eq_getElem hxc] at e1
  have e2 : (xs[c]).1 = rowD (rowF c) := by
    have a := congrArg (fun l => l[c]?) hx2
    simp only [List.getElem?_map] at a
    rw [List.getElem?_eq_getElem hxc] at a
    have hrl : c < rowsL.length := by simpa [rowsL] using hc
    rw [List.getElem?_eq_getElem hrl] at a
    simp only [Option.map_some, Option.some.injEq] at a
    rw [← a]
    unfold rowF
    rw [List.getD_eq_getElem?_getD, List.getElem?_eq_getElem hrl]; rfl
  have e3 := row_trod e1 e2
  have h0 := World.var?_cell rows_global hvar (c * 6 + j)
  rw [h0, ← e3, List.getElem?_take_of_lt hj, List.getElem?_drop]
  simp
theorem weightsAll_mem {H : Type} {P : Program} {e : TypeId} {k : Nat} : ∀ {l : List (DataW H)} {d : DataW H}, d ∈ l → k ∈ d.weights P e → k ∈ DataW.weightsAll P e l
  | x :: r, d, hd, hk => by
    unfold DataW.weightsAll
    rcases List.mem_cons.1 hd with rfl | hd
    · exact List.mem_append_left _ hk
    · exact List.mem_append_right _ (weightsAll_mem hd hk)
theorem add_at (b off i : Nat) : (⟨b, off, none⟩ : Addr).add i = ⟨b, off + i, none⟩ := by unfold Addr.add; split <;> simp_all
/-- a slice, as it is read: c cells an element, each as Q says. -/
theorem sl_read {H : Type} {enc : TypeId × Value → H} {W : World} {v : Value} {y : DataW H × List MemPlace} {fuel : Nat} {T E : TypeId} {α : Type} [Inhabited α]
    (hu : Tryz.prog.underlying T = some (.slice E)) (c : Nat) (hce : Tryz.prog.cellsOf E = c) (hc0 : 0 < c) (hby : 1 ≤ Tryz.prog.bytesOf E) (Q : α → List Value → Prop)
    (hf : DataW.trod enc Tryz.prog W 0 (fun _ => true) true fuel T [v] = some y) (hw : ∀ k ∈ y.1.weights Tryz.prog T, k ≤ reachBytes)
    (hel : ∀ n cs' z, DataW.trod enc Tryz.prog W 0 (fun _ => true) true n E cs' = some z → cs'.length = c → (∀ k ∈ z.1.weights Tryz.prog E, k ≤ reachBytes) → ∃ x : α, Q x cs') :
    ∃ a l cap, v = .slice a l.length cap ∧ (l = [] ∨ ∃ b off, a = some ⟨b, off, none⟩ ∧ b < W.heap.size ∧ ∀ i t, l[i]? = some t → ∃ cs', Q t cs' ∧ cs'.length = c ∧ ∀ j, j < c → W.cell? ⟨b, off + i * c + j, none⟩ = cs'[j]?) ∧ l.length ≤ 1152921504606846976 := by
  rcases Go.Deep.open_slice hu hf with ⟨hcs, hx⟩ | ⟨a, len, cap, m, n, D, Pl, hcs, hb, hl, hm, hmm, hx, hall⟩
  · simp at hcs
    subst hcs
    exact ⟨none, [], 0, rfl, Or.inl rfl, by simp⟩
  · simp at hcs
    subst hcs
    simp only [if_true] at hmm
    subst hmm
    have hd : y.1 = .slice ((List.range len).map D) ((List.range (m - len)).map fun j => D (len + j)) := congrArg (·.1) hx
    have hlen : len ≤ 1152921504606846976 := by
      have h1 := hw ((((List.range len).map D).length + ((List.range (m - len)).map fun j => D (len + j)).length) * Tryz.prog.bytesOf E) (by rw [hd]; simp [DataW.weights, hu])
      rw [List.length_map, List.length_map, List.length_range, List.length_range] at h1
      have h2 : reachBytes = 140737488351232 := by decide
      have h3 : len ≤ (len + (m - len)) * Tryz.prog.bytesOf E := Nat.le_trans (by omega) (Nat.le_mul_of_pos_right _ hby)
      omega
    have each : ∀ i, i < len → ∃ x : α, ∃ cs', Q x cs' ∧ cs'.length = c ∧ ∀ j, j < c → W.cell? (a.add (i * c + j)) = cs'[j]? := by
      intro i hi
      obtain ⟨cs', h1, h2⟩ := hall i (by omega)
      rw [hce] at h1
      obtain ⟨_, hlen', hcell⟩ := World.cells?_some h1
      obtain ⟨x, hx'⟩ := hel n cs' _ h2 hlen' (fun k hk => hw k (by
        rw [hd]
        unfold DataW.weights
        rw [hu]
        exact List.mem_cons_of_mem _ (List.mem_append_left _ (weightsAll_mem (List.mem_map.2 ⟨i, List.mem_range.2 hi, rfl⟩) hk))))
      refine ⟨x, cs', hx', hlen', fun j hj => ?_⟩
      have := hcell j (by omega)
      rw [Go.Deep.add_add] at this
      exact this
    obtain ⟨g, hg⟩ : ∃ g : Nat → α, ∀ i, i < len → ∃ cs', Q (g i) cs' ∧ cs'.length = c ∧ ∀ j, j < c → W.cell? (a.add (i * c + j)) = cs'[j]? := ⟨fun i => if hi : i < len then Classical.choose (each i hi) else default, fun i hi => by simp only [hi, dif_pos]; exact Classical.choose_spec (each i hi)⟩
    refine ⟨some a, (List.range len).map g, m, by simp, ?_, by simpa using hlen⟩
    rcases Nat.eq_zero_or_pos len with h0 | h0
    · exact Or.inl (by rw [h0]; rfl)
    · right
      obtain ⟨b, off, spot⟩ := a
      obtain ⟨cs0, _, l0, k0⟩ := hg 0 h0
      have k00 := k0 0 hc0
      obtain ⟨v0, hv0⟩ : ∃ v0, cs0[0]? = some v0 := ⟨_, List.getElem?_eq_getElem (by omega)⟩
      rw [hv0] at k00
      have hspot : spot = none := by simpa [Addr.add] using World.cell?_spot k00
      subst hspot
      refine ⟨b, off, rfl, ?_, fun i t ht => ?_⟩
      · rw [add_at] at k00
        exact World.block_lt_of_cell? _ _ k00
      · rw [List.getElem?_map, Option.map_eq_some_iff] at ht
        obtain ⟨i', hi', rfl⟩ := ht
        have hlt := (List.getElem?_eq_some_iff.1 hi').1
        rw [List.length_range] at hlt
        rw [List.getElem?_range hlt] at hi'
        injection hi' with hi'
        subst hi'
        obtain ⟨cs', q1, q2, q3⟩ := hg i hlt
        refine ⟨cs', q1, q2, fun j hj => ?_⟩
        have := q3 j hj
        rw [add_at] at this
        rw [Nat.add_assoc]
        exact this
theorem strs_read {H : Type} {enc : TypeId × Value → H} {W : World} {v : Value} {y : DataW H × List MemPlace} {fuel : Nat}
    (hf : DataW.trod enc Tryz.prog W 0 (fun _ => true) true fuel 22 [v] = some y) (hw : ∀ k ∈ y.1.weights Tryz.prog 22, k ≤ reachBytes) :
    ∃ a l cap, v = .slice a l.length cap ∧ StIn W a l ∧ l.length ≤ 1152921504606846976 := by
  haveI : Inhabited ByteArray := ⟨⟨#[]⟩⟩
  obtain ⟨a, l, cap, h1, h2, h3⟩ := sl_read (α := ByteArray) Tryz.underlying22 1 (by kernel_rfl) (by omega) (of_decide_eq_true (by kernel_rfl)) (fun s cs => cs = [.string s]) hf hw (fun n cs' z hz hl _ => by
    match cs', hl with
    | [v], _ =>
      obtain ⟨s, e, _⟩ := DataW.trod_string Tryz.underlying9 hz
      exact ⟨s, e⟩)
  refine ⟨a, l, cap, h1, ?_, h3⟩
  rcases h2 with h2 | ⟨b, off, e1, e2, e3⟩
  · exact Or.inl h2
  · refine Or.inr ⟨b, off, e1, e2, fun i t ht => ?_⟩
    obtain ⟨cs', q1, q2, q3⟩ := e3 i t ht
    have := q3 0 (by omega)
    rw [q1] at this
    simpa using this
theorem accs_read {H : Type} {enc : TypeId × Value → H} {W : World} {v : Value} {y : DataW H × List MemPlace} {fuel : Nat}
    (hf : DataW.trod enc Tryz.prog W 0 (fun _ => true) true fuel 23 [v] = some y) (hw : ∀ k ∈ y.1.weights Tryz.prog 23, k ≤ reachBytes) :
    ∃ a l cap, v = .slice a l.length cap ∧ AcIn W a l ∧ l.length ≤ 1152921504606846976 := by
  haveI : Inhabited AcP := ⟨(0, ⟨#[]⟩)⟩
  obtain ⟨a, l, cap, h1, h2, h3⟩ := sl_read (α := AcP) Tryz.underlying23 2 (by kernel_rfl) (by omega) (of_decide_eq_true (by kernel_rfl)) (fun s cs => cs = [.int .u8 (s.1 : Int), .string s.2]) hf hw (fun n cs' z hz hl _ => by
    obtain ⟨xs, k, hk, hxy, _, hxl, hff⟩ := DataW.trod_struct Tryz.underlying55 hz
    match xs, hxl, cs', hl with
    | [y0, y1], _, [v0, v1], _ =>
      have cs : Tryz.prog.cellsOf 9 = 1 := by kernel_rfl
      have cu : Tryz.prog.cellsOf 53 = 1 := by kernel_rfl
      have g0 : DataW.trod enc Tryz.prog W 0 (fun _ => true) true k 53 (List.take (Tryz.prog.cellsOf 53) [v0, v1]) = some y0 := hff 0 _ rfl
      have g1 : DataW.trod enc Tryz.prog W 0 (fun _ => true) true k 9 (List.take (Tryz.prog.cellsOf 9) [v1]) = some y1 := hff 1 _ rfl
      rw [cu] at g0
      rw [cs] at g1
      simp only [List.take_succ_cons, List.take_zero] at g0 g1
      obtain ⟨k0, e0, _, w0⟩ := DataW.trod_int Tryz.underlying53 g0
      obtain ⟨s1, e1, _, w1⟩ := DataW.trod_string Tryz.underlying9 g1
      simp at e0 e1
      subst e0 e1
      have wb := bounds_u8 w0
      exact ⟨(k0.toNat, s1), by simp only; rw [Int.toNat_of_nonneg (by omega)]⟩)
  refine ⟨a, l, cap, h1, ?_, h3⟩
  rcases h2 with h2 | ⟨b, off, e1, e2, e3⟩
  · exact Or.inl h2
  · refine Or.inr ⟨b, off, e1, e2, fun i t ht => ?_⟩
    obtain ⟨cs', q1, q2, q3⟩ := e3 i t ht
    have r0 := q3 0 (by omega)
    have r1 := q3 1 (by omega)
    rw [q1] at r0 r1
    exact ⟨by simpa using r0, by simpa using r1⟩
theorem ins_read {H : Type} {enc : TypeId × Value → H} {W : World} {v : Value} {y : DataW H × List MemPlace} {fuel : Nat}
    (hf : DataW.trod enc Tryz.prog W 0 (fun _ => true) true fuel 26 [v] = some y) (hw : ∀ k ∈ y.1.weights Tryz.prog 26, k ≤ reachBytes) :
    ∃ a l cap, v = .slice a l.length cap ∧ InIn W a l ∧ l.length ≤ 1152921504606846976 ∧ ∀ (j : Nat) (t : InP), l[j]? = some t → t.c < 256 := by
  haveI : Inhabited InP := ⟨⟨0, 0, 0⟩⟩
  obtain ⟨a, l, cap, h1, h2, h3⟩ := sl_read (α := InP) Tryz.underlying26 3 (by kernel_rfl) (by omega) (of_decide_eq_true (by kernel_rfl)) (fun s cs => cs = [.int .u8 (s.c : Int), .int .i64 s.a, .int .i64 s.b] ∧ s.c < 256) hf hw (fun n cs' z hz hl _ => by
    obtain ⟨xs, k, hk, hxy, _, hxl, hff⟩ := DataW.trod_struct Tryz.underlying59 hz
    match xs, hxl, cs', hl with
    | [y0, y1, y2], _, [v0, v1, v2], _ =>
      have ci : Tryz.prog.cellsOf 3 = 1 := by kernel_rfl
      have cu : Tryz.prog.cellsOf 57 = 1 := by kernel_rfl
      have g0 : DataW.trod enc Tryz.prog W 0 (fun _ => true) true k 57 (List.take (Tryz.prog.cellsOf 57) [v0, v1, v2]) = some y0 := hff 0 _ rfl
      have g1 : DataW.trod enc Tryz.prog W 0 (fun _ => true) true k 3 (List.take (Tryz.prog.cellsOf 3) [v1, v2]) = some y1 := hff 1 _ rfl
      have g2 : DataW.trod enc Tryz.prog W 0 (fun _ => true) true k 3 (List.take (Tryz.prog.cellsOf 3) [v2]) = some y2 := hff 2 _ rfl
      rw [cu] at g0
      rw [ci] at g1 g2
      simp only [List.take_succ_cons, List.take_zero] at g0 g1 g2
      obtain ⟨k0, e0, _, w0⟩ := DataW.trod_int Tryz.underlying57 g0
      obtain ⟨k1, e1, _, w1⟩ := DataW.trod_int Tryz.underlying3 g1
      obtain ⟨k2, e2, _, w2⟩ := DataW.trod_int Tryz.underlying3 g2
      simp at e0 e1 e2
      subst e0 e1 e2
      have wb := bounds_u8 w0
      exact ⟨⟨k0.toNat, k1, k2⟩, by simp only; rw [Int.toNat_of_nonneg (by omega)], by simp only; omega⟩)
  refine ⟨a, l, cap, h1, ?_, h3, fun j t ht => ?_⟩
  · rcases h2 with h2 | ⟨b, off, e1, e2, e3⟩
    · exact Or.inl h2
    · refine Or.inr ⟨b, off, e1, e2, fun i t ht => ?_⟩
      obtain ⟨cs', q1, q2, q3⟩ := e3 i t ht
      have r0 := q3 0 (by omega)
      have r1 := q3 1 (by omega)
      have r2 := q3 2 (by omega)
      rw [q1.1] at r0 r1 r2
      exact ⟨by simpa using r0, by simpa using r1, by simpa using r2⟩
  · rcases h2 with h2 | ⟨b, off, e1, e2, e3⟩
    · rw [h2] at ht; simp at ht
    · obtain ⟨cs', q1, q2, q3⟩ := e3 j t ht
      exact q1.2
theorem lists_read {H : Type} {enc : TypeId × Value → H} {W : World} {v : Value} {y : DataW H × List MemPlace} {fuel : Nat}
    (hf : DataW.trod enc Tryz.prog W 0 (fun _ => true) true fuel 24 [v] = some y) (hw : ∀ k ∈ y.1.weights Tryz.prog 24, k ≤ reachBytes) :
    ∃ a l cap, v = .slice a l.length cap ∧ LsIn W a l ∧ l.length ≤ 1152921504606846976 := by
  obtain ⟨a, l, cap, h1, h2, h3⟩ := sl_read (α := List ByteArray) Tryz.underlying24 1 (by kernel_rfl) (by omega) (of_decide_eq_true (by kernel_rfl)) (fun s cs => s.length ≤ 1152921504606846976 ∧ ∃ x c, cs = [.slice x s.length c] ∧ StIn W x s) hf hw (fun n cs' z hz hl hzw => by
    match cs', hl with
    | [v], _ =>
      obtain ⟨x, s, c, e1, e2, e3⟩ := strs_read hz hzw
      exact ⟨s, e3, x, c, by rw [e1], e2⟩)
  refine ⟨a, l, cap, h1, ?_, h3⟩
  rcases h2 with h2 | ⟨b, off, e1, e2, e3⟩
  · exact Or.inl h2
  · refine Or.inr ⟨b, off, e1, e2, fun i t ht => ?_⟩
    obtain ⟨cs', ⟨q0, x, c, q1, q4⟩, q2, q3⟩ := e3 i t ht
    have := q3 0 (by omega)
    rw [q1] at this
    exact ⟨q0, x, c, by simpa using this, q4⟩
theorem ints_any {H : Type} {enc : TypeId × Value → H} {W : World} {v : Value} {y : DataW H × List MemPlace} {fuel : Nat}
    (hf : DataW.trod enc Tryz.prog W 0 (fun _ => true) true fuel 25 [v] = some y) : ∃ a n cap, v = .slice a n cap := by
  rcases Go.Deep.open_slice Tryz.underlying25 hf with ⟨hcs, hx⟩ | ⟨a, len, cap, m, n, D, Pl, hcs, _⟩
  · simp at hcs; exact ⟨_, _, _, hcs⟩
  · simp at hcs; exact ⟨_, _, _, hcs⟩
theorem len14 {α : Type} : ∀ {l : List α}, l.length = 14 → ∃ a0 a1 a2 a3 a4 a5 a6 a7 a8 a9 a10 a11 a12 a13, l = [a0, a1, a2, a3, a4, a5, a6, a7, a8, a9, a10, a11, a12, a13]
  | [a0, a1, a2, a3, a4, a5, a6, a7, a8, a9, a10, a11, a12, a13], _ => ⟨a0, a1, a2, a3, a4, a5, a6, a7, a8, a9, a10, a11, a12, a13, rfl⟩
/-- a program by value, opened. -/
theorem prog_open {H : Type} {enc : TypeId × Value → H} {W : World} {v : Value} {b0 : Nat} {d : DataW H} {p : List MemPlace} (hv : Value.okWide Tryz.prog W .any b0 28 v) (h : DataW.Trod enc Tryz.prog W 0 (fun _ => true) true 28 v d p) :
    ∃ (c0 c1 c2 c3 c4 c5 c6 c7 c8 c9 c10 c11 c12 c13 : Value) (y0 y1 y2 y3 y4 y5 y6 y7 y8 y9 y10 y11 y12 y13 : DataW H × List MemPlace) (n : Nat), v = .agg #[c0, c1, c2, c3, c4, c5, c6, c7, c8, c9, c10, c11, c12, c13] ∧ d = .agg [y0.1, y1.1, y2.1, y3.1, y4.1, y5.1, y6.1, y7.1, y8.1, y9.1, y10.1, y11.1, y12.1, y13.1] ∧ DataW.trod enc Tryz.prog W 0 (fun _ => true) true n 9 [c0] = some y0 ∧ DataW.trod enc Tryz.prog W 0 (fun _ => true) true n 9 [c1] = some y1 ∧ DataW.trod enc Tryz.prog W 0 (fun _ => true) true n 2 [c2] = some y2 ∧ DataW.trod enc Tryz.prog W 0 (fun _ => true) true n 2 [c3] = some y3 ∧ DataW.trod enc Tryz.prog W 0 (fun _ => true) true n 22 [c4] = some y4 ∧ DataW.trod enc Tryz.prog W 0 (fun _ => true) true n 23 [c5] = some y5 ∧ DataW.trod enc Tryz.prog W 0 (fun _ => true) true n 22 [c6] = some y6 ∧ DataW.trod enc Tryz.prog W 0 (fun _ => true) true n 22 [c7] = some y7 ∧ DataW.trod enc Tryz.prog W 0 (fun _ => true) true n 22 [c8] = some y8 ∧ DataW.trod enc Tryz.prog W 0 (fun _ => true) true n 24 [c9] = some y9 ∧ DataW.trod enc Tryz.prog W 0 (fun _ => true) true n 25 [c10] = some y10 ∧ DataW.trod enc Tryz.prog W 0 (fun _ => true) true n 25 [c11] = some y11 ∧ DataW.trod enc Tryz.prog W 0 (fun _ => true) true n 26 [c12] = some y12 ∧ DataW.trod enc Tryz.prog W 0 (fun _ => true) true n 26 [c13] = some y13 := by
  obtain ⟨cs, rfl, hsz⟩ := okWide_struct Tryz.underlying28 hv
  have hC : Tryz.prog.cellsOf 28 = 14 := by kernel_rfl
  obtain ⟨c0, c1, c2, c3, c4, c5, c6, c7, c8, c9, c10, c11, c12, c13, hcs⟩ := len14 (l := cs.toList) (by rw [Array.length_toList]; exact hsz.trans hC)
  obtain rfl : cs = #[c0, c1, c2, c3, c4, c5, c6, c7, c8, c9, c10, c11, c12, c13] := by cases cs; simp_all
  obtain ⟨fuel, hf⟩ := h
  obtain ⟨xs, n, _, hx, _, hlen, hff⟩ := DataW.trod_struct Tryz.underlying28 hf
  have hl14 : xs.length = 14 := hlen
  obtain ⟨y0, y1, y2, y3, y4, y5, y6, y7, y8, y9, y10, y11, y12, y13, rfl⟩ := len14 hl14
  have k0 : Tryz.prog.cellsOf 9 = 1 := by kernel_rfl
  have k1 : Tryz.prog.cellsOf 9 = 1 := by kernel_rfl
  have k2 : Tryz.prog.cellsOf 2 = 1 := by kernel_rfl
  have k3 : Tryz.prog.cellsOf 2 = 1 := by kernel_rfl
  have k4 : Tryz.prog.cellsOf 22 = 1 := by kernel_rfl
  have k5 : Tryz.prog.cellsOf 23 = 1 := by kernel_rfl
  have k6 : Tryz.prog.cellsOf 22 = 1 := by kernel_rfl
  have k7 : Tryz.prog.cellsOf 22 = 1 := by kernel_rfl
  have k8 : Tryz.prog.cellsOf 22 = 1 := by kernel_rfl
  have k9 : Tryz.prog.cellsOf 24 = 1 := by kernel_rfl
  have k10 : Tryz.prog.cellsOf 25 = 1 := by kernel_rfl
  have k11 : Tryz.prog.cellsOf 25 = 1 := by kernel_rfl
  have k12 : Tryz.prog.cellsOf 26 = 1 := by kernel_rfl
  have k13 : Tryz.prog.cellsOf 26 = 1 := by kernel_rfl
  have g0 : DataW.trod enc Tryz.prog W 0 (fun _ => true) true n 9 (List.take (Tryz.prog.cellsOf 9) [c0, c1, c2, c3, c4, c5, c6, c7, c8, c9, c10, c11, c12, c13]) = some y0 := hff 0 _ rfl
  rw [k0] at g0
  simp only [List.take_succ_cons, List.take_zero] at g0
  have g1 : DataW.trod enc Tryz.prog W 0 (fun _ => true) true n 9 (List.take (Tryz.prog.cellsOf 9) [c1, c2, c3, c4, c5, c6, c7, c8, c9, c10, c11, c12, c13]) = some y1 := hff 1 _ rfl
  rw [k1] at g1
  simp only [List.take_succ_cons, List.take_zero] at g1
  have g2 : DataW.trod enc Tryz.prog W 0 (fun _ => true) true n 2 (List.take (Tryz.prog.cellsOf 2) [c2, c3, c4, c5, c6, c7, c8, c9, c10, c11, c12, c13]) = some y2 := hff 2 _ rfl
  rw [k2] at g2
  simp only [List.take_succ_cons, List.take_zero] at g2
  have g3 : DataW.trod enc Tryz.prog W 0 (fun _ => true) true n 2 (List.take (Tryz.prog.cellsOf 2) [c3, c4, c5, c6, c7, c8, c9, c10, c11, c12, c13]) = some y3 := hff 3 _ rfl
  rw [k3] at g3
  simp only [List.take_succ_cons, List.take_zero] at g3
  have g4 : DataW.trod enc Tryz.prog W 0 (fun _ => true) true n 22 (List.take (Tryz.prog.cellsOf 22) [c4, c5, c6, c7, c8, c9, c10, c11, c12, c13]) = some y4 := hff 4 _ rfl
  rw [k4] at g4
  simp only [List.take_succ_cons, List.take_zero] at g4
  have g5 : DataW.trod enc Tryz.prog W 0 (fun _ => true) true n 23 (List.take (Tryz.prog.cellsOf 23) [c5, c6, c7, c8, c9, c10, c11, c12, c13]) = some y5 := hff 5 _ rfl
  rw [k5] at g5
  simp only [List.take_succ_cons, List.take_zero] at g5
  have g6 : DataW.trod enc Tryz.prog W 0 (fun _ => true) true n 22 (List.take (Tryz.prog.cellsOf 22) [c6, c7, c8, c9, c10, c11, c12, c13]) = some y6 := hff 6 _ rfl
  rw [k6] at g6
  simp only [List.take_succ_cons, List.take_zero] at g6
  have g7 : DataW.trod enc Tryz.prog W 0 (fun _ => true) true n 22 (List.take (Tryz.prog.cellsOf 22) [c7, c8, c9, c10, c11, c12, c13]) = some y7 := hff 7 _ rfl
  rw [k7] at g7
  simp only [List.take_succ_cons, List.take_zero] at g7
  have g8 : DataW.trod enc Tryz.prog W 0 (fun _ => true) true n 22 (List.take (Tryz.prog.cellsOf 22) [c8, c9, c10, c11, c12, c13]) = some y8 := hff 8 _ rfl
  rw [k8] at g8
  simp only [List.take_succ_cons, List.take_zero] at g8
  have g9 : DataW.trod enc Tryz.prog W 0 (fun _ => true) true n 24 (List.take (Tryz.prog.cellsOf 24) [c9, c10, c11, c12, c13]) = some y9 := hff 9 _ rfl
  rw [k9] at g9
  simp only [List.take_succ_cons, List.take_zero] at g9
  have g10 : DataW.trod enc Tryz.prog W 0 (fun _ => true) true n 25 (List.take (Tryz.prog.cellsOf 25) [c10, c11, c12, c13]) = some y10 := hff 10 _ rfl
  rw [k10] at g10
  simp only [List.take_succ_cons, List.take_zero] at g10
  have g11 : DataW.trod enc Tryz.prog W 0 (fun _ => true) true n 25 (List.take (Tryz.prog.cellsOf 25) [c11, c12, c13]) = some y11 := hff 11 _ rfl
  rw [k11] at g11
  simp only [List.take_succ_cons, List.take_zero] at g11
  have g12 : DataW.trod enc Tryz.prog W 0 (fun _ => true) true n 26 (List.take (Tryz.prog.cellsOf 26) [c12, c13]) = some y12 := hff 12 _ rfl
  rw [k12] at g12
  simp only [List.take_succ_cons, List.take_zero] at g12
  have g13 : DataW.trod enc Tryz.prog W 0 (fun _ => true) true n 26 (List.take (Tryz.prog.cellsOf 26) [c13]) = some y13 := hff 13 _ rfl
  rw [k13] at g13
  simp only [List.take_succ_cons, List.take_zero] at g13
  simp only [Prod.mk.injEq] at hx
  exact ⟨c0, c1, c2, c3, c4, c5, c6, c7, c8, c9, c10, c11, c12, c13, y0, y1, y2, y3, y4, y5, y6, y7, y8, y9, y10, y11, y12, y13, n, rfl, by rw [hx.1]; rfl, g0, g1, g2, g3, g4, g5, g6, g7, g8, g9, g10, g11, g12, g13⟩
theorem in_prog4 {H : Type} {d0 d1 d2 d3 d4 d5 d6 d7 d8 d9 d10 d11 d12 d13 : DataW H} {k : Nat} (hk : k ∈ (d4).weights Tryz.prog 22) : k ∈ (DataW.agg [d0, d1, d2, d3, d4, d5, d6, d7, d8, d9, d10, d11, d12, d13]).weights Tryz.prog 28 := by
  simp [DataW.weights, Tryz.underlying28, DataW.weightsEach, hk]
theorem in_prog5 {H : Type} {d0 d1 d2 d3 d4 d5 d6 d7 d8 d9 d10 d11 d12 d13 : DataW H} {k : Nat} (hk : k ∈ (d5).weights Tryz.prog 23) : k ∈ (DataW.agg [d0, d1, d2, d3, d4, d5, d6, d7, d8, d9, d10, d11, d12, d13]).weights Tryz.prog 28 := by
  simp [DataW.weights, Tryz.underlying28, DataW.weightsEach, hk]
theorem in_prog6 {H : Type} {d0 d1 d2 d3 d4 d5 d6 d7 d8 d9 d10 d11 d12 d13 : DataW H} {k : Nat} (hk : k ∈ (d6).weights Tryz.prog 22) : k ∈ (DataW.agg [d0, d1, d2, d3, d4, d5, d6, d7, d8, d9, d10, d11, d12, d13]).weights Tryz.prog 28 := by
  simp [DataW.weights, Tryz.underlying28, DataW.weightsEach, hk]
theorem in_prog7 {H : Type} {d0 d1 d2 d3 d4 d5 d6 d7 d8 d9 d10 d11 d12 d13 : DataW H} {k : Nat} (hk : k ∈ (d7).weights Tryz.prog 22) : k ∈ (DataW.agg [d0, d1, d2, d3, d4, d5, d6, d7, d8, d9, d10, d11, d12, d13]).weights Tryz.prog 28 := by
  simp [DataW.weights, Tryz.underlying28, DataW.weightsEach, hk]
theorem in_prog8 {H : Type} {d0 d1 d2 d3 d4 d5 d6 d7 d8 d9 d10 d11 d12 d13 : DataW H} {k : Nat} (hk : k ∈ (d8).weights Tryz.prog 22) : k ∈ (DataW.agg [d0, d1, d2, d3, d4, d5, d6, d7, d8, d9, d10, d11, d12, d13]).weights Tryz.prog 28 := by
  simp [DataW.weights, Tryz.underlying28, DataW.weightsEach, hk]
theorem in_prog9 {H : Type} {d0 d1 d2 d3 d4 d5 d6 d7 d8 d9 d10 d11 d12 d13 : DataW H} {k : Nat} (hk : k ∈ (d9).weights Tryz.prog 24) : k ∈ (DataW.agg [d0, d1, d2, d3, d4, d5, d6, d7, d8, d9, d10, d11, d12, d13]).weights Tryz.prog 28 := by
  simp [DataW.weights, Tryz.underlying28, DataW.weightsEach, hk]
theorem in_prog10 {H : Type} {d0 d1 d2 d3 d4 d5 d6 d7 d8 d9 d10 d11 d12 d13 : DataW H} {k : Nat} (hk : k ∈ (d10).weights Tryz.prog 25) : k ∈ (DataW.agg [d0, d1, d2, d3, d4, d5, d6, d7, d8, d9, d10, d11, d12, d13]).weights Tryz.prog 28 := by
  simp [DataW.weights, Tryz.underlying28, DataW.weightsEach, hk]
theorem in_prog11 {H : Type} {d0 d1 d2 d3 d4 d5 d6 d7 d8 d9 d10 d11 d12 d13 : DataW H} {k : Nat} (hk : k ∈ (d11).weights Tryz.prog 25) : k ∈ (DataW.agg [d0, d1, d2, d3, d4, d5, d6, d7, d8, d9, d10, d11, d12, d13]).weights Tryz.prog 28 := by
  simp [DataW.weights, Tryz.underlying28, DataW.weightsEach, hk]
theorem in_prog12 {H : Type} {d0 d1 d2 d3 d4 d5 d6 d7 d8 d9 d10 d11 d12 d13 : DataW H} {k : Nat} (hk : k ∈ (d12).weights Tryz.prog 26) : k ∈ (DataW.agg [d0, d1, d2, d3, d4, d5, d6, d7, d8, d9, d10, d11, d12, d13]).weights Tryz.prog 28 := by
  simp [DataW.weights, Tryz.underlying28, DataW.weightsEach, hk]
theorem in_prog13 {H : Type} {d0 d1 d2 d3 d4 d5 d6 d7 d8 d9 d10 d11 d12 d13 : DataW H} {k : Nat} (hk : k ∈ (d13).weights Tryz.prog 26) : k ∈ (DataW.agg [d0, d1, d2, d3, d4, d5, d6, d7, d8, d9, d10, d11, d12, d13]).weights Tryz.prog 28 := by
  simp [DataW.weights, Tryz.underlying28, DataW.weightsEach, hk]
end Go.Proofs.YtdfnomglkibfbaaGreatDoor.Vf

namespace Go.Proofs.YtdfnomglkibfbaaGreatDoor.Vf
open Go.RowKit
set_option linter.unusedVariables false
set_option linter.unusedSimpArgs false
set_option maxRecDepth 100000
/-- what Heights tells. -/
def HeightsR (w : World) (p : PrH) (q : PrL) (r : Option (Int × Option Int)) (e : Ending) (w' : World) : Prop := match r with
  | some x => e = .returned (.tuple #[.slice none 0 0, errV (some x)])
  | none => ∃ b1, w.heap.size ≤ b1 ∧ e = .returned (.tuple #[.slice (some ⟨b1, 0, none⟩) p.filter.n p.filter.n, .nilIface]) ∧ RI w' b1 p.filter.n (fun j => .int .i64 ((hgtP q.filter 0 m0 []).1.getD j 0))
set_option maxHeartbeats 4000000 in
theorem Heights_any (p : PrH) (q : PrL) (hN : PrN p q) (hcf : ∀ (j : Nat) (t : InP), q.filter[j]? = some t → t.c < 256) (hco : ∀ (j : Nat) (t : InP), q.output[j]? = some t → t.c < 256) (w : World) (hT : UT w) (hR : RT w) (h : PrIn w p q) : Calls Tryz.prog 12 #[p.v] w fun e w' => HeightsR w p q (resP p q) e w' ∧ Below w.heap.size w w' := by
  have b1 : Below w.heap.size w (w.alloc (.cells p.cells 28)) := (Below.refl _ w).alloc (Nat.le_refl _) _
  have c0 := (climbed_any p q hN hcf hco _ (hT.below b1 (Nat.le_refl _)) (hR.below b1 hR.lt) (h.below b1 (Nat.le_refl _)))
  cases hr : resP p q with
  | some x =>
    have c1 : Hid (Calls Tryz.prog 27 #[p.v] (w.alloc (.cells p.cells 28)) fun e w' => e = .returned (.tuple #[.slice none 0 0, .slice none 0 0, errV (some x)]) ∧ Below w.heap.size w w') := c0.mono (fun e w' hh => by
      refine ⟨?_, b1.trans (hh.2.mono b1.size)⟩
      have h1 := hh.1
      unfold ClR at h1
      rw [hr] at h1
      exact h1)
    unfold HeightsR
    dsimp only
    clear c0 hT hR h b1 hN hcf hco hr
    generalize errV (some x) = ve at *
    unfold PrH.v PrH.cells at c1
    unfold PrH.v
    go_enter Tryz.func12, Tryz.ntmps12
    go_wp2_with fail
    with_reducible refine Calls.mono c1.out ?_
    rintro e w' ⟨rfl, bb⟩
    clear c1
    go_wp2_with fail
    go_returns
    exact ⟨rfl, bb⟩
  | none =>
    have c1 : Hid (Calls Tryz.prog 27 #[p.v] (w.alloc (.cells p.cells 28)) fun e w' => (∃ g o1 n1 k1 o2 n2 k2, e = .returned (.tuple #[.slice o1 n1 k1, .slice o2 n2 k2, .nilIface]) ∧ (.slice (some ⟨g, 0, none⟩) p.filter.n p.filter.n : Value) = .slice o1 n1 k1 ∧ w.heap.size ≤ g ∧ Hid (RI w' g p.filter.n (fun j => .int .i64 ((hgtP q.filter 0 m0 []).1.getD j 0)))) ∧ Below w.heap.size w w') := c0.mono (fun e w' hh => by
      refine ⟨?_, b1.trans (hh.2.mono b1.size)⟩
      have h1 := hh.1
      unfold ClR at h1
      rw [hr] at h1
      obtain ⟨g1, g2, l1, l2, h2, h3, h4⟩ := h1
      exact ⟨g1, _, _, _, _, _, _, h2, rfl, Nat.le_trans b1.size l1, h3⟩)
    unfold HeightsR
    dsimp only
    clear c0 hT hR h b1 hN hcf hco hr
    unfold PrH.v PrH.cells at c1
    unfold PrH.v
    go_enter Tryz.func12, Tryz.ntmps12
    go_wp2_with fail
    with_reducible refine Calls.mono c1.out ?_
    rintro e w' ⟨⟨g, o1, n1, k1, o2, n2, k2, rfl, ev, hl, hrw⟩, bb⟩
    clear c1
    go_wp2_with fail
    go_returns
    exact ⟨⟨g, hl, rfl, hrw.out⟩, bb⟩
/-- what Rises tells. -/
def RisesR (w : World) (p : PrH) (q : PrL) (r : Option (Int × Option Int)) (e : Ending) (w' : World) : Prop := match r with
  | some x => e = .returned (.tuple #[.slice none 0 0, errV (some x)])
  | none => ∃ b1, w.heap.size ≤ b1 ∧ e = .returned (.tuple #[.slice (some ⟨b1, 0, none⟩) p.output.n p.output.n, .nilIface]) ∧ RI w' b1 p.output.n (fun j => .int .i64 ((hgtP q.output 0 m0 []).1.getD j 0))
set_option maxHeartbeats 4000000 in
theorem Rises_any (p : PrH) (q : PrL) (hN : PrN p q) (hcf : ∀ (j : Nat) (t : InP), q.filter[j]? = some t → t.c < 256) (hco : ∀ (j : Nat) (t : InP), q.output[j]? = some t → t.c < 256) (w : World) (hT : UT w) (hR : RT w) (h : PrIn w p q) : Calls Tryz.prog 14 #[p.v] w fun e w' => RisesR w p q (resP p q) e w' ∧ Below w.heap.size w w' := by
  have b1 : Below w.heap.size w (w.alloc (.cells p.cells 28)) := (Below.refl _ w).alloc (Nat.le_refl _) _
  have c0 := (climbed_any p q hN hcf hco _ (hT.below b1 (Nat.le_refl _)) (hR.below b1 hR.lt) (h.below b1 (Nat.le_refl _)))
  cases hr : resP p q with
  | some x =>
    have c1 : Hid (Calls Tryz.prog 27 #[p.v] (w.alloc (.cells p.cells 28)) fun e w' => e = .returned (.tuple #[.slice none 0 0, .slice none 0 0, errV (some x)]) ∧ Below w.heap.size w w') := c0.mono (fun e w' hh => by
      refine ⟨?_, b1.trans (hh.2.mono b1.size)⟩
      have h1 := hh.1
      unfold ClR at h1
      rw [hr] at h1
      exact h1)
    unfold RisesR
    dsimp only
    clear c0 hT hR h b1 hN hcf hco hr
    generalize errV (some x) = ve at *
    unfold PrH.v PrH.cells at c1
    unfold PrH.v
    go_enter Tryz.func14, Tryz.ntmps14
    go_wp2_with fail
    with_reducible refine Calls.mono c1.out ?_
    rintro e w' ⟨rfl, bb⟩
    clear c1
    go_wp2_with fail
    go_returns
    exact ⟨rfl, bb⟩
  | none =>
    have c1 : Hid (Calls Tryz.prog 27 #[p.v] (w.alloc (.cells p.cells 28)) fun e w' => (∃ g o1 n1 k1 o2 n2 k2, e = .returned (.tuple #[.slice o1 n1 k1, .slice o2 n2 k2, .nilIface]) ∧ (.slice (some ⟨g, 0, none⟩) p.output.n p.output.n : Value) = .slice o2 n2 k2 ∧ w.heap.size ≤ g ∧ Hid (RI w' g p.output.n (fun j => .int .i64 ((hgtP q.output 0 m0 []).1.getD j 0)))) ∧ Below w.heap.size w w') := c0.mono (fun e w' hh => by
      refine ⟨?_, b1.trans (hh.2.mono b1.size)⟩
      have h1 := hh.1
      unfold ClR at h1
      rw [hr] at h1
      obtain ⟨g1, g2, l1, l2, h2, h3, h4⟩ := h1
      exact ⟨g2, _, _, _, _, _, _, h2, rfl, Nat.le_trans b1.size l2, h4⟩)
    unfold RisesR
    dsimp only
    clear c0 hT hR h b1 hN hcf hco hr
    unfold PrH.v PrH.cells at c1
    unfold PrH.v
    go_enter Tryz.func14, Tryz.ntmps14
    go_wp2_with fail
    with_reducible refine Calls.mono c1.out ?_
    rintro e w' ⟨⟨g, o1, n1, k1, o2, n2, k2, rfl, ev, hl, hrw⟩, bb⟩
    clear c1
    go_wp2_with fail
    go_returns
    exact ⟨⟨g, hl, rfl, hrw.out⟩, bb⟩
/-- what Bound tells. -/
def BoundR (p : PrH) (r : Option (Int × Option Int)) (e : Ending) : Prop := match r with
  | some x => e = .returned (.tuple #[.int .i64 0, .int .i64 0, errV (some x)])
  | none => e = .returned (.tuple #[.int .i64 (p.filter.n : Int), .int .i64 (p.output.n : Int), .nilIface])
set_option maxHeartbeats 4000000 in
theorem Bound_any (p : PrH) (q : PrL) (hN : PrN p q) (hcf : ∀ (j : Nat) (t : InP), q.filter[j]? = some t → t.c < 256) (hco : ∀ (j : Nat) (t : InP), q.output[j]? = some t → t.c < 256) (w : World) (hT : UT w) (hR : RT w) (h : PrIn w p q) : Calls Tryz.prog 17 #[p.v] w fun e w' => BoundR p (resP p q) e ∧ Below w.heap.size w w' := by
  have cP : Hid (∀ W, EH w p W → Calls Tryz.prog 10 #[.agg #[.string p.from_, .string p.into, .int .i64 p.every, .int .i64 p.offset, .slice p.groups.a p.groups.n p.groups.c, .slice p.accs.a p.accs.n p.accs.c, .slice p.alias.a p.alias.n p.alias.c, .slice p.names.a p.names.n p.names.c, .slice p.texts.a p.texts.n p.texts.c, .slice p.lists.a p.lists.n p.lists.c, .slice p.times.a p.times.n p.times.c, .slice p.ints.a p.ints.n p.ints.c, .slice p.filter.a p.filter.n p.filter.c, .slice p.output.a p.output.n p.output.c]] W fun e w' => e = .returned (errV (resP p q)) ∧ EH w p w') := fun W hW => (program_any p q hN hcf hco W (hT.below hW.1 (Nat.le_refl _)) (hR.below hW.1 hR.lt) (h.below hW.1 (Nat.le_refl _))).mono (fun e w' hh => ⟨hh.1, hW.below hh.2⟩)
  have E0 : Hid (EH w p (w.alloc (.cells p.cells 28))) := EH.new w p
  clear hT hR h hN hcf hco
  unfold BoundR
  cases hr : resP p q with
  | some x =>
    rw [hr] at cP
    dsimp only
    clear hr
    obtain ⟨xc, xp⟩ := x
    cases xp with
    | none =>
      unfold errV at cP
      unfold errV
      unfold PrH.cells at E0
      unfold PrH.v
      go_enter Tryz.func17, Tryz.ntmps17
      go_wp2_with fail
      generalize World.alloc w _ = W1 at E0 ⊢
      with_reducible refine Calls.mono (cP.out _ E0.out) ?_
      rintro e w2 ⟨rfl, e2⟩
      clear cP E0
      have e2H : Hid (EH w p w2) := e2
      clear e2
      go_wp2_with fail
      go_returns
      exact ⟨rfl, e2H.out.1⟩
    | some xp =>
      unfold errV atE at cP
      unfold errV atE
      unfold PrH.cells at E0
      unfold PrH.v
      go_enter Tryz.func17, Tryz.ntmps17
      go_wp2_with fail
      generalize World.alloc w _ = W1 at E0 ⊢
      with_reducible refine Calls.mono (cP.out _ E0.out) ?_
      rintro e w2 ⟨rfl, e2⟩
      clear cP E0
      have e2H : Hid (EH w p w2) := e2
      clear e2
      go_wp2_with fail
      go_returns
      exact ⟨rfl, e2H.out.1⟩
  | none =>
    rw [hr] at cP
    dsimp only
    unfold errV at cP
    clear hr
    unfold PrH.cells at E0
    unfold PrH.v
    go_enter Tryz.func17, Tryz.ntmps17
    go_wp2_with fail
    generalize World.alloc w _ = W1 at E0 ⊢
    with_reducible refine Calls.mono (cP.out _ E0.out) ?_
    rintro e w2 ⟨rfl, e2⟩
    clear cP E0
    obtain ⟨zp, y0, y1, y2, y3, y4, y5, y6, y7, y8, y9, y10, y11, y12, y13⟩ := e2.2
    have fin : Hid (Below w.heap.size w w2) := e2.1
    clear e2 y0 y1 y2 y3 y4 y5 y6 y7 y8 y9 y10 y11
    go_wp2_with fail
    go_quiet (fail)
    go_wp2_with fail
    go_returns
    exact ⟨rfl, bl_drewN fin.out nq⟩
/-- what Dead tells. -/
def DeadR (w : World) (q : PrL) (r : Option (Int × Option Int)) (e : Ending) (w' : World) : Prop := match r with
  | some x => e = .returned (.tuple #[.slice none 0 0, errV (some x)])
  | none => ∃ v, e = .returned (.tuple #[v, .nilIface]) ∧ I6.OE w' w.heap.size v (nat2 (deadL q.filter))
set_option maxHeartbeats 4000000 in
theorem Dead_any (p : PrH) (q : PrL) (hN : PrN p q) (hcf : ∀ (j : Nat) (t : InP), q.filter[j]? = some t → t.c < 256) (hco : ∀ (j : Nat) (t : InP), q.output[j]? = some t → t.c < 256) (w : World) (hT : UT w) (hR : RT w) (h : PrIn w p q) : Calls Tryz.prog 19 #[p.v] w fun e w' => DeadR w q (resP p q) e w' ∧ Below w.heap.size w w' := by
  have cP : Hid (∀ W, EH w p W → Calls Tryz.prog 10 #[.agg #[.string p.from_, .string p.into, .int .i64 p.every, .int .i64 p.offset, .slice p.groups.a p.groups.n p.groups.c, .slice p.accs.a p.accs.n p.accs.c, .slice p.alias.a p.alias.n p.alias.c, .slice p.names.a p.names.n p.names.c, .slice p.texts.a p.texts.n p.texts.c, .slice p.lists.a p.lists.n p.lists.c, .slice p.times.a p.times.n p.times.c, .slice p.ints.a p.ints.n p.ints.c, .slice p.filter.a p.filter.n p.filter.c, .slice p.output.a p.output.n p.output.c]] W fun e w' => e = .returned (errV (resP p q)) ∧ EH w p w') := fun W hW => (program_any p q hN hcf hco W (hT.below hW.1 (Nat.le_refl _)) (hR.below hW.1 hR.lt) (h.below hW.1 (Nat.le_refl _))).mono (fun e w' hh => ⟨hh.1, hW.below hh.2⟩)
  have E0 : Hid (EH w p (w.alloc (.cells p.cells 28))) := EH.new w p
  have cD : Hid (resP p q = none → ∀ W, EH w p W → Calls Tryz.prog 33 #[.slice p.filter.a p.filter.n p.filter.c] W fun e w' => ∃ v, e = .returned v ∧ I6.OE w' w.heap.size v (nat2 (deadL q.filter)) ∧ Below w.heap.size w w') := fun hr W hW => by
    have ps := pas_of hr
    have := dead_any q.filter _ ps.hok ps.fil ps.jmp hcf p.filter.a p.filter.c (ps.len hN) W (hR.below hW.1 hR.lt) (h.below hW.1 (Nat.le_refl _)).filter
    rw [← hN.filter] at this
    exact this.mono (fun e w' ⟨v, h1, h2, h3⟩ => ⟨v, h1, h2.mono hW.1.size, hW.1.trans (h3.mono hW.1.size)⟩)
  clear hT hR h hN hcf hco
  unfold DeadR
  cases hr : resP p q with
  | some x =>
    rw [hr] at cP
    dsimp only
    clear hr
    obtain ⟨xc, xp⟩ := x
    cases xp with
    | none =>
      unfold errV at cP
      unfold errV
      unfold PrH.cells at E0
      unfold PrH.v
      go_enter Tryz.func19, Tryz.ntmps19
      go_wp2_with fail
      generalize World.alloc w _ = W1 at E0 ⊢
      with_reducible refine Calls.mono (cP.out _ E0.out) ?_
      rintro e w2 ⟨rfl, e2⟩
      clear cP E0
      have e2H : Hid (EH w p w2) := e2
      clear e2
      go_wp2_with fail
      go_returns
      exact ⟨rfl, e2H.out.1⟩
    | some xp =>
      unfold errV atE at cP
      unfold errV atE
      unfold PrH.cells at E0
      unfold PrH.v
      go_enter Tryz.func19, Tryz.ntmps19
      go_wp2_with fail
      generalize World.alloc w _ = W1 at E0 ⊢
      with_reducible refine Calls.mono (cP.out _ E0.out) ?_
      rintro e w2 ⟨rfl, e2⟩
      clear cP E0
      have e2H : Hid (EH w p w2) := e2
      clear e2
      go_wp2_with fail
      go_returns
      exact ⟨rfl, e2H.out.1⟩
  | none =>
    have cE : Hid (∀ W, EH w p W → Calls Tryz.prog 33 #[.slice p.filter.a p.filter.n p.filter.c] W fun e w' => ∃ v, e = .returned v ∧ I6.OE w' w.heap.size v (nat2 (deadL q.filter)) ∧ Below w.heap.size w w') := cD.out hr
    rw [hr] at cP
    dsimp only
    unfold errV at cP
    clear hr cD
    unfold PrH.cells at E0
    unfold PrH.v
    go_enter Tryz.func19, Tryz.ntmps19
    go_wp2_with fail
    generalize World.alloc w _ = W1 at E0 ⊢
    with_reducible refine Calls.mono (cP.out _ E0.out) ?_
    rintro e w2 ⟨rfl, e2⟩
    clear cP E0
    obtain ⟨zp, y0, y1, y2, y3, y4, y5, y6, y7, y8, y9, y10, y11, y12, y13⟩ := e2.2
    have e2H : Hid (EH w p w2) := e2
    clear e2 y0 y1 y2 y3 y4 y5 y6 y7 y8 y9 y10 y11
    go_wp2_with fail
    with_reducible refine Calls.mono (cE.out _ e2H.out) ?_
    rintro e w3 ⟨v, rfl, o3, b3⟩
    have fin : Hid (I6.OE w3 w.heap.size v (nat2 (deadL q.filter)) ∧ Below w.heap.size w w3) := ⟨o3, b3⟩
    clear cE o3 b3 e2H
    go_wp2_with fail
    go_returns
    exact ⟨⟨_, rfl, fin.out.1⟩, fin.out.2⟩
end Go.Proofs.YtdfnomglkibfbaaGreatDoor.Vf

namespace Go.Proofs.YtdfnomglkibfbaaGreatDoor.Vf
open Go.RowKit
set_option linter.unusedVariables false
set_option linter.unusedSimpArgs false
set_option maxRecDepth 100000
theorem nat2_get {l : List Nat} {i : Nat} {t : Int} (h : (nat2 l)[i]? = some t) : ∃ j, l[i]? = some j ∧ t = (j : Int) := by
  unfold nat2 at h
  rw [List.getElem?_map, Option.map_eq_some_iff] at h
  obtain ⟨j, h1, h2⟩ := h
  exact ⟨j, h1, h2.symm⟩
theorem nat2_len (l : List Nat) : (nat2 l).length = l.length := by unfold nat2; simp
set_option maxHeartbeats 16000000 in
theorem verifySound_walk (p : PrH) (q : PrL) (xt : Option Addr) (tr : List Bool) (ct : Nat) (hN : PrN p q) (htl : tr.length ≤ 1152921504606846976) (hcf : ∀ (j : Nat) (t : InP), q.filter[j]? = some t → t.c < 256) (hco : ∀ (j : Nat) (t : InP), q.output[j]? = some t → t.c < 256) (w : World) (hU : UT w) (hR : RT w) (hE : ET w) (h : PrIn w p q) (hT : BL.In w xt tr) : Calls Tryz.prog 5 #[p.v, .slice xt tr.length ct] w fun e w' => e = .returned (.bool true) ∧ Below w.heap.size w w' := by
  have cL : Hid (∀ W, EH w p W → Calls Tryz.prog 8 #[] W fun e w' => e = .returned (.bool true) ∧ EH w p w') := fun W hW => (live_any W (hU.below hW.1 (Nat.le_refl _)) (hR.below hW.1 hR.lt) (ET_below hE hW.1)).mono (fun e w' hh => ⟨hh.1, hW.below hh.2⟩)
  have cP : Hid (∀ W, EH w p W → Calls Tryz.prog 10 #[.agg #[.string p.from_, .string p.into, .int .i64 p.every, .int .i64 p.offset, .slice p.groups.a p.groups.n p.groups.c, .slice p.accs.a p.accs.n p.accs.c, .slice p.alias.a p.alias.n p.alias.c, .slice p.names.a p.names.n p.names.c, .slice p.texts.a p.texts.n p.texts.c, .slice p.lists.a p.lists.n p.lists.c, .slice p.times.a p.times.n p.times.c, .slice p.ints.a p.ints.n p.ints.c, .slice p.filter.a p.filter.n p.filter.c, .slice p.output.a p.output.n p.output.c]] W fun e w' => e = .returned (errV (resP p q)) ∧ EH w p w') := fun W hW => (program_any p q hN hcf hco W (hU.below hW.1 (Nat.le_refl _)) (hR.below hW.1 hR.lt) (h.below hW.1 (Nat.le_refl _))).mono (fun e w' hh => ⟨hh.1, hW.below hh.2⟩)
  have E0 : Hid (EH w p (w.alloc (.cells p.cells 28))) := EH.new w p
  cases hr : resP p q with
  | some x =>
    rw [hr] at cP
    clear hU hR hE hN h hT hcf hco hr
    unfold PrH.cells at E0
    obtain ⟨xc, xp⟩ := x
    cases xp with
    | none =>
      unfold errV at cP
      unfold PrH.v
      go_enter Tryz.func5, Tryz.ntmps5
      go_wp2_with fail
      generalize World.alloc w _ = W1 at E0 ⊢
      with_reducible refine Calls.mono (cP.out _ E0.out) ?_
      rintro e w2 ⟨rfl, e2⟩
      have e2H : Hid (EH w p w2) := e2
      clear cP E0 e2
      go_wp2_with fail
      with_reducible refine Calls.mono (cL.out _ e2H.out) ?_
      rintro e w3 ⟨rfl, e3⟩
      go_wp2_with fail
      go_ret
      exact ⟨rfl, e3.1⟩
    | some xp =>
      unfold errV atE at cP
      unfold PrH.v
      go_enter Tryz.func5, Tryz.ntmps5
      go_wp2_with fail
      generalize World.alloc w _ = W1 at E0 ⊢
      with_reducible refine Calls.mono (cP.out _ E0.out) ?_
      rintro e w2 ⟨rfl, e2⟩
      have e2H : Hid (EH w p w2) := e2
      clear cP E0 e2
      go_wp2_with fail
      with_reducible refine Calls.mono (cL.out _ e2H.out) ?_
      rintro e w3 ⟨rfl, e3⟩
      go_wp2_with fail
      go_ret
      exact ⟨rfl, e3.1⟩
  | none =>
    have ps := pas_of hr
    have cH : Hid (∀ W, EH w p W → Calls Tryz.prog 12 #[.agg #[.string p.from_, .string p.into, .int .i64 p.every, .int .i64 p.offset, .slice p.groups.a p.groups.n p.groups.c, .slice p.accs.a p.accs.n p.accs.c, .slice p.alias.a p.alias.n p.alias.c, .slice p.names.a p.names.n p.names.c, .slice p.texts.a p.texts.n p.texts.c, .slice p.lists.a p.lists.n p.lists.c, .slice p.times.a p.times.n p.times.c, .slice p.ints.a p.ints.n p.ints.c, .slice p.filter.a p.filter.n p.filter.c, .slice p.output.a p.output.n p.output.c]] W fun e w' => (∃ g, e = .returned (.tuple #[.slice (some ⟨g, 0, none⟩) p.filter.n p.filter.n, .nilIface]) ∧ Hid (RI w' g p.filter.n (fun j => .int .i64 (hF q.filter j)))) ∧ EH w p w') := fun W hW => (Heights_any p q hN hcf hco W (hU.below hW.1 (Nat.le_refl _)) (hR.below hW.1 hR.lt) (h.below hW.1 (Nat.le_refl _))).mono (fun e w' hh => by
      have h1 := hh.1
      unfold HeightsR at h1
      rw [hr] at h1
      obtain ⟨g, _, h2, h3⟩ := h1
      exact ⟨⟨g, h2, h3⟩, hW.below hh.2⟩)
    have cH2 : Hid (∀ W g F, EH w p W → RI W g p.filter.n F → Calls Tryz.prog 17 #[.agg #[.string p.from_, .string p.into, .int .i64 p.every, .int .i64 p.offset, .slice p.groups.a p.groups.n p.groups.c, .slice p.accs.a p.accs.n p.accs.c, .slice p.alias.a p.alias.n p.alias.c, .slice p.names.a p.names.n p.names.c, .slice p.texts.a p.texts.n p.texts.c, .slice p.lists.a p.lists.n p.lists.c, .slice p.times.a p.times.n p.times.c, .slice p.ints.a p.ints.n p.ints.c, .slice p.filter.a p.filter.n p.filter.c, .slice p.output.a p.output.n p.output.c]] W fun e w' => e = .returned (.tuple #[.int .i64 (p.filter.n : Int), .int .i64 (p.output.n : Int), .nilIface]) ∧ RI w' g p.filter.n F ∧ EH w p w') := fun W g F hW hg => (Bound_any p q hN hcf hco W (hU.below hW.1 (Nat.le_refl _)) (hR.below hW.1 hR.lt) (h.below hW.1 (Nat.le_refl _))).mono (fun e w' hh => by
      have h1 := hh.1
      unfold BoundR at h1
      rw [hr] at h1
      exact ⟨h1, hg.below hh.2 hg.1, hW.below hh.2⟩)
    have cD : Hid (∀ W g F, EH w p W → RI W g p.filter.n F → Calls Tryz.prog 19 #[.agg #[.string p.from_, .string p.into, .int .i64 p.every, .int .i64 p.offset, .slice p.groups.a p.groups.n p.groups.c, .slice p.accs.a p.accs.n p.accs.c, .slice p.alias.a p.alias.n p.alias.c, .slice p.names.a p.names.n p.names.c, .slice p.texts.a p.texts.n p.texts.c, .slice p.lists.a p.lists.n p.lists.c, .slice p.times.a p.times.n p.times.c, .slice p.ints.a p.ints.n p.ints.c, .slice p.filter.a p.filter.n p.filter.c, .slice p.output.a p.output.n p.output.c]] W fun e w' => (∃ v, e = .returned (.tuple #[v, .nilIface]) ∧ Hid (I6.OE w' W.heap.size v (nat2 (deadL q.filter)))) ∧ RI w' g p.filter.n F ∧ EH w p w') := fun W g F hW hg => (Dead_any p q hN hcf hco W (hU.below hW.1 (Nat.le_refl _)) (hR.below hW.1 hR.lt) (h.below hW.1 (Nat.le_refl _))).mono (fun e w' hh => by
      have h1 := hh.1
      unfold DeadR at h1
      rw [hr] at h1
      obtain ⟨v, h2, h3⟩ := h1
      exact ⟨⟨v, h2, h3⟩, hg.below hh.2 hg.1, hW.below hh.2⟩)
    have cR : Hid (∀ W g F B v l, EH w p W → RI W g p.filter.n F → I6.OE W B v l → Calls Tryz.prog 21 #[.slice p.filter.a p.filter.n p.filter.c, .slice xt tr.length ct] W fun e w' => RunR W q.filter (hF q.filter) e w' ∧ RI w' g p.filter.n F ∧ I6.OE w' B v l ∧ EH w p w') := fun W g F B v l hW hg ho => by
      have := run_any q.filter _ ps.hok ps.fil ps.jmp (fun j t ht => ps.ends ht) ps.pos (ps.len hN) p.filter.a p.filter.c tr xt ct htl W (h.below hW.1 (Nat.le_refl _)).filter (hT.below hW.1 (Nat.le_refl _))
      rw [← hN.filter] at this
      exact this.mono (fun e w' hh => ⟨hh.1, hg.below hh.2 hg.1, ho.below hh.2 (Nat.le_refl _), hW.below hh.2⟩)
    have nFH : Hid (p.filter.n = q.filter.length ∧ p.filter.n ≤ 65536) := ⟨hN.filter, by rw [hN.filter]; exact ps.len hN⟩
    rw [hr] at cP
    unfold errV at cP
    unfold PrH.cells at E0
    clear hU hR hE hN h hT hcf hco hr ps htl
    generalize tr.length = tn at *
    generalize hF q.filter = HH at *
    unfold PrH.v
    go_enter Tryz.func5, Tryz.ntmps5
    go_wp2_with fail
    generalize World.alloc w _ = W1 at E0 ⊢
    with_reducible refine Calls.mono (cP.out _ E0.out) ?_
    rintro e w2 ⟨rfl, e2⟩
    clear cP E0
    obtain ⟨z2, y0, y1, y2, y3, y4, y5, y6, y7, y8, y9, y10, y11, y12, y13⟩ := e2.2
    have e2H : Hid (EH w p w2) := e2
    clear e2
    go_wp2_with fail
    clear z2 y0 y1 y2 y3 y4 y5 y6 y7 y8 y9 y10 y11 y12 y13
    with_reducible refine Calls.mono (cH.out _ e2H.out) ?_
    rintro e w3 ⟨⟨g, rfl, hg3⟩, e3⟩
    clear cH e2H
    obtain ⟨z2, y0, y1, y2, y3, y4, y5, y6, y7, y8, y9, y10, y11, y12, y13⟩ := e3.2
    have e3H : Hid (EH w p w3) := e3
    clear e3
    go_wp2_with fail
    clear z2 y0 y1 y2 y3 y4 y5 y6 y7 y8 y9 y10 y11 y12 y13
    with_reducible refine Calls.mono (cH2.out _ _ _ e3H.out hg3.out) ?_
    rintro e w4 ⟨rfl, hg4, e4⟩
    clear cH2 e3H hg3
    obtain ⟨z2, y0, y1, y2, y3, y4, y5, y6, y7, y8, y9, y10, y11, y12, y13⟩ := e4.2
    have e4H : Hid (EH w p w4) := e4
    have hg4H : Hid (RI w4 g p.filter.n fun j => .int .i64 (HH j)) := hg4
    clear e4 hg4
    go_wp2_with fail
    clear z2 y0 y1 y2 y3 y4 y5 y6 y7 y8 y9 y10 y11 y12 y13
    with_reducible refine Calls.mono (cD.out _ _ _ e4H.out hg4H.out) ?_
    rintro e w5 ⟨⟨vd, rfl, od⟩, hg5, e5⟩
    obtain ⟨ad, cd, evd, zzd⟩ := od.out.ein
    clear zzd
    subst evd
    clear cD e4H hg4H
    obtain ⟨z2, y0, y1, y2, y3, y4, y5, y6, y7, y8, y9, y10, y11, y12, y13⟩ := e5.2
    have e5H : Hid (EH w p w5) := e5
    have hg5H : Hid (RI w5 g p.filter.n fun j => .int .i64 (HH j)) := hg5
    clear e5 hg5 y0 y1 y2 y3 y4 y5 y6 y7 y8 y9 y10 y11 y13
    go_wp2_with fail
    clear z2 y12
    with_reducible refine Calls.mono (cR.out _ _ _ _ _ _ e5H.out hg5H.out od.out) ?_
    rintro e w6 ⟨⟨r, v7, v8, rfl, o7, o8, lr, pr⟩, hg6, od6, e6⟩
    obtain ⟨a7, c7, ev7, zz7⟩ := o7.ein
    obtain ⟨a8, c8, ev8, zz8⟩ := o8.ein
    obtain ⟨_, _, evd, zzd⟩ := od6.ein
    injection evd with evd1 evd2 evd3
    subst evd1 evd3
    subst ev7 ev8
    have i7 : Hid (I6.In w6 a7 (nat2 r)) := zz7.2.1
    have i8 : Hid (I6.In w6 a8 (r.map HH)) := zz8.2.1
    have id : Hid (I6.In w6 ad (nat2 (deadL q.filter))) := zzd.2.1
    have PR : Hid (∀ j ∈ r, j < p.filter.n ∧ j ∉ deadL q.filter) := fun j hj => by rw [nFH.out.1]; exact pr j hj
    have lrn : r.length ≤ p.filter.n := by rw [nFH.out.1]; exact lr
    clear zz7 zz8 zzd o7 o8 od6 od cR e5H hg5H pr lr evd2
    obtain ⟨z2, y0, y1, y2, y3, y4, y5, y6, y7, y8, y9, y10, y11, y12, y13⟩ := e6.2
    have e6H : Hid (EH w p w6) := e6
    have hcH : Hid (∀ j, j < p.filter.n → w6.cell? ⟨g, j, none⟩ = some (.int .i64 (HH j))) := fun j hj => (hg6.2 j hj).1
    clear e6 hg6 y0 y1 y2 y3 y4 y5 y6 y7 y8 y9 y10 y11 y13
    have l7 : Hid ((nat2 r).length = r.length) := nat2_len r
    have l8 : Hid ((List.map HH r).length = r.length) := (by simp : (List.map HH r).length = r.length)
    rw [l7.out, l8.out]
    obtain ⟨nd, hnd⟩ : ∃ nd, (nat2 (deadL q.filter)).length = nd := ⟨_, rfl⟩
    have ndH : Hid (nd = (deadL q.filter).length) := by rw [← hnd]; exact nat2_len _
    have ndB : Hid (nd ≤ 65536) := by
      have a := (dead_lt (l := q.filter) q.filter.length (Nat.le_refl _)).2
      have b := nFH.out
      have c := ndH.out
      unfold deadL at c
      exact (by omega : nd ≤ 65536)
    rw [hnd]
    clear hnd
    obtain ⟨nr, hnr⟩ : ∃ nr, r.length = nr := ⟨_, rfl⟩
    have nrH : Hid (r.length = nr) := hnr
    rw [hnr] at lrn ⊢
    clear hnr
    have n1 : ¬ (p.filter.n : Int) < (nr : Int) := by omega
    have n2 := nFH.out.2
    go_wp2_with fail
    clear z2 y12 n1
    go_loopw [15] (fun v15 wr => ∃ i m : Nat, v15 = .int .i64 (i : Int) ∧ i ≤ nr ∧ wr = w6.drewN m) (fun v15 _ => nr - (intOf v15).toNat)
    case atStart => exact ⟨0, 0, rfl, Nat.zero_le _, rfl⟩
    case round =>
      obtain ⟨i, m, rfl, hin, rfl⟩ := hrel
      have i0 : (0 : Int) ≤ (i : Int) := by omega
      by_cases hi : i < nr
      · have iI : (i : Int) < (nr : Int) := by omega
        have iw : IntKind.i64.wrap ((i : Int) + 1) = ((i + 1 : Nat) : Int) := IntWalk.i64_in _ (by omega)
        obtain ⟨rb, ro, t, et, rfl, _, x1⟩ := i7.out.get (k := i) (by rw [l7.out, nrH.out]; exact hi)
        obtain ⟨j, ej, rfl⟩ := nat2_get et
        obtain ⟨jl, jd⟩ := PR.out j (List.mem_of_getElem? ej)
        obtain ⟨qb, qo, t2, et2, rfl, _, x2⟩ := i8.out.get (k := i) (by rw [l8.out, nrH.out]; exact hi)
        obtain rfl : HH j = t2 := by
          rw [List.getElem?_map, ej] at et2
          simpa using et2
        have x3 := hcH.out j jl
        have j0 : (0 : Int) ≤ (j : Int) := by omega
        have jI : (j : Int) < (p.filter.n : Int) := by omega
        have jdH : Hid (j ∉ deadL q.filter) := jd
        unfold I6.vl at x1 x2
        clear et et2 ej jd
        go_wp2_with fail
        go_quiet (fail)
        go_wp2_with fail
        go_loopw [16] (fun v16 wr => ∃ k m : Nat, v16 = .int .i64 (k : Int) ∧ k ≤ nd ∧ wr = w6.drewN m) (fun v16 _ => nd - (intOf v16).toNat)
        case atStart => exact ⟨0, m + nq, rfl, Nat.zero_le _, by first | rfl | (rw [World.drewN_drewN])⟩
        case round =>
          obtain ⟨k, m2, rfl, hkn, rfl⟩ := hrel
          have k0 : (0 : Int) ≤ (k : Int) := by omega
          by_cases hk : k < nd
          · have kI : (k : Int) < (nd : Int) := by omega
            have kw : IntKind.i64.wrap ((k : Int) + 1) = ((k + 1 : Nat) : Int) := IntWalk.i64_in _ (by have := ndB.out; omega)
            obtain ⟨sb, so, t3, et3, rfl, _, x4⟩ := id.out.get (k := k) (by rw [nat2_len, ← ndH.out]; exact hk)
            obtain ⟨j3, ej3, rfl⟩ := nat2_get et3
            have jn : ¬ (j3 : Int) = (j : Int) := fun e => jdH.out (by
              have : j3 = j := by omega
              rw [← this]; exact List.mem_of_getElem? ej3)
            unfold I6.vl at x4
            clear et3 ej3
            go_wp2_with fail
            go_quiet (fail)
            go_wp2_with fail
            exact ⟨⟨k + 1, m2 + nq, by first | rfl | (rw [kw]), hk, by first | rfl | (rw [World.drewN_drewN])⟩, by first | (simp [intOf]; done) | (simp [intOf]; omega)⟩
          · have kI : ¬ (k : Int) < (nd : Int) := by omega
            go_wp2_with fail
            exact ⟨⟨i + 1, m2, by first | rfl | (rw [iw]), hi, rfl⟩, by first | (simp [intOf]; done) | (simp [intOf]; omega)⟩
      · have iI : ¬ (i : Int) < (nr : Int) := by omega
        have e7H : Hid (EH w p (w6.drewN m)) := e6H.out.below (bl_drewN (Below.refl _ _) m)
        clear hcH i7 i8 id PR
        go_wp2_with fail
        with_reducible refine Calls.mono (cL.out _ e7H.out) ?_
        rintro e w7 ⟨rfl, e7⟩
        go_wp2_with fail
        go_ret
        exact ⟨rfl, e7.1⟩
end Go.Proofs.YtdfnomglkibfbaaGreatDoor.Vf

namespace Go.Proofs.YtdfnomglkibfbaaGreatDoor.Vf
open Go.ChangeShapes Go.WideShapes Go.ChangeAt Go.RowKit Go.Joins
set_option linter.unusedVariables false
set_option linter.unusedSimpArgs false
set_option maxRecDepth 100000
theorem bls_read {H : Type} {enc : TypeId × Value → H} {W : World} {v : Value} {y : DataW H × List MemPlace} {fuel : Nat}
    (hf : DataW.trod enc Tryz.prog W 0 (fun _ => true) true fuel 49 [v] = some y) (hw : ∀ k ∈ y.1.weights Tryz.prog 49, k ≤ reachBytes) :
    ∃ a l cap, v = .slice a l.length cap ∧ BL.In W a l ∧ l.length ≤ 1152921504606846976 := by
  obtain ⟨a, l, cap, h1, h2, h3⟩ := sl_read (α := Bool) Tryz.underlying49 1 (by kernel_rfl) (by omega) (of_decide_eq_true (by kernel_rfl)) (fun s cs => cs = [.bool s]) hf hw (fun n cs' z hz hl _ => by
    match cs', hl with
    | [v], _ =>
      obtain ⟨s, e, _⟩ := DataW.trod_bool Tryz.underlying4 hz
      exact ⟨s, e⟩)
  refine ⟨a, l, cap, h1, ?_, h3⟩
  rcases h2 with h2 | ⟨b, off, e1, e2, e3⟩
  · exact Or.inl h2
  · refine Or.inr ⟨b, off, e1, e2, fun i t ht => ?_⟩
    obtain ⟨cs', q1, q2, q3⟩ := e3 i t ht
    have := q3 0 (by omega)
    rw [q1] at this
    simpa [BL.vl] using this
end Go.Proofs.YtdfnomglkibfbaaGreatDoor.Vf

namespace Go.Proofs.YtdfnomglkibfbaaGreatDoor
open Go.ChangeShapes Go.WideShapes Go.ChangeAt Go.RowKit Go.Joins
set_option linter.unusedVariables false

theorem verifySound_own : ownKnob Tryz.prog.godebug = none := by kernel_rfl
theorem verifySound_laidOut : laidOutB Tryz.prog = true := by kernel_rfl
theorem verifySound_et : Tryz.prog.globalNamed "errors.errorType" = some 0 := by kernel_rfl
theorem verifySound_rt : (Tryz.prog.cutTypes.find? (·.1 == "internal/reflectlite.rtype")).map (·.2) = some 221 := by kernel_rfl
theorem verifySound_oneRow : ((List.range 337).filter fun t => Tryz.prog.rowNamed t [101, 114, 114, 111, 114]) = [32] := by kernel_rfl
theorem verifySound_size : Tryz.prog.types.size = 337 := by kernel_rfl
theorem verifySound_parts {W : World} (h : laidMetH Tryz.prog Rows.verifySoundRow.laid W) : laidMet Tryz.prog [("unicode/utf8.acceptRanges", Rows.laid_unicode_utf8_acceptRanges), ("weir/verify.rows", Rows.laid_weir_verify_rows), ("unicode/utf8.first", Rows.laid_unicode_utf8_first)] W ∧ handlesMet Tryz.prog [("errors.errorType", Rows.laid_errors_errorType)] W := h
theorem verifySound_handle {W : World} (h : laidMetH Tryz.prog Rows.verifySoundRow.laid W) : ET W := by
  obtain ⟨name, u, ty, e1, e2, e3, e4, e5⟩ := (verifySound_parts h).2 _ (List.mem_singleton.2 rfl)
  have en : name = [101, 114, 114, 111, 114] := (Option.some.inj e1).symm
  subst en
  obtain rfl := Option.some.inj (verifySound_rt.symm.trans e2)
  have hm : ty ∈ (List.range 337).filter fun t => Tryz.prog.rowNamed t [101, 114, 114, 111, 114] := List.mem_filter.2 ⟨List.mem_range.2 (by rw [← verifySound_size]; exact e3), e4⟩
  rw [verifySound_oneRow] at hm
  obtain rfl := List.mem_singleton.1 hm
  have hh : typeHandle Tryz.prog 32 = .pointer (some ⟨4, 32, none⟩) := by kernel_rfl
  rw [hh] at e5
  unfold ET
  simpa using World.var?_cell verifySound_et e5 0
theorem verifySound_x8 : U8Extra Tryz.prog Tryz.laysValid_ren := ⟨by kernel_rfl, by kernel_rfl, by kernel_rfl, by kernel_rfl, by kernel_rfl, by kernel_rfl, by kernel_rfl⟩
theorem verifySound_acc : (Rows.laid_unicode_utf8_acceptRanges : DataW Unit) = Lib.acceptData := by kernel_rfl
theorem verifySound_fst : (Rows.laid_unicode_utf8_first : DataW Unit) = Lib.firstData := Pinned.utf8First_eq
theorem verifySound_tabs {W : World} (h : laidMetH Tryz.prog Rows.verifySoundRow.laid W) : UT W := by
  have h1 := (verifySound_parts h).1
  have r3 := Lib.laidMet.reads h1 (n := "unicode/utf8.first") (d := Rows.laid_unicode_utf8_first) (by simp)
  have r4 := Lib.laidMet.reads h1 (n := "unicode/utf8.acceptRanges") (d := Rows.laid_unicode_utf8_acceptRanges) (by simp)
  rw [verifySound_fst] at r3
  rw [verifySound_acc] at r4
  exact utf8Tabs_of_readsT (U8Types.of196 Tryz.laysValid) verifySound_x8 r3 r4
theorem verifySound_rows {W : World} (h : laidMetH Tryz.prog Rows.verifySoundRow.laid W) : Vf.RT W := Vf.RT_of_reads (Lib.laidMet.reads (verifySound_parts h).1 (n := "weir/verify.rows") (d := Rows.laid_weir_verify_rows) (by simp))
noncomputable def verifySound_wit (os : Os) : World := (World.doorLaid Tryz.prog 400 os).layVars Tryz.prog [("unicode/utf8.first", Rows.laid_unicode_utf8_first)]
theorem verifySound_door (os : Os) (args : Array Value) : laidMetH Tryz.prog Rows.verifySoundRow.laid ((verifySound_wit os).forCall (fun _ _ => 0) ⟨#[], args, []⟩).memory := by
  refine laidMetH_of_parts3 (fuel := 8) ?_ (by kernel_rfl) (by kernel_rfl)
  refine laidMet_layVars (w0 := World.doorLaid Tryz.prog 400 os) ["unicode/utf8.first"] [3, 1] (by kernel_rfl) (by kernel_rfl) (by kernel_rfl) ?_
  exact LaidIn.of_run _ 8 (by kernel_rfl) (by kernel_rfl) (by kernel_rfl) (by kernel_rfl)
set_option maxHeartbeats 2000000 in
set_option maxRecDepth 100000 in
theorem verifySound_lifted (os : Os) (started : os.Started) (H : Type) (enc : TypeId × Value → H) :
    ReturnsInHanded {} Tryz.checked os 5 .any (fun w args => (Rows.verifySoundSpec.pre enc Tryz.prog Tryz.f5 [] false w args ∧ laidMetH Tryz.prog Rows.verifySoundRow.laid w) ∧ sizedMet enc Tryz.prog Tryz.f5 (OpenSpec.ofChange Rows.verifySoundSpec) false w args)
      (Rows.verifySoundSpec.post enc Tryz.prog Tryz.f5 false true false false) := by
  refine returnsInHanded_of_change_and (C := Tryz.checked) (X := fun w _ => laidMetH Tryz.prog Rows.verifySoundRow.laid w) (fun _ _ _ hh h => h.of_heap hh) verifySound_own started (by kernel_rfl) Tryz.func5
    (ChangeSpec.witness_shaped (enc := enc) (C := Tryz.checked) (os := os) (X := fun w _ => laidMetH Tryz.prog Rows.verifySoundRow.laid w) false (verifySound_wit os) #[.agg #[.string ⟨#[]⟩, .string ⟨#[]⟩, .int .i64 0, .int .i64 0, .slice none 0 0, .slice none 0 0, .slice none 0 0, .slice none 0 0, .slice none 0 0, .slice none 0 0, .slice none 0 0, .slice none 0 0, .slice none 0 0, .slice none 0 0], .slice none 0 0] 8 (World.layVars_os _ _ _) (World.shaped_of_ZipB (by kernel_rfl) (by kernel_rfl)) (by kernel_rfl) (by kernel_rfl) (by kernel_rfl) (verifySound_door os _)) ?_
  intro W base args ds gs before hval0 hW _ hSz hL _
  have hval : ∀ (j : Nat) t v, Tryz.f5.params[j]? = some t → args[j]? = some v → Value.okWide Tryz.prog W .any base t v := hval0
  have hW' := hW
  obtain ⟨p, q, hA0, hV, rfl, hfz, hnd⟩ := hW
  have hA : DataW.TrodAll enc Tryz.prog W 0 (fun _ => true) true Tryz.f5.params.toList args.toList ds p := hA0
  rw [Tryz.params5] at hA hval
  obtain ⟨v0, vs0, d0, ds0, p0, qq0, hargs, rfl, rfl, h0, r0⟩ := trodAll_cons hA
  obtain ⟨v1, vs1, d1, ds1, p1, qq1, rfl, rfl, rfl, h1, r1⟩ := trodAll_cons r0
  obtain ⟨rfl, rfl, rfl⟩ := trodAll_nil r1
  obtain rfl : args = #[v0, v1] := by cases args; simp_all
  obtain ⟨rfl, rfl⟩ := trodVars_none hV
  have k0 := h0
  have lt0 : ∀ x ∈ p0, x.block < W.heap.size := fun x hx => hW'.lt x (by simp [hx])
  have k1 := h1
  have lt1 : ∀ x ∈ p1, x.block < W.heap.size := fun x hx => hW'.lt x (by simp [hx])
  obtain ⟨q0, q1, q2, q3, q4, q5, q6, q7, q8, q9, q10, q11, q12, q13, y0, y1, y2, y3, y4, y5, y6, y7, y8, y9, y10, y11, y12, y13, m0, rfl, rfl, g0, g1, g2, g3, g4, g5, g6, g7, g8, g9, g10, g11, g12, g13⟩ := Vf.prog_open (hval 0 28 v0 rfl rfl) h0
  have hS : ∀ k ∈ (DataW.agg [y0.1, y1.1, y2.1, y3.1, y4.1, y5.1, y6.1, y7.1, y8.1, y9.1, y10.1, y11.1, y12.1, y13.1] : DataW H).weights Tryz.prog 28, k ≤ reachBytes := fun k hk => by simpa using List.all_eq_true.1 hSz k (DataW.weights_mem_each (j := 0) (by kernel_rfl) rfl k hk)
  obtain ⟨s0, e0, _⟩ := DataW.trod_string Tryz.underlying9 g0
  obtain ⟨s1, e1, _⟩ := DataW.trod_string Tryz.underlying9 g1
  obtain ⟨i2, e2, _⟩ := DataW.trod_int Tryz.underlying2 g2
  obtain ⟨i3, e3, _⟩ := DataW.trod_int Tryz.underlying2 g3
  simp at e0 e1 e2 e3
  subst e0 e1 e2 e3
  obtain ⟨a4, l4, c4, rfl, in4, n4⟩ := Vf.strs_read g4 (fun k hk => hS k (Vf.in_prog4 hk))
  obtain ⟨a5, l5, c5, rfl, in5, n5⟩ := Vf.accs_read g5 (fun k hk => hS k (Vf.in_prog5 hk))
  obtain ⟨a6, l6, c6, rfl, in6, n6⟩ := Vf.strs_read g6 (fun k hk => hS k (Vf.in_prog6 hk))
  obtain ⟨a7, l7, c7, rfl, in7, n7⟩ := Vf.strs_read g7 (fun k hk => hS k (Vf.in_prog7 hk))
  obtain ⟨a8, l8, c8, rfl, in8, n8⟩ := Vf.strs_read g8 (fun k hk => hS k (Vf.in_prog8 hk))
  obtain ⟨a9, l9, c9, rfl, in9, n9⟩ := Vf.lists_read g9 (fun k hk => hS k (Vf.in_prog9 hk))
  obtain ⟨a12, l12, c12, rfl, in12, n12, cb12⟩ := Vf.ins_read g12 (fun k hk => hS k (Vf.in_prog12 hk))
  obtain ⟨a13, l13, c13, rfl, in13, n13, cb13⟩ := Vf.ins_read g13 (fun k hk => hS k (Vf.in_prog13 hk))
  obtain ⟨a10, l10, c10, rfl⟩ := Vf.ints_any g10
  obtain ⟨a11, l11, c11, rfl⟩ := Vf.ints_any g11
  obtain ⟨fa1, fl1, fc1, rfl⟩ := okWide_slice Tryz.underlying49 (hval 1 49 v1 rfl rfl)
  obtain ⟨fuel1, hf1⟩ := h1
  obtain ⟨ab1, lb1, cb1, e1_, inb1, nb1⟩ := Vf.bls_read hf1 (fun k hk => by simpa using List.all_eq_true.1 hSz k (DataW.weights_mem_each (j := 1) (by kernel_rfl) rfl k hk))
  injection e1_ with ea1 el1 ec1
  subst ea1 el1 ec1
  clear hA0 hval0
  have hU : UT W := verifySound_tabs hL
  have hE : ET W := verifySound_handle hL
  have hR : Vf.RT W := verifySound_rows hL
  refine (Vf.verifySound_walk ⟨s0, s1, i2, i3, ⟨a4, l4.length, c4⟩, ⟨a5, l5.length, c5⟩, ⟨a6, l6.length, c6⟩, ⟨a7, l7.length, c7⟩, ⟨a8, l8.length, c8⟩, ⟨a9, l9.length, c9⟩, ⟨a10, l10, c10⟩, ⟨a11, l11, c11⟩, ⟨a12, l12.length, c12⟩, ⟨a13, l13.length, c13⟩⟩ ⟨l4, l5, l6, l7, l8, l9, l12, l13⟩ fa1 lb1 fc1 ⟨rfl, rfl, rfl, rfl, rfl, rfl, rfl, rfl, n4, n5, n6, n7, n8, n9, n12, n13⟩ nb1 cb12 cb13 W hU hR hE ⟨in4, in5, in6, in7, in8, in9, in12, in13⟩ inb1).mono fun e W' ⟨he, hg⟩ => ?_
  subst he
  exact ⟨_, rfl, _, _, _, [], (p0 ++ (p1 ++ [])), [], hW', trodAll_cons_mk (shut_bool Tryz.underlying4 _) trodAll_mk0, (trodAll_cons_mk (Below.trod verifySound_laidOut (by kernel_rfl) (of_decide_eq_true (by kernel_rfl)) k0 hg lt0) (trodAll_cons_mk (Below.trod verifySound_laidOut (by kernel_rfl) (of_decide_eq_true (by kernel_rfl)) k1 hg lt1) trodAll_mk0)), rfl, hg.frame _, fun h => by cases h⟩

theorem verifySound_row : Rows.VerifySoundSaid :=
  OpenClaim.holds_of_wide 5 Tryz.f5 rfl rfl rfl rfl rfl rfl rfl ⟨rfl, rfl, rfl, rfl, rfl⟩ rfl rfl rfl rfl rfl (by kernel_rfl) Tryz.func5 (by kernel_rfl)
    (of_decide_eq_true (by kernel_rfl)) (by unfold Func.isWrapper; first | (rw [if_pos (by decide +kernel)]; kernel_rfl) | (rw [if_neg (by decide +kernel)]; exact ⟨rfl, rfl⟩))
    (fun os started H enc _ => verifySound_lifted os started H enc)

theorem verifySound_holds : Rows.VerifySoundCardSaid :=
  Claim7.holds_tied_plain_at .later [] [.data, .handle, .data, .pinned] true Rows.verifySoundCard.stood.harness true
    verifySound_row (fun _ h => by cases h) (by kernel_rfl) (fun _ h => by cases h) verifySound_row_tie rfl ⟨rfl, rfl⟩ (by kernel_rfl) rfl
    (fun f fn hf hfn => by
      obtain rfl : f = 5 := Option.some.inj ((show Tryz.prog.funcNamed Rows.verifySoundRow.func = some 5 by kernel_rfl).symm.trans hf) |>.symm
      obtain rfl : fn = Tryz.f5 := (Option.some.inj (Tryz.func5.symm.trans hfn)).symm
      exact ⟨by kernel_rfl, fun j t ht => by
        rw [Tryz.params5] at ht
        have hm : t ∈ [28, 49] := by simpa using Array.mem_of_getElem? ht
        have hall : ([28, 49].all fun u => !Tryz.prog.wantsStandIn u) = true := by kernel_rfl
        exact (show Tryz.prog.wantsStandIn t = false by simpa using List.all_eq_true.1 hall t hm)⟩)
    (by kernel_rfl)
#print axioms verifySound_holds
end Go.Proofs.YtdfnomglkibfbaaGreatDoor


