
import Derived.Test.YtdfnomglkibfbaaGreatDoorVzD
import Derived.ProofKit
import Derived.OpenShut
import Derived.Carry
import Derived.Deep.SlicePairs
import Derived.Lib.SmallJoins
import Derived.Lib.LaidU8
import Derived.Test.YtdfnomglkibfbaaGreatDoorVzA
import Derived.Test.YtdfnomglkibfbaaGreatDoorVfN
import Derived.Lib.AppendZeros
import Derived.Laws.AppendOwn
import Derived.Deep.Upon
import Derived.Test.YtdfnomglkibfbaaGreatDoorVgI
import Derived.Test.YtdfnomglkibfbaaGreatDoorVgJq
import Derived.Test.YtdfnomglkibfbaaGreatDoorVgKq
import Derived.Deep.Cut
namespace Go.Proofs.YtdfnomglkibfbaaGreatDoor.Vf
open Go.ChangeShapes Go.WideShapes Go.ChangeAt Go.RowKit Go.Joins
set_option linter.unusedVariables false
set_option linter.unusedSimpArgs false
set_option maxRecDepth 100000
theorem RT_of_reads {W : World} (h : Lib.VarReads Tryz.prog W "weir/verify.rows" Rows.laid_weir_verify_rows) : RT W := by
  obtain ⟨g, t, cs, fuel, p, hg, ht, hvar, hd⟩ := h
  obtain rfl := Option.some.inj (rows_global.symm.trans hg)
  obtain rfl := Option.some.inj (rows_type.symm.trans ht)
  obtain ⟨xs, m, hk, hx, hcl, hxl, hff⟩ := DataW.trod_array Tryz.underlying250 hd
  rw [rows_cells] at hcl
  simp only [rows_cell] at hff
  have hx1 := congrArg (·.1) hx
  rw [laid_rows] at hx1
  have hx2 : rowsL.map rowD = xs.map (·.1) := by simpa using hx1
  intro c hc j hj
  have hxc : c < xs.length := by omega
  have e1 := hff c hc
  rw [List.getElem?_eq_getElem hxc] at e1
  have e2 : (xs[c]).1 = rowD (rowF c) := by
    have a := congrArg (fun l => l[c]?) hx2
    simp only [List.getElem?_map] at a
    rw [List.getElem?_eq_getElem hxc] at a
    have hrl : c < rowsL.length := by simpa [rowsL] using hc
    rw [List.getElem?_eq_getElem hrl] at a
    simp only [Option.map_some, Option.some.injEq] at a
    rw [← a]
    unfold rowF
    rw [List.getD_eq_getElem?_getD, List.getElem?_eq_getElem hrl]; rfl
  have e3 := row_trod e1 e2
  have h0 := World.var?_cell rows_global hvar (c * 6 + j)
  rw [h0, ← e3, List.getElem?_take_of_lt hj, List.getElem?_drop]
  simp
theorem weightsAll_mem {H : Type} {P : Program} {e : TypeId} {k : Nat} : ∀ {l : List (DataW H)} {d : DataW H}, d ∈ l → k ∈ d.weights P e → k ∈ DataW.weightsAll P e l
  | x :: r, d, hd, hk => by
    unfold DataW.weightsAll
    rcases List.mem_cons.1 hd with rfl | hd
    · exact List.mem_append_left _ hk
    · exact List.mem_append_right _ (weightsAll_mem hd hk)
theorem add_at (b off i : Nat) : (⟨b, off, none⟩ : Addr).add i = ⟨b, off + i, none⟩ := by unfold Addr.add; split <;> simp_all
/-- a slice, as it is read: c cells an element, each as Q says. -/
theorem sl_read {H : Type} {enc : TypeId × Value → H} {W : World} {v : Value} {y : DataW H × List MemPlace} {fuel : Nat} {T E : TypeId} {α : Type} [Inhabited α]
    (hu : Tryz.prog.underlying T = some (.slice E)) (c : Nat) (hce : Tryz.prog.cellsOf E = c) (hc0 : 0 < c) (hby : 1 ≤ Tryz.prog.bytesOf E) (Q : α → List Value → Prop)
    (hf : DataW.trod enc Tryz.prog W 0 (fun _ => true) true fuel T [v] = some y) (hw : ∀ k ∈ y.1.weights Tryz.prog T, k ≤ reachBytes)
    (hel : ∀ n cs' z, DataW.trod enc Tryz.prog W 0 (fun _ => true) true n E cs' = some z → cs'.length = c → (∀ k ∈ z.1.weights Tryz.prog E, k ≤ reachBytes) → ∃ x : α, Q x cs') :
    ∃ a l cap, v = .slice a l.length cap ∧ (l = [] ∨ ∃ b off, a = some ⟨b, off, none⟩ ∧ b < W.heap.size ∧ ∀ i t, l[i]? = some t → ∃ cs', Q t cs' ∧ cs'.length = c ∧ ∀ j, j < c → W.cell? ⟨b, off + i * c + j, none⟩ = cs'[j]?) ∧ l.length ≤ 1152921504606846976 := by
  rcases Go.Deep.open_slice hu hf with ⟨hcs, hx⟩ | ⟨a, len, cap, m, n, D, Pl, hcs, hb, hl, hm, hmm, hx, hall⟩
  · simp at hcs
    subst hcs
    exact ⟨none, [], 0, rfl, Or.inl rfl, by simp⟩
  · simp at hcs
    subst hcs
    simp only [if_true] at hmm
    subst hmm
    have hd : y.1 = .slice ((List.range len).map D) ((List.range (m - len)).map fun j => D (len + j)) := congrArg (·.1) hx
    have hlen : len ≤ 1152921504606846976 := by
      have h1 := hw ((((List.range len).map D).length + ((List.range (m - len)).map fun j => D (len + j)).length) * Tryz.prog.bytesOf E) (by rw [hd]; simp [DataW.weights, hu])
      rw [List.length_map, List.length_map, List.length_range, List.length_range] at h1
      have h2 : reachBytes = 140737488351232 := by decide
      have h3 : len ≤ (len + (m - len)) * Tryz.prog.bytesOf E := Nat.le_trans (by omega) (Nat.le_mul_of_pos_right _ hby)
      omega
    have each : ∀ i, i < len → ∃ x : α, ∃ cs', Q x cs' ∧ cs'.length = c ∧ ∀ j, j < c → W.cell? (a.add (i * c + j)) = cs'[j]? := by
      intro i hi
      obtain ⟨cs', h1, h2⟩ := hall i (by omega)
      rw [hce] at h1
      obtain ⟨_, hlen', hcell⟩ := World.cells?_some h1
      obtain ⟨x, hx'⟩ := hel n cs' _ h2 hlen' (fun k hk => hw k (by
        rw [hd]
        unfold DataW.weights
        rw [hu]
        exact List.mem_cons_of_mem _ (List.mem_append_left _ (weightsAll_mem (List.mem_map.2 ⟨i, List.mem_range.2 hi, rfl⟩) hk))))
      refine ⟨x, cs', hx', hlen', fun j hj => ?_⟩
      have := hcell j (by omega)
      rw [Go.Deep.add_add] at this
      exact this
    obtain ⟨g, hg⟩ : ∃ g : Nat → α, ∀ i, i < len → ∃ cs', Q (g i) cs' ∧ cs'.length = c ∧ ∀ j, j < c → W.cell? (a.add (i * c + j)) = cs'[j]? := ⟨fun i => if hi : i < len then Classical.choose (each i hi) else default, fun i hi => by simp only [hi, dif_pos]; exact Classical.choose_spec (each i hi)⟩
    refine ⟨some a, (List.range len).map g, m, by simp, ?_, by simpa using hlen⟩
    rcases Nat.eq_zero_or_pos len with h0 | h0
    · exact Or.inl (by rw [h0]; rfl)
    · right
      obtain ⟨b, off, spot⟩ := a
      obtain ⟨cs0, _, l0, k0⟩ := hg 0 h0
      have k00 := k0 0 hc0
      obtain ⟨v0, hv0⟩ : ∃ v0, cs0[0]? = some v0 := ⟨_, List.getElem?_eq_getElem (by omega)⟩
      rw [hv0] at k00
      have hspot : spot = none := by simpa [Addr.add] using World.cell?_spot k00
      subst hspot
      refine ⟨b, off, rfl, ?_, fun i t ht => ?_⟩
      · rw [add_at] at k00
        exact World.block_lt_of_cell? _ _ k00
      · rw [List.getElem?_map, Option.map_eq_some_iff] at ht
        obtain ⟨i', hi', rfl⟩ := ht
        have hlt := (List.getElem?_eq_some_iff.1 hi').1
        rw [List.length_range] at hlt
        rw [List.getElem?_range hlt] at hi'
        injection hi' with hi'
        subst hi'
        obtain ⟨cs', q1, q2, q3⟩ := hg i hlt
        refine ⟨cs', q1, q2, fun j hj => ?_⟩
        have := q3 j hj
        rw [add_at] at this
        rw [Nat.add_assoc]
        exact this
theorem strs_read {H : Type} {enc : TypeId × Value → H} {W : World} {v : Value} {y : DataW H × List MemPlace} {fuel : Nat}
    (hf : DataW.trod enc Tryz.prog W 0 (fun _ => true) true fuel 22 [v] = some y) (hw : ∀ k ∈ y.1.weights Tryz.prog 22, k ≤ reachBytes) :
    ∃ a l cap, v = .slice a l.length cap ∧ StIn W a l ∧ l.length ≤ 1152921504606846976 := by
  haveI : Inhabited ByteArray := ⟨⟨#[]⟩⟩
  obtain ⟨a, l, cap, h1, h2, h3⟩ := sl_read (α := ByteArray) Tryz.underlying22 1 (by kernel_rfl) (by omega) (of_decide_eq_true (by kernel_rfl)) (fun s cs => cs = [.string s]) hf hw (fun n cs' z hz hl _ => by
    match cs', hl with
    | [v], _ =>
      obtain ⟨s, e, _⟩ := DataW.trod_string Tryz.underlying9 hz
      exact ⟨s, e⟩)
  refine ⟨a, l, cap, h1, ?_, h3⟩
  rcases h2 with h2 | ⟨b, off, e1, e2, e3⟩
  · exact Or.inl h2
  · refine Or.inr ⟨b, off, e1, e2, fun i t ht => ?_⟩
    obtain ⟨cs', q1, q2, q3⟩ := e3 i t ht
    have := q3 0 (by omega)
    rw [q1] at this
    simpa using this
theorem accs_read {H : Type} {enc : TypeId × Value → H} {W : World} {v : Value} {y : DataW H × List MemPlace} {fuel : Nat}
    (hf : DataW.trod enc Tryz.prog W 0 (fun _ => true) true fuel 23 [v] = some y) (hw : ∀ k ∈ y.1.weights Tryz.prog 23, k ≤ reachBytes) :
    ∃ a l cap, v = .slice a l.length cap ∧ AcIn W a l ∧ l.length ≤ 1152921504606846976 := by
  haveI : Inhabited AcP := ⟨(0, ⟨#[]⟩)⟩
  obtain ⟨a, l, cap, h1, h2, h3⟩ := sl_read (α := AcP) Tryz.underlying23 2 (by kernel_rfl) (by omega) (of_decide_eq_true (by kernel_rfl)) (fun s cs => cs = [.int .u8 (s.1 : Int), .string s.2]) hf hw (fun n cs' z hz hl _ => by
    obtain ⟨xs, k, hk, hxy, _, hxl, hff⟩ := DataW.trod_struct Tryz.underlying55 hz
    match xs, hxl, cs', hl with
    | [y0, y1], _, [v0, v1], _ =>
      have cs : Tryz.prog.cellsOf 9 = 1 := by kernel_rfl
      have cu : Tryz.prog.cellsOf 53 = 1 := by kernel_rfl
      have g0 : DataW.trod enc Tryz.prog W 0 (fun _ => true) true k 53 (List.take (Tryz.prog.cellsOf 53) [v0, v1]) = some y0 := hff 0 _ rfl
      have g1 : DataW.trod enc Tryz.prog W 0 (fun _ => true) true k 9 (List.take (Tryz.prog.cellsOf 9) [v1]) = some y1 := hff 1 _ rfl
      rw [cu] at g0
      rw [cs] at g1
      simp only [List.take_succ_cons, List.take_zero] at g0 g1
      obtain ⟨k0, e0, _, w0⟩ := DataW.trod_int Tryz.underlying53 g0
      obtain ⟨s1, e1, _, w1⟩ := DataW.trod_string Tryz.underlying9 g1
      simp at e0 e1
      subst e0 e1
      have wb := bounds_u8 w0
      exact ⟨(k0.toNat, s1), by simp only; rw [Int.toNat_of_nonneg (by omega)]⟩)
  refine ⟨a, l, cap, h1, ?_, h3⟩
  rcases h2 with h2 | ⟨b, off, e1, e2, e3⟩
  · exact Or.inl h2
  · refine Or.inr ⟨b, off, e1, e2, fun i t ht => ?_⟩
    obtain ⟨cs', q1, q2, q3⟩ := e3 i t ht
    have r0 := q3 0 (by omega)
    have r1 := q3 1 (by omega)
    rw [q1] at r0 r1
    exact ⟨by simpa using r0, by simpa using r1⟩
theorem ins_read {H : Type} {enc : TypeId × Value → H} {W : World} {v : Value} {y : DataW H × List MemPlace} {fuel : Nat}
    (hf : DataW.trod enc Tryz.prog W 0 (fun _ => true) true fuel 26 [v] = some y) (hw : ∀ k ∈ y.1.weights Tryz.prog 26, k ≤ reachBytes) :
    ∃ a l cap, v = .slice a l.length cap ∧ InIn W a l ∧ l.length ≤ 1152921504606846976 ∧ ∀ (j : Nat) (t : InP), l[j]? = some t → t.c < 256 := by
  haveI : Inhabited InP := ⟨⟨0, 0, 0⟩⟩
  obtain ⟨a, l, cap, h1, h2, h3⟩ := sl_read (α := InP) Tryz.underlying26 3 (by kernel_rfl) (by omega) (of_decide_eq_true (by kernel_rfl)) (fun s cs => cs = [.int .u8 (s.c : Int), .int .i64 s.a, .int .i64 s.b] ∧ s.c < 256) hf hw (fun n cs' z hz hl _ => by
    obtain ⟨xs, k, hk, hxy, _, hxl, hff⟩ := DataW.trod_struct Tryz.underlying59 hz
    match xs, hxl, cs', hl with
    | [y0, y1, y2], _, [v0, v1, v2], _ =>
      have ci : Tryz.prog.cellsOf 3 = 1 := by kernel_rfl
      have cu : Tryz.prog.cellsOf 57 = 1 := by kernel_rfl
      have g0 : DataW.trod enc Tryz.prog W 0 (fun _ => true) true k 57 (List.take (Tryz.prog.cellsOf 57) [v0, v1, v2]) = some y0 := hff 0 _ rfl
      have g1 : DataW.trod enc Tryz.prog W 0 (fun _ => true) true k 3 (List.take (Tryz.prog.cellsOf 3) [v1, v2]) = some y1 := hff 1 _ rfl
      have g2 : DataW.trod enc Tryz.prog W 0 (fun _ => true) true k 3 (List.take (Tryz.prog.cellsOf 3) [v2]) = some y2 := hff 2 _ rfl
      rw [cu] at g0
      rw [ci] at g1 g2
      simp only [List.take_succ_cons, List.take_zero] at g0 g1 g2
      obtain ⟨k0, e0, _, w0⟩ := DataW.trod_int Tryz.underlying57 g0
      obtain ⟨k1, e1, _, w1⟩ := DataW.trod_int Tryz.underlying3 g1
      obtain ⟨k2, e2, _, w2⟩ := DataW.trod_int Tryz.underlying3 g2
      simp at e0 e1 e2
      subst e0 e1 e2
      have wb := bounds_u8 w0
      exact ⟨⟨k0.toNat, k1, k2⟩, by simp only; rw [Int.toNat_of_nonneg (by omega)], by simp only; omega⟩)
  refine ⟨a, l, cap, h1, ?_, h3, fun j t ht => ?_⟩
  · rcases h2 with h2 | ⟨b, off, e1, e2, e3⟩
    · exact Or.inl h2
    · refine Or.inr ⟨b, off, e1, e2, fun i t ht => ?_⟩
      obtain ⟨cs', q1, q2, q3⟩ := e3 i t ht
      have r0 := q3 0 (by omega)
      have r1 := q3 1 (by omega)
      have r2 := q3 2 (by omega)
      rw [q1.1] at r0 r1 r2
      exact ⟨by simpa using r0, by simpa using r1, by simpa using r2⟩
  · rcases h2 with h2 | ⟨b, off, e1, e2, e3⟩
    · rw [h2] at ht; simp at ht
    · obtain ⟨cs', q1, q2, q3⟩ := e3 j t ht
      exact q1.2
theorem lists_read {H : Type} {enc : TypeId × Value → H} {W : World} {v : Value} {y : DataW H × List MemPlace} {fuel : Nat}
    (hf : DataW.trod enc Tryz.prog W 0 (fun _ => true) true fuel 24 [v] = some y) (hw : ∀ k ∈ y.1.weights Tryz.prog 24, k ≤ reachBytes) :
    ∃ a l cap, v = .slice a l.length cap ∧ LsIn W a l ∧ l.length ≤ 1152921504606846976 := by
  obtain ⟨a, l, cap, h1, h2, h3⟩ := sl_read (α := List ByteArray) Tryz.underlying24 1 (by kernel_rfl) (by omega) (of_decide_eq_true (by kernel_rfl)) (fun s cs => s.length ≤ 1152921504606846976 ∧ ∃ x c, cs = [.slice x s.length c] ∧ StIn W x s) hf hw (fun n cs' z hz hl hzw => by
    match cs', hl with
    | [v], _ =>
      obtain ⟨x, s, c, e1, e2, e3⟩ := strs_read hz hzw
      exact ⟨s, e3, x, c, by rw [e1], e2⟩)
  refine ⟨a, l, cap, h1, ?_, h3⟩
  rcases h2 with h2 | ⟨b, off, e1, e2, e3⟩
  · exact Or.inl h2
  · refine Or.inr ⟨b, off, e1, e2, fun i t ht => ?_⟩
    obtain ⟨cs', ⟨q0, x, c, q1, q4⟩, q2, q3⟩ := e3 i t ht
    have := q3 0 (by omega)
    rw [q1] at this
    exact ⟨q0, x, c, by simpa using this, q4⟩
theorem ints_any {H : Type} {enc : TypeId × Value → H} {W : World} {v : Value} {y : DataW H × List MemPlace} {fuel : Nat}
    (hf : DataW.trod enc Tryz.prog W 0 (fun _ => true) true fuel 25 [v] = some y) : ∃ a n cap, v = .slice a n cap := by
  rcases Go.Deep.open_slice Tryz.underlying25 hf with ⟨hcs, hx⟩ | ⟨a, len, cap, m, n, D, Pl, hcs, _⟩
  · simp at hcs; exact ⟨_, _, _, hcs⟩
  · simp at hcs; exact ⟨_, _, _, hcs⟩
theorem len14 {α : Type} : ∀ {l : List α}, l.length = 14 → ∃ a0 a1 a2 a3 a4 a5 a6 a7 a8 a9 a10 a11 a12 a13, l = [a0, a1, a2, a3, a4, a5, a6, a7, a8, a9, a10, a11, a12, a13]
  | [a0, a1, a2, a3, a4, a5, a6, a7, a8, a9, a10, a11, a12, a13], _ => ⟨a0, a1, a2, a3, a4, a5, a6, a7, a8, a9, a10, a11, a12, a13, rfl⟩
/-- a program by value, opened. -/
theorem prog_open {H : Type} {enc : TypeId × Value → H} {W : World} {v : Value} {b0 : Nat} {d : DataW H} {p : List MemPlace} (hv : Value.okWide Tryz.prog W .any b0 28 v) (h : DataW.Trod enc Tryz.prog W 0 (fun _ => true) true 28 v d p) :
    ∃ (c0 c1 c2 c3 c4 c5 c6 c7 c8 c9 c10 c11 c12 c13 : Value) (y0 y1 y2 y3 y4 y5 y6 y7 y8 y9 y10 y11 y12 y13 : DataW H × List MemPlace) (n : Nat), v = .agg #[c0, c1, c2, c3, c4, c5, c6, c7, c8, c9, c10, c11, c12, c13] ∧ d = .agg [y0.1, y1.1, y2.1, y3.1, y4.1, y5.1, y6.1, y7.1, y8.1, y9.1, y10.1, y11.1, y12.1, y13.1] ∧ DataW.trod enc Tryz.prog W 0 (fun _ => true) true n 9 [c0] = some y0 ∧ DataW.trod enc Tryz.prog W 0 (fun _ => true) true n 9 [c1] = some y1 ∧ DataW.trod enc Tryz.prog W 0 (fun _ => true) true n 2 [c2] = some y2 ∧ DataW.trod enc Tryz.prog W 0 (fun _ => true) true n 2 [c3] = some y3 ∧ DataW.trod enc Tryz.prog W 0 (fun _ => true) true n 22 [c4] = some y4 ∧ DataW.trod enc Tryz.prog W 0 (fun _ => true) true n 23 [c5] = some y5 ∧ DataW.trod enc Tryz.prog W 0 (fun _ => true) true n 22 [c6] = some y6 ∧ DataW.trod enc Tryz.prog W 0 (fun _ => true) true n 22 [c7] = some y7 ∧ DataW.trod enc Tryz.prog W 0 (fun _ => true) true n 22 [c8] = some y8 ∧ DataW.trod enc Tryz.prog W 0 (fun _ => true) true n 24 [c9] = some y9 ∧ DataW.trod enc Tryz.prog W 0 (fun _ => true) true n 25 [c10] = some y10 ∧ DataW.trod enc Tryz.prog W 0 (fun _ => true) true n 25 [c11] = some y11 ∧ DataW.trod enc Tryz.prog W 0 (fun _ => true) true n 26 [c12] = some y12 ∧ DataW.trod enc Tryz.prog W 0 (fun _ => true) true n 26 [c13] = some y13 := by
  obtain ⟨cs, rfl, hsz⟩ := okWide_struct Tryz.underlying28 hv
  have hC : Tryz.prog.cellsOf 28 = 14 := by kernel_rfl
  obtain ⟨c0, c1, c2, c3, c4, c5, c6, c7, c8, c9, c10, c11, c12, c13, hcs⟩ := len14 (l := cs.toList) (by rw [Array.length_toList]; exact hsz.trans hC)
  obtain rfl : cs = #[c0, c1, c2, c3, c4, c5, c6, c7, c8, c9, c10, c11, c12, c13] := by cases cs; simp_all
  obtain ⟨fuel, hf⟩ := h
  obtain ⟨xs, n, _, hx, _, hlen, hff⟩ := DataW.trod_struct Tryz.underlying28 hf
  have hl14 : xs.length = 14 := hlen
  obtain ⟨y0, y1, y2, y3, y4, y5, y6, y7, y8, y9, y10, y11, y12, y13, rfl⟩ := len14 hl14
  have k0 : Tryz.prog.cellsOf 9 = 1 := by kernel_rfl
  have k1 : Tryz.prog.cellsOf 9 = 1 := by kernel_rfl
  have k2 : Tryz.prog.cellsOf 2 = 1 := by kernel_rfl
  have k3 : Tryz.prog.cellsOf 2 = 1 := by kernel_rfl
  have k4 : Tryz.prog.cellsOf 22 = 1 := by kernel_rfl
  have k5 : Tryz.prog.cellsOf 23 = 1 := by kernel_rfl
  have k6 : Tryz.prog.cellsOf 22 = 1 := by kernel_rfl
  have k7 : Tryz.prog.cellsOf 22 = 1 := by kernel_rfl
  have k8 : Tryz.prog.cellsOf 22 = 1 := by kernel_rfl
  have k9 : Tryz.prog.cellsOf 24 = 1 := by kernel_rfl
  have k10 : Tryz.prog.cellsOf 25 = 1 := by kernel_rfl
  have k11 : Tryz.prog.cellsOf 25 = 1 := by kernel_rfl
  have k12 : Tryz.prog.cellsOf 26 = 1 := by kernel_rfl
  have k13 : Tryz.prog.cellsOf 26 = 1 := by kernel_rfl
  have g0 : DataW.trod enc Tryz.prog W 0 (fun _ => true) true n 9 (List.take (Tryz.prog.cellsOf 9) [c0, c1, c2, c3, c4, c5, c6, c7, c8, c9, c10, c11, c12, c13]) = some y0 := hff 0 _ rfl
  rw [k0] at g0
  simp only [List.take_succ_cons, List.take_zero] at g0
  have g1 : DataW.trod enc Tryz.prog W 0 (fun _ => true) true n 9 (List.take (Tryz.prog.cellsOf 9) [c1, c2, c3, c4, c5, c6, c7, c8, c9, c10, c11, c12, c13]) = some y1 := hff 1 _ rfl
  rw [k1] at g1
  simp only [List.take_succ_cons, List.take_zero] at g1
  have g2 : DataW.trod enc Tryz.prog W 0 (fun _ => true) true n 2 (List.take (Tryz.prog.cellsOf 2) [c2, c3, c4, c5, c6, c7, c8, c9, c10, c11, c12, c13]) = some y2 := hff 2 _ rfl
  rw [k2] at g2
  simp only [List.take_succ_cons, List.take_zero] at g2
  have g3 : DataW.trod enc Tryz.prog W 0 (fun _ => true) true n 2 (List.take (Tryz.prog.cellsOf 2) [c3, c4, c5, c6, c7, c8, c9, c10, c11, c12, c13]) = some y3 := hff 3 _ rfl
  rw [k3] at g3
  simp only [List.take_succ_cons, List.take_zero] at g3
  have g4 : DataW.trod enc Tryz.prog W 0 (fun _ => true) true n 22 (List.take (Tryz.prog.cellsOf 22) [c4, c5, c6, c7, c8, c9, c10, c11, c12, c13]) = some y4 := hff 4 _ rfl
  rw [k4] at g4
  simp only [List.take_succ_cons, List.take_zero] at g4
  have g5 : DataW.trod enc Tryz.prog W 0 (fun _ => true) true n 23 (List.take (Tryz.prog.cellsOf 23) [c5, c6, c7, c8, c9, c10, c11, c12, c13]) = some y5 := hff 5 _ rfl
  rw [k5] at g5
  simp only [List.take_succ_cons, List.take_zero] at g5
  have g6 : DataW.trod enc Tryz.prog W 0 (fun _ => true) true n 22 (List.take (Tryz.prog.cellsOf 22) [c6, c7, c8, c9, c10, c11, c12, c13]) = some y6 := hff 6 _ rfl
  rw [k6] at g6
  simp only [List.take_succ_cons, List.take_zero] at g6
  have g7 : DataW.trod enc Tryz.prog W 0 (fun _ => true) true n 22 (List.take (Tryz.prog.cellsOf 22) [c7, c8, c9, c10, c11, c12, c13]) = some y7 := hff 7 _ rfl
  rw [k7] at g7
  simp only [List.take_succ_cons, List.take_zero] at g7
  have g8 : DataW.trod enc Tryz.prog W 0 (fun _ => true) true n 22 (List.take (Tryz.prog.cellsOf 22) [c8, c9, c10, c11, c12, c13]) = some y8 := hff 8 _ rfl
  rw [k8] at g8
  simp only [List.take_succ_cons, List.take_zero] at g8
  have g9 : DataW.trod enc Tryz.prog W 0 (fun _ => true) true n 24 (List.take (Tryz.prog.cellsOf 24) [c9, c10, c11, c12, c13]) = some y9 := hff 9 _ rfl
  rw [k9] at g9
  simp only [List.take_succ_cons, List.take_zero] at g9
  have g10 : DataW.trod enc Tryz.prog W 0 (fun _ => true) true n 25 (List.take (Tryz.prog.cellsOf 25) [c10, c11, c12, c13]) = some y10 := hff 10 _ rfl
  rw [k10] at g10
  simp only [List.take_succ_cons, List.take_zero] at g10
  have g11 : DataW.trod enc Tryz.prog W 0 (fun _ => true) true n 25 (List.take (Tryz.prog.cellsOf 25) [c11, c12, c13]) = some y11 := hff 11 _ rfl
  rw [k11] at g11
  simp only [List.take_succ_cons, List.take_zero] at g11
  have g12 : DataW.trod enc Tryz.prog W 0 (fun _ => true) true n 26 (List.take (Tryz.prog.cellsOf 26) [c12, c13]) = some y12 := hff 12 _ rfl
  rw [k12] at g12
  simp only [List.take_succ_cons, List.take_zero] at g12
  have g13 : DataW.trod enc Tryz.prog W 0 (fun _ => true) true n 26 (List.take (Tryz.prog.cellsOf 26) [c13]) = some y13 := hff 13 _ rfl
  rw [k13] at g13
  simp only [List.take_succ_cons, List.take_zero] at g13
  simp only [Prod.mk.injEq] at hx
  exact ⟨c0, c1, c2, c3, c4, c5, c6, c7, c8, c9, c10, c11, c12, c13, y0, y1, y2, y3, y4, y5, y6, y7, y8, y9, y10, y11, y12, y13, n, rfl, by rw [hx.1]; rfl, g0, g1, g2, g3, g4, g5, g6, g7, g8, g9, g10, g11, g12, g13⟩
theorem in_prog4 {H : Type} {d0 d1 d2 d3 d4 d5 d6 d7 d8 d9 d10 d11 d12 d13 : DataW H} {k : Nat} (hk : k ∈ (d4).weights Tryz.prog 22) : k ∈ (DataW.agg [d0, d1, d2, d3, d4, d5, d6, d7, d8, d9, d10, d11, d12, d13]).weights Tryz.prog 28 := by
  simp [DataW.weights, Tryz.underlying28, DataW.weightsEach, hk]
theorem in_prog5 {H : Type} {d0 d1 d2 d3 d4 d5 d6 d7 d8 d9 d10 d11 d12 d13 : DataW H} {k : Nat} (hk : k ∈ (d5).weights Tryz.prog 23) : k ∈ (DataW.agg [d0, d1, d2, d3, d4, d5, d6, d7, d8, d9, d10, d11, d12, d13]).weights Tryz.prog 28 := by
  simp [DataW.weights, Tryz.underlying28, DataW.weightsEach, hk]
theorem in_prog6 {H : Type} {d0 d1 d2 d3 d4 d5 d6 d7 d8 d9 d10 d11 d12 d13 : DataW H} {k : Nat} (hk : k ∈ (d6).weights Tryz.prog 22) : k ∈ (DataW.agg [d0, d1, d2, d3, d4, d5, d6, d7, d8, d9, d10, d11, d12, d13]).weights Tryz.prog 28 := by
  simp [DataW.weights, Tryz.underlying28, DataW.weightsEach, hk]
theorem in_prog7 {H : Type} {d0 d1 d2 d3 d4 d5 d6 d7 d8 d9 d10 d11 d12 d13 : DataW H} {k : Nat} (hk : k ∈ (d7).weights Tryz.prog 22) : k ∈ (DataW.agg [d0, d1, d2, d3, d4, d5, d6, d7, d8, d9, d10, d11, d12, d13]).weights Tryz.prog 28 := by
  simp [DataW.weights, Tryz.underlying28, DataW.weightsEach, hk]
theorem in_prog8 {H : Type} {d0 d1 d2 d3 d4 d5 d6 d7 d8 d9 d10 d11 d12 d13 : DataW H} {k : Nat} (hk : k ∈ (d8).weights Tryz.prog 22) : k ∈ (DataW.agg [d0, d1, d2, d3, d4, d5, d6, d7, d8, d9, d10, d11, d12, d13]).weights Tryz.prog 28 := by
  simp [DataW.weights, Tryz.underlying28, DataW.weightsEach, hk]
theorem in_prog9 {H : Type} {d0 d1 d2 d3 d4 d5 d6 d7 d8 d9 d10 d11 d12 d13 : DataW H} {k : Nat} (hk : k ∈ (d9).weights Tryz.prog 24) : k ∈ (DataW.agg [d0, d1, d2, d3, d4, d5, d6, d7, d8, d9, d10, d11, d12, d13]).weights Tryz.prog 28 := by
  simp [DataW.weights, Tryz.underlying28, DataW.weightsEach, hk]
theorem in_prog10 {H : Type} {d0 d1 d2 d3 d4 d5 d6 d7 d8 d9 d10 d11 d12 d13 : DataW H} {k : Nat} (hk : k ∈ (d10).weights Tryz.prog 25) : k ∈ (DataW.agg [d0, d1, d2, d3, d4, d5, d6, d7, d8, d9, d10, d11, d12, d13]).weights Tryz.prog 28 := by
  simp [DataW.weights, Tryz.underlying28, DataW.weightsEach, hk]
theorem in_prog11 {H : Type} {d0 d1 d2 d3 d4 d5 d6 d7 d8 d9 d10 d11 d12 d13 : DataW H} {k : Nat} (hk : k ∈ (d11).weights Tryz.prog 25) : k ∈ (DataW.agg [d0, d1, d2, d3, d4, d5, d6, d7, d8, d9, d10, d11, d12, d13]).weights Tryz.prog 28 := by
  simp [DataW.weights, Tryz.underlying28, DataW.weightsEach, hk]
theorem in_prog12 {H : Type} {d0 d1 d2 d3 d4 d5 d6 d7 d8 d9 d10 d11 d12 d13 : DataW H} {k : Nat} (hk : k ∈ (d12).weights Tryz.prog 26) : k ∈ (DataW.agg [d0, d1, d2, d3, d4, d5, d6, d7, d8, d9, d10, d11, d12, d13]).weights Tryz.prog 28 := by
  simp [DataW.weights, Tryz.underlying28, DataW.weightsEach, hk]
theorem in_prog13 {H : Type} {d0 d1 d2 d3 d4 d5 d6 d7 d8 d9 d10 d11 d12 d13 : DataW H} {k : Nat} (hk : k ∈ (d13).weights Tryz.prog 26) : k ∈ (DataW.agg [d0, d1, d2, d3, d4, d5, d6, d7, d8, d9, d10, d11, d12, d13]).weights Tryz.prog 28 := by
  simp [DataW.weights, Tryz.underlying28, DataW.weightsEach, hk]
end Go.Proofs.YtdfnomglkibfbaaGreatDoor.Vf

namespace Go.Proofs.YtdfnomglkibfbaaGreatDoor.Vf
open Go.RowKit
set_option linter.unusedVariables false
set_option linter.unusedSimpArgs false
set_option maxRecDepth 100000
/-! ### plain: a program that passes, passes with longer lists -/
/-- at least as many of each kind. -/
def leZ (z z' : SzP) : Prop := z.names ≤ z'.names ∧ z.texts ≤ z'.texts ∧ z.lists ≤ z'.lists ∧ z.times ≤ z'.times ∧ z.accs ≤ z'.accs ∧ z.ints ≤ z'.ints ∧ z.alias ≤ z'.alias
theorem have_le {z z' : SzP} (h : leZ z z') {o : Nat} {n : Int} (hh : haveB z o n = true) : haveB z' o n = true := by
  obtain ⟨h1, h2, h3, h4, h5, h6, h7⟩ := h
  unfold haveB at *
  rw [Bool.or_eq_true] at *
  rcases hh with hh | hh
  · exact Or.inl hh
  · right
    rw [Bool.and_eq_true, decide_eq_true_eq, decide_eq_true_eq] at *
    refine ⟨hh.1, Int.lt_of_lt_of_le hh.2 ?_⟩
    match o with
    | 0 | 1 | 2 | 3 | 4 | 5 | 6 | 7 | 8 | 9 => simp [szL]; try omega
    | o + 10 => simp [szL]
theorem badP_le {z z' : SzP} (h : leZ z z') {of at_ last : Int} {ra ra' : Bool} (hra : ra = true → ra' = true) {i : InP} (hb : badP z of at_ last ra i = 0) : badP z' of at_ last ra' i = 0 := by
  unfold badP at *
  by_cases c0 : ((rowF i.c).of : Int) ≠ of
  · rw [if_pos c0] at hb; simp at hb
  · rw [if_neg c0] at hb ⊢
    by_cases c1 : ((!haveB z (rowF i.c).a i.a) || (!haveB z (rowF i.c).b i.b) || (i.c == 16 && !ra)) = true
    · rw [if_pos c1] at hb; simp at hb
    · rw [if_neg c1] at hb
      have c2 : ¬ ((!haveB z' (rowF i.c).a i.a) || (!haveB z' (rowF i.c).b i.b) || (i.c == 16 && !ra')) = true := by
        simp only [Bool.or_eq_true, not_or, Bool.not_eq_true', Bool.not_eq_false, Bool.and_eq_true, not_and] at c1 ⊢
        exact ⟨⟨have_le h c1.1.1, have_le h c1.1.2⟩, fun q => hra (c1.2 q)⟩
      rw [if_neg c2]; exact hb
theorem firstBad_zero {f g : Nat → InP → Int} (h : ∀ k i, f k i = 0 → g k i = 0) : ∀ (l : List InP) (k : Nat), firstBad f l k = none → firstBad g l k = none
  | [], _, _ => rfl
  | i :: r, k, hf => by
    unfold firstBad at hf ⊢
    split at hf
    · rename_i q
      rw [if_pos (h k i q)]
      exact firstBad_zero h r (k + 1) hf
    · cases hf
theorem raOf_more {acc : List AcP} (x : List AcP) {a b : Int} (h : raOf acc a b = true) : raOf (acc ++ x) a b = true := by
  unfold raOf at *
  cases ea : acc[a.toNat]? with
  | none => rw [ea] at h; simp at h
  | some u =>
    cases eb : acc[b.toNat]? with
    | none => rw [ea, eb] at h; simp at h
    | some v =>
      rw [ea, eb] at h
      rw [List.getElem?_append_left (List.getElem?_eq_some_iff.1 ea).1, List.getElem?_append_left (List.getElem?_eq_some_iff.1 eb).1, ea, eb]
      exact h
theorem eachP_more {z z' : SzP} (h : leZ z z') (f : Bool) (acc x : List AcP) (l : List InP) (he : eachP z f acc l = none) : eachP z' f (acc ++ x) l = none := by
  unfold eachP at *
  cases q : firstBad (fun k i => badP z (if f then 1 else 2) k ((l.length : Int) - 1) (raOf acc i.a i.b) i) l 0 with
  | some y => rw [q] at he; simp at he
  | none =>
    rw [q] at he
    rw [firstBad_zero (g := fun k i => badP z' (if f then 1 else 2) k ((l.length : Int) - 1) (raOf (acc ++ x) i.a i.b) i) (fun k i hk => badP_le h (raOf_more x) hk) l 0 q]
    exact he
/-- all of it. -/
theorem res_more {p p' : PrH} {q q' : PrL} (hz : leZ p.sz p'.sz) (x : List AcP) (ha : q'.accs = q.accs ++ x) (hf : q'.filter = q.filter) (ho : q'.output = q.output) (hh : hdB p q = true → hdB p' q' = true) (hal : p'.alias.n = p.alias.n) (h : resP p q = none) : resP p' q' = none := by
  unfold resP resOf at *
  cases hd : hdB p q with
  | false => rw [hd] at h; simp at h
  | true =>
    rw [hd] at h
    rw [hh hd]
    simp only [Bool.true_eq_false, if_false] at h ⊢
    rw [ha, hf, ho, hal]
    cases e1 : eachP p.sz true q.accs q.filter with
    | some y => rw [e1] at h; simp at h
    | none =>
      rw [e1] at h
      rw [eachP_more hz true q.accs x q.filter e1]
      simp only at h ⊢
      cases e2 : eachP p.sz false q.accs q.output with
      | some y => rw [e2] at h; simp at h
      | none =>
        rw [e2] at h
        rw [eachP_more hz false q.accs x q.output e2]
        simp only at h ⊢
        cases h1 : (hgtP q.filter 0 m0 []).2 with
        | some k => rw [h1] at h; simp at h
        | none =>
          rw [h1] at h
          simp only at h ⊢
          cases h2 : (hgtP q.output 0 m0 []).2 with
          | some k => rw [h2] at h; simp at h
          | none =>
            rw [h2] at h
            exact h
theorem hd_more {p p' : PrH} {q q' : PrL} (e0 : p'.from_ = p.from_) (e1 : p'.into = p.into) (e2 : p'.every = p.every) (e3 : p'.offset = p.offset) (g : q'.groups = q.groups) (a : q'.accs = q.accs ++ [(7, ⟨#[119]⟩)]) (l : q'.alias = q.alias) (n : q'.names.all columnB = q.names.all columnB) (t : q'.texts = q.texts ++ [⟨#[]⟩]) (li : q'.lists = q.lists) (f : q'.filter = q.filter) (o : q'.output = q.output) (h : hdB p q = true) : hdB p' q' = true := by
  unfold hdB at *
  rw [e0, e1, e2, e3, g, a, l, n, t, li, f, o, List.all_append, List.all_append]
  have ha : ([((7 : Nat), (⟨#[119]⟩ : ByteArray))] : List AcP).all accB = true := by kernel_rfl
  have ht : ([⟨#[]⟩] : List ByteArray).all textB = true := by kernel_rfl
  rw [ha, ht, Bool.and_true, Bool.and_true]
  exact h
end Go.Proofs.YtdfnomglkibfbaaGreatDoor.Vf

namespace Go.Proofs.YtdfnomglkibfbaaGreatDoor.Vf
open Go.RowKit
set_option linter.unusedVariables false
set_option linter.unusedSimpArgs false
set_option maxRecDepth 100000
/-- a slice's type: what its elements are. -/
def Tp (t e : TypeId) (size bytes : Nat) : Prop := ∃ i z, Tryz.prog.underlying t = some (.slice e) ∧ Tryz.prog.info? e = some i ∧ i.zero = some z ∧ i.size = size ∧ i.bytes = bytes ∧ z.cells.size = size ∧ 0 < size
/-- append of a slice, nil or not, to a row of one's own that is not nil. -/
theorem app_src {W : World} {base : Nat} {t e : TypeId} {size bytes : Nat} (T : Tp t e size bytes) (ty : TypeId) {ad0 : Addr} {n cap0 : Nat} {xs : List Value} (own : W.ownsRow base e size (.slice (some ad0) n cap0) n xs) (hb : base ≤ W.heap.size) {a : Option Addr} {m c : Nat} {news : List Value} (hnone : a = none → m = 0) (hl : news.length = m * size) (hc : ∀ ad, a = some ad → ∀ j u, news[j]? = some u → W.cell? (ad.add j) = some u) (h1 : ∀ u ∈ news, u.oneCell' = true) (h63 : n + m ≤ maxLen) (hby : (n + m) * bytes ≤ 140737488355328) :
    ∃ ad cap w', (Builtin.append_ #[t, t] ty #[.slice (some ad0) n cap0, .slice a m c]).run Tryz.prog W = .ok (.slice (some ad) (n + m) cap) w' ∧ w'.ownsRow base e size (.slice (some ad) (n + m) cap) (n + m) (xs ++ news) ∧ W.grownBy w' (some ad0.block) := by
  obtain ⟨i, z, t1, t2, t3, t4, t5, t6, t7⟩ := T
  cases a with
  | some ad =>
    obtain ⟨v', w', r1, r2, r3, r4⟩ := run_append_own (P := Tryz.prog) W base t ty e i z size bytes t1 t2 t3 t4 t5 t6 t7 _ n xs own ad m c news hl (hc ad rfl) h1 h63 hby hb
    obtain ⟨_, q | ⟨g, cap, cur, e1, _⟩⟩ := id r2
    · exact absurd (r4.1 q.1).1 (by simp)
    · subst e1
      exact ⟨_, _, w', r1, r2, r3⟩
  | none =>
    obtain rfl := hnone rfl
    obtain rfl : news = [] := List.eq_nil_of_length_eq_zero (by simpa using hl)
    obtain ⟨o1, o2 | ⟨g, cap, cur, e1, e2, e3, e4, e5, e6, e7⟩⟩ := own
    · simp at o2
    · injection e1 with q1 q2 q3
      subst q3
      refine ⟨ad0, cap0, W, ?_, ?_, ?_⟩
      · exact run_append_nothing (P := Tryz.prog) W t t ty e i t1 t2 (some ad0) n cap0 e4 _ (Src.ofNil W t1 c)
      · rw [Nat.add_zero, List.append_nil]
        exact ⟨o1, Or.inr ⟨g, cap0, cur, by rw [q1], e2, e3, e4, e5, e6, e7⟩⟩
      · exact ⟨rfl, rfl, rfl, Nat.le_refl _, fun k hk _ => rfl⟩
theorem add_at0 (b off i : Nat) : (⟨b, off, none⟩ : Addr).add i = ⟨b, off + i, none⟩ := by unfold Addr.add; split <;> simp_all
/-- a copy of a slice with one element more. -/
theorem more_row {W : World} {t e : TypeId} {size bytes : Nat} (T : Tp t e size bytes) (ty1 ty2 : TypeId) {a : Option Addr} {m c : Nat} {xs : List Value} (hnone : a = none → m = 0) (hl : xs.length = m * size) (hc : ∀ ad, a = some ad → ∀ j u, xs[j]? = some u → W.cell? (ad.add j) = some u) (h1 : ∀ u ∈ xs, u.oneCell' = true) (ys : List Value) (hy : ys.length = size) (hy1 : ∀ u ∈ ys, u.oneCell' = true) (h63 : m + 1 ≤ maxLen) (hby : (m + 1) * bytes ≤ 140737488355328) :
    ∃ ad1 cap1 w1 b cap2 w2, (Builtin.append_ #[t, t] ty1 #[.slice (some ⟨W.heap.size, 0, none⟩) 0 0, .slice a m c]).run Tryz.prog (W.alloc (.cells #[] e)) = .ok (.slice (some ad1) m cap1) w1 ∧ (Builtin.append_ #[t, t] ty2 #[.slice (some ad1) m cap1, .slice (some ⟨w1.heap.size, 0, none⟩) 1 1]).run Tryz.prog (w1.alloc (.cells ys.toArray e)) = .ok (.slice (some ⟨b, 0, none⟩) (m + 1) cap2) w2 ∧ Below W.heap.size W w2 ∧ W.heap.size ≤ b ∧ b < w2.heap.size ∧ ∀ j v, (xs ++ ys)[j]? = some v → w2.cell? ⟨b, j, none⟩ = some v := by
  have T' := T
  obtain ⟨i, z, t1, t2, t3, t4, t5, t6, t7⟩ := T'
  have b0 : Below W.heap.size W (W.alloc (.cells #[] e)) := (Below.refl _ W).alloc (Nat.le_refl _) _
  have own0 : (W.alloc (.cells #[] e)).ownsRow W.heap.size e size (.slice (some ⟨W.heap.size, 0, none⟩) 0 0) 0 [] := ⟨by simp, Or.inr ⟨W.heap.size, 0, #[], rfl, Nat.le_refl _, heap_alloc_new W _, Nat.le_refl _, by omega, by simp, by simp⟩⟩
  obtain ⟨ad1, cap1, w1, r1, o1, g1⟩ := app_src T ty1 own0 (by simp) (a := a) (m := m) (c := c) hnone hl (fun ad e j u hj => by
    have h := hc ad e j u hj
    rw [b0.cell (p := ad.add j) (World.block_lt_of_cell? _ _ h)]; exact h) h1 (by omega) (Nat.le_trans (Nat.mul_le_mul_right _ (by omega)) hby)
  rw [Nat.zero_add] at r1 o1
  rw [List.nil_append] at o1
  have b1 : Below W.heap.size W w1 := b0.grown g1 (by simp) (fun j e => by cases e; exact Nat.le_refl _)
  have b2 : Below W.heap.size W (w1.alloc (.cells ys.toArray e)) := b1.alloc b1.size _
  have o1' : (w1.alloc (.cells ys.toArray e)).ownsRow W.heap.size e size (.slice (some ad1) m cap1) m xs := by
    obtain ⟨q1, q2 | ⟨g, cap, cur, e1, e2, e3, e4, e5, e6, e7⟩⟩ := o1
    · simp at q2
    · refine ⟨q1, Or.inr ⟨g, cap, cur, e1, e2, ?_, e4, e5, e6, e7⟩⟩
      have hg : g < w1.heap.size := (Array.getElem?_eq_some_iff.1 e3).1
      rw [heap_alloc_old w1 _ hg]; exact e3
  obtain ⟨ad2, cap2, w2, r2, o2, g2⟩ := app_src T ty2 o1' (by have := b1.size; simp; omega) (a := some ⟨w1.heap.size, 0, none⟩) (m := 1) (c := 1) (news := ys) (fun h => by cases h) (by omega) (fun ad e' j u hj => by
    injection e' with e'
    subst e'
    rw [add_at0, Nat.zero_add, cell_of_row _ w1.heap.size j _ e (0, 0) (heap_alloc_new w1 _)]
    simpa using hj) hy1 h63 hby
  have hlt1 : W.heap.size ≤ ad1.block := by
    obtain ⟨q1, q2 | ⟨g, cap, cur, e1, e2, _⟩⟩ := o1
    · simp at q2
    · injection e1 with e1
      injection e1 with e1
      rw [e1]; exact e2
  have b3 : Below W.heap.size W w2 := b2.grown g2 b2.size (fun j e => by cases e; exact hlt1)
  obtain ⟨q1, q2 | ⟨g, cap, cur, e1, e2, e3, e4, e5, e6, e7⟩⟩ := o2
  · simp at q2
  · injection e1 with q1' q2' q3'
    injection q1' with q1'
    subst q1' q3'
    refine ⟨ad1, cap1, w1, g, cap2, w2, r1, r2, b3, e2, (Array.getElem?_eq_some_iff.1 e3).1, fun j v hv => ?_⟩
    rw [cell_of_row _ g j _ e (0, 0) e3, ← Array.getElem?_toList]
    rw [← e7] at hv
    have hj : j < (m + 1) * size := by
      have := (List.getElem?_eq_some_iff.1 hv).1
      rw [List.length_take] at this
      omega
    rw [List.getElem?_take_of_lt hj] at hv
    exact hv
theorem wpList_append_runG {P : Program} {ops : Array Oper} {rest : List Oper} {o : Oper} {a : Act} {Q : Exit → Act → World → Prop} {w : World} (hgd : o.guard = none) (s x : Operand) (t : TypeId)
    (ho : o.op = .call { callee := .builtin .append, args := #[s, x], argTypes := #[t, t] }) (v y v' : Value) (w' : World) (hs : a.eval s = v) (hx : a.eval x = y) (hr : (Builtin.append_ #[t, t] o.type #[v, y]).run P w = .ok v' w')
    (h : wpList P ops Q rest (a.put o.dst v') w') : wpList P ops Q (o :: rest) a w := by
  refine wpList_plain hgd fun K hK => ?_
  unfold Oper.wp execOp
  simp only [ho, resolve, invoke, builtin, Sem.run_bind, Sem.run_pure, Result.andThen_ok, List.map_toArray, List.map_cons, List.map_nil, hs, hx, hr]
  exact hK _ _ h
end Go.Proofs.YtdfnomglkibfbaaGreatDoor.Vf

namespace Go.Proofs.YtdfnomglkibfbaaGreatDoor.Vf
open Go.RowKit
set_option linter.unusedVariables false
set_option linter.unusedSimpArgs false
set_option maxRecDepth 100000
theorem tp_of {t e : TypeId} {z : Value} {size bytes : Nat} (ht : Tryz.prog.underlying t = some (.slice e)) (hi : (Tryz.prog.info? e).map (fun i => (i.zero, i.bytes, i.size)) = some (some z, bytes, size)) (hz : z.cells.size = size) (h0 : 0 < size) : Tp t e size bytes := by
  obtain ⟨i, i1, i0⟩ := Option.map_eq_some_iff.1 hi
  exact ⟨i, z, ht, i1, congrArg (·.1) i0, congrArg (·.2.2) i0, congrArg (·.2.1) i0, hz, h0⟩
theorem tp_i64 : Tp 25 2 1 8 := tp_of (z := .int .i64 0) Tryz.underlying25 (by kernel_rfl) rfl (by omega)
theorem tp_str : Tp 22 9 1 16 := tp_of (z := .string ⟨#[]⟩) Tryz.underlying22 (by kernel_rfl) rfl (by omega)
theorem tp_acc : Tp 23 55 2 24 := tp_of (z := .agg #[.int .u8 0, .string ⟨#[]⟩]) Tryz.underlying23 (by kernel_rfl) rfl (by omega)
/-- numbers in memory. -/
def NtIn (w : World) (a : Option Addr) (l : List Int) : Prop := l = [] ∨ ∃ b off, a = some ⟨b, off, none⟩ ∧ b < w.heap.size ∧ ∀ i t, l[i]? = some t → w.cell? ⟨b, off + i, none⟩ = some (.int .i64 t)
theorem NtIn.below {w w' : World} {a : Option Addr} {l : List Int} {n : Nat} (h : NtIn w a l) (hb : Below n w w') (hn : w.heap.size ≤ n) : NtIn w' a l := by
  rcases h with h | ⟨b, off, h1, h2, h3⟩
  · exact Or.inl h
  · exact Or.inr ⟨b, off, h1, Nat.lt_of_lt_of_le h2 hb.size, fun i t ht => by rw [hb.cell (p := ⟨b, off + i, none⟩) (Nat.lt_of_lt_of_le h2 hn)]; exact h3 i t ht⟩
theorem more_ints {W : World} {a : Option Addr} {l : List Int} (h : NtIn W a l) (hn : l.length ≤ 17592186043904) (c : Nat) (ty1 ty2 : TypeId) (y : Int) : ∃ ad1 cap1 w1 b cap2 w2, (Builtin.append_ #[25, 25] ty1 #[.slice (some ⟨W.heap.size, 0, none⟩) 0 0, .slice a l.length c]).run Tryz.prog (W.alloc (.cells #[] 2)) = .ok (.slice (some ad1) l.length cap1) w1 ∧ (Builtin.append_ #[25, 25] ty2 #[.slice (some ad1) l.length cap1, .slice (some ⟨w1.heap.size, 0, none⟩) 1 1]).run Tryz.prog (w1.alloc (.cells #[.int .i64 y] 2)) = .ok (.slice (some ⟨b, 0, none⟩) (l.length + 1) cap2) w2 ∧ Below W.heap.size W w2 := by
  have hml : maxLen = 9223372036854775807 := by decide
  obtain ⟨ad1, cap1, w1, b, cap2, w2, r1, r2, b2, _⟩ := more_row (W := W) tp_i64 ty1 ty2 (a := a) (m := l.length) (c := c) (xs := l.map (Value.int .i64)) (fun e => by
    rcases h with q | ⟨b, off, q, _⟩
    · rw [q]; rfl
    · rw [e] at q; cases q) (by simp) (fun ad e j u hj => by
    rcases h with q | ⟨b, off, q, h2, h3⟩
    · rw [q] at hj; simp at hj
    · rw [e] at q
      injection q with q
      subst q
      rw [add_at0]
      rw [List.getElem?_map, Option.map_eq_some_iff] at hj
      obtain ⟨t, ht, rfl⟩ := hj
      exact h3 j t ht) (fun u hu => by obtain ⟨t, _, rfl⟩ := List.mem_map.1 hu; rfl) [.int .i64 y] rfl (fun u hu => by simp at hu; subst hu; rfl) (by omega) (by omega)
  exact ⟨ad1, cap1, w1, b, cap2, w2, r1, r2, b2⟩
theorem more_strs {W : World} {a : Option Addr} {l : List ByteArray} (h : StIn W a l) (hn : l.length ≤ 8796093021952) (c : Nat) (ty1 ty2 : TypeId) (y : ByteArray) : ∃ ad1 cap1 w1 b cap2 w2, (Builtin.append_ #[22, 22] ty1 #[.slice (some ⟨W.heap.size, 0, none⟩) 0 0, .slice a l.length c]).run Tryz.prog (W.alloc (.cells #[] 9)) = .ok (.slice (some ad1) l.length cap1) w1 ∧ (Builtin.append_ #[22, 22] ty2 #[.slice (some ad1) l.length cap1, .slice (some ⟨w1.heap.size, 0, none⟩) 1 1]).run Tryz.prog (w1.alloc (.cells #[.string y] 9)) = .ok (.slice (some ⟨b, 0, none⟩) (l.length + 1) cap2) w2 ∧ Below W.heap.size W w2 ∧ W.heap.size ≤ b ∧ StIn w2 (some ⟨b, 0, none⟩) (l ++ [y]) := by
  have hml : maxLen = 9223372036854775807 := by decide
  obtain ⟨ad1, cap1, w1, b, cap2, w2, r1, r2, b2, lb, lt, hcs⟩ := more_row (W := W) tp_str ty1 ty2 (a := a) (m := l.length) (c := c) (xs := l.map Value.string) (fun e => by
    rcases h with q | ⟨b, off, q, _⟩
    · rw [q]; rfl
    · rw [e] at q; cases q) (by simp) (fun ad e j u hj => by
    rcases h with q | ⟨b, off, q, h2, h3⟩
    · rw [q] at hj; simp at hj
    · rw [e] at q
      injection q with q
      subst q
      rw [add_at0]
      rw [List.getElem?_map, Option.map_eq_some_iff] at hj
      obtain ⟨t, ht, rfl⟩ := hj
      exact h3 j t ht) (fun u hu => by obtain ⟨t, _, rfl⟩ := List.mem_map.1 hu; rfl) [.string y] rfl (fun u hu => by simp at hu; subst hu; rfl) (by omega) (by omega)
  refine ⟨ad1, cap1, w1, b, cap2, w2, r1, r2, b2, lb, Or.inr ⟨b, 0, rfl, lt, fun i t ht => ?_⟩⟩
  rw [Nat.zero_add]
  refine hcs i _ ?_
  have e : l.map Value.string ++ [.string y] = (l ++ [y]).map Value.string := by simp
  rw [e, List.getElem?_map, ht]; rfl
theorem accs_cells (l : List AcP) : ∀ (j : Nat) (t : AcP), l[j]? = some t → (l.flatMap fun s => [Value.int .u8 (s.1 : Int), Value.string s.2])[j * 2]? = some (.int .u8 (t.1 : Int)) ∧ (l.flatMap fun s => [Value.int .u8 (s.1 : Int), Value.string s.2])[j * 2 + 1]? = some (.string t.2) := by
  induction l with
  | nil => intro j t h; simp at h
  | cons x r ih =>
    intro j t h
    cases j with
    | zero => simp at h; subst h; simp
    | succ j =>
      have := ih j t (by simpa using h)
      rw [show (j + 1) * 2 = j * 2 + 2 by omega, show j * 2 + 2 + 1 = j * 2 + 1 + 2 by omega]
      simpa using this
theorem accs_of (l : List AcP) : ∀ (j : Nat) (u : Value), (l.flatMap fun s => [Value.int .u8 (s.1 : Int), Value.string s.2])[j]? = some u → ∃ (i : Nat) (t : AcP), l[i]? = some t ∧ ((j = i * 2 ∧ u = .int .u8 (t.1 : Int)) ∨ (j = i * 2 + 1 ∧ u = .string t.2)) := by
  induction l with
  | nil => intro j u h; simp at h
  | cons x r ih =>
    intro j u h
    match j, h with
    | 0, h => simp at h; exact ⟨0, x, rfl, Or.inl ⟨rfl, h.symm⟩⟩
    | 1, h => simp at h; exact ⟨0, x, rfl, Or.inr ⟨rfl, h.symm⟩⟩
    | j + 2, h =>
      obtain ⟨i, t, h1, h2⟩ := ih j u (by simpa using h)
      refine ⟨i + 1, t, by simpa using h1, ?_⟩
      rcases h2 with ⟨e1, e2⟩ | ⟨e1, e2⟩
      · exact Or.inl ⟨by omega, e2⟩
      · exact Or.inr ⟨by omega, e2⟩
theorem accs_len (l : List AcP) : (l.flatMap fun s => [Value.int .u8 (s.1 : Int), Value.string s.2]).length = l.length * 2 := by
  induction l with
  | nil => rfl
  | cons x r ih => simp [ih]; omega
theorem more_accs {W : World} {a : Option Addr} {l : List AcP} (h : AcIn W a l) (hn : l.length ≤ 5864062014634) (c : Nat) (ty1 ty2 : TypeId) (y : AcP) : ∃ ad1 cap1 w1 b cap2 w2, (Builtin.append_ #[23, 23] ty1 #[.slice (some ⟨W.heap.size, 0, none⟩) 0 0, .slice a l.length c]).run Tryz.prog (W.alloc (.cells #[] 55)) = .ok (.slice (some ad1) l.length cap1) w1 ∧ (Builtin.append_ #[23, 23] ty2 #[.slice (some ad1) l.length cap1, .slice (some ⟨w1.heap.size, 0, none⟩) 1 1]).run Tryz.prog (w1.alloc (.cells #[.int .u8 (y.1 : Int), .string y.2] 55)) = .ok (.slice (some ⟨b, 0, none⟩) (l.length + 1) cap2) w2 ∧ Below W.heap.size W w2 ∧ W.heap.size ≤ b ∧ AcIn w2 (some ⟨b, 0, none⟩) (l ++ [y]) := by
  have hml : maxLen = 9223372036854775807 := by decide
  obtain ⟨ad1, cap1, w1, b, cap2, w2, r1, r2, b2, lb, lt, hcs⟩ := more_row (W := W) tp_acc ty1 ty2 (a := a) (m := l.length) (c := c) (xs := l.flatMap fun s => [Value.int .u8 (s.1 : Int), Value.string s.2]) (fun e => by
    rcases h with q | ⟨b, off, q, _⟩
    · rw [q]; rfl
    · rw [e] at q; cases q) (accs_len l) (fun ad e j u hj => by
    rcases h with q | ⟨b, off, q, h2, h3⟩
    · rw [q] at hj; simp at hj
    · rw [e] at q
      injection q with q
      subst q
      rw [add_at0]
      obtain ⟨i, t, ht, ⟨e1, e2⟩ | ⟨e1, e2⟩⟩ := accs_of l j u hj
      · rw [e1, e2]; exact (h3 i t ht).1
      · rw [e1, e2, ← Nat.add_assoc]; exact (h3 i t ht).2) (fun u hu => by
    obtain ⟨t, _, ht⟩ := List.mem_flatMap.1 hu
    simp at ht
    rcases ht with rfl | rfl <;> rfl) [.int .u8 (y.1 : Int), .string y.2] rfl (fun u hu => by simp at hu; rcases hu with rfl | rfl <;> rfl) (by omega) (by omega)
  refine ⟨ad1, cap1, w1, b, cap2, w2, r1, r2, b2, lb, Or.inr ⟨b, 0, rfl, lt, fun i t ht => ?_⟩⟩
  have e : (l.flatMap fun s => [Value.int .u8 (s.1 : Int), Value.string s.2]) ++ [.int .u8 (y.1 : Int), .string y.2] = (l ++ [y]).flatMap fun s => [Value.int .u8 (s.1 : Int), Value.string s.2] := by simp
  rw [e] at hcs
  obtain ⟨k1, k2⟩ := accs_cells (l ++ [y]) i t ht
  rw [Nat.zero_add]
  exact ⟨hcs _ _ k1, hcs _ _ k2⟩
end Go.Proofs.YtdfnomglkibfbaaGreatDoor.Vf

namespace Go.Proofs.YtdfnomglkibfbaaGreatDoor.Vf
open Go.ChangeShapes Go.WideShapes Go.ChangeAt Go.RowKit Go.Joins
set_option linter.unusedVariables false
set_option linter.unusedSimpArgs false
set_option maxRecDepth 100000
/-- how long a slice may be that is read. -/
theorem sl_len {H : Type} {enc : TypeId × Value → H} {W : World} {a : Option Addr} {n cap : Nat} {y : DataW H × List MemPlace} {fuel : Nat} {T E : TypeId} (hu : Tryz.prog.underlying T = some (.slice E))
    (hf : DataW.trod enc Tryz.prog W 0 (fun _ => true) true fuel T [.slice a n cap] = some y) (hw : ∀ k ∈ y.1.weights Tryz.prog T, k ≤ reachBytes) : n * Tryz.prog.bytesOf E ≤ 140737488351232 := by
  rcases Go.Deep.open_slice hu hf with ⟨hcs, hx⟩ | ⟨a', len, cap', m, n', D, Pl, hcs, hb, hl, hm, hmm, hx, hall⟩
  · simp at hcs
    rw [hcs.2.1]; simp
  · simp at hcs
    obtain ⟨_, rfl, rfl⟩ := hcs
    have hd : y.1 = .slice ((List.range n).map D) ((List.range (m - n)).map fun j => D (n + j)) := congrArg (·.1) hx
    have h1 := hw ((((List.range n).map D).length + ((List.range (m - n)).map fun j => D (n + j)).length) * Tryz.prog.bytesOf E) (by rw [hd]; simp [DataW.weights, hu])
    rw [List.length_map, List.length_map, List.length_range, List.length_range] at h1
    have h2 : reachBytes = 140737488351232 := by decide
    have h3 : n * Tryz.prog.bytesOf E ≤ (n + (m - n)) * Tryz.prog.bytesOf E := Nat.mul_le_mul_right _ (by omega)
    omega
theorem nts_read {H : Type} {enc : TypeId × Value → H} {W : World} {v : Value} {y : DataW H × List MemPlace} {fuel : Nat}
    (hf : DataW.trod enc Tryz.prog W 0 (fun _ => true) true fuel 25 [v] = some y) (hw : ∀ k ∈ y.1.weights Tryz.prog 25, k ≤ reachBytes) :
    ∃ a l cap, v = .slice a l.length cap ∧ NtIn W a l ∧ l.length ≤ 17592186043904 := by
  obtain ⟨a, l, cap, h1, h2, h3⟩ := sl_read (α := Int) Tryz.underlying25 1 (by kernel_rfl) (by omega) (of_decide_eq_true (by kernel_rfl)) (fun s cs => cs = [.int .i64 s]) hf hw (fun n cs' z hz hl _ => by
    match cs', hl with
    | [v], _ =>
      obtain ⟨s, e, _⟩ := DataW.trod_int Tryz.underlying2 hz
      exact ⟨s, e⟩)
  have hb : Tryz.prog.bytesOf 2 = 8 := by kernel_rfl
  have h4 := sl_len Tryz.underlying25 (by rw [← h1]; exact hf) hw
  rw [hb] at h4
  refine ⟨a, l, cap, h1, ?_, by omega⟩
  rcases h2 with h2 | ⟨b, off, e1, e2, e3⟩
  · exact Or.inl h2
  · refine Or.inr ⟨b, off, e1, e2, fun i t ht => ?_⟩
    obtain ⟨cs', q1, q2, q3⟩ := e3 i t ht
    have := q3 0 (by omega)
    rw [q1] at this
    simpa using this
theorem strs_len {H : Type} {enc : TypeId × Value → H} {W : World} {a : Option Addr} {n cap : Nat} {y : DataW H × List MemPlace} {fuel : Nat}
    (hf : DataW.trod enc Tryz.prog W 0 (fun _ => true) true fuel 22 [.slice a n cap] = some y) (hw : ∀ k ∈ y.1.weights Tryz.prog 22, k ≤ reachBytes) : n ≤ 8796093021952 := by
  have hb : Tryz.prog.bytesOf 9 = 16 := by kernel_rfl
  have h4 := sl_len Tryz.underlying22 hf hw
  rw [hb] at h4
  omega
theorem accs_len' {H : Type} {enc : TypeId × Value → H} {W : World} {a : Option Addr} {n cap : Nat} {y : DataW H × List MemPlace} {fuel : Nat}
    (hf : DataW.trod enc Tryz.prog W 0 (fun _ => true) true fuel 23 [.slice a n cap] = some y) (hw : ∀ k ∈ y.1.weights Tryz.prog 23, k ≤ reachBytes) : n ≤ 5864062014634 := by
  have hb : Tryz.prog.bytesOf 55 = 24 := by kernel_rfl
  have h4 := sl_len Tryz.underlying23 hf hw
  rw [hb] at h4
  omega
end Go.Proofs.YtdfnomglkibfbaaGreatDoor.Vf

namespace Go.Proofs.YtdfnomglkibfbaaGreatDoor.Vf
open Go.RowKit
set_option linter.unusedVariables false
set_option linter.unusedSimpArgs false
set_option maxRecDepth 100000
theorem hd_len2 {p : PrH} {q : PrL} (hN : PrN p q) (h : hdB p q = true) : p.filter.n ≤ 65536 ∧ p.output.n ≤ 65536 ∧ p.alias.n ≤ 65536 := by
  unfold hdB at h
  simp only [Bool.and_eq_true, decide_eq_true_eq] at h
  have h1 := hN.filter
  have h2 := hN.output
  have h3 := hN.alias
  omega
set_option maxHeartbeats 16000000 in
theorem refProgram_any (p : PrH) (q : PrL) (hN : PrN p q) (w : World) (h : PrIn w p q) : Calls Tryz.prog 11 #[p.v] w fun e w' => e = .returned (badR (resD p q)) ∧ Below w.heap.size w w' := by
  have hIH : Hid (∀ W, EW w p W → PrIn W p q) := fun W hW => h.below hW.1 (Nat.le_refl _)
  have cH0 : ∀ W, EW w p W → Calls Tryz.prog 28 #[.agg #[.string p.from_, .string p.into, .int .i64 p.every, .int .i64 p.offset, .slice p.groups.a p.groups.n p.groups.c, .slice p.accs.a p.accs.n p.accs.c, .slice p.alias.a p.alias.n p.alias.c, .slice p.names.a p.names.n p.names.c, .slice p.texts.a p.texts.n p.texts.c, .slice p.lists.a p.lists.n p.lists.c, .slice p.times.a p.times.n p.times.c, .slice p.ints.a p.ints.n p.ints.c, .slice p.filter.a p.filter.n p.filter.c, .slice p.output.a p.output.n p.output.c]] W fun e w' => e = .returned (.bool (hdB p q)) ∧ Below W.heap.size W w' := fun W hW => head_any p q hN W (hIH.out W hW)
  have cE10 : hdB p q = true → ∀ W, EW w p W → Calls Tryz.prog 30 #[.agg #[.string p.from_, .string p.into, .int .i64 p.every, .int .i64 p.offset, .slice p.groups.a p.groups.n p.groups.c, .slice p.accs.a p.accs.n p.accs.c, .slice p.alias.a p.alias.n p.alias.c, .slice p.names.a p.names.n p.names.c, .slice p.texts.a p.texts.n p.texts.c, .slice p.lists.a p.lists.n p.lists.c, .slice p.times.a p.times.n p.times.c, .slice p.ints.a p.ints.n p.ints.c, .slice p.filter.a p.filter.n p.filter.c, .slice p.output.a p.output.n p.output.c], .slice p.filter.a p.filter.n p.filter.c, .int .i64 0, .int .u8 13] W fun e w' => e = .returned (bdO 0 (eachD p.sz true q.accs q.filter)) ∧ Below W.heap.size W w' := fun hd W hW => by
    have := each_f p q.accs hN.accs q.filter p.filter.a p.filter.c hN.filter1 0 (by omega) W (hIH.out W hW).accs (hIH.out W hW).filter
    rw [← hN.filter] at this
    exact this
  have cE20 : hdB p q = true → ∀ W, EW w p W → Calls Tryz.prog 30 #[.agg #[.string p.from_, .string p.into, .int .i64 p.every, .int .i64 p.offset, .slice p.groups.a p.groups.n p.groups.c, .slice p.accs.a p.accs.n p.accs.c, .slice p.alias.a p.alias.n p.alias.c, .slice p.names.a p.names.n p.names.c, .slice p.texts.a p.texts.n p.texts.c, .slice p.lists.a p.lists.n p.lists.c, .slice p.times.a p.times.n p.times.c, .slice p.ints.a p.ints.n p.ints.c, .slice p.filter.a p.filter.n p.filter.c, .slice p.output.a p.output.n p.output.c], .slice p.output.a p.output.n p.output.c, .int .i64 (p.filter.n : Int), .int .u8 24] W fun e w' => e = .returned (bdO p.filter.n (eachD p.sz false q.accs q.output)) ∧ Below W.heap.size W w' := fun hd W hW => by
    have hl := hd_len2 hN hd
    have := each_o p q.accs hN.accs q.output p.output.a p.output.c hN.output1 p.filter.n (by omega) W (hIH.out W hW).accs (hIH.out W hW).output
    rw [← hN.output] at this
    exact this
  have cH10 : hdB p q = true → eachD p.sz true q.accs q.filter = none → ∀ W, EW w p W → Calls Tryz.prog 31 #[.slice p.filter.a p.filter.n p.filter.c, .int .i64 0] W fun e w' => HtR W p.filter.n 0 (hgtD q.filter 0 s0) e w' ∧ Below W.heap.size W w' := fun hd he W hW => by
    have hl := hd_len2 hN hd
    rw [← each_same] at he
    have e1 := hN.filter
    have := dheights_any q.filter (fmd_of he) p.filter.a p.filter.c (by omega) 0 (by omega) W (hIH.out W hW).filter
    rw [← e1] at this
    exact this
  have cH20 : hdB p q = true → eachD p.sz false q.accs q.output = none → ∀ W, EW w p W → Calls Tryz.prog 31 #[.slice p.output.a p.output.n p.output.c, .int .i64 (p.filter.n : Int)] W fun e w' => HtR W p.output.n p.filter.n (hgtD q.output 0 s0) e w' ∧ Below W.heap.size W w' := fun hd he W hW => by
    have hl := hd_len2 hN hd
    rw [← each_same] at he
    have e1 := hN.output
    have := dheights_any q.output (fmd_of he) p.output.a p.output.c (by omega) p.filter.n (by omega) W (hIH.out W hW).output
    rw [← e1] at this
    exact this
  have cM0 : hdB p q = true → ∀ W, EW w p W → Calls Tryz.prog 32 #[.agg #[.string p.from_, .string p.into, .int .i64 p.every, .int .i64 p.offset, .slice p.groups.a p.groups.n p.groups.c, .slice p.accs.a p.accs.n p.accs.c, .slice p.alias.a p.alias.n p.alias.c, .slice p.names.a p.names.n p.names.c, .slice p.texts.a p.texts.n p.texts.c, .slice p.lists.a p.lists.n p.lists.c, .slice p.times.a p.times.n p.times.c, .slice p.ints.a p.ints.n p.ints.c, .slice p.filter.a p.filter.n p.filter.c, .slice p.output.a p.output.n p.output.c]] W fun e w' => e = .returned (.bool (emitB p.alias.n q.output)) ∧ Below W.heap.size W w' := fun hd W hW => by
    have hl := hd_len2 hN hd
    exact emitted_any p q.output hN.output hN.output1 (by omega) W (hIH.out W hW).output
  have RES : Hid (resD p q = resOf (hdB p q) (eachD p.sz true q.accs q.filter) (eachD p.sz false q.accs q.output) (hgtD q.filter 0 s0).2 (hgtD q.output 0 s0).2 p.filter.n (emitB p.alias.n q.output)) := rfl
  have ne1 : Hid (∀ k e, eachD p.sz true q.accs q.filter = some (k, e) → e ≠ 0) := fun k e h => eachD_ne h
  have ne2 : Hid (∀ k e, eachD p.sz false q.accs q.output = some (k, e) → e ≠ 0) := fun k e h => eachD_ne h
  obtain ⟨⟨g1, r1⟩, hG1⟩ : ∃ G, hgtD q.filter 0 s0 = G := ⟨_, rfl⟩
  obtain ⟨⟨g2, r2⟩, hG2⟩ : ∃ G, hgtD q.output 0 s0 = G := ⟨_, rfl⟩
  rw [hG1] at cH10 RES
  rw [hG2] at cH20 RES
  generalize resD p q = r at *
  generalize hdB p q = hd at *
  generalize eachD p.sz true q.accs q.filter = E1 at *
  generalize eachD p.sz false q.accs q.output = E2 at *
  generalize emitB p.alias.n q.output = em at *
  clear hG1 hG2 h hN hIH
  obtain ⟨V, hV⟩ : ∃ V, badR r = V := ⟨_, rfl⟩
  have VV0 : Hid (badR r = V) := hV
  rw [hV]
  clear hV
  have cH : Hid (∀ W, EW w p W → Calls Tryz.prog 28 #[.agg #[.string p.from_, .string p.into, .int .i64 p.every, .int .i64 p.offset, .slice p.groups.a p.groups.n p.groups.c, .slice p.accs.a p.accs.n p.accs.c, .slice p.alias.a p.alias.n p.alias.c, .slice p.names.a p.names.n p.names.c, .slice p.texts.a p.texts.n p.texts.c, .slice p.lists.a p.lists.n p.lists.c, .slice p.times.a p.times.n p.times.c, .slice p.ints.a p.ints.n p.ints.c, .slice p.filter.a p.filter.n p.filter.c, .slice p.output.a p.output.n p.output.c]] W fun e w' => e = .returned (.bool hd) ∧ Below W.heap.size W w') := cH0
  have cN : Hid (∀ (e : Int) W, Calls Tryz.prog 29 #[.int .i64 e] W fun ev w' => ev = .returned (.agg #[.int .i64 e, .int .i64 0, .int .i64 0, .bool false, .bool false]) ∧ Below W.heap.size W w') := fun e W => refNew_any e W
  have e0 := EW.new w p
  have e0H : Hid (EW w p ((w.alloc (.cells p.cells 28)).alloc (.cells #[.int .i64 0, .int .i64 0, .int .i64 0, .bool false, .bool false] 36))) := e0
  clear e0 cH0
  unfold PrH.v
  unfold PrH.cells at e0H
  go_enter Tryz.func11, Tryz.ntmps11
  go_wp2_with fail
  generalize World.alloc (World.alloc w _) _ = W1 at e0H ⊢
  with_reducible refine Calls.mono (cH.out _ e0H.out) ?_
  rintro e w2 ⟨rfl, b2⟩
  have e2 : Hid (EW w p w2) := e0H.out.below b2
  clear cH e0H b2
  cases hd with
  | false =>
    clear cE10 cE20 cH10 cH20 cM0 ne1 ne2
    go_wp2_with fail
    with_reducible refine Calls.mono (cN.out _ _) ?_
    rintro e w3 ⟨rfl, b3⟩
    have e3 : Hid (EW w p w3) := e2.out.below b3
    clear b3 e2 cN
    have VV : Hid (V = .agg #[.int .i64 192, .int .i64 0, .int .i64 0, .bool false, .bool false]) := by rw [← VV0.out, show r = some (192, none) from RES.out]; rfl
    obtain ⟨W9, hst0, u0, u1, u2, u3, u4, bb0⟩ := store_bad e3.out.2.2 (192) (0) false
    have hst : Hid ((Instr.storeAt 36 (.pointer (some ⟨w.heap.size + 1, 0, none⟩)) (.agg #[.int .i64 192, .int .i64 0, .int .i64 0, .bool false, .bool false])).run Tryz.prog w3 = .ok () W9) := hst0
    have finB : Hid (Below w.heap.size w W9) := bb0 _ _ e3.out.1 (by omega)
    clear hst0 bb0 VV0 RES
    go_wp2_with (refine wpList_store_run (by rfl) _ _ _ (by rfl) _ _ _ (by rfl) (by rfl) hst.out ?_)
    clear hst
    simp [bodyPost, results, Tryz.results11, go_sem, u0, u1, u2, u3, u4]
    exact ⟨VV.out.symm, finB.out⟩
  | true =>
    have cE1 : Hid (∀ W, EW w p W → Calls Tryz.prog 30 #[.agg #[.string p.from_, .string p.into, .int .i64 p.every, .int .i64 p.offset, .slice p.groups.a p.groups.n p.groups.c, .slice p.accs.a p.accs.n p.accs.c, .slice p.alias.a p.alias.n p.alias.c, .slice p.names.a p.names.n p.names.c, .slice p.texts.a p.texts.n p.texts.c, .slice p.lists.a p.lists.n p.lists.c, .slice p.times.a p.times.n p.times.c, .slice p.ints.a p.ints.n p.ints.c, .slice p.filter.a p.filter.n p.filter.c, .slice p.output.a p.output.n p.output.c], .slice p.filter.a p.filter.n p.filter.c, .int .i64 0, .int .u8 13] W fun e w' => e = .returned (bdO 0 E1) ∧ Below W.heap.size W w') := cE10 rfl
    have cE2 : Hid (∀ W, EW w p W → Calls Tryz.prog 30 #[.agg #[.string p.from_, .string p.into, .int .i64 p.every, .int .i64 p.offset, .slice p.groups.a p.groups.n p.groups.c, .slice p.accs.a p.accs.n p.accs.c, .slice p.alias.a p.alias.n p.alias.c, .slice p.names.a p.names.n p.names.c, .slice p.texts.a p.texts.n p.texts.c, .slice p.lists.a p.lists.n p.lists.c, .slice p.times.a p.times.n p.times.c, .slice p.ints.a p.ints.n p.ints.c, .slice p.filter.a p.filter.n p.filter.c, .slice p.output.a p.output.n p.output.c], .slice p.output.a p.output.n p.output.c, .int .i64 (p.filter.n : Int), .int .u8 24] W fun e w' => e = .returned (bdO p.filter.n E2) ∧ Below W.heap.size W w') := cE20 rfl
    have cH1 : Hid (E1 = none → ∀ W, EW w p W → Calls Tryz.prog 31 #[.slice p.filter.a p.filter.n p.filter.c, .int .i64 0] W fun e w' => HtR W p.filter.n 0 (g1, r1) e w' ∧ Below W.heap.size W w') := cH10 rfl
    have cH2 : Hid (E2 = none → ∀ W, EW w p W → Calls Tryz.prog 31 #[.slice p.output.a p.output.n p.output.c, .int .i64 (p.filter.n : Int)] W fun e w' => HtR W p.output.n p.filter.n (g2, r2) e w' ∧ Below W.heap.size W w') := cH20 rfl
    have cM : Hid (∀ W, EW w p W → Calls Tryz.prog 32 #[.agg #[.string p.from_, .string p.into, .int .i64 p.every, .int .i64 p.offset, .slice p.groups.a p.groups.n p.groups.c, .slice p.accs.a p.accs.n p.accs.c, .slice p.alias.a p.alias.n p.alias.c, .slice p.names.a p.names.n p.names.c, .slice p.texts.a p.texts.n p.texts.c, .slice p.lists.a p.lists.n p.lists.c, .slice p.times.a p.times.n p.times.c, .slice p.ints.a p.ints.n p.ints.c, .slice p.filter.a p.filter.n p.filter.c, .slice p.output.a p.output.n p.output.c]] W fun e w' => e = .returned (.bool em) ∧ Below W.heap.size W w') := cM0 rfl
    clear cE10 cE20 cH10 cH20 cM0
    obtain ⟨_, ⟨zp, y0, y1, y2, y3, y4, y5, y6, y7, y8, y9, y10, y11, y12, y13⟩, _⟩ := e2.out
    go_wp2_with fail
    clear zp y0 y1 y2 y3 y4 y5 y6 y7 y8 y9 y10 y11 y12 y13
    with_reducible refine Calls.mono (cE1.out _ e2.out) ?_
    rintro e w3 ⟨rfl, b3⟩
    have e3 : Hid (EW w p w3) := e2.out.below b3
    clear b3 e2 cE1
    cases E1 with
    | some x =>
      obtain ⟨xk, xe⟩ := x
      have xn : xe ≠ 0 := ne1.out xk xe rfl
      have xb : (xe != 0) = true := by simpa using xn
      have xd : decide (xe = 0) = false := decide_eq_false xn
      rw [show bdO 0 (some (xk, xe)) = .agg #[.int .i64 xe, .int .i64 (xk : Int), .int .i64 0, .bool true, .bool false] by simp [bdO, badV]]
      have e4 : Hid (EW w p (w3.alloc (.cells #[.int .i64 xe, .int .i64 (xk : Int), .int .i64 0, .bool true, .bool false] 36))) := e3.out.below ((Below.refl _ _).alloc (Nat.le_refl _) _)
      clear ne1 ne2 cE2 cH1 cH2 cM cN e3
      have VV : Hid (V = .agg #[.int .i64 xe, .int .i64 (xk : Int), .int .i64 0, .bool true, .bool false]) := by rw [← VV0.out, show r = some (xe, some (xk : Int)) from by rw [RES.out]; simp [resOf]]; rfl
      obtain ⟨W9, hst0, u0, u1, u2, u3, u4, bb0⟩ := store_bad e4.out.2.2 (xe) ((xk : Int)) true
      have hst : Hid ((Instr.storeAt 36 (.pointer (some ⟨w.heap.size + 1, 0, none⟩)) (.agg #[.int .i64 xe, .int .i64 (xk : Int), .int .i64 0, .bool true, .bool false])).run Tryz.prog (w3.alloc (.cells #[.int .i64 xe, .int .i64 (xk : Int), .int .i64 0, .bool true, .bool false] 36)) = .ok () W9) := hst0
      have finB : Hid (Below w.heap.size w W9) := bb0 _ _ e4.out.1 (by omega)
      clear hst0 bb0 VV0 RES
      go_wp2_with (refine wpList_store_run (by rfl) _ _ _ (by rfl) _ _ _ (by rfl) (by rfl) hst.out ?_)
      clear hst
      simp [bodyPost, results, Tryz.results11, go_sem, u0, u1, u2, u3, u4]
      exact ⟨VV.out.symm, finB.out⟩
    | none =>
      rw [show bdO 0 none = .agg #[.int .i64 0, .int .i64 0, .int .i64 0, .bool false, .bool false] from rfl]
      have e4 : Hid (EW w p (w3.alloc (.cells #[.int .i64 0, .int .i64 0, .int .i64 0, .bool false, .bool false] 36))) := e3.out.below ((Below.refl _ _).alloc (Nat.le_refl _) _)
      clear e3
      obtain ⟨_, ⟨zp, y0, y1, y2, y3, y4, y5, y6, y7, y8, y9, y10, y11, y12, y13⟩, _⟩ := e4.out
      go_wp2_with fail
      clear zp y0 y1 y2 y3 y4 y5 y6 y7 y8 y9 y10 y11 y12 y13
      with_reducible refine Calls.mono (cE2.out _ e4.out) ?_
      rintro e w5 ⟨rfl, b5⟩
      have e5 : Hid (EW w p w5) := e4.out.below b5
      clear b5 e4 cE2
      have ch1 : Hid (∀ W, EW w p W → Calls Tryz.prog 31 #[.slice p.filter.a p.filter.n p.filter.c, .int .i64 0] W fun e w' => HtR W p.filter.n 0 (g1, r1) e w' ∧ Below W.heap.size W w') := cH1.out (by first | trivial | rfl)
      clear cH1
      cases E2 with
      | some x =>
        obtain ⟨xk, xe⟩ := x
        have xn : xe ≠ 0 := ne2.out xk xe rfl
        have xb : (xe != 0) = true := by simpa using xn
        have xd : decide (xe = 0) = false := decide_eq_false xn
        rw [show bdO p.filter.n (some (xk, xe)) = .agg #[.int .i64 xe, .int .i64 ((p.filter.n : Int) + (xk : Int)), .int .i64 0, .bool true, .bool false] from rfl]
        have e6 : Hid (EW w p (w5.alloc (.cells #[.int .i64 xe, .int .i64 ((p.filter.n : Int) + (xk : Int)), .int .i64 0, .bool true, .bool false] 36))) := e5.out.below ((Below.refl _ _).alloc (Nat.le_refl _) _)
        clear ne1 ne2 ch1 cH2 cM cN e5
        have VV : Hid (V = .agg #[.int .i64 xe, .int .i64 ((p.filter.n : Int) + (xk : Int)), .int .i64 0, .bool true, .bool false]) := by rw [← VV0.out, show r = some (xe, some ((p.filter.n : Int) + (xk : Int))) from by rw [RES.out]; rfl]; rfl
        obtain ⟨W9, hst0, u0, u1, u2, u3, u4, bb0⟩ := store_bad e6.out.2.2 (xe) (((p.filter.n : Int) + (xk : Int))) true
        have hst : Hid ((Instr.storeAt 36 (.pointer (some ⟨w.heap.size + 1, 0, none⟩)) (.agg #[.int .i64 xe, .int .i64 ((p.filter.n : Int) + (xk : Int)), .int .i64 0, .bool true, .bool false])).run Tryz.prog (w5.alloc (.cells #[.int .i64 xe, .int .i64 ((p.filter.n : Int) + (xk : Int)), .int .i64 0, .bool true, .bool false] 36)) = .ok () W9) := hst0
        have finB : Hid (Below w.heap.size w W9) := bb0 _ _ e6.out.1 (by omega)
        clear hst0 bb0 VV0 RES
        go_wp2_with (refine wpList_store_run (by rfl) _ _ _ (by rfl) _ _ _ (by rfl) (by rfl) hst.out ?_)
        clear hst
        simp [bodyPost, results, Tryz.results11, go_sem, u0, u1, u2, u3, u4]
        exact ⟨VV.out.symm, finB.out⟩
      | none =>
        rw [show bdO p.filter.n none = .agg #[.int .i64 0, .int .i64 0, .int .i64 0, .bool false, .bool false] from rfl]
        have e6 : Hid (EW w p (w5.alloc (.cells #[.int .i64 0, .int .i64 0, .int .i64 0, .bool false, .bool false] 36))) := e5.out.below ((Below.refl _ _).alloc (Nat.le_refl _) _)
        clear e5 ne1 ne2
        have ch2 : Hid (∀ W, EW w p W → Calls Tryz.prog 31 #[.slice p.output.a p.output.n p.output.c, .int .i64 (p.filter.n : Int)] W fun e w' => HtR W p.output.n p.filter.n (g2, r2) e w' ∧ Below W.heap.size W w') := cH2.out (by first | trivial | rfl)
        clear cH2
        obtain ⟨_, ⟨zp, y0, y1, y2, y3, y4, y5, y6, y7, y8, y9, y10, y11, y12, y13⟩, _⟩ := e6.out
        go_wp2_with fail
        clear zp y0 y1 y2 y3 y4 y5 y6 y7 y8 y9 y10 y11 y12 y13
        with_reducible refine Calls.mono (ch1.out _ e6.out) ?_
        rintro e w7 ⟨hpr, bn⟩
        have e7 : Hid (EW w p w7) := e6.out.below bn
        clear bn e6 ch1
        unfold HtR at hpr
        cases r1 with
        | some xk =>
          dsimp only at hpr
          rw [show badV 190 (((0 : Nat) : Int) + (xk : Int)) true = .agg #[.int .i64 190, .int .i64 (xk : Int), .int .i64 0, .bool true, .bool false] by simp [badV]] at hpr
          subst hpr
          have e8 : Hid (EW w p (w7.alloc (.cells #[.int .i64 190, .int .i64 (xk : Int), .int .i64 0, .bool true, .bool false] 36))) := e7.out.below ((Below.refl _ _).alloc (Nat.le_refl _) _)
          clear e7 cN cM ch2
          have VV : Hid (V = .agg #[.int .i64 190, .int .i64 (xk : Int), .int .i64 0, .bool true, .bool false]) := by rw [← VV0.out, show r = some (190, some (xk : Int)) from by rw [RES.out]; simp [resOf]]; rfl
          obtain ⟨W9, hst0, u0, u1, u2, u3, u4, bb0⟩ := store_bad e8.out.2.2 (190) ((xk : Int)) true
          have hst : Hid ((Instr.storeAt 36 (.pointer (some ⟨w.heap.size + 1, 0, none⟩)) (.agg #[.int .i64 190, .int .i64 (xk : Int), .int .i64 0, .bool true, .bool false])).run Tryz.prog (w7.alloc (.cells #[.int .i64 190, .int .i64 (xk : Int), .int .i64 0, .bool true, .bool false] 36)) = .ok () W9) := hst0
          have finB : Hid (Below w.heap.size w W9) := bb0 _ _ e8.out.1 (by omega)
          clear hst0 bb0 VV0 RES
          go_wp2_with (refine wpList_store_run (by rfl) _ _ _ (by rfl) _ _ _ (by rfl) (by rfl) hst.out ?_)
          clear hst
          simp [bodyPost, results, Tryz.results11, go_sem, u0, u1, u2, u3, u4]
          exact ⟨VV.out.symm, finB.out⟩
        | none =>
          dsimp only at hpr
          obtain ⟨ob, lob, hpr, _⟩ := hpr
          rw [show badV 0 0 false = .agg #[.int .i64 0, .int .i64 0, .int .i64 0, .bool false, .bool false] from rfl] at hpr
          subst hpr
          have e8 : Hid (EW w p (w7.alloc (.cells #[.int .i64 0, .int .i64 0, .int .i64 0, .bool false, .bool false] 36))) := e7.out.below ((Below.refl _ _).alloc (Nat.le_refl _) _)
          clear e7
          obtain ⟨_, ⟨zp, y0, y1, y2, y3, y4, y5, y6, y7, y8, y9, y10, y11, y12, y13⟩, _⟩ := e8.out
          go_wp2_with fail
          clear zp y0 y1 y2 y3 y4 y5 y6 y7 y8 y9 y10 y11 y12 y13
          with_reducible refine Calls.mono (ch2.out _ e8.out) ?_
          rintro e w9 ⟨hpr, bn⟩
          have e9 : Hid (EW w p w9) := e8.out.below bn
          clear bn e8 ch2
          unfold HtR at hpr
          cases r2 with
          | some xk =>
            dsimp only at hpr
            rw [show badV 190 ((p.filter.n : Int) + (xk : Int)) true = .agg #[.int .i64 190, .int .i64 ((p.filter.n : Int) + (xk : Int)), .int .i64 0, .bool true, .bool false] by simp [badV]] at hpr
            subst hpr
            have e10 : Hid (EW w p (w9.alloc (.cells #[.int .i64 190, .int .i64 ((p.filter.n : Int) + (xk : Int)), .int .i64 0, .bool true, .bool false] 36))) := e9.out.below ((Below.refl _ _).alloc (Nat.le_refl _) _)
            clear e9 cN cM
            have VV : Hid (V = .agg #[.int .i64 190, .int .i64 ((p.filter.n : Int) + (xk : Int)), .int .i64 0, .bool true, .bool false]) := by rw [← VV0.out, show r = some (190, some ((p.filter.n : Int) + (xk : Int))) from by rw [RES.out]; rfl]; rfl
            obtain ⟨W9, hst0, u0, u1, u2, u3, u4, bb0⟩ := store_bad e10.out.2.2 (190) (((p.filter.n : Int) + (xk : Int))) true
            have hst : Hid ((Instr.storeAt 36 (.pointer (some ⟨w.heap.size + 1, 0, none⟩)) (.agg #[.int .i64 190, .int .i64 ((p.filter.n : Int) + (xk : Int)), .int .i64 0, .bool true, .bool false])).run Tryz.prog (w9.alloc (.cells #[.int .i64 190, .int .i64 ((p.filter.n : Int) + (xk : Int)), .int .i64 0, .bool true, .bool false] 36)) = .ok () W9) := hst0
            have finB : Hid (Below w.heap.size w W9) := bb0 _ _ e10.out.1 (by omega)
            clear hst0 bb0 VV0 RES
            go_wp2_with (refine wpList_store_run (by rfl) _ _ _ (by rfl) _ _ _ (by rfl) (by rfl) hst.out ?_)
            clear hst
            simp [bodyPost, results, Tryz.results11, go_sem, u0, u1, u2, u3, u4]
            exact ⟨VV.out.symm, finB.out⟩
          | none =>
            dsimp only at hpr
            obtain ⟨ob2, lob2, hpr, _⟩ := hpr
            rw [show badV 0 0 false = .agg #[.int .i64 0, .int .i64 0, .int .i64 0, .bool false, .bool false] from rfl] at hpr
            subst hpr
            have e10 : Hid (EW w p (w9.alloc (.cells #[.int .i64 0, .int .i64 0, .int .i64 0, .bool false, .bool false] 36))) := e9.out.below ((Below.refl _ _).alloc (Nat.le_refl _) _)
            clear e9
            obtain ⟨_, ⟨zp, y0, y1, y2, y3, y4, y5, y6, y7, y8, y9, y10, y11, y12, y13⟩, _⟩ := e10.out
            go_wp2_with fail
            clear zp y0 y1 y2 y3 y4 y5 y6 y7 y8 y9 y10 y11 y12 y13
            with_reducible refine Calls.mono (cM.out _ e10.out) ?_
            rintro e w11 ⟨rfl, b11⟩
            have e11 : Hid (EW w p w11) := e10.out.below b11
            clear b11 e10 cM
            cases em with
            | false =>
              go_wp2_with fail
              with_reducible refine Calls.mono (cN.out _ _) ?_
              rintro e w12 ⟨rfl, b12⟩
              have e12 : Hid (EW w p w12) := e11.out.below b12
              clear b12 e11 cN
              have VV : Hid (V = .agg #[.int .i64 193, .int .i64 0, .int .i64 0, .bool false, .bool false]) := by rw [← VV0.out, show r = some (193, none) from by rw [RES.out]; rfl]; rfl
              obtain ⟨W9, hst0, u0, u1, u2, u3, u4, bb0⟩ := store_bad e12.out.2.2 (193) (0) false
              have hst : Hid ((Instr.storeAt 36 (.pointer (some ⟨w.heap.size + 1, 0, none⟩)) (.agg #[.int .i64 193, .int .i64 0, .int .i64 0, .bool false, .bool false])).run Tryz.prog w12 = .ok () W9) := hst0
              have finB : Hid (Below w.heap.size w W9) := bb0 _ _ e12.out.1 (by omega)
              clear hst0 bb0 VV0 RES
              go_wp2_with (refine wpList_store_run (by rfl) _ _ _ (by rfl) _ _ _ (by rfl) (by rfl) hst.out ?_)
              clear hst
              simp [bodyPost, results, Tryz.results11, go_sem, u0, u1, u2, u3, u4]
              exact ⟨VV.out.symm, finB.out⟩
            | true =>
              have VV : Hid (V = .agg #[.int .i64 0, .int .i64 0, .int .i64 0, .bool false, .bool false]) := by rw [← VV0.out, show r = none from by rw [RES.out]; rfl]; rfl
              obtain ⟨W9, hst0, u0, u1, u2, u3, u4, bb0⟩ := store_bad e11.out.2.2 (0) (0) false
              have hst : Hid ((Instr.storeAt 36 (.pointer (some ⟨w.heap.size + 1, 0, none⟩)) (.agg #[.int .i64 0, .int .i64 0, .int .i64 0, .bool false, .bool false])).run Tryz.prog w11 = .ok () W9) := hst0
              have finB : Hid (Below w.heap.size w W9) := bb0 _ _ e11.out.1 (by omega)
              clear hst0 bb0 VV0 RES
              go_wp2_with (refine wpList_store_run (by rfl) _ _ _ (by rfl) _ _ _ (by rfl) (by rfl) hst.out ?_)
              clear hst
              simp [bodyPost, results, Tryz.results11, go_sem, u0, u1, u2, u3, u4]
              exact ⟨VV.out.symm, finB.out⟩
end Go.Proofs.YtdfnomglkibfbaaGreatDoor.Vf

namespace Go.Proofs.YtdfnomglkibfbaaGreatDoor.Vf
open Go.RowKit
set_option linter.unusedVariables false
set_option linter.unusedSimpArgs false
set_option maxRecDepth 100000
/-! ### the law's own program, that asks whether a name may stand -/
def litP (S sf so si : Nat) : PrH := ⟨⟨#[99, 112, 117]⟩, ⟨#[]⟩, 1, 0, ⟨none, 0, 0⟩, ⟨none, 0, 0⟩, ⟨some ⟨S, 0, none⟩, 1, 1⟩, ⟨some ⟨S + 1, 0, none⟩, 1, 1⟩, ⟨none, 0, 0⟩, ⟨none, 0, 0⟩, ⟨none, 0, 0⟩, ⟨some ⟨si, 0, none⟩, 1, 1⟩, ⟨some ⟨sf, 0, none⟩, 2, 2⟩, ⟨some ⟨so, 0, none⟩, 3, 3⟩⟩
def litL (name : ByteArray) : PrL := ⟨[], [], [⟨#[109]⟩], [name], [], [], sm2, [⟨15, 0, 0⟩, ⟨23, 0, 0⟩, ⟨24, 0, 0⟩]⟩
theorem lit_hd (S sf so si : Nat) (name : ByteArray) : hdB (litP S sf so si) (litL name) = columnB name := by
  unfold hdB
  have e : (litL name).names.all columnB = columnB name := by
    show [name].all columnB = columnB name
    simp
  rw [e]
  generalize columnB name = b
  cases b
  · refine Eq.trans (b := false) ?_ rfl
    kernel_rfl
  · refine Eq.trans (b := true) ?_ rfl
    kernel_rfl
theorem lit_res (S sf so si : Nat) (name : ByteArray) : resD (litP S sf so si) (litL name) = if columnB name = true then none else some (192, none) := by
  unfold resD
  rw [lit_hd]
  generalize columnB name = b
  cases b with
  | false => rfl
  | true =>
    show resOf true (eachD (litP S sf so si).sz true (litL name).accs (litL name).filter) _ _ _ _ _ = none
    have a1 : eachD (litP S sf so si).sz true (litL name).accs (litL name).filter = none := by kernel_rfl
    have a2 : eachD (litP S sf so si).sz false (litL name).accs (litL name).output = none := by kernel_rfl
    have a3 : (hgtD (litL name).filter 0 s0).2 = none := by kernel_rfl
    have a4 : (hgtD (litL name).output 0 s0).2 = none := by kernel_rfl
    have a5 : emitB (litP S sf so si).alias.n (litL name).output = true := by kernel_rfl
    rw [a1, a2, a3, a4, a5]
    rfl
theorem litN (S sf so si : Nat) (name : ByteArray) : PrN (litP S sf so si) (litL name) := by
  refine ⟨rfl, rfl, rfl, rfl, rfl, rfl, rfl, rfl, ?_, ?_, ?_, ?_, ?_, ?_, ?_, ?_⟩ <;> simp [litL, sm2]
theorem lit_call (name : ByteArray) (X Y1 : World) (hY : SmW ((X.alloc (.cells #[.string ⟨#[109]⟩] 9)).alloc (.cells #[.string name] 9)) Y1) :
    Calls Tryz.prog 11 #[(litP X.heap.size (X.heap.size + 2 + 3) Y1.heap.size (Y1.heap.size + 1)).v] ((Y1.alloc (.cells #[.int .u8 15, .int .i64 0, .int .i64 0, .int .u8 23, .int .i64 0, .int .i64 0, .int .u8 24, .int .i64 0, .int .i64 0] 59)).alloc (.cells #[.int .i64 1] 2)) fun e w' => e = .returned (badR (if columnB name = true then none else some (192, none))) ∧ Below X.heap.size X w' := by
  obtain ⟨A1, hA1⟩ : ∃ A1, A1 = X.alloc (.cells #[.string ⟨#[109]⟩] 9) := ⟨_, rfl⟩
  rw [← hA1] at hY
  have s1 : A1.heap.size = X.heap.size + 1 := by rw [hA1]; simp
  have c1 : A1.cell? ⟨X.heap.size, 0, none⟩ = some (.string ⟨#[109]⟩) := by rw [hA1]; simp [go_sem]
  have b1 : Below X.heap.size X A1 := by rw [hA1]; exact (Below.refl _ X).alloc (Nat.le_refl _) _
  obtain ⟨A2, hA2⟩ : ∃ A2, A2 = A1.alloc (.cells #[.string name] 9) := ⟨_, rfl⟩
  rw [← hA2] at hY
  have s2 : A2.heap.size = X.heap.size + 2 := by rw [hA2]; simp [s1]
  have c2 : A2.cell? ⟨X.heap.size + 1, 0, none⟩ = some (.string name) := by rw [hA2, ← s1]; simp [go_sem]
  have b2 : Below A1.heap.size A1 A2 := by rw [hA2]; exact (Below.refl _ A1).alloc (Nat.le_refl _) _
  have b3 := hY.1
  have f0 := hY.2.filter
  have z1 := b3.size
  obtain ⟨Y2, hY2⟩ : ∃ Y2, Y2 = Y1.alloc (.cells #[.int .u8 15, .int .i64 0, .int .i64 0, .int .u8 23, .int .i64 0, .int .i64 0, .int .u8 24, .int .i64 0, .int .i64 0] 59) := ⟨_, rfl⟩
  rw [← hY2]
  have s3 : Y2.heap.size = Y1.heap.size + 1 := by rw [hY2]; simp
  have b4 : Below Y1.heap.size Y1 Y2 := by rw [hY2]; exact (Below.refl _ Y1).alloc (Nat.le_refl _) _
  have out2 : InIn Y2 (some ⟨Y1.heap.size, 0, none⟩) [⟨15, 0, 0⟩, ⟨23, 0, 0⟩, ⟨24, 0, 0⟩] := Or.inr ⟨Y1.heap.size, 0, rfl, by rw [s3]; omega, fun i t ht => by
    rw [hY2]
    match i, ht with
    | 0, ht => simp at ht; subst ht; simp [go_sem]
    | 1, ht => simp at ht; subst ht; simp [go_sem]
    | 2, ht => simp at ht; subst ht; simp [go_sem]
    | i + 3, ht => simp at ht⟩
  obtain ⟨Y3, hY3⟩ : ∃ Y3, Y3 = Y2.alloc (.cells #[.int .i64 1] 2) := ⟨_, rfl⟩
  rw [← hY3]
  have b5 : Below Y2.heap.size Y2 Y3 := by rw [hY3]; exact (Below.refl _ Y2).alloc (Nat.le_refl _) _
  have s4 := b5.size
  have b13 : Below Y1.heap.size Y1 Y3 := b4.trans (b5.mono (by omega))
  have b23 : Below A2.heap.size A2 Y3 := b3.trans (b13.mono z1)
  have bX : Below X.heap.size X Y3 := (b1.trans (b2.mono (by omega))).trans (b23.mono (by omega))
  have hin : PrIn Y3 (litP X.heap.size (X.heap.size + 2 + 3) Y1.heap.size (Y1.heap.size + 1)) (litL name) := by
    refine ⟨Or.inl rfl, Or.inl rfl, Or.inr ⟨X.heap.size, 0, rfl, by omega, fun i t ht => ?_⟩, Or.inr ⟨X.heap.size + 1, 0, rfl, by omega, fun i t ht => ?_⟩, Or.inl rfl, Or.inl rfl, ?_, out2.below b5 (Nat.le_refl _)⟩
    · match i, ht with
      | 0, ht =>
        simp [litL] at ht
        subst ht
        rw [b23.cell (p := ⟨X.heap.size, 0 + 0, none⟩) (by show X.heap.size < _; omega), b2.cell (p := ⟨X.heap.size, 0 + 0, none⟩) (by show X.heap.size < _; omega)]
        exact c1
      | i + 1, ht => simp [litL] at ht
    · match i, ht with
      | 0, ht =>
        simp [litL] at ht
        subst ht
        rw [b23.cell (p := ⟨X.heap.size + 1, 0 + 0, none⟩) (by show X.heap.size + 1 < _; omega)]
        exact c2
      | i + 1, ht => simp [litL] at ht
    · have := f0.below b13 (Nat.le_refl _)
      rw [s2] at this
      exact this
  have := refProgram_any _ _ (litN X.heap.size (X.heap.size + 2 + 3) Y1.heap.size (Y1.heap.size + 1) name) Y3 hin
  rw [lit_res] at this
  exact this.mono (fun e w' hh => ⟨hh.1, bX.trans (hh.2.mono bX.size)⟩)
/-! ### the program with longer lists -/
def morP (p : PrH) (A N X T I : Sl) : PrH := ⟨p.from_, p.into, p.every, p.offset, p.groups, A, p.alias, N, X, p.lists, T, I, p.filter, p.output⟩
def morL (q : PrL) (N : List ByteArray) : PrL := ⟨q.groups, q.accs ++ [(7, ⟨#[119]⟩)], q.alias, N, q.texts ++ [⟨#[]⟩], q.lists, q.filter, q.output⟩
theorem mor_res {p : PrH} {q : PrL} (hr : resP p q = none) {A N X T I : Sl} {L : List ByteArray} (hL : L.all columnB = q.names.all columnB) (hA : p.accs.n ≤ A.n) (hN : p.names.n ≤ N.n) (hX : p.texts.n ≤ X.n) (hT : p.times.n ≤ T.n) (hI : p.ints.n ≤ I.n) : resP (morP p A N X T I) (morL q L) = none :=
  res_more ⟨hN, hX, Nat.le_refl _, hT, hA, hI, Nat.le_refl _⟩ [(7, ⟨#[119]⟩)] rfl rfl rfl (fun h => hd_more (p := p) (p' := morP p A N X T I) (q := q) (q' := morL q L) rfl rfl rfl rfl rfl rfl rfl hL rfl rfl rfl rfl h) rfl hr
theorem morN {p : PrH} {q : PrL} (hN : PrN p q) (ha : q.accs.length ≤ 5864062014634) (hx : q.texts.length ≤ 8796093021952) {A N X T I : Sl} {L : List ByteArray} (hA : A.n = p.accs.n + 1) (hX : X.n = p.texts.n + 1) (hNn : N.n = L.length) (hL : L.length ≤ 8796093021953) : PrN (morP p A N X T I) (morL q L) := by
  refine ⟨hN.groups, ?_, hN.alias, hNn, ?_, hN.lists, hN.filter, hN.output, hN.groups1, ?_, hN.alias1, ?_, ?_, hN.lists1, hN.filter1, hN.output1⟩
  · show A.n = (q.accs ++ [((7 : Nat), (⟨#[119]⟩ : ByteArray))]).length
    rw [hA, hN.accs]; simp
  · show X.n = (q.texts ++ [(⟨#[]⟩ : ByteArray)]).length
    rw [hX, hN.texts]; simp
  · show (q.accs ++ [((7 : Nat), (⟨#[119]⟩ : ByteArray))]).length ≤ _
    simp; omega
  · show L.length ≤ _
    omega
  · show (q.texts ++ [(⟨#[]⟩ : ByteArray)]).length ≤ _
    simp; omega
end Go.Proofs.YtdfnomglkibfbaaGreatDoor.Vf

namespace Go.Proofs.YtdfnomglkibfbaaGreatDoor.Vf
open Go.RowKit
set_option linter.unusedVariables false
set_option linter.unusedSimpArgs false
set_option maxRecDepth 100000
/-- the program in its box, and the one that is made of it in another. -/
structure QB (w : World) (p : PrH) (B : Nat) (v5 v7 v8 v10 v11 : Value) (W : World) : Prop where
  eh : EH w p W
  l : w.heap.size < B
  lt : B < W.heap.size
  f : ∀ k, k < 14 → W.frozen? ⟨B, k, none⟩ = false
  c0 : W.cell? ⟨B, 0, none⟩ = some (.string p.from_)
  c1 : W.cell? ⟨B, 1, none⟩ = some (.string p.into)
  c2 : W.cell? ⟨B, 2, none⟩ = some (.int .i64 p.every)
  c3 : W.cell? ⟨B, 3, none⟩ = some (.int .i64 p.offset)
  c4 : W.cell? ⟨B, 4, none⟩ = some (.slice p.groups.a p.groups.n p.groups.c)
  c5 : W.cell? ⟨B, 5, none⟩ = some v5
  c6 : W.cell? ⟨B, 6, none⟩ = some (.slice p.alias.a p.alias.n p.alias.c)
  c7 : W.cell? ⟨B, 7, none⟩ = some v7
  c8 : W.cell? ⟨B, 8, none⟩ = some v8
  c9 : W.cell? ⟨B, 9, none⟩ = some (.slice p.lists.a p.lists.n p.lists.c)
  c10 : W.cell? ⟨B, 10, none⟩ = some v10
  c11 : W.cell? ⟨B, 11, none⟩ = some v11
  c12 : W.cell? ⟨B, 12, none⟩ = some (.slice p.filter.a p.filter.n p.filter.c)
  c13 : W.cell? ⟨B, 13, none⟩ = some (.slice p.output.a p.output.n p.output.c)
theorem QB.below {w W W' : World} {p : PrH} {B : Nat} {v5 v7 v8 v10 v11 : Value} (h : QB w p B v5 v7 v8 v10 v11 W) (hb : Below W.heap.size W W') : QB w p B v5 v7 v8 v10 v11 W' := by
  have e : ∀ k, W'.cell? ⟨B, k, none⟩ = W.cell? ⟨B, k, none⟩ := fun k => hb.cell (p := ⟨B, k, none⟩) h.lt
  exact ⟨h.eh.below hb, h.l, Nat.lt_of_lt_of_le h.lt hb.size, fun k hk => by rw [hb.frozen (p := ⟨B, k, none⟩) h.lt]; exact h.f k hk, by rw [e]; exact h.c0, by rw [e]; exact h.c1, by rw [e]; exact h.c2, by rw [e]; exact h.c3, by rw [e]; exact h.c4, by rw [e]; exact h.c5, by rw [e]; exact h.c6, by rw [e]; exact h.c7, by rw [e]; exact h.c8, by rw [e]; exact h.c9, by rw [e]; exact h.c10, by rw [e]; exact h.c11, by rw [e]; exact h.c12, by rw [e]; exact h.c13⟩
theorem QB.new {w W : World} {p : PrH} (h : EH w p W) : QB w p W.heap.size (.slice p.accs.a p.accs.n p.accs.c) (.slice p.names.a p.names.n p.names.c) (.slice p.texts.a p.texts.n p.texts.c) (.slice p.times.a p.times.n p.times.c) (.slice p.ints.a p.ints.n p.ints.c) (W.alloc (.cells #[.string p.from_, .string p.into, .int .i64 p.every, .int .i64 p.offset, .slice p.groups.a p.groups.n p.groups.c, .slice p.accs.a p.accs.n p.accs.c, .slice p.alias.a p.alias.n p.alias.c, .slice p.names.a p.names.n p.names.c, .slice p.texts.a p.texts.n p.texts.c, .slice p.lists.a p.lists.n p.lists.c, .slice p.times.a p.times.n p.times.c, .slice p.ints.a p.ints.n p.ints.c, .slice p.filter.a p.filter.n p.filter.c, .slice p.output.a p.output.n p.output.c] 28)) := by
  refine ⟨h.below ((Below.refl _ _).alloc (Nat.le_refl _) _), h.2.1, by simp, fun k hk => frozen_of_row _ W.heap.size k _ 28 (heap_alloc_new W _), ?_, ?_, ?_, ?_, ?_, ?_, ?_, ?_, ?_, ?_, ?_, ?_, ?_, ?_⟩ <;> simp [go_sem]
theorem AcIn.far {w : World} {b B : Nat} {l : List AcP} (h : AcIn w (some ⟨b, 0, none⟩) l) (hne : B ≠ b) (k : Nat) (v : Value) : AcIn (w.setCell ⟨B, k, none⟩ v) (some ⟨b, 0, none⟩) l := by
  rcases h with h | ⟨b', off, e, hb, hc⟩
  · exact Or.inl h
  · injection e with e
    injection e with e1 e2
    subst e1 e2
    refine Or.inr ⟨b, 0, rfl, by simpa using hb, fun i t ht => ?_⟩
    rw [World.cell?_setCell_other _ _ _ _ (by intro h; injection h; omega), World.cell?_setCell_other _ _ _ _ (by intro h; injection h; omega)]
    exact hc i t ht
theorem StIn.far {w : World} {b B : Nat} {l : List ByteArray} (h : StIn w (some ⟨b, 0, none⟩) l) (hne : B ≠ b) (k : Nat) (v : Value) : StIn (w.setCell ⟨B, k, none⟩ v) (some ⟨b, 0, none⟩) l := by
  rcases h with h | ⟨b', off, e, hb, hc⟩
  · exact Or.inl h
  · injection e with e
    injection e with e1 e2
    subst e1 e2
    refine Or.inr ⟨b, 0, rfl, by simpa using hb, fun i t ht => ?_⟩
    rw [World.cell?_setCell_other _ _ _ _ (by intro h; injection h; omega)]
    exact hc i t ht
theorem append_runM (s x : Operand) {P : Program} {ops : Array Oper} {rest : List Oper} {o : Oper} {a : Act} {Q : Exit → Act → World → Prop} {w : World} (hgd : o.guard = none) (t : TypeId)
    (ho : o.op = .call { callee := .builtin .append, args := #[s, x], argTypes := #[t, t] }) (v y v' : Value) (w' : World) (hs : a.eval s = v) (hx : a.eval x = y) (hr : (Builtin.append_ #[t, t] o.type #[v, y]).run P w = .ok v' w')
    (h : wpList P ops Q rest (a.put o.dst v') w') : wpList P ops Q (o :: rest) a w := wpList_append_runG hgd s x t ho v y v' w' hs hx hr h
theorem EH.far {w W : World} {p : PrH} (h : EH w p W) {g j : Nat} (hg : w.heap.size < g) (v : Value) : EH w p (W.setCell ⟨g, j, none⟩ v) := ⟨h.1.setCell (p := ⟨g, j, none⟩) (Nat.le_of_lt hg) v, h.2.below (n := g) ((Below.refl g W).setCell (p := ⟨g, j, none⟩) (Nat.le_refl _) v) hg⟩
theorem QB.set5 {w W : World} {p : PrH} {B : Nat} {v5 v7 v8 v10 v11 : Value} (h : QB w p B v5 v7 v8 v10 v11 W) (x : Value) : QB w p B x v7 v8 v10 v11 (W.setCell ⟨B, 5, none⟩ x) := by
  have e : ∀ k, k ≠ 5 → (W.setCell ⟨B, 5, none⟩ x).cell? ⟨B, k, none⟩ = W.cell? ⟨B, k, none⟩ := fun k hk => World.cell?_setCell_other _ _ _ _ (by intro q; injection q; omega)
  refine ⟨h.eh.far h.l x, h.l, by simpa using h.lt, fun k hk => by simp [go_sem, h.f k hk], by rw [e _ (by omega)]; exact h.c0, by rw [e _ (by omega)]; exact h.c1, by rw [e _ (by omega)]; exact h.c2, by rw [e _ (by omega)]; exact h.c3, by rw [e _ (by omega)]; exact h.c4, by simp [go_sem, h.c5], by rw [e _ (by omega)]; exact h.c6, by rw [e _ (by omega)]; exact h.c7, by rw [e _ (by omega)]; exact h.c8, by rw [e _ (by omega)]; exact h.c9, by rw [e _ (by omega)]; exact h.c10, by rw [e _ (by omega)]; exact h.c11, by rw [e _ (by omega)]; exact h.c12, by rw [e _ (by omega)]; exact h.c13⟩
theorem QB.set7 {w W : World} {p : PrH} {B : Nat} {v5 v7 v8 v10 v11 : Value} (h : QB w p B v5 v7 v8 v10 v11 W) (x : Value) : QB w p B v5 x v8 v10 v11 (W.setCell ⟨B, 7, none⟩ x) := by
  have e : ∀ k, k ≠ 7 → (W.setCell ⟨B, 7, none⟩ x).cell? ⟨B, k, none⟩ = W.cell? ⟨B, k, none⟩ := fun k hk => World.cell?_setCell_other _ _ _ _ (by intro q; injection q; omega)
  refine ⟨h.eh.far h.l x, h.l, by simpa using h.lt, fun k hk => by simp [go_sem, h.f k hk], by rw [e _ (by omega)]; exact h.c0, by rw [e _ (by omega)]; exact h.c1, by rw [e _ (by omega)]; exact h.c2, by rw [e _ (by omega)]; exact h.c3, by rw [e _ (by omega)]; exact h.c4, by rw [e _ (by omega)]; exact h.c5, by rw [e _ (by omega)]; exact h.c6, by simp [go_sem, h.c7], by rw [e _ (by omega)]; exact h.c8, by rw [e _ (by omega)]; exact h.c9, by rw [e _ (by omega)]; exact h.c10, by rw [e _ (by omega)]; exact h.c11, by rw [e _ (by omega)]; exact h.c12, by rw [e _ (by omega)]; exact h.c13⟩
theorem QB.set8 {w W : World} {p : PrH} {B : Nat} {v5 v7 v8 v10 v11 : Value} (h : QB w p B v5 v7 v8 v10 v11 W) (x : Value) : QB w p B v5 v7 x v10 v11 (W.setCell ⟨B, 8, none⟩ x) := by
  have e : ∀ k, k ≠ 8 → (W.setCell ⟨B, 8, none⟩ x).cell? ⟨B, k, none⟩ = W.cell? ⟨B, k, none⟩ := fun k hk => World.cell?_setCell_other _ _ _ _ (by intro q; injection q; omega)
  refine ⟨h.eh.far h.l x, h.l, by simpa using h.lt, fun k hk => by simp [go_sem, h.f k hk], by rw [e _ (by omega)]; exact h.c0, by rw [e _ (by omega)]; exact h.c1, by rw [e _ (by omega)]; exact h.c2, by rw [e _ (by omega)]; exact h.c3, by rw [e _ (by omega)]; exact h.c4, by rw [e _ (by omega)]; exact h.c5, by rw [e _ (by omega)]; exact h.c6, by rw [e _ (by omega)]; exact h.c7, by simp [go_sem, h.c8], by rw [e _ (by omega)]; exact h.c9, by rw [e _ (by omega)]; exact h.c10, by rw [e _ (by omega)]; exact h.c11, by rw [e _ (by omega)]; exact h.c12, by rw [e _ (by omega)]; exact h.c13⟩
theorem QB.set10 {w W : World} {p : PrH} {B : Nat} {v5 v7 v8 v10 v11 : Value} (h : QB w p B v5 v7 v8 v10 v11 W) (x : Value) : QB w p B v5 v7 v8 x v11 (W.setCell ⟨B, 10, none⟩ x) := by
  have e : ∀ k, k ≠ 10 → (W.setCell ⟨B, 10, none⟩ x).cell? ⟨B, k, none⟩ = W.cell? ⟨B, k, none⟩ := fun k hk => World.cell?_setCell_other _ _ _ _ (by intro q; injection q; omega)
  refine ⟨h.eh.far h.l x, h.l, by simpa using h.lt, fun k hk => by simp [go_sem, h.f k hk], by rw [e _ (by omega)]; exact h.c0, by rw [e _ (by omega)]; exact h.c1, by rw [e _ (by omega)]; exact h.c2, by rw [e _ (by omega)]; exact h.c3, by rw [e _ (by omega)]; exact h.c4, by rw [e _ (by omega)]; exact h.c5, by rw [e _ (by omega)]; exact h.c6, by rw [e _ (by omega)]; exact h.c7, by rw [e _ (by omega)]; exact h.c8, by rw [e _ (by omega)]; exact h.c9, by simp [go_sem, h.c10], by rw [e _ (by omega)]; exact h.c11, by rw [e _ (by omega)]; exact h.c12, by rw [e _ (by omega)]; exact h.c13⟩
theorem QB.set11 {w W : World} {p : PrH} {B : Nat} {v5 v7 v8 v10 v11 : Value} (h : QB w p B v5 v7 v8 v10 v11 W) (x : Value) : QB w p B v5 v7 v8 v10 x (W.setCell ⟨B, 11, none⟩ x) := by
  have e : ∀ k, k ≠ 11 → (W.setCell ⟨B, 11, none⟩ x).cell? ⟨B, k, none⟩ = W.cell? ⟨B, k, none⟩ := fun k hk => World.cell?_setCell_other _ _ _ _ (by intro q; injection q; omega)
  refine ⟨h.eh.far h.l x, h.l, by simpa using h.lt, fun k hk => by simp [go_sem, h.f k hk], by rw [e _ (by omega)]; exact h.c0, by rw [e _ (by omega)]; exact h.c1, by rw [e _ (by omega)]; exact h.c2, by rw [e _ (by omega)]; exact h.c3, by rw [e _ (by omega)]; exact h.c4, by rw [e _ (by omega)]; exact h.c5, by rw [e _ (by omega)]; exact h.c6, by rw [e _ (by omega)]; exact h.c7, by rw [e _ (by omega)]; exact h.c8, by rw [e _ (by omega)]; exact h.c9, by rw [e _ (by omega)]; exact h.c10, by simp [go_sem, h.c11], by rw [e _ (by omega)]; exact h.c12, by rw [e _ (by omega)]; exact h.c13⟩
set_option maxHeartbeats 8000000 in
theorem verifyMore_walk (p : PrH) (q : PrL) (ts is : List Int) (name : ByteArray) (n : Int) (hN : PrN p q) (hts : p.times.n = ts.length) (his : p.ints.n = is.length) (ht1 : ts.length ≤ 17592186043904) (hi1 : is.length ≤ 17592186043904) (ha1 : q.accs.length ≤ 5864062014634) (hx1 : q.texts.length ≤ 8796093021952) (hn1 : q.names.length ≤ 8796093021952) (hcf : ∀ (j : Nat) (t : InP), q.filter[j]? = some t → t.c < 256) (hco : ∀ (j : Nat) (t : InP), q.output[j]? = some t → t.c < 256) (w : World) (hU : UT w) (hR : RT w) (hE : ET w) (h : PrIn w p q) (hT : NtIn w p.times.a ts) (hI : NtIn w p.ints.a is) : Calls Tryz.prog 6 #[p.v, .string name, .int .i64 n] w fun e w' => e = .returned (.bool true) ∧ Below w.heap.size w w' := by
  have cL : Hid (∀ W, EH w p W → Calls Tryz.prog 8 #[] W fun e w' => e = .returned (.bool true) ∧ EH w p w' ∧ Below W.heap.size W w') := fun W hW => (live_any W (hU.below hW.1 (Nat.le_refl _)) (hR.below hW.1 hR.lt) (ET_below hE hW.1)).mono (fun e w' hh => ⟨hh.1, hW.below hh.2, hh.2⟩)
  have cP : Hid (∀ W, EH w p W → Calls Tryz.prog 10 #[.agg #[.string p.from_, .string p.into, .int .i64 p.every, .int .i64 p.offset, .slice p.groups.a p.groups.n p.groups.c, .slice p.accs.a p.accs.n p.accs.c, .slice p.alias.a p.alias.n p.alias.c, .slice p.names.a p.names.n p.names.c, .slice p.texts.a p.texts.n p.texts.c, .slice p.lists.a p.lists.n p.lists.c, .slice p.times.a p.times.n p.times.c, .slice p.ints.a p.ints.n p.ints.c, .slice p.filter.a p.filter.n p.filter.c, .slice p.output.a p.output.n p.output.c]] W fun e w' => e = .returned (errV (resP p q)) ∧ EH w p w') := fun W hW => (program_any p q hN hcf hco W (hU.below hW.1 (Nat.le_refl _)) (hR.below hW.1 hR.lt) (h.below hW.1 (Nat.le_refl _))).mono (fun e w' hh => ⟨hh.1, hW.below hh.2⟩)
  have E0 : Hid (EH w p (w.alloc (.cells p.cells 28))) := EH.new w p
  have mT : Hid (∀ W, Below w.heap.size w W → ∃ ad1 cap1 w1 b cap2 w2, (Builtin.append_ #[25, 25] 25 #[.slice (some ⟨W.heap.size, 0, none⟩) 0 0, .slice p.times.a p.times.n p.times.c]).run Tryz.prog (W.alloc (.cells #[] 2)) = .ok (.slice (some ad1) p.times.n cap1) w1 ∧ (Builtin.append_ #[25, 25] 25 #[.slice (some ad1) p.times.n cap1, .slice (some ⟨w1.heap.size, 0, none⟩) 1 1]).run Tryz.prog (w1.alloc (.cells #[.int .i64 n] 2)) = .ok (.slice (some ⟨b, 0, none⟩) (p.times.n + 1) cap2) w2 ∧ Below W.heap.size W w2) := fun W hW => by
    rw [hts]
    exact more_ints (hT.below hW (Nat.le_refl _)) ht1 p.times.c _ _ n
  have mI : Hid (∀ W, Below w.heap.size w W → ∃ ad1 cap1 w1 b cap2 w2, (Builtin.append_ #[25, 25] 25 #[.slice (some ⟨W.heap.size, 0, none⟩) 0 0, .slice p.ints.a p.ints.n p.ints.c]).run Tryz.prog (W.alloc (.cells #[] 2)) = .ok (.slice (some ad1) p.ints.n cap1) w1 ∧ (Builtin.append_ #[25, 25] 25 #[.slice (some ad1) p.ints.n cap1, .slice (some ⟨w1.heap.size, 0, none⟩) 1 1]).run Tryz.prog (w1.alloc (.cells #[.int .i64 n] 2)) = .ok (.slice (some ⟨b, 0, none⟩) (p.ints.n + 1) cap2) w2 ∧ Below W.heap.size W w2) := fun W hW => by
    rw [his]
    exact more_ints (hI.below hW (Nat.le_refl _)) hi1 p.ints.c _ _ n
  have mA : Hid (∀ W, Below w.heap.size w W → ∃ ad1 cap1 w1 b cap2 w2, (Builtin.append_ #[23, 23] 23 #[.slice (some ⟨W.heap.size, 0, none⟩) 0 0, .slice p.accs.a p.accs.n p.accs.c]).run Tryz.prog (W.alloc (.cells #[] 55)) = .ok (.slice (some ad1) p.accs.n cap1) w1 ∧ (Builtin.append_ #[23, 23] 23 #[.slice (some ad1) p.accs.n cap1, .slice (some ⟨w1.heap.size, 0, none⟩) 1 1]).run Tryz.prog (w1.alloc (.cells #[.int .u8 7, .string ⟨#[119]⟩] 55)) = .ok (.slice (some ⟨b, 0, none⟩) (p.accs.n + 1) cap2) w2 ∧ Below W.heap.size W w2 ∧ W.heap.size ≤ b ∧ AcIn w2 (some ⟨b, 0, none⟩) (q.accs ++ [(7, ⟨#[119]⟩)])) := fun W hW => by
    rw [hN.accs]
    exact more_accs (h.accs.below hW (Nat.le_refl _)) ha1 p.accs.c _ _ (7, ⟨#[119]⟩)
  have mX : Hid (∀ W, Below w.heap.size w W → ∃ ad1 cap1 w1 b cap2 w2, (Builtin.append_ #[22, 22] 22 #[.slice (some ⟨W.heap.size, 0, none⟩) 0 0, .slice p.texts.a p.texts.n p.texts.c]).run Tryz.prog (W.alloc (.cells #[] 9)) = .ok (.slice (some ad1) p.texts.n cap1) w1 ∧ (Builtin.append_ #[22, 22] 22 #[.slice (some ad1) p.texts.n cap1, .slice (some ⟨w1.heap.size, 0, none⟩) 1 1]).run Tryz.prog (w1.alloc (.cells #[.string ⟨#[]⟩] 9)) = .ok (.slice (some ⟨b, 0, none⟩) (p.texts.n + 1) cap2) w2 ∧ Below W.heap.size W w2 ∧ W.heap.size ≤ b ∧ StIn w2 (some ⟨b, 0, none⟩) (q.texts ++ [⟨#[]⟩])) := fun W hW => by
    rw [hN.texts]
    exact more_strs (h.texts.below hW (Nat.le_refl _)) hx1 p.texts.c _ _ ⟨#[]⟩
  have mN : Hid (∀ W, Below w.heap.size w W → ∃ ad1 cap1 w1 b cap2 w2, (Builtin.append_ #[22, 22] 22 #[.slice (some ⟨W.heap.size, 0, none⟩) 0 0, .slice p.names.a p.names.n p.names.c]).run Tryz.prog (W.alloc (.cells #[] 9)) = .ok (.slice (some ad1) p.names.n cap1) w1 ∧ (Builtin.append_ #[22, 22] 22 #[.slice (some ad1) p.names.n cap1, .slice (some ⟨w1.heap.size, 0, none⟩) 1 1]).run Tryz.prog (w1.alloc (.cells #[.string name] 9)) = .ok (.slice (some ⟨b, 0, none⟩) (p.names.n + 1) cap2) w2 ∧ Below W.heap.size W w2 ∧ W.heap.size ≤ b ∧ StIn w2 (some ⟨b, 0, none⟩) (q.names ++ [name])) := fun W hW => by
    rw [hN.names]
    exact more_strs (h.names.below hW (Nat.le_refl _)) hn1 p.names.c _ _ name
  have cQ : Hid (∀ (b5 kk5 b8 kk8 b10 kk10 b11 kk11 : Nat) (N : Sl) (L : List ByteArray) (W : World), resP p q = none → L.all columnB = q.names.all columnB → p.names.n ≤ N.n → N.n = L.length → L.length ≤ 8796093021953 → EH w p W → StIn W N.a L → AcIn W (some ⟨b5, 0, none⟩) (q.accs ++ [(7, ⟨#[119]⟩)]) → StIn W (some ⟨b8, 0, none⟩) (q.texts ++ [⟨#[]⟩]) → Calls Tryz.prog 10 #[(morP p ⟨some ⟨b5, 0, none⟩, p.accs.n + 1, kk5⟩ N ⟨some ⟨b8, 0, none⟩, p.texts.n + 1, kk8⟩ ⟨some ⟨b10, 0, none⟩, p.times.n + 1, kk10⟩ ⟨some ⟨b11, 0, none⟩, p.ints.n + 1, kk11⟩).v] W fun e w' => e = .returned .nilIface ∧ Below W.heap.size W w') := fun b5 kk5 b8 kk8 b10 kk10 b11 kk11 N L W hr hL hle hNL hLl hW iN iA iX => by
    have hh := h.below hW.1 (Nat.le_refl _)
    have := program_any _ _ (morN hN ha1 hx1 (A := ⟨some ⟨b5, 0, none⟩, p.accs.n + 1, kk5⟩) (N := N) (X := ⟨some ⟨b8, 0, none⟩, p.texts.n + 1, kk8⟩) (T := ⟨some ⟨b10, 0, none⟩, p.times.n + 1, kk10⟩) (I := ⟨some ⟨b11, 0, none⟩, p.ints.n + 1, kk11⟩) rfl rfl hNL hLl) hcf hco W (hU.below hW.1 (Nat.le_refl _)) (hR.below hW.1 hR.lt) ⟨hh.groups, iA, hh.alias, iN, iX, hh.lists, hh.filter, hh.output⟩
    rw [mor_res hr hL (Nat.le_succ _) hle (Nat.le_succ _) (Nat.le_succ _) (Nat.le_succ _)] at this
    exact this
  have nmsH : Hid (p.names.n = q.names.length ∧ StIn w p.names.a q.names ∧ q.names.length ≤ 8796093021952) := ⟨hN.names, h.names, hn1⟩
  have KP : Hid (PrN p q ∧ p.times.n = ts.length ∧ p.ints.n = is.length ∧ PrIn w p q ∧ NtIn w p.times.a ts ∧ NtIn w p.ints.a is) := ⟨hN, hts, his, h, hT, hI⟩
  clear hU hR hE hN hts his h hT hI hcf hco
  unfold PrH.cells at E0
  unfold PrH.v
  go_enter Tryz.func6, Tryz.ntmps6
  go_wp2_with fail
  generalize World.alloc w _ = W1 at E0 ⊢
  with_reducible refine Calls.mono (cP.out _ E0.out) ?_
  rintro e w2 ⟨rfl, e2⟩
  clear cP E0
  cases hr : resP p q with
  | some x =>
    obtain ⟨xc, xp⟩ := x
    have e2H : Hid (EH w p w2) := e2
    clear hr e2
    cases xp with
    | none =>
      unfold errV
      go_wp2_with fail
      with_reducible refine Calls.mono (cL.out _ e2H.out) ?_
      rintro e w3 ⟨rfl, e3, _⟩
      go_wp2_with fail
      go_ret
      exact ⟨rfl, e3.1⟩
    | some xp =>
      unfold errV atE
      go_wp2_with fail
      with_reducible refine Calls.mono (cL.out _ e2H.out) ?_
      rintro e w3 ⟨rfl, e3, _⟩
      go_wp2_with fail
      go_ret
      exact ⟨rfl, e3.1⟩
  | none =>
    unfold errV
    obtain ⟨zp, y0, y1, y2, y3, y4, y5, y6, y7, y8, y9, y10, y11, y12, y13⟩ := e2.2
    go_upto_region 4 with fail
    have qb : Hid (QB w p w2.heap.size (.slice p.accs.a p.accs.n p.accs.c) (.slice p.names.a p.names.n p.names.c) (.slice p.texts.a p.texts.n p.texts.c) (.slice p.times.a p.times.n p.times.c) (.slice p.ints.a p.ints.n p.ints.c) (w2.alloc (.cells #[.string p.from_, .string p.into, .int .i64 p.every, .int .i64 p.offset, .slice p.groups.a p.groups.n p.groups.c, .slice p.accs.a p.accs.n p.accs.c, .slice p.alias.a p.alias.n p.alias.c, .slice p.names.a p.names.n p.names.c, .slice p.texts.a p.texts.n p.texts.c, .slice p.lists.a p.lists.n p.lists.c, .slice p.times.a p.times.n p.times.c, .slice p.ints.a p.ints.n p.ints.c, .slice p.filter.a p.filter.n p.filter.c, .slice p.output.a p.output.n p.output.c] 28))) := QB.new e2
    clear zp y0 y1 y2 y3 y4 y5 y6 y7 y8 y9 y10 y11 y12 y13 e2
    have hrH : Hid (resP p q = none) := hr
    clear hr
    generalize World.alloc w2 _ = W3 at qb ⊢
    generalize w2.heap.size = B at qb ⊢
    obtain ⟨ad10, k10, u10, b10, kk10, V10, r1, r2, bb⟩ := mT.out W3 qb.out.eh.1
    have hA : Hid (∀ W' x', W' = W3.alloc (.cells #[] 2) → x' = Value.slice (some ⟨W3.heap.size, 0, none⟩) 0 0 → (Builtin.append_ #[25, 25] 25 #[x', .slice p.times.a p.times.n p.times.c]).run Tryz.prog W' = .ok (.slice (some ad10) p.times.n k10) u10) := fun W' x' e1 e2 => by rw [e1, e2]; exact r1
    have hB : Hid (∀ W' y', W' = u10.alloc (.cells #[.int .i64 n] 2) → y' = Value.slice (some ⟨u10.heap.size, 0, none⟩) 1 1 → (Builtin.append_ #[25, 25] 25 #[.slice (some ad10) p.times.n k10, y']).run Tryz.prog W' = .ok (.slice (some ⟨b10, 0, none⟩) (p.times.n + 1) kk10) V10) := fun W' y' e1 e2 => by rw [e1, e2]; exact r2
    obtain ⟨zp, y0, y1, y2, y3, y4, y5, y6, y7, y8, y9, y10, y11, y12, y13⟩ := qb.out.eh.2
    have zl := qb.out.eh.2.1
    have qn : Hid (QB w p B (.slice p.accs.a p.accs.n p.accs.c) (.slice p.names.a p.names.n p.names.c) (.slice p.texts.a p.texts.n p.texts.c) (.slice p.times.a p.times.n p.times.c) (.slice p.ints.a p.ints.n p.ints.c) V10) := qb.out.below bb
    have cB := qn.out.c10
    have fB := qn.out.f 10 (by omega)
    have zB := qn.out.lt
    have zW := qb.out.lt
    have qs : Hid (QB w p B (.slice p.accs.a p.accs.n p.accs.c) (.slice p.names.a p.names.n p.names.c) (.slice p.texts.a p.texts.n p.texts.c) (.slice (some ⟨b10, 0, none⟩) (p.times.n + 1) kk10) (.slice p.ints.a p.ints.n p.ints.c) (V10.setCell ⟨B, 10, none⟩ (.slice (some ⟨b10, 0, none⟩) (p.times.n + 1) kk10))) := qn.out.set10 _
    clear r1 r2 bb qn qb mT 
    clear y0 y1 y2 y3 y4 y5 y6 y7 y8 y9 y11 y12 y13
    go_upto_region 5 with (first
      | (at_builtin; refine append_runM (.tmp 13) (.tmp 15) (by rfl) _ (by rfl) _ _ _ _ (by rfl) (by rfl) (hA.out _ _ (by first | rfl | simp) (by first | rfl | simp)) ?_)
      | (at_builtin; refine append_runM (.tmp 16) (.tmp 18) (by rfl) _ (by rfl) _ _ _ _ (by rfl) (by rfl) (hB.out _ _ (by first | rfl | simp) (by first | rfl | simp)) ?_))
    clear hA hB cB fB zB zW zl zp y10
    generalize World.setCell V10 _ _ = X10 at qs  ⊢
    rename Hid (QB _ _ _ _ _ _ _ _ _) => qb
    obtain ⟨ad11, k11, u11, b11, kk11, V11, r1, r2, bb⟩ := mI.out X10 qb.out.eh.1
    have hA : Hid (∀ W' x', W' = X10.alloc (.cells #[] 2) → x' = Value.slice (some ⟨X10.heap.size, 0, none⟩) 0 0 → (Builtin.append_ #[25, 25] 25 #[x', .slice p.ints.a p.ints.n p.ints.c]).run Tryz.prog W' = .ok (.slice (some ad11) p.ints.n k11) u11) := fun W' x' e1 e2 => by rw [e1, e2]; exact r1
    have hB : Hid (∀ W' y', W' = u11.alloc (.cells #[.int .i64 n] 2) → y' = Value.slice (some ⟨u11.heap.size, 0, none⟩) 1 1 → (Builtin.append_ #[25, 25] 25 #[.slice (some ad11) p.ints.n k11, y']).run Tryz.prog W' = .ok (.slice (some ⟨b11, 0, none⟩) (p.ints.n + 1) kk11) V11) := fun W' y' e1 e2 => by rw [e1, e2]; exact r2
    obtain ⟨zp, y0, y1, y2, y3, y4, y5, y6, y7, y8, y9, y10, y11, y12, y13⟩ := qb.out.eh.2
    have zl := qb.out.eh.2.1
    have qn : Hid (QB w p B (.slice p.accs.a p.accs.n p.accs.c) (.slice p.names.a p.names.n p.names.c) (.slice p.texts.a p.texts.n p.texts.c) (.slice (some ⟨b10, 0, none⟩) (p.times.n + 1) kk10) (.slice p.ints.a p.ints.n p.ints.c) V11) := qb.out.below bb
    have cB := qn.out.c11
    have fB := qn.out.f 11 (by omega)
    have zB := qn.out.lt
    have zW := qb.out.lt
    have qs : Hid (QB w p B (.slice p.accs.a p.accs.n p.accs.c) (.slice p.names.a p.names.n p.names.c) (.slice p.texts.a p.texts.n p.texts.c) (.slice (some ⟨b10, 0, none⟩) (p.times.n + 1) kk10) (.slice (some ⟨b11, 0, none⟩) (p.ints.n + 1) kk11) (V11.setCell ⟨B, 11, none⟩ (.slice (some ⟨b11, 0, none⟩) (p.ints.n + 1) kk11))) := qn.out.set11 _
    clear r1 r2 bb qn qb mI 
    clear y0 y1 y2 y3 y4 y5 y6 y7 y8 y9 y10 y12 y13
    go_upto_region 6 with (first
      | (at_builtin; refine append_runM (.tmp 21) (.tmp 23) (by rfl) _ (by rfl) _ _ _ _ (by rfl) (by rfl) (hA.out _ _ (by first | rfl | simp) (by first | rfl | simp)) ?_)
      | (at_builtin; refine append_runM (.tmp 24) (.tmp 26) (by rfl) _ (by rfl) _ _ _ _ (by rfl) (by rfl) (hB.out _ _ (by first | rfl | simp) (by first | rfl | simp)) ?_))
    clear hA hB cB fB zB zW zl zp y11
    generalize World.setCell V11 _ _ = X11 at qs  ⊢
    rename Hid (QB _ _ _ _ _ _ _ _ _) => qb
    obtain ⟨ad5, k5, u5, b5, kk5, V5, r1, r2, bb, lb, ct⟩ := mA.out X11 qb.out.eh.1
    have hA : Hid (∀ W' x', W' = X11.alloc (.cells #[] 55) → x' = Value.slice (some ⟨X11.heap.size, 0, none⟩) 0 0 → (Builtin.append_ #[23, 23] 23 #[x', .slice p.accs.a p.accs.n p.accs.c]).run Tryz.prog W' = .ok (.slice (some ad5) p.accs.n k5) u5) := fun W' x' e1 e2 => by rw [e1, e2]; exact r1
    have hB : Hid (∀ W' y', W' = u5.alloc (.cells #[.int .u8 7, .string ⟨#[119]⟩] 55) → y' = Value.slice (some ⟨u5.heap.size, 0, none⟩) 1 1 → (Builtin.append_ #[23, 23] 23 #[.slice (some ad5) p.accs.n k5, y']).run Tryz.prog W' = .ok (.slice (some ⟨b5, 0, none⟩) (p.accs.n + 1) kk5) V5) := fun W' y' e1 e2 => by rw [e1, e2]; exact r2
    obtain ⟨zp, y0, y1, y2, y3, y4, y5, y6, y7, y8, y9, y10, y11, y12, y13⟩ := qb.out.eh.2
    have zl := qb.out.eh.2.1
    have qn : Hid (QB w p B (.slice p.accs.a p.accs.n p.accs.c) (.slice p.names.a p.names.n p.names.c) (.slice p.texts.a p.texts.n p.texts.c) (.slice (some ⟨b10, 0, none⟩) (p.times.n + 1) kk10) (.slice (some ⟨b11, 0, none⟩) (p.ints.n + 1) kk11) V5) := qb.out.below bb
    have cB := qn.out.c5
    have fB := qn.out.f 5 (by omega)
    have zB := qn.out.lt
    have zW := qb.out.lt
    have qs : Hid (QB w p B (.slice (some ⟨b5, 0, none⟩) (p.accs.n + 1) kk5) (.slice p.names.a p.names.n p.names.c) (.slice p.texts.a p.texts.n p.texts.c) (.slice (some ⟨b10, 0, none⟩) (p.times.n + 1) kk10) (.slice (some ⟨b11, 0, none⟩) (p.ints.n + 1) kk11) (V5.setCell ⟨B, 5, none⟩ (.slice (some ⟨b5, 0, none⟩) (p.accs.n + 1) kk5))) := qn.out.set5 _
    have ct5' : Hid (AcIn (V5.setCell ⟨B, 5, none⟩ (.slice (some ⟨b5, 0, none⟩) (p.accs.n + 1) kk5)) (some ⟨b5, 0, none⟩) (q.accs ++ [(7, ⟨#[119]⟩)]) ∧ B ≠ b5) := ⟨ct.far (by omega) _ _, by omega⟩
    clear ct lb
    clear r1 r2 bb qn qb mA 
    clear y0 y1 y2 y3 y4 y6 y7 y8 y9 y10 y11 y12 y13
    go_upto_region 7 with (first
      | (at_builtin; refine append_runM (.tmp 29) (.tmp 31) (by rfl) _ (by rfl) _ _ _ _ (by rfl) (by rfl) (hA.out _ _ (by first | rfl | simp) (by first | rfl | simp)) ?_)
      | (at_builtin; refine append_runM (.tmp 32) (.tmp 34) (by rfl) _ (by rfl) _ _ _ _ (by rfl) (by rfl) (hB.out _ _ (by first | rfl | simp) (by first | rfl | simp)) ?_))
    clear hA hB cB fB zB zW zl zp y5
    generalize World.setCell V5 _ _ = X5 at qs ct5' ⊢
    rename Hid (QB _ _ _ _ _ _ _ _ _) => qb
    have ct5 := ct5'
    clear ct5'
    obtain ⟨ad8, k8, u8, b8, kk8, V8, r1, r2, bb, lb, ct⟩ := mX.out X5 qb.out.eh.1
    have hA : Hid (∀ W' x', W' = X5.alloc (.cells #[] 9) → x' = Value.slice (some ⟨X5.heap.size, 0, none⟩) 0 0 → (Builtin.append_ #[22, 22] 22 #[x', .slice p.texts.a p.texts.n p.texts.c]).run Tryz.prog W' = .ok (.slice (some ad8) p.texts.n k8) u8) := fun W' x' e1 e2 => by rw [e1, e2]; exact r1
    have hB : Hid (∀ W' y', W' = u8.alloc (.cells #[.string ⟨#[]⟩] 9) → y' = Value.slice (some ⟨u8.heap.size, 0, none⟩) 1 1 → (Builtin.append_ #[22, 22] 22 #[.slice (some ad8) p.texts.n k8, y']).run Tryz.prog W' = .ok (.slice (some ⟨b8, 0, none⟩) (p.texts.n + 1) kk8) V8) := fun W' y' e1 e2 => by rw [e1, e2]; exact r2
    obtain ⟨zp, y0, y1, y2, y3, y4, y5, y6, y7, y8, y9, y10, y11, y12, y13⟩ := qb.out.eh.2
    have zl := qb.out.eh.2.1
    have qn : Hid (QB w p B (.slice (some ⟨b5, 0, none⟩) (p.accs.n + 1) kk5) (.slice p.names.a p.names.n p.names.c) (.slice p.texts.a p.texts.n p.texts.c) (.slice (some ⟨b10, 0, none⟩) (p.times.n + 1) kk10) (.slice (some ⟨b11, 0, none⟩) (p.ints.n + 1) kk11) V8) := qb.out.below bb
    have cB := qn.out.c8
    have fB := qn.out.f 8 (by omega)
    have zB := qn.out.lt
    have zW := qb.out.lt
    have qs : Hid (QB w p B (.slice (some ⟨b5, 0, none⟩) (p.accs.n + 1) kk5) (.slice p.names.a p.names.n p.names.c) (.slice (some ⟨b8, 0, none⟩) (p.texts.n + 1) kk8) (.slice (some ⟨b10, 0, none⟩) (p.times.n + 1) kk10) (.slice (some ⟨b11, 0, none⟩) (p.ints.n + 1) kk11) (V8.setCell ⟨B, 8, none⟩ (.slice (some ⟨b8, 0, none⟩) (p.texts.n + 1) kk8))) := qn.out.set8 _
    have ct5' : Hid (AcIn (V8.setCell ⟨B, 8, none⟩ (.slice (some ⟨b8, 0, none⟩) (p.texts.n + 1) kk8)) (some ⟨b5, 0, none⟩) (q.accs ++ [(7, ⟨#[119]⟩)]) ∧ B ≠ b5) := ⟨(ct5.out.1.below bb (Nat.le_refl _)).far ct5.out.2 _ _, ct5.out.2⟩
    have ct8' : Hid (StIn (V8.setCell ⟨B, 8, none⟩ (.slice (some ⟨b8, 0, none⟩) (p.texts.n + 1) kk8)) (some ⟨b8, 0, none⟩) (q.texts ++ [⟨#[]⟩]) ∧ B ≠ b8) := ⟨ct.far (by omega) _ _, by omega⟩
    clear ct lb
    clear r1 r2 bb qn qb mX ct5
    clear y0 y1 y2 y3 y4 y5 y6 y7 y9 y10 y11 y12 y13
    go_upto_region 8 with (first
      | (at_builtin; refine append_runM (.tmp 37) (.tmp 39) (by rfl) _ (by rfl) _ _ _ _ (by rfl) (by rfl) (hA.out _ _ (by first | rfl | simp) (by first | rfl | simp)) ?_)
      | (at_builtin; refine append_runM (.tmp 40) (.tmp 41) (by rfl) _ (by rfl) _ _ _ _ (by rfl) (by rfl) (hB.out _ _ (by first | rfl | simp) (by first | rfl | simp)) ?_))
    clear hA hB cB fB zB zW zl zp y8
    generalize World.setCell V8 _ _ = X8 at qs ct5' ct8' ⊢
    rename Hid (QB _ _ _ _ _ _ _ _ _) => qb
    have ct5 := ct5'
    clear ct5'
    have ct8 := ct8'
    clear ct8'
    have cS : Hid (∀ W, Calls Tryz.prog 22 #[] W fun e w' => ∃ s5 s6 sf so, e = .returned (.agg #[.string ⟨#[99, 112, 117]⟩, .string ⟨#[116]⟩, .int .i64 1, .int .i64 0, .slice none 0 0, .slice (some ⟨s5, 0, none⟩) 1 1, .slice (some ⟨s6, 0, none⟩) 1 1, .slice none 0 0, .slice none 0 0, .slice none 0 0, .slice none 0 0, .slice none 0 0, .slice (some ⟨sf, 0, none⟩) 2 2, .slice (some ⟨so, 0, none⟩) 3 3]) ∧ Hid (sf = W.heap.size + 3 ∧ SmW W w')) := fun W => (small_any W).mono (fun e w' hh => ⟨_, _, _, _, hh.1, rfl, hh.2⟩)
    go_wp2_with fail
    with_reducible refine Calls.mono (cS.out _) ?_
    rintro e Y1 ⟨s5, s6, sf, so, rfl, hY⟩
    clear cS
    have cR := lit_call name X8 Y1 hY.out.2
    have hsf : sf = X8.heap.size + 2 + 3 := by have := hY.out.1; simp at this; omega
    clear hY
    have hfld : ∀ W, (Instr.field 28 (.agg #[.string ⟨#[99, 112, 117]⟩, .string ⟨#[116]⟩, .int .i64 1, .int .i64 0, .slice none 0 0, .slice (some ⟨s5, 0, none⟩) 1 1, .slice (some ⟨s6, 0, none⟩) 1 1, .slice none 0 0, .slice none 0 0, .slice none 0 0, .slice none 0 0, .slice none 0 0, .slice (some ⟨sf, 0, none⟩) 2 2, .slice (some ⟨so, 0, none⟩) 3 3]) 12).run Tryz.prog W = .ok (.slice (some ⟨sf, 0, none⟩) 2 2) W := fun W => by first | kernel_rfl | rfl
    cases hc : columnB name with
    | false =>
      have cRH : Hid (Calls Tryz.prog 11 #[.agg #[.string ⟨#[99, 112, 117]⟩, .string ⟨#[]⟩, .int .i64 1, .int .i64 0, .slice none 0 0, .slice none 0 0, .slice (some ⟨X8.heap.size, 0, none⟩) 1 1, .slice (some ⟨X8.heap.size + 1, 0, none⟩) 1 1, .slice none 0 0, .slice none 0 0, .slice none 0 0, .slice (some ⟨Y1.heap.size + 1, 0, none⟩) 1 1, .slice (some ⟨sf, 0, none⟩) 2 2, .slice (some ⟨Y1.heap.size, 0, none⟩) 3 3]] ((Y1.alloc (.cells #[.int .u8 15, .int .i64 0, .int .i64 0, .int .u8 23, .int .i64 0, .int .i64 0, .int .u8 24, .int .i64 0, .int .i64 0] 59)).alloc (.cells #[.int .i64 1] 2)) fun e w' => e = .returned (.agg #[.int .i64 192, .int .i64 0, .int .i64 0, .bool false, .bool false]) ∧ Below X8.heap.size X8 w') := by
        rw [hc] at cR
        rw [hsf]
        exact cR
      clear cR hsf
      go_wp2_with fail
      with_reducible refine Calls.mono cRH.out ?_
      rintro e Z0 ⟨rfl, bZ0⟩
      have hfb : ∀ W, (Instr.field 36 (.agg #[.int .i64 192, .int .i64 0, .int .i64 0, .bool false, .bool false]) 0).run Tryz.prog W = .ok (.int .i64 192) W := fun W => by first | kernel_rfl | rfl
      clear hfld
      have qb2 : Hid (QB w p B (.slice (some ⟨b5, 0, none⟩) (p.accs.n + 1) kk5) (.slice p.names.a p.names.n p.names.c) (.slice (some ⟨b8, 0, none⟩) (p.texts.n + 1) kk8) (.slice (some ⟨b10, 0, none⟩) (p.times.n + 1) kk10) (.slice (some ⟨b11, 0, none⟩) (p.ints.n + 1) kk11) Z0) := qb.out.below bZ0
      have ct5' : Hid (AcIn Z0 (some ⟨b5, 0, none⟩) (q.accs ++ [(7, ⟨#[119]⟩)]) ∧ B ≠ b5) := ⟨ct5.out.1.below bZ0 (Nat.le_refl _), ct5.out.2⟩
      have ct8' : Hid (StIn Z0 (some ⟨b8, 0, none⟩) (q.texts ++ [⟨#[]⟩]) ∧ B ≠ b8) := ⟨ct8.out.1.below bZ0 (Nat.le_refl _), ct8.out.2⟩
      clear cRH bZ0 qb ct5 ct8
      have qb := qb2
      have ct5 := ct5'
      have ct8 := ct8'
      clear qb2 ct5' ct8'
      have z1 : w.heap.size < Z0.heap.size := qb.out.eh.2.1
      go_wp2_with fail
      with_reducible refine Calls.mono (cL.out _ qb.out.eh) ?_
      rintro e Z1 ⟨rfl, _, bZ⟩
      have qz : Hid (QB w p B (.slice (some ⟨b5, 0, none⟩) (p.accs.n + 1) kk5) (.slice p.names.a p.names.n p.names.c) (.slice (some ⟨b8, 0, none⟩) (p.texts.n + 1) kk8) (.slice (some ⟨b10, 0, none⟩) (p.times.n + 1) kk10) (.slice (some ⟨b11, 0, none⟩) (p.ints.n + 1) kk11) Z1) := qb.out.below bZ
      have cZ : Hid (Calls Tryz.prog 10 #[.agg #[.string p.from_, .string p.into, .int .i64 p.every, .int .i64 p.offset, .slice p.groups.a p.groups.n p.groups.c, .slice (some ⟨b5, 0, none⟩) (p.accs.n + 1) kk5, .slice p.alias.a p.alias.n p.alias.c, .slice p.names.a p.names.n p.names.c, .slice (some ⟨b8, 0, none⟩) (p.texts.n + 1) kk8, .slice p.lists.a p.lists.n p.lists.c, .slice (some ⟨b10, 0, none⟩) (p.times.n + 1) kk10, .slice (some ⟨b11, 0, none⟩) (p.ints.n + 1) kk11, .slice p.filter.a p.filter.n p.filter.c, .slice p.output.a p.output.n p.output.c]] Z1 fun e w' => e = .returned .nilIface ∧ Below Z1.heap.size Z1 w') := cQ.out b5 kk5 b8 kk8 b10 kk10 b11 kk11 p.names q.names Z1 hrH.out rfl (Nat.le_refl _) nmsH.out.1 (by have := nmsH.out.2.2; omega) qz.out.eh (nmsH.out.2.1.below qz.out.eh.1 (Nat.le_refl _)) (ct5.out.1.below bZ (Nat.le_refl _)) (ct8.out.1.below bZ (Nat.le_refl _))
      obtain ⟨_, _, zq, _, d0, d1, d2, d3, d4, d5, d6, d7, d8, d9, d10, d11, d12, d13⟩ := id qz.out
      clear bZ qb ct5 ct8 cQ cL
      go_wp2_with fail
      clear d0 d1 d2 d3 d4 d5 d6 d7 d8 d9 d10 d11 d12 d13 zq
      with_reducible refine Calls.mono cZ.out ?_
      rintro e Z2 ⟨rfl, bZ2⟩
      have fn : Hid (Below w.heap.size w Z2) := (qz.out.below bZ2).eh.1
      clear cZ qz bZ2
      go_wp2_with fail
      go_ret
      exact ⟨rfl, fn.out⟩
    | true =>
      have cRH : Hid (Calls Tryz.prog 11 #[.agg #[.string ⟨#[99, 112, 117]⟩, .string ⟨#[]⟩, .int .i64 1, .int .i64 0, .slice none 0 0, .slice none 0 0, .slice (some ⟨X8.heap.size, 0, none⟩) 1 1, .slice (some ⟨X8.heap.size + 1, 0, none⟩) 1 1, .slice none 0 0, .slice none 0 0, .slice none 0 0, .slice (some ⟨Y1.heap.size + 1, 0, none⟩) 1 1, .slice (some ⟨sf, 0, none⟩) 2 2, .slice (some ⟨Y1.heap.size, 0, none⟩) 3 3]] ((Y1.alloc (.cells #[.int .u8 15, .int .i64 0, .int .i64 0, .int .u8 23, .int .i64 0, .int .i64 0, .int .u8 24, .int .i64 0, .int .i64 0] 59)).alloc (.cells #[.int .i64 1] 2)) fun e w' => e = .returned (.agg #[.int .i64 0, .int .i64 0, .int .i64 0, .bool false, .bool false]) ∧ Below X8.heap.size X8 w') := by
        rw [hc] at cR
        rw [hsf]
        exact cR
      clear cR hsf
      go_wp2_with fail
      with_reducible refine Calls.mono cRH.out ?_
      rintro e Z0 ⟨rfl, bZ0⟩
      have hfb : ∀ W, (Instr.field 36 (.agg #[.int .i64 0, .int .i64 0, .int .i64 0, .bool false, .bool false]) 0).run Tryz.prog W = .ok (.int .i64 0) W := fun W => by first | kernel_rfl | rfl
      clear hfld
      have qb2 : Hid (QB w p B (.slice (some ⟨b5, 0, none⟩) (p.accs.n + 1) kk5) (.slice p.names.a p.names.n p.names.c) (.slice (some ⟨b8, 0, none⟩) (p.texts.n + 1) kk8) (.slice (some ⟨b10, 0, none⟩) (p.times.n + 1) kk10) (.slice (some ⟨b11, 0, none⟩) (p.ints.n + 1) kk11) Z0) := qb.out.below bZ0
      have ct5' : Hid (AcIn Z0 (some ⟨b5, 0, none⟩) (q.accs ++ [(7, ⟨#[119]⟩)]) ∧ B ≠ b5) := ⟨ct5.out.1.below bZ0 (Nat.le_refl _), ct5.out.2⟩
      have ct8' : Hid (StIn Z0 (some ⟨b8, 0, none⟩) (q.texts ++ [⟨#[]⟩]) ∧ B ≠ b8) := ⟨ct8.out.1.below bZ0 (Nat.le_refl _), ct8.out.2⟩
      clear cRH bZ0 qb ct5 ct8
      have qb := qb2
      have ct5 := ct5'
      have ct8 := ct8'
      clear qb2 ct5' ct8'
      go_upto_region 9 with fail
      obtain ⟨ad7, k7, u7, b7, kk7, V7, r1, r2, bb, lb, ct⟩ := mN.out Z0 qb.out.eh.1
      have hA : Hid (∀ W' x', W' = Z0.alloc (.cells #[] 9) → x' = Value.slice (some ⟨Z0.heap.size, 0, none⟩) 0 0 → (Builtin.append_ #[22, 22] 22 #[x', .slice p.names.a p.names.n p.names.c]).run Tryz.prog W' = .ok (.slice (some ad7) p.names.n k7) u7) := fun W' x' e1 e2 => by rw [e1, e2]; exact r1
      have hB : Hid (∀ W' y', W' = u7.alloc (.cells #[.string name] 9) → y' = Value.slice (some ⟨u7.heap.size, 0, none⟩) 1 1 → (Builtin.append_ #[22, 22] 22 #[.slice (some ad7) p.names.n k7, y']).run Tryz.prog W' = .ok (.slice (some ⟨b7, 0, none⟩) (p.names.n + 1) kk7) V7) := fun W' y' e1 e2 => by rw [e1, e2]; exact r2
      obtain ⟨zp, y0, y1, y2, y3, y4, y5, y6, y7, y8, y9, y10, y11, y12, y13⟩ := qb.out.eh.2
      have zl := qb.out.eh.2.1
      have qn : Hid (QB w p B (.slice (some ⟨b5, 0, none⟩) (p.accs.n + 1) kk5) (.slice p.names.a p.names.n p.names.c) (.slice (some ⟨b8, 0, none⟩) (p.texts.n + 1) kk8) (.slice (some ⟨b10, 0, none⟩) (p.times.n + 1) kk10) (.slice (some ⟨b11, 0, none⟩) (p.ints.n + 1) kk11) V7) := qb.out.below bb
      have cB := qn.out.c7
      have fB := qn.out.f 7 (by omega)
      have zB := qn.out.lt
      have zW := qb.out.lt
      have qs : Hid (QB w p B (.slice (some ⟨b5, 0, none⟩) (p.accs.n + 1) kk5) (.slice (some ⟨b7, 0, none⟩) (p.names.n + 1) kk7) (.slice (some ⟨b8, 0, none⟩) (p.texts.n + 1) kk8) (.slice (some ⟨b10, 0, none⟩) (p.times.n + 1) kk10) (.slice (some ⟨b11, 0, none⟩) (p.ints.n + 1) kk11) (V7.setCell ⟨B, 7, none⟩ (.slice (some ⟨b7, 0, none⟩) (p.names.n + 1) kk7))) := qn.out.set7 _
      have ct5' : Hid (AcIn (V7.setCell ⟨B, 7, none⟩ (.slice (some ⟨b7, 0, none⟩) (p.names.n + 1) kk7)) (some ⟨b5, 0, none⟩) (q.accs ++ [(7, ⟨#[119]⟩)]) ∧ B ≠ b5) := ⟨(ct5.out.1.below bb (Nat.le_refl _)).far ct5.out.2 _ _, ct5.out.2⟩
      have ct8' : Hid (StIn (V7.setCell ⟨B, 7, none⟩ (.slice (some ⟨b7, 0, none⟩) (p.names.n + 1) kk7)) (some ⟨b8, 0, none⟩) (q.texts ++ [⟨#[]⟩]) ∧ B ≠ b8) := ⟨(ct8.out.1.below bb (Nat.le_refl _)).far ct8.out.2 _ _, ct8.out.2⟩
      have ct7' : Hid (StIn (V7.setCell ⟨B, 7, none⟩ (.slice (some ⟨b7, 0, none⟩) (p.names.n + 1) kk7)) (some ⟨b7, 0, none⟩) (q.names ++ [name]) ∧ B ≠ b7) := ⟨ct.far (by omega) _ _, by omega⟩
      clear ct lb
      clear r1 r2 bb qn qb mN ct5 ct8
      clear y0 y1 y2 y3 y4 y5 y6 y8 y9 y10 y11 y12 y13
      go_upto_region 10 with (first
        | (at_builtin; refine append_runM (.tmp 58) (.tmp 60) (by rfl) _ (by rfl) _ _ _ _ (by rfl) (by rfl) (hA.out _ _ (by first | rfl | simp) (by first | rfl | simp)) ?_)
        | (at_builtin; refine append_runM (.tmp 61) (.tmp 63) (by rfl) _ (by rfl) _ _ _ _ (by rfl) (by rfl) (hB.out _ _ (by first | rfl | simp) (by first | rfl | simp)) ?_))
      clear hA hB cB fB zB zW zl zp y7
      generalize World.setCell V7 _ _ = X7 at qs ct5' ct8' ct7' ⊢
      rename Hid (QB _ _ _ _ _ _ _ _ _) => qb
      have ct5 := ct5'
      clear ct5'
      have ct8 := ct8'
      clear ct8'
      have ct7 := ct7'
      clear ct7'
      have z1 : w.heap.size < X7.heap.size := qb.out.eh.2.1
      go_wp2_with fail
      with_reducible refine Calls.mono (cL.out _ qb.out.eh) ?_
      rintro e Z1 ⟨rfl, _, bZ⟩
      have qz : Hid (QB w p B (.slice (some ⟨b5, 0, none⟩) (p.accs.n + 1) kk5) (.slice (some ⟨b7, 0, none⟩) (p.names.n + 1) kk7) (.slice (some ⟨b8, 0, none⟩) (p.texts.n + 1) kk8) (.slice (some ⟨b10, 0, none⟩) (p.times.n + 1) kk10) (.slice (some ⟨b11, 0, none⟩) (p.ints.n + 1) kk11) Z1) := qb.out.below bZ
      have cZ : Hid (Calls Tryz.prog 10 #[.agg #[.string p.from_, .string p.into, .int .i64 p.every, .int .i64 p.offset, .slice p.groups.a p.groups.n p.groups.c, .slice (some ⟨b5, 0, none⟩) (p.accs.n + 1) kk5, .slice p.alias.a p.alias.n p.alias.c, .slice (some ⟨b7, 0, none⟩) (p.names.n + 1) kk7, .slice (some ⟨b8, 0, none⟩) (p.texts.n + 1) kk8, .slice p.lists.a p.lists.n p.lists.c, .slice (some ⟨b10, 0, none⟩) (p.times.n + 1) kk10, .slice (some ⟨b11, 0, none⟩) (p.ints.n + 1) kk11, .slice p.filter.a p.filter.n p.filter.c, .slice p.output.a p.output.n p.output.c]] Z1 fun e w' => e = .returned .nilIface ∧ Below Z1.heap.size Z1 w') := cQ.out b5 kk5 b8 kk8 b10 kk10 b11 kk11 ⟨some ⟨b7, 0, none⟩, p.names.n + 1, kk7⟩ (q.names ++ [name]) Z1 hrH.out (by rw [List.all_append, List.all_cons, hc, List.all_nil]; simp) (Nat.le_succ _) (by show p.names.n + 1 = _; rw [nmsH.out.1]; simp) (by have := nmsH.out.2.2; simp; omega) qz.out.eh (ct7.out.1.below bZ (Nat.le_refl _)) (ct5.out.1.below bZ (Nat.le_refl _)) (ct8.out.1.below bZ (Nat.le_refl _))
      obtain ⟨_, _, zq, _, d0, d1, d2, d3, d4, d5, d6, d7, d8, d9, d10, d11, d12, d13⟩ := id qz.out
      clear bZ qb ct5 ct8 ct7 cQ cL
      go_wp2_with fail
      clear d0 d1 d2 d3 d4 d5 d6 d7 d8 d9 d10 d11 d12 d13 zq
      with_reducible refine Calls.mono cZ.out ?_
      rintro e Z2 ⟨rfl, bZ2⟩
      have fn : Hid (Below w.heap.size w Z2) := (qz.out.below bZ2).eh.1
      clear cZ qz bZ2
      go_wp2_with fail
      go_ret
      exact ⟨rfl, fn.out⟩
end Go.Proofs.YtdfnomglkibfbaaGreatDoor.Vf
