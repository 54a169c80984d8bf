
import Derived.Test.YtlcppkemiogbeaaBcB
import Derived.Test.YtlcppkemiogbeaaProg
import Derived.Deep.AppendLies
import Derived.RowKit
import Derived.WalkKit
import Derived.Laws.BitsAllLaws
import Derived.Test.YtlcppkemiogbeaaBaI
namespace Go.Proofs.Ytlcppkemiogbeaa
open Go.RowKit _root_.Go.Proofs.Ytlcppkemiogbeaa.So
set_option linter.unusedVariables false
set_option linter.unusedSimpArgs false
theorem choose_belowW {α : Type} [Inhabited α] {n : Nat} {P : Nat → α → Prop} (h : ∀ i, i < n → ∃ x, P i x) : ∃ f : Nat → α, ∀ i, i < n → P i (f i) := by
  refine ⟨fun i => if hi : i < n then Classical.choose (h i hi) else default, fun i hi => ?_⟩
  simp only [dif_pos hi]
  exact Classical.choose_spec (h i hi)
instance : Inhabited WrP := ⟨noW⟩
/-- rows that lie in memory, with where their tags lie. -/
theorem WIn.enc {w : World} {b off : Nat} {l : List WrP} (h : WIn w (some ⟨b, off, none⟩) l) : ∃ L : List WrA, L.map (·.1) = l ∧ (∀ t ∈ L, SerIn w t.2.1 t.1.s) ∧ ∀ j u, (encW L)[j]? = some u → w.cell? ⟨b, off + j, none⟩ = some u := by
  rcases h with h | ⟨b', off', e, hb, hc⟩
  · subst h; exact ⟨[], rfl, fun t ht => (by cases ht), fun j u hj => by simp [encW] at hj⟩
  · injection e with e
    injection e with e1 e2
    subst e1 e2
    have each : ∀ i, i < l.length → ∃ q : Option Addr × Nat, WAt w b (off + i * 6) (atW l i) q.1 q.2 ∧ SerIn w q.1 (atW l i).s := fun i hi => by
      obtain ⟨ta, tc, h1, h2⟩ := hc i _ (atW_some hi)
      exact ⟨(ta, tc), h1, h2⟩
    obtain ⟨q, hq⟩ := choose_belowW each
    have hget : ∀ i, i < l.length → ((List.range l.length).map fun i => ((atW l i, (q i).1, (q i).2) : WrA))[i]? = some (atW l i, (q i).1, (q i).2) := fun i hi => by rw [List.getElem?_map, List.getElem?_range hi]; rfl
    refine ⟨(List.range l.length).map fun i => (atW l i, (q i).1, (q i).2), ?_, fun t ht => ?_, fun j u hj => ?_⟩
    · refine List.ext_getElem? fun i => ?_
      rw [List.map_map, List.getElem?_map]
      rcases Nat.lt_or_ge i l.length with hi | hi
      · rw [List.getElem?_range hi, atW_some hi]; rfl
      · rw [List.getElem?_eq_none (by simpa using hi), List.getElem?_eq_none hi]; rfl
    · obtain ⟨i, hi, rfl⟩ := List.mem_map.1 ht
      exact (hq i (List.mem_range.1 hi)).2
    · have hj2 : j < l.length * 6 := by
        have := (List.getElem?_eq_some_iff.1 hj).1
        rw [encW_len] at this
        simpa using this
      have hi : j / 6 < l.length := by omega
      obtain ⟨e1, e2, e3, e4, e5, e6⟩ := encW_get _ _ _ (hget _ hi)
      obtain ⟨c1, c2, c3, c4, c5, c6⟩ := (hq _ hi).1
      rcases (by omega : j % 6 = 0 ∨ j % 6 = 1 ∨ j % 6 = 2 ∨ j % 6 = 3 ∨ j % 6 = 4 ∨ j % 6 = 5) with r | r | r | r | r | r
      · rw [show j = j / 6 * 6 by omega] at hj ⊢
        rw [e1] at hj
        rw [c1, ← hj]
      · rw [show j = j / 6 * 6 + 1 by omega] at hj ⊢
        rw [e2] at hj
        rw [← Nat.add_assoc, c2, ← hj]
      · rw [show j = j / 6 * 6 + 2 by omega] at hj ⊢
        rw [e3] at hj
        rw [← Nat.add_assoc, c3, ← hj]
      · rw [show j = j / 6 * 6 + 3 by omega] at hj ⊢
        rw [e4] at hj
        rw [← Nat.add_assoc, c4, ← hj]
      · rw [show j = j / 6 * 6 + 4 by omega] at hj ⊢
        rw [e5] at hj
        rw [← Nat.add_assoc, c5, ← hj]
      · rw [show j = j / 6 * 6 + 5 by omega] at hj ⊢
        rw [e6] at hj
        rw [← Nat.add_assoc, c6, ← hj]
theorem app_noW (W : World) (a ad : Option Addr) (n cap c : Nat) (h : n ≤ cap) : (Builtin.append_ #[28, 28] 28 #[.slice a n cap, .slice ad 0 c]).run Try.prog W = .ok (.slice a n cap) W := by
  obtain ⟨i, i1, i0⟩ := Option.map_eq_some_iff.1 wr_info
  cases a <;> cases ad <;> simp [Builtin.append_, run_underlying Try.underlying28, sizeOf, typeInfo, i1, Builtin.lenOf, Builtin.firstCells, storeCells, loadCells, loadCellsFrom, h]
theorem OW.slice' {w : World} {B : Nat} {v : Value} {L : List WrA} (h : w.ownsRow B 37 6 v L.length (encW L)) : ∃ a cap, v = .slice a L.length cap ∧ L.length ≤ cap := by
  rcases h.2 with ⟨e1, e2⟩ | ⟨g, cap', cur, e1, _, _, hc, _⟩
  · exact ⟨none, 0, by rw [e1, e2], by omega⟩
  · exact ⟨_, cap', e1, hc⟩
/-- a row of one's own whose tags all lie where they lay at the beginning. -/
structure CcS (w0 W : World) (v : Value) (L : List WrA) : Prop where
  own : W.ownsRow w0.heap.size 37 6 v L.length (encW L)
  tg : ∀ t ∈ L, SerIn w0 t.2.1 t.1.s
  bl : Below w0.heap.size w0 W
theorem CcS.nil (w : World) : CcS w w (.slice none 0 0) [] := ⟨⟨rfl, Or.inl ⟨rfl, rfl⟩⟩, (fun t h => by cases h), Below.refl _ _⟩
theorem CcS.win {w0 W : World} {v : Value} {L : List WrA} (h : CcS w0 W v L) : ∃ a cap, v = .slice a L.length cap ∧ L.length ≤ cap ∧ WIn W a (L.map (·.1)) := by
  obtain ⟨a, cap, e, hc⟩ := OW.slice' h.own
  have ho : OW W w0.heap.size v L := ⟨h.own, fun t ht => (h.tg t ht).belowW h.bl⟩
  obtain ⟨a', cap', e', hw⟩ := ho.win
  rw [e] at e'
  injection e' with e1 e2 e3
  subst e1 e3
  exact ⟨a, cap, e, hc, hw⟩
/-- a row appended, or none. -/
theorem appW (w0 W : World) (v : Value) (L : List WrA) (h : CcS w0 W v L) (a : Option Addr) (c : Nat) (m : List WrP) (hm : WIn w0 a m) (hn : L.length + m.length ≤ 1099511627776) :
    ∃ v' w' M, (Builtin.append_ #[28, 28] 28 #[v, .slice a m.length c]).run Try.prog W = .ok v' w' ∧ M.map (·.1) = m ∧ CcS w0 w' v' (L ++ M) := by
  rcases Nat.eq_zero_or_pos m.length with h0 | h0
  · have e := List.eq_nil_of_length_eq_zero h0
    subst e
    obtain ⟨a1, c1, e1, hc1⟩ := OW.slice' h.own
    exact ⟨v, W, [], by rw [e1]; exact app_noW _ _ _ _ _ _ hc1, rfl, by rw [List.append_nil]; exact h⟩
  · have hm' := hm
    rcases hm with e | ⟨b, off, e, hb, hc⟩
    · rw [e] at h0; simp at h0
    · subst e
      obtain ⟨M, hM, hs, hcs⟩ := hm'.enc
      have lM : M.length = m.length := by rw [← hM, List.length_map]
      obtain ⟨i, i1, i0⟩ := Option.map_eq_some_iff.1 wr_info
      have i2 : i.zero = some (.agg #[.string ⟨#[]⟩, .slice none 0 0, .string ⟨#[]⟩, .int .i64 0, .int .u8 0, .int .i64 0]) := congrArg (·.1) i0
      have i3 : i.bytes = 80 := congrArg (·.2.1) i0
      have i4 : i.size = 6 := congrArg (·.2.2) i0
      have hml : maxLen = 9223372036854775807 := by decide
      obtain ⟨g, cap, w', hr, own, gr, hat, hlt2⟩ := run_append_lies (P := Try.prog) W 28 28 w0.heap.size 37 i (.agg #[.string ⟨#[]⟩, .slice none 0 0, .string ⟨#[]⟩, .int .i64 0, .int .u8 0, .int .i64 0]) 6 80 Try.underlying28 i1 i2 i4 i3 rfl (by omega) v L.length (encW L) h.own ⟨b, off, none⟩ m.length c (encW M) (by rw [encW_len, lM]) (fun j u hj => by rw [tag_add, h.bl.cell (p := ⟨b, off + j, none⟩) hb]; exact hcs j u hj) (encW_one _) h0 (by omega) (by omega) h.bl.size _ rfl
      refine ⟨_, w', M, hr, hM, ?_, fun t ht => ?_, h.bl.trans ((Below.refl w0.heap.size W).grown gr h.bl.size (fun k e => (World.ownsRow.lt h.own k e).1))⟩
      · rw [List.length_append, lM, encW_append]; exact own
      · rcases List.mem_append.1 ht with q | q
        · exact h.tg t q
        · exact hs t q
end Go.Proofs.Ytlcppkemiogbeaa

namespace Go.Proofs.Ytlcppkemiogbeaa
open Go.RowKit
set_option linter.unusedVariables false
set_option linter.unusedSimpArgs false
theorem wr_infoG : (Try.prog.info? 37).map (fun i => (i.zero, i.bytes, i.size)) = some (some (.agg #[.string ⟨#[]⟩, .slice none 0 0, .string ⟨#[]⟩, .int .i64 0, .int .u8 0, .int .i64 0]), 80, 6) := by kernel_rfl
abbrev zW6 : Array Value := #[.string ⟨#[]⟩, .slice none 0 0, .string ⟨#[]⟩, .int .i64 0, .int .u8 0, .int .i64 0]
/-- room for n, where there was nothing: append of what make makes. -/
theorem grow_run (w : World) (n : Nat) (h0 : 0 < n) (hn : n ≤ 1099511627776) :
    (Builtin.append_ #[28, 3] 28 #[.slice none 0 0, .int .i64 (n : Int)]).run Try.prog w = .ok (.slice (some ⟨w.heap.size, 0, none⟩) n (grownCap w n 0 37)) (w.drew.alloc (.cells (Builtin.zeroCells zW6 n ++ Builtin.zeroCells zW6 (grownCap w n 0 37 - n)) 37)) := by
  obtain ⟨i, i1, i0⟩ := Option.map_eq_some_iff.1 wr_infoG
  have i2 : i.zero = some (.agg zW6) := congrArg (·.1) i0
  have i3 : i.bytes = 80 := congrArg (·.2.1) i0
  have i4 : i.size = 6 := congrArg (·.2.2) i0
  have nw : IntKind.i64.wrap (n : Int) = (n : Int) := IntWalk.i64_in _ (by omega)
  have a1 : ¬ ((n : Int) < 0) := by omega
  have a2 : ¬ (281474976710656 < (n : Int) * 80) := by omega
  have a3 : ¬ (n = 0) := by omega
  have a4 : ¬ (n * 6 = 0) := by omega
  have a5 : ¬ (9223372036854775807 < (n : Int)) := by omega
  have a6 : Builtin.nextslicecap n 0 = n := by unfold Builtin.nextslicecap; rw [if_pos (by omega)]
  have a7 : ¬ (281474976710656 < n * 80) := by omega
  have hz6 : (Value.agg zW6).cells = zW6 := rfl
  simp [Builtin.append_, run_underlying Try.underlying28, run_underlying Try.underlying3, sizeOf, typeInfo, zeroValue, i1, i2, i3, i4, asInt, asIntOf, nw, a1, a2, a3, a4, a5, a6, a7, Question.forced, newRow, grownCap, Builtin.firstCells, hz6]
theorem zero_size (n : Nat) : (Builtin.zeroCells zW6 n).size = n * 6 := by simp [Builtin.zeroCells]
theorem wpList_append_runX {P : Program} {ops : Array Oper} {rest : List Oper} {o : Oper} {a : Act} {Q : Exit → Act → World → Prop} {w : World} (hgd : o.guard = none) (s x : Operand) (t u : TypeId)
    (ho : o.op = .call { callee := .builtin .append, args := #[s, x], argTypes := #[t, u] }) (v y v' : Value) (w' : World) (hs : a.eval s = v) (hx : a.eval x = y) (hr : (Builtin.append_ #[t, u] o.type #[v, y]).run P w = .ok v' w')
    (h : wpList P ops Q rest (a.put o.dst v') w') : wpList P ops Q (o :: rest) a w := by
  refine wpList_plain hgd fun K hK => ?_
  unfold Oper.wp execOp
  simp only [ho, resolve, invoke, builtin, Sem.run_bind, Sem.run_pure, Result.andThen_ok, List.map_toArray, List.map_cons, List.map_nil, hs, hx, hr]
  exact hK _ _ h
end Go.Proofs.Ytlcppkemiogbeaa

namespace Go.Proofs.Ytlcppkemiogbeaa
open Go.RowKit _root_.Go.Proofs.Ytlcppkemiogbeaa.So
set_option linter.unusedVariables false
set_option linter.unusedSimpArgs false
/-- what Order tells. -/
def OrdR (w w' : World) (l : List WrP) (e : Ending) : Prop := ∃ (out : List Nat) (L : List WrA) (v : Value), e = .returned v ∧ Sorted1 (ahW l) l.length out ∧ OW2 w' w.heap.size v L ∧ L.map (·.1) = ordL l out out.length ∧ Below w.heap.size w w'
set_option maxRecDepth 100000 in
set_option maxHeartbeats 16000000 in
theorem order_any (a : Option Addr) (c : Nat) (l : List WrP) (w : World) (hl : WIn w a l) (hn : l.length ≤ 549755813888) (hts : ∀ x ∈ l, x.s.t.length ≤ 4398046511104) :
    Calls Try.prog 18 #[.slice a l.length c] w fun e w' => OrdR w w' l e := by
  obtain ⟨P1, hP1⟩ : ∃ P, P = w.heap.size := ⟨_, rfl⟩
  obtain ⟨w1, hw1⟩ : ∃ w1, w1 = w.alloc (.cells #[.slice a l.length c] 28) := ⟨_, rfl⟩
  have B1 : Below w.heap.size w w1 := by rw [hw1]; exact (Below.refl _ w).alloc (Nat.le_refl _) _
  have s1 : w1.heap.size = P1 + 1 := by rw [hw1, hP1]; simp
  have c1 : w1.cell? ⟨P1, 0, none⟩ = some (.slice a l.length c) := by rw [hw1, hP1]; simp [go_sem]
  have B1H : Hid (Below w.heap.size w w1) := B1
  have s1H : Hid (w1.heap.size = P1 + 1) := s1
  have c1H : Hid (w1.cell? ⟨P1, 0, none⟩ = some (.slice a l.length c)) := c1
  have hlH : Hid (WIn w a l) := hl
  have htsH : Hid (∀ x ∈ l, x.s.t.length ≤ 4398046511104) := hts
  have hmk := make_n l.length (by omega)
  obtain ⟨b0, hb0⟩ : ∃ b, b = w1.heap.size := ⟨_, rfl⟩
  have hb2 : b0 = P1 + 1 := by rw [hb0, s1]
  have F0 : Hid (FP w1 b0 l.length 0 (w1.alloc (.cells (madeCells #[.int .i64 0] l.length) 3))) := by rw [hb0]; exact FP.start w1 l.length
  have hbw : Hid (w1.heap.size ≤ b0) := by rw [hb0]; exact Nat.le_refl _
  have c1' : ∀ o, (w1.alloc o).cell? ⟨P1, 0, none⟩ = some (.slice a l.length c) := fun o => by rw [((Below.refl w1.heap.size w1).alloc (Nat.le_refl _) o).cell (p := ⟨P1, 0, none⟩) (by show P1 < w1.heap.size; omega)]; exact c1
  obtain ⟨n, hnl⟩ : ∃ n, l.length = n := ⟨_, rfl⟩
  have hN : Hid (l.length = n) := hnl
  rw [hnl] at hn c1 hmk F0 c1H hw1 c1' ⊢
  clear hl hts B1 hnl s1
  go_enter Try.func18, Try.ntmps18
  go_wp2_with fail
  rw [← hw1, ← hP1]
  rw [← hb2]
  generalize w1.alloc (.cells (madeCells #[.int .i64 0] n) 3) = w2 at F0 ⊢
  clear hw1 hP1 hb0 hb2 hmk c1 c1'
  go_loopw [14] (fun v wr => ∃ k : Nat, v = .int .i64 (k : Int) ∧ k ≤ n ∧ Hid (FP w1 b0 n k wr)) (fun v _ => n - (intOf v).toNat)
  case atStart => exact ⟨0, rfl, Nat.zero_le _, F0⟩
  case round =>
    clear F0
    obtain ⟨k, rfl, hkn, hF⟩ := hrel
    have kw : IntKind.i64.wrap ((k : Int) + 1) = ((k + 1 : Nat) : Int) := IntWalk.i64_in _ (by omega)
    by_cases hk : k < n
    · have hkI : (k : Int) < (n : Int) := by omega
      have k0 : (0 : Int) ≤ (k : Int) := by omega
      have cc := hF.out.c k hk
      have ff := hF.out.f k hk
      have F2 : Hid (FP w1 b0 n (k + 1) (wr.setCell ⟨b0, k, none⟩ (.int .i64 (k : Int)))) := hF.out.more hk hbw.out
      clear hF
      go_wp2_with fail
      exact ⟨⟨k + 1, by first | rfl | simp, by omega, F2⟩, by simp [intOf]; omega⟩
    · have hkI : ¬ (k : Int) < (n : Int) := by omega
      obtain rfl : k = n := by omega
      have Bw : Below w.heap.size w wr := B1H.out.trans (hF.out.b.mono B1H.out.size)
      have pcell : wr.cell? ⟨P1, 0, none⟩ = some (.slice a k c) := by rw [hF.out.b.cell (p := ⟨P1, 0, none⟩) (by show P1 < w1.heap.size; have := s1H.out; omega)]; exact c1H.out
      have pl : P1 < wr.heap.size := by have := s1H.out; have := hF.out.b.size; omega
      have CS : Hid (Calls Try.prog 31 #[.slice (some ⟨b0, 0, none⟩) k k, .func (.func 32) #[] #[.pointer (some ⟨P1, 0, none⟩)]] wr fun e w' => SrtR wr w' (ahW l) k e) := by
        have hA := ahead_any wr P1 a c l pl (by rw [hN.out]; exact pcell) (hlH.out.below Bw) (by rw [hN.out]; omega)
        rw [hN.out] at hA
        exact sorted_any wr b0 k P1 (ahW l) (ahW_ao l k) hA hF.out.done (by omega)
      have BwH : Hid (Below w.heap.size w wr) := Bw
      have plH : Hid (P1 < wr.heap.size ∧ wr.cell? ⟨P1, 0, none⟩ = some (.slice a k c)) := ⟨pl, pcell⟩
      clear hF Bw pcell pl
      go_wp2_with fail
      refine Calls.mono CS.out ?_
      rintro e w3 ⟨out, g, c', rfl, hsrt, hg, hcells, hB3⟩
      have pcell : w3.cell? ⟨P1, 0, none⟩ = some (.slice a k c) := by rw [hB3.cell (p := ⟨P1, 0, none⟩) plH.out.1]; exact plH.out.2
      have hP3 : Hid (∀ W, Below w3.heap.size w3 W → W.cell? ⟨P1, 0, none⟩ = some (.slice a k c)) := fun W hW => by rw [hW.cell (p := ⟨P1, 0, none⟩) (Nat.lt_of_lt_of_le plH.out.1 hB3.size)]; exact pcell
      have hcH : Hid (∀ (i p : Nat) W, out[i]? = some p → Below w3.heap.size w3 W → W.cell? ⟨g, i, none⟩ = some (.int .i64 (p : Int))) := fun i p W hi hW => by rw [hW.cell (p := ⟨g, i, none⟩) hg]; exact hcells i p hi
      have B3 : Hid (Below w.heap.size w w3) := BwH.out.trans (hB3.mono BwH.out.size)
      have hsH : Hid (Sorted1 (ahW l) k out) := hsrt
      have ple : Hid (P1 < w3.heap.size ∧ g < w3.heap.size) := ⟨Nat.lt_of_lt_of_le plH.out.1 hB3.size, hg⟩
      have D0 : Hid (OD1 w3 l out 0 (.slice none 0 0) [] w3) := ⟨OW2.nil _ _, rfl, Below.refl _ _⟩
      have m1 : out.length ≤ k := by
        have := nodup_leB out (List.range k) (by
          rw [List.nodup_iff_pairwise_ne]
          refine (List.Pairwise.and_mem.1 hsrt.ord).imp ?_
          rintro x y ⟨hx, hy, hxy⟩ e
          subst e
          rw [(ahW_ao l k).irr x ((hsrt.all x).1 hx)] at hxy
          cases hxy) (fun x hx => List.mem_range.2 ((hsrt.all x).1 hx))
        simpa using this
      clear hB3 hcells hg hsrt pcell CS plH BwH
      obtain ⟨m, hm⟩ : ∃ m, out.length = m := ⟨_, rfl⟩
      have hM : Hid (out.length = m) := hm
      rw [hm] at m1 ⊢
      clear hm
      go_wp2_with fail
      go_loopw [5, 27] (fun v5 v27 wr => ∃ (k2 z c3 : Nat) (a3 : Option Addr) (L : List WrA), v5 = .slice a3 z c3 ∧ v27 = .int .i64 (k2 : Int) ∧ k2 ≤ m ∧ Hid (OD1 w3 l out k2 (.slice a3 z c3) L wr)) (fun _ v27 _ => m - (intOf v27).toNat)
      case atStart => exact ⟨0, 0, 0, none, [], rfl, rfl, Nat.zero_le _, D0⟩
      case round =>
        clear D0
        obtain ⟨k2, z, c3, a3, L, rfl, rfl, hkm, hD0⟩ := hrel
        have kw : IntKind.i64.wrap ((k2 : Int) + 1) = ((k2 + 1 : Nat) : Int) := IntWalk.i64_in _ (by omega)
        by_cases hk2 : k2 < m
        · have hkI2 : (k2 : Int) < (m : Int) := by omega
          have k0 : (0 : Int) ≤ (k2 : Int) := by omega
          obtain ⟨p, hp⟩ : ∃ p, out[k2]? = some p := ⟨_, List.getElem?_eq_getElem (by have := hM.out; omega)⟩
          have hpH : Hid (out[k2]? = some p) := hp
          have hpn : p < k := (hsH.out.all p).1 (List.mem_of_getElem? hp)
          have p0 : (0 : Int) ≤ (p : Int) := by omega
          have pI : (p : Int) < (k : Int) := by omega
          have gx : l[p]? = some (atW l p) := atW_some (by rw [hN.out]; exact hpn)
          obtain ⟨b, off, tx, cx, e1, hb, _, fx⟩ := (hlH.out.below B3.out).at (Below.refl _ _) gx
          subst e1
          have hxt : (atW l p).s.t.length ≤ 4398046511104 := htsH.out _ (List.mem_of_getElem? gx)
          obtain ⟨x, hx⟩ : ∃ x, atW l p = x := ⟨_, rfl⟩
          rw [hx] at fx hxt
          have hxl : Hid (x = atW l p) := hx.symm
          obtain ⟨nx, hnx'⟩ : ∃ nx, x.s.t.length = nx := ⟨_, rfl⟩
          have hnx : Hid (x.s.t.length = nx) := hnx'
          have hat : Hid (∀ W, Below w3.heap.size w3 W → W.cell? ⟨g, k2, none⟩ = some (.int .i64 (p : Int)) ∧ W.cell? ⟨b, off + p * 6, none⟩ = some (.string x.s.m) ∧ W.cell? ⟨b, off + p * 6 + 1, none⟩ = some (.slice tx nx cx) ∧ W.cell? ⟨b, off + p * 6 + 2, none⟩ = some (.string x.s.f) ∧ W.cell? ⟨b, off + p * 6 + 3, none⟩ = some (.int .i64 x.tm) ∧ W.cell? ⟨b, off + p * 6 + 4, none⟩ = some (.int .u8 (x.kd : Int)) ∧ W.cell? ⟨b, off + p * 6 + 5, none⟩ = some (.int .i64 x.n)) := fun W hW => ⟨hcH.out k2 p W hp hW, by have := (fx W hW).1; unfold WAt at this; rw [hnx'] at this; exact this⟩
          have hser : Hid (∀ W, Below w3.heap.size w3 W → SerIn W tx x.s) := fun W hW => (fx W hW).2
          have hbH : Hid (b < w3.heap.size) := hb
          clear fx hx hnx' gx hb hp
          by_cases hk0 : k2 = 0
          · have hkz : ((k2 : Int) == 0) = true := by simp; omega
            have hk0H : Hid (k2 = 0) := hk0
            clear hk0
            obtain ⟨a0, _, _, _, _, _, _⟩ := hat.out wr hD0.out.bl
            go_wp2_with fail
            go_quiet (fail)
            generalize hwq : World.drewN wr _ = wq
            have hD : Hid (OD1 w3 l out k2 (.slice a3 z c3) L wq) := hD0.out.below (hwq ▸ bdrewB (Below.refl _ wr) _)
            clear hD0 hwq a0
            -- the sample goes in (world wq, state hD)
            obtain ⟨a0, x1, x2, x3, x4, x5, x6⟩ := hat.out wq hD.out.bl
            have pc := hP3.out wq hD.out.bl
            have serx : SerIn wq tx x.s := (hser.out wq hD.out.bl)
            have bA : Below wq.heap.size wq (wq.alloc (.cells #[.string x.s.m, .slice tx nx cx, .string x.s.f, .int .i64 x.tm, .int .u8 (x.kd : Int), .int .i64 x.n] 37)) := (Below.refl _ wq).alloc (Nat.le_refl _) _
            have CC : Hid (Calls Try.prog 34 #[.slice tx nx cx] (wq.alloc (.cells #[.string x.s.m, .slice tx nx cx, .string x.s.f, .int .i64 x.tm, .int .u8 (x.kd : Int), .int .i64 x.n] 37)) fun e w9 => ∃ a' c', e = .returned (.slice a' nx c') ∧ TgIn w9 a' x.s.t ∧ (∀ ad, a' = some ad → wq.heap.size + 1 ≤ ad.block) ∧ Below (wq.heap.size + 1) (wq.alloc (.cells #[.string x.s.m, .slice tx nx cx, .string x.s.f, .int .i64 x.tm, .int .u8 (x.kd : Int), .int .i64 x.n] 37)) w9) := by
              have := cloneW_any tx cx x.s.t (wq.alloc (.cells #[.string x.s.m, .slice tx nx cx, .string x.s.f, .int .i64 x.tm, .int .u8 (x.kd : Int), .int .i64 x.n] 37)) ((serx.belowW bA).1) hxt
              rw [hnx.out] at this
              rw [show (wq.alloc (.cells #[.string x.s.m, .slice tx nx cx, .string x.s.f, .int .i64 x.tm, .int .u8 (x.kd : Int), .int .i64 x.n] 37)).heap.size = wq.heap.size + 1 by simp] at this
              exact this
            have hfin : Hid (∀ (a' : Option Addr) (c' : Nat) (w5 : World), TgIn w5 a' x.s.t → (∀ ad, a' = some ad → wq.heap.size + 1 ≤ ad.block) → Below (wq.heap.size + 1) (wq.alloc (.cells #[.string x.s.m, .slice tx nx cx, .string x.s.f, .int .i64 x.tm, .int .u8 (x.kd : Int), .int .i64 x.n] 37)) w5 → ∃ a4 z4 c4 L4 w6, (Builtin.append_ #[28, 28] 28 #[.slice a3 z c3, .slice (some ⟨w5.heap.size, 0, none⟩) 1 1]).run Try.prog ((w5.setCell ⟨wq.heap.size, 1, none⟩ (.slice a' nx c')).alloc (.cells #[.string x.s.m, .slice a' nx c', .string x.s.f, .int .i64 x.tm, .int .u8 (x.kd : Int), .int .i64 x.n] 37)) = .ok (.slice a4 z4 c4) w6 ∧ OD1 w3 l out (k2 + 1) (.slice a4 z4 c4) L4 w6) := fun a' c' w5 t5 n5 b5 => by
              have sz : (wq.alloc (.cells #[.string x.s.m, .slice tx nx cx, .string x.s.f, .int .i64 x.tm, .int .u8 (x.kd : Int), .int .i64 x.n] 37)).heap.size = wq.heap.size + 1 := by simp
              have b5w : Below wq.heap.size wq w5 := bA.trans (b5.mono (by omega))
              have b5s : Below wq.heap.size wq (w5.setCell ⟨wq.heap.size, 1, none⟩ (.slice a' nx c')) := b5w.setCell (p := ⟨wq.heap.size, 1, none⟩) (Nat.le_refl _) _
              have hD5 := hD.out.below b5s
              have hts : TgIn (w5.setCell ⟨wq.heap.size, 1, none⟩ (.slice a' nx c')) a' x.s.t := by
                rcases t5 with q | ⟨bb, oo, q1, q2, q3⟩
                · exact Or.inl q
                · have q4 := n5 _ q1
                  simp only at q4
                  refine Or.inr ⟨bb, oo, q1, by simpa using q2, fun i t ht => ?_⟩
                  obtain ⟨r1, r2⟩ := q3 i t ht
                  exact ⟨by rw [World.cell?_setCell_other _ _ _ _ (by intro e; injection e; omega)]; exact r1, by rw [World.cell?_setCell_other _ _ _ _ (by intro e; injection e; omega)]; exact r2⟩
              have lz : L.length = z := by
                obtain ⟨_, _, e, _⟩ := hD.out.row.1.win
                injection e with _ e _
                exact e.symm
              have few : L.length ≤ k2 := by
                have := ordL_len l out k2
                rw [← hD.out.is, List.length_map] at this
                exact this
              obtain ⟨a4, c4, w6, q1, q2, q3⟩ := app2W _ w3.heap.size (.slice a3 z c3) L hD5.row (Nat.le_trans hD.out.bl.size b5s.size) (x, a', c') ⟨hts, serx.2⟩ (fun _ ad had e => by
                have h1 := n5 ad had
                rcases hD.out.row.1.1.2 with ⟨e1, _⟩ | ⟨g, _, _, e1, _, e3, _⟩
                · rw [e1] at e; cases e
                · rw [e1] at e
                  have h2 : g = ad.block := by simpa [Value.ownBlock] using e
                  have h3 := (Array.getElem?_eq_some_iff.1 e3).1
                  omega) (by omega)
              refine ⟨a4, L.length + 1, c4, L ++ [(x, a', c')], w6, ?_, q2, ?_, ?_⟩
              · have s5 : (w5.setCell ⟨wq.heap.size, 1, none⟩ (.slice a' nx c')).heap.size = w5.heap.size := by simp
                rw [s5] at q1
                simp only [hnx.out] at q1
                exact q1
              · rw [List.map_append, hD.out.is, ordL_new hpH.out (Or.inl hk0H.out)]
                congr 1
                show [x] = _
                rw [hxl.out]
              · exact hD5.bl.trans q3
            have hwb : Hid (∀ w5, Below (wq.heap.size + 1) (wq.alloc (.cells #[.string x.s.m, .slice tx nx cx, .string x.s.f, .int .i64 x.tm, .int .u8 (x.kd : Int), .int .i64 x.n] 37)) w5 → (w5.cell? ⟨wq.heap.size, 0, none⟩ = some (.string x.s.m) ∧ w5.cell? ⟨wq.heap.size, 1, none⟩ = some (.slice tx nx cx) ∧ w5.cell? ⟨wq.heap.size, 2, none⟩ = some (.string x.s.f) ∧ w5.cell? ⟨wq.heap.size, 3, none⟩ = some (.int .i64 x.tm) ∧ w5.cell? ⟨wq.heap.size, 4, none⟩ = some (.int .u8 (x.kd : Int)) ∧ w5.cell? ⟨wq.heap.size, 5, none⟩ = some (.int .i64 x.n)) ∧ w5.frozen? ⟨wq.heap.size, 1, none⟩ = false) := fun w5 b5 => by
              refine ⟨⟨?_, ?_, ?_, ?_, ?_, ?_⟩, ?_⟩
              · rw [b5.cell (p := ⟨wq.heap.size, 0, none⟩) (by show wq.heap.size < _; omega)]; simp [go_sem]
              · rw [b5.cell (p := ⟨wq.heap.size, 1, none⟩) (by show wq.heap.size < _; omega)]; simp [go_sem]
              · rw [b5.cell (p := ⟨wq.heap.size, 2, none⟩) (by show wq.heap.size < _; omega)]; simp [go_sem]
              · rw [b5.cell (p := ⟨wq.heap.size, 3, none⟩) (by show wq.heap.size < _; omega)]; simp [go_sem]
              · rw [b5.cell (p := ⟨wq.heap.size, 4, none⟩) (by show wq.heap.size < _; omega)]; simp [go_sem]
              · rw [b5.cell (p := ⟨wq.heap.size, 5, none⟩) (by show wq.heap.size < _; omega)]; simp [go_sem]
              · rw [b5.frozen (p := ⟨wq.heap.size, 1, none⟩) (by show wq.heap.size < _; omega)]; simp [go_sem]
            clear serx bA hD
            go_wp2_with fail
            refine Calls.mono CC.out ?_
            rintro e w5 ⟨a', c', rfl, t5, n5, b5⟩
            obtain ⟨⟨y1, y2, y3, y4, y5, y6⟩, y7⟩ := hwb.out w5 b5
            obtain ⟨a4, z4, c4, L4, w6, hr6, hD6⟩ := hfin.out a' c' w5 t5 n5 b5
            have hrH : Hid (∀ W, W = (w5.setCell ⟨wq.heap.size, 1, none⟩ (.slice a' nx c')).alloc (.cells #[.string x.s.m, .slice a' nx c', .string x.s.f, .int .i64 x.tm, .int .u8 (x.kd : Int), .int .i64 x.n] 37) → (Builtin.append_ #[28, 28] 28 #[.slice a3 z c3, .slice (some ⟨w5.heap.size, 0, none⟩) 1 1]).run Try.prog W = .ok (.slice a4 z4 c4) w6) := fun W e => by subst e; exact hr6
            have hD6H : Hid (OD1 w3 l out (k2 + 1) (.slice a4 z4 c4) L4 w6) := hD6
            clear t5 n5 b5 CC hwb hfin hr6 hD6 a0 pc x1 x2 x3 x4 x5 x6
            go_wp2_with (at_builtin; refine wpList_append_runB (by rfl) _ _ _ (by rfl) _ _ _ _ (by rfl) (by rfl) (hrH.out _ rfl) ?_)
            exact ⟨⟨k2 + 1, z4, c4, a4, L4, rfl, by first | rfl | simp, by omega, hD6H⟩, by simp [intOf]; omega⟩
          · have hkz : ((k2 : Int) == 0) = false := by simp; omega
            obtain ⟨q, hq⟩ : ∃ q, out[k2 - 1]? = some q := ⟨_, List.getElem?_eq_getElem (by have := hM.out; omega)⟩
            have hqH : Hid (out[k2 - 1]? = some q) := hq
            have hqn : q < k := (hsH.out.all q).1 (List.mem_of_getElem? hq)
            have q0 : (0 : Int) ≤ (q : Int) := by omega
            have qI : (q : Int) < (k : Int) := by omega
            have kv : IntKind.i64.wrap ((k2 : Int) - 1) = (k2 : Int) - 1 := IntWalk.i64_in _ (by omega)
            have k3 : (0 : Int) ≤ (k2 : Int) - 1 := by omega
            have k4 : (k2 : Int) - 1 < (m : Int) := by omega
            have k5 : (1 : Int) ≤ (k2 : Int) := by omega
            have gy : l[q]? = some (atW l q) := atW_some (by rw [hN.out]; exact hqn)
            obtain ⟨b', off', ty, cy, e2, _, _, fy⟩ := (hlH.out.below B3.out).at (Below.refl _ _) gy
            injection e2 with e2
            injection e2 with e3 e4
            subst e3 e4
            obtain ⟨y, hy⟩ : ∃ y, atW l q = y := ⟨_, rfl⟩
            rw [hy] at fy
            have hyl : Hid (y = atW l q) := hy.symm
            obtain ⟨ny, hny⟩ : ∃ ny, y.s.t.length = ny := ⟨_, rfl⟩
            have hay : Hid (∀ W, Below w3.heap.size w3 W → W.cell? ⟨g, k2 - 1, none⟩ = some (.int .i64 (q : Int)) ∧ W.cell? ⟨b, off + q * 6, none⟩ = some (.string y.s.m) ∧ W.cell? ⟨b, off + q * 6 + 1, none⟩ = some (.slice ty ny cy) ∧ W.cell? ⟨b, off + q * 6 + 2, none⟩ = some (.string y.s.f) ∧ W.cell? ⟨b, off + q * 6 + 3, none⟩ = some (.int .i64 y.tm) ∧ W.cell? ⟨b, off + q * 6 + 4, none⟩ = some (.int .u8 (y.kd : Int)) ∧ W.cell? ⟨b, off + q * 6 + 5, none⟩ = some (.int .i64 y.n)) := fun W hW => ⟨hcH.out (k2 - 1) q W hq hW, by have := (fy W hW).1; unfold WAt at this; rw [hny] at this; exact this⟩
            have CH : Hid (∀ W, Below w3.heap.size w3 W → Calls Try.prog 33 #[.agg #[.string y.s.m, .slice ty ny cy, .string y.s.f, .int .i64 y.tm, .int .u8 (y.kd : Int), .int .i64 y.n], .agg #[.string x.s.m, .slice tx nx cx, .string x.s.f, .int .i64 x.tm, .int .u8 (x.kd : Int), .int .i64 x.n]] W fun e w' => e = .returned (.int .i64 (wC y x)) ∧ Below W.heap.size W w') := fun W hW => by
              have := bcompare_any y x ty tx cy cx W (fy W hW).2 (hser.out W hW)
              unfold wV at this
              rw [hny, hnx.out] at this
              exact this
            obtain ⟨a0, x1, x2, x3, x4, x5, x6⟩ := hat.out wr hD0.out.bl
            obtain ⟨b0', y1, y2, y3, y4, y5, y6⟩ := hay.out wr hD0.out.bl
            have pc := hP3.out wr hD0.out.bl
            have pl : P1 < wr.heap.size := Nat.lt_of_lt_of_le ple.out.1 hD0.out.bl.size
            have gl : g < wr.heap.size := Nat.lt_of_lt_of_le ple.out.2 hD0.out.bl.size
            have bl : b < wr.heap.size := Nat.lt_of_lt_of_le hbH.out hD0.out.bl.size
            obtain ⟨cv, hcv⟩ : ∃ cv, wC y x = cv := ⟨_, rfl⟩
            rw [hcv] at CH
            have hcvH : Hid (wC y x = cv) := hcv
            clear fy hy hny gy hq hcv hay
            by_cases hc0 : cv = 0
            · have hcb : (cv == 0) = true := by simpa using hc0
              have nx2 : Hid (ordL l out (k2 + 1) = ordL l out k2) := ordL_skip (by omega) hqH.out hpH.out (by rw [← hxl.out, ← hyl.out, hcvH.out]; exact hc0)
              clear hc0
              go_wp2_with fail
              refine wp_region_noPanic ?_
              refine wp_region_held_drew (S := fun W => ((W.cell? ⟨P1, 0, none⟩ = some (.slice (some ⟨b, off, none⟩) k c) ∧ W.cell? ⟨g, k2 - 1, none⟩ = some (.int .i64 (q : Int))) ∧ W.cell? ⟨b, off + q * 6, none⟩ = some (.string y.s.m) ∧ W.cell? ⟨b, off + q * 6 + 1, none⟩ = some (.slice ty ny cy) ∧ W.cell? ⟨b, off + q * 6 + 2, none⟩ = some (.string y.s.f) ∧ W.cell? ⟨b, off + q * 6 + 3, none⟩ = some (.int .i64 y.tm) ∧ W.cell? ⟨b, off + q * 6 + 4, none⟩ = some (.int .u8 (y.kd : Int)) ∧ W.cell? ⟨b, off + q * 6 + 5, none⟩ = some (.int .i64 y.n)) ∧ W.cell? ⟨b, off + p * 6, none⟩ = some (.string x.s.m) ∧ W.cell? ⟨b, off + p * 6 + 1, none⟩ = some (.slice tx nx cx) ∧ W.cell? ⟨b, off + p * 6 + 2, none⟩ = some (.string x.s.f) ∧ W.cell? ⟨b, off + p * 6 + 3, none⟩ = some (.int .i64 x.tm) ∧ W.cell? ⟨b, off + p * 6 + 4, none⟩ = some (.int .u8 (x.kd : Int)) ∧ W.cell? ⟨b, off + p * 6 + 5, none⟩ = some (.int .i64 x.n)) (by kernel_rfl) ⟨⟨⟨pc, b0'⟩, y1, y2, y3, y4, y5, y6⟩, x1, x2, x3, x4, x5, x6⟩ (fun hHeld => ?_)
              refine wpAnyH_take (i := 0) (oi := _) (v := ?_) rfl (by kernel_rfl) (by kernel_rfl) (by kernel_rfl) (fun _ _ _ h => h) (Or.inl ⟨by rfl, ?_⟩) (by assumption) ?_
              rotate_left 1
              · (intro w0 hSw; (try dsimp only at hSw); obtain ⟨⟨⟨s0, s00⟩, s1, s2, s3, s4, s5, s6⟩, t1, t2, t3, t4, t5, t6⟩ := hSw; go_simp; try with_reducible rfl)
              (try simp only [List.getElem_toArray, List.getElem_cons_succ, List.getElem_cons_zero]); (try simp only [Act.put, List.setIfInBounds_toArray, List.set_cons_zero, List.set_cons_succ])
              refine wpAnyH_take (i := 1) (oi := _) (v := ?_) rfl (by kernel_rfl) (by kernel_rfl) (by kernel_rfl) (fun _ _ _ h => h) (Or.inl ⟨by rfl, ?_⟩) (by assumption) ?_
              rotate_left 1
              · (intro w0 hSw; (try dsimp only at hSw); obtain ⟨⟨⟨s0, s00⟩, s1, s2, s3, s4, s5, s6⟩, t1, t2, t3, t4, t5, t6⟩ := hSw; go_simp; try with_reducible rfl)
              (try simp only [List.getElem_toArray, List.getElem_cons_succ, List.getElem_cons_zero]); (try simp only [Act.put, List.setIfInBounds_toArray, List.set_cons_zero, List.set_cons_succ])
              refine wpAnyH_take (i := 2) (oi := _) (v := ?_) rfl (by kernel_rfl) (by kernel_rfl) (by kernel_rfl) (fun _ _ _ h => h) (Or.inl ⟨by rfl, ?_⟩) (by assumption) ?_
              rotate_left 1
              · (intro w0 hSw; (try dsimp only at hSw); obtain ⟨⟨⟨s0, s00⟩, s1, s2, s3, s4, s5, s6⟩, t1, t2, t3, t4, t5, t6⟩ := hSw; go_simp; try with_reducible rfl)
              (try simp only [List.getElem_toArray, List.getElem_cons_succ, List.getElem_cons_zero]); (try simp only [Act.put, List.setIfInBounds_toArray, List.set_cons_zero, List.set_cons_succ])
              refine wpAnyH_take (i := 3) (oi := _) (v := ?_) rfl (by kernel_rfl) (by kernel_rfl) (by kernel_rfl) (fun _ _ _ h => h) (Or.inl ⟨by rfl, ?_⟩) (by assumption) ?_
              rotate_left 1
              · (intro w0 hSw; (try dsimp only at hSw); obtain ⟨⟨⟨s0, s00⟩, s1, s2, s3, s4, s5, s6⟩, t1, t2, t3, t4, t5, t6⟩ := hSw; go_simp; try with_reducible rfl)
              (try simp only [List.getElem_toArray, List.getElem_cons_succ, List.getElem_cons_zero]); (try simp only [Act.put, List.setIfInBounds_toArray, List.set_cons_zero, List.set_cons_succ])
              refine wpAnyH_take (i := 4) (oi := _) (v := ?_) rfl (by kernel_rfl) (by kernel_rfl) (by kernel_rfl) (fun _ _ _ h => h) (Or.inl ⟨by rfl, ?_⟩) (by assumption) ?_
              rotate_left 1
              · (intro w0 hSw; (try dsimp only at hSw); obtain ⟨⟨⟨s0, s00⟩, s1, s2, s3, s4, s5, s6⟩, t1, t2, t3, t4, t5, t6⟩ := hSw; go_simp; try with_reducible rfl)
              (try simp only [List.getElem_toArray, List.getElem_cons_succ, List.getElem_cons_zero]); (try simp only [Act.put, List.setIfInBounds_toArray, List.set_cons_zero, List.set_cons_succ])
              refine wpAnyH_take (i := 5) (oi := _) (v := ?_) rfl (by kernel_rfl) (by kernel_rfl) (by kernel_rfl) (fun _ _ _ h => h) (Or.inl ⟨by rfl, ?_⟩) (by assumption) ?_
              rotate_left 1
              · (intro w0 hSw; (try dsimp only at hSw); obtain ⟨⟨⟨s0, s00⟩, s1, s2, s3, s4, s5, s6⟩, t1, t2, t3, t4, t5, t6⟩ := hSw; go_simp; try with_reducible rfl)
              (try simp only [List.getElem_toArray, List.getElem_cons_succ, List.getElem_cons_zero]); (try simp only [Act.put, List.setIfInBounds_toArray, List.set_cons_zero, List.set_cons_succ])
              refine wpAnyH_take (i := 6) (oi := _) (v := ?_) rfl (by kernel_rfl) (by kernel_rfl) (by kernel_rfl) (fun _ _ _ h => h) (Or.inl ⟨by rfl, ?_⟩) (by assumption) ?_
              rotate_left 1
              · (intro w0 hSw; (try dsimp only at hSw); obtain ⟨⟨⟨s0, s00⟩, s1, s2, s3, s4, s5, s6⟩, t1, t2, t3, t4, t5, t6⟩ := hSw; go_simp; try with_reducible rfl)
              (try simp only [List.getElem_toArray, List.getElem_cons_succ, List.getElem_cons_zero]); (try simp only [Act.put, List.setIfInBounds_toArray, List.set_cons_zero, List.set_cons_succ])
              refine wpAnyH_take (i := 7) (oi := _) (v := ?_) rfl (by kernel_rfl) (by kernel_rfl) (by kernel_rfl) (fun _ _ _ h => h) (Or.inl ⟨by rfl, ?_⟩) (by assumption) ?_
              rotate_left 1
              · (intro w0 hSw; (try dsimp only at hSw); obtain ⟨⟨⟨s0, s00⟩, s1, s2, s3, s4, s5, s6⟩, t1, t2, t3, t4, t5, t6⟩ := hSw; go_simp; try with_reducible rfl)
              (try simp only [List.getElem_toArray, List.getElem_cons_succ, List.getElem_cons_zero]); (try simp only [Act.put, List.setIfInBounds_toArray, List.set_cons_zero, List.set_cons_succ])
              refine wpAnyH_take (i := 8) (oi := _) (v := ?_) rfl (by kernel_rfl) (by kernel_rfl) (by kernel_rfl) (fun _ _ _ h => h) (Or.inl ⟨by rfl, ?_⟩) (by assumption) ?_
              rotate_left 1
              · (intro w0 hSw; (try dsimp only at hSw); obtain ⟨⟨⟨s0, s00⟩, s1, s2, s3, s4, s5, s6⟩, t1, t2, t3, t4, t5, t6⟩ := hSw; go_simp; try with_reducible rfl)
              (try simp only [List.getElem_toArray, List.getElem_cons_succ, List.getElem_cons_zero]); (try simp only [Act.put, List.setIfInBounds_toArray, List.set_cons_zero, List.set_cons_succ])
              refine wpAnyH_take (i := 9) (oi := _) (v := ?_) rfl (by kernel_rfl) (by kernel_rfl) (by kernel_rfl) (fun _ _ _ h => h) (Or.inl ⟨by rfl, ?_⟩) (by assumption) ?_
              rotate_left 1
              · (intro w0 hSw; (try dsimp only at hSw); obtain ⟨⟨⟨s0, s00⟩, s1, s2, s3, s4, s5, s6⟩, t1, t2, t3, t4, t5, t6⟩ := hSw; go_simp; try with_reducible rfl)
              (try simp only [List.getElem_toArray, List.getElem_cons_succ, List.getElem_cons_zero]); (try simp only [Act.put, List.setIfInBounds_toArray, List.set_cons_zero, List.set_cons_succ])
              refine wpAnyH_take (i := 10) (oi := _) (v := ?_) rfl (by kernel_rfl) (by kernel_rfl) (by kernel_rfl) (fun _ _ _ h => h) (Or.inl ⟨by rfl, ?_⟩) (by assumption) ?_
              rotate_left 1
              · (intro w0 hSw; (try dsimp only at hSw); obtain ⟨⟨⟨s0, s00⟩, s1, s2, s3, s4, s5, s6⟩, t1, t2, t3, t4, t5, t6⟩ := hSw; go_simp; try with_reducible rfl)
              (try simp only [List.getElem_toArray, List.getElem_cons_succ, List.getElem_cons_zero]); (try simp only [Act.put, List.setIfInBounds_toArray, List.set_cons_zero, List.set_cons_succ])
              refine wpAnyH_take (i := 11) (oi := _) (v := ?_) rfl (by kernel_rfl) (by kernel_rfl) (by kernel_rfl) (fun _ _ _ h => h) (Or.inl ⟨by rfl, ?_⟩) (by assumption) ?_
              rotate_left 1
              · (intro w0 hSw; (try dsimp only at hSw); obtain ⟨⟨⟨s0, s00⟩, s1, s2, s3, s4, s5, s6⟩, t1, t2, t3, t4, t5, t6⟩ := hSw; go_simp; try with_reducible rfl)
              (try simp only [List.getElem_toArray, List.getElem_cons_succ, List.getElem_cons_zero]); (try simp only [Act.put, List.setIfInBounds_toArray, List.set_cons_zero, List.set_cons_succ])
              refine wpAnyH_take (i := 12) (oi := _) (v := ?_) rfl (by kernel_rfl) (by kernel_rfl) (by kernel_rfl) (fun _ _ _ h => h) (Or.inl ⟨by rfl, ?_⟩) (by assumption) ?_
              rotate_left 1
              · (intro w0 hSw; (try dsimp only at hSw); obtain ⟨⟨⟨s0, s00⟩, s1, s2, s3, s4, s5, s6⟩, t1, t2, t3, t4, t5, t6⟩ := hSw; go_simp; try with_reducible rfl)
              (try simp only [List.getElem_toArray, List.getElem_cons_succ, List.getElem_cons_zero]); (try simp only [Act.put, List.setIfInBounds_toArray, List.set_cons_zero, List.set_cons_succ])
              refine wpAnyH_take (i := 13) (oi := _) (v := ?_) rfl (by kernel_rfl) (by kernel_rfl) (by kernel_rfl) (fun _ _ _ h => h) (Or.inl ⟨by rfl, ?_⟩) (by assumption) ?_
              rotate_left 1
              · (intro w0 hSw; (try dsimp only at hSw); obtain ⟨⟨⟨s0, s00⟩, s1, s2, s3, s4, s5, s6⟩, t1, t2, t3, t4, t5, t6⟩ := hSw; go_simp; try with_reducible rfl)
              (try simp only [List.getElem_toArray, List.getElem_cons_succ, List.getElem_cons_zero]); (try simp only [Act.put, List.setIfInBounds_toArray, List.set_cons_zero, List.set_cons_succ])
              refine wpAnyH_take (i := 14) (oi := _) (v := ?_) rfl (by kernel_rfl) (by kernel_rfl) (by kernel_rfl) (fun _ _ _ h => h) (Or.inl ⟨by rfl, ?_⟩) (by assumption) ?_
              rotate_left 1
              · (intro w0 hSw; (try dsimp only at hSw); obtain ⟨⟨⟨s0, s00⟩, s1, s2, s3, s4, s5, s6⟩, t1, t2, t3, t4, t5, t6⟩ := hSw; go_simp; try with_reducible rfl)
              (try simp only [List.getElem_toArray, List.getElem_cons_succ, List.getElem_cons_zero]); (try simp only [Act.put, List.setIfInBounds_toArray, List.set_cons_zero, List.set_cons_succ])
              refine wpAnyH_ready (rs := [15]) (by kernel_rfl) (by simp) ?_
              refine AllReadyH.cons (o := _) rfl (fun K hK => ?_) AllReadyH.nil
              go_simp
              refine Calls.mono (CH.out _ (show Below w3.heap.size w3 wr.drew from hD0.out.bl.drew)) ?_
              rintro e w' ⟨rfl, BB⟩
              try dsimp only
              refine hK _ _ ?_ (fun hHeld => ?_)
              · exact ⟨⟨⟨by rw [BB.cell (p := ⟨P1, 0, none⟩) pl]; exact pc, by rw [BB.cell (p := ⟨g, k2 - 1, none⟩) gl]; exact b0'⟩, by rw [BB.cell (p := ⟨b, off + q * 6, none⟩) bl]; exact y1, by rw [BB.cell (p := ⟨b, off + q * 6 + 1, none⟩) bl]; exact y2, by rw [BB.cell (p := ⟨b, off + q * 6 + 2, none⟩) bl]; exact y3, by rw [BB.cell (p := ⟨b, off + q * 6 + 3, none⟩) bl]; exact y4, by rw [BB.cell (p := ⟨b, off + q * 6 + 4, none⟩) bl]; exact y5, by rw [BB.cell (p := ⟨b, off + q * 6 + 5, none⟩) bl]; exact y6⟩, by rw [BB.cell (p := ⟨b, off + p * 6, none⟩) bl]; exact x1, by rw [BB.cell (p := ⟨b, off + p * 6 + 1, none⟩) bl]; exact x2, by rw [BB.cell (p := ⟨b, off + p * 6 + 2, none⟩) bl]; exact x3, by rw [BB.cell (p := ⟨b, off + p * 6 + 3, none⟩) bl]; exact x4, by rw [BB.cell (p := ⟨b, off + p * 6 + 4, none⟩) bl]; exact x5, by rw [BB.cell (p := ⟨b, off + p * 6 + 5, none⟩) bl]; exact x6⟩
              clear hK K
              (try simp only [List.getElem_toArray, List.getElem_cons_succ, List.getElem_cons_zero]); (try simp only [Act.put, List.setIfInBounds_toArray, List.set_cons_zero, List.set_cons_succ])
              refine wpAnyH_take (i := 16) (oi := _) (v := ?_) rfl (by kernel_rfl) (by kernel_rfl) (by kernel_rfl) (fun _ _ _ h => h) (Or.inl ⟨by rfl, ?_⟩) (by assumption) ?_
              rotate_left 1
              · (intro w0 hSw; (try dsimp only at hSw); obtain ⟨⟨⟨s0, s00⟩, s1, s2, s3, s4, s5, s6⟩, t1, t2, t3, t4, t5, t6⟩ := hSw; go_simp; try with_reducible rfl)
              (try simp only [List.getElem_toArray, List.getElem_cons_succ, List.getElem_cons_zero]); (try simp only [Act.put, List.setIfInBounds_toArray, List.set_cons_zero, List.set_cons_succ])
              refine wpAnyH_take (i := 17) (oi := _) (v := ?_) rfl (by kernel_rfl) (by kernel_rfl) (by kernel_rfl) (fun _ _ _ h => h) (Or.inl ⟨by rfl, ?_⟩) (by assumption) ?_
              rotate_left 1
              · (intro w0 hSw; (try dsimp only at hSw); obtain ⟨⟨⟨s0, s00⟩, s1, s2, s3, s4, s5, s6⟩, t1, t2, t3, t4, t5, t6⟩ := hSw; go_simp; try with_reducible rfl)
              (try simp only [List.getElem_toArray, List.getElem_cons_succ, List.getElem_cons_zero]); (try simp only [Act.put, List.setIfInBounds_toArray, List.set_cons_zero, List.set_cons_succ])
              refine wpAnyH_done (by kernel_rfl) ?_ _
              refine NoPanic.normal ?_
              have hD : Hid (OD1 w3 l out (k2 + 1) (.slice a3 z c3) L w') := by
                have d := hD0.out.below ((show Below wr.heap.size wr wr.drew from (Below.refl _ wr).drew).trans BB)
                exact ⟨d.row, by rw [nx2.out]; exact d.is, d.bl⟩
              clear BB CH hD0 a0 x1 x2 x3 x4 x5 x6 b0' y1 y2 y3 y4 y5 y6 pc hHeld
              go_wp2_with fail
              exact ⟨⟨k2 + 1, z, c3, a3, L, rfl, by first | rfl | simp, by omega, hD⟩, by simp [intOf]; omega⟩
            · have hcb : (cv == 0) = false := by simpa using hc0
              have hne : Hid (wC (atW l q) (atW l p) ≠ 0) := by rw [← hxl.out, ← hyl.out, hcvH.out]; exact hc0
              clear hc0
              go_wp2_with fail
              refine wp_region_noPanic ?_
              refine wp_region_held_drew (S := fun W => ((W.cell? ⟨P1, 0, none⟩ = some (.slice (some ⟨b, off, none⟩) k c) ∧ W.cell? ⟨g, k2 - 1, none⟩ = some (.int .i64 (q : Int))) ∧ W.cell? ⟨b, off + q * 6, none⟩ = some (.string y.s.m) ∧ W.cell? ⟨b, off + q * 6 + 1, none⟩ = some (.slice ty ny cy) ∧ W.cell? ⟨b, off + q * 6 + 2, none⟩ = some (.string y.s.f) ∧ W.cell? ⟨b, off + q * 6 + 3, none⟩ = some (.int .i64 y.tm) ∧ W.cell? ⟨b, off + q * 6 + 4, none⟩ = some (.int .u8 (y.kd : Int)) ∧ W.cell? ⟨b, off + q * 6 + 5, none⟩ = some (.int .i64 y.n)) ∧ W.cell? ⟨b, off + p * 6, none⟩ = some (.string x.s.m) ∧ W.cell? ⟨b, off + p * 6 + 1, none⟩ = some (.slice tx nx cx) ∧ W.cell? ⟨b, off + p * 6 + 2, none⟩ = some (.string x.s.f) ∧ W.cell? ⟨b, off + p * 6 + 3, none⟩ = some (.int .i64 x.tm) ∧ W.cell? ⟨b, off + p * 6 + 4, none⟩ = some (.int .u8 (x.kd : Int)) ∧ W.cell? ⟨b, off + p * 6 + 5, none⟩ = some (.int .i64 x.n)) (by kernel_rfl) ⟨⟨⟨pc, b0'⟩, y1, y2, y3, y4, y5, y6⟩, x1, x2, x3, x4, x5, x6⟩ (fun hHeld => ?_)
              refine wpAnyH_take (i := 0) (oi := _) (v := ?_) rfl (by kernel_rfl) (by kernel_rfl) (by kernel_rfl) (fun _ _ _ h => h) (Or.inl ⟨by rfl, ?_⟩) (by assumption) ?_
              rotate_left 1
              · (intro w0 hSw; (try dsimp only at hSw); obtain ⟨⟨⟨s0, s00⟩, s1, s2, s3, s4, s5, s6⟩, t1, t2, t3, t4, t5, t6⟩ := hSw; go_simp; try with_reducible rfl)
              (try simp only [List.getElem_toArray, List.getElem_cons_succ, List.getElem_cons_zero]); (try simp only [Act.put, List.setIfInBounds_toArray, List.set_cons_zero, List.set_cons_succ])
              refine wpAnyH_take (i := 1) (oi := _) (v := ?_) rfl (by kernel_rfl) (by kernel_rfl) (by kernel_rfl) (fun _ _ _ h => h) (Or.inl ⟨by rfl, ?_⟩) (by assumption) ?_
              rotate_left 1
              · (intro w0 hSw; (try dsimp only at hSw); obtain ⟨⟨⟨s0, s00⟩, s1, s2, s3, s4, s5, s6⟩, t1, t2, t3, t4, t5, t6⟩ := hSw; go_simp; try with_reducible rfl)
              (try simp only [List.getElem_toArray, List.getElem_cons_succ, List.getElem_cons_zero]); (try simp only [Act.put, List.setIfInBounds_toArray, List.set_cons_zero, List.set_cons_succ])
              refine wpAnyH_take (i := 2) (oi := _) (v := ?_) rfl (by kernel_rfl) (by kernel_rfl) (by kernel_rfl) (fun _ _ _ h => h) (Or.inl ⟨by rfl, ?_⟩) (by assumption) ?_
              rotate_left 1
              · (intro w0 hSw; (try dsimp only at hSw); obtain ⟨⟨⟨s0, s00⟩, s1, s2, s3, s4, s5, s6⟩, t1, t2, t3, t4, t5, t6⟩ := hSw; go_simp; try with_reducible rfl)
              (try simp only [List.getElem_toArray, List.getElem_cons_succ, List.getElem_cons_zero]); (try simp only [Act.put, List.setIfInBounds_toArray, List.set_cons_zero, List.set_cons_succ])
              refine wpAnyH_take (i := 3) (oi := _) (v := ?_) rfl (by kernel_rfl) (by kernel_rfl) (by kernel_rfl) (fun _ _ _ h => h) (Or.inl ⟨by rfl, ?_⟩) (by assumption) ?_
              rotate_left 1
              · (intro w0 hSw; (try dsimp only at hSw); obtain ⟨⟨⟨s0, s00⟩, s1, s2, s3, s4, s5, s6⟩, t1, t2, t3, t4, t5, t6⟩ := hSw; go_simp; try with_reducible rfl)
              (try simp only [List.getElem_toArray, List.getElem_cons_succ, List.getElem_cons_zero]); (try simp only [Act.put, List.setIfInBounds_toArray, List.set_cons_zero, List.set_cons_succ])
              refine wpAnyH_take (i := 4) (oi := _) (v := ?_) rfl (by kernel_rfl) (by kernel_rfl) (by kernel_rfl) (fun _ _ _ h => h) (Or.inl ⟨by rfl, ?_⟩) (by assumption) ?_
              rotate_left 1
              · (intro w0 hSw; (try dsimp only at hSw); obtain ⟨⟨⟨s0, s00⟩, s1, s2, s3, s4, s5, s6⟩, t1, t2, t3, t4, t5, t6⟩ := hSw; go_simp; try with_reducible rfl)
              (try simp only [List.getElem_toArray, List.getElem_cons_succ, List.getElem_cons_zero]); (try simp only [Act.put, List.setIfInBounds_toArray, List.set_cons_zero, List.set_cons_succ])
              refine wpAnyH_take (i := 5) (oi := _) (v := ?_) rfl (by kernel_rfl) (by kernel_rfl) (by kernel_rfl) (fun _ _ _ h => h) (Or.inl ⟨by rfl, ?_⟩) (by assumption) ?_
              rotate_left 1
              · (intro w0 hSw; (try dsimp only at hSw); obtain ⟨⟨⟨s0, s00⟩, s1, s2, s3, s4, s5, s6⟩, t1, t2, t3, t4, t5, t6⟩ := hSw; go_simp; try with_reducible rfl)
              (try simp only [List.getElem_toArray, List.getElem_cons_succ, List.getElem_cons_zero]); (try simp only [Act.put, List.setIfInBounds_toArray, List.set_cons_zero, List.set_cons_succ])
              refine wpAnyH_take (i := 6) (oi := _) (v := ?_) rfl (by kernel_rfl) (by kernel_rfl) (by kernel_rfl) (fun _ _ _ h => h) (Or.inl ⟨by rfl, ?_⟩) (by assumption) ?_
              rotate_left 1
              · (intro w0 hSw; (try dsimp only at hSw); obtain ⟨⟨⟨s0, s00⟩, s1, s2, s3, s4, s5, s6⟩, t1, t2, t3, t4, t5, t6⟩ := hSw; go_simp; try with_reducible rfl)
              (try simp only [List.getElem_toArray, List.getElem_cons_succ, List.getElem_cons_zero]); (try simp only [Act.put, List.setIfInBounds_toArray, List.set_cons_zero, List.set_cons_succ])
              refine wpAnyH_take (i := 7) (oi := _) (v := ?_) rfl (by kernel_rfl) (by kernel_rfl) (by kernel_rfl) (fun _ _ _ h => h) (Or.inl ⟨by rfl, ?_⟩) (by assumption) ?_
              rotate_left 1
              · (intro w0 hSw; (try dsimp only at hSw); obtain ⟨⟨⟨s0, s00⟩, s1, s2, s3, s4, s5, s6⟩, t1, t2, t3, t4, t5, t6⟩ := hSw; go_simp; try with_reducible rfl)
              (try simp only [List.getElem_toArray, List.getElem_cons_succ, List.getElem_cons_zero]); (try simp only [Act.put, List.setIfInBounds_toArray, List.set_cons_zero, List.set_cons_succ])
              refine wpAnyH_take (i := 8) (oi := _) (v := ?_) rfl (by kernel_rfl) (by kernel_rfl) (by kernel_rfl) (fun _ _ _ h => h) (Or.inl ⟨by rfl, ?_⟩) (by assumption) ?_
              rotate_left 1
              · (intro w0 hSw; (try dsimp only at hSw); obtain ⟨⟨⟨s0, s00⟩, s1, s2, s3, s4, s5, s6⟩, t1, t2, t3, t4, t5, t6⟩ := hSw; go_simp; try with_reducible rfl)
              (try simp only [List.getElem_toArray, List.getElem_cons_succ, List.getElem_cons_zero]); (try simp only [Act.put, List.setIfInBounds_toArray, List.set_cons_zero, List.set_cons_succ])
              refine wpAnyH_take (i := 9) (oi := _) (v := ?_) rfl (by kernel_rfl) (by kernel_rfl) (by kernel_rfl) (fun _ _ _ h => h) (Or.inl ⟨by rfl, ?_⟩) (by assumption) ?_
              rotate_left 1
              · (intro w0 hSw; (try dsimp only at hSw); obtain ⟨⟨⟨s0, s00⟩, s1, s2, s3, s4, s5, s6⟩, t1, t2, t3, t4, t5, t6⟩ := hSw; go_simp; try with_reducible rfl)
              (try simp only [List.getElem_toArray, List.getElem_cons_succ, List.getElem_cons_zero]); (try simp only [Act.put, List.setIfInBounds_toArray, List.set_cons_zero, List.set_cons_succ])
              refine wpAnyH_take (i := 10) (oi := _) (v := ?_) rfl (by kernel_rfl) (by kernel_rfl) (by kernel_rfl) (fun _ _ _ h => h) (Or.inl ⟨by rfl, ?_⟩) (by assumption) ?_
              rotate_left 1
              · (intro w0 hSw; (try dsimp only at hSw); obtain ⟨⟨⟨s0, s00⟩, s1, s2, s3, s4, s5, s6⟩, t1, t2, t3, t4, t5, t6⟩ := hSw; go_simp; try with_reducible rfl)
              (try simp only [List.getElem_toArray, List.getElem_cons_succ, List.getElem_cons_zero]); (try simp only [Act.put, List.setIfInBounds_toArray, List.set_cons_zero, List.set_cons_succ])
              refine wpAnyH_take (i := 11) (oi := _) (v := ?_) rfl (by kernel_rfl) (by kernel_rfl) (by kernel_rfl) (fun _ _ _ h => h) (Or.inl ⟨by rfl, ?_⟩) (by assumption) ?_
              rotate_left 1
              · (intro w0 hSw; (try dsimp only at hSw); obtain ⟨⟨⟨s0, s00⟩, s1, s2, s3, s4, s5, s6⟩, t1, t2, t3, t4, t5, t6⟩ := hSw; go_simp; try with_reducible rfl)
              (try simp only [List.getElem_toArray, List.getElem_cons_succ, List.getElem_cons_zero]); (try simp only [Act.put, List.setIfInBounds_toArray, List.set_cons_zero, List.set_cons_succ])
              refine wpAnyH_take (i := 12) (oi := _) (v := ?_) rfl (by kernel_rfl) (by kernel_rfl) (by kernel_rfl) (fun _ _ _ h => h) (Or.inl ⟨by rfl, ?_⟩) (by assumption) ?_
              rotate_left 1
              · (intro w0 hSw; (try dsimp only at hSw); obtain ⟨⟨⟨s0, s00⟩, s1, s2, s3, s4, s5, s6⟩, t1, t2, t3, t4, t5, t6⟩ := hSw; go_simp; try with_reducible rfl)
              (try simp only [List.getElem_toArray, List.getElem_cons_succ, List.getElem_cons_zero]); (try simp only [Act.put, List.setIfInBounds_toArray, List.set_cons_zero, List.set_cons_succ])
              refine wpAnyH_take (i := 13) (oi := _) (v := ?_) rfl (by kernel_rfl) (by kernel_rfl) (by kernel_rfl) (fun _ _ _ h => h) (Or.inl ⟨by rfl, ?_⟩) (by assumption) ?_
              rotate_left 1
              · (intro w0 hSw; (try dsimp only at hSw); obtain ⟨⟨⟨s0, s00⟩, s1, s2, s3, s4, s5, s6⟩, t1, t2, t3, t4, t5, t6⟩ := hSw; go_simp; try with_reducible rfl)
              (try simp only [List.getElem_toArray, List.getElem_cons_succ, List.getElem_cons_zero]); (try simp only [Act.put, List.setIfInBounds_toArray, List.set_cons_zero, List.set_cons_succ])
              refine wpAnyH_take (i := 14) (oi := _) (v := ?_) rfl (by kernel_rfl) (by kernel_rfl) (by kernel_rfl) (fun _ _ _ h => h) (Or.inl ⟨by rfl, ?_⟩) (by assumption) ?_
              rotate_left 1
              · (intro w0 hSw; (try dsimp only at hSw); obtain ⟨⟨⟨s0, s00⟩, s1, s2, s3, s4, s5, s6⟩, t1, t2, t3, t4, t5, t6⟩ := hSw; go_simp; try with_reducible rfl)
              (try simp only [List.getElem_toArray, List.getElem_cons_succ, List.getElem_cons_zero]); (try simp only [Act.put, List.setIfInBounds_toArray, List.set_cons_zero, List.set_cons_succ])
              refine wpAnyH_ready (rs := [15]) (by kernel_rfl) (by simp) ?_
              refine AllReadyH.cons (o := _) rfl (fun K hK => ?_) AllReadyH.nil
              go_simp
              refine Calls.mono (CH.out _ (show Below w3.heap.size w3 wr.drew from hD0.out.bl.drew)) ?_
              rintro e w' ⟨rfl, BB⟩
              try dsimp only
              refine hK _ _ ?_ (fun hHeld => ?_)
              · exact ⟨⟨⟨by rw [BB.cell (p := ⟨P1, 0, none⟩) pl]; exact pc, by rw [BB.cell (p := ⟨g, k2 - 1, none⟩) gl]; exact b0'⟩, by rw [BB.cell (p := ⟨b, off + q * 6, none⟩) bl]; exact y1, by rw [BB.cell (p := ⟨b, off + q * 6 + 1, none⟩) bl]; exact y2, by rw [BB.cell (p := ⟨b, off + q * 6 + 2, none⟩) bl]; exact y3, by rw [BB.cell (p := ⟨b, off + q * 6 + 3, none⟩) bl]; exact y4, by rw [BB.cell (p := ⟨b, off + q * 6 + 4, none⟩) bl]; exact y5, by rw [BB.cell (p := ⟨b, off + q * 6 + 5, none⟩) bl]; exact y6⟩, by rw [BB.cell (p := ⟨b, off + p * 6, none⟩) bl]; exact x1, by rw [BB.cell (p := ⟨b, off + p * 6 + 1, none⟩) bl]; exact x2, by rw [BB.cell (p := ⟨b, off + p * 6 + 2, none⟩) bl]; exact x3, by rw [BB.cell (p := ⟨b, off + p * 6 + 3, none⟩) bl]; exact x4, by rw [BB.cell (p := ⟨b, off + p * 6 + 4, none⟩) bl]; exact x5, by rw [BB.cell (p := ⟨b, off + p * 6 + 5, none⟩) bl]; exact x6⟩
              clear hK K
              (try simp only [List.getElem_toArray, List.getElem_cons_succ, List.getElem_cons_zero]); (try simp only [Act.put, List.setIfInBounds_toArray, List.set_cons_zero, List.set_cons_succ])
              refine wpAnyH_take (i := 16) (oi := _) (v := ?_) rfl (by kernel_rfl) (by kernel_rfl) (by kernel_rfl) (fun _ _ _ h => h) (Or.inl ⟨by rfl, ?_⟩) (by assumption) ?_
              rotate_left 1
              · (intro w0 hSw; (try dsimp only at hSw); obtain ⟨⟨⟨s0, s00⟩, s1, s2, s3, s4, s5, s6⟩, t1, t2, t3, t4, t5, t6⟩ := hSw; go_simp; try with_reducible rfl)
              (try simp only [List.getElem_toArray, List.getElem_cons_succ, List.getElem_cons_zero]); (try simp only [Act.put, List.setIfInBounds_toArray, List.set_cons_zero, List.set_cons_succ])
              refine wpAnyH_take (i := 17) (oi := _) (v := ?_) rfl (by kernel_rfl) (by kernel_rfl) (by kernel_rfl) (fun _ _ _ h => h) (Or.inl ⟨by rfl, ?_⟩) (by assumption) ?_
              rotate_left 1
              · (intro w0 hSw; (try dsimp only at hSw); obtain ⟨⟨⟨s0, s00⟩, s1, s2, s3, s4, s5, s6⟩, t1, t2, t3, t4, t5, t6⟩ := hSw; go_simp; try with_reducible rfl)
              (try simp only [List.getElem_toArray, List.getElem_cons_succ, List.getElem_cons_zero]); (try simp only [Act.put, List.setIfInBounds_toArray, List.set_cons_zero, List.set_cons_succ])
              refine wpAnyH_done (by kernel_rfl) ?_ _
              refine NoPanic.normal ?_
              have hD : Hid (OD1 w3 l out k2 (.slice a3 z c3) L w') := hD0.out.below ((show Below wr.heap.size wr wr.drew from (Below.refl _ wr).drew).trans BB)
              clear BB CH hD0 a0 x1 x2 x3 x4 x5 x6 b0' y1 y2 y3 y4 y5 y6 pc hHeld hyl hcvH
              -- the sample goes in (world w', state hD)
              obtain ⟨a0, x1, x2, x3, x4, x5, x6⟩ := hat.out w' hD.out.bl
              have pc := hP3.out w' hD.out.bl
              have serx : SerIn w' tx x.s := (hser.out w' hD.out.bl)
              have bA : Below w'.heap.size w' (w'.alloc (.cells #[.string x.s.m, .slice tx nx cx, .string x.s.f, .int .i64 x.tm, .int .u8 (x.kd : Int), .int .i64 x.n] 37)) := (Below.refl _ w').alloc (Nat.le_refl _) _
              have CC : Hid (Calls Try.prog 34 #[.slice tx nx cx] (w'.alloc (.cells #[.string x.s.m, .slice tx nx cx, .string x.s.f, .int .i64 x.tm, .int .u8 (x.kd : Int), .int .i64 x.n] 37)) fun e w9 => ∃ a' c', e = .returned (.slice a' nx c') ∧ TgIn w9 a' x.s.t ∧ (∀ ad, a' = some ad → w'.heap.size + 1 ≤ ad.block) ∧ Below (w'.heap.size + 1) (w'.alloc (.cells #[.string x.s.m, .slice tx nx cx, .string x.s.f, .int .i64 x.tm, .int .u8 (x.kd : Int), .int .i64 x.n] 37)) w9) := by
                have := cloneW_any tx cx x.s.t (w'.alloc (.cells #[.string x.s.m, .slice tx nx cx, .string x.s.f, .int .i64 x.tm, .int .u8 (x.kd : Int), .int .i64 x.n] 37)) ((serx.belowW bA).1) hxt
                rw [hnx.out] at this
                rw [show (w'.alloc (.cells #[.string x.s.m, .slice tx nx cx, .string x.s.f, .int .i64 x.tm, .int .u8 (x.kd : Int), .int .i64 x.n] 37)).heap.size = w'.heap.size + 1 by simp] at this
                exact this
              have hfin : Hid (∀ (a' : Option Addr) (c' : Nat) (w5 : World), TgIn w5 a' x.s.t → (∀ ad, a' = some ad → w'.heap.size + 1 ≤ ad.block) → Below (w'.heap.size + 1) (w'.alloc (.cells #[.string x.s.m, .slice tx nx cx, .string x.s.f, .int .i64 x.tm, .int .u8 (x.kd : Int), .int .i64 x.n] 37)) w5 → ∃ a4 z4 c4 L4 w6, (Builtin.append_ #[28, 28] 28 #[.slice a3 z c3, .slice (some ⟨w5.heap.size, 0, none⟩) 1 1]).run Try.prog ((w5.setCell ⟨w'.heap.size, 1, none⟩ (.slice a' nx c')).alloc (.cells #[.string x.s.m, .slice a' nx c', .string x.s.f, .int .i64 x.tm, .int .u8 (x.kd : Int), .int .i64 x.n] 37)) = .ok (.slice a4 z4 c4) w6 ∧ OD1 w3 l out (k2 + 1) (.slice a4 z4 c4) L4 w6) := fun a' c' w5 t5 n5 b5 => by
                have sz : (w'.alloc (.cells #[.string x.s.m, .slice tx nx cx, .string x.s.f, .int .i64 x.tm, .int .u8 (x.kd : Int), .int .i64 x.n] 37)).heap.size = w'.heap.size + 1 := by simp
                have b5w : Below w'.heap.size w' w5 := bA.trans (b5.mono (by omega))
                have b5s : Below w'.heap.size w' (w5.setCell ⟨w'.heap.size, 1, none⟩ (.slice a' nx c')) := b5w.setCell (p := ⟨w'.heap.size, 1, none⟩) (Nat.le_refl _) _
                have hD5 := hD.out.below b5s
                have hts : TgIn (w5.setCell ⟨w'.heap.size, 1, none⟩ (.slice a' nx c')) a' x.s.t := by
                  rcases t5 with q | ⟨bb, oo, q1, q2, q3⟩
                  · exact Or.inl q
                  · have q4 := n5 _ q1
                    simp only at q4
                    refine Or.inr ⟨bb, oo, q1, by simpa using q2, fun i t ht => ?_⟩
                    obtain ⟨r1, r2⟩ := q3 i t ht
                    exact ⟨by rw [World.cell?_setCell_other _ _ _ _ (by intro e; injection e; omega)]; exact r1, by rw [World.cell?_setCell_other _ _ _ _ (by intro e; injection e; omega)]; exact r2⟩
                have lz : L.length = z := by
                  obtain ⟨_, _, e, _⟩ := hD.out.row.1.win
                  injection e with _ e _
                  exact e.symm
                have few : L.length ≤ k2 := by
                  have := ordL_len l out k2
                  rw [← hD.out.is, List.length_map] at this
                  exact this
                obtain ⟨a4, c4, w6, q1, q2, q3⟩ := app2W _ w3.heap.size (.slice a3 z c3) L hD5.row (Nat.le_trans hD.out.bl.size b5s.size) (x, a', c') ⟨hts, serx.2⟩ (fun _ ad had e => by
                  have h1 := n5 ad had
                  rcases hD.out.row.1.1.2 with ⟨e1, _⟩ | ⟨g, _, _, e1, _, e3, _⟩
                  · rw [e1] at e; cases e
                  · rw [e1] at e
                    have h2 : g = ad.block := by simpa [Value.ownBlock] using e
                    have h3 := (Array.getElem?_eq_some_iff.1 e3).1
                    omega) (by omega)
                refine ⟨a4, L.length + 1, c4, L ++ [(x, a', c')], w6, ?_, q2, ?_, ?_⟩
                · have s5 : (w5.setCell ⟨w'.heap.size, 1, none⟩ (.slice a' nx c')).heap.size = w5.heap.size := by simp
                  rw [s5] at q1
                  simp only [hnx.out] at q1
                  exact q1
                · rw [List.map_append, hD.out.is, ordL_new hpH.out (Or.inr ⟨q, hqH.out, hne.out⟩)]
                  congr 1
                  show [x] = _
                  rw [hxl.out]
                · exact hD5.bl.trans q3
              have hwb : Hid (∀ w5, Below (w'.heap.size + 1) (w'.alloc (.cells #[.string x.s.m, .slice tx nx cx, .string x.s.f, .int .i64 x.tm, .int .u8 (x.kd : Int), .int .i64 x.n] 37)) w5 → (w5.cell? ⟨w'.heap.size, 0, none⟩ = some (.string x.s.m) ∧ w5.cell? ⟨w'.heap.size, 1, none⟩ = some (.slice tx nx cx) ∧ w5.cell? ⟨w'.heap.size, 2, none⟩ = some (.string x.s.f) ∧ w5.cell? ⟨w'.heap.size, 3, none⟩ = some (.int .i64 x.tm) ∧ w5.cell? ⟨w'.heap.size, 4, none⟩ = some (.int .u8 (x.kd : Int)) ∧ w5.cell? ⟨w'.heap.size, 5, none⟩ = some (.int .i64 x.n)) ∧ w5.frozen? ⟨w'.heap.size, 1, none⟩ = false) := fun w5 b5 => by
                refine ⟨⟨?_, ?_, ?_, ?_, ?_, ?_⟩, ?_⟩
                · rw [b5.cell (p := ⟨w'.heap.size, 0, none⟩) (by show w'.heap.size < _; omega)]; simp [go_sem]
                · rw [b5.cell (p := ⟨w'.heap.size, 1, none⟩) (by show w'.heap.size < _; omega)]; simp [go_sem]
                · rw [b5.cell (p := ⟨w'.heap.size, 2, none⟩) (by show w'.heap.size < _; omega)]; simp [go_sem]
                · rw [b5.cell (p := ⟨w'.heap.size, 3, none⟩) (by show w'.heap.size < _; omega)]; simp [go_sem]
                · rw [b5.cell (p := ⟨w'.heap.size, 4, none⟩) (by show w'.heap.size < _; omega)]; simp [go_sem]
                · rw [b5.cell (p := ⟨w'.heap.size, 5, none⟩) (by show w'.heap.size < _; omega)]; simp [go_sem]
                · rw [b5.frozen (p := ⟨w'.heap.size, 1, none⟩) (by show w'.heap.size < _; omega)]; simp [go_sem]
              clear serx bA hD
              go_wp2_with fail
              refine Calls.mono CC.out ?_
              rintro e w5 ⟨a', c', rfl, t5, n5, b5⟩
              obtain ⟨⟨y1, y2, y3, y4, y5, y6⟩, y7⟩ := hwb.out w5 b5
              obtain ⟨a4, z4, c4, L4, w6, hr6, hD6⟩ := hfin.out a' c' w5 t5 n5 b5
              have hrH : Hid (∀ W, W = (w5.setCell ⟨w'.heap.size, 1, none⟩ (.slice a' nx c')).alloc (.cells #[.string x.s.m, .slice a' nx c', .string x.s.f, .int .i64 x.tm, .int .u8 (x.kd : Int), .int .i64 x.n] 37) → (Builtin.append_ #[28, 28] 28 #[.slice a3 z c3, .slice (some ⟨w5.heap.size, 0, none⟩) 1 1]).run Try.prog W = .ok (.slice a4 z4 c4) w6) := fun W e => by subst e; exact hr6
              have hD6H : Hid (OD1 w3 l out (k2 + 1) (.slice a4 z4 c4) L4 w6) := hD6
              clear t5 n5 b5 CC hwb hfin hr6 hD6 a0 pc x1 x2 x3 x4 x5 x6
              go_wp2_with (at_builtin; refine wpList_append_runB (by rfl) _ _ _ (by rfl) _ _ _ _ (by rfl) (by rfl) (hrH.out _ rfl) ?_)
              exact ⟨⟨k2 + 1, z4, c4, a4, L4, rfl, by first | rfl | simp, by omega, hD6H⟩, by simp [intOf]; omega⟩
        · have hkI2 : ¬ (k2 : Int) < (m : Int) := by omega
          obtain rfl : k2 = m := by omega
          have fin : Hid (OrdR w wr l (.returned (.slice a3 z c3))) := by
            refine ⟨out, L, _, rfl, by rw [hN.out]; exact hsH.out, ?_, by rw [hM.out]; exact hD0.out.is, B3.out.trans (hD0.out.bl.mono B3.out.size)⟩
            obtain ⟨⟨⟨r1, r2⟩, r3⟩, r4⟩ := hD0.out.row
            refine ⟨⟨⟨r1, ?_⟩, r3⟩, r4⟩
            rcases r2 with r | ⟨g', cap, cur, e1, e2, e3, e4⟩
            · exact Or.inl r
            · exact Or.inr ⟨g', cap, cur, e1, Nat.le_trans B3.out.size e2, e3, e4⟩
          clear hD0
          go_wp2_with fail
          go_ret
          exact fin.out
end Go.Proofs.Ytlcppkemiogbeaa

namespace Go.Proofs.Ytlcppkemiogbeaa
open Go.RowKit _root_.Go.Proofs.Ytlcppkemiogbeaa.So
set_option linter.unusedVariables false
set_option linter.unusedSimpArgs false
theorem grow_ccs (w : World) (n : Nat) (hn : n ≤ 1099511627776) : CcS w (w.drew.alloc (.cells (Builtin.zeroCells zW6 n ++ Builtin.zeroCells zW6 (grownCap w n 0 37 - n)) 37)) (.slice (some ⟨w.heap.size, 0, none⟩) 0 (grownCap w n 0 37)) [] := by
  have hml : maxLen = 9223372036854775807 := by decide
  have g1 := grownCap_ge w n 0 37
  have g2 := grownCap_le_maxLen w n 0 37 (by omega)
  have bd : Below w.heap.size w w.drew := (Below.refl _ w).drew
  refine ⟨⟨rfl, Or.inr ⟨w.heap.size, _, _, rfl, Nat.le_refl _, heap_alloc_new w.drew _, Nat.zero_le _, g2, ?_, by simp [encW]⟩⟩, (fun t h => by cases h), bd.alloc (Nat.le_refl _) _⟩
  rw [Array.size_append, zero_size, zero_size]; omega
set_option maxRecDepth 100000 in
set_option maxHeartbeats 4000000 in
theorem grow_any (w : World) (n : Nat) (hn : n ≤ 1099511627776) :
    Calls Try.prog 35 #[.slice none 0 0, .int .i64 (n : Int)] w fun e w' => ∃ a cap, e = .returned (.slice a 0 cap) ∧ CcS w w' (.slice a 0 cap) [] := by
  rcases Nat.eq_zero_or_pos n with h0 | h0
  · subst h0
    have fin : Hid (CcS w w (.slice none 0 0) []) := CcS.nil w
    go_enter Try.func35, Try.ntmps35
    go_wp2_with fail
    go_ret
    exact ⟨_, _, rfl, fin.out⟩
  · have hr := grow_run w n h0 hn
    have hS := grow_ccs w n hn
    generalize grownCap w n 0 37 = cap at hr hS
    generalize w.drew.alloc (.cells (Builtin.zeroCells zW6 n ++ Builtin.zeroCells zW6 (cap - n)) 37) = w1 at hr hS
    have rH : Hid (∀ W, W = w → (Builtin.append_ #[28, 3] 28 #[.slice none 0 0, .int .i64 (n : Int)]).run Try.prog W = .ok (.slice (some ⟨w.heap.size, 0, none⟩) n cap) w1) := fun W e => by subst e; exact hr
    have fin : Hid (CcS w w1 (.slice (some ⟨w.heap.size, 0, none⟩) 0 cap) []) := hS
    have n0 : ¬ (n : Int) < 0 := by omega
    have n1 : (0 : Int) < (n : Int) := by omega
    have nw : IntKind.i64.wrap (n : Int) = (n : Int) := IntWalk.i64_in _ (by omega)
    have nw2 : IntKind.i64.wrap ((n : Int) - 0) = (n : Int) := IntWalk.i64_in _ (by omega)
    clear hr hS
    go_enter Try.func35, Try.ntmps35
    go_wp2_with (at_builtin; refine wpList_append_runX (by rfl) _ _ _ _ (by rfl) _ _ _ _ (by rfl) (by rfl) (rH.out _ (by first | rfl | simp)) ?_)
    go_ret
    exact ⟨_, _, rfl, fin.out⟩
/-- what has been laid so far. -/
def preC (l m : List WrP) (k : Nat) : List WrP := if k = 0 then [] else if k = 1 then l else l ++ m
set_option maxRecDepth 100000 in
set_option maxHeartbeats 8000000 in
theorem concat_any (w : World) (P : Nat) (hP : P < w.heap.size) (a1 a2 : Option Addr) (c1 c2 : Nat) (l m : List WrP) (h1 : WIn w a1 l) (h2 : WIn w a2 m) (p1 : w.cell? ⟨P, 0, none⟩ = some (.slice a1 l.length c1)) (p2 : w.cell? ⟨P, 1, none⟩ = some (.slice a2 m.length c2)) (hn : l.length + m.length ≤ 1099511627776) :
    Calls Try.prog 19 #[.slice (some ⟨P, 0, none⟩) 2 2] w fun e w' => ∃ a z cap L, e = .returned (.slice a z cap) ∧ CcS w w' (.slice a z cap) L ∧ L.map (·.1) = l ++ m := by
  have lz : ∀ {wr : World} {a : Option Addr} {z c : Nat} {L : List WrA}, CcS w wr (.slice a z c) L → L.length = z := fun h => by
    obtain ⟨_, _, e, _⟩ := h.win
    injection e with _ e _
    exact e.symm
  have hA : Hid (∀ (wr : World) (a : Option Addr) (z c : Nat) (L : List WrA), CcS w wr (.slice a z c) L → L.map (·.1) = [] → ∃ v' w' M, (Builtin.append_ #[28, 28] 28 #[.slice a z c, .slice a1 l.length c1]).run Try.prog wr = .ok v' w' ∧ CcS w w' v' M ∧ M.map (·.1) = l) := fun wr a z c L h e => by
    have hL : L = [] := List.map_eq_nil_iff.1 e
    subst hL
    obtain ⟨v', w', M, q1, q2, q3⟩ := appW w wr _ _ h a1 c1 l h1 (by simp; omega)
    exact ⟨v', w', M, q1, q3, q2⟩
  have hB : Hid (∀ (wr : World) (a : Option Addr) (z c : Nat) (L : List WrA), CcS w wr (.slice a z c) L → L.map (·.1) = l → ∃ v' w' M, (Builtin.append_ #[28, 28] 28 #[.slice a z c, .slice a2 m.length c2]).run Try.prog wr = .ok v' w' ∧ CcS w w' v' M ∧ M.map (·.1) = l ++ m) := fun wr a z c L h e => by
    have : L.length = l.length := by rw [← e, List.length_map]
    obtain ⟨v', w', M, q1, q2, q3⟩ := appW w wr _ _ h a2 c2 m h2 (by omega)
    exact ⟨v', w', L ++ M, q1, q3, by rw [List.map_append, e, q2]⟩
  have sl : Hid (∀ (wr : World) (v : Value) (L : List WrA), CcS w wr v L → ∃ a z c, v = .slice a z c) := fun wr v L h => by
    obtain ⟨a, c, e, _⟩ := h.win
    exact ⟨a, _, c, e⟩
  have cP : Hid (∀ (wr : World) (v : Value) (L : List WrA), CcS w wr v L → wr.cell? ⟨P, 0, none⟩ = some (.slice a1 l.length c1) ∧ wr.cell? ⟨P, 1, none⟩ = some (.slice a2 m.length c2)) := fun wr v L h => ⟨by rw [h.bl.cell (p := ⟨P, 0, none⟩) hP]; exact p1, by rw [h.bl.cell (p := ⟨P, 1, none⟩) hP]; exact p2⟩
  have CG : Hid (Calls Try.prog 35 #[.slice none 0 0, .int .i64 (((l.length + m.length : Nat)) : Int)] w fun e w' => ∃ a cap, e = .returned (.slice a 0 cap) ∧ CcS w w' (.slice a 0 cap) []) := grow_any w _ hn
  clear lz h1 h2
  generalize l.length = n1 at *
  generalize m.length = n2 at *
  have k1 : ¬ (n1 : Int) < 0 := by omega
  have k2 : ¬ (((n1 + n2 : Nat)) : Int) < 0 := by omega
  have e1 : IntKind.i64.wrap (n1 : Int) = (n1 : Int) := IntWalk.i64_in _ (by omega)
  have e2 : IntKind.i64.wrap ((n1 : Int) + (n2 : Int)) = ((n1 + n2 : Nat) : Int) := IntWalk.i64_in _ (by omega)
  go_enter Try.func19, Try.ntmps19
  go_wp2_with fail
  go_loopw [3, 11] (fun sz ix wr => (wr = w) ∧ ((ix = .int .i64 0 ∧ sz = .int .i64 0) ∨ (ix = .int .i64 1 ∧ sz = .int .i64 (n1 : Int)) ∨ (ix = .int .i64 2 ∧ sz = .int .i64 (((n1 + n2 : Nat)) : Int)))) (fun _ ix _ => 2 - (intOf ix).toNat)
  case atStart => exact ⟨rfl, Or.inl ⟨rfl, rfl⟩⟩
  case round =>
    obtain ⟨hwr, hcs⟩ := hrel
    subst wr
    rcases hcs with ⟨rfl, rfl⟩ | ⟨rfl, rfl⟩ | ⟨rfl, rfl⟩
    · go_wp2_with fail
      exact ⟨⟨by first | rfl | trivial, Or.inr (Or.inl ⟨rfl, by first | rfl | simp⟩)⟩, by simp [intOf]⟩
    · go_wp2_with fail
      exact ⟨⟨by first | rfl | trivial, Or.inr (Or.inr ⟨rfl, by first | rfl | simp⟩)⟩, by simp [intOf]⟩
    · clear p1 p2
      go_wp2_with fail
      refine Calls.mono CG.out ?_
      rintro e w1 ⟨a, cap, rfl, hS⟩
      have S0 : Hid (CcS w w1 (.slice a 0 cap) [] ∧ ([] : List WrA).map (·.1) = preC l m 0) := ⟨hS, rfl⟩
      clear hS CG
      go_wp2_with fail
      go_loopw [6, 27] (fun v ix wx => ∃ (k : Nat) (a : Option Addr) (z c : Nat) (L : List WrA), (k = 0 ∨ k = 1 ∨ k = 2) ∧ ix = .int .i64 (k : Int) ∧ v = .slice a z c ∧ Hid (CcS w wx (.slice a z c) L ∧ L.map (·.1) = preC l m k)) (fun _ ix _ => 2 - (intOf ix).toNat)
      case atStart => exact ⟨0, a, 0, cap, [], Or.inl rfl, rfl, rfl, S0⟩
      case round =>
        clear S0
        obtain ⟨k, a, z, c, L, (rfl | rfl | rfl), rfl, rfl, hS⟩ := hrel
        · obtain ⟨x1, x2⟩ := cP.out _ _ _ hS.out.1
          obtain ⟨v', w', M, q1, q2, q3⟩ := hA.out _ a z c L hS.out.1 hS.out.2
          obtain ⟨a', z', c', rfl⟩ := sl.out _ _ _ q2
          have rH : Hid (∀ W, W = wr → (Builtin.append_ #[28, 28] 28 #[.slice a z c, .slice a1 n1 c1]).run Try.prog W = .ok (.slice a' z' c') w') := fun W e => by subst e; exact q1
          have S1 : Hid (CcS w w' (.slice a' z' c') M ∧ M.map (·.1) = preC l m 1) := ⟨q2, q3⟩
          clear q1 q2 q3 hS
          go_wp2_with (at_builtin; refine wpList_append_runB (by rfl) _ _ _ (by rfl) _ _ _ _ (by rfl) (by rfl) (rH.out _ (by first | rfl | simp)) ?_)
          exact ⟨⟨1, a', z', c', M, Or.inr (Or.inl rfl), rfl, rfl, S1⟩, by simp [intOf]⟩
        · obtain ⟨x1, x2⟩ := cP.out _ _ _ hS.out.1
          obtain ⟨v', w', M, q1, q2, q3⟩ := hB.out _ a z c L hS.out.1 hS.out.2
          obtain ⟨a', z', c', rfl⟩ := sl.out _ _ _ q2
          have rH : Hid (∀ W, W = wr → (Builtin.append_ #[28, 28] 28 #[.slice a z c, .slice a2 n2 c2]).run Try.prog W = .ok (.slice a' z' c') w') := fun W e => by subst e; exact q1
          have S1 : Hid (CcS w w' (.slice a' z' c') M ∧ M.map (·.1) = preC l m 2) := ⟨q2, q3⟩
          clear q1 q2 q3 hS
          go_wp2_with (at_builtin; refine wpList_append_runB (by rfl) _ _ _ (by rfl) _ _ _ _ (by rfl) (by rfl) (rH.out _ (by first | rfl | simp)) ?_)
          exact ⟨⟨2, a', z', c', M, Or.inr (Or.inr rfl), rfl, rfl, S1⟩, by simp [intOf]⟩
        · go_wp2_with fail
          go_ret
          exact ⟨a, z, c, L, rfl, hS.out.1, hS.out.2⟩
/-- what the program's Order, Merge tell: the document's. -/
theorem orderD (a : Option Addr) (c : Nat) (l : List WrP) (w : World) (hl : WIn w a l) (hn : l.length ≤ 549755813888) (hts : ∀ x ∈ l, x.s.t.length ≤ 4398046511104) :
    Calls Try.prog 18 #[.slice a l.length c] w fun e w' => OdR w w' l e :=
  (order_any a c l w hl hn hts).mono fun e w' hh => by
    obtain ⟨out, L, v, rfl, hs, o, i, b⟩ := hh
    obtain ⟨a', cap, e', _⟩ := o.slice
    subst e'
    exact ⟨a', L.length, cap, L, rfl, o, by rw [i]; exact ordL_is l out hs, b⟩
set_option maxRecDepth 100000 in
set_option maxHeartbeats 4000000 in
theorem bmerge_any (a a2 : Option Addr) (c c2 : Nat) (l m : List WrP) (w : World) (ha : WIn w a l) (hb : WIn w a2 m) (hn : l.length + m.length ≤ 549755813888) (htl : ∀ x ∈ l, x.s.t.length ≤ 4398046511104) (htm : ∀ x ∈ m, x.s.t.length ≤ 4398046511104) :
    Calls Try.prog 7 #[.slice a l.length c, .slice a2 m.length c2] w fun e w' => OdR w w' (l ++ m) e := by
  obtain ⟨w1, hw1⟩ : ∃ w1, w1 = w.alloc (.cells #[.slice a l.length c, .slice a2 m.length c2] 28) := ⟨_, rfl⟩
  have b1 : Below w.heap.size w w1 := by rw [hw1]; exact (Below.refl _ w).alloc (Nat.le_refl _) _
  have C1 : Hid (Calls Try.prog 19 #[.slice (some ⟨w.heap.size, 0, none⟩) 2 2] w1 fun e w' => ∃ a z cap L, e = .returned (.slice a z cap) ∧ CcS w1 w' (.slice a z cap) L ∧ L.map (·.1) = l ++ m) := concat_any w1 w.heap.size (by rw [hw1]; simp) a a2 c c2 l m (ha.below b1) (hb.below b1) (by rw [hw1]; simp [go_sem]) (by rw [hw1]; simp [go_sem]) (by omega)
  have C2 : Hid (∀ (w2 : World) (a3 : Option Addr) (z c3 : Nat) (L : List WrA), CcS w1 w2 (.slice a3 z c3) L → L.map (·.1) = l ++ m → Calls Try.prog 18 #[.slice a3 z c3] w2 fun e w' => OdR w w' (l ++ m) e) := fun w2 a3 z c3 L hS e => by
    obtain ⟨a', cap, e', hc, hw⟩ := hS.win
    injection e' with q1 q2 q3
    subst q1 q3
    rw [e] at hw
    have lL : L.length = (l ++ m).length := by rw [← e, List.length_map]
    rw [q2, lL]
    refine (orderD a3 c3 (l ++ m) w2 hw (by rw [List.length_append]; exact hn) (fun x hx => (List.mem_append.1 hx).elim (htl x) (htm x))).mono fun e w' hh => ?_
    obtain ⟨a4, z4, c4, L4, rfl, o, i, b⟩ := hh
    have B2 := b1.trans (hS.bl.mono b1.size)
    exact ⟨a4, z4, c4, L4, rfl, o.mono B2.size, i, B2.trans (b.mono B2.size)⟩
  clear b1 ha hb hn htl htm
  generalize l.length = n1 at *
  generalize m.length = n2 at *
  go_enter Try.func7, Try.ntmps7
  go_wp2_with fail
  rw [← hw1]
  clear hw1
  refine Calls.mono C1.out ?_
  rintro e w2 ⟨a3, z3, d3, L3, rfl, hS, hi⟩
  have C4 : Hid _ := C2.out w2 a3 z3 d3 L3 hS hi
  clear hS hi C1 C2
  go_wp2_with fail
  refine Calls.mono C4.out ?_
  rintro e w3 ⟨a4, z4, d4, L4, rfl, r⟩
  have fin : Hid (OdR w w3 (l ++ m) (.returned (.slice a4 z4 d4))) := ⟨a4, z4, d4, L4, rfl, r⟩
  clear r C4
  go_wp2_with fail
  go_ret
  exact fin.out
end Go.Proofs.Ytlcppkemiogbeaa

namespace Go.Proofs.Ytlcppkemiogbeaa.Fr
open Go.RowKit _root_.Go.Proofs.Ytlcppkemiogbeaa.So
set_option linter.unusedVariables false
set_option linter.unusedSimpArgs false
/-- and no tags lie in the row's own block. -/
def OW2 (w : World) (B : Nat) (v : Value) (L : List WrA) : Prop := OW w B v L ∧ ∀ t ∈ L, t.1.s.t ≠ [] → ∀ ad, t.2.1 = some ad → v.ownBlock ≠ some ad.block ∧ B ≤ ad.block
theorem OW2.nil (w : World) (B : Nat) : OW2 w B (.slice none 0 0) [] := ⟨OW.nil w B, fun t h => by cases h⟩
theorem OW2.below {w w' : World} {B : Nat} {v : Value} {L : List WrA} (h : OW2 w B v L) (hb : Below w.heap.size w w') : OW2 w' B v L := ⟨h.1.below hb, h.2⟩
theorem app2W (W : World) (B : Nat) (v : Value) (L : List WrA) (h : OW2 W B v L) (hB : B ≤ W.heap.size) (t : WrA) (ht : SerIn W t.2.1 t.1.s) (htb : t.1.s.t ≠ [] → ∀ ad, t.2.1 = some ad → v.ownBlock ≠ some ad.block ∧ B ≤ ad.block) (hn : L.length + 1 ≤ 1099511627776) :
    ∃ a c w', (Builtin.append_ #[28, 28] 28 #[v, .slice (some ⟨W.heap.size, 0, none⟩) 1 1]).run Try.prog (W.alloc (.cells #[.string t.1.s.m, .slice t.2.1 t.1.s.t.length t.2.2, .string t.1.s.f, .int .i64 t.1.tm, .int .u8 (t.1.kd : Int), .int .i64 t.1.n] 37)) = .ok (.slice a (L.length + 1) c) w' ∧ OW2 w' B (.slice a (L.length + 1) c) (L ++ [t]) ∧ Below B W w' := by
  have b1 : Below W.heap.size W (W.alloc (.cells #[.string t.1.s.m, .slice t.2.1 t.1.s.t.length t.2.2, .string t.1.s.f, .int .i64 t.1.tm, .int .u8 (t.1.kd : Int), .int .i64 t.1.n] 37)) := (Below.refl _ W).alloc (Nat.le_refl _) _
  have ho2 := (h.1.below b1).1
  obtain ⟨i, i1, i0⟩ := Option.map_eq_some_iff.1 wr_info
  have i2 : i.zero = some (.agg #[.string ⟨#[]⟩, .slice none 0 0, .string ⟨#[]⟩, .int .i64 0, .int .u8 0, .int .i64 0]) := congrArg (·.1) i0
  have i3 : i.bytes = 80 := congrArg (·.2.1) i0
  have i4 : i.size = 6 := congrArg (·.2.2) i0
  have hml : maxLen = 9223372036854775807 := by decide
  have hB2 := Nat.le_trans hB b1.size
  obtain ⟨g, cap, w', hr, own, gr, hat, hlt⟩ := run_append_lies (P := Try.prog) _ 28 28 B 37 i (.agg #[.string ⟨#[]⟩, .slice none 0 0, .string ⟨#[]⟩, .int .i64 0, .int .u8 0, .int .i64 0]) 6 80 Try.underlying28 i1 i2 i4 i3 rfl (by omega) v L.length (encW L) ho2 ⟨W.heap.size, 0, none⟩ 1 1 (encW [t]) rfl (fun j u hj => by
    rcases j with _ | _ | _ | _ | _ | _ | j <;> simp [encW] at hj <;> (try (subst hj; simp [go_sem]))) (encW_one _) (by omega) (by omega) (by omega) hB2 _ rfl
  have gW : W.grownBy w' v.ownBlock := ⟨gr.os, gr.tape, gr.output, Nat.le_trans b1.size gr.size, fun k hk hne => by rw [gr.block k (Nat.lt_of_lt_of_le hk b1.size) hne]; exact b1.block k hk⟩
  have all : ∀ u ∈ L ++ [t], SerIn W u.2.1 u.1.s ∧ (u.1.s.t ≠ [] → ∀ ad, u.2.1 = some ad → v.ownBlock ≠ some ad.block ∧ B ≤ ad.block) := fun u hu => by
    rcases List.mem_append.1 hu with q | q
    · exact ⟨h.1.2 u q, h.2 u q⟩
    · rw [List.mem_singleton.1 q]; exact ⟨ht, htb⟩
  refine ⟨some ⟨g, 0, none⟩, cap, w', hr, ⟨⟨?_, fun u hu => ⟨(all u hu).1.1.grownW gW (fun h ad e => ((all u hu).2 h ad e).1), (all u hu).1.2⟩⟩, fun u hu he ad had => ?_⟩, (b1.mono hB).trans ((Below.refl B _).grown gr hB2 (fun k e => (World.ownsRow.lt ho2 k e).1))⟩
  · rw [List.length_append, List.length_singleton, encW_append]; exact own
  · refine ⟨?_, ((all u hu).2 he ad had).2⟩
    rcases hat with e | e
    · intro q
      exact ((all u hu).2 he ad had).1 (e.trans q)
    · intro q
      have q1 : g = ad.block := by simpa [Value.ownBlock] using q
      rcases (all u hu).1.1 with q2 | ⟨b, off, q3, q4, _⟩
      · exact he q2
      · rw [had] at q3
        injection q3 with q3
        rw [q3] at q1
        have : (W.alloc (.cells #[.string t.1.s.m, .slice t.2.1 t.1.s.t.length t.2.2, .string t.1.s.f, .int .i64 t.1.tm, .int .u8 (t.1.kd : Int), .int .i64 t.1.n] 37)).heap.size = W.heap.size + 1 := by simp
        rw [this] at e
        simp only at q1
        omega
structure OD1 (w3 : World) (l : List WrP) (out : List Nat) (k : Nat) (v : Value) (L : List WrA) (wr : World) : Prop where
  row : OW2 wr w3.heap.size v L
  is : L.map (·.1) = ordL l out k
  bl : Below w3.heap.size w3 wr
theorem OD1.below {w3 : World} {l : List WrP} {out : List Nat} {k : Nat} {v : Value} {L : List WrA} {wr wx : World} (s : OD1 w3 l out k v L wr) (hB : Below wr.heap.size wr wx) : OD1 w3 l out k v L wx := ⟨s.row.below hB, s.is, s.bl.trans (hB.mono s.bl.size)⟩
end Go.Proofs.Ytlcppkemiogbeaa.Fr

namespace Go.Proofs.Ytlcppkemiogbeaa.Fr
open Go.RowKit _root_.Go.Proofs.Ytlcppkemiogbeaa.So
set_option linter.unusedVariables false
set_option linter.unusedSimpArgs false
/-- what Order tells. -/
def OrdR (w w' : World) (l : List WrP) (e : Ending) : Prop := ∃ (out : List Nat) (L : List WrA) (v : Value), e = .returned v ∧ Sorted1 (ahW l) l.length out ∧ OW2 w' w.heap.size v L ∧ L.map (·.1) = ordL l out out.length ∧ Below w.heap.size w w'
set_option maxRecDepth 100000 in
set_option maxHeartbeats 16000000 in
theorem order_any (a : Option Addr) (c : Nat) (l : List WrP) (w : World) (hl : WIn w a l) (hn : l.length ≤ 549755813888) (hts : ∀ x ∈ l, x.s.t.length ≤ 4398046511104) :
    Calls Try.prog 18 #[.slice a l.length c] w fun e w' => OrdR w w' l e := by
  obtain ⟨P1, hP1⟩ : ∃ P, P = w.heap.size := ⟨_, rfl⟩
  obtain ⟨w1, hw1⟩ : ∃ w1, w1 = w.alloc (.cells #[.slice a l.length c] 28) := ⟨_, rfl⟩
  have B1 : Below w.heap.size w w1 := by rw [hw1]; exact (Below.refl _ w).alloc (Nat.le_refl _) _
  have s1 : w1.heap.size = P1 + 1 := by rw [hw1, hP1]; simp
  have c1 : w1.cell? ⟨P1, 0, none⟩ = some (.slice a l.length c) := by rw [hw1, hP1]; simp [go_sem]
  have B1H : Hid (Below w.heap.size w w1) := B1
  have s1H : Hid (w1.heap.size = P1 + 1) := s1
  have c1H : Hid (w1.cell? ⟨P1, 0, none⟩ = some (.slice a l.length c)) := c1
  have hlH : Hid (WIn w a l) := hl
  have htsH : Hid (∀ x ∈ l, x.s.t.length ≤ 4398046511104) := hts
  have hmk := make_n l.length (by omega)
  obtain ⟨b0, hb0⟩ : ∃ b, b = w1.heap.size := ⟨_, rfl⟩
  have hb2 : b0 = P1 + 1 := by rw [hb0, s1]
  have F0 : Hid (FP w1 b0 l.length 0 (w1.alloc (.cells (madeCells #[.int .i64 0] l.length) 3))) := by rw [hb0]; exact FP.start w1 l.length
  have hbw : Hid (w1.heap.size ≤ b0) := by rw [hb0]; exact Nat.le_refl _
  have c1' : ∀ o, (w1.alloc o).cell? ⟨P1, 0, none⟩ = some (.slice a l.length c) := fun o => by rw [((Below.refl w1.heap.size w1).alloc (Nat.le_refl _) o).cell (p := ⟨P1, 0, none⟩) (by show P1 < w1.heap.size; omega)]; exact c1
  obtain ⟨n, hnl⟩ : ∃ n, l.length = n := ⟨_, rfl⟩
  have hN : Hid (l.length = n) := hnl
  rw [hnl] at hn c1 hmk F0 c1H hw1 c1' ⊢
  clear hl hts B1 hnl s1
  go_enter Try.func18, Try.ntmps18
  go_wp2_with fail
  rw [← hw1, ← hP1]
  rw [← hb2]
  generalize w1.alloc (.cells (madeCells #[.int .i64 0] n) 3) = w2 at F0 ⊢
  clear hw1 hP1 hb0 hb2 hmk c1 c1'
  go_loopw [14] (fun v wr => ∃ k : Nat, v = .int .i64 (k : Int) ∧ k ≤ n ∧ Hid (FP w1 b0 n k wr)) (fun v _ => n - (intOf v).toNat)
  case atStart => exact ⟨0, rfl, Nat.zero_le _, F0⟩
  case round =>
    clear F0
    obtain ⟨k, rfl, hkn, hF⟩ := hrel
    have kw : IntKind.i64.wrap ((k : Int) + 1) = ((k + 1 : Nat) : Int) := IntWalk.i64_in _ (by omega)
    by_cases hk : k < n
    · have hkI : (k : Int) < (n : Int) := by omega
      have k0 : (0 : Int) ≤ (k : Int) := by omega
      have cc := hF.out.c k hk
      have ff := hF.out.f k hk
      have F2 : Hid (FP w1 b0 n (k + 1) (wr.setCell ⟨b0, k, none⟩ (.int .i64 (k : Int)))) := hF.out.more hk hbw.out
      clear hF
      go_wp2_with fail
      exact ⟨⟨k + 1, by first | rfl | simp, by omega, F2⟩, by simp [intOf]; omega⟩
    · have hkI : ¬ (k : Int) < (n : Int) := by omega
      obtain rfl : k = n := by omega
      have Bw : Below w.heap.size w wr := B1H.out.trans (hF.out.b.mono B1H.out.size)
      have pcell : wr.cell? ⟨P1, 0, none⟩ = some (.slice a k c) := by rw [hF.out.b.cell (p := ⟨P1, 0, none⟩) (by show P1 < w1.heap.size; have := s1H.out; omega)]; exact c1H.out
      have pl : P1 < wr.heap.size := by have := s1H.out; have := hF.out.b.size; omega
      have CS : Hid (Calls Try.prog 31 #[.slice (some ⟨b0, 0, none⟩) k k, .func (.func 32) #[] #[.pointer (some ⟨P1, 0, none⟩)]] wr fun e w' => SrtR wr w' (ahW l) k e) := by
        have hA := ahead_any wr P1 a c l pl (by rw [hN.out]; exact pcell) (hlH.out.below Bw) (by rw [hN.out]; omega)
        rw [hN.out] at hA
        exact sorted_any wr b0 k P1 (ahW l) (ahW_ao l k) hA hF.out.done (by omega)
      have BwH : Hid (Below w.heap.size w wr) := Bw
      have plH : Hid (P1 < wr.heap.size ∧ wr.cell? ⟨P1, 0, none⟩ = some (.slice a k c)) := ⟨pl, pcell⟩
      clear hF Bw pcell pl
      go_wp2_with fail
      refine Calls.mono CS.out ?_
      rintro e w3 ⟨out, g, c', rfl, hsrt, hg, hcells, hB3⟩
      have pcell : w3.cell? ⟨P1, 0, none⟩ = some (.slice a k c) := by rw [hB3.cell (p := ⟨P1, 0, none⟩) plH.out.1]; exact plH.out.2
      have hP3 : Hid (∀ W, Below w3.heap.size w3 W → W.cell? ⟨P1, 0, none⟩ = some (.slice a k c)) := fun W hW => by rw [hW.cell (p := ⟨P1, 0, none⟩) (Nat.lt_of_lt_of_le plH.out.1 hB3.size)]; exact pcell
      have hcH : Hid (∀ (i p : Nat) W, out[i]? = some p → Below w3.heap.size w3 W → W.cell? ⟨g, i, none⟩ = some (.int .i64 (p : Int))) := fun i p W hi hW => by rw [hW.cell (p := ⟨g, i, none⟩) hg]; exact hcells i p hi
      have B3 : Hid (Below w.heap.size w w3) := BwH.out.trans (hB3.mono BwH.out.size)
      have hsH : Hid (Sorted1 (ahW l) k out) := hsrt
      have ple : Hid (P1 < w3.heap.size ∧ g < w3.heap.size) := ⟨Nat.lt_of_lt_of_le plH.out.1 hB3.size, hg⟩
      have D0 : Hid (OD1 w3 l out 0 (.slice none 0 0) [] w3) := ⟨OW2.nil _ _, rfl, Below.refl _ _⟩
      have m1 : out.length ≤ k := by
        have := nodup_leB out (List.range k) (by
          rw [List.nodup_iff_pairwise_ne]
          refine (List.Pairwise.and_mem.1 hsrt.ord).imp ?_
          rintro x y ⟨hx, hy, hxy⟩ e
          subst e
          rw [(ahW_ao l k).irr x ((hsrt.all x).1 hx)] at hxy
          cases hxy) (fun x hx => List.mem_range.2 ((hsrt.all x).1 hx))
        simpa using this
      clear hB3 hcells hg hsrt pcell CS plH BwH
      obtain ⟨m, hm⟩ : ∃ m, out.length = m := ⟨_, rfl⟩
      have hM : Hid (out.length = m) := hm
      rw [hm] at m1 ⊢
      clear hm
      go_wp2_with fail
      go_loopw [5, 27] (fun v5 v27 wr => ∃ (k2 z c3 : Nat) (a3 : Option Addr) (L : List WrA), v5 = .slice a3 z c3 ∧ v27 = .int .i64 (k2 : Int) ∧ k2 ≤ m ∧ Hid (OD1 w3 l out k2 (.slice a3 z c3) L wr)) (fun _ v27 _ => m - (intOf v27).toNat)
      case atStart => exact ⟨0, 0, 0, none, [], rfl, rfl, Nat.zero_le _, D0⟩
      case round =>
        clear D0
        obtain ⟨k2, z, c3, a3, L, rfl, rfl, hkm, hD0⟩ := hrel
        have kw : IntKind.i64.wrap ((k2 : Int) + 1) = ((k2 + 1 : Nat) : Int) := IntWalk.i64_in _ (by omega)
        by_cases hk2 : k2 < m
        · have hkI2 : (k2 : Int) < (m : Int) := by omega
          have k0 : (0 : Int) ≤ (k2 : Int) := by omega
          obtain ⟨p, hp⟩ : ∃ p, out[k2]? = some p := ⟨_, List.getElem?_eq_getElem (by have := hM.out; omega)⟩
          have hpH : Hid (out[k2]? = some p) := hp
          have hpn : p < k := (hsH.out.all p).1 (List.mem_of_getElem? hp)
          have p0 : (0 : Int) ≤ (p : Int) := by omega
          have pI : (p : Int) < (k : Int) := by omega
          have gx : l[p]? = some (atW l p) := atW_some (by rw [hN.out]; exact hpn)
          obtain ⟨b, off, tx, cx, e1, hb, _, fx⟩ := (hlH.out.below B3.out).at (Below.refl _ _) gx
          subst e1
          have hxt : (atW l p).s.t.length ≤ 4398046511104 := htsH.out _ (List.mem_of_getElem? gx)
          obtain ⟨x, hx⟩ : ∃ x, atW l p = x := ⟨_, rfl⟩
          rw [hx] at fx hxt
          have hxl : Hid (x = atW l p) := hx.symm
          obtain ⟨nx, hnx'⟩ : ∃ nx, x.s.t.length = nx := ⟨_, rfl⟩
          have hnx : Hid (x.s.t.length = nx) := hnx'
          have hat : Hid (∀ W, Below w3.heap.size w3 W → W.cell? ⟨g, k2, none⟩ = some (.int .i64 (p : Int)) ∧ W.cell? ⟨b, off + p * 6, none⟩ = some (.string x.s.m) ∧ W.cell? ⟨b, off + p * 6 + 1, none⟩ = some (.slice tx nx cx) ∧ W.cell? ⟨b, off + p * 6 + 2, none⟩ = some (.string x.s.f) ∧ W.cell? ⟨b, off + p * 6 + 3, none⟩ = some (.int .i64 x.tm) ∧ W.cell? ⟨b, off + p * 6 + 4, none⟩ = some (.int .u8 (x.kd : Int)) ∧ W.cell? ⟨b, off + p * 6 + 5, none⟩ = some (.int .i64 x.n)) := fun W hW => ⟨hcH.out k2 p W hp hW, by have := (fx W hW).1; unfold WAt at this; rw [hnx'] at this; exact this⟩
          have hser : Hid (∀ W, Below w3.heap.size w3 W → SerIn W tx x.s) := fun W hW => (fx W hW).2
          have hbH : Hid (b < w3.heap.size) := hb
          clear fx hx hnx' gx hb hp
          by_cases hk0 : k2 = 0
          · have hkz : ((k2 : Int) == 0) = true := by simp; omega
            have hk0H : Hid (k2 = 0) := hk0
            clear hk0
            obtain ⟨a0, _, _, _, _, _, _⟩ := hat.out wr hD0.out.bl
            go_wp2_with fail
            go_quiet (fail)
            generalize hwq : World.drewN wr _ = wq
            have hD : Hid (OD1 w3 l out k2 (.slice a3 z c3) L wq) := hD0.out.below (hwq ▸ bdrewB (Below.refl _ wr) _)
            clear hD0 hwq a0
            -- the sample goes in (world wq, state hD)
            obtain ⟨a0, x1, x2, x3, x4, x5, x6⟩ := hat.out wq hD.out.bl
            have pc := hP3.out wq hD.out.bl
            have serx : SerIn wq tx x.s := (hser.out wq hD.out.bl)
            have bA : Below wq.heap.size wq (wq.alloc (.cells #[.string x.s.m, .slice tx nx cx, .string x.s.f, .int .i64 x.tm, .int .u8 (x.kd : Int), .int .i64 x.n] 37)) := (Below.refl _ wq).alloc (Nat.le_refl _) _
            have CC : Hid (Calls Try.prog 34 #[.slice tx nx cx] (wq.alloc (.cells #[.string x.s.m, .slice tx nx cx, .string x.s.f, .int .i64 x.tm, .int .u8 (x.kd : Int), .int .i64 x.n] 37)) fun e w9 => ∃ a' c', e = .returned (.slice a' nx c') ∧ TgIn w9 a' x.s.t ∧ (∀ ad, a' = some ad → wq.heap.size + 1 ≤ ad.block) ∧ Below (wq.heap.size + 1) (wq.alloc (.cells #[.string x.s.m, .slice tx nx cx, .string x.s.f, .int .i64 x.tm, .int .u8 (x.kd : Int), .int .i64 x.n] 37)) w9) := by
              have := cloneW_any tx cx x.s.t (wq.alloc (.cells #[.string x.s.m, .slice tx nx cx, .string x.s.f, .int .i64 x.tm, .int .u8 (x.kd : Int), .int .i64 x.n] 37)) ((serx.belowW bA).1) hxt
              rw [hnx.out] at this
              rw [show (wq.alloc (.cells #[.string x.s.m, .slice tx nx cx, .string x.s.f, .int .i64 x.tm, .int .u8 (x.kd : Int), .int .i64 x.n] 37)).heap.size = wq.heap.size + 1 by simp] at this
              exact this
            have hfin : Hid (∀ (a' : Option Addr) (c' : Nat) (w5 : World), TgIn w5 a' x.s.t → (∀ ad, a' = some ad → wq.heap.size + 1 ≤ ad.block) → Below (wq.heap.size + 1) (wq.alloc (.cells #[.string x.s.m, .slice tx nx cx, .string x.s.f, .int .i64 x.tm, .int .u8 (x.kd : Int), .int .i64 x.n] 37)) w5 → ∃ a4 z4 c4 L4 w6, (Builtin.append_ #[28, 28] 28 #[.slice a3 z c3, .slice (some ⟨w5.heap.size, 0, none⟩) 1 1]).run Try.prog ((w5.setCell ⟨wq.heap.size, 1, none⟩ (.slice a' nx c')).alloc (.cells #[.string x.s.m, .slice a' nx c', .string x.s.f, .int .i64 x.tm, .int .u8 (x.kd : Int), .int .i64 x.n] 37)) = .ok (.slice a4 z4 c4) w6 ∧ OD1 w3 l out (k2 + 1) (.slice a4 z4 c4) L4 w6) := fun a' c' w5 t5 n5 b5 => by
              have sz : (wq.alloc (.cells #[.string x.s.m, .slice tx nx cx, .string x.s.f, .int .i64 x.tm, .int .u8 (x.kd : Int), .int .i64 x.n] 37)).heap.size = wq.heap.size + 1 := by simp
              have b5w : Below wq.heap.size wq w5 := bA.trans (b5.mono (by omega))
              have b5s : Below wq.heap.size wq (w5.setCell ⟨wq.heap.size, 1, none⟩ (.slice a' nx c')) := b5w.setCell (p := ⟨wq.heap.size, 1, none⟩) (Nat.le_refl _) _
              have hD5 := hD.out.below b5s
              have hts : TgIn (w5.setCell ⟨wq.heap.size, 1, none⟩ (.slice a' nx c')) a' x.s.t := by
                rcases t5 with q | ⟨bb, oo, q1, q2, q3⟩
                · exact Or.inl q
                · have q4 := n5 _ q1
                  simp only at q4
                  refine Or.inr ⟨bb, oo, q1, by simpa using q2, fun i t ht => ?_⟩
                  obtain ⟨r1, r2⟩ := q3 i t ht
                  exact ⟨by rw [World.cell?_setCell_other _ _ _ _ (by intro e; injection e; omega)]; exact r1, by rw [World.cell?_setCell_other _ _ _ _ (by intro e; injection e; omega)]; exact r2⟩
              have lz : L.length = z := by
                obtain ⟨_, _, e, _⟩ := hD.out.row.1.win
                injection e with _ e _
                exact e.symm
              have few : L.length ≤ k2 := by
                have := ordL_len l out k2
                rw [← hD.out.is, List.length_map] at this
                exact this
              obtain ⟨a4, c4, w6, q1, q2, q3⟩ := app2W _ w3.heap.size (.slice a3 z c3) L hD5.row (Nat.le_trans hD.out.bl.size b5s.size) (x, a', c') ⟨hts, serx.2⟩ (fun _ ad had => ⟨fun e => by
                have h1 := n5 ad had
                rcases hD.out.row.1.1.2 with ⟨e1, _⟩ | ⟨g, _, _, e1, _, e3, _⟩
                · rw [e1] at e; cases e
                · rw [e1] at e
                  have h2 : g = ad.block := by simpa [Value.ownBlock] using e
                  have h3 := (Array.getElem?_eq_some_iff.1 e3).1
                  omega, by have f1 := n5 ad had; have f2 := hD.out.bl.size; omega⟩) (by omega)
              refine ⟨a4, L.length + 1, c4, L ++ [(x, a', c')], w6, ?_, q2, ?_, ?_⟩
              · have s5 : (w5.setCell ⟨wq.heap.size, 1, none⟩ (.slice a' nx c')).heap.size = w5.heap.size := by simp
                rw [s5] at q1
                simp only [hnx.out] at q1
                exact q1
              · rw [List.map_append, hD.out.is, ordL_new hpH.out (Or.inl hk0H.out)]
                congr 1
                show [x] = _
                rw [hxl.out]
              · exact hD5.bl.trans q3
            have hwb : Hid (∀ w5, Below (wq.heap.size + 1) (wq.alloc (.cells #[.string x.s.m, .slice tx nx cx, .string x.s.f, .int .i64 x.tm, .int .u8 (x.kd : Int), .int .i64 x.n] 37)) w5 → (w5.cell? ⟨wq.heap.size, 0, none⟩ = some (.string x.s.m) ∧ w5.cell? ⟨wq.heap.size, 1, none⟩ = some (.slice tx nx cx) ∧ w5.cell? ⟨wq.heap.size, 2, none⟩ = some (.string x.s.f) ∧ w5.cell? ⟨wq.heap.size, 3, none⟩ = some (.int .i64 x.tm) ∧ w5.cell? ⟨wq.heap.size, 4, none⟩ = some (.int .u8 (x.kd : Int)) ∧ w5.cell? ⟨wq.heap.size, 5, none⟩ = some (.int .i64 x.n)) ∧ w5.frozen? ⟨wq.heap.size, 1, none⟩ = false) := fun w5 b5 => by
              refine ⟨⟨?_, ?_, ?_, ?_, ?_, ?_⟩, ?_⟩
              · rw [b5.cell (p := ⟨wq.heap.size, 0, none⟩) (by show wq.heap.size < _; omega)]; simp [go_sem]
              · rw [b5.cell (p := ⟨wq.heap.size, 1, none⟩) (by show wq.heap.size < _; omega)]; simp [go_sem]
              · rw [b5.cell (p := ⟨wq.heap.size, 2, none⟩) (by show wq.heap.size < _; omega)]; simp [go_sem]
              · rw [b5.cell (p := ⟨wq.heap.size, 3, none⟩) (by show wq.heap.size < _; omega)]; simp [go_sem]
              · rw [b5.cell (p := ⟨wq.heap.size, 4, none⟩) (by show wq.heap.size < _; omega)]; simp [go_sem]
              · rw [b5.cell (p := ⟨wq.heap.size, 5, none⟩) (by show wq.heap.size < _; omega)]; simp [go_sem]
              · rw [b5.frozen (p := ⟨wq.heap.size, 1, none⟩) (by show wq.heap.size < _; omega)]; simp [go_sem]
            clear serx bA hD
            go_wp2_with fail
            refine Calls.mono CC.out ?_
            rintro e w5 ⟨a', c', rfl, t5, n5, b5⟩
            obtain ⟨⟨y1, y2, y3, y4, y5, y6⟩, y7⟩ := hwb.out w5 b5
            obtain ⟨a4, z4, c4, L4, w6, hr6, hD6⟩ := hfin.out a' c' w5 t5 n5 b5
            have hrH : Hid (∀ W, W = (w5.setCell ⟨wq.heap.size, 1, none⟩ (.slice a' nx c')).alloc (.cells #[.string x.s.m, .slice a' nx c', .string x.s.f, .int .i64 x.tm, .int .u8 (x.kd : Int), .int .i64 x.n] 37) → (Builtin.append_ #[28, 28] 28 #[.slice a3 z c3, .slice (some ⟨w5.heap.size, 0, none⟩) 1 1]).run Try.prog W = .ok (.slice a4 z4 c4) w6) := fun W e => by subst e; exact hr6
            have hD6H : Hid (OD1 w3 l out (k2 + 1) (.slice a4 z4 c4) L4 w6) := hD6
            clear t5 n5 b5 CC hwb hfin hr6 hD6 a0 pc x1 x2 x3 x4 x5 x6
            go_wp2_with (at_builtin; refine wpList_append_runB (by rfl) _ _ _ (by rfl) _ _ _ _ (by rfl) (by rfl) (hrH.out _ rfl) ?_)
            exact ⟨⟨k2 + 1, z4, c4, a4, L4, rfl, by first | rfl | simp, by omega, hD6H⟩, by simp [intOf]; omega⟩
          · have hkz : ((k2 : Int) == 0) = false := by simp; omega
            obtain ⟨q, hq⟩ : ∃ q, out[k2 - 1]? = some q := ⟨_, List.getElem?_eq_getElem (by have := hM.out; omega)⟩
            have hqH : Hid (out[k2 - 1]? = some q) := hq
            have hqn : q < k := (hsH.out.all q).1 (List.mem_of_getElem? hq)
            have q0 : (0 : Int) ≤ (q : Int) := by omega
            have qI : (q : Int) < (k : Int) := by omega
            have kv : IntKind.i64.wrap ((k2 : Int) - 1) = (k2 : Int) - 1 := IntWalk.i64_in _ (by omega)
            have k3 : (0 : Int) ≤ (k2 : Int) - 1 := by omega
            have k4 : (k2 : Int) - 1 < (m : Int) := by omega
            have k5 : (1 : Int) ≤ (k2 : Int) := by omega
            have gy : l[q]? = some (atW l q) := atW_some (by rw [hN.out]; exact hqn)
            obtain ⟨b', off', ty, cy, e2, _, _, fy⟩ := (hlH.out.below B3.out).at (Below.refl _ _) gy
            injection e2 with e2
            injection e2 with e3 e4
            subst e3 e4
            obtain ⟨y, hy⟩ : ∃ y, atW l q = y := ⟨_, rfl⟩
            rw [hy] at fy
            have hyl : Hid (y = atW l q) := hy.symm
            obtain ⟨ny, hny⟩ : ∃ ny, y.s.t.length = ny := ⟨_, rfl⟩
            have hay : Hid (∀ W, Below w3.heap.size w3 W → W.cell? ⟨g, k2 - 1, none⟩ = some (.int .i64 (q : Int)) ∧ W.cell? ⟨b, off + q * 6, none⟩ = some (.string y.s.m) ∧ W.cell? ⟨b, off + q * 6 + 1, none⟩ = some (.slice ty ny cy) ∧ W.cell? ⟨b, off + q * 6 + 2, none⟩ = some (.string y.s.f) ∧ W.cell? ⟨b, off + q * 6 + 3, none⟩ = some (.int .i64 y.tm) ∧ W.cell? ⟨b, off + q * 6 + 4, none⟩ = some (.int .u8 (y.kd : Int)) ∧ W.cell? ⟨b, off + q * 6 + 5, none⟩ = some (.int .i64 y.n)) := fun W hW => ⟨hcH.out (k2 - 1) q W hq hW, by have := (fy W hW).1; unfold WAt at this; rw [hny] at this; exact this⟩
            have CH : Hid (∀ W, Below w3.heap.size w3 W → Calls Try.prog 33 #[.agg #[.string y.s.m, .slice ty ny cy, .string y.s.f, .int .i64 y.tm, .int .u8 (y.kd : Int), .int .i64 y.n], .agg #[.string x.s.m, .slice tx nx cx, .string x.s.f, .int .i64 x.tm, .int .u8 (x.kd : Int), .int .i64 x.n]] W fun e w' => e = .returned (.int .i64 (wC y x)) ∧ Below W.heap.size W w') := fun W hW => by
              have := bcompare_any y x ty tx cy cx W (fy W hW).2 (hser.out W hW)
              unfold wV at this
              rw [hny, hnx.out] at this
              exact this
            obtain ⟨a0, x1, x2, x3, x4, x5, x6⟩ := hat.out wr hD0.out.bl
            obtain ⟨b0', y1, y2, y3, y4, y5, y6⟩ := hay.out wr hD0.out.bl
            have pc := hP3.out wr hD0.out.bl
            have pl : P1 < wr.heap.size := Nat.lt_of_lt_of_le ple.out.1 hD0.out.bl.size
            have gl : g < wr.heap.size := Nat.lt_of_lt_of_le ple.out.2 hD0.out.bl.size
            have bl : b < wr.heap.size := Nat.lt_of_lt_of_le hbH.out hD0.out.bl.size
            obtain ⟨cv, hcv⟩ : ∃ cv, wC y x = cv := ⟨_, rfl⟩
            rw [hcv] at CH
            have hcvH : Hid (wC y x = cv) := hcv
            clear fy hy hny gy hq hcv hay
            by_cases hc0 : cv = 0
            · have hcb : (cv == 0) = true := by simpa using hc0
              have nx2 : Hid (ordL l out (k2 + 1) = ordL l out k2) := ordL_skip (by omega) hqH.out hpH.out (by rw [← hxl.out, ← hyl.out, hcvH.out]; exact hc0)
              clear hc0
              go_wp2_with fail
              refine wp_region_noPanic ?_
              refine wp_region_held_drew (S := fun W => ((W.cell? ⟨P1, 0, none⟩ = some (.slice (some ⟨b, off, none⟩) k c) ∧ W.cell? ⟨g, k2 - 1, none⟩ = some (.int .i64 (q : Int))) ∧ W.cell? ⟨b, off + q * 6, none⟩ = some (.string y.s.m) ∧ W.cell? ⟨b, off + q * 6 + 1, none⟩ = some (.slice ty ny cy) ∧ W.cell? ⟨b, off + q * 6 + 2, none⟩ = some (.string y.s.f) ∧ W.cell? ⟨b, off + q * 6 + 3, none⟩ = some (.int .i64 y.tm) ∧ W.cell? ⟨b, off + q * 6 + 4, none⟩ = some (.int .u8 (y.kd : Int)) ∧ W.cell? ⟨b, off + q * 6 + 5, none⟩ = some (.int .i64 y.n)) ∧ W.cell? ⟨b, off + p * 6, none⟩ = some (.string x.s.m) ∧ W.cell? ⟨b, off + p * 6 + 1, none⟩ = some (.slice tx nx cx) ∧ W.cell? ⟨b, off + p * 6 + 2, none⟩ = some (.string x.s.f) ∧ W.cell? ⟨b, off + p * 6 + 3, none⟩ = some (.int .i64 x.tm) ∧ W.cell? ⟨b, off + p * 6 + 4, none⟩ = some (.int .u8 (x.kd : Int)) ∧ W.cell? ⟨b, off + p * 6 + 5, none⟩ = some (.int .i64 x.n)) (by kernel_rfl) ⟨⟨⟨pc, b0'⟩, y1, y2, y3, y4, y5, y6⟩, x1, x2, x3, x4, x5, x6⟩ (fun hHeld => ?_)
              refine wpAnyH_take (i := 0) (oi := _) (v := ?_) rfl (by kernel_rfl) (by kernel_rfl) (by kernel_rfl) (fun _ _ _ h => h) (Or.inl ⟨by rfl, ?_⟩) (by assumption) ?_
              rotate_left 1
              · (intro w0 hSw; (try dsimp only at hSw); obtain ⟨⟨⟨s0, s00⟩, s1, s2, s3, s4, s5, s6⟩, t1, t2, t3, t4, t5, t6⟩ := hSw; go_simp; try with_reducible rfl)
              (try simp only [List.getElem_toArray, List.getElem_cons_succ, List.getElem_cons_zero]); (try simp only [Act.put, List.setIfInBounds_toArray, List.set_cons_zero, List.set_cons_succ])
              refine wpAnyH_take (i := 1) (oi := _) (v := ?_) rfl (by kernel_rfl) (by kernel_rfl) (by kernel_rfl) (fun _ _ _ h => h) (Or.inl ⟨by rfl, ?_⟩) (by assumption) ?_
              rotate_left 1
              · (intro w0 hSw; (try dsimp only at hSw); obtain ⟨⟨⟨s0, s00⟩, s1, s2, s3, s4, s5, s6⟩, t1, t2, t3, t4, t5, t6⟩ := hSw; go_simp; try with_reducible rfl)
              (try simp only [List.getElem_toArray, List.getElem_cons_succ, List.getElem_cons_zero]); (try simp only [Act.put, List.setIfInBounds_toArray, List.set_cons_zero, List.set_cons_succ])
              refine wpAnyH_take (i := 2) (oi := _) (v := ?_) rfl (by kernel_rfl) (by kernel_rfl) (by kernel_rfl) (fun _ _ _ h => h) (Or.inl ⟨by rfl, ?_⟩) (by assumption) ?_
              rotate_left 1
              · (intro w0 hSw; (try dsimp only at hSw); obtain ⟨⟨⟨s0, s00⟩, s1, s2, s3, s4, s5, s6⟩, t1, t2, t3, t4, t5, t6⟩ := hSw; go_simp; try with_reducible rfl)
              (try simp only [List.getElem_toArray, List.getElem_cons_succ, List.getElem_cons_zero]); (try simp only [Act.put, List.setIfInBounds_toArray, List.set_cons_zero, List.set_cons_succ])
              refine wpAnyH_take (i := 3) (oi := _) (v := ?_) rfl (by kernel_rfl) (by kernel_rfl) (by kernel_rfl) (fun _ _ _ h => h) (Or.inl ⟨by rfl, ?_⟩) (by assumption) ?_
              rotate_left 1
              · (intro w0 hSw; (try dsimp only at hSw); obtain ⟨⟨⟨s0, s00⟩, s1, s2, s3, s4, s5, s6⟩, t1, t2, t3, t4, t5, t6⟩ := hSw; go_simp; try with_reducible rfl)
              (try simp only [List.getElem_toArray, List.getElem_cons_succ, List.getElem_cons_zero]); (try simp only [Act.put, List.setIfInBounds_toArray, List.set_cons_zero, List.set_cons_succ])
              refine wpAnyH_take (i := 4) (oi := _) (v := ?_) rfl (by kernel_rfl) (by kernel_rfl) (by kernel_rfl) (fun _ _ _ h => h) (Or.inl ⟨by rfl, ?_⟩) (by assumption) ?_
              rotate_left 1
              · (intro w0 hSw; (try dsimp only at hSw); obtain ⟨⟨⟨s0, s00⟩, s1, s2, s3, s4, s5, s6⟩, t1, t2, t3, t4, t5, t6⟩ := hSw; go_simp; try with_reducible rfl)
              (try simp only [List.getElem_toArray, List.getElem_cons_succ, List.getElem_cons_zero]); (try simp only [Act.put, List.setIfInBounds_toArray, List.set_cons_zero, List.set_cons_succ])
              refine wpAnyH_take (i := 5) (oi := _) (v := ?_) rfl (by kernel_rfl) (by kernel_rfl) (by kernel_rfl) (fun _ _ _ h => h) (Or.inl ⟨by rfl, ?_⟩) (by assumption) ?_
              rotate_left 1
              · (intro w0 hSw; (try dsimp only at hSw); obtain ⟨⟨⟨s0, s00⟩, s1, s2, s3, s4, s5, s6⟩, t1, t2, t3, t4, t5, t6⟩ := hSw; go_simp; try with_reducible rfl)
              (try simp only [List.getElem_toArray, List.getElem_cons_succ, List.getElem_cons_zero]); (try simp only [Act.put, List.setIfInBounds_toArray, List.set_cons_zero, List.set_cons_succ])
              refine wpAnyH_take (i := 6) (oi := _) (v := ?_) rfl (by kernel_rfl) (by kernel_rfl) (by kernel_rfl) (fun _ _ _ h => h) (Or.inl ⟨by rfl, ?_⟩) (by assumption) ?_
              rotate_left 1
              · (intro w0 hSw; (try dsimp only at hSw); obtain ⟨⟨⟨s0, s00⟩, s1, s2, s3, s4, s5, s6⟩, t1, t2, t3, t4, t5, t6⟩ := hSw; go_simp; try with_reducible rfl)
              (try simp only [List.getElem_toArray, List.getElem_cons_succ, List.getElem_cons_zero]); (try simp only [Act.put, List.setIfInBounds_toArray, List.set_cons_zero, List.set_cons_succ])
              refine wpAnyH_take (i := 7) (oi := _) (v := ?_) rfl (by kernel_rfl) (by kernel_rfl) (by kernel_rfl) (fun _ _ _ h => h) (Or.inl ⟨by rfl, ?_⟩) (by assumption) ?_
              rotate_left 1
              · (intro w0 hSw; (try dsimp only at hSw); obtain ⟨⟨⟨s0, s00⟩, s1, s2, s3, s4, s5, s6⟩, t1, t2, t3, t4, t5, t6⟩ := hSw; go_simp; try with_reducible rfl)
              (try simp only [List.getElem_toArray, List.getElem_cons_succ, List.getElem_cons_zero]); (try simp only [Act.put, List.setIfInBounds_toArray, List.set_cons_zero, List.set_cons_succ])
              refine wpAnyH_take (i := 8) (oi := _) (v := ?_) rfl (by kernel_rfl) (by kernel_rfl) (by kernel_rfl) (fun _ _ _ h => h) (Or.inl ⟨by rfl, ?_⟩) (by assumption) ?_
              rotate_left 1
              · (intro w0 hSw; (try dsimp only at hSw); obtain ⟨⟨⟨s0, s00⟩, s1, s2, s3, s4, s5, s6⟩, t1, t2, t3, t4, t5, t6⟩ := hSw; go_simp; try with_reducible rfl)
              (try simp only [List.getElem_toArray, List.getElem_cons_succ, List.getElem_cons_zero]); (try simp only [Act.put, List.setIfInBounds_toArray, List.set_cons_zero, List.set_cons_succ])
              refine wpAnyH_take (i := 9) (oi := _) (v := ?_) rfl (by kernel_rfl) (by kernel_rfl) (by kernel_rfl) (fun _ _ _ h => h) (Or.inl ⟨by rfl, ?_⟩) (by assumption) ?_
              rotate_left 1
              · (intro w0 hSw; (try dsimp only at hSw); obtain ⟨⟨⟨s0, s00⟩, s1, s2, s3, s4, s5, s6⟩, t1, t2, t3, t4, t5, t6⟩ := hSw; go_simp; try with_reducible rfl)
              (try simp only [List.getElem_toArray, List.getElem_cons_succ, List.getElem_cons_zero]); (try simp only [Act.put, List.setIfInBounds_toArray, List.set_cons_zero, List.set_cons_succ])
              refine wpAnyH_take (i := 10) (oi := _) (v := ?_) rfl (by kernel_rfl) (by kernel_rfl) (by kernel_rfl) (fun _ _ _ h => h) (Or.inl ⟨by rfl, ?_⟩) (by assumption) ?_
              rotate_left 1
              · (intro w0 hSw; (try dsimp only at hSw); obtain ⟨⟨⟨s0, s00⟩, s1, s2, s3, s4, s5, s6⟩, t1, t2, t3, t4, t5, t6⟩ := hSw; go_simp; try with_reducible rfl)
              (try simp only [List.getElem_toArray, List.getElem_cons_succ, List.getElem_cons_zero]); (try simp only [Act.put, List.setIfInBounds_toArray, List.set_cons_zero, List.set_cons_succ])
              refine wpAnyH_take (i := 11) (oi := _) (v := ?_) rfl (by kernel_rfl) (by kernel_rfl) (by kernel_rfl) (fun _ _ _ h => h) (Or.inl ⟨by rfl, ?_⟩) (by assumption) ?_
              rotate_left 1
              · (intro w0 hSw; (try dsimp only at hSw); obtain ⟨⟨⟨s0, s00⟩, s1, s2, s3, s4, s5, s6⟩, t1, t2, t3, t4, t5, t6⟩ := hSw; go_simp; try with_reducible rfl)
              (try simp only [List.getElem_toArray, List.getElem_cons_succ, List.getElem_cons_zero]); (try simp only [Act.put, List.setIfInBounds_toArray, List.set_cons_zero, List.set_cons_succ])
              refine wpAnyH_take (i := 12) (oi := _) (v := ?_) rfl (by kernel_rfl) (by kernel_rfl) (by kernel_rfl) (fun _ _ _ h => h) (Or.inl ⟨by rfl, ?_⟩) (by assumption) ?_
              rotate_left 1
              · (intro w0 hSw; (try dsimp only at hSw); obtain ⟨⟨⟨s0, s00⟩, s1, s2, s3, s4, s5, s6⟩, t1, t2, t3, t4, t5, t6⟩ := hSw; go_simp; try with_reducible rfl)
              (try simp only [List.getElem_toArray, List.getElem_cons_succ, List.getElem_cons_zero]); (try simp only [Act.put, List.setIfInBounds_toArray, List.set_cons_zero, List.set_cons_succ])
              refine wpAnyH_take (i := 13) (oi := _) (v := ?_) rfl (by kernel_rfl) (by kernel_rfl) (by kernel_rfl) (fun _ _ _ h => h) (Or.inl ⟨by rfl, ?_⟩) (by assumption) ?_
              rotate_left 1
              · (intro w0 hSw; (try dsimp only at hSw); obtain ⟨⟨⟨s0, s00⟩, s1, s2, s3, s4, s5, s6⟩, t1, t2, t3, t4, t5, t6⟩ := hSw; go_simp; try with_reducible rfl)
              (try simp only [List.getElem_toArray, List.getElem_cons_succ, List.getElem_cons_zero]); (try simp only [Act.put, List.setIfInBounds_toArray, List.set_cons_zero, List.set_cons_succ])
              refine wpAnyH_take (i := 14) (oi := _) (v := ?_) rfl (by kernel_rfl) (by kernel_rfl) (by kernel_rfl) (fun _ _ _ h => h) (Or.inl ⟨by rfl, ?_⟩) (by assumption) ?_
              rotate_left 1
              · (intro w0 hSw; (try dsimp only at hSw); obtain ⟨⟨⟨s0, s00⟩, s1, s2, s3, s4, s5, s6⟩, t1, t2, t3, t4, t5, t6⟩ := hSw; go_simp; try with_reducible rfl)
              (try simp only [List.getElem_toArray, List.getElem_cons_succ, List.getElem_cons_zero]); (try simp only [Act.put, List.setIfInBounds_toArray, List.set_cons_zero, List.set_cons_succ])
              refine wpAnyH_ready (rs := [15]) (by kernel_rfl) (by simp) ?_
              refine AllReadyH.cons (o := _) rfl (fun K hK => ?_) AllReadyH.nil
              go_simp
              refine Calls.mono (CH.out _ (show Below w3.heap.size w3 wr.drew from hD0.out.bl.drew)) ?_
              rintro e w' ⟨rfl, BB⟩
              try dsimp only
              refine hK _ _ ?_ (fun hHeld => ?_)
              · exact ⟨⟨⟨by rw [BB.cell (p := ⟨P1, 0, none⟩) pl]; exact pc, by rw [BB.cell (p := ⟨g, k2 - 1, none⟩) gl]; exact b0'⟩, by rw [BB.cell (p := ⟨b, off + q * 6, none⟩) bl]; exact y1, by rw [BB.cell (p := ⟨b, off + q * 6 + 1, none⟩) bl]; exact y2, by rw [BB.cell (p := ⟨b, off + q * 6 + 2, none⟩) bl]; exact y3, by rw [BB.cell (p := ⟨b, off + q * 6 + 3, none⟩) bl]; exact y4, by rw [BB.cell (p := ⟨b, off + q * 6 + 4, none⟩) bl]; exact y5, by rw [BB.cell (p := ⟨b, off + q * 6 + 5, none⟩) bl]; exact y6⟩, by rw [BB.cell (p := ⟨b, off + p * 6, none⟩) bl]; exact x1, by rw [BB.cell (p := ⟨b, off + p * 6 + 1, none⟩) bl]; exact x2, by rw [BB.cell (p := ⟨b, off + p * 6 + 2, none⟩) bl]; exact x3, by rw [BB.cell (p := ⟨b, off + p * 6 + 3, none⟩) bl]; exact x4, by rw [BB.cell (p := ⟨b, off + p * 6 + 4, none⟩) bl]; exact x5, by rw [BB.cell (p := ⟨b, off + p * 6 + 5, none⟩) bl]; exact x6⟩
              clear hK K
              (try simp only [List.getElem_toArray, List.getElem_cons_succ, List.getElem_cons_zero]); (try simp only [Act.put, List.setIfInBounds_toArray, List.set_cons_zero, List.set_cons_succ])
              refine wpAnyH_take (i := 16) (oi := _) (v := ?_) rfl (by kernel_rfl) (by kernel_rfl) (by kernel_rfl) (fun _ _ _ h => h) (Or.inl ⟨by rfl, ?_⟩) (by assumption) ?_
              rotate_left 1
              · (intro w0 hSw; (try dsimp only at hSw); obtain ⟨⟨⟨s0, s00⟩, s1, s2, s3, s4, s5, s6⟩, t1, t2, t3, t4, t5, t6⟩ := hSw; go_simp; try with_reducible rfl)
              (try simp only [List.getElem_toArray, List.getElem_cons_succ, List.getElem_cons_zero]); (try simp only [Act.put, List.setIfInBounds_toArray, List.set_cons_zero, List.set_cons_succ])
              refine wpAnyH_take (i := 17) (oi := _) (v := ?_) rfl (by kernel_rfl) (by kernel_rfl) (by kernel_rfl) (fun _ _ _ h => h) (Or.inl ⟨by rfl, ?_⟩) (by assumption) ?_
              rotate_left 1
              · (intro w0 hSw; (try dsimp only at hSw); obtain ⟨⟨⟨s0, s00⟩, s1, s2, s3, s4, s5, s6⟩, t1, t2, t3, t4, t5, t6⟩ := hSw; go_simp; try with_reducible rfl)
              (try simp only [List.getElem_toArray, List.getElem_cons_succ, List.getElem_cons_zero]); (try simp only [Act.put, List.setIfInBounds_toArray, List.set_cons_zero, List.set_cons_succ])
              refine wpAnyH_done (by kernel_rfl) ?_ _
              refine NoPanic.normal ?_
              have hD : Hid (OD1 w3 l out (k2 + 1) (.slice a3 z c3) L w') := by
                have d := hD0.out.below ((show Below wr.heap.size wr wr.drew from (Below.refl _ wr).drew).trans BB)
                exact ⟨d.row, by rw [nx2.out]; exact d.is, d.bl⟩
              clear BB CH hD0 a0 x1 x2 x3 x4 x5 x6 b0' y1 y2 y3 y4 y5 y6 pc hHeld
              go_wp2_with fail
              exact ⟨⟨k2 + 1, z, c3, a3, L, rfl, by first | rfl | simp, by omega, hD⟩, by simp [intOf]; omega⟩
            · have hcb : (cv == 0) = false := by simpa using hc0
              have hne : Hid (wC (atW l q) (atW l p) ≠ 0) := by rw [← hxl.out, ← hyl.out, hcvH.out]; exact hc0
              clear hc0
              go_wp2_with fail
              refine wp_region_noPanic ?_
              refine wp_region_held_drew (S := fun W => ((W.cell? ⟨P1, 0, none⟩ = some (.slice (some ⟨b, off, none⟩) k c) ∧ W.cell? ⟨g, k2 - 1, none⟩ = some (.int .i64 (q : Int))) ∧ W.cell? ⟨b, off + q * 6, none⟩ = some (.string y.s.m) ∧ W.cell? ⟨b, off + q * 6 + 1, none⟩ = some (.slice ty ny cy) ∧ W.cell? ⟨b, off + q * 6 + 2, none⟩ = some (.string y.s.f) ∧ W.cell? ⟨b, off + q * 6 + 3, none⟩ = some (.int .i64 y.tm) ∧ W.cell? ⟨b, off + q * 6 + 4, none⟩ = some (.int .u8 (y.kd : Int)) ∧ W.cell? ⟨b, off + q * 6 + 5, none⟩ = some (.int .i64 y.n)) ∧ W.cell? ⟨b, off + p * 6, none⟩ = some (.string x.s.m) ∧ W.cell? ⟨b, off + p * 6 + 1, none⟩ = some (.slice tx nx cx) ∧ W.cell? ⟨b, off + p * 6 + 2, none⟩ = some (.string x.s.f) ∧ W.cell? ⟨b, off + p * 6 + 3, none⟩ = some (.int .i64 x.tm) ∧ W.cell? ⟨b, off + p * 6 + 4, none⟩ = some (.int .u8 (x.kd : Int)) ∧ W.cell? ⟨b, off + p * 6 + 5, none⟩ = some (.int .i64 x.n)) (by kernel_rfl) ⟨⟨⟨pc, b0'⟩, y1, y2, y3, y4, y5, y6⟩, x1, x2, x3, x4, x5, x6⟩ (fun hHeld => ?_)
              refine wpAnyH_take (i := 0) (oi := _) (v := ?_) rfl (by kernel_rfl) (by kernel_rfl) (by kernel_rfl) (fun _ _ _ h => h) (Or.inl ⟨by rfl, ?_⟩) (by assumption) ?_
              rotate_left 1
              · (intro w0 hSw; (try dsimp only at hSw); obtain ⟨⟨⟨s0, s00⟩, s1, s2, s3, s4, s5, s6⟩, t1, t2, t3, t4, t5, t6⟩ := hSw; go_simp; try with_reducible rfl)
              (try simp only [List.getElem_toArray, List.getElem_cons_succ, List.getElem_cons_zero]); (try simp only [Act.put, List.setIfInBounds_toArray, List.set_cons_zero, List.set_cons_succ])
              refine wpAnyH_take (i := 1) (oi := _) (v := ?_) rfl (by kernel_rfl) (by kernel_rfl) (by kernel_rfl) (fun _ _ _ h => h) (Or.inl ⟨by rfl, ?_⟩) (by assumption) ?_
              rotate_left 1
              · (intro w0 hSw; (try dsimp only at hSw); obtain ⟨⟨⟨s0, s00⟩, s1, s2, s3, s4, s5, s6⟩, t1, t2, t3, t4, t5, t6⟩ := hSw; go_simp; try with_reducible rfl)
              (try simp only [List.getElem_toArray, List.getElem_cons_succ, List.getElem_cons_zero]); (try simp only [Act.put, List.setIfInBounds_toArray, List.set_cons_zero, List.set_cons_succ])
              refine wpAnyH_take (i := 2) (oi := _) (v := ?_) rfl (by kernel_rfl) (by kernel_rfl) (by kernel_rfl) (fun _ _ _ h => h) (Or.inl ⟨by rfl, ?_⟩) (by assumption) ?_
              rotate_left 1
              · (intro w0 hSw; (try dsimp only at hSw); obtain ⟨⟨⟨s0, s00⟩, s1, s2, s3, s4, s5, s6⟩, t1, t2, t3, t4, t5, t6⟩ := hSw; go_simp; try with_reducible rfl)
              (try simp only [List.getElem_toArray, List.getElem_cons_succ, List.getElem_cons_zero]); (try simp only [Act.put, List.setIfInBounds_toArray, List.set_cons_zero, List.set_cons_succ])
              refine wpAnyH_take (i := 3) (oi := _) (v := ?_) rfl (by kernel_rfl) (by kernel_rfl) (by kernel_rfl) (fun _ _ _ h => h) (Or.inl ⟨by rfl, ?_⟩) (by assumption) ?_
              rotate_left 1
              · (intro w0 hSw; (try dsimp only at hSw); obtain ⟨⟨⟨s0, s00⟩, s1, s2, s3, s4, s5, s6⟩, t1, t2, t3, t4, t5, t6⟩ := hSw; go_simp; try with_reducible rfl)
              (try simp only [List.getElem_toArray, List.getElem_cons_succ, List.getElem_cons_zero]); (try simp only [Act.put, List.setIfInBounds_toArray, List.set_cons_zero, List.set_cons_succ])
              refine wpAnyH_take (i := 4) (oi := _) (v := ?_) rfl (by kernel_rfl) (by kernel_rfl) (by kernel_rfl) (fun _ _ _ h => h) (Or.inl ⟨by rfl, ?_⟩) (by assumption) ?_
              rotate_left 1
              · (intro w0 hSw; (try dsimp only at hSw); obtain ⟨⟨⟨s0, s00⟩, s1, s2, s3, s4, s5, s6⟩, t1, t2, t3, t4, t5, t6⟩ := hSw; go_simp; try with_reducible rfl)
              (try simp only [List.getElem_toArray, List.getElem_cons_succ, List.getElem_cons_zero]); (try simp only [Act.put, List.setIfInBounds_toArray, List.set_cons_zero, List.set_cons_succ])
              refine wpAnyH_take (i := 5) (oi := _) (v := ?_) rfl (by kernel_rfl) (by kernel_rfl) (by kernel_rfl) (fun _ _ _ h => h) (Or.inl ⟨by rfl, ?_⟩) (by assumption) ?_
              rotate_left 1
              · (intro w0 hSw; (try dsimp only at hSw); obtain ⟨⟨⟨s0, s00⟩, s1, s2, s3, s4, s5, s6⟩, t1, t2, t3, t4, t5, t6⟩ := hSw; go_simp; try with_reducible rfl)
              (try simp only [List.getElem_toArray, List.getElem_cons_succ, List.getElem_cons_zero]); (try simp only [Act.put, List.setIfInBounds_toArray, List.set_cons_zero, List.set_cons_succ])
              refine wpAnyH_take (i := 6) (oi := _) (v := ?_) rfl (by kernel_rfl) (by kernel_rfl) (by kernel_rfl) (fun _ _ _ h => h) (Or.inl ⟨by rfl, ?_⟩) (by assumption) ?_
              rotate_left 1
              · (intro w0 hSw; (try dsimp only at hSw); obtain ⟨⟨⟨s0, s00⟩, s1, s2, s3, s4, s5, s6⟩, t1, t2, t3, t4, t5, t6⟩ := hSw; go_simp; try with_reducible rfl)
              (try simp only [List.getElem_toArray, List.getElem_cons_succ, List.getElem_cons_zero]); (try simp only [Act.put, List.setIfInBounds_toArray, List.set_cons_zero, List.set_cons_succ])
              refine wpAnyH_take (i := 7) (oi := _) (v := ?_) rfl (by kernel_rfl) (by kernel_rfl) (by kernel_rfl) (fun _ _ _ h => h) (Or.inl ⟨by rfl, ?_⟩) (by assumption) ?_
              rotate_left 1
              · (intro w0 hSw; (try dsimp only at hSw); obtain ⟨⟨⟨s0, s00⟩, s1, s2, s3, s4, s5, s6⟩, t1, t2, t3, t4, t5, t6⟩ := hSw; go_simp; try with_reducible rfl)
              (try simp only [List.getElem_toArray, List.getElem_cons_succ, List.getElem_cons_zero]); (try simp only [Act.put, List.setIfInBounds_toArray, List.set_cons_zero, List.set_cons_succ])
              refine wpAnyH_take (i := 8) (oi := _) (v := ?_) rfl (by kernel_rfl) (by kernel_rfl) (by kernel_rfl) (fun _ _ _ h => h) (Or.inl ⟨by rfl, ?_⟩) (by assumption) ?_
              rotate_left 1
              · (intro w0 hSw; (try dsimp only at hSw); obtain ⟨⟨⟨s0, s00⟩, s1, s2, s3, s4, s5, s6⟩, t1, t2, t3, t4, t5, t6⟩ := hSw; go_simp; try with_reducible rfl)
              (try simp only [List.getElem_toArray, List.getElem_cons_succ, List.getElem_cons_zero]); (try simp only [Act.put, List.setIfInBounds_toArray, List.set_cons_zero, List.set_cons_succ])
              refine wpAnyH_take (i := 9) (oi := _) (v := ?_) rfl (by kernel_rfl) (by kernel_rfl) (by kernel_rfl) (fun _ _ _ h => h) (Or.inl ⟨by rfl, ?_⟩) (by assumption) ?_
              rotate_left 1
              · (intro w0 hSw; (try dsimp only at hSw); obtain ⟨⟨⟨s0, s00⟩, s1, s2, s3, s4, s5, s6⟩, t1, t2, t3, t4, t5, t6⟩ := hSw; go_simp; try with_reducible rfl)
              (try simp only [List.getElem_toArray, List.getElem_cons_succ, List.getElem_cons_zero]); (try simp only [Act.put, List.setIfInBounds_toArray, List.set_cons_zero, List.set_cons_succ])
              refine wpAnyH_take (i := 10) (oi := _) (v := ?_) rfl (by kernel_rfl) (by kernel_rfl) (by kernel_rfl) (fun _ _ _ h => h) (Or.inl ⟨by rfl, ?_⟩) (by assumption) ?_
              rotate_left 1
              · (intro w0 hSw; (try dsimp only at hSw); obtain ⟨⟨⟨s0, s00⟩, s1, s2, s3, s4, s5, s6⟩, t1, t2, t3, t4, t5, t6⟩ := hSw; go_simp; try with_reducible rfl)
              (try simp only [List.getElem_toArray, List.getElem_cons_succ, List.getElem_cons_zero]); (try simp only [Act.put, List.setIfInBounds_toArray, List.set_cons_zero, List.set_cons_succ])
              refine wpAnyH_take (i := 11) (oi := _) (v := ?_) rfl (by kernel_rfl) (by kernel_rfl) (by kernel_rfl) (fun _ _ _ h => h) (Or.inl ⟨by rfl, ?_⟩) (by assumption) ?_
              rotate_left 1
              · (intro w0 hSw; (try dsimp only at hSw); obtain ⟨⟨⟨s0, s00⟩, s1, s2, s3, s4, s5, s6⟩, t1, t2, t3, t4, t5, t6⟩ := hSw; go_simp; try with_reducible rfl)
              (try simp only [List.getElem_toArray, List.getElem_cons_succ, List.getElem_cons_zero]); (try simp only [Act.put, List.setIfInBounds_toArray, List.set_cons_zero, List.set_cons_succ])
              refine wpAnyH_take (i := 12) (oi := _) (v := ?_) rfl (by kernel_rfl) (by kernel_rfl) (by kernel_rfl) (fun _ _ _ h => h) (Or.inl ⟨by rfl, ?_⟩) (by assumption) ?_
              rotate_left 1
              · (intro w0 hSw; (try dsimp only at hSw); obtain ⟨⟨⟨s0, s00⟩, s1, s2, s3, s4, s5, s6⟩, t1, t2, t3, t4, t5, t6⟩ := hSw; go_simp; try with_reducible rfl)
              (try simp only [List.getElem_toArray, List.getElem_cons_succ, List.getElem_cons_zero]); (try simp only [Act.put, List.setIfInBounds_toArray, List.set_cons_zero, List.set_cons_succ])
              refine wpAnyH_take (i := 13) (oi := _) (v := ?_) rfl (by kernel_rfl) (by kernel_rfl) (by kernel_rfl) (fun _ _ _ h => h) (Or.inl ⟨by rfl, ?_⟩) (by assumption) ?_
              rotate_left 1
              · (intro w0 hSw; (try dsimp only at hSw); obtain ⟨⟨⟨s0, s00⟩, s1, s2, s3, s4, s5, s6⟩, t1, t2, t3, t4, t5, t6⟩ := hSw; go_simp; try with_reducible rfl)
              (try simp only [List.getElem_toArray, List.getElem_cons_succ, List.getElem_cons_zero]); (try simp only [Act.put, List.setIfInBounds_toArray, List.set_cons_zero, List.set_cons_succ])
              refine wpAnyH_take (i := 14) (oi := _) (v := ?_) rfl (by kernel_rfl) (by kernel_rfl) (by kernel_rfl) (fun _ _ _ h => h) (Or.inl ⟨by rfl, ?_⟩) (by assumption) ?_
              rotate_left 1
              · (intro w0 hSw; (try dsimp only at hSw); obtain ⟨⟨⟨s0, s00⟩, s1, s2, s3, s4, s5, s6⟩, t1, t2, t3, t4, t5, t6⟩ := hSw; go_simp; try with_reducible rfl)
              (try simp only [List.getElem_toArray, List.getElem_cons_succ, List.getElem_cons_zero]); (try simp only [Act.put, List.setIfInBounds_toArray, List.set_cons_zero, List.set_cons_succ])
              refine wpAnyH_ready (rs := [15]) (by kernel_rfl) (by simp) ?_
              refine AllReadyH.cons (o := _) rfl (fun K hK => ?_) AllReadyH.nil
              go_simp
              refine Calls.mono (CH.out _ (show Below w3.heap.size w3 wr.drew from hD0.out.bl.drew)) ?_
              rintro e w' ⟨rfl, BB⟩
              try dsimp only
              refine hK _ _ ?_ (fun hHeld => ?_)
              · exact ⟨⟨⟨by rw [BB.cell (p := ⟨P1, 0, none⟩) pl]; exact pc, by rw [BB.cell (p := ⟨g, k2 - 1, none⟩) gl]; exact b0'⟩, by rw [BB.cell (p := ⟨b, off + q * 6, none⟩) bl]; exact y1, by rw [BB.cell (p := ⟨b, off + q * 6 + 1, none⟩) bl]; exact y2, by rw [BB.cell (p := ⟨b, off + q * 6 + 2, none⟩) bl]; exact y3, by rw [BB.cell (p := ⟨b, off + q * 6 + 3, none⟩) bl]; exact y4, by rw [BB.cell (p := ⟨b, off + q * 6 + 4, none⟩) bl]; exact y5, by rw [BB.cell (p := ⟨b, off + q * 6 + 5, none⟩) bl]; exact y6⟩, by rw [BB.cell (p := ⟨b, off + p * 6, none⟩) bl]; exact x1, by rw [BB.cell (p := ⟨b, off + p * 6 + 1, none⟩) bl]; exact x2, by rw [BB.cell (p := ⟨b, off + p * 6 + 2, none⟩) bl]; exact x3, by rw [BB.cell (p := ⟨b, off + p * 6 + 3, none⟩) bl]; exact x4, by rw [BB.cell (p := ⟨b, off + p * 6 + 4, none⟩) bl]; exact x5, by rw [BB.cell (p := ⟨b, off + p * 6 + 5, none⟩) bl]; exact x6⟩
              clear hK K
              (try simp only [List.getElem_toArray, List.getElem_cons_succ, List.getElem_cons_zero]); (try simp only [Act.put, List.setIfInBounds_toArray, List.set_cons_zero, List.set_cons_succ])
              refine wpAnyH_take (i := 16) (oi := _) (v := ?_) rfl (by kernel_rfl) (by kernel_rfl) (by kernel_rfl) (fun _ _ _ h => h) (Or.inl ⟨by rfl, ?_⟩) (by assumption) ?_
              rotate_left 1
              · (intro w0 hSw; (try dsimp only at hSw); obtain ⟨⟨⟨s0, s00⟩, s1, s2, s3, s4, s5, s6⟩, t1, t2, t3, t4, t5, t6⟩ := hSw; go_simp; try with_reducible rfl)
              (try simp only [List.getElem_toArray, List.getElem_cons_succ, List.getElem_cons_zero]); (try simp only [Act.put, List.setIfInBounds_toArray, List.set_cons_zero, List.set_cons_succ])
              refine wpAnyH_take (i := 17) (oi := _) (v := ?_) rfl (by kernel_rfl) (by kernel_rfl) (by kernel_rfl) (fun _ _ _ h => h) (Or.inl ⟨by rfl, ?_⟩) (by assumption) ?_
              rotate_left 1
              · (intro w0 hSw; (try dsimp only at hSw); obtain ⟨⟨⟨s0, s00⟩, s1, s2, s3, s4, s5, s6⟩, t1, t2, t3, t4, t5, t6⟩ := hSw; go_simp; try with_reducible rfl)
              (try simp only [List.getElem_toArray, List.getElem_cons_succ, List.getElem_cons_zero]); (try simp only [Act.put, List.setIfInBounds_toArray, List.set_cons_zero, List.set_cons_succ])
              refine wpAnyH_done (by kernel_rfl) ?_ _
              refine NoPanic.normal ?_
              have hD : Hid (OD1 w3 l out k2 (.slice a3 z c3) L w') := hD0.out.below ((show Below wr.heap.size wr wr.drew from (Below.refl _ wr).drew).trans BB)
              clear BB CH hD0 a0 x1 x2 x3 x4 x5 x6 b0' y1 y2 y3 y4 y5 y6 pc hHeld hyl hcvH
              -- the sample goes in (world w', state hD)
              obtain ⟨a0, x1, x2, x3, x4, x5, x6⟩ := hat.out w' hD.out.bl
              have pc := hP3.out w' hD.out.bl
              have serx : SerIn w' tx x.s := (hser.out w' hD.out.bl)
              have bA : Below w'.heap.size w' (w'.alloc (.cells #[.string x.s.m, .slice tx nx cx, .string x.s.f, .int .i64 x.tm, .int .u8 (x.kd : Int), .int .i64 x.n] 37)) := (Below.refl _ w').alloc (Nat.le_refl _) _
              have CC : Hid (Calls Try.prog 34 #[.slice tx nx cx] (w'.alloc (.cells #[.string x.s.m, .slice tx nx cx, .string x.s.f, .int .i64 x.tm, .int .u8 (x.kd : Int), .int .i64 x.n] 37)) fun e w9 => ∃ a' c', e = .returned (.slice a' nx c') ∧ TgIn w9 a' x.s.t ∧ (∀ ad, a' = some ad → w'.heap.size + 1 ≤ ad.block) ∧ Below (w'.heap.size + 1) (w'.alloc (.cells #[.string x.s.m, .slice tx nx cx, .string x.s.f, .int .i64 x.tm, .int .u8 (x.kd : Int), .int .i64 x.n] 37)) w9) := by
                have := cloneW_any tx cx x.s.t (w'.alloc (.cells #[.string x.s.m, .slice tx nx cx, .string x.s.f, .int .i64 x.tm, .int .u8 (x.kd : Int), .int .i64 x.n] 37)) ((serx.belowW bA).1) hxt
                rw [hnx.out] at this
                rw [show (w'.alloc (.cells #[.string x.s.m, .slice tx nx cx, .string x.s.f, .int .i64 x.tm, .int .u8 (x.kd : Int), .int .i64 x.n] 37)).heap.size = w'.heap.size + 1 by simp] at this
                exact this
              have hfin : Hid (∀ (a' : Option Addr) (c' : Nat) (w5 : World), TgIn w5 a' x.s.t → (∀ ad, a' = some ad → w'.heap.size + 1 ≤ ad.block) → Below (w'.heap.size + 1) (w'.alloc (.cells #[.string x.s.m, .slice tx nx cx, .string x.s.f, .int .i64 x.tm, .int .u8 (x.kd : Int), .int .i64 x.n] 37)) w5 → ∃ a4 z4 c4 L4 w6, (Builtin.append_ #[28, 28] 28 #[.slice a3 z c3, .slice (some ⟨w5.heap.size, 0, none⟩) 1 1]).run Try.prog ((w5.setCell ⟨w'.heap.size, 1, none⟩ (.slice a' nx c')).alloc (.cells #[.string x.s.m, .slice a' nx c', .string x.s.f, .int .i64 x.tm, .int .u8 (x.kd : Int), .int .i64 x.n] 37)) = .ok (.slice a4 z4 c4) w6 ∧ OD1 w3 l out (k2 + 1) (.slice a4 z4 c4) L4 w6) := fun a' c' w5 t5 n5 b5 => by
                have sz : (w'.alloc (.cells #[.string x.s.m, .slice tx nx cx, .string x.s.f, .int .i64 x.tm, .int .u8 (x.kd : Int), .int .i64 x.n] 37)).heap.size = w'.heap.size + 1 := by simp
                have b5w : Below w'.heap.size w' w5 := bA.trans (b5.mono (by omega))
                have b5s : Below w'.heap.size w' (w5.setCell ⟨w'.heap.size, 1, none⟩ (.slice a' nx c')) := b5w.setCell (p := ⟨w'.heap.size, 1, none⟩) (Nat.le_refl _) _
                have hD5 := hD.out.below b5s
                have hts : TgIn (w5.setCell ⟨w'.heap.size, 1, none⟩ (.slice a' nx c')) a' x.s.t := by
                  rcases t5 with q | ⟨bb, oo, q1, q2, q3⟩
                  · exact Or.inl q
                  · have q4 := n5 _ q1
                    simp only at q4
                    refine Or.inr ⟨bb, oo, q1, by simpa using q2, fun i t ht => ?_⟩
                    obtain ⟨r1, r2⟩ := q3 i t ht
                    exact ⟨by rw [World.cell?_setCell_other _ _ _ _ (by intro e; injection e; omega)]; exact r1, by rw [World.cell?_setCell_other _ _ _ _ (by intro e; injection e; omega)]; exact r2⟩
                have lz : L.length = z := by
                  obtain ⟨_, _, e, _⟩ := hD.out.row.1.win
                  injection e with _ e _
                  exact e.symm
                have few : L.length ≤ k2 := by
                  have := ordL_len l out k2
                  rw [← hD.out.is, List.length_map] at this
                  exact this
                obtain ⟨a4, c4, w6, q1, q2, q3⟩ := app2W _ w3.heap.size (.slice a3 z c3) L hD5.row (Nat.le_trans hD.out.bl.size b5s.size) (x, a', c') ⟨hts, serx.2⟩ (fun _ ad had => ⟨fun e => by
                  have h1 := n5 ad had
                  rcases hD.out.row.1.1.2 with ⟨e1, _⟩ | ⟨g, _, _, e1, _, e3, _⟩
                  · rw [e1] at e; cases e
                  · rw [e1] at e
                    have h2 : g = ad.block := by simpa [Value.ownBlock] using e
                    have h3 := (Array.getElem?_eq_some_iff.1 e3).1
                    omega, by have f1 := n5 ad had; have f2 := hD.out.bl.size; omega⟩) (by omega)
                refine ⟨a4, L.length + 1, c4, L ++ [(x, a', c')], w6, ?_, q2, ?_, ?_⟩
                · have s5 : (w5.setCell ⟨w'.heap.size, 1, none⟩ (.slice a' nx c')).heap.size = w5.heap.size := by simp
                  rw [s5] at q1
                  simp only [hnx.out] at q1
                  exact q1
                · rw [List.map_append, hD.out.is, ordL_new hpH.out (Or.inr ⟨q, hqH.out, hne.out⟩)]
                  congr 1
                  show [x] = _
                  rw [hxl.out]
                · exact hD5.bl.trans q3
              have hwb : Hid (∀ w5, Below (w'.heap.size + 1) (w'.alloc (.cells #[.string x.s.m, .slice tx nx cx, .string x.s.f, .int .i64 x.tm, .int .u8 (x.kd : Int), .int .i64 x.n] 37)) w5 → (w5.cell? ⟨w'.heap.size, 0, none⟩ = some (.string x.s.m) ∧ w5.cell? ⟨w'.heap.size, 1, none⟩ = some (.slice tx nx cx) ∧ w5.cell? ⟨w'.heap.size, 2, none⟩ = some (.string x.s.f) ∧ w5.cell? ⟨w'.heap.size, 3, none⟩ = some (.int .i64 x.tm) ∧ w5.cell? ⟨w'.heap.size, 4, none⟩ = some (.int .u8 (x.kd : Int)) ∧ w5.cell? ⟨w'.heap.size, 5, none⟩ = some (.int .i64 x.n)) ∧ w5.frozen? ⟨w'.heap.size, 1, none⟩ = false) := fun w5 b5 => by
                refine ⟨⟨?_, ?_, ?_, ?_, ?_, ?_⟩, ?_⟩
                · rw [b5.cell (p := ⟨w'.heap.size, 0, none⟩) (by show w'.heap.size < _; omega)]; simp [go_sem]
                · rw [b5.cell (p := ⟨w'.heap.size, 1, none⟩) (by show w'.heap.size < _; omega)]; simp [go_sem]
                · rw [b5.cell (p := ⟨w'.heap.size, 2, none⟩) (by show w'.heap.size < _; omega)]; simp [go_sem]
                · rw [b5.cell (p := ⟨w'.heap.size, 3, none⟩) (by show w'.heap.size < _; omega)]; simp [go_sem]
                · rw [b5.cell (p := ⟨w'.heap.size, 4, none⟩) (by show w'.heap.size < _; omega)]; simp [go_sem]
                · rw [b5.cell (p := ⟨w'.heap.size, 5, none⟩) (by show w'.heap.size < _; omega)]; simp [go_sem]
                · rw [b5.frozen (p := ⟨w'.heap.size, 1, none⟩) (by show w'.heap.size < _; omega)]; simp [go_sem]
              clear serx bA hD
              go_wp2_with fail
              refine Calls.mono CC.out ?_
              rintro e w5 ⟨a', c', rfl, t5, n5, b5⟩
              obtain ⟨⟨y1, y2, y3, y4, y5, y6⟩, y7⟩ := hwb.out w5 b5
              obtain ⟨a4, z4, c4, L4, w6, hr6, hD6⟩ := hfin.out a' c' w5 t5 n5 b5
              have hrH : Hid (∀ W, W = (w5.setCell ⟨w'.heap.size, 1, none⟩ (.slice a' nx c')).alloc (.cells #[.string x.s.m, .slice a' nx c', .string x.s.f, .int .i64 x.tm, .int .u8 (x.kd : Int), .int .i64 x.n] 37) → (Builtin.append_ #[28, 28] 28 #[.slice a3 z c3, .slice (some ⟨w5.heap.size, 0, none⟩) 1 1]).run Try.prog W = .ok (.slice a4 z4 c4) w6) := fun W e => by subst e; exact hr6
              have hD6H : Hid (OD1 w3 l out (k2 + 1) (.slice a4 z4 c4) L4 w6) := hD6
              clear t5 n5 b5 CC hwb hfin hr6 hD6 a0 pc x1 x2 x3 x4 x5 x6
              go_wp2_with (at_builtin; refine wpList_append_runB (by rfl) _ _ _ (by rfl) _ _ _ _ (by rfl) (by rfl) (hrH.out _ rfl) ?_)
              exact ⟨⟨k2 + 1, z4, c4, a4, L4, rfl, by first | rfl | simp, by omega, hD6H⟩, by simp [intOf]; omega⟩
        · have hkI2 : ¬ (k2 : Int) < (m : Int) := by omega
          obtain rfl : k2 = m := by omega
          have fin : Hid (OrdR w wr l (.returned (.slice a3 z c3))) := by
            refine ⟨out, L, _, rfl, by rw [hN.out]; exact hsH.out, ?_, by rw [hM.out]; exact hD0.out.is, B3.out.trans (hD0.out.bl.mono B3.out.size)⟩
            obtain ⟨⟨⟨r1, r2⟩, r3⟩, r4⟩ := hD0.out.row
            refine ⟨⟨⟨r1, ?_⟩, r3⟩, fun t ht he ad had => ⟨(r4 t ht he ad had).1, Nat.le_trans B3.out.size (r4 t ht he ad had).2⟩⟩
            rcases r2 with r | ⟨g', cap, cur, e1, e2, e3, e4⟩
            · exact Or.inl r
            · exact Or.inr ⟨g', cap, cur, e1, Nat.le_trans B3.out.size e2, e3, e4⟩
          clear hD0
          go_wp2_with fail
          go_ret
          exact fin.out
end Go.Proofs.Ytlcppkemiogbeaa.Fr

namespace Go.Proofs.Ytlcppkemiogbeaa.Fr
open Go.RowKit _root_.Go.Proofs.Ytlcppkemiogbeaa.So
set_option linter.unusedVariables false
set_option linter.unusedSimpArgs false
theorem OW2.mono {w : World} {B B' : Nat} {v : Value} {L : List WrA} (h : OW2 w B v L) (hB : B' ≤ B) : OW2 w B' v L := by
  refine ⟨⟨⟨h.1.1.1, ?_⟩, h.1.2⟩, fun t ht he ad had => ⟨(h.2 t ht he ad had).1, Nat.le_trans hB (h.2 t ht he ad had).2⟩⟩
  rcases h.1.1.2 with e | ⟨g, cap, cur, e, hb, r⟩
  · exact Or.inl e
  · exact Or.inr ⟨g, cap, cur, e, Nat.le_trans hB hb, r⟩
theorem OW2.slice {w : World} {B : Nat} {v : Value} {L : List WrA} (h : OW2 w B v L) : ∃ a cap, v = .slice a L.length cap ∧ L.length ≤ cap ∧ WIn w a (L.map (·.1)) := by
  obtain ⟨a, cap, e, hw⟩ := h.1.win
  refine ⟨a, cap, e, ?_, hw⟩
  rcases h.1.1.2 with ⟨e1, e2⟩ | ⟨g, cap', cur, e1, _, _, hc, _⟩
  · rw [e2]; exact Nat.zero_le _
  · rw [e] at e1
    injection e1 with _ _ e3
    omega
def OdR (w w' : World) (l : List WrP) (e : Ending) : Prop := ∃ (a : Option Addr) (z c : Nat) (L : List WrA), e = .returned (.slice a z c) ∧ OW2 w' w.heap.size (.slice a z c) L ∧ L.map (·.1) = odD l ∧ Below w.heap.size w w'
theorem orderD (a : Option Addr) (c : Nat) (l : List WrP) (w : World) (hl : WIn w a l) (hn : l.length ≤ 549755813888) (hts : ∀ x ∈ l, x.s.t.length ≤ 4398046511104) :
    Calls Try.prog 18 #[.slice a l.length c] w fun e w' => OdR w w' l e :=
  (order_any a c l w hl hn hts).mono fun e w' hh => by
    obtain ⟨out, L, v, rfl, hs, o, i, b⟩ := hh
    obtain ⟨a', cap, e', _⟩ := o.slice
    subst e'
    exact ⟨a', L.length, cap, L, rfl, o, by rw [i]; exact ordL_is l out hs, b⟩
set_option maxRecDepth 100000 in
set_option maxHeartbeats 4000000 in
theorem bmerge_any (a a2 : Option Addr) (c c2 : Nat) (l m : List WrP) (w : World) (ha : WIn w a l) (hb : WIn w a2 m) (hn : l.length + m.length ≤ 549755813888) (htl : ∀ x ∈ l, x.s.t.length ≤ 4398046511104) (htm : ∀ x ∈ m, x.s.t.length ≤ 4398046511104) :
    Calls Try.prog 7 #[.slice a l.length c, .slice a2 m.length c2] w fun e w' => OdR w w' (l ++ m) e := by
  obtain ⟨w1, hw1⟩ : ∃ w1, w1 = w.alloc (.cells #[.slice a l.length c, .slice a2 m.length c2] 28) := ⟨_, rfl⟩
  have b1 : Below w.heap.size w w1 := by rw [hw1]; exact (Below.refl _ w).alloc (Nat.le_refl _) _
  have C1 : Hid (Calls Try.prog 19 #[.slice (some ⟨w.heap.size, 0, none⟩) 2 2] w1 fun e w' => ∃ a z cap L, e = .returned (.slice a z cap) ∧ CcS w1 w' (.slice a z cap) L ∧ L.map (·.1) = l ++ m) := concat_any w1 w.heap.size (by rw [hw1]; simp) a a2 c c2 l m (ha.below b1) (hb.below b1) (by rw [hw1]; simp [go_sem]) (by rw [hw1]; simp [go_sem]) (by omega)
  have C2 : Hid (∀ (w2 : World) (a3 : Option Addr) (z c3 : Nat) (L : List WrA), CcS w1 w2 (.slice a3 z c3) L → L.map (·.1) = l ++ m → Calls Try.prog 18 #[.slice a3 z c3] w2 fun e w' => OdR w w' (l ++ m) e) := fun w2 a3 z c3 L hS e => by
    obtain ⟨a', cap, e', hc, hw⟩ := hS.win
    injection e' with q1 q2 q3
    subst q1 q3
    rw [e] at hw
    have lL : L.length = (l ++ m).length := by rw [← e, List.length_map]
    rw [q2, lL]
    refine (orderD a3 c3 (l ++ m) w2 hw (by rw [List.length_append]; exact hn) (fun x hx => (List.mem_append.1 hx).elim (htl x) (htm x))).mono fun e w' hh => ?_
    obtain ⟨a4, z4, c4, L4, rfl, o, i, b⟩ := hh
    have B2 := b1.trans (hS.bl.mono b1.size)
    exact ⟨a4, z4, c4, L4, rfl, o.mono B2.size, i, B2.trans (b.mono B2.size)⟩
  clear b1 ha hb hn htl htm
  generalize l.length = n1 at *
  generalize m.length = n2 at *
  go_enter Try.func7, Try.ntmps7
  go_wp2_with fail
  rw [← hw1]
  clear hw1
  refine Calls.mono C1.out ?_
  rintro e w2 ⟨a3, z3, d3, L3, rfl, hS, hi⟩
  have C4 : Hid _ := C2.out w2 a3 z3 d3 L3 hS hi
  clear hS hi C1 C2
  go_wp2_with fail
  refine Calls.mono C4.out ?_
  rintro e w3 ⟨a4, z4, d4, L4, rfl, r⟩
  have fin : Hid (OdR w w3 (l ++ m) (.returned (.slice a4 z4 d4))) := ⟨a4, z4, d4, L4, rfl, r⟩
  clear r C4
  go_wp2_with fail
  go_ret
  exact fin.out
end Go.Proofs.Ytlcppkemiogbeaa.Fr
