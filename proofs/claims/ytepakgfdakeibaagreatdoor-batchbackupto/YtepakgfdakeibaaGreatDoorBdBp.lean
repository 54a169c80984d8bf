
import Derived.Test.YtepakgfdakeibaaGreatDoorBdAp
import Derived.Test.YtepakgfdakeibaaGreatDoorProg
import Derived.Deep.AppendLies
import Derived.RowKit
import Derived.WalkKit
import Derived.Laws.BitsAllLaws
import Derived.Test.YtepakgfdakeibaaGreatDoorBgD
namespace Go.Proofs.YtepakgfdakeibaaGreatDoor
open Go.RowKit _root_.Go.Proofs.YtepakgfdakeibaaGreatDoor.So
set_option linter.unusedVariables false
set_option linter.unusedSimpArgs false
theorem choose_belowW {α : Type} [Inhabited α] {n : Nat} {P : Nat → α → Prop} (h : ∀ i, i < n → ∃ x, P i x) : ∃ f : Nat → α, ∀ i, i < n → P i (f i) := by
  refine ⟨fun i => if hi : i < n then Classical.choose (h i hi) else default, fun i hi => ?_⟩
  simp only [dif_pos hi]
  exact Classical.choose_spec (h i hi)
instance : Inhabited WrP := ⟨noW⟩
/-- rows that lie in memory, with where their tags lie. -/
theorem WIn.enc {w : World} {b off : Nat} {l : List WrP} (h : WIn w (some ⟨b, off, none⟩) l) : ∃ L : List WrA, L.map (·.1) = l ∧ (∀ t ∈ L, SerIn w t.2.1 t.1.s) ∧ ∀ j u, (encW L)[j]? = some u → w.cell? ⟨b, off + j, none⟩ = some u := by
  rcases h with h | ⟨b', off', e, hb, hc⟩
  · subst h; exact ⟨[], rfl, fun t ht => (by cases ht), fun j u hj => by simp [encW] at hj⟩
  · injection e with e
    injection e with e1 e2
    subst e1 e2
    have each : ∀ i, i < l.length → ∃ q : Option Addr × Nat, WAt w b (off + i * 6) (atW l i) q.1 q.2 ∧ SerIn w q.1 (atW l i).s := fun i hi => by
      obtain ⟨ta, tc, h1, h2⟩ := hc i _ (atW_some hi)
      exact ⟨(ta, tc), h1, h2⟩
    obtain ⟨q, hq⟩ := choose_belowW each
    have hget : ∀ i, i < l.length → ((List.range l.length).map fun i => ((atW l i, (q i).1, (q i).2) : WrA))[i]? = some (atW l i, (q i).1, (q i).2) := fun i hi => by rw [List.getElem?_map, List.getElem?_range hi]; rfl
    refine ⟨(List.range l.length).map fun i => (atW l i, (q i).1, (q i).2), ?_, fun t ht => ?_, fun j u hj => ?_⟩
    · refine List.ext_getElem? fun i => ?_
      rw [List.map_map, List.getElem?_map]
      rcases Nat.lt_or_ge i l.length with hi | hi
      · rw [List.getElem?_range hi, atW_some hi]; rfl
      · rw [List.getElem?_eq_none (by simpa using hi), List.getElem?_eq_none hi]; rfl
    · obtain ⟨i, hi, rfl⟩ := List.mem_map.1 ht
      exact (hq i (List.mem_range.1 hi)).2
    · have hj2 : j < l.length * 6 := by
        have := (List.getElem?_eq_some_iff.1 hj).1
        rw [encW_len] at this
        simpa using this
      have hi : j / 6 < l.length := by omega
      obtain ⟨e1, e2, e3, e4, e5, e6⟩ := encW_get _ _ _ (hget _ hi)
      obtain ⟨c1, c2, c3, c4, c5, c6⟩ := (hq _ hi).1
      rcases (by omega : j % 6 = 0 ∨ j % 6 = 1 ∨ j % 6 = 2 ∨ j % 6 = 3 ∨ j % 6 = 4 ∨ j % 6 = 5) with r | r | r | r | r | r
      · rw [show j = j / 6 * 6 by omega] at hj ⊢
        rw [e1] at hj
        rw [c1, ← hj]
      · rw [show j = j / 6 * 6 + 1 by omega] at hj ⊢
        rw [e2] at hj
        rw [← Nat.add_assoc, c2, ← hj]
      · rw [show j = j / 6 * 6 + 2 by omega] at hj ⊢
        rw [e3] at hj
        rw [← Nat.add_assoc, c3, ← hj]
      · rw [show j = j / 6 * 6 + 3 by omega] at hj ⊢
        rw [e4] at hj
        rw [← Nat.add_assoc, c4, ← hj]
      · rw [show j = j / 6 * 6 + 4 by omega] at hj ⊢
        rw [e5] at hj
        rw [← Nat.add_assoc, c5, ← hj]
      · rw [show j = j / 6 * 6 + 5 by omega] at hj ⊢
        rw [e6] at hj
        rw [← Nat.add_assoc, c6, ← hj]
theorem app_noW (W : World) (a ad : Option Addr) (n cap c : Nat) (h : n ≤ cap) : (Builtin.append_ #[22, 22] 22 #[.slice a n cap, .slice ad 0 c]).run Tryz.prog W = .ok (.slice a n cap) W := by
  obtain ⟨i, i1, i0⟩ := Option.map_eq_some_iff.1 wr_info
  cases a <;> cases ad <;> simp [Builtin.append_, run_underlying Tryz.underlying22, sizeOf, typeInfo, i1, Builtin.lenOf, Builtin.firstCells, storeCells, loadCells, loadCellsFrom, h]
theorem OW.slice' {w : World} {B : Nat} {v : Value} {L : List WrA} (h : w.ownsRow B 52 6 v L.length (encW L)) : ∃ a cap, v = .slice a L.length cap ∧ L.length ≤ cap := by
  rcases h.2 with ⟨e1, e2⟩ | ⟨g, cap', cur, e1, _, _, hc, _⟩
  · exact ⟨none, 0, by rw [e1, e2], by omega⟩
  · exact ⟨_, cap', e1, hc⟩
/-- a row of one's own whose tags all lie where they lay at the beginning. -/
structure CcS (w0 W : World) (v : Value) (L : List WrA) : Prop where
  own : W.ownsRow w0.heap.size 52 6 v L.length (encW L)
  tg : ∀ t ∈ L, SerIn w0 t.2.1 t.1.s
  bl : Below w0.heap.size w0 W
theorem CcS.nil (w : World) : CcS w w (.slice none 0 0) [] := ⟨⟨rfl, Or.inl ⟨rfl, rfl⟩⟩, (fun t h => by cases h), Below.refl _ _⟩
theorem CcS.win {w0 W : World} {v : Value} {L : List WrA} (h : CcS w0 W v L) : ∃ a cap, v = .slice a L.length cap ∧ L.length ≤ cap ∧ WIn W a (L.map (·.1)) := by
  obtain ⟨a, cap, e, hc⟩ := OW.slice' h.own
  have ho : OW W w0.heap.size v L := ⟨h.own, fun t ht => (h.tg t ht).belowW h.bl⟩
  obtain ⟨a', cap', e', hw⟩ := ho.win
  rw [e] at e'
  injection e' with e1 e2 e3
  subst e1 e3
  exact ⟨a, cap, e, hc, hw⟩
/-- a row appended, or none. -/
theorem appW (w0 W : World) (v : Value) (L : List WrA) (h : CcS w0 W v L) (a : Option Addr) (c : Nat) (m : List WrP) (hm : WIn w0 a m) (hn : L.length + m.length ≤ 1099511627776) :
    ∃ v' w' M, (Builtin.append_ #[22, 22] 22 #[v, .slice a m.length c]).run Tryz.prog W = .ok v' w' ∧ M.map (·.1) = m ∧ CcS w0 w' v' (L ++ M) := by
  rcases Nat.eq_zero_or_pos m.length with h0 | h0
  · have e := List.eq_nil_of_length_eq_zero h0
    subst e
    obtain ⟨a1, c1, e1, hc1⟩ := OW.slice' h.own
    exact ⟨v, W, [], by rw [e1]; exact app_noW _ _ _ _ _ _ hc1, rfl, by rw [List.append_nil]; exact h⟩
  · have hm' := hm
    rcases hm with e | ⟨b, off, e, hb, hc⟩
    · rw [e] at h0; simp at h0
    · subst e
      obtain ⟨M, hM, hs, hcs⟩ := hm'.enc
      have lM : M.length = m.length := by rw [← hM, List.length_map]
      obtain ⟨i, i1, i0⟩ := Option.map_eq_some_iff.1 wr_info
      have i2 : i.zero = some (.agg #[.string ⟨#[]⟩, .slice none 0 0, .string ⟨#[]⟩, .int .i64 0, .int .u8 0, .int .i64 0]) := congrArg (·.1) i0
      have i3 : i.bytes = 80 := congrArg (·.2.1) i0
      have i4 : i.size = 6 := congrArg (·.2.2) i0
      have hml : maxLen = 9223372036854775807 := by decide
      obtain ⟨g, cap, w', hr, own, gr, hat, hlt2⟩ := run_append_lies (P := Tryz.prog) W 22 22 w0.heap.size 52 i (.agg #[.string ⟨#[]⟩, .slice none 0 0, .string ⟨#[]⟩, .int .i64 0, .int .u8 0, .int .i64 0]) 6 80 Tryz.underlying22 i1 i2 i4 i3 rfl (by omega) v L.length (encW L) h.own ⟨b, off, none⟩ m.length c (encW M) (by rw [encW_len, lM]) (fun j u hj => by rw [tag_add, h.bl.cell (p := ⟨b, off + j, none⟩) hb]; exact hcs j u hj) (encW_one _) h0 (by omega) (by omega) h.bl.size _ rfl
      refine ⟨_, w', M, hr, hM, ?_, fun t ht => ?_, h.bl.trans ((Below.refl w0.heap.size W).grown gr h.bl.size (fun k e => (World.ownsRow.lt h.own k e).1))⟩
      · rw [List.length_append, lM, encW_append]; exact own
      · rcases List.mem_append.1 ht with q | q
        · exact h.tg t q
        · exact hs t q
end Go.Proofs.YtepakgfdakeibaaGreatDoor

namespace Go.Proofs.YtepakgfdakeibaaGreatDoor
open Go.RowKit
set_option linter.unusedVariables false
set_option linter.unusedSimpArgs false
theorem wr_infoG : (Tryz.prog.info? 52).map (fun i => (i.zero, i.bytes, i.size)) = some (some (.agg #[.string ⟨#[]⟩, .slice none 0 0, .string ⟨#[]⟩, .int .i64 0, .int .u8 0, .int .i64 0]), 80, 6) := by kernel_rfl
abbrev zW6 : Array Value := #[.string ⟨#[]⟩, .slice none 0 0, .string ⟨#[]⟩, .int .i64 0, .int .u8 0, .int .i64 0]
/-- room for n, where there was nothing: append of what make makes. -/
theorem grow_run (w : World) (n : Nat) (h0 : 0 < n) (hn : n ≤ 1099511627776) :
    (Builtin.append_ #[22, 3] 22 #[.slice none 0 0, .int .i64 (n : Int)]).run Tryz.prog w = .ok (.slice (some ⟨w.heap.size, 0, none⟩) n (grownCap w n 0 52)) (w.drew.alloc (.cells (Builtin.zeroCells zW6 n ++ Builtin.zeroCells zW6 (grownCap w n 0 52 - n)) 52)) := by
  obtain ⟨i, i1, i0⟩ := Option.map_eq_some_iff.1 wr_infoG
  have i2 : i.zero = some (.agg zW6) := congrArg (·.1) i0
  have i3 : i.bytes = 80 := congrArg (·.2.1) i0
  have i4 : i.size = 6 := congrArg (·.2.2) i0
  have nw : IntKind.i64.wrap (n : Int) = (n : Int) := IntWalk.i64_in _ (by omega)
  have a1 : ¬ ((n : Int) < 0) := by omega
  have a2 : ¬ (281474976710656 < (n : Int) * 80) := by omega
  have a3 : ¬ (n = 0) := by omega
  have a4 : ¬ (n * 6 = 0) := by omega
  have a5 : ¬ (9223372036854775807 < (n : Int)) := by omega
  have a6 : Builtin.nextslicecap n 0 = n := by unfold Builtin.nextslicecap; rw [if_pos (by omega)]
  have a7 : ¬ (281474976710656 < n * 80) := by omega
  have hz6 : (Value.agg zW6).cells = zW6 := rfl
  simp [Builtin.append_, run_underlying Tryz.underlying22, run_underlying Tryz.underlying3, sizeOf, typeInfo, zeroValue, i1, i2, i3, i4, asInt, asIntOf, nw, a1, a2, a3, a4, a5, a6, a7, Question.forced, newRow, grownCap, Builtin.firstCells, hz6]
theorem zero_size (n : Nat) : (Builtin.zeroCells zW6 n).size = n * 6 := by simp [Builtin.zeroCells]
theorem wpList_append_runX {P : Program} {ops : Array Oper} {rest : List Oper} {o : Oper} {a : Act} {Q : Exit → Act → World → Prop} {w : World} (hgd : o.guard = none) (s x : Operand) (t u : TypeId)
    (ho : o.op = .call { callee := .builtin .append, args := #[s, x], argTypes := #[t, u] }) (v y v' : Value) (w' : World) (hs : a.eval s = v) (hx : a.eval x = y) (hr : (Builtin.append_ #[t, u] o.type #[v, y]).run P w = .ok v' w')
    (h : wpList P ops Q rest (a.put o.dst v') w') : wpList P ops Q (o :: rest) a w := by
  refine wpList_plain hgd fun K hK => ?_
  unfold Oper.wp execOp
  simp only [ho, resolve, invoke, builtin, Sem.run_bind, Sem.run_pure, Result.andThen_ok, List.map_toArray, List.map_cons, List.map_nil, hs, hx, hr]
  exact hK _ _ h
end Go.Proofs.YtepakgfdakeibaaGreatDoor

namespace Go.Proofs.YtepakgfdakeibaaGreatDoor
open Go.RowKit _root_.Go.Proofs.YtepakgfdakeibaaGreatDoor.So
set_option linter.unusedVariables false
set_option linter.unusedSimpArgs false
theorem grow_ccs (w : World) (n : Nat) (hn : n ≤ 1099511627776) : CcS w (w.drew.alloc (.cells (Builtin.zeroCells zW6 n ++ Builtin.zeroCells zW6 (grownCap w n 0 52 - n)) 52)) (.slice (some ⟨w.heap.size, 0, none⟩) 0 (grownCap w n 0 52)) [] := by
  have hml : maxLen = 9223372036854775807 := by decide
  have g1 := grownCap_ge w n 0 52
  have g2 := grownCap_le_maxLen w n 0 52 (by omega)
  have bd : Below w.heap.size w w.drew := (Below.refl _ w).drew
  refine ⟨⟨rfl, Or.inr ⟨w.heap.size, _, _, rfl, Nat.le_refl _, heap_alloc_new w.drew _, Nat.zero_le _, g2, ?_, by simp [encW]⟩⟩, (fun t h => by cases h), bd.alloc (Nat.le_refl _) _⟩
  rw [Array.size_append, zero_size, zero_size]; omega
/-- what has been laid so far. -/
def preC (l m : List WrP) (k : Nat) : List WrP := if k = 0 then [] else if k = 1 then l else l ++ m
/-- what the program's Order, Merge tell: the document's. -/
theorem orderD (a : Option Addr) (c : Nat) (l : List WrP) (w : World) (hl : WIn w a l) (hn : l.length ≤ 549755813888) (hts : ∀ x ∈ l, x.s.t.length ≤ 4398046511104) :
    Calls Tryz.prog 19 #[.slice a l.length c] w fun e w' => OdR w w' l e :=
  (order_any a c l w hl hn hts).mono fun e w' hh => by
    obtain ⟨out, L, v, rfl, hs, o, i, b⟩ := hh
    obtain ⟨a', cap, e', _⟩ := o.slice
    subst e'
    exact ⟨a', L.length, cap, L, rfl, o, by rw [i]; exact ordL_is l out hs, b⟩
end Go.Proofs.YtepakgfdakeibaaGreatDoor

namespace Go.Proofs.YtepakgfdakeibaaGreatDoor
open Go.RowKit _root_.Go.Proofs.YtepakgfdakeibaaGreatDoor.So
set_option linter.unusedVariables false
set_option linter.unusedSimpArgs false
set_option maxRecDepth 100000 in
set_option maxHeartbeats 16000000 in
/-- SameWrites, of rows that are the same. -/
theorem sameWrites_true (a a2 : Option Addr) (c c2 : Nat) (l : List WrP) (w : World) (ha : WIn w a l) (hb : WIn w a2 l) (hn : l.length ≤ 1099511627775) :
    Calls Tryz.prog 13 #[.slice a l.length c, .slice a2 l.length c2] w fun e w' => e = .returned (.bool true) ∧ Below w.heap.size w w' := by
  obtain ⟨n, hn1⟩ : ∃ n, n = l.length := ⟨_, rfl⟩
  have nH : Hid (n = l.length) := hn1
  rw [← hn1] at hn ⊢
  have aH : Hid (WIn w a l) := ha
  have bH : Hid (WIn w a2 l) := hb
  have W0 : Hid (Below w.heap.size w w) := Below.refl _ _
  have nn : ((n : Int) == (n : Int)) = true := by simp
  clear ha hb hn1
  go_enter Tryz.func13, Tryz.ntmps13
  go_wp2_with fail
  go_loopw [5] (fun v wr => ∃ (i : Nat), v = .int .i64 (i : Int) ∧ i ≤ n ∧ Hid (Below w.heap.size w wr)) (fun v _ => n - (intOf v).toNat)
  case atStart => exact ⟨0, rfl, Nat.zero_le _, W0⟩
  case round =>
    clear W0
    obtain ⟨i, rfl, il, BH⟩ := hrel
    have i0 : (0 : Int) ≤ (i : Int) := by omega
    have wi : IntKind.i64.wrap ((i : Int) + 1) = ((i + 1 : Nat) : Int) := IntWalk.i64_in _ (by omega)
    by_cases hi : i < n
    · have iI : (i : Int) < (n : Int) := by omega
      have hiL : Hid (i < l.length) := by rw [← nH.out]; exact hi
      obtain ⟨b, off, tx, cx, e1, hbx, ax, fx⟩ := aH.out.at BH.out (atW_some hiL.out)
      obtain ⟨b', off', ty, cy, e2, hby, ay, fy⟩ := bH.out.at BH.out (atW_some hiL.out)
      subst e1 e2
      have CH : Hid (∀ W', Below w.heap.size w W' → Calls Tryz.prog 31 #[wV (atW l i) tx cx, wV (atW l i) ty cy] W' fun e w' => e = .returned (.int .i64 0) ∧ Below W'.heap.size W' w') := fun W' hW' => by
        have := rpcompare_any (atW l i) (atW l i) tx ty cx cy W' (fx W' hW').2 (fy W' hW').2
        rw [wC_self] at this
        exact this
      clear fx fy
      unfold wV at CH
      unfold WAt at ax ay
      generalize atW l i = x at ax ay CH
      generalize x.s.t.length = nx at ax ay CH
      have bl : b < wr.heap.size := Nat.lt_of_lt_of_le hbx BH.out.size
      have bl' : b' < wr.heap.size := Nat.lt_of_lt_of_le hby BH.out.size
      clear hbx hby
      obtain ⟨x1, x2, x3, x4, x5, x6⟩ := ax
      obtain ⟨y1, y2, y3, y4, y5, y6⟩ := ay
      go_wp2_with fail
      refine wp_region_noPanic ?_
      refine wp_region_held_drew (S := fun W => (W.cell? ⟨b, off + i * 6, none⟩ = some (.string x.s.m) ∧ W.cell? ⟨b, off + i * 6 + 1, none⟩ = some (.slice tx nx cx) ∧ W.cell? ⟨b, off + i * 6 + 2, none⟩ = some (.string x.s.f) ∧ W.cell? ⟨b, off + i * 6 + 3, none⟩ = some (.int .i64 x.tm) ∧ W.cell? ⟨b, off + i * 6 + 4, none⟩ = some (.int .u8 (x.kd : Int)) ∧ W.cell? ⟨b, off + i * 6 + 5, none⟩ = some (.int .i64 x.n)) ∧ W.cell? ⟨b', off' + i * 6, none⟩ = some (.string x.s.m) ∧ W.cell? ⟨b', off' + i * 6 + 1, none⟩ = some (.slice ty nx cy) ∧ W.cell? ⟨b', off' + i * 6 + 2, none⟩ = some (.string x.s.f) ∧ W.cell? ⟨b', off' + i * 6 + 3, none⟩ = some (.int .i64 x.tm) ∧ W.cell? ⟨b', off' + i * 6 + 4, none⟩ = some (.int .u8 (x.kd : Int)) ∧ W.cell? ⟨b', off' + i * 6 + 5, none⟩ = some (.int .i64 x.n)) (by kernel_rfl) ⟨⟨x1, x2, x3, x4, x5, x6⟩, y1, y2, y3, y4, y5, y6⟩ (fun hHeld => ?_)
      refine zT 0 (v := ?_) rfl ?_ ?_
      rotate_left 1
      · (intro w0 hSw; (try dsimp only at hSw); obtain ⟨⟨s1, s2, s3, s4, s5, s6⟩, t1, t2, t3, t4, t5, t6⟩ := hSw; go_simp; try with_reducible rfl)
      (try simp only [z1, z2, z3]); (try simp only [Act.put, z4, z5, z6])
      refine zT 1 (v := ?_) rfl ?_ ?_
      rotate_left 1
      · (intro w0 hSw; (try dsimp only at hSw); obtain ⟨⟨s1, s2, s3, s4, s5, s6⟩, t1, t2, t3, t4, t5, t6⟩ := hSw; go_simp; try with_reducible rfl)
      (try simp only [z1, z2, z3]); (try simp only [Act.put, z4, z5, z6])
      refine zT 2 (v := ?_) rfl ?_ ?_
      rotate_left 1
      · (intro w0 hSw; (try dsimp only at hSw); obtain ⟨⟨s1, s2, s3, s4, s5, s6⟩, t1, t2, t3, t4, t5, t6⟩ := hSw; go_simp; try with_reducible rfl)
      (try simp only [z1, z2, z3]); (try simp only [Act.put, z4, z5, z6])
      refine zT 3 (v := ?_) rfl ?_ ?_
      rotate_left 1
      · (intro w0 hSw; (try dsimp only at hSw); obtain ⟨⟨s1, s2, s3, s4, s5, s6⟩, t1, t2, t3, t4, t5, t6⟩ := hSw; go_simp; try with_reducible rfl)
      (try simp only [z1, z2, z3]); (try simp only [Act.put, z4, z5, z6])
      refine zT 4 (v := ?_) rfl ?_ ?_
      rotate_left 1
      · (intro w0 hSw; (try dsimp only at hSw); obtain ⟨⟨s1, s2, s3, s4, s5, s6⟩, t1, t2, t3, t4, t5, t6⟩ := hSw; go_simp; try with_reducible rfl)
      (try simp only [z1, z2, z3]); (try simp only [Act.put, z4, z5, z6])
      refine zT 5 (v := ?_) rfl ?_ ?_
      rotate_left 1
      · (intro w0 hSw; (try dsimp only at hSw); obtain ⟨⟨s1, s2, s3, s4, s5, s6⟩, t1, t2, t3, t4, t5, t6⟩ := hSw; go_simp; try with_reducible rfl)
      (try simp only [z1, z2, z3]); (try simp only [Act.put, z4, z5, z6])
      refine zT 6 (v := ?_) rfl ?_ ?_
      rotate_left 1
      · (intro w0 hSw; (try dsimp only at hSw); obtain ⟨⟨s1, s2, s3, s4, s5, s6⟩, t1, t2, t3, t4, t5, t6⟩ := hSw; go_simp; try with_reducible rfl)
      (try simp only [z1, z2, z3]); (try simp only [Act.put, z4, z5, z6])
      refine zT 7 (v := ?_) rfl ?_ ?_
      rotate_left 1
      · (intro w0 hSw; (try dsimp only at hSw); obtain ⟨⟨s1, s2, s3, s4, s5, s6⟩, t1, t2, t3, t4, t5, t6⟩ := hSw; go_simp; try with_reducible rfl)
      (try simp only [z1, z2, z3]); (try simp only [Act.put, z4, z5, z6])
      refine wpAnyH_ready (rs := [8]) (by kernel_rfl) (by simp) ?_
      refine AllReadyH.cons (o := _) rfl (fun K hK => ?_) AllReadyH.nil
      go_simp
      refine Calls.mono (CH.out _ (show Below w.heap.size w wr.drew from BH.out.drew)) ?_
      rintro e w' ⟨rfl, BB⟩
      try dsimp only
      refine hK _ _ ?_ (fun hHeld => ?_)
      · exact ⟨⟨by rw [BB.cell (p := ⟨b, off + i * 6, none⟩) bl]; exact x1, by rw [BB.cell (p := ⟨b, off + i * 6 + 1, none⟩) bl]; exact x2, by rw [BB.cell (p := ⟨b, off + i * 6 + 2, none⟩) bl]; exact x3, by rw [BB.cell (p := ⟨b, off + i * 6 + 3, none⟩) bl]; exact x4, by rw [BB.cell (p := ⟨b, off + i * 6 + 4, none⟩) bl]; exact x5, by rw [BB.cell (p := ⟨b, off + i * 6 + 5, none⟩) bl]; exact x6⟩, by rw [BB.cell (p := ⟨b', off' + i * 6, none⟩) bl']; exact y1, by rw [BB.cell (p := ⟨b', off' + i * 6 + 1, none⟩) bl']; exact y2, by rw [BB.cell (p := ⟨b', off' + i * 6 + 2, none⟩) bl']; exact y3, by rw [BB.cell (p := ⟨b', off' + i * 6 + 3, none⟩) bl']; exact y4, by rw [BB.cell (p := ⟨b', off' + i * 6 + 4, none⟩) bl']; exact y5, by rw [BB.cell (p := ⟨b', off' + i * 6 + 5, none⟩) bl']; exact y6⟩
      clear hK K
      (try simp only [z1, z2, z3]); (try simp only [Act.put, z4, z5, z6])
      refine zT 9 (v := ?_) rfl ?_ ?_
      rotate_left 1
      · (intro w0 hSw; (try dsimp only at hSw); obtain ⟨⟨s1, s2, s3, s4, s5, s6⟩, t1, t2, t3, t4, t5, t6⟩ := hSw; go_simp; try with_reducible rfl)
      (try simp only [z1, z2, z3]); (try simp only [Act.put, z4, z5, z6])
      refine zT 10 (v := ?_) rfl ?_ ?_
      rotate_left 1
      · (intro w0 hSw; (try dsimp only at hSw); obtain ⟨⟨s1, s2, s3, s4, s5, s6⟩, t1, t2, t3, t4, t5, t6⟩ := hSw; go_simp; try with_reducible rfl)
      (try simp only [z1, z2, z3]); (try simp only [Act.put, z4, z5, z6])
      refine zT 11 (v := ?_) rfl ?_ ?_
      rotate_left 1
      · (intro w0 hSw; (try dsimp only at hSw); obtain ⟨⟨s1, s2, s3, s4, s5, s6⟩, t1, t2, t3, t4, t5, t6⟩ := hSw; go_simp; try with_reducible rfl)
      (try simp only [z1, z2, z3]); (try simp only [Act.put, z4, z5, z6])
      refine zT 12 (v := ?_) rfl ?_ ?_
      rotate_left 1
      · (intro w0 hSw; (try dsimp only at hSw); obtain ⟨⟨s1, s2, s3, s4, s5, s6⟩, t1, t2, t3, t4, t5, t6⟩ := hSw; go_simp; try with_reducible rfl)
      (try simp only [z1, z2, z3]); (try simp only [Act.put, z4, z5, z6])
      refine zT 13 (v := ?_) rfl ?_ ?_
      rotate_left 1
      · (intro w0 hSw; (try dsimp only at hSw); obtain ⟨⟨s1, s2, s3, s4, s5, s6⟩, t1, t2, t3, t4, t5, t6⟩ := hSw; go_simp; try with_reducible rfl)
      (try simp only [z1, z2, z3]); (try simp only [Act.put, z4, z5, z6])
      refine zT 14 (v := ?_) rfl ?_ ?_
      rotate_left 1
      · (intro w0 hSw; (try dsimp only at hSw); obtain ⟨⟨s1, s2, s3, s4, s5, s6⟩, t1, t2, t3, t4, t5, t6⟩ := hSw; go_simp; try with_reducible rfl)
      (try simp only [z1, z2, z3]); (try simp only [Act.put, z4, z5, z6])
      refine zT 15 (v := ?_) rfl ?_ ?_
      rotate_left 1
      · (intro w0 hSw; (try dsimp only at hSw); obtain ⟨⟨s1, s2, s3, s4, s5, s6⟩, t1, t2, t3, t4, t5, t6⟩ := hSw; go_simp; try with_reducible rfl)
      (try simp only [z1, z2, z3]); (try simp only [Act.put, z4, z5, z6])
      refine zT 16 (v := ?_) rfl ?_ ?_
      rotate_left 1
      · (intro w0 hSw; (try dsimp only at hSw); obtain ⟨⟨s1, s2, s3, s4, s5, s6⟩, t1, t2, t3, t4, t5, t6⟩ := hSw; go_simp; try with_reducible rfl)
      (try simp only [z1, z2, z3]); (try simp only [Act.put, z4, z5, z6])
      refine zT 17 (v := ?_) rfl ?_ ?_
      rotate_left 1
      · (intro w0 hSw; (try dsimp only at hSw); obtain ⟨⟨s1, s2, s3, s4, s5, s6⟩, t1, t2, t3, t4, t5, t6⟩ := hSw; go_simp; try with_reducible rfl)
      (try simp only [z1, z2, z3]); (try simp only [Act.put, z4, z5, z6])
      refine zT 18 (v := ?_) rfl ?_ ?_
      rotate_left 1
      · (intro w0 hSw; (try dsimp only at hSw); obtain ⟨⟨s1, s2, s3, s4, s5, s6⟩, t1, t2, t3, t4, t5, t6⟩ := hSw; go_simp; try with_reducible rfl)
      (try simp only [z1, z2, z3]); (try simp only [Act.put, z4, z5, z6])
      refine zT 19 (v := ?_) rfl ?_ ?_
      rotate_left 1
      · (intro w0 hSw; (try dsimp only at hSw); obtain ⟨⟨s1, s2, s3, s4, s5, s6⟩, t1, t2, t3, t4, t5, t6⟩ := hSw; go_simp; try with_reducible rfl)
      (try simp only [z1, z2, z3]); (try simp only [Act.put, z4, z5, z6])
      refine zT 20 (v := ?_) rfl ?_ ?_
      rotate_left 1
      · (intro w0 hSw; (try dsimp only at hSw); obtain ⟨⟨s1, s2, s3, s4, s5, s6⟩, t1, t2, t3, t4, t5, t6⟩ := hSw; go_simp; try with_reducible rfl)
      (try simp only [z1, z2, z3]); (try simp only [Act.put, z4, z5, z6])
      refine zT 21 (v := ?_) rfl ?_ ?_
      rotate_left 1
      · (intro w0 hSw; (try dsimp only at hSw); obtain ⟨⟨s1, s2, s3, s4, s5, s6⟩, t1, t2, t3, t4, t5, t6⟩ := hSw; go_simp; try with_reducible rfl)
      (try simp only [z1, z2, z3]); (try simp only [Act.put, z4, z5, z6])
      refine zT 22 (v := ?_) rfl ?_ ?_
      rotate_left 1
      · (intro w0 hSw; (try dsimp only at hSw); obtain ⟨⟨s1, s2, s3, s4, s5, s6⟩, t1, t2, t3, t4, t5, t6⟩ := hSw; go_simp; try with_reducible rfl)
      (try simp only [z1, z2, z3]); (try simp only [Act.put, z4, z5, z6])
      refine wpAnyH_done (by kernel_rfl) ?_ _
      refine NoPanic.normal ?_
      have fin : Hid (Below w.heap.size w w') := BH.out.drew.trans (BB.mono BH.out.size)
      clear BB BH CH x1 x2 x3 x4 x5 x6 y1 y2 y3 y4 y5 y6 hHeld
      go_wp2_with fail
      exact ⟨⟨i + 1, by first | rfl | simp, by omega, fin⟩, by simp [intOf]; omega⟩
    · have iI : ¬ (i : Int) < (n : Int) := by omega
      go_wp2_with fail
      go_ret
      exact ⟨rfl, BH.out⟩
end Go.Proofs.YtepakgfdakeibaaGreatDoor

namespace Go.Proofs.YtepakgfdakeibaaGreatDoor
open Go.RowKit _root_.Go.Proofs.YtepakgfdakeibaaGreatDoor.So
set_option linter.unusedVariables false
set_option linter.unusedSimpArgs false
theorem step_append_runB {P : Program} {ops : Array Oper} {o : Oper} {a : Act} {w : World} {K : Act → World → Prop} {Q : Exit → Act → World → Prop} {E : Prop}
    (hg : o.guard = none) (s x : Operand) (t : TypeId) (hop : o.op = Op.call { callee := Callee.builtin Builtin.append, args := #[s, x], argTypes := #[t, t] })
    (v y v' : Value) (w' : World) (hs : a.eval s = v) (hx : a.eval x = y) (hr : (Builtin.append_ #[t, t] o.type #[v, y]).run P w = .ok v' w') (hK : K (a.put o.dst v') w') :
    if Region.wanted o (yielded ops a.tmps) = true then Oper.wp P o a w K Q else E := by
  have hw : Region.wanted o (yielded ops a.tmps) = true := by simp [Region.wanted, hg]
  rw [if_pos hw]
  unfold Oper.wp execOp
  simp only [hop, resolve, invoke, builtin, Sem.run_bind, Sem.run_pure, Result.andThen_ok, List.map_toArray, List.map_cons, List.map_nil, hs, hx, hr]
  exact hK
def markW : WrP := ⟨⟨⟨#[109, 97, 114, 107]⟩, [], ⟨#[]⟩⟩, 0, 0, 0⟩
/-- writes in memory of their own, a marked one behind them. -/
def KpR (w : World) (g c : Nat) (l : List WrP) : Prop := l.length + 1 ≤ c ∧ WIn w (some ⟨g, 0, none⟩) (l ++ [markW])
theorem KpR.below {w w' : World} {g c : Nat} {l : List WrP} (h : KpR w g c l) (hB : Below w.heap.size w w') : KpR w' g c l := ⟨h.1, h.2.below hB⟩
theorem KpR.win {w : World} {g c : Nat} {l : List WrP} (h : KpR w g c l) : WIn w (some ⟨g, 0, none⟩) l := by
  have := (h.2.cut (n := 0) l.length).1
  rwa [List.take_left] at this
theorem KpR.mark {w : World} {g c : Nat} {l : List WrP} (h : KpR w g c l) : g < w.heap.size ∧ w.cell? ⟨g, l.length * 6, none⟩ = some (.string ⟨#[109, 97, 114, 107]⟩) := by
  rcases h.2 with h0 | ⟨b, off, e, hb, hc⟩
  · simp at h0
  · injection e with e
    injection e with e1 e2
    subst e1 e2
    obtain ⟨ta, tc, h1, _⟩ := hc l.length markW (by simp)
    rw [Nat.zero_add] at h1
    exact ⟨hb, h1.1⟩
/-- what stands while they are laid. -/
structure WtS (w : World) (l : List WrP) (i : Nat) (v : Value) (L : List WrA) (wr : World) : Prop where
  bl : Below w.heap.size w wr
  row : OW2 wr w.heap.size v L
  is : L.map (·.1) = l.take i
  il : i ≤ l.length
theorem WtS.app {w wr : World} {l : List WrP} {i : Nat} {a3 : Option Addr} {z c3 : Nat} {L : List WrA} (h : WtS w l i (.slice a3 z c3) L wr) (x : WrP) (w' : World) (a' : Option Addr) (c' : Nat) (tg : SerIn w' a' x.s) (fr : x.s.t ≠ [] → ∀ ad, a' = some ad → wr.heap.size ≤ ad.block) (BB : Below wr.heap.size wr w') (hn : l.length ≤ 1099511627775) :
    ∃ a4 c4 w6, (∀ W N, W = w'.alloc (.cells #[.string x.s.m, .slice a' x.s.t.length c', .string x.s.f, .int .i64 x.tm, .int .u8 (x.kd : Int), .int .i64 x.n] 52) → N = w'.heap.size → (Builtin.append_ #[22, 22] 22 #[.slice a3 z c3, .slice (some ⟨N, 0, none⟩) 1 1]).run Tryz.prog W = .ok (.slice a4 (z + 1) c4) w6) ∧ OW2 w6 w.heap.size (.slice a4 (z + 1) c4) (L ++ [(x, a', c')]) ∧ Below w.heap.size w w6 := by
  have lz : L.length = z := by
    obtain ⟨_, _, e, _⟩ := h.row.1.win
    injection e with _ e _
    exact e.symm
  have li : L.length ≤ l.length := by rw [← List.length_map (f := (·.1)), h.is, List.length_take]; omega
  have B' := h.bl.trans (BB.mono h.bl.size)
  obtain ⟨a4, c4, w6, q1, q2, q3⟩ := app2W w' w.heap.size (.slice a3 z c3) L (h.row.below BB) B'.size (x, a', c') tg (fun he ad had e => by
    have h1 := (World.ownsRow.lt h.row.1.1 _ e).2
    have h2 := fr he ad had
    omega) (by omega)
  rw [lz] at q1 q2
  exact ⟨a4, c4, w6, fun W N e e' => by subst e; subst e'; exact q1, q2, B'.trans (q3.mono (Nat.le_refl _))⟩
set_option maxRecDepth 100000 in
set_option maxHeartbeats 16000000 in
theorem writes_any (a : Option Addr) (c : Nat) (l : List WrP) (w : World) (ha : WIn w a l) (hn : l.length ≤ 549755813888) (hts : ∀ x ∈ l, x.s.t.length ≤ 4398046511104) :
    Calls Tryz.prog 5 #[.slice a l.length c] w fun e w' => ∃ g c', e = .returned (.slice (some ⟨g, 0, none⟩) l.length c') ∧ KpR w' g c' l ∧ Below w.heap.size w w' := by
  obtain ⟨n, hn1⟩ : ∃ n, n = l.length := ⟨_, rfl⟩
  have nH : Hid (n = l.length) := hn1
  have hnH : Hid (l.length ≤ 549755813888) := hn
  have htH : Hid (∀ x ∈ l, x.s.t.length ≤ 4398046511104) := hts
  rw [← hn1] at hn ⊢
  have aH : Hid (WIn w a l) := ha
  have S0 : Hid (WtS w l 0 (.slice none 0 0) [] w) := ⟨Below.refl _ _, OW2.nil _ _, by simp, Nat.zero_le _⟩
  clear ha hn1 hts
  go_enter Tryz.func5, Tryz.ntmps5
  go_wp2_with fail
  go_loopw [3, 4] (fun u v wr => ∃ (i : Nat) (a3 : Option Addr) (z c3 : Nat) (L : List WrA), u = .slice a3 z c3 ∧ v = .int .i64 (i : Int) ∧ i ≤ n ∧ Hid (WtS w l i (.slice a3 z c3) L wr)) (fun _ v _ => n - (intOf v).toNat)
  case atStart => exact ⟨0, none, 0, 0, [], rfl, rfl, Nat.zero_le _, S0⟩
  case round =>
    clear S0
    obtain ⟨i, a3, z, c3, L, rfl, rfl, il, hS⟩ := hrel
    have i0 : (0 : Int) ≤ (i : Int) := by omega
    have wi : IntKind.i64.wrap ((i : Int) + 1) = ((i + 1 : Nat) : Int) := IntWalk.i64_in _ (by omega)
    by_cases hi : i < n
    · have iI : (i : Int) < (n : Int) := by omega
      have hiL : Hid (i < l.length) := by rw [← nH.out]; exact hi
      obtain ⟨b, off, tx, cx, e1, hbx, ax, fx⟩ := aH.out.at hS.out.bl (atW_some hiL.out)
      subst e1
      have hx3 := htH.out (atW l i) (List.mem_of_getElem? (atW_some hiL.out))
      have CH : Hid (∀ W', Below w.heap.size w W' → Calls Tryz.prog 14 #[.agg #[.string (atW l i).s.m, .slice tx (atW l i).s.t.length cx, .string (atW l i).s.f]] W' fun e w' => ∃ a' c', e = .returned (.agg #[.string (atW l i).s.m, .slice a' (atW l i).s.t.length c', .string (atW l i).s.f]) ∧ TgIn w' a' (atW l i).s.t ∧ (∀ ad, a' = some ad → W'.heap.size ≤ ad.block) ∧ Below W'.heap.size W' w') := fun W' hW' => copySeries_any tx cx (atW l i).s W' (fx W' hW').2 hx3
      have fA : Hid (∀ (w' : World) (a' : Option Addr) (c' : Nat), TgIn w' a' (atW l i).s.t → (∀ ad, a' = some ad → wr.drew.heap.size ≤ ad.block) → Below wr.drew.heap.size wr.drew w' → ∃ a4 c4 w6, (∀ W N, W = w'.alloc (.cells #[.string (atW l i).s.m, .slice a' (atW l i).s.t.length c', .string (atW l i).s.f, .int .i64 (atW l i).tm, .int .u8 ((atW l i).kd : Int), .int .i64 (atW l i).n] 52) → N = w'.heap.size → (Builtin.append_ #[22, 22] 22 #[.slice a3 z c3, .slice (some ⟨N, 0, none⟩) 1 1]).run Tryz.prog W = .ok (.slice a4 (z + 1) c4) w6) ∧ WtS w l (i + 1) (.slice a4 (z + 1) c4) (L ++ [(atW l i, a', c')]) w6 ∧ WAt w6 b (off + i * 6) (atW l i) tx cx ∧ (∀ o, WAt (w'.alloc o) b (off + i * 6) (atW l i) tx cx)) := fun w' a' c' tg fr BB => by
        have bd : Below wr.heap.size wr w' := (show Below wr.heap.size wr wr.drew from (Below.refl _ wr).drew).trans BB
        have B' := hS.out.bl.trans (bd.mono hS.out.bl.size)
        obtain ⟨a4, c4, w6, q1, q2, q3⟩ := hS.out.app (atW l i) w' a' c' ⟨tg, (fx w' B').2.2⟩ (fun _ ad had => fr ad had) bd (by have := hnH.out; omega)
        refine ⟨a4, c4, w6, q1, ⟨q3, q2, ?_, hiL.out⟩, (fx w6 q3).1, fun o => (fx _ (B'.trans ((Below.refl _ w').alloc B'.size o))).1⟩
        rw [List.map_append, hS.out.is, List.take_add_one, atW_some hiL.out]; rfl
      have BH : Hid (Below w.heap.size w wr) := hS.out.bl
      have bl : b < wr.heap.size := Nat.lt_of_lt_of_le hbx hS.out.bl.size
      clear fx hx3 hbx hS
      unfold WAt at ax fA
      have atH : Hid (∃ y, y = atW l i) := ⟨_, rfl⟩
      obtain ⟨x, hx⟩ := atH.out
      have hxH : Hid (x = atW l i) := hx
      rw [← hx] at ax CH fA
      clear hx atH
      generalize x.s.t.length = nx at ax CH fA
      obtain ⟨x1, x2, x3, x4, x5, x6⟩ := ax
      go_wp2_with fail
      refine wp_region_noPanic ?_
      refine wp_region_held_drew (S := fun W => W.cell? ⟨b, off + i * 6, none⟩ = some (.string x.s.m) ∧ W.cell? ⟨b, off + i * 6 + 1, none⟩ = some (.slice tx nx cx) ∧ W.cell? ⟨b, off + i * 6 + 2, none⟩ = some (.string x.s.f) ∧ W.cell? ⟨b, off + i * 6 + 3, none⟩ = some (.int .i64 x.tm) ∧ W.cell? ⟨b, off + i * 6 + 4, none⟩ = some (.int .u8 (x.kd : Int)) ∧ W.cell? ⟨b, off + i * 6 + 5, none⟩ = some (.int .i64 x.n)) (by kernel_rfl) ⟨x1, x2, x3, x4, x5, x6⟩ (fun hHeld => ?_)
      refine zT 0 (v := ?_) rfl ?_ ?_
      rotate_left 1
      · (intro w0 hSw; (try dsimp only at hSw); obtain ⟨s1, s2, s3, s4, s5, s6⟩ := hSw; go_simp; try with_reducible rfl)
      (try simp only [z1, z2, z3]); (try simp only [Act.put, z4, z5, z6])
      refine zT 1 (v := ?_) rfl ?_ ?_
      rotate_left 1
      · (intro w0 hSw; (try dsimp only at hSw); obtain ⟨s1, s2, s3, s4, s5, s6⟩ := hSw; go_simp; try with_reducible rfl)
      (try simp only [z1, z2, z3]); (try simp only [Act.put, z4, z5, z6])
      refine zT 2 (v := ?_) rfl ?_ ?_
      rotate_left 1
      · (intro w0 hSw; (try dsimp only at hSw); obtain ⟨s1, s2, s3, s4, s5, s6⟩ := hSw; go_simp; try with_reducible rfl)
      (try simp only [z1, z2, z3]); (try simp only [Act.put, z4, z5, z6])
      refine zT 3 (v := ?_) rfl ?_ ?_
      rotate_left 1
      · (intro w0 hSw; (try dsimp only at hSw); obtain ⟨s1, s2, s3, s4, s5, s6⟩ := hSw; go_simp; try with_reducible rfl)
      (try simp only [z1, z2, z3]); (try simp only [Act.put, z4, z5, z6])
      refine zT 4 (v := ?_) rfl ?_ ?_
      rotate_left 1
      · (intro w0 hSw; (try dsimp only at hSw); obtain ⟨s1, s2, s3, s4, s5, s6⟩ := hSw; go_simp; try with_reducible rfl)
      (try simp only [z1, z2, z3]); (try simp only [Act.put, z4, z5, z6])
      refine zT 5 (v := ?_) rfl ?_ ?_
      rotate_left 1
      · (intro w0 hSw; (try dsimp only at hSw); obtain ⟨s1, s2, s3, s4, s5, s6⟩ := hSw; go_simp; try with_reducible rfl)
      (try simp only [z1, z2, z3]); (try simp only [Act.put, z4, z5, z6])
      refine zT 7 (v := ?_) rfl ?_ ?_
      rotate_left 1
      · (intro w0 hSw; (try dsimp only at hSw); obtain ⟨s1, s2, s3, s4, s5, s6⟩ := hSw; go_simp; try with_reducible rfl)
      (try simp only [z1, z2, z3]); (try simp only [Act.put, z4, z5, z6])
      refine zT 8 (v := ?_) rfl ?_ ?_
      rotate_left 1
      · (intro w0 hSw; (try dsimp only at hSw); obtain ⟨s1, s2, s3, s4, s5, s6⟩ := hSw; go_simp; try with_reducible rfl)
      (try simp only [z1, z2, z3]); (try simp only [Act.put, z4, z5, z6])
      refine zT 9 (v := ?_) rfl ?_ ?_
      rotate_left 1
      · (intro w0 hSw; (try dsimp only at hSw); obtain ⟨s1, s2, s3, s4, s5, s6⟩ := hSw; go_simp; try with_reducible rfl)
      (try simp only [z1, z2, z3]); (try simp only [Act.put, z4, z5, z6])
      refine zT 10 (v := ?_) rfl ?_ ?_
      rotate_left 1
      · (intro w0 hSw; (try dsimp only at hSw); obtain ⟨s1, s2, s3, s4, s5, s6⟩ := hSw; go_simp; try with_reducible rfl)
      (try simp only [z1, z2, z3]); (try simp only [Act.put, z4, z5, z6])
      refine zT 11 (v := ?_) rfl ?_ ?_
      rotate_left 1
      · (intro w0 hSw; (try dsimp only at hSw); obtain ⟨s1, s2, s3, s4, s5, s6⟩ := hSw; go_simp; try with_reducible rfl)
      (try simp only [z1, z2, z3]); (try simp only [Act.put, z4, z5, z6])
      refine wpAnyH_ready (rs := [6]) (by kernel_rfl) (by simp) ?_
      refine AllReadyH.cons (o := _) rfl (fun K hK => ?_) AllReadyH.nil
      go_simp
      refine Calls.mono (CH.out _ (show Below w.heap.size w wr.drew from BH.out.drew)) ?_
      rintro e w' ⟨a', c', rfl, tg, fr, BB⟩
      obtain ⟨a4, c4, w6, q1, q2, q3, q4⟩ := fA.out w' a' c' tg fr BB
      have S6 : Hid (WtS w l (i + 1) (.slice a4 (z + 1) c4) (L ++ [(x, a', c')]) w6) := q2
      have rH : Hid (∀ W N, W = w'.alloc (.cells #[.string x.s.m, .slice a' nx c', .string x.s.f, .int .i64 x.tm, .int .u8 (x.kd : Int), .int .i64 x.n] 52) → N = w'.heap.size → (Builtin.append_ #[22, 22] 22 #[.slice a3 z c3, .slice (some ⟨N, 0, none⟩) 1 1]).run Tryz.prog W = .ok (.slice a4 (z + 1) c4) w6) := q1
      have sA := q4
      have sB : w6.cell? ⟨b, off + i * 6, none⟩ = some (.string x.s.m) ∧ w6.cell? ⟨b, off + i * 6 + 1, none⟩ = some (.slice tx nx cx) ∧ w6.cell? ⟨b, off + i * 6 + 2, none⟩ = some (.string x.s.f) ∧ w6.cell? ⟨b, off + i * 6 + 3, none⟩ = some (.int .i64 x.tm) ∧ w6.cell? ⟨b, off + i * 6 + 4, none⟩ = some (.int .u8 (x.kd : Int)) ∧ w6.cell? ⟨b, off + i * 6 + 5, none⟩ = some (.int .i64 x.n) := q3
      clear q1 q2 q3 q4 tg fr
      try dsimp only
      refine hK _ _ ⟨by rw [BB.cell (p := ⟨b, off + i * 6, none⟩) bl]; exact x1, by rw [BB.cell (p := ⟨b, off + i * 6 + 1, none⟩) bl]; exact x2, by rw [BB.cell (p := ⟨b, off + i * 6 + 2, none⟩) bl]; exact x3, by rw [BB.cell (p := ⟨b, off + i * 6 + 3, none⟩) bl]; exact x4, by rw [BB.cell (p := ⟨b, off + i * 6 + 4, none⟩) bl]; exact x5, by rw [BB.cell (p := ⟨b, off + i * 6 + 5, none⟩) bl]; exact x6⟩ (fun hHeld => ?_)
      clear hK K
      (try simp only [z1, z2, z3]); (try simp only [Act.put, z4, z5, z6])
      refine zT 12 (v := ?_) rfl ?_ ?_
      rotate_left 1
      · (intro w0 hSw; (try dsimp only at hSw); obtain ⟨s1, s2, s3, s4, s5, s6⟩ := hSw; go_simp; try with_reducible rfl)
      (try simp only [z1, z2, z3]); (try simp only [Act.put, z4, z5, z6])
      refine wpAnyH_ready (rs := [13]) (by kernel_rfl) (by simp) ?_
      refine AllReadyH.cons (o := _) rfl (fun K hK => ?_) AllReadyH.nil
      go_simp
      try dsimp only
      refine hK _ _ (sA _) (fun hHeld => ?_)
      clear hK K
      (try simp only [z1, z2, z3]); (try simp only [Act.put, z4, z5, z6])
      refine wpAnyH_ready (rs := [14]) (by kernel_rfl) (by simp) ?_
      refine AllReadyH.cons (o := _) rfl (fun K hK => ?_) AllReadyH.nil
      refine step_append_runB rfl (.tmp 11) (.tmp 24) 22 rfl _ _ _ _ rfl rfl (rH.out _ _ rfl rfl) ?_
      refine hK _ _ sB (fun hHeld => ?_)
      clear hK K
      (try simp only [z1, z2, z3]); (try simp only [Act.put, z4, z5, z6])
      refine zT 15 (v := ?_) rfl ?_ ?_
      rotate_left 1
      · (intro w0 hSw; (try dsimp only at hSw); obtain ⟨s1, s2, s3, s4, s5, s6⟩ := hSw; go_simp; try with_reducible rfl)
      (try simp only [z1, z2, z3]); (try simp only [Act.put, z4, z5, z6])
      refine wpAnyH_done (by kernel_rfl) ?_ _
      refine NoPanic.normal ?_
      clear BB BH CH fA rH sA sB x1 x2 x3 x4 x5 x6 hHeld
      go_wp2_with fail
      exact ⟨⟨i + 1, a4, z + 1, c4, _, rfl, by first | rfl | simp, by omega, S6⟩, by simp [intOf]; omega⟩
    · have iI : ¬ (i : Int) < (n : Int) := by omega
      obtain rfl : i = n := by omega
      obtain ⟨a4, c4, w6, q1, q2, q3⟩ := hS.out.app markW wr none 0 ⟨Or.inl rfl, by decide⟩ (fun he => absurd rfl he) (Below.refl _ _) (by have := hnH.out; omega)
      have lz : z = i := by
        obtain ⟨_, _, e, _⟩ := hS.out.row.1.win
        injection e with _ e _
        rw [e, ← List.length_map (f := (·.1)), hS.out.is, List.length_take, ← nH.out]; exact Nat.min_self _
      subst lz
      obtain ⟨a5, c5, e5, h5, w5⟩ := q2.slice
      injection e5 with e6 e7 e8
      subst e6 e8
      have hw5 : WIn w6 a4 (l ++ [markW]) := by
        rw [List.map_append, hS.out.is, nH.out, List.take_length] at w5; exact w5
      obtain ⟨g, rfl⟩ : ∃ g, a4 = some ⟨g, 0, none⟩ := by
        rcases World.ownsRow.form q2.1.1 (by simp) with ⟨g, cap, e, _⟩
        injection e with e1 _ _
        exact ⟨g, e1⟩
      have hc5 : z + 1 ≤ c4 := by omega
      have fin : Hid (KpR w6 g c4 l ∧ Below w.heap.size w w6) := ⟨⟨by rw [← nH.out]; exact hc5, hw5⟩, q3⟩
      have rH : Hid (∀ W N, W = wr.alloc (.cells #[.string ⟨#[109, 97, 114, 107]⟩, .slice none 0 0, .string ⟨#[]⟩, .int .i64 0, .int .u8 0, .int .i64 0] 52) → N = wr.heap.size → (Builtin.append_ #[22, 22] 22 #[.slice a3 z c3, .slice (some ⟨N, 0, none⟩) 1 1]).run Tryz.prog W = .ok (.slice (some ⟨g, 0, none⟩) (z + 1) c4) w6) := q1
      have zc : (z : Int) ≤ (c4 : Int) := by omega
      clear q1 q2 q3 hS e7 h5 w5 hw5
      go_wp2_with (at_builtin; refine wpList_append_runB (by rfl) _ _ _ (by rfl) _ _ _ _ (by rfl) (by rfl) (rH.out _ _ (by first | rfl | simp) (by first | rfl | simp)) ?_)
      go_ret
      exact ⟨g, c4, rfl, fin.out⟩
set_option maxRecDepth 100000 in
set_option maxHeartbeats 4000000 in
theorem bkept_any (g c : Nat) (a2 : Option Addr) (c2 : Nat) (l : List WrP) (w : World) (hk : KpR w g c l) (hb : WIn w a2 l) (hn : l.length ≤ 549755813888) :
    Calls Tryz.prog 10 #[.slice (some ⟨g, 0, none⟩) l.length c, .slice a2 l.length c2] w fun e w' => e = .returned (.bool true) ∧ Below w.heap.size w w' := by
  have C1 : Hid (Calls Tryz.prog 13 #[.slice (some ⟨g, 0, none⟩) l.length c, .slice a2 l.length c2] w fun e w' => e = .returned (.bool true) ∧ Below w.heap.size w w') := sameWrites_true _ _ c c2 l w hk.win hb (by omega)
  have mk := hk.mark
  have hc := hk.1
  clear hk hb
  generalize l.length = n at *
  have mH : Hid (∀ W, Below w.heap.size w W → W.cell? ⟨g, n * 6, none⟩ = some (.string ⟨#[109, 97, 114, 107]⟩)) := fun W hW => by rw [hW.cell (p := ⟨g, n * 6, none⟩) mk.1]; exact mk.2
  have k1 : (n : Int) + 1 ≤ (c : Int) := by omega
  have k2 : (0 : Int) ≤ (n : Int) + 1 := by omega
  have k3 : -9223372036854775808 ≤ (n : Int) + 1 ∧ (n : Int) + 1 ≤ 9223372036854775807 := by omega
  have k4 : (n : Int) < (n : Int) + 1 := by omega
  have k5 : (0 : Int) ≤ (n : Int) := by omega
  have wk : wrap64 ((n : Int) + 1) = (n : Int) + 1 := IntWalk.wrap64_in _ k3
  have wi : IntKind.i64.wrap ((n : Int) + 1) = (n : Int) + 1 := IntWalk.i64_in _ k3
  clear k3
  clear mk
  go_enter Tryz.func10, Tryz.ntmps10
  go_wp2_with fail
  refine Calls.mono C1.out ?_
  rintro e w1 ⟨rfl, b1⟩
  have b1H : Hid (Below w.heap.size w w1) := b1
  have m1 := mH.out w1 b1
  clear b1 C1 mH
  go_wp2_with fail
  go_ret
  exact ⟨rfl, b1H.out⟩
end Go.Proofs.YtepakgfdakeibaaGreatDoor
