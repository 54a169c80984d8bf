
import Derived.Test.YtgodihhlpcnbiaaGreatDoorBdA
import Derived.Test.YtgodihhlpcnbiaaGreatDoorProg
import Derived.Deep.AppendLies
import Derived.RowKit
import Derived.WalkKit
import Derived.Laws.BitsAllLaws
import Derived.Test.YtgodihhlpcnbiaaGreatDoorBgD
namespace Go.Proofs.YtgodihhlpcnbiaaGreatDoor
open Go.RowKit _root_.Go.Proofs.YtgodihhlpcnbiaaGreatDoor.So
set_option linter.unusedVariables false
set_option linter.unusedSimpArgs false
theorem choose_belowW {α : Type} [Inhabited α] {n : Nat} {P : Nat → α → Prop} (h : ∀ i, i < n → ∃ x, P i x) : ∃ f : Nat → α, ∀ i, i < n → P i (f i) := by
  refine ⟨fun i => if hi : i < n then Classical.choose (h i hi) else default, fun i hi => ?_⟩
  simp only [dif_pos hi]
  exact Classical.choose_spec (h i hi)
instance : Inhabited WrP := ⟨noW⟩
/-- rows that lie in memory, with where their tags lie. -/
theorem WIn.enc {w : World} {b off : Nat} {l : List WrP} (h : WIn w (some ⟨b, off, none⟩) l) : ∃ L : List WrA, L.map (·.1) = l ∧ (∀ t ∈ L, SerIn w t.2.1 t.1.s) ∧ ∀ j u, (encW L)[j]? = some u → w.cell? ⟨b, off + j, none⟩ = some u := by
  rcases h with h | ⟨b', off', e, hb, hc⟩
  · subst h; exact ⟨[], rfl, fun t ht => (by cases ht), fun j u hj => by simp [encW] at hj⟩
  · injection e with e
    injection e with e1 e2
    subst e1 e2
    have each : ∀ i, i < l.length → ∃ q : Option Addr × Nat, WAt w b (off + i * 6) (atW l i) q.1 q.2 ∧ SerIn w q.1 (atW l i).s := fun i hi => by
      obtain ⟨ta, tc, h1, h2⟩ := hc i _ (atW_some hi)
      exact ⟨(ta, tc), h1, h2⟩
    obtain ⟨q, hq⟩ := choose_belowW each
    have hget : ∀ i, i < l.length → ((List.range l.length).map fun i => ((atW l i, (q i).1, (q i).2) : WrA))[i]? = some (atW l i, (q i).1, (q i).2) := fun i hi => by rw [List.getElem?_map, List.getElem?_range hi]; rfl
    refine ⟨(List.range l.length).map fun i => (atW l i, (q i).1, (q i).2), ?_, fun t ht => ?_, fun j u hj => ?_⟩
    · refine List.ext_getElem? fun i => ?_
      rw [List.map_map, List.getElem?_map]
      rcases Nat.lt_or_ge i l.length with hi | hi
      · rw [List.getElem?_range hi, atW_some hi]; rfl
      · rw [List.getElem?_eq_none (by simpa using hi), List.getElem?_eq_none hi]; rfl
    · obtain ⟨i, hi, rfl⟩ := List.mem_map.1 ht
      exact (hq i (List.mem_range.1 hi)).2
    · have hj2 : j < l.length * 6 := by
        have := (List.getElem?_eq_some_iff.1 hj).1
        rw [encW_len] at this
        simpa using this
      have hi : j / 6 < l.length := by omega
      obtain ⟨e1, e2, e3, e4, e5, e6⟩ := encW_get _ _ _ (hget _ hi)
      obtain ⟨c1, c2, c3, c4, c5, c6⟩ := (hq _ hi).1
      rcases (by omega : j % 6 = 0 ∨ j % 6 = 1 ∨ j % 6 = 2 ∨ j % 6 = 3 ∨ j % 6 = 4 ∨ j % 6 = 5) with r | r | r | r | r | r
      · rw [show j = j / 6 * 6 by omega] at hj ⊢
        rw [e1] at hj
        rw [c1, ← hj]
      · rw [show j = j / 6 * 6 + 1 by omega] at hj ⊢
        rw [e2] at hj
        rw [← Nat.add_assoc, c2, ← hj]
      · rw [show j = j / 6 * 6 + 2 by omega] at hj ⊢
        rw [e3] at hj
        rw [← Nat.add_assoc, c3, ← hj]
      · rw [show j = j / 6 * 6 + 3 by omega] at hj ⊢
        rw [e4] at hj
        rw [← Nat.add_assoc, c4, ← hj]
      · rw [show j = j / 6 * 6 + 4 by omega] at hj ⊢
        rw [e5] at hj
        rw [← Nat.add_assoc, c5, ← hj]
      · rw [show j = j / 6 * 6 + 5 by omega] at hj ⊢
        rw [e6] at hj
        rw [← Nat.add_assoc, c6, ← hj]
theorem app_noW (W : World) (a ad : Option Addr) (n cap c : Nat) (h : n ≤ cap) : (Builtin.append_ #[35, 35] 35 #[.slice a n cap, .slice ad 0 c]).run Tryz.prog W = .ok (.slice a n cap) W := by
  obtain ⟨i, i1, i0⟩ := Option.map_eq_some_iff.1 wr_info
  cases a <;> cases ad <;> simp [Builtin.append_, run_underlying Tryz.underlying35, sizeOf, typeInfo, i1, Builtin.lenOf, Builtin.firstCells, storeCells, loadCells, loadCellsFrom, h]
theorem OW.slice' {w : World} {B : Nat} {v : Value} {L : List WrA} (h : w.ownsRow B 60 6 v L.length (encW L)) : ∃ a cap, v = .slice a L.length cap ∧ L.length ≤ cap := by
  rcases h.2 with ⟨e1, e2⟩ | ⟨g, cap', cur, e1, _, _, hc, _⟩
  · exact ⟨none, 0, by rw [e1, e2], by omega⟩
  · exact ⟨_, cap', e1, hc⟩
/-- a row of one's own whose tags all lie where they lay at the beginning. -/
structure CcS (w0 W : World) (v : Value) (L : List WrA) : Prop where
  own : W.ownsRow w0.heap.size 60 6 v L.length (encW L)
  tg : ∀ t ∈ L, SerIn w0 t.2.1 t.1.s
  bl : Below w0.heap.size w0 W
theorem CcS.nil (w : World) : CcS w w (.slice none 0 0) [] := ⟨⟨rfl, Or.inl ⟨rfl, rfl⟩⟩, (fun t h => by cases h), Below.refl _ _⟩
theorem CcS.win {w0 W : World} {v : Value} {L : List WrA} (h : CcS w0 W v L) : ∃ a cap, v = .slice a L.length cap ∧ L.length ≤ cap ∧ WIn W a (L.map (·.1)) := by
  obtain ⟨a, cap, e, hc⟩ := OW.slice' h.own
  have ho : OW W w0.heap.size v L := ⟨h.own, fun t ht => (h.tg t ht).belowW h.bl⟩
  obtain ⟨a', cap', e', hw⟩ := ho.win
  rw [e] at e'
  injection e' with e1 e2 e3
  subst e1 e3
  exact ⟨a, cap, e, hc, hw⟩
/-- a row appended, or none. -/
theorem appW (w0 W : World) (v : Value) (L : List WrA) (h : CcS w0 W v L) (a : Option Addr) (c : Nat) (m : List WrP) (hm : WIn w0 a m) (hn : L.length + m.length ≤ 1099511627776) :
    ∃ v' w' M, (Builtin.append_ #[35, 35] 35 #[v, .slice a m.length c]).run Tryz.prog W = .ok v' w' ∧ M.map (·.1) = m ∧ CcS w0 w' v' (L ++ M) := by
  rcases Nat.eq_zero_or_pos m.length with h0 | h0
  · have e := List.eq_nil_of_length_eq_zero h0
    subst e
    obtain ⟨a1, c1, e1, hc1⟩ := OW.slice' h.own
    exact ⟨v, W, [], by rw [e1]; exact app_noW _ _ _ _ _ _ hc1, rfl, by rw [List.append_nil]; exact h⟩
  · have hm' := hm
    rcases hm with e | ⟨b, off, e, hb, hc⟩
    · rw [e] at h0; simp at h0
    · subst e
      obtain ⟨M, hM, hs, hcs⟩ := hm'.enc
      have lM : M.length = m.length := by rw [← hM, List.length_map]
      obtain ⟨i, i1, i0⟩ := Option.map_eq_some_iff.1 wr_info
      have i2 : i.zero = some (.agg #[.string ⟨#[]⟩, .slice none 0 0, .string ⟨#[]⟩, .int .i64 0, .int .u8 0, .int .i64 0]) := congrArg (·.1) i0
      have i3 : i.bytes = 80 := congrArg (·.2.1) i0
      have i4 : i.size = 6 := congrArg (·.2.2) i0
      have hml : maxLen = 9223372036854775807 := by decide
      obtain ⟨g, cap, w', hr, own, gr, hat, hlt2⟩ := run_append_lies (P := Tryz.prog) W 35 35 w0.heap.size 60 i (.agg #[.string ⟨#[]⟩, .slice none 0 0, .string ⟨#[]⟩, .int .i64 0, .int .u8 0, .int .i64 0]) 6 80 Tryz.underlying35 i1 i2 i4 i3 rfl (by omega) v L.length (encW L) h.own ⟨b, off, none⟩ m.length c (encW M) (by rw [encW_len, lM]) (fun j u hj => by rw [tag_add, h.bl.cell (p := ⟨b, off + j, none⟩) hb]; exact hcs j u hj) (encW_one _) h0 (by omega) (by omega) h.bl.size _ rfl
      refine ⟨_, w', M, hr, hM, ?_, fun t ht => ?_, h.bl.trans ((Below.refl w0.heap.size W).grown gr h.bl.size (fun k e => (World.ownsRow.lt h.own k e).1))⟩
      · rw [List.length_append, lM, encW_append]; exact own
      · rcases List.mem_append.1 ht with q | q
        · exact h.tg t q
        · exact hs t q
end Go.Proofs.YtgodihhlpcnbiaaGreatDoor

namespace Go.Proofs.YtgodihhlpcnbiaaGreatDoor
open Go.RowKit
set_option linter.unusedVariables false
set_option linter.unusedSimpArgs false
theorem wr_infoG : (Tryz.prog.info? 60).map (fun i => (i.zero, i.bytes, i.size)) = some (some (.agg #[.string ⟨#[]⟩, .slice none 0 0, .string ⟨#[]⟩, .int .i64 0, .int .u8 0, .int .i64 0]), 80, 6) := by kernel_rfl
abbrev zW6 : Array Value := #[.string ⟨#[]⟩, .slice none 0 0, .string ⟨#[]⟩, .int .i64 0, .int .u8 0, .int .i64 0]
/-- room for n, where there was nothing: append of what make makes. -/
theorem grow_run (w : World) (n : Nat) (h0 : 0 < n) (hn : n ≤ 1099511627776) :
    (Builtin.append_ #[35, 3] 35 #[.slice none 0 0, .int .i64 (n : Int)]).run Tryz.prog w = .ok (.slice (some ⟨w.heap.size, 0, none⟩) n (grownCap w n 0 60)) (w.drew.alloc (.cells (Builtin.zeroCells zW6 n ++ Builtin.zeroCells zW6 (grownCap w n 0 60 - n)) 60)) := by
  obtain ⟨i, i1, i0⟩ := Option.map_eq_some_iff.1 wr_infoG
  have i2 : i.zero = some (.agg zW6) := congrArg (·.1) i0
  have i3 : i.bytes = 80 := congrArg (·.2.1) i0
  have i4 : i.size = 6 := congrArg (·.2.2) i0
  have nw : IntKind.i64.wrap (n : Int) = (n : Int) := IntWalk.i64_in _ (by omega)
  have a1 : ¬ ((n : Int) < 0) := by omega
  have a2 : ¬ (281474976710656 < (n : Int) * 80) := by omega
  have a3 : ¬ (n = 0) := by omega
  have a4 : ¬ (n * 6 = 0) := by omega
  have a5 : ¬ (9223372036854775807 < (n : Int)) := by omega
  have a6 : Builtin.nextslicecap n 0 = n := by unfold Builtin.nextslicecap; rw [if_pos (by omega)]
  have a7 : ¬ (281474976710656 < n * 80) := by omega
  have hz6 : (Value.agg zW6).cells = zW6 := rfl
  simp [Builtin.append_, run_underlying Tryz.underlying35, run_underlying Tryz.underlying3, sizeOf, typeInfo, zeroValue, i1, i2, i3, i4, asInt, asIntOf, nw, a1, a2, a3, a4, a5, a6, a7, Question.forced, newRow, grownCap, Builtin.firstCells, hz6]
theorem zero_size (n : Nat) : (Builtin.zeroCells zW6 n).size = n * 6 := by simp [Builtin.zeroCells]
theorem wpList_append_runX {P : Program} {ops : Array Oper} {rest : List Oper} {o : Oper} {a : Act} {Q : Exit → Act → World → Prop} {w : World} (hgd : o.guard = none) (s x : Operand) (t u : TypeId)
    (ho : o.op = .call { callee := .builtin .append, args := #[s, x], argTypes := #[t, u] }) (v y v' : Value) (w' : World) (hs : a.eval s = v) (hx : a.eval x = y) (hr : (Builtin.append_ #[t, u] o.type #[v, y]).run P w = .ok v' w')
    (h : wpList P ops Q rest (a.put o.dst v') w') : wpList P ops Q (o :: rest) a w := by
  refine wpList_plain hgd fun K hK => ?_
  unfold Oper.wp execOp
  simp only [ho, resolve, invoke, builtin, Sem.run_bind, Sem.run_pure, Result.andThen_ok, List.map_toArray, List.map_cons, List.map_nil, hs, hx, hr]
  exact hK _ _ h
end Go.Proofs.YtgodihhlpcnbiaaGreatDoor

namespace Go.Proofs.YtgodihhlpcnbiaaGreatDoor
open Go.RowKit _root_.Go.Proofs.YtgodihhlpcnbiaaGreatDoor.So
set_option linter.unusedVariables false
set_option linter.unusedSimpArgs false
theorem grow_ccs (w : World) (n : Nat) (hn : n ≤ 1099511627776) : CcS w (w.drew.alloc (.cells (Builtin.zeroCells zW6 n ++ Builtin.zeroCells zW6 (grownCap w n 0 60 - n)) 60)) (.slice (some ⟨w.heap.size, 0, none⟩) 0 (grownCap w n 0 60)) [] := by
  have hml : maxLen = 9223372036854775807 := by decide
  have g1 := grownCap_ge w n 0 60
  have g2 := grownCap_le_maxLen w n 0 60 (by omega)
  have bd : Below w.heap.size w w.drew := (Below.refl _ w).drew
  refine ⟨⟨rfl, Or.inr ⟨w.heap.size, _, _, rfl, Nat.le_refl _, heap_alloc_new w.drew _, Nat.zero_le _, g2, ?_, by simp [encW]⟩⟩, (fun t h => by cases h), bd.alloc (Nat.le_refl _) _⟩
  rw [Array.size_append, zero_size, zero_size]; omega
set_option maxRecDepth 100000 in
set_option maxHeartbeats 4000000 in
theorem grow_any (w : World) (n : Nat) (hn : n ≤ 1099511627776) :
    Calls Tryz.prog 55 #[.slice none 0 0, .int .i64 (n : Int)] w fun e w' => ∃ a cap, e = .returned (.slice a 0 cap) ∧ CcS w w' (.slice a 0 cap) [] := by
  rcases Nat.eq_zero_or_pos n with h0 | h0
  · subst h0
    have fin : Hid (CcS w w (.slice none 0 0) []) := CcS.nil w
    go_enter Tryz.func55, Tryz.ntmps55
    go_wp2_with fail
    go_ret
    exact ⟨_, _, rfl, fin.out⟩
  · have hr := grow_run w n h0 hn
    have hS := grow_ccs w n hn
    generalize grownCap w n 0 60 = cap at hr hS
    generalize w.drew.alloc (.cells (Builtin.zeroCells zW6 n ++ Builtin.zeroCells zW6 (cap - n)) 60) = w1 at hr hS
    have rH : Hid (∀ W, W = w → (Builtin.append_ #[35, 3] 35 #[.slice none 0 0, .int .i64 (n : Int)]).run Tryz.prog W = .ok (.slice (some ⟨w.heap.size, 0, none⟩) n cap) w1) := fun W e => by subst e; exact hr
    have fin : Hid (CcS w w1 (.slice (some ⟨w.heap.size, 0, none⟩) 0 cap) []) := hS
    have n0 : ¬ (n : Int) < 0 := by omega
    have n1 : (0 : Int) < (n : Int) := by omega
    have nw : IntKind.i64.wrap (n : Int) = (n : Int) := IntWalk.i64_in _ (by omega)
    have nw2 : IntKind.i64.wrap ((n : Int) - 0) = (n : Int) := IntWalk.i64_in _ (by omega)
    clear hr hS
    go_enter Tryz.func55, Tryz.ntmps55
    go_wp2_with (at_builtin; refine wpList_append_runX (by rfl) _ _ _ _ (by rfl) _ _ _ _ (by rfl) (by rfl) (rH.out _ (by first | rfl | simp)) ?_)
    go_ret
    exact ⟨_, _, rfl, fin.out⟩
/-- what has been laid so far. -/
def preC (l m : List WrP) (k : Nat) : List WrP := if k = 0 then [] else if k = 1 then l else l ++ m
set_option maxRecDepth 100000 in
set_option maxHeartbeats 8000000 in
theorem concat_any (w : World) (P : Nat) (hP : P < w.heap.size) (a1 a2 : Option Addr) (c1 c2 : Nat) (l m : List WrP) (h1 : WIn w a1 l) (h2 : WIn w a2 m) (p1 : w.cell? ⟨P, 0, none⟩ = some (.slice a1 l.length c1)) (p2 : w.cell? ⟨P, 1, none⟩ = some (.slice a2 m.length c2)) (hn : l.length + m.length ≤ 1099511627776) :
    Calls Tryz.prog 31 #[.slice (some ⟨P, 0, none⟩) 2 2] w fun e w' => ∃ a z cap L, e = .returned (.slice a z cap) ∧ CcS w w' (.slice a z cap) L ∧ L.map (·.1) = l ++ m := by
  have lz : ∀ {wr : World} {a : Option Addr} {z c : Nat} {L : List WrA}, CcS w wr (.slice a z c) L → L.length = z := fun h => by
    obtain ⟨_, _, e, _⟩ := h.win
    injection e with _ e _
    exact e.symm
  have hA : Hid (∀ (wr : World) (a : Option Addr) (z c : Nat) (L : List WrA), CcS w wr (.slice a z c) L → L.map (·.1) = [] → ∃ v' w' M, (Builtin.append_ #[35, 35] 35 #[.slice a z c, .slice a1 l.length c1]).run Tryz.prog wr = .ok v' w' ∧ CcS w w' v' M ∧ M.map (·.1) = l) := fun wr a z c L h e => by
    have hL : L = [] := List.map_eq_nil_iff.1 e
    subst hL
    obtain ⟨v', w', M, q1, q2, q3⟩ := appW w wr _ _ h a1 c1 l h1 (by simp; omega)
    exact ⟨v', w', M, q1, q3, q2⟩
  have hB : Hid (∀ (wr : World) (a : Option Addr) (z c : Nat) (L : List WrA), CcS w wr (.slice a z c) L → L.map (·.1) = l → ∃ v' w' M, (Builtin.append_ #[35, 35] 35 #[.slice a z c, .slice a2 m.length c2]).run Tryz.prog wr = .ok v' w' ∧ CcS w w' v' M ∧ M.map (·.1) = l ++ m) := fun wr a z c L h e => by
    have : L.length = l.length := by rw [← e, List.length_map]
    obtain ⟨v', w', M, q1, q2, q3⟩ := appW w wr _ _ h a2 c2 m h2 (by omega)
    exact ⟨v', w', L ++ M, q1, q3, by rw [List.map_append, e, q2]⟩
  have sl : Hid (∀ (wr : World) (v : Value) (L : List WrA), CcS w wr v L → ∃ a z c, v = .slice a z c) := fun wr v L h => by
    obtain ⟨a, c, e, _⟩ := h.win
    exact ⟨a, _, c, e⟩
  have cP : Hid (∀ (wr : World) (v : Value) (L : List WrA), CcS w wr v L → wr.cell? ⟨P, 0, none⟩ = some (.slice a1 l.length c1) ∧ wr.cell? ⟨P, 1, none⟩ = some (.slice a2 m.length c2)) := fun wr v L h => ⟨by rw [h.bl.cell (p := ⟨P, 0, none⟩) hP]; exact p1, by rw [h.bl.cell (p := ⟨P, 1, none⟩) hP]; exact p2⟩
  have CG : Hid (Calls Tryz.prog 55 #[.slice none 0 0, .int .i64 (((l.length + m.length : Nat)) : Int)] w fun e w' => ∃ a cap, e = .returned (.slice a 0 cap) ∧ CcS w w' (.slice a 0 cap) []) := grow_any w _ hn
  clear lz h1 h2
  generalize l.length = n1 at *
  generalize m.length = n2 at *
  have k1 : ¬ (n1 : Int) < 0 := by omega
  have k2 : ¬ (((n1 + n2 : Nat)) : Int) < 0 := by omega
  have e1 : IntKind.i64.wrap (n1 : Int) = (n1 : Int) := IntWalk.i64_in _ (by omega)
  have e2 : IntKind.i64.wrap ((n1 : Int) + (n2 : Int)) = ((n1 + n2 : Nat) : Int) := IntWalk.i64_in _ (by omega)
  go_enter Tryz.func31, Tryz.ntmps31
  go_wp2_with fail
  go_loopw [3, 11] (fun sz ix wr => (wr = w) ∧ ((ix = .int .i64 0 ∧ sz = .int .i64 0) ∨ (ix = .int .i64 1 ∧ sz = .int .i64 (n1 : Int)) ∨ (ix = .int .i64 2 ∧ sz = .int .i64 (((n1 + n2 : Nat)) : Int)))) (fun _ ix _ => 2 - (intOf ix).toNat)
  case atStart => exact ⟨rfl, Or.inl ⟨rfl, rfl⟩⟩
  case round =>
    obtain ⟨hwr, hcs⟩ := hrel
    subst wr
    rcases hcs with ⟨rfl, rfl⟩ | ⟨rfl, rfl⟩ | ⟨rfl, rfl⟩
    · go_wp2_with fail
      exact ⟨⟨by first | rfl | trivial, Or.inr (Or.inl ⟨rfl, by first | rfl | simp⟩)⟩, by simp [intOf]⟩
    · go_wp2_with fail
      exact ⟨⟨by first | rfl | trivial, Or.inr (Or.inr ⟨rfl, by first | rfl | simp⟩)⟩, by simp [intOf]⟩
    · clear p1 p2
      go_wp2_with fail
      refine Calls.mono CG.out ?_
      rintro e w1 ⟨a, cap, rfl, hS⟩
      have S0 : Hid (CcS w w1 (.slice a 0 cap) [] ∧ ([] : List WrA).map (·.1) = preC l m 0) := ⟨hS, rfl⟩
      clear hS CG
      go_wp2_with fail
      go_loopw [6, 27] (fun v ix wx => ∃ (k : Nat) (a : Option Addr) (z c : Nat) (L : List WrA), (k = 0 ∨ k = 1 ∨ k = 2) ∧ ix = .int .i64 (k : Int) ∧ v = .slice a z c ∧ Hid (CcS w wx (.slice a z c) L ∧ L.map (·.1) = preC l m k)) (fun _ ix _ => 2 - (intOf ix).toNat)
      case atStart => exact ⟨0, a, 0, cap, [], Or.inl rfl, rfl, rfl, S0⟩
      case round =>
        clear S0
        obtain ⟨k, a, z, c, L, (rfl | rfl | rfl), rfl, rfl, hS⟩ := hrel
        · obtain ⟨x1, x2⟩ := cP.out _ _ _ hS.out.1
          obtain ⟨v', w', M, q1, q2, q3⟩ := hA.out _ a z c L hS.out.1 hS.out.2
          obtain ⟨a', z', c', rfl⟩ := sl.out _ _ _ q2
          have rH : Hid (∀ W, W = wr → (Builtin.append_ #[35, 35] 35 #[.slice a z c, .slice a1 n1 c1]).run Tryz.prog W = .ok (.slice a' z' c') w') := fun W e => by subst e; exact q1
          have S1 : Hid (CcS w w' (.slice a' z' c') M ∧ M.map (·.1) = preC l m 1) := ⟨q2, q3⟩
          clear q1 q2 q3 hS
          go_wp2_with (at_builtin; refine wpList_append_runB (by rfl) _ _ _ (by rfl) _ _ _ _ (by rfl) (by rfl) (rH.out _ (by first | rfl | simp)) ?_)
          exact ⟨⟨1, a', z', c', M, Or.inr (Or.inl rfl), rfl, rfl, S1⟩, by simp [intOf]⟩
        · obtain ⟨x1, x2⟩ := cP.out _ _ _ hS.out.1
          obtain ⟨v', w', M, q1, q2, q3⟩ := hB.out _ a z c L hS.out.1 hS.out.2
          obtain ⟨a', z', c', rfl⟩ := sl.out _ _ _ q2
          have rH : Hid (∀ W, W = wr → (Builtin.append_ #[35, 35] 35 #[.slice a z c, .slice a2 n2 c2]).run Tryz.prog W = .ok (.slice a' z' c') w') := fun W e => by subst e; exact q1
          have S1 : Hid (CcS w w' (.slice a' z' c') M ∧ M.map (·.1) = preC l m 2) := ⟨q2, q3⟩
          clear q1 q2 q3 hS
          go_wp2_with (at_builtin; refine wpList_append_runB (by rfl) _ _ _ (by rfl) _ _ _ _ (by rfl) (by rfl) (rH.out _ (by first | rfl | simp)) ?_)
          exact ⟨⟨2, a', z', c', M, Or.inr (Or.inr rfl), rfl, rfl, S1⟩, by simp [intOf]⟩
        · go_wp2_with fail
          go_ret
          exact ⟨a, z, c, L, rfl, hS.out.1, hS.out.2⟩
/-- what the program's Order, Merge tell: the document's. -/
theorem orderD (a : Option Addr) (c : Nat) (l : List WrP) (w : World) (hl : WIn w a l) (hn : l.length ≤ 549755813888) (hts : ∀ x ∈ l, x.s.t.length ≤ 4398046511104) :
    Calls Tryz.prog 27 #[.slice a l.length c] w fun e w' => OdR w w' l e :=
  (order_any a c l w hl hn hts).mono fun e w' hh => by
    obtain ⟨out, L, v, rfl, hs, o, i, b⟩ := hh
    obtain ⟨a', cap, e', _⟩ := o.slice
    subst e'
    exact ⟨a', L.length, cap, L, rfl, o, by rw [i]; exact ordL_is l out hs, b⟩
set_option maxRecDepth 100000 in
set_option maxHeartbeats 4000000 in
theorem bmerge_any (a a2 : Option Addr) (c c2 : Nat) (l m : List WrP) (w : World) (ha : WIn w a l) (hb : WIn w a2 m) (hn : l.length + m.length ≤ 549755813888) (htl : ∀ x ∈ l, x.s.t.length ≤ 4398046511104) (htm : ∀ x ∈ m, x.s.t.length ≤ 4398046511104) :
    Calls Tryz.prog 16 #[.slice a l.length c, .slice a2 m.length c2] w fun e w' => OdR w w' (l ++ m) e := by
  obtain ⟨w1, hw1⟩ : ∃ w1, w1 = w.alloc (.cells #[.slice a l.length c, .slice a2 m.length c2] 35) := ⟨_, rfl⟩
  have b1 : Below w.heap.size w w1 := by rw [hw1]; exact (Below.refl _ w).alloc (Nat.le_refl _) _
  have C1 : Hid (Calls Tryz.prog 31 #[.slice (some ⟨w.heap.size, 0, none⟩) 2 2] w1 fun e w' => ∃ a z cap L, e = .returned (.slice a z cap) ∧ CcS w1 w' (.slice a z cap) L ∧ L.map (·.1) = l ++ m) := concat_any w1 w.heap.size (by rw [hw1]; simp) a a2 c c2 l m (ha.below b1) (hb.below b1) (by rw [hw1]; simp [go_sem]) (by rw [hw1]; simp [go_sem]) (by omega)
  have C2 : Hid (∀ (w2 : World) (a3 : Option Addr) (z c3 : Nat) (L : List WrA), CcS w1 w2 (.slice a3 z c3) L → L.map (·.1) = l ++ m → Calls Tryz.prog 27 #[.slice a3 z c3] w2 fun e w' => OdR w w' (l ++ m) e) := fun w2 a3 z c3 L hS e => by
    obtain ⟨a', cap, e', hc, hw⟩ := hS.win
    injection e' with q1 q2 q3
    subst q1 q3
    rw [e] at hw
    have lL : L.length = (l ++ m).length := by rw [← e, List.length_map]
    rw [q2, lL]
    refine (orderD a3 c3 (l ++ m) w2 hw (by rw [List.length_append]; exact hn) (fun x hx => (List.mem_append.1 hx).elim (htl x) (htm x))).mono fun e w' hh => ?_
    obtain ⟨a4, z4, c4, L4, rfl, o, i, b⟩ := hh
    have B2 := b1.trans (hS.bl.mono b1.size)
    exact ⟨a4, z4, c4, L4, rfl, o.mono B2.size, i, B2.trans (b.mono B2.size)⟩
  clear b1 ha hb hn htl htm
  generalize l.length = n1 at *
  generalize m.length = n2 at *
  go_enter Tryz.func16, Tryz.ntmps16
  go_wp2_with fail
  rw [← hw1]
  clear hw1
  refine Calls.mono C1.out ?_
  rintro e w2 ⟨a3, z3, d3, L3, rfl, hS, hi⟩
  have C4 : Hid _ := C2.out w2 a3 z3 d3 L3 hS hi
  clear hS hi C1 C2
  go_wp2_with fail
  refine Calls.mono C4.out ?_
  rintro e w3 ⟨a4, z4, d4, L4, rfl, r⟩
  have fin : Hid (OdR w w3 (l ++ m) (.returned (.slice a4 z4 d4))) := ⟨a4, z4, d4, L4, rfl, r⟩
  clear r C4
  go_wp2_with fail
  go_ret
  exact fin.out
end Go.Proofs.YtgodihhlpcnbiaaGreatDoor

namespace Go.Proofs.YtgodihhlpcnbiaaGreatDoor
open Go.RowKit _root_.Go.Proofs.YtgodihhlpcnbiaaGreatDoor.So
set_option linter.unusedVariables false
set_option linter.unusedSimpArgs false
set_option maxRecDepth 100000 in
set_option maxHeartbeats 16000000 in
/-- SameWrites, of rows that are the same. -/
theorem sameWrites_true (a a2 : Option Addr) (c c2 : Nat) (l : List WrP) (w : World) (ha : WIn w a l) (hb : WIn w a2 l) (hn : l.length ≤ 1099511627775) :
    Calls Tryz.prog 15 #[.slice a l.length c, .slice a2 l.length c2] w fun e w' => e = .returned (.bool true) ∧ Below w.heap.size w w' := by
  obtain ⟨n, hn1⟩ : ∃ n, n = l.length := ⟨_, rfl⟩
  have nH : Hid (n = l.length) := hn1
  rw [← hn1] at hn ⊢
  have aH : Hid (WIn w a l) := ha
  have bH : Hid (WIn w a2 l) := hb
  have W0 : Hid (Below w.heap.size w w) := Below.refl _ _
  have nn : ((n : Int) == (n : Int)) = true := by simp
  clear ha hb hn1
  go_enter Tryz.func15, Tryz.ntmps15
  go_wp2_with fail
  go_loopw [5] (fun v wr => ∃ (i : Nat), v = .int .i64 (i : Int) ∧ i ≤ n ∧ Hid (Below w.heap.size w wr)) (fun v _ => n - (intOf v).toNat)
  case atStart => exact ⟨0, rfl, Nat.zero_le _, W0⟩
  case round =>
    clear W0
    obtain ⟨i, rfl, il, BH⟩ := hrel
    have i0 : (0 : Int) ≤ (i : Int) := by omega
    have wi : IntKind.i64.wrap ((i : Int) + 1) = ((i + 1 : Nat) : Int) := IntWalk.i64_in _ (by omega)
    by_cases hi : i < n
    · have iI : (i : Int) < (n : Int) := by omega
      have hiL : Hid (i < l.length) := by rw [← nH.out]; exact hi
      obtain ⟨b, off, tx, cx, e1, hbx, ax, fx⟩ := aH.out.at BH.out (atW_some hiL.out)
      obtain ⟨b', off', ty, cy, e2, hby, ay, fy⟩ := bH.out.at BH.out (atW_some hiL.out)
      subst e1 e2
      have CH : Hid (∀ W', Below w.heap.size w W' → Calls Tryz.prog 30 #[wV (atW l i) tx cx, wV (atW l i) ty cy] W' fun e w' => e = .returned (.int .i64 0) ∧ Below W'.heap.size W' w') := fun W' hW' => by
        have := rpcompare_any (atW l i) (atW l i) tx ty cx cy W' (fx W' hW').2 (fy W' hW').2
        rw [wC_self] at this
        exact this
      clear fx fy
      unfold wV at CH
      unfold WAt at ax ay
      generalize atW l i = x at ax ay CH
      generalize x.s.t.length = nx at ax ay CH
      have bl : b < wr.heap.size := Nat.lt_of_lt_of_le hbx BH.out.size
      have bl' : b' < wr.heap.size := Nat.lt_of_lt_of_le hby BH.out.size
      clear hbx hby
      obtain ⟨x1, x2, x3, x4, x5, x6⟩ := ax
      obtain ⟨y1, y2, y3, y4, y5, y6⟩ := ay
      go_wp2_with fail
      refine wp_region_noPanic ?_
      refine wp_region_held_drew (S := fun W => (W.cell? ⟨b, off + i * 6, none⟩ = some (.string x.s.m) ∧ W.cell? ⟨b, off + i * 6 + 1, none⟩ = some (.slice tx nx cx) ∧ W.cell? ⟨b, off + i * 6 + 2, none⟩ = some (.string x.s.f) ∧ W.cell? ⟨b, off + i * 6 + 3, none⟩ = some (.int .i64 x.tm) ∧ W.cell? ⟨b, off + i * 6 + 4, none⟩ = some (.int .u8 (x.kd : Int)) ∧ W.cell? ⟨b, off + i * 6 + 5, none⟩ = some (.int .i64 x.n)) ∧ W.cell? ⟨b', off' + i * 6, none⟩ = some (.string x.s.m) ∧ W.cell? ⟨b', off' + i * 6 + 1, none⟩ = some (.slice ty nx cy) ∧ W.cell? ⟨b', off' + i * 6 + 2, none⟩ = some (.string x.s.f) ∧ W.cell? ⟨b', off' + i * 6 + 3, none⟩ = some (.int .i64 x.tm) ∧ W.cell? ⟨b', off' + i * 6 + 4, none⟩ = some (.int .u8 (x.kd : Int)) ∧ W.cell? ⟨b', off' + i * 6 + 5, none⟩ = some (.int .i64 x.n)) (by kernel_rfl) ⟨⟨x1, x2, x3, x4, x5, x6⟩, y1, y2, y3, y4, y5, y6⟩ (fun hHeld => ?_)
      refine wpAnyH_take (i := 0) (oi := _) (v := ?_) rfl (by kernel_rfl) (by kernel_rfl) (by kernel_rfl) (fun _ _ _ h => h) (Or.inl ⟨by rfl, ?_⟩) (by assumption) ?_
      rotate_left 1
      · (intro w0 hSw; (try dsimp only at hSw); obtain ⟨⟨s1, s2, s3, s4, s5, s6⟩, t1, t2, t3, t4, t5, t6⟩ := hSw; go_simp; try with_reducible rfl)
      (try simp only [List.getElem_toArray, List.getElem_cons_succ, List.getElem_cons_zero]); (try simp only [Act.put, List.setIfInBounds_toArray, List.set_cons_zero, List.set_cons_succ])
      refine wpAnyH_take (i := 1) (oi := _) (v := ?_) rfl (by kernel_rfl) (by kernel_rfl) (by kernel_rfl) (fun _ _ _ h => h) (Or.inl ⟨by rfl, ?_⟩) (by assumption) ?_
      rotate_left 1
      · (intro w0 hSw; (try dsimp only at hSw); obtain ⟨⟨s1, s2, s3, s4, s5, s6⟩, t1, t2, t3, t4, t5, t6⟩ := hSw; go_simp; try with_reducible rfl)
      (try simp only [List.getElem_toArray, List.getElem_cons_succ, List.getElem_cons_zero]); (try simp only [Act.put, List.setIfInBounds_toArray, List.set_cons_zero, List.set_cons_succ])
      refine wpAnyH_take (i := 2) (oi := _) (v := ?_) rfl (by kernel_rfl) (by kernel_rfl) (by kernel_rfl) (fun _ _ _ h => h) (Or.inl ⟨by rfl, ?_⟩) (by assumption) ?_
      rotate_left 1
      · (intro w0 hSw; (try dsimp only at hSw); obtain ⟨⟨s1, s2, s3, s4, s5, s6⟩, t1, t2, t3, t4, t5, t6⟩ := hSw; go_simp; try with_reducible rfl)
      (try simp only [List.getElem_toArray, List.getElem_cons_succ, List.getElem_cons_zero]); (try simp only [Act.put, List.setIfInBounds_toArray, List.set_cons_zero, List.set_cons_succ])
      refine wpAnyH_take (i := 3) (oi := _) (v := ?_) rfl (by kernel_rfl) (by kernel_rfl) (by kernel_rfl) (fun _ _ _ h => h) (Or.inl ⟨by rfl, ?_⟩) (by assumption) ?_
      rotate_left 1
      · (intro w0 hSw; (try dsimp only at hSw); obtain ⟨⟨s1, s2, s3, s4, s5, s6⟩, t1, t2, t3, t4, t5, t6⟩ := hSw; go_simp; try with_reducible rfl)
      (try simp only [List.getElem_toArray, List.getElem_cons_succ, List.getElem_cons_zero]); (try simp only [Act.put, List.setIfInBounds_toArray, List.set_cons_zero, List.set_cons_succ])
      refine wpAnyH_take (i := 4) (oi := _) (v := ?_) rfl (by kernel_rfl) (by kernel_rfl) (by kernel_rfl) (fun _ _ _ h => h) (Or.inl ⟨by rfl, ?_⟩) (by assumption) ?_
      rotate_left 1
      · (intro w0 hSw; (try dsimp only at hSw); obtain ⟨⟨s1, s2, s3, s4, s5, s6⟩, t1, t2, t3, t4, t5, t6⟩ := hSw; go_simp; try with_reducible rfl)
      (try simp only [List.getElem_toArray, List.getElem_cons_succ, List.getElem_cons_zero]); (try simp only [Act.put, List.setIfInBounds_toArray, List.set_cons_zero, List.set_cons_succ])
      refine wpAnyH_take (i := 5) (oi := _) (v := ?_) rfl (by kernel_rfl) (by kernel_rfl) (by kernel_rfl) (fun _ _ _ h => h) (Or.inl ⟨by rfl, ?_⟩) (by assumption) ?_
      rotate_left 1
      · (intro w0 hSw; (try dsimp only at hSw); obtain ⟨⟨s1, s2, s3, s4, s5, s6⟩, t1, t2, t3, t4, t5, t6⟩ := hSw; go_simp; try with_reducible rfl)
      (try simp only [List.getElem_toArray, List.getElem_cons_succ, List.getElem_cons_zero]); (try simp only [Act.put, List.setIfInBounds_toArray, List.set_cons_zero, List.set_cons_succ])
      refine wpAnyH_take (i := 6) (oi := _) (v := ?_) rfl (by kernel_rfl) (by kernel_rfl) (by kernel_rfl) (fun _ _ _ h => h) (Or.inl ⟨by rfl, ?_⟩) (by assumption) ?_
      rotate_left 1
      · (intro w0 hSw; (try dsimp only at hSw); obtain ⟨⟨s1, s2, s3, s4, s5, s6⟩, t1, t2, t3, t4, t5, t6⟩ := hSw; go_simp; try with_reducible rfl)
      (try simp only [List.getElem_toArray, List.getElem_cons_succ, List.getElem_cons_zero]); (try simp only [Act.put, List.setIfInBounds_toArray, List.set_cons_zero, List.set_cons_succ])
      refine wpAnyH_take (i := 7) (oi := _) (v := ?_) rfl (by kernel_rfl) (by kernel_rfl) (by kernel_rfl) (fun _ _ _ h => h) (Or.inl ⟨by rfl, ?_⟩) (by assumption) ?_
      rotate_left 1
      · (intro w0 hSw; (try dsimp only at hSw); obtain ⟨⟨s1, s2, s3, s4, s5, s6⟩, t1, t2, t3, t4, t5, t6⟩ := hSw; go_simp; try with_reducible rfl)
      (try simp only [List.getElem_toArray, List.getElem_cons_succ, List.getElem_cons_zero]); (try simp only [Act.put, List.setIfInBounds_toArray, List.set_cons_zero, List.set_cons_succ])
      refine wpAnyH_ready (rs := [8]) (by kernel_rfl) (by simp) ?_
      refine AllReadyH.cons (o := _) rfl (fun K hK => ?_) AllReadyH.nil
      go_simp
      refine Calls.mono (CH.out _ (show Below w.heap.size w wr.drew from BH.out.drew)) ?_
      rintro e w' ⟨rfl, BB⟩
      try dsimp only
      refine hK _ _ ?_ (fun hHeld => ?_)
      · exact ⟨⟨by rw [BB.cell (p := ⟨b, off + i * 6, none⟩) bl]; exact x1, by rw [BB.cell (p := ⟨b, off + i * 6 + 1, none⟩) bl]; exact x2, by rw [BB.cell (p := ⟨b, off + i * 6 + 2, none⟩) bl]; exact x3, by rw [BB.cell (p := ⟨b, off + i * 6 + 3, none⟩) bl]; exact x4, by rw [BB.cell (p := ⟨b, off + i * 6 + 4, none⟩) bl]; exact x5, by rw [BB.cell (p := ⟨b, off + i * 6 + 5, none⟩) bl]; exact x6⟩, by rw [BB.cell (p := ⟨b', off' + i * 6, none⟩) bl']; exact y1, by rw [BB.cell (p := ⟨b', off' + i * 6 + 1, none⟩) bl']; exact y2, by rw [BB.cell (p := ⟨b', off' + i * 6 + 2, none⟩) bl']; exact y3, by rw [BB.cell (p := ⟨b', off' + i * 6 + 3, none⟩) bl']; exact y4, by rw [BB.cell (p := ⟨b', off' + i * 6 + 4, none⟩) bl']; exact y5, by rw [BB.cell (p := ⟨b', off' + i * 6 + 5, none⟩) bl']; exact y6⟩
      clear hK K
      (try simp only [List.getElem_toArray, List.getElem_cons_succ, List.getElem_cons_zero]); (try simp only [Act.put, List.setIfInBounds_toArray, List.set_cons_zero, List.set_cons_succ])
      refine wpAnyH_take (i := 9) (oi := _) (v := ?_) rfl (by kernel_rfl) (by kernel_rfl) (by kernel_rfl) (fun _ _ _ h => h) (Or.inl ⟨by rfl, ?_⟩) (by assumption) ?_
      rotate_left 1
      · (intro w0 hSw; (try dsimp only at hSw); obtain ⟨⟨s1, s2, s3, s4, s5, s6⟩, t1, t2, t3, t4, t5, t6⟩ := hSw; go_simp; try with_reducible rfl)
      (try simp only [List.getElem_toArray, List.getElem_cons_succ, List.getElem_cons_zero]); (try simp only [Act.put, List.setIfInBounds_toArray, List.set_cons_zero, List.set_cons_succ])
      refine wpAnyH_take (i := 10) (oi := _) (v := ?_) rfl (by kernel_rfl) (by kernel_rfl) (by kernel_rfl) (fun _ _ _ h => h) (Or.inl ⟨by rfl, ?_⟩) (by assumption) ?_
      rotate_left 1
      · (intro w0 hSw; (try dsimp only at hSw); obtain ⟨⟨s1, s2, s3, s4, s5, s6⟩, t1, t2, t3, t4, t5, t6⟩ := hSw; go_simp; try with_reducible rfl)
      (try simp only [List.getElem_toArray, List.getElem_cons_succ, List.getElem_cons_zero]); (try simp only [Act.put, List.setIfInBounds_toArray, List.set_cons_zero, List.set_cons_succ])
      refine wpAnyH_take (i := 11) (oi := _) (v := ?_) rfl (by kernel_rfl) (by kernel_rfl) (by kernel_rfl) (fun _ _ _ h => h) (Or.inl ⟨by rfl, ?_⟩) (by assumption) ?_
      rotate_left 1
      · (intro w0 hSw; (try dsimp only at hSw); obtain ⟨⟨s1, s2, s3, s4, s5, s6⟩, t1, t2, t3, t4, t5, t6⟩ := hSw; go_simp; try with_reducible rfl)
      (try simp only [List.getElem_toArray, List.getElem_cons_succ, List.getElem_cons_zero]); (try simp only [Act.put, List.setIfInBounds_toArray, List.set_cons_zero, List.set_cons_succ])
      refine wpAnyH_take (i := 12) (oi := _) (v := ?_) rfl (by kernel_rfl) (by kernel_rfl) (by kernel_rfl) (fun _ _ _ h => h) (Or.inl ⟨by rfl, ?_⟩) (by assumption) ?_
      rotate_left 1
      · (intro w0 hSw; (try dsimp only at hSw); obtain ⟨⟨s1, s2, s3, s4, s5, s6⟩, t1, t2, t3, t4, t5, t6⟩ := hSw; go_simp; try with_reducible rfl)
      (try simp only [List.getElem_toArray, List.getElem_cons_succ, List.getElem_cons_zero]); (try simp only [Act.put, List.setIfInBounds_toArray, List.set_cons_zero, List.set_cons_succ])
      refine wpAnyH_take (i := 13) (oi := _) (v := ?_) rfl (by kernel_rfl) (by kernel_rfl) (by kernel_rfl) (fun _ _ _ h => h) (Or.inl ⟨by rfl, ?_⟩) (by assumption) ?_
      rotate_left 1
      · (intro w0 hSw; (try dsimp only at hSw); obtain ⟨⟨s1, s2, s3, s4, s5, s6⟩, t1, t2, t3, t4, t5, t6⟩ := hSw; go_simp; try with_reducible rfl)
      (try simp only [List.getElem_toArray, List.getElem_cons_succ, List.getElem_cons_zero]); (try simp only [Act.put, List.setIfInBounds_toArray, List.set_cons_zero, List.set_cons_succ])
      refine wpAnyH_take (i := 14) (oi := _) (v := ?_) rfl (by kernel_rfl) (by kernel_rfl) (by kernel_rfl) (fun _ _ _ h => h) (Or.inl ⟨by rfl, ?_⟩) (by assumption) ?_
      rotate_left 1
      · (intro w0 hSw; (try dsimp only at hSw); obtain ⟨⟨s1, s2, s3, s4, s5, s6⟩, t1, t2, t3, t4, t5, t6⟩ := hSw; go_simp; try with_reducible rfl)
      (try simp only [List.getElem_toArray, List.getElem_cons_succ, List.getElem_cons_zero]); (try simp only [Act.put, List.setIfInBounds_toArray, List.set_cons_zero, List.set_cons_succ])
      refine wpAnyH_take (i := 15) (oi := _) (v := ?_) rfl (by kernel_rfl) (by kernel_rfl) (by kernel_rfl) (fun _ _ _ h => h) (Or.inl ⟨by rfl, ?_⟩) (by assumption) ?_
      rotate_left 1
      · (intro w0 hSw; (try dsimp only at hSw); obtain ⟨⟨s1, s2, s3, s4, s5, s6⟩, t1, t2, t3, t4, t5, t6⟩ := hSw; go_simp; try with_reducible rfl)
      (try simp only [List.getElem_toArray, List.getElem_cons_succ, List.getElem_cons_zero]); (try simp only [Act.put, List.setIfInBounds_toArray, List.set_cons_zero, List.set_cons_succ])
      refine wpAnyH_take (i := 16) (oi := _) (v := ?_) rfl (by kernel_rfl) (by kernel_rfl) (by kernel_rfl) (fun _ _ _ h => h) (Or.inl ⟨by rfl, ?_⟩) (by assumption) ?_
      rotate_left 1
      · (intro w0 hSw; (try dsimp only at hSw); obtain ⟨⟨s1, s2, s3, s4, s5, s6⟩, t1, t2, t3, t4, t5, t6⟩ := hSw; go_simp; try with_reducible rfl)
      (try simp only [List.getElem_toArray, List.getElem_cons_succ, List.getElem_cons_zero]); (try simp only [Act.put, List.setIfInBounds_toArray, List.set_cons_zero, List.set_cons_succ])
      refine wpAnyH_take (i := 17) (oi := _) (v := ?_) rfl (by kernel_rfl) (by kernel_rfl) (by kernel_rfl) (fun _ _ _ h => h) (Or.inl ⟨by rfl, ?_⟩) (by assumption) ?_
      rotate_left 1
      · (intro w0 hSw; (try dsimp only at hSw); obtain ⟨⟨s1, s2, s3, s4, s5, s6⟩, t1, t2, t3, t4, t5, t6⟩ := hSw; go_simp; try with_reducible rfl)
      (try simp only [List.getElem_toArray, List.getElem_cons_succ, List.getElem_cons_zero]); (try simp only [Act.put, List.setIfInBounds_toArray, List.set_cons_zero, List.set_cons_succ])
      refine wpAnyH_take (i := 18) (oi := _) (v := ?_) rfl (by kernel_rfl) (by kernel_rfl) (by kernel_rfl) (fun _ _ _ h => h) (Or.inl ⟨by rfl, ?_⟩) (by assumption) ?_
      rotate_left 1
      · (intro w0 hSw; (try dsimp only at hSw); obtain ⟨⟨s1, s2, s3, s4, s5, s6⟩, t1, t2, t3, t4, t5, t6⟩ := hSw; go_simp; try with_reducible rfl)
      (try simp only [List.getElem_toArray, List.getElem_cons_succ, List.getElem_cons_zero]); (try simp only [Act.put, List.setIfInBounds_toArray, List.set_cons_zero, List.set_cons_succ])
      refine wpAnyH_take (i := 19) (oi := _) (v := ?_) rfl (by kernel_rfl) (by kernel_rfl) (by kernel_rfl) (fun _ _ _ h => h) (Or.inl ⟨by rfl, ?_⟩) (by assumption) ?_
      rotate_left 1
      · (intro w0 hSw; (try dsimp only at hSw); obtain ⟨⟨s1, s2, s3, s4, s5, s6⟩, t1, t2, t3, t4, t5, t6⟩ := hSw; go_simp; try with_reducible rfl)
      (try simp only [List.getElem_toArray, List.getElem_cons_succ, List.getElem_cons_zero]); (try simp only [Act.put, List.setIfInBounds_toArray, List.set_cons_zero, List.set_cons_succ])
      refine wpAnyH_take (i := 20) (oi := _) (v := ?_) rfl (by kernel_rfl) (by kernel_rfl) (by kernel_rfl) (fun _ _ _ h => h) (Or.inl ⟨by rfl, ?_⟩) (by assumption) ?_
      rotate_left 1
      · (intro w0 hSw; (try dsimp only at hSw); obtain ⟨⟨s1, s2, s3, s4, s5, s6⟩, t1, t2, t3, t4, t5, t6⟩ := hSw; go_simp; try with_reducible rfl)
      (try simp only [List.getElem_toArray, List.getElem_cons_succ, List.getElem_cons_zero]); (try simp only [Act.put, List.setIfInBounds_toArray, List.set_cons_zero, List.set_cons_succ])
      refine wpAnyH_take (i := 21) (oi := _) (v := ?_) rfl (by kernel_rfl) (by kernel_rfl) (by kernel_rfl) (fun _ _ _ h => h) (Or.inl ⟨by rfl, ?_⟩) (by assumption) ?_
      rotate_left 1
      · (intro w0 hSw; (try dsimp only at hSw); obtain ⟨⟨s1, s2, s3, s4, s5, s6⟩, t1, t2, t3, t4, t5, t6⟩ := hSw; go_simp; try with_reducible rfl)
      (try simp only [List.getElem_toArray, List.getElem_cons_succ, List.getElem_cons_zero]); (try simp only [Act.put, List.setIfInBounds_toArray, List.set_cons_zero, List.set_cons_succ])
      refine wpAnyH_take (i := 22) (oi := _) (v := ?_) rfl (by kernel_rfl) (by kernel_rfl) (by kernel_rfl) (fun _ _ _ h => h) (Or.inl ⟨by rfl, ?_⟩) (by assumption) ?_
      rotate_left 1
      · (intro w0 hSw; (try dsimp only at hSw); obtain ⟨⟨s1, s2, s3, s4, s5, s6⟩, t1, t2, t3, t4, t5, t6⟩ := hSw; go_simp; try with_reducible rfl)
      (try simp only [List.getElem_toArray, List.getElem_cons_succ, List.getElem_cons_zero]); (try simp only [Act.put, List.setIfInBounds_toArray, List.set_cons_zero, List.set_cons_succ])
      refine wpAnyH_done (by kernel_rfl) ?_ _
      refine NoPanic.normal ?_
      have fin : Hid (Below w.heap.size w w') := BH.out.drew.trans (BB.mono BH.out.size)
      clear BB BH CH x1 x2 x3 x4 x5 x6 y1 y2 y3 y4 y5 y6 hHeld
      go_wp2_with fail
      exact ⟨⟨i + 1, by first | rfl | simp, by omega, fin⟩, by simp [intOf]; omega⟩
    · have iI : ¬ (i : Int) < (n : Int) := by omega
      go_wp2_with fail
      go_ret
      exact ⟨rfl, BH.out⟩
end Go.Proofs.YtgodihhlpcnbiaaGreatDoor
