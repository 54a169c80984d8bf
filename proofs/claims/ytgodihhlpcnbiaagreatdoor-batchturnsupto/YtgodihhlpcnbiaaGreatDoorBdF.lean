
import Derived.Test.YtgodihhlpcnbiaaGreatDoorBdE
namespace Go.Proofs.YtgodihhlpcnbiaaGreatDoor
open Go.RowKit _root_.Go.Proofs.YtgodihhlpcnbiaaGreatDoor.So
set_option linter.unusedVariables false
set_option linter.unusedSimpArgs false
def noP : PtP := ⟨⟨#[]⟩, [], [], 0⟩
instance : Inhabited PtP := ⟨noP⟩
/-- a point, with where its tags and fields lie. -/
abbrev PtA := PtP × (Option Addr × Nat) × (Option Addr × Nat)
def encP : List PtA → List Value
  | [] => []
  | t :: r => [.string t.1.m, .slice t.2.1.1 t.1.t.length t.2.1.2, .slice t.2.2.1 t.1.f.length t.2.2.2, .int .i64 t.1.tm] ++ encP r
theorem encP_append (a b : List PtA) : encP (a ++ b) = encP a ++ encP b := by
  induction a with
  | nil => rfl
  | cons s r ih => simp [encP, ih]
theorem encP_len (l : List PtA) : (encP l).length = l.length * 4 := by
  induction l with
  | nil => rfl
  | cons s r ih => simp only [encP, List.length_append, ih, List.length_cons, List.length_nil]; omega
theorem encP_one (l : List PtA) : ∀ u ∈ encP l, u.oneCell' = true := by
  induction l with
  | nil => intro u hu; cases hu
  | cons s r ih =>
    intro u hu
    simp only [encP, List.mem_append, List.mem_cons, List.not_mem_nil, or_false] at hu
    rcases hu with (rfl | rfl | rfl | rfl) | hu
    · rfl
    · rfl
    · rfl
    · rfl
    · exact ih u hu
theorem encP_get (l : List PtA) (i : Nat) (s : PtA) (h : l[i]? = some s) : (encP l)[i * 4]? = some (.string s.1.m) ∧ (encP l)[i * 4 + 1]? = some (.slice s.2.1.1 s.1.t.length s.2.1.2) ∧ (encP l)[i * 4 + 2]? = some (.slice s.2.2.1 s.1.f.length s.2.2.2) ∧ (encP l)[i * 4 + 3]? = some (.int .i64 s.1.tm) := by
  induction l generalizing i with
  | nil => simp at h
  | cons a r ih =>
    cases i with
    | zero => simp at h; subst h; simp [encP]
    | succ i =>
      simp at h
      have := ih i h
      simp only [encP]
      rw [show (i + 1) * 4 = i * 4 + 4 by omega]
      simpa using this
theorem pt_info : (Tryz.prog.info? 46).map (fun i => (i.zero, i.bytes, i.size)) = some (some (.agg #[.string ⟨#[]⟩, .slice none 0 0, .slice none 0 0, .int .i64 0]), 72, 4) := by kernel_rfl
theorem PsIn.enc {w : World} {b off : Nat} {l : List PtP} (h : PsIn w (some ⟨b, off, none⟩) l) : ∃ L : List PtA, L.map (·.1) = l ∧ (∀ t ∈ L, PtIn w t.2.1.1 t.2.2.1 t.2.2.2 t.1) ∧ ∀ j u, (encP L)[j]? = some u → w.cell? ⟨b, off + j, none⟩ = some u := by
  rcases h with h | ⟨b', off', e, hb, hc⟩
  · subst h; exact ⟨[], rfl, fun t ht => (by cases ht), fun j u hj => by simp [encP] at hj⟩
  · injection e with e
    injection e with e1 e2
    subst e1 e2
    have each : ∀ i, i < l.length → ∃ q : PtA, l[i]? = some q.1 ∧ PAt w b (off + i * 4) q.1 q.2.1.1 q.2.1.2 q.2.2.1 q.2.2.2 ∧ PtIn w q.2.1.1 q.2.2.1 q.2.2.2 q.1 := fun i hi => by
      obtain ⟨ta, tc, fa, fc, h1, h2⟩ := hc i _ (List.getElem?_eq_getElem hi)
      exact ⟨(l[i], (ta, tc), (fa, fc)), List.getElem?_eq_getElem hi, h1, h2⟩
    haveI : Inhabited PtA := ⟨(noP, (none, 0), (none, 0))⟩
    obtain ⟨q, hq⟩ := choose_belowW each
    have hget : ∀ i, i < l.length → ((List.range l.length).map q)[i]? = some (q i) := fun i hi => by rw [List.getElem?_map, List.getElem?_range hi]; rfl
    refine ⟨(List.range l.length).map q, ?_, fun t ht => ?_, fun j u hj => ?_⟩
    · refine List.ext_getElem? fun i => ?_
      rw [List.map_map, List.getElem?_map]
      rcases Nat.lt_or_ge i l.length with hi | hi
      · rw [List.getElem?_range hi, (hq i hi).1]; rfl
      · rw [List.getElem?_eq_none (by simpa using hi), List.getElem?_eq_none hi]; rfl
    · obtain ⟨i, hi, rfl⟩ := List.mem_map.1 ht
      exact (hq i (List.mem_range.1 hi)).2.2
    · have hj2 : j < l.length * 4 := by
        have := (List.getElem?_eq_some_iff.1 hj).1
        rw [encP_len] at this
        simpa using this
      have hi : j / 4 < l.length := by omega
      obtain ⟨e1, e2, e3, e4⟩ := encP_get _ _ _ (hget _ hi)
      obtain ⟨c1, c2, c3, c4⟩ := (hq _ hi).2.1
      rcases (by omega : j % 4 = 0 ∨ j % 4 = 1 ∨ j % 4 = 2 ∨ j % 4 = 3) with r | r | r | r
      · rw [show j = j / 4 * 4 by omega] at hj ⊢
        rw [e1] at hj
        rw [c1, ← hj]
      · rw [show j = j / 4 * 4 + 1 by omega] at hj ⊢
        rw [e2] at hj
        rw [← Nat.add_assoc, c2, ← hj]
      · rw [show j = j / 4 * 4 + 2 by omega] at hj ⊢
        rw [e3] at hj
        rw [← Nat.add_assoc, c3, ← hj]
      · rw [show j = j / 4 * 4 + 3 by omega] at hj ⊢
        rw [e4] at hj
        rw [← Nat.add_assoc, c4, ← hj]
theorem app_noP (W : World) (a ad : Option Addr) (n cap c : Nat) (h : n ≤ cap) : (Builtin.append_ #[22, 22] 22 #[.slice a n cap, .slice ad 0 c]).run Tryz.prog W = .ok (.slice a n cap) W := by
  obtain ⟨i, i1, i0⟩ := Option.map_eq_some_iff.1 pt_info
  cases a <;> cases ad <;> simp [Builtin.append_, run_underlying Tryz.underlying22, sizeOf, typeInfo, i1, Builtin.lenOf, Builtin.firstCells, storeCells, loadCells, loadCellsFrom, h]
/-- points in a row of one's own, their tags and fields where they lay. -/
structure CpS (w0 W : World) (v : Value) (L : List PtA) : Prop where
  own : W.ownsRow w0.heap.size 46 4 v L.length (encP L)
  pt : ∀ t ∈ L, PtIn w0 t.2.1.1 t.2.2.1 t.2.2.2 t.1
  bl : Below w0.heap.size w0 W
theorem CpS.empty (w : World) : CpS w (w.alloc (.cells #[] 46)) (.slice (some ⟨w.heap.size, 0, none⟩) 0 0) [] := by
  refine ⟨?_, (fun t h => by cases h), (Below.refl _ w).alloc (Nat.le_refl _) _⟩
  have := World.ownsRow_made (e := 46) (size := 4) (base := w.heap.size) w #[] 0 (by simp) (by simp [maxLen]) rfl
  simpa [encP] using this
theorem CpS.slice {w0 W : World} {v : Value} {L : List PtA} (h : CpS w0 W v L) : ∃ a cap, v = .slice a L.length cap ∧ L.length ≤ cap := by
  rcases h.own.2 with ⟨e1, e2⟩ | ⟨g, cap', cur, e1, _, _, hc, _⟩
  · exact ⟨none, 0, by rw [e1, e2], by omega⟩
  · exact ⟨_, cap', e1, hc⟩
theorem CpS.psin {w0 W : World} {v : Value} {L : List PtA} (h : CpS w0 W v L) : ∃ a cap, v = .slice a L.length cap ∧ L.length ≤ cap ∧ PsIn W a (L.map (·.1)) := by
  rcases h.own.2 with ⟨e, e0⟩ | ⟨g, cap, cur, e1, _, hg, hc, _⟩
  · exact ⟨none, 0, by rw [e, e0], by omega, Or.inl (by rw [List.eq_nil_of_length_eq_zero e0]; rfl)⟩
  · subst e1
    have hcs := World.ownsRow.cells h.own (g := g) rfl
    refine ⟨some ⟨g, 0, none⟩, cap, rfl, hc, Or.inr ⟨g, 0, rfl, (World.ownsRow.lt h.own g rfl).2, fun i x hx => ?_⟩⟩
    rw [List.getElem?_map, Option.map_eq_some_iff] at hx
    obtain ⟨t, ht, rfl⟩ := hx
    obtain ⟨e1, e2, e3, e4⟩ := encP_get L i t ht
    have k1 := hcs _ _ e1
    have k2 := hcs _ _ e2
    have k3 := hcs _ _ e3
    have k4 := hcs _ _ e4
    rw [tag_add, Nat.zero_add] at k1 k2 k3 k4
    rw [Nat.zero_add]
    exact ⟨t.2.1.1, t.2.1.2, t.2.2.1, t.2.2.2, ⟨k1, k2, k3, k4⟩, (h.pt t (List.mem_of_getElem? ht)).below h.bl⟩
theorem CpS.below {w0 W W' : World} {v : Value} {L : List PtA} (h : CpS w0 W v L) (hb : Below W.heap.size W W') : CpS w0 W' v L := by
  refine ⟨⟨h.own.1, ?_⟩, h.pt, h.bl.trans (hb.mono h.bl.size)⟩
  rcases h.own.2 with h2 | ⟨g, cap, cur, e1, e2, e3, e4⟩
  · exact Or.inl h2
  · exact Or.inr ⟨g, cap, cur, e1, e2, by rw [hb.block g (Array.getElem?_eq_some_iff.1 e3).1]; exact e3, e4⟩
/-- points appended, or none. -/
theorem appP (w0 W : World) (v : Value) (L : List PtA) (h : CpS w0 W v L) (a : Option Addr) (c : Nat) (m : List PtP) (hm : PsIn w0 a m) (hn : L.length + m.length ≤ 1099511627776) :
    ∃ v' w' M, (Builtin.append_ #[22, 22] 22 #[v, .slice a m.length c]).run Tryz.prog W = .ok v' w' ∧ M.map (·.1) = m ∧ CpS w0 w' v' (L ++ M) := by
  rcases Nat.eq_zero_or_pos m.length with h0 | h0
  · have e := List.eq_nil_of_length_eq_zero h0
    subst e
    obtain ⟨a1, c1, e1, hc1⟩ := h.slice
    exact ⟨v, W, [], by rw [e1]; exact app_noP _ _ _ _ _ _ hc1, rfl, by rw [List.append_nil]; exact h⟩
  · have hm' := hm
    rcases hm with e | ⟨b, off, e, hb, hc⟩
    · rw [e] at h0; simp at h0
    · subst e
      obtain ⟨M, hM, hs, hcs⟩ := hm'.enc
      have lM : M.length = m.length := by rw [← hM, List.length_map]
      obtain ⟨i, i1, i0⟩ := Option.map_eq_some_iff.1 pt_info
      have i2 : i.zero = some (.agg #[.string ⟨#[]⟩, .slice none 0 0, .slice none 0 0, .int .i64 0]) := congrArg (·.1) i0
      have i3 : i.bytes = 72 := congrArg (·.2.1) i0
      have i4 : i.size = 4 := congrArg (·.2.2) i0
      have hml : maxLen = 9223372036854775807 := by decide
      obtain ⟨g, cap, w', hr, own, gr, hat, hlt2⟩ := run_append_lies (P := Tryz.prog) W 22 22 w0.heap.size 46 i (.agg #[.string ⟨#[]⟩, .slice none 0 0, .slice none 0 0, .int .i64 0]) 4 72 Tryz.underlying22 i1 i2 i4 i3 rfl (by omega) v L.length (encP L) h.own ⟨b, off, none⟩ m.length c (encP M) (by rw [encP_len, lM]) (fun j u hj => by rw [tag_add, h.bl.cell (p := ⟨b, off + j, none⟩) hb]; exact hcs j u hj) (encP_one _) h0 (by omega) (by omega) h.bl.size _ rfl
      refine ⟨_, w', M, hr, hM, ?_, fun t ht => ?_, h.bl.trans ((Below.refl w0.heap.size W).grown gr h.bl.size (fun k e => (World.ownsRow.lt h.own k e).1))⟩
      · rw [List.length_append, lM, encP_append]; exact own
      · rcases List.mem_append.1 ht with q | q
        · exact h.pt t q
        · exact hs t q
end Go.Proofs.YtgodihhlpcnbiaaGreatDoor

namespace Go.Proofs.YtgodihhlpcnbiaaGreatDoor
open Go.RowKit _root_.Go.Proofs.YtgodihhlpcnbiaaGreatDoor.So
set_option linter.unusedVariables false
set_option linter.unusedSimpArgs false
theorem chkV_two {l : List PtP} (h : ¬ chkOk l) : chkV l = .iface 29 (.int .i64 6) ∨ ∃ i n : Int, chkV l = .iface 66 (.agg #[.int .i64 i, .iface 29 (.int .i64 n)]) := by
  unfold chkV
  split
  · exact Or.inl rfl
  · rename_i h1
    cases hb : badP l 0 with
    | none => exact absurd ⟨by omega, hb⟩ h
    | some q => obtain ⟨i, n⟩ := q; exact Or.inr ⟨i, n, rfl⟩
theorem badP_app : ∀ (l m : List PtP) (i : Nat), badP (l ++ m) i = match badP l i with | none => badP m (i + l.length) | some q => some q
  | [], m, i => by simp [badP]
  | p :: l, m, i => by
    rw [List.cons_append, badP, badP]
    split
    · rw [badP_app l m (i + 1), List.length_cons, show i + 1 + l.length = i + (l.length + 1) by omega]
    · rfl
theorem badP_all : ∀ {l : List PtP} (i : Nat), (∀ p ∈ l, pointN p = 0) → badP l i = none
  | [], i, h => rfl
  | p :: l, i, h => by rw [badP, if_pos (h p List.mem_cons_self)]; exact badP_all _ fun q hq => h q (List.mem_cons_of_mem _ hq)
theorem chkOk_app {l m : List PtP} (h1 : chkOk l) (h2 : chkOk m) : chkOk (l ++ m) ↔ l.length + m.length ≤ 10000 := by
  unfold chkOk
  rw [List.length_append]
  constructor
  · exact fun h => h.1
  · exact fun h => ⟨h, badP_all 0 fun p hp => (List.mem_append.1 hp).elim (badP_none h1.2 p) (badP_none h2.2 p)⟩
/-- what Flat tells. -/
def FlA (w w' : World) (l : List PtP) (e : Ending) : Prop := ∃ a z c V, e = .returned (.tuple #[.slice a z c, V]) ∧ Below w.heap.size w w' ∧ (chkOk l → V = .nilIface ∧ z = (odD (flatL l)).length ∧ z ≤ c ∧ WIn w' a (odD (flatL l))) ∧ (¬ chkOk l → a = none ∧ z = 0 ∧ V = chkV l)
set_option maxRecDepth 100000 in
set_option maxHeartbeats 4000000 in
theorem flat_bad (a : Option Addr) (c : Nat) (l : List PtP) (w : World) (hl : PsIn w a l) (hn : l.length ≤ 4611686018427387904) (hok : ¬ chkOk l) (hT : UT w) :
    Calls Tryz.prog 13 #[.slice a l.length c] w fun e w' => e = .returned (.tuple #[.slice none 0 0, chkV l]) ∧ Below w.heap.size w w' := by
  have C0 : Hid (Calls Tryz.prog 10 #[.slice a l.length c] w fun e w' => e = .returned (chkV l) ∧ Below w.heap.size w w') := check_any a c l w hl hn hT
  have two := chkV_two hok
  clear hl hn hok hT
  generalize l.length = n at *
  rcases two with e | ⟨i, m, e⟩
  · rw [e] at C0 ⊢
    clear e
    go_enter Tryz.func13, Tryz.ntmps13
    go_wp2_with fail
    refine Calls.mono C0.out ?_
    rintro e w1 ⟨rfl, b1⟩
    have bH : Hid (Below w.heap.size w w1) := b1
    clear b1 C0
    go_wp2_with fail
    go_ret2
    exact ⟨rfl, bH.out⟩
  · rw [e] at C0 ⊢
    clear e
    go_enter Tryz.func13, Tryz.ntmps13
    go_wp2_with fail
    refine Calls.mono C0.out ?_
    rintro e w1 ⟨rfl, b1⟩
    have bH : Hid (Below w.heap.size w w1) := b1
    clear b1 C0
    go_wp2_with fail
    go_ret2
    exact ⟨rfl, bH.out⟩
theorem flat_any (a : Option Addr) (c : Nat) (l : List PtP) (w : World) (hl : PsIn w a l) (hn : l.length ≤ 4611686018427387904) (hpt : ∀ p ∈ l, p.t.length ≤ 4398046511104) (hT : UT w) :
    Calls Tryz.prog 13 #[.slice a l.length c] w fun e w' => FlA w w' l e := by
  by_cases hok : chkOk l
  · refine (flat_ok a c l w hl hok hpt hT).mono fun e w' hh => ?_
    obtain ⟨a', z, c', e1, e2, e3, e4, e5⟩ := hh
    exact ⟨a', z, c', _, e1, e5, fun _ => ⟨rfl, e2, e3, e4⟩, fun h => absurd hok h⟩
  · refine (flat_bad a c l w hl hn hok hT).mono fun e w' hh => ?_
    exact ⟨none, 0, 0, _, hh.1, hh.2, fun h => absurd h hok, fun _ => ⟨rfl, rfl, rfl⟩⟩
theorem bad0 (n i : Int) (q : Bool) (w : World) : (Instr.field 31 (.agg #[.int .i64 n, .int .i64 0, .int .i64 i, .bool false, .bool q]) 0).run Tryz.prog w = .ok (.int .i64 n) w := by kernel_rfl
end Go.Proofs.YtgodihhlpcnbiaaGreatDoor
