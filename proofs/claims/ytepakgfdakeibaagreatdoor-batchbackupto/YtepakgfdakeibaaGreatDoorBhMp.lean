
import Derived.Test.YtepakgfdakeibaaGreatDoorBdC
import Derived.Test.YtepakgfdakeibaaGreatDoorBdD
import Derived.Test.YtepakgfdakeibaaGreatDoorBdBp
import Derived.Test.YtepakgfdakeibaaGreatDoorProg
import Derived.Deep.RegionHeld3
import Derived.BigQuiet
import Derived.Test.YtepakgfdakeibaaGreatDoorSameDq
namespace Go.Proofs.YtepakgfdakeibaaGreatDoor
open Go.RowKit _root_.Go.Proofs.YtepakgfdakeibaaGreatDoor.So
set_option linter.unusedVariables false
set_option linter.unusedSimpArgs false
/-- a point in memory: four cells. -/
def PAt (w : World) (b o : Nat) (p : PtP) (ta : Option Addr) (tc : Nat) (fa : Option Addr) (fc : Nat) : Prop := w.cell? ⟨b, o, none⟩ = some (.string p.m) ∧ w.cell? ⟨b, o + 1, none⟩ = some (.slice ta p.t.length tc) ∧ w.cell? ⟨b, o + 2, none⟩ = some (.slice fa p.f.length fc) ∧ w.cell? ⟨b, o + 3, none⟩ = some (.int .i64 p.tm)
theorem PAt.below {w w' : World} {b o : Nat} {p : PtP} {ta fa : Option Addr} {tc fc C : Nat} (h : PAt w b o p ta tc fa fc) (hB : Below C w w') (hb : b < C) : PAt w' b o p ta tc fa fc := by
  obtain ⟨h1, h2, h3, h4⟩ := h
  exact ⟨by rw [hB.cell (p := ⟨b, o, none⟩) hb]; exact h1, by rw [hB.cell (p := ⟨b, o + 1, none⟩) hb]; exact h2, by rw [hB.cell (p := ⟨b, o + 2, none⟩) hb]; exact h3, by rw [hB.cell (p := ⟨b, o + 3, none⟩) hb]; exact h4⟩
/-- points that lie in memory. -/
def PsIn (w : World) (a : Option Addr) (l : List PtP) : Prop := l = [] ∨ ∃ b off, a = some ⟨b, off, none⟩ ∧ b < w.heap.size ∧ ∀ i p, l[i]? = some p → ∃ ta tc fa fc, PAt w b (off + i * 4) p ta tc fa fc ∧ PtIn w ta fa fc p
theorem PsIn.below {w w' : World} {a : Option Addr} {l : List PtP} (h : PsIn w a l) (hB : Below w.heap.size w w') : PsIn w' a l := by
  rcases h with h | ⟨b, off, ha, hb, hc⟩
  · exact Or.inl h
  · refine Or.inr ⟨b, off, ha, Nat.lt_of_lt_of_le hb hB.size, fun i x hx => ?_⟩
    obtain ⟨ta, tc, fa, fc, h1, h2⟩ := hc i x hx
    exact ⟨ta, tc, fa, fc, h1.below hB hb, h2.below hB⟩
theorem PsIn.at {w wr : World} {a : Option Addr} {l : List PtP} (h : PsIn w a l) (hB : Below w.heap.size w wr) {k : Nat} {p : PtP} (hx : l[k]? = some p) : ∃ b off ta tc fa fc, a = some ⟨b, off, none⟩ ∧ b < w.heap.size ∧ PAt wr b (off + k * 4) p ta tc fa fc ∧ ∀ W, Below w.heap.size w W → PAt W b (off + k * 4) p ta tc fa fc ∧ PtIn W ta fa fc p := by
  rcases h with h0 | ⟨b, off, e, hb, hc⟩
  · rw [h0] at hx; simp at hx
  · obtain ⟨ta, tc, fa, fc, h1, h2⟩ := hc k p hx
    exact ⟨b, off, ta, tc, fa, fc, e, hb, h1.below hB hb, fun W hW => ⟨h1.below hW hb, h2.below hW⟩⟩
/-- the first one that is wrong, from place i on. -/
def badP : List PtP → Nat → Option (Nat × Int)
  | [], _ => none
  | p :: l, i => if pointN p = 0 then badP l (i + 1) else some (i, pointN p)
theorem badP_drop {l : List PtP} {k : Nat} {p : PtP} (h : l[k]? = some p) : badP (l.drop k) k = if pointN p = 0 then badP (l.drop (k + 1)) (k + 1) else some (k, pointN p) := by
  obtain ⟨hk, e⟩ := List.getElem?_eq_some_iff.1 h
  rw [List.drop_eq_getElem_cons hk, e, badP]
theorem badP_none : ∀ {l : List PtP} {i : Nat}, badP l i = none → ∀ p ∈ l, pointN p = 0
  | q :: l, i, h, p, hp => by
    rw [badP] at h
    split at h
    · rename_i h0
      rcases List.mem_cons.1 hp with e | e
      · rw [e]; exact h0
      · exact badP_none h p e
    · cases h
theorem badP_some : ∀ {l : List PtP} {i k : Nat} {n : Int}, badP l i = some (k, n) → n ≠ 0
  | q :: l, i, k, n, h => by
    rw [badP] at h
    split at h
    · exact badP_some h
    · rename_i h0
      injection h with h
      injection h with h1 h2
      rw [← h2]; exact h0
/-- what Check tells. -/
def chkV (l : List PtP) : Value := if 10000 < l.length then .iface 34 (.int .i64 6) else match badP l 0 with
  | none => .nilIface
  | some (i, n) => .iface 119 (.agg #[.int .i64 (i : Int), .iface 34 (.int .i64 n)])
def chkOk (l : List PtP) : Prop := l.length ≤ 10000 ∧ badP l 0 = none
theorem chkV_ok {l : List PtP} (h : chkOk l) : chkV l = .nilIface := by
  unfold chkV; rw [if_neg (by have := h.1; omega), h.2]
theorem chkV_bad {l : List PtP} (h : ¬ chkOk l) : ∃ t v, chkV l = .iface t v := by
  unfold chkV
  split
  · exact ⟨_, _, rfl⟩
  · rename_i h1
    cases hb : badP l 0 with
    | none => exact absurd ⟨by omega, hb⟩ h
    | some q => exact ⟨_, _, rfl⟩
/-- what the document's Check tells. -/
def chkB (l : List PtP) : Value := if 10000 < l.length then .agg #[.int .i64 6, .int .i64 0, .int .i64 0, .bool false, .bool false] else match badP l 0 with
  | none => .agg #[.int .i64 0, .int .i64 0, .int .i64 0, .bool false, .bool false]
  | some (i, n) => .agg #[.int .i64 n, .int .i64 0, .int .i64 (i : Int), .bool false, .bool true]
theorem chkB_ok {l : List PtP} (h : chkOk l) : chkB l = .agg #[.int .i64 0, .int .i64 0, .int .i64 0, .bool false, .bool false] := by
  unfold chkB; rw [if_neg (by have := h.1; omega), h.2]
theorem chkB_bad {l : List PtP} (h : ¬ chkOk l) : ∃ n i q, n ≠ 0 ∧ chkB l = .agg #[.int .i64 n, .int .i64 0, .int .i64 i, .bool false, .bool q] := by
  unfold chkB
  split
  · exact ⟨6, 0, false, by decide, rfl⟩
  · rename_i h1
    cases hb : badP l 0 with
    | none => exact absurd ⟨by omega, hb⟩ h
    | some q => obtain ⟨i, n⟩ := q; exact ⟨n, i, true, badP_some hb, rfl⟩
end Go.Proofs.YtepakgfdakeibaaGreatDoor

namespace Go.Proofs.YtepakgfdakeibaaGreatDoor
open Go.RowKit _root_.Go.Proofs.YtepakgfdakeibaaGreatDoor.So
set_option linter.unusedVariables false
set_option linter.unusedSimpArgs false
theorem inE_any (i n : Int) (w : World) : Calls Tryz.prog 47 #[.int .i64 i, .iface 34 (.int .i64 n)] w fun e w' => e = .returned (.iface 119 (.agg #[.int .i64 i, .iface 34 (.int .i64 n)])) ∧ w' = w := by
  go_enter Tryz.func47, Tryz.ntmps47
  go_wp2
  go_ret
  exact ⟨rfl, rfl⟩
theorem refnewB (c : Int) (w : World) : Calls Tryz.prog 28 #[.int .i64 c] w fun e w' => e = .returned (.agg #[.int .i64 c, .int .i64 0, .int .i64 0, .bool false, .bool false]) ∧ Below w.heap.size w w' := by
  go_enter Tryz.func28, Tryz.ntmps28
  go_wp2
  simp [bodyPost, results, Tryz.results28, go_sem]
  exact below_new (Below.refl _ _) _
theorem refinB (i c : Int) (h : (c == 0) = false) (w : World) : Calls Tryz.prog 30 #[.int .i64 i, .agg #[.int .i64 c, .int .i64 0, .int .i64 0, .bool false, .bool false]] w fun e w' => e = .returned (.agg #[.int .i64 c, .int .i64 0, .int .i64 i, .bool false, .bool true]) ∧ Below w.heap.size w w' := by
  go_enter Tryz.func30, Tryz.ntmps30
  go_wp2
  simp [bodyPost, results, Tryz.results30, go_sem]
  exact below_new (below_new (Below.refl _ _) _) _
theorem psome {l : List PtP} {k : Nat} (h : k < l.length) : ∃ p, l[k]? = some p := ⟨_, List.getElem?_eq_getElem h⟩
set_option maxRecDepth 100000 in
set_option maxHeartbeats 8000000 in
theorem check_any (a : Option Addr) (c : Nat) (l : List PtP) (w : World) (hl : PsIn w a l) (hn : l.length ≤ 4611686018427387904) (hT : UT w) :
    Calls Tryz.prog 26 #[.slice a l.length c] w fun e w' => e = .returned (chkV l) ∧ Below w.heap.size w w' := by
  obtain ⟨n, hnl⟩ : ∃ n, l.length = n := ⟨_, rfl⟩
  have nH : Hid (l.length = n) := hnl
  have lH : Hid (PsIn w a l) := hl
  have cR : Hid (∀ W ta tc fa fc p, Below w.heap.size w W → PtIn W ta fa fc p → Calls Tryz.prog 16 #[.agg #[.string p.m, .slice ta p.t.length tc, .slice fa p.f.length fc, .int .i64 p.tm]] W fun e w' => e = .returned (erN (pointN p)) ∧ Below W.heap.size W w') := fun W ta tc fa fc p hW hp => bright_any ta fa tc fc p W hp (hT.below hW (Nat.le_refl _))
  obtain ⟨V, hV⟩ : ∃ V, chkV l = V := ⟨_, rfl⟩
  have hVH : Hid (chkV l = V) := hV
  rw [hV, hnl]
  rw [hnl] at hn
  clear hl hT hV hnl
  by_cases hbig : 10000 < n
  · have hb : (10000 : Int) < (n : Int) := by omega
    have hV2 : Hid (V = .iface 34 (.int .i64 6)) := by
      have := hVH.out; unfold chkV at this; rw [if_pos (by rw [nH.out]; exact hbig)] at this; exact this.symm
    go_enter Tryz.func26, Tryz.ntmps26
    go_wp2_with fail
    refine Calls.mono (new_any 6 rfl _) ?_
    rintro e w1 ⟨rfl, hw⟩
    subst w1
    go_wp2_with fail
    go_ret
    exact ⟨by rw [hV2.out]; rfl, Below.refl _ _⟩
  · have hb : ¬ (10000 : Int) < (n : Int) := by omega
    have hV2 : Hid (V = match badP l 0 with | none => Value.nilIface | some (i, n) => .iface 119 (.agg #[.int .i64 (i : Int), .iface 34 (.int .i64 n)])) := by
      have := hVH.out; unfold chkV at this; rw [if_neg (by rw [nH.out]; exact hbig)] at this; exact this.symm
    have S0 : Hid (Below w.heap.size w w ∧ badP (l.drop 0) 0 = badP l 0) := ⟨Below.refl _ _, rfl⟩
    clear hVH
    go_enter Tryz.func26, Tryz.ntmps26
    go_wp2_with fail
    go_loopw [12] (fun v wr => ∃ i : Nat, v = .int .i64 (i : Int) ∧ i ≤ n ∧ Hid (Below w.heap.size w wr ∧ badP (l.drop i) i = badP l 0)) (fun v _ => n - (intOf v).toNat)
    case atStart => exact ⟨0, rfl, Nat.zero_le _, S0⟩
    case round =>
      clear S0
      obtain ⟨i, rfl, il, hS⟩ := hrel
      have i0 : (0 : Int) ≤ (i : Int) := by omega
      have wi : IntKind.i64.wrap ((i : Int) + 1) = ((i + 1 : Nat) : Int) := IntWalk.i64_in _ (by omega)
      by_cases hi : i < n
      · have iI : (i : Int) < (n : Int) := by omega
        obtain ⟨p, hp⟩ := psome (l := l) (k := i) (by rw [nH.out]; exact hi)
        obtain ⟨b, off, ta, tc, fa, fc, e1, hbx, ax, fx⟩ := lH.out.at hS.out.1 hp
        subst e1
        have hstep := badP_drop hp
        obtain ⟨w2, hw2⟩ : ∃ w2, w2 = wr.alloc (.cells #[.string p.m, .slice ta p.t.length tc, .slice fa p.f.length fc, .int .i64 p.tm] 41) := ⟨_, rfl⟩
        have b2 : Below w.heap.size w w2 := by rw [hw2]; exact hS.out.1.alloc hS.out.1.size _
        have C : Hid _ := cR.out w2 ta tc fa fc p b2 (fx w2 b2).2
        have b2H : Hid (Below w.heap.size w w2) := b2
        have stH : Hid (badP (l.drop i) i = if pointN p = 0 then badP (l.drop (i + 1)) (i + 1) else some (i, pointN p)) := hstep
        clear fx b2 hstep hp hbx
        unfold PAt at ax
        generalize p.t.length = nt at *
        generalize p.f.length = nf at *
        obtain ⟨x1, x2, x3, x4⟩ := ax
        generalize pointN p = N at C stH
        by_cases h0 : N = 0
        · subst h0
          have S2 : Hid (badP (l.drop (i + 1)) (i + 1) = badP l 0) := by have := stH.out; rw [if_pos rfl] at this; rw [← this]; exact hS.out.2
          rw [show erN 0 = .nilIface from rfl] at C
          clear stH hS
          go_wp2_with fail
          rw [← hw2]
          clear hw2 x1 x2 x3 x4
          refine Calls.mono C.out ?_
          rintro e w3 ⟨rfl, b3⟩
          have S3 : Hid (Below w.heap.size w w3 ∧ badP (l.drop (i + 1)) (i + 1) = badP l 0) := ⟨b2H.out.trans (b3.mono b2H.out.size), S2.out⟩
          clear b3 C b2H S2
          go_wp2_with fail
          exact ⟨⟨i + 1, by first | rfl | simp, by omega, S3⟩, by simp [intOf]; omega⟩
        · rw [show erN N = .iface 34 (.int .i64 N) by unfold erN; rw [if_neg h0]] at C
          have VV : Hid (V = .iface 119 (.agg #[.int .i64 (i : Int), .iface 34 (.int .i64 N)])) := by
            have := stH.out; rw [if_neg h0] at this; rw [← hS.out.2, this] at hV2; exact hV2
          clear stH hS h0
          go_wp2_with fail
          rw [← hw2]
          clear hw2 x1 x2 x3 x4
          refine Calls.mono C.out ?_
          rintro e w3 ⟨rfl, b3⟩
          have b3H : Hid (Below w.heap.size w w3) := b2H.out.trans (b3.mono b2H.out.size)
          clear b3 C b2H
          go_wp2_with fail
          refine Calls.mono (inE_any _ _ _) ?_
          rintro e w4 ⟨rfl, hw⟩
          subst w4
          go_wp2_with fail
          go_ret
          exact ⟨by rw [VV.out]; rfl, b3H.out⟩
      · have iI : ¬ (i : Int) < (n : Int) := by omega
        have VV : Hid (V = .nilIface) := by
          have h2 := hS.out.2
          rw [List.drop_eq_nil_of_le (by rw [nH.out]; omega)] at h2
          rw [← h2] at hV2; exact hV2
        have bH : Hid (Below w.heap.size w wr) := hS.out.1
        clear hS
        go_wp2_with fail
        go_ret
        exact ⟨by rw [VV.out]; rfl, bH.out⟩
end Go.Proofs.YtepakgfdakeibaaGreatDoor

namespace Go.Proofs.YtepakgfdakeibaaGreatDoor
open Go.RowKit _root_.Go.Proofs.YtepakgfdakeibaaGreatDoor.So
set_option linter.unusedVariables false
set_option linter.unusedSimpArgs false
/-- the five cells of a Bad in a box of one's own. -/
def Bd5 (w : World) (g : Nat) (x : Int) : Prop := g < w.heap.size ∧ (∀ k, k < 5 → w.frozen? ⟨g, k, none⟩ = false) ∧ w.cell? ⟨g, 0, none⟩ = some (.int .i64 x) ∧ w.cell? ⟨g, 1, none⟩ = some (.int .i64 0) ∧ w.cell? ⟨g, 2, none⟩ = some (.int .i64 0) ∧ w.cell? ⟨g, 3, none⟩ = some (.bool false) ∧ w.cell? ⟨g, 4, none⟩ = some (.bool false)
theorem Bd5.below {w w' : World} {g : Nat} {x : Int} (h : Bd5 w g x) (hB : Below w.heap.size w w') : Bd5 w' g x := by
  obtain ⟨h1, h2, h3, h4, h5, h6, h7⟩ := h
  exact ⟨Nat.lt_of_lt_of_le h1 hB.size, fun k hk => by rw [hB.frozen (p := ⟨g, k, none⟩) h1]; exact h2 k hk, by rw [hB.cell (p := ⟨g, 0, none⟩) h1]; exact h3, by rw [hB.cell (p := ⟨g, 1, none⟩) h1]; exact h4, by rw [hB.cell (p := ⟨g, 2, none⟩) h1]; exact h5, by rw [hB.cell (p := ⟨g, 3, none⟩) h1]; exact h6, by rw [hB.cell (p := ⟨g, 4, none⟩) h1]; exact h7⟩
theorem Bd5.new (w : World) : Bd5 (w.alloc (.cells #[.int .i64 0, .int .i64 0, .int .i64 0, .bool false, .bool false] 36)) w.heap.size 0 := by
  refine ⟨by simp, fun k hk => ?_, ?_, ?_, ?_, ?_, ?_⟩ <;> simp [go_sem]
theorem set5_below {w W : World} (h : Below w.heap.size w W) (v0 v1 v2 v3 v4 : Value) : Below w.heap.size w (((((W.setCell ⟨w.heap.size, 0, none⟩ v0).setCell ⟨w.heap.size, 1, none⟩ v1).setCell ⟨w.heap.size, 2, none⟩ v2).setCell ⟨w.heap.size, 3, none⟩ v3).setCell ⟨w.heap.size, 4, none⟩ v4) := ((((h.setCell (p := ⟨w.heap.size, 0, none⟩) (Nat.le_refl _) _).setCell (p := ⟨w.heap.size, 1, none⟩) (Nat.le_refl _) _).setCell (p := ⟨w.heap.size, 2, none⟩) (Nat.le_refl _) _).setCell (p := ⟨w.heap.size, 3, none⟩) (Nat.le_refl _) _).setCell (p := ⟨w.heap.size, 4, none⟩) (Nat.le_refl _) _
set_option maxRecDepth 100000 in
set_option maxHeartbeats 8000000 in
theorem rcheck_any (a : Option Addr) (c : Nat) (l : List PtP) (w : World) (hl : PsIn w a l) (hn : l.length ≤ 4611686018427387904) (hpt : ∀ p ∈ l, p.t.length ≤ 4398046511103) :
    Calls Tryz.prog 12 #[.slice a l.length c] w fun e w' => e = .returned (chkB l) ∧ Below w.heap.size w w' := by
  obtain ⟨n, hnl⟩ : ∃ n, l.length = n := ⟨_, rfl⟩
  have nH : Hid (l.length = n) := hnl
  have lH : Hid (PsIn w a l) := hl
  have cR : Hid (∀ W ta tc fa fc p, p ∈ l → PtIn W ta fa fc p → Calls Tryz.prog 29 #[.agg #[.string p.m, .slice ta p.t.length tc, .slice fa p.f.length fc, .int .i64 p.tm]] W fun e w' => e = .returned (bdV (pointN p)) ∧ Below W.heap.size W w') := fun W ta tc fa fc p hp hq => rpright_any ta fa tc fc p W hq (hpt p hp)
  obtain ⟨V, hV⟩ : ∃ V, chkB l = V := ⟨_, rfl⟩
  have hVH : Hid (chkB l = V) := hV
  obtain ⟨w1, hw1⟩ : ∃ w1, w1 = w.alloc (.cells #[.int .i64 0, .int .i64 0, .int .i64 0, .bool false, .bool false] 36) := ⟨_, rfl⟩
  have b1 : Below w.heap.size w w1 := by rw [hw1]; exact (Below.refl _ w).alloc (Nat.le_refl _) _
  have B1 : Hid (Bd5 w1 w.heap.size 0) := by rw [hw1]; exact Bd5.new w
  have b1H : Hid (Below w.heap.size w w1) := b1
  rw [hV, hnl]
  rw [hnl] at hn
  clear hl hV hnl hpt b1
  by_cases hbig : 10000 < n
  · have hb : (10000 : Int) < (n : Int) := by omega
    have hV2 : Hid (V = .agg #[.int .i64 6, .int .i64 0, .int .i64 0, .bool false, .bool false]) := by
      have := hVH.out; unfold chkB at this; rw [if_pos (by rw [nH.out]; exact hbig)] at this; exact this.symm
    go_enter Tryz.func12, Tryz.ntmps12
    go_wp2_with fail
    rw [← hw1]
    refine Calls.mono (refnewB 6 w1) ?_
    rintro e w2 ⟨rfl, b2⟩
    obtain ⟨k1, kf, k2, k3, k4, k5, k6⟩ := B1.out.below b2
    have kf0 := kf 0 (by omega)
    have kf1 := kf 1 (by omega)
    have kf2 := kf 2 (by omega)
    have kf3 := kf 3 (by omega)
    have kf4 := kf 4 (by omega)
    have fin := set5_below (b1H.out.trans (b2.mono b1H.out.size))
    have finH : Hid (∀ v0 v1 v2 v3 v4 : Value, Below w.heap.size w (((((w2.setCell ⟨w.heap.size, 0, none⟩ v0).setCell ⟨w.heap.size, 1, none⟩ v1).setCell ⟨w.heap.size, 2, none⟩ v2).setCell ⟨w.heap.size, 3, none⟩ v3).setCell ⟨w.heap.size, 4, none⟩ v4)) := fin
    clear b2 kf fin hw1 B1 b1H
    go_wp2_with fail
    simp [bodyPost, results, Tryz.results12, go_sem, k2, k3, k4, k5, k6]
    exact ⟨hV2.out.symm, finH.out _ _ _ _ _⟩
  · have hb : ¬ (10000 : Int) < (n : Int) := by omega
    have hV2 : Hid (V = match badP l 0 with | none => .agg #[.int .i64 0, .int .i64 0, .int .i64 0, .bool false, .bool false] | some (i, n) => .agg #[.int .i64 n, .int .i64 0, .int .i64 (i : Int), .bool false, .bool true]) := by
      have := hVH.out; unfold chkB at this; rw [if_neg (by rw [nH.out]; exact hbig)] at this; exact this.symm
    have S0 : Hid (Below w.heap.size w w1 ∧ Bd5 w1 w.heap.size 0 ∧ badP (l.drop 0) 0 = badP l 0) := ⟨b1H.out, B1.out, rfl⟩
    clear hVH b1H B1
    go_enter Tryz.func12, Tryz.ntmps12
    go_wp2_with fail
    rw [← hw1]
    clear hw1
    go_loopw [3] (fun v wr => ∃ i : Nat, v = .int .i64 (i : Int) ∧ i ≤ n ∧ Hid (Below w.heap.size w wr ∧ Bd5 wr w.heap.size 0 ∧ badP (l.drop i) i = badP l 0)) (fun v _ => n - (intOf v).toNat)
    case atStart => exact ⟨0, rfl, Nat.zero_le _, S0⟩
    case round =>
      clear S0
      obtain ⟨i, rfl, il, hS⟩ := hrel
      have i0 : (0 : Int) ≤ (i : Int) := by omega
      have wi : IntKind.i64.wrap ((i : Int) + 1) = ((i + 1 : Nat) : Int) := IntWalk.i64_in _ (by omega)
      by_cases hi : i < n
      · have iI : (i : Int) < (n : Int) := by omega
        obtain ⟨p, hp⟩ := psome (l := l) (k := i) (by rw [nH.out]; exact hi)
        obtain ⟨b, off, ta, tc, fa, fc, e1, hbx, ax, fx⟩ := lH.out.at hS.out.1 hp
        subst e1
        have hstep := badP_drop hp
        have C : Hid _ := cR.out wr ta tc fa fc p (List.mem_of_getElem? hp) (fx wr hS.out.1).2
        have stH : Hid (badP (l.drop i) i = if pointN p = 0 then badP (l.drop (i + 1)) (i + 1) else some (i, pointN p)) := hstep
        clear fx hstep hp hbx
        unfold PAt at ax
        unfold bdV at C
        generalize p.t.length = nt at *
        generalize p.f.length = nf at *
        obtain ⟨x1, x2, x3, x4⟩ := ax
        generalize pointN p = N at C stH
        go_wp2_with fail
        refine Calls.mono C.out ?_
        rintro e w3 ⟨rfl, b3⟩
        obtain ⟨w4, hw4⟩ : ∃ w4, w4 = w3.alloc (.cells #[.int .i64 N, .int .i64 0, .int .i64 0, .bool false, .bool false] 36) := ⟨_, rfl⟩
        have b4 : Below wr.heap.size wr w4 := by rw [hw4]; exact b3.alloc b3.size _
        have S4 : Hid (Below w.heap.size w w4 ∧ Bd5 w4 w.heap.size 0) := ⟨hS.out.1.trans (b4.mono hS.out.1.size), hS.out.2.1.below b4⟩
        clear b3 b4 C x1 x2 x3 x4
        by_cases h0 : N = 0
        · have h0b : (N == 0) = true := by simpa using h0
          have S2 : Hid (badP (l.drop (i + 1)) (i + 1) = badP l 0) := by have := stH.out; rw [if_pos h0] at this; rw [← this]; exact hS.out.2.2
          have S5 : Hid (Below w.heap.size w w4 ∧ Bd5 w4 w.heap.size 0 ∧ badP (l.drop (i + 1)) (i + 1) = badP l 0) := ⟨S4.out.1, S4.out.2, S2.out⟩
          clear stH hS S2 S4 h0
          go_wp2_with fail
          rw [← hw4]
          exact ⟨⟨i + 1, by first | rfl | simp, by omega, S5⟩, by simp [intOf]; omega⟩
        · have h0b : (N == 0) = false := by simpa using h0
          have VV : Hid (V = .agg #[.int .i64 N, .int .i64 0, .int .i64 (i : Int), .bool false, .bool true]) := by
            have := stH.out; rw [if_neg h0] at this; rw [← hS.out.2.2, this] at hV2; exact hV2
          have cI : Hid _ := refinB (i : Int) N h0b w4
          clear stH hS h0
          go_wp2_with fail
          rw [← hw4]
          clear hw4
          refine Calls.mono cI.out ?_
          rintro e w5 ⟨rfl, b5⟩
          obtain ⟨k1, kf, k2, k3, k4, k5, k6⟩ := S4.out.2.below b5
          have kf0 := kf 0 (by omega)
          have kf1 := kf 1 (by omega)
          have kf2 := kf 2 (by omega)
          have kf3 := kf 3 (by omega)
          have kf4 := kf 4 (by omega)
          have fin := set5_below (S4.out.1.trans (b5.mono S4.out.1.size))
          have finH : Hid (∀ v0 v1 v2 v3 v4 : Value, Below w.heap.size w (((((w5.setCell ⟨w.heap.size, 0, none⟩ v0).setCell ⟨w.heap.size, 1, none⟩ v1).setCell ⟨w.heap.size, 2, none⟩ v2).setCell ⟨w.heap.size, 3, none⟩ v3).setCell ⟨w.heap.size, 4, none⟩ v4)) := fin
          clear b5 kf fin S4 cI
          go_wp2_with fail
          simp [bodyPost, results, Tryz.results12, go_sem, k2, k3, k4, k5, k6]
          exact ⟨VV.out.symm, finH.out _ _ _ _ _⟩
      · have iI : ¬ (i : Int) < (n : Int) := by omega
        have VV : Hid (V = .agg #[.int .i64 0, .int .i64 0, .int .i64 0, .bool false, .bool false]) := by
          have h2 := hS.out.2.2
          rw [List.drop_eq_nil_of_le (by rw [nH.out]; omega)] at h2
          rw [← h2] at hV2; exact hV2
        obtain ⟨k1, kf, k2, k3, k4, k5, k6⟩ := hS.out.2.1
        have kf0 := kf 0 (by omega)
        have kf1 := kf 1 (by omega)
        have kf2 := kf 2 (by omega)
        have kf3 := kf 3 (by omega)
        have kf4 := kf 4 (by omega)
        have fin := set5_below hS.out.1
        have finH : Hid (∀ v0 v1 v2 v3 v4 : Value, Below w.heap.size w (((((wr.setCell ⟨w.heap.size, 0, none⟩ v0).setCell ⟨w.heap.size, 1, none⟩ v1).setCell ⟨w.heap.size, 2, none⟩ v2).setCell ⟨w.heap.size, 3, none⟩ v3).setCell ⟨w.heap.size, 4, none⟩ v4)) := fin
        clear kf fin hS
        go_wp2_with fail
        simp [bodyPost, results, Tryz.results12, go_sem, k2, k3, k4, k5, k6]
        exact ⟨VV.out.symm, finH.out _ _ _ _ _⟩
end Go.Proofs.YtepakgfdakeibaaGreatDoor

namespace Go.Proofs.YtepakgfdakeibaaGreatDoor
open Go.RowKit _root_.Go.Proofs.YtepakgfdakeibaaGreatDoor.So
set_option linter.unusedVariables false
set_option linter.unusedSimpArgs false
/-- what points say. -/
def flW (p : PtP) (f : FdP) : WrP := ⟨⟨p.m, sortT p.t, f.1⟩, p.tm, 0, f.2⟩
def flatL (l : List PtP) : List WrP := l.flatMap fun p => p.f.map (flW p)
theorem flatL_app (l m : List PtP) : flatL (l ++ m) = flatL l ++ flatL m := by simp [flatL]
theorem flatL_take {l : List PtP} {i : Nat} {p : PtP} (h : l[i]? = some p) : flatL (l.take (i + 1)) = flatL (l.take i) ++ p.f.map (flW p) := by
  rw [List.take_add_one, h, Option.toList, flatL_app]; simp [flatL]
theorem flatL_few {l : List PtP} (h : ∀ p ∈ l, p.f.length ≤ 16) : (flatL l).length ≤ 16 * l.length := by
  induction l with
  | nil => simp [flatL]
  | cons p l ih =>
    have h1 := h p List.mem_cons_self
    have h2 := ih (fun q hq => h q (List.mem_cons_of_mem _ hq))
    rw [show flatL (p :: l) = p.f.map (flW p) ++ flatL l by simp [flatL], List.length_append, List.length_map, List.length_cons]; omega
theorem flatL_tags {l : List PtP} (h : ∀ p ∈ l, p.t.length ≤ 4398046511104) : ∀ x ∈ flatL l, x.s.t.length ≤ 4398046511104 := by
  intro x hx
  obtain ⟨p, hp, hx⟩ := List.mem_flatMap.1 hx
  obtain ⟨f, _, rfl⟩ := List.mem_map.1 hx
  exact Nat.le_trans (sortT_short p.t) (h p hp)
theorem right_few {p : PtP} (h : pointN p = 0) : p.f.length ≤ 16 := by
  unfold pointN at h
  split at h
  · split at h
    · split at h
      · rename_i hf
        unfold fieldsB at hf
        simp at hf
        omega
      · cases h
    · cases h
  · cases h
theorem sortedR_new {w w' : World} {e : Ending} {l : List TagP} (h : SortedR w w' e l) : ∃ a c, e = .returned (.slice a (sortT l).length c) ∧ TgIn w' a (sortT l) ∧ ∀ ad, a = some ad → w.heap.size ≤ ad.block := by
  rcases h with ⟨rfl, h⟩ | ⟨g, m, cap, G, h1, h2, h3, h4, h5⟩
  · exact ⟨none, 0, h, Or.inl rfl, fun ad q => by cases q⟩
  · refine ⟨some ⟨g, 0, none⟩, cap, ?_, by rw [← h5]; exact h4.tin, fun ad q => by cases q; exact h2⟩
    rw [h1, ← h5]; simp
/-- one more, and where the row lies then. -/
theorem app3W (W : World) (B : Nat) (v : Value) (L : List WrA) (h : OW2 W B v L) (hB : B ≤ W.heap.size) (t : WrA) (ht : SerIn W t.2.1 t.1.s) (htb : t.1.s.t ≠ [] → ∀ ad, t.2.1 = some ad → v.ownBlock ≠ some ad.block) (hn : L.length + 1 ≤ 1099511627776) :
    ∃ a c w', (Builtin.append_ #[22, 22] 22 #[v, .slice (some ⟨W.heap.size, 0, none⟩) 1 1]).run Tryz.prog (W.alloc (.cells #[.string t.1.s.m, .slice t.2.1 t.1.s.t.length t.2.2, .string t.1.s.f, .int .i64 t.1.tm, .int .u8 (t.1.kd : Int), .int .i64 t.1.n] 52)) = .ok (.slice a (L.length + 1) c) w' ∧ OW2 w' B (.slice a (L.length + 1) c) (L ++ [t]) ∧ Below B W w' ∧ W.grownBy w' v.ownBlock ∧ ∀ g, (Value.slice a (L.length + 1) c).ownBlock = some g → v.ownBlock = some g ∨ W.heap.size ≤ g := by
  obtain ⟨a, c, w', h1, h2, h3⟩ := app2W W B v L h hB t ht htb hn
  have b1 : Below W.heap.size W (W.alloc (.cells #[.string t.1.s.m, .slice t.2.1 t.1.s.t.length t.2.2, .string t.1.s.f, .int .i64 t.1.tm, .int .u8 (t.1.kd : Int), .int .i64 t.1.n] 52)) := (Below.refl _ W).alloc (Nat.le_refl _) _
  have ho2 := (h.1.below b1).1
  obtain ⟨i, i1, i0⟩ := Option.map_eq_some_iff.1 wr_info
  have i2 : i.zero = some (.agg #[.string ⟨#[]⟩, .slice none 0 0, .string ⟨#[]⟩, .int .i64 0, .int .u8 0, .int .i64 0]) := congrArg (·.1) i0
  have i3 : i.bytes = 80 := congrArg (·.2.1) i0
  have i4 : i.size = 6 := congrArg (·.2.2) i0
  have hml : maxLen = 9223372036854775807 := by decide
  have hB2 := Nat.le_trans hB b1.size
  obtain ⟨g, cap, w2, hr, own, gr, hat, hlt⟩ := run_append_lies (P := Tryz.prog) _ 22 22 B 52 i (.agg #[.string ⟨#[]⟩, .slice none 0 0, .string ⟨#[]⟩, .int .i64 0, .int .u8 0, .int .i64 0]) 6 80 Tryz.underlying22 i1 i2 i4 i3 rfl (by omega) v L.length (encW L) ho2 ⟨W.heap.size, 0, none⟩ 1 1 (encW [t]) rfl (fun j u hj => by
    rcases j with _ | _ | _ | _ | _ | _ | j <;> simp [encW] at hj <;> (try (subst hj; simp [go_sem]))) (encW_one _) (by omega) (by omega) (by omega) hB2 _ rfl
  rw [h1] at hr
  injection hr with e1 e2
  injection e1 with e3 e4 e5
  subst e2 e3 e5
  refine ⟨_, c, w', h1, h2, h3, ⟨gr.os, gr.tape, gr.output, Nat.le_trans b1.size gr.size, fun k hk hne => by rw [gr.block k (Nat.lt_of_lt_of_le hk b1.size) hne]; exact b1.block k hk⟩, fun g' hg' => ?_⟩
  have q1 : g = g' := by simpa [Value.ownBlock] using hg'
  subst q1
  rcases hat with e | e
  · exact Or.inl e
  · right; rw [e]; exact b1.size
/-- what stands while a point's fields are told. -/
structure FlI (w : World) (l : List PtP) (i : Nat) (p : PtP) (K M : Nat) (a' : Option Addr) (fa : Option Addr) (fc : Nat) (k : Nat) (v : Value) (L : List WrA) (wr : World) : Prop where
  bl : Below w.heap.size w wr
  row : OW2 wr w.heap.size v L
  is : L.map (·.1) = flatL (l.take i) ++ (p.f.take k).map (flW p)
  own : ∀ g, v.ownBlock = some g → g < K ∨ M ≤ g
  tg : TgIn wr a' (sortT p.t)
  ta : sortT p.t ≠ [] → ∀ ad, a' = some ad → K < ad.block ∧ ad.block < M
  hM : M ≤ wr.heap.size
  hK : K < M
  box : wr.cell? ⟨K, 0, none⟩ = some (.string p.m) ∧ wr.cell? ⟨K, 2, none⟩ = some (.slice fa p.f.length fc) ∧ wr.cell? ⟨K, 3, none⟩ = some (.int .i64 p.tm)
  kl : k ≤ p.f.length
  few : L.length ≤ 16 * i + k
theorem FlI.below {w : World} {l : List PtP} {i : Nat} {p : PtP} {K M : Nat} {a' fa : Option Addr} {fc k : Nat} {v : Value} {L : List WrA} {wr w' : World} (h : FlI w l i p K M a' fa fc k v L wr) (hB : Below wr.heap.size wr w') : FlI w l i p K M a' fa fc k v L w' := by
  have kl : K < wr.heap.size := Nat.lt_of_lt_of_le h.hK h.hM
  exact ⟨h.bl.trans (hB.mono h.bl.size), h.row.below hB, h.is, h.own, h.tg.below hB, h.ta, Nat.le_trans h.hM hB.size, h.hK, ⟨by rw [hB.cell (p := ⟨K, 0, none⟩) kl]; exact h.box.1, by rw [hB.cell (p := ⟨K, 2, none⟩) kl]; exact h.box.2.1, by rw [hB.cell (p := ⟨K, 3, none⟩) kl]; exact h.box.2.2⟩, h.kl, h.few⟩
theorem FlI.app {w : World} {l : List PtP} {i : Nat} {p : PtP} {K M : Nat} {a' fa : Option Addr} {fc k : Nat} {a3 : Option Addr} {z c3 : Nat} {L : List WrA} {W : World} (h : FlI w l i p K M a' fa fc k (.slice a3 z c3) L W) (c' : Nat) {f : FdP} (hf : p.f[k]? = some f) (hp : p.f.length ≤ 16) (hi : i ≤ 10000) (hpt : p.t.length ≤ 4398046511104) :
    ∃ a4 c4 w6 L4, (∀ W' N, W' = W.alloc (.cells #[.string p.m, .slice a' (sortT p.t).length c', .string f.1, .int .i64 p.tm, .int .u8 0, .int .i64 f.2] 52) → N = W.heap.size → (Builtin.append_ #[22, 22] 22 #[.slice a3 z c3, .slice (some ⟨N, 0, none⟩) 1 1]).run Tryz.prog W' = .ok (.slice a4 (z + 1) c4) w6) ∧ FlI w l i p K M a' fa fc (k + 1) (.slice a4 (z + 1) c4) L4 w6 := by
  have lz : L.length = z := by
    obtain ⟨_, _, e, _⟩ := h.row.1.win
    injection e with _ e _
    exact e.symm
  have hk : k < p.f.length := (List.getElem?_eq_some_iff.1 hf).1
  have hs := sortT_short p.t
  obtain ⟨a4, c4, w6, q1, q2, q3, q4, q5⟩ := app3W W w.heap.size (.slice a3 z c3) L h.row h.bl.size (flW p f, a', c') ⟨h.tg, show (sortT p.t).length ≤ 9223372036854775807 by omega⟩ (fun he ad had e => by
    have h1 := h.ta he ad had
    rcases h.own _ e with h2 | h2 <;> omega) (by have := h.few; omega)
  rw [lz] at q1 q2 q5
  have hKW : K < W.heap.size := Nat.lt_of_lt_of_le h.hK h.hM
  have keep : ∀ o, w6.cell? ⟨K, o, none⟩ = W.cell? ⟨K, o, none⟩ := fun o => by
    refine World.cell?_of_block (w := W) (a := ⟨K, o, none⟩) (q4.block K hKW (fun e => ?_))
    have hM := h.hM
    have hK := h.hK
    rcases h.own K e.symm with h2 | h2 <;> omega
  refine ⟨a4, c4, w6, _, fun W' N e e' => by subst e; subst e'; exact q1, ⟨h.bl.trans q3, q2, ?_, fun g hg => ?_, ?_, h.ta, Nat.le_trans h.hM q4.size, h.hK, ⟨by rw [keep]; exact h.box.1, by rw [keep]; exact h.box.2.1, by rw [keep]; exact h.box.2.2⟩, hk, by have := h.few; simp; omega⟩⟩
  · rw [List.map_append, h.is, List.take_add_one, hf, List.append_assoc]; simp
  · rcases q5 g hg with e | e
    · exact h.own g e
    · right; exact Nat.le_trans h.hM e
  · refine h.tg.grownW q4 (fun he ad had e => ?_)
    have h1 := h.ta he ad had
    rcases h.own _ e with h2 | h2 <;> omega
end Go.Proofs.YtepakgfdakeibaaGreatDoor

namespace Go.Proofs.YtepakgfdakeibaaGreatDoor
open Go.RowKit _root_.Go.Proofs.YtepakgfdakeibaaGreatDoor.So
set_option linter.unusedVariables false
set_option linter.unusedSimpArgs false
theorem odR_two {w0 w1 : World} {l : List WrP} {e : Ending} (h : OdR w0 w1 l e) : ∃ a z c, e = .returned (.slice a z c) ∧ z = (odD l).length ∧ z ≤ c ∧ WIn w1 a (odD l) ∧ Below w0.heap.size w0 w1 := by
  obtain ⟨a, z, c, L, rfl, o, i, b⟩ := h
  obtain ⟨a', c', e', hc, hw⟩ := o.slice
  injection e' with e1 e2 e3
  subst e1 e3
  rw [i] at hw
  refine ⟨a, z, c, rfl, ?_, by omega, hw, b⟩
  rw [← i, List.length_map]; exact e2
/-- what stands between two points. -/
structure FlO (w : World) (l : List PtP) (i : Nat) (v : Value) (L : List WrA) (wr : World) : Prop where
  bl : Below w.heap.size w wr
  row : OW2 wr w.heap.size v L
  is : L.map (·.1) = flatL (l.take i)
  few : L.length ≤ 16 * i
theorem FlO.start {w : World} {l : List PtP} {i : Nat} {p : PtP} {v : Value} {L : List WrA} {wr w2 w3 : World} (h : FlO w l i v L wr) (a' fa ta : Option Addr) (tc fc : Nat) (h2 : w2 = wr.alloc (.cells #[.string p.m, .slice ta p.t.length tc, .slice fa p.f.length fc, .int .i64 p.tm] 41)) (b3 : Below w2.heap.size w2 w3) (tg : TgIn w3 a' (sortT p.t)) (fr : ∀ ad, a' = some ad → w2.heap.size ≤ ad.block) : FlI w l i p wr.heap.size w3.heap.size a' fa fc 0 v L w3 := by
  have b2 : Below wr.heap.size wr w2 := by rw [h2]; exact (Below.refl _ wr).alloc (Nat.le_refl _) _
  have s2 : w2.heap.size = wr.heap.size + 1 := by rw [h2]; simp
  have B3 := b2.trans (b3.mono b2.size)
  have kl : wr.heap.size < w2.heap.size := by omega
  have z : w2.cell? ⟨wr.heap.size, 0, none⟩ = some (.string p.m) ∧ w2.cell? ⟨wr.heap.size, 2, none⟩ = some (.slice fa p.f.length fc) ∧ w2.cell? ⟨wr.heap.size, 3, none⟩ = some (.int .i64 p.tm) := by rw [h2]; simp [go_sem]
  refine ⟨h.bl.trans (B3.mono h.bl.size), h.row.below B3, by simpa using h.is, fun g hg => Or.inl (World.ownsRow.lt h.row.1.1 g hg).2, tg, fun hne ad had => ⟨by have := fr ad had; omega, ?_⟩, Nat.le_refl _, Nat.lt_of_lt_of_le kl b3.size, ⟨by rw [b3.cell (p := ⟨wr.heap.size, 0, none⟩) kl]; exact z.1, by rw [b3.cell (p := ⟨wr.heap.size, 2, none⟩) kl]; exact z.2.1, by rw [b3.cell (p := ⟨wr.heap.size, 3, none⟩) kl]; exact z.2.2⟩, Nat.zero_le _, by have := h.few; omega⟩
  rcases tg with e | ⟨b, off, e, hb, _⟩
  · exact absurd e hne
  · rw [had] at e; injection e with e; rw [e]; exact hb
theorem FlI.done {w : World} {l : List PtP} {i : Nat} {p : PtP} {K M : Nat} {a' fa : Option Addr} {fc : Nat} {v : Value} {L : List WrA} {wr : World} (h : FlI w l i p K M a' fa fc p.f.length v L wr) (hp : l[i]? = some p) (h16 : p.f.length ≤ 16) : FlO w l (i + 1) v L wr := ⟨h.bl, h.row, by rw [flatL_take hp, h.is, List.take_length], by have := h.few; omega⟩
/-- what Flat tells of points that are right. -/
def FlaR (w w' : World) (l : List PtP) (e : Ending) : Prop := ∃ a z c, e = .returned (.tuple #[.slice a z c, .nilIface]) ∧ z = (odD (flatL l)).length ∧ z ≤ c ∧ WIn w' a (odD (flatL l)) ∧ Below w.heap.size w w'
set_option maxRecDepth 100000 in
set_option maxHeartbeats 8000000 in
theorem flat_ok (a : Option Addr) (c : Nat) (l : List PtP) (w : World) (hl : PsIn w a l) (hok : chkOk l) (hpt : ∀ p ∈ l, p.t.length ≤ 4398046511104) (hT : UT w) :
    Calls Tryz.prog 11 #[.slice a l.length c] w fun e w' => FlaR w w' l e := by
  obtain ⟨n, hnl⟩ : ∃ n, l.length = n := ⟨_, rfl⟩
  have nH : Hid (l.length = n) := hnl
  have lH : Hid (PsIn w a l) := hl
  have h16 : Hid (∀ p ∈ l, p.f.length ≤ 16) := fun p hp => right_few (badP_none hok.2 p hp)
  have hptH : Hid (∀ p ∈ l, p.t.length ≤ 4398046511104) := hpt
  have n4 : n ≤ 10000 := by rw [← hnl]; exact hok.1
  have C0 : Hid (Calls Tryz.prog 26 #[.slice a l.length c] w fun e w' => e = .returned .nilIface ∧ Below w.heap.size w w') := by
    have := check_any a c l w hl (by omega) hT
    rw [chkV_ok hok] at this
    exact this
  have cS : Hid (∀ W ta tc p, p ∈ l → TgIn W ta p.t → Calls Tryz.prog 27 #[.slice ta p.t.length tc] W fun e w' => ∃ a' c', e = .returned (.slice a' (sortT p.t).length c') ∧ TgIn w' a' (sortT p.t) ∧ (∀ ad, a' = some ad → W.heap.size ≤ ad.block) ∧ Below W.heap.size W w') := fun W ta tc p hp ht => (sort_any ta tc p.t W ht (hpt p hp)).mono fun e w' h => by
    obtain ⟨a', c', e1, e2, e3⟩ := sortedR_new h.1
    exact ⟨a', c', e1, e2, e3, h.2⟩
  have cO : Hid (∀ (W : World) (v : Value) (a3 : Option Addr) (z c3 : Nat) (L : List WrA), v = .slice a3 z c3 → FlO w l n v L W → Calls Tryz.prog 19 #[.slice a3 z c3] W fun e w' => ∃ a z c, e = .returned (.slice a z c) ∧ z = (odD (flatL l)).length ∧ z ≤ c ∧ WIn w' a (odD (flatL l)) ∧ Below w.heap.size w w') := fun W v a3 z c3 L e h => by
    subst e
    have hi := h.is
    rw [← nH.out, List.take_length] at hi
    obtain ⟨a4, c4, e4, _, hw⟩ := h.row.slice
    injection e4 with e5 e6 e7
    subst e5 e7
    rw [hi] at hw
    have lL : z = (flatL l).length := by rw [← hi, List.length_map]; exact e6
    rw [lL]
    have hf := flatL_few h16.out
    refine (orderD a3 c3 (flatL l) W hw (by rw [nH.out] at hf; omega) (flatL_tags hpt)).mono fun e w' hh => ?_
    obtain ⟨a5, z5, c5, q1, q2, q3, q4, q5⟩ := odR_two hh
    exact ⟨a5, z5, c5, q1, q2, q3, q4, h.bl.trans (q5.mono h.bl.size)⟩
  rw [hnl] at C0 ⊢
  clear hl hok hpt hT hnl
  go_enter Tryz.func11, Tryz.ntmps11
  go_wp2_with fail
  refine Calls.mono C0.out ?_
  rintro e w1 ⟨rfl, b1⟩
  have S0 : Hid (FlO w l 0 (.slice none 0 0) [] w1) := ⟨b1, OW2.nil _ _, by simp [flatL], by simp⟩
  clear b1 C0
  go_wp2_with fail
  go_loopw [5, 18] (fun v5 v18 wr => ∃ (i : Nat) (a3 : Option Addr) (z c3 : Nat) (L : List WrA), v5 = .slice a3 z c3 ∧ v18 = .int .i64 (i : Int) ∧ i ≤ n ∧ Hid (FlO w l i (.slice a3 z c3) L wr)) (fun _ v _ => n - (intOf v).toNat)
  case atStart => exact ⟨0, none, 0, 0, [], rfl, rfl, Nat.zero_le _, S0⟩
  case round =>
    clear S0
    obtain ⟨i, a3, z, c3, L, rfl, rfl, il, hS⟩ := hrel
    have i0 : (0 : Int) ≤ (i : Int) := by omega
    have wi : IntKind.i64.wrap ((i : Int) + 1) = ((i + 1 : Nat) : Int) := IntWalk.i64_in _ (by omega)
    by_cases hi : i < n
    · have iI : (i : Int) < (n : Int) := by omega
      obtain ⟨p, hp⟩ := psome (l := l) (k := i) (by rw [nH.out]; exact hi)
      have hpm := List.mem_of_getElem? hp
      have p16 := h16.out p hpm
      have ppt := hptH.out p hpm
      obtain ⟨b, off, ta, tc, fa, fc, e1, hbx, ax, fx⟩ := lH.out.at hS.out.bl hp
      subst e1
      obtain ⟨K, hK⟩ : ∃ K, K = wr.heap.size := ⟨_, rfl⟩
      obtain ⟨w2, hw2⟩ : ∃ w2, w2 = wr.alloc (.cells #[.string p.m, .slice ta p.t.length tc, .slice fa p.f.length fc, .int .i64 p.tm] 41) := ⟨_, rfl⟩
      have b2 : Below w.heap.size w w2 := by rw [hw2]; exact hS.out.bl.alloc hS.out.bl.size _
      have C1 : Hid _ := cS.out w2 ta tc p hpm (fx w2 b2).2.1
      have st : Hid (∀ (w3 : World) (a' : Option Addr), Below w2.heap.size w2 w3 → TgIn w3 a' (sortT p.t) → (∀ ad, a' = some ad → w2.heap.size ≤ ad.block) → FlI w l i p K w3.heap.size a' fa fc 0 (.slice a3 z c3) L w3) := fun w3 a' q1 q2 q3 => by rw [hK]; exact hS.out.start a' fa ta tc fc hw2 q1 q2 q3
      have fd : Hid (∀ W, Below w.heap.size w W → FdIn W fa p.f) := fun W hW => (fx W hW).2.2.2.1
      have fdc : Hid (p.f.length ≤ fc) := (fx w2 b2).2.2.2.2.2
      have dn : Hid (∀ (M : Nat) (a' : Option Addr) (v : Value) (L : List WrA) (wx : World), FlI w l i p K M a' fa fc p.f.length v L wx → FlO w l (i + 1) v L wx) := fun M a' v L wx h => h.done hp p16
      have ap : Hid (∀ (M : Nat) (a' : Option Addr) (c' k : Nat) (a4 : Option Addr) (z4 c4 : Nat) (L : List WrA) (W : World) (f : FdP), FlI w l i p K M a' fa fc k (.slice a4 z4 c4) L W → p.f[k]? = some f → _) := fun M a' c' k a4 z4 c4 L W f h hf => h.app c' hf p16 (by omega) ppt
      clear fx b2 hbx hp hpm ppt hS
      unfold PAt at ax
      obtain ⟨nf, hnf⟩ : ∃ nf, nf = p.f.length := ⟨_, rfl⟩
      have nfH : Hid (nf = p.f.length) := hnf
      obtain ⟨pm, hpm⟩ : ∃ pm, pm = p.m := ⟨_, rfl⟩
      have z1 : w2.cell? ⟨K, 1, none⟩ = some (.slice ta p.t.length tc) := by rw [hw2, hK]; simp [go_sem]
      rw [← hnf] at ax hw2 p16
      obtain ⟨nt, hnt⟩ : ∃ nt, nt = p.t.length := ⟨_, rfl⟩
      rw [← hnt] at ax hw2 z1 C1
      clear hnf hnt hpm
      obtain ⟨x1, x2, x3, x4⟩ := ax
      go_wp2_with fail
      rw [← hw2, ← hK]
      clear hw2 hK x1 x2 x3 x4 z1
      refine Calls.mono C1.out ?_
      rintro e w3 ⟨a', c', rfl, t3, f3, b3⟩
      have I0 : Hid (FlI w l i p K w3.heap.size a' fa fc 0 (.slice a3 z c3) L w3) := st.out w3 a' b3 t3 f3
      obtain ⟨M, hM⟩ : ∃ M, M = w3.heap.size := ⟨_, rfl⟩
      rw [← hM] at I0
      have z2 := I0.out.box.2.1
      rw [← nfH.out] at z2
      clear b3 t3 f3 C1 st hM
      go_wp2_with fail
      clear z2
      go_loopw [5, 28] (fun v5 v28 wx => ∃ (k : Nat) (a3 : Option Addr) (z c3 : Nat) (L : List WrA), v5 = .slice a3 z c3 ∧ v28 = .int .i64 (k : Int) ∧ k ≤ nf ∧ Hid (FlI w l i p K M a' fa fc k (.slice a3 z c3) L wx)) (fun _ v _ => nf - (intOf v).toNat)
      case atStart => exact ⟨0, a3, z, c3, L, rfl, rfl, Nat.zero_le _, I0⟩
      case round =>
        clear I0
        obtain ⟨k, a4, z4, c4, L4, rfl, rfl, kl, hI⟩ := hrel
        have k0 : (0 : Int) ≤ (k : Int) := by omega
        have wk : IntKind.i64.wrap ((k : Int) + 1) = ((k + 1 : Nat) : Int) := IntWalk.i64_in _ (by omega)
        by_cases hk : k < nf
        · have kI : (k : Int) < (nf : Int) := by omega
          obtain ⟨f, hf⟩ : ∃ f, p.f[k]? = some f := ⟨_, List.getElem?_eq_getElem (by rw [← nfH.out]; exact hk)⟩
          obtain ⟨fb, fo, ef, hfb, y0, y1⟩ := (fd.out wr hI.out.bl).at (Below.refl _ _) hf
          subst ef
          obtain ⟨w5, hw5⟩ : ∃ w5, w5 = wr.alloc (.cells #[.string f.1, .int .i64 f.2] 54) := ⟨_, rfl⟩
          have b5 : Below wr.heap.size wr w5 := by rw [hw5]; exact (Below.refl _ wr).alloc (Nat.le_refl _) _
          obtain ⟨a6, c6, w6, L6, r6, I6⟩ := ap.out M a' c' k a4 z4 c4 L4 w5 f (hI.out.below b5) hf
          have rH : Hid (∀ W' N, W' = w5.alloc (.cells #[.string p.m, .slice a' (sortT p.t).length c', .string f.1, .int .i64 p.tm, .int .u8 0, .int .i64 f.2] 52) → N = w5.heap.size → (Builtin.append_ #[22, 22] 22 #[.slice a4 z4 c4, .slice (some ⟨N, 0, none⟩) 1 1]).run Tryz.prog W' = .ok (.slice a6 (z4 + 1) c6) w6) := r6
          have I6H : Hid (FlI w l i p K M a' (some ⟨fb, fo, none⟩) fc (k + 1) (.slice a6 (z4 + 1) c6) L6 w6) := I6
          obtain ⟨p0, _, p3⟩ := hI.out.box
          have Kl : K < wr.heap.size := Nat.lt_of_lt_of_le hI.out.hK hI.out.hM
          have Kn : ¬ K = wr.heap.size := Nat.ne_of_lt Kl
          clear r6 I6 b5 hI hf
          generalize (sortT p.t).length = ns at *
          subst hw5
          go_wp2_with (at_builtin; refine wpList_append_runB (by rfl) _ _ _ (by rfl) _ _ _ _ (by rfl) (by rfl) (rH.out _ _ (by first | rfl | simp) (by first | rfl | simp)) ?_)
          exact ⟨⟨k + 1, a6, z4 + 1, c6, L6, rfl, by first | rfl | simp, by omega, I6H⟩, by simp [intOf]; omega⟩
        · have kI : ¬ (k : Int) < (nf : Int) := by omega
          have hO : Hid (FlO w l (i + 1) (.slice a4 z4 c4) L4 wr) := by
            have ek : k = p.f.length := by rw [← nfH.out]; omega
            have := hI.out
            rw [ek] at this
            exact dn.out _ _ _ _ _ this
          clear hI
          go_wp2_with fail
          exact ⟨⟨i + 1, a4, z4, c4, L4, rfl, by first | rfl | simp, by omega, hO⟩, by simp [intOf]; omega⟩
    · have iI : ¬ (i : Int) < (n : Int) := by omega
      obtain rfl : i = n := by omega
      have C : Hid _ := cO.out wr _ a3 z c3 L rfl hS.out
      clear hS
      go_wp2_with fail
      refine Calls.mono C.out ?_
      rintro e w9 ⟨a5, z5, c5, rfl, r⟩
      have fin : Hid (FlaR w w9 l (.returned (.tuple #[.slice a5 z5 c5, .nilIface]))) := ⟨a5, z5, c5, rfl, r⟩
      clear r C
      go_wp2_with fail
      go_ret2
      exact fin.out
end Go.Proofs.YtepakgfdakeibaaGreatDoor

namespace Go.Proofs.YtepakgfdakeibaaGreatDoor
open Go.RowKit _root_.Go.Proofs.YtepakgfdakeibaaGreatDoor.So
set_option linter.unusedVariables false
set_option linter.unusedSimpArgs false
def noP : PtP := ⟨⟨#[]⟩, [], [], 0⟩
instance : Inhabited PtP := ⟨noP⟩
/-- a point, with where its tags and fields lie. -/
abbrev PtA := PtP × (Option Addr × Nat) × (Option Addr × Nat)
def encP : List PtA → List Value
  | [] => []
  | t :: r => [.string t.1.m, .slice t.2.1.1 t.1.t.length t.2.1.2, .slice t.2.2.1 t.1.f.length t.2.2.2, .int .i64 t.1.tm] ++ encP r
theorem encP_append (a b : List PtA) : encP (a ++ b) = encP a ++ encP b := by
  induction a with
  | nil => rfl
  | cons s r ih => simp [encP, ih]
theorem encP_len (l : List PtA) : (encP l).length = l.length * 4 := by
  induction l with
  | nil => rfl
  | cons s r ih => simp only [encP, List.length_append, ih, List.length_cons, List.length_nil]; omega
theorem encP_one (l : List PtA) : ∀ u ∈ encP l, u.oneCell' = true := by
  induction l with
  | nil => intro u hu; cases hu
  | cons s r ih =>
    intro u hu
    simp only [encP, List.mem_append, List.mem_cons, List.not_mem_nil, or_false] at hu
    rcases hu with (rfl | rfl | rfl | rfl) | hu
    · rfl
    · rfl
    · rfl
    · rfl
    · exact ih u hu
theorem encP_get (l : List PtA) (i : Nat) (s : PtA) (h : l[i]? = some s) : (encP l)[i * 4]? = some (.string s.1.m) ∧ (encP l)[i * 4 + 1]? = some (.slice s.2.1.1 s.1.t.length s.2.1.2) ∧ (encP l)[i * 4 + 2]? = some (.slice s.2.2.1 s.1.f.length s.2.2.2) ∧ (encP l)[i * 4 + 3]? = some (.int .i64 s.1.tm) := by
  induction l generalizing i with
  | nil => simp at h
  | cons a r ih =>
    cases i with
    | zero => simp at h; subst h; simp [encP]
    | succ i =>
      simp at h
      have := ih i h
      simp only [encP]
      rw [show (i + 1) * 4 = i * 4 + 4 by omega]
      simpa using this
theorem pt_info : (Tryz.prog.info? 41).map (fun i => (i.zero, i.bytes, i.size)) = some (some (.agg #[.string ⟨#[]⟩, .slice none 0 0, .slice none 0 0, .int .i64 0]), 72, 4) := by kernel_rfl
theorem PsIn.enc {w : World} {b off : Nat} {l : List PtP} (h : PsIn w (some ⟨b, off, none⟩) l) : ∃ L : List PtA, L.map (·.1) = l ∧ (∀ t ∈ L, PtIn w t.2.1.1 t.2.2.1 t.2.2.2 t.1) ∧ ∀ j u, (encP L)[j]? = some u → w.cell? ⟨b, off + j, none⟩ = some u := by
  rcases h with h | ⟨b', off', e, hb, hc⟩
  · subst h; exact ⟨[], rfl, fun t ht => (by cases ht), fun j u hj => by simp [encP] at hj⟩
  · injection e with e
    injection e with e1 e2
    subst e1 e2
    have each : ∀ i, i < l.length → ∃ q : PtA, l[i]? = some q.1 ∧ PAt w b (off + i * 4) q.1 q.2.1.1 q.2.1.2 q.2.2.1 q.2.2.2 ∧ PtIn w q.2.1.1 q.2.2.1 q.2.2.2 q.1 := fun i hi => by
      obtain ⟨ta, tc, fa, fc, h1, h2⟩ := hc i _ (List.getElem?_eq_getElem hi)
      exact ⟨(l[i], (ta, tc), (fa, fc)), List.getElem?_eq_getElem hi, h1, h2⟩
    haveI : Inhabited PtA := ⟨(noP, (none, 0), (none, 0))⟩
    obtain ⟨q, hq⟩ := choose_belowW each
    have hget : ∀ i, i < l.length → ((List.range l.length).map q)[i]? = some (q i) := fun i hi => by rw [List.getElem?_map, List.getElem?_range hi]; rfl
    refine ⟨(List.range l.length).map q, ?_, fun t ht => ?_, fun j u hj => ?_⟩
    · refine List.ext_getElem? fun i => ?_
      rw [List.map_map, List.getElem?_map]
      rcases Nat.lt_or_ge i l.length with hi | hi
      · rw [List.getElem?_range hi, (hq i hi).1]; rfl
      · rw [List.getElem?_eq_none (by simpa using hi), List.getElem?_eq_none hi]; rfl
    · obtain ⟨i, hi, rfl⟩ := List.mem_map.1 ht
      exact (hq i (List.mem_range.1 hi)).2.2
    · have hj2 : j < l.length * 4 := by
        have := (List.getElem?_eq_some_iff.1 hj).1
        rw [encP_len] at this
        simpa using this
      have hi : j / 4 < l.length := by omega
      obtain ⟨e1, e2, e3, e4⟩ := encP_get _ _ _ (hget _ hi)
      obtain ⟨c1, c2, c3, c4⟩ := (hq _ hi).2.1
      rcases (by omega : j % 4 = 0 ∨ j % 4 = 1 ∨ j % 4 = 2 ∨ j % 4 = 3) with r | r | r | r
      · rw [show j = j / 4 * 4 by omega] at hj ⊢
        rw [e1] at hj
        rw [c1, ← hj]
      · rw [show j = j / 4 * 4 + 1 by omega] at hj ⊢
        rw [e2] at hj
        rw [← Nat.add_assoc, c2, ← hj]
      · rw [show j = j / 4 * 4 + 2 by omega] at hj ⊢
        rw [e3] at hj
        rw [← Nat.add_assoc, c3, ← hj]
      · rw [show j = j / 4 * 4 + 3 by omega] at hj ⊢
        rw [e4] at hj
        rw [← Nat.add_assoc, c4, ← hj]
theorem app_noP (W : World) (a ad : Option Addr) (n cap c : Nat) (h : n ≤ cap) : (Builtin.append_ #[26, 26] 26 #[.slice a n cap, .slice ad 0 c]).run Tryz.prog W = .ok (.slice a n cap) W := by
  obtain ⟨i, i1, i0⟩ := Option.map_eq_some_iff.1 pt_info
  cases a <;> cases ad <;> simp [Builtin.append_, run_underlying Tryz.underlying26, sizeOf, typeInfo, i1, Builtin.lenOf, Builtin.firstCells, storeCells, loadCells, loadCellsFrom, h]
/-- points in a row of one's own, their tags and fields where they lay. -/
structure CpS (w0 W : World) (v : Value) (L : List PtA) : Prop where
  own : W.ownsRow w0.heap.size 41 4 v L.length (encP L)
  pt : ∀ t ∈ L, PtIn w0 t.2.1.1 t.2.2.1 t.2.2.2 t.1
  bl : Below w0.heap.size w0 W
theorem CpS.empty (w : World) : CpS w (w.alloc (.cells #[] 41)) (.slice (some ⟨w.heap.size, 0, none⟩) 0 0) [] := by
  refine ⟨?_, (fun t h => by cases h), (Below.refl _ w).alloc (Nat.le_refl _) _⟩
  have := World.ownsRow_made (e := 41) (size := 4) (base := w.heap.size) w #[] 0 (by simp) (by simp [maxLen]) rfl
  simpa [encP] using this
theorem CpS.slice {w0 W : World} {v : Value} {L : List PtA} (h : CpS w0 W v L) : ∃ a cap, v = .slice a L.length cap ∧ L.length ≤ cap := by
  rcases h.own.2 with ⟨e1, e2⟩ | ⟨g, cap', cur, e1, _, _, hc, _⟩
  · exact ⟨none, 0, by rw [e1, e2], by omega⟩
  · exact ⟨_, cap', e1, hc⟩
theorem CpS.psin {w0 W : World} {v : Value} {L : List PtA} (h : CpS w0 W v L) : ∃ a cap, v = .slice a L.length cap ∧ L.length ≤ cap ∧ PsIn W a (L.map (·.1)) := by
  rcases h.own.2 with ⟨e, e0⟩ | ⟨g, cap, cur, e1, _, hg, hc, _⟩
  · exact ⟨none, 0, by rw [e, e0], by omega, Or.inl (by rw [List.eq_nil_of_length_eq_zero e0]; rfl)⟩
  · subst e1
    have hcs := World.ownsRow.cells h.own (g := g) rfl
    refine ⟨some ⟨g, 0, none⟩, cap, rfl, hc, Or.inr ⟨g, 0, rfl, (World.ownsRow.lt h.own g rfl).2, fun i x hx => ?_⟩⟩
    rw [List.getElem?_map, Option.map_eq_some_iff] at hx
    obtain ⟨t, ht, rfl⟩ := hx
    obtain ⟨e1, e2, e3, e4⟩ := encP_get L i t ht
    have k1 := hcs _ _ e1
    have k2 := hcs _ _ e2
    have k3 := hcs _ _ e3
    have k4 := hcs _ _ e4
    rw [tag_add, Nat.zero_add] at k1 k2 k3 k4
    rw [Nat.zero_add]
    exact ⟨t.2.1.1, t.2.1.2, t.2.2.1, t.2.2.2, ⟨k1, k2, k3, k4⟩, (h.pt t (List.mem_of_getElem? ht)).below h.bl⟩
theorem CpS.below {w0 W W' : World} {v : Value} {L : List PtA} (h : CpS w0 W v L) (hb : Below W.heap.size W W') : CpS w0 W' v L := by
  refine ⟨⟨h.own.1, ?_⟩, h.pt, h.bl.trans (hb.mono h.bl.size)⟩
  rcases h.own.2 with h2 | ⟨g, cap, cur, e1, e2, e3, e4⟩
  · exact Or.inl h2
  · exact Or.inr ⟨g, cap, cur, e1, e2, by rw [hb.block g (Array.getElem?_eq_some_iff.1 e3).1]; exact e3, e4⟩
/-- points appended, or none. -/
theorem appP (w0 W : World) (v : Value) (L : List PtA) (h : CpS w0 W v L) (a : Option Addr) (c : Nat) (m : List PtP) (hm : PsIn w0 a m) (hn : L.length + m.length ≤ 1099511627776) :
    ∃ v' w' M, (Builtin.append_ #[26, 26] 26 #[v, .slice a m.length c]).run Tryz.prog W = .ok v' w' ∧ M.map (·.1) = m ∧ CpS w0 w' v' (L ++ M) := by
  rcases Nat.eq_zero_or_pos m.length with h0 | h0
  · have e := List.eq_nil_of_length_eq_zero h0
    subst e
    obtain ⟨a1, c1, e1, hc1⟩ := h.slice
    exact ⟨v, W, [], by rw [e1]; exact app_noP _ _ _ _ _ _ hc1, rfl, by rw [List.append_nil]; exact h⟩
  · have hm' := hm
    rcases hm with e | ⟨b, off, e, hb, hc⟩
    · rw [e] at h0; simp at h0
    · subst e
      obtain ⟨M, hM, hs, hcs⟩ := hm'.enc
      have lM : M.length = m.length := by rw [← hM, List.length_map]
      obtain ⟨i, i1, i0⟩ := Option.map_eq_some_iff.1 pt_info
      have i2 : i.zero = some (.agg #[.string ⟨#[]⟩, .slice none 0 0, .slice none 0 0, .int .i64 0]) := congrArg (·.1) i0
      have i3 : i.bytes = 72 := congrArg (·.2.1) i0
      have i4 : i.size = 4 := congrArg (·.2.2) i0
      have hml : maxLen = 9223372036854775807 := by decide
      obtain ⟨g, cap, w', hr, own, gr, hat, hlt2⟩ := run_append_lies (P := Tryz.prog) W 26 26 w0.heap.size 41 i (.agg #[.string ⟨#[]⟩, .slice none 0 0, .slice none 0 0, .int .i64 0]) 4 72 Tryz.underlying26 i1 i2 i4 i3 rfl (by omega) v L.length (encP L) h.own ⟨b, off, none⟩ m.length c (encP M) (by rw [encP_len, lM]) (fun j u hj => by rw [tag_add, h.bl.cell (p := ⟨b, off + j, none⟩) hb]; exact hcs j u hj) (encP_one _) h0 (by omega) (by omega) h.bl.size _ rfl
      refine ⟨_, w', M, hr, hM, ?_, fun t ht => ?_, h.bl.trans ((Below.refl w0.heap.size W).grown gr h.bl.size (fun k e => (World.ownsRow.lt h.own k e).1))⟩
      · rw [List.length_append, lM, encP_append]; exact own
      · rcases List.mem_append.1 ht with q | q
        · exact h.pt t q
        · exact hs t q
end Go.Proofs.YtepakgfdakeibaaGreatDoor

namespace Go.Proofs.YtepakgfdakeibaaGreatDoor
open Go.RowKit _root_.Go.Proofs.YtepakgfdakeibaaGreatDoor.So
set_option linter.unusedVariables false
set_option linter.unusedSimpArgs false
theorem chkV_two {l : List PtP} (h : ¬ chkOk l) : chkV l = .iface 34 (.int .i64 6) ∨ ∃ i n : Int, chkV l = .iface 119 (.agg #[.int .i64 i, .iface 34 (.int .i64 n)]) := by
  unfold chkV
  split
  · exact Or.inl rfl
  · rename_i h1
    cases hb : badP l 0 with
    | none => exact absurd ⟨by omega, hb⟩ h
    | some q => obtain ⟨i, n⟩ := q; exact Or.inr ⟨i, n, rfl⟩
theorem badP_app : ∀ (l m : List PtP) (i : Nat), badP (l ++ m) i = match badP l i with | none => badP m (i + l.length) | some q => some q
  | [], m, i => by simp [badP]
  | p :: l, m, i => by
    rw [List.cons_append, badP, badP]
    split
    · rw [badP_app l m (i + 1), List.length_cons, show i + 1 + l.length = i + (l.length + 1) by omega]
    · rfl
theorem badP_all : ∀ {l : List PtP} (i : Nat), (∀ p ∈ l, pointN p = 0) → badP l i = none
  | [], i, h => rfl
  | p :: l, i, h => by rw [badP, if_pos (h p List.mem_cons_self)]; exact badP_all _ fun q hq => h q (List.mem_cons_of_mem _ hq)
theorem chkOk_app {l m : List PtP} (h1 : chkOk l) (h2 : chkOk m) : chkOk (l ++ m) ↔ l.length + m.length ≤ 10000 := by
  unfold chkOk
  rw [List.length_append]
  constructor
  · exact fun h => h.1
  · exact fun h => ⟨h, badP_all 0 fun p hp => (List.mem_append.1 hp).elim (badP_none h1.2 p) (badP_none h2.2 p)⟩
/-- what Flat tells. -/
def FlA (w w' : World) (l : List PtP) (e : Ending) : Prop := ∃ a z c V, e = .returned (.tuple #[.slice a z c, V]) ∧ Below w.heap.size w w' ∧ (chkOk l → V = .nilIface ∧ z = (odD (flatL l)).length ∧ z ≤ c ∧ WIn w' a (odD (flatL l))) ∧ (¬ chkOk l → a = none ∧ z = 0 ∧ V = chkV l)
set_option maxRecDepth 100000 in
set_option maxHeartbeats 4000000 in
theorem flat_bad (a : Option Addr) (c : Nat) (l : List PtP) (w : World) (hl : PsIn w a l) (hn : l.length ≤ 4611686018427387904) (hok : ¬ chkOk l) (hT : UT w) :
    Calls Tryz.prog 11 #[.slice a l.length c] w fun e w' => e = .returned (.tuple #[.slice none 0 0, chkV l]) ∧ Below w.heap.size w w' := by
  have C0 : Hid (Calls Tryz.prog 26 #[.slice a l.length c] w fun e w' => e = .returned (chkV l) ∧ Below w.heap.size w w') := check_any a c l w hl hn hT
  have two := chkV_two hok
  clear hl hn hok hT
  generalize l.length = n at *
  rcases two with e | ⟨i, m, e⟩
  · rw [e] at C0 ⊢
    clear e
    go_enter Tryz.func11, Tryz.ntmps11
    go_wp2_with fail
    refine Calls.mono C0.out ?_
    rintro e w1 ⟨rfl, b1⟩
    have bH : Hid (Below w.heap.size w w1) := b1
    clear b1 C0
    go_wp2_with fail
    go_ret2
    exact ⟨rfl, bH.out⟩
  · rw [e] at C0 ⊢
    clear e
    go_enter Tryz.func11, Tryz.ntmps11
    go_wp2_with fail
    refine Calls.mono C0.out ?_
    rintro e w1 ⟨rfl, b1⟩
    have bH : Hid (Below w.heap.size w w1) := b1
    clear b1 C0
    go_wp2_with fail
    go_ret2
    exact ⟨rfl, bH.out⟩
theorem flat_any (a : Option Addr) (c : Nat) (l : List PtP) (w : World) (hl : PsIn w a l) (hn : l.length ≤ 4611686018427387904) (hpt : ∀ p ∈ l, p.t.length ≤ 4398046511104) (hT : UT w) :
    Calls Tryz.prog 11 #[.slice a l.length c] w fun e w' => FlA w w' l e := by
  by_cases hok : chkOk l
  · refine (flat_ok a c l w hl hok hpt hT).mono fun e w' hh => ?_
    obtain ⟨a', z, c', e1, e2, e3, e4, e5⟩ := hh
    exact ⟨a', z, c', _, e1, e5, fun _ => ⟨rfl, e2, e3, e4⟩, fun h => absurd hok h⟩
  · refine (flat_bad a c l w hl hn hok hT).mono fun e w' hh => ?_
    exact ⟨none, 0, 0, _, hh.1, hh.2, fun h => absurd h hok, fun _ => ⟨rfl, rfl, rfl⟩⟩
theorem bad0 (n i : Int) (q : Bool) (w : World) : (Instr.field 36 (.agg #[.int .i64 n, .int .i64 0, .int .i64 i, .bool false, .bool q]) 0).run Tryz.prog w = .ok (.int .i64 n) w := by kernel_rfl
end Go.Proofs.YtepakgfdakeibaaGreatDoor

namespace Go.Proofs.YtepakgfdakeibaaGreatDoor

set_option linter.unusedVariables false
/-! ### a region whose last operation waits for all the others (a store into what they read): the others first, in whatever order, then it -/
/-- the post for the others: the last one may be run. -/
def lastQ (P : Program) (ops : Array Oper) (z : Nat) (Q : Exit → Act → World → Prop) : Exit → Act → World → Prop
  | .normal, a, w => wpOp P ops Q z (Q .normal) a w
  | e, a, w => Q e a w
theorem wpOp_lastQ {P : Program} {ops : Array Oper} {z i : Nat} {Q : Exit → Act → World → Prop} {K : Act → World → Prop} {a : Act} {w : World} (h : wpOp P ops (lastQ P ops z Q) i K a w) : wpOp P ops Q i K a w := by
  unfold wpOp at h ⊢
  cases ho : ops[i]? with
  | none => rw [ho] at h; exact h
  | some o =>
    rw [ho] at h
    exact h
/-- every edge leads to an earlier one. -/
def downB (md : Region.Mode) (ops : Array Oper) : Bool := (List.range ops.size).all fun j => match ops[j]? with
  | none => true
  | some o => o.after.all fun e => !Region.binds md e || decide (e.on < j)
/-- one waits for all the others. -/
def lastB (md : Region.Mode) (ops : Array Oper) (z : Nat) : Bool := match ops[z]? with
  | none => false
  | some o => (List.range ops.size).all fun j => decide (j = z) || o.after.any fun e => Region.binds md e && decide (e.on = j)
theorem down_of {md : Region.Mode} {ops : Array Oper} (h : downB md ops = true) {j : Nat} {o : Oper} (ho : ops[j]? = some o) {e : Edge} (he : e ∈ o.after) (hb : Region.binds md e = true) : e.on < j := by
  have hj : j < ops.size := (Array.getElem?_eq_some_iff.1 ho).1
  have h1 := List.all_eq_true.1 h j (List.mem_range.2 hj)
  simp only [ho] at h1
  have h2 := Array.all_eq_true'.1 h1 e he
  simpa [hb] using h2
theorem last_of {md : Region.Mode} {ops : Array Oper} {z : Nat} (h : lastB md ops z = true) : ∃ o, ops[z]? = some o ∧ ∀ j, j < ops.size → j ≠ z → ∃ e ∈ o.after, Region.binds md e = true ∧ e.on = j := by
  unfold lastB at h
  cases ho : ops[z]? with
  | none => rw [ho] at h; cases h
  | some o =>
    rw [ho] at h
    refine ⟨o, rfl, fun j hj hne => ?_⟩
    have h1 := List.all_eq_true.1 h j (List.mem_range.2 hj)
    simp only [decide_eq_false hne, Bool.false_or] at h1
    obtain ⟨e, he, h2⟩ := Array.any_eq_true'.1 h1
    simp only [Bool.and_eq_true, decide_eq_true_eq] at h2
    exact ⟨e, he, h2.1, h2.2⟩
/-- where one has not come up, some may come up. -/
theorem some_ready {md : Region.Mode} {ops : Array Oper} (hd : downB md ops = true) {listed : Array Bool} (hs : listed.size = ops.size) : ∀ (n j : Nat), j ≤ n → j < ops.size → listed.getD j true = false → ∃ i, i ∈ Region.ready md ops listed := by
  intro n
  induction n with
  | zero =>
    intro j hj hlt hl
    obtain rfl : j = 0 := by omega
    obtain ⟨o, ho⟩ : ∃ o, ops[0]? = some o := ⟨_, Array.getElem?_eq_getElem hlt⟩
    exact ⟨0, mem_ready.2 ⟨hl, o, ho, fun e he hb => absurd (down_of hd ho he hb) (by omega)⟩⟩
  | succ n ih =>
    intro j hj hlt hl
    obtain ⟨o, ho⟩ : ∃ o, ops[j]? = some o := ⟨_, Array.getElem?_eq_getElem hlt⟩
    by_cases hall : ∀ e ∈ o.after, Region.binds md e = true → listed.getD e.on false = true
    · exact ⟨j, mem_ready.2 ⟨hl, o, ho, hall⟩⟩
    · simp only [Classical.not_forall] at hall
      obtain ⟨e, he, hb, hne⟩ := hall
      have hdn := down_of hd ho he hb
      have hlt2 : e.on < ops.size := by omega
      refine ih e.on (by omega) hlt2 ?_
      have hg : e.on < listed.size := by omega
      rw [Array.getD_eq_getD_getElem?, Array.getElem?_eq_getElem hg] at hne ⊢
      simpa using hne
theorem wpAny_last {P : Program} {md : Region.Mode} {ops : Array Oper} {Q : Exit → Act → World → Prop} {z : Nat} (hd : downB md ops = true) (hz : lastB md ops z = true) :
    ∀ (fuel : Nat) (listed : Array Bool) (a : Act) (w : World), listed.size = ops.size → listed.getD z true = false → wpAny P md ops (lastQ P ops z Q) fuel (listed.setIfInBounds z true) a w → wpAny P md ops Q (fuel + 1) listed a w := by
  obtain ⟨oz, hoz, hwait⟩ := last_of hz
  have hzlt : z < ops.size := (Array.getElem?_eq_some_iff.1 hoz).1
  intro fuel
  induction fuel with
  | zero =>
    intro listed a w hs hl h
    obtain ⟨h1, h2⟩ := h
    obtain ⟨i, hi⟩ := some_ready hd hs z z (Nat.le_refl _) hzlt hl
    refine ⟨fun h0 => (by rw [h0] at hi; cases hi), fun j hj => ?_⟩
    by_cases e : j = z
    · subst e
      exact wpOp_mono (fun a' w' q => wpAny_done h1 q 0) h2
    · have := ready_mono hj e
      rw [h1] at this
      cases this
  | succ fuel ih =>
    intro listed a w hs hl h
    obtain ⟨h1, h2⟩ := h
    obtain ⟨i, hi⟩ := some_ready hd hs z z (Nat.le_refl _) hzlt hl
    refine ⟨fun h0 => (by rw [h0] at hi; cases hi), fun j hj => ?_⟩
    by_cases e : j = z
    · subst e
      have hnone : Region.ready md ops (listed.setIfInBounds j true) = [] := by
        refine List.eq_nil_iff_forall_not_mem.2 fun k hk => ?_
        obtain ⟨hk1, ok, hok, _⟩ := mem_ready.1 hk
        have hklt : k < ops.size := (Array.getElem?_eq_some_iff.1 hok).1
        by_cases hkz : k = j
        · subst hkz
          rw [Array.getD_eq_getD_getElem?, Array.getElem?_setIfInBounds_self] at hk1
          rw [if_pos (by omega)] at hk1
          simp at hk1
        · obtain ⟨_, oj, hoj, hall⟩ := mem_ready.1 hj
          rw [hoz] at hoj
          injection hoj with hoj
          subst hoj
          obtain ⟨e, he, hb, heq⟩ := hwait k hklt hkz
          have h3 := hall e he hb
          rw [heq] at h3
          have hg : k < listed.size := by omega
          rw [Array.getD_eq_getD_getElem?, Array.getElem?_setIfInBounds_ne (Ne.symm hkz), Array.getElem?_eq_getElem hg] at hk1
          rw [Array.getD_eq_getD_getElem?, Array.getElem?_eq_getElem hg] at h3
          simp at h3 hk1
          rw [h3] at hk1
          cases hk1
      exact wpOp_mono (fun a' w' q => wpAny_done hnone q _) (h1 hnone)
    · have h3 := wpOp_lastQ (h2 j (ready_mono hj e))
      refine wpOp_mono (fun a' w' q => ih (listed.setIfInBounds j true) a' w' (by simpa using hs) ?_ ?_) h3
      · rw [Array.getD_eq_getD_getElem?, Array.getElem?_setIfInBounds_ne e]
        rw [Array.getD_eq_getD_getElem?] at hl
        exact hl
      · rw [Array.setIfInBounds_comm _ _ (Ne.symm e)] at q
        exact q
/-- the beginning: the last one set aside. -/
theorem wp_region_last {P : Program} {ops : Array Oper} {Q : Exit → Act → World → Prop} {S : World → Prop} {id : Nat} {a : Act} {w : World} (z : Nat) (hm : P.follows .mixedOrders = true) (hd : downB .any ops = true) (hz : lastB .any ops z = true) (n : Nat) (hn : ops.size = n + 1) (hS : S w.drew)
    (h : S w.drew → wpAnyH P .any ops (lastQ P ops z Q) S n ((Array.replicate ops.size false).setIfInBounds z true) a w.drew) : (Code.region id ops true).wp P Q a w := by
  refine wp_region_any hm ?_
  rw [hn]
  obtain ⟨oz, hoz, _⟩ := last_of hz
  have hzlt : z < ops.size := (Array.getElem?_eq_some_iff.1 hoz).1
  refine wpAny_last hd hz n _ a _ (by simp [hn]) ?_ ?_
  · rw [Array.getD_eq_getD_getElem?, Array.getElem?_replicate, if_pos (by omega)]; rfl
  · rw [← hn]; exact wpAny_of_held _ _ _ _ (h hS)
/-- the last one, at the end. -/
theorem lastQ_run {P : Program} {ops : Array Oper} {Q : Exit → Act → World → Prop} {z : Nat} {o : Oper} {a : Act} {w : World} (ho : ops[z]? = some o)
    (h : ∀ K' : Act → World → Prop, Shut (∀ a w, Q .normal a w → K' a w) → if Region.wanted o (yielded ops a.tmps) = true then Oper.wp P o a w K' Q else K' (a.put o.dst undef) w) : lastQ P ops z Q .normal a w :=
  wpOp_step ho (fun K' hK => h K' hK)
end Go.Proofs.YtepakgfdakeibaaGreatDoor

namespace Go.Proofs.YtepakgfdakeibaaGreatDoor
open Go.RowKit _root_.Go.Proofs.YtepakgfdakeibaaGreatDoor.So
set_option linter.unusedVariables false
set_option linter.unusedSimpArgs false
theorem fd_info : (Tryz.prog.info? 54).map (fun i => (i.zero, i.bytes, i.size)) = some (some (.agg #[.string ⟨#[]⟩, .int .i64 0]), 24, 2) := by kernel_rfl
def encF : List FdP → List Value
  | [] => []
  | t :: r => [.string t.1, .int .i64 t.2] ++ encF r
theorem encF_append (a b : List FdP) : encF (a ++ b) = encF a ++ encF b := by
  induction a with
  | nil => rfl
  | cons s r ih => simp [encF, ih]
theorem encF_len (l : List FdP) : (encF l).length = l.length * 2 := by
  induction l with
  | nil => rfl
  | cons s r ih => simp only [encF, List.length_append, ih, List.length_cons, List.length_nil]; omega
theorem encF_one (l : List FdP) : ∀ u ∈ encF l, u.oneCell' = true := by
  induction l with
  | nil => intro u hu; cases hu
  | cons s r ih =>
    intro u hu
    simp only [encF, List.mem_append, List.mem_cons, List.not_mem_nil, or_false] at hu
    rcases hu with (rfl | rfl) | hu
    · rfl
    · rfl
    · exact ih u hu
theorem encF_get (l : List FdP) (i : Nat) (s : FdP) (h : l[i]? = some s) : (encF l)[i * 2]? = some (.string s.1) ∧ (encF l)[i * 2 + 1]? = some (.int .i64 s.2) := by
  induction l generalizing i with
  | nil => simp at h
  | cons a r ih =>
    cases i with
    | zero => simp at h; subst h; simp [encF]
    | succ i =>
      simp at h
      have := ih i h
      simp only [encF]
      rw [show (i + 1) * 2 = i * 2 + 2 by omega]
      simpa using this
/-- a row of fields of one's own. -/
def OF (w : World) (B : Nat) (v : Value) (l : List FdP) : Prop := w.ownsRow B 54 2 v l.length (encF l)
theorem OF.tin {w : World} {B : Nat} {v : Value} {l : List FdP} (h : OF w B v l) : ∃ a cap, v = .slice a l.length cap ∧ l.length ≤ cap ∧ FdIn w a l := by
  rcases h.2 with ⟨e, e0⟩ | ⟨g, cap, cur, e1, _, hg, hc, _⟩
  · exact ⟨none, 0, by rw [e, e0], by omega, Or.inl (List.eq_nil_of_length_eq_zero e0)⟩
  · subst e1
    have hcs := World.ownsRow.cells h (g := g) rfl
    refine ⟨some ⟨g, 0, none⟩, cap, rfl, hc, Or.inr ⟨g, 0, rfl, (World.ownsRow.lt h g rfl).2, fun i s hs => ?_⟩⟩
    obtain ⟨e1, e2⟩ := encF_get l i s hs
    have k1 := hcs _ _ e1
    have k2 := hcs _ _ e2
    rw [tag_add, Nat.zero_add] at k1 k2
    rw [Nat.zero_add]
    exact ⟨k1, k2⟩
theorem OF.nil (w : World) (B : Nat) : OF w B (.slice none 0 0) [] := ⟨rfl, Or.inl ⟨rfl, rfl⟩⟩
theorem OF.below {w w' : World} {B C : Nat} {v : Value} {l : List FdP} (h : OF w B v l) (hb : Below C w w') (hC : w.heap.size ≤ C) : OF w' B v l := by
  refine ⟨h.1, ?_⟩
  rcases h.2 with h2 | ⟨g, cap, cur, e1, e2, e3, e4⟩
  · exact Or.inl h2
  · exact Or.inr ⟨g, cap, cur, e1, e2, by rw [hb.block g (Nat.lt_of_lt_of_le (Array.getElem?_eq_some_iff.1 e3).1 hC)]; exact e3, e4⟩
theorem OF.bound {w : World} {B : Nat} {v : Value} {l : List FdP} (h : OF w B v l) {k : Nat} (e : v.ownBlock = some k) : B ≤ k ∧ k < w.heap.size := by
  rcases h.2 with ⟨e1, e0⟩ | ⟨g, cap, cur, e1, _, hg, hc, _⟩
  · rw [e1] at e; cases e
  · subst e1
    have : g = k := by simpa [Value.ownBlock] using e
    subst this
    exact World.ownsRow.lt h g rfl
theorem FdIn.news {w : World} {ad : Addr} {l : List FdP} (h : FdIn w (some ad) l) : (∀ j u, (encF l)[j]? = some u → w.cell? (ad.add j) = some u) := by
  rcases h with e | ⟨b, off, e, hb, hc⟩
  · subst e; simp [encF]
  · cases e
    intro j u hj
    have hj2 : j < l.length * 2 := by rw [← encF_len]; exact (List.getElem?_eq_some_iff.1 hj).1
    obtain ⟨s, hs⟩ : ∃ s, l[j / 2]? = some s := ⟨_, List.getElem?_eq_getElem (by omega)⟩
    obtain ⟨e1, e2⟩ := encF_get l _ s hs
    obtain ⟨c1, c2⟩ := hc _ s hs
    rw [tag_add]
    rcases (by omega : j % 2 = 0 ∨ j % 2 = 1) with q | q
    · rw [show j = j / 2 * 2 by omega] at hj ⊢
      rw [e1] at hj
      rw [c1, ← hj]
    · rw [show j = j / 2 * 2 + 1 by omega] at hj ⊢
      rw [e2] at hj
      rw [← Nat.add_assoc, c2, ← hj]
theorem app_noF (W : World) (a ad : Option Addr) (n cap c : Nat) (h : n ≤ cap) : (Builtin.append_ #[39, 39] 39 #[.slice a n cap, .slice ad 0 c]).run Tryz.prog W = .ok (.slice a n cap) W := by
  obtain ⟨i, i1, i0⟩ := Option.map_eq_some_iff.1 fd_info
  cases a <;> cases ad <;> simp [Builtin.append_, run_underlying Tryz.underlying39, sizeOf, typeInfo, i1, Builtin.lenOf, Builtin.firstCells, storeCells, loadCells, loadCellsFrom, h]
/-- fields appended, or none. -/
theorem appF (W : World) (B : Nat) (v : Value) (l f : List FdP) (h : OF W B v l) (hB : B ≤ W.heap.size) (a : Option Addr) (c : Nat) (hf : FdIn W a f) (hn : l.length + f.length ≤ 4398046511104) :
    ∃ v' w', (Builtin.append_ #[39, 39] 39 #[v, .slice a f.length c]).run Tryz.prog W = .ok v' w' ∧ OF w' B v' (l ++ f) ∧ W.grownBy w' v.ownBlock ∧ (v'.ownBlock = v.ownBlock ∨ v'.ownBlock = some W.heap.size) := by
  rcases Nat.eq_zero_or_pos f.length with h0 | h0
  · have e := List.eq_nil_of_length_eq_zero h0
    subst e
    obtain ⟨a1, c1, e1, hc1, _⟩ := h.tin
    exact ⟨v, W, by rw [e1]; exact app_noF _ _ _ _ _ _ hc1, by rw [List.append_nil]; exact h, ⟨rfl, rfl, rfl, Nat.le_refl _, fun k hk hne => rfl⟩, Or.inl rfl⟩
  · have hf' := hf
    rcases hf with e | ⟨b, off, e, hb, hc⟩
    · rw [e] at h0; simp at h0
    · subst e
      obtain ⟨i, i1, i0⟩ := Option.map_eq_some_iff.1 fd_info
      have i2 : i.zero = some (.agg #[.string ⟨#[]⟩, .int .i64 0]) := congrArg (·.1) i0
      have i3 : i.bytes = 24 := congrArg (·.2.1) i0
      have i4 : i.size = 2 := congrArg (·.2.2) i0
      have hml : maxLen = 9223372036854775807 := by decide
      obtain ⟨g, cap, w', hr, own, gr, hat, hlt⟩ := run_append_lies (P := Tryz.prog) W 39 39 B 54 i (.agg #[.string ⟨#[]⟩, .int .i64 0]) 2 24 Tryz.underlying39 i1 i2 i4 i3 rfl (by omega) v l.length (encF l) h ⟨b, off, none⟩ f.length c (encF f) (encF_len _) hf'.news (encF_one _) h0 (by omega) (by omega) hB _ rfl
      refine ⟨_, w', hr, ?_, gr, ?_⟩
      · unfold OF; rw [List.length_append, encF_append]; exact own
      · rcases hat with e | e
        · exact Or.inl e.symm
        · subst e; exact Or.inr rfl
theorem grown_belowF {W w' : World} {B : Nat} {v : Value} {l : List FdP} (h : OF W B v l) (hB : B ≤ W.heap.size) (gr : W.grownBy w' v.ownBlock) : Below B W w' := (Below.refl B W).grown gr hB (fun k e => (h.bound e).1)
theorem FdIn.grownW {w w' : World} {a : Option Addr} {l : List FdP} {row : Option Nat} (h : FdIn w a l) (hg : w.grownBy w' row) (hne : l ≠ [] → ∀ ad, a = some ad → row ≠ some ad.block) : FdIn w' a l := by
  by_cases e : l = []
  · exact Or.inl e
  · rcases h with h | ⟨b, off, ha, hb, hc⟩
    · exact absurd h e
    · have hk : w'.heap[b]? = w.heap[b]? := hg.block b hb (fun q => hne e _ ha q.symm)
      refine Or.inr ⟨b, off, ha, Nat.lt_of_lt_of_le hb hg.size, fun i t ht => ?_⟩
      obtain ⟨k1, k2⟩ := hc i t ht
      exact ⟨by rw [World.cell?_of_block (w := w) (a := ⟨b, off + i * 2, none⟩) hk]; exact k1, by rw [World.cell?_of_block (w := w) (a := ⟨b, off + i * 2 + 1, none⟩) hk]; exact k2⟩
def mkT : TagP := (⟨#[109, 97, 114, 107]⟩, ⟨#[]⟩)
def mkF : FdP := (⟨#[109, 97, 114, 107]⟩, 0)
/-- a copy with a marked one behind it: where it lies. -/
def MRT (W0 w6 : World) (v6 : Value) (t : List TagP) : Prop := ∃ g c6, v6 = .slice (some ⟨g, 0, none⟩) (t.length + 1) c6 ∧ t.length + 1 ≤ c6 ∧ W0.heap.size ≤ g ∧ g < w6.heap.size ∧ TgIn w6 (some ⟨g, 0, none⟩) (t ++ [mkT]) ∧ Below W0.heap.size W0 w6
theorem emptyT (W : World) (B : Nat) (hB : B ≤ W.heap.size) : OT (W.alloc (.cells #[] 82)) B (.slice (some ⟨W.heap.size, 0, none⟩) 0 0) [] := by
  have := World.ownsRow_made (e := 82) (size := 2) (base := B) W #[] 0 hB (by simp [maxLen]) rfl
  unfold OT
  simpa [encT] using this
theorem markT (W : World) : TgIn (W.alloc (.cells #[.string ⟨#[109, 97, 114, 107]⟩, .string ⟨#[]⟩] 82)) (some ⟨W.heap.size, 0, none⟩) [mkT] := by
  refine Or.inr ⟨W.heap.size, 0, rfl, by simp, fun i t ht => ?_⟩
  cases i with
  | zero => simp at ht; subst ht; exact ⟨by simp [go_sem, mkT], by simp [go_sem, mkT]⟩
  | succ i => simp at ht
/-- two appends, whatever lay in memory ahead. -/
theorem twoMT (W0 W : World) (e m : Nat) (a : Option Addr) (c : Nat) (t : List TagP) (hB : Below W0.heap.size W0 W) (ho : OT W W0.heap.size (.slice (some ⟨e, 0, none⟩) 0 0) []) (hm : TgIn W (some ⟨m, 0, none⟩) [mkT]) (hem : e ≠ m) (ht : TgIn W0 a t) (hn : t.length ≤ 1099511627776) :
    ∃ a3 c3 w3 v6 w6, (Builtin.append_ #[38, 38] 38 #[.slice (some ⟨e, 0, none⟩) 0 0, .slice a t.length c]).run Tryz.prog W = .ok (.slice a3 t.length c3) w3 ∧ (Builtin.append_ #[38, 38] 38 #[.slice a3 t.length c3, .slice (some ⟨m, 0, none⟩) 1 1]).run Tryz.prog w3 = .ok v6 w6 ∧ MRT W0 w6 v6 t ∧ Below W0.heap.size W0 w3 := by
  obtain ⟨v3, w3, r3, o3, g3, q3⟩ := appT W W0.heap.size _ [] t ho hB.size a c (ht.below hB) (by simp; omega)
  rw [List.nil_append] at o3
  obtain ⟨a3, c3, e3, _, _⟩ := o3.tin
  have b3 : Below W0.heap.size W0 w3 := hB.trans (grown_below ho hB.size g3)
  have m3 : TgIn w3 (some ⟨m, 0, none⟩) [mkT] := hm.grownW g3 (fun _ ad had q => by
    injection had with had
    subst had
    exact hem (by simpa [Value.ownBlock] using q))
  obtain ⟨v6, w6, r6, o6, g6, q6⟩ := appT w3 W0.heap.size v3 t [mkT] o3 b3.size (some ⟨m, 0, none⟩) 1 m3 (by simp; omega)
  have b6 : Below W0.heap.size W0 w6 := b3.trans (grown_below o3 b3.size g6)
  obtain ⟨a6, c6, e6, hc6, t6⟩ := o6.tin
  obtain ⟨g, e7, hg, hg2⟩ : ∃ g, a6 = some ⟨g, 0, none⟩ ∧ W0.heap.size ≤ g ∧ g < w6.heap.size := by
    rcases World.ownsRow.form o6 (by simp) with ⟨g, cap, e, h1, h2⟩
    rw [e6] at e
    injection e with e _ _
    exact ⟨g, e, h1, h2⟩
  subst e3 e7
  rw [List.length_append, List.length_singleton] at e6 hc6
  exact ⟨a3, c3, w3, v6, w6, r3, r6, ⟨g, c6, e6, hc6, hg, hg2, t6, b6⟩, b3⟩
/-- the same, the marked one made between. -/
theorem midT (W0 : World) (a : Option Addr) (c : Nat) (t : List TagP) (ht : TgIn W0 a t) (hn : t.length ≤ 1099511627776) :
    ∃ a3 c3 w3 v6 w6, (Builtin.append_ #[38, 38] 38 #[.slice (some ⟨W0.heap.size, 0, none⟩) 0 0, .slice a t.length c]).run Tryz.prog (W0.alloc (.cells #[] 82)) = .ok (.slice a3 t.length c3) w3 ∧ (Builtin.append_ #[38, 38] 38 #[.slice a3 t.length c3, .slice (some ⟨w3.heap.size, 0, none⟩) 1 1]).run Tryz.prog (w3.alloc (.cells #[.string ⟨#[109, 97, 114, 107]⟩, .string ⟨#[]⟩] 82)) = .ok v6 w6 ∧ MRT W0 w6 v6 t ∧ Below W0.heap.size W0 w3 := by
  have hB : Below W0.heap.size W0 (W0.alloc (.cells #[] 82)) := (Below.refl _ W0).alloc (Nat.le_refl _) _
  have ho := emptyT W0 W0.heap.size (Nat.le_refl _)
  obtain ⟨v3, w3, r3, o3, g3, q3⟩ := appT _ W0.heap.size _ [] t ho hB.size a c (ht.below hB) (by simp; omega)
  rw [List.nil_append] at o3
  obtain ⟨a3, c3, e3, _, _⟩ := o3.tin
  have b3 : Below W0.heap.size W0 w3 := hB.trans (grown_below ho hB.size g3)
  have b4 : Below w3.heap.size w3 (w3.alloc (.cells #[.string ⟨#[109, 97, 114, 107]⟩, .string ⟨#[]⟩] 82)) := (Below.refl _ w3).alloc (Nat.le_refl _) _
  have o4 := o3.below b4 (Nat.le_refl _)
  have b4' := b3.trans (b4.mono b3.size)
  obtain ⟨v6, w6, r6, o6, g6, q6⟩ := appT _ W0.heap.size v3 t [mkT] o4 b4'.size (some ⟨w3.heap.size, 0, none⟩) 1 (markT w3) (by simp; omega)
  have b6 : Below W0.heap.size W0 w6 := b4'.trans (grown_below o4 b4'.size g6)
  obtain ⟨a6, c6, e6, hc6, t6⟩ := o6.tin
  obtain ⟨g, e7, hg, hg2⟩ : ∃ g, a6 = some ⟨g, 0, none⟩ ∧ W0.heap.size ≤ g ∧ g < w6.heap.size := by
    rcases World.ownsRow.form o6 (by simp) with ⟨g, cap, e, h1, h2⟩
    rw [e6] at e
    injection e with e _ _
    exact ⟨g, e, h1, h2⟩
  subst e3 e7
  rw [List.length_append, List.length_singleton] at e6 hc6
  exact ⟨a3, c3, w3, v6, w6, r3, r6, ⟨g, c6, e6, hc6, hg, hg2, t6, b6⟩, b3⟩
/-- a copy with a marked one behind it: where it lies. -/
def MRF (W0 w6 : World) (v6 : Value) (t : List FdP) : Prop := ∃ g c6, v6 = .slice (some ⟨g, 0, none⟩) (t.length + 1) c6 ∧ t.length + 1 ≤ c6 ∧ W0.heap.size ≤ g ∧ g < w6.heap.size ∧ FdIn w6 (some ⟨g, 0, none⟩) (t ++ [mkF]) ∧ Below W0.heap.size W0 w6
theorem emptyF (W : World) (B : Nat) (hB : B ≤ W.heap.size) : OF (W.alloc (.cells #[] 54)) B (.slice (some ⟨W.heap.size, 0, none⟩) 0 0) [] := by
  have := World.ownsRow_made (e := 54) (size := 2) (base := B) W #[] 0 hB (by simp [maxLen]) rfl
  unfold OF
  simpa [encF] using this
theorem markF (W : World) : FdIn (W.alloc (.cells #[.string ⟨#[109, 97, 114, 107]⟩, .int .i64 0] 54)) (some ⟨W.heap.size, 0, none⟩) [mkF] := by
  refine Or.inr ⟨W.heap.size, 0, rfl, by simp, fun i t ht => ?_⟩
  cases i with
  | zero => simp at ht; subst ht; exact ⟨by simp [go_sem, mkF], by simp [go_sem, mkF]⟩
  | succ i => simp at ht
/-- two appends, whatever lay in memory ahead. -/
theorem twoMF (W0 W : World) (e m : Nat) (a : Option Addr) (c : Nat) (t : List FdP) (hB : Below W0.heap.size W0 W) (ho : OF W W0.heap.size (.slice (some ⟨e, 0, none⟩) 0 0) []) (hm : FdIn W (some ⟨m, 0, none⟩) [mkF]) (hem : e ≠ m) (ht : FdIn W0 a t) (hn : t.length ≤ 1099511627776) :
    ∃ a3 c3 w3 v6 w6, (Builtin.append_ #[39, 39] 39 #[.slice (some ⟨e, 0, none⟩) 0 0, .slice a t.length c]).run Tryz.prog W = .ok (.slice a3 t.length c3) w3 ∧ (Builtin.append_ #[39, 39] 39 #[.slice a3 t.length c3, .slice (some ⟨m, 0, none⟩) 1 1]).run Tryz.prog w3 = .ok v6 w6 ∧ MRF W0 w6 v6 t ∧ Below W0.heap.size W0 w3 := by
  obtain ⟨v3, w3, r3, o3, g3, q3⟩ := appF W W0.heap.size _ [] t ho hB.size a c (ht.below hB) (by simp; omega)
  rw [List.nil_append] at o3
  obtain ⟨a3, c3, e3, _, _⟩ := o3.tin
  have b3 : Below W0.heap.size W0 w3 := hB.trans (grown_belowF ho hB.size g3)
  have m3 : FdIn w3 (some ⟨m, 0, none⟩) [mkF] := hm.grownW g3 (fun _ ad had q => by
    injection had with had
    subst had
    exact hem (by simpa [Value.ownBlock] using q))
  obtain ⟨v6, w6, r6, o6, g6, q6⟩ := appF w3 W0.heap.size v3 t [mkF] o3 b3.size (some ⟨m, 0, none⟩) 1 m3 (by simp; omega)
  have b6 : Below W0.heap.size W0 w6 := b3.trans (grown_belowF o3 b3.size g6)
  obtain ⟨a6, c6, e6, hc6, t6⟩ := o6.tin
  obtain ⟨g, e7, hg, hg2⟩ : ∃ g, a6 = some ⟨g, 0, none⟩ ∧ W0.heap.size ≤ g ∧ g < w6.heap.size := by
    rcases World.ownsRow.form o6 (by simp) with ⟨g, cap, e, h1, h2⟩
    rw [e6] at e
    injection e with e _ _
    exact ⟨g, e, h1, h2⟩
  subst e3 e7
  rw [List.length_append, List.length_singleton] at e6 hc6
  exact ⟨a3, c3, w3, v6, w6, r3, r6, ⟨g, c6, e6, hc6, hg, hg2, t6, b6⟩, b3⟩
/-- the same, the marked one made between. -/
theorem midF (W0 : World) (a : Option Addr) (c : Nat) (t : List FdP) (ht : FdIn W0 a t) (hn : t.length ≤ 1099511627776) :
    ∃ a3 c3 w3 v6 w6, (Builtin.append_ #[39, 39] 39 #[.slice (some ⟨W0.heap.size, 0, none⟩) 0 0, .slice a t.length c]).run Tryz.prog (W0.alloc (.cells #[] 54)) = .ok (.slice a3 t.length c3) w3 ∧ (Builtin.append_ #[39, 39] 39 #[.slice a3 t.length c3, .slice (some ⟨w3.heap.size, 0, none⟩) 1 1]).run Tryz.prog (w3.alloc (.cells #[.string ⟨#[109, 97, 114, 107]⟩, .int .i64 0] 54)) = .ok v6 w6 ∧ MRF W0 w6 v6 t ∧ Below W0.heap.size W0 w3 := by
  have hB : Below W0.heap.size W0 (W0.alloc (.cells #[] 54)) := (Below.refl _ W0).alloc (Nat.le_refl _) _
  have ho := emptyF W0 W0.heap.size (Nat.le_refl _)
  obtain ⟨v3, w3, r3, o3, g3, q3⟩ := appF _ W0.heap.size _ [] t ho hB.size a c (ht.below hB) (by simp; omega)
  rw [List.nil_append] at o3
  obtain ⟨a3, c3, e3, _, _⟩ := o3.tin
  have b3 : Below W0.heap.size W0 w3 := hB.trans (grown_belowF ho hB.size g3)
  have b4 : Below w3.heap.size w3 (w3.alloc (.cells #[.string ⟨#[109, 97, 114, 107]⟩, .int .i64 0] 54)) := (Below.refl _ w3).alloc (Nat.le_refl _) _
  have o4 := o3.below b4 (Nat.le_refl _)
  have b4' := b3.trans (b4.mono b3.size)
  obtain ⟨v6, w6, r6, o6, g6, q6⟩ := appF _ W0.heap.size v3 t [mkF] o4 b4'.size (some ⟨w3.heap.size, 0, none⟩) 1 (markF w3) (by simp; omega)
  have b6 : Below W0.heap.size W0 w6 := b4'.trans (grown_belowF o4 b4'.size g6)
  obtain ⟨a6, c6, e6, hc6, t6⟩ := o6.tin
  obtain ⟨g, e7, hg, hg2⟩ : ∃ g, a6 = some ⟨g, 0, none⟩ ∧ W0.heap.size ≤ g ∧ g < w6.heap.size := by
    rcases World.ownsRow.form o6 (by simp) with ⟨g, cap, e, h1, h2⟩
    rw [e6] at e
    injection e with e _ _
    exact ⟨g, e, h1, h2⟩
  subst e3 e7
  rw [List.length_append, List.length_singleton] at e6 hc6
  exact ⟨a3, c3, w3, v6, w6, r3, r6, ⟨g, c6, e6, hc6, hg, hg2, t6, b6⟩, b3⟩
end Go.Proofs.YtepakgfdakeibaaGreatDoor

namespace Go.Proofs.YtepakgfdakeibaaGreatDoor
open Go.RowKit _root_.Go.Proofs.YtepakgfdakeibaaGreatDoor.So
set_option linter.unusedVariables false
set_option linter.unusedSimpArgs false
theorem step_append_runH {P : Program} {ops : Array Oper} {o : Oper} {a : Act} {w : World} {K : Act → World → Prop} {Q : Exit → Act → World → Prop} {E : Prop}
    (hg : o.guard = none) (s x : Operand) (t : TypeId) (hop : o.op = Op.call { callee := Callee.builtin Builtin.append, args := #[s, x], argTypes := #[t, t] })
    (v y v' : Value) (w' : World) (hs : a.eval s = v) (hx : a.eval x = y) (hr : (Builtin.append_ #[t, t] o.type #[v, y]).run P w = .ok v' w') (hK : K (a.put o.dst v') w') :
    if Region.wanted o (yielded ops a.tmps) = true then Oper.wp P o a w K Q else E := by
  have hw : Region.wanted o (yielded ops a.tmps) = true := by simp [Region.wanted, hg]
  rw [if_pos hw]
  unfold Oper.wp execOp
  simp only [hop, resolve, invoke, builtin, Sem.run_bind, Sem.run_pure, Result.andThen_ok, List.map_toArray, List.map_cons, List.map_nil, hs, hx, hr]
  exact hK
theorem TgIn.setK {W : World} {g K j : Nat} {v : Value} {l : List TagP} (h : TgIn W (some ⟨g, 0, none⟩) l) (hne : K ≠ g) : TgIn (W.setCell ⟨K, j, none⟩ v) (some ⟨g, 0, none⟩) l := by
  rcases h with h | ⟨b, off, e, hb, hc⟩
  · exact Or.inl h
  · injection e with e
    injection e with e1 e2
    subst e1 e2
    refine Or.inr ⟨g, 0, rfl, by simpa using hb, fun i t ht => ?_⟩
    obtain ⟨k1, k2⟩ := hc i t ht
    exact ⟨by rw [World.cell?_setCell_other _ _ _ _ (by intro q; injection q; omega)]; exact k1, by rw [World.cell?_setCell_other _ _ _ _ (by intro q; injection q; omega)]; exact k2⟩
theorem FdIn.setK {W : World} {g K j : Nat} {v : Value} {l : List FdP} (h : FdIn W (some ⟨g, 0, none⟩) l) (hne : K ≠ g) : FdIn (W.setCell ⟨K, j, none⟩ v) (some ⟨g, 0, none⟩) l := by
  rcases h with h | ⟨b, off, e, hb, hc⟩
  · exact Or.inl h
  · injection e with e
    injection e with e1 e2
    subst e1 e2
    refine Or.inr ⟨g, 0, rfl, by simpa using hb, fun i t ht => ?_⟩
    obtain ⟨k1, k2⟩ := hc i t ht
    exact ⟨by rw [World.cell?_setCell_other _ _ _ _ (by intro q; injection q; omega)]; exact k1, by rw [World.cell?_setCell_other _ _ _ _ (by intro q; injection q; omega)]; exact k2⟩
/-- a point's box while it is copied: tags at T, fields at F. -/
structure Bx (wr : World) (p : PtP) (K : Nat) (T F : Value) (wx : World) : Prop where
  bl : Below wr.heap.size wr wx
  hK : K = wr.heap.size
  kl : K < wx.heap.size
  c0 : wx.cell? ⟨K, 0, none⟩ = some (.string p.m)
  c1 : wx.cell? ⟨K, 1, none⟩ = some T
  c2 : wx.cell? ⟨K, 2, none⟩ = some F
  c3 : wx.cell? ⟨K, 3, none⟩ = some (.int .i64 p.tm)
  fr : ∀ j, j < 4 → wx.frozen? ⟨K, j, none⟩ = false
theorem Bx.start (wr : World) (p : PtP) (T F : Value) (hT : T.oneCell' = true) (hF : F.oneCell' = true) : Bx wr p wr.heap.size T F (wr.alloc (.cells #[.string p.m, T, F, .int .i64 p.tm] 41)) := by
  refine ⟨(Below.refl _ wr).alloc (Nat.le_refl _) _, rfl, by simp, ?_, ?_, ?_, ?_, fun j hj => ?_⟩ <;> simp [go_sem]
theorem Bx.below {wr : World} {p : PtP} {K : Nat} {T F : Value} {wx w' : World} (h : Bx wr p K T F wx) (hB : Below wx.heap.size wx w') : Bx wr p K T F w' := by
  have hs : wr.heap.size ≤ wx.heap.size := h.bl.size
  exact ⟨h.bl.trans (hB.mono hs), h.hK, Nat.lt_of_lt_of_le h.kl hB.size, by rw [hB.cell (p := ⟨K, 0, none⟩) h.kl]; exact h.c0, by rw [hB.cell (p := ⟨K, 1, none⟩) h.kl]; exact h.c1, by rw [hB.cell (p := ⟨K, 2, none⟩) h.kl]; exact h.c2, by rw [hB.cell (p := ⟨K, 3, none⟩) h.kl]; exact h.c3, fun j hj => by rw [hB.frozen (p := ⟨K, j, none⟩) h.kl]; exact h.fr j hj⟩
theorem Bx.setT {wr : World} {p : PtP} {K : Nat} {T F : Value} {wx : World} (h : Bx wr p K T F wx) (T' : Value) : Bx wr p K T' F (wx.setCell ⟨K, 1, none⟩ T') :=
  ⟨h.bl.setCell (p := ⟨K, 1, none⟩) (by show wr.heap.size ≤ K; rw [h.hK]; exact Nat.le_refl _) _, h.hK, by simpa using h.kl, by rw [World.cell?_setCell_other _ _ _ _ (by intro q; injection q; omega)]; exact h.c0, World.cell?_setCell_same _ _ _ h.c1, by rw [World.cell?_setCell_other _ _ _ _ (by intro q; injection q; omega)]; exact h.c2, by rw [World.cell?_setCell_other _ _ _ _ (by intro q; injection q; omega)]; exact h.c3, fun j hj => by rw [World.frozen?_setCell]; exact h.fr j hj⟩
theorem Bx.setF {wr : World} {p : PtP} {K : Nat} {T F : Value} {wx : World} (h : Bx wr p K T F wx) (F' : Value) : Bx wr p K T F' (wx.setCell ⟨K, 2, none⟩ F') :=
  ⟨h.bl.setCell (p := ⟨K, 2, none⟩) (by show wr.heap.size ≤ K; rw [h.hK]; exact Nat.le_refl _) _, h.hK, by simpa using h.kl, by rw [World.cell?_setCell_other _ _ _ _ (by intro q; injection q; omega)]; exact h.c0, by rw [World.cell?_setCell_other _ _ _ _ (by intro q; injection q; omega)]; exact h.c1, World.cell?_setCell_same _ _ _ h.c2, by rw [World.cell?_setCell_other _ _ _ _ (by intro q; injection q; omega)]; exact h.c3, fun j hj => by rw [World.frozen?_setCell]; exact h.fr j hj⟩
/-- tags, fields with a marked one behind them, in a block of their own. -/
def TM (W : World) (K g c : Nat) (t : List TagP) : Prop := K < g ∧ g < W.heap.size ∧ TgIn W (some ⟨g, 0, none⟩) (t ++ [mkT]) ∧ t.length + 1 ≤ c
def FM (W : World) (K g c : Nat) (t : List FdP) : Prop := K < g ∧ g < W.heap.size ∧ FdIn W (some ⟨g, 0, none⟩) (t ++ [mkF]) ∧ t.length + 1 ≤ c
theorem TM.below {W W' : World} {K g c : Nat} {t : List TagP} (h : TM W K g c t) (hB : Below W.heap.size W W') : TM W' K g c t := ⟨h.1, Nat.lt_of_lt_of_le h.2.1 hB.size, h.2.2.1.below hB, h.2.2.2⟩
theorem FM.below {W W' : World} {K g c : Nat} {t : List FdP} (h : FM W K g c t) (hB : Below W.heap.size W W') : FM W' K g c t := ⟨h.1, Nat.lt_of_lt_of_le h.2.1 hB.size, h.2.2.1.below hB, h.2.2.2⟩
theorem TM.setK {W : World} {K g c j : Nat} {v : Value} {t : List TagP} (h : TM W K g c t) : TM (W.setCell ⟨K, j, none⟩ v) K g c t := ⟨h.1, by simpa using h.2.1, h.2.2.1.setK (by have := h.1; omega), h.2.2.2⟩
theorem FM.setK {W : World} {K g c j : Nat} {v : Value} {t : List FdP} (h : FM W K g c t) : FM (W.setCell ⟨K, j, none⟩ v) K g c t := ⟨h.1, by simpa using h.2.1, h.2.2.1.setK (by have := h.1; omega), h.2.2.2⟩
/-- behind the first store. -/
theorem Bx.oneT {wr : World} {p : PtP} {K : Nat} {T F : Value} {w2 w6 : World} (h : Bx wr p K T F w2) (g c6 : Nat) (h1 : p.t.length + 1 ≤ c6) (h2 : w2.drew.heap.size ≤ g) (h3 : g < w6.heap.size) (h4 : TgIn w6 (some ⟨g, 0, none⟩) (p.t ++ [mkT])) (h5 : Below w2.drew.heap.size w2.drew w6) : Bx wr p K (.slice (some ⟨g, 0, none⟩) p.t.length c6) F (w6.setCell ⟨K, 1, none⟩ (.slice (some ⟨g, 0, none⟩) p.t.length c6)) ∧ TM (w6.setCell ⟨K, 1, none⟩ (.slice (some ⟨g, 0, none⟩) p.t.length c6)) K g c6 p.t := by
  have hb : Below w2.heap.size w2 w6 := (show Below w2.heap.size w2 w2.drew from (Below.refl _ w2).drew).trans h5
  have hkg : K < g := Nat.lt_of_lt_of_le h.kl h2
  exact ⟨(h.below hb).setT _, TM.setK ⟨hkg, h3, h4, h1⟩⟩
theorem Bx.oneF {wr : World} {p : PtP} {K : Nat} {T F : Value} {w2 w6 : World} (h : Bx wr p K T F w2) (g c6 : Nat) (h1 : p.f.length + 1 ≤ c6) (h2 : w2.drew.heap.size ≤ g) (h3 : g < w6.heap.size) (h4 : FdIn w6 (some ⟨g, 0, none⟩) (p.f ++ [mkF])) (h5 : Below w2.drew.heap.size w2.drew w6) : Bx wr p K T (.slice (some ⟨g, 0, none⟩) p.f.length c6) (w6.setCell ⟨K, 2, none⟩ (.slice (some ⟨g, 0, none⟩) p.f.length c6)) ∧ FM (w6.setCell ⟨K, 2, none⟩ (.slice (some ⟨g, 0, none⟩) p.f.length c6)) K g c6 p.f := by
  have hb : Below w2.heap.size w2 w6 := (show Below w2.heap.size w2 w2.drew from (Below.refl _ w2).drew).trans h5
  have hkg : K < g := Nat.lt_of_lt_of_le h.kl h2
  exact ⟨(h.below hb).setF _, FM.setK ⟨hkg, h3, h4, h1⟩⟩
/-- a copied point, or the marked one behind all. -/
def PM (W : World) (t : PtA) : Prop := (∃ K g c, t.2.1 = (some ⟨g, 0, none⟩, c) ∧ TM W K g c t.1.t) ∧ (∃ K g c, t.2.2 = (some ⟨g, 0, none⟩, c) ∧ FM W K g c t.1.f)
def PMx (W : World) (t : PtA) : Prop := PM W t ∨ t.2 = ((none, 0), (none, 0))
def notIn (v : Value) (t : PtA) : Prop := ∀ g, v.ownBlock = some g → ∀ q, t.2.1.1 = some q ∨ t.2.2.1 = some q → q.block ≠ g
theorem PM.below {W W' : World} {t : PtA} (h : PM W t) (hB : Below W.heap.size W W') : PM W' t := by
  obtain ⟨⟨K, g, c, e, h1⟩, K2, g2, c2, e2, h2⟩ := h
  exact ⟨⟨K, g, c, e, h1.below hB⟩, K2, g2, c2, e2, h2.below hB⟩
theorem PMx.below {W W' : World} {t : PtA} (h : PMx W t) (hB : Below W.heap.size W W') : PMx W' t := h.imp (fun h => h.below hB) id
theorem PMx.grown {W W' : World} {t : PtA} {v : Value} (h : PMx W t) (hg : W.grownBy W' v.ownBlock) (hn : notIn v t) : PMx W' t := by
  rcases h with ⟨⟨K, g, c, e, h1⟩, K2, g2, c2, e2, h2⟩ | h
  · refine Or.inl ⟨⟨K, g, c, e, h1.1, Nat.lt_of_lt_of_le h1.2.1 hg.size, h1.2.2.1.grownW hg (fun _ ad had q => ?_), h1.2.2.2⟩, K2, g2, c2, e2, h2.1, Nat.lt_of_lt_of_le h2.2.1 hg.size, h2.2.2.1.grownW hg (fun _ ad had q => ?_), h2.2.2.2⟩
    · exact hn _ q ad (Or.inl (by rw [e]; exact had)) rfl
    · exact hn _ q ad (Or.inr (by rw [e2]; exact had)) rfl
  · exact Or.inr h
/-- copied points in a row of one's own. -/
structure OP (W : World) (B : Nat) (v : Value) (L : List PtA) : Prop where
  own : W.ownsRow B 41 4 v L.length (encP L)
  all : ∀ t ∈ L, PMx W t ∧ notIn v t
theorem OP.nil (w : World) (B : Nat) : OP w B (.slice none 0 0) [] := ⟨⟨rfl, Or.inl ⟨rfl, rfl⟩⟩, fun t h => by cases h⟩
theorem OP.below {W W' : World} {B : Nat} {v : Value} {L : List PtA} (h : OP W B v L) (hb : Below W.heap.size W W') : OP W' B v L := by
  refine ⟨⟨h.own.1, ?_⟩, fun t ht => ⟨(h.all t ht).1.below hb, (h.all t ht).2⟩⟩
  rcases h.own.2 with h2 | ⟨g, cap, cur, e1, e2, e3, e4⟩
  · exact Or.inl h2
  · exact Or.inr ⟨g, cap, cur, e1, e2, by rw [hb.block g (Array.getElem?_eq_some_iff.1 e3).1]; exact e3, e4⟩
theorem OP.len {W : World} {B : Nat} {a : Option Addr} {z c : Nat} {L : List PtA} (h : OP W B (.slice a z c) L) : L.length = z := by
  rcases h.own.2 with ⟨e1, e2⟩ | ⟨g, cap', cur, e1, _⟩
  · injection e1; omega
  · injection e1; omega
theorem OP.app (W : World) (B : Nat) (a3 : Option Addr) (z c3 : Nat) (L : List PtA) (h : OP W B (.slice a3 z c3) L) (hB : B ≤ W.heap.size) (t : PtA) (ht : PMx W t) (hnt : notIn (.slice a3 z c3) t) (hn : z + 1 ≤ 1099511627776) :
    ∃ a c w', (∀ W' N, W' = W.alloc (.cells #[.string t.1.m, .slice t.2.1.1 t.1.t.length t.2.1.2, .slice t.2.2.1 t.1.f.length t.2.2.2, .int .i64 t.1.tm] 41) → N = W.heap.size → (Builtin.append_ #[26, 26] 26 #[.slice a3 z c3, .slice (some ⟨N, 0, none⟩) 1 1]).run Tryz.prog W' = .ok (.slice a (z + 1) c) w') ∧ OP w' B (.slice a (z + 1) c) (L ++ [t]) ∧ Below B W w' := by
  have b1 : Below W.heap.size W (W.alloc (.cells #[.string t.1.m, .slice t.2.1.1 t.1.t.length t.2.1.2, .slice t.2.2.1 t.1.f.length t.2.2.2, .int .i64 t.1.tm] 41)) := (Below.refl _ W).alloc (Nat.le_refl _) _
  have ho2 := (h.below b1).own
  have lz := h.len
  obtain ⟨i, i1, i0⟩ := Option.map_eq_some_iff.1 pt_info
  have i2 : i.zero = some (.agg #[.string ⟨#[]⟩, .slice none 0 0, .slice none 0 0, .int .i64 0]) := congrArg (·.1) i0
  have i3 : i.bytes = 72 := congrArg (·.2.1) i0
  have i4 : i.size = 4 := congrArg (·.2.2) i0
  have hml : maxLen = 9223372036854775807 := by decide
  have hB2 := Nat.le_trans hB b1.size
  obtain ⟨g, cap, w', hr, own, gr, hat, hlt⟩ := run_append_lies (P := Tryz.prog) _ 26 26 B 41 i (.agg #[.string ⟨#[]⟩, .slice none 0 0, .slice none 0 0, .int .i64 0]) 4 72 Tryz.underlying26 i1 i2 i4 i3 rfl (by omega) (.slice a3 z c3) L.length (encP L) ho2 ⟨W.heap.size, 0, none⟩ 1 1 (encP [t]) rfl (fun j u hj => by
    rcases j with _ | _ | _ | _ | j <;> simp [encP] at hj <;> (try (subst hj; simp [go_sem]))) (encP_one _) (by omega) (by omega) (by omega) hB2 _ rfl
  have gW : W.grownBy w' (Value.slice a3 z c3).ownBlock := ⟨gr.os, gr.tape, gr.output, Nat.le_trans b1.size gr.size, fun k hk hne => by rw [gr.block k (Nat.lt_of_lt_of_le hk b1.size) hne]; exact b1.block k hk⟩
  have all : ∀ u ∈ L ++ [t], PMx W u ∧ notIn (.slice a3 z c3) u := fun u hu => by
    rcases List.mem_append.1 hu with q | q
    · exact h.all u q
    · rw [List.mem_singleton.1 q]; exact ⟨ht, hnt⟩
  rw [lz] at hr own
  refine ⟨some ⟨g, 0, none⟩, cap, w', fun W' N e e' => by subst e; subst e'; exact hr, ⟨?_, fun u hu => ⟨(all u hu).1.grown gW (all u hu).2, fun g' hg' q hq => ?_⟩⟩, (b1.mono hB).trans ((Below.refl B _).grown gr hB2 (fun k e => (World.ownsRow.lt ho2 k e).1))⟩
  · rw [List.length_append, List.length_singleton, lz, encP_append]; exact own
  · have q1 : g = g' := by simpa [Value.ownBlock] using hg'
    subst q1
    rcases hat with e | e
    · exact (all u hu).2 g e q hq
    · have hqb : q.block < W.heap.size := by
        rcases (all u hu).1 with ⟨⟨K, g3, c3, e3, h3⟩, K2, g4, c4, e4, h4⟩ | e5
        · rcases hq with hq | hq
          · rw [e3] at hq; injection hq with hq; rw [← hq]; exact h3.2.1
          · rw [e4] at hq; injection hq with hq; rw [← hq]; exact h4.2.1
        · rw [e5] at hq; rcases hq with hq | hq <;> cases hq
      have : (W.alloc (.cells #[.string t.1.m, .slice t.2.1.1 t.1.t.length t.2.1.2, .slice t.2.2.1 t.1.f.length t.2.2.2, .int .i64 t.1.tm] 41)).heap.size = W.heap.size + 1 := by simp
      rw [this] at e
      omega
end Go.Proofs.YtepakgfdakeibaaGreatDoor

namespace Go.Proofs.YtepakgfdakeibaaGreatDoor
open Go.RowKit _root_.Go.Proofs.YtepakgfdakeibaaGreatDoor.So
set_option linter.unusedVariables false
set_option linter.unusedSimpArgs false
def markP : PtP := ⟨⟨#[109, 97, 114, 107]⟩, [], [], 0⟩
/-- what copied tells. -/
structure CoR (W : World) (g c : Nat) (l : List PtP) : Prop where
  cap : l.length + 1 ≤ c
  gl : g < W.heap.size
  pts : ∀ i p, l[i]? = some p → ∃ t : PtA, t.1 = p ∧ PAt W g (i * 4) p t.2.1.1 t.2.1.2 t.2.2.1 t.2.2.2 ∧ PM W t
  mkc : W.cell? ⟨g, l.length * 4, none⟩ = some (.string ⟨#[109, 97, 114, 107]⟩)
/-- what stands while points are copied. -/
structure CoS (w : World) (l : List PtP) (i : Nat) (v : Value) (L : List PtA) (wr : World) : Prop where
  bl : Below w.heap.size w wr
  row : OP wr w.heap.size v L
  is : L.map (·.1) = l.take i
  pm : ∀ t ∈ L, PM wr t
  il : i ≤ l.length
theorem notIn_of {W : World} {B : Nat} {v : Value} {L : List PtA} (h : OP W B v L) {t : PtA} (ht : ∀ q, t.2.1.1 = some q ∨ t.2.2.1 = some q → W.heap.size ≤ q.block) : notIn v t := fun g hg q hq e => by
  have h1 := (World.ownsRow.lt h.own g hg).2
  have h2 := ht q hq
  omega
end Go.Proofs.YtepakgfdakeibaaGreatDoor

namespace Go.Proofs.YtepakgfdakeibaaGreatDoor
open Go.RowKit _root_.Go.Proofs.YtepakgfdakeibaaGreatDoor.So
set_option linter.unusedVariables false
set_option linter.unusedSimpArgs false
theorem belowNH {B : Nat} {a w : World} (h : Below B a w) (n : Nat) : Below B a (w.drewN n) := ⟨h.os, h.tape, h.output, h.size, h.block⟩
set_option maxRecDepth 100000 in
theorem sameTagsH (a b : Option Addr) (l : List TagP) (c1 c2 : Nat) (w : World) (hl : l.length ≤ 9223372036854775807) (ha : TgIn w a l) (hb : TgIn w b l) :
    Calls Tryz.prog 37 #[.slice a l.length c1, .slice b l.length c2] w fun e w' => e = .returned (.bool true) ∧ Below w.heap.size w w' := by
  have c := ctags_any a b l l c1 c2 w hl hl ha hb
  rw [show tagsC l l = 0 from (tagsC_is.zero l l).2 rfl] at c
  have cH : Hid (Calls Tryz.prog 67 #[.slice a l.length c1, .slice b l.length c2] w fun e w' => e = .returned (.int .i64 0) ∧ Below w.heap.size w w') := c
  clear c ha hb hl
  generalize l.length = n at *
  go_enter Tryz.func37, Tryz.ntmps37
  go_wp2_with fail
  refine Calls.mono cH.out ?_
  rintro e w1 ⟨rfl, hb1⟩
  go_wp2_with fail
  go_ret
  exact ⟨rfl, hb1⟩
set_option maxRecDepth 100000 in
set_option maxHeartbeats 8000000 in
theorem samePoint_true (p : PtP) (ta tb fa fb : Option Addr) (c1 c2 d1 d2 : Nat) (w : World) (ha : TgIn w ta p.t) (hb : TgIn w tb p.t) (hf : FdIn w fa p.f) (hg : FdIn w fb p.f) (hn : p.t.length ≤ 9223372036854775807) (hm : p.f.length ≤ 4611686018427387904) :
    Calls Tryz.prog 17 #[.agg #[.string p.m, .slice ta p.t.length c1, .slice fa p.f.length d1, .int .i64 p.tm], .agg #[.string p.m, .slice tb p.t.length c2, .slice fb p.f.length d2, .int .i64 p.tm]] w fun e w' => e = .returned (.bool true) ∧ Below w.heap.size w w' := by
  obtain ⟨w2, hw2⟩ : ∃ w2, w2 = (w.alloc (.cells #[.string p.m, .slice ta p.t.length c1, .slice fa p.f.length d1, .int .i64 p.tm] 41)).alloc (.cells #[.string p.m, .slice tb p.t.length c2, .slice fb p.f.length d2, .int .i64 p.tm] 41) := ⟨_, rfl⟩
  have b2 : Below w.heap.size w w2 := by rw [hw2]; exact ((Below.refl _ w).alloc (Nat.le_refl _) _).alloc (by simp) _
  have s2 : w2.heap.size = w.heap.size + 2 := by rw [hw2]; simp
  have C1 : Hid (Calls Tryz.prog 37 #[.slice ta p.t.length c1, .slice tb p.t.length c2] w2 fun e w' => e = .returned (.bool true) ∧ Below w2.heap.size w2 w') := sameTagsH ta tb p.t c1 c2 w2 hn (ha.below b2) (hb.below b2)
  have k0 : w2.cell? ⟨w.heap.size, 2, none⟩ = some (.slice fa p.f.length d1) ∧ w2.cell? ⟨w.heap.size + 1, 2, none⟩ = some (.slice fb p.f.length d2) := by rw [hw2]; simp [go_sem]
  have kH : Hid (∀ W, Below w2.heap.size w2 W → Below w.heap.size w W ∧ W.cell? ⟨w.heap.size, 2, none⟩ = some (.slice fa p.f.length d1) ∧ W.cell? ⟨w.heap.size + 1, 2, none⟩ = some (.slice fb p.f.length d2) ∧ FdIn W fa p.f ∧ FdIn W fb p.f) := fun W hW => ⟨b2.trans (hW.mono b2.size), by rw [hW.cell (p := ⟨w.heap.size, 2, none⟩) (by show w.heap.size < _; omega)]; exact k0.1, by rw [hW.cell (p := ⟨w.heap.size + 1, 2, none⟩) (by show w.heap.size + 1 < _; omega)]; exact k0.2, hf.below (b2.trans (hW.mono b2.size)), hg.below (b2.trans (hW.mono b2.size))⟩
  obtain ⟨n, hnl⟩ : ∃ n, p.f.length = n := ⟨_, rfl⟩
  have nH : Hid (p.f.length = n) := hnl
  rw [hnl] at hm hw2 kH ⊢
  generalize p.t.length = nt at *
  clear ha hb hf hg hn b2 s2 k0 hnl
  go_enter Tryz.func17, Tryz.ntmps17
  go_wp2_with fail
  rw [← hw2]
  refine Calls.mono C1.out ?_
  rintro e w3 ⟨rfl, b3⟩
  obtain ⟨q1, q2, q3, _, _⟩ := kH.out w3 b3
  have B3 : Hid (Below w2.heap.size w2 w3) := b3
  clear b3 C1 hw2 q1
  go_wp2_with fail
  clear q2 q3
  go_loopw [5] (fun v wr => ∃ i : Nat, v = .int .i64 (i : Int) ∧ i ≤ n ∧ Hid (Below w2.heap.size w2 wr)) (fun v _ => n - (intOf v).toNat)
  case atStart => exact ⟨0, rfl, Nat.zero_le _, B3⟩
  case round =>
    clear B3
    obtain ⟨i, rfl, il, hB⟩ := hrel
    have i0 : (0 : Int) ≤ (i : Int) := by omega
    have wi : IntKind.i64.wrap ((i : Int) + 1) = ((i + 1 : Nat) : Int) := IntWalk.i64_in _ (by omega)
    obtain ⟨q1, q2, q3, q4, q5⟩ := kH.out wr hB.out
    have bH : Hid (Below w.heap.size w wr) := q1
    by_cases hi : i < n
    · have iI : (i : Int) < (n : Int) := by omega
      obtain ⟨f, hf⟩ : ∃ f, p.f[i]? = some f := ⟨_, List.getElem?_eq_getElem (by rw [nH.out]; exact hi)⟩
      obtain ⟨b1, o1, e1, _, x1, x2⟩ := q4.at (Below.refl _ _) hf
      obtain ⟨b2, o2, e2, _, y1, y2⟩ := q5.at (Below.refl _ _) hf
      subst e1 e2
      have S2 : Hid (∀ k, Below w2.heap.size w2 (wr.drewN k)) := fun k => belowNH hB.out k
      clear q1 q4 q5 hf hB
      go_wp2_with fail
      go_quiet (fail)
      go_wp2_with fail
      exact ⟨⟨i + 1, by first | rfl | simp, by omega, S2.out _⟩, by simp [intOf]; omega⟩
    · have iI : ¬ (i : Int) < (n : Int) := by omega
      clear q1 q4 q5 hB
      go_wp2_with fail
      go_ret
      exact ⟨rfl, bH.out⟩
end Go.Proofs.YtepakgfdakeibaaGreatDoor

namespace Go.Proofs.YtepakgfdakeibaaGreatDoor
open Go.RowKit _root_.Go.Proofs.YtepakgfdakeibaaGreatDoor.So
attribute [local go_sem] Oper.semAt_some
set_option linter.unusedVariables false
set_option linter.unusedSimpArgs false
end Go.Proofs.YtepakgfdakeibaaGreatDoor

namespace Go.Proofs.YtepakgfdakeibaaGreatDoor
open Go.RowKit _root_.Go.Proofs.YtepakgfdakeibaaGreatDoor.So
set_option linter.unusedVariables false
set_option linter.unusedSimpArgs false
set_option maxRecDepth 100000 in
set_option maxHeartbeats 8000000 in
theorem samePoints_true (a a2 : Option Addr) (c c2 : Nat) (l : List PtP) (w : World) (ha : PsIn w a l) (hb : PsIn w a2 l) (hn : l.length ≤ 1099511627775) :
    Calls Tryz.prog 7 #[.slice a l.length c, .slice a2 l.length c2] w fun e w' => e = .returned (.bool true) ∧ Below w.heap.size w w' := by
  obtain ⟨n, hn1⟩ : ∃ n, n = l.length := ⟨_, rfl⟩
  have nH : Hid (n = l.length) := hn1
  rw [← hn1] at hn ⊢
  have aH : Hid (PsIn w a l) := ha
  have bH : Hid (PsIn w a2 l) := hb
  have W0 : Hid (Below w.heap.size w w) := Below.refl _ _
  have nn : ((n : Int) == (n : Int)) = true := by simp
  clear ha hb hn1
  go_enter Tryz.func7, Tryz.ntmps7
  go_wp2_with fail
  go_loopw [5] (fun v wr => ∃ (i : Nat), v = .int .i64 (i : Int) ∧ i ≤ n ∧ Hid (Below w.heap.size w wr)) (fun v _ => n - (intOf v).toNat)
  case atStart => exact ⟨0, rfl, Nat.zero_le _, W0⟩
  case round =>
    clear W0
    obtain ⟨i, rfl, il, BH⟩ := hrel
    have i0 : (0 : Int) ≤ (i : Int) := by omega
    have wi : IntKind.i64.wrap ((i : Int) + 1) = ((i + 1 : Nat) : Int) := IntWalk.i64_in _ (by omega)
    by_cases hi : i < n
    · have iI : (i : Int) < (n : Int) := by omega
      obtain ⟨p, hp⟩ := psome (l := l) (k := i) (by rw [← nH.out]; exact hi)
      obtain ⟨b, off, ta, tc, fa, fc, e1, hbx, ax, fx⟩ := aH.out.at BH.out hp
      obtain ⟨b', off', tb, td, fb, fd, e2, hby, ay, fy⟩ := bH.out.at BH.out hp
      subst e1 e2
      have CH : Hid (∀ W', Below w.heap.size w W' → Calls Tryz.prog 17 #[.agg #[.string p.m, .slice ta p.t.length tc, .slice fa p.f.length fc, .int .i64 p.tm], .agg #[.string p.m, .slice tb p.t.length td, .slice fb p.f.length fd, .int .i64 p.tm]] W' fun e w' => e = .returned (.bool true) ∧ Below W'.heap.size W' w') := fun W' hW' => by
        have q1 := (fx W' hW').2
        have q2 := (fy W' hW').2
        exact samePoint_true p ta tb fa fb tc td fc fd W' q1.1 q2.1 q1.2.2.1 q2.2.2.1 (by have := q1.2.1; omega) q1.2.2.2.1
      clear fx fy hp
      unfold PAt at ax ay
      generalize p.t.length = nt at *
      generalize p.f.length = nf at *
      have bl : b < wr.heap.size := Nat.lt_of_lt_of_le hbx BH.out.size
      have bl' : b' < wr.heap.size := Nat.lt_of_lt_of_le hby BH.out.size
      clear hbx hby
      obtain ⟨x1, x2, x3, x4⟩ := ax
      obtain ⟨y1, y2, y3, y4⟩ := ay
      go_wp2_with fail
      refine wp_region_noPanic ?_
      refine wp_region_held_drew (S := fun W => (W.cell? ⟨b, off + i * 4, none⟩ = some (.string p.m) ∧ W.cell? ⟨b, off + i * 4 + 1, none⟩ = some (.slice ta nt tc) ∧ W.cell? ⟨b, off + i * 4 + 2, none⟩ = some (.slice fa nf fc) ∧ W.cell? ⟨b, off + i * 4 + 3, none⟩ = some (.int .i64 p.tm)) ∧ W.cell? ⟨b', off' + i * 4, none⟩ = some (.string p.m) ∧ W.cell? ⟨b', off' + i * 4 + 1, none⟩ = some (.slice tb nt td) ∧ W.cell? ⟨b', off' + i * 4 + 2, none⟩ = some (.slice fb nf fd) ∧ W.cell? ⟨b', off' + i * 4 + 3, none⟩ = some (.int .i64 p.tm)) (by kernel_rfl) ⟨⟨x1, x2, x3, x4⟩, y1, y2, y3, y4⟩ (fun hHeld => ?_)
      refine zT 0 (v := ?_) rfl ?_ ?_
      rotate_left 1
      · (intro w0 hSw; (try dsimp only at hSw); obtain ⟨⟨s1, s2, s3, s4⟩, t1, t2, t3, t4⟩ := hSw; go_simp; try with_reducible rfl)
      (try simp only [z1, z2, z3]); (try simp only [Act.put, z4, z5, z6])
      refine zT 1 (v := ?_) rfl ?_ ?_
      rotate_left 1
      · (intro w0 hSw; (try dsimp only at hSw); obtain ⟨⟨s1, s2, s3, s4⟩, t1, t2, t3, t4⟩ := hSw; go_simp; try with_reducible rfl)
      (try simp only [z1, z2, z3]); (try simp only [Act.put, z4, z5, z6])
      refine zT 2 (v := ?_) rfl ?_ ?_
      rotate_left 1
      · (intro w0 hSw; (try dsimp only at hSw); obtain ⟨⟨s1, s2, s3, s4⟩, t1, t2, t3, t4⟩ := hSw; go_simp; try with_reducible rfl)
      (try simp only [z1, z2, z3]); (try simp only [Act.put, z4, z5, z6])
      refine zT 3 (v := ?_) rfl ?_ ?_
      rotate_left 1
      · (intro w0 hSw; (try dsimp only at hSw); obtain ⟨⟨s1, s2, s3, s4⟩, t1, t2, t3, t4⟩ := hSw; go_simp; try with_reducible rfl)
      (try simp only [z1, z2, z3]); (try simp only [Act.put, z4, z5, z6])
      refine zT 4 (v := ?_) rfl ?_ ?_
      rotate_left 1
      · (intro w0 hSw; (try dsimp only at hSw); obtain ⟨⟨s1, s2, s3, s4⟩, t1, t2, t3, t4⟩ := hSw; go_simp; try with_reducible rfl)
      (try simp only [z1, z2, z3]); (try simp only [Act.put, z4, z5, z6])
      refine zT 5 (v := ?_) rfl ?_ ?_
      rotate_left 1
      · (intro w0 hSw; (try dsimp only at hSw); obtain ⟨⟨s1, s2, s3, s4⟩, t1, t2, t3, t4⟩ := hSw; go_simp; try with_reducible rfl)
      (try simp only [z1, z2, z3]); (try simp only [Act.put, z4, z5, z6])
      refine zT 6 (v := ?_) rfl ?_ ?_
      rotate_left 1
      · (intro w0 hSw; (try dsimp only at hSw); obtain ⟨⟨s1, s2, s3, s4⟩, t1, t2, t3, t4⟩ := hSw; go_simp; try with_reducible rfl)
      (try simp only [z1, z2, z3]); (try simp only [Act.put, z4, z5, z6])
      refine zT 7 (v := ?_) rfl ?_ ?_
      rotate_left 1
      · (intro w0 hSw; (try dsimp only at hSw); obtain ⟨⟨s1, s2, s3, s4⟩, t1, t2, t3, t4⟩ := hSw; go_simp; try with_reducible rfl)
      (try simp only [z1, z2, z3]); (try simp only [Act.put, z4, z5, z6])
      refine wpAnyH_ready (rs := [8]) (by kernel_rfl) (by simp) ?_
      refine AllReadyH.cons (o := _) rfl (fun K hK => ?_) AllReadyH.nil
      go_simp
      refine Calls.mono (CH.out _ (show Below w.heap.size w wr.drew from BH.out.drew)) ?_
      rintro e w' ⟨rfl, BB⟩
      try dsimp only
      refine hK _ _ ?_ (fun hHeld => ?_)
      · exact ⟨⟨by rw [BB.cell (p := ⟨b, off + i * 4, none⟩) bl]; exact x1, by rw [BB.cell (p := ⟨b, off + i * 4 + 1, none⟩) bl]; exact x2, by rw [BB.cell (p := ⟨b, off + i * 4 + 2, none⟩) bl]; exact x3, by rw [BB.cell (p := ⟨b, off + i * 4 + 3, none⟩) bl]; exact x4⟩, by rw [BB.cell (p := ⟨b', off' + i * 4, none⟩) bl']; exact y1, by rw [BB.cell (p := ⟨b', off' + i * 4 + 1, none⟩) bl']; exact y2, by rw [BB.cell (p := ⟨b', off' + i * 4 + 2, none⟩) bl']; exact y3, by rw [BB.cell (p := ⟨b', off' + i * 4 + 3, none⟩) bl']; exact y4⟩
      clear hK K
      (try simp only [z1, z2, z3]); (try simp only [Act.put, z4, z5, z6])
      refine zT 9 (v := ?_) rfl ?_ ?_
      rotate_left 1
      · (intro w0 hSw; (try dsimp only at hSw); obtain ⟨⟨s1, s2, s3, s4⟩, t1, t2, t3, t4⟩ := hSw; go_simp; try with_reducible rfl)
      (try simp only [z1, z2, z3]); (try simp only [Act.put, z4, z5, z6])
      refine wpAnyH_done (by kernel_rfl) ?_ _
      refine NoPanic.normal ?_
      have fin : Hid (Below w.heap.size w w') := BH.out.drew.trans (BB.mono BH.out.size)
      clear BB BH CH x1 x2 x3 x4 y1 y2 y3 y4 hHeld
      go_wp2_with fail
      exact ⟨⟨i + 1, by first | rfl | simp, by omega, fin⟩, by simp [intOf]; omega⟩
    · have iI : ¬ (i : Int) < (n : Int) := by omega
      go_wp2_with fail
      go_ret
      exact ⟨rfl, BH.out⟩
theorem TgIn.preH {w : World} {a : Option Addr} {l m : List TagP} (h : TgIn w a (l ++ m)) : TgIn w a l := by
  rcases h with h | ⟨b, off, e, hb, hc⟩
  · exact Or.inl (List.append_eq_nil_iff.1 h).1
  · refine Or.inr ⟨b, off, e, hb, fun i t ht => hc i t ?_⟩
    rw [List.getElem?_append_left (List.getElem?_eq_some_iff.1 ht).1]; exact ht
theorem FdIn.preH {w : World} {a : Option Addr} {l m : List FdP} (h : FdIn w a (l ++ m)) : FdIn w a l := by
  rcases h with h | ⟨b, off, e, hb, hc⟩
  · exact Or.inl (List.append_eq_nil_iff.1 h).1
  · refine Or.inr ⟨b, off, e, hb, fun i t ht => hc i t ?_⟩
    rw [List.getElem?_append_left (List.getElem?_eq_some_iff.1 ht).1]; exact ht
theorem CoR.below {W W' : World} {g c : Nat} {l : List PtP} (h : CoR W g c l) (hB : Below W.heap.size W W') : CoR W' g c l := by
  refine ⟨h.cap, Nat.lt_of_lt_of_le h.gl hB.size, fun i p hp => ?_, by rw [hB.cell (p := ⟨g, l.length * 4, none⟩) h.gl]; exact h.mkc⟩
  obtain ⟨t, e, h1, h2⟩ := h.pts i p hp
  exact ⟨t, e, h1.below hB h.gl, h2.below hB⟩
theorem CoR.psin {W : World} {g c : Nat} {l : List PtP} (h : CoR W g c l) (hpt : ∀ p ∈ l, p.t.length ≤ 1048576 ∧ p.f.length ≤ 1048576) : PsIn W (some ⟨g, 0, none⟩) l := by
  refine Or.inr ⟨g, 0, rfl, h.gl, fun i p hp => ?_⟩
  obtain ⟨t, rfl, h1, ⟨K, g1, d1, e1, m1⟩, K2, g2, d2, e2, m2⟩ := h.pts i p hp
  have hl := hpt _ (List.mem_of_getElem? hp)
  rw [Nat.zero_add]
  refine ⟨_, _, _, _, h1, ?_, by omega, ?_, by omega, ?_⟩
  · rw [e1]; exact m1.2.2.1.preH
  · rw [e2]; exact m2.2.2.1.preH
  · rw [e2]; have := m2.2.2.2; show t.1.f.length ≤ d2; omega
theorem TM.cell {W : World} {K g c : Nat} {t : List TagP} (h : TM W K g c t) : W.cell? ⟨g, t.length * 2, none⟩ = some (.string ⟨#[109, 97, 114, 107]⟩) := by
  rcases h.2.2.1 with e | ⟨b, off, e, hb, hc⟩
  · simp at e
  · injection e with e
    injection e with e1 e2
    subst e1 e2
    have := (hc t.length mkT (by simp)).1
    rw [Nat.zero_add] at this
    exact this
theorem FM.cell {W : World} {K g c : Nat} {t : List FdP} (h : FM W K g c t) : W.cell? ⟨g, t.length * 2, none⟩ = some (.string ⟨#[109, 97, 114, 107]⟩) := by
  rcases h.2.2.1 with e | ⟨b, off, e, hb, hc⟩
  · simp at e
  · injection e with e
    injection e with e1 e2
    subst e1 e2
    have := (hc t.length mkF (by simp)).1
    rw [Nat.zero_add] at this
    exact this
end Go.Proofs.YtepakgfdakeibaaGreatDoor
