
import Derived.Test.YtgodihhlpcnbiaaGreatDoorBdC
import Derived.Test.YtgodihhlpcnbiaaGreatDoorBdD
import Derived.Test.YtgodihhlpcnbiaaGreatDoorBdB
namespace Go.Proofs.YtgodihhlpcnbiaaGreatDoor
open Go.RowKit _root_.Go.Proofs.YtgodihhlpcnbiaaGreatDoor.So
set_option linter.unusedVariables false
set_option linter.unusedSimpArgs false
/-- a point in memory: four cells. -/
def PAt (w : World) (b o : Nat) (p : PtP) (ta : Option Addr) (tc : Nat) (fa : Option Addr) (fc : Nat) : Prop := w.cell? ⟨b, o, none⟩ = some (.string p.m) ∧ w.cell? ⟨b, o + 1, none⟩ = some (.slice ta p.t.length tc) ∧ w.cell? ⟨b, o + 2, none⟩ = some (.slice fa p.f.length fc) ∧ w.cell? ⟨b, o + 3, none⟩ = some (.int .i64 p.tm)
theorem PAt.below {w w' : World} {b o : Nat} {p : PtP} {ta fa : Option Addr} {tc fc C : Nat} (h : PAt w b o p ta tc fa fc) (hB : Below C w w') (hb : b < C) : PAt w' b o p ta tc fa fc := by
  obtain ⟨h1, h2, h3, h4⟩ := h
  exact ⟨by rw [hB.cell (p := ⟨b, o, none⟩) hb]; exact h1, by rw [hB.cell (p := ⟨b, o + 1, none⟩) hb]; exact h2, by rw [hB.cell (p := ⟨b, o + 2, none⟩) hb]; exact h3, by rw [hB.cell (p := ⟨b, o + 3, none⟩) hb]; exact h4⟩
/-- points that lie in memory. -/
def PsIn (w : World) (a : Option Addr) (l : List PtP) : Prop := l = [] ∨ ∃ b off, a = some ⟨b, off, none⟩ ∧ b < w.heap.size ∧ ∀ i p, l[i]? = some p → ∃ ta tc fa fc, PAt w b (off + i * 4) p ta tc fa fc ∧ PtIn w ta fa fc p
theorem PsIn.below {w w' : World} {a : Option Addr} {l : List PtP} (h : PsIn w a l) (hB : Below w.heap.size w w') : PsIn w' a l := by
  rcases h with h | ⟨b, off, ha, hb, hc⟩
  · exact Or.inl h
  · refine Or.inr ⟨b, off, ha, Nat.lt_of_lt_of_le hb hB.size, fun i x hx => ?_⟩
    obtain ⟨ta, tc, fa, fc, h1, h2⟩ := hc i x hx
    exact ⟨ta, tc, fa, fc, h1.below hB hb, h2.below hB⟩
theorem PsIn.at {w wr : World} {a : Option Addr} {l : List PtP} (h : PsIn w a l) (hB : Below w.heap.size w wr) {k : Nat} {p : PtP} (hx : l[k]? = some p) : ∃ b off ta tc fa fc, a = some ⟨b, off, none⟩ ∧ b < w.heap.size ∧ PAt wr b (off + k * 4) p ta tc fa fc ∧ ∀ W, Below w.heap.size w W → PAt W b (off + k * 4) p ta tc fa fc ∧ PtIn W ta fa fc p := by
  rcases h with h0 | ⟨b, off, e, hb, hc⟩
  · rw [h0] at hx; simp at hx
  · obtain ⟨ta, tc, fa, fc, h1, h2⟩ := hc k p hx
    exact ⟨b, off, ta, tc, fa, fc, e, hb, h1.below hB hb, fun W hW => ⟨h1.below hW hb, h2.below hW⟩⟩
/-- the first one that is wrong, from place i on. -/
def badP : List PtP → Nat → Option (Nat × Int)
  | [], _ => none
  | p :: l, i => if pointN p = 0 then badP l (i + 1) else some (i, pointN p)
theorem badP_drop {l : List PtP} {k : Nat} {p : PtP} (h : l[k]? = some p) : badP (l.drop k) k = if pointN p = 0 then badP (l.drop (k + 1)) (k + 1) else some (k, pointN p) := by
  obtain ⟨hk, e⟩ := List.getElem?_eq_some_iff.1 h
  rw [List.drop_eq_getElem_cons hk, e, badP]
theorem badP_none : ∀ {l : List PtP} {i : Nat}, badP l i = none → ∀ p ∈ l, pointN p = 0
  | q :: l, i, h, p, hp => by
    rw [badP] at h
    split at h
    · rename_i h0
      rcases List.mem_cons.1 hp with e | e
      · rw [e]; exact h0
      · exact badP_none h p e
    · cases h
theorem badP_some : ∀ {l : List PtP} {i k : Nat} {n : Int}, badP l i = some (k, n) → n ≠ 0
  | q :: l, i, k, n, h => by
    rw [badP] at h
    split at h
    · exact badP_some h
    · rename_i h0
      injection h with h
      injection h with h1 h2
      rw [← h2]; exact h0
/-- what Check tells. -/
def chkV (l : List PtP) : Value := if 10000 < l.length then .iface 29 (.int .i64 6) else match badP l 0 with
  | none => .nilIface
  | some (i, n) => .iface 66 (.agg #[.int .i64 (i : Int), .iface 29 (.int .i64 n)])
def chkOk (l : List PtP) : Prop := l.length ≤ 10000 ∧ badP l 0 = none
theorem chkV_ok {l : List PtP} (h : chkOk l) : chkV l = .nilIface := by
  unfold chkV; rw [if_neg (by have := h.1; omega), h.2]
theorem chkV_bad {l : List PtP} (h : ¬ chkOk l) : ∃ t v, chkV l = .iface t v := by
  unfold chkV
  split
  · exact ⟨_, _, rfl⟩
  · rename_i h1
    cases hb : badP l 0 with
    | none => exact absurd ⟨by omega, hb⟩ h
    | some q => exact ⟨_, _, rfl⟩
/-- what the document's Check tells. -/
def chkB (l : List PtP) : Value := if 10000 < l.length then .agg #[.int .i64 6, .int .i64 0, .int .i64 0, .bool false, .bool false] else match badP l 0 with
  | none => .agg #[.int .i64 0, .int .i64 0, .int .i64 0, .bool false, .bool false]
  | some (i, n) => .agg #[.int .i64 n, .int .i64 0, .int .i64 (i : Int), .bool false, .bool true]
theorem chkB_ok {l : List PtP} (h : chkOk l) : chkB l = .agg #[.int .i64 0, .int .i64 0, .int .i64 0, .bool false, .bool false] := by
  unfold chkB; rw [if_neg (by have := h.1; omega), h.2]
theorem chkB_bad {l : List PtP} (h : ¬ chkOk l) : ∃ n i q, n ≠ 0 ∧ chkB l = .agg #[.int .i64 n, .int .i64 0, .int .i64 i, .bool false, .bool q] := by
  unfold chkB
  split
  · exact ⟨6, 0, false, by decide, rfl⟩
  · rename_i h1
    cases hb : badP l 0 with
    | none => exact absurd ⟨by omega, hb⟩ h
    | some q => obtain ⟨i, n⟩ := q; exact ⟨n, i, true, badP_some hb, rfl⟩
end Go.Proofs.YtgodihhlpcnbiaaGreatDoor

namespace Go.Proofs.YtgodihhlpcnbiaaGreatDoor
open Go.RowKit _root_.Go.Proofs.YtgodihhlpcnbiaaGreatDoor.So
set_option linter.unusedVariables false
set_option linter.unusedSimpArgs false
theorem inE_any (i n : Int) (w : World) : Calls Tryz.prog 21 #[.int .i64 i, .iface 29 (.int .i64 n)] w fun e w' => e = .returned (.iface 66 (.agg #[.int .i64 i, .iface 29 (.int .i64 n)])) ∧ w' = w := by
  go_enter Tryz.func21, Tryz.ntmps21
  go_wp2
  go_ret
  exact ⟨rfl, rfl⟩
theorem refnewB (c : Int) (w : World) : Calls Tryz.prog 22 #[.int .i64 c] w fun e w' => e = .returned (.agg #[.int .i64 c, .int .i64 0, .int .i64 0, .bool false, .bool false]) ∧ Below w.heap.size w w' := by
  go_enter Tryz.func22, Tryz.ntmps22
  go_wp2
  simp [bodyPost, results, Tryz.results22, go_sem]
  exact below_new (Below.refl _ _) _
theorem refinB (i c : Int) (h : (c == 0) = false) (w : World) : Calls Tryz.prog 24 #[.int .i64 i, .agg #[.int .i64 c, .int .i64 0, .int .i64 0, .bool false, .bool false]] w fun e w' => e = .returned (.agg #[.int .i64 c, .int .i64 0, .int .i64 i, .bool false, .bool true]) ∧ Below w.heap.size w w' := by
  go_enter Tryz.func24, Tryz.ntmps24
  go_wp2
  simp [bodyPost, results, Tryz.results24, go_sem]
  exact below_new (below_new (Below.refl _ _) _) _
theorem psome {l : List PtP} {k : Nat} (h : k < l.length) : ∃ p, l[k]? = some p := ⟨_, List.getElem?_eq_getElem h⟩
set_option maxRecDepth 100000 in
set_option maxHeartbeats 8000000 in
theorem check_any (a : Option Addr) (c : Nat) (l : List PtP) (w : World) (hl : PsIn w a l) (hn : l.length ≤ 4611686018427387904) (hT : UT w) :
    Calls Tryz.prog 10 #[.slice a l.length c] w fun e w' => e = .returned (chkV l) ∧ Below w.heap.size w w' := by
  obtain ⟨n, hnl⟩ : ∃ n, l.length = n := ⟨_, rfl⟩
  have nH : Hid (l.length = n) := hnl
  have lH : Hid (PsIn w a l) := hl
  have cR : Hid (∀ W ta tc fa fc p, Below w.heap.size w W → PtIn W ta fa fc p → Calls Tryz.prog 18 #[.agg #[.string p.m, .slice ta p.t.length tc, .slice fa p.f.length fc, .int .i64 p.tm]] W fun e w' => e = .returned (erN (pointN p)) ∧ Below W.heap.size W w') := fun W ta tc fa fc p hW hp => bright_any ta fa tc fc p W hp (hT.below hW (Nat.le_refl _))
  obtain ⟨V, hV⟩ : ∃ V, chkV l = V := ⟨_, rfl⟩
  have hVH : Hid (chkV l = V) := hV
  rw [hV, hnl]
  rw [hnl] at hn
  clear hl hT hV hnl
  by_cases hbig : 10000 < n
  · have hb : (10000 : Int) < (n : Int) := by omega
    have hV2 : Hid (V = .iface 29 (.int .i64 6)) := by
      have := hVH.out; unfold chkV at this; rw [if_pos (by rw [nH.out]; exact hbig)] at this; exact this.symm
    go_enter Tryz.func10, Tryz.ntmps10
    go_wp2_with fail
    refine Calls.mono (new_any 6 rfl _) ?_
    rintro e w1 ⟨rfl, hw⟩
    subst w1
    go_wp2_with fail
    go_ret
    exact ⟨by rw [hV2.out]; rfl, Below.refl _ _⟩
  · have hb : ¬ (10000 : Int) < (n : Int) := by omega
    have hV2 : Hid (V = match badP l 0 with | none => Value.nilIface | some (i, n) => .iface 66 (.agg #[.int .i64 (i : Int), .iface 29 (.int .i64 n)])) := by
      have := hVH.out; unfold chkV at this; rw [if_neg (by rw [nH.out]; exact hbig)] at this; exact this.symm
    have S0 : Hid (Below w.heap.size w w ∧ badP (l.drop 0) 0 = badP l 0) := ⟨Below.refl _ _, rfl⟩
    clear hVH
    go_enter Tryz.func10, Tryz.ntmps10
    go_wp2_with fail
    go_loopw [12] (fun v wr => ∃ i : Nat, v = .int .i64 (i : Int) ∧ i ≤ n ∧ Hid (Below w.heap.size w wr ∧ badP (l.drop i) i = badP l 0)) (fun v _ => n - (intOf v).toNat)
    case atStart => exact ⟨0, rfl, Nat.zero_le _, S0⟩
    case round =>
      clear S0
      obtain ⟨i, rfl, il, hS⟩ := hrel
      have i0 : (0 : Int) ≤ (i : Int) := by omega
      have wi : IntKind.i64.wrap ((i : Int) + 1) = ((i + 1 : Nat) : Int) := IntWalk.i64_in _ (by omega)
      by_cases hi : i < n
      · have iI : (i : Int) < (n : Int) := by omega
        obtain ⟨p, hp⟩ := psome (l := l) (k := i) (by rw [nH.out]; exact hi)
        obtain ⟨b, off, ta, tc, fa, fc, e1, hbx, ax, fx⟩ := lH.out.at hS.out.1 hp
        subst e1
        have hstep := badP_drop hp
        obtain ⟨w2, hw2⟩ : ∃ w2, w2 = wr.alloc (.cells #[.string p.m, .slice ta p.t.length tc, .slice fa p.f.length fc, .int .i64 p.tm] 46) := ⟨_, rfl⟩
        have b2 : Below w.heap.size w w2 := by rw [hw2]; exact hS.out.1.alloc hS.out.1.size _
        have C : Hid _ := cR.out w2 ta tc fa fc p b2 (fx w2 b2).2
        have b2H : Hid (Below w.heap.size w w2) := b2
        have stH : Hid (badP (l.drop i) i = if pointN p = 0 then badP (l.drop (i + 1)) (i + 1) else some (i, pointN p)) := hstep
        clear fx b2 hstep hp hbx
        unfold PAt at ax
        generalize p.t.length = nt at *
        generalize p.f.length = nf at *
        obtain ⟨x1, x2, x3, x4⟩ := ax
        generalize pointN p = N at C stH
        by_cases h0 : N = 0
        · subst h0
          have S2 : Hid (badP (l.drop (i + 1)) (i + 1) = badP l 0) := by have := stH.out; rw [if_pos rfl] at this; rw [← this]; exact hS.out.2
          rw [show erN 0 = .nilIface from rfl] at C
          clear stH hS
          go_wp2_with fail
          rw [← hw2]
          clear hw2 x1 x2 x3 x4
          refine Calls.mono C.out ?_
          rintro e w3 ⟨rfl, b3⟩
          have S3 : Hid (Below w.heap.size w w3 ∧ badP (l.drop (i + 1)) (i + 1) = badP l 0) := ⟨b2H.out.trans (b3.mono b2H.out.size), S2.out⟩
          clear b3 C b2H S2
          go_wp2_with fail
          exact ⟨⟨i + 1, by first | rfl | simp, by omega, S3⟩, by simp [intOf]; omega⟩
        · rw [show erN N = .iface 29 (.int .i64 N) by unfold erN; rw [if_neg h0]] at C
          have VV : Hid (V = .iface 66 (.agg #[.int .i64 (i : Int), .iface 29 (.int .i64 N)])) := by
            have := stH.out; rw [if_neg h0] at this; rw [← hS.out.2, this] at hV2; exact hV2
          clear stH hS h0
          go_wp2_with fail
          rw [← hw2]
          clear hw2 x1 x2 x3 x4
          refine Calls.mono C.out ?_
          rintro e w3 ⟨rfl, b3⟩
          have b3H : Hid (Below w.heap.size w w3) := b2H.out.trans (b3.mono b2H.out.size)
          clear b3 C b2H
          go_wp2_with fail
          refine Calls.mono (inE_any _ _ _) ?_
          rintro e w4 ⟨rfl, hw⟩
          subst w4
          go_wp2_with fail
          go_ret
          exact ⟨by rw [VV.out]; rfl, b3H.out⟩
      · have iI : ¬ (i : Int) < (n : Int) := by omega
        have VV : Hid (V = .nilIface) := by
          have h2 := hS.out.2
          rw [List.drop_eq_nil_of_le (by rw [nH.out]; omega)] at h2
          rw [← h2] at hV2; exact hV2
        have bH : Hid (Below w.heap.size w wr) := hS.out.1
        clear hS
        go_wp2_with fail
        go_ret
        exact ⟨by rw [VV.out]; rfl, bH.out⟩
end Go.Proofs.YtgodihhlpcnbiaaGreatDoor

namespace Go.Proofs.YtgodihhlpcnbiaaGreatDoor
open Go.RowKit _root_.Go.Proofs.YtgodihhlpcnbiaaGreatDoor.So
set_option linter.unusedVariables false
set_option linter.unusedSimpArgs false
/-- the five cells of a Bad in a box of one's own. -/
def Bd5 (w : World) (g : Nat) (x : Int) : Prop := g < w.heap.size ∧ (∀ k, k < 5 → w.frozen? ⟨g, k, none⟩ = false) ∧ w.cell? ⟨g, 0, none⟩ = some (.int .i64 x) ∧ w.cell? ⟨g, 1, none⟩ = some (.int .i64 0) ∧ w.cell? ⟨g, 2, none⟩ = some (.int .i64 0) ∧ w.cell? ⟨g, 3, none⟩ = some (.bool false) ∧ w.cell? ⟨g, 4, none⟩ = some (.bool false)
theorem Bd5.below {w w' : World} {g : Nat} {x : Int} (h : Bd5 w g x) (hB : Below w.heap.size w w') : Bd5 w' g x := by
  obtain ⟨h1, h2, h3, h4, h5, h6, h7⟩ := h
  exact ⟨Nat.lt_of_lt_of_le h1 hB.size, fun k hk => by rw [hB.frozen (p := ⟨g, k, none⟩) h1]; exact h2 k hk, by rw [hB.cell (p := ⟨g, 0, none⟩) h1]; exact h3, by rw [hB.cell (p := ⟨g, 1, none⟩) h1]; exact h4, by rw [hB.cell (p := ⟨g, 2, none⟩) h1]; exact h5, by rw [hB.cell (p := ⟨g, 3, none⟩) h1]; exact h6, by rw [hB.cell (p := ⟨g, 4, none⟩) h1]; exact h7⟩
theorem Bd5.new (w : World) : Bd5 (w.alloc (.cells #[.int .i64 0, .int .i64 0, .int .i64 0, .bool false, .bool false] 31)) w.heap.size 0 := by
  refine ⟨by simp, fun k hk => ?_, ?_, ?_, ?_, ?_, ?_⟩ <;> simp [go_sem]
theorem set5_below {w W : World} (h : Below w.heap.size w W) (v0 v1 v2 v3 v4 : Value) : Below w.heap.size w (((((W.setCell ⟨w.heap.size, 0, none⟩ v0).setCell ⟨w.heap.size, 1, none⟩ v1).setCell ⟨w.heap.size, 2, none⟩ v2).setCell ⟨w.heap.size, 3, none⟩ v3).setCell ⟨w.heap.size, 4, none⟩ v4) := ((((h.setCell (p := ⟨w.heap.size, 0, none⟩) (Nat.le_refl _) _).setCell (p := ⟨w.heap.size, 1, none⟩) (Nat.le_refl _) _).setCell (p := ⟨w.heap.size, 2, none⟩) (Nat.le_refl _) _).setCell (p := ⟨w.heap.size, 3, none⟩) (Nat.le_refl _) _).setCell (p := ⟨w.heap.size, 4, none⟩) (Nat.le_refl _) _
set_option maxRecDepth 100000 in
set_option maxHeartbeats 8000000 in
theorem rcheck_any (a : Option Addr) (c : Nat) (l : List PtP) (w : World) (hl : PsIn w a l) (hn : l.length ≤ 4611686018427387904) (hpt : ∀ p ∈ l, p.t.length ≤ 4398046511103) :
    Calls Tryz.prog 11 #[.slice a l.length c] w fun e w' => e = .returned (chkB l) ∧ Below w.heap.size w w' := by
  obtain ⟨n, hnl⟩ : ∃ n, l.length = n := ⟨_, rfl⟩
  have nH : Hid (l.length = n) := hnl
  have lH : Hid (PsIn w a l) := hl
  have cR : Hid (∀ W ta tc fa fc p, p ∈ l → PtIn W ta fa fc p → Calls Tryz.prog 23 #[.agg #[.string p.m, .slice ta p.t.length tc, .slice fa p.f.length fc, .int .i64 p.tm]] W fun e w' => e = .returned (bdV (pointN p)) ∧ Below W.heap.size W w') := fun W ta tc fa fc p hp hq => rpright_any ta fa tc fc p W hq (hpt p hp)
  obtain ⟨V, hV⟩ : ∃ V, chkB l = V := ⟨_, rfl⟩
  have hVH : Hid (chkB l = V) := hV
  obtain ⟨w1, hw1⟩ : ∃ w1, w1 = w.alloc (.cells #[.int .i64 0, .int .i64 0, .int .i64 0, .bool false, .bool false] 31) := ⟨_, rfl⟩
  have b1 : Below w.heap.size w w1 := by rw [hw1]; exact (Below.refl _ w).alloc (Nat.le_refl _) _
  have B1 : Hid (Bd5 w1 w.heap.size 0) := by rw [hw1]; exact Bd5.new w
  have b1H : Hid (Below w.heap.size w w1) := b1
  rw [hV, hnl]
  rw [hnl] at hn
  clear hl hV hnl hpt b1
  by_cases hbig : 10000 < n
  · have hb : (10000 : Int) < (n : Int) := by omega
    have hV2 : Hid (V = .agg #[.int .i64 6, .int .i64 0, .int .i64 0, .bool false, .bool false]) := by
      have := hVH.out; unfold chkB at this; rw [if_pos (by rw [nH.out]; exact hbig)] at this; exact this.symm
    go_enter Tryz.func11, Tryz.ntmps11
    go_wp2_with fail
    rw [← hw1]
    refine Calls.mono (refnewB 6 w1) ?_
    rintro e w2 ⟨rfl, b2⟩
    obtain ⟨k1, kf, k2, k3, k4, k5, k6⟩ := B1.out.below b2
    have kf0 := kf 0 (by omega)
    have kf1 := kf 1 (by omega)
    have kf2 := kf 2 (by omega)
    have kf3 := kf 3 (by omega)
    have kf4 := kf 4 (by omega)
    have fin := set5_below (b1H.out.trans (b2.mono b1H.out.size))
    have finH : Hid (∀ v0 v1 v2 v3 v4 : Value, Below w.heap.size w (((((w2.setCell ⟨w.heap.size, 0, none⟩ v0).setCell ⟨w.heap.size, 1, none⟩ v1).setCell ⟨w.heap.size, 2, none⟩ v2).setCell ⟨w.heap.size, 3, none⟩ v3).setCell ⟨w.heap.size, 4, none⟩ v4)) := fin
    clear b2 kf fin hw1 B1 b1H
    go_wp2_with fail
    simp [bodyPost, results, Tryz.results11, go_sem, k2, k3, k4, k5, k6]
    exact ⟨hV2.out.symm, finH.out _ _ _ _ _⟩
  · have hb : ¬ (10000 : Int) < (n : Int) := by omega
    have hV2 : Hid (V = match badP l 0 with | none => .agg #[.int .i64 0, .int .i64 0, .int .i64 0, .bool false, .bool false] | some (i, n) => .agg #[.int .i64 n, .int .i64 0, .int .i64 (i : Int), .bool false, .bool true]) := by
      have := hVH.out; unfold chkB at this; rw [if_neg (by rw [nH.out]; exact hbig)] at this; exact this.symm
    have S0 : Hid (Below w.heap.size w w1 ∧ Bd5 w1 w.heap.size 0 ∧ badP (l.drop 0) 0 = badP l 0) := ⟨b1H.out, B1.out, rfl⟩
    clear hVH b1H B1
    go_enter Tryz.func11, Tryz.ntmps11
    go_wp2_with fail
    rw [← hw1]
    clear hw1
    go_loopw [3] (fun v wr => ∃ i : Nat, v = .int .i64 (i : Int) ∧ i ≤ n ∧ Hid (Below w.heap.size w wr ∧ Bd5 wr w.heap.size 0 ∧ badP (l.drop i) i = badP l 0)) (fun v _ => n - (intOf v).toNat)
    case atStart => exact ⟨0, rfl, Nat.zero_le _, S0⟩
    case round =>
      clear S0
      obtain ⟨i, rfl, il, hS⟩ := hrel
      have i0 : (0 : Int) ≤ (i : Int) := by omega
      have wi : IntKind.i64.wrap ((i : Int) + 1) = ((i + 1 : Nat) : Int) := IntWalk.i64_in _ (by omega)
      by_cases hi : i < n
      · have iI : (i : Int) < (n : Int) := by omega
        obtain ⟨p, hp⟩ := psome (l := l) (k := i) (by rw [nH.out]; exact hi)
        obtain ⟨b, off, ta, tc, fa, fc, e1, hbx, ax, fx⟩ := lH.out.at hS.out.1 hp
        subst e1
        have hstep := badP_drop hp
        have C : Hid _ := cR.out wr ta tc fa fc p (List.mem_of_getElem? hp) (fx wr hS.out.1).2
        have stH : Hid (badP (l.drop i) i = if pointN p = 0 then badP (l.drop (i + 1)) (i + 1) else some (i, pointN p)) := hstep
        clear fx hstep hp hbx
        unfold PAt at ax
        unfold bdV at C
        generalize p.t.length = nt at *
        generalize p.f.length = nf at *
        obtain ⟨x1, x2, x3, x4⟩ := ax
        generalize pointN p = N at C stH
        go_wp2_with fail
        refine Calls.mono C.out ?_
        rintro e w3 ⟨rfl, b3⟩
        obtain ⟨w4, hw4⟩ : ∃ w4, w4 = w3.alloc (.cells #[.int .i64 N, .int .i64 0, .int .i64 0, .bool false, .bool false] 31) := ⟨_, rfl⟩
        have b4 : Below wr.heap.size wr w4 := by rw [hw4]; exact b3.alloc b3.size _
        have S4 : Hid (Below w.heap.size w w4 ∧ Bd5 w4 w.heap.size 0) := ⟨hS.out.1.trans (b4.mono hS.out.1.size), hS.out.2.1.below b4⟩
        clear b3 b4 C x1 x2 x3 x4
        by_cases h0 : N = 0
        · have h0b : (N == 0) = true := by simpa using h0
          have S2 : Hid (badP (l.drop (i + 1)) (i + 1) = badP l 0) := by have := stH.out; rw [if_pos h0] at this; rw [← this]; exact hS.out.2.2
          have S5 : Hid (Below w.heap.size w w4 ∧ Bd5 w4 w.heap.size 0 ∧ badP (l.drop (i + 1)) (i + 1) = badP l 0) := ⟨S4.out.1, S4.out.2, S2.out⟩
          clear stH hS S2 S4 h0
          go_wp2_with fail
          rw [← hw4]
          exact ⟨⟨i + 1, by first | rfl | simp, by omega, S5⟩, by simp [intOf]; omega⟩
        · have h0b : (N == 0) = false := by simpa using h0
          have VV : Hid (V = .agg #[.int .i64 N, .int .i64 0, .int .i64 (i : Int), .bool false, .bool true]) := by
            have := stH.out; rw [if_neg h0] at this; rw [← hS.out.2.2, this] at hV2; exact hV2
          have cI : Hid _ := refinB (i : Int) N h0b w4
          clear stH hS h0
          go_wp2_with fail
          rw [← hw4]
          clear hw4
          refine Calls.mono cI.out ?_
          rintro e w5 ⟨rfl, b5⟩
          obtain ⟨k1, kf, k2, k3, k4, k5, k6⟩ := S4.out.2.below b5
          have kf0 := kf 0 (by omega)
          have kf1 := kf 1 (by omega)
          have kf2 := kf 2 (by omega)
          have kf3 := kf 3 (by omega)
          have kf4 := kf 4 (by omega)
          have fin := set5_below (S4.out.1.trans (b5.mono S4.out.1.size))
          have finH : Hid (∀ v0 v1 v2 v3 v4 : Value, Below w.heap.size w (((((w5.setCell ⟨w.heap.size, 0, none⟩ v0).setCell ⟨w.heap.size, 1, none⟩ v1).setCell ⟨w.heap.size, 2, none⟩ v2).setCell ⟨w.heap.size, 3, none⟩ v3).setCell ⟨w.heap.size, 4, none⟩ v4)) := fin
          clear b5 kf fin S4 cI
          go_wp2_with fail
          simp [bodyPost, results, Tryz.results11, go_sem, k2, k3, k4, k5, k6]
          exact ⟨VV.out.symm, finH.out _ _ _ _ _⟩
      · have iI : ¬ (i : Int) < (n : Int) := by omega
        have VV : Hid (V = .agg #[.int .i64 0, .int .i64 0, .int .i64 0, .bool false, .bool false]) := by
          have h2 := hS.out.2.2
          rw [List.drop_eq_nil_of_le (by rw [nH.out]; omega)] at h2
          rw [← h2] at hV2; exact hV2
        obtain ⟨k1, kf, k2, k3, k4, k5, k6⟩ := hS.out.2.1
        have kf0 := kf 0 (by omega)
        have kf1 := kf 1 (by omega)
        have kf2 := kf 2 (by omega)
        have kf3 := kf 3 (by omega)
        have kf4 := kf 4 (by omega)
        have fin := set5_below hS.out.1
        have finH : Hid (∀ v0 v1 v2 v3 v4 : Value, Below w.heap.size w (((((wr.setCell ⟨w.heap.size, 0, none⟩ v0).setCell ⟨w.heap.size, 1, none⟩ v1).setCell ⟨w.heap.size, 2, none⟩ v2).setCell ⟨w.heap.size, 3, none⟩ v3).setCell ⟨w.heap.size, 4, none⟩ v4)) := fin
        clear kf fin hS
        go_wp2_with fail
        simp [bodyPost, results, Tryz.results11, go_sem, k2, k3, k4, k5, k6]
        exact ⟨VV.out.symm, finH.out _ _ _ _ _⟩
end Go.Proofs.YtgodihhlpcnbiaaGreatDoor

namespace Go.Proofs.YtgodihhlpcnbiaaGreatDoor
open Go.RowKit _root_.Go.Proofs.YtgodihhlpcnbiaaGreatDoor.So
set_option linter.unusedVariables false
set_option linter.unusedSimpArgs false
/-- what points say. -/
def flW (p : PtP) (f : FdP) : WrP := ⟨⟨p.m, sortT p.t, f.1⟩, p.tm, 0, f.2⟩
def flatL (l : List PtP) : List WrP := l.flatMap fun p => p.f.map (flW p)
theorem flatL_app (l m : List PtP) : flatL (l ++ m) = flatL l ++ flatL m := by simp [flatL]
theorem flatL_take {l : List PtP} {i : Nat} {p : PtP} (h : l[i]? = some p) : flatL (l.take (i + 1)) = flatL (l.take i) ++ p.f.map (flW p) := by
  rw [List.take_add_one, h, Option.toList, flatL_app]; simp [flatL]
theorem flatL_few {l : List PtP} (h : ∀ p ∈ l, p.f.length ≤ 16) : (flatL l).length ≤ 16 * l.length := by
  induction l with
  | nil => simp [flatL]
  | cons p l ih =>
    have h1 := h p List.mem_cons_self
    have h2 := ih (fun q hq => h q (List.mem_cons_of_mem _ hq))
    rw [show flatL (p :: l) = p.f.map (flW p) ++ flatL l by simp [flatL], List.length_append, List.length_map, List.length_cons]; omega
theorem flatL_tags {l : List PtP} (h : ∀ p ∈ l, p.t.length ≤ 4398046511104) : ∀ x ∈ flatL l, x.s.t.length ≤ 4398046511104 := by
  intro x hx
  obtain ⟨p, hp, hx⟩ := List.mem_flatMap.1 hx
  obtain ⟨f, _, rfl⟩ := List.mem_map.1 hx
  exact Nat.le_trans (sortT_short p.t) (h p hp)
theorem right_few {p : PtP} (h : pointN p = 0) : p.f.length ≤ 16 := by
  unfold pointN at h
  split at h
  · split at h
    · split at h
      · rename_i hf
        unfold fieldsB at hf
        simp at hf
        omega
      · cases h
    · cases h
  · cases h
theorem sortedR_new {w w' : World} {e : Ending} {l : List TagP} (h : SortedR w w' e l) : ∃ a c, e = .returned (.slice a (sortT l).length c) ∧ TgIn w' a (sortT l) ∧ ∀ ad, a = some ad → w.heap.size ≤ ad.block := by
  rcases h with ⟨rfl, h⟩ | ⟨g, m, cap, G, h1, h2, h3, h4, h5⟩
  · exact ⟨none, 0, h, Or.inl rfl, fun ad q => by cases q⟩
  · refine ⟨some ⟨g, 0, none⟩, cap, ?_, by rw [← h5]; exact h4.tin, fun ad q => by cases q; exact h2⟩
    rw [h1, ← h5]; simp
/-- one more, and where the row lies then. -/
theorem app3W (W : World) (B : Nat) (v : Value) (L : List WrA) (h : OW2 W B v L) (hB : B ≤ W.heap.size) (t : WrA) (ht : SerIn W t.2.1 t.1.s) (htb : t.1.s.t ≠ [] → ∀ ad, t.2.1 = some ad → v.ownBlock ≠ some ad.block) (hn : L.length + 1 ≤ 1099511627776) :
    ∃ a c w', (Builtin.append_ #[35, 35] 35 #[v, .slice (some ⟨W.heap.size, 0, none⟩) 1 1]).run Tryz.prog (W.alloc (.cells #[.string t.1.s.m, .slice t.2.1 t.1.s.t.length t.2.2, .string t.1.s.f, .int .i64 t.1.tm, .int .u8 (t.1.kd : Int), .int .i64 t.1.n] 60)) = .ok (.slice a (L.length + 1) c) w' ∧ OW2 w' B (.slice a (L.length + 1) c) (L ++ [t]) ∧ Below B W w' ∧ W.grownBy w' v.ownBlock ∧ ∀ g, (Value.slice a (L.length + 1) c).ownBlock = some g → v.ownBlock = some g ∨ W.heap.size ≤ g := by
  obtain ⟨a, c, w', h1, h2, h3⟩ := app2W W B v L h hB t ht htb hn
  have b1 : Below W.heap.size W (W.alloc (.cells #[.string t.1.s.m, .slice t.2.1 t.1.s.t.length t.2.2, .string t.1.s.f, .int .i64 t.1.tm, .int .u8 (t.1.kd : Int), .int .i64 t.1.n] 60)) := (Below.refl _ W).alloc (Nat.le_refl _) _
  have ho2 := (h.1.below b1).1
  obtain ⟨i, i1, i0⟩ := Option.map_eq_some_iff.1 wr_info
  have i2 : i.zero = some (.agg #[.string ⟨#[]⟩, .slice none 0 0, .string ⟨#[]⟩, .int .i64 0, .int .u8 0, .int .i64 0]) := congrArg (·.1) i0
  have i3 : i.bytes = 80 := congrArg (·.2.1) i0
  have i4 : i.size = 6 := congrArg (·.2.2) i0
  have hml : maxLen = 9223372036854775807 := by decide
  have hB2 := Nat.le_trans hB b1.size
  obtain ⟨g, cap, w2, hr, own, gr, hat, hlt⟩ := run_append_lies (P := Tryz.prog) _ 35 35 B 60 i (.agg #[.string ⟨#[]⟩, .slice none 0 0, .string ⟨#[]⟩, .int .i64 0, .int .u8 0, .int .i64 0]) 6 80 Tryz.underlying35 i1 i2 i4 i3 rfl (by omega) v L.length (encW L) ho2 ⟨W.heap.size, 0, none⟩ 1 1 (encW [t]) rfl (fun j u hj => by
    rcases j with _ | _ | _ | _ | _ | _ | j <;> simp [encW] at hj <;> (try (subst hj; simp [go_sem]))) (encW_one _) (by omega) (by omega) (by omega) hB2 _ rfl
  rw [h1] at hr
  injection hr with e1 e2
  injection e1 with e3 e4 e5
  subst e2 e3 e5
  refine ⟨_, c, w', h1, h2, h3, ⟨gr.os, gr.tape, gr.output, Nat.le_trans b1.size gr.size, fun k hk hne => by rw [gr.block k (Nat.lt_of_lt_of_le hk b1.size) hne]; exact b1.block k hk⟩, fun g' hg' => ?_⟩
  have q1 : g = g' := by simpa [Value.ownBlock] using hg'
  subst q1
  rcases hat with e | e
  · exact Or.inl e
  · right; rw [e]; exact b1.size
/-- what stands while a point's fields are told. -/
structure FlI (w : World) (l : List PtP) (i : Nat) (p : PtP) (K M : Nat) (a' : Option Addr) (fa : Option Addr) (fc : Nat) (k : Nat) (v : Value) (L : List WrA) (wr : World) : Prop where
  bl : Below w.heap.size w wr
  row : OW2 wr w.heap.size v L
  is : L.map (·.1) = flatL (l.take i) ++ (p.f.take k).map (flW p)
  own : ∀ g, v.ownBlock = some g → g < K ∨ M ≤ g
  tg : TgIn wr a' (sortT p.t)
  ta : sortT p.t ≠ [] → ∀ ad, a' = some ad → K < ad.block ∧ ad.block < M
  hM : M ≤ wr.heap.size
  hK : K < M
  box : wr.cell? ⟨K, 0, none⟩ = some (.string p.m) ∧ wr.cell? ⟨K, 2, none⟩ = some (.slice fa p.f.length fc) ∧ wr.cell? ⟨K, 3, none⟩ = some (.int .i64 p.tm)
  kl : k ≤ p.f.length
  few : L.length ≤ 16 * i + k
theorem FlI.below {w : World} {l : List PtP} {i : Nat} {p : PtP} {K M : Nat} {a' fa : Option Addr} {fc k : Nat} {v : Value} {L : List WrA} {wr w' : World} (h : FlI w l i p K M a' fa fc k v L wr) (hB : Below wr.heap.size wr w') : FlI w l i p K M a' fa fc k v L w' := by
  have kl : K < wr.heap.size := Nat.lt_of_lt_of_le h.hK h.hM
  exact ⟨h.bl.trans (hB.mono h.bl.size), h.row.below hB, h.is, h.own, h.tg.below hB, h.ta, Nat.le_trans h.hM hB.size, h.hK, ⟨by rw [hB.cell (p := ⟨K, 0, none⟩) kl]; exact h.box.1, by rw [hB.cell (p := ⟨K, 2, none⟩) kl]; exact h.box.2.1, by rw [hB.cell (p := ⟨K, 3, none⟩) kl]; exact h.box.2.2⟩, h.kl, h.few⟩
theorem FlI.app {w : World} {l : List PtP} {i : Nat} {p : PtP} {K M : Nat} {a' fa : Option Addr} {fc k : Nat} {a3 : Option Addr} {z c3 : Nat} {L : List WrA} {W : World} (h : FlI w l i p K M a' fa fc k (.slice a3 z c3) L W) (c' : Nat) {f : FdP} (hf : p.f[k]? = some f) (hp : p.f.length ≤ 16) (hi : i ≤ 10000) (hpt : p.t.length ≤ 4398046511104) :
    ∃ a4 c4 w6 L4, (∀ W' N, W' = W.alloc (.cells #[.string p.m, .slice a' (sortT p.t).length c', .string f.1, .int .i64 p.tm, .int .u8 0, .int .i64 f.2] 60) → N = W.heap.size → (Builtin.append_ #[35, 35] 35 #[.slice a3 z c3, .slice (some ⟨N, 0, none⟩) 1 1]).run Tryz.prog W' = .ok (.slice a4 (z + 1) c4) w6) ∧ FlI w l i p K M a' fa fc (k + 1) (.slice a4 (z + 1) c4) L4 w6 := by
  have lz : L.length = z := by
    obtain ⟨_, _, e, _⟩ := h.row.1.win
    injection e with _ e _
    exact e.symm
  have hk : k < p.f.length := (List.getElem?_eq_some_iff.1 hf).1
  have hs := sortT_short p.t
  obtain ⟨a4, c4, w6, q1, q2, q3, q4, q5⟩ := app3W W w.heap.size (.slice a3 z c3) L h.row h.bl.size (flW p f, a', c') ⟨h.tg, show (sortT p.t).length ≤ 9223372036854775807 by omega⟩ (fun he ad had e => by
    have h1 := h.ta he ad had
    rcases h.own _ e with h2 | h2 <;> omega) (by have := h.few; omega)
  rw [lz] at q1 q2 q5
  have hKW : K < W.heap.size := Nat.lt_of_lt_of_le h.hK h.hM
  have keep : ∀ o, w6.cell? ⟨K, o, none⟩ = W.cell? ⟨K, o, none⟩ := fun o => by
    refine World.cell?_of_block (w := W) (a := ⟨K, o, none⟩) (q4.block K hKW (fun e => ?_))
    have hM := h.hM
    have hK := h.hK
    rcases h.own K e.symm with h2 | h2 <;> omega
  refine ⟨a4, c4, w6, _, fun W' N e e' => by subst e; subst e'; exact q1, ⟨h.bl.trans q3, q2, ?_, fun g hg => ?_, ?_, h.ta, Nat.le_trans h.hM q4.size, h.hK, ⟨by rw [keep]; exact h.box.1, by rw [keep]; exact h.box.2.1, by rw [keep]; exact h.box.2.2⟩, hk, by have := h.few; simp; omega⟩⟩
  · rw [List.map_append, h.is, List.take_add_one, hf, List.append_assoc]; simp
  · rcases q5 g hg with e | e
    · exact h.own g e
    · right; exact Nat.le_trans h.hM e
  · refine h.tg.grownW q4 (fun he ad had e => ?_)
    have h1 := h.ta he ad had
    rcases h.own _ e with h2 | h2 <;> omega
end Go.Proofs.YtgodihhlpcnbiaaGreatDoor

namespace Go.Proofs.YtgodihhlpcnbiaaGreatDoor
open Go.RowKit _root_.Go.Proofs.YtgodihhlpcnbiaaGreatDoor.So
set_option linter.unusedVariables false
set_option linter.unusedSimpArgs false
theorem odR_two {w0 w1 : World} {l : List WrP} {e : Ending} (h : OdR w0 w1 l e) : ∃ a z c, e = .returned (.slice a z c) ∧ z = (odD l).length ∧ z ≤ c ∧ WIn w1 a (odD l) ∧ Below w0.heap.size w0 w1 := by
  obtain ⟨a, z, c, L, rfl, o, i, b⟩ := h
  obtain ⟨a', c', e', hc, hw⟩ := o.slice
  injection e' with e1 e2 e3
  subst e1 e3
  rw [i] at hw
  refine ⟨a, z, c, rfl, ?_, by omega, hw, b⟩
  rw [← i, List.length_map]; exact e2
/-- what stands between two points. -/
structure FlO (w : World) (l : List PtP) (i : Nat) (v : Value) (L : List WrA) (wr : World) : Prop where
  bl : Below w.heap.size w wr
  row : OW2 wr w.heap.size v L
  is : L.map (·.1) = flatL (l.take i)
  few : L.length ≤ 16 * i
theorem FlO.start {w : World} {l : List PtP} {i : Nat} {p : PtP} {v : Value} {L : List WrA} {wr w2 w3 : World} (h : FlO w l i v L wr) (a' fa ta : Option Addr) (tc fc : Nat) (h2 : w2 = wr.alloc (.cells #[.string p.m, .slice ta p.t.length tc, .slice fa p.f.length fc, .int .i64 p.tm] 46)) (b3 : Below w2.heap.size w2 w3) (tg : TgIn w3 a' (sortT p.t)) (fr : ∀ ad, a' = some ad → w2.heap.size ≤ ad.block) : FlI w l i p wr.heap.size w3.heap.size a' fa fc 0 v L w3 := by
  have b2 : Below wr.heap.size wr w2 := by rw [h2]; exact (Below.refl _ wr).alloc (Nat.le_refl _) _
  have s2 : w2.heap.size = wr.heap.size + 1 := by rw [h2]; simp
  have B3 := b2.trans (b3.mono b2.size)
  have kl : wr.heap.size < w2.heap.size := by omega
  have z : w2.cell? ⟨wr.heap.size, 0, none⟩ = some (.string p.m) ∧ w2.cell? ⟨wr.heap.size, 2, none⟩ = some (.slice fa p.f.length fc) ∧ w2.cell? ⟨wr.heap.size, 3, none⟩ = some (.int .i64 p.tm) := by rw [h2]; simp [go_sem]
  refine ⟨h.bl.trans (B3.mono h.bl.size), h.row.below B3, by simpa using h.is, fun g hg => Or.inl (World.ownsRow.lt h.row.1.1 g hg).2, tg, fun hne ad had => ⟨by have := fr ad had; omega, ?_⟩, Nat.le_refl _, Nat.lt_of_lt_of_le kl b3.size, ⟨by rw [b3.cell (p := ⟨wr.heap.size, 0, none⟩) kl]; exact z.1, by rw [b3.cell (p := ⟨wr.heap.size, 2, none⟩) kl]; exact z.2.1, by rw [b3.cell (p := ⟨wr.heap.size, 3, none⟩) kl]; exact z.2.2⟩, Nat.zero_le _, by have := h.few; omega⟩
  rcases tg with e | ⟨b, off, e, hb, _⟩
  · exact absurd e hne
  · rw [had] at e; injection e with e; rw [e]; exact hb
theorem FlI.done {w : World} {l : List PtP} {i : Nat} {p : PtP} {K M : Nat} {a' fa : Option Addr} {fc : Nat} {v : Value} {L : List WrA} {wr : World} (h : FlI w l i p K M a' fa fc p.f.length v L wr) (hp : l[i]? = some p) (h16 : p.f.length ≤ 16) : FlO w l (i + 1) v L wr := ⟨h.bl, h.row, by rw [flatL_take hp, h.is, List.take_length], by have := h.few; omega⟩
/-- what Flat tells of points that are right. -/
def FlaR (w w' : World) (l : List PtP) (e : Ending) : Prop := ∃ a z c, e = .returned (.tuple #[.slice a z c, .nilIface]) ∧ z = (odD (flatL l)).length ∧ z ≤ c ∧ WIn w' a (odD (flatL l)) ∧ Below w.heap.size w w'
set_option maxRecDepth 100000 in
set_option maxHeartbeats 8000000 in
theorem flat_ok (a : Option Addr) (c : Nat) (l : List PtP) (w : World) (hl : PsIn w a l) (hok : chkOk l) (hpt : ∀ p ∈ l, p.t.length ≤ 4398046511104) (hT : UT w) :
    Calls Tryz.prog 13 #[.slice a l.length c] w fun e w' => FlaR w w' l e := by
  obtain ⟨n, hnl⟩ : ∃ n, l.length = n := ⟨_, rfl⟩
  have nH : Hid (l.length = n) := hnl
  have lH : Hid (PsIn w a l) := hl
  have h16 : Hid (∀ p ∈ l, p.f.length ≤ 16) := fun p hp => right_few (badP_none hok.2 p hp)
  have hptH : Hid (∀ p ∈ l, p.t.length ≤ 4398046511104) := hpt
  have n4 : n ≤ 10000 := by rw [← hnl]; exact hok.1
  have C0 : Hid (Calls Tryz.prog 10 #[.slice a l.length c] w fun e w' => e = .returned .nilIface ∧ Below w.heap.size w w') := by
    have := check_any a c l w hl (by omega) hT
    rw [chkV_ok hok] at this
    exact this
  have cS : Hid (∀ W ta tc p, p ∈ l → TgIn W ta p.t → Calls Tryz.prog 26 #[.slice ta p.t.length tc] W fun e w' => ∃ a' c', e = .returned (.slice a' (sortT p.t).length c') ∧ TgIn w' a' (sortT p.t) ∧ (∀ ad, a' = some ad → W.heap.size ≤ ad.block) ∧ Below W.heap.size W w') := fun W ta tc p hp ht => (sort_any ta tc p.t W ht (hpt p hp)).mono fun e w' h => by
    obtain ⟨a', c', e1, e2, e3⟩ := sortedR_new h.1
    exact ⟨a', c', e1, e2, e3, h.2⟩
  have cO : Hid (∀ (W : World) (v : Value) (a3 : Option Addr) (z c3 : Nat) (L : List WrA), v = .slice a3 z c3 → FlO w l n v L W → Calls Tryz.prog 27 #[.slice a3 z c3] W fun e w' => ∃ a z c, e = .returned (.slice a z c) ∧ z = (odD (flatL l)).length ∧ z ≤ c ∧ WIn w' a (odD (flatL l)) ∧ Below w.heap.size w w') := fun W v a3 z c3 L e h => by
    subst e
    have hi := h.is
    rw [← nH.out, List.take_length] at hi
    obtain ⟨a4, c4, e4, _, hw⟩ := h.row.slice
    injection e4 with e5 e6 e7
    subst e5 e7
    rw [hi] at hw
    have lL : z = (flatL l).length := by rw [← hi, List.length_map]; exact e6
    rw [lL]
    have hf := flatL_few h16.out
    refine (orderD a3 c3 (flatL l) W hw (by rw [nH.out] at hf; omega) (flatL_tags hpt)).mono fun e w' hh => ?_
    obtain ⟨a5, z5, c5, q1, q2, q3, q4, q5⟩ := odR_two hh
    exact ⟨a5, z5, c5, q1, q2, q3, q4, h.bl.trans (q5.mono h.bl.size)⟩
  rw [hnl] at C0 ⊢
  clear hl hok hpt hT hnl
  go_enter Tryz.func13, Tryz.ntmps13
  go_wp2_with fail
  refine Calls.mono C0.out ?_
  rintro e w1 ⟨rfl, b1⟩
  have S0 : Hid (FlO w l 0 (.slice none 0 0) [] w1) := ⟨b1, OW2.nil _ _, by simp [flatL], by simp⟩
  clear b1 C0
  go_wp2_with fail
  go_loopw [5, 18] (fun v5 v18 wr => ∃ (i : Nat) (a3 : Option Addr) (z c3 : Nat) (L : List WrA), v5 = .slice a3 z c3 ∧ v18 = .int .i64 (i : Int) ∧ i ≤ n ∧ Hid (FlO w l i (.slice a3 z c3) L wr)) (fun _ v _ => n - (intOf v).toNat)
  case atStart => exact ⟨0, none, 0, 0, [], rfl, rfl, Nat.zero_le _, S0⟩
  case round =>
    clear S0
    obtain ⟨i, a3, z, c3, L, rfl, rfl, il, hS⟩ := hrel
    have i0 : (0 : Int) ≤ (i : Int) := by omega
    have wi : IntKind.i64.wrap ((i : Int) + 1) = ((i + 1 : Nat) : Int) := IntWalk.i64_in _ (by omega)
    by_cases hi : i < n
    · have iI : (i : Int) < (n : Int) := by omega
      obtain ⟨p, hp⟩ := psome (l := l) (k := i) (by rw [nH.out]; exact hi)
      have hpm := List.mem_of_getElem? hp
      have p16 := h16.out p hpm
      have ppt := hptH.out p hpm
      obtain ⟨b, off, ta, tc, fa, fc, e1, hbx, ax, fx⟩ := lH.out.at hS.out.bl hp
      subst e1
      obtain ⟨K, hK⟩ : ∃ K, K = wr.heap.size := ⟨_, rfl⟩
      obtain ⟨w2, hw2⟩ : ∃ w2, w2 = wr.alloc (.cells #[.string p.m, .slice ta p.t.length tc, .slice fa p.f.length fc, .int .i64 p.tm] 46) := ⟨_, rfl⟩
      have b2 : Below w.heap.size w w2 := by rw [hw2]; exact hS.out.bl.alloc hS.out.bl.size _
      have C1 : Hid _ := cS.out w2 ta tc p hpm (fx w2 b2).2.1
      have st : Hid (∀ (w3 : World) (a' : Option Addr), Below w2.heap.size w2 w3 → TgIn w3 a' (sortT p.t) → (∀ ad, a' = some ad → w2.heap.size ≤ ad.block) → FlI w l i p K w3.heap.size a' fa fc 0 (.slice a3 z c3) L w3) := fun w3 a' q1 q2 q3 => by rw [hK]; exact hS.out.start a' fa ta tc fc hw2 q1 q2 q3
      have fd : Hid (∀ W, Below w.heap.size w W → FdIn W fa p.f) := fun W hW => (fx W hW).2.2.2.1
      have fdc : Hid (p.f.length ≤ fc) := (fx w2 b2).2.2.2.2.2
      have dn : Hid (∀ (M : Nat) (a' : Option Addr) (v : Value) (L : List WrA) (wx : World), FlI w l i p K M a' fa fc p.f.length v L wx → FlO w l (i + 1) v L wx) := fun M a' v L wx h => h.done hp p16
      have ap : Hid (∀ (M : Nat) (a' : Option Addr) (c' k : Nat) (a4 : Option Addr) (z4 c4 : Nat) (L : List WrA) (W : World) (f : FdP), FlI w l i p K M a' fa fc k (.slice a4 z4 c4) L W → p.f[k]? = some f → _) := fun M a' c' k a4 z4 c4 L W f h hf => h.app c' hf p16 (by omega) ppt
      clear fx b2 hbx hp hpm ppt hS
      unfold PAt at ax
      obtain ⟨nf, hnf⟩ : ∃ nf, nf = p.f.length := ⟨_, rfl⟩
      have nfH : Hid (nf = p.f.length) := hnf
      obtain ⟨pm, hpm⟩ : ∃ pm, pm = p.m := ⟨_, rfl⟩
      have z1 : w2.cell? ⟨K, 1, none⟩ = some (.slice ta p.t.length tc) := by rw [hw2, hK]; simp [go_sem]
      rw [← hnf] at ax hw2 p16
      obtain ⟨nt, hnt⟩ : ∃ nt, nt = p.t.length := ⟨_, rfl⟩
      rw [← hnt] at ax hw2 z1 C1
      clear hnf hnt hpm
      obtain ⟨x1, x2, x3, x4⟩ := ax
      go_wp2_with fail
      rw [← hw2, ← hK]
      clear hw2 hK x1 x2 x3 x4 z1
      refine Calls.mono C1.out ?_
      rintro e w3 ⟨a', c', rfl, t3, f3, b3⟩
      have I0 : Hid (FlI w l i p K w3.heap.size a' fa fc 0 (.slice a3 z c3) L w3) := st.out w3 a' b3 t3 f3
      obtain ⟨M, hM⟩ : ∃ M, M = w3.heap.size := ⟨_, rfl⟩
      rw [← hM] at I0
      have z2 := I0.out.box.2.1
      rw [← nfH.out] at z2
      clear b3 t3 f3 C1 st hM
      go_wp2_with fail
      clear z2
      go_loopw [5, 28] (fun v5 v28 wx => ∃ (k : Nat) (a3 : Option Addr) (z c3 : Nat) (L : List WrA), v5 = .slice a3 z c3 ∧ v28 = .int .i64 (k : Int) ∧ k ≤ nf ∧ Hid (FlI w l i p K M a' fa fc k (.slice a3 z c3) L wx)) (fun _ v _ => nf - (intOf v).toNat)
      case atStart => exact ⟨0, a3, z, c3, L, rfl, rfl, Nat.zero_le _, I0⟩
      case round =>
        clear I0
        obtain ⟨k, a4, z4, c4, L4, rfl, rfl, kl, hI⟩ := hrel
        have k0 : (0 : Int) ≤ (k : Int) := by omega
        have wk : IntKind.i64.wrap ((k : Int) + 1) = ((k + 1 : Nat) : Int) := IntWalk.i64_in _ (by omega)
        by_cases hk : k < nf
        · have kI : (k : Int) < (nf : Int) := by omega
          obtain ⟨f, hf⟩ : ∃ f, p.f[k]? = some f := ⟨_, List.getElem?_eq_getElem (by rw [← nfH.out]; exact hk)⟩
          obtain ⟨fb, fo, ef, hfb, y0, y1⟩ := (fd.out wr hI.out.bl).at (Below.refl _ _) hf
          subst ef
          obtain ⟨w5, hw5⟩ : ∃ w5, w5 = wr.alloc (.cells #[.string f.1, .int .i64 f.2] 51) := ⟨_, rfl⟩
          have b5 : Below wr.heap.size wr w5 := by rw [hw5]; exact (Below.refl _ wr).alloc (Nat.le_refl _) _
          obtain ⟨a6, c6, w6, L6, r6, I6⟩ := ap.out M a' c' k a4 z4 c4 L4 w5 f (hI.out.below b5) hf
          have rH : Hid (∀ W' N, W' = w5.alloc (.cells #[.string p.m, .slice a' (sortT p.t).length c', .string f.1, .int .i64 p.tm, .int .u8 0, .int .i64 f.2] 60) → N = w5.heap.size → (Builtin.append_ #[35, 35] 35 #[.slice a4 z4 c4, .slice (some ⟨N, 0, none⟩) 1 1]).run Tryz.prog W' = .ok (.slice a6 (z4 + 1) c6) w6) := r6
          have I6H : Hid (FlI w l i p K M a' (some ⟨fb, fo, none⟩) fc (k + 1) (.slice a6 (z4 + 1) c6) L6 w6) := I6
          obtain ⟨p0, _, p3⟩ := hI.out.box
          have Kl : K < wr.heap.size := Nat.lt_of_lt_of_le hI.out.hK hI.out.hM
          have Kn : ¬ K = wr.heap.size := Nat.ne_of_lt Kl
          clear r6 I6 b5 hI hf
          generalize (sortT p.t).length = ns at *
          subst hw5
          go_wp2_with (at_builtin; refine wpList_append_runB (by rfl) _ _ _ (by rfl) _ _ _ _ (by rfl) (by rfl) (rH.out _ _ (by first | rfl | simp) (by first | rfl | simp)) ?_)
          exact ⟨⟨k + 1, a6, z4 + 1, c6, L6, rfl, by first | rfl | simp, by omega, I6H⟩, by simp [intOf]; omega⟩
        · have kI : ¬ (k : Int) < (nf : Int) := by omega
          have hO : Hid (FlO w l (i + 1) (.slice a4 z4 c4) L4 wr) := by
            have ek : k = p.f.length := by rw [← nfH.out]; omega
            have := hI.out
            rw [ek] at this
            exact dn.out _ _ _ _ _ this
          clear hI
          go_wp2_with fail
          exact ⟨⟨i + 1, a4, z4, c4, L4, rfl, by first | rfl | simp, by omega, hO⟩, by simp [intOf]; omega⟩
    · have iI : ¬ (i : Int) < (n : Int) := by omega
      obtain rfl : i = n := by omega
      have C : Hid _ := cO.out wr _ a3 z c3 L rfl hS.out
      clear hS
      go_wp2_with fail
      refine Calls.mono C.out ?_
      rintro e w9 ⟨a5, z5, c5, rfl, r⟩
      have fin : Hid (FlaR w w9 l (.returned (.tuple #[.slice a5 z5 c5, .nilIface]))) := ⟨a5, z5, c5, rfl, r⟩
      clear r C
      go_wp2_with fail
      go_ret2
      exact fin.out
end Go.Proofs.YtgodihhlpcnbiaaGreatDoor
