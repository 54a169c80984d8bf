
import Derived.Test.YteckdodmddmijaaGreatDoorLyHq
import Derived.Test.YteckdodmddmijaaGreatDoorLaI
namespace Go.Proofs.YteckdodmddmijaaGreatDoor.Ln
open Go.RowKit Go.Shelf
attribute [local go_sem] Oper.semAt_some
set_option linter.unusedVariables false
set_option linter.unusedSimpArgs false
set_option maxRecDepth 100000
/-! ### LineParses. -/
def parP (l : By) : List PtP := match parO l with | .ok ps => ps.map ptB | .error _ => []
def parE (l : By) : Value := match parO l with | .ok _ => .nilIface | .error x => .iface 109 (.agg #[.int .i64 (x.1 : Int), errL x.2])
def parB (l : By) : Value := match parO l with | .ok _ => .agg #[.int .i64 0, .int .i64 0, .int .i64 0, .bool false, .bool false] | .error x => inB (x.1 : Int) x.2
theorem row_P {W : World} {B : Nat} {v : Value} {L : List PtQ} {P : List PtP} (h : OPl W B v L) (e : L.map (·.p) = P) : ∃ a c, v = .slice a P.length c ∧ PsIn W a P := by
  obtain ⟨a, c, ev, hp⟩ := h.psIn
  subst e
  exact ⟨a, c, by rw [List.length_map]; exact ev, hp⟩
theorem parse_P (s : ByteArray) (w : World) (hg : LT w) (hs : s.size ≤ 1048576) : Calls Tryz.prog 15 #[.string s] w fun e w' => ∃ a c, e = .returned (.tuple #[.slice a (parP s.data.toList).length c, parE s.data.toList]) ∧ PsIn w' a (parP s.data.toList) ∧ Below w.heap.size w w' := by
  refine (parse_l s w hg hs).mono ?_
  intro e w' h
  unfold EndP at h
  unfold parP parE
  cases ho : parO s.data.toList with
  | ok ps =>
    rw [ho] at h
    obtain ⟨v, L, e1, h1, h2, hb⟩ := h
    obtain ⟨a, c, ev, hp⟩ := row_P h1 h2
    exact ⟨a, c, by rw [e1, ev], hp, hb⟩
  | error x =>
    rw [ho] at h
    exact ⟨none, 0, h.1, Or.inl rfl, h.2⟩
theorem rparse_P (s : ByteArray) (w : World) (hg : LT w) (hs : s.size ≤ 1048576) : Calls Tryz.prog 16 #[.string s] w fun e w' => ∃ a c, e = .returned (.tuple #[.slice a (parP s.data.toList).length c, parB s.data.toList]) ∧ PsIn w' a (parP s.data.toList) ∧ Below w.heap.size w w' := by
  refine (rparse_l s w hg hs).mono ?_
  intro e w' h
  unfold EndG at h
  unfold parP parB
  cases ho : parO s.data.toList with
  | ok ps =>
    rw [ho] at h
    obtain ⟨v, L, e1, h1, h2, hb⟩ := h
    obtain ⟨a, c, ev, hp⟩ := row_P h1 h2
    exact ⟨a, c, by rw [e1, ev], hp, hb⟩
  | error x =>
    rw [ho] at h
    exact ⟨none, 0, h.1, Or.inl rfl, h.2⟩
theorem same_In (n : Int) (q : Option Int) (w : World) (hg : ET w) : Calls Tryz.prog 12 #[.iface 109 (.agg #[.int .i64 n, errL q]), inB n q] w fun e w' => e = .returned (.bool true) ∧ Below w.heap.size w w' := by
  cases q with
  | none => exact sameC_miss_hit [(true, n)] 6 rfl rfl n [] rfl w hg
  | some p => exact sameC_hit_hit [(true, n), (false, p)] 60 rfl p [] rfl n [(false, p)] rfl w hg
theorem same_P (l : By) (w : World) (hg : ET w) : Calls Tryz.prog 12 #[parE l, parB l] w fun e w' => e = .returned (.bool true) ∧ Below w.heap.size w w' := by
  unfold parE parB
  cases parO l with
  | ok p => exact same_nilW w
  | error x => exact same_In (x.1 : Int) x.2 w hg
theorem parB_cells (l : By) : ∃ c a b : Int, ∃ x y : Bool, parB l = .agg #[.int .i64 c, .int .i64 a, .int .i64 b, .bool x, .bool y] := by
  unfold parB
  cases parO l with
  | ok p => exact ⟨0, 0, 0, false, false, rfl⟩
  | error x =>
    obtain ⟨n, q⟩ := x
    cases q with
    | none => exact ⟨6, 0, _, false, true, rfl⟩
    | some p => exact ⟨60, p, _, true, true, rfl⟩
theorem parE_one (l : By) : (parE l).oneCell' = true := by
  unfold parE
  cases parO l with
  | ok p => rfl
  | error x => obtain ⟨n, q⟩ := x; cases q <;> rfl
theorem parP_few (l : By) (hl : l.length ≤ 1048576) : (parP l).length ≤ 4611686018427387904 := by
  have run_few : ∀ (xs : List (Nat × By)) (acc ps : List Pt), runA acc xs = .ok ps → ps.length ≤ acc.length + xs.length := by
    intro xs
    induction xs with
    | nil => intro acc ps h; unfold runA at h; injection h with h; subst h; simp
    | cons x r ih =>
      intro acc ps h
      rw [runA_cons] at h
      split at h
      · have := ih acc ps h; simp; omega
      · split at h
        · cases h
        · have := ih _ ps h; simp at this ⊢; omega
  have lines_few : ∀ (f n : Nat) (l : By), (linesB f n l).length ≤ f := by
    intro f
    induction f with
    | zero => intro n l; exact Nat.le_refl _
    | succ f ih =>
      intro n l
      unfold linesB
      split
      · simp
      · simp; exact ih _ _
  unfold parP
  cases ho : parO l with
  | error x => simp
  | ok ps =>
    unfold parO at ho
    have h1 := run_few _ _ _ ho
    have h2 := lines_few l.length 0 l
    simp at h1 ⊢
    omega
set_option maxHeartbeats 8000000 in
theorem lineParses_walk (s : ByteArray) (w : World) (hg : LT w) (hs : s.size ≤ 1048576) : Calls Tryz.prog 4 #[.string s] w fun e w' => e = .returned (.bool true) ∧ Below w.heap.size w w' := by
  have cL : Hid (Calls Tryz.prog 9 #[] w fun e w' => e = .returned (.bool true) ∧ Below w.heap.size w w') := live_l w hg
  have hlen := lenB s
  obtain ⟨P, hP⟩ : ∃ P, parP s.data.toList = P := ⟨_, rfl⟩
  obtain ⟨E, hE⟩ : ∃ E, parE s.data.toList = E := ⟨_, rfl⟩
  obtain ⟨c, a, b, x, y, hBd⟩ := parB_cells s.data.toList
  have cO : Hid (∀ W, Below w.heap.size w W → Calls Tryz.prog 15 #[.string s] W fun e w' => ∃ a c, e = .returned (.tuple #[.slice a P.length c, E]) ∧ PsIn w' a P ∧ Below w.heap.size w w') := fun W h => by
    have := parse_P s W (hg.on h) hs
    rw [hP, hE] at this
    exact this.mono fun e w' ⟨a, c, x1, x2, x3⟩ => ⟨a, c, x1, x2, h.trans (x3.mono h.size)⟩
  have cR : Hid (∀ W, Below w.heap.size w W → Calls Tryz.prog 16 #[.string s] W fun e w' => ∃ a2 c2, e = .returned (.tuple #[.slice a2 P.length c2, .agg #[.int .i64 c, .int .i64 a, .int .i64 b, .bool x, .bool y]]) ∧ PsIn w' a2 P ∧ Below W.heap.size W w') := fun W h => by have := rparse_P s W (hg.on h) hs; rw [hP, hBd] at this; exact this
  have cS : Hid (∀ W, Below w.heap.size w W → Calls Tryz.prog 12 #[E, .agg #[.int .i64 c, .int .i64 a, .int .i64 b, .bool x, .bool y]] W fun e w' => e = .returned (.bool true) ∧ Below W.heap.size W w') := fun W h => by have := same_P s.data.toList W (hg.on h).et; rw [hE, hBd] at this; exact this
  have hfew : P.length ≤ 4611686018427387904 := by rw [← hP]; exact parP_few _ (by omega)
  have cP : Hid (∀ a a2 c c2 W, PsIn W a P → PsIn W a2 P → Calls Tryz.prog 13 #[.slice a P.length c, .slice a2 P.length c2] W fun e w' => e = .returned (.bool true) ∧ Below W.heap.size W w') := fun a a2 c c2 W h1 h2 => (samePts_l P _ _ c c2 W h1 h2 hfew).mono fun e w' ⟨e1, q, e2⟩ => ⟨e1, by rw [e2]; exact belowQ W q⟩
  have inB2 : Hid (∀ a (W W' : World), PsIn W a P → Below W.heap.size W W' → PsIn W' a P) := fun a W W' h b => h.below b
  clear hP hE hBd hg hs hfew hlen
  generalize P.length = np at *
  go_enter Tryz.func4, Tryz.ntmps4
  go_wp2_with fail
  refine Calls.mono cL.out ?_
  rintro e w1 ⟨rfl, B1⟩
  go_wp2_with fail
  refine Calls.mono (cO.out _ B1) ?_
  rintro e w2 ⟨a1, c1, rfl, hp2, B2⟩
  have B2H : Hid (Below w.heap.size w w2) := B2
  have hp2H : Hid (PsIn w2 a1 P) := hp2
  clear B1 B2 hp2
  go_wp2_with fail
  refine Calls.mono (cR.out _ B2H.out) ?_
  rintro e w3 ⟨a2, c2, rfl, hp3, B3⟩
  obtain ⟨W4, hW4⟩ : ∃ W4, w3.alloc (.cells #[.int .i64 c, .int .i64 a, .int .i64 b, .bool x, .bool y] 33) = W4 := ⟨_, rfl⟩
  have B4 : Below w3.heap.size w3 W4 := by rw [← hW4]; exact (Below.refl _ w3).alloc (Nat.le_refl _) _
  have st4 : Hid (PsIn W4 a1 P ∧ PsIn W4 a2 P ∧ Below w.heap.size w W4) := ⟨inB2.out _ _ _ (inB2.out _ _ _ hp2H.out B3) B4, inB2.out _ _ _ hp3 B4, (B2H.out.trans (B3.mono B2H.out.size)).trans (B4.mono (by have := B2H.out.size; have := B3.size; omega))⟩
  have hW4H : Hid (w3.alloc (.cells #[.int .i64 c, .int .i64 a, .int .i64 b, .bool x, .bool y] 33) = W4) := hW4
  clear hW4 B3 B4 hp3
  go_wp2_with fail
  rw [hW4H.out]
  refine Calls.mono (cS.out _ st4.out.2.2) ?_
  rintro e w5 ⟨rfl, B5⟩
  have st5 : Hid (PsIn w5 a1 P ∧ PsIn w5 a2 P ∧ Below w.heap.size w w5) := ⟨inB2.out _ _ _ st4.out.1 B5, inB2.out _ _ _ st4.out.2.1 B5, st4.out.2.2.trans (B5.mono st4.out.2.2.size)⟩
  clear B5
  go_wp2_with fail
  refine Calls.mono (cP.out _ _ _ _ _ st5.out.1 st5.out.2.1) ?_
  rintro e w6 ⟨rfl, B6⟩
  have b6 : Hid (Below w.heap.size w w6) := st5.out.2.2.trans (B6.mono st5.out.2.2.size)
  clear B6
  go_wp2_with fail
  go_ret
  exact ⟨rfl, b6.out⟩
end Go.Proofs.YteckdodmddmijaaGreatDoor.Ln
