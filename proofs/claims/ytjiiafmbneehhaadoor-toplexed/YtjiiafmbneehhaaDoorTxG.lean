
import Derived.Test.YtjiiafmbneehhaaDoorTxF
import Derived.Test.YtjiiafmbneehhaaDoorSpN
namespace Go.Proofs.YtjiiafmbneehhaaDoor.Lx
open Go.RowKit Go.Shelf
set_option linter.unusedVariables false
set_option linter.unusedSimpArgs false
set_option maxRecDepth 100000
/-- what a row that begins with a digit says. -/
def nmL : NmF := fun x => match Lib.parseIntB 64 x with
  | .ok v => some (4, v)
  | _ => if spE x = 0 then some (5, spV x) else none
theorem nm_45 : ∀ x k n, nmL x = some (k, n) → k = 4 ∨ k = 5 := by
  intro x k n h
  unfold nmL at h
  split at h
  · injection h with h; injection h with h1 h2; exact Or.inl h1.symm
  · split at h
    · injection h with h; injection h with h1 h2; exact Or.inr h1.symm
    · cases h
/-- the variables that lexing reads. -/
structure PT (w : World) : Prop where
  us : UT w
  lu : 0 < w.heap.size
  es : ∃ ev, w.cell? ⟨2, 0, none⟩ = some ev ∧ (ev = .nilIface ∨ ∃ te pe, ev = .iface te pe)
  ls : 2 < w.heap.size
  er : ∃ ev, w.cell? ⟨3, 0, none⟩ = some ev ∧ (ev = .nilIface ∨ ∃ te pe, ev = .iface te pe)
  lr : 3 < w.heap.size
theorem ut_of {w w' : World} (c : ∀ o, w'.cell? ⟨0, o, none⟩ = w.cell? ⟨0, o, none⟩) (u : UT w) : UT w' := by
  constructor <;> (rw [c]; first | exact u.n0 | exact u.z0 | exact u.n1 | exact u.z1 | exact u.n2 | exact u.z2 | exact u.n3 | exact u.z3 | exact u.n4 | exact u.z4 | exact u.n5 | exact u.z5 | exact u.n6 | exact u.z6 | exact u.n7 | exact u.z7)
theorem PT.below {w w' : World} {n : Nat} (h : PT w) (hb : Below n w w') (hn : 0 < n ∧ 2 < n ∧ 3 < n) : PT w' := by
  obtain ⟨e1, a1, b1⟩ := h.es
  obtain ⟨e2, a2, b2⟩ := h.er
  refine ⟨?_, Nat.lt_of_lt_of_le h.lu hb.size, ⟨e1, by rw [hb.cell (p := ⟨2, 0, none⟩) hn.2.1]; exact a1, b1⟩, Nat.lt_of_lt_of_le h.ls hb.size, ⟨e2, by rw [hb.cell (p := ⟨3, 0, none⟩) hn.2.2]; exact a2, b2⟩, Nat.lt_of_lt_of_le h.lr hb.size⟩
  have c : ∀ o, w'.cell? ⟨0, o, none⟩ = w.cell? ⟨0, o, none⟩ := fun o => hb.cell (p := ⟨0, o, none⟩) hn.1
  have u := h.us
  exact ut_of c u
theorem PT.on {w w' : World} (h : PT w) (hb : Below w.heap.size w w') : PT w' := h.below hb ⟨h.lu, h.ls, h.lr⟩
/-- strconv.ParseInt of any text. -/
def PV (l : List UInt8) : Int × Bool := match Lib.parseIntB 64 l with
  | .ok v => (v, true)
  | .syntax => (0, false)
  | .range => (Lib.intSat 64 l, false)
theorem pint_any (T : ByteArray) (hT : T.size ≤ 1048576) (w : World) (h : PT w) : Calls Tryd.prog 23 #[.string T, .int .i64 10, .int .i64 64] w fun e w' => (∃ ev, e = .returned (.tuple #[.int .i64 (PV (bL T)).1, ev]) ∧ (if (PV (bL T)).2 = true then ev = .nilIface else ∃ t p, ev = .iface t p)) ∧ Below w.heap.size w w' := by
  unfold PV bL
  cases hp : Lib.parseIntB 64 T.data.toList with
  | ok v =>
    refine (Tryd.strconv_ParseInt_10_at64_ok T (by omega) v hp w).mono ?_
    rintro e w' ⟨rfl, hw⟩
    refine ⟨⟨_, rfl, rfl⟩, ?_⟩
    rcases hw with rfl | ⟨t, rfl⟩
    · exact Below.refl _ _
    · exact Lib.bytesWorld_below _ _ _
  | «syntax» =>
    obtain ⟨ev, a1, b1⟩ := h.es
    refine (Tryd.strconv_ParseInt_10_at64_syntax T (by omega) hp ev w a1 b1).mono ?_
    rintro e w' ⟨M, rfl, _, _, hb⟩
    exact ⟨⟨_, rfl, ⟨_, _, rfl⟩⟩, hb⟩
  | range =>
    obtain ⟨ev, a1, b1⟩ := h.er
    refine (Tryd.strconv_ParseInt_10_at64_range T (by omega) hp ev w a1 b1).mono ?_
    rintro e w' ⟨M, rfl, _, _, hb⟩
    exact ⟨⟨_, rfl, ⟨_, _, rfl⟩⟩, hb⟩
/-- a box of four cells that may be written. -/
structure KV (N : Nat) (a b c d : Value) (W : World) : Prop where
  k0 : W.cell? ⟨N, 0, none⟩ = some a
  k1 : W.cell? ⟨N, 1, none⟩ = some b
  k2 : W.cell? ⟨N, 2, none⟩ = some c
  k3 : W.cell? ⟨N, 3, none⟩ = some d
  z0 : W.frozen? ⟨N, 0, none⟩ = false
  z1 : W.frozen? ⟨N, 1, none⟩ = false
  z2 : W.frozen? ⟨N, 2, none⟩ = false
  z3 : W.frozen? ⟨N, 3, none⟩ = false
  lt : N < W.heap.size
theorem KV.below {N m : Nat} {a b c d : Value} {W W' : World} (h : KV N a b c d W) (hb : Below m W W') (hN : N < m) : KV N a b c d W' := by
  have c : ∀ o, W'.cell? ⟨N, o, none⟩ = W.cell? ⟨N, o, none⟩ := fun o => hb.cell (p := ⟨N, o, none⟩) hN
  have z : ∀ o, W'.frozen? ⟨N, o, none⟩ = W.frozen? ⟨N, o, none⟩ := fun o => hb.frozen (p := ⟨N, o, none⟩) hN
  exact ⟨by rw [c]; exact h.k0, by rw [c]; exact h.k1, by rw [c]; exact h.k2, by rw [c]; exact h.k3, by rw [z]; exact h.z0, by rw [z]; exact h.z1, by rw [z]; exact h.z2, by rw [z]; exact h.z3, Nat.lt_of_lt_of_le h.lt hb.size⟩
theorem KV.new (w : World) (a b c d : Value) : KV w.heap.size a b c d (w.alloc (.cells #[a, b, c, d] 29)) := by
  refine ⟨?_, ?_, ?_, ?_, ?_, ?_, ?_, ?_, ?_⟩ <;> simp [go_sem]
theorem KV.other {N : Nat} {a b c d : Value} {W : World} (h : KV N a b c d W) (M j : Nat) (v : Value) (hM : M ≠ N) : KV N a b c d (W.setCell ⟨M, j, none⟩ v) := by
  have c : ∀ o, (W.setCell ⟨M, j, none⟩ v).cell? ⟨N, o, none⟩ = W.cell? ⟨N, o, none⟩ := fun o => World.cell?_setCell_other _ _ _ _ (by intro e; injection e; omega)
  have z : ∀ o, (W.setCell ⟨M, j, none⟩ v).frozen? ⟨N, o, none⟩ = W.frozen? ⟨N, o, none⟩ := fun o => by simp
  exact ⟨by rw [c]; exact h.k0, by rw [c]; exact h.k1, by rw [c]; exact h.k2, by rw [c]; exact h.k3, by rw [z]; exact h.z0, by rw [z]; exact h.z1, by rw [z]; exact h.z2, by rw [z]; exact h.z3, by simpa using h.lt⟩
theorem KV.set0 {N : Nat} {a b c d : Value} {W : World} (h : KV N a b c d W) (v : Value) : KV N v b c d (W.setCell ⟨N, 0, none⟩ v) := by
  have c : ∀ o, o ≠ 0 → (W.setCell ⟨N, 0, none⟩ v).cell? ⟨N, o, none⟩ = W.cell? ⟨N, o, none⟩ := fun o ho => World.cell?_setCell_other _ _ _ _ (by intro e; injection e; omega)
  have z : ∀ o, (W.setCell ⟨N, 0, none⟩ v).frozen? ⟨N, o, none⟩ = W.frozen? ⟨N, o, none⟩ := fun o => by simp
  exact ⟨World.cell?_setCell_same _ _ _ h.k0, by rw [c 1 (by omega)]; exact h.k1, by rw [c 2 (by omega)]; exact h.k2, by rw [c 3 (by omega)]; exact h.k3, by rw [z]; exact h.z0, by rw [z]; exact h.z1, by rw [z]; exact h.z2, by rw [z]; exact h.z3, by simpa using h.lt⟩
theorem KV.set2 {N : Nat} {a b c d : Value} {W : World} (h : KV N a b c d W) (v : Value) : KV N a b v d (W.setCell ⟨N, 2, none⟩ v) := by
  have c : ∀ o, o ≠ 2 → (W.setCell ⟨N, 2, none⟩ v).cell? ⟨N, o, none⟩ = W.cell? ⟨N, o, none⟩ := fun o ho => World.cell?_setCell_other _ _ _ _ (by intro e; injection e; omega)
  have z : ∀ o, (W.setCell ⟨N, 2, none⟩ v).frozen? ⟨N, o, none⟩ = W.frozen? ⟨N, o, none⟩ := fun o => by simp
  exact ⟨by rw [c 0 (by omega)]; exact h.k0, by rw [c 1 (by omega)]; exact h.k1, World.cell?_setCell_same _ _ _ h.k2, by rw [c 3 (by omega)]; exact h.k3, by rw [z]; exact h.z0, by rw [z]; exact h.z1, by rw [z]; exact h.z2, by rw [z]; exact h.z3, by simpa using h.lt⟩
theorem KV.set3 {N : Nat} {a b c d : Value} {W : World} (h : KV N a b c d W) (v : Value) : KV N a b c v (W.setCell ⟨N, 3, none⟩ v) := by
  have c : ∀ o, o ≠ 3 → (W.setCell ⟨N, 3, none⟩ v).cell? ⟨N, o, none⟩ = W.cell? ⟨N, o, none⟩ := fun o ho => World.cell?_setCell_other _ _ _ _ (by intro e; injection e; omega)
  have z : ∀ o, (W.setCell ⟨N, 3, none⟩ v).frozen? ⟨N, o, none⟩ = W.frozen? ⟨N, o, none⟩ := fun o => by simp
  exact ⟨by rw [c 0 (by omega)]; exact h.k0, by rw [c 1 (by omega)]; exact h.k1, by rw [c 2 (by omega)]; exact h.k2, World.cell?_setCell_same _ _ _ h.k3, by rw [z]; exact h.z0, by rw [z]; exact h.z1, by rw [z]; exact h.z2, by rw [z]; exact h.z3, by simpa using h.lt⟩
/-- what is told of a row that begins with a digit. -/
def NRes (a : Nat) (L : List UInt8) (e : Ending) : Prop := match nmL (L.take (rowL L)) with
  | some x => ∃ T : ByteArray, e = .returned (.tuple #[.agg #[.int .u8 (x.1 : Int), .string T, .int .i64 x.2, .int .i64 0], .int .i64 ((a + rowL L : Nat) : Int), .nilIface]) ∧ bL T = L.take (rowL L)
  | none => ∃ p c, e = .returned (.tuple #[tokZ, .int .i64 0, atE p c])
set_option maxHeartbeats 4000000 in
theorem lnumber_any (s : ByteArray) (hs : s.size ≤ 1048576) (a : Nat) (ha : a ≤ s.size) (w : World) (hP : PT w) : Calls Tryd.prog 17 #[.string s, .int .i64 (a : Int)] w fun e w' => NRes a ((bL s).drop a) e ∧ Below w.heap.size w w' := by
  obtain ⟨R, T, hR, hRs, hT, hTs, cR, asl, fin⟩ : ∃ (R : Nat) (T : ByteArray), a ≤ R ∧ R ≤ s.size ∧ Hid (bL T = ((bL s).drop a).take (rowL ((bL s).drop a))) ∧ T.size ≤ 1048576 ∧
      Hid (∀ W, Calls Tryd.prog 15 #[.string s, .int .i64 (a : Int)] W fun e w' => e = .returned (.int .i64 (R : Int)) ∧ w' = W) ∧
      (∀ W, (Instr.slice 9 (.string s) (some (.int .i64 (a : Int))) (some (.int .i64 (R : Int))) none).run Tryd.prog W = .ok (.string T) W) ∧
      Hid (∀ e, (match nmL (bL T) with
        | some x => e = Ending.returned (.tuple #[.agg #[.int .u8 (x.1 : Int), .string T, .int .i64 x.2, .int .i64 0], .int .i64 (R : Int), .nilIface])
        | none => ∃ p c, e = Ending.returned (.tuple #[tokZ, .int .i64 0, atE p c])) → NRes a ((bL s).drop a) e) := by
    have hl := row_le ((bL s).drop a)
    rw [List.length_drop, bL_len] at hl
    have e1 : bL (s.extract a (a + rowL ((bL s).drop a))) = ((bL s).drop a).take (rowL ((bL s).drop a)) := by
      rw [bL_ext, show a + rowL ((bL s).drop a) - a = rowL ((bL s).drop a) by omega]
    refine ⟨a + rowL ((bL s).drop a), s.extract a (a + rowL ((bL s).drop a)), by omega, by omega, e1, by rw [ByteArray.size_extract]; omega, fun W => row_any s (by omega) a ha W, fun W => ?_, fun e he => ?_⟩
    · have h := run_slice_string (P := Tryd.prog) (w := W) 9 s .i64 .i64 (a : Int) ((a + rowL ((bL s).drop a) : Nat) : Int) Tryd.underlying9 (by omega) (by omega) (by omega)
      have e2 : ((a + rowL ((bL s).drop a) : Nat) : Int).toNat = a + rowL ((bL s).drop a) := by omega
      rw [e2] at h
      simpa using h
    · unfold NRes
      rw [e1] at he
      cases hn : nmL (((bL s).drop a).take (rowL ((bL s).drop a))) with
      | none => rw [hn] at he; exact he
      | some x => rw [hn] at he; exact ⟨_, he, e1⟩
  have cP : Hid (∀ W, Below w.heap.size w W → Calls Tryd.prog 23 #[.string T, .int .i64 10, .int .i64 64] W fun e w' => (∃ ev, e = .returned (.tuple #[.int .i64 (PV (bL T)).1, ev]) ∧ (if (PV (bL T)).2 = true then ev = .nilIface else ∃ t p, ev = .iface t p)) ∧ Below W.heap.size W w') := fun W hb => pint_any T hTs W (hP.on hb)
  go_enter Tryd.func17, Tryd.ntmps17
  go_wp2_with fail
  with_reducible refine Calls.mono (cR.out _) ?_
  rintro e w2 ⟨rfl, hw⟩
  subst hw
  go_wp2_with fail
  have A1 := KV.new w (.int .u8 0) (.string ⟨#[]⟩) (.int .i64 0) (.int .i64 0)
  have A2 := KV.new (w.alloc (.cells #[.int .u8 0, .string ⟨#[]⟩, .int .i64 0, .int .i64 0] 29)) (.int .u8 4) (.string T) (.int .i64 0) (.int .i64 0)
  have B2 : Below (w.heap.size + 1) (w.alloc (.cells #[.int .u8 0, .string ⟨#[]⟩, .int .i64 0, .int .i64 0] 29)) ((w.alloc (.cells #[.int .u8 0, .string ⟨#[]⟩, .int .i64 0, .int .i64 0] 29)).alloc (.cells #[.int .u8 4, .string T, .int .i64 0, .int .i64 0] 29)) := (Below.refl _ _).alloc (by rw [World.size_alloc]; exact Nat.le_refl _) _
  have B1 : Below w.heap.size w ((w.alloc (.cells #[.int .u8 0, .string ⟨#[]⟩, .int .i64 0, .int .i64 0] 29)).alloc (.cells #[.int .u8 4, .string T, .int .i64 0, .int .i64 0] 29)) := ((Below.refl _ w).alloc (Nat.le_refl _) _).trans (B2.mono (Nat.le_succ _))
  rw [World.size_alloc] at A2
  replace A1 := A1.below B2 (Nat.lt_succ_self _)
  generalize World.alloc (World.alloc w _) _ = W1 at A1 A2 B1 ⊢
  clear B2
  generalize hN : w.heap.size = N at *
  with_reducible refine Calls.mono (cP.out _ B1) ?_
  rintro e w2 ⟨⟨ev, rfl, hev⟩, b2⟩
  have hz := A2.lt
  replace A1 := A1.below b2 (by omega)
  replace A2 := A2.below b2 (by omega)
  have B2 := B1.trans (b2.mono (by omega))
  clear b2 hz B1
  cases hq : (PV (bL T)).2 with
  | true =>
    rw [hq] at hev
    replace hev : ev = .nilIface := hev
    subst hev
    have A3 := A2.set2 (.int .i64 (PV (bL T)).1)
    have A4 := A1.other (N + 1) 2 (.int .i64 (PV (bL T)).1) (by omega)
    obtain ⟨p0, p1, p2, p3, r0, r1, r2, r3, l3⟩ := A3
    obtain ⟨s0, s1, s2, s3, t0, t1, t2, t3, l4⟩ := A4
    obtain ⟨x0, x1, x2, x3⟩ := four_cells s0 s1 s2 s3 (.int .u8 4) (.string T) (.int .i64 (PV (bL T)).1) (.int .i64 0)
    have y2 := A2.k2
    have y3 := A2.z2
    clear A1 A2 cP
    go_wp2_with fail
    have eN : nmL (bL T) = some (4, (PV (bL T)).1) := by
      unfold PV at hq ⊢
      unfold nmL
      cases hp : Lib.parseIntB 64 (bL T) with
      | ok v => rfl
      | «syntax» => rw [hp] at hq; cases hq
      | range => rw [hp] at hq; cases hq
    simp [bodyPost, results, Tryd.results17, go_sem, x0, x1, x2, x3, l4, hN]
    refine ⟨fin.out _ ?_, ?_⟩
    · rw [eN]; rfl
    · exact (B2.setCell (p := ⟨N + 1, 2, none⟩) (Nat.le_succ _) _).trans (four_set _ _ _ _ _ _)
  | false =>
    rw [hq] at hev
    replace hev : ∃ t p, ev = .iface t p := by simpa using hev
    obtain ⟨ty, py, rfl⟩ := hev
    have A3 := A2.set2 (.int .i64 (PV (bL T)).1)
    have A5 := A3.set0 (.int .u8 5)
    have A4 := (A1.other (N + 1) 2 (.int .i64 (PV (bL T)).1) (by omega)).other (N + 1) 0 (.int .u8 5) (by omega)
    have B3 := (B2.setCell (p := ⟨N + 1, 2, none⟩) (Nat.le_succ _) (.int .i64 (PV (bL T)).1)).setCell (p := ⟨N + 1, 0, none⟩) (Nat.le_succ _) (.int .u8 5)
    have q0 := A3.k0
    have q1 := A5.k1
    have q2 := A3.z0
    have y2 := A2.k2
    have y3 := A2.z2
    have cS : Hid (∀ W, Below N w W → Calls Tryd.prog 24 #[.string T] W fun e w' => e = .returned (.tuple #[.int .i64 (spV (bL T)), erV (spE (bL T))]) ∧ Below W.heap.size W w') := fun W hb => parse_any T (by omega) W (hP.below hb ⟨by rw [← hN]; exact hP.lu, by rw [← hN]; exact hP.ls, by rw [← hN]; exact hP.lr⟩).us
    clear cP A1 A2 A3
    go_wp2_with fail
    with_reducible refine Calls.mono (cS.out _ B3) ?_
    rintro e w3 ⟨rfl, b3⟩
    have hz := A5.lt
    replace A4 := A4.below b3 (by omega)
    replace A5 := A5.below b3 (by omega)
    have B4 := B3.trans (b3.mono (by omega))
    clear b3 hz B3 B2 q0 q1 q2 y2 y3 cS
    by_cases hE : spE (bL T) = 0
    · have eN : nmL (bL T) = some (5, spV (bL T)) := by
        unfold PV at hq
        unfold nmL
        cases hp : Lib.parseIntB 64 (bL T) with
        | ok v => rw [hp] at hq; cases hq
        | «syntax» => show (if spE (bL T) = 0 then _ else _) = _; rw [if_pos hE]
        | range => show (if spE (bL T) = 0 then _ else _) = _; rw [if_pos hE]
      have eV : erV (spE (bL T)) = .nilIface := by rw [hE]; rfl
      rw [eV]
      have y2 := A5.k2
      have y3 := A5.z2
      have A6 := A5.set2 (.int .i64 (spV (bL T)))
      have A7 := A4.other (N + 1) 2 (.int .i64 (spV (bL T))) (by omega)
      obtain ⟨p0, p1, p2, p3, r0, r1, r2, r3, l3⟩ := A6
      obtain ⟨s0, s1, s2, s3, t0, t1, t2, t3, l4⟩ := A7
      obtain ⟨x0, x1, x2, x3⟩ := four_cells s0 s1 s2 s3 (.int .u8 5) (.string T) (.int .i64 (spV (bL T))) (.int .i64 0)
      clear A4 A5
      go_wp2_with fail
      simp [bodyPost, results, Tryd.results17, go_sem, x0, x1, x2, x3, l4, hN]
      refine ⟨fin.out _ ?_, ?_⟩
      · rw [eN]; rfl
      · exact (B4.setCell (p := ⟨N + 1, 2, none⟩) (Nat.le_succ _) _).trans (four_set _ _ _ _ _ _)
    · have eN : nmL (bL T) = none := by
        unfold PV at hq
        unfold nmL
        cases hp : Lib.parseIntB 64 (bL T) with
        | ok v => rw [hp] at hq; cases hq
        | «syntax» => show (if spE (bL T) = 0 then _ else _) = _; rw [if_neg hE]
        | range => show (if spE (bL T) = 0 then _ else _) = _; rw [if_neg hE]
      have eV : erV (spE (bL T)) = .iface 33 (.int .i64 (spE (bL T))) := by unfold erV; rw [if_neg hE]
      rw [eV]
      have y2 := A5.k2
      have y3 := A5.z2
      have A7 := A4.other (N + 1) 2 (.int .i64 (spV (bL T))) (by omega)
      obtain ⟨s0, s1, s2, s3, t0, t1, t2, t3, l4⟩ := A7
      obtain ⟨x0, x1, x2, x3⟩ := four_cells s0 s1 s2 s3 (.int .u8 0) (.string ⟨#[]⟩) (.int .i64 0) (.int .i64 0)
      have cA : Hid (∀ W, Calls Tryd.prog 21 #[.int .i64 (a : Int), .int .i64 122] W fun ev w' => ev = .returned (atE (a : Int) 122) ∧ w' = W) := fun W => faultAt_any _ _ rfl W
      clear A4 A5 eV
      go_wp2_with fail
      with_reducible refine Calls.mono (cA.out _) ?_
      rintro e w4 ⟨rfl, hw⟩
      subst hw
      clear cA
      go_wp2_with fail
      simp [bodyPost, results, Tryd.results17, go_sem, x0, x1, x2, x3, l4, hN]
      refine ⟨fin.out _ ?_, ?_⟩
      · rw [eN]; exact ⟨_, _, rfl⟩
      · exact (B4.setCell (p := ⟨N + 1, 2, none⟩) (Nat.le_succ _) _).trans (four_set _ _ _ _ _ _)
end Go.Proofs.YtjiiafmbneehhaaDoor.Lx
