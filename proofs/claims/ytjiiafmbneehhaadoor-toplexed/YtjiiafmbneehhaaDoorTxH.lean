
import Derived.Test.YtjiiafmbneehhaaDoorTxG
namespace Go.Proofs.YtjiiafmbneehhaaDoor.Lx
open Go.RowKit Go.Shelf
set_option linter.unusedVariables false
set_option linter.unusedSimpArgs false
set_option maxRecDepth 100000
/-- what is told of the token that begins at a place. -/
def RRes (a : Nat) (R : Option (Tok × Nat)) (e : Ending) : Prop := match R with
  | some x => ∃ T : ByteArray, e = .returned (.tuple #[.agg #[.int .u8 (x.1.k : Int), .string T, .int .i64 x.1.n, .int .i64 0], .int .i64 ((a + x.2 : Nat) : Int), .nilIface]) ∧ bL T = x.1.t
  | none => ∃ p c, e = .returned (.tuple #[tokZ, .int .i64 0, atE p c])
theorem idx_mem (c : UInt8) : ∀ l : List UInt8, (0 ≤ Lib.indexByte l c) ↔ c ∈ l
  | [] => by simp [Lib.indexByte]
  | b :: l => by
    have ih := idx_mem c l
    have ge := Lib.indexByte_ge l c
    unfold Lib.indexByte
    by_cases h : b = c
    · subst h; simp
    · have h1 : (b == c) = false := beq_eq_false_iff_ne.2 h
      rw [h1]
      by_cases h2 : Lib.indexByte l c = -1
      · have h3 : (Lib.indexByte l c == -1) = true := beq_iff_eq.2 h2
        rw [h3]
        have : ¬ c ∈ l := fun q => by have := ih.2 q; omega
        simp [this, Ne.symm h]
      · have h3 : (Lib.indexByte l c == -1) = false := beq_eq_false_iff_ne.2 h2
        rw [h3]
        have : c ∈ l := ih.1 (by omega)
        simp [this]
        omega
theorem ch_eq {c k : UInt8} (h : c = k) : ((c.toNat : Int) == (k.toNat : Int)) = true ∧ decide ((c.toNat : Int) = (k.toNat : Int)) = true := tn_eq h
theorem pre_two (c d e : UInt8) (r : List UInt8) : Lib.hasPrefix (c :: r) [d, e] = decide (c = d ∧ r.head? = some e) := by
  cases r with
  | nil => simp [Lib.hasPrefix, List.isPrefixOf]
  | cons x r =>
    simp only [Lib.hasPrefix, List.isPrefixOf, List.head?_cons, Option.some.injEq, Bool.and_true]
    by_cases h : c = d <;> by_cases h2 : x = e
    · simp [h, h2]
    · simp [h, h2, Ne.symm h2]
    · simp [h, Ne.symm h]
    · simp [h, Ne.symm h]
theorem pre_n (l : List UInt8) (c : UInt8) : Lib.hasPrefix l [c] = decide (l.head? = some c) := pre_one l c
theorem QRes.shape {kd : Int} {a : Nat} {R : Option (List UInt8 × Nat)} {e : Ending} (h : QRes kd a R e) : ∃ (x0 : Int) (x1 : ByteArray) (x2 x3 : Int) (y z : Value), e = .returned (.tuple #[.agg #[.int .u8 x0, .string x1, .int .i64 x2, .int .i64 x3], y, z]) := by
  unfold QRes at h
  cases R with
  | none => obtain ⟨p, c, rfl⟩ := h; exact ⟨_, _, _, _, _, _, rfl⟩
  | some x => obtain ⟨T, rfl, _⟩ := h; exact ⟨_, _, _, _, _, _, rfl⟩
theorem NRes.shape {a : Nat} {L : List UInt8} {e : Ending} (h : NRes a L e) : ∃ (x0 : Int) (x1 : ByteArray) (x2 x3 : Int) (y z : Value), e = .returned (.tuple #[.agg #[.int .u8 x0, .string x1, .int .i64 x2, .int .i64 x3], y, z]) := by
  unfold NRes at h
  cases hn : nmL (L.take (rowL L)) with
  | none => rw [hn] at h; obtain ⟨p, c, rfl⟩ := h; exact ⟨_, _, _, _, _, _, rfl⟩
  | some x => rw [hn] at h; obtain ⟨T, rfl, _⟩ := h; exact ⟨_, _, _, _, _, _, rfl⟩
theorem RRes.quo {a : Nat} {R : Option (List UInt8 × Nat)} {e : Ending} (k : Nat) (h : QRes (k : Int) a R e) : RRes a (R.map (fun x => (⟨k, x.1, 0⟩, x.2 + 1))) e := by
  unfold QRes at h
  cases R with
  | none => exact h
  | some x =>
    obtain ⟨T, rfl, hT⟩ := h
    refine ⟨T, ?_, hT⟩
    show _ = Ending.returned (.tuple #[_, .int .i64 ((a + (x.2 + 1) : Nat) : Int), _])
    rw [show a + (x.2 + 1) = a + 1 + x.2 by omega]
theorem RRes.num {a : Nat} {L : List UInt8} {e : Ending} (h : NRes a L e) : RRes a ((nmL (L.take (rowL L))).map (fun x => (⟨x.1, L.take (rowL L), x.2⟩, rowL L))) e := by
  unfold NRes at h
  cases hn : nmL (L.take (rowL L)) with
  | none => rw [hn] at h; exact h
  | some x => rw [hn] at h; obtain ⟨T, rfl, hT⟩ := h; exact ⟨T, rfl, hT⟩
set_option maxHeartbeats 8000000 in
theorem lread_any (s : ByteArray) (hs : s.size ≤ 1048576) (a : Nat) (ha : a ≤ s.size) (w : World) (hP : PT w) : Calls Tryd.prog 11 #[.string s, .int .i64 (a : Int)] w fun e w' => RRes a (readT nmL ((bL s).drop a)) e ∧ Below w.heap.size w w' := by
  have a0 : (0 : Int) ≤ (a : Int) := by omega
  by_cases hlt : a < s.size
  · have aI : (a : Int) < (s.size : Int) := by omega
    have aL : (a : Int) ≤ (s.size : Int) := by omega
    have b0 : (0 : Int) ≤ (a : Int) + 1 := by omega
    have b1 : (a : Int) + 1 ≤ (s.size : Int) := by omega
    have b2 : (a : Int) ≤ (a : Int) + 1 := by omega
    have n1 : ((a : Int) == (s.size : Int)) = false := beq_eq_false_iff_ne.2 (by omega)
    have n2 : decide ((a : Int) = (s.size : Int)) = false := decide_eq_false (by omega)
    have aw : IntKind.i64.wrap ((a : Int) + 1) = (a : Int) + 1 := IntWalk.i64_in _ (by omega)
    have eL := drop_at s a hlt
    obtain ⟨c, hc⟩ : ∃ c, s[a] = c := ⟨_, rfl⟩
    obtain ⟨r, hr⟩ : ∃ r, (bL s).drop (a + 1) = r := ⟨_, rfl⟩
    rw [hc, hr] at eL
    have lr : r.length = s.size - (a + 1) := by rw [← hr, List.length_drop, bL_len]
    have cL := fun W => letter_n (c.toNat) W
    have cD := fun W => digit_n (c.toNat) W
    rw [← ltN_is] at cL
    rw [← dN_is] at cD
    have fin : Hid (∀ e, RRes a (readT nmL (c :: r)) e → RRes a (readT nmL ((bL s).drop a)) e) := fun e h => by rw [eL]; exact h
    have cN : Hid (∀ W, Below w.heap.size w W → Calls Tryd.prog 17 #[.string s, .int .i64 (a : Int)] W fun e w' => (∃ (x0 : Int) (x1 : ByteArray) (x2 x3 : Int) (y z : Value), e = .returned (.tuple #[.agg #[.int .u8 x0, .string x1, .int .i64 x2, .int .i64 x3], y, z]) ∧ NRes a (c :: r) e) ∧ Below W.heap.size W w') := fun W hb => (lnumber_any s hs a ha W (hP.on hb)).mono fun e w' h => by
      rw [eL] at h
      obtain ⟨x0, x1, x2, x3, y, z, he⟩ := h.1.shape
      exact ⟨⟨x0, x1, x2, x3, y, z, he, h.1⟩, h.2⟩
    have cQ : Hid (∀ k : Int, ¬ (92 : UInt8) = c → ∀ W, Calls Tryd.prog 18 #[.string s, .int .i64 (a : Int), .int .u8 k] W fun e w' => (∃ (x0 : Int) (x1 : ByteArray) (x2 x3 : Int) (y z : Value), e = .returned (.tuple #[.agg #[.int .u8 x0, .string x1, .int .i64 x2, .int .i64 x3], y, z]) ∧ QRes k a (quoL c r) e) ∧ Below W.heap.size W w') := fun k hk W => (lquoted_any s hs a hlt k (by rw [hc]; exact hk) W).mono fun e w' h => by
      rw [hc, hr] at h
      obtain ⟨x0, x1, x2, x3, y, z, he⟩ := h.1.shape
      exact ⟨⟨x0, x1, x2, x3, y, z, he, h.1⟩, h.2⟩
    have cR : Hid (∀ W, Calls Tryd.prog 15 #[.string s, .int .i64 (a : Int)] W fun e w' => e = .returned (.int .i64 ((a + rowL (c :: r) : Nat) : Int)) ∧ w' = W) := fun W => by
      have h := row_any s (by omega) a ha W
      rw [eL] at h
      exact h
    have rl : rowL (c :: r) ≤ s.size - a := by
      have := row_le (c :: r)
      rw [List.length_cons, lr] at this
      omega
    have bT : Hid (∀ j, j ≤ s.size - a → bL (s.extract a (a + j)) = (c :: r).take j) := fun j hj => by
      rw [bL_ext, eL, show a + j - a = j by omega]
    have cP1 : Hid (∀ W, Calls Tryd.prog 19 #[.string (s.extract a s.size), .string ⟨#[33, 61]⟩] W fun e w' => e = .returned (.bool (decide (c = 33 ∧ r.head? = some 61))) ∧ w' = W) := fun W => by
      have h := Tryd.strings_HasPrefix (s.extract a s.size) ⟨#[33, 61]⟩ W
      have e1 : (s.extract a s.size).data.toList = c :: r := by rw [← eL]; exact ex_list s a
      rw [e1, show (⟨#[33, 61]⟩ : ByteArray).data.toList = [33, 61] from rfl, pre_two] at h
      exact h
    have cP2 : Hid (∀ W, Calls Tryd.prog 19 #[.string (s.extract (a + 1) s.size), .string ⟨#[61]⟩] W fun e w' => e = .returned (.bool (decide (r.head? = some 61))) ∧ w' = W) := fun W => by
      have h := Tryd.strings_HasPrefix (s.extract (a + 1) s.size) ⟨#[61]⟩ W
      have e1 : (s.extract (a + 1) s.size).data.toList = r := by rw [← hr]; exact ex_list s (a + 1)
      rw [e1, show (⟨#[61]⟩ : ByteArray).data.toList = [61] from rfl, pre_n] at h
      exact h
    have cI : Hid (∀ W, Calls Tryd.prog 20 #[.string ⟨#[44, 40, 41, 43, 45, 42, 47, 37, 61]⟩, .int .u8 (c.toNat : Int)] W fun e w' => e = .returned (.int .i64 (Lib.indexByte sgL c)) ∧ w' = W) := fun W => by
      have h := Tryd.strings_IndexByte ⟨#[44, 40, 41, 43, 45, 42, 47, 37, 61]⟩ (c.toNat : Int) W
      have e1 : ((c.toNat : Int).toNat.toUInt8) = c := by simp
      rw [e1] at h
      exact h
    have asl1 : ∀ W, (Instr.slice 9 (.string s) (some (.int .i64 (a : Int))) none none).run Tryd.prog W = .ok (.string (s.extract a s.size)) W := fun W => by
      rw [run_slice_string_from_if (P := Tryd.prog) (w := W) 9 s .i64 (a : Int) Tryd.underlying9, if_pos ⟨a0, aL⟩]
      simp
    have asl2 : ∀ W, (Instr.slice 9 (.string s) (some (.int .i64 ((a : Int) + 1))) none none).run Tryd.prog W = .ok (.string (s.extract (a + 1) s.size)) W := fun W => by
      rw [run_slice_string_from_if (P := Tryd.prog) (w := W) 9 s .i64 ((a : Int) + 1) Tryd.underlying9, if_pos ⟨b0, b1⟩]
      rw [show ((a : Int) + 1).toNat = a + 1 by omega]
    have aslR : Hid (∀ j : Nat, j ≤ s.size - a → ∀ v : Int, v = ((a + j : Nat) : Int) → ∀ W, (Instr.slice 9 (.string s) (some (.int .i64 (a : Int))) (some (.int .i64 v)) none).run Tryd.prog W = .ok (.string (s.extract a (a + j))) W) := fun j hj v hv W => by
      subst hv
      have h := run_slice_string (P := Tryd.prog) (w := W) 9 s .i64 .i64 (a : Int) ((a + j : Nat) : Int) Tryd.underlying9 (by omega) (by omega) (by omega)
      have e2 : ((a + j : Nat) : Int).toNat = a + j := by omega
      have e3 : (a : Int).toNat = a := by omega
      rw [e2, e3] at h
      exact h
    go_enter Tryd.func11, Tryd.ntmps11
    go_wp2_with fail
    have A1 := KV.new w (.int .u8 0) (.string ⟨#[]⟩) (.int .i64 0) (.int .i64 0)
    have B1 : Below w.heap.size w (w.alloc (.cells #[.int .u8 0, .string ⟨#[]⟩, .int .i64 0, .int .i64 0] 29)) := (Below.refl _ w).alloc (Nat.le_refl _) _
    generalize World.alloc w _ = W1 at A1 B1 ⊢
    replace cN : Hid (Calls Tryd.prog 17 #[.string s, .int .i64 (a : Int)] W1 fun e w' => (∃ (x0 : Int) (x1 : ByteArray) (x2 x3 : Int) (y z : Value), e = .returned (.tuple #[.agg #[.int .u8 x0, .string x1, .int .i64 x2, .int .i64 x3], y, z]) ∧ NRes a (c :: r) e) ∧ Below W1.heap.size W1 w') := cN.out W1 B1
    generalize hN : w.heap.size = N at *
    have B1H : Hid (Below N w W1) := B1
    have A1H : Hid (KV N (.int .u8 0) (.string ⟨#[]⟩) (.int .i64 0) (.int .i64 0) W1) := A1
    have rd : Hid (readT nmL (c :: r) = (
      if isLt c = true then some (⟨1, (c :: r).take (rowL (c :: r)), 0⟩, rowL (c :: r))
      else if isD c = true then (nmL ((c :: r).take (rowL (c :: r)))).map (fun x => (⟨x.1, (c :: r).take (rowL (c :: r)), x.2⟩, rowL (c :: r)))
      else if c = 34 then (quoL 34 r).map (fun x => (⟨2, x.1, 0⟩, x.2 + 1))
      else if c = 39 then (quoL 39 r).map (fun x => (⟨3, x.1, 0⟩, x.2 + 1))
      else if (c = 33 ∧ r.head? = some 61) ∨ c = 60 ∨ c = 62 then (if r.head? = some 61 then some (⟨6, [c, 61], 0⟩, 2) else some (⟨6, [c], 0⟩, 1))
      else if c ∈ sgL then some (⟨6, [c], 0⟩, 1) else none)) := read_cons nmL c r
    have hd2 : Hid (r.head? = some 61 → 2 ≤ s.size - a ∧ (c :: r).take 2 = [c, 61]) := fun h => by
      cases r with
      | nil => cases h
      | cons x q =>
        injection h with h
        subst h
        rw [List.length_cons] at lr
        exact ⟨by omega, rfl⟩
    have hN2 : Hid (w.heap.size = N) := hN
    clear A1 B1 eL hr lr hP hN
    cases hl : isLt c with
    | true =>
      rw [hl] at cL
      have cLH : Hid (∀ W, Calls Tryd.prog 14 #[.int .u8 (c.toNat : Int)] W fun e w' => e = .returned (.bool true) ∧ w' = W) := cL
      have as0 := aslR.out _ rl _ rfl
      have eT := bT.out _ rl
      have rv : RRes a (readT nmL (c :: r)) (Ending.returned (.tuple #[.agg #[.int .u8 1, .string (s.extract a (a + rowL (c :: r))), .int .i64 0, .int .i64 0], .int .i64 ((a + rowL (c :: r) : Nat) : Int), .nilIface])) := by
        rw [rd.out, if_pos hl]
        exact ⟨_, rfl, eT⟩
      have rvH : Hid _ := hid rv
      clear cL cD cN cQ bT cP1 cP2 cI asl1 asl2 aslR rd hd2 rv eT hl b0 b1 b2
      generalize s.extract a (a + rowL (c :: r)) = T at *
      generalize a + rowL (c :: r) = R at *
      with_reducible refine Calls.mono (cLH.out _) ?_
      rintro e w2 ⟨rfl, hw⟩
      subst hw
      go_wp2_with fail
      with_reducible refine Calls.mono (cR.out _) ?_
      rintro e w2 ⟨rfl, hw⟩
      subst hw
      obtain ⟨s0, s1, s2, s3, t0, t1, t2, t3, l4⟩ := A1H.out
      obtain ⟨x0, x1, x2, x3⟩ := four_cells s0 s1 s2 s3 (.int .u8 1) (.string T) (.int .i64 0) (.int .i64 0)
      go_wp2_with fail
      simp [bodyPost, results, Tryd.results11, go_sem, x0, x1, x2, x3, l4, hN2.out]
      refine ⟨fin.out _ ?_, B1H.out.trans (four_set _ _ _ _ _ _)⟩
      exact rvH.out
    | false =>
      rw [hl] at cL
      have cLH : Hid (∀ W, Calls Tryd.prog 14 #[.int .u8 (c.toNat : Int)] W fun e w' => e = .returned (.bool false) ∧ w' = W) := cL
      replace rd := rd.out
      rw [hl, if_neg (by simp)] at rd
      clear cL cR rl hl
      cases hd : isD c with
      | true =>
        rw [hd] at cD
        have cDH : Hid (∀ W, Calls Tryd.prog 16 #[.int .u8 (c.toNat : Int)] W fun e w' => e = .returned (.bool true) ∧ w' = W) := cD
        rw [hd, if_pos rfl] at rd
        replace rd := hid rd
        clear cD cQ cP1 cP2 cI asl1 asl2 aslR hd2 hd b0 b1 b2 bT
        with_reducible refine Calls.mono (cLH.out _) ?_
        rintro e w2 ⟨rfl, hw⟩
        subst hw
        go_wp2_with fail
        with_reducible refine Calls.mono (cDH.out _) ?_
        rintro e w2 ⟨rfl, hw⟩
        subst hw
        go_wp2_with fail
        with_reducible refine Calls.mono cN.out ?_
        rintro e w3 ⟨⟨u0, u1, u2, u3, v0, v1, he, hq⟩, b3⟩
        subst he
        have hQ : Hid _ := hid hq
        have A3 := A1H.out.below b3 (A1H.out.lt)
        have B3 := B1H.out.trans (b3.mono (Nat.le_of_lt A1H.out.lt))
        clear hq b3
        obtain ⟨s0, s1, s2, s3, t0, t1, t2, t3, l4⟩ := A3
        obtain ⟨x0, x1, x2, x3⟩ := four_cells s0 s1 s2 s3 (.int .u8 u0) (.string u1) (.int .i64 u2) (.int .i64 u3)
        go_wp2_with fail
        simp [bodyPost, results, Tryd.results11, go_sem, x0, x1, x2, x3, l4, hN2.out]
        refine ⟨fin.out _ ?_, B3.trans (four_set _ _ _ _ _ _)⟩
        rw [rd.out]
        exact RRes.num hQ.out
      | false =>
        rw [hd] at cD
        have cDH : Hid (∀ W, Calls Tryd.prog 16 #[.int .u8 (c.toNat : Int)] W fun e w' => e = .returned (.bool false) ∧ w' = W) := cD
        rw [hd, if_neg (by simp)] at rd
        clear cD cN hd
        by_cases h34 : c = 34
        · rw [if_pos h34] at rd
          replace rd := hid rd
          have cQ2 := cQ.out 2 (by rw [h34]; decide) W1
          rw [h34] at cQ2
          replace cQ2 := hid cQ2
          have g34a : ((c.toNat : Int) == 34) = true := (tn_eq (b := 34) h34).1
          have g34b : decide ((c.toNat : Int) = 34) = true := (tn_eq (b := 34) h34).2
          clear cQ cP1 cP2 cI asl1 asl2 aslR hd2 h34 b0 b1 b2 bT hc
          with_reducible refine Calls.mono (cLH.out _) ?_
          rintro e w2 ⟨rfl, hw⟩
          subst hw
          go_wp2_with fail
          with_reducible refine Calls.mono (cDH.out _) ?_
          rintro e w2 ⟨rfl, hw⟩
          subst hw
          go_wp2_with fail
          with_reducible refine Calls.mono cQ2.out ?_
          rintro e w3 ⟨⟨u0, u1, u2, u3, v0, v1, he, hq⟩, b3⟩
          subst he
          have hQ : Hid _ := hid hq
          have A3 := A1H.out.below b3 (A1H.out.lt)
          have B3 := B1H.out.trans (b3.mono (Nat.le_of_lt A1H.out.lt))
          clear hq b3
          obtain ⟨s0, s1, s2, s3, t0, t1, t2, t3, l4⟩ := A3
          obtain ⟨x0, x1, x2, x3⟩ := four_cells s0 s1 s2 s3 (.int .u8 u0) (.string u1) (.int .i64 u2) (.int .i64 u3)
          go_wp2_with fail
          simp [bodyPost, results, Tryd.results11, go_sem, x0, x1, x2, x3, l4, hN2.out]
          refine ⟨fin.out _ ?_, B3.trans (four_set _ _ _ _ _ _)⟩
          rw [rd.out]
          exact RRes.quo 2 hQ.out
        · rw [if_neg h34] at rd
          have g34a : ((c.toNat : Int) == 34) = false := (tn_ne (b := 34) h34).1
          have g34b : decide ((c.toNat : Int) = 34) = false := (tn_ne (b := 34) h34).2
          by_cases h39 : c = 39
          · rw [if_pos h39] at rd
            replace rd := hid rd
            have cQ2 := cQ.out 3 (by rw [h39]; decide) W1
            rw [h39] at cQ2
            replace cQ2 := hid cQ2
            have g39a : ((c.toNat : Int) == 39) = true := (tn_eq (b := 39) h39).1
            have g39b : decide ((c.toNat : Int) = 39) = true := (tn_eq (b := 39) h39).2
            clear cQ cP1 cP2 cI asl1 asl2 aslR hd2 h34 h39 b0 b1 b2 bT hc
            with_reducible refine Calls.mono (cLH.out _) ?_
            rintro e w2 ⟨rfl, hw⟩
            subst hw
            go_wp2_with fail
            with_reducible refine Calls.mono (cDH.out _) ?_
            rintro e w2 ⟨rfl, hw⟩
            subst hw
            go_wp2_with fail
            with_reducible refine Calls.mono cQ2.out ?_
            rintro e w3 ⟨⟨u0, u1, u2, u3, v0, v1, he, hq⟩, b3⟩
            subst he
            have hQ : Hid _ := hid hq
            have A3 := A1H.out.below b3 (A1H.out.lt)
            have B3 := B1H.out.trans (b3.mono (Nat.le_of_lt A1H.out.lt))
            clear hq b3
            obtain ⟨s0, s1, s2, s3, t0, t1, t2, t3, l4⟩ := A3
            obtain ⟨x0, x1, x2, x3⟩ := four_cells s0 s1 s2 s3 (.int .u8 u0) (.string u1) (.int .i64 u2) (.int .i64 u3)
            go_wp2_with fail
            simp [bodyPost, results, Tryd.results11, go_sem, x0, x1, x2, x3, l4, hN2.out]
            refine ⟨fin.out _ ?_, B3.trans (four_set _ _ _ _ _ _)⟩
            rw [rd.out]
            exact RRes.quo 3 hQ.out
          · rw [if_neg h39] at rd
            have g39a : ((c.toNat : Int) == 39) = false := (tn_ne (b := 39) h39).1
            have g39b : decide ((c.toNat : Int) = 39) = false := (tn_ne (b := 39) h39).2
            have aw3 : IntKind.i64.wrap ((a : Int) + 1 + 1) = (a : Int) + 2 := by rw [show (a : Int) + 1 + 1 = (a : Int) + 2 by omega]; exact IntWalk.i64_in _ (by omega)
            have aw4 : IntKind.i64.wrap ((a : Int) + 2) = (a : Int) + 2 := IntWalk.i64_in _ (by omega)
            have rv2 : Hid ((r.head? = some 61) → ((c = 33 ∧ r.head? = some 61) ∨ c = 60 ∨ c = 62) → RRes a (readT nmL (c :: r)) (Ending.returned (.tuple #[.agg #[.int .u8 6, .string (s.extract a (a + 2)), .int .i64 0, .int .i64 0], .int .i64 ((a : Int) + 2), .nilIface]))) := fun h1 h2 => by
              rw [rd, if_pos h2, if_pos h1]
              exact ⟨_, rfl, by rw [bT.out 2 (hd2.out h1).1]; exact (hd2.out h1).2⟩
            have rv1 : Hid ((((c = 33 ∧ r.head? = some 61) ∨ c = 60 ∨ c = 62) ∧ ¬ r.head? = some 61) ∨ (¬ ((c = 33 ∧ r.head? = some 61) ∨ c = 60 ∨ c = 62) ∧ c ∈ sgL) → RRes a (readT nmL (c :: r)) (Ending.returned (.tuple #[.agg #[.int .u8 6, .string (s.extract a (a + 1)), .int .i64 0, .int .i64 0], .int .i64 ((a : Int) + 1), .nilIface]))) := fun h => by
              have e1 : bL (s.extract a (a + 1)) = [c] := by rw [bT.out 1 (by omega)]; rfl
              rcases h with ⟨h1, h2⟩ | ⟨h1, h2⟩
              · rw [rd, if_pos h1, if_neg h2]; exact ⟨_, rfl, e1⟩
              · rw [rd, if_neg h1, if_pos h2]; exact ⟨_, rfl, e1⟩
            have rv0 : Hid (¬ ((c = 33 ∧ r.head? = some 61) ∨ c = 60 ∨ c = 62) → ¬ c ∈ sgL → ∀ p k, RRes a (readT nmL (c :: r)) (Ending.returned (.tuple #[tokZ, .int .i64 0, atE p k]))) := fun h1 h2 p k => by
              rw [rd, if_neg h1, if_neg h2]; exact ⟨_, _, rfl⟩
            have as1 := aslR.out 1 (by omega) ((a : Int) + 1) (by omega)
            have as2 : Hid (r.head? = some 61 → ∀ W, (Instr.slice 9 (.string s) (some (.int .i64 (a : Int))) (some (.int .i64 ((a : Int) + 2))) none).run Tryd.prog W = .ok (.string (s.extract a (a + 2))) W) := fun h => aslR.out 2 (hd2.out h).1 ((a : Int) + 2) (by omega)
            clear rd aslR bT hd2 cQ h34 h39
            generalize s.extract a (a + 1) = T1 at *
            generalize s.extract a (a + 2) = T2 at *
            by_cases hp : c = 33 ∧ r.head? = some 61
            · rw [decide_eq_true hp] at cP1
              have h61 : r.head? = some 61 := hp.2
              rw [decide_eq_true h61] at cP2
              replace as2 := as2.out h61
              have rv : Hid _ := hid (rv2.out h61 (Or.inl hp))
              clear rv2 rv1 rv0 hp h61 cI hc as1
              with_reducible refine Calls.mono (cLH.out _) ?_
              rintro e w2 ⟨rfl, hw⟩
              subst hw
              go_wp2_with fail
              with_reducible refine Calls.mono (cDH.out _) ?_
              rintro e w2 ⟨rfl, hw⟩
              subst hw
              go_wp2_with fail
              with_reducible refine Calls.mono (cP1.out _) ?_
              rintro e w2 ⟨rfl, hw⟩
              subst hw
              go_wp2_with fail
              with_reducible refine Calls.mono (cP2.out _) ?_
              rintro e w2 ⟨rfl, hw⟩
              subst hw
              obtain ⟨s0, s1, s2, s3, t0, t1, t2, t3, l4⟩ := A1H.out
              obtain ⟨x0, x1, x2, x3⟩ := four_cells s0 s1 s2 s3 (.int .u8 6) (.string T2) (.int .i64 0) (.int .i64 0)
              go_wp2_with fail
              simp [bodyPost, results, Tryd.results11, go_sem, x0, x1, x2, x3, l4, hN2.out]
              refine ⟨fin.out _ ?_, B1H.out.trans (four_set _ _ _ _ _ _)⟩
              exact rv.out
            · rw [decide_eq_false hp] at cP1
              by_cases h60 : c = 60
              · by_cases h61 : r.head? = some 61
                · rw [decide_eq_true h61] at cP2
                  replace as2 := as2.out h61
                  have rv : Hid _ := hid (rv2.out h61 (Or.inr (Or.inl h60)))
                  have g60a : ((c.toNat : Int) == 60) = true := (tn_eq (b := 60) h60).1
                  have g60b : decide ((c.toNat : Int) = 60) = true := (tn_eq (b := 60) h60).2
                  clear rv2 rv1 rv0 hp h61 h60 cI hc as1
                  with_reducible refine Calls.mono (cLH.out _) ?_
                  rintro e w2 ⟨rfl, hw⟩
                  subst hw
                  go_wp2_with fail
                  with_reducible refine Calls.mono (cDH.out _) ?_
                  rintro e w2 ⟨rfl, hw⟩
                  subst hw
                  go_wp2_with fail
                  with_reducible refine Calls.mono (cP1.out _) ?_
                  rintro e w2 ⟨rfl, hw⟩
                  subst hw
                  go_wp2_with fail
                  with_reducible refine Calls.mono (cP2.out _) ?_
                  rintro e w2 ⟨rfl, hw⟩
                  subst hw
                  obtain ⟨s0, s1, s2, s3, t0, t1, t2, t3, l4⟩ := A1H.out
                  obtain ⟨x0, x1, x2, x3⟩ := four_cells s0 s1 s2 s3 (.int .u8 6) (.string T2) (.int .i64 0) (.int .i64 0)
                  go_wp2_with fail
                  simp [bodyPost, results, Tryd.results11, go_sem, x0, x1, x2, x3, l4, hN2.out]
                  refine ⟨fin.out _ ?_, B1H.out.trans (four_set _ _ _ _ _ _)⟩
                  exact rv.out
                · rw [decide_eq_false h61] at cP2
                  have rv : Hid _ := hid (rv1.out (Or.inl ⟨Or.inr (Or.inl h60), h61⟩))
                  have g60a : ((c.toNat : Int) == 60) = true := (tn_eq (b := 60) h60).1
                  have g60b : decide ((c.toNat : Int) = 60) = true := (tn_eq (b := 60) h60).2
                  clear rv2 rv1 rv0 hp h61 h60 cI hc as2
                  with_reducible refine Calls.mono (cLH.out _) ?_
                  rintro e w2 ⟨rfl, hw⟩
                  subst hw
                  go_wp2_with fail
                  with_reducible refine Calls.mono (cDH.out _) ?_
                  rintro e w2 ⟨rfl, hw⟩
                  subst hw
                  go_wp2_with fail
                  with_reducible refine Calls.mono (cP1.out _) ?_
                  rintro e w2 ⟨rfl, hw⟩
                  subst hw
                  go_wp2_with fail
                  with_reducible refine Calls.mono (cP2.out _) ?_
                  rintro e w2 ⟨rfl, hw⟩
                  subst hw
                  obtain ⟨s0, s1, s2, s3, t0, t1, t2, t3, l4⟩ := A1H.out
                  obtain ⟨x0, x1, x2, x3⟩ := four_cells s0 s1 s2 s3 (.int .u8 6) (.string T1) (.int .i64 0) (.int .i64 0)
                  go_wp2_with fail
                  simp [bodyPost, results, Tryd.results11, go_sem, x0, x1, x2, x3, l4, hN2.out]
                  refine ⟨fin.out _ ?_, B1H.out.trans (four_set _ _ _ _ _ _)⟩
                  exact rv.out
              · by_cases h62 : c = 62
                · by_cases h61 : r.head? = some 61
                  · rw [decide_eq_true h61] at cP2
                    replace as2 := as2.out h61
                    have rv : Hid _ := hid (rv2.out h61 (Or.inr (Or.inr h62)))
                    have g60a : ((c.toNat : Int) == 60) = false := (tn_ne (b := 60) h60).1
                    have g60b : decide ((c.toNat : Int) = 60) = false := (tn_ne (b := 60) h60).2
                    have g62a : ((c.toNat : Int) == 62) = true := (tn_eq (b := 62) h62).1
                    have g62b : decide ((c.toNat : Int) = 62) = true := (tn_eq (b := 62) h62).2
                    clear rv2 rv1 rv0 hp h61 h60 h62 cI hc as1
                    with_reducible refine Calls.mono (cLH.out _) ?_
                    rintro e w2 ⟨rfl, hw⟩
                    subst hw
                    go_wp2_with fail
                    with_reducible refine Calls.mono (cDH.out _) ?_
                    rintro e w2 ⟨rfl, hw⟩
                    subst hw
                    go_wp2_with fail
                    with_reducible refine Calls.mono (cP1.out _) ?_
                    rintro e w2 ⟨rfl, hw⟩
                    subst hw
                    go_wp2_with fail
                    with_reducible refine Calls.mono (cP2.out _) ?_
                    rintro e w2 ⟨rfl, hw⟩
                    subst hw
                    obtain ⟨s0, s1, s2, s3, t0, t1, t2, t3, l4⟩ := A1H.out
                    obtain ⟨x0, x1, x2, x3⟩ := four_cells s0 s1 s2 s3 (.int .u8 6) (.string T2) (.int .i64 0) (.int .i64 0)
                    go_wp2_with fail
                    simp [bodyPost, results, Tryd.results11, go_sem, x0, x1, x2, x3, l4, hN2.out]
                    refine ⟨fin.out _ ?_, B1H.out.trans (four_set _ _ _ _ _ _)⟩
                    exact rv.out
                  · rw [decide_eq_false h61] at cP2
                    have rv : Hid _ := hid (rv1.out (Or.inl ⟨Or.inr (Or.inr h62), h61⟩))
                    have g60a : ((c.toNat : Int) == 60) = false := (tn_ne (b := 60) h60).1
                    have g60b : decide ((c.toNat : Int) = 60) = false := (tn_ne (b := 60) h60).2
                    have g62a : ((c.toNat : Int) == 62) = true := (tn_eq (b := 62) h62).1
                    have g62b : decide ((c.toNat : Int) = 62) = true := (tn_eq (b := 62) h62).2
                    clear rv2 rv1 rv0 hp h61 h60 h62 cI hc as2
                    with_reducible refine Calls.mono (cLH.out _) ?_
                    rintro e w2 ⟨rfl, hw⟩
                    subst hw
                    go_wp2_with fail
                    with_reducible refine Calls.mono (cDH.out _) ?_
                    rintro e w2 ⟨rfl, hw⟩
                    subst hw
                    go_wp2_with fail
                    with_reducible refine Calls.mono (cP1.out _) ?_
                    rintro e w2 ⟨rfl, hw⟩
                    subst hw
                    go_wp2_with fail
                    with_reducible refine Calls.mono (cP2.out _) ?_
                    rintro e w2 ⟨rfl, hw⟩
                    subst hw
                    obtain ⟨s0, s1, s2, s3, t0, t1, t2, t3, l4⟩ := A1H.out
                    obtain ⟨x0, x1, x2, x3⟩ := four_cells s0 s1 s2 s3 (.int .u8 6) (.string T1) (.int .i64 0) (.int .i64 0)
                    go_wp2_with fail
                    simp [bodyPost, results, Tryd.results11, go_sem, x0, x1, x2, x3, l4, hN2.out]
                    refine ⟨fin.out _ ?_, B1H.out.trans (four_set _ _ _ _ _ _)⟩
                    exact rv.out
                · have hF : ¬ ((c = 33 ∧ r.head? = some 61) ∨ c = 60 ∨ c = 62) := by
                    rintro (q | q | q)
                    · exact hp q
                    · exact h60 q
                    · exact h62 q
                  have g60a : ((c.toNat : Int) == 60) = false := (tn_ne (b := 60) h60).1
                  have g60b : decide ((c.toNat : Int) = 60) = false := (tn_ne (b := 60) h60).2
                  have g62a : ((c.toNat : Int) == 62) = false := (tn_ne (b := 62) h62).1
                  have g62b : decide ((c.toNat : Int) = 62) = false := (tn_ne (b := 62) h62).2
                  by_cases hs' : c ∈ sgL
                  · have rv : Hid _ := hid (rv1.out (Or.inr ⟨hF, hs'⟩))
                    have i1 := (idx_mem c sgL).2 hs'
                    have i2 : decide (0 ≤ Lib.indexByte sgL c) = true := decide_eq_true i1
                    clear rv2 rv1 rv0 hp h60 h62 hF hs' hc cP2 as2
                    generalize Lib.indexByte sgL c = ix at *
                    with_reducible refine Calls.mono (cLH.out _) ?_
                    rintro e w2 ⟨rfl, hw⟩
                    subst hw
                    go_wp2_with fail
                    with_reducible refine Calls.mono (cDH.out _) ?_
                    rintro e w2 ⟨rfl, hw⟩
                    subst hw
                    go_wp2_with fail
                    with_reducible refine Calls.mono (cP1.out _) ?_
                    rintro e w2 ⟨rfl, hw⟩
                    subst hw
                    go_wp2_with fail
                    with_reducible refine Calls.mono (cI.out _) ?_
                    rintro e w2 ⟨rfl, hw⟩
                    subst hw
                    obtain ⟨s0, s1, s2, s3, t0, t1, t2, t3, l4⟩ := A1H.out
                    obtain ⟨x0, x1, x2, x3⟩ := four_cells s0 s1 s2 s3 (.int .u8 6) (.string T1) (.int .i64 0) (.int .i64 0)
                    go_wp2_with fail
                    simp [bodyPost, results, Tryd.results11, go_sem, x0, x1, x2, x3, l4, hN2.out]
                    refine ⟨fin.out _ ?_, B1H.out.trans (four_set _ _ _ _ _ _)⟩
                    exact rv.out
                  · have rv : Hid (∀ p k, RRes a (readT nmL (c :: r)) (Ending.returned (.tuple #[tokZ, .int .i64 0, atE p k]))) := hid (rv0.out hF hs')
                    have i1 : ¬ 0 ≤ Lib.indexByte sgL c := fun q => hs' ((idx_mem c sgL).1 q)
                    have i2 : decide (0 ≤ Lib.indexByte sgL c) = false := decide_eq_false i1
                    have cA : Hid (∀ W, Calls Tryd.prog 21 #[.int .i64 (a : Int), .int .i64 120] W fun ev w' => ev = .returned (atE (a : Int) 120) ∧ w' = W) := fun W => faultAt_any _ _ rfl W
                    clear rv2 rv1 rv0 hp h60 h62 hF hs' hc cP2 as1 as2
                    generalize Lib.indexByte sgL c = ix at *
                    with_reducible refine Calls.mono (cLH.out _) ?_
                    rintro e w2 ⟨rfl, hw⟩
                    subst hw
                    go_wp2_with fail
                    with_reducible refine Calls.mono (cDH.out _) ?_
                    rintro e w2 ⟨rfl, hw⟩
                    subst hw
                    go_wp2_with fail
                    with_reducible refine Calls.mono (cP1.out _) ?_
                    rintro e w2 ⟨rfl, hw⟩
                    subst hw
                    go_wp2_with fail
                    with_reducible refine Calls.mono (cI.out _) ?_
                    rintro e w2 ⟨rfl, hw⟩
                    subst hw
                    go_wp2_with fail
                    with_reducible refine Calls.mono (cA.out _) ?_
                    rintro e w2 ⟨rfl, hw⟩
                    subst hw
                    obtain ⟨s0, s1, s2, s3, t0, t1, t2, t3, l4⟩ := A1H.out
                    obtain ⟨x0, x1, x2, x3⟩ := four_cells s0 s1 s2 s3 (.int .u8 0) (.string ⟨#[]⟩) (.int .i64 0) (.int .i64 0)
                    go_wp2_with fail
                    simp [bodyPost, results, Tryd.results11, go_sem, x0, x1, x2, x3, l4, hN2.out]
                    refine ⟨fin.out _ ?_, B1H.out.trans (four_set _ _ _ _ _ _)⟩
                    exact rv.out _ _
  · have e1 : a = s.size := by omega
    subst e1
    have k0 : (s.size : Int) ≤ 1048576 := by omega
    have fin : Hid (RRes s.size (readT nmL ((bL s).drop s.size)) (Ending.returned (.tuple #[.agg #[.int .u8 0, .string ⟨#[]⟩, .int .i64 0, .int .i64 0], .int .i64 (s.size : Int), .nilIface]))) := hid (by
      rw [drop_end s s.size (Nat.le_refl _)]
      exact ⟨⟨#[]⟩, rfl, rfl⟩)
    have A1 := KV.new w (.int .u8 0) (.string ⟨#[]⟩) (.int .i64 0) (.int .i64 0)
    have B1 : Below w.heap.size w (w.alloc (.cells #[.int .u8 0, .string ⟨#[]⟩, .int .i64 0, .int .i64 0] 29)) := (Below.refl _ w).alloc (Nat.le_refl _) _
    clear hP
    go_enter Tryd.func11, Tryd.ntmps11
    go_wp2_with fail
    simp [bodyPost, results, Tryd.results11, go_sem]
    exact ⟨fin.out, B1⟩
end Go.Proofs.YtjiiafmbneehhaaDoor.Lx
