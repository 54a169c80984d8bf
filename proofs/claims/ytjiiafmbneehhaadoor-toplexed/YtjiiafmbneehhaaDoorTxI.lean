
import Derived.Test.YtjiiafmbneehhaaDoorTxH
namespace Go.Proofs.YtjiiafmbneehhaaDoor.Lx
open Go.RowKit Go.Shelf
set_option linter.unusedVariables false
set_option linter.unusedSimpArgs false
set_option maxRecDepth 100000
/-- what Next tells. -/
def XRes (p : Nat) (R : Option (Tok × Nat)) (e : Ending) : Prop := match R with
  | some x => ∃ T : ByteArray, e = .returned (.tuple #[.agg #[.int .u8 (x.1.k : Int), .string T, .int .i64 x.1.n, .int .i64 (p : Int)], .int .i64 ((p + x.2 : Nat) : Int), .nilIface]) ∧ bL T = x.1.t
  | none => ∃ q c, e = .returned (.tuple #[tokZ, .int .i64 0, atE q c])
/-- all that is told of Next at a place. -/
def NX (s : ByteArray) (a : Nat) (e : Ending) : Prop := ∃ p, a ≤ p ∧ p ≤ s.size ∧ skipL ((bL s).drop a) = (bL s).drop p ∧ XRes p (readT nmL ((bL s).drop p)) e
set_option maxHeartbeats 2000000 in
theorem lnext_any (s : ByteArray) (hs : s.size ≤ 1048576) (a : Nat) (ha : a ≤ s.size) (w : World) (hP : PT w) : Calls Tryd.prog 8 #[.string s, .int .i64 (a : Int)] w fun e w' => NX s a e ∧ Below w.heap.size w w' := by
  obtain ⟨SK, hSK⟩ : ∃ SK, skipL ((bL s).drop a) = SK := ⟨_, rfl⟩
  have fin : Hid (∀ p e, a ≤ p → p ≤ s.size → (bL s).drop p = SK → XRes p (readT nmL SK) e → NX s a e) := fun p e h1 h2 h3 h4 => ⟨p, h1, h2, by rw [hSK, h3], by rw [h3]; exact h4⟩
  have sk0 : Hid (skipL ((bL s).drop a) = SK) := hSK
  clear hSK
  have a0 : (0 : Int) ≤ (a : Int) := by omega
  have a1 : ¬ (a : Int) < 0 := by omega
  have a2 : ¬ (s.size : Int) < (a : Int) := by omega
  have a3 : (a : Int) ≤ (s.size : Int) := by omega
  go_enter Tryd.func8, Tryd.ntmps8
  go_wp2_with fail
  have A1 := KV.new w (.int .u8 0) (.string ⟨#[]⟩) (.int .i64 0) (.int .i64 0)
  have B1 : Below w.heap.size w (w.alloc (.cells #[.int .u8 0, .string ⟨#[]⟩, .int .i64 0, .int .i64 0] 29)) := (Below.refl _ w).alloc (Nat.le_refl _) _
  generalize World.alloc w _ = W1 at A1 B1 ⊢
  have cX : Hid (∀ k, k ≤ s.size → Calls Tryd.prog 11 #[.string s, .int .i64 (k : Int)] W1 fun e w' => RRes k (readT nmL ((bL s).drop k)) e ∧ Below W1.heap.size W1 w') := fun k hk => lread_any s hs k hk W1 (hP.on B1)
  generalize hN : w.heap.size = N at *
  have B1H : Hid (Below N w W1) := B1
  have A1H : Hid (KV N (.int .u8 0) (.string ⟨#[]⟩) (.int .i64 0) (.int .i64 0) W1) := A1
  have hN2 : Hid (w.heap.size = N) := hN
  clear A1 B1 hN hP
  go_loopw [1] (fun v1 wr => ∃ k : Nat, v1 = .int .i64 (k : Int) ∧ a ≤ k ∧ k ≤ s.size ∧ Hid (skipL ((bL s).drop k) = SK) ∧ wr = W1) (fun v1 _ => s.size - (intOf v1).toNat)
  case atStart => exact ⟨a, rfl, Nat.le_refl _, ha, sk0, rfl⟩
  case round =>
    clear sk0 a0 a1 a2 a3
    obtain ⟨k, rfl, hak, hk, hr, rfl⟩ := hrel
    have k0 : (0 : Int) ≤ (k : Int) := by omega
    by_cases hlt : k < s.size
    · have kI : (k : Int) < (s.size : Int) := by omega
      have kw : IntKind.i64.wrap ((k : Int) + 1) = ((k + 1 : Nat) : Int) := IntWalk.i64_in _ (by omega)
      have e0 := drop_at s k hlt
      have cB0 := fun W => blank_n (s[k].toNat) W
      have r1 : skipL ((bL s).drop k) = if isB s[k] = true then skipL ((bL s).drop (k + 1)) else s[k] :: (bL s).drop (k + 1) := by rw [e0]; rfl
      rw [bN_is] at r1
      cases hl : bN s[k].toNat with
      | true =>
        rw [hl] at cB0 r1
        have cB : Hid (∀ W, Calls Tryd.prog 10 #[.int .u8 (s[k].toNat : Int)] W fun e w' => e = .returned (.bool true) ∧ w' = W) := cB0
        have h2 : Hid (skipL ((bL s).drop (k + 1)) = SK) := hid (by rw [← hr.out, r1]; rfl)
        clear cB0 r1 e0 hr hl
        go_wp2_with fail
        with_reducible refine Calls.mono (cB.out _) ?_
        rintro e w2 ⟨rfl, hw⟩
        subst hw
        go_wp2_with fail
        exact ⟨⟨k + 1, by first | rfl | (rw [kw]), by omega, hlt, h2, by first | rfl | trivial⟩, by first | (simp [intOf]; done) | (simp [intOf]; omega)⟩
      | false =>
        rw [hl] at cB0 r1
        have cB : Hid (∀ W, Calls Tryd.prog 10 #[.int .u8 (s[k].toNat : Int)] W fun e w' => e = .returned (.bool false) ∧ w' = W) := cB0
        have h2 : Hid ((bL s).drop k = SK) := hid (by rw [← hr.out, r1, e0]; rfl)
        clear cB0 r1 e0 hr hl
        go_wp2_with fail
        with_reducible refine Calls.mono (cB.out _) ?_
        rintro e w2 ⟨rfl, hw⟩
        subst hw
        go_wp2_with fail
        with_reducible refine Calls.mono (cX.out _ hk) ?_
        rintro e w3 ⟨hq, b3⟩
        rw [h2.out] at hq
        have A3 := A1H.out.below b3 (A1H.out.lt)
        have B3 := B1H.out.trans (b3.mono (Nat.le_of_lt A1H.out.lt))
        clear b3 cX
        cases hR : readT nmL SK with
        | none =>
          rw [hR] at hq
          obtain ⟨q, c, rfl⟩ := hq
          unfold tokZ atE
          obtain ⟨s0, s1, s2, s3, t0, t1, t2, t3, l4⟩ := A3
          obtain ⟨x0, x1, x2, x3⟩ := four_cells s0 s1 s2 s3 (.int .u8 0) (.string ⟨#[]⟩) (.int .i64 0) (.int .i64 0)
          have hRH : Hid (readT nmL SK = none) := hR
          clear hR
          go_wp2_with fail
          simp [bodyPost, results, Tryd.results8, go_sem, x0, x1, x2, x3, l4, hN2.out]
          have Bz := B3.trans (four_set w3 N (.int .u8 0) (.string ⟨#[]⟩) (.int .i64 0) (.int .i64 0))
          refine ⟨fin.out k _ hak hk h2.out ?_, Bz.alloc (by have := Bz.size; have := hN2.out; omega) _⟩
          rw [hRH.out]
          exact ⟨_, _, rfl⟩
        | some x =>
          rw [hR] at hq
          obtain ⟨T, rfl, hT⟩ := hq
          have hRH : Hid (readT nmL SK = some x) := hR
          have hTH : Hid (bL T = x.1.t) := hT
          clear hR hT
          obtain ⟨s0, s1, s2, s3, t0, t1, t2, t3, l4⟩ := A3
          obtain ⟨x0, x1, x2, x3⟩ := four_cells s0 s1 s2 s3 (.int .u8 (x.1.k : Int)) (.string T) (.int .i64 x.1.n) (.int .i64 (k : Int))
          go_wp2_with fail
          simp [bodyPost, results, Tryd.results8, go_sem, x0, x1, x2, x3, l4, hN2.out]
          have Bz := B3.trans (four_set w3 N (.int .u8 (x.1.k : Int)) (.string T) (.int .i64 x.1.n) (.int .i64 (k : Int)))
          refine ⟨fin.out k _ hak hk h2.out ?_, Bz.alloc (by have := Bz.size; have := hN2.out; omega) _⟩
          rw [hRH.out]
          exact ⟨T, rfl, hTH.out⟩
    · have kI : ¬ (k : Int) < (s.size : Int) := by omega
      have h2 : Hid ((bL s).drop k = SK) := hid (by
        have := hr.out
        rw [drop_end s k (by omega)] at this ⊢
        exact this)
      clear hr
      go_wp2_with fail
      with_reducible refine Calls.mono (cX.out _ hk) ?_
      rintro e w3 ⟨hq, b3⟩
      rw [h2.out] at hq
      have A3 := A1H.out.below b3 (A1H.out.lt)
      have B3 := B1H.out.trans (b3.mono (Nat.le_of_lt A1H.out.lt))
      clear b3 cX
      cases hR : readT nmL SK with
      | none =>
        rw [hR] at hq
        obtain ⟨q, c, rfl⟩ := hq
        unfold tokZ atE
        obtain ⟨s0, s1, s2, s3, t0, t1, t2, t3, l4⟩ := A3
        obtain ⟨x0, x1, x2, x3⟩ := four_cells s0 s1 s2 s3 (.int .u8 0) (.string ⟨#[]⟩) (.int .i64 0) (.int .i64 0)
        have hRH : Hid (readT nmL SK = none) := hR
        clear hR
        go_wp2_with fail
        simp [bodyPost, results, Tryd.results8, go_sem, x0, x1, x2, x3, l4, hN2.out]
        have Bz := B3.trans (four_set w3 N (.int .u8 0) (.string ⟨#[]⟩) (.int .i64 0) (.int .i64 0))
        refine ⟨fin.out k _ hak hk h2.out ?_, Bz.alloc (by have := Bz.size; have := hN2.out; omega) _⟩
        rw [hRH.out]
        exact ⟨_, _, rfl⟩
      | some x =>
        rw [hR] at hq
        obtain ⟨T, rfl, hT⟩ := hq
        have hRH : Hid (readT nmL SK = some x) := hR
        have hTH : Hid (bL T = x.1.t) := hT
        clear hR hT
        obtain ⟨s0, s1, s2, s3, t0, t1, t2, t3, l4⟩ := A3
        obtain ⟨x0, x1, x2, x3⟩ := four_cells s0 s1 s2 s3 (.int .u8 (x.1.k : Int)) (.string T) (.int .i64 x.1.n) (.int .i64 (k : Int))
        go_wp2_with fail
        simp [bodyPost, results, Tryd.results8, go_sem, x0, x1, x2, x3, l4, hN2.out]
        have Bz := B3.trans (four_set w3 N (.int .u8 (x.1.k : Int)) (.string T) (.int .i64 x.1.n) (.int .i64 (k : Int)))
        refine ⟨fin.out k _ hak hk h2.out ?_, Bz.alloc (by have := Bz.size; have := hN2.out; omega) _⟩
        rw [hRH.out]
        exact ⟨T, rfl, hTH.out⟩
end Go.Proofs.YtjiiafmbneehhaaDoor.Lx
