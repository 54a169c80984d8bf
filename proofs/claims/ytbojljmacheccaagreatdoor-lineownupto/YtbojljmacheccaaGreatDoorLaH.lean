
import Derived.Test.YtbojljmacheccaaGreatDoorLaD
import Derived.Test.YtbojljmacheccaaGreatDoorLaF
namespace Go.Proofs.YtbojljmacheccaaGreatDoor.Ln
open Go.RowKit Go.Shelf
attribute [local go_sem] Oper.semAt_some
set_option linter.unusedVariables false
set_option linter.unusedSimpArgs false
set_option maxRecDepth 100000
/-! ### the document's reader in memory. -/
def bcL (fl : Option Int) : Int := if fl = none then 0 else 60
theorem rat_l (p : Int) (w : World) : Calls Tryz.prog 122 #[.int .i64 p, .int .i64 60] w fun e w' => e = .returned (.agg #[.int .i64 60, .int .i64 p, .int .i64 0, .bool true, .bool false]) ∧ Below w.heap.size w w' := by
  go_enter Tryz.func122, Tryz.ntmps122
  go_wp2
  simp [bodyPost, results, Tryz.results122, go_sem]
  exact (Below.refl _ w).alloc (Nat.le_refl _) _
def RdE (N : Nat) (s : ByteArray) (st : DSt) (W : World) : Prop := N < W.heap.size ∧ (W.cell? ⟨N, 0, none⟩ = some (.string s) ∧ W.cell? ⟨N, 1, none⟩ = some (.int .i64 (st.1 : Int)) ∧ W.cell? ⟨N, 2, none⟩ = some (.int .i64 (bcL st.2)) ∧ W.cell? ⟨N, 3, none⟩ = some (.int .i64 (st.2.getD 0)) ∧ W.cell? ⟨N, 4, none⟩ = some (.int .i64 0) ∧ W.cell? ⟨N, 5, none⟩ = some (.bool st.2.isSome) ∧ W.cell? ⟨N, 6, none⟩ = some (.bool false)) ∧ ∀ i, i < 7 → W.frozen? ⟨N, i, none⟩ = false
theorem RdE.below {N B : Nat} {s : ByteArray} {st : DSt} {W W' : World} (h : RdE N s st W) (hb : Below B W W') (hN : N < B) : RdE N s st W' := by
  obtain ⟨h0, ⟨h1, h2, h3, h4, h5, h6, h7⟩, h8⟩ := h
  have c : ∀ o, W'.cell? ⟨N, o, none⟩ = W.cell? ⟨N, o, none⟩ := fun o => hb.cell (p := ⟨N, o, none⟩) hN
  exact ⟨Nat.lt_of_lt_of_le h0 hb.size, ⟨by rw [c]; exact h1, by rw [c]; exact h2, by rw [c]; exact h3, by rw [c]; exact h4, by rw [c]; exact h5, by rw [c]; exact h6, by rw [c]; exact h7⟩, fun i hi => by rw [hb.frozen (p := ⟨N, i, none⟩) hN]; exact h8 i hi⟩
theorem RdE.set1 {N : Nat} {s : ByteArray} {st : DSt} {W : World} (h : RdE N s st W) (j : Nat) : RdE N s (j, st.2) (W.setCell ⟨N, 1, none⟩ (.int .i64 (j : Int))) := by
  obtain ⟨h0, ⟨h1, h2, h3, h4, h5, h6, h7⟩, h8⟩ := h
  exact ⟨by simpa using h0, ⟨by simp [go_sem, h1], World.cell?_setCell_same _ _ _ h2, by simp [go_sem, h3], by simp [go_sem, h4], by simp [go_sem, h5], by simp [go_sem, h6], by simp [go_sem, h7]⟩, fun i hi => by have := h8 i hi; simp [go_sem, this]⟩
def setB (W : World) (N : Nat) (p : Int) : World := ((((W.setCell ⟨N, 2, none⟩ (.int .i64 60)).setCell ⟨N, 3, none⟩ (.int .i64 p)).setCell ⟨N, 4, none⟩ (.int .i64 0)).setCell ⟨N, 5, none⟩ (.bool true)).setCell ⟨N, 6, none⟩ (.bool false)
theorem RdE.setB {N : Nat} {s : ByteArray} {st : DSt} {W : World} (h : RdE N s st W) (p : Int) : RdE N s (st.1, some p) (setB W N p) := by
  obtain ⟨h0, ⟨h1, h2, h3, h4, h5, h6, h7⟩, h8⟩ := h
  unfold Ln.setB
  refine ⟨by simpa using h0, ⟨by simp [go_sem, h1], by simp [go_sem, h2], ?_, ?_, ?_, ?_, ?_⟩, fun i hi => by have := h8 i hi; simp [go_sem, this]⟩
  · show _ = some (Value.int .i64 60); simp [go_sem, h3]
  · simp [go_sem, h4]
  · simp [go_sem, h5]
  · simp [go_sem, h6]
  · simp [go_sem, h7]
theorem setB_grown (W : World) (N : Nat) (p : Int) : W.grownBy (setB W N p) (some N) := by
  unfold setB
  exact grown_trans (grown_trans (grown_trans (grown_trans (grown_set _ N 2 _) (grown_set _ N 3 _)) (grown_set _ N 4 _)) (grown_set _ N 5 _)) (grown_set _ N 6 _)
end Go.Proofs.YtbojljmacheccaaGreatDoor.Ln

namespace Go.Proofs.YtbojljmacheccaaGreatDoor.Ln
open Go.RowKit Go.Shelf
attribute [local go_sem] Oper.semAt_some
set_option linter.unusedVariables false
set_option linter.unusedSimpArgs false
set_option maxRecDepth 100000
/-! ### the document's reader: fail, is, must, piece, number. -/
set_option maxHeartbeats 4000000 in
theorem fail_r (N : Nat) (s : ByteArray) (st : DSt) (p : Int) (W : World) (h : RdE N s st W) : Calls Tryz.prog 127 #[.pointer (some ⟨N, 0, none⟩), .int .i64 p] W fun e w' => e = .returned undef ∧ RdE N s (failD st p) w' ∧ W.grownBy w' (some N) := by
  obtain ⟨k, fl⟩ := st
  have hh : Hid (RdE N s (k, fl) W) := h
  have h0 := h.1
  cases fl with
  | none =>
    have h3 : W.cell? ⟨N, 2, none⟩ = some (.int .i64 0) := h.2.1.2.2.1
    have ca : Hid (Calls Tryz.prog 122 #[.int .i64 p, .int .i64 60] W fun e w' => e = .returned (.agg #[.int .i64 60, .int .i64 p, .int .i64 0, .bool true, .bool false]) ∧ Below W.heap.size W w') := rat_l p W
    have on : Hid (∀ w1, Below W.heap.size W w1 → RdE N s (k, none) w1) := fun w1 b => hh.out.below b h0
    have fin : Hid (∀ w1, Below W.heap.size W w1 → RdE N s (failD (k, none) p) (setB w1 N p) ∧ W.grownBy (setB w1 N p) (some N)) := fun w1 b => ⟨(hh.out.below b h0).setB p, grown_trans (grown_of_below N b) (setB_grown w1 N p)⟩
    clear h
    go_enter Tryz.func127, Tryz.ntmps127
    go_wp2_with fail
    refine Calls.mono ca.out ?_
    rintro e w1 ⟨rfl, B⟩
    have R1 := on.out _ B
    obtain ⟨_, ⟨b1, b2, b3, b4, b5, b6, b7⟩, g0⟩ := R1
    have g2 := g0 2 (by omega)
    have g3 := g0 3 (by omega)
    have g4 := g0 4 (by omega)
    have g5 := g0 5 (by omega)
    have g6 := g0 6 (by omega)
    have F := fin.out _ B
    have FH : Hid (RdE N s (failD (k, none) p) (setB w1 N p) ∧ W.grownBy (setB w1 N p) (some N)) := F
    clear g0 b1 b2 F B
    go_wp2_with fail
    first | go_end0 | (simp only [Exit.inBlock, Exit.then]; refine bodyPost_ret (results_none rfl _ _ _) rfl ?_) | refine bodyPost_ret (results_none rfl _ _ _) rfl ?_
    exact ⟨rfl, FH.out⟩
  | some q =>
    have h3 : W.cell? ⟨N, 2, none⟩ = some (.int .i64 60) := h.2.1.2.2.1
    clear h
    go_enter Tryz.func127, Tryz.ntmps127
    go_wp2_with fail
    first | go_end0 | (simp only [Exit.inBlock, Exit.then]; refine bodyPost_ret (results_none rfl _ _ _) rfl ?_) | refine bodyPost_ret (results_none rfl _ _ _) rfl ?_
    exact ⟨rfl, hh.out, grown_refl _ _⟩
set_option maxHeartbeats 4000000 in
theorem is_r (N : Nat) (s : ByteArray) (c : UInt8) (st : DSt) (W : World) (h : RdE N s st W) (hst : st.1 ≤ s.size) (hs : s.size ≤ 1048576) : Calls Tryz.prog 124 #[.pointer (some ⟨N, 0, none⟩), .int .u8 (c.toNat : Int)] W fun e w' => e = .returned (.bool (isD s.data.toList c st)) ∧ RdE N s st w' ∧ W.grownBy w' (some N) := by
  obtain ⟨k, fl⟩ := st
  dsimp only at hst
  have hh : Hid (RdE N s (k, fl) W) := h
  have h0 := h.1
  have h1 := h.2.1.1
  have h2 : W.cell? ⟨N, 1, none⟩ = some (.int .i64 (k : Int)) := h.2.1.2.1
  have hd : Hid (∀ q, RdE N s (k, fl) (W.drewN q) ∧ W.grownBy (W.drewN q) (some N)) := fun q => ⟨hh.out.below (bdrewN (Below.refl W.heap.size W) q) h0, grown_of_below N (bdrewN (Below.refl _ W) q)⟩
  have hd1 : Hid (RdE N s (k, fl) W ∧ W.grownBy W (some N)) := ⟨hh.out, grown_refl _ _⟩
  have k0 : (0 : Int) ≤ (k : Int) := by omega
  cases fl with
  | some q =>
    have h3 : W.cell? ⟨N, 2, none⟩ = some (.int .i64 60) := h.2.1.2.2.1
    have e : isD s.data.toList c (k, some q) = false := rfl
    rw [e]
    clear h
    go_enter Tryz.func124, Tryz.ntmps124
    go_wp2_with fail
    try go_quiet (fail)
    try go_wp2_with fail
    go_ret
    first | exact ⟨rfl, hd1.out⟩ | exact ⟨rfl, hd.out _⟩
  | none =>
    have h3 : W.cell? ⟨N, 2, none⟩ = some (.int .i64 0) := h.2.1.2.2.1
    clear h
    by_cases hk : k < s.size
    · have hkI : (k : Int) < (s.size : Int) := by omega
      obtain ⟨x, hx⟩ : ∃ x, s.get! k = x := ⟨_, rfl⟩
      have hsk : s[k]'hk = x := get_at s k hk x hx
      have hdr : (s.data.toList.drop k).head? = some x := by rw [drop_at s k hk, hx]; rfl
      by_cases hc : x = c
      · have hcI : ((x.toNat : Int) == (c.toNat : Int)) = true := by rw [hc]; simp
        have e : isD s.data.toList c (k, none) = true := is_tt (by rw [hdr, hc])
        rw [e]
        subst hc
        clear hdr hx e
        go_enter Tryz.func124, Tryz.ntmps124
        go_wp2_with fail
        try go_quiet (fail)
        try go_wp2_with fail
        go_ret
        first | exact ⟨rfl, hd1.out⟩ | exact ⟨rfl, hd.out _⟩
      · have hcI : ((x.toNat : Int) == (c.toNat : Int)) = false := by
          have : x.toNat ≠ c.toNat := fun h => hc (UInt8.toNat_inj.1 h)
          simp; omega
        have e : isD s.data.toList c (k, none) = false := is_ff (by rw [hdr]; intro q; exact hc (Option.some.inj q))
        rw [e]
        clear hdr hx e hc
        go_enter Tryz.func124, Tryz.ntmps124
        go_wp2_with fail
        try go_quiet (fail)
        try go_wp2_with fail
        go_ret
        first | exact ⟨rfl, hd1.out⟩ | exact ⟨rfl, hd.out _⟩
    · have hkI : ¬ (k : Int) < (s.size : Int) := by omega
      have e : isD s.data.toList c (k, none) = false := is_ff (by rw [List.drop_eq_nil_of_le (by rw [lenB]; omega)]; simp)
      rw [e]
      clear e
      go_enter Tryz.func124, Tryz.ntmps124
      go_wp2_with fail
      try go_quiet (fail)
      try go_wp2_with fail
      go_ret
      first | exact ⟨rfl, hd1.out⟩ | exact ⟨rfl, hd.out _⟩
set_option maxHeartbeats 4000000 in
theorem must_r (N : Nat) (s : ByteArray) (c : UInt8) (st : DSt) (W : World) (h : RdE N s st W) (hst : st.1 ≤ s.size) (hs : s.size ≤ 1048576) : Calls Tryz.prog 125 #[.pointer (some ⟨N, 0, none⟩), .int .u8 (c.toNat : Int)] W fun e w' => e = .returned undef ∧ RdE N s (mustD s.data.toList c st) w' ∧ W.grownBy w' (some N) := by
  have ci : Hid (Calls Tryz.prog 124 #[.pointer (some ⟨N, 0, none⟩), .int .u8 (c.toNat : Int)] W fun e w' => e = .returned (.bool (isD s.data.toList c st)) ∧ RdE N s st w' ∧ W.grownBy w' (some N)) := is_r N s c st W h hst hs
  have cF : Hid (∀ w1, RdE N s st w1 → Calls Tryz.prog 127 #[.pointer (some ⟨N, 0, none⟩), .int .i64 (st.1 : Int)] w1 fun e w' => e = .returned undef ∧ RdE N s (failD st (st.1 : Int)) w' ∧ w1.grownBy w' (some N)) := fun w1 r => fail_r N s st _ w1 r
  have hc2 : Hid (∀ w1, RdE N s st w1 → w1.cell? ⟨N, 1, none⟩ = some (.int .i64 (st.1 : Int)) ∧ w1.frozen? ⟨N, 1, none⟩ = false) := fun w1 r => ⟨r.2.1.2.1, r.2.2 1 (by omega)⟩
  have wk : wrap64 ((st.1 : Int) + 1) = (st.1 : Int) + 1 := IntWalk.wrap64_in _ (by omega)
  have wi : IntKind.i64.wrap ((st.1 : Int) + 1) = (st.1 : Int) + 1 := IntWalk.i64_in _ (by omega)
  obtain ⟨b, hb⟩ : ∃ b, isD s.data.toList c st = b := ⟨_, rfl⟩
  rw [hb] at ci
  cases b with
  | true =>
    have e : mustD s.data.toList c st = (st.1 + 1, none) := by unfold mustD; rw [if_pos hb]
    have hfl : st.2 = none := (is_lt hb).2
    rw [e]
    have fin : Hid (∀ w1, RdE N s st w1 → W.grownBy w1 (some N) → RdE N s (st.1 + 1, none) (w1.setCell ⟨N, 1, none⟩ (.int .i64 ((st.1 : Int) + 1))) ∧ W.grownBy (w1.setCell ⟨N, 1, none⟩ (.int .i64 ((st.1 : Int) + 1))) (some N)) := fun w1 r g => ⟨by have := r.set1 (st.1 + 1); rw [hfl] at this; exact this, grown_trans g (grown_set _ N 1 _)⟩
    clear e hb h hst
    generalize st.1 = k at *
    go_enter Tryz.func125, Tryz.ntmps125
    go_wp2_with fail
    refine Calls.mono ci.out ?_
    rintro e w1 ⟨rfl, R1, G1⟩
    obtain ⟨q1, q2⟩ := hc2.out _ R1
    have F := fin.out _ R1 G1
    have FH : Hid (RdE N s (k + 1, none) (w1.setCell ⟨N, 1, none⟩ (.int .i64 ((k : Int) + 1))) ∧ W.grownBy (w1.setCell ⟨N, 1, none⟩ (.int .i64 ((k : Int) + 1))) (some N)) := F
    clear F R1 G1
    go_wp2_with fail
    first | go_end0 | (simp only [Exit.inBlock, Exit.then]; refine bodyPost_ret (results_none rfl _ _ _) rfl ?_) | refine bodyPost_ret (results_none rfl _ _ _) rfl ?_
    exact ⟨rfl, FH.out⟩
  | false =>
    have e : mustD s.data.toList c st = failD st (st.1 : Int) := by unfold mustD; rw [if_neg (by rw [hb]; simp)]
    rw [e]
    clear e hb h hst
    obtain ⟨st2, hst2⟩ : ∃ st2, failD st (st.1 : Int) = st2 := ⟨_, rfl⟩
    rw [hst2] at cF ⊢
    clear hst2
    go_enter Tryz.func125, Tryz.ntmps125
    go_wp2_with fail
    refine Calls.mono ci.out ?_
    rintro e w1 ⟨rfl, R1, G1⟩
    obtain ⟨q1, q2⟩ := hc2.out _ R1
    have GH : Hid (W.grownBy w1 (some N)) := G1
    clear G1
    go_wp2_with fail
    refine Calls.mono (cF.out _ R1) ?_
    rintro e w2 ⟨rfl, R2, G2⟩
    have FH : Hid (RdE N s st2 w2 ∧ W.grownBy w2 (some N)) := ⟨R2, grown_trans GH.out G2⟩
    clear R2 G2
    go_wp2_with fail
    first | go_end0 | (simp only [Exit.inBlock, Exit.then]; refine bodyPost_ret (results_none rfl _ _ _) rfl ?_) | refine bodyPost_ret (results_none rfl _ _ _) rfl ?_
    exact ⟨rfl, FH.out⟩
end Go.Proofs.YtbojljmacheccaaGreatDoor.Ln
