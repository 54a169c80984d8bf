
import Derived.Test.YtepgcgphnjlcoaaDoorRgBq
namespace Go.Proofs.YtepgcgphnjlcoaaDoor
open Go.RowKit
set_option linter.unusedVariables false
set_option linter.unusedSimpArgs false
section
variable {N : Nat} {w1 : World} {a : Option Addr} {n cap p r : Nat} {bs : Nat → Nat} {fv : Option (Int × Int)} {w : World}
theorem RR.bytes256 (h : RR N w1 a n cap bs p r fv w) : ∀ i, i < n → bs i < 256 := by
  rcases h.row with h0 | ⟨b, off, _, _, _, hB⟩
  · intro i hi; omega
  · exact fun i hi => (hB i hi).2
theorem startF_none (h : startF bs p r fv = none) : fv = none ∧ ¬ (r ≠ 0 ∧ bs (p - 1) % 2 ^ r ≠ 0) := by
  unfold startF at h
  cases fv with
  | some x => simp at h
  | none =>
    refine ⟨rfl, ?_⟩
    cases hg : ragb bs p r with
    | true => simp [hg] at h
    | false => exact of_decide_eq_false hg
/-- a number, where the Reader may begin. -/
def NumE (bs : Nat → Nat) (n p : Nat) (fv : Option (Int × Int)) (e : Ending) : Prop :=
  (∃ q, numS bs n p 10 0 0 = .inl q ∧ fv = some q ∧ e = .returned (.tuple #[.int .u64 0, .int .i64 0])) ∨ (∃ x l : Nat, numS bs n p 10 0 0 = .inr (x, l) ∧ fv = none ∧ e = .returned (.tuple #[.int .u64 (x : Int), .int .i64 (l : Int)]))
set_option maxRecDepth 100000 in
set_option maxHeartbeats 8000000 in
theorem number_gen (h : RR N w1 a n cap bs p r none w) (hr : ¬ (r ≠ 0 ∧ bs (p - 1) % 2 ^ r ≠ 0)) :
    Calls Tryd.prog 69 #[.pointer (some ⟨N, 0, none⟩)] w fun e w' => (∃ fv', NumE bs n p fv' e ∧ RR N w1 a n cap bs p r fv' w') ∧ RF N w w' := by
  have hS : Hid _ := starts_ok h hr
  have hnn := h.nb
  have hpp := h.pn
  clear h hr
  go_enter Tryd.func69, Tryd.ntmps69
  go_wp2_with fail
  refine Calls.mono hS.out ?_
  rintro e w2 ⟨rfl, h2, F2⟩
  go_wp2_with fail
  go_loopw [2, 3] (fun v s wr => ∃ k V : Nat, k ≤ 9 ∧ V < 128 ^ k ∧ v = .int .u64 (V : Int) ∧ s = .int .i64 (k : Int) ∧ RR N w1 a n cap bs p r none wr ∧ RF N w wr ∧ numS bs n p (10 - k) k V = numS bs n p 10 0 0) (fun _ s _ => 10 - (intOf s).toNat)
  case atStart => exact ⟨0, 0, by omega, by simp, rfl, rfl, h2, F2, rfl⟩
  case round =>
    clear h2 F2
    obtain ⟨k, V, hk, hV, rfl, rfl, hW, hF, hnum⟩ := hrel
    obtain ⟨f, hf⟩ : ∃ f, 10 - k = f + 1 := ⟨9 - k, by omega⟩
    rw [hf] at hnum
    have hnumH : Hid _ := hnum
    have hH := has_gen hW (k + 1) ((k : Int) + 1) (by omega)
    by_cases hm : n < p + (k + 1)
    · rw [show hasF n p (k + 1) none = some ((n : Int), 30) by simp [hasF, hm]] at hH
      have hHH : Hid _ := hH
      have hres : Hid (numS bs n p 10 0 0 = .inl ((n : Int), 30)) := (by rw [← hnum]; unfold numS; rw [if_pos hm] : numS bs n p 10 0 0 = .inl ((n : Int), 30))
      clear hH hW hnum
      go_wp2_with fail
      refine Calls.mono hHH.out ?_
      rintro e w3 ⟨rfl, h3, F3⟩
      have h3H : Hid _ := h3
      clear h3
      go_wp2_with fail
      simp [bodyPost, results, Tryd.results69, go_sem]
      exact ⟨⟨_, Or.inl ⟨_, hres.out, rfl, rfl⟩, h3H.out⟩, hF.trans F3⟩
    · rw [show hasF n p (k + 1) none = none by simp [hasF, hm]] at hH
      have hHH : Hid _ := hH
      clear hH
      go_wp2_with fail
      refine Calls.mono hHH.out ?_
      rintro e w3 ⟨rfl, h3, F3⟩
      have c0 := h3.c0
      have c1 := h3.c1
      rcases h3.row with h0 | ⟨b, off, rfl, hb, hbN, hB⟩
      · omega
      obtain ⟨q, hq⟩ : ∃ q, q = p + k := ⟨_, rfl⟩
      obtain ⟨hc, hylt⟩ := hB q (by omega)
      obtain ⟨y, hy⟩ : ∃ y, y = bs q := ⟨_, rfl⟩
      rw [← hy] at hc hylt
      have hqI : (p : Int) + (k : Int) = (q : Int) := by omega
      have hq0 : (0 : Int) ≤ (q : Int) := by omega
      have hqn : (q : Int) < (n : Int) := by omega
      obtain ⟨t, ht⟩ : ∃ t, t = 7 * k := ⟨_, rfl⟩
      have htI : (7 : Int) * (k : Int) = (t : Int) := by omega
      have hyp : bs (p + k) = y := by rw [← hq]; exact hy.symm
      unfold numS at hnum
      rw [if_neg hm, hyp] at hnum
      have hnum2 : Hid _ := hnum
      have hFa : Hid (∀ j, Calls Tryd.prog 70 #[.pointer (some ⟨N, 0, none⟩), .int .i64 (q : Int), .int .i64 31] (w3.drewN j) fun ev w' => ev = .returned undef ∧ RR N w1 (some ⟨b, off, none⟩) n cap bs p r (some ((q : Int), 31)) w' ∧ RF N (w3.drewN j) w') := fun j => fail_any (h3.drewN j) _ 31 rfl
      have hFF : RF N w w3 := hF.trans F3
      have h3H : Hid _ := h3
      have hqH : Hid _ := hq
      clear hB h3 hq hy hnum hnumH hHH hyp hW F3 hF
      go_wp2_with fail
      go_quiet (fail)
      by_cases hbad : (k = 9 ∧ 1 < y) ∨ (0 < k ∧ y = 0)
      · have hres : Hid (numS bs n p 10 0 0 = .inl ((q : Int), 31)) := (by
          have h7 := hnum2.out
          rw [if_pos hbad] at h7
          refine h7.symm.trans ?_
          rw [hqH.out] : numS bs n p 10 0 0 = .inl ((q : Int), 31))
        clear hnum2
        by_cases hk9 : k = 9
        · have hqI9 : (p : Int) + 9 = (q : Int) := by omega
          have hk9I : (k : Int) = 9 := by omega
          rcases Nat.lt_or_ge 1 y with hy1 | hy1
          · have hy1I : (1 : Int) < (y : Int) := by omega
            clear hbad hqI htI ht
            go_wp2_with fail
            refine Calls.mono (hFa.out _) ?_
            rintro e w4 ⟨rfl, h4, F4⟩
            have h4H : Hid _ := h4
            clear h4
            go_wp2_with fail
            simp [bodyPost, results, Tryd.results69, go_sem]
            exact ⟨⟨_, Or.inl ⟨_, hres.out, rfl, rfl⟩, h4H.out⟩, (hFF.trans (RF.drewN _ _)).trans F4⟩
          · have hy0 : y = 0 := by omega
            subst hy0
            clear hbad hqI htI ht
            go_wp2_with fail
            refine Calls.mono (hFa.out _) ?_
            rintro e w4 ⟨rfl, h4, F4⟩
            have h4H : Hid _ := h4
            clear h4
            go_wp2_with fail
            simp [bodyPost, results, Tryd.results69, go_sem]
            exact ⟨⟨_, Or.inl ⟨_, hres.out, rfl, rfl⟩, h4H.out⟩, (hFF.trans (RF.drewN _ _)).trans F4⟩
        · have hkI : ¬ (k : Int) = 9 := by omega
          have hk0 : (0 : Int) < (k : Int) := by omega
          have hk0' : 0 < k := by omega
          have hy0 : y = 0 := by omega
          subst hy0
          clear hbad htI ht hk9
          go_wp2_with fail
          refine Calls.mono (hFa.out _) ?_
          rintro e w4 ⟨rfl, h4, F4⟩
          have h4H : Hid _ := h4
          clear h4
          go_wp2_with fail
          simp [bodyPost, results, Tryd.results69, go_sem]
          exact ⟨⟨_, Or.inl ⟨_, hres.out, rfl, rfl⟩, h4H.out⟩, (hFF.trans (RF.drewN _ _)).trans F4⟩
      · have hyc : Hid ((k ≠ 9 ∨ y = 1) ∧ (k = 0 ∨ 1 ≤ y)) := (by omega : (k ≠ 9 ∨ y = 1) ∧ (k = 0 ∨ 1 ≤ y))
        have hnum3 := hnum2.out
        rw [if_neg hbad] at hnum3
        clear hnum2 hbad
        obtain ⟨Y, hY⟩ : ∃ Y, Y = y % 128 := ⟨_, rfl⟩
        have hYlt : Y < 128 := by rw [hY]; exact Nat.mod_lt _ (by omega)
        obtain ⟨D, hD⟩ : ∃ D, D = Y * 2 ^ t := ⟨_, rfl⟩
        have hDk : Y * 128 ^ k = D := by rw [hD, ht, p128]
        have hpk : 128 ^ k = 2 ^ t := by rw [ht, p128]
        have hDlt : V + D < 18446744073709551616 ∧ (V + D < 128 ^ (k + 1)) := by
          have hle : Y * 128 ^ k ≤ 127 * 128 ^ k := Nat.mul_le_mul_right _ (by omega)
          have h2 : V + D < 128 ^ (k + 1) := by rw [← hDk, Nat.pow_succ]; omega
          refine ⟨?_, h2⟩
          by_cases h9 : k = 9
          · have hy1 : y = 1 := by have := hyc.out.1; omega
            have hY1 : Y = 1 := by rw [hY, hy1]
            subst h9
            rw [hY1] at hDk
            omega
          · have h11 : 128 ^ (k + 1) ≤ 128 ^ 9 := Nat.pow_le_pow_right (by omega) (by omega)
            omega
        rw [← hY, hDk] at hnum3
        obtain ⟨V2, hV2⟩ : ∃ V2, V2 = V + D := ⟨_, rfl⟩
        rw [← hV2] at hnum3 hDlt
        have hand : bits .and .u8 (y : Int) 127 = (Y : Int) := by
          have h7 := u8_and_nat y 127 hylt (by omega)
          rw [show (127 : Nat) = 2 ^ 7 - 1 from rfl, Nat.and_two_pow_sub_one_eq_mod] at h7
          rw [hY]; exact h7
        have hshl : IntKind.u64.wrap ((Y : Int) * 2 ^ t) = (D : Int) := by
          rw [show ((Y : Int) * 2 ^ t) = (D : Int) by rw [hD]; simp, IntKind.wrap_u64]; omega
        have hor : bits .or .u64 (V : Int) (D : Int) = (V2 : Int) := by
          rw [u64_or_nat V D (by omega) (by omega), hV2]
          have h5 := Nat.two_pow_add_eq_or_of_lt (i := t) (b := V) (by rw [← hpk]; exact hV) Y
          rw [Nat.mul_comm, ← hD] at h5
          rw [Nat.or_comm, ← h5, Nat.add_comm]
        have htH : Hid _ := ht
        have hs9 : Hid (k = 9 → bits .or .u64 (V : Int) (IntKind.u64.wrap ((Y : Int) * 9223372036854775808)) = (V2 : Int)) := fun h9 => by
          have ht63 : t = 63 := by have := htH.out; omega
          have hs : IntKind.u64.wrap ((Y : Int) * 9223372036854775808) = (D : Int) := by have h := hshl; rw [ht63] at h; exact h
          rw [hs]; exact hor
        have hwY : IntKind.u64.wrap (Y : Int) = (Y : Int) := by rw [IntKind.wrap_u64]; omega
        have hyI0 : (0 : Int) ≤ (y : Int) := by omega
        have hDl2 : Hid _ := hDlt.2
        rcases Nat.lt_or_ge y 128 with e1 | e1
        · have e1I : (y : Int) < 128 := by omega
          have hres : Hid (numS bs n p 10 0 0 = .inr (V2, k + 1)) := (by have h7 := hnum3; rw [if_pos e1] at h7; exact h7.symm : numS bs n p 10 0 0 = .inr (V2, k + 1))
          clear hnum3 hDlt hV2 hD hDk hpk hY ht hV
          go_wp2_with fail
          all_goals first
            | (exfalso; have := hyc.out; omega)
            | (exfalso; have := hyc.out; simp only [beq_iff_eq] at *; omega)
            | (simp [bodyPost, results, Tryd.results69, go_sem]; exact ⟨⟨none, Or.inr ⟨V2, k + 1, hres.out, rfl, rfl⟩, h3H.out.drewN _⟩, hFF.trans (RF.drewN _ _)⟩)
            | (simp [bodyPost, results, Tryd.results69, go_sem]; rw [hs9.out (by omega)]; exact ⟨⟨none, Or.inr ⟨V2, k + 1, hres.out, rfl, by rw [show (((k + 1 : Nat) : Int)) = 10 by omega]⟩, h3H.out.drewN _⟩, hFF.trans (RF.drewN _ _)⟩)

        · have e1I : ¬ (y : Int) < 128 := by omega
          have hk8 : k ≤ 8 := by have := hyc.out; omega
          have hres : Hid (numS bs n p f (k + 1) V2 = numS bs n p 10 0 0) := (by have h7 := hnum3; rw [if_neg (by omega)] at h7; exact h7 : numS bs n p f (k + 1) V2 = numS bs n p 10 0 0)
          have hf9 : Hid (10 - (k + 1) = f) := (by omega : 10 - (k + 1) = f)
          clear hnum3 hDlt hV2 hD hDk hpk hY ht hV
          go_wp2_with fail
          all_goals first
            | (exfalso; have := hyc.out; omega)
            | (exfalso; have := hyc.out; simp only [beq_iff_eq] at *; omega)
            | (go_roundw; exact ⟨k + 1, V2, by omega, hDl2.out, rfl, by go_num, h3H.out.drewN _, hFF.trans (RF.drewN _ _), by rw [hf9.out]; exact hres.out⟩; (simp [intOf]; omega))

end
end Go.Proofs.YtepgcgphnjlcoaaDoor
