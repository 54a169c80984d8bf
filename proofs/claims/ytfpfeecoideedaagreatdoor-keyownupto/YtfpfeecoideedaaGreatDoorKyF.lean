
import Derived.Test.YtfpfeecoideedaaGreatDoorKyE
namespace Go.Proofs.YtfpfeecoideedaaGreatDoor
open Go.RowKit Go.Shelf
set_option linter.unusedVariables false
set_option linter.unusedSimpArgs false
theorem risB_step {l : List TagP} {k : Nat} {t u : TagP} (ht : l[k]? = some t) (hu : l[k + 1]? = some u) : risB (l.drop k) = (decide (strC t.1 u.1 < 0) && risB (l.drop (k + 1))) := by
  obtain ⟨h1, rfl⟩ := List.getElem?_eq_some_iff.1 ht
  obtain ⟨h2, rfl⟩ := List.getElem?_eq_some_iff.1 hu
  rw [List.drop_eq_getElem_cons h1, List.drop_eq_getElem_cons h2]
  rfl
theorem risB_end {l : List TagP} {k : Nat} (h : l.length ≤ k + 1) : risB (l.drop k) = true := by
  by_cases h1 : l.length ≤ k
  · rw [List.drop_eq_nil_of_le h1]; rfl
  · rw [List.drop_eq_getElem_cons (by omega), List.drop_eq_nil_of_le h]; rfl
set_option maxRecDepth 100000 in
set_option maxHeartbeats 4000000 in
theorem rising_any (a : Option Addr) (l : List TagP) (c : Nat) (w : World) (hl : l.length ≤ 9223372036854775807) (ha : TgIn w a l) :
    Calls Tryz.prog 99 #[.slice a l.length c] w fun e w' => e = .returned (.bool (risB l)) ∧ Below w.heap.size w w' := by
  have hA : Hid (TgIn w a l) := ha
  clear ha
  obtain ⟨R, hR⟩ : ∃ R, risB l = R := ⟨_, rfl⟩
  have hR0 : Hid (risB (l.drop 0) = R) := hR
  rw [hR]
  clear hR
  obtain ⟨n, hn⟩ : ∃ n, l.length = n := ⟨_, rfl⟩
  have hN : Hid (l.length = n) := hn
  rw [hn] at hl ⊢
  clear hn
  go_enter Tryz.func99, Tryz.ntmps99
  go_wp2_with fail
  go_loopw [3] (fun i wr => ∃ k : Nat, i = .int .i64 ((k : Int) + 1) ∧ (k + 1 ≤ n ∨ k = 0) ∧ Hid (risB (l.drop k) = R) ∧ Below w.heap.size w wr) (fun i _ => n - (intOf i).toNat)
  case atStart => exact ⟨0, rfl, by omega, hR0, Below.refl _ _⟩
  case round =>
    obtain ⟨k, rfl, hkn, hI, hB⟩ := hrel
    by_cases hk : k + 1 < n
    · have hkI : (k : Int) + 1 < (n : Int) := by omega
      have hk1 : IntKind.i64.wrap ((k : Int) + 1 + 1) = (k : Int) + 1 + 1 := IntWalk.i64_in _ (by omega)
      have hk2 : IntKind.i64.wrap ((k : Int) + 1 - 1) = (k : Int) := by rw [show (k : Int) + 1 - 1 = k by omega]; exact IntWalk.i64_in _ (by omega)
      obtain ⟨t, ht⟩ : ∃ t, l[k]? = some t := ⟨_, List.getElem?_eq_getElem (by have := hN.out; omega)⟩
      obtain ⟨u, hu⟩ : ∃ u, l[k + 1]? = some u := ⟨_, List.getElem?_eq_getElem (by have := hN.out; omega)⟩
      obtain ⟨b1, o1, rfl, hb1, t1, t2⟩ := hA.out.at hB ht
      obtain ⟨b2, o2, e2, hb2, u1, u2⟩ := hA.out.at hB hu
      obtain ⟨rfl, rfl⟩ : b2 = b1 ∧ o2 = o1 := by cases e2; exact ⟨rfl, rfl⟩
      have hst := risB_step ht hu
      rw [hI.out, ← less_str] at hst
      have hst2 : Hid (R = (Op.bytesLess t.1.toList u.1.toList && risB (l.drop (k + 1)))) := hst
      clear hst ht hu e2 t2 u2
      cases hless : Op.bytesLess t.1.toList u.1.toList with
      | true =>
        have hz : Hid (risB (l.drop (k + 1)) = R) := by have := hst2.out; rw [hless] at this; exact this.symm
        clear hst2
        go_wp2_with fail
        go_quiet (fail)
        go_wp2_with fail
        go_round
        case measure => simp only [intOf]; omega
        case rel => exact ⟨k + 1, by simp, by omega, hz, bdrewN hB _⟩
      | false =>
        have hz : Hid (R = false) := by have := hst2.out; rw [hless] at this; exact this
        clear hst2
        go_wp2_with fail
        go_quiet (fail)
        go_wp2_with fail
        go_ret
        exact ⟨by rw [hz.out]; rfl, bdrewN hB _⟩
    · have hkI : ¬ (k : Int) + 1 < (n : Int) := by omega
      have hE : Hid (R = true) := by have := risB_end (l := l) (k := k) (by have := hN.out; omega); rw [hI.out] at this; exact this
      go_wp2_with fail
      go_ret
      exact ⟨by rw [hE.out]; rfl, hB⟩
theorem any_drop_step {l : List TagP} {k : Nat} {t : TagP} (ht : l[k]? = some t) : (l.drop k).any oddB = (oddB t || (l.drop (k + 1)).any oddB) := by
  obtain ⟨h1, rfl⟩ := List.getElem?_eq_some_iff.1 ht
  rw [List.drop_eq_getElem_cons h1]
  rfl
set_option maxRecDepth 100000 in
set_option maxHeartbeats 4000000 in
theorem idx_any (a : Option Addr) (l : List TagP) (c : Nat) (w : World) (hl : l.length ≤ 9223372036854775807) (ha : TgIn w a l) (hT : UT w) :
    Calls Tryz.prog 120 #[.slice a l.length c, .func (.func 101) #[] #[]] w fun e w' => ∃ z : Int, e = .returned (.int .i64 z) ∧ decide (0 ≤ z) = l.any oddB ∧ Below w.heap.size w w' := by
  have hA : Hid (TgIn w a l) := ha
  have hU : Hid (UT w) := hT
  clear ha hT
  obtain ⟨R, hR⟩ : ∃ R, l.any oddB = R := ⟨_, rfl⟩
  have hR0 : Hid ((l.drop 0).any oddB = R) := hR
  rw [hR]
  clear hR
  obtain ⟨n, hn⟩ : ∃ n, l.length = n := ⟨_, rfl⟩
  have hN : Hid (l.length = n) := hn
  rw [hn] at hl ⊢
  clear hn
  go_enter Tryz.func120, Tryz.ntmps120
  go_wp2_with fail
  go_loopw [8] (fun i wr => ∃ k : Nat, i = .int .i64 (k : Int) ∧ k ≤ n ∧ Hid ((l.drop k).any oddB = R) ∧ Below w.heap.size w wr) (fun i _ => n - (intOf i).toNat)
  case atStart => exact ⟨0, rfl, by omega, hR0, Below.refl _ _⟩
  case round =>
    obtain ⟨k, rfl, hkn, hI, hB⟩ := hrel
    by_cases hk : k < n
    · have hkI : (k : Int) < (n : Int) := by omega
      obtain ⟨t, ht⟩ : ∃ t, l[k]? = some t := ⟨_, List.getElem?_eq_getElem (by have := hN.out; omega)⟩
      obtain ⟨b1, o1, rfl, hb1, t1, t2⟩ := hA.out.at hB ht
      have hst := any_drop_step ht
      rw [hI.out] at hst
      have hst2 : Hid (R = (oddB t || (l.drop (k + 1)).any oddB)) := hst
      have hC : Hid (Calls Tryz.prog 101 #[.agg #[.string t.1, .string t.2]] wr fun e w' => e = .returned (.bool (oddB t)) ∧ Below wr.heap.size wr w') := odd_any t.1 t.2 wr (hU.out.below hB (Nat.le_refl _))
      clear hst ht
      generalize oddB t = q at hst2 hC
      generalize t.1 = ta at *
      generalize t.2 = tb at *
      cases q with
      | true =>
        have hz : Hid (R = true) := by have := hst2.out; exact this
        clear hst2
        go_wp2_with (refine Calls.mono hC.out ?_; rintro e w' ⟨rfl, hB2⟩)
        go_ret
        exact ⟨(k : Int), rfl, by rw [hz.out]; simp, hB.trans (hB2.mono hB.size)⟩
      | false =>
        have hz : Hid ((l.drop (k + 1)).any oddB = R) := by have := hst2.out; exact this.symm
        clear hst2
        go_wp2_with (refine Calls.mono hC.out ?_; rintro e w' ⟨rfl, hB2⟩)
        go_round
        case measure => simp only [intOf]; omega
        case rel => exact ⟨k + 1, by simp, by omega, hz, hB.trans (hB2.mono hB.size)⟩
    · have hkI : ¬ (k : Int) < (n : Int) := by omega
      have hE : Hid (R = false) := by have h := hI.out; rw [List.drop_eq_nil_of_le (by have := hN.out; omega)] at h; exact h.symm
      go_wp2_with fail
      go_ret
      exact ⟨-1, rfl, by rw [hE.out]; rfl, hB⟩
set_option maxRecDepth 100000 in
theorem cf_any (a : Option Addr) (l : List TagP) (c : Nat) (w : World) (hl : l.length ≤ 9223372036854775807) (ha : TgIn w a l) (hT : UT w) :
    Calls Tryz.prog 100 #[.slice a l.length c, .func (.func 101) #[] #[]] w fun e w' => e = .returned (.bool (l.any oddB)) ∧ Below w.heap.size w w' := by
  have hC : Hid (Calls Tryz.prog 120 #[.slice a l.length c, .func (.func 101) #[] #[]] w fun e w' => ∃ z : Int, e = .returned (.int .i64 z) ∧ decide (0 ≤ z) = l.any oddB ∧ Below w.heap.size w w') := idx_any a l c w hl ha hT
  generalize l.any oddB = R at hC ⊢
  generalize l.length = n at hC hl ⊢
  clear ha hT
  go_enter Tryz.func100, Tryz.ntmps100
  go_wp2_with (go_at_call 120; refine Calls.mono hC.out ?_; rintro e w' ⟨z, rfl, hz, hB⟩; have hzH : Hid (decide (0 ≤ z) = R) := hz; clear hz)
  go_ret
  exact ⟨by rw [← hzH.out]; rfl, hB⟩
set_option maxRecDepth 100000 in
set_option maxHeartbeats 2000000 in
theorem tags_any (a : Option Addr) (l : List TagP) (c : Nat) (w : World) (hl : l.length ≤ 9223372036854775807) (ha : TgIn w a l) (hT : UT w) :
    Calls Tryz.prog 75 #[.slice a l.length c] w fun e w' => e = .returned (erV (tagsB l) 52) ∧ Below w.heap.size w w' := by
  have cR : Hid (Calls Tryz.prog 99 #[.slice a l.length c] w fun e w' => e = .returned (.bool (risB l)) ∧ Below w.heap.size w w') := rising_any a l c w hl ha
  have cC : Hid (∀ W, Below w.heap.size w W → Calls Tryz.prog 100 #[.slice a l.length c, .func (.func 101) #[] #[]] W fun e w' => e = .returned (.bool (l.any oddB)) ∧ Below W.heap.size W w') := fun W hW => cf_any a l c W hl (ha.below hW) (hT.below hW (Nat.le_refl _))
  have cU : Hid (∀ ok W, Calls Tryz.prog 76 #[.bool ok, .int .i64 52] W fun ev w' => ev = .returned (erV ok 52) ∧ Below W.heap.size W w') := fun ok W => unless_any ok 52 (by decide) W
  unfold tagsB
  generalize risB l = r at cR ⊢
  generalize l.any oddB = o at cC ⊢
  generalize l.length = n at cR cC hl ⊢
  clear ha hT
  by_cases h : n ≤ 8
  · have hI : (n : Int) ≤ 8 := by omega
    rw [decide_eq_true h]
    cases r with
    | true =>
      cases o with
      | true =>
        go_enter Tryz.func75, Tryz.ntmps75
        go_wp2_with (first | (go_at_call 99; with_reducible refine Calls.mono cR.out ?_; rintro e w' ⟨rfl, hb⟩) | (go_at_call 100; with_reducible refine Calls.mono (cC.out _ hb) ?_; rintro e w2 ⟨rfl, hb2⟩) | (go_at_call 76; with_reducible refine Calls.mono (cU.out _ _) ?_; rintro e w3 ⟨rfl, hb3⟩))
        go_ret
        have hx := hb.trans (hb2.mono hb.size)
        exact ⟨rfl, hx.trans (hb3.mono hx.size)⟩
      | false =>
        go_enter Tryz.func75, Tryz.ntmps75
        go_wp2_with (first | (go_at_call 99; with_reducible refine Calls.mono cR.out ?_; rintro e w' ⟨rfl, hb⟩) | (go_at_call 100; with_reducible refine Calls.mono (cC.out _ hb) ?_; rintro e w2 ⟨rfl, hb2⟩) | (go_at_call 76; with_reducible refine Calls.mono (cU.out _ _) ?_; rintro e w3 ⟨rfl, hb3⟩))
        go_ret
        have hx := hb.trans (hb2.mono hb.size)
        exact ⟨rfl, hx.trans (hb3.mono hx.size)⟩
    | false =>
      go_enter Tryz.func75, Tryz.ntmps75
      go_wp2_with (first | (go_at_call 99; with_reducible refine Calls.mono cR.out ?_; rintro e w' ⟨rfl, hb⟩) | (go_at_call 76; with_reducible refine Calls.mono (cU.out _ _) ?_; rintro e w3 ⟨rfl, hb3⟩))
      go_ret
      exact ⟨rfl, hb.trans (hb3.mono hb.size)⟩
  · have hI : ¬ (n : Int) ≤ 8 := by omega
    rw [decide_eq_false h]
    go_enter Tryz.func75, Tryz.ntmps75
    go_wp2_with (go_at_call 76; with_reducible refine Calls.mono (cU.out _ _) ?_; rintro e w3 ⟨rfl, hb3⟩)
    go_ret
    exact ⟨rfl, hb3⟩
end Go.Proofs.YtfpfeecoideedaaGreatDoor
