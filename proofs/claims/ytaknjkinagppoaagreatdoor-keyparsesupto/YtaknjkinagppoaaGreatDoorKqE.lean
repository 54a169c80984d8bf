
import Derived.Test.YtaknjkinagppoaaGreatDoorKqD
namespace Go.Proofs.YtaknjkinagppoaaGreatDoor
open Go.RowKit Go.Shelf
attribute [local go_sem] Oper.semAt_some
set_option linter.unusedVariables false
set_option linter.unusedSimpArgs false
theorem pre_one (l : List UInt8) (k : Nat) (c : UInt8) : Lib.hasPrefix (l.drop k) [c] = decide (l[k]? = some c) := by
  unfold Lib.hasPrefix
  rw [show l[k]? = (l.drop k)[0]? by simp]
  cases l.drop k with
  | nil => simp
  | cons a r =>
    have e : List.isPrefixOf [c] (a :: r) = (c == a) := by simp [List.isPrefixOf]
    rw [e]
    by_cases h : c = a
    · subst h; simp
    · have h' : ¬ a = c := fun e => h e.symm
      simp [h, h']
/-- what follows leaves. -/
def nextP (l : List UInt8) (c : UInt8) (st : StP) : StP := if folP l c st then (st.1 + 1, none) else st
set_option maxRecDepth 100000 in
set_option maxHeartbeats 4000000 in
theorem follows_k (N : Nat) (s : ByteArray) (c : UInt8) (st : StP) (W : World) (h : RdA N s st W) (hs : s.size ≤ 4000000) (hst : st.1 ≤ s.data.toList.length) : Calls Tryz.prog 10 #[.pointer (some ⟨N, 0, none⟩), .string ⟨#[c]⟩] W fun e w' => e = .returned (.bool (folP s.data.toList c st)) ∧ RdA N s (nextP s.data.toList c st) w' ∧ W.grownBy w' (some N) := by
  obtain ⟨k, fl⟩ := st
  have hlen : s.data.toList.length = s.size := (Lib.size_eq s).symm
  simp only at hst
  rw [hlen] at hst
  have hh : Hid (RdA N s (k, fl) W) := h
  obtain ⟨h0, h1, h2, h3, h4, h5⟩ := h
  have hgd : Hid (∀ q, W.grownBy (W.drewN q) (some N)) := fun q => grown_of_below N (bdrewN (Below.refl _ W) q)
  have hhd : Hid (∀ q, RdA N s (k, fl) (W.drewN q)) := fun q => hh.out.below (bdrewN (Below.refl _ W) q) h0
  cases fl with
  | some q =>
    have e1 : folP s.data.toList c (k, some q) = false := by unfold folP; simp
    have e2 : nextP s.data.toList c (k, some q) = (k, some q) := by unfold nextP; rw [e1]; rfl
    rw [e1, e2]
    simp only [fV, atV] at h3
    go_enter Tryz.func10, Tryz.ntmps10
    go_wp2_with fail
    go_quiet (fail)
    go_wp2_with fail
    go_ret
    exact ⟨rfl, hhd.out _, hgd.out _⟩
  | none =>
    simp only [fV] at h3
    have hz : (s.extract k s.size).size ≤ s.size := by rw [Lib.size_eq, ex_list, List.length_drop, hlen]; omega
    have hk1 : (k : Int) ≤ (s.size : Int) := by omega
    have hkb : -9223372036854775808 ≤ (k : Int) + 1 ∧ (k : Int) + 1 ≤ 9223372036854775807 := by omega
    have cH : Hid (∀ W', Calls Tryz.prog 26 #[.string (s.extract k s.size), .string ⟨#[c]⟩] W' fun e w' => e = .returned (.bool (folP s.data.toList c (k, none))) ∧ w' = W') := fun W' => by
      have := Tryz.strings_HasPrefix (s.extract k s.size) ⟨#[c]⟩ W'
      rw [ex_list, show (⟨#[c]⟩ : ByteArray).data.toList = [c] from rfl, pre_one] at this
      have e1 : folP s.data.toList c (k, none) = decide (s.data.toList[k]? = some c) := by unfold folP; simp
      rw [e1]; exact this
    have wk : wrap64 ((k : Int) + 1) = (k : Int) + 1 := IntWalk.wrap64_in _ hkb
    have wi : IntKind.i64.wrap ((k : Int) + 1) = (k : Int) + 1 := IntWalk.i64_in _ hkb
    have hb1 : (⟨#[c]⟩ : ByteArray).size = 1 := rfl
    have hfin : Hid (∀ q, RdA N s (k + 1, none) ((W.drewN q).setCell ⟨N, 1, none⟩ (.int .i64 ((k : Int) + 1))) ∧ W.grownBy ((W.drewN q).setCell ⟨N, 1, none⟩ (.int .i64 ((k : Int) + 1))) (some N)) := fun q => ⟨(hhd.out q).set1 (k + 1), grown_trans (hgd.out q) (grown_set _ N 1 _)⟩
    have d2 : W.drew.cell? ⟨N, 1, none⟩ = some (.int .i64 (k : Int)) := h2
    have d4 : W.drew.frozen? ⟨N, 1, none⟩ = false := h4
    clear hkb
    cases hf : folP s.data.toList c (k, none) with
    | true =>
      have e2 : nextP s.data.toList c (k, none) = (k + 1, none) := by unfold nextP; rw [hf]; rfl
      rw [e2]
      have cHt : Hid (∀ W', Calls Tryz.prog 26 #[.string (s.extract k s.size), .string ⟨#[c]⟩] W' fun e w' => e = .returned (.bool true) ∧ w' = W') := fun W' => by rw [← hf]; exact cH.out W'
      clear hf cH
      go_enter Tryz.func10, Tryz.ntmps10
      go_wp2_with fail
      go_quiet ((go_at_call 26; exact Calls.quiet_of_same (cHt.out _)))
      go_wp2_with fail
      go_ret
      exact ⟨rfl, hfin.out _⟩
    | false =>
      have e2 : nextP s.data.toList c (k, none) = (k, none) := by unfold nextP; rw [hf]; rfl
      rw [e2]
      have cHt : Hid (∀ W', Calls Tryz.prog 26 #[.string (s.extract k s.size), .string ⟨#[c]⟩] W' fun e w' => e = .returned (.bool false) ∧ w' = W') := fun W' => by rw [← hf]; exact cH.out W'
      clear hf cH
      go_enter Tryz.func10, Tryz.ntmps10
      go_wp2_with fail
      go_quiet ((go_at_call 26; exact Calls.quiet_of_same (cHt.out _)))
      go_wp2_with fail
      go_ret
      exact ⟨rfl, hhd.out _, hgd.out _⟩
set_option maxRecDepth 100000 in
set_option maxHeartbeats 4000000 in
theorem must_k (N : Nat) (s : ByteArray) (c : UInt8) (st : StP) (W : World) (h : RdA N s st W) (hs : s.size ≤ 4000000) (hst : st.1 ≤ s.data.toList.length) : Calls Tryz.prog 11 #[.pointer (some ⟨N, 0, none⟩), .string ⟨#[c]⟩] W fun e w' => e = .returned undef ∧ RdA N s (mustP s.data.toList c st) w' ∧ W.grownBy w' (some N) := by
  have cF : Hid (Calls Tryz.prog 10 #[.pointer (some ⟨N, 0, none⟩), .string ⟨#[c]⟩] W fun e w' => e = .returned (.bool (folP s.data.toList c st)) ∧ RdA N s (nextP s.data.toList c st) w' ∧ W.grownBy w' (some N)) := follows_k N s c st W h hs hst
  cases hf : folP s.data.toList c st with
  | true =>
    have e1 : mustP s.data.toList c st = (st.1 + 1, none) := by unfold mustP; rw [hf]; rfl
    have e2 : nextP s.data.toList c st = (st.1 + 1, none) := by unfold nextP; rw [hf]; rfl
    rw [e1]
    rw [hf, e2] at cF
    clear hf e1 e2
    go_enter Tryz.func11, Tryz.ntmps11
    go_wp2_with (go_at_call 10; with_reducible refine Calls.mono cF.out ?_; rintro e w1 ⟨rfl, R1, G1⟩)
    first | go_end0 | (simp only [Exit.inBlock, Exit.then]; refine bodyPost_ret (results_none rfl _ _ _) rfl ?_) | refine bodyPost_ret (results_none rfl _ _ _) rfl ?_
    exact ⟨rfl, R1, G1⟩
  | false =>
    have e1 : mustP s.data.toList c st = failP st st.1 := by unfold mustP; rw [hf]; rfl
    have e2 : nextP s.data.toList c st = st := by unfold nextP; rw [hf]; rfl
    rw [e1]
    rw [hf, e2] at cF
    clear hf e1 e2
    have cX : Hid (∀ W', RdA N s st W' → W.grownBy W' (some N) → Calls Tryz.prog 25 #[.pointer (some ⟨N, 0, none⟩), .int .i64 (st.1 : Int)] W' fun e w' => e = .returned undef ∧ RdA N s (failP st st.1) w' ∧ W.grownBy w' (some N)) := fun W' hR hG => (fail_k N s st (st.1 : Int) W' hR).mono fun e w' hx => ⟨hx.1, hx.2.1, grown_trans hG hx.2.2⟩
    have hc : Hid (∀ w1, RdA N s st w1 → w1.cell? ⟨N, 1, none⟩ = some (.int .i64 (st.1 : Int))) := fun w1 hx => hx.2.2.1
    go_enter Tryz.func11, Tryz.ntmps11
    go_wp2_with (go_at_call 10; with_reducible refine Calls.mono cF.out ?_; rintro e w1 ⟨rfl, R1, G1⟩; have q1 := hc.out w1 R1)
    go_wp2_with fail
    refine Calls.mono (cX.out _ R1 G1) ?_
    rintro e w2 ⟨rfl, R2, G2⟩
    go_wp2_with fail
    first | go_end0 | (simp only [Exit.inBlock, Exit.then]; refine bodyPost_ret (results_none rfl _ _ _) rfl ?_) | refine bodyPost_ret (results_none rfl _ _ _) rfl ?_
    exact ⟨rfl, R2, G2⟩
set_option maxRecDepth 100000 in
set_option maxHeartbeats 4000000 in
theorem end_k (N : Nat) (s : ByteArray) (st : StP) (W : World) (h : RdA N s st W) (hs : s.size ≤ 4000000) (hst : st.1 ≤ s.data.toList.length) : Calls Tryz.prog 12 #[.pointer (some ⟨N, 0, none⟩)] W fun e w' => e = .returned undef ∧ RdA N s (endP s.data.toList st) w' ∧ W.grownBy w' (some N) := by
  have hlen : s.data.toList.length = s.size := (Lib.size_eq s).symm
  have hgd : Hid (∀ q, W.grownBy (W.drewN q) (some N)) := fun q => grown_of_below N (bdrewN (Below.refl _ W) q)
  have hhd : Hid (∀ q, RdA N s st (W.drewN q)) := fun q => h.below (bdrewN (Below.refl _ W) q) h.1
  obtain ⟨h0, h1, h2, h3, h4, h5⟩ := h
  have cX : Hid (∀ W', RdA N s st W' → W.grownBy W' (some N) → Calls Tryz.prog 25 #[.pointer (some ⟨N, 0, none⟩), .int .i64 (st.1 : Int)] W' fun e w' => e = .returned undef ∧ RdA N s (failP st st.1) w' ∧ W.grownBy w' (some N)) := fun W' hR hG => (fail_k N s st (st.1 : Int) W' hR).mono fun e w' hx => ⟨hx.1, hx.2.1, grown_trans hG hx.2.2⟩
  by_cases hlt : st.1 < s.size
  · have e1 : endP s.data.toList st = failP st st.1 := by unfold endP; rw [if_pos (by rw [hlen]; exact hlt)]
    rw [e1]
    have hI : (st.1 : Int) < (s.size : Int) := by omega
    have hc : Hid (∀ q, (W.drewN q).cell? ⟨N, 1, none⟩ = some (.int .i64 (st.1 : Int))) := fun q => (hhd.out q).2.2.1
    clear e1 hlen
    go_enter Tryz.func12, Tryz.ntmps12
    go_wp2_with fail
    go_quiet (fail)
    have q1 := hc.out nq
    go_wp2_with fail
    refine Calls.mono (cX.out _ (hhd.out _) (hgd.out _)) ?_
    rintro e w2 ⟨rfl, R2, G2⟩
    go_wp2_with fail
    first | go_end0 | (simp only [Exit.inBlock, Exit.then]; refine bodyPost_ret (results_none rfl _ _ _) rfl ?_) | refine bodyPost_ret (results_none rfl _ _ _) rfl ?_
    exact ⟨rfl, R2, G2⟩
  · have e1 : endP s.data.toList st = st := by unfold endP; rw [if_neg (by rw [hlen]; exact hlt)]
    rw [e1]
    have hI : ¬ (st.1 : Int) < (s.size : Int) := by omega
    clear e1 hlen
    go_enter Tryz.func12, Tryz.ntmps12
    go_wp2_with fail
    go_quiet (fail)
    go_wp2_with fail
    first | go_end0 | (simp only [Exit.inBlock, Exit.then]; refine bodyPost_ret (results_none rfl _ _ _) rfl ?_) | refine bodyPost_ret (results_none rfl _ _ _) rfl ?_
    exact ⟨rfl, hhd.out _, hgd.out _⟩
end Go.Proofs.YtaknjkinagppoaaGreatDoor
