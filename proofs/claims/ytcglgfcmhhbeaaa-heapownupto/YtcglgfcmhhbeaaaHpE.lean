
import Derived.Test.YtcglgfcmhhbeaaaHpD
namespace Go.Proofs.Ytcglgfcmhhbeaaa.Hp
open Go.RowKit Go.Maps
set_option linter.unusedVariables false
set_option linter.unusedSimpArgs false
set_option maxRecDepth 100000
theorem nums2 (i : Nat) (h : i ≤ 1152921504606846976) : IntKind.i64.wrap (2 * (i : Int)) = 2 * (i : Int) ∧ IntKind.i64.wrap (2 * (i : Int) + 1) = ((2 * i + 1 : Nat) : Int) ∧ IntKind.i64.wrap (2 * (i : Int) + 2) = ((2 * i + 2 : Nat) : Int) := by
  refine ⟨IntWalk.i64_in _ (by omega), ?_, ?_⟩
  · rw [show 2 * (i : Int) + 1 = ((2 * i + 1 : Nat) : Int) by omega]; exact IntWalk.i64_in _ (by omega)
  · rw [show 2 * (i : Int) + 2 = ((2 * i + 2 : Nat) : Int) by omega]; exact IntWalk.i64_in _ (by omega)
set_option maxRecDepth 100000 in
set_option maxHeartbeats 4000000 in
theorem kid_any {w : World} {B hp mb : Nat} {most : Bool} {v : Value} {ex : Option ByteArray} {f : ByteArray → Option Nat} {L : List Ent} {mv : Int} (h : HS w B hp mb most v ex f L mv) (i : Nat) (hi : i < L.length) (hL : L.length ≤ 1152921504606846976) :
    Calls Try.prog 70 #[.pointer (some ⟨hp, 0, none⟩), .int .i64 (i : Int)] w fun e w' => e = .returned (.int .i64 ((kidL (ahd most) L i : Nat) : Int)) ∧ Below w.heap.size w w' := by
  obtain ⟨a, cap, rfl, hg⟩ := h.form
  have c0 := h.c0
  obtain ⟨n1, n2, n3⟩ := nums2 i (by omega)
  have CH : Hid (2 * i + 2 < L.length → ∀ bv, ahd most (atE L (2 * i + 2)) (atE L (2 * i + 1)) = bv → Calls Try.prog 67 #[.pointer (some ⟨hp, 0, none⟩), .int .i64 ((2 * i + 2 : Nat) : Int), .int .i64 ((2 * i + 1 : Nat) : Int)] w fun e w' => e = .returned (.bool bv) ∧ Below w.heap.size w w') := fun hlt bv hb => by
    have := above_any h (2 * i + 2) (2 * i + 1) hlt (by omega)
    rw [hb] at this; exact this
  have RES : Hid (kidL (ahd most) L i = if 2 * i + 2 < L.length ∧ ahd most (atE L (2 * i + 2)) (atE L (2 * i + 1)) = true then 2 * i + 2 else 2 * i + 1) := rfl
  generalize kidL (ahd most) L i = kd at RES ⊢
  obtain ⟨p, hp1⟩ : ∃ p : Nat, p = 2 * i + 1 := ⟨_, rfl⟩
  obtain ⟨q, hq1⟩ : ∃ q : Nat, q = 2 * i + 2 := ⟨_, rfl⟩
  rw [← hp1] at n2 RES CH
  rw [← hq1] at n3 RES CH
  clear hp1 hq1 hi hL hg
  by_cases hlt : q < L.length
  · have hltI : (q : Int) < (L.length : Int) := by omega
    obtain ⟨bv, hbv⟩ : ∃ bv, ahd most (atE L q) (atE L p) = bv := ⟨_, rfl⟩
    have C1 : Hid _ := CH.out hlt bv hbv
    have R1 := RES.out
    rw [hbv] at R1
    clear CH RES hbv h
    generalize L.length = n at *
    cases bv with
    | true =>
      have r : Hid (kd = q) := by rw [if_pos ⟨hlt, rfl⟩] at R1; exact R1
      clear R1 hlt
      go_enter Try.func70, Try.ntmps70
      go_wp2_with fail
      refine Calls.mono C1.out ?_
      rintro e w' ⟨rfl, BB⟩
      have fin : Hid (Below w.heap.size w w') := BB
      clear BB C1 c0
      go_wp2_with fail
      go_ret
      exact ⟨by rw [r.out]; rfl, fin.out⟩
    | false =>
      have r : Hid (kd = p) := by rw [if_neg (by simp)] at R1; exact R1
      clear R1 hlt
      go_enter Try.func70, Try.ntmps70
      go_wp2_with fail
      refine Calls.mono C1.out ?_
      rintro e w' ⟨rfl, BB⟩
      have fin : Hid (Below w.heap.size w w') := BB
      clear BB C1 c0
      go_wp2_with fail
      go_ret
      exact ⟨by rw [r.out]; rfl, fin.out⟩
  · have hltI : ¬ (q : Int) < (L.length : Int) := by omega
    have r : Hid (kd = p) := by have := RES.out; rw [if_neg (fun e => hlt e.1)] at this; exact this
    clear CH RES h hlt
    generalize L.length = n at *
    go_enter Try.func70, Try.ntmps70
    go_wp2_with fail
    go_ret
    exact ⟨by rw [r.out]; rfl, Below.refl _ _⟩
/-- while an entry goes up or down. -/
structure UD (w : World) (B hp mb : Nat) (most : Bool) (v : Value) (ex : Option ByteArray) (n : Nat) (L : List Ent) (mv : Int) (wr : World) : Prop where
  hs : ∃ f, HS wr B hp mb most v ex f L mv
  fr : HF hp mb v.ownBlock w wr
  len : L.length = n
theorem UD.below {w : World} {B hp mb : Nat} {most : Bool} {v : Value} {ex : Option ByteArray} {n : Nat} {L : List Ent} {mv : Int} {wr w' : World} (h : UD w B hp mb most v ex n L mv wr) (hb : Below wr.heap.size wr w') : UD w B hp mb most v ex n L mv w' := by
  obtain ⟨f, hs⟩ := h.hs
  exact ⟨⟨f, hs.below hb⟩, h.fr.trans (HF.below hb), h.len⟩
theorem UD.swap {w : World} {B hp mb : Nat} {most : Bool} {v : Value} {ex : Option ByteArray} {n : Nat} {L : List Ent} {mv : Int} {wr : World} (h : UD w B hp mb most v ex n L mv wr) (i j : Nat) (hi : i < n) (hj : j < n) (hne : i ≠ j) (hL : n ≤ 1152921504606846976) :
    Calls Try.prog 69 #[.pointer (some ⟨hp, 0, none⟩), .int .i64 (i : Int), .int .i64 (j : Int)] wr fun e w' => e = .returned undef ∧ UD w B hp mb most v ex n (swp L i j) mv w' := by
  obtain ⟨f, hs⟩ := h.hs
  have hl := h.len
  refine (swap_any hs i j (by omega) (by omega) hne (by omega)).mono fun e w' hh => ?_
  exact ⟨hh.1, ⟨_, hh.2.1⟩, h.fr.trans hh.2.2, by rw [swp_len]; exact hl⟩
theorem UD.above {w : World} {B hp mb : Nat} {most : Bool} {v : Value} {ex : Option ByteArray} {n : Nat} {L : List Ent} {mv : Int} {wr : World} (h : UD w B hp mb most v ex n L mv wr) (i j : Nat) (hi : i < n) (hj : j < n) :
    Calls Try.prog 67 #[.pointer (some ⟨hp, 0, none⟩), .int .i64 (i : Int), .int .i64 (j : Int)] wr fun e w' => e = .returned (.bool (ahd most (atE L i) (atE L j))) ∧ UD w B hp mb most v ex n L mv w' := by
  obtain ⟨f, hs⟩ := h.hs
  have hl := h.len
  exact (above_any hs i j (by omega) (by omega)).mono fun e w' hh => ⟨hh.1, h.below hh.2⟩
theorem UD.kid {w : World} {B hp mb : Nat} {most : Bool} {v : Value} {ex : Option ByteArray} {n : Nat} {L : List Ent} {mv : Int} {wr : World} (h : UD w B hp mb most v ex n L mv wr) (i : Nat) (hi : i < n) (hL : n ≤ 1152921504606846976) :
    Calls Try.prog 70 #[.pointer (some ⟨hp, 0, none⟩), .int .i64 (i : Int)] wr fun e w' => e = .returned (.int .i64 ((kidL (ahd most) L i : Nat) : Int)) ∧ UD w B hp mb most v ex n L mv w' := by
  obtain ⟨f, hs⟩ := h.hs
  have hl := h.len
  exact (kid_any hs i (by omega) (by omega)).mono fun e w' hh => ⟨hh.1, h.below hh.2⟩
set_option maxRecDepth 100000 in
set_option maxHeartbeats 8000000 in
theorem up_any {w : World} {B hp mb n : Nat} {most : Bool} {v : Value} {ex : Option ByteArray} {L : List Ent} {mv : Int} (h : UD w B hp mb most v ex n L mv w) (i : Nat) (hi : i < n) (hL : n ≤ 1152921504606846976) :
    Calls Try.prog 24 #[.pointer (some ⟨hp, 0, none⟩), .int .i64 (i : Int)] w fun e w' => e = .returned (.int .i64 (((upL (ahd most) L i).2 : Nat) : Int)) ∧ UD w B hp mb most v ex n (upL (ahd most) L i).1 mv w' := by
  have U0 : Hid (UD w B hp mb most v ex n L mv w) := h
  clear h
  go_enter Try.func24, Try.ntmps24
  go_wp2_with fail
  go_loopw [1, 5] (fun v1 v5 wr => ∃ (k m : Nat) (L1 : List Ent), v1 = .int .i64 (k : Int) ∧ v5 = .int .i64 (m : Int) ∧ k < n ∧ m + k ≤ i ∧ Hid (upL (ahd most) L i = ((upL (ahd most) L1 k).1, (upL (ahd most) L1 k).2 + m)) ∧ Hid (UD w B hp mb most v ex n L1 mv wr)) (fun v1 _ _ => (intOf v1).toNat)
  case atStart => exact ⟨i, 0, L, rfl, rfl, hi, by omega, rfl, U0⟩
  case round =>
    clear U0
    obtain ⟨k, m, L1, rfl, rfl, hkn, hmk, hE, hU⟩ := hrel
    by_cases hk : 0 < k
    · have hkI : (k : Int) > 0 := by omega
      have hkJ : (0 : Int) < (k : Int) := by omega
      have pl : par k < n := by unfold par; omega
      have plk : par k < k := by unfold par; omega
      have CP : Hid (∀ W, Calls Try.prog 68 #[.int .i64 (k : Int)] W fun e w' => e = .returned (.int .i64 ((par k : Nat) : Int)) ∧ w' = W) := parent_any k hk (by omega)
      have mw : IntKind.i64.wrap ((m : Int) + 1) = ((m + 1 : Nat) : Int) := IntWalk.i64_in _ (by omega)
      have CA : Hid _ := hU.out.above k (par k) hkn pl
      have CS : Hid (∀ W, UD w B hp mb most v ex n L1 mv W → Calls Try.prog 69 #[.pointer (some ⟨hp, 0, none⟩), .int .i64 (k : Int), .int .i64 ((par k : Nat) : Int)] W fun e w' => e = .returned undef ∧ UD w B hp mb most v ex n (swp L1 k (par k)) mv w') := fun W hW => hW.swap k (par k) hkn pl (by omega) hL
      obtain ⟨bv, hbv⟩ : ∃ bv, ahd most (atE L1 k) (atE L1 (par k)) = bv := ⟨_, rfl⟩
      rw [hbv] at CA
      cases bv with
      | true =>
        have E2 : Hid (upL (ahd most) L i = ((upL (ahd most) (swp L1 k (par k)) (par k)).1, (upL (ahd most) (swp L1 k (par k)) (par k)).2 + (m + 1))) := by
          have := hE.out
          rw [upL_go hk hbv] at this
          show upL (ahd most) L i = _
          rw [this]
          simp only
          congr 1
          omega
        generalize par k = p at *
        clear hE hU hbv
        go_wp2_with fail
        refine Calls.mono (CP.out _) ?_
        rintro e w1 ⟨rfl, hw1⟩
        subst hw1
        go_wp2_with fail
        refine Calls.mono CA.out ?_
        rintro e w2 ⟨rfl, u2⟩
        have U2 : Hid (UD w B hp mb most v ex n L1 mv w2) := u2
        clear u2 CA
        go_wp2_with fail
        refine Calls.mono (CP.out _) ?_
        rintro e w3 ⟨rfl, hw3⟩
        subst hw3
        go_wp2_with fail
        refine Calls.mono (CS.out _ U2.out) ?_
        rintro e w4 ⟨rfl, u4⟩
        have U4 : Hid (UD w B hp mb most v ex n (swp L1 k p) mv w4) := u4
        clear u4 U2 CS
        go_wp2_with fail
        refine Calls.mono (CP.out _) ?_
        rintro e w5 ⟨rfl, hw5⟩
        subst hw5
        clear CP
        go_wp2_with fail
        exact ⟨⟨p, m + 1, swp L1 k p, rfl, by first | rfl | simp, by omega, by omega, E2, U4⟩, by simp [intOf]; omega⟩
      | false =>
        have fin : Hid (upL (ahd most) L i = (L1, m)) := by
          have := hE.out
          rw [upL_stop (ah := ahd most) (L := L1) (i := k) (by rw [hbv]; simp)] at this
          show upL (ahd most) L i = _
          rw [this]; simp
        generalize par k = p at *
        clear hE hU hbv CS
        go_wp2_with fail
        refine Calls.mono (CP.out _) ?_
        rintro e w1 ⟨rfl, hw1⟩
        subst hw1
        go_wp2_with fail
        refine Calls.mono CA.out ?_
        rintro e w2 ⟨rfl, u2⟩
        have U2 : Hid (UD w B hp mb most v ex n L1 mv w2) := u2
        clear u2 CA CP
        go_wp2_with fail
        go_ret
        exact ⟨by rw [fin.out]; rfl, by rw [fin.out]; exact U2.out⟩
    · have hkI : ¬ (k : Int) > 0 := by omega
      have hkJ : ¬ (0 : Int) < (k : Int) := by omega
      have fin : Hid (upL (ahd most) L i = (L1, m)) := by
        have := hE.out
        rw [upL_stop (ah := ahd most) (L := L1) (i := k) (fun e => hk e.1)] at this
        show upL (ahd most) L i = _
        rw [this]; simp
      clear hE
      go_wp2_with fail
      go_ret
      exact ⟨by rw [fin.out]; rfl, by rw [fin.out]; exact hU.out⟩
set_option maxRecDepth 100000 in
set_option maxHeartbeats 8000000 in
theorem down_any {w : World} {B hp mb n : Nat} {most : Bool} {v : Value} {ex : Option ByteArray} {L : List Ent} {mv : Int} (h : UD w B hp mb most v ex n L mv w) (i : Nat) (hi : i < n) (hL : n ≤ 1152921504606846976) :
    Calls Try.prog 27 #[.pointer (some ⟨hp, 0, none⟩), .int .i64 (i : Int)] w fun e w' => e = .returned (.int .i64 (((downL (ahd most) L i).2 : Nat) : Int)) ∧ UD w B hp mb most v ex n (downL (ahd most) L i).1 mv w' := by
  obtain ⟨a, cap, hv⟩ : ∃ a cap, v = .slice a n cap := by
    obtain ⟨f, hs⟩ := h.hs
    obtain ⟨a, cap, e, _⟩ := hs.form
    exact ⟨a, cap, by rw [e, h.len]⟩
  subst hv
  have CK : Hid (∀ (L1 : List Ent) (k : Nat) W, k < n → UD w B hp mb most (.slice a n cap) ex n L1 mv W → Calls Try.prog 70 #[.pointer (some ⟨hp, 0, none⟩), .int .i64 (k : Int)] W fun e w' => e = .returned (.int .i64 ((kidL (ahd most) L1 k : Nat) : Int)) ∧ UD w B hp mb most (.slice a n cap) ex n L1 mv w') := fun L1 k W hk hW => hW.kid k hk hL
  have C0 : Hid _ := CK.out L i w hi h
  clear h
  go_enter Try.func27, Try.ntmps27
  go_wp2_with fail
  refine Calls.mono C0.out ?_
  rintro e w1 ⟨rfl, u1⟩
  have U0 : Hid (UD w B hp mb most (.slice a n cap) ex n L mv w1) := u1
  clear u1 C0
  go_wp2_with fail
  go_loopw [1, 5, 6] (fun v1 v5 v6 wr => ∃ (k m d : Nat) (L1 : List Ent), v1 = .int .i64 (k : Int) ∧ v5 = .int .i64 (m : Int) ∧ v6 = .int .i64 (d : Int) ∧ k < n ∧ m ≤ k ∧ Hid (d = kidL (ahd most) L1 k) ∧ Hid (downL (ahd most) L i = ((downL (ahd most) L1 k).1, (downL (ahd most) L1 k).2 + m)) ∧ Hid (UD w B hp mb most (.slice a n cap) ex n L1 mv wr)) (fun v1 _ _ _ => n - (intOf v1).toNat)
  case atStart => exact ⟨i, 0, kidL (ahd most) L i, L, rfl, rfl, rfl, hi, Nat.zero_le _, rfl, rfl, U0⟩
  case round =>
    clear U0
    obtain ⟨k, m, d, L1, rfl, rfl, rfl, hkn, hmk, hd, hE, hU⟩ := hrel
    have c0 : wr.cell? ⟨hp, 0, none⟩ = some (.slice a n cap) := by obtain ⟨f, hs⟩ := hU.out.hs; exact hs.c0
    have hk2 : d = 2 * k + 1 ∨ d = 2 * k + 2 := by rw [hd.out]; exact kidL_two _ _ _
    by_cases hdn : d < n
    · have hdI : (d : Int) < (n : Int) := by omega
      have mw : IntKind.i64.wrap ((m : Int) + 1) = ((m + 1 : Nat) : Int) := IntWalk.i64_in _ (by omega)
      have CA : Hid _ := hU.out.above d k hdn hkn
      have CS : Hid (∀ W, UD w B hp mb most (.slice a n cap) ex n L1 mv W → Calls Try.prog 69 #[.pointer (some ⟨hp, 0, none⟩), .int .i64 (k : Int), .int .i64 (d : Int)] W fun e w' => e = .returned undef ∧ UD w B hp mb most (.slice a n cap) ex n (swp L1 k d) mv w') := fun W hW => hW.swap k d hkn hdn (by omega) hL
      obtain ⟨bv, hbv⟩ : ∃ bv, ahd most (atE L1 d) (atE L1 k) = bv := ⟨_, rfl⟩
      rw [hbv] at CA
      have hlen : L1.length = n := hU.out.len
      cases bv with
      | true =>
        have E2 : Hid (downL (ahd most) L i = ((downL (ahd most) (swp L1 k d) d).1, (downL (ahd most) (swp L1 k d) d).2 + (m + 1))) := by
          have := hE.out
          have hd' := hd.out
          rw [downL_go (ah := ahd most) (L := L1) (i := k) (by rw [← hd', hlen]; exact hdn) (by rw [← hd']; exact hbv), ← hd'] at this
          show downL (ahd most) L i = _
          rw [this]
          simp only
          congr 1
          omega
        have hkd : k < d := by omega
        have hmd : m + 1 ≤ d := by omega
        clear hE hU hbv hd hk2 hlen
        go_wp2_with fail
        refine Calls.mono CA.out ?_
        rintro e w2 ⟨rfl, u2⟩
        have U2 : Hid (UD w B hp mb most (.slice a n cap) ex n L1 mv w2) := u2
        clear u2 CA c0
        go_wp2_with fail
        refine Calls.mono (CS.out _ U2.out) ?_
        rintro e w4 ⟨rfl, u4⟩
        have C4 : Hid _ := CK.out (swp L1 k d) d w4 hdn u4
        clear u4 U2 CS
        go_wp2_with fail
        refine Calls.mono C4.out ?_
        rintro e w5 ⟨rfl, u5⟩
        have U5 : Hid (UD w B hp mb most (.slice a n cap) ex n (swp L1 k d) mv w5) := u5
        clear u5 C4
        go_wp2_with fail
        exact ⟨⟨d, m + 1, _, swp L1 k d, rfl, by first | rfl | simp, rfl, hdn, hmd, rfl, E2, U5⟩, by simp [intOf]; omega⟩
      | false =>
        have fin : Hid (downL (ahd most) L i = (L1, m)) := by
          have := hE.out
          have hd' := hd.out
          rw [downL_stop (ah := ahd most) (L := L1) (i := k) (by rw [← hd', hbv]; simp)] at this
          show downL (ahd most) L i = _
          rw [this]; simp
        clear hE hU hbv hd hk2 hlen CS CK
        go_wp2_with fail
        refine Calls.mono CA.out ?_
        rintro e w2 ⟨rfl, u2⟩
        have U2 : Hid (UD w B hp mb most (.slice a n cap) ex n L1 mv w2) := u2
        clear u2 CA c0
        go_wp2_with fail
        go_ret
        exact ⟨by rw [fin.out]; rfl, by rw [fin.out]; exact U2.out⟩
    · have hdI : ¬ (d : Int) < (n : Int) := by omega
      have hlen : L1.length = n := hU.out.len
      have fin : Hid (downL (ahd most) L i = (L1, m)) := by
        have := hE.out
        have hd' := hd.out
        rw [downL_stop (ah := ahd most) (L := L1) (i := k) (fun e => hdn (by rw [hd', ← hlen]; exact e.1))] at this
        show downL (ahd most) L i = _
        rw [this]; simp
      clear hE hd hk2 hlen CK
      go_wp2_with fail
      go_ret
      exact ⟨by rw [fin.out]; rfl, by rw [fin.out]; exact hU.out⟩
set_option maxRecDepth 100000 in
set_option maxHeartbeats 4000000 in
theorem mend_any {w : World} {B hp mb n : Nat} {most : Bool} {v : Value} {ex : Option ByteArray} {L : List Ent} {mv : Int} (h : UD w B hp mb most v ex n L mv w) (i : Nat) (hi : i < n) (hL : n ≤ 1152921504606846976) :
    Calls Try.prog 63 #[.pointer (some ⟨hp, 0, none⟩), .int .i64 (i : Int)] w fun e w' => e = .returned (.int .i64 (((mendL (ahd most) L i).2 : Nat) : Int)) ∧ UD w B hp mb most v ex n (mendL (ahd most) L i).1 mv w' := by
  have CU : Hid _ := up_any h i hi hL
  have CD : Hid ((upL (ahd most) L i).2 = 0 → ∀ W, UD w B hp mb most v ex n (upL (ahd most) L i).1 mv W → Calls Try.prog 27 #[.pointer (some ⟨hp, 0, none⟩), .int .i64 (i : Int)] W fun e w' => e = .returned (.int .i64 (((downL (ahd most) L i).2 : Nat) : Int)) ∧ UD w B hp mb most v ex n (downL (ahd most) L i).1 mv w') := fun h0 W hW => by
    have hs : (upL (ahd most) L i).1 = L := by
      by_cases q : 0 < i ∧ ahd most (atE L i) (atE L (par i)) = true
      · rw [upL_go q.1 q.2] at h0; simp at h0
      · rw [upL_stop q]
    rw [hs] at hW
    have hW' : UD W B hp mb most v ex n L mv W := ⟨hW.hs, HF.refl _ _ _ _, hW.len⟩
    exact (down_any hW' i hi hL).mono fun e w' hh => ⟨hh.1, hh.2.hs, hW.fr.trans hh.2.fr, hh.2.len⟩
  have RES : Hid (mendL (ahd most) L i = if 0 < (upL (ahd most) L i).2 then upL (ahd most) L i else downL (ahd most) L i) := rfl
  generalize mendL (ahd most) L i = R at RES ⊢
  generalize upL (ahd most) L i = U at *
  generalize downL (ahd most) L i = D at *
  clear h
  go_enter Try.func63, Try.ntmps63
  go_wp2_with fail
  refine Calls.mono CU.out ?_
  rintro e w1 ⟨rfl, u1⟩
  have U1 : Hid (UD w B hp mb most v ex n U.1 mv w1) := u1
  clear u1 CU
  by_cases h0 : 0 < U.2
  · have hI : (U.2 : Int) > 0 := by omega
    have hJ : (0 : Int) < (U.2 : Int) := by omega
    have r : Hid (R = U) := by have := RES.out; rw [if_pos h0] at this; exact this
    clear RES CD
    go_wp2_with fail
    go_ret
    exact ⟨by rw [r.out]; rfl, by rw [r.out]; exact U1.out⟩
  · have hI : ¬ (U.2 : Int) > 0 := by omega
    have hJ : ¬ (0 : Int) < (U.2 : Int) := by omega
    have r : Hid (R = D) := by have := RES.out; rw [if_neg h0] at this; exact this
    have C2 : Hid _ := CD.out (by omega) w1 U1.out
    clear RES CD U1
    go_wp2_with fail
    refine Calls.mono C2.out ?_
    rintro e w2 ⟨rfl, u2⟩
    have U2 : Hid (UD w B hp mb most v ex n D.1 mv w2) := u2
    clear u2 C2
    go_wp2_with fail
    go_ret
    exact ⟨by rw [r.out]; rfl, by rw [r.out]; exact U2.out⟩
end Go.Proofs.Ytcglgfcmhhbeaaa.Hp
