
import Derived.Test.YtepgcgphnjlcoaaDoorRgDq
import Derived.Test.YtepgcgphnjlcoaaDoorRwEq
namespace Go.Proofs.YtepgcgphnjlcoaaDoor
open Go.RowKit
set_option linter.unusedVariables false
set_option linter.unusedSimpArgs false
/-- a number without sign as one with it. -/
def unfoldN (v : Nat) : Int := if v % 2 = 0 then ((v / 2 : Nat) : Int) else -((v / 2 : Nat) : Int) - 1
theorem fold_unfold (v : Nat) : foldZ (unfoldN v) = v := by unfold foldZ unfoldN; split <;> split <;> omega
theorem unfoldN_rg (v : Nat) (h : v < 18446744073709551616) : -9223372036854775808 ≤ unfoldN v ∧ unfoldN v ≤ 9223372036854775807 := by unfold unfoldN; split <;> omega
theorem unfold_xor2 (v : Nat) (h : v < 18446744073709551616) : bits .xor .i64 (wrap64 ((v : Int) / 2)) (wrap64 (-wrap64 (bits .and .u64 (v : Int) 1))) = unfoldN v := by
  have := unfold_xor (unfoldN v) (unfoldN_rg v h)
  rw [fold_unfold] at this
  exact this
theorem UintG.lt {bs : Nat → Nat} {n p r M : Nat} {fv : Option (Int × Int)} {p' r' : Nat} {fv' : Option (Int × Int)} {v : Nat} (hbs : ∀ i, i < n → bs i < 256) (h : UintG bs n p r M fv p' r' fv' v) : v < 18446744073709551616 := by
  rcases h with ⟨_, _, rfl, _⟩ | ⟨_, ⟨q, _, _, rfl, _⟩ | ⟨x, l, hx, ⟨_, _, rfl, _⟩ | ⟨_, _, rfl, _⟩⟩⟩
  · omega
  · omega
  · omega
  · exact (numS_len hbs hx).2.2.1
section
variable {N : Nat} {w1 : World} {a : Option Addr} {n cap p r : Nat} {bs : Nat → Nat} {fv : Option (Int × Int)} {w : World}
set_option maxRecDepth 100000 in
set_option maxHeartbeats 1000000 in
theorem piece_ok2 (h : RR N w1 a n cap bs p r none w) (hr : ¬ (r ≠ 0 ∧ bs (p - 1) % 2 ^ r ≠ 0)) (x : Nat) (hx : x < 9223372036854775808) (hm : p + (uB x).length + x ≤ n) (hbs : ∀ i, i < (uB x).length → bs (p + i) = (uB x).getD i 0) (most : Int) (hmost : (x : Int) ≤ most ∧ most ≤ 9223372036854775807) :
    Calls Tryd.prog 34 #[.pointer (some ⟨N, 0, none⟩), .int .i64 most] w fun e w' => (∃ v, e = .returned v ∧ PieceAt a (p + (uB x).length) x v) ∧ RR N w1 a n cap bs (p + (uB x).length + x) 0 none w' ∧ RF N w w' := by
  have hS : Hid _ := number_ok h hr x (by omega) (by omega) hbs
  have hpos := uBf_pos 10 x
  have hnb := h.nb
  obtain ⟨l, hl⟩ : ∃ l, l = (uB x).length := ⟨_, rfl⟩
  rw [← hl] at hS hm ⊢
  have hl0 : 0 < l := by rw [hl]; exact hpos
  have hlI : (0 : Int) < (l : Int) := by omega
  have hl1 : ¬ (l : Int) = 0 := by omega
  have hxI : ¬ most < 0 := by omega
  have hmx : ¬ most < (x : Int) := by omega
  have hmw : IntKind.u64.wrap most = most := by rw [IntKind.wrap_u64]; omega
  obtain ⟨fr, hfr⟩ : ∃ fr, fr = p + l := ⟨_, rfl⟩
  rw [← hfr]
  obtain ⟨to, hto⟩ : ∃ to, to = fr + x := ⟨_, rfl⟩
  rw [← hto]
  have hfrH : Hid _ := hfr
  have htoH : Hid _ := hto
  clear hfr hto
  have hxw : IntKind.u64.wrap (x : Int) = (x : Int) := by rw [IntKind.wrap_u64]; omega
  clear h hr hbs hl hpos
  go_enter Tryd.func34, Tryd.ntmps34
  go_wp2_with fail
  refine Calls.mono hS.out ?_
  rintro e w2 ⟨rfl, h2, F2⟩
  have hL : Hid _ := left_any h2
  have hlw : IntKind.i64.wrap ((n : Int) - (p : Int) - (l : Int)) = (n : Int) - (p : Int) - (l : Int) := IntWalk.i64_in _ (by omega)
  have hlw2 : IntKind.u64.wrap ((n : Int) - (p : Int) - (l : Int)) = (n : Int) - (p : Int) - (l : Int) := by rw [IntKind.wrap_u64]; omega
  have hlt : ¬ (n : Int) - (p : Int) - (l : Int) < (x : Int) := by omega
  clear h2
  go_wp2_with fail
  refine Calls.mono hL.out ?_
  rintro e w3 ⟨rfl, h3, F3⟩
  have c1 := h3.c1
  have hxw2 : IntKind.i64.wrap (x : Int) = (x : Int) := IntWalk.i64_in _ (by omega)
  have hxl : IntKind.i64.wrap ((l : Int) + (x : Int)) = (l : Int) + (x : Int) := IntWalk.i64_in _ (by omega)
  have hpl : IntKind.i64.wrap ((p : Int) + (l : Int)) = (p : Int) + (l : Int) := IntWalk.i64_in _ (by omega)
  have hP : Hid (∀ w', Below w3.heap.size w3 w' → Calls Tryd.prog 72 #[.pointer (some ⟨N, 0, none⟩), .int .i64 ((l : Int) + (x : Int))] w' fun e w'' => e = .returned undef ∧ RR N w1 a n cap bs (p + (l + x)) 0 none w'' ∧ RF N w' w'') := fun w' hb => pass_any (h3.below hb) (l + x) _ (by omega) (by omega)
  have hFF : RF N w w3 := F2.trans F3
  clear h3 hL hS
  go_wp2_with fail
  refine (hP.out _ (Below.refl _ _)).mono ?_
  rintro e w4 ⟨rfl, h4, F4⟩
  have d0 := h4.c0
  have d1 := h4.c1
  have hnc := h4.nc
  rcases h4.row with h0 | ⟨b, off, rfl, hb, hbN, hB⟩
  · omega
  have hfr := hfrH.out
  have hto := htoH.out
  have hto2 : p + (l + x) = to := by omega
  rw [hto2] at d1 h4
  have hfrI : (p : Int) + (l : Int) = (fr : Int) := by omega
  have i1 : (0 : Int) ≤ (fr : Int) := by omega
  have i2 : (fr : Int) ≤ (to : Int) := by omega
  have i3 : (to : Int) ≤ (n : Int) := by omega
  have i4 : (to : Int) ≤ (cap : Int) := by omega
  have i5 : fr ≤ to := by omega
  have i6 : to ≤ cap := by omega
  have i7 : fr ≤ cap := by omega
  have ex : to - fr = x := by omega
  have h4H : Hid _ := h4
  clear h4 hB hP c1 hfr hto hto2
  by_cases hc : fr < cap
  · have j1 : ¬ cap ≤ fr := by omega
    have j2 : ¬ cap - fr = 0 := by omega
    have j3 : ¬ cap = fr := by omega
    have j4 : ¬ fr = cap := by omega
    go_wp2_with fail
    go_quiet (fail)
    go_wp2_with fail
    go_ret
    exact ⟨⟨_, rfl, cap - fr, Or.inr ⟨b, off, rfl, rfl⟩⟩, h4H.out.drewN _, (hFF.trans F4).trans (RF.drewN _ _)⟩
  · have x0 : x = 0 := by omega
    have x0H : Hid _ := x0
    have j4 : fr = cap := by omega
    have j5 : to = cap := by omega
    go_wp2_with fail
    go_quiet (fail)
    go_wp2_with fail
    go_ret
    exact ⟨⟨_, rfl, 0, Or.inl ⟨x0H.out, b, off, rfl⟩⟩, h4H.out.drewN _, (hFF.trans F4).trans (RF.drewN _ _)⟩
/-- what piece tells: nothing, and what is wrong, or the next bytes behind their number. -/
def PieceG (bs : Nat → Nat) (n p r : Nat) (most : Int) (fv : Option (Int × Int)) (p' r' : Nat) (fv' : Option (Int × Int)) (q m : Nat) : Prop :=
  (startF bs p r fv ≠ none ∧ fv' = startF bs p r fv ∧ m = 0 ∧ p' = p ∧ r' = r) ∨
  (startF bs p r fv = none ∧ ((∃ q, numS bs n p 10 0 0 = .inl q ∧ fv' = some q ∧ m = 0 ∧ p' = p ∧ r' = r) ∨
    (∃ x l, numS bs n p 10 0 0 = .inr (x, l) ∧ (((most < 0 ∨ most < (x : Int)) ∧ fv' = some ((p : Int), 6) ∧ m = 0 ∧ p' = p ∧ r' = r) ∨ ((0 ≤ most ∧ (x : Int) ≤ most) ∧ n < p + l + x ∧ fv' = some ((n : Int), 30) ∧ m = 0 ∧ p' = p ∧ r' = r) ∨ ((0 ≤ most ∧ (x : Int) ≤ most) ∧ p + l + x ≤ n ∧ fv' = none ∧ m = x ∧ q = p + l ∧ p' = p + l + x ∧ r' = 0)))))
set_option maxRecDepth 100000 in
set_option maxHeartbeats 2000000 in
theorem piece_gen (h : RR N w1 a n cap bs p r fv w) (most : Int) (hmost : -9223372036854775808 ≤ most ∧ most ≤ 9223372036854775807) :
    Calls Tryd.prog 34 #[.pointer (some ⟨N, 0, none⟩), .int .i64 most] w fun e w' => (∃ p' r' fv' q m v, PieceG bs n p r most fv p' r' fv' q m ∧ e = .returned v ∧ ((fv' ≠ none ∧ v = .slice none 0 0) ∨ (fv' = none ∧ PieceAt a q m v ∧ q + m ≤ n)) ∧ RR N w1 a n cap bs p' r' fv' w') ∧ RF N w w' := by
  have h256 := h.bytes256
  have hS := number_all h
  by_cases hgood : startF bs p r fv = none ∧ ∃ x l, numS bs n p 10 0 0 = .inr (x, l) ∧ (0 ≤ most ∧ (x : Int) ≤ most) ∧ p + l + x ≤ n
  · obtain ⟨g1, x, l, g2, hms, hle⟩ := hgood
    obtain ⟨rfl, hng⟩ := startF_none g1
    obtain ⟨hl, hn, hxx, hby⟩ := numS_len h256 g2
    subst hl
    refine (piece_ok2 h hng x (by omega) hle hby most ⟨hms.2, hmost.2⟩).mono ?_
    rintro e w' ⟨⟨v, rfl, hv⟩, h2, F2⟩
    exact ⟨⟨p + (uB x).length + x, 0, none, p + (uB x).length, x, v, Or.inr ⟨g1, Or.inr ⟨x, (uB x).length, g2, Or.inr (Or.inr ⟨hms, hle, rfl, rfl, rfl, rfl, rfl⟩)⟩⟩, rfl, Or.inr ⟨rfl, hv, hle⟩, h2⟩, F2⟩
  · have hSH : Hid _ := hS
    have hnb := h.nb
    have hpn := h.pn
    clear hS h
    go_enter Tryd.func34, Tryd.ntmps34
    go_wp2_with fail
    refine Calls.mono hSH.out ?_
    rintro e w2 ⟨⟨fv', hG, h2⟩, F2⟩
    rcases hG with ⟨g1, g2, rfl⟩ | ⟨g1, ⟨q, g2, g3, rfl⟩ | ⟨x, l, g2, g3, rfl⟩⟩
    · have h2H : Hid _ := h2
      have hg : Hid _ := And.intro g1 g2
      clear h2 g1 g2 hgood
      go_wp2_with fail
      go_ret
      exact ⟨⟨p, r, fv', 0, 0, _, Or.inl ⟨hg.out.1, hg.out.2, rfl, rfl, rfl⟩, rfl, Or.inl ⟨by rw [hg.out.2]; exact hg.out.1, rfl⟩, h2H.out⟩, F2⟩
    · have h2H : Hid _ := h2
      have hg : Hid _ := And.intro g1 (And.intro g2 g3)
      clear h2 g1 g2 g3 hgood
      go_wp2_with fail
      go_ret
      exact ⟨⟨p, r, fv', 0, 0, _, Or.inr ⟨hg.out.1, Or.inl ⟨q, hg.out.2.1, hg.out.2.2, rfl, rfl, rfl⟩⟩, rfl, Or.inl ⟨by rw [hg.out.2.2]; simp, rfl⟩, h2H.out⟩, F2⟩
    · subst g3
      obtain ⟨hl, hn, hxx, _⟩ := numS_len h256 g2
      have hl0 : 0 < l := by rw [hl]; exact uBf_pos 10 x
      have hl1 : ¬ (l : Int) = 0 := by omega
      have hg : Hid _ := And.intro g1 g2
      have c1 := h2.c1
      by_cases hm : most < 0 ∨ most < (x : Int)
      · have hFa : Hid (∀ k, Calls Tryd.prog 70 #[.pointer (some ⟨N, 0, none⟩), .int .i64 (p : Int), .int .i64 6] (w2.drewN k) fun ev w' => ev = .returned undef ∧ RR N w1 a n cap bs p r (some ((p : Int), 6)) w' ∧ RF N (w2.drewN k) w') := fun k => fail_any (h2.drewN k) _ 6 rfl
        have hFb : Hid _ := fail_any h2 (p : Int) 6 rfl
        have hmH : Hid _ := hm
        clear h2 g1 g2 hl hgood
        by_cases hneg : most < 0
        · go_wp2_with fail
          refine Calls.mono hFb.out ?_
          rintro e w3 ⟨rfl, h3, F3⟩
          have h3H : Hid _ := h3
          clear h3 hm
          go_wp2_with fail
          go_ret
          exact ⟨⟨p, r, some ((p : Int), 6), 0, 0, _, Or.inr ⟨hg.out.1, Or.inr ⟨x, l, hg.out.2, Or.inl ⟨hmH.out, rfl, rfl, rfl, rfl⟩⟩⟩, rfl, Or.inl ⟨by simp, rfl⟩, h3H.out⟩, F2.trans F3⟩
        · have hmx : most < (x : Int) := by omega
          have hmw : IntKind.u64.wrap most = most := by rw [IntKind.wrap_u64]; omega
          clear hm
          go_wp2_with fail
          refine Calls.mono hFb.out ?_
          rintro e w3 ⟨rfl, h3, F3⟩
          have h3H : Hid _ := h3
          clear h3
          go_wp2_with fail
          go_ret
          exact ⟨⟨p, r, some ((p : Int), 6), 0, 0, _, Or.inr ⟨hg.out.1, Or.inr ⟨x, l, hg.out.2, Or.inl ⟨hmH.out, rfl, rfl, rfl, rfl⟩⟩⟩, rfl, Or.inl ⟨by simp, rfl⟩, h3H.out⟩, F2.trans F3⟩
      · have hms : (0 ≤ most ∧ (x : Int) ≤ most) := by omega
        have hbig : n < p + l + x := by
          rcases Nat.lt_or_ge n (p + l + x) with h | h
          · exact h
          · exact absurd ⟨g1, x, l, g2, hms, h⟩ hgood
        have hL : Hid _ := left_any h2
        have hmn : ¬ most < 0 := by omega
        have hmw : IntKind.u64.wrap most = most := by rw [IntKind.wrap_u64]; omega
        have hmx : ¬ most < (x : Int) := by omega
        have hlw : IntKind.i64.wrap ((n : Int) - (p : Int) - (l : Int)) = (n : Int) - (p : Int) - (l : Int) := IntWalk.i64_in _ (by omega)
        have hlw2 : IntKind.u64.wrap ((n : Int) - (p : Int) - (l : Int)) = (n : Int) - (p : Int) - (l : Int) := by rw [IntKind.wrap_u64]; omega
        have hlt : (n : Int) - (p : Int) - (l : Int) < (x : Int) := by omega
        clear h2 g1 g2 hl hgood hm
        go_wp2_with fail
        refine Calls.mono hL.out ?_
        rintro e w3 ⟨rfl, h3, F3⟩
        have c0 := h3.c0
        have hFb : Hid _ := fail_any h3 (n : Int) 30 rfl
        clear h3
        go_wp2_with fail
        refine Calls.mono hFb.out ?_
        rintro e w4 ⟨rfl, h4, F4⟩
        have h4H : Hid _ := h4
        clear h4
        go_wp2_with fail
        go_ret
        exact ⟨⟨p, r, some ((n : Int), 30), 0, 0, _, Or.inr ⟨hg.out.1, Or.inr ⟨x, l, hg.out.2, Or.inr (Or.inl ⟨hms, hbig, rfl, rfl, rfl, rfl⟩)⟩⟩, rfl, Or.inl ⟨by simp, rfl⟩, h4H.out⟩, (F2.trans F3).trans F4⟩
set_option maxRecDepth 100000 in
theorem rRaw_gen (h : RR N w1 a n cap bs p r fv w) (most : Int) (hmost : -9223372036854775808 ≤ most ∧ most ≤ 9223372036854775807) :
    Calls Tryd.prog 10 #[.pointer (some ⟨N, 0, none⟩), .int .i64 most] w fun e w' => (∃ p' r' fv' q m a' c, PieceG bs n p r most fv p' r' fv' q m ∧ e = .returned (.slice a' m c) ∧ BytesIn w' a' m (fun i => bs (q + i)) ∧ (fv' = none → q + m ≤ n) ∧ RR N w1 a n cap bs p' r' fv' w') ∧ RF N w w' := by
  have hS : Hid _ := piece_gen h most hmost
  clear h
  go_enter Tryd.func10, Tryd.ntmps10
  go_wp2_with fail
  refine Calls.mono hS.out ?_
  rintro e w2 ⟨⟨p', r', fv', q, m, v, hG, rfl, hv, h2⟩, F2⟩
  rcases hv with ⟨hf, rfl⟩ | ⟨hf, hv, hqm⟩
  · have hm0 : m = 0 := by
      rcases hG with ⟨_, _, rfl, _⟩ | ⟨_, ⟨_, _, _, rfl, _⟩ | ⟨_, _, _, ⟨_, _, rfl, _⟩ | ⟨_, _, _, rfl, _⟩ | ⟨_, _, e, _⟩⟩⟩
      · rfl
      · rfl
      · rfl
      · rfl
      · exact absurd e hf
    subst hm0
    have h2H : Hid _ := h2
    have hGH : Hid (PieceG bs n p r most fv p' r' fv' q 0) := hG
    clear h2 hG
    go_wp2_with fail
    refine (clone_nil _).mono ?_
    rintro e w3 ⟨rfl, hw⟩
    have hw' := hw.symm
    subst hw'
    clear hw
    go_wp2_with fail
    go_ret
    exact ⟨⟨p', r', fv', q, 0, none, 0, hGH.out, rfl, ⟨by omega, Or.inl rfl⟩, fun e => absurd e hf, h2H.out⟩, F2⟩
  · subst hf
    obtain ⟨b, o, c, rfl, hin⟩ := hv.bytes h2 hqm
    have hC : Hid _ := clone_in b o m c _ w2 hin
    have h2H : Hid _ := h2
    have hGH : Hid (PieceG bs n p r most fv p' r' none q m) := hG
    clear h2 hin hv hG
    go_wp2_with fail
    refine Calls.mono hC.out ?_
    rintro e w3 ⟨⟨a', c', rfl, hin'⟩, hB⟩
    go_wp2_with fail
    go_ret
    exact ⟨⟨p', r', none, q, m, a', c', hGH.out, rfl, hin', fun _ => hqm, h2H.out.below hB⟩, F2.trans (RF.below hB)⟩
end
end Go.Proofs.YtepgcgphnjlcoaaDoor
