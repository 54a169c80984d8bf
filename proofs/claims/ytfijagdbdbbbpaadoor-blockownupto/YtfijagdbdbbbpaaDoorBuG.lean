
import Derived.Test.YtfijagdbdbbbpaaDoorBuF
import Derived.Test.YtfijagdbdbbbpaaDoorRwEq
namespace Go.Proofs.YtfijagdbdbbbpaaDoor
open Go.RowKit
set_option linter.unusedVariables false
set_option linter.unusedSimpArgs false
/-- a number without sign as one with it. -/
def unfoldN (v : Nat) : Int := if v % 2 = 0 then ((v / 2 : Nat) : Int) else -((v / 2 : Nat) : Int) - 1
theorem fold_unfold (v : Nat) : foldZ (unfoldN v) = v := by unfold foldZ unfoldN; split <;> split <;> omega
theorem unfoldN_rg (v : Nat) (h : v < 18446744073709551616) : -9223372036854775808 ≤ unfoldN v ∧ unfoldN v ≤ 9223372036854775807 := by unfold unfoldN; split <;> omega
theorem unfold_xor2 (v : Nat) (h : v < 18446744073709551616) : bits .xor .i64 (wrap64 ((v : Int) / 2)) (wrap64 (-wrap64 (bits .and .u64 (v : Int) 1))) = unfoldN v := by
  have := unfold_xor (unfoldN v) (unfoldN_rg v h)
  rw [fold_unfold] at this
  exact this
theorem UintG.lt {bs : Nat → Nat} {n p r M : Nat} {fv : Option (Int × Int)} {p' r' : Nat} {fv' : Option (Int × Int)} {v : Nat} (hbs : ∀ i, i < n → bs i < 256) (h : UintG bs n p r M fv p' r' fv' v) : v < 18446744073709551616 := by
  rcases h with ⟨_, _, rfl, _⟩ | ⟨_, ⟨q, _, _, rfl, _⟩ | ⟨x, l, hx, ⟨_, _, rfl, _⟩ | ⟨_, _, rfl, _⟩⟩⟩
  · omega
  · omega
  · omega
  · exact (numS_len hbs hx).2.2.1
section
variable {N : Nat} {w1 : World} {a : Option Addr} {n cap p r : Nat} {bs : Nat → Nat} {fv : Option (Int × Int)} {w : World}
set_option maxRecDepth 100000 in
theorem rInt_gen (h : RR N w1 a n cap bs p r fv w) : Calls Tryd.prog 29 #[.pointer (some ⟨N, 0, none⟩)] w fun e w' => (∃ p' r' fv' v, UintG bs n p r 18446744073709551615 fv p' r' fv' v ∧ e = .returned (.int .i64 (unfoldN v)) ∧ RR N w1 a n cap bs p' r' fv' w') ∧ RF N w w' := by
  have h256 := h.bytes256
  have hS : Hid _ := rUint_gen h 18446744073709551615
  clear h
  go_enter Tryd.func29, Tryd.ntmps29
  go_wp2_with fail
  refine Calls.mono hS.out ?_
  rintro e w2 ⟨⟨p', r', fv', v, hG, rfl, h2⟩, F2⟩
  have hx : Hid _ := unfold_xor2 v (hG.lt h256)
  have h2H : Hid _ := h2
  have hGH : Hid _ := hG
  clear h2 hG
  go_wp2_with fail
  go_ret
  exact ⟨⟨p', r', fv', v, hGH.out, congrArg (fun y => Ending.returned (Value.int .i64 y)) hx.out, h2H.out⟩, F2⟩
set_option maxRecDepth 100000 in
set_option maxHeartbeats 1000000 in
theorem piece_ok2 (h : RR N w1 a n cap bs p r none w) (hr : ¬ (r ≠ 0 ∧ bs (p - 1) % 2 ^ r ≠ 0)) (x : Nat) (hx : x < 9223372036854775808) (hm : p + (uB x).length + x ≤ n) (hbs : ∀ i, i < (uB x).length → bs (p + i) = (uB x).getD i 0) (most : Int) (hmost : (x : Int) ≤ most ∧ most ≤ 9223372036854775807) :
    Calls Tryd.prog 81 #[.pointer (some ⟨N, 0, none⟩), .int .i64 most] w fun e w' => (∃ v, e = .returned v ∧ PieceAt a (p + (uB x).length) x v) ∧ RR N w1 a n cap bs (p + (uB x).length + x) 0 none w' ∧ RF N w w' := by
  have hS : Hid _ := number_ok h hr x (by omega) (by omega) hbs
  have hpos := uBf_pos 10 x
  have hnb := h.nb
  obtain ⟨l, hl⟩ : ∃ l, l = (uB x).length := ⟨_, rfl⟩
  rw [← hl] at hS hm ⊢
  have hl0 : 0 < l := by rw [hl]; exact hpos
  have hlI : (0 : Int) < (l : Int) := by omega
  have hl1 : ¬ (l : Int) = 0 := by omega
  have hxI : ¬ most < 0 := by omega
  have hmx : ¬ most < (x : Int) := by omega
  have hmw : IntKind.u64.wrap most = most := by rw [IntKind.wrap_u64]; omega
  obtain ⟨fr, hfr⟩ : ∃ fr, fr = p + l := ⟨_, rfl⟩
  rw [← hfr]
  obtain ⟨to, hto⟩ : ∃ to, to = fr + x := ⟨_, rfl⟩
  rw [← hto]
  have hfrH : Hid _ := hfr
  have htoH : Hid _ := hto
  clear hfr hto
  have hxw : IntKind.u64.wrap (x : Int) = (x : Int) := by rw [IntKind.wrap_u64]; omega
  clear h hr hbs hl hpos
  go_enter Tryd.func81, Tryd.ntmps81
  go_wp2_with fail
  refine Calls.mono hS.out ?_
  rintro e w2 ⟨rfl, h2, F2⟩
  have hL : Hid _ := left_any h2
  have hlw : IntKind.i64.wrap ((n : Int) - (p : Int) - (l : Int)) = (n : Int) - (p : Int) - (l : Int) := IntWalk.i64_in _ (by omega)
  have hlw2 : IntKind.u64.wrap ((n : Int) - (p : Int) - (l : Int)) = (n : Int) - (p : Int) - (l : Int) := by rw [IntKind.wrap_u64]; omega
  have hlt : ¬ (n : Int) - (p : Int) - (l : Int) < (x : Int) := by omega
  clear h2
  go_wp2_with fail
  refine Calls.mono hL.out ?_
  rintro e w3 ⟨rfl, h3, F3⟩
  have c1 := h3.c1
  have hxw2 : IntKind.i64.wrap (x : Int) = (x : Int) := IntWalk.i64_in _ (by omega)
  have hxl : IntKind.i64.wrap ((l : Int) + (x : Int)) = (l : Int) + (x : Int) := IntWalk.i64_in _ (by omega)
  have hpl : IntKind.i64.wrap ((p : Int) + (l : Int)) = (p : Int) + (l : Int) := IntWalk.i64_in _ (by omega)
  have hP : Hid (∀ w', Below w3.heap.size w3 w' → Calls Tryd.prog 74 #[.pointer (some ⟨N, 0, none⟩), .int .i64 ((l : Int) + (x : Int))] w' fun e w'' => e = .returned undef ∧ RR N w1 a n cap bs (p + (l + x)) 0 none w'' ∧ RF N w' w'') := fun w' hb => pass_any (h3.below hb) (l + x) _ (by omega) (by omega)
  have hFF : RF N w w3 := F2.trans F3
  clear h3 hL hS
  go_wp2_with fail
  refine (hP.out _ (Below.refl _ _)).mono ?_
  rintro e w4 ⟨rfl, h4, F4⟩
  have d0 := h4.c0
  have d1 := h4.c1
  have hnc := h4.nc
  rcases h4.row with h0 | ⟨b, off, rfl, hb, hbN, hB⟩
  · omega
  have hfr := hfrH.out
  have hto := htoH.out
  have hto2 : p + (l + x) = to := by omega
  rw [hto2] at d1 h4
  have hfrI : (p : Int) + (l : Int) = (fr : Int) := by omega
  have i1 : (0 : Int) ≤ (fr : Int) := by omega
  have i2 : (fr : Int) ≤ (to : Int) := by omega
  have i3 : (to : Int) ≤ (n : Int) := by omega
  have i4 : (to : Int) ≤ (cap : Int) := by omega
  have i5 : fr ≤ to := by omega
  have i6 : to ≤ cap := by omega
  have i7 : fr ≤ cap := by omega
  have ex : to - fr = x := by omega
  have h4H : Hid _ := h4
  clear h4 hB hP c1 hfr hto hto2
  by_cases hc : fr < cap
  · have j1 : ¬ cap ≤ fr := by omega
    have j2 : ¬ cap - fr = 0 := by omega
    have j3 : ¬ cap = fr := by omega
    have j4 : ¬ fr = cap := by omega
    go_wp2_with fail
    go_quiet (fail)
    go_wp2_with fail
    go_ret
    exact ⟨⟨_, rfl, cap - fr, Or.inr ⟨b, off, rfl, rfl⟩⟩, h4H.out.drewN _, (hFF.trans F4).trans (RF.drewN _ _)⟩
  · have x0 : x = 0 := by omega
    have x0H : Hid _ := x0
    have j4 : fr = cap := by omega
    have j5 : to = cap := by omega
    go_wp2_with fail
    go_quiet (fail)
    go_wp2_with fail
    go_ret
    exact ⟨⟨_, rfl, 0, Or.inl ⟨x0H.out, b, off, rfl⟩⟩, h4H.out.drewN _, (hFF.trans F4).trans (RF.drewN _ _)⟩
/-- what piece tells: nothing, and what is wrong, or the next bytes behind their number. -/
def PieceG (bs : Nat → Nat) (n p r : Nat) (most : Int) (fv : Option (Int × Int)) (p' r' : Nat) (fv' : Option (Int × Int)) (q m : Nat) : Prop :=
  (startF bs p r fv ≠ none ∧ fv' = startF bs p r fv ∧ m = 0 ∧ p' = p ∧ r' = r) ∨
  (startF bs p r fv = none ∧ ((∃ q, numS bs n p 10 0 0 = .inl q ∧ fv' = some q ∧ m = 0 ∧ p' = p ∧ r' = r) ∨
    (∃ x l, numS bs n p 10 0 0 = .inr (x, l) ∧ (((most < 0 ∨ most < (x : Int)) ∧ fv' = some ((p : Int), 6) ∧ m = 0 ∧ p' = p ∧ r' = r) ∨ ((0 ≤ most ∧ (x : Int) ≤ most) ∧ n < p + l + x ∧ fv' = some ((n : Int), 30) ∧ m = 0 ∧ p' = p ∧ r' = r) ∨ ((0 ≤ most ∧ (x : Int) ≤ most) ∧ p + l + x ≤ n ∧ fv' = none ∧ m = x ∧ q = p + l ∧ p' = p + l + x ∧ r' = 0)))))
set_option maxRecDepth 100000 in
set_option maxHeartbeats 2000000 in
theorem piece_gen (h : RR N w1 a n cap bs p r fv w) (most : Int) (hmost : -9223372036854775808 ≤ most ∧ most ≤ 9223372036854775807) :
    Calls Tryd.prog 81 #[.pointer (some ⟨N, 0, none⟩), .int .i64 most] w fun e w' => (∃ p' r' fv' q m v, PieceG bs n p r most fv p' r' fv' q m ∧ e = .returned v ∧ ((fv' ≠ none ∧ v = .slice none 0 0) ∨ (fv' = none ∧ PieceAt a q m v ∧ q + m ≤ n)) ∧ RR N w1 a n cap bs p' r' fv' w') ∧ RF N w w' := by
  have h256 := h.bytes256
  have hS := number_all h
  by_cases hgood : startF bs p r fv = none ∧ ∃ x l, numS bs n p 10 0 0 = .inr (x, l) ∧ (0 ≤ most ∧ (x : Int) ≤ most) ∧ p + l + x ≤ n
  · obtain ⟨g1, x, l, g2, hms, hle⟩ := hgood
    obtain ⟨rfl, hng⟩ := startF_none g1
    obtain ⟨hl, hn, hxx, hby⟩ := numS_len h256 g2
    subst hl
    refine (piece_ok2 h hng x (by omega) hle hby most ⟨hms.2, hmost.2⟩).mono ?_
    rintro e w' ⟨⟨v, rfl, hv⟩, h2, F2⟩
    exact ⟨⟨p + (uB x).length + x, 0, none, p + (uB x).length, x, v, Or.inr ⟨g1, Or.inr ⟨x, (uB x).length, g2, Or.inr (Or.inr ⟨hms, hle, rfl, rfl, rfl, rfl, rfl⟩)⟩⟩, rfl, Or.inr ⟨rfl, hv, hle⟩, h2⟩, F2⟩
  · have hSH : Hid _ := hS
    have hnb := h.nb
    have hpn := h.pn
    clear hS h
    go_enter Tryd.func81, Tryd.ntmps81
    go_wp2_with fail
    refine Calls.mono hSH.out ?_
    rintro e w2 ⟨⟨fv', hG, h2⟩, F2⟩
    rcases hG with ⟨g1, g2, rfl⟩ | ⟨g1, ⟨q, g2, g3, rfl⟩ | ⟨x, l, g2, g3, rfl⟩⟩
    · have h2H : Hid _ := h2
      have hg : Hid _ := And.intro g1 g2
      clear h2 g1 g2 hgood
      go_wp2_with fail
      go_ret
      exact ⟨⟨p, r, fv', 0, 0, _, Or.inl ⟨hg.out.1, hg.out.2, rfl, rfl, rfl⟩, rfl, Or.inl ⟨by rw [hg.out.2]; exact hg.out.1, rfl⟩, h2H.out⟩, F2⟩
    · have h2H : Hid _ := h2
      have hg : Hid _ := And.intro g1 (And.intro g2 g3)
      clear h2 g1 g2 g3 hgood
      go_wp2_with fail
      go_ret
      exact ⟨⟨p, r, fv', 0, 0, _, Or.inr ⟨hg.out.1, Or.inl ⟨q, hg.out.2.1, hg.out.2.2, rfl, rfl, rfl⟩⟩, rfl, Or.inl ⟨by rw [hg.out.2.2]; simp, rfl⟩, h2H.out⟩, F2⟩
    · subst g3
      obtain ⟨hl, hn, hxx, _⟩ := numS_len h256 g2
      have hl0 : 0 < l := by rw [hl]; exact uBf_pos 10 x
      have hl1 : ¬ (l : Int) = 0 := by omega
      have hg : Hid _ := And.intro g1 g2
      have c1 := h2.c1
      by_cases hm : most < 0 ∨ most < (x : Int)
      · have hFa : Hid (∀ k, Calls Tryd.prog 73 #[.pointer (some ⟨N, 0, none⟩), .int .i64 (p : Int), .int .i64 6] (w2.drewN k) fun ev w' => ev = .returned undef ∧ RR N w1 a n cap bs p r (some ((p : Int), 6)) w' ∧ RF N (w2.drewN k) w') := fun k => fail_any (h2.drewN k) _ 6 rfl
        have hFb : Hid _ := fail_any h2 (p : Int) 6 rfl
        have hmH : Hid _ := hm
        clear h2 g1 g2 hl hgood
        by_cases hneg : most < 0
        · go_wp2_with fail
          refine Calls.mono hFb.out ?_
          rintro e w3 ⟨rfl, h3, F3⟩
          have h3H : Hid _ := h3
          clear h3 hm
          go_wp2_with fail
          go_ret
          exact ⟨⟨p, r, some ((p : Int), 6), 0, 0, _, Or.inr ⟨hg.out.1, Or.inr ⟨x, l, hg.out.2, Or.inl ⟨hmH.out, rfl, rfl, rfl, rfl⟩⟩⟩, rfl, Or.inl ⟨by simp, rfl⟩, h3H.out⟩, F2.trans F3⟩
        · have hmx : most < (x : Int) := by omega
          have hmw : IntKind.u64.wrap most = most := by rw [IntKind.wrap_u64]; omega
          clear hm
          go_wp2_with fail
          refine Calls.mono hFb.out ?_
          rintro e w3 ⟨rfl, h3, F3⟩
          have h3H : Hid _ := h3
          clear h3
          go_wp2_with fail
          go_ret
          exact ⟨⟨p, r, some ((p : Int), 6), 0, 0, _, Or.inr ⟨hg.out.1, Or.inr ⟨x, l, hg.out.2, Or.inl ⟨hmH.out, rfl, rfl, rfl, rfl⟩⟩⟩, rfl, Or.inl ⟨by simp, rfl⟩, h3H.out⟩, F2.trans F3⟩
      · have hms : (0 ≤ most ∧ (x : Int) ≤ most) := by omega
        have hbig : n < p + l + x := by
          rcases Nat.lt_or_ge n (p + l + x) with h | h
          · exact h
          · exact absurd ⟨g1, x, l, g2, hms, h⟩ hgood
        have hL : Hid _ := left_any h2
        have hmn : ¬ most < 0 := by omega
        have hmw : IntKind.u64.wrap most = most := by rw [IntKind.wrap_u64]; omega
        have hmx : ¬ most < (x : Int) := by omega
        have hlw : IntKind.i64.wrap ((n : Int) - (p : Int) - (l : Int)) = (n : Int) - (p : Int) - (l : Int) := IntWalk.i64_in _ (by omega)
        have hlw2 : IntKind.u64.wrap ((n : Int) - (p : Int) - (l : Int)) = (n : Int) - (p : Int) - (l : Int) := by rw [IntKind.wrap_u64]; omega
        have hlt : (n : Int) - (p : Int) - (l : Int) < (x : Int) := by omega
        clear h2 g1 g2 hl hgood hm
        go_wp2_with fail
        refine Calls.mono hL.out ?_
        rintro e w3 ⟨rfl, h3, F3⟩
        have c0 := h3.c0
        have hFb : Hid _ := fail_any h3 (n : Int) 30 rfl
        clear h3
        go_wp2_with fail
        refine Calls.mono hFb.out ?_
        rintro e w4 ⟨rfl, h4, F4⟩
        have h4H : Hid _ := h4
        clear h4
        go_wp2_with fail
        go_ret
        exact ⟨⟨p, r, some ((n : Int), 30), 0, 0, _, Or.inr ⟨hg.out.1, Or.inr ⟨x, l, hg.out.2, Or.inr (Or.inl ⟨hms, hbig, rfl, rfl, rfl, rfl⟩)⟩⟩, rfl, Or.inl ⟨by simp, rfl⟩, h4H.out⟩, (F2.trans F3).trans F4⟩
set_option maxRecDepth 100000 in
theorem rRaw_gen (h : RR N w1 a n cap bs p r fv w) (most : Int) (hmost : -9223372036854775808 ≤ most ∧ most ≤ 9223372036854775807) :
    Calls Tryd.prog 34 #[.pointer (some ⟨N, 0, none⟩), .int .i64 most] w fun e w' => (∃ p' r' fv' q m a' c, PieceG bs n p r most fv p' r' fv' q m ∧ e = .returned (.slice a' m c) ∧ BytesIn w' a' m (fun i => bs (q + i)) ∧ (fv' = none → q + m ≤ n) ∧ RR N w1 a n cap bs p' r' fv' w') ∧ RF N w w' := by
  have hS : Hid _ := piece_gen h most hmost
  clear h
  go_enter Tryd.func34, Tryd.ntmps34
  go_wp2_with fail
  refine Calls.mono hS.out ?_
  rintro e w2 ⟨⟨p', r', fv', q, m, v, hG, rfl, hv, h2⟩, F2⟩
  rcases hv with ⟨hf, rfl⟩ | ⟨hf, hv, hqm⟩
  · have hm0 : m = 0 := by
      rcases hG with ⟨_, _, rfl, _⟩ | ⟨_, ⟨_, _, _, rfl, _⟩ | ⟨_, _, _, ⟨_, _, rfl, _⟩ | ⟨_, _, _, rfl, _⟩ | ⟨_, _, e, _⟩⟩⟩
      · rfl
      · rfl
      · rfl
      · rfl
      · exact absurd e hf
    subst hm0
    have h2H : Hid _ := h2
    have hGH : Hid (PieceG bs n p r most fv p' r' fv' q 0) := hG
    clear h2 hG
    go_wp2_with fail
    refine (clone_nil _).mono ?_
    rintro e w3 ⟨rfl, hw⟩
    have hw' := hw.symm
    subst hw'
    clear hw
    go_wp2_with fail
    go_ret
    exact ⟨⟨p', r', fv', q, 0, none, 0, hGH.out, rfl, ⟨by omega, Or.inl rfl⟩, fun e => absurd e hf, h2H.out⟩, F2⟩
  · subst hf
    obtain ⟨b, o, c, rfl, hin⟩ := hv.bytes h2 hqm
    have hC : Hid _ := clone_in b o m c _ w2 hin
    have h2H : Hid _ := h2
    have hGH : Hid (PieceG bs n p r most fv p' r' none q m) := hG
    clear h2 hin hv hG
    go_wp2_with fail
    refine Calls.mono hC.out ?_
    rintro e w3 ⟨⟨a', c', rfl, hin'⟩, hB⟩
    go_wp2_with fail
    go_ret
    exact ⟨⟨p', r', none, q, m, a', c', hGH.out, rfl, hin', fun _ => hqm, h2H.out.below hB⟩, F2.trans (RF.below hB)⟩
end
end Go.Proofs.YtfijagdbdbbbpaaDoor

namespace Go.Proofs.YtfijagdbdbbbpaaDoor
open Go.RowKit
set_option linter.unusedVariables false
set_option linter.unusedSimpArgs false
section
variable {N : Nat} {w1 : World} {a : Option Addr} {n cap p r : Nat} {bs : Nat → Nat} {w : World}
set_option maxRecDepth 100000 in
theorem done_ok (h : RR N w1 a n cap bs n r none w) (hr : ¬ (r ≠ 0 ∧ bs (n - 1) % 2 ^ r ≠ 0)) : Calls Tryd.prog 32 #[.pointer (some ⟨N, 0, none⟩)] w fun e w' => e = .returned .nilIface ∧ RR N w1 a n cap bs n r none w' ∧ RF N w w' := by
  have hd : decide (r ≠ 0 ∧ bs (n - 1) % 2 ^ r ≠ 0) = false := decide_eq_false hr
  have hS : Hid _ := sound_any h
  have hR := ragged_any h
  rw [hd] at hR
  have hRH : Hid _ := hR
  clear hR hd hr h
  go_enter Tryd.func32, Tryd.ntmps32
  go_wp2_with fail
  refine Calls.mono hS.out ?_
  rintro e w2 ⟨rfl, hw2⟩
  have hw3 := hw2.symm
  subst hw3
  clear hw2
  go_wp2_with fail
  refine Calls.mono hRH.out ?_
  rintro e w3 ⟨rfl, h3, F3⟩
  have hL : Hid _ := left_any h3
  have hz : ¬ (0 : Int) < (n : Int) - (n : Int) := by omega
  clear h3
  go_wp2_with fail
  refine Calls.mono hL.out ?_
  rintro e w4 ⟨rfl, h4, F4⟩
  have h4H : Hid _ := h4
  clear h4
  go_wp2_with fail
  go_ret
  exact ⟨rfl, h4H.out, F3.trans F4⟩
end
theorem clone_none4 (g off c : Nat) (w : World) : Calls Tryd.prog 67 #[.slice (some ⟨g, off, none⟩) 0 c] w fun e w' => (∃ g c', e = .returned (.slice (some ⟨g, 0, none⟩) 0 c') ∧ w.heap.size ≤ g ∧ g < w'.heap.size) ∧ Below w.heap.size w w' := by
  have hnil : ∀ w0 : World, (binOp .eql 60 (.slice (some ⟨g, off, none⟩) 0 c) (.slice none 0 0)).run Tryd.prog w0 = .ok (.bool false) w0 := fun w0 => Go.Lib.run_eql_slice_nil w0 60 5 (some ⟨g, off, none⟩) 0 c 0 0 Tryd.underlying60
  have hown : (w.alloc (.cells #[] 5)).ownsRow w.heap.size 5 1 (.slice (some ⟨w.heap.size, 0, none⟩) 0 0) 0 (enc []) := World.ownsRow_lit w #[] 0 (Nat.le_refl _) (by omega) (by simp)
  obtain ⟨g', c', w', hr, ho, hgrow, _⟩ := app_any2 w.heap.size w.heap.size 0 0 0 [] [] _ (some ⟨g, off, none⟩) c hown rfl (Or.inl rfl) (by omega) (by simp)
  have hB := below_grown (below_new (Below.refl _ w) (.cells #[] 5)) hgrow (fun k e => by injection e with e; omega)
  have hrH : Hid _ := hr
  have hgl := ho.lt g' rfl
  clear hr ho hgrow hown
  go_enter Tryd.func67, Tryd.ntmps67
  go_wp2_with (at_builtin; refine wpList_append_run2 (by rfl) _ _ _ _ (by rfl) _ _ _ _ (by rfl) (by rfl) hrH.out ?_)
  go_wp2_with fail
  go_ret
  exact ⟨⟨_, _, rfl, hgl.1, hgl.2⟩, hB⟩
theorem clone_none3 (g off c : Nat) (w : World) : Calls Tryd.prog 67 #[.slice (some ⟨g, off, none⟩) 0 c] w fun e w' => (∃ g' c', e = .returned (.slice (some ⟨g', 0, none⟩) 0 c')) ∧ Below w.heap.size w w' :=
  (clone_none4 g off c w).mono fun e w' h => by obtain ⟨⟨g', c', he, _⟩, hB⟩ := h; exact ⟨⟨g', c', he⟩, hB⟩
theorem bytesB2 (N : Nat) (w1 : World) (fr : Int) (v : Value) (l : List Nat) (w : World) (h : WS N w1 fr v l.length (enc l) w) (hl : ∀ y ∈ l, y < 256) (hb : l.length ≤ 140737488355327) :
    Calls Tryd.prog 19 #[.pointer (some ⟨N, 0, none⟩)] w fun e w' => ((e = .returned (.slice none 0 0) ∧ l = []) ∨ ∃ g o c, e = .returned (.slice (some ⟨g, o, none⟩) l.length c) ∧ BytesIn w' (some ⟨g, o, none⟩) l.length (natsOf l)) ∧ Below w.heap.size w w' := by
  rcases Nat.eq_zero_or_pos l.length with h0 | h0
  · obtain rfl : l = [] := List.eq_nil_of_length_eq_zero h0
    have c0 := h.c0
    rcases h.own.2 with ⟨e, e0⟩ | ⟨g, cap, cur, e1, _⟩
    · subst e
      go_enter Tryd.func19, Tryd.ntmps19
      go_wp2_with fail
      refine (clone_nil _).mono ?_
      rintro e w' ⟨rfl, rfl⟩
      go_wp2_with fail
      go_ret
      exact ⟨Or.inl ⟨rfl, by trivial⟩, Below.refl _ _⟩
    · subst e1
      go_enter Tryd.func19, Tryd.ntmps19
      go_wp2_with fail
      refine (clone_none3 g 0 cap _).mono ?_
      rintro e w' ⟨⟨g', c', rfl⟩, hB⟩
      go_wp2_with fail
      go_ret
      exact ⟨Or.inr ⟨g', 0, c', rfl, by simp, Or.inl rfl⟩, hB⟩
  · refine (bytes_any N w1 fr v l.length (enc l) w h (enc_one l) h0 (by omega)).mono ?_
    rintro e w' ⟨g', cap', rfl, ho, hB⟩
    exact ⟨Or.inr ⟨g', 0, cap', rfl, hb, Or.inr ⟨g', 0, rfl, (ho.lt g' rfl).2, bytes_own ho hl⟩⟩, hB⟩
/-- a Clone, and that its room is as long as it is. -/
theorem clone_cap (b o m c : Nat) (bs : Nat → Nat) (w : World) (h : BytesIn w (some ⟨b, o, none⟩) m bs) : Calls Tryd.prog 67 #[.slice (some ⟨b, o, none⟩) m c] w fun e w' => (∃ g c', e = .returned (.slice (some ⟨g, 0, none⟩) m c') ∧ m ≤ c' ∧ w.heap.size ≤ g ∧ g < w'.heap.size ∧ (m = 0 ∨ BytesAt w' g 0 m bs)) ∧ Below w.heap.size w w' := by
  rcases Nat.eq_zero_or_pos m with h0 | h0
  · subst h0
    refine (clone_none4 b o c w).mono ?_
    rintro e w' ⟨⟨g, c', rfl, hg1, hg2⟩, hB⟩
    exact ⟨⟨g, c', rfl, by omega, hg1, hg2, Or.inl rfl⟩, hB⟩
  · rcases h.2 with h1 | ⟨b', o', e, hb, hB⟩
    · omega
    injection e with e; injection e with e1 e2; subst e1 e2
    have hlt : ∀ i, i < m → bs i < 256 := fun i hi => (hB i hi).2
    have hm := h.1
    have hN : BytesAt w b o (bytesL bs m).length (natsOf (bytesL bs m)) := by
      intro i hi
      have hi' : i < m := by simpa [bytesL] using hi
      rw [nats_bytesL bs m i hi']; exact hB i hi'
    have hbl : (bytesL bs m).length = m := by simp [bytesL]
    refine (clone_any b o m c (enc (bytesL bs m)) w (by rw [enc_len, hbl]) (bytes_news hN) (enc_one _) h0 (by omega)).mono ?_
    rintro e w' ⟨g', cap', rfl, ho, hBe⟩
    have hcap : m ≤ cap' := by
      rcases ho.2 with ⟨hq, _⟩ | ⟨g0, cap0, cur, hq, _, _, hnc, _⟩
      · cases hq
      · cases hq; exact hnc
    refine ⟨⟨g', cap', rfl, hcap, (ho.lt g' rfl).1, (ho.lt g' rfl).2, Or.inr fun i hi => ?_⟩, hBe⟩
    have := bytes_own ho (bytesL_lt hlt) i hi
    rw [nats_bytesL bs m i hi] at this
    exact this
/-- NewReader, over what was written. -/
theorem new_ok (b o m c : Nat) (bs : Nat → Nat) (w : World) (h : BytesIn w (some ⟨b, o, none⟩) m bs) : Calls Tryd.prog 26 #[.slice (some ⟨b, o, none⟩) m c] w fun e w' => ∃ N a cap, e = .returned (.pointer (some ⟨N, 0, none⟩)) ∧ w.heap.size ≤ N ∧ RR N w' a m cap bs 0 0 none w' ∧ Below w.heap.size w w' := by
  have hC : Hid (∀ w', Below w.heap.size w w' → _) := fun w' hb => clone_cap b o m c bs w' (h.below hb)
  have hm := h.1
  clear h
  go_enter Tryd.func26, Tryd.ntmps26
  go_wp2_with fail
  refine Calls.mono (hC.out _ (Below.refl _ _)) ?_
  rintro e w2 ⟨⟨g, c', rfl, hc', hg1, hg2, hB⟩, hBe⟩
  have hRR : RR w2.heap.size (w2.alloc (.cells #[.slice (some ⟨g, 0, none⟩) m c', .int .i64 0, .int .i64 0, .nilIface] 119)) (some ⟨g, 0, none⟩) m c' bs 0 0 none (w2.alloc (.cells #[.slice (some ⟨g, 0, none⟩) m c', .int .i64 0, .int .i64 0, .nilIface] 119)) := by
    refine ⟨by simp [go_sem], by simp [go_sem], by simp [go_sem], by simp [go_sem, fvV], by simp [go_sem], by simp [go_sem], by simp [go_sem], ?_, hm, hc', by omega, by omega, fun h => absurd rfl h, Below.refl _ _, by simp⟩
    rcases hB with h0 | hB
    · exact Or.inl h0
    · exact Or.inr ⟨g, 0, rfl, by simp; omega, by omega, hB.below ((Below.refl _ w2).alloc (Nat.le_refl _) _) hg2⟩
  have hRRH : Hid _ := hRR
  have hBe2 := hBe.size
  clear hRR hB
  go_wp2_with fail
  go_ret
  exact ⟨w2.heap.size, _, c', rfl, hBe2, hRRH.out, below_new hBe _⟩
theorem new_nil (bs : Nat → Nat) (w : World) : Calls Tryd.prog 26 #[.slice none 0 0] w fun e w' => ∃ N a cap, e = .returned (.pointer (some ⟨N, 0, none⟩)) ∧ w.heap.size ≤ N ∧ RR N w' a 0 cap bs 0 0 none w' ∧ Below w.heap.size w w' := by
  go_enter Tryd.func26, Tryd.ntmps26
  go_wp2_with fail
  refine (clone_nil _).mono ?_
  rintro e w2 ⟨rfl, hw⟩
  have hw' := hw.symm
  subst hw'
  clear hw
  have hRR : RR w.heap.size (w.alloc (.cells #[.slice none 0 0, .int .i64 0, .int .i64 0, .nilIface] 119)) none 0 0 bs 0 0 none (w.alloc (.cells #[.slice none 0 0, .int .i64 0, .int .i64 0, .nilIface] 119)) :=
    ⟨by simp [go_sem], by simp [go_sem], by simp [go_sem], by simp [go_sem, fvV], by simp [go_sem], by simp [go_sem], by simp [go_sem], Or.inl rfl, by omega, by omega, by omega, by omega, fun h => absurd rfl h, Below.refl _ _, by simp⟩
  have hRRH : Hid _ := hRR
  clear hRR
  go_wp2_with fail
  go_ret
  exact ⟨w.heap.size, _, 0, rfl, Nat.le_refl _, hRRH.out, below_new (Below.refl _ _) _⟩
end Go.Proofs.YtfijagdbdbbbpaaDoor

namespace Go.Proofs.YtfijagdbdbbbpaaDoor
open Go.RowKit
set_option linter.unusedVariables false
set_option linter.unusedSimpArgs false
/-- what Bits tells. -/
def BitsG (bs : Nat → Nat) (n p r c : Nat) (fv : Option (Int × Int)) (p' r' : Nat) (fv' : Option (Int × Int)) (v : Nat) : Prop :=
  (fv ≠ none ∧ fv' = fv ∧ v = 0 ∧ p' = p ∧ r' = r) ∨ (fv = none ∧ 8 * n < 8 * p - r + c ∧ fv' = some ((n : Int), 30) ∧ v = 0 ∧ p' = p ∧ r' = r) ∨ (fv = none ∧ 8 * p - r + c ≤ 8 * n ∧ fv' = none ∧ v = rdB bs (8 * p - r) c ∧ r' < 8 ∧ 8 * p - r + c + r' = 8 * p')
/-- what Done tells. -/
def doneF (bs : Nat → Nat) (n p r : Nat) (fv : Option (Int × Int)) : Option (Int × Int) := if (startF bs p r fv).isSome then startF bs p r fv else if p < n then some ((p : Int), 33) else none
section
variable {N : Nat} {w1 : World} {a : Option Addr} {n cap p r : Nat} {bs : Nat → Nat} {fv : Option (Int × Int)} {w : World}
set_option maxRecDepth 100000 in
set_option maxHeartbeats 2000000 in
theorem rBits_gen (h : RR N w1 a n cap bs p r fv w) (hr8 : r < 8) (k : Int) : Calls Tryd.prog 75 #[.pointer (some ⟨N, 0, none⟩), .int .i64 k] w fun e w' => (∃ p' r' fv' v, BitsG bs n p r (broughtN k) fv p' r' fv' v ∧ e = .returned (.int .u64 (v : Int)) ∧ RR N w1 a n cap bs p' r' fv' w') ∧ RF N w w' := by
  have hrp := h.rp
  have hpn := h.pn
  cases fv with
  | some x =>
    have hS : Hid _ := sound_any h
    have hH : Hid _ := h
    clear h
    go_enter Tryd.func75, Tryd.ntmps75
    go_wp2_with fail
    refine Calls.mono hS.out ?_
    rintro e w2 ⟨rfl, hw2⟩
    have hw3 := hw2.symm
    subst hw3
    clear hw2
    go_wp2_with fail
    go_ret
    exact ⟨⟨p, r, some x, 0, Or.inl ⟨by simp, rfl, rfl, rfl, rfl⟩, rfl, hH.out⟩, RF.refl _ _⟩
  | none =>
    have hq : 8 * p - r + r = 8 * p := by
      by_cases h0 : r = 0
      · omega
      · have := hrp h0; omega
    by_cases hm : 8 * p - r + broughtN k ≤ 8 * n
    · refine (rBits_ok h hr8 k (8 * p - r) hq hm).mono ?_
      rintro e w' ⟨rfl, ⟨p', r', h2, h3, h4⟩, F⟩
      exact ⟨⟨p', r', none, _, Or.inr (Or.inr ⟨rfl, hm, rfl, rfl, h3, h4⟩), rfl, h2⟩, F⟩
    · have hbk := broughtN_le k
      have hS : Hid _ := sound_any h
      obtain ⟨c, hcc⟩ : ∃ c, c = broughtN k := ⟨_, rfl⟩
      rw [← hcc] at hm hbk ⊢
      have hccH : Hid _ := hcc
      have c2 := h.c2
      have hcr : r < c := by omega
      have hcrI : (r : Int) < (c : Int) := by omega
      have hH := has_gen h ((c - r + 7) / 8) (((c : Int) - (r : Int) + 7) / 8) (by omega)
      rw [show hasF n p ((c - r + 7) / 8) none = some ((n : Int), 30) by unfold hasF; rw [if_pos (by omega)]] at hH
      have hHH : Hid _ := hH
      clear h hH hcc
      go_enter Tryd.func75, Tryd.ntmps75
      go_wp2_with fail
      refine Calls.mono hS.out ?_
      rintro e w2 ⟨rfl, hw2⟩
      have hw3 := hw2.symm
      subst hw3
      go_wp2_with fail
      refine (within_any k _).mono ?_
      rintro e w2 ⟨rfl, hw4⟩
      have hw5 := hw4.symm
      subst hw5
      rw [← hccH.out]
      clear hw2 hw4 hccH
      go_wp2_with fail
      refine Calls.mono hHH.out ?_
      rintro e w6 ⟨rfl, h6, F6⟩
      have h6H : Hid _ := h6
      clear h6 c2 hHH hS
      go_wp2_with fail
      go_ret
      exact ⟨⟨p, r, some ((n : Int), 30), 0, Or.inr (Or.inl ⟨rfl, by omega, rfl, rfl, rfl, rfl⟩), rfl, h6H.out⟩, F6⟩
theorem fault_any (h : RR N w1 a n cap bs p r fv w) : Calls Tryd.prog 28 #[.pointer (some ⟨N, 0, none⟩)] w fun e w' => e = .returned (fvV fv) ∧ w' = w := by
  have c3 := h.c3
  obtain ⟨V, hV⟩ : ∃ V, V = fvV fv := ⟨_, rfl⟩
  rw [← hV] at c3 ⊢
  clear h hV
  go_enter Tryd.func28, Tryd.ntmps28
  go_wp2_with fail
  go_ret
  exact ⟨rfl, rfl⟩
set_option maxRecDepth 100000 in
theorem done_gen (h : RR N w1 a n cap bs p r fv w) : Calls Tryd.prog 32 #[.pointer (some ⟨N, 0, none⟩)] w fun e w' => e = .returned (fvV (doneF bs n p r fv)) ∧ RR N w1 a n cap bs p r fv w' ∧ RF N w w' := by
  have hpn := h.pn
  have hnb := h.nb
  cases fv with
  | some x =>
    obtain ⟨q, c⟩ := x
    have e0 : doneF bs n p r (some (q, c)) = some (q, c) := rfl
    rw [e0]
    have hS : Hid _ := sound_any h
    have hFt : Hid _ := fault_any h
    have hH : Hid _ := h
    clear h e0
    simp only [fvV] at hFt ⊢
    go_enter Tryd.func32, Tryd.ntmps32
    go_wp2_with fail
    refine Calls.mono hS.out ?_
    rintro e w2 ⟨rfl, hw2⟩
    have hw3 := hw2.symm
    subst hw3
    clear hw2
    go_wp2_with fail
    refine Calls.mono hFt.out ?_
    rintro e w2 ⟨rfl, hw2⟩
    have hw3 := hw2.symm
    subst hw3
    clear hw2
    go_wp2_with fail
    go_ret
    exact ⟨rfl, hH.out, RF.refl _ _⟩
  | none =>
    cases hg : ragb bs p r with
    | true =>
      have e0 : doneF bs n p r none = some ((p : Int) - 1, 31) := by simp [doneF, startF, hg]
      rw [e0]
      have hS : Hid _ := sound_any h
      have hR := ragged_any h
      rw [show decide (r ≠ 0 ∧ bs (p - 1) % 2 ^ r ≠ 0) = true from hg] at hR
      have hRH : Hid _ := hR
      have hAt : Hid (∀ w', Calls Tryd.prog 78 #[.int .i64 ((p : Int) - 1), .int .i64 31] w' fun ev w'' => ev = .returned (fvV (some ((p : Int) - 1, 31))) ∧ w'' = w') := fun w' => faultAt _ 31 rfl w'
      clear hR h hg e0
      simp only [fvV] at hAt ⊢
      go_enter Tryd.func32, Tryd.ntmps32
      go_wp2_with fail
      refine Calls.mono hS.out ?_
      rintro e w2 ⟨rfl, hw2⟩
      have hw3 := hw2.symm
      subst hw3
      clear hw2
      go_wp2_with fail
      refine Calls.mono hRH.out ?_
      rintro e w3 ⟨rfl, h3, F3⟩
      have c1 := h3.c1
      have h3H : Hid _ := h3
      clear h3
      go_wp2_with fail
      refine Calls.mono (hAt.out _) ?_
      rintro e w4 ⟨rfl, hw4⟩
      have hw5 := hw4.symm
      subst hw5
      clear hw4
      go_wp2_with fail
      go_ret
      exact ⟨rfl, h3H.out, F3⟩
    | false =>
      have hng : ¬ (r ≠ 0 ∧ bs (p - 1) % 2 ^ r ≠ 0) := of_decide_eq_false hg
      by_cases hp : p < n
      · have e0 : doneF bs n p r none = some ((p : Int), 33) := by simp [doneF, startF, hg, hp]
        rw [e0]
        have hS : Hid _ := sound_any h
        have hR := ragged_any h
        rw [show decide (r ≠ 0 ∧ bs (p - 1) % 2 ^ r ≠ 0) = false from hg] at hR
        have hRH : Hid _ := hR
        have hAt : Hid (∀ w', Calls Tryd.prog 78 #[.int .i64 (p : Int), .int .i64 33] w' fun ev w'' => ev = .returned (fvV (some ((p : Int), 33))) ∧ w'' = w') := fun w' => faultAt _ 33 rfl w'
        have hI : (0 : Int) < (n : Int) - (p : Int) := by omega
        clear hR h hg e0 hng
        simp only [fvV] at hAt ⊢
        go_enter Tryd.func32, Tryd.ntmps32
        go_wp2_with fail
        refine Calls.mono hS.out ?_
        rintro e w2 ⟨rfl, hw2⟩
        have hw3 := hw2.symm
        subst hw3
        clear hw2
        go_wp2_with fail
        refine Calls.mono hRH.out ?_
        rintro e w3 ⟨rfl, h3, F3⟩
        have hL : Hid _ := left_any h3
        clear h3
        go_wp2_with fail
        refine Calls.mono hL.out ?_
        rintro e w4 ⟨rfl, h4, F4⟩
        have c1 := h4.c1
        have h4H : Hid _ := h4
        clear h4
        go_wp2_with fail
        refine Calls.mono (hAt.out _) ?_
        rintro e w5 ⟨rfl, hw4⟩
        have hw5 := hw4.symm
        subst hw5
        clear hw4
        go_wp2_with fail
        go_ret
        exact ⟨rfl, h4H.out, F3.trans F4⟩
      · obtain rfl : p = n := by omega
        have e0 : doneF bs p p r none = none := by simp [doneF, startF, hg]
        rw [e0]
        exact done_ok h hng
end
end Go.Proofs.YtfijagdbdbbbpaaDoor

namespace Go.Proofs.YtfijagdbdbbbpaaDoor
open Go.RowKit
set_option linter.unusedVariables false
set_option linter.unusedSimpArgs false
theorem UintG.uniq {bs : Nat → Nat} {n p r M : Nat} {fv : Option (Int × Int)} {p1 r1 p2 r2 : Nat} {f1 f2 : Option (Int × Int)} {v1 v2 : Nat} (h1 : UintG bs n p r M fv p1 r1 f1 v1) (h2 : UintG bs n p r M fv p2 r2 f2 v2) : p1 = p2 ∧ r1 = r2 ∧ f1 = f2 ∧ v1 = v2 := by
  rcases h1 with ⟨a1, a2, a3, a4, a5⟩ | ⟨a0, ⟨q, a1, a2, a3, a4, a5⟩ | ⟨x, l, a1, ⟨a2, a3, a4, a5, a6⟩ | ⟨a2, a3, a4, a5, a6⟩⟩⟩ <;>
  rcases h2 with ⟨b1, b2, b3, b4, b5⟩ | ⟨b0, ⟨q2, b1, b2, b3, b4, b5⟩ | ⟨x2, l2, b1, ⟨b2, b3, b4, b5, b6⟩ | ⟨b2, b3, b4, b5, b6⟩⟩⟩
  all_goals first
    | exact absurd (by assumption : startF bs p r fv = none) (by assumption)
    | (rw [a1] at b1; cases b1; done)
    | (rw [a1] at b1; simp at b1; obtain ⟨rfl, rfl⟩ := b1; exact ⟨by omega, by omega, by first | (exact a3.trans b3.symm) | omega, by omega⟩)
    | (rw [a1] at b1; simp at b1; obtain ⟨rfl, rfl⟩ := b1; omega)
    | (rw [a1] at b1; injection b1 with b1; subst b1; exact ⟨by omega, by omega, a2.trans b2.symm, by omega⟩)
    | exact ⟨by omega, by omega, a2.trans b2.symm, by omega⟩
theorem PieceG.uniq {bs : Nat → Nat} {n p r : Nat} {most : Int} {fv : Option (Int × Int)} {p1 r1 p2 r2 q1 q2 m1 m2 : Nat} {f1 f2 : Option (Int × Int)} (h1 : PieceG bs n p r most fv p1 r1 f1 q1 m1) (h2 : PieceG bs n p r most fv p2 r2 f2 q2 m2) : p1 = p2 ∧ r1 = r2 ∧ f1 = f2 ∧ m1 = m2 ∧ (m1 ≠ 0 → q1 = q2) := by
  rcases h1 with ⟨a1, a2, a3, a4, a5⟩ | ⟨a0, ⟨q, a1, a2, a3, a4, a5⟩ | ⟨x, l, a1, ⟨a2, a3, a4, a5, a6⟩ | ⟨a2, a7, a3, a4, a5, a6⟩ | ⟨a2, a7, a3, a4, a5, a6, a8⟩⟩⟩ <;>
  rcases h2 with ⟨b1, b2, b3, b4, b5⟩ | ⟨b0, ⟨q2, b1, b2, b3, b4, b5⟩ | ⟨x2, l2, b1, ⟨b2, b3, b4, b5, b6⟩ | ⟨b2, b7, b3, b4, b5, b6⟩ | ⟨b2, b7, b3, b4, b5, b6, b8⟩⟩⟩
  all_goals first
    | exact absurd (by assumption : startF bs p r fv = none) (by assumption)
    | (rw [a1] at b1; cases b1; done)
    | (rw [a1] at b1; simp at b1; obtain ⟨rfl, rfl⟩ := b1; exact ⟨by omega, by omega, a3.trans b3.symm, by omega, fun _ => by omega⟩)
    | (rw [a1] at b1; simp at b1; obtain ⟨rfl, rfl⟩ := b1; omega)
    | (rw [a1] at b1; injection b1 with b1; subst b1; exact ⟨by omega, by omega, a2.trans b2.symm, by omega, fun _ => by omega⟩)
    | exact ⟨by omega, by omega, a2.trans b2.symm, by omega, fun _ => by omega⟩
theorem BitsG.uniq {bs : Nat → Nat} {n p r c : Nat} {fv : Option (Int × Int)} {p1 r1 p2 r2 : Nat} {f1 f2 : Option (Int × Int)} {v1 v2 : Nat} (h1 : BitsG bs n p r c fv p1 r1 f1 v1) (h2 : BitsG bs n p r c fv p2 r2 f2 v2) : p1 = p2 ∧ r1 = r2 ∧ f1 = f2 ∧ v1 = v2 := by
  rcases h1 with ⟨a1, a2, a3, a4, a5⟩ | ⟨a0, a1, a2, a3, a4, a5⟩ | ⟨a0, a1, a2, a3, a4, a5⟩ <;>
  rcases h2 with ⟨b1, b2, b3, b4, b5⟩ | ⟨b0, b1, b2, b3, b4, b5⟩ | ⟨b0, b1, b2, b3, b4, b5⟩
  all_goals first
    | exact absurd (by assumption : fv = none) (by assumption)
    | (exfalso; omega)
    | exact ⟨by omega, by omega, a2.trans b2.symm, by omega⟩
end Go.Proofs.YtfijagdbdbbbpaaDoor

namespace Go.Proofs.YtfijagdbdbbbpaaDoor
open Go.RowKit
set_option linter.unusedVariables false
set_option linter.unusedSimpArgs false
section
variable {N : Nat} {w1 : World} {a : Option Addr} {n cap p r : Nat} {bs : Nat → Nat} {fv : Option (Int × Int)} {w : World}
theorem NumD.lt {M v l : Nat} {above : Int} {fv' : Option (Int × Int)} (hbs : ∀ i, i < n → bs i < 256) (h : NumD bs n p r M above fv fv' v l) : v < 18446744073709551616 ∧ p + l ≤ n ∨ l = 0 ∧ v = 0 := by
  rcases h with ⟨_, _, rfl, rfl⟩ | ⟨_, ⟨q, _, _, rfl, rfl⟩ | ⟨x, k, hx, ⟨_, _, rfl, rfl⟩ | ⟨_, _, rfl, rfl⟩⟩⟩
  · exact Or.inr ⟨rfl, rfl⟩
  · exact Or.inr ⟨rfl, rfl⟩
  · exact Or.inr ⟨rfl, rfl⟩
  · have := numS_len hbs hx; exact Or.inl ⟨this.2.2.1, this.2.1⟩
theorem QR.pass (h : QR N w1 a n cap bs p r fv w) (m : Nat) (hm : p + m ≤ n) : QR N w1 a n cap bs (p + m) 0 fv ((w.setCell ⟨N, 1, none⟩ (.int .i64 ((p : Int) + (m : Int)))).setCell ⟨N, 2, none⟩ (.int .i64 0)) ∧ RF N w ((w.setCell ⟨N, 1, none⟩ (.int .i64 ((p : Int) + (m : Int)))).setCell ⟨N, 2, none⟩ (.int .i64 0)) := by
  have h1 := (h.setP (p + m) hm (by omega)).setR 0 (by omega) (fun h => absurd rfl h)
  rw [show ((p + m : Nat) : Int) = (p : Int) + (m : Int) by omega, show (((8 - 0) % 8 : Nat) : Int) = 0 from rfl] at h1
  exact ⟨h1, (RF.set w 1 _).trans (RF.set _ 2 _)⟩
/-- a fault as the document tells it. -/
def fvB (fv : Option (Int × Int)) : Value := .agg #[.int .i64 (fcd fv), .int .i64 (fpl fv), .int .i64 0, .bool fv.isSome, .bool false]
end
end Go.Proofs.YtfijagdbdbbbpaaDoor
