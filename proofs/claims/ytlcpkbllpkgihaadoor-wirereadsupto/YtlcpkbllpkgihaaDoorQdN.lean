
import Derived.Test.YtlcpkbllpkgihaaDoorRgN
import Derived.Test.YtlcpkbllpkgihaaDoorQdM
import Derived.Test.YtlcpkbllpkgihaaDoorBkM
namespace Go.Proofs.YtlcpkbllpkgihaaDoor
open Go.RowKit
set_option linter.unusedVariables false
set_option linter.unusedSimpArgs false
theorem UintG.uniq {bs : Nat → Nat} {n p r M : Nat} {fv : Option (Int × Int)} {p1 r1 p2 r2 : Nat} {f1 f2 : Option (Int × Int)} {v1 v2 : Nat} (h1 : UintG bs n p r M fv p1 r1 f1 v1) (h2 : UintG bs n p r M fv p2 r2 f2 v2) : p1 = p2 ∧ r1 = r2 ∧ f1 = f2 ∧ v1 = v2 := by
  rcases h1 with ⟨a1, a2, a3, a4, a5⟩ | ⟨a0, ⟨q, a1, a2, a3, a4, a5⟩ | ⟨x, l, a1, ⟨a2, a3, a4, a5, a6⟩ | ⟨a2, a3, a4, a5, a6⟩⟩⟩ <;>
  rcases h2 with ⟨b1, b2, b3, b4, b5⟩ | ⟨b0, ⟨q2, b1, b2, b3, b4, b5⟩ | ⟨x2, l2, b1, ⟨b2, b3, b4, b5, b6⟩ | ⟨b2, b3, b4, b5, b6⟩⟩⟩
  all_goals first
    | exact absurd (by assumption : startF bs p r fv = none) (by assumption)
    | (rw [a1] at b1; cases b1; done)
    | (rw [a1] at b1; simp at b1; obtain ⟨rfl, rfl⟩ := b1; exact ⟨by omega, by omega, by first | (exact a3.trans b3.symm) | omega, by omega⟩)
    | (rw [a1] at b1; simp at b1; obtain ⟨rfl, rfl⟩ := b1; omega)
    | (rw [a1] at b1; injection b1 with b1; subst b1; exact ⟨by omega, by omega, a2.trans b2.symm, by omega⟩)
    | exact ⟨by omega, by omega, a2.trans b2.symm, by omega⟩
theorem PieceG.uniq {bs : Nat → Nat} {n p r : Nat} {most : Int} {fv : Option (Int × Int)} {p1 r1 p2 r2 q1 q2 m1 m2 : Nat} {f1 f2 : Option (Int × Int)} (h1 : PieceG bs n p r most fv p1 r1 f1 q1 m1) (h2 : PieceG bs n p r most fv p2 r2 f2 q2 m2) : p1 = p2 ∧ r1 = r2 ∧ f1 = f2 ∧ m1 = m2 ∧ (m1 ≠ 0 → q1 = q2) := by
  rcases h1 with ⟨a1, a2, a3, a4, a5⟩ | ⟨a0, ⟨q, a1, a2, a3, a4, a5⟩ | ⟨x, l, a1, ⟨a2, a3, a4, a5, a6⟩ | ⟨a2, a7, a3, a4, a5, a6⟩ | ⟨a2, a7, a3, a4, a5, a6, a8⟩⟩⟩ <;>
  rcases h2 with ⟨b1, b2, b3, b4, b5⟩ | ⟨b0, ⟨q2, b1, b2, b3, b4, b5⟩ | ⟨x2, l2, b1, ⟨b2, b3, b4, b5, b6⟩ | ⟨b2, b7, b3, b4, b5, b6⟩ | ⟨b2, b7, b3, b4, b5, b6, b8⟩⟩⟩
  all_goals first
    | exact absurd (by assumption : startF bs p r fv = none) (by assumption)
    | (rw [a1] at b1; cases b1; done)
    | (rw [a1] at b1; simp at b1; obtain ⟨rfl, rfl⟩ := b1; exact ⟨by omega, by omega, a3.trans b3.symm, by omega, fun _ => by omega⟩)
    | (rw [a1] at b1; simp at b1; obtain ⟨rfl, rfl⟩ := b1; omega)
    | (rw [a1] at b1; injection b1 with b1; subst b1; exact ⟨by omega, by omega, a2.trans b2.symm, by omega, fun _ => by omega⟩)
    | exact ⟨by omega, by omega, a2.trans b2.symm, by omega, fun _ => by omega⟩
theorem BitsG.uniq {bs : Nat → Nat} {n p r c : Nat} {fv : Option (Int × Int)} {p1 r1 p2 r2 : Nat} {f1 f2 : Option (Int × Int)} {v1 v2 : Nat} (h1 : BitsG bs n p r c fv p1 r1 f1 v1) (h2 : BitsG bs n p r c fv p2 r2 f2 v2) : p1 = p2 ∧ r1 = r2 ∧ f1 = f2 ∧ v1 = v2 := by
  rcases h1 with ⟨a1, a2, a3, a4, a5⟩ | ⟨a0, a1, a2, a3, a4, a5⟩ | ⟨a0, a1, a2, a3, a4, a5⟩ <;>
  rcases h2 with ⟨b1, b2, b3, b4, b5⟩ | ⟨b0, b1, b2, b3, b4, b5⟩ | ⟨b0, b1, b2, b3, b4, b5⟩
  all_goals first
    | exact absurd (by assumption : fv = none) (by assumption)
    | (exfalso; omega)
    | exact ⟨by omega, by omega, a2.trans b2.symm, by omega⟩
end Go.Proofs.YtlcpkbllpkgihaaDoor

namespace Go.Proofs.YtlcpkbllpkgihaaDoor
open Go.RowKit
set_option linter.unusedVariables false
set_option linter.unusedSimpArgs false
section
variable {N : Nat} {w1 : World} {a : Option Addr} {n cap p r : Nat} {bs : Nat → Nat} {fv : Option (Int × Int)} {w : World}
theorem NumD.lt {M v l : Nat} {above : Int} {fv' : Option (Int × Int)} (hbs : ∀ i, i < n → bs i < 256) (h : NumD bs n p r M above fv fv' v l) : v < 18446744073709551616 ∧ p + l ≤ n ∨ l = 0 ∧ v = 0 := by
  rcases h with ⟨_, _, rfl, rfl⟩ | ⟨_, ⟨q, _, _, rfl, rfl⟩ | ⟨x, k, hx, ⟨_, _, rfl, rfl⟩ | ⟨_, _, rfl, rfl⟩⟩⟩
  · exact Or.inr ⟨rfl, rfl⟩
  · exact Or.inr ⟨rfl, rfl⟩
  · exact Or.inr ⟨rfl, rfl⟩
  · have := numS_len hbs hx; exact Or.inl ⟨this.2.2.1, this.2.1⟩
theorem QR.pass (h : QR N w1 a n cap bs p r fv w) (m : Nat) (hm : p + m ≤ n) : QR N w1 a n cap bs (p + m) 0 fv ((w.setCell ⟨N, 1, none⟩ (.int .i64 ((p : Int) + (m : Int)))).setCell ⟨N, 2, none⟩ (.int .i64 0)) ∧ RF N w ((w.setCell ⟨N, 1, none⟩ (.int .i64 ((p : Int) + (m : Int)))).setCell ⟨N, 2, none⟩ (.int .i64 0)) := by
  have h1 := (h.setP (p + m) hm (by omega)).setR 0 (by omega) (fun h => absurd rfl h)
  rw [show ((p + m : Nat) : Int) = (p : Int) + (m : Int) by omega, show (((8 - 0) % 8 : Nat) : Int) = 0 from rfl] at h1
  exact ⟨h1, (RF.set w 1 _).trans (RF.set _ 2 _)⟩
set_option maxRecDepth 100000 in
set_option maxHeartbeats 1000000 in
theorem dUint_gen (h : QR N w1 a n cap bs p r fv w) (M : Nat) (hM : M < 18446744073709551616) : Calls Tryd.prog 57 #[.pointer (some ⟨N, 0, none⟩), .int .u64 (M : Int)] w fun e w' => (∃ p' r' fv' v, UintG bs n p r M fv p' r' fv' v ∧ e = .returned (.int .u64 (v : Int)) ∧ QR N w1 a n cap bs p' r' fv' w') ∧ RF N w w' := by
  have h256 := h.bytes256
  have hnb := h.nb
  have hpn := h.pn
  have hS : Hid _ := dNumber_any h M hM 2 rfl
  clear h
  go_enter Tryd.func57, Tryd.ntmps57
  go_wp2_with fail
  refine Calls.mono hS.out ?_
  rintro e w2 ⟨⟨fv', v, l, hG, rfl, h2⟩, F2⟩
  have hGl := NumD.lt h256 hG
  rcases hG with ⟨g1, g2, rfl, rfl⟩ | ⟨g1, ⟨q, g2, g3, rfl, rfl⟩ | ⟨x, k, g2, ⟨g4, g3, rfl, rfl⟩ | ⟨g4, g3, rfl, rfl⟩⟩⟩
  · have h2H : Hid _ := h2
    have hg : Hid _ := And.intro g1 g2
    clear h2 g1 g2
    go_wp2_with fail
    go_ret
    exact ⟨⟨p, r, fv', 0, Or.inl ⟨hg.out.1, hg.out.2, rfl, rfl, rfl⟩, rfl, h2H.out⟩, F2⟩
  · have h2H : Hid _ := h2
    have hg : Hid _ := And.intro g1 (And.intro g2 g3)
    clear h2 g1 g2 g3
    go_wp2_with fail
    go_ret
    exact ⟨⟨p, r, fv', 0, Or.inr ⟨hg.out.1, Or.inl ⟨q, hg.out.2.1, hg.out.2.2, rfl, rfl, rfl⟩⟩, rfl, h2H.out⟩, F2⟩
  · have h2H : Hid _ := h2
    have hg : Hid _ := And.intro g1 (And.intro g2 (And.intro g4 g3))
    clear h2 g1 g2 g3
    go_wp2_with fail
    go_ret
    exact ⟨⟨p, r, fv', 0, Or.inr ⟨hg.out.1, Or.inr ⟨x, k, hg.out.2.1, Or.inl ⟨hg.out.2.2.1, hg.out.2.2.2, rfl, rfl, rfl⟩⟩⟩, rfl, h2H.out⟩, F2⟩
  · subst g3
    obtain ⟨hl, hn, hxx, _⟩ := numS_len h256 g2
    have hl0 : 0 < l := by rw [hl]; exact uBf_pos 10 v
    have hlI : (0 : Int) < (l : Int) := by omega
    have hg : Hid _ := And.intro g1 (And.intro g2 g4)
    obtain ⟨h3, F3⟩ := h2.pass l hn
    have c1 := h2.c1
    have c2 := h2.c2
    have f1 := h2.f1
    have f2 := h2.f2
    have h3H : Hid _ := h3
    have F3H : Hid _ := F3
    have hwr : IntKind.i64.wrap ((p : Int) + (l : Int)) = (p : Int) + (l : Int) := IntWalk.i64_in _ (by omega)
    clear h2 h3 g1 g2 hl F3 hGl
    go_wp2_with fail
    go_ret
    exact ⟨⟨p + l, 0, none, v, Or.inr ⟨hg.out.1, Or.inr ⟨v, l, hg.out.2.1, Or.inr ⟨hg.out.2.2, rfl, rfl, rfl, rfl⟩⟩⟩, rfl, h3H.out⟩, F2.trans F3H.out⟩
theorem dUnfold (v : Nat) (hv : v < 18446744073709551616) (w : World) : Calls Tryd.prog 117 #[.int .u64 (v : Int)] w fun e w' => e = .returned (.int .i64 (unfoldN v)) ∧ w' = w := by
  have h0 : (0 : Int) ≤ (v : Int) := by omega
  have ht : (v : Int).tmod 2 = ((v % 2 : Nat) : Int) := by rw [Int.tmod_eq_emod_of_nonneg h0]; omega
  have hd : (v : Int).tdiv 2 = ((v / 2 : Nat) : Int) := by rw [Int.tdiv_eq_ediv_of_nonneg h0]; omega
  by_cases he : v % 2 = 0
  · have hr : unfoldN v = ((v / 2 : Nat) : Int) := by unfold unfoldN; rw [if_pos he]
    rw [hr]
    rw [he] at ht
    obtain ⟨k, hk⟩ : ∃ k, k = v / 2 := ⟨_, rfl⟩
    rw [← hk] at hd ⊢
    have hku : IntKind.u64.wrap (k : Int) = (k : Int) := by rw [IntKind.wrap_u64]; omega
    have hk1 : wrap64 (k : Int) = (k : Int) := by unfold wrap64; omega
    clear hr hk he
    go_enter Tryd.func117, Tryd.ntmps117
    go_wp2_with fail
    go_ret
    refine ⟨?_, rfl⟩
    (show Ending.returned (.int .i64 (wrap64 (k : Int))) = _; rw [hk1])
  · have hr : unfoldN v = -((v / 2 : Nat) : Int) - 1 := by unfold unfoldN; rw [if_neg he]
    rw [hr]
    rw [show v % 2 = 1 by omega] at ht
    obtain ⟨k, hk⟩ : ∃ k, k = v / 2 := ⟨_, rfl⟩
    rw [← hk] at hd ⊢
    have hku : IntKind.u64.wrap (k : Int) = (k : Int) := by rw [IntKind.wrap_u64]; omega
    have hk1 : wrap64 (k : Int) = (k : Int) := by unfold wrap64; omega
    have hk2 : wrap64 (-(k : Int)) = -(k : Int) := by unfold wrap64; omega
    have hk3 : wrap64 (-(k : Int) - 1) = -(k : Int) - 1 := by unfold wrap64; omega
    clear hr hk he
    go_enter Tryd.func117, Tryd.ntmps117
    go_wp2_with fail
    go_ret
    refine ⟨?_, rfl⟩
    (show Ending.returned (.int .i64 (wrap64 (-(k : Int) - 1))) = _; rw [hk3])
set_option maxRecDepth 100000 in
theorem dInt_gen (h : QR N w1 a n cap bs p r fv w) : Calls Tryd.prog 58 #[.pointer (some ⟨N, 0, none⟩)] w fun e w' => (∃ p' r' fv' v, UintG bs n p r 18446744073709551615 fv p' r' fv' v ∧ e = .returned (.int .i64 (unfoldN v)) ∧ QR N w1 a n cap bs p' r' fv' w') ∧ RF N w w' := by
  have h256 := h.bytes256
  have hS : Hid _ := dUint_gen h 18446744073709551615 (by omega)
  clear h
  go_enter Tryd.func58, Tryd.ntmps58
  go_wp2_with fail
  refine Calls.mono hS.out ?_
  rintro e w2 ⟨⟨p', r', fv', v, hG, rfl, h2⟩, F2⟩
  have hU : Hid _ := dUnfold v (hG.lt h256)
  have h2H : Hid _ := h2
  have hGH : Hid (UintG bs n p r 18446744073709551615 fv p' r' fv' v) := hG
  clear h2 hG
  go_wp2_with fail
  refine Calls.mono (hU.out _) ?_
  rintro e w3 ⟨rfl, hw⟩
  have hw' := hw.symm
  subst hw'
  clear hw
  go_wp2_with fail
  go_ret
  exact ⟨⟨p', r', fv', v, hGH.out, rfl, h2H.out⟩, F2⟩
theorem dAt_gen (h : QR N w1 a n cap bs p r fv w) : Calls Tryd.prog 18 #[.pointer (some ⟨N, 0, none⟩)] w fun e w' => e = .returned (.int .i64 (p : Int)) ∧ w' = w := by
  have c1 := h.c1
  clear h
  go_enter Tryd.func18, Tryd.ntmps18
  go_wp2_with fail
  go_ret
  exact ⟨rfl, rfl⟩
theorem dLeft_gen (h : QR N w1 a n cap bs p r fv w) : Calls Tryd.prog 20 #[.pointer (some ⟨N, 0, none⟩)] w fun e w' => e = .returned (.int .i64 ((n : Int) - (p : Int))) ∧ Below w.heap.size w w' := by
  have c0 := h.c0
  have c1 := h.c1
  have hp := h.pn
  have hn := h.nb
  have hle : (p : Int) ≤ (n : Int) := by omega
  clear h
  go_enter Tryd.func20, Tryd.ntmps20
  go_wp2_with fail
  go_quiet (fail)
  go_wp2_with fail
  go_ret
  exact ⟨rfl, below_drewN (Below.refl _ _) _⟩
/-- a fault as the document tells it. -/
def fvB (fv : Option (Int × Int)) : Value := .agg #[.int .i64 (fcd fv), .int .i64 (fpl fv), .int .i64 0, .bool fv.isSome, .bool false]
set_option maxHeartbeats 2000000 in
theorem dFault_gen (h : QR N w1 a n cap bs p r fv w) : Calls Tryd.prog 23 #[.pointer (some ⟨N, 0, none⟩)] w fun e w' => e = .returned (fvB fv) ∧ Below w.heap.size w w' := by
  have c3 := h.c3
  have c4 := h.c4
  have c5 := h.c5
  have c6 := h.c6
  have c7 := h.c7
  unfold fvB
  obtain ⟨x, hx⟩ : ∃ x, x = fcd fv := ⟨_, rfl⟩
  obtain ⟨y, hy⟩ : ∃ y, y = fpl fv := ⟨_, rfl⟩
  obtain ⟨z, hz⟩ : ∃ z, z = fv.isSome := ⟨_, rfl⟩
  rw [← hx] at c3 ⊢
  rw [← hy] at c4 ⊢
  rw [← hz] at c6 ⊢
  have sz := h.sz
  clear h hx hy hz
  go_enter Tryd.func23, Tryd.ntmps23
  go_wp2_with fail
  simp [bodyPost, results, Tryd.results23, go_sem]
  first | exact below_new (Below.refl _ w) _ | exact bad_put w _ _ _ _ _
end
end Go.Proofs.YtlcpkbllpkgihaaDoor

namespace Go.Proofs.YtlcpkbllpkgihaaDoor
open Go.RowKit
set_option linter.unusedVariables false
set_option linter.unusedSimpArgs false
/-- 'append(nil, b...)', b may be of no bytes, or nil. -/
theorem app_nil (a : Option Addr) (m c : Nat) (f : Nat → Nat) (w : World) (h : BytesIn w a m f) :
    ∃ a9 c9 w9, (Builtin.append_ #[24, 24] 24 #[.slice none 0 0, .slice a m c]).run Tryd.prog w = .ok (.slice a9 m c9) w9 ∧ m ≤ c9 ∧ (m = 0 ∨ ∃ g, a9 = some ⟨g, 0, none⟩ ∧ w.heap.size ≤ g ∧ g < w9.heap.size ∧ BytesAt w9 g 0 m f) ∧ Below w.heap.size w w9 := by
  obtain ⟨i, i1, i0⟩ := Option.map_eq_some_iff.1 byte_info
  have i2 : i.zero = some (.int .u8 0) := congrArg (·.1) i0
  have i3 : i.bytes = 1 := congrArg (·.2.1) i0
  have i4 : i.size = 1 := congrArg (·.2.2) i0
  have hml : maxLen = 9223372036854775807 := by decide
  have hm47 := h.1
  cases a with
  | none =>
    obtain rfl : m = 0 := by
      rcases h.2 with h | ⟨b, off, h, _⟩
      · exact h
      · cases h
    refine ⟨none, 0, w, ?_, by omega, Or.inl rfl, Below.refl _ _⟩
    simp [Builtin.append_, run_underlying Tryd.underlying24, sizeOf, typeInfo, i1, Builtin.lenOf, run_firstCells_none, storeCells]
  | some ad =>
    have hnews : ∀ j u, (enc ((List.range m).map f))[j]? = some u → w.cell? (ad.add j) = some u := by
      rcases h.2 with h0 | ⟨b, off, e, hb, hB⟩
      · subst h0; intro j u hu; simp [enc] at hu
      · obtain rfl := Option.some.inj e
        have := bytes_news (w := w) (b := b) (off := off) (l := (List.range m).map f) (by
          intro j hj
          have hj' : j < m := by simpa using hj
          rw [show natsOf ((List.range m).map f) j = f j by simp [natsOf, List.getD_eq_getElem?_getD, hj']]
          exact hB j hj')
        exact this
    obtain ⟨v', w', hr, ho', hg, _, _⟩ := run_append_own_at (P := Tryd.prog) w w.heap.size 24 24 5 i (.int .u8 0) 1 1 Tryd.underlying24 i1 i2 i4 i3 rfl (by omega) (.slice none 0 0) 0 [] (World.ownsRow_nil _ _ _ _) ad m c (enc ((List.range m).map f)) (by simp [enc]) hnews (enc_one _) (by omega) (by omega) (Nat.le_refl _)
    have ho : w'.ownsRow w.heap.size 5 1 v' m (enc ((List.range m).map f)) := by rw [Nat.zero_add, List.nil_append] at ho'; exact ho'
    have hB : Below w.heap.size w w' := (Below.refl _ w).grown hg (Nat.le_refl _) (fun k e => by simp [Value.ownBlock] at e)
    rcases Nat.eq_zero_or_pos m with h0 | h0
    · rcases ho.2 with ⟨h1, _⟩ | ⟨g9, c9, cur, h1, _⟩
      · exact ⟨none, 0, w', by rw [hr, h1, h0], by omega, Or.inl h0, hB⟩
      · exact ⟨_, c9, w', by rw [hr, h1], by omega, Or.inl h0, hB⟩
    · obtain ⟨g9, c9, h1, gb, gl⟩ := ho.form h0
      subst h1
      have hcap : m ≤ c9 := by
        rcases ho.2 with ⟨hq, _⟩ | ⟨g0, cap0, cur, hq, _, _, hnc, _⟩
        · cases hq
        · cases hq; exact hnc
      refine ⟨_, c9, w', hr, hcap, Or.inr ⟨g9, rfl, gb, gl, fun j hj => ?_⟩, hB⟩
      have hl256 : ∀ x ∈ ((List.range m).map f), x < 256 := fun x hx => by
        simp at hx
        obtain ⟨j, hj, rfl⟩ := hx
        rcases h.2 with h0 | ⟨b, off, e, hb, hB⟩
        · omega
        · exact (hB j hj).2
      have h2 := bytes_own ho hl256 j hj
      rw [show natsOf ((List.range m).map f) j = f j by simp [natsOf, List.getD_eq_getElem?_getD, hj]] at h2
      exact h2
set_option maxRecDepth 100000 in
theorem dNew_any (ba : Option Addr) (n bc : Nat) (bs : Nat → Nat) (w : World) (h : BytesIn w ba n bs) :
    Calls Tryd.prog 15 #[.slice ba n bc] w fun e w' => e = .returned (.pointer (some ⟨w.heap.size, 0, none⟩)) ∧ (∃ a cap, QR w.heap.size w a n cap bs 0 0 none w' ∧ (n = 0 ∨ ∃ g, a = some ⟨g, 0, none⟩ ∧ w.heap.size < g)) ∧ Below w.heap.size w w' := by
  have B0 : Below w.heap.size w (w.alloc (.cells #[.slice none 0 0, .int .i64 0, .int .i64 0, .int .i64 0, .int .i64 0, .int .i64 0, .bool false, .bool false] 111)) := (Below.refl _ _).alloc (Nat.le_refl _) _
  obtain ⟨a9, c9, w9, hr, hc9, hrow, hB9⟩ := app_nil ba n bc bs _ (h.below B0)
  have hrH : Hid _ := hr
  have hBw : Below w.heap.size w w9 := below_then B0 hB9
  have hn := h.1
  have cc : ∀ j, w9.cell? ⟨w.heap.size, j, none⟩ = (w.alloc (.cells #[.slice none 0 0, .int .i64 0, .int .i64 0, .int .i64 0, .int .i64 0, .int .i64 0, .bool false, .bool false] 111)).cell? ⟨w.heap.size, j, none⟩ := fun j => hB9.cell (p := ⟨w.heap.size, j, none⟩) (by simp)
  have ff : ∀ j, w9.frozen? ⟨w.heap.size, j, none⟩ = (w.alloc (.cells #[.slice none 0 0, .int .i64 0, .int .i64 0, .int .i64 0, .int .i64 0, .int .i64 0, .bool false, .bool false] 111)).frozen? ⟨w.heap.size, j, none⟩ := fun j => hB9.frozen (p := ⟨w.heap.size, j, none⟩) (by simp)
  have e0 : w9.cell? ⟨w.heap.size, 0, none⟩ = some (.slice none 0 0) := by rw [cc]; simp
  have f0 : w9.frozen? ⟨w.heap.size, 0, none⟩ = false := by rw [ff]; simp
  have hsz : w.heap.size < w9.heap.size := by have := hB9.size; simp at this; omega
  have hQ : QR w.heap.size w a9 n c9 bs 0 0 none (w9.setCell ⟨w.heap.size, 0, none⟩ (.slice a9 n c9)) := by
    have ot : ∀ j, j ≠ 0 → (w9.setCell ⟨w.heap.size, 0, none⟩ (.slice a9 n c9)).cell? ⟨w.heap.size, j, none⟩ = w9.cell? ⟨w.heap.size, j, none⟩ := fun j hj => World.cell?_setCell_other _ _ _ _ (by intro e; injection e with _ e2 _; exact hj e2.symm)
    have fo : ∀ j, (w9.setCell ⟨w.heap.size, 0, none⟩ (.slice a9 n c9)).frozen? ⟨w.heap.size, j, none⟩ = false := fun j => by rw [World.frozen?_setCell, ff]; simp
    refine ⟨World.cell?_setCell_same _ _ _ e0, by rw [ot _ (by omega), cc]; simp, by rw [ot _ (by omega), cc]; simp, by rw [ot _ (by omega), cc]; simp [fcd], by rw [ot _ (by omega), cc]; simp [fpl], by rw [ot _ (by omega), cc]; simp, by rw [ot _ (by omega), cc]; simp, by rw [ot _ (by omega), cc]; simp, fo 1, fo 2, fo 3, fo 4, fo 5, fo 6, fo 7, ?_, by omega, hc9, by omega, by omega, fun h => absurd rfl h, (fun x hx => by cases hx), hBw.setCell (p := ⟨w.heap.size, 0, none⟩) (Nat.le_refl _) _, by simpa using hsz⟩
    rcases hrow with h0 | ⟨g, e, hg1, hg2, hB⟩
    · exact Or.inl h0
    · have hg3 : w.heap.size + 1 ≤ g := by simpa using hg1
      exact Or.inr ⟨g, 0, e, by simpa using hg2, by omega, fun i hi => ⟨by rw [World.cell?_setCell_other _ _ _ _ (by intro e; injection e with e1; omega)]; exact (hB i hi).1, (hB i hi).2⟩⟩
  have hQH : Hid _ := hQ
  have hBH : Hid (Below w.heap.size w (w9.setCell ⟨w.heap.size, 0, none⟩ (.slice a9 n c9))) := hBw.setCell (p := ⟨w.heap.size, 0, none⟩) (Nat.le_refl _) _
  have hrowH : Hid (n = 0 ∨ ∃ g, a9 = some ⟨g, 0, none⟩ ∧ w.heap.size < g) := (by
    rcases hrow with h0 | ⟨g, e, hg1, _⟩
    · exact Or.inl h0
    · exact Or.inr ⟨g, e, by simp at hg1; omega⟩ : n = 0 ∨ ∃ g, a9 = some ⟨g, 0, none⟩ ∧ w.heap.size < g)
  clear hQ hr cc ff hrow hB9 hBw h B0
  go_enter Tryd.func15, Tryd.ntmps15
  go_wp2_with (at_builtin; refine wpList_append_run2 (by rfl) _ _ _ _ (by rfl) _ _ _ _ (by rfl) (by rfl) hrH.out ?_)
  go_wp2_with fail
  go_ret
  exact ⟨rfl, ⟨a9, c9, hQH.out, hrowH.out⟩, hBH.out⟩
/-- a struct of an error's five cells at z. -/
structure BZ (z : Nat) (x0 x1 x2 x3 x4 : Value) (w : World) : Prop where
  z0 : w.cell? ⟨z, 0, none⟩ = some x0
  z1 : w.cell? ⟨z, 1, none⟩ = some x1
  z2 : w.cell? ⟨z, 2, none⟩ = some x2
  z3 : w.cell? ⟨z, 3, none⟩ = some x3
  z4 : w.cell? ⟨z, 4, none⟩ = some x4
  y0 : w.frozen? ⟨z, 0, none⟩ = false
  y1 : w.frozen? ⟨z, 1, none⟩ = false
  y2 : w.frozen? ⟨z, 2, none⟩ = false
  y3 : w.frozen? ⟨z, 3, none⟩ = false
  y4 : w.frozen? ⟨z, 4, none⟩ = false
theorem BZ.start (w : World) : BZ w.heap.size (.int .i64 0) (.int .i64 0) (.int .i64 0) (.bool false) (.bool false) (w.alloc (.cells #[.int .i64 0, .int .i64 0, .int .i64 0, .bool false, .bool false] 51)) := by
  refine ⟨?_, ?_, ?_, ?_, ?_, ?_, ?_, ?_, ?_, ?_⟩ <;> simp [go_sem]
theorem BZ.of {z : Nat} {x0 x1 x2 x3 x4 : Value} {w w' : World} (h : BZ z x0 x1 x2 x3 x4 w) (hk : w'.heap[z]? = w.heap[z]?) : BZ z x0 x1 x2 x3 x4 w' := by
  obtain ⟨z0, z1, z2, z3, z4, y0, y1, y2, y3, y4⟩ := h
  refine ⟨?_, ?_, ?_, ?_, ?_, ?_, ?_, ?_, ?_, ?_⟩
  · rw [World.cell?_of_block (w := w) hk]; exact z0
  · rw [World.cell?_of_block (w := w) hk]; exact z1
  · rw [World.cell?_of_block (w := w) hk]; exact z2
  · rw [World.cell?_of_block (w := w) hk]; exact z3
  · rw [World.cell?_of_block (w := w) hk]; exact z4
  · rw [World.frozen?_of_block (w := w) hk]; exact y0
  · rw [World.frozen?_of_block (w := w) hk]; exact y1
  · rw [World.frozen?_of_block (w := w) hk]; exact y2
  · rw [World.frozen?_of_block (w := w) hk]; exact y3
  · rw [World.frozen?_of_block (w := w) hk]; exact y4
theorem below_put {N z : Nat} {w W : World} (hz : N ≤ z) (h : Below N w W) (x0 x1 x2 x3 x4 : Value) : Below N w (((((W.setCell ⟨z, 0, none⟩ x0).setCell ⟨z, 1, none⟩ x1).setCell ⟨z, 2, none⟩ x2).setCell ⟨z, 3, none⟩ x3).setCell ⟨z, 4, none⟩ x4) := by
  have bb : ∀ (W : World) (j : Nat) (x : Value), Below N w W → Below N w (W.setCell ⟨z, j, none⟩ x) := fun W j x hW => hW.setCell (p := ⟨z, j, none⟩) hz _
  exact bb _ _ _ (bb _ _ _ (bb _ _ _ (bb _ _ _ (bb _ _ _ h))))
section
variable {N : Nat} {w1 : World} {a : Option Addr} {n cap p r : Nat} {bs : Nat → Nat} {fv : Option (Int × Int)} {w : World}
set_option maxRecDepth 100000 in
set_option maxHeartbeats 4000000 in
theorem dDone_gen (h : QR N w1 a n cap bs p r fv w) : Calls Tryd.prog 25 #[.pointer (some ⟨N, 0, none⟩)] w fun e w' => e = .returned (fvB (doneF bs n p r fv)) ∧ Below N w w' := by
  have hpn := h.pn
  have hnb := h.nb
  have c3 := h.c3
  have sz := h.sz
  have szn : ¬ w.heap.size = N := by omega
  have hB0 := below_new (Below.refl _ w) (.cells #[.int .i64 0, .int .i64 0, .int .i64 0, .bool false, .bool false] 51)
  have hz0 := BZ.start w
  have h0 := (h.below hB0).here
  cases fv with
  | some x =>
    have e0 : doneF bs n p r (some x) = some x := rfl
    rw [e0]
    have hx := h.fe x rfl
    have c4 := h.c4
    have c5 := h.c5
    have c6 := h.c6
    have c7 := h.c7
    obtain ⟨q, e⟩ := x
    simp only [fcd, fpl, Option.isSome] at c3 c4 c6 hx
    simp only [fvB, fcd, fpl, Option.isSome]
    clear h e0 h0 hz0
    go_enter Tryd.func25, Tryd.ntmps25
    go_wp2_with fail
    simp [bodyPost, results, Tryd.results25, go_sem]
    first | exact (below_new (Below.refl _ w) _).mono (by omega) | exact below_put (by omega) (hB0.mono (by omega)) _ _ _ _ _
  | none =>
    simp only [fcd] at c3
    have hR := dRest_any h0
    have hB0N := hB0.mono (show N ≤ w.heap.size by omega)
    cases hg : ragb bs p r with
    | true =>
      have e0 : doneF bs n p r none = some ((p : Int) - 1, 31) := by simp [doneF, startF, hg]
      rw [e0]
      rw [hg] at hR
      have hRH : Hid _ := hR
      have hAt : Hid (∀ w', Calls Tryd.prog 65 #[.int .i64 ((p : Int) - 1), .int .i64 31] w' fun ev w'' => ev = .returned (badV ((p : Int) - 1) 31) ∧ Below w'.heap.size w' w'') := fun w' => dAt_any _ 31 rfl w'
      simp only [badV] at hAt
      simp only [fvB, fcd, fpl, Option.isSome]
      clear hR h hg e0 h0
      go_enter Tryd.func25, Tryd.ntmps25
      go_wp2_with fail
      refine Calls.mono hRH.out ?_
      rintro e w2 ⟨rfl, h2, F2⟩
      have d1 := h2.c1
      have hB2 := hB0N.trans h2.b
      have hz2 := hz0.of (F2.keep w.heap.size (by simp) szn)
      have hl2 : w.heap.size < w2.heap.size := by have := F2.size; simp at this; omega
      clear h2 c3
      go_wp2_with fail
      refine Calls.mono (hAt.out _) ?_
      rintro e w3 ⟨rfl, hB3⟩
      obtain ⟨z0, z1, z2, z3, z4, y0, y1, y2, y3, y4⟩ := hz2.of (hB3.block w.heap.size hl2)
      have hB4 : Below N w w3 := hB2.trans (hB3.mono (by omega))
      clear hz2 d1 hB3
      go_wp2_with fail
      simp [bodyPost, results, Tryd.results25, go_sem, z0, z1, z2, z3, z4, y0, y1, y2, y3, y4]
      exact below_put (by omega) hB4 _ _ _ _ _
    | false =>
      rw [hg] at hR
      have hRH : Hid _ := hR
      by_cases hp : p < n
      · have e0 : doneF bs n p r none = some ((p : Int), 33) := by simp [doneF, startF, hg, hp]
        rw [e0]
        have hAt : Hid (∀ w', Calls Tryd.prog 65 #[.int .i64 (p : Int), .int .i64 33] w' fun ev w'' => ev = .returned (badV (p : Int) 33) ∧ Below w'.heap.size w' w'') := fun w' => dAt_any _ 33 rfl w'
        simp only [badV] at hAt
        simp only [fvB, fcd, fpl, Option.isSome]
        have hI : (0 : Int) < (n : Int) - (p : Int) := by omega
        clear hR h hg e0 h0
        go_enter Tryd.func25, Tryd.ntmps25
        go_wp2_with fail
        refine Calls.mono hRH.out ?_
        rintro e w2 ⟨rfl, h2, F2⟩
        have hL : Hid _ := dLeft_gen h2
        have h2H : Hid _ := h2
        have hB2 := hB0N.trans h2.b
        have hz2 := hz0.of (F2.keep w.heap.size (by simp) szn)
        have hl2 : w.heap.size < w2.heap.size := by have := F2.size; simp at this; omega
        clear h2 c3
        go_wp2_with fail
        refine Calls.mono hL.out ?_
        rintro e w3 ⟨rfl, hB3⟩
        have h3 := h2H.out.below hB3
        have d1 := h3.c1
        have hz3 := hz2.of (hB3.block w.heap.size hl2)
        have hl3 : w.heap.size < w3.heap.size := by have := hB3.size; omega
        have hB3N : Below N w w3 := hB2.trans (hB3.mono (by omega))
        clear h3 hz2
        go_wp2_with fail
        refine Calls.mono (hAt.out _) ?_
        rintro e w4 ⟨rfl, hB4⟩
        obtain ⟨z0, z1, z2, z3, z4, y0, y1, y2, y3, y4⟩ := hz3.of (hB4.block w.heap.size hl3)
        have hB5 : Below N w w4 := hB3N.trans (hB4.mono (by omega))
        clear hz3 d1 hB4 hB3
        go_wp2_with fail
        simp [bodyPost, results, Tryd.results25, go_sem, z0, z1, z2, z3, z4, y0, y1, y2, y3, y4]
        exact below_put (by omega) hB5 _ _ _ _ _
      · have e0 : doneF bs n p r none = none := by simp [doneF, startF, hg, hp]
        rw [e0]
        simp only [fvB, fcd, fpl, Option.isSome]
        have hI : ¬ (0 : Int) < (n : Int) - (p : Int) := by omega
        clear hR h hg e0 h0
        go_enter Tryd.func25, Tryd.ntmps25
        go_wp2_with fail
        refine Calls.mono hRH.out ?_
        rintro e w2 ⟨rfl, h2, F2⟩
        have hL : Hid _ := dLeft_gen h2
        have hB2 := hB0N.trans h2.b
        have hz2 := hz0.of (F2.keep w.heap.size (by simp) szn)
        have hl2 : w.heap.size < w2.heap.size := by have := F2.size; simp at this; omega
        clear h2 c3
        go_wp2_with fail
        refine Calls.mono hL.out ?_
        rintro e w3 ⟨rfl, hB3⟩
        obtain ⟨z0, z1, z2, z3, z4, y0, y1, y2, y3, y4⟩ := hz2.of (hB3.block w.heap.size hl2)
        have hB3N : Below N w w3 := hB2.trans (hB3.mono (by omega))
        clear hz2 hB3
        go_wp2_with fail
        simp [bodyPost, results, Tryd.results25, go_sem, z0, z1, z2, z3, z4, y0, y1, y2, y3, y4]
        exact below_put (by omega) hB3N _ _ _ _ _
end
end Go.Proofs.YtlcpkbllpkgihaaDoor
