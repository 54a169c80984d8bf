
import Derived.Test.YtepgcgphnjlcoaaDoorRwCq
import Derived.Test.YtepgcgphnjlcoaaDoorWwGq
namespace Go.Proofs.YtepgcgphnjlcoaaDoor
open Go.RowKit
set_option linter.unusedVariables false
set_option linter.unusedSimpArgs false
section
variable {N : Nat} {w1 : World} {a : Option Addr} {n cap p r : Nat} {bs : Nat → Nat} {w : World}
/-- a piece, as it lies among a Reader's bytes. -/
def PieceAt (a : Option Addr) (p m : Nat) (v : Value) : Prop := ∃ c, (m = 0 ∧ (∃ b off, v = .slice (some ⟨b, off, none⟩) 0 c)) ∨ (∃ b off, a = some ⟨b, off, none⟩ ∧ v = .slice (some ⟨b, off + p, none⟩) m c)
set_option maxRecDepth 100000 in
set_option maxHeartbeats 1000000 in
theorem piece_ok (h : RR N w1 a n cap bs p r none w) (hr : ¬ (r ≠ 0 ∧ bs (p - 1) % 2 ^ r ≠ 0)) (x : Nat) (hx : x < 9223372036854775808) (hm : p + (uB x).length + x ≤ n) (hbs : ∀ i, i < (uB x).length → bs (p + i) = (uB x).getD i 0) :
    Calls Tryd.prog 34 #[.pointer (some ⟨N, 0, none⟩), .int .i64 (x : Int)] w fun e w' => (∃ v, e = .returned v ∧ PieceAt a (p + (uB x).length) x v) ∧ RR N w1 a n cap bs (p + (uB x).length + x) 0 none w' ∧ RF N w w' := by
  have hS : Hid _ := number_ok h hr x (by omega) (by omega) hbs
  have hpos := uBf_pos 10 x
  have hnb := h.nb
  obtain ⟨l, hl⟩ : ∃ l, l = (uB x).length := ⟨_, rfl⟩
  rw [← hl] at hS hm ⊢
  have hl0 : 0 < l := by rw [hl]; exact hpos
  have hlI : (0 : Int) < (l : Int) := by omega
  have hl1 : ¬ (l : Int) = 0 := by omega
  have hxI : ¬ (x : Int) < 0 := by omega
  obtain ⟨fr, hfr⟩ : ∃ fr, fr = p + l := ⟨_, rfl⟩
  rw [← hfr]
  obtain ⟨to, hto⟩ : ∃ to, to = fr + x := ⟨_, rfl⟩
  rw [← hto]
  have hfrH : Hid _ := hfr
  have htoH : Hid _ := hto
  clear hfr hto
  have hxw : IntKind.u64.wrap (x : Int) = (x : Int) := by rw [IntKind.wrap_u64]; omega
  clear h hr hbs hl hpos
  go_enter Tryd.func34, Tryd.ntmps34
  go_wp2_with fail
  refine Calls.mono hS.out ?_
  rintro e w2 ⟨rfl, h2, F2⟩
  have hL : Hid _ := left_any h2
  have hlw : IntKind.i64.wrap ((n : Int) - (p : Int) - (l : Int)) = (n : Int) - (p : Int) - (l : Int) := IntWalk.i64_in _ (by omega)
  have hlw2 : IntKind.u64.wrap ((n : Int) - (p : Int) - (l : Int)) = (n : Int) - (p : Int) - (l : Int) := by rw [IntKind.wrap_u64]; omega
  have hlt : ¬ (n : Int) - (p : Int) - (l : Int) < (x : Int) := by omega
  clear h2
  go_wp2_with fail
  refine Calls.mono hL.out ?_
  rintro e w3 ⟨rfl, h3, F3⟩
  have c1 := h3.c1
  have hxw2 : IntKind.i64.wrap (x : Int) = (x : Int) := IntWalk.i64_in _ (by omega)
  have hxl : IntKind.i64.wrap ((l : Int) + (x : Int)) = (l : Int) + (x : Int) := IntWalk.i64_in _ (by omega)
  have hpl : IntKind.i64.wrap ((p : Int) + (l : Int)) = (p : Int) + (l : Int) := IntWalk.i64_in _ (by omega)
  have hP : Hid (∀ w', Below w3.heap.size w3 w' → Calls Tryd.prog 72 #[.pointer (some ⟨N, 0, none⟩), .int .i64 ((l : Int) + (x : Int))] w' fun e w'' => e = .returned undef ∧ RR N w1 a n cap bs (p + (l + x)) 0 none w'' ∧ RF N w' w'') := fun w' hb => pass_any (h3.below hb) (l + x) _ (by omega) (by omega)
  have hFF : RF N w w3 := F2.trans F3
  clear h3 hL hS
  go_wp2_with fail
  refine (hP.out _ (Below.refl _ _)).mono ?_
  rintro e w4 ⟨rfl, h4, F4⟩
  have d0 := h4.c0
  have d1 := h4.c1
  have hnc := h4.nc
  rcases h4.row with h0 | ⟨b, off, rfl, hb, hbN, hB⟩
  · omega
  have hfr := hfrH.out
  have hto := htoH.out
  have hto2 : p + (l + x) = to := by omega
  rw [hto2] at d1 h4
  have hfrI : (p : Int) + (l : Int) = (fr : Int) := by omega
  have i1 : (0 : Int) ≤ (fr : Int) := by omega
  have i2 : (fr : Int) ≤ (to : Int) := by omega
  have i3 : (to : Int) ≤ (n : Int) := by omega
  have i4 : (to : Int) ≤ (cap : Int) := by omega
  have i5 : fr ≤ to := by omega
  have i6 : to ≤ cap := by omega
  have i7 : fr ≤ cap := by omega
  have ex : to - fr = x := by omega
  have h4H : Hid _ := h4
  clear h4 hB hP c1 hfr hto hto2
  by_cases hc : fr < cap
  · have j1 : ¬ cap ≤ fr := by omega
    have j2 : ¬ cap - fr = 0 := by omega
    have j3 : ¬ cap = fr := by omega
    have j4 : ¬ fr = cap := by omega
    go_wp2_with fail
    go_quiet (fail)
    go_wp2_with fail
    go_ret
    exact ⟨⟨_, rfl, cap - fr, Or.inr ⟨b, off, rfl, rfl⟩⟩, h4H.out.drewN _, (hFF.trans F4).trans (RF.drewN _ _)⟩
  · have x0 : x = 0 := by omega
    have x0H : Hid _ := x0
    have j4 : fr = cap := by omega
    have j5 : to = cap := by omega
    go_wp2_with fail
    go_quiet (fail)
    go_wp2_with fail
    go_ret
    exact ⟨⟨_, rfl, 0, Or.inl ⟨x0H.out, b, off, rfl⟩⟩, h4H.out.drewN _, (hFF.trans F4).trans (RF.drewN _ _)⟩
theorem clone_none2 (g off c : Nat) (w : World) : Calls Tryd.prog 28 #[.slice (some ⟨g, off, none⟩) 0 c] w fun e w' => (∃ a c', e = .returned (.slice a 0 c')) ∧ Below w.heap.size w w' := by
  have hnil : ∀ w0 : World, (binOp .eql 23 (.slice (some ⟨g, off, none⟩) 0 c) (.slice none 0 0)).run Tryd.prog w0 = .ok (.bool false) w0 := fun w0 => Go.Lib.run_eql_slice_nil w0 23 5 (some ⟨g, off, none⟩) 0 c 0 0 Tryd.underlying23
  have hown : (w.alloc (.cells #[] 5)).ownsRow w.heap.size 5 1 (.slice (some ⟨w.heap.size, 0, none⟩) 0 0) 0 (enc []) := World.ownsRow_lit w #[] 0 (Nat.le_refl _) (by omega) (by simp)
  obtain ⟨g', c', w', hr, ho, hgrow, _⟩ := app_any2 w.heap.size w.heap.size 0 0 0 [] [] _ (some ⟨g, off, none⟩) c hown rfl (Or.inl rfl) (by omega) (by simp)
  have hB := below_grown (below_new (Below.refl _ w) (.cells #[] 5)) hgrow (fun k e => by injection e with e; omega)
  have hrH : Hid _ := hr
  clear hr ho hgrow hown
  go_enter Tryd.func28, Tryd.ntmps28
  go_wp2_with (at_builtin; refine wpList_append_run2 (by rfl) _ _ _ _ (by rfl) _ _ _ _ (by rfl) (by rfl) hrH.out ?_)
  go_wp2_with fail
  go_ret
  exact ⟨⟨_, _, rfl⟩, hB⟩
theorem PieceAt.bytes {a : Option Addr} {n cap p' r q m : Nat} {bs : Nat → Nat} {N : Nat} {w1 w : World} {fv : Option (Int × Int)} {v : Value} (h : PieceAt a q m v) (hR : RR N w1 a n cap bs p' r fv w) (hq : q + m ≤ n) : ∃ b o c, v = .slice (some ⟨b, o, none⟩) m c ∧ BytesIn w (some ⟨b, o, none⟩) m (fun i => bs (q + i)) := by
  have hn := hR.nb
  obtain ⟨c, ⟨rfl, b, o, rfl⟩ | ⟨b, o, rfl, rfl⟩⟩ := h
  · exact ⟨b, o, c, rfl, by omega, Or.inl rfl⟩
  · refine ⟨b, o + q, c, rfl, by omega, ?_⟩
    rcases hR.row with h0 | ⟨b', off', e, hb, _, hB⟩
    · exact Or.inl (by omega)
    · injection e with e; injection e with e1 e2; subst e1 e2
      exact Or.inr ⟨b, o + q, rfl, hb, fun i hi => by rw [Nat.add_assoc]; exact hB (q + i) (by omega)⟩
theorem clone_in (b o m c : Nat) (bs : Nat → Nat) (w : World) (h : BytesIn w (some ⟨b, o, none⟩) m bs) : Calls Tryd.prog 28 #[.slice (some ⟨b, o, none⟩) m c] w fun e w' => (∃ a c', e = .returned (.slice a m c') ∧ BytesIn w' a m bs) ∧ Below w.heap.size w w' := by
  rcases Nat.eq_zero_or_pos m with h0 | h0
  · subst h0
    refine (clone_none2 b o c w).mono ?_
    rintro e w' ⟨⟨a, c', rfl⟩, hB⟩
    exact ⟨⟨a, c', rfl, by omega, Or.inl rfl⟩, hB⟩
  · rcases h.2 with h1 | ⟨b', o', e, hb, hB⟩
    · omega
    injection e with e; injection e with e1 e2; subst e1 e2
    have hlt : ∀ i, i < m → bs i < 256 := fun i hi => (hB i hi).2
    have hm := h.1
    have hN : BytesAt w b o (bytesL bs m).length (natsOf (bytesL bs m)) := by
      intro i hi
      have hi' : i < m := by simpa [bytesL] using hi
      rw [nats_bytesL bs m i hi']; exact hB i hi'
    have hbl : (bytesL bs m).length = m := by simp [bytesL]
    refine (clone_any b o m c (enc (bytesL bs m)) w (by rw [enc_len, hbl]) (bytes_news hN) (enc_one _) h0 (by omega)).mono ?_
    rintro e w' ⟨g', cap', rfl, ho, hBe⟩
    refine ⟨⟨_, cap', rfl, h.1, Or.inr ⟨g', 0, rfl, (ho.lt g' rfl).2, fun i hi => ?_⟩⟩, hBe⟩
    have := bytes_own ho (bytesL_lt hlt) i hi
    rw [nats_bytesL bs m i hi] at this
    exact this
set_option maxRecDepth 100000 in
theorem rRaw_ok (h : RR N w1 a n cap bs p r none w) (hr : ¬ (r ≠ 0 ∧ bs (p - 1) % 2 ^ r ≠ 0)) (x : Nat) (hx : x < 9223372036854775808) (hm : p + (uB x).length + x ≤ n) (hbs : ∀ i, i < (uB x).length → bs (p + i) = (uB x).getD i 0) :
    Calls Tryd.prog 10 #[.pointer (some ⟨N, 0, none⟩), .int .i64 (x : Int)] w fun e w' => (∃ a' c, e = .returned (.slice a' x c) ∧ BytesIn w' a' x (fun i => bs (p + (uB x).length + i))) ∧ RR N w1 a n cap bs (p + (uB x).length + x) 0 none w' ∧ RF N w w' := by
  have hS : Hid _ := piece_ok h hr x hx hm hbs
  obtain ⟨q, hq⟩ : ∃ q, q = p + (uB x).length := ⟨_, rfl⟩
  rw [← hq] at hS hm ⊢
  clear h hr hbs hq
  go_enter Tryd.func10, Tryd.ntmps10
  go_wp2_with fail
  refine Calls.mono hS.out ?_
  rintro e w2 ⟨⟨v, rfl, hv⟩, h2, F2⟩
  obtain ⟨b, o, c, rfl, hin⟩ := hv.bytes h2 hm
  have hC : Hid _ := clone_in b o x c _ w2 hin
  have h2H : Hid _ := h2
  clear h2 hin hv
  go_wp2_with fail
  refine Calls.mono hC.out ?_
  rintro e w3 ⟨⟨a', c', rfl, hin'⟩, hB⟩
  go_wp2_with fail
  go_ret
  exact ⟨⟨a', c', rfl, hin'⟩, h2H.out.below hB, F2.trans (RF.below hB)⟩
end
end Go.Proofs.YtepgcgphnjlcoaaDoor
