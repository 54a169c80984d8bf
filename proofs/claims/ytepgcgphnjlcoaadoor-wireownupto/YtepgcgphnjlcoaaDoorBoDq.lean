
import Derived.Test.YtepgcgphnjlcoaaDoorBoCq
import Derived.Test.YtepgcgphnjlcoaaDoorWwWq
import Derived.Test.YtepgcgphnjlcoaaDoorSealNq
import Derived.Test.YtepgcgphnjlcoaaDoorOpenCq
import Derived.Test.YtepgcgphnjlcoaaDoorRgEq
import Derived.Test.YtepgcgphnjlcoaaDoorOnRq
import Derived.Deep.Onto
namespace Go.Proofs.YtepgcgphnjlcoaaDoor
open Go.RowKit
set_option linter.unusedVariables false
set_option linter.unusedSimpArgs false
set_option maxRecDepth 100000
theorem oe_nil (w : World) (B : Nat) : Bk.OE w B (.slice none 0 0) [] := ⟨rfl, Or.inl ⟨rfl, rfl⟩⟩
/-- bytes.Clone of nothing that is not nil: a row of one's own. -/
theorem clone_noneO (g o c : Nat) (w : World) : Calls Tryd.prog 28 #[.slice (some ⟨g, o, none⟩) 0 c] w fun e w' => ∃ v, e = .returned v ∧ Bk.OE w' w.heap.size v [] ∧ Below w.heap.size w w' := by
  have hnil : ∀ w0 : World, (binOp .eql 23 (.slice (some ⟨g, o, none⟩) 0 c) (.slice none 0 0)).run Tryd.prog w0 = .ok (.bool false) w0 := fun w0 => Go.Lib.run_eql_slice_nil w0 23 5 (some ⟨g, o, none⟩) 0 c 0 0 Tryd.underlying23
  have hown : (w.alloc (.cells #[] 5)).ownsRow w.heap.size 5 1 (.slice (some ⟨w.heap.size, 0, none⟩) 0 0) 0 (enc []) := World.ownsRow_lit w #[] 0 (Nat.le_refl _) (by omega) (by simp)
  obtain ⟨g', c', w', hr, ho, hgrow, _⟩ := app_any2 w.heap.size w.heap.size 0 0 0 [] [] _ (some ⟨g, o, none⟩) c hown rfl (Or.inl rfl) (by omega) (by simp)
  have hB := below_grown (below_new (Below.refl _ w) (.cells #[] 5)) hgrow (fun k e => by injection e with e; omega)
  have hrH : Hid _ := hr
  have hoH : Hid (Bk.OE w' w.heap.size (.slice (some ⟨g', 0, none⟩) 0 c') []) := ho
  clear hr ho hgrow hown
  go_enter Tryd.func28, Tryd.ntmps28
  go_wp2_with (at_builtin; refine wpList_append_run2 (by rfl) _ _ _ _ (by rfl) _ _ _ _ (by rfl) (by rfl) hrH.out ?_)
  go_wp2_with fail
  go_ret
  exact ⟨.slice (some ⟨g', 0, none⟩) 0 c', rfl, hoH.out, hB⟩
/-- bytes.Clone of bytes that lie somewhere. -/
theorem clone_inO (b o m c : Nat) (bs : Nat → Nat) (w : World) (h : BytesIn w (some ⟨b, o, none⟩) m bs) : Calls Tryd.prog 28 #[.slice (some ⟨b, o, none⟩) m c] w fun e w' => ∃ v l, e = .returned v ∧ List.length l = m ∧ Bk.OE w' w.heap.size v l ∧ Below w.heap.size w w' := by
  rcases Nat.eq_zero_or_pos m with h0 | h0
  · subst h0
    exact (clone_noneO b o c w).mono fun e w' ⟨v, e1, e2, e3⟩ => ⟨v, [], e1, rfl, e2, e3⟩
  · rcases h.2 with h1 | ⟨b', o', e, hb, hB⟩
    · omega
    injection e with e; injection e with e1 e2; subst e1 e2
    have hm := h.1
    have hN : BytesAt w b o (bytesL bs m).length (natsOf (bytesL bs m)) := by
      intro i hi
      have hi' : i < m := by simpa [bytesL] using hi
      rw [nats_bytesL bs m i hi']; exact hB i hi'
    have hl : (enc (bytesL bs m)).length = m := by simp [enc, bytesL]
    refine (clone_any b o m c (enc (bytesL bs m)) w hl (fun j u hj => ?_) (enc_one _) h0 (by omega)).mono fun e w' ⟨g', c', e1, ho, hb'⟩ => ⟨_, _, e1, hl, by unfold Bk.OE; rw [hl]; exact ho, hb'⟩
    have hjl : j < m := by have := (List.getElem?_eq_some_iff.1 hj).1; omega
    have hv : u = .int .u8 (bs j : Int) := by
      simp [enc, bytesL, hjl] at hj
      exact hj.symm
    rw [hv, Bk.add_lt0]
    exact (hB j hjl).1
/-- Bytes: a row of one's own. -/
theorem bytesO (N : Nat) (w1 : World) (fr : Int) (v : Value) (l : List Nat) (w : World) (h : WS N w1 fr v l.length (enc l) w) (hb : l.length ≤ 140737488355327) :
    Calls Tryd.prog 6 #[.pointer (some ⟨N, 0, none⟩)] w fun e w' => ∃ v, e = .returned v ∧ Bk.OE w' w.heap.size v (enc l) ∧ Below w.heap.size w w' := by
  have el : (enc l).length = l.length := by simp [enc]
  rcases Nat.eq_zero_or_pos l.length with h0 | h0
  · obtain rfl : l = [] := List.eq_nil_of_length_eq_zero h0
    have c0 := h.c0
    rcases h.own.2 with ⟨e, e0⟩ | ⟨g, cap, cur, e1, _⟩
    · subst e
      go_enter Tryd.func6, Tryd.ntmps6
      go_wp2_with fail
      refine (clone_nil _).mono ?_
      rintro e w' ⟨rfl, rfl⟩
      go_wp2_with fail
      go_ret
      exact ⟨_, rfl, oe_nil _ _, Below.refl _ _⟩
    · subst e1
      go_enter Tryd.func6, Tryd.ntmps6
      go_wp2_with fail
      refine (clone_noneO g 0 cap _).mono ?_
      rintro e w' ⟨v, rfl, ho, hB⟩
      go_wp2_with fail
      go_ret
      exact ⟨_, rfl, ho, hB⟩
  · refine (bytes_any N w1 fr v l.length (enc l) w h (enc_one l) h0 (by omega)).mono ?_
    rintro e w' ⟨g', cap', rfl, ho, hB⟩
    exact ⟨_, rfl, by unfold Bk.OE; rw [el]; exact ho, hB⟩
theorem clone_ohO (H len cap n size : Nat) (bs : Nat → Nat) (w0 w : World) (h : OH H len bs w0 w) (hH : H < w0.heap.size) (hn : n + size ≤ len) (hsz : size ≤ 140737488355328) :
    Calls Tryd.prog 28 #[.slice (some ⟨H, n, none⟩) size cap] w fun e w' => ∃ g' cap', e = .returned (.slice (some ⟨g', 0, none⟩) size cap') ∧ Hid (Bk.OE w' w.heap.size (.slice (some ⟨g', 0, none⟩) size cap') (enc ((List.range size).map fun i => bs (n + i)))) ∧ OH H len bs w0 w' := by
  obtain ⟨hb, hs, hB⟩ := h
  have el : (enc ((List.range size).map fun i => bs (n + i))).length = size := by simp [enc]
  refine (clone_all H n size cap (enc ((List.range size).map fun i => bs (n + i))) w (by simp [enc]) (bytes_sub hb hn) (enc_one _) hsz).mono ?_
  rintro e w' ⟨g', cap', rfl, ho, hB'⟩
  exact ⟨g', cap', rfl, by show w'.ownsRow _ _ _ _ _ _; rw [el]; exact ho, hb.below hB' (Nat.lt_of_lt_of_le hH hB.size), ST_below hs hB', hB.trans (hB'.mono hB.size)⟩
theorem oe_less {w : World} {B C : Nat} {v : Value} {l : List Value} (h : Bk.OE w C v l) (hB : B ≤ C) : Bk.OE w B v l := World.ownsRow.mono h hB
set_option maxRecDepth 100000 in
set_option maxHeartbeats 4000000 in
theorem open_okO (H len cap : Nat) (bs : Nat → Nat) (w0 w : World) (h : OH H len bs w0 w) (hH : H < w0.heap.size) (hlc : len ≤ cap) (hm : len ≤ 9000000000000000000) (he : openE bs len = 0) (h17 : 21 + u32At bs 1 ≤ len) :
    Calls Tryd.prog 8 #[.slice (some ⟨H, 0, none⟩) len cap] w fun e w' => ∃ g cap', e = .returned (.tuple #[.int .u8 (bs 0 : Int), .int .u64 ((u32At bs 5 : Int) * 4294967296 + (u32At bs 9 : Int)), .slice (some ⟨g, 0, none⟩) (u32At bs 1) cap', .int .i64 (17 + (u32At bs 1 : Int) + 4), .nilIface]) ∧ (∃ l, List.length l = u32At bs 1 ∧ Bk.OE w' w0.heap.size (.slice (some ⟨g, 0, none⟩) (u32At bs 1) cap') l) ∧ OH H len bs w0 w' := by
  have hme := measure_any H len cap bs w0 w h hlc hm
  rw [he, if_pos rfl] at hme
  have hbs : ∀ i, i < len → bs i < 256 := fun i hi => (h.1 i hi).2
  have z5 := u32At_lt bs 5 (fun i hi => hbs i (by omega))
  have z9 := u32At_lt bs 9 (fun i hi => hbs i (by omega))
  have eo := or32 _ _ z5 z9
  have z1 := u32At_lt bs 1 (fun i hi => hbs i (by omega))
  generalize hsz : u32At bs 1 = size at *
  rw [show ((17 + size : Nat) : Int) = 17 + (size : Int) by omega] at hme
  have hme' : Hid _ := hme
  clear hme he hsz
  have q1 : (5 : Int) ≤ (len : Int) := by omega
  have q2 : (9 : Int) ≤ (len : Int) := by omega
  have q3 : (5 : Int) ≤ (cap : Int) := by omega
  have q4 : (9 : Int) ≤ (cap : Int) := by omega
  have q5 : (len : Int) ≤ (cap : Int) := by omega
  have q6 : ¬ cap = 5 := by omega
  have q7 : ¬ cap = 9 := by omega
  have q8 : ¬ cap = 17 := by omega
  have q9 : (17 : Int) ≤ 17 + (size : Int) := by omega
  have q10 : 17 + (size : Int) ≤ (cap : Int) := by omega
  have q11 : (0 : Int) < (len : Int) := by omega
  have q12 : 0 < len := by omega
  have q13 : (17 + (size : Int)).toNat - 17 = size := by omega
  go_enter Tryd.func8, Tryd.ntmps8
  go_wp2_with fail
  refine Calls.mono hme'.out ?_
  rintro e w1 ⟨rfl, h1⟩
  have h1d : OH H len bs w0 w1.drew := ⟨h1.1, h1.2.1, h1.2.2.drew⟩
  clear h hbs hme'
  go_wp2_with fail
  go_region_held3 (fun w' => OH H len bs w0 w') (first | assumption)
    (first | (go_at_call 33; refine (unfour_oh H len cap _ bs w0 _ (by assumption) (by omega)).mono ?_; rintro e w' ⟨rfl, hO⟩))
  all_goals
    have hS0 : OH H len bs w0 w'.drew ∧ w'.drew.cell? ⟨H, 0, none⟩ = some (.int .u8 (bs 0 : Int)) := ⟨⟨hO.1, hO.2.1, hO.2.2.drew⟩, hO.cell0 q12⟩
    go_wp2_with fail
    go_region_held3 (fun w' => OH H len bs w0 w' ∧ w'.cell? ⟨H, 0, none⟩ = some (.int .u8 (bs 0 : Int))) (first | assumption)
      (first | (go_at_call 28; refine (clone_ohO H len (cap - 17) 17 size bs w0 _ (And.left (by assumption)) hH (by omega) (by omega)).mono ?_; rintro e w2 ⟨g2, c2, rfl, hg2, hO2⟩; have hSz := (And.left (by assumption : OH H len bs w0 _ ∧ _)).2.2.size; have hS2 : OH H len bs w0 w2 ∧ w2.cell? ⟨H, 0, none⟩ = some (.int .u8 (bs 0 : Int)) := ⟨hO2, hO2.cell0 q12⟩))
    go_wp2_with fail
    simp [bodyPost, results, Tryd.results8, go_sem]
    refine ⟨g2, c2, ⟨?_, ⟨rfl, rfl⟩, by rw [IntKind.wrap_i64]; omega⟩, ⟨_, by simp [enc], oe_less hg2.out hSz⟩, hO2⟩
    rw [show IntKind.u64.wrap ((u32At bs 5 : Nat) : Int) = ((u32At bs 5 : Nat) : Int) by rw [IntKind.wrap_u64]; omega, show IntKind.u64.wrap (((u32At bs 5 : Nat) : Int) * 4294967296) = ((u32At bs 5 : Nat) : Int) * 4294967296 by rw [IntKind.wrap_u64]; omega, show IntKind.u64.wrap ((u32At bs 9 : Nat) : Int) = ((u32At bs 9 : Nat) : Int) by rw [IntKind.wrap_u64]; omega]
    exact eo
set_option maxRecDepth 100000 in
theorem rawO {N : Nat} {w1 : World} {a : Option Addr} {n cap : Nat} {bs : Nat → Nat} {p r : Nat} {fv : Option (Int × Int)} {w : World} (h : RR N w1 a n cap bs p r fv w) (most : Int) (hmost : -9223372036854775808 ≤ most ∧ most ≤ 9223372036854775807) :
    Calls Tryd.prog 10 #[.pointer (some ⟨N, 0, none⟩), .int .i64 most] w fun e w' => (∃ p' r' fv' v l, e = .returned v ∧ List.length l ≤ n ∧ Bk.OE w' w.heap.size v l ∧ RR N w1 a n cap bs p' r' fv' w') ∧ RF N w w' := by
  have hS : Hid _ := piece_gen h most hmost
  clear h
  go_enter Tryd.func10, Tryd.ntmps10
  go_wp2_with fail
  refine Calls.mono hS.out ?_
  rintro e w2 ⟨⟨p', r', fv', q, m, v, hG, rfl, hv, h2⟩, F2⟩
  rcases hv with ⟨hf, rfl⟩ | ⟨hf, hv, hqm⟩
  · have hm0 : m = 0 := by
      rcases hG with ⟨_, _, rfl, _⟩ | ⟨_, ⟨_, _, _, rfl, _⟩ | ⟨_, _, _, ⟨_, _, rfl, _⟩ | ⟨_, _, _, rfl, _⟩ | ⟨_, _, e, _⟩⟩⟩
      · rfl
      · rfl
      · rfl
      · rfl
      · exact absurd e hf
    subst hm0
    have h2H : Hid _ := h2
    have hGH : Hid (PieceG bs n p r most fv p' r' fv' q 0) := hG
    clear h2 hG
    go_wp2_with fail
    refine (clone_nil _).mono ?_
    rintro e w3 ⟨rfl, hw⟩
    have hw' := hw.symm
    subst hw'
    clear hw
    go_wp2_with fail
    go_ret
    exact ⟨⟨p', r', fv', _, [], rfl, Nat.zero_le _, oe_nil _ _, h2H.out⟩, F2⟩
  · subst hf
    obtain ⟨b, o, c, rfl, hin⟩ := hv.bytes h2 hqm
    have hC : Hid _ := clone_inO b o m c _ w2 hin
    have h2H : Hid _ := h2
    have hGH : Hid (PieceG bs n p r most fv p' r' none q m) := hG
    clear h2 hin hv hG
    go_wp2_with fail
    refine Calls.mono hC.out ?_
    rintro e w3 ⟨v9, l9, rfl, hl9, ho9, hB⟩
    go_wp2_with fail
    go_ret
    exact ⟨⟨p', r', none, v9, l9, rfl, by omega, oe_less ho9 F2.size, h2H.out.below hB⟩, F2.trans (RF.below hB)⟩
end Go.Proofs.YtepgcgphnjlcoaaDoor
