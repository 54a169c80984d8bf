
import Derived.Test.YtipahdplkmmofaaGreatDoorWxE
import Derived.Test.YtipahdplkmmofaaGreatDoorWxD
namespace Go.Proofs.YtipahdplkmmofaaGreatDoor.Wi
open Go.RowKit
set_option linter.unusedVariables false
set_option linter.unusedSimpArgs false
theorem wrap64_range2 (n : Int) : -9223372036854775808 ≤ wrap64 n ∧ wrap64 n ≤ 9223372036854775807 := by unfold wrap64; omega
/-- what one thing that is written does. -/
def opOn (k : Int) (x : Nat) (bits : Int) (m : Nat) (bs : Nat → Nat) (s : List Nat × Nat) : List Nat × Nat :=
  if k = 0 then (s.1 ++ [x % 256], 0) else if k = 1 then (s.1 ++ be4 (x % 4294967296), 0) else if k = 2 then (s.1 ++ uB x, 0) else if k = 3 then (s.1 ++ uB (foldZ (wrap64 (x : Int))), 0)
  else if k = 4 ∨ k = 5 then (s.1 ++ (uB m ++ bytesL bs m), 0) else if k = 6 then bitsOn x (broughtN bits) s else s
theorem bitsOn_len (x : Nat) : ∀ (k : Nat) (s : List Nat × Nat), (bitsOn x k s).1.length ≤ s.1.length + k := by
  intro k
  induction k with
  | zero => intro s; exact Nat.le_refl _
  | succ k ih =>
    intro s
    have h1 := ih (bitOn (x / 2 ^ k % 2) s)
    have h2 : (bitOn (x / 2 ^ k % 2) s).1.length ≤ s.1.length + 1 := by
      unfold bitOn
      simp only
      split <;> split <;> simp
    show (bitsOn x k (bitOn (x / 2 ^ k % 2) s)).1.length ≤ _
    omega
/-- what both leave alone. -/
structure KP (N1 N2 : Nat) (v u : Value) (w w' : World) : Prop where
  size : w.heap.size ≤ w'.heap.size
  keep : ∀ k, k < w.heap.size → k ≠ N1 → k ≠ N2 → some k ≠ v.ownBlock → some k ≠ u.ownBlock → w'.heap[k]? = w.heap[k]?
end Go.Proofs.YtipahdplkmmofaaGreatDoor.Wi

namespace Go.Proofs.YtipahdplkmmofaaGreatDoor.Wi
open Go.RowKit
set_option linter.unusedVariables false
set_option linter.unusedSimpArgs false
theorem wlen_any (N : Nat) (w1 : World) (fr : Int) (v : Value) (l : List Nat) (w : World) (h : WS N w1 fr v l.length (enc l) w) :
    Calls Tryz.prog 19 #[.pointer (some ⟨N, 0, none⟩)] w fun e w' => e = .returned (.int .i64 (l.length : Int)) ∧ w' = w := by
  obtain ⟨a, cap, rfl⟩ : ∃ a cap, v = .slice a l.length cap := by
    rcases h.own.2 with ⟨e, e0⟩ | ⟨g, cap, cur, e1, _⟩
    · exact ⟨none, 0, by rw [e, e0]⟩
    · exact ⟨_, cap, e1⟩
  have c0 := h.c0
  clear h
  go_enter Tryz.func19, Tryz.ntmps19
  go_wp2_with fail
  go_ret
  exact ⟨rfl, rfl⟩
theorem wlen_c (N : Nat) (a : Option Addr) (L cap : Nat) (w : World) (c0 : w.cell? ⟨N, 0, none⟩ = some (.slice a L cap)) :
    Calls Tryz.prog 19 #[.pointer (some ⟨N, 0, none⟩)] w fun e w' => e = .returned (.int .i64 (L : Int)) ∧ w' = w := by
  go_enter Tryz.func19, Tryz.ntmps19
  go_wp2_with fail
  go_ret
  exact ⟨rfl, rfl⟩
theorem WS.bytes {N : Nat} {w1 wx : World} {fr : Int} {v : Value} {l : List Nat} (h : WS N w1 fr v l.length (enc l) wx) (hl : ∀ y ∈ l, y < 256) (hb : l.length ≤ 140737488355327) : ∃ a cap, v = .slice a l.length cap ∧ BytesIn wx a l.length (natsOf l) := by
  rcases Nat.eq_zero_or_pos l.length with h0 | h0
  · rcases h.own.2 with ⟨e, e0⟩ | ⟨g, cap, cur, e1, _⟩
    · exact ⟨none, 0, by rw [e, h0], hb, Or.inl h0⟩
    · exact ⟨_, cap, e1, hb, Or.inl h0⟩
  · obtain ⟨g, cap, rfl, hg, hgl⟩ := h.own.form h0
    exact ⟨_, cap, rfl, hb, Or.inr ⟨g, 0, rfl, hgl, bytes_own h.own hl⟩⟩
theorem clone_nil (w : World) : Calls Tryz.prog 57 #[.slice none 0 0] w fun e w' => e = .returned (.slice none 0 0) ∧ w' = w := by
  have hnil : ∀ w0 : World, (binOp .eql 40 (.slice none 0 0) (.slice none 0 0)).run Tryz.prog w0 = .ok (.bool true) w0 := fun w0 => Go.Lib.run_eql_slice_nil w0 40 5 none 0 0 0 0 Tryz.underlying40
  go_enter Tryz.func57, Tryz.ntmps57
  go_wp2_with fail
  go_ret
  exact ⟨rfl, rfl⟩
theorem clone_none (g c : Nat) (w : World) : Calls Tryz.prog 57 #[.slice (some ⟨g, 0, none⟩) 0 c] w fun e w' => (∃ a c', e = .returned (.slice a 0 c')) ∧ Below w.heap.size w w' := by
  have hnil : ∀ w0 : World, (binOp .eql 40 (.slice (some ⟨g, 0, none⟩) 0 c) (.slice none 0 0)).run Tryz.prog w0 = .ok (.bool false) w0 := fun w0 => Go.Lib.run_eql_slice_nil w0 40 5 (some ⟨g, 0, none⟩) 0 c 0 0 Tryz.underlying40
  have hown : (w.alloc (.cells #[] 5)).ownsRow w.heap.size 5 1 (.slice (some ⟨w.heap.size, 0, none⟩) 0 0) 0 (enc []) := World.ownsRow_lit w #[] 0 (Nat.le_refl _) (by omega) (by simp)
  obtain ⟨g', c', w', hr, ho, hgrow, _⟩ := app_any2 w.heap.size w.heap.size 0 0 0 [] [] _ (some ⟨g, 0, none⟩) c hown rfl (Or.inl rfl) (by omega) (by simp)
  have hB := below_grown (below_new (Below.refl _ w) (.cells #[] 5)) hgrow (fun k e => by injection e with e; omega)
  have hrH : Hid _ := hr
  clear hr ho hgrow hown
  go_enter Tryz.func57, Tryz.ntmps57
  go_wp2_with (at_builtin; refine wpList_append_run2 (by rfl) _ _ _ _ (by rfl) _ _ _ _ (by rfl) (by rfl) hrH.out ?_)
  go_wp2_with fail
  go_ret
  exact ⟨⟨_, _, rfl⟩, hB⟩
theorem bytesB (N : Nat) (w1 : World) (fr : Int) (v : Value) (l : List Nat) (w : World) (h : WS N w1 fr v l.length (enc l) w) (hl : ∀ y ∈ l, y < 256) (hb : l.length ≤ 140737488355327) :
    Calls Tryz.prog 18 #[.pointer (some ⟨N, 0, none⟩)] w fun e w' => ∃ a c, e = .returned (.slice a l.length c) ∧ BytesIn w' a l.length (natsOf l) ∧ Below w.heap.size w w' := by
  rcases Nat.eq_zero_or_pos l.length with h0 | h0
  · obtain rfl : l = [] := List.eq_nil_of_length_eq_zero h0
    have c0 := h.c0
    rcases h.own.2 with ⟨e, e0⟩ | ⟨g, cap, cur, e1, _⟩
    · subst e
      go_enter Tryz.func18, Tryz.ntmps18
      go_wp2_with fail
      refine (clone_nil _).mono ?_
      rintro e w' ⟨rfl, rfl⟩
      go_wp2_with fail
      go_ret
      exact ⟨none, 0, rfl, ⟨by simp, Or.inl rfl⟩, Below.refl _ _⟩
    · subst e1
      go_enter Tryz.func18, Tryz.ntmps18
      go_wp2_with fail
      refine (clone_none g cap _).mono ?_
      rintro e w' ⟨⟨a, c', rfl⟩, hB⟩
      go_wp2_with fail
      go_ret
      exact ⟨a, c', rfl, ⟨by simp, Or.inl rfl⟩, hB⟩
  · refine (bytes_any N w1 fr v l.length (enc l) w h (enc_one l) h0 (by omega)).mono ?_
    rintro e w' ⟨g', cap', rfl, ho, hB⟩
    exact ⟨_, cap', rfl, ⟨hb, Or.inr ⟨g', 0, rfl, (ho.lt g' rfl).2, bytes_own ho hl⟩⟩, hB⟩
end Go.Proofs.YtipahdplkmmofaaGreatDoor.Wi

namespace Go.Proofs.YtipahdplkmmofaaGreatDoor.Wi
open Go.RowKit
set_option linter.unusedVariables false
set_option linter.unusedSimpArgs false
section
variable {N : Nat} {w1 : World} {a : Option Addr} {n cap p r : Nat} {bs : Nat → Nat} {w : World}
/-- a piece, as it lies among a Reader's bytes. -/
def PieceAt (a : Option Addr) (p m : Nat) (v : Value) : Prop := ∃ c, (m = 0 ∧ (∃ b off, v = .slice (some ⟨b, off, none⟩) 0 c)) ∨ (∃ b off, a = some ⟨b, off, none⟩ ∧ v = .slice (some ⟨b, off + p, none⟩) m c)
set_option maxRecDepth 100000 in
set_option maxHeartbeats 1000000 in
theorem piece_ok (h : RR N w1 a n cap bs p r none w) (hr : ¬ (r ≠ 0 ∧ bs (p - 1) % 2 ^ r ≠ 0)) (x : Nat) (hx : x < 9223372036854775808) (hm : p + (uB x).length + x ≤ n) (hbs : ∀ i, i < (uB x).length → bs (p + i) = (uB x).getD i 0) :
    Calls Tryz.prog 60 #[.pointer (some ⟨N, 0, none⟩), .int .i64 (x : Int)] w fun e w' => (∃ v, e = .returned v ∧ PieceAt a (p + (uB x).length) x v) ∧ RR N w1 a n cap bs (p + (uB x).length + x) 0 none w' ∧ RF N w w' := by
  have hS : Hid _ := number_ok h hr x (by omega) (by omega) hbs
  have hpos := uBf_pos 10 x
  have hnb := h.nb
  obtain ⟨l, hl⟩ : ∃ l, l = (uB x).length := ⟨_, rfl⟩
  rw [← hl] at hS hm ⊢
  have hl0 : 0 < l := by rw [hl]; exact hpos
  have hlI : (0 : Int) < (l : Int) := by omega
  have hl1 : ¬ (l : Int) = 0 := by omega
  have hxI : ¬ (x : Int) < 0 := by omega
  obtain ⟨fr, hfr⟩ : ∃ fr, fr = p + l := ⟨_, rfl⟩
  rw [← hfr]
  obtain ⟨to, hto⟩ : ∃ to, to = fr + x := ⟨_, rfl⟩
  rw [← hto]
  have hfrH : Hid _ := hfr
  have htoH : Hid _ := hto
  clear hfr hto
  have hxw : IntKind.u64.wrap (x : Int) = (x : Int) := by rw [IntKind.wrap_u64]; omega
  clear h hr hbs hl hpos
  go_enter Tryz.func60, Tryz.ntmps60
  go_wp2_with fail
  refine Calls.mono hS.out ?_
  rintro e w2 ⟨rfl, h2, F2⟩
  have hL : Hid _ := left_any h2
  have hlw : IntKind.i64.wrap ((n : Int) - (p : Int) - (l : Int)) = (n : Int) - (p : Int) - (l : Int) := IntWalk.i64_in _ (by omega)
  have hlw2 : IntKind.u64.wrap ((n : Int) - (p : Int) - (l : Int)) = (n : Int) - (p : Int) - (l : Int) := by rw [IntKind.wrap_u64]; omega
  have hlt : ¬ (n : Int) - (p : Int) - (l : Int) < (x : Int) := by omega
  clear h2
  go_wp2_with fail
  refine Calls.mono hL.out ?_
  rintro e w3 ⟨rfl, h3, F3⟩
  have c1 := h3.c1
  have hxw2 : IntKind.i64.wrap (x : Int) = (x : Int) := IntWalk.i64_in _ (by omega)
  have hxl : IntKind.i64.wrap ((l : Int) + (x : Int)) = (l : Int) + (x : Int) := IntWalk.i64_in _ (by omega)
  have hpl : IntKind.i64.wrap ((p : Int) + (l : Int)) = (p : Int) + (l : Int) := IntWalk.i64_in _ (by omega)
  have hP : Hid (∀ w', Below w3.heap.size w3 w' → Calls Tryz.prog 99 #[.pointer (some ⟨N, 0, none⟩), .int .i64 ((l : Int) + (x : Int))] w' fun e w'' => e = .returned undef ∧ RR N w1 a n cap bs (p + (l + x)) 0 none w'' ∧ RF N w' w'') := fun w' hb => pass_any (h3.below hb) (l + x) _ (by omega) (by omega)
  have hFF : RF N w w3 := F2.trans F3
  clear h3 hL hS
  go_wp2_with fail
  refine (hP.out _ (Below.refl _ _)).mono ?_
  rintro e w4 ⟨rfl, h4, F4⟩
  have d0 := h4.c0
  have d1 := h4.c1
  have hnc := h4.nc
  rcases h4.row with h0 | ⟨b, off, rfl, hb, hbN, hB⟩
  · omega
  have hfr := hfrH.out
  have hto := htoH.out
  have hto2 : p + (l + x) = to := by omega
  rw [hto2] at d1 h4
  have hfrI : (p : Int) + (l : Int) = (fr : Int) := by omega
  have i1 : (0 : Int) ≤ (fr : Int) := by omega
  have i2 : (fr : Int) ≤ (to : Int) := by omega
  have i3 : (to : Int) ≤ (n : Int) := by omega
  have i4 : (to : Int) ≤ (cap : Int) := by omega
  have i5 : fr ≤ to := by omega
  have i6 : to ≤ cap := by omega
  have i7 : fr ≤ cap := by omega
  have ex : to - fr = x := by omega
  have h4H : Hid _ := h4
  clear h4 hB hP c1 hfr hto hto2
  by_cases hc : fr < cap
  · have j1 : ¬ cap ≤ fr := by omega
    have j2 : ¬ cap - fr = 0 := by omega
    have j3 : ¬ cap = fr := by omega
    have j4 : ¬ fr = cap := by omega
    go_wp2_with fail
    go_quiet (fail)
    go_wp2_with fail
    go_ret
    exact ⟨⟨_, rfl, cap - fr, Or.inr ⟨b, off, rfl, rfl⟩⟩, h4H.out.drewN _, (hFF.trans F4).trans (RF.drewN _ _)⟩
  · have x0 : x = 0 := by omega
    have x0H : Hid _ := x0
    have j4 : fr = cap := by omega
    have j5 : to = cap := by omega
    go_wp2_with fail
    go_quiet (fail)
    go_wp2_with fail
    go_ret
    exact ⟨⟨_, rfl, 0, Or.inl ⟨x0H.out, b, off, rfl⟩⟩, h4H.out.drewN _, (hFF.trans F4).trans (RF.drewN _ _)⟩
theorem clone_none2 (g off c : Nat) (w : World) : Calls Tryz.prog 57 #[.slice (some ⟨g, off, none⟩) 0 c] w fun e w' => (∃ a c', e = .returned (.slice a 0 c')) ∧ Below w.heap.size w w' := by
  have hnil : ∀ w0 : World, (binOp .eql 40 (.slice (some ⟨g, off, none⟩) 0 c) (.slice none 0 0)).run Tryz.prog w0 = .ok (.bool false) w0 := fun w0 => Go.Lib.run_eql_slice_nil w0 40 5 (some ⟨g, off, none⟩) 0 c 0 0 Tryz.underlying40
  have hown : (w.alloc (.cells #[] 5)).ownsRow w.heap.size 5 1 (.slice (some ⟨w.heap.size, 0, none⟩) 0 0) 0 (enc []) := World.ownsRow_lit w #[] 0 (Nat.le_refl _) (by omega) (by simp)
  obtain ⟨g', c', w', hr, ho, hgrow, _⟩ := app_any2 w.heap.size w.heap.size 0 0 0 [] [] _ (some ⟨g, off, none⟩) c hown rfl (Or.inl rfl) (by omega) (by simp)
  have hB := below_grown (below_new (Below.refl _ w) (.cells #[] 5)) hgrow (fun k e => by injection e with e; omega)
  have hrH : Hid _ := hr
  clear hr ho hgrow hown
  go_enter Tryz.func57, Tryz.ntmps57
  go_wp2_with (at_builtin; refine wpList_append_run2 (by rfl) _ _ _ _ (by rfl) _ _ _ _ (by rfl) (by rfl) hrH.out ?_)
  go_wp2_with fail
  go_ret
  exact ⟨⟨_, _, rfl⟩, hB⟩
theorem PieceAt.bytes {a : Option Addr} {n cap p' r q m : Nat} {bs : Nat → Nat} {N : Nat} {w1 w : World} {fv : Option (Int × Int)} {v : Value} (h : PieceAt a q m v) (hR : RR N w1 a n cap bs p' r fv w) (hq : q + m ≤ n) : ∃ b o c, v = .slice (some ⟨b, o, none⟩) m c ∧ BytesIn w (some ⟨b, o, none⟩) m (fun i => bs (q + i)) := by
  have hn := hR.nb
  obtain ⟨c, ⟨rfl, b, o, rfl⟩ | ⟨b, o, rfl, rfl⟩⟩ := h
  · exact ⟨b, o, c, rfl, by omega, Or.inl rfl⟩
  · refine ⟨b, o + q, c, rfl, by omega, ?_⟩
    rcases hR.row with h0 | ⟨b', off', e, hb, _, hB⟩
    · exact Or.inl (by omega)
    · injection e with e; injection e with e1 e2; subst e1 e2
      exact Or.inr ⟨b, o + q, rfl, hb, fun i hi => by rw [Nat.add_assoc]; exact hB (q + i) (by omega)⟩
theorem clone_in (b o m c : Nat) (bs : Nat → Nat) (w : World) (h : BytesIn w (some ⟨b, o, none⟩) m bs) : Calls Tryz.prog 57 #[.slice (some ⟨b, o, none⟩) m c] w fun e w' => (∃ a c', e = .returned (.slice a m c') ∧ BytesIn w' a m bs) ∧ Below w.heap.size w w' := by
  rcases Nat.eq_zero_or_pos m with h0 | h0
  · subst h0
    refine (clone_none2 b o c w).mono ?_
    rintro e w' ⟨⟨a, c', rfl⟩, hB⟩
    exact ⟨⟨a, c', rfl, by omega, Or.inl rfl⟩, hB⟩
  · rcases h.2 with h1 | ⟨b', o', e, hb, hB⟩
    · omega
    injection e with e; injection e with e1 e2; subst e1 e2
    have hlt : ∀ i, i < m → bs i < 256 := fun i hi => (hB i hi).2
    have hm := h.1
    have hN : BytesAt w b o (bytesL bs m).length (natsOf (bytesL bs m)) := by
      intro i hi
      have hi' : i < m := by simpa [bytesL] using hi
      rw [nats_bytesL bs m i hi']; exact hB i hi'
    have hbl : (bytesL bs m).length = m := by simp [bytesL]
    refine (clone_any b o m c (enc (bytesL bs m)) w (by rw [enc_len, hbl]) (bytes_news hN) (enc_one _) h0 (by omega)).mono ?_
    rintro e w' ⟨g', cap', rfl, ho, hBe⟩
    refine ⟨⟨_, cap', rfl, h.1, Or.inr ⟨g', 0, rfl, (ho.lt g' rfl).2, fun i hi => ?_⟩⟩, hBe⟩
    have := bytes_own ho (bytesL_lt hlt) i hi
    rw [nats_bytesL bs m i hi] at this
    exact this
set_option maxRecDepth 100000 in
theorem rText_ok (h : RR N w1 a n cap bs p r none w) (hr : ¬ (r ≠ 0 ∧ bs (p - 1) % 2 ^ r ≠ 0)) (x : Nat) (hx : x < 9223372036854775808) (hm : p + (uB x).length + x ≤ n) (hbs : ∀ i, i < (uB x).length → bs (p + i) = (uB x).getD i 0) :
    Calls Tryz.prog 22 #[.pointer (some ⟨N, 0, none⟩), .int .i64 (x : Int)] w fun e w' => (∃ s : ByteArray, e = .returned (.string s) ∧ s.size = x ∧ bytesL (fun i => (s.data.toList.getD i 0).toNat) s.size = bytesL (fun i => bs (p + (uB x).length + i)) x) ∧ RR N w1 a n cap bs (p + (uB x).length + x) 0 none w' ∧ RF N w w' := by
  have hS : Hid _ := piece_ok h hr x hx hm hbs
  obtain ⟨q, hq⟩ : ∃ q, q = p + (uB x).length := ⟨_, rfl⟩
  rw [← hq] at hS hm ⊢
  clear h hr hbs hq
  go_enter Tryz.func22, Tryz.ntmps22
  go_wp2_with fail
  refine Calls.mono hS.out ?_
  rintro e w2 ⟨⟨v, rfl, hv⟩, h2, F2⟩
  obtain ⟨b, o, c, rfl, hin⟩ := hv.bytes h2 hm
  obtain ⟨s, hs1, hs2, hconv⟩ := to_text2 (c := c) hin
  have hc := hconv w2 (Below.refl _ _)
  have hs2H : Hid _ := hs2
  have h2H : Hid _ := h2
  clear h2 hin hv hconv hs2
  go_wp2_with fail
  go_ret
  exact ⟨⟨s, rfl, hs1, hs2H.out⟩, h2H.out, F2⟩
end
end Go.Proofs.YtipahdplkmmofaaGreatDoor.Wi

namespace Go.Proofs.YtipahdplkmmofaaGreatDoor.Wi
open Go.RowKit
set_option linter.unusedVariables false
set_option linter.unusedSimpArgs false
section
variable {N : Nat} {w1 : World} {a : Option Addr} {n cap p r : Nat} {bs : Nat → Nat} {w : World}
set_option maxRecDepth 100000 in
theorem done_ok (h : RR N w1 a n cap bs n r none w) (hr : ¬ (r ≠ 0 ∧ bs (n - 1) % 2 ^ r ≠ 0)) : Calls Tryz.prog 23 #[.pointer (some ⟨N, 0, none⟩)] w fun e w' => e = .returned .nilIface ∧ RR N w1 a n cap bs n r none w' ∧ RF N w w' := by
  have hd : decide (r ≠ 0 ∧ bs (n - 1) % 2 ^ r ≠ 0) = false := decide_eq_false hr
  have hS : Hid _ := sound_any h
  have hR := ragged_any h
  rw [hd] at hR
  have hRH : Hid _ := hR
  clear hR hd hr h
  go_enter Tryz.func23, Tryz.ntmps23
  go_wp2_with fail
  refine Calls.mono hS.out ?_
  rintro e w2 ⟨rfl, hw2⟩
  have hw3 := hw2.symm
  subst hw3
  clear hw2
  go_wp2_with fail
  refine Calls.mono hRH.out ?_
  rintro e w3 ⟨rfl, h3, F3⟩
  have hL : Hid _ := left_any h3
  have hz : ¬ (0 : Int) < (n : Int) - (n : Int) := by omega
  clear h3
  go_wp2_with fail
  refine Calls.mono hL.out ?_
  rintro e w4 ⟨rfl, h4, F4⟩
  have h4H : Hid _ := h4
  clear h4
  go_wp2_with fail
  go_ret
  exact ⟨rfl, h4H.out, F3.trans F4⟩
end
theorem clone_none4 (g off c : Nat) (w : World) : Calls Tryz.prog 57 #[.slice (some ⟨g, off, none⟩) 0 c] w fun e w' => (∃ g c', e = .returned (.slice (some ⟨g, 0, none⟩) 0 c') ∧ w.heap.size ≤ g ∧ g < w'.heap.size) ∧ Below w.heap.size w w' := by
  have hnil : ∀ w0 : World, (binOp .eql 40 (.slice (some ⟨g, off, none⟩) 0 c) (.slice none 0 0)).run Tryz.prog w0 = .ok (.bool false) w0 := fun w0 => Go.Lib.run_eql_slice_nil w0 40 5 (some ⟨g, off, none⟩) 0 c 0 0 Tryz.underlying40
  have hown : (w.alloc (.cells #[] 5)).ownsRow w.heap.size 5 1 (.slice (some ⟨w.heap.size, 0, none⟩) 0 0) 0 (enc []) := World.ownsRow_lit w #[] 0 (Nat.le_refl _) (by omega) (by simp)
  obtain ⟨g', c', w', hr, ho, hgrow, _⟩ := app_any2 w.heap.size w.heap.size 0 0 0 [] [] _ (some ⟨g, off, none⟩) c hown rfl (Or.inl rfl) (by omega) (by simp)
  have hB := below_grown (below_new (Below.refl _ w) (.cells #[] 5)) hgrow (fun k e => by injection e with e; omega)
  have hrH : Hid _ := hr
  have hgl := ho.lt g' rfl
  clear hr ho hgrow hown
  go_enter Tryz.func57, Tryz.ntmps57
  go_wp2_with (at_builtin; refine wpList_append_run2 (by rfl) _ _ _ _ (by rfl) _ _ _ _ (by rfl) (by rfl) hrH.out ?_)
  go_wp2_with fail
  go_ret
  exact ⟨⟨_, _, rfl, hgl.1, hgl.2⟩, hB⟩
theorem clone_none3 (g off c : Nat) (w : World) : Calls Tryz.prog 57 #[.slice (some ⟨g, off, none⟩) 0 c] w fun e w' => (∃ g' c', e = .returned (.slice (some ⟨g', 0, none⟩) 0 c')) ∧ Below w.heap.size w w' :=
  (clone_none4 g off c w).mono fun e w' h => by obtain ⟨⟨g', c', he, _⟩, hB⟩ := h; exact ⟨⟨g', c', he⟩, hB⟩
theorem bytesB2 (N : Nat) (w1 : World) (fr : Int) (v : Value) (l : List Nat) (w : World) (h : WS N w1 fr v l.length (enc l) w) (hl : ∀ y ∈ l, y < 256) (hb : l.length ≤ 140737488355327) :
    Calls Tryz.prog 18 #[.pointer (some ⟨N, 0, none⟩)] w fun e w' => ((e = .returned (.slice none 0 0) ∧ l = []) ∨ ∃ g o c, e = .returned (.slice (some ⟨g, o, none⟩) l.length c) ∧ BytesIn w' (some ⟨g, o, none⟩) l.length (natsOf l)) ∧ Below w.heap.size w w' := by
  rcases Nat.eq_zero_or_pos l.length with h0 | h0
  · obtain rfl : l = [] := List.eq_nil_of_length_eq_zero h0
    have c0 := h.c0
    rcases h.own.2 with ⟨e, e0⟩ | ⟨g, cap, cur, e1, _⟩
    · subst e
      go_enter Tryz.func18, Tryz.ntmps18
      go_wp2_with fail
      refine (clone_nil _).mono ?_
      rintro e w' ⟨rfl, rfl⟩
      go_wp2_with fail
      go_ret
      exact ⟨Or.inl ⟨rfl, by trivial⟩, Below.refl _ _⟩
    · subst e1
      go_enter Tryz.func18, Tryz.ntmps18
      go_wp2_with fail
      refine (clone_none3 g 0 cap _).mono ?_
      rintro e w' ⟨⟨g', c', rfl⟩, hB⟩
      go_wp2_with fail
      go_ret
      exact ⟨Or.inr ⟨g', 0, c', rfl, by simp, Or.inl rfl⟩, hB⟩
  · refine (bytes_any N w1 fr v l.length (enc l) w h (enc_one l) h0 (by omega)).mono ?_
    rintro e w' ⟨g', cap', rfl, ho, hB⟩
    exact ⟨Or.inr ⟨g', 0, cap', rfl, hb, Or.inr ⟨g', 0, rfl, (ho.lt g' rfl).2, bytes_own ho hl⟩⟩, hB⟩
/-- a Clone, and that its room is as long as it is. -/
theorem clone_cap (b o m c : Nat) (bs : Nat → Nat) (w : World) (h : BytesIn w (some ⟨b, o, none⟩) m bs) : Calls Tryz.prog 57 #[.slice (some ⟨b, o, none⟩) m c] w fun e w' => (∃ g c', e = .returned (.slice (some ⟨g, 0, none⟩) m c') ∧ m ≤ c' ∧ w.heap.size ≤ g ∧ g < w'.heap.size ∧ (m = 0 ∨ BytesAt w' g 0 m bs)) ∧ Below w.heap.size w w' := by
  rcases Nat.eq_zero_or_pos m with h0 | h0
  · subst h0
    refine (clone_none4 b o c w).mono ?_
    rintro e w' ⟨⟨g, c', rfl, hg1, hg2⟩, hB⟩
    exact ⟨⟨g, c', rfl, by omega, hg1, hg2, Or.inl rfl⟩, hB⟩
  · rcases h.2 with h1 | ⟨b', o', e, hb, hB⟩
    · omega
    injection e with e; injection e with e1 e2; subst e1 e2
    have hlt : ∀ i, i < m → bs i < 256 := fun i hi => (hB i hi).2
    have hm := h.1
    have hN : BytesAt w b o (bytesL bs m).length (natsOf (bytesL bs m)) := by
      intro i hi
      have hi' : i < m := by simpa [bytesL] using hi
      rw [nats_bytesL bs m i hi']; exact hB i hi'
    have hbl : (bytesL bs m).length = m := by simp [bytesL]
    refine (clone_any b o m c (enc (bytesL bs m)) w (by rw [enc_len, hbl]) (bytes_news hN) (enc_one _) h0 (by omega)).mono ?_
    rintro e w' ⟨g', cap', rfl, ho, hBe⟩
    have hcap : m ≤ cap' := by
      rcases ho.2 with ⟨hq, _⟩ | ⟨g0, cap0, cur, hq, _, _, hnc, _⟩
      · cases hq
      · cases hq; exact hnc
    refine ⟨⟨g', cap', rfl, hcap, (ho.lt g' rfl).1, (ho.lt g' rfl).2, Or.inr fun i hi => ?_⟩, hBe⟩
    have := bytes_own ho (bytesL_lt hlt) i hi
    rw [nats_bytesL bs m i hi] at this
    exact this
/-- NewReader, over what was written. -/
theorem new_ok (b o m c : Nat) (bs : Nat → Nat) (w : World) (h : BytesIn w (some ⟨b, o, none⟩) m bs) : Calls Tryz.prog 21 #[.slice (some ⟨b, o, none⟩) m c] w fun e w' => ∃ N a cap, e = .returned (.pointer (some ⟨N, 0, none⟩)) ∧ w.heap.size ≤ N ∧ RR N w' a m cap bs 0 0 none w' ∧ Below w.heap.size w w' := by
  have hC : Hid (∀ w', Below w.heap.size w w' → _) := fun w' hb => clone_cap b o m c bs w' (h.below hb)
  have hm := h.1
  clear h
  go_enter Tryz.func21, Tryz.ntmps21
  go_wp2_with fail
  refine Calls.mono (hC.out _ (Below.refl _ _)) ?_
  rintro e w2 ⟨⟨g, c', rfl, hc', hg1, hg2, hB⟩, hBe⟩
  have hRR : RR w2.heap.size (w2.alloc (.cells #[.slice (some ⟨g, 0, none⟩) m c', .int .i64 0, .int .i64 0, .nilIface] 114)) (some ⟨g, 0, none⟩) m c' bs 0 0 none (w2.alloc (.cells #[.slice (some ⟨g, 0, none⟩) m c', .int .i64 0, .int .i64 0, .nilIface] 114)) := by
    refine ⟨by simp [go_sem], by simp [go_sem], by simp [go_sem], by simp [go_sem, fvV], by simp [go_sem], by simp [go_sem], by simp [go_sem], ?_, hm, hc', by omega, by omega, fun h => absurd rfl h, Below.refl _ _, by simp⟩
    rcases hB with h0 | hB
    · exact Or.inl h0
    · exact Or.inr ⟨g, 0, rfl, by simp; omega, by omega, hB.below ((Below.refl _ w2).alloc (Nat.le_refl _) _) hg2⟩
  have hRRH : Hid _ := hRR
  have hBe2 := hBe.size
  clear hRR hB
  go_wp2_with fail
  go_ret
  exact ⟨w2.heap.size, _, c', rfl, hBe2, hRRH.out, below_new hBe _⟩
theorem new_nil (bs : Nat → Nat) (w : World) : Calls Tryz.prog 21 #[.slice none 0 0] w fun e w' => ∃ N a cap, e = .returned (.pointer (some ⟨N, 0, none⟩)) ∧ w.heap.size ≤ N ∧ RR N w' a 0 cap bs 0 0 none w' ∧ Below w.heap.size w w' := by
  go_enter Tryz.func21, Tryz.ntmps21
  go_wp2_with fail
  refine (clone_nil _).mono ?_
  rintro e w2 ⟨rfl, hw⟩
  have hw' := hw.symm
  subst hw'
  clear hw
  have hRR : RR w.heap.size (w.alloc (.cells #[.slice none 0 0, .int .i64 0, .int .i64 0, .nilIface] 114)) none 0 0 bs 0 0 none (w.alloc (.cells #[.slice none 0 0, .int .i64 0, .int .i64 0, .nilIface] 114)) :=
    ⟨by simp [go_sem], by simp [go_sem], by simp [go_sem], by simp [go_sem, fvV], by simp [go_sem], by simp [go_sem], by simp [go_sem], Or.inl rfl, by omega, by omega, by omega, by omega, fun h => absurd rfl h, Below.refl _ _, by simp⟩
  have hRRH : Hid _ := hRR
  clear hRR
  go_wp2_with fail
  go_ret
  exact ⟨w.heap.size, _, 0, rfl, Nat.le_refl _, hRRH.out, below_new (Below.refl _ _) _⟩
end Go.Proofs.YtipahdplkmmofaaGreatDoor.Wi

namespace Go.Proofs.YtipahdplkmmofaaGreatDoor.Wi
open Go.RowKit
set_option linter.unusedVariables false
set_option linter.unusedSimpArgs false
theorem WS.below {N : Nat} {w1 wx : World} {fr : Int} {v : Value} {n : Nat} {xs : List Value} (h : WS N w1 fr v n xs wx) {w' : World} (hb : Below wx.heap.size wx w') : WS N w1 fr v n xs w' := by
  obtain ⟨c0, c1, f0, f1, own, b, sz⟩ := h
  refine ⟨?_, ?_, ?_, ?_, ⟨own.1, ?_⟩, b.trans (hb.mono (by omega)), Nat.lt_of_lt_of_le sz hb.size⟩
  · rw [hb.cell (p := ⟨N, 0, none⟩) sz]; exact c0
  · rw [hb.cell (p := ⟨N, 1, none⟩) sz]; exact c1
  · rw [hb.frozen (p := ⟨N, 0, none⟩) sz]; exact f0
  · rw [hb.frozen (p := ⟨N, 1, none⟩) sz]; exact f1
  · rcases own.2 with h2 | ⟨g, cap, cur, e1, e2, e3, e4⟩
    · exact Or.inl h2
    · exact Or.inr ⟨g, cap, cur, e1, e2, by rw [hb.block g (Array.getElem?_eq_some_iff.1 e3).1]; exact e3, e4⟩
variable {N : Nat} {w1 : World} {a : Option Addr} {n cap p r : Nat} {bs : Nat → Nat} {w : World}
set_option maxRecDepth 100000 in
set_option maxHeartbeats 1000000 in
theorem piece_ok2 (h : RR N w1 a n cap bs p r none w) (hr : ¬ (r ≠ 0 ∧ bs (p - 1) % 2 ^ r ≠ 0)) (x : Nat) (hx : x < 9223372036854775808) (hm : p + (uB x).length + x ≤ n) (hbs : ∀ i, i < (uB x).length → bs (p + i) = (uB x).getD i 0) (most : Int) (hmost : (x : Int) ≤ most ∧ most ≤ 9223372036854775807) :
    Calls Tryz.prog 60 #[.pointer (some ⟨N, 0, none⟩), .int .i64 most] w fun e w' => (∃ v, e = .returned v ∧ PieceAt a (p + (uB x).length) x v) ∧ RR N w1 a n cap bs (p + (uB x).length + x) 0 none w' ∧ RF N w w' := by
  have hS : Hid _ := number_ok h hr x (by omega) (by omega) hbs
  have hpos := uBf_pos 10 x
  have hnb := h.nb
  obtain ⟨l, hl⟩ : ∃ l, l = (uB x).length := ⟨_, rfl⟩
  rw [← hl] at hS hm ⊢
  have hl0 : 0 < l := by rw [hl]; exact hpos
  have hlI : (0 : Int) < (l : Int) := by omega
  have hl1 : ¬ (l : Int) = 0 := by omega
  have hxI : ¬ most < 0 := by omega
  have hmx : ¬ most < (x : Int) := by omega
  have hmw : IntKind.u64.wrap most = most := by rw [IntKind.wrap_u64]; omega
  obtain ⟨fr, hfr⟩ : ∃ fr, fr = p + l := ⟨_, rfl⟩
  rw [← hfr]
  obtain ⟨to, hto⟩ : ∃ to, to = fr + x := ⟨_, rfl⟩
  rw [← hto]
  have hfrH : Hid _ := hfr
  have htoH : Hid _ := hto
  clear hfr hto
  have hxw : IntKind.u64.wrap (x : Int) = (x : Int) := by rw [IntKind.wrap_u64]; omega
  clear h hr hbs hl hpos
  go_enter Tryz.func60, Tryz.ntmps60
  go_wp2_with fail
  refine Calls.mono hS.out ?_
  rintro e w2 ⟨rfl, h2, F2⟩
  have hL : Hid _ := left_any h2
  have hlw : IntKind.i64.wrap ((n : Int) - (p : Int) - (l : Int)) = (n : Int) - (p : Int) - (l : Int) := IntWalk.i64_in _ (by omega)
  have hlw2 : IntKind.u64.wrap ((n : Int) - (p : Int) - (l : Int)) = (n : Int) - (p : Int) - (l : Int) := by rw [IntKind.wrap_u64]; omega
  have hlt : ¬ (n : Int) - (p : Int) - (l : Int) < (x : Int) := by omega
  clear h2
  go_wp2_with fail
  refine Calls.mono hL.out ?_
  rintro e w3 ⟨rfl, h3, F3⟩
  have c1 := h3.c1
  have hxw2 : IntKind.i64.wrap (x : Int) = (x : Int) := IntWalk.i64_in _ (by omega)
  have hxl : IntKind.i64.wrap ((l : Int) + (x : Int)) = (l : Int) + (x : Int) := IntWalk.i64_in _ (by omega)
  have hpl : IntKind.i64.wrap ((p : Int) + (l : Int)) = (p : Int) + (l : Int) := IntWalk.i64_in _ (by omega)
  have hP : Hid (∀ w', Below w3.heap.size w3 w' → Calls Tryz.prog 99 #[.pointer (some ⟨N, 0, none⟩), .int .i64 ((l : Int) + (x : Int))] w' fun e w'' => e = .returned undef ∧ RR N w1 a n cap bs (p + (l + x)) 0 none w'' ∧ RF N w' w'') := fun w' hb => pass_any (h3.below hb) (l + x) _ (by omega) (by omega)
  have hFF : RF N w w3 := F2.trans F3
  clear h3 hL hS
  go_wp2_with fail
  refine (hP.out _ (Below.refl _ _)).mono ?_
  rintro e w4 ⟨rfl, h4, F4⟩
  have d0 := h4.c0
  have d1 := h4.c1
  have hnc := h4.nc
  rcases h4.row with h0 | ⟨b, off, rfl, hb, hbN, hB⟩
  · omega
  have hfr := hfrH.out
  have hto := htoH.out
  have hto2 : p + (l + x) = to := by omega
  rw [hto2] at d1 h4
  have hfrI : (p : Int) + (l : Int) = (fr : Int) := by omega
  have i1 : (0 : Int) ≤ (fr : Int) := by omega
  have i2 : (fr : Int) ≤ (to : Int) := by omega
  have i3 : (to : Int) ≤ (n : Int) := by omega
  have i4 : (to : Int) ≤ (cap : Int) := by omega
  have i5 : fr ≤ to := by omega
  have i6 : to ≤ cap := by omega
  have i7 : fr ≤ cap := by omega
  have ex : to - fr = x := by omega
  have h4H : Hid _ := h4
  clear h4 hB hP c1 hfr hto hto2
  by_cases hc : fr < cap
  · have j1 : ¬ cap ≤ fr := by omega
    have j2 : ¬ cap - fr = 0 := by omega
    have j3 : ¬ cap = fr := by omega
    have j4 : ¬ fr = cap := by omega
    go_wp2_with fail
    go_quiet (fail)
    go_wp2_with fail
    go_ret
    exact ⟨⟨_, rfl, cap - fr, Or.inr ⟨b, off, rfl, rfl⟩⟩, h4H.out.drewN _, (hFF.trans F4).trans (RF.drewN _ _)⟩
  · have x0 : x = 0 := by omega
    have x0H : Hid _ := x0
    have j4 : fr = cap := by omega
    have j5 : to = cap := by omega
    go_wp2_with fail
    go_quiet (fail)
    go_wp2_with fail
    go_ret
    exact ⟨⟨_, rfl, 0, Or.inl ⟨x0H.out, b, off, rfl⟩⟩, h4H.out.drewN _, (hFF.trans F4).trans (RF.drewN _ _)⟩
set_option maxRecDepth 100000 in
theorem rText_most (h : RR N w1 a n cap bs p r none w) (hr : ¬ (r ≠ 0 ∧ bs (p - 1) % 2 ^ r ≠ 0)) (x : Nat) (hx : x < 9223372036854775808) (hm : p + (uB x).length + x ≤ n) (hbs : ∀ i, i < (uB x).length → bs (p + i) = (uB x).getD i 0) (most : Int) (hmost : (x : Int) ≤ most ∧ most ≤ 9223372036854775807) :
    Calls Tryz.prog 22 #[.pointer (some ⟨N, 0, none⟩), .int .i64 most] w fun e w' => (∃ s : ByteArray, e = .returned (.string s) ∧ s.size = x ∧ bytesL (fun i => (s.data.toList.getD i 0).toNat) s.size = bytesL (fun i => bs (p + (uB x).length + i)) x) ∧ RR N w1 a n cap bs (p + (uB x).length + x) 0 none w' ∧ RF N w w' := by
  have hS : Hid _ := piece_ok2 h hr x hx hm hbs most hmost
  obtain ⟨q, hq⟩ : ∃ q, q = p + (uB x).length := ⟨_, rfl⟩
  rw [← hq] at hS hm ⊢
  clear h hr hbs hq
  go_enter Tryz.func22, Tryz.ntmps22
  go_wp2_with fail
  refine Calls.mono hS.out ?_
  rintro e w2 ⟨⟨v, rfl, hv⟩, h2, F2⟩
  obtain ⟨b, o, c, rfl, hin⟩ := hv.bytes h2 hm
  obtain ⟨s, hs1, hs2, hconv⟩ := to_text2 (c := c) hin
  have hc := hconv w2 (Below.refl _ _)
  have hs2H : Hid _ := hs2
  have h2H : Hid _ := h2
  clear h2 hin hv hconv hs2
  go_wp2_with fail
  go_ret
  exact ⟨⟨s, rfl, hs1, hs2H.out⟩, h2H.out, F2⟩
theorem uB_small (x : Nat) (h : x < 128) : uB x = [x] := by unfold uB uBf; rw [if_pos h]
end Go.Proofs.YtipahdplkmmofaaGreatDoor.Wi
