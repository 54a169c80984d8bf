
import Derived.Test.YtboacnpbicedfaaGreatDoorByI
namespace Go.Proofs.YtboacnpbicedfaaGreatDoor.Hp
open Go.RowKit Go.Maps
set_option linter.unusedVariables false
set_option linter.unusedSimpArgs false
set_option maxRecDepth 100000
/-- what a heap and the document's tell: both the same, in whatever world comes behind. -/
structure TL (w : World) (p m : Value) (s : ByteArray) (t : Ent) (b : Bool) (c : Ent) (z : Bool) (L S : List Ent) (mv : Int) : Prop where
  top1 : ∀ W, Below w.heap.size w W → Calls Tryz.prog 36 #[p] W fun e w' => e = .returned (.tuple #[eV t, .bool b]) ∧ Below W.heap.size W w'
  top2 : ∀ W, Below w.heap.size w W → Calls Tryz.prog 37 #[m] W fun e w' => e = .returned (.tuple #[eV t, .bool b]) ∧ Below W.heap.size W w'
  get1 : ∀ W, Below w.heap.size w W → Calls Tryz.prog 38 #[p, .string s] W fun e w' => e = .returned (.tuple #[eV c, .bool z]) ∧ Below W.heap.size W w'
  get2 : ∀ W, Below w.heap.size w W → Calls Tryz.prog 39 #[m, .string s] W fun e w' => e = .returned (.tuple #[eV c, .bool z]) ∧ Below W.heap.size W w'
  len1 : ∀ W, Below w.heap.size w W → Calls Tryz.prog 40 #[p] W fun e w' => e = .returned (.int .i64 (L.length : Int)) ∧ w' = W
  lst1 : ∀ W, Below w.heap.size w W → Calls Tryz.prog 43 #[p] W fun e w' => ∃ a cap, e = .returned (.slice a L.length cap) ∧ EnIn w' a L ∧ Below W.heap.size W w'
  lst2 : ∀ W, Below w.heap.size w W → Calls Tryz.prog 41 #[m] W fun e w' => ∃ a cap, e = .returned (.slice a L.length cap) ∧ EnIn w' a L ∧ w' = W
  srt1 : ∀ W, Below w.heap.size w W → Calls Tryz.prog 44 #[p] W fun e w' => ∃ a cap, e = .returned (.slice a S.length cap) ∧ EnIn w' a S ∧ Below W.heap.size W w'
  srt2 : ∀ W, Below w.heap.size w W → Calls Tryz.prog 45 #[m] W fun e w' => ∃ a cap, e = .returned (.slice a S.length cap) ∧ EnIn w' a S ∧ Below W.heap.size W w'
  mov1 : ∀ W, Below w.heap.size w W → Calls Tryz.prog 46 #[p] W fun e w' => e = .returned (.int .i64 mv) ∧ w' = W
  mov2 : ∀ W, Below w.heap.size w W → Calls Tryz.prog 47 #[m] W fun e w' => e = .returned (.int .i64 mv) ∧ w' = W
/-- a box with an entry. -/
structure EB (w : World) (K : Nat) (x : Ent) : Prop where
  hl : K < w.heap.size
  c0 : w.cell? ⟨K, 0, none⟩ = some (.int .i64 x.1)
  c1 : w.cell? ⟨K, 1, none⟩ = some (.string x.2)
theorem EB.below {w w' : World} {K : Nat} {x : Ent} (h : EB w K x) (hb : Below w.heap.size w w') : EB w' K x := ⟨Nat.lt_of_lt_of_le h.hl hb.size, by rw [hb.cell (p := ⟨K, 0, none⟩) h.hl]; exact h.c0, by rw [hb.cell (p := ⟨K, 1, none⟩) h.hl]; exact h.c1⟩
theorem EB.new (w : World) (x : Ent) : EB (w.alloc (.cells #[.int .i64 x.1, .string x.2] 30)) w.heap.size x := ⟨by simp, by simp [go_sem], by simp [go_sem]⟩
/-- while alike goes on: what came, and its boxes. -/
structure AK (w : World) (ks : List (Nat × Ent)) (W : World) : Prop where
  bl : Below w.heap.size w W
  bx : ∀ q ∈ ks, EB W q.1 q.2
theorem AK.below {w W W' : World} {ks : List (Nat × Ent)} (h : AK w ks W) (hb : Below W.heap.size W W') : AK w ks W' := ⟨below_trans h.bl (below_less hb h.bl.size), fun q hq => (h.bx q hq).below hb⟩
theorem AK.box {w W : World} {ks : List (Nat × Ent)} (h : AK w ks W) (x : Ent) : AK w ((W.heap.size, x) :: ks) (W.alloc (.cells #[.int .i64 x.1, .string x.2] 30)) := by
  have h1 := h.below ((Below.refl W.heap.size W).alloc (Nat.le_refl _) (.cells #[.int .i64 x.1, .string x.2] 30))
  refine ⟨h1.bl, fun q hq => ?_⟩
  rcases List.mem_cons.1 hq with rfl | hq
  · exact EB.new W x
  · exact h1.bx q hq
set_option maxHeartbeats 8000000 in
theorem alike_by {w : World} {p m : Value} {s : ByteArray} {t : Ent} {b : Bool} {c : Ent} {z : Bool} {L S : List Ent} {mv : Int} (hp : p = .pointer none ∨ ∃ hp, p = .pointer (some ⟨hp, 0, none⟩)) (hm : m = .pointer none ∨ ∃ hp, m = .pointer (some ⟨hp, 0, none⟩)) (T : TL w p m s t b c z L S mv) (hL : L.length ≤ 1099511627776) (hS : S.length ≤ 1099511627776) :
    Calls Tryz.prog 13 #[p, m, .string s] w fun e w' => e = .returned (.bool true) ∧ Below w.heap.size w w' := by
  have TH : Hid (TL w p m s t b c z L S mv) := T
  have CSm : Hid (∀ (l : List Ent) a a2 cp cp2 W, l.length ≤ 1099511627776 → EnIn W a l → EnIn W a2 l → Calls Tryz.prog 42 #[.slice a l.length cp, .slice a2 l.length cp2] W fun e w' => e = .returned (.bool true) ∧ Below W.heap.size W w') := fun l a a2 cp cp2 W h1 h2 h3 => same_true a a2 cp cp2 l W h2 h3 h1
  have C1 : Hid _ := T.top1 w (Below.refl _ _)
  have A0 : AK w [] w := ⟨Below.refl _ _, fun q hq => by cases hq⟩
  have A0 : Hid (AK w [] w) := A0
  unfold eV at C1
  clear T
  obtain ⟨pv, rfl⟩ : ∃ pv, p = .pointer pv := by rcases hp with h | ⟨_, h⟩ <;> exact ⟨_, h⟩
  obtain ⟨mp, rfl⟩ : ∃ mp, m = .pointer mp := by rcases hm with h | ⟨_, h⟩ <;> exact ⟨_, h⟩
  clear hp hm
  go_enter Tryz.func13, Tryz.ntmps13
  go_wp2_with fail
  refine Calls.mono C1.out ?_
  rintro e w1 ⟨rfl, B1⟩
  have A1 : Hid _ := (A0.out.below B1).box t
  obtain ⟨W1, hW1⟩ : ∃ W1, W1 = w1.alloc (.cells #[.int .i64 t.1, .string t.2] 30) := ⟨_, rfl⟩
  obtain ⟨K1, hK1⟩ : ∃ K1, K1 = w1.heap.size := ⟨_, rfl⟩
  rw [← hW1, ← hK1] at A1
  have C2 : Hid _ := TH.out.top2 W1 A1.out.bl
  unfold eV at C2
  clear B1 C1 A0
  go_wp2_with fail
  rw [← hW1, ← hK1]
  clear hW1 hK1
  refine Calls.mono C2.out ?_
  rintro e w2 ⟨rfl, B2⟩
  have A2 : Hid _ := (A1.out.below B2).box t
  obtain ⟨W2, hW2⟩ : ∃ W2, W2 = w2.alloc (.cells #[.int .i64 t.1, .string t.2] 30) := ⟨_, rfl⟩
  obtain ⟨K2, hK2⟩ : ∃ K2, K2 = w2.heap.size := ⟨_, rfl⟩
  rw [← hW2, ← hK2] at A2
  have C3 : Hid _ := TH.out.get1 W2 A2.out.bl
  unfold eV at C3
  clear B2 C2 A1
  go_wp2_with fail
  rw [← hW2, ← hK2]
  clear hW2 hK2
  refine Calls.mono C3.out ?_
  rintro e w3 ⟨rfl, B3⟩
  have A3 : Hid _ := (A2.out.below B3).box c
  obtain ⟨W3, hW3⟩ : ∃ W3, W3 = w3.alloc (.cells #[.int .i64 c.1, .string c.2] 30) := ⟨_, rfl⟩
  obtain ⟨K3, hK3⟩ : ∃ K3, K3 = w3.heap.size := ⟨_, rfl⟩
  rw [← hW3, ← hK3] at A3
  have C4 : Hid _ := TH.out.get2 W3 A3.out.bl
  unfold eV at C4
  clear B3 C3 A2
  go_wp2_with fail
  rw [← hW3, ← hK3]
  clear hW3 hK3
  refine Calls.mono C4.out ?_
  rintro e w4 ⟨rfl, B4⟩
  have A4 : Hid _ := (A3.out.below B4).box c
  obtain ⟨W4, hW4⟩ : ∃ W4, W4 = w4.alloc (.cells #[.int .i64 c.1, .string c.2] 30) := ⟨_, rfl⟩
  obtain ⟨K4, hK4⟩ : ∃ K4, K4 = w4.heap.size := ⟨_, rfl⟩
  rw [← hW4, ← hK4] at A4
  have C5 : Hid _ := TH.out.len1 W4 A4.out.bl
  have C6 : Hid _ := TH.out.lst2 W4 A4.out.bl
  have C7 : Hid _ := TH.out.lst1 W4 A4.out.bl
  clear B4 C4 A3
  go_wp2_with fail
  rw [← hW4, ← hK4]
  clear hW4 hK4
  refine Calls.mono C5.out ?_
  rintro e w5 ⟨rfl, h5⟩
  subst h5
  clear C5
  go_wp2_with fail
  refine Calls.mono C6.out ?_
  rintro e w5 ⟨a6, cp6, rfl, _, h6⟩
  subst h6
  clear C6
  generalize hnn : L.length = n at *
  go_wp2_with fail
  refine Calls.mono C7.out ?_
  rintro e w7 ⟨a7, cp7, rfl, i7, b7⟩
  have A7 : Hid _ := A4.out.below b7
  have C8 : Hid _ := TH.out.lst2 w7 A7.out.bl
  have i7 : Hid (EnIn w7 a7 L) := i7
  clear C7 A4 b7
  go_wp2_with fail
  refine Calls.mono C8.out ?_
  rintro e w8 ⟨a8, cp8, rfl, i8, h8⟩
  subst h8
  have C9 := CSm.out L a7 a8 cp7 cp8 w8 (by omega) i7.out i8
  rw [hnn] at C9
  have C9 : Hid _ := C9
  clear C8 i7 i8
  go_wp2_with fail
  refine Calls.mono C9.out ?_
  rintro e w9 ⟨rfl, b9⟩
  have A9 : Hid _ := A7.out.below b9
  have C10 : Hid _ := TH.out.srt1 w9 A9.out.bl
  clear C9 A7 b9
  go_wp2_with fail
  refine Calls.mono C10.out ?_
  rintro e w10 ⟨a10, cp10, rfl, i10, b10⟩
  have A10 : Hid _ := A9.out.below b10
  have C11 : Hid _ := TH.out.srt2 w10 A10.out.bl
  have i10 : Hid (EnIn w10 a10 S) := i10
  clear C10 A9 b10
  go_wp2_with fail
  refine Calls.mono C11.out ?_
  rintro e w11 ⟨a11, cp11, rfl, i11, b11⟩
  have A11 : Hid _ := A10.out.below b11
  have C12 : Hid _ := CSm.out S a10 a11 cp10 cp11 w11 hS (i10.out.below b11) i11
  clear C11 A10 b11 i10 i11 CSm
  go_wp2_with fail
  refine Calls.mono C12.out ?_
  rintro e w12 ⟨rfl, b12⟩
  have A12 : Hid _ := A11.out.below b12
  have C13 : Hid _ := TH.out.mov1 w12 A12.out.bl
  have C14 : Hid _ := TH.out.mov2 w12 A12.out.bl
  clear C12 A11 b12 TH
  go_wp2_with fail
  refine Calls.mono C13.out ?_
  rintro e w13 ⟨rfl, h13⟩
  subst h13
  clear C13
  go_wp2_with fail
  refine Calls.mono C14.out ?_
  rintro e w14 ⟨rfl, h14⟩
  subst h14
  clear C14
  obtain ⟨_, e10, e11⟩ := A12.out.bx (K1, t) (by simp)
  obtain ⟨_, e20, e21⟩ := A12.out.bx (K2, t) (by simp)
  obtain ⟨_, e30, e31⟩ := A12.out.bx (K3, c) (by simp)
  obtain ⟨_, e40, e41⟩ := A12.out.bx (K4, c) (by simp)
  have fin : Hid (Below w.heap.size w w14) := A12.out.bl
  simp only at e10 e11 e20 e21 e30 e31 e40 e41
  clear A12
  go_wp2_with fail
  go_ret
  exact ⟨by first | rfl | simp, fin.out⟩
end Go.Proofs.YtboacnpbicedfaaGreatDoor.Hp

namespace Go.Proofs.YtboacnpbicedfaaGreatDoor.Hp
open Go.RowKit Go.Maps
set_option linter.unusedVariables false
set_option linter.unusedSimpArgs false
set_option maxRecDepth 100000
theorem TL.nil (w : World) (s : ByteArray) : TL w (.pointer none) (.pointer none) s (0, ⟨#[]⟩) false (0, ⟨#[]⟩) false [] [] 0 where
  top1 := fun W _ => htop_nil W
  top2 := fun W _ => dtop_nil W
  get1 := fun W _ => hget_nil s W
  get2 := fun W _ => dget_nil s W
  len1 := fun W _ => hlen_nil W
  lst1 := fun W _ => (hlist_nil W).mono fun e w' hh => ⟨none, 0, hh.1, Or.inl rfl, by rw [hh.2]; exact Below.refl _ _⟩
  lst2 := fun W _ => (dlist_nil W).mono fun e w' hh => ⟨none, 0, hh.1, Or.inl rfl, hh.2⟩
  srt1 := fun W _ => (hsorted_nil W).mono fun e w' hh => ⟨none, 0, hh.1, Or.inl rfl, hh.2⟩
  srt2 := fun W _ => (dsorted_nil W).mono fun e w' hh => ⟨none, 0, hh.1, Or.inl rfl, by rw [hh.2]; exact Below.refl _ _⟩
  mov1 := fun W _ => hmoves_nil W
  mov2 := fun W _ => dmoves_nil W
theorem alike_nil (w : World) (s : ByteArray) : Calls Tryz.prog 13 #[.pointer none, .pointer none, .string s] w fun e w' => e = .returned (.bool true) ∧ Below w.heap.size w w' := alike_by (Or.inl rfl) (Or.inl rfl) (TL.nil w s) (by simp) (by simp)
theorem OE.sl {w : World} {B : Nat} {v : Value} {l : List Ent} (h : OE w B v l) : ∃ a cap, v = .slice a l.length cap ∧ EnIn w a l := by
  obtain ⟨a, cap, e, _, h2⟩ := h.ein
  exact ⟨a, cap, e, h2⟩
theorem alike_two {w : World} {B hp mb B2 dp : Nat} {most : Bool} {v v2 : Value} {f : ByteArray → Option Nat} {L : List Ent} {mv : Int} (h : HS w B hp mb most v none f L mv) (d : DS w B2 dp most v2 L mv) (s : ByteArray) (hs : s.size ≤ 9223372036854775807) (hL : L.length ≤ 1099511627776) :
    Calls Tryz.prog 13 #[.pointer (some ⟨hp, 0, none⟩), .pointer (some ⟨dp, 0, none⟩), .string s] w fun e w' => e = .returned (.bool true) ∧ Below w.heap.size w w' := by
  have fr := h.pl.fr s
  obtain ⟨t, b, ht1, ht2⟩ : ∃ t b, (∀ W, Below w.heap.size w W → Calls Tryz.prog 36 #[.pointer (some ⟨hp, 0, none⟩)] W fun e w' => e = .returned (.tuple #[eV t, .bool b]) ∧ Below W.heap.size W w') ∧ (∀ W, Below w.heap.size w W → Calls Tryz.prog 37 #[.pointer (some ⟨dp, 0, none⟩)] W fun e w' => e = .returned (.tuple #[eV t, .bool b]) ∧ Below W.heap.size W w') := by
    rcases Nat.eq_zero_or_pos L.length with q | q
    · have e := List.eq_nil_of_length_eq_zero q
      subst e
      exact ⟨_, _, fun W hW => top_none (h.below hW), fun W hW => dtop_none (d.below hW)⟩
    · exact ⟨_, _, fun W hW => top_some (h.below hW) q, fun W hW => dtop_some (d.below hW) q⟩
  obtain ⟨c, z, hc1, hc2⟩ : ∃ c z, (∀ W, Below w.heap.size w W → Calls Tryz.prog 38 #[.pointer (some ⟨hp, 0, none⟩), .string s] W fun e w' => e = .returned (.tuple #[eV c, .bool z]) ∧ Below W.heap.size W w') ∧ (∀ W, Below w.heap.size w W → Calls Tryz.prog 39 #[.pointer (some ⟨dp, 0, none⟩), .string s] W fun e w' => e = .returned (.tuple #[eV c, .bool z]) ∧ Below W.heap.size W w') := by
    cases q : f s with
    | none =>
      rw [q] at fr
      exact ⟨_, _, fun W hW => get_none (h.below hW) s hs q, fun W hW => dget_none (d.below hW) s fr (by omega)⟩
    | some i =>
      rw [q] at fr
      exact ⟨_, _, fun W hW => get_some (h.below hW) s hs i q, fun W hW => dget_some (d.below hW) s i fr (by omega)⟩
  refine alike_by (t := t) (b := b) (c := c) (z := z) (L := L) (S := srtL most L) (mv := mv) (Or.inr ⟨hp, rfl⟩) (Or.inr ⟨dp, rfl⟩) ⟨ht1, ht2, hc1, hc2, fun W hW => len_any (h.below hW), fun W hW => ?_, fun W hW => ?_, fun W hW => ?_, fun W hW => ?_, fun W hW => moves_any (h.below hW), fun W hW => dmoves_any (d.below hW)⟩ hL (by rw [srtL_len]; exact hL)
  · refine (list_any (h.below hW) (by omega)).mono fun e w' hh => ?_
    obtain ⟨u, rfl, o, bb⟩ := hh
    obtain ⟨a, cap, rfl, hE⟩ := o.sl
    exact ⟨a, cap, rfl, hE, bb⟩
  · refine (dlist_any (d.below hW)).mono fun e w' hh => ?_
    obtain ⟨a, cap, e1, hE⟩ := (d.below hW).row.sl
    exact ⟨a, cap, by rw [hh.1, e1], by rw [hh.2]; exact hE, hh.2⟩
  · refine (sorted_any (h.below hW) (by omega)).mono fun e w' hh => ?_
    obtain ⟨u, rfl, o, bb⟩ := hh
    obtain ⟨a, cap, rfl, hE⟩ := o.sl
    exact ⟨a, cap, rfl, hE, bb⟩
  · refine (dsorted_any (d.below hW) hL).mono fun e w' hh => ?_
    obtain ⟨u, rfl, o, bb⟩ := hh
    obtain ⟨a, cap, rfl, hE⟩ := o.sl
    exact ⟨a, cap, rfl, hE, bb⟩
end Go.Proofs.YtboacnpbicedfaaGreatDoor.Hp
