
import Derived.Test.YtfijagdbdbbbpaaDoorBuE
import Derived.Test.YtfijagdbdbbbpaaDoorBuD
import Derived.BigQuiet
namespace Go.Proofs.YtfijagdbdbbbpaaDoor
open Go.RowKit
set_option linter.unusedVariables false
set_option linter.unusedSimpArgs false
/-- the bit number q of bytes. -/
def bt (L : List Nat) (q : Nat) : Bool := (L.getD (q / 8) 0).testBit (7 - q % 8)
/-- how many bits were written. -/
def nbits (s : List Nat × Nat) : Nat := 8 * s.1.length - (8 - s.2) % 8
/-- L goes on from what s has. -/
def PRE (s : List Nat × Nat) (L : List Nat) : Prop := s.1.length ≤ L.length ∧ ∀ q, q < nbits s → bt L q = bt s.1 q
theorem getD_left (l r : List Nat) (i : Nat) (h : i < l.length) : (l ++ r).getD i 0 = l.getD i 0 := by
  simp [List.getD_eq_getElem?_getD, List.getElem?_append_left h]
theorem getD_right (l r : List Nat) (j : Nat) : (l ++ r).getD (l.length + j) 0 = r.getD j 0 := by
  simp [List.getD_eq_getElem?_getD, List.getElem?_append_right (Nat.le_add_right _ _)]
theorem bt_left (l r : List Nat) (q : Nat) (h : q < 8 * l.length) : bt (l ++ r) q = bt l q := by
  unfold bt; rw [getD_left l r _ (by omega)]
theorem CL.pos {l : List Nat} {b : Nat} (h : CL l b) (hb : b ≠ 0) : 0 < l.length := by
  obtain ⟨L, a, rfl, _⟩ := h.2.2 hb; simp
/-- one bit more. -/
theorem bitOn_bt {l : List Nat} {b bit : Nat} (h : CL l b) (hbit : bit < 2) :
    CL (bitOn bit (l, b)).1 (bitOn bit (l, b)).2 ∧ nbits (bitOn bit (l, b)) = nbits (l, b) + 1 ∧ l.length ≤ (bitOn bit (l, b)).1.length ∧ (∀ q, q < nbits (l, b) → bt (bitOn bit (l, b)).1 q = bt l q) ∧ bt (bitOn bit (l, b)).1 (nbits (l, b)) = decide (bit = 1) := by
  have h8 := h.1
  by_cases hb : b = 0
  · subst hb
    rw [bitOn_new bit hbit]
    have e : bit = 0 ∨ bit = 1 := by omega
    refine ⟨⟨by omega, fun y hy => ?_, fun _ => ⟨l, bit * 128, rfl, show bit * 128 % 2 ^ 7 = 0 by rcases e with rfl | rfl <;> decide⟩⟩, by simp [nbits]; omega, by simp, fun q hq => bt_left l _ q (by simp [nbits] at hq; omega), ?_⟩
    · rcases List.mem_append.1 hy with hy | hy
      · exact h.2.1 y hy
      · rw [List.mem_singleton.1 hy]; omega
    · have e1 : nbits (l, 0) = 8 * l.length := by simp [nbits]
      unfold bt
      rw [e1, show 8 * l.length / 8 = l.length + 0 by omega, getD_right, show 8 * l.length % 8 = 0 by omega]
      rcases e with rfl | rfl <;> decide
  · obtain ⟨L, a, rfl, hz⟩ := h.2.2 hb
    have ha : a < 256 := h.2.1 a (by simp)
    rw [bitOn_in bit hbit L a b (by omega) h8 ha hz]
    have en : nbits (L ++ [a], b) = 8 * L.length + b := by simp [nbits]; omega
    obtain ⟨k, hk⟩ := Nat.dvd_of_mod_eq_zero hz
    have e : bit = 0 ∨ bit = 1 := by omega
    have hp : 2 ^ (8 - b) = 2 ^ (7 - b) * 2 := by rw [← Nat.pow_succ]; congr 1; omega
    have hlt2 : 2 ^ (7 - b) < 2 ^ (8 - b) := Nat.pow_lt_pow_right (by omega) (by omega)
    have hsum : a + bit * 2 ^ (7 - b) = a ||| (bit * 2 ^ (7 - b)) := by
      have := Nat.two_pow_add_eq_or_of_lt (i := 8 - b) (b := bit * 2 ^ (7 - b)) (by rcases e with rfl | rfl <;> simp <;> omega) k
      rw [← hk] at this; exact this
    have hlt : a + bit * 2 ^ (7 - b) < 256 := by
      have : b = 1 ∨ b = 2 ∨ b = 3 ∨ b = 4 ∨ b = 5 ∨ b = 6 ∨ b = 7 := by omega
      rcases this with rfl | rfl | rfl | rfl | rfl | rfl | rfl <;> rcases e with rfl | rfl <;> simp at hz ⊢ <;> omega
    have hz2 : (a + bit * 2 ^ (7 - b)) % 2 ^ (7 - b) = 0 := by
      rw [hk, hp, Nat.mul_assoc, Nat.add_mod, Nat.mul_mod_right, Nat.mul_mod_left]; simp
    have tb : ∀ j, 7 - b ≤ j → (a + bit * 2 ^ (7 - b)).testBit j = if j = 7 - b then decide (bit = 1) else a.testBit j := by
      intro j hj
      have haz : a.testBit (7 - b) = false := by
        rw [hk, Nat.testBit_two_pow_mul]; simp; omega
      rw [hsum, Nat.testBit_or]
      rcases e with rfl | rfl
      · by_cases hj2 : j = 7 - b
        · subst hj2; simp [haz]
        · simp [hj2]
      · rw [Nat.one_mul, Nat.testBit_two_pow]
        by_cases hj2 : j = 7 - b
        · subst hj2; simp
        · have : ¬ 7 - b = j := fun e => hj2 e.symm
          simp [hj2, this]
    refine ⟨⟨by omega, fun y hy => ?_, fun hb2 => ⟨L, _, rfl, ?_⟩⟩, ?_, by simp, fun q hq => ?_, ?_⟩
    · rcases List.mem_append.1 hy with hy | hy
      · exact h.2.1 y (by simp [hy])
      · rw [List.mem_singleton.1 hy]; exact hlt
    · have : (b + 1) % 8 = b + 1 := by omega
      rw [this, show 8 - (b + 1) = 7 - b by omega]; exact hz2
    · rw [en]; simp only [nbits, List.length_append, List.length_singleton]; omega
    · rw [en] at hq
      unfold bt
      rcases Nat.lt_or_ge q (8 * L.length) with h1 | h1
      · rw [getD_left _ _ _ (by omega), getD_left _ _ _ (by omega)]
      · have e1 : q / 8 = L.length + 0 := by omega
        rw [e1, getD_right, getD_right]
        show (a + bit * 2 ^ (7 - b)).testBit (7 - q % 8) = a.testBit (7 - q % 8)
        rw [tb _ (by omega), if_neg (by omega)]
    · rw [en]
      unfold bt
      rw [show (8 * L.length + b) / 8 = L.length + 0 by omega, getD_right, show (8 * L.length + b) % 8 = b by omega]
      show (a + bit * 2 ^ (7 - b)).testBit (7 - b) = _
      rw [tb _ (by omega), if_pos rfl]
theorem bitsOn_bt (x : Nat) : ∀ (c : Nat) (l : List Nat) (b : Nat), CL l b →
    CL (bitsOn x c (l, b)).1 (bitsOn x c (l, b)).2 ∧ nbits (bitsOn x c (l, b)) = nbits (l, b) + c ∧ l.length ≤ (bitsOn x c (l, b)).1.length ∧ (∀ q, q < nbits (l, b) → bt (bitsOn x c (l, b)).1 q = bt l q) ∧ ∀ j, j < c → bt (bitsOn x c (l, b)).1 (nbits (l, b) + j) = decide (x / 2 ^ (c - 1 - j) % 2 = 1) := by
  intro c
  induction c with
  | zero => intro l b h; exact ⟨h, rfl, Nat.le_refl _, fun q hq => rfl, fun j hj => by omega⟩
  | succ c ih =>
    intro l b h
    obtain ⟨h1, h2, h3, h4, h5⟩ := bitOn_bt (bit := x / 2 ^ c % 2) h (Nat.mod_lt _ (by omega))
    obtain ⟨g1, g2, g3, g4, g5⟩ := ih _ _ h1
    have hp : bitsOn x (c + 1) (l, b) = bitsOn x c ((bitOn (x / 2 ^ c % 2) (l, b)).1, (bitOn (x / 2 ^ c % 2) (l, b)).2) := rfl
    rw [hp]
    have h2' : nbits ((bitOn (x / 2 ^ c % 2) (l, b)).1, (bitOn (x / 2 ^ c % 2) (l, b)).2) = nbits (l, b) + 1 := h2
    rw [h2'] at g2 g4 g5
    refine ⟨g1, by omega, Nat.le_trans h3 g3, fun q hq => by rw [g4 q (by omega)]; exact h4 q hq, fun j hj => ?_⟩
    rcases j with _ | j
    · rw [Nat.add_zero, g4 _ (by omega), h5, show c + 1 - 1 - 0 = c by omega]
    · have := g5 j (by omega)
      rw [show nbits (l, b) + (j + 1) = nbits (l, b) + 1 + j by omega, this, show c + 1 - 1 - (j + 1) = c - 1 - j by omega]
theorem PRE.trans {s t : List Nat × Nat} {L : List Nat} (h : PRE s t.1) (hn : nbits s ≤ nbits t) (k : PRE t L) : PRE s L :=
  ⟨Nat.le_trans h.1 k.1, fun q hq => by rw [k.2 q (by omega)]; exact h.2 q hq⟩
theorem nbits_le (l : List Nat) (b : Nat) : nbits (l, b) ≤ 8 * l.length := by unfold nbits; simp only; omega
theorem PRE.app {l : List Nat} {b : Nat} (r : List Nat) : PRE (l, b) (l ++ r) ∧ nbits (l, b) ≤ nbits (l ++ r, 0) :=
  ⟨⟨by simp, fun q hq => bt_left l r q (by have := nbits_le l b; omega)⟩, by have := nbits_le l b; simp [nbits] at *; omega⟩
/-- one thing more. -/
theorem opOn_pre (k : Int) (x : Nat) (bits : Int) (m : Nat) (bs : Nat → Nat) (l : List Nat) (b : Nat) (h : CL l b) : PRE (l, b) (opOn k x bits m bs (l, b)).1 ∧ nbits (l, b) ≤ nbits (opOn k x bits m bs (l, b)) := by
  unfold opOn
  split
  · exact PRE.app _
  split
  · exact PRE.app _
  split
  · exact PRE.app _
  split
  · exact PRE.app _
  split
  · exact PRE.app _
  split
  · obtain ⟨h1, h2, h3, h4, h5⟩ := bitsOn_bt x (broughtN bits) l b h
    exact ⟨⟨h3, h4⟩, by omega⟩
  · exact ⟨⟨Nat.le_refl _, fun q hq => rfl⟩, Nat.le_refl _⟩
/-- the same bits are the same bytes. -/
theorem byte_eq {a b : Nat} (ha : a < 256) (hb : b < 256) (h : ∀ j, j < 8 → a.testBit j = b.testBit j) : a = b := by
  apply Nat.eq_of_testBit_eq
  intro j
  rcases Nat.lt_or_ge j 8 with h1 | h1
  · exact h j h1
  · rw [Nat.testBit_lt_two_pow (Nat.lt_of_lt_of_le ha (Nat.pow_le_pow_right (n := 2) (by omega) h1)), Nat.testBit_lt_two_pow (Nat.lt_of_lt_of_le hb (Nat.pow_le_pow_right (n := 2) (by omega) h1))]
theorem PRE.byte {l L : List Nat} (h : PRE (l, 0) L) (hl : ∀ y ∈ l, y < 256) (hL : ∀ y ∈ L, y < 256) (i : Nat) (hi : i < l.length) : L.getD i 0 = l.getD i 0 := by
  have lt : ∀ (M : List Nat), (∀ y ∈ M, y < 256) → ∀ i, M.getD i 0 < 256 := by
    intro M hM i
    rw [List.getD_eq_getElem?_getD]
    cases e : M[i]? with
    | none => simp
    | some y => exact hM y (List.mem_of_getElem? e)
  refine byte_eq (lt L hL i) (lt l hl i) (fun j hj => ?_)
  have := h.2 (8 * i + (7 - j)) (by simp [nbits]; omega)
  unfold bt at this
  rw [show (8 * i + (7 - j)) / 8 = i by omega, show 7 - (8 * i + (7 - j)) % 8 = j by omega] at this
  exact this
end Go.Proofs.YtfijagdbdbbbpaaDoor

namespace Go.Proofs.YtfijagdbdbbbpaaDoor
open Go.RowKit
set_option linter.unusedVariables false
set_option linter.unusedSimpArgs false
section
variable {N : Nat} {w1 : World} {a : Option Addr} {n cap p r : Nat} {bs : Nat → Nat} {w : World}
set_option maxRecDepth 100000 in
theorem rUint_ok (h : RR N w1 a n cap bs p r none w) (hr : ¬ (r ≠ 0 ∧ bs (p - 1) % 2 ^ r ≠ 0)) (x : Nat) (hx : x < 18446744073709551616) (hm : p + (uB x).length ≤ n) (hbs : ∀ i, i < (uB x).length → bs (p + i) = (uB x).getD i 0) (M : Nat) (z : Int) (hz : z = (M : Int)) (hM : x ≤ M) :
    Calls Tryd.prog 30 #[.pointer (some ⟨N, 0, none⟩), .int .u64 z] w fun e w' => e = .returned (.int .u64 (x : Int)) ∧ RR N w1 a n cap bs (p + (uB x).length) 0 none w' ∧ RF N w w' := by
  subst hz
  have hS : Hid _ := number_ok h hr x hx hm hbs
  have hpos := uBf_pos 10 x
  obtain ⟨l, hl⟩ : ∃ l, l = (uB x).length := ⟨_, rfl⟩
  rw [← hl] at hS hm ⊢
  have hl0 : 0 < l := by rw [hl]; exact hpos
  have hlI : (0 : Int) < (l : Int) := by omega
  have hxM : ¬ (M : Int) < (x : Int) := by omega
  clear h hr hbs hl hpos
  go_enter Tryd.func30, Tryd.ntmps30
  go_wp2_with fail
  refine Calls.mono hS.out ?_
  rintro e w2 ⟨rfl, h2, F2⟩
  have hP : Hid _ := pass_any h2 l (l : Int) rfl hm
  clear h2
  go_wp2_with fail
  refine Calls.mono hP.out ?_
  rintro e w3 ⟨rfl, h3, F3⟩
  go_wp2_with fail
  go_ret
  exact ⟨rfl, h3, F2.trans F3⟩
/-- a piece, as it lies among a Reader's bytes. -/
def PieceAt (a : Option Addr) (p m : Nat) (v : Value) : Prop := ∃ c, (m = 0 ∧ (∃ b off, v = .slice (some ⟨b, off, none⟩) 0 c)) ∨ (∃ b off, a = some ⟨b, off, none⟩ ∧ v = .slice (some ⟨b, off + p, none⟩) m c)
set_option maxRecDepth 100000 in
set_option maxHeartbeats 1000000 in
theorem piece_ok (h : RR N w1 a n cap bs p r none w) (hr : ¬ (r ≠ 0 ∧ bs (p - 1) % 2 ^ r ≠ 0)) (x : Nat) (hx : x < 9223372036854775808) (hm : p + (uB x).length + x ≤ n) (hbs : ∀ i, i < (uB x).length → bs (p + i) = (uB x).getD i 0) :
    Calls Tryd.prog 81 #[.pointer (some ⟨N, 0, none⟩), .int .i64 (x : Int)] w fun e w' => (∃ v, e = .returned v ∧ PieceAt a (p + (uB x).length) x v) ∧ RR N w1 a n cap bs (p + (uB x).length + x) 0 none w' ∧ RF N w w' := by
  have hS : Hid _ := number_ok h hr x (by omega) (by omega) hbs
  have hpos := uBf_pos 10 x
  have hnb := h.nb
  obtain ⟨l, hl⟩ : ∃ l, l = (uB x).length := ⟨_, rfl⟩
  rw [← hl] at hS hm ⊢
  have hl0 : 0 < l := by rw [hl]; exact hpos
  have hlI : (0 : Int) < (l : Int) := by omega
  have hl1 : ¬ (l : Int) = 0 := by omega
  have hxI : ¬ (x : Int) < 0 := by omega
  obtain ⟨fr, hfr⟩ : ∃ fr, fr = p + l := ⟨_, rfl⟩
  rw [← hfr]
  obtain ⟨to, hto⟩ : ∃ to, to = fr + x := ⟨_, rfl⟩
  rw [← hto]
  have hfrH : Hid _ := hfr
  have htoH : Hid _ := hto
  clear hfr hto
  have hxw : IntKind.u64.wrap (x : Int) = (x : Int) := by rw [IntKind.wrap_u64]; omega
  clear h hr hbs hl hpos
  go_enter Tryd.func81, Tryd.ntmps81
  go_wp2_with fail
  refine Calls.mono hS.out ?_
  rintro e w2 ⟨rfl, h2, F2⟩
  have hL : Hid _ := left_any h2
  have hlw : IntKind.i64.wrap ((n : Int) - (p : Int) - (l : Int)) = (n : Int) - (p : Int) - (l : Int) := IntWalk.i64_in _ (by omega)
  have hlw2 : IntKind.u64.wrap ((n : Int) - (p : Int) - (l : Int)) = (n : Int) - (p : Int) - (l : Int) := by rw [IntKind.wrap_u64]; omega
  have hlt : ¬ (n : Int) - (p : Int) - (l : Int) < (x : Int) := by omega
  clear h2
  go_wp2_with fail
  refine Calls.mono hL.out ?_
  rintro e w3 ⟨rfl, h3, F3⟩
  have c1 := h3.c1
  have hxw2 : IntKind.i64.wrap (x : Int) = (x : Int) := IntWalk.i64_in _ (by omega)
  have hxl : IntKind.i64.wrap ((l : Int) + (x : Int)) = (l : Int) + (x : Int) := IntWalk.i64_in _ (by omega)
  have hpl : IntKind.i64.wrap ((p : Int) + (l : Int)) = (p : Int) + (l : Int) := IntWalk.i64_in _ (by omega)
  have hP : Hid (∀ w', Below w3.heap.size w3 w' → Calls Tryd.prog 74 #[.pointer (some ⟨N, 0, none⟩), .int .i64 ((l : Int) + (x : Int))] w' fun e w'' => e = .returned undef ∧ RR N w1 a n cap bs (p + (l + x)) 0 none w'' ∧ RF N w' w'') := fun w' hb => pass_any (h3.below hb) (l + x) _ (by omega) (by omega)
  have hFF : RF N w w3 := F2.trans F3
  clear h3 hL hS
  go_wp2_with fail
  refine (hP.out _ (Below.refl _ _)).mono ?_
  rintro e w4 ⟨rfl, h4, F4⟩
  have d0 := h4.c0
  have d1 := h4.c1
  have hnc := h4.nc
  rcases h4.row with h0 | ⟨b, off, rfl, hb, hbN, hB⟩
  · omega
  have hfr := hfrH.out
  have hto := htoH.out
  have hto2 : p + (l + x) = to := by omega
  rw [hto2] at d1 h4
  have hfrI : (p : Int) + (l : Int) = (fr : Int) := by omega
  have i1 : (0 : Int) ≤ (fr : Int) := by omega
  have i2 : (fr : Int) ≤ (to : Int) := by omega
  have i3 : (to : Int) ≤ (n : Int) := by omega
  have i4 : (to : Int) ≤ (cap : Int) := by omega
  have i5 : fr ≤ to := by omega
  have i6 : to ≤ cap := by omega
  have i7 : fr ≤ cap := by omega
  have ex : to - fr = x := by omega
  have h4H : Hid _ := h4
  clear h4 hB hP c1 hfr hto hto2
  by_cases hc : fr < cap
  · have j1 : ¬ cap ≤ fr := by omega
    have j2 : ¬ cap - fr = 0 := by omega
    have j3 : ¬ cap = fr := by omega
    have j4 : ¬ fr = cap := by omega
    go_wp2_with fail
    go_quiet (fail)
    go_wp2_with fail
    go_ret
    exact ⟨⟨_, rfl, cap - fr, Or.inr ⟨b, off, rfl, rfl⟩⟩, h4H.out.drewN _, (hFF.trans F4).trans (RF.drewN _ _)⟩
  · have x0 : x = 0 := by omega
    have x0H : Hid _ := x0
    have j4 : fr = cap := by omega
    have j5 : to = cap := by omega
    go_wp2_with fail
    go_quiet (fail)
    go_wp2_with fail
    go_ret
    exact ⟨⟨_, rfl, 0, Or.inl ⟨x0H.out, b, off, rfl⟩⟩, h4H.out.drewN _, (hFF.trans F4).trans (RF.drewN _ _)⟩
theorem clone_none2 (g off c : Nat) (w : World) : Calls Tryd.prog 67 #[.slice (some ⟨g, off, none⟩) 0 c] w fun e w' => (∃ a c', e = .returned (.slice a 0 c')) ∧ Below w.heap.size w w' := by
  have hnil : ∀ w0 : World, (binOp .eql 60 (.slice (some ⟨g, off, none⟩) 0 c) (.slice none 0 0)).run Tryd.prog w0 = .ok (.bool false) w0 := fun w0 => Go.Lib.run_eql_slice_nil w0 60 5 (some ⟨g, off, none⟩) 0 c 0 0 Tryd.underlying60
  have hown : (w.alloc (.cells #[] 5)).ownsRow w.heap.size 5 1 (.slice (some ⟨w.heap.size, 0, none⟩) 0 0) 0 (enc []) := World.ownsRow_lit w #[] 0 (Nat.le_refl _) (by omega) (by simp)
  obtain ⟨g', c', w', hr, ho, hgrow, _⟩ := app_any2 w.heap.size w.heap.size 0 0 0 [] [] _ (some ⟨g, off, none⟩) c hown rfl (Or.inl rfl) (by omega) (by simp)
  have hB := below_grown (below_new (Below.refl _ w) (.cells #[] 5)) hgrow (fun k e => by injection e with e; omega)
  have hrH : Hid _ := hr
  clear hr ho hgrow hown
  go_enter Tryd.func67, Tryd.ntmps67
  go_wp2_with (at_builtin; refine wpList_append_run2 (by rfl) _ _ _ _ (by rfl) _ _ _ _ (by rfl) (by rfl) hrH.out ?_)
  go_wp2_with fail
  go_ret
  exact ⟨⟨_, _, rfl⟩, hB⟩
theorem PieceAt.bytes {a : Option Addr} {n cap p' r q m : Nat} {bs : Nat → Nat} {N : Nat} {w1 w : World} {fv : Option (Int × Int)} {v : Value} (h : PieceAt a q m v) (hR : RR N w1 a n cap bs p' r fv w) (hq : q + m ≤ n) : ∃ b o c, v = .slice (some ⟨b, o, none⟩) m c ∧ BytesIn w (some ⟨b, o, none⟩) m (fun i => bs (q + i)) := by
  have hn := hR.nb
  obtain ⟨c, ⟨rfl, b, o, rfl⟩ | ⟨b, o, rfl, rfl⟩⟩ := h
  · exact ⟨b, o, c, rfl, by omega, Or.inl rfl⟩
  · refine ⟨b, o + q, c, rfl, by omega, ?_⟩
    rcases hR.row with h0 | ⟨b', off', e, hb, _, hB⟩
    · exact Or.inl (by omega)
    · injection e with e; injection e with e1 e2; subst e1 e2
      exact Or.inr ⟨b, o + q, rfl, hb, fun i hi => by rw [Nat.add_assoc]; exact hB (q + i) (by omega)⟩
theorem clone_in (b o m c : Nat) (bs : Nat → Nat) (w : World) (h : BytesIn w (some ⟨b, o, none⟩) m bs) : Calls Tryd.prog 67 #[.slice (some ⟨b, o, none⟩) m c] w fun e w' => (∃ a c', e = .returned (.slice a m c') ∧ BytesIn w' a m bs) ∧ Below w.heap.size w w' := by
  rcases Nat.eq_zero_or_pos m with h0 | h0
  · subst h0
    refine (clone_none2 b o c w).mono ?_
    rintro e w' ⟨⟨a, c', rfl⟩, hB⟩
    exact ⟨⟨a, c', rfl, by omega, Or.inl rfl⟩, hB⟩
  · rcases h.2 with h1 | ⟨b', o', e, hb, hB⟩
    · omega
    injection e with e; injection e with e1 e2; subst e1 e2
    have hlt : ∀ i, i < m → bs i < 256 := fun i hi => (hB i hi).2
    have hm := h.1
    have hN : BytesAt w b o (bytesL bs m).length (natsOf (bytesL bs m)) := by
      intro i hi
      have hi' : i < m := by simpa [bytesL] using hi
      rw [nats_bytesL bs m i hi']; exact hB i hi'
    have hbl : (bytesL bs m).length = m := by simp [bytesL]
    refine (clone_any b o m c (enc (bytesL bs m)) w (by rw [enc_len, hbl]) (bytes_news hN) (enc_one _) h0 (by omega)).mono ?_
    rintro e w' ⟨g', cap', rfl, ho, hBe⟩
    refine ⟨⟨_, cap', rfl, h.1, Or.inr ⟨g', 0, rfl, (ho.lt g' rfl).2, fun i hi => ?_⟩⟩, hBe⟩
    have := bytes_own ho (bytesL_lt hlt) i hi
    rw [nats_bytesL bs m i hi] at this
    exact this
set_option maxRecDepth 100000 in
theorem rRaw_ok (h : RR N w1 a n cap bs p r none w) (hr : ¬ (r ≠ 0 ∧ bs (p - 1) % 2 ^ r ≠ 0)) (x : Nat) (hx : x < 9223372036854775808) (hm : p + (uB x).length + x ≤ n) (hbs : ∀ i, i < (uB x).length → bs (p + i) = (uB x).getD i 0) :
    Calls Tryd.prog 34 #[.pointer (some ⟨N, 0, none⟩), .int .i64 (x : Int)] w fun e w' => (∃ a' c, e = .returned (.slice a' x c) ∧ BytesIn w' a' x (fun i => bs (p + (uB x).length + i))) ∧ RR N w1 a n cap bs (p + (uB x).length + x) 0 none w' ∧ RF N w w' := by
  have hS : Hid _ := piece_ok h hr x hx hm hbs
  obtain ⟨q, hq⟩ : ∃ q, q = p + (uB x).length := ⟨_, rfl⟩
  rw [← hq] at hS hm ⊢
  clear h hr hbs hq
  go_enter Tryd.func34, Tryd.ntmps34
  go_wp2_with fail
  refine Calls.mono hS.out ?_
  rintro e w2 ⟨⟨v, rfl, hv⟩, h2, F2⟩
  obtain ⟨b, o, c, rfl, hin⟩ := hv.bytes h2 hm
  have hC : Hid _ := clone_in b o x c _ w2 hin
  have h2H : Hid _ := h2
  clear h2 hin hv
  go_wp2_with fail
  refine Calls.mono hC.out ?_
  rintro e w3 ⟨⟨a', c', rfl, hin'⟩, hB⟩
  go_wp2_with fail
  go_ret
  exact ⟨⟨a', c', rfl, hin'⟩, h2H.out.below hB, F2.trans (RF.below hB)⟩
end
end Go.Proofs.YtfijagdbdbbbpaaDoor

namespace Go.Proofs.YtfijagdbdbbbpaaDoor
open Go.RowKit
set_option linter.unusedVariables false
set_option linter.unusedSimpArgs false
/-- is something left of a byte that bits have begun? -/
def ragb (bs : Nat → Nat) (p r : Nat) : Bool := decide (r ≠ 0 ∧ bs (p - 1) % 2 ^ r ≠ 0)
/-- the fault where what is no bits begins. -/
def startF (bs : Nat → Nat) (p r : Nat) (fv : Option (Int × Int)) : Option (Int × Int) := if fv.isSome then fv else if ragb bs p r then some ((p : Int) - 1, 31) else none
/-- the fault where m bytes are wanted. -/
def hasF (n p m : Nat) (fv : Option (Int × Int)) : Option (Int × Int) := if n < p + m then some ((n : Int), 30) else fv
theorem faultAt (q : Int) (e : Int) (he : (e == 0) = false) (w : World) : Calls Tryd.prog 78 #[.int .i64 q, .int .i64 e] w fun ev w' => ev = .returned (fvV (some (q, e))) ∧ w' = w := by
  go_enter Tryd.func78, Tryd.ntmps78
  go_wp2
  go_ret
  exact ⟨rfl, rfl⟩
section
variable {N : Nat} {w1 : World} {a : Option Addr} {n cap p r : Nat} {bs : Nat → Nat} {fv : Option (Int × Int)} {w : World}
set_option maxRecDepth 100000 in
theorem fail_any (h : RR N w1 a n cap bs p r fv w) (q e : Int) (he : (e == 0) = false) : Calls Tryd.prog 73 #[.pointer (some ⟨N, 0, none⟩), .int .i64 q, .int .i64 e] w fun ev w' => ev = .returned undef ∧ RR N w1 a n cap bs p r (some (q, e)) w' ∧ RF N w w' := by
  have h2 := h.setF (some (q, e))
  have hF : RF N w (w.setCell ⟨N, 3, none⟩ (fvV (some (q, e)))) := RF.set w 3 _
  have c3 := h.c3
  have f3 := h.f3
  have hs := h.sz
  have h2H : Hid _ := h2
  have hFH : Hid _ := hF
  obtain ⟨old, hold⟩ : ∃ old, old = fvV fv := ⟨_, rfl⟩
  rw [← hold] at c3
  have hA : Hid (∀ w', Calls Tryd.prog 78 #[.int .i64 q, .int .i64 e] w' fun ev w'' => ev = .returned (fvV (some (q, e))) ∧ w'' = w') := fun w' => faultAt q e he w'
  simp only [fvV] at h2H hFH hA
  clear h2 hF h hold
  go_enter Tryd.func73, Tryd.ntmps73
  go_wp2_with fail
  refine Calls.mono (hA.out _) ?_
  rintro ev w2 ⟨rfl, hw⟩
  have hw' := hw.symm
  subst hw'
  clear hw
  go_wp2_with fail
  first | go_end0 | (simp only [Exit.inBlock, Exit.then]; refine bodyPost_ret (results_none rfl _ _ _) rfl ?_) | refine bodyPost_ret (results_none rfl _ _ _) rfl ?_
  exact ⟨rfl, h2H.out, hFH.out⟩
set_option maxRecDepth 100000 in
theorem starts_gen (h : RR N w1 a n cap bs p r fv w) : Calls Tryd.prog 85 #[.pointer (some ⟨N, 0, none⟩)] w fun e w' => e = .returned (.bool (startF bs p r fv).isNone) ∧ RR N w1 a n cap bs p r (startF bs p r fv) w' ∧ RF N w w' := by
  cases fv with
  | some x =>
    have e0 : startF bs p r (some x) = some x := rfl
    rw [e0]
    have hS : Hid _ := sound_any h
    have hH : Hid _ := h
    clear h e0
    go_enter Tryd.func85, Tryd.ntmps85
    go_wp2_with fail
    refine Calls.mono hS.out ?_
    rintro e w2 ⟨rfl, hw2⟩
    have hw3 := hw2.symm
    subst hw3
    go_wp2_with fail
    go_ret
    exact ⟨rfl, hH.out, RF.refl _ _⟩
  | none =>
    cases hg : ragb bs p r with
    | false =>
      have e0 : startF bs p r none = none := by simp [startF, hg]
      rw [e0]
      exact starts_ok h (of_decide_eq_false hg)
    | true =>
      have e0 : startF bs p r none = some ((p : Int) - 1, 31) := by simp [startF, hg]
      rw [e0]
      have hS : Hid _ := sound_any h
      have hR := ragged_any h
      rw [show decide (r ≠ 0 ∧ bs (p - 1) % 2 ^ r ≠ 0) = true from hg] at hR
      have hRH : Hid _ := hR
      have hpn := h.pn
      have hnb := h.nb
      clear hR h hg e0
      go_enter Tryd.func85, Tryd.ntmps85
      go_wp2_with fail
      refine Calls.mono hS.out ?_
      rintro e w2 ⟨rfl, hw2⟩
      have hw3 := hw2.symm
      subst hw3
      clear hw2
      go_wp2_with fail
      refine Calls.mono hRH.out ?_
      rintro e w3 ⟨rfl, h3, F3⟩
      have c1 := h3.c1
      have hFa : Hid (∀ k, Calls Tryd.prog 73 #[.pointer (some ⟨N, 0, none⟩), .int .i64 ((p : Int) - 1), .int .i64 31] (w3.drewN k) fun ev w' => ev = .returned undef ∧ RR N w1 a n cap bs p r (some ((p : Int) - 1, 31)) w' ∧ RF N (w3.drewN k) w') := fun k => fail_any (h3.drewN k) _ 31 rfl
      have hFb : Hid _ := fail_any h3 ((p : Int) - 1) 31 rfl
      clear h3
      go_wp2_with fail
      refine Calls.mono hFb.out ?_
      rintro e w4 ⟨rfl, h4, F4⟩
      go_wp2_with fail
      go_ret
      exact ⟨rfl, h4, F3.trans F4⟩
set_option maxRecDepth 100000 in
theorem has_gen (h : RR N w1 a n cap bs p r none w) (m : Nat) (z : Int) (hz : z = (m : Int)) : Calls Tryd.prog 86 #[.pointer (some ⟨N, 0, none⟩), .int .i64 z] w fun e w' => e = .returned (.bool (hasF n p m none).isNone) ∧ RR N w1 a n cap bs p r (hasF n p m none) w' ∧ RF N w w' := by
  by_cases hm : n < p + m
  · have e0 : hasF n p m none = some ((n : Int), 30) := by simp [hasF, hm]
    rw [e0]
    subst hz
    have hL : Hid _ := left_any h
    have hI : (n : Int) - (p : Int) < (m : Int) := by omega
    clear h e0
    go_enter Tryd.func86, Tryd.ntmps86
    go_wp2_with fail
    refine Calls.mono hL.out ?_
    rintro e w3 ⟨rfl, h3, F3⟩
    have c0 := h3.c0
    have hFb : Hid _ := fail_any h3 (n : Int) 30 rfl
    clear h3
    go_wp2_with fail
    refine Calls.mono hFb.out ?_
    rintro e w4 ⟨rfl, h4, F4⟩
    go_wp2_with fail
    go_ret
    exact ⟨rfl, h4, F3.trans F4⟩
  · have e0 : hasF n p m none = none := by simp [hasF, hm]
    rw [e0]
    exact has_ok h m z hz (by omega)
end
end Go.Proofs.YtfijagdbdbbbpaaDoor

namespace Go.Proofs.YtfijagdbdbbbpaaDoor
open Go.RowKit
set_option linter.unusedVariables false
set_option linter.unusedSimpArgs false
/-- an error of the document's with a place. -/
def badQ (q e : Int) : Value := .agg #[.int .i64 e, .int .i64 q, .int .i64 0, .bool true, .bool false]
theorem modb (y k : Nat) (K : Int) (hK : K = (k : Int)) : (((y : Int) % K) == 0) = !decide (y % k ≠ 0) := by
  subst hK
  by_cases h : y % k = 0
  · have : (y : Int) % (k : Int) = 0 := by omega
    simp [h, this]
  · have : ¬ (y : Int) % (k : Int) = 0 := by omega
    simp [h, this]
section
variable {N : Nat} {w1 : World} {a : Option Addr} {n cap p r : Nat} {bs : Nat → Nat} {fv : Option (Int × Int)} {w : World}
end
end Go.Proofs.YtfijagdbdbbbpaaDoor

namespace Go.Proofs.YtfijagdbdbbbpaaDoor
open Go.RowKit
set_option linter.unusedVariables false
set_option linter.unusedSimpArgs false
/-- the fault where m whole bytes are read. -/
def beginF (bs : Nat → Nat) (n p r m : Nat) (fv : Option (Int × Int)) : Option (Int × Int) := if (startF bs p r fv).isSome then startF bs p r fv else hasF n p m none
/-- a number: where it goes wrong, or what it says and how many bytes it has. -/
def numS (bs : Nat → Nat) (n p : Nat) : Nat → Nat → Nat → (Int × Int) ⊕ (Nat × Nat)
  | 0, _, _ => .inl (0, 0)
  | f + 1, s, v => if n < p + (s + 1) then .inl ((n : Int), 30)
    else if (s = 9 ∧ 1 < bs (p + s)) ∨ (0 < s ∧ bs (p + s) = 0) then .inl (((p + s : Nat) : Int), 31)
    else if bs (p + s) < 128 then .inr (v + bs (p + s) % 128 * 128 ^ s, s + 1) else numS bs n p f (s + 1) (v + bs (p + s) % 128 * 128 ^ s)
theorem uBf_more : ∀ (f v : Nat), v < 128 ^ (f + 1) → uBf (f + 1) v = uBf f v := by
  intro f
  induction f with
  | zero => intro v h; simp at h; simp [uBf, h]
  | succ f ih =>
    intro v h
    by_cases hv : v < 128
    · simp [uBf, hv]
    · have h1 : uBf (f + 1 + 1) v = (v % 128 + 128) :: uBf (f + 1) (v / 128) := by conv => lhs; unfold uBf; rw [if_neg hv]
      have h2 : uBf (f + 1) v = (v % 128 + 128) :: uBf f (v / 128) := by conv => lhs; unfold uBf; rw [if_neg hv]
      rw [h1, h2, ih (v / 128) (by rw [Nat.div_lt_iff_lt_mul (by omega)]; rw [Nat.pow_succ] at h; omega)]
/-- what is read as a number is written so. -/
theorem numS_ok (bs : Nat → Nat) (n p : Nat) (hbs : ∀ i, i < n → bs i < 256) : ∀ (f s v x l : Nat), s + f = 10 → v < 128 ^ s → numS bs n p f s v = .inr (x, l) →
    ∃ X, x = v + X * 128 ^ s ∧ l = s + (uBf (f - 1) X).length ∧ p + l ≤ n ∧ (∀ i, i < (uBf (f - 1) X).length → bs (p + s + i) = (uBf (f - 1) X).getD i 0) ∧ (0 < s → X ≠ 0) ∧ x < 18446744073709551616 ∧ X < 128 ^ f := by
  intro f
  induction f with
  | zero => intro s v x l _ _ h; simp [numS] at h
  | succ f ih =>
    intro s v x l hsf hv h
    unfold numS at h
    by_cases h1 : n < p + (s + 1)
    · rw [if_pos h1] at h; cases h
    rw [if_neg h1] at h
    by_cases h2 : (s = 9 ∧ 1 < bs (p + s)) ∨ (0 < s ∧ bs (p + s) = 0)
    · rw [if_pos h2] at h; cases h
    rw [if_neg h2] at h
    by_cases h3 : bs (p + s) < 128
    · rw [if_pos h3] at h
      obtain ⟨rfl, rfl⟩ : v + bs (p + s) % 128 * 128 ^ s = x ∧ s + 1 = l := by simpa using h
      have hy : bs (p + s) % 128 = bs (p + s) := Nat.mod_eq_of_lt h3
      have hu : uBf f (bs (p + s)) = [bs (p + s)] := by cases f <;> simp [uBf, h3]
      refine ⟨bs (p + s), by rw [hy], by rw [show f + 1 - 1 = f by omega, hu]; rfl, by omega, ?_, fun h0 e => h2 (Or.inr ⟨h0, e⟩), ?_, ?_⟩
      · rw [show f + 1 - 1 = f by omega, hu]
        intro i hi
        simp at hi
        subst hi
        simp
      · rw [hy]
        by_cases h9 : s = 9
        · have : bs (p + s) ≤ 1 := by omega
          subst h9
          have : bs (p + 9) = 0 ∨ bs (p + 9) = 1 := by omega
          rcases this with e | e <;> rw [e] <;> omega
        · have h10 : v + bs (p + s) * 128 ^ s < 128 ^ (s + 1) := by
            have hle : bs (p + s) * 128 ^ s ≤ 127 * 128 ^ s := Nat.mul_le_mul_right _ (by omega)
            rw [Nat.pow_succ]; omega
          have h11 : 128 ^ (s + 1) ≤ 128 ^ 9 := Nat.pow_le_pow_right (by omega) (by omega)
          omega
      · have : 128 ^ 1 ≤ 128 ^ (f + 1) := Nat.pow_le_pow_right (by omega) (by omega)
        omega
    · rw [if_neg h3] at h
      have hlt : v + bs (p + s) % 128 * 128 ^ s < 128 ^ (s + 1) := by
        have : bs (p + s) % 128 < 128 := Nat.mod_lt _ (by omega)
        have hle : bs (p + s) % 128 * 128 ^ s ≤ 127 * 128 ^ s := Nat.mul_le_mul_right _ (by omega)
        rw [Nat.pow_succ]; omega
      obtain ⟨X, hx, hl, hn, hb, h0, hxx, hXf⟩ := ih (s + 1) _ x l (by omega) hlt h
      have hX0 := h0 (by omega)
      have hy256 := hbs (p + s) (by omega)
      obtain ⟨y, hy⟩ : ∃ y, y = bs (p + s) := ⟨_, rfl⟩
      rw [← hy] at h3 hlt hx hy256
      have hym : y % 128 = y - 128 := by omega
      cases f with
      | zero => simp [numS] at h
      | succ g =>
        simp only [Nat.add_sub_cancel] at hl hb ⊢
        have hXX : 128 ≤ y - 128 + 128 * X := by omega
        have hd : (y - 128 + 128 * X) / 128 = X := by omega
        have hmm : (y - 128 + 128 * X) % 128 = y - 128 := by omega
        have hu : uBf (g + 1) (y - 128 + 128 * X) = y :: uBf g X := by
          conv => lhs; unfold uBf
          rw [if_neg (by omega), hd, hmm, show y - 128 + 128 = y by omega]
        refine ⟨y - 128 + 128 * X, ?_, by rw [hu]; simp; omega, hn, ?_, fun _ => by omega, hxx, ?_⟩
        · rw [hx, hym, Nat.pow_succ, Nat.add_mul, Nat.mul_comm 128 X, Nat.mul_assoc X 128, Nat.mul_comm 128 (128 ^ s)]; omega
        · rw [hu]
          intro i hi
          rcases i with _ | i
          · simp [← hy]
          · have := hb i (by simpa using hi)
            rw [List.getD_cons_succ, ← this]
            congr 1; omega
        · rw [Nat.pow_succ]; omega
end Go.Proofs.YtfijagdbdbbbpaaDoor

namespace Go.Proofs.YtfijagdbdbbbpaaDoor
open Go.RowKit
set_option linter.unusedVariables false
set_option linter.unusedSimpArgs false
section
variable {N : Nat} {w1 : World} {a : Option Addr} {n cap p r : Nat} {bs : Nat → Nat} {fv : Option (Int × Int)} {w : World}
theorem RR.bytes256 (h : RR N w1 a n cap bs p r fv w) : ∀ i, i < n → bs i < 256 := by
  rcases h.row with h0 | ⟨b, off, _, _, _, hB⟩
  · intro i hi; omega
  · exact fun i hi => (hB i hi).2
theorem startF_none (h : startF bs p r fv = none) : fv = none ∧ ¬ (r ≠ 0 ∧ bs (p - 1) % 2 ^ r ≠ 0) := by
  unfold startF at h
  cases fv with
  | some x => simp at h
  | none =>
    refine ⟨rfl, ?_⟩
    cases hg : ragb bs p r with
    | true => simp [hg] at h
    | false => exact of_decide_eq_false hg
/-- a number, where the Reader may begin. -/
def NumE (bs : Nat → Nat) (n p : Nat) (fv : Option (Int × Int)) (e : Ending) : Prop :=
  (∃ q, numS bs n p 10 0 0 = .inl q ∧ fv = some q ∧ e = .returned (.tuple #[.int .u64 0, .int .i64 0])) ∨ (∃ x l : Nat, numS bs n p 10 0 0 = .inr (x, l) ∧ fv = none ∧ e = .returned (.tuple #[.int .u64 (x : Int), .int .i64 (l : Int)]))
set_option maxRecDepth 100000 in
set_option maxHeartbeats 8000000 in
theorem number_gen (h : RR N w1 a n cap bs p r none w) (hr : ¬ (r ≠ 0 ∧ bs (p - 1) % 2 ^ r ≠ 0)) :
    Calls Tryd.prog 72 #[.pointer (some ⟨N, 0, none⟩)] w fun e w' => (∃ fv', NumE bs n p fv' e ∧ RR N w1 a n cap bs p r fv' w') ∧ RF N w w' := by
  have hS : Hid _ := starts_ok h hr
  have hnn := h.nb
  have hpp := h.pn
  clear h hr
  go_enter Tryd.func72, Tryd.ntmps72
  go_wp2_with fail
  refine Calls.mono hS.out ?_
  rintro e w2 ⟨rfl, h2, F2⟩
  go_wp2_with fail
  go_loopw [2, 3] (fun v s wr => ∃ k V : Nat, k ≤ 9 ∧ V < 128 ^ k ∧ v = .int .u64 (V : Int) ∧ s = .int .i64 (k : Int) ∧ RR N w1 a n cap bs p r none wr ∧ RF N w wr ∧ numS bs n p (10 - k) k V = numS bs n p 10 0 0) (fun _ s _ => 10 - (intOf s).toNat)
  case atStart => exact ⟨0, 0, by omega, by simp, rfl, rfl, h2, F2, rfl⟩
  case round =>
    clear h2 F2
    obtain ⟨k, V, hk, hV, rfl, rfl, hW, hF, hnum⟩ := hrel
    obtain ⟨f, hf⟩ : ∃ f, 10 - k = f + 1 := ⟨9 - k, by omega⟩
    rw [hf] at hnum
    have hnumH : Hid _ := hnum
    have hH := has_gen hW (k + 1) ((k : Int) + 1) (by omega)
    by_cases hm : n < p + (k + 1)
    · rw [show hasF n p (k + 1) none = some ((n : Int), 30) by simp [hasF, hm]] at hH
      have hHH : Hid _ := hH
      have hres : Hid (numS bs n p 10 0 0 = .inl ((n : Int), 30)) := (by rw [← hnum]; unfold numS; rw [if_pos hm] : numS bs n p 10 0 0 = .inl ((n : Int), 30))
      clear hH hW hnum
      go_wp2_with fail
      refine Calls.mono hHH.out ?_
      rintro e w3 ⟨rfl, h3, F3⟩
      have h3H : Hid _ := h3
      clear h3
      go_wp2_with fail
      simp [bodyPost, results, Tryd.results72, go_sem]
      exact ⟨⟨_, Or.inl ⟨_, hres.out, rfl, rfl⟩, h3H.out⟩, hF.trans F3⟩
    · rw [show hasF n p (k + 1) none = none by simp [hasF, hm]] at hH
      have hHH : Hid _ := hH
      clear hH
      go_wp2_with fail
      refine Calls.mono hHH.out ?_
      rintro e w3 ⟨rfl, h3, F3⟩
      have c0 := h3.c0
      have c1 := h3.c1
      rcases h3.row with h0 | ⟨b, off, rfl, hb, hbN, hB⟩
      · omega
      obtain ⟨q, hq⟩ : ∃ q, q = p + k := ⟨_, rfl⟩
      obtain ⟨hc, hylt⟩ := hB q (by omega)
      obtain ⟨y, hy⟩ : ∃ y, y = bs q := ⟨_, rfl⟩
      rw [← hy] at hc hylt
      have hqI : (p : Int) + (k : Int) = (q : Int) := by omega
      have hq0 : (0 : Int) ≤ (q : Int) := by omega
      have hqn : (q : Int) < (n : Int) := by omega
      obtain ⟨t, ht⟩ : ∃ t, t = 7 * k := ⟨_, rfl⟩
      have htI : (7 : Int) * (k : Int) = (t : Int) := by omega
      have hyp : bs (p + k) = y := by rw [← hq]; exact hy.symm
      unfold numS at hnum
      rw [if_neg hm, hyp] at hnum
      have hnum2 : Hid _ := hnum
      have hFa : Hid (∀ j, Calls Tryd.prog 73 #[.pointer (some ⟨N, 0, none⟩), .int .i64 (q : Int), .int .i64 31] (w3.drewN j) fun ev w' => ev = .returned undef ∧ RR N w1 (some ⟨b, off, none⟩) n cap bs p r (some ((q : Int), 31)) w' ∧ RF N (w3.drewN j) w') := fun j => fail_any (h3.drewN j) _ 31 rfl
      have hFF : RF N w w3 := hF.trans F3
      have h3H : Hid _ := h3
      have hqH : Hid _ := hq
      clear hB h3 hq hy hnum hnumH hHH hyp hW F3 hF
      go_wp2_with fail
      go_quiet (fail)
      by_cases hbad : (k = 9 ∧ 1 < y) ∨ (0 < k ∧ y = 0)
      · have hres : Hid (numS bs n p 10 0 0 = .inl ((q : Int), 31)) := (by
          have h7 := hnum2.out
          rw [if_pos hbad] at h7
          refine h7.symm.trans ?_
          rw [hqH.out] : numS bs n p 10 0 0 = .inl ((q : Int), 31))
        clear hnum2
        by_cases hk9 : k = 9
        · have hqI9 : (p : Int) + 9 = (q : Int) := by omega
          have hk9I : (k : Int) = 9 := by omega
          rcases Nat.lt_or_ge 1 y with hy1 | hy1
          · have hy1I : (1 : Int) < (y : Int) := by omega
            clear hbad hqI htI ht
            go_wp2_with fail
            refine Calls.mono (hFa.out _) ?_
            rintro e w4 ⟨rfl, h4, F4⟩
            have h4H : Hid _ := h4
            clear h4
            go_wp2_with fail
            simp [bodyPost, results, Tryd.results72, go_sem]
            exact ⟨⟨_, Or.inl ⟨_, hres.out, rfl, rfl⟩, h4H.out⟩, (hFF.trans (RF.drewN _ _)).trans F4⟩
          · have hy0 : y = 0 := by omega
            subst hy0
            clear hbad hqI htI ht
            go_wp2_with fail
            refine Calls.mono (hFa.out _) ?_
            rintro e w4 ⟨rfl, h4, F4⟩
            have h4H : Hid _ := h4
            clear h4
            go_wp2_with fail
            simp [bodyPost, results, Tryd.results72, go_sem]
            exact ⟨⟨_, Or.inl ⟨_, hres.out, rfl, rfl⟩, h4H.out⟩, (hFF.trans (RF.drewN _ _)).trans F4⟩
        · have hkI : ¬ (k : Int) = 9 := by omega
          have hk0 : (0 : Int) < (k : Int) := by omega
          have hk0' : 0 < k := by omega
          have hy0 : y = 0 := by omega
          subst hy0
          clear hbad htI ht hk9
          go_wp2_with fail
          refine Calls.mono (hFa.out _) ?_
          rintro e w4 ⟨rfl, h4, F4⟩
          have h4H : Hid _ := h4
          clear h4
          go_wp2_with fail
          simp [bodyPost, results, Tryd.results72, go_sem]
          exact ⟨⟨_, Or.inl ⟨_, hres.out, rfl, rfl⟩, h4H.out⟩, (hFF.trans (RF.drewN _ _)).trans F4⟩
      · have hyc : Hid ((k ≠ 9 ∨ y = 1) ∧ (k = 0 ∨ 1 ≤ y)) := (by omega : (k ≠ 9 ∨ y = 1) ∧ (k = 0 ∨ 1 ≤ y))
        have hnum3 := hnum2.out
        rw [if_neg hbad] at hnum3
        clear hnum2 hbad
        obtain ⟨Y, hY⟩ : ∃ Y, Y = y % 128 := ⟨_, rfl⟩
        have hYlt : Y < 128 := by rw [hY]; exact Nat.mod_lt _ (by omega)
        obtain ⟨D, hD⟩ : ∃ D, D = Y * 2 ^ t := ⟨_, rfl⟩
        have hDk : Y * 128 ^ k = D := by rw [hD, ht, p128]
        have hpk : 128 ^ k = 2 ^ t := by rw [ht, p128]
        have hDlt : V + D < 18446744073709551616 ∧ (V + D < 128 ^ (k + 1)) := by
          have hle : Y * 128 ^ k ≤ 127 * 128 ^ k := Nat.mul_le_mul_right _ (by omega)
          have h2 : V + D < 128 ^ (k + 1) := by rw [← hDk, Nat.pow_succ]; omega
          refine ⟨?_, h2⟩
          by_cases h9 : k = 9
          · have hy1 : y = 1 := by have := hyc.out.1; omega
            have hY1 : Y = 1 := by rw [hY, hy1]
            subst h9
            rw [hY1] at hDk
            omega
          · have h11 : 128 ^ (k + 1) ≤ 128 ^ 9 := Nat.pow_le_pow_right (by omega) (by omega)
            omega
        rw [← hY, hDk] at hnum3
        obtain ⟨V2, hV2⟩ : ∃ V2, V2 = V + D := ⟨_, rfl⟩
        rw [← hV2] at hnum3 hDlt
        have hand : bits .and .u8 (y : Int) 127 = (Y : Int) := by
          have h7 := u8_and_nat y 127 hylt (by omega)
          rw [show (127 : Nat) = 2 ^ 7 - 1 from rfl, Nat.and_two_pow_sub_one_eq_mod] at h7
          rw [hY]; exact h7
        have hshl : IntKind.u64.wrap ((Y : Int) * 2 ^ t) = (D : Int) := by
          rw [show ((Y : Int) * 2 ^ t) = (D : Int) by rw [hD]; simp, IntKind.wrap_u64]; omega
        have hor : bits .or .u64 (V : Int) (D : Int) = (V2 : Int) := by
          rw [u64_or_nat V D (by omega) (by omega), hV2]
          have h5 := Nat.two_pow_add_eq_or_of_lt (i := t) (b := V) (by rw [← hpk]; exact hV) Y
          rw [Nat.mul_comm, ← hD] at h5
          rw [Nat.or_comm, ← h5, Nat.add_comm]
        have htH : Hid _ := ht
        have hs9 : Hid (k = 9 → bits .or .u64 (V : Int) (IntKind.u64.wrap ((Y : Int) * 9223372036854775808)) = (V2 : Int)) := fun h9 => by
          have ht63 : t = 63 := by have := htH.out; omega
          have hs : IntKind.u64.wrap ((Y : Int) * 9223372036854775808) = (D : Int) := by have h := hshl; rw [ht63] at h; exact h
          rw [hs]; exact hor
        have hwY : IntKind.u64.wrap (Y : Int) = (Y : Int) := by rw [IntKind.wrap_u64]; omega
        have hyI0 : (0 : Int) ≤ (y : Int) := by omega
        have hDl2 : Hid _ := hDlt.2
        rcases Nat.lt_or_ge y 128 with e1 | e1
        · have e1I : (y : Int) < 128 := by omega
          have hres : Hid (numS bs n p 10 0 0 = .inr (V2, k + 1)) := (by have h7 := hnum3; rw [if_pos e1] at h7; exact h7.symm : numS bs n p 10 0 0 = .inr (V2, k + 1))
          clear hnum3 hDlt hV2 hD hDk hpk hY ht hV
          go_wp2_with fail
          all_goals first
            | (exfalso; have := hyc.out; omega)
            | (exfalso; have := hyc.out; simp only [beq_iff_eq] at *; omega)
            | (simp [bodyPost, results, Tryd.results72, go_sem]; exact ⟨⟨none, Or.inr ⟨V2, k + 1, hres.out, rfl, rfl⟩, h3H.out.drewN _⟩, hFF.trans (RF.drewN _ _)⟩)
            | (simp [bodyPost, results, Tryd.results72, go_sem]; rw [hs9.out (by omega)]; exact ⟨⟨none, Or.inr ⟨V2, k + 1, hres.out, rfl, by rw [show (((k + 1 : Nat) : Int)) = 10 by omega]⟩, h3H.out.drewN _⟩, hFF.trans (RF.drewN _ _)⟩)

        · have e1I : ¬ (y : Int) < 128 := by omega
          have hk8 : k ≤ 8 := by have := hyc.out; omega
          have hres : Hid (numS bs n p f (k + 1) V2 = numS bs n p 10 0 0) := (by have h7 := hnum3; rw [if_neg (by omega)] at h7; exact h7 : numS bs n p f (k + 1) V2 = numS bs n p 10 0 0)
          have hf9 : Hid (10 - (k + 1) = f) := (by omega : 10 - (k + 1) = f)
          clear hnum3 hDlt hV2 hD hDk hpk hY ht hV
          go_wp2_with fail
          all_goals first
            | (exfalso; have := hyc.out; omega)
            | (exfalso; have := hyc.out; simp only [beq_iff_eq] at *; omega)
            | (go_roundw; exact ⟨k + 1, V2, by omega, hDl2.out, rfl, by go_num, h3H.out.drewN _, hFF.trans (RF.drewN _ _), by rw [hf9.out]; exact hres.out⟩; (simp [intOf]; omega))

end
end Go.Proofs.YtfijagdbdbbbpaaDoor

namespace Go.Proofs.YtfijagdbdbbbpaaDoor
open Go.RowKit
set_option linter.unusedVariables false
set_option linter.unusedSimpArgs false
/-- what number tells, wherever the Reader stands. -/
def NumG (bs : Nat → Nat) (n p r : Nat) (fv fv' : Option (Int × Int)) (e : Ending) : Prop :=
  (startF bs p r fv ≠ none ∧ fv' = startF bs p r fv ∧ e = .returned (.tuple #[.int .u64 0, .int .i64 0])) ∨ (startF bs p r fv = none ∧ NumE bs n p fv' e)
section
variable {N : Nat} {w1 : World} {a : Option Addr} {n cap p r : Nat} {bs : Nat → Nat} {fv : Option (Int × Int)} {w : World}
set_option maxRecDepth 100000 in
theorem number_all (h : RR N w1 a n cap bs p r fv w) : Calls Tryd.prog 72 #[.pointer (some ⟨N, 0, none⟩)] w fun e w' => (∃ fv', NumG bs n p r fv fv' e ∧ RR N w1 a n cap bs p r fv' w') ∧ RF N w w' := by
  cases hs : startF bs p r fv with
  | some x =>
    have hS := starts_gen h
    rw [hs] at hS
    have hSH : Hid _ := hS
    have hsH : Hid _ := hs
    clear hS h hs
    go_enter Tryd.func72, Tryd.ntmps72
    go_wp2_with fail
    refine Calls.mono hSH.out ?_
    rintro e w2 ⟨rfl, h2, F2⟩
    have h2H : Hid _ := h2
    clear h2
    go_wp2_with fail
    simp [bodyPost, results, Tryd.results72, go_sem]
    exact ⟨⟨some x, Or.inl ⟨by rw [hsH.out]; simp, hsH.out.symm, rfl⟩, h2H.out⟩, F2⟩
  | none =>
    obtain ⟨rfl, hng⟩ := startF_none hs
    refine (number_gen h hng).mono ?_
    rintro e w' ⟨⟨fv', h1, h2⟩, F⟩
    exact ⟨⟨fv', Or.inr ⟨hs, h1⟩, h2⟩, F⟩
theorem numS_len {bs : Nat → Nat} {n p x l : Nat} (hbs : ∀ i, i < n → bs i < 256) (h : numS bs n p 10 0 0 = .inr (x, l)) : l = (uB x).length ∧ p + l ≤ n ∧ x < 18446744073709551616 ∧ ∀ i, i < (uB x).length → bs (p + i) = (uB x).getD i 0 := by
  obtain ⟨X, hx, hl, hn, hb, _, hxx, hX⟩ := numS_ok bs n p hbs 10 0 0 x l rfl (by omega) h
  obtain rfl : x = X := by simpa using hx
  have hu : uBf 9 x = uB x := (uBf_more 9 x hX).symm
  rw [show 10 - 1 = 9 from rfl, hu] at hl hb
  exact ⟨by omega, hn, hxx, fun i hi => by have := hb i hi; rw [Nat.add_zero] at this; exact this⟩
/-- what Uint tells. -/
def UintG (bs : Nat → Nat) (n p r M : Nat) (fv : Option (Int × Int)) (p' r' : Nat) (fv' : Option (Int × Int)) (v : Nat) : Prop :=
  (startF bs p r fv ≠ none ∧ fv' = startF bs p r fv ∧ v = 0 ∧ p' = p ∧ r' = r) ∨
  (startF bs p r fv = none ∧ ((∃ q, numS bs n p 10 0 0 = .inl q ∧ fv' = some q ∧ v = 0 ∧ p' = p ∧ r' = r) ∨
    (∃ x l, numS bs n p 10 0 0 = .inr (x, l) ∧ ((M < x ∧ fv' = some ((p : Int), 2) ∧ v = 0 ∧ p' = p ∧ r' = r) ∨ (x ≤ M ∧ fv' = none ∧ v = x ∧ p' = p + l ∧ r' = 0)))))
set_option maxRecDepth 100000 in
set_option maxHeartbeats 1000000 in
theorem rUint_gen (h : RR N w1 a n cap bs p r fv w) (M : Nat) : Calls Tryd.prog 30 #[.pointer (some ⟨N, 0, none⟩), .int .u64 (M : Int)] w fun e w' => (∃ p' r' fv' v, UintG bs n p r M fv p' r' fv' v ∧ e = .returned (.int .u64 (v : Int)) ∧ RR N w1 a n cap bs p' r' fv' w') ∧ RF N w w' := by
  have h256 := h.bytes256
  have hS : Hid _ := number_all h
  have hM0 : ¬ (M : Int) < 0 := by omega
  clear h
  go_enter Tryd.func30, Tryd.ntmps30
  go_wp2_with fail
  refine Calls.mono hS.out ?_
  rintro e w2 ⟨⟨fv', hG, h2⟩, F2⟩
  rcases hG with ⟨g1, g2, rfl⟩ | ⟨g1, ⟨q, g2, g3, rfl⟩ | ⟨x, l, g2, g3, rfl⟩⟩
  · have h2H : Hid _ := h2
    have hg : Hid _ := And.intro g1 g2
    clear h2 g1 g2
    go_wp2_with fail
    go_ret
    exact ⟨⟨p, r, fv', 0, Or.inl ⟨hg.out.1, hg.out.2, rfl, rfl, rfl⟩, rfl, h2H.out⟩, F2⟩
  · have h2H : Hid _ := h2
    have hg : Hid _ := And.intro g1 (And.intro g2 g3)
    clear h2 g1 g2 g3
    go_wp2_with fail
    go_ret
    exact ⟨⟨p, r, fv', 0, Or.inr ⟨hg.out.1, Or.inl ⟨q, hg.out.2.1, hg.out.2.2, rfl, rfl, rfl⟩⟩, rfl, h2H.out⟩, F2⟩
  · subst g3
    obtain ⟨hl, hn, hxx, _⟩ := numS_len h256 g2
    have hl0 : 0 < l := by rw [hl]; exact uBf_pos 10 x
    have hlI : (0 : Int) < (l : Int) := by omega
    have hg : Hid _ := And.intro g1 g2
    by_cases hMx : M < x
    · have hMI : (M : Int) < (x : Int) := by omega
      have c1 := h2.c1
      have hFa : Hid _ := fail_any h2 (p : Int) 2 rfl
      clear h2 g1 g2 hl
      go_wp2_with fail
      refine Calls.mono hFa.out ?_
      rintro e w3 ⟨rfl, h3, F3⟩
      have h3H : Hid _ := h3
      clear h3
      go_wp2_with fail
      go_ret
      exact ⟨⟨p, r, some ((p : Int), 2), 0, Or.inr ⟨hg.out.1, Or.inr ⟨x, l, hg.out.2, Or.inl ⟨hMx, rfl, rfl, rfl, rfl⟩⟩⟩, rfl, h3H.out⟩, F2.trans F3⟩
    · have hMI : ¬ (M : Int) < (x : Int) := by omega
      have hP : Hid _ := pass_any h2 l (l : Int) rfl hn
      clear h2 g1 g2 hl
      go_wp2_with fail
      refine Calls.mono hP.out ?_
      rintro e w3 ⟨rfl, h3, F3⟩
      have h3H : Hid _ := h3
      clear h3
      go_wp2_with fail
      go_ret
      exact ⟨⟨p + l, 0, none, x, Or.inr ⟨hg.out.1, Or.inr ⟨x, l, hg.out.2, Or.inr ⟨by omega, rfl, rfl, rfl, rfl⟩⟩⟩, rfl, h3H.out⟩, F2.trans F3⟩
end
end Go.Proofs.YtfijagdbdbbbpaaDoor

namespace Go.Proofs.YtfijagdbdbbbpaaDoor
open Go.RowKit
set_option linter.unusedVariables false
set_option linter.unusedSimpArgs false
section
variable {N : Nat} {w1 : World} {a : Option Addr} {n cap p r : Nat} {bs : Nat → Nat} {fv : Option (Int × Int)} {w : World}
theorem QR.after (h : QR N w1 a n cap bs p r fv w) {w' : World} (hb : Below w.heap.size w w') : QR N w1 a n cap bs p r fv w' ∧ RF N w w' := ⟨h.below hb, RF.below hb⟩
end
end Go.Proofs.YtfijagdbdbbbpaaDoor

namespace Go.Proofs.YtfijagdbdbbbpaaDoor
open Go.RowKit
set_option linter.unusedVariables false
set_option linter.unusedSimpArgs false
/-- the first k of four bytes. -/
def u32Q (bs : Nat → Nat) (i : Nat) : Nat → Nat
  | 0 => 0
  | k + 1 => u32Q bs i k * 256 + bs (i + k)
theorem u32Q_lt (bs : Nat → Nat) (i k : Nat) (h : ∀ j, j < i + k → bs j < 256) : u32Q bs i k < 256 ^ k := by
  induction k with
  | zero => simp [u32Q]
  | succ k ih =>
    have h1 := ih fun j hj => h j (by omega)
    have h2 := h (i + k) (by omega)
    simp only [u32Q, Nat.pow_succ]; omega
theorem u32Q_4 (bs : Nat → Nat) (i : Nat) : u32Q bs i 4 = u32At bs i := by simp only [u32Q, u32At, Nat.add_zero]; omega
section
variable {N : Nat} {w1 : World} {a : Option Addr} {n cap p r : Nat} {bs : Nat → Nat} {fv : Option (Int × Int)} {w : World}
theorem QR.bytes256 (h : QR N w1 a n cap bs p r fv w) : ∀ i, i < n → bs i < 256 := by
  rcases h.row with h0 | ⟨b, off, _, _, _, hB⟩
  · intro i hi; omega
  · exact fun i hi => (hB i hi).2
/-- what the document's number tells. -/
def NumD (bs : Nat → Nat) (n p r M : Nat) (above : Int) (fv fv' : Option (Int × Int)) (v l : Nat) : Prop :=
  (startF bs p r fv ≠ none ∧ fv' = startF bs p r fv ∧ v = 0 ∧ l = 0) ∨
  (startF bs p r fv = none ∧ ((∃ q, numS bs n p 10 0 0 = .inl q ∧ fv' = some q ∧ v = 0 ∧ l = 0) ∨
    (∃ x k, numS bs n p 10 0 0 = .inr (x, k) ∧ ((M < x ∧ fv' = some ((p : Int), above) ∧ v = 0 ∧ l = 0) ∨ (x ≤ M ∧ fv' = none ∧ v = x ∧ l = k)))))
theorem beginF_zero (hp : p ≤ n) : beginF bs n p r 0 fv = startF bs p r fv := by
  unfold beginF
  cases h : startF bs p r fv with
  | some x => rfl
  | none => simp [hasF]; omega
end
end Go.Proofs.YtfijagdbdbbbpaaDoor
