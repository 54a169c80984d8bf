
import Derived.Test.YtkcpiplifibpkaaDoorOnD
import Derived.Test.YtkcpiplifibpkaaDoorBkX
import Derived.Test.YtkcpiplifibpkaaDoorOnR
import Derived.Deep.RegionHeld3
import Derived.Deep.Cut
namespace Go.Proofs.YtkcpiplifibpkaaDoor
open Go.RowKit
set_option linter.unusedVariables false
set_option linter.unusedSimpArgs false
theorem ON.start {w w2 : World} {N : Nat} {ra : Option Addr} {rcap : Nat} {L : List Nat} (hN : w.heap.size ≤ N) (hRR : RR N w2 ra L.length rcap (natsOf L) 0 0 none w2) (hB : Below w.heap.size w w2) :
    ON w N w2.heap.size ra rcap L 0 (w2.alloc (.cells #[.slice none 0 0, .int .i64 0] 26)) := by
  have hb : Below w2.heap.size w2 (w2.alloc (.cells #[.slice none 0 0, .int .i64 0] 26)) := below_new (Below.refl _ _) _
  refine ⟨0, 0, none, [], 0, .slice none 0 0, ⟨(hRR.below hb).here, by omega, ⟨by simp [go_sem], by simp [go_sem], by simp [go_sem], by simp [go_sem], World.ownsRow_nil _ _ _ _, Below.refl _ _, by simp⟩, ⟨by omega, by simp, by simp⟩, hN, hRR.sz, ?_, below_then hB hb⟩, fun _ => ⟨by omega, by simp [nbits], fun q hq => by simp [nbits] at hq⟩, by simp⟩
  rcases hRR.row with h0 | ⟨b, off, e, h1, _⟩
  · exact Or.inl h0
  · exact Or.inr ⟨b, off, e, h1⟩
theorem ON.nN {w : World} {N M : Nat} {a : Option Addr} {cap : Nat} {L : List Nat} {k : Nat} {wr : World} (h : ON w N M a cap L k wr) : N < wr.heap.size := by
  obtain ⟨p, r, fv, l, b, v, h1, h2, h3⟩ := h
  exact h1.rd.sz
theorem ON.next {w : World} {N M : Nat} {a : Option Addr} {cap : Nat} {L : List Nat} {k : Nat} {wr : World} (h : ON w N M a cap L k wr) : ON w N M a cap L (k + 1) wr := by
  obtain ⟨p, r, fv, l, b, v, h1, h2, h3⟩ := h
  exact ⟨p, r, fv, l, b, v, h1, h2, by omega⟩
/-- beside them a row that is no part of either. -/
def OZ (w : World) (N M : Nat) (a : Option Addr) (cap : Nat) (L : List Nat) (k z : Nat) (wr : World) : Prop :=
  ∃ p r fv l b v, OS w N M a cap L p r fv l b v wr ∧ (fv = none → PW L l b p r) ∧ l.length ≤ L.length + 75 * k ∧ z < wr.heap.size ∧ z ≠ M ∧ some z ≠ v.ownBlock
theorem OZ.below {w : World} {N M : Nat} {a : Option Addr} {cap : Nat} {L : List Nat} {k z : Nat} {wr : World} (h : OZ w N M a cap L k z wr) {w' : World} (hb : Below wr.heap.size wr w') : OZ w N M a cap L k z w' := by
  obtain ⟨p, r, fv, l, b, v, h1, h2, h3, h4, h5, h6⟩ := h
  exact ⟨p, r, fv, l, b, v, h1.below hb, h2, h3, by have := hb.size; omega, h5, h6⟩
theorem ON.new {w : World} {N M : Nat} {a : Option Addr} {cap : Nat} {L : List Nat} {k : Nat} {wr : World} (h : ON w N M a cap L k wr) {w' : World} (hb : Below wr.heap.size wr w') (hs : wr.heap.size < w'.heap.size) : OZ w N M a cap L k wr.heap.size w' := by
  obtain ⟨p, r, fv, l, b, v, h1, h2, h3⟩ := h
  exact ⟨p, r, fv, l, b, v, h1.below hb, h2, h3, hs, by have := h1.wt.sz; omega, fun e => by have := own_lt h1.wt.own e.symm; omega⟩
theorem only_bitsZ {w : World} {N M : Nat} {a : Option Addr} {cap : Nat} {L : List Nat} {k z : Nat} {wr : World} (h : OZ w N M a cap L k z wr) (hb : L.length + L.length + 75 * k + 200 ≤ 140737488355327) (X : Int) :
    Calls Tryd.prog 33 #[.pointer (some ⟨N, 0, none⟩), .int .i64 X] wr fun e w2 => ∃ x : Int, e = .returned (.int .u64 x) ∧ RF N wr w2 ∧ Below w.heap.size w w2 ∧ ∀ w3, Below w2.heap.size w2 w3 → Calls Tryd.prog 41 #[.pointer (some ⟨M, 0, none⟩), .int .u64 x, .int .i64 X] w3 fun e w4 => e = .returned undef ∧ ON w N M a cap L (k + 1) w4 ∧ z < w4.heap.size ∧ ∀ j, w4.cell? ⟨z, j, none⟩ = w3.cell? ⟨z, j, none⟩ := by
  obtain ⟨p, r, fv, l, b, v, hS, hP, hl, hz1, hz2, hz3⟩ := h
  have hF1 := hz1
  have hrp := hS.rd.rp
  have hr8 := hS.r8
  have hle := broughtN_le X
  have hp64 : 2 ^ broughtN X ≤ 2 ^ 64 := Nat.pow_le_pow_right (by omega) hle
  have h64 : (2 : Nat) ^ 64 = 18446744073709551616 := by decide
  refine (rBits_gen hS.rd hS.r8 X).mono ?_
  rintro e w2 ⟨⟨p', r', fv', x, hG, rfl, hR⟩, F⟩
  have hx : x < 18446744073709551616 ∧ r' < 8 := by
    rcases hG with ⟨_, _, rfl, _, rfl⟩ | ⟨_, _, _, rfl, _, rfl⟩ | ⟨_, _, _, rfl, hr', _⟩
    · exact ⟨by omega, hr8⟩
    · exact ⟨by omega, hr8⟩
    · exact ⟨by have := rdB_lt (natsOf L) (8 * p - r) (broughtN X); omega, hr'⟩
  have h2 := hS.read hR F hx.2
  refine ⟨_, rfl, F, h2.bb, fun w3 hB => ?_⟩
  have h3 := h2.below hB
  refine (wbits_fr M _ b v l w3 h3.wt h3.cl x hx.1 X (by omega)).mono ?_
  rintro e w4 ⟨rfl, v', hW, F4, hC4⟩
  have hlen := bitsOn_len x (broughtN X) (l, b)
  simp only at hlen
  have h4 := h3.wrote hW rfl F4 hC4
  have hzw : z < w3.heap.size := by have := F.size; have := hB.size; omega
  refine ⟨rfl, ⟨p', r', fv', _, _, v', h4, ?_, by omega⟩, by have := F4.size; omega, fun j => F4.cell hzw hz2 hz3⟩
  intro e
  rcases hG with ⟨hf, rfl, _⟩ | ⟨_, _, rfl, _⟩ | ⟨hf, _, _, rfl, hr', hp'⟩
  · exact absurd e hf
  · cases e
  · have hPW := hP hf
    have e1 : nbits (l, b) = 8 * p - r := by have := hPW.2.1; omega
    rw [← e1] at hp' ⊢
    exact PW.bits hS.cl hPW hr' hp'
/-- what is to be written behind a read of bits. -/
def WN (w : World) (N M : Nat) (a : Option Addr) (cap : Nat) (L : List Nat) (k z : Nat) (X x : Int) (w2 : World) : Prop :=
  ∀ w3, Below w2.heap.size w2 w3 → Calls Tryd.prog 41 #[.pointer (some ⟨M, 0, none⟩), .int .u64 x, .int .i64 X] w3 fun e w4 => e = .returned undef ∧ ON w N M a cap L (k + 1) w4 ∧ z < w4.heap.size ∧ ∀ j, w4.cell? ⟨z, j, none⟩ = w3.cell? ⟨z, j, none⟩
theorem WN.now {w : World} {N M : Nat} {a : Option Addr} {cap : Nat} {L : List Nat} {k z : Nat} {X x : Int} {w2 : World} (h : WN w N M a cap L k z X x w2) :
    Calls Tryd.prog 41 #[.pointer (some ⟨M, 0, none⟩), .int .u64 x, .int .i64 X] w2 fun e w4 => e = .returned undef ∧ ON w N M a cap L (k + 1) w4 ∧ z < w4.heap.size ∧ ∀ j, w4.cell? ⟨z, j, none⟩ = w2.cell? ⟨z, j, none⟩ := h _ (Below.refl _ _)
theorem WN.drew {w : World} {N M : Nat} {a : Option Addr} {cap : Nat} {L : List Nat} {k z : Nat} {X x : Int} {w2 : World} (h : WN w N M a cap L k z X x w2) : WN w N M a cap L k z X x w2.drew :=
  fun w3 hB => h w3 ((Below.refl _ _).drew.trans hB)
theorem keepZ6 {w wx wy : World} {z : Nat} {v0 v1 v2 v3 : Value} (hB : Below w.heap.size w wy) (hz : z < wy.heap.size) (hk : ∀ j, wy.cell? ⟨z, j, none⟩ = wx.cell? ⟨z, j, none⟩) (S : Below w.heap.size w wx ∧ z < wx.heap.size ∧ wx.cell? ⟨z, 0, none⟩ = some v0 ∧ wx.cell? ⟨z, 1, none⟩ = some v1 ∧ wx.cell? ⟨z, 2, none⟩ = some v2 ∧ wx.cell? ⟨z, 3, none⟩ = some v3) :
    Below w.heap.size w wy ∧ z < wy.heap.size ∧ wy.cell? ⟨z, 0, none⟩ = some v0 ∧ wy.cell? ⟨z, 1, none⟩ = some v1 ∧ wy.cell? ⟨z, 2, none⟩ = some v2 ∧ wy.cell? ⟨z, 3, none⟩ = some v3 := by
  obtain ⟨h1, h2, c0, c1, c2, c3⟩ := S
  exact ⟨hB, hz, by rw [hk]; exact c0, by rw [hk]; exact c1, by rw [hk]; exact c2, by rw [hk]; exact c3⟩
set_option maxRecDepth 100000 in
set_option maxHeartbeats 8000000 in
theorem only_walk (ba : Option Addr) (bc : Nat) (L : List Nat) (hL : ∀ y ∈ L, y < 256) (w : World) (hbv : BytesIn w ba L.length (natsOf L)) (hbc : ba = none → bc = 0)
    (a : Option Addr) (len cap : Nat) (o : Ops) (hs : ST w) (hO : OpsAt w a len o) (hOB : ∀ i, i < len → -9223372036854775808 ≤ o.B i ∧ o.B i ≤ 9223372036854775807) (hlen : len ≤ 9223372036854775807) (hb : L.length + L.length + 75 * len + 200 ≤ 140737488355327) :
    Calls Tryd.prog 6 #[.slice ba L.length bc, .slice a len cap] w fun e w' => e = .returned (.bool true) ∧ Below w.heap.size w w' := by
  have hNew : Hid _ := newR_in ba bc L w hbv hbc
  have hOH : Hid _ := hO
  have hOBH : Hid _ := hOB
  have hsH : Hid _ := hs
  have hLH : Hid _ := hL
  have hbvH : Hid (BytesIn w ba L.length (natsOf L)) := hbv
  clear hO hs hL hbv hOB hbc
  go_enter Tryd.func6, Tryd.ntmps6
  go_wp2_with fail
  refine Calls.mono hNew.out ?_
  rintro e w2 ⟨N, ra, rcap, rfl, hN, hRR, hB2⟩
  have hON0 : Hid (ON w N w2.heap.size ra rcap L 0 _) := ON.start hN hRR hB2
  clear hRR hNew hB2
  go_wp2_with fail
  go_loopw [15] (fun i wr => ∃ k : Nat, k ≤ len ∧ i = .int .i64 (k : Int) ∧ ON w N w2.heap.size ra rcap L k wr) (fun i _ => len - (intOf i).toNat)
  case atStart => exact ⟨0, Nat.zero_le _, rfl, hON0.out⟩
  case round =>
    clear hON0
    obtain ⟨M, hM⟩ : ∃ M, M = w2.heap.size := ⟨_, rfl⟩
    rw [← hM] at hrel ⊢
    clear hM
    obtain ⟨k, hk, rfl, hON⟩ := hrel
    by_cases hkl : k < len
    · have hkI : (k : Int) < (len : Int) := by omega
      have k0 : (0 : Int) ≤ (k : Int) := by omega
      rcases hOH.out with h0 | ⟨b, off, rfl, hbk, hc⟩
      · omega
      obtain ⟨⟨c0, c1, c2, c3⟩, hx, hB⟩ := hc k hkl
      have hbb := hON.bb
      have hX := hOBH.out k hkl
      have e0 : wr.cell? ⟨b, off + k * 4, none⟩ = some (.int .i64 (o.K k)) := by rw [hbb.cell (p := ⟨b, off + k * 4, none⟩) hbk]; exact c0
      have e1 : wr.cell? ⟨b, off + k * 4 + 1, none⟩ = some (.int .u64 (o.X k : Int)) := by rw [hbb.cell (p := ⟨b, off + k * 4 + 1, none⟩) hbk]; exact c1
      have e2 : wr.cell? ⟨b, off + k * 4 + 2, none⟩ = some (.int .i64 (o.B k)) := by rw [hbb.cell (p := ⟨b, off + k * 4 + 2, none⟩) hbk]; exact c2
      have e3 : wr.cell? ⟨b, off + k * 4 + 3, none⟩ = some (.slice (o.A k) (o.M k) (o.C k)) := by rw [hbb.cell (p := ⟨b, off + k * 4 + 3, none⟩) hbk]; exact c3
      obtain ⟨wz, hwz⟩ : ∃ wz, wz = wr.alloc (.cells #[.int .i64 (o.K k), .int .u64 (o.X k : Int), .int .i64 (o.B k), .slice (o.A k) (o.M k) (o.C k)] 32) := ⟨_, rfl⟩
      have hBz : Below wr.heap.size wr wz := by rw [hwz]; exact below_new (Below.refl _ _) _
      obtain ⟨z, hz⟩ : ∃ z, z = wr.heap.size := ⟨_, rfl⟩
      have hzN : z ≠ N := by have := hON.nN; omega
      have hONz : ON w N M ra rcap L k wz := hON.below hBz
      have hOZH : Hid (OZ w N M ra rcap L k z wz) := by show OZ w N M ra rcap L k z wz; rw [hz]; exact hON.new hBz (by rw [hwz]; simp)
      have S2a : Below w.heap.size w wz ∧ z < wz.heap.size ∧ wz.cell? ⟨z, 0, none⟩ = some (.int .i64 (o.K k)) ∧ wz.cell? ⟨z, 1, none⟩ = some (.int .u64 (o.X k : Int)) ∧ wz.cell? ⟨z, 2, none⟩ = some (.int .i64 (o.B k)) ∧ wz.cell? ⟨z, 3, none⟩ = some (.slice (o.A k) (o.M k) (o.C k)) :=
        ⟨hONz.bb, by rw [hwz, hz]; simp, by rw [hwz, hz]; simp [go_sem], by rw [hwz, hz]; simp [go_sem], by rw [hwz, hz]; simp [go_sem], by rw [hwz, hz]; simp [go_sem]⟩
      have hwzH : Hid _ := hwz
      have hzH : Hid _ := hz
      have hONzH : Hid (ON w N M ra rcap L k wz) := hONz
      clear c0 c1 c2 c3 hc hON hwz hz hB hBz hbb hONz
      by_cases hk0 : o.K k = 0
      · have hR : Hid _ := fun (w' : World) (h : ON w N M ra rcap L k w') => only_byte h (by omega)
        rw [hk0] at e0 S2a
        rw [hk0] at hwzH
        clear hk0 hx
        go_wp2_with fail
        rw [← hwzH.out]
        refine Calls.mono (hR.out _ hONzH.out) ?_
        rintro e w5 ⟨x, rfl, hFn, hBn, hWn⟩
        have hWnH : Hid _ := hWn _ (Below.refl _ _)
        clear hWn
        go_wp2_with fail
        refine Calls.mono hWnH.out ?_
        rintro e w6 ⟨rfl, hON6⟩
        have hON6H : Hid (ON w N M ra rcap L (k + 1) w6) := hON6
        clear hON6
        go_wp2_with fail
        go_roundw
        case rel => exact ⟨k + 1, by omega, by go_num, hON6H.out⟩
        case measure => simp [intOf]; omega
      by_cases hk1 : o.K k = 1
      · have hR : Hid _ := fun (w' : World) (h : ON w N M ra rcap L k w') => only_fix h (by omega)
        rw [hk1] at e0 S2a
        rw [hk1] at hwzH
        clear hk1 hx
        go_wp2_with fail
        rw [← hwzH.out]
        refine Calls.mono (hR.out _ hONzH.out) ?_
        rintro e w5 ⟨x, rfl, hFn, hBn, hWn⟩
        have hWnH : Hid _ := hWn _ (Below.refl _ _)
        clear hWn
        go_wp2_with fail
        refine Calls.mono hWnH.out ?_
        rintro e w6 ⟨rfl, hON6⟩
        have hON6H : Hid (ON w N M ra rcap L (k + 1) w6) := hON6
        clear hON6
        go_wp2_with fail
        go_roundw
        case rel => exact ⟨k + 1, by omega, by go_num, hON6H.out⟩
        case measure => simp [intOf]; omega
      by_cases hk2 : o.K k = 2
      · have hR : Hid _ := fun (w' : World) (h : ON w N M ra rcap L k w') => only_uint h (by omega) (o.X k)
        rw [hk2] at e0 S2a
        rw [hk2] at hwzH
        clear hk2 hx
        go_wp2_with fail
        rw [← hwzH.out]
        refine Calls.mono (hR.out _ hONzH.out) ?_
        rintro e w5 ⟨x, rfl, hFn, hBn, hWn⟩
        have hWnH : Hid _ := hWn _ (Below.refl _ _)
        clear hWn
        go_wp2_with fail
        refine Calls.mono hWnH.out ?_
        rintro e w6 ⟨rfl, hON6⟩
        have hON6H : Hid (ON w N M ra rcap L (k + 1) w6) := hON6
        clear hON6
        go_wp2_with fail
        go_roundw
        case rel => exact ⟨k + 1, by omega, by go_num, hON6H.out⟩
        case measure => simp [intOf]; omega
      by_cases hk3 : o.K k = 3
      · have hR : Hid _ := fun (w' : World) (h : ON w N M ra rcap L k w') => only_int h (by omega)
        rw [hk3] at e0 S2a
        rw [hk3] at hwzH
        clear hk3 hx
        go_wp2_with fail
        rw [← hwzH.out]
        refine Calls.mono (hR.out _ hONzH.out) ?_
        rintro e w5 ⟨x, rfl, hFn, hBn, hWn⟩
        have hWnH : Hid _ := hWn _ (Below.refl _ _)
        clear hWn
        go_wp2_with fail
        refine Calls.mono hWnH.out ?_
        rintro e w6 ⟨rfl, hON6⟩
        have hON6H : Hid (ON w N M ra rcap L (k + 1) w6) := hON6
        clear hON6
        go_wp2_with fail
        go_roundw
        case rel => exact ⟨k + 1, by omega, by go_num, hON6H.out⟩
        case measure => simp [intOf]; omega
      by_cases hk4 : o.K k = 4
      · have hR : Hid _ := fun (w' : World) (h : ON w N M ra rcap L k w') => only_text h (by omega) (o.B k) hX
        rw [hk4] at e0 S2a
        rw [hk4] at hwzH
        clear hk4 hx
        go_wp2_with fail
        rw [← hwzH.out]
        refine Calls.mono (hR.out _ hONzH.out) ?_
        rintro e w5 ⟨x, rfl, hFn, hBn, hWn⟩
        have hWnH : Hid _ := hWn _ (Below.refl _ _)
        clear hWn
        go_wp2_with fail
        refine Calls.mono hWnH.out ?_
        rintro e w6 ⟨rfl, hON6⟩
        have hON6H : Hid (ON w N M ra rcap L (k + 1) w6) := hON6
        clear hON6
        go_wp2_with fail
        go_roundw
        case rel => exact ⟨k + 1, by omega, by go_num, hON6H.out⟩
        case measure => simp [intOf]; omega
      by_cases hk5 : o.K k = 5
      · have hR : Hid _ := fun (w' : World) (h : ON w N M ra rcap L k w') => only_raw h (by omega) (o.B k) hX
        rw [hk5] at e0 S2a
        rw [hk5] at hwzH
        clear hk5 hx
        go_wp2_with fail
        rw [← hwzH.out]
        refine Calls.mono (hR.out _ hONzH.out) ?_
        rintro e w5 ⟨ra2, rm2, rc2, rfl, hFn, hBn, hWn⟩
        have hWnH : Hid _ := hWn _ (Below.refl _ _)
        clear hWn
        go_wp2_with fail
        refine Calls.mono hWnH.out ?_
        rintro e w6 ⟨rfl, hON6⟩
        have hON6H : Hid (ON w N M ra rcap L (k + 1) w6) := hON6
        clear hON6
        go_wp2_with fail
        go_roundw
        case rel => exact ⟨k + 1, by omega, by go_num, hON6H.out⟩
        case measure => simp [intOf]; omega
      by_cases hk6 : o.K k = 6
      · have hR : Hid _ := fun (w' : World) (h : OZ w N M ra rcap L k z w') => only_bitsZ h (by omega) (o.B k)
        rw [hk6] at e0 S2a
        rw [hk6] at hwzH
        clear hk6 hx
        have S2 : Below w.heap.size w wz ∧ z < wz.heap.size ∧ wz.cell? ⟨z, 0, none⟩ = some (.int .i64 (6)) ∧ wz.cell? ⟨z, 1, none⟩ = some (.int .u64 (o.X k : Int)) ∧ wz.cell? ⟨z, 2, none⟩ = some (.int .i64 (o.B k)) ∧ wz.cell? ⟨z, 3, none⟩ = some (.slice (o.A k) (o.M k) (o.C k)) := S2a
        have S2d : Below w.heap.size w wz.drew ∧ z < wz.drew.heap.size ∧ wz.drew.cell? ⟨z, 0, none⟩ = some (.int .i64 (6)) ∧ wz.drew.cell? ⟨z, 1, none⟩ = some (.int .u64 (o.X k : Int)) ∧ wz.drew.cell? ⟨z, 2, none⟩ = some (.int .i64 (o.B k)) ∧ wz.drew.cell? ⟨z, 3, none⟩ = some (.slice (o.A k) (o.M k) (o.C k)) := ⟨S2.1.drew, S2.2⟩
        have hOZ := hOZH.out
        have hOZd : OZ w N M ra rcap L k z wz.drew := hOZ.below (Below.refl _ _).drew
        clear S2a
        go_wp2_with fail
        rw [← hwzH.out, ← hzH.out]
        go_region_held3 (fun w' => Below w.heap.size w w' ∧ z < w'.heap.size ∧ w'.cell? ⟨z, 0, none⟩ = some (.int .i64 (6)) ∧ w'.cell? ⟨z, 1, none⟩ = some (.int .u64 (o.X k : Int)) ∧ w'.cell? ⟨z, 2, none⟩ = some (.int .i64 (o.B k)) ∧ w'.cell? ⟨z, 3, none⟩ = some (.slice (o.A k) (o.M k) (o.C k))) (first | assumption)
          (first | (go_at_call 33; (with_reducible refine Calls.mono (hR.out _ (by assumption)) ?_); rintro e w' ⟨x, rfl, hFn, hBn, hWn⟩; have SS := keepZ hFn hzN hBn (by assumption); have hWn1 : WN w N M ra rcap L k z (o.B k) x w' := hWn; have hWn2 := hWn1.drew; clear hWn) | (go_at_call 41; (with_reducible refine Calls.mono (WN.now (w := w) (N := N) (a := ra) (cap := rcap) (L := L) (k := k) (z := z) (by assumption)) ?_); rintro e w' ⟨rfl, hON6, hz6, hk6⟩; have SS := keepZ6 (ON.bb hON6) hz6 hk6 (by assumption); clear hz6 hk6))
        all_goals
          go_wp2_with fail
          all_goals first
            | (rename_i hbad; simp at hbad; done)
            | (go_roundw; exact ⟨k + 1, by omega, by go_num, (by assumption : ON w N M ra rcap L (k + 1) _)⟩; (simp [intOf]; omega))
      have hON6H : Hid (ON w N M ra rcap L (k + 1) wz) := hONzH.out.next
      clear hONzH
      go_wp2_with fail
      rw [← hwzH.out]
      go_roundw
      case rel => exact ⟨k + 1, by omega, by go_num, hON6H.out⟩
      case measure => simp [intOf]; omega
    · obtain rfl : len = k := by omega
      have hbb := hON.bb
      have hLi : Hid _ := live_wire wr (ST_below hsH.out hbb)
      have hDo : Hid (∀ w', ON w N M ra rcap L len w' → _) := fun w' h => only_done h hLH.out (by omega)
      have hONH : Hid (ON w N M ra rcap L len wr) := hON
      have hBv : Hid (∀ w', Below w.heap.size w w' → BytesIn w' ba L.length (natsOf L)) := fun w' hB => hbvH.out.below hB
      clear hkl hk hOH hON hbvH hOBH
      go_wp2_with fail
      refine Calls.mono hLi.out ?_
      rintro e w4 ⟨rfl, BB⟩
      have hDoH : Hid _ := hDo.out _ (hONH.out.below BB)
      clear hDo hLi
      go_wp2_with fail
      refine Calls.mono hDoH.out ?_
      rintro e w5 ⟨f, rfl, hB5, hf⟩
      cases f with
      | some x =>
        obtain ⟨x1, x2⟩ := x
        clear hf hDoH
        simp only [fvV]
        go_wp2_with fail
        go_ret
        exact ⟨rfl, hB5⟩
      | none =>
        have hBy : Hid _ := hf rfl w5 (Below.refl _ _)
        simp only [fvV]
        clear hf hDoH
        go_wp2_with fail
        refine Calls.mono hBy.out ?_
        rintro e w6 ⟨ga, gc, rfl, hin, hB6⟩
        have hP6 := below_then hB5 hB6
        have hin2 := hBv.out w6 hP6
        have hSa : Hid _ := same_in ga ba L.length gc bc (natsOf L) w6 hin hin2
        clear hBy hBv hin hin2
        go_wp2_with fail
        refine Calls.mono hSa.out ?_
        rintro e w7 ⟨rfl, hB7⟩
        go_wp2_with fail
        go_ret
        exact ⟨rfl, below_then hP6 hB7⟩
end Go.Proofs.YtkcpiplifibpkaaDoor
