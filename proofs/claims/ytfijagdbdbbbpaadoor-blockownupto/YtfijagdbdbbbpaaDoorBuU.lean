
import Derived.Test.YtfijagdbdbbbpaaDoorBuT
import Derived.Test.YtfijagdbdbbbpaaDoorBuM
import Derived.Test.YtfijagdbdbbbpaaDoorBuN
import Derived.BigQuiet
import Derived.Test.YtfijagdbdbbbpaaDoorUvDq
namespace Go.Proofs.YtfijagdbdbbbpaaDoor
open Go.RowKit
set_option linter.unusedVariables false
set_option linter.unusedSimpArgs false
/-- bytes in a row that is new. -/
def Fresh (B m : Nat) (a : Option Addr) (f : Nat → Nat) (w : World) : Prop := m ≤ 140737488355327 ∧ (m = 0 ∨ ∃ g, a = some ⟨g, 0, none⟩ ∧ B ≤ g ∧ g < w.heap.size ∧ BytesAt w g 0 m f)
theorem Fresh.inn {B m : Nat} {a : Option Addr} {f : Nat → Nat} {w : World} (h : Fresh B m a f w) : BytesIn w a m f := by
  obtain ⟨h1, h0 | ⟨g, e, hB, hg, hb⟩⟩ := h
  · exact ⟨h1, Or.inl h0⟩
  · exact ⟨h1, Or.inr ⟨g, 0, e, hg, hb⟩⟩
theorem Fresh.rf {B M m : Nat} {a : Option Addr} {f : Nat → Nat} {w w' : World} (h : Fresh B m a f w) (F : RF M w w') (hM : M < B) : Fresh B m a f w' := by
  obtain ⟨h1, h0 | ⟨g, e, hB, hg, hb⟩⟩ := h
  · exact ⟨h1, Or.inl h0⟩
  · exact ⟨h1, Or.inr ⟨g, e, hB, Nat.lt_of_lt_of_le hg F.size, fun i hi => by have := hb i hi; rw [World.cell?_of_block (w := w) (F.keep g hg (by omega))]; exact this⟩⟩
theorem Fresh.below {B m : Nat} {a : Option Addr} {f : Nat → Nat} {w w' : World} (h : Fresh B m a f w) (hb : Below w.heap.size w w') : Fresh B m a f w' := by
  obtain ⟨h1, h0 | ⟨g, e, hB, hg, hb2⟩⟩ := h
  · exact ⟨h1, Or.inl h0⟩
  · exact ⟨h1, Or.inr ⟨g, e, hB, Nat.lt_of_lt_of_le hg hb.size, hb2.below hb hg⟩⟩
theorem clone_fresh (b o m c : Nat) (bs : Nat → Nat) (w : World) (h : BytesIn w (some ⟨b, o, none⟩) m bs) : Calls Tryd.prog 67 #[.slice (some ⟨b, o, none⟩) m c] w fun e w' => (∃ g c', e = .returned (.slice (some ⟨g, 0, none⟩) m c') ∧ Fresh w.heap.size m (some ⟨g, 0, none⟩) bs w') ∧ Below w.heap.size w w' := by
  rcases Nat.eq_zero_or_pos m with h0 | h0
  · subst h0
    refine (clone_none4 b o c w).mono ?_
    rintro e w' ⟨⟨g, c', rfl, _, _⟩, hB⟩
    exact ⟨⟨g, c', rfl, by omega, Or.inl rfl⟩, hB⟩
  · rcases h.2 with h1 | ⟨b', o', e, hb, hB⟩
    · omega
    injection e with e; injection e with e1 e2; subst e1 e2
    have hlt : ∀ i, i < m → bs i < 256 := fun i hi => (hB i hi).2
    have hm := h.1
    have hN : BytesAt w b o (bytesL bs m).length (natsOf (bytesL bs m)) := by
      intro i hi
      have hi' : i < m := by simpa [bytesL] using hi
      rw [nats_bytesL bs m i hi']; exact hB i hi'
    have hbl : (bytesL bs m).length = m := by simp [bytesL]
    refine (clone_any b o m c (enc (bytesL bs m)) w (by rw [enc_len, hbl]) (bytes_news hN) (enc_one _) h0 (by omega)).mono ?_
    rintro e w' ⟨g', cap', rfl, ho, hBe⟩
    refine ⟨⟨g', cap', rfl, h.1, Or.inr ⟨g', rfl, (ho.lt g' rfl).1, (ho.lt g' rfl).2, fun i hi => ?_⟩⟩, hBe⟩
    have := bytes_own ho (bytesL_lt hlt) i hi
    rw [nats_bytesL bs m i hi] at this
    exact this
section
variable {N : Nat} {w1 : World} {a : Option Addr} {n cap p r : Nat} {bs : Nat → Nat} {fv : Option (Int × Int)} {w : World}
set_option maxRecDepth 100000 in
theorem rRaw_fresh (h : RR N w1 a n cap bs p r fv w) (most : Int) (hmost : -9223372036854775808 ≤ most ∧ most ≤ 9223372036854775807) :
    Calls Tryd.prog 34 #[.pointer (some ⟨N, 0, none⟩), .int .i64 most] w fun e w' => (∃ p' r' fv' q m a' c, PieceG bs n p r most fv p' r' fv' q m ∧ e = .returned (.slice a' m c) ∧ Fresh w.heap.size m a' (fun i => bs (q + i)) w' ∧ (a' = none → c = 0) ∧ RR N w1 a n cap bs p' r' fv' w') ∧ RF N w w' := by
  have hS : Hid _ := piece_gen h most hmost
  clear h
  go_enter Tryd.func34, Tryd.ntmps34
  go_wp2_with fail
  refine Calls.mono hS.out ?_
  rintro e w2 ⟨⟨p', r', fv', q, m, v, hG, rfl, hv, h2⟩, F2⟩
  rcases hv with ⟨hf, rfl⟩ | ⟨hf, hv, hqm⟩
  · have hm0 : m = 0 := by
      rcases hG with ⟨_, _, rfl, _⟩ | ⟨_, ⟨_, _, _, rfl, _⟩ | ⟨_, _, _, ⟨_, _, rfl, _⟩ | ⟨_, _, _, rfl, _⟩ | ⟨_, _, e, _⟩⟩⟩
      · rfl
      · rfl
      · rfl
      · rfl
      · exact absurd e hf
    subst hm0
    have h2H : Hid _ := h2
    have hGH : Hid (PieceG bs n p r most fv p' r' fv' q 0) := hG
    clear h2 hG
    go_wp2_with fail
    refine (clone_nil _).mono ?_
    rintro e w3 ⟨rfl, hw⟩
    have hw' := hw.symm
    subst hw'
    clear hw
    go_wp2_with fail
    go_ret
    exact ⟨⟨p', r', fv', q, 0, none, 0, hGH.out, rfl, ⟨by omega, Or.inl rfl⟩, fun _ => rfl, h2H.out⟩, F2⟩
  · subst hf
    obtain ⟨b, o, c, rfl, hin⟩ := hv.bytes h2 hqm
    have hC : Hid _ := clone_fresh b o m c _ w2 hin
    have h2H : Hid _ := h2
    have hGH : Hid (PieceG bs n p r most fv p' r' none q m) := hG
    clear h2 hin hv hG
    go_wp2_with fail
    refine Calls.mono hC.out ?_
    rintro e w3 ⟨⟨a', c', rfl, hin'⟩, hB⟩
    have hin2 : Hid _ := hin'
    clear hin'
    go_wp2_with fail
    go_ret
    refine ⟨⟨p', r', none, q, m, some ⟨a', 0, none⟩, c', hGH.out, rfl, ⟨hin2.out.1, ?_⟩, (fun h => by cases h), h2H.out.below hB⟩, F2.trans (RF.below hB)⟩
    rcases hin2.out.2 with h0 | ⟨g, e, h1, h2⟩
    · exact Or.inl h0
    · exact Or.inr ⟨g, e, by have := F2.size; omega, h2⟩
/-- what Raw tells: where it then stands, where the bytes begin, how many there are. -/
def pieceT (bs : Nat → Nat) (n M : Nat) (s : PS) : PS × Nat × Nat :=
  if (startF bs s.p s.r s.fv).isSome then (⟨s.p, s.r, startF bs s.p s.r s.fv⟩, 0, 0) else
  match numS bs n s.p 10 0 0 with
  | .inl q => (⟨s.p, s.r, some q⟩, 0, 0)
  | .inr (x, l) => if M < x then (⟨s.p, s.r, some ((s.p : Int), 6)⟩, 0, 0) else if n < s.p + l + x then (⟨s.p, s.r, some ((n : Int), 30)⟩, 0, 0) else (⟨s.p + l + x, 0, none⟩, s.p + l, x)
theorem PieceG.toT {M : Nat} {p' r' : Nat} {fv' : Option (Int × Int)} {q m : Nat} (h : PieceG bs n p r (M : Int) fv p' r' fv' q m) : (pieceT bs n M ⟨p, r, fv⟩).1 = ⟨p', r', fv'⟩ ∧ (pieceT bs n M ⟨p, r, fv⟩).2.2 = m ∧ (m ≠ 0 → (pieceT bs n M ⟨p, r, fv⟩).2.1 = q) := by
  unfold pieceT
  rcases h with ⟨h1, rfl, rfl, rfl, rfl⟩ | ⟨h1, ⟨q', h2, rfl, rfl, rfl, rfl⟩ | ⟨x, l, h2, h3⟩⟩
  · rw [if_pos (by simpa [Option.isSome_iff_ne_none] using h1)]; exact ⟨rfl, rfl, fun h => absurd rfl h⟩
  · rw [if_neg (by rw [h1]; simp)]
    simp [h2]
  · rw [if_neg (by rw [h1]; simp)]
    simp only [h2]
    rcases h3 with ⟨h4, rfl, rfl, rfl, rfl⟩ | ⟨h4, h5, rfl, rfl, rfl, rfl⟩ | ⟨h4, h5, rfl, rfl, rfl, rfl, rfl⟩
    · rw [if_pos (by omega)]; exact ⟨rfl, rfl, fun h => absurd rfl h⟩
    · rw [if_neg (by omega), if_pos h5]; exact ⟨rfl, rfl, fun h => absurd rfl h⟩
    · rw [if_neg (by omega), if_neg (by omega)]; exact ⟨rfl, rfl, fun _ => rfl⟩
theorem pieceT_r (bs : Nat → Nat) (n M : Nat) (s : PS) (h : s.r < 8) : (pieceT bs n M s).1.r < 8 := by
  unfold pieceT
  split
  · exact h
  · split
    · exact h
    · split
      · exact h
      · split
        · exact h
        · simp only; omega
theorem Fresh.ext {B m : Nat} {a : Option Addr} {f g : Nat → Nat} {w : World} (h : Fresh B m a f w) (e : ∀ i, i < m → f i = g i) : Fresh B m a g w := by
  obtain ⟨h1, h0 | ⟨b, e', hB, hg, hb⟩⟩ := h
  · exact ⟨h1, Or.inl h0⟩
  · exact ⟨h1, Or.inr ⟨b, e', hB, hg, fun i hi => by rw [← e i hi]; exact hb i hi⟩⟩
theorem rb_raw {s : PS} (h : RB N w1 a n cap bs s w) (M : Nat) (hM : M ≤ 9223372036854775807) : Calls Tryd.prog 34 #[.pointer (some ⟨N, 0, none⟩), .int .i64 (M : Int)] w fun e w' => ∃ a' c, e = .returned (.slice a' (pieceT bs n M s).2.2 c) ∧ (a' = none → c = 0) ∧ Fresh w.heap.size (pieceT bs n M s).2.2 a' (fun i => bs ((pieceT bs n M s).2.1 + i)) w' ∧ RB N w1 a n cap bs (pieceT bs n M s).1 w' ∧ RF N w w' := by
  refine (rRaw_fresh h.1 (M : Int) (by omega)).mono ?_
  rintro e w' ⟨⟨p', r', fv', q, m, a', c, hG, rfl, hFr, hn, hR⟩, hF⟩
  obtain ⟨t1, t2, t3⟩ := hG.toT
  have hr := pieceT_r bs n M s h.2
  rw [show (⟨s.p, s.r, s.fv⟩ : PS) = s from rfl] at t1 t2 t3
  rw [t1] at hr ⊢
  rw [t2]
  exact ⟨a', c, rfl, hn, hFr.ext fun i hi => by rw [t3 (by omega)], ⟨hR, hr⟩, hF⟩
end
end Go.Proofs.YtfijagdbdbbbpaaDoor

namespace Go.Proofs.YtfijagdbdbbbpaaDoor
open Go.RowKit
set_option linter.unusedVariables false
set_option linter.unusedSimpArgs false
theorem make_smp (n : Nat) (h : n ≤ 1048576) (w : World) : (Instr.makeSlice 22 (.int .i64 (n : Int)) (.int .i64 (n : Int))).run Tryd.prog w = .ok (.slice (some ⟨w.heap.size, 0, none⟩) n n) (w.alloc (.cells (madeCells #[.int .i64 0, .int .u8 0, .int .i64 0] (n * 3)) 59)) := by
  obtain ⟨i, i1, i0⟩ := Option.map_eq_some_iff.1 smp_info
  have i2 : i.zero = some (.agg #[.int .i64 0, .int .u8 0, .int .i64 0]) := congrArg (·.1) i0
  have i3 : i.bytes = 24 := congrArg (·.2.1) i0
  have i4 : i.size = 3 := congrArg (·.2.2) i0
  have := run_make (P := Tryd.prog) w 22 59 i (.agg #[.int .i64 0, .int .u8 0, .int .i64 0]) Tryd.underlying22 i1 i2 .i64 .i64 (n : Int) (n : Int) (by omega) (by omega) (by rw [i3]; omega) (by omega)
  rw [i4] at this
  simpa [Value.cells] using this
theorem made3_get (n j : Nat) (h : j < n * 3) : (madeCells #[Value.int .i64 0, Value.int .u8 0, Value.int .i64 0] (n * 3))[j]? = some (if j % 3 = 0 then .int .i64 0 else if j % 3 = 1 then .int .u8 0 else .int .i64 0) := by
  unfold madeCells
  rw [Array.getElem?_map, Array.getElem?_range, if_pos h]
  have : j % 3 = 0 ∨ j % 3 = 1 ∨ j % 3 = 2 := by omega
  rcases this with e | e | e <;> simp [e]
/-- what stands while samples are paired: k of them are there. -/
structure PP (w : World) (g n k : Nat) (tt : Nat → Int) (kk : Nat → Nat) (xx : Nat → Int) (wx : World) : Prop where
  c0 : ∀ j, j < n → wx.cell? ⟨g, j * 3, none⟩ = some (.int .i64 (if j < k then tt j else 0))
  c1 : ∀ j, j < n → wx.cell? ⟨g, j * 3 + 1, none⟩ = some (.int .u8 (if j < k then (kk j : Int) else 0))
  c2 : ∀ j, j < n → wx.cell? ⟨g, j * 3 + 2, none⟩ = some (.int .i64 (if j < k then xx j else 0))
  f : ∀ j, j < n * 3 → wx.frozen? ⟨g, j, none⟩ = false
  b : Below w.heap.size w wx
  l1 : w.heap.size ≤ g
  l2 : g < wx.heap.size
theorem PP.start (w : World) (n : Nat) (tt : Nat → Int) (kk : Nat → Nat) (xx : Nat → Int) : PP w w.heap.size n 0 tt kk xx (w.alloc (.cells (madeCells #[.int .i64 0, .int .u8 0, .int .i64 0] (n * 3)) 59)) := by
  have hB := below_new (Below.refl _ w) (.cells (madeCells #[.int .i64 0, .int .u8 0, .int .i64 0] (n * 3)) 59)
  have c : ∀ j, j < n * 3 → (w.alloc (.cells (madeCells #[.int .i64 0, .int .u8 0, .int .i64 0] (n * 3)) 59)).cell? ⟨w.heap.size, j, none⟩ = some (if j % 3 = 0 then .int .i64 0 else if j % 3 = 1 then .int .u8 0 else .int .i64 0) := fun j hj => by
    rw [cell_of_row _ w.heap.size j _ 59 (0, 0) (heap_alloc_new w _)]; exact made3_get n j hj
  refine ⟨fun j hj => ?_, fun j hj => ?_, fun j hj => ?_, fun j hj => frozen_of_row _ w.heap.size j _ 59 (heap_alloc_new w _), hB, Nat.le_refl _, by simp⟩
  · rw [c _ (by omega), if_pos (by omega), if_neg (by omega)]
  · rw [c _ (by omega), if_neg (by omega), if_pos (by omega), if_neg (by omega)]
  · rw [c _ (by omega), if_neg (by omega), if_neg (by omega), if_neg (by omega)]
theorem PP.below {w : World} {g n k : Nat} {tt : Nat → Int} {kk : Nat → Nat} {xx : Nat → Int} {wx w' : World} (s : PP w g n k tt kk xx wx) (hb : Below wx.heap.size wx w') : PP w g n k tt kk xx w' := by
  obtain ⟨c0, c1, c2, f, b, l1, l2⟩ := s
  refine ⟨fun j hj => ?_, fun j hj => ?_, fun j hj => ?_, fun j hj => ?_, below_then b hb, l1, Nat.lt_of_lt_of_le l2 hb.size⟩
  · rw [hb.cell (p := ⟨g, j * 3, none⟩) l2]; exact c0 j hj
  · rw [hb.cell (p := ⟨g, j * 3 + 1, none⟩) l2]; exact c1 j hj
  · rw [hb.cell (p := ⟨g, j * 3 + 2, none⟩) l2]; exact c2 j hj
  · rw [hb.frozen (p := ⟨g, j, none⟩) l2]; exact f j hj
theorem PP.put {w : World} {g n k : Nat} {tt : Nat → Int} {kk : Nat → Nat} {xx : Nat → Int} {wx : World} (s : PP w g n k tt kk xx wx) (hk : k < n) : PP w g n (k + 1) tt kk xx (((wx.setCell ⟨g, k * 3, none⟩ (.int .i64 (tt k))).setCell ⟨g, k * 3 + 1, none⟩ (.int .u8 (kk k : Int))).setCell ⟨g, k * 3 + 2, none⟩ (.int .i64 (xx k))) := by
  obtain ⟨c0, c1, c2, f, b, l1, l2⟩ := s
  have oth : ∀ (W : World) (i j : Nat) (x : Value), i ≠ j → (W.setCell ⟨g, i, none⟩ x).cell? ⟨g, j, none⟩ = W.cell? ⟨g, j, none⟩ := fun W i j x h => World.cell?_setCell_other _ _ _ _ (by intro e; injection e with e1 e2; omega)
  refine ⟨fun j hj => ?_, fun j hj => ?_, fun j hj => ?_, fun j hj => by simpa using f j hj, ((b.setCell (p := ⟨g, k * 3, none⟩) l1 _).setCell (p := ⟨g, k * 3 + 1, none⟩) l1 _).setCell (p := ⟨g, k * 3 + 2, none⟩) l1 _, l1, by simpa using l2⟩
  · rw [oth _ _ _ _ (by omega), oth _ _ _ _ (by omega)]
    by_cases e : j = k
    · subst e; rw [if_pos (by omega)]; exact World.cell?_setCell_same _ _ _ (c0 j hj)
    · rw [oth _ _ _ _ (by omega), c0 j hj]
      by_cases e2 : j < k
      · rw [if_pos e2, if_pos (by omega)]
      · rw [if_neg e2, if_neg (by omega)]
  · rw [oth _ _ _ _ (by omega)]
    by_cases e : j = k
    · subst e; rw [if_pos (by omega)]; exact World.cell?_setCell_same _ _ _ (u := .int .u8 (if j < j then (kk j : Int) else 0)) (by rw [oth _ _ _ _ (by omega)]; exact c1 j hj)
    · rw [oth _ _ _ _ (by omega), oth _ _ _ _ (by omega), c1 j hj]
      by_cases e2 : j < k
      · rw [if_pos e2, if_pos (by omega)]
      · rw [if_neg e2, if_neg (by omega)]
  · by_cases e : j = k
    · subst e; rw [if_pos (by omega)]; exact World.cell?_setCell_same _ _ _ (u := .int .i64 (if j < j then xx j else 0)) (by rw [oth _ _ _ _ (by omega), oth _ _ _ _ (by omega)]; exact c2 j hj)
    · rw [oth _ _ _ _ (by omega), oth _ _ _ _ (by omega), oth _ _ _ _ (by omega), c2 j hj]
      by_cases e2 : j < k
      · rw [if_pos e2, if_pos (by omega)]
      · rw [if_neg e2, if_neg (by omega)]
theorem PP.sin {w : World} {g n : Nat} {tt : Nat → Int} {kk : Nat → Nat} {xx : Nat → Int} {wx : World} (s : PP w g n n tt kk xx wx) (hn : n ≤ 1048576) (hz : ∀ i, kk i < 256 ∧ -9223372036854775808 ≤ xx i ∧ xx i ≤ 9223372036854775807) (hz' : ∀ i, -9223372036854775808 ≤ tt i ∧ tt i ≤ 9223372036854775807) : SIn wx (some ⟨g, 0, none⟩) n tt kk xx := by
  refine ⟨by omega, hz, hz', Or.inr ⟨g, 0, rfl, s.l2, fun i hi => ⟨?_, ?_, ?_⟩⟩⟩
  · rw [Nat.zero_add, s.c0 i hi, if_pos hi]
  · rw [Nat.zero_add, s.c1 i hi, if_pos hi]
  · rw [Nat.zero_add, s.c2 i hi, if_pos hi]
set_option maxRecDepth 100000 in
set_option maxHeartbeats 4000000 in
theorem pair_any (a : Option Addr) (b : Option Addr) (n c d : Nat) (tt : Nat → Int) (kk : Nat → Nat) (xx : Nat → Int) (w : World) (hT : IsIn w a n tt) (hV : VIn w b n kk xx) (hs : n ≤ 1048576) : Calls Tryd.prog 36 #[.slice a n c, .slice b n d] w fun e w' => ∃ g, e = .returned (.slice (some ⟨g, 0, none⟩) n n) ∧ SIn w' (some ⟨g, 0, none⟩) n tt kk xx ∧ Below w.heap.size w w' := by
  have hmk := make_smp n hs
  have hst : Hid _ := PP.start w n tt kk xx
  have hTH : Hid (IsIn w a n tt) := hT
  have hVH : Hid (VIn w b n kk xx) := hV
  clear hT hV
  go_enter Tryd.func36, Tryd.ntmps36
  go_wp2_with fail
  go_loopw [13] (fun ix wr => ∃ k : Nat, k ≤ n ∧ ix = .int .i64 (k : Int) ∧ PP w w.heap.size n k tt kk xx wr) (fun ix _ => n - (intOf ix).toNat)
  case atStart => exact ⟨0, by omega, rfl, hst.out⟩
  case round =>
    clear hst hmk
    obtain ⟨k, hk, rfl, hS⟩ := hrel
    by_cases hkn : k < n
    · have hkI : (k : Int) < (n : Int) := by omega
      have k1 : (0 : Int) ≤ (k : Int) := by omega
      obtain ⟨_, _, hc⟩ := hTH.out
      obtain ⟨_, _, hc'⟩ := hVH.out
      rcases hc with h0 | ⟨b1, o1, rfl, hb1, hcc⟩
      · omega
      rcases hc' with h0 | ⟨b2, o2, rfl, hb2, hcc'⟩
      · omega
      have hBw := hS.b
      have d0 : wr.cell? ⟨b1, o1 + k, none⟩ = some (.int .i64 (tt k)) := by rw [hBw.cell (p := ⟨b1, o1 + k, none⟩) hb1]; exact hcc k hkn
      have d1 : wr.cell? ⟨b2, o2 + k * 2, none⟩ = some (.int .u8 (kk k : Int)) := by rw [hBw.cell (p := ⟨b2, o2 + k * 2, none⟩) hb2]; exact (hcc' k hkn).1
      have d2 : wr.cell? ⟨b2, o2 + k * 2 + 1, none⟩ = some (.int .i64 (xx k)) := by rw [hBw.cell (p := ⟨b2, o2 + k * 2 + 1, none⟩) hb2]; exact (hcc' k hkn).2
      have e0 := hS.c0 k hkn
      have e1 := hS.c1 k hkn
      have e2 := hS.c2 k hkn
      have f0 := hS.f (k * 3) (by omega)
      have f1 := hS.f (k * 3 + 1) (by omega)
      have f2 := hS.f (k * 3 + 2) (by omega)
      have hSH : Hid _ := hS
      clear hcc hcc' hS hBw
      go_wp2_with fail
      go_roundw
      case rel => exact ⟨k + 1, by omega, by go_num, hSH.out.put hkn⟩
      case measure => simp [intOf]; omega
    · obtain rfl : n = k := by omega
      have hkI : ¬ (n : Int) < (n : Int) := by omega
      have hSi := hS.sin hs hVH.out.2.1 hTH.out.2.1
      have hB := hS.b
      clear hS
      go_wp2_with fail
      go_ret
      exact ⟨_, rfl, hSi, hB⟩
end Go.Proofs.YtfijagdbdbbbpaaDoor

namespace Go.Proofs.YtfijagdbdbbbpaaDoor
open Go.RowKit
set_option linter.unusedVariables false
set_option linter.unusedSimpArgs false
theorem BytesIn.asL {w : World} {a : Option Addr} {n : Nat} {bs : Nat → Nat} (h : BytesIn w a n bs) : BytesIn w a (bytesL bs n).length (natsOf (bytesL bs n)) := by
  rw [show (bytesL bs n).length = n by simp [bytesL]]
  refine ⟨h.1, ?_⟩
  rcases h.2 with h0 | ⟨b, off, e, hb, hB⟩
  · exact Or.inl h0
  · exact Or.inr ⟨b, off, e, hb, fun i hi => by rw [nats_bytesL bs n i hi]; exact hB i hi⟩
/-- bytes as times: a fault; times; no times. -/
def TF (T : List Nat) (x : Int × Int) : Prop := doneF (natsOf T) T.length (lastT (natsOf T) T.length).s.p (lastT (natsOf T) T.length).s.r (lastT (natsOf T) T.length).s.fv = some x
def TG (T : List Nat) : Prop := doneF (natsOf T) T.length (lastT (natsOf T) T.length).s.p (lastT (natsOf T) T.length).s.r (lastT (natsOf T) T.length).s.fv = none ∧ (Rises (ttL (lastT (natsOf T) T.length).L) (lastT (natsOf T) T.length).L.length ∧ (timesS (ttL (lastT (natsOf T) T.length).L) (lastT (natsOf T) T.length).L.length (lastT (natsOf T) T.length).L.length).1 = bytesL (natsOf T) T.length)
def TBd (T : List Nat) : Prop := doneF (natsOf T) T.length (lastT (natsOf T) T.length).s.p (lastT (natsOf T) T.length).s.r (lastT (natsOf T) T.length).s.fv = none ∧ ¬ (Rises (ttL (lastT (natsOf T) T.length).L) (lastT (natsOf T) T.length).L.length ∧ (timesS (ttL (lastT (natsOf T) T.length).L) (lastT (natsOf T) T.length).L.length (lastT (natsOf T) T.length).L.length).1 = bytesL (natsOf T) T.length)
def VF (V : List Nat) (x : Int × Int) : Prop := doneF (natsOf V) V.length (lastV (natsOf V) V.length).s.p (lastV (natsOf V) V.length).s.r (lastV (natsOf V) V.length).s.fv = some x
def VG (V : List Nat) : Prop := doneF (natsOf V) V.length (lastV (natsOf V) V.length).s.p (lastV (natsOf V) V.length).s.r (lastV (natsOf V) V.length).s.fv = none ∧ (valsS (kkL (lastV (natsOf V) V.length).L) (xxL (lastV (natsOf V) V.length).L) (lastV (natsOf V) V.length).L.length (lastV (natsOf V) V.length).L.length).s.1 = bytesL (natsOf V) V.length
def VBd (V : List Nat) : Prop := doneF (natsOf V) V.length (lastV (natsOf V) V.length).s.p (lastV (natsOf V) V.length).s.r (lastV (natsOf V) V.length).s.fv = none ∧ (valsS (kkL (lastV (natsOf V) V.length).L) (xxL (lastV (natsOf V) V.length).L) (lastV (natsOf V) V.length).L.length (lastV (natsOf V) V.length).L.length).s.1 ≠ bytesL (natsOf V) V.length
def tL (T : List Nat) : List Int := (lastT (natsOf T) T.length).L
def vL (V : List Nat) : List (Nat × Int) := (lastV (natsOf V) V.length).L
theorem UnTE.cases {T : List Nat} {err : Option (Int × Int) → Value} {bad ok : Value} {e : Ending} {w' : World} (h : UnTE (natsOf T) T.length err bad ok e w') :
    (∃ x, TF T x ∧ e = .returned (.tuple #[.slice none 0 0, err (some x)])) ∨ (TG T ∧ ∃ a c, e = .returned (.tuple #[.slice a (tL T).length c, ok]) ∧ IsIn w' a (tL T).length (ttL (tL T))) ∨ (TBd T ∧ e = .returned (.tuple #[.slice none 0 0, bad])) := by
  rcases h with ⟨x, h1, h2⟩ | ⟨h1, ⟨h2, a, c, h3, h4⟩ | ⟨h2, h3⟩⟩
  · exact Or.inl ⟨x, h1, h2⟩
  · exact Or.inr (Or.inl ⟨⟨h1, h2⟩, a, c, h3, h4⟩)
  · exact Or.inr (Or.inr ⟨⟨h1, h2⟩, h3⟩)
theorem UnVE.cases {V : List Nat} {err : Option (Int × Int) → Value} {bad ok : Value} {e : Ending} {w' : World} (h : UnVE (natsOf V) V.length err bad ok e w') :
    (∃ x, VF V x ∧ e = .returned (.tuple #[.slice none 0 0, err (some x)])) ∨ (VG V ∧ ∃ a c, e = .returned (.tuple #[.slice a (vL V).length c, ok]) ∧ VIn w' a (vL V).length (kkL (vL V)) (xxL (vL V))) ∨ (VBd V ∧ e = .returned (.tuple #[.slice none 0 0, bad])) := by
  rcases h with ⟨x, h1, h2⟩ | ⟨h1, ⟨h2, a, c, h3, h4⟩ | ⟨h2, h3⟩⟩
  · exact Or.inl ⟨x, h1, h2⟩
  · exact Or.inr (Or.inl ⟨⟨h1, h2⟩, a, c, h3, h4⟩)
  · exact Or.inr (Or.inr ⟨⟨h1, h2⟩, h3⟩)
/-- the two pieces of packed samples. -/
def pc1 (bs : Nat → Nat) (n : Nat) : PS × Nat × Nat := pieceT bs n 67108864 ⟨0, 0, none⟩
def pc2 (bs : Nat → Nat) (n : Nat) : PS × Nat × Nat := pieceT bs n 67108864 (pc1 bs n).1
def pT (bs : Nat → Nat) (n : Nat) : List Nat := bytesL (fun i => bs ((pc1 bs n).2.1 + i)) (pc1 bs n).2.2
def pV (bs : Nat → Nat) (n : Nat) : List Nat := bytesL (fun i => bs ((pc2 bs n).2.1 + i)) (pc2 bs n).2.2
def pD (bs : Nat → Nat) (n : Nat) : Option (Int × Int) := doneF bs n (pc2 bs n).1.p (pc2 bs n).1.r (pc2 bs n).1.fv
/-- packed samples: a fault; none; samples. -/
def UPf (bs : Nat → Nat) (n : Nat) (x : Int × Int) : Prop := pD bs n = some x ∨ (pD bs n = none ∧ (TF (pT bs n) x ∨ (TG (pT bs n) ∧ VF (pV bs n) x)))
def UPb (bs : Nat → Nat) (n : Nat) : Prop := pD bs n = none ∧ (TBd (pT bs n) ∨ (TG (pT bs n) ∧ (VBd (pV bs n) ∨ (VG (pV bs n) ∧ (tL (pT bs n)).length ≠ (vL (pV bs n)).length))))
def UPg (bs : Nat → Nat) (n : Nat) : Prop := pD bs n = none ∧ TG (pT bs n) ∧ VG (pV bs n) ∧ (tL (pT bs n)).length = (vL (pV bs n)).length
def UnpE (bs : Nat → Nat) (n : Nat) (err : Option (Int × Int) → Value) (bad ok : Value) (e : Ending) (w' : World) : Prop :=
  (∃ x, UPf bs n x ∧ e = .returned (.tuple #[.slice none 0 0, err (some x)])) ∨
  (UPb bs n ∧ e = .returned (.tuple #[.slice none 0 0, bad])) ∨
  (UPg bs n ∧ ∃ a c, e = .returned (.tuple #[.slice a (tL (pT bs n)).length c, ok]) ∧ SIn w' a (tL (pT bs n)).length (ttL (tL (pT bs n))) (kkL (vL (pV bs n))) (xxL (vL (pV bs n))))
theorem lastT_len {bs : Nat → Nat} {n : Nat} (h : doneF bs n (lastT bs n).s.p (lastT bs n).s.r (lastT bs n).s.fv = none) : (lastT bs n).L.length ≤ 1048576 := by
  have hl : ∀ k, (readT bs n (uintT bs n 1048576 ⟨0, 0, none⟩).1 k).L.length ≤ k := by
    intro k
    induction k with
    | zero => exact Nat.le_refl _
    | succ k ih =>
      have e : readT bs n (uintT bs n 1048576 ⟨0, 0, none⟩).1 (k + 1) = if (readT bs n (uintT bs n 1048576 ⟨0, 0, none⟩).1 k).s.fv.isSome then readT bs n (uintT bs n 1048576 ⟨0, 0, none⟩).1 k else timeT bs n k (readT bs n (uintT bs n 1048576 ⟨0, 0, none⟩).1 k) := rfl
      rw [e]
      split
      · omega
      · rw [timeT_len]; omega
  have := hl (uintT bs n 1048576 ⟨0, 0, none⟩).2
  have := uintT_le bs n 1048576 ⟨0, 0, none⟩
  unfold lastT
  omega
set_option maxRecDepth 100000 in
set_option maxHeartbeats 8000000 in
theorem unpack_any (ba : Option Addr) (bc : Nat) (B : List Nat) (w : World) (h : BytesIn w ba B.length (natsOf B)) (hc : ba = none → bc = 0) (hct : CT w) (hg : 0 < w.heap.size) : Calls Tryd.prog 8 #[.slice ba B.length bc] w fun e w' => UnpE (natsOf B) B.length fvV (.iface 77 (.int .i64 90)) .nilIface e w' ∧ Below w.heap.size w w' := by
  have hN : Hid _ := newR_in ba bc B w h hc
  have hctH : Hid (CT w) := hct
  clear h hct
  go_enter Tryd.func8, Tryd.ntmps8
  go_wp2_with fail
  refine Calls.mono hN.out ?_
  rintro e w2 ⟨N, a, cap, rfl, hNw, hR, hB2⟩
  have hR2 : RB N w2 a B.length cap (natsOf B) ⟨0, 0, none⟩ w2 := ⟨hR, by show 0 < 8; omega⟩
  have hNlt : N < w2.heap.size := hR.sz
  obtain ⟨T, q1, s1, e1, eT, hfT, hC1⟩ : ∃ T q1 s1, (pc1 (natsOf B) B.length).1 = s1 ∧ pT (natsOf B) B.length = T ∧ (∀ i, i < T.length → natsOf B (q1 + i) = natsOf T i) ∧ Hid (Calls Tryd.prog 34 #[.pointer (some ⟨N, 0, none⟩), .int .i64 67108864] w2 fun e w' => ∃ a' c, e = .returned (.slice a' T.length c) ∧ (a' = none → c = 0) ∧ Fresh w2.heap.size T.length a' (fun i => natsOf B (q1 + i)) w' ∧ RB N w2 a B.length cap (natsOf B) s1 w' ∧ RF N w2 w') := by
    have hl : (pT (natsOf B) B.length).length = (pc1 (natsOf B) B.length).2.2 := by simp [pT, bytesL]
    refine ⟨pT (natsOf B) B.length, (pc1 (natsOf B) B.length).2.1, (pc1 (natsOf B) B.length).1, rfl, rfl, fun i hi => ?_, ?_⟩
    · rw [hl] at hi; exact (nats_bytesL (fun i => natsOf B ((pc1 (natsOf B) B.length).2.1 + i)) _ i hi).symm
    · rw [hl]; exact rb_raw hR2 67108864 (by omega)
  have hfTH : Hid _ := hfT
  have eTH : Hid _ := eT
  clear hN hR hR2 hfT eT
  go_wp2_with fail
  refine Calls.mono hC1.out ?_
  rintro e w3 ⟨a1, c1, rfl, hn1, hFr1, hR3, hF3⟩
  obtain ⟨V, q2, s2, e2, eV, hfV, hC2⟩ : ∃ V q2 s2, (pc2 (natsOf B) B.length).1 = s2 ∧ pV (natsOf B) B.length = V ∧ (∀ i, i < V.length → natsOf B (q2 + i) = natsOf V i) ∧ Hid (Calls Tryd.prog 34 #[.pointer (some ⟨N, 0, none⟩), .int .i64 67108864] w3 fun e w' => ∃ a' c, e = .returned (.slice a' V.length c) ∧ (a' = none → c = 0) ∧ Fresh w3.heap.size V.length a' (fun i => natsOf B (q2 + i)) w' ∧ RB N w2 a B.length cap (natsOf B) s2 w' ∧ RF N w3 w') := by
    have hl : (pV (natsOf B) B.length).length = (pc2 (natsOf B) B.length).2.2 := by simp [pV, bytesL]
    have e0 : pc2 (natsOf B) B.length = pieceT (natsOf B) B.length 67108864 s1 := by unfold pc2; rw [e1]
    refine ⟨pV (natsOf B) B.length, (pc2 (natsOf B) B.length).2.1, (pc2 (natsOf B) B.length).1, rfl, rfl, fun i hi => ?_, ?_⟩
    · rw [hl] at hi; exact (nats_bytesL (fun i => natsOf B ((pc2 (natsOf B) B.length).2.1 + i)) _ i hi).symm
    · rw [hl, e0]; exact rb_raw hR3 67108864 (by omega)
  have hFr1H : Hid _ := hFr1
  have hfVH : Hid _ := hfV
  have eVH : Hid _ := eV
  clear hC1 hR3 hFr1 hfV eV
  go_wp2_with fail
  refine Calls.mono hC2.out ?_
  rintro e w4 ⟨a2, c2, rfl, hn2, hFr2, hR4, hF4⟩
  have hFr1 := Fresh.ext (Fresh.rf hFr1H.out hF4 hNlt) hfTH.out
  have hFr2' := Fresh.ext hFr2 hfVH.out
  have hD0 := done_gen hR4.1
  obtain ⟨dn, hdn⟩ : ∃ dn, dn = pD (natsOf B) B.length := ⟨_, rfl⟩
  have hdd : doneF (natsOf B) B.length s2.p s2.r s2.fv = dn := by rw [hdn]; unfold pD; rw [e2]
  rw [hdd] at hD0
  have hD : Hid _ := hD0
  have hdnH : Hid _ := hdn
  have h1H : Hid _ := hFr1
  have h2H : Hid _ := hFr2'
  have hR4H : Hid _ := hR4
  have hl3 : w2.heap.size ≤ w3.heap.size := hF3.size
  clear hC2 hFr1H hfTH hfVH hFr2 hFr1 hFr2' hR4 hD0 hdd hdn e1 e2
  go_wp2_with fail
  refine Calls.mono hD.out ?_
  rintro e w5 ⟨rfl, hR5, hF5⟩
  have hB5 : Below w.heap.size w w5 := hB2.trans (hR5.b.mono hNw)
  have hT5 := Fresh.rf h1H.out hF5 hNlt
  have hV5 := Fresh.rf h2H.out hF5 (by omega)
  clear hD hR5 hF5 h1H h2H hR4H hF3 hF4
  cases dn with
  | some x =>
    obtain ⟨x1, x2⟩ := x
    clear hT5 hV5
    simp only [fvV]
    go_wp2_with fail
    simp [bodyPost, results, Tryd.results8, go_sem]
    exact ⟨Or.inl ⟨(x1, x2), Or.inl hdnH.out.symm, rfl⟩, hB5⟩
  | none =>
    have hU : Hid _ := unTimes_any a1 c1 T w5 (Fresh.inn hT5) hn1 (CT_below hctH.out hB5 hg) (by have := hB5.size; omega)
    have hV5H : Hid _ := hV5
    clear hT5 hV5
    simp only [fvV]
    go_wp2_with fail
    refine Calls.mono hU.out ?_
    rintro e w6 ⟨hE, hB6⟩
    have hB06 := below_then hB5 hB6
    have hV6 := Fresh.below hV5H.out hB6
    clear hU hV5H
    rcases hE.cases with ⟨x, hx, rfl⟩ | ⟨hx, ta, tc, rfl, hI⟩ | ⟨hx, rfl⟩
    · obtain ⟨x1, x2⟩ := x
      have hxH : Hid _ := hx
      clear hE hV6 hx
      simp only [fvV]
      go_wp2_with fail
      simp [bodyPost, results, Tryd.results8, go_sem]
      exact ⟨Or.inl ⟨(x1, x2), Or.inr ⟨hdnH.out.symm, Or.inl (by rw [eTH.out]; exact hxH.out)⟩, rfl⟩, hB06⟩
    · have hxH : Hid (TG T) := hx
      have hW : Hid _ := unValues_any a2 c2 V w6 (Fresh.inn hV6) hn2
      have hIH : Hid _ := hI
      have hlT : (tL T).length ≤ 1048576 := lastT_len hx.1
      clear hE hV6 hx hI
      go_wp2_with fail
      refine Calls.mono hW.out ?_
      rintro e w7 ⟨hE, hB7⟩
      have hB07 := below_then hB06 hB7
      have hI7 := IsIn.below hIH.out hB7 (Nat.le_refl _)
      clear hW hIH
      rcases hE.cases with ⟨x, hx, rfl⟩ | ⟨hx, va, vc, rfl, hV⟩ | ⟨hx, rfl⟩
      · obtain ⟨x1, x2⟩ := x
        have hyH : Hid _ := hx
        clear hE hx hI7
        simp only [fvV]
        go_wp2_with fail
        simp [bodyPost, results, Tryd.results8, go_sem]
        exact ⟨Or.inl ⟨(x1, x2), Or.inr ⟨hdnH.out.symm, Or.inr ⟨by rw [eTH.out]; exact hxH.out, by rw [eVH.out]; exact hyH.out⟩⟩, rfl⟩, hB07⟩
      · have hyH : Hid (VG V) := hx
        clear hE hx
        by_cases hlen : (tL T).length = (vL V).length
        · have hlI : ((tL T).length : Int) = ((vL V).length : Int) := by omega
          have hI7H : Hid _ := hI7
          have hV7 := hV
          rw [← hlen] at hV7 ⊢
          have hP : Hid _ := pair_any ta va (tL T).length tc vc (ttL (tL T)) (kkL (vL V)) (xxL (vL V)) w7 hI7 hV7 hlT
          have hlenH : Hid _ := hlen
          obtain ⟨m, hm⟩ : ∃ m, m = (tL T).length := ⟨_, rfl⟩
          have hmH : Hid _ := hm
          rw [← hm] at hP ⊢
          clear hI7 hV hV7 hI7H hlI hlen hm hlT
          go_wp2_with fail
          refine Calls.mono hP.out ?_
          rintro e w8 ⟨g, rfl, hS, hB8⟩
          have hB08 := below_then hB07 hB8
          have hSH : Hid _ := hS
          clear hP hS
          go_wp2_with fail
          simp [bodyPost, results, Tryd.results8, go_sem]
          refine ⟨Or.inr (Or.inr ⟨⟨hdnH.out.symm, by rw [eTH.out]; exact hxH.out, by rw [eVH.out]; exact hyH.out, by rw [eTH.out, eVH.out]; exact hlenH.out⟩, some ⟨g, 0, none⟩, m, by rw [eTH.out, ← hmH.out], ?_⟩), hB08⟩
          rw [eTH.out, eVH.out, ← hmH.out]; exact hSH.out
        · have hlI : ¬ ((tL T).length : Int) = ((vL V).length : Int) := by omega
          have hlenH : Hid _ := hlen
          have hF : Hid _ := faultNew 90 rfl
          clear hI7 hV hlen
          go_wp2_with fail
          refine Calls.mono (hF.out _) ?_
          rintro e w8 ⟨rfl, hw⟩
          have hw' := hw.symm
          subst hw'
          clear hw
          go_wp2_with fail
          simp [bodyPost, results, Tryd.results8, go_sem]
          exact ⟨Or.inr (Or.inl ⟨⟨hdnH.out.symm, Or.inr ⟨by rw [eTH.out]; exact hxH.out, Or.inr ⟨by rw [eVH.out]; exact hyH.out, by rw [eTH.out, eVH.out]; exact hlenH.out⟩⟩⟩, rfl⟩), hB07⟩
      · have hyH : Hid _ := hx
        clear hE hx hI7
        go_wp2_with fail
        simp [bodyPost, results, Tryd.results8, go_sem]
        exact ⟨Or.inr (Or.inl ⟨⟨hdnH.out.symm, Or.inr ⟨by rw [eTH.out]; exact hxH.out, Or.inl (by rw [eVH.out]; exact hyH.out)⟩⟩, rfl⟩), hB07⟩
    · have hxH : Hid _ := hx
      clear hE hV6 hx
      go_wp2_with fail
      simp [bodyPost, results, Tryd.results8, go_sem]
      exact ⟨Or.inr (Or.inl ⟨⟨hdnH.out.symm, Or.inl (by rw [eTH.out]; exact hxH.out)⟩, rfl⟩), hB06⟩
end Go.Proofs.YtfijagdbdbbbpaaDoor
