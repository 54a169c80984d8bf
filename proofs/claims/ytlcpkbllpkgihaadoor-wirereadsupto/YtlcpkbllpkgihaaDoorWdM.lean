
import Derived.Test.YtlcpkbllpkgihaaDoorQdGm
import Derived.Test.YtlcpkbllpkgihaaDoorQdHm
import Derived.Test.YtlcpkbllpkgihaaDoorBkM
import Derived.Deep.RegionHeld3
import Derived.Deep.Cut
namespace Go.Proofs.YtlcpkbllpkgihaaDoor
open Go.RowKit
set_option linter.unusedVariables false
set_option linter.unusedSimpArgs false
/-- a Reader of the program's, in a world where its block and its row are as they were. -/
theorem RR.of {N : Nat} {w1 w2 wx w' : World} {a : Option Addr} {n cap p r : Nat} {bs : Nat → Nat} {fv : Option (Int × Int)} (h : RR N w1 a n cap bs p r fv wx) (hk : w'.heap[N]? = wx.heap[N]?) (hrow : n = 0 ∨ ∀ b off, a = some ⟨b, off, none⟩ → w'.heap[b]? = wx.heap[b]?) (hs : wx.heap.size ≤ w'.heap.size) (hb : Below N w2 w') : RR N w2 a n cap bs p r fv w' := by
  obtain ⟨c0, c1, c2, c3, f1, f2, f3, row, nb, nc, pn, r8, rp, b, sz⟩ := h
  refine ⟨?_, ?_, ?_, ?_, ?_, ?_, ?_, ?_, nb, nc, pn, r8, rp, hb, Nat.lt_of_lt_of_le sz hs⟩
  · rw [World.cell?_of_block (w := wx) hk]; exact c0
  · rw [World.cell?_of_block (w := wx) hk]; exact c1
  · rw [World.cell?_of_block (w := wx) hk]; exact c2
  · rw [World.cell?_of_block (w := wx) hk]; exact c3
  · rw [World.frozen?_of_block (w := wx) hk]; exact f1
  · rw [World.frozen?_of_block (w := wx) hk]; exact f2
  · rw [World.frozen?_of_block (w := wx) hk]; exact f3
  · rcases row with h0 | ⟨k, off, e, hk, hn, hB⟩
    · exact Or.inl h0
    · rcases hrow with h0 | hrow
      · exact Or.inl h0
      · refine Or.inr ⟨k, off, e, Nat.lt_of_lt_of_le hk hs, hn, fun i hi => ?_⟩
        have := hB i hi
        rw [World.cell?_of_block (w := wx) (hrow k off e)]; exact this
/-- two Readers in one world: the program's at N, the document's at M. -/
structure TR (w : World) (N M : Nat) (a1 : Option Addr) (c1 : Nat) (a2 : Option Addr) (c2 : Nat) (L : List Nat) (p r : Nat) (fv : Option (Int × Int)) (p2 r2 : Nat) (fv2 : Option (Int × Int)) (wr : World) : Prop where
  rd : RR N wr a1 L.length c1 (natsOf L) p r fv wr
  dc : QR M wr a2 L.length c2 (natsOf L) p2 r2 fv2 wr
  r8 : r < 8
  lo : w.heap.size ≤ N
  nm : N < M
  row1 : L.length = 0 ∨ ∃ b off, a1 = some ⟨b, off, none⟩ ∧ b < M
  row2 : L.length = 0 ∨ ∃ g, a2 = some ⟨g, 0, none⟩ ∧ M < g
  bb : Below w.heap.size w wr
section
variable {w : World} {N M : Nat} {a1 : Option Addr} {c1 : Nat} {a2 : Option Addr} {c2 : Nat} {L : List Nat} {p r : Nat} {fv : Option (Int × Int)} {p2 r2 : Nat} {fv2 : Option (Int × Int)} {wr w' : World}
theorem TR.real (h : TR w N M a1 c1 a2 c2 L p r fv p2 r2 fv2 wr) {p' r' : Nat} {fv' : Option (Int × Int)} (hR : RR N wr a1 L.length c1 (natsOf L) p' r' fv' w') (F : RF N wr w') (hr : r' < 8) : TR w N M a1 c1 a2 c2 L p' r' fv' p2 r2 fv2 w' := by
  have hnm := h.nm
  refine ⟨hR.here, h.dc.of (F.keep M h.dc.sz (by omega)) ?_ F.size (Below.refl _ _), hr, h.lo, h.nm, h.row1, h.row2, h.bb.trans (hR.b.mono h.lo)⟩
  rcases h.row2 with h0 | ⟨g, e, hg⟩
  · exact Or.inl h0
  · rcases h.dc.row with h0 | ⟨b, off, e2, hb, _⟩
    · exact Or.inl h0
    · refine Or.inr fun b' off' e3 => ?_
      rw [e] at e3 e2
      injection e3 with e3; injection e3 with e3
      injection e2 with e2; injection e2 with e2
      subst e3
      subst e2
      exact F.keep _ hb (by omega)
theorem TR.doc (h : TR w N M a1 c1 a2 c2 L p r fv p2 r2 fv2 wr) {p' r' : Nat} {fv' : Option (Int × Int)} (hR : QR M wr a2 L.length c2 (natsOf L) p' r' fv' w') (F : RF M wr w') : TR w N M a1 c1 a2 c2 L p r fv p' r' fv' w' := by
  have hnm := h.nm
  have hlo := h.lo
  refine ⟨h.rd.of (F.keep N h.rd.sz (by omega)) ?_ F.size (Below.refl _ _), hR.here, h.r8, h.lo, h.nm, h.row1, h.row2, h.bb.trans (hR.b.mono (by omega))⟩
  rcases h.row1 with h0 | ⟨b, off, e, hb⟩
  · exact Or.inl h0
  · rcases h.rd.row with h0 | ⟨b2, off2, e2, hb2, _⟩
    · exact Or.inl h0
    · refine Or.inr fun b' off' e3 => ?_
      rw [e] at e3 e2
      injection e3 with e3; injection e3 with e3
      injection e2 with e2; injection e2 with e2
      subst e3
      subst e2
      exact F.keep _ hb2 (by omega)
theorem TR.below (h : TR w N M a1 c1 a2 c2 L p r fv p2 r2 fv2 wr) (hb : Below wr.heap.size wr w') : TR w N M a1 c1 a2 c2 L p r fv p2 r2 fv2 w' :=
  ⟨(h.rd.below hb).here, (h.dc.below hb).here, h.r8, h.lo, h.nm, h.row1, h.row2, below_then h.bb hb⟩
/-- both stand alike. -/
def TT (w : World) (N M : Nat) (a1 : Option Addr) (c1 : Nat) (a2 : Option Addr) (c2 : Nat) (L : List Nat) (wr : World) : Prop := ∃ p r fv, TR w N M a1 c1 a2 c2 L p r fv p r fv wr
theorem TT.below (h : TT w N M a1 c1 a2 c2 L wr) (hb : Below wr.heap.size wr w') : TT w N M a1 c1 a2 c2 L w' := by
  obtain ⟨p, r, fv, h⟩ := h
  exact ⟨p, r, fv, h.below hb⟩
theorem TT.bb (h : TT w N M a1 c1 a2 c2 L wr) : Below w.heap.size w wr := by
  obtain ⟨p, r, fv, h⟩ := h
  exact h.bb
theorem TT.sz (h : TT w N M a1 c1 a2 c2 L wr) : N < wr.heap.size ∧ M < wr.heap.size := by
  obtain ⟨p, r, fv, h⟩ := h
  exact ⟨h.rd.sz, h.dc.sz⟩
/-- what is read behind a read that told x. -/
def DK (w : World) (N M : Nat) (a1 : Option Addr) (c1 : Nat) (a2 : Option Addr) (c2 : Nat) (L : List Nat) (f : Nat) (args : Array Value) (x : Value) (w2 : World) : Prop :=
  ∀ w3, Below w2.heap.size w2 w3 → Calls Tryd.prog f args w3 fun e w4 => e = .returned x ∧ TT w N M a1 c1 a2 c2 L w4 ∧ RF M w3 w4
theorem DK.drew {f : Nat} {args : Array Value} {x : Value} {w2 : World} (h : DK w N M a1 c1 a2 c2 L f args x w2) : DK w N M a1 c1 a2 c2 L f args x w2.drew := fun w3 hB => h w3 ((Below.refl _ _).drew.trans hB)
theorem DK.now {f : Nat} {args : Array Value} {x : Value} {w2 : World} (h : DK w N M a1 c1 a2 c2 L f args x w2) : Calls Tryd.prog f args w2 fun e w4 => e = .returned x ∧ TT w N M a1 c1 a2 c2 L w4 ∧ RF M w2 w4 := h _ (Below.refl _ _)
theorem UintG.r8 {bs : Nat → Nat} {n p r M : Nat} {fv : Option (Int × Int)} {p1 r1 : Nat} {f1 : Option (Int × Int)} {v1 : Nat} (hr : r < 8) (h : UintG bs n p r M fv p1 r1 f1 v1) : r1 < 8 := by
  rcases h with ⟨_, _, _, _, rfl⟩ | ⟨_, ⟨q, _, _, _, _, rfl⟩ | ⟨x, l, _, ⟨_, _, _, _, rfl⟩ | ⟨_, _, _, _, rfl⟩⟩⟩ <;> omega
theorem PieceG.r8 {bs : Nat → Nat} {n p r : Nat} {most : Int} {fv : Option (Int × Int)} {p1 r1 q1 m1 : Nat} {f1 : Option (Int × Int)} (hr : r < 8) (h : PieceG bs n p r most fv p1 r1 f1 q1 m1) : r1 < 8 := by
  rcases h with ⟨_, _, _, _, rfl⟩ | ⟨_, ⟨q, _, _, _, _, rfl⟩ | ⟨x, l, _, ⟨_, _, _, _, rfl⟩ | ⟨_, _, _, _, _, rfl⟩ | ⟨_, _, _, _, _, _, rfl⟩⟩⟩ <;> omega
theorem BitsG.r8 {bs : Nat → Nat} {n p r c : Nat} {fv : Option (Int × Int)} {p1 r1 : Nat} {f1 : Option (Int × Int)} {v1 : Nat} (hr : r < 8) (h : BitsG bs n p r c fv p1 r1 f1 v1) : r1 < 8 := by
  rcases h with ⟨_, _, _, _, rfl⟩ | ⟨_, _, _, _, _, rfl⟩ | ⟨_, _, _, _, h, _⟩ <;> omega
theorem two_byte (h : TT w N M a1 c1 a2 c2 L wr) : Calls Tryd.prog 27 #[.pointer (some ⟨N, 0, none⟩)] wr fun e w2 => ∃ x : Int, e = .returned (.int .u8 x) ∧ RF N wr w2 ∧ Below w.heap.size w w2 ∧ DK w N M a1 c1 a2 c2 L 55 #[.pointer (some ⟨M, 0, none⟩)] (.int .u8 x) w2 := by
  obtain ⟨p, r, fv, h⟩ := h
  refine (rByte_gen h.rd).mono ?_
  rintro e w2 ⟨hd, F⟩
  rcases hd with ⟨hn, rfl, hR⟩ | ⟨hn, rfl, hR⟩
  · have h2 := h.real hR F (by omega)
    refine ⟨_, rfl, F, h2.bb, fun w3 hB => ?_⟩
    have h3 := h2.below hB
    refine (dByte_gen h3.dc).mono ?_
    rintro e w4 ⟨hd, F4⟩
    rcases hd with ⟨_, rfl, hQ⟩ | ⟨hn2, _⟩
    · exact ⟨rfl, ⟨_, _, _, h3.doc hQ F4⟩, F4⟩
    · exact absurd hn hn2
  · have h2 := h.real hR F h.r8
    refine ⟨_, rfl, F, h2.bb, fun w3 hB => ?_⟩
    have h3 := h2.below hB
    refine (dByte_gen h3.dc).mono ?_
    rintro e w4 ⟨hd, F4⟩
    rcases hd with ⟨hn2, _⟩ | ⟨_, rfl, hQ⟩
    · exact absurd hn2 hn
    · exact ⟨rfl, ⟨_, _, _, h3.doc hQ F4⟩, F4⟩
theorem two_fix (h : TT w N M a1 c1 a2 c2 L wr) : Calls Tryd.prog 28 #[.pointer (some ⟨N, 0, none⟩)] wr fun e w2 => ∃ x : Int, e = .returned (.int .u32 x) ∧ RF N wr w2 ∧ Below w.heap.size w w2 ∧ DK w N M a1 c1 a2 c2 L 56 #[.pointer (some ⟨M, 0, none⟩)] (.int .u32 x) w2 := by
  obtain ⟨p, r, fv, h⟩ := h
  refine (rFix_gen h.rd).mono ?_
  rintro e w2 ⟨hd, F⟩
  rcases hd with ⟨hn, rfl, hR⟩ | ⟨hn, rfl, hR⟩
  · have h2 := h.real hR F (by omega)
    refine ⟨_, rfl, F, h2.bb, fun w3 hB => ?_⟩
    have h3 := h2.below hB
    refine (dFix_gen h3.dc).mono ?_
    rintro e w4 ⟨hd, F4⟩
    rcases hd with ⟨_, rfl, hQ⟩ | ⟨hn2, _⟩
    · exact ⟨rfl, ⟨_, _, _, h3.doc hQ F4⟩, F4⟩
    · exact absurd hn hn2
  · have h2 := h.real hR F h.r8
    refine ⟨_, rfl, F, h2.bb, fun w3 hB => ?_⟩
    have h3 := h2.below hB
    refine (dFix_gen h3.dc).mono ?_
    rintro e w4 ⟨hd, F4⟩
    rcases hd with ⟨hn2, _⟩ | ⟨_, rfl, hQ⟩
    · exact absurd hn2 hn
    · exact ⟨rfl, ⟨_, _, _, h3.doc hQ F4⟩, F4⟩
theorem two_uint (h : TT w N M a1 c1 a2 c2 L wr) (X : Nat) (hX : X < 18446744073709551616) : Calls Tryd.prog 29 #[.pointer (some ⟨N, 0, none⟩), .int .u64 (X : Int)] wr fun e w2 => ∃ x : Int, e = .returned (.int .u64 x) ∧ RF N wr w2 ∧ Below w.heap.size w w2 ∧ DK w N M a1 c1 a2 c2 L 57 #[.pointer (some ⟨M, 0, none⟩), .int .u64 (X : Int)] (.int .u64 x) w2 := by
  obtain ⟨p, r, fv, h⟩ := h
  refine (rUint_gen h.rd X).mono ?_
  rintro e w2 ⟨⟨p', r', fv', v, hG, rfl, hR⟩, F⟩
  have h2 := h.real hR F (hG.r8 h.r8)
  refine ⟨_, rfl, F, h2.bb, fun w3 hB => ?_⟩
  have h3 := h2.below hB
  refine (dUint_gen h3.dc X hX).mono ?_
  rintro e w4 ⟨⟨p3, r3, fv3, v3, hG3, rfl, hQ⟩, F4⟩
  obtain ⟨rfl, rfl, rfl, rfl⟩ := hG.uniq hG3
  exact ⟨rfl, ⟨_, _, _, h3.doc hQ F4⟩, F4⟩
theorem two_int (h : TT w N M a1 c1 a2 c2 L wr) : Calls Tryd.prog 30 #[.pointer (some ⟨N, 0, none⟩)] wr fun e w2 => ∃ x : Int, e = .returned (.int .i64 x) ∧ RF N wr w2 ∧ Below w.heap.size w w2 ∧ DK w N M a1 c1 a2 c2 L 58 #[.pointer (some ⟨M, 0, none⟩)] (.int .i64 x) w2 := by
  obtain ⟨p, r, fv, h⟩ := h
  refine (rInt_gen h.rd).mono ?_
  rintro e w2 ⟨⟨p', r', fv', v, hG, rfl, hR⟩, F⟩
  have h2 := h.real hR F (hG.r8 h.r8)
  refine ⟨_, rfl, F, h2.bb, fun w3 hB => ?_⟩
  have h3 := h2.below hB
  refine (dInt_gen h3.dc).mono ?_
  rintro e w4 ⟨⟨p3, r3, fv3, v3, hG3, rfl, hQ⟩, F4⟩
  obtain ⟨rfl, rfl, rfl, rfl⟩ := hG.uniq hG3
  exact ⟨rfl, ⟨_, _, _, h3.doc hQ F4⟩, F4⟩
theorem two_bits (h : TT w N M a1 c1 a2 c2 L wr) (X : Int) : Calls Tryd.prog 33 #[.pointer (some ⟨N, 0, none⟩), .int .i64 X] wr fun e w2 => ∃ x : Int, e = .returned (.int .u64 x) ∧ RF N wr w2 ∧ Below w.heap.size w w2 ∧ DK w N M a1 c1 a2 c2 L 61 #[.pointer (some ⟨M, 0, none⟩), .int .i64 X] (.int .u64 x) w2 := by
  obtain ⟨p, r, fv, h⟩ := h
  refine (rBits_gen h.rd h.r8 X).mono ?_
  rintro e w2 ⟨⟨p', r', fv', v, hG, rfl, hR⟩, F⟩
  have h2 := h.real hR F (hG.r8 h.r8)
  refine ⟨_, rfl, F, h2.bb, fun w3 hB => ?_⟩
  have h3 := h2.below hB
  refine (dBits_gen h3.dc X).mono ?_
  rintro e w4 ⟨⟨p3, r3, fv3, v3, hG3, rfl, hQ⟩, F4⟩
  obtain ⟨rfl, rfl, rfl, rfl⟩ := hG.uniq hG3
  exact ⟨rfl, ⟨_, _, _, h3.doc hQ F4⟩, F4⟩
theorem bytesL_inj {s t : ByteArray} (h1 : s.size = t.size) (h : bytesL (fun i => (s.data.toList.getD i 0).toNat) s.size = bytesL (fun i => (t.data.toList.getD i 0).toNat) t.size) : s = t := by
  have hs : s.data.toList.length = s.size := by rw [Array.length_toList]; rfl
  have ht : t.data.toList.length = t.size := by rw [Array.length_toList]; rfl
  have e : s.data.toList = t.data.toList := by
    apply List.ext_getElem (by omega)
    intro i hi hj
    have h2 : natsOf (bytesL (fun i => (s.data.toList.getD i 0).toNat) s.size) i = natsOf (bytesL (fun i => (t.data.toList.getD i 0).toNat) t.size) i := by rw [h]
    rw [nats_bytesL _ _ i (by omega), nats_bytesL _ _ i (by omega)] at h2
    rw [List.getD_eq_getElem?_getD, List.getD_eq_getElem?_getD, List.getElem?_eq_getElem hi, List.getElem?_eq_getElem hj] at h2
    exact UInt8.toNat.inj h2
  cases s with | mk s => cases t with | mk t => exact congrArg ByteArray.mk (Array.toList_inj.1 e)
theorem two_text (h : TT w N M a1 c1 a2 c2 L wr) (X : Int) (hX : -9223372036854775808 ≤ X ∧ X ≤ 9223372036854775807) : Calls Tryd.prog 31 #[.pointer (some ⟨N, 0, none⟩), .int .i64 X] wr fun e w2 => ∃ x : ByteArray, e = .returned (.string x) ∧ RF N wr w2 ∧ Below w.heap.size w w2 ∧ DK w N M a1 c1 a2 c2 L 59 #[.pointer (some ⟨M, 0, none⟩), .int .i64 X] (.string x) w2 := by
  obtain ⟨p, r, fv, h⟩ := h
  refine (rText_gen h.rd X hX).mono ?_
  rintro e w2 ⟨⟨p', r', fv', q, m, s, hG, rfl, hs1, hs2, _, hR⟩, F⟩
  have h2 := h.real hR F (hG.r8 h.r8)
  refine ⟨_, rfl, F, h2.bb, fun w3 hB => ?_⟩
  have h3 := h2.below hB
  refine (dText_gen h3.dc X hX).mono ?_
  rintro e w4 ⟨⟨p3, r3, fv3, q3, m3, s3, hG3, rfl, hs3, hs4, hQ⟩, F4⟩
  obtain ⟨rfl, rfl, rfl, rfl, hq⟩ := hG.uniq hG3
  have e1 : s3 = s := bytesL_inj (by omega) (by
    rw [hs4, hs2]
    rcases Nat.eq_zero_or_pos m with h0 | h0
    · rw [h0]; rfl
    · rw [hq (by omega)])
  exact ⟨by rw [e1], ⟨_, _, _, h3.doc hQ F4⟩, F4⟩
end
end Go.Proofs.YtlcpkbllpkgihaaDoor

namespace Go.Proofs.YtlcpkbllpkgihaaDoor
open Go.RowKit
set_option linter.unusedVariables false
set_option linter.unusedSimpArgs false
/-- bytes in a row that is new. -/
def Fresh (B m : Nat) (a : Option Addr) (f : Nat → Nat) (w : World) : Prop := m ≤ 140737488355327 ∧ (m = 0 ∨ ∃ g, a = some ⟨g, 0, none⟩ ∧ B ≤ g ∧ g < w.heap.size ∧ BytesAt w g 0 m f)
theorem Fresh.inn {B m : Nat} {a : Option Addr} {f : Nat → Nat} {w : World} (h : Fresh B m a f w) : BytesIn w a m f := by
  obtain ⟨h1, h0 | ⟨g, e, hB, hg, hb⟩⟩ := h
  · exact ⟨h1, Or.inl h0⟩
  · exact ⟨h1, Or.inr ⟨g, 0, e, hg, hb⟩⟩
theorem Fresh.rf {B M m : Nat} {a : Option Addr} {f : Nat → Nat} {w w' : World} (h : Fresh B m a f w) (F : RF M w w') (hM : M < B) : Fresh B m a f w' := by
  obtain ⟨h1, h0 | ⟨g, e, hB, hg, hb⟩⟩ := h
  · exact ⟨h1, Or.inl h0⟩
  · exact ⟨h1, Or.inr ⟨g, e, hB, Nat.lt_of_lt_of_le hg F.size, fun i hi => by have := hb i hi; rw [World.cell?_of_block (w := w) (F.keep g hg (by omega))]; exact this⟩⟩
theorem Fresh.below {B m : Nat} {a : Option Addr} {f : Nat → Nat} {w w' : World} (h : Fresh B m a f w) (hb : Below w.heap.size w w') : Fresh B m a f w' := by
  obtain ⟨h1, h0 | ⟨g, e, hB, hg, hb2⟩⟩ := h
  · exact ⟨h1, Or.inl h0⟩
  · exact ⟨h1, Or.inr ⟨g, e, hB, Nat.lt_of_lt_of_le hg hb.size, hb2.below hb hg⟩⟩
theorem clone_fresh (b o m c : Nat) (bs : Nat → Nat) (w : World) (h : BytesIn w (some ⟨b, o, none⟩) m bs) : Calls Tryd.prog 53 #[.slice (some ⟨b, o, none⟩) m c] w fun e w' => (∃ a c', e = .returned (.slice a m c') ∧ Fresh w.heap.size m a bs w') ∧ Below w.heap.size w w' := by
  rcases Nat.eq_zero_or_pos m with h0 | h0
  · subst h0
    refine (clone_none2 b o c w).mono ?_
    rintro e w' ⟨⟨a, c', rfl⟩, hB⟩
    exact ⟨⟨a, c', rfl, by omega, Or.inl rfl⟩, hB⟩
  · rcases h.2 with h1 | ⟨b', o', e, hb, hB⟩
    · omega
    injection e with e; injection e with e1 e2; subst e1 e2
    have hlt : ∀ i, i < m → bs i < 256 := fun i hi => (hB i hi).2
    have hm := h.1
    have hN : BytesAt w b o (bytesL bs m).length (natsOf (bytesL bs m)) := by
      intro i hi
      have hi' : i < m := by simpa [bytesL] using hi
      rw [nats_bytesL bs m i hi']; exact hB i hi'
    have hbl : (bytesL bs m).length = m := by simp [bytesL]
    refine (clone_any b o m c (enc (bytesL bs m)) w (by rw [enc_len, hbl]) (bytes_news hN) (enc_one _) h0 (by omega)).mono ?_
    rintro e w' ⟨g', cap', rfl, ho, hBe⟩
    refine ⟨⟨_, cap', rfl, h.1, Or.inr ⟨g', rfl, (ho.lt g' rfl).1, (ho.lt g' rfl).2, fun i hi => ?_⟩⟩, hBe⟩
    have := bytes_own ho (bytesL_lt hlt) i hi
    rw [nats_bytesL bs m i hi] at this
    exact this
section
variable {N : Nat} {w1 : World} {a : Option Addr} {n cap p r : Nat} {bs : Nat → Nat} {fv : Option (Int × Int)} {w : World}
set_option maxRecDepth 100000 in
theorem rRaw_fresh (h : RR N w1 a n cap bs p r fv w) (most : Int) (hmost : -9223372036854775808 ≤ most ∧ most ≤ 9223372036854775807) :
    Calls Tryd.prog 32 #[.pointer (some ⟨N, 0, none⟩), .int .i64 most] w fun e w' => (∃ p' r' fv' q m a' c, PieceG bs n p r most fv p' r' fv' q m ∧ e = .returned (.slice a' m c) ∧ Fresh w.heap.size m a' (fun i => bs (q + i)) w' ∧ RR N w1 a n cap bs p' r' fv' w') ∧ RF N w w' := by
  have hS : Hid _ := piece_gen h most hmost
  clear h
  go_enter Tryd.func32, Tryd.ntmps32
  go_wp2_with fail
  refine Calls.mono hS.out ?_
  rintro e w2 ⟨⟨p', r', fv', q, m, v, hG, rfl, hv, h2⟩, F2⟩
  rcases hv with ⟨hf, rfl⟩ | ⟨hf, hv, hqm⟩
  · have hm0 : m = 0 := by
      rcases hG with ⟨_, _, rfl, _⟩ | ⟨_, ⟨_, _, _, rfl, _⟩ | ⟨_, _, _, ⟨_, _, rfl, _⟩ | ⟨_, _, _, rfl, _⟩ | ⟨_, _, e, _⟩⟩⟩
      · rfl
      · rfl
      · rfl
      · rfl
      · exact absurd e hf
    subst hm0
    have h2H : Hid _ := h2
    have hGH : Hid (PieceG bs n p r most fv p' r' fv' q 0) := hG
    clear h2 hG
    go_wp2_with fail
    refine (clone_nil _).mono ?_
    rintro e w3 ⟨rfl, hw⟩
    have hw' := hw.symm
    subst hw'
    clear hw
    go_wp2_with fail
    go_ret
    exact ⟨⟨p', r', fv', q, 0, none, 0, hGH.out, rfl, ⟨by omega, Or.inl rfl⟩, h2H.out⟩, F2⟩
  · subst hf
    obtain ⟨b, o, c, rfl, hin⟩ := hv.bytes h2 hqm
    have hC : Hid _ := clone_fresh b o m c _ w2 hin
    have h2H : Hid _ := h2
    have hGH : Hid (PieceG bs n p r most fv p' r' none q m) := hG
    clear h2 hin hv hG
    go_wp2_with fail
    refine Calls.mono hC.out ?_
    rintro e w3 ⟨⟨a', c', rfl, hin'⟩, hB⟩
    have hin2 : Hid _ := hin'
    clear hin'
    go_wp2_with fail
    go_ret
    refine ⟨⟨p', r', none, q, m, a', c', hGH.out, rfl, ⟨hin2.out.1, ?_⟩, h2H.out.below hB⟩, F2.trans (RF.below hB)⟩
    rcases hin2.out.2 with h0 | ⟨g, e, h1, h2⟩
    · exact Or.inl h0
    · exact Or.inr ⟨g, e, by have := F2.size; omega, h2⟩
set_option maxRecDepth 100000 in
theorem rFail_gen (h : RR N w1 a n cap bs p r fv w) (x : Option (Int × Int)) : Calls Tryd.prog 62 #[.pointer (some ⟨N, 0, none⟩), fvV x] w fun e w' => e = .returned undef ∧ RR N w1 a n cap bs p r (fv.or x) w' ∧ RF N w w' := by
  have hS : Hid _ := sound_any h
  cases fv with
  | some y =>
    have hH : Hid _ := h
    obtain ⟨V, hV⟩ : ∃ V, V = fvV x := ⟨_, rfl⟩
    rw [← hV]
    clear h hV
    go_enter Tryd.func62, Tryd.ntmps62
    go_wp2_with fail
    refine Calls.mono hS.out ?_
    rintro e w2 ⟨rfl, hw⟩
    have hw' := hw.symm
    subst hw'
    clear hw
    go_wp2_with fail
    first | go_end0 | (simp only [Exit.inBlock, Exit.then]; refine bodyPost_ret (results_none rfl _ _ _) rfl ?_) | refine bodyPost_ret (results_none rfl _ _ _) rfl ?_
    exact ⟨rfl, hH.out, RF.refl _ _⟩
  | none =>
    have h2 := h.setF x
    have hF : RF N w (w.setCell ⟨N, 3, none⟩ (fvV x)) := RF.set w 3 _
    have c3 := h.c3
    have f3 := h.f3
    have hs := h.sz
    have h2H : Hid (RR N w1 a n cap bs p r x (w.setCell ⟨N, 3, none⟩ (fvV x))) := h2
    have hFH : Hid (RF N w (w.setCell ⟨N, 3, none⟩ (fvV x))) := hF
    simp only [fvV] at c3
    have hone : (fvV x).oneCell' = true := by
      cases x with
      | none => rfl
      | some y => rfl
    cases x with
    | none =>
      simp only [fvV] at h2H hFH ⊢
      clear h h2 hF
      go_enter Tryd.func62, Tryd.ntmps62
      go_wp2_with fail
      refine Calls.mono hS.out ?_
      rintro e w2 ⟨rfl, hw⟩
      have hw' := hw.symm
      subst hw'
      clear hw
      go_wp2_with fail
      first | go_end0 | (simp only [Exit.inBlock, Exit.then]; refine bodyPost_ret (results_none rfl _ _ _) rfl ?_) | refine bodyPost_ret (results_none rfl _ _ _) rfl ?_
      exact ⟨rfl, h2H.out, hFH.out⟩
    | some y =>
      obtain ⟨y1, y2⟩ := y
      simp only [fvV] at h2H hFH ⊢
      clear h h2 hF
      go_enter Tryd.func62, Tryd.ntmps62
      go_wp2_with fail
      refine Calls.mono hS.out ?_
      rintro e w2 ⟨rfl, hw⟩
      have hw' := hw.symm
      subst hw'
      clear hw
      go_wp2_with fail
      first | go_end0 | (simp only [Exit.inBlock, Exit.then]; refine bodyPost_ret (results_none rfl _ _ _) rfl ?_) | refine bodyPost_ret (results_none rfl _ _ _) rfl ?_
      exact ⟨rfl, h2H.out, hFH.out⟩
theorem faultAt0 (q : Int) (w : World) : Calls Tryd.prog 63 #[.int .i64 q, .int .i64 0] w fun ev w' => ev = .returned (fvV none) ∧ w' = w := by
  go_enter Tryd.func63, Tryd.ntmps63
  go_wp2
  go_ret
  exact ⟨rfl, rfl⟩
theorem wAt_gen (h : RR N w1 a n cap bs p r fv w) : Calls Tryd.prog 17 #[.pointer (some ⟨N, 0, none⟩)] w fun e w' => e = .returned (.int .i64 (p : Int)) ∧ w' = w := by
  have c1 := h.c1
  clear h
  go_enter Tryd.func17, Tryd.ntmps17
  go_wp2_with fail
  go_ret
  exact ⟨rfl, rfl⟩
theorem wLeft_gen (h : RR N w1 a n cap bs p r fv w) : Calls Tryd.prog 19 #[.pointer (some ⟨N, 0, none⟩)] w fun e w' => e = .returned (.int .i64 ((n : Int) - (p : Int))) ∧ RR N w1 a n cap bs p r fv w' ∧ RF N w w' := by
  have hL : Hid _ := left_any h
  clear h
  go_enter Tryd.func19, Tryd.ntmps19
  go_wp2_with fail
  refine Calls.mono hL.out ?_
  rintro e w2 ⟨rfl, h2, F2⟩
  have h2H : Hid _ := h2
  clear h2
  go_wp2_with fail
  go_ret
  exact ⟨rfl, h2H.out, F2⟩
end
section
variable {w : World} {N M : Nat} {a1 : Option Addr} {c1 : Nat} {a2 : Option Addr} {c2 : Nat} {L : List Nat} {wr w' : World}
/-- what is read behind bytes that were read. -/
def RK2 (w : World) (N M : Nat) (a1 : Option Addr) (c1 : Nat) (a2 : Option Addr) (c2 : Nat) (L : List Nat) (X : Int) (a' : Option Addr) (m c : Nat) (w2 : World) : Prop :=
  ∀ w3, Below w2.heap.size w2 w3 → Calls Tryd.prog 60 #[.pointer (some ⟨M, 0, none⟩), .int .i64 X] w3 fun e w4 => (∃ a3 c3, e = .returned (.slice a3 m c3) ∧ ∀ w5, Below w4.heap.size w4 w5 → Calls Tryd.prog 10 #[.slice a' m c, .slice a3 m c3] w5 fun e w6 => e = .returned (.bool true) ∧ Below w5.heap.size w5 w6) ∧ TT w N M a1 c1 a2 c2 L w4 ∧ RF M w3 w4
theorem two_raw (h : TT w N M a1 c1 a2 c2 L wr) (X : Int) (hX : -9223372036854775808 ≤ X ∧ X ≤ 9223372036854775807) : Calls Tryd.prog 32 #[.pointer (some ⟨N, 0, none⟩), .int .i64 X] wr fun e w2 => ∃ a' m c, e = .returned (.slice a' m c) ∧ RF N wr w2 ∧ Below w.heap.size w w2 ∧ RK2 w N M a1 c1 a2 c2 L X a' m c w2 := by
  obtain ⟨p, r, fv, h⟩ := h
  have hMz := h.dc.sz
  refine (rRaw_fresh h.rd X hX).mono ?_
  rintro e w2 ⟨⟨p', r', fv', q, m, a', c, hG, rfl, hfr, hR⟩, F⟩
  have h2 := h.real hR F (hG.r8 h.r8)
  refine ⟨a', m, c, rfl, F, h2.bb, fun w3 hB => ?_⟩
  have h3 := h2.below hB
  have hfr3 := hfr.below hB
  refine (dRaw_gen h3.dc X hX).mono ?_
  rintro e w4 ⟨⟨p3, r3, fv3, q3, m3, a3, c3, hG3, rfl, hin3, hQ⟩, F4⟩
  obtain ⟨rfl, rfl, rfl, rfl, hq⟩ := hG.uniq hG3
  have hfr4 := (hfr3.rf F4 hMz).inn
  refine ⟨⟨a3, c3, rfl, fun w5 hB5 => ?_⟩, ⟨_, _, _, h3.doc hQ F4⟩, F4⟩
  have e1 : BytesIn w4 a3 m (fun i => natsOf L (q + i)) := by
    rcases Nat.eq_zero_or_pos m with h0 | h0
    · exact ⟨hin3.1, Or.inl h0⟩
    · rw [hq (by omega)]; exact hin3
  exact same_in a' a3 m c c3 _ w5 (hfr4.below hB5) (e1.below hB5)
/-- the program's has failed. -/
def HF (w : World) (N M : Nat) (a1 : Option Addr) (c1 : Nat) (a2 : Option Addr) (c2 : Nat) (L : List Nat) (x : Option (Int × Int)) (wr : World) : Prop := ∃ p r fv, TR w N M a1 c1 a2 c2 L p r (fv.or x) p r fv wr
theorem HF.below {x : Option (Int × Int)} (h : HF w N M a1 c1 a2 c2 L x wr) (hb : Below wr.heap.size wr w') : HF w N M a1 c1 a2 c2 L x w' := by
  obtain ⟨p, r, fv, h⟩ := h
  exact ⟨p, r, fv, h.below hb⟩
theorem HF.none (h : HF w N M a1 c1 a2 c2 L none wr) : TT w N M a1 c1 a2 c2 L wr := by
  obtain ⟨p, r, fv, h⟩ := h
  rw [show fv.or Option.none = fv by cases fv <;> rfl] at h
  exact ⟨p, r, fv, h⟩
theorem two_fail1 (h : TT w N M a1 c1 a2 c2 L wr) (x : Option (Int × Int)) : Calls Tryd.prog 62 #[.pointer (some ⟨N, 0, none⟩), fvV x] wr fun e w2 => e = .returned undef ∧ RF N wr w2 ∧ Below w.heap.size w w2 ∧ HF w N M a1 c1 a2 c2 L x w2 := by
  obtain ⟨p, r, fv, h⟩ := h
  refine (rFail_gen h.rd x).mono ?_
  rintro e w2 ⟨rfl, hR, F⟩
  have h2 := h.real hR F h.r8
  exact ⟨rfl, F, h2.bb, p, r, fv, h2⟩
theorem two_fail2 (q e : Int) (he : (e == 0) = false) (h : HF w N M a1 c1 a2 c2 L (some (q, e)) wr) : Calls Tryd.prog 64 #[.pointer (some ⟨M, 0, none⟩), badV q e] wr fun ev w2 => ev = .returned undef ∧ TT w N M a1 c1 a2 c2 L w2 := by
  obtain ⟨p, r, fv, h⟩ := h
  cases fv with
  | none =>
    refine (dFail_new h.dc q e he).mono ?_
    rintro ev w2 ⟨rfl, hQ, F⟩
    exact ⟨rfl, p, r, _, h.doc hQ F⟩
  | some y =>
    refine (dFail_old y h.dc q e).mono ?_
    rintro ev w2 ⟨rfl, hQ, F⟩
    exact ⟨rfl, p, r, _, h.doc hQ F⟩
end
end Go.Proofs.YtlcpkbllpkgihaaDoor

namespace Go.Proofs.YtlcpkbllpkgihaaDoor
open Go.RowKit
set_option linter.unusedVariables false
set_option linter.unusedSimpArgs false
section
variable {w : World} {N M : Nat} {a1 : Option Addr} {c1 : Nat} {a2 : Option Addr} {c2 : Nat} {L : List Nat} {wr w' : World}
theorem RK2.drew {X : Int} {a' : Option Addr} {m c : Nat} {w2 : World} (h : RK2 w N M a1 c1 a2 c2 L X a' m c w2) : RK2 w N M a1 c1 a2 c2 L X a' m c w2.drew := fun w3 hB => h w3 ((Below.refl _ _).drew.trans hB)
theorem RK2.now {X : Int} {a' : Option Addr} {m c : Nat} {w2 : World} (h : RK2 w N M a1 c1 a2 c2 L X a' m c w2) : Calls Tryd.prog 60 #[.pointer (some ⟨M, 0, none⟩), .int .i64 X] w2 fun e w4 => (∃ a3 c3, e = .returned (.slice a3 m c3) ∧ ∀ w5, Below w4.heap.size w4 w5 → Calls Tryd.prog 10 #[.slice a' m c, .slice a3 m c3] w5 fun e w6 => e = .returned (.bool true) ∧ Below w5.heap.size w5 w6) ∧ TT w N M a1 c1 a2 c2 L w4 ∧ RF M w2 w4 := h _ (Below.refl _ _)
set_option maxRecDepth 100000 in
set_option maxHeartbeats 4000000 in
theorem read_0 (h : TT w N M a1 c1 a2 c2 L wr) (X : Nat) (hX : X < 18446744073709551616) (B : Int) (hB : -9223372036854775808 ≤ B ∧ B ≤ 9223372036854775807) (sa : Option Addr) (sm sc : Nat) :
    Calls Tryd.prog 16 #[.pointer (some ⟨N, 0, none⟩), .pointer (some ⟨M, 0, none⟩), .agg #[.int .i64 0, .int .u64 (X : Int), .int .i64 B, .slice sa sm sc]] wr fun e w' => e = .returned (.bool true) ∧ TT w N M a1 c1 a2 c2 L w' := by
  obtain ⟨wz, hwz⟩ : ∃ wz, wz = wr.alloc (.cells #[.int .i64 0, .int .u64 (X : Int), .int .i64 B, .slice sa sm sc] 32) := ⟨_, rfl⟩
  obtain ⟨z, hz⟩ : ∃ z, z = wr.heap.size := ⟨_, rfl⟩
  have hBz : Below wr.heap.size wr wz := by rw [hwz]; exact below_new (Below.refl _ _) _
  have hT := h.below hBz
  have hsz := h.sz
  have hzN : z ≠ N := by omega
  have hzM : z ≠ M := by omega
  have S2 : Below w.heap.size w wz ∧ z < wz.heap.size ∧ wz.cell? ⟨z, 0, none⟩ = some (.int .i64 0) ∧ wz.cell? ⟨z, 1, none⟩ = some (.int .u64 (X : Int)) ∧ wz.cell? ⟨z, 2, none⟩ = some (.int .i64 B) ∧ wz.cell? ⟨z, 3, none⟩ = some (.slice sa sm sc) :=
    ⟨hT.bb, by rw [hwz, hz]; simp, by rw [hwz, hz]; simp [go_sem], by rw [hwz, hz]; simp [go_sem], by rw [hwz, hz]; simp [go_sem], by rw [hwz, hz]; simp [go_sem]⟩
  have hwzH : Hid _ := hwz
  have hzH : Hid _ := hz
  clear h hwz hz hBz hsz
  have hR : Hid _ := two_byte hT
  clear hT S2
  go_enter Tryd.func16, Tryd.ntmps16
  go_wp2_with fail
  rw [← hwzH.out]
  refine Calls.mono hR.out ?_
  rintro e w5 ⟨x, rfl, hFn, hBn, hWn⟩
  have hWnH : Hid _ := hWn.now
  clear hWn
  go_wp2_with fail
  refine Calls.mono hWnH.out ?_
  rintro e w6 ⟨rfl, hT6, F6⟩
  have hTH : Hid _ := hT6
  clear hT6
  go_wp2_with fail
  go_ret
  exact ⟨by simp, hTH.out⟩
set_option maxRecDepth 100000 in
set_option maxHeartbeats 4000000 in
theorem read_1 (h : TT w N M a1 c1 a2 c2 L wr) (X : Nat) (hX : X < 18446744073709551616) (B : Int) (hB : -9223372036854775808 ≤ B ∧ B ≤ 9223372036854775807) (sa : Option Addr) (sm sc : Nat) :
    Calls Tryd.prog 16 #[.pointer (some ⟨N, 0, none⟩), .pointer (some ⟨M, 0, none⟩), .agg #[.int .i64 1, .int .u64 (X : Int), .int .i64 B, .slice sa sm sc]] wr fun e w' => e = .returned (.bool true) ∧ TT w N M a1 c1 a2 c2 L w' := by
  obtain ⟨wz, hwz⟩ : ∃ wz, wz = wr.alloc (.cells #[.int .i64 1, .int .u64 (X : Int), .int .i64 B, .slice sa sm sc] 32) := ⟨_, rfl⟩
  obtain ⟨z, hz⟩ : ∃ z, z = wr.heap.size := ⟨_, rfl⟩
  have hBz : Below wr.heap.size wr wz := by rw [hwz]; exact below_new (Below.refl _ _) _
  have hT := h.below hBz
  have hsz := h.sz
  have hzN : z ≠ N := by omega
  have hzM : z ≠ M := by omega
  have S2 : Below w.heap.size w wz ∧ z < wz.heap.size ∧ wz.cell? ⟨z, 0, none⟩ = some (.int .i64 1) ∧ wz.cell? ⟨z, 1, none⟩ = some (.int .u64 (X : Int)) ∧ wz.cell? ⟨z, 2, none⟩ = some (.int .i64 B) ∧ wz.cell? ⟨z, 3, none⟩ = some (.slice sa sm sc) :=
    ⟨hT.bb, by rw [hwz, hz]; simp, by rw [hwz, hz]; simp [go_sem], by rw [hwz, hz]; simp [go_sem], by rw [hwz, hz]; simp [go_sem], by rw [hwz, hz]; simp [go_sem]⟩
  have hwzH : Hid _ := hwz
  have hzH : Hid _ := hz
  clear h hwz hz hBz hsz
  have hR : Hid _ := two_fix hT
  clear hT S2
  go_enter Tryd.func16, Tryd.ntmps16
  go_wp2_with fail
  rw [← hwzH.out]
  refine Calls.mono hR.out ?_
  rintro e w5 ⟨x, rfl, hFn, hBn, hWn⟩
  have hWnH : Hid _ := hWn.now
  clear hWn
  go_wp2_with fail
  refine Calls.mono hWnH.out ?_
  rintro e w6 ⟨rfl, hT6, F6⟩
  have hTH : Hid _ := hT6
  clear hT6
  go_wp2_with fail
  go_ret
  exact ⟨by simp, hTH.out⟩
set_option maxRecDepth 100000 in
set_option maxHeartbeats 4000000 in
theorem read_3 (h : TT w N M a1 c1 a2 c2 L wr) (X : Nat) (hX : X < 18446744073709551616) (B : Int) (hB : -9223372036854775808 ≤ B ∧ B ≤ 9223372036854775807) (sa : Option Addr) (sm sc : Nat) :
    Calls Tryd.prog 16 #[.pointer (some ⟨N, 0, none⟩), .pointer (some ⟨M, 0, none⟩), .agg #[.int .i64 3, .int .u64 (X : Int), .int .i64 B, .slice sa sm sc]] wr fun e w' => e = .returned (.bool true) ∧ TT w N M a1 c1 a2 c2 L w' := by
  obtain ⟨wz, hwz⟩ : ∃ wz, wz = wr.alloc (.cells #[.int .i64 3, .int .u64 (X : Int), .int .i64 B, .slice sa sm sc] 32) := ⟨_, rfl⟩
  obtain ⟨z, hz⟩ : ∃ z, z = wr.heap.size := ⟨_, rfl⟩
  have hBz : Below wr.heap.size wr wz := by rw [hwz]; exact below_new (Below.refl _ _) _
  have hT := h.below hBz
  have hsz := h.sz
  have hzN : z ≠ N := by omega
  have hzM : z ≠ M := by omega
  have S2 : Below w.heap.size w wz ∧ z < wz.heap.size ∧ wz.cell? ⟨z, 0, none⟩ = some (.int .i64 3) ∧ wz.cell? ⟨z, 1, none⟩ = some (.int .u64 (X : Int)) ∧ wz.cell? ⟨z, 2, none⟩ = some (.int .i64 B) ∧ wz.cell? ⟨z, 3, none⟩ = some (.slice sa sm sc) :=
    ⟨hT.bb, by rw [hwz, hz]; simp, by rw [hwz, hz]; simp [go_sem], by rw [hwz, hz]; simp [go_sem], by rw [hwz, hz]; simp [go_sem], by rw [hwz, hz]; simp [go_sem]⟩
  have hwzH : Hid _ := hwz
  have hzH : Hid _ := hz
  clear h hwz hz hBz hsz
  have hR : Hid _ := two_int hT
  clear hT S2
  go_enter Tryd.func16, Tryd.ntmps16
  go_wp2_with fail
  rw [← hwzH.out]
  refine Calls.mono hR.out ?_
  rintro e w5 ⟨x, rfl, hFn, hBn, hWn⟩
  have hWnH : Hid _ := hWn.now
  clear hWn
  go_wp2_with fail
  refine Calls.mono hWnH.out ?_
  rintro e w6 ⟨rfl, hT6, F6⟩
  have hTH : Hid _ := hT6
  clear hT6
  go_wp2_with fail
  go_ret
  exact ⟨by simp, hTH.out⟩
set_option maxRecDepth 100000 in
set_option maxHeartbeats 4000000 in
theorem read_2 (h : TT w N M a1 c1 a2 c2 L wr) (X : Nat) (hX : X < 18446744073709551616) (B : Int) (hB : -9223372036854775808 ≤ B ∧ B ≤ 9223372036854775807) (sa : Option Addr) (sm sc : Nat) :
    Calls Tryd.prog 16 #[.pointer (some ⟨N, 0, none⟩), .pointer (some ⟨M, 0, none⟩), .agg #[.int .i64 2, .int .u64 (X : Int), .int .i64 B, .slice sa sm sc]] wr fun e w' => e = .returned (.bool true) ∧ TT w N M a1 c1 a2 c2 L w' := by
  obtain ⟨wz, hwz⟩ : ∃ wz, wz = wr.alloc (.cells #[.int .i64 2, .int .u64 (X : Int), .int .i64 B, .slice sa sm sc] 32) := ⟨_, rfl⟩
  obtain ⟨z, hz⟩ : ∃ z, z = wr.heap.size := ⟨_, rfl⟩
  have hBz : Below wr.heap.size wr wz := by rw [hwz]; exact below_new (Below.refl _ _) _
  have hT := h.below hBz
  have hsz := h.sz
  have hzN : z ≠ N := by omega
  have hzM : z ≠ M := by omega
  have S2 : Below w.heap.size w wz ∧ z < wz.heap.size ∧ wz.cell? ⟨z, 0, none⟩ = some (.int .i64 2) ∧ wz.cell? ⟨z, 1, none⟩ = some (.int .u64 (X : Int)) ∧ wz.cell? ⟨z, 2, none⟩ = some (.int .i64 B) ∧ wz.cell? ⟨z, 3, none⟩ = some (.slice sa sm sc) :=
    ⟨hT.bb, by rw [hwz, hz]; simp, by rw [hwz, hz]; simp [go_sem], by rw [hwz, hz]; simp [go_sem], by rw [hwz, hz]; simp [go_sem], by rw [hwz, hz]; simp [go_sem]⟩
  have hwzH : Hid _ := hwz
  have hzH : Hid _ := hz
  clear h hwz hz hBz hsz
  have S2d : Below w.heap.size w wz.drew ∧ z < wz.drew.heap.size ∧ wz.drew.cell? ⟨z, 0, none⟩ = some (.int .i64 2) ∧ wz.drew.cell? ⟨z, 1, none⟩ = some (.int .u64 (X : Int)) ∧ wz.drew.cell? ⟨z, 2, none⟩ = some (.int .i64 B) ∧ wz.drew.cell? ⟨z, 3, none⟩ = some (.slice sa sm sc) := ⟨S2.1.drew, S2.2⟩
  have hTd : TT w N M a1 c1 a2 c2 L wz.drew := hT.below (Below.refl _ _).drew
  have hR : Hid (∀ w', TT w N M a1 c1 a2 c2 L w' → _) := fun w' h' => two_uint h' X hX
  go_enter Tryd.func16, Tryd.ntmps16
  go_wp2_with fail
  rw [← hwzH.out, ← hzH.out]
  go_region_held3 (fun w' => Below w.heap.size w w' ∧ z < w'.heap.size ∧ w'.cell? ⟨z, 0, none⟩ = some (.int .i64 2) ∧ w'.cell? ⟨z, 1, none⟩ = some (.int .u64 (X : Int)) ∧ w'.cell? ⟨z, 2, none⟩ = some (.int .i64 B) ∧ w'.cell? ⟨z, 3, none⟩ = some (.slice sa sm sc)) (first | assumption)
    (first
      | (go_at_call 29; (with_reducible refine Calls.mono (hR.out _ (by assumption)) ?_); rintro e w' ⟨x, rfl, hFn, hBn, hWn⟩; have SS := keepZ hFn hzN hBn (by assumption); have hWn2 := hWn.drew)
      | (go_at_call 57; (with_reducible refine Calls.mono (DK.now (w := w) (N := N) (M := M) (a1 := a1) (c1 := c1) (a2 := a2) (c2 := c2) (L := L) (by assumption)) ?_); rintro e w' ⟨rfl, hT6, F6⟩; have SS := keepZ F6 hzM (TT.bb hT6) (by assumption)))
  all_goals
    go_wp2_with fail
    go_ret
    exact ⟨by simp, by assumption⟩
set_option maxRecDepth 100000 in
set_option maxHeartbeats 4000000 in
theorem read_4 (h : TT w N M a1 c1 a2 c2 L wr) (X : Nat) (hX : X < 18446744073709551616) (B : Int) (hB : -9223372036854775808 ≤ B ∧ B ≤ 9223372036854775807) (sa : Option Addr) (sm sc : Nat) :
    Calls Tryd.prog 16 #[.pointer (some ⟨N, 0, none⟩), .pointer (some ⟨M, 0, none⟩), .agg #[.int .i64 4, .int .u64 (X : Int), .int .i64 B, .slice sa sm sc]] wr fun e w' => e = .returned (.bool true) ∧ TT w N M a1 c1 a2 c2 L w' := by
  obtain ⟨wz, hwz⟩ : ∃ wz, wz = wr.alloc (.cells #[.int .i64 4, .int .u64 (X : Int), .int .i64 B, .slice sa sm sc] 32) := ⟨_, rfl⟩
  obtain ⟨z, hz⟩ : ∃ z, z = wr.heap.size := ⟨_, rfl⟩
  have hBz : Below wr.heap.size wr wz := by rw [hwz]; exact below_new (Below.refl _ _) _
  have hT := h.below hBz
  have hsz := h.sz
  have hzN : z ≠ N := by omega
  have hzM : z ≠ M := by omega
  have S2 : Below w.heap.size w wz ∧ z < wz.heap.size ∧ wz.cell? ⟨z, 0, none⟩ = some (.int .i64 4) ∧ wz.cell? ⟨z, 1, none⟩ = some (.int .u64 (X : Int)) ∧ wz.cell? ⟨z, 2, none⟩ = some (.int .i64 B) ∧ wz.cell? ⟨z, 3, none⟩ = some (.slice sa sm sc) :=
    ⟨hT.bb, by rw [hwz, hz]; simp, by rw [hwz, hz]; simp [go_sem], by rw [hwz, hz]; simp [go_sem], by rw [hwz, hz]; simp [go_sem], by rw [hwz, hz]; simp [go_sem]⟩
  have hwzH : Hid _ := hwz
  have hzH : Hid _ := hz
  clear h hwz hz hBz hsz
  have S2d : Below w.heap.size w wz.drew ∧ z < wz.drew.heap.size ∧ wz.drew.cell? ⟨z, 0, none⟩ = some (.int .i64 4) ∧ wz.drew.cell? ⟨z, 1, none⟩ = some (.int .u64 (X : Int)) ∧ wz.drew.cell? ⟨z, 2, none⟩ = some (.int .i64 B) ∧ wz.drew.cell? ⟨z, 3, none⟩ = some (.slice sa sm sc) := ⟨S2.1.drew, S2.2⟩
  have hTd : TT w N M a1 c1 a2 c2 L wz.drew := hT.below (Below.refl _ _).drew
  have hR : Hid (∀ w', TT w N M a1 c1 a2 c2 L w' → _) := fun w' h' => two_text h' B hB
  go_enter Tryd.func16, Tryd.ntmps16
  go_wp2_with fail
  rw [← hwzH.out, ← hzH.out]
  go_region_held3 (fun w' => Below w.heap.size w w' ∧ z < w'.heap.size ∧ w'.cell? ⟨z, 0, none⟩ = some (.int .i64 4) ∧ w'.cell? ⟨z, 1, none⟩ = some (.int .u64 (X : Int)) ∧ w'.cell? ⟨z, 2, none⟩ = some (.int .i64 B) ∧ w'.cell? ⟨z, 3, none⟩ = some (.slice sa sm sc)) (first | assumption)
    (first
      | (go_at_call 31; (with_reducible refine Calls.mono (hR.out _ (by assumption)) ?_); rintro e w' ⟨x, rfl, hFn, hBn, hWn⟩; have SS := keepZ hFn hzN hBn (by assumption); have hWn2 := hWn.drew)
      | (go_at_call 59; (with_reducible refine Calls.mono (DK.now (w := w) (N := N) (M := M) (a1 := a1) (c1 := c1) (a2 := a2) (c2 := c2) (L := L) (by assumption)) ?_); rintro e w' ⟨rfl, hT6, F6⟩; have SS := keepZ F6 hzM (TT.bb hT6) (by assumption)))
  all_goals
    go_wp2_with fail
    go_ret
    exact ⟨by simp, by assumption⟩
set_option maxRecDepth 100000 in
set_option maxHeartbeats 4000000 in
theorem read_6 (h : TT w N M a1 c1 a2 c2 L wr) (X : Nat) (hX : X < 18446744073709551616) (B : Int) (hB : -9223372036854775808 ≤ B ∧ B ≤ 9223372036854775807) (sa : Option Addr) (sm sc : Nat) :
    Calls Tryd.prog 16 #[.pointer (some ⟨N, 0, none⟩), .pointer (some ⟨M, 0, none⟩), .agg #[.int .i64 6, .int .u64 (X : Int), .int .i64 B, .slice sa sm sc]] wr fun e w' => e = .returned (.bool true) ∧ TT w N M a1 c1 a2 c2 L w' := by
  obtain ⟨wz, hwz⟩ : ∃ wz, wz = wr.alloc (.cells #[.int .i64 6, .int .u64 (X : Int), .int .i64 B, .slice sa sm sc] 32) := ⟨_, rfl⟩
  obtain ⟨z, hz⟩ : ∃ z, z = wr.heap.size := ⟨_, rfl⟩
  have hBz : Below wr.heap.size wr wz := by rw [hwz]; exact below_new (Below.refl _ _) _
  have hT := h.below hBz
  have hsz := h.sz
  have hzN : z ≠ N := by omega
  have hzM : z ≠ M := by omega
  have S2 : Below w.heap.size w wz ∧ z < wz.heap.size ∧ wz.cell? ⟨z, 0, none⟩ = some (.int .i64 6) ∧ wz.cell? ⟨z, 1, none⟩ = some (.int .u64 (X : Int)) ∧ wz.cell? ⟨z, 2, none⟩ = some (.int .i64 B) ∧ wz.cell? ⟨z, 3, none⟩ = some (.slice sa sm sc) :=
    ⟨hT.bb, by rw [hwz, hz]; simp, by rw [hwz, hz]; simp [go_sem], by rw [hwz, hz]; simp [go_sem], by rw [hwz, hz]; simp [go_sem], by rw [hwz, hz]; simp [go_sem]⟩
  have hwzH : Hid _ := hwz
  have hzH : Hid _ := hz
  clear h hwz hz hBz hsz
  have S2d : Below w.heap.size w wz.drew ∧ z < wz.drew.heap.size ∧ wz.drew.cell? ⟨z, 0, none⟩ = some (.int .i64 6) ∧ wz.drew.cell? ⟨z, 1, none⟩ = some (.int .u64 (X : Int)) ∧ wz.drew.cell? ⟨z, 2, none⟩ = some (.int .i64 B) ∧ wz.drew.cell? ⟨z, 3, none⟩ = some (.slice sa sm sc) := ⟨S2.1.drew, S2.2⟩
  have hTd : TT w N M a1 c1 a2 c2 L wz.drew := hT.below (Below.refl _ _).drew
  have hR : Hid (∀ w', TT w N M a1 c1 a2 c2 L w' → _) := fun w' h' => two_bits h' B
  go_enter Tryd.func16, Tryd.ntmps16
  go_wp2_with fail
  rw [← hwzH.out, ← hzH.out]
  go_region_held3 (fun w' => Below w.heap.size w w' ∧ z < w'.heap.size ∧ w'.cell? ⟨z, 0, none⟩ = some (.int .i64 6) ∧ w'.cell? ⟨z, 1, none⟩ = some (.int .u64 (X : Int)) ∧ w'.cell? ⟨z, 2, none⟩ = some (.int .i64 B) ∧ w'.cell? ⟨z, 3, none⟩ = some (.slice sa sm sc)) (first | assumption)
    (first
      | (go_at_call 33; (with_reducible refine Calls.mono (hR.out _ (by assumption)) ?_); rintro e w' ⟨x, rfl, hFn, hBn, hWn⟩; have SS := keepZ hFn hzN hBn (by assumption); have hWn2 := hWn.drew)
      | (go_at_call 61; (with_reducible refine Calls.mono (DK.now (w := w) (N := N) (M := M) (a1 := a1) (c1 := c1) (a2 := a2) (c2 := c2) (L := L) (by assumption)) ?_); rintro e w' ⟨rfl, hT6, F6⟩; have SS := keepZ F6 hzM (TT.bb hT6) (by assumption)))
  all_goals
    go_wp2_with fail
    go_ret
    exact ⟨by simp, by assumption⟩
end
end Go.Proofs.YtlcpkbllpkgihaaDoor

namespace Go.Proofs.YtlcpkbllpkgihaaDoor
open Go.RowKit
set_option linter.unusedVariables false
set_option linter.unusedSimpArgs false
section
variable {w : World} {N M : Nat} {a1 : Option Addr} {c1 : Nat} {a2 : Option Addr} {c2 : Nat} {L : List Nat} {wr w' : World}
set_option maxRecDepth 100000 in
set_option maxHeartbeats 4000000 in
theorem read_5 (h : TT w N M a1 c1 a2 c2 L wr) (X : Nat) (hX : X < 18446744073709551616) (B : Int) (hB : -9223372036854775808 ≤ B ∧ B ≤ 9223372036854775807) (sa : Option Addr) (sm sc : Nat) :
    Calls Tryd.prog 16 #[.pointer (some ⟨N, 0, none⟩), .pointer (some ⟨M, 0, none⟩), .agg #[.int .i64 5, .int .u64 (X : Int), .int .i64 B, .slice sa sm sc]] wr fun e w' => e = .returned (.bool true) ∧ TT w N M a1 c1 a2 c2 L w' := by
  obtain ⟨wz, hwz⟩ : ∃ wz, wz = wr.alloc (.cells #[.int .i64 5, .int .u64 (X : Int), .int .i64 B, .slice sa sm sc] 32) := ⟨_, rfl⟩
  obtain ⟨z, hz⟩ : ∃ z, z = wr.heap.size := ⟨_, rfl⟩
  have hBz : Below wr.heap.size wr wz := by rw [hwz]; exact below_new (Below.refl _ _) _
  have hT := h.below hBz
  have hsz := h.sz
  have hzN : z ≠ N := by omega
  have hzM : z ≠ M := by omega
  have S2 : Below w.heap.size w wz ∧ z < wz.heap.size ∧ wz.cell? ⟨z, 0, none⟩ = some (.int .i64 5) ∧ wz.cell? ⟨z, 1, none⟩ = some (.int .u64 (X : Int)) ∧ wz.cell? ⟨z, 2, none⟩ = some (.int .i64 B) ∧ wz.cell? ⟨z, 3, none⟩ = some (.slice sa sm sc) :=
    ⟨hT.bb, by rw [hwz, hz]; simp, by rw [hwz, hz]; simp [go_sem], by rw [hwz, hz]; simp [go_sem], by rw [hwz, hz]; simp [go_sem], by rw [hwz, hz]; simp [go_sem]⟩
  have hwzH : Hid _ := hwz
  have hzH : Hid _ := hz
  clear h hwz hz hBz hsz
  have S2d : Below w.heap.size w wz.drew ∧ z < wz.drew.heap.size ∧ wz.drew.cell? ⟨z, 0, none⟩ = some (.int .i64 5) ∧ wz.drew.cell? ⟨z, 1, none⟩ = some (.int .u64 (X : Int)) ∧ wz.drew.cell? ⟨z, 2, none⟩ = some (.int .i64 B) ∧ wz.drew.cell? ⟨z, 3, none⟩ = some (.slice sa sm sc) := ⟨S2.1.drew, S2.2⟩
  have hTd : TT w N M a1 c1 a2 c2 L wz.drew := hT.below (Below.refl _ _).drew
  have hR : Hid (∀ w', TT w N M a1 c1 a2 c2 L w' → _) := fun w' h' => two_raw h' B hB
  go_enter Tryd.func16, Tryd.ntmps16
  go_wp2_with fail
  rw [← hwzH.out, ← hzH.out]
  go_region_held3 (fun w' => Below w.heap.size w w' ∧ z < w'.heap.size ∧ w'.cell? ⟨z, 0, none⟩ = some (.int .i64 5) ∧ w'.cell? ⟨z, 1, none⟩ = some (.int .u64 (X : Int)) ∧ w'.cell? ⟨z, 2, none⟩ = some (.int .i64 B) ∧ w'.cell? ⟨z, 3, none⟩ = some (.slice sa sm sc)) (first | assumption)
    (first
      | (go_at_call 32; (with_reducible refine Calls.mono (hR.out _ (by assumption)) ?_); rintro e w' ⟨a', m', c', rfl, hFn, hBn, hWn⟩; have SS := keepZ hFn hzN hBn (by assumption); have hWn2 := hWn.drew)
      | (go_at_call 60; (with_reducible refine Calls.mono (RK2.now (w := w) (N := N) (M := M) (a1 := a1) (c1 := c1) (a2 := a2) (c2 := c2) (L := L) (by assumption)) ?_); rintro e w' ⟨⟨a3, c3, rfl, hSm⟩, hT6, F6⟩; have SS := keepZ F6 hzM (TT.bb hT6) (by assumption); have hT6d := TT.below hT6 (Below.refl _ _).drew; have hSm1 := hSm _ (Below.refl _ _); have hSm2 := hSm _ (Below.refl _ _).drew)
      | (go_at_call 10; (with_reducible (first | refine Calls.mono hSm1 ?_ | refine Calls.mono hSm2 ?_)); rintro e w' ⟨rfl, hB7⟩; (first | have hT7 := TT.below hT6 hB7 | have hT7 := TT.below hT6d hB7); have SS := keepZ (N := N) (RF.below hB7) hzN (TT.bb hT7) (by assumption)))
  all_goals
    go_wp2_with fail
    go_ret
    exact ⟨by simp, by assumption⟩
set_option maxRecDepth 100000 in
set_option maxHeartbeats 4000000 in
theorem read_else (h : TT w N M a1 c1 a2 c2 L wr) (K : Int) (hK : K ≠ 0 ∧ K ≠ 1 ∧ K ≠ 2 ∧ K ≠ 3 ∧ K ≠ 4 ∧ K ≠ 5 ∧ K ≠ 6 ∧ K ≠ 7) (X : Nat) (B : Int) (sa : Option Addr) (sm sc : Nat) :
    Calls Tryd.prog 16 #[.pointer (some ⟨N, 0, none⟩), .pointer (some ⟨M, 0, none⟩), .agg #[.int .i64 K, .int .u64 (X : Int), .int .i64 B, .slice sa sm sc]] wr fun e w' => e = .returned (.bool true) ∧ TT w N M a1 c1 a2 c2 L w' := by
  have hT := h.below (below_new (Below.refl _ wr) (.cells #[.int .i64 K, .int .u64 (X : Int), .int .i64 B, .slice sa sm sc] 32))
  obtain ⟨k0, k1, k2, k3, k4, k5, k6, k7⟩ := hK
  have hTH : Hid _ := hT
  clear h hT
  go_enter Tryd.func16, Tryd.ntmps16
  go_wp2_with fail
  go_ret
  exact ⟨rfl, hTH.out⟩
set_option maxRecDepth 100000 in
set_option maxHeartbeats 4000000 in
theorem read_7 (h : TT w N M a1 c1 a2 c2 L wr) (X : Nat) (hX : X < 18446744073709551616) (B : Int) (hB : -9223372036854775808 ≤ B ∧ B ≤ 9223372036854775807) (sa : Option Addr) (sm sc : Nat) :
    Calls Tryd.prog 16 #[.pointer (some ⟨N, 0, none⟩), .pointer (some ⟨M, 0, none⟩), .agg #[.int .i64 7, .int .u64 (X : Int), .int .i64 B, .slice sa sm sc]] wr fun e w' => e = .returned (.bool true) ∧ TT w N M a1 c1 a2 c2 L w' := by
  obtain ⟨wz, hwz⟩ : ∃ wz, wz = wr.alloc (.cells #[.int .i64 7, .int .u64 (X : Int), .int .i64 B, .slice sa sm sc] 32) := ⟨_, rfl⟩
  obtain ⟨z, hz⟩ : ∃ z, z = wr.heap.size := ⟨_, rfl⟩
  have hBz : Below wr.heap.size wr wz := by rw [hwz]; exact below_new (Below.refl _ _) _
  have hT := h.below hBz
  have hsz := h.sz
  have hzN : z ≠ N := by omega
  have hzM : z ≠ M := by omega
  have S2 : Below w.heap.size w wz ∧ z < wz.heap.size ∧ wz.cell? ⟨z, 0, none⟩ = some (.int .i64 7) ∧ wz.cell? ⟨z, 1, none⟩ = some (.int .u64 (X : Int)) ∧ wz.cell? ⟨z, 2, none⟩ = some (.int .i64 B) ∧ wz.cell? ⟨z, 3, none⟩ = some (.slice sa sm sc) :=
    ⟨hT.bb, by rw [hwz, hz]; simp, by rw [hwz, hz]; simp [go_sem], by rw [hwz, hz]; simp [go_sem], by rw [hwz, hz]; simp [go_sem], by rw [hwz, hz]; simp [go_sem]⟩
  have hwzH : Hid _ := hwz
  have hzH : Hid _ := hz
  clear h hwz hz hBz hsz
  have c1z := S2.2.2.2.1
  have c2z := S2.2.2.2.2.1
  obtain ⟨E, hE⟩ : ∃ E, E = X % 400 := ⟨_, rfl⟩
  have hElt : E < 400 := by omega
  have hEI : (X : Int) % 400 = (E : Int) := by omega
  have hEt : (X : Int).tmod 400 = (E : Int) := by rw [Int.tmod_eq_emod_of_nonneg (by omega)]; omega
  have hEw : IntKind.i64.wrap (E : Int) = (E : Int) := IntWalk.i64_in _ (by omega)
  have hEu : IntKind.u64.wrap (E : Int) = (E : Int) := by rw [IntKind.wrap_u64]; omega
  have hE64 : wrap64 (E : Int) = (E : Int) := by unfold wrap64; omega
  have hTH : Hid _ := hT
  clear hT hE S2
  by_cases he : E = 0
  · subst he
    have hEI0 : (X : Int) % 400 = 0 := by omega
    have hEt0 : (X : Int).tmod 400 = 0 := by rw [Int.tmod_eq_emod_of_nonneg (by omega)]; omega
    clear hEI hEt hEw hEu hE64 hElt
    go_enter Tryd.func16, Tryd.ntmps16
    go_wp2_with fail
    rw [← hwzH.out]
    refine Calls.mono (faultAt0 B _) ?_
    rintro e w3 ⟨rfl, hw⟩
    have hw' := hw.symm
    subst hw'
    clear hw
    have hF1 : Hid _ := two_fail1 hTH.out none
    go_wp2_with fail
    refine Calls.mono hF1.out ?_
    rintro e w4 ⟨rfl, F4, hB4, hH4⟩
    have hT4 : Hid _ := hH4.none
    clear hH4
    go_wp2_with fail
    go_ret
    exact ⟨rfl, hT4.out⟩
  · have heI : ¬ (E : Int) = 0 := by omega
    have heb : ((E : Int) == 0) = false := by rw [beq_eq_false_iff_ne]; omega
    have hzl : z < wz.heap.size := World.block_lt_of_cell? _ _ c2z
    go_enter Tryd.func16, Tryd.ntmps16
    go_wp2_with fail
    rw [← hwzH.out]
    refine Calls.mono (faultAt B (E : Int) heb _) ?_
    rintro e w3 ⟨rfl, hw⟩
    have hw' := hw.symm
    subst hw'
    clear hw
    have hF1 : Hid _ := two_fail1 hTH.out (some (B, (E : Int)))
    go_wp2_with fail
    refine Calls.mono hF1.out ?_
    rintro e w4 ⟨rfl, F4, hB4, hH4⟩
    have d2 : w4.cell? ⟨z, 2, none⟩ = some (.int .i64 B) := by rw [World.cell?_of_block (w := wz) (F4.keep z hzl hzN)]; exact c2z
    have d2' := d2
    rw [hzH.out] at d2'
    have hH4H : Hid (HF w N M a1 c1 a2 c2 L (some (B, (E : Int))) w4) := hH4
    clear hH4 hF1
    go_wp2_with fail
    refine Calls.mono (dAt_any B (E : Int) heb _) ?_
    rintro e w5 ⟨rfl, hB5⟩
    have hF2 : Hid _ := two_fail2 B (E : Int) heb (HF.below hH4H.out hB5)
    go_wp2_with fail
    refine Calls.mono hF2.out ?_
    rintro e w6 ⟨rfl, hT6⟩
    have hT6H : Hid _ := hT6
    clear hT6
    go_wp2_with fail
    go_ret
    exact ⟨rfl, hT6H.out⟩
end
end Go.Proofs.YtlcpkbllpkgihaaDoor
