
import Derived.Test.YtkcpiplifibpkaaDoorOnC
namespace Go.Proofs.YtkcpiplifibpkaaDoor
open Go.RowKit
set_option linter.unusedVariables false
set_option linter.unusedSimpArgs false
section
variable {w : World} {N M : Nat} {a : Option Addr} {cap : Nat} {L : List Nat} {k : Nat} {p r : Nat} {fv fv' : Option (Int × Int)} {l : List Nat} {b : Nat} {v v' : Value} {wr w3 w4 : World}
theorem PieceG.r8 {bs : Nat → Nat} {n p r p' r' q m : Nat} {X : Int} {fv fv' : Option (Int × Int)} (hG : PieceG bs n p r X fv p' r' fv' q m) (hr : r < 8) : r' < 8 := by
  rcases hG with ⟨_, _, _, rfl, rfl⟩ | ⟨_, ⟨_, _, _, _, rfl, rfl⟩ | ⟨_, _, _, ⟨_, _, _, rfl, rfl⟩ | ⟨_, _, _, _, rfl, rfl⟩ | ⟨_, _, _, _, _, _, rfl⟩⟩⟩ <;> omega
theorem PieceG.m {bs : Nat → Nat} {n p r p' r' q m : Nat} {X : Int} {fv fv' : Option (Int × Int)} (hG : PieceG bs n p r X fv p' r' fv' q m) : m ≤ n := by
  rcases hG with ⟨_, _, _, rfl, rfl⟩ | ⟨_, ⟨_, _, _, _, rfl, rfl⟩ | ⟨_, _, _, ⟨_, _, _, rfl, rfl⟩ | ⟨_, _, _, _, rfl, rfl⟩ | ⟨_, _, _, _, _, _, rfl⟩⟩⟩ <;> omega
theorem piece_bytes (bs : Nat → Nat) (p x : Nat) (U : List Nat) (h : ∀ i, i < U.length → bs (p + i) = U.getD i 0) : ∀ i, i < (U ++ bytesL (fun i => bs (p + U.length + i)) x).length → bs (p + i) = (U ++ bytesL (fun i => bs (p + U.length + i)) x).getD i 0 := by
  intro i hi
  have hbl : (bytesL (fun i => bs (p + U.length + i)) x).length = x := by simp [bytesL]
  rw [List.length_append, hbl] at hi
  rcases Nat.lt_or_ge i U.length with h1 | h1
  · rw [getD_left _ _ _ h1]; exact h i h1
  · obtain ⟨j, rfl⟩ : ∃ j, i = U.length + j := ⟨i - U.length, by omega⟩
    rw [getD_right]
    have := nats_bytesL (fun i => bs (p + U.length + i)) x j (by omega)
    show _ = natsOf _ j
    rw [this, Nat.add_assoc]
/-- a piece that was read, and is written. -/
theorem OS.piece (hS : OS w N M a cap L p r fv l b v wr) (hP : fv = none → PW L l b p r) (hl : l.length ≤ L.length + 75 * k) {p' r' q m n' : Nat} {X : Int} (hG : PieceG (natsOf L) L.length p r X fv p' r' fv' q m)
    (h3 : OS w N M a cap L p' r' fv' l b v w3) (hW : WS M w3 0 v' n' (enc (l ++ (uB m ++ bytesL (fun i => natsOf L (q + i)) m))) w4) (F : Fr M v v' w3 w4) : ON w N M a cap L (k + 1) w4 := by
  have hlt := hS.lt
  have hz : ∀ f : Nat → Nat, (∀ y ∈ uB 0 ++ bytesL f 0, y < 256) ∧ (uB 0 ++ bytesL f 0).length ≤ 75 := fun f => by rw [uB_zero]; simp [bytesL]
  rcases hG with ⟨h0, rfl, rfl, rfl, rfl⟩ | ⟨h0, ⟨q', h1, rfl, rfl, rfl, rfl⟩ | ⟨y, z, h1, ⟨h2, rfl, rfl, rfl, rfl⟩ | ⟨h2, h5, rfl, rfl, rfl, rfl⟩ | ⟨h2, h5, rfl, rfl, rfl, rfl, rfl⟩⟩⟩
  · exact OS.idle hl h0 _ (hz _).1 (hz _).2 h3 hW F
  · exact OS.idle hl (by simp) _ (hz _).1 (hz _).2 h3 hW F
  · exact OS.idle hl (by simp) _ (hz _).1 (hz _).2 h3 hW F
  · exact OS.idle hl (by simp) _ (hz _).1 (hz _).2 h3 hW F
  · obtain ⟨rfl, g2, g3, g4⟩ := numS_len hlt h1
    have hbl : (bytesL (fun i => natsOf L (p + (uB m).length + i)) m).length = m := by simp [bytesL]
    have hE : ∀ y ∈ uB m ++ bytesL (fun i => natsOf L (p + (uB m).length + i)) m, y < 256 := fun y hy => by
      rcases List.mem_append.1 hy with e | e
      · exact uB_lt _ g3 y e
      · exact bytesL_lt (fun i hi => hlt _ (by omega)) y e
    exact OS.good hS.cl hP h0 _ hE (piece_bytes _ _ _ _ g4) (by rw [List.length_append, hbl]; omega) (by rw [List.length_append, hbl, ← Nat.add_assoc]; exact h3) hW F
theorem only_text (h : ON w N M a cap L k wr) (hb : L.length + L.length + 75 * k + 200 ≤ 140737488355327) (X : Int) (hX : -9223372036854775808 ≤ X ∧ X ≤ 9223372036854775807) :
    Calls Tryd.prog 31 #[.pointer (some ⟨N, 0, none⟩), .int .i64 X] wr fun e w2 => ∃ x : ByteArray, e = .returned (.string x) ∧ RF N wr w2 ∧ Below w.heap.size w w2 ∧ ∀ w3, Below w2.heap.size w2 w3 → Calls Tryd.prog 39 #[.pointer (some ⟨M, 0, none⟩), .string x] w3 fun e w4 => e = .returned undef ∧ ON w N M a cap L (k + 1) w4 := by
  obtain ⟨p, r, fv, l, b, v, hS, hP, hl⟩ := h
  refine (rText_gen hS.rd X hX).mono ?_
  rintro e w2 ⟨⟨p', r', fv', q, m, s, hG, rfl, hs, hs2, _, hR⟩, F⟩
  have h2 := hS.read hR F (hG.r8 hS.r8)
  have hm := hG.m
  refine ⟨_, rfl, F, h2.bb, fun w3 hB => ?_⟩
  have h3 := h2.below hB
  refine (wtext_fr M _ _ v l.length l w3 h3.wt s (by omega)).mono ?_
  rintro e w4 ⟨rfl, v', n', hW, _, F4⟩
  rw [hs2, hs, enc_append, enc_append, List.append_assoc] at hW
  exact ⟨rfl, OS.piece hS hP hl hG h3 hW F4⟩
theorem only_raw (h : ON w N M a cap L k wr) (hb : L.length + L.length + 75 * k + 200 ≤ 140737488355327) (X : Int) (hX : -9223372036854775808 ≤ X ∧ X ≤ 9223372036854775807) :
    Calls Tryd.prog 32 #[.pointer (some ⟨N, 0, none⟩), .int .i64 X] wr fun e w2 => ∃ ra rm rc, e = .returned (.slice ra rm rc) ∧ RF N wr w2 ∧ Below w.heap.size w w2 ∧ ∀ w3, Below w2.heap.size w2 w3 → Calls Tryd.prog 40 #[.pointer (some ⟨M, 0, none⟩), .slice ra rm rc] w3 fun e w4 => e = .returned undef ∧ ON w N M a cap L (k + 1) w4 := by
  obtain ⟨p, r, fv, l, b, v, hS, hP, hl⟩ := h
  refine (rRaw_new hS.rd X hX).mono ?_
  rintro e w2 ⟨⟨p', r', fv', q, m, a', c, hG, rfl, hin, _, hR⟩, F⟩
  have h2 := hS.read hR F (hG.r8 hS.r8)
  have hm := hG.m
  refine ⟨_, _, _, rfl, F, h2.bb, fun w3 hB => ?_⟩
  have h3 := h2.below hB
  have hsz := hS.wt.sz
  have hs3 := hB.size
  refine (wraw_fr M _ _ v l.length l w3 h3.wt a' m c (fun i => natsOf L (q + i)) ?_ (by omega)).mono ?_
  · rcases hin with h0 | ⟨g, rfl, hg, hg2, hBy⟩
    · exact Or.inl h0
    · exact Or.inr ⟨g, 0, rfl, by omega, by omega, fun e => by have := own_lt hS.wt.own e.symm; omega, hBy.below hB hg2⟩
  rintro e w4 ⟨rfl, v', n', hW, _, F4⟩
  rw [enc_append, enc_append, List.append_assoc] at hW
  exact ⟨rfl, OS.piece hS hP hl hG h3 hW F4⟩
theorem only_bits (h : ON w N M a cap L k wr) (hb : L.length + L.length + 75 * k + 200 ≤ 140737488355327) (X : Int) :
    Calls Tryd.prog 33 #[.pointer (some ⟨N, 0, none⟩), .int .i64 X] wr fun e w2 => ∃ x : Int, e = .returned (.int .u64 x) ∧ RF N wr w2 ∧ Below w.heap.size w w2 ∧ ∀ w3, Below w2.heap.size w2 w3 → Calls Tryd.prog 41 #[.pointer (some ⟨M, 0, none⟩), .int .u64 x, .int .i64 X] w3 fun e w4 => e = .returned undef ∧ ON w N M a cap L (k + 1) w4 := by
  obtain ⟨p, r, fv, l, b, v, hS, hP, hl⟩ := h
  have hrp := hS.rd.rp
  have hr8 := hS.r8
  have hle := broughtN_le X
  have hp64 : 2 ^ broughtN X ≤ 2 ^ 64 := Nat.pow_le_pow_right (by omega) hle
  have h64 : (2 : Nat) ^ 64 = 18446744073709551616 := by decide
  refine (rBits_gen hS.rd hS.r8 X).mono ?_
  rintro e w2 ⟨⟨p', r', fv', x, hG, rfl, hR⟩, F⟩
  have hx : x < 18446744073709551616 ∧ r' < 8 := by
    rcases hG with ⟨_, _, rfl, _, rfl⟩ | ⟨_, _, _, rfl, _, rfl⟩ | ⟨_, _, _, rfl, hr', _⟩
    · exact ⟨by omega, hr8⟩
    · exact ⟨by omega, hr8⟩
    · exact ⟨by have := rdB_lt (natsOf L) (8 * p - r) (broughtN X); omega, hr'⟩
  have h2 := hS.read hR F hx.2
  refine ⟨_, rfl, F, h2.bb, fun w3 hB => ?_⟩
  have h3 := h2.below hB
  refine (wbits_fr M _ b v l w3 h3.wt h3.cl x hx.1 X (by omega)).mono ?_
  rintro e w4 ⟨rfl, v', hW, F4, hC4⟩
  have hlen := bitsOn_len x (broughtN X) (l, b)
  simp only at hlen
  have h4 := h3.wrote hW rfl F4 hC4
  refine ⟨rfl, p', r', fv', _, _, v', h4, ?_, by omega⟩
  intro e
  rcases hG with ⟨hf, rfl, _⟩ | ⟨_, _, rfl, _⟩ | ⟨hf, _, _, rfl, hr', hp'⟩
  · exact absurd e hf
  · cases e
  · have hPW := hP hf
    have e1 : nbits (l, b) = 8 * p - r := by have := hPW.2.1; omega
    rw [← e1] at hp' ⊢
    exact PW.bits hS.cl hPW hr' hp'
/-- at the end. -/
theorem only_done (h : ON w N M a cap L k wr) (hL : ∀ y ∈ L, y < 256) (hb : L.length + L.length + 75 * k + 200 ≤ 140737488355327) :
    Calls Tryd.prog 24 #[.pointer (some ⟨N, 0, none⟩)] wr fun e w2 => ∃ f, e = .returned (fvV f) ∧ Below w.heap.size w w2 ∧ (f = none → ∀ w3, Below w2.heap.size w2 w3 → Calls Tryd.prog 11 #[.pointer (some ⟨M, 0, none⟩)] w3 fun e w4 => ∃ ga gc, e = .returned (.slice ga L.length gc) ∧ BytesIn w4 ga L.length (natsOf L) ∧ Below w3.heap.size w3 w4) := by
  obtain ⟨p, r, fv, l, b, v, hS, hP, hl⟩ := h
  have hpn := hS.rd.pn
  refine (done_gen hS.rd).mono ?_
  rintro e w2 ⟨rfl, hR, F⟩
  have h2 := hS.read hR F hS.r8
  refine ⟨_, rfl, h2.bb, fun e w3 hB => ?_⟩
  have h3 := h2.below hB
  have hst : startF (natsOf L) p r fv = none ∧ ¬ p < L.length := by
    unfold doneF at e
    cases hs : startF (natsOf L) p r fv with
    | some x => rw [hs] at e; simp at e
    | none => rw [hs] at e; simp at e; exact ⟨rfl, by omega⟩
  obtain ⟨rfl, hng⟩ := startF_none hst.1
  have hlL : l = L := PW.all hS.cl hL (hP rfl) hng (by omega)
  subst hlL
  exact bytesB _ _ _ v _ w3 h3.wt hL (by omega)
end
end Go.Proofs.YtkcpiplifibpkaaDoor
