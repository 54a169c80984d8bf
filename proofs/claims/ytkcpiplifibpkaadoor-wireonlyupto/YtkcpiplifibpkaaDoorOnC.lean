
import Derived.Test.YtkcpiplifibpkaaDoorOnB
namespace Go.Proofs.YtkcpiplifibpkaaDoor
open Go.RowKit
set_option linter.unusedVariables false
set_option linter.unusedSimpArgs false
section
variable {N : Nat} {w1 : World} {a : Option Addr} {n cap p r : Nat} {bs : Nat → Nat} {fv : Option (Int × Int)} {w : World}
/-- Raw gives a row of its own. -/
theorem rRaw_new (h : RR N w1 a n cap bs p r fv w) (most : Int) (hmost : -9223372036854775808 ≤ most ∧ most ≤ 9223372036854775807) :
    Calls Tryd.prog 32 #[.pointer (some ⟨N, 0, none⟩), .int .i64 most] w fun e w' => (∃ p' r' fv' q m a' c, PieceG bs n p r most fv p' r' fv' q m ∧ e = .returned (.slice a' m c) ∧ (m = 0 ∨ ∃ g, a' = some ⟨g, 0, none⟩ ∧ w.heap.size ≤ g ∧ g < w'.heap.size ∧ BytesAt w' g 0 m (fun i => bs (q + i))) ∧ (fv' = none → q + m ≤ n) ∧ RR N w1 a n cap bs p' r' fv' w') ∧ RF N w w' := by
  have hS : Hid _ := piece_gen h most hmost
  clear h
  go_enter Tryd.func32, Tryd.ntmps32
  go_wp2_with fail
  refine Calls.mono hS.out ?_
  rintro e w2 ⟨⟨p', r', fv', q, m, v, hG, rfl, hv, h2⟩, F2⟩
  rcases hv with ⟨hf, rfl⟩ | ⟨hf, hv, hqm⟩
  · have hm0 : m = 0 := by
      rcases hG with ⟨_, _, rfl, _⟩ | ⟨_, ⟨_, _, _, rfl, _⟩ | ⟨_, _, _, ⟨_, _, rfl, _⟩ | ⟨_, _, _, rfl, _⟩ | ⟨_, _, e, _⟩⟩⟩
      · rfl
      · rfl
      · rfl
      · rfl
      · exact absurd e hf
    subst hm0
    have h2H : Hid _ := h2
    have hGH : Hid (PieceG bs n p r most fv p' r' fv' q 0) := hG
    clear h2 hG
    go_wp2_with fail
    refine (clone_nil _).mono ?_
    rintro e w3 ⟨rfl, hw⟩
    have hw' := hw.symm
    subst hw'
    clear hw
    go_wp2_with fail
    go_ret
    exact ⟨⟨p', r', fv', q, 0, none, 0, hGH.out, rfl, Or.inl rfl, fun e => absurd e hf, h2H.out⟩, F2⟩
  · subst hf
    obtain ⟨b, o, c, rfl, hin⟩ := hv.bytes h2 hqm
    have hC : Hid _ := clone_cap b o m c _ w2 hin
    have h2H : Hid _ := h2
    have hGH : Hid (PieceG bs n p r most fv p' r' none q m) := hG
    clear h2 hin hv hG
    go_wp2_with fail
    refine Calls.mono hC.out ?_
    rintro e w3 ⟨⟨g, c', rfl, hc', hg, hg3, hin'⟩, hB⟩
    go_wp2_with fail
    go_ret
    refine ⟨⟨p', r', none, q, m, _, c', hGH.out, rfl, ?_, fun _ => hqm, h2H.out.below hB⟩, F2.trans (RF.below hB)⟩
    rcases hin' with h0 | hin'
    · exact Or.inl h0
    · exact Or.inr ⟨g, rfl, by have := F2.size; omega, hg3, hin'⟩
end
theorem begin_none {bs : Nat → Nat} {n p r m : Nat} {fv : Option (Int × Int)} (h : beginF bs n p r m fv = none) : startF bs p r fv = none ∧ p + m ≤ n := by
  unfold beginF at h
  cases hs : startF bs p r fv with
  | some x => rw [hs] at h; simp at h
  | none =>
    rw [hs] at h
    simp [hasF] at h
    exact ⟨rfl, h⟩
theorem uB_zero : uB 0 = [0] := by unfold uB uBf; simp
section
variable {w : World} {N M : Nat} {a : Option Addr} {cap : Nat} {L : List Nat} {k : Nat} {p r : Nat} {fv fv' : Option (Int × Int)} {l : List Nat} {b : Nat} {v v' : Value} {wr w3 w4 : World}
/-- whole bytes were read and written. -/
theorem OS.good (hC : CL l b) (hP : fv = none → PW L l b p r) (hst : startF (natsOf L) p r fv = none) (E : List Nat) (hE : ∀ y ∈ E, y < 256) (hEq : ∀ i, i < E.length → natsOf L (p + i) = E.getD i 0) (hn : p + E.length ≤ L.length)
    (h3 : OS w N M a cap L (p + E.length) 0 none l b v w3) {n' : Nat} (hW : WS M w3 0 v' n' (enc (l ++ E)) w4) (F : Fr M v v' w3 w4) : ON w N M a cap L (k + 1) w4 := by
  obtain ⟨rfl, hng⟩ := startF_none hst
  have hPW := PW.whole hC (hP rfl) hng hEq
  have hpl := (place hC (hP rfl).1 (hP rfl).2.1).1
  exact ⟨_, _, none, _, 0, v', h3.wrote hW (by simp) F (hC.app hE), fun _ => hPW, by simp; omega⟩
/-- nothing was read, and something was written all the same. -/
theorem OS.idle (hl : l.length ≤ L.length + 75 * k) (hf : fv' ≠ none) (E : List Nat) (hE : ∀ y ∈ E, y < 256) (hEl : E.length ≤ 75)
    (h3 : OS w N M a cap L p r fv' l b v w3) {n' : Nat} (hW : WS M w3 0 v' n' (enc (l ++ E)) w4) (F : Fr M v v' w3 w4) : ON w N M a cap L (k + 1) w4 :=
  ⟨p, r, fv', _, 0, v', h3.wrote hW (by simp) F (h3.cl.app hE), fun e => absurd e hf, by simp; omega⟩
theorem OS.lt (h : OS w N M a cap L p r fv l b v wr) : ∀ i, i < L.length → natsOf L i < 256 := h.rd.bytes256
theorem one_get (bs : Nat → Nat) (p : Nat) {x : Nat} (h : bs p = x) : ∀ i, i < [x].length → bs (p + i) = [x].getD i 0 := by
  intro i hi
  obtain rfl : i = 0 := by simpa using hi
  exact h
theorem only_byte (h : ON w N M a cap L k wr) (hb : L.length + 75 * k + 200 ≤ 140737488355327) :
    Calls Tryd.prog 27 #[.pointer (some ⟨N, 0, none⟩)] wr fun e w2 => ∃ x : Int, e = .returned (.int .u8 x) ∧ RF N wr w2 ∧ Below w.heap.size w w2 ∧ ∀ w3, Below w2.heap.size w2 w3 → Calls Tryd.prog 35 #[.pointer (some ⟨M, 0, none⟩), .int .u8 x] w3 fun e w4 => e = .returned undef ∧ ON w N M a cap L (k + 1) w4 := by
  obtain ⟨p, r, fv, l, b, v, hS, hP, hl⟩ := h
  have hlt := hS.lt
  refine (rByte_gen hS.rd).mono ?_
  rintro e w2 ⟨⟨e0, rfl, hR⟩ | ⟨e0, rfl, hR⟩, F⟩
  · obtain ⟨hst, hpn⟩ := begin_none e0
    have h2 := hS.read hR F (by omega)
    refine ⟨_, rfl, F, h2.bb, fun w3 hB => ?_⟩
    have h3 := h2.below hB
    refine (wbyte_fr M _ _ v l.length (enc l) w3 h3.wt (natsOf L p) _ rfl (by omega)).mono ?_
    rintro e w4 ⟨rfl, v', hW, F4⟩
    rw [enc_append] at hW
    exact ⟨rfl, OS.good hS.cl hP hst [natsOf L p] (by simpa using hlt p (by omega)) (one_get _ _ rfl) hpn h3 hW F4⟩
  · have h2 := hS.read hR F hS.r8
    refine ⟨_, rfl, F, h2.bb, fun w3 hB => ?_⟩
    have h3 := h2.below hB
    refine (wbyte_fr M _ _ v l.length (enc l) w3 h3.wt 0 _ rfl (by omega)).mono ?_
    rintro e w4 ⟨rfl, v', hW, F4⟩
    rw [enc_append] at hW
    exact ⟨rfl, OS.idle hl e0 [0] (by simp) (by simp) h3 hW F4⟩
theorem be4_u32 {bs : Nat → Nat} {p n : Nat} (h : ∀ i, i < n → bs i < 256) (hp : p + 4 ≤ n) : u32At bs p < 4294967296 ∧ ∀ i, i < (be4 (u32At bs p)).length → bs (p + i) = (be4 (u32At bs p)).getD i 0 := by
  have h0 := h p (by omega)
  have h1 := h (p + 1) (by omega)
  have h2 := h (p + 2) (by omega)
  have h3 := h (p + 3) (by omega)
  have e : be4 (u32At bs p) = [bs p, bs (p + 1), bs (p + 2), bs (p + 3)] := by
    unfold u32At be4
    generalize bs p = A at *
    generalize bs (p + 1) = B at *
    generalize bs (p + 2) = C at *
    generalize bs (p + 3) = D at *
    clear h
    simp only [List.cons.injEq, and_true]
    refine ⟨?_, ?_, ?_, ?_⟩ <;> omega
  refine ⟨by unfold u32At; omega, fun i hi => ?_⟩
  rw [e] at hi ⊢
  simp only [List.length_cons, List.length_nil] at hi
  rcases i with _ | _ | _ | _ | i
  · rfl
  · rfl
  · rfl
  · rfl
  · omega
theorem only_fix (h : ON w N M a cap L k wr) (hb : L.length + 75 * k + 200 ≤ 140737488355327) :
    Calls Tryd.prog 28 #[.pointer (some ⟨N, 0, none⟩)] wr fun e w2 => ∃ x : Int, e = .returned (.int .u32 x) ∧ RF N wr w2 ∧ Below w.heap.size w w2 ∧ ∀ w3, Below w2.heap.size w2 w3 → Calls Tryd.prog 36 #[.pointer (some ⟨M, 0, none⟩), .int .u32 x] w3 fun e w4 => e = .returned undef ∧ ON w N M a cap L (k + 1) w4 := by
  obtain ⟨p, r, fv, l, b, v, hS, hP, hl⟩ := h
  have hlt := hS.lt
  refine (rFix_gen hS.rd).mono ?_
  rintro e w2 ⟨⟨e0, rfl, hR⟩ | ⟨e0, rfl, hR⟩, F⟩
  · obtain ⟨hst, hpn⟩ := begin_none e0
    have h2 := hS.read hR F (by omega)
    obtain ⟨hx, hEq⟩ := be4_u32 hlt hpn
    refine ⟨_, rfl, F, h2.bb, fun w3 hB => ?_⟩
    have h3 := h2.below hB
    refine (wfix_fr M _ _ v l.length (enc l) w3 h3.wt _ hx _ rfl (by omega)).mono ?_
    rintro e w4 ⟨rfl, v', hW, F4⟩
    rw [enc_append] at hW
    exact ⟨rfl, OS.good hS.cl hP hst (be4 _) (be4_lt _) hEq (by simpa [be4] using hpn) (by simpa [be4] using h3) hW F4⟩
  · have h2 := hS.read hR F hS.r8
    refine ⟨_, rfl, F, h2.bb, fun w3 hB => ?_⟩
    have h3 := h2.below hB
    refine (wfix_fr M _ _ v l.length (enc l) w3 h3.wt 0 (by omega) _ rfl (by omega)).mono ?_
    rintro e w4 ⟨rfl, v', hW, F4⟩
    rw [enc_append] at hW
    exact ⟨rfl, OS.idle hl e0 (be4 0) (be4_lt _) (by simp [be4]) h3 hW F4⟩
/-- a number that was read, and is written. -/
theorem OS.num (hS : OS w N M a cap L p r fv l b v wr) (hP : fv = none → PW L l b p r) (hl : l.length ≤ L.length + 75 * k) {X p' r' x n' : Nat} (hG : UintG (natsOf L) L.length p r X fv p' r' fv' x)
    (h3 : OS w N M a cap L p' r' fv' l b v w3) (hW : WS M w3 0 v' n' (enc (l ++ uB x)) w4) (F : Fr M v v' w3 w4) : ON w N M a cap L (k + 1) w4 := by
  have hlt := hS.lt
  rcases hG with ⟨h0, rfl, rfl, rfl, rfl⟩ | ⟨h0, ⟨q, h1, rfl, rfl, rfl, rfl⟩ | ⟨y, z, h1, ⟨h2, rfl, rfl, rfl, rfl⟩ | ⟨h2, rfl, rfl, rfl, rfl⟩⟩⟩
  · exact OS.idle hl h0 _ (uB_lt 0 (by omega)) (by rw [uB_zero]; simp) h3 hW F
  · exact OS.idle hl (by simp) _ (uB_lt 0 (by omega)) (by rw [uB_zero]; simp) h3 hW F
  · exact OS.idle hl (by simp) _ (uB_lt 0 (by omega)) (by rw [uB_zero]; simp) h3 hW F
  · obtain ⟨rfl, g2, g3, g4⟩ := numS_len hlt h1
    exact OS.good hS.cl hP h0 _ (uB_lt _ g3) g4 g2 h3 hW F
theorem UintG.r8 {bs : Nat → Nat} {n p r X p' r' x : Nat} {fv fv' : Option (Int × Int)} (hG : UintG bs n p r X fv p' r' fv' x) (hr : r < 8) : r' < 8 := by
  rcases hG with ⟨h0, rfl, rfl, rfl, rfl⟩ | ⟨h0, ⟨q, h1, rfl, rfl, rfl, rfl⟩ | ⟨y, z, h1, ⟨h2, rfl, rfl, rfl, rfl⟩ | ⟨h2, rfl, rfl, rfl, rfl⟩⟩⟩ <;> omega
theorem only_uint (h : ON w N M a cap L k wr) (hb : L.length + 75 * k + 200 ≤ 140737488355327) (X : Nat) :
    Calls Tryd.prog 29 #[.pointer (some ⟨N, 0, none⟩), .int .u64 (X : Int)] wr fun e w2 => ∃ x : Int, e = .returned (.int .u64 x) ∧ RF N wr w2 ∧ Below w.heap.size w w2 ∧ ∀ w3, Below w2.heap.size w2 w3 → Calls Tryd.prog 37 #[.pointer (some ⟨M, 0, none⟩), .int .u64 x] w3 fun e w4 => e = .returned undef ∧ ON w N M a cap L (k + 1) w4 := by
  obtain ⟨p, r, fv, l, b, v, hS, hP, hl⟩ := h
  have hlt := hS.lt
  refine (rUint_gen hS.rd X).mono ?_
  rintro e w2 ⟨⟨p', r', fv', x, hG, rfl, hR⟩, F⟩
  have h2 := hS.read hR F (hG.r8 hS.r8)
  refine ⟨_, rfl, F, h2.bb, fun w3 hB => ?_⟩
  have h3 := h2.below hB
  refine (wuint_fr M _ _ v l.length (enc l) w3 h3.wt x (hG.lt hlt) _ rfl (by omega)).mono ?_
  rintro e w4 ⟨rfl, v', n', hW, _, F4⟩
  rw [enc_append] at hW
  exact ⟨rfl, OS.num hS hP hl hG h3 hW F4⟩
theorem only_int (h : ON w N M a cap L k wr) (hb : L.length + 75 * k + 200 ≤ 140737488355327) :
    Calls Tryd.prog 30 #[.pointer (some ⟨N, 0, none⟩)] wr fun e w2 => ∃ x : Int, e = .returned (.int .i64 x) ∧ RF N wr w2 ∧ Below w.heap.size w w2 ∧ ∀ w3, Below w2.heap.size w2 w3 → Calls Tryd.prog 38 #[.pointer (some ⟨M, 0, none⟩), .int .i64 x] w3 fun e w4 => e = .returned undef ∧ ON w N M a cap L (k + 1) w4 := by
  obtain ⟨p, r, fv, l, b, v, hS, hP, hl⟩ := h
  have hlt := hS.lt
  refine (rInt_gen hS.rd).mono ?_
  rintro e w2 ⟨⟨p', r', fv', x, hG, rfl, hR⟩, F⟩
  have h2 := hS.read hR F (hG.r8 hS.r8)
  refine ⟨_, rfl, F, h2.bb, fun w3 hB => ?_⟩
  have h3 := h2.below hB
  refine (wint_fr M _ _ v l.length (enc l) w3 h3.wt (unfoldN x) (unfoldN_rg x (hG.lt hlt)) (by omega)).mono ?_
  rintro e w4 ⟨rfl, v', n', hW, _, F4⟩
  rw [enc_append, fold_unfold] at hW
  exact ⟨rfl, OS.num hS hP hl hG h3 hW F4⟩
end
end Go.Proofs.YtkcpiplifibpkaaDoor
