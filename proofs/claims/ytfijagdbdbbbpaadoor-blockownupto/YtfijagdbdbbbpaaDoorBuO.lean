
import Derived.Test.YtfijagdbdbbbpaaDoorQdHq
import Derived.Test.YtfijagdbdbbbpaaDoorBuI
import Derived.Test.YtfijagdbdbbbpaaDoorBuG
import Derived.Test.YtfijagdbdbbbpaaDoorBuN
import Derived.Lib.Bytes
import Derived.Lib.Walk
import Derived.Test.YtfijagdbdbbbpaaDoorBuH
import Derived.Test.YtfijagdbdbbbpaaDoorBlNq
namespace Go.Proofs.YtfijagdbdbbbpaaDoor
open Go.RowKit
set_option linter.unusedVariables false
set_option linter.unusedSimpArgs false
/-- where a Reader stands. -/
structure PS where
  p : Nat
  r : Nat
  fv : Option (Int × Int)
/-- what Bits tells, and where it then stands. -/
def bitsT (bs : Nat → Nat) (n c : Nat) (s : PS) : PS × Nat :=
  if s.fv.isSome then (s, 0) else if 8 * n < 8 * s.p - s.r + c then (⟨s.p, s.r, some ((n : Int), 30)⟩, 0)
  else (⟨(8 * s.p - s.r + c + 7) / 8, 8 * ((8 * s.p - s.r + c + 7) / 8) - (8 * s.p - s.r + c), none⟩, rdB bs (8 * s.p - s.r) c)
theorem BitsG.toT {bs : Nat → Nat} {n p r c : Nat} {fv : Option (Int × Int)} {p' r' : Nat} {fv' : Option (Int × Int)} {v : Nat} (h : BitsG bs n p r c fv p' r' fv' v) : bitsT bs n c ⟨p, r, fv⟩ = (⟨p', r', fv'⟩, v) := by
  unfold bitsT
  rcases h with ⟨h1, rfl, rfl, rfl, rfl⟩ | ⟨rfl, h2, rfl, rfl, rfl, rfl⟩ | ⟨rfl, h2, rfl, rfl, h3, h4⟩
  · cases fv' with
    | none => exact absurd rfl h1
    | some x => rfl
  · simp only [Option.isSome_none, Bool.false_eq_true, if_false]
    rw [if_pos h2]
  · simp only [Option.isSome_none, Bool.false_eq_true, if_false]
    rw [if_neg (by omega)]
    have e : (8 * p - r + c + 7) / 8 = p' := by omega
    rw [e, show 8 * p' - (8 * p - r + c) = r' by omega]
theorem bitsT_r (bs : Nat → Nat) (n c : Nat) (s : PS) (h : s.r < 8) : (bitsT bs n c s).1.r < 8 := by
  unfold bitsT
  split
  · exact h
  · split
    · exact h
    · simp only; omega
theorem bitsT_lt (bs : Nat → Nat) (n c : Nat) (s : PS) : (bitsT bs n c s).2 < 2 ^ c := by
  unfold bitsT
  split
  · exact Nat.two_pow_pos _
  · split
    · exact Nat.two_pow_pos _
    · exact rdB_lt _ _ _
theorem bitsT_fe (bs : Nat → Nat) (n c : Nat) (s : PS) (h : ∀ x, s.fv = some x → (x.2 == 0) = false) : ∀ x, (bitsT bs n c s).1.fv = some x → (x.2 == 0) = false := by
  unfold bitsT
  split
  · exact h
  · split
    · intro x hx; simp at hx; rw [← hx]; rfl
    · intro x hx; simp at hx
/-- what Uint tells. -/
def uintT (bs : Nat → Nat) (n M : Nat) (s : PS) : PS × Nat :=
  if (startF bs s.p s.r s.fv).isSome then (⟨s.p, s.r, startF bs s.p s.r s.fv⟩, 0) else
  match numS bs n s.p 10 0 0 with
  | .inl q => (⟨s.p, s.r, some q⟩, 0)
  | .inr (x, l) => if M < x then (⟨s.p, s.r, some ((s.p : Int), 2)⟩, 0) else (⟨s.p + l, 0, none⟩, x)
theorem UintG.toT {bs : Nat → Nat} {n p r M : Nat} {fv : Option (Int × Int)} {p' r' : Nat} {fv' : Option (Int × Int)} {v : Nat} (h : UintG bs n p r M fv p' r' fv' v) : uintT bs n M ⟨p, r, fv⟩ = (⟨p', r', fv'⟩, v) := by
  unfold uintT
  rcases h with ⟨h1, rfl, rfl, rfl, rfl⟩ | ⟨h1, ⟨q, h2, rfl, rfl, rfl, rfl⟩ | ⟨x, l, h2, h3⟩⟩
  · rw [if_pos (by simpa [Option.isSome_iff_ne_none] using h1)]
  · rw [if_neg (by rw [h1]; simp)]
    simp only [h2]
  · rw [if_neg (by rw [h1]; simp)]
    simp only [h2]
    rcases h3 with ⟨h4, rfl, rfl, rfl, rfl⟩ | ⟨h4, rfl, rfl, rfl, rfl⟩
    · rw [if_pos h4]
    · rw [if_neg (by omega)]
theorem uintT_r (bs : Nat → Nat) (n M : Nat) (s : PS) (h : s.r < 8) : (uintT bs n M s).1.r < 8 := by
  unfold uintT
  split
  · exact h
  · split
    · exact h
    · split
      · exact h
      · simp only; omega
theorem uintT_le (bs : Nat → Nat) (n M : Nat) (s : PS) : (uintT bs n M s).2 ≤ M := by
  unfold uintT
  split
  · simp
  · split
    · simp
    · split
      · simp
      · simp only; omega
section
variable {N : Nat} {w1 : World} {a : Option Addr} {n cap : Nat} {bs : Nat → Nat} {s : PS} {w : World}
/-- the program's Reader. -/
def RB (N : Nat) (w1 : World) (a : Option Addr) (n cap : Nat) (bs : Nat → Nat) (s : PS) (w : World) : Prop := RR N w1 a n cap bs s.p s.r s.fv w ∧ s.r < 8
/-- the document's. -/
def QB (N : Nat) (w1 : World) (a : Option Addr) (n cap : Nat) (bs : Nat → Nat) (s : PS) (w : World) : Prop := QR N w1 a n cap bs s.p s.r s.fv w
theorem rb_bits (h : RB N w1 a n cap bs s w) (k : Int) (c : Nat) (hc : k = (c : Int)) (hc' : c ≤ 64) : Calls Tryd.prog 75 #[.pointer (some ⟨N, 0, none⟩), .int .i64 k] w fun e w' => e = .returned (.int .u64 ((bitsT bs n c s).2 : Int)) ∧ RB N w1 a n cap bs (bitsT bs n c s).1 w' ∧ RF N w w' := by
  have e1 : broughtN k = c := by subst hc; unfold broughtN; rw [if_neg (by omega), if_neg (by omega)]; omega
  refine (rBits_gen h.1 h.2 k).mono ?_
  rintro e w' ⟨⟨p', r', fv', v, hG, rfl, hR⟩, hF⟩
  rw [e1] at hG
  have hT := hG.toT
  have hr := bitsT_r bs n c s h.2
  rw [show (⟨s.p, s.r, s.fv⟩ : PS) = s from rfl] at hT
  rw [hT] at hr ⊢
  exact ⟨rfl, ⟨hR, hr⟩, hF⟩
theorem rb_uint (h : RB N w1 a n cap bs s w) (M : Nat) : Calls Tryd.prog 30 #[.pointer (some ⟨N, 0, none⟩), .int .u64 (M : Int)] w fun e w' => e = .returned (.int .u64 ((uintT bs n M s).2 : Int)) ∧ RB N w1 a n cap bs (uintT bs n M s).1 w' ∧ RF N w w' := by
  refine (rUint_gen h.1 M).mono ?_
  rintro e w' ⟨⟨p', r', fv', v, hG, rfl, hR⟩, hF⟩
  have hT := hG.toT
  have hr := uintT_r bs n M s h.2
  rw [show (⟨s.p, s.r, s.fv⟩ : PS) = s from rfl] at hT
  rw [hT] at hr ⊢
  exact ⟨rfl, ⟨hR, hr⟩, hF⟩
/-- a Reader while what lies above B is made and changed. -/
theorem RB.above {B : Nat} {w' : World} (h : RB N w1 a n cap bs s w) (hB : Below B w w') (hN : N < B) (hrow : n = 0 ∨ ∀ b off, a = some ⟨b, off, none⟩ → b < B) : RB N w1 a n cap bs s w' := by
  obtain ⟨⟨c0, c1, c2, c3, f1, f2, f3, row, nb, nc, pn, r8, rp, b, sz⟩, hr⟩ := h
  refine ⟨⟨?_, ?_, ?_, ?_, ?_, ?_, ?_, ?_, nb, nc, pn, r8, rp, b.trans (hB.mono (by omega)), Nat.lt_of_lt_of_le sz hB.size⟩, hr⟩
  · rw [hB.cell (p := ⟨N, 0, none⟩) hN]; exact c0
  · rw [hB.cell (p := ⟨N, 1, none⟩) hN]; exact c1
  · rw [hB.cell (p := ⟨N, 2, none⟩) hN]; exact c2
  · rw [hB.cell (p := ⟨N, 3, none⟩) hN]; exact c3
  · rw [hB.frozen (p := ⟨N, 1, none⟩) hN]; exact f1
  · rw [hB.frozen (p := ⟨N, 2, none⟩) hN]; exact f2
  · rw [hB.frozen (p := ⟨N, 3, none⟩) hN]; exact f3
  · rcases row with h0 | ⟨k, off, e, hk, hn, hBt⟩
    · exact Or.inl h0
    · rcases hrow with h0 | hlt
      · exact Or.inl h0
      · exact Or.inr ⟨k, off, e, Nat.lt_of_lt_of_le hk hB.size, hn, fun i hi => ⟨by rw [hB.cell (p := ⟨k, off + i, none⟩) (hlt k off e)]; exact (hBt i hi).1, (hBt i hi).2⟩⟩
theorem QB.above {B : Nat} {w' : World} (h : QB N w1 a n cap bs s w) (hB : Below B w w') (hN : N < B) (hrow : n = 0 ∨ ∀ b off, a = some ⟨b, off, none⟩ → b < B) : QB N w1 a n cap bs s w' :=
  QR.of h (hB.block N hN) (hrow.imp_right fun hl b off e => hB.block b (hl b off e)) hB.size (h.b.trans (hB.mono (by omega)))
/-- a row of one's own beside a Reader's work. -/
theorem own_RF {W w' : World} {base m sz : Nat} {e : TypeId} {v : Value} {xs : List Value} (h : W.ownsRow base e sz v m xs) (hf : RF N W w') (hN : N < base) : w'.ownsRow base e sz v m xs := by
  refine ⟨h.1, ?_⟩
  rcases h.2 with h2 | ⟨g, cap, cur, e1, e2, e3, e4⟩
  · exact Or.inl h2
  · exact Or.inr ⟨g, cap, cur, e1, e2, by rw [hf.keep g (Array.getElem?_eq_some_iff.1 e3).1 (by omega)]; exact e3, e4⟩
end
/-! ### bytes held against bytes -/
theorem bytesOf_inj : ∀ (xs ys : List Nat), (∀ y ∈ xs, y < 256) → (∀ y ∈ ys, y < 256) → Lib.bytesOf (xs.map fun (x : Nat) => (x : Int)) = Lib.bytesOf (ys.map fun (x : Nat) => (x : Int)) → xs = ys := by
  intro xs
  induction xs with
  | nil => intro ys _ _ h; cases ys with
    | nil => rfl
    | cons y ys => simp [Lib.bytesOf] at h
  | cons x xs ih =>
    intro ys h1 h2 h
    cases ys with
    | nil => simp [Lib.bytesOf] at h
    | cons y ys =>
      simp only [Lib.bytesOf, List.map_cons, List.cons.injEq] at h
      have hx : x < 256 := h1 x (by simp)
      have hy : y < 256 := h2 y (by simp)
      have e : x = y := by
        have := congrArg UInt8.toNat h.1
        simp at this
        omega
      rw [e, ih ys (fun z hz => h1 z (by simp [hz])) (fun z hz => h2 z (by simp [hz])) h.2]
theorem conv_in {w : World} {a : Option Addr} {m : Nat} {f : Nat → Nat} (h : BytesIn w a m f) (hm : 0 < m) (c : Nat) : (convert 60 9 (.slice a m c)).run Tryd.prog w = .ok (.string (strOfNums ((bytesL f m).map fun (x : Nat) => (x : Int)))) w := by
  rcases h.2 with h0 | ⟨b, off, rfl, hb, hB⟩
  · omega
  · refine run_convert_bytes_arg (P := Tryd.prog) w 60 5 Tryd.underlying60 Tryd.underlying5 b off m c _ (by simp [bytesL]) (fun i hi => ?_) 9 Tryd.underlying9
    rw [(hB i hi).1]
    simp [bytesL, List.getD_eq_getElem?_getD, hi]
theorem bytesL_in_lt {w : World} {a : Option Addr} {m : Nat} {f : Nat → Nat} (h : BytesIn w a m f) : ∀ y ∈ bytesL f m, y < 256 := by
  rcases h.2 with h0 | ⟨b, off, e, hb, hB⟩
  · intro y hy; subst h0; simp [bytesL] at hy
  · exact bytesL_lt fun i hi => (hB i hi).2
set_option maxHeartbeats 1000000 in
theorem equal_in {w : World} {a1 a2 : Option Addr} {m1 m2 c1 c2 : Nat} {f1 f2 : Nat → Nat} (h1 : BytesIn w a1 m1 f1) (h2 : BytesIn w a2 m2 f2) (l1 : 0 < m1) (l2 : 0 < m2) : Calls Tryd.prog 80 #[.slice a1 m1 c1, .slice a2 m2 c2] w fun e w' => e = .returned (.bool (decide (bytesL f1 m1 = bytesL f2 m2))) ∧ w' = w := by
  have g1 := conv_in h1 l1 c1
  have g2 := conv_in h2 l2 c2
  have e : decide (bytesL f1 m1 = bytesL f2 m2) = (Lib.bytesOf ((bytesL f1 m1).map fun (x : Nat) => (x : Int)) == Lib.bytesOf ((bytesL f2 m2).map fun (x : Nat) => (x : Int))) := by
    rw [Bool.eq_iff_iff]
    simp only [decide_eq_true_eq, beq_iff_eq]
    exact ⟨fun h => by rw [h], bytesOf_inj _ _ (bytesL_in_lt h1) (bytesL_in_lt h2)⟩
  rw [e, ← Lib.strOfNums_toList, ← Lib.strOfNums_toList]
  clear e h1 h2
  go_enter Tryd.func80, Tryd.ntmps80
  go_wp2
  go_ret
  exact ⟨rfl, rfl⟩
end Go.Proofs.YtfijagdbdbbbpaaDoor

namespace Go.Proofs.YtfijagdbdbbbpaaDoor
open Go.RowKit
set_option linter.unusedVariables false
set_option linter.unusedSimpArgs false
/-- what was read of values: where the Reader stands, the value ahead, the last number, all values. -/
structure UV where
  s : PS
  ak : Nat
  ax : Int
  la : Int
  L : List (Nat × Int)
/-- what step tells. -/
def stepT (bs : Nat → Nat) (n : Nat) (s : PS) : PS × Int := ((bitsT bs n ((bitsT bs n 6 s).2 + 1) (bitsT bs n 6 s).1).1, unfoldN (bitsT bs n ((bitsT bs n 6 s).2 + 1) (bitsT bs n 6 s).1).2)
/-- a value more. -/
def stepV (bs : Nat → Nat) (n : Nat) (u : UV) : UV :=
  if (bitsT bs n 1 u.s).2 = 0 then ⟨(bitsT bs n 1 u.s).1, u.ak, u.ax, u.la, u.L ++ [(u.ak, u.ax)]⟩
  else if (bitsT bs n 1 (bitsT bs n 1 u.s).1).2 = 0 then
    ⟨(stepT bs n (bitsT bs n 1 (bitsT bs n 1 u.s).1).1).1, 0, wrap64 (u.la + (stepT bs n (bitsT bs n 1 (bitsT bs n 1 u.s).1).1).2), wrap64 (u.la + (stepT bs n (bitsT bs n 1 (bitsT bs n 1 u.s).1).1).2), u.L ++ [(0, wrap64 (u.la + (stepT bs n (bitsT bs n 1 (bitsT bs n 1 u.s).1).1).2))]⟩
  else if (bitsT bs n 1 (bitsT bs n 1 (bitsT bs n 1 u.s).1).1).2 = 0 then ⟨(bitsT bs n 1 (bitsT bs n 1 (bitsT bs n 1 u.s).1).1).1, 1, 0, u.la, u.L ++ [(1, 0)]⟩
  else ⟨(bitsT bs n 1 (bitsT bs n 1 (bitsT bs n 1 u.s).1).1).1, 2, 0, u.la, u.L ++ [(2, 0)]⟩
def readV (bs : Nat → Nat) (n : Nat) (s0 : PS) : Nat → UV
  | 0 => ⟨s0, 0, 0, 0, []⟩
  | k + 1 => if (readV bs n s0 k).s.fv.isSome then readV bs n s0 k else stepV bs n (readV bs n s0 k)
theorem readV_stay {bs : Nat → Nat} {n : Nat} {s0 : PS} {k : Nat} (h : (readV bs n s0 k).s.fv.isSome = true) : ∀ j, readV bs n s0 (k + j) = readV bs n s0 k := by
  intro j
  induction j with
  | zero => rfl
  | succ j ih =>
    have e : readV bs n s0 (k + (j + 1)) = if (readV bs n s0 (k + j)).s.fv.isSome then readV bs n s0 (k + j) else stepV bs n (readV bs n s0 (k + j)) := rfl
    rw [e, ih, if_pos h]
theorem stepV_len (bs : Nat → Nat) (n : Nat) (u : UV) : (stepV bs n u).L.length = u.L.length + 1 := by
  unfold stepV
  split
  · simp
  · split
    · simp
    · split <;> simp
/-- what is read is a value. -/
def okV (x : Nat × Int) : Prop := isV x.1 x.2 ∧ -9223372036854775808 ≤ x.2 ∧ x.2 ≤ 9223372036854775807
structure UOk (u : UV) : Prop where
  a : okV (u.ak, u.ax)
  l : -9223372036854775808 ≤ u.la ∧ u.la ≤ 9223372036854775807
  L : ∀ x ∈ u.L, okV x
theorem UOk.step {bs : Nat → Nat} {n : Nat} {u : UV} (h : UOk u) : UOk (stepV bs n u) := by
  have add : ∀ x, okV x → ∀ y ∈ u.L ++ [x], okV y := fun x hx y hy => by
    rcases List.mem_append.1 hy with hy | hy
    · exact h.L y hy
    · rw [List.mem_singleton.1 hy]; exact hx
  unfold stepV
  split
  · exact ⟨h.a, h.l, add _ h.a⟩
  · split
    · have hw := wrap64_rg (u.la + (stepT bs n (bitsT bs n 1 (bitsT bs n 1 u.s).1).1).2)
      have h0 : okV (0, wrap64 (u.la + (stepT bs n (bitsT bs n 1 (bitsT bs n 1 u.s).1).1).2)) := ⟨⟨by omega, Or.inl rfl⟩, hw⟩
      exact ⟨h0, hw, add _ h0⟩
    · have h1 : okV (1, 0) := ⟨⟨by omega, Or.inr rfl⟩, by omega, by omega⟩
      have h2 : okV (2, 0) := ⟨⟨by omega, Or.inr rfl⟩, by omega, by omega⟩
      split
      · exact ⟨h1, h.l, add _ h1⟩
      · exact ⟨h2, h.l, add _ h2⟩
theorem readV_ok (bs : Nat → Nat) (n : Nat) (s0 : PS) : ∀ k, UOk (readV bs n s0 k) := by
  intro k
  induction k with
  | zero =>
    show UOk ⟨s0, 0, 0, 0, []⟩
    exact ⟨⟨⟨by simp, Or.inl rfl⟩, by simp, by simp⟩, ⟨by simp, by simp⟩, by simp⟩
  | succ k ih =>
    show UOk (if (readV bs n s0 k).s.fv.isSome then _ else _)
    split
    · exact ih
    · exact ih.step
theorem readV_len {bs : Nat → Nat} {n : Nat} {s0 : PS} : ∀ k, (readV bs n s0 k).s.fv = none → (readV bs n s0 k).L.length = k := by
  intro k
  induction k with
  | zero => intro _; rfl
  | succ k ih =>
    intro h
    by_cases hf : (readV bs n s0 k).s.fv.isSome = true
    · have e : readV bs n s0 (k + 1) = readV bs n s0 k := if_pos hf
      rw [e] at h; rw [h] at hf; cases hf
    · have e : readV bs n s0 (k + 1) = stepV bs n (readV bs n s0 k) := if_neg hf
      rw [e, stepV_len, ih (by cases hh : (readV bs n s0 k).s.fv with | none => rfl | some x => rw [hh] at hf; exact absurd rfl hf)]
def kkL (L : List (Nat × Int)) (i : Nat) : Nat := (L.getD i (0, 0)).1
def xxL (L : List (Nat × Int)) (i : Nat) : Int := (L.getD i (0, 0)).2
theorem kkL_left (L M : List (Nat × Int)) (i : Nat) (h : i < L.length) : kkL (L ++ M) i = kkL L i ∧ xxL (L ++ M) i = xxL L i := by
  unfold kkL xxL
  simp [List.getD_eq_getElem?_getD, List.getElem?_append_left h]
theorem encV_L (L : List (Nat × Int)) (x : Nat × Int) : encV (kkL (L ++ [x])) (xxL (L ++ [x])) (L ++ [x]).length = encV (kkL L) (xxL L) L.length ++ [.int .u8 (x.1 : Int), .int .i64 x.2] := by
  rw [show (L ++ [x]).length = L.length + 1 by simp, encV_succ]
  congr 1
  · unfold encV
    apply List.map_congr_left
    intro j hj
    have hj' : j / 2 < L.length := by have := List.mem_range.1 hj; omega
    unfold valC
    rw [(kkL_left L [x] _ hj').1, (kkL_left L [x] _ hj').2]
  · unfold kkL xxL
    simp [List.getD_eq_getElem?_getD]
theorem okL_rg {L : List (Nat × Int)} (h : ∀ x ∈ L, okV x) (i : Nat) : isV (kkL L i) (xxL L i) ∧ kkL L i < 256 ∧ -9223372036854775808 ≤ xxL L i ∧ xxL L i ≤ 9223372036854775807 := by
  have ho : okV (L.getD i (0, 0)) := by
    rw [List.getD_eq_getElem?_getD]
    cases hx : L[i]? with
    | none => exact ⟨⟨by decide, Or.inl rfl⟩, by decide, by decide⟩
    | some x => exact h x (List.mem_of_getElem? hx)
  have := ho.1.1
  exact ⟨ho.1, by unfold kkL; omega, ho.2⟩
section
variable {N : Nat} {w1 : World} {a : Option Addr} {n cap : Nat} {bs : Nat → Nat} {s : PS} {w : World}
/-- Bits, its answer by a letter. -/
theorem rb_bitsL (h : RB N w1 a n cap bs s w) (k : Int) (c : Nat) (hc : k = (c : Int)) (hc' : c ≤ 64) : ∃ x s', bitsT bs n c s = (s', x) ∧ x < 2 ^ c ∧ Hid (Calls Tryd.prog 75 #[.pointer (some ⟨N, 0, none⟩), .int .i64 k] w fun e w' => e = .returned (.int .u64 (x : Int)) ∧ RB N w1 a n cap bs s' w' ∧ RF N w w') :=
  ⟨(bitsT bs n c s).2, (bitsT bs n c s).1, rfl, bitsT_lt _ _ _ _, rb_bits h k c hc hc'⟩
theorem rb_uintL (h : RB N w1 a n cap bs s w) (M : Nat) : ∃ x s', uintT bs n M s = (s', x) ∧ x ≤ M ∧ Hid (Calls Tryd.prog 30 #[.pointer (some ⟨N, 0, none⟩), .int .u64 (M : Int)] w fun e w' => e = .returned (.int .u64 (x : Int)) ∧ RB N w1 a n cap bs s' w' ∧ RF N w w') :=
  ⟨(uintT bs n M s).2, (uintT bs n M s).1, rfl, uintT_le _ _ _ _, rb_uint h M⟩
theorem two64 (c v : Nat) (hc : c ≤ 64) (h : v < 2 ^ c) : v < 18446744073709551616 := Nat.lt_of_lt_of_le h (by
    have : 2 ^ c ≤ 2 ^ 64 := Nat.pow_le_pow_right (by omega) hc
    omega)
set_option maxRecDepth 100000 in
set_option maxHeartbeats 1000000 in
theorem bstep_any (h : RB N w1 a n cap bs s w) : Calls Tryd.prog 82 #[.pointer (some ⟨N, 0, none⟩)] w fun e w' => e = .returned (.int .i64 (stepT bs n s).2) ∧ RB N w1 a n cap bs (stepT bs n s).1 w' ∧ RF N w w' := by
  obtain ⟨c, s1, hx, hlt, hc⟩ := rb_bitsL h 6 6 rfl (by omega)
  unfold stepT
  rw [hx]
  have h6 : c < 64 := hlt
  have h6I : (c : Int) < 64 := by omega
  clear hx hlt
  go_enter Tryd.func82, Tryd.ntmps82
  go_wp2_with fail
  refine Calls.mono hc.out ?_
  rintro e w2 ⟨rfl, hR2, hF2⟩
  obtain ⟨v, s2, hx, hlt, hd⟩ := rb_bitsL hR2 ((c : Int) + 1) (c + 1) (by omega) (by omega)
  have hv64 : v < 18446744073709551616 := two64 (c + 1) v (by omega) hlt
  have hfin : Hid (∀ w3, RB N w1 a n cap bs s2 w3 ∧ RF N w2 w3 → RB N w1 a n cap bs s2 w3 ∧ RF N w w3) := (fun w3 h3 => ⟨h3.1, hF2.trans h3.2⟩ : ∀ w3, RB N w1 a n cap bs s2 w3 ∧ RF N w2 w3 → RB N w1 a n cap bs s2 w3 ∧ RF N w w3)
  have hxH : Hid _ := hx
  clear hc hR2 hF2 hlt hx
  go_wp2_with fail
  refine Calls.mono hd.out ?_
  rintro e w3 ⟨rfl, hR3⟩
  have hfx := hfin.out w3 hR3
  have hfy : Hid _ := hfx
  clear hd hfin hR3 hfx
  have hw : wrap64 ((v : Int) / 2) = (v : Int) / 2 := by unfold wrap64; omega
  have hu0 := unfold_xor2 v hv64
  rw [hw] at hu0
  have hu : Hid _ := hu0
  clear hu0 hw
  go_wp2_with fail
  go_ret
  rw [hxH.out]
  exact ⟨by rw [← hu.out]; rfl, hfy.out⟩
set_option maxRecDepth 100000 in
theorem count_any (h : RB N w1 a n cap bs s w) : Calls Tryd.prog 27 #[.pointer (some ⟨N, 0, none⟩)] w fun e w' => e = .returned (.int .i64 ((uintT bs n 1048576 s).2 : Int)) ∧ RB N w1 a n cap bs (uintT bs n 1048576 s).1 w' ∧ RF N w w' := by
  obtain ⟨c, s1, hx, hlt, hc⟩ := rb_uintL h 1048576
  rw [hx]
  clear hx
  go_enter Tryd.func27, Tryd.ntmps27
  go_wp2_with fail
  refine Calls.mono hc.out ?_
  rintro e w2 ⟨rfl, hR2⟩
  clear hc
  go_wp2_with fail
  go_ret
  exact ⟨rfl, hR2⟩
end
end Go.Proofs.YtfijagdbdbbbpaaDoor

namespace Go.Proofs.YtfijagdbdbbbpaaDoor
open Go.RowKit
set_option linter.unusedVariables false
set_option linter.unusedSimpArgs false
theorem bitOn_ge (b : Nat) (s : List Nat × Nat) : s.1.length ≤ (bitOn b s).1.length := by
  unfold bitOn
  simp only
  split <;> split <;> simp
theorem bitsOn_ge (x : Nat) : ∀ (c : Nat) (s : List Nat × Nat), s.1.length ≤ (bitsOn x c s).1.length := by
  intro c
  induction c with
  | zero => intro s; exact Nat.le_refl _
  | succ c ih => intro s; exact Nat.le_trans (bitOn_ge _ s) (ih _)
theorem rb_bit {N : Nat} {w1 : World} {a : Option Addr} {n cap : Nat} {bs : Nat → Nat} {s : PS} {w : World} (h : RB N w1 a n cap bs s w) :
    (∃ s', bitsT bs n 1 s = (s', 0) ∧ Hid (Calls Tryd.prog 75 #[.pointer (some ⟨N, 0, none⟩), .int .i64 1] w fun e w' => e = .returned (.int .u64 0) ∧ RB N w1 a n cap bs s' w' ∧ RF N w w')) ∨
    (∃ s', bitsT bs n 1 s = (s', 1) ∧ Hid (Calls Tryd.prog 75 #[.pointer (some ⟨N, 0, none⟩), .int .i64 1] w fun e w' => e = .returned (.int .u64 1) ∧ RB N w1 a n cap bs s' w' ∧ RF N w w')) := by
  obtain ⟨x, s', hx, hlt, hC⟩ := rb_bitsL h 1 1 rfl (by omega)
  have : x = 0 ∨ x = 1 := by have : x < 2 := hlt; omega
  rcases this with rfl | rfl
  · exact Or.inl ⟨s', hx, hC⟩
  · exact Or.inr ⟨s', hx, hC⟩
theorem own_set {W : World} {base m sz : Nat} {e : TypeId} {v : Value} {xs : List Value} (h : W.ownsRow base e sz v m xs) (p : Addr) (hp : p.block < base) (x : Value) : (W.setCell p x).ownsRow base e sz v m xs := by
  refine ⟨h.1, ?_⟩
  rcases h.2 with h2 | ⟨g, cap, cur, e1, e2, e3, e4⟩
  · exact Or.inl h2
  · exact Or.inr ⟨g, cap, cur, e1, e2, by rw [Below.heap_setCell _ _ _ _ (by omega)]; exact e3, e4⟩
/-- a Reader, the value ahead at za, and the row of values. -/
structure VR (N : Nat) (w2 : World) (a : Option Addr) (n cap : Nat) (bs : Nat → Nat) (za : Nat) (s : PS) (ak : Nat) (ax : Int) (L : List (Nat × Int)) (l : Value) (wr : World) : Prop where
  rb : RB N w2 a n cap bs s wr
  c0 : wr.cell? ⟨za, 0, none⟩ = some (.int .u8 (ak : Int))
  c1 : wr.cell? ⟨za, 1, none⟩ = some (.int .i64 ax)
  f0 : wr.frozen? ⟨za, 0, none⟩ = false
  f1 : wr.frozen? ⟨za, 1, none⟩ = false
  own : wr.ownsRow (za + 1) 57 2 l L.length (encV (kkL L) (xxL L) L.length)
  hN : N < za
  hr : n = 0 ∨ ∀ b off, a = some ⟨b, off, none⟩ → b < za
  hz : za < wr.heap.size
section
variable {N : Nat} {w2 : World} {a : Option Addr} {n cap : Nat} {bs : Nat → Nat} {za : Nat} {s : PS} {ak : Nat} {ax : Int} {L : List (Nat × Int)} {l : Value} {wr : World}
theorem VR.rd (h : VR N w2 a n cap bs za s ak ax L l wr) {s' : PS} {w' : World} (hR : RB N w2 a n cap bs s' w') (hF : RF N wr w') : VR N w2 a n cap bs za s' ak ax L l w' := by
  have hb := hF.keep za h.hz (by have := h.hN; omega)
  exact ⟨hR, by rw [World.cell?_of_block (w := wr) hb]; exact h.c0, by rw [World.cell?_of_block (w := wr) hb]; exact h.c1, by rw [World.frozen?_of_block (w := wr) hb]; exact h.f0, by rw [World.frozen?_of_block (w := wr) hb]; exact h.f1, own_RF h.own hF (by have := h.hN; omega), h.hN, h.hr, Nat.lt_of_lt_of_le h.hz hF.size⟩
/-- 'ahead = ..'. -/
theorem VR.put (h : VR N w2 a n cap bs za s ak ax L l wr) (K : Nat) (X y : Int) (hy : y = (K : Int)) : VR N w2 a n cap bs za s K X L l ((wr.setCell ⟨za, 0, none⟩ (.int .u8 y)).setCell ⟨za, 1, none⟩ (.int .i64 X)) := by
  subst hy
  have hB : Below za wr ((wr.setCell ⟨za, 0, none⟩ (.int .u8 (K : Int))).setCell ⟨za, 1, none⟩ (.int .i64 X)) := ((Below.refl _ _).setCell (p := ⟨za, 0, none⟩) (Nat.le_refl _) _).setCell (p := ⟨za, 1, none⟩) (Nat.le_refl _) _
  refine ⟨h.rb.above hB h.hN h.hr, ?_, ?_, by simpa using h.f0, by simpa using h.f1, own_set (own_set h.own _ (by simp) _) _ (by simp) _, h.hN, h.hr, by simpa using h.hz⟩
  · rw [World.cell?_setCell_other _ _ _ _ (by simp)]; exact World.cell?_setCell_same _ _ _ h.c0
  · exact World.cell?_setCell_same _ _ _ (u := .int .i64 ax) (by rw [World.cell?_setCell_other _ _ _ _ (by simp)]; exact h.c1)
/-- 'l = append(l, ahead)'. -/
theorem VR.app (h : VR N w2 a n cap bs za s ak ax L l wr) (hL : L.length < 1048576) (y : Int) (hy : y = (ak : Int)) : ∃ g c w', (Builtin.append_ #[54, 54] 54 #[l, .slice (some ⟨wr.heap.size, 0, none⟩) 1 1]).run Tryd.prog (wr.alloc (.cells #[.int .u8 y, .int .i64 ax] 57)) = .ok (.slice (some ⟨g, 0, none⟩) (L.length + 1) c) w' ∧ VR N w2 a n cap bs za s ak ax (L ++ [(ak, ax)]) (.slice (some ⟨g, 0, none⟩) (L.length + 1) c) w' := by
  subst hy
  obtain ⟨g, c, w', hr, ho, _, _, hB⟩ := app1V wr (za + 1) l L.length _ h.own (by have := h.hz; omega) (ak : Int) ax (by omega)
  refine ⟨g, c, w', hr, h.rb.above hB (by have := h.hN; omega) (h.hr.imp_right fun hl b off e => by have := hl b off e; omega), ?_, ?_, ?_, ?_, ?_, h.hN, h.hr, Nat.lt_of_lt_of_le h.hz hB.size⟩
  · rw [hB.cell (p := ⟨za, 0, none⟩) (by show za < za + 1; omega)]; exact h.c0
  · rw [hB.cell (p := ⟨za, 1, none⟩) (by show za < za + 1; omega)]; exact h.c1
  · rw [hB.frozen (p := ⟨za, 0, none⟩) (by show za < za + 1; omega)]; exact h.f0
  · rw [hB.frozen (p := ⟨za, 1, none⟩) (by show za < za + 1; omega)]; exact h.f1
  · rw [encV_L]; simpa using ho
theorem VR.putApp (h : VR N w2 a n cap bs za s ak ax L l wr) (hL : L.length < 1048576) (K : Nat) (X y : Int) (hy : y = (K : Int)) : ∃ g c w', (Builtin.append_ #[54, 54] 54 #[l, .slice (some ⟨wr.heap.size, 0, none⟩) 1 1]).run Tryd.prog (((wr.setCell ⟨za, 0, none⟩ (.int .u8 y)).setCell ⟨za, 1, none⟩ (.int .i64 X)).alloc (.cells #[.int .u8 y, .int .i64 X] 57)) = .ok (.slice (some ⟨g, 0, none⟩) (L.length + 1) c) w' ∧ VR N w2 a n cap bs za s K X (L ++ [(K, X)]) (.slice (some ⟨g, 0, none⟩) (L.length + 1) c) w' := by
  have := (h.put K X y hy).app hL y hy
  have e : ((wr.setCell ⟨za, 0, none⟩ (.int .u8 y)).setCell ⟨za, 1, none⟩ (.int .i64 X)).heap.size = wr.heap.size := by simp
  rw [e] at this
  exact this
end
/-- what is read of bytes as values. -/
def lastV (bs : Nat → Nat) (n : Nat) : UV := readV bs n (uintT bs n 1048576 ⟨0, 0, none⟩).1 (uintT bs n 1048576 ⟨0, 0, none⟩).2
def UnVE (bs : Nat → Nat) (n : Nat) (err : Option (Int × Int) → Value) (bad ok : Value) (e : Ending) (w' : World) : Prop :=
  (∃ x, doneF bs n (lastV bs n).s.p (lastV bs n).s.r (lastV bs n).s.fv = some x ∧ e = .returned (.tuple #[.slice none 0 0, err (some x)])) ∨
  (doneF bs n (lastV bs n).s.p (lastV bs n).s.r (lastV bs n).s.fv = none ∧ (((valsS (kkL (lastV bs n).L) (xxL (lastV bs n).L) (lastV bs n).L.length (lastV bs n).L.length).s.1 = bytesL bs n ∧ ∃ a c, e = .returned (.tuple #[.slice a (lastV bs n).L.length c, ok]) ∧ VIn w' a (lastV bs n).L.length (kkL (lastV bs n).L) (xxL (lastV bs n).L)) ∨
   ((valsS (kkL (lastV bs n).L) (xxL (lastV bs n).L) (lastV bs n).L.length (lastV bs n).L.length).s.1 ≠ bytesL bs n ∧ e = .returned (.tuple #[.slice none 0 0, bad]))))
theorem UnVE.fault {bs : Nat → Nat} {n : Nat} {err : Option (Int × Int) → Value} {bad ok : Value} {e : Ending} {w' : World} {u : UV} {x : Int × Int} (hl : lastV bs n = u) (hd : doneF bs n u.s.p u.s.r u.s.fv = some x) (he : e = .returned (.tuple #[.slice none 0 0, err (some x)])) : UnVE bs n err bad ok e w' :=
  Or.inl ⟨x, by rw [hl]; exact hd, he⟩
theorem UnVE.good {bs : Nat → Nat} {n : Nat} {err : Option (Int × Int) → Value} {bad ok : Value} {e : Ending} {w' : World} {u : UV} {a : Option Addr} {c : Nat} (hl : lastV bs n = u) (hd : doneF bs n u.s.p u.s.r u.s.fv = none) (hq : (valsS (kkL u.L) (xxL u.L) u.L.length u.L.length).s.1 = bytesL bs n) (he : e = .returned (.tuple #[.slice a u.L.length c, ok])) (hv : VIn w' a u.L.length (kkL u.L) (xxL u.L)) : UnVE bs n err bad ok e w' :=
  Or.inr ⟨by rw [hl]; exact hd, Or.inl ⟨by rw [hl]; exact hq, a, c, by rw [hl]; exact he, by rw [hl]; exact hv⟩⟩
theorem UnVE.worse {bs : Nat → Nat} {n : Nat} {err : Option (Int × Int) → Value} {bad ok : Value} {e : Ending} {w' : World} {u : UV} (hl : lastV bs n = u) (hd : doneF bs n u.s.p u.s.r u.s.fv = none) (hq : (valsS (kkL u.L) (xxL u.L) u.L.length u.L.length).s.1 ≠ bytesL bs n) (he : e = .returned (.tuple #[.slice none 0 0, bad])) : UnVE bs n err bad ok e w' :=
  Or.inr ⟨by rw [hl]; exact hd, Or.inr ⟨by rw [hl]; exact hq, he⟩⟩
theorem uB_pos (x : Nat) : 0 < (uB x).length := by
  unfold uB uBf
  split <;> simp
theorem valsS_pos (kk : Nat → Nat) (xx : Nat → Int) (n : Nat) : ∀ k, 0 < (valsS kk xx n k).s.1.length := by
  have bpos : ∀ x c s, 0 < s.1.length → 0 < (bitsOn x c s).1.length := fun x c s h => by
    have := bitsOn_ge x c s
    omega
  intro k
  induction k with
  | zero => have := uB_pos n; simpa [valsS, uOn] using this
  | succ k ih =>
    simp only [valsS, valStep]
    split
    · exact bpos _ _ _ ih
    · split
      · exact bpos _ _ _ (bpos _ _ _ (bpos _ _ _ ih))
      · split
        · exact bpos _ _ _ ih
        · exact bpos _ _ _ ih
set_option maxRecDepth 100000 in
set_option maxHeartbeats 4000000 in
theorem aloneV_any (a : Option Addr) (m c : Nat) (kk : Nat → Nat) (xx : Nat → Int) (ba : Option Addr) (n bc : Nat) (bs : Nat → Nat) (w : World) (h : VIn w a m kk xx) (hm : m ≤ 1048576) (hV : AllV kk xx m) (hb : BytesIn w ba n bs) (hn : 0 < n) :
    Calls Tryd.prog 83 #[.slice a m c, .slice ba n bc, .func (.func 5) #[] #[]] w fun e w' => ((valsS kk xx m m).s.1 = bytesL bs n ∧ e = .returned (.tuple #[.slice a m c, .nilIface]) ∨ (valsS kk xx m m).s.1 ≠ bytesL bs n ∧ e = .returned (.tuple #[.slice none 0 0, .iface 77 (.int .i64 90)])) ∧ Below w.heap.size w w' := by
  have hVa : Hid _ := values_any a m c kk xx w h
  clear h
  go_enter Tryd.func83, Tryd.ntmps83
  go_wp2_with fail
  refine Calls.mono hVa.out ?_
  rintro e w2 ⟨hE, hB2⟩
  clear hVa
  rcases hE with ⟨hx, _⟩ | ⟨_, hx, _⟩ | ⟨_, _, ga, gc, rfl, hin⟩
  · omega
  · exact absurd hV hx
  · have hpos : 0 < (valsS kk xx m m).s.1.length := valsS_pos kk xx m m
    have hq : Hid _ := equal_in (c1 := gc) (c2 := bc) hin (hb.below hB2) hpos hn
    have hF : Hid _ := faultNew 90 rfl
    obtain ⟨V, hV'⟩ : ∃ V, V = (valsS kk xx m m).s.1 := ⟨_, rfl⟩
    rw [← hV'] at hq hpos hin ⊢
    have e1 : bytesL (natsOf V) V.length = V := bytesL_nats V
    have hVH : Hid (V = (valsS kk xx m m).s.1) := hV'
    clear hV' hin hb
    go_wp2_with fail
    refine Calls.mono hq.out ?_
    rintro e w3 ⟨rfl, hw⟩
    have hw' := hw.symm
    subst hw'
    clear hw hq
    rw [e1]
    by_cases hc : V = bytesL bs n
    · rw [decide_eq_true hc]
      have hcH : Hid (V = bytesL bs n) := hc
      clear hc
      go_wp2_with fail
      simp [bodyPost, results, Tryd.results83, go_sem]
      exact ⟨by rw [← hVH.out]; exact hcH.out, hB2⟩
    · rw [decide_eq_false hc]
      have hcH : Hid (V ≠ bytesL bs n) := hc
      clear hc
      go_wp2_with fail
      refine Calls.mono (hF.out _) ?_
      rintro e w3 ⟨rfl, hw⟩
      have hw' := hw.symm
      subst hw'
      clear hw
      go_wp2_with fail
      simp [bodyPost, results, Tryd.results83, go_sem]
      exact ⟨by rw [← hVH.out]; exact hcH.out, hB2⟩
end Go.Proofs.YtfijagdbdbbbpaaDoor
