
import Derived.Test.YtfijagdbdbbbpaaDoorBuJ
import Derived.Test.YtfijagdbdbbbpaaDoorLen
import Derived.BigQuiet
namespace Go.Proofs.YtfijagdbdbbbpaaDoor
open Go.RowKit
set_option linter.unusedVariables false
set_option linter.unusedSimpArgs false
/-- is it a value? -/
def isV (K : Nat) (X : Int) : Prop := K ≤ 2 ∧ (K = 0 ∨ X = 0)
def AllV (kk : Nat → Nat) (xx : Nat → Int) (n : Nat) : Prop := ∀ i, i < n → isV (kk i) (xx i)
/-- a slice of values. -/
def VIn (w : World) (a : Option Addr) (n : Nat) (kk : Nat → Nat) (xx : Nat → Int) : Prop := n ≤ 8796093022208 ∧ (∀ i, kk i < 256 ∧ -9223372036854775808 ≤ xx i ∧ xx i ≤ 9223372036854775807) ∧ (n = 0 ∨ ∃ b off, a = some ⟨b, off, none⟩ ∧ b < w.heap.size ∧ ∀ i, i < n → w.cell? ⟨b, off + i * 2, none⟩ = some (.int .u8 (kk i : Int)) ∧ w.cell? ⟨b, off + i * 2 + 1, none⟩ = some (.int .i64 (xx i)))
theorem VIn.below {w w' : World} {a : Option Addr} {n B : Nat} {kk : Nat → Nat} {xx : Nat → Int} (h : VIn w a n kk xx) (hb : Below B w w') (hB : w.heap.size ≤ B) : VIn w' a n kk xx := by
  obtain ⟨h1, h2, h3⟩ := h
  refine ⟨h1, h2, ?_⟩
  rcases h3 with h0 | ⟨b, off, e, hl, hc⟩
  · exact Or.inl h0
  · exact Or.inr ⟨b, off, e, Nat.lt_of_lt_of_le hl hb.size, fun i hi => ⟨by rw [hb.cell (p := ⟨b, off + i * 2, none⟩) (by show b < B; omega)]; exact (hc i hi).1, by rw [hb.cell (p := ⟨b, off + i * 2 + 1, none⟩) (by show b < B; omega)]; exact (hc i hi).2⟩⟩
def OddE (K : Nat) (X : Int) (e : Ending) : Prop := ∃ r, e = .returned (.bool r) ∧ (r = true ↔ ¬ isV K X)
theorem odd_any (K : Nat) (X : Int) (w : World) : Calls Tryd.prog 21 #[.agg #[.int .u8 (K : Int), .int .i64 X]] w fun e w' => OddE K X e ∧ Below w.heap.size w w' := by
  have hB := below_new (Below.refl _ w) (.cells #[.int .u8 (K : Int), .int .i64 X] 57)
  by_cases h2 : 2 < K
  · have hI : (2 : Int) < (K : Int) := by omega
    go_enter Tryd.func21, Tryd.ntmps21
    go_wp2_with fail
    go_ret
    exact ⟨⟨true, rfl, fun _ h => by have := h.1; omega, fun _ => rfl⟩, hB⟩
  · by_cases h0 : K = 0
    · subst h0
      simp only [show ((0 : Nat) : Int) = 0 from rfl] at hB ⊢
      go_enter Tryd.func21, Tryd.ntmps21
      go_wp2_with fail
      go_ret
      exact ⟨⟨false, rfl, (fun h => by cases h), fun h => absurd ⟨by omega, Or.inl rfl⟩ h⟩, hB⟩
    · have hI : ¬ (2 : Int) < (K : Int) := by omega
      have hI0 : ¬ (K : Int) = 0 := by omega
      have hI0' : ¬ K = 0 := h0
      by_cases hx : X = 0
      · subst hx
        go_enter Tryd.func21, Tryd.ntmps21
        go_wp2_with fail
        go_ret
        refine ⟨⟨_, rfl, ?_⟩, hB⟩
        first
          | (constructor; intro h; simp at h; done)
          | (constructor <;> intro h <;> first | (simp at h; done) | (simp; done) | (exact absurd ⟨by omega, Or.inr rfl⟩ h) | (simp at h; omega))
      · go_enter Tryd.func21, Tryd.ntmps21
        go_wp2_with fail
        go_ret
        refine ⟨⟨true, ?_, fun _ h => by have := h.2; omega, fun _ => rfl⟩, hB⟩
        first | rfl | simp [hI, hI0, hx, hI0']
def IdxE (kk : Nat → Nat) (xx : Nat → Int) (n : Nat) (e : Ending) : Prop := ∃ r : Int, e = .returned (.int .i64 r) ∧ (0 ≤ r ↔ ¬ AllV kk xx n)
set_option maxRecDepth 100000 in
theorem index_any (a : Option Addr) (n cap : Nat) (kk : Nat → Nat) (xx : Nat → Int) (w : World) (h : VIn w a n kk xx) : Calls Tryd.prog 68 #[.slice a n cap, .func (.func 21) #[] #[]] w fun e w' => IdxE kk xx n e ∧ Below w.heap.size w w' := by
  obtain ⟨hn, hz, hc⟩ := h
  go_enter Tryd.func68, Tryd.ntmps68
  go_wp2_with fail
  go_loopw [8] (fun i wr => ∃ k : Nat, k ≤ n ∧ i = .int .i64 (k : Int) ∧ Below w.heap.size w wr ∧ AllV kk xx k) (fun i _ => n - (intOf i).toNat)
  case atStart => exact ⟨0, by omega, rfl, Below.refl _ _, fun i hi => by omega⟩
  case round =>
    obtain ⟨k, hk, rfl, hB, hA⟩ := hrel
    have hAH : Hid (AllV kk xx k) := hA
    clear hA
    by_cases hkn : k < n
    · have hkI : (k : Int) < (n : Int) := by omega
      have k0 : (0 : Int) ≤ (k : Int) := by omega
      rcases hc with h0 | ⟨b, off, rfl, hb, hcc⟩
      · omega
      have d0 : wr.cell? ⟨b, off + k * 2, none⟩ = some (.int .u8 (kk k : Int)) := by rw [hB.cell (p := ⟨b, off + k * 2, none⟩) hb]; exact (hcc k hkn).1
      have d1 : wr.cell? ⟨b, off + k * 2 + 1, none⟩ = some (.int .i64 (xx k)) := by rw [hB.cell (p := ⟨b, off + k * 2 + 1, none⟩) hb]; exact (hcc k hkn).2
      have hO : Hid _ := odd_any (kk k) (xx k)
      clear hcc
      go_wp2_with fail
      refine Calls.mono (hO.out _) ?_
      rintro e w2 ⟨⟨r, rfl, hr⟩, hB2⟩
      have hB3 := below_then hB hB2
      have hrH : Hid _ := hr
      clear hr hO
      cases r with
      | true =>
        go_wp2_with fail
        go_ret
        exact ⟨⟨(k : Int), rfl, fun _ h => (hrH.out.1 (by simp)) (h k hkn), fun _ => k0⟩, hB3⟩
      | false =>
        have hv : isV (kk k) (xx k) := Classical.not_not.1 fun hh => Bool.noConfusion (hrH.out.2 hh)
        have hvH : Hid (isV (kk k) (xx k)) := hv
        clear hv
        go_wp2_with fail
        go_roundw
        case rel => exact ⟨k + 1, by omega, by go_num, hB3, fun i hi => by
          rcases Nat.lt_or_ge i k with h3 | h3
          · exact hAH.out i h3
          · obtain rfl : i = k := (by omega)
            exact hvH.out⟩
        case measure => simp [intOf]; omega
    · have hkI : ¬ (k : Int) < (n : Int) := by omega
      have hAn : Hid (AllV kk xx n) := (fun i hi => hAH.out i (by omega) : AllV kk xx n)
      go_wp2_with fail
      go_ret
      exact ⟨⟨-1, rfl, fun h => by omega, fun h => absurd hAn.out h⟩, hB⟩
def ContE (kk : Nat → Nat) (xx : Nat → Int) (n : Nat) (e : Ending) : Prop := ∃ r, e = .returned (.bool r) ∧ (r = true ↔ ¬ AllV kk xx n)
theorem contains_any (a : Option Addr) (n cap : Nat) (kk : Nat → Nat) (xx : Nat → Int) (w : World) (h : VIn w a n kk xx) : Calls Tryd.prog 20 #[.slice a n cap, .func (.func 21) #[] #[]] w fun e w' => ContE kk xx n e ∧ Below w.heap.size w w' := by
  have hI : Hid _ := index_any a n cap kk xx w h
  clear h
  go_enter Tryd.func20, Tryd.ntmps20
  go_wp2_with fail
  refine Calls.mono hI.out ?_
  rintro e w2 ⟨⟨r, rfl, hr⟩, hB⟩
  have hrH : Hid _ := hr
  clear hr hI
  by_cases h0 : 0 ≤ r
  · go_wp2_with fail
    go_ret
    exact ⟨⟨_, rfl, by simp [h0]; exact hrH.out.1 h0⟩, hB⟩
  · go_wp2_with fail
    go_ret
    have hall : AllV kk xx n := Classical.not_not.1 fun hh => by have := hrH.out.2 hh; omega
    exact ⟨⟨_, rfl, by simp [hall]; omega⟩, hB⟩
/-- how many bits a number has, one at least. -/
def sizeN (x : Nat) : Nat := max (Lib.bitLen x) 1
def stepOn (d : Int) (s : List Nat × Nat) : List Nat × Nat := bitsOn (foldZ d) (sizeN (foldZ d)) (bitsOn (sizeN (foldZ d) - 1) 6 s)
theorem sizeN_le (x : Nat) : 1 ≤ sizeN x ∧ sizeN x ≤ 64 := by
  unfold sizeN
  have h : ∀ f y, Lib.bitLenAux f y ≤ f := by
    intro f
    induction f with
    | zero => intro y; simp [Lib.bitLenAux]
    | succ f ih =>
      intro y
      unfold Lib.bitLenAux
      split
      · omega
      · have := ih (y / 2); omega
  have := h 64 x
  unfold Lib.bitLen
  omega
set_option maxRecDepth 100000 in
set_option maxHeartbeats 2000000 in
theorem putStep_any {N : Nat} {w1 w : World} {s : List Nat × Nat} {Z : Nat → Prop} (h : RZ N w1 s Z w) (d : Int) (hd : -9223372036854775808 ≤ d ∧ d ≤ 9223372036854775807) (hb : s.1.length + 500 ≤ 140737488355328) : Calls Tryd.prog 23 #[.pointer (some ⟨N, 0, none⟩), .int .i64 d] w fun e w' => e = .returned undef ∧ RZ N w1 (stepOn d s) Z w' ∧ KZ Z w w' := by
  obtain ⟨x, hx⟩ : ∃ x, x = foldZ d := ⟨_, rfl⟩
  have hxl : x < 18446744073709551616 := by rw [hx]; exact foldZ_lt d hd
  obtain ⟨m, hm⟩ : ∃ m, m = sizeN x := ⟨_, rfl⟩
  have hml := sizeN_le x
  rw [← hm] at hml
  have hfold := fold_xor d hd
  rw [← hx] at hfold
  have hLen : Hid (∀ w', _) := fun w' => Tryd.bits_Len64 (x : Int) w' (by omega) (by omega)
  have h1 := bitsOn_len (m - 1) 6 s
  have hb1 : Hid (∀ w', RZ N w1 s Z w' → Calls Tryd.prog 22 #[.pointer (some ⟨N, 0, none⟩), .int .u64 ((m : Int) - 1), .int .i64 6] w' fun e w'' => e = .returned undef ∧ RZ N w1 (bitsOn (m - 1) 6 s) Z w'' ∧ KZ Z w' w'') := fun w' h' => rz_bits (w := w') h' (m - 1) (by omega) _ 6 (by omega) (by omega)
  have hb2 : Hid (∀ w', RZ N w1 (bitsOn (m - 1) 6 s) Z w' → Calls Tryd.prog 22 #[.pointer (some ⟨N, 0, none⟩), .int .u64 (x : Int), .int .i64 (m : Int)] w' fun e w'' => e = .returned undef ∧ RZ N w1 (stepOn d s) Z w'' ∧ KZ Z w' w'') := fun w' h' => by
    have h2 := rz_bits h' x hxl (x : Int) (m : Int) rfl (by omega)
    have e1 : broughtN (m : Int) = m := by unfold broughtN; rw [if_neg (by omega), if_neg (by omega)]; omega
    rw [e1] at h2
    have e2 : stepOn d s = bitsOn x m (bitsOn (m - 1) 6 s) := by unfold stepOn; rw [← hx, ← hm]
    rw [e2]
    exact h2
  have hH : Hid (RZ N w1 s Z w) := h
  have hmH : Hid (m = sizeN x) := hm
  clear h hx hm
  go_enter Tryd.func23, Tryd.ntmps23
  obtain ⟨B, hBd⟩ : ∃ B, B = Lib.bitLen x := ⟨_, rfl⟩
  rw [show ((x : Int)).toNat = x by omega, ← hBd] at hLen
  have hmB : Hid (m = max B 1) := (by rw [hmH.out, hBd]; rfl : m = max B 1)
  have hmw : IntKind.u64.wrap ((m : Int) - 1) = (m : Int) - 1 := by rw [IntKind.wrap_u64]; omega
  have hmw2 : IntKind.i64.wrap ((m : Int) - 1) = (m : Int) - 1 := IntWalk.i64_in _ (by omega)
  clear hBd
  go_wp2_with fail
  refine Calls.mono (hLen.out _) ?_
  rintro e w2 ⟨rfl, hw⟩
  have hw' := hw.symm
  subst hw'
  clear hw
  have hb1' : Hid _ := hb1.out _ hH.out
  have hmx : max (B : Int) 1 = (m : Int) := by have := hmB.out; omega
  go_wp2_with fail
  refine Calls.mono hb1'.out ?_
  rintro e w3 ⟨rfl, h3, K3⟩
  have hb2' : Hid _ := hb2.out _ h3
  clear h3
  go_wp2_with fail
  refine Calls.mono hb2'.out ?_
  rintro e w4 ⟨rfl, h4, K4⟩
  have h4H : Hid (RZ N w1 (stepOn d s) Z w4) := h4
  clear h4
  go_wp2_with fail
  first | go_end0 | (simp only [Exit.inBlock, Exit.then]; refine bodyPost_ret (results_none rfl _ _ _) rfl ?_) | refine bodyPost_ret (results_none rfl _ _ _) rfl ?_
  exact ⟨rfl, h4H.out, fun z hz => (K4 z hz).trans (K3 z hz)⟩
end Go.Proofs.YtfijagdbdbbbpaaDoor

namespace Go.Proofs.YtfijagdbdbbbpaaDoor
open Go.RowKit
set_option linter.unusedVariables false
set_option linter.unusedSimpArgs false
/-- what is written of values, the value ahead, the last number. -/
structure VS where
  s : List Nat × Nat
  ak : Nat
  ax : Int
  la : Int
def valStep (K : Nat) (X : Int) (v : VS) : VS :=
  if K = v.ak ∧ X = v.ax then ⟨bitsOn 0 1 v.s, K, X, v.la⟩ else if K = 0 then ⟨stepOn (wrap64 (X - v.la)) (bitsOn 2 2 v.s), K, X, X⟩ else if K = 1 then ⟨bitsOn 6 3 v.s, K, X, v.la⟩ else ⟨bitsOn 7 3 v.s, K, X, v.la⟩
def valsS (kk : Nat → Nat) (xx : Nat → Int) (n : Nat) : Nat → VS
  | 0 => ⟨uOn n ([], 0), 0, 0, 0⟩
  | k + 1 => valStep (kk k) (xx k) (valsS kk xx n k)
theorem stepOn_len (d : Int) (s : List Nat × Nat) : (stepOn d s).1.length ≤ s.1.length + 70 := by
  have h1 := bitsOn_len (foldZ d) (sizeN (foldZ d)) (bitsOn (sizeN (foldZ d) - 1) 6 s)
  have h2 := bitsOn_len (sizeN (foldZ d) - 1) 6 s
  have h3 := sizeN_le (foldZ d)
  unfold stepOn
  omega
theorem valsS_len (kk : Nat → Nat) (xx : Nat → Int) (n : Nat) : ∀ k, (valsS kk xx n k).s.1.length ≤ 11 + 72 * k := by
  intro k
  induction k with
  | zero => have := uB_len n; simp [valsS, uOn]; omega
  | succ k ih =>
    simp only [valsS, valStep]
    split
    · have := bitsOn_len 0 1 (valsS kk xx n k).s; simp only; omega
    · split
      · have h1 := stepOn_len (wrap64 (xx k - (valsS kk xx n k).la)) (bitsOn 2 2 (valsS kk xx n k).s)
        have h2 := bitsOn_len 2 2 (valsS kk xx n k).s
        simp only; omega
      · split
        · have := bitsOn_len 6 3 (valsS kk xx n k).s; simp only; omega
        · have := bitsOn_len 7 3 (valsS kk xx n k).s; simp only; omega
def ValuesE (kk : Nat → Nat) (xx : Nat → Int) (n : Nat) (err : Int → Value) (ok : Value) (e : Ending) (w' : World) : Prop :=
  (1048576 < n ∧ e = .returned (.tuple #[.slice none 0 0, err 6])) ∨ (n ≤ 1048576 ∧ ¬ AllV kk xx n ∧ e = .returned (.tuple #[.slice none 0 0, err 2])) ∨
  (n ≤ 1048576 ∧ AllV kk xx n ∧ ∃ a c, e = .returned (.tuple #[.slice a (valsS kk xx n n).s.1.length c, ok]) ∧ BytesIn w' a (valsS kk xx n n).s.1.length (natsOf (valsS kk xx n n).s.1))
/-- the Writer beside the value ahead. -/
structure VA (N : Nat) (w2 : World) (za : Nat) (v : VS) (wr : World) : Prop where
  rz : RZ N w2 v.s (fun z => z = za) wr
  c0 : wr.cell? ⟨za, 0, none⟩ = some (.int .u8 (v.ak : Int))
  c1 : wr.cell? ⟨za, 1, none⟩ = some (.int .i64 v.ax)
  f0 : wr.frozen? ⟨za, 0, none⟩ = false
  f1 : wr.frozen? ⟨za, 1, none⟩ = false
  le : N ≤ za
/-- what stands when the bits of a value are written, ahead of 'ahead = v'. -/
structure VB (N : Nat) (w2 : World) (za zv : Nat) (s : List Nat × Nat) (K : Nat) (X : Int) (wr : World) : Prop where
  rz : RZ N w2 s (fun z => z = za ∨ z = zv) wr
  a0 : ∃ u, wr.cell? ⟨za, 0, none⟩ = some u
  a1 : ∃ u, wr.cell? ⟨za, 1, none⟩ = some u
  f0 : wr.frozen? ⟨za, 0, none⟩ = false
  f1 : wr.frozen? ⟨za, 1, none⟩ = false
  v0 : wr.cell? ⟨zv, 0, none⟩ = some (.int .u8 (K : Int))
  v1 : wr.cell? ⟨zv, 1, none⟩ = some (.int .i64 X)
theorem VB.keep {N : Nat} {w2 : World} {za zv : Nat} {s s' : List Nat × Nat} {K : Nat} {X : Int} {wr w' : World} (h : VB N w2 za zv s K X wr) (hz : RZ N w2 s' (fun z => z = za ∨ z = zv) w') (hk : KZ (fun z => z = za ∨ z = zv) wr w') : VB N w2 za zv s' K X w' := by
  obtain ⟨_, ⟨u, a0⟩, ⟨u', a1⟩, f0, f1, v0, v1⟩ := h
  exact ⟨hz, ⟨u, by rw [hk.cell (Or.inl rfl)]; exact a0⟩, ⟨u', by rw [hk.cell (Or.inl rfl)]; exact a1⟩, by rw [hk.frozen (Or.inl rfl)]; exact f0, by rw [hk.frozen (Or.inl rfl)]; exact f1, by rw [hk.cell (Or.inr rfl)]; exact v0, by rw [hk.cell (Or.inr rfl)]; exact v1⟩
/-- 'ahead = v'. -/
theorem VB.ahead {N : Nat} {w2 : World} {za zv : Nat} {s : List Nat × Nat} {K : Nat} {X la : Int} {wr : World} (h : VB N w2 za zv s K X wr) (hN : N ≤ za) : VA N w2 za ⟨s, K, X, la⟩ ((wr.setCell ⟨za, 0, none⟩ (.int .u8 (K : Int))).setCell ⟨za, 1, none⟩ (.int .i64 X)) := by
  obtain ⟨hz, ⟨u, a0⟩, ⟨u', a1⟩, f0, f1, v0, v1⟩ := h
  have h1 := (hz.set (z := za) (Or.inl rfl) hN 0 (.int .u8 (K : Int))).set (z := za) (Or.inl rfl) hN 1 (.int .i64 X)
  obtain ⟨g1, v, g2, g3⟩ := h1
  refine ⟨⟨g1, v, g2, fun z hz => g3 z (Or.inl hz)⟩, ?_, ?_, by simpa using f0, by simpa using f1, hN⟩
  · rw [World.cell?_setCell_other _ _ _ _ (by simp)]; exact World.cell?_setCell_same _ _ _ a0
  · exact World.cell?_setCell_same _ _ _ (u := u') (by rw [World.cell?_setCell_other _ _ _ _ (by simp)]; exact a1)
theorem VA.new {N : Nat} {w2 : World} {za : Nat} {v : VS} {wr : World} (h : VA N w2 za v wr) (K : Nat) (X : Int) : VB N w2 za wr.heap.size v.s K X (wr.alloc (.cells #[.int .u8 (K : Int), .int .i64 X] 57)) := by
  have hB := below_new (Below.refl _ wr) (.cells #[.int .u8 (K : Int), .int .i64 X] 57)
  have hzl : za < wr.heap.size := by
    obtain ⟨_, _, _, g⟩ := h.rz
    exact (g za rfl).2.2
  refine ⟨h.rz.more hB (by simp), ⟨_, by rw [hB.cell (p := ⟨za, 0, none⟩) hzl]; exact h.c0⟩, ⟨_, by rw [hB.cell (p := ⟨za, 1, none⟩) hzl]; exact h.c1⟩, by rw [hB.frozen (p := ⟨za, 0, none⟩) hzl]; exact h.f0, by rw [hB.frozen (p := ⟨za, 1, none⟩) hzl]; exact h.f1, by simp [go_sem], by simp [go_sem]⟩
theorem vb_bits {N : Nat} {w2 : World} {za zv : Nat} {s : List Nat × Nat} {K : Nat} {X : Int} {wr : World} (h : VB N w2 za zv s K X wr) (x : Nat) (hx : x < 18446744073709551616) (z k : Int) (hz : z = (x : Int)) (m : Nat) (hk : k = (m : Int)) (hm : m ≤ 64) (hb : s.1.length + 100 ≤ 140737488355328) : Calls Tryd.prog 22 #[.pointer (some ⟨N, 0, none⟩), .int .u64 z, .int .i64 k] wr fun e w' => e = .returned undef ∧ VB N w2 za zv (bitsOn x m s) K X w' := by
  refine (rz_bits h.rz x hx z k hz hb).mono ?_
  rintro e w' ⟨rfl, h1, h2⟩
  have e1 : broughtN k = m := by subst hk; unfold broughtN; rw [if_neg (by omega), if_neg (by omega)]; omega
  rw [e1] at h1
  exact ⟨rfl, h.keep h1 h2⟩
theorem vb_step {N : Nat} {w2 : World} {za zv : Nat} {s : List Nat × Nat} {K : Nat} {X : Int} {wr : World} (h : VB N w2 za zv s K X wr) (d : Int) (hd : -9223372036854775808 ≤ d ∧ d ≤ 9223372036854775807) (hb : s.1.length + 500 ≤ 140737488355328) : Calls Tryd.prog 23 #[.pointer (some ⟨N, 0, none⟩), .int .i64 d] wr fun e w' => e = .returned undef ∧ VB N w2 za zv (stepOn d s) K X w' := by
  refine (putStep_any h.rz d hd hb).mono ?_
  rintro e w' ⟨rfl, h1, h2⟩
  exact ⟨rfl, h.keep h1 h2⟩
end Go.Proofs.YtfijagdbdbbbpaaDoor
