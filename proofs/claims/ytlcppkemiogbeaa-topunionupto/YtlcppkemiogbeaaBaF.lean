
import Derived.Test.YtlcppkemiogbeaaBaE
import Derived.Test.YtlcppkemiogbeaaKyC
import Derived.Test.YtlcppkemiogbeaaSoP
namespace Go.Proofs.Ytlcppkemiogbeaa
open Go.RowKit _root_.Go.Proofs.Ytlcppkemiogbeaa.So
set_option linter.unusedVariables false
set_option linter.unusedSimpArgs false
/-- a sample of a series. -/
structure WrP where
  s : SerP
  tm : Int
  kd : Nat
  n : Int
/-- the order of times. -/
def tmC (a b : Int) : Int := if a < b then -1 else if b < a then 1 else 0
theorem tmC_is : IsCmp tmC where
  range := fun a b => by unfold tmC; split <;> (try split) <;> simp
  flip := fun a b => by unfold tmC; split <;> split <;> (try split) <;> (try split) <;> (first | rfl | omega)
  zero := fun a b => by unfold tmC; split <;> (try split) <;> simp <;> omega
  trans := fun a b d h1 h2 => by unfold tmC at *; split at h1 <;> (try split at h1) <;> split at h2 <;> (try split at h2) <;> split <;> (try split) <;> omega
def wK (x : WrP) : SerP × Int := (x.s, x.tm)
def kC : SerP × Int → SerP × Int → Int := pairC serC tmC
theorem kC_is : IsCmp kC := pairC_is serC_is tmC_is
def wC (x y : WrP) : Int := kC (wK x) (wK y)
/-- a sample as a value, its tags lying at a. -/
def wV (x : WrP) (a : Option Addr) (c : Nat) : Value := .agg #[.string x.s.m, .slice a x.s.t.length c, .string x.s.f, .int .i64 x.tm, .int .u8 (x.kd : Int), .int .i64 x.n]
set_option maxRecDepth 100000 in
theorem isNaN_any (a : Int) (w : World) : Calls Try.prog 39 #[.int .i64 a] w fun e w' => e = .returned (.bool false) ∧ w' = w := by
  go_enter Try.func39, Try.ntmps39
  go_wp2_with fail
  go_ret
  exact ⟨rfl, rfl⟩
set_option maxRecDepth 100000 in
theorem cmpI_any (a b : Int) (w : World) : Calls Try.prog 30 #[.int .i64 a, .int .i64 b] w fun e w' => e = .returned (.int .i64 (tmC a b)) ∧ w' = w := by
  have ca : Hid (∀ W, Calls Try.prog 39 #[.int .i64 a] W fun e w' => e = .returned (.bool false) ∧ w' = W) := isNaN_any a
  have cb : Hid (∀ W, Calls Try.prog 39 #[.int .i64 b] W fun e w' => e = .returned (.bool false) ∧ w' = W) := isNaN_any b
  by_cases h1 : a < b
  · have e : tmC a b = -1 := by unfold tmC; rw [if_pos h1]
    rw [e]
    clear e
    go_enter Try.func30, Try.ntmps30
    go_wp2_with fail
    refine Calls.mono (ca.out _) ?_
    rintro e w1 ⟨rfl, hw⟩
    subst hw
    go_wp2_with fail
    refine Calls.mono (cb.out _) ?_
    rintro e w2 ⟨rfl, hw⟩
    subst hw
    go_wp2_with fail
    go_ret
    exact ⟨rfl, rfl⟩
  · by_cases h2 : b < a
    · have e : tmC a b = 1 := by unfold tmC; rw [if_neg h1, if_pos h2]
      rw [e]
      clear e
      go_enter Try.func30, Try.ntmps30
      go_wp2_with fail
      refine Calls.mono (ca.out _) ?_
      rintro e w1 ⟨rfl, hw⟩
      subst hw
      go_wp2_with fail
      refine Calls.mono (cb.out _) ?_
      rintro e w2 ⟨rfl, hw⟩
      subst hw
      go_wp2_with fail
      go_ret
      exact ⟨rfl, rfl⟩
    · have e : tmC a b = 0 := by unfold tmC; rw [if_neg h1, if_neg h2]
      rw [e]
      clear e
      go_enter Try.func30, Try.ntmps30
      go_wp2_with fail
      refine Calls.mono (ca.out _) ?_
      rintro e w1 ⟨rfl, hw⟩
      subst hw
      go_wp2_with fail
      refine Calls.mono (cb.out _) ?_
      rintro e w2 ⟨rfl, hw⟩
      subst hw
      go_wp2_with fail
      go_ret
      exact ⟨rfl, rfl⟩
set_option maxRecDepth 100000 in
set_option maxHeartbeats 4000000 in
theorem bcompare_any (x y : WrP) (a b : Option Addr) (c1 c2 : Nat) (w : World) (ha : SerIn w a x.s) (hb : SerIn w b y.s) :
    Calls Try.prog 33 #[wV x a c1, wV y b c2] w fun e w' => e = .returned (.int .i64 (wC x y)) ∧ Below w.heap.size w w' := by
  obtain ⟨⟨xm, xt, xf⟩, xtm, xk, xn⟩ := x
  obtain ⟨⟨ym, yt, yf⟩, ytm, yk, yn⟩ := y
  unfold wV wC wK kC pairC
  simp only at ha hb ⊢
  have B2 : ∀ o1 o2, Below w.heap.size w ((w.alloc o1).alloc o2) := fun o1 o2 => ((Below.refl _ w).alloc (Nat.le_refl _) o1).alloc (by simp) o2
  have C1 : Hid (∀ W, Below w.heap.size w W → Calls Try.prog 43 #[.agg #[.string xm, .slice a xt.length c1, .string xf], .agg #[.string ym, .slice b yt.length c2, .string yf]] W fun e w' => e = .returned (.int .i64 (serC ⟨xm, xt, xf⟩ ⟨ym, yt, yf⟩)) ∧ Below W.heap.size W w') := fun W hW => compare_any a b c1 c2 ⟨xm, xt, xf⟩ ⟨ym, yt, yf⟩ W ⟨ha.1.below hW, ha.2⟩ ⟨hb.1.below hW, hb.2⟩
  have C2 : Hid (∀ W, Calls Try.prog 30 #[.int .i64 xtm, .int .i64 ytm] W fun e w' => e = .returned (.int .i64 (tmC xtm ytm)) ∧ w' = W) := cmpI_any xtm ytm
  generalize serC ⟨xm, xt, xf⟩ ⟨ym, yt, yf⟩ = r at C1 ⊢
  generalize tmC xtm ytm = q at C2 ⊢
  generalize xt.length = lx at *
  generalize yt.length = ly at *
  clear ha hb
  have b2 := B2 (.cells #[.string xm, .slice a lx c1, .string xf, .int .i64 xtm, .int .u8 (xk : Int), .int .i64 xn] 37) (.cells #[.string ym, .slice b ly c2, .string yf, .int .i64 ytm, .int .u8 (yk : Int), .int .i64 yn] 37)
  have s2 : w.heap.size + 2 = ((w.alloc (.cells #[.string xm, .slice a lx c1, .string xf, .int .i64 xtm, .int .u8 (xk : Int), .int .i64 xn] 37)).alloc (.cells #[.string ym, .slice b ly c2, .string yf, .int .i64 ytm, .int .u8 (yk : Int), .int .i64 yn] 37)).heap.size := by simp
  have C1' : Hid (Calls Try.prog 43 #[.agg #[.string xm, .slice a lx c1, .string xf], .agg #[.string ym, .slice b ly c2, .string yf]] ((w.alloc (.cells #[.string xm, .slice a lx c1, .string xf, .int .i64 xtm, .int .u8 (xk : Int), .int .i64 xn] 37)).alloc (.cells #[.string ym, .slice b ly c2, .string yf, .int .i64 ytm, .int .u8 (yk : Int), .int .i64 yn] 37)) fun e w' => e = .returned (.int .i64 r) ∧ Below w.heap.size w w' ∧ w'.cell? ⟨w.heap.size, 3, none⟩ = some (.int .i64 xtm) ∧ w'.cell? ⟨w.heap.size + 1, 3, none⟩ = some (.int .i64 ytm)) := (C1.out _ b2).mono fun e w' hh => ⟨hh.1, b2.trans (hh.2.mono b2.size), by rw [hh.2.cell (p := ⟨w.heap.size, 3, none⟩) (by rw [← s2]; show w.heap.size < _; omega)]; simp [go_sem], by rw [hh.2.cell (p := ⟨w.heap.size + 1, 3, none⟩) (by rw [← s2]; show w.heap.size + 1 < _; omega)]; simp [go_sem]⟩
  obtain ⟨RES, hRES⟩ : ∃ R, (if r = 0 then q else r) = R := ⟨_, rfl⟩
  rw [hRES]
  have hRH : Hid ((if r = 0 then q else r) = RES) := hRES
  clear B2 C1 b2 s2 hRES
  go_enter Try.func33, Try.ntmps33
  go_wp2_with fail
  refine Calls.mono C1'.out ?_
  rintro e w1 ⟨rfl, b1, x1, y1⟩
  have b1H : Hid (Below w.heap.size w w1) := b1
  clear b1 C1'
  by_cases hr : r = 0
  · have hq : Hid (q = RES) := by have := hRH.out; rw [if_pos hr] at this; exact this
    have hrb : (r == 0) = true := by simpa using hr
    clear hRH
    subst hr
    go_wp2_with fail
    refine Calls.mono (C2.out _) ?_
    rintro e w2 ⟨rfl, hw⟩
    subst hw
    go_wp2_with fail
    go_ret
    exact ⟨by rw [← hq.out]; rfl, b1H.out⟩
  · have hq : Hid (r = RES) := by have := hRH.out; rw [if_neg hr] at this; exact this
    have hrb : (r == 0) = false := by simpa using hr
    clear hr hRH
    go_wp2_with fail
    go_ret
    exact ⟨by rw [← hq.out]; rfl, b1H.out⟩
end Go.Proofs.Ytlcppkemiogbeaa
