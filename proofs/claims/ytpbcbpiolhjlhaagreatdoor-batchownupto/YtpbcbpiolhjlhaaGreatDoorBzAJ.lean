
import Derived.Test.YtpbcbpiolhjlhaaGreatDoorBzAI
import Derived.Test.YtpbcbpiolhjlhaaGreatDoorBzAD
import Derived.Test.YtpbcbpiolhjlhaaGreatDoorBzAH

namespace Go.Proofs.YtpbcbpiolhjlhaaGreatDoor.So.Wr
open Go.RowKit
set_option linter.unusedVariables false
set_option linter.unusedSimpArgs false
/-! ### a row of samples by places: six cells each, not frozen -/
def Fr6 (w : World) (b o : Nat) : Prop := w.frozen? ⟨b, o, none⟩ = false ∧ w.frozen? ⟨b, o + 1, none⟩ = false ∧ w.frozen? ⟨b, o + 2, none⟩ = false ∧ w.frozen? ⟨b, o + 3, none⟩ = false ∧ w.frozen? ⟨b, o + 4, none⟩ = false ∧ w.frozen? ⟨b, o + 5, none⟩ = false
def T6 (w : World) (b n : Nat) (F : Nat → WrA) : Prop := b < w.heap.size ∧ ∀ k : Nat, k < n → WAt w b (k * 6) (F k).1 (F k).2.1 (F k).2.2 ∧ Fr6 w b (k * 6)
theorem T6.below {w w' : World} {b n : Nat} {F : Nat → WrA} (h : T6 w b n F) (hb : Below w.heap.size w w') : T6 w' b n F := by
  refine ⟨Nat.lt_of_lt_of_le h.1 hb.size, fun k hk => ⟨(h.2 k hk).1.below hb h.1, ?_⟩⟩
  obtain ⟨_, f1, f2, f3, f4, f5, f6⟩ := h.2 k hk
  exact ⟨by rw [hb.frozen (p := ⟨b, k * 6, none⟩) h.1]; exact f1, by rw [hb.frozen (p := ⟨b, k * 6 + 1, none⟩) h.1]; exact f2, by rw [hb.frozen (p := ⟨b, k * 6 + 2, none⟩) h.1]; exact f3, by rw [hb.frozen (p := ⟨b, k * 6 + 3, none⟩) h.1]; exact f4, by rw [hb.frozen (p := ⟨b, k * 6 + 4, none⟩) h.1]; exact f5, by rw [hb.frozen (p := ⟨b, k * 6 + 5, none⟩) h.1]; exact f6⟩
theorem T6.rw6 {w : World} {b n cp : Nat} {F : Nat → WrA} (h : T6 w b n F) : RW w b cp n F := ⟨h.1, fun i hi => (h.2 i hi).1⟩
def upd6 (F : Nat → WrA) (i : Nat) (x : WrA) : Nat → WrA := fun k => if k = i then x else F k
/-- a sample written over another one. -/
def put6 (w : World) (b o : Nat) (x : WrA) : World := (((((w.setCell ⟨b, o, none⟩ (.string x.1.s.m)).setCell ⟨b, o + 1, none⟩ (.slice x.2.1 x.1.s.t.length x.2.2)).setCell ⟨b, o + 2, none⟩ (.string x.1.s.f)).setCell ⟨b, o + 3, none⟩ (.int .i64 x.1.tm)).setCell ⟨b, o + 4, none⟩ (.int .u8 (x.1.kd : Int))).setCell ⟨b, o + 5, none⟩ (.int .i64 x.1.n)
theorem OB.put6 (w : World) (b o : Nat) (x : WrA) : OB b w (put6 w b o x) := (((((OB.set w o _).trans (OB.set _ _ _)).trans (OB.set _ _ _)).trans (OB.set _ _ _)).trans (OB.set _ _ _)).trans (OB.set _ _ _)
theorem put6_far (w : World) (b o : Nat) (x : WrA) (q : Nat) (h : q < o ∨ o + 6 ≤ q) : (put6 w b o x).cell? ⟨b, q, none⟩ = w.cell? ⟨b, q, none⟩ := by
  unfold put6
  rw [far2 (by intro h; injection h; omega), far2 (by intro h; injection h; omega), far2 (by intro h; injection h; omega), far2 (by intro h; injection h; omega), far2 (by intro h; injection h; omega), far2 (by intro h; injection h; omega)]
theorem T6.set {w : World} {b n : Nat} {F : Nat → WrA} (h : T6 w b n F) {i : Nat} (hi : i < n) (x : WrA) : T6 (put6 w b (i * 6) x) b n (upd6 F i x) := by
  refine ⟨Nat.lt_of_lt_of_le h.1 (OB.put6 _ _ _ _).size, fun k hk => ?_⟩
  obtain ⟨⟨c1, c2, c3, c4, c5, c6⟩, f1, f2, f3, f4, f5, f6⟩ := h.2 k hk
  have fz : ∀ q, (put6 w b (i * 6) x).frozen? ⟨b, q, none⟩ = w.frozen? ⟨b, q, none⟩ := fun q => by simp [put6, World.frozen?_setCell]
  refine ⟨?_, by rw [fz]; exact f1, by rw [fz]; exact f2, by rw [fz]; exact f3, by rw [fz]; exact f4, by rw [fz]; exact f5, by rw [fz]; exact f6⟩
  unfold upd6
  by_cases c : k = i
  · subst c
    rw [if_pos rfl]
    unfold put6 WAt
    simp [go_sem, c1, c2, c3, c4, c5, c6]
  · rw [if_neg c]
    refine ⟨?_, ?_, ?_, ?_, ?_, ?_⟩
    · rw [put6_far _ _ _ _ _ (by omega)]; exact c1
    · rw [put6_far _ _ _ _ _ (by omega)]; exact c2
    · rw [put6_far _ _ _ _ _ (by omega)]; exact c3
    · rw [put6_far _ _ _ _ _ (by omega)]; exact c4
    · rw [put6_far _ _ _ _ _ (by omega)]; exact c5
    · rw [put6_far _ _ _ _ _ (by omega)]; exact c6
/-! ### what is left -/
def isI (x : WrA) : Bool := decide (x.1.kd = 0)
def lft (F : Nat → WrA) (p : Nat) : List WrA := ((List.range p).map F).filter isI
theorem lft_skip (F : Nat → WrA) {p : Nat} (h : isI (F p) = false) : lft F (p + 1) = lft F p := by
  unfold lft; rw [List.range_succ, List.map_append, List.filter_append]; simp [h]
theorem lft_new (F : Nat → WrA) {p : Nat} (h : isI (F p) = true) : lft F (p + 1) = lft F p ++ [F p] := by
  unfold lft; rw [List.range_succ, List.map_append, List.filter_append]; simp [h]
theorem lft_plain (F : Nat → WrA) : ∀ k, (∀ i, i < k → isI (F i) = true) → lft F k = (List.range k).map F
  | 0, _ => rfl
  | k + 1, h => by rw [lft_new F (h k (by omega)), lft_plain F k fun i hi => h i (by omega), List.range_succ, List.map_append]; rfl
structure D6 (F H : Nat → WrA) (p k : Nat) : Prop where
  is : (List.range k).map H = lft F p
  rest : ∀ i, p ≤ i → H i = F i
theorem D6.skip {F H : Nat → WrA} {p k : Nat} (h : D6 F H p k) (e : isI (F p) = false) : D6 F H (p + 1) k := ⟨by rw [lft_skip F e]; exact h.is, fun i hi => h.rest i (by omega)⟩
theorem D6.new {F H : Nat → WrA} {p k : Nat} (h : D6 F H p k) (hk : k ≤ p) (e : isI (F p) = true) : D6 F (upd6 H k (F p)) (p + 1) (k + 1) := by
  refine ⟨?_, fun i hi => ?_⟩
  · rw [lft_new F e, ← h.is, List.range_succ, List.map_append]
    congr 1
    · apply List.map_congr_left
      intro i hi
      unfold upd6
      rw [if_neg (by have := List.mem_range.1 hi; omega)]
    · simp [upd6]
  · unfold upd6
    rw [if_neg (by omega)]
    exact h.rest i (by omega)
/-! ### clear -/
def noW6 (n : Nat) : List Value := (Builtin.zeroCells (Value.agg #[.string ⟨#[]⟩, .slice none 0 0, .string ⟨#[]⟩, .int .i64 0, .int .u8 0, .int .i64 0]).cells n).toList
theorem noW6_len (n : Nat) : (noW6 n).length = n * 6 := by
  unfold noW6
  have hz : (Value.agg #[.string ⟨#[]⟩, .slice none 0 0, .string ⟨#[]⟩, .int .i64 0, .int .u8 0, .int .i64 0]).cells = #[.string ⟨#[]⟩, .slice none 0 0, .string ⟨#[]⟩, .int .i64 0, .int .u8 0, .int .i64 0] := by kernel_rfl
  rw [hz]
  simp [Builtin.zeroCells]
theorem noW6_one (n : Nat) : ∀ u ∈ noW6 n, u.oneCell' = true := by
  intro u hu
  unfold noW6 at hu
  have hz : (Value.agg #[.string ⟨#[]⟩, .slice none 0 0, .string ⟨#[]⟩, .int .i64 0, .int .u8 0, .int .i64 0]).cells = #[.string ⟨#[]⟩, .slice none 0 0, .string ⟨#[]⟩, .int .i64 0, .int .u8 0, .int .i64 0] := by kernel_rfl
  rw [hz] at hu
  simp [Builtin.zeroCells] at hu
  obtain ⟨i, hi, e⟩ := hu
  have : i % 6 = 0 ∨ i % 6 = 1 ∨ i % 6 = 2 ∨ i % 6 = 3 ∨ i % 6 = 4 ∨ i % 6 = 5 := by omega
  rcases this with q | q | q | q | q | q <;> simp [q] at e <;> subst e <;> rfl
theorem run_clear6 (w : World) (ty : TypeId) (b o n c : Nat) (hn : 0 < n) (hc : ∀ j, j < n * 6 → (w.cell? ⟨b, o + j, none⟩).isSome = true) (hf : ∀ j, j < n * 6 → w.frozen? ⟨b, o + j, none⟩ = false) :
    (Builtin.clear_ #[23] ty #[.slice (some ⟨b, o, none⟩) n c]).run Tryz.prog w = .ok (.tuple #[]) (w.setCells b o (noW6 n)) := by
  obtain ⟨i, i1, i0⟩ := Option.map_eq_some_iff.1 wr_info
  have i2 : i.zero = some (.agg #[.string ⟨#[]⟩, .slice none 0 0, .string ⟨#[]⟩, .int .i64 0, .int .u8 0, .int .i64 0]) := congrArg (·.1) i0
  have hv : ∀ w, (zeroValue 76).run Tryz.prog w = .ok (.agg #[.string ⟨#[]⟩, .slice none 0 0, .string ⟨#[]⟩, .int .i64 0, .int .u8 0, .int .i64 0]) w := fun w => by simp [zeroValue, typeInfo, i1, i2]
  have hzc : (Builtin.zeroCells (Value.agg #[.string ⟨#[]⟩, .slice none 0 0, .string ⟨#[]⟩, .int .i64 0, .int .u8 0, .int .i64 0]).cells n).toList = noW6 n := rfl
  have hst := run_storeCells_cells (P := Tryz.prog) b o (noW6 n) 0 w (by rw [noW6_len]; exact hc) (by rw [noW6_len]; exact hf) (noW6_one n)
  simp only [Nat.add_zero] at hst
  obtain ⟨m, rfl⟩ : ∃ m, n = m + 1 := ⟨n - 1, by omega⟩
  simp [Builtin.clear_, run_underlying Tryz.underlying23, hv, hzc, hst]
theorem T6.some {w : World} {b n : Nat} {F : Nat → WrA} (h : T6 w b n F) {j : Nat} (hj : j < n * 6) : (w.cell? ⟨b, j, none⟩).isSome = true ∧ w.frozen? ⟨b, j, none⟩ = false := by
  obtain ⟨⟨c1, c2, c3, c4, c5, c6⟩, f1, f2, f3, f4, f5, f6⟩ := h.2 (j / 6) (by omega)
  have : j % 6 = 0 ∨ j % 6 = 1 ∨ j % 6 = 2 ∨ j % 6 = 3 ∨ j % 6 = 4 ∨ j % 6 = 5 := by omega
  rcases this with q | q | q | q | q | q
  · rw [show j = j / 6 * 6 by omega]; exact ⟨by rw [c1]; rfl, f1⟩
  · rw [show j = j / 6 * 6 + 1 by omega]; exact ⟨by rw [c2]; rfl, f2⟩
  · rw [show j = j / 6 * 6 + 2 by omega]; exact ⟨by rw [c3]; rfl, f3⟩
  · rw [show j = j / 6 * 6 + 3 by omega]; exact ⟨by rw [c4]; rfl, f4⟩
  · rw [show j = j / 6 * 6 + 4 by omega]; exact ⟨by rw [c5]; rfl, f5⟩
  · rw [show j = j / 6 * 6 + 5 by omega]; exact ⟨by rw [c6]; rfl, f6⟩
theorem T6.cleared {w : World} {b n k : Nat} {F : Nat → WrA} (h : T6 w b n F) (hk : k ≤ n) (vs : List Value) : T6 (w.setCells b (k * 6) vs) b k F := by
  refine ⟨Nat.lt_of_lt_of_le h.1 (OB.sets vs _ w).size, fun i hi => ?_⟩
  obtain ⟨⟨c1, c2, c3, c4, c5, c6⟩, f1, f2, f3, f4, f5, f6⟩ := h.2 i (by omega)
  have cc : ∀ q, q < k * 6 → (w.setCells b (k * 6) vs).cell? ⟨b, q, none⟩ = w.cell? ⟨b, q, none⟩ := fun q hq => World.cell?_setCells_out _ _ _ _ _ (fun _ _ => Or.inl (by show q < _; omega))
  refine ⟨⟨?_, ?_, ?_, ?_, ?_, ?_⟩, ?_, ?_, ?_, ?_, ?_, ?_⟩
  · rw [cc _ (by omega)]; exact c1
  · rw [cc _ (by omega)]; exact c2
  · rw [cc _ (by omega)]; exact c3
  · rw [cc _ (by omega)]; exact c4
  · rw [cc _ (by omega)]; exact c5
  · rw [cc _ (by omega)]; exact c6
  · rw [World.frozen?_setCells]; exact f1
  · rw [World.frozen?_setCells]; exact f2
  · rw [World.frozen?_setCells]; exact f3
  · rw [World.frozen?_setCells]; exact f4
  · rw [World.frozen?_setCells]; exact f5
  · rw [World.frozen?_setCells]; exact f6
/-- is it no number? -/
theorem isNot_any (x : WrP) (a : Option Addr) (c : Nat) (w : World) : Calls Tryz.prog 25 #[wV x a c] w fun e w' => e = .returned (.bool (! isI (x, a, c))) ∧ Below w.heap.size w w' := by
  obtain ⟨bv, hbv⟩ : ∃ bv, decide (x.kd = 0) = bv := ⟨_, rfl⟩
  have hbH : Hid (decide (x.kd = 0) = bv) := hbv
  have hI : isI (x, a, c) = bv := hbv
  rw [hI]
  unfold wV
  generalize x.s.t.length = n
  cases bv with
  | true =>
    have e : x.kd = 0 := of_decide_eq_true hbv
    rw [e]
    clear hbv hbH hI e
    go_enter Tryz.func25, Tryz.ntmps25
    go_wp2_with fail
    go_ret
    exact ⟨rfl, (Below.refl _ _).alloc (Nat.le_refl _) _⟩
  | false =>
    have e : ¬ x.kd = 0 := of_decide_eq_false hbv
    have e2 : ((x.kd : Int) == 0) = false := by simp; omega
    clear hbv hbH hI e
    generalize (x.kd : Int) = k at e2
    go_enter Tryz.func25, Tryz.ntmps25
    go_wp2_with fail
    go_ret
    exact ⟨by show Ending.returned (.bool (k != 0)) = _; rw [bne, e2], (Below.refl _ _).alloc (Nat.le_refl _) _⟩
/-- the first that is no number, or -1. -/
def FstR (n : Nat) (F : Nat → WrA) (r : Int) : Prop := (r = -1 ∧ ∀ k, k < n → isI (F k) = true) ∨ ∃ k : Nat, k < n ∧ r = (k : Int) ∧ isI (F k) = false ∧ ∀ j, j < k → isI (F j) = true
set_option maxRecDepth 100000 in
set_option maxHeartbeats 4000000 in
theorem indexW_any (b n cap : Nat) (F : Nat → WrA) (w : World) (h : T6 w b n F) (hn : n ≤ 4611686018427387904) (hcap : n ≤ cap) :
    Calls Tryz.prog 73 #[.slice (some ⟨b, 0, none⟩) n cap, .func (.func 25) #[] #[]] w fun e w' => ∃ r : Int, e = .returned (.int .i64 r) ∧ FstR n F r ∧ Below w.heap.size w w' := by
  have H0 : Hid (T6 w b n F) := h
  clear h
  go_enter Tryz.func73, Tryz.ntmps73
  go_wp2_with fail
  go_loopw [8] (fun vk wr => ∃ k : Nat, vk = .int .i64 (k : Int) ∧ k ≤ n ∧ Hid (∀ j, j < k → isI (F j) = true) ∧ Hid (Below w.heap.size w wr)) (fun vk _ => n - (intOf vk).toNat)
  case atStart => exact ⟨0, rfl, Nat.zero_le _, fun j hj => by omega, Below.refl _ _⟩
  case round =>
    obtain ⟨k, rfl, kn, hall, hB⟩ := hrel
    by_cases hk : k < n
    · have hkI : (k : Int) < (n : Int) := by omega
      have k0 : (0 : Int) ≤ (k : Int) := by omega
      have kw : IntKind.i64.wrap ((k : Int) + 1) = ((k + 1 : Nat) : Int) := IntWalk.i64_in _ (by omega)
      have aa := ((H0.out.below hB.out).2 k hk).1
      obtain ⟨bv, hbv⟩ : ∃ bv, isI (F k) = bv := ⟨_, rfl⟩
      have hbH : Hid (isI (F k) = bv) := hbv
      have CH : Hid (∀ W, Calls Tryz.prog 25 #[wV (F k).1 (F k).2.1 (F k).2.2] W fun e w' => e = .returned (.bool (! bv)) ∧ Below W.heap.size W w') := fun W => by
        have := isNot_any (F k).1 (F k).2.1 (F k).2.2 W
        rw [show isI ((F k).1, (F k).2.1, (F k).2.2) = bv from hbv] at this
        exact this
      clear hbv
      unfold WAt at aa
      unfold wV at CH
      generalize F k = x at aa CH
      obtain ⟨xp, xa, xc⟩ := x
      simp only at aa CH
      generalize xp.s.t.length = xn at aa CH
      obtain ⟨a1, a2, a3, a4, a5, a6⟩ := aa
      cases bv with
      | false =>
        go_wp2_with fail
        refine Calls.mono (CH.out _) ?_
        rintro e w' ⟨rfl, BB⟩
        have fin : Hid (Below w.heap.size w w') := hB.out.trans (BB.mono hB.out.size)
        clear BB hB CH a1 a2 a3 a4 a5 a6
        go_wp2_with fail
        go_ret
        exact ⟨(k : Int), rfl, Or.inr ⟨k, hk, rfl, hbH.out, hall.out⟩, fin.out⟩
      | true =>
        go_wp2_with fail
        refine Calls.mono (CH.out _) ?_
        rintro e w' ⟨rfl, BB⟩
        have fin : Hid (Below w.heap.size w w') := hB.out.trans (BB.mono hB.out.size)
        have nx : Hid (∀ j, j < k + 1 → isI (F j) = true) := fun j hj => by
          by_cases c : j < k
          · exact hall.out j c
          · have : j = k := by omega
            subst this
            exact hbH.out
        clear BB hB CH a1 a2 a3 a4 a5 a6 hall hbH
        go_wp2_with fail
        exact ⟨⟨k + 1, by first | rfl | simp, by omega, nx, fin⟩, by simp [intOf]; omega⟩
    · have hkI : ¬ (k : Int) < (n : Int) := by omega
      obtain rfl : k = n := by omega
      go_wp2_with fail
      go_ret
      exact ⟨-1, rfl, Or.inl ⟨rfl, hall.out⟩, hB.out⟩
set_option maxRecDepth 100000 in
set_option maxHeartbeats 8000000 in
/-- slices.DeleteFunc: what is no number goes. -/
theorem delete_any (b n cap : Nat) (F : Nat → WrA) (w : World) (h : T6 w b n F) (hn : n ≤ 1152921504606846976) (hcap : n ≤ cap) :
    Calls Tryz.prog 24 #[.slice (some ⟨b, 0, none⟩) n cap, .func (.func 25) #[] #[]] w fun e w' => ∃ (m : Nat) (H : Nat → WrA), e = .returned (.slice (some ⟨b, 0, none⟩) m cap) ∧ m ≤ n ∧ T6 w' b m H ∧ (List.range m).map H = lft F n ∧ OB b w w' := by
  have H0 : Hid (T6 w b n F) := h
  have CI : Hid _ := indexW_any b n cap F w h (by omega) hcap
  clear h
  go_enter Tryz.func24, Tryz.ntmps24
  go_wp2_with fail
  refine Calls.mono CI.out ?_
  rintro e w1 ⟨r, rfl, hr, B1⟩
  clear CI
  have T1 : Hid (T6 w1 b n F) := H0.out.below B1
  have O1 : Hid (OB b w w1) := OB.below B1
  clear H0 B1
  rcases hr with ⟨rfl, hall⟩ | ⟨k, hk, rfl, hnot, hall⟩
  · have fin : Hid ((List.range n).map F = lft F n) := (lft_plain F n hall).symm
    clear hall
    go_wp2_with fail
    go_ret
    exact ⟨n, F, rfl, Nat.le_refl _, T1.out, fin.out, O1.out⟩
  · have kq : ((k : Int) == -1) = false := by simp
    have kw : IntKind.i64.wrap ((k : Int) + 1) = ((k + 1 : Nat) : Int) := IntWalk.i64_in _ (by omega)
    have cs0 : Hid (D6 F F (k + 1) k) := ⟨by rw [lft_skip F hnot, lft_plain F k hall], fun i _ => rfl⟩
    clear hall hnot
    go_wp2_with fail
    go_loopw [5, 6] (fun vk vq wr => ∃ (m q : Nat) (H : Nat → WrA), vk = .int .i64 (m : Int) ∧ vq = .int .i64 (q : Int) ∧ q ≤ n ∧ m + 1 ≤ q ∧ Hid (D6 F H q m) ∧ Hid (T6 wr b n H) ∧ Hid (OB b w wr)) (fun _ vq _ => n - (intOf vq).toNat)
    case atStart => exact ⟨k, k + 1, F, rfl, by first | rfl | simp, by omega, by omega, cs0, T1, O1⟩
    case round =>
      clear T1 O1 cs0 kw kq
      obtain ⟨m, q, H, rfl, rfl, q2, m2, hcs, hT, hO⟩ := hrel
      by_cases hq : q < n
      · have hqI : (q : Int) < (n : Int) := by omega
        have q0 : (0 : Int) ≤ (q : Int) := by omega
        have qw : IntKind.i64.wrap ((q : Int) + 1) = ((q + 1 : Nat) : Int) := IntWalk.i64_in _ (by omega)
        have aa := (hT.out.2 q hq).1
        rw [hcs.out.rest q (Nat.le_refl _)] at aa
        obtain ⟨bv, hbv⟩ : ∃ bv, isI (F q) = bv := ⟨_, rfl⟩
        have CH : Hid (∀ W, Calls Tryz.prog 25 #[wV (F q).1 (F q).2.1 (F q).2.2] W fun e w' => e = .returned (.bool (! bv)) ∧ Below W.heap.size W w') := fun W => by
          have := isNot_any (F q).1 (F q).2.1 (F q).2.2 W
          rw [show isI ((F q).1, (F q).2.1, (F q).2.2) = bv from hbv] at this
          exact this
        have bl : b < wr.heap.size := hT.out.1
        have bn : ¬ wr.heap.size = b := by omega
        have bn2 : ¬ b = wr.heap.size := by omega
        cases bv with
        | false =>
          have nx : Hid (D6 F H (q + 1) m) := hcs.out.skip hbv
          clear hbv hcs
          unfold WAt at aa
          unfold wV at CH
          generalize F q = x at aa CH
          obtain ⟨xp, xa, xc⟩ := x
          simp only at aa CH
          generalize xp.s.t.length = xn at aa CH
          obtain ⟨a1, a2, a3, a4, a5, a6⟩ := aa
          have BW : Hid (Below wr.heap.size wr (wr.alloc (.cells #[.string xp.s.m, .slice xa xn xc, .string xp.s.f, .int .i64 xp.tm, .int .u8 (xp.kd : Int), .int .i64 xp.n] 76))) := (Below.refl _ wr).alloc (Nat.le_refl _) _
          go_wp2_with fail
          generalize hw1 : wr.alloc (.cells #[.string xp.s.m, .slice xa xn xc, .string xp.s.f, .int .i64 xp.tm, .int .u8 (xp.kd : Int), .int .i64 xp.n] 76) = W1 at BW ⊢
          clear hw1
          refine Calls.mono (CH.out _) ?_
          rintro e w' ⟨rfl, BB⟩
          have B2 : Below wr.heap.size wr w' := BW.out.trans (BB.mono BW.out.size)
          have T2 : Hid (T6 w' b n H) := hT.out.below B2
          have O2 : Hid (OB b w w') := hO.out.trans (OB.below B2)
          clear B2 BB BW CH hT hO a1 a2 a3 a4 a5 a6
          go_wp2_with fail
          exact ⟨⟨m, q + 1, H, rfl, by first | rfl | simp, by omega, by omega, nx, T2, O2⟩, by simp [intOf]; omega⟩
        | true =>
          have nx : Hid (D6 F (upd6 H m (F q)) (q + 1) (m + 1)) := hcs.out.new (by omega) hbv
          clear hbv hcs
          unfold WAt at aa
          unfold wV at CH
          generalize F q = x at aa CH nx
          obtain ⟨xp, xa, xc⟩ := x
          simp only at aa CH
          have nxH : Hid (∀ W : World, T6 W b n H → T6 (put6 W b (m * 6) (xp, xa, xc)) b n (upd6 H m (xp, xa, xc))) := fun W hW => hW.set (by omega) _
          unfold put6 at nxH
          simp only at nxH
          have obH : Hid (∀ W : World, OB b W (put6 W b (m * 6) (xp, xa, xc))) := fun W => OB.put6 _ _ _ _
          unfold put6 at obH
          simp only at obH
          generalize upd6 H m (xp, xa, xc) = H2 at nx nxH
          generalize xp.s.t.length = xn at aa CH nxH obH
          obtain ⟨a1, a2, a3, a4, a5, a6⟩ := aa
          obtain ⟨W1, hw1⟩ : ∃ W1, W1 = wr.alloc (.cells #[.string xp.s.m, .slice xa xn xc, .string xp.s.f, .int .i64 xp.tm, .int .u8 (xp.kd : Int), .int .i64 xp.n] 76) := ⟨_, rfl⟩
          obtain ⟨K, hK⟩ : ∃ K, K = wr.heap.size := ⟨_, rfl⟩
          have BW : Hid (Below K wr W1) := by rw [hw1, hK]; exact (Below.refl _ wr).alloc (Nat.le_refl _) _
          have KW : Hid (K < W1.heap.size) := by show K < W1.heap.size; rw [hw1, hK]; simp
          have v1 : W1.cell? ⟨K, 0, none⟩ = some (.string xp.s.m) := by rw [hw1, hK]; simp [go_sem]
          have v2 : W1.cell? ⟨K, 1, none⟩ = some (.slice xa xn xc) := by rw [hw1, hK]; simp [go_sem]
          have v3 : W1.cell? ⟨K, 2, none⟩ = some (.string xp.s.f) := by rw [hw1, hK]; simp [go_sem]
          have v4 : W1.cell? ⟨K, 3, none⟩ = some (.int .i64 xp.tm) := by rw [hw1, hK]; simp [go_sem]
          have v5 : W1.cell? ⟨K, 4, none⟩ = some (.int .u8 (xp.kd : Int)) := by rw [hw1, hK]; simp [go_sem]
          have v6 : W1.cell? ⟨K, 5, none⟩ = some (.int .i64 xp.n) := by rw [hw1, hK]; simp [go_sem]
          have hKH : Hid (K = wr.heap.size) := hK
          have m0 : (0 : Int) ≤ (m : Int) := by omega
          have mI : (m : Int) < (n : Int) := by omega
          have mw : IntKind.i64.wrap ((m : Int) + 1) = ((m + 1 : Nat) : Int) := IntWalk.i64_in _ (by omega)
          go_wp2_with fail
          rw [← hw1, ← hK]
          clear hw1 hK a1 a2 a3 a4 a5 a6
          refine Calls.mono (CH.out _) ?_
          rintro e w' ⟨rfl, BB⟩
          have u1 : w'.cell? ⟨K, 0, none⟩ = some (.string xp.s.m) := by rw [BB.cell (p := ⟨K, 0, none⟩) KW.out]; exact v1
          have u2 : w'.cell? ⟨K, 1, none⟩ = some (.slice xa xn xc) := by rw [BB.cell (p := ⟨K, 1, none⟩) KW.out]; exact v2
          have u3 : w'.cell? ⟨K, 2, none⟩ = some (.string xp.s.f) := by rw [BB.cell (p := ⟨K, 2, none⟩) KW.out]; exact v3
          have u4 : w'.cell? ⟨K, 3, none⟩ = some (.int .i64 xp.tm) := by rw [BB.cell (p := ⟨K, 3, none⟩) KW.out]; exact v4
          have u5 : w'.cell? ⟨K, 4, none⟩ = some (.int .u8 (xp.kd : Int)) := by rw [BB.cell (p := ⟨K, 4, none⟩) KW.out]; exact v5
          have u6 : w'.cell? ⟨K, 5, none⟩ = some (.int .i64 xp.n) := by rw [BB.cell (p := ⟨K, 5, none⟩) KW.out]; exact v6
          have B2 : Below wr.heap.size wr w' := by
            have := BW.out.trans (BB.mono (Nat.le_of_lt KW.out))
            rw [hKH.out] at this; exact this
          have T2 : T6 w' b n H := hT.out.below B2
          have O2 : Hid (OB b w w') := hO.out.trans (OB.below B2)
          obtain ⟨⟨c1, c2, c3, c4, c5, c6⟩, f1, f2, f3, f4, f5, f6⟩ := T2.2 m (by omega)
          have T3 : Hid _ := nxH.out w' T2
          have O3 : Hid _ := O2.out.trans (obH.out w')
          clear B2 BB BW CH hT hO T2 O2 v1 v2 v3 v4 v5 v6 nxH obH hKH KW
          go_wp2_with fail
          exact ⟨⟨m + 1, q + 1, H2, by first | rfl | simp, by first | rfl | simp, by omega, by omega, nx, T3, O3⟩, by simp [intOf]; omega⟩
      · have hqI : ¬ (q : Int) < (n : Int) := by omega
        have mn : m < n := by omega
        have fin : Hid ((List.range m).map H = lft F n) := by
          have := hcs.out.is
          rw [show q = n by omega] at this
          exact this
        have m0 : (0 : Int) ≤ (m : Int) := by omega
        have mc : (m : Int) ≤ (cap : Int) := by omega
        have mI : (m : Int) ≤ (n : Int) := by omega
        have mne : ¬ cap = m := by omega
        have mne2 : ¬ m = cap := by omega
        have hcl : ∀ ty, (Builtin.clear_ #[23] ty #[.slice (some ⟨b, m * 6, none⟩) (n - m) (cap - m)]).run Tryz.prog wr = .ok (.tuple #[]) (wr.setCells b (m * 6) (noW6 (n - m))) := fun ty => run_clear6 wr ty b (m * 6) (n - m) (cap - m) (by omega)
          (fun j hj => (hT.out.some (j := m * 6 + j) (by omega)).1) (fun j hj => (hT.out.some (j := m * 6 + j) (by omega)).2)
        have hT2 : Hid (T6 (wr.setCells b (m * 6) (noW6 (n - m))) b m H) := hT.out.cleared (by omega) _
        have hO2 : Hid (OB b w (wr.setCells b (m * 6) (noW6 (n - m)))) := hO.out.trans (OB.sets _ _ _)
        clear hT hO hcs
        go_wp2_with fail
        go_ret
        first | exact ⟨m, rfl, by omega, H, hT2.out, fin.out, hO2.out⟩ | exact ⟨m, H, rfl, by omega, hT2.out, fin.out, hO2.out⟩
end Go.Proofs.YtpbcbpiolhjlhaaGreatDoor.So.Wr


namespace Go.Proofs.YtpbcbpiolhjlhaaGreatDoor
set_option linter.unusedVariables false
set_option linter.unusedSimpArgs false
/-- a row in strict order is told by its members. -/
theorem strict_eq {α : Type} {R : α → α → Prop} (asy : ∀ a b, R a b → ¬ R b a) : ∀ {x y : List α}, x.Pairwise R → y.Pairwise R → (∀ z, z ∈ x ↔ z ∈ y) → x = y
  | [], [], _, _, _ => rfl
  | [], b :: y, _, _, h => by have := (h b).2 (List.mem_cons_self ..); cases this
  | a :: x, [], _, _, h => by have := (h a).1 (List.mem_cons_self ..); cases this
  | a :: x, b :: y, hx, hy, h => by
    have hx' := List.pairwise_cons.1 hx
    have hy' := List.pairwise_cons.1 hy
    have e : a = b := by
      rcases List.mem_cons.1 ((h a).1 (List.mem_cons_self ..)) with e | e
      · exact e
      · rcases List.mem_cons.1 ((h b).2 (List.mem_cons_self ..)) with e2 | e2
        · exact e2.symm
        · exact absurd (hy'.1 a e) (asy _ _ (hx'.1 b e2))
    subst e
    have irr : ¬ R a a := fun q => asy a a q q
    rw [strict_eq asy hx'.2 hy'.2 fun z => ?_]
    constructor
    · intro hz
      rcases List.mem_cons.1 ((h z).1 (List.mem_cons_of_mem _ hz)) with e | e
      · subst e; exact absurd (hx'.1 z hz) irr
      · exact e
    · intro hz
      rcases List.mem_cons.1 ((h z).2 (List.mem_cons_of_mem _ hz)) with e | e
      · subst e; exact absurd (hy'.1 z hz) irr
      · exact e
/-- points, by their keys: each a row of fields. -/
abbrev Gr (K F : Type) := List (K × List (F × Int))
def InG {K F : Type} (R : Gr K F) (k : K) (x : F × Int) : Prop := ∃ fs, (k, fs) ∈ R ∧ x ∈ fs
/-- points in order, each one's fields in order, and no others than E's. -/
structure GrOk {K F : Type} (c : K → K → Int) (d : F → F → Int) (R : Gr K F) (E : List (K × F × Int)) : Prop where
  ks : R.Pairwise fun a b => c a.1 b.1 < 0
  ne : ∀ g ∈ R, g.2 ≠ []
  fs : ∀ g ∈ R, g.2.Pairwise fun a b => d a.1 b.1 < 0
  mem : ∀ k x, (k, x) ∈ E ↔ InG R k x
theorem IsCmp.self {α : Type} {c : α → α → Int} (h : IsCmp c) (a : α) : c a a = 0 := (h.zero a a).2 rfl
theorem IsCmp.asy {α : Type} {c : α → α → Int} (h : IsCmp c) {a b : α} (q : c a b < 0) : ¬ c b a < 0 := by have := h.flip a b; omega
theorem key_one {K : Type} {β : Type} {c : K → K → Int} (hc : IsCmp c) : ∀ {R : List (K × β)}, R.Pairwise (fun a b => c a.1 b.1 < 0) → ∀ {k : K} {a b : β}, (k, a) ∈ R → (k, b) ∈ R → a = b
  | [], _, k, a, b, h, _ => by cases h
  | g :: R, hp, k, a, b, ha, hb => by
    have hp' := List.pairwise_cons.1 hp
    rcases List.mem_cons.1 ha with ea | ea
    · rcases List.mem_cons.1 hb with eb | eb
      · rw [← eb] at ea; injection ea
      · have := hp'.1 _ eb
        rw [← ea] at this
        have h0 := hc.self k
        simp only at this
        omega
    · rcases List.mem_cons.1 hb with eb | eb
      · have := hp'.1 _ ea
        rw [← eb] at this
        have h0 := hc.self k
        simp only at this
        omega
      · exact key_one hc hp'.2 ea eb
theorem GrOk.uniq {K F : Type} {c : K → K → Int} {d : F → F → Int} (hc : IsCmp c) (hd : IsCmp d) {R R' : Gr K F} {E E' : List (K × F × Int)} (h : GrOk c d R E) (h' : GrOk c d R' E') (hE : ∀ e, e ∈ E ↔ e ∈ E') : R = R' := by
  have half : ∀ {R R' : Gr K F} {E E' : List (K × F × Int)}, GrOk c d R E → GrOk c d R' E' → (∀ e, e ∈ E ↔ e ∈ E') → ∀ g, g ∈ R → g ∈ R' := by
    intro R R' E E' h h' hE g hg
    obtain ⟨k, fs⟩ := g
    obtain ⟨x, hx⟩ : ∃ x, x ∈ fs := by
      have := h.ne _ hg
      cases fs with
      | nil => exact absurd rfl this
      | cons x _ => exact ⟨x, List.mem_cons_self ..⟩
    obtain ⟨fs', h1, _⟩ := (h'.mem k x).1 ((hE _).1 ((h.mem k x).2 ⟨fs, hg, hx⟩))
    have e : fs = fs' := by
      refine strict_eq (R := fun a b => d a.1 b.1 < 0) (fun a b q => hd.asy q) (h.fs _ hg) (h'.fs _ h1) fun z => ?_
      constructor
      · intro hz
        obtain ⟨f2, h2, h3⟩ := (h'.mem k z).1 ((hE _).1 ((h.mem k z).2 ⟨fs, hg, hz⟩))
        rw [key_one hc h'.ks h1 h2]; exact h3
      · intro hz
        obtain ⟨f2, h2, h3⟩ := (h.mem k z).1 ((hE _).2 ((h'.mem k z).2 ⟨fs', h1, hz⟩))
        rw [key_one hc h.ks hg h2]; exact h3
    rw [e]; exact h1
  exact strict_eq (R := fun a b => c a.1 b.1 < 0) (fun a b q => hc.asy q) h.ks h'.ks fun g => ⟨half h h' hE g, half h' h (fun e => (hE e).symm) g⟩
/-- one more sample, at its place. -/
def stepR {K F : Type} (c : K → K → Int) (e : K × F × Int) : Gr K F → Gr K F
  | [] => [(e.1, [e.2])]
  | g :: R => if c g.1 e.1 < 0 then g :: stepR c e R else if c g.1 e.1 = 0 then (g.1, g.2 ++ [e.2]) :: R else (e.1, [e.2]) :: g :: R
theorem stepR_is {K F : Type} {c : K → K → Int} (hc : IsCmp c) (e : K × F × Int) : ∀ (R : Gr K F), R.Pairwise (fun a b => c a.1 b.1 < 0) → ∀ g, g ∈ stepR c e R → (g ∈ R ∧ g.1 ≠ e.1) ∨ (g = (e.1, [e.2]) ∧ ∀ fs, (e.1, fs) ∉ R) ∨ ∃ fs, (e.1, fs) ∈ R ∧ g = (e.1, fs ++ [e.2])
  | [], _, g, h => by
    right; left
    unfold stepR at h
    exact ⟨List.mem_singleton.1 h, fun fs q => by cases q⟩
  | g0 :: R, hp, g, h => by
    have hp' := List.pairwise_cons.1 hp
    unfold stepR at h
    split at h
    · rename_i q
      have n0 : g0.1 ≠ e.1 := fun w => by have := hc.self e.1; rw [w] at q; omega
      rcases List.mem_cons.1 h with w | w
      · left; rw [w]; exact ⟨List.mem_cons_self .., n0⟩
      · rcases stepR_is hc e R hp'.2 g w with ⟨h1, h2⟩ | ⟨h1, h2⟩ | ⟨fs, h1, h2⟩
        · exact Or.inl ⟨List.mem_cons_of_mem _ h1, h2⟩
        · refine Or.inr (Or.inl ⟨h1, fun fs q2 => ?_⟩)
          rcases List.mem_cons.1 q2 with q3 | q3
          · exact n0 (by rw [← q3])
          · exact h2 fs q3
        · exact Or.inr (Or.inr ⟨fs, List.mem_cons_of_mem _ h1, h2⟩)
    · rename_i q
      split at h
      · rename_i q2
        have e0 : g0.1 = e.1 := (hc.zero _ _).1 q2
        rcases List.mem_cons.1 h with w | w
        · right; right
          exact ⟨g0.2, by rw [← e0]; exact List.mem_cons_self .., by rw [w, e0]⟩
        · left
          refine ⟨List.mem_cons_of_mem _ w, fun w2 => ?_⟩
          have := hp'.1 g w
          rw [w2, e0, hc.self] at this
          omega
      · rename_i q2
        have gt : ∀ g' ∈ R, g'.1 ≠ e.1 := fun g' hg' w => by
          have := hp'.1 g' hg'
          rw [w] at this
          omega
        have n0 : g0.1 ≠ e.1 := fun w => q2 (by rw [w]; exact hc.self _)
        rcases List.mem_cons.1 h with w | w
        · right; left
          refine ⟨w, fun fs q3 => ?_⟩
          rcases List.mem_cons.1 q3 with q4 | q4
          · exact n0 (by rw [← q4])
          · exact gt _ q4 rfl
        · left
          rcases List.mem_cons.1 w with w2 | w2
          · rw [w2]; exact ⟨List.mem_cons_self .., n0⟩
          · exact ⟨List.mem_cons_of_mem _ w2, gt g w2⟩
theorem stepR_has {K F : Type} {c : K → K → Int} (hc : IsCmp c) (e : K × F × Int) : ∀ (R : Gr K F) (k : K) (x : F × Int), InG (stepR c e R) k x ↔ InG R k x ∨ (k, x) = e
  | [], k, x => by
    unfold stepR InG
    constructor
    · rintro ⟨fs, h1, h2⟩
      right
      have := List.mem_singleton.1 h1
      injection this with e1 e2
      rw [e2] at h2
      rw [e1, List.mem_singleton.1 h2]
    · rintro (⟨fs, h1, _⟩ | h)
      · cases h1
      · rw [← h]; exact ⟨[x], List.mem_singleton.2 rfl, List.mem_singleton.2 rfl⟩
  | g0 :: R, k, x => by
    have cons : ∀ (g : K × List (F × Int)) (R : Gr K F), InG (g :: R) k x ↔ (g.1 = k ∧ x ∈ g.2) ∨ InG R k x := fun g R => by
      unfold InG
      constructor
      · rintro ⟨fs, h1, h2⟩
        rcases List.mem_cons.1 h1 with w | w
        · left; rw [← w]; exact ⟨rfl, h2⟩
        · exact Or.inr ⟨fs, w, h2⟩
      · rintro (⟨h1, h2⟩ | ⟨fs, h1, h2⟩)
        · exact ⟨g.2, by rw [← h1]; exact List.mem_cons_self .., h2⟩
        · exact ⟨fs, List.mem_cons_of_mem _ h1, h2⟩
    unfold stepR
    split
    · rw [cons, cons, stepR_has hc e R k x, or_assoc]
    · split
      · rename_i _ q
        have e0 : g0.1 = e.1 := (hc.zero _ _).1 q
        rw [cons, cons]
        simp only [List.mem_append, List.mem_singleton]
        constructor
        · rintro (⟨h1, h2 | h2⟩ | h)
          · exact Or.inl (Or.inl ⟨h1, h2⟩)
          · right; rw [← h1, h2, e0]
          · exact Or.inl (Or.inr h)
        · rintro ((⟨h1, h2⟩ | h) | h)
          · exact Or.inl ⟨h1, Or.inl h2⟩
          · exact Or.inr h
          · left; rw [← h] at e0 ⊢; exact ⟨e0, Or.inr rfl⟩
      · rw [cons]
        constructor
        · rintro (⟨h1, h2⟩ | h)
          · right; rw [← h1, List.mem_singleton.1 h2]
          · exact Or.inl h
        · rintro (h | h)
          · exact Or.inr h
          · left; rw [← h]; exact ⟨rfl, List.mem_singleton.2 rfl⟩
theorem stepR_keys {K F : Type} {c : K → K → Int} (hc : IsCmp c) (e : K × F × Int) : ∀ (R : Gr K F) (g : K × List (F × Int)), g ∈ stepR c e R → g.1 = e.1 ∨ ∃ g0 ∈ R, g0.1 = g.1
  | [], g, h => by unfold stepR at h; rw [List.mem_singleton.1 h]; exact Or.inl rfl
  | g0 :: R, g, h => by
    unfold stepR at h
    split at h
    · rcases List.mem_cons.1 h with w | w
      · right; exact ⟨g0, List.mem_cons_self .., by rw [w]⟩
      · rcases stepR_keys hc e R g w with h1 | ⟨g1, h1, h2⟩
        · exact Or.inl h1
        · exact Or.inr ⟨g1, List.mem_cons_of_mem _ h1, h2⟩
    · split at h
      · rcases List.mem_cons.1 h with w | w
        · right; exact ⟨g0, List.mem_cons_self .., by rw [w]⟩
        · right; exact ⟨g, List.mem_cons_of_mem _ w, rfl⟩
      · rcases List.mem_cons.1 h with w | w
        · left; rw [w]
        · right; exact ⟨g, w, rfl⟩
theorem stepR_ks {K F : Type} {c : K → K → Int} (hc : IsCmp c) (e : K × F × Int) : ∀ (R : Gr K F), R.Pairwise (fun a b => c a.1 b.1 < 0) → (stepR c e R).Pairwise fun a b => c a.1 b.1 < 0
  | [], _ => List.pairwise_singleton _ _
  | g0 :: R, hp => by
    have hp' := List.pairwise_cons.1 hp
    unfold stepR
    split
    · rename_i q
      refine List.pairwise_cons.2 ⟨fun g hg => ?_, stepR_ks hc e R hp'.2⟩
      rcases stepR_keys hc e R g hg with w | ⟨g1, h1, h2⟩
      · rw [w]; exact q
      · rw [← h2]; exact hp'.1 g1 h1
    · split
      · exact List.pairwise_cons.2 ⟨fun g hg => hp'.1 g hg, hp'.2⟩
      · rename_i q q2
        have lt : c e.1 g0.1 < 0 := by have := hc.flip g0.1 e.1; omega
        refine List.pairwise_cons.2 ⟨fun g hg => ?_, hp⟩
        rcases List.mem_cons.1 hg with w | w
        · rw [w]; exact lt
        · exact hc.lt lt (by have := hp'.1 g w; omega)
/-- one more sample, whose field is behind those of its point. -/
theorem GrOk.step {K F : Type} {c : K → K → Int} {d : F → F → Int} (hc : IsCmp c) {R : Gr K F} {P : List (K × F × Int)} (h : GrOk c d R P) (e : K × F × Int) (hf : ∀ x ∈ P, x.1 = e.1 → d x.2.1 e.2.1 < 0) : GrOk c d (stepR c e R) (P ++ [e]) where
  ks := stepR_ks hc e R h.ks
  ne := fun g hg => by
    rcases stepR_is hc e R h.ks g hg with ⟨h1, _⟩ | ⟨h1, _⟩ | ⟨fs, _, h2⟩
    · exact h.ne g h1
    · rw [h1]; simp
    · rw [h2]; simp
  fs := fun g hg => by
    rcases stepR_is hc e R h.ks g hg with ⟨h1, _⟩ | ⟨h1, _⟩ | ⟨fs, h1, h2⟩
    · exact h.fs g h1
    · rw [h1]; exact List.pairwise_singleton _ _
    · rw [h2]
      refine List.pairwise_append.2 ⟨h.fs _ h1, List.pairwise_singleton _ _, fun a ha b hb => ?_⟩
      rw [List.mem_singleton.1 hb]
      exact hf (e.1, a) ((h.mem e.1 a).2 ⟨fs, h1, ha⟩) rfl
  mem := fun k x => by
    rw [stepR_has hc, List.mem_append, h.mem, List.mem_singleton]
theorem GrOk.none {K F : Type} (c : K → K → Int) (d : F → F → Int) : GrOk c d ([] : Gr K F) [] := ⟨List.Pairwise.nil, (fun g h => by cases h), (fun g h => by cases h), fun k x => ⟨(fun h => by cases h), fun ⟨fs, h, _⟩ => by cases h⟩⟩
/-- all of them. -/
theorem GrOk.all {K F : Type} {c : K → K → Int} {d : F → F → Int} (hc : IsCmp c) : ∀ (E : List (K × F × Int)) (R : Gr K F) (P : List (K × F × Int)), GrOk c d R P → (P ++ E).Pairwise (fun x y => x.1 = y.1 → d x.2.1 y.2.1 < 0) → GrOk c d (E.foldl (fun R e => stepR c e R) R) (P ++ E)
  | [], R, P, h, _ => by rw [List.append_nil]; exact h
  | e :: E, R, P, h, hp => by
    have e1 : P ++ e :: E = (P ++ [e]) ++ E := by simp
    rw [e1] at hp ⊢
    refine GrOk.all hc E _ _ (h.step hc e fun x hx => ?_) hp
    exact (List.pairwise_append.1 (List.pairwise_append.1 hp).1).2.2 x hx e (List.mem_singleton.2 rfl)
/-- a row that is in order: only the last point is looked at. -/
theorem stepR_last {K F : Type} {c : K → K → Int} (e : K × F × Int) : ∀ (R T : Gr K F), (∀ g ∈ R, c g.1 e.1 < 0) → stepR c e (R ++ T) = R ++ stepR c e T
  | [], T, _ => rfl
  | g :: R, T, h => by
    rw [List.cons_append, stepR, if_pos (h g (List.mem_cons_self ..)), stepR_last e R T fun g' h' => h g' (List.mem_cons_of_mem _ h')]
    rfl
/-- two orders of the same samples give the same points. -/
theorem points_same {K F : Type} {c : K → K → Int} {d : F → F → Int} (hc : IsCmp c) (hd : IsCmp d) (E S : List (K × F × Int)) (hE : E.Pairwise fun x y => x.1 = y.1 → d x.2.1 y.2.1 < 0) (hS : S.Pairwise fun x y => x.1 = y.1 → d x.2.1 y.2.1 < 0) (hm : ∀ e, e ∈ E ↔ e ∈ S) : E.foldl (fun R e => stepR c e R) [] = S.foldl (fun R e => stepR c e R) [] := by
  have h1 := GrOk.all hc E [] [] (GrOk.none c d) (by simpa using hE)
  have h2 := GrOk.all hc S [] [] (GrOk.none c d) (by simpa using hS)
  rw [List.nil_append] at h1 h2
  exact GrOk.uniq hc hd h1 h2 hm
end Go.Proofs.YtpbcbpiolhjlhaaGreatDoor


namespace Go.Proofs.YtpbcbpiolhjlhaaGreatDoor
open Go.RowKit _root_.Go.Proofs.YtpbcbpiolhjlhaaGreatDoor.So
set_option linter.unusedVariables false
set_option linter.unusedSimpArgs false
theorem wC_eq {x y : WrP} : wC x y = 0 ↔ wK x = wK y := kC_is.zero _ _
theorem wC_flip (x y : WrP) : wC y x = - wC x y := kC_is.flip _ _
theorem wC_tr {x y z : WrP} (h1 : wC x y ≤ 0) (h2 : wC y z ≤ 0) : wC x z ≤ 0 := kC_is.trans _ _ _ h1 h2
theorem wC_self (x : WrP) : wC x x = 0 := wC_eq.2 rfl
theorem wC_left {x y : WrP} (z : WrP) (h : wC x y = 0) : wC x z = wC y z := by unfold wC; rw [wC_eq.1 h]
theorem wC_right {x y : WrP} (z : WrP) (h : wC x y = 0) : wC z x = wC z y := by unfold wC; rw [wC_eq.1 h]
theorem wC_lt_le {x y z : WrP} (h1 : wC x y < 0) (h2 : wC y z ≤ 0) : wC x z < 0 := by
  have h := wC_tr (Int.le_of_lt h1) h2
  by_cases h0 : wC x z = 0
  · have := wC_right y h0; have := wC_flip x y; have := wC_flip y z; have := wC_flip y x; omega
  · omega
theorem wC_le_lt {x y z : WrP} (h1 : wC x y ≤ 0) (h2 : wC y z < 0) : wC x z < 0 := by
  have h := wC_tr h1 (Int.le_of_lt h2)
  by_cases h0 : wC x z = 0
  · have := wC_right y h0; have := wC_flip x y; have := wC_flip y z; omega
  · omega
/-- in order, each series and time once. -/
def SW (l : List WrP) : Prop := l.Pairwise fun x y => wC x y < 0
/-- the last one of its series and time. -/
def LW : List WrP → WrP → Prop
  | [], _ => False
  | x :: l, e => (e = x ∧ ∀ y ∈ l, wC x y ≠ 0) ∨ LW l e
theorem LW.cons {x : WrP} {l : List WrP} {e : WrP} : LW (x :: l) e ↔ ((e = x ∧ ∀ y ∈ l, wC x y ≠ 0) ∨ LW l e) := Iff.rfl
theorem LW.mem : ∀ {l : List WrP} {e : WrP}, LW l e → e ∈ l
  | x :: l, e, h => by
    rcases h with ⟨rfl, _⟩ | h
    · exact List.mem_cons_self
    · exact List.mem_cons_of_mem _ h.mem
theorem LW.ex : ∀ {l : List WrP} {y : WrP}, y ∈ l → ∃ z, LW l z ∧ wC y z = 0
  | x :: l, y, h => by
    rcases List.mem_cons.1 h with rfl | h
    · by_cases hx : ∃ z ∈ l, wC y z = 0
      · obtain ⟨z, hz, e⟩ := hx
        obtain ⟨u, hu, e2⟩ := LW.ex hz
        exact ⟨u, Or.inr hu, by rw [wC_left u e]; exact e2⟩
      · exact ⟨y, Or.inl ⟨rfl, fun z hz h0 => hx ⟨z, hz, h0⟩⟩, wC_self y⟩
    · obtain ⟨z, hz, e⟩ := LW.ex h
      exact ⟨z, Or.inr hz, e⟩
theorem LW.app : ∀ (a b : List WrP) (e : WrP), LW (a ++ b) e ↔ LW b e ∨ (LW a e ∧ ∀ y ∈ b, wC e y ≠ 0)
  | [], b, e => by simp [LW]
  | x :: a, b, e => by
    rw [List.cons_append, LW.cons, LW.cons, LW.app a b e]
    constructor
    · rintro (⟨rfl, h⟩ | h | ⟨h, h2⟩)
      · exact Or.inr ⟨Or.inl ⟨rfl, fun y hy => h y (List.mem_append_left _ hy)⟩, fun y hy => h y (List.mem_append_right _ hy)⟩
      · exact Or.inl h
      · exact Or.inr ⟨Or.inr h, h2⟩
    · rintro (h | ⟨⟨rfl, h⟩ | h, h2⟩)
      · exact Or.inr (Or.inl h)
      · exact Or.inl ⟨rfl, fun y hy => (List.mem_append.1 hy).elim (h y) (h2 y)⟩
      · exact Or.inr (Or.inr ⟨h, h2⟩)
theorem sw_uniq : ∀ a b : List WrP, SW a → SW b → (∀ e, e ∈ a ↔ e ∈ b) → a = b
  | [], [], _, _, _ => rfl
  | [], y :: b, _, _, h => by have := (h y).2 List.mem_cons_self; simp at this
  | x :: a, [], _, _, h => by have := (h x).1 List.mem_cons_self; simp at this
  | x :: a, y :: b, ha, hb, h => by
    obtain ⟨ha1, ha2⟩ := List.pairwise_cons.1 ha
    obtain ⟨hb1, hb2⟩ := List.pairwise_cons.1 hb
    have e : x = y := by
      rcases List.mem_cons.1 ((h x).1 List.mem_cons_self) with e | e
      · exact e
      · rcases List.mem_cons.1 ((h y).2 List.mem_cons_self) with e2 | e2
        · exact e2.symm
        · have h1 := hb1 x e; have h2 := ha1 y e2; have := wC_flip x y; omega
    subst e
    rw [sw_uniq a b ha2 hb2 fun e => ⟨fun he => by
      rcases List.mem_cons.1 ((h e).1 (List.mem_cons_of_mem _ he)) with rfl | h3
      · have := ha1 e he; have := wC_self e; omega
      · exact h3, fun he => by
      rcases List.mem_cons.1 ((h e).2 (List.mem_cons_of_mem _ he)) with rfl | h3
      · have := hb1 e he; have := wC_self e; omega
      · exact h3⟩]
/-- the document's merged. -/
def mgD : List WrP → List WrP → List WrP
  | [], b => b
  | x :: a, [] => x :: a
  | x :: a, y :: b => if wC x y < 0 then x :: mgD a (y :: b) else if 0 < wC x y then y :: mgD (x :: a) b else mgD a (y :: b)
termination_by a b => a.length + b.length
theorem mgD_ok : ∀ (n : Nat) (a b : List WrP), a.length + b.length ≤ n → SW a → SW b → SW (mgD a b) ∧ ∀ e, e ∈ mgD a b ↔ e ∈ b ∨ (e ∈ a ∧ ∀ y ∈ b, wC e y ≠ 0)
  | n, [], b, _, _, hb => by rw [mgD]; exact ⟨hb, fun e => by simp⟩
  | n, x :: a, [], _, ha, _ => by rw [mgD]; exact ⟨ha, fun e => by simp⟩
  | 0, x :: a, y :: b, hn, _, _ => by simp at hn
  | n + 1, x :: a, y :: b, hn, ha, hb => by
    obtain ⟨ha1, ha2⟩ := List.pairwise_cons.1 ha
    obtain ⟨hb1, hb2⟩ := List.pairwise_cons.1 hb
    simp only [List.length_cons] at hn
    rw [mgD]
    split
    · rename_i hc
      obtain ⟨i1, i2⟩ := mgD_ok n a (y :: b) (by simp only [List.length_cons]; omega) ha2 hb
      have hx : ∀ z ∈ y :: b, wC x z < 0 := fun z hz => by
        rcases List.mem_cons.1 hz with rfl | hz
        · exact hc
        · exact wC_lt_le hc (Int.le_of_lt (hb1 z hz))
      refine ⟨List.pairwise_cons.2 ⟨fun z hz => ?_, i1⟩, fun e => ?_⟩
      · rcases (i2 z).1 hz with h | ⟨h, _⟩
        · exact hx z h
        · exact ha1 z h
      · rw [List.mem_cons, i2 e, List.mem_cons (l := a)]
        constructor
        · rintro (rfl | h | ⟨h, h2⟩)
          · exact Or.inr ⟨Or.inl rfl, fun z hz => by have := hx z hz; omega⟩
          · exact Or.inl h
          · exact Or.inr ⟨Or.inr h, h2⟩
        · rintro (h | ⟨rfl | h, h2⟩)
          · exact Or.inr (Or.inl h)
          · exact Or.inl rfl
          · exact Or.inr (Or.inr ⟨h, h2⟩)
    · rename_i hc
      split
      · rename_i hd
        obtain ⟨i1, i2⟩ := mgD_ok n (x :: a) b (by simp only [List.length_cons]; omega) ha hb2
        have hyx : wC y x < 0 := by have := wC_flip x y; omega
        have hy : ∀ z ∈ x :: a, wC y z < 0 := fun z hz => by
          rcases List.mem_cons.1 hz with rfl | hz
          · exact hyx
          · exact wC_lt_le hyx (Int.le_of_lt (ha1 z hz))
        refine ⟨List.pairwise_cons.2 ⟨fun z hz => ?_, i1⟩, fun e => ?_⟩
        · rcases (i2 z).1 hz with h | ⟨h, _⟩
          · exact hb1 z h
          · exact hy z h
        · rw [List.mem_cons, i2 e, List.mem_cons (l := b)]
          constructor
          · rintro (rfl | h | ⟨h, h2⟩)
            · exact Or.inl (Or.inl rfl)
            · exact Or.inl (Or.inr h)
            · exact Or.inr ⟨h, fun z hz => by
                rcases List.mem_cons.1 hz with rfl | hz
                · have := hy e h; have := wC_flip e z; omega
                · exact h2 z hz⟩
          · rintro ((rfl | h) | ⟨h, h2⟩)
            · exact Or.inl rfl
            · exact Or.inr (Or.inl h)
            · exact Or.inr (Or.inr ⟨h, fun z hz => h2 z (List.mem_cons_of_mem _ hz)⟩)
      · rename_i hd
        have h0 : wC x y = 0 := by omega
        obtain ⟨i1, i2⟩ := mgD_ok n a (y :: b) (by simp only [List.length_cons]; omega) ha2 hb
        refine ⟨i1, fun e => ?_⟩
        rw [i2 e, List.mem_cons (l := a)]
        constructor
        · rintro (h | ⟨h, h2⟩)
          · exact Or.inl h
          · exact Or.inr ⟨Or.inr h, h2⟩
        · rintro (h | ⟨rfl | h, h2⟩)
          · exact Or.inl h
          · exact absurd h0 (h2 y List.mem_cons_self)
          · exact Or.inr ⟨h, h2⟩
/-- the document's Order. -/
def odD (l : List WrP) : List WrP :=
  if h : l.length ≤ 1 then l else mgD (odD (l.take (l.length / 2))) (odD (l.drop (l.length / 2)))
termination_by l.length
decreasing_by
  all_goals simp; omega
theorem odD_ok : ∀ (n : Nat) (l : List WrP), l.length ≤ n → SW (odD l) ∧ ∀ e, e ∈ odD l ↔ LW l e := by
  intro n
  induction n with
  | zero =>
    intro l hl
    have : l = [] := List.length_eq_zero_iff.1 (by omega)
    subst this
    rw [odD]; simp [SW, LW]
  | succ n ih =>
    intro l hl
    rw [odD]
    split
    · rename_i h1
      rcases l with _ | ⟨x, _ | ⟨y, r⟩⟩
      · simp [SW, LW]
      · exact ⟨by simp [SW], fun e => by simp [LW]⟩
      · simp at h1
    · rename_i h1
      obtain ⟨a1, a2⟩ := ih (l.take (l.length / 2)) (by simp; omega)
      obtain ⟨b1, b2⟩ := ih (l.drop (l.length / 2)) (by simp; omega)
      obtain ⟨m1, m2⟩ := mgD_ok _ _ _ (Nat.le_refl _) a1 b1
      refine ⟨m1, fun e => ?_⟩
      have h := LW.app (l.take (l.length / 2)) (l.drop (l.length / 2)) e
      rw [List.take_append_drop] at h
      rw [h, m2 e, a2 e, b2 e]
      constructor
      · rintro (h | ⟨h, h2⟩)
        · exact Or.inl h
        · exact Or.inr ⟨h, fun y hy h0 => by
            obtain ⟨z, hz, e2⟩ := LW.ex hy
            exact h2 z ((b2 z).2 hz) (by rw [wC_left z h0]; exact e2)⟩
      · rintro (h | ⟨h, h2⟩)
        · exact Or.inl h
        · exact Or.inr ⟨h, fun y hy => h2 y ((b2 y).1 hy).mem⟩
theorem LW_at : ∀ (l : List WrP) (e : WrP), LW l e ↔ ∃ k, k < l.length ∧ atW l k = e ∧ ∀ j, k < j → j < l.length → wC e (atW l j) ≠ 0
  | [], e => by simp [LW]
  | x :: l, e => by
    unfold LW
    rw [LW_at l e]
    constructor
    · rintro (⟨rfl, h⟩ | ⟨k, hk, h1, h2⟩)
      · refine ⟨0, by simp, rfl, fun j hj hl => ?_⟩
        obtain ⟨j, rfl⟩ : ∃ i, j = i + 1 := ⟨j - 1, by omega⟩
        have hj' : j < l.length := by simpa using hl
        have : atW (e :: l) (j + 1) = atW l j := by simp [atW]
        rw [this]
        exact h _ (List.mem_of_getElem? (atW_some hj'))
      · refine ⟨k + 1, by simpa using hk, by simpa [atW] using h1, fun j hj hl => ?_⟩
        obtain ⟨j, rfl⟩ : ∃ i, j = i + 1 := ⟨j - 1, by omega⟩
        have : atW (x :: l) (j + 1) = atW l j := by simp [atW]
        rw [this]
        exact h2 j (by omega) (by simpa using hl)
    · rintro ⟨k, hk, h1, h2⟩
      cases k with
      | zero =>
        have : e = x := by rw [← h1]; rfl
        subst this
        refine Or.inl ⟨rfl, fun y hy => ?_⟩
        obtain ⟨j, hj⟩ := List.mem_iff_getElem?.1 hy
        have hl : j < l.length := (List.getElem?_eq_some_iff.1 hj).1
        have := h2 (j + 1) (by omega) (by simpa using hl)
        rw [show atW (e :: l) (j + 1) = atW l j by simp [atW], atW_get hj] at this
        exact this
      | succ k =>
        refine Or.inr ⟨k, by simpa using hk, by simpa [atW] using h1, fun j hj hl => ?_⟩
        have := h2 (j + 1) (by omega) (by simpa using hl)
        rw [show atW (x :: l) (j + 1) = atW l j by simp [atW]] at this
        exact this
theorem ordL_mem (l : List WrP) (out : List Nat) (e : WrP) : ∀ m, e ∈ ordL l out m ↔ ∃ k, k < m ∧ atW l (out.getD k 0) = e ∧ (k = 0 ∨ wC (atW l (out.getD (k - 1) 0)) (atW l (out.getD k 0)) ≠ 0)
  | 0 => by simp [ordL]
  | m + 1 => by
    unfold ordL
    rw [List.mem_append, ordL_mem l out e m]
    constructor
    · rintro (⟨k, hk, h1, h2⟩ | h)
      · exact ⟨k, by omega, h1, h2⟩
      · split at h
        · rename_i hc
          exact ⟨m, by omega, (List.mem_singleton.1 h).symm, hc⟩
        · simp at h
    · rintro ⟨k, hk, h1, h2⟩
      rcases Nat.lt_or_ge k m with h3 | h3
      · exact Or.inl ⟨k, h3, h1, h2⟩
      · obtain rfl : k = m := by omega
        right
        rw [if_pos h2, h1]; simp
/-- what the program's Order tells is the document's. -/
theorem ordL_is (l : List WrP) (out : List Nat) (h : Sorted1 (ahW l) l.length out) : ordL l out out.length = odD l := by
  obtain ⟨d1, d2⟩ := odD_ok _ l (Nat.le_refl _)
  have hle : ∀ i j, i < j → j < out.length → ahW l (out.getD i 0) (out.getD j 0) = true := fun i j hi hj => by
    have := (List.pairwise_iff_getElem.1 h.ord) i j (by omega) hj hi
    simpa [List.getD_eq_getElem?_getD, hj, Nat.lt_trans hi hj] using this
  have hle0 : ∀ i j, i ≤ j → j < out.length → wC (atW l (out.getD i 0)) (atW l (out.getD j 0)) ≤ 0 := fun i j hi hj => by
    rcases Nat.lt_or_ge i j with h1 | h1
    · rcases (ahW_iff l _ _).1 (hle i j h1 hj) with h2 | h2 <;> omega
    · obtain rfl : i = j := by omega
      rw [wC_self]; exact Int.le_refl _
  refine sw_uniq _ _ ?_ d1 fun e => ?_
  · have key : ∀ m, m ≤ out.length → SW (ordL l out m) := by
      intro m
      induction m with
      | zero => intro _; simp [ordL, SW]
      | succ m ih =>
        intro hm
        unfold ordL
        refine List.pairwise_append.2 ⟨ih (by omega), ?_, ?_⟩
        · split <;> simp
        · intro a ha b hb
          split at hb
          · rename_i hc
            obtain rfl := List.mem_singleton.1 hb
            obtain ⟨k, hk, rfl, _⟩ := (ordL_mem l out a m).1 ha
            have h1 := hle0 k (m - 1) (by omega) (by omega)
            have h2 := hle0 (m - 1) m (by omega) (by omega)
            have h3 : wC (atW l (out.getD (m - 1) 0)) (atW l (out.getD m 0)) ≠ 0 := hc.resolve_left (by omega)
            exact wC_le_lt h1 (by omega)
          · simp at hb
    exact key _ (Nat.le_refl _)
  · rw [d2 e, ordL_mem, LW_at]
    constructor
    · rintro ⟨k, hk, h1, h2⟩
      have hx : out.getD k 0 < l.length := (h.all _).1 (by rw [List.getD_eq_getElem?_getD, List.getElem?_eq_getElem hk]; exact List.getElem_mem hk)
      refine ⟨out.getD k 0, hx, h1, fun j hj hl h0 => ?_⟩
      obtain ⟨k', hk', e'⟩ := List.mem_iff_getElem.1 ((h.all j).2 hl)
      have ej : out.getD k' 0 = j := by rw [List.getD_eq_getElem?_getD, List.getElem?_eq_getElem hk', e']; rfl
      rw [← h1, ← ej] at h0
      rcases Nat.lt_trichotomy k' k with h3 | h3 | h3
      · have h4 := hle0 k' (k - 1) (by omega) (by omega)
        have h5 := hle0 (k - 1) k (by omega) hk
        have h6 : wC (atW l (out.getD (k - 1) 0)) (atW l (out.getD k 0)) ≠ 0 := h2.resolve_left (by omega)
        have h7 := wC_le_lt h4 (by omega : wC (atW l (out.getD (k - 1) 0)) (atW l (out.getD k 0)) < 0)
        have := wC_flip (atW l (out.getD k 0)) (atW l (out.getD k' 0))
        omega
      · subst h3; omega
      · rcases (ahW_iff l _ _).1 (hle k k' h3 hk') with h4 | ⟨_, h4⟩
        · omega
        · omega
    · rintro ⟨x, hx, h1, h2⟩
      obtain ⟨k, hk, e'⟩ := List.mem_iff_getElem.1 ((h.all x).2 hx)
      have ex : out.getD k 0 = x := by rw [List.getD_eq_getElem?_getD, List.getElem?_eq_getElem hk, e']; rfl
      refine ⟨k, hk, by rw [ex]; exact h1, ?_⟩
      rcases Nat.eq_zero_or_pos k with h0 | h0
      · exact Or.inl h0
      · right
        intro h3
        have hx' : out.getD (k - 1) 0 < l.length := (h.all _).1 (by rw [List.getD_eq_getElem?_getD, List.getElem?_eq_getElem (by omega : k - 1 < out.length)]; exact List.getElem_mem _)
        rcases (ahW_iff l _ _).1 (hle (k - 1) k (by omega) hk) with h4 | ⟨_, h4⟩
        · omega
        · rw [ex] at h3 h4
          refine h2 _ h4 hx' ?_
          rw [h1] at h3
          have := wC_flip (atW l (out.getD (k - 1) 0)) e
          omega
theorem odD_len (l : List WrP) : (odD l).length ≤ l.length := by
  have h : ∀ (n : Nat) (a b : List WrP), a.length + b.length ≤ n → (mgD a b).length ≤ a.length + b.length := by
    intro n
    induction n with
    | zero =>
      intro a b hn
      have : a = [] := List.length_eq_zero_iff.1 (by omega)
      subst this
      rw [mgD]; omega
    | succ n ih =>
      intro a b hn
      match a, b with
      | [], b => rw [mgD]; simp
      | x :: a, [] => rw [mgD]; simp
      | x :: a, y :: b =>
        simp only [List.length_cons] at hn
        rw [mgD]
        split
        · have := ih a (y :: b) (by simp only [List.length_cons]; omega)
          simp only [List.length_cons] at this ⊢; omega
        · split
          · have := ih (x :: a) b (by simp only [List.length_cons]; omega)
            simp only [List.length_cons] at this ⊢; omega
          · have := ih a (y :: b) (by simp only [List.length_cons]; omega)
            simp only [List.length_cons] at this ⊢; omega
  have g : ∀ (n : Nat) (l : List WrP), l.length ≤ n → (odD l).length ≤ l.length := by
    intro n
    induction n with
    | zero =>
      intro l hl
      rw [odD, dif_pos (by omega)]; exact Nat.le_refl _
    | succ n ih =>
      intro l hl
      rw [odD]
      split
      · exact Nat.le_refl _
      · have h1 := ih (l.take (l.length / 2)) (by simp; omega)
        have h2 := ih (l.drop (l.length / 2)) (by simp; omega)
        have h3 := h _ (odD (l.take (l.length / 2))) (odD (l.drop (l.length / 2))) (Nat.le_refl _)
        simp only [List.length_take, List.length_drop] at h1 h2
        omega
  exact g _ l (Nat.le_refl _)
end Go.Proofs.YtpbcbpiolhjlhaaGreatDoor
