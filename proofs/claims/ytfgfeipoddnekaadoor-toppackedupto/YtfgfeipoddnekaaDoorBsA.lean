
import Derived.Test.YtfgfeipoddnekaaDoorProg
import Derived.WalkKit
import Derived.Laws.BitsAllLaws
import Derived.BigQuiet
import Derived.Laws.OwnMore
import Derived.Deep.AppendLies
import Derived.OwnWalk
import Derived.LoopTactic
import Derived.Below
import Derived.Deep.RegionHeld3
import Derived.Laws.CopyOwn
namespace Go.Proofs.YtfgfeipoddnekaaDoor.Ser
open Go.RowKit
set_option linter.unusedVariables false
set_option linter.unusedSimpArgs false
/-- a sample: its time, its kind, its number. -/
structure Smp where
  t : Int
  k : Nat
  x : Int
  deriving DecidableEq
instance : Inhabited Smp := ⟨⟨0, 0, 0⟩⟩
def Smp.enc (s : Smp) : List Value := [.int .i64 s.t, .int .u8 (s.k : Int), .int .i64 s.x]
def Smp.val (s : Smp) : Value := .agg #[.int .i64 s.t, .int .u8 (s.k : Int), .int .i64 s.x]
def Smp.ok (s : Smp) : Prop := (-9223372036854775808 ≤ s.t ∧ s.t ≤ 9223372036854775807) ∧ s.k < 256 ∧ -9223372036854775808 ≤ s.x ∧ s.x ≤ 9223372036854775807
def encL : List Smp → List Value
  | [] => []
  | s :: r => s.enc ++ encL r
theorem encL_append (a b : List Smp) : encL (a ++ b) = encL a ++ encL b := by
  induction a with
  | nil => rfl
  | cons s r ih => simp [encL, ih]
theorem encL_len (l : List Smp) : (encL l).length = l.length * 3 := by
  induction l with
  | nil => rfl
  | cons s r ih => simp only [encL, List.length_append, ih, Smp.enc, List.length_cons, List.length_nil]; omega
theorem encL_one (l : List Smp) : ∀ u ∈ encL l, u.oneCell' = true := by
  induction l with
  | nil => intro u hu; cases hu
  | cons s r ih =>
    intro u hu
    simp only [encL, List.mem_append, Smp.enc, List.mem_cons, List.not_mem_nil, or_false] at hu
    rcases hu with (rfl | rfl | rfl) | hu
    · rfl
    · rfl
    · rfl
    · exact ih u hu
theorem encL_get (l : List Smp) (i : Nat) (s : Smp) (h : l[i]? = some s) : (encL l)[i * 3]? = some (.int .i64 s.t) ∧ (encL l)[i * 3 + 1]? = some (.int .u8 (s.k : Int)) ∧ (encL l)[i * 3 + 2]? = some (.int .i64 s.x) := by
  induction l generalizing i with
  | nil => simp at h
  | cons a r ih =>
    cases i with
    | zero => simp at h; subst h; simp [encL, Smp.enc]
    | succ i =>
      simp at h
      have := ih i h
      simp only [encL, Smp.enc]
      rw [show (i + 1) * 3 = i * 3 + 3 by omega]
      simpa using this
theorem encL_take (l : List Smp) (n : Nat) : encL (l.take n) = (encL l).take (n * 3) := by
  induction l generalizing n with
  | nil => simp [encL]
  | cons a r ih =>
    cases n with
    | zero => simp [encL]
    | succ n => rw [List.take_succ_cons, show (n + 1) * 3 = n * 3 + 3 by omega]; simp [encL, Smp.enc, ih]
theorem encL_drop (l : List Smp) (n : Nat) : encL (l.drop n) = (encL l).drop (n * 3) := by
  induction l generalizing n with
  | nil => simp [encL]
  | cons a r ih =>
    cases n with
    | zero => simp [encL]
    | succ n => rw [List.drop_succ_cons, show (n + 1) * 3 = n * 3 + 3 by omega]; simp [encL, Smp.enc, ih]
theorem smp_add (b o j : Nat) : ((⟨b, o, none⟩ : Addr).add j) = ⟨b, o + j, none⟩ := by
  simp [Addr.add]
/-- samples that lie in memory. -/
def LIn (w : World) (a : Option Addr) (l : List Smp) : Prop := (∀ s ∈ l, s.ok) ∧ (l = [] ∨ ∃ b off, a = some ⟨b, off, none⟩ ∧ b < w.heap.size ∧ ∀ i s, l[i]? = some s → w.cell? ⟨b, off + i * 3, none⟩ = some (.int .i64 s.t) ∧ w.cell? ⟨b, off + i * 3 + 1, none⟩ = some (.int .u8 (s.k : Int)) ∧ w.cell? ⟨b, off + i * 3 + 2, none⟩ = some (.int .i64 s.x))
/-- by rising times. -/
def Rise (l : List Smp) : Prop := l.Pairwise (fun a b => a.t < b.t)
theorem Rise.lt {l : List Smp} (h : Rise l) {i j : Nat} {a b : Smp} (hij : i < j) (ha : l[i]? = some a) (hb : l[j]? = some b) : a.t < b.t := by
  obtain ⟨h1, rfl⟩ := List.getElem?_eq_some_iff.1 ha
  obtain ⟨h2, rfl⟩ := List.getElem?_eq_some_iff.1 hb
  exact List.pairwise_iff_getElem.1 h i j h1 h2 hij
/-- how many lie ahead of a time. -/
def ahd (l : List Smp) (t : Int) : Nat := l.countP (fun s => decide (s.t < t))
def hasT (l : List Smp) (t : Int) : Bool := l.any (fun s => decide (s.t = t))
theorem ahd_le (l : List Smp) (t : Int) : ahd l t ≤ l.length := List.countP_le_length
theorem ahd_of (t : Int) : ∀ (l : List Smp) (i : Nat), i ≤ l.length → (∀ j s, j < i → l[j]? = some s → s.t < t) → (∀ j s, i ≤ j → l[j]? = some s → ¬ s.t < t) → ahd l t = i
  | [], i, hi, _, _ => by simp at hi; subst hi; rfl
  | a :: r, 0, _, _, h2 => by
    unfold ahd
    rw [List.countP_eq_zero]
    intro x hx
    obtain ⟨j, hj⟩ := List.getElem?_of_mem hx
    simpa using h2 j x (Nat.zero_le _) hj
  | a :: r, i + 1, hi, h1, h2 => by
    have ha : decide (a.t < t) = true := by simpa using h1 0 a (Nat.succ_pos _) rfl
    have := ahd_of t r i (by simpa using hi) (fun j s hj hs => h1 (j + 1) s (by omega) (by simpa using hs)) (fun j s hj hs => h2 (j + 1) s (by omega) (by simpa using hs))
    unfold ahd at this ⊢
    exact (List.countP_cons_of_pos (p := fun s : Smp => decide (s.t < t)) (a := a) (l := r) ha).trans (by rw [this])
theorem ahd_iff {l : List Smp} (h : Rise l) (t : Int) : ∀ {i : Nat} {s : Smp}, l[i]? = some s → (i < ahd l t ↔ s.t < t) := by
  induction l with
  | nil => intro i s hs; simp at hs
  | cons a r ih =>
    intro i s hs
    have hr : Rise r := (List.pairwise_cons.1 h).2
    have ha := (List.pairwise_cons.1 h).1
    by_cases hat : a.t < t
    · have e : ahd (a :: r) t = ahd r t + 1 := List.countP_cons_of_pos (by simpa using hat)
      rw [e]
      cases i with
      | zero => simp at hs; subst hs; simp [hat]
      | succ i => simp at hs; rw [← ih hr hs]; omega
    · have z : ahd (a :: r) t = 0 := by
        unfold ahd
        rw [List.countP_eq_zero]
        intro x hx
        rcases List.mem_cons.1 hx with rfl | hx
        · simpa using hat
        · have := ha x hx; simp; omega
      rw [z]
      cases i with
      | zero => simp at hs; subst hs; omega
      | succ i =>
        simp at hs
        have := ha s (List.mem_of_getElem? hs)
        omega
theorem hasT_iff {l : List Smp} (h : Rise l) (t : Int) : hasT l t = true ↔ ∃ s, l[ahd l t]? = some s ∧ s.t = t := by
  constructor
  · intro hh
    obtain ⟨s, hs, ht⟩ := List.any_eq_true.1 hh
    have ht : s.t = t := by simpa using ht
    obtain ⟨j, hj⟩ := List.getElem?_of_mem hs
    have k1 : ¬ j < ahd l t := by rw [ahd_iff h t hj]; omega
    have hjl := (List.getElem?_eq_some_iff.1 hj).1
    have e : l[ahd l t]? = some l[ahd l t] := List.getElem?_eq_getElem (by omega)
    have k2 : ¬ l[ahd l t].t < t := by rw [← ahd_iff h t e]; omega
    rcases Nat.lt_or_ge (ahd l t) j with hlt | hge
    · have := h.lt hlt e hj; omega
    · obtain rfl : j = ahd l t := by omega
      exact ⟨s, hj, ht⟩
  · rintro ⟨s, hs, ht⟩
    exact List.any_eq_true.2 ⟨s, List.mem_of_getElem? hs, by simpa using ht⟩
set_option maxRecDepth 100000 in
theorem nan_any (x : Int) (w : World) : Calls Tryd.prog 61 #[.int .i64 x] w fun e w' => e = .returned (.bool false) ∧ w' = w := by
  go_enter Tryd.func61, Tryd.ntmps61
  go_wp2_with fail
  go_ret
  exact ⟨by simp, rfl⟩
def cmpI (a b : Int) : Int := if a < b then -1 else if b < a then 1 else 0
set_option maxRecDepth 100000 in
theorem cmp_int (x y : Int) (w : World) : Calls Tryd.prog 34 #[.int .i64 x, .int .i64 y] w fun e w' => e = .returned (.int .i64 (cmpI x y)) ∧ w' = w := by
  have n1 : Hid (∀ x, Calls Tryd.prog 61 #[.int .i64 x] w fun e w' => e = .returned (.bool false) ∧ w' = w) := fun x => nan_any x w
  unfold cmpI
  by_cases h1 : x < y
  · rw [if_pos h1]
    go_enter Tryd.func34, Tryd.ntmps34
    go_wp2_with (refine Calls.mono (n1.out _) ?_; rintro e w' ⟨rfl, rfl⟩)
    go_ret
    exact ⟨rfl, rfl⟩
  · rw [if_neg h1]
    by_cases h2 : y < x
    · rw [if_pos h2]
      go_enter Tryd.func34, Tryd.ntmps34
      go_wp2_with (refine Calls.mono (n1.out _) ?_; rintro e w' ⟨rfl, rfl⟩)
      go_ret
      exact ⟨rfl, rfl⟩
    · rw [if_neg h2]
      go_enter Tryd.func34, Tryd.ntmps34
      go_wp2_with (refine Calls.mono (n1.out _) ?_; rintro e w' ⟨rfl, rfl⟩)
      go_ret
      exact ⟨rfl, rfl⟩
set_option maxRecDepth 100000 in
theorem cmp_any (s : Smp) (t : Int) (w : World) : Calls Tryd.prog 33 #[.agg #[.int .i64 s.t, .int .u8 (s.k : Int), .int .i64 s.x], .int .i64 t] w fun e w' => e = .returned (.int .i64 (cmpI s.t t)) ∧ Below w.heap.size w w' := by
  have n1 : Hid (∀ W, Calls Tryd.prog 34 #[.int .i64 s.t, .int .i64 t] W fun e w' => e = .returned (.int .i64 (cmpI s.t t)) ∧ w' = W) := fun W => cmp_int s.t t W
  generalize cmpI s.t t = r at n1 ⊢
  generalize s.t = a at n1 ⊢
  go_enter Tryd.func33, Tryd.ntmps33
  go_wp2_with (refine Calls.mono (n1.out _) ?_; rintro e w' ⟨rfl, rfl⟩)
  go_ret
  exact ⟨rfl, (Below.refl _ w).alloc (Nat.le_refl _) _⟩
end Go.Proofs.YtfgfeipoddnekaaDoor.Ser

namespace Go.Proofs.YtfgfeipoddnekaaDoor.Ser
open Go.RowKit
set_option linter.unusedVariables false
set_option linter.unusedSimpArgs false
theorem LIn.below {w w' : World} {a : Option Addr} {l : List Smp} {B : Nat} (h : LIn w a l) (hb : Below B w w') (hB : w.heap.size ≤ B) : LIn w' a l := by
  obtain ⟨h1, h3⟩ := h
  refine ⟨h1, ?_⟩
  rcases h3 with h0 | ⟨b, off, e, hl, hc⟩
  · exact Or.inl h0
  · exact Or.inr ⟨b, off, e, Nat.lt_of_lt_of_le hl hb.size, fun i s hs => ⟨by rw [hb.cell (p := ⟨b, off + i * 3, none⟩) (by show b < B; omega)]; exact (hc i s hs).1, by rw [hb.cell (p := ⟨b, off + i * 3 + 1, none⟩) (by show b < B; omega)]; exact (hc i s hs).2.1, by rw [hb.cell (p := ⟨b, off + i * 3 + 2, none⟩) (by show b < B; omega)]; exact (hc i s hs).2.2⟩⟩
theorem cmpI_neg (a b : Int) : cmpI a b < 0 ↔ a < b := by unfold cmpI; split <;> (try split) <;> omega
theorem cmpI_zero (a b : Int) : cmpI a b = 0 ↔ a = b := by unfold cmpI; split <;> (try split) <;> omega
set_option maxRecDepth 100000 in
set_option maxHeartbeats 4000000 in
theorem bsf_any (a : Option Addr) (cap : Nat) (l : List Smp) (t : Int) (w : World) (h : LIn w a l) (hr : Rise l) (hn : l.length ≤ 4611686018427387903) :
    Calls Tryd.prog 32 #[.slice a l.length cap, .int .i64 t, .func (.func 33) #[] #[]] w fun e w' => e = .returned (.tuple #[.int .i64 (ahd l t : Int), .bool (hasT l t)]) ∧ Below w.heap.size w w' := by
  have hC : Hid (∀ (s : Smp) (W : World), Calls Tryd.prog 33 #[.agg #[.int .i64 s.t, .int .u8 (s.k : Int), .int .i64 s.x], .int .i64 t] W fun e w' => e = .returned (.int .i64 (cmpI s.t t)) ∧ Below W.heap.size W w') := fun s W => cmp_any s t W
  have hH : Hid (LIn w a l) := h
  have hR : Hid (Rise l) := hr
  clear h hr
  generalize hn' : l.length = n at hn
  have hN : Hid (l.length = n) := hn'
  clear hn'
  go_enter Tryd.func32, Tryd.ntmps32
  go_wp2_with fail
  go_loopw [9, 10] (fun i j wr => ∃ lo hi : Nat, lo ≤ hi ∧ hi ≤ n ∧ i = .int .i64 (lo : Int) ∧ j = .int .i64 (hi : Int) ∧ Below w.heap.size w wr ∧ Hid ((∀ k s, k < lo → l[k]? = some s → s.t < t) ∧ (∀ k s, hi ≤ k → l[k]? = some s → t ≤ s.t))) (fun i j _ => (intOf j).toNat - (intOf i).toNat)
  case atStart => exact ⟨0, n, by omega, by omega, rfl, rfl, Below.refl _ _, ⟨fun k s hk => absurd hk (Nat.not_lt_zero _), fun k s hk hs => absurd (List.getElem?_eq_some_iff.1 hs).1 (by have := hN.out; omega)⟩⟩
  case round =>
    obtain ⟨lo, hi, hlh, hin, rfl, rfl, hB, I⟩ := hrel
    by_cases hlt : lo < hi
    · have hltI : (lo : Int) < (hi : Int) := by omega
      have hmn : (lo + hi) / 2 < n := by omega
      obtain ⟨s, hs⟩ : ∃ s, l[(lo + hi) / 2]? = some s := ⟨_, List.getElem?_eq_getElem (by have := hN.out; omega)⟩
      have hS : Hid (l[(lo + hi) / 2]? = some s) := hs
      obtain ⟨b, off, rfl, hb, hcc⟩ : ∃ b off, a = some ⟨b, off, none⟩ ∧ b < w.heap.size ∧ ∀ i s, l[i]? = some s → w.cell? ⟨b, off + i * 3, none⟩ = some (.int .i64 s.t) ∧ w.cell? ⟨b, off + i * 3 + 1, none⟩ = some (.int .u8 (s.k : Int)) ∧ w.cell? ⟨b, off + i * 3 + 2, none⟩ = some (.int .i64 s.x) := by
        rcases hH.out.2 with h0 | h1
        · rw [h0] at hs; simp at hs
        · exact h1
      have d1 : wr.cell? ⟨b, off + (lo + hi) / 2 * 3, none⟩ = some (.int .i64 s.t) := by rw [hB.cell (p := ⟨b, off + (lo + hi) / 2 * 3, none⟩) hb]; exact (hcc _ s hs).1
      have d2 : wr.cell? ⟨b, off + (lo + hi) / 2 * 3 + 1, none⟩ = some (.int .u8 (s.k : Int)) := by rw [hB.cell (p := ⟨b, off + (lo + hi) / 2 * 3 + 1, none⟩) hb]; exact (hcc _ s hs).2.1
      have d3 : wr.cell? ⟨b, off + (lo + hi) / 2 * 3 + 2, none⟩ = some (.int .i64 s.x) := by rw [hB.cell (p := ⟨b, off + (lo + hi) / 2 * 3 + 2, none⟩) hb]; exact (hcc _ s hs).2.2
      clear hcc hs
      have hC' := hC.out s wr
      obtain ⟨r, hr⟩ : ∃ r, r = cmpI s.t t := ⟨_, rfl⟩
      have hr0 : Hid (r = cmpI s.t t) := hr
      rw [← hr] at hC'
      have hC2 : Hid _ := hC'
      clear hr hC'
      by_cases hneg : r < 0
      · go_wp2_with (refine Calls.mono hC2.out ?_; rintro e w' ⟨rfl, hB2⟩)
        go_round
        case measure => simp only [intOf]; omega
        case rel =>
          have hst : s.t < t := (cmpI_neg _ _).1 (hr0.out ▸ hneg)
          refine ⟨(lo + hi) / 2 + 1, hi, by omega, by omega, by simp, rfl, hB.trans (hB2.mono hB.size), ⟨fun k s' hk hs' => ?_, I.out.2⟩⟩
          rcases Nat.lt_or_ge k ((lo + hi) / 2) with hlt' | hge
          · have := hR.out.lt hlt' hs' hS.out; omega
          · obtain rfl : k = (lo + hi) / 2 := by omega
            rw [hS.out] at hs'; cases hs'; exact hst
      · go_wp2_with (refine Calls.mono hC2.out ?_; rintro e w' ⟨rfl, hB2⟩)
        go_round
        case measure => simp only [intOf]; omega
        case rel =>
          have hst : t ≤ s.t := by
            rcases Int.lt_or_le s.t t with hh | hh
            · have := (cmpI_neg _ _).2 hh; rw [← hr0.out] at this; omega
            · exact hh
          refine ⟨lo, (lo + hi) / 2, by omega, by omega, rfl, by simp, hB.trans (hB2.mono hB.size), ⟨I.out.1, fun k s' hk hs' => ?_⟩⟩
          rcases Nat.lt_or_ge ((lo + hi) / 2) k with hlt' | hge
          · have := hR.out.lt hlt' hS.out hs'; omega
          · obtain rfl : k = (lo + hi) / 2 := by omega
            rw [hS.out] at hs'; cases hs'; exact hst
    · obtain rfl : lo = hi := by omega
      have hA : Hid (ahd l t = lo) := ahd_of t l lo (by have := hN.out; omega) I.out.1 (fun k s hk hs => by have := I.out.2 k s hk hs; omega)
      rcases Nat.lt_or_ge lo n with hln | hln
      · obtain ⟨s, hs⟩ : ∃ s, l[lo]? = some s := ⟨_, List.getElem?_eq_getElem (by have := hN.out; omega)⟩
        have hS : Hid (l[lo]? = some s) := hs
        obtain ⟨b, off, rfl, hb, hcc⟩ : ∃ b off, a = some ⟨b, off, none⟩ ∧ b < w.heap.size ∧ ∀ i s, l[i]? = some s → w.cell? ⟨b, off + i * 3, none⟩ = some (.int .i64 s.t) ∧ w.cell? ⟨b, off + i * 3 + 1, none⟩ = some (.int .u8 (s.k : Int)) ∧ w.cell? ⟨b, off + i * 3 + 2, none⟩ = some (.int .i64 s.x) := by
          rcases hH.out.2 with h0 | h1
          · rw [h0] at hs; simp at hs
          · exact h1
        have d1 : wr.cell? ⟨b, off + lo * 3, none⟩ = some (.int .i64 s.t) := by rw [hB.cell (p := ⟨b, off + lo * 3, none⟩) hb]; exact (hcc _ s hs).1
        have d2 : wr.cell? ⟨b, off + lo * 3 + 1, none⟩ = some (.int .u8 (s.k : Int)) := by rw [hB.cell (p := ⟨b, off + lo * 3 + 1, none⟩) hb]; exact (hcc _ s hs).2.1
        have d3 : wr.cell? ⟨b, off + lo * 3 + 2, none⟩ = some (.int .i64 s.x) := by rw [hB.cell (p := ⟨b, off + lo * 3 + 2, none⟩) hb]; exact (hcc _ s hs).2.2
        clear hcc hs
        have hlnI : (lo : Int) < (n : Int) := by omega
        have hl0 : (0 : Int) ≤ (lo : Int) := by omega
        have hC' := hC.out s wr
        obtain ⟨r, hr⟩ : ∃ r, r = cmpI s.t t := ⟨_, rfl⟩
        have hr0 : Hid (r = cmpI s.t t) := hr
        rw [← hr] at hC'
        have hC2 : Hid _ := hC'
        clear hr hC'
        have hfin : Hid (hasT l t = decide (r = 0)) := by
          show hasT l t = decide (r = 0)
          rw [Bool.eq_iff_iff, hasT_iff hR.out, hA.out, decide_eq_true_iff, hr0.out, cmpI_zero]
          constructor
          · rintro ⟨s', h1, h2⟩; rw [hS.out] at h1; cases h1; exact h2
          · intro h; exact ⟨s, hS.out, h⟩
        by_cases h0 : r = 0
        · subst h0
          go_wp2_with (refine Calls.mono hC2.out ?_; rintro e w' ⟨rfl, hB2⟩)
          first | go_ret2 | go_ret
          exact ⟨by rw [hA.out, hfin.out]; simp, hB.trans (hB2.mono hB.size)⟩
        · go_wp2_with (refine Calls.mono hC2.out ?_; rintro e w' ⟨rfl, hB2⟩)
          first | go_ret2 | go_ret
          exact ⟨by rw [hA.out, hfin.out]; simp [h0], hB.trans (hB2.mono hB.size)⟩
      · have hlnI : ¬ (lo : Int) < (n : Int) := by omega
        have hfin : Hid (hasT l t = false) := by
          show hasT l t = false
          rw [Bool.eq_false_iff]
          intro h
          obtain ⟨s', h1, h2⟩ := (hasT_iff hR.out t).1 h
          rw [hA.out] at h1
          have := (List.getElem?_eq_some_iff.1 h1).1
          have := hN.out; omega
        go_wp2_with fail
        first | go_ret2 | go_ret
        exact ⟨by rw [hA.out, hfin.out]; simp; try omega, hB⟩
/-- a row of samples that is one's own, or the empty rest of one. -/
def OR (w : World) (B : Nat) (v : Value) (l : List Smp) : Prop := w.ownsRow B 37 3 v l.length (encL l) ∨ (l = [] ∧ ∃ g, v = .slice (some ⟨g, 0, none⟩) 0 0 ∧ B ≤ g ∧ g < w.heap.size)
theorem OR.lin {w : World} {B : Nat} {v : Value} {l : List Smp} (h : OR w B v l) (hk : ∀ s ∈ l, s.ok) : ∃ a cap, v = .slice a l.length cap ∧ l.length ≤ cap ∧ LIn w a l := by
  rcases h with h | ⟨rfl, g, rfl, _⟩
  · rcases h.2 with ⟨e, e0⟩ | ⟨g, cap, cur, e1, _, hg, hc, _⟩
    · exact ⟨none, 0, by rw [e, e0], by omega, hk, Or.inl (List.eq_nil_of_length_eq_zero e0)⟩
    · subst e1
      have hcs := h.cells (g := g) rfl
      refine ⟨some ⟨g, 0, none⟩, cap, rfl, hc, hk, Or.inr ⟨g, 0, rfl, (h.lt g rfl).2, fun i s hs => ?_⟩⟩
      obtain ⟨e1, e2, e3⟩ := encL_get l i s hs
      have k1 := hcs _ _ e1
      have k2 := hcs _ _ e2
      have k3 := hcs _ _ e3
      rw [smp_add, Nat.zero_add] at k1 k2 k3
      rw [Nat.zero_add]
      exact ⟨k1, k2, k3⟩
  · exact ⟨_, 0, rfl, by simp, hk, Or.inl rfl⟩
theorem OR.keep {w w' : World} {B : Nat} {v : Value} {l : List Smp} (h : OR w B v l) (hsz : w.heap.size ≤ w'.heap.size) (hk : ∀ g, v.ownBlock = some g → w'.heap[g]? = w.heap[g]?) : OR w' B v l := by
  rcases h with h | h
  · refine Or.inl ⟨h.1, ?_⟩
    rcases h.2 with h2 | ⟨g, cap, cur, e1, e2, e3, e4⟩
    · exact Or.inl h2
    · exact Or.inr ⟨g, cap, cur, e1, e2, by rw [hk g (by rw [e1]; rfl)]; exact e3, e4⟩
  · obtain ⟨h1, g, h2, h3, h4⟩ := h
    exact Or.inr ⟨h1, g, h2, h3, Nat.lt_of_lt_of_le h4 hsz⟩
theorem OR.below {w w' : World} {B C : Nat} {v : Value} {l : List Smp} (h : OR w B v l) (hb : Below C w w') (hC : w.heap.size ≤ C) : OR w' B v l := by
  rcases h with h | h
  · refine Or.inl ⟨h.1, ?_⟩
    rcases h.2 with h2 | ⟨g, cap, cur, e1, e2, e3, e4⟩
    · exact Or.inl h2
    · exact Or.inr ⟨g, cap, cur, e1, e2, by rw [hb.block g (by have := (Array.getElem?_eq_some_iff.1 e3).1; omega)]; exact e3, e4⟩
  · obtain ⟨h1, g, h2, h3, h4⟩ := h
    exact Or.inr ⟨h1, g, h2, h3, Nat.lt_of_lt_of_le h4 hb.size⟩
/-- a Series at block N. -/
structure SS (N B : Nat) (v : Value) (l : List Smp) (w : World) : Prop where
  c0 : w.cell? ⟨N, 0, none⟩ = some v
  f0 : w.frozen? ⟨N, 0, none⟩ = false
  row : OR w B v l
  ne : v.ownBlock ≠ some N
  hN : N < w.heap.size
  hB : B ≤ N
  hk : ∀ s ∈ l, s.ok
  hr : Rise l
  hn : l.length ≤ 2199023255552
theorem frozen_block {w w' : World} {N o : Nat} (h : w'.heap[N]? = w.heap[N]?) : w'.frozen? ⟨N, o, none⟩ = w.frozen? ⟨N, o, none⟩ := by
  simp [World.frozen?, h]
theorem SS.below {N B : Nat} {v : Value} {l : List Smp} {w w' : World} (h : SS N B v l w) (hb : Below w.heap.size w w') : SS N B v l w' :=
  ⟨by rw [hb.cell (p := ⟨N, 0, none⟩) h.hN]; exact h.c0, by rw [frozen_block (hb.block N h.hN)]; exact h.f0, h.row.below hb (Nat.le_refl _), h.ne, Nat.lt_of_lt_of_le h.hN hb.size, h.hB, h.hk, h.hr, h.hn⟩
set_option maxRecDepth 100000 in
set_option maxHeartbeats 4000000 in
theorem find_any (N B : Nat) (v : Value) (l : List Smp) (t : Int) (w : World) (h : SS N B v l w) : Calls Tryd.prog 12 #[.pointer (some ⟨N, 0, none⟩), .int .i64 t] w fun e w' => e = .returned (.tuple #[.int .i64 (ahd l t : Int), .bool (hasT l t)]) ∧ Below w.heap.size w w' := by
  obtain ⟨a, cap, rfl, hcap, hL⟩ := h.row.lin h.hk
  have hb : Hid _ := bsf_any a cap l t w hL h.hr (by have := h.hn; omega)
  have c0 := h.c0
  clear h hL hcap
  generalize ahd l t = p at hb ⊢
  generalize hasT l t = q at hb ⊢
  generalize l.length = n at hb c0
  go_enter Tryd.func12, Tryd.ntmps12
  go_wp2_with (refine Calls.mono hb.out ?_; rintro e w' ⟨rfl, hB⟩)
  first | go_ret2 | go_ret
  exact ⟨rfl, hB⟩
end Go.Proofs.YtfgfeipoddnekaaDoor.Ser

namespace Go.Proofs.YtfgfeipoddnekaaDoor.Ser
open Go.RowKit
set_option linter.unusedVariables false
set_option linter.unusedSimpArgs false
/-- what a Series at N leaves alone: all but its own cell, and the row of its slice. -/
structure SFr (N : Nat) (v v' : Value) (w w' : World) : Prop where
  b : Below 0 w w'
  keep : ∀ k, k < w.heap.size → k ≠ N → some k ≠ v.ownBlock → w'.heap[k]? = w.heap[k]?
  own : v'.ownBlock = v.ownBlock ∨ ∃ k, v'.ownBlock = some k ∧ w.heap.size ≤ k
theorem SFr.of {N : Nat} {v : Value} {w w' : World} (h : Below w.heap.size w w') : SFr N v v w w' := ⟨h.mono (Nat.zero_le _), fun k hk _ _ => h.block k hk, Or.inl rfl⟩
theorem SFr.trans {N : Nat} {v v1 v2 : Value} {w w1 w2 : World} (h : SFr N v v1 w w1) (k : SFr N v1 v2 w1 w2) : SFr N v v2 w w2 := by
  refine ⟨h.b.trans k.b, fun j hj hn ho => ?_, ?_⟩
  · rw [k.keep j (Nat.lt_of_lt_of_le hj h.b.size) hn ?_, h.keep j hj hn ho]
    rcases h.own with e | ⟨i, e, hi⟩
    · rw [e]; exact ho
    · rw [e]; intro e'; injection e' with e'; omega
  · rcases k.own with e | ⟨i, e, hi⟩
    · rw [e]; exact h.own
    · exact Or.inr ⟨i, e, Nat.le_trans h.b.size hi⟩
theorem OR.bound {w : World} {B : Nat} {v : Value} {l : List Smp} (h : OR w B v l) {g : Nat} (hg : v.ownBlock = some g) : B ≤ g := by
  rcases h with h | ⟨_, g', rfl, hb, _⟩
  · exact (h.lt g hg).1
  · simp [Value.ownBlock] at hg; omega
theorem OR.lt {w : World} {B : Nat} {v : Value} {l : List Smp} (h : OR w B v l) {g : Nat} (hg : v.ownBlock = some g) : g < w.heap.size := by
  rcases h with h | ⟨_, g', rfl, _, hb⟩
  · exact (h.lt g hg).2
  · simp [Value.ownBlock] at hg; omega
theorem SFr.below {N B : Nat} {v v' : Value} {l : List Smp} {w w' : World} (h : SFr N v v' w w') (hs : SS N B v l w) : Below B w w' :=
  ⟨h.b.os, h.b.tape, h.b.output, h.b.size, fun k hk => h.keep k (by have := hs.hN; have := hs.hB; omega) (by have := hs.hB; omega) (fun e => by have := hs.row.bound e.symm; omega)⟩
/-- a sample of the row set anew. -/
theorem own_set {w : World} {B g cap : Nat} {l : List Smp} (h : w.ownsRow B 37 3 (.slice (some ⟨g, 0, none⟩) l.length cap) l.length (encL l)) {i : Nat} {s : Smp} (hs : l[i]? = some s) (k : Nat) (x : Int) :
    ((w.setCell ⟨g, i * 3 + 1, none⟩ (.int .u8 (k : Int))).setCell ⟨g, i * 3 + 2, none⟩ (.int .i64 x)).ownsRow B 37 3 (.slice (some ⟨g, 0, none⟩) (l.set i ⟨s.t, k, x⟩).length cap) (l.set i ⟨s.t, k, x⟩).length (encL (l.set i ⟨s.t, k, x⟩)) := by
  have h2 := ((h.stored (i * 3 + 1) (.int .u8 (k : Int))).1.stored (i * 3 + 2) (.int .i64 x)).1
  rw [List.length_set]
  have e : encL (l.set i ⟨s.t, k, x⟩) = ((encL l).set (i * 3 + 1) (.int .u8 (k : Int))).set (i * 3 + 2) (.int .i64 x) := by
    clear h h2
    induction l generalizing i with
    | nil => simp at hs
    | cons a r ih =>
      cases i with
      | zero => simp at hs; subst hs; simp [encL, Smp.enc]
      | succ i =>
        simp at hs
        rw [List.set_cons_succ, show (i + 1) * 3 = i * 3 + 3 by omega]
        simp [encL, Smp.enc, ih hs]
  rw [e]
  exact h2
theorem below_new {w w' : World} (h : Below w.heap.size w w') (o : Obj) : Below w.heap.size w (w'.alloc o) := h.alloc h.size o
theorem SFr.tail {N : Nat} {v v' : Value} {w w1 w2 : World} (h : SFr N v v' w w1) (hb : Below w.heap.size w1 w2) : SFr N v v' w w2 :=
  ⟨h.b.trans (hb.mono (Nat.zero_le _)), fun k hk hn ho => (hb.block k hk).trans (h.keep k hk hn ho), h.own⟩
theorem SS.tail {N B M : Nat} {v : Value} {l : List Smp} {w w' : World} (h : SS N B v l w) (hb : Below M w w') (hN : N < M) (hg : ∀ g, v.ownBlock = some g → g < M) : SS N B v l w' :=
  ⟨by rw [hb.cell (p := ⟨N, 0, none⟩) hN]; exact h.c0, by rw [frozen_block (hb.block N hN)]; exact h.f0, h.row.keep hb.size (fun g e => hb.block g (hg g e)), h.ne, Nat.lt_of_lt_of_le h.hN hb.size, h.hB, h.hk, h.hr, h.hn⟩
theorem frozen_new (w : World) (cs : Array Value) (ty : TypeId) (j : Nat) : (w.alloc (.cells cs ty)).frozen? ⟨w.heap.size, j, none⟩ = false := by rw [World.frozen?, heap_alloc_new]; simp
theorem Rise.set {l : List Smp} (h : Rise l) {i : Nat} {s : Smp} (hs : l[i]? = some s) (k : Nat) (x : Int) : Rise (l.set i ⟨s.t, k, x⟩) := by
  unfold Rise at *
  rw [List.pairwise_iff_getElem] at *
  intro p q hp hq hpq
  rw [List.length_set] at hp hq
  obtain ⟨hi, e⟩ := List.getElem?_eq_some_iff.1 hs
  have := h p q hp hq hpq
  rw [List.getElem_set, List.getElem_set]
  split
  · rename_i e1; subst e1
    split
    · omega
    · rw [e] at this; exact this
  · split
    · rename_i e1; subst e1; rw [e] at this; exact this
    · exact this
theorem ok_set {l : List Smp} (h : ∀ s ∈ l, s.ok) {i : Nat} {s : Smp} (hs : l[i]? = some s) (k : Nat) (x : Int) (hk : k < 256) (hx : -9223372036854775808 ≤ x ∧ x ≤ 9223372036854775807) : ∀ y ∈ l.set i ⟨s.t, k, x⟩, y.ok := by
  intro y hy
  rcases List.mem_or_eq_of_mem_set hy with h1 | h1
  · exact h y h1
  · subst h1; exact ⟨(h s (List.mem_of_getElem? hs)).1, hk, hx⟩
theorem SS.set {N B g cap : Nat} {l : List Smp} {w : World} (h : SS N B (.slice (some ⟨g, 0, none⟩) l.length cap) l w) {i : Nat} {s : Smp} (hs : l[i]? = some s) (k : Nat) (x : Int) (hk : k < 256) (hx : -9223372036854775808 ≤ x ∧ x ≤ 9223372036854775807) :
    SS N B (.slice (some ⟨g, 0, none⟩) l.length cap) (l.set i ⟨s.t, k, x⟩) ((w.setCell ⟨g, i * 3 + 1, none⟩ (.int .u8 (k : Int))).setCell ⟨g, i * 3 + 2, none⟩ (.int .i64 x)) ∧ SFr N (.slice (some ⟨g, 0, none⟩) l.length cap) (.slice (some ⟨g, 0, none⟩) l.length cap) w ((w.setCell ⟨g, i * 3 + 1, none⟩ (.int .u8 (k : Int))).setCell ⟨g, i * 3 + 2, none⟩ (.int .i64 x)) := by
  have hne : N ≠ g := fun e => h.ne (by simp [Value.ownBlock, e])
  have own : w.ownsRow B 37 3 (.slice (some ⟨g, 0, none⟩) l.length cap) l.length (encL l) := by
    rcases h.row with h1 | ⟨h1, _⟩
    · exact h1
    · rw [h1] at hs; simp at hs
  have o2 := own_set own hs k x
  have hl : (l.set i ⟨s.t, k, x⟩).length = l.length := List.length_set
  rw [hl] at o2
  have hb : ∀ j, j ≠ g → ((w.setCell ⟨g, i * 3 + 1, none⟩ (.int .u8 (k : Int))).setCell ⟨g, i * 3 + 2, none⟩ (.int .i64 x)).heap[j]? = w.heap[j]? := fun j hj => by
    rw [heap_setCell_other _ ⟨g, i * 3 + 2, none⟩ j _ hj, heap_setCell_other _ ⟨g, i * 3 + 1, none⟩ j _ hj]
  refine ⟨⟨?_, ?_, Or.inl (by rw [hl]; exact o2), h.ne, by simpa using h.hN, h.hB, ok_set h.hk hs k x hk hx, h.hr.set hs k x, by rw [hl]; exact h.hn⟩, ⟨⟨rfl, rfl, rfl, by simp, fun j hj => absurd hj (Nat.not_lt_zero _)⟩, fun j _ _ hj => hb j (fun e => hj (by simp [Value.ownBlock, e])), Or.inl rfl⟩⟩
  · rw [World.cell?_of_block (w := w) (hb N hne)]; exact h.c0
  · rw [frozen_block (hb N hne)]; exact h.f0
set_option maxRecDepth 100000 in
set_option maxHeartbeats 4000000 in
theorem change_any (N B : Nat) (v : Value) (l : List Smp) (w : World) (h : SS N B v l w) (i : Nat) (s : Smp) (hs : l[i]? = some s) (k : Nat) (x : Int) (hk : k < 256) (hx : -9223372036854775808 ≤ x ∧ x ≤ 9223372036854775807) :
    Calls Tryd.prog 13 #[.pointer (some ⟨N, 0, none⟩), .int .i64 (i : Int), .agg #[.int .u8 (k : Int), .int .i64 x]] w fun e w' => e = .returned (.agg #[.int .u8 (s.k : Int), .int .i64 s.x]) ∧ SS N B v (l.set i ⟨s.t, k, x⟩) w' ∧ SFr N v v w w' := by
  obtain ⟨a, cap, rfl, hcap, hL⟩ := h.row.lin h.hk
  have hlt := (List.getElem?_eq_some_iff.1 hs).1
  have own : w.ownsRow B 37 3 (.slice a l.length cap) l.length (encL l) := by
    rcases h.row with h1 | ⟨h1, _⟩
    · exact h1
    · rw [h1] at hs; simp at hs
  obtain ⟨g, cap', e, _, _⟩ := own.form (by omega)
  cases e
  have c0 := h.c0
  have hne : N ≠ g := fun e => h.ne (by simp [Value.ownBlock, e])
  obtain ⟨e1, e2, e3⟩ := encL_get l i s hs
  have d2 := (own.cellAt (i * 3 + 1) (by omega)).trans e2
  have d3 := (own.cellAt (i * 3 + 2) (by omega)).trans e3
  have f2 := own.frozenAt (i * 3 + 1)
  have f3 := own.frozenAt (i * 3 + 2)
  have hn := h.hn
  have hi0 : (0 : Int) ≤ (i : Int) := by omega
  have hiI : (i : Int) < (l.length : Int) := by omega
  have hN := h.hN
  have hg : g < w.heap.size := (own.lt g rfl).2
  obtain ⟨W, hW⟩ : ∃ W, W = (w.alloc (.cells #[.int .u8 (k : Int), .int .i64 x] 35)).alloc (.cells #[.int .u8 0, .int .i64 0] 35) := ⟨_, rfl⟩
  have hB0 : Below w.heap.size w W := by rw [hW]; exact below_new (below_new (Below.refl _ _) _) _
  have c0' := (hB0.cell (p := ⟨N, 0, none⟩) hN).trans c0
  have d2' := (hB0.cell (p := ⟨g, i * 3 + 1, none⟩) hg).trans d2
  have d3' := (hB0.cell (p := ⟨g, i * 3 + 2, none⟩) hg).trans d3
  have f2' := (frozen_block (o := i * 3 + 1) (hB0.block g hg)).trans f2
  have f3' := (frozen_block (o := i * 3 + 2) (hB0.block g hg)).trans f3
  subst hW
  have hF0 : Hid (∀ W3, Below w.heap.size w W3 → _) := fun W3 hB3 => (h.below hB3).set hs k x hk hx
  clear h hL own e1 e2 e3 hs
  generalize l.length = n at *
  go_enter Tryd.func13, Tryd.ntmps13
  go_wp2_with fail
  obtain ⟨W3, hW3⟩ : ∃ W3, W3 = (((w.alloc (Obj.cells #[Value.int IntKind.u8 ↑k, Value.int IntKind.i64 x] 35)).alloc (Obj.cells #[Value.int IntKind.u8 0, Value.int IntKind.i64 0] 35)).alloc (Obj.cells #[Value.int IntKind.u8 ↑s.k, Value.int IntKind.i64 s.x] 35)) := ⟨_, rfl⟩
  rw [← hW3]
  have hB3 : Below w.heap.size w W3 := by rw [hW3]; exact below_new (below_new (below_new (Below.refl _ _) _) _) _
  have S5 : W3.cell? ⟨N, 0, none⟩ = some (.slice (some ⟨g, 0, none⟩) n cap) ∧ W3.cell? ⟨w.heap.size, 0, none⟩ = some (.int .u8 (k : Int)) ∧ W3.cell? ⟨w.heap.size, 1, none⟩ = some (.int .i64 x) := ⟨(hB3.cell (p := ⟨N, 0, none⟩) hN).trans c0, by rw [hW3]; simp [go_sem], by rw [hW3]; simp [go_sem]⟩
  have hW4 : Hid (W3 = _) := hW3
  clear hW3
  have d2 := (hB3.cell (p := ⟨g, i * 3 + 1, none⟩) hg).trans d2
  have d3 := (hB3.cell (p := ⟨g, i * 3 + 2, none⟩) hg).trans d3
  have f2 := (frozen_block (o := i * 3 + 1) (hB3.block g hg)).trans f2
  have f3 := (frozen_block (o := i * 3 + 2) (hB3.block g hg)).trans f3
  have d2r : W3.drew.cell? ⟨g, i * 3 + 1, none⟩ = some (.int .u8 (s.k : Int)) := d2
  have d3r : W3.drew.cell? ⟨g, i * 3 + 2, none⟩ = some (.int .i64 s.x) := d3
  have f2r : W3.drew.frozen? ⟨g, i * 3 + 1, none⟩ = false := f2
  have f3r : W3.drew.frozen? ⟨g, i * 3 + 2, none⟩ = false := f3
  have d4 : W3.cell? ⟨g, i * 3 + 1 + 1, none⟩ = some (.int .i64 s.x) := d3
  have f4 : W3.frozen? ⟨g, i * 3 + 1 + 1, none⟩ = false := f3
  have S6 := And.intro S5 (And.intro d2 (And.intro d4 (And.intro f2 f4)))
  have c0r := S5.1
  have v0r := S5.2.1
  have v1r := S5.2.2
  have x0 : W3.cell? ⟨w.heap.size + 1 + 1, 0, none⟩ = some (.int .u8 (s.k : Int)) := by rw [hW4.out]; simp [go_sem]
  have x1 : W3.cell? ⟨w.heap.size + 1 + 1, 1, none⟩ = some (.int .i64 s.x) := by rw [hW4.out]; simp [go_sem]
  have y0 : W3.cell? ⟨w.heap.size + 1, 0, none⟩ = some (.int .u8 0) := by rw [hW4.out]; simp [go_sem]
  have y1 : W3.cell? ⟨w.heap.size + 1, 1, none⟩ = some (.int .i64 0) := by rw [hW4.out]; simp [go_sem]
  have z0 : W3.frozen? ⟨w.heap.size + 1, 0, none⟩ = false := by
    rw [hW4.out, World.frozen?_alloc_old _ _ ⟨w.heap.size + 1, 0, none⟩ (by simp)]
    have := frozen_new (w.alloc (Obj.cells #[Value.int IntKind.u8 ↑k, Value.int IntKind.i64 x] 35)) #[Value.int IntKind.u8 0, Value.int IntKind.i64 0] 35 0
    simp
  have z1 : W3.frozen? ⟨w.heap.size + 1, 1, none⟩ = false := by
    rw [hW4.out, World.frozen?_alloc_old _ _ ⟨w.heap.size + 1, 1, none⟩ (by simp)]
    have := frozen_new (w.alloc (Obj.cells #[Value.int IntKind.u8 ↑k, Value.int IntKind.i64 x] 35)) #[Value.int IntKind.u8 0, Value.int IntKind.i64 0] 35 1
    simp
  have hF3 : Hid _ := hF0.out W3 hB3
  have hg1 : g ≠ w.heap.size + 1 := by omega
  have hg2 : g ≠ w.heap.size + 1 + 1 := by omega
  go_region
  go_wp2_with fail
  obtain ⟨hS3, hR3⟩ := hF3.out
  have hT : Below w.heap.size ((W3.setCell ⟨g, i * 3 + 1, none⟩ (.int .u8 (k : Int))).setCell ⟨g, i * 3 + 2, none⟩ (.int .i64 x)) ((((W3.setCell ⟨g, i * 3 + 1, none⟩ (.int .u8 (k : Int))).setCell ⟨g, i * 3 + 1 + 1, none⟩ (.int .i64 x)).setCell ⟨w.heap.size + 1, 0, none⟩ (.int .u8 (s.k : Int))).setCell ⟨w.heap.size + 1, 1, none⟩ (.int .i64 s.x)).drew := (((Below.refl _ _).setCell (p := ⟨w.heap.size + 1, 0, none⟩) (by simp) _).setCell (p := ⟨w.heap.size + 1, 1, none⟩) (by simp) _).drew
  refine bodyPost_ret (v := .agg #[.int .u8 (s.k : Int), .int .i64 s.x]) ?_ rfl ⟨rfl, ?_, ?_⟩
  · simp [results, Tryd.results13, go_sem, hg1, hg2, x0, x1, y0, y1, d2, d4]
  · exact hS3.tail hT hN (fun g' e => by simp [Value.ownBlock] at e; omega)
  · exact ((SFr.of hB3).trans hR3).tail hT
set_option maxRecDepth 100000 in
set_option maxHeartbeats 4000000 in
theorem new_any (w : World) : Calls Tryd.prog 4 #[] w fun e w' => e = .returned (.pointer (some ⟨w.heap.size, 0, none⟩)) ∧ SS w.heap.size w.heap.size (.slice none 0 0) [] w' ∧ Below w.heap.size w w' := by
  go_enter Tryd.func4, Tryd.ntmps4
  go_wp2_with fail
  go_ret
  refine ⟨rfl, ⟨by simp [go_sem], frozen_new _ _ _ _, Or.inl (World.ownsRow_nil _ _ _ _), by simp [Value.ownBlock], by simp, Nat.le_refl _, by simp, List.Pairwise.nil, by simp⟩, (Below.refl _ w).alloc (Nat.le_refl _) _⟩
/-- the value at a time. -/
def getV (l : List Smp) (t : Int) : Nat × Int := match l.find? (fun s => decide (s.t = t)) with
  | some s => (s.k, s.x)
  | none => (0, 0)
theorem getV_hit {l : List Smp} (hr : Rise l) {t : Int} (h : hasT l t = true) : ∃ s, l[ahd l t]? = some s ∧ s.t = t ∧ getV l t = (s.k, s.x) := by
  obtain ⟨s, hs, ht⟩ := (hasT_iff hr t).1 h
  refine ⟨s, hs, ht, ?_⟩
  unfold getV
  have : l.find? (fun s => decide (s.t = t)) = some s := by
    rw [List.find?_eq_some_iff_getElem]
    obtain ⟨h1, h2⟩ := List.getElem?_eq_some_iff.1 hs
    refine ⟨by simpa using ht, ahd l t, h1, h2, fun j hj => ?_⟩
    have := hr.lt hj (List.getElem?_eq_getElem (by omega)) hs
    simp; omega
  rw [this]
theorem getV_miss {l : List Smp} {t : Int} (h : hasT l t = false) : getV l t = (0, 0) := by
  unfold getV
  have : l.find? (fun s => decide (s.t = t)) = none := by
    rw [List.find?_eq_none]
    intro s hs
    unfold hasT at h
    rw [List.any_eq_false] at h
    exact h s hs
  rw [this]
theorem SS.alloc {N B : Nat} {v : Value} {l : List Smp} {w : World} (h : SS N B v l w) (o : Obj) : SS N B v l (w.alloc o) := h.below ((Below.refl _ w).alloc (Nat.le_refl _) o)
theorem alloc_below {w w' : World} {o : Obj} (h : Below (w.alloc o).heap.size (w.alloc o) w') : Below w.heap.size w w' := ((Below.refl _ w).alloc (Nat.le_refl _) o).trans (h.mono (by simp))
theorem res_cells {w w' : World} {a b : Value} {ty : TypeId} (h : Below (w.alloc (.cells #[a, b] ty)).heap.size (w.alloc (.cells #[a, b] ty)) w') : w'.cell? ⟨w.heap.size, 0, none⟩ = some a ∧ w'.cell? ⟨w.heap.size, 1, none⟩ = some b ∧ w'.frozen? ⟨w.heap.size, 0, none⟩ = false ∧ w'.frozen? ⟨w.heap.size, 1, none⟩ = false ∧ w.heap.size < w'.heap.size := by
  have hs : w.heap.size < (w.alloc (.cells #[a, b] ty)).heap.size := by simp
  refine ⟨?_, ?_, ?_, ?_, Nat.lt_of_lt_of_le hs h.size⟩
  · rw [h.cell (p := ⟨w.heap.size, 0, none⟩) hs]; simp [go_sem]
  · rw [h.cell (p := ⟨w.heap.size, 1, none⟩) hs]; simp [go_sem]
  · rw [frozen_block (h.block _ hs), World.frozen?, heap_alloc_new]; simp
  · rw [frozen_block (h.block _ hs), World.frozen?, heap_alloc_new]; simp
end Go.Proofs.YtfgfeipoddnekaaDoor.Ser

namespace Go.Proofs.YtfgfeipoddnekaaDoor.Ser
open Go.RowKit
set_option linter.unusedVariables false
set_option linter.unusedSimpArgs false
theorem smp_info : (Tryd.prog.info? 37).map (fun i => (i.zero, i.bytes, i.size)) = some (some (.agg #[.int .i64 0, .int .u8 0, .int .i64 0]), 24, 3) := by kernel_rfl
theorem wpList_append_run {P : Program} {ops : Array Oper} {rest : List Oper} {o : Oper} {a : Act} {Q : Exit → Act → World → Prop} {w : World} (hgd : o.guard = none) (s x : Operand) (t : TypeId)
    (ho : o.op = .call { callee := .builtin .append, args := #[s, x], argTypes := #[t, t] }) (v y v' : Value) (w' : World) (hs : a.eval s = v) (hx : a.eval x = y) (hr : (Builtin.append_ #[t, t] o.type #[v, y]).run P w = .ok v' w')
    (h : wpList P ops Q rest (a.put o.dst v') w') : wpList P ops Q (o :: rest) a w := by
  refine wpList_plain hgd fun K hK => ?_
  unfold Oper.wp execOp
  simp only [ho, resolve, invoke, builtin, Sem.run_bind, Sem.run_pure, Result.andThen_ok, List.map_toArray, List.map_cons, List.map_nil, hs, hx, hr]
  exact hK _ _ h
/-- samples appended to a row of one's own. -/
theorem app_row (W : World) (B : Nat) (v : Value) (l f : List Smp) (h : OR W B v l) (hB : B ≤ W.heap.size) (ad : Addr) (c : Nat) (hnews : ∀ j u, (encL f)[j]? = some u → W.cell? (ad.add j) = some u) (hm : 0 < f.length) (hn : l.length + f.length ≤ 4398046511104) :
    ∃ g cap w', (Builtin.append_ #[22, 22] 22 #[v, .slice (some ad) f.length c]).run Tryd.prog W = .ok (.slice (some ⟨g, 0, none⟩) (l.length + f.length) cap) w' ∧ w'.ownsRow B 37 3 (.slice (some ⟨g, 0, none⟩) (l.length + f.length) cap) (l.length + f.length) (encL (l ++ f)) ∧ W.grownBy w' v.ownBlock ∧ (v.ownBlock = some g ∨ g = W.heap.size) ∧ g < w'.heap.size := by
  obtain ⟨i, i1, i0⟩ := Option.map_eq_some_iff.1 smp_info
  have i2 : i.zero = some (.agg #[.int .i64 0, .int .u8 0, .int .i64 0]) := congrArg (·.1) i0
  have i3 : i.bytes = 24 := congrArg (·.2.1) i0
  have i4 : i.size = 3 := congrArg (·.2.2) i0
  have hml : maxLen = 9223372036854775807 := by decide
  rw [encL_append]
  rcases h with h | ⟨rfl, g0, rfl, hb0, _⟩
  · exact run_append_lies (P := Tryd.prog) W 22 _ B 37 i (.agg #[.int .i64 0, .int .u8 0, .int .i64 0]) 3 24 Tryd.underlying22 i1 i2 i4 i3 rfl (by omega) v l.length (encL l) h ad f.length c (encL f) (encL_len _) hnews (encL_one _) hm (by omega) (by omega) hB _ rfl
  · have hr := run_append_grow (P := Tryd.prog) W 22 22 37 i (.agg #[.int .i64 0, .int .u8 0, .int .i64 0]) Tryd.underlying22 i1 i2 ⟨g0, 0, none⟩ 0 0 [] (by simp) (by simp) ad f.length c (encL f) (by rw [i4]; exact encL_len _) hnews (by omega) (by simp at hn; omega) (growslice_fits (by omega) (by rw [i3]; simp at hn; omega))
    have hge := grownCap_ge W (0 + f.length) 0 37
    have hcm : grownCap W (0 + f.length) 0 37 ≤ maxLen := grownCap_le_maxLen W (0 + f.length) 0 37 (by simp at hn; omega)
    refine ⟨_, _, _, hr, ⟨by simp [encL, encL_len], .inr ⟨W.heap.size, _, _, rfl, hB, heap_alloc_new W.drew _, hge, hcm, ?_, ?_⟩⟩, ⟨rfl, rfl, rfl, by simp, fun k hk _ => Below.heap_alloc W.drew _ k hk⟩, Or.inr rfl, by simp⟩
    · have : (Value.cells (.agg #[.int .i64 0, .int .u8 0, .int .i64 0])).size = 3 := rfl
      simp only [Array.size_append, List.size_toArray, size_zeroCells, this, encL_len, List.length_nil]
      omega
    · simp only [Array.toList_append, List.append_assoc, encL, List.nil_append, List.length_nil, Nat.zero_add]
      rw [← encL_len]
      simp
/-- samples of one's row copied over others. -/
theorem copy_row (w : World) (B g cap : Nat) (M : List Smp) (own : w.ownsRow B 37 3 (.slice (some ⟨g, 0, none⟩) M.length cap) M.length (encL M)) (a b n dLen dCap sCap : Nat) (hb : b + n ≤ M.length) (ha : a + n ≤ M.length) (hd : n ≤ dLen) :
    ∃ w', (Builtin.copy_ #[22, 22] 3 #[.slice (some ⟨g, a * 3, none⟩) dLen dCap, .slice (some ⟨g, b * 3, none⟩) n sCap]).run Tryd.prog w = .ok (goInt n) w' ∧ w'.ownsRow B 37 3 (.slice (some ⟨g, 0, none⟩) M.length cap) M.length (encL (M.take a ++ (M.drop b).take n ++ M.drop (a + n))) ∧ w.grownBy w' (some g) := by
  obtain ⟨i, i1, i0⟩ := Option.map_eq_some_iff.1 smp_info
  have i4 : i.size = 3 := congrArg (·.2.2) i0
  rcases own.2 with ⟨hq, _⟩ | ⟨g0, cap0, cur, hq, hbg, hg, hnc, hcm, hcs, htake⟩
  · cases hq
  cases hq
  have hcl := own.cells (g := g) rfl
  obtain ⟨cs, hcs0⟩ : ∃ cs, cs = encL ((M.drop b).take n) := ⟨_, rfl⟩
  have hln : ((M.drop b).take n).length = n := by rw [List.length_take, List.length_drop]; omega
  have hcl2 : cs.length = n * 3 := by rw [hcs0, encL_len, hln]
  have hsrc : ∀ j v, cs[j]? = some v → w.cell? ((⟨g, b * 3, none⟩ : Addr).add j) = some v := fun j v hj => by
    have := hcl (b * 3 + j) v (by
      rw [hcs0, encL_take, encL_drop] at hj
      rw [List.getElem?_take] at hj
      split at hj
      · rw [List.getElem?_drop] at hj; exact hj
      · cases hj)
    rw [smp_add] at this ⊢
    rw [Nat.zero_add] at this; exact this
  have h1 : ∀ v ∈ cs, v.oneCell' = true := by rw [hcs0]; exact encL_one _
  have hl := run_loadCells_list (P := Tryd.prog) w ⟨g, b * 3, none⟩ cs hsrc
  have hst := run_storeCells_at Tryd.prog g (a * 3) 37 cs 0 cur w hg (by rw [hcl2, hcs]; omega) h1
  refine ⟨w.setRow g (cur.toList.take (a * 3 + 0) ++ cs ++ cur.toList.drop (a * 3 + 0 + cs.length)).toArray, ?_, ?_, ?_⟩
  · simp [Builtin.copy_, run_underlying Tryd.underlying22, Builtin.lenOf, Builtin.firstCells, sizeOf, typeInfo, i1, i4, Nat.min_eq_left hd]
    rw [← hcl2, hl]
    simp [hst]
  · have hlen : (M.take a ++ (M.drop b).take n ++ M.drop (a + n)).length = M.length := by
      rw [List.length_append, List.length_append, hln, List.length_take, List.length_drop]; omega
    refine ⟨by rw [encL_len, hlen], .inr ⟨g, cap, _, rfl, hbg, setRow_heap w g cur _ _ _ hg, hnc, hcm, ?_, ?_⟩⟩
    · simp [hcl2]; omega
    · rw [encL_append, encL_append, encL_take, encL_drop, ← hcs0, ← htake]
      simp only [Nat.add_zero]
      have e1 : (cur.toList.take (M.length * 3)).take (a * 3) = cur.toList.take (a * 3) := by rw [List.take_take, Nat.min_eq_left (by omega)]
      rw [e1, List.take_append, List.take_append]
      have e2 : (cur.toList.take (a * 3)).length = a * 3 := by rw [List.length_take, Array.length_toList]; omega
      rw [List.take_of_length_le (l := cur.toList.take (a * 3)) (by omega), List.take_of_length_le (l := cs) (by omega)]
      refine congrArg (fun x => (cur.toList.take (a * 3) ++ cs) ++ x) ?_
      simp only [List.length_append, e2, hcl2]
      rw [List.drop_take, ← Nat.add_mul, ← Nat.sub_mul]
  · exact ⟨rfl, rfl, rfl, by simp, fun k _ hk => setRow_other w g k _ (fun e => hk (by simp [e]))⟩
end Go.Proofs.YtfgfeipoddnekaaDoor.Ser

namespace Go.Proofs.YtfgfeipoddnekaaDoor.Ser
open Go.RowKit
set_option linter.unusedVariables false
set_option linter.unusedSimpArgs false
/-- samples laid into others, the last one first. -/
def layR (l : List Smp) : List Smp → Nat → List Smp → List Smp
  | [], e, r => l.take e ++ r
  | s :: fs, e, r => layR l fs (ahd (l.take e) s.t) (s :: (l.take e).drop (ahd (l.take e) s.t) ++ r)
def layL (l f : List Smp) : List Smp := layR l f.reverse l.length []
theorem layR_mem (l : List Smp) : ∀ (fs : List Smp) (e : Nat) (r : List Smp) (x : Smp), x ∈ layR l fs e r ↔ x ∈ l.take e ∨ x ∈ fs ∨ x ∈ r
  | [], e, r, x => by simp [layR]
  | s :: fs, e, r, x => by
    rw [layR, layR_mem l fs]
    have ht : l.take (ahd (l.take e) s.t) = (l.take e).take (ahd (l.take e) s.t) := by
      rw [List.take_take, Nat.min_eq_left]
      have := ahd_le (l.take e) s.t
      rw [List.length_take] at this; omega
    rw [ht]
    have : x ∈ l.take e ↔ x ∈ (l.take e).take (ahd (l.take e) s.t) ∨ x ∈ (l.take e).drop (ahd (l.take e) s.t) := by
      conv => lhs; rw [← List.take_append_drop (ahd (l.take e) s.t) (l.take e)]
      rw [List.mem_append]
    rw [this]
    simp only [List.mem_append, List.mem_cons]
    constructor
    · rintro (h | h | (h | h) | h)
      · exact Or.inl (Or.inl h)
      · exact Or.inr (Or.inl (Or.inr h))
      · exact Or.inr (Or.inl (Or.inl h))
      · exact Or.inl (Or.inr h)
      · exact Or.inr (Or.inr h)
    · rintro ((h | h) | (h | h) | h)
      · exact Or.inl h
      · exact Or.inr (Or.inr (Or.inl (Or.inr h)))
      · exact Or.inr (Or.inr (Or.inl (Or.inl h)))
      · exact Or.inr (Or.inl h)
      · exact Or.inr (Or.inr (Or.inr h))
theorem layR_len (l : List Smp) : ∀ (fs : List Smp) (e : Nat) (r : List Smp), e ≤ l.length → (layR l fs e r).length = e + fs.length + r.length
  | [], e, r, he => by simp [layR, Nat.min_eq_left he]
  | s :: fs, e, r, he => by
    have h1 := ahd_le (l.take e) s.t
    rw [List.length_take, Nat.min_eq_left he] at h1
    rw [layR, layR_len l fs _ _ (by omega)]
    simp [Nat.min_eq_left he]
    omega
theorem layR_rise (l : List Smp) : ∀ (fs : List Smp) (e : Nat) (r : List Smp), Rise (l.take e ++ r) → (∀ s ∈ fs, ∀ y ∈ r, s.t < y.t) → fs.Pairwise (fun a b => b.t < a.t) → (∀ s ∈ fs, ∀ y ∈ l, y.t ≠ s.t) → Rise (layR l fs e r)
  | [], e, r, h, _, _, _ => h
  | s :: fs, e, r, h, h1, h2, h3 => by
    rw [layR]
    have hr : Rise (l.take e) := (List.pairwise_append.1 h).1
    obtain ⟨p, hp⟩ : ∃ p, p = ahd (l.take e) s.t := ⟨_, rfl⟩
    rw [← hp]
    have hpl : p ≤ (l.take e).length := by rw [hp]; exact ahd_le _ _
    have ht : l.take p = (l.take e).take p := by
      rw [List.take_take, Nat.min_eq_left]
      rw [List.length_take] at hpl; omega
    have lo : ∀ y ∈ (l.take e).take p, y.t < s.t := by
      intro y hy
      obtain ⟨j, hj⟩ := List.getElem?_of_mem hy
      rw [List.getElem?_take] at hj
      split at hj
      · rename_i hjp; exact (ahd_iff hr s.t hj).1 (by omega)
      · cases hj
    have hi : ∀ y ∈ (l.take e).drop p, s.t < y.t := by
      intro y hy
      obtain ⟨j, hj⟩ := List.getElem?_of_mem hy
      rw [List.getElem?_drop] at hj
      have k1 : ¬ y.t < s.t := fun hh => by have := (ahd_iff hr s.t hj).2 hh; omega
      have k2 := h3 s (by simp) y (List.mem_of_mem_take (List.mem_of_getElem? hj))
      omega
    refine layR_rise l fs p _ ?_ ?_ (List.pairwise_cons.1 h2).2 (fun y hy => h3 y (by simp [hy]))
    · rw [ht]
      unfold Rise
      rw [List.pairwise_append]
      have ha : ((l.take e).take p ++ (l.take e).drop p ++ r).Pairwise (fun a b => a.t < b.t) := by rw [List.take_append_drop]; exact h
      rw [List.pairwise_append, List.pairwise_append] at ha
      obtain ⟨⟨a1, a2, a3⟩, a4, a5⟩ := ha
      refine ⟨a1, ?_, ?_⟩
      · rw [List.cons_append, List.pairwise_cons]
        refine ⟨fun y hy => ?_, ?_⟩
        · rcases List.mem_append.1 hy with hy | hy
          · exact hi y hy
          · exact h1 s (by simp) y hy
        · rw [List.pairwise_append]
          exact ⟨a2, a4, fun x hx y hy => a5 x (List.mem_append.2 (Or.inr hx)) y hy⟩
      · intro x hx y hy
        rw [List.cons_append, List.mem_cons, List.mem_append] at hy
        rcases hy with rfl | hy | hy
        · exact lo x hx
        · exact a3 x hx y hy
        · exact a5 x (List.mem_append.2 (Or.inl hx)) y hy
    · intro y hy z hz
      have hys := (List.pairwise_cons.1 h2).1 y hy
      rw [List.cons_append, List.mem_cons, List.mem_append] at hz
      rcases hz with rfl | hz | hz
      · exact hys
      · have := hi z hz; omega
      · exact h1 y (by simp [hy]) z hz
theorem rise_eq : ∀ {a b : List Smp}, Rise a → Rise b → (∀ x, x ∈ a ↔ x ∈ b) → a = b
  | [], [], _, _, _ => rfl
  | [], y :: b, _, _, h => by have := (h y).2 (by simp); cases this
  | x :: a, [], _, _, h => by have := (h x).1 (by simp); cases this
  | x :: a, y :: b, ha, hb, h => by
    have ha1 := (List.pairwise_cons.1 ha).1
    have hb1 := (List.pairwise_cons.1 hb).1
    have e : x = y := by
      have h1 := (h x).1 (by simp)
      have h2 := (h y).2 (by simp)
      rcases List.mem_cons.1 h1 with e | h1
      · exact e
      · rcases List.mem_cons.1 h2 with e | h2
        · exact e.symm
        · have := hb1 x h1; have := ha1 y h2; omega
    subst e
    congr 1
    refine rise_eq (List.pairwise_cons.1 ha).2 (List.pairwise_cons.1 hb).2 (fun z => ⟨fun hz => ?_, fun hz => ?_⟩)
    · rcases List.mem_cons.1 ((h z).1 (by simp [hz])) with e | h1
      · subst e; have := ha1 z hz; omega
      · exact h1
    · rcases List.mem_cons.1 ((h z).2 (by simp [hz])) with e | h1
      · subst e; have := hb1 z hz; omega
      · exact h1
theorem step_copy_run {P : Program} {ops : Array Oper} {o : Oper} {a : Act} {w : World} {K : Act → World → Prop} {Q : Exit → Act → World → Prop} {E : Prop}
    (hg : o.guard = none) (s x : Operand) (t : TypeId) (hop : o.op = Op.call { callee := Callee.builtin Builtin.copy, args := #[s, x], argTypes := #[t, t] })
    (v y v' : Value) (w' : World) (hs : a.eval s = v) (hx : a.eval x = y) (hr : (Builtin.copy_ #[t, t] o.type #[v, y]).run P w = .ok v' w') (hK : K (a.put o.dst v') w') :
    if Region.wanted o (yielded ops a.tmps) = true then Oper.wp P o a w K Q else E := by
  have hw : Region.wanted o (yielded ops a.tmps) = true := by simp [Region.wanted, hg]
  rw [if_pos hw]
  unfold Oper.wp execOp
  simp only [hop, resolve, invoke, builtin, Sem.run_bind, Sem.run_pure, Result.andThen_ok, List.map_toArray, List.map_cons, List.map_nil, hs, hx, hr]
  exact hK
theorem copy_zero (w : World) (d s : Option Addr) (dLen dCap sCap : Nat) : (Builtin.copy_ #[22, 22] 3 #[.slice d dLen dCap, .slice s 0 sCap]).run Tryd.prog w = .ok (goInt (0 : Nat)) w := by
  obtain ⟨i, i1, i0⟩ := Option.map_eq_some_iff.1 smp_info
  cases d <;> cases s <;> simp [Builtin.copy_, run_underlying Tryd.underlying22, Builtin.lenOf, Builtin.firstCells, sizeOf, typeInfo, i1, storeCells, loadCells, loadCellsFrom, goInt]
theorem own_set3 {w : World} {B g cap n : Nat} {l : List Smp} (h : w.ownsRow B 37 3 (.slice (some ⟨g, 0, none⟩) n cap) n (encL l)) {i : Nat} (hi : i < l.length) (s : Smp) :
    (((w.setCell ⟨g, i * 3, none⟩ (.int .i64 s.t)).setCell ⟨g, i * 3 + 1, none⟩ (.int .u8 (s.k : Int))).setCell ⟨g, i * 3 + 2, none⟩ (.int .i64 s.x)).ownsRow B 37 3 (.slice (some ⟨g, 0, none⟩) n cap) n (encL (l.set i s)) := by
  have h2 := (((h.stored (i * 3) (.int .i64 s.t)).1.stored (i * 3 + 1) (.int .u8 (s.k : Int))).1.stored (i * 3 + 2) (.int .i64 s.x)).1
  have e : encL (l.set i s) = (((encL l).set (i * 3) (.int .i64 s.t)).set (i * 3 + 1) (.int .u8 (s.k : Int))).set (i * 3 + 2) (.int .i64 s.x) := by
    clear h h2
    induction l generalizing i with
    | nil => simp at hi
    | cons a r ih =>
      cases i with
      | zero => simp [encL, Smp.enc]
      | succ i =>
        simp at hi
        rw [List.set_cons_succ, show (i + 1) * 3 = i * 3 + 3 by omega]
        simp [encL, Smp.enc, ih hi]
  rw [e]
  exact h2
theorem lay_list (l mid rest : List Smp) (e i p : Nat) (s : Smp) (he : e ≤ l.length) (hm : mid.length = i + 1) (ha : p ≤ e) : ∃ mid' : List Smp, mid'.length = i ∧
    ((l.take e ++ mid ++ rest).take (p + i + 1) ++ ((l.take e ++ mid ++ rest).drop p).take (e - p) ++ (l.take e ++ mid ++ rest).drop (p + i + 1 + (e - p))).set (p + i) s = l.take p ++ mid' ++ (s :: (l.take e).drop p ++ rest) := by
  have hA : (l.take e).length = e := by rw [List.length_take]; omega
  have h1 : (l.take e ++ mid ++ rest).drop (p + i + 1 + (e - p)) = rest := by
    rw [show p + i + 1 + (e - p) = (l.take e ++ mid).length by rw [List.length_append, hA, hm]; omega, List.drop_left]
  have h2 : ((l.take e ++ mid ++ rest).drop p).take (e - p) = (l.take e).drop p := by
    rw [List.append_assoc, List.drop_append_of_le_length (by omega), show e - p = ((l.take e).drop p).length by rw [List.length_drop, hA], List.take_left]
  obtain ⟨T, hT⟩ : ∃ T, T = (l.take e ++ mid ++ rest).take (p + i) := ⟨_, rfl⟩
  have hlen : p + i < (l.take e ++ mid ++ rest).length := by rw [List.length_append, List.length_append, hA, hm]; omega
  have hTl : T.length = p + i := by rw [hT, List.length_take]; omega
  have h3 : (l.take e ++ mid ++ rest).take (p + i + 1) = T ++ [(l.take e ++ mid ++ rest)[p + i]] := by rw [hT, List.take_succ_eq_append_getElem hlen]
  have h4 : T.take p = l.take p := by
    rw [hT, List.take_take, Nat.min_eq_left (by omega), List.append_assoc, List.take_append_of_le_length (by omega), List.take_take, Nat.min_eq_left ha]
  refine ⟨T.drop p, by rw [List.length_drop, hTl]; omega, ?_⟩
  rw [h1, h2, h3]
  generalize (l.take e ++ mid ++ rest)[p + i] = y
  have h5 : (T ++ [y] ++ (l.take e).drop p ++ rest).set (p + i) s = T ++ s :: ((l.take e).drop p ++ rest) := by
    rw [← hTl]
    simp [List.set_append]
  rw [h5, ← h4, List.take_append_drop]
  simp
theorem own_take {w : World} {B g cap n m : Nat} {l : List Smp} (h : w.ownsRow B 37 3 (.slice (some ⟨g, 0, none⟩) n cap) n (encL l)) (hl : l.length = n) (hm : m ≤ n) : w.ownsRow B 37 3 (.slice (some ⟨g, 0, none⟩) m cap) m (encL (l.take m)) := by
  refine ⟨by rw [encL_len, List.length_take]; congr 1; omega, ?_⟩
  rcases h.2 with ⟨hq, _⟩ | ⟨g0, cap0, cur, hq, hbg, hg, hnc, hcm, hcs, htake⟩
  · cases hq
  cases hq
  refine Or.inr ⟨g, cap, cur, rfl, hbg, hg, by omega, hcm, hcs, ?_⟩
  rw [encL_take, ← htake, List.take_take, Nat.min_eq_left (by omega)]
/-- while samples are laid in. -/
structure LS (N B g cap : Nat) (v : Value) (l f : List Smp) (w wr : World) (k e : Nat) : Prop where
  c0 : wr.cell? ⟨N, 0, none⟩ = some (.slice (some ⟨g, 0, none⟩) (l.length + f.length) cap)
  f0 : wr.frozen? ⟨N, 0, none⟩ = false
  he : e ≤ l.length
  hk : k ≤ f.length
  row : ∃ mid rest : List Smp, mid.length = k ∧ (l.take e ++ mid ++ rest).length = l.length + f.length ∧ wr.ownsRow B 37 3 (.slice (some ⟨g, 0, none⟩) (l.length + f.length) cap) (l.length + f.length) (encL (l.take e ++ mid ++ rest)) ∧ layR l (f.take k).reverse e rest = layL l f
  hN : N < wr.heap.size
  fr : SFr N v (.slice (some ⟨g, 0, none⟩) (l.length + f.length) cap) w wr
theorem LS.next {N B g cap : Nat} {v : Value} {l f : List Smp} {w wr w2 w4 : World} {k e i p : Nat} {s : Smp} (h : LS N B g cap v l f w wr k e) (hki : k = i + 1) (hs : f[i]? = some s) (hp : p = ahd (l.take e) s.t) (hB : Below wr.heap.size wr w2) (hgN : g ≠ N) {mid rest : List Smp} (hm : mid.length = i + 1) (hlen : (l.take e ++ mid ++ rest).length = l.length + f.length)
    (heq : layR l (f.take k).reverse e rest = layL l f) (own : w4.ownsRow B 37 3 (.slice (some ⟨g, 0, none⟩) (l.length + f.length) cap) (l.length + f.length) (encL (((l.take e ++ mid ++ rest).take (p + i + 1) ++ ((l.take e ++ mid ++ rest).drop p).take (e - p) ++ (l.take e ++ mid ++ rest).drop (p + i + 1 + (e - p))).set (p + i) s)))
    (b4 : Below 0 w2 w4) (hkeep : ∀ j, j < w2.heap.size → j ≠ g → w4.heap[j]? = w2.heap[j]?) : LS N B g cap v l f w w4 i p := by
  have hpe : p ≤ e := by
    have := ahd_le (l.take e) s.t
    rw [List.length_take] at this; omega
  have hNw2 : N < w2.heap.size := Nat.lt_of_lt_of_le h.hN hB.size
  have hN4 : w4.heap[N]? = wr.heap[N]? := (hkeep N hNw2 (fun e => hgN e.symm)).trans (hB.block N h.hN)
  obtain ⟨mid', hm', hl'⟩ := lay_list l mid rest e i p s h.he hm hpe
  rw [hl'] at own
  refine ⟨by rw [World.cell?_of_block (w := wr) hN4]; exact h.c0, by rw [frozen_block hN4]; exact h.f0, by have := h.he; omega, by have := h.hk; omega, ⟨mid', _, hm', ?_, own, ?_⟩, Nat.lt_of_lt_of_le hNw2 b4.size, ?_⟩
  · have := own.1
    rw [encL_len] at this; omega
  · have e1 : f.take k = f.take i ++ [s] := by
      rw [hki]
      obtain ⟨h1, h2⟩ := List.getElem?_eq_some_iff.1 hs
      rw [List.take_succ_eq_append_getElem h1, h2]
    rw [← heq, e1, List.reverse_append, List.reverse_singleton, List.singleton_append, layR, ← hp]
  · refine h.fr.trans ⟨(hB.mono (Nat.zero_le _)).trans b4, fun j hj hn ho => ?_, Or.inl rfl⟩
    rw [hkeep j (Nat.lt_of_lt_of_le hj hB.size) (fun e => ho (by simp [Value.ownBlock, e])), hB.block j hj]
set_option maxRecDepth 100000 in
set_option maxHeartbeats 4000000 in
theorem lay_any (N B : Nat) (v : Value) (l f : List Smp) (w : World) (h : SS N B v l w) (fb fo fc : Nat) (hfn : fb ≠ N) (hfo : some fb ≠ v.ownBlock) (hf : LIn w (some ⟨fb, fo, none⟩) f) (hfr : Rise f) (hd : ∀ s ∈ f, ∀ y ∈ l, y.t ≠ s.t) (h0 : 0 < f.length) (hn : l.length + f.length ≤ 2199023255552) :
    Calls Tryd.prog 14 #[.pointer (some ⟨N, 0, none⟩), .slice (some ⟨fb, fo, none⟩) f.length fc] w fun e w' => e = .returned undef ∧ ∃ v', SS N B v' (layL l f) w' ∧ SFr N v v' w w' := by
  obtain ⟨a, cap, rfl, hcap, hL⟩ := h.row.lin h.hk
  have c0 := h.c0
  have f0 := h.f0
  have hne := h.ne
  have hNs := h.hN
  have hBN := h.hB
  have hfl : fb < w.heap.size ∧ ∀ i s, f[i]? = some s → w.cell? ⟨fb, fo + i * 3, none⟩ = some (.int .i64 s.t) ∧ w.cell? ⟨fb, fo + i * 3 + 1, none⟩ = some (.int .u8 (s.k : Int)) ∧ w.cell? ⟨fb, fo + i * 3 + 2, none⟩ = some (.int .i64 s.x) := by
    rcases hf.2 with e | ⟨b, off, e, hb, hc⟩
    · rw [e] at h0; simp at h0
    · cases e; exact ⟨hb, hc⟩
  obtain ⟨g, cap', w1, hr1, own1, gr1, hat, hlt⟩ := app_row w B (.slice a l.length cap) l f h.row (by omega) ⟨fb, fo, none⟩ fc (by
    intro j u hj
    have hj3 : j < f.length * 3 := by rw [← encL_len]; exact (List.getElem?_eq_some_iff.1 hj).1
    obtain ⟨s, hs⟩ : ∃ s, f[j / 3]? = some s := ⟨_, List.getElem?_eq_getElem (by omega)⟩
    obtain ⟨e1, e2, e3⟩ := encL_get f _ s hs
    obtain ⟨c1, c2, c3⟩ := hfl.2 _ s hs
    rw [smp_add]
    rcases (by omega : j % 3 = 0 ∨ j % 3 = 1 ∨ j % 3 = 2) with q | q | q
    · rw [show j = j / 3 * 3 by omega] at hj ⊢
      rw [e1] at hj
      rw [c1, ← hj]
    · rw [show j = j / 3 * 3 + 1 by omega] at hj ⊢
      rw [e2] at hj
      rw [← Nat.add_assoc, c2, ← hj]
    · rw [show j = j / 3 * 3 + 2 by omega] at hj ⊢
      rw [e3] at hj
      rw [← Nat.add_assoc, c3, ← hj]) h0 (by omega)
  have hH : Hid _ := h
  have hgN : g ≠ N := by
    rcases hat with e | e
    · intro e'; exact hne (by rw [e, e'])
    · omega
  have c1 := (gr1.cell_far ⟨N, 0, none⟩ hNs hne.symm).trans c0
  have f1 := (gr1.frozen_far ⟨N, 0, none⟩ hNs hne.symm).trans f0
  have hR1 : Hid _ := hr1
  clear hL hcap h hr1
  go_enter Tryd.func14, Tryd.ntmps14
  go_wp2_with (at_builtin; refine wpList_append_run (by rfl) _ _ _ (by rfl) _ _ _ _ (by rfl) (by rfl) hR1.out ?_)
  go_loopw [4, 5] (fun e i wr => ∃ k e' : Nat, e = .int .i64 (e' : Int) ∧ i = .int .i64 ((k : Int) - 1) ∧ LS N B g cap' (.slice a l.length cap) l f w wr k e') (fun _ i _ => ((intOf i) + 1).toNat)
  case atStart =>
    refine ⟨f.length, l.length, rfl, by simp, ?_⟩
    have hst : (w1.setCell ⟨N, 0, none⟩ (.slice (some ⟨g, 0, none⟩) (l.length + f.length) cap')).cell? ⟨N, 0, none⟩ = some (.slice (some ⟨g, 0, none⟩) (l.length + f.length) cap') := World.cell?_setCell_same _ _ _ c1
    have hk1 : ∀ j, j ≠ N → (w1.setCell ⟨N, 0, none⟩ (.slice (some ⟨g, 0, none⟩) (l.length + f.length) cap')).heap[j]? = w1.heap[j]? := fun j hj => Below.heap_setCell _ _ _ _ hj
    refine ⟨hst, by simpa using f1, Nat.le_refl _, Nat.le_refl _, ⟨f, [], rfl, by simp, ?_, ?_⟩, by have := gr1.size; simp; omega, ?_⟩
    · rw [List.take_length, List.append_nil]
      refine ⟨own1.1, ?_⟩
      rcases own1.2 with ⟨hq, _⟩ | ⟨g0, cap0, cur, hq, hbg, hg, rest⟩
      · cases hq
      cases hq
      exact Or.inr ⟨g, cap', cur, rfl, hbg, by rw [hk1 g hgN]; exact hg, rest⟩
    · rw [List.take_length]; rfl
    · refine ⟨⟨gr1.os, gr1.tape, gr1.output, by have := gr1.size; simpa using this, fun j hj => absurd hj (Nat.not_lt_zero _)⟩, fun j hj hn ho => ?_, ?_⟩
      · rw [hk1 j hn]; exact gr1.block j hj ho
      · rcases hat with e | e
        · exact Or.inl e.symm
        · exact Or.inr ⟨g, rfl, by omega⟩
  case round =>
    obtain ⟨k, e, rfl, rfl, hLS⟩ := hrel
    rcases Nat.eq_zero_or_pos k with rfl | hkp
    · have hLH : Hid _ := hLS
      clear hLS
      go_wp2_with fail
      first | go_end0 | (simp only [Exit.inBlock, Exit.then]; refine bodyPost_ret (results_none rfl _ _ _) rfl ?_) | refine bodyPost_ret (results_none rfl _ _ _) rfl ?_
      refine ⟨rfl, _, ?_, hLH.out.fr⟩
      obtain ⟨mid, rest, hm, hlen, own, heq⟩ := hLH.out.row
      obtain rfl : mid = [] := List.eq_nil_of_length_eq_zero hm
      have hll : (layL l f).length = l.length + f.length := by unfold layL; rw [layR_len _ _ _ _ (Nat.le_refl _)]; simp
      have heq2 : l.take e ++ [] ++ rest = layL l f := by rw [← heq]; simp [layR]
      rw [heq2] at own
      have hmem := fun x => layR_mem l f.reverse l.length [] x
      refine ⟨hLH.out.c0, hLH.out.f0, Or.inl (by rw [hll]; exact own), by simp [Value.ownBlock, hgN], hLH.out.hN, hBN, ?_, ?_, by omega⟩
      · intro x hx
        have := (hmem x).1 hx
        simp at this
        rcases this with h | h
        · exact hH.out.hk x h
        · exact hf.1 x h
      · refine layR_rise l f.reverse l.length [] ?_ (by simp) ?_ ?_
        · rw [List.take_length, List.append_nil]; exact hH.out.hr
        · rw [List.pairwise_reverse]; exact hfr
        · intro s hs y hy; exact hd s (by simpa using hs) y hy
    · obtain ⟨i, hi⟩ : ∃ i : Nat, i = k - 1 := ⟨_, rfl⟩
      have hiI : (k : Int) - 1 = (i : Int) := by omega
      obtain ⟨s, hs⟩ : ∃ s, f[i]? = some s := ⟨_, List.getElem?_eq_getElem (by have := hLS.hk; omega)⟩
      have hfb : wr.heap[fb]? = w.heap[fb]? := hLS.fr.keep fb hfl.1 hfn hfo
      obtain ⟨x1, x2, x3⟩ := hfl.2 i s hs
      rw [← World.cell?_of_block (w := w) hfb] at x1 x2 x3
      have hfw : fb < wr.heap.size := Nat.lt_of_lt_of_le hfl.1 hLS.fr.b.size
      have m0 := hLS.c0
      have mN := hLS.hN
      have he := hLS.he
      have hkf := hLS.hk
      have hgl : g < wr.heap.size := by obtain ⟨_, _, _, _, own, _⟩ := hLS.row; exact (own.lt g rfl).2
      have hcap' : l.length + f.length ≤ cap' ∧ cap' ≤ 9223372036854775807 := by
        obtain ⟨_, _, _, _, own, _⟩ := hLS.row
        rcases own.2 with ⟨hq, _⟩ | ⟨g0, cap0, cur, hq, hbg, hg, hnc, hcm, _⟩
        · cases hq
        · cases hq; exact ⟨hnc, by simpa [maxLen] using hcm⟩
      have hLH : Hid _ := hLS
      have hKI : Hid ((k : Int) - 1 = (i : Int) ∧ k = i + 1) := ⟨hiI, by omega⟩
      have hS : Hid (f[i]? = some s) := hs
      have hlf : i < f.length := by omega
      obtain ⟨n, hn'⟩ : ∃ n, n = l.length + f.length := ⟨_, rfl⟩
      have hNN : Hid (n = l.length + f.length) := hn'
      have hen : e ≤ n := by omega
      have hin : e + i < n := by omega
      have hn2 : n ≤ 2199023255552 := by omega
      rw [hiI]
      rw [← hn'] at m0 hcap' ⊢
      have hcap1 := hcap'.1
      have hHr : Hid _ := hH.out
      have hfg : fb ≠ g := by
        rcases hat with e | e
        · intro e'; exact hfo (by rw [e, e'])
        · omega
      clear hLS hi hiI hs hfb hfl hn hcap' hn' hf hfr hd h0 hkp hkf he hH hR1 own1 gr1 c1 f1 c0 f0 hat hne
      have hi0 : (0 : Int) ≤ (i : Int) := by omega
      have hOS : Hid _ := find_any wr.heap.size B (.slice (some ⟨g, 0, none⟩) e cap') (l.take e) s.t (wr.alloc (.cells #[.slice (some ⟨g, 0, none⟩) e cap'] 44)) (by
        have hr0 := hHr.out.hr
        obtain ⟨mid, rest, hm, hlen, own, _⟩ := hLH.out.row
        have hte : (l.take e).length = e := by rw [List.length_take]; have := hLH.out.he; omega
        have own2 := own_take own hlen (by rw [← hNN.out]; exact hen : e ≤ l.length + f.length)
        rw [List.append_assoc, List.take_append_of_le_length (by omega), List.take_of_length_le (by omega)] at own2
        refine ⟨by simp [go_sem], frozen_new _ _ _ _, Or.inl ?_, by simp [Value.ownBlock]; omega, by simp, by omega, fun y hy => hHr.out.hk y (List.mem_of_mem_take hy), List.Pairwise.sublist (List.take_sublist _ _) hr0, by omega⟩
        rw [hte]
        exact own2.alloc _)
      have hpl : ahd (l.take e) s.t ≤ e := by
        have := ahd_le (l.take e) s.t
        rw [List.length_take] at this; omega
      obtain ⟨p, hp⟩ : ∃ p, p = ahd (l.take e) s.t := ⟨_, rfl⟩
      have hP : Hid (p = ahd (l.take e) s.t) := hp
      rw [← hp] at hOS hpl
      clear hp
      go_wp2_with fail
      refine Calls.mono hOS.out ?_
      rintro e3 w2 ⟨rfl, hB2⟩
      have hB2' := alloc_below hB2
      have m0' := (hB2'.cell (p := ⟨N, 0, none⟩) mN).trans m0
      have x1' := (hB2'.cell (p := ⟨fb, fo + i * 3, none⟩) hfw).trans x1
      have x2' := (hB2'.cell (p := ⟨fb, fo + i * 3 + 1, none⟩) hfw).trans x2
      have x3' := (hB2'.cell (p := ⟨fb, fo + i * 3 + 2, none⟩) hfw).trans x3
      clear hB2 hOS m0 x1 x2 x3
      go_wp2_with fail
      obtain ⟨mid, rest, hm, hlen, own0, heq⟩ := hLH.out.row
      have own2 : w2.ownsRow B 37 3 (.slice (some ⟨g, 0, none⟩) (l.take e ++ mid ++ rest).length cap') (l.take e ++ mid ++ rest).length (encL (l.take e ++ mid ++ rest)) := by
        rw [hlen]
        refine ⟨own0.1, ?_⟩
        rcases own0.2 with ⟨hq, _⟩ | ⟨g0, cap0, cur, hq, hbg, hg, rs⟩
        · cases hq
        cases hq
        exact Or.inr ⟨g, cap', cur, rfl, hbg, by rw [hB2'.block g hgl]; exact hg, rs⟩
      have hlenH : Hid ((l.take e ++ mid ++ rest).length = n) := by rw [hNN.out]; exact hlen
      have hmH : Hid (mid.length = i + 1) := by rw [← hKI.out.2]; exact hm
      have heqH : Hid _ := heq
      have own2H : Hid _ := own2
      clear own0 hm hlen heq own2
      obtain ⟨q, hq⟩ : ∃ q : Nat, q = p + i := ⟨_, rfl⟩
      obtain ⟨j, hj⟩ : ∃ j : Nat, j = p + i + 1 := ⟨_, rfl⟩
      have hqH : Hid (q = p + i ∧ j = p + i + 1) := ⟨hq, hj⟩
      have hw1 : IntKind.i64.wrap ((p : Int) + (i : Int)) = (q : Int) := by rw [IntWalk.i64_in _ (by omega)]; omega
      have hw2 : IntKind.i64.wrap ((q : Int) + 1) = (j : Int) := by rw [IntWalk.i64_in _ (by omega)]; omega
      have q1 : (j : Int) ≤ (n : Int) := by omega
      have q2 : (0 : Int) ≤ (j : Int) := by omega
      have q3 : (p : Int) ≤ (e : Int) := by omega
      have q4 : (0 : Int) ≤ (p : Int) := by omega
      have q5 : (e : Int) ≤ (cap' : Int) := by omega
      have q6 : (n : Int) ≤ (cap' : Int) := by omega
      have q7 : ¬ cap' = p := by omega
      have S5 : w2.cell? ⟨N, 0, none⟩ = some (.slice (some ⟨g, 0, none⟩) n cap') := m0'
      rcases Nat.lt_or_ge p e with hpe | hpe
      · have q8 : ¬ cap' = j := by omega
        obtain ⟨w3, hr3, own3, gr3⟩ := copy_row w2.drew B g cap' (l.take e ++ mid ++ rest) own2H.out j p (e - p) (n - j) (cap' - j) (cap' - p) (by have := hlenH.out; omega) (by have := hlenH.out; omega) (by omega)
        have hr3H : Hid _ := hr3
        have hNw2 : N < w2.heap.size := Nat.lt_of_lt_of_le mN hB2'.size
        have m3 : w3.cell? ⟨N, 0, none⟩ = some (.slice (some ⟨g, 0, none⟩) n cap') := (gr3.cell_far ⟨N, 0, none⟩ hNw2 (by simp; omega)).trans m0'
        have hgr : Hid _ := gr3
        have hown : Hid _ := own3
        clear hr3 hq hj gr3 own3
        go_region_held3 (fun w' => w'.cell? ⟨N, 0, none⟩ = some (.slice (some ⟨g, 0, none⟩) n cap')) (first | assumption)
          (first
            | (refine step_copy_run rfl (.tmp 54) (.tmp 61) 22 rfl _ _ _ _ rfl rfl hr3H.out ?_))
        have hF3 : Hid (∀ j, j < w2.heap.size → j ≠ g → w3.heap[j]? = w2.heap[j]?) := (fun j hj hg => hgr.out.block j hj (by simpa using hg))
        have hMl : ((l.take e ++ mid ++ rest).take j ++ ((l.take e ++ mid ++ rest).drop p).take (e - p) ++ (l.take e ++ mid ++ rest).drop (j + (e - p))).length = n := by
          rw [List.length_append, List.length_append, List.length_take, List.length_take, List.length_drop, List.length_drop]
          have := hlenH.out; have := hqH.out; omega
        obtain ⟨M2, hM2⟩ : ∃ M2, M2 = (l.take e ++ mid ++ rest).take j ++ ((l.take e ++ mid ++ rest).drop p).take (e - p) ++ (l.take e ++ mid ++ rest).drop (j + (e - p)) := ⟨_, rfl⟩
        have own3 : w3.ownsRow B 37 3 (.slice (some ⟨g, 0, none⟩) n cap') n (encL M2) := by
          have h3 := (show World.ownsRow _ _ _ _ _ _ _ from hown.out)
          rw [hlenH.out] at h3
          rw [hM2]; exact h3
        rw [← hM2] at hMl
        have hM2H : Hid (M2 = _) := hM2
        clear hM2
        have hqn : q < n := by have := hqH.out; omega
        obtain ⟨y, hy⟩ : ∃ y, M2[q]? = some y := ⟨_, List.getElem?_eq_getElem (by omega)⟩
        obtain ⟨y1, y2, y3⟩ := encL_get M2 q y hy
        have d1 := (own3.cellAt (q * 3) (by omega)).trans y1
        have d2 := (own3.cellAt (q * 3 + 1) (by omega)).trans y2
        have d3 := (own3.cellAt (q * 3 + 2) (by omega)).trans y3
        have f1 := own3.frozenAt (q * 3)
        have f2 := own3.frozenAt (q * 3 + 1)
        have f3 := own3.frozenAt (q * 3 + 2)
        have hfw2 : fb < w2.heap.size := Nat.lt_of_lt_of_le hfw hB2'.size
        have hNw2' : N < w2.heap.size := Nat.lt_of_lt_of_le mN hB2'.size
        have z0 : w3.cell? ⟨N, 0, none⟩ = some (.slice (some ⟨g, 0, none⟩) n cap') := by rw [World.cell?_of_block (w := w2) (hF3.out N hNw2' (fun e => hgN e.symm))]; exact m0'
        have z1 : w3.cell? ⟨fb, fo + i * 3, none⟩ = some (.int .i64 s.t) := by rw [World.cell?_of_block (w := w2) (hF3.out fb hfw2 hfg)]; exact x1'
        have z2 : w3.cell? ⟨fb, fo + i * 3 + 1, none⟩ = some (.int .u8 (s.k : Int)) := by rw [World.cell?_of_block (w := w2) (hF3.out fb hfw2 hfg)]; exact x2'
        have z3 : w3.cell? ⟨fb, fo + i * 3 + 2, none⟩ = some (.int .i64 s.x) := by rw [World.cell?_of_block (w := w2) (hF3.out fb hfw2 hfg)]; exact x3'
        have own4 : Hid _ := own_set3 own3 (i := q) (by omega) s
        have hq0 : (0 : Int) ≤ (q : Int) := by omega
        have hqn2 : (q : Int) < (n : Int) := by omega
        have hif : (i : Int) < (f.length : Int) := by omega
        clear hy y1 y2 y3
        go_wp2_with fail
        go_region
        go_wp2_with fail
        go_round
        case measure => simp only [intOf]; omega
        case rel =>
          refine ⟨i, p, rfl, rfl, ?_⟩
          have hn3 := hNN.out
          refine hLH.out.next hKI.out.2 hS.out hP.out hB2' hgN (mid := mid) (rest := rest) hmH.out (by rw [← hn3]; exact hlenH.out) heqH.out ?_ ?_ ?_
          · rw [← hn3]
            obtain ⟨e1, e2⟩ := hqH.out
            rw [← e2, ← e1, ← hM2H.out]
            exact own4.out
          · exact (((⟨hgr.out.os, hgr.out.tape, hgr.out.output, hgr.out.size, fun k hk => absurd hk (Nat.not_lt_zero _)⟩ : Below 0 w2 w3).setCell (p := ⟨g, q * 3, none⟩) (Nat.zero_le _) _).setCell (p := ⟨g, q * 3 + 1, none⟩) (Nat.zero_le _) _).setCell (p := ⟨g, q * 3 + 2, none⟩) (Nat.zero_le _) _ |>.drew
          · intro j' hj' hg'
            have := hF3.out j' hj' hg'
            rw [← this]
            show (((w3.setCell ⟨g, q * 3, none⟩ (.int .i64 s.t)).setCell ⟨g, q * 3 + 1, none⟩ (.int .u8 (s.k : Int))).setCell ⟨g, q * 3 + 2, none⟩ (.int .i64 s.x)).drew.heap[j']? = w3.heap[j']?
            rw [heap_drew, heap_setCell_other _ ⟨g, q * 3 + 2, none⟩ j' _ hg', heap_setCell_other _ ⟨g, q * 3 + 1, none⟩ j' _ hg', heap_setCell_other _ ⟨g, q * 3, none⟩ j' _ hg']
      · obtain rfl : p = e := by omega
        have hr3 := copy_zero w2.drew
        have hnp : p - p = 0 := by omega
        have hr3H : Hid _ := hr3
        clear hr3 hq hj
        rcases Nat.decEq cap' j with q8 | q8
        · go_region_held3 (fun w' => w'.cell? ⟨N, 0, none⟩ = some (.slice (some ⟨g, 0, none⟩) n cap')) (first | assumption)
            (first
              | (refine step_copy_run rfl (.tmp 54) (.tmp 61) 22 rfl _ _ _ _ rfl rfl (hr3H.out (some ⟨g, j * 3, none⟩) (some ⟨g, p * 3, none⟩) _ _ _) ?_))
          generalize hW3 : w2.drew = w3
          have hWH : Hid (w2.drew = w3) := hW3
          have hB23 : Below 0 w2 w3 := by rw [← hW3]; exact (Below.refl 0 w2).drew
          clear hW3 S5
          have hF3 : Hid (∀ j, j < w2.heap.size → j ≠ g → w3.heap[j]? = w2.heap[j]?) := (fun j hj hg => by rw [← hWH.out]; rfl)
          have hMl : ((l.take p ++ mid ++ rest).take j ++ ((l.take p ++ mid ++ rest).drop p).take (p - p) ++ (l.take p ++ mid ++ rest).drop (j + (p - p))).length = n := by
            rw [List.length_append, List.length_append, List.length_take, List.length_take, List.length_drop, List.length_drop]
            have := hlenH.out; have := hqH.out; omega
          obtain ⟨M2, hM2⟩ : ∃ M2, M2 = (l.take p ++ mid ++ rest).take j ++ ((l.take p ++ mid ++ rest).drop p).take (p - p) ++ (l.take p ++ mid ++ rest).drop (j + (p - p)) := ⟨_, rfl⟩
          have own3 : w3.ownsRow B 37 3 (.slice (some ⟨g, 0, none⟩) n cap') n (encL M2) := by
            have h3 := (show w3.ownsRow B 37 3 (.slice (some ⟨g, 0, none⟩) (l.take p ++ mid ++ rest).length cap') (l.take p ++ mid ++ rest).length (encL ((l.take p ++ mid ++ rest).take j ++ ((l.take p ++ mid ++ rest).drop p).take (p - p) ++ (l.take p ++ mid ++ rest).drop (j + (p - p)))) from by rw [← hWH.out, hnp, List.take_zero, List.append_nil, Nat.add_zero, List.take_append_drop]; exact own2H.out)
            rw [hlenH.out] at h3
            rw [hM2]; exact h3
          rw [← hM2] at hMl
          have hM2H : Hid (M2 = _) := hM2
          clear hM2
          have hqn : q < n := by have := hqH.out; omega
          obtain ⟨y, hy⟩ : ∃ y, M2[q]? = some y := ⟨_, List.getElem?_eq_getElem (by omega)⟩
          obtain ⟨y1, y2, y3⟩ := encL_get M2 q y hy
          have d1 := (own3.cellAt (q * 3) (by omega)).trans y1
          have d2 := (own3.cellAt (q * 3 + 1) (by omega)).trans y2
          have d3 := (own3.cellAt (q * 3 + 2) (by omega)).trans y3
          have f1 := own3.frozenAt (q * 3)
          have f2 := own3.frozenAt (q * 3 + 1)
          have f3 := own3.frozenAt (q * 3 + 2)
          have hfw2 : fb < w2.heap.size := Nat.lt_of_lt_of_le hfw hB2'.size
          have hNw2' : N < w2.heap.size := Nat.lt_of_lt_of_le mN hB2'.size
          have z0 : w3.cell? ⟨N, 0, none⟩ = some (.slice (some ⟨g, 0, none⟩) n cap') := by rw [World.cell?_of_block (w := w2) (hF3.out N hNw2' (fun e => hgN e.symm))]; exact m0'
          have z1 : w3.cell? ⟨fb, fo + i * 3, none⟩ = some (.int .i64 s.t) := by rw [World.cell?_of_block (w := w2) (hF3.out fb hfw2 hfg)]; exact x1'
          have z2 : w3.cell? ⟨fb, fo + i * 3 + 1, none⟩ = some (.int .u8 (s.k : Int)) := by rw [World.cell?_of_block (w := w2) (hF3.out fb hfw2 hfg)]; exact x2'
          have z3 : w3.cell? ⟨fb, fo + i * 3 + 2, none⟩ = some (.int .i64 s.x) := by rw [World.cell?_of_block (w := w2) (hF3.out fb hfw2 hfg)]; exact x3'
          have own4 : Hid _ := own_set3 own3 (i := q) (by omega) s
          have hq0 : (0 : Int) ≤ (q : Int) := by omega
          have hqn2 : (q : Int) < (n : Int) := by omega
          have hif : (i : Int) < (f.length : Int) := by omega
          clear hy y1 y2 y3
          go_wp2_with fail
          go_region
          go_wp2_with fail
          go_round
          case measure => simp only [intOf]; omega
          case rel =>
            refine ⟨i, p, rfl, rfl, ?_⟩
            have hn3 := hNN.out
            refine hLH.out.next hKI.out.2 hS.out hP.out hB2' hgN (mid := mid) (rest := rest) hmH.out (by rw [← hn3]; exact hlenH.out) heqH.out ?_ ?_ ?_
            · rw [← hn3]
              obtain ⟨e1, e2⟩ := hqH.out
              rw [← e2, ← e1, ← hM2H.out]
              exact own4.out
            · exact ((hB23.setCell (p := ⟨g, q * 3, none⟩) (Nat.zero_le _) _).setCell (p := ⟨g, q * 3 + 1, none⟩) (Nat.zero_le _) _).setCell (p := ⟨g, q * 3 + 2, none⟩) (Nat.zero_le _) _ |>.drew
            · intro j' hj' hg'
              have := hF3.out j' hj' hg'
              rw [← this]
              show (((w3.setCell ⟨g, q * 3, none⟩ (.int .i64 s.t)).setCell ⟨g, q * 3 + 1, none⟩ (.int .u8 (s.k : Int))).setCell ⟨g, q * 3 + 2, none⟩ (.int .i64 s.x)).drew.heap[j']? = w3.heap[j']?
              rw [heap_drew, heap_setCell_other _ ⟨g, q * 3 + 2, none⟩ j' _ hg', heap_setCell_other _ ⟨g, q * 3 + 1, none⟩ j' _ hg', heap_setCell_other _ ⟨g, q * 3, none⟩ j' _ hg']
        · subst q8
          go_region_held3 (fun w' => w'.cell? ⟨N, 0, none⟩ = some (.slice (some ⟨g, 0, none⟩) n cap')) (first | assumption)
            (first
              | (refine step_copy_run rfl (.tmp 54) (.tmp 61) 22 rfl _ _ _ _ rfl rfl (hr3H.out (some ⟨g, 0, none⟩) (some ⟨g, p * 3, none⟩) _ _ _) ?_))
          generalize hW3 : w2.drew = w3
          have hWH : Hid (w2.drew = w3) := hW3
          have hB23 : Below 0 w2 w3 := by rw [← hW3]; exact (Below.refl 0 w2).drew
          clear hW3 S5
          have hF3 : Hid (∀ j, j < w2.heap.size → j ≠ g → w3.heap[j]? = w2.heap[j]?) := (fun j hj hg => by rw [← hWH.out]; rfl)
          have hMl : ((l.take p ++ mid ++ rest).take cap' ++ ((l.take p ++ mid ++ rest).drop p).take (p - p) ++ (l.take p ++ mid ++ rest).drop (cap' + (p - p))).length = n := by
            rw [List.length_append, List.length_append, List.length_take, List.length_take, List.length_drop, List.length_drop]
            have := hlenH.out; have := hqH.out; omega
          obtain ⟨M2, hM2⟩ : ∃ M2, M2 = (l.take p ++ mid ++ rest).take cap' ++ ((l.take p ++ mid ++ rest).drop p).take (p - p) ++ (l.take p ++ mid ++ rest).drop (cap' + (p - p)) := ⟨_, rfl⟩
          have own3 : w3.ownsRow B 37 3 (.slice (some ⟨g, 0, none⟩) n cap') n (encL M2) := by
            have h3 := (show w3.ownsRow B 37 3 (.slice (some ⟨g, 0, none⟩) (l.take p ++ mid ++ rest).length cap') (l.take p ++ mid ++ rest).length (encL ((l.take p ++ mid ++ rest).take cap' ++ ((l.take p ++ mid ++ rest).drop p).take (p - p) ++ (l.take p ++ mid ++ rest).drop (cap' + (p - p)))) from by rw [← hWH.out, hnp, List.take_zero, List.append_nil, Nat.add_zero, List.take_append_drop]; exact own2H.out)
            rw [hlenH.out] at h3
            rw [hM2]; exact h3
          rw [← hM2] at hMl
          have hM2H : Hid (M2 = _) := hM2
          clear hM2
          have hqn : q < n := by have := hqH.out; omega
          obtain ⟨y, hy⟩ : ∃ y, M2[q]? = some y := ⟨_, List.getElem?_eq_getElem (by omega)⟩
          obtain ⟨y1, y2, y3⟩ := encL_get M2 q y hy
          have d1 := (own3.cellAt (q * 3) (by omega)).trans y1
          have d2 := (own3.cellAt (q * 3 + 1) (by omega)).trans y2
          have d3 := (own3.cellAt (q * 3 + 2) (by omega)).trans y3
          have f1 := own3.frozenAt (q * 3)
          have f2 := own3.frozenAt (q * 3 + 1)
          have f3 := own3.frozenAt (q * 3 + 2)
          have hfw2 : fb < w2.heap.size := Nat.lt_of_lt_of_le hfw hB2'.size
          have hNw2' : N < w2.heap.size := Nat.lt_of_lt_of_le mN hB2'.size
          have z0 : w3.cell? ⟨N, 0, none⟩ = some (.slice (some ⟨g, 0, none⟩) n cap') := by rw [World.cell?_of_block (w := w2) (hF3.out N hNw2' (fun e => hgN e.symm))]; exact m0'
          have z1 : w3.cell? ⟨fb, fo + i * 3, none⟩ = some (.int .i64 s.t) := by rw [World.cell?_of_block (w := w2) (hF3.out fb hfw2 hfg)]; exact x1'
          have z2 : w3.cell? ⟨fb, fo + i * 3 + 1, none⟩ = some (.int .u8 (s.k : Int)) := by rw [World.cell?_of_block (w := w2) (hF3.out fb hfw2 hfg)]; exact x2'
          have z3 : w3.cell? ⟨fb, fo + i * 3 + 2, none⟩ = some (.int .i64 s.x) := by rw [World.cell?_of_block (w := w2) (hF3.out fb hfw2 hfg)]; exact x3'
          have own4 : Hid _ := own_set3 own3 (i := q) (by omega) s
          have hq0 : (0 : Int) ≤ (q : Int) := by omega
          have hqn2 : (q : Int) < (n : Int) := by omega
          have hif : (i : Int) < (f.length : Int) := by omega
          clear hy y1 y2 y3
          go_wp2_with fail
          go_region
          go_wp2_with fail
          go_round
          case measure => simp only [intOf]; omega
          case rel =>
            refine ⟨i, p, rfl, rfl, ?_⟩
            have hn3 := hNN.out
            refine hLH.out.next hKI.out.2 hS.out hP.out hB2' hgN (mid := mid) (rest := rest) hmH.out (by rw [← hn3]; exact hlenH.out) heqH.out ?_ ?_ ?_
            · rw [← hn3]
              obtain ⟨e1, e2⟩ := hqH.out
              rw [← e2, ← e1, ← hM2H.out]
              exact own4.out
            · exact ((hB23.setCell (p := ⟨g, q * 3, none⟩) (Nat.zero_le _) _).setCell (p := ⟨g, q * 3 + 1, none⟩) (Nat.zero_le _) _).setCell (p := ⟨g, q * 3 + 2, none⟩) (Nat.zero_le _) _ |>.drew
            · intro j' hj' hg'
              have := hF3.out j' hj' hg'
              rw [← this]
              show (((w3.setCell ⟨g, q * 3, none⟩ (.int .i64 s.t)).setCell ⟨g, q * 3 + 1, none⟩ (.int .u8 (s.k : Int))).setCell ⟨g, q * 3 + 2, none⟩ (.int .i64 s.x)).drew.heap[j']? = w3.heap[j']?
              rw [heap_drew, heap_setCell_other _ ⟨g, q * 3 + 2, none⟩ j' _ hg', heap_setCell_other _ ⟨g, q * 3 + 1, none⟩ j' _ hg', heap_setCell_other _ ⟨g, q * 3, none⟩ j' _ hg']
end Go.Proofs.YtfgfeipoddnekaaDoor.Ser
