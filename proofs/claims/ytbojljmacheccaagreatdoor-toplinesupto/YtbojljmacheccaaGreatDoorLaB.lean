
import Derived.Test.YtbojljmacheccaaGreatDoorKyD
import Derived.Test.YtbojljmacheccaaGreatDoorBase
import Derived.Lib.IndexAny
import Derived.RangeFuncNested
import Derived.RangeFuncBound
import Derived.RangeFuncCalls
import Derived.RangeFuncLeaves
import Derived.Shelf.Abstract
import Derived.Shelf.RegionOpen
import Derived.OwnWalkIn
import Derived.TacticsInMore
import Derived.LoopNIn
import Derived.LoopIn
import Derived.Test.YtbojljmacheccaaGreatDoorLaA
import Derived.RangeFuncBox
namespace Go.Proofs.YtbojljmacheccaaGreatDoor
open Go.RowKit Go.Shelf
set_option linter.unusedVariables false
set_option linter.unusedSimpArgs false
def columnB (s : ByteArray) : Bool := !(s.toList == [116, 105, 109, 101]) && cleanB s 64
def oddB (t : TagP) : Bool := !columnB t.1 || !cleanB t.2 256
def risB : List TagP → Bool
  | a :: b :: r => decide (strC a.1 b.1 < 0) && risB (b :: r)
  | _ => true
def tagsB (l : List TagP) : Bool := decide (l.length ≤ 8) && risB l && !l.any oddB
set_option maxRecDepth 100000 in
theorem column_any (s : ByteArray) (w : World) (hT : UT w) : Calls Tryz.prog 91 #[.string s] w fun e w' => e = .returned (.bool (columnB s)) ∧ Below w.heap.size w w' := by
  have c : Hid (Calls Tryz.prog 130 #[.string s, .int .i64 64] w fun e w' => e = .returned (.bool (cleanB s 64)) ∧ Below w.heap.size w w') := clean_any s 64 w (by omega) hT
  unfold columnB
  generalize cleanB s 64 = v at c ⊢
  cases h : (s.toList == [116, 105, 109, 101]) with
  | true =>
    have h' : s.toList = [116, 105, 109, 101] := by simpa using h
    go_enter Tryz.func91, Tryz.ntmps91
    go_wp2_with fail
    go_ret
    exact ⟨by simp [h'], Below.refl _ _⟩
  | false =>
    have h' : ¬ s.toList = [116, 105, 109, 101] := by simpa using h
    go_enter Tryz.func91, Tryz.ntmps91
    go_wp2_with (go_at_call 130; with_reducible refine Calls.mono c.out ?_; rintro e w' ⟨rfl, hb⟩)
    go_ret
    exact ⟨by simp, hb⟩
set_option maxRecDepth 100000 in
theorem unless_true (e : Int) (w : World) : Calls Tryz.prog 90 #[.bool true, .int .i64 e] w fun ev w' => ev = .returned .nilIface ∧ Below w.heap.size w w' := by
  go_enter Tryz.func90, Tryz.ntmps90
  go_wp2_with fail
  go_ret
  exact ⟨rfl, Below.refl _ _⟩
set_option maxRecDepth 100000 in
theorem unless_false (e : Int) (he : (e == 0) = false) (w : World) : Calls Tryz.prog 90 #[.bool false, .int .i64 e] w fun ev w' => ev = .returned (.iface 33 (.int .i64 e)) ∧ Below w.heap.size w w' := by
  have c : Hid (Calls Tryz.prog 31 #[.int .i64 e] w fun ev w' => ev = .returned (.iface 33 (.int .i64 e)) ∧ w' = w) := new_any e he w
  clear he
  go_enter Tryz.func90, Tryz.ntmps90
  go_wp2_with (go_at_call 31; with_reducible refine Calls.mono c.out ?_; rintro ev w' ⟨rfl, hw⟩)
  go_ret
  exact ⟨rfl, by first | exact Below.refl _ _ | (rw [hw]; exact Below.refl _ _)⟩
/-- an error, or none. -/
def erV (ok : Bool) (e : Int) : Value := if ok then .nilIface else .iface 33 (.int .i64 e)
theorem unless_any (ok : Bool) (e : Int) (he : (e == 0) = false) (w : World) : Calls Tryz.prog 90 #[.bool ok, .int .i64 e] w fun ev w' => ev = .returned (erV ok e) ∧ Below w.heap.size w w' := by
  cases ok with
  | true => exact unless_true e w
  | false => exact unless_false e he w
set_option maxRecDepth 100000 in
theorem name_any (s : ByteArray) (w : World) (hT : UT w) : Calls Tryz.prog 88 #[.string s] w fun e w' => e = .returned (erV (cleanB s 64) 50) ∧ Below w.heap.size w w' := by
  have c : Hid (Calls Tryz.prog 130 #[.string s, .int .i64 64] w fun e w' => e = .returned (.bool (cleanB s 64)) ∧ Below w.heap.size w w') := clean_any s 64 w (by omega) hT
  generalize cleanB s 64 = v at c ⊢
  have u : Hid (∀ W, Calls Tryz.prog 90 #[.bool v, .int .i64 50] W fun ev w' => ev = .returned (erV v 50) ∧ Below W.heap.size W w') := fun W => unless_any v 50 (by decide) W
  generalize erV v 50 = r at u ⊢
  go_enter Tryz.func88, Tryz.ntmps88
  go_wp2_with (first | (go_at_call 130; with_reducible refine Calls.mono c.out ?_; rintro e w' ⟨rfl, hb⟩) | (go_at_call 90; with_reducible refine Calls.mono (u.out _) ?_; rintro e w2 ⟨rfl, hb2⟩))
  go_ret
  exact ⟨rfl, hb.trans (hb2.mono hb.size)⟩
set_option maxRecDepth 100000 in
theorem odd_any (a b : ByteArray) (w : World) (hT : UT w) : Calls Tryz.prog 133 #[.agg #[.string a, .string b]] w fun e w' => e = .returned (.bool (oddB (a, b))) ∧ Below w.heap.size w w' := by
  have c : Hid (∀ o, Calls Tryz.prog 91 #[.string a] (w.alloc o) fun e w' => e = .returned (.bool (columnB a)) ∧ UT w' ∧ w'.cell? ⟨w.heap.size, 1, none⟩ = (w.alloc o).cell? ⟨w.heap.size, 1, none⟩ ∧ Below w.heap.size w w') := fun o => (column_any a _ (hT.below ((Below.refl _ w).alloc (Nat.le_refl _) o) (Nat.le_refl _))).mono fun e w' ⟨h1, h2⟩ => ⟨h1, (hT.below ((Below.refl _ w).alloc (Nat.le_refl _) o) (Nat.le_refl _)).below h2 (Nat.le_refl _), h2.cell (p := ⟨w.heap.size, 1, none⟩) (by simp), ((Below.refl _ w).alloc (Nat.le_refl _) o).trans (h2.mono (by simp))⟩
  have d : Hid (∀ W, UT W → Calls Tryz.prog 130 #[.string b, .int .i64 256] W fun e w' => e = .returned (.bool (cleanB b 256)) ∧ Below W.heap.size W w') := fun W h => clean_any b 256 W (by omega) h
  unfold oddB
  simp only
  generalize columnB a = p at c ⊢
  generalize cleanB b 256 = q at d ⊢
  have hH : Hid (UT w) := hT
  clear hT
  cases p with
  | true =>
    go_enter Tryz.func133, Tryz.ntmps133
    go_wp2_with (first | (go_at_call 91; with_reducible refine Calls.mono (c.out _) ?_; rintro e w' ⟨rfl, hu, hc, hb⟩; simp [go_sem] at hc) | (go_at_call 130; with_reducible refine Calls.mono (d.out _ hu) ?_; rintro e w2 ⟨rfl, hb2⟩))
    go_ret
    exact ⟨rfl, hb.trans (hb2.mono hb.size)⟩
  | false =>
    go_enter Tryz.func133, Tryz.ntmps133
    go_wp2_with (first | (go_at_call 91; with_reducible refine Calls.mono (c.out _) ?_; rintro e w' ⟨rfl, hu, hc, hb⟩; simp [go_sem] at hc) | (go_at_call 130; with_reducible refine Calls.mono (d.out _ hu) ?_; rintro e w2 ⟨rfl, hb2⟩))
    go_ret
    exact ⟨rfl, hb⟩
end Go.Proofs.YtbojljmacheccaaGreatDoor

namespace Go.Proofs.YtbojljmacheccaaGreatDoor
open Go.RowKit Go.Shelf
set_option linter.unusedVariables false
set_option linter.unusedSimpArgs false
theorem risB_step {l : List TagP} {k : Nat} {t u : TagP} (ht : l[k]? = some t) (hu : l[k + 1]? = some u) : risB (l.drop k) = (decide (strC t.1 u.1 < 0) && risB (l.drop (k + 1))) := by
  obtain ⟨h1, rfl⟩ := List.getElem?_eq_some_iff.1 ht
  obtain ⟨h2, rfl⟩ := List.getElem?_eq_some_iff.1 hu
  rw [List.drop_eq_getElem_cons h1, List.drop_eq_getElem_cons h2]
  rfl
theorem risB_end {l : List TagP} {k : Nat} (h : l.length ≤ k + 1) : risB (l.drop k) = true := by
  by_cases h1 : l.length ≤ k
  · rw [List.drop_eq_nil_of_le h1]; rfl
  · rw [List.drop_eq_getElem_cons (by omega), List.drop_eq_nil_of_le h]; rfl
set_option maxRecDepth 100000 in
set_option maxHeartbeats 4000000 in
theorem rising_any (a : Option Addr) (l : List TagP) (c : Nat) (w : World) (hl : l.length ≤ 9223372036854775807) (ha : TgIn w a l) :
    Calls Tryz.prog 131 #[.slice a l.length c] w fun e w' => e = .returned (.bool (risB l)) ∧ Below w.heap.size w w' := by
  have hA : Hid (TgIn w a l) := ha
  clear ha
  obtain ⟨R, hR⟩ : ∃ R, risB l = R := ⟨_, rfl⟩
  have hR0 : Hid (risB (l.drop 0) = R) := hR
  rw [hR]
  clear hR
  obtain ⟨n, hn⟩ : ∃ n, l.length = n := ⟨_, rfl⟩
  have hN : Hid (l.length = n) := hn
  rw [hn] at hl ⊢
  clear hn
  go_enter Tryz.func131, Tryz.ntmps131
  go_wp2_with fail
  go_loopw [3] (fun i wr => ∃ k : Nat, i = .int .i64 ((k : Int) + 1) ∧ (k + 1 ≤ n ∨ k = 0) ∧ Hid (risB (l.drop k) = R) ∧ Below w.heap.size w wr) (fun i _ => n - (intOf i).toNat)
  case atStart => exact ⟨0, rfl, by omega, hR0, Below.refl _ _⟩
  case round =>
    obtain ⟨k, rfl, hkn, hI, hB⟩ := hrel
    by_cases hk : k + 1 < n
    · have hkI : (k : Int) + 1 < (n : Int) := by omega
      have hk1 : IntKind.i64.wrap ((k : Int) + 1 + 1) = (k : Int) + 1 + 1 := IntWalk.i64_in _ (by omega)
      have hk2 : IntKind.i64.wrap ((k : Int) + 1 - 1) = (k : Int) := by rw [show (k : Int) + 1 - 1 = k by omega]; exact IntWalk.i64_in _ (by omega)
      obtain ⟨t, ht⟩ : ∃ t, l[k]? = some t := ⟨_, List.getElem?_eq_getElem (by have := hN.out; omega)⟩
      obtain ⟨u, hu⟩ : ∃ u, l[k + 1]? = some u := ⟨_, List.getElem?_eq_getElem (by have := hN.out; omega)⟩
      obtain ⟨b1, o1, rfl, hb1, t1, t2⟩ := hA.out.at hB ht
      obtain ⟨b2, o2, e2, hb2, u1, u2⟩ := hA.out.at hB hu
      obtain ⟨rfl, rfl⟩ : b2 = b1 ∧ o2 = o1 := by cases e2; exact ⟨rfl, rfl⟩
      have hst := risB_step ht hu
      rw [hI.out, ← less_str] at hst
      have hst2 : Hid (R = (Op.bytesLess t.1.toList u.1.toList && risB (l.drop (k + 1)))) := hst
      clear hst ht hu e2 t2 u2
      cases hless : Op.bytesLess t.1.toList u.1.toList with
      | true =>
        have hz : Hid (risB (l.drop (k + 1)) = R) := by have := hst2.out; rw [hless] at this; exact this.symm
        clear hst2
        go_wp2_with fail
        go_quiet (fail)
        go_wp2_with fail
        go_round
        case measure => simp only [intOf]; omega
        case rel => exact ⟨k + 1, by simp, by omega, hz, bdrewN hB _⟩
      | false =>
        have hz : Hid (R = false) := by have := hst2.out; rw [hless] at this; exact this
        clear hst2
        go_wp2_with fail
        go_quiet (fail)
        go_wp2_with fail
        go_ret
        exact ⟨by rw [hz.out]; rfl, bdrewN hB _⟩
    · have hkI : ¬ (k : Int) + 1 < (n : Int) := by omega
      have hE : Hid (R = true) := by have := risB_end (l := l) (k := k) (by have := hN.out; omega); rw [hI.out] at this; exact this
      go_wp2_with fail
      go_ret
      exact ⟨by rw [hE.out]; rfl, hB⟩
theorem any_drop_step {l : List TagP} {k : Nat} {t : TagP} (ht : l[k]? = some t) : (l.drop k).any oddB = (oddB t || (l.drop (k + 1)).any oddB) := by
  obtain ⟨h1, rfl⟩ := List.getElem?_eq_some_iff.1 ht
  rw [List.drop_eq_getElem_cons h1]
  rfl
set_option maxRecDepth 100000 in
set_option maxHeartbeats 4000000 in
theorem idx_any (a : Option Addr) (l : List TagP) (c : Nat) (w : World) (hl : l.length ≤ 9223372036854775807) (ha : TgIn w a l) (hT : UT w) :
    Calls Tryz.prog 163 #[.slice a l.length c, .func (.func 133) #[] #[]] w fun e w' => ∃ z : Int, e = .returned (.int .i64 z) ∧ decide (0 ≤ z) = l.any oddB ∧ Below w.heap.size w w' := by
  have hA : Hid (TgIn w a l) := ha
  have hU : Hid (UT w) := hT
  clear ha hT
  obtain ⟨R, hR⟩ : ∃ R, l.any oddB = R := ⟨_, rfl⟩
  have hR0 : Hid ((l.drop 0).any oddB = R) := hR
  rw [hR]
  clear hR
  obtain ⟨n, hn⟩ : ∃ n, l.length = n := ⟨_, rfl⟩
  have hN : Hid (l.length = n) := hn
  rw [hn] at hl ⊢
  clear hn
  go_enter Tryz.func163, Tryz.ntmps163
  go_wp2_with fail
  go_loopw [8] (fun i wr => ∃ k : Nat, i = .int .i64 (k : Int) ∧ k ≤ n ∧ Hid ((l.drop k).any oddB = R) ∧ Below w.heap.size w wr) (fun i _ => n - (intOf i).toNat)
  case atStart => exact ⟨0, rfl, by omega, hR0, Below.refl _ _⟩
  case round =>
    obtain ⟨k, rfl, hkn, hI, hB⟩ := hrel
    by_cases hk : k < n
    · have hkI : (k : Int) < (n : Int) := by omega
      obtain ⟨t, ht⟩ : ∃ t, l[k]? = some t := ⟨_, List.getElem?_eq_getElem (by have := hN.out; omega)⟩
      obtain ⟨b1, o1, rfl, hb1, t1, t2⟩ := hA.out.at hB ht
      have hst := any_drop_step ht
      rw [hI.out] at hst
      have hst2 : Hid (R = (oddB t || (l.drop (k + 1)).any oddB)) := hst
      have hC : Hid (Calls Tryz.prog 133 #[.agg #[.string t.1, .string t.2]] wr fun e w' => e = .returned (.bool (oddB t)) ∧ Below wr.heap.size wr w') := odd_any t.1 t.2 wr (hU.out.below hB (Nat.le_refl _))
      clear hst ht
      generalize oddB t = q at hst2 hC
      generalize t.1 = ta at *
      generalize t.2 = tb at *
      cases q with
      | true =>
        have hz : Hid (R = true) := by have := hst2.out; exact this
        clear hst2
        go_wp2_with (refine Calls.mono hC.out ?_; rintro e w' ⟨rfl, hB2⟩)
        go_ret
        exact ⟨(k : Int), rfl, by rw [hz.out]; simp, hB.trans (hB2.mono hB.size)⟩
      | false =>
        have hz : Hid ((l.drop (k + 1)).any oddB = R) := by have := hst2.out; exact this.symm
        clear hst2
        go_wp2_with (refine Calls.mono hC.out ?_; rintro e w' ⟨rfl, hB2⟩)
        go_round
        case measure => simp only [intOf]; omega
        case rel => exact ⟨k + 1, by simp, by omega, hz, hB.trans (hB2.mono hB.size)⟩
    · have hkI : ¬ (k : Int) < (n : Int) := by omega
      have hE : Hid (R = false) := by have h := hI.out; rw [List.drop_eq_nil_of_le (by have := hN.out; omega)] at h; exact h.symm
      go_wp2_with fail
      go_ret
      exact ⟨-1, rfl, by rw [hE.out]; rfl, hB⟩
set_option maxRecDepth 100000 in
theorem cf_any (a : Option Addr) (l : List TagP) (c : Nat) (w : World) (hl : l.length ≤ 9223372036854775807) (ha : TgIn w a l) (hT : UT w) :
    Calls Tryz.prog 132 #[.slice a l.length c, .func (.func 133) #[] #[]] w fun e w' => e = .returned (.bool (l.any oddB)) ∧ Below w.heap.size w w' := by
  have hC : Hid (Calls Tryz.prog 163 #[.slice a l.length c, .func (.func 133) #[] #[]] w fun e w' => ∃ z : Int, e = .returned (.int .i64 z) ∧ decide (0 ≤ z) = l.any oddB ∧ Below w.heap.size w w') := idx_any a l c w hl ha hT
  generalize l.any oddB = R at hC ⊢
  generalize l.length = n at hC hl ⊢
  clear ha hT
  go_enter Tryz.func132, Tryz.ntmps132
  go_wp2_with (go_at_call 163; refine Calls.mono hC.out ?_; rintro e w' ⟨z, rfl, hz, hB⟩; have hzH : Hid (decide (0 ≤ z) = R) := hz; clear hz)
  go_ret
  exact ⟨by rw [← hzH.out]; rfl, hB⟩
set_option maxRecDepth 100000 in
set_option maxHeartbeats 2000000 in
theorem tags_any (a : Option Addr) (l : List TagP) (c : Nat) (w : World) (hl : l.length ≤ 9223372036854775807) (ha : TgIn w a l) (hT : UT w) :
    Calls Tryz.prog 89 #[.slice a l.length c] w fun e w' => e = .returned (erV (tagsB l) 52) ∧ Below w.heap.size w w' := by
  have cR : Hid (Calls Tryz.prog 131 #[.slice a l.length c] w fun e w' => e = .returned (.bool (risB l)) ∧ Below w.heap.size w w') := rising_any a l c w hl ha
  have cC : Hid (∀ W, Below w.heap.size w W → Calls Tryz.prog 132 #[.slice a l.length c, .func (.func 133) #[] #[]] W fun e w' => e = .returned (.bool (l.any oddB)) ∧ Below W.heap.size W w') := fun W hW => cf_any a l c W hl (ha.below hW) (hT.below hW (Nat.le_refl _))
  have cU : Hid (∀ ok W, Calls Tryz.prog 90 #[.bool ok, .int .i64 52] W fun ev w' => ev = .returned (erV ok 52) ∧ Below W.heap.size W w') := fun ok W => unless_any ok 52 (by decide) W
  unfold tagsB
  generalize risB l = r at cR ⊢
  generalize l.any oddB = o at cC ⊢
  generalize l.length = n at cR cC hl ⊢
  clear ha hT
  by_cases h : n ≤ 8
  · have hI : (n : Int) ≤ 8 := by omega
    rw [decide_eq_true h]
    cases r with
    | true =>
      cases o with
      | true =>
        go_enter Tryz.func89, Tryz.ntmps89
        go_wp2_with (first | (go_at_call 131; with_reducible refine Calls.mono cR.out ?_; rintro e w' ⟨rfl, hb⟩) | (go_at_call 132; with_reducible refine Calls.mono (cC.out _ hb) ?_; rintro e w2 ⟨rfl, hb2⟩) | (go_at_call 90; with_reducible refine Calls.mono (cU.out _ _) ?_; rintro e w3 ⟨rfl, hb3⟩))
        go_ret
        have hx := hb.trans (hb2.mono hb.size)
        exact ⟨rfl, hx.trans (hb3.mono hx.size)⟩
      | false =>
        go_enter Tryz.func89, Tryz.ntmps89
        go_wp2_with (first | (go_at_call 131; with_reducible refine Calls.mono cR.out ?_; rintro e w' ⟨rfl, hb⟩) | (go_at_call 132; with_reducible refine Calls.mono (cC.out _ hb) ?_; rintro e w2 ⟨rfl, hb2⟩) | (go_at_call 90; with_reducible refine Calls.mono (cU.out _ _) ?_; rintro e w3 ⟨rfl, hb3⟩))
        go_ret
        have hx := hb.trans (hb2.mono hb.size)
        exact ⟨rfl, hx.trans (hb3.mono hx.size)⟩
    | false =>
      go_enter Tryz.func89, Tryz.ntmps89
      go_wp2_with (first | (go_at_call 131; with_reducible refine Calls.mono cR.out ?_; rintro e w' ⟨rfl, hb⟩) | (go_at_call 90; with_reducible refine Calls.mono (cU.out _ _) ?_; rintro e w3 ⟨rfl, hb3⟩))
      go_ret
      exact ⟨rfl, hb.trans (hb3.mono hb.size)⟩
  · have hI : ¬ (n : Int) ≤ 8 := by omega
    rw [decide_eq_false h]
    go_enter Tryz.func89, Tryz.ntmps89
    go_wp2_with (go_at_call 90; with_reducible refine Calls.mono (cU.out _ _) ?_; rintro e w3 ⟨rfl, hb3⟩)
    go_ret
    exact ⟨rfl, hb3⟩
end Go.Proofs.YtbojljmacheccaaGreatDoor

namespace Go.Proofs.YtbojljmacheccaaGreatDoor
open Go.RowKit Go.Shelf
set_option linter.unusedVariables false
set_option linter.unusedSimpArgs false
/-- what is wrong with a series: the number of the error; 0: nothing. -/
def rightN (s : SerP) : Int := if cleanB s.m 64 then (if tagsB s.t then (if columnB s.f then 0 else 50) else 52) else 50
def erN (n : Int) : Value := if n = 0 then .nilIface else .iface 33 (.int .i64 n)
set_option maxRecDepth 100000 in
set_option maxHeartbeats 2000000 in
theorem right_any (a : Option Addr) (c : Nat) (s : SerP) (w : World) (ha : SerIn w a s) (hT : UT w) :
    Calls Tryz.prog 23 #[.agg #[.string s.m, .slice a s.t.length c, .string s.f]] w fun e w' => e = .returned (erN (rightN s)) ∧ Below w.heap.size w w' := by
  obtain ⟨sm, st, sf⟩ := s
  obtain ⟨ha, hl⟩ := ha
  simp only at ha hl ⊢
  have B1 : ∀ o, Below w.heap.size w (w.alloc o) := fun o => (Below.refl _ w).alloc (Nat.le_refl _) o
  have cN : Hid (Calls Tryz.prog 88 #[.string sm] (w.alloc (.cells #[.string sm, .slice a st.length c, .string sf] 88)) fun e w' => e = .returned (erV (cleanB sm 64) 50) ∧ w'.cell? ⟨w.heap.size, 1, none⟩ = some (.slice a st.length c) ∧ w'.cell? ⟨w.heap.size, 2, none⟩ = some (.string sf) ∧ w.heap.size < w'.heap.size ∧ Below w.heap.size w w') := by
    refine Calls.mono (name_any sm _ (hT.below (B1 _) (Nat.le_refl _))) ?_
    rintro e w' ⟨rfl, hb⟩
    refine ⟨rfl, ?_, ?_, ?_, (B1 _).trans (hb.mono (B1 _).size)⟩
    · rw [hb.cell (p := ⟨w.heap.size, 1, none⟩) (by simp)]; simp [go_sem]
    · rw [hb.cell (p := ⟨w.heap.size, 2, none⟩) (by simp)]; simp [go_sem]
    · have := hb.size; simp at this; omega
  have cT : Hid (∀ W, Below w.heap.size w W → W.cell? ⟨w.heap.size, 2, none⟩ = some (.string sf) → w.heap.size < W.heap.size → Calls Tryz.prog 89 #[.slice a st.length c] W fun e w' => e = .returned (erV (tagsB st) 52) ∧ w'.cell? ⟨w.heap.size, 2, none⟩ = some (.string sf) ∧ Below w.heap.size w w') := by
    intro W hW hc hs
    refine Calls.mono (tags_any a st c W hl (ha.below hW) (hT.below hW (Nat.le_refl _))) ?_
    rintro e w' ⟨rfl, hb⟩
    exact ⟨rfl, by rw [hb.cell (p := ⟨w.heap.size, 2, none⟩) hs]; exact hc, hW.trans (hb.mono hW.size)⟩
  have cC : Hid (∀ W, Below w.heap.size w W → Calls Tryz.prog 91 #[.string sf] W fun e w' => e = .returned (.bool (columnB sf)) ∧ Below W.heap.size W w') := fun W hW => column_any sf W (hT.below hW (Nat.le_refl _))
  have cU : Hid (∀ ok W, Calls Tryz.prog 90 #[.bool ok, .int .i64 50] W fun ev w' => ev = .returned (erV ok 50) ∧ Below W.heap.size W w') := fun ok W => unless_any ok 50 (by decide) W
  unfold rightN
  simp only
  generalize cleanB sm 64 = p at cN ⊢
  generalize tagsB st = q at cT ⊢
  generalize columnB sf = r at cC ⊢
  generalize st.length = n at cN cT hl ⊢
  clear ha hT
  have e1 : erV true 50 = .nilIface := rfl
  have e2 : erV false 50 = .iface 33 (.int .i64 50) := rfl
  have e3 : erV true 52 = .nilIface := rfl
  have e4 : erV false 52 = .iface 33 (.int .i64 52) := rfl
  cases p with
  | false =>
    rw [e2] at cN
    clear e1 e2 e3 e4
    go_enter Tryz.func23, Tryz.ntmps23
    go_wp2_with (go_at_call 88; with_reducible refine Calls.mono cN.out ?_; rintro e w' ⟨rfl, k1, k2, hs, hb⟩)
    go_ret
    exact ⟨rfl, hb⟩
  | true =>
    rw [e1] at cN
    cases q with
    | false =>
      rw [e4] at cT
      clear e1 e2 e3 e4
      go_enter Tryz.func23, Tryz.ntmps23
      go_wp2_with (first | (go_at_call 88; with_reducible refine Calls.mono cN.out ?_; rintro e w' ⟨rfl, k1, k2, hs, hb⟩) | (go_at_call 89; with_reducible refine Calls.mono (cT.out _ hb k2 hs) ?_; rintro e w2 ⟨rfl, k3, hb2⟩))
      go_ret
      exact ⟨rfl, hb2⟩
    | true =>
      rw [e3] at cT
      cases r with
      | true =>
        clear e2 e3 e4
        have cU1 : Hid (∀ W, Calls Tryz.prog 90 #[.bool true, .int .i64 50] W fun ev w' => ev = .returned .nilIface ∧ Below W.heap.size W w') := fun W => e1 ▸ cU.out true W
        clear e1 cU
        go_enter Tryz.func23, Tryz.ntmps23
        go_wp2_with (first | (go_at_call 88; with_reducible refine Calls.mono cN.out ?_; rintro e w' ⟨rfl, k1, k2, hs, hb⟩) | (go_at_call 89; with_reducible refine Calls.mono (cT.out _ hb k2 hs) ?_; rintro e w2 ⟨rfl, k3, hb2⟩) | (go_at_call 91; with_reducible refine Calls.mono (cC.out _ hb2) ?_; rintro e w3 ⟨rfl, hb3⟩) | (go_at_call 90; with_reducible refine Calls.mono (cU1.out _) ?_; rintro e w4 ⟨rfl, hb4⟩))
        go_ret
        have hx := hb2.trans (hb3.mono hb2.size)
        exact ⟨rfl, hx.trans (hb4.mono hx.size)⟩
      | false =>
        clear e1 e3 e4
        have cU1 : Hid (∀ W, Calls Tryz.prog 90 #[.bool false, .int .i64 50] W fun ev w' => ev = .returned (.iface 33 (.int .i64 50)) ∧ Below W.heap.size W w') := fun W => e2 ▸ cU.out false W
        clear e2 cU
        go_enter Tryz.func23, Tryz.ntmps23
        go_wp2_with (first | (go_at_call 88; with_reducible refine Calls.mono cN.out ?_; rintro e w' ⟨rfl, k1, k2, hs, hb⟩) | (go_at_call 89; with_reducible refine Calls.mono (cT.out _ hb k2 hs) ?_; rintro e w2 ⟨rfl, k3, hb2⟩) | (go_at_call 91; with_reducible refine Calls.mono (cC.out _ hb2) ?_; rintro e w3 ⟨rfl, hb3⟩) | (go_at_call 90; with_reducible refine Calls.mono (cU1.out _) ?_; rintro e w4 ⟨rfl, hb4⟩))
        go_ret
        have hx := hb2.trans (hb3.mono hb2.size)
        exact ⟨rfl, hx.trans (hb4.mono hx.size)⟩
end Go.Proofs.YtbojljmacheccaaGreatDoor

namespace Go.Proofs.YtbojljmacheccaaGreatDoor
open Go.RowKit Go.Shelf
set_option linter.unusedVariables false
set_option linter.unusedSimpArgs false
/-- the four marks. -/
def mkL : List UInt8 := [44, 32, 61, 92]
def idxM (l : List UInt8) : Int := Lib.indexAny l mkL
def noM (l : List UInt8) : Prop := ∀ b ∈ l, mkL.contains b = false
theorem idxM_nil : idxM [] = -1 := rfl
theorem idxM_cons (b : UInt8) (l : List UInt8) : idxM (b :: l) = if mkL.contains b then 0 else if idxM l = -1 then -1 else idxM l + 1 := by
  unfold idxM
  rw [Lib.indexAny]
  simp
theorem idxM_ge (l : List UInt8) : -1 ≤ idxM l := Lib.indexAny_ge _ l
theorem idxM_none {l : List UInt8} : idxM l = -1 ↔ noM l := by
  induction l with
  | nil => simp [idxM_nil, noM]
  | cons b r ih =>
    rw [idxM_cons]
    have hg := idxM_ge r
    cases hb : mkL.contains b with
    | true =>
      simp only [if_true]
      constructor
      · intro h; omega
      · intro h; have := h b (by simp); rw [hb] at this; cases this
    | false =>
      simp only [Bool.false_eq_true, if_false]
      by_cases h : idxM r = -1
      · rw [if_pos h]
        constructor
        · intro _ x hx
          rcases List.mem_cons.1 hx with rfl | hx
          · exact hb
          · exact ih.1 h x hx
        · intro _; rfl
      · rw [if_neg h]
        constructor
        · intro e; omega
        · intro e; exact absurd (ih.2 (fun x hx => e x (List.mem_cons_of_mem _ hx))) h
theorem idxM_hit : ∀ {l : List UInt8} {i : Nat}, idxM l = (i : Int) → i < l.length ∧ noM (l.take i) ∧ ∃ b, l[i]? = some b ∧ mkL.contains b = true
  | [], i, h => by rw [idxM_nil] at h; omega
  | b :: r, i, h => by
    rw [idxM_cons] at h
    cases hb : mkL.contains b with
    | true =>
      rw [hb, if_pos rfl] at h
      obtain rfl : i = 0 := by omega
      exact ⟨by simp, by simp [noM], b, by simp, hb⟩
    | false =>
      rw [hb] at h
      simp only [Bool.false_eq_true, if_false] at h
      by_cases h1 : idxM r = -1
      · rw [if_pos h1] at h; omega
      · rw [if_neg h1] at h
        have hg := idxM_ge r
        obtain ⟨j, rfl⟩ : ∃ j, i = j + 1 := ⟨i - 1, by omega⟩
        obtain ⟨k1, k2, k3⟩ := idxM_hit (l := r) (i := j) (by omega)
        refine ⟨by simp; omega, ?_, by simpa using k3⟩
        intro x hx
        rw [List.take_succ_cons] at hx
        rcases List.mem_cons.1 hx with rfl | hx
        · exact hb
        · exact k2 x hx
/-- how long the first piece is. -/
def szM (l : List UInt8) : Nat := if idxM l = -1 then l.length else if idxM l = 0 then 1 else (idxM l).toNat
theorem szM_ok {l : List UInt8} (h : l ≠ []) : 1 ≤ szM l ∧ szM l ≤ l.length := by
  have hl : 0 < l.length := List.length_pos_iff.2 h
  unfold szM
  have hg := idxM_ge l
  split
  · omega
  · split
    · omega
    · obtain ⟨i, hi⟩ : ∃ i : Nat, idxM l = (i : Int) := ⟨(idxM l).toNat, by omega⟩
      have := (idxM_hit hi).1
      rw [hi]
      omega
/-- where the pieces stand, and how long they are. -/
def cutsF (l : List UInt8) : Nat → Nat → List (Nat × Nat)
  | 0, _ => []
  | n + 1, k => if k < l.length then (k, szM (l.drop k)) :: cutsF l n (k + szM (l.drop k)) else []
def escL (l : List UInt8) : List UInt8 := l.flatMap fun b => if mkL.contains b then [92, b] else [b]
/-- a piece as it is written. -/
def fP (p : List UInt8) : List UInt8 := (if 0 ≤ idxM p then [92] else []) ++ p
theorem escL_noM {l : List UInt8} (h : noM l) : escL l = l := by
  induction l with
  | nil => rfl
  | cons b r ih =>
    unfold escL
    rw [List.flatMap_cons, h b (by simp)]
    have := ih (fun x hx => h x (List.mem_cons_of_mem _ hx))
    unfold escL at this
    rw [this]
    rfl
theorem escL_append (a b : List UInt8) : escL (a ++ b) = escL a ++ escL b := by unfold escL; rw [List.flatMap_append]
theorem fP_first {l : List UInt8} (h : l ≠ []) : fP (l.take (szM l)) = escL (l.take (szM l)) := by
  have hg := idxM_ge l
  unfold szM
  by_cases h1 : idxM l = -1
  · rw [if_pos h1, List.take_length, escL_noM (idxM_none.1 h1)]
    unfold fP
    rw [h1]; rfl
  · rw [if_neg h1]
    obtain ⟨i, hi⟩ : ∃ i : Nat, idxM l = (i : Int) := ⟨(idxM l).toNat, by omega⟩
    obtain ⟨k1, k2, b, k3, k4⟩ := idxM_hit hi
    by_cases h2 : idxM l = 0
    · rw [if_pos h2]
      obtain rfl : i = 0 := by omega
      cases l with
      | nil => exact absurd rfl h
      | cons x r =>
        simp at k3
        subst k3
        rw [show (x :: r).take 1 = [x] by simp]
        have k5 : x ∈ mkL := by simpa using k4
        unfold fP escL
        rw [idxM_cons, k4]
        simp [k5]
    · rw [if_neg h2, hi, Int.toNat_natCast, escL_noM k2]
      unfold fP
      rw [idxM_none.2 k2]; rfl
theorem cuts_esc (l : List UInt8) : ∀ n k, l.length - k ≤ n → (cutsF l n k).flatMap (fun c => fP ((l.drop c.1).take c.2)) = escL (l.drop k)
  | 0, k, h => by rw [List.drop_eq_nil_of_le (by omega)]; rfl
  | n + 1, k, h => by
    unfold cutsF
    by_cases hk : k < l.length
    · rw [if_pos hk, List.flatMap_cons]
      have hne : l.drop k ≠ [] := by
        intro e
        have := congrArg List.length e
        simp at this
        omega
      have hz := szM_ok hne
      rw [cuts_esc l n _ (by omega), fP_first hne]
      have e : l.drop (k + szM (l.drop k)) = (l.drop k).drop (szM (l.drop k)) := by rw [List.drop_drop]
      rw [e, ← escL_append, List.take_append_drop]
    · rw [if_neg hk, List.drop_eq_nil_of_le (by omega)]; rfl
theorem cuts_step {l : List UInt8} {n k : Nat} (hk : k < l.length) : cutsF l (n + 1) k = (k, szM (l.drop k)) :: cutsF l n (k + szM (l.drop k)) := by
  rw [cutsF, if_pos hk]
theorem cuts_end {l : List UInt8} {n k : Nat} (hk : l.length ≤ k) : cutsF l n k = [] := by
  cases n with
  | zero => rfl
  | succ n => rw [cutsF, if_neg (by omega)]
theorem escL_len (l : List UInt8) : (escL l).length ≤ 2 * l.length := by
  induction l with
  | nil => simp [escL]
  | cons b r ih =>
    have : escL (b :: r) = (if mkL.contains b then [92, b] else [b]) ++ escL r := by unfold escL; rw [List.flatMap_cons]
    rw [this, List.length_append, List.length_cons]
    split <;> simp <;> omega
end Go.Proofs.YtbojljmacheccaaGreatDoor

namespace Go.Proofs.YtbojljmacheccaaGreatDoor
open Go.RowKit Go.Shelf
attribute [local go_sem] Oper.semAt_some
set_option linter.unusedVariables false
set_option linter.unusedSimpArgs false
/-- strings.IndexAny tells the first mark of a text. -/
def MkOk (t : ByteArray) : Prop := ∀ W, Calls Tryz.prog 166 #[.string t, .string ⟨#[44, 32, 61, 92]⟩] W fun e w' => e = .returned (.int .i64 (idxM t.data.toList)) ∧ Below W.heap.size W w'
set_option maxRecDepth 100000 in
theorem isMark_any (t : ByteArray) (h : MkOk t) (w : World) : Calls Tryz.prog 138 #[.string t] w fun e w' => e = .returned (.bool (decide (0 ≤ idxM t.data.toList))) ∧ Below w.heap.size w w' := by
  have c : Hid (∀ W, Calls Tryz.prog 166 #[.string t, .string ⟨#[44, 32, 61, 92]⟩] W fun e w' => e = .returned (.int .i64 (idxM t.data.toList)) ∧ Below W.heap.size W w') := h
  generalize idxM t.data.toList = i at c ⊢
  have d : Hid (∀ W, Calls Tryz.prog 167 #[.string t, .string ⟨#[44, 32, 61, 92]⟩] W fun e w' => e = .returned (.bool (decide (0 ≤ i))) ∧ Below W.heap.size W w') := by
    intro W
    go_enter Tryz.func167, Tryz.ntmps167
    go_wp2_with (go_at_call 166; with_reducible refine Calls.mono (c.out _) ?_; rintro e w' ⟨rfl, hb⟩)
    go_ret
    exact ⟨rfl, hb⟩
  clear c h
  go_enter Tryz.func138, Tryz.ntmps138
  go_wp2_with (go_at_call 167; with_reducible refine Calls.mono (d.out _) ?_; rintro e w' ⟨rfl, hb⟩)
  go_ret
  exact ⟨rfl, hb⟩
set_option maxRecDepth 100000 in
theorem pieces_any (s : ByteArray) (w : World) : Calls Tryz.prog 137 #[.string s] w fun e w' => e = .returned (.func (.func 165) #[] #[.pointer (some ⟨w.heap.size, 0, none⟩)]) ∧ w' = w.alloc (.cells #[.string s] 9) := by
  go_enter Tryz.func137, Tryz.ntmps137
  go_wp2_with fail
  go_ret
  exact ⟨rfl, rfl⟩
end Go.Proofs.YtbojljmacheccaaGreatDoor

namespace Go.Proofs.YtbojljmacheccaaGreatDoor
open Go.RowKit Go.Shelf
attribute [local go_sem] Oper.semAt_some
set_option linter.unusedVariables false
set_option linter.unusedSimpArgs false
/-- a piece as it is handed on: its place, its text. -/
abbrev encP (s : ByteArray) (c : Nat × Nat) : Array Value := #[.int .i64 (c.1 : Int), .string (s.extract c.1 (c.1 + c.2))]
/-- the text's block is kept. -/
def KeepB (B : Nat) (W W' : World) : Prop := W.heap.size ≤ W'.heap.size ∧ W'.heap[B]? = W.heap[B]?
theorem KeepB.cell {B : Nat} {W W' : World} (h : KeepB B W W') (o : Nat) : W'.cell? ⟨B, o, none⟩ = W.cell? ⟨B, o, none⟩ := by
  unfold World.cell?
  simp only [h.2]
theorem below_grown {w w' : World} (h : Below w.heap.size w w') : w.grownBy w' none := ⟨h.os, h.tape, h.output, h.size, fun k hk _ => h.block k hk⟩
set_option maxHeartbeats 8000000 in
set_option maxRecDepth 100000 in
theorem pieces_stops (n : Nat) (hn : 3 ≤ n) (Bn : Nat) (s : ByteArray) (w : World) (hs : s.size ≤ 4611686018427387903) (hBn : Bn < w.heap.size) (hc : w.cell? ⟨Bn, 0, none⟩ = some (.string s)) (hM : ∀ a b, MkOk (s.extract a b)) :
    SeqStopsK Fence.wide n Tryz.prog 165 #[.pointer (some ⟨Bn, 0, none⟩)] (encP s) (KeepB Bn) (fun xs => xs = cutsF s.data.toList s.size 0) (fun pre => pre <+: cutsF s.data.toList s.size 0) s.size w := fun l J Jx W hW hJ hJx hY h0 => by
  have hlen : Hid (s.data.toList.length = s.size) := (Lib.size_eq s).symm
  have hcW : W.cell? ⟨Bn, 0, none⟩ = some (.string s) := by rw [hW.cell (p := ⟨Bn, 0, none⟩) hBn]; exact hc
  have hMH : Hid (∀ k, MkOk (s.extract k s.size)) := fun k => hM k s.size
  clear hM hc
  refine callsIn_of_wp Tryz.func165 rfl trivial ?_ rfl
  simp only [Tryz.ntmps165, List.size_toArray, List.length_cons, List.length_nil, Nat.reduceAdd, Nat.reduceSub, Array.replicate_succ, Array.replicate_zero, List.push_toArray, List.append_toArray, List.nil_append, List.cons_append]
  gi_wp2
  gi_loopw [3] (fun p wr => ∃ (pre : List (Nat × Nat)) (k g : Nat), p = .int .i64 (k : Int) ∧ k ≤ s.size ∧ pre.length ≤ k ∧ s.size - k ≤ g ∧ Hid (cutsF s.data.toList s.size 0 = pre ++ cutsF s.data.toList g k) ∧ wr.cell? ⟨Bn, 0, none⟩ = some (.string s) ∧ W.heap.size ≤ wr.heap.size ∧ J pre wr)
    (fun p _ => s.size - (intOf p).toNat)
  case atStart => exact ⟨[], 0, s.size, rfl, by omega, by simp, by omega, rfl, hcW, Nat.le_refl _, h0⟩
  case round =>
    obtain ⟨pre, k, g, rfl, hk, hpre, hg, hcut, hcr, hWr, hJs⟩ := hrel
    by_cases hlt : k < s.size
    · have hltI : (k : Int) < (s.size : Int) := by omega
      obtain ⟨i, hi⟩ : ∃ i, idxM (s.extract k s.size).data.toList = i := ⟨_, rfl⟩
      have hI : Hid (∀ W, Calls Tryz.prog 166 #[.string (s.extract k s.size), .string ⟨#[44, 32, 61, 92]⟩] W fun e w' => e = .returned (.int .i64 i) ∧ Below W.heap.size W w') := by rw [← hi]; exact hMH.out k
      obtain ⟨z, hz⟩ : ∃ z, szM (s.data.toList.drop k) = z := ⟨_, rfl⟩
      have hzz : 1 ≤ z ∧ k + z ≤ s.size := by
        have h1 : s.data.toList.drop k ≠ [] := by
          intro e
          have := congrArg List.length e
          rw [List.length_drop, hlen.out] at this
          simp at this
          omega
        have h2 := szM_ok h1
        rw [hz, List.length_drop, hlen.out] at h2
        omega
      rw [Lib.extract_to_end] at hi
      have hzi : Hid (z = if i = -1 then s.size - k else if i = 0 then 1 else i.toNat) := by
        have h : szM (s.data.toList.drop k) = if i = -1 then s.size - k else if i = 0 then 1 else i.toNat := by unfold szM; rw [hi, List.length_drop, hlen.out]
        rw [hz] at h
        exact h
      have hige : Hid (-1 ≤ i) := by have := idxM_ge (s.data.toList.drop k); rw [hi] at this; exact this
      have hcut2 : Hid (cutsF s.data.toList s.size 0 = (pre ++ [(k, z)]) ++ cutsF s.data.toList (g - 1) (k + z)) := by
        have h := hcut.out
        obtain ⟨g', rfl⟩ : ∃ g', g = g' + 1 := ⟨g - 1, by omega⟩
        rw [cuts_step (by rw [hlen.out]; exact hlt), hz] at h
        have h2 : cutsF s.data.toList s.size 0 = (pre ++ [(k, z)]) ++ cutsF s.data.toList g' (k + z) := by rw [h]; simp
        exact h2
      clear hi hz hcut
      have h1m : i = -1 ∨ i = 0 ∨ 1 ≤ i := by have := hige.out; omega
      rcases h1m with h | h | h
      · subst h
        have hz1 : z = s.size - k := by have := hzi.out; simpa using this
        have ez : (z : Int) = (s.size : Int) - k := by omega
        have ezH : Hid ((z : Int) = (s.size : Int) - k) := ez
        clear ez hzi hige hz1
        have hsl : ∀ wx, (Instr.slice 9 (.string s) (some (.int .i64 (k : Int))) (some (.int .i64 ((k : Int) + ((s.size : Int) - (k : Int))))) none).run Tryz.prog wx = .ok (.string (s.extract k (k + z))) wx := fun wx => by
          rw [show (k : Int) + ((s.size : Int) - (k : Int)) = ((k + z : Nat) : Int) by have := ezH.out; omega]
          have h := run_slice_string (P := Tryz.prog) (w := wx) 9 s .i64 .i64 (k : Int) ((k + z : Nat) : Int) Tryz.underlying9 (by omega) (by omega) (by omega)
          rw [Int.toNat_natCast, Int.toNat_natCast] at h
          exact h
        gi_wp2
        refine ⟨trivial, fun _ => by omega, ?_⟩
        refine (callsIn_wide.2 (hI.out _)).mono ?_
        rintro e w1 ⟨rfl, hb⟩
        have hJ1 : J pre w1 := hJ pre wr w1 none hJs (below_grown hb) (fun r e => by cases e)
        have hc1 : w1.cell? ⟨Bn, 0, none⟩ = some (.string s) := by rw [hb.cell (p := ⟨Bn, 0, none⟩) (show Bn < wr.heap.size by have := hW.size; omega)]; exact hcr
        obtain ⟨fn, tmps, assign, body, hy, hR⟩ := hY pre (k, z) w1 hJ1 (by omega)
        dsimp only [encP] at hy
        clear hI
        gi_wp2
        refine ⟨fun _ => by omega, hR.mono ?_⟩
        rintro e W3 (⟨rfl, hJ3, hk3⟩ | ⟨rfl, hJx3⟩)
        · have hc3 : W3.cell? ⟨Bn, 0, none⟩ = some (.string s) := (hk3.cell 0).trans hc1
          gi_wp2
          go_roundw
          case rel => exact ⟨pre ++ [(k, z)], k + z, g - 1, by have := ezH.out; first | rfl | (congr 1; omega) | simp, by omega, by simp; omega, by omega, hcut2, hc3, by have := hk3.1; have := hb.size; omega, hJ3⟩
          case measure => have := ezH.out; simp only [intOf]; omega
        · gi_wp2
          refine bodyPost_ret (results_none rfl _ _ _) rfl ?_
          exact ⟨⟨_, rfl⟩, .inr ⟨pre ++ [(k, z)], ⟨_, hcut2.out.symm⟩, hJx3⟩⟩
      · subst h
        have hz1 : z = 1 := by have := hzi.out; simpa using this
        have ez : (z : Int) = 1 := by omega
        have ezH : Hid ((z : Int) = 1) := ez
        clear ez hzi hige hz1
        have hsl : ∀ wx, (Instr.slice 9 (.string s) (some (.int .i64 (k : Int))) (some (.int .i64 ((k : Int) + 1))) none).run Tryz.prog wx = .ok (.string (s.extract k (k + z))) wx := fun wx => by
          rw [show (k : Int) + 1 = ((k + z : Nat) : Int) by have := ezH.out; omega]
          have h := run_slice_string (P := Tryz.prog) (w := wx) 9 s .i64 .i64 (k : Int) ((k + z : Nat) : Int) Tryz.underlying9 (by omega) (by omega) (by omega)
          rw [Int.toNat_natCast, Int.toNat_natCast] at h
          exact h
        gi_wp2
        refine ⟨trivial, fun _ => by omega, ?_⟩
        refine (callsIn_wide.2 (hI.out _)).mono ?_
        rintro e w1 ⟨rfl, hb⟩
        have hJ1 : J pre w1 := hJ pre wr w1 none hJs (below_grown hb) (fun r e => by cases e)
        have hc1 : w1.cell? ⟨Bn, 0, none⟩ = some (.string s) := by rw [hb.cell (p := ⟨Bn, 0, none⟩) (show Bn < wr.heap.size by have := hW.size; omega)]; exact hcr
        obtain ⟨fn, tmps, assign, body, hy, hR⟩ := hY pre (k, z) w1 hJ1 (by omega)
        dsimp only [encP] at hy
        clear hI
        gi_wp2
        refine ⟨fun _ => by omega, hR.mono ?_⟩
        rintro e W3 (⟨rfl, hJ3, hk3⟩ | ⟨rfl, hJx3⟩)
        · have hc3 : W3.cell? ⟨Bn, 0, none⟩ = some (.string s) := (hk3.cell 0).trans hc1
          gi_wp2
          go_roundw
          case rel => exact ⟨pre ++ [(k, z)], k + z, g - 1, by have := ezH.out; first | rfl | (congr 1; omega) | simp, by omega, by simp; omega, by omega, hcut2, hc3, by have := hk3.1; have := hb.size; omega, hJ3⟩
          case measure => have := ezH.out; simp only [intOf]; omega
        · gi_wp2
          refine bodyPost_ret (results_none rfl _ _ _) rfl ?_
          exact ⟨⟨_, rfl⟩, .inr ⟨pre ++ [(k, z)], ⟨_, hcut2.out.symm⟩, hJx3⟩⟩
      · have h0 : (i == 0) = false := by simp; omega
        have h1 : (i == -1) = false := by simp; omega
        have hz1 : (z : Int) = i := by have := hzi.out; rw [if_neg (by omega), if_neg (by omega)] at this; omega
        subst hz1
        have ezH : Hid ((z : Int) = (z : Int)) := rfl
        obtain ⟨hzz1, hzz2⟩ := hzz
        clear hzi hige h
        have hsl : ∀ wx, (Instr.slice 9 (.string s) (some (.int .i64 (k : Int))) (some (.int .i64 ((k : Int) + (z : Int)))) none).run Tryz.prog wx = .ok (.string (s.extract k (k + z))) wx := fun wx => by
          rw [show (k : Int) + (z : Int) = ((k + z : Nat) : Int) by have := ezH.out; omega]
          have h := run_slice_string (P := Tryz.prog) (w := wx) 9 s .i64 .i64 (k : Int) ((k + z : Nat) : Int) Tryz.underlying9 (by omega) (by omega) (by omega)
          rw [Int.toNat_natCast, Int.toNat_natCast] at h
          exact h
        gi_wp2
        refine ⟨trivial, fun _ => by omega, ?_⟩
        refine (callsIn_wide.2 (hI.out _)).mono ?_
        rintro e w1 ⟨rfl, hb⟩
        have hJ1 : J pre w1 := hJ pre wr w1 none hJs (below_grown hb) (fun r e => by cases e)
        have hc1 : w1.cell? ⟨Bn, 0, none⟩ = some (.string s) := by rw [hb.cell (p := ⟨Bn, 0, none⟩) (show Bn < wr.heap.size by have := hW.size; omega)]; exact hcr
        obtain ⟨fn, tmps, assign, body, hy, hR⟩ := hY pre (k, z) w1 hJ1 (by omega)
        dsimp only [encP] at hy
        clear hI
        gi_wp2
        refine ⟨fun _ => by omega, hR.mono ?_⟩
        rintro e W3 (⟨rfl, hJ3, hk3⟩ | ⟨rfl, hJx3⟩)
        · have hc3 : W3.cell? ⟨Bn, 0, none⟩ = some (.string s) := (hk3.cell 0).trans hc1
          gi_wp2
          go_roundw
          case rel => exact ⟨pre ++ [(k, z)], k + z, g - 1, by have := ezH.out; first | rfl | (congr 1; omega) | simp, by omega, by simp; omega, by omega, hcut2, hc3, by have := hk3.1; have := hb.size; omega, hJ3⟩
          case measure => have := ezH.out; simp only [intOf]; omega
        · gi_wp2
          refine bodyPost_ret (results_none rfl _ _ _) rfl ?_
          exact ⟨⟨_, rfl⟩, .inr ⟨pre ++ [(k, z)], ⟨_, hcut2.out.symm⟩, hJx3⟩⟩
    · have hltI : ¬ (k : Int) < (s.size : Int) := by omega
      have hend := cuts_end (l := s.data.toList) (n := g) (k := k) (by rw [hlen.out]; omega)
      have hcut2 : Hid (cutsF s.data.toList s.size 0 = pre) := by have := hcut.out; rw [hend, List.append_nil] at this; exact this
      clear hcut hend
      gi_wp2
      go_end0
      first | exact ⟨⟨_, rfl⟩, .inl ⟨pre, hcut2.out.symm, hJs⟩⟩ | (rw [hcut2.out]; exact ⟨⟨_, rfl⟩, .inl hJs⟩) | (rw [hcut2.out]; exact .inl hJs) | (rw [hcut2.out]; exact hJs)
end Go.Proofs.YtbojljmacheccaaGreatDoor

namespace Go.Proofs.YtbojljmacheccaaGreatDoor
open Go.RowKit Go.Shelf
attribute [local go_sem] Oper.semAt_some
set_option linter.unusedVariables false
set_option linter.unusedSimpArgs false
theorem builderAt_kept {T e : TypeId} {B b : Nat} {p : Value} {bs : List Value} {W W' : World} {row : Option Nat} (h : Lib.BuilderAtF T e B b p bs W) (hg : W.grownBy W' row) (hr : ∀ r, row = some r → ∃ o : Obj, W.heap[r]? = some o ∧ o.isCells = false) : Lib.BuilderAtF T e B b p bs W' := by
  have hlt := h.lt
  obtain ⟨hB, v, hv, hown, hne⟩ := h
  obtain ⟨g1, g2, g3, g4, g5⟩ := hg
  refine ⟨hB, v, ?_, ⟨hown.1, ?_⟩, hne⟩
  · rw [g5 b hlt (fun e => by obtain ⟨o, ho, hc⟩ := hr b e.symm; rw [hv] at ho; cases ho; cases hc)]; exact hv
  · rcases hown.2 with hn | ⟨g, cap, cur, fz, hv2, hbg, hgg, rest⟩
    · exact .inl hn
    · refine .inr ⟨g, cap, cur, fz, hv2, hbg, ?_, rest⟩
      rw [g5 g (Array.getElem?_eq_some_iff.1 hgg).1 (fun e => by obtain ⟨o, ho, hc⟩ := hr g e.symm; rw [hgg] at ho; cases ho; cases hc)]; exact hgg
theorem builder_kept {T e : TypeId} {B b : Nat} {bs : List Value} {W W' : World} {row : Option Nat} (h : Lib.IsBuilderF T e B b bs W) (hg : W.grownBy W' row) (hr : ∀ r, row = some r → ∃ o : Obj, W.heap[r]? = some o ∧ o.isCells = false) : Lib.IsBuilderF T e B b bs W' :=
  h.elim (fun x => .inl (builderAt_kept x hg hr)) (fun x => .inr (builderAt_kept x hg hr))
theorem builder_below {T e : TypeId} {B b : Nat} {bs : List Value} {W W' : World} (h : Lib.IsBuilderF T e B b bs W) (hb : Below W.heap.size W W') : Lib.IsBuilderF T e B b bs W' := builder_kept h (below_grown hb) (fun r e => by cases e)
theorem builder_new (w : World) : Lib.IsBuilderF 115 5 w.heap.size w.heap.size [] (w.alloc (.cells #[.pointer none, .slice none 0 0] 115)) := by
  refine .inl ⟨Nat.le_refl _, .slice none 0 0, World.alloc_heap_new w _, ⟨rfl, .inl ⟨rfl, rfl⟩⟩, by simp [Value.ownBlock]⟩
theorem others_keeps {b B : Nat} {T e : TypeId} {p : Value} {bs : List Value} {W W' : World} (h : Lib.OthersKept e (some b) W W') (hs : W.heap.size ≤ W'.heap.size) (hb : Lib.IsBuilderF T e B b bs W) : KeepsOthers W W' := by
  have hc : ∃ c t f, W.heap[b]? = some (.cells c t f) := by
    rcases hb with ⟨_, v, hv, _⟩ | ⟨_, v, hv, _⟩
    · exact ⟨_, _, _, hv⟩
    · exact ⟨_, _, _, hv⟩
  obtain ⟨c, t, f, hc⟩ := hc
  refine ⟨hs, fun k o hk ho => h k o hk ?_ ?_⟩
  · intro e1
    cases e1
    rw [hc] at hk
    cases hk
    cases ho
  · intro c' fz e1
    subst e1
    cases ho
theorem flat_len (l : List UInt8) (pre : List (Nat × Nat)) : (pre.flatMap (fun c => fP ((l.drop c.1).take c.2))).length ≤ pre.length * (l.length + 1) := by
  induction pre with
  | nil => simp
  | cons c r ih =>
    rw [List.flatMap_cons, List.length_append, List.length_cons, Nat.succ_mul]
    have : (fP ((l.drop c.1).take c.2)).length ≤ l.length + 1 := by
      unfold fP
      rw [List.length_append]
      have h1 : ((l.drop c.1).take c.2).length ≤ l.length := by simp; omega
      split <;> simp at h1 ⊢ <;> omega
    omega
/-- while pieces are written: the Builder holds what they say, the text's block is there. -/
def EscI (s : ByteArray) (w : World) (pre : List (Nat × Nat)) (W : World) : Prop := Lib.IsBuilderF 115 5 w.heap.size w.heap.size (Lib.byteCells (pre.flatMap (fun c => fP ((s.data.toList.drop c.1).take c.2)))) W ∧ W.heap[w.heap.size + 1]? = some (.cells #[.string s] 9) ∧ Below w.heap.size w W
theorem escI_own (s : ByteArray) (w : World) (B : Nat) (hB : w.heap.size ≤ B) : OwnFrom B (EscI s w) := fun q W W' row hs' hg hr => by
  obtain ⟨h1, h2, h3⟩ := hs'
  have hg' := hg
  obtain ⟨g1, g2, g3, g4, g5⟩ := hg
  refine ⟨builder_kept h1 hg' (fun r e => (hr r e).2), ?_, h3.trans ⟨g1, g2, g3, g4, fun k hk => g5 k (by have := h3.size; omega) (fun e => by have := (hr k e.symm).1; omega)⟩⟩
  rw [g5 _ (Array.getElem?_eq_some_iff.1 h2).1 (fun e => by obtain ⟨_, o, ho, hc⟩ := hr _ e.symm; rw [h2] at ho; cases ho; cases hc)]
  exact h2
theorem keeps_below {W W' : World} (h : Below W.heap.size W W') : KeepsOthers W W' := ⟨h.size, fun k o hk _ => (h.block k (Array.getElem?_eq_some_iff.1 hk).1).trans hk⟩
theorem flat_snoc (l : List UInt8) (pre : List (Nat × Nat)) (x : Nat × Nat) : (pre ++ [x]).flatMap (fun c => fP ((l.drop c.1).take c.2)) = pre.flatMap (fun c => fP ((l.drop c.1).take c.2)) ++ fP ((l.drop x.1).take x.2) := by
  rw [List.flatMap_append]; simp
theorem cells_append (a b : List UInt8) : Lib.byteCells (a ++ b) = Lib.byteCells a ++ Lib.byteCells b := by simp [Lib.byteCells]
theorem esc_text {s : ByteArray} {w W : World} (h : W.heap[w.heap.size + 1]? = some (.cells #[.string s] 9)) {W' : World} (hO : Lib.OthersKept 5 (some w.heap.size) W W') : W'.heap[w.heap.size + 1]? = some (.cells #[.string s] 9) := by
  refine hO _ _ h (by simp) ?_
  intro c fz e
  cases e
set_option maxHeartbeats 8000000 in
set_option maxRecDepth 100000 in
theorem escape_any (s : ByteArray) (w : World) (hs : s.size ≤ 1048576) (hM : ∀ a b, MkOk (s.extract a b)) : Calls Tryz.prog 96 #[.string s] w fun e w' => e = .returned (.string ⟨(escL s.data.toList).toArray⟩) ∧ Below w.heap.size w w' := by
  have hlen : Hid (s.data.toList.length = s.size) := (Lib.size_eq s).symm
  have hMH : Hid (∀ a b, MkOk (s.extract a b)) := hM
  clear hM
  refine (callsIn_wide (n := 9)).1 ?_
  refine callsIn_of_wp_marks Tryz.func96 rfl trivial ?_ rfl
  simp only [Tryz.ntmps96, List.size_toArray, List.length_cons, List.length_nil, Nat.reduceAdd, Nat.reduceSub, Array.replicate_succ, Array.replicate_zero, List.push_toArray, List.append_toArray, List.nil_append, List.cons_append]
  gi_wp2
  refine ⟨trivial, ?_⟩
  refine (callsIn_wide.2 (pieces_any s _)).mono ?_
  rintro e w1 ⟨rfl, hw1⟩
  rw [World.size_alloc]
  have hszW : w1.heap.size = w.heap.size + 2 := by rw [hw1]; simp
  have hB1 : Below w.heap.size w w1 := by rw [hw1]; exact ((Below.refl _ w).alloc (Nat.le_refl _) _).alloc (by simp) _
  have hbl1 : Lib.IsBuilderF 115 5 w.heap.size w.heap.size [] w1 := by rw [hw1]; exact (builder_new w).alloc _
  have hs1 : w1.heap[w.heap.size + 1]? = some (.cells #[.string s] 9) := by
    rw [hw1]; have := World.alloc_heap_new (w.alloc (.cells #[.pointer none, .slice none 0 0] 115)) (.cells #[.string s] 9); rwa [World.size_alloc] at this
  have hc1 : w1.cell? ⟨w.heap.size + 1, 0, none⟩ = some (.string s) := by rw [Lib.cell_of_heap hs1]; rfl
  clear hw1
  gi_wp2
  refine wpIn_rangeFunc_ownF rfl (by omega) (gf := 165) (lb := #[.pointer (some ⟨w.heap.size + 1, 0, none⟩)]) rfl trivial (enters_of Tryz.func165 (by kernel_rfl) rfl)
    (pieces_stops 8 (by omega) (w.heap.size + 1) s w1 (by omega) (by omega) hc1 hMH.out) (fun h k => ⟨Nat.le_trans h.1 k.1, k.2.trans h.2⟩)
    (fun W l o o' hl hlo _ _ => ⟨by simp, World.putObj_heap_other (by omega)⟩) (Below.refl _ _) (fun _ => rfl)
    (EscI s w)
    (fun _ _ _ => False)
    (escI_own s w _ (by omega))
    (fun _ _ _ _ _ hs' _ _ => hs'.elim)
    ⟨hbl1, hs1, hB1⟩
    (fun x => { tmps := #[.string s, undef, .string ⟨#[]⟩, .pointer (some ⟨w.heap.size, 0, none⟩), undef, .string (s.extract x.1 (x.1 + x.2)), .string s, .func (.func 165) #[] #[.pointer (some ⟨w.heap.size + 1, 0, none⟩)], .int .i64 (x.1 : Int), .string (s.extract x.1 (x.1 + x.2)), undef, undef, undef, undef, undef, undef], defers := [] }) ?assign ?body ?done ?stop
  case assign =>
    intro l x W K hK
    gi_wp2
    exact hK
  case body =>
    rintro l pre x W ⟨hbld, hsB, hB⟩ hpl
    obtain ⟨P, hP⟩ : ∃ P, s.extract x.1 (x.1 + x.2) = P := ⟨_, rfl⟩
    have hPd : P.data.toList = (s.data.toList.drop x.1).take x.2 := by rw [← hP, Lib.extract_data, Nat.add_sub_cancel_left]
    have hPs : P.size ≤ s.size := by
      rw [Lib.size_eq, hPd, ← hlen.out]; simp; omega
    have hMk : MkOk P := hP ▸ hMH.out _ _
    rw [hP]
    obtain ⟨mk, hmk⟩ : ∃ mk, decide (0 ≤ idxM P.data.toList) = mk := ⟨_, rfl⟩
    have cM : Hid (Calls Tryz.prog 138 #[.string P] W fun e w' => e = .returned (.bool mk) ∧ Below W.heap.size W w') := by have := isMark_any P hMk W; rw [hmk] at this; exact this
    have hfl := flat_len s.data.toList pre
    rw [hlen.out] at hfl
    obtain ⟨bs, hbs⟩ : ∃ bs, pre.flatMap (fun c => fP ((s.data.toList.drop c.1).take c.2)) = bs := ⟨_, rfl⟩
    have hsn := flat_snoc s.data.toList pre x
    rw [hbs, ← hPd] at hsn
    rw [hbs] at hbld hfl
    have hsnH : Hid ((pre ++ [x]).flatMap (fun c => fP ((s.data.toList.drop c.1).take c.2)) = bs ++ fP P.data.toList) := hsn
    have hbl : bs.length ≤ 1048576 * 1048577 := Nat.le_trans hfl (Nat.mul_le_mul (by omega) (by omega))
    have hblH : Hid (bs.length ≤ 1048576 * 1048577) := hbl
    have hPdH : Hid (P.data.toList = (s.data.toList.drop x.1).take x.2) := hPd
    have hmkH : Hid (decide (0 ≤ idxM P.data.toList) = mk) := hmk
    clear hsn hbl hfl hbs hP hPd hMk hmk
    cases mk with
    | true =>
      gi_wp2
      refine ⟨trivial, ?_⟩
      refine (CallsIn.inRound l (callsIn_wide.2 cM.out)).mono ?_
      rintro e W1 ⟨rfl, hb1⟩
      have bld1 := builder_below hbld hb1
      have hs1' : W1.heap[w.heap.size + 1]? = some (.cells #[.string s] 9) := by rw [hb1.block _ (Array.getElem?_eq_some_iff.1 hsB).1]; exact hsB
      have c1 : Hid (Calls Tryz.prog 39 #[.pointer (some ⟨w.heap.size, 0, none⟩), .string ⟨#[92]⟩] W1 _) := Tryz.Builder_WriteString_k w.heap.size w.heap.size (Lib.byteCells bs) ⟨#[92]⟩ W1 bld1 (by rw [Lib.byteCells_length]; have := hblH.out; show bs.length + 1 ≤ _; omega) (by have := hB.size; have := hb1.size; omega)
      gi_wp2
      refine ⟨trivial, ?_⟩
      refine (CallsIn.inRound l (callsIn_wide.2 c1.out)).mono ?_
      rintro e W2 ⟨rfl, bld2, hb2, hO2⟩
      have hs2 := esc_text hs1' hO2
      have c2 : Hid (Calls Tryz.prog 39 #[.pointer (some ⟨w.heap.size, 0, none⟩), .string P] W2 _) := Tryz.Builder_WriteString_k w.heap.size w.heap.size _ P W2 (.inr bld2) (by rw [List.length_append, Lib.byteCells_length]; have := hblH.out; show bs.length + 1 + _ ≤ _; omega) (by have := hB.size; have := hb1.size; have := hb2.size; omega)
      gi_wp2
      refine ⟨trivial, ?_⟩
      refine (CallsIn.inRound l (callsIn_wide.2 c2.out)).mono ?_
      rintro e W3 ⟨rfl, bld3, hb3, hO3⟩
      have hs3 := esc_text hs2 hO3
      gi_wp2
      refine ⟨(keeps_below hb1).trans ((others_keeps (p := undef) hO2 hb2.size bld1).trans (others_keeps (p := undef) hO3 hb3.size (.inr bld2))), ⟨Nat.le_trans hb1.size (Nat.le_trans hb2.size hb3.size), by rw [hs3, hsB]⟩, ⟨?_, hs3, (hB.trans (hb1.mono hB.size)).trans (hb2.trans hb3)⟩⟩
      rw [hsnH.out]
      have hf : fP P.data.toList = [92] ++ P.data.toList := by unfold fP; rw [if_pos (of_decide_eq_true hmkH.out)]
      rw [hf, cells_append, cells_append, ← List.append_assoc]
      exact .inr bld3
    | false =>
      gi_wp2
      refine ⟨trivial, ?_⟩
      refine (CallsIn.inRound l (callsIn_wide.2 cM.out)).mono ?_
      rintro e W1 ⟨rfl, hb1⟩
      have bld1 := builder_below hbld hb1
      have hs1' : W1.heap[w.heap.size + 1]? = some (.cells #[.string s] 9) := by rw [hb1.block _ (Array.getElem?_eq_some_iff.1 hsB).1]; exact hsB
      have c2 : Hid (Calls Tryz.prog 39 #[.pointer (some ⟨w.heap.size, 0, none⟩), .string P] W1 _) := Tryz.Builder_WriteString_k w.heap.size w.heap.size _ P W1 bld1 (by rw [Lib.byteCells_length]; have := hblH.out; omega) (by have := hB.size; have := hb1.size; omega)
      gi_wp2
      refine ⟨trivial, ?_⟩
      refine (CallsIn.inRound l (callsIn_wide.2 c2.out)).mono ?_
      rintro e W3 ⟨rfl, bld3, hb3, hO3⟩
      have hs3 := esc_text hs1' hO3
      gi_wp2
      refine ⟨(keeps_below hb1).trans (others_keeps (p := undef) hO3 hb3.size bld1), ⟨Nat.le_trans hb1.size hb3.size, by rw [hs3, hsB]⟩, ⟨?_, hs3, (hB.trans (hb1.mono hB.size)).trans hb3⟩⟩
      rw [hsnH.out]
      have hf : fP P.data.toList = P.data.toList := by unfold fP; rw [if_neg (of_decide_eq_false hmkH.out)]; rfl
      rw [hf, cells_append]
      exact .inr bld3
  case done =>
    rintro D ys W hD rfl ⟨hbld, hsB, hB⟩ hK
    have hce := cuts_esc s.data.toList s.size 0 (by rw [hlen.out]; omega)
    rw [List.drop_zero] at hce
    rw [hce] at hbld
    clear hce
    have c1 : Hid (Calls Tryz.prog 40 #[.pointer (some ⟨w.heap.size, 0, none⟩)] W _) := Tryz.Builder_String_any_k w.heap.size w.heap.size (escL s.data.toList) W hbld (by have := hB.size; omega)
    obtain ⟨E, hE⟩ : ∃ E, escL s.data.toList = E := ⟨_, rfl⟩
    rw [hE] at c1
    have hEH : Hid (escL s.data.toList = E) := hE
    clear hE
    gi_wp2
    refine ⟨trivial, ?_⟩
    refine (callsIn_wide.2 c1.out).mono ?_
    rintro e W2 ⟨rfl, bld2, hb2, hO2⟩
    have hK2 : W2.heap[D]? = some (.deferred (some [])) := hO2 D _ hK (by simp; omega) (by intro c fz e; cases e)
    have hB2 := hB.trans hb2
    gi_wp2
    refine ⟨by simp, .inl ⟨_, _, rfl, run_takeDeferred hK2, ?_⟩⟩
    exact ⟨_, results_tmp rfl _ _ _, by rw [hEH.out]; rfl, hB2.trans (belowK_b (w := w) (Nat.le_refl _) W2 D _ _ (by omega) hK2 rfl rfl)⟩
  case stop =>
    rintro D c pre W _ _ h _
    exact h.elim
end Go.Proofs.YtbojljmacheccaaGreatDoor

namespace Go.Proofs.YtbojljmacheccaaGreatDoor
open Go.RowKit Go.Shelf
set_option linter.unusedVariables false
set_option linter.unusedSimpArgs false
/-- while a key is written: the Builder at b, the series at the block of w's end. -/
def PS (w : World) (b : Nat) (m f : ByteArray) (a : Option Addr) (n c : Nat) (bs : List UInt8) (W : World) : Prop :=
  Lib.IsBuilderF 115 5 b b (Lib.byteCells bs) W ∧ W.cell? ⟨w.heap.size, 0, none⟩ = some (.string m) ∧ W.cell? ⟨w.heap.size, 1, none⟩ = some (.slice a n c) ∧ W.cell? ⟨w.heap.size, 2, none⟩ = some (.string f) ∧ Below w.heap.size w W ∧ w.heap.size < b ∧ b < W.heap.size
theorem PS.below {w : World} {b : Nat} {m f : ByteArray} {a : Option Addr} {n c : Nat} {bs : List UInt8} {W W' : World} (h : PS w b m f a n c bs W) (hb : Below W.heap.size W W') : PS w b m f a n c bs W' := by
  obtain ⟨h1, h2, h3, h4, h5, h6, h7⟩ := h
  have hs := hb.size
  refine ⟨builder_below h1 hb, ?_, ?_, ?_, h5.trans (hb.mono h5.size), h6, by omega⟩
  · rw [hb.cell (p := ⟨w.heap.size, 0, none⟩) (show w.heap.size < _ by omega)]; exact h2
  · rw [hb.cell (p := ⟨w.heap.size, 1, none⟩) (show w.heap.size < _ by omega)]; exact h3
  · rw [hb.cell (p := ⟨w.heap.size, 2, none⟩) (show w.heap.size < _ by omega)]; exact h4
theorem PS.c0 {w : World} {b : Nat} {m f : ByteArray} {a : Option Addr} {n c : Nat} {bs : List UInt8} {W : World} (h : PS w b m f a n c bs W) : W.cell? ⟨w.heap.size, 0, none⟩ = some (.string m) := by obtain ⟨h1, h2, h3, h4, h5, h6, h7⟩ := h; exact h2
theorem PS.c1 {w : World} {b : Nat} {m f : ByteArray} {a : Option Addr} {n c : Nat} {bs : List UInt8} {W : World} (h : PS w b m f a n c bs W) : W.cell? ⟨w.heap.size, 1, none⟩ = some (.slice a n c) := by obtain ⟨h1, h2, h3, h4, h5, h6, h7⟩ := h; exact h3
theorem PS.c2 {w : World} {b : Nat} {m f : ByteArray} {a : Option Addr} {n c : Nat} {bs : List UInt8} {W : World} (h : PS w b m f a n c bs W) : W.cell? ⟨w.heap.size, 2, none⟩ = some (.string f) := by obtain ⟨h1, h2, h3, h4, h5, h6, h7⟩ := h; exact h4
theorem PS.blw {w : World} {b : Nat} {m f : ByteArray} {a : Option Addr} {n c : Nat} {bs : List UInt8} {W : World} (h : PS w b m f a n c bs W) : Below w.heap.size w W := by obtain ⟨h1, h2, h3, h4, h5, h6, h7⟩ := h; exact h5
theorem PS.lt {w : World} {b : Nat} {m f : ByteArray} {a : Option Addr} {n c : Nat} {bs : List UInt8} {W : World} (h : PS w b m f a n c bs W) : w.heap.size < b ∧ b < W.heap.size := by obtain ⟨h1, h2, h3, h4, h5, h6, h7⟩ := h; exact ⟨h6, h7⟩
theorem PS.esc {w : World} {b : Nat} {m f : ByteArray} {a : Option Addr} {n c : Nat} {bs : List UInt8} {W : World} (h : PS w b m f a n c bs W) (t : ByteArray) (ht : t.size ≤ 1048576) (hM : ∀ i j, MkOk (t.extract i j)) :
    Calls Tryz.prog 96 #[.string t] W fun e w' => e = .returned (.string ⟨(escL t.data.toList).toArray⟩) ∧ PS w b m f a n c bs w' ∧ Below W.heap.size W w' :=
  (escape_any t W ht hM).mono fun e w' ⟨h1, h2⟩ => ⟨h1, h.below h2, h2⟩
theorem PS.write {w : World} {b : Nat} {m f : ByteArray} {a : Option Addr} {n c : Nat} {bs : List UInt8} {W : World} (h : PS w b m f a n c bs W) (t : ByteArray) (ht : bs.length + t.size ≤ 140737488355328) :
    Calls Tryz.prog 39 #[.pointer (some ⟨b, 0, none⟩), .string t] W fun e w' => e = .returned (.tuple #[.int .i64 t.size, .nilIface]) ∧ PS w b m f a n c (bs ++ t.data.toList) w' := by
  obtain ⟨h1, h2, h3, h4, h5, h6, h7⟩ := h
  refine (Tryz.Builder_WriteString_k b b (Lib.byteCells bs) t W h1 (by rw [Lib.byteCells_length]; exact ht) (by omega)).mono ?_
  rintro e w' ⟨rfl, k1, k2, k3⟩
  have hs := k2.size
  refine ⟨rfl, ?_, ?_, ?_, ?_, h5.trans (k2.mono (by omega)), h6, by omega⟩
  · rw [cells_append]; exact .inr k1
  · rw [k2.cell (p := ⟨w.heap.size, 0, none⟩) h6]; exact h2
  · rw [k2.cell (p := ⟨w.heap.size, 1, none⟩) h6]; exact h3
  · rw [k2.cell (p := ⟨w.heap.size, 2, none⟩) h6]; exact h4
theorem PS.write2 {w : World} {b : Nat} {m f : ByteArray} {a : Option Addr} {n c : Nat} {bs : List UInt8} {W : World} (h : PS w b m f a n c bs W) (t : ByteArray) (ht : bs.length + t.size ≤ 140737488355328) :
    Calls Tryz.prog 39 #[.pointer (some ⟨b, 0, none⟩), .string t] W fun e w' => e = .returned (.tuple #[.int .i64 t.size, .nilIface]) ∧ PS w b m f a n c (bs ++ t.data.toList) w' ∧ Lib.OthersKept 5 (some b) W w' := by
  obtain ⟨h1, h2, h3, h4, h5, h6, h7⟩ := h
  refine (Tryz.Builder_WriteString_k b b (Lib.byteCells bs) t W h1 (by rw [Lib.byteCells_length]; exact ht) (by omega)).mono ?_
  rintro e w' ⟨rfl, k1, k2, k3⟩
  have hs := k2.size
  refine ⟨rfl, ⟨?_, ?_, ?_, ?_, h5.trans (k2.mono (by omega)), h6, by omega⟩, k3⟩
  · rw [cells_append]; exact .inr k1
  · rw [k2.cell (p := ⟨w.heap.size, 0, none⟩) h6]; exact h2
  · rw [k2.cell (p := ⟨w.heap.size, 1, none⟩) h6]; exact h3
  · rw [k2.cell (p := ⟨w.heap.size, 2, none⟩) h6]; exact h4
theorem PS.text {w : World} {b : Nat} {m f : ByteArray} {a : Option Addr} {n c : Nat} {bs : List UInt8} {W : World} (h : PS w b m f a n c bs W) :
    Calls Tryz.prog 40 #[.pointer (some ⟨b, 0, none⟩)] W fun e w' => e = .returned (.string ⟨bs.toArray⟩) ∧ Below w.heap.size w w' := by
  obtain ⟨h1, h2, h3, h4, h5, h6, h7⟩ := h
  refine (Tryz.Builder_String_any_k b b bs W h1 (by omega)).mono ?_
  rintro e w' ⟨rfl, k1, k2, k3⟩
  exact ⟨rfl, h5.trans (k2.mono (by omega))⟩
theorem cleanB_size {s : ByteArray} {k : Int} (h : cleanB s k = true) : (s.size : Int) ≤ k := by
  unfold cleanB at h
  simp at h
  exact h.1.1.2
theorem columnB_size {s : ByteArray} (h : columnB s = true) : s.size ≤ 64 := by
  unfold columnB at h
  simp at h
  have := cleanB_size h.2
  omega
def tagT (t : TagP) : List UInt8 := 44 :: (escL t.1.data.toList ++ 61 :: escL t.2.data.toList)
def printT (s : SerP) : List UInt8 := escL s.m.data.toList ++ s.t.flatMap tagT ++ 32 :: escL s.f.data.toList
/-- the texts of a series. -/
def SerM (s : SerP) : Prop := (∀ i j, MkOk (s.m.extract i j)) ∧ (∀ i j, MkOk (s.f.extract i j)) ∧ ∀ t ∈ s.t, (∀ i j, MkOk (t.1.extract i j)) ∧ ∀ i j, MkOk (t.2.extract i j)
theorem right_parts {s : SerP} (h : rightN s = 0) : s.m.size ≤ 64 ∧ s.f.size ≤ 64 ∧ s.t.length ≤ 8 ∧ ∀ t ∈ s.t, t.1.size ≤ 64 ∧ t.2.size ≤ 256 := by
  unfold rightN at h
  split at h
  · rename_i h1
    split at h
    · rename_i h2
      split at h
      · rename_i h3
        have k1 := cleanB_size h1
        refine ⟨by omega, columnB_size h3, ?_, ?_⟩
        · unfold tagsB at h2; simp at h2; exact h2.1.1
        · intro t ht
          unfold tagsB at h2
          simp only [Bool.and_eq_true, Bool.not_eq_true'] at h2
          have h4 := List.any_eq_false.1 h2.2 t ht
          unfold oddB at h4
          simp at h4
          have := cleanB_size h4.2
          exact ⟨columnB_size h4.1, by omega⟩
      · cases h
    · cases h
  · cases h
theorem tagT_len (t : TagP) : (tagT t).length ≤ 2 * t.1.size + 2 * t.2.size + 2 := by
  unfold tagT
  have h1 := escL_len t.1.data.toList
  have h2 := escL_len t.2.data.toList
  rw [← Lib.size_eq] at h1 h2
  simp
  omega
theorem flat_tag_len (l : List TagP) (h : ∀ t ∈ l, t.1.size ≤ 64 ∧ t.2.size ≤ 256) : (l.flatMap tagT).length ≤ l.length * 642 := by
  induction l with
  | nil => simp
  | cons t r ih =>
    rw [List.flatMap_cons, List.length_append, List.length_cons, Nat.succ_mul]
    have h1 := ih (fun x hx => h x (List.mem_cons_of_mem _ hx))
    have h2 := tagT_len t
    have h3 := h t (by simp)
    omega
end Go.Proofs.YtbojljmacheccaaGreatDoor

namespace Go.Proofs.YtbojljmacheccaaGreatDoor
open Go.RowKit Go.Shelf
set_option linter.unusedVariables false
set_option linter.unusedSimpArgs false
/-- what Unescape tells: a text and where it ends, or where it goes wrong. -/
inductive Out where
  | ok (t : List UInt8) (n : Nat)
  | bad (p : Int)
/-- byte by byte. -/
def unB : Bool → List UInt8 → Nat → List UInt8 → Out
  | true, _, k, [] => .bad ((k : Int) - 1)
  | false, acc, k, [] => .ok acc k
  | true, acc, k, b :: r => if mkL.contains b then unB false (acc ++ [b]) (k + 1) r else .bad ((k : Int) - 1)
  | false, acc, k, b :: r => if b = 92 then unB true acc (k + 1) r else if mkL.contains b then .ok acc k else unB false (acc ++ [b]) (k + 1) r
/-- piece by piece. -/
def outU (l : List UInt8) : Bool → List UInt8 → List (Nat × Nat) → Out
  | true, _, [] => .bad ((l.length : Int) - 1)
  | false, acc, [] => .ok acc l.length
  | true, acc, c :: r => if 0 ≤ idxM ((l.drop c.1).take c.2) then outU l false (acc ++ (l.drop c.1).take c.2) r else .bad ((c.1 : Int) - 1)
  | false, acc, c :: r => if (l.drop c.1).take c.2 = [92] then outU l true acc r else if 0 ≤ idxM ((l.drop c.1).take c.2) then .ok acc c.1 else outU l false (acc ++ (l.drop c.1).take c.2) r
/-- what stands when pieces have gone by: is an escape open, what was said. -/
def stU (l : List UInt8) : Bool → List UInt8 → List (Nat × Nat) → Option (Bool × List UInt8)
  | e, acc, [] => some (e, acc)
  | true, acc, c :: r => if 0 ≤ idxM ((l.drop c.1).take c.2) then stU l false (acc ++ (l.drop c.1).take c.2) r else none
  | false, acc, c :: r => if (l.drop c.1).take c.2 = [92] then stU l true acc r else if 0 ≤ idxM ((l.drop c.1).take c.2) then none else stU l false (acc ++ (l.drop c.1).take c.2) r
theorem stU_out {l : List UInt8} : ∀ {pre : List (Nat × Nat)} {e : Bool} {acc : List UInt8} {e' : Bool} {acc' : List UInt8} (r : List (Nat × Nat)), stU l e acc pre = some (e', acc') → outU l e acc (pre ++ r) = outU l e' acc' r
  | [], e, acc, e', acc', r, h => by
    cases e <;> (simp [stU] at h; obtain ⟨rfl, rfl⟩ := h; rfl)
  | c :: p, true, acc, e', acc', r, h => by
    rw [stU] at h
    rw [List.cons_append, outU]
    by_cases h1 : 0 ≤ idxM ((l.drop c.1).take c.2)
    · rw [if_pos h1] at h ⊢; exact stU_out r h
    · rw [if_neg h1] at h; cases h
  | c :: p, false, acc, e', acc', r, h => by
    rw [stU] at h
    rw [List.cons_append, outU]
    by_cases h0 : (l.drop c.1).take c.2 = [92]
    · rw [if_pos h0] at h ⊢; exact stU_out r h
    · rw [if_neg h0] at h ⊢
      by_cases h1 : 0 ≤ idxM ((l.drop c.1).take c.2)
      · rw [if_pos h1] at h; cases h
      · rw [if_neg h1] at h ⊢; exact stU_out r h
theorem stU_snoc {l : List UInt8} : ∀ {pre : List (Nat × Nat)} {e : Bool} {acc : List UInt8} {e' : Bool} {acc' : List UInt8} (x : Nat × Nat), stU l e acc pre = some (e', acc') → stU l e acc (pre ++ [x]) = stU l e' acc' [x]
  | [], e, acc, e', acc', x, h => by
    cases e <;> (simp [stU] at h; obtain ⟨rfl, rfl⟩ := h; rfl)
  | c :: p, true, acc, e', acc', x, h => by
    rw [stU] at h
    rw [List.cons_append, stU]
    by_cases h1 : 0 ≤ idxM ((l.drop c.1).take c.2)
    · rw [if_pos h1] at h ⊢; exact stU_snoc x h
    · rw [if_neg h1] at h; cases h
  | c :: p, false, acc, e', acc', x, h => by
    rw [stU] at h
    rw [List.cons_append, stU]
    by_cases h0 : (l.drop c.1).take c.2 = [92]
    · rw [if_pos h0] at h ⊢; exact stU_snoc x h
    · rw [if_neg h0] at h ⊢
      by_cases h1 : 0 ≤ idxM ((l.drop c.1).take c.2)
      · rw [if_pos h1] at h; cases h
      · rw [if_neg h1] at h ⊢; exact stU_snoc x h
theorem unB_run : ∀ (p : List UInt8) (acc : List UInt8) (k : Nat) (r : List UInt8), noM p → unB false acc k (p ++ r) = unB false (acc ++ p) (k + p.length) r
  | [], acc, k, r, h => by simp
  | b :: p, acc, k, r, h => by
    have hb := h b (by simp)
    have h92 : ¬ b = 92 := by intro e; subst e; revert hb; decide
    rw [List.cons_append, unB, if_neg h92, hb]
    simp only [Bool.false_eq_true, if_false]
    rw [unB_run p _ _ r (fun x hx => h x (List.mem_cons_of_mem _ hx)), List.length_cons]
    rw [show acc ++ [b] ++ p = acc ++ b :: p by simp, show k + 1 + p.length = k + (p.length + 1) by omega]
theorem first_kind {l : List UInt8} (h : l ≠ []) : (∃ b, l.take (szM l) = [b] ∧ mkL.contains b = true ∧ 0 ≤ idxM (l.take (szM l))) ∨ (noM (l.take (szM l)) ∧ l.take (szM l) ≠ [] ∧ ¬ 0 ≤ idxM (l.take (szM l))) := by
  have hg := idxM_ge l
  have hz := szM_ok h
  have hne : l.take (szM l) ≠ [] := by
    intro e
    have := congrArg List.length e
    rw [List.length_take, List.length_nil] at this
    omega
  by_cases h1 : idxM l = -1
  · right
    have e : szM l = l.length := by unfold szM; rw [if_pos h1]
    refine ⟨?_, hne, ?_⟩
    · rw [e, List.take_length]; exact idxM_none.1 h1
    · rw [e, List.take_length]; omega
  · obtain ⟨i, hi⟩ : ∃ i : Nat, idxM l = (i : Int) := ⟨(idxM l).toNat, by omega⟩
    obtain ⟨k1, k2, b, k3, k4⟩ := idxM_hit hi
    by_cases h2 : idxM l = 0
    · left
      obtain rfl : i = 0 := by omega
      have e : szM l = 1 := by unfold szM; rw [if_neg h1, if_pos h2]
      cases l with
      | nil => exact absurd rfl h
      | cons x r =>
        simp at k3
        subst k3
        rw [e]
        refine ⟨x, by simp, k4, ?_⟩
        rw [show (x :: r).take 1 = [x] by simp, idxM_cons, k4]
        simp
    · right
      have e : szM l = i := by unfold szM; rw [if_neg h1, if_neg h2, hi]; rfl
      rw [e] at hne ⊢
      refine ⟨k2, hne, ?_⟩
      rw [idxM_none.2 k2]; omega
theorem out_bytes (l : List UInt8) : ∀ n k e acc, l.length - k ≤ n → k ≤ l.length → outU l e acc (cutsF l n k) = unB e acc k (l.drop k)
  | 0, k, e, acc, h, hk => by
    have : l.drop k = [] := List.drop_eq_nil_of_le (by omega)
    obtain rfl : k = l.length := by omega
    rw [this]
    cases e <;> rfl
  | n + 1, k, e, acc, h, hk => by
    by_cases hlt : k < l.length
    · rw [cuts_step hlt]
      have hne : l.drop k ≠ [] := by
        intro e
        have := congrArg List.length e
        simp at this
        omega
      have hz := szM_ok hne
      have hsplit : l.drop k = (l.drop k).take (szM (l.drop k)) ++ l.drop (k + szM (l.drop k)) := by
        rw [← List.drop_drop, List.take_append_drop]
      have hlen : ((l.drop k).take (szM (l.drop k))).length = szM (l.drop k) := by rw [List.length_take]; omega
      have hzl : szM (l.drop k) ≤ l.length - k := by have := hz.2; rw [List.length_drop] at this; exact this
      have ih := fun e acc => out_bytes l n (k + szM (l.drop k)) e acc (by omega) (by omega)
      rcases first_kind hne with ⟨b, e1, e2, e3⟩ | ⟨e1, e2, e3⟩
      · have hz1 : szM (l.drop k) = 1 := by rw [← hlen, e1]; rfl
        have hd : l.drop k = b :: l.drop (k + 1) := by rw [hz1, show (l.drop k).take 1 = [b] by rw [← hz1]; exact e1] at hsplit; exact hsplit
        rw [hz1] at ih e1 e3 ⊢
        cases e with
        | true =>
          rw [outU]
          simp only
          rw [if_pos e3, ih, e1, hd, unB, if_pos e2]
        | false =>
          rw [outU]
          simp only
          rw [e1, hd, unB]
          by_cases hb : b = 92
          · subst hb; rw [if_pos rfl, if_pos rfl, ih]
          · rw [if_neg (by simpa using hb), if_neg hb, if_pos (by rw [← e1]; exact e3), if_pos e2]
      · cases e with
        | true =>
          rw [outU]
          simp only
          rw [if_neg e3, hsplit]
          cases hp : (l.drop k).take (szM (l.drop k)) with
          | nil => exact absurd hp e2
          | cons b p =>
            rw [List.cons_append, unB, e1 b (by rw [hp]; simp)]
            rfl
        | false =>
          rw [outU]
          simp only
          rw [if_neg (by intro e4; have := e1 92 (by rw [e4]; simp); revert this; decide), if_neg e3, ih]
          conv => rhs; rw [hsplit]
          rw [unB_run _ _ _ _ e1, hlen]
    · rw [cuts_end (by omega)]
      have : l.drop k = [] := List.drop_eq_nil_of_le (by omega)
      obtain rfl : k = l.length := by omega
      rw [this]
      cases e <;> rfl
theorem unB_esc : ∀ (t : List UInt8) (acc : List UInt8) (k : Nat) (r : List UInt8), unB false acc k (escL t ++ r) = unB false (acc ++ t) (k + (escL t).length) r
  | [], acc, k, r => by simp [escL]
  | b :: t, acc, k, r => by
    have e : escL (b :: t) = (if mkL.contains b then [92, b] else [b]) ++ escL t := by unfold escL; rw [List.flatMap_cons]
    rw [e]
    cases hb : mkL.contains b with
    | true =>
      simp only [if_true]
      rw [show [92, b] ++ escL t ++ r = 92 :: b :: (escL t ++ r) by simp, unB, if_pos rfl, unB, if_pos hb, unB_esc t]
      rw [show acc ++ [b] ++ t = acc ++ b :: t by simp]
      simp only [List.length_append, List.length_cons, List.length_nil]
      rw [show k + 1 + 1 + (escL t).length = k + (0 + 1 + 1 + (escL t).length) by omega]
    | false =>
      simp only [Bool.false_eq_true, if_false]
      have h92 : ¬ b = 92 := by intro e; subst e; revert hb; decide
      rw [show [b] ++ escL t ++ r = b :: (escL t ++ r) by simp, unB, if_neg h92, hb]
      simp only [Bool.false_eq_true, if_false]
      rw [unB_esc t]
      rw [show acc ++ [b] ++ t = acc ++ b :: t by simp]
      simp only [List.length_append, List.length_cons, List.length_nil]
      rw [show k + 1 + (escL t).length = k + (0 + 1 + (escL t).length) by omega]
/-- what Unescape tells of a text. -/
def uneT (l : List UInt8) : Out := unB false [] 0 l
theorem uneT_esc (t : List UInt8) : uneT (escL t) = .ok t (escL t).length := by
  have := unB_esc t [] 0 []
  rw [List.append_nil] at this
  unfold uneT
  rw [this]
  simp [unB]
theorem uneT_sign (t r : List UInt8) (b : UInt8) (hb : mkL.contains b = true) (h92 : b ≠ 92) : uneT (escL t ++ b :: r) = .ok t (escL t).length := by
  unfold uneT
  rw [unB_esc t [] 0 (b :: r), unB, if_neg h92, if_pos hb]
  simp
end Go.Proofs.YtbojljmacheccaaGreatDoor

namespace Go.Proofs.YtbojljmacheccaaGreatDoor
open Go.RowKit Go.Shelf
set_option linter.unusedVariables false
set_option linter.unusedSimpArgs false
theorem unB_ok : ∀ (l : List UInt8) (e : Bool) (acc : List UInt8) (k : Nat) (t : List UInt8) (n : Nat), unB e acc k l = .ok t n →
    ∃ m u, n = k + m ∧ m ≤ l.length ∧ t = acc ++ u ∧ (if e then 92 :: l.take m else l.take m) = escL u
  | [], true, acc, k, t, n, h => by simp [unB] at h
  | [], false, acc, k, t, n, h => by
    simp [unB] at h
    obtain ⟨rfl, rfl⟩ := h
    exact ⟨0, [], by simp, by simp, by simp, by simp [escL]⟩
  | b :: r, true, acc, k, t, n, h => by
    rw [unB] at h
    by_cases hb : mkL.contains b = true
    · rw [if_pos hb] at h
      obtain ⟨m, u, h1, h2, h3, h4⟩ := unB_ok r false (acc ++ [b]) (k + 1) t n h
      refine ⟨m + 1, b :: u, by omega, by simp; omega, by rw [h3]; simp, ?_⟩
      simp only [Bool.false_eq_true, if_false] at h4
      simp only [if_true, List.take_succ_cons]
      rw [h4]
      unfold escL
      rw [List.flatMap_cons, if_pos hb]
      rfl
    · rw [if_neg hb] at h; cases h
  | b :: r, false, acc, k, t, n, h => by
    rw [unB] at h
    by_cases h92 : b = 92
    · rw [if_pos h92] at h
      obtain ⟨m, u, h1, h2, h3, h4⟩ := unB_ok r true acc (k + 1) t n h
      refine ⟨m + 1, u, by omega, by simp; omega, h3, ?_⟩
      simp only [if_true] at h4
      simp only [Bool.false_eq_true, if_false, List.take_succ_cons]
      rw [h92]; exact h4
    · rw [if_neg h92] at h
      by_cases hb : mkL.contains b = true
      · rw [if_pos hb] at h
        injection h with h1 h2
        subst h1 h2
        exact ⟨0, [], by simp, by simp, by simp, by simp [escL]⟩
      · rw [if_neg hb] at h
        obtain ⟨m, u, h1, h2, h3, h4⟩ := unB_ok r false (acc ++ [b]) (k + 1) t n h
        refine ⟨m + 1, b :: u, by omega, by simp; omega, by rw [h3]; simp, ?_⟩
        simp only [Bool.false_eq_true, if_false] at h4
        simp only [Bool.false_eq_true, if_false, List.take_succ_cons]
        rw [h4]
        unfold escL
        rw [List.flatMap_cons, if_neg hb]
        rfl
theorem unB_bad : ∀ (l : List UInt8) (e : Bool) (acc : List UInt8) (k : Nat) (p : Int), unB e acc k l = .bad p → (k : Int) - 1 ≤ p ∧ p ≤ k + l.length
  | [], true, acc, k, p, h => by simp [unB] at h; simp; omega
  | [], false, acc, k, p, h => by simp [unB] at h
  | b :: r, true, acc, k, p, h => by
    rw [unB] at h
    split at h
    · have := unB_bad r false _ _ p h; simp; omega
    · injection h with h; simp; omega
  | b :: r, false, acc, k, p, h => by
    rw [unB] at h
    split at h
    · have := unB_bad r true _ _ p h; simp; omega
    · split at h
      · cases h
      · have := unB_bad r false _ _ p h; simp; omega
theorem uneT_ok {l t : List UInt8} {n : Nat} (h : uneT l = .ok t n) : n ≤ l.length ∧ l.take n = escL t := by
  obtain ⟨m, u, h1, h2, h3, h4⟩ := unB_ok l false [] 0 t n h
  simp at h1 h3 h4
  subst h1 h3
  exact ⟨h2, h4⟩
theorem uneT_bad {l : List UInt8} {p : Int} (h : uneT l = .bad p) : -1 ≤ p ∧ p ≤ l.length := by
  have := unB_bad l false [] 0 p h
  simp at this
  omega
/-- where a reader stands: its place, and its fault's. -/
abbrev StP := Nat × Option Int
def failP (st : StP) (p : Int) : StP := if st.2 = none then (st.1, some p) else st
def wordP (l : List UInt8) (st : StP) : List UInt8 × StP :=
  if st.2 = none then
    match uneT (l.drop st.1) with
    | .ok t n => (t, (st.1 + n, none))
    | .bad p => ([], (st.1, some ((st.1 : Int) + p)))
  else ([], st)
def folP (l : List UInt8) (c : UInt8) (st : StP) : Bool := decide (st.2 = none) && decide (l[st.1]? = some c)
def mustP (l : List UInt8) (c : UInt8) (st : StP) : StP := if folP l c st then (st.1 + 1, none) else failP st st.1
def endP (l : List UInt8) (st : StP) : StP := if st.1 < l.length then failP st st.1 else st
def ba (t : List UInt8) : ByteArray := ⟨t.toArray⟩
/-- one tag, behind its comma. -/
def oneP (l : List UInt8) (st : StP) : TagP × StP :=
  ((ba (wordP l st).1, ba (wordP l (mustP l 61 (wordP l st).2)).1), (wordP l (mustP l 61 (wordP l st).2)).2)
def tagsP (l : List UInt8) : Nat → StP → List TagP → List TagP × StP
  | 0, st, acc => (acc, st)
  | n + 1, st, acc => if folP l 44 st then tagsP l n (oneP l (st.1 + 1, none)).2 (acc ++ [(oneP l (st.1 + 1, none)).1]) else (acc, st)
def tagsR (l : List UInt8) (st : StP) (acc : List TagP) : List TagP × StP := tagsP l (l.length + 1 - st.1) st acc
theorem failP_at (st : StP) (p : Int) : (failP st p).1 = st.1 := by unfold failP; split <;> rfl
theorem wordP_le {l : List UInt8} {st : StP} (h : st.1 ≤ l.length) : st.1 ≤ (wordP l st).2.1 ∧ (wordP l st).2.1 ≤ l.length := by
  unfold wordP
  split
  · split
    · rename_i t n e
      have := (uneT_ok e).1
      simp at this ⊢
      omega
    · simp; exact h
  · exact ⟨Nat.le_refl _, h⟩
theorem fol_lt {l : List UInt8} {c : UInt8} {st : StP} (h : folP l c st = true) : st.2 = none ∧ st.1 < l.length ∧ l[st.1]? = some c := by
  unfold folP at h
  simp at h
  exact ⟨h.1, (List.getElem?_eq_some_iff.1 h.2).1, h.2⟩
theorem mustP_le {l : List UInt8} {c : UInt8} {st : StP} (h : st.1 ≤ l.length) : st.1 ≤ (mustP l c st).1 ∧ (mustP l c st).1 ≤ l.length := by
  unfold mustP
  split
  · rename_i e
    have := (fol_lt e).2.1
    simp; omega
  · rw [failP_at]; exact ⟨Nat.le_refl _, h⟩
theorem oneP_le {l : List UInt8} {st : StP} (h : st.1 ≤ l.length) : st.1 ≤ (oneP l st).2.1 ∧ (oneP l st).2.1 ≤ l.length := by
  have h1 := wordP_le h
  have h2 := mustP_le (c := 61) h1.2
  have h3 := wordP_le h2.2
  unfold oneP
  simp only
  omega
theorem tagsP_fuel (l : List UInt8) : ∀ (n m : Nat) (st : StP) (acc : List TagP), l.length - st.1 < n → l.length - st.1 < m → tagsP l n st acc = tagsP l m st acc
  | 0, m, st, acc, h, _ => by omega
  | n + 1, 0, st, acc, _, h => by omega
  | n + 1, m + 1, st, acc, h, h' => by
    rw [tagsP, tagsP]
    cases hf : folP l 44 st with
    | false => rfl
    | true =>
      simp only [if_true]
      have h1 := (fol_lt hf).2.1
      have h2 := oneP_le (l := l) (st := (st.1 + 1, none)) (by simp; omega)
      simp only at h2
      exact tagsP_fuel l n m _ _ (by omega) (by omega)
theorem tagsR_step {l : List UInt8} {st : StP} (acc : List TagP) (h : folP l 44 st = true) : tagsR l st acc = tagsR l (oneP l (st.1 + 1, none)).2 (acc ++ [(oneP l (st.1 + 1, none)).1]) := by
  have h1 := (fol_lt h).2.1
  have h2 := oneP_le (l := l) (st := (st.1 + 1, none)) (by simp; omega)
  simp only at h2
  unfold tagsR
  rw [show l.length + 1 - st.1 = (l.length - st.1) + 1 by omega, tagsP, if_pos h]
  exact tagsP_fuel l _ _ _ _ (by omega) (by omega)
theorem tagsR_end {l : List UInt8} {st : StP} (acc : List TagP) (h : folP l 44 st = false) (hl : st.1 ≤ l.length) : tagsR l st acc = (acc, st) := by
  unfold tagsR
  rw [show l.length + 1 - st.1 = (l.length - st.1) + 1 by omega, tagsP, h]
  rfl
def measP (l : List UInt8) : List UInt8 × StP := wordP l (0, none)
def tagsL (l : List UInt8) : List TagP × StP := tagsR l (measP l).2 []
def fieldP (l : List UInt8) : List UInt8 × StP := wordP l (mustP l 32 (tagsL l).2)
def stopP (l : List UInt8) : StP := endP l (fieldP l).2
/-- what is read of a key. -/
def serP (l : List UInt8) : SerP := ⟨ba (measP l).1, (tagsL l).1, ba (fieldP l).1⟩
end Go.Proofs.YtbojljmacheccaaGreatDoor

namespace Go.Proofs.YtbojljmacheccaaGreatDoor.Ln
set_option linter.unusedVariables false
set_option linter.unusedSimpArgs false
/-- a name or text unescaped, as the key's texts tell it. -/
def unK : UnF := fun l => match uneT l with
  | .ok t n => .ok (t, n)
  | .bad p => .error p
theorem okK : Ok unK nvL escL Lib.itoa I64L := ok_of (fun t b r hb => by
  have h : uneT (escL t ++ b :: r) = .ok t (escL t).length := by
    rcases hb with rfl | rfl | rfl
    · exact uneT_sign t r 44 (by decide) (by decide)
    · exact uneT_sign t r 61 (by decide) (by decide)
    · exact uneT_sign t r 32 (by decide) (by decide)
  unfold unK
  rw [h])
theorem bkK : Bk unK nvL escL Lib.itoa := bk_of (fun l t n h => by
  unfold unK at h
  cases hu : uneT l with
  | ok t' n' =>
    rw [hu] at h
    injection h with h; injection h with h1 h2
    subst h1; subst h2
    exact ⟨(uneT_ok hu).2, (uneT_ok hu).1⟩
  | bad p => rw [hu] at h; cases h)
theorem exK : Ex escL Lib.itoa := ex_of (fun t ht => by
    induction t with
    | nil => rfl
    | cons c r ih =>
      rw [feed_cons] at ht
      show feedAt ((if mkL.contains c then [92, c] else [c]) ++ escL r) = none
      rw [feed_app]
      refine ⟨?_, ih ht.2⟩
      split
      · rw [feed_cons, feed_cons]; exact ⟨by decide, ht.1, rfl⟩
      · rw [feed_cons]; exact ⟨ht.1, rfl⟩) (fun t r ht h => by
    cases t with
    | nil => exact absurd rfl ht
    | cons c q =>
      replace h : (((if mkL.contains c then [92, c] else [c]) ++ escL q) ++ r).head? = some 35 := h
      split at h
      · injection h with h; exact absurd h (by decide)
      · exact h)
end Go.Proofs.YtbojljmacheccaaGreatDoor.Ln

namespace Go.Proofs.YtbojljmacheccaaGreatDoor
open Go.RowKit Go.Shelf
set_option linter.unusedVariables false
set_option linter.unusedSimpArgs false
theorem word_sign (p t r : List UInt8) (c : UInt8) (hb : mkL.contains c = true) (h92 : c ≠ 92) : wordP (p ++ (escL t ++ c :: r)) (p.length, none) = (t, (p.length + (escL t).length, none)) := by
  unfold wordP
  rw [if_pos rfl]
  simp only
  rw [List.drop_left, uneT_sign t r c hb h92]
theorem word_end (p t : List UInt8) : wordP (p ++ escL t) (p.length, none) = (t, (p.length + (escL t).length, none)) := by
  unfold wordP
  rw [if_pos rfl]
  simp only
  rw [List.drop_left, uneT_esc t]
theorem fol_here (p r : List UInt8) (c d : UInt8) : folP (p ++ c :: r) d (p.length, none) = decide (c = d) := by
  unfold folP
  simp
theorem must_here (p r : List UInt8) (c : UInt8) : mustP (p ++ c :: r) c (p.length, none) = (p.length + 1, none) := by
  unfold mustP
  rw [fol_here]
  simp
theorem ba_back (t : ByteArray) : ba t.data.toList = t := by unfold ba; simp
theorem one_here (p r : List UInt8) (c : UInt8) (t : TagP) (hb : mkL.contains c = true) (h92 : c ≠ 92) : oneP (p ++ (tagT t ++ c :: r)) (p.length + 1, none) = (t, ((p ++ tagT t).length, none)) := by
  have e1 : p ++ (tagT t ++ c :: r) = (p ++ [44]) ++ (escL t.1.data.toList ++ 61 :: (escL t.2.data.toList ++ c :: r)) := by simp [tagT]
  have w1 := word_sign (p ++ [44]) t.1.data.toList (escL t.2.data.toList ++ c :: r) 61 (by decide) (by decide)
  rw [← e1] at w1
  rw [show (p ++ [(44 : UInt8)]).length = p.length + 1 by simp] at w1
  have e2 : p ++ (tagT t ++ c :: r) = (p ++ 44 :: escL t.1.data.toList) ++ 61 :: (escL t.2.data.toList ++ c :: r) := by simp [tagT]
  have w2 := must_here (p ++ 44 :: escL t.1.data.toList) (escL t.2.data.toList ++ c :: r) 61
  rw [← e2] at w2
  rw [show (p ++ (44 : UInt8) :: escL t.1.data.toList).length = p.length + 1 + (escL t.1.data.toList).length by simp; omega] at w2
  have e3 : p ++ (tagT t ++ c :: r) = (p ++ (44 :: escL t.1.data.toList ++ [61])) ++ (escL t.2.data.toList ++ c :: r) := by simp [tagT]
  have w3 := word_sign (p ++ (44 :: escL t.1.data.toList ++ [61])) t.2.data.toList r c hb h92
  rw [← e3] at w3
  rw [show List.length (p ++ ((44 : UInt8) :: escL t.1.data.toList ++ [(61 : UInt8)])) = p.length + 1 + (escL t.1.data.toList).length + 1 by simp; omega] at w3
  unfold oneP
  rw [w1]
  simp only
  rw [w2, w3]
  simp only [ba_back]
  refine Prod.ext rfl (Prod.ext ?_ rfl)
  simp [tagT]; omega
theorem tags_here : ∀ (ts : List TagP) (p r : List UInt8) (acc : List TagP), tagsR (p ++ (ts.flatMap tagT ++ 32 :: r)) (p.length, none) acc = (acc ++ ts, ((p ++ ts.flatMap tagT).length, none))
  | [], p, r, acc => by
    rw [tagsR_end]
    · simp
    · show folP (p ++ 32 :: r) 44 (p.length, none) = false
      rw [fol_here]; decide
    · simp
  | t :: ts, p, r, acc => by
    have hc : ∃ c r', (ts.flatMap tagT ++ 32 :: r) = c :: r' ∧ mkL.contains c = true ∧ c ≠ 92 := by
      cases ts with
      | nil => exact ⟨32, r, rfl, by decide, by decide⟩
      | cons u us => exact ⟨44, _, rfl, by decide, by decide⟩
    obtain ⟨c, r', e, hb, h92⟩ := hc
    have e1 : p ++ ((t :: ts).flatMap tagT ++ 32 :: r) = p ++ (tagT t ++ c :: r') := by rw [List.flatMap_cons, List.append_assoc, e]
    have hf : folP (p ++ (tagT t ++ c :: r')) 44 (p.length, none) = true := by
      show folP (p ++ 44 :: _) 44 (p.length, none) = true
      rw [fol_here]; decide
    rw [e1, tagsR_step acc hf, one_here p r' c t hb h92]
    simp only
    rw [← e, ← List.append_assoc, tags_here ts (p ++ tagT t) r (acc ++ [t])]
    simp [List.append_assoc]
/-- a key that was printed is read. -/
theorem parse_print (s : SerP) : serP (printT s) = s ∧ (stopP (printT s)).2 = none := by
  have hc : ∃ c r', (s.t.flatMap tagT ++ 32 :: escL s.f.data.toList) = c :: r' ∧ mkL.contains c = true ∧ c ≠ 92 := by
    cases s.t with
    | nil => exact ⟨32, _, rfl, by decide, by decide⟩
    | cons u us => exact ⟨44, _, rfl, by decide, by decide⟩
  obtain ⟨c, r', e, hb, h92⟩ := hc
  have e0 : printT s = escL s.m.data.toList ++ (s.t.flatMap tagT ++ 32 :: escL s.f.data.toList) := by unfold printT; rw [List.append_assoc]
  have h1 : measP (printT s) = (s.m.data.toList, ((escL s.m.data.toList).length, none)) := by
    unfold measP
    rw [e0, e]
    have := word_sign [] s.m.data.toList r' c hb h92
    simpa using this
  have h2 : tagsL (printT s) = (s.t, ((escL s.m.data.toList ++ s.t.flatMap tagT).length, none)) := by
    unfold tagsL
    rw [h1]
    simp only
    rw [e0]
    exact tags_here s.t _ _ []
  have h3 : mustP (printT s) 32 (tagsL (printT s)).2 = ((escL s.m.data.toList ++ s.t.flatMap tagT).length + 1, none) := by
    rw [h2]
    exact must_here (escL s.m.data.toList ++ s.t.flatMap tagT) (escL s.f.data.toList) 32
  have h4 : fieldP (printT s) = (s.f.data.toList, ((printT s).length, none)) := by
    unfold fieldP
    rw [h3]
    have := word_end (escL s.m.data.toList ++ s.t.flatMap tagT ++ [32]) s.f.data.toList
    have e5 : escL s.m.data.toList ++ s.t.flatMap tagT ++ [32] ++ escL s.f.data.toList = printT s := by unfold printT; simp
    rw [e5] at this
    rw [show (escL s.m.data.toList ++ s.t.flatMap tagT ++ [(32 : UInt8)]).length = (escL s.m.data.toList ++ s.t.flatMap tagT).length + 1 by simp; omega] at this
    rw [this]
    refine Prod.ext rfl (Prod.ext ?_ rfl)
    unfold printT; simp; omega
  constructor
  · unfold serP
    rw [h1, h2, h4]
    simp only [ba_back]
  · unfold stopP endP
    rw [h4]
    simp
theorem ba_data (t : List UInt8) : (ba t).data.toList = t := by unfold ba; simp
theorem measP_le (l : List UInt8) : (measP l).2.1 ≤ l.length := (wordP_le (l := l) (st := (0, none)) (by simp)).2
end Go.Proofs.YtbojljmacheccaaGreatDoor

namespace Go.Proofs.YtbojljmacheccaaGreatDoor
open Go.RowKit Go.Shelf
attribute [local go_sem] Oper.semAt_some
set_option linter.unusedVariables false
set_option linter.unusedSimpArgs false
/-- an error at a place, as Unescape tells it. -/
def atV (p : Int) : Value := .iface 105 (.agg #[.int .i64 p, .iface 33 (.int .i64 53)])
set_option maxRecDepth 100000 in
theorem at_any (p : Int) (w : World) : Calls Tryz.prog 151 #[.int .i64 p, .int .i64 53] w fun e w' => e = .returned (atV p) ∧ Below w.heap.size w w' := by
  go_enter Tryz.func151, Tryz.ntmps151
  go_wp2_with fail
  go_ret
  exact ⟨rfl, by first | exact Below.refl _ _ | exact (Below.refl _ w).alloc (Nat.le_refl _) _⟩
theorem boxed_below {W W' : World} {B : Nat} {t : TypeId} {v : Value} (h : Boxed W B t v) (hb : Below W.heap.size W W') : Boxed W' B t v := h.kept (below_grown hb) (by simp)
theorem boxed_others {W W' : World} {B b : Nat} {t : TypeId} {v : Value} (h : Boxed W B t v) (hO : Lib.OthersKept 5 (some b) W W') (hne : B ≠ b) (ht : t ≠ 5) : Boxed W' B t v :=
  hO B _ h (by simpa using hne) (fun c fz e => by cases e; exact ht rfl)
theorem builderAt_set {B b j : Nat} {p : Value} {bs : List Value} {W : World} {t : TypeId} {u : Value} (h : Lib.BuilderAtF 115 5 B b p bs W) (hj : Boxed W j t u) (hne : j ≠ b) (ht : t ≠ 5) (v : Value) : Lib.BuilderAtF 115 5 B b p bs (W.setCell ⟨j, 0, none⟩ v) := by
  have hlt := h.lt
  obtain ⟨hB, x, hv, hown, hn⟩ := h
  have hg := grownBy_setCell' W j v
  refine ⟨hB, x, ?_, ⟨hown.1, ?_⟩, hn⟩
  · exact (hg.block b hlt (fun e => hne (by cases e; rfl))).trans hv
  · rcases hown.2 with hn2 | ⟨g, cap, cur, fz, hv2, hbg, hgg, rest⟩
    · exact .inl hn2
    · refine .inr ⟨g, cap, cur, fz, hv2, hbg, ?_, rest⟩
      refine (hg.block g (Array.getElem?_eq_some_iff.1 hgg).1 (fun e => ?_)).trans hgg
      cases e
      have hj' : W.heap[j]? = some (.cells #[u] t (0, 0)) := hj
      rw [hgg] at hj'
      cases hj'
      exact ht rfl
theorem builder_set {B b j : Nat} {bs : List Value} {W : World} {t : TypeId} {u : Value} (h : Lib.IsBuilderF 115 5 B b bs W) (hj : Boxed W j t u) (hne : j ≠ b) (ht : t ≠ 5) (v : Value) : Lib.IsBuilderF 115 5 B b bs (W.setCell ⟨j, 0, none⟩ v) :=
  h.elim (fun x => .inl (builderAt_set x hj hne ht v)) (fun x => .inr (builderAt_set x hj hne ht v))
/-- the three results. -/
def RS (w : World) (t : ByteArray) (n : Int) (er : Value) (W : World) : Prop := Boxed W w.heap.size 9 (.string t) ∧ Boxed W (w.heap.size + 1) 3 (.int .i64 n) ∧ Boxed W (w.heap.size + 2) 26 er
/-- while a text is read: the Builder holds what was said, is an escape open. -/
def US (s : ByteArray) (w : World) (e : Bool) (acc : List UInt8) (W : World) : Prop := Lib.IsBuilderF 115 5 (w.heap.size + 3) (w.heap.size + 3) (Lib.byteCells acc) W ∧ Boxed W (w.heap.size + 4) 4 (.bool e) ∧ Boxed W (w.heap.size + 5) 9 (.string s) ∧ RS w ⟨#[]⟩ 0 .nilIface W ∧ Below w.heap.size w W
theorem US.below {s : ByteArray} {w : World} {e : Bool} {acc : List UInt8} {W W' : World} (h : US s w e acc W) (hb : Below W.heap.size W W') : US s w e acc W' := by
  obtain ⟨h1, h2, h3, ⟨h4, h5, h6⟩, h7⟩ := h
  exact ⟨builder_below h1 hb, boxed_below h2 hb, boxed_below h3 hb, ⟨boxed_below h4 hb, boxed_below h5 hb, boxed_below h6 hb⟩, h7.trans (hb.mono h7.size)⟩
theorem US.setE {s : ByteArray} {w : World} {e : Bool} {acc : List UInt8} {W : World} (h : US s w e acc W) (e' : Bool) : US s w e' acc (W.setCell ⟨w.heap.size + 4, 0, none⟩ (.bool e')) := by
  obtain ⟨h1, h2, h3, ⟨h4, h5, h6⟩, h7⟩ := h
  exact ⟨builder_set h1 h2 (by omega) (by decide) _, h2.set _, h3.other (by omega) _, ⟨h4.other (by omega) _, h5.other (by omega) _, h6.other (by omega) _⟩, h7.setCell (p := ⟨w.heap.size + 4, 0, none⟩) (by simp) _⟩
theorem US.lt {s : ByteArray} {w : World} {e : Bool} {acc : List UInt8} {W : World} (h : US s w e acc W) : w.heap.size + 5 < W.heap.size := h.2.2.1.lt
theorem US.write {s : ByteArray} {w : World} {e : Bool} {acc : List UInt8} {W : World} (h : US s w e acc W) (t : ByteArray) (ht : acc.length + t.size ≤ 140737488355328) :
    Calls Tryz.prog 39 #[.pointer (some ⟨w.heap.size + 3, 0, none⟩), .string t] W fun ev w' => ev = .returned (.tuple #[.int .i64 t.size, .nilIface]) ∧ US s w e (acc ++ t.data.toList) w' ∧ KeepsOthers W w' ∧ KeepB (w.heap.size + 5) W w' := by
  have hl := h.lt
  obtain ⟨h1, h2, h3, ⟨h4, h5, h6⟩, h7⟩ := h
  refine (Tryz.Builder_WriteString_k (w.heap.size + 3) (w.heap.size + 3) (Lib.byteCells acc) t W h1 (by rw [Lib.byteCells_length]; exact ht) (by omega)).mono ?_
  rintro ev w' ⟨rfl, k1, k2, k3⟩
  have k5 := boxed_others h3 k3 (by omega) (by decide)
  refine ⟨rfl, ⟨?_, boxed_others h2 k3 (by omega) (by decide), k5, ⟨boxed_others h4 k3 (by omega) (by decide), boxed_others h5 k3 (by omega) (by decide), boxed_others h6 k3 (by omega) (by decide)⟩, h7.trans (k2.mono (by omega))⟩, others_keeps (p := undef) k3 k2.size h1, k2.size, ?_⟩
  · rw [cells_append]; exact .inr k1
  · have a1 : w'.heap[w.heap.size + 5]? = _ := k5
    have a2 : W.heap[w.heap.size + 5]? = _ := h3
    rw [a1, a2]
theorem US.text {s : ByteArray} {w : World} {e : Bool} {acc : List UInt8} {W : World} (h : US s w e acc W) :
    Calls Tryz.prog 40 #[.pointer (some ⟨w.heap.size + 3, 0, none⟩)] W fun ev w' => ev = .returned (.string ⟨acc.toArray⟩) ∧ US s w e acc w' ∧ KeepsOthers W w' := by
  have hl := h.lt
  obtain ⟨h1, h2, h3, ⟨h4, h5, h6⟩, h7⟩ := h
  refine (Tryz.Builder_String_any_k (w.heap.size + 3) (w.heap.size + 3) acc W h1 (by omega)).mono ?_
  rintro ev w' ⟨rfl, k1, k2, k3⟩
  exact ⟨rfl, ⟨k1, boxed_others h2 k3 (by omega) (by decide), boxed_others h3 k3 (by omega) (by decide), ⟨boxed_others h4 k3 (by omega) (by decide), boxed_others h5 k3 (by omega) (by decide), boxed_others h6 k3 (by omega) (by decide)⟩, h7.trans (k2.mono (by omega))⟩, others_keeps (p := undef) k3 k2.size h1⟩
theorem boxed_kept {W W' : World} {row : Option Nat} {B : Nat} {t : TypeId} {v : Value} (h : Boxed W B t v) (hg : W.grownBy W' row) (hr : ∀ r, row = some r → ∃ o : Obj, W.heap[r]? = some o ∧ o.isCells = false) : Boxed W' B t v := h.kept hg (fun e => by
  obtain ⟨o, ho, hc⟩ := hr B e.symm
  have h' : W.heap[B]? = some (.cells #[v] t (0, 0)) := h
  rw [h'] at ho
  cases ho
  cases hc)
theorem US.own {s : ByteArray} {w : World} {e : Bool} {acc : List UInt8} {W W' : World} {row : Option Nat} {B : Nat} (hB : w.heap.size ≤ B) (h : US s w e acc W) (hg : W.grownBy W' row) (hr : ∀ r, row = some r → B ≤ r ∧ ∃ o : Obj, W.heap[r]? = some o ∧ o.isCells = false) : US s w e acc W' := by
  have hr2 : ∀ r, row = some r → ∃ o : Obj, W.heap[r]? = some o ∧ o.isCells = false := fun r e => (hr r e).2
  obtain ⟨h1, h2, h3, ⟨h4, h5, h6⟩, h7⟩ := h
  refine ⟨builder_kept h1 hg hr2, boxed_kept h2 hg hr2, boxed_kept h3 hg hr2, ⟨boxed_kept h4 hg hr2, boxed_kept h5 hg hr2, boxed_kept h6 hg hr2⟩, ?_⟩
  obtain ⟨g1, g2, g3, g4, g5⟩ := hg
  exact h7.trans ⟨g1, g2, g3, g4, fun k hk => g5 k (by have := h7.size; omega) (fun e => by have := (hr k e.symm).1; omega)⟩
theorem RS.own {w : World} {t : ByteArray} {n : Int} {er : Value} {W W' : World} {row : Option Nat} (h : RS w t n er W) (hg : W.grownBy W' row) (hr : ∀ r, row = some r → ∃ o : Obj, W.heap[r]? = some o ∧ o.isCells = false) : RS w t n er W' := ⟨boxed_kept h.1 hg hr, boxed_kept h.2.1 hg hr, boxed_kept h.2.2 hg hr⟩
/-- the three results are laid. -/
def setR (w W : World) (t : ByteArray) (n : Int) (er : Value) : World := ((W.setCell ⟨w.heap.size, 0, none⟩ (.string t)).setCell ⟨w.heap.size + 1, 0, none⟩ (.int .i64 n)).setCell ⟨w.heap.size + 2, 0, none⟩ er
theorem setR_ok {w W : World} {t0 t : ByteArray} {n0 n : Int} {e0 er : Value} (h : RS w t0 n0 e0 W) : RS w t n er (setR w W t n er) :=
  ⟨((h.1.set _).other (by omega) _).other (by omega) _, ((h.2.1.other (by omega) _).set _).other (by omega) _, ((h.2.2.other (by omega) _).other (by omega) _).set _⟩
end Go.Proofs.YtbojljmacheccaaGreatDoor

namespace Go.Proofs.YtbojljmacheccaaGreatDoor
open Go.RowKit Go.Shelf
set_option linter.unusedVariables false
set_option linter.unusedSimpArgs false
theorem cat_run (a b : ByteArray) (h : (a.size : Int) + (b.size : Int) ≤ 8388608) (W : World) : (Op.stringOp .add a b).run Tryz.prog W = .ok (.string (a ++ b)) W := run_string_add W a b (by omega) (by omega)
set_option maxRecDepth 100000 in
set_option maxHeartbeats 8000000 in
theorem print_any (a : Option Addr) (c : Nat) (s : SerP) (w : World) (ha : SerIn w a s) (hT : UT w) (hr : rightN s = 0) (hM : SerM s) :
    Calls Tryz.prog 25 #[.agg #[.string s.m, .slice a s.t.length c, .string s.f]] w fun e w' => e = .returned (.string ⟨(printT s).toArray⟩) ∧ Below w.heap.size w w' := by
  have B1 : ∀ o, Below w.heap.size w (w.alloc o) := fun o => (Below.refl _ w).alloc (Nat.le_refl _) o
  obtain ⟨z1, z2, z3, z4⟩ := right_parts hr
  have cR : Hid (Calls Tryz.prog 23 #[.agg #[.string s.m, .slice a s.t.length c, .string s.f]] (w.alloc (.cells #[.string s.m, .slice a s.t.length c, .string s.f] 88)) fun e w' => e = .returned .nilIface ∧ PS w w'.heap.size s.m s.f a s.t.length c [] (w'.alloc (.cells #[.pointer none, .slice none 0 0] 115))) := by
    refine (right_any a c s _ ⟨ha.1.below (B1 _), ha.2⟩ (hT.below (B1 _) (Nat.le_refl _))).mono ?_
    rintro e w' ⟨rfl, hb⟩
    have hs := hb.size
    rw [World.size_alloc] at hs
    have hb' : Below w.heap.size w w' := (B1 _).trans (hb.mono (B1 _).size)
    refine ⟨by unfold erN; rw [if_pos hr], builder_new w', ?_, ?_, ?_, hb'.alloc hb'.size _, by omega, by simp⟩
    · rw [World.cell?_alloc_lt _ _ ⟨w.heap.size, 0, none⟩ (show w.heap.size < _ by omega), hb.cell (p := ⟨w.heap.size, 0, none⟩) (by simp)]; simp [go_sem]
    · rw [World.cell?_alloc_lt _ _ ⟨w.heap.size, 1, none⟩ (show w.heap.size < _ by omega), hb.cell (p := ⟨w.heap.size, 1, none⟩) (by simp)]; simp [go_sem]
    · rw [World.cell?_alloc_lt _ _ ⟨w.heap.size, 2, none⟩ (show w.heap.size < _ by omega), hb.cell (p := ⟨w.heap.size, 2, none⟩) (by simp)]; simp [go_sem]
  obtain ⟨R, hR⟩ : ∃ R, printT s = R := ⟨_, rfl⟩
  rw [hR]
  have hRH : Hid (printT s = R) := hR
  clear hR hr hT
  obtain ⟨sm, st, sf⟩ := s
  simp only at z1 z2 z3 z4 cR ⊢
  have hA : Hid (TgIn w a st) := ha.1
  have hMH : Hid (SerM ⟨sm, st, sf⟩) := hM
  have hz4 : Hid (∀ t ∈ st, t.1.size ≤ 64 ∧ t.2.size ≤ 256) := z4
  clear ha hM z4
  obtain ⟨n, hn⟩ : ∃ n, st.length = n := ⟨_, rfl⟩
  have hN : Hid (st.length = n) := hn
  rw [hn] at z3 cR ⊢
  clear hn
  go_enter Tryz.func25, Tryz.ntmps25
  go_wp2_with fail
  refine Calls.mono cR.out ?_
  rintro e w1 ⟨rfl, hps⟩
  have hpsH : Hid (PS w w1.heap.size sm sf a n c [] (w1.alloc (.cells #[.pointer none, .slice none 0 0] 115))) := hps
  have g0 := hps.c0
  have cE : Hid (Calls Tryz.prog 96 #[.string sm] (w1.alloc (.cells #[.pointer none, .slice none 0 0] 115)) fun e w' => e = .returned (.string ⟨(escL sm.data.toList).toArray⟩) ∧ PS w w1.heap.size sm sf a n c [] w' ∧ Below (w1.alloc (.cells #[.pointer none, .slice none 0 0] 115)).heap.size (w1.alloc (.cells #[.pointer none, .slice none 0 0] 115)) w') := hps.esc sm (by omega) hMH.out.1
  have hEl := escL_len sm.data.toList
  rw [← Lib.size_eq] at hEl
  obtain ⟨E, hE⟩ : ∃ E, escL sm.data.toList = E := ⟨_, rfl⟩
  rw [hE] at cE hEl
  have hElH : Hid (E.length ≤ 2 * sm.size) := hEl
  have hEH : Hid (escL sm.data.toList = E) := hE
  clear cR hps hEl hE
  go_wp2_with fail
  refine Calls.mono cE.out ?_
  rintro e w2 ⟨rfl, hps2, hb2⟩
  have cW : Hid (Calls Tryz.prog 39 #[.pointer (some ⟨w1.heap.size, 0, none⟩), .string ⟨E.toArray⟩] w2 fun e w' => e = .returned (.tuple #[.int .i64 (⟨E.toArray⟩ : ByteArray).size, .nilIface]) ∧ PS w w1.heap.size sm sf a n c E w') := hps2.write ⟨E.toArray⟩ (by have := hElH.out; show 0 + E.length ≤ _; omega)
  generalize w1.heap.size = b at *
  clear cE hpsH hb2 hps2 g0
  go_wp2_with fail
  refine Calls.mono cW.out ?_
  rintro e w3 ⟨rfl, hps3⟩
  have g1 := hps3.c1
  have hpsH : Hid (PS w b sm sf a n c E w3) := hps3
  clear cW hps3
  go_wp2_with fail
  go_loopw [16] (fun i wr => ∃ (k : Nat) (bs : List UInt8), i = .int .i64 (k : Int) ∧ k ≤ n ∧ Hid (bs = E ++ (st.take k).flatMap tagT) ∧ Hid (PS w b sm sf a n c bs wr)) (fun i _ => n - (intOf i).toNat)
  case atStart => exact ⟨0, E, rfl, by omega, by show E = E ++ _; simp, hpsH⟩
  case round =>
    obtain ⟨k, bs, rfl, hkn, hbs, hp⟩ := hrel
    have hlenb : bs.length ≤ 10000 := by
      rw [hbs.out, List.length_append]
      have h1 := hElH.out
      have h2 := flat_tag_len (st.take k) (fun t ht => hz4.out t (List.mem_of_mem_take ht))
      have h3 : (st.take k).length ≤ 8 := by rw [List.length_take]; omega
      have h4 := Nat.mul_le_mul_right 642 h3
      omega
    have hlbH : Hid (bs.length ≤ 10000) := hlenb
    clear hlenb
    by_cases hk : k < n
    · have hkI : (k : Int) < (n : Int) := by omega
      obtain ⟨t, ht⟩ : ∃ t, st[k]? = some t := ⟨_, List.getElem?_eq_getElem (by have := hN.out; omega)⟩
      obtain ⟨b1, o1, rfl, hb1, t1, t2⟩ := hA.out.at hp.out.blw ht
      have hmem := List.mem_of_getElem? ht
      have hsz := hz4.out t hmem
      have hMt := hMH.out.2.2 t hmem
      have hbs2 : Hid (bs ++ tagT t = E ++ (st.take (k + 1)).flatMap tagT) := by
        show bs ++ tagT t = _
        rw [hbs.out, List.take_add_one, ht, List.flatMap_append]
        simp
      clear ht hmem
      obtain ⟨K, V⟩ := t
      simp only at t1 t2 hsz hMt
      have hp0 : PS w b sm sf (some ⟨b1, o1, none⟩) n c bs (wr.alloc (.cells #[.string K, .string V] 102)).drew := hp.out.below (((Below.refl _ wr).alloc (Nat.le_refl _) _).drew)
      have hp0H : Hid (PS w b sm sf (some ⟨b1, o1, none⟩) n c bs (wr.alloc (.cells #[.string K, .string V] 102)).drew) := hp0
      have cK : Hid (Calls Tryz.prog 96 #[.string K] (wr.alloc (.cells #[.string K, .string V] 102)).drew fun e w' => e = .returned (.string ⟨(escL K.data.toList).toArray⟩) ∧ PS w b sm sf (some ⟨b1, o1, none⟩) n c bs w' ∧ Below (wr.heap.size + 1) (wr.alloc (.cells #[.string K, .string V] 102)).drew w') := (hp0.esc K (by omega) hMt.1).mono fun e w' ⟨h1, h2, h3⟩ => ⟨h1, h2, by have := h3; simpa using this⟩
      have cV : Hid (∀ W, PS w b sm sf (some ⟨b1, o1, none⟩) n c bs W → Calls Tryz.prog 96 #[.string V] W fun e w' => e = .returned (.string ⟨(escL V.data.toList).toArray⟩) ∧ PS w b sm sf (some ⟨b1, o1, none⟩) n c bs w' ∧ Below W.heap.size W w') := fun W hW => hW.esc V (by omega) hMt.2
      have hKl := escL_len K.data.toList
      have hVl := escL_len V.data.toList
      rw [← Lib.size_eq] at hKl hVl
      have hbs3 : Hid (bs ++ 44 :: (escL K.data.toList ++ 61 :: escL V.data.toList) = E ++ (st.take (k + 1)).flatMap tagT) := hbs2.out
      clear hbs2 hp0
      generalize escL K.data.toList = EK at cK hKl hbs3
      generalize escL V.data.toList = EV at cV hVl hbs3
      have hTx : (((⟨#[44]⟩ : ByteArray) ++ ⟨EK.toArray⟩ ++ ⟨#[61]⟩) ++ (⟨EV.toArray⟩ : ByteArray)).data.toList = 44 :: (EK ++ 61 :: EV) := by
        simp [ByteArray.data_append]
      obtain ⟨TX, hTX⟩ : ∃ TX, (((⟨#[44]⟩ : ByteArray) ++ ⟨EK.toArray⟩ ++ ⟨#[61]⟩) ++ (⟨EV.toArray⟩ : ByteArray)) = TX := ⟨_, rfl⟩
      have cW : Hid (∀ W, PS w b sm sf (some ⟨b1, o1, none⟩) n c bs W → Calls Tryz.prog 39 #[.pointer (some ⟨b, 0, none⟩), .string (((⟨#[44]⟩ : ByteArray) ++ ⟨EK.toArray⟩ ++ ⟨#[61]⟩) ++ (⟨EV.toArray⟩ : ByteArray))] W fun e w' => (∃ q : Int, e = .returned (.tuple #[.int .i64 q, .nilIface])) ∧ PS w b sm sf (some ⟨b1, o1, none⟩) n c (bs ++ 44 :: (EK ++ 61 :: EV)) w' ∧ Lib.OthersKept 5 (some b) W w') := fun W hW => (hW.write2 _ (by
        have h1 := hlbH.out
        rw [Lib.size_eq, hTx]
        simp
        omega)).mono fun e w' ⟨h1, h2, h3⟩ => ⟨⟨_, h1⟩, hTx ▸ h2, h3⟩
      have hbw : wr.heap.size ≠ b := by have := hp.out.lt; omega
      have hcel : ∀ W : World, W.heap[wr.heap.size]? = some (.cells #[.string K, .string V] 102) → W.cell? ⟨wr.heap.size, 0, none⟩ = some (.string K) ∧ W.cell? ⟨wr.heap.size, 1, none⟩ = some (.string V) := fun W h => ⟨by rw [Lib.cell_of_heap h]; rfl, by rw [Lib.cell_of_heap h]; rfl⟩
      have hh0 : (wr.alloc (.cells #[.string K, .string V] 102)).heap[wr.heap.size]? = some (.cells #[.string K, .string V] 102) := World.alloc_heap_new wr _
      have hh0H : Hid ((wr.alloc (.cells #[.string K, .string V] 102)).heap[wr.heap.size]? = some (.cells #[.string K, .string V] 102)) := hh0
      have hcelH : Hid (∀ W : World, W.heap[wr.heap.size]? = some (.cells #[.string K, .string V] 102) → W.cell? ⟨wr.heap.size, 0, none⟩ = some (.string K) ∧ W.cell? ⟨wr.heap.size, 1, none⟩ = some (.string V)) := hcel
      have hKeep : Hid (∀ W W' : World, W.heap[wr.heap.size]? = some (.cells #[.string K, .string V] 102) → Lib.OthersKept 5 (some b) W W' → W'.heap[wr.heap.size]? = some (.cells #[.string K, .string V] 102)) := fun W W' h hO => hO _ _ h (by simpa using hbw) (by intro c fz e; cases e)
      clear hh0 hcel hbw
      have q1 : ∀ W, (Op.stringOp .add ⟨#[44]⟩ ⟨EK.toArray⟩).run Tryz.prog W = .ok (.string (⟨#[44]⟩ ++ ⟨EK.toArray⟩)) W := fun W => cat_run _ _ (by have e1 : (⟨#[44]⟩ : ByteArray).size = 1 := rfl; have e2 : (⟨EK.toArray⟩ : ByteArray).size = EK.length := rfl; omega) W
      have q2 : ∀ W, (Op.stringOp .add (⟨#[44]⟩ ++ ⟨EK.toArray⟩) ⟨#[61]⟩).run Tryz.prog W = .ok (.string (⟨#[44]⟩ ++ ⟨EK.toArray⟩ ++ ⟨#[61]⟩)) W := fun W => cat_run _ _ (by rw [ByteArray.size_append]; have e1 : (⟨#[44]⟩ : ByteArray).size = 1 := rfl; have e2 : (⟨EK.toArray⟩ : ByteArray).size = EK.length := rfl; have e3 : (⟨#[61]⟩ : ByteArray).size = 1 := rfl; omega) W
      have q3 : ∀ W, (Op.stringOp .add (⟨#[44]⟩ ++ ⟨EK.toArray⟩ ++ ⟨#[61]⟩) ⟨EV.toArray⟩).run Tryz.prog W = .ok (.string (⟨#[44]⟩ ++ ⟨EK.toArray⟩ ++ ⟨#[61]⟩ ++ ⟨EV.toArray⟩)) W := fun W => cat_run _ _ (by rw [ByteArray.size_append, ByteArray.size_append]; have e1 : (⟨#[44]⟩ : ByteArray).size = 1 := rfl; have e2 : (⟨EK.toArray⟩ : ByteArray).size = EK.length := rfl; have e3 : (⟨#[61]⟩ : ByteArray).size = 1 := rfl; have e4 : (⟨EV.toArray⟩ : ByteArray).size = EV.length := rfl; omega) W
      clear hTX hTx
      have S0 : (wr.alloc (.cells #[.string K, .string V] 102)).cell? ⟨wr.heap.size, 0, none⟩ = some (.string K) ∧ (wr.alloc (.cells #[.string K, .string V] 102)).cell? ⟨wr.heap.size, 1, none⟩ = some (.string V) := ⟨by simp [go_sem], by simp [go_sem]⟩
      go_wp2_with fail
      go_region_held3 (fun W => W.cell? ⟨wr.heap.size, 0, none⟩ = some (.string K) ∧ W.cell? ⟨wr.heap.size, 1, none⟩ = some (.string V)) (first | assumption)
        (first
          | (go_at_call 96; (with_reducible refine Calls.mono cK.out ?_); rintro e4 w4 ⟨rfl, hp4, hb4⟩; have hh4 : Hid (w4.heap[wr.heap.size]? = some (.cells #[.string K, .string V] 102)) := (hb4.block wr.heap.size (Nat.lt_succ_self _)).trans hh0H.out; have S4 := hcelH.out w4 hh4.out)
          | (go_at_call 96; (with_reducible refine Calls.mono (cV.out _ hp4) ?_); rintro e5 w5 ⟨rfl, hp5, hb5⟩; have hh5 : Hid (w5.heap[wr.heap.size]? = some (.cells #[.string K, .string V] 102)) := (hb5.block wr.heap.size (Array.getElem?_eq_some_iff.1 hh4.out).1).trans hh4.out; have S5 := hcelH.out w5 hh5.out)
          | (go_at_call 39; (with_reducible refine Calls.mono (cW.out _ hp5) ?_); rintro e6 w6 ⟨⟨q, rfl⟩, hp6, hO6⟩; have S6 := hcelH.out w6 (hKeep.out _ _ hh5.out hO6)))
      all_goals
        have hp6H : Hid (PS w b sm sf (some ⟨b1, o1, none⟩) n c (bs ++ 44 :: (EK ++ 61 :: EV)) w6) := hp6
        go_wp2_with fail
        go_round
      case measure => simp only [intOf]; omega
      case rel => exact ⟨k + 1, _, by simp, by omega, hbs3, hp6H⟩
    · have hkI : ¬ (k : Int) < (n : Int) := by omega
      have hbsE : Hid (bs = E ++ st.flatMap tagT) := by have := hbs.out; rw [List.take_of_length_le (by have := hN.out; omega)] at this; exact this
      have g2 := hp.out.c2
      have cF : Hid (Calls Tryz.prog 96 #[.string sf] wr fun e w' => e = .returned (.string ⟨(escL sf.data.toList).toArray⟩) ∧ PS w b sm sf a n c bs w' ∧ Below wr.heap.size wr w') := hp.out.esc sf (by omega) hMH.out.2.1
      have hFl := escL_len sf.data.toList
      rw [← Lib.size_eq] at hFl
      have hend : Hid (bs ++ 32 :: escL sf.data.toList = R) := by
        show bs ++ 32 :: escL sf.data.toList = R
        rw [← hRH.out, hbsE.out]
        unfold printT
        simp only
        rw [hEH.out]
      generalize escL sf.data.toList = EF at cF hFl hend
      have q1 : ∀ W, (Op.stringOp .add ⟨#[32]⟩ ⟨EF.toArray⟩).run Tryz.prog W = .ok (.string (⟨#[32]⟩ ++ ⟨EF.toArray⟩)) W := fun W => cat_run _ _ (by have e1 : (⟨#[32]⟩ : ByteArray).size = 1 := rfl; have e2 : (⟨EF.toArray⟩ : ByteArray).size = EF.length := rfl; omega) W
      have hTx : ((⟨#[32]⟩ : ByteArray) ++ ⟨EF.toArray⟩).data.toList = 32 :: EF := by simp [ByteArray.data_append]
      have cW : Hid (∀ W, PS w b sm sf a n c bs W → Calls Tryz.prog 39 #[.pointer (some ⟨b, 0, none⟩), .string ((⟨#[32]⟩ : ByteArray) ++ ⟨EF.toArray⟩)] W fun e w' => (∃ q : Int, e = .returned (.tuple #[.int .i64 q, .nilIface])) ∧ PS w b sm sf a n c (bs ++ 32 :: EF) w') := fun W hW => (hW.write _ (by
        have h1 := hlbH.out
        rw [Lib.size_eq, hTx]
        simp
        omega)).mono fun e w' ⟨h1, h2⟩ => ⟨⟨_, h1⟩, hTx ▸ h2⟩
      clear hTx hFl
      rw [hend.out] at cW
      have cT : Hid (∀ W, PS w b sm sf a n c R W → Calls Tryz.prog 40 #[.pointer (some ⟨b, 0, none⟩)] W fun e w' => e = .returned (.string ⟨R.toArray⟩) ∧ Below w.heap.size w w') := fun W hW => hW.text
      go_wp2_with (first
        | (go_at_call 96; (with_reducible refine Calls.mono cF.out ?_); rintro e4 w4 ⟨rfl, hp4, hb4⟩)
        | (go_at_call 39; (with_reducible refine Calls.mono (cW.out _ hp4) ?_); rintro e6 w6 ⟨⟨q, rfl⟩, hp6⟩)
        | (go_at_call 40; (with_reducible refine Calls.mono (cT.out _ hp6) ?_); rintro e7 w7 ⟨rfl, hb7⟩))
      go_ret
      exact ⟨rfl, hb7⟩
end Go.Proofs.YtbojljmacheccaaGreatDoor
