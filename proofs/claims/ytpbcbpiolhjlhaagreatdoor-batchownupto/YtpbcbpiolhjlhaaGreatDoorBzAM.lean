
import Derived.Test.YtpbcbpiolhjlhaaGreatDoorBzAL
import Derived.Test.YtpbcbpiolhjlhaaGreatDoorBzAH
import Derived.Test.YtpbcbpiolhjlhaaGreatDoorBzAE
import Derived.Lib.IndexAny
import Derived.RangeFuncNested
import Derived.RangeFuncBound
import Derived.RangeFuncCalls
import Derived.RangeFuncLeaves
import Derived.Shelf.Abstract
import Derived.Shelf.RegionOpen
import Derived.OwnWalkIn
import Derived.TacticsInMore
import Derived.LoopNIn
import Derived.LoopIn
import Derived.Lib.SpaceUEq
import Derived.Laws.RangeAny
import Derived.Laws.RangeString
import Derived.Laws.Runes
import Derived.WalkMore
import Derived.Lib.TrimUEq
import Derived.Test.YtpbcbpiolhjlhaaGreatDoorBzAK
import Derived.Test.YtpbcbpiolhjlhaaGreatDoorProg
import Derived.Deep.AppendLies
import Derived.RowKit
import Derived.WalkKit
import Derived.Laws.BitsAllLaws

namespace Go.Proofs.YtpbcbpiolhjlhaaGreatDoor
open Go.RowKit _root_.Go.Proofs.YtpbcbpiolhjlhaaGreatDoor.So
set_option linter.unusedVariables false
set_option linter.unusedSimpArgs false
abbrev FdP := ByteArray × Int
/-- fields that lie in memory. -/
def FdIn (w : World) (a : Option Addr) (l : List FdP) : Prop := l = [] ∨ ∃ b off, a = some ⟨b, off, none⟩ ∧ b < w.heap.size ∧ ∀ i t, l[i]? = some t → w.cell? ⟨b, off + i * 2, none⟩ = some (.string t.1) ∧ w.cell? ⟨b, off + i * 2 + 1, none⟩ = some (.int .i64 t.2)
theorem FdIn.below {w w' : World} {a : Option Addr} {l : List FdP} (h : FdIn w a l) (hB : Below w.heap.size w w') : FdIn w' a l := by
  rcases h with h | ⟨b, off, ha, hb, hc⟩
  · exact Or.inl h
  · refine Or.inr ⟨b, off, ha, by have := hB.size; omega, fun i t ht => ?_⟩
    rw [hB.cell (p := ⟨b, off + i * 2, none⟩) hb, hB.cell (p := ⟨b, off + i * 2 + 1, none⟩) hb]
    exact hc i t ht
theorem FdIn.at {w wr : World} {a : Option Addr} {l : List FdP} (h : FdIn w a l) (hB : Below w.heap.size w wr) {k : Nat} {t : FdP} (ht : l[k]? = some t) : ∃ b off, a = some ⟨b, off, none⟩ ∧ b < w.heap.size ∧ wr.cell? ⟨b, off + k * 2, none⟩ = some (.string t.1) ∧ wr.cell? ⟨b, off + k * 2 + 1, none⟩ = some (.int .i64 t.2) := by
  rcases h with h0 | ⟨b, off, e, hb, hc⟩
  · rw [h0] at ht; simp at ht
  · exact ⟨b, off, e, hb, by rw [hB.cell (p := ⟨b, off + k * 2, none⟩) hb]; exact (hc k t ht).1, by rw [hB.cell (p := ⟨b, off + k * 2 + 1, none⟩) hb]; exact (hc k t ht).2⟩
theorem FdIn.pre {w : World} {a : Option Addr} {l : List FdP} (h : FdIn w a l) (k : Nat) : FdIn w a (l.take k) := by
  rcases h with h | ⟨b, off, e, hb, hc⟩
  · exact Or.inl (by rw [h]; simp)
  · refine Or.inr ⟨b, off, e, hb, fun i t ht => hc i t ?_⟩
    rw [List.getElem?_take] at ht
    split at ht
    · exact ht
    · cases ht
/-- is a key among these? -/
def keyIn (s : ByteArray) (l : List FdP) : Bool := l.any fun t => decide (t.1 = s)
theorem keyIn_step {l : List FdP} {k : Nat} {t : FdP} (ht : l[k]? = some t) (s : ByteArray) : keyIn s (l.drop k) = (decide (t.1 = s) || keyIn s (l.drop (k + 1))) := by
  obtain ⟨h1, rfl⟩ := List.getElem?_eq_some_iff.1 ht
  unfold keyIn
  rw [List.drop_eq_getElem_cons h1]
  rfl
set_option maxRecDepth 100000 in
theorem samek_any (t : FdP) (s : ByteArray) (K : Nat) (w : World) (hK : K < w.heap.size) (hc : w.cell? ⟨K, 0, none⟩ = some (.string s)) :
    Calls Tryz.prog 96 #[.agg #[.string t.1, .int .i64 t.2], .pointer (some ⟨K, 0, none⟩)] w fun e w' => e = .returned (.bool (decide (t.1 = s))) ∧ Below w.heap.size w w' := by
  obtain ⟨tk, tn⟩ := t
  have c1 : ∀ o, (w.alloc o).cell? ⟨K, 0, none⟩ = some (.string s) := fun o => by rw [((Below.refl w.heap.size w).alloc (Nat.le_refl _) o).cell (p := ⟨K, 0, none⟩) hK]; exact hc
  have b1 : ∀ o, Below w.heap.size w (w.alloc o) := fun o => (Below.refl _ w).alloc (Nat.le_refl _) o
  rw [← ba_dec]
  go_enter Tryz.func96, Tryz.ntmps96
  go_wp2_with fail
  go_ret
  exact ⟨rfl, b1 _⟩
set_option maxRecDepth 100000 in
set_option maxHeartbeats 4000000 in
theorem idxF_any (a : Option Addr) (l : List FdP) (c : Nat) (s : ByteArray) (K : Nat) (w : World) (hl : l.length ≤ 9223372036854775807) (ha : FdIn w a l) (hK : K < w.heap.size) (hc : w.cell? ⟨K, 0, none⟩ = some (.string s)) :
    Calls Tryz.prog 111 #[.slice a l.length c, .func (.func 96) #[] #[.pointer (some ⟨K, 0, none⟩)]] w fun e w' => ∃ z : Int, e = .returned (.int .i64 z) ∧ decide (0 ≤ z) = keyIn s l ∧ Below w.heap.size w w' := by
  have hA : Hid (FdIn w a l) := ha
  have hF : Hid (∀ (t : FdP) W, Below w.heap.size w W → Calls Tryz.prog 96 #[.agg #[.string t.1, .int .i64 t.2], .pointer (some ⟨K, 0, none⟩)] W fun e w' => e = .returned (.bool (decide (t.1 = s))) ∧ Below W.heap.size W w') := fun t W hW => samek_any t s K W (Nat.lt_of_lt_of_le hK hW.size) (by rw [hW.cell (p := ⟨K, 0, none⟩) hK]; exact hc)
  clear ha hc
  obtain ⟨R, hR⟩ : ∃ R, keyIn s l = R := ⟨_, rfl⟩
  have hR0 : Hid (keyIn s (l.drop 0) = R) := hR
  rw [hR]
  clear hR
  obtain ⟨n, hn⟩ : ∃ n, l.length = n := ⟨_, rfl⟩
  have hN : Hid (l.length = n) := hn
  rw [hn] at hl ⊢
  clear hn
  go_enter Tryz.func111, Tryz.ntmps111
  go_wp2_with fail
  go_loopw [8] (fun i wr => ∃ k : Nat, i = .int .i64 (k : Int) ∧ k ≤ n ∧ Hid (keyIn s (l.drop k) = R) ∧ Below w.heap.size w wr) (fun i _ => n - (intOf i).toNat)
  case atStart => exact ⟨0, rfl, by omega, hR0, Below.refl _ _⟩
  case round =>
    obtain ⟨k, rfl, hkn, hI, hB⟩ := hrel
    by_cases hk : k < n
    · have hkI : (k : Int) < (n : Int) := by omega
      obtain ⟨t, ht⟩ : ∃ t, l[k]? = some t := ⟨_, List.getElem?_eq_getElem (by have := hN.out; omega)⟩
      obtain ⟨b1, o1, rfl, hb1, t1, t2⟩ := hA.out.at hB ht
      have hst := keyIn_step ht s
      rw [hI.out] at hst
      have hst2 : Hid (R = (decide (t.1 = s) || keyIn s (l.drop (k + 1)))) := hst
      have hC : Hid (Calls Tryz.prog 96 #[.agg #[.string t.1, .int .i64 t.2], .pointer (some ⟨K, 0, none⟩)] wr fun e w' => e = .returned (.bool (decide (t.1 = s))) ∧ Below wr.heap.size wr w') := hF.out t wr hB
      clear hst ht
      generalize decide (t.1 = s) = q at hst2 hC
      generalize t.1 = ta at *
      generalize t.2 = tb at *
      cases q with
      | true =>
        have hz : Hid (R = true) := by have := hst2.out; exact this
        clear hst2
        go_wp2_with (refine Calls.mono hC.out ?_; rintro e w' ⟨rfl, hB2⟩)
        go_ret
        exact ⟨(k : Int), rfl, by rw [hz.out]; simp, hB.trans (hB2.mono hB.size)⟩
      | false =>
        have hz : Hid (keyIn s (l.drop (k + 1)) = R) := by have := hst2.out; exact this.symm
        clear hst2
        go_wp2_with (refine Calls.mono hC.out ?_; rintro e w' ⟨rfl, hB2⟩)
        go_round
        case measure => simp only [intOf]; omega
        case rel => exact ⟨k + 1, by simp, by omega, hz, hB.trans (hB2.mono hB.size)⟩
    · have hkI : ¬ (k : Int) < (n : Int) := by omega
      have hE : Hid (R = false) := by have h := hI.out; rw [List.drop_eq_nil_of_le (by have := hN.out; omega)] at h; exact h.symm
      go_wp2_with fail
      go_ret
      exact ⟨-1, rfl, by rw [hE.out]; rfl, hB⟩
set_option maxRecDepth 100000 in
theorem cfF_any (a : Option Addr) (l : List FdP) (c : Nat) (s : ByteArray) (K : Nat) (w : World) (hl : l.length ≤ 9223372036854775807) (ha : FdIn w a l) (hK : K < w.heap.size) (hc : w.cell? ⟨K, 0, none⟩ = some (.string s)) :
    Calls Tryz.prog 95 #[.slice a l.length c, .func (.func 96) #[] #[.pointer (some ⟨K, 0, none⟩)]] w fun e w' => e = .returned (.bool (keyIn s l)) ∧ Below w.heap.size w w' := by
  have hC : Hid (Calls Tryz.prog 111 #[.slice a l.length c, .func (.func 96) #[] #[.pointer (some ⟨K, 0, none⟩)]] w fun e w' => ∃ z : Int, e = .returned (.int .i64 z) ∧ decide (0 ≤ z) = keyIn s l ∧ Below w.heap.size w w') := idxF_any a l c s K w hl ha hK hc
  generalize keyIn s l = R at hC ⊢
  generalize l.length = n at hC hl ⊢
  clear ha hc hK
  go_enter Tryz.func95, Tryz.ntmps95
  go_wp2_with fail
  refine Calls.mono hC.out ?_
  rintro e w' ⟨z, rfl, hz, hB⟩
  have hzH : Hid (decide (0 ≤ z) = R) := hz
  clear hz hC
  go_wp2_with fail
  go_ret
  exact ⟨by rw [← hzH.out]; rfl, hB⟩
/-- are the first k fields right, each by itself and no key twice? -/
def fOk (l : List FdP) : Nat → Bool
  | 0 => true
  | k + 1 => fOk l k && !(keyIn (l.getD k (⟨#[]⟩, 0)).1 (l.take k)) && columnB (l.getD k (⟨#[]⟩, 0)).1
def fieldsB (l : List FdP) : Bool := decide (1 ≤ l.length) && decide (l.length ≤ 16) && fOk l l.length
theorem fOk_false {l : List FdP} {k m : Nat} (h : fOk l k = false) (hm : k ≤ m) : fOk l m = false := by
  induction m with
  | zero => obtain rfl : k = 0 := by omega
            exact h
  | succ m ih =>
    rcases Nat.lt_or_ge k (m + 1) with c | c
    · unfold fOk; rw [ih (by omega)]; rfl
    · obtain rfl : k = m + 1 := by omega
      exact h
set_option maxRecDepth 100000 in
theorem bcolumn_any (s : ByteArray) (w : World) (hT : UT w) : Calls Tryz.prog 97 #[.string s] w fun e w' => e = .returned (.bool (columnB s)) ∧ Below w.heap.size w w' := by
  have c := right_any none 0 ⟨⟨#[109]⟩, [], s⟩ w ⟨Or.inl rfl, by simp⟩ hT
  have hr : rightN ⟨⟨#[109]⟩, [], s⟩ = if columnB s then 0 else 50 := by
    have h1 : cleanB ⟨#[109]⟩ 64 = true := by decide +kernel
    have h2 : tagsB [] = true := by decide +kernel
    unfold rightN
    simp only [h1, h2, if_true]
  rw [hr] at c
  have cH : Hid (Calls Tryz.prog 112 #[.agg #[.string ⟨#[109]⟩, .slice none 0 0, .string s]] w fun e w' => e = .returned (erN (if columnB s then 0 else 50)) ∧ Below w.heap.size w w') := c
  clear c hr
  generalize columnB s = q at cH ⊢
  cases q with
  | true =>
    rw [show erN (if true = true then 0 else 50) = .nilIface from rfl] at cH
    go_enter Tryz.func97, Tryz.ntmps97
    go_wp2_with fail
    refine Calls.mono cH.out ?_
    rintro e w1 ⟨rfl, b1⟩
    go_wp2_with fail
    go_ret
    exact ⟨rfl, b1⟩
  | false =>
    rw [show erN (if false = true then 0 else 50) = .iface 101 (.int .i64 50) from rfl] at cH
    go_enter Tryz.func97, Tryz.ntmps97
    go_wp2_with fail
    refine Calls.mono cH.out ?_
    rintro e w1 ⟨rfl, b1⟩
    go_wp2_with fail
    go_ret
    exact ⟨rfl, b1⟩
set_option maxRecDepth 100000 in
set_option maxHeartbeats 4000000 in
theorem rightFields_any (a : Option Addr) (l : List FdP) (c : Nat) (w : World) (hl : l.length ≤ 4611686018427387904) (hcap : l.length ≤ c) (ha : FdIn w a l) (hT : UT w) :
    Calls Tryz.prog 80 #[.slice a l.length c] w fun e w' => e = .returned (.bool (fieldsB l)) ∧ Below w.heap.size w w' := by
  have hA : Hid (FdIn w a l) := ha
  have hU : Hid (UT w) := hT
  have cC : Hid (∀ (k : Nat) (s : ByteArray) (K : Nat) (c2 : Nat) W, k ≤ l.length → Below w.heap.size w W → K < W.heap.size → W.cell? ⟨K, 0, none⟩ = some (.string s) → Calls Tryz.prog 95 #[.slice a k c2, .func (.func 96) #[] #[.pointer (some ⟨K, 0, none⟩)]] W fun e w' => e = .returned (.bool (keyIn s (l.take k))) ∧ Below W.heap.size W w') := fun k s K c2 W hk hW h1 h2 => by
    have := cfF_any a (l.take k) c2 s K W (by simp; omega) ((ha.below hW).pre k) h1 h2
    rw [List.length_take, Nat.min_eq_left hk] at this
    exact this
  have hBr : Hid (fieldsB l = (decide (1 ≤ l.length) && decide (l.length ≤ 16) && fOk l l.length)) := rfl
  clear ha hT
  generalize fieldsB l = R at hBr ⊢
  obtain ⟨n, hn⟩ : ∃ n, l.length = n := ⟨_, rfl⟩
  have hN : Hid (l.length = n) := hn
  rw [hn] at hl hcap hBr cC ⊢
  clear hn
  by_cases h0 : n = 0
  · have hz : ((n : Int) == 0) = true := by simp; omega
    have hR : Hid (R = false) := by
      have := hBr.out
      rw [show decide (1 ≤ n) = false from decide_eq_false (by omega)] at this
      exact this
    clear h0 hBr
    go_enter Tryz.func80, Tryz.ntmps80
    go_wp2_with fail
    go_ret
    exact ⟨by rw [hR.out]; rfl, Below.refl _ _⟩
  · have hz : ((n : Int) == 0) = false := by simp; omega
    by_cases h16 : 16 < n
    · have hz16 : (n : Int) > 16 := by omega
      have hz17 : (16 : Int) < (n : Int) := by omega
      have hR : Hid (R = false) := by
        have := hBr.out
        rw [show decide (n ≤ 16) = false from decide_eq_false (by omega)] at this
        show R = false
        simpa using this
      clear h0 hBr
      go_enter Tryz.func80, Tryz.ntmps80
      go_wp2_with fail
      go_ret
      exact ⟨by rw [hR.out]; rfl, Below.refl _ _⟩
    · have hz16 : ¬ (n : Int) > 16 := by omega
      have hz17 : ¬ (16 : Int) < (n : Int) := by omega
      have hR : Hid (R = fOk l n) := by
        have := hBr.out
        rw [show decide (n ≤ 16) = true from decide_eq_true (by omega), show decide (1 ≤ n) = true from decide_eq_true (by omega)] at this
        show R = fOk l n
        simpa using this
      clear h0 hBr
      go_enter Tryz.func80, Tryz.ntmps80
      go_wp2_with fail
      go_loopw [16] (fun i wr => ∃ k : Nat, i = .int .i64 (k : Int) ∧ k ≤ n ∧ Hid (fOk l k = true) ∧ Below w.heap.size w wr) (fun i _ => n - (intOf i).toNat)
      case atStart => exact ⟨0, rfl, by omega, rfl, Below.refl _ _⟩
      case round =>
        obtain ⟨k, rfl, hkn, hI, hB⟩ := hrel
        by_cases hk : k < n
        · have hkI : (k : Int) < (n : Int) := by omega
          have k0 : (0 : Int) ≤ (k : Int) := by omega
          have kc : (k : Int) ≤ (c : Int) := by omega
          obtain ⟨t, ht⟩ : ∃ t, l[k]? = some t := ⟨_, List.getElem?_eq_getElem (by have := hN.out; omega)⟩
          obtain ⟨b1, o1, rfl, hb1, t1, t2⟩ := hA.out.at hB ht
          have hst : fOk l (k + 1) = (fOk l k && !(keyIn t.1 (l.take k)) && columnB t.1) := by
            conv => lhs; unfold fOk
            rw [List.getD_eq_getElem?_getD, ht]; rfl
          rw [hI.out] at hst
          obtain ⟨tk, tn⟩ := t
          simp only at t1 t2 hst
          have bA : Below wr.heap.size wr (wr.alloc (.cells #[.string tk, .int .i64 tn] 83)) := (Below.refl _ wr).alloc (Nat.le_refl _) _
          have bA2 : Below w.heap.size w (wr.alloc (.cells #[.string tk, .int .i64 tn] 83)) := hB.trans (bA.mono hB.size)
          have C1 : Hid (Calls Tryz.prog 95 #[.slice (some ⟨b1, o1, none⟩) k c, .func (.func 96) #[] #[.pointer (some ⟨wr.heap.size, 0, none⟩)]] (wr.alloc (.cells #[.string tk, .int .i64 tn] 83)) fun e w' => e = .returned (.bool (keyIn tk (l.take k))) ∧ Below w.heap.size w w' ∧ w'.cell? ⟨wr.heap.size, 0, none⟩ = some (.string tk) ∧ UT w') := (cC.out k tk wr.heap.size c _ hkn bA2 (by simp) (by simp [go_sem])).mono fun e w' hh => ⟨hh.1, bA2.trans (hh.2.mono bA2.size), by rw [hh.2.cell (p := ⟨wr.heap.size, 0, none⟩) (by show wr.heap.size < (wr.alloc _).heap.size; simp)]; simp [go_sem], hU.out.below (bA2.trans (hh.2.mono bA2.size)) (Nat.le_refl _)⟩
          have C2 : Hid (∀ W, UT W → Calls Tryz.prog 97 #[.string tk] W fun e w' => e = .returned (.bool (columnB tk)) ∧ Below W.heap.size W w') := fun W hW => bcolumn_any tk W hW
          have hstH : Hid (fOk l (k + 1) = (true && !(keyIn tk (l.take k)) && columnB tk)) := hst
          generalize keyIn tk (l.take k) = q1 at C1 hstH
          generalize columnB tk = q2 at C2 hstH
          clear hst ht bA bA2 hB
          go_wp2_with fail
          refine Calls.mono C1.out ?_
          rintro e w1 ⟨rfl, b2, cK, uT⟩
          have uTH : Hid (UT w1) := uT
          have b2H : Hid (Below w.heap.size w w1) := b2
          clear uT b2 C1 t1 t2
          cases q1 with
          | true =>
            have hF : Hid (R = false) := by rw [hR.out]; exact fOk_false (k := k + 1) (by rw [hstH.out]; rfl) (by omega)
            go_wp2_with fail
            go_ret
            exact ⟨by rw [hF.out]; rfl, b2H.out⟩
          | false =>
            go_wp2_with fail
            refine Calls.mono (C2.out _ uTH.out) ?_
            rintro e w2 ⟨rfl, b3⟩
            have b3H : Hid (Below w.heap.size w w2) := b2H.out.trans (b3.mono b2H.out.size)
            clear b3 b2H uTH
            cases q2 with
            | true =>
              have nx : Hid (fOk l (k + 1) = true) := by rw [hstH.out]; rfl
              clear hstH
              go_wp2_with fail
              go_round
              case measure => simp only [intOf]; omega
              case rel => exact ⟨k + 1, by simp, by omega, nx, b3H.out⟩
            | false =>
              have hF : Hid (R = false) := by rw [hR.out]; exact fOk_false (k := k + 1) (by rw [hstH.out]; rfl) (by omega)
              clear hstH
              go_wp2_with fail
              go_ret
              exact ⟨by rw [hF.out]; rfl, b3H.out⟩
        · have hkI : ¬ (k : Int) < (n : Int) := by omega
          obtain rfl : k = n := by omega
          have hF : Hid (R = true) := by rw [hR.out]; exact hI.out
          go_wp2_with fail
          go_ret
          exact ⟨by rw [hF.out]; rfl, hB⟩
end Go.Proofs.YtpbcbpiolhjlhaaGreatDoor


namespace Go.Proofs.YtpbcbpiolhjlhaaGreatDoor
open Go.RowKit _root_.Go.Proofs.YtpbcbpiolhjlhaaGreatDoor.So
set_option linter.unusedVariables false
set_option linter.unusedSimpArgs false
theorem sortedR_tin {w w' : World} {e : Ending} {l : List TagP} (h : SortedR w w' e l) : ∃ a c, e = .returned (.slice a (sortT l).length c) ∧ TgIn w' a (sortT l) := by
  rcases h with ⟨rfl, h⟩ | ⟨g, m, cap, G, h1, h2, h3, h4, h5⟩
  · exact ⟨none, 0, h, Or.inl rfl⟩
  · refine ⟨some ⟨g, 0, none⟩, cap, ?_, by rw [← h5]; exact h4.tin⟩
    rw [h1, ← h5]; simp
theorem insD_len (t : TagP) : ∀ s : List TagP, (insD kl t s).length ≤ s.length + 1
  | [] => by simp [insD]
  | x :: r => by
    unfold insD
    split
    · have := insD_len t r
      simp only [List.length_cons]; omega
    · split
      · simp
      · simp
theorem sortT_short (l : List TagP) : (sortT l).length ≤ l.length := by
  unfold sortT srtD
  have : ∀ (l s : List TagP), (l.foldl (fun s t => insD kl t s) s).length ≤ s.length + l.length := by
    intro l
    induction l with
    | nil => intro s; simp
    | cons t r ih =>
      intro s
      have h1 := ih (insD kl t s)
      have h2 := insD_len t s
      simp only [List.foldl_cons, List.length_cons]; omega
  have h := this l []
  simpa using h
/-- are a point's tags right, in any order, no key twice? -/
def ptagsB (l : List TagP) : Bool := decide ((sortT l).length = l.length) && tagsB (sortT l)
set_option maxRecDepth 100000 in
theorem rightTags_any (a : Option Addr) (c : Nat) (l : List TagP) (w : World) (ha : TgIn w a l) (hl : l.length ≤ 4398046511104) (hT : UT w) :
    Calls Tryz.prog 79 #[.slice a l.length c] w fun e w' => e = .returned (.bool (ptagsB l)) ∧ Below w.heap.size w w' := by
  have C1 : Hid (Calls Tryz.prog 16 #[.slice a l.length c] w fun e w' => ∃ a' c', e = .returned (.slice a' (sortT l).length c') ∧ Below w.heap.size w w' ∧ Calls Tryz.prog 94 #[.slice a' (sortT l).length c'] w' fun e w2 => e = .returned (erV (tagsB (sortT l)) 52) ∧ Below w'.heap.size w' w2) := (sort_any a c l w ha hl).mono fun e w' h => by
    obtain ⟨a', c', e1, t1⟩ := sortedR_tin h.1
    exact ⟨a', c', e1, h.2, tags_any a' (sortT l) c' w' (by have := sortT_short l; omega) t1 (hT.below h.2 (Nat.le_refl _))⟩
  have hR : Hid (ptagsB l = (decide ((sortT l).length = l.length) && tagsB (sortT l))) := rfl
  clear ha hT
  generalize ptagsB l = R at hR ⊢
  generalize tagsB (sortT l) = q at C1 hR
  generalize (sortT l).length = m at C1 hR
  generalize l.length = n at *
  go_enter Tryz.func79, Tryz.ntmps79
  go_wp2_with fail
  refine Calls.mono C1.out ?_
  rintro e w1 ⟨a', c', rfl, b1, k1⟩
  have C2 : Hid _ := k1
  have b1H : Hid (Below w.heap.size w w1) := b1
  clear k1 b1 C1
  by_cases h : m = n
  · have hb : ((m : Int) == (n : Int)) = true := by simp; omega
    have hR2 : Hid (R = q) := by have := hR.out; rw [decide_eq_true h] at this; exact this
    clear h hR
    go_wp2_with fail
    refine Calls.mono C2.out ?_
    rintro e w2 ⟨rfl, b2⟩
    have b2H : Hid (Below w.heap.size w w2) := b1H.out.trans (b2.mono b1H.out.size)
    clear b2 b1H C2
    cases q with
    | true =>
      rw [show erV true 52 = .nilIface from rfl]
      go_wp2_with fail
      go_ret
      exact ⟨by rw [hR2.out]; rfl, b2H.out⟩
    | false =>
      rw [show erV false 52 = .iface 101 (.int .i64 52) from rfl]
      go_wp2_with fail
      go_ret
      exact ⟨by rw [hR2.out]; rfl, b2H.out⟩
  · have hb : ((m : Int) == (n : Int)) = false := by simp; omega
    have hR2 : Hid (R = false) := by have := hR.out; rw [decide_eq_false h] at this; exact this
    clear h hR
    go_wp2_with fail
    go_ret
    exact ⟨by rw [hR2.out]; rfl, b1H.out⟩
/-- a point. -/
structure PtP where
  m : ByteArray
  t : List TagP
  f : List FdP
  tm : Int
/-- what is wrong with it. -/
def pointN (p : PtP) : Int := if cleanB p.m 64 then (if ptagsB p.t then (if fieldsB p.f then (if p.tm < -4611686018427387904 ∨ p.tm > 4611686018427387904 then 2 else 0) else 70) else 52) else 50
/-- a point in memory: its tags at a, its fields at b. -/
def PtIn (w : World) (a b : Option Addr) (c : Nat) (p : PtP) : Prop := TgIn w a p.t ∧ p.t.length ≤ 4398046511104 ∧ FdIn w b p.f ∧ p.f.length ≤ 4611686018427387904 ∧ p.f.length ≤ c
theorem PtIn.below {w w' : World} {a b : Option Addr} {c : Nat} {p : PtP} (h : PtIn w a b c p) (hB : Below w.heap.size w w') : PtIn w' a b c p := ⟨h.1.below hB, h.2.1, h.2.2.1.below hB, h.2.2.2⟩
end Go.Proofs.YtpbcbpiolhjlhaaGreatDoor


namespace Go.Proofs.YtpbcbpiolhjlhaaGreatDoor
open Go.RowKit _root_.Go.Proofs.YtpbcbpiolhjlhaaGreatDoor.So
set_option linter.unusedVariables false
set_option linter.unusedSimpArgs false
set_option maxRecDepth 100000 in
set_option maxHeartbeats 4000000 in
theorem bright_any (a b : Option Addr) (c1 c2 : Nat) (p : PtP) (w : World) (hp : PtIn w a b c2 p) (hT : UT w) :
    Calls Tryz.prog 30 #[.agg #[.string p.m, .slice a p.t.length c1, .slice b p.f.length c2, .int .i64 p.tm]] w fun e w' => e = .returned (erN (pointN p)) ∧ Below w.heap.size w w' := by
  obtain ⟨pm, pt, pf, ptm⟩ := p
  obtain ⟨h1, h2, h3, h4, h5⟩ := hp
  simp only at h1 h2 h3 h4 h5 ⊢
  have hN : Hid (pointN ⟨pm, pt, pf, ptm⟩ = if cleanB pm 64 then (if ptagsB pt then (if fieldsB pf then (if ptm < -4611686018427387904 ∨ ptm > 4611686018427387904 then 2 else 0) else 70) else 52) else 50) := rfl
  have cN : Hid (∀ W, Below w.heap.size w W → Calls Tryz.prog 78 #[.string pm] W fun e w' => e = .returned (erV (cleanB pm 64) 50) ∧ Below W.heap.size W w') := fun W hW => name_any pm W (hT.below hW (Nat.le_refl _))
  have cT : Hid (∀ W, Below w.heap.size w W → Calls Tryz.prog 79 #[.slice a pt.length c1] W fun e w' => e = .returned (.bool (ptagsB pt)) ∧ Below W.heap.size W w') := fun W hW => rightTags_any a c1 pt W (h1.below hW) h2 (hT.below hW (Nat.le_refl _))
  have cF : Hid (∀ W, Below w.heap.size w W → Calls Tryz.prog 80 #[.slice b pf.length c2] W fun e w' => e = .returned (.bool (fieldsB pf)) ∧ Below W.heap.size W w') := fun W hW => rightFields_any b pf c2 W (by omega) h5 (h3.below hW) (hT.below hW (Nat.le_refl _))
  generalize pointN ⟨pm, pt, pf, ptm⟩ = R at hN ⊢
  generalize cleanB pm 64 = q1 at hN cN
  generalize ptagsB pt = q2 at hN cT
  generalize fieldsB pf = q3 at hN cF
  generalize pt.length = nt at *
  generalize pf.length = nf at *
  clear h1 h2 h3 h4 h5 hT
  have bA : Below w.heap.size w (w.alloc (.cells #[.string pm, .slice a nt c1, .slice b nf c2, .int .i64 ptm] 80)) := (Below.refl _ w).alloc (Nat.le_refl _) _
  obtain ⟨w0, hw0⟩ : ∃ w0, w0 = w.alloc (.cells #[.string pm, .slice a nt c1, .slice b nf c2, .int .i64 ptm] 80) := ⟨_, rfl⟩
  obtain ⟨K, hK⟩ : ∃ K, K = w.heap.size := ⟨_, rfl⟩
  rw [← hw0] at bA
  have kl0 : K < w0.heap.size := by rw [hw0, hK]; simp
  have z0 : w0.cell? ⟨K, 0, none⟩ = some (.string pm) ∧ w0.cell? ⟨K, 1, none⟩ = some (.slice a nt c1) ∧ w0.cell? ⟨K, 2, none⟩ = some (.slice b nf c2) ∧ w0.cell? ⟨K, 3, none⟩ = some (.int .i64 ptm) := by rw [hw0, hK]; simp [go_sem]
  have kp : Hid (∀ W, Below w0.heap.size w0 W → Below w.heap.size w W ∧ W.cell? ⟨K, 0, none⟩ = some (.string pm) ∧ W.cell? ⟨K, 1, none⟩ = some (.slice a nt c1) ∧ W.cell? ⟨K, 2, none⟩ = some (.slice b nf c2) ∧ W.cell? ⟨K, 3, none⟩ = some (.int .i64 ptm)) := fun W hW => ⟨bA.trans (hW.mono bA.size), by rw [hW.cell (p := ⟨K, 0, none⟩) kl0]; exact z0.1, by rw [hW.cell (p := ⟨K, 1, none⟩) kl0]; exact z0.2.1, by rw [hW.cell (p := ⟨K, 2, none⟩) kl0]; exact z0.2.2.1, by rw [hW.cell (p := ⟨K, 3, none⟩) kl0]; exact z0.2.2.2⟩
  have C1 : Hid _ := cN.out w0 (kp.out w0 (Below.refl _ _)).1
  obtain ⟨x0, _, _, _⟩ := z0
  clear bA kl0
  go_enter Tryz.func30, Tryz.ntmps30
  go_wp2_with fail
  rw [← hw0, ← hK]
  clear hw0 hK
  refine Calls.mono C1.out ?_
  rintro e w1 ⟨rfl, b1⟩
  obtain ⟨bw1, _, x1, _, _⟩ := kp.out w1 b1
  have b1H : Hid (Below w0.heap.size w0 w1) := b1
  have bw1H : Hid (Below w.heap.size w w1) := bw1
  have C2 : Hid _ := cT.out w1 bw1
  clear C1 b1 bw1 cN x0
  cases q1 with
  | false =>
    rw [show erV false 50 = .iface 101 (.int .i64 50) from rfl]
    have hR : Hid (R = 50) := hN.out
    go_wp2_with fail
    refine Calls.mono (new_any 50 rfl _) ?_
    rintro e w2 ⟨rfl, hw⟩
    subst hw
    go_wp2_with fail
    go_ret
    exact ⟨by rw [hR.out]; rfl, bw1H.out⟩
  | true =>
    rw [show erV true 50 = .nilIface from rfl]
    go_wp2_with fail
    refine Calls.mono C2.out ?_
    rintro e w2 ⟨rfl, b2⟩
    have b2H : Hid (Below w0.heap.size w0 w2) := b1H.out.trans (b2.mono b1H.out.size)
    obtain ⟨bw2, _, _, x2, _⟩ := kp.out w2 b2H.out
    have bw2H : Hid (Below w.heap.size w w2) := bw2
    have C3 : Hid _ := cF.out w2 bw2
    clear C2 b2 bw2 cT x1 b1H bw1H
    cases q2 with
    | false =>
      have hR : Hid (R = 52) := hN.out
      go_wp2_with fail
      refine Calls.mono (new_any 52 rfl _) ?_
      rintro e w3 ⟨rfl, hw⟩
      subst hw
      go_wp2_with fail
      go_ret
      exact ⟨by rw [hR.out]; rfl, bw2H.out⟩
    | true =>
      go_wp2_with fail
      refine Calls.mono C3.out ?_
      rintro e w3 ⟨rfl, b3⟩
      have b3H : Hid (Below w0.heap.size w0 w3) := b2H.out.trans (b3.mono b2H.out.size)
      obtain ⟨bw3, _, _, _, x3⟩ := kp.out w3 b3H.out
      have bw3H : Hid (Below w.heap.size w w3) := bw3
      clear C3 b3 bw3 cF x2 b2H bw2H kp
      cases q3 with
      | false =>
        have hR : Hid (R = 70) := hN.out
        go_wp2_with fail
        refine Calls.mono (new_any 70 rfl _) ?_
        rintro e w4 ⟨rfl, hw⟩
        subst hw
        go_wp2_with fail
        go_ret
        exact ⟨by rw [hR.out]; rfl, bw3H.out⟩
      | true =>
        by_cases t1 : ptm < -4611686018427387904
        · have hR : Hid (R = 2) := by have := hN.out; simp only [if_true] at this; rw [if_pos (Or.inl t1)] at this; exact this
          go_wp2_with fail
          refine Calls.mono (new_any 2 rfl _) ?_
          rintro e w4 ⟨rfl, hw⟩
          subst hw
          go_wp2_with fail
          go_ret
          exact ⟨by rw [hR.out]; rfl, bw3H.out⟩
        · by_cases t2 : ptm > 4611686018427387904
          · have hR : Hid (R = 2) := by have := hN.out; simp only [if_true] at this; rw [if_pos (Or.inr t2)] at this; exact this
            have t3 : (4611686018427387904 : Int) < ptm := t2
            go_wp2_with fail
            refine Calls.mono (new_any 2 rfl _) ?_
            rintro e w4 ⟨rfl, hw⟩
            subst hw
            go_wp2_with fail
            go_ret
            exact ⟨by rw [hR.out]; rfl, bw3H.out⟩
          · have hR : Hid (R = 0) := by have := hN.out; simp only [if_true] at this; rw [if_neg (by omega)] at this; exact this
            have t3 : ¬ (4611686018427387904 : Int) < ptm := t2
            go_wp2_with fail
            go_ret
            exact ⟨by rw [hR.out]; rfl, bw3H.out⟩
end Go.Proofs.YtpbcbpiolhjlhaaGreatDoor


namespace Go.Proofs.YtpbcbpiolhjlhaaGreatDoor
open Go.RowKit _root_.Go.Proofs.YtpbcbpiolhjlhaaGreatDoor.So
set_option linter.unusedVariables false
set_option linter.unusedSimpArgs false
/-! ### the document's Sort, plain: where a tag goes -/
end Go.Proofs.YtpbcbpiolhjlhaaGreatDoor


namespace Go.Proofs.YtpbcbpiolhjlhaaGreatDoor
open Go.RowKit Go.Shelf
set_option linter.unusedVariables false
set_option linter.unusedSimpArgs false
end Go.Proofs.YtpbcbpiolhjlhaaGreatDoor


namespace Go.Proofs.YtpbcbpiolhjlhaaGreatDoor
open Go.RowKit Go.Shelf
attribute [local go_sem] Oper.semAt_some
set_option linter.unusedVariables false
set_option linter.unusedSimpArgs false
end Go.Proofs.YtpbcbpiolhjlhaaGreatDoor


namespace Go.Proofs.YtpbcbpiolhjlhaaGreatDoor
open Go.RowKit Go.Shelf
set_option linter.unusedVariables false
set_option linter.unusedSimpArgs false
end Go.Proofs.YtpbcbpiolhjlhaaGreatDoor


namespace Go.Proofs.YtpbcbpiolhjlhaaGreatDoor
open Go.RowKit Go.Shelf
set_option linter.unusedVariables false
set_option linter.unusedSimpArgs false
end Go.Proofs.YtpbcbpiolhjlhaaGreatDoor


namespace Go.Proofs.YtpbcbpiolhjlhaaGreatDoor
open Go.RowKit Go.Shelf
set_option linter.unusedVariables false
set_option linter.unusedSimpArgs false
end Go.Proofs.YtpbcbpiolhjlhaaGreatDoor


namespace Go.Proofs.YtpbcbpiolhjlhaaGreatDoor
open Go.RowKit Go.Shelf
set_option linter.unusedVariables false
set_option linter.unusedSimpArgs false
end Go.Proofs.YtpbcbpiolhjlhaaGreatDoor


namespace Go.Proofs.YtpbcbpiolhjlhaaGreatDoor
open Go.RowKit Go.Shelf
set_option linter.unusedVariables false
set_option linter.unusedSimpArgs false
end Go.Proofs.YtpbcbpiolhjlhaaGreatDoor


namespace Go.Proofs.YtpbcbpiolhjlhaaGreatDoor
open Go.RowKit Go.Shelf
set_option linter.unusedVariables false
set_option linter.unusedSimpArgs false
end Go.Proofs.YtpbcbpiolhjlhaaGreatDoor


namespace Go.Proofs.YtpbcbpiolhjlhaaGreatDoor
open Go.RowKit _root_.Go.Proofs.YtpbcbpiolhjlhaaGreatDoor.So
set_option linter.unusedVariables false
set_option linter.unusedSimpArgs false
end Go.Proofs.YtpbcbpiolhjlhaaGreatDoor


namespace Go.Proofs.YtpbcbpiolhjlhaaGreatDoor
open Go.RowKit _root_.Go.Proofs.YtpbcbpiolhjlhaaGreatDoor.So
set_option linter.unusedVariables false
set_option linter.unusedSimpArgs false
end Go.Proofs.YtpbcbpiolhjlhaaGreatDoor


namespace Go.Proofs.YtpbcbpiolhjlhaaGreatDoor
open Go.RowKit _root_.Go.Proofs.YtpbcbpiolhjlhaaGreatDoor.So
set_option linter.unusedVariables false
set_option linter.unusedSimpArgs false
/-- a point in memory: four cells. -/
def PAt (w : World) (b o : Nat) (p : PtP) (ta : Option Addr) (tc : Nat) (fa : Option Addr) (fc : Nat) : Prop := w.cell? ⟨b, o, none⟩ = some (.string p.m) ∧ w.cell? ⟨b, o + 1, none⟩ = some (.slice ta p.t.length tc) ∧ w.cell? ⟨b, o + 2, none⟩ = some (.slice fa p.f.length fc) ∧ w.cell? ⟨b, o + 3, none⟩ = some (.int .i64 p.tm)
theorem PAt.below {w w' : World} {b o : Nat} {p : PtP} {ta fa : Option Addr} {tc fc C : Nat} (h : PAt w b o p ta tc fa fc) (hB : Below C w w') (hb : b < C) : PAt w' b o p ta tc fa fc := by
  obtain ⟨h1, h2, h3, h4⟩ := h
  exact ⟨by rw [hB.cell (p := ⟨b, o, none⟩) hb]; exact h1, by rw [hB.cell (p := ⟨b, o + 1, none⟩) hb]; exact h2, by rw [hB.cell (p := ⟨b, o + 2, none⟩) hb]; exact h3, by rw [hB.cell (p := ⟨b, o + 3, none⟩) hb]; exact h4⟩
/-- points that lie in memory. -/
def PsIn (w : World) (a : Option Addr) (l : List PtP) : Prop := l = [] ∨ ∃ b off, a = some ⟨b, off, none⟩ ∧ b < w.heap.size ∧ ∀ i p, l[i]? = some p → ∃ ta tc fa fc, PAt w b (off + i * 4) p ta tc fa fc ∧ PtIn w ta fa fc p
theorem PsIn.below {w w' : World} {a : Option Addr} {l : List PtP} (h : PsIn w a l) (hB : Below w.heap.size w w') : PsIn w' a l := by
  rcases h with h | ⟨b, off, ha, hb, hc⟩
  · exact Or.inl h
  · refine Or.inr ⟨b, off, ha, Nat.lt_of_lt_of_le hb hB.size, fun i x hx => ?_⟩
    obtain ⟨ta, tc, fa, fc, h1, h2⟩ := hc i x hx
    exact ⟨ta, tc, fa, fc, h1.below hB hb, h2.below hB⟩
theorem PsIn.at {w wr : World} {a : Option Addr} {l : List PtP} (h : PsIn w a l) (hB : Below w.heap.size w wr) {k : Nat} {p : PtP} (hx : l[k]? = some p) : ∃ b off ta tc fa fc, a = some ⟨b, off, none⟩ ∧ b < w.heap.size ∧ PAt wr b (off + k * 4) p ta tc fa fc ∧ ∀ W, Below w.heap.size w W → PAt W b (off + k * 4) p ta tc fa fc ∧ PtIn W ta fa fc p := by
  rcases h with h0 | ⟨b, off, e, hb, hc⟩
  · rw [h0] at hx; simp at hx
  · obtain ⟨ta, tc, fa, fc, h1, h2⟩ := hc k p hx
    exact ⟨b, off, ta, tc, fa, fc, e, hb, h1.below hB hb, fun W hW => ⟨h1.below hW hb, h2.below hW⟩⟩
/-- the first one that is wrong, from place i on. -/
def badP : List PtP → Nat → Option (Nat × Int)
  | [], _ => none
  | p :: l, i => if pointN p = 0 then badP l (i + 1) else some (i, pointN p)
theorem badP_drop {l : List PtP} {k : Nat} {p : PtP} (h : l[k]? = some p) : badP (l.drop k) k = if pointN p = 0 then badP (l.drop (k + 1)) (k + 1) else some (k, pointN p) := by
  obtain ⟨hk, e⟩ := List.getElem?_eq_some_iff.1 h
  rw [List.drop_eq_getElem_cons hk, e, badP]
theorem badP_none : ∀ {l : List PtP} {i : Nat}, badP l i = none → ∀ p ∈ l, pointN p = 0
  | q :: l, i, h, p, hp => by
    rw [badP] at h
    split at h
    · rename_i h0
      rcases List.mem_cons.1 hp with e | e
      · rw [e]; exact h0
      · exact badP_none h p e
    · cases h
/-- what Check tells. -/
def chkV (l : List PtP) : Value := if 10000 < l.length then .iface 101 (.int .i64 6) else match badP l 0 with
  | none => .nilIface
  | some (i, n) => .iface 185 (.agg #[.int .i64 (i : Int), .iface 101 (.int .i64 n)])
def chkOk (l : List PtP) : Prop := l.length ≤ 10000 ∧ badP l 0 = none
theorem chkV_ok {l : List PtP} (h : chkOk l) : chkV l = .nilIface := by
  unfold chkV; rw [if_neg (by have := h.1; omega), h.2]
end Go.Proofs.YtpbcbpiolhjlhaaGreatDoor


namespace Go.Proofs.YtpbcbpiolhjlhaaGreatDoor
open Go.RowKit _root_.Go.Proofs.YtpbcbpiolhjlhaaGreatDoor.So
set_option linter.unusedVariables false
set_option linter.unusedSimpArgs false
theorem inE_any (i n : Int) (w : World) : Calls Tryz.prog 61 #[.int .i64 i, .iface 101 (.int .i64 n)] w fun e w' => e = .returned (.iface 185 (.agg #[.int .i64 i, .iface 101 (.int .i64 n)])) ∧ w' = w := by
  go_enter Tryz.func61, Tryz.ntmps61
  go_wp2
  go_ret
  exact ⟨rfl, rfl⟩
theorem psome {l : List PtP} {k : Nat} (h : k < l.length) : ∃ p, l[k]? = some p := ⟨_, List.getElem?_eq_getElem h⟩
set_option maxRecDepth 100000 in
set_option maxHeartbeats 8000000 in
theorem check_any (a : Option Addr) (c : Nat) (l : List PtP) (w : World) (hl : PsIn w a l) (hn : l.length ≤ 4611686018427387904) (hT : UT w) :
    Calls Tryz.prog 15 #[.slice a l.length c] w fun e w' => e = .returned (chkV l) ∧ Below w.heap.size w w' := by
  obtain ⟨n, hnl⟩ : ∃ n, l.length = n := ⟨_, rfl⟩
  have nH : Hid (l.length = n) := hnl
  have lH : Hid (PsIn w a l) := hl
  have cR : Hid (∀ W ta tc fa fc p, Below w.heap.size w W → PtIn W ta fa fc p → Calls Tryz.prog 30 #[.agg #[.string p.m, .slice ta p.t.length tc, .slice fa p.f.length fc, .int .i64 p.tm]] W fun e w' => e = .returned (erN (pointN p)) ∧ Below W.heap.size W w') := fun W ta tc fa fc p hW hp => bright_any ta fa tc fc p W hp (hT.below hW (Nat.le_refl _))
  obtain ⟨V, hV⟩ : ∃ V, chkV l = V := ⟨_, rfl⟩
  have hVH : Hid (chkV l = V) := hV
  rw [hV, hnl]
  rw [hnl] at hn
  clear hl hT hV hnl
  by_cases hbig : 10000 < n
  · have hb : (10000 : Int) < (n : Int) := by omega
    have hV2 : Hid (V = .iface 101 (.int .i64 6)) := by
      have := hVH.out; unfold chkV at this; rw [if_pos (by rw [nH.out]; exact hbig)] at this; exact this.symm
    go_enter Tryz.func15, Tryz.ntmps15
    go_wp2_with fail
    refine Calls.mono (new_any 6 rfl _) ?_
    rintro e w1 ⟨rfl, hw⟩
    subst w1
    go_wp2_with fail
    go_ret
    exact ⟨by rw [hV2.out]; rfl, Below.refl _ _⟩
  · have hb : ¬ (10000 : Int) < (n : Int) := by omega
    have hV2 : Hid (V = match badP l 0 with | none => Value.nilIface | some (i, n) => .iface 185 (.agg #[.int .i64 (i : Int), .iface 101 (.int .i64 n)])) := by
      have := hVH.out; unfold chkV at this; rw [if_neg (by rw [nH.out]; exact hbig)] at this; exact this.symm
    have S0 : Hid (Below w.heap.size w w ∧ badP (l.drop 0) 0 = badP l 0) := ⟨Below.refl _ _, rfl⟩
    clear hVH
    go_enter Tryz.func15, Tryz.ntmps15
    go_wp2_with fail
    go_loopw [12] (fun v wr => ∃ i : Nat, v = .int .i64 (i : Int) ∧ i ≤ n ∧ Hid (Below w.heap.size w wr ∧ badP (l.drop i) i = badP l 0)) (fun v _ => n - (intOf v).toNat)
    case atStart => exact ⟨0, rfl, Nat.zero_le _, S0⟩
    case round =>
      clear S0
      obtain ⟨i, rfl, il, hS⟩ := hrel
      have i0 : (0 : Int) ≤ (i : Int) := by omega
      have wi : IntKind.i64.wrap ((i : Int) + 1) = ((i + 1 : Nat) : Int) := IntWalk.i64_in _ (by omega)
      by_cases hi : i < n
      · have iI : (i : Int) < (n : Int) := by omega
        obtain ⟨p, hp⟩ := psome (l := l) (k := i) (by rw [nH.out]; exact hi)
        obtain ⟨b, off, ta, tc, fa, fc, e1, hbx, ax, fx⟩ := lH.out.at hS.out.1 hp
        subst e1
        have hstep := badP_drop hp
        obtain ⟨w2, hw2⟩ : ∃ w2, w2 = wr.alloc (.cells #[.string p.m, .slice ta p.t.length tc, .slice fa p.f.length fc, .int .i64 p.tm] 80) := ⟨_, rfl⟩
        have b2 : Below w.heap.size w w2 := by rw [hw2]; exact hS.out.1.alloc hS.out.1.size _
        have C : Hid _ := cR.out w2 ta tc fa fc p b2 (fx w2 b2).2
        have b2H : Hid (Below w.heap.size w w2) := b2
        have stH : Hid (badP (l.drop i) i = if pointN p = 0 then badP (l.drop (i + 1)) (i + 1) else some (i, pointN p)) := hstep
        clear fx b2 hstep hp hbx
        unfold PAt at ax
        generalize p.t.length = nt at *
        generalize p.f.length = nf at *
        obtain ⟨x1, x2, x3, x4⟩ := ax
        generalize pointN p = N at C stH
        by_cases h0 : N = 0
        · subst h0
          have S2 : Hid (badP (l.drop (i + 1)) (i + 1) = badP l 0) := by have := stH.out; rw [if_pos rfl] at this; rw [← this]; exact hS.out.2
          rw [show erN 0 = .nilIface from rfl] at C
          clear stH hS
          go_wp2_with fail
          rw [← hw2]
          clear hw2 x1 x2 x3 x4
          refine Calls.mono C.out ?_
          rintro e w3 ⟨rfl, b3⟩
          have S3 : Hid (Below w.heap.size w w3 ∧ badP (l.drop (i + 1)) (i + 1) = badP l 0) := ⟨b2H.out.trans (b3.mono b2H.out.size), S2.out⟩
          clear b3 C b2H S2
          go_wp2_with fail
          exact ⟨⟨i + 1, by first | rfl | simp, by omega, S3⟩, by simp [intOf]; omega⟩
        · rw [show erN N = .iface 101 (.int .i64 N) by unfold erN; rw [if_neg h0]] at C
          have VV : Hid (V = .iface 185 (.agg #[.int .i64 (i : Int), .iface 101 (.int .i64 N)])) := by
            have := stH.out; rw [if_neg h0] at this; rw [← hS.out.2, this] at hV2; exact hV2
          clear stH hS h0
          go_wp2_with fail
          rw [← hw2]
          clear hw2 x1 x2 x3 x4
          refine Calls.mono C.out ?_
          rintro e w3 ⟨rfl, b3⟩
          have b3H : Hid (Below w.heap.size w w3) := b2H.out.trans (b3.mono b2H.out.size)
          clear b3 C b2H
          go_wp2_with fail
          refine Calls.mono (inE_any _ _ _) ?_
          rintro e w4 ⟨rfl, hw⟩
          subst w4
          go_wp2_with fail
          go_ret
          exact ⟨by rw [VV.out]; rfl, b3H.out⟩
      · have iI : ¬ (i : Int) < (n : Int) := by omega
        have VV : Hid (V = .nilIface) := by
          have h2 := hS.out.2
          rw [List.drop_eq_nil_of_le (by rw [nH.out]; omega)] at h2
          rw [← h2] at hV2; exact hV2
        have bH : Hid (Below w.heap.size w wr) := hS.out.1
        clear hS
        go_wp2_with fail
        go_ret
        exact ⟨by rw [VV.out]; rfl, bH.out⟩
end Go.Proofs.YtpbcbpiolhjlhaaGreatDoor


namespace Go.Proofs.YtpbcbpiolhjlhaaGreatDoor
open Go.RowKit _root_.Go.Proofs.YtpbcbpiolhjlhaaGreatDoor.So
set_option linter.unusedVariables false
set_option linter.unusedSimpArgs false
end Go.Proofs.YtpbcbpiolhjlhaaGreatDoor


namespace Go.Proofs.YtpbcbpiolhjlhaaGreatDoor
open Go.RowKit _root_.Go.Proofs.YtpbcbpiolhjlhaaGreatDoor.So
set_option linter.unusedVariables false
set_option linter.unusedSimpArgs false
theorem choose_belowW {α : Type} [Inhabited α] {n : Nat} {P : Nat → α → Prop} (h : ∀ i, i < n → ∃ x, P i x) : ∃ f : Nat → α, ∀ i, i < n → P i (f i) := by
  refine ⟨fun i => if hi : i < n then Classical.choose (h i hi) else default, fun i hi => ?_⟩
  simp only [dif_pos hi]
  exact Classical.choose_spec (h i hi)
instance : Inhabited WrP := ⟨noW⟩
/-- rows that lie in memory, with where their tags lie. -/
theorem WIn.enc {w : World} {b off : Nat} {l : List WrP} (h : WIn w (some ⟨b, off, none⟩) l) : ∃ L : List WrA, L.map (·.1) = l ∧ (∀ t ∈ L, SerIn w t.2.1 t.1.s) ∧ ∀ j u, (encW L)[j]? = some u → w.cell? ⟨b, off + j, none⟩ = some u := by
  rcases h with h | ⟨b', off', e, hb, hc⟩
  · subst h; exact ⟨[], rfl, fun t ht => (by cases ht), fun j u hj => by simp [encW] at hj⟩
  · injection e with e
    injection e with e1 e2
    subst e1 e2
    have each : ∀ i, i < l.length → ∃ q : Option Addr × Nat, WAt w b (off + i * 6) (atW l i) q.1 q.2 ∧ SerIn w q.1 (atW l i).s := fun i hi => by
      obtain ⟨ta, tc, h1, h2⟩ := hc i _ (atW_some hi)
      exact ⟨(ta, tc), h1, h2⟩
    obtain ⟨q, hq⟩ := choose_belowW each
    have hget : ∀ i, i < l.length → ((List.range l.length).map fun i => ((atW l i, (q i).1, (q i).2) : WrA))[i]? = some (atW l i, (q i).1, (q i).2) := fun i hi => by rw [List.getElem?_map, List.getElem?_range hi]; rfl
    refine ⟨(List.range l.length).map fun i => (atW l i, (q i).1, (q i).2), ?_, fun t ht => ?_, fun j u hj => ?_⟩
    · refine List.ext_getElem? fun i => ?_
      rw [List.map_map, List.getElem?_map]
      rcases Nat.lt_or_ge i l.length with hi | hi
      · rw [List.getElem?_range hi, atW_some hi]; rfl
      · rw [List.getElem?_eq_none (by simpa using hi), List.getElem?_eq_none hi]; rfl
    · obtain ⟨i, hi, rfl⟩ := List.mem_map.1 ht
      exact (hq i (List.mem_range.1 hi)).2
    · have hj2 : j < l.length * 6 := by
        have := (List.getElem?_eq_some_iff.1 hj).1
        rw [encW_len] at this
        simpa using this
      have hi : j / 6 < l.length := by omega
      obtain ⟨e1, e2, e3, e4, e5, e6⟩ := encW_get _ _ _ (hget _ hi)
      obtain ⟨c1, c2, c3, c4, c5, c6⟩ := (hq _ hi).1
      rcases (by omega : j % 6 = 0 ∨ j % 6 = 1 ∨ j % 6 = 2 ∨ j % 6 = 3 ∨ j % 6 = 4 ∨ j % 6 = 5) with r | r | r | r | r | r
      · rw [show j = j / 6 * 6 by omega] at hj ⊢
        rw [e1] at hj
        rw [c1, ← hj]
      · rw [show j = j / 6 * 6 + 1 by omega] at hj ⊢
        rw [e2] at hj
        rw [← Nat.add_assoc, c2, ← hj]
      · rw [show j = j / 6 * 6 + 2 by omega] at hj ⊢
        rw [e3] at hj
        rw [← Nat.add_assoc, c3, ← hj]
      · rw [show j = j / 6 * 6 + 3 by omega] at hj ⊢
        rw [e4] at hj
        rw [← Nat.add_assoc, c4, ← hj]
      · rw [show j = j / 6 * 6 + 4 by omega] at hj ⊢
        rw [e5] at hj
        rw [← Nat.add_assoc, c5, ← hj]
      · rw [show j = j / 6 * 6 + 5 by omega] at hj ⊢
        rw [e6] at hj
        rw [← Nat.add_assoc, c6, ← hj]
theorem app_noW (W : World) (a ad : Option Addr) (n cap c : Nat) (h : n ≤ cap) : (Builtin.append_ #[23, 23] 23 #[.slice a n cap, .slice ad 0 c]).run Tryz.prog W = .ok (.slice a n cap) W := by
  obtain ⟨i, i1, i0⟩ := Option.map_eq_some_iff.1 wr_info
  cases a <;> cases ad <;> simp [Builtin.append_, run_underlying Tryz.underlying23, sizeOf, typeInfo, i1, Builtin.lenOf, Builtin.firstCells, storeCells, loadCells, loadCellsFrom, h]
theorem OW.slice' {w : World} {B : Nat} {v : Value} {L : List WrA} (h : w.ownsRow B 76 6 v L.length (encW L)) : ∃ a cap, v = .slice a L.length cap ∧ L.length ≤ cap := by
  rcases h.2 with ⟨e1, e2⟩ | ⟨g, cap', cur, e1, _, _, hc, _⟩
  · exact ⟨none, 0, by rw [e1, e2], by omega⟩
  · exact ⟨_, cap', e1, hc⟩
/-- a row of one's own whose tags all lie where they lay at the beginning. -/
structure CcS (w0 W : World) (v : Value) (L : List WrA) : Prop where
  own : W.ownsRow w0.heap.size 76 6 v L.length (encW L)
  tg : ∀ t ∈ L, SerIn w0 t.2.1 t.1.s
  bl : Below w0.heap.size w0 W
theorem CcS.nil (w : World) : CcS w w (.slice none 0 0) [] := ⟨⟨rfl, Or.inl ⟨rfl, rfl⟩⟩, (fun t h => by cases h), Below.refl _ _⟩
theorem CcS.win {w0 W : World} {v : Value} {L : List WrA} (h : CcS w0 W v L) : ∃ a cap, v = .slice a L.length cap ∧ L.length ≤ cap ∧ WIn W a (L.map (·.1)) := by
  obtain ⟨a, cap, e, hc⟩ := OW.slice' h.own
  have ho : OW W w0.heap.size v L := ⟨h.own, fun t ht => (h.tg t ht).belowW h.bl⟩
  obtain ⟨a', cap', e', hw⟩ := ho.win
  rw [e] at e'
  injection e' with e1 e2 e3
  subst e1 e3
  exact ⟨a, cap, e, hc, hw⟩
/-- a row appended, or none. -/
theorem appW (w0 W : World) (v : Value) (L : List WrA) (h : CcS w0 W v L) (a : Option Addr) (c : Nat) (m : List WrP) (hm : WIn w0 a m) (hn : L.length + m.length ≤ 1099511627776) :
    ∃ v' w' M, (Builtin.append_ #[23, 23] 23 #[v, .slice a m.length c]).run Tryz.prog W = .ok v' w' ∧ M.map (·.1) = m ∧ CcS w0 w' v' (L ++ M) := by
  rcases Nat.eq_zero_or_pos m.length with h0 | h0
  · have e := List.eq_nil_of_length_eq_zero h0
    subst e
    obtain ⟨a1, c1, e1, hc1⟩ := OW.slice' h.own
    exact ⟨v, W, [], by rw [e1]; exact app_noW _ _ _ _ _ _ hc1, rfl, by rw [List.append_nil]; exact h⟩
  · have hm' := hm
    rcases hm with e | ⟨b, off, e, hb, hc⟩
    · rw [e] at h0; simp at h0
    · subst e
      obtain ⟨M, hM, hs, hcs⟩ := hm'.enc
      have lM : M.length = m.length := by rw [← hM, List.length_map]
      obtain ⟨i, i1, i0⟩ := Option.map_eq_some_iff.1 wr_info
      have i2 : i.zero = some (.agg #[.string ⟨#[]⟩, .slice none 0 0, .string ⟨#[]⟩, .int .i64 0, .int .u8 0, .int .i64 0]) := congrArg (·.1) i0
      have i3 : i.bytes = 80 := congrArg (·.2.1) i0
      have i4 : i.size = 6 := congrArg (·.2.2) i0
      have hml : maxLen = 9223372036854775807 := by decide
      obtain ⟨g, cap, w', hr, own, gr, hat, hlt2⟩ := run_append_lies (P := Tryz.prog) W 23 23 w0.heap.size 76 i (.agg #[.string ⟨#[]⟩, .slice none 0 0, .string ⟨#[]⟩, .int .i64 0, .int .u8 0, .int .i64 0]) 6 80 Tryz.underlying23 i1 i2 i4 i3 rfl (by omega) v L.length (encW L) h.own ⟨b, off, none⟩ m.length c (encW M) (by rw [encW_len, lM]) (fun j u hj => by rw [tag_add, h.bl.cell (p := ⟨b, off + j, none⟩) hb]; exact hcs j u hj) (encW_one _) h0 (by omega) (by omega) h.bl.size _ rfl
      refine ⟨_, w', M, hr, hM, ?_, fun t ht => ?_, h.bl.trans ((Below.refl w0.heap.size W).grown gr h.bl.size (fun k e => (World.ownsRow.lt h.own k e).1))⟩
      · rw [List.length_append, lM, encW_append]; exact own
      · rcases List.mem_append.1 ht with q | q
        · exact h.tg t q
        · exact hs t q
end Go.Proofs.YtpbcbpiolhjlhaaGreatDoor


namespace Go.Proofs.YtpbcbpiolhjlhaaGreatDoor
open Go.RowKit
set_option linter.unusedVariables false
set_option linter.unusedSimpArgs false
theorem wr_infoG : (Tryz.prog.info? 76).map (fun i => (i.zero, i.bytes, i.size)) = some (some (.agg #[.string ⟨#[]⟩, .slice none 0 0, .string ⟨#[]⟩, .int .i64 0, .int .u8 0, .int .i64 0]), 80, 6) := by kernel_rfl
abbrev zW6 : Array Value := #[.string ⟨#[]⟩, .slice none 0 0, .string ⟨#[]⟩, .int .i64 0, .int .u8 0, .int .i64 0]
/-- room for n, where there was nothing: append of what make makes. -/
theorem grow_run (w : World) (n : Nat) (h0 : 0 < n) (hn : n ≤ 1099511627776) :
    (Builtin.append_ #[23, 3] 23 #[.slice none 0 0, .int .i64 (n : Int)]).run Tryz.prog w = .ok (.slice (some ⟨w.heap.size, 0, none⟩) n (grownCap w n 0 76)) (w.drew.alloc (.cells (Builtin.zeroCells zW6 n ++ Builtin.zeroCells zW6 (grownCap w n 0 76 - n)) 76)) := by
  obtain ⟨i, i1, i0⟩ := Option.map_eq_some_iff.1 wr_infoG
  have i2 : i.zero = some (.agg zW6) := congrArg (·.1) i0
  have i3 : i.bytes = 80 := congrArg (·.2.1) i0
  have i4 : i.size = 6 := congrArg (·.2.2) i0
  have nw : IntKind.i64.wrap (n : Int) = (n : Int) := IntWalk.i64_in _ (by omega)
  have a1 : ¬ ((n : Int) < 0) := by omega
  have a2 : ¬ (281474976710656 < (n : Int) * 80) := by omega
  have a3 : ¬ (n = 0) := by omega
  have a4 : ¬ (n * 6 = 0) := by omega
  have a5 : ¬ (9223372036854775807 < (n : Int)) := by omega
  have a6 : Builtin.nextslicecap n 0 = n := by unfold Builtin.nextslicecap; rw [if_pos (by omega)]
  have a7 : ¬ (281474976710656 < n * 80) := by omega
  have hz6 : (Value.agg zW6).cells = zW6 := rfl
  simp [Builtin.append_, run_underlying Tryz.underlying23, run_underlying Tryz.underlying3, sizeOf, typeInfo, zeroValue, i1, i2, i3, i4, asInt, asIntOf, nw, a1, a2, a3, a4, a5, a6, a7, Question.forced, newRow, grownCap, Builtin.firstCells, hz6]
theorem zero_size (n : Nat) : (Builtin.zeroCells zW6 n).size = n * 6 := by simp [Builtin.zeroCells]
theorem wpList_append_runX {P : Program} {ops : Array Oper} {rest : List Oper} {o : Oper} {a : Act} {Q : Exit → Act → World → Prop} {w : World} (hgd : o.guard = none) (s x : Operand) (t u : TypeId)
    (ho : o.op = .call { callee := .builtin .append, args := #[s, x], argTypes := #[t, u] }) (v y v' : Value) (w' : World) (hs : a.eval s = v) (hx : a.eval x = y) (hr : (Builtin.append_ #[t, u] o.type #[v, y]).run P w = .ok v' w')
    (h : wpList P ops Q rest (a.put o.dst v') w') : wpList P ops Q (o :: rest) a w := by
  refine wpList_plain hgd fun K hK => ?_
  unfold Oper.wp execOp
  simp only [ho, resolve, invoke, builtin, Sem.run_bind, Sem.run_pure, Result.andThen_ok, List.map_toArray, List.map_cons, List.map_nil, hs, hx, hr]
  exact hK _ _ h
end Go.Proofs.YtpbcbpiolhjlhaaGreatDoor
