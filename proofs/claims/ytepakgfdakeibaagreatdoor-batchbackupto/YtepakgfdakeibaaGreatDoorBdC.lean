
import Derived.Test.YtepakgfdakeibaaGreatDoorBgD
import Derived.Test.YtepakgfdakeibaaGreatDoorKyG
import Derived.Test.YtepakgfdakeibaaGreatDoorAsC
namespace Go.Proofs.YtepakgfdakeibaaGreatDoor
open Go.RowKit _root_.Go.Proofs.YtepakgfdakeibaaGreatDoor.So
set_option linter.unusedVariables false
set_option linter.unusedSimpArgs false
abbrev FdP := ByteArray × Int
/-- fields that lie in memory. -/
def FdIn (w : World) (a : Option Addr) (l : List FdP) : Prop := l = [] ∨ ∃ b off, a = some ⟨b, off, none⟩ ∧ b < w.heap.size ∧ ∀ i t, l[i]? = some t → w.cell? ⟨b, off + i * 2, none⟩ = some (.string t.1) ∧ w.cell? ⟨b, off + i * 2 + 1, none⟩ = some (.int .i64 t.2)
theorem FdIn.below {w w' : World} {a : Option Addr} {l : List FdP} (h : FdIn w a l) (hB : Below w.heap.size w w') : FdIn w' a l := by
  rcases h with h | ⟨b, off, ha, hb, hc⟩
  · exact Or.inl h
  · refine Or.inr ⟨b, off, ha, by have := hB.size; omega, fun i t ht => ?_⟩
    rw [hB.cell (p := ⟨b, off + i * 2, none⟩) hb, hB.cell (p := ⟨b, off + i * 2 + 1, none⟩) hb]
    exact hc i t ht
theorem FdIn.at {w wr : World} {a : Option Addr} {l : List FdP} (h : FdIn w a l) (hB : Below w.heap.size w wr) {k : Nat} {t : FdP} (ht : l[k]? = some t) : ∃ b off, a = some ⟨b, off, none⟩ ∧ b < w.heap.size ∧ wr.cell? ⟨b, off + k * 2, none⟩ = some (.string t.1) ∧ wr.cell? ⟨b, off + k * 2 + 1, none⟩ = some (.int .i64 t.2) := by
  rcases h with h0 | ⟨b, off, e, hb, hc⟩
  · rw [h0] at ht; simp at ht
  · exact ⟨b, off, e, hb, by rw [hB.cell (p := ⟨b, off + k * 2, none⟩) hb]; exact (hc k t ht).1, by rw [hB.cell (p := ⟨b, off + k * 2 + 1, none⟩) hb]; exact (hc k t ht).2⟩
theorem FdIn.pre {w : World} {a : Option Addr} {l : List FdP} (h : FdIn w a l) (k : Nat) : FdIn w a (l.take k) := by
  rcases h with h | ⟨b, off, e, hb, hc⟩
  · exact Or.inl (by rw [h]; simp)
  · refine Or.inr ⟨b, off, e, hb, fun i t ht => hc i t ?_⟩
    rw [List.getElem?_take] at ht
    split at ht
    · exact ht
    · cases ht
/-- is a key among these? -/
def keyIn (s : ByteArray) (l : List FdP) : Bool := l.any fun t => decide (t.1 = s)
theorem keyIn_step {l : List FdP} {k : Nat} {t : FdP} (ht : l[k]? = some t) (s : ByteArray) : keyIn s (l.drop k) = (decide (t.1 = s) || keyIn s (l.drop (k + 1))) := by
  obtain ⟨h1, rfl⟩ := List.getElem?_eq_some_iff.1 ht
  unfold keyIn
  rw [List.drop_eq_getElem_cons h1]
  rfl
set_option maxRecDepth 100000 in
theorem samek_any (t : FdP) (s : ByteArray) (K : Nat) (w : World) (hK : K < w.heap.size) (hc : w.cell? ⟨K, 0, none⟩ = some (.string s)) :
    Calls Tryz.prog 65 #[.agg #[.string t.1, .int .i64 t.2], .pointer (some ⟨K, 0, none⟩)] w fun e w' => e = .returned (.bool (decide (t.1 = s))) ∧ Below w.heap.size w w' := by
  obtain ⟨tk, tn⟩ := t
  have c1 : ∀ o, (w.alloc o).cell? ⟨K, 0, none⟩ = some (.string s) := fun o => by rw [((Below.refl w.heap.size w).alloc (Nat.le_refl _) o).cell (p := ⟨K, 0, none⟩) hK]; exact hc
  have b1 : ∀ o, Below w.heap.size w (w.alloc o) := fun o => (Below.refl _ w).alloc (Nat.le_refl _) o
  rw [← ba_dec]
  go_enter Tryz.func65, Tryz.ntmps65
  go_wp2_with fail
  go_ret
  exact ⟨rfl, b1 _⟩
set_option maxRecDepth 100000 in
set_option maxHeartbeats 4000000 in
theorem idxF_any (a : Option Addr) (l : List FdP) (c : Nat) (s : ByteArray) (K : Nat) (w : World) (hl : l.length ≤ 9223372036854775807) (ha : FdIn w a l) (hK : K < w.heap.size) (hc : w.cell? ⟨K, 0, none⟩ = some (.string s)) :
    Calls Tryz.prog 89 #[.slice a l.length c, .func (.func 65) #[] #[.pointer (some ⟨K, 0, none⟩)]] w fun e w' => ∃ z : Int, e = .returned (.int .i64 z) ∧ decide (0 ≤ z) = keyIn s l ∧ Below w.heap.size w w' := by
  have hA : Hid (FdIn w a l) := ha
  have hF : Hid (∀ (t : FdP) W, Below w.heap.size w W → Calls Tryz.prog 65 #[.agg #[.string t.1, .int .i64 t.2], .pointer (some ⟨K, 0, none⟩)] W fun e w' => e = .returned (.bool (decide (t.1 = s))) ∧ Below W.heap.size W w') := fun t W hW => samek_any t s K W (Nat.lt_of_lt_of_le hK hW.size) (by rw [hW.cell (p := ⟨K, 0, none⟩) hK]; exact hc)
  clear ha hc
  obtain ⟨R, hR⟩ : ∃ R, keyIn s l = R := ⟨_, rfl⟩
  have hR0 : Hid (keyIn s (l.drop 0) = R) := hR
  rw [hR]
  clear hR
  obtain ⟨n, hn⟩ : ∃ n, l.length = n := ⟨_, rfl⟩
  have hN : Hid (l.length = n) := hn
  rw [hn] at hl ⊢
  clear hn
  go_enter Tryz.func89, Tryz.ntmps89
  go_wp2_with fail
  go_loopw [8] (fun i wr => ∃ k : Nat, i = .int .i64 (k : Int) ∧ k ≤ n ∧ Hid (keyIn s (l.drop k) = R) ∧ Below w.heap.size w wr) (fun i _ => n - (intOf i).toNat)
  case atStart => exact ⟨0, rfl, by omega, hR0, Below.refl _ _⟩
  case round =>
    obtain ⟨k, rfl, hkn, hI, hB⟩ := hrel
    by_cases hk : k < n
    · have hkI : (k : Int) < (n : Int) := by omega
      obtain ⟨t, ht⟩ : ∃ t, l[k]? = some t := ⟨_, List.getElem?_eq_getElem (by have := hN.out; omega)⟩
      obtain ⟨b1, o1, rfl, hb1, t1, t2⟩ := hA.out.at hB ht
      have hst := keyIn_step ht s
      rw [hI.out] at hst
      have hst2 : Hid (R = (decide (t.1 = s) || keyIn s (l.drop (k + 1)))) := hst
      have hC : Hid (Calls Tryz.prog 65 #[.agg #[.string t.1, .int .i64 t.2], .pointer (some ⟨K, 0, none⟩)] wr fun e w' => e = .returned (.bool (decide (t.1 = s))) ∧ Below wr.heap.size wr w') := hF.out t wr hB
      clear hst ht
      generalize decide (t.1 = s) = q at hst2 hC
      generalize t.1 = ta at *
      generalize t.2 = tb at *
      cases q with
      | true =>
        have hz : Hid (R = true) := by have := hst2.out; exact this
        clear hst2
        go_wp2_with (refine Calls.mono hC.out ?_; rintro e w' ⟨rfl, hB2⟩)
        go_ret
        exact ⟨(k : Int), rfl, by rw [hz.out]; simp, hB.trans (hB2.mono hB.size)⟩
      | false =>
        have hz : Hid (keyIn s (l.drop (k + 1)) = R) := by have := hst2.out; exact this.symm
        clear hst2
        go_wp2_with (refine Calls.mono hC.out ?_; rintro e w' ⟨rfl, hB2⟩)
        go_round
        case measure => simp only [intOf]; omega
        case rel => exact ⟨k + 1, by simp, by omega, hz, hB.trans (hB2.mono hB.size)⟩
    · have hkI : ¬ (k : Int) < (n : Int) := by omega
      have hE : Hid (R = false) := by have h := hI.out; rw [List.drop_eq_nil_of_le (by have := hN.out; omega)] at h; exact h.symm
      go_wp2_with fail
      go_ret
      exact ⟨-1, rfl, by rw [hE.out]; rfl, hB⟩
set_option maxRecDepth 100000 in
theorem cfF_any (a : Option Addr) (l : List FdP) (c : Nat) (s : ByteArray) (K : Nat) (w : World) (hl : l.length ≤ 9223372036854775807) (ha : FdIn w a l) (hK : K < w.heap.size) (hc : w.cell? ⟨K, 0, none⟩ = some (.string s)) :
    Calls Tryz.prog 64 #[.slice a l.length c, .func (.func 65) #[] #[.pointer (some ⟨K, 0, none⟩)]] w fun e w' => e = .returned (.bool (keyIn s l)) ∧ Below w.heap.size w w' := by
  have hC : Hid (Calls Tryz.prog 89 #[.slice a l.length c, .func (.func 65) #[] #[.pointer (some ⟨K, 0, none⟩)]] w fun e w' => ∃ z : Int, e = .returned (.int .i64 z) ∧ decide (0 ≤ z) = keyIn s l ∧ Below w.heap.size w w') := idxF_any a l c s K w hl ha hK hc
  generalize keyIn s l = R at hC ⊢
  generalize l.length = n at hC hl ⊢
  clear ha hc hK
  go_enter Tryz.func64, Tryz.ntmps64
  go_wp2_with fail
  refine Calls.mono hC.out ?_
  rintro e w' ⟨z, rfl, hz, hB⟩
  have hzH : Hid (decide (0 ≤ z) = R) := hz
  clear hz hC
  go_wp2_with fail
  go_ret
  exact ⟨by rw [← hzH.out]; rfl, hB⟩
/-- are the first k fields right, each by itself and no key twice? -/
def fOk (l : List FdP) : Nat → Bool
  | 0 => true
  | k + 1 => fOk l k && !(keyIn (l.getD k (⟨#[]⟩, 0)).1 (l.take k)) && columnB (l.getD k (⟨#[]⟩, 0)).1
def fieldsB (l : List FdP) : Bool := decide (1 ≤ l.length) && decide (l.length ≤ 16) && fOk l l.length
theorem fOk_false {l : List FdP} {k m : Nat} (h : fOk l k = false) (hm : k ≤ m) : fOk l m = false := by
  induction m with
  | zero => obtain rfl : k = 0 := by omega
            exact h
  | succ m ih =>
    rcases Nat.lt_or_ge k (m + 1) with c | c
    · unfold fOk; rw [ih (by omega)]; rfl
    · obtain rfl : k = m + 1 := by omega
      exact h
set_option maxRecDepth 100000 in
theorem bcolumn_any (s : ByteArray) (w : World) (hT : UT w) : Calls Tryz.prog 66 #[.string s] w fun e w' => e = .returned (.bool (columnB s)) ∧ Below w.heap.size w w' := by
  have c := right_any none 0 ⟨⟨#[109]⟩, [], s⟩ w ⟨Or.inl rfl, by simp⟩ hT
  have hr : rightN ⟨⟨#[109]⟩, [], s⟩ = if columnB s then 0 else 50 := by
    have h1 : cleanB ⟨#[109]⟩ 64 = true := by decide +kernel
    have h2 : tagsB [] = true := by decide +kernel
    unfold rightN
    simp only [h1, h2, if_true]
  rw [hr] at c
  have cH : Hid (Calls Tryz.prog 90 #[.agg #[.string ⟨#[109]⟩, .slice none 0 0, .string s]] w fun e w' => e = .returned (erN (if columnB s then 0 else 50)) ∧ Below w.heap.size w w') := c
  clear c hr
  generalize columnB s = q at cH ⊢
  cases q with
  | true =>
    rw [show erN (if true = true then 0 else 50) = .nilIface from rfl] at cH
    go_enter Tryz.func66, Tryz.ntmps66
    go_wp2_with fail
    refine Calls.mono cH.out ?_
    rintro e w1 ⟨rfl, b1⟩
    go_wp2_with fail
    go_ret
    exact ⟨rfl, b1⟩
  | false =>
    rw [show erN (if false = true then 0 else 50) = .iface 34 (.int .i64 50) from rfl] at cH
    go_enter Tryz.func66, Tryz.ntmps66
    go_wp2_with fail
    refine Calls.mono cH.out ?_
    rintro e w1 ⟨rfl, b1⟩
    go_wp2_with fail
    go_ret
    exact ⟨rfl, b1⟩
set_option maxRecDepth 100000 in
set_option maxHeartbeats 4000000 in
theorem rightFields_any (a : Option Addr) (l : List FdP) (c : Nat) (w : World) (hl : l.length ≤ 4611686018427387904) (hcap : l.length ≤ c) (ha : FdIn w a l) (hT : UT w) :
    Calls Tryz.prog 36 #[.slice a l.length c] w fun e w' => e = .returned (.bool (fieldsB l)) ∧ Below w.heap.size w w' := by
  have hA : Hid (FdIn w a l) := ha
  have hU : Hid (UT w) := hT
  have cC : Hid (∀ (k : Nat) (s : ByteArray) (K : Nat) (c2 : Nat) W, k ≤ l.length → Below w.heap.size w W → K < W.heap.size → W.cell? ⟨K, 0, none⟩ = some (.string s) → Calls Tryz.prog 64 #[.slice a k c2, .func (.func 65) #[] #[.pointer (some ⟨K, 0, none⟩)]] W fun e w' => e = .returned (.bool (keyIn s (l.take k))) ∧ Below W.heap.size W w') := fun k s K c2 W hk hW h1 h2 => by
    have := cfF_any a (l.take k) c2 s K W (by simp; omega) ((ha.below hW).pre k) h1 h2
    rw [List.length_take, Nat.min_eq_left hk] at this
    exact this
  have hBr : Hid (fieldsB l = (decide (1 ≤ l.length) && decide (l.length ≤ 16) && fOk l l.length)) := rfl
  clear ha hT
  generalize fieldsB l = R at hBr ⊢
  obtain ⟨n, hn⟩ : ∃ n, l.length = n := ⟨_, rfl⟩
  have hN : Hid (l.length = n) := hn
  rw [hn] at hl hcap hBr cC ⊢
  clear hn
  by_cases h0 : n = 0
  · have hz : ((n : Int) == 0) = true := by simp; omega
    have hR : Hid (R = false) := by
      have := hBr.out
      rw [show decide (1 ≤ n) = false from decide_eq_false (by omega)] at this
      exact this
    clear h0 hBr
    go_enter Tryz.func36, Tryz.ntmps36
    go_wp2_with fail
    go_ret
    exact ⟨by rw [hR.out]; rfl, Below.refl _ _⟩
  · have hz : ((n : Int) == 0) = false := by simp; omega
    by_cases h16 : 16 < n
    · have hz16 : (n : Int) > 16 := by omega
      have hz17 : (16 : Int) < (n : Int) := by omega
      have hR : Hid (R = false) := by
        have := hBr.out
        rw [show decide (n ≤ 16) = false from decide_eq_false (by omega)] at this
        show R = false
        simpa using this
      clear h0 hBr
      go_enter Tryz.func36, Tryz.ntmps36
      go_wp2_with fail
      go_ret
      exact ⟨by rw [hR.out]; rfl, Below.refl _ _⟩
    · have hz16 : ¬ (n : Int) > 16 := by omega
      have hz17 : ¬ (16 : Int) < (n : Int) := by omega
      have hR : Hid (R = fOk l n) := by
        have := hBr.out
        rw [show decide (n ≤ 16) = true from decide_eq_true (by omega), show decide (1 ≤ n) = true from decide_eq_true (by omega)] at this
        show R = fOk l n
        simpa using this
      clear h0 hBr
      go_enter Tryz.func36, Tryz.ntmps36
      go_wp2_with fail
      go_loopw [16] (fun i wr => ∃ k : Nat, i = .int .i64 (k : Int) ∧ k ≤ n ∧ Hid (fOk l k = true) ∧ Below w.heap.size w wr) (fun i _ => n - (intOf i).toNat)
      case atStart => exact ⟨0, rfl, by omega, rfl, Below.refl _ _⟩
      case round =>
        obtain ⟨k, rfl, hkn, hI, hB⟩ := hrel
        by_cases hk : k < n
        · have hkI : (k : Int) < (n : Int) := by omega
          have k0 : (0 : Int) ≤ (k : Int) := by omega
          have kc : (k : Int) ≤ (c : Int) := by omega
          obtain ⟨t, ht⟩ : ∃ t, l[k]? = some t := ⟨_, List.getElem?_eq_getElem (by have := hN.out; omega)⟩
          obtain ⟨b1, o1, rfl, hb1, t1, t2⟩ := hA.out.at hB ht
          have hst : fOk l (k + 1) = (fOk l k && !(keyIn t.1 (l.take k)) && columnB t.1) := by
            conv => lhs; unfold fOk
            rw [List.getD_eq_getElem?_getD, ht]; rfl
          rw [hI.out] at hst
          obtain ⟨tk, tn⟩ := t
          simp only at t1 t2 hst
          have bA : Below wr.heap.size wr (wr.alloc (.cells #[.string tk, .int .i64 tn] 54)) := (Below.refl _ wr).alloc (Nat.le_refl _) _
          have bA2 : Below w.heap.size w (wr.alloc (.cells #[.string tk, .int .i64 tn] 54)) := hB.trans (bA.mono hB.size)
          have C1 : Hid (Calls Tryz.prog 64 #[.slice (some ⟨b1, o1, none⟩) k c, .func (.func 65) #[] #[.pointer (some ⟨wr.heap.size, 0, none⟩)]] (wr.alloc (.cells #[.string tk, .int .i64 tn] 54)) fun e w' => e = .returned (.bool (keyIn tk (l.take k))) ∧ Below w.heap.size w w' ∧ w'.cell? ⟨wr.heap.size, 0, none⟩ = some (.string tk) ∧ UT w') := (cC.out k tk wr.heap.size c _ hkn bA2 (by simp) (by simp [go_sem])).mono fun e w' hh => ⟨hh.1, bA2.trans (hh.2.mono bA2.size), by rw [hh.2.cell (p := ⟨wr.heap.size, 0, none⟩) (by show wr.heap.size < (wr.alloc _).heap.size; simp)]; simp [go_sem], hU.out.below (bA2.trans (hh.2.mono bA2.size)) (Nat.le_refl _)⟩
          have C2 : Hid (∀ W, UT W → Calls Tryz.prog 66 #[.string tk] W fun e w' => e = .returned (.bool (columnB tk)) ∧ Below W.heap.size W w') := fun W hW => bcolumn_any tk W hW
          have hstH : Hid (fOk l (k + 1) = (true && !(keyIn tk (l.take k)) && columnB tk)) := hst
          generalize keyIn tk (l.take k) = q1 at C1 hstH
          generalize columnB tk = q2 at C2 hstH
          clear hst ht bA bA2 hB
          go_wp2_with fail
          refine Calls.mono C1.out ?_
          rintro e w1 ⟨rfl, b2, cK, uT⟩
          have uTH : Hid (UT w1) := uT
          have b2H : Hid (Below w.heap.size w w1) := b2
          clear uT b2 C1 t1 t2
          cases q1 with
          | true =>
            have hF : Hid (R = false) := by rw [hR.out]; exact fOk_false (k := k + 1) (by rw [hstH.out]; rfl) (by omega)
            go_wp2_with fail
            go_ret
            exact ⟨by rw [hF.out]; rfl, b2H.out⟩
          | false =>
            go_wp2_with fail
            refine Calls.mono (C2.out _ uTH.out) ?_
            rintro e w2 ⟨rfl, b3⟩
            have b3H : Hid (Below w.heap.size w w2) := b2H.out.trans (b3.mono b2H.out.size)
            clear b3 b2H uTH
            cases q2 with
            | true =>
              have nx : Hid (fOk l (k + 1) = true) := by rw [hstH.out]; rfl
              clear hstH
              go_wp2_with fail
              go_round
              case measure => simp only [intOf]; omega
              case rel => exact ⟨k + 1, by simp, by omega, nx, b3H.out⟩
            | false =>
              have hF : Hid (R = false) := by rw [hR.out]; exact fOk_false (k := k + 1) (by rw [hstH.out]; rfl) (by omega)
              clear hstH
              go_wp2_with fail
              go_ret
              exact ⟨by rw [hF.out]; rfl, b3H.out⟩
        · have hkI : ¬ (k : Int) < (n : Int) := by omega
          obtain rfl : k = n := by omega
          have hF : Hid (R = true) := by rw [hR.out]; exact hI.out
          go_wp2_with fail
          go_ret
          exact ⟨by rw [hF.out]; rfl, hB⟩
end Go.Proofs.YtepakgfdakeibaaGreatDoor

namespace Go.Proofs.YtepakgfdakeibaaGreatDoor
open Go.RowKit _root_.Go.Proofs.YtepakgfdakeibaaGreatDoor.So
set_option linter.unusedVariables false
set_option linter.unusedSimpArgs false
theorem sortedR_tin {w w' : World} {e : Ending} {l : List TagP} (h : SortedR w w' e l) : ∃ a c, e = .returned (.slice a (sortT l).length c) ∧ TgIn w' a (sortT l) := by
  rcases h with ⟨rfl, h⟩ | ⟨g, m, cap, G, h1, h2, h3, h4, h5⟩
  · exact ⟨none, 0, h, Or.inl rfl⟩
  · refine ⟨some ⟨g, 0, none⟩, cap, ?_, by rw [← h5]; exact h4.tin⟩
    rw [h1, ← h5]; simp
theorem insD_len (t : TagP) : ∀ s : List TagP, (insD kl t s).length ≤ s.length + 1
  | [] => by simp [insD]
  | x :: r => by
    unfold insD
    split
    · have := insD_len t r
      simp only [List.length_cons]; omega
    · split
      · simp
      · simp
theorem sortT_short (l : List TagP) : (sortT l).length ≤ l.length := by
  unfold sortT srtD
  have : ∀ (l s : List TagP), (l.foldl (fun s t => insD kl t s) s).length ≤ s.length + l.length := by
    intro l
    induction l with
    | nil => intro s; simp
    | cons t r ih =>
      intro s
      have h1 := ih (insD kl t s)
      have h2 := insD_len t s
      simp only [List.foldl_cons, List.length_cons]; omega
  have h := this l []
  simpa using h
/-- are a point's tags right, in any order, no key twice? -/
def ptagsB (l : List TagP) : Bool := decide ((sortT l).length = l.length) && tagsB (sortT l)
set_option maxRecDepth 100000 in
theorem rightTags_any (a : Option Addr) (c : Nat) (l : List TagP) (w : World) (ha : TgIn w a l) (hl : l.length ≤ 4398046511104) (hT : UT w) :
    Calls Tryz.prog 35 #[.slice a l.length c] w fun e w' => e = .returned (.bool (ptagsB l)) ∧ Below w.heap.size w w' := by
  have C1 : Hid (Calls Tryz.prog 27 #[.slice a l.length c] w fun e w' => ∃ a' c', e = .returned (.slice a' (sortT l).length c') ∧ Below w.heap.size w w' ∧ Calls Tryz.prog 63 #[.slice a' (sortT l).length c'] w' fun e w2 => e = .returned (erV (tagsB (sortT l)) 52) ∧ Below w'.heap.size w' w2) := (sort_any a c l w ha hl).mono fun e w' h => by
    obtain ⟨a', c', e1, t1⟩ := sortedR_tin h.1
    exact ⟨a', c', e1, h.2, tags_any a' (sortT l) c' w' (by have := sortT_short l; omega) t1 (hT.below h.2 (Nat.le_refl _))⟩
  have hR : Hid (ptagsB l = (decide ((sortT l).length = l.length) && tagsB (sortT l))) := rfl
  clear ha hT
  generalize ptagsB l = R at hR ⊢
  generalize tagsB (sortT l) = q at C1 hR
  generalize (sortT l).length = m at C1 hR
  generalize l.length = n at *
  go_enter Tryz.func35, Tryz.ntmps35
  go_wp2_with fail
  refine Calls.mono C1.out ?_
  rintro e w1 ⟨a', c', rfl, b1, k1⟩
  have C2 : Hid _ := k1
  have b1H : Hid (Below w.heap.size w w1) := b1
  clear k1 b1 C1
  by_cases h : m = n
  · have hb : ((m : Int) == (n : Int)) = true := by simp; omega
    have hR2 : Hid (R = q) := by have := hR.out; rw [decide_eq_true h] at this; exact this
    clear h hR
    go_wp2_with fail
    refine Calls.mono C2.out ?_
    rintro e w2 ⟨rfl, b2⟩
    have b2H : Hid (Below w.heap.size w w2) := b1H.out.trans (b2.mono b1H.out.size)
    clear b2 b1H C2
    cases q with
    | true =>
      rw [show erV true 52 = .nilIface from rfl]
      go_wp2_with fail
      go_ret
      exact ⟨by rw [hR2.out]; rfl, b2H.out⟩
    | false =>
      rw [show erV false 52 = .iface 34 (.int .i64 52) from rfl]
      go_wp2_with fail
      go_ret
      exact ⟨by rw [hR2.out]; rfl, b2H.out⟩
  · have hb : ((m : Int) == (n : Int)) = false := by simp; omega
    have hR2 : Hid (R = false) := by have := hR.out; rw [decide_eq_false h] at this; exact this
    clear h hR
    go_wp2_with fail
    go_ret
    exact ⟨by rw [hR2.out]; rfl, b1H.out⟩
/-- a point. -/
structure PtP where
  m : ByteArray
  t : List TagP
  f : List FdP
  tm : Int
/-- what is wrong with it. -/
def pointN (p : PtP) : Int := if cleanB p.m 64 then (if ptagsB p.t then (if fieldsB p.f then (if p.tm < -4611686018427387904 ∨ p.tm > 4611686018427387904 then 2 else 0) else 70) else 52) else 50
/-- a point in memory: its tags at a, its fields at b. -/
def PtIn (w : World) (a b : Option Addr) (c : Nat) (p : PtP) : Prop := TgIn w a p.t ∧ p.t.length ≤ 4398046511104 ∧ FdIn w b p.f ∧ p.f.length ≤ 4611686018427387904 ∧ p.f.length ≤ c
theorem PtIn.below {w w' : World} {a b : Option Addr} {c : Nat} {p : PtP} (h : PtIn w a b c p) (hB : Below w.heap.size w w') : PtIn w' a b c p := ⟨h.1.below hB, h.2.1, h.2.2.1.below hB, h.2.2.2⟩
end Go.Proofs.YtepakgfdakeibaaGreatDoor

namespace Go.Proofs.YtepakgfdakeibaaGreatDoor
open Go.RowKit _root_.Go.Proofs.YtepakgfdakeibaaGreatDoor.So
set_option linter.unusedVariables false
set_option linter.unusedSimpArgs false
set_option maxRecDepth 100000 in
set_option maxHeartbeats 4000000 in
theorem bright_any (a b : Option Addr) (c1 c2 : Nat) (p : PtP) (w : World) (hp : PtIn w a b c2 p) (hT : UT w) :
    Calls Tryz.prog 16 #[.agg #[.string p.m, .slice a p.t.length c1, .slice b p.f.length c2, .int .i64 p.tm]] w fun e w' => e = .returned (erN (pointN p)) ∧ Below w.heap.size w w' := by
  obtain ⟨pm, pt, pf, ptm⟩ := p
  obtain ⟨h1, h2, h3, h4, h5⟩ := hp
  simp only at h1 h2 h3 h4 h5 ⊢
  have hN : Hid (pointN ⟨pm, pt, pf, ptm⟩ = if cleanB pm 64 then (if ptagsB pt then (if fieldsB pf then (if ptm < -4611686018427387904 ∨ ptm > 4611686018427387904 then 2 else 0) else 70) else 52) else 50) := rfl
  have cN : Hid (∀ W, Below w.heap.size w W → Calls Tryz.prog 33 #[.string pm] W fun e w' => e = .returned (erV (cleanB pm 64) 50) ∧ Below W.heap.size W w') := fun W hW => name_any pm W (hT.below hW (Nat.le_refl _))
  have cT : Hid (∀ W, Below w.heap.size w W → Calls Tryz.prog 35 #[.slice a pt.length c1] W fun e w' => e = .returned (.bool (ptagsB pt)) ∧ Below W.heap.size W w') := fun W hW => rightTags_any a c1 pt W (h1.below hW) h2 (hT.below hW (Nat.le_refl _))
  have cF : Hid (∀ W, Below w.heap.size w W → Calls Tryz.prog 36 #[.slice b pf.length c2] W fun e w' => e = .returned (.bool (fieldsB pf)) ∧ Below W.heap.size W w') := fun W hW => rightFields_any b pf c2 W (by omega) h5 (h3.below hW) (hT.below hW (Nat.le_refl _))
  generalize pointN ⟨pm, pt, pf, ptm⟩ = R at hN ⊢
  generalize cleanB pm 64 = q1 at hN cN
  generalize ptagsB pt = q2 at hN cT
  generalize fieldsB pf = q3 at hN cF
  generalize pt.length = nt at *
  generalize pf.length = nf at *
  clear h1 h2 h3 h4 h5 hT
  have bA : Below w.heap.size w (w.alloc (.cells #[.string pm, .slice a nt c1, .slice b nf c2, .int .i64 ptm] 41)) := (Below.refl _ w).alloc (Nat.le_refl _) _
  obtain ⟨w0, hw0⟩ : ∃ w0, w0 = w.alloc (.cells #[.string pm, .slice a nt c1, .slice b nf c2, .int .i64 ptm] 41) := ⟨_, rfl⟩
  obtain ⟨K, hK⟩ : ∃ K, K = w.heap.size := ⟨_, rfl⟩
  rw [← hw0] at bA
  have kl0 : K < w0.heap.size := by rw [hw0, hK]; simp
  have z0 : w0.cell? ⟨K, 0, none⟩ = some (.string pm) ∧ w0.cell? ⟨K, 1, none⟩ = some (.slice a nt c1) ∧ w0.cell? ⟨K, 2, none⟩ = some (.slice b nf c2) ∧ w0.cell? ⟨K, 3, none⟩ = some (.int .i64 ptm) := by rw [hw0, hK]; simp [go_sem]
  have kp : Hid (∀ W, Below w0.heap.size w0 W → Below w.heap.size w W ∧ W.cell? ⟨K, 0, none⟩ = some (.string pm) ∧ W.cell? ⟨K, 1, none⟩ = some (.slice a nt c1) ∧ W.cell? ⟨K, 2, none⟩ = some (.slice b nf c2) ∧ W.cell? ⟨K, 3, none⟩ = some (.int .i64 ptm)) := fun W hW => ⟨bA.trans (hW.mono bA.size), by rw [hW.cell (p := ⟨K, 0, none⟩) kl0]; exact z0.1, by rw [hW.cell (p := ⟨K, 1, none⟩) kl0]; exact z0.2.1, by rw [hW.cell (p := ⟨K, 2, none⟩) kl0]; exact z0.2.2.1, by rw [hW.cell (p := ⟨K, 3, none⟩) kl0]; exact z0.2.2.2⟩
  have C1 : Hid _ := cN.out w0 (kp.out w0 (Below.refl _ _)).1
  obtain ⟨x0, _, _, _⟩ := z0
  clear bA kl0
  go_enter Tryz.func16, Tryz.ntmps16
  go_wp2_with fail
  rw [← hw0, ← hK]
  clear hw0 hK
  refine Calls.mono C1.out ?_
  rintro e w1 ⟨rfl, b1⟩
  obtain ⟨bw1, _, x1, _, _⟩ := kp.out w1 b1
  have b1H : Hid (Below w0.heap.size w0 w1) := b1
  have bw1H : Hid (Below w.heap.size w w1) := bw1
  have C2 : Hid _ := cT.out w1 bw1
  clear C1 b1 bw1 cN x0
  cases q1 with
  | false =>
    rw [show erV false 50 = .iface 34 (.int .i64 50) from rfl]
    have hR : Hid (R = 50) := hN.out
    go_wp2_with fail
    refine Calls.mono (new_any 50 rfl _) ?_
    rintro e w2 ⟨rfl, hw⟩
    subst hw
    go_wp2_with fail
    go_ret
    exact ⟨by rw [hR.out]; rfl, bw1H.out⟩
  | true =>
    rw [show erV true 50 = .nilIface from rfl]
    go_wp2_with fail
    refine Calls.mono C2.out ?_
    rintro e w2 ⟨rfl, b2⟩
    have b2H : Hid (Below w0.heap.size w0 w2) := b1H.out.trans (b2.mono b1H.out.size)
    obtain ⟨bw2, _, _, x2, _⟩ := kp.out w2 b2H.out
    have bw2H : Hid (Below w.heap.size w w2) := bw2
    have C3 : Hid _ := cF.out w2 bw2
    clear C2 b2 bw2 cT x1 b1H bw1H
    cases q2 with
    | false =>
      have hR : Hid (R = 52) := hN.out
      go_wp2_with fail
      refine Calls.mono (new_any 52 rfl _) ?_
      rintro e w3 ⟨rfl, hw⟩
      subst hw
      go_wp2_with fail
      go_ret
      exact ⟨by rw [hR.out]; rfl, bw2H.out⟩
    | true =>
      go_wp2_with fail
      refine Calls.mono C3.out ?_
      rintro e w3 ⟨rfl, b3⟩
      have b3H : Hid (Below w0.heap.size w0 w3) := b2H.out.trans (b3.mono b2H.out.size)
      obtain ⟨bw3, _, _, _, x3⟩ := kp.out w3 b3H.out
      have bw3H : Hid (Below w.heap.size w w3) := bw3
      clear C3 b3 bw3 cF x2 b2H bw2H kp
      cases q3 with
      | false =>
        have hR : Hid (R = 70) := hN.out
        go_wp2_with fail
        refine Calls.mono (new_any 70 rfl _) ?_
        rintro e w4 ⟨rfl, hw⟩
        subst hw
        go_wp2_with fail
        go_ret
        exact ⟨by rw [hR.out]; rfl, bw3H.out⟩
      | true =>
        by_cases t1 : ptm < -4611686018427387904
        · have hR : Hid (R = 2) := by have := hN.out; simp only [if_true] at this; rw [if_pos (Or.inl t1)] at this; exact this
          go_wp2_with fail
          refine Calls.mono (new_any 2 rfl _) ?_
          rintro e w4 ⟨rfl, hw⟩
          subst hw
          go_wp2_with fail
          go_ret
          exact ⟨by rw [hR.out]; rfl, bw3H.out⟩
        · by_cases t2 : ptm > 4611686018427387904
          · have hR : Hid (R = 2) := by have := hN.out; simp only [if_true] at this; rw [if_pos (Or.inr t2)] at this; exact this
            have t3 : (4611686018427387904 : Int) < ptm := t2
            go_wp2_with fail
            refine Calls.mono (new_any 2 rfl _) ?_
            rintro e w4 ⟨rfl, hw⟩
            subst hw
            go_wp2_with fail
            go_ret
            exact ⟨by rw [hR.out]; rfl, bw3H.out⟩
          · have hR : Hid (R = 0) := by have := hN.out; simp only [if_true] at this; rw [if_neg (by omega)] at this; exact this
            have t3 : ¬ (4611686018427387904 : Int) < ptm := t2
            go_wp2_with fail
            go_ret
            exact ⟨by rw [hR.out]; rfl, bw3H.out⟩
end Go.Proofs.YtepakgfdakeibaaGreatDoor

namespace Go.Proofs.YtepakgfdakeibaaGreatDoor
open Go.RowKit _root_.Go.Proofs.YtepakgfdakeibaaGreatDoor.So
set_option linter.unusedVariables false
set_option linter.unusedSimpArgs false
/-- weirboth.Is, of an Errno. -/
theorem isE_any (c e : Int) (he : (e == 0) = false) (w : World) (hg : ET w) :
    Calls Tryz.prog 15 #[.iface 34 (.int .i64 c), .int .i64 e] w fun ev w' => ev = .returned (.bool (c == e)) ∧ Below w.heap.size w w' := by
  have hgA : ET (w.alloc (.cells #[.int .i64 0] 34)) := ET_alloc hg _
  go_enter Tryz.func15, Tryz.ntmps15
  go_wp2_with fail
  refine (as_EE c ⟨w.heap.size, 0, none⟩ (.int .i64 0) _ hgA (by simp) (by simp)).mono ?_
  rintro ev w1 ⟨rfl, rfl⟩
  go_wp2
  go_ret
  exact ⟨rfl, below_new (below_new (below_new (below_new (below_new (Below.refl _ _) _) _) _) _) _⟩
def lvP : PtP := ⟨⟨#[109]⟩, [], [(⟨#[118]⟩, 3)], 5⟩
def lvW : WrP := ⟨⟨⟨#[109]⟩, [], ⟨#[118]⟩⟩, 5, 0, 3⟩
set_option maxRecDepth 100000 in
theorem lv_right : pointN lvP = 0 := by decide +kernel
set_option maxRecDepth 100000 in
theorem no_right : pointN ⟨⟨#[]⟩, [], [], 0⟩ = 50 := by decide +kernel
/-- one point at B, its field at F. -/
def OneP (W : World) (B F : Nat) : Prop := B < W.heap.size ∧ F < W.heap.size ∧ (W.cell? ⟨B, 0, none⟩ = some (.string ⟨#[109]⟩) ∧ W.cell? ⟨B, 1, none⟩ = some (.slice none 0 0) ∧ W.cell? ⟨B, 2, none⟩ = some (.slice (some ⟨F, 0, none⟩) 1 1) ∧ W.cell? ⟨B, 3, none⟩ = some (.int .i64 5)) ∧ W.cell? ⟨F, 0, none⟩ = some (.string ⟨#[118]⟩) ∧ W.cell? ⟨F, 1, none⟩ = some (.int .i64 3)
theorem OneP.below {W W' : World} {B F : Nat} (h : OneP W B F) (hB : Below W.heap.size W W') : OneP W' B F := by
  obtain ⟨h1, h2, ⟨h3, h4, h5, h6⟩, h7, h8⟩ := h
  exact ⟨Nat.lt_of_lt_of_le h1 hB.size, Nat.lt_of_lt_of_le h2 hB.size, ⟨by rw [hB.cell (p := ⟨B, 0, none⟩) h1]; exact h3, by rw [hB.cell (p := ⟨B, 1, none⟩) h1]; exact h4, by rw [hB.cell (p := ⟨B, 2, none⟩) h1]; exact h5, by rw [hB.cell (p := ⟨B, 3, none⟩) h1]; exact h6⟩, by rw [hB.cell (p := ⟨F, 0, none⟩) h2]; exact h7, by rw [hB.cell (p := ⟨F, 1, none⟩) h2]; exact h8⟩
theorem OneP.pt {W : World} {B F : Nat} (h : OneP W B F) : PtIn W none (some ⟨F, 0, none⟩) 1 lvP := ⟨Or.inl rfl, by decide, Or.inr ⟨F, 0, rfl, h.2.1, fun i t ht => by
  cases i with
  | zero => simp [lvP] at ht; subst ht; exact ⟨by simpa using h.2.2.2.1, by simpa using h.2.2.2.2⟩
  | succ i => simp [lvP] at ht⟩, by decide, by decide⟩
set_option maxRecDepth 100000 in
set_option maxHeartbeats 4000000 in
theorem check_one (w : World) (B F : Nat) (hO : OneP w B F) (hT : UT w) : Calls Tryz.prog 26 #[.slice (some ⟨B, 0, none⟩) 1 1] w fun e w' => e = .returned .nilIface ∧ Below w.heap.size w w' := by
  have OH : Hid (OneP w B F) := hO
  have cR : Hid (∀ W, Below w.heap.size w W → Calls Tryz.prog 16 #[.agg #[.string ⟨#[109]⟩, .slice none 0 0, .slice (some ⟨F, 0, none⟩) 1 1, .int .i64 5]] W fun e w' => e = .returned .nilIface ∧ Below W.heap.size W w') := fun W hW => by
    have := bright_any none (some ⟨F, 0, none⟩) 0 1 lvP W (hO.below hW).pt (hT.below hW (Nat.le_refl _))
    rw [lv_right] at this
    exact this
  clear hO hT
  go_enter Tryz.func26, Tryz.ntmps26
  go_wp2_with fail
  go_loopw [12] (fun v wr => (v = .int .i64 0 ∨ v = .int .i64 1) ∧ Below w.heap.size w wr) (fun v _ => 1 - (intOf v).toNat)
  case atStart => exact ⟨Or.inl rfl, Below.refl _ _⟩
  case round =>
    obtain ⟨hv, hB⟩ := hrel
    rcases hv with rfl | rfl
    · obtain ⟨b1, b2, ⟨x0, x1, x2, x3⟩, y0, y1⟩ := OH.out.below hB
      have bA : Below wr.heap.size wr (wr.alloc (.cells #[.string ⟨#[109]⟩, .slice none 0 0, .slice (some ⟨F, 0, none⟩) 1 1, .int .i64 5] 41)) := (Below.refl _ wr).alloc (Nat.le_refl _) _
      have bA2 := hB.trans (bA.mono hB.size)
      have C : Hid _ := cR.out _ bA2
      have bH : Hid (Below w.heap.size w (wr.alloc (.cells #[.string ⟨#[109]⟩, .slice none 0 0, .slice (some ⟨F, 0, none⟩) 1 1, .int .i64 5] 41))) := bA2
      clear bA bA2 hB
      go_wp2_with fail
      refine Calls.mono C.out ?_
      rintro e w1 ⟨rfl, b3⟩
      have b3H : Hid (Below w.heap.size w w1) := bH.out.trans (b3.mono bH.out.size)
      clear b3 bH C x0 x1 x2 x3 y0 y1
      go_wp2_with fail
      exact ⟨⟨Or.inr rfl, b3H.out⟩, by simp [intOf]⟩
    · have hBH : Hid (Below w.heap.size w wr) := hB
      clear hB
      go_wp2_with fail
      go_ret
      exact ⟨rfl, hBH.out⟩
theorem ord_one (out : List Nat) (h : Sorted1 (ahW [lvW]) 1 out) : ordL [lvW] out out.length = [lvW] := by
  have h0 : 0 ∈ out := (h.all 0).2 (by omega)
  have hall : ∀ p ∈ out, p = 0 := fun p hp => by have := (h.all p).1 hp; omega
  match out, h, h0, hall with
  | [p], _, _, hall =>
    have : p = 0 := hall p (by simp)
    subst this; rfl
  | p :: q :: r, h, _, hall =>
    have e1 : p = 0 := hall p (by simp)
    have e2 : q = 0 := hall q (by simp)
    subst e1 e2
    have := (List.pairwise_cons.1 h.ord).1 0 (by simp)
    rw [(ahW_ao [lvW] 1).irr 0 (by omega)] at this
    cases this
end Go.Proofs.YtepakgfdakeibaaGreatDoor

namespace Go.Proofs.YtepakgfdakeibaaGreatDoor
open Go.RowKit _root_.Go.Proofs.YtepakgfdakeibaaGreatDoor.So
set_option linter.unusedVariables false
set_option linter.unusedSimpArgs false
/-- what Flat tells of that point. -/
def FlR (w w' : World) (e : Ending) : Prop := ∃ g c, e = .returned (.tuple #[.slice (some ⟨g, 0, none⟩) 1 c, .nilIface]) ∧ (w'.cell? ⟨g, 3, none⟩ = some (.int .i64 5) ∧ w'.cell? ⟨g, 4, none⟩ = some (.int .u8 0) ∧ w'.cell? ⟨g, 5, none⟩ = some (.int .i64 3)) ∧ Below w.heap.size w w'
set_option maxRecDepth 100000 in
set_option maxHeartbeats 8000000 in
theorem flat_one (w : World) (B F : Nat) (hO : OneP w B F) (hT : UT w) : Calls Tryz.prog 11 #[.slice (some ⟨B, 0, none⟩) 1 1] w fun e w' => FlR w w' e := by
  have OH : Hid (OneP w B F) := hO
  have C0 : Hid _ := check_one w B F hO hT
  have cS : Hid (∀ W, Calls Tryz.prog 27 #[.slice none 0 0] W fun e w' => ∃ a' c', e = .returned (.slice a' 0 c') ∧ Below W.heap.size W w') := fun W => (sort_any none 0 [] W (Or.inl rfl) (by simp)).mono fun e w' h => by
    obtain ⟨a', c', e1, _⟩ := sortedR_tin h.1
    exact ⟨a', c', e1, h.2⟩
  have cO : Hid (∀ (W : World) (a : Option Addr) (c : Nat) (ta : Option Addr) (tc : Nat), Below w.heap.size w W → OW2 W w.heap.size (.slice a 1 c) [(lvW, ta, tc)] → Calls Tryz.prog 19 #[.slice a 1 c] W fun e w' => ∃ g c', e = .returned (.slice (some ⟨g, 0, none⟩) 1 c') ∧ (w'.cell? ⟨g, 3, none⟩ = some (.int .i64 5) ∧ w'.cell? ⟨g, 4, none⟩ = some (.int .u8 0) ∧ w'.cell? ⟨g, 5, none⟩ = some (.int .i64 3)) ∧ Below w.heap.size w w') := fun W a c ta tc hW hr => by
    obtain ⟨a', c', e, hin⟩ := hr.1.win
    injection e with e1 e2 e3
    subst e1
    have hin' : WIn W a [lvW] := hin
    refine (order_any a c [lvW] W hin' (by simp) (fun x hx => by rw [List.mem_singleton.1 hx]; decide)).mono fun e w' hh => ?_
    obtain ⟨out, L, v, rfl, hs, hw2, hL, hB⟩ := hh
    rw [ord_one out hs] at hL
    obtain ⟨t, rfl⟩ : ∃ t, L = [t] := by
      rcases L with _ | ⟨t, _ | ⟨u, r⟩⟩
      · simp at hL
      · exact ⟨t, rfl⟩
      · simp at hL
    have ht : t.1 = lvW := by simpa using hL
    rcases World.ownsRow.form hw2.1.1 (by simp) with ⟨g, cap, e, _⟩
    refine ⟨g, cap, by rw [e]; rfl, ?_, hW.trans (hB.mono hW.size)⟩
    have ro := hw2.1.1
    rw [e] at ro
    have hcs := World.ownsRow.cells ro (g := g) rfl
    obtain ⟨_, _, _, e4, e5, e6⟩ := encW_get [t] 0 t rfl
    have k4 := hcs _ _ e4
    have k5 := hcs _ _ e5
    have k6 := hcs _ _ e6
    rw [tag_add] at k4 k5 k6
    rw [ht] at k4 k5 k6
    exact ⟨by simpa [lvW] using k4, by simpa [lvW] using k5, by simpa [lvW] using k6⟩
  clear hO hT
  go_enter Tryz.func11, Tryz.ntmps11
  go_wp2_with fail
  refine Calls.mono C0.out ?_
  rintro e w1 ⟨rfl, b1⟩
  have b1H : Hid (Below w.heap.size w w1) := b1
  clear b1 C0
  go_wp2_with fail
  go_loopw [5, 18] (fun v5 v18 wr => Below w.heap.size w wr ∧ ((v5 = .slice none 0 0 ∧ v18 = .int .i64 0) ∨ ∃ (a : Option Addr) (c : Nat) (ta : Option Addr) (tc : Nat), v5 = .slice a 1 c ∧ v18 = .int .i64 1 ∧ Hid (OW2 wr w.heap.size (.slice a 1 c) [(lvW, ta, tc)]))) (fun _ v _ => 1 - (intOf v).toNat)
  case atStart => exact ⟨b1H.out, Or.inl ⟨rfl, rfl⟩⟩
  case round =>
    clear b1H
    obtain ⟨hB, hv⟩ := hrel
    rcases hv with ⟨rfl, rfl⟩ | ⟨a, c, ta, tc, rfl, rfl, hW⟩
    · obtain ⟨b1, b2, ⟨x0, x1, x2, x3⟩, y0, y1⟩ := OH.out.below hB
      obtain ⟨K, hK⟩ : ∃ K, K = wr.heap.size := ⟨_, rfl⟩
      obtain ⟨w2, hw2⟩ : ∃ w2, w2 = wr.alloc (.cells #[.string ⟨#[109]⟩, .slice none 0 0, .slice (some ⟨F, 0, none⟩) 1 1, .int .i64 5] 41) := ⟨_, rfl⟩
      have b2' : Below w.heap.size w w2 := by rw [hw2]; exact hB.alloc hB.size _
      have kl0 : K < w2.heap.size := by rw [hw2, hK]; simp
      have z0 : w2.cell? ⟨K, 0, none⟩ = some (.string ⟨#[109]⟩) ∧ w2.cell? ⟨K, 1, none⟩ = some (.slice none 0 0) ∧ w2.cell? ⟨K, 2, none⟩ = some (.slice (some ⟨F, 0, none⟩) 1 1) ∧ w2.cell? ⟨K, 3, none⟩ = some (.int .i64 5) := by rw [hw2, hK]; simp [go_sem]
      have kp : Hid (∀ W, Below w2.heap.size w2 W → (Below w.heap.size w W ∧ W.cell? ⟨K, 0, none⟩ = some (.string ⟨#[109]⟩) ∧ W.cell? ⟨K, 2, none⟩ = some (.slice (some ⟨F, 0, none⟩) 1 1) ∧ W.cell? ⟨K, 3, none⟩ = some (.int .i64 5)) ∧ OneP W B F) := fun W hW => ⟨⟨b2'.trans (hW.mono b2'.size), by rw [hW.cell (p := ⟨K, 0, none⟩) kl0]; exact z0.1, by rw [hW.cell (p := ⟨K, 2, none⟩) kl0]; exact z0.2.2.1, by rw [hW.cell (p := ⟨K, 3, none⟩) kl0]; exact z0.2.2.2⟩, OH.out.below (b2'.trans (hW.mono b2'.size))⟩
      have C1 : Hid _ := cS.out w2
      obtain ⟨_, z1, _, _⟩ := z0
      have kl1 : Hid (K < w2.heap.size) := kl0
      clear hB kl0 b2'
      go_wp2_with fail
      rw [← hw2, ← hK]
      clear hw2 hK x0 x1 x2 x3 y0 y1 z1
      refine Calls.mono C1.out ?_
      rintro e w3 ⟨a', c', rfl, b3⟩
      obtain ⟨⟨_, _, z2, _⟩, _⟩ := kp.out w3 b3
      have b3H : Hid (Below w2.heap.size w2 w3) := b3
      clear b3 C1
      go_wp2_with fail
      clear z2
      go_loopw [5, 28] (fun v5 v28 wx => Below w2.heap.size w2 wx ∧ ((v5 = .slice none 0 0 ∧ v28 = .int .i64 0) ∨ ∃ (a : Option Addr) (c : Nat) (ta : Option Addr) (tc : Nat), v5 = .slice a 1 c ∧ v28 = .int .i64 1 ∧ Hid (OW2 wx w.heap.size (.slice a 1 c) [(lvW, ta, tc)]))) (fun _ v _ => 1 - (intOf v).toNat)
      case atStart => exact ⟨b3H.out, Or.inl ⟨rfl, rfl⟩⟩
      case round =>
        clear b3H
        obtain ⟨hB, hv⟩ := hrel
        rcases hv with ⟨rfl, rfl⟩ | ⟨a4, c4, ta, tc, rfl, rfl, hW⟩
        · obtain ⟨⟨bw, p0, _, p3⟩, f1, f2, _, y0, y1⟩ := kp.out wr hB
          obtain ⟨K2, hK2⟩ : ∃ K, K = wr.heap.size := ⟨_, rfl⟩
          obtain ⟨w5, hw5⟩ : ∃ w5, w5 = wr.alloc (.cells #[.string ⟨#[118]⟩, .int .i64 3] 54) := ⟨_, rfl⟩
          have b5 : Below wr.heap.size wr w5 := by rw [hw5]; exact (Below.refl _ wr).alloc (Nat.le_refl _) _
          have b5w : Below w.heap.size w w5 := bw.trans (b5.mono bw.size)
          obtain ⟨a4, c4, w6, hr6, ho6, hb6⟩ := app2W w5 w.heap.size (.slice none 0 0) [] (OW2.nil _ _) b5w.size (lvW, a', c') ⟨Or.inl rfl, by simp [lvW]⟩ (fun h => absurd rfl h) (by simp)
          have B6 : Below w2.heap.size w2 w6 := by
            have h1 := hB.trans (b5.mono hB.size)
            refine ⟨hb6.os.trans h1.os, hb6.tape.trans h1.tape, hb6.output.trans h1.output, Nat.le_trans h1.size hb6.size, fun i hi => ?_⟩
            have hw5' : w5.heap.size ≤ w5.heap.size := Nat.le_refl _
            obtain ⟨a7, c7, w7, hr7, ho7, hb7⟩ := app2W w5 w5.heap.size (.slice none 0 0) [] (OW2.nil _ _) (Nat.le_refl _) (lvW, a', c') ⟨Or.inl rfl, by simp [lvW]⟩ (fun h => absurd rfl h) (by simp)
            rw [hr6] at hr7
            injection hr7 with e1 e2
            subst e2
            rw [hb7.block i (Nat.lt_of_lt_of_le hi h1.size)]; exact h1.block i hi
          have q0 : w5.cell? ⟨K2, 0, none⟩ = some (.string ⟨#[118]⟩) ∧ w5.cell? ⟨K2, 1, none⟩ = some (.int .i64 3) := by rw [hw5, hK2]; simp [go_sem]
          obtain ⟨q0, q1⟩ := q0
          obtain ⟨⟨_, r0, _, r3⟩, _⟩ := kp.out w5 (hB.trans (b5.mono hB.size))
          have hrH : Hid (∀ W N, W = w5.alloc (.cells #[.string ⟨#[109]⟩, .slice a' 0 c', .string ⟨#[118]⟩, .int .i64 5, .int .u8 0, .int .i64 3] 52) → N = w5.heap.size → (Builtin.append_ #[22, 22] 22 #[.slice none 0 0, .slice (some ⟨N, 0, none⟩) 1 1]).run Tryz.prog W = .ok (.slice a4 1 c4) w6) := fun W N e e' => by subst e; subst e'; exact hr6
          have ho6H : Hid (OW2 w6 w.heap.size (.slice a4 1 c4) [(lvW, a', c')]) := ho6
          have B6H : Hid (Below w2.heap.size w2 w6) := B6
          have Kl : K < wr.heap.size := Nat.lt_of_lt_of_le kl1.out hB.size
          have Kn : ¬ K = wr.heap.size := Nat.ne_of_lt Kl
          clear hr6 ho6 hb6 B6 b5 b5w hB bw f1 f2 r0 r3 q0 q1
          subst hw5 hK2
          go_wp2_with (at_builtin; refine wpList_append_runB (by rfl) _ _ _ (by rfl) _ _ _ _ (by rfl) (by rfl) (hrH.out _ _ (by first | rfl | simp) (by first | rfl | simp)) ?_)
          exact ⟨⟨B6H.out, Or.inr ⟨a4, c4, a', c', rfl, rfl, ho6H⟩⟩, by simp [intOf]⟩
        · have hBH : Hid (Below w.heap.size w wr) := (kp.out wr hB).1.1
          clear hB
          go_wp2_with fail
          exact ⟨⟨hBH.out, Or.inr ⟨a4, c4, ta, tc, rfl, rfl, hW⟩⟩, by simp [intOf]⟩
    · have C : Hid _ := cO.out wr a c ta tc hB hW.out
      clear hB hW
      go_wp2_with fail
      refine Calls.mono C.out ?_
      rintro e w9 ⟨g, c', rfl, hcs, b9⟩
      have fin : Hid (FlR w w9 (.returned (.tuple #[.slice (some ⟨g, 0, none⟩) 1 c', .nilIface]))) := ⟨g, c', rfl, hcs, b9⟩
      clear hcs b9 C
      go_wp2_with fail
      go_ret2
      exact fin.out
end Go.Proofs.YtepakgfdakeibaaGreatDoor

namespace Go.Proofs.YtepakgfdakeibaaGreatDoor
open Go.RowKit _root_.Go.Proofs.YtepakgfdakeibaaGreatDoor.So
attribute [local go_sem] Oper.semAt_some
set_option linter.unusedVariables false
set_option linter.unusedSimpArgs false
theorem none_right (w : World) (hT : UT w) : Calls Tryz.prog 16 #[.agg #[.string ⟨#[]⟩, .slice none 0 0, .slice none 0 0, .int .i64 0]] w fun e w' => e = .returned (.iface 34 (.int .i64 50)) ∧ Below w.heap.size w w' := by
  have := bright_any none none 0 0 ⟨⟨#[]⟩, [], [], 0⟩ w ⟨Or.inl rfl, by decide, Or.inl rfl, by decide, by decide⟩ hT
  rw [no_right] at this
  exact this
set_option maxRecDepth 100000 in
set_option maxHeartbeats 4000000 in
/-- live, of the batch. -/
theorem blive_any (w : World) (hT : UT w) (hg : ET w) : Calls Tryz.prog 6 #[] w fun e w' => e = .returned (.bool true) ∧ Below w.heap.size w w' := by
  obtain ⟨w2, hw2⟩ : ∃ w2, w2 = (w.alloc (.cells #[.string ⟨#[118]⟩, .int .i64 3] 54)).alloc (.cells #[.string ⟨#[109]⟩, .slice none 0 0, .slice (some ⟨w.heap.size, 0, none⟩) 1 1, .int .i64 5] 41) := ⟨_, rfl⟩
  have b2 : Below w.heap.size w w2 := by rw [hw2]; exact ((Below.refl _ w).alloc (Nat.le_refl _) _).alloc (by simp) _
  have hO : OneP w2 (w.heap.size + 1) w.heap.size := by
    rw [hw2]
    refine ⟨by simp, by simp; omega, ⟨?_, ?_, ?_, ?_⟩, ?_, ?_⟩ <;> simp [go_sem]
  have cF : Hid _ := flat_one w2 _ _ hO (hT.below b2 (Nat.le_refl _))
  have cN : Hid (∀ W, UT W → Calls Tryz.prog 16 #[.agg #[.string ⟨#[]⟩, .slice none 0 0, .slice none 0 0, .int .i64 0]] W fun e w' => e = .returned (.iface 34 (.int .i64 50)) ∧ Below W.heap.size W w') := fun W hW => none_right W hW
  have cI : Hid (∀ W, ET W → Calls Tryz.prog 15 #[.iface 34 (.int .i64 50), .int .i64 50] W fun ev w' => ev = .returned (.bool true) ∧ Below W.heap.size W w') := fun W hW => isE_any 50 50 rfl W hW
  have hU : Hid (∀ W, Below w.heap.size w W → UT W ∧ ET W) := fun W hW => ⟨hT.below hW (Nat.le_refl _), ET_below hg hW⟩
  have b2H : Hid (Below w.heap.size w w2) := b2
  clear hT hg b2 hO
  go_enter Tryz.func6, Tryz.ntmps6
  go_wp2_with fail
  rw [← hw2]
  clear hw2
  refine Calls.mono cF.out ?_
  rintro e w3 ⟨g, c, rfl, ⟨x3, x4, x5⟩, b3⟩
  have b3H : Hid (Below w.heap.size w w3) := b2H.out.trans (b3.mono b2H.out.size)
  clear b3 b2H cF
  go_wp2_with fail
  refine Calls.mono (cN.out _ (hU.out _ b3H.out).1) ?_
  rintro e w4 ⟨rfl, b4⟩
  have b4H : Hid (Below w.heap.size w w4) := b3H.out.trans (b4.mono b3H.out.size)
  clear b4 b3H x3 x4 x5
  go_wp2_with fail
  refine Calls.mono (cI.out _ (hU.out _ b4H.out).2) ?_
  rintro e w5 ⟨rfl, b5⟩
  have b5H : Hid (Below w.heap.size w w5) := b4H.out.trans (b5.mono b4H.out.size)
  clear b5 b4H
  go_wp2_with fail
  go_ret
  exact ⟨rfl, b5H.out⟩
end Go.Proofs.YtepakgfdakeibaaGreatDoor
