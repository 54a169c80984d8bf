
import Derived.Test.YtfijagdbdbbbpaaDoorBuI
import Derived.BigQuiet
import Derived.Test.YtfijagdbdbbbpaaDoorBlBq
namespace Go.Proofs.YtfijagdbdbbbpaaDoor
open Go.RowKit
set_option linter.unusedVariables false
set_option linter.unusedSimpArgs false
/-- a slice of numbers with their signs. -/
def IsIn (w : World) (a : Option Addr) (n : Nat) (z : Nat → Int) : Prop := n ≤ 17592186044416 ∧ (∀ i, -9223372036854775808 ≤ z i ∧ z i ≤ 9223372036854775807) ∧ (n = 0 ∨ ∃ b off, a = some ⟨b, off, none⟩ ∧ b < w.heap.size ∧ ∀ i, i < n → w.cell? ⟨b, off + i, none⟩ = some (.int .i64 (z i)))
theorem IsIn.below {w w' : World} {a : Option Addr} {n B : Nat} {z : Nat → Int} (h : IsIn w a n z) (hb : Below B w w') (hB : w.heap.size ≤ B) : IsIn w' a n z := by
  obtain ⟨h1, h2, h3⟩ := h
  refine ⟨h1, h2, ?_⟩
  rcases h3 with h0 | ⟨b, off, e, hl, hc⟩
  · exact Or.inl h0
  · exact Or.inr ⟨b, off, e, Nat.lt_of_lt_of_le hl hb.size, fun i hi => by rw [hb.cell (p := ⟨b, off + i, none⟩) (by show b < B; omega)]; exact hc i hi⟩
def Rises (z : Nat → Int) (n : Nat) : Prop := ∀ i, 1 ≤ i → i < n → z (i - 1) < z i
def RisesE (z : Nat → Int) (n : Nat) (e : Ending) : Prop := ∃ r, e = .returned (.bool r) ∧ (r = true ↔ Rises z n)
set_option maxRecDepth 100000 in
set_option maxHeartbeats 4000000 in
theorem rising_any (a : Option Addr) (n cap : Nat) (z : Nat → Int) (w : World) (h : IsIn w a n z) : Calls Tryd.prog 15 #[.slice a n cap] w fun e w' => RisesE z n e ∧ Below w.heap.size w w' := by
  obtain ⟨hn, hz, hc⟩ := h
  go_enter Tryd.func15, Tryd.ntmps15
  go_wp2_with fail
  go_loopw [3] (fun i wr => ∃ k : Nat, 1 ≤ k ∧ (k ≤ n ∨ k = 1) ∧ i = .int .i64 (k : Int) ∧ Below w.heap.size w wr ∧ Rises z k) (fun i _ => n - (intOf i).toNat)
  case atStart => exact ⟨1, by omega, Or.inr rfl, rfl, Below.refl _ _, fun i h1 h2 => by omega⟩
  case round =>
    obtain ⟨k, hk1, hk2, rfl, hB, hR⟩ := hrel
    by_cases hkn : k < n
    · have hkI : (k : Int) < (n : Int) := by omega
      rcases hc with h0 | ⟨b, off, rfl, hb, hcc⟩
      · omega
      obtain ⟨j, hj⟩ : ∃ j, j = k - 1 := ⟨_, rfl⟩
      have d1 : wr.cell? ⟨b, off + k, none⟩ = some (.int .i64 (z k)) := by rw [hB.cell (p := ⟨b, off + k, none⟩) hb]; exact hcc k hkn
      have d2 : wr.cell? ⟨b, off + j, none⟩ = some (.int .i64 (z j)) := by rw [hB.cell (p := ⟨b, off + j, none⟩) hb]; exact hcc j (by omega)
      have k1 : (0 : Int) ≤ (k : Int) := by omega
      have k2 : (k : Int) - 1 = (j : Int) := by omega
      have k3 : (0 : Int) ≤ (j : Int) := by omega
      have k4 : (j : Int) < (n : Int) := by omega
      obtain ⟨x, hx⟩ : ∃ x, x = z k := ⟨_, rfl⟩
      obtain ⟨y, hy⟩ : ∃ y, y = z j := ⟨_, rfl⟩
      rw [← hx] at d1
      rw [← hy] at d2
      have hxH : Hid _ := And.intro hx hy
      have hjH : Hid _ := hj
      have hRH : Hid (Rises z k) := hR
      have hBd : ∀ q, Below w.heap.size w (wr.drewN q) := fun q => below_drewN hB q
      clear hx hy hcc hj hR hB
      by_cases hle : x ≤ y
      · go_wp2_with fail
        go_quiet (fail)
        go_wp2_with fail
        go_ret
        refine ⟨⟨false, rfl, (fun h => by cases h), fun hr => ?_⟩, hBd _⟩
        have := hr k hk1 hkn
        have e := hxH.out
        rw [← hjH.out, ← e.1, ← e.2] at this
        omega
      · go_wp2_with fail
        go_quiet (fail)
        go_wp2_with fail
        go_roundw
        case rel => exact ⟨k + 1, by omega, by omega, by go_num, hBd _, fun i h1 h2 => by
          rcases Nat.lt_or_ge i k with h3 | h3
          · exact hRH.out i h1 h3
          · obtain rfl : i = k := by omega
            have e := hxH.out; rw [← hjH.out, ← e.1, ← e.2]; omega⟩
        case measure => simp [intOf]; omega
    · have hkI : ¬ (k : Int) < (n : Int) := by omega
      have hRn : Hid (Rises z n) := (fun i h1 h2 => hR i h1 (by omega) : Rises z n)
      clear hR
      go_wp2_with fail
      go_ret
      exact ⟨⟨true, rfl, fun _ => hRn.out, fun _ => rfl⟩, hB⟩
end Go.Proofs.YtfijagdbdbbbpaaDoor

namespace Go.Proofs.YtfijagdbdbbbpaaDoor
open Go.RowKit
set_option linter.unusedVariables false
set_option linter.unusedSimpArgs false
/-- by how much a time is above the one ahead. -/
def stepZ (z : Nat → Int) (i : Nat) : Nat := ((z i - z (i - 1)) % 18446744073709551616).toNat
/-- a time more. -/
def timeOn (z : Nat → Int) (i : Nat) (s : List Nat × Nat) : List Nat × Nat := if i = 0 then uOn (foldZ (z 0)) s else if i = 1 then uOn (stepZ z 1) s else turnOn (wrap64 ((stepZ z i : Int) - (stepZ z (i - 1) : Int))) s
/-- what stands behind the first k. -/
def timesS (z : Nat → Int) (n : Nat) : Nat → List Nat × Nat
  | 0 => uOn n ([], 0)
  | k + 1 => timeOn z k (timesS z n k)
theorem uB_len (x : Nat) : (uB x).length ≤ 11 := uBf_len 10 x
theorem timesS_len (z : Nat → Int) (n : Nat) : ∀ k, (timesS z n k).1.length ≤ 11 + 68 * k := by
  intro k
  induction k with
  | zero => have := uB_len n; simp [timesS, uOn]; omega
  | succ k ih =>
    simp only [timesS, timeOn]
    split
    · have := uB_len (foldZ (z 0)); simp [uOn]; omega
    · split
      · have := uB_len (stepZ z 1); simp [uOn]; omega
      · have := turnOn_len (wrap64 ((stepZ z k : Int) - (stepZ z (k - 1) : Int))) (timesS z n k); omega
/-- what Times tells. -/
def TimesE (z : Nat → Int) (n : Nat) (err : Int → Value) (ok : Value) (e : Ending) (w' : World) : Prop :=
  (1048576 < n ∧ e = .returned (.tuple #[.slice none 0 0, err 6])) ∨ (n ≤ 1048576 ∧ ¬ Rises z n ∧ e = .returned (.tuple #[.slice none 0 0, err 2])) ∨
  (n ≤ 1048576 ∧ Rises z n ∧ ∃ a c, e = .returned (.tuple #[.slice a (timesS z n n).1.length c, ok]) ∧ BytesIn w' a (timesS z n n).1.length (natsOf (timesS z n n).1))
theorem faultNew (c : Int) (hc : (c == 0) = false) (w : World) : Calls Tryd.prog 14 #[.int .i64 c] w fun e w' => e = .returned (.iface 77 (.int .i64 c)) ∧ w' = w := by
  go_enter Tryd.func14, Tryd.ntmps14
  go_wp2
  go_ret
  exact ⟨rfl, rfl⟩
theorem CT_below {w w' : World} {B : Nat} (h : CT w) (hb : Below B w w') (hB : 0 < B) : CT w' := fun j hj => by
  rw [hb.cell (p := ⟨0, j, none⟩) hB]; exact h j hj
theorem RW.start (w : World) : RW w.heap.size w ([], 0) (w.alloc (.cells #[.slice none 0 0, .int .i64 0] 80)) := by
  refine ⟨⟨by omega, by simp, by simp⟩, .slice none 0 0, ⟨by simp [go_sem], by simp [go_sem], by simp [go_sem], by simp [go_sem], World.ownsRow_nil _ _ _ _, (Below.refl _ _).alloc (Nat.le_refl _) _, by simp⟩⟩
set_option maxRecDepth 100000 in
set_option maxHeartbeats 8000000 in
theorem times_any (a : Option Addr) (n cap : Nat) (z : Nat → Int) (w : World) (h : IsIn w a n z) (hct : CT w) (hg : 0 < w.heap.size) : Calls Tryd.prog 4 #[.slice a n cap] w fun e w' => TimesE z n (fun c => .iface 77 (.int .i64 c)) .nilIface e w' ∧ Below w.heap.size w w' := by
  have hn := h.1
  by_cases hlong : 1048576 < n
  · have hI : (1048576 : Int) < (n : Int) := by omega
    have hF : Hid _ := faultNew 6 rfl
    clear h hct
    go_enter Tryd.func4, Tryd.ntmps4
    go_wp2_with fail
    refine Calls.mono (hF.out _) ?_
    rintro e w2 ⟨rfl, hw⟩
    have hw' := hw.symm
    subst hw'
    clear hw
    go_wp2_with fail
    simp [bodyPost, results, Tryd.results4, go_sem]
    exact ⟨Or.inl ⟨hlong, rfl⟩, Below.refl _ _⟩
  · have hI : ¬ (1048576 : Int) < (n : Int) := by omega
    have hR : Hid _ := rising_any a n cap z w h
    have hhH : Hid (IsIn w a n z) := h
    have hctH : Hid (CT w) := hct
    clear h hct
    go_enter Tryd.func4, Tryd.ntmps4
    go_wp2_with fail
    refine Calls.mono hR.out ?_
    rintro e w2 ⟨⟨r, rfl, hr⟩, hB2⟩
    cases r with
    | false =>
      have hnr : Hid (¬ Rises z n) := (fun hx => Bool.noConfusion (hr.2 hx) : ¬ Rises z n)
      have hF : Hid _ := faultNew 2 rfl
      clear hr
      go_wp2_with fail
      refine Calls.mono (hF.out _) ?_
      rintro e w3 ⟨rfl, hw⟩
      have hw' := hw.symm
      subst hw'
      clear hw
      go_wp2_with fail
      simp [bodyPost, results, Tryd.results4, go_sem]
      exact ⟨Or.inr (Or.inl ⟨by omega, hnr.out, rfl⟩), hB2⟩
    | true =>
      have hnr : Hid (Rises z n) := hr.1 rfl
      clear hr hR
      have hU : Hid _ := rw_uint (RW.start w2) n (by omega) (n : Int) rfl (by simp)
      have hnw : IntKind.u64.wrap (n : Int) = (n : Int) := by rw [IntKind.wrap_u64]; omega
      have hnm : (n : Int) % 18446744073709551616 = (n : Int) := by omega
      go_wp2_with fail
      refine Calls.mono hU.out ?_
      rintro e w3 ⟨rfl, h3⟩
      have h3H : Hid (RW w2.heap.size w2 (timesS z n 0) w3) := h3
      clear h3 hU
      obtain ⟨M, hM⟩ : ∃ M, M = w2.heap.size := ⟨_, rfl⟩
      have hMH : Hid (M = w2.heap.size) := hM
      rw [← hM] at h3H ⊢
      clear hM
      go_wp2_with fail
      go_loopw [23, 5] (fun ix ah wr => ∃ k A : Nat, k ≤ n ∧ ix = .int .i64 (k : Int) ∧ ah = .int .u64 (A : Int) ∧ A = (if k ≤ 1 then 0 else stepZ z (k - 1)) ∧ RW M w2 (timesS z n k) wr) (fun ix _ _ => n - (intOf ix).toNat)
      case atStart => exact ⟨0, 0, by omega, rfl, rfl, rfl, h3H.out⟩
      case round =>
        clear h3H
        obtain ⟨k, A, hk, rfl, rfl, hA, hW⟩ := hrel
        have hMw : M = w2.heap.size := hMH.out
        have hwb := hW.b
        have hBw : Below w.heap.size w wr := hB2.trans (hwb.mono (by rw [hMw]; exact hB2.size))
        have hlen := timesS_len z n k
        by_cases hkn : k < n
        · have hkI : (k : Int) < (n : Int) := by omega
          have hin := hhH.out
          obtain ⟨hn1, hz, hc⟩ := hin
          rcases hc with h0 | ⟨b, off, rfl, hb, hcc⟩
          · omega
          have hzk := hz k
          have d1 : wr.cell? ⟨b, off + k, none⟩ = some (.int .i64 (z k)) := by rw [hBw.cell (p := ⟨b, off + k, none⟩) hb]; exact hcc k hkn
          have k1 : (0 : Int) ≤ (k : Int) := by omega
          have hAH : Hid _ := hA
          clear hA hwb
          by_cases hk0 : k = 0
          · subst hk0
            have hI0 : Hid _ := rw_int hW (z 0) hzk (by omega)
            obtain ⟨t, ht⟩ : ∃ t, t = z 0 := ⟨_, rfl⟩
            have hS : Hid (timesS z n 1 = uOn (foldZ (z 0)) (timesS z n 0)) := (rfl : timesS z n 1 = uOn (foldZ (z 0)) (timesS z n 0))
            rw [← hS.out] at hI0
            rw [← ht] at d1 hI0
            have hA0 : A = 0 := hAH.out
            subst hA0
            clear hW hz hcc ht hzk hBw hMw
            simp only [show ((0 : Nat) : Int) = 0 from rfl, Nat.add_zero] at d1 ⊢
            go_wp2_with fail
            refine Calls.mono hI0.out ?_
            rintro e w4 ⟨rfl, h4⟩
            have h4H : Hid (RW M w2 (timesS z n 1) w4) := h4
            clear h4
            go_wp2_with fail
            go_roundw
            case rel => exact ⟨1, 0, by omega, rfl, rfl, rfl, h4H.out⟩
            case measure => simp [intOf]; omega
          · obtain ⟨j, hj⟩ : ∃ j, j = k - 1 := ⟨_, rfl⟩
            have d2 : wr.cell? ⟨b, off + j, none⟩ = some (.int .i64 (z j)) := by rw [hBw.cell (p := ⟨b, off + j, none⟩) hb]; exact hcc j (by omega)
            have hzj := hz j
            obtain ⟨S, hS⟩ : ∃ S, S = stepZ z k := ⟨_, rfl⟩
            have hSd : S = ((z k - z j) % 18446744073709551616).toNat := by rw [hS, hj]; rfl
            obtain ⟨x, hx⟩ : ∃ x, x = z k := ⟨_, rfl⟩
            obtain ⟨y, hy⟩ : ∃ y, y = z j := ⟨_, rfl⟩
            rw [← hx] at d1 hSd hzk
            rw [← hy] at d2 hSd hzj
            have hSl : S < 18446744073709551616 := by omega
            have hst : (x % 18446744073709551616 - y % 18446744073709551616) % 18446744073709551616 = (S : Int) := by omega
            have hst2 : IntKind.u64.wrap (IntKind.u64.wrap x - IntKind.u64.wrap y) = (S : Int) := by rw [IntKind.wrap_u64, IntKind.wrap_u64, IntKind.wrap_u64]; exact hst
            clear hst
            have k2 : (k : Int) - 1 = (j : Int) := by omega
            have k3 : (0 : Int) ≤ (j : Int) := by omega
            have k4 : (j : Int) < (n : Int) := by omega
            have hjH : Hid _ := hj
            have hSH : Hid (S = stepZ z k) := hS
            by_cases hk1 : k = 1
            · subst hk1
              have hU1 : Hid _ := rw_uint hW S hSl (S : Int) rfl (by omega)
              have hT : Hid (timesS z n 2 = uOn S (timesS z n 1)) := (by rw [hS]; rfl : timesS z n 2 = uOn S (timesS z n 1))
              rw [← hT.out] at hU1
              clear hW hz hcc hx hy hBw hSd hj hS hT hMw
              simp only [show ((1 : Nat) : Int) = 1 from rfl] at k2 hkI k1 ⊢
              go_wp2_with fail
              refine Calls.mono hU1.out ?_
              rintro e w4 ⟨rfl, h4⟩
              have h4H : Hid (RW M w2 (timesS z n 2) w4) := h4
              clear h4
              go_wp2_with fail
              go_roundw
              case rel => exact ⟨2, S, by omega, rfl, rfl, by rw [hSH.out]; rfl, h4H.out⟩
              case measure => simp [intOf]; omega
            · have hne0 : ¬ (k : Int) = 0 := by omega
              have hne1 : ¬ (k : Int) = 1 := by omega
              have hAk : A = stepZ z (k - 1) := by have := hAH.out; rw [if_neg (by omega)] at this; exact this
              obtain ⟨D, hD⟩ : ∃ D, D = wrap64 ((S : Int) - (A : Int)) := ⟨_, rfl⟩
              have hDr := wrap64_range2 ((S : Int) - (A : Int))
              rw [← hD] at hDr
              have hMg : 0 < M := by rw [hMw]; have := hB2.size; omega
              have hTu : Hid _ := putTurn_any hW (CT_below hctH.out hBw hg) hMg D hDr (by omega)
              have hT : Hid (timesS z n (k + 1) = turnOn D (timesS z n k)) := (by rw [hD, hAk, hS]; show timeOn z k (timesS z n k) = _; unfold timeOn; rw [if_neg hk0, if_neg hk1] : timesS z n (k + 1) = turnOn D (timesS z n k))
              rw [← hT.out] at hTu
              have hD1 : wrap64 (IntKind.u64.wrap ((S : Int) - (A : Int))) = D := by rw [hD, IntKind.wrap_u64]; unfold wrap64; omega
              have hAlt : A < 18446744073709551616 := by rw [hAk]; unfold stepZ; omega
              clear hW hz hcc hx hy hBw hSd hj hS hT hD hAk hDr hMw
              go_wp2_with fail
              refine Calls.mono hTu.out ?_
              rintro e w4 ⟨rfl, h4⟩
              have h4H : Hid (RW M w2 (timesS z n (k + 1)) w4) := h4
              clear h4
              go_wp2_with fail
              go_roundw
              case rel => exact ⟨k + 1, S, by omega, by go_num, rfl, by rw [if_neg (by omega), hSH.out]; rfl, h4H.out⟩
              case measure => simp [intOf]; omega
        · obtain rfl : n = k := by omega
          have hkI : ¬ (n : Int) < (n : Int) := by omega
          obtain ⟨hCL, v, hWS⟩ := hW
          have hBy : Hid _ := bytesB M w2 _ v (timesS z n n).1 wr hWS hCL.2.1 (by omega)
          obtain ⟨sl, hsl⟩ : ∃ sl, sl = (timesS z n n).1 := ⟨_, rfl⟩
          rw [← hsl] at hBy
          have hslH : Hid (sl = (timesS z n n).1) := hsl
          clear hWS hCL hwb hMw hsl hA
          go_wp2_with fail
          refine Calls.mono hBy.out ?_
          rintro e w5 ⟨ga, gc, rfl, hin, hB5⟩
          have hinH : Hid _ := hin
          clear hin
          go_wp2_with fail
          simp [bodyPost, results, Tryd.results4, go_sem]
          refine ⟨Or.inr (Or.inr ⟨by omega, hnr.out, ga, gc, ?_, ?_⟩), below_then hBw hB5⟩
          · rw [hslH.out]
          · rw [← hslH.out]; exact hinH.out
end Go.Proofs.YtfijagdbdbbbpaaDoor

namespace Go.Proofs.YtfijagdbdbbbpaaDoor
open Go.RowKit
set_option linter.unusedVariables false
set_option linter.unusedSimpArgs false
theorem odd_one (w : World) : Calls Tryd.prog 21 #[.agg #[.int .u8 0, .int .i64 1]] w fun e w' => e = .returned (.bool false) ∧ Below w.heap.size w w' := by
  go_enter Tryd.func21, Tryd.ntmps21
  go_wp2_with fail
  go_ret
  exact ⟨rfl, below_new (Below.refl _ _) _⟩
set_option maxRecDepth 100000 in
theorem index_one (b off cap : Nat) (w : World) (hb : b < w.heap.size) (h0 : w.cell? ⟨b, off, none⟩ = some (.int .u8 0)) (h1 : w.cell? ⟨b, off + 1, none⟩ = some (.int .i64 1)) : Calls Tryd.prog 68 #[.slice (some ⟨b, off, none⟩) 1 cap, .func (.func 21) #[] #[]] w fun e w' => e = .returned (.int .i64 (-1)) ∧ Below w.heap.size w w' := by
  go_enter Tryd.func68, Tryd.ntmps68
  go_wp2_with fail
  go_loopw [8] (fun i wr => ∃ k : Nat, k ≤ 1 ∧ i = .int .i64 (k : Int) ∧ Below w.heap.size w wr) (fun i _ => 1 - (intOf i).toNat)
  case atStart => exact ⟨0, by omega, rfl, Below.refl _ _⟩
  case round =>
    obtain ⟨k, hk, rfl, hB⟩ := hrel
    have hk2 : k = 0 ∨ k = 1 := by omega
    rcases hk2 with rfl | rfl
    · have d0 : wr.cell? ⟨b, off, none⟩ = some (.int .u8 0) := by rw [hB.cell (p := ⟨b, off, none⟩) hb]; exact h0
      have d1 : wr.cell? ⟨b, off + 1, none⟩ = some (.int .i64 1) := by rw [hB.cell (p := ⟨b, off + 1, none⟩) hb]; exact h1
      simp only [show ((0 : Nat) : Int) = 0 from rfl]
      go_wp2_with fail
      refine (odd_one _).mono ?_
      rintro e w2 ⟨rfl, hB2⟩
      have hB3 := below_then hB hB2
      go_wp2_with fail
      go_roundw
      exact ⟨1, by omega, rfl, hB3⟩
      simp [intOf]
    · simp only [show ((1 : Nat) : Int) = 1 from rfl]
      go_wp2_with fail
      go_ret
      exact ⟨rfl, hB⟩
theorem contains_one (b off cap : Nat) (w : World) (hb : b < w.heap.size) (h0 : w.cell? ⟨b, off, none⟩ = some (.int .u8 0)) (h1 : w.cell? ⟨b, off + 1, none⟩ = some (.int .i64 1)) : Calls Tryd.prog 20 #[.slice (some ⟨b, off, none⟩) 1 cap, .func (.func 21) #[] #[]] w fun e w' => e = .returned (.bool false) ∧ Below w.heap.size w w' := by
  have hI : Hid _ := index_one b off cap w hb h0 h1
  go_enter Tryd.func20, Tryd.ntmps20
  go_wp2_with fail
  refine Calls.mono hI.out ?_
  rintro e w2 ⟨rfl, hB⟩
  go_wp2_with fail
  go_ret
  exact ⟨rfl, hB⟩
set_option maxRecDepth 100000 in
theorem len_two (w : World) : Calls Tryd.prog 71 #[.int .u64 2] w fun e w' => e = .returned (.int .i64 2) ∧ w' = w := by
  go_enter Tryd.func71, Tryd.ntmps71
  go_wp2_with fail
  go_ret
  refine ⟨?_, rfl⟩
  kernel_rfl
/-- the program's Writer, beside blocks that are no part of it. -/
def RZ (N : Nat) (w1 : World) (s : List Nat × Nat) (Z : Nat → Prop) (wx : World) : Prop := CL s.1 s.2 ∧ ∃ v, WS N w1 (((8 - s.2) % 8 : Nat) : Int) v s.1.length (enc s.1) wx ∧ ∀ z, Z z → z ≠ N ∧ some z ≠ v.ownBlock ∧ z < wx.heap.size
def KZ (Z : Nat → Prop) (w w' : World) : Prop := ∀ z, Z z → w'.heap[z]? = w.heap[z]?
theorem RZ.fr {N : Nat} {w1 w w' : World} {s : List Nat × Nat} {Z : Nat → Prop} {v v' : Value} {fr : Int} (hC : CL s.1 s.2) (hW : WS N w1 fr v' s.1.length (enc s.1) w') (hfr : fr = (((8 - s.2) % 8 : Nat) : Int)) (F : Fr N v v' w w') (hZ : ∀ z, Z z → z ≠ N ∧ some z ≠ v.ownBlock ∧ z < w.heap.size) : RZ N w1 s Z w' ∧ KZ Z w w' := by
  subst hfr
  refine ⟨⟨hC, v', hW, fun z hz => ?_⟩, fun z hz => F.keep z (hZ z hz).2.2 (hZ z hz).1 (hZ z hz).2.1⟩
  obtain ⟨h1, h2, h3⟩ := hZ z hz
  refine ⟨h1, ?_, Nat.lt_of_lt_of_le h3 F.size⟩
  rcases F.own with e | ⟨k, e, hk⟩
  · rw [e]; exact h2
  · rw [e]; intro e'; injection e' with e'; omega
theorem rz_bits {N : Nat} {w1 w : World} {s : List Nat × Nat} {Z : Nat → Prop} (h : RZ N w1 s Z w) (x : Nat) (hx : x < 18446744073709551616) (z k : Int) (hz : z = (x : Int)) (hb : s.1.length + 100 ≤ 140737488355328) : Calls Tryd.prog 22 #[.pointer (some ⟨N, 0, none⟩), .int .u64 z, .int .i64 k] w fun e w' => e = .returned undef ∧ RZ N w1 (bitsOn x (broughtN k) s) Z w' ∧ KZ Z w w' := by
  subst hz
  obtain ⟨l, b⟩ := s
  obtain ⟨h1, v, h2, hZ⟩ := h
  refine (wbits_fr N w1 b v l w h2 h1 x hx k (by simp only at hb; omega)).mono ?_
  rintro e w' ⟨rfl, v', hW, F, hC⟩
  exact ⟨rfl, RZ.fr hC hW rfl F hZ⟩
theorem RZ.rw {N : Nat} {w1 w : World} {s : List Nat × Nat} {Z : Nat → Prop} (h : RZ N w1 s Z w) : RW N w1 s w := by
  obtain ⟨h1, v, h2, hZ⟩ := h
  exact ⟨h1, v, h2⟩
theorem RZ.below {N : Nat} {w1 w w' : World} {s : List Nat × Nat} {Z : Nat → Prop} (h : RZ N w1 s Z w) (hb : Below w.heap.size w w') : RZ N w1 s Z w' := by
  obtain ⟨h1, v, h2, hZ⟩ := h
  exact ⟨h1, v, h2.belowW hb, fun z hz => ⟨(hZ z hz).1, (hZ z hz).2.1, Nat.lt_of_lt_of_le (hZ z hz).2.2 hb.size⟩⟩
/-- a block that is new. -/
theorem RZ.more {N : Nat} {w1 w w' : World} {s : List Nat × Nat} {Z : Nat → Prop} (h : RZ N w1 s Z w) (hb : Below w.heap.size w w') (hs : w.heap.size < w'.heap.size) : RZ N w1 s (fun z => Z z ∨ z = w.heap.size) w' := by
  obtain ⟨h1, v, h2, hZ⟩ := h
  refine ⟨h1, v, h2.belowW hb, fun z hz => ?_⟩
  rcases hz with hz | hz
  · exact ⟨(hZ z hz).1, (hZ z hz).2.1, Nat.lt_of_lt_of_le (hZ z hz).2.2 hb.size⟩
  · subst hz
    have := h2.sz
    exact ⟨by omega, fun e => by have := own_lt h2.own e.symm; omega, hs⟩
theorem RW.rz {N : Nat} {w1 w : World} {s : List Nat × Nat} (h : RW N w1 s w) : RZ N w1 s (fun _ => False) w := by
  obtain ⟨h1, v, h2⟩ := h
  exact ⟨h1, v, h2, fun z hz => hz.elim⟩
theorem KZ.cell {Z : Nat → Prop} {w w' : World} (h : KZ Z w w') {z : Nat} (hz : Z z) (j : Nat) : w'.cell? ⟨z, j, none⟩ = w.cell? ⟨z, j, none⟩ := World.cell?_of_block (h z hz)
theorem KZ.frozen {Z : Nat → Prop} {w w' : World} (h : KZ Z w w') {z : Nat} (hz : Z z) (j : Nat) : w'.frozen? ⟨z, j, none⟩ = w.frozen? ⟨z, j, none⟩ := World.frozen?_of_block (h z hz)
theorem RZ.set {N : Nat} {w1 w : World} {s : List Nat × Nat} {Z : Nat → Prop} (h : RZ N w1 s Z w) {z : Nat} (hz : Z z) (hN : N ≤ z) (j : Nat) (x : Value) : RZ N w1 s Z (w.setCell ⟨z, j, none⟩ x) := by
  obtain ⟨h1, v, ⟨c0, c1, f0, f1, own, b, sz⟩, hZ⟩ := h
  obtain ⟨k1, k2, k3⟩ := hZ z hz
  refine ⟨h1, v, ⟨?_, ?_, by simpa using f0, by simpa using f1, ⟨own.1, ?_⟩, b.setCell (p := ⟨z, j, none⟩) hN _, by simpa using sz⟩, fun y hy => ⟨(hZ y hy).1, (hZ y hy).2.1, by simpa using (hZ y hy).2.2⟩⟩
  · rw [World.cell?_setCell_other _ _ _ _ (by intro e; injection e with e1; omega)]; exact c0
  · rw [World.cell?_setCell_other _ _ _ _ (by intro e; injection e with e1; omega)]; exact c1
  · rcases own.2 with h2 | ⟨g, cap, cur, e1, e2, e3, e4⟩
    · exact Or.inl h2
    · refine Or.inr ⟨g, cap, cur, e1, e2, ?_, e4⟩
      rw [Below.heap_setCell _ _ _ _ (by intro e; exact k2 (by rw [e1]; simp [Value.ownBlock]; exact e.symm))]
      exact e3
set_option maxRecDepth 100000 in
theorem step_one {N : Nat} {w1 w : World} {s : List Nat × Nat} {Z : Nat → Prop} (h : RZ N w1 s Z w) (hb : s.1.length + 500 ≤ 140737488355328) : Calls Tryd.prog 23 #[.pointer (some ⟨N, 0, none⟩), .int .i64 1] w fun e w' => e = .returned undef ∧ RZ N w1 (bitsOn 2 2 (bitsOn 1 6 s)) Z w' ∧ KZ Z w w' := by
  have h1 := bitsOn_len 1 6 s
  have hb1 : Hid (∀ w', RZ N w1 s Z w' → _) := fun w' h' => rz_bits (w := w') h' 1 (by omega) 1 6 rfl (by omega)
  have hb2 : Hid (∀ w', RZ N w1 (bitsOn 1 6 s) Z w' → Calls Tryd.prog 22 #[.pointer (some ⟨N, 0, none⟩), .int .u64 2, .int .i64 2] w' fun e w'' => e = .returned undef ∧ RZ N w1 (bitsOn 2 2 (bitsOn 1 6 s)) Z w'' ∧ KZ Z w' w'') := fun w' h' => rz_bits h' 2 (by omega) 2 2 rfl (by omega)
  have hx : bits .xor .u64 (2 : Int) 0 = 2 := by kernel_rfl
  have hLen : Hid _ := len_two
  have hH : Hid (RZ N w1 s Z w) := h
  clear h
  go_enter Tryd.func23, Tryd.ntmps23
  go_wp2_with fail
  refine Calls.mono (hLen.out _) ?_
  rintro e w2 ⟨rfl, hw⟩
  have hw' := hw.symm
  subst hw'
  clear hw
  have hb1' : Hid _ := hb1.out _ hH.out
  go_wp2_with fail
  refine Calls.mono hb1'.out ?_
  rintro e w3 ⟨rfl, h3, K3⟩
  have hb2' : Hid _ := hb2.out _ h3
  clear h3
  go_wp2_with fail
  refine Calls.mono hb2'.out ?_
  rintro e w4 ⟨rfl, h4, K4⟩
  have h4H : Hid (RZ N w1 (bitsOn 2 2 (bitsOn 1 6 s)) Z w4) := h4
  clear h4
  go_wp2_with fail
  first | go_end0 | (simp only [Exit.inBlock, Exit.then]; refine bodyPost_ret (results_none rfl _ _ _) rfl ?_) | refine bodyPost_ret (results_none rfl _ _ _) rfl ?_
  exact ⟨rfl, h4H.out, fun z hz => (K4 z hz).trans (K3 z hz)⟩
set_option maxRecDepth 100000 in
set_option maxHeartbeats 2000000 in
theorem values_one (b off cap : Nat) (w : World) (hb : b < w.heap.size) (h0 : w.cell? ⟨b, off, none⟩ = some (.int .u8 0)) (h1 : w.cell? ⟨b, off + 1, none⟩ = some (.int .i64 1)) : Calls Tryd.prog 5 #[.slice (some ⟨b, off, none⟩) 1 cap] w fun e w' => (∃ a c, e = .returned (.tuple #[.slice a 3 c, .nilIface]) ∧ BytesIn w' a 3 (natsOf [1, 129, 128])) ∧ Below w.heap.size w w' := by
  have hC : Hid _ := contains_one b off cap w hb h0 h1
  go_enter Tryd.func5, Tryd.ntmps5
  go_wp2_with fail
  refine Calls.mono hC.out ?_
  rintro e w2 ⟨rfl, hB2⟩
  have hU : Hid _ := rw_uint (RW.start w2) 1 (by omega) 1 rfl (by simp)
  go_wp2_with fail
  refine Calls.mono hU.out ?_
  rintro e w3 ⟨rfl, h3⟩
  obtain ⟨za, hza⟩ : ∃ za, za = w3.heap.size := ⟨_, rfl⟩
  have hzaH : Hid (za = w3.heap.size) := hza
  have hR2 : RZ w2.heap.size w2 (uOn 1 ([], 0)) (fun z => z = w3.heap.size ∨ z = w3.heap.size + 1) ((w3.alloc (.cells #[.int .u8 0, .int .i64 0] 57)).alloc (.cells #[.int .u8 0, .int .i64 1] 57)) := by
    have h1 := (h3.rz.more (below_new (Below.refl _ w3) (.cells #[.int .u8 0, .int .i64 0] 57)) (by simp)).more (below_new (Below.refl _ _) (.cells #[.int .u8 0, .int .i64 1] 57)) (by simp)
    obtain ⟨g1, v, g2, g3⟩ := h1
    refine ⟨g1, v, g2, fun z hz => g3 z ?_⟩
    rcases hz with hz | hz
    · exact Or.inl (Or.inr hz)
    · exact Or.inr (by rw [hz]; simp)
  have hR2H : Hid _ := hR2
  have hbw : Below w.heap.size w w3 := hB2.trans (h3.b.mono hB2.size)
  have hbwH : Hid (Below w.heap.size w w3) := hbw
  have hs3 : w2.heap.size < w3.heap.size := h3.sz
  have e0 : w3.cell? ⟨b, off, none⟩ = some (.int .u8 0) := by rw [hbw.cell (p := ⟨b, off, none⟩) hb]; exact h0
  have e1 : w3.cell? ⟨b, off + 1, none⟩ = some (.int .i64 1) := by rw [hbw.cell (p := ⟨b, off + 1, none⟩) hb]; exact h1
  have hb3 : b < w3.heap.size := Nat.lt_of_lt_of_le hb hbw.size
  obtain ⟨N, hN⟩ : ∃ N, N = w2.heap.size := ⟨_, rfl⟩
  rw [← hN] at hR2H ⊢
  have hNH : Hid (N = w2.heap.size) := hN
  clear h3 hza hR2 hN hbw hU hC
  go_wp2_with fail
  go_loopw [22, 6] (fun i la wr => (i = .int .i64 0 ∧ la = .int .i64 0 ∧ wr = w3.alloc (.cells #[.int .u8 0, .int .i64 0] 57)) ∨ (i = .int .i64 1 ∧ RW N w2 (bitsOn 2 2 (bitsOn 1 6 (bitsOn 2 2 (uOn 1 ([], 0))))) wr)) (fun i _ _ => 1 - (intOf i).toNat)
  case atStart => exact Or.inl ⟨rfl, rfl, rfl⟩
  case round =>
    rcases hrel with ⟨rfl, rfl, hwr⟩ | ⟨rfl, hRW⟩
    · subst hwr
      have hB1 : Hid _ := rz_bits hR2H.out 2 (by omega) 2 2 rfl (by simp [uOn, uB, uBf])
      go_wp2_with fail
      refine Calls.mono hB1.out ?_
      rintro e w5 ⟨rfl, h5, K5⟩
      have v0 : w5.cell? ⟨w3.heap.size + 1, 0, none⟩ = some (.int .u8 0) := by rw [K5.cell (z := w3.heap.size + 1) (Or.inr rfl)]; simp [go_sem]
      have v1 : w5.cell? ⟨w3.heap.size + 1, 1, none⟩ = some (.int .i64 1) := by rw [K5.cell (z := w3.heap.size + 1) (Or.inr rfl)]; simp [go_sem]
      have a0 : w5.cell? ⟨w3.heap.size, 0, none⟩ = some (.int .u8 0) := by rw [K5.cell (z := w3.heap.size) (Or.inl rfl)]; simp [go_sem]
      have a1 : w5.cell? ⟨w3.heap.size, 1, none⟩ = some (.int .i64 0) := by rw [K5.cell (z := w3.heap.size) (Or.inl rfl)]; simp [go_sem]
      have g0 : w5.frozen? ⟨w3.heap.size, 0, none⟩ = false := by rw [K5.frozen (z := w3.heap.size) (Or.inl rfl)]; simp [go_sem]
      have g1 : w5.frozen? ⟨w3.heap.size, 1, none⟩ = false := by rw [K5.frozen (z := w3.heap.size) (Or.inl rfl)]; simp [go_sem]
      have hS : Hid _ := step_one h5 (by have := bitsOn_len 2 (broughtN 2) (uOn 1 ([], 0)); simp [uOn, uB, uBf, broughtN] at this ⊢; omega)
      clear h5 hB1 K5
      go_wp2_with fail
      refine Calls.mono hS.out ?_
      rintro e w6 ⟨rfl, h6, K6⟩
      have v0' : w6.cell? ⟨w3.heap.size + 1, 0, none⟩ = some (.int .u8 0) := by rw [K6.cell (z := w3.heap.size + 1) (Or.inr rfl)]; exact v0
      have v1' : w6.cell? ⟨w3.heap.size + 1, 1, none⟩ = some (.int .i64 1) := by rw [K6.cell (z := w3.heap.size + 1) (Or.inr rfl)]; exact v1
      have a0' : w6.cell? ⟨w3.heap.size, 0, none⟩ = some (.int .u8 0) := by rw [K6.cell (z := w3.heap.size) (Or.inl rfl)]; exact a0
      have a1' : w6.cell? ⟨w3.heap.size, 1, none⟩ = some (.int .i64 0) := by rw [K6.cell (z := w3.heap.size) (Or.inl rfl)]; exact a1
      have g0' : w6.frozen? ⟨w3.heap.size, 0, none⟩ = false := by rw [K6.frozen (z := w3.heap.size) (Or.inl rfl)]; exact g0
      have g1' : w6.frozen? ⟨w3.heap.size, 1, none⟩ = false := by rw [K6.frozen (z := w3.heap.size) (Or.inl rfl)]; exact g1
      have hNl : N ≤ w3.heap.size := by rw [hNH.out]; omega
      have h7 := ((h6.set (z := w3.heap.size) (Or.inl rfl) hNl 0 (.int .u8 0)).set (z := w3.heap.size) (Or.inl rfl) hNl 1 (.int .i64 1)).rw
      have h7H : Hid (RW N w2 (bitsOn 2 2 (bitsOn 1 6 (bitsOn 2 2 (uOn 1 ([], 0))))) ((w6.setCell ⟨w3.heap.size, 0, none⟩ (.int .u8 0)).setCell ⟨w3.heap.size, 1, none⟩ (.int .i64 1))) := h7
      clear h7 h6 hS K6 v0 v1 a0 a1 g0 g1
      go_wp2_with fail
      go_roundw
      exact Or.inr ⟨rfl, h7H.out⟩
      simp [intOf]
    · have hBw : Below w.heap.size w wr := hB2.trans (hRW.b.mono (by rw [hNH.out]; exact hB2.size))
      obtain ⟨hCL, v, hWS⟩ := hRW
      have hby : Hid _ := bytesB N w2 _ v _ wr hWS hCL.2.1 (by decide)
      clear hWS hCL
      have hl : (bitsOn 2 2 (bitsOn 1 6 (bitsOn 2 2 (uOn 1 ([], 0))))).1 = [1, 129, 128] := by decide
      rw [hl] at hby
      go_wp2_with fail
      refine Calls.mono hby.out ?_
      rintro e w5 ⟨ga, gc, rfl, hin, hB5⟩
      have hinH : Hid _ := hin
      clear hin
      simp only [List.length_cons, List.length_nil] at hinH ⊢
      go_wp2_with fail
      simp [bodyPost, results, Tryd.results5, go_sem]
      first | exact ⟨hinH.out, below_then hBw hB5⟩ | exact ⟨⟨ga, gc, ⟨rfl, rfl⟩, hinH.out⟩, below_then hBw hB5⟩
end Go.Proofs.YtfijagdbdbbbpaaDoor
