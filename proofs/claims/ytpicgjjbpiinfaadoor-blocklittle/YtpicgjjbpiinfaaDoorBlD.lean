
import Derived.Test.YtpicgjjbpiinfaaDoorBlB
import Derived.Test.YtpicgjjbpiinfaaDoorBlC
namespace Go.Proofs.YtpicgjjbpiinfaaDoor
open Go.RowKit
set_option linter.unusedVariables false
set_option linter.unusedSimpArgs false
/-- by how much a time is above the one ahead. -/
def stepZ (z : Nat → Int) (i : Nat) : Nat := ((z i - z (i - 1)) % 18446744073709551616).toNat
/-- a time more. -/
def timeOn (z : Nat → Int) (i : Nat) (s : List Nat × Nat) : List Nat × Nat := if i = 0 then uOn (foldZ (z 0)) s else if i = 1 then uOn (stepZ z 1) s else turnOn (wrap64 ((stepZ z i : Int) - (stepZ z (i - 1) : Int))) s
/-- what stands behind the first k. -/
def timesS (z : Nat → Int) (n : Nat) : Nat → List Nat × Nat
  | 0 => uOn n ([], 0)
  | k + 1 => timeOn z k (timesS z n k)
theorem uB_len (x : Nat) : (uB x).length ≤ 11 := uBf_len 10 x
theorem timesS_len (z : Nat → Int) (n : Nat) : ∀ k, (timesS z n k).1.length ≤ 11 + 68 * k := by
  intro k
  induction k with
  | zero => have := uB_len n; simp [timesS, uOn]; omega
  | succ k ih =>
    simp only [timesS, timeOn]
    split
    · have := uB_len (foldZ (z 0)); simp [uOn]; omega
    · split
      · have := uB_len (stepZ z 1); simp [uOn]; omega
      · have := turnOn_len (wrap64 ((stepZ z k : Int) - (stepZ z (k - 1) : Int))) (timesS z n k); omega
/-- what Times tells. -/
def TimesE (z : Nat → Int) (n : Nat) (err : Int → Value) (ok : Value) (e : Ending) (w' : World) : Prop :=
  (1048576 < n ∧ e = .returned (.tuple #[.slice none 0 0, err 6])) ∨ (n ≤ 1048576 ∧ ¬ Rises z n ∧ e = .returned (.tuple #[.slice none 0 0, err 2])) ∨
  (n ≤ 1048576 ∧ Rises z n ∧ ∃ a c, e = .returned (.tuple #[.slice a (timesS z n n).1.length c, ok]) ∧ BytesIn w' a (timesS z n n).1.length (natsOf (timesS z n n).1))
theorem faultNew (c : Int) (hc : (c == 0) = false) (w : World) : Calls Tryd.prog 45 #[.int .i64 c] w fun e w' => e = .returned (.iface 39 (.int .i64 c)) ∧ w' = w := by
  go_enter Tryd.func45, Tryd.ntmps45
  go_wp2
  go_ret
  exact ⟨rfl, rfl⟩
theorem CT_below {w w' : World} {B : Nat} (h : CT w) (hb : Below B w w') (hB : 1 < B) : CT w' := fun j hj => by
  rw [hb.cell (p := ⟨1, j, none⟩) hB]; exact h j hj
theorem RW.start (w : World) : RW w.heap.size w ([], 0) (w.alloc (.cells #[.slice none 0 0, .int .i64 0] 60)) := by
  refine ⟨⟨by omega, by simp, by simp⟩, .slice none 0 0, ⟨by simp [go_sem], by simp [go_sem], by simp [go_sem], by simp [go_sem], World.ownsRow_nil _ _ _ _, (Below.refl _ _).alloc (Nat.le_refl _) _, by simp⟩⟩
set_option maxRecDepth 100000 in
set_option maxHeartbeats 8000000 in
theorem times_any (a : Option Addr) (n cap : Nat) (z : Nat → Int) (w : World) (h : IsIn w a n z) (hct : CT w) (hg : 1 < w.heap.size) : Calls Tryd.prog 19 #[.slice a n cap] w fun e w' => TimesE z n (fun c => .iface 39 (.int .i64 c)) .nilIface e w' ∧ Below w.heap.size w w' := by
  have hn := h.1
  by_cases hlong : 1048576 < n
  · have hI : (1048576 : Int) < (n : Int) := by omega
    have hF : Hid _ := faultNew 6 rfl
    clear h hct
    go_enter Tryd.func19, Tryd.ntmps19
    go_wp2_with fail
    refine Calls.mono (hF.out _) ?_
    rintro e w2 ⟨rfl, hw⟩
    have hw' := hw.symm
    subst hw'
    clear hw
    go_wp2_with fail
    simp [bodyPost, results, Tryd.results19, go_sem]
    exact ⟨Or.inl ⟨hlong, rfl⟩, Below.refl _ _⟩
  · have hI : ¬ (1048576 : Int) < (n : Int) := by omega
    have hR : Hid _ := rising_any a n cap z w h
    have hhH : Hid (IsIn w a n z) := h
    have hctH : Hid (CT w) := hct
    clear h hct
    go_enter Tryd.func19, Tryd.ntmps19
    go_wp2_with fail
    refine Calls.mono hR.out ?_
    rintro e w2 ⟨⟨r, rfl, hr⟩, hB2⟩
    cases r with
    | false =>
      have hnr : Hid (¬ Rises z n) := (fun hx => Bool.noConfusion (hr.2 hx) : ¬ Rises z n)
      have hF : Hid _ := faultNew 2 rfl
      clear hr
      go_wp2_with fail
      refine Calls.mono (hF.out _) ?_
      rintro e w3 ⟨rfl, hw⟩
      have hw' := hw.symm
      subst hw'
      clear hw
      go_wp2_with fail
      simp [bodyPost, results, Tryd.results19, go_sem]
      exact ⟨Or.inr (Or.inl ⟨by omega, hnr.out, rfl⟩), hB2⟩
    | true =>
      have hnr : Hid (Rises z n) := hr.1 rfl
      clear hr hR
      have hU : Hid _ := rw_uint (RW.start w2) n (by omega) (n : Int) rfl (by simp)
      have hnw : IntKind.u64.wrap (n : Int) = (n : Int) := by rw [IntKind.wrap_u64]; omega
      have hnm : (n : Int) % 18446744073709551616 = (n : Int) := by omega
      go_wp2_with fail
      refine Calls.mono hU.out ?_
      rintro e w3 ⟨rfl, h3⟩
      have h3H : Hid (RW w2.heap.size w2 (timesS z n 0) w3) := h3
      clear h3 hU
      obtain ⟨M, hM⟩ : ∃ M, M = w2.heap.size := ⟨_, rfl⟩
      have hMH : Hid (M = w2.heap.size) := hM
      rw [← hM] at h3H ⊢
      clear hM
      go_wp2_with fail
      go_loopw [23, 5] (fun ix ah wr => ∃ k A : Nat, k ≤ n ∧ ix = .int .i64 (k : Int) ∧ ah = .int .u64 (A : Int) ∧ A = (if k ≤ 1 then 0 else stepZ z (k - 1)) ∧ RW M w2 (timesS z n k) wr) (fun ix _ _ => n - (intOf ix).toNat)
      case atStart => exact ⟨0, 0, by omega, rfl, rfl, rfl, h3H.out⟩
      case round =>
        clear h3H
        obtain ⟨k, A, hk, rfl, rfl, hA, hW⟩ := hrel
        have hMw : M = w2.heap.size := hMH.out
        have hwb := hW.b
        have hBw : Below w.heap.size w wr := hB2.trans (hwb.mono (by rw [hMw]; exact hB2.size))
        have hlen := timesS_len z n k
        by_cases hkn : k < n
        · have hkI : (k : Int) < (n : Int) := by omega
          have hin := hhH.out
          obtain ⟨hn1, hz, hc⟩ := hin
          rcases hc with h0 | ⟨b, off, rfl, hb, hcc⟩
          · omega
          have hzk := hz k
          have d1 : wr.cell? ⟨b, off + k, none⟩ = some (.int .i64 (z k)) := by rw [hBw.cell (p := ⟨b, off + k, none⟩) hb]; exact hcc k hkn
          have k1 : (0 : Int) ≤ (k : Int) := by omega
          have hAH : Hid _ := hA
          clear hA hwb
          by_cases hk0 : k = 0
          · subst hk0
            have hI0 : Hid _ := rw_int hW (z 0) hzk (by omega)
            obtain ⟨t, ht⟩ : ∃ t, t = z 0 := ⟨_, rfl⟩
            have hS : Hid (timesS z n 1 = uOn (foldZ (z 0)) (timesS z n 0)) := (rfl : timesS z n 1 = uOn (foldZ (z 0)) (timesS z n 0))
            rw [← hS.out] at hI0
            rw [← ht] at d1 hI0
            have hA0 : A = 0 := hAH.out
            subst hA0
            clear hW hz hcc ht hzk hBw hMw
            simp only [show ((0 : Nat) : Int) = 0 from rfl, Nat.add_zero] at d1 ⊢
            go_wp2_with fail
            refine Calls.mono hI0.out ?_
            rintro e w4 ⟨rfl, h4⟩
            have h4H : Hid (RW M w2 (timesS z n 1) w4) := h4
            clear h4
            go_wp2_with fail
            go_roundw
            case rel => exact ⟨1, 0, by omega, rfl, rfl, rfl, h4H.out⟩
            case measure => simp [intOf]; omega
          · obtain ⟨j, hj⟩ : ∃ j, j = k - 1 := ⟨_, rfl⟩
            have d2 : wr.cell? ⟨b, off + j, none⟩ = some (.int .i64 (z j)) := by rw [hBw.cell (p := ⟨b, off + j, none⟩) hb]; exact hcc j (by omega)
            have hzj := hz j
            obtain ⟨S, hS⟩ : ∃ S, S = stepZ z k := ⟨_, rfl⟩
            have hSd : S = ((z k - z j) % 18446744073709551616).toNat := by rw [hS, hj]; rfl
            obtain ⟨x, hx⟩ : ∃ x, x = z k := ⟨_, rfl⟩
            obtain ⟨y, hy⟩ : ∃ y, y = z j := ⟨_, rfl⟩
            rw [← hx] at d1 hSd hzk
            rw [← hy] at d2 hSd hzj
            have hSl : S < 18446744073709551616 := by omega
            have hst : (x % 18446744073709551616 - y % 18446744073709551616) % 18446744073709551616 = (S : Int) := by omega
            have hst2 : IntKind.u64.wrap (IntKind.u64.wrap x - IntKind.u64.wrap y) = (S : Int) := by rw [IntKind.wrap_u64, IntKind.wrap_u64, IntKind.wrap_u64]; exact hst
            clear hst
            have k2 : (k : Int) - 1 = (j : Int) := by omega
            have k3 : (0 : Int) ≤ (j : Int) := by omega
            have k4 : (j : Int) < (n : Int) := by omega
            have hjH : Hid _ := hj
            have hSH : Hid (S = stepZ z k) := hS
            by_cases hk1 : k = 1
            · subst hk1
              have hU1 : Hid _ := rw_uint hW S hSl (S : Int) rfl (by omega)
              have hT : Hid (timesS z n 2 = uOn S (timesS z n 1)) := (by rw [hS]; rfl : timesS z n 2 = uOn S (timesS z n 1))
              rw [← hT.out] at hU1
              clear hW hz hcc hx hy hBw hSd hj hS hT hMw
              simp only [show ((1 : Nat) : Int) = 1 from rfl] at k2 hkI k1 ⊢
              go_wp2_with fail
              refine Calls.mono hU1.out ?_
              rintro e w4 ⟨rfl, h4⟩
              have h4H : Hid (RW M w2 (timesS z n 2) w4) := h4
              clear h4
              go_wp2_with fail
              go_roundw
              case rel => exact ⟨2, S, by omega, rfl, rfl, by rw [hSH.out]; rfl, h4H.out⟩
              case measure => simp [intOf]; omega
            · have hne0 : ¬ (k : Int) = 0 := by omega
              have hne1 : ¬ (k : Int) = 1 := by omega
              have hAk : A = stepZ z (k - 1) := by have := hAH.out; rw [if_neg (by omega)] at this; exact this
              obtain ⟨D, hD⟩ : ∃ D, D = wrap64 ((S : Int) - (A : Int)) := ⟨_, rfl⟩
              have hDr := wrap64_range2 ((S : Int) - (A : Int))
              rw [← hD] at hDr
              have hMg : 1 < M := by rw [hMw]; have := hB2.size; omega
              have hTu : Hid _ := putTurn_any hW (CT_below hctH.out hBw hg) hMg D hDr (by omega)
              have hT : Hid (timesS z n (k + 1) = turnOn D (timesS z n k)) := (by rw [hD, hAk, hS]; show timeOn z k (timesS z n k) = _; unfold timeOn; rw [if_neg hk0, if_neg hk1] : timesS z n (k + 1) = turnOn D (timesS z n k))
              rw [← hT.out] at hTu
              have hD1 : wrap64 (IntKind.u64.wrap ((S : Int) - (A : Int))) = D := by rw [hD, IntKind.wrap_u64]; unfold wrap64; omega
              have hAlt : A < 18446744073709551616 := by rw [hAk]; unfold stepZ; omega
              clear hW hz hcc hx hy hBw hSd hj hS hT hD hAk hDr hMw
              go_wp2_with fail
              refine Calls.mono hTu.out ?_
              rintro e w4 ⟨rfl, h4⟩
              have h4H : Hid (RW M w2 (timesS z n (k + 1)) w4) := h4
              clear h4
              go_wp2_with fail
              go_roundw
              case rel => exact ⟨k + 1, S, by omega, by go_num, rfl, by rw [if_neg (by omega), hSH.out]; rfl, h4H.out⟩
              case measure => simp [intOf]; omega
        · obtain rfl : n = k := by omega
          have hkI : ¬ (n : Int) < (n : Int) := by omega
          obtain ⟨hCL, v, hWS⟩ := hW
          have hBy : Hid _ := bytesB M w2 _ v (timesS z n n).1 wr hWS hCL.2.1 (by omega)
          obtain ⟨sl, hsl⟩ : ∃ sl, sl = (timesS z n n).1 := ⟨_, rfl⟩
          rw [← hsl] at hBy
          have hslH : Hid (sl = (timesS z n n).1) := hsl
          clear hWS hCL hwb hMw hsl hA
          go_wp2_with fail
          refine Calls.mono hBy.out ?_
          rintro e w5 ⟨ga, gc, rfl, hin, hB5⟩
          have hinH : Hid _ := hin
          clear hin
          go_wp2_with fail
          simp [bodyPost, results, Tryd.results19, go_sem]
          refine ⟨Or.inr (Or.inr ⟨by omega, hnr.out, ga, gc, ?_, ?_⟩), below_then hBw hB5⟩
          · rw [hslH.out]
          · rw [← hslH.out]; exact hinH.out
end Go.Proofs.YtpicgjjbpiinfaaDoor
