
import Derived.Test.YtfijagdbdbbbpaaDoorBuN
import Derived.Test.YtfijagdbdbbbpaaDoorBlNq
import Derived.Deep.Onto
import Derived.Test.YtfijagdbdbbbpaaDoorBuT
import Derived.Test.YtfijagdbdbbbpaaDoorBuU
import Derived.Test.YtfijagdbdbbbpaaDoorBwD
import Derived.Test.YtfijagdbdbbbpaaDoorBuM
namespace Go.Proofs.YtfijagdbdbbbpaaDoor
open Go.RowKit
set_option linter.unusedVariables false
set_option linter.unusedSimpArgs false
/-- bytes that are told, in a block of their own, or none. -/
def TellB (N0 : Nat) (e : Ending) (w' : World) : Prop := ∃ v x L, e = .returned (.tuple #[v, x]) ∧ (∀ y ∈ L, y < 256) ∧ List.length L ≤ 268435456 ∧ w'.ownsRow N0 5 1 v (List.length L) (enc L)
theorem TellB.nil {N0 : Nat} {e : Ending} {w' : World} {x : Value} (h : e = .returned (.tuple #[.slice none 0 0, x])) : TellB N0 e w' := ⟨_, x, [], h, by simp, by simp, rfl, Or.inl ⟨rfl, rfl⟩⟩
theorem clone_noneP (g c : Nat) (w : World) : Calls Tryd.prog 67 #[.slice (some ⟨g, 0, none⟩) 0 c] w fun e w' => (∃ a c', e = .returned (.slice a 0 c') ∧ w'.ownsRow w.heap.size 5 1 (.slice a 0 c') 0 (enc [])) ∧ Below w.heap.size w w' := by
  have hnil : ∀ w0 : World, (binOp .eql 60 (.slice (some ⟨g, 0, none⟩) 0 c) (.slice none 0 0)).run Tryd.prog w0 = .ok (.bool false) w0 := fun w0 => Go.Lib.run_eql_slice_nil w0 60 5 (some ⟨g, 0, none⟩) 0 c 0 0 Tryd.underlying60
  have hown : (w.alloc (.cells #[] 5)).ownsRow w.heap.size 5 1 (.slice (some ⟨w.heap.size, 0, none⟩) 0 0) 0 (enc []) := World.ownsRow_lit w #[] 0 (Nat.le_refl _) (by omega) (by simp)
  obtain ⟨g', c', w', hr, ho, hgrow, _⟩ := app_any2 w.heap.size w.heap.size 0 0 0 [] [] _ (some ⟨g, 0, none⟩) c hown rfl (Or.inl rfl) (by omega) (by simp)
  have hB := below_grown (below_new (Below.refl _ w) (.cells #[] 5)) hgrow (fun k e => by injection e with e; omega)
  have hrH : Hid _ := hr
  have hoH : Hid (w'.ownsRow w.heap.size 5 1 (.slice (some ⟨g', 0, none⟩) 0 c') 0 (enc [])) := ho
  clear hr ho hgrow hown
  go_enter Tryd.func67, Tryd.ntmps67
  go_wp2_with (at_builtin; refine wpList_append_run2 (by rfl) _ _ _ _ (by rfl) _ _ _ _ (by rfl) (by rfl) hrH.out ?_)
  go_wp2_with fail
  go_ret
  exact ⟨⟨some ⟨g', 0, none⟩, c', rfl, hoH.out⟩, hB⟩
/-- Bytes: what is told owns its block. -/
theorem bytesP (N : Nat) (w1 : World) (fr : Int) (v : Value) (l : List Nat) (w : World) (h : WS N w1 fr v l.length (enc l) w) (hl : ∀ y ∈ l, y < 256) (hb : l.length ≤ 140737488355327) :
    Calls Tryd.prog 19 #[.pointer (some ⟨N, 0, none⟩)] w fun e w' => ∃ a c, e = .returned (.slice a l.length c) ∧ ((∀ y ∈ l, y < 256) ∧ w'.ownsRow w.heap.size 5 1 (.slice a l.length c) l.length (enc l)) ∧ Below w.heap.size w w' := by
  rcases Nat.eq_zero_or_pos l.length with h0 | h0
  · obtain rfl : l = [] := List.eq_nil_of_length_eq_zero h0
    have c0 := h.c0
    rcases h.own.2 with ⟨e, e0⟩ | ⟨g, cap, cur, e1, _⟩
    · subst e
      go_enter Tryd.func19, Tryd.ntmps19
      go_wp2_with fail
      refine (clone_nil _).mono ?_
      rintro e w' ⟨rfl, rfl⟩
      go_wp2_with fail
      go_ret
      exact ⟨none, 0, rfl, ⟨hl, rfl, Or.inl ⟨rfl, rfl⟩⟩, Below.refl _ _⟩
    · subst e1
      go_enter Tryd.func19, Tryd.ntmps19
      go_wp2_with fail
      refine (clone_noneP g cap _).mono ?_
      rintro e w' ⟨⟨a, c', rfl, ho⟩, hB⟩
      go_wp2_with fail
      go_ret
      exact ⟨a, c', rfl, ⟨hl, ho⟩, hB⟩
  · refine (bytes_any N w1 fr v l.length (enc l) w h (enc_one l) h0 (by omega)).mono ?_
    rintro e w' ⟨g', cap', rfl, ho, hB⟩
    exact ⟨_, cap', rfl, ⟨hl, ho⟩, hB⟩
set_option maxRecDepth 100000 in
set_option maxHeartbeats 8000000 in
theorem timesO_any (a : Option Addr) (n cap : Nat) (z : Nat → Int) (w : World) (h : IsIn w a n z) (hct : CT w) (hg : 0 < w.heap.size) : Calls Tryd.prog 4 #[.slice a n cap] w fun e w' => TellB w.heap.size e w' ∧ Below w.heap.size w w' := by
  have hn := h.1
  by_cases hlong : 1048576 < n
  · have hI : (1048576 : Int) < (n : Int) := by omega
    have hF : Hid _ := faultNew 6 rfl
    clear h hct
    go_enter Tryd.func4, Tryd.ntmps4
    go_wp2_with fail
    refine Calls.mono (hF.out _) ?_
    rintro e w2 ⟨rfl, hw⟩
    have hw' := hw.symm
    subst hw'
    clear hw
    go_wp2_with fail
    simp [bodyPost, results, Tryd.results4, go_sem]
    exact ⟨TellB.nil rfl, Below.refl _ _⟩
  · have hI : ¬ (1048576 : Int) < (n : Int) := by omega
    have hR : Hid _ := rising_any a n cap z w h
    have hhH : Hid (IsIn w a n z) := h
    have hctH : Hid (CT w) := hct
    clear h hct
    go_enter Tryd.func4, Tryd.ntmps4
    go_wp2_with fail
    refine Calls.mono hR.out ?_
    rintro e w2 ⟨⟨r, rfl, hr⟩, hB2⟩
    cases r with
    | false =>
      have hnr : Hid (¬ Rises z n) := (fun hx => Bool.noConfusion (hr.2 hx) : ¬ Rises z n)
      have hF : Hid _ := faultNew 2 rfl
      clear hr
      go_wp2_with fail
      refine Calls.mono (hF.out _) ?_
      rintro e w3 ⟨rfl, hw⟩
      have hw' := hw.symm
      subst hw'
      clear hw
      go_wp2_with fail
      simp [bodyPost, results, Tryd.results4, go_sem]
      exact ⟨TellB.nil rfl, hB2⟩
    | true =>
      have hnr : Hid (Rises z n) := hr.1 rfl
      clear hr hR
      have hU : Hid _ := rw_uint (RW.start w2) n (by omega) (n : Int) rfl (by simp)
      have hnw : IntKind.u64.wrap (n : Int) = (n : Int) := by rw [IntKind.wrap_u64]; omega
      have hnm : (n : Int) % 18446744073709551616 = (n : Int) := by omega
      go_wp2_with fail
      refine Calls.mono hU.out ?_
      rintro e w3 ⟨rfl, h3⟩
      have h3H : Hid (RW w2.heap.size w2 (timesS z n 0) w3) := h3
      clear h3 hU
      obtain ⟨M, hM⟩ : ∃ M, M = w2.heap.size := ⟨_, rfl⟩
      have hMH : Hid (M = w2.heap.size) := hM
      rw [← hM] at h3H ⊢
      clear hM
      go_wp2_with fail
      go_loopw [23, 5] (fun ix ah wr => ∃ k A : Nat, k ≤ n ∧ ix = .int .i64 (k : Int) ∧ ah = .int .u64 (A : Int) ∧ A = (if k ≤ 1 then 0 else stepZ z (k - 1)) ∧ RW M w2 (timesS z n k) wr) (fun ix _ _ => n - (intOf ix).toNat)
      case atStart => exact ⟨0, 0, by omega, rfl, rfl, rfl, h3H.out⟩
      case round =>
        clear h3H
        obtain ⟨k, A, hk, rfl, rfl, hA, hW⟩ := hrel
        have hMw : M = w2.heap.size := hMH.out
        have hwb := hW.b
        have hBw : Below w.heap.size w wr := hB2.trans (hwb.mono (by rw [hMw]; exact hB2.size))
        have hlen := timesS_len z n k
        by_cases hkn : k < n
        · have hkI : (k : Int) < (n : Int) := by omega
          have hin := hhH.out
          obtain ⟨hn1, hz, hc⟩ := hin
          rcases hc with h0 | ⟨b, off, rfl, hb, hcc⟩
          · omega
          have hzk := hz k
          have d1 : wr.cell? ⟨b, off + k, none⟩ = some (.int .i64 (z k)) := by rw [hBw.cell (p := ⟨b, off + k, none⟩) hb]; exact hcc k hkn
          have k1 : (0 : Int) ≤ (k : Int) := by omega
          have hAH : Hid _ := hA
          clear hA hwb
          by_cases hk0 : k = 0
          · subst hk0
            have hI0 : Hid _ := rw_int hW (z 0) hzk (by omega)
            obtain ⟨t, ht⟩ : ∃ t, t = z 0 := ⟨_, rfl⟩
            have hS : Hid (timesS z n 1 = uOn (foldZ (z 0)) (timesS z n 0)) := (rfl : timesS z n 1 = uOn (foldZ (z 0)) (timesS z n 0))
            rw [← hS.out] at hI0
            rw [← ht] at d1 hI0
            have hA0 : A = 0 := hAH.out
            subst hA0
            clear hW hz hcc ht hzk hBw hMw
            simp only [show ((0 : Nat) : Int) = 0 from rfl, Nat.add_zero] at d1 ⊢
            go_wp2_with fail
            refine Calls.mono hI0.out ?_
            rintro e w4 ⟨rfl, h4⟩
            have h4H : Hid (RW M w2 (timesS z n 1) w4) := h4
            clear h4
            go_wp2_with fail
            go_roundw
            case rel => exact ⟨1, 0, by omega, rfl, rfl, rfl, h4H.out⟩
            case measure => simp [intOf]; omega
          · obtain ⟨j, hj⟩ : ∃ j, j = k - 1 := ⟨_, rfl⟩
            have d2 : wr.cell? ⟨b, off + j, none⟩ = some (.int .i64 (z j)) := by rw [hBw.cell (p := ⟨b, off + j, none⟩) hb]; exact hcc j (by omega)
            have hzj := hz j
            obtain ⟨S, hS⟩ : ∃ S, S = stepZ z k := ⟨_, rfl⟩
            have hSd : S = ((z k - z j) % 18446744073709551616).toNat := by rw [hS, hj]; rfl
            obtain ⟨x, hx⟩ : ∃ x, x = z k := ⟨_, rfl⟩
            obtain ⟨y, hy⟩ : ∃ y, y = z j := ⟨_, rfl⟩
            rw [← hx] at d1 hSd hzk
            rw [← hy] at d2 hSd hzj
            have hSl : S < 18446744073709551616 := by omega
            have hst : (x % 18446744073709551616 - y % 18446744073709551616) % 18446744073709551616 = (S : Int) := by omega
            have hst2 : IntKind.u64.wrap (IntKind.u64.wrap x - IntKind.u64.wrap y) = (S : Int) := by rw [IntKind.wrap_u64, IntKind.wrap_u64, IntKind.wrap_u64]; exact hst
            clear hst
            have k2 : (k : Int) - 1 = (j : Int) := by omega
            have k3 : (0 : Int) ≤ (j : Int) := by omega
            have k4 : (j : Int) < (n : Int) := by omega
            have hjH : Hid _ := hj
            have hSH : Hid (S = stepZ z k) := hS
            by_cases hk1 : k = 1
            · subst hk1
              have hU1 : Hid _ := rw_uint hW S hSl (S : Int) rfl (by omega)
              have hT : Hid (timesS z n 2 = uOn S (timesS z n 1)) := (by rw [hS]; rfl : timesS z n 2 = uOn S (timesS z n 1))
              rw [← hT.out] at hU1
              clear hW hz hcc hx hy hBw hSd hj hS hT hMw
              simp only [show ((1 : Nat) : Int) = 1 from rfl] at k2 hkI k1 ⊢
              go_wp2_with fail
              refine Calls.mono hU1.out ?_
              rintro e w4 ⟨rfl, h4⟩
              have h4H : Hid (RW M w2 (timesS z n 2) w4) := h4
              clear h4
              go_wp2_with fail
              go_roundw
              case rel => exact ⟨2, S, by omega, rfl, rfl, by rw [hSH.out]; rfl, h4H.out⟩
              case measure => simp [intOf]; omega
            · have hne0 : ¬ (k : Int) = 0 := by omega
              have hne1 : ¬ (k : Int) = 1 := by omega
              have hAk : A = stepZ z (k - 1) := by have := hAH.out; rw [if_neg (by omega)] at this; exact this
              obtain ⟨D, hD⟩ : ∃ D, D = wrap64 ((S : Int) - (A : Int)) := ⟨_, rfl⟩
              have hDr := wrap64_range2 ((S : Int) - (A : Int))
              rw [← hD] at hDr
              have hMg : 0 < M := by rw [hMw]; have := hB2.size; omega
              have hTu : Hid _ := putTurn_any hW (CT_below hctH.out hBw hg) hMg D hDr (by omega)
              have hT : Hid (timesS z n (k + 1) = turnOn D (timesS z n k)) := (by rw [hD, hAk, hS]; show timeOn z k (timesS z n k) = _; unfold timeOn; rw [if_neg hk0, if_neg hk1] : timesS z n (k + 1) = turnOn D (timesS z n k))
              rw [← hT.out] at hTu
              have hD1 : wrap64 (IntKind.u64.wrap ((S : Int) - (A : Int))) = D := by rw [hD, IntKind.wrap_u64]; unfold wrap64; omega
              have hAlt : A < 18446744073709551616 := by rw [hAk]; unfold stepZ; omega
              clear hW hz hcc hx hy hBw hSd hj hS hT hD hAk hDr hMw
              go_wp2_with fail
              refine Calls.mono hTu.out ?_
              rintro e w4 ⟨rfl, h4⟩
              have h4H : Hid (RW M w2 (timesS z n (k + 1)) w4) := h4
              clear h4
              go_wp2_with fail
              go_roundw
              case rel => exact ⟨k + 1, S, by omega, by go_num, rfl, by rw [if_neg (by omega), hSH.out]; rfl, h4H.out⟩
              case measure => simp [intOf]; omega
        · obtain rfl : n = k := by omega
          have hkI : ¬ (n : Int) < (n : Int) := by omega
          obtain ⟨hCL, v, hWS⟩ := hW
          have hBy : Hid _ := bytesP M w2 _ v (timesS z n n).1 wr hWS hCL.2.1 (by omega)
          obtain ⟨sl, hsl⟩ : ∃ sl, sl = (timesS z n n).1 := ⟨_, rfl⟩
          rw [← hsl] at hBy
          have lenH : Hid (sl.length ≤ 268435456) := by show _ ≤ _; rw [hsl]; omega
          clear hWS hCL hwb hMw hsl hA
          go_wp2_with fail
          refine Calls.mono hBy.out ?_
          rintro e w5 ⟨ga, gc, rfl, hin, hB5⟩
          have hinH : Hid _ := hin
          clear hin
          go_wp2_with fail
          simp [bodyPost, results, Tryd.results4, go_sem]
          exact ⟨⟨_, _, sl, rfl, hinH.out.1, lenH.out, World.ownsRow.mono hinH.out.2 hBw.size⟩, below_then hBw hB5⟩
set_option maxRecDepth 100000 in
set_option maxHeartbeats 16000000 in
theorem valuesO_any (a : Option Addr) (n cap : Nat) (kk : Nat → Nat) (xx : Nat → Int) (w : World) (h : VIn w a n kk xx) : Calls Tryd.prog 5 #[.slice a n cap] w fun e w' => TellB w.heap.size e w' ∧ Below w.heap.size w w' := by
  have hn := h.1
  by_cases hlong : 1048576 < n
  · have hI : (1048576 : Int) < (n : Int) := by omega
    have hF : Hid _ := faultNew 6 rfl
    clear h
    go_enter Tryd.func5, Tryd.ntmps5
    go_wp2_with fail
    refine Calls.mono (hF.out _) ?_
    rintro e w2 ⟨rfl, hw⟩
    have hw' := hw.symm
    subst hw'
    clear hw
    go_wp2_with fail
    simp [bodyPost, results, Tryd.results5, go_sem]
    exact ⟨TellB.nil rfl, Below.refl _ _⟩
  · have hI : ¬ (1048576 : Int) < (n : Int) := by omega
    have hC : Hid _ := contains_any a n cap kk xx w h
    have hhH : Hid (VIn w a n kk xx) := h
    clear h
    go_enter Tryd.func5, Tryd.ntmps5
    go_wp2_with fail
    refine Calls.mono hC.out ?_
    rintro e w2 ⟨⟨r, rfl, hr⟩, hB2⟩
    cases r with
    | true =>
      have hnr : Hid (¬ AllV kk xx n) := hr.1 rfl
      have hF : Hid _ := faultNew 2 rfl
      clear hr
      go_wp2_with fail
      refine Calls.mono (hF.out _) ?_
      rintro e w3 ⟨rfl, hw⟩
      have hw' := hw.symm
      subst hw'
      clear hw
      go_wp2_with fail
      simp [bodyPost, results, Tryd.results5, go_sem]
      exact ⟨TellB.nil rfl, hB2⟩
    | false =>
      have hnr : Hid (AllV kk xx n) := (Classical.not_not.1 fun hh => Bool.noConfusion (hr.2 hh) : AllV kk xx n)
      clear hr hC
      have hU : Hid _ := rw_uint (RW.start w2) n (by omega) (n : Int) rfl (by simp)
      have hnw : IntKind.u64.wrap (n : Int) = (n : Int) := by rw [IntKind.wrap_u64]; omega
      go_wp2_with fail
      refine Calls.mono hU.out ?_
      rintro e w3 ⟨rfl, h3⟩
      have hbw : Below w.heap.size w w3 := hB2.trans (h3.b.mono hB2.size)
      have hs3 : w2.heap.size < w3.heap.size := h3.sz
      obtain ⟨N, hN⟩ : ∃ N, N = w2.heap.size := ⟨_, rfl⟩
      obtain ⟨za, hza⟩ : ∃ za, za = w3.heap.size := ⟨_, rfl⟩
      have hVA : VA N w2 za (valsS kk xx n 0) (w3.alloc (.cells #[.int .u8 0, .int .i64 0] 57)) := by
        have hB := below_new (Below.refl _ w3) (.cells #[.int .u8 0, .int .i64 0] 57)
        have h4 := h3.rz.more hB (by simp)
        obtain ⟨g1, v, g2, g3⟩ := h4
        rw [hza, hN]
        exact ⟨⟨g1, v, g2, fun z hz => g3 z (Or.inr hz)⟩, by simp [go_sem, valsS], by simp [go_sem, valsS], by simp [go_sem], by simp [go_sem], by omega⟩
      have hVAH : Hid (VA N w2 za (valsS kk xx n 0) (w3.alloc (.cells #[.int .u8 0, .int .i64 0] 57))) := hVA
      have hNH : Hid (N = w2.heap.size) := hN
      have hzaH : Hid (za = w3.heap.size) := hza
      have hNl : N ≤ za := by omega
      have hbwH : Hid (∀ wx, Below N w2 wx → Below w.heap.size w wx) := (fun wx hx => hB2.trans (hx.mono (by rw [hN]; exact hB2.size)) : ∀ wx, Below N w2 wx → Below w.heap.size w wx)
      rw [← hN]
      clear h3 hVA hN hza hU hbw hs3
      go_wp2_with fail
      rw [← hzaH.out]
      go_loopw [22, 6] (fun i la wr => ∃ k : Nat, k ≤ n ∧ i = .int .i64 (k : Int) ∧ la = .int .i64 (valsS kk xx n k).la ∧ VA N w2 za (valsS kk xx n k) wr) (fun i _ _ => n - (intOf i).toNat)
      case atStart => exact ⟨0, by omega, rfl, rfl, hVAH.out⟩
      case round =>
        clear hVAH
        obtain ⟨k, hk, rfl, rfl, hV⟩ := hrel
        have hlen := valsS_len kk xx n k
        by_cases hkn : k < n
        · have hkI : (k : Int) < (n : Int) := by omega
          have k0 : (0 : Int) ≤ (k : Int) := by omega
          have hBw := hbwH.out _ hV.rz.rw.b
          obtain ⟨hn1, hz, hc⟩ := hhH.out
          rcases hc with h0 | ⟨b, off, rfl, hb, hcc⟩
          · omega
          have d0 : wr.cell? ⟨b, off + k * 2, none⟩ = some (.int .u8 (kk k : Int)) := by rw [hBw.cell (p := ⟨b, off + k * 2, none⟩) hb]; exact (hcc k hkn).1
          have d1 : wr.cell? ⟨b, off + k * 2 + 1, none⟩ = some (.int .i64 (xx k)) := by rw [hBw.cell (p := ⟨b, off + k * 2 + 1, none⟩) hb]; exact (hcc k hkn).2
          have hzk := hz k
          have hisv := hnr.out k hkn
          obtain ⟨V, hVd⟩ : ∃ V, V = valsS kk xx n k := ⟨_, rfl⟩
          have hnext : valsS kk xx n (k + 1) = valStep (kk k) (xx k) V := by rw [hVd]; rfl
          rw [← hVd] at hV hlen ⊢
          obtain ⟨K, hK⟩ : ∃ K, K = kk k := ⟨_, rfl⟩
          obtain ⟨X, hX⟩ : ∃ X, X = xx k := ⟨_, rfl⟩
          rw [← hK] at d0 hzk hisv hnext
          rw [← hX] at d1 hzk hisv hnext
          obtain ⟨s, ak, ax, la⟩ := V
          have hnextH : Hid (valsS kk xx n (k + 1) = valStep K X ⟨s, ak, ax, la⟩) := hnext
          have a0 : wr.cell? ⟨za, 0, none⟩ = some (.int .u8 (ak : Int)) := hV.c0
          have a1 : wr.cell? ⟨za, 1, none⟩ = some (.int .i64 ax) := hV.c1
          have hzl : za < wr.heap.size := World.block_lt_of_cell? _ _ a0
          have hzne : ¬ wr.heap.size = za := by omega
          have hVB := hV.new K X
          simp only at hVB hlen
          have hfin : Hid (∀ (s2 : List Nat × Nat) (la2 : Int) (wx : World), valStep K X ⟨s, ak, ax, la⟩ = ⟨s2, K, X, la2⟩ → VB N w2 za wr.heap.size s2 K X wx → VA N w2 za (valsS kk xx n (k + 1)) ((wx.setCell ⟨za, 0, none⟩ (.int .u8 (K : Int))).setCell ⟨za, 1, none⟩ (.int .i64 X)) ∧ (valsS kk xx n (k + 1)).la = la2) := (fun s2 la2 wx he hx => by rw [hnextH.out, he]; exact ⟨hx.ahead hNl, rfl⟩ : ∀ (s2 : List Nat × Nat) (la2 : Int) (wx : World), valStep K X ⟨s, ak, ax, la⟩ = ⟨s2, K, X, la2⟩ → VB N w2 za wr.heap.size s2 K X wx → VA N w2 za (valsS kk xx n (k + 1)) ((wx.setCell ⟨za, 0, none⟩ (.int .u8 (K : Int))).setCell ⟨za, 1, none⟩ (.int .i64 X)) ∧ (valsS kk xx n (k + 1)).la = la2)
          have hVBH : Hid (VB N w2 za wr.heap.size s K X (wr.alloc (.cells #[.int .u8 (K : Int), .int .i64 X] 57))) := hVB
          clear hVd hnext hK hX hV hcc hz hVB hnextH hBw
          by_cases heq : K = ak ∧ X = ax
          · obtain ⟨rfl, rfl⟩ := heq
            have hB1 : Hid _ := vb_bits hVBH.out 0 (by omega) 0 1 rfl 1 rfl (by omega) (by omega)
            go_wp2_with fail
            refine Calls.mono hB1.out ?_
            rintro e w5 ⟨rfl, h5⟩
            have v0 := h5.v0
            have v1 := h5.v1
            obtain ⟨u0, a0'⟩ := h5.a0
            obtain ⟨u1, a1'⟩ := h5.a1
            have f0 := h5.f0
            have f1 := h5.f1
            have hF : Hid _ := hfin.out _ la w5 (by unfold valStep; rw [if_pos ⟨rfl, rfl⟩]) h5
            clear h5
            go_wp2_with fail
            go_roundw
            case rel => exact ⟨k + 1, by omega, by go_num, by rw [hF.out.2], hF.out.1⟩
            case measure => simp [intOf]; omega
          · have hneH : Hid (¬ (K = ak ∧ X = ax)) := heq
            by_cases hKa : K = ak
            · have hXn : ¬ X = ax := fun h => heq ⟨hKa, h⟩
              subst hKa
              clear heq
              have hl1 := bitsOn_len 2 2 s
              by_cases hK0 : K = 0
              · have hKb : ((K : Int) == 0) = true := by simp [hK0]
                have hK0H : Hid (K = 0) := hK0
                clear hK0
                obtain ⟨D, hD⟩ : ∃ D, D = wrap64 (X - la) := ⟨_, rfl⟩
                have hDr := wrap64_range2 (X - la)
                rw [← hD] at hDr
                have hDw : wrap64 (X - la) = D := hD.symm
                have hB1 : Hid _ := vb_bits hVBH.out 2 (by omega) 2 2 rfl 2 rfl (by omega) (by omega)
                have hDH : Hid (D = wrap64 (X - la)) := hD
                clear hD
                go_wp2_with fail
                refine Calls.mono hB1.out ?_
                rintro e w4 ⟨rfl, h4⟩
                have v0 := h4.v0
                have v1 := h4.v1
                have hS : Hid _ := vb_step h4 D hDr (by omega)
                clear h4 hB1
                go_wp2_with fail
                refine Calls.mono hS.out ?_
                clear v0 v1 hS
                rintro e w5 ⟨rfl, h5⟩
                have v0 := h5.v0
                have v1 := h5.v1
                obtain ⟨u0, a0'⟩ := h5.a0
                obtain ⟨u1, a1'⟩ := h5.a1
                have f0 := h5.f0
                have f1 := h5.f1
                have hF : Hid _ := hfin.out _ X w5 (by unfold valStep; rw [if_neg (fun h => hXn h.2), if_pos hK0H.out, ← hDH.out]) h5
                clear h5
                go_wp2_with fail
                go_roundw
                case rel => exact ⟨k + 1, by omega, by go_num, by rw [hF.out.2], hF.out.1⟩
                case measure => simp [intOf]; omega
              · have hKb : ((K : Int) == 0) = false := by simp [hK0]
                by_cases hK1 : K = 1
                · have hKc : ((K : Int) == 1) = true := by simp [hK1]
                  have hK0H : Hid (¬ K = 0) := hK0
                  have hK1H : Hid (K = 1) := hK1
                  clear hK0 hK1
                  have hB1 : Hid _ := vb_bits hVBH.out 6 (by omega) 6 3 rfl 3 rfl (by omega) (by omega)
                  go_wp2_with fail
                  refine Calls.mono hB1.out ?_
                  rintro e w5 ⟨rfl, h5⟩
                  have v0 := h5.v0
                  have v1 := h5.v1
                  obtain ⟨u0, a0'⟩ := h5.a0
                  obtain ⟨u1, a1'⟩ := h5.a1
                  have f0 := h5.f0
                  have f1 := h5.f1
                  have hF : Hid _ := hfin.out _ la w5 (by unfold valStep; rw [if_neg (fun h => hXn h.2), if_neg hK0H.out, if_pos hK1H.out]) h5
                  clear h5
                  go_wp2_with fail
                  go_roundw
                  case rel => exact ⟨k + 1, by omega, by go_num, by rw [hF.out.2], hF.out.1⟩
                  case measure => simp [intOf]; omega
                · have hKc : ((K : Int) == 1) = false := by rw [beq_eq_false_iff_ne]; omega
                  have hK0H : Hid (¬ K = 0) := hK0
                  have hK1H : Hid (¬ K = 1) := hK1
                  clear hK0 hK1
                  have hB1 : Hid _ := vb_bits hVBH.out 7 (by omega) 7 3 rfl 3 rfl (by omega) (by omega)
                  go_wp2_with fail
                  refine Calls.mono hB1.out ?_
                  rintro e w5 ⟨rfl, h5⟩
                  have v0 := h5.v0
                  have v1 := h5.v1
                  obtain ⟨u0, a0'⟩ := h5.a0
                  obtain ⟨u1, a1'⟩ := h5.a1
                  have f0 := h5.f0
                  have f1 := h5.f1
                  have hF : Hid _ := hfin.out _ la w5 (by unfold valStep; rw [if_neg (fun h => hXn h.2), if_neg hK0H.out, if_neg hK1H.out]) h5
                  clear h5
                  go_wp2_with fail
                  go_roundw
                  case rel => exact ⟨k + 1, by omega, by go_num, by rw [hF.out.2], hF.out.1⟩
                  case measure => simp [intOf]; omega
            · have hKn : ¬ (K : Int) = (ak : Int) := by omega
              clear heq hKa
              have hl1 := bitsOn_len 2 2 s
              by_cases hK0 : K = 0
              · have hKb : ((K : Int) == 0) = true := by simp [hK0]
                have hK0H : Hid (K = 0) := hK0
                clear hK0
                obtain ⟨D, hD⟩ : ∃ D, D = wrap64 (X - la) := ⟨_, rfl⟩
                have hDr := wrap64_range2 (X - la)
                rw [← hD] at hDr
                have hDw : wrap64 (X - la) = D := hD.symm
                have hB1 : Hid _ := vb_bits hVBH.out 2 (by omega) 2 2 rfl 2 rfl (by omega) (by omega)
                have hDH : Hid (D = wrap64 (X - la)) := hD
                clear hD
                go_wp2_with fail
                refine Calls.mono hB1.out ?_
                rintro e w4 ⟨rfl, h4⟩
                have v0 := h4.v0
                have v1 := h4.v1
                have hS : Hid _ := vb_step h4 D hDr (by omega)
                clear h4 hB1
                go_wp2_with fail
                refine Calls.mono hS.out ?_
                clear v0 v1 hS
                rintro e w5 ⟨rfl, h5⟩
                have v0 := h5.v0
                have v1 := h5.v1
                obtain ⟨u0, a0'⟩ := h5.a0
                obtain ⟨u1, a1'⟩ := h5.a1
                have f0 := h5.f0
                have f1 := h5.f1
                have hF : Hid _ := hfin.out _ X w5 (by unfold valStep; rw [if_neg hneH.out, if_pos hK0H.out, ← hDH.out]) h5
                clear h5
                go_wp2_with fail
                go_roundw
                case rel => exact ⟨k + 1, by omega, by go_num, by rw [hF.out.2], hF.out.1⟩
                case measure => simp [intOf]; omega
              · have hKb : ((K : Int) == 0) = false := by simp [hK0]
                by_cases hK1 : K = 1
                · have hKc : ((K : Int) == 1) = true := by simp [hK1]
                  have hK0H : Hid (¬ K = 0) := hK0
                  have hK1H : Hid (K = 1) := hK1
                  clear hK0 hK1
                  have hB1 : Hid _ := vb_bits hVBH.out 6 (by omega) 6 3 rfl 3 rfl (by omega) (by omega)
                  go_wp2_with fail
                  refine Calls.mono hB1.out ?_
                  rintro e w5 ⟨rfl, h5⟩
                  have v0 := h5.v0
                  have v1 := h5.v1
                  obtain ⟨u0, a0'⟩ := h5.a0
                  obtain ⟨u1, a1'⟩ := h5.a1
                  have f0 := h5.f0
                  have f1 := h5.f1
                  have hF : Hid _ := hfin.out _ la w5 (by unfold valStep; rw [if_neg hneH.out, if_neg hK0H.out, if_pos hK1H.out]) h5
                  clear h5
                  go_wp2_with fail
                  go_roundw
                  case rel => exact ⟨k + 1, by omega, by go_num, by rw [hF.out.2], hF.out.1⟩
                  case measure => simp [intOf]; omega
                · have hKc : ((K : Int) == 1) = false := by rw [beq_eq_false_iff_ne]; omega
                  have hK0H : Hid (¬ K = 0) := hK0
                  have hK1H : Hid (¬ K = 1) := hK1
                  clear hK0 hK1
                  have hB1 : Hid _ := vb_bits hVBH.out 7 (by omega) 7 3 rfl 3 rfl (by omega) (by omega)
                  go_wp2_with fail
                  refine Calls.mono hB1.out ?_
                  rintro e w5 ⟨rfl, h5⟩
                  have v0 := h5.v0
                  have v1 := h5.v1
                  obtain ⟨u0, a0'⟩ := h5.a0
                  obtain ⟨u1, a1'⟩ := h5.a1
                  have f0 := h5.f0
                  have f1 := h5.f1
                  have hF : Hid _ := hfin.out _ la w5 (by unfold valStep; rw [if_neg hneH.out, if_neg hK0H.out, if_neg hK1H.out]) h5
                  clear h5
                  go_wp2_with fail
                  go_roundw
                  case rel => exact ⟨k + 1, by omega, by go_num, by rw [hF.out.2], hF.out.1⟩
                  case measure => simp [intOf]; omega
        · obtain rfl : n = k := by omega
          have hkI : ¬ (n : Int) < (n : Int) := by omega
          have hRW := hV.rz.rw
          have hBw := hbwH.out _ hRW.b
          obtain ⟨hCL, v, hWS⟩ := hRW
          have hby : Hid _ := bytesP N w2 _ v _ wr hWS hCL.2.1 (by omega)
          obtain ⟨sl, hsl⟩ : ∃ sl, sl = (valsS kk xx n n).s.1 := ⟨_, rfl⟩
          rw [← hsl] at hby
          have lenH : Hid (sl.length ≤ 268435456) := by show _ ≤ _; rw [hsl]; omega
          obtain ⟨LA, hLA⟩ : ∃ LA, LA = (valsS kk xx n n).la := ⟨_, rfl⟩
          rw [← hLA]
          clear hWS hCL hsl hV hlen hLA
          go_wp2_with fail
          refine Calls.mono hby.out ?_
          rintro e w5 ⟨ga, gc, rfl, hin, hB5⟩
          have hinH : Hid _ := hin
          clear hin
          go_wp2_with fail
          simp [bodyPost, results, Tryd.results5, go_sem]
          exact ⟨⟨_, _, sl, rfl, hinH.out.1, lenH.out, World.ownsRow.mono hinH.out.2 hBw.size⟩, below_then hBw hB5⟩
set_option maxRecDepth 100000 in
set_option maxHeartbeats 8000000 in
theorem packO_any (a : Option Addr) (n cap : Nat) (tt : Nat → Int) (kk : Nat → Nat) (xx : Nat → Int) (w : World) (h : SIn w a n tt kk xx) (hs : n ≤ 1048576) (hct : CT w) (hg : 0 < w.heap.size) : Calls Tryd.prog 6 #[.slice a n cap] w fun e w' => TellB w.heap.size e w' ∧ Below w.heap.size w w' := by
  have hSp : Hid _ := split_any a n cap tt kk xx w h hs
  have hctH : Hid (CT w) := hct
  clear h hct
  go_enter Tryd.func6, Tryd.ntmps6
  go_wp2_with fail
  refine Calls.mono hSp.out ?_
  rintro e w2 ⟨g, h, rfl, hI, hV, hB2⟩
  have hT : Hid _ := times_any (some ⟨g, 0, none⟩) n n tt w2 hI (CT_below hctH.out hB2 hg) (by have := hB2.size; omega)
  have hVH : Hid (VIn w2 (some ⟨h, 0, none⟩) n kk xx) := hV
  clear hSp hI hV
  go_wp2_with fail
  refine Calls.mono hT.out ?_
  rintro e w3 ⟨hE, hB3⟩
  have hB03 := below_then hB2 hB3
  have hVa : Hid _ := values_any (some ⟨h, 0, none⟩) n n kk xx w3 (hVH.out.below hB3 (Nat.le_refl _))
  clear hT hVH
  rcases hE with ⟨hx, _⟩ | ⟨_, hnr, rfl⟩ | ⟨_, hnr, ta, tc, rfl, hin3⟩
  · omega
  · have hnrH : Hid (¬ Rises tt n) := hnr
    clear hnr hVa hB3 hB2
    go_wp2_with fail
    simp [bodyPost, results, Tryd.results6, go_sem]
    exact ⟨TellB.nil rfl, hB03⟩
  · have hnrH : Hid (Rises tt n) := hnr
    have hl1 := timesS_len tt n n
    obtain ⟨sl, hsl⟩ : ∃ sl, sl = (timesS tt n n).1 := ⟨_, rfl⟩
    rw [← hsl] at hin3 hl1 ⊢
    have hslH : Hid (sl = (timesS tt n n).1) := hsl
    have hin3H : Hid (BytesIn w3 ta sl.length (natsOf sl)) := hin3
    clear hnr hin3 hsl hB2
    go_wp2_with fail
    refine Calls.mono hVa.out ?_
    rintro e w4 ⟨hE, hB4⟩
    have hB04 := below_then hB03 hB4
    clear hVa
    rcases hE with ⟨hx, _⟩ | ⟨_, hnv, rfl⟩ | ⟨_, hnv, va, vc, rfl, hin4⟩
    · omega
    · have hnvH : Hid (¬ AllV kk xx n) := hnv
      clear hnv hB3 hB4 hB03
      go_wp2_with fail
      simp [bodyPost, results, Tryd.results6, go_sem]
      exact ⟨TellB.nil rfl, hB04⟩
    · have hnvH : Hid (AllV kk xx n) := hnv
      have hl2 := valsS_len kk xx n n
      obtain ⟨vl, hvl⟩ : ∃ vl, vl = (valsS kk xx n n).s.1 := ⟨_, rfl⟩
      rw [← hvl] at hin4 hl2 ⊢
      have hP : Hid (packS tt kk xx n = rawOn vl (rawOn sl ([], 0))) := (by rw [hvl, hslH.out]; rfl : packS tt kk xx n = rawOn vl (rawOn sl ([], 0)))
      have hul := uB_len sl.length
      have hR1 : Hid _ := rw_raw (RW.start w4) rfl sl ta tc (hin3H.out.below hB4) (by simp; omega)
      have hR2 : Hid (∀ wx, RW w4.heap.size w4 (rawOn sl ([], 0)) wx → Calls Tryd.prog 25 #[.pointer (some ⟨w4.heap.size, 0, none⟩), .slice va vl.length vc] wx fun e w' => e = .returned undef ∧ RW w4.heap.size w4 (rawOn vl (rawOn sl ([], 0))) w') := fun wx hx => rw_raw hx rfl vl va vc hin4 (by simp [rawOn]; omega)
      have hlen : Hid ((rawOn vl (rawOn sl ([], 0))).1.length ≤ 268435456) := (by have hu1 := uB_len sl.length; have hu2 := uB_len vl.length; simp [rawOn]; omega : (rawOn vl (rawOn sl ([], 0))).1.length ≤ 268435456)
      clear hnv hB3 hB4 hB03 hin4 hvl hul hl1 hl2 hslH hin3H
      go_wp2_with fail
      refine Calls.mono hR1.out ?_
      rintro e w5 ⟨rfl, h5⟩
      have hR3 : Hid _ := hR2.out _ h5
      clear hR1 hR2 h5
      go_wp2_with fail
      refine Calls.mono hR3.out ?_
      rintro e w6 ⟨rfl, h6⟩
      have hb6 := h6.b
      obtain ⟨hCL, v, hWS⟩ := h6
      obtain ⟨S, hS⟩ : ∃ S, S = (rawOn vl (rawOn sl ([], 0))).1 := ⟨_, rfl⟩
      have hlen' := hlen.out
      have hBy : Hid _ := bytesP w4.heap.size w4 _ v S w6 (by rw [hS]; exact hWS) (by rw [hS]; exact hCL.2.1) (by rw [hS]; omega)
      have lenH : Hid (S.length ≤ 268435456) := by show _ ≤ _; rw [hS]; exact hlen'
      have hB06 : Below w.heap.size w w6 := below_then hB04 hb6
      clear hR3 hCL hWS hS hP hlen hlen' hb6
      go_wp2_with fail
      refine Calls.mono hBy.out ?_
      rintro e w7 ⟨ga, gc, rfl, hin, hB7⟩
      have hinH : Hid _ := hin
      clear hin hBy
      go_wp2_with fail
      simp [bodyPost, results, Tryd.results6, go_sem]
      exact ⟨⟨_, _, S, rfl, hinH.out.1, lenH.out, World.ownsRow.mono hinH.out.2 hB06.size⟩, below_then hB06 hB7⟩
end Go.Proofs.YtfijagdbdbbbpaaDoor

namespace Go.Proofs.YtfijagdbdbbbpaaDoor
open Go.RowKit
set_option linter.unusedVariables false
set_option linter.unusedSimpArgs false
theorem row_keptP {w w' : World} {B size n : Nat} {e : TypeId} {v : Value} {xs : List Value} (h : w.ownsRow B e size v n xs) (hb : ∀ g, v.ownBlock = some g → w'.heap[g]? = w.heap[g]?) : w'.ownsRow B e size v n xs := by
  refine ⟨h.1, ?_⟩
  rcases h.2 with h2 | ⟨g, cap, cur, e1, e2, e3, e4⟩
  · exact Or.inl h2
  · exact Or.inr ⟨g, cap, cur, e1, e2, by rw [hb g (by rw [e1]; rfl)]; exact e3, e4⟩
/-- a row that is told, in a block of its own, or none. -/
def TellR (T : TypeId) (sz : Nat) (N0 : Nat) (e : Ending) (w' : World) : Prop := ∃ v x n xs, e = .returned (.tuple #[v, x]) ∧ n ≤ 1048576 ∧ w'.ownsRow N0 T sz v n xs
theorem TellR.nil {T : TypeId} {sz N0 : Nat} {e : Ending} {w' : World} {x : Value} (h : e = .returned (.tuple #[.slice none 0 0, x])) : TellR T sz N0 e w' := ⟨_, x, 0, [], h, by omega, by simp, Or.inl ⟨rfl, rfl⟩⟩
set_option maxRecDepth 100000 in
set_option maxHeartbeats 8000000 in
theorem unTimesO_any (ba : Option Addr) (bc : Nat) (B : List Nat) (w : World) (h : BytesIn w ba B.length (natsOf B)) (hc : ba = none → bc = 0) (hct : CT w) (hg : 0 < w.heap.size) : Calls Tryd.prog 7 #[.slice ba B.length bc] w fun e w' => TellR 2 1 w.heap.size e w' ∧ Below w.heap.size w w' := by
  have hN : Hid _ := newR_in ba bc B w h hc
  have hbH : Hid (BytesIn w ba B.length (natsOf B)) := h
  have hctH : Hid (CT w) := hct
  clear h hct
  go_enter Tryd.func7, Tryd.ntmps7
  go_wp2_with fail
  refine Calls.mono hN.out ?_
  rintro e w2 ⟨N, a, cap, rfl, hNw, hR, hB2⟩
  have hgN : 0 < N := by omega
  have hct2 : Hid (CT w2) := CT_below hctH.out hB2 hg
  have hst := TR.start (s := ⟨0, 0, none⟩) (⟨hR, by show 0 < 8; omega⟩ : RB N w2 a B.length cap (natsOf B) ⟨0, 0, none⟩ w2)
  have hcnt0 := count_any hst.rb
  obtain ⟨cn, s0, hcs, hcn, hcnt⟩ : ∃ cn s0, uintT (natsOf B) B.length 1048576 ⟨0, 0, none⟩ = (s0, cn) ∧ cn ≤ 1048576 ∧ Hid (Calls Tryd.prog 27 #[.pointer (some ⟨N, 0, none⟩)] w2 fun e w' => e = .returned (.int .i64 (cn : Int)) ∧ RB N w2 a B.length cap (natsOf B) s0 w' ∧ RF N w2 w') :=
    ⟨(uintT (natsOf B) B.length 1048576 ⟨0, 0, none⟩).2, (uintT (natsOf B) B.length 1048576 ⟨0, 0, none⟩).1, rfl, uintT_le _ _ _ _, hcnt0⟩
  have hlast : Hid (lastT (natsOf B) B.length = readT (natsOf B) B.length s0 cn) := (by unfold lastT; rw [hcs] : lastT (natsOf B) B.length = readT (natsOf B) B.length s0 cn)
  have hstH : Hid _ := hst
  clear hN hcnt0 hst hR hcs
  go_wp2_with fail
  refine Calls.mono hcnt.out ?_
  rintro e w3 ⟨rfl, hR3, hF3⟩
  have hV3 : Hid _ := hstH.out.rd hR3 hF3
  clear hcnt hstH hR3 hF3
  go_wp2_with fail
  go_loopw [5, 6, 7, 8] (fun l st t i wr => ∃ k : Nat, k ≤ cn ∧ i = .int .i64 (k : Int) ∧ st = .int .u64 ((readT (natsOf B) B.length s0 k).gap : Int) ∧ t = .int .u64 ((readT (natsOf B) B.length s0 k).la % 18446744073709551616) ∧ (readT (natsOf B) B.length s0 k).L.length = k ∧ TR N w2 a B.length cap (natsOf B) w2.heap.size (readT (natsOf B) B.length s0 k).s (readT (natsOf B) B.length s0 k).L l wr) (fun _ _ _ i _ => cn - (intOf i).toNat)
  case atStart => exact ⟨0, by omega, rfl, rfl, rfl, rfl, hV3.out⟩
  case round =>
    clear hV3
    obtain ⟨k, hk, rfl, rfl, rfl, hLk, hV⟩ := hrel
    obtain ⟨u, hu⟩ : ∃ u, u = readT (natsOf B) B.length s0 k := ⟨_, rfl⟩
    rw [← hu] at hV hLk ⊢
    by_cases hkn : k < cn
    · have hkI : (k : Int) < (cn : Int) := by omega
      have hfa : Hid _ := fault_any hV.rb.1
      by_cases hfv : u.s.fv = none
      · rw [hfv] at hfa
        have hnext : Hid (readT (natsOf B) B.length s0 (k + 1) = timeT (natsOf B) B.length k u) := (by
          show (if (readT (natsOf B) B.length s0 k).s.fv.isSome then _ else _) = _
          rw [← hu, hfv]; rfl : readT (natsOf B) B.length s0 (k + 1) = timeT (natsOf B) B.length k u)
        have hVH : Hid _ := hV
        have hLkH : Hid (u.L.length = k) := hLk
        have hok := readT_ok (natsOf B) B.length s0 k
        rw [← hu] at hok
        obtain ⟨hgp, hla, _⟩ := hok
        clear hV hu
        go_wp2_with fail
        refine Calls.mono hfa.out ?_
        rintro e w4 ⟨rfl, hw⟩
        have hw' := hw.symm
        subst hw'
        clear hw hfa
        simp only [fvV]
        have hk3 : k = 0 ∨ k = 1 ∨ 2 ≤ k := by omega
        rcases hk3 with rfl | rfl | hk2
        · simp only [show ((0 : Nat) : Int) = 0 from rfl]
          obtain ⟨v, s1, e1, hv, hC⟩ : ∃ v s1, uintT (natsOf B) B.length 18446744073709551615 u.s = (s1, v) ∧ v < 18446744073709551616 ∧ Hid (Calls Tryd.prog 29 #[.pointer (some ⟨N, 0, none⟩)] wr fun e w' => e = .returned (.int .i64 (unfoldN v)) ∧ RB N w2 a B.length cap (natsOf B) s1 w' ∧ RF N wr w') := ⟨(uintT (natsOf B) B.length 18446744073709551615 u.s).2, (uintT (natsOf B) B.length 18446744073709551615 u.s).1, rfl, uintT_64 _ _ _, rb_int hVH.out.rb⟩
          have hd := unfoldN_rg v hv
          obtain ⟨d, hdd⟩ : ∃ d, d = unfoldN v := ⟨_, rfl⟩
          have hstep : Hid (timeT (natsOf B) B.length 0 u = ⟨s1, u.gap, d, u.L ++ [d]⟩) := (by unfold timeT; rw [if_pos rfl, e1, hdd] : timeT (natsOf B) B.length 0 u = ⟨s1, u.gap, d, u.L ++ [d]⟩)
          rw [← hdd] at hd
          have hddH : Hid _ := hdd
          clear e1 hdd
          go_wp2_with fail
          refine Calls.mono hC.out ?_
          rintro e w5 ⟨rfl, hR5, hF5⟩
          rw [← hddH.out]
          have hV5 := hVH.out.rd hR5 hF5
          obtain ⟨g, c, w9, hr, hV9⟩ := hV5.app (by omega) d
          rw [hLk] at hr hV9
          have hrH : Hid _ := hr
          have hV9H : Hid _ := hV9
          have k1 : IntKind.u64.wrap d = d % 18446744073709551616 := IntKind.wrap_u64 d
          have hd2 : -9223372036854775808 ≤ d ∧ d ≤ 9223372036854775807 := by rw [hddH.out]; exact unfoldN_rg v hv
          have k2 : wrap64 (d % 18446744073709551616) = d := by unfold wrap64; omega
          clear hC hVH hR5 hF5 hV5 hr hV9 hddH
          go_wp2_with (at_builtin; (refine wpList_append_run2 (by rfl) _ _ _ _ (by rfl) _ _ _ _ (by rfl) (by rfl) hrH.out ?_; clear hrH))
          go_roundw
          case rel =>
            refine ⟨0 + 1, by omega, by first | rfl | go_num, ?_, ?_, ?_, ?_⟩
            · rw [hnext.out, hstep.out]
            · rw [hnext.out, hstep.out]
            · rw [hnext.out, hstep.out]; show (u.L ++ [_]).length = _; rw [List.length_append, hLkH.out]; rfl
            · rw [hnext.out, hstep.out]; exact hV9H.out
          case measure => simp [intOf]; omega
        · simp only [show ((1 : Nat) : Int) = 1 from rfl]
          obtain ⟨v, s1, e1, hv, hC⟩ := rb_uintL hVH.out.rb 18446744073709551615
          have hstep : Hid (timeT (natsOf B) B.length 1 u = ⟨s1, v, wrap64 (u.la + (v : Int)), u.L ++ [wrap64 (u.la + (v : Int))]⟩) := (by unfold timeT; rw [if_neg (by omega), if_pos rfl, e1] : timeT (natsOf B) B.length 1 u = ⟨s1, v, wrap64 (u.la + (v : Int)), u.L ++ [wrap64 (u.la + (v : Int))]⟩)
          clear e1
          simp only [show ((18446744073709551615 : Nat) : Int) = 18446744073709551615 from rfl] at hC
          go_wp2_with fail
          refine Calls.mono hC.out ?_
          rintro e w5 ⟨rfl, hR5, hF5⟩
          have hV5 := hVH.out.rd hR5 hF5
          obtain ⟨g, c, w9, hr, hV9⟩ := hV5.app (by omega) (wrap64 (u.la + (v : Int)))
          rw [hLk] at hr hV9
          have hrH : Hid _ := hr
          have hV9H : Hid _ := hV9
          have k1 : IntKind.u64.wrap (u.la % 18446744073709551616 + (v : Int)) = wrap64 (u.la + (v : Int)) % 18446744073709551616 := by rw [IntKind.wrap_u64]; unfold wrap64; omega
          have k2 : wrap64 (wrap64 (u.la + (v : Int)) % 18446744073709551616) = wrap64 (u.la + (v : Int)) := by unfold wrap64; omega
          clear hC hVH hR5 hF5 hV5 hr hV9
          go_wp2_with (at_builtin; (refine wpList_append_run2 (by rfl) _ _ _ _ (by rfl) _ _ _ _ (by rfl) (by rfl) hrH.out ?_; clear hrH))
          go_roundw
          case rel =>
            refine ⟨1 + 1, by omega, by first | rfl | go_num, ?_, ?_, ?_, ?_⟩
            · rw [hnext.out, hstep.out]
            · rw [hnext.out, hstep.out]
            · rw [hnext.out, hstep.out]; show (u.L ++ [_]).length = _; rw [List.length_append, hLkH.out]; rfl
            · rw [hnext.out, hstep.out]; exact hV9H.out
          case measure => simp [intOf]; omega
        · have hn0 : ¬ (k : Int) = 0 := by omega
          have hn1 : ¬ (k : Int) = 1 := by omega
          obtain ⟨d, s1, e1, hC⟩ : ∃ d s1, turnT (natsOf B) B.length u.s = (s1, d) ∧ Hid (Calls Tryd.prog 31 #[.pointer (some ⟨N, 0, none⟩)] wr fun e w' => e = .returned (.int .i64 d) ∧ RB N w2 a B.length cap (natsOf B) s1 w' ∧ RF N wr w') := ⟨(turnT (natsOf B) B.length u.s).2, (turnT (natsOf B) B.length u.s).1, rfl, turn_any hVH.out.rb (CT_below hct2.out hVH.out.rb.1.b hgN) hgN⟩
          obtain ⟨G, hG⟩ : ∃ G : Nat, G = (((u.gap : Int) + d) % 18446744073709551616).toNat := ⟨_, rfl⟩
          have hGI : (G : Int) = ((u.gap : Int) + d) % 18446744073709551616 := by omega
          have hstep : Hid (timeT (natsOf B) B.length k u = ⟨s1, G, wrap64 (u.la + (G : Int)), u.L ++ [wrap64 (u.la + (G : Int))]⟩) := (by unfold timeT; rw [if_neg (by omega), if_neg (by omega), e1, hG] : timeT (natsOf B) B.length k u = ⟨s1, G, wrap64 (u.la + (G : Int)), u.L ++ [wrap64 (u.la + (G : Int))]⟩)
          clear e1 hG
          have hGH : Hid _ := hGI
          clear hGI
          go_wp2_with fail
          refine Calls.mono hC.out ?_
          rintro e w5 ⟨rfl, hR5, hF5⟩
          have hV5 := hVH.out.rd hR5 hF5
          obtain ⟨g, c, w9, hr, hV9⟩ := hV5.app (by omega) (wrap64 (u.la + (G : Int)))
          rw [hLk] at hr hV9
          have hrH : Hid _ := hr
          have hV9H : Hid _ := hV9
          have k0 : IntKind.u64.wrap ((u.gap : Int) + IntKind.u64.wrap d) = (G : Int) := by rw [IntKind.wrap_u64, IntKind.wrap_u64, hGH.out]; omega
          have k1 : IntKind.u64.wrap (u.la % 18446744073709551616 + (G : Int)) = wrap64 (u.la + (G : Int)) % 18446744073709551616 := by rw [IntKind.wrap_u64]; unfold wrap64; omega
          have k2 : wrap64 (wrap64 (u.la + (G : Int)) % 18446744073709551616) = wrap64 (u.la + (G : Int)) := by unfold wrap64; omega
          clear hC hVH hR5 hF5 hV5 hr hV9
          go_wp2_with (at_builtin; (refine wpList_append_run2 (by rfl) _ _ _ _ (by rfl) _ _ _ _ (by rfl) (by rfl) hrH.out ?_; clear hrH))
          go_roundw
          case rel =>
            refine ⟨k + 1, by omega, by first | rfl | go_num, ?_, ?_, ?_, ?_⟩
            · rw [hnext.out, hstep.out]
            · rw [hnext.out, hstep.out]
            · rw [hnext.out, hstep.out]; show (u.L ++ [_]).length = _; rw [List.length_append, hLkH.out]; rfl
            · rw [hnext.out, hstep.out]; exact hV9H.out
          case measure => simp [intOf]; omega
      · have hsome : u.s.fv.isSome = true := by
          cases hh : u.s.fv with
          | none => exact absurd hh hfv
          | some x => rfl
        obtain ⟨x, hx⟩ := Option.isSome_iff_exists.1 hsome
        have hlast2 : Hid (lastT (natsOf B) B.length = u) := (by
          rw [hlast.out, hu, show cn = k + (cn - k) by omega]; exact readT_stay (by rw [← hu]; exact hsome) _ : lastT (natsOf B) B.length = u)
        have hlenP : u.s.fv = none → u.L.length = cn := fun h => absurd h hfv
        rw [hx] at hfa
        obtain ⟨x1, x2⟩ := x
        have hVq : Hid _ := hV
        have huH : Hid _ := hu
        clear hV hu hlenP
        go_wp2_with fail
        refine Calls.mono hfa.out ?_
        rintro e w4 ⟨rfl, hw⟩
        have hw' := hw.symm
        subst hw'
        clear hw hfa
        simp only [fvV]
        go_wp2_with fail
        have hV := hVq.out
        have hu := huH.out
        have hlenP : u.s.fv = none → u.L.length = cn := fun h => absurd h hfv
        clear hVq huH hfv hsome hx
        have hD : Hid _ := done_gen hV.rb.1
        have hVH : Hid _ := hV
        have hok := (readT_ok (natsOf B) B.length s0 k)
        rw [← hu] at hok
        have hlen : Hid (u.s.fv = none → u.L.length = cn) := (hlenP : u.s.fv = none → u.L.length = cn)
        have hokH : Hid _ := hok
        have hLn : u.L.length ≤ 1048576 := by omega
        clear hV hok hu hlenP hLk
        go_wp2_with fail
        refine Calls.mono hD.out ?_
        rintro e w5 ⟨rfl, hR5, hF5⟩
        have hV5 := hVH.out.rd (⟨hR5, hVH.out.rb.2⟩ : RB N w2 a B.length cap (natsOf B) u.s w5) hF5
        have hB05 : Below w.heap.size w w5 := hB2.trans (hV5.rb.1.b.mono hNw)
        clear hD hVH hR5 hF5
        cases hdn : doneF (natsOf B) B.length u.s.p u.s.r u.s.fv with
        | some x =>
          have hdH : Hid _ := hdn
          obtain ⟨x1, x2⟩ := x
          clear hV5 hdn
          simp only [fvV]
          go_wp2_with fail
          simp [bodyPost, results, Tryd.results7, go_sem]
          exact ⟨TellR.nil rfl, hB05⟩
        | none =>
          have hdH : Hid _ := hdn
          obtain ⟨la, lc, hl5, hVI⟩ := own_IsIn hV5.own hLn (ttL_rg hokH.out.L)
          subst hl5
          have ownH : Hid (w5.ownsRow w.heap.size 2 1 (.slice la u.L.length lc) u.L.length (encI (ttL u.L) u.L.length)) := World.ownsRow.mono hV5.own (by have := hV5.hN; omega)
          have lnH : Hid (u.L.length ≤ 1048576) := hLn
          have hpos : 0 < B.length := by
            rcases Nat.eq_zero_or_pos B.length with h0 | h0
            · exact absurd hdn (by rw [← hlast2.out]; exact lastT_empty _ _ h0)
            · exact h0
          have hAl : Hid _ := aloneT_any la u.L.length lc (ttL u.L) ba B.length bc (natsOf B) w5 hVI hLn (CT_below hctH.out hB05 hg) (by have := hB05.size; omega) (hbH.out.below hB05) hpos
          have hVIH : Hid _ := hVI
          clear hV5 hdn hVI
          simp only [fvV]
          go_wp2_with fail
          refine Calls.mono hAl.out ?_
          rintro e w6 ⟨hE, hB6⟩
          have hB06 := below_then hB05 hB6
          clear hAl
          rcases hE with ⟨hq, rfl⟩ | ⟨hq, rfl⟩
          · have hqH : Hid _ := hq
            clear hq
            go_wp2_with fail
            simp [bodyPost, results, Tryd.results7, go_sem]
            exact ⟨⟨_, _, _, _, rfl, lnH.out, row_keptP ownH.out (fun q e => hB6.block q (World.ownsRow.lt ownH.out q e).2)⟩, hB06⟩
          · have hqH : Hid _ := hq
            clear hq
            go_wp2_with fail
            simp [bodyPost, results, Tryd.results7, go_sem]
            exact ⟨TellR.nil rfl, hB06⟩
    · obtain rfl : k = cn := by omega
      have hkI : ¬ (k : Int) < (k : Int) := by omega
      have hlast2 : Hid (lastT (natsOf B) B.length = u) := (by rw [hlast.out, hu] : lastT (natsOf B) B.length = u)
      have hlenP : u.s.fv = none → u.L.length = k := fun _ => hLk
      have hD : Hid _ := done_gen hV.rb.1
      have hVH : Hid _ := hV
      have hok := (readT_ok (natsOf B) B.length s0 k)
      rw [← hu] at hok
      have hlen : Hid (u.s.fv = none → u.L.length = k) := (hlenP : u.s.fv = none → u.L.length = k)
      have hokH : Hid _ := hok
      have hLn : u.L.length ≤ 1048576 := by omega
      clear hV hok hu hlenP hLk
      go_wp2_with fail
      refine Calls.mono hD.out ?_
      rintro e w5 ⟨rfl, hR5, hF5⟩
      have hV5 := hVH.out.rd (⟨hR5, hVH.out.rb.2⟩ : RB N w2 a B.length cap (natsOf B) u.s w5) hF5
      have hB05 : Below w.heap.size w w5 := hB2.trans (hV5.rb.1.b.mono hNw)
      clear hD hVH hR5 hF5
      cases hdn : doneF (natsOf B) B.length u.s.p u.s.r u.s.fv with
      | some x =>
        have hdH : Hid _ := hdn
        obtain ⟨x1, x2⟩ := x
        clear hV5 hdn
        simp only [fvV]
        go_wp2_with fail
        simp [bodyPost, results, Tryd.results7, go_sem]
        exact ⟨TellR.nil rfl, hB05⟩
      | none =>
        have hdH : Hid _ := hdn
        obtain ⟨la, lc, hl5, hVI⟩ := own_IsIn hV5.own hLn (ttL_rg hokH.out.L)
        subst hl5
        have ownH : Hid (w5.ownsRow w.heap.size 2 1 (.slice la u.L.length lc) u.L.length (encI (ttL u.L) u.L.length)) := World.ownsRow.mono hV5.own (by have := hV5.hN; omega)
        have lnH : Hid (u.L.length ≤ 1048576) := hLn
        have hpos : 0 < B.length := by
          rcases Nat.eq_zero_or_pos B.length with h0 | h0
          · exact absurd hdn (by rw [← hlast2.out]; exact lastT_empty _ _ h0)
          · exact h0
        have hAl : Hid _ := aloneT_any la u.L.length lc (ttL u.L) ba B.length bc (natsOf B) w5 hVI hLn (CT_below hctH.out hB05 hg) (by have := hB05.size; omega) (hbH.out.below hB05) hpos
        have hVIH : Hid _ := hVI
        clear hV5 hdn hVI
        simp only [fvV]
        go_wp2_with fail
        refine Calls.mono hAl.out ?_
        rintro e w6 ⟨hE, hB6⟩
        have hB06 := below_then hB05 hB6
        clear hAl
        rcases hE with ⟨hq, rfl⟩ | ⟨hq, rfl⟩
        · have hqH : Hid _ := hq
          clear hq
          go_wp2_with fail
          simp [bodyPost, results, Tryd.results7, go_sem]
          exact ⟨⟨_, _, _, _, rfl, lnH.out, row_keptP ownH.out (fun q e => hB6.block q (World.ownsRow.lt ownH.out q e).2)⟩, hB06⟩
        · have hqH : Hid _ := hq
          clear hq
          go_wp2_with fail
          simp [bodyPost, results, Tryd.results7, go_sem]
          exact ⟨TellR.nil rfl, hB06⟩
set_option maxRecDepth 100000 in
set_option maxHeartbeats 4000000 in
theorem pairO_any (a : Option Addr) (b : Option Addr) (n c d : Nat) (tt : Nat → Int) (kk : Nat → Nat) (xx : Nat → Int) (w : World) (hT : IsIn w a n tt) (hV : VIn w b n kk xx) (hs : n ≤ 1048576) : Calls Tryd.prog 36 #[.slice a n c, .slice b n d] w fun e w' => ∃ g, e = .returned (.slice (some ⟨g, 0, none⟩) n n) ∧ (∃ xs, w'.ownsRow w.heap.size 59 3 (.slice (some ⟨g, 0, none⟩) n n) n xs) ∧ Below w.heap.size w w' := by
  have hmk := make_smp n hs
  have hst : Hid _ := PP.start w n tt kk xx
  have hTH : Hid (IsIn w a n tt) := hT
  have hVH : Hid (VIn w b n kk xx) := hV
  have h0H : Hid (∃ xs, (w.alloc (.cells (madeCells #[.int .i64 0, .int .u8 0, .int .i64 0] (n * 3)) 59)).ownsRow w.heap.size 59 3 (.slice (some ⟨w.heap.size, 0, none⟩) n n) n xs) := by
    have hsz : (madeCells #[Value.int .i64 0, Value.int .u8 0, Value.int .i64 0] (n * 3)).size = n * 3 := by simp [madeCells]
    exact ⟨(madeCells #[Value.int .i64 0, Value.int .u8 0, Value.int .i64 0] (n * 3)).toList.take (n * 3), by rw [List.length_take, Array.length_toList, hsz, Nat.min_self], Or.inr ⟨w.heap.size, n, _, rfl, Nat.le_refl _, heap_alloc_new w _, Nat.le_refl _, by simp only [maxLen]; omega, hsz, rfl⟩⟩
  clear hT hV
  go_enter Tryd.func36, Tryd.ntmps36
  go_wp2_with fail
  go_loopw [13] (fun ix wr => ∃ k : Nat, k ≤ n ∧ ix = .int .i64 (k : Int) ∧ PP w w.heap.size n k tt kk xx wr ∧ Hid (∃ xs, wr.ownsRow w.heap.size 59 3 (.slice (some ⟨w.heap.size, 0, none⟩) n n) n xs)) (fun ix _ => n - (intOf ix).toNat)
  case atStart => exact ⟨0, by omega, rfl, hst.out, h0H⟩
  case round =>
    clear hst hmk h0H
    obtain ⟨k, hk, rfl, hS, hOw⟩ := hrel
    by_cases hkn : k < n
    · have hkI : (k : Int) < (n : Int) := by omega
      have k1 : (0 : Int) ≤ (k : Int) := by omega
      obtain ⟨_, _, hc⟩ := hTH.out
      obtain ⟨_, _, hc'⟩ := hVH.out
      rcases hc with h0 | ⟨b1, o1, rfl, hb1, hcc⟩
      · omega
      rcases hc' with h0 | ⟨b2, o2, rfl, hb2, hcc'⟩
      · omega
      have hBw := hS.b
      have d0 : wr.cell? ⟨b1, o1 + k, none⟩ = some (.int .i64 (tt k)) := by rw [hBw.cell (p := ⟨b1, o1 + k, none⟩) hb1]; exact hcc k hkn
      have d1 : wr.cell? ⟨b2, o2 + k * 2, none⟩ = some (.int .u8 (kk k : Int)) := by rw [hBw.cell (p := ⟨b2, o2 + k * 2, none⟩) hb2]; exact (hcc' k hkn).1
      have d2 : wr.cell? ⟨b2, o2 + k * 2 + 1, none⟩ = some (.int .i64 (xx k)) := by rw [hBw.cell (p := ⟨b2, o2 + k * 2 + 1, none⟩) hb2]; exact (hcc' k hkn).2
      have e0 := hS.c0 k hkn
      have e1 := hS.c1 k hkn
      have e2 := hS.c2 k hkn
      have f0 := hS.f (k * 3) (by omega)
      have f1 := hS.f (k * 3 + 1) (by omega)
      have f2 := hS.f (k * 3 + 2) (by omega)
      have hSH : Hid _ := hS
      have hOw2 : Hid (∃ xs, (((wr.setCell ⟨w.heap.size, k * 3, none⟩ (.int .i64 (tt k))).setCell ⟨w.heap.size, k * 3 + 1, none⟩ (.int .u8 (kk k : Int))).setCell ⟨w.heap.size, k * 3 + 2, none⟩ (.int .i64 (xx k))).ownsRow w.heap.size 59 3 (.slice (some ⟨w.heap.size, 0, none⟩) n n) n xs) := by
        obtain ⟨xs, o⟩ := hOw.out
        exact ⟨_, (World.ownsRow.stored (World.ownsRow.stored (World.ownsRow.stored o (k * 3) (.int .i64 (tt k))).1 (k * 3 + 1) (.int .u8 (kk k : Int))).1 (k * 3 + 2) (.int .i64 (xx k))).1⟩
      clear hcc hcc' hS hBw
      go_wp2_with fail
      go_roundw
      case rel => exact ⟨k + 1, by omega, by go_num, hSH.out.put hkn, hOw2⟩
      case measure => simp [intOf]; omega
    · obtain rfl : n = k := by omega
      have hkI : ¬ (n : Int) < (n : Int) := by omega
      have hB := hS.b
      clear hS
      go_wp2_with fail
      go_ret
      exact ⟨_, rfl, hOw.out, hB⟩
set_option maxRecDepth 100000 in
set_option maxHeartbeats 8000000 in
theorem unpackO_any (ba : Option Addr) (bc : Nat) (B : List Nat) (w : World) (h : BytesIn w ba B.length (natsOf B)) (hc : ba = none → bc = 0) (hct : CT w) (hg : 0 < w.heap.size) : Calls Tryd.prog 8 #[.slice ba B.length bc] w fun e w' => TellR 59 3 w.heap.size e w' ∧ Below w.heap.size w w' := by
  have hN : Hid _ := newR_in ba bc B w h hc
  have hctH : Hid (CT w) := hct
  clear h hct
  go_enter Tryd.func8, Tryd.ntmps8
  go_wp2_with fail
  refine Calls.mono hN.out ?_
  rintro e w2 ⟨N, a, cap, rfl, hNw, hR, hB2⟩
  have hR2 : RB N w2 a B.length cap (natsOf B) ⟨0, 0, none⟩ w2 := ⟨hR, by show 0 < 8; omega⟩
  have hNlt : N < w2.heap.size := hR.sz
  obtain ⟨T, q1, s1, e1, eT, hfT, hC1⟩ : ∃ T q1 s1, (pc1 (natsOf B) B.length).1 = s1 ∧ pT (natsOf B) B.length = T ∧ (∀ i, i < T.length → natsOf B (q1 + i) = natsOf T i) ∧ Hid (Calls Tryd.prog 34 #[.pointer (some ⟨N, 0, none⟩), .int .i64 67108864] w2 fun e w' => ∃ a' c, e = .returned (.slice a' T.length c) ∧ (a' = none → c = 0) ∧ Fresh w2.heap.size T.length a' (fun i => natsOf B (q1 + i)) w' ∧ RB N w2 a B.length cap (natsOf B) s1 w' ∧ RF N w2 w') := by
    have hl : (pT (natsOf B) B.length).length = (pc1 (natsOf B) B.length).2.2 := by simp [pT, bytesL]
    refine ⟨pT (natsOf B) B.length, (pc1 (natsOf B) B.length).2.1, (pc1 (natsOf B) B.length).1, rfl, rfl, fun i hi => ?_, ?_⟩
    · rw [hl] at hi; exact (nats_bytesL (fun i => natsOf B ((pc1 (natsOf B) B.length).2.1 + i)) _ i hi).symm
    · rw [hl]; exact rb_raw hR2 67108864 (by omega)
  have hfTH : Hid _ := hfT
  have eTH : Hid _ := eT
  clear hN hR hR2 hfT eT
  go_wp2_with fail
  refine Calls.mono hC1.out ?_
  rintro e w3 ⟨a1, c1, rfl, hn1, hFr1, hR3, hF3⟩
  obtain ⟨V, q2, s2, e2, eV, hfV, hC2⟩ : ∃ V q2 s2, (pc2 (natsOf B) B.length).1 = s2 ∧ pV (natsOf B) B.length = V ∧ (∀ i, i < V.length → natsOf B (q2 + i) = natsOf V i) ∧ Hid (Calls Tryd.prog 34 #[.pointer (some ⟨N, 0, none⟩), .int .i64 67108864] w3 fun e w' => ∃ a' c, e = .returned (.slice a' V.length c) ∧ (a' = none → c = 0) ∧ Fresh w3.heap.size V.length a' (fun i => natsOf B (q2 + i)) w' ∧ RB N w2 a B.length cap (natsOf B) s2 w' ∧ RF N w3 w') := by
    have hl : (pV (natsOf B) B.length).length = (pc2 (natsOf B) B.length).2.2 := by simp [pV, bytesL]
    have e0 : pc2 (natsOf B) B.length = pieceT (natsOf B) B.length 67108864 s1 := by unfold pc2; rw [e1]
    refine ⟨pV (natsOf B) B.length, (pc2 (natsOf B) B.length).2.1, (pc2 (natsOf B) B.length).1, rfl, rfl, fun i hi => ?_, ?_⟩
    · rw [hl] at hi; exact (nats_bytesL (fun i => natsOf B ((pc2 (natsOf B) B.length).2.1 + i)) _ i hi).symm
    · rw [hl, e0]; exact rb_raw hR3 67108864 (by omega)
  have hFr1H : Hid _ := hFr1
  have hfVH : Hid _ := hfV
  have eVH : Hid _ := eV
  clear hC1 hR3 hFr1 hfV eV
  go_wp2_with fail
  refine Calls.mono hC2.out ?_
  rintro e w4 ⟨a2, c2, rfl, hn2, hFr2, hR4, hF4⟩
  have hFr1 := Fresh.ext (Fresh.rf hFr1H.out hF4 hNlt) hfTH.out
  have hFr2' := Fresh.ext hFr2 hfVH.out
  have hD0 := done_gen hR4.1
  obtain ⟨dn, hdn⟩ : ∃ dn, dn = pD (natsOf B) B.length := ⟨_, rfl⟩
  have hdd : doneF (natsOf B) B.length s2.p s2.r s2.fv = dn := by rw [hdn]; unfold pD; rw [e2]
  rw [hdd] at hD0
  have hD : Hid _ := hD0
  have hdnH : Hid _ := hdn
  have h1H : Hid _ := hFr1
  have h2H : Hid _ := hFr2'
  have hR4H : Hid _ := hR4
  have hl3 : w2.heap.size ≤ w3.heap.size := hF3.size
  clear hC2 hFr1H hfTH hfVH hFr2 hFr1 hFr2' hR4 hD0 hdd hdn e1 e2
  go_wp2_with fail
  refine Calls.mono hD.out ?_
  rintro e w5 ⟨rfl, hR5, hF5⟩
  have hB5 : Below w.heap.size w w5 := hB2.trans (hR5.b.mono hNw)
  have hT5 := Fresh.rf h1H.out hF5 hNlt
  have hV5 := Fresh.rf h2H.out hF5 (by omega)
  clear hD hR5 hF5 h1H h2H hR4H hF3 hF4
  cases dn with
  | some x =>
    obtain ⟨x1, x2⟩ := x
    clear hT5 hV5
    simp only [fvV]
    go_wp2_with fail
    simp [bodyPost, results, Tryd.results8, go_sem]
    exact ⟨TellR.nil rfl, hB5⟩
  | none =>
    have hU : Hid _ := unTimes_any a1 c1 T w5 (Fresh.inn hT5) hn1 (CT_below hctH.out hB5 hg) (by have := hB5.size; omega)
    have hV5H : Hid _ := hV5
    clear hT5 hV5
    simp only [fvV]
    go_wp2_with fail
    refine Calls.mono hU.out ?_
    rintro e w6 ⟨hE, hB6⟩
    have hB06 := below_then hB5 hB6
    have hV6 := Fresh.below hV5H.out hB6
    clear hU hV5H
    rcases hE.cases with ⟨x, hx, rfl⟩ | ⟨hx, ta, tc, rfl, hI⟩ | ⟨hx, rfl⟩
    · obtain ⟨x1, x2⟩ := x
      have hxH : Hid _ := hx
      clear hE hV6 hx
      simp only [fvV]
      go_wp2_with fail
      simp [bodyPost, results, Tryd.results8, go_sem]
      exact ⟨TellR.nil rfl, hB06⟩
    · have hxH : Hid (TG T) := hx
      have hW : Hid _ := unValues_any a2 c2 V w6 (Fresh.inn hV6) hn2
      have hIH : Hid _ := hI
      have hlT : (tL T).length ≤ 1048576 := lastT_len hx.1
      clear hE hV6 hx hI
      go_wp2_with fail
      refine Calls.mono hW.out ?_
      rintro e w7 ⟨hE, hB7⟩
      have hB07 := below_then hB06 hB7
      have hI7 := IsIn.below hIH.out hB7 (Nat.le_refl _)
      clear hW hIH
      rcases hE.cases with ⟨x, hx, rfl⟩ | ⟨hx, va, vc, rfl, hV⟩ | ⟨hx, rfl⟩
      · obtain ⟨x1, x2⟩ := x
        have hyH : Hid _ := hx
        clear hE hx hI7
        simp only [fvV]
        go_wp2_with fail
        simp [bodyPost, results, Tryd.results8, go_sem]
        exact ⟨TellR.nil rfl, hB07⟩
      · have hyH : Hid (VG V) := hx
        clear hE hx
        by_cases hlen : (tL T).length = (vL V).length
        · have hlI : ((tL T).length : Int) = ((vL V).length : Int) := by omega
          have hI7H : Hid _ := hI7
          have hV7 := hV
          rw [← hlen] at hV7 ⊢
          have hP : Hid _ := pairO_any ta va (tL T).length tc vc (ttL (tL T)) (kkL (vL V)) (xxL (vL V)) w7 hI7 hV7 hlT
          have hlenH : Hid _ := hlen
          obtain ⟨m, hm⟩ : ∃ m, m = (tL T).length := ⟨_, rfl⟩
          have hmH : Hid _ := hm
          have lmH : Hid (m ≤ 1048576) := by show _ ≤ _; rw [hm]; exact hlT
          rw [← hm] at hP ⊢
          clear hI7 hV hV7 hI7H hlI hlen hm hlT
          go_wp2_with fail
          refine Calls.mono hP.out ?_
          rintro e w8 ⟨g, rfl, hS, hB8⟩
          have hB08 := below_then hB07 hB8
          have hSH : Hid _ := hS
          clear hP hS
          go_wp2_with fail
          simp [bodyPost, results, Tryd.results8, go_sem]
          obtain ⟨xs8, o8⟩ := hSH.out
          exact ⟨⟨_, _, m, xs8, rfl, lmH.out, World.ownsRow.mono o8 hB07.size⟩, hB08⟩
        · have hlI : ¬ ((tL T).length : Int) = ((vL V).length : Int) := by omega
          have hlenH : Hid _ := hlen
          have hF : Hid _ := faultNew 90 rfl
          clear hI7 hV hlen
          go_wp2_with fail
          refine Calls.mono (hF.out _) ?_
          rintro e w8 ⟨rfl, hw⟩
          have hw' := hw.symm
          subst hw'
          clear hw
          go_wp2_with fail
          simp [bodyPost, results, Tryd.results8, go_sem]
          exact ⟨TellR.nil rfl, hB07⟩
      · have hyH : Hid _ := hx
        clear hE hx hI7
        go_wp2_with fail
        simp [bodyPost, results, Tryd.results8, go_sem]
        exact ⟨TellR.nil rfl, hB07⟩
    · have hxH : Hid _ := hx
      clear hE hV6 hx
      go_wp2_with fail
      simp [bodyPost, results, Tryd.results8, go_sem]
      exact ⟨TellR.nil rfl, hB06⟩
end Go.Proofs.YtfijagdbdbbbpaaDoor

namespace Go.Proofs.YtfijagdbdbbbpaaDoor
open Go.RowKit
set_option linter.unusedVariables false
set_option linter.unusedSimpArgs false
set_option maxRecDepth 100000
theorem below_more {w w1 w2 : World} (h : Below w.heap.size w w1) (k : Below w1.heap.size w1 w2) : Below w.heap.size w w2 := h.trans (k.mono h.size)
theorem row_belowP {w w' : World} {B size n : Nat} {e : TypeId} {v : Value} {xs : List Value} (h : w.ownsRow B e size v n xs) (hb : Below w.heap.size w w') : w'.ownsRow B e size v n xs := row_keptP h (fun g e => hb.block g (World.ownsRow.lt h g e).2)
theorem to0 {w : World} {B : Nat} {v : Value} {L : List Nat} (h : w.ownsRow B 5 1 v L.length (enc L)) : Bk0.OE w B v (enc L) := by
  have el : (enc L).length = L.length := by simp [enc]
  show w.ownsRow _ _ _ _ _ _
  rw [el]; exact h
theorem to3 {w : World} {B n : Nat} {v : Value} {xs : List Value} (h : w.ownsRow B 2 1 v n xs) : Bk3.OE w B v xs ∧ xs.length = n := by
  have e : xs.length = n := by have := h.1; omega
  exact ⟨by show w.ownsRow _ _ _ _ _ _; rw [e]; exact h, e⟩
theorem split3 : ∀ (n : Nat) (xs : List Value), xs.length = n * 3 → ∃ l : List Bk7.E3, l.length = n ∧ Bk7.enc l = xs
  | 0, xs, h => ⟨[], rfl, (List.eq_nil_of_length_eq_zero (by omega)).symm⟩
  | n + 1, xs, h => by
    match xs, h with
    | [], h => simp at h
    | [_], h => simp at h; omega
    | [_, _], h => simp at h; omega
    | a :: b :: c :: r, h =>
      obtain ⟨l, h1, h2⟩ := split3 n r (by simp at h; omega)
      exact ⟨(a, b, c) :: l, by simp [h1], by simp [Bk7.enc, h2]⟩
theorem to7 {w : World} {B n : Nat} {v : Value} {xs : List Value} (h : w.ownsRow B 59 3 v n xs) : ∃ l, Bk7.OE w B v l ∧ l.length = n := by
  obtain ⟨l, h1, h2⟩ := split3 n xs h.1
  exact ⟨l, by show w.ownsRow _ _ _ _ _ _; rw [h1, h2]; exact h, h1⟩
theorem bytes_of {w : World} {B : Nat} {v : Value} {l : List Nat} (h' : w.ownsRow B 5 1 v l.length (enc l)) (hl : ∀ y ∈ l, y < 256) (hb : l.length ≤ 140737488355327) : ∃ a c, v = .slice a l.length c ∧ BytesIn w a l.length (natsOf l) ∧ (a = none → c = 0) := by
  rcases h'.2 with ⟨e, e0⟩ | ⟨g, cap, cur, e1, e2, e3, e4⟩
  · exact ⟨none, 0, by rw [e, e0], ⟨hb, Or.inl e0⟩, fun _ => rfl⟩
  · subst e1
    exact ⟨some ⟨g, 0, none⟩, cap, rfl, ⟨hb, Or.inr ⟨g, 0, rfl, (h'.lt g rfl).2, bytes_own h' hl⟩⟩, fun e => by cases e⟩
/-- between the rounds. -/
structure LB (w1 : World) (N i : Nat) (wr : World) : Prop where
  bb : Mb.BB N w1.heap.size wr.heap.size wr.heap.size (3 * i) i i wr
  sz : w1.heap.size ≤ wr.heap.size
  kp : ∀ q, q < w1.heap.size → q ≠ N → wr.heap[q]? = w1.heap[q]?
  same : wr.os = w1.os ∧ wr.tape = w1.tape ∧ wr.output = w1.output
theorem LB.row {w1 wr : World} {N i B size n : Nat} {e : TypeId} {v : Value} {xs : List Value} (h : LB w1 N i wr) (o : w1.ownsRow B e size v n xs) (hB : N < B) : wr.ownsRow B e size v n xs := row_keptP o (fun q c => h.kp q (World.ownsRow.lt o q c).2 (by have := (World.ownsRow.lt o q c).1; omega))
theorem LB.below {w w1 wr : World} {N i : Nat} (h : LB w1 N i wr) (hb : Below w.heap.size w w1) (hN : w.heap.size ≤ N) : Below w.heap.size w wr := ⟨h.same.1.trans hb.os, h.same.2.1.trans hb.tape, h.same.2.2.trans hb.output, Nat.le_trans hb.size h.sz, fun k hk => by rw [h.kp k (Nat.lt_of_lt_of_le hk hb.size) (by omega)]; exact hb.block k hk⟩
theorem KP.up {N C a S a' S' : Nat} {w w' w'' : World} (h : Mb.KP N C a S w w') (k : Mb.KP N C a' S' w' w'') (ha : a ≤ a') (hS : S = S') : Mb.KP N C a' S w w'' := by
  subst hS
  exact ⟨Nat.le_trans h.size k.size, fun q q1 q2 => by rw [k.low q q1 q2]; exact h.low q q1 q2, fun q q1 q2 => by rw [k.mid q q1 q2]; exact h.mid q (by omega) q2, k.same.1.trans h.same.1, k.same.2.1.trans h.same.2.1, k.same.2.2.trans h.same.2.2⟩
theorem KP.row {N C a S B size n : Nat} {w w' : World} {e : TypeId} {v : Value} {xs : List Value} (h : Mb.KP N C a S w w') (o : w.ownsRow B e size v n xs) (hv : ∀ q, v.ownBlock = some q → a ≤ q ∧ q < S) : w'.ownsRow B e size v n xs := row_keptP o (fun q c => h.mid q (hv q c).1 (hv q c).2)
set_option maxHeartbeats 16000000 in
theorem blockOwn_walk (a : Option Addr) (n cap : Nat) (tt : Nat → Int) (kk : Nat → Nat) (xx : Nat → Int) (w : World) (h : SIn w a n tt kk xx) (hs : n ≤ 1048576) (hct : CT w) (hg : 0 < w.heap.size) :
    Calls Tryd.prog 3 #[.slice a n cap] w fun e w' => e = .returned (.bool true) ∧ Below w.heap.size w w' := by
  obtain ⟨w0, hw0⟩ : ∃ w0, w0 = w.alloc (.cells (Array.replicate 28 (.slice none 0 0)) 52) := ⟨_, rfl⟩
  have hB0 : Below w.heap.size w w0 := by rw [hw0]; exact below_new (Below.refl _ _) _
  have hz0 : w0.heap.size = w.heap.size + 1 := by rw [hw0]; simp
  have c0 : Hid (∀ j, j < 28 → w0.cell? ⟨w.heap.size, j, none⟩ = some (.slice none 0 0)) := fun j hj => by
    rw [hw0, World.cell?_alloc_at _ _ _ _ rfl, Array.getElem?_replicate, if_pos hj]
  have z0 : Hid (∀ j, w0.frozen? ⟨w.heap.size, j, none⟩ = false) := fun j => by rw [hw0]; exact World.frozen?_alloc_at _ _ _ _ rfl
  have hst : Hid _ := DP.start w0 tt kk xx
  have hhH : Hid _ := h
  have hctH : Hid (CT w) := hct
  have hw0H : Hid (w.alloc (.cells (Array.replicate 28 (.slice none 0 0)) 52) = w0) := hw0.symm
  clear h hct hw0
  go_enter Tryd.func3, Tryd.ntmps3
  go_wp2_with fail
  go_loopw [4, 5, 6] (fun t v i wr => ∃ k : Nat, k ≤ n ∧ i = .int .i64 (k : Int) ∧ DP w0 tt kk xx k t v wr) (fun _ _ i _ => n - (intOf i).toNat)
  case atStart =>
    refine ⟨0, by omega, rfl, ?_⟩
    have e := hw0H.out
    first | (rw [← e] at hst ⊢; exact hst.out) | (subst e; exact hst.out) | (have := hst.out; rw [← e] at this; exact this)
  case round =>
    clear hst
    obtain ⟨k, hk, rfl, hD⟩ := hrel
    have hBw : Below w.heap.size w _ := below_then hB0 hD.b
    by_cases hkn : k < n
    · have hkI : (k : Int) < (n : Int) := by omega
      have k1 : (0 : Int) ≤ (k : Int) := by omega
      have kw : IntKind.i64.wrap ((k : Int) + 1) = ((k + 1 : Nat) : Int) := IntWalk.i64_in _ (by omega)
      obtain ⟨g1, c1, w1, g2, c2, w2, hr1, hb1, hr2, hD2⟩ := hD.step (by omega)
      obtain ⟨hn1, hz, hz', hc⟩ := hhH.out
      rcases hc with h0 | ⟨b, off, rfl, hb, hcc⟩
      · omega
      have hBw1 : Below w.heap.size w w1 := below_then hB0 hb1
      have d1 := (show _ = _ from by rw [hBw.cell (p := ⟨b, off + k * 3, none⟩) hb]; exact (hcc k hkn).1 : World.cell? _ ⟨b, off + k * 3, none⟩ = some (.int .i64 (tt k)))
      have d2 : w1.cell? ⟨b, off + k * 3 + 1, none⟩ = some (.int .u8 (kk k : Int)) := by rw [hBw1.cell (p := ⟨b, off + k * 3 + 1, none⟩) hb]; exact (hcc k hkn).2.1
      have d3 : w1.cell? ⟨b, off + k * 3 + 2, none⟩ = some (.int .i64 (xx k)) := by rw [hBw1.cell (p := ⟨b, off + k * 3 + 2, none⟩) hb]; exact (hcc k hkn).2.2
      have hr1H : Hid _ := hr1
      have hr2H : Hid _ := hr2
      have hD2H : Hid _ := hD2
      clear hr1 hr2 hD2 hD hcc hz hz' hBw hBw1 hb1
      go_wp2_with (at_builtin; first | (refine wpList_append_run2 (by rfl) _ _ _ _ (by rfl) _ _ _ _ (by rfl) (by rfl) hr1H.out ?_; clear hr1H) | (refine wpList_append_run2 (by rfl) _ _ _ _ (by rfl) _ _ _ _ (by rfl) (by rfl) hr2H.out ?_; clear hr2H))
      exact ⟨⟨k + 1, by omega, by first | rfl | go_num, hD2H.out⟩, by first | (simp [intOf]; done) | (simp [intOf]; omega)⟩
    · obtain rfl : n = k := by omega
      have hkI : ¬ (n : Int) < (n : Int) := by omega
      obtain ⟨w1, hw1⟩ : ∃ w1, w1 = wr := ⟨_, rfl⟩
      subst hw1
      obtain ⟨hn1, hz, hz', hc⟩ := hhH.out
      have wz := hD.b.size
      have hzH : Hid ((∀ i, kk i < 256 ∧ -9223372036854775808 ≤ xx i ∧ xx i ≤ 9223372036854775807) ∧ ∀ i, -9223372036854775808 ≤ tt i ∧ tt i ≤ 9223372036854775807) := ⟨hz, hz'⟩
      obtain ⟨ta, tc, et, _⟩ := own_IsIn hD.ot hs hz'
      obtain ⟨va, vc, ev, _⟩ := own_VIn hD.ov hs hz
      subst et ev
      have otH : Hid _ := hD.ot
      have ovH : Hid _ := hD.ov
      have hBwH : Hid (Below w.heap.size w w1) := hBw
      have hCT : Hid (∀ W, Below w.heap.size w W → CT W) := fun W hW => CT_below hctH.out hW hg
      have L0 : Hid (LB w1 w.heap.size 0 w1) := ⟨Mb.BB.empty (by omega) (Nat.le_refl _) (fun j hj => by rw [hD.b.cell (p := ⟨w.heap.size, j, none⟩) (by show w.heap.size < _; omega)]; exact c0.out j hj) (fun j => by rw [hD.b.frozen (p := ⟨w.heap.size, j, none⟩) (by show w.heap.size < _; omega)]; exact z0.out j), Nat.le_refl _, fun _ _ _ => rfl, rfl, rfl, rfl⟩
      have nw : Hid (w.heap.size < w0.heap.size) := by show _ < _; omega
      clear hc hz hz' hD hBw c0 z0 hw0H hB0
      go_wp2_with fail
      go_loopw [7] (fun i7 wr => ∃ i : Nat, i ≤ 2 ∧ i7 = .int .i64 (i : Int) ∧ Hid (LB w1 w.heap.size i wr)) (fun i7 _ => 2 - (intOf i7).toNat)
      case atStart => exact ⟨0, by omega, rfl, L0⟩
      case round =>
        clear L0
        obtain ⟨i, hi2, rfl, hL⟩ := hrel
        have bwr : Hid (Below w.heap.size w wr) := hL.out.below hBwH.out (Nat.le_refl _)
        have gz : Hid (∀ W, Below w.heap.size w W → 0 < W.heap.size) := fun W hW => Nat.lt_of_lt_of_le hg hW.size
        by_cases hi : i < 2
        · have iI : (i : Int) < 2 := by omega
          have i0 : (0 : Int) ≤ (i : Int) := by omega
          have iw : IntKind.i64.wrap ((i : Int) + 1) = ((i + 1 : Nat) : Int) := IntWalk.i64_in _ (by omega)
          have hI2 : IsIn wr ta n tt := by
            obtain ⟨a', c', e, q⟩ := own_IsIn (hL.out.row otH.out nw.out) hs hzH.out.2
            injection e with e1 _ e2
            subst e1
            exact q
          have hV2 : Hid (VIn wr va n kk xx) := by
            obtain ⟨a', c', e, q⟩ := own_VIn (hL.out.row ovH.out nw.out) hs hzH.out.1
            injection e with e1 _ e2
            subst e1
            exact q
          have C1 : Hid _ := timesO_any ta n tc tt wr hI2 (hCT.out wr bwr.out) (gz.out wr bwr.out)
          clear hI2
          go_wp2_with fail
          refine Calls.mono C1.out ?_
          rintro e w2 ⟨⟨v1, x1, L1, rfl, y1, n1, o1⟩, b2⟩
          have T1 : Hid ((∀ y ∈ L1, y < 256) ∧ L1.length ≤ 268435456 ∧ w2.ownsRow wr.heap.size 5 1 v1 L1.length (enc L1)) := ⟨y1, n1, o1⟩
          have B2 : Hid (Below wr.heap.size wr w2) := b2
          have C2 : Hid _ := valuesO_any va n vc kk xx w2 (hV2.out.below b2 (Nat.le_refl _))
          clear C1 y1 n1 o1 b2 hV2
          go_wp2_with fail
          refine Calls.mono C2.out ?_
          rintro e w3 ⟨⟨v2, x2, L2, rfl, y2, n2, o2⟩, b3⟩
          have T2 : Hid (L2.length ≤ 268435456 ∧ w3.ownsRow w2.heap.size 5 1 v2 L2.length (enc L2)) := ⟨n2, o2⟩
          have B3 : Hid (Below w2.heap.size w2 w3) := b3
          have U3 : Hid (Below w.heap.size w w3) := below_more (below_more bwr.out B2.out) b3
          have C3 : Hid _ := packO_any a n cap tt kk xx w3 (SIn.below hhH.out U3.out (Nat.le_refl _)) hs (hCT.out w3 U3.out) (gz.out w3 U3.out)
          clear C2 y2 n2 o2 b3
          go_wp2_with fail
          refine Calls.mono C3.out ?_
          rintro e w4 ⟨⟨v3, x3, L3, rfl, y3, n3, o3⟩, b4⟩
          have T3 : Hid ((∀ y ∈ L3, y < 256) ∧ L3.length ≤ 268435456 ∧ w4.ownsRow w3.heap.size 5 1 v3 L3.length (enc L3)) := ⟨y3, n3, o3⟩
          have B4 : Hid (Below w3.heap.size w3 w4) := b4
          have U4 : Hid (Below w.heap.size w w4) := below_more U3.out b4
          obtain ⟨a1, c1, e1, bi1, hn1'⟩ := bytes_of (row_belowP (row_belowP T1.out.2.2 B3.out) b4) T1.out.1 (by have := T1.out.2.1; omega)
          subst e1
          have C4 : Hid _ := unTimesO_any a1 c1 L1 w4 bi1 hn1' (hCT.out w4 U4.out) (gz.out w4 U4.out)
          clear C3 y3 n3 o3 b4 bi1 hn1'
          go_wp2_with fail
          refine Calls.mono C4.out ?_
          rintro e w5 ⟨⟨v4, x4, n4, xs4, rfl, hn4, o4⟩, b5⟩
          have T4 : Hid (n4 ≤ 1048576 ∧ w5.ownsRow w4.heap.size 2 1 v4 n4 xs4) := ⟨hn4, o4⟩
          have B5 : Hid (Below w4.heap.size w4 w5) := b5
          have U5 : Hid (Below w.heap.size w w5) := below_more U4.out b5
          obtain ⟨a3, c3, e3, bi3, hn3'⟩ := bytes_of (row_belowP T3.out.2.2 b5) T3.out.1 (by have := T3.out.2.1; omega)
          subst e3
          have C5 : Hid _ := unpackO_any a3 c3 L3 w5 bi3 hn3' (hCT.out w5 U5.out) (gz.out w5 U5.out)
          clear C4 hn4 o4 b5 bi3 hn3'
          go_wp2_with fail
          refine Calls.mono C5.out ?_
          rintro e w6 ⟨⟨v5, x5, n5, xs5, rfl, hn5, o5⟩, b6⟩
          obtain ⟨l5, q5, ql5⟩ := to7 o5
          have T5 : Hid (l5.length ≤ 1048576 ∧ Bk7.OE w6 w5.heap.size v5 l5) := ⟨by omega, q5⟩
          have B6 : Hid (Below w5.heap.size w5 w6) := b6
          -- the worlds' sizes
          have Z : Hid (wr.heap.size ≤ w2.heap.size ∧ w2.heap.size ≤ w3.heap.size ∧ w3.heap.size ≤ w4.heap.size ∧ w4.heap.size ≤ w5.heap.size ∧ w5.heap.size ≤ w6.heap.size) := ⟨B2.out.size, B3.out.size, B4.out.size, B5.out.size, b6.size⟩
          have BW : Hid (Below wr.heap.size wr w6) := below_more (below_more (below_more (below_more B2.out B3.out) B4.out) B5.out) b6
          have r1 : Hid (w6.ownsRow wr.heap.size 5 1 (.slice a1 L1.length c1) L1.length (enc L1)) := row_belowP (row_belowP (row_belowP (row_belowP T1.out.2.2 B3.out) B4.out) B5.out) b6
          have r2 : Hid (w6.ownsRow w2.heap.size 5 1 v2 L2.length (enc L2)) := row_belowP (row_belowP (row_belowP T2.out.2 B4.out) B5.out) b6
          have r3 : Hid (w6.ownsRow w3.heap.size 5 1 (.slice a3 L3.length c3) L3.length (enc L3)) := row_belowP (row_belowP T3.out.2.2 B5.out) b6
          have r4 : Hid (w6.ownsRow w4.heap.size 2 1 v4 n4 xs4) := row_belowP T4.out.2 b6
          have i1 : Hid (∀ q, (Value.slice a1 L1.length c1).ownBlock = some q → wr.heap.size ≤ q ∧ q < w2.heap.size) := fun q e => World.ownsRow.lt T1.out.2.2 q e
          have i2 : Hid (∀ q, v2.ownBlock = some q → w2.heap.size ≤ q ∧ q < w3.heap.size) := fun q e => World.ownsRow.lt T2.out.2 q e
          have i3 : Hid (∀ q, (Value.slice a3 L3.length c3).ownBlock = some q → w3.heap.size ≤ q ∧ q < w4.heap.size) := fun q e => World.ownsRow.lt T3.out.2.2 q e
          have i4 : Hid (∀ q, v4.ownBlock = some q → w4.heap.size ≤ q ∧ q < w5.heap.size) := fun q e => World.ownsRow.lt T4.out.2 q e
          have i5 : Hid (∀ q, v5.ownBlock = some q → w5.heap.size ≤ q ∧ q < w6.heap.size) := fun q e => q5.bound e
          have bb6 : Hid (Mb.BB w.heap.size w1.heap.size wr.heap.size w6.heap.size (3 * i) i i w6) := hL.out.bb.later BW.out
          have el : ∀ L : List Nat, (enc L).length = L.length := fun L => by simp [enc]
          have D1 : Hid _ := bb6.out.take0 (to0 r1.out) (by rw [el]; exact T1.out.2.1) i1.out ⟨Z.out.1, by have := Z.out; omega⟩ (by omega)
          clear C5 hn5 o5 b6 q5 ql5 B3 B4 B5 B6 U3 U4 U5
          go_wp2_with fail
          refine Calls.mono D1.out ?_
          rintro e w7 ⟨rfl, bb7, k7⟩
          have K7 : Hid _ := k7
          have D2 : Hid _ := bb7.take0 (to0 (KP.row k7 r2.out (fun q e => by have := i2.out q e; have := Z.out; omega))) (by rw [el]; exact T2.out.1) i2.out ⟨Z.out.2.1, by have := Z.out; omega⟩ (by omega)
          clear D1 bb7 k7 bb6
          go_wp2_with fail
          refine Calls.mono D2.out ?_
          rintro e w8 ⟨rfl, bb8, k8⟩
          have K8 : Hid _ := KP.up K7.out k8 Z.out.2.1 rfl
          have D3 : Hid _ := bb8.take0 (to0 (KP.row K8.out r3.out (fun q e => by have := i3.out q e; have := Z.out; omega))) (by rw [el]; exact T3.out.2.1) i3.out ⟨Z.out.2.2.1, by have := Z.out; omega⟩ (by omega)
          clear D2 bb8 k8
          go_wp2_with fail
          refine Calls.mono D3.out ?_
          rintro e w9 ⟨rfl, bb9, k9⟩
          have K9 : Hid _ := KP.up K8.out k9 Z.out.2.2.1 rfl
          have D4 : Hid _ := bb9.take3 (to3 (KP.row K9.out r4.out (fun q e => by have := i4.out q e; have := Z.out; omega))).1 (by have := (to3 r4.out).2; have := T4.out.1; omega) i4.out ⟨Z.out.2.2.2.1, by have := Z.out; omega⟩ (by omega)
          clear D3 bb9 k9
          go_wp2_with fail
          refine Calls.mono D4.out ?_
          rintro e w10 ⟨rfl, bb10, k10⟩
          have K10 : Hid _ := KP.up K9.out k10 Z.out.2.2.2.1 rfl
          have D5 : Hid _ := bb10.take7 (a' := w6.heap.size) (l := l5) (show Bk7.OE w10 w5.heap.size v5 l5 from KP.row K10.out T5.out.2 (fun q e => by have := i5.out q e; omega)) (by have := T5.out.1; omega) i5.out ⟨Z.out.2.2.2.2, Nat.le_refl _⟩ (by omega)
          clear D4 bb10 k10
          go_wp2_with fail
          refine Calls.mono D5.out ?_
          rintro e w11 ⟨rfl, bb11, k11⟩
          have K11 := KP.up K10.out k11 Z.out.2.2.2.2 rfl
          have LN : Hid (LB w1 w.heap.size (i + 1) w11) := by
            have sz := hL.out.sz
            have b6s := BW.out.size
            refine ⟨bb11.later (Below.refl _ _), by have := K11.size; omega, fun q q1 q2 => ?_, ?_⟩
            · rw [K11.low q q1 q2, BW.out.block q (by omega)]; exact hL.out.kp q q1 q2
            · exact ⟨K11.same.1.trans (BW.out.os.trans hL.out.same.1), K11.same.2.1.trans (BW.out.tape.trans hL.out.same.2.1), K11.same.2.2.trans (BW.out.output.trans hL.out.same.2.2)⟩
          clear D5 bb11 k11 K11 K7 K8 K9 K10 r1 r2 r3 r4 i1 i2 i3 i4 i5 T1 T2 T3 T4 T5 B2 BW Z hL
          go_wp2_with fail
          exact ⟨⟨i + 1, by omega, by first | rfl | go_num, LN⟩, by first | (simp [intOf]; done) | (simp [intOf]; omega)⟩
        · have iI : ¬ (i : Int) < 2 := by omega
          have CL : Hid _ := live_block wr (hCT.out wr bwr.out) (gz.out wr bwr.out)
          have CA : Hid (∀ w2, Below wr.heap.size wr w2 → Calls Tryd.prog 13 #[.pointer (some ⟨w.heap.size, 0, none⟩)] w2 fun e w' => e = .returned (.bool true) ∧ Hid (Below w.heap.size w w')) := fun w2 b2 => ((hL.out.bb.later b2).alone ⟨by omega, by omega, by omega⟩ (Nat.le_refl _)).mono fun e w' ⟨e1, b3⟩ => ⟨e1, (below_more bwr.out b2).trans b3⟩
          clear hL hi2
          go_wp2_with fail
          refine Calls.mono CL.out ?_
          rintro e w2 ⟨rfl, b2⟩
          have CA2 : Hid _ := CA.out w2 b2
          clear CL CA b2
          go_wp2_with fail
          refine Calls.mono CA2.out ?_
          rintro e w3 ⟨rfl, F3⟩
          clear CA2
          go_wp2_with fail
          go_ret
          exact ⟨rfl, F3.out⟩
end Go.Proofs.YtfijagdbdbbbpaaDoor
