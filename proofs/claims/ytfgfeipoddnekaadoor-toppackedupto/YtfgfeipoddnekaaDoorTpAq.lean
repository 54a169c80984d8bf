
import Derived.Test.YtfgfeipoddnekaaDoorBuV
import Derived.Test.YtfgfeipoddnekaaDoorUwHpq
import Derived.Test.YtfgfeipoddnekaaDoorBsE
namespace Go.Proofs.YtfgfeipoddnekaaDoor
open Go.RowKit
set_option linter.unusedVariables false
set_option linter.unusedSimpArgs false
/-- samples of a list, by their numbers. -/
def rT (R : List Ser.Smp) (i : Nat) : Int := (Ser.nthS R i).t
def rK (R : List Ser.Smp) (i : Nat) : Nat := (Ser.nthS R i).k
def rX (R : List Ser.Smp) (i : Nat) : Int := (Ser.nthS R i).x
theorem nth_ok {R : List Ser.Smp} (h : ∀ s ∈ R, s.ok) (i : Nat) : (Ser.nthS R i).ok := by
  rcases Nat.lt_or_ge i R.length with h1 | h1
  · exact h _ (List.mem_of_getElem? (Ser.nthS_some h1))
  · have e : Ser.nthS R i = ⟨0, 0, 0⟩ := by unfold Ser.nthS; rw [List.getD_eq_getElem?_getD, List.getElem?_eq_none h1]; rfl
    rw [e]; unfold Ser.Smp.ok; simp
theorem lin_sin {w : World} {a : Option Addr} {R : List Ser.Smp} (h : Ser.LIn w a R) (hn : R.length ≤ 1048576) : SIn w a R.length (rT R) (rK R) (rX R) := by
  refine ⟨by omega, fun i => ⟨(nth_ok h.1 i).2.1, (nth_ok h.1 i).2.2⟩, fun i => (nth_ok h.1 i).1, ?_⟩
  rcases h.2 with e | ⟨b, off, e, hb, hc⟩
  · left; rw [e]; rfl
  · exact Or.inr ⟨b, off, e, hb, fun i hi => hc i _ (Ser.nthS_some hi)⟩
theorem rise_rises {R : List Ser.Smp} (h : Ser.Rise R) : Rises (rT R) R.length := fun i h1 h2 => h.lt (by omega : i - 1 < i) (Ser.nthS_some (by omega)) (Ser.nthS_some h2)
theorem pack_six : (packS (fun _ => 5) (fun _ => 0) (fun _ => 0) 1).1.length = 6 := by
  first | rfl | decide | kernel_rfl | (simp [packS, rawOn, valsS, timesS]; done)
theorem allV_succ (kk : Nat → Nat) (xx : Nat → Int) (k : Nat) : AllV kk xx (k + 1) ↔ AllV kk xx k ∧ isV (kk k) (xx k) := by
  constructor
  · intro h; exact ⟨fun i hi => h i (by omega), h k (by omega)⟩
  · rintro ⟨h1, h2⟩ i hi
    rcases Nat.lt_or_ge i k with h | h
    · exact h1 i h
    · have : i = k := by omega
      rw [this]; exact h2
/-- whether an odd value was seen. -/
def oddB (kk : Nat → Nat) (xx : Nat → Int) : Nat → Bool
  | 0 => false
  | k + 1 => oddB kk xx k || (decide (2 < kk k) || (decide (kk k ≠ 0) && decide (xx k ≠ 0)))
theorem oddB_iff (kk : Nat → Nat) (xx : Nat → Int) : ∀ k, oddB kk xx k = false ↔ AllV kk xx k
  | 0 => by simp [oddB, AllV]
  | k + 1 => by
    rw [allV_succ, ← oddB_iff kk xx k]
    show (oddB kk xx k || (decide (2 < kk k) || (decide (kk k ≠ 0) && decide (xx k ≠ 0)))) = false ↔ oddB kk xx k = false ∧ (kk k ≤ 2 ∧ (kk k = 0 ∨ xx k = 0))
    rw [Bool.or_eq_false_iff, Bool.or_eq_false_iff, Bool.and_eq_false_iff, decide_eq_false_iff_not, decide_eq_false_iff_not, decide_eq_false_iff_not, Nat.not_lt, Decidable.not_not, Decidable.not_not]
set_option maxRecDepth 100000 in
set_option maxHeartbeats 4000000 in
theorem topPacked_walk (a : Option Addr) (cap : Nat) (l : List Ser.Smp) (w : World) (h : Ser.LIn w a l) (hn : l.length ≤ 1048576) (hct : CT w) (hg : 0 < w.heap.size) : Calls Tryd.prog 3 #[.slice a l.length cap] w fun e w' => e = .returned (.bool true) ∧ Below w.heap.size w w' := by
  have hI : Hid (Ser.LIn w a l) := h
  have hctH : Hid (CT w) := hct
  clear h hct
  go_enter Tryd.func3, Tryd.ntmps3
  go_wp2_with fail
  refine Calls.mono (Ser.new_any w) ?_
  rintro e w1 ⟨rfl, hS1, hB1⟩
  have hld : Hid _ := Ser.load_any w.heap.size w.heap.size (.slice none 0 0) [] l a cap w1 hS1 (hI.out.below hB1 (Nat.le_refl _)) (by simp; omega)
  go_wp2_with fail
  refine Calls.mono hld.out ?_
  rintro e w2 ⟨dv, v1, K, rfl, hKr, hKm, hS2, hF2, hD2, hne, hKn⟩
  rw [Ser.loadL_nil _ hKr] at hS2
  have hB2 : Below w.heap.size w w2 := hB1.trans (hF2.below hS1)
  obtain ⟨X, hX⟩ : ∃ X, X = Ser.smpL (fun t => (Ser.valOf l t).getD (0, 0)) K := ⟨_, rfl⟩
  have hXn : X.length ≤ 1048576 := by rw [hX]; simp [Ser.smpL]; omega
  rw [← hX] at hS2
  have hXr : Hid (Ser.Rise X) := hS2.hr
  have hrg : Hid _ := Ser.range_lin w.heap.size w.heap.size v1 X w2 hS2 (-9223372036854775808) 9223372036854775807
  clear hld hS1 hB1 hKr hKm hS2 hF2 hD2 hne hX
  go_wp2_with fail
  refine Calls.mono hrg.out ?_
  rintro e w3 ⟨ra, rc, rfl, hL3, hb3⟩
  have hRl := Ser.rangeL_len X (-9223372036854775808) 9223372036854775807
  have hRr := Ser.rangeL_rise hXr.out (-9223372036854775808) 9223372036854775807
  obtain ⟨R, hR⟩ : ∃ R, R = Ser.rangeL X (-9223372036854775808) 9223372036854775807 := ⟨_, rfl⟩
  rw [← hR] at hL3 hRl hRr ⊢
  have hB3 : Below w.heap.size w w3 := hB2.trans (hb3.mono hB2.size)
  have hrs : Hid (Rises (rT R) R.length) := rise_rises hRr
  have hsin : Hid (SIn w3 ra R.length (rT R) (rK R) (rX R)) := lin_sin hL3 (by omega)
  have hlinH : Hid (Ser.LIn w3 ra R) := hL3
  have hPk : Hid _ := pack_any ra R.length rc (rT R) (rK R) (rX R) w3 hsin.out (by omega) (CT_below hctH.out hB3 hg) (by have := hB3.size; omega)
  obtain ⟨n, hn'⟩ : ∃ n, n = R.length := ⟨_, rfl⟩
  have hnH : Hid (n = R.length) := hn'
  have hnl : n ≤ 1048576 := by omega
  rw [← hn'] at hsin hPk hrs ⊢
  clear hrg hR hRl hRr hL3 hb3 hB2 hn' hXn hXr
  go_wp2_with fail
  refine Calls.mono hPk.out ?_
  rintro e w4 ⟨hE, hb4⟩
  have hB4 : Below w.heap.size w w4 := hB3.trans (hb4.mono hB3.size)
  clear hPk
  rcases hE with ⟨hnr, rfl⟩ | ⟨hnr, ta, tc, rfl, hin⟩
  · have hbad : Hid (¬ AllV (rK R) (rX R) n) := fun e => hnr ⟨hrs.out, e⟩
    have hlin4 : Hid (Ser.LIn w4 ra R) := hlinH.out.below hb4 (Nat.le_refl _)
    clear hnr hb4
    have hn0 : decide ((1048576 : Int) < (n : Int)) = false := decide_eq_false (by omega)
    go_wp2_with fail
    go_loopw [7, 8] (fun b i wr => ∃ k : Nat, k ≤ n ∧ i = .int .i64 (k : Int) ∧ b = .bool (oddB (rK R) (rX R) k) ∧ Below w4.heap.size w4 wr) (fun _ i _ => n - (intOf i).toNat)
    case atStart => exact ⟨0, by omega, rfl, by simp [oddB], Below.refl _ _⟩
    case round =>
      obtain ⟨k, hk, rfl, rfl, hBr⟩ := hrel
      clear hn0
      by_cases hkn : k < n
      · have hkI : (k : Int) < (n : Int) := by omega
        have k1 : (0 : Int) ≤ (k : Int) := by omega
        obtain ⟨b, off, s, rfl, hb, hs, d1, d2, d3⟩ := Ser.LIn.at hlin4.out hBr (by have := hnH.out; omega : k < R.length)
        have es : Ser.nthS R k = s := by have := Ser.nthS_some (X := R) (k := k) (by have := hnH.out; omega); rw [hs] at this; exact (Option.some.inj this).symm
        have eK : rK R k = s.k := by unfold rK; rw [es]
        have eX : rX R k = s.x := by unfold rX; rw [es]
        have hBa : Below w4.heap.size w4 (wr.alloc (.cells #[.int .u8 (s.k : Int), .int .i64 s.x] 35)) := hBr.alloc hBr.size _
        have hBg : ∀ o, Below w4.heap.size w4 (wr.alloc o) := fun o => hBr.alloc hBr.size o
        have v0 : (wr.alloc (.cells #[.int .u8 (s.k : Int), .int .i64 s.x] 35)).cell? ⟨wr.heap.size, 0, none⟩ = some (.int .u8 (s.k : Int)) := by simp [go_sem]
        have v1 : (wr.alloc (.cells #[.int .u8 (s.k : Int), .int .i64 s.x] 35)).cell? ⟨wr.heap.size, 1, none⟩ = some (.int .i64 s.x) := by simp [go_sem]
        clear hs es d1
        have eKX : Hid (rK R k = s.k ∧ rX R k = s.x) := ⟨eK, eX⟩
        have hodd : Hid (oddB (rK R) (rX R) (k + 1) = (oddB (rK R) (rX R) k || (decide (2 < s.k) || (decide (s.k ≠ 0) && decide (s.x ≠ 0))))) := by
          show oddB (rK R) (rX R) (k + 1) = _
          rw [← eK, ← eX]; rfl
        clear eK eX
        cases hob : oddB (rK R) (rX R) k with
        | true =>
          have hod2 : Hid (oddB (rK R) (rX R) (k + 1) = true) := by show _ = _; rw [hodd.out, hob]; rfl
          clear hodd
          go_wp2_with fail
          try (go_quiet (fail); go_wp2_with fail)
          first
            | exact ⟨⟨k + 1, by omega, by go_num, by first | (rw [hod2.out]; done) | (rw [hod2.out]; simp; omega) | (rw [hod2.out]; simp [h3I, h4]; done), hBg _⟩, by simp [intOf]; omega⟩
            | exact ⟨⟨k + 1, by omega, by go_num, by first | (rw [hod2.out]; done) | (rw [hod2.out]; simp; omega) | (rw [hod2.out]; simp [h3I, h4]; done), below_drewN (hBg _) _⟩, by simp [intOf]; omega⟩
        | false =>
          by_cases h2 : 2 < s.k
          · have h2I : (2 : Int) < (s.k : Int) := by omega
            have hod2 : Hid (oddB (rK R) (rX R) (k + 1) = true) := by show _ = _; rw [hodd.out, hob]; first | (simp; omega) | (simp [h2]; done) | (simp; done)
            clear hodd
            go_wp2_with fail
            try (go_quiet (fail); go_wp2_with fail)
            first
              | exact ⟨⟨k + 1, by omega, by go_num, by first | (rw [hod2.out]; done) | (rw [hod2.out]; simp; omega) | (rw [hod2.out]; simp [h3I, h4]; done), hBg _⟩, by simp [intOf]; omega⟩
              | exact ⟨⟨k + 1, by omega, by go_num, by first | (rw [hod2.out]; done) | (rw [hod2.out]; simp; omega) | (rw [hod2.out]; simp [h3I, h4]; done), below_drewN (hBg _) _⟩, by simp [intOf]; omega⟩
          · have h2I : ¬ (2 : Int) < (s.k : Int) := by omega
            by_cases h3 : s.k = 0
            · have h3I : (s.k : Int) = 0 := by omega
              have hod2 : Hid (oddB (rK R) (rX R) (k + 1) = false) := by show _ = _; rw [hodd.out, hob]; first | (simp; omega) | (simp [h2]; done) | (simp; done)
              clear hodd
              go_wp2_with fail
              try (go_quiet (fail); go_wp2_with fail)
              first
                | exact ⟨⟨k + 1, by omega, by go_num, by first | (rw [hod2.out]; done) | (rw [hod2.out]; simp; omega) | (rw [hod2.out]; simp [h3I, h4]; done), hBg _⟩, by simp [intOf]; omega⟩
                | exact ⟨⟨k + 1, by omega, by go_num, by first | (rw [hod2.out]; done) | (rw [hod2.out]; simp; omega) | (rw [hod2.out]; simp [h3I, h4]; done), below_drewN (hBg _) _⟩, by simp [intOf]; omega⟩
            · have h3I : ¬ (s.k : Int) = 0 := by omega
              by_cases h4 : s.x = 0
              · have hod2 : Hid (oddB (rK R) (rX R) (k + 1) = false) := by show _ = _; rw [hodd.out, hob]; first | (simp; omega) | (simp [h2]; done) | (simp; done)
                clear hodd
                go_wp2_with fail
                try (go_quiet (fail); go_wp2_with fail)
                first
                  | exact ⟨⟨k + 1, by omega, by go_num, by first | (rw [hod2.out]; done) | (rw [hod2.out]; simp; omega) | (rw [hod2.out]; simp [h3I, h4]; done), hBg _⟩, by simp [intOf]; omega⟩
                  | exact ⟨⟨k + 1, by omega, by go_num, by first | (rw [hod2.out]; done) | (rw [hod2.out]; simp; omega) | (rw [hod2.out]; simp [h3I, h4]; done), below_drewN (hBg _) _⟩, by simp [intOf]; omega⟩
              · have hod2 : Hid (oddB (rK R) (rX R) (k + 1) = true) := by show _ = _; rw [hodd.out, hob]; first | (simp; omega) | (simp [h2]; done) | (simp; done)
                clear hodd
                go_wp2_with fail
                try (go_quiet (fail); go_wp2_with fail)
                first
                  | exact ⟨⟨k + 1, by omega, by go_num, by first | (rw [hod2.out]; done) | (rw [hod2.out]; simp; omega) | (rw [hod2.out]; simp [h3I, h4]; done), hBg _⟩, by simp [intOf]; omega⟩
                  | exact ⟨⟨k + 1, by omega, by go_num, by first | (rw [hod2.out]; done) | (rw [hod2.out]; simp; omega) | (rw [hod2.out]; simp [h3I, h4]; done), below_drewN (hBg _) _⟩, by simp [intOf]; omega⟩
      · obtain rfl : k = n := by omega
        have hT : oddB (rK R) (rX R) k = true := by
          cases e : oddB (rK R) (rX R) k with
          | true => rfl
          | false => exact absurd ((oddB_iff (rK R) (rX R) k).1 e) hbad.out
        rw [hT]
        go_wp2_with fail
        go_ret
        exact ⟨rfl, hB4.trans (hBr.mono hB4.size)⟩
  · obtain ⟨_, hz, hz', _⟩ := hsin.out
    obtain ⟨hG, htL, hvL⟩ := pack_back (rT R) (rK R) (rX R) n hnl hz hz' hnr.1 hnr.2
    have hpos : 0 < (packS (rT R) (rK R) (rX R) n).1.length := by
      have := uB_pos (timesS (rT R) n n).1.length
      unfold packS rawOn
      simp only [List.length_append]
      omega
    obtain ⟨P, hPd⟩ : ∃ P, P = (packS (rT R) (rK R) (rX R) n).1 := ⟨_, rfl⟩
    rw [← hPd] at hin hG htL hvL hpos ⊢
    have hta : ta = none → tc = 0 := by
      intro e
      rcases hin.2 with h0 | ⟨b, off, e', _⟩
      · omega
      · rw [e] at e'; cases e'
    have hU : Hid _ := unpack_any ta tc P w4 hin hta (CT_below hctH.out hB4 hg) (by have := hB4.size; omega)
    have hHd : Hid (∀ W, Below w4.heap.size w4 W → Calls Tryd.prog 9 #[.slice ta P.length tc] W fun e w' => HeadE (natsOf P) P.length e ∧ Below W.heap.size W w') := fun W hb => head_any ta tc P W (hin.below hb) hta (CT_below hctH.out (hB4.trans (hb.mono hB4.size)) hg) (by have := hB4.size; have := hb.size; omega)
    have hGH : Hid _ := hG
    have htH : Hid _ := htL
    have hvH : Hid _ := hvL
    have hzH : Hid _ := hz
    have hz'H : Hid _ := hz'
    have hlin4 : Hid (Ser.LIn w4 ra R) := hlinH.out.below hb4 (Nat.le_refl _)
    clear hnr hin hG htL hvL hPd hpos hta hz hz' hb4
    go_wp2_with fail
    refine Calls.mono hU.out ?_
    rintro e w5 ⟨hE, hb5⟩
    have hB5 : Below w.heap.size w w5 := hB4.trans (hb5.mono hB4.size)
    clear hU
    rcases hE with ⟨x, hx, _⟩ | ⟨hx, _⟩ | ⟨_, ma, mc, rfl, hS⟩
    · exact absurd hx (UPg.notf2 hGH.out)
    · exact absurd hx (UPg.notb2 hGH.out)
    · rw [htH.out, hvH.out] at hS
      rw [htH.out]
      have hl : ((List.range n).map (rT R)).length = n := by simp
      rw [hl] at hS ⊢
      have hS' : Hid _ := hS.congr (tt' := rT R) (kk' := rK R) (xx' := rX R) (fun i hi => ⟨ttL_map (rT R) n i hi, kkL_map (rK R) (rX R) n i hi⟩) hzH.out hz'H.out
      have hH5 : Hid _ := hHd.out w5 hb5
      have hlin5 : Hid (Ser.LIn w5 ra R) := hlin4.out.below hb5 (Nat.le_refl _)
      clear hS hHd hlin4 hb5
      go_wp2_with fail
      refine Calls.mono hH5.out ?_
      rintro e w6 ⟨hE, hb6⟩
      have hB6 : Below w.heap.size w w6 := hB5.trans (hb6.mono hB5.size)
      have hlin6 : Hid (Ser.LIn w6 ra R) := hlin5.out.below hb6 (Nat.le_refl _)
      have hS6 : Hid (SIn w6 ma n (rT R) (rK R) (rX R)) := SIn.below hS'.out hb6 (Nat.le_refl _)
      clear hH5 hlin5 hS' hb6
      rcases hE with ⟨x, hx, _⟩ | ⟨hx, _⟩ | ⟨_, hE⟩
      · exact absurd hx (UPg.notf2 hGH.out)
      · exact absurd hx (UPg.notb2 hGH.out)
      · have hfin : Hid (∀ W, Below w6.heap.size w6 W → Calls Tryd.prog 7 #[.slice (some ⟨W.heap.size, 0, none⟩) 1 1] (W.alloc (.cells #[.int .i64 5, .int .u8 0, .int .i64 0] 37)) fun e w' => (∃ a c, e = .returned (.tuple #[.slice a 6 c, .nilIface])) ∧ Below w.heap.size w w') := by
          intro W hb
          have hBW : Below w.heap.size w (W.alloc (.cells #[.int .i64 5, .int .u8 0, .int .i64 0] 37)) := by
            have := hB6.trans (hb.mono hB6.size)
            exact this.alloc this.size _
          have hsn : SIn (W.alloc (.cells #[.int .i64 5, .int .u8 0, .int .i64 0] 37)) (some ⟨W.heap.size, 0, none⟩) 1 (fun _ => 5) (fun _ => 0) (fun _ => 0) := by
            refine ⟨by omega, fun i => ⟨by show (0 : Nat) < 256; omega, by show (-9223372036854775808 : Int) ≤ 0; omega, by show (0 : Int) ≤ 9223372036854775807; omega⟩, fun i => ⟨by show (-9223372036854775808 : Int) ≤ 5; omega, by show (5 : Int) ≤ 9223372036854775807; omega⟩, Or.inr ⟨W.heap.size, 0, rfl, by simp, fun i hi => ?_⟩⟩
            obtain rfl : i = 0 := by omega
            exact ⟨by simp [go_sem], by simp [go_sem], by simp [go_sem]⟩
          refine Calls.mono (pack_any _ 1 1 (fun _ => 5) (fun _ => 0) (fun _ => 0) _ hsn (by omega) (CT_below hctH.out hBW hg) (by have := hBW.size; omega)) ?_
          rintro e w' ⟨hE, hb'⟩
          refine ⟨?_, hBW.trans (hb'.mono hBW.size)⟩
          rcases hE with ⟨hnr, _⟩ | ⟨_, a, c, rfl, _⟩
          · exact absurd ⟨fun i h1 h2 => by omega, fun i hi => ⟨by show (0 : Nat) ≤ 2; omega, Or.inl rfl⟩⟩ hnr
          · rw [pack_six]; exact ⟨a, c, rfl⟩
        rw [htH.out] at hE
        rw [hl] at hE
        obtain ⟨x0, y0, rfl, hxy⟩ : ∃ x0 y0, e = .returned (.tuple #[.int .i64 (n : Int), .int .i64 x0, .int .i64 y0, .nilIface]) ∧ (0 < n → x0 = rT R 0 ∧ y0 = rT R (n - 1)) := by
          rcases hE with ⟨h0, rfl⟩ | ⟨h0, rfl⟩
          · exact ⟨0, 0, by rw [h0]; rfl, fun h => by omega⟩
          · refine ⟨_, _, rfl, fun _ => ?_⟩
            exact ⟨ttL_map (rT R) n 0 h0, ttL_map (rT R) n (n - 1) (by omega)⟩
        have hxyH : Hid (0 < n → x0 = rT R 0 ∧ y0 = rT R (n - 1)) := hxy
        clear hE htH hvH hGH hzH hz'H hl hxy hB3 hB4 hB5
        go_wp2_with fail
        go_loopw [15] (fun i wr => ∃ k : Nat, k ≤ n ∧ i = .int .i64 (k : Int) ∧ Below w6.heap.size w6 wr) (fun i _ => n - (intOf i).toNat)
        case atStart => exact ⟨0, by omega, rfl, Below.refl _ _⟩
        case round =>
          obtain ⟨k, hk, rfl, hBr⟩ := hrel
          by_cases hkn : k < n
          · have hkI : (k : Int) < (n : Int) := by omega
            have k1 : (0 : Int) ≤ (k : Int) := by omega
            have n0 : (0 : Int) < (n : Int) := by omega
            obtain ⟨hx1, hy1⟩ := hxyH.out (by omega)
            obtain ⟨_, _, _, hmc⟩ := SIn.below hS6.out hBr (Nat.le_refl _)
            obtain ⟨mb, moff, rfl, hmb, hmcell⟩ : ∃ b off, ma = some ⟨b, off, none⟩ ∧ b < wr.heap.size ∧ ∀ i, i < n → wr.cell? ⟨b, off + i * 3, none⟩ = some (.int .i64 (rT R i)) ∧ wr.cell? ⟨b, off + i * 3 + 1, none⟩ = some (.int .u8 (rK R i : Int)) ∧ wr.cell? ⟨b, off + i * 3 + 2, none⟩ = some (.int .i64 (rX R i)) := by
              rcases hmc with h0 | h1
              · omega
              · exact h1
            obtain ⟨e1, e2, e3⟩ := hmcell k hkn
            obtain ⟨b, off, s, rfl, hb, hs, d1, d2, d3⟩ := Ser.LIn.at hlin6.out hBr (by have := hnH.out; omega : k < R.length)
            obtain ⟨b', off', s0, e0', _, hs0, f1, _, _⟩ := Ser.LIn.at hlin6.out hBr (by have := hnH.out; omega : 0 < R.length)
            obtain ⟨b'', off'', s9, e9', _, hs9, g1, _, _⟩ := Ser.LIn.at hlin6.out hBr (by have := hnH.out; omega : n - 1 < R.length)
            cases e0'
            cases e9'
            have es : Ser.nthS R k = s := by have := Ser.nthS_some (X := R) (k := k) (by have := hnH.out; omega); rw [hs] at this; exact (Option.some.inj this).symm
            have es0 : Ser.nthS R 0 = s0 := by have := Ser.nthS_some (X := R) (k := 0) (by have := hnH.out; omega); rw [hs0] at this; exact (Option.some.inj this).symm
            have es9 : Ser.nthS R (n - 1) = s9 := by have := Ser.nthS_some (X := R) (k := n - 1) (by have := hnH.out; omega); rw [hs9] at this; exact (Option.some.inj this).symm
            have t1 : rT R k = s.t := by unfold rT; rw [es]
            have t2 : rK R k = s.k := by unfold rK; rw [es]
            have t3 : rX R k = s.x := by unfold rX; rw [es]
            have t4 : rT R 0 = s0.t := by unfold rT; rw [es0]
            have t5 : rT R (n - 1) = s9.t := by unfold rT; rw [es9]
            rw [t1] at e1
            rw [t2] at e2
            rw [t3] at e3
            rw [t4] at hx1
            rw [t5] at hy1
            rw [← hx1] at f1
            rw [← hy1] at g1
            rw [Nat.zero_mul, Nat.add_zero] at f1
            have hBd : ∀ q, Below w6.heap.size w6 (wr.drewN q) := fun q => below_drewN hBr q
            clear t1 t2 t3 t4 t5 es es0 es9 hs hs0 hs9 hx1 hy1 hmcell hmc
            obtain ⟨n1, hn1⟩ : ∃ n1, n1 = n - 1 := ⟨_, rfl⟩
            rw [← hn1] at g1
            have hn1I : (n : Int) - 1 = (n1 : Int) := by omega
            have hn1b : (n1 : Int) < (n : Int) := by omega
            have hn1c : (0 : Int) ≤ (n1 : Int) := by omega
            clear hn1
            go_wp2_with fail
            go_quiet (fail)
            go_wp2_with fail
            first
              | exact ⟨⟨k + 1, by omega, by go_num, hBd _⟩, by simp [intOf]; omega⟩
              | exact ⟨⟨k + 1, by omega, by go_num, hBr⟩, by simp [intOf]; omega⟩
          · obtain rfl : k = n := by omega
            go_wp2_with fail
            refine Calls.mono (hfin.out _ hBr) ?_
            rintro e w9 ⟨⟨ca, cc, rfl⟩, hB9⟩
            go_wp2_with fail
            go_ret
            exact ⟨rfl, hB9⟩
end Go.Proofs.YtfgfeipoddnekaaDoor
