
import Derived.Test.YtpkoakafkfaehaaDoorBuV
import Derived.Test.YtpkoakafkfaehaaDoorBuN
import Derived.Test.YtpkoakafkfaehaaDoorBuM
namespace Go.Proofs.YtpkoakafkfaehaaDoor
open Go.RowKit
set_option linter.unusedVariables false
set_option linter.unusedSimpArgs false
theorem bytesC (N : Nat) (w1 : World) (fr : Int) (v : Value) (l : List Nat) (w : World) (h : WS N w1 fr v l.length (enc l) w) (hl : ∀ y ∈ l, y < 256) (hb : l.length ≤ 140737488355327) (h0 : 0 < l.length) :
    Calls Tryd.prog 17 #[.pointer (some ⟨N, 0, none⟩)] w fun e w' => ∃ g c, e = .returned (.slice (some ⟨g, 0, none⟩) l.length c) ∧ l.length ≤ c ∧ BytesIn w' (some ⟨g, 0, none⟩) l.length (natsOf l) ∧ Below w.heap.size w w' := by
  refine (bytes_any N w1 fr v l.length (enc l) w h (enc_one l) h0 (by omega)).mono ?_
  rintro e w' ⟨g', cap', rfl, ho, hB⟩
  have hc : l.length ≤ cap' := by
    rcases ho.2 with ⟨hq, _⟩ | ⟨g1, cap1, cur, hq, _, _, hnc, _⟩
    · cases hq
    · cases hq; exact hnc
  exact ⟨g', cap', rfl, hc, ⟨hb, Or.inr ⟨g', 0, rfl, (ho.lt g' rfl).2, bytes_own ho hl⟩⟩, hB⟩
def PackC (tt : Nat → Int) (kk : Nat → Nat) (xx : Nat → Int) (n : Nat) (e : Ending) (w' : World) : Prop :=
  (¬ (Rises tt n ∧ AllV kk xx n) ∧ e = .returned (.tuple #[.slice none 0 0, .iface 90 (.int .i64 2)])) ∨
  ((Rises tt n ∧ AllV kk xx n) ∧ ∃ g c, e = .returned (.tuple #[.slice (some ⟨g, 0, none⟩) (packS tt kk xx n).1.length c, .nilIface]) ∧ (packS tt kk xx n).1.length ≤ c ∧ BytesIn w' (some ⟨g, 0, none⟩) (packS tt kk xx n).1.length (natsOf (packS tt kk xx n).1))
set_option maxRecDepth 100000 in
set_option maxHeartbeats 4000000 in
theorem pack_cap (a : Option Addr) (n cap : Nat) (tt : Nat → Int) (kk : Nat → Nat) (xx : Nat → Int) (w : World) (h : SIn w a n tt kk xx) (hs : n ≤ 1048576) (hct : CT w) (hg : 0 < w.heap.size) : Calls Tryd.prog 5 #[.slice a n cap] w fun e w' => PackC tt kk xx n e w' ∧ Below w.heap.size w w' := by
  have hSp : Hid _ := split_any a n cap tt kk xx w h hs
  have hctH : Hid (CT w) := hct
  clear h hct
  go_enter Tryd.func5, Tryd.ntmps5
  go_wp2_with fail
  refine Calls.mono hSp.out ?_
  rintro e w2 ⟨g, h, rfl, hI, hV, hB2⟩
  have hT : Hid _ := times_any (some ⟨g, 0, none⟩) n n tt w2 hI (CT_below hctH.out hB2 hg) (by have := hB2.size; omega)
  have hVH : Hid (VIn w2 (some ⟨h, 0, none⟩) n kk xx) := hV
  clear hSp hI hV
  go_wp2_with fail
  refine Calls.mono hT.out ?_
  rintro e w3 ⟨hE, hB3⟩
  have hB03 := below_then hB2 hB3
  have hVa : Hid _ := values_any (some ⟨h, 0, none⟩) n n kk xx w3 (hVH.out.below hB3 (Nat.le_refl _))
  clear hT hVH
  rcases hE with ⟨hx, _⟩ | ⟨_, hnr, rfl⟩ | ⟨_, hnr, ta, tc, rfl, hin3⟩
  · omega
  · have hnrH : Hid (¬ Rises tt n) := hnr
    clear hnr hVa hB3 hB2
    go_wp2_with fail
    simp [bodyPost, results, Tryd.results5, go_sem]
    exact ⟨Or.inl ⟨fun hx => hnrH.out hx.1, rfl⟩, hB03⟩
  · have hnrH : Hid (Rises tt n) := hnr
    have hl1 := timesS_len tt n n
    obtain ⟨sl, hsl⟩ : ∃ sl, sl = (timesS tt n n).1 := ⟨_, rfl⟩
    rw [← hsl] at hin3 hl1 ⊢
    have hslH : Hid (sl = (timesS tt n n).1) := hsl
    have hin3H : Hid (BytesIn w3 ta sl.length (natsOf sl)) := hin3
    clear hnr hin3 hsl hB2
    go_wp2_with fail
    refine Calls.mono hVa.out ?_
    rintro e w4 ⟨hE, hB4⟩
    have hB04 := below_then hB03 hB4
    clear hVa
    rcases hE with ⟨hx, _⟩ | ⟨_, hnv, rfl⟩ | ⟨_, hnv, va, vc, rfl, hin4⟩
    · omega
    · have hnvH : Hid (¬ AllV kk xx n) := hnv
      clear hnv hB3 hB4 hB03
      go_wp2_with fail
      simp [bodyPost, results, Tryd.results5, go_sem]
      exact ⟨Or.inl ⟨fun hx => hnvH.out hx.2, rfl⟩, hB04⟩
    · have hnvH : Hid (AllV kk xx n) := hnv
      have hl2 := valsS_len kk xx n n
      obtain ⟨vl, hvl⟩ : ∃ vl, vl = (valsS kk xx n n).s.1 := ⟨_, rfl⟩
      rw [← hvl] at hin4 hl2 ⊢
      have hP : Hid (packS tt kk xx n = rawOn vl (rawOn sl ([], 0))) := (by rw [hvl, hslH.out]; rfl : packS tt kk xx n = rawOn vl (rawOn sl ([], 0)))
      have hul := uB_len sl.length
      have hR1 : Hid _ := rw_raw (RW.start w4) rfl sl ta tc (hin3H.out.below hB4) (by simp; omega)
      have hR2 : Hid (∀ wx, RW w4.heap.size w4 (rawOn sl ([], 0)) wx → Calls Tryd.prog 16 #[.pointer (some ⟨w4.heap.size, 0, none⟩), .slice va vl.length vc] wx fun e w' => e = .returned undef ∧ RW w4.heap.size w4 (rawOn vl (rawOn sl ([], 0))) w') := fun wx hx => rw_raw hx rfl vl va vc hin4 (by simp [rawOn]; omega)
      have hlen : Hid ((rawOn vl (rawOn sl ([], 0))).1.length ≤ 140737488355327) := (by have hu1 := uB_len sl.length; have hu2 := uB_len vl.length; simp [rawOn]; omega : (rawOn vl (rawOn sl ([], 0))).1.length ≤ 140737488355327)
      clear hnv hB3 hB4 hB03 hin4 hvl hul hl1 hl2 hslH hin3H
      go_wp2_with fail
      refine Calls.mono hR1.out ?_
      rintro e w5 ⟨rfl, h5⟩
      have hR3 : Hid _ := hR2.out _ h5
      clear hR1 hR2 h5
      go_wp2_with fail
      refine Calls.mono hR3.out ?_
      rintro e w6 ⟨rfl, h6⟩
      have hb6 := h6.b
      obtain ⟨hCL, v, hWS⟩ := h6
      obtain ⟨S, hS⟩ : ∃ S, S = (rawOn vl (rawOn sl ([], 0))).1 := ⟨_, rfl⟩
      have hlen' := hlen.out
      have hBy : Hid _ := bytesC w4.heap.size w4 _ v S w6 (by rw [hS]; exact hWS) (by rw [hS]; exact hCL.2.1) (by rw [hS]; exact hlen') (by rw [hS]; have := uB_pos vl.length; simp only [rawOn, List.length_append]; omega)
      have hSH : Hid (S = (packS tt kk xx n).1) := (by rw [hS, hP.out] : S = (packS tt kk xx n).1)
      have hB06 : Below w.heap.size w w6 := below_then hB04 hb6
      clear hR3 hCL hWS hS hP hlen hlen' hb6
      go_wp2_with fail
      refine Calls.mono hBy.out ?_
      rintro e w7 ⟨ga, gc, rfl, hcp, hin, hB7⟩
      have hcpH : Hid _ := hcp
      clear hcp
      have hinH : Hid _ := hin
      clear hin hBy
      go_wp2_with fail
      simp [bodyPost, results, Tryd.results5, go_sem]
      refine ⟨Or.inr ⟨⟨hnrH.out, hnvH.out⟩, ga, gc, ?_, ?_, ?_⟩, below_then hB06 hB7⟩
      · rw [hSH.out]
      · rw [← hSH.out]; exact hcpH.out
      · rw [← hSH.out]; exact hinH.out
theorem packS_pos2 (tt : Nat → Int) (kk : Nat → Nat) (xx : Nat → Int) (n : Nat) : 0 < (packS tt kk xx n).1.length := by
  have := uB_pos (timesS tt n n).1.length
  unfold packS rawOn
  simp only [List.length_append]
  omega
/-- what is taken of a cut row: an error. -/
theorem unpack_cut (a : Option Addr) (c : Nat) (tt : Nat → Int) (kk : Nat → Nat) (xx : Nat → Int) (n m : Nat) (w : World) (hn : n ≤ 1048576) (hz' : ∀ i, -9223372036854775808 ≤ tt i ∧ tt i ≤ 9223372036854775807) (hm : m < (packS tt kk xx n).1.length) (hin : BytesIn w a (packS tt kk xx n).1.length (natsOf (packS tt kk xx n).1)) (ha : a = none → c = 0) (hct : CT w) (hg : 0 < w.heap.size) :
    Calls Tryd.prog 7 #[.slice a m c] w fun e w' => (∃ x1 x2, e = .returned (.tuple #[.slice none 0 0, .iface 204 (.agg #[.int .i64 x1, .iface 90 (.int .i64 x2)])])) ∧ Below w.heap.size w w' := by
  have hpD := pack_cut tt kk xx n hn hz' m hm
  have hl : ((packS tt kk xx n).1.take m).length = m := by simp; omega
  have hin' : BytesIn w a ((packS tt kk xx n).1.take m).length (natsOf ((packS tt kk xx n).1.take m)) := by
    rw [hl]
    refine ⟨by have := hin.1; omega, ?_⟩
    rcases hin.2 with h0 | ⟨b, off, e, hb, hB⟩
    · omega
    · refine Or.inr ⟨b, off, e, hb, fun i hi => ?_⟩
      have := hB i (by omega)
      rw [show natsOf ((packS tt kk xx n).1.take m) i = natsOf (packS tt kk xx n).1 i by unfold natsOf; simp [List.getD_eq_getElem?_getD, List.getElem?_take, hi]]
      exact this
  have hU := unpack_any a c ((packS tt kk xx n).1.take m) w hin' ha hct hg
  rw [hl] at hU hpD
  refine hU.mono ?_
  rintro e w' ⟨hE, hB⟩
  refine ⟨?_, hB⟩
  rcases hE with ⟨⟨x1, x2⟩, _, he⟩ | ⟨hb, _⟩ | ⟨hb, _⟩
  · exact ⟨x1, x2, he⟩
  · exact absurd hb.1 hpD
  · exact absurd hb.1 hpD
set_option maxRecDepth 100000 in
set_option maxHeartbeats 4000000 in
theorem blockCut_walk (a : Option Addr) (n cap : Nat) (tt : Nat → Int) (kk : Nat → Nat) (xx : Nat → Int) (z : Int) (hzr : -9223372036854775808 ≤ z ∧ z ≤ 9223372036854775807) (w : World) (h : SIn w a n tt kk xx) (hs : n ≤ 1048576) (hct : CT w) (hg : 0 < w.heap.size) : Calls Tryd.prog 3 #[.slice a n cap, .int .i64 z] w fun e w' => e = .returned (.bool true) ∧ Below w.heap.size w w' := by
  have hP : Hid _ := pack_cap a n cap tt kk xx w h hs hct hg
  have hz' : Hid _ := h.2.2.1
  have hctH : Hid (CT w) := hct
  clear h hct
  go_enter Tryd.func3, Tryd.ntmps3
  go_wp2_with fail
  refine Calls.mono hP.out ?_
  rintro e w2 ⟨hE, hB2⟩
  have hct2 := CT_below hctH.out hB2 hg
  have hg2 : 0 < w2.heap.size := by have := hB2.size; omega
  have hLi : Hid _ := live_block w2 hct2 hg2
  clear hP
  rcases hE with ⟨hnr, rfl⟩ | ⟨hnr, ga, gc, rfl, hcp, hin⟩
  · clear hct2 hnr hz'
    go_wp2_with fail
    refine Calls.mono hLi.out ?_
    rintro e w3 ⟨rfl, hB3⟩
    have hB03 := below_then hB2 hB3
    clear hLi hB3
    go_wp2_with fail
    go_ret
    exact ⟨rfl, hB03⟩
  · have hpos := packS_pos2 tt kk xx n
    have hcut : Hid (∀ m, m < (packS tt kk xx n).1.length → Calls Tryd.prog 7 #[.slice (some ⟨ga, 0, none⟩) m gc] w2 fun e w' => (∃ x1 x2, e = .returned (.tuple #[.slice none 0 0, .iface 204 (.agg #[.int .i64 x1, .iface 90 (.int .i64 x2)])])) ∧ Below w2.heap.size w2 w') := (fun m hm => unpack_cut (some ⟨ga, 0, none⟩) gc tt kk xx n m w2 hs hz'.out hm hin (fun h => by cases h) hct2 hg2 : ∀ m, m < (packS tt kk xx n).1.length → Calls Tryd.prog 7 #[.slice (some ⟨ga, 0, none⟩) m gc] w2 fun e w' => (∃ x1 x2, e = .returned (.tuple #[.slice none 0 0, .iface 204 (.agg #[.int .i64 x1, .iface 90 (.int .i64 x2)])])) ∧ Below w2.heap.size w2 w')
    have hlb : (packS tt kk xx n).1.length ≤ 140737488355327 := hin.1
    obtain ⟨P, hPd⟩ : ∃ P, P = (packS tt kk xx n).1.length := ⟨_, rfl⟩
    rw [← hPd] at hcut hpos hcp hlb ⊢
    have hPI : ¬ (P : Int) = 0 := by omega
    have hPn : ¬ P = 0 := by omega
    clear hin hct2 hLi hPd hnr hz'
    have hab : -(P : Int) < z.tmod (P : Int) ∧ z.tmod (P : Int) < (P : Int) := by
      have h1 := Int.tmod_lt_of_pos z (show (0 : Int) < (P : Int) by omega)
      have h2 := Int.lt_tmod_of_pos z (show (0 : Int) < (P : Int) by omega)
      omega
    have hend : Hid (∀ w3, Below w2.heap.size w2 w3 → Calls Tryd.prog 6 #[] w3 fun e w' => e = .returned (.bool true) ∧ Below w.heap.size w w') := (by
      intro w3 hB3
      have hB03 := below_then hB2 hB3
      refine (live_block w3 (CT_below hctH.out hB03 hg) (by have := hB03.size; omega)).mono ?_
      rintro e w' ⟨rfl, hB4⟩
      exact ⟨rfl, below_then hB03 hB4⟩ : ∀ w3, Below w2.heap.size w2 w3 → Calls Tryd.prog 6 #[] w3 fun e w' => e = .returned (.bool true) ∧ Below w.heap.size w w')
    by_cases hneg : z.tmod (P : Int) < 0
    · obtain ⟨m, hm⟩ : ∃ m : Nat, (m : Int) = z.tmod (P : Int) + (P : Int) := ⟨(z.tmod (P : Int) + (P : Int)).toNat, by omega⟩
      have hmw : wrap64 (z.tmod (P : Int) + (P : Int)) = (m : Int) := by rw [← hm]; unfold wrap64; omega
      have hmI : (m : Int) ≤ (gc : Int) := by omega
      have hm0 : (0 : Int) ≤ (m : Int) := by omega
      have hC : Hid _ := hcut.out m (by omega)
      clear hcut hm hab
      go_wp2_with fail
      refine Calls.mono hC.out ?_
      rintro e w3 ⟨⟨x1, x2, rfl⟩, hB3⟩
      have hL : Hid _ := hend.out w3 hB3
      clear hC hend
      go_wp2_with fail
      refine Calls.mono hL.out ?_
      rintro e w4 ⟨rfl, hB4⟩
      clear hL
      go_wp2_with fail
      go_ret
      exact ⟨rfl, hB4⟩
    · obtain ⟨m, hm⟩ : ∃ m : Nat, (m : Int) = z.tmod (P : Int) := ⟨(z.tmod (P : Int)).toNat, by omega⟩
      have hmw : z.tmod (P : Int) = (m : Int) := hm.symm
      have hmI : (m : Int) ≤ (gc : Int) := by omega
      have hm0 : (0 : Int) ≤ (m : Int) := by omega
      have hnn : ¬ (m : Int) < 0 := by omega
      have hC : Hid _ := hcut.out m (by omega)
      clear hcut hm hab hneg
      go_wp2_with fail
      refine Calls.mono hC.out ?_
      rintro e w3 ⟨⟨x1, x2, rfl⟩, hB3⟩
      have hL : Hid _ := hend.out w3 hB3
      clear hC hend
      go_wp2_with fail
      refine Calls.mono hL.out ?_
      rintro e w4 ⟨rfl, hB4⟩
      clear hL
      go_wp2_with fail
      go_ret
      exact ⟨rfl, hB4⟩
end Go.Proofs.YtpkoakafkfaehaaDoor
