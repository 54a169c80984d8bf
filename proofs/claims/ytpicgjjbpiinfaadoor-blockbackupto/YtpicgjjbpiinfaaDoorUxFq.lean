
import Derived.Test.YtpicgjjbpiinfaaDoorBuV
import Derived.Test.YtpicgjjbpiinfaaDoorBuW
import Derived.Test.YtpicgjjbpiinfaaDoorBuM
namespace Go.Proofs.YtpicgjjbpiinfaaDoor
open Go.RowKit
set_option linter.unusedVariables false
set_option linter.unusedSimpArgs false
theorem UPg.notf {bs : Nat → Nat} {n : Nat} {x : Int × Int} (h : UPg bs n) : ¬ UPf bs n x := by
  obtain ⟨h1, h2, h3, h4⟩ := h
  rintro (g | ⟨_, g | ⟨_, g⟩⟩)
  · rw [h1] at g; cases g
  · unfold TF at g; rw [h2.1] at g; cases g
  · unfold VF at g; rw [h3.1] at g; cases g
theorem UPg.notb {bs : Nat → Nat} {n : Nat} (h : UPg bs n) : ¬ UPb bs n := by
  obtain ⟨h1, h2, h3, h4⟩ := h
  rintro ⟨_, g | ⟨_, g | ⟨_, g⟩⟩⟩
  · exact g.2 h2.2
  · exact g.2 h3.2
  · exact g h4
theorem packS_pos (tt : Nat → Int) (kk : Nat → Nat) (xx : Nat → Int) (n : Nat) : 0 < (packS tt kk xx n).1.length := by
  have := uB_pos (timesS tt n n).1.length
  unfold packS rawOn
  simp only [List.length_append]
  omega
set_option maxRecDepth 100000 in
set_option maxHeartbeats 4000000 in
theorem blockBack_walk (a : Option Addr) (n cap : Nat) (tt : Nat → Int) (kk : Nat → Nat) (xx : Nat → Int) (w : World) (h : SIn w a n tt kk xx) (hs : n ≤ 1048576) (hct : CT w) (hg : 1 < w.heap.size) : Calls Tryd.prog 5 #[.slice a n cap] w fun e w' => e = .returned (.bool true) ∧ Below w.heap.size w w' := by
  have hP : Hid _ := pack_any a n cap tt kk xx w h hs hct hg
  have hhH : Hid (SIn w a n tt kk xx) := h
  have hctH : Hid (CT w) := hct
  clear h hct
  go_enter Tryd.func5, Tryd.ntmps5
  go_wp2_with fail
  refine Calls.mono hP.out ?_
  rintro e w2 ⟨hE, hB2⟩
  clear hP
  rcases hE with ⟨hnr, rfl⟩ | ⟨hnr, ta, tc, rfl, hin⟩
  · have hD : Hid _ := dpack_any a n cap tt kk xx w2 (hhH.out.below hB2 (Nat.le_refl _)) hs
    have hnrH : Hid _ := hnr
    clear hnr
    go_wp2_with fail
    refine Calls.mono hD.out ?_
    rintro e w3 ⟨hE, hB3⟩
    have hB03 := below_then hB2 hB3
    clear hD hB3
    rcases hE with ⟨_, rfl⟩ | ⟨hr, _⟩
    · have hBz := below_new (Below.refl _ w3) (.cells #[.int .i64 2, .int .i64 0, .int .i64 0, .bool false, .bool false] 41)
      have hB04 := below_then hB03 hBz
      have hLi : Hid _ := live_block _ (CT_below hctH.out hB04 hg) (by have := hB04.size; omega)
      simp only [badV]
      go_wp2_with fail
      refine Calls.mono hLi.out ?_
      rintro e w5 ⟨rfl, hB5⟩
      have hzl : w3.heap.size < (w3.alloc (.cells #[.int .i64 2, .int .i64 0, .int .i64 0, .bool false, .bool false] 41)).heap.size := by simp
      have z0 : w5.cell? ⟨w3.heap.size, 0, none⟩ = some (.int .i64 2) := by rw [hB5.cell (p := ⟨w3.heap.size, 0, none⟩) hzl]; simp [go_sem]
      have hB05 := below_then hB04 hB5
      clear hLi hB5 hzl hBz hB04
      go_wp2_with fail
      go_ret
      exact ⟨rfl, hB05⟩
    · exact absurd hr hnrH.out
  · obtain ⟨_, hz, hz', _⟩ := hhH.out
    obtain ⟨hG, htL, hvL⟩ := pack_back tt kk xx n hs hz hz' hnr.1 hnr.2
    have hpos := packS_pos tt kk xx n
    obtain ⟨P, hPd⟩ : ∃ P, P = (packS tt kk xx n).1 := ⟨_, rfl⟩
    rw [← hPd] at hin hG htL hvL hpos ⊢
    have hta : ta = none → tc = 0 := by
      intro e
      rcases hin.2 with h0 | ⟨b, off, e', _⟩
      · omega
      · rw [e] at e'; cases e'
    have hU : Hid _ := unpack_any ta tc P w2 hin hta (CT_below hctH.out hB2 hg) (by have := hB2.size; omega)
    have hGH : Hid _ := hG
    have htH : Hid _ := htL
    have hvH : Hid _ := hvL
    have hzH : Hid _ := hz
    have hz'H : Hid _ := hz'
    clear hnr hin hG htL hvL hPd hpos hta hz hz'
    go_wp2_with fail
    refine Calls.mono hU.out ?_
    rintro e w3 ⟨hE, hB3⟩
    have hB03 := below_then hB2 hB3
    clear hU hB3
    rcases hE with ⟨x, hx, _⟩ | ⟨hx, _⟩ | ⟨_, ra, rc, rfl, hS⟩
    · exact absurd hx (UPg.notf hGH.out)
    · exact absurd hx (UPg.notb hGH.out)
    · rw [htH.out, hvH.out] at hS
      rw [htH.out]
      have hl : ((List.range n).map tt).length = n := by simp
      rw [hl] at hS ⊢
      have hS' := hS.congr (tt' := tt) (kk' := kk) (xx' := xx) (fun i hi => ⟨ttL_map tt n i hi, kkL_map kk xx n i hi⟩) hzH.out hz'H.out
      have hSH : Hid _ := hS'
      have hLi : Hid _ := live_block w3 (CT_below hctH.out hB03 hg) (by have := hB03.size; omega)
      clear hS hS' htH hvH hGH hzH hz'H hl
      go_wp2_with fail
      refine Calls.mono hLi.out ?_
      rintro e w4 ⟨rfl, hB4⟩
      have hB04 := below_then hB03 hB4
      have hSm : Hid _ := sameSamples_any a ra n cap rc tt kk xx w4 (SIn.below hhH.out hB04 (Nat.le_refl _)) (SIn.below hSH.out hB4 (Nat.le_refl _))
      clear hLi hB4 hSH
      go_wp2_with fail
      refine Calls.mono hSm.out ?_
      rintro e w5 ⟨rfl, hB5⟩
      have hB05 := below_then hB04 hB5
      clear hSm hB5
      go_wp2_with fail
      go_ret
      exact ⟨rfl, hB05⟩
end Go.Proofs.YtpicgjjbpiinfaaDoor
