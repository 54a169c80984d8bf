
import Derived.Test.YtiakecenmenpiaaGreatDoorFpD0
import Derived.WalkSmall
namespace Go.Proofs.YtiakecenmenpiaaGreatDoor
open Go.RowKit
set_option linter.unusedVariables false
set_option linter.unusedSimpArgs false
/-- what strings.Cut wants of the world. -/
def ML (w : World) : Prop := ∃ m, w.cell? ⟨3, 0, none⟩ = some (.int .i64 m)
theorem ML.below {w w' : World} (h : ML w) (hb : Below w.heap.size w w') : ML w' := by
  obtain ⟨m, h⟩ := h
  exact ⟨m, by rw [hb.cell (World.block_lt_of_cell? _ _ h)]; exact h⟩
theorem cut_any (S : List UInt8) (hs : S.length < 4294967281) (w : World) (hM : ML w) : Calls Tryz.prog 36 #[.string (B S), .string ⟨#[58, 32]⟩] w fun e w' => e = .returned (.tuple #[.string (B (Lib.cut S csp).1), .string (B (Lib.cut S csp).2.1), .bool (Lib.cut S csp).2.2]) ∧ Below w.heap.size w w' := by
  obtain ⟨m, hm⟩ := hM
  have h := Tryz.strings_Cut (B S) ⟨#[58, 32]⟩ m w (by rw [B_size]; exact hs) hm
  rw [B_list, show (⟨#[58, 32]⟩ : ByteArray).data.toList = csp from rfl] at h
  refine h.mono ?_
  rintro e w' ⟨rfl, n, rfl⟩
  exact ⟨rfl, below_drewN (Below.refl _ _) n⟩
theorem cut_le (S : List UInt8) : (Lib.cut S csp).1.length ≤ S.length := by
  obtain ⟨k, hk⟩ := cut_head S
  rw [hk, List.length_take]; omega
theorem cut_le2 (S : List UInt8) : (Lib.cut S csp).2.1.length ≤ S.length := by
  unfold Lib.cut; split
  · simp
  · simp
theorem trim_le (a word : List UInt8) : (Lib.trimPrefix a word).length ≤ a.length := by
  unfold Lib.trimPrefix; split
  · rw [List.length_drop]; omega
  · omega
theorem unlab_le (word S : List UInt8) : (unlabF word S).2.2.length ≤ S.length := by
  unfold unlabF
  split
  · split
    · exact cut_le2 S
    · exact Nat.le_refl _
  · exact Nat.le_refl _
theorem unlab_I (word S : List UInt8) : I64' (unlabF word S).1 := by
  unfold unlabF
  split
  · split
    · rename_i h; exact Lib.atoiAll_bounds h
    · exact ⟨by omega, by omega⟩
  · exact ⟨by omega, by omega⟩
set_option maxRecDepth 100000 in
set_option maxHeartbeats 2000000 in
theorem unlabel_any (word S : List UInt8) (hs : S.length < 4294967281) (w : World) (hE : EV w) (hM : ML w) :
    Calls Tryz.prog 19 #[.string (B S), .string (B word)] w fun e w' => e = .returned (.tuple #[.int .i64 (unlabF word S).1, .bool (unlabF word S).2.1, .string (B (unlabF word S).2.2)]) ∧ Below w.heap.size w w' := by
  have kC : Hid (∀ w, ML w → Calls Tryz.prog 36 #[.string (B S), .string ⟨#[58, 32]⟩] w fun e w' => e = .returned (.tuple #[.string (B (Lib.cut S csp).1), .string (B (Lib.cut S csp).2.1), .bool (Lib.cut S csp).2.2]) ∧ Below w.heap.size w w') := fun w h => cut_any S hs w h
  have kP : Hid (∀ w, Calls Tryz.prog 37 #[.string (B (Lib.cut S csp).1), .string (B word)] w fun e w' => e = .returned (.tuple #[.string (B (Lib.trimPrefix (Lib.cut S csp).1 word)), .bool (Lib.hasPrefix (Lib.cut S csp).1 word)]) ∧ w' = w) := fun w => by
    have h := Tryz.strings_CutPrefix (B (Lib.cut S csp).1) (B word) w
    rw [B_list, B_list] at h; exact h
  have hD : (B (Lib.trimPrefix (Lib.cut S csp).1 word)).size ≤ 281474976710656 := by
    rw [B_size]; have := trim_le (Lib.cut S csp).1 word; have := cut_le S; omega
  have kT : Hid (∀ w, EV w → Calls Tryz.prog 27 #[.string (B (Lib.trimPrefix (Lib.cut S csp).1 word))] w fun e w' => AtoiE (B (Lib.trimPrefix (Lib.cut S csp).1 word)) e ∧ Below w.heap.size w w') := fun w h => atoi_any _ hD w h
  have hU : Hid (unlabF word S = if (Lib.cut S csp).2.2 = true ∧ Lib.hasPrefix (Lib.cut S csp).1 word = true then (match Lib.atoiAll (Lib.trimPrefix (Lib.cut S csp).1 word) with | .ok n => (n, true, (Lib.cut S csp).2.1) | _ => (0, false, S)) else (0, false, S)) := rfl
  have hDl := B_list (Lib.trimPrefix (Lib.cut S csp).1 word)
  obtain ⟨U, hUe⟩ : ∃ U, U = unlabF word S := ⟨_, rfl⟩
  rw [← hUe] at hU ⊢
  obtain ⟨C1, h1⟩ : ∃ C, C = B (Lib.cut S csp).1 := ⟨_, rfl⟩
  obtain ⟨C2, h2⟩ : ∃ C, C = B (Lib.cut S csp).2.1 := ⟨_, rfl⟩
  obtain ⟨ok, h3⟩ : ∃ C, C = (Lib.cut S csp).2.2 := ⟨_, rfl⟩
  obtain ⟨D, h4⟩ : ∃ C, C = B (Lib.trimPrefix (Lib.cut S csp).1 word) := ⟨_, rfl⟩
  obtain ⟨pre, h5⟩ : ∃ C, C = Lib.hasPrefix (Lib.cut S csp).1 word := ⟨_, rfl⟩
  rw [← h1, ← h2, ← h3] at kC
  rw [← h1, ← h4, ← h5] at kP
  rw [← h4] at kT hDl
  rw [← h3, ← h5, ← hDl] at hU
  have h2H : Hid _ := h2
  obtain ⟨SS, hSS⟩ : ∃ C, C = B S := ⟨_, rfl⟩
  obtain ⟨WW, hWW⟩ : ∃ C, C = B word := ⟨_, rfl⟩
  rw [← hSS] at kC
  rw [← hWW] at kP
  rw [← hSS, ← hWW]
  have hSH : Hid _ := hSS
  have hEH : Hid _ := hE
  have hMH : Hid _ := hM
  clear h1 h2 h3 h4 h5 hSS hWW hUe hE hM hD hDl hs
  go_enter Tryz.func19, Tryz.ntmps19
  go_wp2_with fail
  refine (kC.out _ hMH.out).mono ?_
  rintro e1 w1 ⟨rfl, B1⟩
  go_wp2_with fail
  refine (kP.out _).mono ?_
  rintro e2 w2 ⟨rfl, rfl⟩
  go_wp2_with fail
  refine (kT.out _ (hEH.out.below B1)).mono ?_
  rintro e3 w3 ⟨⟨v, E, hv, rfl, hcase⟩, B3⟩
  have P3 := bthen B1 B3
  clear B1 B3
  cases ok with
  | false =>
    have hR : Hid (U = (0, false, S)) := by show _ = _; rw [hU.out, if_neg (by simp)]
    clear hU hcase
    go_wp2_with fail
    rw [hR.out]
    have hx := hSH.out
    simp [bodyPost, results, Tryz.results19, go_sem]
    exact ⟨hx, P3⟩
  | true =>
    cases pre with
    | false =>
      have hR : Hid (U = (0, false, S)) := by show _ = _; rw [hU.out, if_neg (by simp)]
      clear hU hcase
      go_wp2_with fail
      rw [hR.out]
      have hx := hSH.out
      simp [bodyPost, results, Tryz.results19, go_sem]
      exact ⟨hx, P3⟩
    | true =>
      rcases hcase with ⟨rfl, hok⟩ | ⟨te, pe, rfl, hbad⟩
      · have hR : Hid (U = (v, true, (Lib.cut S csp).2.1)) := by show _ = _; rw [hU.out, if_pos ⟨rfl, rfl⟩, hok]
        clear hU hok
        go_wp2_with fail
        rw [hR.out]
        have hx := h2H.out
        simp [bodyPost, results, Tryz.results19, go_sem]
        exact ⟨hx, P3⟩
      · have hR : Hid (U = (0, false, S)) := by
          show _ = _
          rw [hU.out, if_pos ⟨rfl, rfl⟩]
          cases hq : Lib.atoiAll D.data.toList with
          | ok u => exact absurd hq (hbad u)
          | «syntax» => rfl
          | range => rfl
        clear hU hbad
        go_wp2_with fail
        rw [hR.out]
        have hx := hSH.out
        simp [bodyPost, results, Tryz.results19, go_sem]
        exact ⟨hx, P3⟩
end Go.Proofs.YtiakecenmenpiaaGreatDoor
