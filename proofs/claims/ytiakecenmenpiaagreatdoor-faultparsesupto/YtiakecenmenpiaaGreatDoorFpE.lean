
import Derived.Test.YtiakecenmenpiaaGreatDoorFpD
namespace Go.Proofs.YtiakecenmenpiaaGreatDoor
open Go.RowKit
set_option linter.unusedVariables false
set_option linter.unusedSimpArgs false
theorem bemptyR (X : ByteArray) : X ++ (⟨#[]⟩ : ByteArray) = X := by rw [ByteArray.ext_iff]; simp
theorem bempty (X : ByteArray) : (⟨#[]⟩ : ByteArray) ++ X = X := by rw [ByteArray.ext_iff]; simp
set_option maxRecDepth 100000 in
set_option maxHeartbeats 2000000 in
/-- the line of an error of ours. -/
theorem print_chain (l : List (Bool × Int)) (c : Int) (hc : I64' c) (h0 : c ≠ 0) (hI : OkI (fI l)) (hA : OkI (fA l)) (w : World) (hE : EV w) (hg : ET w) :
    Calls Tryz.prog 9 #[errV l c] w fun e w' => e = .returned (.string (B (lineL (fI l) (fA l) c))) ∧ Below w.heap.size w w' := by
  have kI : Hid (∀ w, ET w → Calls Tryz.prog 23 #[errV l c] w fun e w' => e = .returned (.tuple #[.int .i64 ((fI l).getD 0), .bool (fI l).isSome]) ∧ Below w.heap.size w w') := fun w h => indexV l c w h
  have kA : Hid (∀ w, ET w → Calls Tryz.prog 25 #[errV l c] w fun e w' => e = .returned (.tuple #[.int .i64 ((fA l).getD 0), .bool (fA l).isSome]) ∧ Below w.heap.size w w') := fun w h => placeV l c w h
  have kC : Hid (∀ w, ET w → Calls Tryz.prog 17 #[errV l c] w fun e w' => e = .returned (.int .i64 c) ∧ Below w.heap.size w w') := fun w h => code_chain l c w h
  have kN : Hid (∀ w, EV w → Calls Tryz.prog 22 #[.int .i64 c] w fun ev w' => ev = .returned (.string (B (nameL c))) ∧ Below w.heap.size w w') := fun w h => name_any c hc.1 hc.2 w h
  have hnil := errV_notnil l c
  have hgd := errV_guard l c
  have z0 : (c != 0) = true := by simpa using h0
  have hsN := nameS_size hc
  have hsN2 : (B (nameL c)).size ≤ 27 := hsN
  have hlI := lab_len numW (fI l) hI
  have hlA := lab_len atW (fA l) hA
  rw [show numW.length = 7 from rfl] at hlI
  rw [show atW.length = 3 from rfl] at hlA
  have kLI : Hid (∀ n, fI l = some n → ∀ w, EV w → Calls Tryz.prog 24 #[.string ⟨#[110, 117, 109, 98, 101, 114, 32]⟩, .int .i64 n] w fun e w' => e = .returned (.string (B (lab numW (fI l)))) ∧ Below w.heap.size w w') := fun n hn w h => by rw [hn]; exact label_any numW (by decide) n (hI n hn) w h
  have kLA : Hid (∀ n, fA l = some n → ∀ w, EV w → Calls Tryz.prog 24 #[.string ⟨#[97, 116, 32]⟩, .int .i64 n] w fun e w' => e = .returned (.string (B (lab atW (fA l)))) ∧ Below w.heap.size w w') := fun n hn w h => by rw [hn]; exact label_any atW (by decide) n (hA n hn) w h
  have hR : Hid (B (lineL (fI l) (fA l) c) = B (lab numW (fI l)) ++ B (lab atW (fA l)) ++ B (nameL c)) := by
    show _ = _
    rw [B_app, B_app]; unfold lineL; rw [List.append_assoc]
  have eN : Hid (fI l = none → B (lab numW (fI l)) = ⟨#[]⟩) := fun h => by rw [h]; rfl
  have eA : Hid (fA l = none → B (lab atW (fA l)) = ⟨#[]⟩) := fun h => by rw [h]; rfl
  have sI := B_size (lab numW (fI l))
  have sA := B_size (lab atW (fA l))
  obtain ⟨I, hIe⟩ : ∃ I, I = B (lab numW (fI l)) := ⟨_, rfl⟩
  obtain ⟨P, hPe⟩ : ∃ P, P = B (lab atW (fA l)) := ⟨_, rfl⟩
  obtain ⟨M, hMe⟩ : ∃ M, M = B (nameL c) := ⟨_, rfl⟩
  rw [← hIe] at kLI hR eN sI
  rw [← hPe] at kLA hR eA sA
  rw [← hMe] at kN hR hsN2
  have s1 : I.size ≤ 30 := by omega
  have s2 : P.size ≤ 30 := by omega
  obtain ⟨E, hEe⟩ : ∃ E, E = errV l c := ⟨_, rfl⟩
  rw [← hEe] at kI kA kC hnil hgd ⊢
  have hEH : Hid _ := hE
  have hgH : Hid _ := hg
  clear hIe hPe hMe hEe hE hg sI sA hlI hlA hsN h0 hI hA
  obtain ⟨R, hRe⟩ : ∃ R, R = B (lineL (fI l) (fA l) c) := ⟨_, rfl⟩
  rw [← hRe] at hR ⊢
  clear hRe
  have c1 : ¬ 9223372036854775807 < I.size := by omega
  have c2 : ¬ 9223372036854775807 < P.size := by omega
  have c3 : ¬ 9223372036854775807 < I.size + P.size := by omega
  have c4 : ¬ 9223372036854775807 < I.size + P.size + M.size := by omega
  have c5 : ¬ 9223372036854775807 < I.size + M.size := by omega
  have c6 : ¬ 9223372036854775807 < P.size + M.size := by omega
  have c7 : ¬ 9223372036854775807 < M.size := by omega
  cases hi : fI l with
  | none =>
    have hI0 := eN.out hi
    have kI' : Hid (∀ w, ET w → Calls Tryz.prog 23 #[E] w fun e w' => e = .returned (.tuple #[.int .i64 0, .bool false]) ∧ Below w.heap.size w w') := fun w h => by have h2 := kI.out w h; rw [hi] at h2; exact h2
    rw [hI0] at hR
    cases ha : fA l with
    | none =>
      have hA0 := eA.out ha
      have kA' : Hid (∀ w, ET w → Calls Tryz.prog 25 #[E] w fun e w' => e = .returned (.tuple #[.int .i64 0, .bool false]) ∧ Below w.heap.size w w') := fun w h => by have h2 := kA.out w h; rw [ha] at h2; exact h2
      rw [hA0] at hR
      clear kI kA kLI kLA eN eA hi ha hI0 hA0
      go_enter Tryz.func9, Tryz.ntmps9
      go_wp2_with fail
      refine (kI'.out _ hgH.out).mono ?_
      rintro e1 w1 ⟨rfl, B1⟩
      go_wp2_with fail
      refine (kA'.out _ (ET_below hgH.out B1)).mono ?_
      rintro e3 w3 ⟨rfl, B3⟩
      have P3 := bthen B1 B3
      go_wp2_with fail
      refine (kC.out _ (ET_below hgH.out P3)).mono ?_
      rintro e5 w5 ⟨rfl, B5⟩
      have P5 := bthen P3 B5
      go_wp2_with fail
      refine (kN.out _ (hEH.out.below P5)).mono ?_
      rintro e6 w6 ⟨rfl, B6⟩
      have P6 := bthen P5 B6
      go_wp2_with fail
      go_ret
      refine ⟨?_, P6⟩
      show Ending.returned (Value.string ((⟨#[]⟩ : ByteArray) ++ M)) = Ending.returned (Value.string R)
      rw [hR.out]
      simp only [bempty, bemptyR]
    | some p =>
      have kA' : Hid (∀ w, ET w → Calls Tryz.prog 25 #[E] w fun e w' => e = .returned (.tuple #[.int .i64 p, .bool true]) ∧ Below w.heap.size w w') := fun w h => by have h2 := kA.out w h; rw [ha] at h2; exact h2
      have kLA' : Hid _ := kLA.out p ha
      clear kI kA kLI kLA eN eA hi ha hI0
      go_enter Tryz.func9, Tryz.ntmps9
      go_wp2_with fail
      refine (kI'.out _ hgH.out).mono ?_
      rintro e1 w1 ⟨rfl, B1⟩
      go_wp2_with fail
      refine (kA'.out _ (ET_below hgH.out B1)).mono ?_
      rintro e3 w3 ⟨rfl, B3⟩
      have P3 := bthen B1 B3
      go_wp2_with fail
      refine (kLA'.out _ (hEH.out.below P3)).mono ?_
      rintro e4 w4 ⟨rfl, B4⟩
      have P4 := bthen P3 B4
      go_wp2_with fail
      refine (kC.out _ (ET_below hgH.out P4)).mono ?_
      rintro e5 w5 ⟨rfl, B5⟩
      have P5 := bthen P4 B5
      go_wp2_with fail
      refine (kN.out _ (hEH.out.below P5)).mono ?_
      rintro e6 w6 ⟨rfl, B6⟩
      have P6 := bthen P5 B6
      go_wp2_with fail
      go_ret
      refine ⟨?_, P6⟩
      show Ending.returned (Value.string ((⟨#[]⟩ : ByteArray) ++ P ++ M)) = Ending.returned (Value.string R)
      rw [hR.out]
      try rfl
  | some i =>
    have kI' : Hid (∀ w, ET w → Calls Tryz.prog 23 #[E] w fun e w' => e = .returned (.tuple #[.int .i64 i, .bool true]) ∧ Below w.heap.size w w') := fun w h => by have h2 := kI.out w h; rw [hi] at h2; exact h2
    have kLI' : Hid _ := kLI.out i hi
    cases ha : fA l with
    | none =>
      have hA0 := eA.out ha
      have kA' : Hid (∀ w, ET w → Calls Tryz.prog 25 #[E] w fun e w' => e = .returned (.tuple #[.int .i64 0, .bool false]) ∧ Below w.heap.size w w') := fun w h => by have h2 := kA.out w h; rw [ha] at h2; exact h2
      rw [hA0] at hR
      clear kI kA kLI kLA eN eA hi ha hA0
      go_enter Tryz.func9, Tryz.ntmps9
      go_wp2_with fail
      refine (kI'.out _ hgH.out).mono ?_
      rintro e1 w1 ⟨rfl, B1⟩
      go_wp2_with fail
      refine (kLI'.out _ (hEH.out.below B1)).mono ?_
      rintro e2 w2 ⟨rfl, B2⟩
      have P2 := bthen B1 B2
      go_wp2_with fail
      refine (kA'.out _ (ET_below hgH.out P2)).mono ?_
      rintro e3 w3 ⟨rfl, B3⟩
      have P3 := bthen P2 B3
      go_wp2_with fail
      refine (kC.out _ (ET_below hgH.out P3)).mono ?_
      rintro e5 w5 ⟨rfl, B5⟩
      have P5 := bthen P3 B5
      go_wp2_with fail
      refine (kN.out _ (hEH.out.below P5)).mono ?_
      rintro e6 w6 ⟨rfl, B6⟩
      have P6 := bthen P5 B6
      go_wp2_with fail
      go_ret
      refine ⟨?_, P6⟩
      show Ending.returned (Value.string ((⟨#[]⟩ : ByteArray) ++ I ++ M)) = Ending.returned (Value.string R)
      rw [hR.out]
      simp only [bempty, bemptyR]
    | some p =>
      have kA' : Hid (∀ w, ET w → Calls Tryz.prog 25 #[E] w fun e w' => e = .returned (.tuple #[.int .i64 p, .bool true]) ∧ Below w.heap.size w w') := fun w h => by have h2 := kA.out w h; rw [ha] at h2; exact h2
      have kLA' : Hid _ := kLA.out p ha
      clear kI kA kLI kLA eN eA hi ha
      go_enter Tryz.func9, Tryz.ntmps9
      go_wp2_with fail
      refine (kI'.out _ hgH.out).mono ?_
      rintro e1 w1 ⟨rfl, B1⟩
      go_wp2_with fail
      refine (kLI'.out _ (hEH.out.below B1)).mono ?_
      rintro e2 w2 ⟨rfl, B2⟩
      have P2 := bthen B1 B2
      go_wp2_with fail
      refine (kA'.out _ (ET_below hgH.out P2)).mono ?_
      rintro e3 w3 ⟨rfl, B3⟩
      have P3 := bthen P2 B3
      go_wp2_with fail
      refine (kLA'.out _ (hEH.out.below P3)).mono ?_
      rintro e4 w4 ⟨rfl, B4⟩
      have P4 := bthen P3 B4
      go_wp2_with fail
      refine (kC.out _ (ET_below hgH.out P4)).mono ?_
      rintro e5 w5 ⟨rfl, B5⟩
      have P5 := bthen P4 B5
      go_wp2_with fail
      refine (kN.out _ (hEH.out.below P5)).mono ?_
      rintro e6 w6 ⟨rfl, B6⟩
      have P6 := bthen P5 B6
      go_wp2_with fail
      go_ret
      refine ⟨?_, P6⟩
      show Ending.returned (Value.string ((⟨#[]⟩ : ByteArray) ++ I ++ P ++ M)) = Ending.returned (Value.string R)
      rw [hR.out]
      simp only [bempty, bemptyR]
end Go.Proofs.YtiakecenmenpiaaGreatDoor
