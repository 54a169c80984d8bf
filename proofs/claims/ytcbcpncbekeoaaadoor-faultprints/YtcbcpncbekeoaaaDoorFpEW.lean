
import Derived.Test.YtcbcpncbekeoaaaDoorFpCW
import Derived.Test.YtcbcpncbekeoaaaDoorFpD0
namespace Go.Proofs.YtcbcpncbekeoaaaDoor
open Go.RowKit
set_option linter.unusedVariables false
set_option linter.unusedSimpArgs false
theorem bemptyR (X : ByteArray) : X ++ (⟨#[]⟩ : ByteArray) = X := by rw [ByteArray.ext_iff]; simp
theorem bempty (X : ByteArray) : (⟨#[]⟩ : ByteArray) ++ X = X := by rw [ByteArray.ext_iff]; simp
theorem lab_len (word : List UInt8) (o : Option Int) (ho : OkI o) : (lab word o).length ≤ word.length + 23 := by
  cases o with
  | none => simp [lab]
  | some n => have := itoa_len n (ho n rfl).1 (ho n rfl).2; simp [lab, csp]; omega
def unkW : List UInt8 := [117, 110, 107, 110, 111, 119, 110]
def lineU (i a : Option Int) : List UInt8 := lab numW i ++ (lab atW a ++ unkW)
set_option maxRecDepth 100000 in
set_option maxHeartbeats 2000000 in
theorem printW1 (l : List (Nat × Int)) (b : Int ⊕ Nat) (c : Int) (hcb : codeB b = c) (hc : I64' c) (h0 : c ≠ 0) (hI : OkI (fW 1 l)) (hA : OkI (fW 0 l)) (w : World) (hE : EV w) (hg : ET w) :
    Calls Tryd.prog 10 #[errW l b] w fun e w' => e = .returned (.string (B (lineL (fW 1 l) (fW 0 l) c))) ∧ Below w.heap.size w w' := by
  have kI : Hid (∀ w, ET w → Calls Tryd.prog 7 #[errW l b] w fun e w' => e = .returned (.tuple #[.int .i64 ((fW 1 l).getD 0), .bool (fW 1 l).isSome]) ∧ Below w.heap.size w w') := fun w h => indexW l b w h
  have kA : Hid (∀ w, ET w → Calls Tryd.prog 6 #[errW l b] w fun e w' => e = .returned (.tuple #[.int .i64 ((fW 0 l).getD 0), .bool (fW 0 l).isSome]) ∧ Below w.heap.size w w') := fun w h => placeW l b w h
  have kC : Hid (∀ w, ET w → Calls Tryd.prog 9 #[errW l b] w fun e w' => e = .returned (.int .i64 c) ∧ Below w.heap.size w w') := fun w h => by rw [← hcb]; exact codeW l b w h
  have kN : Hid (∀ w, EV w → Calls Tryd.prog 20 #[.int .i64 c] w fun ev w' => ev = .returned (.string (B (nameL c))) ∧ Below w.heap.size w w') := fun w h => name_any c hc.1 hc.2 w h
  have hnil := errW_notnil l b
  have hgd := errW_guard l b
  have z0 : (c != 0) = true := by simpa using h0
  have hsN := nameS_size hc
  have hsN2 : (B (nameL c)).size ≤ 27 := hsN
  have hlI := lab_len numW (fW 1 l) hI
  have hlA := lab_len atW (fW 0 l) hA
  rw [show numW.length = 7 from rfl] at hlI
  rw [show atW.length = 3 from rfl] at hlA
  have kLI : Hid (∀ n, fW 1 l = some n → ∀ w, EV w → Calls Tryd.prog 21 #[.string ⟨#[110, 117, 109, 98, 101, 114, 32]⟩, .int .i64 n] w fun e w' => e = .returned (.string (B (lab numW (fW 1 l)))) ∧ Below w.heap.size w w') := fun n hn w h => by rw [hn]; exact label_any numW (by decide) n (hI n hn) w h
  have kLA : Hid (∀ n, fW 0 l = some n → ∀ w, EV w → Calls Tryd.prog 21 #[.string ⟨#[97, 116, 32]⟩, .int .i64 n] w fun e w' => e = .returned (.string (B (lab atW (fW 0 l)))) ∧ Below w.heap.size w w') := fun n hn w h => by rw [hn]; exact label_any atW (by decide) n (hA n hn) w h
  have hR : Hid (B (lineL (fW 1 l) (fW 0 l) c) = B (lab numW (fW 1 l)) ++ B (lab atW (fW 0 l)) ++ B (nameL c)) := by
    show _ = _
    rw [B_app, B_app]; unfold lineL; rw [List.append_assoc]
  have eN : Hid (fW 1 l = none → B (lab numW (fW 1 l)) = ⟨#[]⟩) := fun h => by rw [h]; rfl
  have eA : Hid (fW 0 l = none → B (lab atW (fW 0 l)) = ⟨#[]⟩) := fun h => by rw [h]; rfl
  have sI := B_size (lab numW (fW 1 l))
  have sA := B_size (lab atW (fW 0 l))
  obtain ⟨I, hIe⟩ : ∃ I, I = B (lab numW (fW 1 l)) := ⟨_, rfl⟩
  obtain ⟨P, hPe⟩ : ∃ P, P = B (lab atW (fW 0 l)) := ⟨_, rfl⟩
  obtain ⟨M, hMe⟩ : ∃ M, M = B (nameL c) := ⟨_, rfl⟩
  rw [← hIe] at kLI hR eN sI
  rw [← hPe] at kLA hR eA sA
  rw [← hMe] at kN hR hsN2
  have s1 : I.size ≤ 30 := by omega
  have s2 : P.size ≤ 30 := by omega
  obtain ⟨E, hEe⟩ : ∃ E, E = errW l b := ⟨_, rfl⟩
  rw [← hEe] at kI kA kC hnil hgd ⊢
  have hEH : Hid _ := hE
  have hgH : Hid _ := hg
  clear hIe hPe hMe hEe hE hg sI sA hlI hlA hsN h0 hI hA
  obtain ⟨R, hRe⟩ : ∃ R, R = B (lineL (fW 1 l) (fW 0 l) c) := ⟨_, rfl⟩
  rw [← hRe] at hR ⊢
  clear hRe
  have c1 : ¬ 9223372036854775807 < I.size := by omega
  have c2 : ¬ 9223372036854775807 < P.size := by omega
  have c3 : ¬ 9223372036854775807 < I.size + P.size := by omega
  have c4 : ¬ 9223372036854775807 < I.size + P.size + M.size := by omega
  have c5 : ¬ 9223372036854775807 < I.size + M.size := by omega
  have c6 : ¬ 9223372036854775807 < P.size + M.size := by omega
  have c7 : ¬ 9223372036854775807 < M.size := by omega
  cases hi : fW 1 l with
  | none =>
    have hI0 := eN.out hi
    have kI' : Hid (∀ w, ET w → Calls Tryd.prog 7 #[E] w fun e w' => e = .returned (.tuple #[.int .i64 0, .bool false]) ∧ Below w.heap.size w w') := fun w h => by have h2 := kI.out w h; rw [hi] at h2; exact h2
    rw [hI0] at hR
    cases ha : fW 0 l with
    | none =>
      have hA0 := eA.out ha
      have kA' : Hid (∀ w, ET w → Calls Tryd.prog 6 #[E] w fun e w' => e = .returned (.tuple #[.int .i64 0, .bool false]) ∧ Below w.heap.size w w') := fun w h => by have h2 := kA.out w h; rw [ha] at h2; exact h2
      rw [hA0] at hR
      clear kI kA kLI kLA eN eA hi ha hI0 hA0
      go_enter Tryd.func10, Tryd.ntmps10
      go_wp2_with fail
      refine (kI'.out _ hgH.out).mono ?_
      rintro e1 w1 ⟨rfl, B1⟩
      go_wp2_with fail
      refine (kA'.out _ (ET_below hgH.out B1)).mono ?_
      rintro e3 w3 ⟨rfl, B3⟩
      have P3 := bthen B1 B3
      go_wp2_with fail
      refine (kC.out _ (ET_below hgH.out P3)).mono ?_
      rintro e5 w5 ⟨rfl, B5⟩
      have P5 := bthen P3 B5
      go_wp2_with fail
      refine (kN.out _ (hEH.out.below P5)).mono ?_
      rintro e6 w6 ⟨rfl, B6⟩
      have P6 := bthen P5 B6
      go_wp2_with fail
      go_ret
      refine ⟨?_, P6⟩
      show Ending.returned (Value.string ((⟨#[]⟩ : ByteArray) ++ M)) = Ending.returned (Value.string R)
      rw [hR.out]
      simp only [bempty, bemptyR]
    | some p =>
      have kA' : Hid (∀ w, ET w → Calls Tryd.prog 6 #[E] w fun e w' => e = .returned (.tuple #[.int .i64 p, .bool true]) ∧ Below w.heap.size w w') := fun w h => by have h2 := kA.out w h; rw [ha] at h2; exact h2
      have kLA' : Hid _ := kLA.out p ha
      clear kI kA kLI kLA eN eA hi ha hI0
      go_enter Tryd.func10, Tryd.ntmps10
      go_wp2_with fail
      refine (kI'.out _ hgH.out).mono ?_
      rintro e1 w1 ⟨rfl, B1⟩
      go_wp2_with fail
      refine (kA'.out _ (ET_below hgH.out B1)).mono ?_
      rintro e3 w3 ⟨rfl, B3⟩
      have P3 := bthen B1 B3
      go_wp2_with fail
      refine (kLA'.out _ (hEH.out.below P3)).mono ?_
      rintro e4 w4 ⟨rfl, B4⟩
      have P4 := bthen P3 B4
      go_wp2_with fail
      refine (kC.out _ (ET_below hgH.out P4)).mono ?_
      rintro e5 w5 ⟨rfl, B5⟩
      have P5 := bthen P4 B5
      go_wp2_with fail
      refine (kN.out _ (hEH.out.below P5)).mono ?_
      rintro e6 w6 ⟨rfl, B6⟩
      have P6 := bthen P5 B6
      go_wp2_with fail
      go_ret
      refine ⟨?_, P6⟩
      show Ending.returned (Value.string ((⟨#[]⟩ : ByteArray) ++ P ++ M)) = Ending.returned (Value.string R)
      rw [hR.out]
      try rfl
  | some i =>
    have kI' : Hid (∀ w, ET w → Calls Tryd.prog 7 #[E] w fun e w' => e = .returned (.tuple #[.int .i64 i, .bool true]) ∧ Below w.heap.size w w') := fun w h => by have h2 := kI.out w h; rw [hi] at h2; exact h2
    have kLI' : Hid _ := kLI.out i hi
    cases ha : fW 0 l with
    | none =>
      have hA0 := eA.out ha
      have kA' : Hid (∀ w, ET w → Calls Tryd.prog 6 #[E] w fun e w' => e = .returned (.tuple #[.int .i64 0, .bool false]) ∧ Below w.heap.size w w') := fun w h => by have h2 := kA.out w h; rw [ha] at h2; exact h2
      rw [hA0] at hR
      clear kI kA kLI kLA eN eA hi ha hA0
      go_enter Tryd.func10, Tryd.ntmps10
      go_wp2_with fail
      refine (kI'.out _ hgH.out).mono ?_
      rintro e1 w1 ⟨rfl, B1⟩
      go_wp2_with fail
      refine (kLI'.out _ (hEH.out.below B1)).mono ?_
      rintro e2 w2 ⟨rfl, B2⟩
      have P2 := bthen B1 B2
      go_wp2_with fail
      refine (kA'.out _ (ET_below hgH.out P2)).mono ?_
      rintro e3 w3 ⟨rfl, B3⟩
      have P3 := bthen P2 B3
      go_wp2_with fail
      refine (kC.out _ (ET_below hgH.out P3)).mono ?_
      rintro e5 w5 ⟨rfl, B5⟩
      have P5 := bthen P3 B5
      go_wp2_with fail
      refine (kN.out _ (hEH.out.below P5)).mono ?_
      rintro e6 w6 ⟨rfl, B6⟩
      have P6 := bthen P5 B6
      go_wp2_with fail
      go_ret
      refine ⟨?_, P6⟩
      show Ending.returned (Value.string ((⟨#[]⟩ : ByteArray) ++ I ++ M)) = Ending.returned (Value.string R)
      rw [hR.out]
      simp only [bempty, bemptyR]
    | some p =>
      have kA' : Hid (∀ w, ET w → Calls Tryd.prog 6 #[E] w fun e w' => e = .returned (.tuple #[.int .i64 p, .bool true]) ∧ Below w.heap.size w w') := fun w h => by have h2 := kA.out w h; rw [ha] at h2; exact h2
      have kLA' : Hid _ := kLA.out p ha
      clear kI kA kLI kLA eN eA hi ha
      go_enter Tryd.func10, Tryd.ntmps10
      go_wp2_with fail
      refine (kI'.out _ hgH.out).mono ?_
      rintro e1 w1 ⟨rfl, B1⟩
      go_wp2_with fail
      refine (kLI'.out _ (hEH.out.below B1)).mono ?_
      rintro e2 w2 ⟨rfl, B2⟩
      have P2 := bthen B1 B2
      go_wp2_with fail
      refine (kA'.out _ (ET_below hgH.out P2)).mono ?_
      rintro e3 w3 ⟨rfl, B3⟩
      have P3 := bthen P2 B3
      go_wp2_with fail
      refine (kLA'.out _ (hEH.out.below P3)).mono ?_
      rintro e4 w4 ⟨rfl, B4⟩
      have P4 := bthen P3 B4
      go_wp2_with fail
      refine (kC.out _ (ET_below hgH.out P4)).mono ?_
      rintro e5 w5 ⟨rfl, B5⟩
      have P5 := bthen P4 B5
      go_wp2_with fail
      refine (kN.out _ (hEH.out.below P5)).mono ?_
      rintro e6 w6 ⟨rfl, B6⟩
      have P6 := bthen P5 B6
      go_wp2_with fail
      go_ret
      refine ⟨?_, P6⟩
      show Ending.returned (Value.string ((⟨#[]⟩ : ByteArray) ++ I ++ P ++ M)) = Ending.returned (Value.string R)
      rw [hR.out]
      simp only [bempty, bemptyR]
set_option maxRecDepth 100000 in
set_option maxHeartbeats 2000000 in
theorem printW0 (l : List (Nat × Int)) (b : Int ⊕ Nat) (c : Int) (hcb : codeB b = c) (h0 : c = 0) (hI : OkI (fW 1 l)) (hA : OkI (fW 0 l)) (w : World) (hE : EV w) (hg : ET w) :
    Calls Tryd.prog 10 #[errW l b] w fun e w' => e = .returned (.string (B (lineU (fW 1 l) (fW 0 l)))) ∧ Below w.heap.size w w' := by
  have kI : Hid (∀ w, ET w → Calls Tryd.prog 7 #[errW l b] w fun e w' => e = .returned (.tuple #[.int .i64 ((fW 1 l).getD 0), .bool (fW 1 l).isSome]) ∧ Below w.heap.size w w') := fun w h => indexW l b w h
  have kA : Hid (∀ w, ET w → Calls Tryd.prog 6 #[errW l b] w fun e w' => e = .returned (.tuple #[.int .i64 ((fW 0 l).getD 0), .bool (fW 0 l).isSome]) ∧ Below w.heap.size w w') := fun w h => placeW l b w h
  have kC : Hid (∀ w, ET w → Calls Tryd.prog 9 #[errW l b] w fun e w' => e = .returned (.int .i64 c) ∧ Below w.heap.size w w') := fun w h => by rw [← hcb]; exact codeW l b w h
  have hnil := errW_notnil l b
  have hgd := errW_guard l b
  subst h0
  have hlI := lab_len numW (fW 1 l) hI
  have hlA := lab_len atW (fW 0 l) hA
  rw [show numW.length = 7 from rfl] at hlI
  rw [show atW.length = 3 from rfl] at hlA
  have kLI : Hid (∀ n, fW 1 l = some n → ∀ w, EV w → Calls Tryd.prog 21 #[.string ⟨#[110, 117, 109, 98, 101, 114, 32]⟩, .int .i64 n] w fun e w' => e = .returned (.string (B (lab numW (fW 1 l)))) ∧ Below w.heap.size w w') := fun n hn w h => by rw [hn]; exact label_any numW (by decide) n (hI n hn) w h
  have kLA : Hid (∀ n, fW 0 l = some n → ∀ w, EV w → Calls Tryd.prog 21 #[.string ⟨#[97, 116, 32]⟩, .int .i64 n] w fun e w' => e = .returned (.string (B (lab atW (fW 0 l)))) ∧ Below w.heap.size w w') := fun n hn w h => by rw [hn]; exact label_any atW (by decide) n (hA n hn) w h
  have hR : Hid (B (lineU (fW 1 l) (fW 0 l)) = B (lab numW (fW 1 l)) ++ B (lab atW (fW 0 l)) ++ (⟨#[117, 110, 107, 110, 111, 119, 110]⟩ : ByteArray)) := by
    show _ = _
    rw [show (⟨#[117, 110, 107, 110, 111, 119, 110]⟩ : ByteArray) = B unkW from rfl, B_app, B_app]; unfold lineU; rw [List.append_assoc]
  have eN : Hid (fW 1 l = none → B (lab numW (fW 1 l)) = ⟨#[]⟩) := fun h => by rw [h]; rfl
  have eA : Hid (fW 0 l = none → B (lab atW (fW 0 l)) = ⟨#[]⟩) := fun h => by rw [h]; rfl
  have sI := B_size (lab numW (fW 1 l))
  have sA := B_size (lab atW (fW 0 l))
  obtain ⟨I, hIe⟩ : ∃ I, I = B (lab numW (fW 1 l)) := ⟨_, rfl⟩
  obtain ⟨P, hPe⟩ : ∃ P, P = B (lab atW (fW 0 l)) := ⟨_, rfl⟩
  rw [← hIe] at kLI hR eN sI
  rw [← hPe] at kLA hR eA sA
  have s1 : I.size ≤ 30 := by omega
  have s2 : P.size ≤ 30 := by omega
  obtain ⟨E, hEe⟩ : ∃ E, E = errW l b := ⟨_, rfl⟩
  rw [← hEe] at kI kA kC hnil hgd ⊢
  have hEH : Hid _ := hE
  have hgH : Hid _ := hg
  clear hIe hPe hEe hE hg sI sA hlI hlA hI hA
  obtain ⟨R, hRe⟩ : ∃ R, R = B (lineU (fW 1 l) (fW 0 l)) := ⟨_, rfl⟩
  rw [← hRe] at hR ⊢
  clear hRe
  have c1 : ¬ 9223372036854775807 < I.size := by omega
  have c2 : ¬ 9223372036854775807 < P.size := by omega
  have c3 : ¬ 9223372036854775807 < I.size + P.size := by omega
  have c4 : ¬ 9223372036854775807 < I.size + P.size + 7 := by omega
  have c5 : ¬ 9223372036854775807 < I.size + 7 := by omega
  have c6 : ¬ 9223372036854775807 < P.size + 7 := by omega
  cases hi : fW 1 l with
  | none =>
    have hI0 := eN.out hi
    have kI' : Hid (∀ w, ET w → Calls Tryd.prog 7 #[E] w fun e w' => e = .returned (.tuple #[.int .i64 0, .bool false]) ∧ Below w.heap.size w w') := fun w h => by have h2 := kI.out w h; rw [hi] at h2; exact h2
    rw [hI0] at hR
    cases ha : fW 0 l with
    | none =>
      have hA0 := eA.out ha
      have kA' : Hid (∀ w, ET w → Calls Tryd.prog 6 #[E] w fun e w' => e = .returned (.tuple #[.int .i64 0, .bool false]) ∧ Below w.heap.size w w') := fun w h => by have h2 := kA.out w h; rw [ha] at h2; exact h2
      rw [hA0] at hR
      clear kI kA kLI kLA eN eA hi ha hI0 hA0
      go_enter Tryd.func10, Tryd.ntmps10
      go_wp2_with fail
      refine (kI'.out _ hgH.out).mono ?_
      rintro e1 w1 ⟨rfl, B1⟩
      go_wp2_with fail
      refine (kA'.out _ (ET_below hgH.out B1)).mono ?_
      rintro e3 w3 ⟨rfl, B3⟩
      have P3 := bthen B1 B3
      go_wp2_with fail
      refine (kC.out _ (ET_below hgH.out P3)).mono ?_
      rintro e5 w5 ⟨rfl, B5⟩
      have P5 := bthen P3 B5
      go_wp2_with fail
      go_ret
      refine ⟨?_, P5⟩
      show Ending.returned (Value.string ((⟨#[]⟩ : ByteArray) ++ (⟨#[117, 110, 107, 110, 111, 119, 110]⟩ : ByteArray))) = Ending.returned (Value.string R)
      rw [hR.out]
      simp only [bempty, bemptyR]
    | some p =>
      have kA' : Hid (∀ w, ET w → Calls Tryd.prog 6 #[E] w fun e w' => e = .returned (.tuple #[.int .i64 p, .bool true]) ∧ Below w.heap.size w w') := fun w h => by have h2 := kA.out w h; rw [ha] at h2; exact h2
      have kLA' : Hid _ := kLA.out p ha
      clear kI kA kLI kLA eN eA hi ha hI0
      go_enter Tryd.func10, Tryd.ntmps10
      go_wp2_with fail
      refine (kI'.out _ hgH.out).mono ?_
      rintro e1 w1 ⟨rfl, B1⟩
      go_wp2_with fail
      refine (kA'.out _ (ET_below hgH.out B1)).mono ?_
      rintro e3 w3 ⟨rfl, B3⟩
      have P3 := bthen B1 B3
      go_wp2_with fail
      refine (kLA'.out _ (hEH.out.below P3)).mono ?_
      rintro e4 w4 ⟨rfl, B4⟩
      have P4 := bthen P3 B4
      go_wp2_with fail
      refine (kC.out _ (ET_below hgH.out P4)).mono ?_
      rintro e5 w5 ⟨rfl, B5⟩
      have P5 := bthen P4 B5
      go_wp2_with fail
      go_ret
      refine ⟨?_, P5⟩
      show Ending.returned (Value.string ((⟨#[]⟩ : ByteArray) ++ P ++ (⟨#[117, 110, 107, 110, 111, 119, 110]⟩ : ByteArray))) = Ending.returned (Value.string R)
      rw [hR.out]
      try rfl
  | some i =>
    have kI' : Hid (∀ w, ET w → Calls Tryd.prog 7 #[E] w fun e w' => e = .returned (.tuple #[.int .i64 i, .bool true]) ∧ Below w.heap.size w w') := fun w h => by have h2 := kI.out w h; rw [hi] at h2; exact h2
    have kLI' : Hid _ := kLI.out i hi
    cases ha : fW 0 l with
    | none =>
      have hA0 := eA.out ha
      have kA' : Hid (∀ w, ET w → Calls Tryd.prog 6 #[E] w fun e w' => e = .returned (.tuple #[.int .i64 0, .bool false]) ∧ Below w.heap.size w w') := fun w h => by have h2 := kA.out w h; rw [ha] at h2; exact h2
      rw [hA0] at hR
      clear kI kA kLI kLA eN eA hi ha hA0
      go_enter Tryd.func10, Tryd.ntmps10
      go_wp2_with fail
      refine (kI'.out _ hgH.out).mono ?_
      rintro e1 w1 ⟨rfl, B1⟩
      go_wp2_with fail
      refine (kLI'.out _ (hEH.out.below B1)).mono ?_
      rintro e2 w2 ⟨rfl, B2⟩
      have P2 := bthen B1 B2
      go_wp2_with fail
      refine (kA'.out _ (ET_below hgH.out P2)).mono ?_
      rintro e3 w3 ⟨rfl, B3⟩
      have P3 := bthen P2 B3
      go_wp2_with fail
      refine (kC.out _ (ET_below hgH.out P3)).mono ?_
      rintro e5 w5 ⟨rfl, B5⟩
      have P5 := bthen P3 B5
      go_wp2_with fail
      go_ret
      refine ⟨?_, P5⟩
      show Ending.returned (Value.string ((⟨#[]⟩ : ByteArray) ++ I ++ (⟨#[117, 110, 107, 110, 111, 119, 110]⟩ : ByteArray))) = Ending.returned (Value.string R)
      rw [hR.out]
      simp only [bempty, bemptyR]
    | some p =>
      have kA' : Hid (∀ w, ET w → Calls Tryd.prog 6 #[E] w fun e w' => e = .returned (.tuple #[.int .i64 p, .bool true]) ∧ Below w.heap.size w w') := fun w h => by have h2 := kA.out w h; rw [ha] at h2; exact h2
      have kLA' : Hid _ := kLA.out p ha
      clear kI kA kLI kLA eN eA hi ha
      go_enter Tryd.func10, Tryd.ntmps10
      go_wp2_with fail
      refine (kI'.out _ hgH.out).mono ?_
      rintro e1 w1 ⟨rfl, B1⟩
      go_wp2_with fail
      refine (kLI'.out _ (hEH.out.below B1)).mono ?_
      rintro e2 w2 ⟨rfl, B2⟩
      have P2 := bthen B1 B2
      go_wp2_with fail
      refine (kA'.out _ (ET_below hgH.out P2)).mono ?_
      rintro e3 w3 ⟨rfl, B3⟩
      have P3 := bthen P2 B3
      go_wp2_with fail
      refine (kLA'.out _ (hEH.out.below P3)).mono ?_
      rintro e4 w4 ⟨rfl, B4⟩
      have P4 := bthen P3 B4
      go_wp2_with fail
      refine (kC.out _ (ET_below hgH.out P4)).mono ?_
      rintro e5 w5 ⟨rfl, B5⟩
      have P5 := bthen P4 B5
      go_wp2_with fail
      go_ret
      refine ⟨?_, P5⟩
      show Ending.returned (Value.string ((⟨#[]⟩ : ByteArray) ++ I ++ P ++ (⟨#[117, 110, 107, 110, 111, 119, 110]⟩ : ByteArray))) = Ending.returned (Value.string R)
      rw [hR.out]
      simp only [bempty, bemptyR]
end Go.Proofs.YtcbcpncbekeoaaaDoor
