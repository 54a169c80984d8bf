
import Derived.Test.YtiakecenmenpiaaGreatDoorFnI
import Derived.Deep.CutRange
namespace Go.Proofs.YtiakecenmenpiaaGreatDoor
open Go.RowKit
set_option linter.unusedVariables false
set_option linter.unusedSimpArgs false
theorem itoa_ne (n : Int) : Lib.itoa n ≠ [] := by
  unfold Lib.itoa; split
  · simp
  · exact dec_ne _
theorem not_ok {T : ByteArray} (h : T ≠ ⟨#[111, 107]⟩) : T.data.toList ≠ [111, 107] := fun e => h (ba_eq e)
/-- no number from 1 to 299 is called so: then no row of the table is. -/
theorem no_row {T : ByteArray} (hok : T ≠ ⟨#[111, 107]⟩) (h : ∀ e : Int, 1 ≤ e → e < 300 → ¬ ((⟨(knL e).toArray⟩ : ByteArray) = T ∧ T ≠ ⟨#[]⟩)) : ∀ p ∈ tab, p.2 ≠ T.data.toList := by
  intro p hp he
  rcases tab_name hp with h1 | ⟨h1, h2, h3⟩
  · exact not_ok hok (by rw [← he, h1])
  · refine h p.1 h1 h2 ⟨ba_eq (by simp [h3, he]), fun h4 => ?_⟩
    rw [h4] at he
    exact (tab_facts p hp).2.1 he
/-- a text without 'errno ' at its front, and something behind, is no number's name, if it is none of the table's. -/
theorem no_long {T : ByteArray} (hno : ∀ p ∈ tab, p.2 ≠ T.data.toList) (h : ¬ (6 < T.size ∧ T.data.toList.take 6 = errno6)) : ∀ n, I64' n → nameS n ≠ T := fun n hn hT => by
  have h1 := name_long (n := n) hno (by rw [← nameS_list, hT])
  refine h ⟨?_, by rw [h1]; exact take6 _⟩
  have h2 : T.data.toList.length = T.size := rfl
  rw [h1] at h2
  have h3 : 0 < (Lib.itoa n).length := List.length_pos_iff.2 (itoa_ne n)
  simp [errno6] at h2; omega
theorem long_drop {T : ByteArray} (hno : ∀ p ∈ tab, p.2 ≠ T.data.toList) {n : Int} (hn : I64' n) (hT : nameS n = T) : Lib.atoiAll (T.data.toList.drop 6) = .ok n := by
  have h := name_long (n := n) hno (by rw [← nameS_list, hT])
  rw [h, show (errno6 ++ Lib.itoa n).drop 6 = Lib.itoa n by simp [errno6]]
  exact atoi_itoa n hn.1 hn.2
theorem ext_front (T : ByteArray) : (T.extract 0 6).data.toList = T.data.toList.take 6 := by simp
theorem ext_back (T : ByteArray) (h : 6 ≤ T.size) : (T.extract 6 T.size).data.toList = T.data.toList.drop 6 := by
  have h2 : T.data.size = T.size := rfl
  have h3 : T.data.toList.length = T.size := rfl
  simp
  rw [List.take_of_length_le (by simp)]
set_option maxRecDepth 100000 in
set_option maxHeartbeats 4000000 in
theorem rfind_any (T : ByteArray) (hsz : T.size ≤ 281474976710656) (w : World) (hE : EV w) :
    Calls Tryz.prog 12 #[.string T] w fun ev w' => FTr T ev ∧ Below w.heap.size w w' := by
  by_cases hok : T = ⟨#[111, 107]⟩
  · subst hok
    have hn : Hid (nameS 0 = ⟨#[111, 107]⟩) := name_0
    go_enter Tryz.func12, Tryz.ntmps12
    go_wp2_with fail
    simp [bodyPost, results, Tryz.results12, go_sem]
    exact ⟨Or.inl ⟨0, ⟨by omega, by omega⟩, hn.out, rfl⟩, bnew (Below.refl _ _) _⟩
  · have hokb := ba_ne hok
    have hokc : (T.toList == [111, 107]) = false := by rw [beq_eq_false_iff_ne, ByteArray.toList_eq]; exact not_ok hok
    have hokH : Hid _ := hok
    have hEH : Hid (EV w) := hE
    have hRB := RB.start w
    clear hok hE
    go_enter Tryz.func12, Tryz.ntmps12
    go_wp2_with fail
    go_loopw [4] (fun i wx => ∃ k : Nat, 1 ≤ k ∧ k ≤ 300 ∧ i = .int .i64 (k : Int) ∧ (∀ e : Int, 1 ≤ e → e < (k : Int) → ¬ ((⟨(knL e).toArray⟩ : ByteArray) = T ∧ T ≠ ⟨#[]⟩)) ∧ RB w wx) (fun i _ => 300 - (intOf i).toNat)
    case atStart => exact ⟨1, Nat.le_refl _, by omega, rfl, fun e h1 h2 => by omega, hRB⟩
    case round =>
      clear hRB
      obtain ⟨k, hk1, hk2, rfl, hall, hR⟩ := hrel
      by_cases hk : k < 300
      · have kI : (k : Int) < 300 := by omega
        have hkn : Hid (∀ w, Calls Tryz.prog 28 #[.int .i64 (k : Int)] w fun ev w' => ev = .returned (.string ⟨(knL (k : Int)).toArray⟩) ∧ Below w.heap.size w w') := fun w => known_any (k : Int) w
        obtain ⟨M, hM⟩ : ∃ M : ByteArray, M = ⟨(knL (k : Int)).toArray⟩ := ⟨_, rfl⟩
        rw [← hM] at hkn
        have hMH : Hid _ := hM
        have hRH : Hid _ := hR
        have hallH : Hid _ := hall
        clear hM hR hall
        go_wp2_with fail
        refine (hkn.out _).mono ?_
        rintro e1 w1 ⟨rfl, B1⟩
        have R1 := hRH.out.below B1
        have R1H : Hid _ := R1
        clear hRH B1 R1
        obtain ⟨e0, e1, e2, e3, e4⟩ := R1H.out.e
        have f0 := R1H.out.f 0
        have f1 := R1H.out.f 1
        have f2 := R1H.out.f 2
        have f3 := R1H.out.f 3
        have f4 := R1H.out.f 4
        have z1 := R1H.out.sz
        by_cases hMT : M = T ∧ T ≠ ⟨#[]⟩
        · obtain ⟨hm, hne⟩ := hMT
          have hN : Hid (nameS (k : Int) = T) := kn_name (by unfold I64'; omega) (by omega) (by rw [← hMH.out, hm]) hne
          have h1 : (M.toList == T.toList) = true := by rw [hm]; simp
          have h2 := ba_ne hne
          have h3 := ne_isEmpty hne
          have h4 : (T.toList == []) = false := by rw [beq_eq_false_iff_ne]; intro h; rw [h] at h3; cases h3
          clear hm hne
          go_wp2_with fail
          simp [bodyPost, results, Tryz.results12, go_sem, e0, e1, e2, e3, e4]
          exact ⟨Or.inl ⟨(k : Int), ⟨by omega, by omega⟩, hN.out, rfl⟩, setBad5 R1H.out.b (Nat.le_refl _)⟩
        · have hnext : Hid (∀ e : Int, 1 ≤ e → e < ((k + 1 : Nat) : Int) → ¬ ((⟨(knL e).toArray⟩ : ByteArray) = T ∧ T ≠ ⟨#[]⟩)) := fun e g1 g2 => by
            rcases Int.lt_or_le e (k : Int) with g | g
            · exact hallH.out e g1 g
            · obtain rfl : e = (k : Int) := by omega
              rw [← hMH.out]; exact hMT
          by_cases hm : M = T
          · have hne : T = ⟨#[]⟩ := by
              rcases Classical.em (T = ⟨#[]⟩) with h | h
              · exact h
              · exact absurd ⟨hm, h⟩ hMT
            have h1 : (M.toList == T.toList) = true := by rw [hm]; simp
            have h2 : (T.toList == []) = true := by rw [hne, ByteArray.toList_eq]; rfl
            have h3 : T.toList.isEmpty = true := by rw [hne, ByteArray.toList_eq]; rfl
            clear hm hne hMT e0 e1 e2 e3 e4 f0 f1 f2 f3 f4
            go_wp2_with fail
            go_roundw
            case rel => exact ⟨k + 1, by omega, by omega, by go_num, hnext.out, R1H.out⟩
            case measure => simp [intOf]; omega
          · have h1 := ba_ne hm
            clear hm hMT e0 e1 e2 e3 e4 f0 f1 f2 f3 f4
            go_wp2_with fail
            go_roundw
            case rel => exact ⟨k + 1, by omega, by omega, by go_num, hnext.out, R1H.out⟩
            case measure => simp [intOf]; omega
      · obtain rfl : k = 300 := by omega
        have hno : Hid (∀ p ∈ tab, p.2 ≠ T.data.toList) := no_row hokH.out (fun e g1 g2 => hall e g1 (by omega))
        have hRH : Hid _ := hR
        clear hall hR hk hk1 hk2
        by_cases c1 : 6 < T.size
        · have c1I : (6 : Int) < (T.size : Int) := by omega
          have c6 : (6 : Int) ≤ (T.size : Int) := by omega
          have c6n : 6 ≤ T.size := by omega
          by_cases hp : T.data.toList.take 6 = errno6
          · have hq : ((T.extract 0 6).toList == [101, 114, 114, 110, 111, 32]) = true := by rw [beq_iff_eq, ByteArray.toList_eq, ext_front]; exact hp
            have hDl := ext_back T c6n
            have hDs : (T.extract 6 T.size).size ≤ 281474976710656 := by
              have h1 : (T.extract 6 T.size).data.toList.length = (T.extract 6 T.size).size := rfl
              have h2 : T.data.toList.length = T.size := rfl
              rw [hDl, List.length_drop] at h1; omega
            obtain ⟨D, hD⟩ : ∃ D, D = T.extract 6 T.size := ⟨_, rfl⟩
            rw [← hD] at hDl hDs
            have hat : Hid (∀ n, I64' n → nameS n = T → Lib.atoiAll D.data.toList = .ok n) := fun n hn hT => by rw [hDl]; exact long_drop hno.out hn hT
            have hatoi : Hid (∀ w, EV w → Calls Tryz.prog 27 #[.string D] w fun e w' => AtoiE D e ∧ Below w.heap.size w w') := fun w h => atoi_any D hDs w h
            clear hp hDl hDs
            go_wp2_with fail
            try rw [← hD]
            refine (hatoi.out _ (hEH.out.below hRH.out.b)).mono ?_
            rintro e3 w4 ⟨⟨v, E, hv, rfl, hcase⟩, B4⟩
            have R4 := hRH.out.below B4
            have R4H : Hid _ := R4
            have hvH : Hid _ := hv
            have hcaseH : Hid _ := hcase
            clear R4 B4 hRH hv hcase hD
            have hname : Hid (∀ w, EV w → Calls Tryz.prog 29 #[.int .i64 v] w fun ev w' => ev = .returned (.string (nameS v)) ∧ Below w.heap.size w w') := fun w h => rname_any v hvH.out.1 hvH.out.2 w h
            obtain ⟨M, hM⟩ : ∃ M, M = nameS v := ⟨_, rfl⟩
            rw [← hM] at hname
            have hMH : Hid _ := hM
            clear hM
            go_wp2_with fail
            refine (hname.out _ (hEH.out.below R4H.out.b)).mono ?_
            rintro e5 w5 ⟨rfl, B5⟩
            have R5 := R4H.out.below B5
            have RX : Hid _ := R5
            clear B5 R4H R5
            by_cases hMT : M = T
            · have hpe : (M.toList == T.toList) = true := by rw [hMT]; simp
              have hN : Hid (nameS v = T) := by unfold Hid; rw [← hMH.out, hMT]
              clear hMT
              obtain ⟨e0, e1, e2, e3, e4⟩ := RX.out.e
              have f0 := RX.out.f 0
              have f1 := RX.out.f 1
              have f2 := RX.out.f 2
              have f3 := RX.out.f 3
              have f4 := RX.out.f 4
              have z7 := RX.out.sz
              go_wp2_with fail
              simp [bodyPost, results, Tryz.results12, go_sem, e0, e1, e2, e3, e4]
              exact ⟨Or.inl ⟨v, hvH.out, hN.out, rfl⟩, setBad5 RX.out.b (Nat.le_refl _)⟩
            · have hpe := ba_ne hMT
              have hRn : Hid (∀ n, I64' n → nameS n ≠ T) := fun n hn hT => by
                have h1 := hat.out n hn hT
                rcases hcaseH.out with ⟨_, hok2⟩ | ⟨te, pe, _, hbad⟩
                · rw [hok2] at h1
                  have : v = n := Lib.NumEnd.ok.inj h1
                  rw [← this, ← hMH.out] at hT
                  exact hMT hT
                · exact hbad n h1
              clear hMT
              go_wp2_with fail
              refine (rnew_any 4 _).mono ?_
              rintro e7 w7 ⟨rfl, B7⟩
              have R7 := RX.out.below B7
              obtain ⟨e0, e1, e2, e3, e4⟩ := R7.e
              have f0 := R7.f 0
              have f1 := R7.f 1
              have f2 := R7.f 2
              have f3 := R7.f 3
              have f4 := R7.f 4
              have z7 := R7.sz
              have b7 := R7.b
              clear R7 B7
              go_wp2_with fail
              simp [bodyPost, results, Tryz.results12, go_sem, e0, e1, e2, e3, e4]
              exact ⟨Or.inr ⟨hRn.out, rfl⟩, setBad5 b7 (Nat.le_refl _)⟩
          · have hq : ((T.extract 0 6).toList == [101, 114, 114, 110, 111, 32]) = false := by rw [beq_eq_false_iff_ne, ByteArray.toList_eq, ext_front]; exact hp
            have hRn : Hid (∀ n, I64' n → nameS n ≠ T) := no_long hno.out (fun h => hp h.2)
            have RX : Hid _ := hRH.out
            clear hp hRH
            go_wp2_with fail
            refine (rnew_any 4 _).mono ?_
            rintro e7 w7 ⟨rfl, B7⟩
            have R7 := RX.out.below B7
            obtain ⟨e0, e1, e2, e3, e4⟩ := R7.e
            have f0 := R7.f 0
            have f1 := R7.f 1
            have f2 := R7.f 2
            have f3 := R7.f 3
            have f4 := R7.f 4
            have z7 := R7.sz
            have b7 := R7.b
            clear R7 B7
            go_wp2_with fail
            simp [bodyPost, results, Tryz.results12, go_sem, e0, e1, e2, e3, e4]
            exact ⟨Or.inr ⟨hRn.out, rfl⟩, setBad5 b7 (Nat.le_refl _)⟩
        · have c1I : ¬ (6 : Int) < (T.size : Int) := by omega
          have hRn : Hid (∀ n, I64' n → nameS n ≠ T) := no_long hno.out (fun h => c1 h.1)
          have RX : Hid _ := hRH.out
          clear c1 hRH
          go_wp2_with fail
          refine (rnew_any 4 _).mono ?_
          rintro e7 w7 ⟨rfl, B7⟩
          have R7 := RX.out.below B7
          obtain ⟨e0, e1, e2, e3, e4⟩ := R7.e
          have f0 := R7.f 0
          have f1 := R7.f 1
          have f2 := R7.f 2
          have f3 := R7.f 3
          have f4 := R7.f 4
          have z7 := R7.sz
          have b7 := R7.b
          clear R7 B7
          go_wp2_with fail
          simp [bodyPost, results, Tryz.results12, go_sem, e0, e1, e2, e3, e4]
          exact ⟨Or.inr ⟨hRn.out, rfl⟩, setBad5 b7 (Nat.le_refl _)⟩
end Go.Proofs.YtiakecenmenpiaaGreatDoor
