
import Derived.Test.YtiakecenmenpiaaGreatDoorFpK
import Derived.Test.YtiakecenmenpiaaGreatDoorFpD0
import Derived.BigQuiet
import Derived.WalkSmall
namespace Go.Proofs.YtiakecenmenpiaaGreatDoor
open Go.RowKit
set_option linter.unusedVariables false
set_option linter.unusedSimpArgs false
/-- what the document's lead tells. -/
def LD (W : List UInt8) (S : ByteArray) (e : Ending) : Prop :=
  (leadF W S.data.toList = none ∧ e = .returned (.tuple #[.int .i64 0, .string S, .bool false])) ∨
  (∃ v t r, I64' v ∧ leadF W S.data.toList = some (t, r) ∧ (∀ u, Lib.atoiAll t = .ok u → v = u) ∧ e = .returned (.tuple #[.int .i64 v, .string (B r), .bool true]))
theorem ext_list (S : ByteArray) (a b : Nat) : (S.extract a b).data.toList = (S.data.toList.drop a).take (b - a) := by
  simp [List.drop_take]
theorem ext_end (S : ByteArray) (a : Nat) (h : a ≤ S.size) : (S.extract a S.size).data.toList = S.data.toList.drop a := by
  rw [ext_list, List.take_of_length_le]
  rw [List.length_drop]
  exact Nat.le_refl _
theorem pre_take (W L : List UInt8) : (W.isPrefixOf L = true) ↔ (W.length ≤ L.length ∧ L.take W.length = W) := by
  rw [List.isPrefixOf_iff_prefix, List.prefix_iff_eq_take]
  constructor
  · intro h
    have h2 := congrArg List.length h
    rw [List.length_take] at h2
    exact ⟨by omega, h.symm⟩
  · rintro ⟨_, h⟩; exact h.symm
theorem lead_nopre {W : List UInt8} {S : ByteArray} (h : ¬ (W.length ≤ S.size ∧ S.data.toList.take W.length = W)) : leadF W S.data.toList = none := by
  refine lead_no _ _ ?_
  cases hb : W.isPrefixOf S.data.toList with
  | false => rfl
  | true => exact absurd ((pre_take W S.data.toList).1 hb) h
theorem lead_none2 {W : List UInt8} {S : ByteArray} (h : digF (S.data.toList.drop W.length) = 0 ∨ ((S.data.toList.drop W.length).drop (digF (S.data.toList.drop W.length))).take 2 ≠ csp) : leadF W S.data.toList = none := by
  by_cases hb : W.isPrefixOf S.data.toList = true
  · unfold leadF; rw [if_pos hb, if_pos h]
  · unfold leadF; rw [if_neg hb]
theorem lead_some2 {W : List UInt8} {S : ByteArray} (hp : W.length ≤ S.size ∧ S.data.toList.take W.length = W) (h : ¬ (digF (S.data.toList.drop W.length) = 0 ∨ ((S.data.toList.drop W.length).drop (digF (S.data.toList.drop W.length))).take 2 ≠ csp)) :
    leadF W S.data.toList = some ((S.data.toList.drop W.length).take (digF (S.data.toList.drop W.length)), ((S.data.toList.drop W.length).drop (digF (S.data.toList.drop W.length))).drop 2) := by
  unfold leadF
  rw [if_pos ((pre_take W S.data.toList).2 hp), if_neg h]
set_option maxRecDepth 100000 in
set_option maxHeartbeats 2000000 in
theorem leadN (S : ByteArray) (hs : S.size ≤ 281474976710656) (w : World) (hE : EV w) : Calls Tryz.prog 11 #[.string S, .string ⟨#[110, 117, 109, 98, 101, 114, 32]⟩] w fun e w' => LD numW S e ∧ Below w.heap.size w w' := by
  have hWl : numW.length = 7 := rfl
  have hSl : S.data.toList.length = S.size := rfl
  by_cases c1 : S.size < 7
  · have c1I : (S.size : Int) < 7 := by omega
    have hN : Hid (leadF numW S.data.toList = none) := lead_nopre (by rw [hWl]; omega)
    go_enter Tryz.func11, Tryz.ntmps11
    go_wp2_with fail
    simp [bodyPost, results, Tryz.results11, go_sem]
    exact ⟨Or.inl ⟨hN.out, rfl⟩, Below.refl _ _⟩
  · have c1I : ¬ (S.size : Int) < 7 := by omega
    have c2I : (7 : Int) ≤ (S.size : Int) := by omega
    have c2n : 7 ≤ S.size := by omega
    by_cases hp : S.data.toList.take 7 = numW
    · have hq : ((S.extract 0 7).toList == [110, 117, 109, 98, 101, 114, 32]) = true := by
        rw [beq_iff_eq, ByteArray.toList_eq, ext_list]; exact hp
      have hq2 : ((S.extract 0 7).toList == (⟨#[110, 117, 109, 98, 101, 114, 32]⟩ : ByteArray).toList) = true := by
        rw [beq_iff_eq, ByteArray.toList_eq, ByteArray.toList_eq, ext_list]; exact hp
      have hDl := ext_end S 7 c2n
      have hDs : (S.extract 7 S.size).size = S.size - 7 := by
        have : (S.extract 7 S.size).data.toList.length = (S.extract 7 S.size).size := rfl
        rw [← this, hDl, List.length_drop]; omega
      have hdig : Hid (∀ w, Calls Tryz.prog 26 #[.string (S.extract 7 S.size)] w fun e w' => e = .returned (.int .i64 (digF (S.data.toList.drop 7) : Int)) ∧ w' = w) := fun w => by
        have := digits_any (S.extract 7 S.size) (by omega) w
        rw [hDl] at this; exact this
      have hdl := digF_le (S.data.toList.drop 7)
      rw [List.length_drop, hSl] at hdl
      have hpp : Hid (numW.length ≤ S.size ∧ S.data.toList.take numW.length = numW) := ⟨by rw [hWl]; exact c2n, by rw [hWl]; exact hp⟩
      obtain ⟨n, hn⟩ : ∃ n, n = digF (S.data.toList.drop 7) := ⟨_, rfl⟩
      rw [← hn] at hdig hdl
      have hnH : Hid _ := hn
      have hEH : Hid _ := hE
      clear hn hE hp hDl hDs
      have r1 : IntKind.i64.wrap (7 + (n : Int)) = 7 + (n : Int) := by rw [IntKind.wrap_i64]; omega
      have r1b : wrap64 (7 + (n : Int)) = 7 + (n : Int) := by unfold wrap64; omega
      have r2 : (7 + (n : Int)) ≤ (S.size : Int) := by omega
      have r3 : (0 : Int) ≤ 7 + (n : Int) := by omega
      have r4 : (7 : Int) ≤ 7 + (n : Int) := by omega
      have r5 : (7 + (n : Int)).toNat = 7 + n := by omega
      go_enter Tryz.func11, Tryz.ntmps11
      go_wp2_with fail
      refine (hdig.out _).mono ?_
      rintro e1 w1 ⟨rfl, rfl⟩
      go_upto_region 6 with fail
      have hRl : (S.extract (7 + n) S.size).data.toList = (S.data.toList.drop 7).drop n := by
        rw [ext_end S (7 + n) (by omega), List.drop_drop]
      obtain ⟨R, hR⟩ : ∃ R, R = S.extract (7 + n) S.size := ⟨_, rfl⟩
      rw [← hR] at hRl ⊢
      have hRs : R.data.toList.length = R.size := rfl
      have hRlH : Hid _ := hRl
      have hWlH : Hid _ := hWl
      clear hR hRl hdig hq hq2
      by_cases n0 : n = 0
      · have hN : Hid (leadF numW S.data.toList = none) := lead_none2 (Or.inl (by rw [hWlH.out, ← hnH.out]; exact n0))
        clear hnH
        subst n0
        go_wp2_with fail
        simp [bodyPost, results, Tryz.results11, go_sem]
        exact ⟨Or.inl ⟨hN.out, rfl⟩, Below.refl _ _⟩
      · have n0b : ((n : Int) == 0) = false := by rw [beq_eq_false_iff_ne]; omega
        by_cases r6 : R.size < 2
        · have r6I : (R.size : Int) < 2 := by omega
          have hN : Hid (leadF numW S.data.toList = none) := lead_none2 (Or.inr (by
            rw [hWlH.out, ← hnH.out, ← hRlH.out]
            intro h
            have h2 := congrArg List.length h
            rw [List.length_take] at h2
            simp [csp] at h2; omega))
          clear hnH
          go_wp2_with fail
          simp [bodyPost, results, Tryz.results11, go_sem]
          exact ⟨Or.inl ⟨hN.out, rfl⟩, Below.refl _ _⟩
        · have r6I : ¬ (R.size : Int) < 2 := by omega
          have r7 : (2 : Int) ≤ (R.size : Int) := by omega
          have r7n : 2 ≤ R.size := by omega
          by_cases hc : R.data.toList.take 2 = csp
          · have hb : ((R.extract 0 2).toList == [58, 32]) = true := by rw [beq_iff_eq, ByteArray.toList_eq, ext_list]; exact hc
            have hL : Hid (leadF numW S.data.toList = some ((S.data.toList.drop 7).take n, R.data.toList.drop 2)) := by
              show _ = _
              have h2 := lead_some2 hpp.out (by rw [hWlH.out, ← hnH.out, ← hRlH.out]; rintro (h | h); exact n0 h; exact h hc)
              rw [hWlH.out, ← hnH.out, ← hRlH.out] at h2; exact h2
            have hTl := ext_list S 7 (7 + n)
            rw [Nat.add_sub_cancel_left] at hTl
            have hTs : (S.extract 7 (7 + n)).size ≤ 281474976710656 := by
              have h1 : (S.extract 7 (7 + n)).data.toList.length = (S.extract 7 (7 + n)).size := rfl
              rw [hTl, List.length_take, List.length_drop] at h1; omega
            have kT : Hid (∀ w, EV w → Calls Tryz.prog 27 #[.string (S.extract 7 (7 + n))] w fun e w' => AtoiE (S.extract 7 (7 + n)) e ∧ Below w.heap.size w w') := fun w h => atoi_any _ hTs w h
            have hRb : Hid (R.extract 2 R.size = B (R.data.toList.drop 2)) := by
              show _ = _
              exact ba_eq (by rw [ext_end R 2 r7n, B_list])
            have hTlH : Hid _ := hTl
            clear hTl hTs hc hnH
            go_wp2_with fail
            refine (kT.out _ hEH.out).mono ?_
            rintro e3 w3 ⟨⟨v, E, hv, rfl, hcase⟩, B3⟩
            have hvH : Hid _ := hv
            have hvu : Hid (∀ u, Lib.atoiAll ((S.data.toList.drop 7).take n) = .ok u → v = u) := fun u hu => by
              rw [← hTlH.out] at hu
              rcases hcase with ⟨_, hok⟩ | ⟨te, pe, _, hbad⟩
              · rw [hok] at hu; exact Lib.NumEnd.ok.inj hu
              · exact absurd hu (hbad u)
            clear hcase hv hTlH
            go_wp2_with fail
            go_quiet (fail)
            go_wp2_with fail
            simp [bodyPost, results, Tryz.results11, go_sem]
            refine ⟨Or.inr ⟨v, _, _, hvH.out, hL.out, hvu.out, ?_⟩, ?_⟩
            · rw [hRb.out]
            · first | exact B3 | exact B3.drew | exact below_drewN B3 _
          · have hb : ((R.extract 0 2).toList == [58, 32]) = false := by rw [beq_eq_false_iff_ne, ByteArray.toList_eq, ext_list]; exact hc
            have hN : Hid (leadF numW S.data.toList = none) := lead_none2 (Or.inr (by rw [hWlH.out, ← hnH.out, ← hRlH.out]; exact hc))
            clear hnH hc
            go_wp2_with fail
            simp [bodyPost, results, Tryz.results11, go_sem]
            exact ⟨Or.inl ⟨hN.out, rfl⟩, Below.refl _ _⟩
    · have hq : ((S.extract 0 7).toList == [110, 117, 109, 98, 101, 114, 32]) = false := by
        rw [beq_eq_false_iff_ne, ByteArray.toList_eq, ext_list]; exact hp
      have hq2 : ((S.extract 0 7).toList == (⟨#[110, 117, 109, 98, 101, 114, 32]⟩ : ByteArray).toList) = false := by
        rw [beq_eq_false_iff_ne, ByteArray.toList_eq, ByteArray.toList_eq, ext_list]; exact hp
      have hN : Hid (leadF numW S.data.toList = none) := lead_nopre (by rw [hWl]; exact fun h => hp h.2)
      clear hp
      go_enter Tryz.func11, Tryz.ntmps11
      go_wp2_with fail
      simp [bodyPost, results, Tryz.results11, go_sem]
      exact ⟨Or.inl ⟨hN.out, rfl⟩, Below.refl _ _⟩
set_option maxRecDepth 100000 in
set_option maxHeartbeats 2000000 in
theorem leadA (S : ByteArray) (hs : S.size ≤ 281474976710656) (w : World) (hE : EV w) : Calls Tryz.prog 11 #[.string S, .string ⟨#[97, 116, 32]⟩] w fun e w' => LD atW S e ∧ Below w.heap.size w w' := by
  have hWl : atW.length = 3 := rfl
  have hSl : S.data.toList.length = S.size := rfl
  by_cases c1 : S.size < 3
  · have c1I : (S.size : Int) < 3 := by omega
    have hN : Hid (leadF atW S.data.toList = none) := lead_nopre (by rw [hWl]; omega)
    go_enter Tryz.func11, Tryz.ntmps11
    go_wp2_with fail
    simp [bodyPost, results, Tryz.results11, go_sem]
    exact ⟨Or.inl ⟨hN.out, rfl⟩, Below.refl _ _⟩
  · have c1I : ¬ (S.size : Int) < 3 := by omega
    have c2I : (3 : Int) ≤ (S.size : Int) := by omega
    have c2n : 3 ≤ S.size := by omega
    by_cases hp : S.data.toList.take 3 = atW
    · have hq : ((S.extract 0 3).toList == [97, 116, 32]) = true := by
        rw [beq_iff_eq, ByteArray.toList_eq, ext_list]; exact hp
      have hq2 : ((S.extract 0 3).toList == (⟨#[97, 116, 32]⟩ : ByteArray).toList) = true := by
        rw [beq_iff_eq, ByteArray.toList_eq, ByteArray.toList_eq, ext_list]; exact hp
      have hDl := ext_end S 3 c2n
      have hDs : (S.extract 3 S.size).size = S.size - 3 := by
        have : (S.extract 3 S.size).data.toList.length = (S.extract 3 S.size).size := rfl
        rw [← this, hDl, List.length_drop]; omega
      have hdig : Hid (∀ w, Calls Tryz.prog 26 #[.string (S.extract 3 S.size)] w fun e w' => e = .returned (.int .i64 (digF (S.data.toList.drop 3) : Int)) ∧ w' = w) := fun w => by
        have := digits_any (S.extract 3 S.size) (by omega) w
        rw [hDl] at this; exact this
      have hdl := digF_le (S.data.toList.drop 3)
      rw [List.length_drop, hSl] at hdl
      have hpp : Hid (atW.length ≤ S.size ∧ S.data.toList.take atW.length = atW) := ⟨by rw [hWl]; exact c2n, by rw [hWl]; exact hp⟩
      obtain ⟨n, hn⟩ : ∃ n, n = digF (S.data.toList.drop 3) := ⟨_, rfl⟩
      rw [← hn] at hdig hdl
      have hnH : Hid _ := hn
      have hEH : Hid _ := hE
      clear hn hE hp hDl hDs
      have r1 : IntKind.i64.wrap (3 + (n : Int)) = 3 + (n : Int) := by rw [IntKind.wrap_i64]; omega
      have r1b : wrap64 (3 + (n : Int)) = 3 + (n : Int) := by unfold wrap64; omega
      have r2 : (3 + (n : Int)) ≤ (S.size : Int) := by omega
      have r3 : (0 : Int) ≤ 3 + (n : Int) := by omega
      have r4 : (3 : Int) ≤ 3 + (n : Int) := by omega
      have r5 : (3 + (n : Int)).toNat = 3 + n := by omega
      go_enter Tryz.func11, Tryz.ntmps11
      go_wp2_with fail
      refine (hdig.out _).mono ?_
      rintro e1 w1 ⟨rfl, rfl⟩
      go_upto_region 6 with fail
      have hRl : (S.extract (3 + n) S.size).data.toList = (S.data.toList.drop 3).drop n := by
        rw [ext_end S (3 + n) (by omega), List.drop_drop]
      obtain ⟨R, hR⟩ : ∃ R, R = S.extract (3 + n) S.size := ⟨_, rfl⟩
      rw [← hR] at hRl ⊢
      have hRs : R.data.toList.length = R.size := rfl
      have hRlH : Hid _ := hRl
      have hWlH : Hid _ := hWl
      clear hR hRl hdig hq hq2
      by_cases n0 : n = 0
      · have hN : Hid (leadF atW S.data.toList = none) := lead_none2 (Or.inl (by rw [hWlH.out, ← hnH.out]; exact n0))
        clear hnH
        subst n0
        go_wp2_with fail
        simp [bodyPost, results, Tryz.results11, go_sem]
        exact ⟨Or.inl ⟨hN.out, rfl⟩, Below.refl _ _⟩
      · have n0b : ((n : Int) == 0) = false := by rw [beq_eq_false_iff_ne]; omega
        by_cases r6 : R.size < 2
        · have r6I : (R.size : Int) < 2 := by omega
          have hN : Hid (leadF atW S.data.toList = none) := lead_none2 (Or.inr (by
            rw [hWlH.out, ← hnH.out, ← hRlH.out]
            intro h
            have h2 := congrArg List.length h
            rw [List.length_take] at h2
            simp [csp] at h2; omega))
          clear hnH
          go_wp2_with fail
          simp [bodyPost, results, Tryz.results11, go_sem]
          exact ⟨Or.inl ⟨hN.out, rfl⟩, Below.refl _ _⟩
        · have r6I : ¬ (R.size : Int) < 2 := by omega
          have r7 : (2 : Int) ≤ (R.size : Int) := by omega
          have r7n : 2 ≤ R.size := by omega
          by_cases hc : R.data.toList.take 2 = csp
          · have hb : ((R.extract 0 2).toList == [58, 32]) = true := by rw [beq_iff_eq, ByteArray.toList_eq, ext_list]; exact hc
            have hL : Hid (leadF atW S.data.toList = some ((S.data.toList.drop 3).take n, R.data.toList.drop 2)) := by
              show _ = _
              have h2 := lead_some2 hpp.out (by rw [hWlH.out, ← hnH.out, ← hRlH.out]; rintro (h | h); exact n0 h; exact h hc)
              rw [hWlH.out, ← hnH.out, ← hRlH.out] at h2; exact h2
            have hTl := ext_list S 3 (3 + n)
            rw [Nat.add_sub_cancel_left] at hTl
            have hTs : (S.extract 3 (3 + n)).size ≤ 281474976710656 := by
              have h1 : (S.extract 3 (3 + n)).data.toList.length = (S.extract 3 (3 + n)).size := rfl
              rw [hTl, List.length_take, List.length_drop] at h1; omega
            have kT : Hid (∀ w, EV w → Calls Tryz.prog 27 #[.string (S.extract 3 (3 + n))] w fun e w' => AtoiE (S.extract 3 (3 + n)) e ∧ Below w.heap.size w w') := fun w h => atoi_any _ hTs w h
            have hRb : Hid (R.extract 2 R.size = B (R.data.toList.drop 2)) := by
              show _ = _
              exact ba_eq (by rw [ext_end R 2 r7n, B_list])
            have hTlH : Hid _ := hTl
            clear hTl hTs hc hnH
            go_wp2_with fail
            refine (kT.out _ hEH.out).mono ?_
            rintro e3 w3 ⟨⟨v, E, hv, rfl, hcase⟩, B3⟩
            have hvH : Hid _ := hv
            have hvu : Hid (∀ u, Lib.atoiAll ((S.data.toList.drop 3).take n) = .ok u → v = u) := fun u hu => by
              rw [← hTlH.out] at hu
              rcases hcase with ⟨_, hok⟩ | ⟨te, pe, _, hbad⟩
              · rw [hok] at hu; exact Lib.NumEnd.ok.inj hu
              · exact absurd hu (hbad u)
            clear hcase hv hTlH
            go_wp2_with fail
            go_quiet (fail)
            go_wp2_with fail
            simp [bodyPost, results, Tryz.results11, go_sem]
            refine ⟨Or.inr ⟨v, _, _, hvH.out, hL.out, hvu.out, ?_⟩, ?_⟩
            · rw [hRb.out]
            · first | exact B3 | exact B3.drew | exact below_drewN B3 _
          · have hb : ((R.extract 0 2).toList == [58, 32]) = false := by rw [beq_eq_false_iff_ne, ByteArray.toList_eq, ext_list]; exact hc
            have hN : Hid (leadF atW S.data.toList = none) := lead_none2 (Or.inr (by rw [hWlH.out, ← hnH.out, ← hRlH.out]; exact hc))
            clear hnH hc
            go_wp2_with fail
            simp [bodyPost, results, Tryz.results11, go_sem]
            exact ⟨Or.inl ⟨hN.out, rfl⟩, Below.refl _ _⟩
    · have hq : ((S.extract 0 3).toList == [97, 116, 32]) = false := by
        rw [beq_eq_false_iff_ne, ByteArray.toList_eq, ext_list]; exact hp
      have hq2 : ((S.extract 0 3).toList == (⟨#[97, 116, 32]⟩ : ByteArray).toList) = false := by
        rw [beq_eq_false_iff_ne, ByteArray.toList_eq, ByteArray.toList_eq, ext_list]; exact hp
      have hN : Hid (leadF atW S.data.toList = none) := lead_nopre (by rw [hWl]; exact fun h => hp h.2)
      clear hp
      go_enter Tryz.func11, Tryz.ntmps11
      go_wp2_with fail
      simp [bodyPost, results, Tryz.results11, go_sem]
      exact ⟨Or.inl ⟨hN.out, rfl⟩, Below.refl _ _⟩
end Go.Proofs.YtiakecenmenpiaaGreatDoor
