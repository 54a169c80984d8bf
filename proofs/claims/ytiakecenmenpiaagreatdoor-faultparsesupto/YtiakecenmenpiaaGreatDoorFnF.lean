
import Derived.Test.YtiakecenmenpiaaGreatDoorFnE
namespace Go.Proofs.YtiakecenmenpiaaGreatDoor
open Go.RowKit
set_option linter.unusedVariables false
set_option linter.unusedSimpArgs false
theorem trim_size (T : ByteArray) : (⟨(Lib.trimPrefix T.data.toList errno6).toArray⟩ : ByteArray).size ≤ T.size := by
  rw [mk_size]
  have : T.data.toList.length = T.size := rfl
  unfold Lib.trimPrefix
  split
  · rw [List.length_drop]; omega
  · omega
set_option maxRecDepth 100000 in
set_option maxHeartbeats 2000000 in
theorem find_other (T : ByteArray) (hsz : T.size ≤ 281474976710656) (hno : ∀ p ∈ tab, p.2 ≠ T.data.toList) (w : World) (hE : EV w) :
    Calls Tryz.prog 20 #[.string T] w fun ev w' => FT T ev ∧ Below w.heap.size w w' := by
  have hcp := Tryz.strings_CutPrefix T ⟨#[101, 114, 114, 110, 111, 32]⟩
  rw [show (⟨#[101, 114, 114, 110, 111, 32]⟩ : ByteArray).data.toList = errno6 from rfl] at hcp
  have htr := trim_size T
  have hat : Hid (∀ n, I64' n → nameS n = T → Lib.atoiAll (⟨(Lib.trimPrefix T.data.toList errno6).toArray⟩ : ByteArray).data.toList = .ok n) := fun n hn hT => long_atoi hno hn hT
  obtain ⟨b, hb⟩ : ∃ b, b = Lib.hasPrefix T.data.toList errno6 := ⟨_, rfl⟩
  obtain ⟨D, hD⟩ : ∃ D : ByteArray, D = ⟨(Lib.trimPrefix T.data.toList errno6).toArray⟩ := ⟨_, rfl⟩
  rw [← hb, ← hD] at hcp
  rw [← hD] at hat htr
  have hcpH : Hid _ := hcp
  have hatoi : Hid (∀ w, EV w → Calls Tryz.prog 27 #[.string D] w fun e w' => AtoiE D e ∧ Below w.heap.size w w') := fun w h => atoi_any D (by omega) w h
  have hnoH : Hid (∀ p ∈ tab, p.2 ≠ T.data.toList) := hno
  have hEH : Hid (EV w) := hE
  clear hcp hb hD hno hE htr
  go_enter Tryz.func20, Tryz.ntmps20
  go_wp2_with (go_at_call 38; refine (names_any _).mono ?_; rintro e w' ⟨rfl, rfl⟩)
  go_loopw [12] (fun i wr => ∃ k : Nat, k ≤ 58 ∧ i = .int .i64 k ∧ Below (w.heap.size + 1) (w.alloc (.cells tabCells 89)) wr) (fun i _ => 58 - (intOf i).toNat)
  case atStart => exact ⟨0, Nat.zero_le _, rfl, Below.refl _ _⟩
  case round =>
    obtain ⟨k, hk, rfl, hb⟩ := hrel
    by_cases hk58 : k < 58
    · have kI : (k : Int) < 58 := by omega
      obtain ⟨q, hq⟩ : ∃ q, tab[k]? = some q := ⟨_, List.getElem?_eq_getElem (by rw [tab_len]; exact hk58)⟩
      have hc1 : wr.cell? ⟨w.heap.size, k * 2, none⟩ = some (.int .i64 q.1) := by rw [hb.cell (by simp), Nat.mul_comm]; exact (tab_cell k q hq w).1
      have hc2 : wr.cell? ⟨w.heap.size, k * 2 + 1, none⟩ = some (.string ⟨q.2.toArray⟩) := by rw [hb.cell (by simp), Nat.mul_comm]; exact (tab_cell k q hq w).2
      have hs : w.heap.size < wr.heap.size := by have := hb.size; simp at this; omega
      obtain ⟨Q, hQ⟩ : ∃ Q : ByteArray, Q = ⟨q.2.toArray⟩ := ⟨_, rfl⟩
      rw [← hQ] at hc2
      have hpe : (Q.toList == T.toList) = false := ba_ne (fun h => hnoH.out q (mem_tab hq) (by rw [← h, hQ]))
      clear hq hQ
      go_wp2
      go_roundw
      case rel => exact ⟨k + 1, by omega, by go_num, hb.alloc (by omega) _⟩
      case measure => simp [intOf]; omega
    · obtain rfl : k = 58 := by omega
      have hB : Below w.heap.size w wr := ((Below.refl w.heap.size w).alloc (Nat.le_refl _) _).trans (hb.mono (by omega))
      have hBH : Hid _ := hB
      clear hb hB
      go_wp2_with fail
      refine (hcpH.out _).mono ?_
      rintro e2 w3 ⟨rfl, rfl⟩
      go_wp2_with fail
      refine (hatoi.out _ (hEH.out.below hBH.out)).mono ?_
      rintro e3 w4 ⟨⟨v, E, hv, rfl, hcase⟩, B4⟩
      have P4 := bthen hBH.out B4
      have P4H : Hid _ := P4
      have hvH : Hid _ := hv
      clear P4 B4 hBH hv
      rcases hcase with ⟨rfl, hok⟩ | ⟨te, pe, rfl, hbad⟩
      · have hokH : Hid _ := hok
        clear hok
        have hname : Hid (∀ w, EV w → Calls Tryz.prog 22 #[.int .i64 v] w fun ev w' => ev = .returned (.string (nameS v)) ∧ Below w.heap.size w w') := fun w h => name_any v hvH.out.1 hvH.out.2 w h
        obtain ⟨M, hM⟩ : ∃ M, M = nameS v := ⟨_, rfl⟩
        rw [← hM] at hname
        have hMH : Hid _ := hM
        clear hM
        go_wp2_with fail
        refine (hname.out _ (hEH.out.below P4H.out)).mono ?_
        rintro e5 w5 ⟨rfl, B5⟩
        have P5 := bthen P4H.out B5
        have P5H : Hid _ := P5
        clear P5 B5 P4H
        by_cases hMT : M = T
        · have hpe : (M.toList == T.toList) = true := by rw [hMT]; simp
          have hR : Hid (nameS v = T) := by unfold Hid; rw [← hMH.out, hMT]
          clear hMT
          go_wp2_with fail
          go_ret2
          exact ⟨Or.inl ⟨v, hvH.out, hR.out, rfl⟩, P5H.out⟩
        · have hpe := ba_ne hMT
          have hR : Hid (∀ n, I64' n → nameS n ≠ T) := fun n hn hT => by
            have h1 := hat.out n hn hT
            rw [hokH.out] at h1
            have : v = n := Lib.NumEnd.ok.inj h1
            rw [← this, ← hMH.out] at hT
            exact hMT hT
          clear hMT
          go_wp2_with fail
          refine (new_any 4 rfl _).mono ?_
          rintro e6 w6 ⟨rfl, rfl⟩
          go_wp2_with fail
          go_ret2
          exact ⟨Or.inr ⟨hR.out, rfl⟩, P5H.out⟩
      · have hR : Hid (∀ n, I64' n → nameS n ≠ T) := fun n hn hT => hbad n (hat.out n hn hT)
        clear hbad
        go_wp2_with fail
        refine (new_any 4 rfl _).mono ?_
        rintro e6 w6 ⟨rfl, rfl⟩
        go_wp2_with fail
        go_ret2
        exact ⟨Or.inr ⟨hR.out, rfl⟩, P4H.out⟩
theorem find_any (T : ByteArray) (hsz : T.size ≤ 281474976710656) (w : World) (hE : EV w) :
    Calls Tryz.prog 20 #[.string T] w fun ev w' => FT T ev ∧ Below w.heap.size w w' := by
  rcases first_row (fun p : Int × List UInt8 => p.2 = T.data.toList) tab with ⟨K, p, hK, he, hb⟩ | hno
  · exact find_known T K p hK he hb w
  · exact find_other T hsz hno w hE
end Go.Proofs.YtiakecenmenpiaaGreatDoor
