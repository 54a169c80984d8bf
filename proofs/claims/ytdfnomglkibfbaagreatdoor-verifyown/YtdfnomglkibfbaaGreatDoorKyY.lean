
import Derived.Test.YtdfnomglkibfbaaGreatDoorKyX
namespace Go.Proofs.YtdfnomglkibfbaaGreatDoor
open Go.RowKit Go.Shelf
set_option linter.unusedVariables false
set_option linter.unusedSimpArgs false
theorem get_at (s : ByteArray) (k : Nat) (h : k < s.size) (x : UInt8) (hx : s.get! k = x) : s[k]'h = x := by rw [← hx]; exact (Utf8W.get!_of_lt s k h).symm
theorem ne_empty (s : ByteArray) (h : s.size ≠ 0) : s.toList.isEmpty = false := by
  rw [Lib.toList_data]
  cases h' : s.data.toList with
  | nil => exact absurd (by rw [Lib.size_eq, h']; rfl) h
  | cons _ _ => rfl
theorem is_empty (s : ByteArray) (h : s.size = 0) : s.toList.isEmpty = true := by
  rw [Lib.toList_data]
  rw [Lib.size_eq] at h
  rw [List.eq_nil_of_length_eq_zero h]; rfl
def WI (s : ByteArray) (n least k u R : Nat) : Prop := wT s n least (n - k) k u = R
def UB (k u : Nat) : Prop := (k = 1 ∧ u < 32) ∨ (k = 2 ∧ u < 2048) ∨ (k = 3 ∧ u < 131072) ∨ (k = 4 ∧ u < 8388608)
theorem UB.lt {k u : Nat} (h : UB k u) (h1 : 1 ≤ k) (h2 : k < 4) : u < 131072 := by unfold UB at h; omega
theorem UB.next {k u x : Nat} (h : UB k u) (h1 : 1 ≤ k) (h2 : k < 4) (hx : x < 64) : UB (k + 1) (u * 64 + x) := by unfold UB at *; omega
set_option maxRecDepth 100000 in
set_option maxHeartbeats 16000000 in
theorem wide_c3 (s : ByteArray) (w : World) (hs : s.size ≤ 4294967296) (hne : s.toList.isEmpty = false) (hz0 : (0 : Int) < (s.size : Int)) (x0 : UInt8) (hs0 : s[0]'(by omega) = x0) (R : Nat) (lo : 194 ≤ x0.toNat) (hi : x0.toNat < 224) (hR : wT s 2 128 1 1 (x0.toNat - 192) = R) :
    Calls Tryz.prog 143 #[.string s] w fun e w' => e = .returned (.int .i64 (R : Int)) ∧ w' = w := by
  have c1I : ¬ (x0.toNat : Int) < 128 := by omega
  have c2I : (194 : Int) ≤ (x0.toNat : Int) := by omega
  have c3I : (x0.toNat : Int) < 224 := by omega
  have hv0 : (x0.toNat : Int) - 192 = ((x0.toNat - 192 : Nat) : Int) := by omega
  have hRH : WI s 2 128 1 (x0.toNat - 192) R := hR
  clear hR
  have hw0 : wrap64 ((x0.toNat - 192 : Nat) : Int) = ((x0.toNat - 192 : Nat) : Int) := IntWalk.wrap64_in _ (by omega)
  go_enter Tryz.func143, Tryz.ntmps143
  go_wp2_with fail
  go_loopw [6, 7] (fun v i wr => ∃ k u : Nat, i = .int .i64 (k : Int) ∧ v = .int .i64 (u : Int) ∧ 1 ≤ k ∧ k ≤ 2 ∧ UB k u ∧ WI s 2 128 k u R ∧ wr = w) (fun _ i _ => 2 - (intOf i).toNat)
  case atStart => exact ⟨1, x0.toNat - 192, rfl, by first | (rw [hv0]) | (simp only [hv0]) | with_reducible rfl, by omega, by omega, by unfold UB; omega, hRH, rfl⟩
  case round =>
    obtain ⟨k, u, rfl, rfl, hk1, hkn, uB, hI, hB⟩ := hrel
    by_cases hk : k < 2
    · have hkI : (k : Int) < 2 := by omega
      have hst := hI
      unfold WI at hst
      rw [show 2 - k = (2 - (k + 1)) + 1 by omega] at hst
      unfold wT at hst
      by_cases hks : k < s.size
      · have hksI : (k : Int) < (s.size : Int) := by omega
        have hksJ : ¬ (s.size : Int) ≤ (k : Int) := by omega
        rw [if_pos hks] at hst
        obtain ⟨x, hx⟩ : ∃ x, s.get! k = x := ⟨_, rfl⟩
        have hsk : s[k]'hks = x := get_at s k hks x hx
        rw [hx] at hst
        have hk1' : IntKind.i64.wrap ((k : Int) + 1) = (k : Int) + 1 := IntWalk.i64_in _ (by omega)
        by_cases d1 : x.toNat < 128
        · rw [if_pos (Or.inl d1)] at hst
          subst hst
          have d1I : (x.toNat : Int) < 128 := by omega
          clear hI hRH uB hx
          go_wp2_with fail
          go_ret
          exact ⟨rfl, by first | rfl | exact hB⟩
        · by_cases d2 : 192 ≤ x.toNat
          · rw [if_pos (Or.inr d2)] at hst
            subst hst
            have d1I : ¬ (x.toNat : Int) < 128 := by omega
            have d2I : (192 : Int) ≤ (x.toNat : Int) := by omega
            clear hI hRH uB hx
            go_wp2_with fail
            go_ret
            exact ⟨rfl, by first | rfl | exact hB⟩
          · rw [if_neg (by omega)] at hst
            have hstH : WI s 2 128 (k + 1) (u * 64 + (x.toNat - 128)) R := hst
            have d1I : ¬ (x.toNat : Int) < 128 := by omega
            have d2I : ¬ (192 : Int) ≤ (x.toNat : Int) := by omega
            have ev : (u : Int) * 64 + ((x.toNat : Int) - 128) = ((u * 64 + (x.toNat - 128) : Nat) : Int) := by omega
            have hu : u < 131072 := uB.lt hk1 (by omega)
            have hB2 : UB (k + 1) (u * 64 + (x.toNat - 128)) := uB.next hk1 (by omega) (by omega)
            clear uB
            have g1 : 1 ≤ k + 1 := Nat.le_add_left 1 k
            have g2 : k + 1 ≤ 2 := hk
            have gM : Hid (2 - ((k : Int) + 1).toNat < 2 - (k : Int).toNat) := by clear hst hI hx; show _ < _; omega
            have m1 : wrap64 ((u : Int) * 64) = (u : Int) * 64 := IntWalk.wrap64_in _ (by omega)
            have m2 : wrap64 ((u : Int) * 64 + ((x.toNat : Int) - 128)) = (u : Int) * 64 + ((x.toNat : Int) - 128) := IntWalk.wrap64_in _ (by omega)
            have m3 : wrap64 ((x.toNat : Int) - 128) = (x.toNat : Int) - 128 := IntWalk.wrap64_in _ (by omega)
            have m4 : wrap64 ((k : Int) + 1) = (k : Int) + 1 := IntWalk.wrap64_in _ (by omega)
            clear hI hRH hx hst
            go_wp2_with fail
            go_round
            case measure => simp only [intOf]; exact gM.out
            case rel =>
              refine ⟨k + 1, u * 64 + (x.toNat - 128), ?_, ?_, ?_, ?_, ?_, ?_, ?_⟩
              · simp only [Int.natCast_add, Int.cast_ofNat_Int]
              · exact congrArg (Value.int .i64) (by omega)
              · exact g1
              · exact g2
              · exact hB2
              · exact hstH
              · first | rfl | exact hB | trivial
      · rw [if_neg hks] at hst
        subst hst
        have hksJ : (s.size : Int) ≤ (k : Int) := by omega
        clear hI hRH uB
        go_wp2_with fail
        go_ret
        exact ⟨rfl, by first | rfl | exact hB⟩
    · have hkI : ¬ (k : Int) < 2 := by omega
      have hst := hI
      unfold WI at hst
      rw [show 2 - k = 0 by omega] at hst
      unfold wT at hst
      clear hI hRH uB
      by_cases e1 : u < 128
      · rw [if_pos (Or.inl e1)] at hst
        subst hst
        have e1I : (u : Int) < 128 := by omega
        go_wp2_with fail
        go_ret
        exact ⟨rfl, by first | rfl | exact hB⟩
      · have e1I : ¬ (u : Int) < 128 := by omega
        by_cases e2 : 55296 ≤ u
        · have e2I : (55296 : Int) ≤ (u : Int) := by omega
          by_cases e3 : u < 57344
          · rw [if_pos (Or.inr (Or.inl ⟨e2, e3⟩))] at hst
            subst hst
            have e3I : (u : Int) < 57344 := by omega
            go_wp2_with fail
            go_ret
            exact ⟨rfl, by first | rfl | exact hB⟩
          · have e3I : ¬ (u : Int) < 57344 := by omega
            by_cases e4 : 1114111 < u
            · rw [if_pos (Or.inr (Or.inr e4))] at hst
              subst hst
              have e4I : (1114111 : Int) < (u : Int) := by omega
              go_wp2_with fail
              go_ret
              exact ⟨rfl, by first | rfl | exact hB⟩
            · rw [if_neg (by omega)] at hst
              subst hst
              have e4I : ¬ (1114111 : Int) < (u : Int) := by omega
              go_wp2_with fail
              go_ret
              exact ⟨rfl, by first | rfl | exact hB⟩
        · have e2I : ¬ (55296 : Int) ≤ (u : Int) := by omega
          rw [if_neg (by omega)] at hst
          subst hst
          have e4I : ¬ (1114111 : Int) < (u : Int) := by omega
          go_wp2_with fail
          go_ret
          exact ⟨rfl, by first | rfl | exact hB⟩
set_option maxRecDepth 100000 in
set_option maxHeartbeats 16000000 in
theorem wide_c4 (s : ByteArray) (w : World) (hs : s.size ≤ 4294967296) (hne : s.toList.isEmpty = false) (hz0 : (0 : Int) < (s.size : Int)) (x0 : UInt8) (hs0 : s[0]'(by omega) = x0) (R : Nat) (lo : 224 ≤ x0.toNat) (hi : x0.toNat < 240) (hR : wT s 3 2048 2 1 (x0.toNat - 224) = R) :
    Calls Tryz.prog 143 #[.string s] w fun e w' => e = .returned (.int .i64 (R : Int)) ∧ w' = w := by
  have c1I : ¬ (x0.toNat : Int) < 128 := by omega
  have c2I : (194 : Int) ≤ (x0.toNat : Int) := by omega
  have c4I : (x0.toNat : Int) < 240 := by omega
  have p1 : ¬ (x0.toNat : Int) < 224 := by omega
  have p2 : (224 : Int) ≤ (x0.toNat : Int) := by omega
  have hv0 : (x0.toNat : Int) - 224 = ((x0.toNat - 224 : Nat) : Int) := by omega
  have hRH : WI s 3 2048 1 (x0.toNat - 224) R := hR
  clear hR
  have hw0 : wrap64 ((x0.toNat - 224 : Nat) : Int) = ((x0.toNat - 224 : Nat) : Int) := IntWalk.wrap64_in _ (by omega)
  go_enter Tryz.func143, Tryz.ntmps143
  go_wp2_with fail
  go_loopw [6, 7] (fun v i wr => ∃ k u : Nat, i = .int .i64 (k : Int) ∧ v = .int .i64 (u : Int) ∧ 1 ≤ k ∧ k ≤ 3 ∧ UB k u ∧ WI s 3 2048 k u R ∧ wr = w) (fun _ i _ => 3 - (intOf i).toNat)
  case atStart => exact ⟨1, x0.toNat - 224, rfl, by first | (rw [hv0]) | (simp only [hv0]) | with_reducible rfl, by omega, by omega, by unfold UB; omega, hRH, rfl⟩
  case round =>
    obtain ⟨k, u, rfl, rfl, hk1, hkn, uB, hI, hB⟩ := hrel
    by_cases hk : k < 3
    · have hkI : (k : Int) < 3 := by omega
      have hst := hI
      unfold WI at hst
      rw [show 3 - k = (3 - (k + 1)) + 1 by omega] at hst
      unfold wT at hst
      by_cases hks : k < s.size
      · have hksI : (k : Int) < (s.size : Int) := by omega
        have hksJ : ¬ (s.size : Int) ≤ (k : Int) := by omega
        rw [if_pos hks] at hst
        obtain ⟨x, hx⟩ : ∃ x, s.get! k = x := ⟨_, rfl⟩
        have hsk : s[k]'hks = x := get_at s k hks x hx
        rw [hx] at hst
        have hk1' : IntKind.i64.wrap ((k : Int) + 1) = (k : Int) + 1 := IntWalk.i64_in _ (by omega)
        by_cases d1 : x.toNat < 128
        · rw [if_pos (Or.inl d1)] at hst
          subst hst
          have d1I : (x.toNat : Int) < 128 := by omega
          clear hI hRH uB hx
          go_wp2_with fail
          go_ret
          exact ⟨rfl, by first | rfl | exact hB⟩
        · by_cases d2 : 192 ≤ x.toNat
          · rw [if_pos (Or.inr d2)] at hst
            subst hst
            have d1I : ¬ (x.toNat : Int) < 128 := by omega
            have d2I : (192 : Int) ≤ (x.toNat : Int) := by omega
            clear hI hRH uB hx
            go_wp2_with fail
            go_ret
            exact ⟨rfl, by first | rfl | exact hB⟩
          · rw [if_neg (by omega)] at hst
            have hstH : WI s 3 2048 (k + 1) (u * 64 + (x.toNat - 128)) R := hst
            have d1I : ¬ (x.toNat : Int) < 128 := by omega
            have d2I : ¬ (192 : Int) ≤ (x.toNat : Int) := by omega
            have ev : (u : Int) * 64 + ((x.toNat : Int) - 128) = ((u * 64 + (x.toNat - 128) : Nat) : Int) := by omega
            have hu : u < 131072 := uB.lt hk1 (by omega)
            have hB2 : UB (k + 1) (u * 64 + (x.toNat - 128)) := uB.next hk1 (by omega) (by omega)
            clear uB
            have g1 : 1 ≤ k + 1 := Nat.le_add_left 1 k
            have g2 : k + 1 ≤ 3 := hk
            have gM : Hid (3 - ((k : Int) + 1).toNat < 3 - (k : Int).toNat) := by clear hst hI hx; show _ < _; omega
            have m1 : wrap64 ((u : Int) * 64) = (u : Int) * 64 := IntWalk.wrap64_in _ (by omega)
            have m2 : wrap64 ((u : Int) * 64 + ((x.toNat : Int) - 128)) = (u : Int) * 64 + ((x.toNat : Int) - 128) := IntWalk.wrap64_in _ (by omega)
            have m3 : wrap64 ((x.toNat : Int) - 128) = (x.toNat : Int) - 128 := IntWalk.wrap64_in _ (by omega)
            have m4 : wrap64 ((k : Int) + 1) = (k : Int) + 1 := IntWalk.wrap64_in _ (by omega)
            clear hI hRH hx hst
            go_wp2_with fail
            go_round
            case measure => simp only [intOf]; exact gM.out
            case rel =>
              refine ⟨k + 1, u * 64 + (x.toNat - 128), ?_, ?_, ?_, ?_, ?_, ?_, ?_⟩
              · simp only [Int.natCast_add, Int.cast_ofNat_Int]
              · exact congrArg (Value.int .i64) (by omega)
              · exact g1
              · exact g2
              · exact hB2
              · exact hstH
              · first | rfl | exact hB | trivial
      · rw [if_neg hks] at hst
        subst hst
        have hksJ : (s.size : Int) ≤ (k : Int) := by omega
        clear hI hRH uB
        go_wp2_with fail
        go_ret
        exact ⟨rfl, by first | rfl | exact hB⟩
    · have hkI : ¬ (k : Int) < 3 := by omega
      have hst := hI
      unfold WI at hst
      rw [show 3 - k = 0 by omega] at hst
      unfold wT at hst
      clear hI hRH uB
      by_cases e1 : u < 2048
      · rw [if_pos (Or.inl e1)] at hst
        subst hst
        have e1I : (u : Int) < 2048 := by omega
        go_wp2_with fail
        go_ret
        exact ⟨rfl, by first | rfl | exact hB⟩
      · have e1I : ¬ (u : Int) < 2048 := by omega
        by_cases e2 : 55296 ≤ u
        · have e2I : (55296 : Int) ≤ (u : Int) := by omega
          by_cases e3 : u < 57344
          · rw [if_pos (Or.inr (Or.inl ⟨e2, e3⟩))] at hst
            subst hst
            have e3I : (u : Int) < 57344 := by omega
            go_wp2_with fail
            go_ret
            exact ⟨rfl, by first | rfl | exact hB⟩
          · have e3I : ¬ (u : Int) < 57344 := by omega
            by_cases e4 : 1114111 < u
            · rw [if_pos (Or.inr (Or.inr e4))] at hst
              subst hst
              have e4I : (1114111 : Int) < (u : Int) := by omega
              go_wp2_with fail
              go_ret
              exact ⟨rfl, by first | rfl | exact hB⟩
            · rw [if_neg (by omega)] at hst
              subst hst
              have e4I : ¬ (1114111 : Int) < (u : Int) := by omega
              go_wp2_with fail
              go_ret
              exact ⟨rfl, by first | rfl | exact hB⟩
        · have e2I : ¬ (55296 : Int) ≤ (u : Int) := by omega
          rw [if_neg (by omega)] at hst
          subst hst
          have e4I : ¬ (1114111 : Int) < (u : Int) := by omega
          go_wp2_with fail
          go_ret
          exact ⟨rfl, by first | rfl | exact hB⟩
set_option maxRecDepth 100000 in
set_option maxHeartbeats 16000000 in
theorem wide_c5 (s : ByteArray) (w : World) (hs : s.size ≤ 4294967296) (hne : s.toList.isEmpty = false) (hz0 : (0 : Int) < (s.size : Int)) (x0 : UInt8) (hs0 : s[0]'(by omega) = x0) (R : Nat) (lo : 240 ≤ x0.toNat) (hi : x0.toNat < 245) (hR : wT s 4 65536 3 1 (x0.toNat - 240) = R) :
    Calls Tryz.prog 143 #[.string s] w fun e w' => e = .returned (.int .i64 (R : Int)) ∧ w' = w := by
  have c1I : ¬ (x0.toNat : Int) < 128 := by omega
  have c2I : (194 : Int) ≤ (x0.toNat : Int) := by omega
  have c5I : (x0.toNat : Int) < 245 := by omega
  have p1 : ¬ (x0.toNat : Int) < 224 := by omega
  have p2 : ¬ (x0.toNat : Int) < 240 := by omega
  have p3 : (240 : Int) ≤ (x0.toNat : Int) := by omega
  have hv0 : (x0.toNat : Int) - 240 = ((x0.toNat - 240 : Nat) : Int) := by omega
  have hRH : WI s 4 65536 1 (x0.toNat - 240) R := hR
  clear hR
  have hw0 : wrap64 ((x0.toNat - 240 : Nat) : Int) = ((x0.toNat - 240 : Nat) : Int) := IntWalk.wrap64_in _ (by omega)
  go_enter Tryz.func143, Tryz.ntmps143
  go_wp2_with fail
  go_loopw [6, 7] (fun v i wr => ∃ k u : Nat, i = .int .i64 (k : Int) ∧ v = .int .i64 (u : Int) ∧ 1 ≤ k ∧ k ≤ 4 ∧ UB k u ∧ WI s 4 65536 k u R ∧ wr = w) (fun _ i _ => 4 - (intOf i).toNat)
  case atStart => exact ⟨1, x0.toNat - 240, rfl, by first | (rw [hv0]) | (simp only [hv0]) | with_reducible rfl, by omega, by omega, by unfold UB; omega, hRH, rfl⟩
  case round =>
    obtain ⟨k, u, rfl, rfl, hk1, hkn, uB, hI, hB⟩ := hrel
    by_cases hk : k < 4
    · have hkI : (k : Int) < 4 := by omega
      have hst := hI
      unfold WI at hst
      rw [show 4 - k = (4 - (k + 1)) + 1 by omega] at hst
      unfold wT at hst
      by_cases hks : k < s.size
      · have hksI : (k : Int) < (s.size : Int) := by omega
        have hksJ : ¬ (s.size : Int) ≤ (k : Int) := by omega
        rw [if_pos hks] at hst
        obtain ⟨x, hx⟩ : ∃ x, s.get! k = x := ⟨_, rfl⟩
        have hsk : s[k]'hks = x := get_at s k hks x hx
        rw [hx] at hst
        have hk1' : IntKind.i64.wrap ((k : Int) + 1) = (k : Int) + 1 := IntWalk.i64_in _ (by omega)
        by_cases d1 : x.toNat < 128
        · rw [if_pos (Or.inl d1)] at hst
          subst hst
          have d1I : (x.toNat : Int) < 128 := by omega
          clear hI hRH uB hx
          go_wp2_with fail
          go_ret
          exact ⟨rfl, by first | rfl | exact hB⟩
        · by_cases d2 : 192 ≤ x.toNat
          · rw [if_pos (Or.inr d2)] at hst
            subst hst
            have d1I : ¬ (x.toNat : Int) < 128 := by omega
            have d2I : (192 : Int) ≤ (x.toNat : Int) := by omega
            clear hI hRH uB hx
            go_wp2_with fail
            go_ret
            exact ⟨rfl, by first | rfl | exact hB⟩
          · rw [if_neg (by omega)] at hst
            have hstH : WI s 4 65536 (k + 1) (u * 64 + (x.toNat - 128)) R := hst
            have d1I : ¬ (x.toNat : Int) < 128 := by omega
            have d2I : ¬ (192 : Int) ≤ (x.toNat : Int) := by omega
            have ev : (u : Int) * 64 + ((x.toNat : Int) - 128) = ((u * 64 + (x.toNat - 128) : Nat) : Int) := by omega
            have hu : u < 131072 := uB.lt hk1 (by omega)
            have hB2 : UB (k + 1) (u * 64 + (x.toNat - 128)) := uB.next hk1 (by omega) (by omega)
            clear uB
            have g1 : 1 ≤ k + 1 := Nat.le_add_left 1 k
            have g2 : k + 1 ≤ 4 := hk
            have gM : Hid (4 - ((k : Int) + 1).toNat < 4 - (k : Int).toNat) := by clear hst hI hx; show _ < _; omega
            have m1 : wrap64 ((u : Int) * 64) = (u : Int) * 64 := IntWalk.wrap64_in _ (by omega)
            have m2 : wrap64 ((u : Int) * 64 + ((x.toNat : Int) - 128)) = (u : Int) * 64 + ((x.toNat : Int) - 128) := IntWalk.wrap64_in _ (by omega)
            have m3 : wrap64 ((x.toNat : Int) - 128) = (x.toNat : Int) - 128 := IntWalk.wrap64_in _ (by omega)
            have m4 : wrap64 ((k : Int) + 1) = (k : Int) + 1 := IntWalk.wrap64_in _ (by omega)
            clear hI hRH hx hst
            go_wp2_with fail
            go_round
            case measure => simp only [intOf]; exact gM.out
            case rel =>
              refine ⟨k + 1, u * 64 + (x.toNat - 128), ?_, ?_, ?_, ?_, ?_, ?_, ?_⟩
              · simp only [Int.natCast_add, Int.cast_ofNat_Int]
              · exact congrArg (Value.int .i64) (by omega)
              · exact g1
              · exact g2
              · exact hB2
              · exact hstH
              · first | rfl | exact hB | trivial
      · rw [if_neg hks] at hst
        subst hst
        have hksJ : (s.size : Int) ≤ (k : Int) := by omega
        clear hI hRH uB
        go_wp2_with fail
        go_ret
        exact ⟨rfl, by first | rfl | exact hB⟩
    · have hkI : ¬ (k : Int) < 4 := by omega
      have hst := hI
      unfold WI at hst
      rw [show 4 - k = 0 by omega] at hst
      unfold wT at hst
      clear hI hRH uB
      by_cases e1 : u < 65536
      · rw [if_pos (Or.inl e1)] at hst
        subst hst
        have e1I : (u : Int) < 65536 := by omega
        go_wp2_with fail
        go_ret
        exact ⟨rfl, by first | rfl | exact hB⟩
      · have e1I : ¬ (u : Int) < 65536 := by omega
        by_cases e2 : 55296 ≤ u
        · have e2I : (55296 : Int) ≤ (u : Int) := by omega
          by_cases e3 : u < 57344
          · rw [if_pos (Or.inr (Or.inl ⟨e2, e3⟩))] at hst
            subst hst
            have e3I : (u : Int) < 57344 := by omega
            go_wp2_with fail
            go_ret
            exact ⟨rfl, by first | rfl | exact hB⟩
          · have e3I : ¬ (u : Int) < 57344 := by omega
            by_cases e4 : 1114111 < u
            · rw [if_pos (Or.inr (Or.inr e4))] at hst
              subst hst
              have e4I : (1114111 : Int) < (u : Int) := by omega
              go_wp2_with fail
              go_ret
              exact ⟨rfl, by first | rfl | exact hB⟩
            · rw [if_neg (by omega)] at hst
              subst hst
              have e4I : ¬ (1114111 : Int) < (u : Int) := by omega
              go_wp2_with fail
              go_ret
              exact ⟨rfl, by first | rfl | exact hB⟩
        · have e2I : ¬ (55296 : Int) ≤ (u : Int) := by omega
          rw [if_neg (by omega)] at hst
          subst hst
          have e4I : ¬ (1114111 : Int) < (u : Int) := by omega
          go_wp2_with fail
          go_ret
          exact ⟨rfl, by first | rfl | exact hB⟩
set_option maxRecDepth 100000 in
set_option maxHeartbeats 16000000 in
theorem wide_any (s : ByteArray) (w : World) (hs : s.size ≤ 4294967296) :
    Calls Tryz.prog 143 #[.string s] w fun e w' => e = .returned (.int .i64 (wideB s : Int)) ∧ w' = w := by
  by_cases h0 : s.size = 0
  · have he := is_empty s h0
    have hR : wideB s = 0 := by unfold wideB; rw [if_pos h0]
    rw [hR]
    go_enter Tryz.func143, Tryz.ntmps143
    go_wp2_with fail
    go_ret
    exact ⟨rfl, rfl⟩
  have hne := ne_empty s h0
  have hz0 : (0 : Int) < (s.size : Int) := by omega
  obtain ⟨x0, hx0⟩ : ∃ x0, s.get! 0 = x0 := ⟨_, rfl⟩
  have hs0 : s[0]'(by omega) = x0 := get_at s 0 (by omega) x0 hx0
  obtain ⟨R, hR⟩ : ∃ R, wideB s = R := ⟨_, rfl⟩
  rw [hR]
  unfold wideB at hR
  rw [if_neg h0, hx0] at hR
  clear hx0
  by_cases c1 : x0.toNat < 128
  · rw [if_pos c1] at hR
    subst hR
    have c1I : (x0.toNat : Int) < 128 := by omega
    go_enter Tryz.func143, Tryz.ntmps143
    go_wp2_with fail
    go_ret
    exact ⟨rfl, rfl⟩
  rw [if_neg c1] at hR
  have c1I : ¬ (x0.toNat : Int) < 128 := by omega
  by_cases c2 : x0.toNat < 194
  · rw [if_pos c2] at hR
    subst hR
    have c2I : ¬ (194 : Int) ≤ (x0.toNat : Int) := by omega
    have c2J : ¬ (224 : Int) ≤ (x0.toNat : Int) := by omega
    have c2K : ¬ (240 : Int) ≤ (x0.toNat : Int) := by omega
    go_enter Tryz.func143, Tryz.ntmps143
    go_wp2_with fail
    go_ret
    exact ⟨rfl, rfl⟩
  rw [if_neg c2] at hR
  have c2I : (194 : Int) ≤ (x0.toNat : Int) := by omega
  by_cases c3 : x0.toNat < 224
  · rw [if_pos c3] at hR
    exact wide_c3 s w hs hne hz0 x0 hs0 R (by omega) c3 hR
  rw [if_neg c3] at hR
  by_cases c4 : x0.toNat < 240
  · rw [if_pos c4] at hR
    exact wide_c4 s w hs hne hz0 x0 hs0 R (by omega) c4 hR
  rw [if_neg c4] at hR
  by_cases c5 : x0.toNat < 245
  · rw [if_pos c5] at hR
    exact wide_c5 s w hs hne hz0 x0 hs0 R (by omega) c5 hR
  rw [if_neg c5] at hR
  subst hR
  have c6 : ¬ (x0.toNat : Int) < 224 := by omega
  have c7 : ¬ (x0.toNat : Int) < 240 := by omega
  have c8 : ¬ (x0.toNat : Int) < 245 := by omega
  go_enter Tryz.func143, Tryz.ntmps143
  go_wp2_with fail
  go_ret
  exact ⟨rfl, rfl⟩
end Go.Proofs.YtdfnomglkibfbaaGreatDoor
