
import Derived.Test.YtjiiafmbneehhaaDoorSpM
import Derived.Test.YtjiiafmbneehhaaDoorSpG
import Derived.Test.YtjiiafmbneehhaaDoorSpE
import Derived.Lib.SmallJoins
import Derived.Lib.IndexBytes
namespace Go.Proofs.YtjiiafmbneehhaaDoor
open Go.RowKit Go.Shelf
set_option linter.unusedVariables false
set_option linter.unusedSimpArgs false
theorem ex_list (s : ByteArray) (k : Nat) : (s.extract k s.size).data.toList = s.data.toList.drop k := Lib.extract_to_end s k
theorem sz_list (s : ByteArray) : s.data.toList.length = s.size := by simp
theorem ex_size (s : ByteArray) (k : Nat) : (s.extract k s.size).size = s.size - k := by rw [← sz_list, ex_list, List.length_drop, sz_list]
set_option maxRecDepth 100000 in
set_option maxHeartbeats 2000000 in
theorem count_any (s : ByteArray) (hs : s.size ≤ 9223372036854775807) (w : World) : Calls Tryd.prog 46 #[.string s] w fun e w' => e = .returned (.int .i64 ((cnt s.data.toList : Nat) : Int)) ∧ w' = w := by
  go_enter Tryd.func46, Tryd.ntmps46
  go_wp2
  go_loop [3] (fun n => ∃ k : Nat, k ≤ s.size ∧ n = .int .i64 k ∧ ∀ (i : Nat) (h : i < s.data.toList.length), i < k → isD s.data.toList[i] = true) (fun n => s.size - (intOf n).toNat)
  case atStart => exact ⟨0, Nat.zero_le _, rfl, fun i h hi => by omega⟩
  case round =>
    obtain ⟨k, hk, rfl, hall⟩ := hrel
    have HA : Hid (∀ (i : Nat) (h : i < s.data.toList.length), i < k → isD s.data.toList[i] = true) := hall
    clear hall
    by_cases hlt : k < s.size
    · by_cases c1 : 48 ≤ (s[k].toNat : Int)
      · by_cases c2 : (s[k].toNat : Int) ≤ 57
        · go_wp2
          go_round
          case rel =>
            refine ⟨k + 1, by omega, by go_num, fun i h hi => ?_⟩
            by_cases e : i = k
            · subst e; exact decide_eq_true ⟨c1, c2⟩
            · exact HA.out i h (by omega)
          case measure => simp [intOf]; omega
        · have H : Hid (cnt s.data.toList = k) := cnt_of _ k (by rw [sz_list]; omega) HA.out (fun h => decide_eq_false fun hh => c2 hh.2)
          go_wp2
          go_ret
          exact ⟨ret_int (by rw [H.out]), rfl⟩
      · have H : Hid (cnt s.data.toList = k) := cnt_of _ k (by rw [sz_list]; omega) HA.out (fun h => decide_eq_false fun hh => c1 hh.1)
        go_wp2
        go_ret
        exact ⟨ret_int (by rw [H.out]), rfl⟩
    · have H : Hid (cnt s.data.toList = k) := cnt_of _ k (by rw [sz_list]; omega) HA.out (fun h => by rw [sz_list] at h; omega)
      go_wp2
      go_ret
      exact ⟨ret_int (by rw [H.out]), rfl⟩
/-- the part's unit, found among the first ones. -/
def bst (l : List UInt8) : Nat → Int
  | 0 => -1
  | k + 1 => if Lib.hasPrefix l (unm k) = true ∧ (bst l k = -1 ∨ unl (bst l k) < unl k) then k else bst l k
def pfx (l : List UInt8) (k : Nat) : Bool := Lib.hasPrefix l (unm k)
theorem bst_pre (l : List UInt8) (k : Nat) (hk : k < 8) (h : pfx l k = true) : bst l k = if k = 5 then 3 else -1 := by
  have hc : k = 0 ∨ k = 1 ∨ k = 2 ∨ k = 3 ∨ k = 4 ∨ k = 5 ∨ k = 6 ∨ k = 7 := by omega
  unfold pfx at h
  rcases hc with e | e | e | e | e | e | e | e <;> subst e
  all_goals
    cases l with
    | nil => simp [Lib.hasPrefix, unm, List.isPrefixOf] at h
    | cons a r => cases r with
      | nil =>
        simp [Lib.hasPrefix, unm, List.isPrefixOf] at h
        try (subst h; simp [bst, Lib.hasPrefix, unm, List.isPrefixOf, unl])
      | cons b r =>
        simp [Lib.hasPrefix, unm, List.isPrefixOf] at h
        first
          | (obtain ⟨h, h'⟩ := h; subst h; subst h'; simp [bst, Lib.hasPrefix, unm, List.isPrefixOf, unl])
          | (subst h; simp [bst, Lib.hasPrefix, unm, List.isPrefixOf, unl])
theorem bst_yes (l : List UInt8) (k : Nat) (hk : k < 8) (h : pfx l k = true) : bst l (k + 1) = k := by
  have e := bst_pre l k hk h
  rw [bst, if_pos]
  refine ⟨h, ?_⟩
  rw [e]
  by_cases h5 : k = 5
  · subst h5; right; simp [unl]
  · left; rw [if_neg h5]
theorem bst_no (l : List UInt8) (k : Nat) (h : pfx l k = false) : bst l (k + 1) = bst l k := by
  unfold pfx at h
  rw [bst, if_neg (by simp [h])]
theorem bst_all (l : List UInt8) : bst l 8 = unitP l := by
  cases l with
  | nil => simp [bst, unitP, Lib.hasPrefix, unm, List.isPrefixOf]
  | cons a r => cases r with
    | nil =>
      by_cases e0 : a = 119
      · subst e0; simp [bst, unitP, Lib.hasPrefix, unm, List.isPrefixOf, unl]
      by_cases e1 : a = 100
      · subst e1; simp [bst, unitP, Lib.hasPrefix, unm, List.isPrefixOf, unl]
      by_cases e2 : a = 104
      · subst e2; simp [bst, unitP, Lib.hasPrefix, unm, List.isPrefixOf, unl]
      by_cases e3 : a = 109
      · subst e3; simp [bst, unitP, Lib.hasPrefix, unm, List.isPrefixOf, unl]
      by_cases e4 : a = 115
      · subst e4; simp [bst, unitP, Lib.hasPrefix, unm, List.isPrefixOf, unl]
      simp [bst, unitP, Lib.hasPrefix, unm, List.isPrefixOf, unl, e0, e1, e2, e3, e4, Ne.symm e0, Ne.symm e1, Ne.symm e2, Ne.symm e3, Ne.symm e4]
    | cons b r =>
      by_cases eb : b = 115
      · subst eb
        by_cases e0 : a = 119
        · subst e0; simp [bst, unitP, Lib.hasPrefix, unm, List.isPrefixOf, unl]
        by_cases e1 : a = 100
        · subst e1; simp [bst, unitP, Lib.hasPrefix, unm, List.isPrefixOf, unl]
        by_cases e2 : a = 104
        · subst e2; simp [bst, unitP, Lib.hasPrefix, unm, List.isPrefixOf, unl]
        by_cases e3 : a = 109
        · subst e3; simp [bst, unitP, Lib.hasPrefix, unm, List.isPrefixOf, unl]
        by_cases e4 : a = 115
        · subst e4; simp [bst, unitP, Lib.hasPrefix, unm, List.isPrefixOf, unl]
        by_cases e5 : a = 117
        · subst e5; simp [bst, unitP, Lib.hasPrefix, unm, List.isPrefixOf, unl]
        by_cases e6 : a = 110
        · subst e6; simp [bst, unitP, Lib.hasPrefix, unm, List.isPrefixOf, unl]
        simp [bst, unitP, Lib.hasPrefix, unm, List.isPrefixOf, unl, e0, e1, e2, e3, e4, e5, e6, Ne.symm e0, Ne.symm e1, Ne.symm e2, Ne.symm e3, Ne.symm e4, Ne.symm e5, Ne.symm e6]
      · by_cases e0 : a = 119
        · subst e0; simp [bst, unitP, Lib.hasPrefix, unm, List.isPrefixOf, unl, eb, Ne.symm eb]
        by_cases e1 : a = 100
        · subst e1; simp [bst, unitP, Lib.hasPrefix, unm, List.isPrefixOf, unl, eb, Ne.symm eb]
        by_cases e2 : a = 104
        · subst e2; simp [bst, unitP, Lib.hasPrefix, unm, List.isPrefixOf, unl, eb, Ne.symm eb]
        by_cases e3 : a = 109
        · subst e3; simp [bst, unitP, Lib.hasPrefix, unm, List.isPrefixOf, unl, eb, Ne.symm eb]
        by_cases e4 : a = 115
        · subst e4; simp [bst, unitP, Lib.hasPrefix, unm, List.isPrefixOf, unl, eb, Ne.symm eb]
        simp [bst, unitP, Lib.hasPrefix, unm, List.isPrefixOf, unl, eb, Ne.symm eb, e0, e1, e2, e3, e4, Ne.symm e0, Ne.symm e1, Ne.symm e2, Ne.symm e3, Ne.symm e4]
end Go.Proofs.YtjiiafmbneehhaaDoor
