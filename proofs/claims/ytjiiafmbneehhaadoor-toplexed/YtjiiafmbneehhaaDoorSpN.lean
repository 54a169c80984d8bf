
import Derived.Test.YtjiiafmbneehhaaDoorSpL
namespace Go.Proofs.YtjiiafmbneehhaaDoor
open Go.RowKit Go.Shelf
set_option linter.unusedVariables false
set_option linter.unusedSimpArgs false
theorem pre_one (l : List UInt8) (c : UInt8) : Lib.hasPrefix l [c] = decide (l.head? = some c) := by
  cases l with
  | nil => simp [Lib.hasPrefix, List.isPrefixOf]
  | cons a r =>
    simp only [Lib.hasPrefix, List.isPrefixOf, List.head?_cons, Option.some.injEq, Bool.and_true]
    by_cases h : a = c
    · simp [h]
    · simp [h, Ne.symm h]
theorem lite_pre (s : ByteArray) (c : UInt8) (b : Bool) (h : decide (s.data.toList.head? = some c) = b) (w : World) : Calls Tryd.prog 25 #[.string s, .string ⟨#[c]⟩] w fun e w' => e = .returned (.bool b) ∧ w' = w := by
  have H := Tryd.stringslite_HasPrefix s ⟨#[c]⟩ w
  rw [show (⟨#[c]⟩ : ByteArray).data.toList = [c] from rfl, pre_one, h] at H
  exact H
set_option maxRecDepth 100000 in
theorem lcut_no (s : ByteArray) (c : UInt8) (h : s.data.toList.head? ≠ some c) (w : World) : Calls Tryd.prog 38 #[.string s, .string ⟨#[c]⟩] w fun e w' => e = .returned (.tuple #[.string s, .bool false]) ∧ w' = w := by
  have H := fun W => lite_pre s c false (decide_eq_false h) W
  clear h
  go_enter Tryd.func38, Tryd.ntmps38
  go_wp2_with (go_at_call 25; refine (H _).mono ?_; rintro e w' ⟨rfl, rfl⟩)
  go_ret2
  exact ⟨rfl, rfl⟩
set_option maxRecDepth 100000 in
theorem lcut_yes (s : ByteArray) (c : UInt8) (h : s.data.toList.head? = some c) (w : World) : Calls Tryd.prog 38 #[.string s, .string ⟨#[c]⟩] w fun e w' => e = .returned (.tuple #[.string (s.extract 1 s.size), .bool true]) ∧ w' = w := by
  have H := fun W => lite_pre s c true (decide_eq_true h) W
  have hp : 1 ≤ s.size := by
    rw [← sz_list]; cases hl : s.data.toList with
    | nil => rw [hl] at h; simp at h
    | cons => simp
  have hb : ¬ (s.size : Int) < 1 := by omega
  have hz : (⟨#[c]⟩ : ByteArray).size = 1 := rfl
  clear h
  go_enter Tryd.func38, Tryd.ntmps38
  go_wp2_with (go_at_call 25; refine (H _).mono ?_; rintro e w' ⟨rfl, rfl⟩)
  go_ret2
  exact ⟨rfl, rfl⟩
theorem cut_no (s : ByteArray) (c : UInt8) (h : s.data.toList.head? ≠ some c) (w : World) : Calls Tryd.prog 30 #[.string s, .string ⟨#[c]⟩] w fun e w' => e = .returned (.tuple #[.string s, .bool false]) ∧ w' = w := by
  have H := fun W => lcut_no s c h W
  clear h
  go_enter Tryd.func30, Tryd.ntmps30
  go_wp2_with (go_at_call 38; refine (H _).mono ?_; rintro e w' ⟨rfl, rfl⟩)
  go_ret2
  exact ⟨rfl, rfl⟩
theorem cut_yes (s : ByteArray) (c : UInt8) (h : s.data.toList.head? = some c) (w : World) : Calls Tryd.prog 30 #[.string s, .string ⟨#[c]⟩] w fun e w' => e = .returned (.tuple #[.string (s.extract 1 s.size), .bool true]) ∧ w' = w := by
  have H := fun W => lcut_yes s c h W
  clear h
  go_enter Tryd.func30, Tryd.ntmps30
  go_wp2_with (go_at_call 38; refine (H _).mono ?_; rintro e w' ⟨rfl, rfl⟩)
  go_ret2
  exact ⟨rfl, rfl⟩
/-- an error by its number. -/
def erV (c : Int) : Value := if c = 0 then .nilIface else .iface 33 (.int .i64 c)
theorem erV_0 : erV 0 = .nilIface := rfl
theorem erV_40 : erV 40 = .iface 33 (.int .i64 40) := rfl
theorem erV_20 : erV 20 = .iface 33 (.int .i64 20) := rfl
theorem rdAll_bd (l : List UInt8) : 0 ≤ (rdAll l).1 ∧ (rdAll l).2 ≤ l.length := by
  have := rd_bd 9 l (-1) 0 0 (by omega) (by omega)
  unfold rdAll; exact ⟨this.1, by omega⟩
theorem read_yes (s : ByteArray) (hs : s.size ≤ 9223372036854775807) (v : Int) (k : Nat) (h : rdAll s.data.toList = (v, k)) (hv : v < 9223372036854775808) (w : World) (hU : UT w) : Calls Tryd.prog 31 #[.string s] w fun e w' => e = .returned (.tuple #[.int .i64 v, .int .i64 (k : Int), .nilIface]) ∧ Below w.heap.size w w' := by
  have H := read_any s hs w hU
  have b := (rdAll_bd s.data.toList).1
  rw [h] at H b
  have i : I64 v := ⟨by simp only at b; omega, hv⟩
  unfold rdE at H; rw [sm0_yes i, sm1_yes i] at H; exact H
theorem read_no (s : ByteArray) (hs : s.size ≤ 9223372036854775807) (v : Int) (k : Nat) (h : rdAll s.data.toList = (v, k)) (hv : ¬ v < 9223372036854775808) (w : World) (hU : UT w) : Calls Tryd.prog 31 #[.string s] w fun e w' => e = .returned (.tuple #[.int .i64 0, .int .i64 (k : Int), .iface 33 (.int .i64 20)]) ∧ Below w.heap.size w w' := by
  have H := read_any s hs w hU
  rw [h] at H
  have i : ¬ I64 v := fun hh => hv hh.2
  unfold rdE at H; rw [sm0_no i, sm1_no i] at H; exact H
set_option maxRecDepth 100000 in
set_option maxHeartbeats 4000000 in
theorem parse_any (s : ByteArray) (hs : s.size ≤ 9223372036854775807) (w : World) (hU : UT w) : Calls Tryd.prog 24 #[.string s] w fun e w' => e = .returned (.tuple #[.int .i64 (spV s.data.toList), erV (spE s.data.toList)]) ∧ Below w.heap.size w w' := by
  obtain ⟨T, b, hT, hC, hz⟩ : ∃ (T : ByteArray) (b : Bool), T.data.toList = spT s.data.toList ∧ (∀ W, Calls Tryd.prog 30 #[.string s, .string ⟨#[45]⟩] W fun e w' => e = .returned (.tuple #[.string T, .bool b]) ∧ w' = W) ∧ (T.size ≤ s.size ∧ (b = true ↔ s.data.toList.head? = some 45)) := by
    by_cases h : s.data.toList.head? = some 45
    · exact ⟨s.extract 1 s.size, true, by rw [ex_list]; unfold spT; rw [if_pos h], fun W => cut_yes s 45 h W, by rw [ex_size]; omega, by simp [h]⟩
    · exact ⟨s, false, by unfold spT; rw [if_neg h], fun W => cut_no s 45 h W, Nat.le_refl _, by simp [h]⟩
  obtain ⟨v, k, hR⟩ : ∃ v k, rdAll T.data.toList = (v, k) := ⟨_, _, rfl⟩
  have bd := rdAll_bd T.data.toList
  rw [hR, sz_list] at bd
  obtain ⟨v0, kb⟩ := bd
  simp only at v0 kb
  have hRY := fun hv W hW => read_yes T (by omega) v k hR hv W hW
  have hRN := fun hv W hW => read_no T (by omega) v k hR hv W hW
  have eE : spE s.data.toList = if k = 0 ∨ k < T.size then 40 else if v < 9223372036854775808 then 0 else 20 := by
    unfold spE; rw [← hT, hR, sz_list]
  have eV : spV s.data.toList = if spE s.data.toList = 0 then (if b = true then -v else v) else 0 := by
    unfold spV; rw [← hT, hR]
    by_cases h : s.data.toList.head? = some 45
    · rw [if_pos h, if_pos (hz.2.2 h)]
    · rw [if_neg h, if_neg (fun hb => h (hz.2.1 hb))]
  have HC : Hid (∀ W, Calls Tryd.prog 30 #[.string s, .string ⟨#[45]⟩] W fun e w' => e = .returned (.tuple #[.string T, .bool b]) ∧ w' = W) := hC
  clear hC hT hz hR
  by_cases hk0 : k = 0
  · have E : spE s.data.toList = 40 := by rw [eE, if_pos (Or.inl hk0)]
    rw [E] at eV
    rw [eV, E, if_neg (by omega), erV_40]
    clear E
    clear eE eV
    have hk0' : ((k : Int) == 0) = true := by simp [hk0]
    subst hk0
    by_cases hv : v < 9223372036854775808
    all_goals
      go_enter Tryd.func24, Tryd.ntmps24
      go_wp2_with (first | (go_at_call 30; refine (HC.out _).mono ?_; rintro e w' ⟨rfl, rfl⟩) | (go_at_call 31; (first | refine (hRY hv _ hU).mono ?_ | refine (hRN hv _ hU).mono ?_); rintro e w1 ⟨rfl, B1⟩) | (go_at_call 7; refine (new_any _ rfl _).mono ?_; rintro e w' ⟨rfl, rfl⟩))
      go_ret2
      exact ⟨rfl, B1⟩
  have hk1 : ((k : Int) == 0) = false := by simp [hk0]
  by_cases hk2 : k < T.size
  · have E : spE s.data.toList = 40 := by rw [eE, if_pos (Or.inr hk2)]
    rw [E] at eV
    rw [eV, E, if_neg (by omega), erV_40]
    clear E
    clear eE eV
    by_cases hv : v < 9223372036854775808
    all_goals
      go_enter Tryd.func24, Tryd.ntmps24
      go_wp2_with (first | (go_at_call 30; refine (HC.out _).mono ?_; rintro e w' ⟨rfl, rfl⟩) | (go_at_call 31; (first | refine (hRY hv _ hU).mono ?_ | refine (hRN hv _ hU).mono ?_); rintro e w1 ⟨rfl, B1⟩) | (go_at_call 7; refine (new_any _ rfl _).mono ?_; rintro e w' ⟨rfl, rfl⟩))
      go_ret2
      exact ⟨rfl, B1⟩
  have E0 : spE s.data.toList = if v < 9223372036854775808 then 0 else 20 := by rw [eE, if_neg (by omega)]
  clear eE
  by_cases hv : v < 9223372036854775808
  · have E : spE s.data.toList = 0 := by rw [E0, if_pos hv]
    rw [E] at eV
    rw [eV, E, if_pos rfl, erV_0]
    clear E E0 eV
    cases b with
    | true =>
      rw [if_pos rfl]
      go_enter Tryd.func24, Tryd.ntmps24
      go_wp2_with (first | (go_at_call 30; refine (HC.out _).mono ?_; rintro e w' ⟨rfl, rfl⟩) | (go_at_call 31; refine (hRY hv _ hU).mono ?_; rintro e w1 ⟨rfl, B1⟩))
      go_ret2
      exact ⟨rfl, B1⟩
    | false =>
      rw [if_neg (by simp)]
      go_enter Tryd.func24, Tryd.ntmps24
      go_wp2_with (first | (go_at_call 30; refine (HC.out _).mono ?_; rintro e w' ⟨rfl, rfl⟩) | (go_at_call 31; refine (hRY hv _ hU).mono ?_; rintro e w1 ⟨rfl, B1⟩))
      go_ret2
      exact ⟨rfl, B1⟩
  · have E : spE s.data.toList = 20 := by rw [E0, if_neg hv]
    rw [E] at eV
    rw [eV, E, if_neg (by omega), erV_20]
    clear E E0 eV
    go_enter Tryd.func24, Tryd.ntmps24
    go_wp2_with (first | (go_at_call 30; refine (HC.out _).mono ?_; rintro e w' ⟨rfl, rfl⟩) | (go_at_call 31; refine (hRN hv _ hU).mono ?_; rintro e w1 ⟨rfl, B1⟩))
    go_ret2
    exact ⟨rfl, B1⟩
end Go.Proofs.YtjiiafmbneehhaaDoor
