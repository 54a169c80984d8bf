
import Derived.Test.YtbhohlmlmlpboaaGreatDoorSqA
import Derived.Test.YtbhohlmlmlpboaaGreatDoorSpQ
namespace Go.Proofs.YtbhohlmlmlpboaaGreatDoor
open Go.RowKit Go.Shelf
set_option linter.unusedVariables false
set_option linter.unusedSimpArgs false
set_option maxRecDepth 100000 in
set_option maxHeartbeats 4000000 in
theorem rdate_any (n : Int) (h1 : -719528 ≤ n) (h2 : n < 2932897) (w : World) : Calls Tryz.prog 10 #[.int .i64 n] w fun e w' => e = .returned (.tuple #[.int .i64 (yOf n), .int .i64 (ymOf n), .int .i64 (ydOf n)]) ∧ w' = w := by
  have nlt : ¬ n < -719528 := by omega
  have ngt : ¬ 4000000 < n := by omega
  have t0 : bgn 0 = -719528 := by decide
  have T0 : Hid (bgn 0 = -719528) := t0
  have T1 : Hid (bgn 10000 = 2932897) := by show _ = _; decide
  clear t0
  have Y := fun (y : Int) (a : 0 ≤ y) (b : y ≤ 20000) => year_any y a b w
  go_enter Tryz.func10, Tryz.ntmps10
  go_wp2
  go_loop [5, 6] (fun l yy => ∃ y : Int, 0 ≤ y ∧ y ≤ 10000 ∧ yy = .int .i64 y ∧ 0 ≤ n - bgn y ∧ l = .int .i64 (n - bgn y)) (fun _ yy => (10000 - intOf yy).toNat)
  case atStart => exact ⟨0, by omega, by omega, rfl, by rw [T0.out]; omega, by rw [T0.out]; go_num⟩
  case round =>
    obtain ⟨y, y1, y2, rfl, hr, rfl⟩ := hrel
    have bb := bgn_bd2 y y1 (by omega)
    have lp1 := lp_01 y
    have hy : y ≤ 9999 := by
      apply Decidable.byContradiction; intro hh
      have e : y = 10000 := by omega
      rw [e, T1.out] at hr; omega
    have BS : Hid (bgn (y + 1) = bgn y + 365 + lp y) := bgn_succ y
    by_cases hl : 365 + lp y ≤ n - bgn y
    · go_wp2_with (go_at_call 22; refine (Y _ y1 (by omega)).mono ?_; rintro e w' ⟨rfl, rfl⟩)
      go_round
      case rel => exact ⟨y + 1, by omega, by omega, by go_num, by rw [BS.out]; omega, by rw [BS.out]; go_num⟩
      case measure => simp [intOf]; omega
    · have M := fun (m : Int) (a : 1 ≤ m) (b : m ≤ 12) => month_any y m y1 (by omega) a b w
      go_wp2_with (go_at_call 22; refine (Y _ y1 (by omega)).mono ?_; rintro e w' ⟨rfl, rfl⟩)
      go_loop [5, 7] (fun l mm => ∃ m : Int, 1 ≤ m ∧ m ≤ 12 ∧ mm = .int .i64 m ∧ 0 ≤ n - bgn y - cum y m ∧ l = .int .i64 (n - bgn y - cum y m)) (fun _ mm => (12 - intOf mm).toNat)
      case atStart => exact ⟨1, by omega, by omega, rfl, by simp [cum]; omega, by simp [cum]⟩
      case round =>
        obtain ⟨m, m1, m2, rfl, hr2, rfl⟩ := hrel
        have cb := cum_bd y m m1 (by omega)
        have lk := lenM_bd y m
        have cs := cum_succ y m m1 m2
        have CS : Hid (cum y (m + 1) = cum y m + lenM y m) := cs
        by_cases hlt : n - bgn y - cum y m < lenM y m
        · have U := date_uniq (y := y) (m := m) (d := n - bgn y - cum y m + 1) (n := n) ⟨y1, hy, m1, m2, by omega, by omega⟩ (by unfold dayN; omega)
          have HU : Hid (y = yOf n ∧ m = ymOf n ∧ n - bgn y - cum y m + 1 = ydOf n) := U
          clear U cs
          go_wp2_with (go_at_call 20; refine (M _ m1 m2).mono ?_; rintro e w' ⟨rfl, rfl⟩)
          refine bodyPost_ret (v := .tuple #[.int .i64 y, .int .i64 m, .int .i64 (n - bgn y - cum y m + 1)]) (by simp [results, Tryz.results10, go_sem]) rfl ⟨?_, rfl⟩
          obtain ⟨e1, e2, e3⟩ := HU.out
          rw [← e1, ← e2, ← e3]
        · have hm : m < 12 := by
            apply Decidable.byContradiction; intro hh
            have e : m = 12 := by omega
            subst e
            have c13 := cum_13 y
            rw [show (12 : Int) + 1 = 13 from rfl, c13] at cs
            omega
          clear cs
          go_wp2_with (go_at_call 20; refine (M _ m1 m2).mono ?_; rintro e w' ⟨rfl, rfl⟩)
          go_round
          case rel => exact ⟨m + 1, by omega, by omega, by go_num, by rw [CS.out]; omega, by rw [CS.out]; go_num⟩
          case measure => simp [intOf]; omega
theorem rep_app (j : Nat) (l : List UInt8) : (48 : UInt8) :: (List.replicate j 48 ++ l) = List.replicate (j + 1) 48 ++ l := by rw [List.replicate_succ]; rfl
set_option maxRecDepth 100000 in
set_option maxHeartbeats 4000000 in
theorem two_any (v : Int) (k : Nat) (hv : I64 v) (hk : k ≤ 20) (w : World) (hP : PT w) : Calls Tryz.prog 30 #[.int .i64 v, .int .i64 (k : Int)] w fun e w' => e = .returned (.string (B (padP v k))) ∧ Below w.heap.size w w' := by
  have hl := itoa_len0 v hv
  have H1 : Hid (∀ W, PT W → Calls Tryz.prog 46 #[.int .i64 v] W fun e w' => e = .returned (.string (B (Lib.itoa v))) ∧ Below W.heap.size W w') := fun W h => itoaB v hv W h
  have HE : Hid (padP v k = List.replicate (k - (Lib.itoa v).length) 48 ++ Lib.itoa v) := rfl
  generalize Lib.itoa v = l at *
  have HP : Hid (PT w) := hP
  clear hP hv
  go_enter Tryz.func30, Tryz.ntmps30
  go_wp2_with (go_at_call 46; refine (H1.out _ HP.out).mono ?_; rintro e w1 ⟨rfl, B1⟩)
  go_loop [5] (fun t => ∃ (j : Nat) (T : ByteArray), j ≤ k - l.length ∧ t = .string T ∧ T.size = j + l.length ∧ Hid (T = B (List.replicate j 48 ++ l))) (fun t => match t with | .string T => 100 - T.size | _ => 0)
  case atStart => exact ⟨0, B l, by omega, rfl, by rw [B_size]; omega, rfl⟩
  case round =>
    obtain ⟨j, T, hj, rfl, hz, hT⟩ := hrel
    by_cases hlt : j + l.length < k
    · have hI : ((j + l.length : Nat) : Int) < (k : Int) := by omega
      have c1 : ¬ 9223372036854775807 < 1 + T.size := by omega
      have c2 : ¬ 9223372036854775807 < 1 + (j + l.length) := by omega
      have HN : Hid ((⟨#[48]⟩ : ByteArray) ++ T = B (List.replicate (j + 1) 48 ++ l)) := by
        show _ = _
        rw [hT.out, ← rep_app, show (⟨#[48]⟩ : ByteArray) = B [48] from rfl, B_app]; rfl
      go_wp2
      go_round
      case rel => exact ⟨j + 1, (⟨#[48]⟩ : ByteArray) ++ T, by omega, rfl, by rw [ByteArray.size_append]; show 1 + T.size = _; omega, HN.out⟩
      case measure =>
        show 100 - ((⟨#[48]⟩ : ByteArray) ++ T).size < 100 - T.size
        rw [ByteArray.size_append]; show 100 - (1 + T.size) < 100 - T.size; omega
    · have hI : ¬ ((j + l.length : Nat) : Int) < (k : Int) := by omega
      have ej : j = k - l.length := by omega
      have HX : Hid (B (padP v k) = T) := by show _ = _; rw [HE.out, hT.out, ej]
      go_wp2
      go_ret
      exact ⟨by rw [HX.out]; rfl, B1⟩
end Go.Proofs.YtbhohlmlmlpboaaGreatDoor
