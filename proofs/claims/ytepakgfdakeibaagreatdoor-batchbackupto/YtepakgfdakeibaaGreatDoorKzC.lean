
import Derived.Test.YtepakgfdakeibaaGreatDoorKzA
import Derived.Test.YtepakgfdakeibaaGreatDoorKyF
namespace Go.Proofs.YtepakgfdakeibaaGreatDoor
open Go.RowKit Go.Shelf
set_option linter.unusedVariables false
set_option linter.unusedSimpArgs false
def rst (l : List TagP) (k : Nat) : Bool := risB (l.drop (k - 1)) && !(l.drop k).any oddB
theorem rst_zero {l : List TagP} {t : TagP} (ht : l[0]? = some t) : rst l 0 = (columnB t.1 && cleanB t.2 256 && rst l 1) := by
  obtain ⟨h1, rfl⟩ := List.getElem?_eq_some_iff.1 ht
  unfold rst
  rw [show (l.drop 0).any oddB = (oddB l[0] || (l.drop 1).any oddB) by rw [List.drop_eq_getElem_cons h1, List.any_cons]]
  unfold oddB
  cases columnB l[0].1 <;> cases cleanB l[0].2 256 <;> simp [Bool.and_comm]
theorem rst_succ {l : List TagP} {k : Nat} {t u : TagP} (ht : l[k]? = some t) (hu : l[k + 1]? = some u) : rst l (k + 1) = (columnB u.1 && cleanB u.2 256 && Op.bytesLess t.1.toList u.1.toList && rst l (k + 2)) := by
  have h := risB_step ht hu
  obtain ⟨h2, rfl⟩ := List.getElem?_eq_some_iff.1 hu
  unfold rst
  rw [show (l.drop (k + 1)).any oddB = (oddB l[k + 1] || (l.drop (k + 2)).any oddB) by rw [List.drop_eq_getElem_cons h2, List.any_cons], show k + 1 - 1 = k by omega, show k + 2 - 1 = k + 1 by omega, h, less_str]
  unfold oddB
  cases columnB l[k + 1].1 <;> cases cleanB l[k + 1].2 256 <;> cases decide (strC t.1 l[k + 1].1 < 0) <;> simp
theorem rst_end {l : List TagP} {k : Nat} (h : l.length ≤ k) : rst l k = true := by
  unfold rst
  rw [risB_end (by omega), List.drop_eq_nil_of_le h]; rfl
theorem rst_tags (l : List TagP) : tagsB l = (decide (l.length ≤ 8) && rst l 0) := by
  unfold tagsB rst; simp [Bool.and_assoc]
theorem BdAt.drewN {W : World} {N : Nat} (h : BdAt W N) : ∀ q, BdAt (W.drewN q) N
  | 0 => h
  | q + 1 => (BdAt.drewN h q : BdAt _ N)
set_option maxRecDepth 100000 in
set_option maxHeartbeats 8000000 in
theorem rtags_any (a : Option Addr) (l : List TagP) (c : Nat) (w : World) (hl : l.length ≤ 9223372036854775807) (ha : TgIn w a l) :
    Calls Tryz.prog 76 #[.slice a l.length c] w fun e w' => e = .returned (bdV (if tagsB l then 0 else 52)) ∧ Below w.heap.size w w' := by
  have hA : Hid (TgIn w a l) := ha
  clear ha
  have hr0 := rst_tags l
  obtain ⟨R, hR⟩ : ∃ R, tagsB l = R := ⟨_, rfl⟩
  rw [hR] at hr0 ⊢
  clear hR
  obtain ⟨n, hn⟩ : ∃ n, l.length = n := ⟨_, rfl⟩
  have hN : Hid (l.length = n) := hn
  rw [hn] at hl hr0 ⊢
  clear hn
  have hR0 : Hid ((decide (n ≤ 8) && rst l 0) = R) := hr0.symm
  clear hr0
  have hd : decide ((n : Int) ≤ 8) = decide (n ≤ 8) := by by_cases h : n ≤ 8 <;> simp <;> omega
  have hB0 : Below w.heap.size w (w.alloc bdO) := (Below.refl _ w).alloc (Nat.le_refl _) _
  have hN0 := BdAt.new w
  unfold bdO at hB0 hN0
  go_enter Tryz.func76, Tryz.ntmps76
  go_wp2_with fail
  generalize w.alloc (.cells #[.int .i64 0, .int .i64 0, .int .i64 0, .bool false, .bool false] 36) = w0 at *
  go_loopw [3, 4] (fun o i wr => ∃ (k : Nat) (g : Bool), i = .int .i64 (k : Int) ∧ o = .bool g ∧ k ≤ n ∧ Hid ((g && rst l k) = R) ∧ BdAt wr w.heap.size ∧ Below w.heap.size w wr) (fun _ i _ => n - (intOf i).toNat)
  case atStart => exact ⟨0, decide (n ≤ 8), rfl, by first | rfl | rw [hd], Nat.zero_le _, hR0, hN0, hB0⟩
  case round =>
    obtain ⟨k, g, rfl, rfl, hkn, hI, hD, hB⟩ := hrel
    by_cases hk : k < n
    · have hkI : (k : Int) < (n : Int) := by omega
      --ROUND
      cases k with
      | zero =>
        have K1 : Hid (Value.int .i64 1 = Value.int .i64 ((0 + 1 : Nat) : Int)) := rfl
        have hkI : ((0 : Nat) : Int) < (n : Int) := by omega
        obtain ⟨t, ht⟩ : ∃ t, l[0]? = some t := ⟨_, List.getElem?_eq_getElem (by have := hN.out; omega)⟩
        obtain ⟨b1, o1, rfl, hb1, t1, t2⟩ := hA.out.at hB ht
        have hst0 := rst_zero ht
        obtain ⟨ta, tb⟩ := t
        simp only at t1 t2 hst0
        simp only [Nat.zero_mul, Nat.add_zero] at t1 t2
        have cW : Hid (∀ W, Calls Tryz.prog 78 #[.string ta] W fun e w' => e = .returned (.bool (columnB ta)) ∧ w' = W) := rword_is ta
        have cT : Hid (∀ W, Calls Tryz.prog 98 #[.string tb] W fun e w' => e = .returned (.bool (cleanB tb 256)) ∧ w' = W) := rtext_is tb
        generalize columnB ta = cc at *
        generalize cleanB tb 256 = ct at *
        have hst : Hid ((g && (cc && ct && rst l (0 + 1))) = R) := by have := hI.out; rw [hst0] at this; exact this
        have gM : Hid (n - (((0 : Nat) : Int) + 1).toNat < n - ((0 : Nat) : Int).toNat) := by show _ < _; omega
        have g2 : 0 + 1 ≤ n := by omega
        have hDH : Hid (BdAt wr w.heap.size) := hD
        have hBH : Hid (Below w.heap.size w wr) := hB
        clear hD ht hst0 hB
        cases g with
        | false =>
          have hz : Hid ((false && rst l (0 + 1)) = R) := (by have := hI.out; simpa using this : (false && rst l (0 + 1)) = R)
          clear hst
          go_wp2_with fail
          go_quiet (first | (go_at_call 78; exact Calls.quiet_of_same (cW.out _)) | (go_at_call 98; exact Calls.quiet_of_same (cT.out _)))
          go_wp2_with fail
          go_round
          case measure => simp only [intOf]; exact gM.out
          case rel => exact ⟨_, _, K1.out, rfl, g2, hz, hDH.out.drewN _, bdrewN hBH.out _⟩
        | true =>
          cases cc with
          | false =>
            have hz : Hid ((false && rst l (0 + 1)) = R) := (by have := hst.out; simpa using this : (false && rst l (0 + 1)) = R)
            clear hst
            go_wp2_with fail
            go_quiet (first | (go_at_call 78; exact Calls.quiet_of_same (cW.out _)) | (go_at_call 98; exact Calls.quiet_of_same (cT.out _)))
            go_wp2_with fail
            go_round
            case measure => simp only [intOf]; exact gM.out
            case rel => exact ⟨_, _, K1.out, rfl, g2, hz, hDH.out.drewN _, bdrewN hBH.out _⟩
          | true =>
            cases ct with
            | false =>
              have hz : Hid ((false && rst l (0 + 1)) = R) := (by have := hst.out; simpa using this : (false && rst l (0 + 1)) = R)
              clear hst
              go_wp2_with fail
              go_quiet (first | (go_at_call 78; exact Calls.quiet_of_same (cW.out _)) | (go_at_call 98; exact Calls.quiet_of_same (cT.out _)))
              go_wp2_with fail
              go_round
              case measure => simp only [intOf]; exact gM.out
              case rel => exact ⟨_, _, K1.out, rfl, g2, hz, hDH.out.drewN _, bdrewN hBH.out _⟩
            | true =>
              have hz : Hid ((true && rst l (0 + 1)) = R) := (by have := hst.out; simpa using this : (true && rst l (0 + 1)) = R)
              clear hst
              go_wp2_with fail
              go_quiet (first | (go_at_call 78; exact Calls.quiet_of_same (cW.out _)) | (go_at_call 98; exact Calls.quiet_of_same (cT.out _)))
              go_wp2_with fail
              go_round
              case measure => simp only [intOf]; exact gM.out
              case rel => exact ⟨_, _, K1.out, rfl, g2, hz, hDH.out.drewN _, bdrewN hBH.out _⟩
      | succ j =>
        have hkI : (j : Int) + 1 < (n : Int) := by omega
        have K1 : Hid (Value.int .i64 ((j : Int) + 1 + 1) = Value.int .i64 ((j + 1 + 1 : Nat) : Int)) := congrArg _ (by omega)
        have hk1 : IntKind.i64.wrap ((j : Int) + 1 + 1) = (j : Int) + 1 + 1 := IntWalk.i64_in _ (by omega)
        have hk2 : wrap64 ((j : Int) + 1 + 1) = (j : Int) + 1 + 1 := IntWalk.wrap64_in _ (by omega)
        have hk3 : wrap64 ((j : Int) + 1 - 1) = (j : Int) := by rw [show (j : Int) + 1 - 1 = j by omega]; exact IntWalk.wrap64_in _ (by omega)
        have hk4 : ((j : Int) + 1 == 0) = false := by simp; omega
        obtain ⟨t, ht⟩ : ∃ t, l[j + 1]? = some t := ⟨_, List.getElem?_eq_getElem (by have := hN.out; omega)⟩
        obtain ⟨u, hu⟩ : ∃ u, l[j]? = some u := ⟨_, List.getElem?_eq_getElem (by have := hN.out; omega)⟩
        obtain ⟨b1, o1, rfl, hb1, t1, t2⟩ := hA.out.at hB ht
        obtain ⟨b2, o2, e2, hb2, u1, u2⟩ := hA.out.at hB hu
        obtain ⟨rfl, rfl⟩ : b1 = b2 ∧ o1 = o2 := by cases e2; exact ⟨rfl, rfl⟩
        have hst0 := rst_succ hu ht
        obtain ⟨ta, tb⟩ := t
        obtain ⟨ua, ub⟩ := u
        simp only at t1 t2 hst0 u1
        have cW : Hid (∀ W, Calls Tryz.prog 78 #[.string ta] W fun e w' => e = .returned (.bool (columnB ta)) ∧ w' = W) := rword_is ta
        have cT : Hid (∀ W, Calls Tryz.prog 98 #[.string tb] W fun e w' => e = .returned (.bool (cleanB tb 256)) ∧ w' = W) := rtext_is tb
        generalize columnB ta = cc at *
        generalize cleanB tb 256 = ct at *
        have hst : Hid ((g && (cc && ct && Op.bytesLess ua.toList ta.toList && rst l (j + 1 + 1))) = R) := by have := hI.out; rw [hst0] at this; exact this
        have gM : Hid (n - ((j : Int) + 1 + 1).toNat < n - ((j : Int) + 1).toNat) := by show _ < _; omega
        have g2 : j + 1 + 1 ≤ n := by omega
        have hDH : Hid (BdAt wr w.heap.size) := hD
        have hBH : Hid (Below w.heap.size w wr) := hB
        clear hD ht hu hst0 hB u2 e2
        cases g with
        | false =>
          have hz : Hid ((false && rst l (j + 1 + 1)) = R) := (by have := hI.out; simpa using this : (false && rst l (j + 1 + 1)) = R)
          clear hst
          go_wp2_with fail
          go_quiet (first | (go_at_call 78; exact Calls.quiet_of_same (cW.out _)) | (go_at_call 98; exact Calls.quiet_of_same (cT.out _)))
          go_wp2_with fail
          go_round
          case measure => simp only [intOf]; exact gM.out
          case rel => exact ⟨_, _, K1.out, rfl, g2, hz, hDH.out.drewN _, bdrewN hBH.out _⟩
        | true =>
          cases cc with
          | false =>
            have hz : Hid ((false && rst l (j + 1 + 1)) = R) := (by have := hst.out; simpa using this : (false && rst l (j + 1 + 1)) = R)
            clear hst
            go_wp2_with fail
            go_quiet (first | (go_at_call 78; exact Calls.quiet_of_same (cW.out _)) | (go_at_call 98; exact Calls.quiet_of_same (cT.out _)))
            go_wp2_with fail
            go_round
            case measure => simp only [intOf]; exact gM.out
            case rel => exact ⟨_, _, K1.out, rfl, g2, hz, hDH.out.drewN _, bdrewN hBH.out _⟩
          | true =>
            cases ct with
            | false =>
              have hz : Hid ((false && rst l (j + 1 + 1)) = R) := (by have := hst.out; simpa using this : (false && rst l (j + 1 + 1)) = R)
              clear hst
              go_wp2_with fail
              go_quiet (first | (go_at_call 78; exact Calls.quiet_of_same (cW.out _)) | (go_at_call 98; exact Calls.quiet_of_same (cT.out _)))
              go_wp2_with fail
              go_round
              case measure => simp only [intOf]; exact gM.out
              case rel => exact ⟨_, _, K1.out, rfl, g2, hz, hDH.out.drewN _, bdrewN hBH.out _⟩
            | true =>
              cases hless : Op.bytesLess ua.toList ta.toList with
              | false =>
                rw [hless] at hst
                have hz : Hid ((false && rst l (j + 1 + 1)) = R) := (by have := hst.out; simpa using this : (false && rst l (j + 1 + 1)) = R)
                clear hst
                go_wp2_with fail
                go_quiet (first | (go_at_call 78; exact Calls.quiet_of_same (cW.out _)) | (go_at_call 98; exact Calls.quiet_of_same (cT.out _)))
                go_wp2_with fail
                go_round
                case measure => simp only [intOf]; exact gM.out
                case rel => exact ⟨_, _, K1.out, rfl, g2, hz, hDH.out.drewN _, bdrewN hBH.out _⟩
              | true =>
                rw [hless] at hst
                have hz : Hid ((true && rst l (j + 1 + 1)) = R) := (by have := hst.out; simpa using this : (true && rst l (j + 1 + 1)) = R)
                clear hst
                go_wp2_with fail
                go_quiet (first | (go_at_call 78; exact Calls.quiet_of_same (cW.out _)) | (go_at_call 98; exact Calls.quiet_of_same (cT.out _)))
                go_wp2_with fail
                go_round
                case measure => simp only [intOf]; exact gM.out
                case rel => exact ⟨_, _, K1.out, rfl, g2, hz, hDH.out.drewN _, bdrewN hBH.out _⟩
    · have hkI : ¬ (k : Int) < (n : Int) := by omega
      have hf := hI.out
      rw [rst_end (by have := hN.out; omega), Bool.and_true] at hf
      subst hf
      clear hI hR0
      cases g with
      | true =>
        obtain ⟨_, b1, b2, b3, b4, b5, g0⟩ := hD
        have g1 := g0 0
        have g2 := g0 1
        have g3 := g0 2
        have g4 := g0 3
        have g5 := g0 4
        clear g0
        go_wp2_with fail
        simp [bodyPost, results, Tryz.results76, go_sem, b1, b2, b3, b4, b5]
        exact ⟨rfl, setBad hB (Nat.le_refl _)⟩
      | false =>
        go_wp2_with fail
        refine Calls.mono (rnew_any 52 _) ?_
        rintro e w2 ⟨rfl, B2⟩
        have P2 := hB.trans (B2.mono hB.size)
        have N2 := hD.below B2
        clear hD hB
        unfold bdV
        obtain ⟨_, b1, b2, b3, b4, b5, g0⟩ := N2
        have g1 := g0 0
        have g2 := g0 1
        have g3 := g0 2
        have g4 := g0 3
        have g5 := g0 4
        clear g0
        go_wp2_with fail
        simp [bodyPost, results, Tryz.results76, go_sem, b1, b2, b3, b4, b5]
        exact ⟨rfl, setBad P2 (Nat.le_refl _)⟩
end Go.Proofs.YtepakgfdakeibaaGreatDoor
