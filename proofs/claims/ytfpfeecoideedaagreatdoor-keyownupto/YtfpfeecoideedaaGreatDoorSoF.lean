
import Derived.Test.YtfpfeecoideedaaGreatDoorSoE
import Derived.WalkKit
import Derived.BigQuiet
import Derived.BigRegion
import Derived.LoopTactic
import Derived.Below
import Derived.Deep.RegionHeld3
import Derived.WalkLawsBesides
namespace Go.Proofs.YtfpfeecoideedaaGreatDoor.So
open Go.RowKit
set_option linter.unusedVariables false
set_option linter.unusedSimpArgs false
theorem OB.drew {b : Nat} {w w' : World} (h : OB b w w') : OB b w w'.drew := ⟨h.size, h.keep, h.shp, h.same⟩
set_option maxRecDepth 100000 in
set_option maxHeartbeats 2000000 in
theorem swapR_any (b off n cap : Nat) (F : Nat → Tg) (x y m : Nat) (fv : Value) (w : World) (h : TR w b off n F) (hx : x + m ≤ y) (hy : y + m ≤ n) (hn : n ≤ 4611686018427387904) :
    Calls Tryz.prog 132 #[.slice (some ⟨b, off, none⟩) n cap, .int .i64 (x : Int), .int .i64 (y : Int), .int .i64 (m : Int), fv] w fun e w' => e = .returned undef ∧ TR w' b off n (swR F x y m) ∧ OB b w w' := by
  have H0 : Hid (TR w b off n F) := h
  clear h
  go_enter Tryz.func132, Tryz.ntmps132
  go_wp2_with fail
  go_loopw [10] (fun i wr => ∃ k : Nat, k ≤ m ∧ i = .int .i64 (k : Int) ∧ TR wr b off n (swR F x y k) ∧ OB b w wr) (fun i _ => m - (intOf i).toNat)
  case atStart => exact ⟨0, Nat.zero_le _, rfl, by rw [swR_zero]; exact H0.out, OB.refl _ _⟩
  case round =>
    clear H0
    obtain ⟨k, hk, rfl, hT, hO⟩ := hrel
    by_cases hkm : k < m
    · have hkI : (k : Int) < (m : Int) := by omega
      have e := swR_succ F x y k (by omega)
      generalize swR F x y k = G at hT e
      obtain ⟨⟨a1, a2⟩, a3, a4⟩ := hT.2 (x + k) (by omega)
      obtain ⟨⟨b1, b2⟩, b3, b4⟩ := hT.2 (y + k) (by omega)
      have w1 : IntKind.i64.wrap ((x : Int) + (k : Int)) = (x : Int) + (k : Int) := IntWalk.i64_in _ (by omega)
      have w2 : IntKind.i64.wrap ((y : Int) + (k : Int)) = (y : Int) + (k : Int) := IntWalk.i64_in _ (by omega)
      have i1 : (0 : Int) ≤ (x : Int) + (k : Int) := by omega
      have i2 : (x : Int) + (k : Int) < (n : Int) := by omega
      have j1 : (0 : Int) ≤ (y : Int) + (k : Int) := by omega
      have j2 : (y : Int) + (k : Int) < (n : Int) := by omega
      have ij : ¬ x + k = y + k := by omega
      have ij2 : ¬ y + k = x + k := by omega
      have q1 : ¬ off + (x + k) * 2 = off + (y + k) * 2 := by omega
      have q2 : ¬ off + (x + k) * 2 = off + (y + k) * 2 + 1 := by omega
      have q3 : ¬ off + (x + k) * 2 + 1 = off + (y + k) * 2 := by omega
      have q4 : ¬ off + (x + k) * 2 + 1 = off + (y + k) * 2 + 1 := by omega
      have hTH : Hid _ := hT
      have hOH : Hid _ := hO
      have eH : Hid _ := e
      clear hT hO e
      go_wp2_with fail
      go_region
      have hT2 : TR ((((wr.setCell ⟨b, off + (x + k) * 2, none⟩ (.string (G (y + k)).1)).setCell ⟨b, off + (x + k) * 2 + 1, none⟩ (.string (G (y + k)).2)).setCell ⟨b, off + (y + k) * 2, none⟩ (.string (G (x + k)).1)).setCell ⟨b, off + (y + k) * 2 + 1, none⟩ (.string (G (x + k)).2)) b off n (swR F x y (k + 1)) := by
        rw [← eH.out, sw_upd2]
        exact TR.set (TR.set (show TR wr b off n G from hTH.out) (show x + k < n by omega) _ _) (show y + k < n by omega) _ _
      have hO2 : OB b w ((((wr.setCell ⟨b, off + (x + k) * 2, none⟩ (.string (G (y + k)).1)).setCell ⟨b, off + (x + k) * 2 + 1, none⟩ (.string (G (y + k)).2)).setCell ⟨b, off + (y + k) * 2, none⟩ (.string (G (x + k)).1)).setCell ⟨b, off + (y + k) * 2 + 1, none⟩ (.string (G (x + k)).2)) := (((hOH.out.trans (OB.set _ _ _)).trans (OB.set _ _ _)).trans (OB.set _ _ _)).trans (OB.set _ _ _)
      generalize ((((wr.setCell ⟨b, off + (x + k) * 2, none⟩ (.string (G (y + k)).1)).setCell ⟨b, off + (x + k) * 2 + 1, none⟩ (.string (G (y + k)).2)).setCell ⟨b, off + (y + k) * 2, none⟩ (.string (G (x + k)).1)).setCell ⟨b, off + (y + k) * 2 + 1, none⟩ (.string (G (x + k)).2)) = W2 at hT2 hO2 ⊢
      have kw : IntKind.i64.wrap ((k : Int) + 1) = ((k + 1 : Nat) : Int) := IntWalk.i64_in _ (by omega)
      have hT2H : Hid (TR W2 b off n (swR F x y (k + 1))) := hT2
      have hO2H : Hid (OB b w W2) := hO2
      clear hT2 hO2 hTH hOH eH a1 a2 a3 a4 b1 b2 b3 b4
      go_wp2_with fail
      exact ⟨⟨k + 1, by omega, by first | rfl | simp, hT2H.out, hO2H.out.drew⟩, by simp [intOf]; omega⟩
    · have hke : k = m := by omega
      subst hke
      have hn2 : ¬ (k : Int) < (k : Int) := by omega
      have hTH : Hid _ := hT
      have hOH : Hid _ := hO
      clear hT hO
      go_wp2_with fail
      go_end0
      exact ⟨rfl, hTH.out, hOH.out⟩
set_option maxRecDepth 100000 in
set_option maxHeartbeats 2000000 in
theorem rotate_any (b off n cap : Nat) (F : Nat → Tg) (x m y : Nat) (fv : Value) (w : World) (h : TR w b off n F) (hx : x < m) (hy : m < y) (hyn : y ≤ n) (hn : n ≤ 4611686018427387904) :
    Calls Tryz.prog 124 #[.slice (some ⟨b, off, none⟩) n cap, .int .i64 (x : Int), .int .i64 (m : Int), .int .i64 (y : Int), fv] w fun e w' => e = .returned undef ∧ TR w' b off n (rot F x m y) ∧ OB b w w' := by
  have H0 : Hid (TR w b off n F) := h
  have z1 : IntKind.i64.wrap ((m : Int) - (x : Int)) = (m : Int) - (x : Int) := IntWalk.i64_in _ (by omega)
  have z2 : IntKind.i64.wrap ((y : Int) - (m : Int)) = (y : Int) - (m : Int) := IntWalk.i64_in _ (by omega)
  clear h
  go_enter Tryz.func124, Tryz.ntmps124
  go_wp2_with fail
  go_loopw [10, 11] (fun vi vj wr => ∃ (i j : Nat) (G : Nat → Tg), vi = .int .i64 (i : Int) ∧ vj = .int .i64 (j : Int) ∧ 0 < i ∧ 0 < j ∧ x + i ≤ m ∧ m + j ≤ y ∧ rot G (m - i) m (m + j) = rot F x m y ∧ TR wr b off n G ∧ OB b w wr) (fun vi vj _ => (intOf vi).toNat + (intOf vj).toNat)
  case atStart => exact ⟨m - x, y - m, F, by congr 1; omega, by congr 1; omega, by omega, by omega, by omega, by omega, by rw [show m - (m - x) = x by omega, show m + (y - m) = y by omega], H0.out, OB.refl _ _⟩
  case round =>
    clear H0 z1 z2
    obtain ⟨i, j, G, rfl, rfl, i0, j0, hi, hj, hr, hT, hO⟩ := hrel
    have hTH : Hid (TR wr b off n G) := hT
    have hOH : Hid (OB b w wr) := hO
    have hrH : Hid (rot G (m - i) m (m + j) = rot F x m y) := hr
    clear hT hO hr
    have v1 : IntKind.i64.wrap ((m : Int) - (i : Int)) = (m : Int) - (i : Int) := IntWalk.i64_in _ (by omega)
    have v2 : IntKind.i64.wrap ((m : Int) + (j : Int)) = (m : Int) + (j : Int) := IntWalk.i64_in _ (by omega)
    have v3 : IntKind.i64.wrap ((m : Int) + (j : Int) - (i : Int)) = (m : Int) + (j : Int) - (i : Int) := IntWalk.i64_in _ (by omega)
    rcases Nat.lt_trichotomy i j with c | c | c
    · have c1 : ((i : Int) == (j : Int)) = false := by rw [beq_eq_false_iff_ne]; omega
      have c2 : ¬ (j : Int) < (i : Int) := by omega
      have C : Hid (Calls Tryz.prog 132 #[.slice (some ⟨b, off, none⟩) n cap, .int .i64 ((m : Int) - (i : Int)), .int .i64 ((m : Int) + (j : Int) - (i : Int)), .int .i64 (i : Int), fv] wr fun e w' => e = .returned undef ∧ TR w' b off n (swR G (m - i) (m + j - i) i) ∧ OB b wr w') := by
        have := swapR_any b off n cap G (m - i) (m + j - i) i fv wr hTH.out (by omega) (by omega) hn
        rw [show ((m - i : Nat) : Int) = (m : Int) - (i : Int) by omega, show ((m + j - i : Nat) : Int) = (m : Int) + (j : Int) - (i : Int) by omega] at this
        exact this
      go_wp2_with fail
      refine Calls.mono C.out ?_
      rintro e w2 ⟨rfl, T2, O2⟩
      have T2H : Hid _ := T2
      have v4 : IntKind.i64.wrap ((j : Int) - (i : Int)) = (j : Int) - (i : Int) := IntWalk.i64_in _ (by omega)
      have r2 : Hid (rot (swR G (m - i) (m + j - i) i) (m - i) m (m + (j - i)) = rot F x m y) := by
        show _ = _
        rw [← hrH.out]
        have := rot_less G (a := m - i) (m := m) (b := m + j) (by omega) (by omega) (by omega)
        rw [show m - (m - i) = i by omega] at this
        rw [show m + (j - i) = m + j - i by omega]; exact this
      clear T2 C
      go_wp2_with fail
      exact ⟨⟨i, j - i, _, by rfl, by congr 1; omega, by omega, by omega, by omega, by omega, r2.out, T2H.out, hOH.out.trans O2⟩, by simp [intOf]; omega⟩
    · subst c
      have c1 : ((i : Int) == (i : Int)) = true := by simp
      have C : Hid (Calls Tryz.prog 132 #[.slice (some ⟨b, off, none⟩) n cap, .int .i64 ((m : Int) - (i : Int)), .int .i64 (m : Int), .int .i64 (i : Int), fv] wr fun e w' => e = .returned undef ∧ TR w' b off n (swR G (m - i) m i) ∧ OB b wr w') := by
        have := swapR_any b off n cap G (m - i) m i fv wr hTH.out (by omega) (by omega) hn
        rw [show ((m - i : Nat) : Int) = (m : Int) - (i : Int) by omega] at this
        exact this
      have r2 : Hid (swR G (m - i) m i = rot F x m y) := by
        show _ = _
        rw [← hrH.out]
        have := rot_even G (a := m - i) (m := m) (b := m + i) (by omega) (by omega) (by omega)
        rw [show m - (m - i) = i by omega] at this
        exact this
      go_wp2_with fail
      refine Calls.mono C.out ?_
      rintro e w2 ⟨rfl, T2, O2⟩
      have T2H : Hid _ := T2
      clear T2 C
      go_wp2_with fail
      go_end0
      exact ⟨rfl, by rw [← r2.out]; exact T2H.out, hOH.out.trans O2⟩
    · have c1 : ((i : Int) == (j : Int)) = false := by rw [beq_eq_false_iff_ne]; omega
      have c2 : (j : Int) < (i : Int) := by omega
      have C : Hid (Calls Tryz.prog 132 #[.slice (some ⟨b, off, none⟩) n cap, .int .i64 ((m : Int) - (i : Int)), .int .i64 (m : Int), .int .i64 (j : Int), fv] wr fun e w' => e = .returned undef ∧ TR w' b off n (swR G (m - i) m j) ∧ OB b wr w') := by
        have := swapR_any b off n cap G (m - i) m j fv wr hTH.out (by omega) (by omega) hn
        rw [show ((m - i : Nat) : Int) = (m : Int) - (i : Int) by omega] at this
        exact this
      go_wp2_with fail
      refine Calls.mono C.out ?_
      rintro e w2 ⟨rfl, T2, O2⟩
      have T2H : Hid _ := T2
      have v4 : IntKind.i64.wrap ((i : Int) - (j : Int)) = (i : Int) - (j : Int) := IntWalk.i64_in _ (by omega)
      have r2 : Hid (rot (swR G (m - i) m j) (m - (i - j)) m (m + j) = rot F x m y) := by
        show _ = _
        rw [← hrH.out]
        have := rot_more G (a := m - i) (m := m) (b := m + j) (by omega) (by omega) (by omega)
        rw [show m + j - m = j by omega] at this
        rw [show m - (i - j) = m - i + j by omega]; exact this
      clear T2 C
      go_wp2_with fail
      exact ⟨⟨i - j, j, _, by congr 1; omega, by rfl, by omega, by omega, by omega, by omega, r2.out, T2H.out, hOH.out.trans O2⟩, by simp [intOf]; omega⟩
end Go.Proofs.YtfpfeecoideedaaGreatDoor.So
