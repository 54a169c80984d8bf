
import Derived.Test.YtlogghajbhllhaaDoorSoM
namespace Go.Proofs.YtlogghajbhllhaaDoor.So
open Go.RowKit
set_option linter.unusedVariables false
set_option linter.unusedSimpArgs false
theorem TR.congr {w : World} {b off n : Nat} {F G : Nat → Tg} (h : TR w b off n F) (e : ∀ k, k < n → F k = G k) : TR w b off n G := ⟨h.1, fun k hk => by rw [← e k hk]; exact h.2 k hk⟩
theorem TR.less {w : World} {b off n m : Nat} {F : Nat → Tg} (h : TR w b off n F) (hm : m ≤ n) : TR w b off m F := ⟨h.1, fun k hk => h.2 k (by omega)⟩
/-- reversed as far as i from both ends. -/
def rv (F : Nat → Tg) (n i : Nat) : Nat → Tg := fun k => if k < i ∨ (n ≤ k + i ∧ k < n) then F (n - 1 - k) else F k
theorem rv_zero (F : Nat → Tg) (n : Nat) : rv F n 0 = F := by
  funext k; unfold rv; rw [if_neg (by omega)]
theorem rv_step (F : Nat → Tg) (n i : Nat) (h : i + i + 1 < n) : sw (rv F n i) i (n - 1 - i) = rv F n (i + 1) := by
  funext k
  unfold sw rv
  repeat' split
  all_goals first | rfl | (exfalso; omega) | (congr 1; omega)
theorem rv_end (F : Nat → Tg) (n i : Nat) (h : n ≤ i + i + 1) (k : Nat) (hk : k < n) : rv F n i k = F (n - 1 - k) := by
  unfold rv
  split
  · rfl
  · congr 1; omega
theorem ba_dec (a b : ByteArray) : (a.toList == b.toList) = decide (a = b) := by
  by_cases h : a = b
  · subst h; simp
  · rw [decide_eq_false h, beq_eq_false_iff_ne]
    intro e
    rw [ByteArray.toList_eq, ByteArray.toList_eq] at e
    exact h (ByteArray.ext (Array.ext' e))
set_option maxRecDepth 100000 in
theorem sameKey_any (x y : Tg) (w : World) : Calls Tryd.prog 50 #[.agg #[.string x.1, .string x.2], .agg #[.string y.1, .string y.2]] w fun e w' => e = .returned (.bool (decide (x.1 = y.1))) ∧ Below w.heap.size w w' := by
  obtain ⟨a1, a2⟩ := x
  obtain ⟨b1, b2⟩ := y
  have B2 : ∀ o p, Below w.heap.size w ((w.alloc o).alloc p) := fun o p => ((Below.refl _ w).alloc (Nat.le_refl _) o).alloc (by simp) p
  go_enter Tryd.func50, Tryd.ntmps50
  go_wp2_with fail
  go_ret
  exact ⟨by rw [← ba_dec]; rfl, B2 _ _⟩
set_option maxRecDepth 100000 in
set_option maxHeartbeats 2000000 in
theorem reverse_any (b off n cap : Nat) (F : Nat → Tg) (w : World) (h : TR w b off n F) (hn : n ≤ 4611686018427387904) :
    Calls Tryd.prog 47 #[.slice (some ⟨b, off, none⟩) n cap] w fun e w' => e = .returned undef ∧ TR w' b off n (fun k => F (n - 1 - k)) ∧ OB b w w' := by
  have H0 : Hid (TR w b off n F) := h
  clear h
  have z1 : IntKind.i64.wrap ((n : Int) - 1) = (n : Int) - 1 := IntWalk.i64_in _ (by omega)
  go_enter Tryd.func47, Tryd.ntmps47
  go_wp2_with fail
  go_loopw [2, 3] (fun vi vj wr => ∃ (i : Nat) (J : Int), vi = .int .i64 (i : Int) ∧ vj = .int .i64 J ∧ Hid (J = (n : Int) - 1 - (i : Int)) ∧ i ≤ n ∧ TR wr b off n (rv F n i) ∧ OB b w wr) (fun vi vj _ => (intOf vj - intOf vi).toNat)
  case atStart => exact ⟨0, (n : Int) - 1, rfl, rfl, by show _ = _; omega, Nat.zero_le _, by rw [rv_zero]; exact H0.out, OB.refl _ _⟩
  case round =>
    clear H0 z1
    obtain ⟨i, J, rfl, rfl, hJ, hin, hT, hO⟩ := hrel
    by_cases hc : (i : Int) < J
    · obtain ⟨j, hj⟩ : ∃ j : Nat, J = (j : Int) := ⟨J.toNat, by have := hJ.out; omega⟩
      subst hj
      have hij : i < j := by omega
      have hjn : j < n := by have := hJ.out; omega
      have e : Hid (sw (rv F n i) i j = rv F n (i + 1)) := by
        have := rv_step F n i (by have := hJ.out; omega)
        rw [show n - 1 - i = j by have := hJ.out; omega] at this
        exact this
      generalize rv F n i = G at hT e
      obtain ⟨⟨a1, a2⟩, a3, a4⟩ := hT.2 i (by omega)
      obtain ⟨⟨b1, b2⟩, b3, b4⟩ := hT.2 j (by omega)
      have i1 : (0 : Int) ≤ (i : Int) := by omega
      have i2 : (i : Int) < (n : Int) := by omega
      have j1 : (0 : Int) ≤ (j : Int) := by omega
      have j2 : (j : Int) < (n : Int) := by omega
      have ij : ¬ i = j := by omega
      have ij2 : ¬ j = i := by omega
      have q1 : ¬ off + i * 2 = off + j * 2 := by omega
      have q2 : ¬ off + i * 2 = off + j * 2 + 1 := by omega
      have q3 : ¬ off + i * 2 + 1 = off + j * 2 := by omega
      have q4 : ¬ off + i * 2 + 1 = off + j * 2 + 1 := by omega
      have kw : IntKind.i64.wrap ((i : Int) + 1) = ((i + 1 : Nat) : Int) := IntWalk.i64_in _ (by omega)
      have kj : IntKind.i64.wrap ((j : Int) - 1) = (j : Int) - 1 := IntWalk.i64_in _ (by omega)
      have hTH : Hid (TR wr b off n G) := hT
      have hOH : Hid (OB b w wr) := hO
      clear hT hO
      go_wp2_with fail
      go_region
      have hT2 : TR ((((wr.setCell ⟨b, off + i * 2, none⟩ (.string (G j).1)).setCell ⟨b, off + i * 2 + 1, none⟩ (.string (G j).2)).setCell ⟨b, off + j * 2, none⟩ (.string (G i).1)).setCell ⟨b, off + j * 2 + 1, none⟩ (.string (G i).2)) b off n (rv F n (i + 1)) := by
        rw [← e.out, sw_upd2]
        exact TR.set (TR.set (show TR wr b off n G from hTH.out) (show i < n by omega) _ _) (show j < n by omega) _ _
      have hO2 : OB b w ((((wr.setCell ⟨b, off + i * 2, none⟩ (.string (G j).1)).setCell ⟨b, off + i * 2 + 1, none⟩ (.string (G j).2)).setCell ⟨b, off + j * 2, none⟩ (.string (G i).1)).setCell ⟨b, off + j * 2 + 1, none⟩ (.string (G i).2)) := (((hOH.out.trans (OB.set _ _ _)).trans (OB.set _ _ _)).trans (OB.set _ _ _)).trans (OB.set _ _ _)
      generalize ((((wr.setCell ⟨b, off + i * 2, none⟩ (.string (G j).1)).setCell ⟨b, off + i * 2 + 1, none⟩ (.string (G j).2)).setCell ⟨b, off + j * 2, none⟩ (.string (G i).1)).setCell ⟨b, off + j * 2 + 1, none⟩ (.string (G i).2)) = W2 at hT2 hO2 ⊢
      have hT2H : Hid (TR W2 b off n (rv F n (i + 1))) := hT2
      have hO2H : Hid (OB b w W2) := hO2
      clear hT2 hO2 hTH hOH e a1 a2 a3 a4 b1 b2 b3 b4
      go_wp2_with fail
      exact ⟨⟨i + 1, (j : Int) - 1, by first | rfl | simp, rfl, by have := hJ.out; show _ = _; omega, by omega, hT2H.out, hO2H.out.drew⟩, by simp [intOf]; omega⟩
    · have fin : Hid (TR wr b off n (fun k => F (n - 1 - k))) := hT.congr (rv_end F n i (by have := hJ.out; omega))
      have hOH : Hid (OB b w wr) := hO
      clear hT hO
      go_wp2_with fail
      go_end0
      exact ⟨rfl, fin.out, hOH.out⟩
set_option maxRecDepth 100000 in
theorem sortStable_any (R : En → En → Prop) (c : Tg → Tg → Int) (hC : CmpA 45 c) (tr : ∀ x y z, R x y → R y z → R x z) (b off n cap : Nat) (hn : n ≤ 1152921504606846976) (f : Nat → En) (w : World) (hT : TR w b off n (fs f)) (X : Xall R (ltE c) n f) :
    Calls Tryd.prog 48 #[.slice (some ⟨b, off, none⟩) n cap, .func (.func 45) #[] #[]] w fun e w' => e = .returned undef ∧ ∃ g, Pr 0 n f g ∧ Sd R 0 n g ∧ TR w' b off n (fs g) ∧ OB b w w' := by
  have C : Hid _ := stable_any R c hC tr b off n cap hn f w hT X
  clear hC hT X
  go_enter Tryd.func48, Tryd.ntmps48
  go_wp2_with fail
  refine Calls.mono C.out ?_
  rintro e w2 ⟨rfl, hh⟩
  have hhH : Hid _ := hh
  clear hh C
  go_wp2_with fail
  go_end0
  exact ⟨rfl, hhH.out⟩
end Go.Proofs.YtlogghajbhllhaaDoor.So
