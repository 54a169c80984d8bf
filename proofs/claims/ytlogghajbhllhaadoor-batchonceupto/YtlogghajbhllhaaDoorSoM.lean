
import Derived.Test.YtlogghajbhllhaaDoorSoL
namespace Go.Proofs.YtlogghajbhllhaaDoor.So
open Go.RowKit
set_option linter.unusedVariables false
set_option linter.unusedSimpArgs false
/-- blocks of 20, the first p in order, the rest as it was. -/
structure L1 (R : En → En → Prop) (c : Tg → Tg → Int) (n p : Nat) (f g : Nat → En) : Prop where
  pr : Pr 0 n f g
  blk : Blk R 20 n (p * 20) g
  cut : Cut R (ltE c) 20 n g
  same : ∀ k, p * 20 ≤ k → g k = f k
theorem L1.start {R : En → En → Prop} {c : Tg → Tg → Int} {n : Nat} {f : Nat → En} (X : Xall R (ltE c) n f) : L1 R c n 0 f f :=
  ⟨Pr.refl _ _ _, by rw [Nat.zero_mul]; exact Blk.zero _ _ _, X.cut _, fun _ _ => rfl⟩
theorem L1.more {R : En → En → Prop} {c : Tg → Tg → Int} {n p : Nat} {f g g' : Nat → En} (h : L1 R c n p f g) (hp : Pr (p * 20) (min ((p + 1) * 20) n) g g') (hg : Sd R (p * 20) (min ((p + 1) * 20) n) g') : L1 R c n (p + 1) f g' :=
  ⟨h.pr.trans (hp.wide (Nat.zero_le _) (Nat.min_le_right _ _)), h.blk.more hp hg, h.cut.pr hp (Nat.le_refl _) (Nat.min_le_left _ _) (Nat.min_le_right _ _), fun k hk => by rw [hp.out (k := k) (by omega)]; exact h.same k (by omega)⟩
theorem L1.xs {R : En → En → Prop} {c : Tg → Tg → Int} {n p : Nat} {f g : Nat → En} (h : L1 R c n p f g) (X : Xall R (ltE c) n f) : ∀ i j, p * 20 ≤ i → i < j → j < n → (ltE c (g j) (g i) = true → R (g j) (g i)) ∧ (ltE c (g j) (g i) = false → R (g i) (g j)) := fun i j x y z => by
  rw [h.same i x, h.same j (by omega)]; exact X i j y z
/-- blocks of s in order. -/
structure L2 (R : En → En → Prop) (c : Tg → Tg → Int) (n s : Nat) (f g : Nat → En) : Prop where
  pr : Pr 0 n f g
  blk : Blk R s n n g
  cut : Cut R (ltE c) s n g
theorem L1.done {R : En → En → Prop} {c : Tg → Tg → Int} {n p : Nat} {f g : Nat → En} (h : L1 R c n p f g) (hn : n ≤ p * 20) : L2 R c n 20 f g := ⟨h.pr, fun q hq => h.blk q (by omega), h.cut⟩
/-- of them the first p pairs merged, the rest as it was. -/
structure L3 (R : En → En → Prop) (c : Tg → Tg → Int) (n s p : Nat) (f g0 g : Nat → En) : Prop where
  was : L2 R c n s f g0
  pr : Pr 0 n f g
  mrg : Mrg R s n p g
  cut : Cut R (ltE c) (s * 2) n g
  same : ∀ k, p * (s * 2) ≤ k → g k = g0 k
theorem L2.start {R : En → En → Prop} {c : Tg → Tg → Int} {n s : Nat} {f g : Nat → En} (h : L2 R c n s f g) : L3 R c n s 0 f g g := ⟨h, h.pr, h.blk.mrg, h.cut.twice, fun _ _ => rfl⟩
theorem L3.xs {R : En → En → Prop} {c : Tg → Tg → Int} {n s p : Nat} {f g0 g : Nat → En} (h : L3 R c n s p f g0 g) : Xs R (ltE c) (p * (s * 2)) (p * (s * 2) + s) n g := fun i j x y z v => by
  have := h.was.cut (2 * p + 1)
  rw [show (2 * p + 1) * s = p * (s * 2) + s by rw [Nat.add_mul, Nat.one_mul, Nat.mul_comm 2 p, Nat.mul_assoc, Nat.mul_comm 2 s]] at this
  rw [h.same i x, h.same j (by omega)]
  exact this i j (Nat.zero_le _) y z v
theorem L3.more {R : En → En → Prop} {c : Tg → Tg → Int} {n s p : Nat} {f g0 g g' : Nat → En} (h : L3 R c n s p f g0 g) (hp : Pr (p * (s * 2)) (min (p * (s * 2) + s * 2) n) g g') (hg : Sd R (p * (s * 2)) (min (p * (s * 2) + s * 2) n) g') : L3 R c n s (p + 1) f g0 g' :=
  have e1 : (p + 1) * (s * 2) = p * (s * 2) + s * 2 := by rw [Nat.add_mul, Nat.one_mul]
  ⟨h.was, h.pr.trans (hp.wide (Nat.zero_le _) (Nat.min_le_right _ _)), h.mrg.more hp hg, h.cut.pr hp (Nat.le_refl _) (by rw [e1]; exact Nat.min_le_left _ _) (Nat.min_le_right _ _), fun k hk => by rw [e1] at hk; rw [hp.out (k := k) (by omega)]; exact h.same k (by omega)⟩
theorem L3.done {R : En → En → Prop} {c : Tg → Tg → Int} {n s p : Nat} {f g0 g : Nat → En} (h : L3 R c n s p f g0 g) (hn : n ≤ p * (s * 2)) : L2 R c n (s * 2) f g := ⟨h.pr, h.mrg.done hn, h.cut⟩
/-- the tail is one block: nothing is to be merged. -/
theorem L3.tail {R : En → En → Prop} {c : Tg → Tg → Int} {n s p : Nat} {f g0 g : Nat → En} (h : L3 R c n s p f g0 g) (hn : n ≤ p * (s * 2) + s) : L2 R c n (s * 2) f g := by
  have h1 := h.mrg.parts.1
  rw [Nat.min_eq_right hn] at h1
  refine (h.more (g' := g) (Pr.refl _ _ _) (by rw [Nat.min_eq_right (by omega)]; exact h1)).done ?_
  rw [Nat.add_mul, Nat.one_mul]; omega
set_option maxRecDepth 100000 in
set_option maxHeartbeats 4000000 in
/-- slices.SortStableFunc's work. -/
theorem stable_any (R : En → En → Prop) (c : Tg → Tg → Int) (hC : CmpA 45 c) (tr : ∀ x y z, R x y → R y z → R x z) (b off n cap : Nat) (hn : n ≤ 1152921504606846976) (f : Nat → En) (w : World) (hT : TR w b off n (fs f)) (X : Xall R (ltE c) n f) :
    Calls Tryd.prog 62 #[.slice (some ⟨b, off, none⟩) n cap, .int .i64 (n : Int), .func (.func 45) #[] #[]] w fun e w' => e = .returned undef ∧ ∃ g, Pr 0 n f g ∧ Sd R 0 n g ∧ TR w' b off n (fs g) ∧ OB b w w' := by
  have H0 : Hid (TR w b off n (fs f)) := hT
  have HX : Hid (Xall R (ltE c) n f) := X
  have HC : Hid (CmpA 45 c) := hC
  clear hT X hC
  go_enter Tryd.func62, Tryd.ntmps62
  go_wp2_with fail
  go_loopw [7, 8] (fun va vb wr => ∃ (A B : Nat) (g : Nat → En), va = .int .i64 (A : Int) ∧ vb = .int .i64 (B : Int) ∧ A ≤ n ∧ Hid (B = A + 20 ∧ ∃ p, A = p * 20 ∧ L1 R c n p f g) ∧ TR wr b off n (fs g) ∧ OB b w wr) (fun va _ _ => n - (intOf va).toNat)
  case atStart => exact ⟨0, 20, f, rfl, rfl, Nat.zero_le _, ⟨rfl, 0, rfl, L1.start HX.out⟩, H0.out, OB.refl _ _⟩
  case round =>
    clear H0
    obtain ⟨A, B, g, rfl, rfl, hA, hL, hT, hO⟩ := hrel
    have hTH : Hid (TR wr b off n (fs g)) := hT
    have hOH : Hid (OB b w wr) := hO
    clear hT hO
    by_cases hB : B ≤ n
    · have hBI : (B : Int) ≤ (n : Int) := by omega
      have C : Hid (Calls Tryd.prog 74 #[.slice (some ⟨b, off, none⟩) n cap, .int .i64 (A : Int), .int .i64 (B : Int), .func (.func 45) #[] #[]] wr fun e w' => e = .returned undef ∧ ∃ g', Pr A B g g' ∧ Sd R A B g' ∧ TR w' b off n (fs g') ∧ OB b wr w') := by
        obtain ⟨e1, p, e2, l1⟩ := hL.out
        exact insert_any R c HC.out b off n cap g A B wr hTH.out (by omega) hB (by omega) (fun i j x y z => l1.xs HX.out i j (by omega) y (by omega)) tr
      have kw : IntKind.i64.wrap ((B : Int) + 20) = ((B + 20 : Nat) : Int) := IntWalk.i64_in _ (by omega)
      go_wp2_with fail
      refine Calls.mono C.out ?_
      rintro e w2 ⟨rfl, g', P2, S2, T2, O2⟩
      have T2H : Hid (TR w2 b off n (fs g')) := T2
      have nx : Hid (∃ p, B = p * 20 ∧ L1 R c n p f g') := by
        obtain ⟨e1, p, e2, l1⟩ := hL.out
        have e3 : min ((p + 1) * 20) n = B := by omega
        refine ⟨p + 1, by omega, l1.more ?_ ?_⟩
        · rw [e3, ← e2]; exact P2
        · rw [e3, ← e2]; exact S2
      have O3 : Hid (OB b w w2) := hOH.out.trans O2
      have dm : Hid (A < B) := by obtain ⟨e1, _⟩ := hL.out; show A < B; omega
      clear T2 O2 P2 S2 C hL hTH hOH
      go_wp2_with fail
      exact ⟨⟨B, B + 20, g', rfl, by first | rfl | simp, hB, ⟨rfl, nx.out⟩, T2H.out, O3.out⟩, by have := dm.out; simp [intOf]; omega⟩
    · have hBI : ¬ (B : Int) ≤ (n : Int) := by omega
      have C : Hid (Calls Tryd.prog 74 #[.slice (some ⟨b, off, none⟩) n cap, .int .i64 (A : Int), .int .i64 (n : Int), .func (.func 45) #[] #[]] wr fun e w' => e = .returned undef ∧ ∃ g', Pr A n g g' ∧ Sd R A n g' ∧ TR w' b off n (fs g') ∧ OB b wr w') := by
        obtain ⟨e1, p, e2, l1⟩ := hL.out
        exact insert_any R c HC.out b off n cap g A n wr hTH.out (by omega) (Nat.le_refl _) (by omega) (fun i j x y z => l1.xs HX.out i j (by omega) y (by omega)) tr
      go_wp2_with fail
      refine Calls.mono C.out ?_
      rintro e w2 ⟨rfl, g', P2, S2, T2, O2⟩
      have T2H : Hid (TR w2 b off n (fs g')) := T2
      have nx : Hid (L2 R c n 20 f g') := by
        obtain ⟨e1, p, e2, l1⟩ := hL.out
        have e3 : min ((p + 1) * 20) n = n := by omega
        refine (l1.more (g' := g') ?_ ?_).done (by omega)
        · rw [e3, ← e2]; exact P2
        · rw [e3, ← e2]; exact S2
      have O3 : Hid (OB b w w2) := hOH.out.trans O2
      clear T2 O2 P2 S2 C hL hTH hOH hBI hB HX
      go_wp2_with fail
      go_loopw [6, 7, 8] (fun vs va vb wr => ∃ (s : Nat) (g : Nat → En), vs = .int .i64 (s : Int) ∧ 20 ≤ s ∧ s ≤ 2 * n + 20 ∧ Hid (L2 R c n s f g) ∧ TR wr b off n (fs g) ∧ OB b w wr) (fun vs _ _ _ => n - (intOf vs).toNat)
      case atStart => exact ⟨20, g', rfl, by omega, by omega, nx, T2H.out, O3.out⟩
      case round =>
        clear T2H nx O3
        rename_i va vb
        obtain ⟨s, g, rfl, hs1, hs2, hL, hT, hO⟩ := hrel
        have hTH : Hid (TR wr b off n (fs g)) := hT
        have hOH : Hid (OB b w wr) := hO
        clear hT hO
        by_cases hsn : s < n
        · have hsI : (s : Int) < (n : Int) := by omega
          have u1 : IntKind.i64.wrap (2 * (s : Int)) = 2 * (s : Int) := IntWalk.i64_in _ (by omega)
          have u2 : IntKind.i64.wrap ((s : Int) * 2) = (s : Int) * 2 := IntWalk.i64_in _ (by omega)
          go_wp2_with fail
          go_loopw [7, 8] (fun va vb wr => ∃ (A B : Nat) (h : Nat → En), va = .int .i64 (A : Int) ∧ vb = .int .i64 (B : Int) ∧ A ≤ n ∧ Hid (B = A + s * 2 ∧ ∃ p, A = p * (s * 2) ∧ L3 R c n s p f g h) ∧ TR wr b off n (fs h) ∧ OB b w wr) (fun va _ _ => n - (intOf va).toNat)
          case atStart => exact ⟨0, 2 * s, g, rfl, by congr 1, Nat.zero_le _, ⟨by omega, 0, by omega, hL.out.start⟩, hTH.out, hOH.out⟩
          case round =>
            clear hTH hOH hL
            obtain ⟨A, B, h, rfl, rfl, hA, hM, hT, hO⟩ := hrel
            have hTH : Hid (TR wr b off n (fs h)) := hT
            have hOH : Hid (OB b w wr) := hO
            clear hT hO
            have v1 : IntKind.i64.wrap ((A : Int) + (s : Int)) = (A : Int) + (s : Int) := IntWalk.i64_in _ (by omega)
            by_cases hB : B ≤ n
            · have hBI : (B : Int) ≤ (n : Int) := by omega
              have C : Hid (Calls Tryd.prog 75 #[.slice (some ⟨b, off, none⟩) n cap, .int .i64 (A : Int), .int .i64 ((A : Int) + (s : Int)), .int .i64 (B : Int), .func (.func 45) #[] #[]] wr fun e w' => e = .returned undef ∧ ∃ g', Pr A B h g' ∧ Sd R A B g' ∧ TR w' b off n (fs g') ∧ OB b wr w') := by
                obtain ⟨e1, p, e2, l3⟩ := hM.out
                have x1 := l3.xs
                obtain ⟨x2, x3⟩ := l3.mrg.parts
                rw [← e2] at x1 x2 x3
                have := sym_any R c HC.out tr b off n cap (by omega) (B - A) A (A + s) B h wr (Nat.le_refl _) (by omega) (by omega) hB hTH.out (x1.sub (Nat.le_refl _) hB) (x2.sub (Nat.le_refl _) (by omega)) (x3.sub (Nat.le_refl _) (by omega))
                rw [show ((A + s : Nat) : Int) = (A : Int) + (s : Int) by omega] at this
                exact this
              have v2 : IntKind.i64.wrap ((B : Int) + 2 * (s : Int)) = (B : Int) + 2 * (s : Int) := IntWalk.i64_in _ (by omega)
              go_wp2_with fail
              refine Calls.mono C.out ?_
              rintro e w2 ⟨rfl, g', P2, S2, T2, O2⟩
              have T2H : Hid (TR w2 b off n (fs g')) := T2
              have nx : Hid (∃ p, B = p * (s * 2) ∧ L3 R c n s p f g g') := by
                obtain ⟨e1, p, e2, l3⟩ := hM.out
                have e3 : min (p * (s * 2) + s * 2) n = B := by omega
                refine ⟨p + 1, by rw [Nat.add_mul, Nat.one_mul]; omega, l3.more ?_ ?_⟩
                · rw [e3, ← e2]; exact P2
                · rw [e3, ← e2]; exact S2
              have O3 : Hid (OB b w w2) := hOH.out.trans O2
              have dm : Hid (A < B) := by obtain ⟨e1, _⟩ := hM.out; show A < B; omega
              clear T2 O2 P2 S2 C hM hTH hOH
              go_wp2_with fail
              exact ⟨⟨B, B + 2 * s, g', rfl, by congr 1, hB, ⟨by omega, nx.out⟩, T2H.out, O3.out⟩, by have := dm.out; simp [intOf]; omega⟩
            · have hBI : ¬ (B : Int) ≤ (n : Int) := by omega
              by_cases hm : A + s < n
              · have hmI : (A : Int) + (s : Int) < (n : Int) := by omega
                have C : Hid (Calls Tryd.prog 75 #[.slice (some ⟨b, off, none⟩) n cap, .int .i64 (A : Int), .int .i64 ((A : Int) + (s : Int)), .int .i64 (n : Int), .func (.func 45) #[] #[]] wr fun e w' => e = .returned undef ∧ ∃ g', Pr A n h g' ∧ Sd R A n g' ∧ TR w' b off n (fs g') ∧ OB b wr w') := by
                  obtain ⟨e1, p, e2, l3⟩ := hM.out
                  have x1 := l3.xs
                  obtain ⟨x2, x3⟩ := l3.mrg.parts
                  rw [← e2] at x1 x2 x3
                  have := sym_any R c HC.out tr b off n cap (by omega) (n - A) A (A + s) n h wr (Nat.le_refl _) (by omega) (by omega) (Nat.le_refl _) hTH.out x1 (x2.sub (Nat.le_refl _) (by omega)) (x3.sub (Nat.le_refl _) (by omega))
                  rw [show ((A + s : Nat) : Int) = (A : Int) + (s : Int) by omega] at this
                  exact this
                go_wp2_with fail
                refine Calls.mono C.out ?_
                rintro e w2 ⟨rfl, g', P2, S2, T2, O2⟩
                have T2H : Hid (TR w2 b off n (fs g')) := T2
                have nx : Hid (L2 R c n (s * 2) f g') := by
                  obtain ⟨e1, p, e2, l3⟩ := hM.out
                  have e3 : min (p * (s * 2) + s * 2) n = n := by omega
                  refine (l3.more (g' := g') ?_ ?_).done (by rw [Nat.add_mul, Nat.one_mul]; omega)
                  · rw [e3, ← e2]; exact P2
                  · rw [e3, ← e2]; exact S2
                have O3 : Hid (OB b w w2) := hOH.out.trans O2
                clear T2 O2 P2 S2 C hM hTH hOH
                go_wp2_with fail
                exact ⟨⟨s * 2, g', by congr 1, by omega, by omega, nx, T2H.out, O3.out⟩, by simp [intOf]; omega⟩
              · have hmI : ¬ (A : Int) + (s : Int) < (n : Int) := by omega
                have nx : Hid (L2 R c n (s * 2) f h) := by
                  obtain ⟨e1, p, e2, l3⟩ := hM.out
                  exact l3.tail (by omega)
                go_wp2_with fail
                exact ⟨⟨s * 2, h, by congr 1, by omega, by omega, nx, hTH.out, hOH.out⟩, by simp [intOf]; omega⟩
        · have hsI : ¬ (s : Int) < (n : Int) := by omega
          have fin : Hid (Pr 0 n f g ∧ Sd R 0 n g) := ⟨hL.out.pr, hL.out.blk.whole (by omega)⟩
          go_wp2_with fail
          go_end0
          exact ⟨rfl, g, fin.out.1, fin.out.2, hTH.out, hOH.out⟩
end Go.Proofs.YtlogghajbhllhaaDoor.So
