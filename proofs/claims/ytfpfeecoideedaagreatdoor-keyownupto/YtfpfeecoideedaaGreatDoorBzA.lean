
import Derived.Test.YtfpfeecoideedaaGreatDoorSoJ
import Derived.Test.YtfpfeecoideedaaGreatDoorSoK
import Derived.Test.YtfpfeecoideedaaGreatDoorKqA
import Derived.Laws.MakeOwn
namespace Go.Proofs.YtfpfeecoideedaaGreatDoor.So
open Go.RowKit
/-- symMerge: two rows in order, side by side, are one. -/
theorem sym_any (R : En → En → Prop) (c : Tg → Tg → Int) (hC : CmpA 35 c) (tr : ∀ x y z, R x y → R y z → R x z) (b off n cap : Nat) (hn : n ≤ 4611686018427387904) : ∀ (N a m d : Nat) (f : Nat → En) (w : World), d - a ≤ N → a < m → m < d → d ≤ n → TR w b off n (fs f) → Xs R (ltE c) a m d f → Sd R a m f → Sd R m d f →
    Calls Tryz.prog 113 #[.slice (some ⟨b, off, none⟩) n cap, .int .i64 (a : Int), .int .i64 (m : Int), .int .i64 (d : Int), .func (.func 35) #[] #[]] w fun e w' => e = .returned undef ∧ ∃ g, Pr a d f g ∧ Sd R a d g ∧ TR w' b off n (fs g) ∧ OB b w w' := by
  intro N
  induction N with
  | zero => intro a m d f w h1 h2 h3; omega
  | succ N ih =>
    intro a m d f w hN ham hmd hdn hT X L M
    by_cases e1 : m = a + 1
    · subst e1; exact sym_up R c hC b off n cap f a d w hT hmd hdn hn X M tr
    · by_cases e2 : d = m + 1
      · subst e2; exact sym_dn R c hC b off n cap f a m w hT (by omega) hdn hn X L tr
      · by_cases g : (a + d) / 2 < m
        · exact sym_big R c hC tr b off n cap hn N ih a m d f w hN ham hmd hdn hT X L M e1 e2 g
        · exact sym_low R c hC tr b off n cap hn N ih a m d f w hN ham hmd hdn hT X L M e1 e2 g
end Go.Proofs.YtfpfeecoideedaaGreatDoor.So

namespace Go.Proofs.YtfpfeecoideedaaGreatDoor.So
open Go.RowKit
set_option linter.unusedVariables false
set_option linter.unusedSimpArgs false
/-- blocks of 20, the first p in order, the rest as it was. -/
structure L1 (R : En → En → Prop) (c : Tg → Tg → Int) (n p : Nat) (f g : Nat → En) : Prop where
  pr : Pr 0 n f g
  blk : Blk R 20 n (p * 20) g
  cut : Cut R (ltE c) 20 n g
  same : ∀ k, p * 20 ≤ k → g k = f k
theorem L1.start {R : En → En → Prop} {c : Tg → Tg → Int} {n : Nat} {f : Nat → En} (X : Xall R (ltE c) n f) : L1 R c n 0 f f :=
  ⟨Pr.refl _ _ _, by rw [Nat.zero_mul]; exact Blk.zero _ _ _, X.cut _, fun _ _ => rfl⟩
theorem L1.more {R : En → En → Prop} {c : Tg → Tg → Int} {n p : Nat} {f g g' : Nat → En} (h : L1 R c n p f g) (hp : Pr (p * 20) (min ((p + 1) * 20) n) g g') (hg : Sd R (p * 20) (min ((p + 1) * 20) n) g') : L1 R c n (p + 1) f g' :=
  ⟨h.pr.trans (hp.wide (Nat.zero_le _) (Nat.min_le_right _ _)), h.blk.more hp hg, h.cut.pr hp (Nat.le_refl _) (Nat.min_le_left _ _) (Nat.min_le_right _ _), fun k hk => by rw [hp.out (k := k) (by omega)]; exact h.same k (by omega)⟩
theorem L1.xs {R : En → En → Prop} {c : Tg → Tg → Int} {n p : Nat} {f g : Nat → En} (h : L1 R c n p f g) (X : Xall R (ltE c) n f) : ∀ i j, p * 20 ≤ i → i < j → j < n → (ltE c (g j) (g i) = true → R (g j) (g i)) ∧ (ltE c (g j) (g i) = false → R (g i) (g j)) := fun i j x y z => by
  rw [h.same i x, h.same j (by omega)]; exact X i j y z
/-- blocks of s in order. -/
structure L2 (R : En → En → Prop) (c : Tg → Tg → Int) (n s : Nat) (f g : Nat → En) : Prop where
  pr : Pr 0 n f g
  blk : Blk R s n n g
  cut : Cut R (ltE c) s n g
theorem L1.done {R : En → En → Prop} {c : Tg → Tg → Int} {n p : Nat} {f g : Nat → En} (h : L1 R c n p f g) (hn : n ≤ p * 20) : L2 R c n 20 f g := ⟨h.pr, fun q hq => h.blk q (by omega), h.cut⟩
/-- of them the first p pairs merged, the rest as it was. -/
structure L3 (R : En → En → Prop) (c : Tg → Tg → Int) (n s p : Nat) (f g0 g : Nat → En) : Prop where
  was : L2 R c n s f g0
  pr : Pr 0 n f g
  mrg : Mrg R s n p g
  cut : Cut R (ltE c) (s * 2) n g
  same : ∀ k, p * (s * 2) ≤ k → g k = g0 k
theorem L2.start {R : En → En → Prop} {c : Tg → Tg → Int} {n s : Nat} {f g : Nat → En} (h : L2 R c n s f g) : L3 R c n s 0 f g g := ⟨h, h.pr, h.blk.mrg, h.cut.twice, fun _ _ => rfl⟩
theorem L3.xs {R : En → En → Prop} {c : Tg → Tg → Int} {n s p : Nat} {f g0 g : Nat → En} (h : L3 R c n s p f g0 g) : Xs R (ltE c) (p * (s * 2)) (p * (s * 2) + s) n g := fun i j x y z v => by
  have := h.was.cut (2 * p + 1)
  rw [show (2 * p + 1) * s = p * (s * 2) + s by rw [Nat.add_mul, Nat.one_mul, Nat.mul_comm 2 p, Nat.mul_assoc, Nat.mul_comm 2 s]] at this
  rw [h.same i x, h.same j (by omega)]
  exact this i j (Nat.zero_le _) y z v
theorem L3.more {R : En → En → Prop} {c : Tg → Tg → Int} {n s p : Nat} {f g0 g g' : Nat → En} (h : L3 R c n s p f g0 g) (hp : Pr (p * (s * 2)) (min (p * (s * 2) + s * 2) n) g g') (hg : Sd R (p * (s * 2)) (min (p * (s * 2) + s * 2) n) g') : L3 R c n s (p + 1) f g0 g' :=
  have e1 : (p + 1) * (s * 2) = p * (s * 2) + s * 2 := by rw [Nat.add_mul, Nat.one_mul]
  ⟨h.was, h.pr.trans (hp.wide (Nat.zero_le _) (Nat.min_le_right _ _)), h.mrg.more hp hg, h.cut.pr hp (Nat.le_refl _) (by rw [e1]; exact Nat.min_le_left _ _) (Nat.min_le_right _ _), fun k hk => by rw [e1] at hk; rw [hp.out (k := k) (by omega)]; exact h.same k (by omega)⟩
theorem L3.done {R : En → En → Prop} {c : Tg → Tg → Int} {n s p : Nat} {f g0 g : Nat → En} (h : L3 R c n s p f g0 g) (hn : n ≤ p * (s * 2)) : L2 R c n (s * 2) f g := ⟨h.pr, h.mrg.done hn, h.cut⟩
/-- the tail is one block: nothing is to be merged. -/
theorem L3.tail {R : En → En → Prop} {c : Tg → Tg → Int} {n s p : Nat} {f g0 g : Nat → En} (h : L3 R c n s p f g0 g) (hn : n ≤ p * (s * 2) + s) : L2 R c n (s * 2) f g := by
  have h1 := h.mrg.parts.1
  rw [Nat.min_eq_right hn] at h1
  refine (h.more (g' := g) (Pr.refl _ _ _) (by rw [Nat.min_eq_right (by omega)]; exact h1)).done ?_
  rw [Nat.add_mul, Nat.one_mul]; omega
set_option maxRecDepth 100000 in
set_option maxHeartbeats 4000000 in
/-- slices.SortStableFunc's work. -/
theorem stable_any (R : En → En → Prop) (c : Tg → Tg → Int) (hC : CmpA 35 c) (tr : ∀ x y z, R x y → R y z → R x z) (b off n cap : Nat) (hn : n ≤ 1152921504606846976) (f : Nat → En) (w : World) (hT : TR w b off n (fs f)) (X : Xall R (ltE c) n f) :
    Calls Tryz.prog 90 #[.slice (some ⟨b, off, none⟩) n cap, .int .i64 (n : Int), .func (.func 35) #[] #[]] w fun e w' => e = .returned undef ∧ ∃ g, Pr 0 n f g ∧ Sd R 0 n g ∧ TR w' b off n (fs g) ∧ OB b w w' := by
  have H0 : Hid (TR w b off n (fs f)) := hT
  have HX : Hid (Xall R (ltE c) n f) := X
  have HC : Hid (CmpA 35 c) := hC
  clear hT X hC
  go_enter Tryz.func90, Tryz.ntmps90
  go_wp2_with fail
  go_loopw [7, 8] (fun va vb wr => ∃ (A B : Nat) (g : Nat → En), va = .int .i64 (A : Int) ∧ vb = .int .i64 (B : Int) ∧ A ≤ n ∧ Hid (B = A + 20 ∧ ∃ p, A = p * 20 ∧ L1 R c n p f g) ∧ TR wr b off n (fs g) ∧ OB b w wr) (fun va _ _ => n - (intOf va).toNat)
  case atStart => exact ⟨0, 20, f, rfl, rfl, Nat.zero_le _, ⟨rfl, 0, rfl, L1.start HX.out⟩, H0.out, OB.refl _ _⟩
  case round =>
    clear H0
    obtain ⟨A, B, g, rfl, rfl, hA, hL, hT, hO⟩ := hrel
    have hTH : Hid (TR wr b off n (fs g)) := hT
    have hOH : Hid (OB b w wr) := hO
    clear hT hO
    by_cases hB : B ≤ n
    · have hBI : (B : Int) ≤ (n : Int) := by omega
      have C : Hid (Calls Tryz.prog 112 #[.slice (some ⟨b, off, none⟩) n cap, .int .i64 (A : Int), .int .i64 (B : Int), .func (.func 35) #[] #[]] wr fun e w' => e = .returned undef ∧ ∃ g', Pr A B g g' ∧ Sd R A B g' ∧ TR w' b off n (fs g') ∧ OB b wr w') := by
        obtain ⟨e1, p, e2, l1⟩ := hL.out
        exact insert_any R c HC.out b off n cap g A B wr hTH.out (by omega) hB (by omega) (fun i j x y z => l1.xs HX.out i j (by omega) y (by omega)) tr
      have kw : IntKind.i64.wrap ((B : Int) + 20) = ((B + 20 : Nat) : Int) := IntWalk.i64_in _ (by omega)
      go_wp2_with fail
      refine Calls.mono C.out ?_
      rintro e w2 ⟨rfl, g', P2, S2, T2, O2⟩
      have T2H : Hid (TR w2 b off n (fs g')) := T2
      have nx : Hid (∃ p, B = p * 20 ∧ L1 R c n p f g') := by
        obtain ⟨e1, p, e2, l1⟩ := hL.out
        have e3 : min ((p + 1) * 20) n = B := by omega
        refine ⟨p + 1, by omega, l1.more ?_ ?_⟩
        · rw [e3, ← e2]; exact P2
        · rw [e3, ← e2]; exact S2
      have O3 : Hid (OB b w w2) := hOH.out.trans O2
      have dm : Hid (A < B) := by obtain ⟨e1, _⟩ := hL.out; show A < B; omega
      clear T2 O2 P2 S2 C hL hTH hOH
      go_wp2_with fail
      exact ⟨⟨B, B + 20, g', rfl, by first | rfl | simp, hB, ⟨rfl, nx.out⟩, T2H.out, O3.out⟩, by have := dm.out; simp [intOf]; omega⟩
    · have hBI : ¬ (B : Int) ≤ (n : Int) := by omega
      have C : Hid (Calls Tryz.prog 112 #[.slice (some ⟨b, off, none⟩) n cap, .int .i64 (A : Int), .int .i64 (n : Int), .func (.func 35) #[] #[]] wr fun e w' => e = .returned undef ∧ ∃ g', Pr A n g g' ∧ Sd R A n g' ∧ TR w' b off n (fs g') ∧ OB b wr w') := by
        obtain ⟨e1, p, e2, l1⟩ := hL.out
        exact insert_any R c HC.out b off n cap g A n wr hTH.out (by omega) (Nat.le_refl _) (by omega) (fun i j x y z => l1.xs HX.out i j (by omega) y (by omega)) tr
      go_wp2_with fail
      refine Calls.mono C.out ?_
      rintro e w2 ⟨rfl, g', P2, S2, T2, O2⟩
      have T2H : Hid (TR w2 b off n (fs g')) := T2
      have nx : Hid (L2 R c n 20 f g') := by
        obtain ⟨e1, p, e2, l1⟩ := hL.out
        have e3 : min ((p + 1) * 20) n = n := by omega
        refine (l1.more (g' := g') ?_ ?_).done (by omega)
        · rw [e3, ← e2]; exact P2
        · rw [e3, ← e2]; exact S2
      have O3 : Hid (OB b w w2) := hOH.out.trans O2
      clear T2 O2 P2 S2 C hL hTH hOH hBI hB HX
      go_wp2_with fail
      go_loopw [6, 7, 8] (fun vs va vb wr => ∃ (s : Nat) (g : Nat → En), vs = .int .i64 (s : Int) ∧ 20 ≤ s ∧ s ≤ 2 * n + 20 ∧ Hid (L2 R c n s f g) ∧ TR wr b off n (fs g) ∧ OB b w wr) (fun vs _ _ _ => n - (intOf vs).toNat)
      case atStart => exact ⟨20, g', rfl, by omega, by omega, nx, T2H.out, O3.out⟩
      case round =>
        clear T2H nx O3
        rename_i va vb
        obtain ⟨s, g, rfl, hs1, hs2, hL, hT, hO⟩ := hrel
        have hTH : Hid (TR wr b off n (fs g)) := hT
        have hOH : Hid (OB b w wr) := hO
        clear hT hO
        by_cases hsn : s < n
        · have hsI : (s : Int) < (n : Int) := by omega
          have u1 : IntKind.i64.wrap (2 * (s : Int)) = 2 * (s : Int) := IntWalk.i64_in _ (by omega)
          have u2 : IntKind.i64.wrap ((s : Int) * 2) = (s : Int) * 2 := IntWalk.i64_in _ (by omega)
          go_wp2_with fail
          go_loopw [7, 8] (fun va vb wr => ∃ (A B : Nat) (h : Nat → En), va = .int .i64 (A : Int) ∧ vb = .int .i64 (B : Int) ∧ A ≤ n ∧ Hid (B = A + s * 2 ∧ ∃ p, A = p * (s * 2) ∧ L3 R c n s p f g h) ∧ TR wr b off n (fs h) ∧ OB b w wr) (fun va _ _ => n - (intOf va).toNat)
          case atStart => exact ⟨0, 2 * s, g, rfl, by congr 1, Nat.zero_le _, ⟨by omega, 0, by omega, hL.out.start⟩, hTH.out, hOH.out⟩
          case round =>
            clear hTH hOH hL
            obtain ⟨A, B, h, rfl, rfl, hA, hM, hT, hO⟩ := hrel
            have hTH : Hid (TR wr b off n (fs h)) := hT
            have hOH : Hid (OB b w wr) := hO
            clear hT hO
            have v1 : IntKind.i64.wrap ((A : Int) + (s : Int)) = (A : Int) + (s : Int) := IntWalk.i64_in _ (by omega)
            by_cases hB : B ≤ n
            · have hBI : (B : Int) ≤ (n : Int) := by omega
              have C : Hid (Calls Tryz.prog 113 #[.slice (some ⟨b, off, none⟩) n cap, .int .i64 (A : Int), .int .i64 ((A : Int) + (s : Int)), .int .i64 (B : Int), .func (.func 35) #[] #[]] wr fun e w' => e = .returned undef ∧ ∃ g', Pr A B h g' ∧ Sd R A B g' ∧ TR w' b off n (fs g') ∧ OB b wr w') := by
                obtain ⟨e1, p, e2, l3⟩ := hM.out
                have x1 := l3.xs
                obtain ⟨x2, x3⟩ := l3.mrg.parts
                rw [← e2] at x1 x2 x3
                have := sym_any R c HC.out tr b off n cap (by omega) (B - A) A (A + s) B h wr (Nat.le_refl _) (by omega) (by omega) hB hTH.out (x1.sub (Nat.le_refl _) hB) (x2.sub (Nat.le_refl _) (by omega)) (x3.sub (Nat.le_refl _) (by omega))
                rw [show ((A + s : Nat) : Int) = (A : Int) + (s : Int) by omega] at this
                exact this
              have v2 : IntKind.i64.wrap ((B : Int) + 2 * (s : Int)) = (B : Int) + 2 * (s : Int) := IntWalk.i64_in _ (by omega)
              go_wp2_with fail
              refine Calls.mono C.out ?_
              rintro e w2 ⟨rfl, g', P2, S2, T2, O2⟩
              have T2H : Hid (TR w2 b off n (fs g')) := T2
              have nx : Hid (∃ p, B = p * (s * 2) ∧ L3 R c n s p f g g') := by
                obtain ⟨e1, p, e2, l3⟩ := hM.out
                have e3 : min (p * (s * 2) + s * 2) n = B := by omega
                refine ⟨p + 1, by rw [Nat.add_mul, Nat.one_mul]; omega, l3.more ?_ ?_⟩
                · rw [e3, ← e2]; exact P2
                · rw [e3, ← e2]; exact S2
              have O3 : Hid (OB b w w2) := hOH.out.trans O2
              have dm : Hid (A < B) := by obtain ⟨e1, _⟩ := hM.out; show A < B; omega
              clear T2 O2 P2 S2 C hM hTH hOH
              go_wp2_with fail
              exact ⟨⟨B, B + 2 * s, g', rfl, by congr 1, hB, ⟨by omega, nx.out⟩, T2H.out, O3.out⟩, by have := dm.out; simp [intOf]; omega⟩
            · have hBI : ¬ (B : Int) ≤ (n : Int) := by omega
              by_cases hm : A + s < n
              · have hmI : (A : Int) + (s : Int) < (n : Int) := by omega
                have C : Hid (Calls Tryz.prog 113 #[.slice (some ⟨b, off, none⟩) n cap, .int .i64 (A : Int), .int .i64 ((A : Int) + (s : Int)), .int .i64 (n : Int), .func (.func 35) #[] #[]] wr fun e w' => e = .returned undef ∧ ∃ g', Pr A n h g' ∧ Sd R A n g' ∧ TR w' b off n (fs g') ∧ OB b wr w') := by
                  obtain ⟨e1, p, e2, l3⟩ := hM.out
                  have x1 := l3.xs
                  obtain ⟨x2, x3⟩ := l3.mrg.parts
                  rw [← e2] at x1 x2 x3
                  have := sym_any R c HC.out tr b off n cap (by omega) (n - A) A (A + s) n h wr (Nat.le_refl _) (by omega) (by omega) (Nat.le_refl _) hTH.out x1 (x2.sub (Nat.le_refl _) (by omega)) (x3.sub (Nat.le_refl _) (by omega))
                  rw [show ((A + s : Nat) : Int) = (A : Int) + (s : Int) by omega] at this
                  exact this
                go_wp2_with fail
                refine Calls.mono C.out ?_
                rintro e w2 ⟨rfl, g', P2, S2, T2, O2⟩
                have T2H : Hid (TR w2 b off n (fs g')) := T2
                have nx : Hid (L2 R c n (s * 2) f g') := by
                  obtain ⟨e1, p, e2, l3⟩ := hM.out
                  have e3 : min (p * (s * 2) + s * 2) n = n := by omega
                  refine (l3.more (g' := g') ?_ ?_).done (by rw [Nat.add_mul, Nat.one_mul]; omega)
                  · rw [e3, ← e2]; exact P2
                  · rw [e3, ← e2]; exact S2
                have O3 : Hid (OB b w w2) := hOH.out.trans O2
                clear T2 O2 P2 S2 C hM hTH hOH
                go_wp2_with fail
                exact ⟨⟨s * 2, g', by congr 1, by omega, by omega, nx, T2H.out, O3.out⟩, by simp [intOf]; omega⟩
              · have hmI : ¬ (A : Int) + (s : Int) < (n : Int) := by omega
                have nx : Hid (L2 R c n (s * 2) f h) := by
                  obtain ⟨e1, p, e2, l3⟩ := hM.out
                  exact l3.tail (by omega)
                go_wp2_with fail
                exact ⟨⟨s * 2, h, by congr 1, by omega, by omega, nx, hTH.out, hOH.out⟩, by simp [intOf]; omega⟩
        · have hsI : ¬ (s : Int) < (n : Int) := by omega
          have fin : Hid (Pr 0 n f g ∧ Sd R 0 n g) := ⟨hL.out.pr, hL.out.blk.whole (by omega)⟩
          go_wp2_with fail
          go_end0
          exact ⟨rfl, g, fin.out.1, fin.out.2, hTH.out, hOH.out⟩
end Go.Proofs.YtfpfeecoideedaaGreatDoor.So

namespace Go.Proofs.YtfpfeecoideedaaGreatDoor.So
open Go.RowKit
set_option linter.unusedVariables false
set_option linter.unusedSimpArgs false
theorem TR.congr {w : World} {b off n : Nat} {F G : Nat → Tg} (h : TR w b off n F) (e : ∀ k, k < n → F k = G k) : TR w b off n G := ⟨h.1, fun k hk => by rw [← e k hk]; exact h.2 k hk⟩
theorem TR.less {w : World} {b off n m : Nat} {F : Nat → Tg} (h : TR w b off n F) (hm : m ≤ n) : TR w b off m F := ⟨h.1, fun k hk => h.2 k (by omega)⟩
/-- reversed as far as i from both ends. -/
def rv (F : Nat → Tg) (n i : Nat) : Nat → Tg := fun k => if k < i ∨ (n ≤ k + i ∧ k < n) then F (n - 1 - k) else F k
theorem rv_zero (F : Nat → Tg) (n : Nat) : rv F n 0 = F := by
  funext k; unfold rv; rw [if_neg (by omega)]
theorem rv_step (F : Nat → Tg) (n i : Nat) (h : i + i + 1 < n) : sw (rv F n i) i (n - 1 - i) = rv F n (i + 1) := by
  funext k
  unfold sw rv
  repeat' split
  all_goals first | rfl | (exfalso; omega) | (congr 1; omega)
theorem rv_end (F : Nat → Tg) (n i : Nat) (h : n ≤ i + i + 1) (k : Nat) (hk : k < n) : rv F n i k = F (n - 1 - k) := by
  unfold rv
  split
  · rfl
  · congr 1; omega
theorem ba_dec (a b : ByteArray) : (a.toList == b.toList) = decide (a = b) := by
  by_cases h : a = b
  · subst h; simp
  · rw [decide_eq_false h, beq_eq_false_iff_ne]
    intro e
    rw [ByteArray.toList_eq, ByteArray.toList_eq] at e
    exact h (ByteArray.ext (Array.ext' e))
set_option maxRecDepth 100000 in
theorem sameKey_any (x y : Tg) (w : World) : Calls Tryz.prog 37 #[.agg #[.string x.1, .string x.2], .agg #[.string y.1, .string y.2]] w fun e w' => e = .returned (.bool (decide (x.1 = y.1))) ∧ Below w.heap.size w w' := by
  obtain ⟨a1, a2⟩ := x
  obtain ⟨b1, b2⟩ := y
  have B2 : ∀ o p, Below w.heap.size w ((w.alloc o).alloc p) := fun o p => ((Below.refl _ w).alloc (Nat.le_refl _) o).alloc (by simp) p
  go_enter Tryz.func37, Tryz.ntmps37
  go_wp2_with fail
  go_ret
  exact ⟨by rw [← ba_dec]; rfl, B2 _ _⟩
set_option maxRecDepth 100000 in
set_option maxHeartbeats 2000000 in
theorem reverse_any (b off n cap : Nat) (F : Nat → Tg) (w : World) (h : TR w b off n F) (hn : n ≤ 4611686018427387904) :
    Calls Tryz.prog 33 #[.slice (some ⟨b, off, none⟩) n cap] w fun e w' => e = .returned undef ∧ TR w' b off n (fun k => F (n - 1 - k)) ∧ OB b w w' := by
  have H0 : Hid (TR w b off n F) := h
  clear h
  have z1 : IntKind.i64.wrap ((n : Int) - 1) = (n : Int) - 1 := IntWalk.i64_in _ (by omega)
  go_enter Tryz.func33, Tryz.ntmps33
  go_wp2_with fail
  go_loopw [2, 3] (fun vi vj wr => ∃ (i : Nat) (J : Int), vi = .int .i64 (i : Int) ∧ vj = .int .i64 J ∧ Hid (J = (n : Int) - 1 - (i : Int)) ∧ i ≤ n ∧ TR wr b off n (rv F n i) ∧ OB b w wr) (fun vi vj _ => (intOf vj - intOf vi).toNat)
  case atStart => exact ⟨0, (n : Int) - 1, rfl, rfl, by show _ = _; omega, Nat.zero_le _, by rw [rv_zero]; exact H0.out, OB.refl _ _⟩
  case round =>
    clear H0 z1
    obtain ⟨i, J, rfl, rfl, hJ, hin, hT, hO⟩ := hrel
    by_cases hc : (i : Int) < J
    · obtain ⟨j, hj⟩ : ∃ j : Nat, J = (j : Int) := ⟨J.toNat, by have := hJ.out; omega⟩
      subst hj
      have hij : i < j := by omega
      have hjn : j < n := by have := hJ.out; omega
      have e : Hid (sw (rv F n i) i j = rv F n (i + 1)) := by
        have := rv_step F n i (by have := hJ.out; omega)
        rw [show n - 1 - i = j by have := hJ.out; omega] at this
        exact this
      generalize rv F n i = G at hT e
      obtain ⟨⟨a1, a2⟩, a3, a4⟩ := hT.2 i (by omega)
      obtain ⟨⟨b1, b2⟩, b3, b4⟩ := hT.2 j (by omega)
      have i1 : (0 : Int) ≤ (i : Int) := by omega
      have i2 : (i : Int) < (n : Int) := by omega
      have j1 : (0 : Int) ≤ (j : Int) := by omega
      have j2 : (j : Int) < (n : Int) := by omega
      have ij : ¬ i = j := by omega
      have ij2 : ¬ j = i := by omega
      have q1 : ¬ off + i * 2 = off + j * 2 := by omega
      have q2 : ¬ off + i * 2 = off + j * 2 + 1 := by omega
      have q3 : ¬ off + i * 2 + 1 = off + j * 2 := by omega
      have q4 : ¬ off + i * 2 + 1 = off + j * 2 + 1 := by omega
      have kw : IntKind.i64.wrap ((i : Int) + 1) = ((i + 1 : Nat) : Int) := IntWalk.i64_in _ (by omega)
      have kj : IntKind.i64.wrap ((j : Int) - 1) = (j : Int) - 1 := IntWalk.i64_in _ (by omega)
      have hTH : Hid (TR wr b off n G) := hT
      have hOH : Hid (OB b w wr) := hO
      clear hT hO
      go_wp2_with fail
      go_region
      have hT2 : TR ((((wr.setCell ⟨b, off + i * 2, none⟩ (.string (G j).1)).setCell ⟨b, off + i * 2 + 1, none⟩ (.string (G j).2)).setCell ⟨b, off + j * 2, none⟩ (.string (G i).1)).setCell ⟨b, off + j * 2 + 1, none⟩ (.string (G i).2)) b off n (rv F n (i + 1)) := by
        rw [← e.out, sw_upd2]
        exact TR.set (TR.set (show TR wr b off n G from hTH.out) (show i < n by omega) _ _) (show j < n by omega) _ _
      have hO2 : OB b w ((((wr.setCell ⟨b, off + i * 2, none⟩ (.string (G j).1)).setCell ⟨b, off + i * 2 + 1, none⟩ (.string (G j).2)).setCell ⟨b, off + j * 2, none⟩ (.string (G i).1)).setCell ⟨b, off + j * 2 + 1, none⟩ (.string (G i).2)) := (((hOH.out.trans (OB.set _ _ _)).trans (OB.set _ _ _)).trans (OB.set _ _ _)).trans (OB.set _ _ _)
      generalize ((((wr.setCell ⟨b, off + i * 2, none⟩ (.string (G j).1)).setCell ⟨b, off + i * 2 + 1, none⟩ (.string (G j).2)).setCell ⟨b, off + j * 2, none⟩ (.string (G i).1)).setCell ⟨b, off + j * 2 + 1, none⟩ (.string (G i).2)) = W2 at hT2 hO2 ⊢
      have hT2H : Hid (TR W2 b off n (rv F n (i + 1))) := hT2
      have hO2H : Hid (OB b w W2) := hO2
      clear hT2 hO2 hTH hOH e a1 a2 a3 a4 b1 b2 b3 b4
      go_wp2_with fail
      exact ⟨⟨i + 1, (j : Int) - 1, by first | rfl | simp, rfl, by have := hJ.out; show _ = _; omega, by omega, hT2H.out, hO2H.out.drew⟩, by simp [intOf]; omega⟩
    · have fin : Hid (TR wr b off n (fun k => F (n - 1 - k))) := hT.congr (rv_end F n i (by have := hJ.out; omega))
      have hOH : Hid (OB b w wr) := hO
      clear hT hO
      go_wp2_with fail
      go_end0
      exact ⟨rfl, fin.out, hOH.out⟩
set_option maxRecDepth 100000 in
theorem sortStable_any (R : En → En → Prop) (c : Tg → Tg → Int) (hC : CmpA 35 c) (tr : ∀ x y z, R x y → R y z → R x z) (b off n cap : Nat) (hn : n ≤ 1152921504606846976) (f : Nat → En) (w : World) (hT : TR w b off n (fs f)) (X : Xall R (ltE c) n f) :
    Calls Tryz.prog 34 #[.slice (some ⟨b, off, none⟩) n cap, .func (.func 35) #[] #[]] w fun e w' => e = .returned undef ∧ ∃ g, Pr 0 n f g ∧ Sd R 0 n g ∧ TR w' b off n (fs g) ∧ OB b w w' := by
  have C : Hid _ := stable_any R c hC tr b off n cap hn f w hT X
  clear hC hT X
  go_enter Tryz.func34, Tryz.ntmps34
  go_wp2_with fail
  refine Calls.mono C.out ?_
  rintro e w2 ⟨rfl, hh⟩
  have hhH : Hid _ := hh
  clear hh C
  go_wp2_with fail
  go_end0
  exact ⟨rfl, hhH.out⟩
end Go.Proofs.YtfpfeecoideedaaGreatDoor.So

namespace Go.Proofs.YtfpfeecoideedaaGreatDoor.So
open Go.RowKit
set_option linter.unusedVariables false
set_option linter.unusedSimpArgs false
/-! ### what CompactFunc leaves -/
theorem fsts_plain (F : Nat → Tg) : ∀ k, (∀ i, 1 ≤ i → i < k → (F (i - 1)).1 ≠ (F i).1) → fsts F k = (List.range k).map F
  | 0, _ => rfl
  | k + 1, h => by
    unfold fsts
    rw [fsts_plain F k fun i a b => h i a (by omega), List.range_succ, List.map_append]
    congr 1
    rcases Nat.eq_zero_or_pos k with e | e
    · rw [if_pos (Or.inl e)]; rfl
    · rw [if_pos (Or.inr (h k e (by omega)))]; rfl
theorem fsts_skip (F : Nat → Tg) {p : Nat} (hp : 1 ≤ p) (h : (F p).1 = (F (p - 1)).1) : fsts F (p + 1) = fsts F p := by
  conv => lhs; unfold fsts
  rw [if_neg (by rintro (e | e); omega; exact e h.symm), List.append_nil]
theorem fsts_new (F : Nat → Tg) {p : Nat} (h : (F p).1 ≠ (F (p - 1)).1) : fsts F (p + 1) = fsts F p ++ [F p] := by
  conv => lhs; unfold fsts
  rw [if_pos (Or.inr fun e => h e.symm)]
/-- the row while it is made: the first k are what is kept of the first p, the rest as it was. -/
structure CS (F H : Nat → Tg) (p k : Nat) : Prop where
  is : (List.range k).map H = fsts F p
  rest : ∀ i, k ≤ i → H i = F i
theorem CS.skip {F H : Nat → Tg} {p k : Nat} (h : CS F H p k) (hp : 1 ≤ p) (e : (F p).1 = (F (p - 1)).1) : CS F H (p + 1) k := ⟨by rw [fsts_skip F hp e]; exact h.is, h.rest⟩
theorem CS.new {F H : Nat → Tg} {p k : Nat} (h : CS F H p k) (e : (F p).1 ≠ (F (p - 1)).1) : CS F (upd H k (F p)) (p + 1) (k + 1) := by
  refine ⟨?_, fun i hi => ?_⟩
  · rw [fsts_new F e, ← h.is, List.range_succ, List.map_append]
    congr 1
    · apply List.map_congr_left
      intro i hi
      unfold upd
      rw [if_neg (by have := List.mem_range.1 hi; omega)]
    · simp [upd]
  · unfold upd
    rw [if_neg (by omega)]
    exact h.rest i (by omega)
/-- clear of a row of tags. -/
theorem tag_infoS : (Tryz.prog.info? 82).map (fun i => (i.zero, i.bytes, i.size)) = some (some (.agg #[.string ⟨#[]⟩, .string ⟨#[]⟩]), 32, 2) := by kernel_rfl
def noS (n : Nat) : List Value := List.replicate (n * 2) (.string ⟨#[]⟩)
theorem run_clearT (w : World) (ty : TypeId) (b o n c : Nat) (hn : 0 < n) (hc : ∀ j, j < n * 2 → (w.cell? ⟨b, o + j, none⟩).isSome = true) (hf : ∀ j, j < n * 2 → w.frozen? ⟨b, o + j, none⟩ = false) :
    (Builtin.clear_ #[22] ty #[.slice (some ⟨b, o, none⟩) n c]).run Tryz.prog w = .ok (.tuple #[]) (w.setCells b o (noS n)) := by
  obtain ⟨i, i1, i0⟩ := Option.map_eq_some_iff.1 tag_infoS
  have i2 : i.zero = some (.agg #[.string ⟨#[]⟩, .string ⟨#[]⟩]) := congrArg (·.1) i0
  have hv : ∀ w, (zeroValue 82).run Tryz.prog w = .ok (.agg #[.string ⟨#[]⟩, .string ⟨#[]⟩]) w := fun w => by simp [zeroValue, typeInfo, i1, i2]
  have hz : (Value.agg #[.string ⟨#[]⟩, .string ⟨#[]⟩]).cells = #[.string ⟨#[]⟩, .string ⟨#[]⟩] := by kernel_rfl
  have hzc : (Builtin.zeroCells (Value.agg #[.string ⟨#[]⟩, .string ⟨#[]⟩]).cells n).toList = noS n := by
    rw [hz]
    unfold noS
    simp [Builtin.zeroCells]
    apply List.ext_getElem
    · simp
    · intro i h1 h2
      rcases (by omega : i % 2 = 0 ∨ i % 2 = 1) with q | q <;> simp [q]
  have hst := run_storeCells_cells (P := Tryz.prog) b o (noS n) 0 w (by simpa [noS] using hc) (by simpa [noS] using hf) (by intro v hv'; rw [List.eq_of_mem_replicate hv']; rfl)
  simp only [Nat.add_zero] at hst
  obtain ⟨m, rfl⟩ : ∃ m, n = m + 1 := ⟨n - 1, by omega⟩
  simp [Builtin.clear_, run_underlying Tryz.underlying22, hv, hzc, hst]
theorem OB.sets {b : Nat} : ∀ (vs : List Value) (o : Nat) (w : World), OB b w (w.setCells b o vs)
  | [], _, w => OB.refl b w
  | v :: r, o, w => (OB.set w o v).trans (OB.sets r (o + 1) _)
theorem TR.cleared {w : World} {b off n k : Nat} {F : Nat → Tg} (h : TR w b off n F) (hk : k ≤ n) (vs : List Value) : TR (w.setCells b (off + k * 2) vs) b off k F := by
  refine ⟨Nat.lt_of_lt_of_le h.1 (OB.sets vs _ w).size, fun i hi => ?_⟩
  obtain ⟨⟨h1, h2⟩, h3, h4⟩ := h.2 i (by omega)
  refine ⟨⟨?_, ?_⟩, by rw [World.frozen?_setCells]; exact h3, by rw [World.frozen?_setCells]; exact h4⟩
  · rw [World.cell?_setCells_out _ _ _ _ _ (fun _ _ => Or.inl (by show off + i * 2 < _; omega))]; exact h1
  · rw [World.cell?_setCells_out _ _ _ _ _ (fun _ _ => Or.inl (by show off + i * 2 + 1 < _; omega))]; exact h2
set_option maxRecDepth 100000 in
set_option maxHeartbeats 4000000 in
theorem compact_any (b off n cap : Nat) (F : Nat → Tg) (w : World) (h : TR w b off n F) (hn : n ≤ 4611686018427387904) (hcap : n ≤ cap) :
    Calls Tryz.prog 36 #[.slice (some ⟨b, off, none⟩) n cap, .func (.func 37) #[] #[]] w fun e w' => ∃ (m : Nat) (G : Nat → Tg), e = .returned (.slice (some ⟨b, off, none⟩) m cap) ∧ m ≤ n ∧ TR w' b off m G ∧ (List.range m).map G = fsts F n ∧ OB b w w' := by
  have H0 : Hid (TR w b off n F) := h
  clear h
  by_cases hs : n < 2
  · have hsI : (n : Int) < 2 := by omega
    go_enter Tryz.func36, Tryz.ntmps36
    go_wp2_with fail
    go_ret
    exact ⟨n, F, rfl, Nat.le_refl _, H0.out, (fsts_plain F n fun i a b => by omega).symm, OB.refl _ _⟩
  · have hsI : ¬ (n : Int) < 2 := by omega
    go_enter Tryz.func36, Tryz.ntmps36
    go_wp2_with fail
    go_loopw [5] (fun vk wr => ∃ k : Nat, vk = .int .i64 (k : Int) ∧ 1 ≤ k ∧ k ≤ n ∧ Hid (∀ i, 1 ≤ i → i < k → (F (i - 1)).1 ≠ (F i).1) ∧ TR wr b off n F ∧ OB b w wr) (fun vk _ => n - (intOf vk).toNat)
    case atStart => exact ⟨1, rfl, Nat.le_refl _, by omega, fun i a b => by omega, H0.out, OB.refl _ _⟩
    case round =>
      clear H0 hsI
      obtain ⟨k, rfl, k1, kn, hall, hT, hO⟩ := hrel
      have hTH : Hid (TR wr b off n F) := hT
      have hOH : Hid (OB b w wr) := hO
      clear hO
      by_cases hk : k < n
      · have hkI : (k : Int) < (n : Int) := by omega
        have kw : IntKind.i64.wrap ((k : Int) + 1) = ((k + 1 : Nat) : Int) := IntWalk.i64_in _ (by omega)
        have kv : IntKind.i64.wrap ((k : Int) - 1) = (k : Int) - 1 := IntWalk.i64_in _ (by omega)
        have k0 : (0 : Int) ≤ (k : Int) := by omega
        have k2 : (0 : Int) ≤ (k : Int) - 1 := by omega
        have k3 : (k : Int) - 1 < (n : Int) := by omega
        have k4 : (1 : Int) ≤ (k : Int) := by omega
        obtain ⟨⟨a1, a2⟩, _, _⟩ := hT.2 k (by omega)
        obtain ⟨⟨b1, b2⟩, _, _⟩ := hT.2 (k - 1) (by omega)
        have bl : b < wr.heap.size := hT.1
        have CH := sameKey_any (F k) (F (k - 1))
        have hx : Hid (decide ((F k).1 = (F (k - 1)).1) = decide ((F k).1 = (F (k - 1)).1)) := rfl
        obtain ⟨bv, hbv⟩ : ∃ bv, decide ((F k).1 = (F (k - 1)).1) = bv := ⟨_, rfl⟩
        rw [hbv] at CH
        have hbH : Hid (decide ((F k).1 = (F (k - 1)).1) = bv) := hbv
        have CH : Hid _ := CH
        generalize F k = x at a1 a2 CH
        generalize F (k - 1) = y at b1 b2 CH
        clear hT hbv hx
        cases bv with
        | false =>
          go_wp2_with fail
          refine wp_region_noPanic ?_
          refine wp_region_held_drew (S := fun W => (W.cell? ⟨b, off + k * 2, none⟩ = some (.string x.1) ∧ W.cell? ⟨b, off + k * 2 + 1, none⟩ = some (.string x.2)) ∧ W.cell? ⟨b, off + (k - 1) * 2, none⟩ = some (.string y.1) ∧ W.cell? ⟨b, off + (k - 1) * 2 + 1, none⟩ = some (.string y.2)) (by kernel_rfl) ⟨⟨a1, a2⟩, b1, b2⟩ (fun hHeld => ?_)
          refine wpAnyH_take (i := 0) (oi := _) (v := ?_) rfl (by kernel_rfl) (by kernel_rfl) (by kernel_rfl) (fun _ _ _ h => h) (Or.inl ⟨by rfl, ?_⟩) (by assumption) ?_
          rotate_left 1
          · (intro w0 hSw; (try dsimp only at hSw); obtain ⟨⟨s1, s2⟩, s3, s4⟩ := hSw; go_simp; try with_reducible rfl)
          (try simp only [List.getElem_toArray, List.getElem_cons_succ, List.getElem_cons_zero]); (try simp only [Act.put, List.setIfInBounds_toArray, List.set_cons_zero, List.set_cons_succ])
          refine wpAnyH_take (i := 1) (oi := _) (v := ?_) rfl (by kernel_rfl) (by kernel_rfl) (by kernel_rfl) (fun _ _ _ h => h) (Or.inl ⟨by rfl, ?_⟩) (by assumption) ?_
          rotate_left 1
          · (intro w0 hSw; (try dsimp only at hSw); obtain ⟨⟨s1, s2⟩, s3, s4⟩ := hSw; go_simp; try with_reducible rfl)
          (try simp only [List.getElem_toArray, List.getElem_cons_succ, List.getElem_cons_zero]); (try simp only [Act.put, List.setIfInBounds_toArray, List.set_cons_zero, List.set_cons_succ])
          refine wpAnyH_take (i := 2) (oi := _) (v := ?_) rfl (by kernel_rfl) (by kernel_rfl) (by kernel_rfl) (fun _ _ _ h => h) (Or.inl ⟨by rfl, ?_⟩) (by assumption) ?_
          rotate_left 1
          · (intro w0 hSw; (try dsimp only at hSw); obtain ⟨⟨s1, s2⟩, s3, s4⟩ := hSw; go_simp; try with_reducible rfl)
          (try simp only [List.getElem_toArray, List.getElem_cons_succ, List.getElem_cons_zero]); (try simp only [Act.put, List.setIfInBounds_toArray, List.set_cons_zero, List.set_cons_succ])
          refine wpAnyH_take (i := 3) (oi := _) (v := ?_) rfl (by kernel_rfl) (by kernel_rfl) (by kernel_rfl) (fun _ _ _ h => h) (Or.inl ⟨by rfl, ?_⟩) (by assumption) ?_
          rotate_left 1
          · (intro w0 hSw; (try dsimp only at hSw); obtain ⟨⟨s1, s2⟩, s3, s4⟩ := hSw; go_simp; try with_reducible rfl)
          (try simp only [List.getElem_toArray, List.getElem_cons_succ, List.getElem_cons_zero]); (try simp only [Act.put, List.setIfInBounds_toArray, List.set_cons_zero, List.set_cons_succ])
          refine wpAnyH_take (i := 4) (oi := _) (v := ?_) rfl (by kernel_rfl) (by kernel_rfl) (by kernel_rfl) (fun _ _ _ h => h) (Or.inl ⟨by rfl, ?_⟩) (by assumption) ?_
          rotate_left 1
          · (intro w0 hSw; (try dsimp only at hSw); obtain ⟨⟨s1, s2⟩, s3, s4⟩ := hSw; go_simp; try with_reducible rfl)
          (try simp only [List.getElem_toArray, List.getElem_cons_succ, List.getElem_cons_zero]); (try simp only [Act.put, List.setIfInBounds_toArray, List.set_cons_zero, List.set_cons_succ])
          refine wpAnyH_take (i := 5) (oi := _) (v := ?_) rfl (by kernel_rfl) (by kernel_rfl) (by kernel_rfl) (fun _ _ _ h => h) (Or.inl ⟨by rfl, ?_⟩) (by assumption) ?_
          rotate_left 1
          · (intro w0 hSw; (try dsimp only at hSw); obtain ⟨⟨s1, s2⟩, s3, s4⟩ := hSw; go_simp; try with_reducible rfl)
          (try simp only [List.getElem_toArray, List.getElem_cons_succ, List.getElem_cons_zero]); (try simp only [Act.put, List.setIfInBounds_toArray, List.set_cons_zero, List.set_cons_succ])
          refine wpAnyH_take (i := 6) (oi := _) (v := ?_) rfl (by kernel_rfl) (by kernel_rfl) (by kernel_rfl) (fun _ _ _ h => h) (Or.inl ⟨by rfl, ?_⟩) (by assumption) ?_
          rotate_left 1
          · (intro w0 hSw; (try dsimp only at hSw); obtain ⟨⟨s1, s2⟩, s3, s4⟩ := hSw; go_simp; try with_reducible rfl)
          (try simp only [List.getElem_toArray, List.getElem_cons_succ, List.getElem_cons_zero]); (try simp only [Act.put, List.setIfInBounds_toArray, List.set_cons_zero, List.set_cons_succ])
          refine wpAnyH_take (i := 7) (oi := _) (v := ?_) rfl (by kernel_rfl) (by kernel_rfl) (by kernel_rfl) (fun _ _ _ h => h) (Or.inl ⟨by rfl, ?_⟩) (by assumption) ?_
          rotate_left 1
          · (intro w0 hSw; (try dsimp only at hSw); obtain ⟨⟨s1, s2⟩, s3, s4⟩ := hSw; go_simp; try with_reducible rfl)
          (try simp only [List.getElem_toArray, List.getElem_cons_succ, List.getElem_cons_zero]); (try simp only [Act.put, List.setIfInBounds_toArray, List.set_cons_zero, List.set_cons_succ])
          refine wpAnyH_take (i := 8) (oi := _) (v := ?_) rfl (by kernel_rfl) (by kernel_rfl) (by kernel_rfl) (fun _ _ _ h => h) (Or.inl ⟨by rfl, ?_⟩) (by assumption) ?_
          rotate_left 1
          · (intro w0 hSw; (try dsimp only at hSw); obtain ⟨⟨s1, s2⟩, s3, s4⟩ := hSw; go_simp; try with_reducible rfl)
          (try simp only [List.getElem_toArray, List.getElem_cons_succ, List.getElem_cons_zero]); (try simp only [Act.put, List.setIfInBounds_toArray, List.set_cons_zero, List.set_cons_succ])
          refine wpAnyH_take (i := 9) (oi := _) (v := ?_) rfl (by kernel_rfl) (by kernel_rfl) (by kernel_rfl) (fun _ _ _ h => h) (Or.inl ⟨by rfl, ?_⟩) (by assumption) ?_
          rotate_left 1
          · (intro w0 hSw; (try dsimp only at hSw); obtain ⟨⟨s1, s2⟩, s3, s4⟩ := hSw; go_simp; try with_reducible rfl)
          (try simp only [List.getElem_toArray, List.getElem_cons_succ, List.getElem_cons_zero]); (try simp only [Act.put, List.setIfInBounds_toArray, List.set_cons_zero, List.set_cons_succ])
          refine wpAnyH_ready (rs := [10]) (by kernel_rfl) (by simp) ?_
          refine AllReadyH.cons (o := _) rfl (fun K hK => ?_) AllReadyH.nil
          go_simp
          refine Calls.mono (CH.out _) ?_
          rintro e w' ⟨rfl, BB⟩
          try dsimp only
          refine hK _ _ ?_ (fun hHeld => ?_)
          · exact ⟨⟨by rw [BB.cell (p := ⟨b, off + k * 2, none⟩) bl]; exact a1, by rw [BB.cell (p := ⟨b, off + k * 2 + 1, none⟩) bl]; exact a2⟩, by rw [BB.cell (p := ⟨b, off + (k - 1) * 2, none⟩) bl]; exact b1, by rw [BB.cell (p := ⟨b, off + (k - 1) * 2 + 1, none⟩) bl]; exact b2⟩
          clear hK K
          (try simp only [List.getElem_toArray, List.getElem_cons_succ, List.getElem_cons_zero]); (try simp only [Act.put, List.setIfInBounds_toArray, List.set_cons_zero, List.set_cons_succ])
          refine wpAnyH_done (by kernel_rfl) ?_ _
          refine NoPanic.normal ?_
          have T2H : Hid (TR w' b off n F) := TR.below (show TR wr.drew b off n F from hTH.out) BB
          have O2 : Hid (OB b w w') := (show OB b w wr.drew from hOH.out.drew).trans (OB.below BB)
          have nx : Hid (∀ i, 1 ≤ i → i < k + 1 → (F (i - 1)).1 ≠ (F i).1) := fun i i1 i2 => by
            by_cases c : i < k
            · exact hall.out i i1 c
            · have : i = k := by omega
              subst this
              exact fun e => of_decide_eq_false hbH.out e.symm
          clear a1 a2 b1 b2 BB hTH hOH hall hbH CH
          go_wp2_with fail
          exact ⟨⟨k + 1, by first | rfl | simp, by omega, by omega, nx, T2H.out, O2.out⟩, by simp [intOf]; omega⟩
        | true =>
          go_wp2_with fail
          refine wp_region_noPanic ?_
          refine wp_region_held_drew (S := fun W => (W.cell? ⟨b, off + k * 2, none⟩ = some (.string x.1) ∧ W.cell? ⟨b, off + k * 2 + 1, none⟩ = some (.string x.2)) ∧ W.cell? ⟨b, off + (k - 1) * 2, none⟩ = some (.string y.1) ∧ W.cell? ⟨b, off + (k - 1) * 2 + 1, none⟩ = some (.string y.2)) (by kernel_rfl) ⟨⟨a1, a2⟩, b1, b2⟩ (fun hHeld => ?_)
          refine wpAnyH_take (i := 0) (oi := _) (v := ?_) rfl (by kernel_rfl) (by kernel_rfl) (by kernel_rfl) (fun _ _ _ h => h) (Or.inl ⟨by rfl, ?_⟩) (by assumption) ?_
          rotate_left 1
          · (intro w0 hSw; (try dsimp only at hSw); obtain ⟨⟨s1, s2⟩, s3, s4⟩ := hSw; go_simp; try with_reducible rfl)
          (try simp only [List.getElem_toArray, List.getElem_cons_succ, List.getElem_cons_zero]); (try simp only [Act.put, List.setIfInBounds_toArray, List.set_cons_zero, List.set_cons_succ])
          refine wpAnyH_take (i := 1) (oi := _) (v := ?_) rfl (by kernel_rfl) (by kernel_rfl) (by kernel_rfl) (fun _ _ _ h => h) (Or.inl ⟨by rfl, ?_⟩) (by assumption) ?_
          rotate_left 1
          · (intro w0 hSw; (try dsimp only at hSw); obtain ⟨⟨s1, s2⟩, s3, s4⟩ := hSw; go_simp; try with_reducible rfl)
          (try simp only [List.getElem_toArray, List.getElem_cons_succ, List.getElem_cons_zero]); (try simp only [Act.put, List.setIfInBounds_toArray, List.set_cons_zero, List.set_cons_succ])
          refine wpAnyH_take (i := 2) (oi := _) (v := ?_) rfl (by kernel_rfl) (by kernel_rfl) (by kernel_rfl) (fun _ _ _ h => h) (Or.inl ⟨by rfl, ?_⟩) (by assumption) ?_
          rotate_left 1
          · (intro w0 hSw; (try dsimp only at hSw); obtain ⟨⟨s1, s2⟩, s3, s4⟩ := hSw; go_simp; try with_reducible rfl)
          (try simp only [List.getElem_toArray, List.getElem_cons_succ, List.getElem_cons_zero]); (try simp only [Act.put, List.setIfInBounds_toArray, List.set_cons_zero, List.set_cons_succ])
          refine wpAnyH_take (i := 3) (oi := _) (v := ?_) rfl (by kernel_rfl) (by kernel_rfl) (by kernel_rfl) (fun _ _ _ h => h) (Or.inl ⟨by rfl, ?_⟩) (by assumption) ?_
          rotate_left 1
          · (intro w0 hSw; (try dsimp only at hSw); obtain ⟨⟨s1, s2⟩, s3, s4⟩ := hSw; go_simp; try with_reducible rfl)
          (try simp only [List.getElem_toArray, List.getElem_cons_succ, List.getElem_cons_zero]); (try simp only [Act.put, List.setIfInBounds_toArray, List.set_cons_zero, List.set_cons_succ])
          refine wpAnyH_take (i := 4) (oi := _) (v := ?_) rfl (by kernel_rfl) (by kernel_rfl) (by kernel_rfl) (fun _ _ _ h => h) (Or.inl ⟨by rfl, ?_⟩) (by assumption) ?_
          rotate_left 1
          · (intro w0 hSw; (try dsimp only at hSw); obtain ⟨⟨s1, s2⟩, s3, s4⟩ := hSw; go_simp; try with_reducible rfl)
          (try simp only [List.getElem_toArray, List.getElem_cons_succ, List.getElem_cons_zero]); (try simp only [Act.put, List.setIfInBounds_toArray, List.set_cons_zero, List.set_cons_succ])
          refine wpAnyH_take (i := 5) (oi := _) (v := ?_) rfl (by kernel_rfl) (by kernel_rfl) (by kernel_rfl) (fun _ _ _ h => h) (Or.inl ⟨by rfl, ?_⟩) (by assumption) ?_
          rotate_left 1
          · (intro w0 hSw; (try dsimp only at hSw); obtain ⟨⟨s1, s2⟩, s3, s4⟩ := hSw; go_simp; try with_reducible rfl)
          (try simp only [List.getElem_toArray, List.getElem_cons_succ, List.getElem_cons_zero]); (try simp only [Act.put, List.setIfInBounds_toArray, List.set_cons_zero, List.set_cons_succ])
          refine wpAnyH_take (i := 6) (oi := _) (v := ?_) rfl (by kernel_rfl) (by kernel_rfl) (by kernel_rfl) (fun _ _ _ h => h) (Or.inl ⟨by rfl, ?_⟩) (by assumption) ?_
          rotate_left 1
          · (intro w0 hSw; (try dsimp only at hSw); obtain ⟨⟨s1, s2⟩, s3, s4⟩ := hSw; go_simp; try with_reducible rfl)
          (try simp only [List.getElem_toArray, List.getElem_cons_succ, List.getElem_cons_zero]); (try simp only [Act.put, List.setIfInBounds_toArray, List.set_cons_zero, List.set_cons_succ])
          refine wpAnyH_take (i := 7) (oi := _) (v := ?_) rfl (by kernel_rfl) (by kernel_rfl) (by kernel_rfl) (fun _ _ _ h => h) (Or.inl ⟨by rfl, ?_⟩) (by assumption) ?_
          rotate_left 1
          · (intro w0 hSw; (try dsimp only at hSw); obtain ⟨⟨s1, s2⟩, s3, s4⟩ := hSw; go_simp; try with_reducible rfl)
          (try simp only [List.getElem_toArray, List.getElem_cons_succ, List.getElem_cons_zero]); (try simp only [Act.put, List.setIfInBounds_toArray, List.set_cons_zero, List.set_cons_succ])
          refine wpAnyH_take (i := 8) (oi := _) (v := ?_) rfl (by kernel_rfl) (by kernel_rfl) (by kernel_rfl) (fun _ _ _ h => h) (Or.inl ⟨by rfl, ?_⟩) (by assumption) ?_
          rotate_left 1
          · (intro w0 hSw; (try dsimp only at hSw); obtain ⟨⟨s1, s2⟩, s3, s4⟩ := hSw; go_simp; try with_reducible rfl)
          (try simp only [List.getElem_toArray, List.getElem_cons_succ, List.getElem_cons_zero]); (try simp only [Act.put, List.setIfInBounds_toArray, List.set_cons_zero, List.set_cons_succ])
          refine wpAnyH_take (i := 9) (oi := _) (v := ?_) rfl (by kernel_rfl) (by kernel_rfl) (by kernel_rfl) (fun _ _ _ h => h) (Or.inl ⟨by rfl, ?_⟩) (by assumption) ?_
          rotate_left 1
          · (intro w0 hSw; (try dsimp only at hSw); obtain ⟨⟨s1, s2⟩, s3, s4⟩ := hSw; go_simp; try with_reducible rfl)
          (try simp only [List.getElem_toArray, List.getElem_cons_succ, List.getElem_cons_zero]); (try simp only [Act.put, List.setIfInBounds_toArray, List.set_cons_zero, List.set_cons_succ])
          refine wpAnyH_ready (rs := [10]) (by kernel_rfl) (by simp) ?_
          refine AllReadyH.cons (o := _) rfl (fun K hK => ?_) AllReadyH.nil
          go_simp
          refine Calls.mono (CH.out _) ?_
          rintro e w' ⟨rfl, BB⟩
          try dsimp only
          refine hK _ _ ?_ (fun hHeld => ?_)
          · exact ⟨⟨by rw [BB.cell (p := ⟨b, off + k * 2, none⟩) bl]; exact a1, by rw [BB.cell (p := ⟨b, off + k * 2 + 1, none⟩) bl]; exact a2⟩, by rw [BB.cell (p := ⟨b, off + (k - 1) * 2, none⟩) bl]; exact b1, by rw [BB.cell (p := ⟨b, off + (k - 1) * 2 + 1, none⟩) bl]; exact b2⟩
          clear hK K
          (try simp only [List.getElem_toArray, List.getElem_cons_succ, List.getElem_cons_zero]); (try simp only [Act.put, List.setIfInBounds_toArray, List.set_cons_zero, List.set_cons_succ])
          refine wpAnyH_done (by kernel_rfl) ?_ _
          refine NoPanic.normal ?_
          have T2H : Hid (TR w' b off n F) := TR.below (show TR wr.drew b off n F from hTH.out) BB
          have O2 : Hid (OB b w w') := (show OB b w wr.drew from hOH.out.drew).trans (OB.below BB)
          have cs0 : Hid (CS F F (k + 1) k) := (CS.mk (fsts_plain F k hall.out).symm (fun _ _ => rfl) : CS F F k k).skip k1 (of_decide_eq_true hbH.out)
          clear a1 a2 b1 b2 BB hTH hOH hall hbH CH
          have kc : (k : Int) ≤ (cap : Int) := by omega
          go_wp2_with fail
          generalize hl : n - k = l
          generalize ho : off + k * 2 = o2
          have hlH : Hid (n - k = l) := hl
          have hoH : Hid (off + k * 2 = o2) := ho
          clear hl ho kc kw kv k0 k2 k3 k4 bl hHeld
          go_loopw [5, 7] (fun vk vq wr => ∃ (m q : Nat) (H : Nat → Tg), vk = .int .i64 (m : Int) ∧ vq = .int .i64 (q : Int) ∧ k ≤ m ∧ 1 ≤ q ∧ q ≤ l ∧ m + 1 ≤ k + q ∧ Hid (CS F H (k + q) m) ∧ TR wr b off n H ∧ OB b w wr) (fun _ vq _ => l - (intOf vq).toNat)
          case atStart => exact ⟨k, 1, F, rfl, rfl, Nat.le_refl _, Nat.le_refl _, by have := hlH.out; omega, by omega, cs0, T2H.out, O2.out⟩
          case round =>
            clear T2H O2 cs0
            obtain ⟨m, q, H, rfl, rfl, m1, q1, q2, m2, hcs, hT, hO⟩ := hrel
            have hTH : Hid (TR wr b off n H) := hT
            have hOH : Hid (OB b w wr) := hO
            clear hO
            by_cases hq : q < l
            · have hqI : (q : Int) < (l : Int) := by omega
              have kw : IntKind.i64.wrap ((q : Int) + 1) = ((q + 1 : Nat) : Int) := IntWalk.i64_in _ (by have := hlH.out; omega)
              have kv : IntKind.i64.wrap ((q : Int) - 1) = (q : Int) - 1 := IntWalk.i64_in _ (by have := hlH.out; omega)
              have k0 : (0 : Int) ≤ (q : Int) := by omega
              have k2 : (0 : Int) ≤ (q : Int) - 1 := by omega
              have k3 : (q : Int) - 1 < (l : Int) := by omega
              have k4 : (1 : Int) ≤ (q : Int) := by omega
              obtain ⟨⟨a1, a2⟩, _, _⟩ := hT.2 (k + q) (by have := hlH.out; omega)
              obtain ⟨⟨b1, b2⟩, _, _⟩ := hT.2 (k + q - 1) (by have := hlH.out; omega)
              rw [show off + (k + q) * 2 = o2 + q * 2 by have := hoH.out; omega] at a1 a2
              rw [show off + (k + q - 1) * 2 = o2 + (q - 1) * 2 by have := hoH.out; omega] at b1 b2
              rw [hcs.out.rest (k + q) (by omega)] at a1 a2
              rw [hcs.out.rest (k + q - 1) (by omega)] at b1 b2
              have bl : b < wr.heap.size := hT.1
              have CH0 := sameKey_any (F (k + q)) (F (k + q - 1))
              obtain ⟨bv, hbv⟩ : ∃ bv, decide ((F (k + q)).1 = (F (k + q - 1)).1) = bv := ⟨_, rfl⟩
              rw [hbv] at CH0
              have hbH : Hid (decide ((F (k + q)).1 = (F (k + q - 1)).1) = bv) := hbv
              have CH : Hid _ := CH0
              have hnew : Hid ((F (k + q)).1 ≠ (F (k + q - 1)).1 → CS F (upd H m (F (k + q))) (k + q + 1) (m + 1)) := fun e => hcs.out.new e
              have hsk : Hid ((F (k + q)).1 = (F (k + q - 1)).1 → CS F H (k + q + 1) m) := fun e => hcs.out.skip (by omega) e
              generalize F (k + q) = x at a1 a2 CH hbH hnew hsk
              generalize F (k + q - 1) = y at b1 b2 CH hbH hnew hsk
              clear hT hbv CH0 hcs
              cases bv with
              | true =>
                go_wp2_with fail
                refine wp_region_noPanic ?_
                refine wp_region_held_drew (S := fun W => (W.cell? ⟨b, o2 + q * 2, none⟩ = some (.string x.1) ∧ W.cell? ⟨b, o2 + q * 2 + 1, none⟩ = some (.string x.2)) ∧ W.cell? ⟨b, o2 + (q - 1) * 2, none⟩ = some (.string y.1) ∧ W.cell? ⟨b, o2 + (q - 1) * 2 + 1, none⟩ = some (.string y.2)) (by kernel_rfl) ⟨⟨a1, a2⟩, b1, b2⟩ (fun hHeld => ?_)
                refine wpAnyH_take (i := 0) (oi := _) (v := ?_) rfl (by kernel_rfl) (by kernel_rfl) (by kernel_rfl) (fun _ _ _ h => h) (Or.inl ⟨by rfl, ?_⟩) (by assumption) ?_
                rotate_left 1
                · (intro w0 hSw; (try dsimp only at hSw); obtain ⟨⟨s1, s2⟩, s3, s4⟩ := hSw; go_simp; try with_reducible rfl)
                (try simp only [List.getElem_toArray, List.getElem_cons_succ, List.getElem_cons_zero]); (try simp only [Act.put, List.setIfInBounds_toArray, List.set_cons_zero, List.set_cons_succ])
                refine wpAnyH_take (i := 1) (oi := _) (v := ?_) rfl (by kernel_rfl) (by kernel_rfl) (by kernel_rfl) (fun _ _ _ h => h) (Or.inl ⟨by rfl, ?_⟩) (by assumption) ?_
                rotate_left 1
                · (intro w0 hSw; (try dsimp only at hSw); obtain ⟨⟨s1, s2⟩, s3, s4⟩ := hSw; go_simp; try with_reducible rfl)
                (try simp only [List.getElem_toArray, List.getElem_cons_succ, List.getElem_cons_zero]); (try simp only [Act.put, List.setIfInBounds_toArray, List.set_cons_zero, List.set_cons_succ])
                refine wpAnyH_take (i := 2) (oi := _) (v := ?_) rfl (by kernel_rfl) (by kernel_rfl) (by kernel_rfl) (fun _ _ _ h => h) (Or.inl ⟨by rfl, ?_⟩) (by assumption) ?_
                rotate_left 1
                · (intro w0 hSw; (try dsimp only at hSw); obtain ⟨⟨s1, s2⟩, s3, s4⟩ := hSw; go_simp; try with_reducible rfl)
                (try simp only [List.getElem_toArray, List.getElem_cons_succ, List.getElem_cons_zero]); (try simp only [Act.put, List.setIfInBounds_toArray, List.set_cons_zero, List.set_cons_succ])
                refine wpAnyH_take (i := 3) (oi := _) (v := ?_) rfl (by kernel_rfl) (by kernel_rfl) (by kernel_rfl) (fun _ _ _ h => h) (Or.inl ⟨by rfl, ?_⟩) (by assumption) ?_
                rotate_left 1
                · (intro w0 hSw; (try dsimp only at hSw); obtain ⟨⟨s1, s2⟩, s3, s4⟩ := hSw; go_simp; try with_reducible rfl)
                (try simp only [List.getElem_toArray, List.getElem_cons_succ, List.getElem_cons_zero]); (try simp only [Act.put, List.setIfInBounds_toArray, List.set_cons_zero, List.set_cons_succ])
                refine wpAnyH_take (i := 4) (oi := _) (v := ?_) rfl (by kernel_rfl) (by kernel_rfl) (by kernel_rfl) (fun _ _ _ h => h) (Or.inl ⟨by rfl, ?_⟩) (by assumption) ?_
                rotate_left 1
                · (intro w0 hSw; (try dsimp only at hSw); obtain ⟨⟨s1, s2⟩, s3, s4⟩ := hSw; go_simp; try with_reducible rfl)
                (try simp only [List.getElem_toArray, List.getElem_cons_succ, List.getElem_cons_zero]); (try simp only [Act.put, List.setIfInBounds_toArray, List.set_cons_zero, List.set_cons_succ])
                refine wpAnyH_take (i := 5) (oi := _) (v := ?_) rfl (by kernel_rfl) (by kernel_rfl) (by kernel_rfl) (fun _ _ _ h => h) (Or.inl ⟨by rfl, ?_⟩) (by assumption) ?_
                rotate_left 1
                · (intro w0 hSw; (try dsimp only at hSw); obtain ⟨⟨s1, s2⟩, s3, s4⟩ := hSw; go_simp; try with_reducible rfl)
                (try simp only [List.getElem_toArray, List.getElem_cons_succ, List.getElem_cons_zero]); (try simp only [Act.put, List.setIfInBounds_toArray, List.set_cons_zero, List.set_cons_succ])
                refine wpAnyH_take (i := 6) (oi := _) (v := ?_) rfl (by kernel_rfl) (by kernel_rfl) (by kernel_rfl) (fun _ _ _ h => h) (Or.inl ⟨by rfl, ?_⟩) (by assumption) ?_
                rotate_left 1
                · (intro w0 hSw; (try dsimp only at hSw); obtain ⟨⟨s1, s2⟩, s3, s4⟩ := hSw; go_simp; try with_reducible rfl)
                (try simp only [List.getElem_toArray, List.getElem_cons_succ, List.getElem_cons_zero]); (try simp only [Act.put, List.setIfInBounds_toArray, List.set_cons_zero, List.set_cons_succ])
                refine wpAnyH_take (i := 7) (oi := _) (v := ?_) rfl (by kernel_rfl) (by kernel_rfl) (by kernel_rfl) (fun _ _ _ h => h) (Or.inl ⟨by rfl, ?_⟩) (by assumption) ?_
                rotate_left 1
                · (intro w0 hSw; (try dsimp only at hSw); obtain ⟨⟨s1, s2⟩, s3, s4⟩ := hSw; go_simp; try with_reducible rfl)
                (try simp only [List.getElem_toArray, List.getElem_cons_succ, List.getElem_cons_zero]); (try simp only [Act.put, List.setIfInBounds_toArray, List.set_cons_zero, List.set_cons_succ])
                refine wpAnyH_take (i := 8) (oi := _) (v := ?_) rfl (by kernel_rfl) (by kernel_rfl) (by kernel_rfl) (fun _ _ _ h => h) (Or.inl ⟨by rfl, ?_⟩) (by assumption) ?_
                rotate_left 1
                · (intro w0 hSw; (try dsimp only at hSw); obtain ⟨⟨s1, s2⟩, s3, s4⟩ := hSw; go_simp; try with_reducible rfl)
                (try simp only [List.getElem_toArray, List.getElem_cons_succ, List.getElem_cons_zero]); (try simp only [Act.put, List.setIfInBounds_toArray, List.set_cons_zero, List.set_cons_succ])
                refine wpAnyH_take (i := 9) (oi := _) (v := ?_) rfl (by kernel_rfl) (by kernel_rfl) (by kernel_rfl) (fun _ _ _ h => h) (Or.inl ⟨by rfl, ?_⟩) (by assumption) ?_
                rotate_left 1
                · (intro w0 hSw; (try dsimp only at hSw); obtain ⟨⟨s1, s2⟩, s3, s4⟩ := hSw; go_simp; try with_reducible rfl)
                (try simp only [List.getElem_toArray, List.getElem_cons_succ, List.getElem_cons_zero]); (try simp only [Act.put, List.setIfInBounds_toArray, List.set_cons_zero, List.set_cons_succ])
                refine wpAnyH_ready (rs := [10]) (by kernel_rfl) (by simp) ?_
                refine AllReadyH.cons (o := _) rfl (fun K hK => ?_) AllReadyH.nil
                go_simp
                refine Calls.mono (CH.out _) ?_
                rintro e w' ⟨rfl, BB⟩
                try dsimp only
                refine hK _ _ ?_ (fun hHeld => ?_)
                · exact ⟨⟨by rw [BB.cell (p := ⟨b, o2 + q * 2, none⟩) bl]; exact a1, by rw [BB.cell (p := ⟨b, o2 + q * 2 + 1, none⟩) bl]; exact a2⟩, by rw [BB.cell (p := ⟨b, o2 + (q - 1) * 2, none⟩) bl]; exact b1, by rw [BB.cell (p := ⟨b, o2 + (q - 1) * 2 + 1, none⟩) bl]; exact b2⟩
                clear hK K
                (try simp only [List.getElem_toArray, List.getElem_cons_succ, List.getElem_cons_zero]); (try simp only [Act.put, List.setIfInBounds_toArray, List.set_cons_zero, List.set_cons_succ])
                refine wpAnyH_take (i := 11) (oi := _) (v := ?_) rfl (by kernel_rfl) (by kernel_rfl) (by kernel_rfl) (fun _ _ _ h => h) (Or.inl ⟨by rfl, ?_⟩) (by assumption) ?_
                rotate_left 1
                · (intro w0 hSw; (try dsimp only at hSw); obtain ⟨⟨s1, s2⟩, s3, s4⟩ := hSw; go_simp; try with_reducible rfl)
                (try simp only [List.getElem_toArray, List.getElem_cons_succ, List.getElem_cons_zero]); (try simp only [Act.put, List.setIfInBounds_toArray, List.set_cons_zero, List.set_cons_succ])
                refine wpAnyH_done (by kernel_rfl) ?_ _
                refine NoPanic.normal ?_
                have T2H : Hid (TR w' b off n H) := TR.below (show TR wr.drew b off n H from hTH.out) BB
                have O2 : Hid (OB b w w') := (show OB b w wr.drew from hOH.out.drew).trans (OB.below BB)
                have nx : Hid (CS F H (k + (q + 1)) m) := hsk.out (of_decide_eq_true hbH.out)
                clear a1 a2 b1 b2 BB hTH hOH hbH CH hnew hsk
                go_wp2_with fail
                exact ⟨⟨m, q + 1, H, rfl, by first | rfl | simp, m1, by omega, by omega, by omega, nx, T2H.out, O2.out⟩, by simp [intOf]; omega⟩
              | false =>
                go_wp2_with fail
                refine wp_region_noPanic ?_
                refine wp_region_held_drew (S := fun W => (W.cell? ⟨b, o2 + q * 2, none⟩ = some (.string x.1) ∧ W.cell? ⟨b, o2 + q * 2 + 1, none⟩ = some (.string x.2)) ∧ W.cell? ⟨b, o2 + (q - 1) * 2, none⟩ = some (.string y.1) ∧ W.cell? ⟨b, o2 + (q - 1) * 2 + 1, none⟩ = some (.string y.2)) (by kernel_rfl) ⟨⟨a1, a2⟩, b1, b2⟩ (fun hHeld => ?_)
                refine wpAnyH_take (i := 0) (oi := _) (v := ?_) rfl (by kernel_rfl) (by kernel_rfl) (by kernel_rfl) (fun _ _ _ h => h) (Or.inl ⟨by rfl, ?_⟩) (by assumption) ?_
                rotate_left 1
                · (intro w0 hSw; (try dsimp only at hSw); obtain ⟨⟨s1, s2⟩, s3, s4⟩ := hSw; go_simp; try with_reducible rfl)
                (try simp only [List.getElem_toArray, List.getElem_cons_succ, List.getElem_cons_zero]); (try simp only [Act.put, List.setIfInBounds_toArray, List.set_cons_zero, List.set_cons_succ])
                refine wpAnyH_take (i := 1) (oi := _) (v := ?_) rfl (by kernel_rfl) (by kernel_rfl) (by kernel_rfl) (fun _ _ _ h => h) (Or.inl ⟨by rfl, ?_⟩) (by assumption) ?_
                rotate_left 1
                · (intro w0 hSw; (try dsimp only at hSw); obtain ⟨⟨s1, s2⟩, s3, s4⟩ := hSw; go_simp; try with_reducible rfl)
                (try simp only [List.getElem_toArray, List.getElem_cons_succ, List.getElem_cons_zero]); (try simp only [Act.put, List.setIfInBounds_toArray, List.set_cons_zero, List.set_cons_succ])
                refine wpAnyH_take (i := 2) (oi := _) (v := ?_) rfl (by kernel_rfl) (by kernel_rfl) (by kernel_rfl) (fun _ _ _ h => h) (Or.inl ⟨by rfl, ?_⟩) (by assumption) ?_
                rotate_left 1
                · (intro w0 hSw; (try dsimp only at hSw); obtain ⟨⟨s1, s2⟩, s3, s4⟩ := hSw; go_simp; try with_reducible rfl)
                (try simp only [List.getElem_toArray, List.getElem_cons_succ, List.getElem_cons_zero]); (try simp only [Act.put, List.setIfInBounds_toArray, List.set_cons_zero, List.set_cons_succ])
                refine wpAnyH_take (i := 3) (oi := _) (v := ?_) rfl (by kernel_rfl) (by kernel_rfl) (by kernel_rfl) (fun _ _ _ h => h) (Or.inl ⟨by rfl, ?_⟩) (by assumption) ?_
                rotate_left 1
                · (intro w0 hSw; (try dsimp only at hSw); obtain ⟨⟨s1, s2⟩, s3, s4⟩ := hSw; go_simp; try with_reducible rfl)
                (try simp only [List.getElem_toArray, List.getElem_cons_succ, List.getElem_cons_zero]); (try simp only [Act.put, List.setIfInBounds_toArray, List.set_cons_zero, List.set_cons_succ])
                refine wpAnyH_take (i := 4) (oi := _) (v := ?_) rfl (by kernel_rfl) (by kernel_rfl) (by kernel_rfl) (fun _ _ _ h => h) (Or.inl ⟨by rfl, ?_⟩) (by assumption) ?_
                rotate_left 1
                · (intro w0 hSw; (try dsimp only at hSw); obtain ⟨⟨s1, s2⟩, s3, s4⟩ := hSw; go_simp; try with_reducible rfl)
                (try simp only [List.getElem_toArray, List.getElem_cons_succ, List.getElem_cons_zero]); (try simp only [Act.put, List.setIfInBounds_toArray, List.set_cons_zero, List.set_cons_succ])
                refine wpAnyH_take (i := 5) (oi := _) (v := ?_) rfl (by kernel_rfl) (by kernel_rfl) (by kernel_rfl) (fun _ _ _ h => h) (Or.inl ⟨by rfl, ?_⟩) (by assumption) ?_
                rotate_left 1
                · (intro w0 hSw; (try dsimp only at hSw); obtain ⟨⟨s1, s2⟩, s3, s4⟩ := hSw; go_simp; try with_reducible rfl)
                (try simp only [List.getElem_toArray, List.getElem_cons_succ, List.getElem_cons_zero]); (try simp only [Act.put, List.setIfInBounds_toArray, List.set_cons_zero, List.set_cons_succ])
                refine wpAnyH_take (i := 6) (oi := _) (v := ?_) rfl (by kernel_rfl) (by kernel_rfl) (by kernel_rfl) (fun _ _ _ h => h) (Or.inl ⟨by rfl, ?_⟩) (by assumption) ?_
                rotate_left 1
                · (intro w0 hSw; (try dsimp only at hSw); obtain ⟨⟨s1, s2⟩, s3, s4⟩ := hSw; go_simp; try with_reducible rfl)
                (try simp only [List.getElem_toArray, List.getElem_cons_succ, List.getElem_cons_zero]); (try simp only [Act.put, List.setIfInBounds_toArray, List.set_cons_zero, List.set_cons_succ])
                refine wpAnyH_take (i := 7) (oi := _) (v := ?_) rfl (by kernel_rfl) (by kernel_rfl) (by kernel_rfl) (fun _ _ _ h => h) (Or.inl ⟨by rfl, ?_⟩) (by assumption) ?_
                rotate_left 1
                · (intro w0 hSw; (try dsimp only at hSw); obtain ⟨⟨s1, s2⟩, s3, s4⟩ := hSw; go_simp; try with_reducible rfl)
                (try simp only [List.getElem_toArray, List.getElem_cons_succ, List.getElem_cons_zero]); (try simp only [Act.put, List.setIfInBounds_toArray, List.set_cons_zero, List.set_cons_succ])
                refine wpAnyH_take (i := 8) (oi := _) (v := ?_) rfl (by kernel_rfl) (by kernel_rfl) (by kernel_rfl) (fun _ _ _ h => h) (Or.inl ⟨by rfl, ?_⟩) (by assumption) ?_
                rotate_left 1
                · (intro w0 hSw; (try dsimp only at hSw); obtain ⟨⟨s1, s2⟩, s3, s4⟩ := hSw; go_simp; try with_reducible rfl)
                (try simp only [List.getElem_toArray, List.getElem_cons_succ, List.getElem_cons_zero]); (try simp only [Act.put, List.setIfInBounds_toArray, List.set_cons_zero, List.set_cons_succ])
                refine wpAnyH_take (i := 9) (oi := _) (v := ?_) rfl (by kernel_rfl) (by kernel_rfl) (by kernel_rfl) (fun _ _ _ h => h) (Or.inl ⟨by rfl, ?_⟩) (by assumption) ?_
                rotate_left 1
                · (intro w0 hSw; (try dsimp only at hSw); obtain ⟨⟨s1, s2⟩, s3, s4⟩ := hSw; go_simp; try with_reducible rfl)
                (try simp only [List.getElem_toArray, List.getElem_cons_succ, List.getElem_cons_zero]); (try simp only [Act.put, List.setIfInBounds_toArray, List.set_cons_zero, List.set_cons_succ])
                refine wpAnyH_ready (rs := [10]) (by kernel_rfl) (by simp) ?_
                refine AllReadyH.cons (o := _) rfl (fun K hK => ?_) AllReadyH.nil
                go_simp
                refine Calls.mono (CH.out _) ?_
                rintro e w' ⟨rfl, BB⟩
                try dsimp only
                refine hK _ _ ?_ (fun hHeld => ?_)
                · exact ⟨⟨by rw [BB.cell (p := ⟨b, o2 + q * 2, none⟩) bl]; exact a1, by rw [BB.cell (p := ⟨b, o2 + q * 2 + 1, none⟩) bl]; exact a2⟩, by rw [BB.cell (p := ⟨b, o2 + (q - 1) * 2, none⟩) bl]; exact b1, by rw [BB.cell (p := ⟨b, o2 + (q - 1) * 2 + 1, none⟩) bl]; exact b2⟩
                clear hK K
                (try simp only [List.getElem_toArray, List.getElem_cons_succ, List.getElem_cons_zero]); (try simp only [Act.put, List.setIfInBounds_toArray, List.set_cons_zero, List.set_cons_succ])
                refine wpAnyH_take (i := 11) (oi := _) (v := ?_) rfl (by kernel_rfl) (by kernel_rfl) (by kernel_rfl) (fun _ _ _ h => h) (Or.inl ⟨by rfl, ?_⟩) (by assumption) ?_
                rotate_left 1
                · (intro w0 hSw; (try dsimp only at hSw); obtain ⟨⟨s1, s2⟩, s3, s4⟩ := hSw; go_simp; try with_reducible rfl)
                (try simp only [List.getElem_toArray, List.getElem_cons_succ, List.getElem_cons_zero]); (try simp only [Act.put, List.setIfInBounds_toArray, List.set_cons_zero, List.set_cons_succ])
                refine wpAnyH_done (by kernel_rfl) ?_ _
                refine NoPanic.normal ?_
                have T2 : TR w' b off n H := TR.below (show TR wr.drew b off n H from hTH.out) BB
                have O2 : Hid (OB b w w') := (show OB b w wr.drew from hOH.out.drew).trans (OB.below BB)
                have nx : Hid (CS F (upd H m x) (k + (q + 1)) (m + 1)) := hnew.out (of_decide_eq_false hbH.out)
                obtain ⟨⟨⟨c1, c2⟩, _⟩, _⟩ : (((w'.cell? ⟨b, o2 + q * 2, none⟩ = some (.string x.1) ∧ w'.cell? ⟨b, o2 + q * 2 + 1, none⟩ = some (.string x.2)) ∧ True) ∧ True) := ⟨⟨by first | exact hHeld.1 | (rename_i hh; exact hh.1), trivial⟩, trivial⟩
                have mn : m < n := by have := hlH.out; omega
                obtain ⟨⟨d1, d2⟩, d3, d4⟩ := T2.2 m mn
                have m0 : (0 : Int) ≤ (m : Int) := by omega
                have mI : (m : Int) < (n : Int) := by omega
                have mw : IntKind.i64.wrap ((m : Int) + 1) = ((m + 1 : Nat) : Int) := IntWalk.i64_in _ (by omega)
                have hT2 : Hid (TR ((w'.setCell ⟨b, off + m * 2, none⟩ (.string x.1)).setCell ⟨b, off + m * 2 + 1, none⟩ (.string x.2)) b off n (upd H m x)) := T2.set mn x.1 x.2
                have hO2 : Hid (OB b w ((w'.setCell ⟨b, off + m * 2, none⟩ (.string x.1)).setCell ⟨b, off + m * 2 + 1, none⟩ (.string x.2))) := (O2.out.trans (OB.set _ _ _)).trans (OB.set _ _ _)
                clear a1 a2 b1 b2 BB hTH hOH hbH CH hnew hsk T2 O2
                go_wp2_with fail
                exact ⟨⟨m + 1, q + 1, upd H m x, by first | rfl | simp, by first | rfl | simp, by omega, by omega, by omega, by omega, nx, hT2.out, hO2.out⟩, by simp [intOf]; omega⟩
            · have hqI : ¬ (q : Int) < (l : Int) := by omega
              have mn : m < n := by have := hlH.out; omega
              have fin : Hid ((List.range m).map H = fsts F n) := by
                have := hcs.out.is
                rw [show k + q = n by have := hlH.out; omega] at this
                exact this
              have m0 : (0 : Int) ≤ (m : Int) := by omega
              have mc : (m : Int) ≤ (cap : Int) := by omega
              have mI : (m : Int) ≤ (n : Int) := by omega
              have hcl : ∀ ty, (Builtin.clear_ #[22] ty #[.slice (some ⟨b, off + m * 2, none⟩) (n - m) (cap - m)]).run Tryz.prog wr = .ok (.tuple #[]) (wr.setCells b (off + m * 2) (noS (n - m))) := fun ty => run_clearT wr ty b (off + m * 2) (n - m) (cap - m) (by omega)
                (fun j hj => by
                  obtain ⟨⟨d1, d2⟩, d3, d4⟩ := hT.2 (m + j / 2) (by omega)
                  rcases (by omega : j % 2 = 0 ∨ j % 2 = 1) with e | e
                  · rw [show off + m * 2 + j = off + (m + j / 2) * 2 by omega, d1]; rfl
                  · rw [show off + m * 2 + j = off + (m + j / 2) * 2 + 1 by omega, d2]; rfl)
                (fun j hj => by
                  obtain ⟨⟨d1, d2⟩, d3, d4⟩ := hT.2 (m + j / 2) (by omega)
                  rcases (by omega : j % 2 = 0 ∨ j % 2 = 1) with e | e
                  · rw [show off + m * 2 + j = off + (m + j / 2) * 2 by omega]; exact d3
                  · rw [show off + m * 2 + j = off + (m + j / 2) * 2 + 1 by omega]; exact d4)
              have hT2 : Hid (TR (wr.setCells b (off + m * 2) (noS (n - m))) b off m H) := hT.cleared (by omega) _
              have hO2 : Hid (OB b w (wr.setCells b (off + m * 2) (noS (n - m)))) := hOH.out.trans (OB.sets _ _ _)
              clear hT hTH hOH hcs
              go_wp2_with fail
              go_ret
              first | exact ⟨m, rfl, by omega, H, hT2.out, fin.out, hO2.out⟩ | exact ⟨m, H, rfl, by omega, hT2.out, fin.out, hO2.out⟩
      · have hkI : ¬ (k : Int) < (n : Int) := by omega
        obtain rfl : k = n := by omega
        have fin : Hid ((List.range k).map F = fsts F k) := (fsts_plain F k hall.out).symm
        clear hT
        go_wp2_with fail
        go_ret
        exact ⟨k, rfl, Nat.le_refl _, F, hTH.out, fin.out, hOH.out⟩
end Go.Proofs.YtfpfeecoideedaaGreatDoor.So

namespace Go.Proofs.YtfpfeecoideedaaGreatDoor.So
open Go.RowKit
set_option linter.unusedVariables false
set_option linter.unusedSimpArgs false
theorem wpList_append_runS {P : Program} {ops : Array Oper} {rest : List Oper} {o : Oper} {a : Act} {Q : Exit → Act → World → Prop} {w : World} (hgd : o.guard = none) (s x : Operand) (t : TypeId)
    (ho : o.op = .call { callee := .builtin .append, args := #[s, x], argTypes := #[t, t] }) (v y v' : Value) (w' : World) (hs : a.eval s = v) (hx : a.eval x = y) (hr : (Builtin.append_ #[t, t] o.type #[v, y]).run P w = .ok v' w')
    (h : wpList P ops Q rest (a.put o.dst v') w') : wpList P ops Q (o :: rest) a w := by
  refine wpList_plain hgd fun K hK => ?_
  unfold Oper.wp execOp
  simp only [ho, resolve, invoke, builtin, Sem.run_bind, Sem.run_pure, Result.andThen_ok, List.map_toArray, List.map_cons, List.map_nil, hs, hx, hr]
  exact hK _ _ h
def noT : Tg := (⟨#[]⟩, ⟨#[]⟩)
def atT (l : List TagP) : Nat → Tg := fun k => l.getD k noT
theorem atT_map (l : List TagP) : (List.range l.length).map (atT l) = l := by
  apply List.ext_getElem
  · simp
  · intro i h1 h2
    simp [atT, List.getD_eq_getElem?_getD, List.getElem?_eq_getElem h2]
theorem OT.tr {w : World} {B g cap : Nat} {l : List TagP} (h : OT w B (.slice (some ⟨g, 0, none⟩) l.length cap) l) : TR w g 0 l.length (atT l) := by
  refine ⟨(World.ownsRow.lt h g rfl).2, fun k hk => ?_⟩
  have hs : l[k]? = some (atT l k) := by simp [atT, List.getD_eq_getElem?_getD, List.getElem?_eq_getElem hk]
  obtain ⟨e1, e2⟩ := encT_get l k _ hs
  have hcs := World.ownsRow.cells h (g := g) rfl
  have k1 := hcs _ _ e1
  have k2 := hcs _ _ e2
  rw [tag_add, Nat.zero_add] at k1 k2
  rw [Nat.zero_add]
  exact ⟨⟨k1, k2⟩, World.ownsRow.frozenAt h _, World.ownsRow.frozenAt h _⟩
theorem TR.tin {w : World} {b off m : Nat} {G : Nat → Tg} (h : TR w b off m G) : TgIn w (some ⟨b, off, none⟩) ((List.range m).map G) := by
  refine Or.inr ⟨b, off, rfl, h.1, fun i t ht => ?_⟩
  rw [List.getElem?_map, Option.map_eq_some_iff] at ht
  obtain ⟨j, h1, rfl⟩ := ht
  obtain ⟨h2, h3⟩ := List.getElem?_eq_some_iff.1 h1
  simp at h3 h2
  subst h3
  exact (h.2 i h2).1
/-- the order of keys. -/
def kl (a b : ByteArray) : Bool := decide (strC a b < 0)
theorem kl_ko : KO kl where
  irr := fun a => decide_eq_false (by rw [(strC_is.zero a a).2 rfl]; omega)
  tr := fun a b c h1 h2 => decide_eq_true (strC_is.lt (of_decide_eq_true h1) (by have := of_decide_eq_true h2; omega))
  tot := fun a b => by
    rcases strC_is.range a b with h | h | h
    · exact Or.inl (decide_eq_true (by omega))
    · exact Or.inr (Or.inl ((strC_is.zero a b).1 h))
    · exact Or.inr (Or.inr (decide_eq_true (by rw [strC_is.flip a b]; omega)))
/-- tags in order, of each key the last. -/
def sortT (l : List TagP) : List TagP := srtD kl l
def cK : Tg → Tg → Int := fun x y => strC x.1 y.1
theorem cK_any : CmpA 35 cK := fun x y W => (compareKeys_any x.1 x.2 y.1 y.2 W).mono fun e w' h => ⟨h.1, by rw [h.2]; exact twoT_below W x.1 x.2 y.1 y.2⟩
theorem cK_lt : ltE cK = fun x y : (ByteArray × ByteArray) × Nat => kl x.1.1 y.1.1 := rfl
set_option maxRecDepth 100000 in
set_option maxHeartbeats 4000000 in
theorem cloneT_any (ad : Addr) (c : Nat) (l : List TagP) (w : World) (h : TgIn w (some ad) l) (hn : l.length ≤ 4398046511104) :
    Calls Tryz.prog 32 #[.slice (some ad) l.length c] w fun e w' => ∃ g cap, e = .returned (.slice (some ⟨g, 0, none⟩) l.length cap) ∧ w.heap.size ≤ g ∧ l.length ≤ cap ∧ OT w' w.heap.size (.slice (some ⟨g, 0, none⟩) l.length cap) l ∧ Below w.heap.size w w' := by
  have q29 : ∀ (w : World) (a : Option Addr) (n c n' c' : Nat), (binOp .eql 22 (.slice a n c) (.slice none n' c')).run Tryz.prog w = .ok (.bool a.isNone) w := fun w a n c n' c' => Lib.run_eql_slice_nil w _ _ a n c n' c' Tryz.underlying22
  have hB0 : Below w.heap.size w (w.alloc (.cells #[] 82)) := (Below.refl _ w).alloc (Nat.le_refl _) _
  have own0 : OT (w.alloc (.cells #[] 82)) w.heap.size (.slice (some ⟨w.heap.size, 0, none⟩) 0 0) [] := by
    have := World.ownsRow_made (e := 82) (size := 2) (base := w.heap.size) w #[] 0 (by simp) (by simp [maxLen]) rfl
    simpa [OT, encT] using this
  obtain ⟨v', w', hr, ho, hg, hat⟩ := appT _ w.heap.size _ [] l own0 (by simp) (some ad) c (h.below hB0) (by simp; omega)
  rw [List.nil_append] at ho
  have hb : Below w.heap.size w w' := hB0.trans (grown_below own0 (by simp) hg)
  have hrep : ∃ g cap, v' = .slice (some ⟨g, 0, none⟩) l.length cap ∧ w.heap.size ≤ g ∧ l.length ≤ cap := by
    rcases ho.2 with ⟨e, e0⟩ | ⟨g, cap, cur, e1, e2, _, hc, _⟩
    · exfalso
      rw [e] at hat
      rcases hat with e | e <;> cases e
    · exact ⟨g, cap, e1, e2, hc⟩
  obtain ⟨g, cap, rfl, hgB, hcap⟩ := hrep
  have fin : Hid (w.heap.size ≤ g ∧ l.length ≤ cap ∧ OT w' w.heap.size (.slice (some ⟨g, 0, none⟩) l.length cap) l ∧ Below w.heap.size w w') := ⟨hgB, hcap, ho, hb⟩
  have hrH : Hid (∀ W, W = w.alloc (.cells #[] 82) → (Builtin.append_ #[22, 22] 22 #[.slice (some ⟨w.heap.size, 0, none⟩) 0 0, .slice (some ad) l.length c]).run Tryz.prog W = .ok (.slice (some ⟨g, 0, none⟩) l.length cap) w') := fun W e => by subst e; exact hr
  clear hr ho hg hat hb own0 hB0 h hn hgB hcap
  generalize l.length = n at *
  go_enter Tryz.func32, Tryz.ntmps32
  go_wp2_with (at_builtin; refine wpList_append_runS (by rfl) _ _ _ (by rfl) _ _ _ _ (by rfl) (by rfl) (hrH.out _ rfl) ?_)
  go_ret
  exact ⟨g, cap, rfl, fin.out⟩
set_option maxRecDepth 100000 in
theorem cloneT_nil (c : Nat) (w : World) : Calls Tryz.prog 32 #[.slice none 0 c] w fun e w' => e = .returned (.slice none 0 0) ∧ w' = w := by
  have q29 : ∀ (w : World) (a : Option Addr) (n c n' c' : Nat), (binOp .eql 22 (.slice a n c) (.slice none n' c')).run Tryz.prog w = .ok (.bool a.isNone) w := fun w a n c n' c' => Lib.run_eql_slice_nil w _ _ a n c n' c' Tryz.underlying22
  go_enter Tryz.func32, Tryz.ntmps32
  go_wp2_with fail
  go_ret
  exact ⟨rfl, rfl⟩
set_option maxRecDepth 100000 in
theorem reverse_nil (w : World) : Calls Tryz.prog 33 #[.slice none 0 0] w fun e w' => e = .returned undef ∧ w' = w := by
  go_enter Tryz.func33, Tryz.ntmps33
  go_wp2_with fail
  go_loopw [2, 3] (fun vi vj wr => vi = .int .i64 0 ∧ vj = .int .i64 (-1) ∧ wr = w) (fun _ _ _ => 0)
  case atStart => exact ⟨rfl, rfl, rfl⟩
  case round =>
    obtain ⟨rfl, rfl, rfl⟩ := hrel
    go_wp2_with fail
    go_end0
    exact ⟨rfl, rfl⟩
set_option maxRecDepth 100000 in
theorem insert_nil (w : World) : Calls Tryz.prog 112 #[.slice none 0 0, .int .i64 0, .int .i64 0, .func (.func 35) #[] #[]] w fun e w' => e = .returned undef ∧ w' = w := by
  go_enter Tryz.func112, Tryz.ntmps112
  go_wp2_with fail
  go_loopw [8] (fun vi wr => vi = .int .i64 1 ∧ wr = w) (fun _ _ => 0)
  case atStart => exact ⟨rfl, rfl⟩
  case round =>
    obtain ⟨rfl, rfl⟩ := hrel
    go_wp2_with fail
    go_end0
    exact ⟨rfl, rfl⟩
set_option maxRecDepth 100000 in
theorem stable_nil (w : World) : Calls Tryz.prog 90 #[.slice none 0 0, .int .i64 0, .func (.func 35) #[] #[]] w fun e w' => e = .returned undef ∧ w' = w := by
  go_enter Tryz.func90, Tryz.ntmps90
  go_wp2_with fail
  go_loopw [7, 8] (fun va vb wr => va = .int .i64 0 ∧ vb = .int .i64 20 ∧ wr = w) (fun _ _ _ => 0)
  case atStart => exact ⟨rfl, rfl, rfl⟩
  case round =>
    obtain ⟨rfl, rfl, hw⟩ := hrel
    subst hw
    go_wp2_with fail
    refine Calls.mono (insert_nil _) ?_
    rintro e w2 ⟨rfl, hw⟩
    subst hw
    go_wp2_with fail
    go_loopw [6, 7, 8] (fun vs va vb wr => vs = .int .i64 20 ∧ wr = w2) (fun _ _ _ _ => 0)
    case atStart => exact ⟨rfl, rfl⟩
    case round =>
      obtain ⟨rfl, hw⟩ := hrel
      subst hw
      go_wp2_with fail
      go_end0
      exact ⟨rfl, rfl⟩
set_option maxRecDepth 100000 in
theorem sortStable_nil (w : World) : Calls Tryz.prog 34 #[.slice none 0 0, .func (.func 35) #[] #[]] w fun e w' => e = .returned undef ∧ w' = w := by
  go_enter Tryz.func34, Tryz.ntmps34
  go_wp2_with fail
  refine Calls.mono (stable_nil _) ?_
  rintro e w2 ⟨rfl, hw⟩
  subst hw
  go_wp2_with fail
  go_end0
  exact ⟨rfl, rfl⟩
set_option maxRecDepth 100000 in
theorem compact_nil (w : World) : Calls Tryz.prog 36 #[.slice none 0 0, .func (.func 37) #[] #[]] w fun e w' => e = .returned (.slice none 0 0) ∧ w' = w := by
  go_enter Tryz.func36, Tryz.ntmps36
  go_wp2_with fail
  go_ret
  exact ⟨rfl, rfl⟩
/-- the block of a row of tags. -/
def ShT (w : World) (g cap : Nat) : Prop := ∃ cur : Array Value, w.heap[g]? = some (.cells cur 82 (0, 0)) ∧ cap ≤ maxLen ∧ cur.size = cap * 2
theorem OT.shp {w : World} {B g n cap : Nat} {l : List TagP} (h : OT w B (.slice (some ⟨g, 0, none⟩) n cap) l) : ShT w g cap := by
  rcases h.2 with ⟨e, _⟩ | ⟨g', cap', cur, e1, _, hg, _, hm, hs, _⟩
  · cases e
  · injection e1 with e1 e2 e3
    injection e1 with e1
    injection e1 with e1
    subst e1 e3
    exact ⟨cur, hg, hm, hs⟩
theorem ShT.ob {w w' : World} {g cap : Nat} (h : ShT w g cap) (o : OB g w w') : ShT w' g cap := by
  obtain ⟨cur, hg, hm, hs⟩ := h
  obtain ⟨c', h1, h2⟩ := o.shp cur _ hg
  exact ⟨c', h1, hm, h2.trans hs⟩
theorem ShT.own {w : World} {B g m cap : Nat} {G : Nat → Tg} (h : ShT w g cap) (t : TR w g 0 m G) (hc : m ≤ cap) (hB : B ≤ g) : OT w B (.slice (some ⟨g, 0, none⟩) m cap) ((List.range m).map G) := by
  obtain ⟨cur, hg, hm, hs⟩ := h
  have ln : ((List.range m).map G).length = m := by simp
  refine ⟨by rw [encT_len], Or.inr ⟨g, cap, cur, by rw [ln], hB, hg, by rw [ln]; exact hc, hm, hs, ?_⟩⟩
  rw [ln]
  apply List.ext_getElem?
  intro j
  rw [List.getElem?_take]
  by_cases hj : j < m * 2
  · rw [if_pos hj, Array.getElem?_toList]
    have hk : j / 2 < m := by omega
    have hget : ((List.range m).map G)[j / 2]? = some (G (j / 2)) := by simp [hk]
    obtain ⟨e1, e2⟩ := encT_get _ _ _ hget
    obtain ⟨⟨t1, t2⟩, _, _⟩ := t.2 (j / 2) hk
    rw [cell_of_row _ g _ cur _ (0, 0) hg] at t1 t2
    rw [Nat.zero_add] at t1 t2
    rcases Nat.mod_two_eq_zero_or_one j with c | c
    · have ej : j = j / 2 * 2 := by omega
      rw [ej, t1, e1]
    · have ej : j = j / 2 * 2 + 1 := by omega
      rw [ej, t2, e2]
  · rw [if_neg hj]
    exact (List.getElem?_eq_none (by rw [encT_len, ln]; omega)).symm
/-- what is told owns its block. -/
def OwnR (w w' : World) (e : Ending) (l : List TagP) : Prop := ∃ v, e = .returned v ∧ OT w' w.heap.size v (sortT l)
/-- what Sort tells: none, or a row of its own. -/
def SortedR (w w' : World) (e : Ending) (l : List TagP) : Prop :=
  (l = [] ∧ e = .returned (.slice none 0 0)) ∨ ∃ (g m cap : Nat) (G : Nat → Tg), e = .returned (.slice (some ⟨g, 0, none⟩) m cap) ∧ w.heap.size ≤ g ∧ m ≤ cap ∧ TR w' g 0 m G ∧ (List.range m).map G = sortT l
set_option maxRecDepth 100000 in
set_option maxHeartbeats 4000000 in
theorem sortO_any (a : Option Addr) (c : Nat) (l : List TagP) (w : World) (h : TgIn w a l) (hn : l.length ≤ 4398046511104) :
    Calls Tryz.prog 12 #[.slice a l.length c] w fun e w' => (SortedR w w' e l ∧ OwnR w w' e l) ∧ Below w.heap.size w w' := by
  cases a with
  | none =>
    obtain rfl : l = [] := by
      rcases h with e | ⟨b, off, e, _⟩
      · exact e
      · cases e
    show Calls Tryz.prog 12 #[.slice none 0 c] w _
    go_enter Tryz.func12, Tryz.ntmps12
    go_wp2_with fail
    refine Calls.mono (cloneT_nil _ _) ?_
    rintro e w2 ⟨rfl, hw⟩
    subst hw
    go_wp2_with fail
    refine Calls.mono (reverse_nil _) ?_
    rintro e w2 ⟨rfl, hw⟩
    subst hw
    go_wp2_with fail
    refine Calls.mono (sortStable_nil _) ?_
    rintro e w2 ⟨rfl, hw⟩
    subst hw
    go_wp2_with fail
    refine Calls.mono (compact_nil _) ?_
    rintro e w2 ⟨rfl, hw⟩
    subst hw
    go_wp2_with fail
    go_ret
    exact ⟨⟨Or.inl ⟨rfl, rfl⟩, ⟨_, rfl, OT.nil _ _⟩⟩, Below.refl _ _⟩
  | some ad =>
    have C1 : Hid _ := cloneT_any ad c l w h hn
    have hs : Hid (sortT l = sortT l) := rfl
    obtain ⟨n, hnl⟩ : ∃ n, l.length = n := ⟨_, rfl⟩
    rw [hnl] at C1 hn ⊢
    have hnH : Hid (l.length = n) := hnl
    clear h hnl hs
    go_enter Tryz.func12, Tryz.ntmps12
    go_wp2_with fail
    refine Calls.mono C1.out ?_
    rintro e w1 ⟨g, cap, rfl, hg, hcap, ho, hb⟩
    have T1 : TR w1 g 0 n (atT l) := by
      have := hnH.out
      subst this
      exact OT.tr ho
    have H1 : Hid (ShT w1 g cap) := by
      have := hnH.out
      subst this
      exact OT.shp ho
    have B1 : Hid (Below w.heap.size w w1) := hb
    have C2 : Hid _ := reverse_any g 0 n cap (atT l) w1 T1 (by omega)
    clear ho hb T1 C1
    go_wp2_with fail
    refine Calls.mono C2.out ?_
    rintro e w2 ⟨rfl, T2, O2⟩
    have C3 : Hid _ := sortStable_any (RT kl) cK cK_any (RT_tr kl_ko) g 0 n cap (by omega) (fun k => (atT l (n - 1 - k), k)) w2 T2 (RT_all kl_ko (fun k => atT l (n - 1 - k)) n)
    have B2 : Hid (Below w.heap.size w w2) := O2.into B1.out hg B1.out.size
    have H2 : Hid (ShT w2 g cap) := H1.out.ob O2
    clear T2 O2 C2 B1 H1
    go_wp2_with fail
    refine Calls.mono C3.out ?_
    rintro e w3 ⟨rfl, f, P3, S3, T3, O3⟩
    have B3 : Hid (Below w.heap.size w w3) := O3.into B2.out hg B2.out.size
    have C4 : Hid _ := compact_any g 0 n cap (fs f) w3 T3 (by omega) hcap
    have is : Hid (fsts (fs f) n = sortT l) := by
      have := sort_is kl_ko (atT l) n f S3 P3
      rw [← hnH.out, atT_map] at this
      rw [← hnH.out]
      exact this
    have H3 : Hid (ShT w3 g cap) := H2.out.ob O3
    clear P3 S3 T3 O3 C3 B2 H2
    go_wp2_with fail
    refine Calls.mono C4.out ?_
    rintro e w4 ⟨m, G, rfl, hm, T4, hG, O4⟩
    have fin : Hid ((SortedR w w4 (.returned (.slice (some ⟨g, 0, none⟩) m cap)) l ∧ OwnR w w4 (.returned (.slice (some ⟨g, 0, none⟩) m cap)) l) ∧ Below w.heap.size w w4) := ⟨⟨Or.inr ⟨g, m, cap, G, rfl, hg, by omega, T4, hG.trans is.out⟩, ⟨_, rfl, by rw [← hG.trans is.out]; exact (H3.out.ob O4).own T4 (by omega) hg⟩⟩, O4.into B3.out hg B3.out.size⟩
    clear T4 hG O4 C4 B3 is H3
    go_wp2_with fail
    go_ret
    exact fin.out
theorem sort_any (a : Option Addr) (c : Nat) (l : List TagP) (w : World) (h : TgIn w a l) (hn : l.length ≤ 4398046511104) :
    Calls Tryz.prog 12 #[.slice a l.length c] w fun e w' => SortedR w w' e l ∧ Below w.heap.size w w' :=
  (sortO_any a c l w h hn).mono fun e w' h => ⟨h.1.1, h.2⟩
end Go.Proofs.YtfpfeecoideedaaGreatDoor.So

namespace Go.Proofs.YtfpfeecoideedaaGreatDoor
open Go.RowKit _root_.Go.Proofs.YtfpfeecoideedaaGreatDoor.So
set_option linter.unusedVariables false
set_option linter.unusedSimpArgs false
/-- texts that lie in memory. -/
def StIn (w : World) (a : Option Addr) (l : List ByteArray) : Prop := l = [] ∨ ∃ b off, a = some ⟨b, off, none⟩ ∧ b < w.heap.size ∧ ∀ i t, l[i]? = some t → w.cell? ⟨b, off + i, none⟩ = some (.string t)
theorem StIn.below {w w' : World} {a : Option Addr} {l : List ByteArray} (h : StIn w a l) (hB : Below w.heap.size w w') : StIn w' a l := by
  rcases h with h | ⟨b, off, ha, hb, hc⟩
  · exact Or.inl h
  · refine Or.inr ⟨b, off, ha, by have := hB.size; omega, fun i t ht => ?_⟩
    rw [hB.cell (p := ⟨b, off + i, none⟩) hb]
    exact hc i t ht
theorem StIn.at {w wr : World} {a : Option Addr} {l : List ByteArray} (h : StIn w a l) (hB : Below w.heap.size w wr) {k : Nat} {t : ByteArray} (ht : l[k]? = some t) : ∃ b off, a = some ⟨b, off, none⟩ ∧ b < w.heap.size ∧ wr.cell? ⟨b, off + k, none⟩ = some (.string t) := by
  rcases h with h0 | ⟨b, off, e, hb, hc⟩
  · rw [h0] at ht; simp at ht
  · exact ⟨b, off, e, hb, by rw [hB.cell (p := ⟨b, off + k, none⟩) hb]; exact hc k t ht⟩
/-- a tag's value. -/
def valT : List TagP → ByteArray → ByteArray
  | [], _ => ⟨#[]⟩
  | t :: r, s => if t.1 = s then t.2 else valT r s
theorem valT_step {l : List TagP} {k : Nat} {t : TagP} (h : l[k]? = some t) (s : ByteArray) : valT (l.drop k) s = if t.1 = s then t.2 else valT (l.drop (k + 1)) s := by
  obtain ⟨h1, rfl⟩ := List.getElem?_eq_some_iff.1 h
  rw [List.drop_eq_getElem_cons h1]; rfl
def grpT (l : List TagP) (names : List ByteArray) : List ByteArray := names.map (valT l)
set_option maxRecDepth 100000 in
set_option maxHeartbeats 4000000 in
theorem value_any (a : Option Addr) (c : Nat) (l : List TagP) (s : ByteArray) (w : World) (hl : l.length ≤ 9223372036854775807) (ha : TgIn w a l) :
    Calls Tryz.prog 38 #[.slice a l.length c, .string s] w fun e w' => e = .returned (.string (valT l s)) ∧ Below w.heap.size w w' := by
  have hA : Hid (TgIn w a l) := ha
  clear ha
  obtain ⟨R, hR⟩ : ∃ R, valT l s = R := ⟨_, rfl⟩
  have hR0 : Hid (valT (l.drop 0) s = R) := hR
  rw [hR]
  clear hR
  obtain ⟨n, hn⟩ : ∃ n, l.length = n := ⟨_, rfl⟩
  have hN : Hid (l.length = n) := hn
  rw [hn] at hl ⊢
  clear hn
  go_enter Tryz.func38, Tryz.ntmps38
  go_wp2_with fail
  go_loopw [9] (fun i wr => ∃ k : Nat, i = .int .i64 (k : Int) ∧ k ≤ n ∧ Hid (valT (l.drop k) s = R) ∧ Below w.heap.size w wr) (fun i _ => n - (intOf i).toNat)
  case atStart => exact ⟨0, rfl, by omega, hR0, Below.refl _ _⟩
  case round =>
    obtain ⟨k, rfl, hkn, hI, hB⟩ := hrel
    by_cases hk : k < n
    · have hkI : (k : Int) < (n : Int) := by omega
      obtain ⟨t, ht⟩ : ∃ t, l[k]? = some t := ⟨_, List.getElem?_eq_getElem (by have := hN.out; omega)⟩
      obtain ⟨b1, o1, rfl, hb1, t1, t2⟩ := hA.out.at hB ht
      have hst := valT_step ht s
      rw [hI.out] at hst
      obtain ⟨tk, tv⟩ := t
      simp only at t1 t2 hst
      have hBB : ∀ o, Below w.heap.size w (wr.alloc o) := fun o => hB.alloc hB.size o
      have hBH : Hid (∀ o, Below w.heap.size w (wr.alloc o)) := hBB
      clear hBB hB
      by_cases he : tk = s
      · rw [if_pos he] at hst
        have hz : Hid (tv = R) := hst.symm
        have hq : (tk.toList == s.toList) = true := by rw [he]; simp
        clear hst he
        go_wp2_with fail
        go_ret
        exact ⟨by rw [← hz.out]; rfl, hBH.out _⟩
      · rw [if_neg he] at hst
        have hz : Hid (valT (l.drop (k + 1)) s = R) := hst.symm
        have hq : (tk.toList == s.toList) = false := by rw [ba_dec]; exact decide_eq_false he
        clear hst he
        go_wp2_with fail
        go_round
        case measure => simp only [intOf]; omega
        case rel => exact ⟨k + 1, by simp, by omega, hz, hBH.out _⟩
    · have hkI : ¬ (k : Int) < (n : Int) := by omega
      have hE : Hid (R = ⟨#[]⟩) := by
        have := hI.out
        rw [List.drop_eq_nil_of_le (by have := hN.out; omega)] at this
        exact this.symm
      go_wp2_with fail
      go_ret
      exact ⟨by rw [hE.out]; rfl, hB⟩
end Go.Proofs.YtfpfeecoideedaaGreatDoor

namespace Go.Proofs.YtfpfeecoideedaaGreatDoor
open Go.RowKit _root_.Go.Proofs.YtfpfeecoideedaaGreatDoor.So
set_option linter.unusedVariables false
set_option linter.unusedSimpArgs false
theorem step_append_runS {P : Program} {ops : Array Oper} {o : Oper} {a : Act} {w : World} {K : Act → World → Prop} {Q : Exit → Act → World → Prop} {E : Prop}
    (hg : o.guard = none) (s x : Operand) (t : TypeId) (hop : o.op = Op.call { callee := Callee.builtin Builtin.append, args := #[s, x], argTypes := #[t, t] })
    (v y v' : Value) (w' : World) (hs : a.eval s = v) (hx : a.eval x = y) (hr : (Builtin.append_ #[t, t] o.type #[v, y]).run P w = .ok v' w') (hK : K (a.put o.dst v') w') :
    if Region.wanted o (yielded ops a.tmps) = true then Oper.wp P o a w K Q else E := by
  have hw : Region.wanted o (yielded ops a.tmps) = true := by simp [Region.wanted, hg]
  rw [if_pos hw]
  unfold Oper.wp execOp
  simp only [hop, resolve, invoke, builtin, Sem.run_bind, Sem.run_pure, Result.andThen_ok, List.map_toArray, List.map_cons, List.map_nil, hs, hx, hr]
  exact hK
theorem app1T (W : World) (B : Nat) (v : Value) (l : List TagP) (h : OT W B v l) (hB : B ≤ W.heap.size) (x y : ByteArray) (hn : l.length + 1 ≤ 4398046511104) :
    ∃ v' w', (Builtin.append_ #[22, 22] 22 #[v, .slice (some ⟨W.heap.size, 0, none⟩) 1 1]).run Tryz.prog (W.alloc (.cells #[.string x, .string y] 82)).drew = .ok v' w' ∧ OT w' B v' (l ++ [(x, y)]) ∧ Below B W w' := by
  have b1 : Below W.heap.size W (W.alloc (.cells #[.string x, .string y] 82)).drew := ((Below.refl _ W).alloc (Nat.le_refl _) _).drew
  have ho2 := h.below b1 (Nat.le_refl _)
  obtain ⟨v', w', hr, ho, hg, _⟩ := appT _ B v l [(x, y)] ho2 (Nat.le_trans hB b1.size) (some ⟨W.heap.size, 0, none⟩) 1 (Or.inr ⟨W.heap.size, 0, rfl, by show W.heap.size < (W.alloc _).heap.size; simp, fun i t ht => by
    cases i with
    | zero =>
      simp at ht; subst ht
      exact ⟨by show (W.alloc _).cell? _ = _; simp [go_sem], by show (W.alloc _).cell? _ = _; simp [go_sem]⟩
    | succ i => simp at ht⟩) (by simp; omega)
  exact ⟨v', w', hr, ho, (b1.mono hB).trans (grown_below ho2 (Nat.le_trans hB b1.size) hg)⟩
/-- the tags of the first k names and values, those without a value left out. -/
def joinP (ns vs : List ByteArray) : Nat → List TagP
  | 0 => []
  | k + 1 => joinP ns vs k ++ (if vs.getD k ⟨#[]⟩ = ⟨#[]⟩ then [] else [(ns.getD k ⟨#[]⟩, vs.getD k ⟨#[]⟩)])
theorem joinP_step {ns vs : List ByteArray} {k : Nat} {x y : ByteArray} (hx : ns[k]? = some x) (hy : vs[k]? = some y) : joinP ns vs (k + 1) = joinP ns vs k ++ (if y = ⟨#[]⟩ then [] else [(x, y)]) := by
  conv => lhs; unfold joinP
  rw [List.getD_eq_getElem?_getD, List.getD_eq_getElem?_getD, hx, hy]; rfl
theorem joinP_le (ns vs : List ByteArray) {k m : Nat} (h : k ≤ m) : (joinP ns vs k).length ≤ (joinP ns vs m).length := by
  induction m with
  | zero => obtain rfl : k = 0 := by omega
            exact Nat.le_refl _
  | succ m ih =>
    rcases Nat.lt_or_ge k (m + 1) with c | c
    · refine Nat.le_trans (ih (by omega)) ?_
      conv => rhs; unfold joinP
      rw [List.length_append]; omega
    · obtain rfl : k = m + 1 := by omega
      exact Nat.le_refl _
theorem So.SortedR.wide {w0 w w' : World} {e : Ending} {l : List TagP} (h : SortedR w w' e l) (hw : w0.heap.size ≤ w.heap.size) : SortedR w0 w' e l := by
  rcases h with h | ⟨g, m, cap, G, h1, h2, h3⟩
  · exact Or.inl h
  · exact Or.inr ⟨g, m, cap, G, h1, by omega, h3⟩
theorem So.SortedR.ret {w w' : World} {e : Ending} {l : List TagP} (h : SortedR w w' e l) : ∃ v, e = .returned v := by
  rcases h with ⟨_, h⟩ | ⟨g, m, cap, G, h1, _⟩
  · exact ⟨_, h⟩
  · exact ⟨_, h1⟩
theorem make_str (n : Nat) (h : n ≤ 8796093022208) (w : World) : (Instr.makeSlice 38 (.int .i64 (n : Int)) (.int .i64 (n : Int))).run Tryz.prog w = .ok (.slice (some ⟨w.heap.size, 0, none⟩) n n) (w.alloc (.cells (madeCells #[.string ⟨#[]⟩] n) 9)) := by
  have hi : (Tryz.prog.info? 9).map (fun i => (i.zero, i.bytes, i.size)) = some (some (.string ⟨#[]⟩), 16, 1) := by kernel_rfl
  obtain ⟨i, i1, i0⟩ := Option.map_eq_some_iff.1 hi
  have i2 : i.zero = some (.string ⟨#[]⟩) := congrArg (·.1) i0
  have i3 : i.bytes = 16 := congrArg (·.2.1) i0
  have i4 : i.size = 1 := congrArg (·.2.2) i0
  have := run_make (P := Tryz.prog) w 38 9 i (.string ⟨#[]⟩) Tryz.underlying38 i1 i2 .i64 .i64 (n : Int) (n : Int) (by omega) (by omega) (by rw [i3]; omega) (by omega)
  rw [i4] at this
  simpa [Value.cells] using this
/-- what stands while values are laid: k of n are there. -/
structure GS (w : World) (g n k : Nat) (V : List ByteArray) (wx : World) : Prop where
  c : ∀ j, j < n → wx.cell? ⟨g, j, none⟩ = some (.string (if j < k then V.getD j ⟨#[]⟩ else ⟨#[]⟩))
  f : ∀ j, j < n → wx.frozen? ⟨g, j, none⟩ = false
  b : Below w.heap.size w wx
  l1 : w.heap.size ≤ g
  l2 : g < wx.heap.size
  shp : ∃ cur : Array Value, wx.heap[g]? = some (.cells cur 9 (0, 0)) ∧ cur.size = n
theorem GS.start (w : World) (n : Nat) (V : List ByteArray) : GS w w.heap.size n 0 V (w.alloc (.cells (madeCells #[.string ⟨#[]⟩] n) 9)) := by
  have hz : ∀ j, j < n → (madeCells #[Value.string ⟨#[]⟩] n)[j]? = some (.string ⟨#[]⟩) := fun j hj => by
    rw [← Array.getElem?_toList, toList_madeCells_one]; simp [hj]
  refine ⟨fun j hj => ?_, fun j hj => frozen_of_row _ w.heap.size j _ 9 (heap_alloc_new w _), (Below.refl _ w).alloc (Nat.le_refl _) _, Nat.le_refl _, by simp, ⟨_, heap_alloc_new w _, by rw [← Array.length_toList, toList_madeCells_one]; simp⟩⟩
  rw [cell_of_row _ w.heap.size j _ 9 (0, 0) (heap_alloc_new w _), if_neg (by omega)]; exact hz j hj
theorem GS.below {w : World} {g n k : Nat} {V : List ByteArray} {wx wy : World} (h : GS w g n k V wx) (hb : Below wx.heap.size wx wy) : GS w g n k V wy :=
  ⟨fun j hj => by rw [hb.cell (p := ⟨g, j, none⟩) h.l2]; exact h.c j hj, fun j hj => by rw [hb.frozen (p := ⟨g, j, none⟩) h.l2]; exact h.f j hj, h.b.trans (hb.mono h.b.size), h.l1, Nat.lt_of_lt_of_le h.l2 hb.size, by rw [hb.block g h.l2]; exact h.shp⟩
theorem GS.more {w : World} {g n k : Nat} {V : List ByteArray} {wx : World} (h : GS w g n k V wx) (hk : k < n) (v : ByteArray) (hv : V.getD k ⟨#[]⟩ = v) : GS w g n (k + 1) V (wx.setCell ⟨g, k, none⟩ (.string v)) := by
  refine ⟨fun j hj => ?_, fun j hj => by rw [World.frozen?_setCell]; exact h.f j hj, h.b.setCell (p := ⟨g, k, none⟩) h.l1 _, h.l1, by simpa using h.l2, by
    obtain ⟨cur, h1, h2⟩ := h.shp
    exact ⟨_, heap_setCell_same wx g k cur _ _ h1, by simpa using h2⟩⟩
  by_cases e : j = k
  · subst e
    rw [World.cell?_setCell_same _ _ _ (h.c j hj), if_pos (by omega), hv]
  · rw [World.cell?_setCell_other _ _ _ _ (by intro q; injection q; omega), h.c j hj]
    by_cases q : j < k
    · rw [if_pos q, if_pos (by omega)]
    · rw [if_neg q, if_neg (by omega)]
theorem GS.fin {w : World} {g n : Nat} {V : List ByteArray} {wx : World} (h : GS w g n n V wx) (hn : V.length = n) : StIn wx (some ⟨g, 0, none⟩) V := by
  refine Or.inr ⟨g, 0, rfl, h.l2, fun i t ht => ?_⟩
  have hi := (List.getElem?_eq_some_iff.1 ht).1
  rw [Nat.zero_add, h.c i (by omega), if_pos (by omega), List.getD_eq_getElem?_getD, ht]; rfl
set_option maxRecDepth 100000 in
set_option maxHeartbeats 4000000 in
theorem group_any (a b : Option Addr) (c1 c2 : Nat) (l : List TagP) (ns : List ByteArray) (w : World) (hl : l.length ≤ 9223372036854775807) (hn : ns.length ≤ 8796093022208) (ha : TgIn w a l) (hb : StIn w b ns) :
    Calls Tryz.prog 15 #[.slice a l.length c1, .slice b ns.length c2] w fun e w' => ∃ g, e = .returned (.slice (some ⟨g, 0, none⟩) ns.length ns.length) ∧ GS w g ns.length ns.length (grpT l ns) w' := by
  have hV : Hid (∀ (s : ByteArray) (W : World), Below w.heap.size w W → Calls Tryz.prog 38 #[.slice a l.length c1, .string s] W fun e w' => e = .returned (.string (valT l s)) ∧ Below W.heap.size W w') := fun s W hW => value_any a c1 l s W hl (ha.below hW)
  have hBb : Hid (StIn w b ns) := hb
  have hmk := make_str ns.length hn
  have hG : Hid (∀ k s, ns[k]? = some s → (grpT l ns).getD k ⟨#[]⟩ = valT l s) := fun k s h => by simp [grpT, List.getD_eq_getElem?_getD, h]
  generalize grpT l ns = V at *
  clear ha hb
  obtain ⟨n, hnl⟩ : ∃ n, ns.length = n := ⟨_, rfl⟩
  have hN : Hid (ns.length = n) := hnl
  rw [hnl] at hn hmk ⊢
  clear hnl
  generalize l.length = q at *
  have hS0 : Hid (GS w w.heap.size n 0 V (w.alloc (.cells (madeCells #[.string ⟨#[]⟩] n) 9))) := GS.start w n V
  go_enter Tryz.func15, Tryz.ntmps15
  go_wp2_with fail
  obtain ⟨g, hg⟩ : ∃ g, g = w.heap.size := ⟨_, rfl⟩
  rw [← hg] at hS0 ⊢
  have hgw : Hid (g = w.heap.size) := hg
  clear hg hmk
  generalize w.alloc (.cells (madeCells #[.string ⟨#[]⟩] n) 9) = w0 at *
  go_loopw [13] (fun vi wr => ∃ k : Nat, vi = .int .i64 (k : Int) ∧ k ≤ n ∧ Hid (GS w g n k V wr)) (fun vi _ => n - (intOf vi).toNat)
  case atStart => exact ⟨0, rfl, by omega, hS0⟩
  case round =>
    clear hS0
    obtain ⟨k, rfl, hkn, hS⟩ := hrel
    have kw : IntKind.i64.wrap ((k : Int) + 1) = ((k + 1 : Nat) : Int) := IntWalk.i64_in _ (by omega)
    by_cases hk : k < n
    · have hkI : (k : Int) < (n : Int) := by omega
      have k0 : (0 : Int) ≤ (k : Int) := by omega
      obtain ⟨s, hs⟩ : ∃ t, ns[k]? = some t := ⟨_, List.getElem?_eq_getElem (by have := hN.out; omega)⟩
      obtain ⟨b1, o1, rfl, hb1, t1⟩ := hBb.out.at hS.out.b hs
      have C : Hid (Calls Tryz.prog 38 #[.slice a q c1, .string s] wr fun e w' => e = .returned (.string (valT l s)) ∧ Below wr.heap.size wr w') := hV.out s wr hS.out.b
      have hGk : Hid (V.getD k ⟨#[]⟩ = valT l s) := hG.out k s hs
      generalize valT l s = v at C hGk
      go_wp2_with fail
      refine Calls.mono C.out ?_
      rintro e w2 ⟨rfl, hb2⟩
      have S2 := hS.out.below hb2
      have c0 := S2.c k hk
      have f0 := S2.f k hk
      have S3 : Hid (GS w g n (k + 1) V (w2.setCell ⟨g, k, none⟩ (.string v))) := S2.more hk v hGk.out
      clear S2 hS C hb2 t1 hs
      go_wp2_with fail
      go_round
      case measure => simp only [intOf]; omega
      case rel => exact ⟨k + 1, by simp, by omega, S3⟩
    · have hkI : ¬ (k : Int) < (n : Int) := by omega
      obtain rfl : k = n := by omega
      go_wp2_with fail
      go_ret
      exact ⟨g, rfl, hS.out⟩
set_option maxRecDepth 100000 in
set_option maxHeartbeats 4000000 in
theorem join_any (a b : Option Addr) (c1 c2 : Nat) (ns vs : List ByteArray) (w : World) (hn : ns.length ≤ 4611686018427387904) (hv : vs.length ≤ 4611686018427387904) (ha : StIn w a ns) (hb : StIn w b vs) (hj : (joinP ns vs (min ns.length vs.length)).length ≤ 4398046511104)
    (hS : ∀ (a' : Option Addr) (c' : Nat) (W : World), w.heap.size ≤ W.heap.size → TgIn W a' (joinP ns vs (min ns.length vs.length)) → Calls Tryz.prog 12 #[.slice a' (joinP ns vs (min ns.length vs.length)).length c'] W fun e w' => SortedR W w' e (joinP ns vs (min ns.length vs.length)) ∧ Below W.heap.size W w') :
    Calls Tryz.prog 13 #[.slice a ns.length c1, .slice b vs.length c2] w fun e w' => SortedR w w' e (joinP ns vs (min ns.length vs.length)) ∧ Below w.heap.size w w' := by
  have hA : Hid (StIn w a ns) := ha
  have hBb : Hid (StIn w b vs) := hb
  have hSH : Hid _ := hS
  clear ha hb hS
  obtain ⟨p, hp⟩ : ∃ p, ns.length = p := ⟨_, rfl⟩
  obtain ⟨q, hq⟩ : ∃ q, vs.length = q := ⟨_, rfl⟩
  have hP : Hid (ns.length = p) := hp
  have hQ : Hid (vs.length = q) := hq
  rw [hp, hq] at hj hSH ⊢
  rw [hp] at hn
  rw [hq] at hv
  clear hp hq
  obtain ⟨m, hm⟩ : ∃ m, min p q = m := ⟨_, rfl⟩
  have hM : Hid (m ≤ p ∧ m ≤ q ∧ (m = p ∨ m = q)) := by show m ≤ p ∧ m ≤ q ∧ (m = p ∨ m = q); omega
  have hmI : min (p : Int) (q : Int) = (m : Int) := by omega
  rw [hm] at hj hSH ⊢
  clear hm
  obtain ⟨L, hL⟩ : ∃ L, joinP ns vs m = L := ⟨_, rfl⟩
  rw [hL] at hj hSH ⊢
  have hLH : Hid (joinP ns vs m = L) := hL
  clear hL
  go_enter Tryz.func13, Tryz.ntmps13
  go_wp2_with fail
  go_loopw [5, 12] (fun vl vi wr => ∃ (k : Nat) (a3 : Option Addr) (z c3 : Nat), vl = .slice a3 z c3 ∧ vi = .int .i64 (k : Int) ∧ k ≤ m ∧ Hid (OT wr w.heap.size (.slice a3 z c3) (joinP ns vs k)) ∧ Below w.heap.size w wr) (fun _ vi _ => m - (intOf vi).toNat)
  case atStart => exact ⟨0, none, 0, 0, rfl, rfl, by omega, OT.nil _ _, Below.refl _ _⟩
  case round =>
    obtain ⟨k, a3, z, c3, rfl, rfl, hkm, hO, hB⟩ := hrel
    have kw : IntKind.i64.wrap ((k : Int) + 1) = ((k + 1 : Nat) : Int) := IntWalk.i64_in _ (by have := hM.out; omega)
    by_cases hk : k < m
    · have hkI : (k : Int) < (m : Int) := by omega
      have hkp : (k : Int) < (p : Int) := by have := hM.out; omega
      have hkq : (k : Int) < (q : Int) := by have := hM.out; omega
      have k0 : (0 : Int) ≤ (k : Int) := by omega

      obtain ⟨x, hx⟩ : ∃ t, ns[k]? = some t := ⟨_, List.getElem?_eq_getElem (by have := hP.out; have := hM.out; omega)⟩
      obtain ⟨y, hy⟩ : ∃ t, vs[k]? = some t := ⟨_, List.getElem?_eq_getElem (by have := hQ.out; have := hM.out; omega)⟩
      obtain ⟨b1, o1, rfl, hb1, t1⟩ := hA.out.at hB hx
      obtain ⟨b2, o2, rfl, hb2, t2⟩ := hBb.out.at hB hy
      have hst := joinP_step hx hy
      by_cases he : y = ⟨#[]⟩
      · rw [if_pos he, List.append_nil] at hst
        have hO2 : Hid (OT wr w.heap.size (.slice a3 z c3) (joinP ns vs (k + 1))) := by rw [hst]; exact hO
        have hq2 : (y.toList == []) = true := by rw [he, ByteArray.toList_eq]; rfl
        have hBH : Hid (Below w.heap.size w wr) := hB
        clear hst he hB hO
        go_wp2_with fail
        go_round
        case measure => simp only [intOf]; omega
        case rel => exact ⟨k + 1, a3, z, c3, rfl, by simp, by omega, hO2, hBH.out⟩
      · rw [if_neg he] at hst
        have hq2 : (y.toList == []) = false := by
          rw [beq_eq_false_iff_ne]
          intro e
          rw [ByteArray.toList_eq] at e
          exact he (ByteArray.ext (Array.ext' e))
        obtain ⟨v1, w1, hr1, ho1, hb1'⟩ := app1T wr w.heap.size (.slice a3 z c3) (joinP ns vs k) hO.out hB.size x y (by
          have h1 : (joinP ns vs (k + 1)).length ≤ (joinP ns vs m).length := joinP_le ns vs (by omega)
          rw [hst, hLH.out, List.length_append, List.length_singleton] at h1
          omega)
        rw [← hst] at ho1
        obtain ⟨a4, c4, e4, _, _⟩ := ho1.tin
        subst e4
        generalize (joinP ns vs (k + 1)).length = z4 at *
        have hb1w : b1 < wr.heap.size := Nat.lt_of_lt_of_le hb1 hB.size
        have hb2w : b2 < wr.heap.size := Nat.lt_of_lt_of_le hb2 hB.size
        have hBn : Below w.heap.size w w1 := hB.trans hb1'
        have hSW : wr.cell? ⟨b1, o1 + k, none⟩ = some (.string x) ∧ wr.cell? ⟨b2, o2 + k, none⟩ = some (.string y) := ⟨t1, t2⟩
        have hSA : (wr.alloc (.cells #[.string x, .string y] 82)).drew.cell? ⟨b1, o1 + k, none⟩ = some (.string x) ∧ (wr.alloc (.cells #[.string x, .string y] 82)).drew.cell? ⟨b2, o2 + k, none⟩ = some (.string y) := by
          have hBa := (((Below.refl wr.heap.size wr).alloc (Nat.le_refl _) (.cells #[.string x, .string y] 82)).drew)
          exact ⟨by rw [hBa.cell (p := ⟨b1, o1 + k, none⟩) hb1w]; exact t1, by rw [hBa.cell (p := ⟨b2, o2 + k, none⟩) hb2w]; exact t2⟩
        have hS1 : w1.cell? ⟨b1, o1 + k, none⟩ = some (.string x) ∧ w1.cell? ⟨b2, o2 + k, none⟩ = some (.string y) := ⟨by rw [hb1'.cell (p := ⟨b1, o1 + k, none⟩) hb1]; exact t1, by rw [hb1'.cell (p := ⟨b2, o2 + k, none⟩) hb2]; exact t2⟩
        have hrH : Hid _ := hr1
        have hoH : Hid (OT w1 w.heap.size (.slice a4 z4 c4) (joinP ns vs (k + 1))) := ho1
        have hBH : Hid (Below w.heap.size w w1) := hBn
        clear hst he hr1 ho1 hb1' hO hB hBn hx hy
        go_wp2_with fail
        go_region_held3 (fun w' => w'.cell? ⟨b1, o1 + k, none⟩ = some (.string x) ∧ w'.cell? ⟨b2, o2 + k, none⟩ = some (.string y)) (first | assumption | exact ⟨by assumption, by assumption⟩)
          (first | (refine step_append_runS rfl (.tmp 20) (.tmp 30) 22 rfl _ _ _ _ rfl rfl hrH.out ?_))
        all_goals
          clear hSW hSA hS1 hrH t1 t2
          go_wp2_with fail
          go_roundw
          case rel => first | exact ⟨k + 1, a4, z4, c4, rfl, by simp, by omega, hoH, hBH.out⟩ | trace_state
          case measure => simp only [intOf]; omega
    · have hkI : ¬ (k : Int) < (m : Int) := by omega

      obtain rfl : k = m := by omega
      obtain ⟨a5, c5, e5, hc3, ht3⟩ := hO.out.tin
      injection e5 with e6 e7 e8
      subst e6 e8
      rw [hLH.out] at ht3 e7
      subst e7
      have C : Hid (Calls Tryz.prog 12 #[.slice a3 L.length c3] wr fun e w' => SortedR wr w' e L ∧ Below wr.heap.size wr w') := hSH.out a3 c3 wr hB.size ht3
      have hBH : Hid (Below w.heap.size w wr) := hB
      clear ht3 hO hB hSH hLH hj
      generalize hz : L.length = z at *
      clear hz
      go_wp2_with fail
      refine Calls.mono C.out ?_
      rintro e w2 ⟨hR, hb2⟩
      have hRH : Hid (SortedR w w2 e L ∧ Below w.heap.size w w2) := ⟨hR.wide hBH.out.size, hBH.out.trans (hb2.mono hBH.out.size)⟩
      clear hR hb2 C
      obtain ⟨v, rfl⟩ : ∃ v, e = .returned v := SortedR.ret hRH.out.1
      go_wp2_with fail
      go_ret
      exact hRH.out
end Go.Proofs.YtfpfeecoideedaaGreatDoor

namespace Go.Proofs.YtfpfeecoideedaaGreatDoor
open Go.RowKit _root_.Go.Proofs.YtfpfeecoideedaaGreatDoor.So
set_option linter.unusedVariables false
set_option linter.unusedSimpArgs false
theorem So.OwnR.wide {w0 w w' : World} {e : Ending} {l : List TagP} (h : OwnR w w' e l) (hw : w0.heap.size ≤ w.heap.size) : OwnR w0 w' e l := by
  obtain ⟨v, e, o⟩ := h
  refine ⟨v, e, o.1, ?_⟩
  rcases o.2 with o | ⟨g, cap, cur, h1, h2, h3⟩
  · exact Or.inl o
  · exact Or.inr ⟨g, cap, cur, h1, Nat.le_trans hw h2, h3⟩
set_option maxRecDepth 100000 in
set_option maxHeartbeats 4000000 in
theorem joinO_any (a b : Option Addr) (c1 c2 : Nat) (ns vs : List ByteArray) (w : World) (hn : ns.length ≤ 4611686018427387904) (hv : vs.length ≤ 4611686018427387904) (ha : StIn w a ns) (hb : StIn w b vs) (hj : (joinP ns vs (min ns.length vs.length)).length ≤ 4398046511104)
    (hS : ∀ (a' : Option Addr) (c' : Nat) (W : World), w.heap.size ≤ W.heap.size → TgIn W a' (joinP ns vs (min ns.length vs.length)) → Calls Tryz.prog 12 #[.slice a' (joinP ns vs (min ns.length vs.length)).length c'] W fun e w' => (SortedR W w' e (joinP ns vs (min ns.length vs.length)) ∧ OwnR W w' e (joinP ns vs (min ns.length vs.length))) ∧ Below W.heap.size W w') :
    Calls Tryz.prog 13 #[.slice a ns.length c1, .slice b vs.length c2] w fun e w' => (SortedR w w' e (joinP ns vs (min ns.length vs.length)) ∧ OwnR w w' e (joinP ns vs (min ns.length vs.length))) ∧ Below w.heap.size w w' := by
  have hA : Hid (StIn w a ns) := ha
  have hBb : Hid (StIn w b vs) := hb
  have hSH : Hid _ := hS
  clear ha hb hS
  obtain ⟨p, hp⟩ : ∃ p, ns.length = p := ⟨_, rfl⟩
  obtain ⟨q, hq⟩ : ∃ q, vs.length = q := ⟨_, rfl⟩
  have hP : Hid (ns.length = p) := hp
  have hQ : Hid (vs.length = q) := hq
  rw [hp, hq] at hj hSH ⊢
  rw [hp] at hn
  rw [hq] at hv
  clear hp hq
  obtain ⟨m, hm⟩ : ∃ m, min p q = m := ⟨_, rfl⟩
  have hM : Hid (m ≤ p ∧ m ≤ q ∧ (m = p ∨ m = q)) := by show m ≤ p ∧ m ≤ q ∧ (m = p ∨ m = q); omega
  have hmI : min (p : Int) (q : Int) = (m : Int) := by omega
  rw [hm] at hj hSH ⊢
  clear hm
  obtain ⟨L, hL⟩ : ∃ L, joinP ns vs m = L := ⟨_, rfl⟩
  rw [hL] at hj hSH ⊢
  have hLH : Hid (joinP ns vs m = L) := hL
  clear hL
  go_enter Tryz.func13, Tryz.ntmps13
  go_wp2_with fail
  go_loopw [5, 12] (fun vl vi wr => ∃ (k : Nat) (a3 : Option Addr) (z c3 : Nat), vl = .slice a3 z c3 ∧ vi = .int .i64 (k : Int) ∧ k ≤ m ∧ Hid (OT wr w.heap.size (.slice a3 z c3) (joinP ns vs k)) ∧ Below w.heap.size w wr) (fun _ vi _ => m - (intOf vi).toNat)
  case atStart => exact ⟨0, none, 0, 0, rfl, rfl, by omega, OT.nil _ _, Below.refl _ _⟩
  case round =>
    obtain ⟨k, a3, z, c3, rfl, rfl, hkm, hO, hB⟩ := hrel
    have kw : IntKind.i64.wrap ((k : Int) + 1) = ((k + 1 : Nat) : Int) := IntWalk.i64_in _ (by have := hM.out; omega)
    by_cases hk : k < m
    · have hkI : (k : Int) < (m : Int) := by omega
      have hkp : (k : Int) < (p : Int) := by have := hM.out; omega
      have hkq : (k : Int) < (q : Int) := by have := hM.out; omega
      have k0 : (0 : Int) ≤ (k : Int) := by omega

      obtain ⟨x, hx⟩ : ∃ t, ns[k]? = some t := ⟨_, List.getElem?_eq_getElem (by have := hP.out; have := hM.out; omega)⟩
      obtain ⟨y, hy⟩ : ∃ t, vs[k]? = some t := ⟨_, List.getElem?_eq_getElem (by have := hQ.out; have := hM.out; omega)⟩
      obtain ⟨b1, o1, rfl, hb1, t1⟩ := hA.out.at hB hx
      obtain ⟨b2, o2, rfl, hb2, t2⟩ := hBb.out.at hB hy
      have hst := joinP_step hx hy
      by_cases he : y = ⟨#[]⟩
      · rw [if_pos he, List.append_nil] at hst
        have hO2 : Hid (OT wr w.heap.size (.slice a3 z c3) (joinP ns vs (k + 1))) := by rw [hst]; exact hO
        have hq2 : (y.toList == []) = true := by rw [he, ByteArray.toList_eq]; rfl
        have hBH : Hid (Below w.heap.size w wr) := hB
        clear hst he hB hO
        go_wp2_with fail
        go_round
        case measure => simp only [intOf]; omega
        case rel => exact ⟨k + 1, a3, z, c3, rfl, by simp, by omega, hO2, hBH.out⟩
      · rw [if_neg he] at hst
        have hq2 : (y.toList == []) = false := by
          rw [beq_eq_false_iff_ne]
          intro e
          rw [ByteArray.toList_eq] at e
          exact he (ByteArray.ext (Array.ext' e))
        obtain ⟨v1, w1, hr1, ho1, hb1'⟩ := app1T wr w.heap.size (.slice a3 z c3) (joinP ns vs k) hO.out hB.size x y (by
          have h1 : (joinP ns vs (k + 1)).length ≤ (joinP ns vs m).length := joinP_le ns vs (by omega)
          rw [hst, hLH.out, List.length_append, List.length_singleton] at h1
          omega)
        rw [← hst] at ho1
        obtain ⟨a4, c4, e4, _, _⟩ := ho1.tin
        subst e4
        generalize (joinP ns vs (k + 1)).length = z4 at *
        have hb1w : b1 < wr.heap.size := Nat.lt_of_lt_of_le hb1 hB.size
        have hb2w : b2 < wr.heap.size := Nat.lt_of_lt_of_le hb2 hB.size
        have hBn : Below w.heap.size w w1 := hB.trans hb1'
        have hSW : wr.cell? ⟨b1, o1 + k, none⟩ = some (.string x) ∧ wr.cell? ⟨b2, o2 + k, none⟩ = some (.string y) := ⟨t1, t2⟩
        have hSA : (wr.alloc (.cells #[.string x, .string y] 82)).drew.cell? ⟨b1, o1 + k, none⟩ = some (.string x) ∧ (wr.alloc (.cells #[.string x, .string y] 82)).drew.cell? ⟨b2, o2 + k, none⟩ = some (.string y) := by
          have hBa := (((Below.refl wr.heap.size wr).alloc (Nat.le_refl _) (.cells #[.string x, .string y] 82)).drew)
          exact ⟨by rw [hBa.cell (p := ⟨b1, o1 + k, none⟩) hb1w]; exact t1, by rw [hBa.cell (p := ⟨b2, o2 + k, none⟩) hb2w]; exact t2⟩
        have hS1 : w1.cell? ⟨b1, o1 + k, none⟩ = some (.string x) ∧ w1.cell? ⟨b2, o2 + k, none⟩ = some (.string y) := ⟨by rw [hb1'.cell (p := ⟨b1, o1 + k, none⟩) hb1]; exact t1, by rw [hb1'.cell (p := ⟨b2, o2 + k, none⟩) hb2]; exact t2⟩
        have hrH : Hid _ := hr1
        have hoH : Hid (OT w1 w.heap.size (.slice a4 z4 c4) (joinP ns vs (k + 1))) := ho1
        have hBH : Hid (Below w.heap.size w w1) := hBn
        clear hst he hr1 ho1 hb1' hO hB hBn hx hy
        go_wp2_with fail
        go_region_held3 (fun w' => w'.cell? ⟨b1, o1 + k, none⟩ = some (.string x) ∧ w'.cell? ⟨b2, o2 + k, none⟩ = some (.string y)) (first | assumption | exact ⟨by assumption, by assumption⟩)
          (first | (refine step_append_runS rfl (.tmp 20) (.tmp 30) 22 rfl _ _ _ _ rfl rfl hrH.out ?_))
        all_goals
          clear hSW hSA hS1 hrH t1 t2
          go_wp2_with fail
          go_roundw
          case rel => first | exact ⟨k + 1, a4, z4, c4, rfl, by simp, by omega, hoH, hBH.out⟩ | trace_state
          case measure => simp only [intOf]; omega
    · have hkI : ¬ (k : Int) < (m : Int) := by omega

      obtain rfl : k = m := by omega
      obtain ⟨a5, c5, e5, hc3, ht3⟩ := hO.out.tin
      injection e5 with e6 e7 e8
      subst e6 e8
      rw [hLH.out] at ht3 e7
      subst e7
      have C : Hid (Calls Tryz.prog 12 #[.slice a3 L.length c3] wr fun e w' => (SortedR wr w' e L ∧ OwnR wr w' e L) ∧ Below wr.heap.size wr w') := hSH.out a3 c3 wr hB.size ht3
      have hBH : Hid (Below w.heap.size w wr) := hB
      clear ht3 hO hB hSH hLH hj
      generalize hz : L.length = z at *
      clear hz
      go_wp2_with fail
      refine Calls.mono C.out ?_
      rintro e w2 ⟨hR, hb2⟩
      have hRH : Hid ((SortedR w w2 e L ∧ OwnR w w2 e L) ∧ Below w.heap.size w w2) := ⟨⟨hR.1.wide hBH.out.size, hR.2.wide hBH.out.size⟩, hBH.out.trans (hb2.mono hBH.out.size)⟩
      clear hR hb2 C
      obtain ⟨v, rfl⟩ : ∃ v, e = .returned v := SortedR.ret hRH.out.1.1
      go_wp2_with fail
      go_ret
      exact hRH.out
end Go.Proofs.YtfpfeecoideedaaGreatDoor
