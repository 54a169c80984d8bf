
import Derived.Test.YtpbcbpiolhjlhaaGreatDoorSoJq
import Derived.Test.YtpbcbpiolhjlhaaGreatDoorSoKq

namespace Go.Proofs.YtpbcbpiolhjlhaaGreatDoor.So
open Go.RowKit
/-- symMerge: two rows in order, side by side, are one. -/
theorem sym_any (R : En → En → Prop) (c : Tg → Tg → Int) (hC : CmpA 64 c) (tr : ∀ x y z, R x y → R y z → R x z) (b off n cap : Nat) (hn : n ≤ 4611686018427387904) : ∀ (N a m d : Nat) (f : Nat → En) (w : World), d - a ≤ N → a < m → m < d → d ≤ n → TR w b off n (fs f) → Xs R (ltE c) a m d f → Sd R a m f → Sd R m d f →
    Calls Tryz.prog 100 #[.slice (some ⟨b, off, none⟩) n cap, .int .i64 (a : Int), .int .i64 (m : Int), .int .i64 (d : Int), .func (.func 64) #[] #[]] w fun e w' => e = .returned undef ∧ ∃ g, Pr a d f g ∧ Sd R a d g ∧ TR w' b off n (fs g) ∧ OB b w w' := by
  intro N
  induction N with
  | zero => intro a m d f w h1 h2 h3; omega
  | succ N ih =>
    intro a m d f w hN ham hmd hdn hT X L M
    by_cases e1 : m = a + 1
    · subst e1; exact sym_up R c hC b off n cap f a d w hT hmd hdn hn X M tr
    · by_cases e2 : d = m + 1
      · subst e2; exact sym_dn R c hC b off n cap f a m w hT (by omega) hdn hn X L tr
      · by_cases g : (a + d) / 2 < m
        · exact sym_big R c hC tr b off n cap hn N ih a m d f w hN ham hmd hdn hT X L M e1 e2 g
        · exact sym_low R c hC tr b off n cap hn N ih a m d f w hN ham hmd hdn hT X L M e1 e2 g
end Go.Proofs.YtpbcbpiolhjlhaaGreatDoor.So


namespace Go.Proofs.YtpbcbpiolhjlhaaGreatDoor.So
open Go.RowKit
set_option linter.unusedVariables false
set_option linter.unusedSimpArgs false
/-- blocks of 20, the first p in order, the rest as it was. -/
structure L1 (R : En → En → Prop) (c : Tg → Tg → Int) (n p : Nat) (f g : Nat → En) : Prop where
  pr : Pr 0 n f g
  blk : Blk R 20 n (p * 20) g
  cut : Cut R (ltE c) 20 n g
  same : ∀ k, p * 20 ≤ k → g k = f k
theorem L1.start {R : En → En → Prop} {c : Tg → Tg → Int} {n : Nat} {f : Nat → En} (X : Xall R (ltE c) n f) : L1 R c n 0 f f :=
  ⟨Pr.refl _ _ _, by rw [Nat.zero_mul]; exact Blk.zero _ _ _, X.cut _, fun _ _ => rfl⟩
theorem L1.more {R : En → En → Prop} {c : Tg → Tg → Int} {n p : Nat} {f g g' : Nat → En} (h : L1 R c n p f g) (hp : Pr (p * 20) (min ((p + 1) * 20) n) g g') (hg : Sd R (p * 20) (min ((p + 1) * 20) n) g') : L1 R c n (p + 1) f g' :=
  ⟨h.pr.trans (hp.wide (Nat.zero_le _) (Nat.min_le_right _ _)), h.blk.more hp hg, h.cut.pr hp (Nat.le_refl _) (Nat.min_le_left _ _) (Nat.min_le_right _ _), fun k hk => by rw [hp.out (k := k) (by omega)]; exact h.same k (by omega)⟩
theorem L1.xs {R : En → En → Prop} {c : Tg → Tg → Int} {n p : Nat} {f g : Nat → En} (h : L1 R c n p f g) (X : Xall R (ltE c) n f) : ∀ i j, p * 20 ≤ i → i < j → j < n → (ltE c (g j) (g i) = true → R (g j) (g i)) ∧ (ltE c (g j) (g i) = false → R (g i) (g j)) := fun i j x y z => by
  rw [h.same i x, h.same j (by omega)]; exact X i j y z
/-- blocks of s in order. -/
structure L2 (R : En → En → Prop) (c : Tg → Tg → Int) (n s : Nat) (f g : Nat → En) : Prop where
  pr : Pr 0 n f g
  blk : Blk R s n n g
  cut : Cut R (ltE c) s n g
theorem L1.done {R : En → En → Prop} {c : Tg → Tg → Int} {n p : Nat} {f g : Nat → En} (h : L1 R c n p f g) (hn : n ≤ p * 20) : L2 R c n 20 f g := ⟨h.pr, fun q hq => h.blk q (by omega), h.cut⟩
/-- of them the first p pairs merged, the rest as it was. -/
structure L3 (R : En → En → Prop) (c : Tg → Tg → Int) (n s p : Nat) (f g0 g : Nat → En) : Prop where
  was : L2 R c n s f g0
  pr : Pr 0 n f g
  mrg : Mrg R s n p g
  cut : Cut R (ltE c) (s * 2) n g
  same : ∀ k, p * (s * 2) ≤ k → g k = g0 k
theorem L2.start {R : En → En → Prop} {c : Tg → Tg → Int} {n s : Nat} {f g : Nat → En} (h : L2 R c n s f g) : L3 R c n s 0 f g g := ⟨h, h.pr, h.blk.mrg, h.cut.twice, fun _ _ => rfl⟩
theorem L3.xs {R : En → En → Prop} {c : Tg → Tg → Int} {n s p : Nat} {f g0 g : Nat → En} (h : L3 R c n s p f g0 g) : Xs R (ltE c) (p * (s * 2)) (p * (s * 2) + s) n g := fun i j x y z v => by
  have := h.was.cut (2 * p + 1)
  rw [show (2 * p + 1) * s = p * (s * 2) + s by rw [Nat.add_mul, Nat.one_mul, Nat.mul_comm 2 p, Nat.mul_assoc, Nat.mul_comm 2 s]] at this
  rw [h.same i x, h.same j (by omega)]
  exact this i j (Nat.zero_le _) y z v
theorem L3.more {R : En → En → Prop} {c : Tg → Tg → Int} {n s p : Nat} {f g0 g g' : Nat → En} (h : L3 R c n s p f g0 g) (hp : Pr (p * (s * 2)) (min (p * (s * 2) + s * 2) n) g g') (hg : Sd R (p * (s * 2)) (min (p * (s * 2) + s * 2) n) g') : L3 R c n s (p + 1) f g0 g' :=
  have e1 : (p + 1) * (s * 2) = p * (s * 2) + s * 2 := by rw [Nat.add_mul, Nat.one_mul]
  ⟨h.was, h.pr.trans (hp.wide (Nat.zero_le _) (Nat.min_le_right _ _)), h.mrg.more hp hg, h.cut.pr hp (Nat.le_refl _) (by rw [e1]; exact Nat.min_le_left _ _) (Nat.min_le_right _ _), fun k hk => by rw [e1] at hk; rw [hp.out (k := k) (by omega)]; exact h.same k (by omega)⟩
theorem L3.done {R : En → En → Prop} {c : Tg → Tg → Int} {n s p : Nat} {f g0 g : Nat → En} (h : L3 R c n s p f g0 g) (hn : n ≤ p * (s * 2)) : L2 R c n (s * 2) f g := ⟨h.pr, h.mrg.done hn, h.cut⟩
/-- the tail is one block: nothing is to be merged. -/
theorem L3.tail {R : En → En → Prop} {c : Tg → Tg → Int} {n s p : Nat} {f g0 g : Nat → En} (h : L3 R c n s p f g0 g) (hn : n ≤ p * (s * 2) + s) : L2 R c n (s * 2) f g := by
  have h1 := h.mrg.parts.1
  rw [Nat.min_eq_right hn] at h1
  refine (h.more (g' := g) (Pr.refl _ _ _) (by rw [Nat.min_eq_right (by omega)]; exact h1)).done ?_
  rw [Nat.add_mul, Nat.one_mul]; omega
set_option maxRecDepth 100000 in
set_option maxHeartbeats 4000000 in
/-- slices.SortStableFunc's work. -/
theorem stable_any (R : En → En → Prop) (c : Tg → Tg → Int) (hC : CmpA 64 c) (tr : ∀ x y z, R x y → R y z → R x z) (b off n cap : Nat) (hn : n ≤ 1152921504606846976) (f : Nat → En) (w : World) (hT : TR w b off n (fs f)) (X : Xall R (ltE c) n f) :
    Calls Tryz.prog 83 #[.slice (some ⟨b, off, none⟩) n cap, .int .i64 (n : Int), .func (.func 64) #[] #[]] w fun e w' => e = .returned undef ∧ ∃ g, Pr 0 n f g ∧ Sd R 0 n g ∧ TR w' b off n (fs g) ∧ OB b w w' := by
  have H0 : Hid (TR w b off n (fs f)) := hT
  have HX : Hid (Xall R (ltE c) n f) := X
  have HC : Hid (CmpA 64 c) := hC
  clear hT X hC
  go_enter Tryz.func83, Tryz.ntmps83
  go_wp2_with fail
  go_loopw [7, 8] (fun va vb wr => ∃ (A B : Nat) (g : Nat → En), va = .int .i64 (A : Int) ∧ vb = .int .i64 (B : Int) ∧ A ≤ n ∧ Hid (B = A + 20 ∧ ∃ p, A = p * 20 ∧ L1 R c n p f g) ∧ TR wr b off n (fs g) ∧ OB b w wr) (fun va _ _ => n - (intOf va).toNat)
  case atStart => exact ⟨0, 20, f, rfl, rfl, Nat.zero_le _, ⟨rfl, 0, rfl, L1.start HX.out⟩, H0.out, OB.refl _ _⟩
  case round =>
    clear H0
    obtain ⟨A, B, g, rfl, rfl, hA, hL, hT, hO⟩ := hrel
    have hTH : Hid (TR wr b off n (fs g)) := hT
    have hOH : Hid (OB b w wr) := hO
    clear hT hO
    by_cases hB : B ≤ n
    · have hBI : (B : Int) ≤ (n : Int) := by omega
      have C : Hid (Calls Tryz.prog 99 #[.slice (some ⟨b, off, none⟩) n cap, .int .i64 (A : Int), .int .i64 (B : Int), .func (.func 64) #[] #[]] wr fun e w' => e = .returned undef ∧ ∃ g', Pr A B g g' ∧ Sd R A B g' ∧ TR w' b off n (fs g') ∧ OB b wr w') := by
        obtain ⟨e1, p, e2, l1⟩ := hL.out
        exact insert_any R c HC.out b off n cap g A B wr hTH.out (by omega) hB (by omega) (fun i j x y z => l1.xs HX.out i j (by omega) y (by omega)) tr
      have kw : IntKind.i64.wrap ((B : Int) + 20) = ((B + 20 : Nat) : Int) := IntWalk.i64_in _ (by omega)
      go_wp2_with fail
      refine Calls.mono C.out ?_
      rintro e w2 ⟨rfl, g', P2, S2, T2, O2⟩
      have T2H : Hid (TR w2 b off n (fs g')) := T2
      have nx : Hid (∃ p, B = p * 20 ∧ L1 R c n p f g') := by
        obtain ⟨e1, p, e2, l1⟩ := hL.out
        have e3 : min ((p + 1) * 20) n = B := by omega
        refine ⟨p + 1, by omega, l1.more ?_ ?_⟩
        · rw [e3, ← e2]; exact P2
        · rw [e3, ← e2]; exact S2
      have O3 : Hid (OB b w w2) := hOH.out.trans O2
      have dm : Hid (A < B) := by obtain ⟨e1, _⟩ := hL.out; show A < B; omega
      clear T2 O2 P2 S2 C hL hTH hOH
      go_wp2_with fail
      exact ⟨⟨B, B + 20, g', rfl, by first | rfl | simp, hB, ⟨rfl, nx.out⟩, T2H.out, O3.out⟩, by have := dm.out; simp [intOf]; omega⟩
    · have hBI : ¬ (B : Int) ≤ (n : Int) := by omega
      have C : Hid (Calls Tryz.prog 99 #[.slice (some ⟨b, off, none⟩) n cap, .int .i64 (A : Int), .int .i64 (n : Int), .func (.func 64) #[] #[]] wr fun e w' => e = .returned undef ∧ ∃ g', Pr A n g g' ∧ Sd R A n g' ∧ TR w' b off n (fs g') ∧ OB b wr w') := by
        obtain ⟨e1, p, e2, l1⟩ := hL.out
        exact insert_any R c HC.out b off n cap g A n wr hTH.out (by omega) (Nat.le_refl _) (by omega) (fun i j x y z => l1.xs HX.out i j (by omega) y (by omega)) tr
      go_wp2_with fail
      refine Calls.mono C.out ?_
      rintro e w2 ⟨rfl, g', P2, S2, T2, O2⟩
      have T2H : Hid (TR w2 b off n (fs g')) := T2
      have nx : Hid (L2 R c n 20 f g') := by
        obtain ⟨e1, p, e2, l1⟩ := hL.out
        have e3 : min ((p + 1) * 20) n = n := by omega
        refine (l1.more (g' := g') ?_ ?_).done (by omega)
        · rw [e3, ← e2]; exact P2
        · rw [e3, ← e2]; exact S2
      have O3 : Hid (OB b w w2) := hOH.out.trans O2
      clear T2 O2 P2 S2 C hL hTH hOH hBI hB HX
      go_wp2_with fail
      go_loopw [6, 7, 8] (fun vs va vb wr => ∃ (s : Nat) (g : Nat → En), vs = .int .i64 (s : Int) ∧ 20 ≤ s ∧ s ≤ 2 * n + 20 ∧ Hid (L2 R c n s f g) ∧ TR wr b off n (fs g) ∧ OB b w wr) (fun vs _ _ _ => n - (intOf vs).toNat)
      case atStart => exact ⟨20, g', rfl, by omega, by omega, nx, T2H.out, O3.out⟩
      case round =>
        clear T2H nx O3
        rename_i va vb
        obtain ⟨s, g, rfl, hs1, hs2, hL, hT, hO⟩ := hrel
        have hTH : Hid (TR wr b off n (fs g)) := hT
        have hOH : Hid (OB b w wr) := hO
        clear hT hO
        by_cases hsn : s < n
        · have hsI : (s : Int) < (n : Int) := by omega
          have u1 : IntKind.i64.wrap (2 * (s : Int)) = 2 * (s : Int) := IntWalk.i64_in _ (by omega)
          have u2 : IntKind.i64.wrap ((s : Int) * 2) = (s : Int) * 2 := IntWalk.i64_in _ (by omega)
          go_wp2_with fail
          go_loopw [7, 8] (fun va vb wr => ∃ (A B : Nat) (h : Nat → En), va = .int .i64 (A : Int) ∧ vb = .int .i64 (B : Int) ∧ A ≤ n ∧ Hid (B = A + s * 2 ∧ ∃ p, A = p * (s * 2) ∧ L3 R c n s p f g h) ∧ TR wr b off n (fs h) ∧ OB b w wr) (fun va _ _ => n - (intOf va).toNat)
          case atStart => exact ⟨0, 2 * s, g, rfl, by congr 1, Nat.zero_le _, ⟨by omega, 0, by omega, hL.out.start⟩, hTH.out, hOH.out⟩
          case round =>
            clear hTH hOH hL
            obtain ⟨A, B, h, rfl, rfl, hA, hM, hT, hO⟩ := hrel
            have hTH : Hid (TR wr b off n (fs h)) := hT
            have hOH : Hid (OB b w wr) := hO
            clear hT hO
            have v1 : IntKind.i64.wrap ((A : Int) + (s : Int)) = (A : Int) + (s : Int) := IntWalk.i64_in _ (by omega)
            by_cases hB : B ≤ n
            · have hBI : (B : Int) ≤ (n : Int) := by omega
              have C : Hid (Calls Tryz.prog 100 #[.slice (some ⟨b, off, none⟩) n cap, .int .i64 (A : Int), .int .i64 ((A : Int) + (s : Int)), .int .i64 (B : Int), .func (.func 64) #[] #[]] wr fun e w' => e = .returned undef ∧ ∃ g', Pr A B h g' ∧ Sd R A B g' ∧ TR w' b off n (fs g') ∧ OB b wr w') := by
                obtain ⟨e1, p, e2, l3⟩ := hM.out
                have x1 := l3.xs
                obtain ⟨x2, x3⟩ := l3.mrg.parts
                rw [← e2] at x1 x2 x3
                have := sym_any R c HC.out tr b off n cap (by omega) (B - A) A (A + s) B h wr (Nat.le_refl _) (by omega) (by omega) hB hTH.out (x1.sub (Nat.le_refl _) hB) (x2.sub (Nat.le_refl _) (by omega)) (x3.sub (Nat.le_refl _) (by omega))
                rw [show ((A + s : Nat) : Int) = (A : Int) + (s : Int) by omega] at this
                exact this
              have v2 : IntKind.i64.wrap ((B : Int) + 2 * (s : Int)) = (B : Int) + 2 * (s : Int) := IntWalk.i64_in _ (by omega)
              go_wp2_with fail
              refine Calls.mono C.out ?_
              rintro e w2 ⟨rfl, g', P2, S2, T2, O2⟩
              have T2H : Hid (TR w2 b off n (fs g')) := T2
              have nx : Hid (∃ p, B = p * (s * 2) ∧ L3 R c n s p f g g') := by
                obtain ⟨e1, p, e2, l3⟩ := hM.out
                have e3 : min (p * (s * 2) + s * 2) n = B := by omega
                refine ⟨p + 1, by rw [Nat.add_mul, Nat.one_mul]; omega, l3.more ?_ ?_⟩
                · rw [e3, ← e2]; exact P2
                · rw [e3, ← e2]; exact S2
              have O3 : Hid (OB b w w2) := hOH.out.trans O2
              have dm : Hid (A < B) := by obtain ⟨e1, _⟩ := hM.out; show A < B; omega
              clear T2 O2 P2 S2 C hM hTH hOH
              go_wp2_with fail
              exact ⟨⟨B, B + 2 * s, g', rfl, by congr 1, hB, ⟨by omega, nx.out⟩, T2H.out, O3.out⟩, by have := dm.out; simp [intOf]; omega⟩
            · have hBI : ¬ (B : Int) ≤ (n : Int) := by omega
              by_cases hm : A + s < n
              · have hmI : (A : Int) + (s : Int) < (n : Int) := by omega
                have C : Hid (Calls Tryz.prog 100 #[.slice (some ⟨b, off, none⟩) n cap, .int .i64 (A : Int), .int .i64 ((A : Int) + (s : Int)), .int .i64 (n : Int), .func (.func 64) #[] #[]] wr fun e w' => e = .returned undef ∧ ∃ g', Pr A n h g' ∧ Sd R A n g' ∧ TR w' b off n (fs g') ∧ OB b wr w') := by
                  obtain ⟨e1, p, e2, l3⟩ := hM.out
                  have x1 := l3.xs
                  obtain ⟨x2, x3⟩ := l3.mrg.parts
                  rw [← e2] at x1 x2 x3
                  have := sym_any R c HC.out tr b off n cap (by omega) (n - A) A (A + s) n h wr (Nat.le_refl _) (by omega) (by omega) (Nat.le_refl _) hTH.out x1 (x2.sub (Nat.le_refl _) (by omega)) (x3.sub (Nat.le_refl _) (by omega))
                  rw [show ((A + s : Nat) : Int) = (A : Int) + (s : Int) by omega] at this
                  exact this
                go_wp2_with fail
                refine Calls.mono C.out ?_
                rintro e w2 ⟨rfl, g', P2, S2, T2, O2⟩
                have T2H : Hid (TR w2 b off n (fs g')) := T2
                have nx : Hid (L2 R c n (s * 2) f g') := by
                  obtain ⟨e1, p, e2, l3⟩ := hM.out
                  have e3 : min (p * (s * 2) + s * 2) n = n := by omega
                  refine (l3.more (g' := g') ?_ ?_).done (by rw [Nat.add_mul, Nat.one_mul]; omega)
                  · rw [e3, ← e2]; exact P2
                  · rw [e3, ← e2]; exact S2
                have O3 : Hid (OB b w w2) := hOH.out.trans O2
                clear T2 O2 P2 S2 C hM hTH hOH
                go_wp2_with fail
                exact ⟨⟨s * 2, g', by congr 1, by omega, by omega, nx, T2H.out, O3.out⟩, by simp [intOf]; omega⟩
              · have hmI : ¬ (A : Int) + (s : Int) < (n : Int) := by omega
                have nx : Hid (L2 R c n (s * 2) f h) := by
                  obtain ⟨e1, p, e2, l3⟩ := hM.out
                  exact l3.tail (by omega)
                go_wp2_with fail
                exact ⟨⟨s * 2, h, by congr 1, by omega, by omega, nx, hTH.out, hOH.out⟩, by simp [intOf]; omega⟩
        · have hsI : ¬ (s : Int) < (n : Int) := by omega
          have fin : Hid (Pr 0 n f g ∧ Sd R 0 n g) := ⟨hL.out.pr, hL.out.blk.whole (by omega)⟩
          go_wp2_with fail
          go_end0
          exact ⟨rfl, g, fin.out.1, fin.out.2, hTH.out, hOH.out⟩
end Go.Proofs.YtpbcbpiolhjlhaaGreatDoor.So


namespace Go.Proofs.YtpbcbpiolhjlhaaGreatDoor.So
open Go.RowKit
set_option linter.unusedVariables false
set_option linter.unusedSimpArgs false
theorem TR.congr {w : World} {b off n : Nat} {F G : Nat → Tg} (h : TR w b off n F) (e : ∀ k, k < n → F k = G k) : TR w b off n G := ⟨h.1, fun k hk => by rw [← e k hk]; exact h.2 k hk⟩
/-- reversed as far as i from both ends. -/
def rv (F : Nat → Tg) (n i : Nat) : Nat → Tg := fun k => if k < i ∨ (n ≤ k + i ∧ k < n) then F (n - 1 - k) else F k
theorem rv_zero (F : Nat → Tg) (n : Nat) : rv F n 0 = F := by
  funext k; unfold rv; rw [if_neg (by omega)]
theorem rv_step (F : Nat → Tg) (n i : Nat) (h : i + i + 1 < n) : sw (rv F n i) i (n - 1 - i) = rv F n (i + 1) := by
  funext k
  unfold sw rv
  repeat' split
  all_goals first | rfl | (exfalso; omega) | (congr 1; omega)
theorem rv_end (F : Nat → Tg) (n i : Nat) (h : n ≤ i + i + 1) (k : Nat) (hk : k < n) : rv F n i k = F (n - 1 - k) := by
  unfold rv
  split
  · rfl
  · congr 1; omega
theorem ba_dec (a b : ByteArray) : (a.toList == b.toList) = decide (a = b) := by
  by_cases h : a = b
  · subst h; simp
  · rw [decide_eq_false h, beq_eq_false_iff_ne]
    intro e
    rw [ByteArray.toList_eq, ByteArray.toList_eq] at e
    exact h (ByteArray.ext (Array.ext' e))
set_option maxRecDepth 100000 in
theorem sameKey_any (x y : Tg) (w : World) : Calls Tryz.prog 66 #[.agg #[.string x.1, .string x.2], .agg #[.string y.1, .string y.2]] w fun e w' => e = .returned (.bool (decide (x.1 = y.1))) ∧ Below w.heap.size w w' := by
  obtain ⟨a1, a2⟩ := x
  obtain ⟨b1, b2⟩ := y
  have B2 : ∀ o p, Below w.heap.size w ((w.alloc o).alloc p) := fun o p => ((Below.refl _ w).alloc (Nat.le_refl _) o).alloc (by simp) p
  go_enter Tryz.func66, Tryz.ntmps66
  go_wp2_with fail
  go_ret
  exact ⟨by rw [← ba_dec]; rfl, B2 _ _⟩
set_option maxRecDepth 100000 in
set_option maxHeartbeats 2000000 in
theorem reverse_any (b off n cap : Nat) (F : Nat → Tg) (w : World) (h : TR w b off n F) (hn : n ≤ 4611686018427387904) :
    Calls Tryz.prog 62 #[.slice (some ⟨b, off, none⟩) n cap] w fun e w' => e = .returned undef ∧ TR w' b off n (fun k => F (n - 1 - k)) ∧ OB b w w' := by
  have H0 : Hid (TR w b off n F) := h
  clear h
  have z1 : IntKind.i64.wrap ((n : Int) - 1) = (n : Int) - 1 := IntWalk.i64_in _ (by omega)
  go_enter Tryz.func62, Tryz.ntmps62
  go_wp2_with fail
  go_loopw [2, 3] (fun vi vj wr => ∃ (i : Nat) (J : Int), vi = .int .i64 (i : Int) ∧ vj = .int .i64 J ∧ Hid (J = (n : Int) - 1 - (i : Int)) ∧ i ≤ n ∧ TR wr b off n (rv F n i) ∧ OB b w wr) (fun vi vj _ => (intOf vj - intOf vi).toNat)
  case atStart => exact ⟨0, (n : Int) - 1, rfl, rfl, by show _ = _; omega, Nat.zero_le _, by rw [rv_zero]; exact H0.out, OB.refl _ _⟩
  case round =>
    clear H0 z1
    obtain ⟨i, J, rfl, rfl, hJ, hin, hT, hO⟩ := hrel
    by_cases hc : (i : Int) < J
    · obtain ⟨j, hj⟩ : ∃ j : Nat, J = (j : Int) := ⟨J.toNat, by have := hJ.out; omega⟩
      subst hj
      have hij : i < j := by omega
      have hjn : j < n := by have := hJ.out; omega
      have e : Hid (sw (rv F n i) i j = rv F n (i + 1)) := by
        have := rv_step F n i (by have := hJ.out; omega)
        rw [show n - 1 - i = j by have := hJ.out; omega] at this
        exact this
      generalize rv F n i = G at hT e
      obtain ⟨⟨a1, a2⟩, a3, a4⟩ := hT.2 i (by omega)
      obtain ⟨⟨b1, b2⟩, b3, b4⟩ := hT.2 j (by omega)
      have i1 : (0 : Int) ≤ (i : Int) := by omega
      have i2 : (i : Int) < (n : Int) := by omega
      have j1 : (0 : Int) ≤ (j : Int) := by omega
      have j2 : (j : Int) < (n : Int) := by omega
      have ij : ¬ i = j := by omega
      have ij2 : ¬ j = i := by omega
      have q1 : ¬ off + i * 2 = off + j * 2 := by omega
      have q2 : ¬ off + i * 2 = off + j * 2 + 1 := by omega
      have q3 : ¬ off + i * 2 + 1 = off + j * 2 := by omega
      have q4 : ¬ off + i * 2 + 1 = off + j * 2 + 1 := by omega
      have kw : IntKind.i64.wrap ((i : Int) + 1) = ((i + 1 : Nat) : Int) := IntWalk.i64_in _ (by omega)
      have kj : IntKind.i64.wrap ((j : Int) - 1) = (j : Int) - 1 := IntWalk.i64_in _ (by omega)
      have hTH : Hid (TR wr b off n G) := hT
      have hOH : Hid (OB b w wr) := hO
      clear hT hO
      go_wp2_with fail
      go_region
      have hT2 : TR ((((wr.setCell ⟨b, off + i * 2, none⟩ (.string (G j).1)).setCell ⟨b, off + i * 2 + 1, none⟩ (.string (G j).2)).setCell ⟨b, off + j * 2, none⟩ (.string (G i).1)).setCell ⟨b, off + j * 2 + 1, none⟩ (.string (G i).2)) b off n (rv F n (i + 1)) := by
        rw [← e.out, sw_upd2]
        exact TR.set (TR.set (show TR wr b off n G from hTH.out) (show i < n by omega) _ _) (show j < n by omega) _ _
      have hO2 : OB b w ((((wr.setCell ⟨b, off + i * 2, none⟩ (.string (G j).1)).setCell ⟨b, off + i * 2 + 1, none⟩ (.string (G j).2)).setCell ⟨b, off + j * 2, none⟩ (.string (G i).1)).setCell ⟨b, off + j * 2 + 1, none⟩ (.string (G i).2)) := (((hOH.out.trans (OB.set _ _ _)).trans (OB.set _ _ _)).trans (OB.set _ _ _)).trans (OB.set _ _ _)
      generalize ((((wr.setCell ⟨b, off + i * 2, none⟩ (.string (G j).1)).setCell ⟨b, off + i * 2 + 1, none⟩ (.string (G j).2)).setCell ⟨b, off + j * 2, none⟩ (.string (G i).1)).setCell ⟨b, off + j * 2 + 1, none⟩ (.string (G i).2)) = W2 at hT2 hO2 ⊢
      have hT2H : Hid (TR W2 b off n (rv F n (i + 1))) := hT2
      have hO2H : Hid (OB b w W2) := hO2
      clear hT2 hO2 hTH hOH e a1 a2 a3 a4 b1 b2 b3 b4
      go_wp2_with fail
      exact ⟨⟨i + 1, (j : Int) - 1, by first | rfl | simp, rfl, by have := hJ.out; show _ = _; omega, by omega, hT2H.out, hO2H.out.drew⟩, by simp [intOf]; omega⟩
    · have fin : Hid (TR wr b off n (fun k => F (n - 1 - k))) := hT.congr (rv_end F n i (by have := hJ.out; omega))
      have hOH : Hid (OB b w wr) := hO
      clear hT hO
      go_wp2_with fail
      go_end0
      exact ⟨rfl, fin.out, hOH.out⟩
set_option maxRecDepth 100000 in
theorem sortStable_any (R : En → En → Prop) (c : Tg → Tg → Int) (hC : CmpA 64 c) (tr : ∀ x y z, R x y → R y z → R x z) (b off n cap : Nat) (hn : n ≤ 1152921504606846976) (f : Nat → En) (w : World) (hT : TR w b off n (fs f)) (X : Xall R (ltE c) n f) :
    Calls Tryz.prog 63 #[.slice (some ⟨b, off, none⟩) n cap, .func (.func 64) #[] #[]] w fun e w' => e = .returned undef ∧ ∃ g, Pr 0 n f g ∧ Sd R 0 n g ∧ TR w' b off n (fs g) ∧ OB b w w' := by
  have C : Hid _ := stable_any R c hC tr b off n cap hn f w hT X
  clear hC hT X
  go_enter Tryz.func63, Tryz.ntmps63
  go_wp2_with fail
  refine Calls.mono C.out ?_
  rintro e w2 ⟨rfl, hh⟩
  have hhH : Hid _ := hh
  clear hh C
  go_wp2_with fail
  go_end0
  exact ⟨rfl, hhH.out⟩
end Go.Proofs.YtpbcbpiolhjlhaaGreatDoor.So
