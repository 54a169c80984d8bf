
import Derived.Test.YtbojljmacheccaaGreatDoorKyB
namespace Go.Proofs.YtbojljmacheccaaGreatDoor
open Go.RowKit
set_option linter.unusedVariables false
set_option linter.unusedSimpArgs false
/-- a series that lies in memory. -/
def SerIn (w : World) (a : Option Addr) (s : SerP) : Prop := TgIn w a s.t ∧ s.t.length ≤ 9223372036854775807
set_option maxRecDepth 100000 in
set_option maxHeartbeats 4000000 in
theorem compare_any (a b : Option Addr) (c1 c2 : Nat) (s t : SerP) (w : World) (ha : SerIn w a s) (hb : SerIn w b t) :
    Calls Tryz.prog 26 #[.agg #[.string s.m, .slice a s.t.length c1, .string s.f], .agg #[.string t.m, .slice b t.t.length c2, .string t.f]] w fun e w' => e = .returned (.int .i64 (serC s t)) ∧ Below w.heap.size w w' := by
  obtain ⟨sm, st, sf⟩ := s
  obtain ⟨tm, tt, tf⟩ := t
  simp only at ha hb ⊢
  obtain ⟨ha, hl⟩ := ha
  obtain ⟨hb, hm⟩ := hb
  simp only at ha hb hl hm
  have B2 : ∀ o1 o2, Below w.heap.size w ((w.alloc o1).alloc o2) := fun o1 o2 => ((Below.refl _ w).alloc (Nat.le_refl _) o1).alloc (by simp) o2
  have cM : Hid (∀ W, Calls Tryz.prog 97 #[.string sm, .string tm] W fun e w' => e = .returned (.int .i64 (strC sm tm)) ∧ w' = W) := fun W => Tryz.strings_Compare sm tm W
  have cF : Hid (∀ W, Calls Tryz.prog 97 #[.string sf, .string tf] W fun e w' => e = .returned (.int .i64 (strC sf tf)) ∧ w' = W) := fun W => Tryz.strings_Compare sf tf W
  have cT : Hid (Calls Tryz.prog 98 #[.slice a st.length c1, .slice b tt.length c2, .func (.func 99) #[] #[]] ((w.alloc (.cells #[.string sm, .slice a st.length c1, .string sf] 88)).alloc (.cells #[.string tm, .slice b tt.length c2, .string tf] 88)) fun e w' => e = .returned (.int .i64 (tagsC st tt)) ∧ w'.cell? ⟨w.heap.size, 2, none⟩ = some (.string sf) ∧ w'.cell? ⟨w.heap.size + 1, 2, none⟩ = some (.string tf) ∧ Below w.heap.size w w') := by
    refine Calls.mono (compareFunc_any a b st tt c1 c2 _ hl hm (ha.below (B2 _ _)) (hb.below (B2 _ _))) ?_
    rintro e w' ⟨rfl, hb2⟩
    refine ⟨rfl, ?_, ?_, (B2 _ _).trans (hb2.mono (B2 _ _).size)⟩
    · rw [hb2.cell (p := ⟨w.heap.size, 2, none⟩) (by simp; omega)]; simp [go_sem]
    · rw [hb2.cell (p := ⟨w.heap.size + 1, 2, none⟩) (by simp)]; simp [go_sem]
  unfold serC pairC
  simp only
  generalize strC sm tm = r at cM ⊢
  generalize strC sf tf = q at cF ⊢
  generalize tagsC st tt = x at cT ⊢
  generalize st.length = n at cT hl ⊢
  generalize tt.length = p at cT hm ⊢
  by_cases h : r = 0
  · subst h
    rw [if_pos rfl]
    by_cases h2 : x = 0
    · subst h2
      rw [if_pos rfl]
      go_enter Tryz.func26, Tryz.ntmps26
      go_wp2_with (first | (go_at_call 97; with_reducible refine Calls.mono (cM.out _) ?_; clear cM; rintro e w' ⟨rfl, rfl⟩) | (go_at_call 98; with_reducible refine Calls.mono cT.out ?_; rintro e w' ⟨rfl, k1, k2, hb2⟩) | (go_at_call 97; with_reducible refine Calls.mono (cF.out _) ?_; rintro e w' ⟨rfl, rfl⟩))
      go_ret
      exact ⟨rfl, hb2⟩
    · have hx : (x == 0) = false := by simpa using h2
      rw [if_neg h2]
      clear h2
      go_enter Tryz.func26, Tryz.ntmps26
      go_wp2_with (first | (go_at_call 97; with_reducible refine Calls.mono (cM.out _) ?_; clear cM; rintro e w' ⟨rfl, rfl⟩) | (go_at_call 98; with_reducible refine Calls.mono cT.out ?_; rintro e w' ⟨rfl, k1, k2, hb2⟩) | (go_at_call 97; with_reducible refine Calls.mono (cF.out _) ?_; rintro e w' ⟨rfl, rfl⟩))
      go_ret
      exact ⟨rfl, hb2⟩
  · have hx : (r == 0) = false := by simpa using h
    rw [if_neg h]
    clear h
    go_enter Tryz.func26, Tryz.ntmps26
    go_wp2_with (first | (go_at_call 97; with_reducible refine Calls.mono (cM.out _) ?_; clear cM; rintro e w' ⟨rfl, rfl⟩) | (go_at_call 98; with_reducible refine Calls.mono cT.out ?_; rintro e w' ⟨rfl, k1, k2, hb2⟩) | (go_at_call 97; with_reducible refine Calls.mono (cF.out _) ?_; rintro e w' ⟨rfl, rfl⟩))
    go_ret
    exact ⟨rfl, B2 _ _⟩
set_option maxRecDepth 100000 in
theorem texts_any (a b : ByteArray) (w : World) : Calls Tryz.prog 128 #[.string a, .string b] w fun e w' => e = .returned (.int .i64 (strC a b)) ∧ w' = w := by
  have h1 := less_str a b
  have h2 := same_str a b
  obtain ⟨r, hr⟩ : ∃ r, strC a b = r := ⟨_, rfl⟩
  have hrg := strC_is.range a b
  rw [hr] at h1 h2 hrg ⊢
  clear hr
  rcases hrg with h | h | h
  · subst h
    have g1 : Op.bytesLess a.toList b.toList = true := by rw [h1]; decide
    clear h1 h2
    go_enter Tryz.func128, Tryz.ntmps128
    go_wp2_with fail
    go_ret
    exact ⟨rfl, rfl⟩
  · subst h
    have g1 : Op.bytesLess a.toList b.toList = false := by rw [h1]; decide
    have g2 : (a.toList == b.toList) = true := by rw [h2]; decide
    clear h1 h2
    go_enter Tryz.func128, Tryz.ntmps128
    go_wp2_with fail
    go_ret
    exact ⟨rfl, rfl⟩
  · subst h
    have g1 : Op.bytesLess a.toList b.toList = false := by rw [h1]; decide
    have g2 : (a.toList == b.toList) = false := by rw [h2]; decide
    clear h1 h2
    go_enter Tryz.func128, Tryz.ntmps128
    go_wp2_with fail
    go_ret
    exact ⟨rfl, rfl⟩
theorem bdrewN {B : Nat} {a w : World} (h : Below B a w) : ∀ q, Below B a (w.drewN q)
  | 0 => h
  | q + 1 => (bdrewN h q).drew
set_option maxRecDepth 100000 in
set_option maxHeartbeats 4000000 in
theorem ctags_any (a b : Option Addr) (l m : List TagP) (c1 c2 : Nat) (w : World) (hl : l.length ≤ 9223372036854775807) (hm : m.length ≤ 9223372036854775807) (ha : TgIn w a l) (hb : TgIn w b m) :
    Calls Tryz.prog 81 #[.slice a l.length c1, .slice b m.length c2] w fun e w' => e = .returned (.int .i64 (tagsC l m)) ∧ Below w.heap.size w w' := by
  have hC : Hid (∀ (t u : ByteArray) (W : World), Calls Tryz.prog 128 #[.string t, .string u] W fun e w' => e = .returned (.int .i64 (strC t u)) ∧ w' = W) := fun t u W => texts_any t u W
  have hA : Hid (TgIn w a l) := ha
  have hBb : Hid (TgIn w b m) := hb
  clear ha hb
  obtain ⟨R, hR⟩ : ∃ R, tagsC l m = R := ⟨_, rfl⟩
  have hR0 : Hid (lexC tagC (l.drop 0) (m.drop 0) = R) := hR
  rw [hR]
  clear hR
  obtain ⟨n, hn⟩ : ∃ n, l.length = n := ⟨_, rfl⟩
  obtain ⟨p, hp⟩ : ∃ p, m.length = p := ⟨_, rfl⟩
  have hN : Hid (l.length = n) := hn
  have hP : Hid (m.length = p) := hp
  rw [hn] at hl ⊢
  rw [hp] at hm ⊢
  clear hn hp
  go_enter Tryz.func81, Tryz.ntmps81
  go_wp2_with fail
  go_loopw [5] (fun i wr => ∃ k : Nat, i = .int .i64 (k : Int) ∧ k ≤ n ∧ k ≤ p ∧ Hid (lexC tagC (l.drop k) (m.drop k) = R) ∧ Below w.heap.size w wr) (fun i _ => n - (intOf i).toNat)
  case atStart => exact ⟨0, rfl, by omega, by omega, hR0, Below.refl _ _⟩
  case round =>
    obtain ⟨k, rfl, hkn, hkp, hI, hB⟩ := hrel
    by_cases hk : k < n ∧ k < p
    · obtain ⟨hk, hk2⟩ := hk
      have hkI : (k : Int) < (n : Int) := by omega
      have hkI2 : (k : Int) < (p : Int) := by omega
      have hk1 : IntKind.i64.wrap ((k : Int) + 1) = (k : Int) + 1 := IntWalk.i64_in _ (by omega)
      obtain ⟨t, ht⟩ : ∃ t, l[k]? = some t := ⟨_, List.getElem?_eq_getElem (by have := hN.out; omega)⟩
      obtain ⟨b1, o1, rfl, hb1, t1, t2⟩ := hA.out.at hB ht
      obtain ⟨u, hu⟩ : ∃ u, m[k]? = some u := ⟨_, List.getElem?_eq_getElem (by have := hP.out; omega)⟩
      obtain ⟨b2, o2, rfl, hb2, u1, u2⟩ := hBb.out.at hB hu
      have hst := lexC_step ht hu
      rw [hI.out] at hst
      have hst2 : Hid (R = if tagC t u = 0 then lexC tagC (l.drop (k + 1)) (m.drop (k + 1)) else tagC t u) := hst
      clear hst ht hu
      obtain ⟨ta, tb⟩ := t
      obtain ⟨ua, ub⟩ := u
      simp only at t1 t2 u1 u2
      have cK : Hid (∀ (W : World), Calls Tryz.prog 128 #[.string ta, .string ua] W fun e w' => e = .returned (.int .i64 (strC ta ua)) ∧ w' = W) := fun W => texts_any _ _ W
      have cV : Hid (∀ (W : World), Calls Tryz.prog 128 #[.string tb, .string ub] W fun e w' => e = .returned (.int .i64 (strC tb ub)) ∧ w' = W) := fun W => texts_any _ _ W
      unfold tagC pairC at hst2
      simp only at hst2
      generalize strC ta ua = r at hst2 cK
      generalize strC tb ub = q at hst2 cV
      by_cases hr0 : r = 0
      · by_cases hq0 : q = 0
        · have hz : Hid (lexC tagC (l.drop (k + 1)) (m.drop (k + 1)) = R) := by have := hst2.out; rw [if_pos hr0, if_pos hq0] at this; exact this.symm
          clear hst2
          subst hr0 hq0
          go_wp2_with fail
          go_quiet ((go_at_call 128; exact Calls.quiet_of_same (cK.out _)))
          go_wp2_with fail
          generalize hwq : World.drewN wr _ = wq
          have hBq : Below w.heap.size w wq := hwq ▸ bdrewN hB _
          have t2q : wq.cell? ⟨b1, o1 + k * 2 + 1, none⟩ = some (.string tb) := by rw [← hwq]; exact t2
          have u2q : wq.cell? ⟨b2, o2 + k * 2 + 1, none⟩ = some (.string ub) := by rw [← hwq]; exact u2
          clear hwq t1 t2 u1 u2
          go_quiet ((go_at_call 128; exact Calls.quiet_of_same (cV.out _)))
          go_wp2_with fail
          go_round
          case measure => simp only [intOf]; omega
          case rel => exact ⟨k + 1, by simp, by omega, by omega, hz, bdrewN hBq _⟩
        · have hqb : (q == 0) = false := by simpa using hq0
          have hz : Hid (q = R) := by have := hst2.out; rw [if_pos hr0, if_neg hq0] at this; exact this.symm
          clear hst2 hq0
          subst hr0
          go_wp2_with fail
          go_quiet ((go_at_call 128; exact Calls.quiet_of_same (cK.out _)))
          go_wp2_with fail
          generalize hwq : World.drewN wr _ = wq
          have hBq : Below w.heap.size w wq := hwq ▸ bdrewN hB _
          have t2q : wq.cell? ⟨b1, o1 + k * 2 + 1, none⟩ = some (.string tb) := by rw [← hwq]; exact t2
          have u2q : wq.cell? ⟨b2, o2 + k * 2 + 1, none⟩ = some (.string ub) := by rw [← hwq]; exact u2
          clear hwq t1 t2 u1 u2
          go_quiet ((go_at_call 128; exact Calls.quiet_of_same (cV.out _)))
          go_wp2_with fail
          go_ret
          exact ⟨by rw [hz.out]; rfl, by first | exact bdrewN hBq _ | exact bdrewN hB _⟩
      · have hrb : (r == 0) = false := by simpa using hr0
        have hz : Hid (r = R) := by have := hst2.out; rw [if_neg hr0, if_neg hr0] at this; exact this.symm
        clear hst2 hr0
        go_wp2_with fail
        go_quiet ((go_at_call 128; exact Calls.quiet_of_same (cK.out _)))
        go_wp2_with fail
        go_ret
        exact ⟨by rw [hz.out]; rfl, by first | exact bdrewN hBq _ | exact bdrewN hB _⟩
    · have hend := lexC_ends (l := l) (m := m) (k := k) (by have := hN.out; have := hP.out; omega) (by have := hN.out; omega) (by have := hP.out; omega)
      rw [hI.out, hN.out, hP.out] at hend
      have hE : Hid (R = if n < p then -1 else if p < n then 1 else 0) := hend
      clear hend
      rcases Nat.lt_or_ge k n with hkn2 | hkn2
      · have hkI : (k : Int) < (n : Int) := by omega
        have hkI2 : ¬ (k : Int) < (p : Int) := by omega
        have hE2 : Hid (R = 1) := by have := hE.out; rw [if_neg (by omega), if_pos (by omega)] at this; exact this
        have hnp : ¬ (n : Int) < (p : Int) := by omega
        have hnp2 : (n : Int) > (p : Int) := by omega
        clear hk hE
        go_wp2_with fail
        go_ret
        exact ⟨by rw [hE2.out]; rfl, hB⟩
      · have hkI : ¬ (k : Int) < (n : Int) := by omega
        rcases Nat.lt_or_ge n p with h | h
        · have hE2 : Hid (R = -1) := by have := hE.out; rw [if_pos (by omega)] at this; exact this
          have hnp : (n : Int) < (p : Int) := by omega
          clear hk hE
          go_wp2_with fail
          go_ret
          exact ⟨by rw [hE2.out]; rfl, hB⟩
        · have hE2 : Hid (R = 0) := by have := hE.out; rw [if_neg (by omega), if_neg (by omega)] at this; exact this
          have hnp : ¬ (n : Int) < (p : Int) := by omega
          have hnp2 : ¬ (n : Int) > (p : Int) := by omega
          clear hk hE
          go_wp2_with fail
          go_ret
          exact ⟨by rw [hE2.out]; rfl, hB⟩
end Go.Proofs.YtbojljmacheccaaGreatDoor
