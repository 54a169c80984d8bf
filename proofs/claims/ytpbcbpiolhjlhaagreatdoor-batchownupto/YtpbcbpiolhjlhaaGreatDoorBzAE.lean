
import Derived.Test.YtpbcbpiolhjlhaaGreatDoorProg
import Derived.Test.YtpbcbpiolhjlhaaGreatDoorShelf
import Derived.Test.YtpbcbpiolhjlhaaGreatDoorBzAD
import Derived.WalkKit
import Derived.Laws.BitsAllLaws
import Derived.BigQuiet
import Derived.Laws.OwnMore
import Derived.Deep.AppendLies
import Derived.OwnWalk
import Derived.LoopTactic
import Derived.Below
import Derived.Deep.RegionHeld3
import Derived.WalkLawsBesides
import Derived.Test.YtpbcbpiolhjlhaaGreatDoorBzAC
import Derived.BigRegion

namespace Go.Proofs.YtpbcbpiolhjlhaaGreatDoor
open Go.RowKit
set_option linter.unusedVariables false
set_option linter.unusedSimpArgs false
/-- tags that lie in memory. -/
def TgIn (w : World) (a : Option Addr) (l : List TagP) : Prop := l = [] ∨ ∃ b off, a = some ⟨b, off, none⟩ ∧ b < w.heap.size ∧ ∀ i t, l[i]? = some t → w.cell? ⟨b, off + i * 2, none⟩ = some (.string t.1) ∧ w.cell? ⟨b, off + i * 2 + 1, none⟩ = some (.string t.2)
theorem TgIn.below {w w' : World} {a : Option Addr} {l : List TagP} (h : TgIn w a l) (hB : Below w.heap.size w w') : TgIn w' a l := by
  rcases h with h | ⟨b, off, ha, hb, hc⟩
  · exact Or.inl h
  · refine Or.inr ⟨b, off, ha, by have := hB.size; omega, fun i t ht => ?_⟩
    rw [hB.cell (p := ⟨b, off + i * 2, none⟩) hb, hB.cell (p := ⟨b, off + i * 2 + 1, none⟩) hb]
    exact hc i t ht
def twoT (w : World) (a1 a2 b1 b2 : ByteArray) : World := (w.alloc (.cells #[.string a1, .string a2] 91)).alloc (.cells #[.string b1, .string b2] 91)
theorem twoT_below (w : World) (a1 a2 b1 b2 : ByteArray) : Below w.heap.size w (twoT w a1 a2 b1 b2) := ((Below.refl _ w).alloc (Nat.le_refl _) _).alloc (by simp) _
set_option maxRecDepth 100000 in
theorem compareKeys_any (a1 a2 b1 b2 : ByteArray) (w : World) : Calls Tryz.prog 64 #[.agg #[.string a1, .string a2], .agg #[.string b1, .string b2]] w fun e w' => e = .returned (.int .i64 (strC a1 b1)) ∧ w' = (w.alloc (.cells #[.string a1, .string a2] 91)).alloc (.cells #[.string b1, .string b2] 91) := by
  have c : Hid (∀ W, Calls Tryz.prog 84 #[.string a1, .string b1] W fun e w' => e = .returned (.int .i64 (strC a1 b1)) ∧ w' = W) := fun W => Tryz.strings_Compare a1 b1 W
  generalize strC a1 b1 = r at c ⊢
  go_enter Tryz.func64, Tryz.ntmps64
  go_wp2_with (go_at_call 84; refine Calls.mono (c.out _) ?_; rintro e w' ⟨rfl, rfl⟩)
  go_ret
  exact ⟨rfl, rfl⟩
set_option maxRecDepth 100000 in
theorem compareTags_any (a1 a2 b1 b2 : ByteArray) (w : World) : Calls Tryz.prog 86 #[.agg #[.string a1, .string a2], .agg #[.string b1, .string b2]] w fun e w' => e = .returned (.int .i64 (tagC (a1, a2) (b1, b2))) ∧ Below w.heap.size w w' := by
  have c : Hid (∀ W, Calls Tryz.prog 84 #[.string a2, .string b2] W fun e w' => e = .returned (.int .i64 (strC a2 b2)) ∧ w' = W) := fun W => Tryz.strings_Compare a2 b2 W
  have d : Hid (∀ W, Calls Tryz.prog 64 #[.agg #[.string a1, .string a2], .agg #[.string b1, .string b2]] W fun e w' => e = .returned (.int .i64 (strC a1 b1)) ∧ w' = (W.alloc (.cells #[.string a1, .string a2] 91)).alloc (.cells #[.string b1, .string b2] 91)) := fun W => compareKeys_any a1 a2 b1 b2 W
  have e4 : Below w.heap.size w ((((w.alloc (.cells #[.string a1, .string a2] 91)).alloc (.cells #[.string b1, .string b2] 91)).alloc (.cells #[.string a1, .string a2] 91)).alloc (.cells #[.string b1, .string b2] 91)) := ((((Below.refl _ w).alloc (Nat.le_refl _) _).alloc (by simp) _).alloc (by simp; omega) _).alloc (by simp; omega) _
  unfold tagC pairC
  simp only
  generalize strC a1 b1 = r at d ⊢
  generalize strC a2 b2 = q at c ⊢
  by_cases h : r = 0
  · subst h
    rw [if_pos rfl]
    go_enter Tryz.func86, Tryz.ntmps86
    go_wp2_with (first | (go_at_call 64; refine Calls.mono (d.out _) ?_; rintro e w' ⟨rfl, rfl⟩) | (go_at_call 84; refine Calls.mono (c.out _) ?_; rintro e w' ⟨rfl, rfl⟩))
    go_ret
    exact ⟨rfl, e4⟩
  · have hr : (r == 0) = false := by simpa using h
    rw [if_neg h]
    go_enter Tryz.func86, Tryz.ntmps86
    go_wp2_with (first | (go_at_call 64; refine Calls.mono (d.out _) ?_; rintro e w' ⟨rfl, rfl⟩) | (go_at_call 84; refine Calls.mono (c.out _) ?_; rintro e w' ⟨rfl, rfl⟩))
    go_ret
    exact ⟨rfl, e4⟩
theorem lexC_step {l m : List TagP} {k : Nat} {t u : TagP} (ht : l[k]? = some t) (hu : m[k]? = some u) : lexC tagC (l.drop k) (m.drop k) = if tagC t u = 0 then lexC tagC (l.drop (k + 1)) (m.drop (k + 1)) else tagC t u := by
  obtain ⟨h1, rfl⟩ := List.getElem?_eq_some_iff.1 ht
  obtain ⟨h2, rfl⟩ := List.getElem?_eq_some_iff.1 hu
  rw [List.drop_eq_getElem_cons h1, List.drop_eq_getElem_cons h2]
  rfl
theorem lexC_ends {l m : List TagP} {k : Nat} (h : l.length ≤ k ∨ m.length ≤ k) (hl : k ≤ l.length) (hm : k ≤ m.length) : lexC tagC (l.drop k) (m.drop k) = if l.length < m.length then -1 else if m.length < l.length then 1 else 0 := by
  by_cases h1 : l.length ≤ k
  · have : l.drop k = [] := List.drop_eq_nil_of_le h1
    rw [this]
    by_cases h2 : m.length ≤ k
    · rw [List.drop_eq_nil_of_le h2, if_neg (by omega), if_neg (by omega)]; rfl
    · rw [List.drop_eq_getElem_cons (by omega), if_pos (by omega)]; rfl
  · have h2 : m.length ≤ k := by omega
    rw [List.drop_eq_nil_of_le h2, List.drop_eq_getElem_cons (by omega), if_neg (by omega), if_pos (by omega)]; rfl
theorem TgIn.at {w wr : World} {a : Option Addr} {l : List TagP} (h : TgIn w a l) (hB : Below w.heap.size w wr) {k : Nat} {t : TagP} (ht : l[k]? = some t) : ∃ b off, a = some ⟨b, off, none⟩ ∧ b < w.heap.size ∧ wr.cell? ⟨b, off + k * 2, none⟩ = some (.string t.1) ∧ wr.cell? ⟨b, off + k * 2 + 1, none⟩ = some (.string t.2) := by
  rcases h with h0 | ⟨b, off, e, hb, hc⟩
  · rw [h0] at ht; simp at ht
  · exact ⟨b, off, e, hb, by rw [hB.cell (p := ⟨b, off + k * 2, none⟩) hb]; exact (hc k t ht).1, by rw [hB.cell (p := ⟨b, off + k * 2 + 1, none⟩) hb]; exact (hc k t ht).2⟩
set_option maxRecDepth 100000 in
set_option maxHeartbeats 4000000 in
theorem compareFunc_any (a b : Option Addr) (l m : List TagP) (c1 c2 : Nat) (w : World) (hl : l.length ≤ 9223372036854775807) (hm : m.length ≤ 9223372036854775807) (ha : TgIn w a l) (hb : TgIn w b m) :
    Calls Tryz.prog 85 #[.slice a l.length c1, .slice b m.length c2, .func (.func 86) #[] #[]] w fun e w' => e = .returned (.int .i64 (tagsC l m)) ∧ Below w.heap.size w w' := by
  have hC : Hid (∀ (t u : TagP) (W : World), Calls Tryz.prog 86 #[.agg #[.string t.1, .string t.2], .agg #[.string u.1, .string u.2]] W fun e w' => e = .returned (.int .i64 (tagC t u)) ∧ Below W.heap.size W w') := fun t u W => compareTags_any t.1 t.2 u.1 u.2 W
  have hA : Hid (TgIn w a l) := ha
  have hBb : Hid (TgIn w b m) := hb
  clear ha hb
  obtain ⟨R, hR⟩ : ∃ R, tagsC l m = R := ⟨_, rfl⟩
  have hR0 : Hid (lexC tagC (l.drop 0) (m.drop 0) = R) := hR
  rw [hR]
  clear hR
  obtain ⟨n, hn⟩ : ∃ n, l.length = n := ⟨_, rfl⟩
  obtain ⟨p, hp⟩ : ∃ p, m.length = p := ⟨_, rfl⟩
  have hN : Hid (l.length = n) := hn
  have hP : Hid (m.length = p) := hp
  rw [hn] at hl ⊢
  rw [hp] at hm ⊢
  clear hn hp
  go_enter Tryz.func85, Tryz.ntmps85
  go_wp2_with fail
  go_loopw [13] (fun i wr => ∃ k : Nat, i = .int .i64 (k : Int) ∧ k ≤ n ∧ k ≤ p ∧ Hid (lexC tagC (l.drop k) (m.drop k) = R) ∧ Below w.heap.size w wr) (fun i _ => n - (intOf i).toNat)
  case atStart => exact ⟨0, rfl, by omega, by omega, hR0, Below.refl _ _⟩
  case round =>
    obtain ⟨k, rfl, hkn, hkp, hI, hB⟩ := hrel
    by_cases hk : k < n
    · have hkI : (k : Int) < (n : Int) := by omega
      obtain ⟨t, ht⟩ : ∃ t, l[k]? = some t := ⟨_, List.getElem?_eq_getElem (by have := hN.out; omega)⟩
      obtain ⟨b1, o1, rfl, hb1, t1, t2⟩ := hA.out.at hB ht
      by_cases hk2 : k < p
      · have hkI2 : ¬ ((k : Int) ≥ (p : Int)) := by omega
        have hkI3 : (k : Int) < (p : Int) := by omega
        obtain ⟨u, hu⟩ : ∃ u, m[k]? = some u := ⟨_, List.getElem?_eq_getElem (by have := hP.out; omega)⟩
        obtain ⟨b2, o2, rfl, hb2, u1, u2⟩ := hBb.out.at hB hu
        have v1 : ∀ o, (wr.alloc o).cell? ⟨b2, o2 + k * 2, none⟩ = some (.string u.1) := fun o => by rw [(((Below.refl _ wr).alloc (Nat.le_refl _) o)).cell (p := ⟨b2, o2 + k * 2, none⟩) (by have := hB.size; show b2 < _; omega)]; exact u1
        have v2 : ∀ o, (wr.alloc o).cell? ⟨b2, o2 + k * 2 + 1, none⟩ = some (.string u.2) := fun o => by rw [(((Below.refl _ wr).alloc (Nat.le_refl _) o)).cell (p := ⟨b2, o2 + k * 2 + 1, none⟩) (by have := hB.size; show b2 < _; omega)]; exact u2
        have hC' := hC.out t u
        have hst := lexC_step ht hu
        rw [hI.out] at hst
        obtain ⟨r, hr⟩ : ∃ r, tagC t u = r := ⟨_, rfl⟩
        rw [hr] at hC' hst
        have hC2 : Hid (∀ W, Calls Tryz.prog 86 #[.agg #[.string t.1, .string t.2], .agg #[.string u.1, .string u.2]] W fun e w' => e = .returned (.int .i64 r) ∧ Below W.heap.size W w') := hC'
        have hst2 : Hid (R = if r = 0 then lexC tagC (l.drop (k + 1)) (m.drop (k + 1)) else r) := hst
        clear hst hC' hr ht hu
        generalize t.1 = ta at *
        generalize t.2 = tb at *
        generalize u.1 = ua at *
        generalize u.2 = ub at *
        have hBB : ∀ o1 o2, Below w.heap.size w ((wr.alloc o1).alloc o2) := fun o1 o2 => (hB.alloc hB.size o1).alloc (by have := hB.size; simp; omega) o2
        by_cases hr0 : r = 0
        · have hz : Hid (lexC tagC (l.drop (k + 1)) (m.drop (k + 1)) = R) := by have := hst2.out; rw [if_pos hr0] at this; exact this.symm
          clear hst2
          subst hr0
          go_wp2_with (refine Calls.mono (hC2.out _) ?_; rintro e w' ⟨rfl, hB2⟩)
          go_round
          case measure => simp only [intOf]; omega
          case rel => exact ⟨k + 1, by simp, by omega, by omega, hz, (hBB _ _).trans (hB2.mono (hBB _ _).size)⟩
        · have hrb : (r == 0) = false := by simpa using hr0
          have hz : Hid (r = R) := by have := hst2.out; rw [if_neg hr0] at this; exact this.symm
          clear hst2 hr0
          go_wp2_with (refine Calls.mono (hC2.out _) ?_; rintro e w' ⟨rfl, hB2⟩)
          go_ret
          exact ⟨by rw [hz.out]; rfl, (hBB _ _).trans (hB2.mono (hBB _ _).size)⟩
      · have hkI2 : ((k : Int) ≥ (p : Int)) := by omega
        have hend := lexC_ends (l := l) (m := m) (k := k) (Or.inr (by have := hP.out; omega)) (by have := hN.out; omega) (by have := hP.out; omega)
        rw [hI.out, hN.out, hP.out, if_neg (by omega), if_pos (by omega)] at hend
        have hE : Hid (R = 1) := hend
        clear hend
        go_wp2_with fail
        go_ret
        exact ⟨by rw [hE.out]; rfl, hB.alloc hB.size _⟩
    · have hkI : ¬ (k : Int) < (n : Int) := by omega
      have hend := lexC_ends (l := l) (m := m) (k := k) (Or.inl (by have := hN.out; omega)) (by have := hN.out; omega) (by have := hP.out; omega)
      rw [hI.out, hN.out, hP.out] at hend
      by_cases hnp : n < p
      · rw [if_pos hnp] at hend
        have hE : Hid (R = -1) := hend
        clear hend
        go_wp2_with fail
        go_ret
        exact ⟨by rw [hE.out]; rfl, hB⟩
      · rw [if_neg hnp, if_neg (by omega)] at hend
        have hE : Hid (R = 0) := hend
        clear hend
        go_wp2_with fail
        go_ret
        exact ⟨by rw [hE.out]; rfl, hB⟩
end Go.Proofs.YtpbcbpiolhjlhaaGreatDoor


namespace Go.Proofs.YtpbcbpiolhjlhaaGreatDoor
open Go.RowKit
set_option linter.unusedVariables false
set_option linter.unusedSimpArgs false
/-- a series that lies in memory. -/
def SerIn (w : World) (a : Option Addr) (s : SerP) : Prop := TgIn w a s.t ∧ s.t.length ≤ 9223372036854775807
set_option maxRecDepth 100000 in
set_option maxHeartbeats 4000000 in
theorem compare_any (a b : Option Addr) (c1 c2 : Nat) (s t : SerP) (w : World) (ha : SerIn w a s) (hb : SerIn w b t) :
    Calls Tryz.prog 70 #[.agg #[.string s.m, .slice a s.t.length c1, .string s.f], .agg #[.string t.m, .slice b t.t.length c2, .string t.f]] w fun e w' => e = .returned (.int .i64 (serC s t)) ∧ Below w.heap.size w w' := by
  obtain ⟨sm, st, sf⟩ := s
  obtain ⟨tm, tt, tf⟩ := t
  simp only at ha hb ⊢
  obtain ⟨ha, hl⟩ := ha
  obtain ⟨hb, hm⟩ := hb
  simp only at ha hb hl hm
  have B2 : ∀ o1 o2, Below w.heap.size w ((w.alloc o1).alloc o2) := fun o1 o2 => ((Below.refl _ w).alloc (Nat.le_refl _) o1).alloc (by simp) o2
  have cM : Hid (∀ W, Calls Tryz.prog 84 #[.string sm, .string tm] W fun e w' => e = .returned (.int .i64 (strC sm tm)) ∧ w' = W) := fun W => Tryz.strings_Compare sm tm W
  have cF : Hid (∀ W, Calls Tryz.prog 84 #[.string sf, .string tf] W fun e w' => e = .returned (.int .i64 (strC sf tf)) ∧ w' = W) := fun W => Tryz.strings_Compare sf tf W
  have cT : Hid (Calls Tryz.prog 85 #[.slice a st.length c1, .slice b tt.length c2, .func (.func 86) #[] #[]] ((w.alloc (.cells #[.string sm, .slice a st.length c1, .string sf] 68)).alloc (.cells #[.string tm, .slice b tt.length c2, .string tf] 68)) fun e w' => e = .returned (.int .i64 (tagsC st tt)) ∧ w'.cell? ⟨w.heap.size, 2, none⟩ = some (.string sf) ∧ w'.cell? ⟨w.heap.size + 1, 2, none⟩ = some (.string tf) ∧ Below w.heap.size w w') := by
    refine Calls.mono (compareFunc_any a b st tt c1 c2 _ hl hm (ha.below (B2 _ _)) (hb.below (B2 _ _))) ?_
    rintro e w' ⟨rfl, hb2⟩
    refine ⟨rfl, ?_, ?_, (B2 _ _).trans (hb2.mono (B2 _ _).size)⟩
    · rw [hb2.cell (p := ⟨w.heap.size, 2, none⟩) (by simp; omega)]; simp [go_sem]
    · rw [hb2.cell (p := ⟨w.heap.size + 1, 2, none⟩) (by simp)]; simp [go_sem]
  unfold serC pairC
  simp only
  generalize strC sm tm = r at cM ⊢
  generalize strC sf tf = q at cF ⊢
  generalize tagsC st tt = x at cT ⊢
  generalize st.length = n at cT hl ⊢
  generalize tt.length = p at cT hm ⊢
  by_cases h : r = 0
  · subst h
    rw [if_pos rfl]
    by_cases h2 : x = 0
    · subst h2
      rw [if_pos rfl]
      go_enter Tryz.func70, Tryz.ntmps70
      go_wp2_with (first | (go_at_call 84; with_reducible refine Calls.mono (cM.out _) ?_; clear cM; rintro e w' ⟨rfl, rfl⟩) | (go_at_call 85; with_reducible refine Calls.mono cT.out ?_; rintro e w' ⟨rfl, k1, k2, hb2⟩) | (go_at_call 84; with_reducible refine Calls.mono (cF.out _) ?_; rintro e w' ⟨rfl, rfl⟩))
      go_ret
      exact ⟨rfl, hb2⟩
    · have hx : (x == 0) = false := by simpa using h2
      rw [if_neg h2]
      clear h2
      go_enter Tryz.func70, Tryz.ntmps70
      go_wp2_with (first | (go_at_call 84; with_reducible refine Calls.mono (cM.out _) ?_; clear cM; rintro e w' ⟨rfl, rfl⟩) | (go_at_call 85; with_reducible refine Calls.mono cT.out ?_; rintro e w' ⟨rfl, k1, k2, hb2⟩) | (go_at_call 84; with_reducible refine Calls.mono (cF.out _) ?_; rintro e w' ⟨rfl, rfl⟩))
      go_ret
      exact ⟨rfl, hb2⟩
  · have hx : (r == 0) = false := by simpa using h
    rw [if_neg h]
    clear h
    go_enter Tryz.func70, Tryz.ntmps70
    go_wp2_with (first | (go_at_call 84; with_reducible refine Calls.mono (cM.out _) ?_; clear cM; rintro e w' ⟨rfl, rfl⟩) | (go_at_call 85; with_reducible refine Calls.mono cT.out ?_; rintro e w' ⟨rfl, k1, k2, hb2⟩) | (go_at_call 84; with_reducible refine Calls.mono (cF.out _) ?_; rintro e w' ⟨rfl, rfl⟩))
    go_ret
    exact ⟨rfl, B2 _ _⟩
set_option maxRecDepth 100000 in
theorem texts_any (a b : ByteArray) (w : World) : Calls Tryz.prog 113 #[.string a, .string b] w fun e w' => e = .returned (.int .i64 (strC a b)) ∧ w' = w := by
  have h1 := less_str a b
  have h2 := same_str a b
  obtain ⟨r, hr⟩ : ∃ r, strC a b = r := ⟨_, rfl⟩
  have hrg := strC_is.range a b
  rw [hr] at h1 h2 hrg ⊢
  clear hr
  rcases hrg with h | h | h
  · subst h
    have g1 : Op.bytesLess a.toList b.toList = true := by rw [h1]; decide
    clear h1 h2
    go_enter Tryz.func113, Tryz.ntmps113
    go_wp2_with fail
    go_ret
    exact ⟨rfl, rfl⟩
  · subst h
    have g1 : Op.bytesLess a.toList b.toList = false := by rw [h1]; decide
    have g2 : (a.toList == b.toList) = true := by rw [h2]; decide
    clear h1 h2
    go_enter Tryz.func113, Tryz.ntmps113
    go_wp2_with fail
    go_ret
    exact ⟨rfl, rfl⟩
  · subst h
    have g1 : Op.bytesLess a.toList b.toList = false := by rw [h1]; decide
    have g2 : (a.toList == b.toList) = false := by rw [h2]; decide
    clear h1 h2
    go_enter Tryz.func113, Tryz.ntmps113
    go_wp2_with fail
    go_ret
    exact ⟨rfl, rfl⟩
theorem bdrewN {B : Nat} {a w : World} (h : Below B a w) : ∀ q, Below B a (w.drewN q)
  | 0 => h
  | q + 1 => (bdrewN h q).drew
set_option maxRecDepth 100000 in
set_option maxHeartbeats 4000000 in
theorem ctags_any (a b : Option Addr) (l m : List TagP) (c1 c2 : Nat) (w : World) (hl : l.length ≤ 9223372036854775807) (hm : m.length ≤ 9223372036854775807) (ha : TgIn w a l) (hb : TgIn w b m) :
    Calls Tryz.prog 114 #[.slice a l.length c1, .slice b m.length c2] w fun e w' => e = .returned (.int .i64 (tagsC l m)) ∧ Below w.heap.size w w' := by
  have hC : Hid (∀ (t u : ByteArray) (W : World), Calls Tryz.prog 113 #[.string t, .string u] W fun e w' => e = .returned (.int .i64 (strC t u)) ∧ w' = W) := fun t u W => texts_any t u W
  have hA : Hid (TgIn w a l) := ha
  have hBb : Hid (TgIn w b m) := hb
  clear ha hb
  obtain ⟨R, hR⟩ : ∃ R, tagsC l m = R := ⟨_, rfl⟩
  have hR0 : Hid (lexC tagC (l.drop 0) (m.drop 0) = R) := hR
  rw [hR]
  clear hR
  obtain ⟨n, hn⟩ : ∃ n, l.length = n := ⟨_, rfl⟩
  obtain ⟨p, hp⟩ : ∃ p, m.length = p := ⟨_, rfl⟩
  have hN : Hid (l.length = n) := hn
  have hP : Hid (m.length = p) := hp
  rw [hn] at hl ⊢
  rw [hp] at hm ⊢
  clear hn hp
  go_enter Tryz.func114, Tryz.ntmps114
  go_wp2_with fail
  go_loopw [5] (fun i wr => ∃ k : Nat, i = .int .i64 (k : Int) ∧ k ≤ n ∧ k ≤ p ∧ Hid (lexC tagC (l.drop k) (m.drop k) = R) ∧ Below w.heap.size w wr) (fun i _ => n - (intOf i).toNat)
  case atStart => exact ⟨0, rfl, by omega, by omega, hR0, Below.refl _ _⟩
  case round =>
    obtain ⟨k, rfl, hkn, hkp, hI, hB⟩ := hrel
    by_cases hk : k < n ∧ k < p
    · obtain ⟨hk, hk2⟩ := hk
      have hkI : (k : Int) < (n : Int) := by omega
      have hkI2 : (k : Int) < (p : Int) := by omega
      have hk1 : IntKind.i64.wrap ((k : Int) + 1) = (k : Int) + 1 := IntWalk.i64_in _ (by omega)
      obtain ⟨t, ht⟩ : ∃ t, l[k]? = some t := ⟨_, List.getElem?_eq_getElem (by have := hN.out; omega)⟩
      obtain ⟨b1, o1, rfl, hb1, t1, t2⟩ := hA.out.at hB ht
      obtain ⟨u, hu⟩ : ∃ u, m[k]? = some u := ⟨_, List.getElem?_eq_getElem (by have := hP.out; omega)⟩
      obtain ⟨b2, o2, rfl, hb2, u1, u2⟩ := hBb.out.at hB hu
      have hst := lexC_step ht hu
      rw [hI.out] at hst
      have hst2 : Hid (R = if tagC t u = 0 then lexC tagC (l.drop (k + 1)) (m.drop (k + 1)) else tagC t u) := hst
      clear hst ht hu
      obtain ⟨ta, tb⟩ := t
      obtain ⟨ua, ub⟩ := u
      simp only at t1 t2 u1 u2
      have cK : Hid (∀ (W : World), Calls Tryz.prog 113 #[.string ta, .string ua] W fun e w' => e = .returned (.int .i64 (strC ta ua)) ∧ w' = W) := fun W => texts_any _ _ W
      have cV : Hid (∀ (W : World), Calls Tryz.prog 113 #[.string tb, .string ub] W fun e w' => e = .returned (.int .i64 (strC tb ub)) ∧ w' = W) := fun W => texts_any _ _ W
      unfold tagC pairC at hst2
      simp only at hst2
      generalize strC ta ua = r at hst2 cK
      generalize strC tb ub = q at hst2 cV
      by_cases hr0 : r = 0
      · by_cases hq0 : q = 0
        · have hz : Hid (lexC tagC (l.drop (k + 1)) (m.drop (k + 1)) = R) := by have := hst2.out; rw [if_pos hr0, if_pos hq0] at this; exact this.symm
          clear hst2
          subst hr0 hq0
          go_wp2_with fail
          go_quiet ((go_at_call 113; exact Calls.quiet_of_same (cK.out _)))
          go_wp2_with fail
          generalize hwq : World.drewN wr _ = wq
          have hBq : Below w.heap.size w wq := hwq ▸ bdrewN hB _
          have t2q : wq.cell? ⟨b1, o1 + k * 2 + 1, none⟩ = some (.string tb) := by rw [← hwq]; exact t2
          have u2q : wq.cell? ⟨b2, o2 + k * 2 + 1, none⟩ = some (.string ub) := by rw [← hwq]; exact u2
          clear hwq t1 t2 u1 u2
          go_quiet ((go_at_call 113; exact Calls.quiet_of_same (cV.out _)))
          go_wp2_with fail
          go_round
          case measure => simp only [intOf]; omega
          case rel => exact ⟨k + 1, by simp, by omega, by omega, hz, bdrewN hBq _⟩
        · have hqb : (q == 0) = false := by simpa using hq0
          have hz : Hid (q = R) := by have := hst2.out; rw [if_pos hr0, if_neg hq0] at this; exact this.symm
          clear hst2 hq0
          subst hr0
          go_wp2_with fail
          go_quiet ((go_at_call 113; exact Calls.quiet_of_same (cK.out _)))
          go_wp2_with fail
          generalize hwq : World.drewN wr _ = wq
          have hBq : Below w.heap.size w wq := hwq ▸ bdrewN hB _
          have t2q : wq.cell? ⟨b1, o1 + k * 2 + 1, none⟩ = some (.string tb) := by rw [← hwq]; exact t2
          have u2q : wq.cell? ⟨b2, o2 + k * 2 + 1, none⟩ = some (.string ub) := by rw [← hwq]; exact u2
          clear hwq t1 t2 u1 u2
          go_quiet ((go_at_call 113; exact Calls.quiet_of_same (cV.out _)))
          go_wp2_with fail
          go_ret
          exact ⟨by rw [hz.out]; rfl, by first | exact bdrewN hBq _ | exact bdrewN hB _⟩
      · have hrb : (r == 0) = false := by simpa using hr0
        have hz : Hid (r = R) := by have := hst2.out; rw [if_neg hr0, if_neg hr0] at this; exact this.symm
        clear hst2 hr0
        go_wp2_with fail
        go_quiet ((go_at_call 113; exact Calls.quiet_of_same (cK.out _)))
        go_wp2_with fail
        go_ret
        exact ⟨by rw [hz.out]; rfl, by first | exact bdrewN hBq _ | exact bdrewN hB _⟩
    · have hend := lexC_ends (l := l) (m := m) (k := k) (by have := hN.out; have := hP.out; omega) (by have := hN.out; omega) (by have := hP.out; omega)
      rw [hI.out, hN.out, hP.out] at hend
      have hE : Hid (R = if n < p then -1 else if p < n then 1 else 0) := hend
      clear hend
      rcases Nat.lt_or_ge k n with hkn2 | hkn2
      · have hkI : (k : Int) < (n : Int) := by omega
        have hkI2 : ¬ (k : Int) < (p : Int) := by omega
        have hE2 : Hid (R = 1) := by have := hE.out; rw [if_neg (by omega), if_pos (by omega)] at this; exact this
        have hnp : ¬ (n : Int) < (p : Int) := by omega
        have hnp2 : (n : Int) > (p : Int) := by omega
        clear hk hE
        go_wp2_with fail
        go_ret
        exact ⟨by rw [hE2.out]; rfl, hB⟩
      · have hkI : ¬ (k : Int) < (n : Int) := by omega
        rcases Nat.lt_or_ge n p with h | h
        · have hE2 : Hid (R = -1) := by have := hE.out; rw [if_pos (by omega)] at this; exact this
          have hnp : (n : Int) < (p : Int) := by omega
          clear hk hE
          go_wp2_with fail
          go_ret
          exact ⟨by rw [hE2.out]; rfl, hB⟩
        · have hE2 : Hid (R = 0) := by have := hE.out; rw [if_neg (by omega), if_neg (by omega)] at this; exact this
          have hnp : ¬ (n : Int) < (p : Int) := by omega
          have hnp2 : ¬ (n : Int) > (p : Int) := by omega
          clear hk hE
          go_wp2_with fail
          go_ret
          exact ⟨by rw [hE2.out]; rfl, hB⟩
set_option maxRecDepth 100000 in
set_option maxHeartbeats 4000000 in
theorem rcompare_any (a b : Option Addr) (c1 c2 : Nat) (s t : SerP) (w : World) (ha : SerIn w a s) (hb : SerIn w b t) :
    Calls Tryz.prog 98 #[.agg #[.string s.m, .slice a s.t.length c1, .string s.f], .agg #[.string t.m, .slice b t.t.length c2, .string t.f]] w fun e w' => e = .returned (.int .i64 (serC s t)) ∧ Below w.heap.size w w' := by
  obtain ⟨sm, st, sf⟩ := s
  obtain ⟨tm, tt, tf⟩ := t
  simp only at ha hb ⊢
  obtain ⟨ha, hl⟩ := ha
  obtain ⟨hb, hm⟩ := hb
  simp only at ha hb hl hm
  have B2 : ∀ o1 o2, Below w.heap.size w ((w.alloc o1).alloc o2) := fun o1 o2 => ((Below.refl _ w).alloc (Nat.le_refl _) o1).alloc (by simp) o2
  have cM : Hid (∀ W, Calls Tryz.prog 113 #[.string sm, .string tm] W fun e w' => e = .returned (.int .i64 (strC sm tm)) ∧ w' = W) := fun W => texts_any sm tm W
  have cF : Hid (∀ W, Calls Tryz.prog 113 #[.string sf, .string tf] W fun e w' => e = .returned (.int .i64 (strC sf tf)) ∧ w' = W) := fun W => texts_any sf tf W
  have cT : Hid (Calls Tryz.prog 114 #[.slice a st.length c1, .slice b tt.length c2] ((w.alloc (.cells #[.string sm, .slice a st.length c1, .string sf] 68)).alloc (.cells #[.string tm, .slice b tt.length c2, .string tf] 68)) fun e w' => e = .returned (.int .i64 (tagsC st tt)) ∧ w'.cell? ⟨w.heap.size, 2, none⟩ = some (.string sf) ∧ w'.cell? ⟨w.heap.size + 1, 2, none⟩ = some (.string tf) ∧ Below w.heap.size w w') := by
    refine Calls.mono (ctags_any a b st tt c1 c2 _ hl hm (ha.below (B2 _ _)) (hb.below (B2 _ _))) ?_
    rintro e w' ⟨rfl, hb2⟩
    refine ⟨rfl, ?_, ?_, (B2 _ _).trans (hb2.mono (B2 _ _).size)⟩
    · rw [hb2.cell (p := ⟨w.heap.size, 2, none⟩) (by simp; omega)]; simp [go_sem]
    · rw [hb2.cell (p := ⟨w.heap.size + 1, 2, none⟩) (by simp)]; simp [go_sem]
  unfold serC pairC
  simp only
  generalize strC sm tm = r at cM ⊢
  generalize strC sf tf = q at cF ⊢
  generalize tagsC st tt = x at cT ⊢
  generalize st.length = n at cT hl ⊢
  generalize tt.length = p at cT hm ⊢
  by_cases h : r = 0
  · subst h
    rw [if_pos rfl]
    by_cases h2 : x = 0
    · subst h2
      rw [if_pos rfl]
      go_enter Tryz.func98, Tryz.ntmps98
      go_wp2_with (first | (go_at_call 113; with_reducible refine Calls.mono (cM.out _) ?_; clear cM; rintro e w' ⟨rfl, rfl⟩) | (go_at_call 114; with_reducible refine Calls.mono cT.out ?_; rintro e w' ⟨rfl, k1, k2, hb2⟩) | (go_at_call 113; with_reducible refine Calls.mono (cF.out _) ?_; rintro e w' ⟨rfl, rfl⟩))
      go_ret
      exact ⟨rfl, hb2⟩
    · have hx : (x == 0) = false := by simpa using h2
      rw [if_neg h2]
      clear h2
      go_enter Tryz.func98, Tryz.ntmps98
      go_wp2_with (first | (go_at_call 113; with_reducible refine Calls.mono (cM.out _) ?_; clear cM; rintro e w' ⟨rfl, rfl⟩) | (go_at_call 114; with_reducible refine Calls.mono cT.out ?_; rintro e w' ⟨rfl, k1, k2, hb2⟩) | (go_at_call 113; with_reducible refine Calls.mono (cF.out _) ?_; rintro e w' ⟨rfl, rfl⟩))
      go_ret
      exact ⟨rfl, hb2⟩
  · have hx : (r == 0) = false := by simpa using h
    rw [if_neg h]
    clear h
    go_enter Tryz.func98, Tryz.ntmps98
    go_wp2_with (first | (go_at_call 113; with_reducible refine Calls.mono (cM.out _) ?_; clear cM; rintro e w' ⟨rfl, rfl⟩) | (go_at_call 114; with_reducible refine Calls.mono cT.out ?_; rintro e w' ⟨rfl, k1, k2, hb2⟩) | (go_at_call 113; with_reducible refine Calls.mono (cF.out _) ?_; rintro e w' ⟨rfl, rfl⟩))
    go_ret
    exact ⟨rfl, B2 _ _⟩
end Go.Proofs.YtpbcbpiolhjlhaaGreatDoor


namespace Go.Proofs.YtpbcbpiolhjlhaaGreatDoor.So
open Go.RowKit
set_option linter.unusedVariables false
set_option linter.unusedSimpArgs false
theorem OB.drew {b : Nat} {w w' : World} (h : OB b w w') : OB b w w'.drew := ⟨h.size, h.keep, h.shp, h.same⟩
set_option maxRecDepth 100000 in
set_option maxHeartbeats 2000000 in
theorem swapR_any (b off n cap : Nat) (F : Nat → Tg) (x y m : Nat) (fv : Value) (w : World) (h : TR w b off n F) (hx : x + m ≤ y) (hy : y + m ≤ n) (hn : n ≤ 4611686018427387904) :
    Calls Tryz.prog 121 #[.slice (some ⟨b, off, none⟩) n cap, .int .i64 (x : Int), .int .i64 (y : Int), .int .i64 (m : Int), fv] w fun e w' => e = .returned undef ∧ TR w' b off n (swR F x y m) ∧ OB b w w' := by
  have H0 : Hid (TR w b off n F) := h
  clear h
  go_enter Tryz.func121, Tryz.ntmps121
  go_wp2_with fail
  go_loopw [10] (fun i wr => ∃ k : Nat, k ≤ m ∧ i = .int .i64 (k : Int) ∧ TR wr b off n (swR F x y k) ∧ OB b w wr) (fun i _ => m - (intOf i).toNat)
  case atStart => exact ⟨0, Nat.zero_le _, rfl, by rw [swR_zero]; exact H0.out, OB.refl _ _⟩
  case round =>
    clear H0
    obtain ⟨k, hk, rfl, hT, hO⟩ := hrel
    by_cases hkm : k < m
    · have hkI : (k : Int) < (m : Int) := by omega
      have e := swR_succ F x y k (by omega)
      generalize swR F x y k = G at hT e
      obtain ⟨⟨a1, a2⟩, a3, a4⟩ := hT.2 (x + k) (by omega)
      obtain ⟨⟨b1, b2⟩, b3, b4⟩ := hT.2 (y + k) (by omega)
      have w1 : IntKind.i64.wrap ((x : Int) + (k : Int)) = (x : Int) + (k : Int) := IntWalk.i64_in _ (by omega)
      have w2 : IntKind.i64.wrap ((y : Int) + (k : Int)) = (y : Int) + (k : Int) := IntWalk.i64_in _ (by omega)
      have i1 : (0 : Int) ≤ (x : Int) + (k : Int) := by omega
      have i2 : (x : Int) + (k : Int) < (n : Int) := by omega
      have j1 : (0 : Int) ≤ (y : Int) + (k : Int) := by omega
      have j2 : (y : Int) + (k : Int) < (n : Int) := by omega
      have ij : ¬ x + k = y + k := by omega
      have ij2 : ¬ y + k = x + k := by omega
      have q1 : ¬ off + (x + k) * 2 = off + (y + k) * 2 := by omega
      have q2 : ¬ off + (x + k) * 2 = off + (y + k) * 2 + 1 := by omega
      have q3 : ¬ off + (x + k) * 2 + 1 = off + (y + k) * 2 := by omega
      have q4 : ¬ off + (x + k) * 2 + 1 = off + (y + k) * 2 + 1 := by omega
      have hTH : Hid _ := hT
      have hOH : Hid _ := hO
      have eH : Hid _ := e
      clear hT hO e
      go_wp2_with fail
      go_region
      have hT2 : TR ((((wr.setCell ⟨b, off + (x + k) * 2, none⟩ (.string (G (y + k)).1)).setCell ⟨b, off + (x + k) * 2 + 1, none⟩ (.string (G (y + k)).2)).setCell ⟨b, off + (y + k) * 2, none⟩ (.string (G (x + k)).1)).setCell ⟨b, off + (y + k) * 2 + 1, none⟩ (.string (G (x + k)).2)) b off n (swR F x y (k + 1)) := by
        rw [← eH.out, sw_upd2]
        exact TR.set (TR.set (show TR wr b off n G from hTH.out) (show x + k < n by omega) _ _) (show y + k < n by omega) _ _
      have hO2 : OB b w ((((wr.setCell ⟨b, off + (x + k) * 2, none⟩ (.string (G (y + k)).1)).setCell ⟨b, off + (x + k) * 2 + 1, none⟩ (.string (G (y + k)).2)).setCell ⟨b, off + (y + k) * 2, none⟩ (.string (G (x + k)).1)).setCell ⟨b, off + (y + k) * 2 + 1, none⟩ (.string (G (x + k)).2)) := (((hOH.out.trans (OB.set _ _ _)).trans (OB.set _ _ _)).trans (OB.set _ _ _)).trans (OB.set _ _ _)
      generalize ((((wr.setCell ⟨b, off + (x + k) * 2, none⟩ (.string (G (y + k)).1)).setCell ⟨b, off + (x + k) * 2 + 1, none⟩ (.string (G (y + k)).2)).setCell ⟨b, off + (y + k) * 2, none⟩ (.string (G (x + k)).1)).setCell ⟨b, off + (y + k) * 2 + 1, none⟩ (.string (G (x + k)).2)) = W2 at hT2 hO2 ⊢
      have kw : IntKind.i64.wrap ((k : Int) + 1) = ((k + 1 : Nat) : Int) := IntWalk.i64_in _ (by omega)
      have hT2H : Hid (TR W2 b off n (swR F x y (k + 1))) := hT2
      have hO2H : Hid (OB b w W2) := hO2
      clear hT2 hO2 hTH hOH eH a1 a2 a3 a4 b1 b2 b3 b4
      go_wp2_with fail
      exact ⟨⟨k + 1, by omega, by first | rfl | simp, hT2H.out, hO2H.out.drew⟩, by simp [intOf]; omega⟩
    · have hke : k = m := by omega
      subst hke
      have hn2 : ¬ (k : Int) < (k : Int) := by omega
      have hTH : Hid _ := hT
      have hOH : Hid _ := hO
      clear hT hO
      go_wp2_with fail
      go_end0
      exact ⟨rfl, hTH.out, hOH.out⟩
set_option maxRecDepth 100000 in
set_option maxHeartbeats 2000000 in
theorem rotate_any (b off n cap : Nat) (F : Nat → Tg) (x m y : Nat) (fv : Value) (w : World) (h : TR w b off n F) (hx : x < m) (hy : m < y) (hyn : y ≤ n) (hn : n ≤ 4611686018427387904) :
    Calls Tryz.prog 115 #[.slice (some ⟨b, off, none⟩) n cap, .int .i64 (x : Int), .int .i64 (m : Int), .int .i64 (y : Int), fv] w fun e w' => e = .returned undef ∧ TR w' b off n (rot F x m y) ∧ OB b w w' := by
  have H0 : Hid (TR w b off n F) := h
  have z1 : IntKind.i64.wrap ((m : Int) - (x : Int)) = (m : Int) - (x : Int) := IntWalk.i64_in _ (by omega)
  have z2 : IntKind.i64.wrap ((y : Int) - (m : Int)) = (y : Int) - (m : Int) := IntWalk.i64_in _ (by omega)
  clear h
  go_enter Tryz.func115, Tryz.ntmps115
  go_wp2_with fail
  go_loopw [10, 11] (fun vi vj wr => ∃ (i j : Nat) (G : Nat → Tg), vi = .int .i64 (i : Int) ∧ vj = .int .i64 (j : Int) ∧ 0 < i ∧ 0 < j ∧ x + i ≤ m ∧ m + j ≤ y ∧ rot G (m - i) m (m + j) = rot F x m y ∧ TR wr b off n G ∧ OB b w wr) (fun vi vj _ => (intOf vi).toNat + (intOf vj).toNat)
  case atStart => exact ⟨m - x, y - m, F, by congr 1; omega, by congr 1; omega, by omega, by omega, by omega, by omega, by rw [show m - (m - x) = x by omega, show m + (y - m) = y by omega], H0.out, OB.refl _ _⟩
  case round =>
    clear H0 z1 z2
    obtain ⟨i, j, G, rfl, rfl, i0, j0, hi, hj, hr, hT, hO⟩ := hrel
    have hTH : Hid (TR wr b off n G) := hT
    have hOH : Hid (OB b w wr) := hO
    have hrH : Hid (rot G (m - i) m (m + j) = rot F x m y) := hr
    clear hT hO hr
    have v1 : IntKind.i64.wrap ((m : Int) - (i : Int)) = (m : Int) - (i : Int) := IntWalk.i64_in _ (by omega)
    have v2 : IntKind.i64.wrap ((m : Int) + (j : Int)) = (m : Int) + (j : Int) := IntWalk.i64_in _ (by omega)
    have v3 : IntKind.i64.wrap ((m : Int) + (j : Int) - (i : Int)) = (m : Int) + (j : Int) - (i : Int) := IntWalk.i64_in _ (by omega)
    rcases Nat.lt_trichotomy i j with c | c | c
    · have c1 : ((i : Int) == (j : Int)) = false := by rw [beq_eq_false_iff_ne]; omega
      have c2 : ¬ (j : Int) < (i : Int) := by omega
      have C : Hid (Calls Tryz.prog 121 #[.slice (some ⟨b, off, none⟩) n cap, .int .i64 ((m : Int) - (i : Int)), .int .i64 ((m : Int) + (j : Int) - (i : Int)), .int .i64 (i : Int), fv] wr fun e w' => e = .returned undef ∧ TR w' b off n (swR G (m - i) (m + j - i) i) ∧ OB b wr w') := by
        have := swapR_any b off n cap G (m - i) (m + j - i) i fv wr hTH.out (by omega) (by omega) hn
        rw [show ((m - i : Nat) : Int) = (m : Int) - (i : Int) by omega, show ((m + j - i : Nat) : Int) = (m : Int) + (j : Int) - (i : Int) by omega] at this
        exact this
      go_wp2_with fail
      refine Calls.mono C.out ?_
      rintro e w2 ⟨rfl, T2, O2⟩
      have T2H : Hid _ := T2
      have v4 : IntKind.i64.wrap ((j : Int) - (i : Int)) = (j : Int) - (i : Int) := IntWalk.i64_in _ (by omega)
      have r2 : Hid (rot (swR G (m - i) (m + j - i) i) (m - i) m (m + (j - i)) = rot F x m y) := by
        show _ = _
        rw [← hrH.out]
        have := rot_less G (a := m - i) (m := m) (b := m + j) (by omega) (by omega) (by omega)
        rw [show m - (m - i) = i by omega] at this
        rw [show m + (j - i) = m + j - i by omega]; exact this
      clear T2 C
      go_wp2_with fail
      exact ⟨⟨i, j - i, _, by rfl, by congr 1; omega, by omega, by omega, by omega, by omega, r2.out, T2H.out, hOH.out.trans O2⟩, by simp [intOf]; omega⟩
    · subst c
      have c1 : ((i : Int) == (i : Int)) = true := by simp
      have C : Hid (Calls Tryz.prog 121 #[.slice (some ⟨b, off, none⟩) n cap, .int .i64 ((m : Int) - (i : Int)), .int .i64 (m : Int), .int .i64 (i : Int), fv] wr fun e w' => e = .returned undef ∧ TR w' b off n (swR G (m - i) m i) ∧ OB b wr w') := by
        have := swapR_any b off n cap G (m - i) m i fv wr hTH.out (by omega) (by omega) hn
        rw [show ((m - i : Nat) : Int) = (m : Int) - (i : Int) by omega] at this
        exact this
      have r2 : Hid (swR G (m - i) m i = rot F x m y) := by
        show _ = _
        rw [← hrH.out]
        have := rot_even G (a := m - i) (m := m) (b := m + i) (by omega) (by omega) (by omega)
        rw [show m - (m - i) = i by omega] at this
        exact this
      go_wp2_with fail
      refine Calls.mono C.out ?_
      rintro e w2 ⟨rfl, T2, O2⟩
      have T2H : Hid _ := T2
      clear T2 C
      go_wp2_with fail
      go_end0
      exact ⟨rfl, by rw [← r2.out]; exact T2H.out, hOH.out.trans O2⟩
    · have c1 : ((i : Int) == (j : Int)) = false := by rw [beq_eq_false_iff_ne]; omega
      have c2 : (j : Int) < (i : Int) := by omega
      have C : Hid (Calls Tryz.prog 121 #[.slice (some ⟨b, off, none⟩) n cap, .int .i64 ((m : Int) - (i : Int)), .int .i64 (m : Int), .int .i64 (j : Int), fv] wr fun e w' => e = .returned undef ∧ TR w' b off n (swR G (m - i) m j) ∧ OB b wr w') := by
        have := swapR_any b off n cap G (m - i) m j fv wr hTH.out (by omega) (by omega) hn
        rw [show ((m - i : Nat) : Int) = (m : Int) - (i : Int) by omega] at this
        exact this
      go_wp2_with fail
      refine Calls.mono C.out ?_
      rintro e w2 ⟨rfl, T2, O2⟩
      have T2H : Hid _ := T2
      have v4 : IntKind.i64.wrap ((i : Int) - (j : Int)) = (i : Int) - (j : Int) := IntWalk.i64_in _ (by omega)
      have r2 : Hid (rot (swR G (m - i) m j) (m - (i - j)) m (m + j) = rot F x m y) := by
        show _ = _
        rw [← hrH.out]
        have := rot_more G (a := m - i) (m := m) (b := m + j) (by omega) (by omega) (by omega)
        rw [show m + j - m = j by omega] at this
        rw [show m - (i - j) = m - i + j by omega]; exact this
      clear T2 C
      go_wp2_with fail
      exact ⟨⟨i - j, j, _, by congr 1; omega, by rfl, by omega, by omega, by omega, by omega, r2.out, T2H.out, hOH.out.trans O2⟩, by simp [intOf]; omega⟩
end Go.Proofs.YtpbcbpiolhjlhaaGreatDoor.So
