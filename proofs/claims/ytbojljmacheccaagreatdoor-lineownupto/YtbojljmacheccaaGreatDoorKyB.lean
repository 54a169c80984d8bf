
import Derived.Test.YtbojljmacheccaaGreatDoorProg
import Derived.Test.YtbojljmacheccaaGreatDoorShelf
import Derived.Test.YtbojljmacheccaaGreatDoorKyA
import Derived.WalkKit
import Derived.Laws.BitsAllLaws
import Derived.BigQuiet
import Derived.Laws.OwnMore
import Derived.Deep.AppendLies
import Derived.OwnWalk
import Derived.LoopTactic
import Derived.Below
import Derived.Deep.RegionHeld3
import Derived.WalkLawsBesides
namespace Go.Proofs.YtbojljmacheccaaGreatDoor
open Go.RowKit
set_option linter.unusedVariables false
set_option linter.unusedSimpArgs false
/-- tags that lie in memory. -/
def TgIn (w : World) (a : Option Addr) (l : List TagP) : Prop := l = [] ∨ ∃ b off, a = some ⟨b, off, none⟩ ∧ b < w.heap.size ∧ ∀ i t, l[i]? = some t → w.cell? ⟨b, off + i * 2, none⟩ = some (.string t.1) ∧ w.cell? ⟨b, off + i * 2 + 1, none⟩ = some (.string t.2)
theorem TgIn.below {w w' : World} {a : Option Addr} {l : List TagP} (h : TgIn w a l) (hB : Below w.heap.size w w') : TgIn w' a l := by
  rcases h with h | ⟨b, off, ha, hb, hc⟩
  · exact Or.inl h
  · refine Or.inr ⟨b, off, ha, by have := hB.size; omega, fun i t ht => ?_⟩
    rw [hB.cell (p := ⟨b, off + i * 2, none⟩) hb, hB.cell (p := ⟨b, off + i * 2 + 1, none⟩) hb]
    exact hc i t ht
def tagV (t : TagP) : Value := .agg #[.string t.1, .string t.2]
def twoT (w : World) (a1 a2 b1 b2 : ByteArray) : World := (w.alloc (.cells #[.string a1, .string a2] 102)).alloc (.cells #[.string b1, .string b2] 102)
theorem twoT_below (w : World) (a1 a2 b1 b2 : ByteArray) : Below w.heap.size w (twoT w a1 a2 b1 b2) := ((Below.refl _ w).alloc (Nat.le_refl _) _).alloc (by simp) _
set_option maxRecDepth 100000 in
theorem compareKeys_any (a1 a2 b1 b2 : ByteArray) (w : World) : Calls Tryz.prog 85 #[.agg #[.string a1, .string a2], .agg #[.string b1, .string b2]] w fun e w' => e = .returned (.int .i64 (strC a1 b1)) ∧ w' = (w.alloc (.cells #[.string a1, .string a2] 102)).alloc (.cells #[.string b1, .string b2] 102) := by
  have c : Hid (∀ W, Calls Tryz.prog 97 #[.string a1, .string b1] W fun e w' => e = .returned (.int .i64 (strC a1 b1)) ∧ w' = W) := fun W => Tryz.strings_Compare a1 b1 W
  generalize strC a1 b1 = r at c ⊢
  go_enter Tryz.func85, Tryz.ntmps85
  go_wp2_with (go_at_call 97; refine Calls.mono (c.out _) ?_; rintro e w' ⟨rfl, rfl⟩)
  go_ret
  exact ⟨rfl, rfl⟩
set_option maxRecDepth 100000 in
theorem compareTags_any (a1 a2 b1 b2 : ByteArray) (w : World) : Calls Tryz.prog 99 #[.agg #[.string a1, .string a2], .agg #[.string b1, .string b2]] w fun e w' => e = .returned (.int .i64 (tagC (a1, a2) (b1, b2))) ∧ Below w.heap.size w w' := by
  have c : Hid (∀ W, Calls Tryz.prog 97 #[.string a2, .string b2] W fun e w' => e = .returned (.int .i64 (strC a2 b2)) ∧ w' = W) := fun W => Tryz.strings_Compare a2 b2 W
  have d : Hid (∀ W, Calls Tryz.prog 85 #[.agg #[.string a1, .string a2], .agg #[.string b1, .string b2]] W fun e w' => e = .returned (.int .i64 (strC a1 b1)) ∧ w' = (W.alloc (.cells #[.string a1, .string a2] 102)).alloc (.cells #[.string b1, .string b2] 102)) := fun W => compareKeys_any a1 a2 b1 b2 W
  have e4 : Below w.heap.size w ((((w.alloc (.cells #[.string a1, .string a2] 102)).alloc (.cells #[.string b1, .string b2] 102)).alloc (.cells #[.string a1, .string a2] 102)).alloc (.cells #[.string b1, .string b2] 102)) := ((((Below.refl _ w).alloc (Nat.le_refl _) _).alloc (by simp) _).alloc (by simp; omega) _).alloc (by simp; omega) _
  unfold tagC pairC
  simp only
  generalize strC a1 b1 = r at d ⊢
  generalize strC a2 b2 = q at c ⊢
  by_cases h : r = 0
  · subst h
    rw [if_pos rfl]
    go_enter Tryz.func99, Tryz.ntmps99
    go_wp2_with (first | (go_at_call 85; refine Calls.mono (d.out _) ?_; rintro e w' ⟨rfl, rfl⟩) | (go_at_call 97; refine Calls.mono (c.out _) ?_; rintro e w' ⟨rfl, rfl⟩))
    go_ret
    exact ⟨rfl, e4⟩
  · have hr : (r == 0) = false := by simpa using h
    rw [if_neg h]
    go_enter Tryz.func99, Tryz.ntmps99
    go_wp2_with (first | (go_at_call 85; refine Calls.mono (d.out _) ?_; rintro e w' ⟨rfl, rfl⟩) | (go_at_call 97; refine Calls.mono (c.out _) ?_; rintro e w' ⟨rfl, rfl⟩))
    go_ret
    exact ⟨rfl, e4⟩
theorem lexC_step {l m : List TagP} {k : Nat} {t u : TagP} (ht : l[k]? = some t) (hu : m[k]? = some u) : lexC tagC (l.drop k) (m.drop k) = if tagC t u = 0 then lexC tagC (l.drop (k + 1)) (m.drop (k + 1)) else tagC t u := by
  obtain ⟨h1, rfl⟩ := List.getElem?_eq_some_iff.1 ht
  obtain ⟨h2, rfl⟩ := List.getElem?_eq_some_iff.1 hu
  rw [List.drop_eq_getElem_cons h1, List.drop_eq_getElem_cons h2]
  rfl
theorem lexC_ends {l m : List TagP} {k : Nat} (h : l.length ≤ k ∨ m.length ≤ k) (hl : k ≤ l.length) (hm : k ≤ m.length) : lexC tagC (l.drop k) (m.drop k) = if l.length < m.length then -1 else if m.length < l.length then 1 else 0 := by
  by_cases h1 : l.length ≤ k
  · have : l.drop k = [] := List.drop_eq_nil_of_le h1
    rw [this]
    by_cases h2 : m.length ≤ k
    · rw [List.drop_eq_nil_of_le h2, if_neg (by omega), if_neg (by omega)]; rfl
    · rw [List.drop_eq_getElem_cons (by omega), if_pos (by omega)]; rfl
  · have h2 : m.length ≤ k := by omega
    rw [List.drop_eq_nil_of_le h2, List.drop_eq_getElem_cons (by omega), if_neg (by omega), if_pos (by omega)]; rfl
theorem TgIn.at {w wr : World} {a : Option Addr} {l : List TagP} (h : TgIn w a l) (hB : Below w.heap.size w wr) {k : Nat} {t : TagP} (ht : l[k]? = some t) : ∃ b off, a = some ⟨b, off, none⟩ ∧ b < w.heap.size ∧ wr.cell? ⟨b, off + k * 2, none⟩ = some (.string t.1) ∧ wr.cell? ⟨b, off + k * 2 + 1, none⟩ = some (.string t.2) := by
  rcases h with h0 | ⟨b, off, e, hb, hc⟩
  · rw [h0] at ht; simp at ht
  · exact ⟨b, off, e, hb, by rw [hB.cell (p := ⟨b, off + k * 2, none⟩) hb]; exact (hc k t ht).1, by rw [hB.cell (p := ⟨b, off + k * 2 + 1, none⟩) hb]; exact (hc k t ht).2⟩
set_option maxRecDepth 100000 in
set_option maxHeartbeats 4000000 in
theorem compareFunc_any (a b : Option Addr) (l m : List TagP) (c1 c2 : Nat) (w : World) (hl : l.length ≤ 9223372036854775807) (hm : m.length ≤ 9223372036854775807) (ha : TgIn w a l) (hb : TgIn w b m) :
    Calls Tryz.prog 98 #[.slice a l.length c1, .slice b m.length c2, .func (.func 99) #[] #[]] w fun e w' => e = .returned (.int .i64 (tagsC l m)) ∧ Below w.heap.size w w' := by
  have hC : Hid (∀ (t u : TagP) (W : World), Calls Tryz.prog 99 #[.agg #[.string t.1, .string t.2], .agg #[.string u.1, .string u.2]] W fun e w' => e = .returned (.int .i64 (tagC t u)) ∧ Below W.heap.size W w') := fun t u W => compareTags_any t.1 t.2 u.1 u.2 W
  have hA : Hid (TgIn w a l) := ha
  have hBb : Hid (TgIn w b m) := hb
  clear ha hb
  obtain ⟨R, hR⟩ : ∃ R, tagsC l m = R := ⟨_, rfl⟩
  have hR0 : Hid (lexC tagC (l.drop 0) (m.drop 0) = R) := hR
  rw [hR]
  clear hR
  obtain ⟨n, hn⟩ : ∃ n, l.length = n := ⟨_, rfl⟩
  obtain ⟨p, hp⟩ : ∃ p, m.length = p := ⟨_, rfl⟩
  have hN : Hid (l.length = n) := hn
  have hP : Hid (m.length = p) := hp
  rw [hn] at hl ⊢
  rw [hp] at hm ⊢
  clear hn hp
  go_enter Tryz.func98, Tryz.ntmps98
  go_wp2_with fail
  go_loopw [13] (fun i wr => ∃ k : Nat, i = .int .i64 (k : Int) ∧ k ≤ n ∧ k ≤ p ∧ Hid (lexC tagC (l.drop k) (m.drop k) = R) ∧ Below w.heap.size w wr) (fun i _ => n - (intOf i).toNat)
  case atStart => exact ⟨0, rfl, by omega, by omega, hR0, Below.refl _ _⟩
  case round =>
    obtain ⟨k, rfl, hkn, hkp, hI, hB⟩ := hrel
    by_cases hk : k < n
    · have hkI : (k : Int) < (n : Int) := by omega
      obtain ⟨t, ht⟩ : ∃ t, l[k]? = some t := ⟨_, List.getElem?_eq_getElem (by have := hN.out; omega)⟩
      obtain ⟨b1, o1, rfl, hb1, t1, t2⟩ := hA.out.at hB ht
      by_cases hk2 : k < p
      · have hkI2 : ¬ ((k : Int) ≥ (p : Int)) := by omega
        have hkI3 : (k : Int) < (p : Int) := by omega
        obtain ⟨u, hu⟩ : ∃ u, m[k]? = some u := ⟨_, List.getElem?_eq_getElem (by have := hP.out; omega)⟩
        obtain ⟨b2, o2, rfl, hb2, u1, u2⟩ := hBb.out.at hB hu
        have v1 : ∀ o, (wr.alloc o).cell? ⟨b2, o2 + k * 2, none⟩ = some (.string u.1) := fun o => by rw [(((Below.refl _ wr).alloc (Nat.le_refl _) o)).cell (p := ⟨b2, o2 + k * 2, none⟩) (by have := hB.size; show b2 < _; omega)]; exact u1
        have v2 : ∀ o, (wr.alloc o).cell? ⟨b2, o2 + k * 2 + 1, none⟩ = some (.string u.2) := fun o => by rw [(((Below.refl _ wr).alloc (Nat.le_refl _) o)).cell (p := ⟨b2, o2 + k * 2 + 1, none⟩) (by have := hB.size; show b2 < _; omega)]; exact u2
        have hC' := hC.out t u
        have hst := lexC_step ht hu
        rw [hI.out] at hst
        obtain ⟨r, hr⟩ : ∃ r, tagC t u = r := ⟨_, rfl⟩
        rw [hr] at hC' hst
        have hC2 : Hid (∀ W, Calls Tryz.prog 99 #[.agg #[.string t.1, .string t.2], .agg #[.string u.1, .string u.2]] W fun e w' => e = .returned (.int .i64 r) ∧ Below W.heap.size W w') := hC'
        have hst2 : Hid (R = if r = 0 then lexC tagC (l.drop (k + 1)) (m.drop (k + 1)) else r) := hst
        clear hst hC' hr ht hu
        generalize t.1 = ta at *
        generalize t.2 = tb at *
        generalize u.1 = ua at *
        generalize u.2 = ub at *
        have hBB : ∀ o1 o2, Below w.heap.size w ((wr.alloc o1).alloc o2) := fun o1 o2 => (hB.alloc hB.size o1).alloc (by have := hB.size; simp; omega) o2
        by_cases hr0 : r = 0
        · have hz : Hid (lexC tagC (l.drop (k + 1)) (m.drop (k + 1)) = R) := by have := hst2.out; rw [if_pos hr0] at this; exact this.symm
          clear hst2
          subst hr0
          go_wp2_with (refine Calls.mono (hC2.out _) ?_; rintro e w' ⟨rfl, hB2⟩)
          go_round
          case measure => simp only [intOf]; omega
          case rel => exact ⟨k + 1, by simp, by omega, by omega, hz, (hBB _ _).trans (hB2.mono (hBB _ _).size)⟩
        · have hrb : (r == 0) = false := by simpa using hr0
          have hz : Hid (r = R) := by have := hst2.out; rw [if_neg hr0] at this; exact this.symm
          clear hst2 hr0
          go_wp2_with (refine Calls.mono (hC2.out _) ?_; rintro e w' ⟨rfl, hB2⟩)
          go_ret
          exact ⟨by rw [hz.out]; rfl, (hBB _ _).trans (hB2.mono (hBB _ _).size)⟩
      · have hkI2 : ((k : Int) ≥ (p : Int)) := by omega
        have hend := lexC_ends (l := l) (m := m) (k := k) (Or.inr (by have := hP.out; omega)) (by have := hN.out; omega) (by have := hP.out; omega)
        rw [hI.out, hN.out, hP.out, if_neg (by omega), if_pos (by omega)] at hend
        have hE : Hid (R = 1) := hend
        clear hend
        go_wp2_with fail
        go_ret
        exact ⟨by rw [hE.out]; rfl, hB.alloc hB.size _⟩
    · have hkI : ¬ (k : Int) < (n : Int) := by omega
      have hend := lexC_ends (l := l) (m := m) (k := k) (Or.inl (by have := hN.out; omega)) (by have := hN.out; omega) (by have := hP.out; omega)
      rw [hI.out, hN.out, hP.out] at hend
      by_cases hnp : n < p
      · rw [if_pos hnp] at hend
        have hE : Hid (R = -1) := hend
        clear hend
        go_wp2_with fail
        go_ret
        exact ⟨by rw [hE.out]; rfl, hB⟩
      · rw [if_neg hnp, if_neg (by omega)] at hend
        have hE : Hid (R = 0) := hend
        clear hend
        go_wp2_with fail
        go_ret
        exact ⟨by rw [hE.out]; rfl, hB⟩
end Go.Proofs.YtbojljmacheccaaGreatDoor
