
import Derived.Test.YtnpannhcpjmeeaaDoorKyB
namespace Go.Proofs.YtnpannhcpjmeeaaDoor
open Go.RowKit
set_option linter.unusedVariables false
set_option linter.unusedSimpArgs false
/-- a series that lies in memory. -/
def SerIn (w : World) (a : Option Addr) (s : SerP) : Prop := TgIn w a s.t ∧ s.t.length ≤ 9223372036854775807
set_option maxRecDepth 100000 in
set_option maxHeartbeats 4000000 in
theorem compare_any (a b : Option Addr) (c1 c2 : Nat) (s t : SerP) (w : World) (ha : SerIn w a s) (hb : SerIn w b t) :
    Calls Tryd.prog 64 #[.agg #[.string s.m, .slice a s.t.length c1, .string s.f], .agg #[.string t.m, .slice b t.t.length c2, .string t.f]] w fun e w' => e = .returned (.int .i64 (serC s t)) ∧ Below w.heap.size w w' := by
  obtain ⟨sm, st, sf⟩ := s
  obtain ⟨tm, tt, tf⟩ := t
  simp only at ha hb ⊢
  obtain ⟨ha, hl⟩ := ha
  obtain ⟨hb, hm⟩ := hb
  simp only at ha hb hl hm
  have B2 : ∀ o1 o2, Below w.heap.size w ((w.alloc o1).alloc o2) := fun o1 o2 => ((Below.refl _ w).alloc (Nat.le_refl _) o1).alloc (by simp) o2
  have cM : Hid (∀ W, Calls Tryd.prog 60 #[.string sm, .string tm] W fun e w' => e = .returned (.int .i64 (strC sm tm)) ∧ w' = W) := fun W => Tryd.strings_Compare sm tm W
  have cF : Hid (∀ W, Calls Tryd.prog 60 #[.string sf, .string tf] W fun e w' => e = .returned (.int .i64 (strC sf tf)) ∧ w' = W) := fun W => Tryd.strings_Compare sf tf W
  have cT : Hid (Calls Tryd.prog 73 #[.slice a st.length c1, .slice b tt.length c2, .func (.func 74) #[] #[]] ((w.alloc (.cells #[.string sm, .slice a st.length c1, .string sf] 43)).alloc (.cells #[.string tm, .slice b tt.length c2, .string tf] 43)) fun e w' => e = .returned (.int .i64 (tagsC st tt)) ∧ w'.cell? ⟨w.heap.size, 2, none⟩ = some (.string sf) ∧ w'.cell? ⟨w.heap.size + 1, 2, none⟩ = some (.string tf) ∧ Below w.heap.size w w') := by
    refine Calls.mono (compareFunc_any a b st tt c1 c2 _ hl hm (ha.below (B2 _ _)) (hb.below (B2 _ _))) ?_
    rintro e w' ⟨rfl, hb2⟩
    refine ⟨rfl, ?_, ?_, (B2 _ _).trans (hb2.mono (B2 _ _).size)⟩
    · rw [hb2.cell (p := ⟨w.heap.size, 2, none⟩) (by simp; omega)]; simp [go_sem]
    · rw [hb2.cell (p := ⟨w.heap.size + 1, 2, none⟩) (by simp)]; simp [go_sem]
  unfold serC pairC
  simp only
  generalize strC sm tm = r at cM ⊢
  generalize strC sf tf = q at cF ⊢
  generalize tagsC st tt = x at cT ⊢
  generalize st.length = n at cT hl ⊢
  generalize tt.length = p at cT hm ⊢
  by_cases h : r = 0
  · subst h
    rw [if_pos rfl]
    by_cases h2 : x = 0
    · subst h2
      rw [if_pos rfl]
      go_enter Tryd.func64, Tryd.ntmps64
      go_wp2_with (first | (go_at_call 60; with_reducible refine Calls.mono (cM.out _) ?_; clear cM; rintro e w' ⟨rfl, rfl⟩) | (go_at_call 73; with_reducible refine Calls.mono cT.out ?_; rintro e w' ⟨rfl, k1, k2, hb2⟩) | (go_at_call 60; with_reducible refine Calls.mono (cF.out _) ?_; rintro e w' ⟨rfl, rfl⟩))
      go_ret
      exact ⟨rfl, hb2⟩
    · have hx : (x == 0) = false := by simpa using h2
      rw [if_neg h2]
      clear h2
      go_enter Tryd.func64, Tryd.ntmps64
      go_wp2_with (first | (go_at_call 60; with_reducible refine Calls.mono (cM.out _) ?_; clear cM; rintro e w' ⟨rfl, rfl⟩) | (go_at_call 73; with_reducible refine Calls.mono cT.out ?_; rintro e w' ⟨rfl, k1, k2, hb2⟩) | (go_at_call 60; with_reducible refine Calls.mono (cF.out _) ?_; rintro e w' ⟨rfl, rfl⟩))
      go_ret
      exact ⟨rfl, hb2⟩
  · have hx : (r == 0) = false := by simpa using h
    rw [if_neg h]
    clear h
    go_enter Tryd.func64, Tryd.ntmps64
    go_wp2_with (first | (go_at_call 60; with_reducible refine Calls.mono (cM.out _) ?_; clear cM; rintro e w' ⟨rfl, rfl⟩) | (go_at_call 73; with_reducible refine Calls.mono cT.out ?_; rintro e w' ⟨rfl, k1, k2, hb2⟩) | (go_at_call 60; with_reducible refine Calls.mono (cF.out _) ?_; rintro e w' ⟨rfl, rfl⟩))
    go_ret
    exact ⟨rfl, B2 _ _⟩
theorem bdrewN {B : Nat} {a w : World} (h : Below B a w) : ∀ q, Below B a (w.drewN q)
  | 0 => h
  | q + 1 => (bdrewN h q).drew
end Go.Proofs.YtnpannhcpjmeeaaDoor
