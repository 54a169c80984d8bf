
import Derived.Test.YtdfnomglkibfbaaGreatDoorVgA
namespace Go.Proofs.YtdfnomglkibfbaaGreatDoor.Vf
open Go.RowKit
set_option linter.unusedVariables false
set_option linter.unusedSimpArgs false
set_option maxRecDepth 100000
theorem con_col (l : List ByteArray) (a : Option Addr) (c : Nat) (hn : l.length ≤ 1152921504606846976) (bx : Nat) (w : World) (hT : UT w) (h : StIn w a l) (hbl : bx < w.heap.size) (hb : w.cell? ⟨bx, 0, none⟩ = some (.func (.func 96) #[] #[])) : Calls Tryz.prog 121 #[.slice a l.length c, .func (.func 122) #[] #[.pointer (some ⟨bx, 0, none⟩)]] w fun e w' => e = .returned (.bool (!(l.all columnB))) ∧ Below w.heap.size w w' := by
  have k : Hid (Calls Tryz.prog 137 #[.slice a l.length c, .func (.func 122) #[] #[.pointer (some ⟨bx, 0, none⟩)]] w fun e w' => (∃ r : Int, e = .returned (.int .i64 r) ∧ decide (0 ≤ r) = !(l.all columnB)) ∧ Below w.heap.size w w') := idx_col l a c hn bx w hT h hbl hb
  clear hT h hbl hb hn
  generalize l.all columnB = v at k ⊢
  go_enter Tryz.func121, Tryz.ntmps121
  go_wp2_with fail
  refine Calls.mono k.out ?_
  rintro e w' ⟨⟨r, rfl, hr⟩, hb⟩
  have hrH : Hid (decide (0 ≤ r) = !v) := hr
  clear hr
  go_wp2_with fail
  go_ret
  exact ⟨by rw [← hrH.out]; rfl, hb⟩
theorem all_col (l : List ByteArray) (a : Option Addr) (c : Nat) (hn : l.length ≤ 1152921504606846976) (w : World) (hT : UT w) (h : StIn w a l) : Calls Tryz.prog 95 #[.slice a l.length c, .func (.func 96) #[] #[]] w fun e w' => e = .returned (.bool (l.all columnB)) ∧ Below w.heap.size w w' := by
  have k : Hid (∀ W, W = w.alloc (.cells #[.func (.func 96) #[] #[]] 236) → Calls Tryz.prog 121 #[.slice a l.length c, .func (.func 122) #[] #[.pointer (some ⟨w.heap.size, 0, none⟩)]] W fun e w' => e = .returned (.bool (!(l.all columnB))) ∧ Below w.heap.size w w') := fun W hW => by
    subst hW
    have b := (Below.refl w.heap.size w).alloc (Nat.le_refl _) (.cells #[.func (.func 96) #[] #[]] 236)
    exact (con_col l a c hn w.heap.size _ (hT.below b (Nat.le_refl _)) (h.below b (Nat.le_refl _)) (by simp) (by simp [go_sem])).mono fun e w' ⟨h1, h2⟩ => ⟨h1, b.trans (h2.mono b.size)⟩
  clear hT h hn
  generalize l.all columnB = v at k ⊢
  generalize l.length = n at *
  go_enter Tryz.func95, Tryz.ntmps95
  go_wp2_with (go_at_call 121; with_reducible refine Calls.mono (k.out _ rfl) ?_; rintro e w' ⟨rfl, hb⟩)
  go_ret
  exact ⟨by simp, hb⟩
theorem con_val (l : List ByteArray) (a : Option Addr) (c : Nat) (hn : l.length ≤ 1152921504606846976) (bx : Nat) (w : World) (hT : UT w) (h : StIn w a l) (hbl : bx < w.heap.size) (hb : w.cell? ⟨bx, 0, none⟩ = some (.func (.func 100) #[] #[])) : Calls Tryz.prog 121 #[.slice a l.length c, .func (.func 122) #[] #[.pointer (some ⟨bx, 0, none⟩)]] w fun e w' => e = .returned (.bool (!(l.all textB))) ∧ Below w.heap.size w w' := by
  have k : Hid (Calls Tryz.prog 137 #[.slice a l.length c, .func (.func 122) #[] #[.pointer (some ⟨bx, 0, none⟩)]] w fun e w' => (∃ r : Int, e = .returned (.int .i64 r) ∧ decide (0 ≤ r) = !(l.all textB)) ∧ Below w.heap.size w w') := idx_val l a c hn bx w hT h hbl hb
  clear hT h hbl hb hn
  generalize l.all textB = v at k ⊢
  go_enter Tryz.func121, Tryz.ntmps121
  go_wp2_with fail
  refine Calls.mono k.out ?_
  rintro e w' ⟨⟨r, rfl, hr⟩, hb⟩
  have hrH : Hid (decide (0 ≤ r) = !v) := hr
  clear hr
  go_wp2_with fail
  go_ret
  exact ⟨by rw [← hrH.out]; rfl, hb⟩
theorem all_val (l : List ByteArray) (a : Option Addr) (c : Nat) (hn : l.length ≤ 1152921504606846976) (w : World) (hT : UT w) (h : StIn w a l) : Calls Tryz.prog 95 #[.slice a l.length c, .func (.func 100) #[] #[]] w fun e w' => e = .returned (.bool (l.all textB)) ∧ Below w.heap.size w w' := by
  have k : Hid (∀ W, W = w.alloc (.cells #[.func (.func 100) #[] #[]] 236) → Calls Tryz.prog 121 #[.slice a l.length c, .func (.func 122) #[] #[.pointer (some ⟨w.heap.size, 0, none⟩)]] W fun e w' => e = .returned (.bool (!(l.all textB))) ∧ Below w.heap.size w w') := fun W hW => by
    subst hW
    have b := (Below.refl w.heap.size w).alloc (Nat.le_refl _) (.cells #[.func (.func 100) #[] #[]] 236)
    exact (con_val l a c hn w.heap.size _ (hT.below b (Nat.le_refl _)) (h.below b (Nat.le_refl _)) (by simp) (by simp [go_sem])).mono fun e w' ⟨h1, h2⟩ => ⟨h1, b.trans (h2.mono b.size)⟩
  clear hT h hn
  generalize l.all textB = v at k ⊢
  generalize l.length = n at *
  go_enter Tryz.func95, Tryz.ntmps95
  go_wp2_with (go_at_call 121; with_reducible refine Calls.mono (k.out _ rfl) ?_; rintro e w' ⟨rfl, hb⟩)
  go_ret
  exact ⟨by simp, hb⟩
end Go.Proofs.YtdfnomglkibfbaaGreatDoor.Vf
