
import Derived.Test.YtdfnomglkibfbaaGreatDoorVgB
namespace Go.Proofs.YtdfnomglkibfbaaGreatDoor.Vf
open Go.RowKit
set_option linter.unusedVariables false
set_option linter.unusedSimpArgs false
set_option maxRecDepth 100000
theorem clo_acc (s : AcP) (bx : Nat) (w : World) (hT : UT w) (hb : w.cell? ⟨bx, 0, none⟩ = some (.func (.func 98) #[] #[])) : Calls Tryz.prog 124 #[.agg #[.int .u8 (s.1 : Int), .string s.2], .pointer (some ⟨bx, 0, none⟩)] w fun e w' => e = .returned (.bool (!accB s)) ∧ Below w.heap.size w w' := by
  have hl : bx < w.heap.size := World.block_lt_of_cell? _ _ hb
  have c : Hid (∀ o, Calls Tryz.prog 98 #[.agg #[.int .u8 (s.1 : Int), .string s.2]] (w.alloc o) fun e w' => e = .returned (.bool (accB s)) ∧ Below w.heap.size w w') := fun o => (kept_any s _ (hT.below ((Below.refl _ w).alloc (Nat.le_refl _) o) (Nat.le_refl _))).mono fun e w' ⟨h1, h2⟩ => ⟨h1, ((Below.refl _ w).alloc (Nat.le_refl _) o).trans (h2.mono (by simp))⟩
  generalize accB s = v at c ⊢
  clear hT
  go_enter Tryz.func124, Tryz.ntmps124
  go_wp2_with fail
  refine Calls.mono (c.out _) ?_
  rintro e w' ⟨rfl, hb2⟩
  go_wp2_with fail
  go_ret
  exact ⟨rfl, hb2⟩
set_option maxHeartbeats 2000000 in
theorem idx_acc (l : List AcP) (a : Option Addr) (c : Nat) (hn : l.length ≤ 1152921504606846976) (bx : Nat) (w : World) (hT : UT w) (h : AcIn w a l) (hbl : bx < w.heap.size) (hb : w.cell? ⟨bx, 0, none⟩ = some (.func (.func 98) #[] #[])) : Calls Tryz.prog 138 #[.slice a l.length c, .func (.func 124) #[] #[.pointer (some ⟨bx, 0, none⟩)]] w fun e w' => (∃ r : Int, e = .returned (.int .i64 r) ∧ decide (0 ≤ r) = !(l.all accB)) ∧ Below w.heap.size w w' := by
  have hH : Hid (AcIn w a l ∧ UT w ∧ bx < w.heap.size ∧ w.cell? ⟨bx, 0, none⟩ = some (.func (.func 98) #[] #[])) := ⟨h, hT, hbl, hb⟩
  clear h hT hbl hb
  go_enter Tryz.func138, Tryz.ntmps138
  go_wp2_with fail
  go_loopw [8] (fun v8 wr => ∃ k : Nat, v8 = .int .i64 (k : Int) ∧ k ≤ l.length ∧ Hid ((l.take k).all accB = true) ∧ Hid (Below w.heap.size w wr)) (fun v8 _ => l.length - (intOf v8).toNat)
  case atStart => exact ⟨0, rfl, Nat.zero_le _, rfl, Below.refl _ _⟩
  case round =>
    obtain ⟨k, rfl, hkl, hp, hB⟩ := hrel
    by_cases hk : k < l.length
    · obtain ⟨hS, hT, hbl, hbc⟩ := hH.out
      have hS2 := hS.below hB.out (Nat.le_refl _)
      obtain ⟨g, off, s, es, rfl, gl, cs1, cs2⟩ := hS2.at hk
      have hT2 : UT wr := hT.below hB.out (Nat.le_refl _)
      have hb2 : wr.cell? ⟨bx, 0, none⟩ = some (.func (.func 98) #[] #[]) := by rw [hB.out.cell (p := ⟨bx, 0, none⟩) hbl]; exact hbc
      have kI : (k : Int) < (l.length : Int) := by omega
      have k0 : (0 : Int) ≤ (k : Int) := by omega
      have kw : IntKind.i64.wrap ((k : Int) + 1) = ((k + 1 : Nat) : Int) := IntWalk.i64_in _ (by omega)
      obtain ⟨x, hx⟩ : ∃ x, accB s = x := ⟨_, rfl⟩
      have cW : Hid (Calls Tryz.prog 124 #[.agg #[.int .u8 (s.1 : Int), .string s.2], .pointer (some ⟨bx, 0, none⟩)] wr fun e w' => e = .returned (.bool (!x)) ∧ Below w.heap.size w w') := by
        rw [← hx]
        exact (clo_acc s bx wr hT2 hb2).mono fun e w' ⟨h1, h2⟩ => ⟨h1, hB.out.trans (h2.mono hB.out.size)⟩
      cases x with
      | false =>
        have fin0 : l.all accB = false := all_false es hx
        have fin : Hid (l.all accB = false) := fin0
        clear hS hS2 hT hT2 hbl hbc hb2 hH hp hB hx es fin0
        simp only [Bool.not_false] at cW
        go_wp2_with (go_at_call 124; with_reducible refine Calls.mono cW.out ?_; rintro e w2 ⟨rfl, bw⟩)
        go_ret
        exact ⟨⟨(k : Int), rfl, by rw [fin.out]; simp⟩, bw⟩
      | true =>
        have NX0 : (l.take (k + 1)).all accB = true := all_take hp.out es hx
        have NX : Hid ((l.take (k + 1)).all accB = true) := NX0
        clear hS hS2 hT hT2 hbl hbc hb2 hH hp hB hx es NX0
        simp only [Bool.not_true] at cW
        go_wp2_with (go_at_call 124; with_reducible refine Calls.mono cW.out ?_; rintro e w2 ⟨rfl, bw⟩)
        exact ⟨⟨k + 1, by first | rfl | (rw [kw]), hk, NX, bw⟩, by first | (simp [intOf]; done) | (simp [intOf]; omega)⟩
    · have kI : ¬ (k : Int) < (l.length : Int) := by omega
      have fin : Hid (l.all accB = true) := by
        have := hp.out
        rw [List.take_of_length_le (by omega)] at this
        exact this
      clear hH hp
      go_wp2_with fail
      go_ret
      exact ⟨⟨-1, rfl, by rw [fin.out]; rfl⟩, hB.out⟩
theorem con_acc (l : List AcP) (a : Option Addr) (c : Nat) (hn : l.length ≤ 1152921504606846976) (bx : Nat) (w : World) (hT : UT w) (h : AcIn w a l) (hbl : bx < w.heap.size) (hb : w.cell? ⟨bx, 0, none⟩ = some (.func (.func 98) #[] #[])) : Calls Tryz.prog 123 #[.slice a l.length c, .func (.func 124) #[] #[.pointer (some ⟨bx, 0, none⟩)]] w fun e w' => e = .returned (.bool (!(l.all accB))) ∧ Below w.heap.size w w' := by
  have k : Hid (Calls Tryz.prog 138 #[.slice a l.length c, .func (.func 124) #[] #[.pointer (some ⟨bx, 0, none⟩)]] w fun e w' => (∃ r : Int, e = .returned (.int .i64 r) ∧ decide (0 ≤ r) = !(l.all accB)) ∧ Below w.heap.size w w') := idx_acc l a c hn bx w hT h hbl hb
  clear hT h hbl hb hn
  generalize l.all accB = v at k ⊢
  go_enter Tryz.func123, Tryz.ntmps123
  go_wp2_with fail
  refine Calls.mono k.out ?_
  rintro e w' ⟨⟨r, rfl, hr⟩, hb⟩
  have hrH : Hid (decide (0 ≤ r) = !v) := hr
  clear hr
  go_wp2_with fail
  go_ret
  exact ⟨by rw [← hrH.out]; rfl, hb⟩
theorem all_acc (l : List AcP) (a : Option Addr) (c : Nat) (hn : l.length ≤ 1152921504606846976) (w : World) (hT : UT w) (h : AcIn w a l) : Calls Tryz.prog 97 #[.slice a l.length c, .func (.func 98) #[] #[]] w fun e w' => e = .returned (.bool (l.all accB)) ∧ Below w.heap.size w w' := by
  have k : Hid (∀ W, W = w.alloc (.cells #[.func (.func 98) #[] #[]] 238) → Calls Tryz.prog 123 #[.slice a l.length c, .func (.func 124) #[] #[.pointer (some ⟨w.heap.size, 0, none⟩)]] W fun e w' => e = .returned (.bool (!(l.all accB))) ∧ Below w.heap.size w w') := fun W hW => by
    subst hW
    have b := (Below.refl w.heap.size w).alloc (Nat.le_refl _) (.cells #[.func (.func 98) #[] #[]] 238)
    exact (con_acc l a c hn w.heap.size _ (hT.below b (Nat.le_refl _)) (h.below b (Nat.le_refl _)) (by simp) (by simp [go_sem])).mono fun e w' ⟨h1, h2⟩ => ⟨h1, b.trans (h2.mono b.size)⟩
  clear hT h hn
  generalize l.all accB = v at k ⊢
  generalize l.length = n at *
  go_enter Tryz.func97, Tryz.ntmps97
  go_wp2_with (go_at_call 123; with_reducible refine Calls.mono (k.out _ rfl) ?_; rintro e w' ⟨rfl, hb⟩)
  go_ret
  exact ⟨by simp, hb⟩
end Go.Proofs.YtdfnomglkibfbaaGreatDoor.Vf
