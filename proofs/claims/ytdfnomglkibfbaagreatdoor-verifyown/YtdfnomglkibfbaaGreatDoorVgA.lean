
import Derived.Test.YtdfnomglkibfbaaGreatDoorVfY
namespace Go.Proofs.YtdfnomglkibfbaaGreatDoor.Vf
open Go.RowKit
set_option linter.unusedVariables false
set_option linter.unusedSimpArgs false
set_option maxRecDepth 100000
theorem clo_col (s : ByteArray) (bx : Nat) (w : World) (hT : UT w) (hb : w.cell? ⟨bx, 0, none⟩ = some (.func (.func 96) #[] #[])) : Calls Tryz.prog 122 #[.string s, .pointer (some ⟨bx, 0, none⟩)] w fun e w' => e = .returned (.bool (!columnB s)) ∧ Below w.heap.size w w' := by
  have c : Hid (Calls Tryz.prog 96 #[.string s] w fun e w' => e = .returned (.bool (columnB s)) ∧ Below w.heap.size w w') := vcolumn_any s w hT
  generalize columnB s = v at c ⊢
  clear hT
  go_enter Tryz.func122, Tryz.ntmps122
  go_wp2_with (go_at_call 96; with_reducible refine Calls.mono c.out ?_; rintro e w' ⟨rfl, hb⟩)
  go_ret
  exact ⟨rfl, hb⟩
set_option maxHeartbeats 2000000 in
theorem idx_col (l : List ByteArray) (a : Option Addr) (c : Nat) (hn : l.length ≤ 1152921504606846976) (bx : Nat) (w : World) (hT : UT w) (h : StIn w a l) (hbl : bx < w.heap.size) (hb : w.cell? ⟨bx, 0, none⟩ = some (.func (.func 96) #[] #[])) : Calls Tryz.prog 137 #[.slice a l.length c, .func (.func 122) #[] #[.pointer (some ⟨bx, 0, none⟩)]] w fun e w' => (∃ r : Int, e = .returned (.int .i64 r) ∧ decide (0 ≤ r) = !(l.all columnB)) ∧ Below w.heap.size w w' := by
  have hH : Hid (StIn w a l ∧ UT w ∧ bx < w.heap.size ∧ w.cell? ⟨bx, 0, none⟩ = some (.func (.func 96) #[] #[])) := ⟨h, hT, hbl, hb⟩
  clear h hT hbl hb
  go_enter Tryz.func137, Tryz.ntmps137
  go_wp2_with fail
  go_loopw [8] (fun v8 wr => ∃ k : Nat, v8 = .int .i64 (k : Int) ∧ k ≤ l.length ∧ Hid ((l.take k).all columnB = true) ∧ Hid (Below w.heap.size w wr)) (fun v8 _ => l.length - (intOf v8).toNat)
  case atStart => exact ⟨0, rfl, Nat.zero_le _, rfl, Below.refl _ _⟩
  case round =>
    obtain ⟨k, rfl, hkl, hp, hB⟩ := hrel
    by_cases hk : k < l.length
    · obtain ⟨hS, hT, hbl, hbc⟩ := hH.out
      have hS2 := hS.below hB.out (Nat.le_refl _)
      obtain ⟨g, off, s, es, rfl, gl, cs⟩ := hS2.at hk
      have hT2 : UT wr := hT.below hB.out (Nat.le_refl _)
      have hb2 : wr.cell? ⟨bx, 0, none⟩ = some (.func (.func 96) #[] #[]) := by rw [hB.out.cell (p := ⟨bx, 0, none⟩) hbl]; exact hbc
      have kI : (k : Int) < (l.length : Int) := by omega
      have k0 : (0 : Int) ≤ (k : Int) := by omega
      have kw : IntKind.i64.wrap ((k : Int) + 1) = ((k + 1 : Nat) : Int) := IntWalk.i64_in _ (by omega)
      obtain ⟨x, hx⟩ : ∃ x, columnB s = x := ⟨_, rfl⟩
      have cW : Hid (Calls Tryz.prog 122 #[.string s, .pointer (some ⟨bx, 0, none⟩)] wr fun e w' => e = .returned (.bool (!x)) ∧ Below w.heap.size w w') := by
        rw [← hx]
        exact (clo_col s bx wr hT2 hb2).mono fun e w' ⟨h1, h2⟩ => ⟨h1, hB.out.trans (h2.mono hB.out.size)⟩
      cases x with
      | false =>
        have fin0 : l.all columnB = false := all_false es hx
        have fin : Hid (l.all columnB = false) := fin0
        clear hS hS2 hT hT2 hbl hbc hb2 hH hp hB hx es fin0
        simp only [Bool.not_false] at cW
        go_wp2_with (go_at_call 122; with_reducible refine Calls.mono cW.out ?_; rintro e w2 ⟨rfl, bw⟩)
        go_ret
        exact ⟨⟨(k : Int), rfl, by rw [fin.out]; simp⟩, bw⟩
      | true =>
        have NX0 : (l.take (k + 1)).all columnB = true := all_take hp.out es hx
        have NX : Hid ((l.take (k + 1)).all columnB = true) := NX0
        clear hS hS2 hT hT2 hbl hbc hb2 hH hp hB hx es NX0
        simp only [Bool.not_true] at cW
        go_wp2_with (go_at_call 122; with_reducible refine Calls.mono cW.out ?_; rintro e w2 ⟨rfl, bw⟩)
        exact ⟨⟨k + 1, by first | rfl | (rw [kw]), hk, NX, bw⟩, by first | (simp [intOf]; done) | (simp [intOf]; omega)⟩
    · have kI : ¬ (k : Int) < (l.length : Int) := by omega
      have fin : Hid (l.all columnB = true) := by
        have := hp.out
        rw [List.take_of_length_le (by omega)] at this
        exact this
      clear hH hp
      go_wp2_with fail
      go_ret
      exact ⟨⟨-1, rfl, by rw [fin.out]; rfl⟩, hB.out⟩
theorem clo_val (s : ByteArray) (bx : Nat) (w : World) (hT : UT w) (hb : w.cell? ⟨bx, 0, none⟩ = some (.func (.func 100) #[] #[])) : Calls Tryz.prog 122 #[.string s, .pointer (some ⟨bx, 0, none⟩)] w fun e w' => e = .returned (.bool (!textB s)) ∧ Below w.heap.size w w' := by
  have c : Hid (Calls Tryz.prog 100 #[.string s] w fun e w' => e = .returned (.bool (textB s)) ∧ Below w.heap.size w w') := vvalue_any s w hT
  generalize textB s = v at c ⊢
  clear hT
  go_enter Tryz.func122, Tryz.ntmps122
  go_wp2_with (go_at_call 100; with_reducible refine Calls.mono c.out ?_; rintro e w' ⟨rfl, hb⟩)
  go_ret
  exact ⟨rfl, hb⟩
set_option maxHeartbeats 2000000 in
theorem idx_val (l : List ByteArray) (a : Option Addr) (c : Nat) (hn : l.length ≤ 1152921504606846976) (bx : Nat) (w : World) (hT : UT w) (h : StIn w a l) (hbl : bx < w.heap.size) (hb : w.cell? ⟨bx, 0, none⟩ = some (.func (.func 100) #[] #[])) : Calls Tryz.prog 137 #[.slice a l.length c, .func (.func 122) #[] #[.pointer (some ⟨bx, 0, none⟩)]] w fun e w' => (∃ r : Int, e = .returned (.int .i64 r) ∧ decide (0 ≤ r) = !(l.all textB)) ∧ Below w.heap.size w w' := by
  have hH : Hid (StIn w a l ∧ UT w ∧ bx < w.heap.size ∧ w.cell? ⟨bx, 0, none⟩ = some (.func (.func 100) #[] #[])) := ⟨h, hT, hbl, hb⟩
  clear h hT hbl hb
  go_enter Tryz.func137, Tryz.ntmps137
  go_wp2_with fail
  go_loopw [8] (fun v8 wr => ∃ k : Nat, v8 = .int .i64 (k : Int) ∧ k ≤ l.length ∧ Hid ((l.take k).all textB = true) ∧ Hid (Below w.heap.size w wr)) (fun v8 _ => l.length - (intOf v8).toNat)
  case atStart => exact ⟨0, rfl, Nat.zero_le _, rfl, Below.refl _ _⟩
  case round =>
    obtain ⟨k, rfl, hkl, hp, hB⟩ := hrel
    by_cases hk : k < l.length
    · obtain ⟨hS, hT, hbl, hbc⟩ := hH.out
      have hS2 := hS.below hB.out (Nat.le_refl _)
      obtain ⟨g, off, s, es, rfl, gl, cs⟩ := hS2.at hk
      have hT2 : UT wr := hT.below hB.out (Nat.le_refl _)
      have hb2 : wr.cell? ⟨bx, 0, none⟩ = some (.func (.func 100) #[] #[]) := by rw [hB.out.cell (p := ⟨bx, 0, none⟩) hbl]; exact hbc
      have kI : (k : Int) < (l.length : Int) := by omega
      have k0 : (0 : Int) ≤ (k : Int) := by omega
      have kw : IntKind.i64.wrap ((k : Int) + 1) = ((k + 1 : Nat) : Int) := IntWalk.i64_in _ (by omega)
      obtain ⟨x, hx⟩ : ∃ x, textB s = x := ⟨_, rfl⟩
      have cW : Hid (Calls Tryz.prog 122 #[.string s, .pointer (some ⟨bx, 0, none⟩)] wr fun e w' => e = .returned (.bool (!x)) ∧ Below w.heap.size w w') := by
        rw [← hx]
        exact (clo_val s bx wr hT2 hb2).mono fun e w' ⟨h1, h2⟩ => ⟨h1, hB.out.trans (h2.mono hB.out.size)⟩
      cases x with
      | false =>
        have fin0 : l.all textB = false := all_false es hx
        have fin : Hid (l.all textB = false) := fin0
        clear hS hS2 hT hT2 hbl hbc hb2 hH hp hB hx es fin0
        simp only [Bool.not_false] at cW
        go_wp2_with (go_at_call 122; with_reducible refine Calls.mono cW.out ?_; rintro e w2 ⟨rfl, bw⟩)
        go_ret
        exact ⟨⟨(k : Int), rfl, by rw [fin.out]; simp⟩, bw⟩
      | true =>
        have NX0 : (l.take (k + 1)).all textB = true := all_take hp.out es hx
        have NX : Hid ((l.take (k + 1)).all textB = true) := NX0
        clear hS hS2 hT hT2 hbl hbc hb2 hH hp hB hx es NX0
        simp only [Bool.not_true] at cW
        go_wp2_with (go_at_call 122; with_reducible refine Calls.mono cW.out ?_; rintro e w2 ⟨rfl, bw⟩)
        exact ⟨⟨k + 1, by first | rfl | (rw [kw]), hk, NX, bw⟩, by first | (simp [intOf]; done) | (simp [intOf]; omega)⟩
    · have kI : ¬ (k : Int) < (l.length : Int) := by omega
      have fin : Hid (l.all textB = true) := by
        have := hp.out
        rw [List.take_of_length_le (by omega)] at this
        exact this
      clear hH hp
      go_wp2_with fail
      go_ret
      exact ⟨⟨-1, rfl, by rw [fin.out]; rfl⟩, hB.out⟩
end Go.Proofs.YtdfnomglkibfbaaGreatDoor.Vf
