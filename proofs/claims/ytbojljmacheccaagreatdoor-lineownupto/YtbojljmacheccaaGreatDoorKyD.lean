
import Derived.Test.YtbojljmacheccaaGreatDoorKyC
namespace Go.Proofs.YtbojljmacheccaaGreatDoor
open Go.RowKit Go.Shelf
set_option linter.unusedVariables false
set_option linter.unusedSimpArgs false
def UT (w : World) : Prop := Lib.Utf8Tabs 3 4 w
theorem cell_lt {w : World} {p : Addr} {v : Value} (h : w.cell? p = some v) : p.block < w.heap.size := by
  rcases Nat.lt_or_ge p.block w.heap.size with h2 | h2
  · exact h2
  · simp [World.cell?, Array.getElem?_eq_none h2] at h
theorem UT.below {w w' : World} {B : Nat} (h : UT w) (hb : Below B w w') (hB : w.heap.size ≤ B) : UT w' := by
  obtain ⟨h1, h2⟩ := h
  refine ⟨fun c hc => ?_, fun i hi => ⟨?_, ?_⟩⟩
  · have := h1 c hc
    rw [hb.cell (p := ⟨3, c, none⟩) (Nat.lt_of_lt_of_le (cell_lt this) hB)]; exact this
  · have := (h2 i hi).1
    rw [hb.cell (p := ⟨4, 2 * i, none⟩) (Nat.lt_of_lt_of_le (cell_lt this) hB)]; exact this
  · have := (h2 i hi).2
    rw [hb.cell (p := ⟨4, 2 * i + 1, none⟩) (Nat.lt_of_lt_of_le (cell_lt this) hB)]; exact this
def ctlR (n : Nat) : Bool := decide (n < 32) || decide (n = 127)
set_option maxRecDepth 100000 in
theorem control_any (x : Nat) (w : World) : Calls Tryz.prog 162 #[.int .i32 (x : Int)] w fun e w' => e = .returned (.bool (ctlR x)) ∧ w' = w := by
  unfold ctlR
  by_cases h1 : x < 32
  · have h1I : (x : Int) < 32 := by omega
    rw [decide_eq_true h1]
    go_enter Tryz.func162, Tryz.ntmps162
    go_wp2_with fail
    go_ret
    exact ⟨rfl, rfl⟩
  · have h1I : ¬ (x : Int) < 32 := by omega
    rw [decide_eq_false h1]
    by_cases h2 : x = 127
    · subst h2
      go_enter Tryz.func162, Tryz.ntmps162
      go_wp2_with fail
      go_ret
      exact ⟨rfl, rfl⟩
    · have h2I : ((x : Int) == 127) = false := by simp; omega
      rw [decide_eq_false h2]
      clear h2
      go_enter Tryz.func162, Tryz.ntmps162
      go_wp2_with fail
      go_ret
      exact ⟨rfl, rfl⟩
def cleanB (s : ByteArray) (most : Int) : Bool := !s.toList.isEmpty && decide ((s.size : Int) ≤ most) && Lib.validD s.data.toList && !decide (0 ≤ Lib.idxFunc ctlR true s)
theorem control_pays (w : World) : PredAt Tryz.prog 162 #[] encR ctlR w := fun W x _ => (control_any x W).mono fun e w' ⟨h1, h2⟩ => ⟨h1, 0, h2⟩
theorem enters_control : ∀ args w, (callFunc 162 args).run Tryz.prog w = .ok (.enter 162 args) w := enters_of Tryz.func162 (by kernel_rfl) rfl
set_option maxRecDepth 100000 in
set_option maxHeartbeats 2000000 in
theorem clean_any (s : ByteArray) (most : Int) (w : World) (hmost : most ≤ 9223372036854775807) (hT : UT w) : Calls Tryz.prog 130 #[.string s, .int .i64 most] w fun e w' => e = .returned (.bool (cleanB s most)) ∧ Below w.heap.size w w' := by
  have cV : Hid ((s.size : Int) ≤ most → Calls Tryz.prog 160 #[.string s] w fun e w' => e = .returned (.bool (Lib.validD s.data.toList)) ∧ Below w.heap.size w w') := fun h => Tryz.utf8_ValidString s w (by omega) hT
  have cF : Hid (∀ W, Calls Tryz.prog 161 #[.string s, .func (.func 162) #[] #[]] W fun e w' => e = .returned (.bool (decide (0 ≤ Lib.idxFunc ctlR true s))) ∧ Below W.heap.size W w') := fun W => Tryz.strings_ContainsFunc 162 #[] enters_control ctlR s W (control_pays W)
  unfold cleanB
  generalize Lib.validD s.data.toList = v at cV ⊢
  generalize decide (0 ≤ Lib.idxFunc ctlR true s) = f at cF ⊢
  cases h1 : s.toList.isEmpty with
  | true =>
    go_enter Tryz.func130, Tryz.ntmps130
    go_wp2_with fail
    go_ret
    exact ⟨rfl, Below.refl _ _⟩
  | false =>
    by_cases h2 : (s.size : Int) ≤ most
    · rw [decide_eq_true h2]
      cases v with
      | true =>
        cases f with
        | true =>
          go_enter Tryz.func130, Tryz.ntmps130
          go_wp2_with (first | (go_at_call 160; with_reducible refine Calls.mono (cV.out h2) ?_; rintro e w' ⟨rfl, hb⟩) | (go_at_call 161; with_reducible refine Calls.mono (cF.out _) ?_; rintro e w2 ⟨rfl, hb2⟩))
          go_ret
          exact ⟨rfl, hb.trans (hb2.mono hb.size)⟩
        | false =>
          go_enter Tryz.func130, Tryz.ntmps130
          go_wp2_with (first | (go_at_call 160; with_reducible refine Calls.mono (cV.out h2) ?_; rintro e w' ⟨rfl, hb⟩) | (go_at_call 161; with_reducible refine Calls.mono (cF.out _) ?_; rintro e w2 ⟨rfl, hb2⟩))
          go_ret
          exact ⟨rfl, hb.trans (hb2.mono hb.size)⟩
      | false =>
        go_enter Tryz.func130, Tryz.ntmps130
        go_wp2_with (go_at_call 160; with_reducible refine Calls.mono (cV.out h2) ?_; rintro e w' ⟨rfl, hb⟩)
        go_ret
        exact ⟨rfl, hb⟩
    · rw [decide_eq_false h2]
      go_enter Tryz.func130, Tryz.ntmps130
      go_wp2_with fail
      go_ret
      exact ⟨rfl, Below.refl _ _⟩
end Go.Proofs.YtbojljmacheccaaGreatDoor
