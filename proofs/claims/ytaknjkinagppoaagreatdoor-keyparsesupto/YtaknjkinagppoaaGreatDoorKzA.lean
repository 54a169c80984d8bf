
import Derived.Test.YtaknjkinagppoaaGreatDoorKyZ
import Derived.Test.YtaknjkinagppoaaGreatDoorKyM
namespace Go.Proofs.YtaknjkinagppoaaGreatDoor
open Go.RowKit Go.Shelf
set_option linter.unusedVariables false
set_option linter.unusedSimpArgs false
set_option maxRecDepth 100000 in
theorem rname_is (s : ByteArray) (w : World) : Calls Tryz.prog 55 #[.string s] w fun e w' => e = .returned (.bool (cleanB s 64)) ∧ w' = w := by
  have c := rright_any s 64 w (by omega)
  generalize cleanB s 64 = v at c ⊢
  go_enter Tryz.func55, Tryz.ntmps55
  go_wp2_with (go_at_call 69; with_reducible refine Calls.mono c ?_; rintro e w' ⟨rfl, rfl⟩)
  go_ret
  exact ⟨rfl, rfl⟩
set_option maxRecDepth 100000 in
theorem rtext_is (s : ByteArray) (w : World) : Calls Tryz.prog 56 #[.string s] w fun e w' => e = .returned (.bool (cleanB s 256)) ∧ w' = w := by
  have c := rright_any s 256 w (by omega)
  generalize cleanB s 256 = v at c ⊢
  go_enter Tryz.func56, Tryz.ntmps56
  go_wp2_with (go_at_call 69; with_reducible refine Calls.mono c ?_; rintro e w' ⟨rfl, rfl⟩)
  go_ret
  exact ⟨rfl, rfl⟩
set_option maxRecDepth 100000 in
theorem rword_is (s : ByteArray) (w : World) : Calls Tryz.prog 33 #[.string s] w fun e w' => e = .returned (.bool (columnB s)) ∧ w' = w := by
  have c : Hid (Calls Tryz.prog 55 #[.string s] w fun e w' => e = .returned (.bool (cleanB s 64)) ∧ w' = w) := rname_is s w
  unfold columnB
  generalize cleanB s 64 = v at c ⊢
  cases v with
  | false =>
    go_enter Tryz.func33, Tryz.ntmps33
    go_wp2_with (go_at_call 55; with_reducible refine Calls.mono c.out ?_; rintro e w' ⟨rfl, rfl⟩)
    go_ret
    exact ⟨by simp, rfl⟩
  | true =>
    cases h : (s.toList == [116, 105, 109, 101]) with
    | true =>
      have h' : s.toList = [116, 105, 109, 101] := by simpa using h
      go_enter Tryz.func33, Tryz.ntmps33
      go_wp2_with (go_at_call 55; with_reducible refine Calls.mono c.out ?_; rintro e w' ⟨rfl, rfl⟩)
      go_ret
      exact ⟨by simp [h'], rfl⟩
    | false =>
      have h' : ¬ s.toList = [116, 105, 109, 101] := by simpa using h
      go_enter Tryz.func33, Tryz.ntmps33
      go_wp2_with (go_at_call 55; with_reducible refine Calls.mono c.out ?_; rintro e w' ⟨rfl, rfl⟩)
      go_ret
      exact ⟨by simp [h'], rfl⟩
def bdV (n : Int) : Value := .agg #[.int .i64 n, .int .i64 0, .int .i64 0, .bool false, .bool false]
theorem setBad {B : Nat} {a w : World} {N : Nat} {v0 v1 v2 v3 v4 : Value} (h : Below B a w) (hN : B ≤ N) : Below B a (((((w.setCell ⟨N, 0, none⟩ v0).setCell ⟨N, 1, none⟩ v1).setCell ⟨N, 2, none⟩ v2).setCell ⟨N, 3, none⟩ v3).setCell ⟨N, 4, none⟩ v4) :=
  ((((h.setCell (p := ⟨N, 0, none⟩) hN _).setCell (p := ⟨N, 1, none⟩) hN _).setCell (p := ⟨N, 2, none⟩) hN _).setCell (p := ⟨N, 3, none⟩) hN _).setCell (p := ⟨N, 4, none⟩) hN _
def BdAt (W : World) (N : Nat) : Prop := N < W.heap.size ∧ W.cell? ⟨N, 0, none⟩ = some (.int .i64 0) ∧ W.cell? ⟨N, 1, none⟩ = some (.int .i64 0) ∧ W.cell? ⟨N, 2, none⟩ = some (.int .i64 0) ∧ W.cell? ⟨N, 3, none⟩ = some (.bool false) ∧ W.cell? ⟨N, 4, none⟩ = some (.bool false) ∧ ∀ j, W.frozen? ⟨N, j, none⟩ = false
def bdO : Obj := .cells #[.int .i64 0, .int .i64 0, .int .i64 0, .bool false, .bool false] 31
theorem BdAt.new (w : World) : BdAt (w.alloc bdO) w.heap.size := by
  unfold bdO
  refine ⟨by simp, ?_, ?_, ?_, ?_, ?_, fun j => ?_⟩ <;> simp [go_sem]
theorem BdAt.below {W W' : World} {N : Nat} (h : BdAt W N) (hb : Below W.heap.size W W') : BdAt W' N := by
  obtain ⟨h0, h1, h2, h3, h4, h5, h6⟩ := h
  refine ⟨Nat.lt_of_lt_of_le h0 hb.size, ?_, ?_, ?_, ?_, ?_, fun j => ?_⟩
  · rw [hb.cell (p := ⟨N, 0, none⟩) h0]; exact h1
  · rw [hb.cell (p := ⟨N, 1, none⟩) h0]; exact h2
  · rw [hb.cell (p := ⟨N, 2, none⟩) h0]; exact h3
  · rw [hb.cell (p := ⟨N, 3, none⟩) h0]; exact h4
  · rw [hb.cell (p := ⟨N, 4, none⟩) h0]; exact h5
  · rw [hb.frozen (p := ⟨N, j, none⟩) h0]; exact h6 j
theorem rnew_any (c : Int) (w : World) : Calls Tryz.prog 34 #[.int .i64 c] w fun e w' => e = .returned (bdV c) ∧ Below w.heap.size w w' := by
  unfold bdV
  go_enter Tryz.func34, Tryz.ntmps34
  go_wp2
  simp [bodyPost, results, Tryz.results34, go_sem]
  exact (Below.refl _ w).alloc (Nat.le_refl _) _
set_option maxRecDepth 100000 in
theorem rname_any (s : ByteArray) (w : World) : Calls Tryz.prog 31 #[.string s] w fun e w' => e = .returned (bdV (if cleanB s 64 then 0 else 50)) ∧ Below w.heap.size w w' := by
  have c : Hid (∀ W, Calls Tryz.prog 55 #[.string s] W fun e w' => e = .returned (.bool (cleanB s 64)) ∧ w' = W) := rname_is s
  have hB : Below w.heap.size w (w.alloc bdO) := (Below.refl _ w).alloc (Nat.le_refl _) _
  have hN := BdAt.new w
  generalize cleanB s 64 = v at c ⊢
  unfold bdO at hB hN
  go_enter Tryz.func31, Tryz.ntmps31
  go_wp2_with fail
  generalize w.alloc (.cells #[.int .i64 0, .int .i64 0, .int .i64 0, .bool false, .bool false] 31) = w0 at *
  refine Calls.mono (c.out _) ?_
  rintro e w1 ⟨rfl, rfl⟩
  have P1 := hB
  have N1 := hN
  clear hB hN
  cases v with
  | true =>
    obtain ⟨_, b1, b2, b3, b4, b5, g0⟩ := N1
    have g1 := g0 0
    have g2 := g0 1
    have g3 := g0 2
    have g4 := g0 3
    have g5 := g0 4
    clear g0
    go_wp2_with fail
    simp [bodyPost, results, Tryz.results31, go_sem, b1, b2, b3, b4, b5]
    exact ⟨rfl, setBad P1 (Nat.le_refl _)⟩
  | false =>
    go_wp2_with fail
    refine Calls.mono (rnew_any 50 _) ?_
    rintro e w2 ⟨rfl, B2⟩
    have P2 := P1.trans (B2.mono P1.size)
    have N2 := N1.below B2
    clear N1 P1
    unfold bdV
    obtain ⟨_, b1, b2, b3, b4, b5, g0⟩ := N2
    have g1 := g0 0
    have g2 := g0 1
    have g3 := g0 2
    have g4 := g0 3
    have g5 := g0 4
    clear g0
    go_wp2_with fail
    simp [bodyPost, results, Tryz.results31, go_sem, b1, b2, b3, b4, b5]
    exact ⟨rfl, setBad P2 (Nat.le_refl _)⟩
theorem mk_byte (x : UInt8) : mkL.contains x = (decide (x.toNat = 44) || decide (x.toNat = 32) || decide (x.toNat = 61) || decide (x.toNat = 92)) := by
  have : ∀ n : Fin 256, mkL.contains (UInt8.ofNat n.val) = (decide (n.val = 44) || decide (n.val = 32) || decide (n.val = 61) || decide (n.val = 92)) := by decide +kernel
  have h := this ⟨x.toNat, UInt8.toNat_lt x⟩
  simpa using h
set_option maxRecDepth 100000 in
theorem special_any (x : UInt8) (w : World) : Calls Tryz.prog 54 #[.int .u8 (x.toNat : Int)] w fun e w' => e = .returned (.bool (mkL.contains x)) ∧ w' = w := by
  rw [mk_byte]
  generalize x.toNat = n
  by_cases h1 : n = 44
  · subst h1
    go_enter Tryz.func54, Tryz.ntmps54
    go_wp2_with fail
    go_ret
    exact ⟨rfl, rfl⟩
  have h1I : ((n : Int) == 44) = false := by simp; omega
  by_cases h2 : n = 32
  · subst h2
    go_enter Tryz.func54, Tryz.ntmps54
    go_wp2_with fail
    go_ret
    exact ⟨rfl, rfl⟩
  have h2I : ((n : Int) == 32) = false := by simp; omega
  by_cases h3 : n = 61
  · subst h3
    go_enter Tryz.func54, Tryz.ntmps54
    go_wp2_with fail
    go_ret
    exact ⟨rfl, rfl⟩
  have h3I : ((n : Int) == 61) = false := by simp; omega
  rw [decide_eq_false h1, decide_eq_false h2, decide_eq_false h3]
  by_cases h4 : n = 92
  · subst h4
    go_enter Tryz.func54, Tryz.ntmps54
    go_wp2_with fail
    go_ret
    exact ⟨rfl, rfl⟩
  have h4I : ((n : Int) == 92) = false := by simp; omega
  rw [decide_eq_false h4]
  clear h1 h2 h3 h4
  go_enter Tryz.func54, Tryz.ntmps54
  go_wp2_with fail
  go_ret
  exact ⟨rfl, rfl⟩
end Go.Proofs.YtaknjkinagppoaaGreatDoor
