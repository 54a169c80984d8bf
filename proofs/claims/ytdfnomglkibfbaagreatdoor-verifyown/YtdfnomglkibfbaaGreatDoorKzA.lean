
import Derived.Test.YtdfnomglkibfbaaGreatDoorKyZ
import Derived.Test.YtdfnomglkibfbaaGreatDoorBase
namespace Go.Proofs.YtdfnomglkibfbaaGreatDoor
open Go.RowKit Go.Shelf
set_option linter.unusedVariables false
set_option linter.unusedSimpArgs false
set_option maxRecDepth 100000 in
theorem rname_is (s : ByteArray) (w : World) : Calls Tryz.prog 113 #[.string s] w fun e w' => e = .returned (.bool (cleanB s 64)) ∧ w' = w := by
  have c := rright_any s 64 w (by omega)
  generalize cleanB s 64 = v at c ⊢
  go_enter Tryz.func113, Tryz.ntmps113
  go_wp2_with (go_at_call 133; with_reducible refine Calls.mono c ?_; rintro e w' ⟨rfl, rfl⟩)
  go_ret
  exact ⟨rfl, rfl⟩
set_option maxRecDepth 100000 in
theorem rtext_is (s : ByteArray) (w : World) : Calls Tryz.prog 116 #[.string s] w fun e w' => e = .returned (.bool (cleanB s 256)) ∧ w' = w := by
  have c := rright_any s 256 w (by omega)
  generalize cleanB s 256 = v at c ⊢
  go_enter Tryz.func116, Tryz.ntmps116
  go_wp2_with (go_at_call 133; with_reducible refine Calls.mono c ?_; rintro e w' ⟨rfl, rfl⟩)
  go_ret
  exact ⟨rfl, rfl⟩
set_option maxRecDepth 100000 in
theorem rword_is (s : ByteArray) (w : World) : Calls Tryz.prog 114 #[.string s] w fun e w' => e = .returned (.bool (columnB s)) ∧ w' = w := by
  have c : Hid (Calls Tryz.prog 113 #[.string s] w fun e w' => e = .returned (.bool (cleanB s 64)) ∧ w' = w) := rname_is s w
  unfold columnB
  generalize cleanB s 64 = v at c ⊢
  cases v with
  | false =>
    go_enter Tryz.func114, Tryz.ntmps114
    go_wp2_with (go_at_call 113; with_reducible refine Calls.mono c.out ?_; rintro e w' ⟨rfl, rfl⟩)
    go_ret
    exact ⟨by simp, rfl⟩
  | true =>
    cases h : (s.toList == [116, 105, 109, 101]) with
    | true =>
      have h' : s.toList = [116, 105, 109, 101] := by simpa using h
      go_enter Tryz.func114, Tryz.ntmps114
      go_wp2_with (go_at_call 113; with_reducible refine Calls.mono c.out ?_; rintro e w' ⟨rfl, rfl⟩)
      go_ret
      exact ⟨by simp [h'], rfl⟩
    | false =>
      have h' : ¬ s.toList = [116, 105, 109, 101] := by simpa using h
      go_enter Tryz.func114, Tryz.ntmps114
      go_wp2_with (go_at_call 113; with_reducible refine Calls.mono c.out ?_; rintro e w' ⟨rfl, rfl⟩)
      go_ret
      exact ⟨by simp [h'], rfl⟩
def bdV (n : Int) : Value := .agg #[.int .i64 n, .int .i64 0, .int .i64 0, .bool false, .bool false]
theorem setBad {B : Nat} {a w : World} {N : Nat} {v0 v1 v2 v3 v4 : Value} (h : Below B a w) (hN : B ≤ N) : Below B a (((((w.setCell ⟨N, 0, none⟩ v0).setCell ⟨N, 1, none⟩ v1).setCell ⟨N, 2, none⟩ v2).setCell ⟨N, 3, none⟩ v3).setCell ⟨N, 4, none⟩ v4) :=
  ((((h.setCell (p := ⟨N, 0, none⟩) hN _).setCell (p := ⟨N, 1, none⟩) hN _).setCell (p := ⟨N, 2, none⟩) hN _).setCell (p := ⟨N, 3, none⟩) hN _).setCell (p := ⟨N, 4, none⟩) hN _
def BdAt (W : World) (N : Nat) : Prop := N < W.heap.size ∧ W.cell? ⟨N, 0, none⟩ = some (.int .i64 0) ∧ W.cell? ⟨N, 1, none⟩ = some (.int .i64 0) ∧ W.cell? ⟨N, 2, none⟩ = some (.int .i64 0) ∧ W.cell? ⟨N, 3, none⟩ = some (.bool false) ∧ W.cell? ⟨N, 4, none⟩ = some (.bool false) ∧ ∀ j, W.frozen? ⟨N, j, none⟩ = false
def bdO : Obj := .cells #[.int .i64 0, .int .i64 0, .int .i64 0, .bool false, .bool false] 36
theorem BdAt.new (w : World) : BdAt (w.alloc bdO) w.heap.size := by
  unfold bdO
  refine ⟨by simp, ?_, ?_, ?_, ?_, ?_, fun j => ?_⟩ <;> simp [go_sem]
theorem BdAt.below {W W' : World} {N : Nat} (h : BdAt W N) (hb : Below W.heap.size W W') : BdAt W' N := by
  obtain ⟨h0, h1, h2, h3, h4, h5, h6⟩ := h
  refine ⟨Nat.lt_of_lt_of_le h0 hb.size, ?_, ?_, ?_, ?_, ?_, fun j => ?_⟩
  · rw [hb.cell (p := ⟨N, 0, none⟩) h0]; exact h1
  · rw [hb.cell (p := ⟨N, 1, none⟩) h0]; exact h2
  · rw [hb.cell (p := ⟨N, 2, none⟩) h0]; exact h3
  · rw [hb.cell (p := ⟨N, 3, none⟩) h0]; exact h4
  · rw [hb.cell (p := ⟨N, 4, none⟩) h0]; exact h5
  · rw [hb.frozen (p := ⟨N, j, none⟩) h0]; exact h6 j
theorem rnew_any (c : Int) (w : World) : Calls Tryz.prog 29 #[.int .i64 c] w fun e w' => e = .returned (bdV c) ∧ Below w.heap.size w w' := by
  unfold bdV
  go_enter Tryz.func29, Tryz.ntmps29
  go_wp2
  simp [bodyPost, results, Tryz.results29, go_sem]
  exact (Below.refl _ w).alloc (Nat.le_refl _) _
theorem mk_byte (x : UInt8) : mkL.contains x = (decide (x.toNat = 44) || decide (x.toNat = 32) || decide (x.toNat = 61) || decide (x.toNat = 92)) := by
  have : ∀ n : Fin 256, mkL.contains (UInt8.ofNat n.val) = (decide (n.val = 44) || decide (n.val = 32) || decide (n.val = 61) || decide (n.val = 92)) := by decide +kernel
  have h := this ⟨x.toNat, UInt8.toNat_lt x⟩
  simpa using h
end Go.Proofs.YtdfnomglkibfbaaGreatDoor
