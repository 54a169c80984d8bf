
import Derived.Test.YtpilohnlkckpfaaDoorKzG
import Derived.Test.YtpilohnlkckpfaaDoorKyV
import Derived.Test.YtpilohnlkckpfaaDoorKyS
import Derived.Test.YtpilohnlkckpfaaDoorKyN
import Derived.Test.YtpilohnlkckpfaaDoorSameD
namespace Go.Proofs.YtpilohnlkckpfaaDoor
open Go.RowKit Go.Shelf
set_option linter.unusedVariables false
set_option linter.unusedSimpArgs false
set_option maxRecDepth 100000 in
theorem same_nilV (w : World) : Calls Tryd.prog 16 #[.nilIface, .agg #[.int .i64 0, .int .i64 0, .int .i64 0, .bool false, .bool false]] w fun e w' => e = .returned (.bool true) ∧ Below w.heap.size w w' := by
  have hB : ∀ o, Below w.heap.size w (w.alloc o) := fun o => (Below.refl _ w).alloc (Nat.le_refl _) o
  go_enter Tryd.func16, Tryd.ntmps16
  go_wp2_with fail
  go_ret
  exact ⟨rfl, hB _⟩
theorem same_at (p : Int) (w : World) (hg : ET w) : Calls Tryd.prog 16 #[atV p, .agg #[.int .i64 53, .int .i64 p, .int .i64 0, .bool true, .bool false]] w fun e w' => e = .returned (.bool true) ∧ Below w.heap.size w w' :=
  sameC_hit_miss [(false, p)] 53 (by decide) p [] rfl rfl w hg
theorem both_un (R : Out) : ∃ (t : ByteArray) (n : Int) (er : Value) (c A : Int) (P : Bool), outV R = .tuple #[.string t, .int .i64 n, er] ∧ outR R = .tuple #[.string t, .int .i64 n, .agg #[.int .i64 c, .int .i64 A, .int .i64 0, .bool P, .bool false]] ∧ Hid (∀ W, ET W → Calls Tryd.prog 16 #[er, .agg #[.int .i64 c, .int .i64 A, .int .i64 0, .bool P, .bool false]] W fun e w' => e = .returned (.bool true) ∧ Below W.heap.size W w') := by
  cases R with
  | ok t n => exact ⟨_, _, _, _, _, _, rfl, rfl, fun W _ => same_nilV W⟩
  | bad p => exact ⟨_, _, _, _, _, _, rfl, rfl, fun W hW => same_at p W hW⟩
def BX (c A : Int) (P : Bool) (N : Nat) (W : World) : Prop := N < W.heap.size ∧ W.cell? ⟨N, 0, none⟩ = some (.int .i64 c) ∧ W.cell? ⟨N, 1, none⟩ = some (.int .i64 A) ∧ W.cell? ⟨N, 2, none⟩ = some (.int .i64 0) ∧ W.cell? ⟨N, 3, none⟩ = some (.bool P) ∧ W.cell? ⟨N, 4, none⟩ = some (.bool false)
theorem BX.new (c A : Int) (P : Bool) (w : World) : BX c A P w.heap.size (w.alloc (.cells #[.int .i64 c, .int .i64 A, .int .i64 0, .bool P, .bool false] 35)) := by
  refine ⟨by simp, ?_, ?_, ?_, ?_, ?_⟩ <;> simp [go_sem]
theorem BX.below {c A : Int} {P : Bool} {N : Nat} {W W' : World} (h : BX c A P N W) (hb : Below W.heap.size W W') : BX c A P N W' := by
  obtain ⟨h0, h1, h2, h3, h4, h5⟩ := h
  refine ⟨Nat.lt_of_lt_of_le h0 hb.size, ?_, ?_, ?_, ?_, ?_⟩
  · rw [hb.cell (p := ⟨N, 0, none⟩) h0]; exact h1
  · rw [hb.cell (p := ⟨N, 1, none⟩) h0]; exact h2
  · rw [hb.cell (p := ⟨N, 2, none⟩) h0]; exact h3
  · rw [hb.cell (p := ⟨N, 3, none⟩) h0]; exact h4
  · rw [hb.cell (p := ⟨N, 4, none⟩) h0]; exact h5
set_option maxRecDepth 100000 in
set_option maxHeartbeats 8000000 in
theorem keyEscapes_walk (s : ByteArray) (w : World) (hs : s.size ≤ 1048576) (hT : UT w) (hg : ET w) :
    Calls Tryd.prog 5 #[.string s] w fun e w' => e = .returned (.bool true) ∧ Below w.heap.size w w' := by
  have cL : Hid (∀ W, Below w.heap.size w W → Calls Tryd.prog 8 #[] W fun e w' => e = .returned (.bool true) ∧ Below W.heap.size W w') := fun W hW => live_any W (hT.below hW (Nat.le_refl _)) (ET_below hg hW)
  have cE : Hid (∀ W, Calls Tryd.prog 14 #[.string s] W fun e w' => e = .returned (.string ⟨(escL s.data.toList).toArray⟩) ∧ Below W.heap.size W w') := fun W => escape_any s W hs (mk_extract s (by omega))
  have cF : Hid (∀ W, Calls Tryd.prog 15 #[.string s] W fun e w' => e = .returned (.string ⟨(escL s.data.toList).toArray⟩) ∧ Below W.heap.size W w') := fun W => rescape_any s W hs
  generalize (⟨(escL s.data.toList).toArray⟩ : ByteArray) = E at cE cF
  obtain ⟨t, n, er, c, A, P, e1, e2, cS0⟩ := both_un (uneT s.data.toList)
  have cU : Hid (∀ W, Calls Tryd.prog 12 #[.string s] W fun e w' => e = .returned (.tuple #[.string t, .int .i64 n, er]) ∧ Below W.heap.size W w') := fun W => by
    have h := unescape_any s W (by omega) (mk_extract s (by omega)); rw [e1] at h; exact h
  have cV : Hid (∀ W, Calls Tryd.prog 13 #[.string s] W fun e w' => e = .returned (.tuple #[.string t, .int .i64 n, .agg #[.int .i64 c, .int .i64 A, .int .i64 0, .bool P, .bool false]]) ∧ Below W.heap.size W w') := fun W => by
    have h := runescape_any s W hs; rw [e2] at h; exact h
  have cS : Hid (∀ W, Below w.heap.size w W → Calls Tryd.prog 16 #[er, .agg #[.int .i64 c, .int .i64 A, .int .i64 0, .bool P, .bool false]] W fun e w' => e = .returned (.bool true) ∧ Below W.heap.size W w') := fun W hW => cS0.out W (ET_below hg hW)
  clear e1 e2 cS0 hT hg
  go_enter Tryd.func5, Tryd.ntmps5
  go_wp2_with fail
  refine Calls.mono (cU.out _) ?_
  rintro e w1 ⟨rfl, B1⟩
  go_wp2_with fail
  refine Calls.mono (cV.out _) ?_
  rintro e w2 ⟨rfl, B2⟩
  go_wp2_with fail
  have S2 : Below w.heap.size w w2 := B1.trans (B2.mono B1.size)
  have X3 : BX c A P w2.heap.size (w2.alloc (.cells #[.int .i64 c, .int .i64 A, .int .i64 0, .bool P, .bool false] 35)) := BX.new c A P w2
  have S3 : Below w.heap.size w (w2.alloc (.cells #[.int .i64 c, .int .i64 A, .int .i64 0, .bool P, .bool false] 35)) := S2.alloc S2.size _
  generalize w2.alloc (.cells #[.int .i64 c, .int .i64 A, .int .i64 0, .bool P, .bool false] 35) = w3 at *
  generalize w2.heap.size = N at *
  clear B1 B2 S2
  refine Calls.mono (cL.out _ S3) ?_
  rintro e w4 ⟨rfl, B4⟩
  have S4 := S3.trans (B4.mono S3.size)
  have X4 := X3.below B4
  clear S3 X3 B4
  go_wp2_with fail
  refine Calls.mono (cE.out _) ?_
  rintro e w5 ⟨rfl, B5⟩
  have S5 := S4.trans (B5.mono S4.size)
  have X5 := X4.below B5
  clear S4 X4 B5
  go_wp2_with fail
  refine Calls.mono (cF.out _) ?_
  rintro e w6 ⟨rfl, B6⟩
  have S6 := S5.trans (B6.mono S5.size)
  have X6 := X5.below B6
  clear S5 X5 B6
  obtain ⟨_, y0, y1, y2, y3, y4⟩ := X6
  go_wp2_with fail
  refine Calls.mono (cS.out _ S6) ?_
  rintro e w7 ⟨rfl, B7⟩
  have S7 := S6.trans (B7.mono S6.size)
  go_wp2_with fail
  go_ret
  exact ⟨by simp, S7⟩
end Go.Proofs.YtpilohnlkckpfaaDoor
