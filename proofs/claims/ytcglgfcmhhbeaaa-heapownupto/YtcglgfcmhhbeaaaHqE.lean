
import Derived.Test.YtcglgfcmhhbeaaaHqB
namespace Go.Proofs.Ytcglgfcmhhbeaaa.Hp
open Go.RowKit Go.Maps
set_option linter.unusedVariables false
set_option linter.unusedSimpArgs false
set_option maxRecDepth 100000
set_option maxHeartbeats 8000000 in
/-- two rows that hold the same. -/
theorem same_true (a a2 : Option Addr) (c c2 : Nat) (l : List Ent) (w : World) (h : EnIn w a l) (h2 : EnIn w a2 l) (hn : l.length ≤ 1099511627776) :
    Calls Try.prog 14 #[.slice a l.length c, .slice a2 l.length c2] w fun e w' => e = .returned (.bool true) ∧ Below w.heap.size w w' := by
  have hH : Hid (EnIn w a l) := h
  have hH2 : Hid (EnIn w a2 l) := h2
  have hbb : ((l.length : Int) == (l.length : Int)) = true := by simp
  clear h h2
  go_enter Try.func14, Try.ntmps14
  go_wp2_with fail
  go_loopw [5] (fun v5 wr => ∃ (i : Nat), v5 = .int .i64 (i : Int) ∧ i ≤ l.length ∧ Hid (Below w.heap.size w wr)) (fun v5 _ => l.length - (intOf v5).toNat)
  case atStart => exact ⟨0, rfl, Nat.zero_le _, Below.refl _ _⟩
  case round =>
    obtain ⟨i, rfl, hil, hb⟩ := hrel
    by_cases hi : i < l.length
    · obtain ⟨i0, iI, iw, _⟩ := nums_j i l.length hi (by omega)
      have hs := atE_some hi
      obtain ⟨b, off, rfl, hbl, hcs⟩ : ∃ b off, a = some ⟨b, off, none⟩ ∧ b < wr.heap.size ∧ ∀ i t, l[i]? = some t → wr.cell? ⟨b, off + i * 2, none⟩ = some (.int .i64 t.1) ∧ wr.cell? ⟨b, off + i * 2 + 1, none⟩ = some (.string t.2) := by
        rcases hH.out.below hb.out with q | q
        · rw [q] at hi; simp at hi
        · exact q
      obtain ⟨b2, off2, rfl, hbl2, hcs2⟩ : ∃ b off, a2 = some ⟨b, off, none⟩ ∧ b < wr.heap.size ∧ ∀ i t, l[i]? = some t → wr.cell? ⟨b, off + i * 2, none⟩ = some (.int .i64 t.1) ∧ wr.cell? ⟨b, off + i * 2 + 1, none⟩ = some (.string t.2) := by
        rcases hH2.out.below hb.out with q | q
        · rw [q] at hi; simp at hi
        · exact q
      obtain ⟨p1, p2⟩ := hcs i _ hs
      obtain ⟨q1, q2⟩ := hcs2 i _ hs
      have hbd : ∀ k, Hid (Below w.heap.size w (wr.drewN k)) := fun k => by
        have := hb.out
        exact ⟨this.os, this.tape, this.output, this.size, this.block⟩
      clear hcs hcs2 hs
      generalize atE l i = x at *
      have mixed : Try.prog.follows .mixedOrders = true := by kernel_rfl
      go_wp2_with fail
      go_quiet (fail)
      go_wp2_with fail
      exact ⟨⟨i + 1, rfl, hi, hbd nq⟩, by first | (simp [intOf]; done) | (simp [intOf]; omega)⟩
    · have hlt : ¬ (i : Int) < (l.length : Int) := by omega
      go_wp2_with fail
      go_ret
      exact ⟨rfl, hb.out⟩
end Go.Proofs.Ytcglgfcmhhbeaaa.Hp
