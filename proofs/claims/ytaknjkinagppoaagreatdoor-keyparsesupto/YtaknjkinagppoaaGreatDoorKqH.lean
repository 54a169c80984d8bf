
import Derived.Test.YtaknjkinagppoaaGreatDoorKqG
import Derived.Test.YtaknjkinagppoaaGreatDoorKyN
import Derived.Test.YtaknjkinagppoaaGreatDoorKyM
namespace Go.Proofs.YtaknjkinagppoaaGreatDoor
open Go.RowKit Go.Shelf
attribute [local go_sem] Oper.semAt_some
set_option linter.unusedVariables false
set_option linter.unusedSimpArgs false
theorem printT_le {s : SerP} (h : rightN s = 0) : (printT s).length ≤ 1000000 := by
  obtain ⟨h1, h2, h3, h4⟩ := right_parts h
  have e1 := escL_len s.m.data.toList
  have e2 := escL_len s.f.data.toList
  have e3 := flat_tag_len s.t h4
  have m1 : s.m.data.toList.length = s.m.size := (Lib.size_eq _).symm
  have m2 : s.f.data.toList.length = s.f.size := (Lib.size_eq _).symm
  unfold printT
  simp only [List.length_append, List.length_cons]
  omega
theorem printT_ne (s : SerP) : ¬ (ba (printT s) = (⟨#[]⟩ : ByteArray)) := by
  intro h
  have h1 : (ba (printT s)).data.toList = [] := by rw [h]
  rw [ba_data] at h1
  unfold printT at h1
  simp at h1
theorem serM_any (s : SerP) (h : rightN s = 0) : SerM s := by
  obtain ⟨h1, h2, h3, h4⟩ := right_parts h
  exact ⟨mk_extract _ (by omega), mk_extract _ (by omega), fun t ht => ⟨mk_extract _ (by have := (h4 t ht).1; omega), mk_extract _ (by have := (h4 t ht).2; omega)⟩⟩
theorem res_print {s : SerP} (h : rightN s = 0) : resS (printT s) = s ∧ resE (printT s) = .nilIface := by
  obtain ⟨h1, h2⟩ := parse_print s
  constructor
  · unfold resS
    rw [h1, if_pos ⟨h2, h⟩]
  · unfold resE
    rw [h1, h2, h]
    rfl
/-- two ways that a read ends. -/
theorem res_two (l : List UInt8) : (∃ t v, resE l = .iface t v) ∨ (resE l = .nilIface ∧ rightN (resS l) = 0 ∧ printT (resS l) = l) := by
  unfold resE
  cases h : (stopP l).2 with
  | some p => exact Or.inl ⟨_, _, rfl⟩
  | none =>
    simp only [errF]
    by_cases h0 : rightN (serP l) = 0
    · right
      have e : resS l = serP l := by unfold resS; rw [if_pos ⟨h, h0⟩]
      rw [e]
      exact ⟨by rw [h0]; rfl, h0, print_parse l h⟩
    · left
      exact ⟨_, _, by rw [erN, if_neg h0]⟩
/-- a series in three cells of a block of one's own. -/
def SB (w : World) (N : Nat) (m : ByteArray) (v : Value) (f : ByteArray) (W : World) : Prop := (N < W.heap.size ∧ Below w.heap.size w W) ∧ (W.cell? ⟨N, 0, none⟩ = some (.string m) ∧ W.cell? ⟨N, 1, none⟩ = some v ∧ W.cell? ⟨N, 2, none⟩ = some (.string f)) ∧ W.frozen? ⟨N, 0, none⟩ = false ∧ W.frozen? ⟨N, 1, none⟩ = false ∧ W.frozen? ⟨N, 2, none⟩ = false
theorem SB.new (w : World) (m : ByteArray) (v : Value) (f : ByteArray) (hv : ∃ a n c, v = .slice a n c) (W : World) (hb : Below w.heap.size w W) : SB w W.heap.size m v f (W.alloc (.cells #[.string m, v, .string f] 24)) := by
  obtain ⟨a, n, c, rfl⟩ := hv
  exact ⟨⟨by simp, hb.alloc hb.size _⟩, ⟨by simp [go_sem], by simp [go_sem], by simp [go_sem]⟩, by simp [go_sem], by simp [go_sem], by simp [go_sem]⟩
theorem SB.below {w : World} {N : Nat} {m f : ByteArray} {v : Value} {W W' : World} (h : SB w N m v f W) (hb : Below W.heap.size W W') : SB w N m v f W' := by
  obtain ⟨⟨a1, a2⟩, ⟨h0, h1, h2⟩, f0, f1, f2⟩ := h
  refine ⟨⟨Nat.lt_of_lt_of_le a1 hb.size, a2.trans (hb.mono a2.size)⟩, ⟨?_, ?_, ?_⟩, ?_, ?_, ?_⟩
  · rw [hb.cell (p := ⟨N, 0, none⟩) a1]; exact h0
  · rw [hb.cell (p := ⟨N, 1, none⟩) a1]; exact h1
  · rw [hb.cell (p := ⟨N, 2, none⟩) a1]; exact h2
  · rw [hb.frozen (p := ⟨N, 0, none⟩) a1]; exact f0
  · rw [hb.frozen (p := ⟨N, 1, none⟩) a1]; exact f1
  · rw [hb.frozen (p := ⟨N, 2, none⟩) a1]; exact f2
theorem SB.set {w : World} {N : Nat} {m f m' f' : ByteArray} {v v' : Value} {W : World} (h : SB w N m v f W) (hN : w.heap.size ≤ N) : SB w N m' v' f' (((W.setCell ⟨N, 0, none⟩ (.string m')).setCell ⟨N, 1, none⟩ v').setCell ⟨N, 2, none⟩ (.string f')) := by
  obtain ⟨⟨a1, a2⟩, ⟨h0, h1, h2⟩, f0, f1, f2⟩ := h
  refine ⟨⟨by simpa using a1, set3 a2 hN⟩, ⟨?_, ?_, ?_⟩, by simp [go_sem, f0], by simp [go_sem, f1], by simp [go_sem, f2]⟩ <;> simp [go_sem, h0, h1, h2]
end Go.Proofs.YtaknjkinagppoaaGreatDoor
