
import Derived.Test.YticgapplpfaigaaGreatSrLe
namespace Go.Proofs.YticgapplpfaigaaGreat
open Go.RowKit
set_option linter.unusedVariables false
set_option linter.unusedSimpArgs false
theorem app_no (W : World) (a ad : Option Addr) (n cap c : Nat) (h : n ≤ cap) : (Builtin.append_ #[62, 62] 62 #[.slice a n cap, .slice ad 0 c]).run Tryz.prog W = .ok (.slice a n cap) W := by
  obtain ⟨i, i1, i0⟩ := Option.map_eq_some_iff.1 smp_info
  cases a <;> cases ad <;> simp [Builtin.append_, run_underlying Tryz.underlying62, sizeOf, typeInfo, i1, Builtin.lenOf, Builtin.firstCells, storeCells, loadCells, loadCellsFrom, h]
set_option maxRecDepth 100000 in
set_option maxHeartbeats 4000000 in
theorem lay_none (N B : Nat) (v : Value) (l : List Smp) (w : World) (h : SS N B v l w) (ad : Option Addr) (c : Nat) :
    Calls Tryz.prog 30 #[.pointer (some ⟨N, 0, none⟩), .slice ad 0 c] w fun e w' => e = .returned undef ∧ SS N B v l w' ∧ SFr N v v w w' := by
  obtain ⟨a, cap, rfl, hcap, hL⟩ := h.row.lin h.hk
  have c0 := h.c0
  have f0 := h.f0
  have hNs := h.hN
  have hr1 := app_no w a ad l.length cap c (by omega)
  have hH : Hid (SS N B (.slice a l.length cap) l w) := h
  have hR1 : Hid _ := hr1
  clear hL hcap h hr1
  have hdone : Hid (SS N B (.slice a l.length cap) l (w.setCell ⟨N, 0, none⟩ (.slice a l.length cap)) ∧ SFr N (.slice a l.length cap) (.slice a l.length cap) w (w.setCell ⟨N, 0, none⟩ (.slice a l.length cap))) := by
    have hs := hH.out
    refine ⟨⟨World.cell?_setCell_same _ _ _ c0, by simpa using f0, hs.row.keep (by simp) (fun g e => ?_), hs.ne, by simpa using hNs, hs.hB, hs.hk, hs.hr, hs.hn⟩, ⟨(Below.refl 0 w).setCell (p := ⟨N, 0, none⟩) (Nat.zero_le _) _, fun j hj hn ho => Below.heap_setCell _ _ _ _ hn, Or.inl rfl⟩⟩
    exact Below.heap_setCell _ _ _ _ (fun e' => hs.ne (by have e'' : g = N := e'; rw [← e'', e]))
  go_enter Tryz.func30, Tryz.ntmps30
  go_wp2_with (at_builtin; refine wpList_append_run (by rfl) _ _ _ (by rfl) _ _ _ _ (by rfl) (by rfl) hR1.out ?_)
  go_loopw [4, 5] (fun e i wr => e = .int .i64 (l.length : Int) ∧ i = .int .i64 (-1) ∧ Hid (SS N B (.slice a l.length cap) l wr ∧ SFr N (.slice a l.length cap) (.slice a l.length cap) w wr)) (fun _ i _ => 0)
  case atStart => exact ⟨rfl, by first | rfl | go_num, hdone.out⟩
  case round =>
    obtain ⟨rfl, rfl, hrr⟩ := hrel
    go_wp2_with fail
    first | go_end0 | (simp only [Exit.inBlock, Exit.then]; refine bodyPost_ret (results_none rfl _ _ _) rfl ?_) | refine bodyPost_ret (results_none rfl _ _ _) rfl ?_
    exact ⟨rfl, hrr.out⟩
end Go.Proofs.YticgapplpfaigaaGreat
