
import Derived.Test.YtbljggapmkpnbaaGreatDoorHpH
namespace Go.Proofs.YtbljggapmkpnbaaGreatDoor.Hp
open Go.RowKit Go.Maps
set_option linter.unusedVariables false
set_option linter.unusedSimpArgs false
set_option maxRecDepth 100000
theorem encE_rank (l : List Ent) (i : Nat) (r : Int) (hi : i < l.length) : (encE l).set (i * 2) (.int .i64 r) = encE (l.set i (r, (atE l i).2)) := by
  rw [← encE_put l i _ hi]
  obtain ⟨_, e2⟩ := encE_get l i _ (atE_some hi)
  generalize (atE l i).2 = nm at *
  generalize encE l = M at *
  apply List.ext_getElem?
  intro j
  simp only [List.getElem?_set]
  by_cases h1 : i * 2 + 1 = j
  · subst h1
    rw [if_neg (by omega), e2, if_pos rfl]
    have : i * 2 + 1 < M.length := (List.getElem?_eq_some_iff.1 e2).1
    simp [this]
  · rw [if_neg h1]
theorem HS.ranked {w : World} {B hp mb g n cap : Nat} {most : Bool} {f : ByteArray → Option Nat} {L : List Ent} {mv : Int} (h : HS w B hp mb most (.slice (some ⟨g, 0, none⟩) n cap) none f L mv) (i : Nat) (hi : i < L.length) (r : Int) : HS (w.setCell ⟨g, i * 2, none⟩ (.int .i64 r)) B hp mb most (.slice (some ⟨g, 0, none⟩) n cap) none f (L.set i (r, (atE L i).2)) mv ∧ HF hp mb (some g) w (w.setCell ⟨g, i * 2, none⟩ (.int .i64 r)) := by
  obtain ⟨rfl, _⟩ := h.len
  have t := World.ownsRow.stored h.row (i * 2) (.int .i64 r)
  rw [encE_rank L i r hi] at t
  obtain ⟨_, _, gB, gl, _⟩ := h.len
  have hB := h.hw.hB
  have mB := h.hw.mB
  have hl := h.hl
  have kh : (w.setCell ⟨g, i * 2, none⟩ (.int .i64 r)).heap[hp]? = w.heap[hp]? := t.2.block hp hl (fun e => by injection e; omega)
  have co : ∀ o, (w.setCell ⟨g, i * 2, none⟩ (.int .i64 r)).cell? ⟨hp, o, none⟩ = w.cell? ⟨hp, o, none⟩ := fun o => World.cell?_of_block (w := w) (a := ⟨hp, o, none⟩) kh
  obtain ⟨c, mp, hc⟩ := h.mp
  refine ⟨⟨by rw [co]; exact h.c0, by rw [co]; exact h.c1, by rw [co]; exact h.c2, by rw [co]; exact h.c3, by rw [World.frozen?_setCell]; exact h.z0, by rw [World.frozen?_setCell]; exact h.z3, by rw [List.length_set]; exact t.1, ⟨c, mp.keep (t.2.block mb mp.lt (fun e => by injection e; omega)), by rw [List.length_set]; exact hc⟩, h.pl.turn hi r, h.hw, fun e he => ?_, by simpa using hl, h.exs⟩, HF.grown t.2 (Or.inr (Or.inr rfl))⟩
  rcases List.mem_or_eq_of_mem_set he with q | q
  · exact h.nm e q
  · rw [q]; exact h.nm (atE L i) (List.mem_of_getElem? (atE_some hi))
theorem take_none {w : World} {B hp mb : Nat} {most : Bool} {v : Value} {f : ByteArray → Option Nat} {L : List Ent} {mv : Int} (h : HS w B hp mb most v none f L mv) (s : ByteArray) (hs : s.size ≤ 9223372036854775807) (hf : f s = none) :
    Calls Tryz.prog 119 #[.pointer (some ⟨hp, 0, none⟩), .string s] w fun e w' => e = .returned (.tuple #[eV (0, ⟨#[]⟩), .iface 59 (.int .i64 4)]) ∧ Below w.heap.size w w' := by
  have b1 : Hid (Below w.heap.size w (w.alloc (.cells #[.int .i64 0, .string ⟨#[]⟩] 137))) := (Below.refl _ w).alloc (Nat.le_refl _) _
  have CF : Hid _ := find_none (h.below b1.out) s hs hf
  clear h
  unfold eV
  go_enter Tryz.func119, Tryz.ntmps119
  go_wp2_with fail
  refine Calls.mono CF.out ?_
  rintro e w1 ⟨rfl, hw1⟩
  subst hw1
  go_wp2_with fail
  simp [bodyPost, results, Tryz.results119, go_sem]
  exact b1.out
end Go.Proofs.YtbljggapmkpnbaaGreatDoor.Hp
