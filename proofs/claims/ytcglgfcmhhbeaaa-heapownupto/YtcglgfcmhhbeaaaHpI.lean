
import Derived.Test.YtcglgfcmhhbeaaaHpH
namespace Go.Proofs.Ytcglgfcmhhbeaaa.Hp
open Go.RowKit Go.Maps
set_option linter.unusedVariables false
set_option linter.unusedSimpArgs false
set_option maxRecDepth 100000
theorem encE_rank (l : List Ent) (i : Nat) (r : Int) (hi : i < l.length) : (encE l).set (i * 2) (.int .i64 r) = encE (l.set i (r, (atE l i).2)) := by
  rw [← encE_put l i _ hi]
  obtain ⟨_, e2⟩ := encE_get l i _ (atE_some hi)
  generalize (atE l i).2 = nm at *
  generalize encE l = M at *
  apply List.ext_getElem?
  intro j
  simp only [List.getElem?_set]
  by_cases h1 : i * 2 + 1 = j
  · subst h1
    rw [if_neg (by omega), e2, if_pos rfl]
    have : i * 2 + 1 < M.length := (List.getElem?_eq_some_iff.1 e2).1
    simp [this]
  · rw [if_neg h1]
theorem HS.ranked {w : World} {B hp mb g n cap : Nat} {most : Bool} {f : ByteArray → Option Nat} {L : List Ent} {mv : Int} (h : HS w B hp mb most (.slice (some ⟨g, 0, none⟩) n cap) none f L mv) (i : Nat) (hi : i < L.length) (r : Int) : HS (w.setCell ⟨g, i * 2, none⟩ (.int .i64 r)) B hp mb most (.slice (some ⟨g, 0, none⟩) n cap) none f (L.set i (r, (atE L i).2)) mv ∧ HF hp mb (some g) w (w.setCell ⟨g, i * 2, none⟩ (.int .i64 r)) := by
  obtain ⟨rfl, _⟩ := h.len
  have t := World.ownsRow.stored h.row (i * 2) (.int .i64 r)
  rw [encE_rank L i r hi] at t
  obtain ⟨_, _, gB, gl, _⟩ := h.len
  have hB := (h.hw.sp g rfl).1
  have mB := (h.hw.sp g rfl).2
  have hl := h.hl
  have kh : (w.setCell ⟨g, i * 2, none⟩ (.int .i64 r)).heap[hp]? = w.heap[hp]? := t.2.block hp hl (fun e => by injection e; omega)
  have co : ∀ o, (w.setCell ⟨g, i * 2, none⟩ (.int .i64 r)).cell? ⟨hp, o, none⟩ = w.cell? ⟨hp, o, none⟩ := fun o => World.cell?_of_block (w := w) (a := ⟨hp, o, none⟩) kh
  obtain ⟨c, mp, hc⟩ := h.mp
  refine ⟨⟨by rw [co]; exact h.c0, by rw [co]; exact h.c1, by rw [co]; exact h.c2, by rw [co]; exact h.c3, by rw [World.frozen?_setCell]; exact h.z0, by rw [World.frozen?_setCell]; exact h.z3, by rw [List.length_set]; exact t.1, ⟨c, mp.keep (t.2.block mb mp.lt (fun e => by injection e; omega)), by rw [List.length_set]; exact hc⟩, h.pl.turn hi r, h.hw, fun e he => ?_, by simpa using hl, h.exs⟩, HF.grown t.2 (Or.inr (Or.inr rfl))⟩
  rcases List.mem_or_eq_of_mem_set he with q | q
  · exact h.nm e q
  · rw [q]; exact h.nm (atE L i) (List.mem_of_getElem? (atE_some hi))
theorem turn_none {w : World} {B hp mb : Nat} {most : Bool} {v : Value} {f : ByteArray → Option Nat} {L : List Ent} {mv : Int} (h : HS w B hp mb most v none f L mv) (s : ByteArray) (hs : s.size ≤ 9223372036854775807) (r : Int) (hf : f s = none) :
    Calls Try.prog 17 #[.pointer (some ⟨hp, 0, none⟩), .string s, .int .i64 r] w fun e w' => e = .returned (.iface 86 (.int .i64 4)) ∧ w' = w := by
  have CF : Hid _ := find_none h s hs hf
  clear h
  go_enter Try.func17, Try.ntmps17
  go_wp2_with fail
  refine Calls.mono CF.out ?_
  rintro e w1 ⟨rfl, hw1⟩
  subst hw1
  go_wp2_with fail
  go_ret
  exact ⟨rfl, rfl⟩
set_option maxRecDepth 100000 in
set_option maxHeartbeats 4000000 in
theorem turn_ok {w : World} {B hp mb : Nat} {most : Bool} {v : Value} {f : ByteArray → Option Nat} {L : List Ent} {mv : Int} (h : HS w B hp mb most v none f L mv) (s : ByteArray) (hs : s.size ≤ 9223372036854775807) (r : Int) (i : Nat) (hf : f s = some i) (hn : L.length ≤ 1099511627776) :
    Calls Try.prog 17 #[.pointer (some ⟨hp, 0, none⟩), .string s, .int .i64 r] w fun e w' => e = .returned .nilIface ∧ OP w B hp mb most v (mendL (ahd most) (L.set i (r, s)) i).1 ((mendL (ahd most) (L.set i (r, s)) i).2 : Nat) w' := by
  have CF : Hid _ := find_some h s hs i hf
  obtain ⟨hi, hnm⟩ := h.pl.lt (by simp) hf
  obtain ⟨a, cap, rfl, hg⟩ := h.form
  obtain ⟨g, rfl⟩ := hg (by omega)
  have c0 := h.c0
  obtain ⟨a1, _⟩ := h.at hi
  have z1 := World.ownsRow.frozenAt h.row (i * 2)
  obtain ⟨h2, fr2⟩ := h.ranked i hi r
  rw [hnm] at h2
  obtain ⟨W2, hW2⟩ : ∃ W2, W2 = w.setCell ⟨g, i * 2, none⟩ (.int .i64 r) := ⟨_, rfl⟩
  rw [← hW2] at h2 fr2
  have ud : UD W2 B hp mb most (.slice (some ⟨g, 0, none⟩) L.length cap) none L.length (L.set i (r, s)) mv W2 := ⟨⟨_, h2⟩, HF.refl _ _ _ _, by simp⟩
  have CM : Hid (Calls Try.prog 63 #[.pointer (some ⟨hp, 0, none⟩), .int .i64 (i : Int)] W2 fun e w' => e = .returned (.int .i64 (((mendL (ahd most) (L.set i (r, s)) i).2 : Nat) : Int)) ∧ (w'.frozen? ⟨hp, 3, none⟩ = false ∧ w'.cell? ⟨hp, 3, none⟩ = some (.int .i64 mv)) ∧ OP w B hp mb most (.slice (some ⟨g, 0, none⟩) L.length cap) (mendL (ahd most) (L.set i (r, s)) i).1 ((mendL (ahd most) (L.set i (r, s)) i).2 : Nat) (w'.setCell ⟨hp, 3, none⟩ (.int .i64 (((mendL (ahd most) (L.set i (r, s)) i).2 : Nat) : Int)))) := by
    refine (mend_any ud i hi (by omega)).mono fun e w2 hh => ?_
    obtain ⟨rfl, u2⟩ := hh
    obtain ⟨f2, hs2⟩ := u2.hs
    obtain ⟨m1, m2⟩ := hs2.setMoves (((mendL (ahd most) (L.set i (r, s)) i).2 : Nat) : Int)
    exact ⟨rfl, ⟨hs2.z3, hs2.c3⟩, ⟨⟨_, f2, m1, Or.inl rfl⟩, (HF.trans fr2 u2.fr).trans (m2 _)⟩⟩
  have i0 : (0 : Int) ≤ (i : Int) := Int.natCast_nonneg i
  have iI : (i : Int) < (L.length : Int) := Int.ofNat_lt.2 hi
  have hW2H : Hid (w.setCell ⟨g, i * 2, none⟩ (.int .i64 r) = W2) := hW2.symm
  generalize mendL (ahd most) (L.set i (r, s)) i = R at *
  clear h h2 fr2 ud hg hW2 hnm hn hs hf
  generalize L.length = n at *
  go_enter Try.func17, Try.ntmps17
  go_wp2_with fail
  refine Calls.mono CF.out ?_
  rintro e w1 ⟨rfl, hw1⟩
  subst hw1
  clear CF
  go_wp2_with fail
  rw [hW2H.out]
  clear hW2H c0 a1 z1
  refine Calls.mono CM.out ?_
  rintro e w2 ⟨rfl, ⟨z3, c3⟩, op0⟩
  have op : Hid _ := op0
  clear op0 CM
  go_wp2_with fail
  go_ret
  exact ⟨rfl, op.out⟩
theorem take_none {w : World} {B hp mb : Nat} {most : Bool} {v : Value} {f : ByteArray → Option Nat} {L : List Ent} {mv : Int} (h : HS w B hp mb most v none f L mv) (s : ByteArray) (hs : s.size ≤ 9223372036854775807) (hf : f s = none) :
    Calls Try.prog 16 #[.pointer (some ⟨hp, 0, none⟩), .string s] w fun e w' => e = .returned (.tuple #[eV (0, ⟨#[]⟩), .iface 86 (.int .i64 4)]) ∧ Below w.heap.size w w' := by
  have b1 : Hid (Below w.heap.size w (w.alloc (.cells #[.int .i64 0, .string ⟨#[]⟩] 24))) := (Below.refl _ w).alloc (Nat.le_refl _) _
  have CF : Hid _ := find_none (h.below b1.out) s hs hf
  clear h
  unfold eV
  go_enter Try.func16, Try.ntmps16
  go_wp2_with fail
  refine Calls.mono CF.out ?_
  rintro e w1 ⟨rfl, hw1⟩
  subst hw1
  go_wp2_with fail
  simp [bodyPost, results, Try.results16, go_sem]
  exact b1.out
end Go.Proofs.Ytcglgfcmhhbeaaa.Hp
