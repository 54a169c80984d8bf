
import Derived.Test.YtepgcgphnjlcoaaDoorWwFq
namespace Go.Proofs.YtepgcgphnjlcoaaDoor
open Go.RowKit
set_option linter.unusedVariables false
set_option linter.unusedSimpArgs false
theorem WS.bytes {N : Nat} {w1 wx : World} {fr : Int} {v : Value} {l : List Nat} (h : WS N w1 fr v l.length (enc l) wx) (hl : ∀ y ∈ l, y < 256) (hb : l.length ≤ 140737488355327) : ∃ a cap, v = .slice a l.length cap ∧ BytesIn wx a l.length (natsOf l) := by
  rcases Nat.eq_zero_or_pos l.length with h0 | h0
  · rcases h.own.2 with ⟨e, e0⟩ | ⟨g, cap, cur, e1, _⟩
    · exact ⟨none, 0, by rw [e, h0], hb, Or.inl h0⟩
    · exact ⟨_, cap, e1, hb, Or.inl h0⟩
  · obtain ⟨g, cap, rfl, hg, hgl⟩ := h.own.form h0
    exact ⟨_, cap, rfl, hb, Or.inr ⟨g, 0, rfl, hgl, bytes_own h.own hl⟩⟩
theorem clone_nil (w : World) : Calls Tryd.prog 28 #[.slice none 0 0] w fun e w' => e = .returned (.slice none 0 0) ∧ w' = w := by
  have hnil : ∀ w0 : World, (binOp .eql 23 (.slice none 0 0) (.slice none 0 0)).run Tryd.prog w0 = .ok (.bool true) w0 := fun w0 => Go.Lib.run_eql_slice_nil w0 23 5 none 0 0 0 0 Tryd.underlying23
  go_enter Tryd.func28, Tryd.ntmps28
  go_wp2_with fail
  go_ret
  exact ⟨rfl, rfl⟩
theorem clone_none (g c : Nat) (w : World) : Calls Tryd.prog 28 #[.slice (some ⟨g, 0, none⟩) 0 c] w fun e w' => (∃ a c', e = .returned (.slice a 0 c')) ∧ Below w.heap.size w w' := by
  have hnil : ∀ w0 : World, (binOp .eql 23 (.slice (some ⟨g, 0, none⟩) 0 c) (.slice none 0 0)).run Tryd.prog w0 = .ok (.bool false) w0 := fun w0 => Go.Lib.run_eql_slice_nil w0 23 5 (some ⟨g, 0, none⟩) 0 c 0 0 Tryd.underlying23
  have hown : (w.alloc (.cells #[] 5)).ownsRow w.heap.size 5 1 (.slice (some ⟨w.heap.size, 0, none⟩) 0 0) 0 (enc []) := World.ownsRow_lit w #[] 0 (Nat.le_refl _) (by omega) (by simp)
  obtain ⟨g', c', w', hr, ho, hgrow, _⟩ := app_any2 w.heap.size w.heap.size 0 0 0 [] [] _ (some ⟨g, 0, none⟩) c hown rfl (Or.inl rfl) (by omega) (by simp)
  have hB := below_grown (below_new (Below.refl _ w) (.cells #[] 5)) hgrow (fun k e => by injection e with e; omega)
  have hrH : Hid _ := hr
  clear hr ho hgrow hown
  go_enter Tryd.func28, Tryd.ntmps28
  go_wp2_with (at_builtin; refine wpList_append_run2 (by rfl) _ _ _ _ (by rfl) _ _ _ _ (by rfl) (by rfl) hrH.out ?_)
  go_wp2_with fail
  go_ret
  exact ⟨⟨_, _, rfl⟩, hB⟩
theorem bytesB (N : Nat) (w1 : World) (fr : Int) (v : Value) (l : List Nat) (w : World) (h : WS N w1 fr v l.length (enc l) w) (hl : ∀ y ∈ l, y < 256) (hb : l.length ≤ 140737488355327) :
    Calls Tryd.prog 6 #[.pointer (some ⟨N, 0, none⟩)] w fun e w' => ∃ a c, e = .returned (.slice a l.length c) ∧ BytesIn w' a l.length (natsOf l) ∧ Below w.heap.size w w' := by
  rcases Nat.eq_zero_or_pos l.length with h0 | h0
  · obtain rfl : l = [] := List.eq_nil_of_length_eq_zero h0
    have c0 := h.c0
    rcases h.own.2 with ⟨e, e0⟩ | ⟨g, cap, cur, e1, _⟩
    · subst e
      go_enter Tryd.func6, Tryd.ntmps6
      go_wp2_with fail
      refine (clone_nil _).mono ?_
      rintro e w' ⟨rfl, rfl⟩
      go_wp2_with fail
      go_ret
      exact ⟨none, 0, rfl, ⟨by simp, Or.inl rfl⟩, Below.refl _ _⟩
    · subst e1
      go_enter Tryd.func6, Tryd.ntmps6
      go_wp2_with fail
      refine (clone_none g cap _).mono ?_
      rintro e w' ⟨⟨a, c', rfl⟩, hB⟩
      go_wp2_with fail
      go_ret
      exact ⟨a, c', rfl, ⟨by simp, Or.inl rfl⟩, hB⟩
  · refine (bytes_any N w1 fr v l.length (enc l) w h (enc_one l) h0 (by omega)).mono ?_
    rintro e w' ⟨g', cap', rfl, ho, hB⟩
    exact ⟨_, cap', rfl, ⟨hb, Or.inr ⟨g', 0, rfl, (ho.lt g' rfl).2, bytes_own ho hl⟩⟩, hB⟩
set_option maxRecDepth 100000 in
theorem same_in (a1 a2 : Option Addr) (m c1 c2 : Nat) (bs : Nat → Nat) (w : World) (h1 : BytesIn w a1 m bs) (h2 : BytesIn w a2 m bs) :
    Calls Tryd.prog 13 #[.slice a1 m c1, .slice a2 m c2] w fun e w' => e = .returned (.bool true) ∧ Below w.heap.size w w' := by
  rcases Nat.eq_zero_or_pos m with h0 | hp
  · subst h0
    go_enter Tryd.func13, Tryd.ntmps13
    go_wp2_with fail
    go_loopw [5] (fun i wr => i = .int .i64 0 ∧ wr = w) (fun i _ => 0)
    case atStart => exact ⟨rfl, rfl⟩
    case round =>
      obtain ⟨rfl, rfl⟩ := hrel
      go_wp2_with fail
      go_ret
      exact ⟨rfl, Below.refl _ _⟩
  · rcases h1.2 with h0 | ⟨b1, o1, rfl, hb1, hB1⟩
    · omega
    rcases h2.2 with h0 | ⟨b2, o2, rfl, hb2, hB2⟩
    · omega
    · exact same_true b1 o1 c1 b2 o2 c2 m bs w (by have := h1.1; omega) hB1 hB2
end Go.Proofs.YtepgcgphnjlcoaaDoor
