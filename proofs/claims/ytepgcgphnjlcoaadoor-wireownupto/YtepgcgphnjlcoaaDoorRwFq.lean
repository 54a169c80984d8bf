
import Derived.Test.YtepgcgphnjlcoaaDoorRwDq
namespace Go.Proofs.YtepgcgphnjlcoaaDoor
open Go.RowKit
set_option linter.unusedVariables false
set_option linter.unusedSimpArgs false
section
variable {N : Nat} {w1 : World} {a : Option Addr} {n cap p r : Nat} {bs : Nat → Nat} {w : World}
end
theorem clone_none4 (g off c : Nat) (w : World) : Calls Tryd.prog 28 #[.slice (some ⟨g, off, none⟩) 0 c] w fun e w' => (∃ g c', e = .returned (.slice (some ⟨g, 0, none⟩) 0 c') ∧ w.heap.size ≤ g ∧ g < w'.heap.size) ∧ Below w.heap.size w w' := by
  have hnil : ∀ w0 : World, (binOp .eql 23 (.slice (some ⟨g, off, none⟩) 0 c) (.slice none 0 0)).run Tryd.prog w0 = .ok (.bool false) w0 := fun w0 => Go.Lib.run_eql_slice_nil w0 23 5 (some ⟨g, off, none⟩) 0 c 0 0 Tryd.underlying23
  have hown : (w.alloc (.cells #[] 5)).ownsRow w.heap.size 5 1 (.slice (some ⟨w.heap.size, 0, none⟩) 0 0) 0 (enc []) := World.ownsRow_lit w #[] 0 (Nat.le_refl _) (by omega) (by simp)
  obtain ⟨g', c', w', hr, ho, hgrow, _⟩ := app_any2 w.heap.size w.heap.size 0 0 0 [] [] _ (some ⟨g, off, none⟩) c hown rfl (Or.inl rfl) (by omega) (by simp)
  have hB := below_grown (below_new (Below.refl _ w) (.cells #[] 5)) hgrow (fun k e => by injection e with e; omega)
  have hrH : Hid _ := hr
  have hgl := ho.lt g' rfl
  clear hr ho hgrow hown
  go_enter Tryd.func28, Tryd.ntmps28
  go_wp2_with (at_builtin; refine wpList_append_run2 (by rfl) _ _ _ _ (by rfl) _ _ _ _ (by rfl) (by rfl) hrH.out ?_)
  go_wp2_with fail
  go_ret
  exact ⟨⟨_, _, rfl, hgl.1, hgl.2⟩, hB⟩
theorem clone_none3 (g off c : Nat) (w : World) : Calls Tryd.prog 28 #[.slice (some ⟨g, off, none⟩) 0 c] w fun e w' => (∃ g' c', e = .returned (.slice (some ⟨g', 0, none⟩) 0 c')) ∧ Below w.heap.size w w' :=
  (clone_none4 g off c w).mono fun e w' h => by obtain ⟨⟨g', c', he, _⟩, hB⟩ := h; exact ⟨⟨g', c', he⟩, hB⟩
theorem bytesB2 (N : Nat) (w1 : World) (fr : Int) (v : Value) (l : List Nat) (w : World) (h : WS N w1 fr v l.length (enc l) w) (hl : ∀ y ∈ l, y < 256) (hb : l.length ≤ 140737488355327) :
    Calls Tryd.prog 6 #[.pointer (some ⟨N, 0, none⟩)] w fun e w' => ((e = .returned (.slice none 0 0) ∧ l = []) ∨ ∃ g o c, e = .returned (.slice (some ⟨g, o, none⟩) l.length c) ∧ BytesIn w' (some ⟨g, o, none⟩) l.length (natsOf l)) ∧ Below w.heap.size w w' := by
  rcases Nat.eq_zero_or_pos l.length with h0 | h0
  · obtain rfl : l = [] := List.eq_nil_of_length_eq_zero h0
    have c0 := h.c0
    rcases h.own.2 with ⟨e, e0⟩ | ⟨g, cap, cur, e1, _⟩
    · subst e
      go_enter Tryd.func6, Tryd.ntmps6
      go_wp2_with fail
      refine (clone_nil _).mono ?_
      rintro e w' ⟨rfl, rfl⟩
      go_wp2_with fail
      go_ret
      exact ⟨Or.inl ⟨rfl, by trivial⟩, Below.refl _ _⟩
    · subst e1
      go_enter Tryd.func6, Tryd.ntmps6
      go_wp2_with fail
      refine (clone_none3 g 0 cap _).mono ?_
      rintro e w' ⟨⟨g', c', rfl⟩, hB⟩
      go_wp2_with fail
      go_ret
      exact ⟨Or.inr ⟨g', 0, c', rfl, by simp, Or.inl rfl⟩, hB⟩
  · refine (bytes_any N w1 fr v l.length (enc l) w h (enc_one l) h0 (by omega)).mono ?_
    rintro e w' ⟨g', cap', rfl, ho, hB⟩
    exact ⟨Or.inr ⟨g', 0, cap', rfl, hb, Or.inr ⟨g', 0, rfl, (ho.lt g' rfl).2, bytes_own ho hl⟩⟩, hB⟩
/-- a Clone, and that its room is as long as it is. -/
theorem clone_cap (b o m c : Nat) (bs : Nat → Nat) (w : World) (h : BytesIn w (some ⟨b, o, none⟩) m bs) : Calls Tryd.prog 28 #[.slice (some ⟨b, o, none⟩) m c] w fun e w' => (∃ g c', e = .returned (.slice (some ⟨g, 0, none⟩) m c') ∧ m ≤ c' ∧ w.heap.size ≤ g ∧ g < w'.heap.size ∧ (m = 0 ∨ BytesAt w' g 0 m bs)) ∧ Below w.heap.size w w' := by
  rcases Nat.eq_zero_or_pos m with h0 | h0
  · subst h0
    refine (clone_none4 b o c w).mono ?_
    rintro e w' ⟨⟨g, c', rfl, hg1, hg2⟩, hB⟩
    exact ⟨⟨g, c', rfl, by omega, hg1, hg2, Or.inl rfl⟩, hB⟩
  · rcases h.2 with h1 | ⟨b', o', e, hb, hB⟩
    · omega
    injection e with e; injection e with e1 e2; subst e1 e2
    have hlt : ∀ i, i < m → bs i < 256 := fun i hi => (hB i hi).2
    have hm := h.1
    have hN : BytesAt w b o (bytesL bs m).length (natsOf (bytesL bs m)) := by
      intro i hi
      have hi' : i < m := by simpa [bytesL] using hi
      rw [nats_bytesL bs m i hi']; exact hB i hi'
    have hbl : (bytesL bs m).length = m := by simp [bytesL]
    refine (clone_any b o m c (enc (bytesL bs m)) w (by rw [enc_len, hbl]) (bytes_news hN) (enc_one _) h0 (by omega)).mono ?_
    rintro e w' ⟨g', cap', rfl, ho, hBe⟩
    have hcap : m ≤ cap' := by
      rcases ho.2 with ⟨hq, _⟩ | ⟨g0, cap0, cur, hq, _, _, hnc, _⟩
      · cases hq
      · cases hq; exact hnc
    refine ⟨⟨g', cap', rfl, hcap, (ho.lt g' rfl).1, (ho.lt g' rfl).2, Or.inr fun i hi => ?_⟩, hBe⟩
    have := bytes_own ho (bytesL_lt hlt) i hi
    rw [nats_bytesL bs m i hi] at this
    exact this
/-- NewReader, over what was written. -/
theorem new_ok (b o m c : Nat) (bs : Nat → Nat) (w : World) (h : BytesIn w (some ⟨b, o, none⟩) m bs) : Calls Tryd.prog 9 #[.slice (some ⟨b, o, none⟩) m c] w fun e w' => ∃ N a cap, e = .returned (.pointer (some ⟨N, 0, none⟩)) ∧ w.heap.size ≤ N ∧ RR N w' a m cap bs 0 0 none w' ∧ Below w.heap.size w w' := by
  have hC : Hid (∀ w', Below w.heap.size w w' → _) := fun w' hb => clone_cap b o m c bs w' (h.below hb)
  have hm := h.1
  clear h
  go_enter Tryd.func9, Tryd.ntmps9
  go_wp2_with fail
  refine Calls.mono (hC.out _ (Below.refl _ _)) ?_
  rintro e w2 ⟨⟨g, c', rfl, hc', hg1, hg2, hB⟩, hBe⟩
  have hRR : RR w2.heap.size (w2.alloc (.cells #[.slice (some ⟨g, 0, none⟩) m c', .int .i64 0, .int .i64 0, .nilIface] 97)) (some ⟨g, 0, none⟩) m c' bs 0 0 none (w2.alloc (.cells #[.slice (some ⟨g, 0, none⟩) m c', .int .i64 0, .int .i64 0, .nilIface] 97)) := by
    refine ⟨by simp [go_sem], by simp [go_sem], by simp [go_sem], by simp [go_sem, fvV], by simp [go_sem], by simp [go_sem], by simp [go_sem], ?_, hm, hc', by omega, by omega, fun h => absurd rfl h, Below.refl _ _, by simp⟩
    rcases hB with h0 | hB
    · exact Or.inl h0
    · exact Or.inr ⟨g, 0, rfl, by simp; omega, by omega, hB.below ((Below.refl _ w2).alloc (Nat.le_refl _) _) hg2⟩
  have hRRH : Hid _ := hRR
  have hBe2 := hBe.size
  clear hRR hB
  go_wp2_with fail
  go_ret
  exact ⟨w2.heap.size, _, c', rfl, hBe2, hRRH.out, below_new hBe _⟩
theorem new_nil (bs : Nat → Nat) (w : World) : Calls Tryd.prog 9 #[.slice none 0 0] w fun e w' => ∃ N a cap, e = .returned (.pointer (some ⟨N, 0, none⟩)) ∧ w.heap.size ≤ N ∧ RR N w' a 0 cap bs 0 0 none w' ∧ Below w.heap.size w w' := by
  go_enter Tryd.func9, Tryd.ntmps9
  go_wp2_with fail
  refine (clone_nil _).mono ?_
  rintro e w2 ⟨rfl, hw⟩
  have hw' := hw.symm
  subst hw'
  clear hw
  have hRR : RR w.heap.size (w.alloc (.cells #[.slice none 0 0, .int .i64 0, .int .i64 0, .nilIface] 97)) none 0 0 bs 0 0 none (w.alloc (.cells #[.slice none 0 0, .int .i64 0, .int .i64 0, .nilIface] 97)) :=
    ⟨by simp [go_sem], by simp [go_sem], by simp [go_sem], by simp [go_sem, fvV], by simp [go_sem], by simp [go_sem], by simp [go_sem], Or.inl rfl, by omega, by omega, by omega, by omega, fun h => absurd rfl h, Below.refl _ _, by simp⟩
  have hRRH : Hid _ := hRR
  clear hRR
  go_wp2_with fail
  go_ret
  exact ⟨w.heap.size, _, 0, rfl, Nat.le_refl _, hRRH.out, below_new (Below.refl _ _) _⟩
end Go.Proofs.YtepgcgphnjlcoaaDoor
