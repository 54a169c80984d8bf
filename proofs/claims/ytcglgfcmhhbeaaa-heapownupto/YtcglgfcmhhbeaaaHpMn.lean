
import Derived.Test.YtcglgfcmhhbeaaaHpL
namespace Go.Proofs.Ytcglgfcmhhbeaaa.Hp
open Go.RowKit Go.Maps
set_option linter.unusedVariables false
set_option linter.unusedSimpArgs false
set_option maxRecDepth 100000
def L3 : List Ent := [(1, ⟨#[97]⟩), (2, ⟨#[98]⟩), (3, ⟨#[99]⟩)]
theorem bld3 : bldL (ahd true) (3 / 2) (L3, 0) = ([(3, ⟨#[99]⟩), (2, ⟨#[98]⟩), (1, ⟨#[97]⟩)], 1) := by
  have k0 : kidL (ahd true) L3 0 = 2 := by decide
  have d0 : downL (ahd true) L3 0 = ([(3, ⟨#[99]⟩), (2, ⟨#[98]⟩), (1, ⟨#[97]⟩)], 1) := by
    rw [downL_go (by rw [k0]; decide) (by rw [k0]; decide), k0]
    have e : swp L3 0 2 = [(3, ⟨#[99]⟩), (2, ⟨#[98]⟩), (1, ⟨#[97]⟩)] := rfl
    rw [e, downL_stop (by rintro ⟨q, _⟩; rcases kidL_two (ahd true) [(3, ⟨#[99]⟩), (2, ⟨#[98]⟩), (1, ⟨#[97]⟩)] 2 with k | k <;> rw [k] at q <;> simp at q)]
  show bldL (ahd true) 0 ((downL (ahd true) L3 0).1, 0 + (downL (ahd true) L3 0).2) = _
  rw [d0]
  rfl
theorem kn3 : ¬ ∃ j, j < L3.length ∧ kn (L3.take j) (atE L3 j).2 = true := by
  rintro ⟨j, hj, hk⟩
  have hj3 : j < 3 := hj
  have : j = 0 ∨ j = 1 ∨ j = 2 := by omega
  rcases this with rfl | rfl | rfl <;> revert hk <;> decide
set_option maxRecDepth 100000 in
set_option maxHeartbeats 4000000 in
theorem live_any (w : World) : Calls Try.prog 12 #[] w fun e w' => e = .returned (.bool true) ∧ Below w.heap.size w w' := by
  obtain ⟨W1, hW1⟩ : ∃ W1, W1 = w.alloc (.cells #[.int .i64 1, .string ⟨#[97]⟩, .int .i64 2, .string ⟨#[98]⟩, .int .i64 3, .string ⟨#[99]⟩] 24) := ⟨_, rfl⟩
  have b1 : Below w.heap.size w W1 := by rw [hW1]; exact (Below.refl _ w).alloc (Nat.le_refl _) _
  have s1 : W1.heap.size = w.heap.size + 1 := by rw [hW1]; simp
  have en : EnIn W1 (some ⟨w.heap.size, 0, none⟩) L3 := by
    refine Or.inr ⟨_, _, rfl, by omega, fun i t ht => ?_⟩
    have hi : i < 3 := (List.getElem?_eq_some_iff.1 ht).1
    have : i = 0 ∨ i = 1 ∨ i = 2 := by omega
    rw [hW1]
    rcases this with rfl | rfl | rfl <;> (injection ht with ht; subst ht; constructor <;> simp [go_sem])
  have CB : Hid (Calls Try.prog 11 #[.bool true, .slice (some ⟨w.heap.size, 0, none⟩) 3 3] W1 fun e w' => e = .returned (.tuple #[.pointer (some ⟨w.heap.size + 2, 0, none⟩), .nilIface]) ∧ GB W1 (w.heap.size + 2) (w.heap.size + 1) true [(3, ⟨#[99]⟩), (2, ⟨#[98]⟩), (1, ⟨#[97]⟩)] 1 w') := by
    refine (build_any true (some ⟨w.heap.size, 0, none⟩) 3 L3 W1 en (by intro e he; simp [L3] at he; rcases he with rfl | rfl | rfl <;> decide) (by decide)).mono fun e w' hh => ?_
    rcases hh.1 with ⟨er, _, q⟩ | ⟨q1, q2⟩
    · exact absurd q kn3
    · rw [s1] at q1 q2
      have e3 : L3.length = 3 := rfl
      rw [e3, bld3] at q2
      exact ⟨q1, q2⟩
  have NX : Hid (∀ w', GB W1 (w.heap.size + 2) (w.heap.size + 1) true [(3, ⟨#[99]⟩), (2, ⟨#[98]⟩), (1, ⟨#[97]⟩)] 1 w' → Below w.heap.size w w' ∧ Calls Try.prog 25 #[.pointer (some ⟨w.heap.size + 2, 0, none⟩)] w' fun e w2 => e = .returned (.tuple #[eV (3, ⟨#[99]⟩), .bool true]) ∧ Below w.heap.size w w2 ∧ ∀ W, Below w2.heap.size w2 W → (Calls Try.prog 28 #[.pointer (some ⟨w.heap.size + 2, 0, none⟩)] W fun e w3 => e = .returned (.int .i64 3) ∧ w3 = W) ∧ Calls Try.prog 29 #[.pointer (some ⟨w.heap.size + 2, 0, none⟩)] W fun e w3 => e = .returned (.int .i64 1) ∧ w3 = W) := fun w' gb => by
    have bb : Below w.heap.size w w' := below_trans b1 (below_less gb.bl (by omega))
    obtain ⟨v, f, hs⟩ := gb.hs
    refine ⟨bb, (top_some hs (by decide)).mono fun e w2 hh => ⟨hh.1, below_trans bb (below_less hh.2 bb.size), fun W hW => ?_⟩⟩
    have h2 := (hs.below hh.2).below hW
    exact ⟨len_any h2, moves_any h2⟩
  unfold eV at NX
  have hW1H : Hid (w.alloc (.cells #[.int .i64 1, .string ⟨#[97]⟩, .int .i64 2, .string ⟨#[98]⟩, .int .i64 3, .string ⟨#[99]⟩] 24) = W1) := hW1.symm
  clear hW1 b1 s1 en
  go_enter Try.func12, Try.ntmps12
  go_wp2_with fail
  rw [hW1H.out]
  refine Calls.mono CB.out ?_
  rintro e w1 ⟨rfl, gb⟩
  obtain ⟨bb, CT0⟩ := NX.out w1 gb
  have CT1 : Hid _ := CT0
  clear CT0 NX gb CB hW1H bb
  go_wp2_with fail
  refine Calls.mono CT1.out ?_
  rintro e w2 ⟨rfl, b2, CM0⟩
  have CM : Hid _ := CM0
  have b2H : Hid (Below w.heap.size w w2) := b2
  clear CM0 CT1 b2
  go_wp2_with fail
  have bA : Below w2.heap.size w2 (w2.alloc (.cells #[.int .i64 3, .string ⟨#[99]⟩] 24)) := (Below.refl _ w2).alloc (Nat.le_refl _) _
  obtain ⟨CL0, CM0⟩ := CM.out _ bA
  have CL : Hid _ := CL0
  have CM1 : Hid _ := CM0
  have fin : Hid (Below w.heap.size w (w2.alloc (.cells #[.int .i64 3, .string ⟨#[99]⟩] 24))) := below_trans b2H.out (below_less bA b2H.out.size)
  clear CL0 CM0 CM bA b2H
  refine Calls.mono CL.out ?_
  rintro e w3 ⟨rfl, hw3⟩
  subst hw3
  go_wp2_with fail
  refine Calls.mono CM1.out ?_
  rintro e w3 ⟨rfl, hw3⟩
  subst hw3
  go_wp2_with fail
  go_ret
  exact ⟨rfl, fin.out⟩
end Go.Proofs.Ytcglgfcmhhbeaaa.Hp
