
import Derived.Test.YtaiomfkiiifcbaaHqD
namespace Go.Proofs.Ytaiomfkiiifcbaa.Hp
open Go.RowKit Go.Maps
set_option linter.unusedVariables false
set_option linter.unusedSimpArgs false
set_option maxRecDepth 100000
theorem fnd_top {L : List Ent} (nd : ND L) (hL : 0 < L.length) : fnd L (atE L 0).2 = some 0 ∧ topE L (atE L 0).2 = atE L 0 := by
  cases q : fnd L (atE L 0).2 with
  | none => exact absurd rfl (fnd_none.1 q _ (List.mem_of_getElem? (atE_some hL)))
  | some i =>
    obtain ⟨h1, h2⟩ := fnd_some q
    have := nd i 0 h1 hL h2
    subst this
    exact ⟨rfl, by unfold topE; rw [q]⟩
set_option maxHeartbeats 4000000 in
theorem pop_l {w : World} {B hp mb : Nat} {most : Bool} {v : Value} {f : ByteArray → Option Nat} {L : List Ent} {mv : Int} (h : HS w B hp mb most v none f L mv) (hL : 0 < L.length) (hn : L.length ≤ 1099511627776) :
    Calls Try.prog 12 #[.pointer (some ⟨hp, 0, none⟩)] w fun e w' => e = .returned (.tuple #[eV (atE L 0), .nilIface]) ∧ ∃ mv', OP w B hp mb most v (takL most L (atE L 0).2) mv' w' := by
  have hl := h.hl
  have mlt : mb < w.heap.size := by obtain ⟨_, m, _⟩ := h.mp; exact m.lt
  have rb : ∀ k, v.ownBlock = some k → k < w.heap.size := fun k e => (World.ownsRow.lt h.row k e).2
  obtain ⟨ft, tt⟩ := fnd_top h.pl.nd hL
  have hy : (atE L 0).2.size ≤ 9223372036854775807 := h.nm _ (List.mem_of_getElem? (atE_some hL))
  obtain ⟨W0, hW0⟩ : ∃ W0, W0 = w.alloc (.cells #[.int .i64 0, .string ⟨#[]⟩] 32) := ⟨_, rfl⟩
  have b0 : Below w.heap.size w W0 := by rw [hW0]; exact (Below.refl _ w).alloc (Nat.le_refl _) _
  have s0 : W0.heap.size = w.heap.size + 1 := by rw [hW0]; simp
  have p0 : W0.cell? ⟨w.heap.size, 0, none⟩ = some (.int .i64 0) ∧ W0.cell? ⟨w.heap.size, 1, none⟩ = some (.string ⟨#[]⟩) ∧ W0.frozen? ⟨w.heap.size, 0, none⟩ = false ∧ W0.frozen? ⟨w.heap.size, 1, none⟩ = false := by rw [hW0]; refine ⟨?_, ?_, ?_, ?_⟩ <;> simp [go_sem]
  have CT0 : Hid _ := top_some (h.below b0) hL
  have NX : Hid (∀ w1, Below W0.heap.size W0 w1 → Calls Try.prog 17 #[.pointer (some ⟨hp, 0, none⟩), .string (atE L 0).2] (w1.alloc (.cells #[.int .i64 (atE L 0).1, .string (atE L 0).2] 32)) fun e w2 => e = .returned (.tuple #[eV (atE L 0), .nilIface]) ∧ (w2.cell? ⟨w.heap.size, 0, none⟩ = some (.int .i64 0) ∧ w2.cell? ⟨w.heap.size, 1, none⟩ = some (.string ⟨#[]⟩) ∧ w2.frozen? ⟨w.heap.size, 0, none⟩ = false ∧ w2.frozen? ⟨w.heap.size, 1, none⟩ = false) ∧ ∀ w3, w2.grownBy w3 (some w.heap.size) → ∃ mv', OP w B hp mb most v (takL most L (atE L 0).2) mv' w3) := fun w1 b1 => by
    obtain ⟨W2, hW2⟩ : ∃ W2, W2 = w1.alloc (.cells #[.int .i64 (atE L 0).1, .string (atE L 0).2] 32) := ⟨_, rfl⟩
    rw [← hW2]
    have b12 : Below w1.heap.size w1 W2 := by rw [hW2]; exact (Below.refl _ w1).alloc (Nat.le_refl _) _
    have b2 : Below W0.heap.size W0 W2 := below_trans b1 (below_less b12 b1.size)
    have bb : Below w.heap.size w W2 := below_trans b0 (below_less b2 b0.size)
    refine (tak_l (h.below bb) (atE L 0).2 hy hn).mono fun e w2 hh => ?_
    obtain ⟨e1, mv', op⟩ := hh
    rw [ft, tt] at e1
    refine ⟨e1, ?_, fun w3 g3 => ⟨mv', op.over bb g3 (Nat.le_refl _) (by have := b2.size; omega) hl mlt rb⟩⟩
    have kK : w2.heap[w.heap.size]? = W2.heap[w.heap.size]? := op.fr.keep _ (by have := b2.size; omega) (by omega) (by omega) (fun e => by have := rb _ e.symm; omega)
    have kK0 : w2.heap[w.heap.size]? = W0.heap[w.heap.size]? := kK.trans (b2.block _ (by omega))
    exact ⟨by rw [World.cell?_of_block (w := W0) (a := ⟨w.heap.size, 0, none⟩) kK0]; exact p0.1, by rw [World.cell?_of_block (w := W0) (a := ⟨w.heap.size, 1, none⟩) kK0]; exact p0.2.1, by have := p0.2.2.1; simp only [World.frozen?, kK0] at *; exact this, by have := p0.2.2.2; simp only [World.frozen?, kK0] at *; exact this⟩
  unfold eV at CT0 NX ⊢
  have hW0H : Hid (w.alloc (.cells #[.int .i64 0, .string ⟨#[]⟩] 32) = W0) := hW0.symm
  clear h hW0 b0 s0 p0 hy tt ft rb mlt hl
  generalize takL most L (atE L 0).2 = M at *
  generalize atE L 0 = y at *
  go_enter Try.func12, Try.ntmps12
  go_wp2_with fail
  rw [hW0H.out]
  refine Calls.mono CT0.out ?_
  rintro e w1 ⟨rfl, b1⟩
  have CK : Hid _ := NX.out w1 b1
  clear NX CT0 b1 hW0H
  go_wp2_with fail
  refine Calls.mono CK.out ?_
  rintro e w2 ⟨rfl, ⟨q0, q1, q2, q3⟩, op0⟩
  have op : Hid _ := op0
  clear op0 CK
  go_wp2_with fail
  have p0 := World.cell?_setCell_same w2 ⟨w.heap.size, 0, none⟩ (.int .i64 y.1) q0
  have p1 := World.cell?_setCell_same (w2.setCell ⟨w.heap.size, 0, none⟩ (.int .i64 y.1)) ⟨w.heap.size, 1, none⟩ (.string y.2) (by rw [World.cell?_setCell_other _ _ _ _ (by intro e; injection e; omega)]; exact q1)
  simp [bodyPost, results, Try.results12, go_sem, p0, p1]
  exact op.out _ (two_set _ _ _ _)
end Go.Proofs.Ytaiomfkiiifcbaa.Hp
