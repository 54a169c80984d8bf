
import Derived.Test.YtcglgfcmhhbeaaaHpJ
namespace Go.Proofs.Ytcglgfcmhhbeaaa.Hp
open Go.RowKit Go.Maps
set_option linter.unusedVariables false
set_option linter.unusedSimpArgs false
set_option maxRecDepth 100000
/-- the moves are few for how many there are. -/
def few (L : List Ent) (mv : Int) : Prop := ∃ m : Nat, mv = (m : Int) ∧ (0 < L.length → 2 ^ m ≤ L.length) ∧ (L.length = 0 → m = 0)
/-- behind a call that may change a heap. -/
def CH (w : World) (B hp mb : Nat) (most : Bool) (v : Value) (L : List Ent) (mv : Int) (w' : World) : Prop := ∃ L' mv', OP w B hp mb most v L' mv' w' ∧ (few L mv → few L' mv') ∧ L'.length ≤ L.length + 1
theorem CH.same {w w' : World} {B hp mb : Nat} {most : Bool} {v : Value} {f : ByteArray → Option Nat} {L : List Ent} {mv : Int} (h : HS w B hp mb most v none f L mv) (hb : Below w.heap.size w w') : CH w B hp mb most v L mv w' :=
  ⟨L, mv, ⟨⟨v, f, h.below hb, Or.inl rfl⟩, HF.below hb⟩, fun q => q, by omega⟩
theorem put_any {w : World} {B hp mb : Nat} {most : Bool} {v : Value} {f : ByteArray → Option Nat} {L : List Ent} {mv : Int} (h : HS w B hp mb most v none f L mv) (hBw : B ≤ w.heap.size) (x : Ent) (hx : x.2.size ≤ 9223372036854775807) (hn : L.length + 1 ≤ 1099511627776) :
    Calls Try.prog 9 #[.pointer (some ⟨hp, 0, none⟩), eV x] w fun e w' => (∃ r, e = .returned r) ∧ CH w B hp mb most v L mv w' := by
  by_cases hf : f x.2 = none
  · refine (put_ok h hBw x hx hf hn).mono fun e w' hh => ⟨⟨_, hh.1⟩, _, _, hh.2, fun _ => ⟨_, rfl, fun _ => ?_, fun q => ?_⟩, ?_⟩
    · have := upL_few (ahd most) L.length (L ++ [x]) L.length (Nat.le_refl _)
      have e := upL_len (ahd most) L.length (L ++ [x]) L.length (Nat.le_refl _)
      rw [e]; simpa using this
    · have e := upL_len (ahd most) L.length (L ++ [x]) L.length (Nat.le_refl _)
      rw [e] at q; simp at q
    · have e := upL_len (ahd most) L.length (L ++ [x]) L.length (Nat.le_refl _)
      rw [e]; simp
  · exact (put_known h x hx hf).mono fun e w' hh => ⟨⟨_, hh.1⟩, CH.same h hh.2⟩
theorem turn_any {w : World} {B hp mb : Nat} {most : Bool} {v : Value} {f : ByteArray → Option Nat} {L : List Ent} {mv : Int} (h : HS w B hp mb most v none f L mv) (s : ByteArray) (hs : s.size ≤ 9223372036854775807) (r : Int) (hn : L.length ≤ 1099511627776) :
    Calls Try.prog 17 #[.pointer (some ⟨hp, 0, none⟩), .string s, .int .i64 r] w fun e w' => (∃ r, e = .returned r) ∧ CH w B hp mb most v L mv w' := by
  cases hf : f s with
  | none => exact (turn_none h s hs r hf).mono fun e w' hh => ⟨⟨_, hh.1⟩, by rw [hh.2]; exact CH.same h (Below.refl _ _)⟩
  | some i =>
    obtain ⟨hi, _⟩ := h.pl.lt (by simp) hf
    refine (turn_ok h s hs r i hf hn).mono fun e w' hh => ⟨⟨_, hh.1⟩, _, _, hh.2, fun _ => ⟨_, rfl, fun _ => ?_, fun q => ?_⟩, ?_⟩
    · have := mendL_few (ahd most) (L.set i (r, s)) i (by simpa using hi)
      rw [mendL_len]; exact this
    · rw [mendL_len] at q; simp at q; rw [q] at hi; simp at hi
    · rw [mendL_len]; simp
theorem take_any {w : World} {B hp mb : Nat} {most : Bool} {v : Value} {f : ByteArray → Option Nat} {L : List Ent} {mv : Int} (h : HS w B hp mb most v none f L mv) (s : ByteArray) (hs : s.size ≤ 9223372036854775807) (hn : L.length ≤ 1099511627776) :
    Calls Try.prog 16 #[.pointer (some ⟨hp, 0, none⟩), .string s] w fun e w' => (∃ (y : Ent) (r : Value), e = .returned (.tuple #[eV y, r])) ∧ CH w B hp mb most v L mv w' := by
  cases hf : f s with
  | none => exact (take_none h s hs hf).mono fun e w' hh => ⟨⟨_, _, hh.1⟩, CH.same h hh.2⟩
  | some i =>
    obtain ⟨hi, hnm⟩ := h.pl.lt (by simp) hf
    obtain ⟨M, x, rfl⟩ := cut_form (L := L) (by omega)
    have LL : (M ++ [x]).length = M.length + 1 := by simp
    by_cases hne : x.2 = s
    · refine (take_last h s hs hne (by omega)).mono fun e w' hh => ⟨⟨_, _, hh.1⟩, _, _, hh.2, fun _ => ⟨0, rfl, fun q => ?_, fun _ => rfl⟩, by omega⟩
      rw [Nat.pow_zero]; exact q
    · obtain ⟨hi2, _⟩ := h.pl.cutOver hf (by rw [atE_last]; exact hne)
      refine (take_over h s hs i hf hne (by omega)).mono fun e w' hh => ⟨⟨_, _, hh.1⟩, _, _, hh.2, fun _ => ⟨_, rfl, fun _ => ?_, fun q => ?_⟩, ?_⟩
      · have := mendL_few (ahd most) (M.set i x) i (by simp; omega)
        rw [mendL_len]; exact this
      · rw [mendL_len] at q; simp at q; rw [q] at hi2; simp at hi2
      · rw [mendL_len]; simp; omega
theorem OP.over {w w1 w' w'' : World} {B hp mb K : Nat} {most : Bool} {v : Value} {L : List Ent} {mv : Int} (b : Below w.heap.size w w1) (o : OP w1 B hp mb most v L mv w') (g : w'.grownBy w'' (some K)) (k1 : w.heap.size ≤ K) (k2 : K < w1.heap.size) (h1 : hp < w.heap.size) (h2 : mb < w.heap.size) (h3 : ∀ k, v.ownBlock = some k → k < w.heap.size) : OP w B hp mb most v L mv w'' := by
  obtain ⟨v', f, hs, ho⟩ := o.hs
  have := b.size
  refine ⟨⟨v', f, hs.far g (by omega) (by omega) (fun e => ?_), ?_⟩, ((HF.below b).trans o.fr).step (HF.grown (hp := hp) (mb := mb) (rb := some K) g (Or.inr (Or.inr rfl))) (Or.inr ⟨_, rfl, k1⟩)⟩
  · rcases ho with q | ⟨k, q, hk⟩
    · have := h3 K (by rw [← q]; exact e); omega
    · rw [q] at e; injection e with e; omega
  · rcases ho with q | ⟨k, q, hk⟩
    · exact Or.inl q
    · exact Or.inr ⟨k, q, by omega⟩
theorem CH.over {w w1 w' w'' : World} {B hp mb K : Nat} {most : Bool} {v : Value} {L : List Ent} {mv : Int} (b : Below w.heap.size w w1) (o : CH w1 B hp mb most v L mv w') (g : w'.grownBy w'' (some K)) (k1 : w.heap.size ≤ K) (k2 : K < w1.heap.size) (h1 : hp < w.heap.size) (h2 : mb < w.heap.size) (h3 : ∀ k, v.ownBlock = some k → k < w.heap.size) : CH w B hp mb most v L mv w'' := by
  obtain ⟨L', mv', op, q⟩ := o
  exact ⟨L', mv', op.over b g k1 k2 h1 h2 h3, q⟩
theorem top_any {w : World} {B hp mb : Nat} {most : Bool} {v : Value} {f : ByteArray → Option Nat} {L : List Ent} {mv : Int} (h : HS w B hp mb most v none f L mv) :
    Calls Try.prog 25 #[.pointer (some ⟨hp, 0, none⟩)] w fun e w' => (∃ (y : Ent) (t : Bool), e = .returned (.tuple #[eV y, .bool t]) ∧ y.2.size ≤ 9223372036854775807) ∧ Below w.heap.size w w' := by
  by_cases hL : 0 < L.length
  · exact (top_some h hL).mono fun e w' hh => ⟨⟨_, _, hh.1, h.nm _ (List.mem_of_getElem? (atE_some hL))⟩, hh.2⟩
  · obtain rfl : L = [] := List.eq_nil_of_length_eq_zero (by omega)
    exact (top_none h).mono fun e w' hh => ⟨⟨_, _, hh.1, by decide⟩, hh.2⟩
set_option maxRecDepth 100000 in
set_option maxHeartbeats 4000000 in
theorem pop_any {w : World} {B hp mb : Nat} {most : Bool} {v : Value} {f : ByteArray → Option Nat} {L : List Ent} {mv : Int} (h : HS w B hp mb most v none f L mv) (hn : L.length ≤ 1099511627776) :
    Calls Try.prog 10 #[.pointer (some ⟨hp, 0, none⟩)] w fun e w' => (∃ r, e = .returned r) ∧ CH w B hp mb most v L mv w' := by
  have hl := h.hl
  have mlt : mb < w.heap.size := by obtain ⟨_, m, _⟩ := h.mp; exact m.lt
  have rb : ∀ k, v.ownBlock = some k → k < w.heap.size := fun k e => (World.ownsRow.lt h.row k e).2
  obtain ⟨W0, hW0⟩ : ∃ W0, W0 = w.alloc (.cells #[.int .i64 0, .string ⟨#[]⟩] 24) := ⟨_, rfl⟩
  have b0 : Below w.heap.size w W0 := by rw [hW0]; exact (Below.refl _ w).alloc (Nat.le_refl _) _
  have s0 : W0.heap.size = w.heap.size + 1 := by rw [hW0]; simp
  have p0 : W0.cell? ⟨w.heap.size, 0, none⟩ = some (.int .i64 0) ∧ W0.cell? ⟨w.heap.size, 1, none⟩ = some (.string ⟨#[]⟩) ∧ W0.frozen? ⟨w.heap.size, 0, none⟩ = false ∧ W0.frozen? ⟨w.heap.size, 1, none⟩ = false := by rw [hW0]; refine ⟨?_, ?_, ?_, ?_⟩ <;> simp [go_sem]
  have CT0 : Hid _ := top_any (h.below b0)
  have NX : Hid (∀ w1 (y : Ent), Below W0.heap.size W0 w1 → y.2.size ≤ 9223372036854775807 → Calls Try.prog 16 #[.pointer (some ⟨hp, 0, none⟩), .string y.2] (w1.alloc (.cells #[.int .i64 y.1, .string y.2] 24)) fun e w2 => (∃ (y : Ent) (r : Value), e = .returned (.tuple #[eV y, r])) ∧ (w2.cell? ⟨w.heap.size, 0, none⟩ = some (.int .i64 0) ∧ w2.cell? ⟨w.heap.size, 1, none⟩ = some (.string ⟨#[]⟩) ∧ w2.frozen? ⟨w.heap.size, 0, none⟩ = false ∧ w2.frozen? ⟨w.heap.size, 1, none⟩ = false) ∧ ∀ w3, w2.grownBy w3 (some w.heap.size) → CH w B hp mb most v L mv w3) := fun w1 y b1 hy => by
    obtain ⟨W2, hW2⟩ : ∃ W2, W2 = w1.alloc (.cells #[.int .i64 y.1, .string y.2] 24) := ⟨_, rfl⟩
    rw [← hW2]
    have b12 : Below w1.heap.size w1 W2 := by rw [hW2]; exact (Below.refl _ w1).alloc (Nat.le_refl _) _
    have b2 : Below W0.heap.size W0 W2 := ⟨b12.os.trans b1.os, b12.tape.trans b1.tape, b12.output.trans b1.output, Nat.le_trans b1.size b12.size, fun k hk => (b12.block k (Nat.lt_of_lt_of_le hk b1.size)).trans (b1.block k hk)⟩
    have bb : Below w.heap.size w W2 := ⟨b2.os.trans b0.os, b2.tape.trans b0.tape, b2.output.trans b0.output, Nat.le_trans b0.size b2.size, fun k hk => (b2.block k (Nat.lt_of_lt_of_le hk b0.size)).trans (b0.block k hk)⟩
    refine (take_any (h.below bb) y.2 hy hn).mono fun e w2 hh => ⟨hh.1, ?_, fun w3 g3 => ?_⟩
    · obtain ⟨L', mv', op, _⟩ := hh.2
      have kK : w2.heap[w.heap.size]? = W2.heap[w.heap.size]? := op.fr.keep _ (by have := b2.size; omega) (by omega) (by omega) (fun e => by have := rb _ e.symm; omega)
      have kK0 : w2.heap[w.heap.size]? = W0.heap[w.heap.size]? := kK.trans (b2.block _ (by omega))
      exact ⟨by rw [World.cell?_of_block (w := W0) (a := ⟨w.heap.size, 0, none⟩) kK0]; exact p0.1, by rw [World.cell?_of_block (w := W0) (a := ⟨w.heap.size, 1, none⟩) kK0]; exact p0.2.1, by have := p0.2.2.1; simp only [World.frozen?, kK0] at *; exact this, by have := p0.2.2.2; simp only [World.frozen?, kK0] at *; exact this⟩
    · exact hh.2.over bb g3 (Nat.le_refl _) (by have := b2.size; omega) hl mlt rb
  unfold eV at CT0 NX
  have hW0H : Hid (w.alloc (.cells #[.int .i64 0, .string ⟨#[]⟩] 24) = W0) := hW0.symm
  clear h hW0 b0 s0 p0
  go_enter Try.func10, Try.ntmps10
  go_wp2_with fail
  rw [hW0H.out]
  refine Calls.mono CT0.out ?_
  rintro e w1 ⟨⟨y, t, rfl, hy⟩, b1⟩
  have CK : Hid _ := NX.out w1 y b1 hy
  clear NX CT0 b1 hy hW0H
  go_wp2_with fail
  refine Calls.mono CK.out ?_
  rintro e w2 ⟨⟨z, r, rfl⟩, ⟨q0, q1, q2, q3⟩, op0⟩
  have op : Hid _ := op0
  clear op0 CK
  go_wp2_with fail
  have p0 := World.cell?_setCell_same w2 ⟨w.heap.size, 0, none⟩ (.int .i64 z.1) q0
  have p1 := World.cell?_setCell_same (w2.setCell ⟨w.heap.size, 0, none⟩ (.int .i64 z.1)) ⟨w.heap.size, 1, none⟩ (.string z.2) (by rw [World.cell?_setCell_other _ _ _ _ (by intro e; injection e; omega)]; exact q1)
  simp [bodyPost, results, Try.results10, go_sem, p0, p1]
  exact op.out _ (two_set _ _ _ _)
end Go.Proofs.Ytcglgfcmhhbeaaa.Hp
