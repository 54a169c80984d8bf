
import Derived.Test.YtaiomfkiiifcbaaHqD
import Derived.Test.YtaiomfkiiifcbaaHsP
namespace Go.Proofs.Ytaiomfkiiifcbaa.Hp
open Go.RowKit Go.Maps
set_option linter.unusedVariables false
set_option linter.unusedSimpArgs false
set_option maxRecDepth 100000
/-! ### two heaps side by side -/
theorem HS.keep3 {w w' : World} {B hp mb : Nat} {most : Bool} {v : Value} {ex : Option ByteArray} {f : ByteArray → Option Nat} {L : List Ent} {mv : Int} (h : HS w B hp mb most v ex f L mv) (h1 : w'.heap[hp]? = w.heap[hp]?) (h2 : w'.heap[mb]? = w.heap[mb]?) (h3 : ∀ k, v.ownBlock = some k → w'.heap[k]? = w.heap[k]?) (h4 : w.heap.size ≤ w'.heap.size) : HS w' B hp mb most v ex f L mv := by
  obtain ⟨c, hm, hc⟩ := h.mp
  have cc : ∀ o, w'.cell? ⟨hp, o, none⟩ = w.cell? ⟨hp, o, none⟩ := fun o => World.cell?_of_block (w := w) (a := ⟨hp, o, none⟩) h1
  have zz : ∀ o, w'.frozen? ⟨hp, o, none⟩ = w.frozen? ⟨hp, o, none⟩ := fun o => by simp [World.frozen?, h1]
  refine ⟨by rw [cc]; exact h.c0, by rw [cc]; exact h.c1, by rw [cc]; exact h.c2, by rw [cc]; exact h.c3, by rw [zz]; exact h.z0, by rw [zz]; exact h.z3, ⟨h.row.1, ?_⟩, ⟨c, hm.keep h2, hc⟩, h.pl, h.hw, h.nm, Nat.lt_of_lt_of_le h.hl h4, h.exs⟩
  rcases h.row.2 with q | ⟨g, cap, cur, e1, e2, e3, e4⟩
  · exact Or.inl q
  · exact Or.inr ⟨g, cap, cur, e1, e2, by rw [h3 g (by rw [e1]; rfl)]; exact e3, e4⟩
/-- an empty one may have its row farther up. -/
theorem HS.raise {w : World} {B C hp mb : Nat} {most : Bool} {f : ByteArray → Option Nat} {mv : Int} (h : HS w B hp mb most (.slice none 0 0) none f [] mv) (hC : B ≤ C) : HS w C hp mb most (.slice none 0 0) none f [] mv := by
  have a := h.hw.hB
  have b := h.hw.mB
  exact ⟨h.c0, h.c1, h.c2, h.c3, h.z0, h.z3, ⟨rfl, Or.inl ⟨rfl, rfl⟩⟩, h.mp, h.pl, ⟨by omega, by omega, h.hw.ne⟩, h.nm, h.hl, h.exs⟩
structure HD (w0 : World) (C p1 m1 p2 m2 : Nat) : Prop where
  a : w0.heap.size ≤ p1
  b : w0.heap.size ≤ m1
  c : w0.heap.size ≤ p2
  d : w0.heap.size ≤ m2
  n1 : p1 ≠ p2
  n2 : p1 ≠ m2
  n3 : m1 ≠ p2
  n4 : m1 ≠ m2
/-- one heap, and another one. -/
def H2 (w0 : World) (C p1 m1 p2 m2 : Nat) (t1 t2 : Bool) (L1 L2 : List Ent) (wr : World) : Prop := ∃ v1 f1 mv1 v2 f2 mv2, HS wr C p1 m1 t1 v1 none f1 L1 mv1 ∧ HS wr C p2 m2 t2 v2 none f2 L2 mv2 ∧ (∀ k, v1.ownBlock = some k → v2.ownBlock ≠ some k) ∧ Below w0.heap.size w0 wr ∧ C ≤ wr.heap.size ∧ HD w0 C p1 m1 p2 m2
theorem H2.flip {w0 wr : World} {C p1 m1 p2 m2 : Nat} {t1 t2 : Bool} {L1 L2 : List Ent} (h : H2 w0 C p1 m1 p2 m2 t1 t2 L1 L2 wr) : H2 w0 C p2 m2 p1 m1 t2 t1 L2 L1 wr := by
  obtain ⟨v1, f1, mv1, v2, f2, mv2, h1, h2, h3, h4, h5, h6⟩ := h
  exact ⟨v2, f2, mv2, v1, f1, mv1, h2, h1, fun k e q => h3 k q e, h4, h5, ⟨h6.c, h6.d, h6.a, h6.b, h6.n1.symm, h6.n3.symm, h6.n2.symm, h6.n4.symm⟩⟩
theorem H2.below {w0 wr w' : World} {C p1 m1 p2 m2 : Nat} {t1 t2 : Bool} {L1 L2 : List Ent} (h : H2 w0 C p1 m1 p2 m2 t1 t2 L1 L2 wr) (hb : Below wr.heap.size wr w') : H2 w0 C p1 m1 p2 m2 t1 t2 L1 L2 w' := by
  obtain ⟨v1, f1, mv1, v2, f2, mv2, h1, h2, h3, h4, h5, h6⟩ := h
  exact ⟨v1, f1, mv1, v2, f2, mv2, h1.below hb, h2.below hb, h3, below_trans h4 (below_less hb h4.size), Nat.le_trans h5 hb.size, h6⟩
theorem H2.op {w0 wr w' : World} {C p1 m1 p2 m2 : Nat} {t1 t2 : Bool} {L1 L2 L' : List Ent} {v1 v2 : Value} {f1 f2 : ByteArray → Option Nat} {mv1 mv2 mv' : Int} (h1 : HS wr C p1 m1 t1 v1 none f1 L1 mv1) (h2 : HS wr C p2 m2 t2 v2 none f2 L2 mv2) (h3 : ∀ k, v1.ownBlock = some k → v2.ownBlock ≠ some k) (h4 : Below w0.heap.size w0 wr) (h5 : C ≤ wr.heap.size) (h6 : HD w0 C p1 m1 p2 m2) (o : OP wr C p1 m1 t1 v1 L' mv' w') : H2 w0 C p1 m1 p2 m2 t1 t2 L' L2 w' := by
  obtain ⟨v', f', hs', sep⟩ := o.hs
  have hw1 := h1.hw
  have hw2 := h2.hw
  have b1 := hw1.hB
  have b2 := hw1.mB
  have b3 := hw2.hB
  have b4 := hw2.mB
  have r1 : ∀ k, v1.ownBlock = some k → C ≤ k ∧ k < wr.heap.size := fun k e => World.ownsRow.lt h1.row k e
  have r2 : ∀ k, v2.ownBlock = some k → C ≤ k ∧ k < wr.heap.size := fun k e => World.ownsRow.lt h2.row k e
  have h2' : HS w' C p2 m2 t2 v2 none f2 L2 mv2 := h2.keep3 (o.fr.keep p2 h2.hl (fun e => h6.n1 e.symm) (fun e => h6.n3 e.symm) (fun e => by have := r1 p2 e.symm; omega)) (by
    obtain ⟨_, m, _⟩ := h2.mp
    exact o.fr.keep m2 m.lt (fun e => h6.n2 e.symm) (fun e => h6.n4 e.symm) (fun e => by have := r1 m2 e.symm; omega)) (fun k e => by
    have q := r2 k e
    exact o.fr.keep k q.2 (by omega) (by omega) (fun e' => h3 k e'.symm e)) o.fr.size
  have w0C : w0.heap.size ≤ C := by have := h6.a; omega
  refine ⟨v', f', mv', v2, f2, mv2, hs', h2', fun k e e2 => ?_, below_trans h4 (o.fr.into h6.a h6.b (fun k e => by have := r1 k e; omega) h4.size), Nat.le_trans h5 o.fr.size, h6⟩
  rcases sep with q | ⟨j, q, hj⟩
  · exact h3 k (by rw [← q]; exact e) e2
  · rw [q] at e; injection e with e; have := r2 k e2; omega
theorem H2.put1 {w0 wr : World} {C p1 m1 p2 m2 : Nat} {t1 t2 : Bool} {L1 L2 : List Ent} (h : H2 w0 C p1 m1 p2 m2 t1 t2 L1 L2 wr) (x : Ent) (hx : x.2.size ≤ 9223372036854775807) (hn : L1.length + 1 ≤ 1099511627776) :
    Calls Try.prog 16 #[.pointer (some ⟨p1, 0, none⟩), eV x] wr fun e w' => e = .returned (noP (fnd L1 x.2) 5) ∧ H2 w0 C p1 m1 p2 m2 t1 t2 (putL t1 L1 x) L2 w' := by
  obtain ⟨v1, f1, mv1, v2, f2, mv2, h1, h2, h3, h4, h5, h6⟩ := h
  refine (put_l h1 h5 x hx hn).mono fun e w' hh => ⟨hh.1, ?_⟩
  obtain ⟨mv', o⟩ := hh.2
  exact H2.op h1 h2 h3 h4 h5 h6 o
theorem H2.tak1 {w0 wr : World} {C p1 m1 p2 m2 : Nat} {t1 t2 : Bool} {L1 L2 : List Ent} (h : H2 w0 C p1 m1 p2 m2 t1 t2 L1 L2 wr) (s : ByteArray) (hs : s.size ≤ 9223372036854775807) (hn : L1.length ≤ 1099511627776) :
    Calls Try.prog 17 #[.pointer (some ⟨p1, 0, none⟩), .string s] wr fun e w' => (∃ r, e = .returned r) ∧ H2 w0 C p1 m1 p2 m2 t1 t2 (takL t1 L1 s) L2 w' := by
  obtain ⟨v1, f1, mv1, v2, f2, mv2, h1, h2, h3, h4, h5, h6⟩ := h
  refine (tak_l h1 s hs hn).mono fun e w' hh => ⟨⟨_, hh.1⟩, ?_⟩
  obtain ⟨mv', o⟩ := hh.2
  exact H2.op h1 h2 h3 h4 h5 h6 o
theorem H2.nd1 {w0 wr : World} {C p1 m1 p2 m2 : Nat} {t1 t2 : Bool} {L1 L2 : List Ent} (h : H2 w0 C p1 m1 p2 m2 t1 t2 L1 L2 wr) : ND L1 := by
  obtain ⟨v1, f1, mv1, v2, f2, mv2, h1, _⟩ := h
  exact h1.pl.nd
theorem H2.len1 {w0 wr : World} {C p1 m1 p2 m2 : Nat} {t1 t2 : Bool} {L1 L2 : List Ent} (h : H2 w0 C p1 m1 p2 m2 t1 t2 L1 L2 wr) : Calls Try.prog 14 #[.pointer (some ⟨p1, 0, none⟩)] wr fun e w' => e = .returned (.int .i64 (L1.length : Int)) ∧ w' = wr := by
  obtain ⟨v1, f1, mv1, v2, f2, mv2, h1, _⟩ := h
  exact len_any h1
def topV (L : List Ent) : Ent := if 0 < L.length then atE L 0 else nE
theorem H2.top1 {w0 wr : World} {C p1 m1 p2 m2 : Nat} {t1 t2 : Bool} {L1 L2 : List Ent} (h : H2 w0 C p1 m1 p2 m2 t1 t2 L1 L2 wr) : Calls Try.prog 18 #[.pointer (some ⟨p1, 0, none⟩)] wr fun e w' => e = .returned (.tuple #[eV (topV L1), .bool (decide (0 < L1.length))]) ∧ Below wr.heap.size wr w' := by
  obtain ⟨v1, f1, mv1, v2, f2, mv2, h1, _⟩ := h
  unfold topV
  by_cases c : 0 < L1.length
  · rw [if_pos c, decide_eq_true c]; exact top_some h1 c
  · rw [if_neg c, decide_eq_false c]
    obtain rfl : L1 = [] := List.eq_nil_of_length_eq_zero (by omega)
    exact top_none h1
theorem H2.new2 (w : World) : Calls Try.prog 15 #[.bool false] w fun e w1 => e = .returned (.pointer (some ⟨w.heap.size + 1, 0, none⟩)) ∧ Calls Try.prog 15 #[.bool true] w1 fun e w2 => e = .returned (.pointer (some ⟨w1.heap.size + 1, 0, none⟩)) ∧ H2 w (w1.heap.size + 2) (w.heap.size + 1) w.heap.size (w1.heap.size + 1) w1.heap.size false true [] [] w2 := by
  refine (hnew_any false w).mono fun e w1 hh => ⟨hh.1, ?_⟩
  obtain ⟨_, h1, b1⟩ := hh
  have hl1 := h1.hl
  refine (hnew_any true w1).mono fun e w2 hh => ⟨hh.1, ?_⟩
  obtain ⟨_, h2, b2⟩ := hh
  have hl2 := h2.hl
  have b2' := b1.size
  exact ⟨_, _, _, _, _, _, (h1.below b2).raise (by omega), h2, (fun k e => by cases e), below_trans b1 (below_less b2 b1.size), by omega, ⟨by omega, by omega, by omega, by omega, by omega, by omega, by omega, by omega⟩⟩
end Go.Proofs.Ytaiomfkiiifcbaa.Hp
