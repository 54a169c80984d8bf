
import Derived.Test.YtkcpiplifibpkaaDoorOnA
namespace Go.Proofs.YtkcpiplifibpkaaDoor
open Go.RowKit
set_option linter.unusedVariables false
set_option linter.unusedSimpArgs false
/-- a Reader, when a Writer at M has written. -/
theorem RR.other {N M : Nat} {wx w' : World} {a : Option Addr} {n cap p r : Nat} {bs : Nat → Nat} {fv : Option (Int × Int)} {v v' : Value} (h : RR N wx a n cap bs p r fv wx) (F : Fr M v v' wx w') (hN : N < M) (ho : ∀ k, v.ownBlock = some k → M < k) (hrow : n = 0 ∨ ∃ b off, a = some ⟨b, off, none⟩ ∧ b < M) : RR N w' a n cap bs p r fv w' := by
  obtain ⟨c0, c1, c2, c3, f1, f2, f3, row, nb, nc, pn, r8, rp, b, sz⟩ := h
  have hk : w'.heap[N]? = wx.heap[N]? := F.keep N sz (by omega) (fun e => by have := ho N e.symm; omega)
  refine ⟨?_, ?_, ?_, ?_, ?_, ?_, ?_, ?_, nb, nc, pn, r8, rp, Below.refl _ _, Nat.lt_of_lt_of_le sz F.size⟩
  · rw [World.cell?_of_block (w := wx) hk]; exact c0
  · rw [World.cell?_of_block (w := wx) hk]; exact c1
  · rw [World.cell?_of_block (w := wx) hk]; exact c2
  · rw [World.cell?_of_block (w := wx) hk]; exact c3
  · rw [World.frozen?_of_block (w := wx) hk]; exact f1
  · rw [World.frozen?_of_block (w := wx) hk]; exact f2
  · rw [World.frozen?_of_block (w := wx) hk]; exact f3
  · rcases row with h0 | ⟨g, off, e, hg, hgn, hB⟩
    · exact Or.inl h0
    · rcases hrow with h0 | ⟨g', off', e', hg'⟩
      · exact Or.inl h0
      · rw [e] at e'
        injection e' with e'
        injection e' with e'
        subst e'
        exact Or.inr ⟨g, off, e, Nat.lt_of_lt_of_le hg F.size, hgn, F.bytes hB hg (by omega) (fun e => by have := ho g e.symm; omega)⟩
/-- the Reader and the Writer, with what each of them has. -/
structure OS (w : World) (N M : Nat) (a : Option Addr) (cap : Nat) (L : List Nat) (p r : Nat) (fv : Option (Int × Int)) (l : List Nat) (b : Nat) (v : Value) (wr : World) : Prop where
  rd : RR N wr a L.length cap (natsOf L) p r fv wr
  r8 : r < 8
  wt : WS M wr (((8 - b) % 8 : Nat) : Int) v l.length (enc l) wr
  cl : CL l b
  lo : w.heap.size ≤ N
  nm : N < M
  row : L.length = 0 ∨ ∃ b off, a = some ⟨b, off, none⟩ ∧ b < M
  bb : Below w.heap.size w wr
section
variable {w : World} {N M : Nat} {a : Option Addr} {cap : Nat} {L : List Nat} {p r : Nat} {fv : Option (Int × Int)} {l : List Nat} {b : Nat} {v : Value} {wr : World}
theorem OS.own (h : OS w N M a cap L p r fv l b v wr) : ∀ k, v.ownBlock = some k → M < k := fun k e => (h.wt.own.lt k e).1
/-- the Reader has read. -/
theorem OS.read (h : OS w N M a cap L p r fv l b v wr) {p' r' : Nat} {fv' : Option (Int × Int)} {w' : World} (hR : RR N wr a L.length cap (natsOf L) p' r' fv' w') (F : RF N wr w') (hr : r' < 8) : OS w N M a cap L p' r' fv' l b v w' := by
  have hn := h.nm
  have F' : Fr N (.slice none 0 0) (.slice none 0 0) wr w' := ⟨F.size, fun k hk hn _ => F.keep k hk hn, Or.inl rfl⟩
  exact ⟨hR.here, hr, h.wt.other F' (by omega) (by simp [Value.ownBlock]) (fun e => by have := h.own _ e.symm; omega) (by cases e : v.ownBlock <;> simp [Value.ownBlock]), h.cl, h.lo, h.nm, h.row, h.bb.trans (hR.b.mono h.lo)⟩
/-- the Writer has written. -/
theorem OS.wrote (h : OS w N M a cap L p r fv l b v wr) {l' : List Nat} {b' n' : Nat} {v' : Value} {fr' : Int} {w' : World} (hW : WS M wr fr' v' n' (enc l') w') (hfr : fr' = (((8 - b') % 8 : Nat) : Int)) (F : Fr M v v' wr w') (hC : CL l' b') : OS w N M a cap L p r fv l' b' v' w' := by
  have hn := hW.len
  subst hn
  subst hfr
  have := h.nm
  have := h.lo
  exact ⟨h.rd.other F h.nm h.own h.row, h.r8, hW.here, hC, h.lo, h.nm, h.row, h.bb.trans (hW.b.mono (by omega))⟩
theorem OS.below (h : OS w N M a cap L p r fv l b v wr) {w' : World} (hb : Below wr.heap.size wr w') : OS w N M a cap L p r fv l b v w' := by
  have F' : Fr M v v wr w' := ⟨hb.size, fun k hk _ _ => hb.block k hk, Or.inl rfl⟩
  have F2 : Fr N (.slice none 0 0) (.slice none 0 0) wr w' := ⟨hb.size, fun k hk _ _ => hb.block k hk, Or.inl rfl⟩
  have hn := h.nm
  exact ⟨(h.rd.below hb).here, h.r8, h.wt.other F2 (by omega) (by simp [Value.ownBlock]) (fun e => by have := h.own _ e.symm; omega) (by cases e : v.ownBlock <;> simp [Value.ownBlock]), h.cl, h.lo, h.nm, h.row, below_then h.bb hb⟩
end
/-- what stands behind the first k. -/
def ON (w : World) (N M : Nat) (a : Option Addr) (cap : Nat) (L : List Nat) (k : Nat) (wr : World) : Prop :=
  ∃ p r fv l b v, OS w N M a cap L p r fv l b v wr ∧ (fv = none → PW L l b p r) ∧ l.length ≤ L.length + 75 * k
theorem ON.below {w : World} {N M : Nat} {a : Option Addr} {cap : Nat} {L : List Nat} {k : Nat} {wr : World} (h : ON w N M a cap L k wr) {w' : World} (hb : Below wr.heap.size wr w') : ON w N M a cap L k w' := by
  obtain ⟨p, r, fv, l, b, v, h1, h2, h3⟩ := h
  exact ⟨p, r, fv, l, b, v, h1.below hb, h2, h3⟩
theorem ON.bb {w : World} {N M : Nat} {a : Option Addr} {cap : Nat} {L : List Nat} {k : Nat} {wr : World} (h : ON w N M a cap L k wr) : Below w.heap.size w wr := by
  obtain ⟨p, r, fv, l, b, v, h1, h2, h3⟩ := h
  exact h1.bb
end Go.Proofs.YtkcpiplifibpkaaDoor
