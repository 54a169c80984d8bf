
import Derived.Test.YtepgcgphnjlcoaaDoorWwGq
import Derived.Deep.Cut
import Derived.Deep.RegionHeld3
import Derived.BigQuiet
import Derived.WalkSmall
import Derived.Deep.QuietTactic
namespace Go.Proofs.YtepgcgphnjlcoaaDoor
open Go.RowKit
set_option linter.unusedVariables false
set_option linter.unusedSimpArgs false
/-- things to be written, as they lie. -/
structure Ops where
  K : Nat → Int
  X : Nat → Nat
  B : Nat → Int
  A : Nat → Option Addr
  M : Nat → Nat
  C : Nat → Nat
  S : Nat → Nat → Nat
def OpsAt (w : World) (a : Option Addr) (len : Nat) (o : Ops) : Prop :=
  len = 0 ∨ ∃ b off, a = some ⟨b, off, none⟩ ∧ b < w.heap.size ∧ ∀ i, i < len →
    (w.cell? ⟨b, off + i * 4, none⟩ = some (.int .i64 (o.K i)) ∧ w.cell? ⟨b, off + i * 4 + 1, none⟩ = some (.int .u64 (o.X i : Int)) ∧ w.cell? ⟨b, off + i * 4 + 2, none⟩ = some (.int .i64 (o.B i)) ∧ w.cell? ⟨b, off + i * 4 + 3, none⟩ = some (.slice (o.A i) (o.M i) (o.C i))) ∧ o.X i < 18446744073709551616 ∧ BytesIn w (o.A i) (o.M i) (o.S i)
/-- what the first k of them write. -/
def wrAll (o : Ops) : Nat → List Nat × Nat
  | 0 => ([], 0)
  | k + 1 => opOn (o.K k) (o.X k) (o.B k) (o.M k) (o.S k) (wrAll o k)
def mAll (o : Ops) : Nat → Nat
  | 0 => 0
  | k + 1 => mAll o k + o.M k + 64
theorem mAll_mono (o : Ops) {i j : Nat} (h : i ≤ j) : mAll o i ≤ mAll o j := by
  induction j with
  | zero => have : i = 0 := by omega
            subst this; exact Nat.le_refl _
  | succ j ih =>
    rcases Nat.lt_or_ge i (j + 1) with h1 | h1
    · have := ih (by omega); simp only [mAll]; omega
    · have : i = j + 1 := by omega
      subst this; exact Nat.le_refl _
/-- the two Writers behind the first k. -/
def TK (w : World) (o : Ops) (k : Nat) (wr : World) : Prop :=
  ∃ v u, TW w w.heap.size (w.heap.size + 1) (((8 - (wrAll o k).2) % 8 : Nat) : Int) (wrAll o k).1 v (((wrAll o k).2 : Nat) : Int) (wrAll o k).1 u wr ∧ CL (wrAll o k).1 (wrAll o k).2 ∧ (wrAll o k).1.length ≤ mAll o k
theorem TK.start (w : World) (o : Ops) : TK w o 0 ((w.alloc (.cells #[.slice none 0 0, .int .i64 0] 26)).alloc (.cells #[.slice none 0 0, .int .i64 0] 29)) := by
  have e0 : wrAll o 0 = ([], 0) := rfl
  unfold TK
  rw [e0]
  refine ⟨.slice none 0 0, .slice none 0 0, ⟨⟨by simp [go_sem], by simp [go_sem], by simp [go_sem], by simp [go_sem], World.ownsRow_nil _ _ _ _, Below.refl _ _, by simp; omega⟩, ⟨by simp [go_sem], by simp [go_sem], by simp [go_sem], by simp [go_sem], World.ownsRow_nil _ _ _ _, Below.refl _ _, by simp⟩, by omega, by simp [Value.ownBlock], by simp [Value.ownBlock], Or.inl rfl, by omega, by omega, below_new (below_new (Below.refl _ _) _) _⟩, ⟨by omega, by simp, by simp⟩, by simp⟩
theorem TK.below {w : World} {o : Ops} {k : Nat} {wr w' : World} (h : TK w o k wr) (hb : Below wr.heap.size wr w') : TK w o k w' := by
  obtain ⟨v, u, hT, hC, hl⟩ := h
  exact ⟨v, u, hT.below hb, hC, hl⟩
theorem TK.bb {w : World} {o : Ops} {k : Nat} {wr : World} (h : TK w o k wr) : Below w.heap.size w wr := by
  obtain ⟨v, u, hT, hC, hl⟩ := h
  exact hT.bb
theorem TK.sz {w : World} {o : Ops} {k : Nat} {wr : World} (h : TK w o k wr) : w.heap.size + 1 < wr.heap.size := by
  obtain ⟨v, u, hT, hC, hl⟩ := h
  exact hT.d.sz
theorem write_step (w : World) (o : Ops) (k : Nat) (wr : World) (O : Obj) (h : TK w o k wr) (hx : o.X k < 18446744073709551616) (hB : BytesIn w (o.A k) (o.M k) (o.S k)) (hb : mAll o k + o.M k + 100 ≤ 140737488355328) :
    Calls Tryd.prog 4 #[.pointer (some ⟨w.heap.size, 0, none⟩), .pointer (some ⟨w.heap.size + 1, 0, none⟩), .agg #[.int .i64 (o.K k), .int .u64 (o.X k : Int), .int .i64 (o.B k), .slice (o.A k) (o.M k) (o.C k)]] (wr.alloc O) fun e w' => e = .returned undef ∧ TK w o (k + 1) w' ∧ wr.heap.size < w'.heap.size ∧ ∀ j, w'.cell? ⟨wr.heap.size, j, none⟩ = (wr.alloc O).cell? ⟨wr.heap.size, j, none⟩ := by
  obtain ⟨v, u, hT, hC, hl⟩ := h
  have hz := hT.d.sz
  refine (write_any w _ _ _ _ v u _ (hT.alloc O) hC (o.K k) (o.X k) hx (o.B k) (o.A k) (o.M k) (o.C k) (o.S k) hB (by omega)).mono ?_
  rintro e w' ⟨rfl, v', u', hT', hC', hl', hK⟩
  have hs := hK.size
  simp at hs
  refine ⟨rfl, ⟨v', u', hT', hC', by simp only [mAll]; exact Nat.le_trans hl' (by omega)⟩, by omega, fun j => ?_⟩
  refine World.cell?_of_block (w := wr.alloc O) (hK.keep wr.heap.size (by simp) (by omega) (by omega) ?_ ?_)
  · intro e; have := own_lt hT.r.own e.symm; omega
  · intro e; have := own_lt hT.d.own e.symm; omega
/-- what is asked of both at the end of a round. -/
theorem TK.sides {w : World} {o : Ops} {k : Nat} {wr : World} (h : TK w o k wr) (hb : mAll o k ≤ 140737488355327) : ∃ v a c, WS w.heap.size wr (((8 - (wrAll o k).2) % 8 : Nat) : Int) v (wrAll o k).1.length (enc (wrAll o k).1) wr ∧ (∀ y ∈ (wrAll o k).1, y < 256) ∧ (wrAll o k).1.length ≤ 140737488355327 ∧ wr.cell? ⟨w.heap.size + 1, 0, none⟩ = some (.slice a (wrAll o k).1.length c) ∧ BytesIn wr a (wrAll o k).1.length (natsOf (wrAll o k).1) := by
  obtain ⟨v, u, hT, hC, hl⟩ := h
  obtain ⟨a, c, rfl, hB⟩ := hT.d.bytes hC.2.1 (by omega)
  exact ⟨v, a, c, hT.r, hC.2.1, by omega, hT.d.c0, hB⟩
theorem keepW {w : World} {o : Ops} {k : Nat} {a2 : Option Addr} {L z : Nat} {ns : Nat → Nat} {x0 x1 x2 : Value} {wx wy : World} (B : Below wx.heap.size wx wy) (S : TK w o k wx ∧ BytesIn wx a2 L ns ∧ w.heap.size + 1 < wx.heap.size ∧ z < wx.heap.size ∧ wx.cell? ⟨w.heap.size, 0, none⟩ = some x0 ∧ wx.cell? ⟨w.heap.size + 1, 0, none⟩ = some x1 ∧ wx.cell? ⟨z, 0, none⟩ = some x2) :
    TK w o k wy ∧ BytesIn wy a2 L ns ∧ w.heap.size + 1 < wy.heap.size ∧ z < wy.heap.size ∧ wy.cell? ⟨w.heap.size, 0, none⟩ = some x0 ∧ wy.cell? ⟨w.heap.size + 1, 0, none⟩ = some x1 ∧ wy.cell? ⟨z, 0, none⟩ = some x2 := by
  obtain ⟨t, b, h1, h2, c0, c1, c2⟩ := S
  have hs := B.size
  refine ⟨t.below B, b.below B, by omega, by omega, ?_, ?_, ?_⟩
  · rw [B.cell (p := ⟨w.heap.size, 0, none⟩) (show w.heap.size < wx.heap.size by omega)]; exact c0
  · rw [B.cell (p := ⟨w.heap.size + 1, 0, none⟩) h1]; exact c1
  · rw [B.cell (p := ⟨z, 0, none⟩) h2]; exact c2
end Go.Proofs.YtepgcgphnjlcoaaDoor
