
import Derived.Test.YtepgcgphnjlcoaaDoorBkAq
namespace Go.Proofs.YtepgcgphnjlcoaaDoor
open Go.RowKit
set_option linter.unusedVariables false
set_option linter.unusedSimpArgs false
theorem RR.here {N : Nat} {w1 wx : World} {a : Option Addr} {n cap p r : Nat} {bs : Nat → Nat} {fv : Option (Int × Int)} (h : RR N w1 a n cap bs p r fv wx) : RR N wx a n cap bs p r fv wx :=
  ⟨h.c0, h.c1, h.c2, h.c3, h.f1, h.f2, h.f3, h.row, h.nb, h.nc, h.pn, h.r8, h.rp, Below.refl _ _, h.sz⟩
/-- the Reader, when the first k were read. -/
def RK (w : World) (o : Ops) (len N : Nat) (a : Option Addr) (cap k : Nat) (wr : World) : Prop :=
  w.heap.size ≤ N ∧ Below w.heap.size w wr ∧ ∃ p r, RR N wr a (wrAll o len).1.length cap (natsOf (wrAll o len).1) p r none wr ∧ r < 8 ∧ nbits (wrAll o k) + r = 8 * p
theorem RK.below {w : World} {o : Ops} {len N : Nat} {a : Option Addr} {cap k : Nat} {wr w' : World} (h : RK w o len N a cap k wr) (hb : Below wr.heap.size wr w') : RK w o len N a cap k w' := by
  obtain ⟨h1, h2, p, r, h3, h4, h5⟩ := h
  exact ⟨h1, below_then h2 hb, p, r, (h3.below hb).here, h4, h5⟩
/-- behind a read. -/
theorem RK.next {w : World} {o : Ops} {len N : Nat} {a : Option Addr} {cap k k' p' r' : Nat} {wr w' : World} (h : RK w o len N a cap k wr) (hR : RR N wr a (wrAll o len).1.length cap (natsOf (wrAll o len).1) p' r' none w') (hr : r' < 8) (hn : nbits (wrAll o k') + r' = 8 * p') : RK w o len N a cap k' w' :=
  ⟨h.1, h.2.1.trans (hR.b.mono h.1), p', r', hR.here, hr, hn⟩
section
variable {w : World} {o : Ops} {len N : Nat} {a : Option Addr} {cap k : Nat} {wr : World}
/-- what is asked of the k-th when it was whole bytes. -/
theorem RK.whole (h : RK w o len N a cap k wr) (hO : OpsOk o len) (hk : k < len) (E : List Nat) (hE : wrAll o (k + 1) = ((wrAll o k).1 ++ E, 0)) :
    ∃ p r, RR N wr a (wrAll o len).1.length cap (natsOf (wrAll o len).1) p r none wr ∧ p + E.length ≤ (wrAll o len).1.length ∧ ¬ (r ≠ 0 ∧ natsOf (wrAll o len).1 (p - 1) % 2 ^ r ≠ 0) ∧ (∀ i, i < E.length → natsOf (wrAll o len).1 (p + i) = E.getD i 0) ∧ nbits (wrAll o (k + 1)) + 0 = 8 * (p + E.length) := by
  obtain ⟨h1, h2, p, r, h3, h4, h5⟩ := h
  have hC := wrAll_CL o len hO k (by omega)
  have hC1 := wrAll_CL o len hO (k + 1) (by omega)
  have hP := wrAll_pre o len hO (len - (k + 1)) (k + 1) (by omega)
  have hL := (wrAll_CL o len hO len (Nat.le_refl _)).2.1
  rw [hE] at hP hC1 ⊢
  obtain ⟨g1, g2, g3, g4⟩ := whole_back hC (fun y hy => hC1.2.1 y (by simp [hy])) hL hP h4 h5
  exact ⟨p, r, h3, g1, g2, g3, g4⟩
/-- a number's bytes, and what stands behind them. -/
theorem RK.lenB (h : RK w o len N a cap k wr) (hO : OpsOk o len) (hk : k < len) (hK : o.K k = 4 ∨ o.K k = 5) :
    ∃ p r, RR N wr a (wrAll o len).1.length cap (natsOf (wrAll o len).1) p r none wr ∧ ¬ (r ≠ 0 ∧ natsOf (wrAll o len).1 (p - 1) % 2 ^ r ≠ 0) ∧ p + (uB (o.M k)).length + o.M k ≤ (wrAll o len).1.length ∧ (∀ i, i < (uB (o.M k)).length → natsOf (wrAll o len).1 (p + i) = (uB (o.M k)).getD i 0) ∧ (∀ i, i < o.M k → natsOf (wrAll o len).1 (p + (uB (o.M k)).length + i) = o.S k i) ∧ nbits (wrAll o (k + 1)) + 0 = 8 * (p + (uB (o.M k)).length + o.M k) := by
  have hE : wrAll o (k + 1) = ((wrAll o k).1 ++ (uB (o.M k) ++ bytesL (o.S k) (o.M k)), 0) := by rcases hK with hK | hK <;> simp [wrAll, opOn, hK]
  obtain ⟨p, r, h3, g1, g2, g3, g4⟩ := h.whole hO hk _ hE
  have hbl : (bytesL (o.S k) (o.M k)).length = o.M k := by simp [bytesL]
  simp only [List.length_append, hbl] at g1 g3 g4
  refine ⟨p, r, h3, g2, by omega, fun i hi => ?_, fun i hi => ?_, by omega⟩
  · rw [g3 i (by omega), getD_left _ _ _ hi]
  · rw [Nat.add_assoc, g3 _ (by omega), getD_right]
    exact nats_bytesL (o.S k) (o.M k) i hi
theorem back_raw (h : RK w o len N a cap k wr) (hO : OpsOk o len) (hk : k < len) (hK : o.K k = 5) :
    Calls Tryd.prog 10 #[.pointer (some ⟨N, 0, none⟩), .int .i64 (o.M k : Int)] wr fun e w' => (∃ a' c, e = .returned (.slice a' (o.M k) c) ∧ BytesIn w' a' (o.M k) (o.S k)) ∧ RK w o len N a cap (k + 1) w' ∧ RF N wr w' := by
  obtain ⟨p, r, h3, g2, g1, g3, g5, g4⟩ := h.lenB hO hk (Or.inr hK)
  refine (rRaw_ok h3 g2 (o.M k) (hO k hk).2.1 g1 g3).mono ?_
  rintro e w' ⟨⟨a', c, rfl, hin⟩, h4, F4⟩
  refine ⟨⟨a', c, rfl, hin.1, ?_⟩, h.next h4 (by omega) g4, F4⟩
  rcases hin.2 with h0 | ⟨b, off, e, hb, hB⟩
  · exact Or.inl h0
  · exact Or.inr ⟨b, off, e, hb, fun i hi => by rw [← g5 i hi]; exact hB i hi⟩
end
end Go.Proofs.YtepgcgphnjlcoaaDoor
