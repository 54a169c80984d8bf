
import Derived.Test.YtepgcgphnjlcoaaDoorWwWq
import Derived.Test.YtepgcgphnjlcoaaDoorBtAq
import Derived.Test.YtepgcgphnjlcoaaDoorRwEq
import Derived.Test.YtepgcgphnjlcoaaDoorRwFq
namespace Go.Proofs.YtepgcgphnjlcoaaDoor
open Go.RowKit
set_option linter.unusedVariables false
set_option linter.unusedSimpArgs false
/-- things that can be written. -/
def OpsOk (o : Ops) (len : Nat) : Prop := ∀ i, i < len → o.X i < 18446744073709551616 ∧ o.M i < 9223372036854775808 ∧ ∀ j, j < o.M i → o.S i j < 256
theorem OpsAt.ok {w : World} {a : Option Addr} {len : Nat} {o : Ops} (h : OpsAt w a len o) : OpsOk o len := by
  intro i hi
  rcases h with h0 | ⟨b, off, _, _, hc⟩
  · omega
  · obtain ⟨_, hx, hB⟩ := hc i hi
    refine ⟨hx, by have := hB.1; omega, fun j hj => ?_⟩
    rcases hB.2 with h0 | ⟨_, _, _, _, hb⟩
    · omega
    · exact (hb j hj).2
theorem wrap64_rg (n : Int) : -9223372036854775808 ≤ wrap64 n ∧ wrap64 n ≤ 9223372036854775807 := by unfold wrap64; omega
theorem opOn_CL (k : Int) (x : Nat) (hx : x < 18446744073709551616) (bits : Int) (m : Nat) (hm : m < 9223372036854775808) (bs : Nat → Nat) (hb : ∀ j, j < m → bs j < 256) (l : List Nat) (b : Nat) (h : CL l b) : CL (opOn k x bits m bs (l, b)).1 (opOn k x bits m bs (l, b)).2 := by
  unfold opOn
  split
  · exact h.app (by intro y hy; simp at hy; omega)
  split
  · exact h.app (be4_lt _)
  split
  · exact h.app (uB_lt x hx)
  split
  · exact h.app (uB_lt _ (foldZ_lt _ (wrap64_rg _)))
  split
  · exact h.app (fun y hy => by rcases List.mem_append.1 hy with e | e; exact uB_lt m (by omega) y e; exact bytesL_lt hb y e)
  split
  · exact (bitsOn_bt x (broughtN bits) l b h).1
  · exact h
theorem wrAll_CL (o : Ops) (len : Nat) (h : OpsOk o len) : ∀ k, k ≤ len → CL (wrAll o k).1 (wrAll o k).2 := by
  intro k
  induction k with
  | zero => intro _; exact ⟨by simp [wrAll], by simp [wrAll], by simp [wrAll]⟩
  | succ k ih =>
    intro hk
    obtain ⟨h1, h2, h3⟩ := h k (by omega)
    exact opOn_CL _ _ h1 _ _ h2 _ h3 _ _ (ih (by omega))
theorem wrAll_pre (o : Ops) (len : Nat) (h : OpsOk o len) : ∀ d k, k + d = len → PRE (wrAll o k) (wrAll o len).1 := by
  intro d
  induction d with
  | zero => intro k hk; obtain rfl : k = len := by omega
            exact ⟨Nat.le_refl _, fun q _ => rfl⟩
  | succ d ih =>
    intro k hk
    have hC := wrAll_CL o len h k (by omega)
    obtain ⟨h1, h2⟩ := opOn_pre (o.K k) (o.X k) (o.B k) (o.M k) (o.S k) _ _ hC
    exact PRE.trans (t := wrAll o (k + 1)) h1 h2 (ih (k + 1) (by omega))
/-- where the Reader stands, when the first k were read. -/
theorem place {l : List Nat} {b p r : Nat} (h : CL l b) (hr : r < 8) (hn : nbits (l, b) + r = 8 * p) : p = l.length ∧ r = (8 - b) % 8 := by
  have := h.1
  by_cases hb : b = 0
  · subst hb; simp [nbits] at hn; omega
  · have := h.pos hb
    simp only [nbits] at hn
    omega
/-- whole bytes come back. -/
theorem whole_back {l E L : List Nat} {b p r : Nat} (hC : CL l b) (hE : ∀ y ∈ E, y < 256) (hL : ∀ y ∈ L, y < 256) (hP : PRE (l ++ E, 0) L) (hr : r < 8) (hn : nbits (l, b) + r = 8 * p) :
    p + E.length ≤ L.length ∧ ¬ (r ≠ 0 ∧ natsOf L (p - 1) % 2 ^ r ≠ 0) ∧ (∀ i, i < E.length → natsOf L (p + i) = E.getD i 0) ∧ nbits (l ++ E, 0) + 0 = 8 * (p + E.length) := by
  obtain ⟨hp, hr2⟩ := place hC hr hn
  have hlen := hP.1
  have hby : ∀ i, i < (l ++ E).length → L.getD i 0 = (l ++ E).getD i 0 := hP.byte (fun y hy => by rcases List.mem_append.1 hy with e | e; exact hC.2.1 y e; exact hE y e) hL
  simp only [List.length_append] at hlen hby
  refine ⟨by omega, ?_, fun i hi => ?_, by simp [nbits]; omega⟩
  · rintro ⟨h0, h1⟩
    have hb0 : b ≠ 0 := fun e => by rw [e] at hr2; omega
    obtain ⟨l0, a, rfl, hz⟩ := hC.2.2 hb0
    have hl0 : (l0 ++ [a]).length = l0.length + 1 := by simp
    have e1 := hby l0.length (by omega)
    rw [List.append_assoc] at e1
    have e2 : (l0 ++ ([a] ++ E)).getD l0.length 0 = a := by simp [List.getD_eq_getElem?_getD]
    rw [e2] at e1
    apply h1
    have hc := hC.1
    rw [show p - 1 = l0.length by omega, show r = 8 - b by omega]
    show L.getD l0.length 0 % _ = 0
    rw [e1]; exact hz
  · have := hby (p + i) (by omega)
    show L.getD (p + i) 0 = _
    rw [this, hp, getD_right]
theorem PRE.bits {l L : List Nat} {b x c p r : Nat} (hC : CL l b) (hP : PRE (bitsOn x c (l, b)) L) (hL : ∀ y ∈ L, y < 256) (hr : r < 8) (hn : nbits (l, b) + r = 8 * p) :
    rdB (natsOf L) (nbits (l, b)) c = x % 2 ^ c ∧ nbits (l, b) + c ≤ 8 * L.length ∧ nbits (bitsOn x c (l, b)) = nbits (l, b) + c := by
  obtain ⟨h1, h2, h3, h4, h5⟩ := bitsOn_bt x c l b hC
  have hle : nbits (bitsOn x c (l, b)) ≤ 8 * (bitsOn x c (l, b)).1.length := nbits_le _ _
  have := hP.1
  refine ⟨rdB_of _ _ x c fun j hj => ?_, by omega, h2⟩
  have e1 := hP.2 (nbits (l, b) + j) (by omega)
  rw [h5 j hj] at e1
  unfold bt at e1
  show L.getD ((nbits (l, b) + j) / 8) 0 / 2 ^ (7 - (nbits (l, b) + j) % 8) % 2 = _
  rw [Nat.testBit_eq_decide_div_mod_eq] at e1
  rw [decide_eq_decide] at e1
  generalize L.getD ((nbits (l, b) + j) / 8) 0 / 2 ^ (7 - (nbits (l, b) + j) % 8) = A at e1 ⊢
  generalize x / 2 ^ (c - 1 - j) = B at e1 ⊢
  omega
end Go.Proofs.YtepgcgphnjlcoaaDoor
