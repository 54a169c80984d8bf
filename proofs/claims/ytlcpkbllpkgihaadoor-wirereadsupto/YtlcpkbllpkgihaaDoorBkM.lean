
import Derived.Test.YtlcpkbllpkgihaaDoorWwW
import Derived.Test.YtlcpkbllpkgihaaDoorBtA
import Derived.Test.YtlcpkbllpkgihaaDoorRwE
import Derived.Test.YtlcpkbllpkgihaaDoorRwF
import Derived.Deep.RegionHeld3
import Derived.Deep.Cut
import Derived.Test.YtlcpkbllpkgihaaDoorWwR
import Derived.ProofKit
import Derived.OpenShut
import Derived.Deep.SlicePairs
import Derived.Lib.SmallJoins
namespace Go.Proofs.YtlcpkbllpkgihaaDoor
open Go.RowKit
set_option linter.unusedVariables false
set_option linter.unusedSimpArgs false
/-- things that can be written. -/
def OpsOk (o : Ops) (len : Nat) : Prop := ∀ i, i < len → o.X i < 18446744073709551616 ∧ o.M i < 9223372036854775808 ∧ ∀ j, j < o.M i → o.S i j < 256
theorem OpsAt.ok {w : World} {a : Option Addr} {len : Nat} {o : Ops} (h : OpsAt w a len o) : OpsOk o len := by
  intro i hi
  rcases h with h0 | ⟨b, off, _, _, hc⟩
  · omega
  · obtain ⟨_, hx, hB⟩ := hc i hi
    refine ⟨hx, by have := hB.1; omega, fun j hj => ?_⟩
    rcases hB.2 with h0 | ⟨_, _, _, _, hb⟩
    · omega
    · exact (hb j hj).2
theorem wrap64_rg (n : Int) : -9223372036854775808 ≤ wrap64 n ∧ wrap64 n ≤ 9223372036854775807 := by unfold wrap64; omega
theorem opOn_CL (k : Int) (x : Nat) (hx : x < 18446744073709551616) (bits : Int) (m : Nat) (hm : m < 9223372036854775808) (bs : Nat → Nat) (hb : ∀ j, j < m → bs j < 256) (l : List Nat) (b : Nat) (h : CL l b) : CL (opOn k x bits m bs (l, b)).1 (opOn k x bits m bs (l, b)).2 := by
  unfold opOn
  split
  · exact h.app (by intro y hy; simp at hy; omega)
  split
  · exact h.app (be4_lt _)
  split
  · exact h.app (uB_lt x hx)
  split
  · exact h.app (uB_lt _ (foldZ_lt _ (wrap64_rg _)))
  split
  · exact h.app (fun y hy => by rcases List.mem_append.1 hy with e | e; exact uB_lt m (by omega) y e; exact bytesL_lt hb y e)
  split
  · exact (bitsOn_bt x (broughtN bits) l b h).1
  · exact h
theorem wrAll_CL (o : Ops) (len : Nat) (h : OpsOk o len) : ∀ k, k ≤ len → CL (wrAll o k).1 (wrAll o k).2 := by
  intro k
  induction k with
  | zero => intro _; exact ⟨by simp [wrAll], by simp [wrAll], by simp [wrAll]⟩
  | succ k ih =>
    intro hk
    obtain ⟨h1, h2, h3⟩ := h k (by omega)
    exact opOn_CL _ _ h1 _ _ h2 _ h3 _ _ (ih (by omega))
theorem wrAll_pre (o : Ops) (len : Nat) (h : OpsOk o len) : ∀ d k, k + d = len → PRE (wrAll o k) (wrAll o len).1 := by
  intro d
  induction d with
  | zero => intro k hk; obtain rfl : k = len := by omega
            exact ⟨Nat.le_refl _, fun q _ => rfl⟩
  | succ d ih =>
    intro k hk
    have hC := wrAll_CL o len h k (by omega)
    obtain ⟨h1, h2⟩ := opOn_pre (o.K k) (o.X k) (o.B k) (o.M k) (o.S k) _ _ hC
    exact PRE.trans (t := wrAll o (k + 1)) h1 h2 (ih (k + 1) (by omega))
/-- where the Reader stands, when the first k were read. -/
theorem place {l : List Nat} {b p r : Nat} (h : CL l b) (hr : r < 8) (hn : nbits (l, b) + r = 8 * p) : p = l.length ∧ r = (8 - b) % 8 := by
  have := h.1
  by_cases hb : b = 0
  · subst hb; simp [nbits] at hn; omega
  · have := h.pos hb
    simp only [nbits] at hn
    omega
/-- whole bytes come back. -/
theorem whole_back {l E L : List Nat} {b p r : Nat} (hC : CL l b) (hE : ∀ y ∈ E, y < 256) (hL : ∀ y ∈ L, y < 256) (hP : PRE (l ++ E, 0) L) (hr : r < 8) (hn : nbits (l, b) + r = 8 * p) :
    p + E.length ≤ L.length ∧ ¬ (r ≠ 0 ∧ natsOf L (p - 1) % 2 ^ r ≠ 0) ∧ (∀ i, i < E.length → natsOf L (p + i) = E.getD i 0) ∧ nbits (l ++ E, 0) + 0 = 8 * (p + E.length) := by
  obtain ⟨hp, hr2⟩ := place hC hr hn
  have hlen := hP.1
  have hby : ∀ i, i < (l ++ E).length → L.getD i 0 = (l ++ E).getD i 0 := hP.byte (fun y hy => by rcases List.mem_append.1 hy with e | e; exact hC.2.1 y e; exact hE y e) hL
  simp only [List.length_append] at hlen hby
  refine ⟨by omega, ?_, fun i hi => ?_, by simp [nbits]; omega⟩
  · rintro ⟨h0, h1⟩
    have hb0 : b ≠ 0 := fun e => by rw [e] at hr2; omega
    obtain ⟨l0, a, rfl, hz⟩ := hC.2.2 hb0
    have hl0 : (l0 ++ [a]).length = l0.length + 1 := by simp
    have e1 := hby l0.length (by omega)
    rw [List.append_assoc] at e1
    have e2 : (l0 ++ ([a] ++ E)).getD l0.length 0 = a := by simp [List.getD_eq_getElem?_getD]
    rw [e2] at e1
    apply h1
    have hc := hC.1
    rw [show p - 1 = l0.length by omega, show r = 8 - b by omega]
    show L.getD l0.length 0 % _ = 0
    rw [e1]; exact hz
  · have := hby (p + i) (by omega)
    show L.getD (p + i) 0 = _
    rw [this, hp, getD_right]
theorem PRE.bits {l L : List Nat} {b x c p r : Nat} (hC : CL l b) (hP : PRE (bitsOn x c (l, b)) L) (hL : ∀ y ∈ L, y < 256) (hr : r < 8) (hn : nbits (l, b) + r = 8 * p) :
    rdB (natsOf L) (nbits (l, b)) c = x % 2 ^ c ∧ nbits (l, b) + c ≤ 8 * L.length ∧ nbits (bitsOn x c (l, b)) = nbits (l, b) + c := by
  obtain ⟨h1, h2, h3, h4, h5⟩ := bitsOn_bt x c l b hC
  have hle : nbits (bitsOn x c (l, b)) ≤ 8 * (bitsOn x c (l, b)).1.length := nbits_le _ _
  have := hP.1
  refine ⟨rdB_of _ _ x c fun j hj => ?_, by omega, h2⟩
  have e1 := hP.2 (nbits (l, b) + j) (by omega)
  rw [h5 j hj] at e1
  unfold bt at e1
  show L.getD ((nbits (l, b) + j) / 8) 0 / 2 ^ (7 - (nbits (l, b) + j) % 8) % 2 = _
  rw [Nat.testBit_eq_decide_div_mod_eq] at e1
  rw [decide_eq_decide] at e1
  generalize L.getD ((nbits (l, b) + j) / 8) 0 / 2 ^ (7 - (nbits (l, b) + j) % 8) = A at e1 ⊢
  generalize x / 2 ^ (c - 1 - j) = B at e1 ⊢
  omega
end Go.Proofs.YtlcpkbllpkgihaaDoor

namespace Go.Proofs.YtlcpkbllpkgihaaDoor
open Go.RowKit
set_option linter.unusedVariables false
set_option linter.unusedSimpArgs false
theorem RR.here {N : Nat} {w1 wx : World} {a : Option Addr} {n cap p r : Nat} {bs : Nat → Nat} {fv : Option (Int × Int)} (h : RR N w1 a n cap bs p r fv wx) : RR N wx a n cap bs p r fv wx :=
  ⟨h.c0, h.c1, h.c2, h.c3, h.f1, h.f2, h.f3, h.row, h.nb, h.nc, h.pn, h.r8, h.rp, Below.refl _ _, h.sz⟩
/-- the Reader, when the first k were read. -/
def RK (w : World) (o : Ops) (len N : Nat) (a : Option Addr) (cap k : Nat) (wr : World) : Prop :=
  w.heap.size ≤ N ∧ Below w.heap.size w wr ∧ ∃ p r, RR N wr a (wrAll o len).1.length cap (natsOf (wrAll o len).1) p r none wr ∧ r < 8 ∧ nbits (wrAll o k) + r = 8 * p
theorem RK.below {w : World} {o : Ops} {len N : Nat} {a : Option Addr} {cap k : Nat} {wr w' : World} (h : RK w o len N a cap k wr) (hb : Below wr.heap.size wr w') : RK w o len N a cap k w' := by
  obtain ⟨h1, h2, p, r, h3, h4, h5⟩ := h
  exact ⟨h1, below_then h2 hb, p, r, (h3.below hb).here, h4, h5⟩
/-- behind a read. -/
theorem RK.next {w : World} {o : Ops} {len N : Nat} {a : Option Addr} {cap k k' p' r' : Nat} {wr w' : World} (h : RK w o len N a cap k wr) (hR : RR N wr a (wrAll o len).1.length cap (natsOf (wrAll o len).1) p' r' none w') (hr : r' < 8) (hn : nbits (wrAll o k') + r' = 8 * p') : RK w o len N a cap k' w' :=
  ⟨h.1, h.2.1.trans (hR.b.mono h.1), p', r', hR.here, hr, hn⟩
section
variable {w : World} {o : Ops} {len N : Nat} {a : Option Addr} {cap k : Nat} {wr : World}
/-- what is asked of the k-th when it was whole bytes. -/
theorem RK.whole (h : RK w o len N a cap k wr) (hO : OpsOk o len) (hk : k < len) (E : List Nat) (hE : wrAll o (k + 1) = ((wrAll o k).1 ++ E, 0)) :
    ∃ p r, RR N wr a (wrAll o len).1.length cap (natsOf (wrAll o len).1) p r none wr ∧ p + E.length ≤ (wrAll o len).1.length ∧ ¬ (r ≠ 0 ∧ natsOf (wrAll o len).1 (p - 1) % 2 ^ r ≠ 0) ∧ (∀ i, i < E.length → natsOf (wrAll o len).1 (p + i) = E.getD i 0) ∧ nbits (wrAll o (k + 1)) + 0 = 8 * (p + E.length) := by
  obtain ⟨h1, h2, p, r, h3, h4, h5⟩ := h
  have hC := wrAll_CL o len hO k (by omega)
  have hC1 := wrAll_CL o len hO (k + 1) (by omega)
  have hP := wrAll_pre o len hO (len - (k + 1)) (k + 1) (by omega)
  have hL := (wrAll_CL o len hO len (Nat.le_refl _)).2.1
  rw [hE] at hP hC1 ⊢
  obtain ⟨g1, g2, g3, g4⟩ := whole_back hC (fun y hy => hC1.2.1 y (by simp [hy])) hL hP h4 h5
  exact ⟨p, r, h3, g1, g2, g3, g4⟩
theorem back_byte (h : RK w o len N a cap k wr) (hO : OpsOk o len) (hk : k < len) (hK : o.K k = 0) :
    Calls Tryd.prog 27 #[.pointer (some ⟨N, 0, none⟩)] wr fun e w' => e = .returned (.int .u8 ((o.X k % 256 : Nat) : Int)) ∧ RK w o len N a cap (k + 1) w' ∧ RF N wr w' := by
  have hE : wrAll o (k + 1) = ((wrAll o k).1 ++ [o.X k % 256], 0) := by simp [wrAll, opOn, hK]
  obtain ⟨p, r, h3, g1, g2, g3, g4⟩ := h.whole hO hk _ hE
  have e0 := g3 0 (by simp)
  simp at e0 g1
  refine (rByte_ok h3 g2 (by omega)).mono ?_
  rintro e w' ⟨rfl, h4, F4⟩
  exact ⟨by rw [e0], h.next h4 (by omega) (by simpa using g4), F4⟩
theorem back_fix (h : RK w o len N a cap k wr) (hO : OpsOk o len) (hk : k < len) (hK : o.K k = 1) :
    Calls Tryd.prog 28 #[.pointer (some ⟨N, 0, none⟩)] wr fun e w' => e = .returned (.int .u32 ((o.X k % 4294967296 : Nat) : Int)) ∧ RK w o len N a cap (k + 1) w' ∧ RF N wr w' := by
  have hE : wrAll o (k + 1) = ((wrAll o k).1 ++ be4 (o.X k % 4294967296), 0) := by simp [wrAll, opOn, hK]
  obtain ⟨p, r, h3, g1, g2, g3, g4⟩ := h.whole hO hk _ hE
  have e0 := g3 0 (by simp [be4])
  have e1 := g3 1 (by simp [be4])
  have e2 := g3 2 (by simp [be4])
  have e3 := g3 3 (by simp [be4])
  simp [be4] at e0 e1 e2 e3 g1 g4
  refine (rFix_ok h3 g2 (by omega)).mono ?_
  rintro e w' ⟨rfl, h4, F4⟩
  refine ⟨?_, h.next h4 (by omega) (by omega), F4⟩
  have : u32At (natsOf (wrAll o len).1) p = o.X k % 4294967296 := by unfold u32At; rw [e0, e1, e2, e3]; omega
  rw [this]
theorem back_uint (h : RK w o len N a cap k wr) (hO : OpsOk o len) (hk : k < len) (hK : o.K k = 2) :
    Calls Tryd.prog 29 #[.pointer (some ⟨N, 0, none⟩), .int .u64 (o.X k : Int)] wr fun e w' => e = .returned (.int .u64 (o.X k : Int)) ∧ RK w o len N a cap (k + 1) w' ∧ RF N wr w' := by
  have hE : wrAll o (k + 1) = ((wrAll o k).1 ++ uB (o.X k), 0) := by simp [wrAll, opOn, hK]
  obtain ⟨p, r, h3, g1, g2, g3, g4⟩ := h.whole hO hk _ hE
  refine (rUint_ok h3 g2 (o.X k) (hO k hk).1 g1 g3 (o.X k) _ rfl (Nat.le_refl _)).mono ?_
  rintro e w' ⟨rfl, h4, F4⟩
  exact ⟨rfl, h.next h4 (by omega) g4, F4⟩
theorem back_int (h : RK w o len N a cap k wr) (hO : OpsOk o len) (hk : k < len) (hK : o.K k = 3) :
    Calls Tryd.prog 30 #[.pointer (some ⟨N, 0, none⟩)] wr fun e w' => e = .returned (.int .i64 (wrap64 (o.X k : Int))) ∧ RK w o len N a cap (k + 1) w' ∧ RF N wr w' := by
  have hE : wrAll o (k + 1) = ((wrAll o k).1 ++ uB (foldZ (wrap64 (o.X k : Int))), 0) := by simp [wrAll, opOn, hK]
  obtain ⟨p, r, h3, g1, g2, g3, g4⟩ := h.whole hO hk _ hE
  refine (rInt_ok h3 g2 _ (wrap64_rg _) g1 g3).mono ?_
  rintro e w' ⟨rfl, h4, F4⟩
  exact ⟨rfl, h.next h4 (by omega) g4, F4⟩
/-- a number's bytes, and what stands behind them. -/
theorem RK.lenB (h : RK w o len N a cap k wr) (hO : OpsOk o len) (hk : k < len) (hK : o.K k = 4 ∨ o.K k = 5) :
    ∃ p r, RR N wr a (wrAll o len).1.length cap (natsOf (wrAll o len).1) p r none wr ∧ ¬ (r ≠ 0 ∧ natsOf (wrAll o len).1 (p - 1) % 2 ^ r ≠ 0) ∧ p + (uB (o.M k)).length + o.M k ≤ (wrAll o len).1.length ∧ (∀ i, i < (uB (o.M k)).length → natsOf (wrAll o len).1 (p + i) = (uB (o.M k)).getD i 0) ∧ (∀ i, i < o.M k → natsOf (wrAll o len).1 (p + (uB (o.M k)).length + i) = o.S k i) ∧ nbits (wrAll o (k + 1)) + 0 = 8 * (p + (uB (o.M k)).length + o.M k) := by
  have hE : wrAll o (k + 1) = ((wrAll o k).1 ++ (uB (o.M k) ++ bytesL (o.S k) (o.M k)), 0) := by rcases hK with hK | hK <;> simp [wrAll, opOn, hK]
  obtain ⟨p, r, h3, g1, g2, g3, g4⟩ := h.whole hO hk _ hE
  have hbl : (bytesL (o.S k) (o.M k)).length = o.M k := by simp [bytesL]
  simp only [List.length_append, hbl] at g1 g3 g4
  refine ⟨p, r, h3, g2, by omega, fun i hi => ?_, fun i hi => ?_, by omega⟩
  · rw [g3 i (by omega), getD_left _ _ _ hi]
  · rw [Nat.add_assoc, g3 _ (by omega), getD_right]
    exact nats_bytesL (o.S k) (o.M k) i hi
theorem back_raw (h : RK w o len N a cap k wr) (hO : OpsOk o len) (hk : k < len) (hK : o.K k = 5) :
    Calls Tryd.prog 32 #[.pointer (some ⟨N, 0, none⟩), .int .i64 (o.M k : Int)] wr fun e w' => (∃ a' c, e = .returned (.slice a' (o.M k) c) ∧ BytesIn w' a' (o.M k) (o.S k)) ∧ RK w o len N a cap (k + 1) w' ∧ RF N wr w' := by
  obtain ⟨p, r, h3, g2, g1, g3, g5, g4⟩ := h.lenB hO hk (Or.inr hK)
  refine (rRaw_ok h3 g2 (o.M k) (hO k hk).2.1 g1 g3).mono ?_
  rintro e w' ⟨⟨a', c, rfl, hin⟩, h4, F4⟩
  refine ⟨⟨a', c, rfl, hin.1, ?_⟩, h.next h4 (by omega) g4, F4⟩
  rcases hin.2 with h0 | ⟨b, off, e, hb, hB⟩
  · exact Or.inl h0
  · exact Or.inr ⟨b, off, e, hb, fun i hi => by rw [← g5 i hi]; exact hB i hi⟩
theorem back_text (h : RK w o len N a cap k wr) (hO : OpsOk o len) (hk : k < len) (hK : o.K k = 4) (s : ByteArray) (hs : s.size = o.M k) (hs2 : bytesL (fun i => (s.data.toList.getD i 0).toNat) s.size = bytesL (o.S k) (o.M k)) :
    Calls Tryd.prog 31 #[.pointer (some ⟨N, 0, none⟩), .int .i64 (o.M k : Int)] wr fun e w' => e = .returned (.string s) ∧ RK w o len N a cap (k + 1) w' ∧ RF N wr w' := by
  obtain ⟨p, r, h3, g2, g1, g3, g5, g4⟩ := h.lenB hO hk (Or.inl hK)
  refine (rText_ok h3 g2 (o.M k) (hO k hk).2.1 g1 g3).mono ?_
  rintro e w' ⟨⟨t, rfl, ht, ht2⟩, h4, F4⟩
  refine ⟨?_, h.next h4 (by omega) g4, F4⟩
  have e1 : bytesL (fun i => natsOf (wrAll o len).1 (p + (uB (o.M k)).length + i)) (o.M k) = bytesL (o.S k) (o.M k) := by
    unfold bytesL
    exact List.map_congr_left fun i hi => g5 i (List.mem_range.1 hi)
  rw [e1, ← hs2] at ht2
  have : t = s := by
    apply ByteArray.ext
    apply Array.ext'
    apply List.ext_getElem?
    intro i
    have hsz : t.size = s.size := by rw [ht, hs]
    have e2 := congrArg (fun l : List Nat => l[i]?) ht2
    simp only [bytesL, List.getElem?_map] at e2
    rcases Nat.lt_or_ge i t.size with hi | hi
    · have hi2 : i < s.size := by omega
      rw [List.getElem?_range hi, List.getElem?_range hi2] at e2
      simp only [Option.map_some, Option.some.injEq] at e2
      have hi3 : i < t.data.toList.length := hi
      have hi4 : i < s.data.toList.length := hi2
      rw [List.getElem?_eq_getElem hi3, List.getElem?_eq_getElem hi4]
      rw [List.getD_eq_getElem?_getD, List.getD_eq_getElem?_getD, List.getElem?_eq_getElem hi3, List.getElem?_eq_getElem hi4] at e2
      exact congrArg some (UInt8.toNat.inj e2)
    · rw [List.getElem?_eq_none (show t.data.toList.length ≤ i from hi), List.getElem?_eq_none (show s.data.toList.length ≤ i by rw [show s.data.toList.length = s.size from rfl]; omega)]
  rw [this]
theorem back_bits (h : RK w o len N a cap k wr) (hO : OpsOk o len) (hk : k < len) (hK : o.K k = 6) :
    Calls Tryd.prog 33 #[.pointer (some ⟨N, 0, none⟩), .int .i64 (o.B k)] wr fun e w' => e = .returned (.int .u64 ((o.X k % 2 ^ broughtN (o.B k) : Nat) : Int)) ∧ RK w o len N a cap (k + 1) w' ∧ RF N wr w' := by
  obtain ⟨h1, h2, p, r, h3, h4, h5⟩ := h
  have hC := wrAll_CL o len hO k (by omega)
  have hP := wrAll_pre o len hO (len - (k + 1)) (k + 1) (by omega)
  have hL := (wrAll_CL o len hO len (Nat.le_refl _)).2.1
  have hE : wrAll o (k + 1) = bitsOn (o.X k) (broughtN (o.B k)) ((wrAll o k).1, (wrAll o k).2) := by simp [wrAll, opOn, hK]
  rw [hE] at hP
  obtain ⟨g1, g2, g3⟩ := PRE.bits hC hP hL h4 h5
  refine (rBits_ok h3 h4 (o.B k) _ h5 g2).mono ?_
  rintro e w' ⟨rfl, ⟨p', r', h6, h7, h8⟩, F⟩
  refine ⟨congrArg (fun y : Nat => Ending.returned (Value.int .u64 (y : Int))) g1, RK.next ⟨h1, h2, p, r, h3, h4, h5⟩ h6 h7 ?_, F⟩
  rw [hE, g3]; exact h8
end
end Go.Proofs.YtlcpkbllpkgihaaDoor

namespace Go.Proofs.YtlcpkbllpkgihaaDoor
open Go.RowKit
set_option linter.unusedVariables false
set_option linter.unusedSimpArgs false
theorem newR_any (l : List Nat) (v : Value) (w : World) (h : (v = .slice none 0 0 ∧ l = []) ∨ ∃ g o c, v = .slice (some ⟨g, o, none⟩) l.length c ∧ BytesIn w (some ⟨g, o, none⟩) l.length (natsOf l)) :
    Calls Tryd.prog 14 #[v] w fun e w' => ∃ N a cap, e = .returned (.pointer (some ⟨N, 0, none⟩)) ∧ w.heap.size ≤ N ∧ RR N w' a l.length cap (natsOf l) 0 0 none w' ∧ Below w.heap.size w w' := by
  rcases h with ⟨rfl, rfl⟩ | ⟨g, o, c, rfl, hin⟩
  · exact new_nil _ w
  · exact new_ok g o _ c _ w hin
theorem keepZ {w wx wy : World} {N z : Nat} {v0 v1 v2 v3 : Value} (F : RF N wx wy) (hz : z ≠ N) (hB : Below w.heap.size w wy) (S : Below w.heap.size w wx ∧ z < wx.heap.size ∧ wx.cell? ⟨z, 0, none⟩ = some v0 ∧ wx.cell? ⟨z, 1, none⟩ = some v1 ∧ wx.cell? ⟨z, 2, none⟩ = some v2 ∧ wx.cell? ⟨z, 3, none⟩ = some v3) :
    Below w.heap.size w wy ∧ z < wy.heap.size ∧ wy.cell? ⟨z, 0, none⟩ = some v0 ∧ wy.cell? ⟨z, 1, none⟩ = some v1 ∧ wy.cell? ⟨z, 2, none⟩ = some v2 ∧ wy.cell? ⟨z, 3, none⟩ = some v3 := by
  obtain ⟨b, h1, c0, c1, c2, c3⟩ := S
  have hk := F.keep z h1 hz
  have hs := F.size
  refine ⟨hB, by omega, ?_, ?_, ?_, ?_⟩
  · rw [World.cell?_of_block (w := wx) hk]; exact c0
  · rw [World.cell?_of_block (w := wx) hk]; exact c1
  · rw [World.cell?_of_block (w := wx) hk]; exact c2
  · rw [World.cell?_of_block (w := wx) hk]; exact c3
theorem back_done {w : World} {o : Ops} {len N : Nat} {a : Option Addr} {cap : Nat} {wr : World} (h : RK w o len N a cap len wr) (hO : OpsOk o len) :
    Calls Tryd.prog 24 #[.pointer (some ⟨N, 0, none⟩)] wr fun e w' => e = .returned .nilIface ∧ RK w o len N a cap len w' := by
  obtain ⟨h1, h2, p, r, h3, h4, h5⟩ := h
  have hC := wrAll_CL o len hO len (Nat.le_refl _)
  obtain ⟨hp, hr⟩ := place hC h4 h5
  have hP : PRE ((wrAll o len).1 ++ [], 0) (wrAll o len).1 := by rw [List.append_nil]; exact ⟨Nat.le_refl _, fun q _ => rfl⟩
  obtain ⟨_, g2, _, _⟩ := whole_back (E := []) hC (by simp) hC.2.1 hP h4 h5
  have hp' : p = (wrAll o len).1.length := hp
  subst hp'
  refine (done_ok h3 g2).mono ?_
  rintro e w' ⟨rfl, h6, F⟩
  exact ⟨rfl, RK.next ⟨h1, h2, _, r, h3, h4, h5⟩ h6 h4 h5⟩
theorem low_any (x : Nat) (hx : x < 18446744073709551616) (n : Int) (w : World) : Calls Tryd.prog 34 #[.int .u64 (x : Int), .int .i64 n] w fun e w' => e = .returned (.int .u64 ((x % 2 ^ broughtN n : Nat) : Int)) ∧ w' = w := by
  by_cases h0 : n ≤ 0
  · have e : x % 2 ^ broughtN n = 0 := by
      have : broughtN n = 0 := by unfold broughtN; split; rfl; split <;> omega
      rw [this]; simp [Nat.mod_one]
    rw [e]
    clear e
    go_enter Tryd.func34, Tryd.ntmps34
    go_wp2_with fail
    go_ret
    exact ⟨rfl, rfl⟩
  · by_cases h1 : 64 ≤ n
    · have e : x % 2 ^ broughtN n = x := by
        have : broughtN n = 64 := by unfold broughtN; split; omega; split <;> omega
        rw [this]; exact Nat.mod_eq_of_lt (by simpa using hx)
      rw [e]
      clear e
      go_enter Tryd.func34, Tryd.ntmps34
      go_wp2_with fail
      go_ret
      exact ⟨rfl, rfl⟩
    · obtain ⟨m, rfl⟩ : ∃ m : Nat, n = (m : Int) := ⟨n.toNat, by omega⟩
      have hm : broughtN (m : Int) = m := by unfold broughtN; split; omega; split <;> omega
      rw [hm]
      have hp : 2 ^ m ≤ 2 ^ 63 := Nat.pow_le_pow_right (by omega) (by omega)
      have hp0 : 0 < 2 ^ m := Nat.pow_pos (by omega)
      obtain ⟨P, hP⟩ : ∃ P, P = 2 ^ m := ⟨_, rfl⟩
      have hpw : IntKind.u64.wrap (2 ^ m) = (P : Int) := by
        have : (2 : Int) ^ m = ((2 ^ m : Nat) : Int) := by simp
        rw [this, ← hP, IntKind.wrap_u64]
        have h63 : (2 : Nat) ^ 63 = 9223372036854775808 := by decide
        omega
      rw [← hP] at hp0 ⊢
      have hP0 : ¬ (P : Int) = 0 := by omega
      have hmod : Hid (IntKind.u64.wrap ((x : Int).tmod (P : Int)) = ((x % P : Nat) : Int)) := by
        show _ = _
        have e1 : (x : Int).tmod (P : Int) = ((x % P : Nat) : Int) := by rw [Int.tmod_eq_emod_of_nonneg (Int.natCast_nonneg _)]; simp
        rw [e1, IntKind.wrap_u64]
        have := Nat.mod_le x P
        omega
      have hmod2 : Hid ((x : Int).tmod (P : Int) = ((x % P : Nat) : Int)) := by
        show _ = _
        rw [Int.tmod_eq_emod_of_nonneg (Int.natCast_nonneg _)]; simp
      clear hP hp
      go_enter Tryd.func34, Tryd.ntmps34
      go_wp2_with fail
      go_ret
      refine ⟨congrArg (fun y => Ending.returned (Value.int .u64 y)) ?_, rfl⟩
      first | exact hmod.out | exact hmod2.out | rfl
theorem keepZ4 {w wx wy : World} {N z : Nat} {v0 v1 v2 v3 : Value} {sv : Value} {s : ByteArray} (hcv : Hid (∀ w', Below w.heap.size w w' → (convert 24 9 sv).run Tryd.prog w' = .ok (.string s) w')) (F : RF N wx wy) (hz : z ≠ N) (hB : Below w.heap.size w wy) (S : Below w.heap.size w wx ∧ z < wx.heap.size ∧ wx.cell? ⟨z, 0, none⟩ = some v0 ∧ wx.cell? ⟨z, 1, none⟩ = some v1 ∧ wx.cell? ⟨z, 2, none⟩ = some v2 ∧ wx.cell? ⟨z, 3, none⟩ = some v3 ∧ (convert 24 9 sv).run Tryd.prog wx = .ok (.string s) wx) :
    Below w.heap.size w wy ∧ z < wy.heap.size ∧ wy.cell? ⟨z, 0, none⟩ = some v0 ∧ wy.cell? ⟨z, 1, none⟩ = some v1 ∧ wy.cell? ⟨z, 2, none⟩ = some v2 ∧ wy.cell? ⟨z, 3, none⟩ = some v3 ∧ (convert 24 9 sv).run Tryd.prog wy = .ok (.string s) wy := by
  obtain ⟨h1, h2, h3, h4, h5, h6, _⟩ := S
  obtain ⟨g1, g2, g3, g4, g5, g6⟩ := keepZ F hz hB ⟨h1, h2, h3, h4, h5, h6⟩
  exact ⟨g1, g2, g3, g4, g5, g6, hcv.out _ hB⟩
set_option maxRecDepth 100000 in
set_option maxHeartbeats 8000000 in
theorem back_walk (a : Option Addr) (len cap : Nat) (o : Ops) (w : World) (hs : ST w) (hO : OpsAt w a len o) (hlen : len ≤ 9223372036854775807) (hb : mAll o len + 200 ≤ 140737488355327) :
    Calls Tryd.prog 5 #[.slice a len cap] w fun e w' => e = .returned (.bool true) ∧ Below w.heap.size w w' := by
  have hT0 : Hid (TK w o 0 _) := TK.start w o
  have hOk : Hid (OpsOk o len) := hO.ok
  have hOH : Hid _ := hO
  have hsH : Hid _ := hs
  clear hO hs
  go_enter Tryd.func5, Tryd.ntmps5
  go_wp2_with fail
  go_loopw [17] (fun i wr => ∃ k : Nat, k ≤ len ∧ i = .int .i64 (k : Int) ∧ TK w o k wr) (fun i _ => len - (intOf i).toNat)
  case atStart => exact ⟨0, Nat.zero_le _, rfl, hT0.out⟩
  case round =>
    clear hT0
    obtain ⟨k, hk, rfl, hT⟩ := hrel
    by_cases hkl : k < len
    · have hkI : (k : Int) < (len : Int) := by omega
      have k0 : (0 : Int) ≤ (k : Int) := by omega
      rcases hOH.out with h0 | ⟨b, off, rfl, hbk, hc⟩
      · omega
      obtain ⟨⟨c0, c1, c2, c3⟩, hx, hB⟩ := hc k hkl
      have hbb := hT.bb
      have e0 : wr.cell? ⟨b, off + k * 4, none⟩ = some (.int .i64 (o.K k)) := by rw [hbb.cell (p := ⟨b, off + k * 4, none⟩) hbk]; exact c0
      have e1 : wr.cell? ⟨b, off + k * 4 + 1, none⟩ = some (.int .u64 (o.X k : Int)) := by rw [hbb.cell (p := ⟨b, off + k * 4 + 1, none⟩) hbk]; exact c1
      have e2 : wr.cell? ⟨b, off + k * 4 + 2, none⟩ = some (.int .i64 (o.B k)) := by rw [hbb.cell (p := ⟨b, off + k * 4 + 2, none⟩) hbk]; exact c2
      have e3 : wr.cell? ⟨b, off + k * 4 + 3, none⟩ = some (.slice (o.A k) (o.M k) (o.C k)) := by rw [hbb.cell (p := ⟨b, off + k * 4 + 3, none⟩) hbk]; exact c3
      have hm1 := mAll_mono o (show k + 1 ≤ len by omega)
      have hstep : Hid _ := fun O => write_step w o k wr O hT hx hB (by simp only [mAll] at hm1; omega)
      have hzz := hT.sz
      clear c0 c1 c2 c3 hc hB hT hx
      go_wp2_with fail
      refine (hstep.out _).mono ?_
      rintro e w2 ⟨rfl, hT2, hz2, hq⟩
      have hT2H : Hid (TK w o (k + 1) w2) := hT2
      clear hq e0 e1 e2 e3 hbb hT2
      go_wp2_with fail
      go_roundw
      case rel => exact ⟨k + 1, by omega, by go_num, hT2H.out⟩
      case measure => simp [intOf]; omega
    · obtain rfl : len = k := by omega
      have hBy : Hid (Calls Tryd.prog 11 #[.pointer (some ⟨w.heap.size, 0, none⟩)] wr fun e w' => ((e = .returned (.slice none 0 0) ∧ (wrAll o len).1 = []) ∨ ∃ g o' c, e = .returned (.slice (some ⟨g, o', none⟩) (wrAll o len).1.length c) ∧ BytesIn w' (some ⟨g, o', none⟩) (wrAll o len).1.length (natsOf (wrAll o len).1)) ∧ Below wr.heap.size wr w') := by
        obtain ⟨v, _, _, hW, h1, h2, _⟩ := hT.sides (show mAll o len ≤ _ by omega)
        exact bytesB2 _ _ _ v _ wr hW h1 h2
      have hTb := hT.bb
      clear hT hkl hk
      go_wp2_with fail
      refine Calls.mono hBy.out ?_
      rintro e w2 ⟨hsl, hB2⟩
      obtain ⟨v, rfl, hv⟩ : ∃ v, e = .returned v ∧ ((v = .slice none 0 0 ∧ (wrAll o len).1 = []) ∨ ∃ g o' c, v = .slice (some ⟨g, o', none⟩) (wrAll o len).1.length c ∧ BytesIn w2 (some ⟨g, o', none⟩) (wrAll o len).1.length (natsOf (wrAll o len).1)) := by
        rcases hsl with ⟨rfl, h⟩ | ⟨g, o', c, rfl, h⟩
        · exact ⟨_, rfl, Or.inl ⟨rfl, h⟩⟩
        · exact ⟨_, rfl, Or.inr ⟨g, o', c, rfl, h⟩⟩
      have hNew : Hid _ := newR_any (wrAll o len).1 v w2 hv
      have hP2 := below_then hTb hB2
      clear hsl hv
      go_wp2_with fail
      refine Calls.mono hNew.out ?_
      rintro e w3 ⟨N, ra, rcap, rfl, hN, hRR, hB3⟩
      have hP3 := below_then hP2 hB3
      have hRK0 : Hid (RK w o len N ra rcap 0 w3) := ⟨by have := hP2.size; omega, hP3, 0, 0, hRR, by omega, by simp [wrAll, nbits]⟩
      clear hRR hNew hBy hB2 hB3 hP2 hP3 hTb
      go_wp2_with fail
      go_loopw [31] (fun i wr => ∃ k : Nat, k ≤ len ∧ i = .int .i64 (k : Int) ∧ RK w o len N ra rcap k wr) (fun i _ => len - (intOf i).toNat)
      case atStart => exact ⟨0, Nat.zero_le _, rfl, hRK0.out⟩
      case round =>
        clear hRK0
        obtain ⟨k, hk, rfl, hRK⟩ := hrel
        by_cases hkl : k < len
        · have hkI : (k : Int) < (len : Int) := by omega
          have k0 : (0 : Int) ≤ (k : Int) := by omega
          rcases hOH.out with h0 | ⟨b, off, rfl, hbk, hc⟩
          · omega
          obtain ⟨⟨c0, c1, c2, c3⟩, hx, hB⟩ := hc k hkl
          have hbb := hRK.2.1
          have e0 : wr.cell? ⟨b, off + k * 4, none⟩ = some (.int .i64 (o.K k)) := by rw [hbb.cell (p := ⟨b, off + k * 4, none⟩) hbk]; exact c0
          have e1 : wr.cell? ⟨b, off + k * 4 + 1, none⟩ = some (.int .u64 (o.X k : Int)) := by rw [hbb.cell (p := ⟨b, off + k * 4 + 1, none⟩) hbk]; exact c1
          have e2 : wr.cell? ⟨b, off + k * 4 + 2, none⟩ = some (.int .i64 (o.B k)) := by rw [hbb.cell (p := ⟨b, off + k * 4 + 2, none⟩) hbk]; exact c2
          have e3 : wr.cell? ⟨b, off + k * 4 + 3, none⟩ = some (.slice (o.A k) (o.M k) (o.C k)) := by rw [hbb.cell (p := ⟨b, off + k * 4 + 3, none⟩) hbk]; exact c3
          obtain ⟨wz, hwz⟩ : ∃ wz, wz = wr.alloc (.cells #[.int .i64 (o.K k), .int .u64 (o.X k : Int), .int .i64 (o.B k), .slice (o.A k) (o.M k) (o.C k)] 32) := ⟨_, rfl⟩
          have hBz : Below wr.heap.size wr wz := by rw [hwz]; exact below_new (Below.refl _ _) _
          obtain ⟨z, hz⟩ : ∃ z, z = wr.heap.size := ⟨_, rfl⟩
          have hzN : z ≠ N := by obtain ⟨_, _, p, r, h3, _⟩ := hRK; have := h3.sz; omega
          have hRKz : RK w o len N ra rcap k wz := hRK.below hBz
          have hRKd : RK w o len N ra rcap k wz.drew := hRKz.below (Below.refl _ _).drew
          have S2a : Below w.heap.size w wz ∧ z < wz.heap.size ∧ wz.cell? ⟨z, 0, none⟩ = some (.int .i64 (o.K k)) ∧ wz.cell? ⟨z, 1, none⟩ = some (.int .u64 (o.X k : Int)) ∧ wz.cell? ⟨z, 2, none⟩ = some (.int .i64 (o.B k)) ∧ wz.cell? ⟨z, 3, none⟩ = some (.slice (o.A k) (o.M k) (o.C k)) :=
            ⟨hRKz.2.1, by rw [hwz, hz]; simp, by rw [hwz, hz]; simp [go_sem], by rw [hwz, hz]; simp [go_sem], by rw [hwz, hz]; simp [go_sem], by rw [hwz, hz]; simp [go_sem]⟩
          have hwzH : Hid _ := hwz
          have hzH : Hid _ := hz
          have hBH : Hid (BytesIn w (o.A k) (o.M k) (o.S k)) := hB
          clear c0 c1 c2 c3 hc hRK hwz hz hB hBz hbb
          by_cases hk0 : o.K k = 0
          · have hR : Hid _ := fun (w' : World) (h : RK w o len N ra rcap k w') => (back_byte h hOk.out hkl hk0).mono (fun e w'' (hh : _ ∧ _ ∧ _) => (⟨by rw [hh.1]; congr 2, hh.2.1, hh.2.2⟩ : e = .returned (.int .u8 ((o.X k : Int) % 256)) ∧ RK w o len N ra rcap (k + 1) w'' ∧ RF N w' w''))
            rw [hk0] at e0 S2a
            rw [hk0] at hwzH
            have S2 : Below w.heap.size w wz ∧ z < wz.heap.size ∧ wz.cell? ⟨z, 0, none⟩ = some (.int .i64 (0)) ∧ wz.cell? ⟨z, 1, none⟩ = some (.int .u64 (o.X k : Int)) ∧ wz.cell? ⟨z, 2, none⟩ = some (.int .i64 (o.B k)) ∧ wz.cell? ⟨z, 3, none⟩ = some (.slice (o.A k) (o.M k) (o.C k)) := S2a
            have S2d : Below w.heap.size w wz.drew ∧ z < wz.drew.heap.size ∧ wz.drew.cell? ⟨z, 0, none⟩ = some (.int .i64 (0)) ∧ wz.drew.cell? ⟨z, 1, none⟩ = some (.int .u64 (o.X k : Int)) ∧ wz.drew.cell? ⟨z, 2, none⟩ = some (.int .i64 (o.B k)) ∧ wz.drew.cell? ⟨z, 3, none⟩ = some (.slice (o.A k) (o.M k) (o.C k)) := ⟨S2.1.drew, S2.2⟩
            have hRKd' := hRKd
            clear S2a hk0 hx
            go_wp2_with fail
            rw [← hwzH.out, ← hzH.out]
            go_region_held3 (fun w' => Below w.heap.size w w' ∧ z < w'.heap.size ∧ w'.cell? ⟨z, 0, none⟩ = some (.int .i64 (0)) ∧ w'.cell? ⟨z, 1, none⟩ = some (.int .u64 (o.X k : Int)) ∧ w'.cell? ⟨z, 2, none⟩ = some (.int .i64 (o.B k)) ∧ w'.cell? ⟨z, 3, none⟩ = some (.slice (o.A k) (o.M k) (o.C k))) (first | assumption)
              (first | (go_at_call 27; (with_reducible refine Calls.mono (hR.out _ (by assumption)) ?_); rintro e w' ⟨rfl, hRn, hFn⟩; have SS := keepZ hFn hzN hRn.2.1 (by assumption)))
            all_goals
              go_wp2_with fail
              all_goals first
                | (rename_i hbad; simp at hbad; done)
                | (go_roundw; exact ⟨k + 1, by omega, by go_num, (by assumption : RK w o len N ra rcap (k + 1) _)⟩; (simp [intOf]; omega))
          by_cases hk1 : o.K k = 1
          · have hR : Hid _ := fun (w' : World) (h : RK w o len N ra rcap k w') => (back_fix h hOk.out hkl hk1).mono (fun e w'' (hh : _ ∧ _ ∧ _) => (⟨by rw [hh.1]; congr 2, hh.2.1, hh.2.2⟩ : e = .returned (.int .u32 ((o.X k : Int) % 4294967296)) ∧ RK w o len N ra rcap (k + 1) w'' ∧ RF N w' w''))
            rw [hk1] at e0 S2a
            rw [hk1] at hwzH
            have S2 : Below w.heap.size w wz ∧ z < wz.heap.size ∧ wz.cell? ⟨z, 0, none⟩ = some (.int .i64 (1)) ∧ wz.cell? ⟨z, 1, none⟩ = some (.int .u64 (o.X k : Int)) ∧ wz.cell? ⟨z, 2, none⟩ = some (.int .i64 (o.B k)) ∧ wz.cell? ⟨z, 3, none⟩ = some (.slice (o.A k) (o.M k) (o.C k)) := S2a
            have S2d : Below w.heap.size w wz.drew ∧ z < wz.drew.heap.size ∧ wz.drew.cell? ⟨z, 0, none⟩ = some (.int .i64 (1)) ∧ wz.drew.cell? ⟨z, 1, none⟩ = some (.int .u64 (o.X k : Int)) ∧ wz.drew.cell? ⟨z, 2, none⟩ = some (.int .i64 (o.B k)) ∧ wz.drew.cell? ⟨z, 3, none⟩ = some (.slice (o.A k) (o.M k) (o.C k)) := ⟨S2.1.drew, S2.2⟩
            have hRKd' := hRKd
            clear S2a hk1 hx
            go_wp2_with fail
            rw [← hwzH.out, ← hzH.out]
            go_region_held3 (fun w' => Below w.heap.size w w' ∧ z < w'.heap.size ∧ w'.cell? ⟨z, 0, none⟩ = some (.int .i64 (1)) ∧ w'.cell? ⟨z, 1, none⟩ = some (.int .u64 (o.X k : Int)) ∧ w'.cell? ⟨z, 2, none⟩ = some (.int .i64 (o.B k)) ∧ w'.cell? ⟨z, 3, none⟩ = some (.slice (o.A k) (o.M k) (o.C k))) (first | assumption)
              (first | (go_at_call 28; (with_reducible refine Calls.mono (hR.out _ (by assumption)) ?_); rintro e w' ⟨rfl, hRn, hFn⟩; have SS := keepZ hFn hzN hRn.2.1 (by assumption)))
            all_goals
              go_wp2_with fail
              all_goals first
                | (rename_i hbad; simp at hbad; done)
                | (go_roundw; exact ⟨k + 1, by omega, by go_num, (by assumption : RK w o len N ra rcap (k + 1) _)⟩; (simp [intOf]; omega))
          by_cases hk2 : o.K k = 2
          · have hR : Hid _ := fun (w' : World) (h : RK w o len N ra rcap k w') => back_uint h hOk.out hkl hk2
            rw [hk2] at e0 S2a
            rw [hk2] at hwzH
            have S2 : Below w.heap.size w wz ∧ z < wz.heap.size ∧ wz.cell? ⟨z, 0, none⟩ = some (.int .i64 (2)) ∧ wz.cell? ⟨z, 1, none⟩ = some (.int .u64 (o.X k : Int)) ∧ wz.cell? ⟨z, 2, none⟩ = some (.int .i64 (o.B k)) ∧ wz.cell? ⟨z, 3, none⟩ = some (.slice (o.A k) (o.M k) (o.C k)) := S2a
            have S2d : Below w.heap.size w wz.drew ∧ z < wz.drew.heap.size ∧ wz.drew.cell? ⟨z, 0, none⟩ = some (.int .i64 (2)) ∧ wz.drew.cell? ⟨z, 1, none⟩ = some (.int .u64 (o.X k : Int)) ∧ wz.drew.cell? ⟨z, 2, none⟩ = some (.int .i64 (o.B k)) ∧ wz.drew.cell? ⟨z, 3, none⟩ = some (.slice (o.A k) (o.M k) (o.C k)) := ⟨S2.1.drew, S2.2⟩
            have hRKd' := hRKd
            clear S2a hk2 hx
            go_wp2_with fail
            rw [← hwzH.out, ← hzH.out]
            go_region_held3 (fun w' => Below w.heap.size w w' ∧ z < w'.heap.size ∧ w'.cell? ⟨z, 0, none⟩ = some (.int .i64 (2)) ∧ w'.cell? ⟨z, 1, none⟩ = some (.int .u64 (o.X k : Int)) ∧ w'.cell? ⟨z, 2, none⟩ = some (.int .i64 (o.B k)) ∧ w'.cell? ⟨z, 3, none⟩ = some (.slice (o.A k) (o.M k) (o.C k))) (first | assumption)
              (first | (go_at_call 29; (with_reducible refine Calls.mono (hR.out _ (by assumption)) ?_); rintro e w' ⟨rfl, hRn, hFn⟩; have SS := keepZ hFn hzN hRn.2.1 (by assumption)))
            all_goals
              go_wp2_with fail
              all_goals first
                | (rename_i hbad; simp at hbad; done)
                | (go_roundw; exact ⟨k + 1, by omega, by go_num, (by assumption : RK w o len N ra rcap (k + 1) _)⟩; (simp [intOf]; omega))
          by_cases hk3 : o.K k = 3
          · have hR : Hid _ := fun (w' : World) (h : RK w o len N ra rcap k w') => back_int h hOk.out hkl hk3
            rw [hk3] at e0 S2a
            rw [hk3] at hwzH
            have S2 : Below w.heap.size w wz ∧ z < wz.heap.size ∧ wz.cell? ⟨z, 0, none⟩ = some (.int .i64 (3)) ∧ wz.cell? ⟨z, 1, none⟩ = some (.int .u64 (o.X k : Int)) ∧ wz.cell? ⟨z, 2, none⟩ = some (.int .i64 (o.B k)) ∧ wz.cell? ⟨z, 3, none⟩ = some (.slice (o.A k) (o.M k) (o.C k)) := S2a
            have S2d : Below w.heap.size w wz.drew ∧ z < wz.drew.heap.size ∧ wz.drew.cell? ⟨z, 0, none⟩ = some (.int .i64 (3)) ∧ wz.drew.cell? ⟨z, 1, none⟩ = some (.int .u64 (o.X k : Int)) ∧ wz.drew.cell? ⟨z, 2, none⟩ = some (.int .i64 (o.B k)) ∧ wz.drew.cell? ⟨z, 3, none⟩ = some (.slice (o.A k) (o.M k) (o.C k)) := ⟨S2.1.drew, S2.2⟩
            have hRKd' := hRKd
            clear S2a hk3 hx
            go_wp2_with fail
            rw [← hwzH.out, ← hzH.out]
            go_region_held3 (fun w' => Below w.heap.size w w' ∧ z < w'.heap.size ∧ w'.cell? ⟨z, 0, none⟩ = some (.int .i64 (3)) ∧ w'.cell? ⟨z, 1, none⟩ = some (.int .u64 (o.X k : Int)) ∧ w'.cell? ⟨z, 2, none⟩ = some (.int .i64 (o.B k)) ∧ w'.cell? ⟨z, 3, none⟩ = some (.slice (o.A k) (o.M k) (o.C k))) (first | assumption)
              (first | (go_at_call 30; (with_reducible refine Calls.mono (hR.out _ (by assumption)) ?_); rintro e w' ⟨rfl, hRn, hFn⟩; have SS := keepZ hFn hzN hRn.2.1 (by assumption)))
            all_goals
              go_wp2_with fail
              all_goals first
                | (rename_i hbad; simp at hbad; done)
                | (go_roundw; exact ⟨k + 1, by omega, by go_num, (by assumption : RK w o len N ra rcap (k + 1) _)⟩; (simp [intOf]; omega))
          by_cases hk4 : o.K k = 4
          · obtain ⟨s, hs1, hs2, hconv⟩ := to_text2 (c := o.C k) hBH.out
            have hconvH : Hid (∀ w', Below w.heap.size w w' → (convert 24 9 (.slice (o.A k) (o.M k) (o.C k))).run Tryd.prog w' = .ok (.string s) w') := hconv
            have hR : Hid _ := fun (w' : World) (h : RK w o len N ra rcap k w') => back_text h hOk.out hkl hk4 s hs1 hs2
            rw [hk4] at e0 S2a
            rw [hk4] at hwzH
            have S2 : Below w.heap.size w wz ∧ z < wz.heap.size ∧ wz.cell? ⟨z, 0, none⟩ = some (.int .i64 (4)) ∧ wz.cell? ⟨z, 1, none⟩ = some (.int .u64 (o.X k : Int)) ∧ wz.cell? ⟨z, 2, none⟩ = some (.int .i64 (o.B k)) ∧ wz.cell? ⟨z, 3, none⟩ = some (.slice (o.A k) (o.M k) (o.C k)) ∧ (convert 24 9 (.slice (o.A k) (o.M k) (o.C k))).run Tryd.prog wz = .ok (.string s) wz := ⟨S2a.1, S2a.2.1, S2a.2.2.1, S2a.2.2.2.1, S2a.2.2.2.2.1, S2a.2.2.2.2.2, hconvH.out _ S2a.1⟩
            have S2d : Below w.heap.size w wz.drew ∧ z < wz.drew.heap.size ∧ wz.drew.cell? ⟨z, 0, none⟩ = some (.int .i64 (4)) ∧ wz.drew.cell? ⟨z, 1, none⟩ = some (.int .u64 (o.X k : Int)) ∧ wz.drew.cell? ⟨z, 2, none⟩ = some (.int .i64 (o.B k)) ∧ wz.drew.cell? ⟨z, 3, none⟩ = some (.slice (o.A k) (o.M k) (o.C k)) ∧ (convert 24 9 (.slice (o.A k) (o.M k) (o.C k))).run Tryd.prog wz.drew = .ok (.string s) wz.drew := ⟨S2.1.drew, S2.2.1, S2.2.2.1, S2.2.2.2.1, S2.2.2.2.2.1, S2.2.2.2.2.2.1, hconvH.out _ S2.1.drew⟩
            have hRKd' := hRKd
            clear hs1 hs2 hconv
            clear S2a hk4 hx
            go_wp2_with fail
            rw [← hwzH.out, ← hzH.out]
            go_region_held3 (fun w' => Below w.heap.size w w' ∧ z < w'.heap.size ∧ w'.cell? ⟨z, 0, none⟩ = some (.int .i64 (4)) ∧ w'.cell? ⟨z, 1, none⟩ = some (.int .u64 (o.X k : Int)) ∧ w'.cell? ⟨z, 2, none⟩ = some (.int .i64 (o.B k)) ∧ w'.cell? ⟨z, 3, none⟩ = some (.slice (o.A k) (o.M k) (o.C k)) ∧ (convert 24 9 (.slice (o.A k) (o.M k) (o.C k))).run Tryd.prog w' = .ok (.string s) w') (first | assumption)
              (first | (go_at_call 31; (with_reducible refine Calls.mono (hR.out _ (by assumption)) ?_); rintro e w' ⟨rfl, hRn, hFn⟩; have SS := keepZ4 hconvH hFn hzN hRn.2.1 (by assumption)))
            all_goals
              go_wp2_with fail
              all_goals first
                | (rename_i hbad; simp at hbad; done)
                | (go_roundw; exact ⟨k + 1, by omega, by go_num, (by assumption : RK w o len N ra rcap (k + 1) _)⟩; (simp [intOf]; omega))
          by_cases hk5 : o.K k = 5
          · have hR : Hid _ := fun (w' : World) (h : RK w o len N ra rcap k w') => back_raw h hOk.out hkl hk5
            have hSa : Hid (∀ w' ga gc, BytesIn w' ga (o.M k) (o.S k) → Below w.heap.size w w' → Calls Tryd.prog 10 #[.slice ga (o.M k) gc, .slice (o.A k) (o.M k) (o.C k)] w' fun e w'' => e = .returned (.bool true) ∧ Below w'.heap.size w' w'') := fun w' ga gc h1 h2 => same_in _ _ _ _ _ (o.S k) _ h1 (hBH.out.below h2)
            rw [hk5] at e0 S2a
            rw [hk5] at hwzH
            have S2 : Below w.heap.size w wz ∧ z < wz.heap.size ∧ wz.cell? ⟨z, 0, none⟩ = some (.int .i64 (5)) ∧ wz.cell? ⟨z, 1, none⟩ = some (.int .u64 (o.X k : Int)) ∧ wz.cell? ⟨z, 2, none⟩ = some (.int .i64 (o.B k)) ∧ wz.cell? ⟨z, 3, none⟩ = some (.slice (o.A k) (o.M k) (o.C k)) := S2a
            have S2d : Below w.heap.size w wz.drew ∧ z < wz.drew.heap.size ∧ wz.drew.cell? ⟨z, 0, none⟩ = some (.int .i64 (5)) ∧ wz.drew.cell? ⟨z, 1, none⟩ = some (.int .u64 (o.X k : Int)) ∧ wz.drew.cell? ⟨z, 2, none⟩ = some (.int .i64 (o.B k)) ∧ wz.drew.cell? ⟨z, 3, none⟩ = some (.slice (o.A k) (o.M k) (o.C k)) := ⟨S2.1.drew, S2.2⟩
            have hRKd' := hRKd
            clear S2a hk5 hx
            go_wp2_with fail
            rw [← hwzH.out, ← hzH.out]
            go_region_held3 (fun w' => Below w.heap.size w w' ∧ z < w'.heap.size ∧ w'.cell? ⟨z, 0, none⟩ = some (.int .i64 (5)) ∧ w'.cell? ⟨z, 1, none⟩ = some (.int .u64 (o.X k : Int)) ∧ w'.cell? ⟨z, 2, none⟩ = some (.int .i64 (o.B k)) ∧ w'.cell? ⟨z, 3, none⟩ = some (.slice (o.A k) (o.M k) (o.C k))) (first | assumption)
              (first | (go_at_call 32; (with_reducible refine Calls.mono (hR.out _ (by assumption)) ?_); rintro e w' ⟨⟨ga, gc, rfl, hgb⟩, hRn, hFn⟩; have SS := keepZ hFn hzN hRn.2.1 (by assumption)) | (go_at_call 10; (with_reducible refine Calls.mono (hSa.out _ _ _ (by assumption) (by assumption : Below w.heap.size w _ ∧ _).1) ?_); rintro e w' ⟨rfl, BB⟩; have hRn2 := RK.below (k := k + 1) (by assumption) BB; have SS := keepZ (RF.below BB) hzN hRn2.2.1 (by assumption)))
            all_goals
              go_wp2_with fail
              all_goals first
                | (rename_i hbad; simp at hbad; done)
                | (go_roundw; exact ⟨k + 1, by omega, by go_num, (by assumption : RK w o len N ra rcap (k + 1) _)⟩; (simp [intOf]; omega))
          by_cases hk6 : o.K k = 6
          · have hR : Hid _ := fun (w' : World) (h : RK w o len N ra rcap k w') => back_bits h hOk.out hkl hk6
            have hLo : Hid (∀ w', Calls Tryd.prog 34 #[.int .u64 (o.X k : Int), .int .i64 (o.B k)] w' fun e w'' => e = .returned (.int .u64 ((o.X k % 2 ^ broughtN (o.B k) : Nat) : Int)) ∧ w'' = w') := fun w' => low_any _ hx _ _
            rw [hk6] at e0 S2a
            rw [hk6] at hwzH
            have S2 : Below w.heap.size w wz ∧ z < wz.heap.size ∧ wz.cell? ⟨z, 0, none⟩ = some (.int .i64 (6)) ∧ wz.cell? ⟨z, 1, none⟩ = some (.int .u64 (o.X k : Int)) ∧ wz.cell? ⟨z, 2, none⟩ = some (.int .i64 (o.B k)) ∧ wz.cell? ⟨z, 3, none⟩ = some (.slice (o.A k) (o.M k) (o.C k)) := S2a
            have S2d : Below w.heap.size w wz.drew ∧ z < wz.drew.heap.size ∧ wz.drew.cell? ⟨z, 0, none⟩ = some (.int .i64 (6)) ∧ wz.drew.cell? ⟨z, 1, none⟩ = some (.int .u64 (o.X k : Int)) ∧ wz.drew.cell? ⟨z, 2, none⟩ = some (.int .i64 (o.B k)) ∧ wz.drew.cell? ⟨z, 3, none⟩ = some (.slice (o.A k) (o.M k) (o.C k)) := ⟨S2.1.drew, S2.2⟩
            have hRKd' := hRKd
            clear S2a hk6 hx
            go_wp2_with fail
            rw [← hwzH.out, ← hzH.out]
            go_region_held3 (fun w' => Below w.heap.size w w' ∧ z < w'.heap.size ∧ w'.cell? ⟨z, 0, none⟩ = some (.int .i64 (6)) ∧ w'.cell? ⟨z, 1, none⟩ = some (.int .u64 (o.X k : Int)) ∧ w'.cell? ⟨z, 2, none⟩ = some (.int .i64 (o.B k)) ∧ w'.cell? ⟨z, 3, none⟩ = some (.slice (o.A k) (o.M k) (o.C k))) (first | assumption)
              (first | (go_at_call 33; (with_reducible refine Calls.mono (hR.out _ (by assumption)) ?_); rintro e w' ⟨rfl, hRn, hFn⟩; have SS := keepZ hFn hzN hRn.2.1 (by assumption)) | (go_at_call 34; (with_reducible refine Calls.mono (hLo.out _) ?_); rintro e w' ⟨rfl, rfl⟩))
            all_goals
              go_wp2_with fail
              all_goals first
                | (rename_i hbad; simp at hbad; done)
                | (go_roundw; exact ⟨k + 1, by omega, by go_num, (by assumption : RK w o len N ra rcap (k + 1) _)⟩; (simp [intOf]; omega))
          have hE : wrAll o (k + 1) = wrAll o k := by simp [wrAll, opOn, hk0, hk1, hk2, hk3, hk4, hk5, hk6]
          have hRKn : RK w o len N ra rcap (k + 1) wz := by
            obtain ⟨h1, h2, p, r, h3, h4, h5⟩ := hRKz
            exact ⟨h1, h2, p, r, h3, h4, by rw [hE]; exact h5⟩
          have hRKnH : Hid (RK w o len N ra rcap (k + 1) wz) := hRKn
          clear hRKn hE hRKz hRKd
          go_wp2_with fail
          rw [← hwzH.out]
          go_roundw
          case rel => exact ⟨k + 1, by omega, by go_num, hRKnH.out⟩
          case measure => simp [intOf]; omega
        · obtain rfl : len = k := by omega
          have hRKd : RK w o len N ra rcap len wr.drew := hRK.below (Below.refl _ _).drew
          have hLi : Hid (∀ w', RK w o len N ra rcap len w' → Calls Tryd.prog 12 #[] w' fun e w'' => e = .returned (.bool true) ∧ Below w'.heap.size w' w'') := fun w' h => live_wire w' (ST_below hsH.out h.2.1)
          have hDo : Hid (∀ w', RK w o len N ra rcap len w' → Calls Tryd.prog 24 #[.pointer (some ⟨N, 0, none⟩)] w' fun e w'' => e = .returned .nilIface ∧ RK w o len N ra rcap len w'') := fun w' h => back_done h hOk.out
          clear hkl hk hOH
          go_wp2_with fail
          refine Calls.mono (hLi.out _ hRK) ?_
          rintro e w4 ⟨rfl, BB⟩
          have hRn : RK w o len N ra rcap len w4 := hRK.below BB
          have hDoH : Hid _ := hDo.out _ hRn
          clear hRn hRK hRKd
          go_wp2_with fail
          refine Calls.mono hDoH.out ?_
          rintro e w5 ⟨rfl, hRn5⟩
          have hB5 := hRn5.2.1
          clear hRn5
          go_wp2_with fail
          go_ret
          exact ⟨rfl, hB5⟩
end Go.Proofs.YtlcpkbllpkgihaaDoor

namespace Go.Proofs.YtlcpkbllpkgihaaDoor
open Go.ChangeShapes Go.WideShapes Go.ChangeAt Go.RowKit
set_option linter.unusedVariables false
set_option linter.unusedSimpArgs false
theorem clone_noneA (ad : Addr) (c : Nat) (w : World) : Calls Tryd.prog 53 #[.slice (some ad) 0 c] w fun e w' => (∃ g c', e = .returned (.slice (some ⟨g, 0, none⟩) 0 c') ∧ w.heap.size ≤ g ∧ g < w'.heap.size) ∧ Below w.heap.size w w' := by
  have hnil : ∀ w0 : World, (binOp .eql 24 (.slice (some ad) 0 c) (.slice none 0 0)).run Tryd.prog w0 = .ok (.bool false) w0 := fun w0 => Go.Lib.run_eql_slice_nil w0 24 5 (some ad) 0 c 0 0 Tryd.underlying24
  have hown : (w.alloc (.cells #[] 5)).ownsRow w.heap.size 5 1 (.slice (some ⟨w.heap.size, 0, none⟩) 0 0) 0 (enc []) := World.ownsRow_lit w #[] 0 (Nat.le_refl _) (by omega) (by simp)
  obtain ⟨g', c', w', hr, ho, hgrow, _⟩ := app_any2 w.heap.size w.heap.size 0 0 0 [] [] _ (some ad) c hown rfl (Or.inl rfl) (by omega) (by simp)
  have hB := below_grown (below_new (Below.refl _ w) (.cells #[] 5)) hgrow (fun k e => by injection e with e; omega)
  have hrH : Hid _ := hr
  have hgl := ho.lt g' rfl
  clear hr ho hgrow hown
  go_enter Tryd.func53, Tryd.ntmps53
  go_wp2_with (at_builtin; refine wpList_append_run2 (by rfl) _ _ _ _ (by rfl) _ _ _ _ (by rfl) (by rfl) hrH.out ?_)
  go_wp2_with fail
  go_ret
  exact ⟨⟨_, _, rfl, hgl.1, hgl.2⟩, hB⟩
theorem new_none (ad : Addr) (c : Nat) (bs : Nat → Nat) (w : World) : Calls Tryd.prog 14 #[.slice (some ad) 0 c] w fun e w' => ∃ N a cap, e = .returned (.pointer (some ⟨N, 0, none⟩)) ∧ w.heap.size ≤ N ∧ RR N w' a 0 cap bs 0 0 none w' ∧ Below w.heap.size w w' := by
  have hC : Hid (∀ w', Below w.heap.size w w' → _) := fun w' hb => clone_noneA ad c w'
  go_enter Tryd.func14, Tryd.ntmps14
  go_wp2_with fail
  refine Calls.mono (hC.out _ (Below.refl _ _)) ?_
  rintro e w2 ⟨⟨g, c', rfl, hg1, hg2⟩, hBe⟩
  have hRR : RR w2.heap.size (w2.alloc (.cells #[.slice (some ⟨g, 0, none⟩) 0 c', .int .i64 0, .int .i64 0, .nilIface] 109)) (some ⟨g, 0, none⟩) 0 c' bs 0 0 none (w2.alloc (.cells #[.slice (some ⟨g, 0, none⟩) 0 c', .int .i64 0, .int .i64 0, .nilIface] 109)) := by
    refine ⟨by simp [go_sem], by simp [go_sem], by simp [go_sem], by simp [go_sem, fvV], by simp [go_sem], by simp [go_sem], by simp [go_sem], Or.inl rfl, by omega, by omega, by omega, by omega, fun h => absurd rfl h, Below.refl _ _, by simp⟩
  have hRRH : Hid _ := hRR
  have hBe2 := hBe.size
  clear hRR
  go_wp2_with fail
  go_ret
  exact ⟨w2.heap.size, _, c', rfl, hBe2, hRRH.out, below_new hBe _⟩

theorem newR_in (ba : Option Addr) (bc : Nat) (L : List Nat) (w : World) (h : BytesIn w ba L.length (natsOf L)) (hc : ba = none → bc = 0) :
    Calls Tryd.prog 14 #[.slice ba L.length bc] w fun e w' => ∃ N a cap, e = .returned (.pointer (some ⟨N, 0, none⟩)) ∧ w.heap.size ≤ N ∧ RR N w' a L.length cap (natsOf L) 0 0 none w' ∧ Below w.heap.size w w' := by
  cases ba with
  | none =>
    have h0 : L.length = 0 := by
      rcases h.2 with h0 | ⟨_, _, e, _⟩
      · exact h0
      · cases e
    rw [hc rfl, h0]
    exact new_nil _ w
  | some ad =>
    rcases h.2 with h0 | ⟨b, off, e, hb, hB⟩
    · rw [h0]; exact new_none ad bc _ w
    · rw [e] at h ⊢
      exact new_ok b off _ bc _ w h
theorem bytes_bulk2 {H : Type} {enc : TypeId × Value → H} {t e : TypeId} {W : World} {v : Value} {y : DataW H × List MemPlace} {fuel : Nat}
    (ht : Tryd.prog.underlying t = some (.slice e)) (he : Tryd.prog.underlying e = some (.int .u8)) (hc : Tryd.prog.cellsOf e = 1)
    (hf : DataW.trod enc Tryd.prog W 0 (fun _ => true) true fuel t [v] = some y) (hbk : Rows.uptoBulk y.1 ≤ 1048576) :
    ∃ ba bc, ∃ L : List Nat, v = .slice ba L.length bc ∧ (ba = none → bc = 0) ∧ L.length ≤ 1048576 ∧ BytesIn W ba L.length (natsOf L) ∧ ∀ x ∈ L, x < 256 := by
  have hnone : ∀ c l, v = .slice none l c → c = 0 := by
    intro c l e
    rcases open_ints ht he hc hf with ⟨hcs, hx⟩ | ⟨a', len, cap, zs, hcs, _⟩
    · have e2 := (List.cons.inj hcs).1; exact (Value.slice.inj (e.symm.trans e2)).2.2
    · have e2 := (List.cons.inj hcs).1; cases (Value.slice.inj (e.symm.trans e2)).1
  obtain ⟨a, len, cap, bs, rfl, h1, h2⟩ := bytes_bulk ht he hc hf
  have h3 := h2 (by omega)
  have hl : (bytesL bs len).length = len := by simp [bytesL]
  refine ⟨a, cap, bytesL bs len, by rw [hl], fun e => hnone cap len (by rw [e]), by omega, ?_, ?_⟩
  · rw [hl]
    refine ⟨h3.1, ?_⟩
    rcases h3.2 with h0 | ⟨b, off, e, hb, hB⟩
    · exact Or.inl h0
    · exact Or.inr ⟨b, off, e, hb, fun i hi => by rw [nats_bytesL bs len i hi]; exact hB i hi⟩
  · rcases h3.2 with h0 | ⟨b, off, e, hb, hB⟩
    · subst h0; simp [bytesL]
    · exact bytesL_lt fun i hi => (hB i hi).2
set_option maxRecDepth 100000 in
/-- things to be written, as they are read. -/
theorem ops_read2 {H : Type} {enc : TypeId × Value → H} {W : World} {v : Value} {y : DataW H × List MemPlace} {fuel : Nat}
    (hf : DataW.trod enc Tryd.prog W 0 (fun _ => true) true fuel 22 [v] = some y) (hbk : Rows.uptoBulk y.1 ≤ 1048576) :
    ∃ a len cap o, v = .slice a len cap ∧ OpsAt W a len o ∧ len ≤ 9223372036854775807 ∧ mAll o len ≤ 67108864 ∧ len ≤ 1048576 ∧ ∀ i, i < len → -9223372036854775808 ≤ o.B i ∧ o.B i ≤ 9223372036854775807 := by
  rcases Go.Deep.open_slice Tryd.underlying22 hf with ⟨hcs, hx⟩ | ⟨a, len, cap, m, n, D, Pl, hcs, hb, hl, hm, hmm, hx, hall⟩
  · simp at hcs
    subst hcs
    exact ⟨none, 0, 0, ⟨fun _ => 0, fun _ => 0, fun _ => 0, fun _ => none, fun _ => 0, fun _ => 0, fun _ _ => 0⟩, rfl, Or.inl rfl, by omega, by simp [mAll], by omega, fun i hi => by omega⟩
  · simp at hcs
    subst hcs
    simp only [if_true] at hmm
    subst hmm
    have hce : Tryd.prog.cellsOf 32 = 4 := by kernel_rfl
    have hy1 : y.1 = .slice ((List.range len).map D) ((List.range (m - len)).map fun j => D (len + j)) := by rw [hx]
    have hbe : Rows.uptoBulkAll ((List.range len).map D) ≤ 1048576 := by
      rw [hy1] at hbk; simp only [Rows.uptoBulk] at hbk; omega
    have hlen0 : ∀ k, k ≤ Rows.uptoBulkAll ((List.range k).map D) := by
      intro k
      induction k with
      | zero => simp
      | succ k ih =>
        rw [List.range_succ, List.map_append, bulk_app]
        simp only [List.map_cons, List.map_nil, Rows.uptoBulkAll]
        have := bulk_pos (D k)
        omega
    have hll := hlen0 len
    have each : ∀ i, i < len → ∃ q : Int × Nat × Int × Option Addr × Nat × Nat × (Nat → Nat),
        (W.cell? (a.add (i * 4)) = some (.int .i64 q.1) ∧ W.cell? (a.add (i * 4 + 1)) = some (.int .u64 (q.2.1 : Int)) ∧ W.cell? (a.add (i * 4 + 2)) = some (.int .i64 q.2.2.1) ∧ W.cell? (a.add (i * 4 + 3)) = some (.slice q.2.2.2.1 q.2.2.2.2.1 q.2.2.2.2.2.1)) ∧ q.2.1 < 18446744073709551616 ∧ BytesIn W q.2.2.2.1 q.2.2.2.2.1 q.2.2.2.2.2.2 ∧ q.2.2.2.2.1 + 1 ≤ Rows.uptoBulk (D i) ∧ (-9223372036854775808 ≤ q.2.2.1 ∧ q.2.2.1 ≤ 9223372036854775807) := by
      intro i hi
      obtain ⟨cs', h1, h2⟩ := hall i (by omega)
      rw [hce] at h1
      obtain ⟨_, hlen, hcell⟩ := World.cells?_some h1
      obtain ⟨xs, k, hk, hxy, _, hxl, hff⟩ := DataW.trod_struct Tryd.underlying32 h2
      match xs, hxl, cs', hlen with
      | [y0, y1, y2, y3], _, [v0, v1, v2, v3], _ =>
        have ci : Tryd.prog.cellsOf 3 = 1 := by kernel_rfl
        have cu : Tryd.prog.cellsOf 30 = 1 := by kernel_rfl
        have cb : Tryd.prog.cellsOf 24 = 1 := by kernel_rfl
        have g0 : DataW.trod enc Tryd.prog W 0 (fun _ => true) true k 3 (List.take (Tryd.prog.cellsOf 3) [v0, v1, v2, v3]) = some y0 := hff 0 _ rfl
        have g1 : DataW.trod enc Tryd.prog W 0 (fun _ => true) true k 30 (List.take (Tryd.prog.cellsOf 30) [v1, v2, v3]) = some y1 := hff 1 _ rfl
        have g2 : DataW.trod enc Tryd.prog W 0 (fun _ => true) true k 3 (List.take (Tryd.prog.cellsOf 3) [v2, v3]) = some y2 := hff 2 _ rfl
        have g3 : DataW.trod enc Tryd.prog W 0 (fun _ => true) true k 24 (List.take (Tryd.prog.cellsOf 24) [v3]) = some y3 := hff 3 _ rfl
        rw [ci] at g0 g2
        rw [cu] at g1
        rw [cb] at g3
        simp only [List.take_succ_cons, List.take_zero] at g0 g1 g2 g3
        obtain ⟨k0, e0, _, _⟩ := DataW.trod_int Tryd.underlying3 g0
        obtain ⟨k1, e1, _, w1⟩ := DataW.trod_int Tryd.underlying30 g1
        obtain ⟨k2, e2, _, w2⟩ := DataW.trod_int Tryd.underlying3 g2
        obtain ⟨ba, bl, bc, bs, e3, hbb, hbin⟩ := bytes_bulk Tryd.underlying24 Tryd.underlying5 (by kernel_rfl) g3
        simp at e0 e1 e2
        subst e0 e1 e2 e3
        have r0 := hcell 0 (by omega)
        have r1 := hcell 1 (by omega)
        have r2 := hcell 2 (by omega)
        have r3 := hcell 3 (by omega)
        rw [Go.Deep.add_add] at r0 r1 r2 r3
        have hw1 := bounds_u64 w1
        have hDi : Rows.uptoBulk (D i) = Rows.uptoBulk y0.1 + (Rows.uptoBulk y1.1 + (Rows.uptoBulk y2.1 + (Rows.uptoBulk y3.1 + 0))) + 1 := by
          have : D i = .agg [y0.1, y1.1, y2.1, y3.1] := by simpa using congrArg (·.1) hxy
          rw [this]; simp [Rows.uptoBulk, Rows.uptoBulkAll]
        have hDb : Rows.uptoBulk (D i) ≤ 1048576 := by
          have hmem : ∀ (l : List (DataW H)) (d : DataW H), d ∈ l → Rows.uptoBulk d ≤ Rows.uptoBulkAll l := by
            intro l
            induction l with
            | nil => intro d hd; cases hd
            | cons z l ih => intro d hd; rcases List.mem_cons.1 hd with e | hd; subst e; simp [Rows.uptoBulkAll]; have := ih d hd; simp [Rows.uptoBulkAll]; omega
          exact Nat.le_trans (hmem _ _ (List.mem_map.2 ⟨i, List.mem_range.2 hi, rfl⟩)) hbe
        refine ⟨(k0, k1.toNat, k2, ba, bl, bc, bs), ⟨by simpa using r0, ?_, by simpa using r2, by simpa using r3⟩, show k1.toNat < _ by omega, hbin (by omega), show bl + 1 ≤ _ by omega, bounds_i64 w2⟩
        have ek : ((k1.toNat : Nat) : Int) = k1 := by omega
        simpa [ek] using r1
    obtain ⟨q, hq⟩ := choose_below each
    refine ⟨some a, len, m, ⟨fun i => (q i).1, fun i => (q i).2.1, fun i => (q i).2.2.1, fun i => (q i).2.2.2.1, fun i => (q i).2.2.2.2.1, fun i => (q i).2.2.2.2.2.1, fun i => (q i).2.2.2.2.2.2⟩, rfl, ?_, by have : maxLen = 9223372036854775807 := rfl; omega, ?_, by omega, fun i hi => (hq i hi).2.2.2.2⟩
    · rcases Nat.eq_zero_or_pos len with h0 | h0
      · exact Or.inl h0
      · right
        obtain ⟨b, off, spot⟩ := a
        have hspot : spot = none := by simpa [Addr.add] using World.cell?_spot (hq 0 h0).1.1
        subst hspot
        refine ⟨b, off, rfl, ?_, fun i hi => ?_⟩
        · have h' := (hq 0 h0).1.1
          rw [Go.WideShapes.add_plain] at h'
          rcases Nat.lt_or_ge b W.heap.size with h2 | h2
          · exact h2
          · simp [World.cell?, Array.getElem?_eq_none h2] at h'
        · obtain ⟨⟨c0, c1, c2, c3⟩, hx1, hB, _⟩ := hq i hi
          rw [Go.WideShapes.add_plain] at c0 c1 c2 c3
          rw [← Nat.add_assoc] at c1 c2 c3
          exact ⟨⟨c0, c1, c2, c3⟩, hx1, hB⟩
    · have := mAll_bulk ⟨fun i => (q i).1, fun i => (q i).2.1, fun i => (q i).2.2.1, fun i => (q i).2.2.2.1, fun i => (q i).2.2.2.2.1, fun i => (q i).2.2.2.2.2.1, fun i => (q i).2.2.2.2.2.2⟩ D len (fun i hi => (hq i hi).2.2.2.1)
      omega
end Go.Proofs.YtlcpkbllpkgihaaDoor
