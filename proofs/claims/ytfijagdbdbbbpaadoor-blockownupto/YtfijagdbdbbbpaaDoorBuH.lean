
import Derived.Test.YtfijagdbdbbbpaaDoorBuE
import Derived.Deep.Cut
import Derived.Deep.RegionHeld3
import Derived.BigQuiet
import Derived.WalkSmall
import Derived.Deep.QuietTactic
import Derived.Test.YtfijagdbdbbbpaaDoorRows
import Derived.ProofKit
import Derived.OpenShut
import Derived.Deep.SlicePairs
import Derived.Lib.SmallJoins
import Derived.Test.YtfijagdbdbbbpaaDoorBuF
import Derived.Test.YtfijagdbdbbbpaaDoorRwEq
import Derived.Test.YtfijagdbdbbbpaaDoorBuG
namespace Go.Proofs.YtfijagdbdbbbpaaDoor
open Go.RowKit
set_option linter.unusedVariables false
set_option linter.unusedSimpArgs false
/-- things to be written, as they lie. -/
structure Ops where
  K : Nat → Int
  X : Nat → Nat
  B : Nat → Int
  A : Nat → Option Addr
  M : Nat → Nat
  C : Nat → Nat
  S : Nat → Nat → Nat
def OpsAt (w : World) (a : Option Addr) (len : Nat) (o : Ops) : Prop :=
  len = 0 ∨ ∃ b off, a = some ⟨b, off, none⟩ ∧ b < w.heap.size ∧ ∀ i, i < len →
    (w.cell? ⟨b, off + i * 4, none⟩ = some (.int .i64 (o.K i)) ∧ w.cell? ⟨b, off + i * 4 + 1, none⟩ = some (.int .u64 (o.X i : Int)) ∧ w.cell? ⟨b, off + i * 4 + 2, none⟩ = some (.int .i64 (o.B i)) ∧ w.cell? ⟨b, off + i * 4 + 3, none⟩ = some (.slice (o.A i) (o.M i) (o.C i))) ∧ o.X i < 18446744073709551616 ∧ BytesIn w (o.A i) (o.M i) (o.S i)
/-- what the first k of them write. -/
def wrAll (o : Ops) : Nat → List Nat × Nat
  | 0 => ([], 0)
  | k + 1 => opOn (o.K k) (o.X k) (o.B k) (o.M k) (o.S k) (wrAll o k)
def mAll (o : Ops) : Nat → Nat
  | 0 => 0
  | k + 1 => mAll o k + o.M k + 64
theorem mAll_mono (o : Ops) {i j : Nat} (h : i ≤ j) : mAll o i ≤ mAll o j := by
  induction j with
  | zero => have : i = 0 := by omega
            subst this; exact Nat.le_refl _
  | succ j ih =>
    rcases Nat.lt_or_ge i (j + 1) with h1 | h1
    · have := ih (by omega); simp only [mAll]; omega
    · have : i = j + 1 := by omega
      subst this; exact Nat.le_refl _
/-- the two Writers behind the first k. -/
def TK (w : World) (o : Ops) (k : Nat) (wr : World) : Prop :=
  ∃ v u, TW w w.heap.size (w.heap.size + 1) (((8 - (wrAll o k).2) % 8 : Nat) : Int) (wrAll o k).1 v (((wrAll o k).2 : Nat) : Int) (wrAll o k).1 u wr ∧ CL (wrAll o k).1 (wrAll o k).2 ∧ (wrAll o k).1.length ≤ mAll o k
theorem TK.below {w : World} {o : Ops} {k : Nat} {wr w' : World} (h : TK w o k wr) (hb : Below wr.heap.size wr w') : TK w o k w' := by
  obtain ⟨v, u, hT, hC, hl⟩ := h
  exact ⟨v, u, hT.below hb, hC, hl⟩
theorem TK.bb {w : World} {o : Ops} {k : Nat} {wr : World} (h : TK w o k wr) : Below w.heap.size w wr := by
  obtain ⟨v, u, hT, hC, hl⟩ := h
  exact hT.bb
theorem TK.sz {w : World} {o : Ops} {k : Nat} {wr : World} (h : TK w o k wr) : w.heap.size + 1 < wr.heap.size := by
  obtain ⟨v, u, hT, hC, hl⟩ := h
  exact hT.d.sz
/-- what is asked of both at the end of a round. -/
theorem TK.sides {w : World} {o : Ops} {k : Nat} {wr : World} (h : TK w o k wr) (hb : mAll o k ≤ 140737488355327) : ∃ v a c, WS w.heap.size wr (((8 - (wrAll o k).2) % 8 : Nat) : Int) v (wrAll o k).1.length (enc (wrAll o k).1) wr ∧ (∀ y ∈ (wrAll o k).1, y < 256) ∧ (wrAll o k).1.length ≤ 140737488355327 ∧ wr.cell? ⟨w.heap.size + 1, 0, none⟩ = some (.slice a (wrAll o k).1.length c) ∧ BytesIn wr a (wrAll o k).1.length (natsOf (wrAll o k).1) := by
  obtain ⟨v, u, hT, hC, hl⟩ := h
  obtain ⟨a, c, rfl, hB⟩ := hT.d.bytes hC.2.1 (by omega)
  exact ⟨v, a, c, hT.r, hC.2.1, by omega, hT.d.c0, hB⟩
theorem keepW {w : World} {o : Ops} {k : Nat} {a2 : Option Addr} {L z : Nat} {ns : Nat → Nat} {x0 x1 x2 : Value} {wx wy : World} (B : Below wx.heap.size wx wy) (S : TK w o k wx ∧ BytesIn wx a2 L ns ∧ w.heap.size + 1 < wx.heap.size ∧ z < wx.heap.size ∧ wx.cell? ⟨w.heap.size, 0, none⟩ = some x0 ∧ wx.cell? ⟨w.heap.size + 1, 0, none⟩ = some x1 ∧ wx.cell? ⟨z, 0, none⟩ = some x2) :
    TK w o k wy ∧ BytesIn wy a2 L ns ∧ w.heap.size + 1 < wy.heap.size ∧ z < wy.heap.size ∧ wy.cell? ⟨w.heap.size, 0, none⟩ = some x0 ∧ wy.cell? ⟨w.heap.size + 1, 0, none⟩ = some x1 ∧ wy.cell? ⟨z, 0, none⟩ = some x2 := by
  obtain ⟨t, b, h1, h2, c0, c1, c2⟩ := S
  have hs := B.size
  refine ⟨t.below B, b.below B, by omega, by omega, ?_, ?_, ?_⟩
  · rw [B.cell (p := ⟨w.heap.size, 0, none⟩) (show w.heap.size < wx.heap.size by omega)]; exact c0
  · rw [B.cell (p := ⟨w.heap.size + 1, 0, none⟩) h1]; exact c1
  · rw [B.cell (p := ⟨z, 0, none⟩) h2]; exact c2
end Go.Proofs.YtfijagdbdbbbpaaDoor

namespace Go.Proofs.YtfijagdbdbbbpaaDoor
open Go.ChangeShapes Go.WideShapes Go.ChangeAt Go.RowKit
set_option linter.unusedVariables false
set_option linter.unusedSimpArgs false
theorem bulk_app {H : Type} (a b : List (DataW H)) : Rows.uptoBulkAll (a ++ b) = Rows.uptoBulkAll a + Rows.uptoBulkAll b := by
  induction a with
  | nil => simp [Rows.uptoBulkAll]
  | cons x a ih => simp [Rows.uptoBulkAll, ih]; omega
theorem bulk_litsW {H : Type} (k : IntKind) (l : List Int) : Rows.uptoBulkAll (lits (H := H) k l) = l.length := by
  unfold lits
  induction l with
  | nil => simp [Rows.uptoBulkAll]
  | cons x a ih => simp [Rows.uptoBulkAll, Rows.uptoBulk, ih]; omega
theorem bulk_pos {H : Type} (d : DataW H) : 1 ≤ Rows.uptoBulk d := by
  cases d <;> first | (simp [Rows.uptoBulk]; done) | (rename_i q; cases q <;> simp [Rows.uptoBulk])
set_option maxRecDepth 100000 in
/-- a slice of bytes that lies in a struct, by its bulk. -/
theorem bytes_bulk {H : Type} {enc : TypeId × Value → H} {t e : TypeId} {W : World} {v : Value} {y : DataW H × List MemPlace} {fuel : Nat}
    (ht : Tryd.prog.underlying t = some (.slice e)) (he : Tryd.prog.underlying e = some (.int .u8)) (hc : Tryd.prog.cellsOf e = 1)
    (hf : DataW.trod enc Tryd.prog W 0 (fun _ => true) true fuel t [v] = some y) :
    ∃ a len cap bs, v = .slice a len cap ∧ len + 1 ≤ Rows.uptoBulk y.1 ∧ (len ≤ 140737488355327 → BytesIn W a len bs) := by
  rcases open_ints ht he hc hf with ⟨hcs, hx⟩ | ⟨a', len, cap, zs, hcs, _, hl, hm, hzl, hx, hcell, hwz⟩
  · simp at hcs
    subst hcs
    exact ⟨none, 0, 0, fun _ => 0, rfl, by rw [hx]; simp [Rows.uptoBulk], fun _ => ⟨by omega, Or.inl rfl⟩⟩
  · simp at hcs
    subst hcs
    simp at hzl
    refine ⟨some a', len, cap, fun i => (zs.getD i 0).toNat, rfl, ?_, fun hsm => ⟨hsm, ?_⟩⟩
    · rw [hx]
      simp only [Rows.uptoBulk, bulk_litsW, List.length_take, List.length_drop]
      omega
    rcases Nat.eq_zero_or_pos len with h0 | h0
    · exact Or.inl h0
    · right
      obtain ⟨b, off, rfl, hc'⟩ := ints_at hcell (by omega)
      refine ⟨b, off, rfl, ?_, fun i hi => ?_⟩
      · have := hc' 0 (by omega)
        rcases Nat.lt_or_ge b W.heap.size with h' | h'
        · exact h'
        · simp [World.cell?, Array.getElem?_eq_none h'] at this
      · have hi' : i < zs.length := by omega
        have hm2 : zs.getD i 0 ∈ zs := by rw [List.getD_eq_getElem?_getD, List.getElem?_eq_getElem hi']; exact List.getElem_mem hi'
        have hb8 := bounds_u8 (hwz (zs.getD i 0) hm2)
        have h0 := hc' i hi'
        have e0 : (((zs.getD i 0).toNat : Nat) : Int) = zs.getD i 0 := by omega
        exact ⟨by rw [e0]; exact h0, show (zs.getD i 0).toNat < 256 by omega⟩
theorem choose_below {α : Type} [Inhabited α] {p : Nat → α → Prop} {m : Nat} (h : ∀ i, i < m → ∃ x, p i x) : ∃ f : Nat → α, ∀ i, i < m → p i (f i) :=
  ⟨fun i => if hi : i < m then Classical.choose (h i hi) else default, fun i hi => by simp only [hi, dif_pos]; exact Classical.choose_spec (h i hi)⟩
theorem mAll_bulk {H : Type} (o : Ops) (D : Nat → DataW H) : ∀ (len : Nat), (∀ i, i < len → o.M i + 1 ≤ Rows.uptoBulk (D i)) → mAll o len ≤ 64 * Rows.uptoBulkAll ((List.range len).map D) := by
  intro len
  induction len with
  | zero => intro _; simp [mAll]
  | succ k ih =>
    intro h
    have h1 := ih (fun i hi => h i (by omega))
    have h2 := h k (by omega)
    rw [List.range_succ, List.map_append, bulk_app]
    simp only [mAll, List.map_cons, List.map_nil, Rows.uptoBulkAll]
    omega
end Go.Proofs.YtfijagdbdbbbpaaDoor

namespace Go.Proofs.YtfijagdbdbbbpaaDoor
open Go.RowKit
set_option linter.unusedVariables false
set_option linter.unusedSimpArgs false
/-- things that can be written. -/
def OpsOk (o : Ops) (len : Nat) : Prop := ∀ i, i < len → o.X i < 18446744073709551616 ∧ o.M i < 9223372036854775808 ∧ ∀ j, j < o.M i → o.S i j < 256
theorem OpsAt.ok {w : World} {a : Option Addr} {len : Nat} {o : Ops} (h : OpsAt w a len o) : OpsOk o len := by
  intro i hi
  rcases h with h0 | ⟨b, off, _, _, hc⟩
  · omega
  · obtain ⟨_, hx, hB⟩ := hc i hi
    refine ⟨hx, by have := hB.1; omega, fun j hj => ?_⟩
    rcases hB.2 with h0 | ⟨_, _, _, _, hb⟩
    · omega
    · exact (hb j hj).2
theorem wrap64_rg (n : Int) : -9223372036854775808 ≤ wrap64 n ∧ wrap64 n ≤ 9223372036854775807 := by unfold wrap64; omega
theorem opOn_CL (k : Int) (x : Nat) (hx : x < 18446744073709551616) (bits : Int) (m : Nat) (hm : m < 9223372036854775808) (bs : Nat → Nat) (hb : ∀ j, j < m → bs j < 256) (l : List Nat) (b : Nat) (h : CL l b) : CL (opOn k x bits m bs (l, b)).1 (opOn k x bits m bs (l, b)).2 := by
  unfold opOn
  split
  · exact h.app (by intro y hy; simp at hy; omega)
  split
  · exact h.app (be4_lt _)
  split
  · exact h.app (uB_lt x hx)
  split
  · exact h.app (uB_lt _ (foldZ_lt _ (wrap64_rg _)))
  split
  · exact h.app (fun y hy => by rcases List.mem_append.1 hy with e | e; exact uB_lt m (by omega) y e; exact bytesL_lt hb y e)
  split
  · exact (bitsOn_bt x (broughtN bits) l b h).1
  · exact h
theorem wrAll_CL (o : Ops) (len : Nat) (h : OpsOk o len) : ∀ k, k ≤ len → CL (wrAll o k).1 (wrAll o k).2 := by
  intro k
  induction k with
  | zero => intro _; exact ⟨by simp [wrAll], by simp [wrAll], by simp [wrAll]⟩
  | succ k ih =>
    intro hk
    obtain ⟨h1, h2, h3⟩ := h k (by omega)
    exact opOn_CL _ _ h1 _ _ h2 _ h3 _ _ (ih (by omega))
theorem wrAll_pre (o : Ops) (len : Nat) (h : OpsOk o len) : ∀ d k, k + d = len → PRE (wrAll o k) (wrAll o len).1 := by
  intro d
  induction d with
  | zero => intro k hk; obtain rfl : k = len := by omega
            exact ⟨Nat.le_refl _, fun q _ => rfl⟩
  | succ d ih =>
    intro k hk
    have hC := wrAll_CL o len h k (by omega)
    obtain ⟨h1, h2⟩ := opOn_pre (o.K k) (o.X k) (o.B k) (o.M k) (o.S k) _ _ hC
    exact PRE.trans (t := wrAll o (k + 1)) h1 h2 (ih (k + 1) (by omega))
/-- where the Reader stands, when the first k were read. -/
theorem place {l : List Nat} {b p r : Nat} (h : CL l b) (hr : r < 8) (hn : nbits (l, b) + r = 8 * p) : p = l.length ∧ r = (8 - b) % 8 := by
  have := h.1
  by_cases hb : b = 0
  · subst hb; simp [nbits] at hn; omega
  · have := h.pos hb
    simp only [nbits] at hn
    omega
/-- whole bytes come back. -/
theorem whole_back {l E L : List Nat} {b p r : Nat} (hC : CL l b) (hE : ∀ y ∈ E, y < 256) (hL : ∀ y ∈ L, y < 256) (hP : PRE (l ++ E, 0) L) (hr : r < 8) (hn : nbits (l, b) + r = 8 * p) :
    p + E.length ≤ L.length ∧ ¬ (r ≠ 0 ∧ natsOf L (p - 1) % 2 ^ r ≠ 0) ∧ (∀ i, i < E.length → natsOf L (p + i) = E.getD i 0) ∧ nbits (l ++ E, 0) + 0 = 8 * (p + E.length) := by
  obtain ⟨hp, hr2⟩ := place hC hr hn
  have hlen := hP.1
  have hby : ∀ i, i < (l ++ E).length → L.getD i 0 = (l ++ E).getD i 0 := hP.byte (fun y hy => by rcases List.mem_append.1 hy with e | e; exact hC.2.1 y e; exact hE y e) hL
  simp only [List.length_append] at hlen hby
  refine ⟨by omega, ?_, fun i hi => ?_, by simp [nbits]; omega⟩
  · rintro ⟨h0, h1⟩
    have hb0 : b ≠ 0 := fun e => by rw [e] at hr2; omega
    obtain ⟨l0, a, rfl, hz⟩ := hC.2.2 hb0
    have hl0 : (l0 ++ [a]).length = l0.length + 1 := by simp
    have e1 := hby l0.length (by omega)
    rw [List.append_assoc] at e1
    have e2 : (l0 ++ ([a] ++ E)).getD l0.length 0 = a := by simp [List.getD_eq_getElem?_getD]
    rw [e2] at e1
    apply h1
    have hc := hC.1
    rw [show p - 1 = l0.length by omega, show r = 8 - b by omega]
    show L.getD l0.length 0 % _ = 0
    rw [e1]; exact hz
  · have := hby (p + i) (by omega)
    show L.getD (p + i) 0 = _
    rw [this, hp, getD_right]
theorem PRE.bits {l L : List Nat} {b x c p r : Nat} (hC : CL l b) (hP : PRE (bitsOn x c (l, b)) L) (hL : ∀ y ∈ L, y < 256) (hr : r < 8) (hn : nbits (l, b) + r = 8 * p) :
    rdB (natsOf L) (nbits (l, b)) c = x % 2 ^ c ∧ nbits (l, b) + c ≤ 8 * L.length ∧ nbits (bitsOn x c (l, b)) = nbits (l, b) + c := by
  obtain ⟨h1, h2, h3, h4, h5⟩ := bitsOn_bt x c l b hC
  have hle : nbits (bitsOn x c (l, b)) ≤ 8 * (bitsOn x c (l, b)).1.length := nbits_le _ _
  have := hP.1
  refine ⟨rdB_of _ _ x c fun j hj => ?_, by omega, h2⟩
  have e1 := hP.2 (nbits (l, b) + j) (by omega)
  rw [h5 j hj] at e1
  unfold bt at e1
  show L.getD ((nbits (l, b) + j) / 8) 0 / 2 ^ (7 - (nbits (l, b) + j) % 8) % 2 = _
  rw [Nat.testBit_eq_decide_div_mod_eq] at e1
  rw [decide_eq_decide] at e1
  generalize L.getD ((nbits (l, b) + j) / 8) 0 / 2 ^ (7 - (nbits (l, b) + j) % 8) = A at e1 ⊢
  generalize x / 2 ^ (c - 1 - j) = B at e1 ⊢
  omega
end Go.Proofs.YtfijagdbdbbbpaaDoor

namespace Go.Proofs.YtfijagdbdbbbpaaDoor
open Go.RowKit
set_option linter.unusedVariables false
set_option linter.unusedSimpArgs false
theorem RR.here {N : Nat} {w1 wx : World} {a : Option Addr} {n cap p r : Nat} {bs : Nat → Nat} {fv : Option (Int × Int)} (h : RR N w1 a n cap bs p r fv wx) : RR N wx a n cap bs p r fv wx :=
  ⟨h.c0, h.c1, h.c2, h.c3, h.f1, h.f2, h.f3, h.row, h.nb, h.nc, h.pn, h.r8, h.rp, Below.refl _ _, h.sz⟩
/-- the Reader, when the first k were read. -/
def RK (w : World) (o : Ops) (len N : Nat) (a : Option Addr) (cap k : Nat) (wr : World) : Prop :=
  w.heap.size ≤ N ∧ Below w.heap.size w wr ∧ ∃ p r, RR N wr a (wrAll o len).1.length cap (natsOf (wrAll o len).1) p r none wr ∧ r < 8 ∧ nbits (wrAll o k) + r = 8 * p
theorem RK.below {w : World} {o : Ops} {len N : Nat} {a : Option Addr} {cap k : Nat} {wr w' : World} (h : RK w o len N a cap k wr) (hb : Below wr.heap.size wr w') : RK w o len N a cap k w' := by
  obtain ⟨h1, h2, p, r, h3, h4, h5⟩ := h
  exact ⟨h1, below_then h2 hb, p, r, (h3.below hb).here, h4, h5⟩
/-- behind a read. -/
theorem RK.next {w : World} {o : Ops} {len N : Nat} {a : Option Addr} {cap k k' p' r' : Nat} {wr w' : World} (h : RK w o len N a cap k wr) (hR : RR N wr a (wrAll o len).1.length cap (natsOf (wrAll o len).1) p' r' none w') (hr : r' < 8) (hn : nbits (wrAll o k') + r' = 8 * p') : RK w o len N a cap k' w' :=
  ⟨h.1, h.2.1.trans (hR.b.mono h.1), p', r', hR.here, hr, hn⟩
section
variable {w : World} {o : Ops} {len N : Nat} {a : Option Addr} {cap k : Nat} {wr : World}
/-- what is asked of the k-th when it was whole bytes. -/
theorem RK.whole (h : RK w o len N a cap k wr) (hO : OpsOk o len) (hk : k < len) (E : List Nat) (hE : wrAll o (k + 1) = ((wrAll o k).1 ++ E, 0)) :
    ∃ p r, RR N wr a (wrAll o len).1.length cap (natsOf (wrAll o len).1) p r none wr ∧ p + E.length ≤ (wrAll o len).1.length ∧ ¬ (r ≠ 0 ∧ natsOf (wrAll o len).1 (p - 1) % 2 ^ r ≠ 0) ∧ (∀ i, i < E.length → natsOf (wrAll o len).1 (p + i) = E.getD i 0) ∧ nbits (wrAll o (k + 1)) + 0 = 8 * (p + E.length) := by
  obtain ⟨h1, h2, p, r, h3, h4, h5⟩ := h
  have hC := wrAll_CL o len hO k (by omega)
  have hC1 := wrAll_CL o len hO (k + 1) (by omega)
  have hP := wrAll_pre o len hO (len - (k + 1)) (k + 1) (by omega)
  have hL := (wrAll_CL o len hO len (Nat.le_refl _)).2.1
  rw [hE] at hP hC1 ⊢
  obtain ⟨g1, g2, g3, g4⟩ := whole_back hC (fun y hy => hC1.2.1 y (by simp [hy])) hL hP h4 h5
  exact ⟨p, r, h3, g1, g2, g3, g4⟩
theorem back_uint (h : RK w o len N a cap k wr) (hO : OpsOk o len) (hk : k < len) (hK : o.K k = 2) :
    Calls Tryd.prog 30 #[.pointer (some ⟨N, 0, none⟩), .int .u64 (o.X k : Int)] wr fun e w' => e = .returned (.int .u64 (o.X k : Int)) ∧ RK w o len N a cap (k + 1) w' ∧ RF N wr w' := by
  have hE : wrAll o (k + 1) = ((wrAll o k).1 ++ uB (o.X k), 0) := by simp [wrAll, opOn, hK]
  obtain ⟨p, r, h3, g1, g2, g3, g4⟩ := h.whole hO hk _ hE
  refine (rUint_ok h3 g2 (o.X k) (hO k hk).1 g1 g3 (o.X k) _ rfl (Nat.le_refl _)).mono ?_
  rintro e w' ⟨rfl, h4, F4⟩
  exact ⟨rfl, h.next h4 (by omega) g4, F4⟩
theorem back_int (h : RK w o len N a cap k wr) (hO : OpsOk o len) (hk : k < len) (hK : o.K k = 3) :
    Calls Tryd.prog 29 #[.pointer (some ⟨N, 0, none⟩)] wr fun e w' => e = .returned (.int .i64 (wrap64 (o.X k : Int))) ∧ RK w o len N a cap (k + 1) w' ∧ RF N wr w' := by
  have hE : wrAll o (k + 1) = ((wrAll o k).1 ++ uB (foldZ (wrap64 (o.X k : Int))), 0) := by simp [wrAll, opOn, hK]
  obtain ⟨p, r, h3, g1, g2, g3, g4⟩ := h.whole hO hk _ hE
  refine (rInt_ok h3 g2 _ (wrap64_rg _) g1 g3).mono ?_
  rintro e w' ⟨rfl, h4, F4⟩
  exact ⟨rfl, h.next h4 (by omega) g4, F4⟩
/-- a number's bytes, and what stands behind them. -/
theorem RK.lenB (h : RK w o len N a cap k wr) (hO : OpsOk o len) (hk : k < len) (hK : o.K k = 4 ∨ o.K k = 5) :
    ∃ p r, RR N wr a (wrAll o len).1.length cap (natsOf (wrAll o len).1) p r none wr ∧ ¬ (r ≠ 0 ∧ natsOf (wrAll o len).1 (p - 1) % 2 ^ r ≠ 0) ∧ p + (uB (o.M k)).length + o.M k ≤ (wrAll o len).1.length ∧ (∀ i, i < (uB (o.M k)).length → natsOf (wrAll o len).1 (p + i) = (uB (o.M k)).getD i 0) ∧ (∀ i, i < o.M k → natsOf (wrAll o len).1 (p + (uB (o.M k)).length + i) = o.S k i) ∧ nbits (wrAll o (k + 1)) + 0 = 8 * (p + (uB (o.M k)).length + o.M k) := by
  have hE : wrAll o (k + 1) = ((wrAll o k).1 ++ (uB (o.M k) ++ bytesL (o.S k) (o.M k)), 0) := by rcases hK with hK | hK <;> simp [wrAll, opOn, hK]
  obtain ⟨p, r, h3, g1, g2, g3, g4⟩ := h.whole hO hk _ hE
  have hbl : (bytesL (o.S k) (o.M k)).length = o.M k := by simp [bytesL]
  simp only [List.length_append, hbl] at g1 g3 g4
  refine ⟨p, r, h3, g2, by omega, fun i hi => ?_, fun i hi => ?_, by omega⟩
  · rw [g3 i (by omega), getD_left _ _ _ hi]
  · rw [Nat.add_assoc, g3 _ (by omega), getD_right]
    exact nats_bytesL (o.S k) (o.M k) i hi
theorem back_raw (h : RK w o len N a cap k wr) (hO : OpsOk o len) (hk : k < len) (hK : o.K k = 5) :
    Calls Tryd.prog 34 #[.pointer (some ⟨N, 0, none⟩), .int .i64 (o.M k : Int)] wr fun e w' => (∃ a' c, e = .returned (.slice a' (o.M k) c) ∧ BytesIn w' a' (o.M k) (o.S k)) ∧ RK w o len N a cap (k + 1) w' ∧ RF N wr w' := by
  obtain ⟨p, r, h3, g2, g1, g3, g5, g4⟩ := h.lenB hO hk (Or.inr hK)
  refine (rRaw_ok h3 g2 (o.M k) (hO k hk).2.1 g1 g3).mono ?_
  rintro e w' ⟨⟨a', c, rfl, hin⟩, h4, F4⟩
  refine ⟨⟨a', c, rfl, hin.1, ?_⟩, h.next h4 (by omega) g4, F4⟩
  rcases hin.2 with h0 | ⟨b, off, e, hb, hB⟩
  · exact Or.inl h0
  · exact Or.inr ⟨b, off, e, hb, fun i hi => by rw [← g5 i hi]; exact hB i hi⟩
theorem back_bits (h : RK w o len N a cap k wr) (hO : OpsOk o len) (hk : k < len) (hK : o.K k = 6) :
    Calls Tryd.prog 75 #[.pointer (some ⟨N, 0, none⟩), .int .i64 (o.B k)] wr fun e w' => e = .returned (.int .u64 ((o.X k % 2 ^ broughtN (o.B k) : Nat) : Int)) ∧ RK w o len N a cap (k + 1) w' ∧ RF N wr w' := by
  obtain ⟨h1, h2, p, r, h3, h4, h5⟩ := h
  have hC := wrAll_CL o len hO k (by omega)
  have hP := wrAll_pre o len hO (len - (k + 1)) (k + 1) (by omega)
  have hL := (wrAll_CL o len hO len (Nat.le_refl _)).2.1
  have hE : wrAll o (k + 1) = bitsOn (o.X k) (broughtN (o.B k)) ((wrAll o k).1, (wrAll o k).2) := by simp [wrAll, opOn, hK]
  rw [hE] at hP
  obtain ⟨g1, g2, g3⟩ := PRE.bits hC hP hL h4 h5
  refine (rBits_ok h3 h4 (o.B k) _ h5 g2).mono ?_
  rintro e w' ⟨rfl, ⟨p', r', h6, h7, h8⟩, F⟩
  refine ⟨congrArg (fun y : Nat => Ending.returned (Value.int .u64 (y : Int))) g1, RK.next ⟨h1, h2, p, r, h3, h4, h5⟩ h6 h7 ?_, F⟩
  rw [hE, g3]; exact h8
end
end Go.Proofs.YtfijagdbdbbbpaaDoor

namespace Go.Proofs.YtfijagdbdbbbpaaDoor
open Go.RowKit
set_option linter.unusedVariables false
set_option linter.unusedSimpArgs false
theorem newR_any (l : List Nat) (v : Value) (w : World) (h : (v = .slice none 0 0 ∧ l = []) ∨ ∃ g o c, v = .slice (some ⟨g, o, none⟩) l.length c ∧ BytesIn w (some ⟨g, o, none⟩) l.length (natsOf l)) :
    Calls Tryd.prog 26 #[v] w fun e w' => ∃ N a cap, e = .returned (.pointer (some ⟨N, 0, none⟩)) ∧ w.heap.size ≤ N ∧ RR N w' a l.length cap (natsOf l) 0 0 none w' ∧ Below w.heap.size w w' := by
  rcases h with ⟨rfl, rfl⟩ | ⟨g, o, c, rfl, hin⟩
  · exact new_nil _ w
  · exact new_ok g o _ c _ w hin
theorem keepZ {w wx wy : World} {N z : Nat} {v0 v1 v2 v3 : Value} (F : RF N wx wy) (hz : z ≠ N) (hB : Below w.heap.size w wy) (S : Below w.heap.size w wx ∧ z < wx.heap.size ∧ wx.cell? ⟨z, 0, none⟩ = some v0 ∧ wx.cell? ⟨z, 1, none⟩ = some v1 ∧ wx.cell? ⟨z, 2, none⟩ = some v2 ∧ wx.cell? ⟨z, 3, none⟩ = some v3) :
    Below w.heap.size w wy ∧ z < wy.heap.size ∧ wy.cell? ⟨z, 0, none⟩ = some v0 ∧ wy.cell? ⟨z, 1, none⟩ = some v1 ∧ wy.cell? ⟨z, 2, none⟩ = some v2 ∧ wy.cell? ⟨z, 3, none⟩ = some v3 := by
  obtain ⟨b, h1, c0, c1, c2, c3⟩ := S
  have hk := F.keep z h1 hz
  have hs := F.size
  refine ⟨hB, by omega, ?_, ?_, ?_, ?_⟩
  · rw [World.cell?_of_block (w := wx) hk]; exact c0
  · rw [World.cell?_of_block (w := wx) hk]; exact c1
  · rw [World.cell?_of_block (w := wx) hk]; exact c2
  · rw [World.cell?_of_block (w := wx) hk]; exact c3
theorem back_done {w : World} {o : Ops} {len N : Nat} {a : Option Addr} {cap : Nat} {wr : World} (h : RK w o len N a cap len wr) (hO : OpsOk o len) :
    Calls Tryd.prog 32 #[.pointer (some ⟨N, 0, none⟩)] wr fun e w' => e = .returned .nilIface ∧ RK w o len N a cap len w' := by
  obtain ⟨h1, h2, p, r, h3, h4, h5⟩ := h
  have hC := wrAll_CL o len hO len (Nat.le_refl _)
  obtain ⟨hp, hr⟩ := place hC h4 h5
  have hP : PRE ((wrAll o len).1 ++ [], 0) (wrAll o len).1 := by rw [List.append_nil]; exact ⟨Nat.le_refl _, fun q _ => rfl⟩
  obtain ⟨_, g2, _, _⟩ := whole_back (E := []) hC (by simp) hC.2.1 hP h4 h5
  have hp' : p = (wrAll o len).1.length := hp
  subst hp'
  refine (done_ok h3 g2).mono ?_
  rintro e w' ⟨rfl, h6, F⟩
  exact ⟨rfl, RK.next ⟨h1, h2, _, r, h3, h4, h5⟩ h6 h4 h5⟩
theorem keepZ4 {w wx wy : World} {N z : Nat} {v0 v1 v2 v3 : Value} {sv : Value} {s : ByteArray} (hcv : Hid (∀ w', Below w.heap.size w w' → (convert 60 9 sv).run Tryd.prog w' = .ok (.string s) w')) (F : RF N wx wy) (hz : z ≠ N) (hB : Below w.heap.size w wy) (S : Below w.heap.size w wx ∧ z < wx.heap.size ∧ wx.cell? ⟨z, 0, none⟩ = some v0 ∧ wx.cell? ⟨z, 1, none⟩ = some v1 ∧ wx.cell? ⟨z, 2, none⟩ = some v2 ∧ wx.cell? ⟨z, 3, none⟩ = some v3 ∧ (convert 60 9 sv).run Tryd.prog wx = .ok (.string s) wx) :
    Below w.heap.size w wy ∧ z < wy.heap.size ∧ wy.cell? ⟨z, 0, none⟩ = some v0 ∧ wy.cell? ⟨z, 1, none⟩ = some v1 ∧ wy.cell? ⟨z, 2, none⟩ = some v2 ∧ wy.cell? ⟨z, 3, none⟩ = some v3 ∧ (convert 60 9 sv).run Tryd.prog wy = .ok (.string s) wy := by
  obtain ⟨h1, h2, h3, h4, h5, h6, _⟩ := S
  obtain ⟨g1, g2, g3, g4, g5, g6⟩ := keepZ F hz hB ⟨h1, h2, h3, h4, h5, h6⟩
  exact ⟨g1, g2, g3, g4, g5, g6, hcv.out _ hB⟩
end Go.Proofs.YtfijagdbdbbbpaaDoor

namespace Go.Proofs.YtfijagdbdbbbpaaDoor
open Go.ChangeShapes Go.WideShapes Go.ChangeAt Go.RowKit
set_option linter.unusedVariables false
set_option linter.unusedSimpArgs false
theorem clone_noneA (ad : Addr) (c : Nat) (w : World) : Calls Tryd.prog 67 #[.slice (some ad) 0 c] w fun e w' => (∃ g c', e = .returned (.slice (some ⟨g, 0, none⟩) 0 c') ∧ w.heap.size ≤ g ∧ g < w'.heap.size) ∧ Below w.heap.size w w' := by
  have hnil : ∀ w0 : World, (binOp .eql 60 (.slice (some ad) 0 c) (.slice none 0 0)).run Tryd.prog w0 = .ok (.bool false) w0 := fun w0 => Go.Lib.run_eql_slice_nil w0 60 5 (some ad) 0 c 0 0 Tryd.underlying60
  have hown : (w.alloc (.cells #[] 5)).ownsRow w.heap.size 5 1 (.slice (some ⟨w.heap.size, 0, none⟩) 0 0) 0 (enc []) := World.ownsRow_lit w #[] 0 (Nat.le_refl _) (by omega) (by simp)
  obtain ⟨g', c', w', hr, ho, hgrow, _⟩ := app_any2 w.heap.size w.heap.size 0 0 0 [] [] _ (some ad) c hown rfl (Or.inl rfl) (by omega) (by simp)
  have hB := below_grown (below_new (Below.refl _ w) (.cells #[] 5)) hgrow (fun k e => by injection e with e; omega)
  have hrH : Hid _ := hr
  have hgl := ho.lt g' rfl
  clear hr ho hgrow hown
  go_enter Tryd.func67, Tryd.ntmps67
  go_wp2_with (at_builtin; refine wpList_append_run2 (by rfl) _ _ _ _ (by rfl) _ _ _ _ (by rfl) (by rfl) hrH.out ?_)
  go_wp2_with fail
  go_ret
  exact ⟨⟨_, _, rfl, hgl.1, hgl.2⟩, hB⟩
theorem new_none (ad : Addr) (c : Nat) (bs : Nat → Nat) (w : World) : Calls Tryd.prog 26 #[.slice (some ad) 0 c] w fun e w' => ∃ N a cap, e = .returned (.pointer (some ⟨N, 0, none⟩)) ∧ w.heap.size ≤ N ∧ RR N w' a 0 cap bs 0 0 none w' ∧ Below w.heap.size w w' := by
  have hC : Hid (∀ w', Below w.heap.size w w' → _) := fun w' hb => clone_noneA ad c w'
  go_enter Tryd.func26, Tryd.ntmps26
  go_wp2_with fail
  refine Calls.mono (hC.out _ (Below.refl _ _)) ?_
  rintro e w2 ⟨⟨g, c', rfl, hg1, hg2⟩, hBe⟩
  have hRR : RR w2.heap.size (w2.alloc (.cells #[.slice (some ⟨g, 0, none⟩) 0 c', .int .i64 0, .int .i64 0, .nilIface] 119)) (some ⟨g, 0, none⟩) 0 c' bs 0 0 none (w2.alloc (.cells #[.slice (some ⟨g, 0, none⟩) 0 c', .int .i64 0, .int .i64 0, .nilIface] 119)) := by
    refine ⟨by simp [go_sem], by simp [go_sem], by simp [go_sem], by simp [go_sem, fvV], by simp [go_sem], by simp [go_sem], by simp [go_sem], Or.inl rfl, by omega, by omega, by omega, by omega, fun h => absurd rfl h, Below.refl _ _, by simp⟩
  have hRRH : Hid _ := hRR
  have hBe2 := hBe.size
  clear hRR
  go_wp2_with fail
  go_ret
  exact ⟨w2.heap.size, _, c', rfl, hBe2, hRRH.out, below_new hBe _⟩

theorem newR_in (ba : Option Addr) (bc : Nat) (L : List Nat) (w : World) (h : BytesIn w ba L.length (natsOf L)) (hc : ba = none → bc = 0) :
    Calls Tryd.prog 26 #[.slice ba L.length bc] w fun e w' => ∃ N a cap, e = .returned (.pointer (some ⟨N, 0, none⟩)) ∧ w.heap.size ≤ N ∧ RR N w' a L.length cap (natsOf L) 0 0 none w' ∧ Below w.heap.size w w' := by
  cases ba with
  | none =>
    have h0 : L.length = 0 := by
      rcases h.2 with h0 | ⟨_, _, e, _⟩
      · exact h0
      · cases e
    rw [hc rfl, h0]
    exact new_nil _ w
  | some ad =>
    rcases h.2 with h0 | ⟨b, off, e, hb, hB⟩
    · rw [h0]; exact new_none ad bc _ w
    · rw [e] at h ⊢
      exact new_ok b off _ bc _ w h
theorem bytes_bulk2 {H : Type} {enc : TypeId × Value → H} {t e : TypeId} {W : World} {v : Value} {y : DataW H × List MemPlace} {fuel : Nat}
    (ht : Tryd.prog.underlying t = some (.slice e)) (he : Tryd.prog.underlying e = some (.int .u8)) (hc : Tryd.prog.cellsOf e = 1)
    (hf : DataW.trod enc Tryd.prog W 0 (fun _ => true) true fuel t [v] = some y) (hbk : Rows.uptoBulk y.1 ≤ 1048576) :
    ∃ ba bc, ∃ L : List Nat, v = .slice ba L.length bc ∧ (ba = none → bc = 0) ∧ L.length ≤ 1048576 ∧ BytesIn W ba L.length (natsOf L) ∧ ∀ x ∈ L, x < 256 := by
  have hnone : ∀ c l, v = .slice none l c → c = 0 := by
    intro c l e
    rcases open_ints ht he hc hf with ⟨hcs, hx⟩ | ⟨a', len, cap, zs, hcs, _⟩
    · have e2 := (List.cons.inj hcs).1; exact (Value.slice.inj (e.symm.trans e2)).2.2
    · have e2 := (List.cons.inj hcs).1; cases (Value.slice.inj (e.symm.trans e2)).1
  obtain ⟨a, len, cap, bs, rfl, h1, h2⟩ := bytes_bulk ht he hc hf
  have h3 := h2 (by omega)
  have hl : (bytesL bs len).length = len := by simp [bytesL]
  refine ⟨a, cap, bytesL bs len, by rw [hl], fun e => hnone cap len (by rw [e]), by omega, ?_, ?_⟩
  · rw [hl]
    refine ⟨h3.1, ?_⟩
    rcases h3.2 with h0 | ⟨b, off, e, hb, hB⟩
    · exact Or.inl h0
    · exact Or.inr ⟨b, off, e, hb, fun i hi => by rw [nats_bytesL bs len i hi]; exact hB i hi⟩
  · rcases h3.2 with h0 | ⟨b, off, e, hb, hB⟩
    · subst h0; simp [bytesL]
    · exact bytesL_lt fun i hi => (hB i hi).2
end Go.Proofs.YtfijagdbdbbbpaaDoor

namespace Go.Proofs.YtfijagdbdbbbpaaDoor
open Go.RowKit
set_option linter.unusedVariables false
set_option linter.unusedSimpArgs false
/-- 'append(nil, b...)', b may be of no bytes, or nil. -/
theorem app_nil (a : Option Addr) (m c : Nat) (f : Nat → Nat) (w : World) (h : BytesIn w a m f) :
    ∃ a9 c9 w9, (Builtin.append_ #[60, 60] 60 #[.slice none 0 0, .slice a m c]).run Tryd.prog w = .ok (.slice a9 m c9) w9 ∧ m ≤ c9 ∧ (m = 0 ∨ ∃ g, a9 = some ⟨g, 0, none⟩ ∧ w.heap.size ≤ g ∧ g < w9.heap.size ∧ BytesAt w9 g 0 m f) ∧ Below w.heap.size w w9 := by
  obtain ⟨i, i1, i0⟩ := Option.map_eq_some_iff.1 byte_info
  have i2 : i.zero = some (.int .u8 0) := congrArg (·.1) i0
  have i3 : i.bytes = 1 := congrArg (·.2.1) i0
  have i4 : i.size = 1 := congrArg (·.2.2) i0
  have hml : maxLen = 9223372036854775807 := by decide
  have hm47 := h.1
  cases a with
  | none =>
    obtain rfl : m = 0 := by
      rcases h.2 with h | ⟨b, off, h, _⟩
      · exact h
      · cases h
    refine ⟨none, 0, w, ?_, by omega, Or.inl rfl, Below.refl _ _⟩
    simp [Builtin.append_, run_underlying Tryd.underlying60, sizeOf, typeInfo, i1, Builtin.lenOf, run_firstCells_none, storeCells]
  | some ad =>
    have hnews : ∀ j u, (enc ((List.range m).map f))[j]? = some u → w.cell? (ad.add j) = some u := by
      rcases h.2 with h0 | ⟨b, off, e, hb, hB⟩
      · subst h0; intro j u hu; simp [enc] at hu
      · obtain rfl := Option.some.inj e
        have := bytes_news (w := w) (b := b) (off := off) (l := (List.range m).map f) (by
          intro j hj
          have hj' : j < m := by simpa using hj
          rw [show natsOf ((List.range m).map f) j = f j by simp [natsOf, List.getD_eq_getElem?_getD, hj']]
          exact hB j hj')
        exact this
    obtain ⟨v', w', hr, ho', hg, _, _⟩ := run_append_own_at (P := Tryd.prog) w w.heap.size 60 60 5 i (.int .u8 0) 1 1 Tryd.underlying60 i1 i2 i4 i3 rfl (by omega) (.slice none 0 0) 0 [] (World.ownsRow_nil _ _ _ _) ad m c (enc ((List.range m).map f)) (by simp [enc]) hnews (enc_one _) (by omega) (by omega) (Nat.le_refl _)
    have ho : w'.ownsRow w.heap.size 5 1 v' m (enc ((List.range m).map f)) := by rw [Nat.zero_add, List.nil_append] at ho'; exact ho'
    have hB : Below w.heap.size w w' := (Below.refl _ w).grown hg (Nat.le_refl _) (fun k e => by simp [Value.ownBlock] at e)
    rcases Nat.eq_zero_or_pos m with h0 | h0
    · rcases ho.2 with ⟨h1, _⟩ | ⟨g9, c9, cur, h1, _⟩
      · exact ⟨none, 0, w', by rw [hr, h1, h0], by omega, Or.inl h0, hB⟩
      · exact ⟨_, c9, w', by rw [hr, h1], by omega, Or.inl h0, hB⟩
    · obtain ⟨g9, c9, h1, gb, gl⟩ := ho.form h0
      subst h1
      have hcap : m ≤ c9 := by
        rcases ho.2 with ⟨hq, _⟩ | ⟨g0, cap0, cur, hq, _, _, hnc, _⟩
        · cases hq
        · cases hq; exact hnc
      refine ⟨_, c9, w', hr, hcap, Or.inr ⟨g9, rfl, gb, gl, fun j hj => ?_⟩, hB⟩
      have hl256 : ∀ x ∈ ((List.range m).map f), x < 256 := fun x hx => by
        simp at hx
        obtain ⟨j, hj, rfl⟩ := hx
        rcases h.2 with h0 | ⟨b, off, e, hb, hB⟩
        · omega
        · exact (hB j hj).2
      have h2 := bytes_own ho hl256 j hj
      rw [show natsOf ((List.range m).map f) j = f j by simp [natsOf, List.getD_eq_getElem?_getD, hj]] at h2
      exact h2
/-- a struct of an error's five cells at z. -/
structure BZQ (z : Nat) (x0 x1 x2 x3 x4 : Value) (w : World) : Prop where
  z0 : w.cell? ⟨z, 0, none⟩ = some x0
  z1 : w.cell? ⟨z, 1, none⟩ = some x1
  z2 : w.cell? ⟨z, 2, none⟩ = some x2
  z3 : w.cell? ⟨z, 3, none⟩ = some x3
  z4 : w.cell? ⟨z, 4, none⟩ = some x4
  y0 : w.frozen? ⟨z, 0, none⟩ = false
  y1 : w.frozen? ⟨z, 1, none⟩ = false
  y2 : w.frozen? ⟨z, 2, none⟩ = false
  y3 : w.frozen? ⟨z, 3, none⟩ = false
  y4 : w.frozen? ⟨z, 4, none⟩ = false
theorem BZQ.of {z : Nat} {x0 x1 x2 x3 x4 : Value} {w w' : World} (h : BZQ z x0 x1 x2 x3 x4 w) (hk : w'.heap[z]? = w.heap[z]?) : BZQ z x0 x1 x2 x3 x4 w' := by
  obtain ⟨z0, z1, z2, z3, z4, y0, y1, y2, y3, y4⟩ := h
  refine ⟨?_, ?_, ?_, ?_, ?_, ?_, ?_, ?_, ?_, ?_⟩
  · rw [World.cell?_of_block (w := w) hk]; exact z0
  · rw [World.cell?_of_block (w := w) hk]; exact z1
  · rw [World.cell?_of_block (w := w) hk]; exact z2
  · rw [World.cell?_of_block (w := w) hk]; exact z3
  · rw [World.cell?_of_block (w := w) hk]; exact z4
  · rw [World.frozen?_of_block (w := w) hk]; exact y0
  · rw [World.frozen?_of_block (w := w) hk]; exact y1
  · rw [World.frozen?_of_block (w := w) hk]; exact y2
  · rw [World.frozen?_of_block (w := w) hk]; exact y3
  · rw [World.frozen?_of_block (w := w) hk]; exact y4
theorem below_put {N z : Nat} {w W : World} (hz : N ≤ z) (h : Below N w W) (x0 x1 x2 x3 x4 : Value) : Below N w (((((W.setCell ⟨z, 0, none⟩ x0).setCell ⟨z, 1, none⟩ x1).setCell ⟨z, 2, none⟩ x2).setCell ⟨z, 3, none⟩ x3).setCell ⟨z, 4, none⟩ x4) := by
  have bb : ∀ (W : World) (j : Nat) (x : Value), Below N w W → Below N w (W.setCell ⟨z, j, none⟩ x) := fun W j x hW => hW.setCell (p := ⟨z, j, none⟩) hz _
  exact bb _ _ _ (bb _ _ _ (bb _ _ _ (bb _ _ _ (bb _ _ _ h))))
section
variable {N : Nat} {w1 : World} {a : Option Addr} {n cap p r : Nat} {bs : Nat → Nat} {fv : Option (Int × Int)} {w : World}
end
end Go.Proofs.YtfijagdbdbbbpaaDoor
