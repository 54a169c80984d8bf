
import Derived.Test.YtfijagdbdbbbpaaDoorBuE
import Derived.Test.YtfijagdbdbbbpaaDoorBuF
import Derived.BigQuiet
import Derived.WalkMore
import Derived.Deep.RegionHeld3
import Derived.Test.YtfijagdbdbbbpaaDoorBuH
namespace Go.Proofs.YtfijagdbdbbbpaaDoor
open Go.RowKit
set_option linter.unusedVariables false
set_option linter.unusedSimpArgs false
/-- the table of classes. -/
def clsV (j : Nat) : Int := [0, 0, 0, -63, 64, 7, -255, 256, 9, -2047, 2048, 12].getD j 0
def CT (w : World) : Prop := ∀ j, j < 12 → w.cell? ⟨0, j, none⟩ = some (.int .i64 (clsV j))
/-- a turn as bits: the lead, its size, the rest, its size. -/
def turnA (d : Int) : Nat := if d = 0 then 0 else if -63 ≤ d ∧ d ≤ 64 then 2 else if -255 ≤ d ∧ d ≤ 256 then 6 else if -2047 ≤ d ∧ d ≤ 2048 then 14 else 15
def turnB (d : Int) : Nat := if d = 0 then 1 else if -63 ≤ d ∧ d ≤ 64 then 2 else if -255 ≤ d ∧ d ≤ 256 then 3 else 4
def turnC (d : Int) : Nat := if d = 0 then 0 else if -63 ≤ d ∧ d ≤ 64 then (d + 63).toNat else if -255 ≤ d ∧ d ≤ 256 then (d + 255).toNat else if -2047 ≤ d ∧ d ≤ 2048 then (d + 2047).toNat else (d % 18446744073709551616).toNat
def turnD (d : Int) : Nat := if d = 0 then 0 else if -63 ≤ d ∧ d ≤ 64 then 7 else if -255 ≤ d ∧ d ≤ 256 then 9 else if -2047 ≤ d ∧ d ≤ 2048 then 12 else 64
def turnOn (d : Int) (s : List Nat × Nat) : List Nat × Nat := bitsOn (turnC d) (turnD d) (bitsOn (turnA d) (turnB d) s)
theorem WS.belowW {N : Nat} {w1 wx w' : World} {fr : Int} {v : Value} {n : Nat} {xs : List Value} (h : WS N w1 fr v n xs wx) (hb : Below wx.heap.size wx w') : WS N w1 fr v n xs w' := by
  obtain ⟨c0, c1, f0, f1, own, b, sz⟩ := h
  refine ⟨?_, ?_, ?_, ?_, ⟨own.1, ?_⟩, b.trans (hb.mono (by omega)), Nat.lt_of_lt_of_le sz hb.size⟩
  · rw [hb.cell (p := ⟨N, 0, none⟩) sz]; exact c0
  · rw [hb.cell (p := ⟨N, 1, none⟩) sz]; exact c1
  · rw [hb.frozen (p := ⟨N, 0, none⟩) sz]; exact f0
  · rw [hb.frozen (p := ⟨N, 1, none⟩) sz]; exact f1
  · rcases own.2 with h2 | ⟨g, cap, cur, e1, e2, e3, e4⟩
    · exact Or.inl h2
    · exact Or.inr ⟨g, cap, cur, e1, e2, by rw [hb.block g (Array.getElem?_eq_some_iff.1 e3).1]; exact e3, e4⟩
/-- the program's Writer at N, the document's at N: what is written, and how many bits of the last byte. -/
def RW (N : Nat) (w1 : World) (s : List Nat × Nat) (wx : World) : Prop := CL s.1 s.2 ∧ ∃ v, WS N w1 (((8 - s.2) % 8 : Nat) : Int) v s.1.length (enc s.1) wx
def DW (N : Nat) (w1 : World) (s : List Nat × Nat) (wx : World) : Prop := CL s.1 s.2 ∧ ∃ v, WS N w1 (s.2 : Int) v s.1.length (enc s.1) wx
theorem RW.below {N : Nat} {w1 wx w' : World} {s : List Nat × Nat} (h : RW N w1 s wx) (hb : Below wx.heap.size wx w') : RW N w1 s w' := by
  obtain ⟨h1, v, h2⟩ := h
  exact ⟨h1, v, h2.belowW hb⟩
theorem DW.below {N : Nat} {w1 wx w' : World} {s : List Nat × Nat} (h : DW N w1 s wx) (hb : Below wx.heap.size wx w') : DW N w1 s w' := by
  obtain ⟨h1, v, h2⟩ := h
  exact ⟨h1, v, h2.belowW hb⟩
theorem RW.b {N : Nat} {w1 wx : World} {s : List Nat × Nat} (h : RW N w1 s wx) : Below N w1 wx := by
  obtain ⟨h1, v, h2⟩ := h
  exact h2.b
theorem DW.b {N : Nat} {w1 wx : World} {s : List Nat × Nat} (h : DW N w1 s wx) : Below N w1 wx := by
  obtain ⟨h1, v, h2⟩ := h
  exact h2.b
theorem RW.sz {N : Nat} {w1 wx : World} {s : List Nat × Nat} (h : RW N w1 s wx) : N < wx.heap.size := by
  obtain ⟨h1, v, h2⟩ := h
  exact h2.sz
theorem DW.sz {N : Nat} {w1 wx : World} {s : List Nat × Nat} (h : DW N w1 s wx) : N < wx.heap.size := by
  obtain ⟨h1, v, h2⟩ := h
  exact h2.sz
/-- a number more. -/
def uOn (x : Nat) (s : List Nat × Nat) : List Nat × Nat := (s.1 ++ uB x, 0)
theorem uBf_256 : ∀ (f v : Nat), v < 128 ^ (f + 1) → ∀ y ∈ uBf f v, y < 256 := by
  intro f
  induction f with
  | zero => intro v h y hy; simp [uBf] at hy; simp at h; omega
  | succ f ih =>
    intro v h y hy
    by_cases hv : v < 128
    · simp [uBf, hv] at hy; omega
    · have e : uBf (f + 1) v = (v % 128 + 128) :: uBf f (v / 128) := by conv => lhs; unfold uBf; rw [if_neg hv]
      rw [e] at hy
      rcases List.mem_cons.1 hy with rfl | hy
      · omega
      · exact ih _ (by rw [Nat.div_lt_iff_lt_mul (by omega)]; rw [Nat.pow_succ] at h; omega) y hy
theorem uOn_CL {x : Nat} {s : List Nat × Nat} (hx : x < 18446744073709551616) (h : CL s.1 s.2) : CL (uOn x s).1 (uOn x s).2 := by
  refine ⟨by simp [uOn], fun y hy => ?_, fun h => absurd rfl h⟩
  rcases List.mem_append.1 hy with h1 | h1
  · exact h.2.1 y h1
  · exact uBf_256 10 x (by omega) y h1
theorem rw_uint {N : Nat} {w1 w : World} {s : List Nat × Nat} (h : RW N w1 s w) (x : Nat) (hx : x < 18446744073709551616) (z : Int) (hz : z = (x : Int)) (hb : s.1.length + 100 ≤ 140737488355328) : Calls Tryd.prog 16 #[.pointer (some ⟨N, 0, none⟩), .int .u64 z] w fun e w' => e = .returned undef ∧ RW N w1 (uOn x s) w' := by
  obtain ⟨h1, v, h2⟩ := h
  refine (wuint_fr N w1 _ v _ _ w h2 x hx z hz (by omega)).mono ?_
  rintro e w' ⟨rfl, v', n', hW, _, _⟩
  rw [enc_append] at hW
  have hn := hW.len
  subst hn
  exact ⟨rfl, uOn_CL hx h1, v', (show WS N w1 (((8 - 0) % 8 : Nat) : Int) v' _ _ w' from hW)⟩
theorem rw_int {N : Nat} {w1 w : World} {s : List Nat × Nat} (h : RW N w1 s w) (z : Int) (hz : -9223372036854775808 ≤ z ∧ z ≤ 9223372036854775807) (hb : s.1.length + 100 ≤ 140737488355328) : Calls Tryd.prog 17 #[.pointer (some ⟨N, 0, none⟩), .int .i64 z] w fun e w' => e = .returned undef ∧ RW N w1 (uOn (foldZ z) s) w' := by
  obtain ⟨h1, v, h2⟩ := h
  refine (wint_fr N w1 _ v _ _ w h2 z hz (by omega)).mono ?_
  rintro e w' ⟨rfl, v', n', hW, _, _⟩
  rw [enc_append] at hW
  have hn := hW.len
  subst hn
  exact ⟨rfl, uOn_CL (foldZ_lt z hz) h1, v', (show WS N w1 (((8 - 0) % 8 : Nat) : Int) v' _ _ w' from hW)⟩
theorem rw_bits {N : Nat} {w1 w : World} {s : List Nat × Nat} (h : RW N w1 s w) (x : Nat) (hx : x < 18446744073709551616) (z k : Int) (hz : z = (x : Int)) (hb : s.1.length + 100 ≤ 140737488355328) : Calls Tryd.prog 22 #[.pointer (some ⟨N, 0, none⟩), .int .u64 z, .int .i64 k] w fun e w' => e = .returned undef ∧ RW N w1 (bitsOn x (broughtN k) s) w' := by
  subst hz
  obtain ⟨l, b⟩ := s
  obtain ⟨h1, v, h2⟩ := h
  refine (wbits_fr N w1 b v l w h2 h1 x hx k (by simp only at hb; omega)).mono ?_
  rintro e w' ⟨rfl, v', hW, _, hC⟩
  exact ⟨rfl, hC, v', hW⟩
theorem turnOn_len (d : Int) (s : List Nat × Nat) : (turnOn d s).1.length ≤ s.1.length + 68 := by
  have h1 := bitsOn_len (turnC d) (turnD d) (bitsOn (turnA d) (turnB d) s)
  have h2 := bitsOn_len (turnA d) (turnB d) s
  have h3 : turnB d ≤ 4 := by unfold turnB; repeat' split <;> try omega
  have h4 : turnD d ≤ 64 := by unfold turnD; repeat' split <;> try omega
  unfold turnOn
  omega
end Go.Proofs.YtfijagdbdbbbpaaDoor

namespace Go.Proofs.YtfijagdbdbbbpaaDoor
open Go.RowKit
set_option linter.unusedVariables false
set_option linter.unusedSimpArgs false
theorem step_append_run {P : Program} {ops : Array Oper} {o : Oper} {a : Act} {w : World} {K : Act → World → Prop} {Q : Exit → Act → World → Prop} {E : Prop}
    (hg : o.guard = none) (s x : Operand) (t : TypeId) (hop : o.op = Op.call { callee := Callee.builtin Builtin.append, args := #[s, x], argTypes := #[t, t] })
    (v y v' : Value) (w' : World) (hs : a.eval s = v) (hx : a.eval x = y) (hr : (Builtin.append_ #[t, t] o.type #[v, y]).run P w = .ok v' w') (hK : K (a.put o.dst v') w') :
    if Region.wanted o (yielded ops a.tmps) = true then Oper.wp P o a w K Q else E := by
  have hw : Region.wanted o (yielded ops a.tmps) = true := by simp [Region.wanted, hg]
  rw [if_pos hw]
  unfold Oper.wp execOp
  simp only [hop, resolve, invoke, builtin, Sem.run_bind, Sem.run_pure, Result.andThen_ok, List.map_toArray, List.map_cons, List.map_nil, hs, hx, hr]
  exact hK
theorem bytesIn_set {w : World} {N j m : Nat} {x : Value} {a : Option Addr} {f : Nat → Nat} (hm : m ≤ 140737488355327) (h : m = 0 ∨ ∃ g, a = some ⟨g, 0, none⟩ ∧ N < g ∧ g < w.heap.size ∧ BytesAt w g 0 m f) : m = 0 ∨ ∃ g, a = some ⟨g, 0, none⟩ ∧ N < g ∧ g < (w.setCell ⟨N, j, none⟩ x).heap.size ∧ BytesAt (w.setCell ⟨N, j, none⟩ x) g 0 m f := by
  rcases h with h0 | ⟨g, e, hN, hg, hB⟩
  · exact Or.inl h0
  · exact Or.inr ⟨g, e, hN, by simpa using hg, fun i hi => ⟨by rw [World.cell?_setCell_other _ _ _ _ (by intro e; injection e with e1; omega)]; exact (hB i hi).1, (hB i hi).2⟩⟩
theorem bytesIn_of {w : World} {N m : Nat} {a : Option Addr} {f : Nat → Nat} (hm : m ≤ 140737488355327) (h : m = 0 ∨ ∃ g, a = some ⟨g, 0, none⟩ ∧ N < g ∧ g < w.heap.size ∧ BytesAt w g 0 m f) : BytesIn w a m f := by
  rcases h with h0 | ⟨g, e, hN, hg, hB⟩
  · exact ⟨hm, Or.inl h0⟩
  · exact ⟨hm, Or.inr ⟨g, 0, e, hg, hB⟩⟩
section
variable {N : Nat} {w1 : World} {a : Option Addr} {n cap p r : Nat} {bs : Nat → Nat} {fv : Option (Int × Int)} {w : World}
/-- what number tells of a length. -/
def NumL (N : Nat) (w1 : World) (a : Option Addr) (n cap : Nat) (bs : Nat → Nat) (p r M : Nat) (fv : Option (Int × Int)) (w : World) (e : Ending) (w' : World) : Prop :=
  (∃ fv' v l, NumD bs n p r M 6 fv fv' v l ∧ e = .returned (.tuple #[.int .u64 (v : Int), .int .i64 (l : Int)]) ∧ QR N w1 a n cap bs p r fv' w') ∧ RF N w w'
theorem NumD.piece {M v l : Nat} {fv' : Option (Int × Int)} {most : Int} {z : Int × Int} (hM : M = most.toNat) (hf : fv' = some z) (h : NumD bs n p r M 6 fv fv' v l) : v = 0 ∧ l = 0 ∧ PieceG bs n p r most fv p r fv' 0 0 := by
  rcases h with ⟨g1, g2, g3, g4⟩ | ⟨g1, ⟨q, g2, g3, g4, g5⟩ | ⟨x, k, g2, ⟨g4, g3, g5, g6⟩ | ⟨g4, g3, g5, g6⟩⟩⟩
  · exact ⟨g3, g4, Or.inl ⟨g1, g2, rfl, rfl, rfl⟩⟩
  · exact ⟨g4, g5, Or.inr ⟨g1, Or.inl ⟨q, g2, g3, rfl, rfl, rfl⟩⟩⟩
  · exact ⟨g5, g6, Or.inr ⟨g1, Or.inr ⟨x, k, g2, Or.inl ⟨by omega, g3, rfl, rfl, rfl⟩⟩⟩⟩
  · rw [hf] at g3; cases g3
theorem NumD.good {M v l : Nat} {fv' : Option (Int × Int)} (hf : fv' = none) (h : NumD bs n p r M 6 fv fv' v l) : startF bs p r fv = none ∧ numS bs n p 10 0 0 = .inr (v, l) ∧ v ≤ M := by
  rcases h with ⟨g1, g2, g3, g4⟩ | ⟨g1, ⟨q, g2, g3, g4, g5⟩ | ⟨x, k, g2, ⟨g4, g3, g5, g6⟩ | ⟨g4, g3, g5, g6⟩⟩⟩
  · rw [hf] at g2; exact absurd g2.symm g1
  · rw [hf] at g3; cases g3
  · rw [hf] at g3; cases g3
  · subst g5 g6; exact ⟨g1, g2, g4⟩
end
end Go.Proofs.YtfijagdbdbbbpaaDoor
