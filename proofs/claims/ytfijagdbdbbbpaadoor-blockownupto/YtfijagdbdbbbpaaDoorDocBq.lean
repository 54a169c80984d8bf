
import Derived.Test.YtfijagdbdbbbpaaDoorBuC
namespace Go.Proofs.YtfijagdbdbbbpaaDoor
open Go.RowKit
set_option linter.unusedVariables false
set_option linter.unusedSimpArgs false
def broughtN (n : Int) : Nat := if n < 0 then 0 else if 64 < n then 64 else n.toNat
theorem broughtN_le (n : Int) : broughtN n ≤ 64 := by unfold broughtN; split; omega; split <;> omega
/-- one bit more, as the document writes it: the bytes, and how many bits of the last one are filled. -/
def bitOn (bit : Nat) (s : List Nat × Nat) : List Nat × Nat :=
  let l := if s.2 = 0 then s.1 ++ [0] else s.1
  (if bit = 1 then l.set (l.length - 1) ((l.getD (l.length - 1) 0 + 128 / 2 ^ s.2) % 256) else l, (s.2 + 1) % 8)
def bitsOn (v : Nat) : Nat → List Nat × Nat → List Nat × Nat
  | 0, s => s
  | i + 1, s => bitsOn v i (bitOn (v / 2 ^ i % 2) s)
theorem enc_set (l : List Nat) (j x : Nat) : (enc l).set j (.int .u8 (x : Int)) = enc (l.set j x) := by simp [enc, List.map_set]
/-- a byte of its row set anew. -/
theorem WS.byteF {N : Nat} {w1 wx : World} {fr : Int} {g cap n : Nat} {l : List Nat} (h : WS N w1 fr (.slice (some ⟨g, 0, none⟩) n cap) n (enc l) wx) (j x : Nat) :
    WS N w1 fr (.slice (some ⟨g, 0, none⟩) n cap) n (enc (l.set j x)) (wx.setCell ⟨g, j, none⟩ (.int .u8 (x : Int))) ∧ Fr N (.slice (some ⟨g, 0, none⟩) n cap) (.slice (some ⟨g, 0, none⟩) n cap) wx (wx.setCell ⟨g, j, none⟩ (.int .u8 (x : Int))) := by
  refine ⟨by rw [← enc_set]; exact h.byte j _, by simp, fun k hk hn ho => ?_, Or.inl rfl⟩
  rw [Below.heap_setCell _ _ _ _ (fun e => ho (by simp [Value.ownBlock, e]))]
theorem WS.freeF {N : Nat} {w1 wx : World} {fr : Int} {v : Value} {n : Nat} {xs : List Value} (h : WS N w1 fr v n xs wx) (fr' : Int) :
    WS N w1 fr' v n xs (wx.setCell ⟨N, 1, none⟩ (.int .i64 fr')) ∧ Fr N v v wx (wx.setCell ⟨N, 1, none⟩ (.int .i64 fr')) :=
  ⟨h.free fr', by simp, fun k hk hn ho => Below.heap_setCell _ _ _ _ hn, Or.inl rfl⟩
theorem shr_bit (x j : Nat) : ((x : Int) / 2 ^ j).tmod 2 = ((x / 2 ^ j % 2 : Nat) : Int) := by
  have h1 : ((2 : Int) ^ j) = ((2 ^ j : Nat) : Int) := by simp
  rw [h1, ← Int.natCast_ediv, Int.tmod_eq_emod_of_nonneg (Int.natCast_nonneg _)]
  omega
theorem shr_128 (b : Nat) : (128 : Int) / 2 ^ b = ((128 / 2 ^ b : Nat) : Int) := by
  have h1 : ((2 : Int) ^ b) = ((2 ^ b : Nat) : Int) := by simp
  rw [h1]; rfl
theorem Fr.drew {N : Nat} {v v' : Value} {w w' : World} (h : Fr N v v' w w') : Fr N v v' w w'.drew := ⟨h.size, h.keep, h.own⟩
theorem bitOn_eq (bit : Nat) (l : List Nat) (b : Nat) (L : List Nat) (n : Nat) (hL : L = if b = 0 then l ++ [0] else l) (hn : L.length = n + 1) :
    bitOn bit (l, b) = (if bit = 1 then L.set n ((L.getD n 0 + 128 / 2 ^ b) % 256) else L, (b + 1) % 8) := by
  unfold bitOn
  simp only [← hL, hn, Nat.add_sub_cancel]
theorem WS.put0 {N : Nat} {w1 wx : World} {fr : Int} {v : Value} (c0 : wx.cell? ⟨N, 0, none⟩ = some v) (c1 : wx.cell? ⟨N, 1, none⟩ = some (.int .i64 fr)) (f0 : wx.frozen? ⟨N, 0, none⟩ = false) (f1 : wx.frozen? ⟨N, 1, none⟩ = false)
    (b : Below N w1 wx) (sz : N < wx.heap.size) {v' : Value} {n : Nat} {xs : List Value} (own : wx.ownsRow (N + 1) 5 1 v' n xs) :
    WS N w1 fr v' n xs (wx.setCell ⟨N, 0, none⟩ v') := by
  refine ⟨World.cell?_setCell_same _ _ _ c0, ?_, by simpa using f0, by simpa using f1, ?_, b.setCell (p := ⟨N, 0, none⟩) (Nat.le_refl _) _, by simpa using sz⟩
  · rw [World.cell?_setCell_other _ _ _ _ (by simp)]; exact c1
  · obtain ⟨h1, h2⟩ := own
    refine ⟨h1, ?_⟩
    rcases h2 with h2 | ⟨g, cap, cur, e1, e2, e3, e4⟩
    · exact Or.inl h2
    · exact Or.inr ⟨g, cap, cur, e1, e2, by rw [Below.heap_setCell _ _ _ _ (by simp; omega)]; exact e3, e4⟩
end Go.Proofs.YtfijagdbdbbbpaaDoor
