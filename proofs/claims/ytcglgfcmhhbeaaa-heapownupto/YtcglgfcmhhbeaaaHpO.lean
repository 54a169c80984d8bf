
import Derived.Test.YtcglgfcmhhbeaaaHpL
namespace Go.Proofs.Ytcglgfcmhhbeaaa.Hp
open Go.RowKit Go.Maps
set_option linter.unusedVariables false
set_option linter.unusedSimpArgs false
set_option maxRecDepth 100000
/-- one call of a row. -/
structure OpP where
  k : Int
  wh : Int
  mo : Bool
  e : Ent
  la : Option Addr
  ln : Nat
  lc : Nat
def OpIn (w : World) (a : Option Addr) (len : Nat) (op : Nat → OpP) : Prop := len = 0 ∨ ∃ b off, a = some ⟨b, off, none⟩ ∧ b < w.heap.size ∧ ∀ i, i < len → w.cell? ⟨b, off + i * 6, none⟩ = some (.int .i64 (op i).k) ∧ w.cell? ⟨b, off + i * 6 + 1, none⟩ = some (.int .i64 (op i).wh) ∧ w.cell? ⟨b, off + i * 6 + 2, none⟩ = some (.bool (op i).mo) ∧ w.cell? ⟨b, off + i * 6 + 3, none⟩ = some (.int .i64 (op i).e.1) ∧ w.cell? ⟨b, off + i * 6 + 4, none⟩ = some (.string (op i).e.2) ∧ w.cell? ⟨b, off + i * 6 + 5, none⟩ = some (.slice (op i).la (op i).ln (op i).lc)
theorem OpIn.below {w w' : World} {a : Option Addr} {len : Nat} {op : Nat → OpP} (h : OpIn w a len op) (hB : Below w.heap.size w w') : OpIn w' a len op := by
  rcases h with h | ⟨b, off, ha, hb, hc⟩
  · exact Or.inl h
  · refine Or.inr ⟨b, off, ha, by have := hB.size; omega, fun i hi => ?_⟩
    have c : ∀ o, w'.cell? ⟨b, o, none⟩ = w.cell? ⟨b, o, none⟩ := fun o => hB.cell (p := ⟨b, o, none⟩) hb
    rw [c, c, c, c, c, c]
    exact hc i hi
end Go.Proofs.Ytcglgfcmhhbeaaa.Hp
