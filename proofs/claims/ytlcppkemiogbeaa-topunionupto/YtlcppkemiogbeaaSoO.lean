
import Derived.Test.YtlcppkemiogbeaaSoN
namespace Go.Proofs.Ytlcppkemiogbeaa.So
open Go.RowKit
set_option linter.unusedVariables false
set_option linter.unusedSimpArgs false
/-! ### what CompactFunc leaves -/
theorem fsts_plain (F : Nat → Tg) : ∀ k, (∀ i, 1 ≤ i → i < k → (F (i - 1)).1 ≠ (F i).1) → fsts F k = (List.range k).map F
  | 0, _ => rfl
  | k + 1, h => by
    unfold fsts
    rw [fsts_plain F k fun i a b => h i a (by omega), List.range_succ, List.map_append]
    congr 1
    rcases Nat.eq_zero_or_pos k with e | e
    · rw [if_pos (Or.inl e)]; rfl
    · rw [if_pos (Or.inr (h k e (by omega)))]; rfl
theorem fsts_skip (F : Nat → Tg) {p : Nat} (hp : 1 ≤ p) (h : (F p).1 = (F (p - 1)).1) : fsts F (p + 1) = fsts F p := by
  conv => lhs; unfold fsts
  rw [if_neg (by rintro (e | e); omega; exact e h.symm), List.append_nil]
theorem fsts_new (F : Nat → Tg) {p : Nat} (h : (F p).1 ≠ (F (p - 1)).1) : fsts F (p + 1) = fsts F p ++ [F p] := by
  conv => lhs; unfold fsts
  rw [if_pos (Or.inr fun e => h e.symm)]
/-- the row while it is made: the first k are what is kept of the first p, the rest as it was. -/
structure CS (F H : Nat → Tg) (p k : Nat) : Prop where
  is : (List.range k).map H = fsts F p
  rest : ∀ i, k ≤ i → H i = F i
theorem CS.skip {F H : Nat → Tg} {p k : Nat} (h : CS F H p k) (hp : 1 ≤ p) (e : (F p).1 = (F (p - 1)).1) : CS F H (p + 1) k := ⟨by rw [fsts_skip F hp e]; exact h.is, h.rest⟩
theorem CS.new {F H : Nat → Tg} {p k : Nat} (h : CS F H p k) (e : (F p).1 ≠ (F (p - 1)).1) : CS F (upd H k (F p)) (p + 1) (k + 1) := by
  refine ⟨?_, fun i hi => ?_⟩
  · rw [fsts_new F e, ← h.is, List.range_succ, List.map_append]
    congr 1
    · apply List.map_congr_left
      intro i hi
      unfold upd
      rw [if_neg (by have := List.mem_range.1 hi; omega)]
    · simp [upd]
  · unfold upd
    rw [if_neg (by omega)]
    exact h.rest i (by omega)
/-- clear of a row of tags. -/
theorem tag_infoS : (Try.prog.info? 85).map (fun i => (i.zero, i.bytes, i.size)) = some (some (.agg #[.string ⟨#[]⟩, .string ⟨#[]⟩]), 32, 2) := by kernel_rfl
def noS (n : Nat) : List Value := List.replicate (n * 2) (.string ⟨#[]⟩)
theorem run_clearT (w : World) (ty : TypeId) (b o n c : Nat) (hn : 0 < n) (hc : ∀ j, j < n * 2 → (w.cell? ⟨b, o + j, none⟩).isSome = true) (hf : ∀ j, j < n * 2 → w.frozen? ⟨b, o + j, none⟩ = false) :
    (Builtin.clear_ #[23] ty #[.slice (some ⟨b, o, none⟩) n c]).run Try.prog w = .ok (.tuple #[]) (w.setCells b o (noS n)) := by
  obtain ⟨i, i1, i0⟩ := Option.map_eq_some_iff.1 tag_infoS
  have i2 : i.zero = some (.agg #[.string ⟨#[]⟩, .string ⟨#[]⟩]) := congrArg (·.1) i0
  have hv : ∀ w, (zeroValue 85).run Try.prog w = .ok (.agg #[.string ⟨#[]⟩, .string ⟨#[]⟩]) w := fun w => by simp [zeroValue, typeInfo, i1, i2]
  have hz : (Value.agg #[.string ⟨#[]⟩, .string ⟨#[]⟩]).cells = #[.string ⟨#[]⟩, .string ⟨#[]⟩] := by kernel_rfl
  have hzc : (Builtin.zeroCells (Value.agg #[.string ⟨#[]⟩, .string ⟨#[]⟩]).cells n).toList = noS n := by
    rw [hz]
    unfold noS
    simp [Builtin.zeroCells]
    apply List.ext_getElem
    · simp
    · intro i h1 h2
      rcases (by omega : i % 2 = 0 ∨ i % 2 = 1) with q | q <;> simp [q]
  have hst := run_storeCells_cells (P := Try.prog) b o (noS n) 0 w (by simpa [noS] using hc) (by simpa [noS] using hf) (by intro v hv'; rw [List.eq_of_mem_replicate hv']; rfl)
  simp only [Nat.add_zero] at hst
  obtain ⟨m, rfl⟩ : ∃ m, n = m + 1 := ⟨n - 1, by omega⟩
  simp [Builtin.clear_, run_underlying Try.underlying23, hv, hzc, hst]
theorem OB.sets {b : Nat} : ∀ (vs : List Value) (o : Nat) (w : World), OB b w (w.setCells b o vs)
  | [], _, w => OB.refl b w
  | v :: r, o, w => (OB.set w o v).trans (OB.sets r (o + 1) _)
theorem TR.cleared {w : World} {b off n k : Nat} {F : Nat → Tg} (h : TR w b off n F) (hk : k ≤ n) (vs : List Value) : TR (w.setCells b (off + k * 2) vs) b off k F := by
  refine ⟨Nat.lt_of_lt_of_le h.1 (OB.sets vs _ w).size, fun i hi => ?_⟩
  obtain ⟨⟨h1, h2⟩, h3, h4⟩ := h.2 i (by omega)
  refine ⟨⟨?_, ?_⟩, by rw [World.frozen?_setCells]; exact h3, by rw [World.frozen?_setCells]; exact h4⟩
  · rw [World.cell?_setCells_out _ _ _ _ _ (fun _ _ => Or.inl (by show off + i * 2 < _; omega))]; exact h1
  · rw [World.cell?_setCells_out _ _ _ _ _ (fun _ _ => Or.inl (by show off + i * 2 + 1 < _; omega))]; exact h2
end Go.Proofs.Ytlcppkemiogbeaa.So
