
import Derived.Test.YtdfnomglkibfbaaGreatDoorKyG
import Derived.Lib.IndexAny
namespace Go.Proofs.YtdfnomglkibfbaaGreatDoor
open Go.RowKit Go.Shelf
set_option linter.unusedVariables false
set_option linter.unusedSimpArgs false
/-- the four marks. -/
def mkL : List UInt8 := [44, 32, 61, 92]
def idxM (l : List UInt8) : Int := Lib.indexAny l mkL
def noM (l : List UInt8) : Prop := ∀ b ∈ l, mkL.contains b = false
theorem idxM_nil : idxM [] = -1 := rfl
theorem idxM_cons (b : UInt8) (l : List UInt8) : idxM (b :: l) = if mkL.contains b then 0 else if idxM l = -1 then -1 else idxM l + 1 := by
  unfold idxM
  rw [Lib.indexAny]
  simp
theorem idxM_ge (l : List UInt8) : -1 ≤ idxM l := Lib.indexAny_ge _ l
theorem idxM_none {l : List UInt8} : idxM l = -1 ↔ noM l := by
  induction l with
  | nil => simp [idxM_nil, noM]
  | cons b r ih =>
    rw [idxM_cons]
    have hg := idxM_ge r
    cases hb : mkL.contains b with
    | true =>
      simp only [if_true]
      constructor
      · intro h; omega
      · intro h; have := h b (by simp); rw [hb] at this; cases this
    | false =>
      simp only [Bool.false_eq_true, if_false]
      by_cases h : idxM r = -1
      · rw [if_pos h]
        constructor
        · intro _ x hx
          rcases List.mem_cons.1 hx with rfl | hx
          · exact hb
          · exact ih.1 h x hx
        · intro _; rfl
      · rw [if_neg h]
        constructor
        · intro e; omega
        · intro e; exact absurd (ih.2 (fun x hx => e x (List.mem_cons_of_mem _ hx))) h
theorem idxM_hit : ∀ {l : List UInt8} {i : Nat}, idxM l = (i : Int) → i < l.length ∧ noM (l.take i) ∧ ∃ b, l[i]? = some b ∧ mkL.contains b = true
  | [], i, h => by rw [idxM_nil] at h; omega
  | b :: r, i, h => by
    rw [idxM_cons] at h
    cases hb : mkL.contains b with
    | true =>
      rw [hb, if_pos rfl] at h
      obtain rfl : i = 0 := by omega
      exact ⟨by simp, by simp [noM], b, by simp, hb⟩
    | false =>
      rw [hb] at h
      simp only [Bool.false_eq_true, if_false] at h
      by_cases h1 : idxM r = -1
      · rw [if_pos h1] at h; omega
      · rw [if_neg h1] at h
        have hg := idxM_ge r
        obtain ⟨j, rfl⟩ : ∃ j, i = j + 1 := ⟨i - 1, by omega⟩
        obtain ⟨k1, k2, k3⟩ := idxM_hit (l := r) (i := j) (by omega)
        refine ⟨by simp; omega, ?_, by simpa using k3⟩
        intro x hx
        rw [List.take_succ_cons] at hx
        rcases List.mem_cons.1 hx with rfl | hx
        · exact hb
        · exact k2 x hx
/-- how long the first piece is. -/
def szM (l : List UInt8) : Nat := if idxM l = -1 then l.length else if idxM l = 0 then 1 else (idxM l).toNat
theorem szM_ok {l : List UInt8} (h : l ≠ []) : 1 ≤ szM l ∧ szM l ≤ l.length := by
  have hl : 0 < l.length := List.length_pos_iff.2 h
  unfold szM
  have hg := idxM_ge l
  split
  · omega
  · split
    · omega
    · obtain ⟨i, hi⟩ : ∃ i : Nat, idxM l = (i : Int) := ⟨(idxM l).toNat, by omega⟩
      have := (idxM_hit hi).1
      rw [hi]
      omega
/-- where the pieces stand, and how long they are. -/
def cutsF (l : List UInt8) : Nat → Nat → List (Nat × Nat)
  | 0, _ => []
  | n + 1, k => if k < l.length then (k, szM (l.drop k)) :: cutsF l n (k + szM (l.drop k)) else []
def escL (l : List UInt8) : List UInt8 := l.flatMap fun b => if mkL.contains b then [92, b] else [b]
/-- a piece as it is written. -/
def fP (p : List UInt8) : List UInt8 := (if 0 ≤ idxM p then [92] else []) ++ p
theorem escL_noM {l : List UInt8} (h : noM l) : escL l = l := by
  induction l with
  | nil => rfl
  | cons b r ih =>
    unfold escL
    rw [List.flatMap_cons, h b (by simp)]
    have := ih (fun x hx => h x (List.mem_cons_of_mem _ hx))
    unfold escL at this
    rw [this]
    rfl
theorem escL_append (a b : List UInt8) : escL (a ++ b) = escL a ++ escL b := by unfold escL; rw [List.flatMap_append]
theorem fP_first {l : List UInt8} (h : l ≠ []) : fP (l.take (szM l)) = escL (l.take (szM l)) := by
  have hg := idxM_ge l
  unfold szM
  by_cases h1 : idxM l = -1
  · rw [if_pos h1, List.take_length, escL_noM (idxM_none.1 h1)]
    unfold fP
    rw [h1]; rfl
  · rw [if_neg h1]
    obtain ⟨i, hi⟩ : ∃ i : Nat, idxM l = (i : Int) := ⟨(idxM l).toNat, by omega⟩
    obtain ⟨k1, k2, b, k3, k4⟩ := idxM_hit hi
    by_cases h2 : idxM l = 0
    · rw [if_pos h2]
      obtain rfl : i = 0 := by omega
      cases l with
      | nil => exact absurd rfl h
      | cons x r =>
        simp at k3
        subst k3
        rw [show (x :: r).take 1 = [x] by simp]
        have k5 : x ∈ mkL := by simpa using k4
        unfold fP escL
        rw [idxM_cons, k4]
        simp [k5]
    · rw [if_neg h2, hi, Int.toNat_natCast, escL_noM k2]
      unfold fP
      rw [idxM_none.2 k2]; rfl
theorem cuts_esc (l : List UInt8) : ∀ n k, l.length - k ≤ n → (cutsF l n k).flatMap (fun c => fP ((l.drop c.1).take c.2)) = escL (l.drop k)
  | 0, k, h => by rw [List.drop_eq_nil_of_le (by omega)]; rfl
  | n + 1, k, h => by
    unfold cutsF
    by_cases hk : k < l.length
    · rw [if_pos hk, List.flatMap_cons]
      have hne : l.drop k ≠ [] := by
        intro e
        have := congrArg List.length e
        simp at this
        omega
      have hz := szM_ok hne
      rw [cuts_esc l n _ (by omega), fP_first hne]
      have e : l.drop (k + szM (l.drop k)) = (l.drop k).drop (szM (l.drop k)) := by rw [List.drop_drop]
      rw [e, ← escL_append, List.take_append_drop]
    · rw [if_neg hk, List.drop_eq_nil_of_le (by omega)]; rfl
theorem cuts_step {l : List UInt8} {n k : Nat} (hk : k < l.length) : cutsF l (n + 1) k = (k, szM (l.drop k)) :: cutsF l n (k + szM (l.drop k)) := by
  rw [cutsF, if_pos hk]
theorem cuts_end {l : List UInt8} {n k : Nat} (hk : l.length ≤ k) : cutsF l n k = [] := by
  cases n with
  | zero => rfl
  | succ n => rw [cutsF, if_neg (by omega)]
theorem escL_len (l : List UInt8) : (escL l).length ≤ 2 * l.length := by
  induction l with
  | nil => simp [escL]
  | cons b r ih =>
    have : escL (b :: r) = (if mkL.contains b then [92, b] else [b]) ++ escL r := by unfold escL; rw [List.flatMap_cons]
    rw [this, List.length_append, List.length_cons]
    split <;> simp <;> omega
end Go.Proofs.YtdfnomglkibfbaaGreatDoor
