
import Derived.Test.YtfpfeecoideedaaGreatDoorKyH
namespace Go.Proofs.YtfpfeecoideedaaGreatDoor
open Go.RowKit Go.Shelf
set_option linter.unusedVariables false
set_option linter.unusedSimpArgs false
/-- what Unescape tells: a text and where it ends, or where it goes wrong. -/
inductive Out where
  | ok (t : List UInt8) (n : Nat)
  | bad (p : Int)
/-- byte by byte. -/
def unB : Bool → List UInt8 → Nat → List UInt8 → Out
  | true, _, k, [] => .bad ((k : Int) - 1)
  | false, acc, k, [] => .ok acc k
  | true, acc, k, b :: r => if mkL.contains b then unB false (acc ++ [b]) (k + 1) r else .bad ((k : Int) - 1)
  | false, acc, k, b :: r => if b = 92 then unB true acc (k + 1) r else if mkL.contains b then .ok acc k else unB false (acc ++ [b]) (k + 1) r
/-- piece by piece. -/
def outU (l : List UInt8) : Bool → List UInt8 → List (Nat × Nat) → Out
  | true, _, [] => .bad ((l.length : Int) - 1)
  | false, acc, [] => .ok acc l.length
  | true, acc, c :: r => if 0 ≤ idxM ((l.drop c.1).take c.2) then outU l false (acc ++ (l.drop c.1).take c.2) r else .bad ((c.1 : Int) - 1)
  | false, acc, c :: r => if (l.drop c.1).take c.2 = [92] then outU l true acc r else if 0 ≤ idxM ((l.drop c.1).take c.2) then .ok acc c.1 else outU l false (acc ++ (l.drop c.1).take c.2) r
/-- what stands when pieces have gone by: is an escape open, what was said. -/
def stU (l : List UInt8) : Bool → List UInt8 → List (Nat × Nat) → Option (Bool × List UInt8)
  | e, acc, [] => some (e, acc)
  | true, acc, c :: r => if 0 ≤ idxM ((l.drop c.1).take c.2) then stU l false (acc ++ (l.drop c.1).take c.2) r else none
  | false, acc, c :: r => if (l.drop c.1).take c.2 = [92] then stU l true acc r else if 0 ≤ idxM ((l.drop c.1).take c.2) then none else stU l false (acc ++ (l.drop c.1).take c.2) r
theorem stU_out {l : List UInt8} : ∀ {pre : List (Nat × Nat)} {e : Bool} {acc : List UInt8} {e' : Bool} {acc' : List UInt8} (r : List (Nat × Nat)), stU l e acc pre = some (e', acc') → outU l e acc (pre ++ r) = outU l e' acc' r
  | [], e, acc, e', acc', r, h => by
    cases e <;> (simp [stU] at h; obtain ⟨rfl, rfl⟩ := h; rfl)
  | c :: p, true, acc, e', acc', r, h => by
    rw [stU] at h
    rw [List.cons_append, outU]
    by_cases h1 : 0 ≤ idxM ((l.drop c.1).take c.2)
    · rw [if_pos h1] at h ⊢; exact stU_out r h
    · rw [if_neg h1] at h; cases h
  | c :: p, false, acc, e', acc', r, h => by
    rw [stU] at h
    rw [List.cons_append, outU]
    by_cases h0 : (l.drop c.1).take c.2 = [92]
    · rw [if_pos h0] at h ⊢; exact stU_out r h
    · rw [if_neg h0] at h ⊢
      by_cases h1 : 0 ≤ idxM ((l.drop c.1).take c.2)
      · rw [if_pos h1] at h; cases h
      · rw [if_neg h1] at h ⊢; exact stU_out r h
theorem stU_snoc {l : List UInt8} : ∀ {pre : List (Nat × Nat)} {e : Bool} {acc : List UInt8} {e' : Bool} {acc' : List UInt8} (x : Nat × Nat), stU l e acc pre = some (e', acc') → stU l e acc (pre ++ [x]) = stU l e' acc' [x]
  | [], e, acc, e', acc', x, h => by
    cases e <;> (simp [stU] at h; obtain ⟨rfl, rfl⟩ := h; rfl)
  | c :: p, true, acc, e', acc', x, h => by
    rw [stU] at h
    rw [List.cons_append, stU]
    by_cases h1 : 0 ≤ idxM ((l.drop c.1).take c.2)
    · rw [if_pos h1] at h ⊢; exact stU_snoc x h
    · rw [if_neg h1] at h; cases h
  | c :: p, false, acc, e', acc', x, h => by
    rw [stU] at h
    rw [List.cons_append, stU]
    by_cases h0 : (l.drop c.1).take c.2 = [92]
    · rw [if_pos h0] at h ⊢; exact stU_snoc x h
    · rw [if_neg h0] at h ⊢
      by_cases h1 : 0 ≤ idxM ((l.drop c.1).take c.2)
      · rw [if_pos h1] at h; cases h
      · rw [if_neg h1] at h ⊢; exact stU_snoc x h
theorem unB_run : ∀ (p : List UInt8) (acc : List UInt8) (k : Nat) (r : List UInt8), noM p → unB false acc k (p ++ r) = unB false (acc ++ p) (k + p.length) r
  | [], acc, k, r, h => by simp
  | b :: p, acc, k, r, h => by
    have hb := h b (by simp)
    have h92 : ¬ b = 92 := by intro e; subst e; revert hb; decide
    rw [List.cons_append, unB, if_neg h92, hb]
    simp only [Bool.false_eq_true, if_false]
    rw [unB_run p _ _ r (fun x hx => h x (List.mem_cons_of_mem _ hx)), List.length_cons]
    rw [show acc ++ [b] ++ p = acc ++ b :: p by simp, show k + 1 + p.length = k + (p.length + 1) by omega]
theorem first_kind {l : List UInt8} (h : l ≠ []) : (∃ b, l.take (szM l) = [b] ∧ mkL.contains b = true ∧ 0 ≤ idxM (l.take (szM l))) ∨ (noM (l.take (szM l)) ∧ l.take (szM l) ≠ [] ∧ ¬ 0 ≤ idxM (l.take (szM l))) := by
  have hg := idxM_ge l
  have hz := szM_ok h
  have hne : l.take (szM l) ≠ [] := by
    intro e
    have := congrArg List.length e
    rw [List.length_take, List.length_nil] at this
    omega
  by_cases h1 : idxM l = -1
  · right
    have e : szM l = l.length := by unfold szM; rw [if_pos h1]
    refine ⟨?_, hne, ?_⟩
    · rw [e, List.take_length]; exact idxM_none.1 h1
    · rw [e, List.take_length]; omega
  · obtain ⟨i, hi⟩ : ∃ i : Nat, idxM l = (i : Int) := ⟨(idxM l).toNat, by omega⟩
    obtain ⟨k1, k2, b, k3, k4⟩ := idxM_hit hi
    by_cases h2 : idxM l = 0
    · left
      obtain rfl : i = 0 := by omega
      have e : szM l = 1 := by unfold szM; rw [if_neg h1, if_pos h2]
      cases l with
      | nil => exact absurd rfl h
      | cons x r =>
        simp at k3
        subst k3
        rw [e]
        refine ⟨x, by simp, k4, ?_⟩
        rw [show (x :: r).take 1 = [x] by simp, idxM_cons, k4]
        simp
    · right
      have e : szM l = i := by unfold szM; rw [if_neg h1, if_neg h2, hi]; rfl
      rw [e] at hne ⊢
      refine ⟨k2, hne, ?_⟩
      rw [idxM_none.2 k2]; omega
theorem out_bytes (l : List UInt8) : ∀ n k e acc, l.length - k ≤ n → k ≤ l.length → outU l e acc (cutsF l n k) = unB e acc k (l.drop k)
  | 0, k, e, acc, h, hk => by
    have : l.drop k = [] := List.drop_eq_nil_of_le (by omega)
    obtain rfl : k = l.length := by omega
    rw [this]
    cases e <;> rfl
  | n + 1, k, e, acc, h, hk => by
    by_cases hlt : k < l.length
    · rw [cuts_step hlt]
      have hne : l.drop k ≠ [] := by
        intro e
        have := congrArg List.length e
        simp at this
        omega
      have hz := szM_ok hne
      have hsplit : l.drop k = (l.drop k).take (szM (l.drop k)) ++ l.drop (k + szM (l.drop k)) := by
        rw [← List.drop_drop, List.take_append_drop]
      have hlen : ((l.drop k).take (szM (l.drop k))).length = szM (l.drop k) := by rw [List.length_take]; omega
      have hzl : szM (l.drop k) ≤ l.length - k := by have := hz.2; rw [List.length_drop] at this; exact this
      have ih := fun e acc => out_bytes l n (k + szM (l.drop k)) e acc (by omega) (by omega)
      rcases first_kind hne with ⟨b, e1, e2, e3⟩ | ⟨e1, e2, e3⟩
      · have hz1 : szM (l.drop k) = 1 := by rw [← hlen, e1]; rfl
        have hd : l.drop k = b :: l.drop (k + 1) := by rw [hz1, show (l.drop k).take 1 = [b] by rw [← hz1]; exact e1] at hsplit; exact hsplit
        rw [hz1] at ih e1 e3 ⊢
        cases e with
        | true =>
          rw [outU]
          simp only
          rw [if_pos e3, ih, e1, hd, unB, if_pos e2]
        | false =>
          rw [outU]
          simp only
          rw [e1, hd, unB]
          by_cases hb : b = 92
          · subst hb; rw [if_pos rfl, if_pos rfl, ih]
          · rw [if_neg (by simpa using hb), if_neg hb, if_pos (by rw [← e1]; exact e3), if_pos e2]
      · cases e with
        | true =>
          rw [outU]
          simp only
          rw [if_neg e3, hsplit]
          cases hp : (l.drop k).take (szM (l.drop k)) with
          | nil => exact absurd hp e2
          | cons b p =>
            rw [List.cons_append, unB, e1 b (by rw [hp]; simp)]
            rfl
        | false =>
          rw [outU]
          simp only
          rw [if_neg (by intro e4; have := e1 92 (by rw [e4]; simp); revert this; decide), if_neg e3, ih]
          conv => rhs; rw [hsplit]
          rw [unB_run _ _ _ _ e1, hlen]
    · rw [cuts_end (by omega)]
      have : l.drop k = [] := List.drop_eq_nil_of_le (by omega)
      obtain rfl : k = l.length := by omega
      rw [this]
      cases e <;> rfl
theorem unB_esc : ∀ (t : List UInt8) (acc : List UInt8) (k : Nat) (r : List UInt8), unB false acc k (escL t ++ r) = unB false (acc ++ t) (k + (escL t).length) r
  | [], acc, k, r => by simp [escL]
  | b :: t, acc, k, r => by
    have e : escL (b :: t) = (if mkL.contains b then [92, b] else [b]) ++ escL t := by unfold escL; rw [List.flatMap_cons]
    rw [e]
    cases hb : mkL.contains b with
    | true =>
      simp only [if_true]
      rw [show [92, b] ++ escL t ++ r = 92 :: b :: (escL t ++ r) by simp, unB, if_pos rfl, unB, if_pos hb, unB_esc t]
      rw [show acc ++ [b] ++ t = acc ++ b :: t by simp]
      simp only [List.length_append, List.length_cons, List.length_nil]
      rw [show k + 1 + 1 + (escL t).length = k + (0 + 1 + 1 + (escL t).length) by omega]
    | false =>
      simp only [Bool.false_eq_true, if_false]
      have h92 : ¬ b = 92 := by intro e; subst e; revert hb; decide
      rw [show [b] ++ escL t ++ r = b :: (escL t ++ r) by simp, unB, if_neg h92, hb]
      simp only [Bool.false_eq_true, if_false]
      rw [unB_esc t]
      rw [show acc ++ [b] ++ t = acc ++ b :: t by simp]
      simp only [List.length_append, List.length_cons, List.length_nil]
      rw [show k + 1 + (escL t).length = k + (0 + 1 + (escL t).length) by omega]
/-- what Unescape tells of a text. -/
def uneT (l : List UInt8) : Out := unB false [] 0 l
theorem uneT_esc (t : List UInt8) : uneT (escL t) = .ok t (escL t).length := by
  have := unB_esc t [] 0 []
  rw [List.append_nil] at this
  unfold uneT
  rw [this]
  simp [unB]
theorem uneT_sign (t r : List UInt8) (b : UInt8) (hb : mkL.contains b = true) (h92 : b ≠ 92) : uneT (escL t ++ b :: r) = .ok t (escL t).length := by
  unfold uneT
  rw [unB_esc t [] 0 (b :: r), unB, if_neg h92, if_pos hb]
  simp
end Go.Proofs.YtfpfeecoideedaaGreatDoor
