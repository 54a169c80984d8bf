
import Derived.Test.YtcbcpncbekeoaaaDoorFpA
namespace Go.Proofs.YtcbcpncbekeoaaaDoor
open Go.RowKit
set_option linter.unusedVariables false
set_option linter.unusedSimpArgs false
def isD (c : UInt8) : Bool := decide (48 ≤ c.toNat ∧ c.toNat ≤ 57)
def digs0 : List UInt8 → Nat
  | [] => 0
  | c :: r => if isD c then digs0 r + 1 else 0
/-- how many bytes the number at the front of a text has, with its sign. -/
def digF : List UInt8 → Nat
  | [] => 0
  | c :: r => if isD c || c == 45 then digs0 r + 1 else 0
theorem digs0_app (a r : List UInt8) (h : ∀ c ∈ a, isD c = true) (hr : ∀ c, r.head? = some c → isD c = false) : digs0 (a ++ r) = a.length := by
  induction a with
  | nil =>
    cases r with
    | nil => rfl
    | cons c r => simp [digs0, hr c rfl]
  | cons c a ih =>
    rw [List.cons_append, digs0, if_pos (h c (by simp)), ih (fun d hd => h d (by simp [hd]))]; rfl
theorem isD_dec (u : Nat) : ∀ c ∈ Lib.decDigits u, isD c = true := fun c hc => decide_eq_true (dec_head u c hc)
theorem digF_itoa (n : Int) (r : List UInt8) : digF (Lib.itoa n ++ (csp ++ r)) = (Lib.itoa n).length := by
  have hr : ∀ c, (csp ++ r).head? = some c → isD c = false := fun c hc => by
    simp [csp] at hc; subst hc; decide
  unfold Lib.itoa
  split
  · rw [List.cons_append]
    simp only [digF]
    rw [if_pos (by decide), digs0_app _ _ (isD_dec _) hr]; rfl
  · cases hd : Lib.decDigits n.toNat with
    | nil => exact absurd hd (dec_ne _)
    | cons c l =>
      have hall := isD_dec n.toNat
      rw [hd] at hall
      rw [List.cons_append]
      simp only [digF]
      rw [if_pos (by rw [hall c (by simp)]; rfl), digs0_app l _ (fun d hd => hall d (by simp [hd])) hr]; rfl
/-- what the document takes off the front of a text: the number's text, and what is left. -/
def leadF (word s : List UInt8) : Option (List UInt8 × List UInt8) :=
  if word.isPrefixOf s then
    if digF (s.drop word.length) = 0 ∨ ((s.drop word.length).drop (digF (s.drop word.length))).take 2 ≠ csp then none
    else some ((s.drop word.length).take (digF (s.drop word.length)), ((s.drop word.length).drop (digF (s.drop word.length))).drop 2)
  else none
theorem lead_hit (word : List UInt8) (n : Int) (r : List UInt8) : leadF word (word ++ (Lib.itoa n ++ (csp ++ r))) = some (Lib.itoa n, r) := by
  unfold leadF
  rw [if_pos (List.isPrefixOf_iff_prefix.2 (List.prefix_append _ _))]
  rw [List.drop_left, digF_itoa, List.drop_left, List.take_left]
  rw [if_neg]
  · simp [csp]
  · rintro (h | h)
    · have : Lib.itoa n ≠ [] := by
        unfold Lib.itoa; split
        · simp
        · exact dec_ne _
      exact this (List.eq_nil_of_length_eq_zero h)
    · exact h (by simp [csp])
theorem lead_no (word s : List UInt8) (h : word.isPrefixOf s = false) : leadF word s = none := by
  unfold leadF; rw [h]; simp
theorem tab_lead : ∀ p ∈ tab, numW.isPrefixOf p.2 = false ∧ atW.isPrefixOf p.2 = false := by decide +kernel
theorem name_lead (e : Int) : numW.isPrefixOf (nameL e) = false ∧ atW.isPrefixOf (nameL e) = false := by
  rcases first_row (fun p : Int × List UInt8 => p.1 = e) tab with ⟨K, p, hK, rfl, _⟩ | h2
  · rw [nameL_in (mem_tab hK)]; exact tab_lead p (mem_tab hK)
  · rw [nameL_out h2]; simp [errno6, numW, atW, List.isPrefixOf]
theorem lead_num (i p : Option Int) (c : Int) : leadF numW (lineL i p c) = i.map fun n => (Lib.itoa n, lab atW p ++ nameL c) := by
  cases i with
  | some n =>
    unfold lineL lab
    rw [List.append_assoc, List.append_assoc]
    exact lead_hit numW n _
  | none =>
    cases p with
    | some m =>
      refine lead_no _ _ ?_
      show numW.isPrefixOf ([] ++ (atW ++ (Lib.itoa m ++ csp) ++ nameL c)) = false
      simp [numW, atW, List.isPrefixOf]
    | none => exact lead_no _ _ (name_lead c).1
theorem lead_at (p : Option Int) (c : Int) : leadF atW (lab atW p ++ nameL c) = p.map fun n => (Lib.itoa n, nameL c) := by
  cases p with
  | some n =>
    unfold lab
    rw [List.append_assoc, List.append_assoc]
    exact lead_hit atW n _
  | none => exact lead_no _ _ (name_lead c).2
end Go.Proofs.YtcbcpncbekeoaaaDoor
