
import Derived.Lib.Bytealg
import Derived.WalkLawsBesides
import Derived.Test.YtboacnpbicedfaaGreatDoorProg
import Derived.Deep.AppendLies
import Derived.Maps.OwnSet
import Derived.ProofKit
import Derived.OpenShut
import Derived.WalkSmall
import Derived.WalkKit
namespace Go.Proofs.YtboacnpbicedfaaGreatDoor
open Go.RowKit
set_option linter.unusedVariables false
set_option linter.unusedSimpArgs false
/-- an order told by -1, 0, 1. -/
structure IsCmp {α : Type} (c : α → α → Int) : Prop where
  range : ∀ a b, c a b = -1 ∨ c a b = 0 ∨ c a b = 1
  flip : ∀ a b, c b a = - c a b
  zero : ∀ a b, c a b = 0 ↔ a = b
  trans : ∀ a b d, c a b ≤ 0 → c b d ≤ 0 → c a d ≤ 0
theorem IsCmp.lt {α : Type} {c : α → α → Int} (h : IsCmp c) {a b d : α} (h1 : c a b < 0) (h2 : c b d ≤ 0) : c a d < 0 := by
  have h3 := h.trans a b d (by omega) h2
  rcases h.range a d with e | e | e
  · omega
  · have := (h.zero a d).1 e
    subst this
    have := h.flip a b
    omega
  · omega
theorem IsCmp.lt2 {α : Type} {c : α → α → Int} (h : IsCmp c) {a b d : α} (h1 : c a b ≤ 0) (h2 : c b d < 0) : c a d < 0 := by
  have h3 := h.trans a b d h1 (by omega)
  rcases h.range a d with e | e | e
  · omega
  · have := (h.zero a d).1 e
    subst this
    have := h.flip a b
    omega
  · omega
/-- one behind the other. -/
def lexC {α : Type} (c : α → α → Int) : List α → List α → Int
  | [], [] => 0
  | [], _ :: _ => -1
  | _ :: _, [] => 1
  | a :: r, b :: s => if c a b = 0 then lexC c r s else c a b
theorem lexC_is {α : Type} {c : α → α → Int} (h : IsCmp c) : IsCmp (lexC c) where
  range := by
    intro a
    induction a with
    | nil => intro b; cases b <;> simp [lexC]
    | cons x r ih =>
      intro b
      cases b with
      | nil => simp [lexC]
      | cons y s =>
        simp only [lexC]
        split
        · exact ih s
        · exact h.range x y
  flip := by
    intro a
    induction a with
    | nil => intro b; cases b <;> simp [lexC]
    | cons x r ih =>
      intro b
      cases b with
      | nil => simp [lexC]
      | cons y s =>
        simp only [lexC]
        have := h.flip x y
        by_cases e : c x y = 0
        · rw [if_pos e, if_pos (by omega)]; exact ih s
        · rw [if_neg e, if_neg (by omega)]; exact this
  zero := by
    intro a
    induction a with
    | nil => intro b; cases b <;> simp [lexC]
    | cons x r ih =>
      intro b
      cases b with
      | nil => simp [lexC]
      | cons y s =>
        simp only [lexC]
        by_cases e : c x y = 0
        · rw [if_pos e, ih s, (h.zero x y).1 e]; simp
        · rw [if_neg e]
          constructor
          · intro k; exact absurd k e
          · intro k
            injection k with k1 k2
            exact (h.zero x y).2 k1
  trans := by
    intro a
    induction a with
    | nil => intro b d; cases d <;> simp [lexC]
    | cons x r ih =>
      intro b d
      cases b with
      | nil => simp [lexC]
      | cons y s =>
        cases d with
        | nil => simp [lexC]
        | cons z t =>
          simp only [lexC]
          intro h1 h2
          by_cases e1 : c x y = 0
          · have := (h.zero x y).1 e1
            subst this
            rw [if_pos e1] at h1
            by_cases e2 : c x z = 0
            · rw [if_pos e2] at h2 ⊢; exact ih s t h1 h2
            · rw [if_neg e2] at h2 ⊢; exact h2
          · rw [if_neg e1] at h1
            by_cases e2 : c y z = 0
            · have := (h.zero y z).1 e2
              subst this
              rw [if_neg e1]; exact h1
            · rw [if_neg e2] at h2
              have := h.trans x y z h1 h2
              by_cases e3 : c x z = 0
              · have := h.lt (a := x) (b := y) (d := z) (by omega) h2
                omega
              · rw [if_neg e3]; exact this
/-- the first one first. -/
def pairC {α β : Type} (c : α → α → Int) (d : β → β → Int) (a b : α × β) : Int := if c a.1 b.1 = 0 then d a.2 b.2 else c a.1 b.1
theorem pairC_is {α β : Type} {c : α → α → Int} {d : β → β → Int} (h : IsCmp c) (k : IsCmp d) : IsCmp (pairC c d) where
  range := by
    intro a b
    unfold pairC
    split
    · exact k.range _ _
    · exact h.range _ _
  flip := by
    intro a b
    unfold pairC
    have := h.flip a.1 b.1
    by_cases e : c a.1 b.1 = 0
    · rw [if_pos e, if_pos (by omega)]; exact k.flip _ _
    · rw [if_neg e, if_neg (by omega)]; exact this
  zero := by
    rintro ⟨a1, a2⟩ ⟨b1, b2⟩
    unfold pairC
    simp only
    by_cases e : c a1 b1 = 0
    · rw [if_pos e, k.zero, (h.zero _ _).1 e]; simp
    · rw [if_neg e]
      constructor
      · intro q; exact absurd q e
      · intro q
        injection q with q1 q2
        exact (h.zero _ _).2 q1
  trans := by
    rintro ⟨a1, a2⟩ ⟨b1, b2⟩ ⟨d1, d2⟩
    unfold pairC
    simp only
    intro h1 h2
    by_cases e1 : c a1 b1 = 0
    · have := (h.zero _ _).1 e1
      subst this
      rw [if_pos e1] at h1
      by_cases e2 : c a1 d1 = 0
      · rw [if_pos e2] at h2 ⊢; exact k.trans _ _ _ h1 h2
      · rw [if_neg e2] at h2 ⊢; exact h2
    · rw [if_neg e1] at h1
      by_cases e2 : c b1 d1 = 0
      · have := (h.zero _ _).1 e2
        subst this
        rw [if_neg e1]; exact h1
      · rw [if_neg e2] at h2
        have := h.trans _ _ _ h1 h2
        by_cases e3 : c a1 d1 = 0
        · have := h.lt (a := a1) (b := b1) (d := d1) (by omega) h2
          omega
        · rw [if_neg e3]; exact this
def u8C (a b : UInt8) : Int := if a < b then -1 else if b < a then 1 else 0
theorem u8C_is : IsCmp u8C where
  range := by intro a b; unfold u8C; split <;> (try split) <;> simp
  flip := by
    intro a b
    unfold u8C
    simp only [UInt8.lt_iff_toNat_lt]
    split <;> split <;> (try split) <;> (try omega)
  zero := by
    intro a b
    unfold u8C
    rw [← UInt8.toNat_inj]
    simp only [UInt8.lt_iff_toNat_lt]
    split <;> (try split) <;> (try omega)
  trans := by
    intro a b d
    unfold u8C
    simp only [UInt8.lt_iff_toNat_lt]
    split <;> (try split) <;> (first | omega | skip) <;> (try split) <;> (try split) <;> (try split) <;> (try split) <;> (try omega)
theorem cmpB_lex : ∀ a b : List UInt8, Lib.compareBytes a b = lexC u8C a b
  | [], [] => rfl
  | [], _ :: _ => rfl
  | _ :: _, [] => rfl
  | a :: r, b :: s => by
    have e : lexC u8C (a :: r) (b :: s) = if u8C a b = 0 then lexC u8C r s else u8C a b := rfl
    rw [e]
    unfold Lib.compareBytes
    rw [cmpB_lex r s]
    generalize lexC u8C r s = q
    unfold u8C
    by_cases h1 : a < b
    · simp [h1]
    · by_cases h2 : b < a
      · simp [h1, h2]
      · simp [h1, h2]
/-- two texts. -/
def strC (a b : ByteArray) : Int := Lib.compareBytes a.data.toList b.data.toList
theorem strC_is : IsCmp strC where
  range := by intro a b; unfold strC; rw [cmpB_lex]; exact (lexC_is u8C_is).range _ _
  flip := by intro a b; unfold strC; rw [cmpB_lex, cmpB_lex]; exact (lexC_is u8C_is).flip _ _
  zero := by
    intro a b
    unfold strC
    rw [cmpB_lex, (lexC_is u8C_is).zero]
    constructor
    · intro h
      cases a; cases b
      simp only at h
      congr 1
      exact Array.toList_inj.1 h
    · intro h; rw [h]
  trans := by intro a b d; unfold strC; rw [cmpB_lex, cmpB_lex, cmpB_lex]; exact (lexC_is u8C_is).trans _ _ _
theorem less_lex : ∀ a b : List UInt8, Op.bytesLess a b = decide (lexC u8C a b < 0)
  | [], [] => rfl
  | [], _ :: _ => rfl
  | _ :: _, [] => rfl
  | a :: r, b :: s => by
    have e : lexC u8C (a :: r) (b :: s) = if u8C a b = 0 then lexC u8C r s else u8C a b := rfl
    rw [Op.bytesLess, less_lex r s, e]
    generalize lexC u8C r s = q
    unfold u8C
    by_cases h1 : a < b
    · simp [h1]
    · by_cases h2 : b < a
      · simp [h1, h2]
        intro h; subst h; exact absurd h2 (UInt8.lt_irrefl _)
      · have : a = b := UInt8.le_antisymm (UInt8.not_lt.1 h2) (UInt8.not_lt.1 h1)
        subst this
        simp [h1]
theorem less_str (a b : ByteArray) : Op.bytesLess a.toList b.toList = decide (strC a b < 0) := by
  rw [Lib.toList_data, Lib.toList_data, less_lex]; unfold strC; rw [cmpB_lex]
theorem same_str (a b : ByteArray) : (a.toList == b.toList) = decide (strC a b = 0) := by
  rw [Lib.toList_data, Lib.toList_data]
  by_cases h : a = b
  · subst h; simp [(strC_is.zero a a).2 rfl]
  · have h1 : ¬ strC a b = 0 := fun e => h ((strC_is.zero a b).1 e)
    have h2 : ¬ a.data.toList = b.data.toList := by
      intro e
      apply h
      cases a; cases b
      simp only at e
      congr 1
      exact Array.toList_inj.1 e
    rw [beq_eq_false_iff_ne.2 h2, decide_eq_false h1]
abbrev TagP := ByteArray × ByteArray
def tagC : TagP → TagP → Int := pairC strC strC
def tagsC : List TagP → List TagP → Int := lexC tagC
theorem tagsC_is : IsCmp tagsC := lexC_is (pairC_is strC_is strC_is)
/-- a series: its measure, its tags, its field. -/
structure SerP where
  m : ByteArray
  t : List TagP
  f : ByteArray
def serC (a b : SerP) : Int := pairC strC (pairC tagsC strC) (a.m, a.t, a.f) (b.m, b.t, b.f)
theorem serC_is : IsCmp serC where
  range := by intro a b; exact (pairC_is strC_is (pairC_is tagsC_is strC_is)).range _ _
  flip := by intro a b; exact (pairC_is strC_is (pairC_is tagsC_is strC_is)).flip _ _
  zero := by
    intro a b
    unfold serC
    rw [(pairC_is strC_is (pairC_is tagsC_is strC_is)).zero]
    cases a; cases b; simp
  trans := by intro a b d; exact (pairC_is strC_is (pairC_is tagsC_is strC_is)).trans _ _ _
end Go.Proofs.YtboacnpbicedfaaGreatDoor

namespace Go.Proofs.YtboacnpbicedfaaGreatDoor.Hp
open Go.RowKit
set_option linter.unusedVariables false
set_option linter.unusedSimpArgs false
/-! ### a heap of entries, plain -/
abbrev Ent := Int × ByteArray
def lowB (a b : Ent) : Bool := if a.1 = b.1 then decide (strC a.2 b.2 < 0) else decide (a.1 < b.1)
def ahd (most : Bool) (a b : Ent) : Bool := if most then lowB b a else lowB a b
def nE : Ent := (0, ⟨#[]⟩)
def atE (L : List Ent) (i : Nat) : Ent := L.getD i nE
theorem atE_some {L : List Ent} {i : Nat} (h : i < L.length) : L[i]? = some (atE L i) := by
  rw [List.getElem?_eq_getElem h]; simp [atE, List.getD_eq_getElem?_getD, List.getElem?_eq_getElem h]
theorem atE_get {L : List Ent} {i : Nat} {e : Ent} (h : L[i]? = some e) : atE L i = e := by
  simp [atE, List.getD_eq_getElem?_getD, h]
theorem atE_set {L : List Ent} {i j : Nat} {e : Ent} (h : i < L.length) : atE (L.set i e) j = if j = i then e else atE L j := by
  unfold atE
  rw [List.getD_eq_getElem?_getD, List.getElem?_set]
  by_cases q : i = j
  · subst q; simp [h]
  · rw [if_neg q, if_neg (fun e => q e.symm), List.getD_eq_getElem?_getD]
def swp (L : List Ent) (i j : Nat) : List Ent := (L.set i (atE L j)).set j (atE L i)
theorem swp_len (L : List Ent) (i j : Nat) : (swp L i j).length = L.length := by simp [swp]
def par (i : Nat) : Nat := (i - 1) / 2
def upL (ah : Ent → Ent → Bool) (L : List Ent) (i : Nat) : List Ent × Nat :=
  if h : 0 < i ∧ ah (atE L i) (atE L (par i)) = true then ((upL ah (swp L i (par i)) (par i)).1, (upL ah (swp L i (par i)) (par i)).2 + 1) else (L, 0)
termination_by i
decreasing_by all_goals (unfold par; omega)
theorem upL_stop {ah : Ent → Ent → Bool} {L : List Ent} {i : Nat} (h : ¬ (0 < i ∧ ah (atE L i) (atE L (par i)) = true)) : upL ah L i = (L, 0) := by rw [upL, dif_neg h]
theorem upL_go {ah : Ent → Ent → Bool} {L : List Ent} {i : Nat} (h1 : 0 < i) (h2 : ah (atE L i) (atE L (par i)) = true) : upL ah L i = ((upL ah (swp L i (par i)) (par i)).1, (upL ah (swp L i (par i)) (par i)).2 + 1) := by rw [upL, dif_pos ⟨h1, h2⟩]
def kidL (ah : Ent → Ent → Bool) (L : List Ent) (i : Nat) : Nat := if 2 * i + 2 < L.length ∧ ah (atE L (2 * i + 2)) (atE L (2 * i + 1)) = true then 2 * i + 2 else 2 * i + 1
theorem kidL_two (ah : Ent → Ent → Bool) (L : List Ent) (i : Nat) : kidL ah L i = 2 * i + 1 ∨ kidL ah L i = 2 * i + 2 := by unfold kidL; split <;> simp
def downL (ah : Ent → Ent → Bool) (L : List Ent) (i : Nat) : List Ent × Nat :=
  if h : kidL ah L i < L.length ∧ ah (atE L (kidL ah L i)) (atE L i) = true then ((downL ah (swp L i (kidL ah L i)) (kidL ah L i)).1, (downL ah (swp L i (kidL ah L i)) (kidL ah L i)).2 + 1) else (L, 0)
termination_by L.length - i
decreasing_by all_goals (rw [swp_len]; have := kidL_two ah L i; omega)
theorem downL_stop {ah : Ent → Ent → Bool} {L : List Ent} {i : Nat} (h : ¬ (kidL ah L i < L.length ∧ ah (atE L (kidL ah L i)) (atE L i) = true)) : downL ah L i = (L, 0) := by rw [downL, dif_neg h]
theorem downL_go {ah : Ent → Ent → Bool} {L : List Ent} {i : Nat} (h1 : kidL ah L i < L.length) (h2 : ah (atE L (kidL ah L i)) (atE L i) = true) : downL ah L i = ((downL ah (swp L i (kidL ah L i)) (kidL ah L i)).1, (downL ah (swp L i (kidL ah L i)) (kidL ah L i)).2 + 1) := by rw [downL, dif_pos ⟨h1, h2⟩]
def mendL (ah : Ent → Ent → Bool) (L : List Ent) (i : Nat) : List Ent × Nat := if 0 < (upL ah L i).2 then upL ah L i else downL ah L i
/-! how many moves -/
theorem upL_few (ah : Ent → Ent → Bool) : ∀ (n : Nat) (L : List Ent) (i : Nat), i ≤ n → 2 ^ (upL ah L i).2 ≤ i + 1
  | n, L, i, hi => by
    by_cases h : 0 < i ∧ ah (atE L i) (atE L (par i)) = true
    · rw [upL_go h.1 h.2]
      cases n with
      | zero => omega
      | succ n =>
        have hp : par i ≤ n := by unfold par; omega
        have := upL_few ah n (swp L i (par i)) (par i) hp
        simp only [Nat.pow_succ]
        have : par i + 1 ≤ (i + 1) / 2 := by unfold par; omega
        omega
    · rw [upL_stop h]; simp
theorem downL_few (ah : Ent → Ent → Bool) : ∀ (n : Nat) (L : List Ent) (i : Nat), L.length - i ≤ n → i < L.length → (i + 1) * 2 ^ (downL ah L i).2 ≤ L.length
  | n, L, i, hn, hi => by
    by_cases h : kidL ah L i < L.length ∧ ah (atE L (kidL ah L i)) (atE L i) = true
    · rw [downL_go h.1 h.2]
      cases n with
      | zero => omega
      | succ n =>
        have k2 := kidL_two ah L i
        have := downL_few ah n (swp L i (kidL ah L i)) (kidL ah L i) (by rw [swp_len]; omega) (by rw [swp_len]; exact h.1)
        rw [swp_len] at this
        simp only [Nat.pow_succ]
        refine Nat.le_trans ?_ this
        rw [show (i + 1) * (2 ^ (downL ah (swp L i (kidL ah L i)) (kidL ah L i)).2 * 2) = (2 * i + 2) * 2 ^ (downL ah (swp L i (kidL ah L i)) (kidL ah L i)).2 by rw [Nat.mul_comm (2 ^ _) 2, ← Nat.mul_assoc]; congr 1; omega]
        exact Nat.mul_le_mul_right _ (by omega)
    · rw [downL_stop h]; simp; omega
theorem upL_len (ah : Ent → Ent → Bool) : ∀ (n : Nat) (L : List Ent) (i : Nat), i ≤ n → (upL ah L i).1.length = L.length
  | n, L, i, hi => by
    by_cases h : 0 < i ∧ ah (atE L i) (atE L (par i)) = true
    · rw [upL_go h.1 h.2]
      cases n with
      | zero => omega
      | succ n =>
        have := upL_len ah n (swp L i (par i)) (par i) (by unfold par; omega)
        rw [swp_len] at this
        exact this
    · rw [upL_stop h]
theorem downL_len (ah : Ent → Ent → Bool) : ∀ (n : Nat) (L : List Ent) (i : Nat), L.length - i ≤ n → (downL ah L i).1.length = L.length
  | n, L, i, hn => by
    by_cases h : kidL ah L i < L.length ∧ ah (atE L (kidL ah L i)) (atE L i) = true
    · rw [downL_go h.1 h.2]
      cases n with
      | zero => have := kidL_two ah L i; omega
      | succ n =>
        have k2 := kidL_two ah L i
        have := downL_len ah n (swp L i (kidL ah L i)) (kidL ah L i) (by rw [swp_len]; omega)
        rw [swp_len] at this
        exact this
    · rw [downL_stop h]
theorem mendL_len (ah : Ent → Ent → Bool) (L : List Ent) (i : Nat) : (mendL ah L i).1.length = L.length := by
  unfold mendL; split
  · exact upL_len ah i L i (Nat.le_refl _)
  · exact downL_len ah _ L i (Nat.le_refl _)
theorem mendL_few (ah : Ent → Ent → Bool) (L : List Ent) (i : Nat) (hi : i < L.length) : 2 ^ (mendL ah L i).2 ≤ L.length := by
  unfold mendL; split
  · have := upL_few ah i L i (Nat.le_refl _); omega
  · have := downL_few ah _ L i (Nat.le_refl _) hi
    refine Nat.le_trans ?_ this
    exact Nat.le_mul_of_pos_left _ (by omega)
/-! Build: all moves together -/
def bldL (ah : Ent → Ent → Bool) : Nat → List Ent × Nat → List Ent × Nat
  | 0, r => r
  | k + 1, r => bldL ah k ((downL ah r.1 k).1, r.2 + (downL ah r.1 k).2)
/-- how often a number can be doubled. -/
def dbl (n : Nat) : Nat → Nat
  | 0 => 0
  | k + 1 => dbl n k + Nat.log2 (n / (k + 1))
theorem dbl_half (n : Nat) : ∀ k, k ≤ n / 2 → dbl n k = k + dbl (n / 2) k
  | 0, _ => rfl
  | k + 1, h => by
    unfold dbl
    rw [dbl_half n k (by omega)]
    have e : n / 2 / (k + 1) = n / (k + 1) / 2 := by rw [Nat.div_div_eq_div_mul, Nat.div_div_eq_div_mul, Nat.mul_comm]
    have h2 : 2 ≤ n / (k + 1) := by rw [Nat.le_div_iff_mul_le (by omega)]; omega
    rw [e]
    have := Nat.log2_def (n / (k + 1))
    rw [if_pos h2] at this
    omega
theorem dbl_more (n : Nat) : ∀ k j, n / 2 ≤ k → dbl n (k + j) = dbl n k
  | k, 0, _ => rfl
  | k, j + 1, h => by
    rw [← Nat.add_assoc, dbl, dbl_more n k j h]
    have h2 : n / (k + j + 1) < 2 := by rw [Nat.div_lt_iff_lt_mul (by omega)]; omega
    have := Nat.log2_def (n / (k + j + 1))
    rw [if_neg (by omega)] at this
    omega
theorem dbl_le : ∀ (m n : Nat), n ≤ m → dbl n (n / 2) ≤ n
  | 0, n, h => by
    obtain rfl : n = 0 := by omega
    exact Nat.le_refl _
  | m + 1, n, h => by
    rw [dbl_half n (n / 2) (Nat.le_refl _)]
    by_cases q : n = 0
    · subst q; exact Nat.le_refl _
    · have ih := dbl_le m (n / 2) (by omega)
      have : dbl (n / 2) (n / 2) = dbl (n / 2) (n / 2 / 2) := by
        have := dbl_more (n / 2) (n / 2 / 2) (n / 2 - n / 2 / 2) (Nat.le_refl _)
        rw [show n / 2 / 2 + (n / 2 - n / 2 / 2) = n / 2 by omega] at this
        exact this
      omega
theorem bldL_few (ah : Ent → Ent → Bool) : ∀ (k : Nat) (r : List Ent × Nat), k ≤ r.1.length → (bldL ah k r).1.length = r.1.length ∧ (bldL ah k r).2 ≤ r.2 + dbl r.1.length k
  | 0, r, _ => ⟨rfl, Nat.le_refl _⟩
  | k + 1, r, h => by
    have hl := downL_len ah _ r.1 k (Nat.le_refl _)
    have hf := downL_few ah _ r.1 k (Nat.le_refl _) (by omega)
    obtain ⟨h1, h2⟩ := bldL_few ah k ((downL ah r.1 k).1, r.2 + (downL ah r.1 k).2) (by simp only [hl]; omega)
    simp only [hl] at h1 h2
    refine ⟨h1, ?_⟩
    have hm : (downL ah r.1 k).2 ≤ Nat.log2 (r.1.length / (k + 1)) := by
      have hne : r.1.length / (k + 1) ≠ 0 := by
        have : 1 ≤ r.1.length / (k + 1) := by rw [Nat.le_div_iff_mul_le (by omega)]; omega
        omega
      rw [Nat.le_log2 hne, Nat.le_div_iff_mul_le (by omega), Nat.mul_comm]
      exact hf
    unfold bldL
    rw [dbl]
    omega
/-! places -/
def PL (ex : Option ByteArray) (f : ByteArray → Option Nat) (L : List Ent) : Prop := (∀ e ∈ L, ex ≠ some e.2) ∧ ∀ s i, ex ≠ some s → (f s = some i ↔ (L[i]?).map (·.2) = some s)
def upd (f : ByteArray → Option Nat) (s : ByteArray) (i : Option Nat) : ByteArray → Option Nat := fun x => if x = s then i else f x
theorem PL.at {ex : Option ByteArray} {f : ByteArray → Option Nat} {L : List Ent} (h : PL ex f L) {i : Nat} (hi : i < L.length) : f (atE L i).2 = some i := by
  have he := atE_some hi
  exact (h.2 _ i (h.1 _ (List.mem_of_getElem? he))).2 (by rw [he]; rfl)
theorem PL.lt {ex : Option ByteArray} {f : ByteArray → Option Nat} {L : List Ent} (h : PL ex f L) {s : ByteArray} {i : Nat} (hs : ex ≠ some s) (hf : f s = some i) : i < L.length ∧ (atE L i).2 = s := by
  have := (h.2 s i hs).1 hf
  rw [Option.map_eq_some_iff] at this
  obtain ⟨e, h1, h2⟩ := this
  exact ⟨(List.getElem?_eq_some_iff.1 h1).1, by rw [atE_get h1]; exact h2⟩
theorem PL.inj {ex : Option ByteArray} {f : ByteArray → Option Nat} {L : List Ent} (h : PL ex f L) {i j : Nat} (hi : i < L.length) (hj : j < L.length) (e : (atE L i).2 = (atE L j).2) : i = j := by
  have h1 := h.at hi
  rw [e, h.at hj] at h1
  injection h1 with h1
  exact h1.symm
theorem swp_at (L : List Ent) {i j k : Nat} (hi : i < L.length) (hj : j < L.length) : atE (swp L i j) k = if k = j then atE L i else if k = i then atE L j else atE L k := by
  unfold swp
  rw [atE_set (by simpa using hj), atE_set hi]
theorem PL.swap {ex : Option ByteArray} {f : ByteArray → Option Nat} {L : List Ent} (h : PL ex f L) {i j : Nat} (hi : i < L.length) (hj : j < L.length) (hne : i ≠ j) : PL ex (upd (upd f (atE L j).2 (some i)) (atE L i).2 (some j)) (swp L i j) := by
  have hmem : ∀ e, e ∈ swp L i j → e ∈ L := fun e he => by
    obtain ⟨k, hk⟩ := List.getElem?_of_mem he
    have hkl : k < L.length := by have := (List.getElem?_eq_some_iff.1 hk).1; rwa [swp_len] at this
    rw [← atE_get hk, swp_at L hi hj]
    split
    · exact List.mem_of_getElem? (atE_some hi)
    · split
      · exact List.mem_of_getElem? (atE_some hj)
      · exact List.mem_of_getElem? (atE_some hkl)
  refine ⟨fun e he => h.1 e (hmem e he), fun s k hs => ?_⟩
  have key : ∀ k, ((swp L i j)[k]?).map (·.2) = some s ↔ k < L.length ∧ (atE (swp L i j) k).2 = s := fun k => by
    rw [Option.map_eq_some_iff]
    constructor
    · rintro ⟨e, h1, h2⟩
      have := (List.getElem?_eq_some_iff.1 h1).1
      rw [swp_len] at this
      exact ⟨this, by rw [atE_get h1]; exact h2⟩
    · rintro ⟨h1, h2⟩
      exact ⟨_, atE_some (by rw [swp_len]; exact h1), h2⟩
  have old : ∀ k, f s = some k ↔ k < L.length ∧ (atE L k).2 = s := fun k => ⟨fun q => h.lt hs q, fun ⟨q1, q2⟩ => by rw [← q2]; exact h.at q1⟩
  rw [key, swp_at L hi hj]
  unfold upd
  by_cases e1 : s = (atE L i).2
  · subst e1
    rw [if_pos rfl]
    constructor
    · intro q; injection q with q; subst q; exact ⟨hj, by rw [if_pos rfl]⟩
    · rintro ⟨q1, q2⟩
      by_cases c : k = j
      · rw [c]
      · rw [if_neg c] at q2
        by_cases c2 : k = i
        · rw [if_pos c2] at q2; exact absurd (h.inj hj hi q2).symm hne
        · rw [if_neg c2] at q2; exact absurd (h.inj q1 hi q2) c2
  · rw [if_neg e1]
    by_cases e2 : s = (atE L j).2
    · subst e2
      rw [if_pos rfl]
      constructor
      · intro q; injection q with q; subst q; exact ⟨hi, by rw [if_neg hne, if_pos rfl]⟩
      · rintro ⟨q1, q2⟩
        by_cases c : k = j
        · rw [if_pos c] at q2; exact absurd q2.symm e1
        · rw [if_neg c] at q2
          by_cases c2 : k = i
          · rw [c2]
          · rw [if_neg c2] at q2; exact absurd (h.inj q1 hj q2) c
    · rw [if_neg e2, old]
      constructor
      · rintro ⟨q1, q2⟩
        refine ⟨q1, ?_⟩
        rw [if_neg (fun c => e2 (by rw [← q2, c])), if_neg (fun c => e1 (by rw [← q2, c]))]
        exact q2
      · rintro ⟨q1, q2⟩
        refine ⟨q1, ?_⟩
        by_cases c : k = j
        · rw [if_pos c] at q2; exact absurd q2.symm e1
        · rw [if_neg c] at q2
          by_cases c2 : k = i
          · rw [if_pos c2] at q2; exact absurd q2.symm e2
          · rw [if_neg c2] at q2; exact q2
theorem PL.push {f : ByteArray → Option Nat} {L : List Ent} (h : PL none f L) {e : Ent} (hn : f e.2 = none) : PL none (upd f e.2 (some L.length)) (L ++ [e]) := by
  refine ⟨(fun _ _ q => by cases q), fun s k _ => ?_⟩
  unfold upd
  by_cases c : s = e.2
  · subst c
    rw [if_pos rfl]
    constructor
    · intro q; injection q with q; subst q; simp
    · intro q
      rcases Nat.lt_trichotomy k L.length with c | c | c
      · rw [List.getElem?_append_left c] at q
        have := (h.2 e.2 k (by simp)).2 q
        rw [hn] at this; cases this
      · rw [c]
      · rw [List.getElem?_eq_none (by simp; omega)] at q; cases q
  · rw [if_neg c, h.2 s k (by simp)]
    rcases Nat.lt_trichotomy k L.length with q | q | q
    · rw [List.getElem?_append_left q]
    · subst q
      rw [List.getElem?_eq_none (Nat.le_refl _)]
      simp
      exact fun e => c e.symm
    · rw [List.getElem?_eq_none (by omega), List.getElem?_eq_none (by simp; omega)]
theorem PL.key {ex : Option ByteArray} {f : ByteArray → Option Nat} {L : List Ent} (h1 : ∀ e ∈ L, ex ≠ some e.2) (h2 : ∀ s i, ex ≠ some s → (f s = some i ↔ i < L.length ∧ (atE L i).2 = s)) : PL ex f L := by
  refine ⟨h1, fun s k hs => ?_⟩
  rw [h2 s k hs, Option.map_eq_some_iff]
  constructor
  · rintro ⟨q1, q2⟩; exact ⟨_, atE_some q1, q2⟩
  · rintro ⟨e, q1, q2⟩; exact ⟨(List.getElem?_eq_some_iff.1 q1).1, by rw [atE_get q1]; exact q2⟩
theorem PL.iff {ex : Option ByteArray} {f : ByteArray → Option Nat} {L : List Ent} (h : PL ex f L) {s : ByteArray} (hs : ex ≠ some s) (i : Nat) : f s = some i ↔ i < L.length ∧ (atE L i).2 = s := ⟨fun q => h.lt hs q, fun ⟨q1, q2⟩ => by rw [← q2]; exact h.at q1⟩
theorem atE_drop {L : List Ent} {i : Nat} (h : i < L.length - 1) : atE L.dropLast i = atE L i := by
  unfold atE
  rw [List.getD_eq_getElem?_getD, List.getD_eq_getElem?_getD, List.getElem?_dropLast, if_pos h]
/-- the last one is the one that goes. -/
theorem PL.cutLast {f : ByteArray → Option Nat} {L : List Ent} (h : PL none f L) (hl : 0 < L.length) {name : ByteArray} (hn : (atE L (L.length - 1)).2 = name) : PL none (upd f name none) L.dropLast := by
  refine PL.key (fun _ _ q => by cases q) fun s k hs => ?_
  rw [List.length_dropLast]
  unfold upd
  by_cases c : s = name
  · rw [if_pos c]
    constructor
    · intro q; cases q
    · rintro ⟨q1, q2⟩
      rw [atE_drop q1, c, ← hn] at q2
      have := h.inj (i := k) (j := L.length - 1) (by omega) (by omega) q2
      omega
  · rw [if_neg c, h.iff hs]
    constructor
    · rintro ⟨q1, q2⟩
      have : k ≠ L.length - 1 := fun e => c (by rw [← q2, e]; exact hn)
      exact ⟨by omega, by rw [atE_drop (by omega)]; exact q2⟩
    · rintro ⟨q1, q2⟩
      rw [atE_drop q1] at q2
      exact ⟨by omega, q2⟩
/-- the last one is laid over the one that goes. -/
theorem PL.cutOver {f : ByteArray → Option Nat} {L : List Ent} (h : PL none f L) {at_ : Nat} {name : ByteArray} (ha : f name = some at_) (hne : (atE L (L.length - 1)).2 ≠ name) : at_ < L.length - 1 ∧ PL (some name) (upd f (atE L (L.length - 1)).2 (some at_)) (L.dropLast.set at_ (atE L (L.length - 1))) := by
  obtain ⟨h1, h2⟩ := (h.iff (by simp) at_).1 ha
  have hlt : at_ < L.length - 1 := by
    have : at_ ≠ L.length - 1 := fun e => hne (by rw [← e]; exact h2)
    omega
  have ld : L.dropLast.length = L.length - 1 := List.length_dropLast
  have at2 : ∀ k, k < L.length - 1 → atE (L.dropLast.set at_ (atE L (L.length - 1))) k = if k = at_ then atE L (L.length - 1) else atE L k := fun k hk => by
    rw [atE_set (by omega), atE_drop hk]
  refine ⟨hlt, PL.key (fun e he q => ?_) fun s k hs => ?_⟩
  · obtain ⟨k, hk⟩ := List.getElem?_of_mem he
    have hkl := (List.getElem?_eq_some_iff.1 hk).1
    rw [List.length_set, ld] at hkl
    have := atE_get hk
    rw [at2 k hkl] at this
    injection q with q
    by_cases c : k = at_
    · rw [if_pos c] at this
      exact hne (by rw [this]; exact q.symm)
    · rw [if_neg c] at this
      have := h.inj (i := k) (j := at_) (by omega) (by omega) (by rw [this, h2]; exact q.symm)
      exact c this
  · rw [List.length_set, ld]
    have hsn : s ≠ name := fun e => hs (by rw [e])
    unfold upd
    by_cases c : s = (atE L (L.length - 1)).2
    · rw [if_pos c]
      constructor
      · intro q; injection q with q; subst q; exact ⟨hlt, by rw [at2 _ hlt, if_pos rfl]; exact c.symm⟩
      · rintro ⟨q1, q2⟩
        rw [at2 k q1] at q2
        by_cases d : k = at_
        · rw [d]
        · rw [if_neg d, c] at q2
          have := h.inj (i := k) (j := L.length - 1) (by omega) (by omega) q2
          omega
    · rw [if_neg c, h.iff (by simp)]
      constructor
      · rintro ⟨q1, q2⟩
        have k1 : k ≠ L.length - 1 := fun e => c (by rw [← q2, e])
        have k2 : k ≠ at_ := fun e => hsn (by rw [← q2, e]; exact h2)
        exact ⟨by omega, by rw [at2 k (by omega), if_neg k2]; exact q2⟩
      · rintro ⟨q1, q2⟩
        rw [at2 k q1] at q2
        by_cases d : k = at_
        · rw [if_pos d] at q2; exact absurd q2.symm c
        · rw [if_neg d] at q2; exact ⟨by omega, q2⟩
/-- what was left out goes. -/
theorem PL.drop {f : ByteArray → Option Nat} {L : List Ent} {name : ByteArray} (h : PL (some name) f L) : PL none (upd f name none) L := by
  refine PL.key (fun _ _ q => by cases q) fun s k _ => ?_
  unfold upd
  by_cases c : s = name
  · rw [if_pos c]
    constructor
    · intro q; cases q
    · rintro ⟨q1, q2⟩
      exact absurd (by rw [q2, c]) (h.1 _ (List.mem_of_getElem? (atE_some q1)))
  · rw [if_neg c, h.iff (fun e => c (by injection e with e; exact e.symm))]
/-- another rank. -/
theorem PL.turn {ex : Option ByteArray} {f : ByteArray → Option Nat} {L : List Ent} (h : PL ex f L) {i : Nat} (hi : i < L.length) (r : Int) : PL ex f (L.set i (r, (atE L i).2)) := by
  have n2 : ∀ k, (atE (L.set i (r, (atE L i).2)) k).2 = (atE L k).2 := fun k => by
    rw [atE_set hi]; split
    · rename_i c; rw [c]
    · rfl
  refine PL.key (fun e he q => ?_) fun s k hs => ?_
  · obtain ⟨k, hk⟩ := List.getElem?_of_mem he
    have hkl := (List.getElem?_eq_some_iff.1 hk).1
    rw [List.length_set] at hkl
    have := n2 k
    rw [atE_get hk] at this
    exact h.1 _ (List.mem_of_getElem? (atE_some hkl)) (by rw [← this]; exact q)
  · rw [List.length_set, n2, h.iff hs]
end Go.Proofs.YtboacnpbicedfaaGreatDoor.Hp

namespace Go.Proofs.YtboacnpbicedfaaGreatDoor.Hp
open Go.RowKit Go.Maps
set_option linter.unusedVariables false
set_option linter.unusedSimpArgs false
set_option maxRecDepth 100000
/-! ### a heap in memory -/
def encE : List Ent → List Value
  | [] => []
  | t :: r => [.int .i64 t.1, .string t.2] ++ encE r
theorem encE_append (a b : List Ent) : encE (a ++ b) = encE a ++ encE b := by
  induction a with
  | nil => rfl
  | cons s r ih => simp [encE, ih]
theorem encE_len (l : List Ent) : (encE l).length = l.length * 2 := by
  induction l with
  | nil => rfl
  | cons s r ih => simp only [encE, List.length_append, ih, List.length_cons, List.length_nil]; omega
theorem encE_one (l : List Ent) : ∀ u ∈ encE l, u.oneCell' = true := by
  induction l with
  | nil => intro u hu; cases hu
  | cons s r ih =>
    intro u hu
    simp only [encE, List.mem_append, List.mem_cons, List.not_mem_nil, or_false] at hu
    rcases hu with (rfl | rfl) | hu
    · rfl
    · rfl
    · exact ih u hu
theorem encE_get (l : List Ent) (i : Nat) (s : Ent) (h : l[i]? = some s) : (encE l)[i * 2]? = some (.int .i64 s.1) ∧ (encE l)[i * 2 + 1]? = some (.string s.2) := by
  induction l generalizing i with
  | nil => simp at h
  | cons a r ih =>
    cases i with
    | zero => simp at h; subst h; simp [encE]
    | succ i =>
      simp at h
      have := ih i h
      simp only [encE]
      rw [show (i + 1) * 2 = i * 2 + 2 by omega]
      simpa using this
theorem encE_put (l : List Ent) (i : Nat) (e : Ent) (hi : i < l.length) : ((encE l).set (i * 2) (.int .i64 e.1)).set (i * 2 + 1) (.string e.2) = encE (l.set i e) := by
  induction l generalizing i with
  | nil => simp at hi
  | cons a r ih =>
    cases i with
    | zero => simp [encE]
    | succ i =>
      have := ih i (by simpa using hi)
      simp only [encE, List.set_cons_succ]
      rw [show (i + 1) * 2 = i * 2 + 2 by omega, ← this]
      simp
theorem en_info : (Tryz.prog.info? 30).map (fun i => (i.zero, i.bytes, i.size)) = some (some (.agg #[.int .i64 0, .string ⟨#[]⟩]), 24, 2) := by kernel_rfl
/-- a map of names to places: what f says of each name, c entries. -/
def MP (w : World) (mb : Nat) (f : ByteArray → Option Nat) (c : Nat) : Prop := ∃ D : DataW Unit, w.ownsMap Tryz.prog 9 (plainElem Tryz.prog 3) mb c D ∧ Maps.size D = c ∧ ∀ s : ByteArray, s.size ≤ 9223372036854775807 → has D (.string s.data.toList) = (f s).isSome ∧ ∀ i z, f s = some i → D.atKey (.string s.data.toList) z = .lit (.int .i64 (i : Int))
theorem str_keyed : Keyed Tryz.prog 9 := string_keyed Tryz.underlying9
theorem key_str {s : ByteArray} (h : s.size ≤ 9223372036854775807) : keyOf Tryz.prog 9 (.string s) = some (.string s.data.toList) := by
  have hml : maxLen = 9223372036854775807 := by decide
  simp [keyOf, Tryz.underlying9, mapKey, hml, h]
theorem isKeyS (l : List UInt8) : WideAt.IsKeyLit (.string l) := by first | exact trivial | simp [WideAt.IsKeyLit]
theorem MP.lt {w : World} {mb c : Nat} {f : ByteArray → Option Nat} (h : MP w mb f c) : mb < w.heap.size := by obtain ⟨D, h1, _⟩ := h; exact h1.lt
theorem MP.keep {w w' : World} {mb c : Nat} {f : ByteArray → Option Nat} (h : MP w mb f c) (hb : w'.heap[mb]? = w.heap[mb]?) : MP w' mb f c := by
  obtain ⟨D, ⟨es, clock, h1, h2⟩, h3⟩ := h
  exact ⟨D, ⟨es, clock, hb.trans h1, h2⟩, h3⟩
theorem MP.start (w : World) : MP (w.alloc (.map #[] 0)) w.heap.size (fun _ => none) 0 := ⟨.map [], World.ownsMap_made w Tryz.prog 9 _, rfl, fun s _ => ⟨rfl, fun i z h => by cases h⟩⟩
theorem ownsMap_norm {P : Program} {k : TypeId} {R : Value → Option (DataW Unit × List MemPlace)} {w : World} {b n : Nat} {D : DataW Unit} (h : w.ownsMap P k R b n D) : w.ownsMap P k R b (Maps.size D) D := by
  obtain ⟨es, clock, hb, F, _, hD⟩ := h
  exact ⟨es, clock, hb, F, by rw [hD]; simp [Maps.size, length_sorted], hD⟩
theorem toList_ne {s t : ByteArray} (h : s ≠ t) : (Lit.string s.data.toList) ≠ .string t.data.toList := by
  intro e
  injection e with e
  exact h (ByteArray.ext (Array.toList_inj.1 e))
theorem int_zero (w : World) : (zeroValue 3).run Tryz.prog w = .ok (.int .i64 0) w := by
  have h : (Tryz.prog.info? 3).map (fun i => i.zero) = some (some (.int .i64 0)) := by kernel_rfl
  obtain ⟨i, i1, i0⟩ := Option.map_eq_some_iff.1 h
  simp [zeroValue, typeInfo, i1, i0]
theorem nat_wf {i : Nat} (h : i ≤ 9223372036854775807) : (Lit.int .i64 (i : Int)).wf = true := by
  simp [Lit.wf, IntKind.min, IntKind.max, IntKind.bits, IntKind.signed]; omega
/-- a place laid under a name. -/
theorem MP.put {w : World} {mb c : Nat} {f : ByteArray → Option Nat} (h : MP w mb f c) (s : ByteArray) (hs : s.size ≤ 9223372036854775807) (i : Nat) (hi : i ≤ 4611686018427387904) (hc : c < 4611686018427387904) :
    ∃ w', (Instr.mapUpdate 51 (.map (some mb)) (.string s) (.int .i64 (i : Int))).run Tryz.prog w = .ok () w' ∧ MP w' mb (upd f s (some i)) (if (f s).isSome then c else c + 1) ∧ w.grownBy w' (some mb) ∧ ∀ a, w'.frozen? a = w.frozen? a := by
  obtain ⟨D, hown, hsz, hD⟩ := h
  have hml : maxLen = 9223372036854775807 := by decide
  obtain ⟨w', hr, ho, hg⟩ := hown.store str_keyed Tryz.underlying51 (by omega) (key_str hs) (plainElem_int Tryz.underlying3 (nat_wf (i := i) (by omega)))
  have ht := hown.tidy str_keyed
  have hsz2 := size_put ht (k := .string s.data.toList) (.lit (.int .i64 (i : Int)))
  rw [(hD s hs).1, hsz] at hsz2
  refine ⟨w', hr, ⟨_, ?_, hsz2, fun t htl => ?_⟩, hg.grown, fun a => hg.frozen a⟩
  · have := ownsMap_norm ho
    rw [hsz2] at this
    exact this
  · have hi' : IsMap D := hown.isMap
    unfold upd
    by_cases e : t = s
    · subst e
      rw [if_pos rfl]
      exact ⟨has_put_same hi' (isKeyS _) _, fun j z hj => by injection hj with hj; subst hj; exact atKey_put_same hi' (isKeyS _) _ z⟩
    · rw [if_neg e]
      have hne := toList_ne e
      exact ⟨by rw [has_put_other hne]; exact (hD t htl).1, fun j z hj => by rw [atKey_put_other hne]; exact (hD t htl).2 j z hj⟩
/-- a name taken out. -/
theorem MP.del {w : World} {mb c : Nat} {f : ByteArray → Option Nat} (h : MP w mb f c) (s : ByteArray) (hs : s.size ≤ 9223372036854775807) (ty : TypeId) :
    ∃ w', (Builtin.delete_ #[51, 9] ty #[.map (some mb), .string s]).run Tryz.prog w = .ok (.tuple #[]) w' ∧ MP w' mb (upd f s none) (if (f s).isSome then c - 1 else c) ∧ w.grownBy w' (some mb) ∧ ∀ a, w'.frozen? a = w.frozen? a := by
  obtain ⟨D, hown, hsz, hD⟩ := h
  obtain ⟨w', hr, ho, hg⟩ := hown.drop str_keyed Tryz.underlying51 (key_str hs) ty
  have ht := hown.tidy str_keyed
  have hsz2 := size_del ht (k := .string s.data.toList)
  rw [(hD s hs).1, hsz] at hsz2
  have hsz3 : Maps.size (D.del (.string s.data.toList)) = if (f s).isSome then c - 1 else c := by
    split at hsz2
    · rename_i q; rw [if_pos q]; omega
    · rename_i q; rw [if_neg q]; omega
  refine ⟨w', hr, ⟨_, ?_, hsz3, fun t htl => ?_⟩, hg.grown, fun a => hg.frozen a⟩
  · have := ownsMap_norm ho
    rw [hsz3] at this
    exact this
  · unfold upd
    by_cases e : t = s
    · subst e
      rw [if_pos rfl]
      exact ⟨has_del_same, fun j z hj => by cases hj⟩
    · rw [if_neg e]
      have hne := toList_ne e
      exact ⟨by rw [has_del_other hne]; exact (hD t htl).1, fun j z hj => by rw [atKey_del_other hne]; exact (hD t htl).2 j z hj⟩
/-- a name looked up. -/
theorem MP.look {w : World} {mb c : Nat} {f : ByteArray → Option Nat} (h : MP w mb f c) (s : ByteArray) (hs : s.size ≤ 9223372036854775807) :
    ∃ x : Int, (Instr.lookup 51 (.map (some mb)) (.string s) true).run Tryz.prog w = .ok (.tuple #[.int .i64 x, .bool (f s).isSome]) w ∧ ∀ i, f s = some i → x = (i : Int) := by
  obtain ⟨D, hown, hsz, hD⟩ := h
  obtain ⟨v, ps, hr, hv⟩ := hown.look_ok str_keyed Tryz.underlying51 (int_zero w) (plainElem_int Tryz.underlying3 (by decide)) (key_str hs)
  obtain ⟨x, rfl, hx, _⟩ := plainElem_int_inv Tryz.underlying3 hv
  rw [(hD s hs).1] at hr
  refine ⟨x, hr, fun i hi => ?_⟩
  have := (hD s hs).2 i (.lit (.int .i64 0)) hi
  have e := congrArg Prod.fst hx
  simp only at e
  rw [this] at e
  injection e with e
  injection e with _ e
  exact e.symm
/-- nothing but three blocks (of those that were there) is another one. -/
structure HF (hp mb : Nat) (rb : Option Nat) (w w' : World) : Prop where
  size : w.heap.size ≤ w'.heap.size
  keep : ∀ k, k < w.heap.size → k ≠ hp → k ≠ mb → some k ≠ rb → w'.heap[k]? = w.heap[k]?
  same : w'.os = w.os ∧ w'.tape = w.tape ∧ w'.output = w.output
theorem HF.refl (hp mb : Nat) (rb : Option Nat) (w : World) : HF hp mb rb w w := ⟨Nat.le_refl _, fun _ _ _ _ _ => rfl, rfl, rfl, rfl⟩
theorem HF.trans {hp mb : Nat} {rb : Option Nat} {w w1 w2 : World} (h : HF hp mb rb w w1) (k : HF hp mb rb w1 w2) : HF hp mb rb w w2 :=
  ⟨Nat.le_trans h.size k.size, fun j hj a b d => by rw [k.keep j (Nat.lt_of_lt_of_le hj h.size) a b d]; exact h.keep j hj a b d, k.same.1.trans h.same.1, k.same.2.1.trans h.same.2.1, k.same.2.2.trans h.same.2.2⟩
theorem HF.below {hp mb : Nat} {rb : Option Nat} {w w' : World} (h : Below w.heap.size w w') : HF hp mb rb w w' := ⟨h.size, fun k hk _ _ _ => h.block k hk, h.os, h.tape, h.output⟩
theorem HF.grown {hp mb : Nat} {rb : Option Nat} {w w' : World} {r : Option Nat} (h : w.grownBy w' r) (hr : r = some hp ∨ r = some mb ∨ r = rb) : HF hp mb rb w w' := ⟨h.size, fun k hk a b d => h.block k hk (fun e => by
  rcases hr with q | q | q
  · rw [q] at e; injection e with e; exact a e
  · rw [q] at e; injection e with e; exact b e
  · rw [q] at e; exact d e), h.os, h.tape, h.output⟩
theorem HF.into {hp mb N : Nat} {rb : Option Nat} {w w' : World} (h : HF hp mb rb w w') (h1 : N ≤ hp) (h2 : N ≤ mb) (h3 : ∀ k, rb = some k → N ≤ k) (h4 : N ≤ w.heap.size) : Below N w w' :=
  ⟨h.same.1, h.same.2.1, h.same.2.2, h.size, fun k hk => h.keep k (by omega) (by omega) (by omega) (fun e => by have := h3 k e.symm; omega)⟩
/-- where a heap's blocks lie. -/
structure HW (rb : Option Nat) (hp mb : Nat) : Prop where
  sp : ∀ g, rb = some g → hp ≠ g ∧ mb ≠ g
  ne : hp ≠ mb
theorem ownsRow_setCell_ne {w : World} {B size n : Nat} {e : TypeId} {v : Value} {xs : List Value} (h : w.ownsRow B e size v n xs) (a : Addr) (ha : ∀ g, v.ownBlock = some g → a.block ≠ g) (u : Value) : (w.setCell a u).ownsRow B e size v n xs :=
  World.ownsRow.kept h (show w.grownBy (w.setCell a u) (some a.block) from ⟨rfl, rfl, rfl, by simp, fun k hk q => Below.heap_setCell _ _ _ _ (fun e => q (by rw [e]))⟩) (Or.inr fun q => ha _ q rfl)
theorem ex_le (ex : Option ByteArray) : ex.toList.length ≤ 1 := by cases ex <;> simp
/-- its order's function. -/
def fnM (most : Bool) : Nat := if most then 16 else 15
/-- a heap: its entries, where each lies, its order, its moves. -/
structure HS (w : World) (B hp mb : Nat) (most : Bool) (v : Value) (ex : Option ByteArray) (f : ByteArray → Option Nat) (L : List Ent) (mv : Int) : Prop where
  c0 : w.cell? ⟨hp, 0, none⟩ = some v
  c1 : w.cell? ⟨hp, 1, none⟩ = some (.map (some mb))
  c2 : w.cell? ⟨hp, 2, none⟩ = some (.func (.func (fnM most)) #[] #[])
  c3 : w.cell? ⟨hp, 3, none⟩ = some (.int .i64 mv)
  z0 : w.frozen? ⟨hp, 0, none⟩ = false
  z3 : w.frozen? ⟨hp, 3, none⟩ = false
  row : w.ownsRow B 30 2 v L.length (encE L)
  mp : ∃ c, MP w mb f c ∧ c ≤ L.length + ex.toList.length
  pl : PL ex f L
  hw : HW v.ownBlock hp mb
  nm : ∀ e ∈ L, e.2.size ≤ 9223372036854775807
  hl : hp < w.heap.size
  exs : ∀ s, ex = some s → (f s).isSome = true
theorem HS.below {w w' : World} {B hp mb : Nat} {most : Bool} {v : Value} {ex : Option ByteArray} {f : ByteArray → Option Nat} {L : List Ent} {mv : Int} (h : HS w B hp mb most v ex f L mv) (hb : Below w.heap.size w w') : HS w' B hp mb most v ex f L mv := by
  obtain ⟨c, hm, hc⟩ := h.mp
  refine ⟨by rw [hb.cell (p := ⟨hp, 0, none⟩) h.hl]; exact h.c0, by rw [hb.cell (p := ⟨hp, 1, none⟩) h.hl]; exact h.c1, by rw [hb.cell (p := ⟨hp, 2, none⟩) h.hl]; exact h.c2, by rw [hb.cell (p := ⟨hp, 3, none⟩) h.hl]; exact h.c3, by rw [hb.frozen (p := ⟨hp, 0, none⟩) h.hl]; exact h.z0, by rw [hb.frozen (p := ⟨hp, 3, none⟩) h.hl]; exact h.z3, ⟨h.row.1, ?_⟩, ⟨c, hm.keep (hb.block mb hm.lt), hc⟩, h.pl, h.hw, h.nm, Nat.lt_of_lt_of_le h.hl hb.size, h.exs⟩
  rcases h.row.2 with h2 | ⟨g, cap, cur, e1, e2, e3, e4⟩
  · exact Or.inl h2
  · exact Or.inr ⟨g, cap, cur, e1, e2, by rw [hb.block g (Array.getElem?_eq_some_iff.1 e3).1]; exact e3, e4⟩
theorem add_lt0 (b o j : Nat) : (⟨b, o, none⟩ : Addr).add j = ⟨b, o + j, none⟩ := by
  cases j with
  | zero => rfl
  | succ j => rfl
theorem HS.at {w : World} {B hp mb g n cap : Nat} {most : Bool} {ex : Option ByteArray} {f : ByteArray → Option Nat} {L : List Ent} {mv : Int} (h : HS w B hp mb most (.slice (some ⟨g, 0, none⟩) n cap) ex f L mv) {i : Nat} (hi : i < L.length) : w.cell? ⟨g, i * 2, none⟩ = some (.int .i64 (atE L i).1) ∧ w.cell? ⟨g, i * 2 + 1, none⟩ = some (.string (atE L i).2) := by
  have hcs := World.ownsRow.cells h.row (g := g) rfl
  obtain ⟨e1, e2⟩ := encE_get L i _ (atE_some hi)
  have k1 := hcs _ _ e1
  have k2 := hcs _ _ e2
  rw [add_lt0, Nat.zero_add] at k1 k2
  exact ⟨k1, k2⟩
theorem HS.len {w : World} {B hp mb g n cap : Nat} {most : Bool} {ex : Option ByteArray} {f : ByteArray → Option Nat} {L : List Ent} {mv : Int} (h : HS w B hp mb most (.slice (some ⟨g, 0, none⟩) n cap) ex f L mv) : n = L.length ∧ L.length ≤ cap ∧ B ≤ g ∧ g < w.heap.size ∧ cap ≤ 9223372036854775807 := by
  have hml : maxLen = 9223372036854775807 := by decide
  rcases h.row.2 with ⟨e, _⟩ | ⟨g', cap', cur, e1, e2, e3, e4, e5, _⟩
  · cases e
  · injection e1 with q1 q2 q3
    injection q1 with q1
    injection q1 with q1
    subst q1 q2 q3
    exact ⟨rfl, e4, e2, (Array.getElem?_eq_some_iff.1 e3).1, by omega⟩
theorem HS.form {w : World} {B hp mb : Nat} {most : Bool} {v : Value} {ex : Option ByteArray} {f : ByteArray → Option Nat} {L : List Ent} {mv : Int} (h : HS w B hp mb most v ex f L mv) : ∃ a cap, v = .slice a L.length cap ∧ (0 < L.length → ∃ g, a = some ⟨g, 0, none⟩) := by
  rcases h.row.2 with ⟨e, e0⟩ | ⟨g, cap, cur, e1, _⟩
  · exact ⟨none, 0, by rw [e, e0], fun q => by omega⟩
  · exact ⟨_, cap, e1, fun _ => ⟨g, rfl⟩⟩
end Go.Proofs.YtboacnpbicedfaaGreatDoor.Hp
