
import Derived.Lib.Bytealg
import Derived.WalkLawsBesides
namespace Go.Proofs.YtbojljmacheccaaGreatDoor
open Go.RowKit
set_option linter.unusedVariables false
set_option linter.unusedSimpArgs false
/-- an order told by -1, 0, 1. -/
structure IsCmp {α : Type} (c : α → α → Int) : Prop where
  range : ∀ a b, c a b = -1 ∨ c a b = 0 ∨ c a b = 1
  flip : ∀ a b, c b a = - c a b
  zero : ∀ a b, c a b = 0 ↔ a = b
  trans : ∀ a b d, c a b ≤ 0 → c b d ≤ 0 → c a d ≤ 0
theorem IsCmp.lt {α : Type} {c : α → α → Int} (h : IsCmp c) {a b d : α} (h1 : c a b < 0) (h2 : c b d ≤ 0) : c a d < 0 := by
  have h3 := h.trans a b d (by omega) h2
  rcases h.range a d with e | e | e
  · omega
  · have := (h.zero a d).1 e
    subst this
    have := h.flip a b
    omega
  · omega
/-- one behind the other. -/
def lexC {α : Type} (c : α → α → Int) : List α → List α → Int
  | [], [] => 0
  | [], _ :: _ => -1
  | _ :: _, [] => 1
  | a :: r, b :: s => if c a b = 0 then lexC c r s else c a b
theorem lexC_is {α : Type} {c : α → α → Int} (h : IsCmp c) : IsCmp (lexC c) where
  range := by
    intro a
    induction a with
    | nil => intro b; cases b <;> simp [lexC]
    | cons x r ih =>
      intro b
      cases b with
      | nil => simp [lexC]
      | cons y s =>
        simp only [lexC]
        split
        · exact ih s
        · exact h.range x y
  flip := by
    intro a
    induction a with
    | nil => intro b; cases b <;> simp [lexC]
    | cons x r ih =>
      intro b
      cases b with
      | nil => simp [lexC]
      | cons y s =>
        simp only [lexC]
        have := h.flip x y
        by_cases e : c x y = 0
        · rw [if_pos e, if_pos (by omega)]; exact ih s
        · rw [if_neg e, if_neg (by omega)]; exact this
  zero := by
    intro a
    induction a with
    | nil => intro b; cases b <;> simp [lexC]
    | cons x r ih =>
      intro b
      cases b with
      | nil => simp [lexC]
      | cons y s =>
        simp only [lexC]
        by_cases e : c x y = 0
        · rw [if_pos e, ih s, (h.zero x y).1 e]; simp
        · rw [if_neg e]
          constructor
          · intro k; exact absurd k e
          · intro k
            injection k with k1 k2
            exact (h.zero x y).2 k1
  trans := by
    intro a
    induction a with
    | nil => intro b d; cases d <;> simp [lexC]
    | cons x r ih =>
      intro b d
      cases b with
      | nil => simp [lexC]
      | cons y s =>
        cases d with
        | nil => simp [lexC]
        | cons z t =>
          simp only [lexC]
          intro h1 h2
          by_cases e1 : c x y = 0
          · have := (h.zero x y).1 e1
            subst this
            rw [if_pos e1] at h1
            by_cases e2 : c x z = 0
            · rw [if_pos e2] at h2 ⊢; exact ih s t h1 h2
            · rw [if_neg e2] at h2 ⊢; exact h2
          · rw [if_neg e1] at h1
            by_cases e2 : c y z = 0
            · have := (h.zero y z).1 e2
              subst this
              rw [if_neg e1]; exact h1
            · rw [if_neg e2] at h2
              have := h.trans x y z h1 h2
              by_cases e3 : c x z = 0
              · have := h.lt (a := x) (b := y) (d := z) (by omega) h2
                omega
              · rw [if_neg e3]; exact this
/-- the first one first. -/
def pairC {α β : Type} (c : α → α → Int) (d : β → β → Int) (a b : α × β) : Int := if c a.1 b.1 = 0 then d a.2 b.2 else c a.1 b.1
theorem pairC_is {α β : Type} {c : α → α → Int} {d : β → β → Int} (h : IsCmp c) (k : IsCmp d) : IsCmp (pairC c d) where
  range := by
    intro a b
    unfold pairC
    split
    · exact k.range _ _
    · exact h.range _ _
  flip := by
    intro a b
    unfold pairC
    have := h.flip a.1 b.1
    by_cases e : c a.1 b.1 = 0
    · rw [if_pos e, if_pos (by omega)]; exact k.flip _ _
    · rw [if_neg e, if_neg (by omega)]; exact this
  zero := by
    rintro ⟨a1, a2⟩ ⟨b1, b2⟩
    unfold pairC
    simp only
    by_cases e : c a1 b1 = 0
    · rw [if_pos e, k.zero, (h.zero _ _).1 e]; simp
    · rw [if_neg e]
      constructor
      · intro q; exact absurd q e
      · intro q
        injection q with q1 q2
        exact (h.zero _ _).2 q1
  trans := by
    rintro ⟨a1, a2⟩ ⟨b1, b2⟩ ⟨d1, d2⟩
    unfold pairC
    simp only
    intro h1 h2
    by_cases e1 : c a1 b1 = 0
    · have := (h.zero _ _).1 e1
      subst this
      rw [if_pos e1] at h1
      by_cases e2 : c a1 d1 = 0
      · rw [if_pos e2] at h2 ⊢; exact k.trans _ _ _ h1 h2
      · rw [if_neg e2] at h2 ⊢; exact h2
    · rw [if_neg e1] at h1
      by_cases e2 : c b1 d1 = 0
      · have := (h.zero _ _).1 e2
        subst this
        rw [if_neg e1]; exact h1
      · rw [if_neg e2] at h2
        have := h.trans _ _ _ h1 h2
        by_cases e3 : c a1 d1 = 0
        · have := h.lt (a := a1) (b := b1) (d := d1) (by omega) h2
          omega
        · rw [if_neg e3]; exact this
def u8C (a b : UInt8) : Int := if a < b then -1 else if b < a then 1 else 0
theorem u8C_is : IsCmp u8C where
  range := by intro a b; unfold u8C; split <;> (try split) <;> simp
  flip := by
    intro a b
    unfold u8C
    simp only [UInt8.lt_iff_toNat_lt]
    split <;> split <;> (try split) <;> (try omega)
  zero := by
    intro a b
    unfold u8C
    rw [← UInt8.toNat_inj]
    simp only [UInt8.lt_iff_toNat_lt]
    split <;> (try split) <;> (try omega)
  trans := by
    intro a b d
    unfold u8C
    simp only [UInt8.lt_iff_toNat_lt]
    split <;> (try split) <;> (first | omega | skip) <;> (try split) <;> (try split) <;> (try split) <;> (try split) <;> (try omega)
theorem cmpB_lex : ∀ a b : List UInt8, Lib.compareBytes a b = lexC u8C a b
  | [], [] => rfl
  | [], _ :: _ => rfl
  | _ :: _, [] => rfl
  | a :: r, b :: s => by
    have e : lexC u8C (a :: r) (b :: s) = if u8C a b = 0 then lexC u8C r s else u8C a b := rfl
    rw [e]
    unfold Lib.compareBytes
    rw [cmpB_lex r s]
    generalize lexC u8C r s = q
    unfold u8C
    by_cases h1 : a < b
    · simp [h1]
    · by_cases h2 : b < a
      · simp [h1, h2]
      · simp [h1, h2]
/-- two texts. -/
def strC (a b : ByteArray) : Int := Lib.compareBytes a.data.toList b.data.toList
theorem strC_is : IsCmp strC where
  range := by intro a b; unfold strC; rw [cmpB_lex]; exact (lexC_is u8C_is).range _ _
  flip := by intro a b; unfold strC; rw [cmpB_lex, cmpB_lex]; exact (lexC_is u8C_is).flip _ _
  zero := by
    intro a b
    unfold strC
    rw [cmpB_lex, (lexC_is u8C_is).zero]
    constructor
    · intro h
      cases a; cases b
      simp only at h
      congr 1
      exact Array.toList_inj.1 h
    · intro h; rw [h]
  trans := by intro a b d; unfold strC; rw [cmpB_lex, cmpB_lex, cmpB_lex]; exact (lexC_is u8C_is).trans _ _ _
theorem less_lex : ∀ a b : List UInt8, Op.bytesLess a b = decide (lexC u8C a b < 0)
  | [], [] => rfl
  | [], _ :: _ => rfl
  | _ :: _, [] => rfl
  | a :: r, b :: s => by
    have e : lexC u8C (a :: r) (b :: s) = if u8C a b = 0 then lexC u8C r s else u8C a b := rfl
    rw [Op.bytesLess, less_lex r s, e]
    generalize lexC u8C r s = q
    unfold u8C
    by_cases h1 : a < b
    · simp [h1]
    · by_cases h2 : b < a
      · simp [h1, h2]
        intro h; subst h; exact absurd h2 (UInt8.lt_irrefl _)
      · have : a = b := UInt8.le_antisymm (UInt8.not_lt.1 h2) (UInt8.not_lt.1 h1)
        subst this
        simp [h1]
theorem less_str (a b : ByteArray) : Op.bytesLess a.toList b.toList = decide (strC a b < 0) := by
  rw [Lib.toList_data, Lib.toList_data, less_lex]; unfold strC; rw [cmpB_lex]
theorem same_str (a b : ByteArray) : (a.toList == b.toList) = decide (strC a b = 0) := by
  rw [Lib.toList_data, Lib.toList_data]
  by_cases h : a = b
  · subst h; simp [(strC_is.zero a a).2 rfl]
  · have h1 : ¬ strC a b = 0 := fun e => h ((strC_is.zero a b).1 e)
    have h2 : ¬ a.data.toList = b.data.toList := by
      intro e
      apply h
      cases a; cases b
      simp only at e
      congr 1
      exact Array.toList_inj.1 e
    rw [beq_eq_false_iff_ne.2 h2, decide_eq_false h1]
abbrev TagP := ByteArray × ByteArray
def tagC : TagP → TagP → Int := pairC strC strC
def tagsC : List TagP → List TagP → Int := lexC tagC
theorem tagsC_is : IsCmp tagsC := lexC_is (pairC_is strC_is strC_is)
/-- a series: its measure, its tags, its field. -/
structure SerP where
  m : ByteArray
  t : List TagP
  f : ByteArray
def serC (a b : SerP) : Int := pairC strC (pairC tagsC strC) (a.m, a.t, a.f) (b.m, b.t, b.f)
theorem serC_is : IsCmp serC where
  range := by intro a b; exact (pairC_is strC_is (pairC_is tagsC_is strC_is)).range _ _
  flip := by intro a b; exact (pairC_is strC_is (pairC_is tagsC_is strC_is)).flip _ _
  zero := by
    intro a b
    unfold serC
    rw [(pairC_is strC_is (pairC_is tagsC_is strC_is)).zero]
    cases a; cases b; simp
  trans := by intro a b d; exact (pairC_is strC_is (pairC_is tagsC_is strC_is)).trans _ _ _
end Go.Proofs.YtbojljmacheccaaGreatDoor
