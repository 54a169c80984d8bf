
import Derived.Test.YtdfnomglkibfbaaGreatDoorVfA
namespace Go.Proofs.YtdfnomglkibfbaaGreatDoor.Vf
set_option linter.unusedVariables false
set_option linter.unusedSimpArgs false
/-! ### plain: how high the stack is, the program's way (a map) and the document's (two rows) -/
def meetP (o : Option Int) (v : Int) : Int := match o with
  | none => v
  | some o => if o ≠ v then -1 else o
def bringP (m : Nat → Option Int) (j : Nat) (v : Int) (k : Nat) : Option Int := if k = j then some (meetP (m j) v) else m k
def dropP (m : Nat → Option Int) (j k : Nat) : Option Int := if k = j then none else m k
def bhd (h : Int) (c : Nat) : Int := h - ((rowF c).tk : Int) + ((rowF c).pt : Int)
def nextP (m : Nat → Option Int) (k : Nat) (i : InP) (v : Int) : Nat → Option Int := if (rowF i.c).a = 9 then bringP (bringP (dropP m k) (k + 1) v) i.a.toNat v else bringP (dropP m k) (k + 1) v
def errP (h : Int) (c : Nat) : Prop := h < ((rowF c).tk : Int) ∨ 200 < bhd h c ∨ ((rowF c).en = true ∧ 0 < bhd h c)
instance (h : Int) (c : Nat) : Decidable (errP h c) := by unfold errP; exact inferInstance
def hgtP : List InP → Nat → (Nat → Option Int) → List Int → List Int × Option Nat
  | [], _, _, hs => (hs, none)
  | i :: r, k, m, hs => if errP ((m k).getD 0) i.c then (hs, some k) else hgtP r (k + 1) (nextP m k i (bhd ((m k).getD 0) i.c)) (hs ++ [(m k).getD 0])
abbrev StD := (Nat → Int) × (Nat → Bool)
def bringD (s : StD) (j : Nat) (v : Int) : StD := (fun k => if k = j then v else s.1 k, fun k => if k = j then (s.2 j || (decide (0 ≤ s.1 j) && decide (s.1 j ≠ v))) else s.2 k)
def nextD (s : StD) (k : Nat) (i : InP) (v : Int) : StD := if (rowF i.c).en = true then s else if (rowF i.c).a = 9 then bringD (bringD s (k + 1) v) i.a.toNat v else bringD s (k + 1) v
def errD (s : StD) (k c : Nat) : Prop := s.2 k = true ∨ s.1 k < ((rowF c).tk : Int) ∨ 200 < bhd (s.1 k) c ∨ ((rowF c).en = true ∧ bhd (s.1 k) c ≠ 0)
instance (s : StD) (k c : Nat) : Decidable (errD s k c) := by unfold errD; exact inferInstance
def hgtD : List InP → Nat → StD → StD × Option Nat
  | [], _, s => (s, none)
  | i :: r, k, s => if errD s k i.c then (s, some k) else hgtD r (k + 1) (nextD s k i (bhd (s.1 k) i.c))
/-- what both hold of a place. -/
def At (o : Option Int) (h : Int) (p : Bool) : Prop := (o = none ∧ h = -1 ∧ p = false) ∨ (∃ v, 0 ≤ v ∧ o = some v ∧ h = v ∧ p = false) ∨ (o = some (-1) ∧ p = true ∧ 0 ≤ h)
theorem At.bring {o : Option Int} {h v : Int} {p : Bool} (a : At o h p) (hv : 0 ≤ v) : At (some (meetP o v)) v (p || (decide (0 ≤ h) && decide (h ≠ v))) := by
  rcases a with ⟨rfl, rfl, rfl⟩ | ⟨u, hu, rfl, rfl, rfl⟩ | ⟨rfl, rfl, hh⟩
  · exact Or.inr (Or.inl ⟨v, hv, rfl, rfl, by simp⟩)
  · by_cases c : h = v
    · subst c
      exact Or.inr (Or.inl ⟨h, hu, by simp [meetP], rfl, by simp⟩)
    · refine Or.inr (Or.inr ⟨?_, ?_, hv⟩)
      · simp [meetP, c]
      · simp [c, hu]
  · refine Or.inr (Or.inr ⟨?_, by simp, hv⟩)
    have : (-1 : Int) ≠ v := by omega
    simp [meetP, this]
def Rel (m : Nat → Option Int) (s : StD) (k : Nat) : Prop := ∀ j, k ≤ j → At (m j) (s.1 j) (s.2 j)
theorem Rel.bring {m : Nat → Option Int} {s : StD} {k j : Nat} {v : Int} (h : Rel m s k) (hv : 0 ≤ v) (hj : k ≤ j) : Rel (bringP m j v) (bringD s j v) k := fun q hq => by
  unfold bringP bringD
  by_cases c : q = j
  · subst c
    simp only [if_true]
    exact (h q hq).bring hv
  · simp only [if_neg c]
    exact h q hq
theorem Rel.drop {m : Nat → Option Int} {s : StD} {k : Nat} (h : Rel m s k) : Rel (dropP m k) s (k + 1) := fun q hq => by
  unfold dropP
  rw [if_neg (by omega)]
  exact h q (by omega)
/-- code that is formed, from a place on. -/
def FmL : List InP → Nat → Prop
  | [], _ => True
  | i :: r, k => ((rowF i.c).a = 9 → (k : Int) < i.a) ∧ ((rowF i.c).en = true → r = []) ∧ FmL r (k + 1)
theorem bring_some (m : Nat → Option Int) (j : Nat) (v : Int) : (bringP m j v j).isSome = true := by unfold bringP; simp
theorem bring_keep {m : Nat → Option Int} {j q : Nat} {v : Int} (h : (m q).isSome = true) : (bringP m j v q).isSome = true := by
  unfold bringP
  split
  · rfl
  · exact h
theorem next_some (m : Nat → Option Int) (k : Nat) (i : InP) (v : Int) : (nextP m k i v (k + 1)).isSome = true := by
  unfold nextP
  split
  · exact bring_keep (bring_some _ _ _)
  · exact bring_some _ _ _
/-- both find the same. -/
theorem hgt_same : ∀ (l : List InP) (k : Nat) (m : Nat → Option Int) (s : StD) (hs : List Int), Rel m s k → ((m k).isSome = true ∨ l = []) → FmL l k → (hgtP l k m hs).2 = (hgtD l k s).2
  | [], k, m, s, hs, _, _, _ => rfl
  | i :: r, k, m, s, hs, hr, hp, hf => by
    have hp' : (m k).isSome = true := hp.resolve_right (by simp)
    obtain ⟨f1, f2, f3⟩ := hf
    have key : errP ((m k).getD 0) i.c ↔ errD s k i.c := by
      rcases hr k (Nat.le_refl _) with ⟨e, _⟩ | ⟨v, hv, e, e1, e2⟩ | ⟨e, e1, e2⟩
      · rw [e] at hp'; cases hp'
      · rw [e]
        unfold errP errD
        rw [e1, e2]
        simp only [Option.getD_some]
        constructor
        · rintro (q | q | ⟨q1, q2⟩)
          · exact Or.inr (Or.inl q)
          · exact Or.inr (Or.inr (Or.inl q))
          · exact Or.inr (Or.inr (Or.inr ⟨q1, by omega⟩))
        · rintro (q | q | q | ⟨q1, q2⟩)
          · cases q
          · exact Or.inl q
          · exact Or.inr (Or.inl q)
          · by_cases c : v < ((rowF i.c).tk : Int)
            · exact Or.inl c
            · refine Or.inr (Or.inr ⟨q1, ?_⟩)
              unfold bhd at *
              omega
      · rw [e]
        unfold errP errD
        rw [e1]
        simp only [Option.getD_some]
        exact ⟨fun _ => Or.inl trivial, fun _ => Or.inl (by omega)⟩
    unfold hgtP hgtD
    by_cases c : errP ((m k).getD 0) i.c
    · rw [if_pos c, if_pos (key.1 c)]
    · have c' : ¬ errD s k i.c := fun q => c (key.2 q)
      rw [if_neg c, if_neg c']
      have eh : (m k).getD 0 = s.1 k := by
        rcases hr k (Nat.le_refl _) with ⟨e, _⟩ | ⟨v, hv, e, e1, e2⟩ | ⟨e, e1, e2⟩
        · rw [e] at hp'; cases hp'
        · rw [e, e1]; rfl
        · exact absurd (Or.inl e1 : errD s k i.c) c'
      rw [eh]
      have hb : 0 ≤ bhd (s.1 k) i.c := by
        have : ¬ s.1 k < ((rowF i.c).tk : Int) := fun q => c' (Or.inr (Or.inl q))
        unfold bhd; omega
      by_cases en : (rowF i.c).en = true
      · have := f2 en
        subst this
        rfl
      · refine hgt_same r (k + 1) _ _ _ ?_ (Or.inl (next_some _ _ _ _)) f3
        unfold nextP nextD
        rw [if_neg en]
        by_cases a9 : (rowF i.c).a = 9
        · rw [if_pos a9, if_pos a9]
          have := f1 a9
          exact (hr.drop.bring hb (Nat.le_refl _)).bring hb (by omega)
        · rw [if_neg a9, if_neg a9]
          exact hr.drop.bring hb (Nat.le_refl _)
/-- what the document has ahead of a place stays. -/
theorem hgtD_keep : ∀ (l : List InP) (k : Nat) (s : StD), FmL l k → ∀ j, j < k + 1 → (hgtD l k s).1.1 j = s.1 j ∨ (j = k ∧ l = []) ∨ (hgtD l k s).1.1 j = s.1 j
  | [], k, s, _, j, hj => Or.inl rfl
  | i :: r, k, s, hf, j, hj => by
    obtain ⟨f1, f2, f3⟩ := hf
    unfold hgtD
    by_cases c : errD s k i.c
    · rw [if_pos c]; exact Or.inl rfl
    · rw [if_neg c]
      have h := hgtD_keep r (k + 1) (nextD s k i (bhd (s.1 k) i.c)) f3 j (by omega)
      have e : (nextD s k i (bhd (s.1 k) i.c)).1 j = s.1 j := by
        unfold nextD
        split
        · rfl
        · split
          · rename_i a9
            have := f1 a9
            unfold bringD
            simp only
            rw [if_neg (by omega), if_neg (by omega)]
          · unfold bringD
            simp only
            rw [if_neg (by omega)]
      rcases h with h | h | h
      · exact Or.inl (h.trans e)
      · omega
      · exact Or.inl (h.trans e)
end Go.Proofs.YtdfnomglkibfbaaGreatDoor.Vf
