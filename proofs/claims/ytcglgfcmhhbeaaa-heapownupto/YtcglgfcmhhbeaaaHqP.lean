
import Derived.Test.YtcglgfcmhhbeaaaHpP
namespace Go.Proofs.Ytcglgfcmhhbeaaa.Hp
open Go.RowKit
set_option linter.unusedVariables false
set_option linter.unusedSimpArgs false
/-! ### where a name is, and what a change leaves, plain -/
def fndTo (L : List Ent) (s : ByteArray) : Nat → Option Nat
  | 0 => none
  | n + 1 => if (atE L n).2 = s then some n else fndTo L s n
def fnd (L : List Ent) (s : ByteArray) : Option Nat := fndTo L s L.length
theorem fndTo_none {L : List Ent} {s : ByteArray} : ∀ {n : Nat}, fndTo L s n = none ↔ ∀ i, i < n → (atE L i).2 ≠ s
  | 0 => ⟨fun _ i h => by omega, fun _ => rfl⟩
  | n + 1 => by
    unfold fndTo
    by_cases c : (atE L n).2 = s
    · rw [if_pos c]; exact ⟨fun h => (by cases h), fun h => absurd c (h n (by omega))⟩
    · rw [if_neg c, fndTo_none]
      exact ⟨fun h i hi => by
        by_cases q : i = n
        · rw [q]; exact c
        · exact h i (by omega), fun h i hi => h i (by omega)⟩
theorem fndTo_some {L : List Ent} {s : ByteArray} : ∀ {n i : Nat}, fndTo L s n = some i → i < n ∧ (atE L i).2 = s
  | 0, i, h => by cases h
  | n + 1, i, h => by
    unfold fndTo at h
    by_cases c : (atE L n).2 = s
    · rw [if_pos c] at h; injection h with h; subst h; exact ⟨by omega, c⟩
    · rw [if_neg c] at h; have := fndTo_some h; exact ⟨by omega, this.2⟩
theorem fnd_none {L : List Ent} {s : ByteArray} : fnd L s = none ↔ ∀ e ∈ L, e.2 ≠ s := by
  unfold fnd
  rw [fndTo_none]
  constructor
  · intro h e he
    obtain ⟨k, hk⟩ := List.getElem?_of_mem he
    have := h k (List.getElem?_eq_some_iff.1 hk).1
    rw [atE_get hk] at this
    exact this
  · intro h i hi
    exact h _ (List.mem_of_getElem? (atE_some hi))
theorem fnd_some {L : List Ent} {s : ByteArray} {i : Nat} (h : fnd L s = some i) : i < L.length ∧ (atE L i).2 = s := fndTo_some h
theorem PL.fnd {f : ByteArray → Option Nat} {L : List Ent} (h : PL none f L) (s : ByteArray) : f s = fnd L s := by
  cases q : Hp.fnd L s with
  | none =>
    cases p : f s with
    | none => rfl
    | some i =>
      obtain ⟨h1, h2⟩ := h.lt (by simp) p
      exact absurd h2 (fnd_none.1 q _ (List.mem_of_getElem? (atE_some h1)))
  | some i =>
    obtain ⟨h1, h2⟩ := fnd_some q
    rw [← h2]
    exact h.at h1
/-- no two have one name. -/
def ND (L : List Ent) : Prop := ∀ i j, i < L.length → j < L.length → (atE L i).2 = (atE L j).2 → i = j
theorem PL.nd {f : ByteArray → Option Nat} {L : List Ent} (h : PL none f L) : ND L := fun i j hi hj e => h.inj hi hj e
theorem ND.uniq {L : List Ent} (h : ND L) {a b : Ent} (ha : a ∈ L) (hb : b ∈ L) (e : a.2 = b.2) : a = b := by
  obtain ⟨i, hi⟩ := List.getElem?_of_mem ha
  obtain ⟨j, hj⟩ := List.getElem?_of_mem hb
  have li := (List.getElem?_eq_some_iff.1 hi).1
  have lj := (List.getElem?_eq_some_iff.1 hj).1
  have := h i j li lj (by rw [atE_get hi, atE_get hj]; exact e)
  rw [← atE_get hi, ← atE_get hj, this]
def cutA (l : List Ent) (i : Nat) : List Ent := l.take i ++ l.drop (i + 1)
theorem cutA_perm {l : List Ent} {i : Nat} (hi : i < l.length) : l.Perm (atE l i :: cutA l i) := by
  have e : l = l.take i ++ atE l i :: l.drop (i + 1) := by
    conv => lhs; rw [← List.take_append_drop i l]
    rw [List.drop_eq_getElem_cons hi]
    congr 2
    have := atE_some hi
    rw [List.getElem?_eq_getElem hi] at this
    injection this
  unfold cutA
  conv => lhs; rw [e]
  exact List.perm_middle
theorem setA_perm {l : List Ent} {i : Nat} (hi : i < l.length) (y : Ent) : (l.set i y).Perm (y :: cutA l i) := by
  rw [List.set_eq_take_append_cons_drop, if_pos hi]
  exact List.perm_middle
/-- the last one over the one that goes. -/
def goneL (L : List Ent) (i : Nat) : List Ent := if i = L.length - 1 then L.dropLast else L.dropLast.set i (atE L (L.length - 1))
theorem snoc_form {L : List Ent} (h : 0 < L.length) : ∃ M x, L = M ++ [x] := by
  rcases List.eq_nil_or_concat L with e | ⟨M, x, e⟩
  · rw [e] at h; simp at h
  · exact ⟨M, x, by rw [e]; simp⟩
theorem atE_snoc (M : List Ent) (x : Ent) : atE (M ++ [x]) M.length = x := atE_get (by simp)
theorem goneL_last (M : List Ent) (x : Ent) : goneL (M ++ [x]) M.length = M := by
  unfold goneL
  rw [if_pos (by simp), List.dropLast_concat]
theorem goneL_over {M : List Ent} {x : Ent} {i : Nat} (h : i < M.length) : goneL (M ++ [x]) i = M.set i x := by
  unfold goneL
  have : (M ++ [x]).length - 1 = M.length := by simp
  rw [this, if_neg (by omega), List.dropLast_concat, atE_snoc]
theorem goneL_perm {L : List Ent} {i : Nat} (hi : i < L.length) : L.Perm (atE L i :: goneL L i) := by
  obtain ⟨M, x, rfl⟩ := snoc_form (L := L) (by omega)
  have ll : (M ++ [x]).length = M.length + 1 := by simp
  by_cases c : i = M.length
  · subst c
    rw [goneL_last, atE_snoc]
    exact List.perm_append_singleton x M
  · have hi2 : i < M.length := by omega
    rw [goneL_over hi2, atE_app hi2]
    have h1 := (cutA_perm hi2).append_right [x]
    have h2 := setA_perm hi2 x
    refine h1.trans ?_
    refine (List.Perm.trans ?_ (h2.symm.cons _))
    exact (List.perm_append_singleton x (atE M i :: cutA M i)).trans (List.Perm.swap _ _ _)
def putL (most : Bool) (L : List Ent) (x : Ent) : List Ent := match fnd L x.2 with
  | some _ => L
  | none => (upL (ahd most) (L ++ [x]) L.length).1
def takL (most : Bool) (L : List Ent) (s : ByteArray) : List Ent := match fnd L s with
  | none => L
  | some i => if i = L.length - 1 then goneL L i else (mendL (ahd most) (goneL L i) i).1
def turL (most : Bool) (L : List Ent) (s : ByteArray) (r : Int) : List Ent := match fnd L s with
  | none => L
  | some i => (mendL (ahd most) (L.set i (r, s)) i).1
theorem goneL_len (L : List Ent) (i : Nat) : (goneL L i).length = L.length - 1 := by unfold goneL; split <;> simp
theorem takL_some {most : Bool} {L : List Ent} {s : ByteArray} {i : Nat} (h : fnd L s = some i) : L.Perm (atE L i :: takL most L s) := by
  obtain ⟨hi, _⟩ := fnd_some h
  unfold takL
  rw [h]
  simp only
  refine (goneL_perm hi).trans (List.Perm.cons _ ?_)
  split
  · exact List.Perm.refl _
  · rename_i c
    exact (mendL_perm _ _ _ (by rw [goneL_len]; omega)).symm
theorem takL_none {most : Bool} {L : List Ent} {s : ByteArray} (h : fnd L s = none) : takL most L s = L := by unfold takL; rw [h]
theorem putL_none {most : Bool} {L : List Ent} {x : Ent} (h : fnd L x.2 = none) : (putL most L x).Perm (L ++ [x]) := by
  unfold putL
  rw [h]
  exact upL_perm _ L.length _ _ (Nat.le_refl _) (by simp)
theorem putL_some {most : Bool} {L : List Ent} {x : Ent} {i : Nat} (h : fnd L x.2 = some i) : putL most L x = L := by unfold putL; rw [h]
theorem turL_some {most : Bool} {L : List Ent} {s : ByteArray} {r : Int} {i : Nat} (h : fnd L s = some i) : (turL most L s r).Perm ((r, s) :: cutA L i) := by
  obtain ⟨hi, _⟩ := fnd_some h
  unfold turL
  rw [h]
  exact (mendL_perm _ _ _ (by simpa using hi)).trans (setA_perm hi _)
theorem turL_none {most : Bool} {L : List Ent} {s : ByteArray} {r : Int} (h : fnd L s = none) : turL most L s r = L := by unfold turL; rw [h]
theorem putL_ho {most : Bool} {L : List Ent} {x : Ent} (h : HO (ahd most) L) : HO (ahd most) (putL most L x) := by
  unfold putL
  split
  · exact h
  · exact pushL_ho (ahd_swo most) L x h
theorem HO.drop {ah : Ent → Ent → Bool} {L : List Ent} (h : HO ah L) : HO ah L.dropLast := by
  rcases List.eq_nil_or_concat L with e | ⟨M, x, e⟩
  · rw [e]; intro j _ hj; simp at hj
  · subst e
    rw [List.concat_eq_append] at h ⊢
    rw [List.dropLast_concat]
    exact h.pre
theorem takL_ho {most : Bool} {L : List Ent} {s : ByteArray} (h : HO (ahd most) L) : HO (ahd most) (takL most L s) := by
  unfold takL
  split
  · exact h
  · rename_i i q
    obtain ⟨hi, _⟩ := fnd_some q
    unfold goneL
    split
    · exact h.drop
    · exact mendL_ho (ahd_swo most) _ i _ (by simp; omega) h.drop
theorem turL_ho {most : Bool} {L : List Ent} {s : ByteArray} {r : Int} (h : HO (ahd most) L) : HO (ahd most) (turL most L s r) := by
  unfold turL
  split
  · exact h
  · rename_i i q
    exact mendL_ho (ahd_swo most) L i _ (fnd_some q).1 h
theorem putL_len (most : Bool) (L : List Ent) (x : Ent) : (putL most L x).length ≤ L.length + 1 := by
  cases h : fnd L x.2 with
  | none => rw [(putL_none h).length_eq]; simp
  | some i => rw [putL_some h]; omega
theorem takL_len (most : Bool) (L : List Ent) (s : ByteArray) : (takL most L s).length ≤ L.length := by
  cases h : fnd L s with
  | none => rw [takL_none h]; exact Nat.le_refl _
  | some i => have := (takL_some (most := most) h).length_eq; simp at this; omega
theorem turL_len (most : Bool) (L : List Ent) (s : ByteArray) (r : Int) : (turL most L s r).length = L.length := by
  cases h : fnd L s with
  | none => rw [turL_none h]
  | some i =>
    rw [(turL_some h).length_eq]
    obtain ⟨hi, _⟩ := fnd_some h
    have := (cutA_perm hi).length_eq
    simp at this ⊢
    exact this.symm
/-- what is in by what was done, by definition. -/
def stepD (k : Int) (e : Ent) (l : List Ent) : List Ent := match fnd l e.2 with
  | none => if k = 0 then l ++ [e] else l
  | some i => if k = 1 then cutA l i else if k = 2 then l.set i (e.1, (atE l i).2) else l
theorem fnd_perm {L l : List Ent} (hp : L.Perm l) (s : ByteArray) (h : fnd L s = none) : fnd l s = none := by
  rw [fnd_none] at h ⊢
  exact fun e he => h e (hp.symm.subset he)
theorem fnd_at {L l : List Ent} (hp : L.Perm l) (nd : ND L) {s : ByteArray} {i : Nat} (h : fnd L s = some i) : ∃ j, fnd l s = some j ∧ atE l j = atE L i := by
  cases q : fnd l s with
  | none => rw [fnd_perm hp.symm s q] at h; cases h
  | some j =>
    obtain ⟨h1, h2⟩ := fnd_some h
    obtain ⟨h3, h4⟩ := fnd_some q
    exact ⟨j, rfl, nd.uniq (hp.symm.subset (List.mem_of_getElem? (atE_some h3))) (List.mem_of_getElem? (atE_some h1)) (by rw [h2, h4])⟩
theorem cut_perm {L l M : List Ent} (hp : L.Perm l) (nd : ND L) {s : ByteArray} {i j : Nat} (h : fnd L s = some i) (hj : fnd l s = some j) (e : atE l j = atE L i) (hM : L.Perm (atE L i :: M)) : M.Perm (cutA l j) := by
  have h1 := hM.symm.trans (hp.trans (cutA_perm (fnd_some hj).1))
  rw [e] at h1
  exact h1.cons_inv
theorem step_put {most : Bool} {L l : List Ent} (hp : L.Perm l) (nd : ND L) (e : Ent) : (putL most L e).Perm (stepD 0 e l) := by
  unfold stepD
  cases h : fnd L e.2 with
  | none => rw [fnd_perm hp _ h]; simp only [if_true]; exact (putL_none h).trans (hp.append_right _)
  | some i =>
    obtain ⟨j, h1, _⟩ := fnd_at hp nd h
    rw [h1, putL_some h]
    simpa using hp
theorem step_tak {most : Bool} {L l : List Ent} (hp : L.Perm l) (nd : ND L) (e : Ent) : (takL most L e.2).Perm (stepD 1 e l) := by
  unfold stepD
  cases h : fnd L e.2 with
  | none => rw [fnd_perm hp _ h, takL_none h]; simpa using hp
  | some i =>
    obtain ⟨j, h1, h2⟩ := fnd_at hp nd h
    rw [h1]
    simp only [if_true]
    exact cut_perm hp nd h h1 h2 (takL_some h)
theorem step_tur {most : Bool} {L l : List Ent} (hp : L.Perm l) (nd : ND L) (e : Ent) : (turL most L e.2 e.1).Perm (stepD 2 e l) := by
  unfold stepD
  cases h : fnd L e.2 with
  | none => rw [fnd_perm hp _ h, turL_none h]; simpa using hp
  | some i =>
    obtain ⟨j, h1, h2⟩ := fnd_at hp nd h
    rw [h1]
    have hn := (fnd_some h1).2
    have hc := cut_perm hp nd h h1 h2 (cutA_perm (fnd_some h).1)
    simp only [hn, if_neg (by decide : ¬ (2 : Int) = 1), if_true]
    exact (turL_some h).trans ((hc.cons _).trans (setA_perm (fnd_some h1).1 _).symm)
theorem step_not {k : Int} {e : Ent} {l : List Ent} (h0 : k ≠ 0) (h1 : k ≠ 1) (h2 : k ≠ 2) : stepD k e l = l := by
  unfold stepD
  split
  · rw [if_neg h0]
  · rw [if_neg h1, if_neg h2]
end Go.Proofs.Ytcglgfcmhhbeaaa.Hp
