
import Derived.Test.YticgapplpfaigaaGreatSrY
namespace Go.Proofs.YticgapplpfaigaaGreat
open Go.RowKit
set_option linter.unusedVariables false
set_option linter.unusedSimpArgs false
/-- the last value of a time. -/
def valOf (L : List Smp) (t : Int) : Option (Nat × Int) := (L.reverse.find? (fun s => decide (s.t = t))).map (fun s => (s.k, s.x))
theorem valOf_snoc (L : List Smp) (s : Smp) (t : Int) : valOf (L ++ [s]) t = if s.t = t then some (s.k, s.x) else valOf L t := by
  unfold valOf
  rw [List.reverse_append, List.reverse_singleton, List.singleton_append, List.find?_cons]
  by_cases h : s.t = t
  · simp [h]
  · simp [h]
theorem valOf_some {L : List Smp} {t : Int} : (valOf L t).isSome = L.any (fun s => decide (s.t = t)) := by
  unfold valOf
  rw [Option.isSome_map, Bool.eq_iff_iff, List.find?_isSome, List.any_eq_true]
  simp
/-- the times alone count for where one stands. -/
theorem ahd_times (l : List Smp) (t : Int) : ahd l t = (l.map Smp.t).countP (fun x => decide (x < t)) := by
  unfold ahd; rw [List.countP_map]; rfl
theorem hasT_times (l : List Smp) (t : Int) : hasT l t = (l.map Smp.t).any (fun x => decide (x = t)) := by
  unfold hasT; rw [List.any_map]; rfl
/-- a value laid at a time where there is one. -/
def chg (nv : Int → Nat × Int) (l : List Smp) (t : Int) : List Smp := if hasT l t = true then l.set (ahd l t) ⟨t, (nv t).1, (nv t).2⟩ else l
theorem chg_times (nv : Int → Nat × Int) {l : List Smp} (h : Rise l) (t : Int) : (chg nv l t).map Smp.t = l.map Smp.t := by
  unfold chg
  split
  · rename_i hh
    obtain ⟨y, hy, ht⟩ := (hasT_iff h t).1 hh
    rw [List.map_set]
    refine List.ext_getElem? fun i => ?_
    rw [List.getElem?_set]
    split
    · rename_i e
      subst e
      rw [List.getElem?_map, hy]
      have hlt := (List.getElem?_eq_some_iff.1 hy).1
      simp [hlt, ht]
    · rfl
  · rfl
theorem chg_rise (nv : Int → Nat × Int) {l : List Smp} (h : Rise l) (t : Int) : Rise (chg nv l t) := by
  unfold chg
  split
  · rename_i hh
    obtain ⟨y, hy, ht⟩ := (hasT_iff h t).1 hh
    have := h.set hy (nv t).1 (nv t).2
    rw [ht] at this; exact this
  · exact h
theorem chg_mem (nv : Int → Nat × Int) {l : List Smp} (h : Rise l) (t : Int) (x : Smp) : x ∈ chg nv l t ↔ (x ∈ l ∧ x.t ≠ t) ∨ (hasT l t = true ∧ x = ⟨t, (nv t).1, (nv t).2⟩) := by
  unfold chg
  split
  · rename_i hh
    have := putL_mem h ⟨t, (nv t).1, (nv t).2⟩ x
    unfold putL at this
    rw [if_pos hh] at this
    rw [this]
    constructor
    · rintro (e | e)
      · exact Or.inr ⟨hh, e⟩
      · exact Or.inl e
    · rintro (e | ⟨_, e⟩)
      · exact Or.inr e
      · exact Or.inl e
  · rename_i hh
    have hf : hasT l t = false := by simpa using hh
    constructor
    · intro hx; exact Or.inl ⟨hx, hasT_false hf x hx⟩
    · rintro (e | ⟨e, _⟩)
      · exact e.1
      · rw [hf] at e; cases e
def chgL (nv : Int → Nat × Int) (l : List Smp) (K : List Int) : List Smp := K.foldl (chg nv) l
theorem chgL_snoc (nv : Int → Nat × Int) (l : List Smp) (K : List Int) (t : Int) : chgL nv l (K ++ [t]) = chg nv (chgL nv l K) t := by unfold chgL; rw [List.foldl_append]; rfl
theorem chgL_rise (nv : Int → Nat × Int) {l : List Smp} (h : Rise l) (K : List Int) : Rise (chgL nv l K) := by
  induction K generalizing l with
  | nil => exact h
  | cons t K ih => exact ih (chg_rise nv h t)
theorem chgL_times (nv : Int → Nat × Int) {l : List Smp} (h : Rise l) (K : List Int) : (chgL nv l K).map Smp.t = l.map Smp.t := by
  induction K generalizing l with
  | nil => rfl
  | cons t K ih => exact (ih (chg_rise nv h t)).trans (chg_times nv h t)
theorem chgL_len (nv : Int → Nat × Int) {l : List Smp} (h : Rise l) (K : List Int) : (chgL nv l K).length = l.length := by
  have := congrArg List.length (chgL_times nv h K); simpa using this
theorem chgL_ahd (nv : Int → Nat × Int) {l : List Smp} (h : Rise l) (K : List Int) (t : Int) : ahd (chgL nv l K) t = ahd l t := by rw [ahd_times, ahd_times, chgL_times nv h]
theorem chgL_has (nv : Int → Nat × Int) {l : List Smp} (h : Rise l) (K : List Int) (t : Int) : hasT (chgL nv l K) t = hasT l t := by rw [hasT_times, hasT_times, chgL_times nv h]
theorem chgL_mem (nv : Int → Nat × Int) {l : List Smp} (h : Rise l) (K : List Int) (x : Smp) : x ∈ chgL nv l K ↔ (x ∈ l ∧ x.t ∉ K) ∨ (x.t ∈ K ∧ hasT l x.t = true ∧ x = ⟨x.t, (nv x.t).1, (nv x.t).2⟩) := by
  induction K generalizing l with
  | nil => simp [chgL]
  | cons t K ih =>
    show x ∈ chgL nv (chg nv l t) K ↔ _
    rw [ih (chg_rise nv h t), chg_mem nv h]
    have hh : hasT (chg nv l t) x.t = hasT l x.t := by rw [hasT_times, hasT_times, chg_times nv h]
    rw [hh]
    by_cases hxt : x.t = t
    · subst hxt
      constructor
      · rintro (⟨(⟨_, e⟩ | ⟨e1, e2⟩), e3⟩ | ⟨e1, e2, e3⟩)
        · exact absurd rfl e
        · exact Or.inr ⟨by simp, e1, e2⟩
        · exact Or.inr ⟨by simp, e2, e3⟩
      · rintro (⟨_, e⟩ | ⟨_, e2, e3⟩)
        · exact absurd (by simp) e
        · by_cases hK : x.t ∈ K
          · exact Or.inr ⟨hK, e2, e3⟩
          · exact Or.inl ⟨Or.inr ⟨e2, e3⟩, hK⟩
    · constructor
      · rintro (⟨(⟨e1, _⟩ | ⟨_, e2⟩), e3⟩ | ⟨e1, e2, e3⟩)
        · exact Or.inl ⟨e1, by simp [hxt, e3]⟩
        · exact absurd (by rw [e2]) hxt
        · exact Or.inr ⟨by simp [e1], e2, e3⟩
      · rintro (⟨e1, e2⟩ | ⟨e1, e2, e3⟩)
        · simp at e2
          exact Or.inl ⟨Or.inl ⟨e1, hxt⟩, e2.2⟩
        · simp [hxt] at e1
          exact Or.inr ⟨e1, e2, e3⟩
theorem getV_mem {l : List Smp} (h : Rise l) {s : Smp} (hs : s ∈ l) : getV l s.t = (s.k, s.x) := by
  have hh : hasT l s.t = true := hasT_mem.2 ⟨s, hs, rfl⟩
  obtain ⟨y, hy, hyt, hv⟩ := getV_hit h hh
  rw [hv, h.inj (List.mem_of_getElem? hy) hs hyt]
theorem chgL_getV (nv : Int → Nat × Int) {l : List Smp} (h : Rise l) (K : List Int) (t : Int) (ht : t ∉ K) : getV (chgL nv l K) t = getV l t := by
  cases hh : hasT l t with
  | false => rw [getV_miss hh, getV_miss (by rw [chgL_has nv h]; exact hh)]
  | true =>
    obtain ⟨y, hy, hyt⟩ := hasT_mem.1 hh
    subst hyt
    rw [getV_mem h hy, getV_mem (chgL_rise nv h K) ((chgL_mem nv h K y).2 (Or.inl ⟨hy, ht⟩))]
/-- the samples of times that were not there. -/
def frL (nv : Int → Nat × Int) (l : List Smp) (K : List Int) : List Smp := (K.filter (fun t => !hasT l t)).map (fun t => ⟨t, (nv t).1, (nv t).2⟩)
/-- what became of a time. -/
structure Dlt where
  t : Int
  had : Bool
  ok : Nat
  ox : Int
  nk : Nat
  nx : Int
def dlt (nv : Int → Nat × Int) (l : List Smp) (t : Int) : Dlt := ⟨t, hasT l t, (getV l t).1, (getV l t).2, (nv t).1, (nv t).2⟩
def isD (nv : Int → Nat × Int) (l : List Smp) (t : Int) : Bool := !hasT l t || decide (getV l t ≠ nv t)
def dlL (nv : Int → Nat × Int) (l : List Smp) (K : List Int) : List Dlt := (K.filter (isD nv l)).map (dlt nv l)
theorem frL_snoc (nv : Int → Nat × Int) (l : List Smp) (K : List Int) (t : Int) : frL nv l (K ++ [t]) = frL nv l K ++ (if hasT l t = true then [] else [⟨t, (nv t).1, (nv t).2⟩]) := by
  unfold frL
  rw [List.filter_append, List.map_append]
  congr 1
  cases h : hasT l t <;> simp [h]
theorem dlL_snoc (nv : Int → Nat × Int) (l : List Smp) (K : List Int) (t : Int) : dlL nv l (K ++ [t]) = dlL nv l K ++ (if isD nv l t = true then [dlt nv l t] else []) := by
  unfold dlL
  rw [List.filter_append, List.map_append]
  congr 1
  cases h : isD nv l t <;> simp [h]
theorem frL_rise (nv : Int → Nat × Int) (l : List Smp) {K : List Int} (h : K.Pairwise (· < ·)) : Rise (frL nv l K) := by
  unfold frL Rise
  rw [List.pairwise_map]
  exact List.Pairwise.sublist List.filter_sublist h
theorem frL_mem (nv : Int → Nat × Int) (l : List Smp) (K : List Int) (x : Smp) : x ∈ frL nv l K ↔ x.t ∈ K ∧ hasT l x.t = false ∧ x = ⟨x.t, (nv x.t).1, (nv x.t).2⟩ := by
  unfold frL
  rw [List.mem_map]
  constructor
  · rintro ⟨t, ht, rfl⟩
    rw [List.mem_filter] at ht
    exact ⟨ht.1, by simpa using ht.2, rfl⟩
  · rintro ⟨h1, h2, h3⟩
    exact ⟨x.t, List.mem_filter.2 ⟨h1, by simp [h2]⟩, h3.symm⟩
/-- what lies there behind a Load. -/
def loadL (nv : Int → Nat × Int) (l : List Smp) (K : List Int) : List Smp := layL (chgL nv l K) (frL nv l K)
theorem loadL_mem (nv : Int → Nat × Int) {l : List Smp} (h : Rise l) (K : List Int) (x : Smp) : x ∈ loadL nv l K ↔ (x ∈ l ∧ x.t ∉ K) ∨ (x.t ∈ K ∧ x = ⟨x.t, (nv x.t).1, (nv x.t).2⟩) := by
  unfold loadL layL
  rw [layR_mem]
  simp only [List.take_length, List.mem_reverse, List.not_mem_nil, or_false]
  rw [chgL_mem nv h, frL_mem]
  constructor
  · rintro ((e | ⟨e1, _, e3⟩) | ⟨e1, _, e3⟩)
    · exact Or.inl e
    · exact Or.inr ⟨e1, e3⟩
    · exact Or.inr ⟨e1, e3⟩
  · rintro (e | ⟨e1, e3⟩)
    · exact Or.inl (Or.inl e)
    · cases hh : hasT l x.t with
      | true => exact Or.inl (Or.inr ⟨e1, rfl, e3⟩)
      | false => exact Or.inr ⟨e1, rfl, e3⟩
theorem loadL_rise (nv : Int → Nat × Int) {l : List Smp} (h : Rise l) {K : List Int} (hK : K.Pairwise (· < ·)) : Rise (loadL nv l K) := by
  unfold loadL layL
  refine layR_rise _ _ _ _ ?_ (by simp) ?_ ?_
  · rw [List.take_length, List.append_nil]; exact chgL_rise nv h K
  · rw [List.pairwise_reverse]; exact frL_rise nv l hK
  · intro s hs y hy e
    rw [List.mem_reverse, frL_mem] at hs
    have : hasT (chgL nv l K) s.t = true := hasT_mem.2 ⟨y, hy, e⟩
    rw [chgL_has nv h, hs.2.1] at this
    cases this
end Go.Proofs.YticgapplpfaigaaGreat
