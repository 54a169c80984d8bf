
import Derived.Test.YticgapplpfaigaaGreatSrLd
namespace Go.Proofs.YticgapplpfaigaaGreat
open Go.RowKit
set_option linter.unusedVariables false
set_option linter.unusedSimpArgs false
/-- samples of rising times, each with its value. -/
def smpL (nv : Int → Nat × Int) (K : List Int) : List Smp := K.map (fun t => ⟨t, (nv t).1, (nv t).2⟩)
theorem smpL_rise (nv : Int → Nat × Int) {K : List Int} (h : K.Pairwise (· < ·)) : Rise (smpL nv K) := by
  unfold smpL Rise
  rw [List.pairwise_map]; exact h
theorem loadL_nil (nv : Int → Nat × Int) {K : List Int} (h : K.Pairwise (· < ·)) : loadL nv [] K = smpL nv K := by
  refine rise_eq (loadL_rise nv List.Pairwise.nil h) (smpL_rise nv h) (fun x => ?_)
  rw [loadL_mem nv List.Pairwise.nil]
  unfold smpL
  rw [List.mem_map]
  constructor
  · rintro (⟨e, _⟩ | ⟨e1, e2⟩)
    · cases e
    · exact ⟨x.t, e1, e2.symm⟩
  · rintro ⟨t, ht, rfl⟩
    exact Or.inr ⟨ht, rfl⟩
theorem dlL_nil (nv : Int → Nat × Int) (K : List Int) : dlL nv [] K = K.map (fun t => ⟨t, false, 0, 0, (nv t).1, (nv t).2⟩) := by
  unfold dlL
  rw [List.filter_eq_self.2 (fun t _ => by simp [isD, hasT])]
  refine List.map_congr_left (fun t _ => ?_)
  have e1 : hasT [] t = false := rfl
  unfold dlt
  rw [getV_miss e1, e1]
theorem dlL_again (nv : Int → Nat × Int) {K : List Int} (h : K.Pairwise (· < ·)) : dlL nv (smpL nv K) K = [] := by
  unfold dlL
  rw [List.filter_eq_nil_iff.2 (fun t ht => ?_), List.map_nil]
  have hm : (⟨t, (nv t).1, (nv t).2⟩ : Smp) ∈ smpL nv K := List.mem_map.2 ⟨t, ht, rfl⟩
  have h1 : hasT (smpL nv K) t = true := hasT_mem.2 ⟨_, hm, rfl⟩
  have h2 := getV_mem (smpL_rise nv h) hm
  unfold isD
  rw [h1]
  simp at h2 ⊢
  exact h2
theorem putL_next {X : List Smp} (h : Rise X) {k : Nat} {s : Smp} (hs : X[k]? = some s) : putL (X.take k) s = X.take (k + 1) := by
  have hr : Rise (X.take k) := List.Pairwise.sublist (List.take_sublist _ _) h
  refine rise_eq (putL_rise hr s) (List.Pairwise.sublist (List.take_sublist _ _) h) (fun x => ?_)
  rw [putL_mem hr]
  obtain ⟨h1, h2⟩ := List.getElem?_eq_some_iff.1 hs
  rw [List.take_succ_eq_append_getElem h1, h2, List.mem_append, List.mem_singleton]
  constructor
  · rintro (e | e)
    · exact Or.inr e
    · exact Or.inl e.1
  · rintro (e | e)
    · refine Or.inr ⟨e, fun e2 => ?_⟩
      obtain ⟨j, hj⟩ := List.getElem?_of_mem e
      rw [List.getElem?_take] at hj
      split at hj
      · rename_i hjk
        have := h.lt hjk hj hs; omega
      · cases hj
    · exact Or.inl e
theorem ahd_at {X : List Smp} (h : Rise X) {k : Nat} {s : Smp} (hs : X[k]? = some s) : ahd X s.t = k := by
  have h1 := ahd_iff h s.t hs
  have hk := (List.getElem?_eq_some_iff.1 hs).1
  refine ahd_of s.t X k (by omega) (fun j y hj hy => h.lt hj hy hs) (fun j y hj hy => ?_)
  rcases Nat.lt_or_ge k j with h2 | h2
  · have := h.lt h2 hs hy; omega
  · obtain rfl : j = k := by omega
    rw [hy] at hs; injection hs with hs; subst hs; omega
theorem ahd_next {X : List Smp} (h : Rise X) {k : Nat} {s : Smp} (hs : X[k]? = some s) : ahd X (s.t + 1) = k + 1 := by
  have hk := (List.getElem?_eq_some_iff.1 hs).1
  refine ahd_of (s.t + 1) X (k + 1) (by omega) (fun j y hj hy => ?_) (fun j y hj hy => ?_)
  · rcases Nat.lt_or_ge j k with h2 | h2
    · have := h.lt h2 hy hs; omega
    · obtain rfl : j = k := by omega
      rw [hy] at hs; injection hs with hs; subst hs; omega
  · have := h.lt (by omega : k < j) hs hy; omega
/-- a list's sample of a number, or none. -/
def nthS (X : List Smp) (k : Nat) : Smp := X.getD k ⟨0, 0, 0⟩
theorem numV_nat (X : List Smp) (k : Nat) : numV X (k : Int) = (nthS X k, decide (k < X.length)) := by
  unfold numV nthS
  by_cases h : k < X.length
  · rw [if_pos ⟨by omega, by omega⟩]; simp [h]
  · rw [if_neg (by omega)]; simp [h, List.getD_eq_getElem?_getD, List.getElem?_eq_none (by omega : X.length ≤ k)]
theorem numV_neg (X : List Smp) : numV X (-1) = (⟨0, 0, 0⟩, false) := by
  unfold numV
  rw [if_neg (by omega)]
theorem nthS_some {X : List Smp} {k : Nat} (h : k < X.length) : X[k]? = some (nthS X k) := getD_some h
theorem encD_get (D : List Dlt) : ∀ (i : Nat) (d : Dlt), D[i]? = some d → ∀ j, j < 10 → (encD D)[i * 10 + j]? = d.enc[j]? := by
  induction D with
  | nil => intro i d h; simp at h
  | cons a r ih =>
    intro i d h j hj
    cases i with
    | zero =>
      simp at h
      subst h
      rw [encD, List.getElem?_append_left (by simp [Dlt.enc]; omega)]
      simp
    | succ i =>
      simp at h
      rw [encD, List.getElem?_append_right (by simp [Dlt.enc]; omega)]
      have : (i + 1) * 10 + j - a.enc.length = i * 10 + j := by simp [Dlt.enc]; omega
      rw [this]
      exact ih i d h j hj
end Go.Proofs.YticgapplpfaigaaGreat
