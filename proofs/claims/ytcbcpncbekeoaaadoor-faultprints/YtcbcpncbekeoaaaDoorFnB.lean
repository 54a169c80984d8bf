
import Derived.Test.YtcbcpncbekeoaaaDoorFnA
namespace Go.Proofs.YtcbcpncbekeoaaaDoor
open Go.RowKit
set_option linter.unusedVariables false
set_option linter.unusedSimpArgs false
def errno6 : List UInt8 := [101, 114, 114, 110, 111, 32]
def lkp (e : Int) : Option (List UInt8) := (tab.find? (fun p => p.1 == e)).map (·.2)
/-- a number's name. -/
def nameL (e : Int) : List UInt8 := match lkp e with | some nm => nm | none => errno6 ++ Lib.itoa e
def nameS (e : Int) : ByteArray := ⟨(nameL e).toArray⟩
theorem nameS_list (e : Int) : (nameS e).data.toList = nameL e := by simp [nameS]
theorem tab_nums : (tab.map (·.1)).Nodup := by decide +kernel
theorem tab_nams : (tab.map (·.2)).Nodup := by decide +kernel
theorem tab_facts : ∀ p ∈ tab, p.2.take 6 ≠ errno6 ∧ p.2 ≠ [] ∧ 0 ≤ p.1 ∧ p.1 < 300 := by decide +kernel
theorem nodup_inj {α β : Type} (f : α → β) : ∀ (l : List α), (l.map f).Nodup → ∀ (p q : α), p ∈ l → q ∈ l → f p = f q → p = q := by
  intro l
  induction l with
  | nil => intro _ p q hp; cases hp
  | cons a l ih =>
    intro h p q hp hq e
    simp only [List.map_cons, List.nodup_cons, List.mem_map, not_exists, not_and] at h
    rcases List.mem_cons.1 hp with hp1 | hp1 <;> rcases List.mem_cons.1 hq with hq1 | hq1
    · rw [hp1, hq1]
    · rw [hp1] at e; exact absurd e.symm (h.1 q hq1)
    · rw [hq1] at e; exact absurd e (h.1 p hp1)
    · exact ih h.2 p q hp1 hq1 e
theorem lkp_some {p : Int × List UInt8} (h : p ∈ tab) : lkp p.1 = some p.2 := by
  unfold lkp
  cases hf : tab.find? (fun q => q.1 == p.1) with
  | none =>
    have := List.find?_eq_none.1 hf p h
    simp at this
  | some q =>
    have hq := List.find?_some hf
    have hm := List.mem_of_find?_eq_some hf
    have : q = p := nodup_inj (·.1) tab tab_nums q p hm h (by simpa using hq)
    rw [this]; rfl
theorem lkp_none {e : Int} (h : ∀ p ∈ tab, p.1 ≠ e) : lkp e = none := by
  unfold lkp
  rw [List.find?_eq_none.2 (fun p hp => by simpa using h p hp)]; rfl
theorem nameL_in {p : Int × List UInt8} (h : p ∈ tab) : nameL p.1 = p.2 := by unfold nameL; rw [lkp_some h]
theorem nameL_out {e : Int} (h : ∀ p ∈ tab, p.1 ≠ e) : nameL e = errno6 ++ Lib.itoa e := by unfold nameL; rw [lkp_none h]
/-- the first row of a table that fits, or none. -/
theorem first_row {α : Type} (P : α → Prop) [DecidablePred P] (l : List α) : (∃ (K : Nat) (a : α), l[K]? = some a ∧ P a ∧ ∀ j, j < K → ∀ b, l[j]? = some b → ¬ P b) ∨ (∀ a ∈ l, ¬ P a) := by
  induction l with
  | nil => right; intro a ha; cases ha
  | cons c l ih =>
    by_cases hc : P c
    · left; exact ⟨0, c, rfl, hc, fun j hj => by omega⟩
    · rcases ih with ⟨K, a, h1, h2, h3⟩ | h
      · left
        refine ⟨K + 1, a, by simpa using h1, h2, fun j hj b hb => ?_⟩
        cases j with
        | zero => simp at hb; subst hb; exact hc
        | succ j => simp at hb; exact h3 j (by omega) b hb
      · right
        intro a ha
        rcases List.mem_cons.1 ha with rfl | ha
        · exact hc
        · exact h a ha
theorem mem_tab {K : Nat} {p : Int × List UInt8} (h : tab[K]? = some p) : p ∈ tab := List.mem_of_getElem? h
/-- a text that is no name of the table and yet a number's name. -/
theorem name_long {n : Int} {L : List UInt8} (h : ∀ p ∈ tab, p.2 ≠ L) (hn : nameL n = L) : L = errno6 ++ Lib.itoa n := by
  rcases first_row (fun p : Int × List UInt8 => p.1 = n) tab with ⟨K, p, h1, h2, _⟩ | h2
  · subst h2
    rw [nameL_in (mem_tab h1)] at hn
    exact absurd hn (h p (mem_tab h1))
  · rw [nameL_out h2] at hn; exact hn.symm
end Go.Proofs.YtcbcpncbekeoaaaDoor
