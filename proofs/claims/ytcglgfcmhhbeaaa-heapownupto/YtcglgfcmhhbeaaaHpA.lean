
import Derived.Test.YtcglgfcmhhbeaaaKyA
namespace Go.Proofs.Ytcglgfcmhhbeaaa.Hp
open Go.RowKit
set_option linter.unusedVariables false
set_option linter.unusedSimpArgs false
/-! ### a heap of entries, plain -/
abbrev Ent := Int × ByteArray
def lowB (a b : Ent) : Bool := if a.1 = b.1 then decide (strC a.2 b.2 < 0) else decide (a.1 < b.1)
def ahd (most : Bool) (a b : Ent) : Bool := if most then lowB b a else lowB a b
def nE : Ent := (0, ⟨#[]⟩)
def atE (L : List Ent) (i : Nat) : Ent := L.getD i nE
theorem atE_some {L : List Ent} {i : Nat} (h : i < L.length) : L[i]? = some (atE L i) := by
  rw [List.getElem?_eq_getElem h]; simp [atE, List.getD_eq_getElem?_getD, List.getElem?_eq_getElem h]
theorem atE_get {L : List Ent} {i : Nat} {e : Ent} (h : L[i]? = some e) : atE L i = e := by
  simp [atE, List.getD_eq_getElem?_getD, h]
theorem atE_set {L : List Ent} {i j : Nat} {e : Ent} (h : i < L.length) : atE (L.set i e) j = if j = i then e else atE L j := by
  unfold atE
  rw [List.getD_eq_getElem?_getD, List.getElem?_set]
  by_cases q : i = j
  · subst q; simp [h]
  · rw [if_neg q, if_neg (fun e => q e.symm), List.getD_eq_getElem?_getD]
def swp (L : List Ent) (i j : Nat) : List Ent := (L.set i (atE L j)).set j (atE L i)
theorem swp_len (L : List Ent) (i j : Nat) : (swp L i j).length = L.length := by simp [swp]
def par (i : Nat) : Nat := (i - 1) / 2
def upL (ah : Ent → Ent → Bool) (L : List Ent) (i : Nat) : List Ent × Nat :=
  if h : 0 < i ∧ ah (atE L i) (atE L (par i)) = true then ((upL ah (swp L i (par i)) (par i)).1, (upL ah (swp L i (par i)) (par i)).2 + 1) else (L, 0)
termination_by i
decreasing_by all_goals (unfold par; omega)
theorem upL_stop {ah : Ent → Ent → Bool} {L : List Ent} {i : Nat} (h : ¬ (0 < i ∧ ah (atE L i) (atE L (par i)) = true)) : upL ah L i = (L, 0) := by rw [upL, dif_neg h]
theorem upL_go {ah : Ent → Ent → Bool} {L : List Ent} {i : Nat} (h1 : 0 < i) (h2 : ah (atE L i) (atE L (par i)) = true) : upL ah L i = ((upL ah (swp L i (par i)) (par i)).1, (upL ah (swp L i (par i)) (par i)).2 + 1) := by rw [upL, dif_pos ⟨h1, h2⟩]
def kidL (ah : Ent → Ent → Bool) (L : List Ent) (i : Nat) : Nat := if 2 * i + 2 < L.length ∧ ah (atE L (2 * i + 2)) (atE L (2 * i + 1)) = true then 2 * i + 2 else 2 * i + 1
theorem kidL_two (ah : Ent → Ent → Bool) (L : List Ent) (i : Nat) : kidL ah L i = 2 * i + 1 ∨ kidL ah L i = 2 * i + 2 := by unfold kidL; split <;> simp
def downL (ah : Ent → Ent → Bool) (L : List Ent) (i : Nat) : List Ent × Nat :=
  if h : kidL ah L i < L.length ∧ ah (atE L (kidL ah L i)) (atE L i) = true then ((downL ah (swp L i (kidL ah L i)) (kidL ah L i)).1, (downL ah (swp L i (kidL ah L i)) (kidL ah L i)).2 + 1) else (L, 0)
termination_by L.length - i
decreasing_by all_goals (rw [swp_len]; have := kidL_two ah L i; omega)
theorem downL_stop {ah : Ent → Ent → Bool} {L : List Ent} {i : Nat} (h : ¬ (kidL ah L i < L.length ∧ ah (atE L (kidL ah L i)) (atE L i) = true)) : downL ah L i = (L, 0) := by rw [downL, dif_neg h]
theorem downL_go {ah : Ent → Ent → Bool} {L : List Ent} {i : Nat} (h1 : kidL ah L i < L.length) (h2 : ah (atE L (kidL ah L i)) (atE L i) = true) : downL ah L i = ((downL ah (swp L i (kidL ah L i)) (kidL ah L i)).1, (downL ah (swp L i (kidL ah L i)) (kidL ah L i)).2 + 1) := by rw [downL, dif_pos ⟨h1, h2⟩]
def mendL (ah : Ent → Ent → Bool) (L : List Ent) (i : Nat) : List Ent × Nat := if 0 < (upL ah L i).2 then upL ah L i else downL ah L i
/-! how many moves -/
theorem upL_few (ah : Ent → Ent → Bool) : ∀ (n : Nat) (L : List Ent) (i : Nat), i ≤ n → 2 ^ (upL ah L i).2 ≤ i + 1
  | n, L, i, hi => by
    by_cases h : 0 < i ∧ ah (atE L i) (atE L (par i)) = true
    · rw [upL_go h.1 h.2]
      cases n with
      | zero => omega
      | succ n =>
        have hp : par i ≤ n := by unfold par; omega
        have := upL_few ah n (swp L i (par i)) (par i) hp
        simp only [Nat.pow_succ]
        have : par i + 1 ≤ (i + 1) / 2 := by unfold par; omega
        omega
    · rw [upL_stop h]; simp
theorem downL_few (ah : Ent → Ent → Bool) : ∀ (n : Nat) (L : List Ent) (i : Nat), L.length - i ≤ n → i < L.length → (i + 1) * 2 ^ (downL ah L i).2 ≤ L.length
  | n, L, i, hn, hi => by
    by_cases h : kidL ah L i < L.length ∧ ah (atE L (kidL ah L i)) (atE L i) = true
    · rw [downL_go h.1 h.2]
      cases n with
      | zero => omega
      | succ n =>
        have k2 := kidL_two ah L i
        have := downL_few ah n (swp L i (kidL ah L i)) (kidL ah L i) (by rw [swp_len]; omega) (by rw [swp_len]; exact h.1)
        rw [swp_len] at this
        simp only [Nat.pow_succ]
        refine Nat.le_trans ?_ this
        rw [show (i + 1) * (2 ^ (downL ah (swp L i (kidL ah L i)) (kidL ah L i)).2 * 2) = (2 * i + 2) * 2 ^ (downL ah (swp L i (kidL ah L i)) (kidL ah L i)).2 by rw [Nat.mul_comm (2 ^ _) 2, ← Nat.mul_assoc]; congr 1; omega]
        exact Nat.mul_le_mul_right _ (by omega)
    · rw [downL_stop h]; simp; omega
theorem upL_len (ah : Ent → Ent → Bool) : ∀ (n : Nat) (L : List Ent) (i : Nat), i ≤ n → (upL ah L i).1.length = L.length
  | n, L, i, hi => by
    by_cases h : 0 < i ∧ ah (atE L i) (atE L (par i)) = true
    · rw [upL_go h.1 h.2]
      cases n with
      | zero => omega
      | succ n =>
        have := upL_len ah n (swp L i (par i)) (par i) (by unfold par; omega)
        rw [swp_len] at this
        exact this
    · rw [upL_stop h]
theorem downL_len (ah : Ent → Ent → Bool) : ∀ (n : Nat) (L : List Ent) (i : Nat), L.length - i ≤ n → (downL ah L i).1.length = L.length
  | n, L, i, hn => by
    by_cases h : kidL ah L i < L.length ∧ ah (atE L (kidL ah L i)) (atE L i) = true
    · rw [downL_go h.1 h.2]
      cases n with
      | zero => have := kidL_two ah L i; omega
      | succ n =>
        have k2 := kidL_two ah L i
        have := downL_len ah n (swp L i (kidL ah L i)) (kidL ah L i) (by rw [swp_len]; omega)
        rw [swp_len] at this
        exact this
    · rw [downL_stop h]
theorem mendL_len (ah : Ent → Ent → Bool) (L : List Ent) (i : Nat) : (mendL ah L i).1.length = L.length := by
  unfold mendL; split
  · exact upL_len ah i L i (Nat.le_refl _)
  · exact downL_len ah _ L i (Nat.le_refl _)
theorem mendL_few (ah : Ent → Ent → Bool) (L : List Ent) (i : Nat) (hi : i < L.length) : 2 ^ (mendL ah L i).2 ≤ L.length := by
  unfold mendL; split
  · have := upL_few ah i L i (Nat.le_refl _); omega
  · have := downL_few ah _ L i (Nat.le_refl _) hi
    refine Nat.le_trans ?_ this
    exact Nat.le_mul_of_pos_left _ (by omega)
/-! Build: all moves together -/
def bldL (ah : Ent → Ent → Bool) : Nat → List Ent × Nat → List Ent × Nat
  | 0, r => r
  | k + 1, r => bldL ah k ((downL ah r.1 k).1, r.2 + (downL ah r.1 k).2)
/-- how often a number can be doubled. -/
def dbl (n : Nat) : Nat → Nat
  | 0 => 0
  | k + 1 => dbl n k + Nat.log2 (n / (k + 1))
theorem dbl_half (n : Nat) : ∀ k, k ≤ n / 2 → dbl n k = k + dbl (n / 2) k
  | 0, _ => rfl
  | k + 1, h => by
    unfold dbl
    rw [dbl_half n k (by omega)]
    have e : n / 2 / (k + 1) = n / (k + 1) / 2 := by rw [Nat.div_div_eq_div_mul, Nat.div_div_eq_div_mul, Nat.mul_comm]
    have h2 : 2 ≤ n / (k + 1) := by rw [Nat.le_div_iff_mul_le (by omega)]; omega
    rw [e]
    have := Nat.log2_def (n / (k + 1))
    rw [if_pos h2] at this
    omega
theorem dbl_more (n : Nat) : ∀ k j, n / 2 ≤ k → dbl n (k + j) = dbl n k
  | k, 0, _ => rfl
  | k, j + 1, h => by
    rw [← Nat.add_assoc, dbl, dbl_more n k j h]
    have h2 : n / (k + j + 1) < 2 := by rw [Nat.div_lt_iff_lt_mul (by omega)]; omega
    have := Nat.log2_def (n / (k + j + 1))
    rw [if_neg (by omega)] at this
    omega
theorem dbl_le : ∀ (m n : Nat), n ≤ m → dbl n (n / 2) ≤ n
  | 0, n, h => by
    obtain rfl : n = 0 := by omega
    exact Nat.le_refl _
  | m + 1, n, h => by
    rw [dbl_half n (n / 2) (Nat.le_refl _)]
    by_cases q : n = 0
    · subst q; exact Nat.le_refl _
    · have ih := dbl_le m (n / 2) (by omega)
      have : dbl (n / 2) (n / 2) = dbl (n / 2) (n / 2 / 2) := by
        have := dbl_more (n / 2) (n / 2 / 2) (n / 2 - n / 2 / 2) (Nat.le_refl _)
        rw [show n / 2 / 2 + (n / 2 - n / 2 / 2) = n / 2 by omega] at this
        exact this
      omega
theorem bldL_few (ah : Ent → Ent → Bool) : ∀ (k : Nat) (r : List Ent × Nat), k ≤ r.1.length → (bldL ah k r).1.length = r.1.length ∧ (bldL ah k r).2 ≤ r.2 + dbl r.1.length k
  | 0, r, _ => ⟨rfl, Nat.le_refl _⟩
  | k + 1, r, h => by
    have hl := downL_len ah _ r.1 k (Nat.le_refl _)
    have hf := downL_few ah _ r.1 k (Nat.le_refl _) (by omega)
    obtain ⟨h1, h2⟩ := bldL_few ah k ((downL ah r.1 k).1, r.2 + (downL ah r.1 k).2) (by simp only [hl]; omega)
    simp only [hl] at h1 h2
    refine ⟨h1, ?_⟩
    have hm : (downL ah r.1 k).2 ≤ Nat.log2 (r.1.length / (k + 1)) := by
      have hne : r.1.length / (k + 1) ≠ 0 := by
        have : 1 ≤ r.1.length / (k + 1) := by rw [Nat.le_div_iff_mul_le (by omega)]; omega
        omega
      rw [Nat.le_log2 hne, Nat.le_div_iff_mul_le (by omega), Nat.mul_comm]
      exact hf
    unfold bldL
    rw [dbl]
    omega
/-! places -/
def PL (ex : Option ByteArray) (f : ByteArray → Option Nat) (L : List Ent) : Prop := (∀ e ∈ L, ex ≠ some e.2) ∧ ∀ s i, ex ≠ some s → (f s = some i ↔ (L[i]?).map (·.2) = some s)
def upd (f : ByteArray → Option Nat) (s : ByteArray) (i : Option Nat) : ByteArray → Option Nat := fun x => if x = s then i else f x
theorem PL.at {ex : Option ByteArray} {f : ByteArray → Option Nat} {L : List Ent} (h : PL ex f L) {i : Nat} (hi : i < L.length) : f (atE L i).2 = some i := by
  have he := atE_some hi
  exact (h.2 _ i (h.1 _ (List.mem_of_getElem? he))).2 (by rw [he]; rfl)
theorem PL.lt {ex : Option ByteArray} {f : ByteArray → Option Nat} {L : List Ent} (h : PL ex f L) {s : ByteArray} {i : Nat} (hs : ex ≠ some s) (hf : f s = some i) : i < L.length ∧ (atE L i).2 = s := by
  have := (h.2 s i hs).1 hf
  rw [Option.map_eq_some_iff] at this
  obtain ⟨e, h1, h2⟩ := this
  exact ⟨(List.getElem?_eq_some_iff.1 h1).1, by rw [atE_get h1]; exact h2⟩
theorem PL.inj {ex : Option ByteArray} {f : ByteArray → Option Nat} {L : List Ent} (h : PL ex f L) {i j : Nat} (hi : i < L.length) (hj : j < L.length) (e : (atE L i).2 = (atE L j).2) : i = j := by
  have h1 := h.at hi
  rw [e, h.at hj] at h1
  injection h1 with h1
  exact h1.symm
theorem swp_at (L : List Ent) {i j k : Nat} (hi : i < L.length) (hj : j < L.length) : atE (swp L i j) k = if k = j then atE L i else if k = i then atE L j else atE L k := by
  unfold swp
  rw [atE_set (by simpa using hj), atE_set hi]
theorem PL.swap {ex : Option ByteArray} {f : ByteArray → Option Nat} {L : List Ent} (h : PL ex f L) {i j : Nat} (hi : i < L.length) (hj : j < L.length) (hne : i ≠ j) : PL ex (upd (upd f (atE L j).2 (some i)) (atE L i).2 (some j)) (swp L i j) := by
  have hmem : ∀ e, e ∈ swp L i j → e ∈ L := fun e he => by
    obtain ⟨k, hk⟩ := List.getElem?_of_mem he
    have hkl : k < L.length := by have := (List.getElem?_eq_some_iff.1 hk).1; rwa [swp_len] at this
    rw [← atE_get hk, swp_at L hi hj]
    split
    · exact List.mem_of_getElem? (atE_some hi)
    · split
      · exact List.mem_of_getElem? (atE_some hj)
      · exact List.mem_of_getElem? (atE_some hkl)
  refine ⟨fun e he => h.1 e (hmem e he), fun s k hs => ?_⟩
  have key : ∀ k, ((swp L i j)[k]?).map (·.2) = some s ↔ k < L.length ∧ (atE (swp L i j) k).2 = s := fun k => by
    rw [Option.map_eq_some_iff]
    constructor
    · rintro ⟨e, h1, h2⟩
      have := (List.getElem?_eq_some_iff.1 h1).1
      rw [swp_len] at this
      exact ⟨this, by rw [atE_get h1]; exact h2⟩
    · rintro ⟨h1, h2⟩
      exact ⟨_, atE_some (by rw [swp_len]; exact h1), h2⟩
  have old : ∀ k, f s = some k ↔ k < L.length ∧ (atE L k).2 = s := fun k => ⟨fun q => h.lt hs q, fun ⟨q1, q2⟩ => by rw [← q2]; exact h.at q1⟩
  rw [key, swp_at L hi hj]
  unfold upd
  by_cases e1 : s = (atE L i).2
  · subst e1
    rw [if_pos rfl]
    constructor
    · intro q; injection q with q; subst q; exact ⟨hj, by rw [if_pos rfl]⟩
    · rintro ⟨q1, q2⟩
      by_cases c : k = j
      · rw [c]
      · rw [if_neg c] at q2
        by_cases c2 : k = i
        · rw [if_pos c2] at q2; exact absurd (h.inj hj hi q2).symm hne
        · rw [if_neg c2] at q2; exact absurd (h.inj q1 hi q2) c2
  · rw [if_neg e1]
    by_cases e2 : s = (atE L j).2
    · subst e2
      rw [if_pos rfl]
      constructor
      · intro q; injection q with q; subst q; exact ⟨hi, by rw [if_neg hne, if_pos rfl]⟩
      · rintro ⟨q1, q2⟩
        by_cases c : k = j
        · rw [if_pos c] at q2; exact absurd q2.symm e1
        · rw [if_neg c] at q2
          by_cases c2 : k = i
          · rw [c2]
          · rw [if_neg c2] at q2; exact absurd (h.inj q1 hj q2) c
    · rw [if_neg e2, old]
      constructor
      · rintro ⟨q1, q2⟩
        refine ⟨q1, ?_⟩
        rw [if_neg (fun c => e2 (by rw [← q2, c])), if_neg (fun c => e1 (by rw [← q2, c]))]
        exact q2
      · rintro ⟨q1, q2⟩
        refine ⟨q1, ?_⟩
        by_cases c : k = j
        · rw [if_pos c] at q2; exact absurd q2.symm e1
        · rw [if_neg c] at q2
          by_cases c2 : k = i
          · rw [if_pos c2] at q2; exact absurd q2.symm e2
          · rw [if_neg c2] at q2; exact q2
theorem PL.push {f : ByteArray → Option Nat} {L : List Ent} (h : PL none f L) {e : Ent} (hn : f e.2 = none) : PL none (upd f e.2 (some L.length)) (L ++ [e]) := by
  refine ⟨(fun _ _ q => by cases q), fun s k _ => ?_⟩
  unfold upd
  by_cases c : s = e.2
  · subst c
    rw [if_pos rfl]
    constructor
    · intro q; injection q with q; subst q; simp
    · intro q
      rcases Nat.lt_trichotomy k L.length with c | c | c
      · rw [List.getElem?_append_left c] at q
        have := (h.2 e.2 k (by simp)).2 q
        rw [hn] at this; cases this
      · rw [c]
      · rw [List.getElem?_eq_none (by simp; omega)] at q; cases q
  · rw [if_neg c, h.2 s k (by simp)]
    rcases Nat.lt_trichotomy k L.length with q | q | q
    · rw [List.getElem?_append_left q]
    · subst q
      rw [List.getElem?_eq_none (Nat.le_refl _)]
      simp
      exact fun e => c e.symm
    · rw [List.getElem?_eq_none (by omega), List.getElem?_eq_none (by simp; omega)]
theorem PL.key {ex : Option ByteArray} {f : ByteArray → Option Nat} {L : List Ent} (h1 : ∀ e ∈ L, ex ≠ some e.2) (h2 : ∀ s i, ex ≠ some s → (f s = some i ↔ i < L.length ∧ (atE L i).2 = s)) : PL ex f L := by
  refine ⟨h1, fun s k hs => ?_⟩
  rw [h2 s k hs, Option.map_eq_some_iff]
  constructor
  · rintro ⟨q1, q2⟩; exact ⟨_, atE_some q1, q2⟩
  · rintro ⟨e, q1, q2⟩; exact ⟨(List.getElem?_eq_some_iff.1 q1).1, by rw [atE_get q1]; exact q2⟩
theorem PL.iff {ex : Option ByteArray} {f : ByteArray → Option Nat} {L : List Ent} (h : PL ex f L) {s : ByteArray} (hs : ex ≠ some s) (i : Nat) : f s = some i ↔ i < L.length ∧ (atE L i).2 = s := ⟨fun q => h.lt hs q, fun ⟨q1, q2⟩ => by rw [← q2]; exact h.at q1⟩
theorem atE_drop {L : List Ent} {i : Nat} (h : i < L.length - 1) : atE L.dropLast i = atE L i := by
  unfold atE
  rw [List.getD_eq_getElem?_getD, List.getD_eq_getElem?_getD, List.getElem?_dropLast, if_pos h]
/-- the last one is the one that goes. -/
theorem PL.cutLast {f : ByteArray → Option Nat} {L : List Ent} (h : PL none f L) (hl : 0 < L.length) {name : ByteArray} (hn : (atE L (L.length - 1)).2 = name) : PL none (upd f name none) L.dropLast := by
  refine PL.key (fun _ _ q => by cases q) fun s k hs => ?_
  rw [List.length_dropLast]
  unfold upd
  by_cases c : s = name
  · rw [if_pos c]
    constructor
    · intro q; cases q
    · rintro ⟨q1, q2⟩
      rw [atE_drop q1, c, ← hn] at q2
      have := h.inj (i := k) (j := L.length - 1) (by omega) (by omega) q2
      omega
  · rw [if_neg c, h.iff hs]
    constructor
    · rintro ⟨q1, q2⟩
      have : k ≠ L.length - 1 := fun e => c (by rw [← q2, e]; exact hn)
      exact ⟨by omega, by rw [atE_drop (by omega)]; exact q2⟩
    · rintro ⟨q1, q2⟩
      rw [atE_drop q1] at q2
      exact ⟨by omega, q2⟩
/-- the last one is laid over the one that goes. -/
theorem PL.cutOver {f : ByteArray → Option Nat} {L : List Ent} (h : PL none f L) {at_ : Nat} {name : ByteArray} (ha : f name = some at_) (hne : (atE L (L.length - 1)).2 ≠ name) : at_ < L.length - 1 ∧ PL (some name) (upd f (atE L (L.length - 1)).2 (some at_)) (L.dropLast.set at_ (atE L (L.length - 1))) := by
  obtain ⟨h1, h2⟩ := (h.iff (by simp) at_).1 ha
  have hlt : at_ < L.length - 1 := by
    have : at_ ≠ L.length - 1 := fun e => hne (by rw [← e]; exact h2)
    omega
  have ld : L.dropLast.length = L.length - 1 := List.length_dropLast
  have at2 : ∀ k, k < L.length - 1 → atE (L.dropLast.set at_ (atE L (L.length - 1))) k = if k = at_ then atE L (L.length - 1) else atE L k := fun k hk => by
    rw [atE_set (by omega), atE_drop hk]
  refine ⟨hlt, PL.key (fun e he q => ?_) fun s k hs => ?_⟩
  · obtain ⟨k, hk⟩ := List.getElem?_of_mem he
    have hkl := (List.getElem?_eq_some_iff.1 hk).1
    rw [List.length_set, ld] at hkl
    have := atE_get hk
    rw [at2 k hkl] at this
    injection q with q
    by_cases c : k = at_
    · rw [if_pos c] at this
      exact hne (by rw [this]; exact q.symm)
    · rw [if_neg c] at this
      have := h.inj (i := k) (j := at_) (by omega) (by omega) (by rw [this, h2]; exact q.symm)
      exact c this
  · rw [List.length_set, ld]
    have hsn : s ≠ name := fun e => hs (by rw [e])
    unfold upd
    by_cases c : s = (atE L (L.length - 1)).2
    · rw [if_pos c]
      constructor
      · intro q; injection q with q; subst q; exact ⟨hlt, by rw [at2 _ hlt, if_pos rfl]; exact c.symm⟩
      · rintro ⟨q1, q2⟩
        rw [at2 k q1] at q2
        by_cases d : k = at_
        · rw [d]
        · rw [if_neg d, c] at q2
          have := h.inj (i := k) (j := L.length - 1) (by omega) (by omega) q2
          omega
    · rw [if_neg c, h.iff (by simp)]
      constructor
      · rintro ⟨q1, q2⟩
        have k1 : k ≠ L.length - 1 := fun e => c (by rw [← q2, e])
        have k2 : k ≠ at_ := fun e => hsn (by rw [← q2, e]; exact h2)
        exact ⟨by omega, by rw [at2 k (by omega), if_neg k2]; exact q2⟩
      · rintro ⟨q1, q2⟩
        rw [at2 k q1] at q2
        by_cases d : k = at_
        · rw [if_pos d] at q2; exact absurd q2.symm c
        · rw [if_neg d] at q2; exact ⟨by omega, q2⟩
/-- what was left out goes. -/
theorem PL.drop {f : ByteArray → Option Nat} {L : List Ent} {name : ByteArray} (h : PL (some name) f L) : PL none (upd f name none) L := by
  refine PL.key (fun _ _ q => by cases q) fun s k _ => ?_
  unfold upd
  by_cases c : s = name
  · rw [if_pos c]
    constructor
    · intro q; cases q
    · rintro ⟨q1, q2⟩
      exact absurd (by rw [q2, c]) (h.1 _ (List.mem_of_getElem? (atE_some q1)))
  · rw [if_neg c, h.iff (fun e => c (by injection e with e; exact e.symm))]
/-- another rank. -/
theorem PL.turn {ex : Option ByteArray} {f : ByteArray → Option Nat} {L : List Ent} (h : PL ex f L) {i : Nat} (hi : i < L.length) (r : Int) : PL ex f (L.set i (r, (atE L i).2)) := by
  have n2 : ∀ k, (atE (L.set i (r, (atE L i).2)) k).2 = (atE L k).2 := fun k => by
    rw [atE_set hi]; split
    · rename_i c; rw [c]
    · rfl
  refine PL.key (fun e he q => ?_) fun s k hs => ?_
  · obtain ⟨k, hk⟩ := List.getElem?_of_mem he
    have hkl := (List.getElem?_eq_some_iff.1 hk).1
    rw [List.length_set] at hkl
    have := n2 k
    rw [atE_get hk] at this
    exact h.1 _ (List.mem_of_getElem? (atE_some hkl)) (by rw [← this]; exact q)
  · rw [List.length_set, n2, h.iff hs]
end Go.Proofs.Ytcglgfcmhhbeaaa.Hp
