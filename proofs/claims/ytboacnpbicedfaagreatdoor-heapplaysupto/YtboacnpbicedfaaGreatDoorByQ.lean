
import Derived.Test.YtboacnpbicedfaaGreatDoorByA
import Derived.Sort.Statements
namespace Go.Proofs.YtboacnpbicedfaaGreatDoor.Hp
open Go.RowKit
set_option linter.unusedVariables false
set_option linter.unusedSimpArgs false
/-! ### the order of entries -/
theorem lowB_eq (a b : Ent) : lowB a b = true ↔ a.1 < b.1 ∨ a.1 = b.1 ∧ strC a.2 b.2 < 0 := by
  unfold lowB
  by_cases h : a.1 = b.1
  · rw [if_pos h, decide_eq_true_iff]
    exact ⟨fun q => Or.inr ⟨h, q⟩, fun q => by rcases q with q | q; · omega
                                               · exact q.2⟩
  · rw [if_neg h, decide_eq_true_iff]
    exact ⟨fun q => Or.inl q, fun q => by rcases q with q | q; · exact q
                                          · exact absurd q.1 h⟩
theorem lowB_ne (a b : Ent) : lowB a b = false ↔ b.1 < a.1 ∨ a.1 = b.1 ∧ strC b.2 a.2 ≤ 0 := by
  rw [← Bool.not_eq_true, lowB_eq]
  have f := strC_is.flip a.2 b.2
  constructor
  · intro h
    by_cases c : a.1 = b.1
    · exact Or.inr ⟨c, by have : ¬ strC a.2 b.2 < 0 := fun q => h (Or.inr ⟨c, q⟩); omega⟩
    · exact Or.inl (by have : ¬ a.1 < b.1 := fun q => h (Or.inl q); omega)
  · rintro (h | h) (q | q) <;> omega
theorem lowB_swo : Go.Sort.SWO lowB where
  irrefl x := by rw [lowB_ne]; exact Or.inr ⟨rfl, by have := (strC_is.zero x.2 x.2).2 rfl; omega⟩
  trans x y z h1 h2 := by
    rw [lowB_eq] at *
    rcases h1 with h1 | ⟨h1, g1⟩ <;> rcases h2 with h2 | ⟨h2, g2⟩
    · exact Or.inl (by omega)
    · exact Or.inl (by omega)
    · exact Or.inl (by omega)
    · exact Or.inr ⟨by omega, strC_is.lt g1 (by omega)⟩
  ntrans x y z h1 h2 := by
    rw [lowB_ne] at *
    rcases h1 with h1 | ⟨h1, g1⟩ <;> rcases h2 with h2 | ⟨h2, g2⟩
    · exact Or.inl (by omega)
    · exact Or.inl (by omega)
    · exact Or.inl (by omega)
    · exact Or.inr ⟨by omega, strC_is.trans _ _ _ g2 g1⟩
theorem lowB_anti (x y : Ent) (h1 : lowB x y = false) (h2 : lowB y x = false) : x = y := by
  rw [lowB_ne] at *
  have f := strC_is.flip x.2 y.2
  rcases h1 with h1 | ⟨h1, g1⟩ <;> rcases h2 with h2 | ⟨h2, g2⟩
  · omega
  · omega
  · omega
  · exact Prod.ext h1 ((strC_is.zero _ _).1 (by omega))
theorem ahd_swo (most : Bool) : Go.Sort.SWO (ahd most) := by
  cases most with
  | false => exact lowB_swo
  | true => exact ⟨fun x => lowB_swo.irrefl x, fun x y z h1 h2 => lowB_swo.trans z y x h2 h1, fun x y z h1 h2 => lowB_swo.ntrans z y x h2 h1⟩
theorem ahd_anti (most : Bool) (x y : Ent) (h1 : ahd most x y = false) (h2 : ahd most y x = false) : x = y := by
  cases most with
  | false => exact lowB_anti x y h1 h2
  | true => exact lowB_anti x y h2 h1
theorem swo_asym {ah : Ent → Ent → Bool} (h : Go.Sort.SWO ah) {x y : Ent} (q : ah x y = true) : ah y x = false := by
  cases c : ah y x with
  | false => rfl
  | true => have := h.trans x y x q c; rw [h.irrefl] at this; cases this
/-! ### entries that change places -/
theorem swp_perm (L : List Ent) {i j : Nat} (hi : i < L.length) (hj : j < L.length) : (swp L i j).Perm L := by
  have := List.set_set_perm («as» := L) hi hj
  have e1 : atE L i = L[i] := by simp [atE, List.getD_eq_getElem?_getD, List.getElem?_eq_getElem hi]
  have e2 : atE L j = L[j] := by simp [atE, List.getD_eq_getElem?_getD, List.getElem?_eq_getElem hj]
  unfold swp
  rw [e1, e2]
  exact this
theorem upL_perm (ah : Ent → Ent → Bool) : ∀ (n : Nat) (L : List Ent) (i : Nat), i ≤ n → i < L.length → (upL ah L i).1.Perm L
  | n, L, i, hi, hl => by
    by_cases h : 0 < i ∧ ah (atE L i) (atE L (par i)) = true
    · rw [upL_go h.1 h.2]
      have hp : par i < i := by unfold par; omega
      cases n with
      | zero => omega
      | succ n => exact (upL_perm ah n (swp L i (par i)) (par i) (by omega) (by rw [swp_len]; omega)).trans (swp_perm L hl (by omega))
    · rw [upL_stop h]
theorem downL_perm (ah : Ent → Ent → Bool) : ∀ (n : Nat) (L : List Ent) (i : Nat), L.length - i ≤ n → i < L.length → (downL ah L i).1.Perm L
  | n, L, i, hn, hl => by
    by_cases h : kidL ah L i < L.length ∧ ah (atE L (kidL ah L i)) (atE L i) = true
    · rw [downL_go h.1 h.2]
      have k2 := kidL_two ah L i
      cases n with
      | zero => omega
      | succ n => exact (downL_perm ah n (swp L i (kidL ah L i)) (kidL ah L i) (by rw [swp_len]; omega) (by rw [swp_len]; exact h.1)).trans (swp_perm L hl h.1)
    · rw [downL_stop h]
theorem mendL_perm (ah : Ent → Ent → Bool) (L : List Ent) (i : Nat) (hi : i < L.length) : (mendL ah L i).1.Perm L := by
  unfold mendL; split
  · exact upL_perm ah i L i (Nat.le_refl _) hi
  · exact downL_perm ah _ L i (Nat.le_refl _) hi
/-! ### no entry is ahead of its parent -/
def HO (ah : Ent → Ent → Bool) (L : List Ent) : Prop := ∀ j, 0 < j → j < L.length → ah (atE L j) (atE L (par j)) = false
def UpI (ah : Ent → Ent → Bool) (L : List Ent) (i : Nat) : Prop := (∀ j, 0 < j → j < L.length → j ≠ i → ah (atE L j) (atE L (par j)) = false) ∧ ∀ j, 0 < j → j < L.length → par j = i → 0 < i → ah (atE L j) (atE L (par i)) = false
def DnI (ah : Ent → Ent → Bool) (L : List Ent) (i : Nat) : Prop := (∀ j, 0 < j → j < L.length → par j ≠ i → ah (atE L j) (atE L (par j)) = false) ∧ ∀ j, 0 < j → j < L.length → par j = i → 0 < i → ah (atE L j) (atE L (par i)) = false
theorem upL_ho {ah : Ent → Ent → Bool} (hO : Go.Sort.SWO ah) : ∀ (n : Nat) (L : List Ent) (i : Nat), i ≤ n → i < L.length → UpI ah L i → HO ah (upL ah L i).1
  | n, L, i, hn, hl, hu => by
    by_cases h : 0 < i ∧ ah (atE L i) (atE L (par i)) = true
    · rw [upL_go h.1 h.2]
      obtain ⟨h0, h1⟩ := h
      have hp : par i < i := by unfold par; omega
      cases n with
      | zero => omega
      | succ n =>
        refine upL_ho hO n (swp L i (par i)) (par i) (by omega) (by rw [swp_len]; omega) ⟨fun j j0 jl jp => ?_, fun j j0 jl jp p0 => ?_⟩
        · rw [swp_len] at jl
          rw [swp_at L hl (by omega), swp_at L hl (by omega), if_neg jp]
          by_cases ji : j = i
          · subst ji; rw [if_pos rfl, if_pos rfl]; exact swo_asym hO h1
          · rw [if_neg ji]
            by_cases c1 : par j = par i
            · rw [if_pos c1]
              have := hu.1 j j0 jl ji
              rw [c1] at this
              exact hO.ntrans _ _ _ this (swo_asym hO h1)
            · rw [if_neg c1]
              by_cases c2 : par j = i
              · rw [if_pos c2]; exact hu.2 j j0 jl c2 h0
              · rw [if_neg c2]; exact hu.1 j j0 jl ji
        · rw [swp_len] at jl
          have pp : par (par i) < par i := by unfold par at *; omega
          have jne : j ≠ par i := by intro e; rw [e] at jp; unfold par at *; omega
          rw [swp_at L hl (by omega), swp_at L hl (by omega), if_neg jne, if_neg (by omega : ¬ par (par i) = par i), if_neg (by omega : ¬ par (par i) = i)]
          have hpp := hu.1 (par i) p0 (by omega) (by omega)
          by_cases ji : j = i
          · rw [if_pos ji]; exact hpp
          · rw [if_neg ji]
            have := hu.1 j j0 jl ji
            rw [jp] at this
            exact hO.ntrans _ _ _ this hpp
    · rw [upL_stop h]
      intro j j0 jl
      by_cases ji : j = i
      · subst ji
        cases c : ah (atE L j) (atE L (par j)) with
        | false => rfl
        | true => exact absurd ⟨j0, c⟩ h
      · exact hu.1 j j0 jl ji
theorem par_kids {i j : Nat} (h0 : 0 < j) (h : par j = i) : j = 2 * i + 1 ∨ j = 2 * i + 2 := by unfold par at h; omega
theorem kidL_best {ah : Ent → Ent → Bool} (hO : Go.Sort.SWO ah) (L : List Ent) (i j : Nat) (h0 : 0 < j) (hj : j < L.length) (hp : par j = i) : kidL ah L i < L.length ∧ ah (atE L j) (atE L (kidL ah L i)) = false := by
  unfold kidL
  by_cases c : 2 * i + 2 < L.length ∧ ah (atE L (2 * i + 2)) (atE L (2 * i + 1)) = true
  · rw [if_pos c]
    refine ⟨c.1, ?_⟩
    rcases par_kids h0 hp with rfl | rfl
    · exact swo_asym hO c.2
    · exact hO.irrefl _
  · rw [if_neg c]
    rcases par_kids h0 hp with rfl | rfl
    · exact ⟨hj, hO.irrefl _⟩
    · refine ⟨by omega, ?_⟩
      cases q : ah (atE L (2 * i + 2)) (atE L (2 * i + 1)) with
      | false => rfl
      | true => exact absurd ⟨hj, q⟩ c
theorem kidL_par (ah : Ent → Ent → Bool) (L : List Ent) (i : Nat) : par (kidL ah L i) = i ∧ i < kidL ah L i := by
  rcases kidL_two ah L i with h | h <;> rw [h] <;> unfold par <;> omega
theorem downL_ho {ah : Ent → Ent → Bool} (hO : Go.Sort.SWO ah) : ∀ (n : Nat) (L : List Ent) (i : Nat), L.length - i ≤ n → i < L.length → DnI ah L i → HO ah (downL ah L i).1
  | n, L, i, hn, hl, hd => by
    obtain ⟨kp, ki⟩ := kidL_par ah L i
    by_cases h : kidL ah L i < L.length ∧ ah (atE L (kidL ah L i)) (atE L i) = true
    · rw [downL_go h.1 h.2]
      obtain ⟨kl, k1⟩ := h
      have kb := kidL_best hO L i
      generalize kidL ah L i = k at *
      cases n with
      | zero => omega
      | succ n =>
        refine downL_ho hO n (swp L i k) k (by rw [swp_len]; omega) (by rw [swp_len]; exact kl) ⟨fun j j0 jl jp => ?_, fun j j0 jl jp p0 => ?_⟩
        · rw [swp_len] at jl
          rw [swp_at L hl kl, swp_at L hl kl, if_neg jp]
          have pj : par j < j := by unfold par; omega
          by_cases jk : j = k
          · subst jk; rw [if_pos rfl, if_pos kp]; exact swo_asym hO k1
          · rw [if_neg jk]
            by_cases c1 : par j = i
            · rw [if_neg (by omega : ¬ j = i), if_pos c1]; exact (kb j j0 jl c1).2
            · rw [if_neg c1]
              by_cases ji : j = i
              · subst ji
                rw [if_pos rfl]
                exact hd.2 k (by omega) kl kp j0
              · rw [if_neg ji]; exact hd.1 j j0 jl c1
        · rw [swp_len] at jl
          have pj : par j < j := by unfold par; omega
          rw [swp_at L hl kl, swp_at L hl kl, if_neg (by omega : ¬ j = k), if_neg (by omega : ¬ j = i), kp, if_neg (by omega : ¬ i = k), if_pos rfl]
          have := hd.1 j j0 jl (by omega)
          rw [jp] at this
          exact this
    · rw [downL_stop h]
      intro j j0 jl
      by_cases c : par j = i
      · obtain ⟨b1, b2⟩ := kidL_best hO L i j j0 jl c
        rw [c]
        refine hO.ntrans _ _ _ b2 ?_
        cases q : ah (atE L (kidL ah L i)) (atE L i) with
        | false => rfl
        | true => exact absurd ⟨b1, q⟩ h
      · exact hd.1 j j0 jl c
theorem mendL_ho {ah : Ent → Ent → Bool} (hO : Go.Sort.SWO ah) (L : List Ent) (i : Nat) (x : Ent) (hl : i < L.length) (h : HO ah L) : HO ah (mendL ah (L.set i x) i).1 := by
  have sl : (L.set i x).length = L.length := by simp
  have at' : ∀ j, atE (L.set i x) j = if j = i then x else atE L j := fun j => atE_set hl
  have pz : ∀ j, 0 < j → par j < j := fun j q => by unfold par; omega
  have far : ∀ j, 0 < j → j < L.length → par j = i → 0 < i → ah (atE (L.set i x) j) (atE (L.set i x) (par i)) = false := fun j j0 jl jp i0 => by
    have := pz j j0
    have := pz i i0
    rw [at', at', if_neg (by omega), if_neg (by omega)]
    have q := h j j0 jl
    rw [jp] at q
    exact hO.ntrans _ _ _ q (h i i0 hl)
  unfold mendL
  by_cases c : 0 < i ∧ ah (atE (L.set i x) i) (atE (L.set i x) (par i)) = true
  · rw [if_pos (by rw [upL_go c.1 c.2]; exact Nat.succ_pos _)]
    refine upL_ho hO i _ i (Nat.le_refl _) (by omega) ⟨fun j j0 jl ji => ?_, fun j j0 jl jp i0 => far j j0 (by omega) jp i0⟩
    by_cases cp : par j = i
    · have q := far j j0 (by omega) cp c.1
      rw [cp]
      exact hO.ntrans _ _ _ q (swo_asym hO c.2)
    · rw [at', at', if_neg ji, if_neg cp]
      exact h j j0 (by omega)
  · rw [if_neg (by rw [upL_stop c]; exact Nat.lt_irrefl _)]
    refine downL_ho hO _ _ i (Nat.le_refl _) (by omega) ⟨fun j j0 jl jp => ?_, fun j j0 jl jp i0 => far j j0 (by omega) jp i0⟩
    by_cases ji : j = i
    · subst ji
      cases q : ah (atE (L.set j x) j) (atE (L.set j x) (par j)) with
      | false => rfl
      | true => exact absurd ⟨j0, q⟩ c
    · rw [at', at', if_neg ji, if_neg jp]
      exact h j j0 (by omega)
theorem atE_app {L M : List Ent} {i : Nat} (h : i < L.length) : atE (L ++ M) i = atE L i := by
  unfold atE
  rw [List.getD_eq_getElem?_getD, List.getElem?_append_left h, ← List.getD_eq_getElem?_getD]
theorem HO.pre {ah : Ent → Ent → Bool} {L M : List Ent} (h : HO ah (L ++ M)) : HO ah L := fun j j0 jl => by
  have := h j j0 (by rw [List.length_append]; omega)
  rw [atE_app jl, atE_app (by unfold par; omega)] at this
  exact this
theorem pushL_ho {ah : Ent → Ent → Bool} (hO : Go.Sort.SWO ah) (L : List Ent) (x : Ent) (h : HO ah L) : HO ah (upL ah (L ++ [x]) L.length).1 := by
  have ll : (L ++ [x]).length = L.length + 1 := by simp
  refine upL_ho hO L.length _ L.length (Nat.le_refl _) (by omega) ⟨fun j j0 jl ji => ?_, fun j j0 jl jp _ => ?_⟩
  · have : par j < j := by unfold par; omega
    rw [atE_app (by omega), atE_app (by omega)]
    exact h j j0 (by omega)
  · unfold par at jp; omega
theorem HO.top {ah : Ent → Ent → Bool} (hO : Go.Sort.SWO ah) {L : List Ent} (h : HO ah L) : ∀ (n j : Nat), j ≤ n → j < L.length → ah (atE L j) (atE L 0) = false
  | n, j, hn, hj => by
    by_cases c : j = 0
    · rw [c]; exact hO.irrefl _
    · cases n with
      | zero => omega
      | succ n =>
        have : par j < j := by unfold par; omega
        exact hO.ntrans _ _ _ (h j (by omega) hj) (h.top hO n (par j) (by omega) (by omega))
/-! ### in order -/
def srtL (most : Bool) (L : List Ent) : List Ent := L.mergeSort fun x y => !ahd most y x
theorem srtL_perm (most : Bool) (L : List Ent) : (srtL most L).Perm L := List.mergeSort_perm _ _
theorem srtL_pw (most : Bool) (L : List Ent) : (srtL most L).Pairwise fun x y => ahd most y x = false := by
  have := List.pairwise_mergeSort (le := fun x y => !ahd most y x) (fun a b c h1 h2 => by
    simp only [Bool.not_eq_true'] at *
    exact (ahd_swo most).ntrans _ _ _ h2 h1) (fun a b => by
    cases q : ahd most b a with
    | false => rfl
    | true => rw [swo_asym (ahd_swo most) q]; rfl) L
  exact this.imp (fun h => by simpa using h)
theorem srtL_uniq {most : Bool} {L M : List Ent} (hp : M.Perm L) (hs : M.Pairwise fun x y => ahd most y x = false) : M = srtL most L :=
  List.Perm.eq_of_pairwise (le := fun x y => ahd most y x = false) (fun a b _ _ h1 h2 => ahd_anti most a b h2 h1) hs (srtL_pw most L) (hp.trans (srtL_perm most L).symm)
theorem srtL_same {most : Bool} {L M : List Ent} (hp : L.Perm M) : srtL most L = srtL most M := srtL_uniq ((srtL_perm most L).trans hp) (srtL_pw most L)
theorem srtL_len (most : Bool) (L : List Ent) : (srtL most L).length = L.length := (srtL_perm most L).length_eq
theorem srtL_top {most : Bool} {L M : List Ent} {x : Ent} (hp : L.Perm (x :: M)) (hx : ∀ e ∈ L, ahd most e x = false) : srtL most L = x :: srtL most M := by
  refine (srtL_uniq (((srtL_perm most M).cons x).trans hp.symm) (List.pairwise_cons.2 ⟨fun e he => hx e ?_, srtL_pw most M⟩)).symm
  exact hp.symm.subset (List.mem_cons_of_mem _ ((srtL_perm most M).subset he))
end Go.Proofs.YtboacnpbicedfaaGreatDoor.Hp

namespace Go.Proofs.YtboacnpbicedfaaGreatDoor.Hp
open Go.RowKit
set_option linter.unusedVariables false
set_option linter.unusedSimpArgs false
/-! ### the document's Sorted, plain -/
def cnt (most : Bool) (x : Ent) : List Ent → Nat
  | [] => 0
  | e :: r => if ahd most e x then cnt most x r + 1 else 0
theorem cnt_le (most : Bool) (x : Ent) : ∀ l, cnt most x l ≤ l.length
  | [] => Nat.le_refl _
  | e :: r => by
    unfold cnt
    split
    · have := cnt_le most x r; simp; omega
    · simp
theorem cnt_lt (most : Bool) (x : Ent) : ∀ (l : List Ent) (j : Nat), j < cnt most x l → ahd most (atE l j) x = true
  | [], j, h => by simp [cnt] at h
  | e :: r, j, h => by
    unfold cnt at h
    split at h
    · rename_i c
      cases j with
      | zero => exact c
      | succ j => have := cnt_lt most x r j (by omega); simpa [atE] using this
    · omega
theorem cnt_end (most : Bool) (x : Ent) : ∀ (l : List Ent), cnt most x l < l.length → ahd most (atE l (cnt most x l)) x = false
  | [], h => by simp at h
  | e :: r, h => by
    unfold cnt at h ⊢
    by_cases c : ahd most e x = true
    · rw [if_pos c] at h ⊢
      have := cnt_end most x r (by simp at h; omega)
      simpa [atE] using this
    · rw [if_neg c] at h ⊢
      simpa [atE] using c
def insP (most : Bool) (l : List Ent) (x : Ent) : List Ent := l.take (cnt most x l) ++ x :: l.drop (cnt most x l)
theorem insP_len (most : Bool) (l : List Ent) (x : Ent) : (insP most l x).length = l.length + 1 := by
  unfold insP
  have := cnt_le most x l
  simp
  omega
theorem insP_perm (most : Bool) (l : List Ent) (x : Ent) : (insP most l x).Perm (x :: l) := by
  unfold insP
  refine List.perm_middle.trans ?_
  rw [List.take_append_drop]
theorem insP_pw {most : Bool} {x : Ent} : ∀ {l : List Ent}, l.Pairwise (fun a b => ahd most b a = false) → (insP most l x).Pairwise (fun a b => ahd most b a = false)
  | [], _ => by simp [insP, cnt]
  | e :: r, h => by
    obtain ⟨h1, h2⟩ := List.pairwise_cons.1 h
    by_cases c : ahd most e x = true
    · have e1 : insP most (e :: r) x = e :: insP most r x := by
        unfold insP
        have : cnt most x (e :: r) = cnt most x r + 1 := by rw [cnt, if_pos c]
        rw [this]
        simp
      rw [e1]
      refine List.pairwise_cons.2 ⟨fun y hy => ?_, insP_pw h2⟩
      rcases List.mem_cons.1 ((insP_perm most r x).subset hy) with rfl | q
      · exact swo_asym (ahd_swo most) c
      · exact h1 y q
    · have c' : ahd most e x = false := by simpa using c
      have e1 : insP most (e :: r) x = x :: e :: r := by
        unfold insP
        have : cnt most x (e :: r) = 0 := by rw [cnt, if_neg c]
        rw [this]
        simp
      rw [e1]
      refine List.pairwise_cons.2 ⟨fun y hy => ?_, h⟩
      rcases List.mem_cons.1 hy with rfl | q
      · exact c'
      · exact (ahd_swo most).ntrans _ _ _ (h1 y q) c'
/-- the document's Sorted of the first n. -/
def rsN (most : Bool) (l : List Ent) : Nat → List Ent
  | 0 => []
  | n + 1 => insP most (rsN most l n) (atE l n)
theorem rsN_len (most : Bool) (l : List Ent) : ∀ n, (rsN most l n).length = n
  | 0 => rfl
  | n + 1 => by rw [rsN, insP_len, rsN_len most l n]
theorem rsN_pw (most : Bool) (l : List Ent) : ∀ n, (rsN most l n).Pairwise (fun a b => ahd most b a = false)
  | 0 => List.Pairwise.nil
  | n + 1 => insP_pw (rsN_pw most l n)
theorem rsN_perm (most : Bool) (l : List Ent) : ∀ n, n ≤ l.length → (rsN most l n).Perm (l.take n)
  | 0, _ => by simp [rsN]
  | n + 1, h => by
    have hs : l.take (n + 1) = l.take n ++ [atE l n] := by
      rw [List.take_add_one, atE_some (by omega)]
      rfl
    rw [hs, rsN]
    exact (insP_perm _ _ _).trans (((rsN_perm most l n (by omega)).cons _).trans (List.perm_append_singleton _ _).symm)
theorem rsN_srt (most : Bool) (l : List Ent) : rsN most l l.length = srtL most l := by
  refine srtL_uniq ?_ (rsN_pw most l l.length)
  have := rsN_perm most l l.length (Nat.le_refl _)
  rw [List.take_length] at this
  exact this
/-- while the tail is shifted. -/
structure SH (out : List Ent) (k : Nat) (R : List Ent) : Prop where
  len : R.length = out.length + 1
  lo : ∀ j, j ≤ k → j < out.length → atE R j = atE out j
  hi : ∀ j, k < j → j ≤ out.length → atE R j = atE out (j - 1)
theorem SH.start (out : List Ent) (z : Ent) : SH out out.length (out ++ [z]) := by
  refine ⟨by simp, fun j _ hj => ?_, fun j h1 h2 => by omega⟩
  unfold atE
  rw [List.getD_eq_getElem?_getD, List.getElem?_append_left hj, ← List.getD_eq_getElem?_getD]
theorem SH.step {out R : List Ent} {k : Nat} (h : SH out k R) (hk : 0 < k) (hl : k ≤ out.length) : SH out (k - 1) (R.set k (atE R (k - 1))) := by
  have hkR : k < R.length := by rw [h.len]; omega
  refine ⟨by simp [h.len], fun j h1 h2 => ?_, fun j h1 h2 => ?_⟩
  · rw [atE_set hkR, if_neg (by omega)]; exact h.lo j (by omega) h2
  · rw [atE_set hkR]
    by_cases c : j = k
    · rw [if_pos c, c]; exact h.lo (k - 1) (by omega) (by omega)
    · rw [if_neg c]; exact h.hi j (by omega) h2
theorem list_ext {a b : List Ent} (h : a.length = b.length) (h2 : ∀ j, j < a.length → atE a j = atE b j) : a = b := by
  apply List.ext_getElem?
  intro j
  by_cases hj : j < a.length
  · rw [atE_some hj, atE_some (by omega), h2 j hj]
  · rw [List.getElem?_eq_none (by omega), List.getElem?_eq_none (by omega)]
theorem SH.ends {out R : List Ent} {k : Nat} {x : Ent} (h : SH out k R) (hk : k ≤ out.length) : R.set k x = out.take k ++ x :: out.drop k := by
  have hkR : k < R.length := by rw [h.len]; omega
  refine list_ext (by simp [h.len]; omega) fun j hj => ?_
  have hj' : j < out.length + 1 := by simpa [h.len] using hj
  have tl : (out.take k).length = k := by simp; omega
  rw [atE_set hkR]
  by_cases c : j = k
  · rw [if_pos c]
    unfold atE
    rw [List.getD_eq_getElem?_getD, List.getElem?_append_right (by omega), tl, c]
    simp
  · rw [if_neg c]
    by_cases c2 : j < k
    · rw [h.lo j (by omega) (by omega)]
      unfold atE
      rw [List.getD_eq_getElem?_getD, List.getD_eq_getElem?_getD, List.getElem?_append_left (by omega), List.getElem?_take, if_pos c2]
    · rw [h.hi j (by omega) (by omega)]
      unfold atE
      rw [List.getD_eq_getElem?_getD, List.getD_eq_getElem?_getD, List.getElem?_append_right (by omega), tl]
      rw [show j - k = (j - k - 1) + 1 by omega, List.getElem?_cons_succ, List.getElem?_drop]
      congr 2
      omega
end Go.Proofs.YtboacnpbicedfaaGreatDoor.Hp
