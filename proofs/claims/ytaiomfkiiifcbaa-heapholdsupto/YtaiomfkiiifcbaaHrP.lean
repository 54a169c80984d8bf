
import Derived.Test.YtaiomfkiiifcbaaHpP
namespace Go.Proofs.Ytaiomfkiiifcbaa.Hp
open Go.RowKit
set_option linter.unusedVariables false
set_option linter.unusedSimpArgs false
/-! ### the document's Sorted, plain -/
def cnt (most : Bool) (x : Ent) : List Ent → Nat
  | [] => 0
  | e :: r => if ahd most e x then cnt most x r + 1 else 0
theorem cnt_le (most : Bool) (x : Ent) : ∀ l, cnt most x l ≤ l.length
  | [] => Nat.le_refl _
  | e :: r => by
    unfold cnt
    split
    · have := cnt_le most x r; simp; omega
    · simp
theorem cnt_lt (most : Bool) (x : Ent) : ∀ (l : List Ent) (j : Nat), j < cnt most x l → ahd most (atE l j) x = true
  | [], j, h => by simp [cnt] at h
  | e :: r, j, h => by
    unfold cnt at h
    split at h
    · rename_i c
      cases j with
      | zero => exact c
      | succ j => have := cnt_lt most x r j (by omega); simpa [atE] using this
    · omega
theorem cnt_end (most : Bool) (x : Ent) : ∀ (l : List Ent), cnt most x l < l.length → ahd most (atE l (cnt most x l)) x = false
  | [], h => by simp at h
  | e :: r, h => by
    unfold cnt at h ⊢
    by_cases c : ahd most e x = true
    · rw [if_pos c] at h ⊢
      have := cnt_end most x r (by simp at h; omega)
      simpa [atE] using this
    · rw [if_neg c] at h ⊢
      simpa [atE] using c
def insP (most : Bool) (l : List Ent) (x : Ent) : List Ent := l.take (cnt most x l) ++ x :: l.drop (cnt most x l)
theorem insP_len (most : Bool) (l : List Ent) (x : Ent) : (insP most l x).length = l.length + 1 := by
  unfold insP
  have := cnt_le most x l
  simp
  omega
theorem insP_perm (most : Bool) (l : List Ent) (x : Ent) : (insP most l x).Perm (x :: l) := by
  unfold insP
  refine List.perm_middle.trans ?_
  rw [List.take_append_drop]
theorem insP_pw {most : Bool} {x : Ent} : ∀ {l : List Ent}, l.Pairwise (fun a b => ahd most b a = false) → (insP most l x).Pairwise (fun a b => ahd most b a = false)
  | [], _ => by simp [insP, cnt]
  | e :: r, h => by
    obtain ⟨h1, h2⟩ := List.pairwise_cons.1 h
    by_cases c : ahd most e x = true
    · have e1 : insP most (e :: r) x = e :: insP most r x := by
        unfold insP
        have : cnt most x (e :: r) = cnt most x r + 1 := by rw [cnt, if_pos c]
        rw [this]
        simp
      rw [e1]
      refine List.pairwise_cons.2 ⟨fun y hy => ?_, insP_pw h2⟩
      rcases List.mem_cons.1 ((insP_perm most r x).subset hy) with rfl | q
      · exact swo_asym (ahd_swo most) c
      · exact h1 y q
    · have c' : ahd most e x = false := by simpa using c
      have e1 : insP most (e :: r) x = x :: e :: r := by
        unfold insP
        have : cnt most x (e :: r) = 0 := by rw [cnt, if_neg c]
        rw [this]
        simp
      rw [e1]
      refine List.pairwise_cons.2 ⟨fun y hy => ?_, h⟩
      rcases List.mem_cons.1 hy with rfl | q
      · exact c'
      · exact (ahd_swo most).ntrans _ _ _ (h1 y q) c'
/-- the document's Sorted of the first n. -/
def rsN (most : Bool) (l : List Ent) : Nat → List Ent
  | 0 => []
  | n + 1 => insP most (rsN most l n) (atE l n)
theorem rsN_len (most : Bool) (l : List Ent) : ∀ n, (rsN most l n).length = n
  | 0 => rfl
  | n + 1 => by rw [rsN, insP_len, rsN_len most l n]
theorem rsN_pw (most : Bool) (l : List Ent) : ∀ n, (rsN most l n).Pairwise (fun a b => ahd most b a = false)
  | 0 => List.Pairwise.nil
  | n + 1 => insP_pw (rsN_pw most l n)
theorem rsN_perm (most : Bool) (l : List Ent) : ∀ n, n ≤ l.length → (rsN most l n).Perm (l.take n)
  | 0, _ => by simp [rsN]
  | n + 1, h => by
    have hs : l.take (n + 1) = l.take n ++ [atE l n] := by
      rw [List.take_add_one, atE_some (by omega)]
      rfl
    rw [hs, rsN]
    exact (insP_perm _ _ _).trans (((rsN_perm most l n (by omega)).cons _).trans (List.perm_append_singleton _ _).symm)
theorem rsN_srt (most : Bool) (l : List Ent) : rsN most l l.length = srtL most l := by
  refine srtL_uniq ?_ (rsN_pw most l l.length)
  have := rsN_perm most l l.length (Nat.le_refl _)
  rw [List.take_length] at this
  exact this
/-- while the tail is shifted. -/
structure SH (out : List Ent) (k : Nat) (R : List Ent) : Prop where
  len : R.length = out.length + 1
  lo : ∀ j, j ≤ k → j < out.length → atE R j = atE out j
  hi : ∀ j, k < j → j ≤ out.length → atE R j = atE out (j - 1)
theorem SH.start (out : List Ent) (z : Ent) : SH out out.length (out ++ [z]) := by
  refine ⟨by simp, fun j _ hj => ?_, fun j h1 h2 => by omega⟩
  unfold atE
  rw [List.getD_eq_getElem?_getD, List.getElem?_append_left hj, ← List.getD_eq_getElem?_getD]
theorem SH.step {out R : List Ent} {k : Nat} (h : SH out k R) (hk : 0 < k) (hl : k ≤ out.length) : SH out (k - 1) (R.set k (atE R (k - 1))) := by
  have hkR : k < R.length := by rw [h.len]; omega
  refine ⟨by simp [h.len], fun j h1 h2 => ?_, fun j h1 h2 => ?_⟩
  · rw [atE_set hkR, if_neg (by omega)]; exact h.lo j (by omega) h2
  · rw [atE_set hkR]
    by_cases c : j = k
    · rw [if_pos c, c]; exact h.lo (k - 1) (by omega) (by omega)
    · rw [if_neg c]; exact h.hi j (by omega) h2
theorem list_ext {a b : List Ent} (h : a.length = b.length) (h2 : ∀ j, j < a.length → atE a j = atE b j) : a = b := by
  apply List.ext_getElem?
  intro j
  by_cases hj : j < a.length
  · rw [atE_some hj, atE_some (by omega), h2 j hj]
  · rw [List.getElem?_eq_none (by omega), List.getElem?_eq_none (by omega)]
theorem SH.ends {out R : List Ent} {k : Nat} {x : Ent} (h : SH out k R) (hk : k ≤ out.length) : R.set k x = out.take k ++ x :: out.drop k := by
  have hkR : k < R.length := by rw [h.len]; omega
  refine list_ext (by simp [h.len]; omega) fun j hj => ?_
  have hj' : j < out.length + 1 := by simpa [h.len] using hj
  have tl : (out.take k).length = k := by simp; omega
  rw [atE_set hkR]
  by_cases c : j = k
  · rw [if_pos c]
    unfold atE
    rw [List.getD_eq_getElem?_getD, List.getElem?_append_right (by omega), tl, c]
    simp
  · rw [if_neg c]
    by_cases c2 : j < k
    · rw [h.lo j (by omega) (by omega)]
      unfold atE
      rw [List.getD_eq_getElem?_getD, List.getD_eq_getElem?_getD, List.getElem?_append_left (by omega), List.getElem?_take, if_pos c2]
    · rw [h.hi j (by omega) (by omega)]
      unfold atE
      rw [List.getD_eq_getElem?_getD, List.getD_eq_getElem?_getD, List.getElem?_append_right (by omega), tl]
      rw [show j - k = (j - k - 1) + 1 by omega, List.getElem?_cons_succ, List.getElem?_drop]
      congr 2
      omega
end Go.Proofs.Ytaiomfkiiifcbaa.Hp
