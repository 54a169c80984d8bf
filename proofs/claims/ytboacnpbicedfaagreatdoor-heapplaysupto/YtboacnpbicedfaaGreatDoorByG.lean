
import Derived.Test.YtboacnpbicedfaaGreatDoorByQ
import Derived.Test.YtboacnpbicedfaaGreatDoorHuDq
import Derived.Test.YtboacnpbicedfaaGreatDoorByD
namespace Go.Proofs.YtboacnpbicedfaaGreatDoor.Hp
open Go.RowKit
set_option linter.unusedVariables false
set_option linter.unusedSimpArgs false
/-! ### where a name is, and what a change leaves, plain -/
def fndTo (L : List Ent) (s : ByteArray) : Nat → Option Nat
  | 0 => none
  | n + 1 => if (atE L n).2 = s then some n else fndTo L s n
def fnd (L : List Ent) (s : ByteArray) : Option Nat := fndTo L s L.length
theorem fndTo_none {L : List Ent} {s : ByteArray} : ∀ {n : Nat}, fndTo L s n = none ↔ ∀ i, i < n → (atE L i).2 ≠ s
  | 0 => ⟨fun _ i h => by omega, fun _ => rfl⟩
  | n + 1 => by
    unfold fndTo
    by_cases c : (atE L n).2 = s
    · rw [if_pos c]; exact ⟨fun h => (by cases h), fun h => absurd c (h n (by omega))⟩
    · rw [if_neg c, fndTo_none]
      exact ⟨fun h i hi => by
        by_cases q : i = n
        · rw [q]; exact c
        · exact h i (by omega), fun h i hi => h i (by omega)⟩
theorem fndTo_some {L : List Ent} {s : ByteArray} : ∀ {n i : Nat}, fndTo L s n = some i → i < n ∧ (atE L i).2 = s
  | 0, i, h => by cases h
  | n + 1, i, h => by
    unfold fndTo at h
    by_cases c : (atE L n).2 = s
    · rw [if_pos c] at h; injection h with h; subst h; exact ⟨by omega, c⟩
    · rw [if_neg c] at h; have := fndTo_some h; exact ⟨by omega, this.2⟩
theorem fnd_none {L : List Ent} {s : ByteArray} : fnd L s = none ↔ ∀ e ∈ L, e.2 ≠ s := by
  unfold fnd
  rw [fndTo_none]
  constructor
  · intro h e he
    obtain ⟨k, hk⟩ := List.getElem?_of_mem he
    have := h k (List.getElem?_eq_some_iff.1 hk).1
    rw [atE_get hk] at this
    exact this
  · intro h i hi
    exact h _ (List.mem_of_getElem? (atE_some hi))
theorem fnd_some {L : List Ent} {s : ByteArray} {i : Nat} (h : fnd L s = some i) : i < L.length ∧ (atE L i).2 = s := fndTo_some h
theorem PL.fnd {f : ByteArray → Option Nat} {L : List Ent} (h : PL none f L) (s : ByteArray) : f s = fnd L s := by
  cases q : Hp.fnd L s with
  | none =>
    cases p : f s with
    | none => rfl
    | some i =>
      obtain ⟨h1, h2⟩ := h.lt (by simp) p
      exact absurd h2 (fnd_none.1 q _ (List.mem_of_getElem? (atE_some h1)))
  | some i =>
    obtain ⟨h1, h2⟩ := fnd_some q
    rw [← h2]
    exact h.at h1
/-- no two have one name. -/
def ND (L : List Ent) : Prop := ∀ i j, i < L.length → j < L.length → (atE L i).2 = (atE L j).2 → i = j
theorem PL.nd {f : ByteArray → Option Nat} {L : List Ent} (h : PL none f L) : ND L := fun i j hi hj e => h.inj hi hj e
theorem ND.uniq {L : List Ent} (h : ND L) {a b : Ent} (ha : a ∈ L) (hb : b ∈ L) (e : a.2 = b.2) : a = b := by
  obtain ⟨i, hi⟩ := List.getElem?_of_mem ha
  obtain ⟨j, hj⟩ := List.getElem?_of_mem hb
  have li := (List.getElem?_eq_some_iff.1 hi).1
  have lj := (List.getElem?_eq_some_iff.1 hj).1
  have := h i j li lj (by rw [atE_get hi, atE_get hj]; exact e)
  rw [← atE_get hi, ← atE_get hj, this]
def cutA (l : List Ent) (i : Nat) : List Ent := l.take i ++ l.drop (i + 1)
theorem cutA_perm {l : List Ent} {i : Nat} (hi : i < l.length) : l.Perm (atE l i :: cutA l i) := by
  have e : l = l.take i ++ atE l i :: l.drop (i + 1) := by
    conv => lhs; rw [← List.take_append_drop i l]
    rw [List.drop_eq_getElem_cons hi]
    congr 2
    have := atE_some hi
    rw [List.getElem?_eq_getElem hi] at this
    injection this
  unfold cutA
  conv => lhs; rw [e]
  exact List.perm_middle
theorem setA_perm {l : List Ent} {i : Nat} (hi : i < l.length) (y : Ent) : (l.set i y).Perm (y :: cutA l i) := by
  rw [List.set_eq_take_append_cons_drop, if_pos hi]
  exact List.perm_middle
/-- the last one over the one that goes. -/
def goneL (L : List Ent) (i : Nat) : List Ent := if i = L.length - 1 then L.dropLast else L.dropLast.set i (atE L (L.length - 1))
theorem snoc_form {L : List Ent} (h : 0 < L.length) : ∃ M x, L = M ++ [x] := by
  rcases List.eq_nil_or_concat L with e | ⟨M, x, e⟩
  · rw [e] at h; simp at h
  · exact ⟨M, x, by rw [e]; simp⟩
theorem atE_snoc (M : List Ent) (x : Ent) : atE (M ++ [x]) M.length = x := atE_get (by simp)
theorem goneL_last (M : List Ent) (x : Ent) : goneL (M ++ [x]) M.length = M := by
  unfold goneL
  rw [if_pos (by simp), List.dropLast_concat]
theorem goneL_over {M : List Ent} {x : Ent} {i : Nat} (h : i < M.length) : goneL (M ++ [x]) i = M.set i x := by
  unfold goneL
  have : (M ++ [x]).length - 1 = M.length := by simp
  rw [this, if_neg (by omega), List.dropLast_concat, atE_snoc]
theorem goneL_perm {L : List Ent} {i : Nat} (hi : i < L.length) : L.Perm (atE L i :: goneL L i) := by
  obtain ⟨M, x, rfl⟩ := snoc_form (L := L) (by omega)
  have ll : (M ++ [x]).length = M.length + 1 := by simp
  by_cases c : i = M.length
  · subst c
    rw [goneL_last, atE_snoc]
    exact List.perm_append_singleton x M
  · have hi2 : i < M.length := by omega
    rw [goneL_over hi2, atE_app hi2]
    have h1 := (cutA_perm hi2).append_right [x]
    have h2 := setA_perm hi2 x
    refine h1.trans ?_
    refine (List.Perm.trans ?_ (h2.symm.cons _))
    exact (List.perm_append_singleton x (atE M i :: cutA M i)).trans (List.Perm.swap _ _ _)
def putL (most : Bool) (L : List Ent) (x : Ent) : List Ent := match fnd L x.2 with
  | some _ => L
  | none => (upL (ahd most) (L ++ [x]) L.length).1
def takL (most : Bool) (L : List Ent) (s : ByteArray) : List Ent := match fnd L s with
  | none => L
  | some i => if i = L.length - 1 then goneL L i else (mendL (ahd most) (goneL L i) i).1
def turL (most : Bool) (L : List Ent) (s : ByteArray) (r : Int) : List Ent := match fnd L s with
  | none => L
  | some i => (mendL (ahd most) (L.set i (r, s)) i).1
theorem goneL_len (L : List Ent) (i : Nat) : (goneL L i).length = L.length - 1 := by unfold goneL; split <;> simp
theorem takL_some {most : Bool} {L : List Ent} {s : ByteArray} {i : Nat} (h : fnd L s = some i) : L.Perm (atE L i :: takL most L s) := by
  obtain ⟨hi, _⟩ := fnd_some h
  unfold takL
  rw [h]
  simp only
  refine (goneL_perm hi).trans (List.Perm.cons _ ?_)
  split
  · exact List.Perm.refl _
  · rename_i c
    exact (mendL_perm _ _ _ (by rw [goneL_len]; omega)).symm
theorem takL_none {most : Bool} {L : List Ent} {s : ByteArray} (h : fnd L s = none) : takL most L s = L := by unfold takL; rw [h]
theorem putL_none {most : Bool} {L : List Ent} {x : Ent} (h : fnd L x.2 = none) : (putL most L x).Perm (L ++ [x]) := by
  unfold putL
  rw [h]
  exact upL_perm _ L.length _ _ (Nat.le_refl _) (by simp)
theorem putL_some {most : Bool} {L : List Ent} {x : Ent} {i : Nat} (h : fnd L x.2 = some i) : putL most L x = L := by unfold putL; rw [h]
theorem turL_some {most : Bool} {L : List Ent} {s : ByteArray} {r : Int} {i : Nat} (h : fnd L s = some i) : (turL most L s r).Perm ((r, s) :: cutA L i) := by
  obtain ⟨hi, _⟩ := fnd_some h
  unfold turL
  rw [h]
  exact (mendL_perm _ _ _ (by simpa using hi)).trans (setA_perm hi _)
theorem turL_none {most : Bool} {L : List Ent} {s : ByteArray} {r : Int} (h : fnd L s = none) : turL most L s r = L := by unfold turL; rw [h]
theorem putL_ho {most : Bool} {L : List Ent} {x : Ent} (h : HO (ahd most) L) : HO (ahd most) (putL most L x) := by
  unfold putL
  split
  · exact h
  · exact pushL_ho (ahd_swo most) L x h
theorem HO.drop {ah : Ent → Ent → Bool} {L : List Ent} (h : HO ah L) : HO ah L.dropLast := by
  rcases List.eq_nil_or_concat L with e | ⟨M, x, e⟩
  · rw [e]; intro j _ hj; simp at hj
  · subst e
    rw [List.concat_eq_append] at h ⊢
    rw [List.dropLast_concat]
    exact h.pre
theorem takL_ho {most : Bool} {L : List Ent} {s : ByteArray} (h : HO (ahd most) L) : HO (ahd most) (takL most L s) := by
  unfold takL
  split
  · exact h
  · rename_i i q
    obtain ⟨hi, _⟩ := fnd_some q
    unfold goneL
    split
    · exact h.drop
    · exact mendL_ho (ahd_swo most) _ i _ (by simp; omega) h.drop
theorem turL_ho {most : Bool} {L : List Ent} {s : ByteArray} {r : Int} (h : HO (ahd most) L) : HO (ahd most) (turL most L s r) := by
  unfold turL
  split
  · exact h
  · rename_i i q
    exact mendL_ho (ahd_swo most) L i _ (fnd_some q).1 h
theorem putL_len (most : Bool) (L : List Ent) (x : Ent) : (putL most L x).length ≤ L.length + 1 := by
  cases h : fnd L x.2 with
  | none => rw [(putL_none h).length_eq]; simp
  | some i => rw [putL_some h]; omega
theorem takL_len (most : Bool) (L : List Ent) (s : ByteArray) : (takL most L s).length ≤ L.length := by
  cases h : fnd L s with
  | none => rw [takL_none h]; exact Nat.le_refl _
  | some i => have := (takL_some (most := most) h).length_eq; simp at this; omega
theorem turL_len (most : Bool) (L : List Ent) (s : ByteArray) (r : Int) : (turL most L s r).length = L.length := by
  cases h : fnd L s with
  | none => rw [turL_none h]
  | some i =>
    rw [(turL_some h).length_eq]
    obtain ⟨hi, _⟩ := fnd_some h
    have := (cutA_perm hi).length_eq
    simp at this ⊢
    exact this.symm
/-- what is in by what was done, by definition. -/
def stepD (k : Int) (e : Ent) (l : List Ent) : List Ent := match fnd l e.2 with
  | none => if k = 0 then l ++ [e] else l
  | some i => if k = 1 then cutA l i else if k = 2 then l.set i (e.1, (atE l i).2) else l
theorem fnd_perm {L l : List Ent} (hp : L.Perm l) (s : ByteArray) (h : fnd L s = none) : fnd l s = none := by
  rw [fnd_none] at h ⊢
  exact fun e he => h e (hp.symm.subset he)
theorem fnd_at {L l : List Ent} (hp : L.Perm l) (nd : ND L) {s : ByteArray} {i : Nat} (h : fnd L s = some i) : ∃ j, fnd l s = some j ∧ atE l j = atE L i := by
  cases q : fnd l s with
  | none => rw [fnd_perm hp.symm s q] at h; cases h
  | some j =>
    obtain ⟨h1, h2⟩ := fnd_some h
    obtain ⟨h3, h4⟩ := fnd_some q
    exact ⟨j, rfl, nd.uniq (hp.symm.subset (List.mem_of_getElem? (atE_some h3))) (List.mem_of_getElem? (atE_some h1)) (by rw [h2, h4])⟩
theorem cut_perm {L l M : List Ent} (hp : L.Perm l) (nd : ND L) {s : ByteArray} {i j : Nat} (h : fnd L s = some i) (hj : fnd l s = some j) (e : atE l j = atE L i) (hM : L.Perm (atE L i :: M)) : M.Perm (cutA l j) := by
  have h1 := hM.symm.trans (hp.trans (cutA_perm (fnd_some hj).1))
  rw [e] at h1
  exact h1.cons_inv
theorem step_put {most : Bool} {L l : List Ent} (hp : L.Perm l) (nd : ND L) (e : Ent) : (putL most L e).Perm (stepD 0 e l) := by
  unfold stepD
  cases h : fnd L e.2 with
  | none => rw [fnd_perm hp _ h]; simp only [if_true]; exact (putL_none h).trans (hp.append_right _)
  | some i =>
    obtain ⟨j, h1, _⟩ := fnd_at hp nd h
    rw [h1, putL_some h]
    simpa using hp
theorem step_tak {most : Bool} {L l : List Ent} (hp : L.Perm l) (nd : ND L) (e : Ent) : (takL most L e.2).Perm (stepD 1 e l) := by
  unfold stepD
  cases h : fnd L e.2 with
  | none => rw [fnd_perm hp _ h, takL_none h]; simpa using hp
  | some i =>
    obtain ⟨j, h1, h2⟩ := fnd_at hp nd h
    rw [h1]
    simp only [if_true]
    exact cut_perm hp nd h h1 h2 (takL_some h)
theorem step_tur {most : Bool} {L l : List Ent} (hp : L.Perm l) (nd : ND L) (e : Ent) : (turL most L e.2 e.1).Perm (stepD 2 e l) := by
  unfold stepD
  cases h : fnd L e.2 with
  | none => rw [fnd_perm hp _ h, turL_none h]; simpa using hp
  | some i =>
    obtain ⟨j, h1, h2⟩ := fnd_at hp nd h
    rw [h1]
    have hn := (fnd_some h1).2
    have hc := cut_perm hp nd h h1 h2 (cutA_perm (fnd_some h).1)
    simp only [hn, if_neg (by decide : ¬ (2 : Int) = 1), if_true]
    exact (turL_some h).trans ((hc.cons _).trans (setA_perm (fnd_some h1).1 _).symm)
theorem step_not {k : Int} {e : Ent} {l : List Ent} (h0 : k ≠ 0) (h1 : k ≠ 1) (h2 : k ≠ 2) : stepD k e l = l := by
  unfold stepD
  split
  · rw [if_neg h0]
  · rw [if_neg h1, if_neg h2]
end Go.Proofs.YtboacnpbicedfaaGreatDoor.Hp

namespace Go.Proofs.YtboacnpbicedfaaGreatDoor.Hp
open Go.RowKit Go.Maps
set_option linter.unusedVariables false
set_option linter.unusedSimpArgs false
set_option maxRecDepth 100000
/-- a result's box for an entry. -/
structure EC (w : World) (R : Nat) : Prop where
  hl : R < w.heap.size
  c0 : w.cell? ⟨R, 0, none⟩ = some (.int .i64 0)
  c1 : w.cell? ⟨R, 1, none⟩ = some (.string ⟨#[]⟩)
  z : ∀ o, w.frozen? ⟨R, o, none⟩ = false
theorem EC.keep {w w' : World} {R : Nat} (h : EC w R) (hs : w.heap.size ≤ w'.heap.size) (hb : w'.heap[R]? = w.heap[R]?) : EC w' R := by
  have cc : ∀ o, w'.cell? ⟨R, o, none⟩ = w.cell? ⟨R, o, none⟩ := fun o => World.cell?_of_block (w := w) (a := ⟨R, o, none⟩) hb
  exact ⟨Nat.lt_of_lt_of_le h.hl hs, by rw [cc]; exact h.c0, by rw [cc]; exact h.c1, fun o => by have := h.z o; simpa [World.frozen?, hb] using this⟩
theorem EC.below {w w' : World} {R : Nat} (h : EC w R) (hb : Below w.heap.size w w') : EC w' R := h.keep hb.size (hb.block R h.hl)
theorem EC.new (w : World) : EC (w.alloc (.cells #[.int .i64 0, .string ⟨#[]⟩] 30)) w.heap.size := ⟨by simp, by simp [go_sem], by simp [go_sem], fun o => by simp [go_sem]⟩
def st2 (W : World) (R : Nat) (x : Ent) : World := (W.setCell ⟨R, 0, none⟩ (.int .i64 x.1)).setCell ⟨R, 1, none⟩ (.string x.2)
theorem st2_below {w W : World} {R N : Nat} (h : Below N w W) (hR : N ≤ R) (x : Ent) : Below N w (st2 W R x) := (h.setCell (p := ⟨R, 0, none⟩) hR _).setCell (p := ⟨R, 1, none⟩) hR _
theorem DS.st2 {w : World} {B dp : Nat} {most : Bool} {v : Value} {L : List Ent} {mv : Int} (h : DS w B dp most v L mv) (R : Nat) (x : Ent) (h1 : R ≠ dp) (h2 : ∀ g, v.ownBlock = some g → R ≠ g) : DS (st2 w R x) B dp most v L mv := (h.other R 0 _ h1 h2).other R 1 _ h1 h2
/-- a rank written. -/
theorem DS.rank {w : World} {B dp g n cap : Nat} {most : Bool} {L : List Ent} {mv : Int} (h : DS w B dp most (.slice (some ⟨g, 0, none⟩) n cap) L mv) {i : Nat} (hi : i < L.length) (r : Int) : DS (w.setCell ⟨g, i * 2, none⟩ (.int .i64 r)) B dp most (.slice (some ⟨g, 0, none⟩) n cap) (L.set i (r, (atE L i).2)) mv ∧ HF dp dp (some g) w (w.setCell ⟨g, i * 2, none⟩ (.int .i64 r)) := by
  have gne := h.ne g rfl
  have co : ∀ o, (w.setCell ⟨g, i * 2, none⟩ (.int .i64 r)).cell? ⟨dp, o, none⟩ = w.cell? ⟨dp, o, none⟩ := fun o => World.cell?_setCell_other _ _ _ _ (by intro q; injection q; omega)
  obtain ⟨_, _, e1, _⟩ := h.row.form
  injection e1 with _ e2 _
  subst e2
  have t1 := (World.ownsRow.stored h.row (i * 2) (.int .i64 r)).1
  rw [encE_rank L i r hi] at t1
  refine ⟨⟨by rw [co 0]; exact h.c0, by rw [co 1]; exact h.c1, by rw [co 2]; exact h.c2, by rw [World.frozen?_setCell]; exact h.z0, by rw [World.frozen?_setCell]; exact h.z2, ?_, h.ne, by simpa using h.hl, by simpa using h.bs⟩, (HF.refl _ _ _ _).set g _ _ (Or.inr rfl)⟩
  unfold OE
  rw [List.length_set]
  exact t1
set_option maxHeartbeats 4000000 in
theorem dturn_nil (s : ByteArray) (r : Int) (w : World) : Calls Tryz.prog 33 #[.pointer none, .string s, .int .i64 r] w fun e w' => e = .returned (bV 1) ∧ Below w.heap.size w w' := by
  obtain ⟨W2, hW2⟩ : ∃ W2, W2 = w.alloc (.cells #[.int .i64 0, .int .i64 0, .int .i64 0, .bool false, .bool false] 43) := ⟨_, rfl⟩
  obtain ⟨R, hR⟩ : ∃ R, R = w.heap.size := ⟨_, rfl⟩
  have b2 : Hid (Below w.heap.size w W2) := by show Below _ _ _; rw [hW2]; exact (Below.refl _ w).alloc (Nat.le_refl _) _
  have bcH : Hid (BC W2 R) := by show BC W2 R; rw [hW2, hR]; exact BC.new w
  have CN : Hid _ := rnewB 1 W2
  unfold bV at CN ⊢
  go_enter Tryz.func33, Tryz.ntmps33
  go_wp2_with fail
  rw [← hW2, ← hR]
  have hRw : Hid (w.heap.size ≤ R) := by show _ ≤ _; omega
  clear hW2 hR
  refine Calls.mono CN.out ?_
  rintro e w1 ⟨rfl, BB⟩
  have b1 := bcH.out.below BB
  have fin : Hid (Below w.heap.size w (st5 w1 R 1)) := st5_below (below_trans b2.out (below_less BB b2.out.size)) hRw.out 1
  obtain ⟨_, c0, c1, c2, c3, c4, z⟩ := b1
  have z0 := z 0
  have z1 := z 1
  have z2 := z 2
  have z3 := z 3
  have z4 := z 4
  clear BB CN bcH b2 z hRw
  go_wp2_with fail
  simp [bodyPost, results, Tryz.results33, go_sem, c0, c1, c2, c3, c4]
  exact fin.out
set_option maxHeartbeats 4000000 in
theorem dturn_none {w : World} {B dp : Nat} {most : Bool} {v : Value} {L : List Ent} {mv : Int} (h : DS w B dp most v L mv) (s : ByteArray) (r : Int) (hr : FR L s none) (hL : L.length ≤ 1152921504606846976) : Calls Tryz.prog 33 #[.pointer (some ⟨dp, 0, none⟩), .string s, .int .i64 r] w fun e w' => e = .returned (bV 4) ∧ Below w.heap.size w w' := by
  obtain ⟨W2, hW2⟩ : ∃ W2, W2 = w.alloc (.cells #[.int .i64 0, .int .i64 0, .int .i64 0, .bool false, .bool false] 43) := ⟨_, rfl⟩
  obtain ⟨R, hR⟩ : ∃ R, R = w.heap.size := ⟨_, rfl⟩
  have b2 : Hid (Below w.heap.size w W2) := by show Below _ _ _; rw [hW2]; exact (Below.refl _ w).alloc (Nat.le_refl _) _
  have bcH : Hid (BC W2 R) := by show BC W2 R; rw [hW2, hR]; exact BC.new w
  have CF : Hid _ := dfind_any (h.below b2.out) s none hr hL
  have hx : rI none = -1 := rfl
  rw [hx] at CF
  have CN : Hid _ := rnewB 4 W2
  unfold bV at CN ⊢
  clear h hr hL hx
  go_enter Tryz.func33, Tryz.ntmps33
  go_wp2_with fail
  rw [← hW2, ← hR]
  have hRw : Hid (w.heap.size ≤ R) := by show _ ≤ _; omega
  clear hW2 hR
  refine Calls.mono CF.out ?_
  rintro e w1 ⟨rfl, hw1⟩
  subst hw1
  clear CF
  go_wp2_with fail
  refine Calls.mono CN.out ?_
  rintro e w1 ⟨rfl, BB⟩
  have b1 := bcH.out.below BB
  have fin : Hid (Below w.heap.size w (st5 w1 R 4)) := st5_below (below_trans b2.out (below_less BB b2.out.size)) hRw.out 4
  obtain ⟨_, c0, c1, c2, c3, c4, z⟩ := b1
  have z0 := z 0
  have z1 := z 1
  have z2 := z 2
  have z3 := z 3
  have z4 := z 4
  clear BB CN bcH b2 z hRw
  go_wp2_with fail
  simp [bodyPost, results, Tryz.results33, go_sem, c0, c1, c2, c3, c4]
  exact fin.out
set_option maxHeartbeats 8000000 in
theorem dturn_ok {w : World} {B dp : Nat} {most : Bool} {v : Value} {L : List Ent} {mv : Int} (h : DS w B dp most v L mv) (s : ByteArray) (r : Int) (i : Nat) (hr : FR L s (some i)) (hL : L.length ≤ 1152921504606846976) : Calls Tryz.prog 33 #[.pointer (some ⟨dp, 0, none⟩), .string s, .int .i64 r] w fun e w' => e = .returned (bV 0) ∧ DO w B dp most v (mendL (ahd most) (L.set i (r, s)) i).1 (((mendL (ahd most) (L.set i (r, s)) i).2 : Nat) : Int) w' := by
  obtain ⟨W2, hW2⟩ : ∃ W2, W2 = w.alloc (.cells #[.int .i64 0, .int .i64 0, .int .i64 0, .bool false, .bool false] 43) := ⟨_, rfl⟩
  obtain ⟨R, hR⟩ : ∃ R, R = w.heap.size := ⟨_, rfl⟩
  have b2 : Hid (Below w.heap.size w W2) := by show Below _ _ _; rw [hW2]; exact (Below.refl _ w).alloc (Nat.le_refl _) _
  have bcH : Hid (BC W2 R) := by show BC W2 R; rw [hW2, hR]; exact BC.new w
  have hi : i < L.length := hr.1
  have hnm : (atE L i).2 = s := hr.2.1
  obtain ⟨av, cap, rfl, hcap, hg⟩ := h.row.form
  obtain ⟨g, rfl⟩ := hg (by omega)
  have gl : g < w.heap.size := (h.row.bound (k := g) rfl).2
  have hl := h.hl
  have szW : W2.heap.size = w.heap.size + 1 := by rw [hW2]; simp
  have D2 := h.below b2.out
  have CF : Hid _ := dfind_any D2 s (some i) hr hL
  have hx : rI (some i) = (i : Int) := rfl
  rw [hx] at CF
  have D3 := D2.rank hi r
  rw [hnm] at D3
  have D4 := D3.1.mvs 0
  obtain ⟨W4, hW4⟩ : ∃ W4, W4 = (W2.setCell ⟨g, i * 2, none⟩ (.int .i64 r)).setCell ⟨dp, 2, none⟩ (.int .i64 0) := ⟨_, rfl⟩
  rw [← hW4] at D4
  have LL : (L.set i (r, s)).length = L.length := by simp
  have CM : Hid _ := dmend_any (w := W4) ⟨D4.1, HF.refl _ _ _ _, LL⟩ i hi hL
  have F4 : HF dp dp (some g) W2 W4 := D3.2.trans D4.2
  have R4 : W4.heap[R]? = W2.heap[R]? := F4.keep R (by omega) (by omega) (by omega) (fun e => by injection e; omega)
  have RES : Hid (∀ w5, UE W4 B dp most (.slice (some ⟨g, 0, none⟩) L.length cap) L.length (mendL (ahd most) (L.set i (r, s)) i).1 (((mendL (ahd most) (L.set i (r, s)) i).2 : Nat) : Int) w5 → BC w5 R ∧ DO w B dp most (.slice (some ⟨g, 0, none⟩) L.length cap) (mendL (ahd most) (L.set i (r, s)) i).1 (((mendL (ahd most) (L.set i (r, s)) i).2 : Nat) : Int) (st5 w5 R 0)) := fun w5 u => by
    have s4 := F4.size
    have R5 : w5.heap[R]? = W4.heap[R]? := u.fr.keep R (by omega) (by omega) (by omega) (fun e => by injection e with e; have e : R = g := e; omega)
    have Fa : HF dp dp (some g) w w5 := (HF.below (hp := dp) (mb := dp) (rb := some g) b2.out).trans (F4.trans u.fr)
    exact ⟨bcH.out.keep (Nat.le_trans s4 u.fr.size) (R5.trans R4), ⟨⟨.slice (some ⟨g, 0, none⟩) L.length cap, u.ds.st5 R 0 (by omega) (fun k e => by injection e with e; have e : g = k := e; omega), fun k e => Or.inl e⟩, Fa.below' (st5_below (Below.refl R w5) (Nat.le_refl _) 0) (by omega)⟩⟩
  have c0 : W2.cell? ⟨dp, 0, none⟩ = some (.slice (some ⟨g, 0, none⟩) L.length cap) := D2.c0
  obtain ⟨q1, q2⟩ := D2.row.at hi
  have qz := D2.row.fz (i * 2)
  have m2 := D2.c2
  have mz := D2.z2
  have ne : dp ≠ g := h.ne g rfl
  have ne2 : ¬ g = dp := fun e => ne e.symm
  have ne3 : ¬ dp = g := ne
  have i0 : (0 : Int) ≤ (i : Int) := by omega
  have i00 : ¬ (i : Int) < 0 := by omega
  have iI : (i : Int) < (L.length : Int) := by omega
  have hW4H : Hid (W4 = (W2.setCell ⟨g, i * 2, none⟩ (.int .i64 r)).setCell ⟨dp, 2, none⟩ (.int .i64 0)) := hW4
  unfold bV
  generalize mendL (ahd most) (L.set i (r, s)) i = U at *
  generalize atE L i = y at *
  generalize L.length = n at *
  clear h hr hL hg hcap gl hl D2 D3 D4 LL F4 R4 hnm hx hi szW
  go_enter Tryz.func33, Tryz.ntmps33
  go_wp2_with fail
  rw [← hW2, ← hR]
  clear hW2 hR hW4
  refine Calls.mono CF.out ?_
  rintro e w1 ⟨rfl, hw1⟩
  subst hw1
  clear CF
  go_wp2_with fail
  rw [← hW4H.out]
  clear hW4H c0 q1 q2 qz m2 mz
  refine Calls.mono CM.out ?_
  rintro e w5 ⟨rfl, u5⟩
  obtain ⟨b1, fin⟩ := RES.out w5 u5
  have fin : Hid _ := fin
  clear u5 CM RES bcH b2
  obtain ⟨_, c0, c1, c2, c3, c4, z⟩ := b1
  have z0 := z 0
  have z1 := z 1
  have z2 := z 2
  have z3 := z 3
  have z4 := z 4
  clear z
  go_wp2_with fail
  simp [bodyPost, results, Tryz.results33, go_sem, c0, c1, c2, c3, c4]
  exact fin.out
set_option maxHeartbeats 4000000 in
theorem dtake_nil (s : ByteArray) (w : World) : Calls Tryz.prog 31 #[.pointer none, .string s] w fun e w' => e = .returned (.tuple #[eV (0, ⟨#[]⟩), bV 1]) ∧ Below w.heap.size w w' := by
  obtain ⟨W2, hW2⟩ : ∃ W2, W2 = (w.alloc (.cells #[.int .i64 0, .string ⟨#[]⟩] 30)).alloc (.cells #[.int .i64 0, .int .i64 0, .int .i64 0, .bool false, .bool false] 43) := ⟨_, rfl⟩
  obtain ⟨K, hK⟩ : ∃ K, K = w.heap.size := ⟨_, rfl⟩
  obtain ⟨R, hR⟩ : ∃ R, R = w.heap.size + 1 := ⟨_, rfl⟩
  have b2 : Hid (Below w.heap.size w W2) := by show Below _ _ _; rw [hW2]; exact ((Below.refl _ w).alloc (Nat.le_refl _) _).alloc (by simp) _
  have bcH : Hid (BC W2 R) := by
    have := BC.new (w.alloc (.cells #[.int .i64 0, .string ⟨#[]⟩] 30))
    show BC W2 R
    rw [hW2, hR]; simpa using this
  have ecH : Hid (EC W2 K) := by
    have := (EC.new w).keep (w' := W2) (by rw [hW2]; simp) (by rw [hW2]; exact ((Below.refl (w.alloc (.cells #[.int .i64 0, .string ⟨#[]⟩] 30)).heap.size _).alloc (Nat.le_refl _) _).block _ (by simp))
    show EC W2 K
    rw [hK]; exact this
  have CN : Hid _ := rnewB 1 W2
  unfold bV at CN ⊢
  unfold eV
  go_enter Tryz.func31, Tryz.ntmps31
  go_wp2_with fail
  rw [← hW2, ← hR, ← hK]
  have hRw : Hid (w.heap.size ≤ R ∧ w.heap.size ≤ K) := ⟨by omega, by omega⟩
  have kr : ¬ K = R := by omega
  have rk : ¬ R = K := by omega
  clear hW2 hR hK
  refine Calls.mono CN.out ?_
  rintro e w1 ⟨rfl, BB⟩
  have b1 := bcH.out.below BB
  obtain ⟨_, e0, e1, ez⟩ := ecH.out.below BB
  have ez0 := ez 0
  have ez1 := ez 1
  have fin : Hid (Below w.heap.size w (st5 (st2 w1 K (0, ⟨#[]⟩)) R 1)) := st5_below (st2_below (below_trans b2.out (below_less BB b2.out.size)) hRw.out.2 _) hRw.out.1 1
  obtain ⟨_, c0, c1, c2, c3, c4, z⟩ := b1
  have z0 := z 0
  have z1 := z 1
  have z2 := z 2
  have z3 := z 3
  have z4 := z 4
  clear BB CN bcH b2 z hRw ecH ez
  go_wp2_with fail
  simp [bodyPost, results, Tryz.results31, go_sem, c0, c1, c2, c3, c4, e0, e1, kr, rk]
  exact fin.out
set_option maxHeartbeats 4000000 in
theorem dtake_none {w : World} {B dp : Nat} {most : Bool} {v : Value} {L : List Ent} {mv : Int} (h : DS w B dp most v L mv) (s : ByteArray) (hr : FR L s none) (hL : L.length ≤ 1152921504606846976) : Calls Tryz.prog 31 #[.pointer (some ⟨dp, 0, none⟩), .string s] w fun e w' => e = .returned (.tuple #[eV (0, ⟨#[]⟩), bV 4]) ∧ Below w.heap.size w w' := by
  obtain ⟨W2, hW2⟩ : ∃ W2, W2 = (w.alloc (.cells #[.int .i64 0, .string ⟨#[]⟩] 30)).alloc (.cells #[.int .i64 0, .int .i64 0, .int .i64 0, .bool false, .bool false] 43) := ⟨_, rfl⟩
  obtain ⟨K, hK⟩ : ∃ K, K = w.heap.size := ⟨_, rfl⟩
  obtain ⟨R, hR⟩ : ∃ R, R = w.heap.size + 1 := ⟨_, rfl⟩
  have b2 : Hid (Below w.heap.size w W2) := by show Below _ _ _; rw [hW2]; exact ((Below.refl _ w).alloc (Nat.le_refl _) _).alloc (by simp) _
  have bcH : Hid (BC W2 R) := by
    have := BC.new (w.alloc (.cells #[.int .i64 0, .string ⟨#[]⟩] 30))
    show BC W2 R
    rw [hW2, hR]; simpa using this
  have ecH : Hid (EC W2 K) := by
    have := (EC.new w).keep (w' := W2) (by rw [hW2]; simp) (by rw [hW2]; exact ((Below.refl (w.alloc (.cells #[.int .i64 0, .string ⟨#[]⟩] 30)).heap.size _).alloc (Nat.le_refl _) _).block _ (by simp))
    show EC W2 K
    rw [hK]; exact this
  have CF : Hid _ := dfind_any (h.below b2.out) s none hr hL
  have hx : rI none = -1 := rfl
  rw [hx] at CF
  have CN : Hid _ := rnewB 4 W2
  unfold bV at CN ⊢
  unfold eV
  clear h hr hL hx
  go_enter Tryz.func31, Tryz.ntmps31
  go_wp2_with fail
  rw [← hW2, ← hR, ← hK]
  have hRw : Hid (w.heap.size ≤ R ∧ w.heap.size ≤ K) := ⟨by omega, by omega⟩
  have kr : ¬ K = R := by omega
  have rk : ¬ R = K := by omega
  clear hW2 hR hK
  refine Calls.mono CF.out ?_
  rintro e w1 ⟨rfl, hw1⟩
  subst hw1
  clear CF
  go_wp2_with fail
  refine Calls.mono CN.out ?_
  rintro e w1 ⟨rfl, BB⟩
  have b1 := bcH.out.below BB
  obtain ⟨_, e0, e1, ez⟩ := ecH.out.below BB
  have ez0 := ez 0
  have ez1 := ez 1
  have fin : Hid (Below w.heap.size w (st5 (st2 w1 K (0, ⟨#[]⟩)) R 4)) := st5_below (st2_below (below_trans b2.out (below_less BB b2.out.size)) hRw.out.2 _) hRw.out.1 4
  obtain ⟨_, c0, c1, c2, c3, c4, z⟩ := b1
  have z0 := z 0
  have z1 := z 1
  have z2 := z 2
  have z3 := z 3
  have z4 := z 4
  clear BB CN bcH b2 z hRw ecH ez
  go_wp2_with fail
  simp [bodyPost, results, Tryz.results31, go_sem, c0, c1, c2, c3, c4, e0, e1, kr, rk]
  exact fin.out
end Go.Proofs.YtboacnpbicedfaaGreatDoor.Hp

namespace Go.Proofs.YtboacnpbicedfaaGreatDoor.Hp
open Go.RowKit Go.Maps
set_option linter.unusedVariables false
set_option linter.unusedSimpArgs false
set_option maxRecDepth 100000
/-- the last entry cut off. -/
theorem DS.cut {w : World} {B dp g cap : Nat} {most : Bool} {M : List Ent} {x : Ent} {mv : Int} (h : DS w B dp most (.slice (some ⟨g, 0, none⟩) (M.length + 1) cap) (M ++ [x]) mv) : DS (w.setCell ⟨dp, 0, none⟩ (.slice (some ⟨g, 0, none⟩) M.length cap)) B dp most (.slice (some ⟨g, 0, none⟩) M.length cap) M mv ∧ HF dp dp (some g) w (w.setCell ⟨dp, 0, none⟩ (.slice (some ⟨g, 0, none⟩) M.length cap)) := by
  have gne := h.ne g rfl
  have co : ∀ o, o ≠ 0 → (w.setCell ⟨dp, 0, none⟩ (.slice (some ⟨g, 0, none⟩) M.length cap)).cell? ⟨dp, o, none⟩ = w.cell? ⟨dp, o, none⟩ := fun o ho => World.cell?_setCell_other _ _ _ _ (by intro q; injection q; omega)
  have row := h.row
  unfold OE at row
  rw [show (M ++ [x]).length = M.length + 1 by simp, encE_append] at row
  have r2 := ownsRow_pop (encE_len M) row
  exact ⟨⟨World.cell?_setCell_same _ _ _ h.c0, by rw [co 1 (by omega)]; exact h.c1, by rw [co 2 (by omega)]; exact h.c2, by rw [World.frozen?_setCell]; exact h.z0, by rw [World.frozen?_setCell]; exact h.z2, ownsRow_setCell_ne r2 _ (fun k e => by injection e with e; rw [← e]; exact gne) _, h.ne, by simpa using h.hl, by simpa using h.bs⟩, (HF.refl _ _ _ _).set dp 0 _ (Or.inl rfl)⟩
theorem nums_t (n : Nat) (hn : n + 1 ≤ 1152921504606846976) : IntKind.i64.wrap (((n + 1 : Nat) : Int) - 1) = (n : Int) ∧ wrap64 (n : Int) = (n : Int) ∧ IntKind.i64.wrap (n : Int) = (n : Int) :=
  ⟨by rw [show ((n + 1 : Nat) : Int) - 1 = (n : Int) by omega]; exact IntWalk.i64_in _ (by omega), IntWalk.wrap64_in _ (by omega), IntWalk.i64_in _ (by omega)⟩
/-- what taking the entry at a place leaves, and its moves. -/
def takP (most : Bool) (L : List Ent) (i : Nat) : List Ent × Nat := if i = L.length - 1 then (goneL L i, 0) else mendL (ahd most) (goneL L i) i
theorem gone_snoc (M : List Ent) (x : Ent) (i : Nat) (hi : i ≤ M.length) : goneL (M ++ [x]) i = M.set i x ∧ (M ++ [x]).set i x = M.set i x ++ [x] := by
  unfold goneL
  have e1 : (M ++ [x]).length - 1 = M.length := by simp
  rw [e1, List.dropLast_concat, atE_snoc]
  by_cases q : i = M.length
  · subst q
    rw [if_pos rfl, List.set_append_right _ _ (Nat.le_refl _), Nat.sub_self, List.set_eq_of_length_le (Nat.le_refl _)]
    exact ⟨rfl, rfl⟩
  · rw [if_neg q, List.set_append_left _ _ (by omega)]
    exact ⟨rfl, rfl⟩
set_option maxHeartbeats 8000000 in
theorem dtake_ok {w : World} {B dp : Nat} {most : Bool} {v : Value} {L : List Ent} {mv : Int} (h : DS w B dp most v L mv) (s : ByteArray) (i : Nat) (hr : FR L s (some i)) (hL : L.length ≤ 1152921504606846976) : Calls Tryz.prog 31 #[.pointer (some ⟨dp, 0, none⟩), .string s] w fun e w' => e = .returned (.tuple #[eV (atE L i), bV 0]) ∧ DO w B dp most v (takP most L i).1 (((takP most L i).2 : Nat) : Int) w' := by
  obtain ⟨W2, hW2⟩ : ∃ W2, W2 = (w.alloc (.cells #[.int .i64 0, .string ⟨#[]⟩] 30)).alloc (.cells #[.int .i64 0, .int .i64 0, .int .i64 0, .bool false, .bool false] 43) := ⟨_, rfl⟩
  obtain ⟨K, hK⟩ : ∃ K, K = w.heap.size := ⟨_, rfl⟩
  obtain ⟨R, hR⟩ : ∃ R, R = w.heap.size + 1 := ⟨_, rfl⟩
  have b2 : Hid (Below w.heap.size w W2) := by show Below _ _ _; rw [hW2]; exact ((Below.refl _ w).alloc (Nat.le_refl _) _).alloc (by simp) _
  have bcH : Hid (BC W2 R) := by
    have := BC.new (w.alloc (.cells #[.int .i64 0, .string ⟨#[]⟩] 30))
    show BC W2 R
    rw [hW2, hR]; simpa using this
  have ecH : Hid (EC W2 K) := by
    have := (EC.new w).keep (w' := W2) (by rw [hW2]; simp) (by rw [hW2]; exact ((Below.refl (w.alloc (.cells #[.int .i64 0, .string ⟨#[]⟩] 30)).heap.size _).alloc (Nat.le_refl _) _).block _ (by simp))
    show EC W2 K
    rw [hK]; exact this
  have hi : i < L.length := hr.1
  obtain ⟨av, cap, rfl, hcap, hg⟩ := h.row.form
  obtain ⟨g, rfl⟩ := hg (by omega)
  obtain ⟨M, x, rfl⟩ := snoc_form (L := L) (by omega)
  have LM : (M ++ [x]).length = M.length + 1 := by simp
  obtain ⟨gn1, gn2⟩ := gone_snoc M x i (by omega)
  have gl : g < w.heap.size := (h.row.bound (k := g) rfl).2
  have hl := h.hl
  have ne := h.ne g rfl
  have szW : W2.heap.size = w.heap.size + 2 := by rw [hW2]; simp
  have D2 := h.below b2.out
  have CF : Hid _ := dfind_any D2 s (some i) hr hL
  have hx : rI (some i) = (i : Int) := rfl
  rw [hx] at CF
  rw [LM] at hL hi D2
  -- the box of the entry
  obtain ⟨y, hy⟩ : ∃ y, y = atE (M ++ [x]) i := ⟨_, rfl⟩
  obtain ⟨W3, hW3⟩ : ∃ W3, W3 = W2.alloc (.cells #[.int .i64 y.1, .string y.2] 30) := ⟨_, rfl⟩
  have b3 : Below W2.heap.size W2 W3 := by rw [hW3]; exact (Below.refl _ W2).alloc (Nat.le_refl _) _
  have D3 := D2.below b3
  have P0 : W3.cell? ⟨W2.heap.size, 0, none⟩ = some (.int .i64 y.1) := by rw [hW3]; simp [go_sem]
  have P1 : W3.cell? ⟨W2.heap.size, 1, none⟩ = some (.string y.2) := by rw [hW3]; simp [go_sem]
  have sz3 : W3.heap.size = W2.heap.size + 1 := by rw [hW3]; simp
  obtain ⟨P, hP⟩ : ∃ P, P = W2.heap.size := ⟨_, rfl⟩
  rw [← hP] at P0 P1
  have D5 := D3.put (i := i) (by rw [LM]; exact hi) x
  rw [gn2] at D5
  obtain ⟨W5, hW5⟩ : ∃ W5, W5 = (W3.setCell ⟨g, i * 2, none⟩ (.int .i64 x.1)).setCell ⟨g, i * 2 + 1, none⟩ (.string x.2) := ⟨_, rfl⟩
  rw [← hW5] at D5
  have ML : (M.set i x).length = M.length := by simp
  have D6 := DS.cut (M := M.set i x) (x := x) (g := g) (cap := cap) (by rw [ML]; exact D5.1.drew)
  rw [ML] at D6
  have D7 := D6.1.mvs 0
  obtain ⟨W7, hW7⟩ : ∃ W7, W7 = (W5.drew.setCell ⟨dp, 0, none⟩ (.slice (some ⟨g, 0, none⟩) M.length cap)).setCell ⟨dp, 2, none⟩ (.int .i64 0) := ⟨_, rfl⟩
  rw [← hW7] at D7
  have F7 : HF dp dp (some g) W3 W7 := (D5.2.drew.trans D6.2).trans D7.2
  have RES : Hid (∀ (U : List Ent × Nat), U = takP most (M ++ [x]) i → ∀ w5, UE W7 B dp most (.slice (some ⟨g, 0, none⟩) M.length cap) M.length U.1 (U.2 : Nat) w5 → EC w5 K ∧ BC w5 R ∧ (w5.cell? ⟨P, 0, none⟩ = some (.int .i64 y.1) ∧ w5.cell? ⟨P, 1, none⟩ = some (.string y.2)) ∧ DO w B dp most (.slice (some ⟨g, 0, none⟩) (M.length + 1) cap) (takP most (M ++ [x]) i).1 (((takP most (M ++ [x]) i).2 : Nat) : Int) (st5 (st2 w5 K y) R 0)) := fun U hU w5 u => by
    have Fb : HF dp dp (some g) W3 w5 := F7.trans u.fr
    have kp : ∀ b, b = K ∨ b = R ∨ b = P → w5.heap[b]? = W3.heap[b]? := fun b hb => Fb.keep b (by omega) (by omega) (by omega) (fun e => by injection e with e; omega)
    have Fa : HF dp dp (some g) w w5 := (HF.below (hp := dp) (mb := dp) (rb := some g) b2.out).trans ((HF.below b3).trans Fb)
    have s5 := Fb.size
    refine ⟨(ecH.out.below b3).keep s5 (kp K (Or.inl rfl)), (bcH.out.below b3).keep s5 (kp R (Or.inr (Or.inl rfl))), ⟨by rw [World.cell?_of_block (w := W3) (a := ⟨P, 0, none⟩) (kp P (Or.inr (Or.inr rfl)))]; exact P0, by rw [World.cell?_of_block (w := W3) (a := ⟨P, 1, none⟩) (kp P (Or.inr (Or.inr rfl)))]; exact P1⟩, ⟨⟨.slice (some ⟨g, 0, none⟩) M.length cap, ?_, fun k e => Or.inl e⟩, Fa.below' (st5_below (st2_below (Below.refl K w5) (Nat.le_refl _) y) (by omega) 0) (by omega)⟩⟩
    rw [← hU]
    exact (u.ds.st2 K y (by omega) (fun k e => by injection e with e; have e : g = k := e; omega)).st5 R 0 (by omega) (fun k e => by injection e with e; have e : g = k := e; omega)
  have CM : Hid (i < M.length → Calls Tryz.prog 64 #[.pointer (some ⟨dp, 0, none⟩), .int .i64 (i : Int)] W7 fun e w' => e = .returned undef ∧ UE W7 B dp most (.slice (some ⟨g, 0, none⟩) M.length cap) M.length (mendL (ahd most) (M.set i x) i).1 ((mendL (ahd most) (M.set i x) i).2 : Nat) w') := fun q => dmend_any (w := W7) ⟨D7.1, HF.refl _ _ _ _, ML⟩ i q (by omega)
  have TA : Hid (i < M.length → mendL (ahd most) (M.set i x) i = takP most (M ++ [x]) i) := fun q => by unfold takP; rw [if_neg (by rw [LM]; omega), gn1]
  have TB : Hid (¬ i < M.length → ((M.set i x, 0) : List Ent × Nat) = takP most (M ++ [x]) i) := fun q => by unfold takP; rw [if_pos (by rw [LM]; omega), gn1]
  have U7 : Hid (UE W7 B dp most (.slice (some ⟨g, 0, none⟩) M.length cap) M.length (M.set i x) 0 W7) := ⟨D7.1, HF.refl _ _ _ _, ML⟩
  have c0 := D2.c0
  have c03 : (W2.alloc (.cells #[.int .i64 y.1, .string y.2] 30)).cell? ⟨dp, 0, none⟩ = some (.slice (some ⟨g, 0, none⟩) (M.length + 1) cap) := by rw [← hW3]; exact D3.c0
  obtain ⟨q1, q2⟩ := D2.row.at (i := i) (by rw [LM]; exact hi)
  rw [← hy] at q1 q2
  have N3 : Hid ((W3.cell? ⟨dp, 0, none⟩ = some (.slice (some ⟨g, 0, none⟩) (M.length + 1) cap)) ∧ (W3.cell? ⟨g, i * 2, none⟩ = some (.int .i64 y.1) ∧ W3.cell? ⟨g, i * 2 + 1, none⟩ = some (.string y.2)) ∧ (W3.cell? ⟨g, M.length * 2, none⟩ = some (.int .i64 x.1) ∧ W3.cell? ⟨g, M.length * 2 + 1, none⟩ = some (.string x.2)) ∧ (W3.frozen? ⟨g, i * 2, none⟩ = false ∧ W3.frozen? ⟨g, i * 2 + 1, none⟩ = false)) := by
    have a1 := D3.row.at (i := i) (by rw [LM]; exact hi)
    have a2 := D3.row.at (i := M.length) (by rw [LM]; omega)
    rw [← hy] at a1
    rw [atE_snoc] at a2
    exact ⟨D3.c0, a1, a2, D3.row.fz _, D3.row.fz _⟩
  have N5 : Hid (W5.drew.cell? ⟨dp, 0, none⟩ = some (.slice (some ⟨g, 0, none⟩) (M.length + 1) cap) ∧ W5.drew.frozen? ⟨dp, 0, none⟩ = false ∧ W5.drew.cell? ⟨dp, 2, none⟩ = some (.int .i64 mv) ∧ W5.drew.frozen? ⟨dp, 2, none⟩ = false) := ⟨D5.1.drew.c0, D5.1.drew.z0, D5.1.drew.c2, D5.1.drew.z2⟩
  have i0 : (0 : Int) ≤ (i : Int) := by omega
  have i00 : ¬ (i : Int) < 0 := by omega
  have iI : (i : Int) < ((M.length + 1 : Nat) : Int) := by omega
  have mI : (M.length : Int) < ((M.length + 1 : Nat) : Int) := by omega
  have m0 : (0 : Int) ≤ (M.length : Int) := by omega
  have mc : M.length ≤ cap := by omega
  have mcI : (M.length : Int) ≤ (cap : Int) := by omega
  obtain ⟨mw, mw2, mw3⟩ := nums_t M.length hL
  rw [LM]
  have hKH : Hid (K = w.heap.size ∧ R = w.heap.size + 1) := ⟨hK, hR⟩
  have kr : ¬ K = R := by omega
  have rk : ¬ R = K := by omega
  have kp1 : ¬ K = P := by omega
  have kp2 : ¬ P = K := by omega
  have rp1 : ¬ R = P := by omega
  have rp2 : ¬ P = R := by omega
  have hW3H : Hid (W3 = W2.alloc (.cells #[.int .i64 y.1, .string y.2] 30)) := hW3
  have hW5H : Hid (W5 = (W3.setCell ⟨g, i * 2, none⟩ (.int .i64 x.1)).setCell ⟨g, i * 2 + 1, none⟩ (.string x.2)) := hW5
  have hW7H : Hid (W7 = (W5.drew.setCell ⟨dp, 0, none⟩ (.slice (some ⟨g, 0, none⟩) M.length cap)).setCell ⟨dp, 2, none⟩ (.int .i64 0)) := hW7
  have hPH : Hid (P = W2.heap.size) := hP
  unfold bV
  unfold eV
  rw [← hy]
  generalize takP most (M ++ [x]) i = TT at *
  generalize M.set i x = MS at *
  generalize M.length = m at *
  clear h hr hL hi hcap hg LM gn1 gn2 gl hl szW D2 hx hy b3 D3 P0 P1 sz3 hP D5 hW5 ML D6 D7 hW7 F7 hW3
  go_enter Tryz.func31, Tryz.ntmps31
  go_wp2_with fail
  rw [← hW2, ← hR, ← hK]
  clear hW2 hR hK
  refine Calls.mono CF.out ?_
  rintro e w1 ⟨rfl, hw1⟩
  subst hw1
  clear CF
  go_wp2_with fail
  rw [← hW3H.out, ← hPH.out]
  clear hW3H hPH c0 c03 q1 q2
  obtain ⟨c0, ⟨q1, q2⟩, ⟨r1, r2⟩, f1, f2⟩ := N3.out
  clear N3
  go_region
  rw [← hW5H.out]
  clear hW5H c0 q1 q2 r1 r2 f1 f2
  obtain ⟨c0, z0, c2, z2⟩ := N5.out
  clear N5
  generalize W5.drew = W5d at *
  by_cases him : i < m
  · have imI : (i : Int) < (m : Int) := by omega
    have C7 : Hid _ := CM.out him
    have TA2 : Hid _ := TA.out him
    clear CM TA TB U7
    go_wp2_with fail
    rw [← hW7H.out]
    clear hW7H c0 z0 c2 z2
    refine Calls.mono C7.out ?_
    rintro e w5 ⟨rfl, u5⟩
    obtain ⟨e1, b1, ⟨P0, P1⟩, fin⟩ := RES.out _ TA2.out w5 u5
    have fin : Hid _ := fin
    clear u5 C7 RES bcH ecH b2 TA2 hKH
    obtain ⟨_, e0, e1, ez⟩ := e1
    have ez0 := ez 0
    have ez1 := ez 1
    obtain ⟨_, c0, c1, c2, c3, c4, z⟩ := b1
    have z0 := z 0
    have z1 := z 1
    have z2 := z 2
    have z3 := z 3
    have z4 := z 4
    clear z ez
    go_wp2_with fail
    simp [bodyPost, results, Tryz.results31, go_sem, c0, c1, c2, c3, c4, e0, e1, kr, rk]
    exact fin.out
  · have imI : ¬ (i : Int) < (m : Int) := by omega
    have TA2 : Hid _ := TB.out him
    obtain ⟨e1, b1, ⟨P0, P1⟩, fin⟩ := RES.out _ TA2.out W7 U7.out
    have fin : Hid _ := fin
    clear CM TA TB U7 RES bcH ecH b2 TA2 hKH
    obtain ⟨_, e0, e1, ez⟩ := e1
    have ez0 := ez 0
    have ez1 := ez 1
    obtain ⟨_, d0, d1, d2, d3, d4, z⟩ := b1
    have y0 := z 0
    have y1 := z 1
    have y2 := z 2
    have y3 := z 3
    have y4 := z 4
    clear z ez
    have HH := hW7H.out
    rw [HH] at d0 d1 d2 d3 d4 y0 y1 y2 y3 y4 e0 e1 ez0 ez1 P0 P1 fin
    clear HH hW7H
    go_wp2_with fail
    generalize (W5d.setCell ⟨dp, 0, none⟩ (.slice (some ⟨g, 0, none⟩) m cap)).setCell ⟨dp, 2, none⟩ (.int .i64 0) = W9 at *
    clear c0 z0 c2 z2 y0 y1 y2 y3 y4 ez0 ez1 P0 P1
    simp [bodyPost, results, Tryz.results31, go_sem, d0, d1, d2, d3, d4, e0, e1, kr, rk]
    exact fin.out
end Go.Proofs.YtboacnpbicedfaaGreatDoor.Hp

namespace Go.Proofs.YtboacnpbicedfaaGreatDoor.Hp
open Go.RowKit Go.Maps
set_option linter.unusedVariables false
set_option linter.unusedSimpArgs false
set_option maxRecDepth 100000
set_option maxHeartbeats 4000000 in
theorem dpop_nil (w : World) : Calls Tryz.prog 35 #[.pointer none] w fun e w' => e = .returned (.tuple #[eV (0, ⟨#[]⟩), bV 1]) ∧ Below w.heap.size w w' := by
  obtain ⟨W2, hW2⟩ : ∃ W2, W2 = (w.alloc (.cells #[.int .i64 0, .string ⟨#[]⟩] 30)).alloc (.cells #[.int .i64 0, .int .i64 0, .int .i64 0, .bool false, .bool false] 43) := ⟨_, rfl⟩
  obtain ⟨K, hK⟩ : ∃ K, K = w.heap.size := ⟨_, rfl⟩
  obtain ⟨R, hR⟩ : ∃ R, R = w.heap.size + 1 := ⟨_, rfl⟩
  have b2 : Hid (Below w.heap.size w W2) := by show Below _ _ _; rw [hW2]; exact ((Below.refl _ w).alloc (Nat.le_refl _) _).alloc (by simp) _
  have bcH : Hid (BC W2 R) := by
    have := BC.new (w.alloc (.cells #[.int .i64 0, .string ⟨#[]⟩] 30))
    show BC W2 R
    rw [hW2, hR]; simpa using this
  have ecH : Hid (EC W2 K) := by
    have := (EC.new w).keep (w' := W2) (by rw [hW2]; simp) (by rw [hW2]; exact ((Below.refl (w.alloc (.cells #[.int .i64 0, .string ⟨#[]⟩] 30)).heap.size _).alloc (Nat.le_refl _) _).block _ (by simp))
    show EC W2 K
    rw [hK]; exact this
  have CN : Hid _ := rnewB 1 W2
  unfold bV at CN ⊢
  unfold eV
  go_enter Tryz.func35, Tryz.ntmps35
  go_wp2_with fail
  rw [← hW2, ← hR, ← hK]
  have hRw : Hid (w.heap.size ≤ R ∧ w.heap.size ≤ K) := ⟨by omega, by omega⟩
  have kr : ¬ K = R := by omega
  have rk : ¬ R = K := by omega
  clear hW2 hR hK
  refine Calls.mono CN.out ?_
  rintro e w1 ⟨rfl, BB⟩
  have b1 := bcH.out.below BB
  obtain ⟨_, e0, e1, ez⟩ := ecH.out.below BB
  have ez0 := ez 0
  have ez1 := ez 1
  have fin : Hid (Below w.heap.size w (st5 (st2 w1 K (0, ⟨#[]⟩)) R 1)) := st5_below (st2_below (below_trans b2.out (below_less BB b2.out.size)) hRw.out.2 _) hRw.out.1 1
  obtain ⟨_, c0, c1, c2, c3, c4, z⟩ := b1
  have z0 := z 0
  have z1 := z 1
  have z2 := z 2
  have z3 := z 3
  have z4 := z 4
  clear BB CN bcH b2 z hRw ecH ez
  go_wp2_with fail
  simp [bodyPost, results, Tryz.results35, go_sem, c0, c1, c2, c3, c4, e0, e1, kr, rk]
  exact fin.out
set_option maxHeartbeats 4000000 in
theorem dpop_none {w : World} {B dp : Nat} {most : Bool} {v : Value} {mv : Int} (h : DS w B dp most v [] mv) : Calls Tryz.prog 35 #[.pointer (some ⟨dp, 0, none⟩)] w fun e w' => e = .returned (.tuple #[eV (0, ⟨#[]⟩), bV 4]) ∧ Below w.heap.size w w' := by
  obtain ⟨W2, hW2⟩ : ∃ W2, W2 = (w.alloc (.cells #[.int .i64 0, .string ⟨#[]⟩] 30)).alloc (.cells #[.int .i64 0, .int .i64 0, .int .i64 0, .bool false, .bool false] 43) := ⟨_, rfl⟩
  obtain ⟨K, hK⟩ : ∃ K, K = w.heap.size := ⟨_, rfl⟩
  obtain ⟨R, hR⟩ : ∃ R, R = w.heap.size + 1 := ⟨_, rfl⟩
  have b2 : Hid (Below w.heap.size w W2) := by show Below _ _ _; rw [hW2]; exact ((Below.refl _ w).alloc (Nat.le_refl _) _).alloc (by simp) _
  have bcH : Hid (BC W2 R) := by
    have := BC.new (w.alloc (.cells #[.int .i64 0, .string ⟨#[]⟩] 30))
    show BC W2 R
    rw [hW2, hR]; simpa using this
  have ecH : Hid (EC W2 K) := by
    have := (EC.new w).keep (w' := W2) (by rw [hW2]; simp) (by rw [hW2]; exact ((Below.refl (w.alloc (.cells #[.int .i64 0, .string ⟨#[]⟩] 30)).heap.size _).alloc (Nat.le_refl _) _).block _ (by simp))
    show EC W2 K
    rw [hK]; exact this
  obtain ⟨a, cap, rfl, hcap, hg⟩ := h.row.form
  have q0 := (h.below b2.out).c0
  simp only [List.length_nil] at q0
  have CN : Hid _ := rnewB 4 W2
  have hq : Hid (W2.cell? ⟨dp, 0, none⟩ = some (.slice a 0 cap)) := q0
  rw [hW2] at q0
  unfold bV at CN ⊢
  unfold eV
  clear h hg hcap
  go_enter Tryz.func35, Tryz.ntmps35
  go_wp2_with fail
  rw [← hW2, ← hR, ← hK]
  have hRw : Hid (w.heap.size ≤ R ∧ w.heap.size ≤ K) := ⟨by omega, by omega⟩
  have kr : ¬ K = R := by omega
  have rk : ¬ R = K := by omega
  clear hW2 hR hK q0
  refine Calls.mono CN.out ?_
  rintro e w1 ⟨rfl, BB⟩
  have b1 := bcH.out.below BB
  obtain ⟨_, e0, e1, ez⟩ := ecH.out.below BB
  have ez0 := ez 0
  have ez1 := ez 1
  have fin : Hid (Below w.heap.size w (st5 (st2 w1 K (0, ⟨#[]⟩)) R 4)) := st5_below (st2_below (below_trans b2.out (below_less BB b2.out.size)) hRw.out.2 _) hRw.out.1 4
  obtain ⟨_, c0, c1, c2, c3, c4, z⟩ := b1
  have z0 := z 0
  have z1 := z 1
  have z2 := z 2
  have z3 := z 3
  have z4 := z 4
  clear BB CN bcH b2 z hRw ecH ez hq
  go_wp2_with fail
  simp [bodyPost, results, Tryz.results35, go_sem, c0, c1, c2, c3, c4, e0, e1, kr, rk]
  exact fin.out
/-- what came behind a change and leaves what was there. -/
theorem DO.st {w W2 w5 : World} {B dp K R : Nat} {most : Bool} {v : Value} {L : List Ent} {mv : Int} (b2 : Below w.heap.size w W2) (d : DO W2 B dp most v L mv w5) (hv : ∀ g, v.ownBlock = some g → g < w.heap.size) (hd : dp < w.heap.size) (hK : w.heap.size ≤ K) (hR : w.heap.size ≤ R) (hK2 : K < W2.heap.size) (hR2 : R < W2.heap.size) (y : Ent) (c : Int) : DO w B dp most v L mv (st5 (st2 w5 K y) R c) := by
  obtain ⟨⟨v', ds, hb⟩, fr⟩ := d
  have vn : ∀ b, w.heap.size ≤ b → b < W2.heap.size → ∀ g, v'.ownBlock = some g → b ≠ g := fun b h1 h2 g e => by
    rcases hb g e with q | q
    · have := hv g q; omega
    · omega
  refine ⟨⟨v', (ds.st2 K y (by omega) (vn K hK hK2)).st5 R c (by omega) (vn R hR hR2), fun g e => ?_⟩, ((HF.below (hp := dp) (mb := dp) (rb := v.ownBlock) b2).trans fr).below' (st5_below (st2_below (Below.refl w.heap.size w5) hK y) hR c) (Nat.le_refl _)⟩
  rcases hb g e with q | q
  · exact Or.inl q
  · exact Or.inr (Nat.le_trans b2.size q)
theorem DO.box {w W2 w5 : World} {B dp : Nat} {most : Bool} {v : Value} {L : List Ent} {mv : Int} (b2 : Below w.heap.size w W2) (d : DO W2 B dp most v L mv w5) (hv : ∀ g, v.ownBlock = some g → g < w.heap.size) (hd : dp < w.heap.size) {b : Nat} (h1 : w.heap.size ≤ b) (h2 : b < W2.heap.size) : w5.heap[b]? = W2.heap[b]? := d.fr.keep b h2 (by omega) (by omega) (fun e => by have := hv b e.symm; omega)
set_option maxHeartbeats 4000000 in
theorem dpop_ok {w : World} {B dp : Nat} {most : Bool} {v : Value} {L : List Ent} {mv : Int} (h : DS w B dp most v L mv) (h0 : 0 < L.length) (hL : L.length ≤ 1152921504606846976) : Calls Tryz.prog 35 #[.pointer (some ⟨dp, 0, none⟩)] w fun e w' => e = .returned (.tuple #[eV (atE L 0), bV 0]) ∧ DO w B dp most v (takP most L 0).1 (((takP most L 0).2 : Nat) : Int) w' := by
  obtain ⟨W2, hW2⟩ : ∃ W2, W2 = (w.alloc (.cells #[.int .i64 0, .string ⟨#[]⟩] 30)).alloc (.cells #[.int .i64 0, .int .i64 0, .int .i64 0, .bool false, .bool false] 43) := ⟨_, rfl⟩
  obtain ⟨K, hK⟩ : ∃ K, K = w.heap.size := ⟨_, rfl⟩
  obtain ⟨R, hR⟩ : ∃ R, R = w.heap.size + 1 := ⟨_, rfl⟩
  have b2 : Hid (Below w.heap.size w W2) := by show Below _ _ _; rw [hW2]; exact ((Below.refl _ w).alloc (Nat.le_refl _) _).alloc (by simp) _
  have bcH : Hid (BC W2 R) := by
    have := BC.new (w.alloc (.cells #[.int .i64 0, .string ⟨#[]⟩] 30))
    show BC W2 R
    rw [hW2, hR]; simpa using this
  have ecH : Hid (EC W2 K) := by
    have := (EC.new w).keep (w' := W2) (by rw [hW2]; simp) (by rw [hW2]; exact ((Below.refl (w.alloc (.cells #[.int .i64 0, .string ⟨#[]⟩] 30)).heap.size _).alloc (Nat.le_refl _) _).block _ (by simp))
    show EC W2 K
    rw [hK]; exact this
  have D2 := h.below b2.out
  have CT : Hid _ := dtake_ok D2 (atE L 0).2 0 ⟨h0, rfl, fun j hj => by omega⟩ hL
  have vB : ∀ g, v.ownBlock = some g → g < w.heap.size := fun k e => (h.row.bound e).2
  have hl := h.hl
  have szW : W2.heap.size = w.heap.size + 2 := by rw [hW2]; simp
  have RES : Hid (∀ w5, DO W2 B dp most v (takP most L 0).1 (((takP most L 0).2 : Nat) : Int) w5 → EC w5 K ∧ BC w5 R ∧ DO w B dp most v (takP most L 0).1 (((takP most L 0).2 : Nat) : Int) (st5 (st2 w5 K (atE L 0)) R 0)) := fun w5 d => ⟨ecH.out.keep d.fr.size (d.box b2.out vB hl (by omega) (by omega)), bcH.out.keep d.fr.size (d.box b2.out vB hl (by omega) (by omega)), d.st b2.out vB hl (by omega) (by omega) (by omega) (by omega) _ 0⟩
  obtain ⟨a, cap, rfl, hcap, hg⟩ := h.row.form
  obtain ⟨g, rfl⟩ := hg h0
  have q0 := D2.c0
  obtain ⟨q1, q2⟩ := D2.row.at h0
  simp only [Nat.zero_mul, Nat.zero_add] at q1 q2
  rw [hW2] at q0 q1 q2
  have hN2 : ¬ (L.length : Int) = 0 := by omega
  have hN3 : ((L.length : Int) == 0) = false := by simpa using hN2
  have hN4 : ¬ L.length = 0 := by omega
  have iI : (0 : Int) < (L.length : Int) := by omega
  unfold bV at CT ⊢
  unfold eV at CT ⊢
  generalize takP most L 0 = TT at *
  generalize atE L 0 = y at *
  generalize L.length = n at *
  have hKR : Hid (K = w.heap.size ∧ R = w.heap.size + 1) := ⟨hK, hR⟩
  clear h hg hcap D2 vB hl szW h0
  go_enter Tryz.func35, Tryz.ntmps35
  go_wp2_with fail
  rw [← hW2, ← hR, ← hK]
  have hRw : Hid (w.heap.size ≤ R ∧ w.heap.size ≤ K) := ⟨by omega, by omega⟩
  have kr : ¬ K = R := by omega
  have rk : ¬ R = K := by omega
  clear hW2 hR hK q0 q1 q2
  refine Calls.mono CT.out ?_
  rintro e w1 ⟨rfl, dd⟩
  obtain ⟨ec, b1, fin⟩ := RES.out w1 dd
  have fin : Hid _ := fin
  clear dd RES CT
  obtain ⟨_, e0, e1, ez⟩ := ec
  have ez0 := ez 0
  have ez1 := ez 1
  obtain ⟨_, c0, c1, c2, c3, c4, z⟩ := b1
  have z0 := z 0
  have z1 := z 1
  have z2 := z 2
  have z3 := z 3
  have z4 := z 4
  clear bcH b2 z hRw ecH ez
  go_wp2_with fail
  simp [bodyPost, results, Tryz.results35, go_sem, c0, c1, c2, c3, c4, e0, e1, kr, rk]
  exact fin.out
end Go.Proofs.YtboacnpbicedfaaGreatDoor.Hp
