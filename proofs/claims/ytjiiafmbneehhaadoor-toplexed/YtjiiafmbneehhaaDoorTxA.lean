
import Derived.Test.YtjiiafmbneehhaaDoorProg
namespace Go.Proofs.YtjiiafmbneehhaaDoor.Lx
set_option linter.unusedVariables false
set_option linter.unusedSimpArgs false
/-! ### plain: tokens of a text, and their texts again -/
def isB (c : UInt8) : Bool := c == 32 || c == 9 || c == 10 || c == 13
def isLt (c : UInt8) : Bool := (decide (97 ≤ c.toNat) && decide (c.toNat ≤ 122)) || (decide (65 ≤ c.toNat) && decide (c.toNat ≤ 90)) || c == 95
def isD (c : UInt8) : Bool := decide (48 ≤ c.toNat) && decide (c.toNat ≤ 57)
def isR (c : UInt8) : Bool := isLt c || isD c
structure Tok where
  k : Nat
  t : List UInt8
  n : Int
def rowL : List UInt8 → Nat
  | [] => 0
  | c :: r => if isR c = true then rowL r + 1 else 0
def quoL (m : UInt8) : List UInt8 → Option (List UInt8 × Nat)
  | [] => none
  | [c] => if c = m then some ([], 1) else none
  | c :: d :: r => if c = m then some ([], 1) else if c = 92 then (if d = m ∨ d = 92 then (quoL m r).map (fun x => (d :: x.1, x.2 + 2)) else none) else (quoL m (d :: r)).map (fun x => (c :: x.1, x.2 + 1))
def escL (m : UInt8) : List UInt8 → List UInt8
  | [] => []
  | c :: r => (if c = m ∨ c = 92 then [92, c] else [c]) ++ escL m r
def sgL : List UInt8 := [44, 40, 41, 43, 45, 42, 47, 37, 61]
abbrev NmF := List UInt8 → Option (Nat × Int)
def readT (nm : NmF) : List UInt8 → Option (Tok × Nat)
  | [] => some (⟨0, [], 0⟩, 0)
  | c :: r =>
    if isLt c = true then some (⟨1, (c :: r).take (rowL (c :: r)), 0⟩, rowL (c :: r))
    else if isD c = true then (nm ((c :: r).take (rowL (c :: r)))).map (fun x => (⟨x.1, (c :: r).take (rowL (c :: r)), x.2⟩, rowL (c :: r)))
    else if c = 34 then (quoL 34 r).map (fun x => (⟨2, x.1, 0⟩, x.2 + 1))
    else if c = 39 then (quoL 39 r).map (fun x => (⟨3, x.1, 0⟩, x.2 + 1))
    else if (c = 33 ∧ r.head? = some 61) ∨ c = 60 ∨ c = 62 then (if r.head? = some 61 then some (⟨6, [c, 61], 0⟩, 2) else some (⟨6, [c], 0⟩, 1))
    else if c ∈ sgL then some (⟨6, [c], 0⟩, 1) else none
theorem read_cons (nm : NmF) (c : UInt8) (r : List UInt8) : readT nm (c :: r) = (
    if isLt c = true then some (⟨1, (c :: r).take (rowL (c :: r)), 0⟩, rowL (c :: r))
    else if isD c = true then (nm ((c :: r).take (rowL (c :: r)))).map (fun x => (⟨x.1, (c :: r).take (rowL (c :: r)), x.2⟩, rowL (c :: r)))
    else if c = 34 then (quoL 34 r).map (fun x => (⟨2, x.1, 0⟩, x.2 + 1))
    else if c = 39 then (quoL 39 r).map (fun x => (⟨3, x.1, 0⟩, x.2 + 1))
    else if (c = 33 ∧ r.head? = some 61) ∨ c = 60 ∨ c = 62 then (if r.head? = some 61 then some (⟨6, [c, 61], 0⟩, 2) else some (⟨6, [c], 0⟩, 1))
    else if c ∈ sgL then some (⟨6, [c], 0⟩, 1) else none) := rfl
def skipL : List UInt8 → List UInt8
  | [] => []
  | c :: r => if isB c = true then skipL r else c :: r
def lexL (nm : NmF) : Nat → List UInt8 → Option (List Tok)
  | 0, _ => none
  | f + 1, L => match readT nm (skipL L) with
    | none => none
    | some (t, j) => if t.k = 0 then some [t] else (lexL nm f ((skipL L).drop j)).map (t :: ·)
def renL (t : Tok) : List UInt8 := if t.k = 2 then 34 :: (escL 34 t.t ++ [34]) else if t.k = 3 then 39 :: (escL 39 t.t ++ [39]) else t.t
def rndL : List Tok → List UInt8
  | [] => []
  | t :: r => (renL t ++ [32]) ++ rndL r
/-- a token that may be told. -/
def VT (nm : NmF) (t : Tok) : Prop :=
  (t.k = 1 ∧ t.n = 0 ∧ ∃ c r, t.t = c :: r ∧ isLt c = true ∧ ∀ x ∈ r, isR x = true) ∨
  (nm t.t = some (t.k, t.n) ∧ (t.k = 4 ∨ t.k = 5) ∧ ∃ c r, t.t = c :: r ∧ isLt c = false ∧ isD c = true ∧ ∀ x ∈ r, isR x = true) ∨
  (t.k = 2 ∧ t.n = 0) ∨ (t.k = 3 ∧ t.n = 0) ∨
  (t.k = 6 ∧ t.n = 0 ∧ ((∃ c, t.t = [c, 61] ∧ (c = 33 ∨ c = 60 ∨ c = 62)) ∨ (∃ c, t.t = [c] ∧ (c = 60 ∨ c = 62 ∨ c ∈ sgL))))
theorem row_take : ∀ (L : List UInt8), ∀ x ∈ L.take (rowL L), isR x = true
  | [], x, h => by simp at h
  | c :: r, x, h => by
    unfold rowL at h
    by_cases e : isR c = true
    · rw [if_pos e, List.take_succ_cons] at h
      rcases List.mem_cons.1 h with rfl | h
      · exact e
      · exact row_take r x h
    · rw [if_neg e] at h; simp at h
theorem row_le : ∀ (L : List UInt8), rowL L ≤ L.length
  | [] => Nat.le_refl _
  | c :: r => by
    unfold rowL
    have := row_le r
    split <;> simp <;> omega
theorem row_all : ∀ (T R : List UInt8), (∀ x ∈ T, isR x = true) → (∀ c, R.head? = some c → isR c = false) → rowL (T ++ R) = T.length
  | [], R, _, h => by
    cases R with
    | nil => rfl
    | cons c r =>
      have := h c rfl
      show rowL (c :: r) = 0
      unfold rowL
      rw [if_neg (by rw [this]; simp)]
  | t :: T, R, h1, h2 => by
    show rowL (t :: (T ++ R)) = T.length + 1
    unfold rowL
    rw [if_pos (h1 t (List.mem_cons_self ..)), row_all T R (fun x hx => h1 x (List.mem_cons_of_mem _ hx)) h2]
theorem lt_R {c : UInt8} (h : isLt c = true) : isR c = true := by unfold isR; rw [h]; rfl
theorem d_R {c : UInt8} (h : isD c = true) : isR c = true := by unfold isR; rw [h]; simp
theorem quo_len (m : UInt8) : ∀ (n : Nat) (L : List UInt8) (t : List UInt8) (j : Nat), L.length ≤ n → quoL m L = some (t, j) → 1 ≤ j ∧ j ≤ L.length
  | _, [], t, j, _, h => by unfold quoL at h; cases h
  | _, [c], t, j, _, h => by
    unfold quoL at h
    split at h
    · injection h with h; injection h with h1 h2; subst h2; simp
    · cases h
  | 0, c :: d :: r, t, j, hn, h => by simp at hn
  | n + 1, c :: d :: r, t, j, hn, h => by
    unfold quoL at h
    split at h
    · injection h with h; injection h with h1 h2; subst h2; simp
    · split at h
      · split at h
        · cases hq : quoL m r with
          | none => rw [hq] at h; cases h
          | some x =>
            rw [hq] at h
            injection h with h; injection h with h1 h2
            have := quo_len m n r x.1 x.2 (by simp at hn; omega) hq
            simp only [List.length_cons]
            omega
        · cases h
      · cases hq : quoL m (d :: r) with
        | none => rw [hq] at h; cases h
        | some x =>
          rw [hq] at h
          injection h with h; injection h with h1 h2
          have := quo_len m n (d :: r) x.1 x.2 (by simp at hn ⊢; omega) hq
          simp only [List.length_cons] at this ⊢
          omega
theorem quo_esc (m : UInt8) (hm : m ≠ 92) (R : List UInt8) : ∀ (t : List UInt8), quoL m (escL m t ++ m :: R) = some (t, (escL m t).length + 1)
  | [] => by
    show quoL m (m :: R) = _
    cases R with
    | nil => unfold quoL; rw [if_pos rfl]; rfl
    | cons d r => unfold quoL; rw [if_pos rfl]; rfl
  | c :: t => by
    have ih := quo_esc m hm R t
    unfold escL
    by_cases e : c = m ∨ c = 92
    · rw [if_pos e]
      show quoL m (92 :: c :: (escL m t ++ m :: R)) = _
      unfold quoL
      rw [if_neg (fun q => hm q.symm), if_pos rfl, if_pos e, ih]
      simp
    · rw [if_neg e]
      show quoL m (c :: (escL m t ++ m :: R)) = _
      have ne : ∃ d r, escL m t ++ m :: R = d :: r := by
        cases h : escL m t ++ m :: R with
        | nil => simp at h
        | cons d r => exact ⟨d, r, rfl⟩
      obtain ⟨d, r, h⟩ := ne
      rw [h] at ih ⊢
      unfold quoL
      rw [if_neg (fun q => e (Or.inl q)), if_neg (fun q => e (Or.inr q)), ih]
      simp
theorem read_valid {nm : NmF} (hnm : ∀ x k n, nm x = some (k, n) → k = 4 ∨ k = 5) {L : List UInt8} {t : Tok} {j : Nat} (h : readT nm L = some (t, j)) : (L = [] ∧ t = ⟨0, [], 0⟩ ∧ j = 0) ∨ (VT nm t ∧ t.k ≠ 0 ∧ 1 ≤ j ∧ j ≤ L.length) := by
  cases L with
  | nil => unfold readT at h; injection h with h; injection h with h1 h2; exact Or.inl ⟨rfl, h1.symm, h2.symm⟩
  | cons c r =>
    refine Or.inr ?_
    rw [read_cons] at h
    have rl := row_le (c :: r)
    by_cases c1 : isLt c = true
    · rw [if_pos c1] at h
      injection h with h; injection h with h1 h2
      subst h1 h2
      have r1 : 1 ≤ rowL (c :: r) := by unfold rowL; rw [if_pos (lt_R c1)]; omega
      refine ⟨Or.inl ⟨rfl, rfl, c, r.take (rowL (c :: r) - 1), ?_, c1, fun x hx => ?_⟩, by simp, r1, rl⟩
      · obtain ⟨q, hq⟩ : ∃ q, rowL (c :: r) = q + 1 := ⟨_, (Nat.succ_pred_eq_of_pos r1).symm⟩
        rw [hq]; simp
      · obtain ⟨q, hq⟩ : ∃ q, rowL (c :: r) = q + 1 := ⟨_, (Nat.succ_pred_eq_of_pos r1).symm⟩
        refine row_take (c :: r) x ?_
        rw [hq] at hx ⊢
        rw [List.take_succ_cons]
        exact List.mem_cons_of_mem _ (by simpa using hx)
    rw [if_neg c1] at h
    have c1' : isLt c = false := by simpa using c1
    by_cases c2 : isD c = true
    · rw [if_pos c2] at h
      have r1 : 1 ≤ rowL (c :: r) := by unfold rowL; rw [if_pos (d_R c2)]; omega
      cases hn : nm ((c :: r).take (rowL (c :: r))) with
      | none => rw [hn] at h; cases h
      | some x =>
        rw [hn] at h
        injection h with h; injection h with h1 h2
        subst h1 h2
        obtain ⟨k, n⟩ := x
        have kk := hnm _ k n hn
        refine ⟨Or.inr (Or.inl ⟨hn, kk, c, r.take (rowL (c :: r) - 1), ?_, c1', c2, fun x hx => ?_⟩), by show k ≠ 0; omega, r1, rl⟩
        · obtain ⟨q, hq⟩ : ∃ q, rowL (c :: r) = q + 1 := ⟨_, (Nat.succ_pred_eq_of_pos r1).symm⟩
          rw [hq]; simp
        · obtain ⟨q, hq⟩ : ∃ q, rowL (c :: r) = q + 1 := ⟨_, (Nat.succ_pred_eq_of_pos r1).symm⟩
          refine row_take (c :: r) x ?_
          rw [hq] at hx ⊢
          rw [List.take_succ_cons]
          exact List.mem_cons_of_mem _ (by simpa using hx)
    rw [if_neg c2] at h
    by_cases c3 : c = 34
    · rw [if_pos c3] at h
      cases hq : quoL 34 r with
      | none => rw [hq] at h; cases h
      | some x =>
        rw [hq] at h
        injection h with h; injection h with h1 h2
        have := quo_len 34 r.length r x.1 x.2 (Nat.le_refl _) hq
        subst h1 h2
        exact ⟨Or.inr (Or.inr (Or.inl ⟨rfl, rfl⟩)), by simp, by omega, by simp; omega⟩
    rw [if_neg c3] at h
    by_cases c4 : c = 39
    · rw [if_pos c4] at h
      cases hq : quoL 39 r with
      | none => rw [hq] at h; cases h
      | some x =>
        rw [hq] at h
        injection h with h; injection h with h1 h2
        have := quo_len 39 r.length r x.1 x.2 (Nat.le_refl _) hq
        subst h1 h2
        exact ⟨Or.inr (Or.inr (Or.inr (Or.inl ⟨rfl, rfl⟩))), by simp, by omega, by simp; omega⟩
    rw [if_neg c4] at h
    by_cases c5 : (c = 33 ∧ r.head? = some 61) ∨ c = 60 ∨ c = 62
    · rw [if_pos c5] at h
      by_cases c6 : r.head? = some 61
      · rw [if_pos c6] at h
        injection h with h; injection h with h1 h2
        subst h1 h2
        have l2 : 1 ≤ r.length := by cases r with
          | nil => simp at c6
          | cons => simp
        refine ⟨Or.inr (Or.inr (Or.inr (Or.inr ⟨rfl, rfl, Or.inl ⟨c, rfl, ?_⟩⟩))), by simp, by omega, by simp; omega⟩
        rcases c5 with ⟨q, _⟩ | q | q
        · exact Or.inl q
        · exact Or.inr (Or.inl q)
        · exact Or.inr (Or.inr q)
      · rw [if_neg c6] at h
        injection h with h; injection h with h1 h2
        subst h1 h2
        refine ⟨Or.inr (Or.inr (Or.inr (Or.inr ⟨rfl, rfl, Or.inr ⟨c, rfl, ?_⟩⟩))), by simp, by omega, by simp⟩
        rcases c5 with ⟨_, q⟩ | q | q
        · exact absurd q c6
        · exact Or.inl q
        · exact Or.inr (Or.inl q)
    rw [if_neg c5] at h
    by_cases c7 : c ∈ sgL
    · rw [if_pos c7] at h
      injection h with h; injection h with h1 h2
      subst h1 h2
      exact ⟨Or.inr (Or.inr (Or.inr (Or.inr ⟨rfl, rfl, Or.inr ⟨c, rfl, Or.inr (Or.inr c7)⟩⟩))), by simp, by omega, by simp⟩
    · rw [if_neg c7] at h; cases h
theorem bl_R : isR 32 = false := by decide
theorem lt_B {c : UInt8} (h : isLt c = true) : isB c = false := by
  unfold isLt at h; unfold isB
  simp only [Bool.or_eq_true, Bool.and_eq_true, decide_eq_true_eq, beq_iff_eq] at h
  have key : c ≠ 32 ∧ c ≠ 9 ∧ c ≠ 10 ∧ c ≠ 13 := by
    refine ⟨?_, ?_, ?_, ?_⟩ <;> (rintro rfl; revert h; decide)
  simp [key]
theorem d_B {c : UInt8} (h : isD c = true) : isB c = false := by
  unfold isD at h; unfold isB
  simp only [Bool.and_eq_true, decide_eq_true_eq] at h
  have key : c ≠ 32 ∧ c ≠ 9 ∧ c ≠ 10 ∧ c ≠ 13 := by
    refine ⟨?_, ?_, ?_, ?_⟩ <;> (rintro rfl; revert h; decide)
  simp [key]
theorem read_ren {nm : NmF} {t : Tok} (v : VT nm t) (R : List UInt8) : readT nm (renL t ++ 32 :: R) = some (t, (renL t).length) ∧ ∃ c r, renL t = c :: r ∧ isB c = false := by
  obtain ⟨k, tt, n⟩ := t
  unfold VT at v
  simp only at v
  rcases v with ⟨rfl, rfl, c, r, rfl, h1, h2⟩ | ⟨h0, hk, c, r, rfl, h1, h2, h3⟩ | ⟨rfl, rfl⟩ | ⟨rfl, rfl⟩ | ⟨rfl, rfl, h⟩
  · have e : renL ⟨1, c :: r, 0⟩ = c :: r := rfl
    have er : rowL (c :: r ++ 32 :: R) = (c :: r).length := row_all (c :: r) (32 :: R) (fun x hx => by
      rcases List.mem_cons.1 hx with rfl | hx
      · exact lt_R h1
      · exact h2 x hx) (fun d hd => by simp at hd; subst hd; exact bl_R)
    rw [e]
    refine ⟨?_, c, r, rfl, lt_B h1⟩
    rw [show c :: r ++ 32 :: R = c :: (r ++ 32 :: R) from rfl] at er ⊢
    rw [read_cons, if_pos h1, er]
    simp
  · have e : renL ⟨k, c :: r, n⟩ = c :: r := by unfold renL; rcases hk with rfl | rfl <;> rfl
    have er : rowL (c :: r ++ 32 :: R) = (c :: r).length := row_all (c :: r) (32 :: R) (fun x hx => by
      rcases List.mem_cons.1 hx with rfl | hx
      · exact d_R h2
      · exact h3 x hx) (fun d hd => by simp at hd; subst hd; exact bl_R)
    rw [e]
    refine ⟨?_, c, r, rfl, d_B h2⟩
    rw [show c :: r ++ 32 :: R = c :: (r ++ 32 :: R) from rfl] at er ⊢
    rw [read_cons]
    have et : (c :: (r ++ 32 :: R)).take (c :: r).length = c :: r := by simp
    rw [if_neg (by rw [h1]; simp), if_pos h2, er, et, h0]
    rfl
  · have e : renL ⟨2, tt, 0⟩ = 34 :: (escL 34 tt ++ [34]) := rfl
    rw [e]
    refine ⟨?_, 34, _, rfl, by decide⟩
    rw [show 34 :: (escL 34 tt ++ [34]) ++ 32 :: R = 34 :: (escL 34 tt ++ 34 :: (32 :: R)) by simp]
    rw [read_cons, if_neg (by decide), if_neg (by decide), if_pos rfl, quo_esc 34 (by decide) (32 :: R) tt]
    simp
  · have e : renL ⟨3, tt, 0⟩ = 39 :: (escL 39 tt ++ [39]) := rfl
    rw [e]
    refine ⟨?_, 39, _, rfl, by decide⟩
    rw [show 39 :: (escL 39 tt ++ [39]) ++ 32 :: R = 39 :: (escL 39 tt ++ 39 :: (32 :: R)) by simp]
    rw [read_cons, if_neg (by decide), if_neg (by decide), if_neg (by decide), if_pos rfl, quo_esc 39 (by decide) (32 :: R) tt]
    simp
  · rcases h with ⟨c, rfl, hc⟩ | ⟨c, rfl, hc⟩
    · have e : renL ⟨6, [c, 61], 0⟩ = [c, 61] := rfl
      rw [e]
      rcases hc with rfl | rfl | rfl
      all_goals exact ⟨by simp [readT, isLt, isD], _, _, rfl, by decide⟩
    · have e : renL ⟨6, [c], 0⟩ = [c] := rfl
      rw [e]
      rcases hc with rfl | rfl | hc
      · exact ⟨by simp [readT, isLt, isD], _, _, rfl, by decide⟩
      · exact ⟨by simp [readT, isLt, isD], _, _, rfl, by decide⟩
      · unfold sgL at hc
        simp only [List.mem_cons, List.not_mem_nil, or_false] at hc
        rcases hc with rfl | rfl | rfl | rfl | rfl | rfl | rfl | rfl | rfl
        all_goals exact ⟨by simp [readT, isLt, isD, sgL], _, _, rfl, by decide⟩
theorem lex_valid {nm : NmF} (hnm : ∀ x k n, nm x = some (k, n) → k = 4 ∨ k = 5) : ∀ (f : Nat) (L : List UInt8) (ts : List Tok), lexL nm f L = some ts → ∃ us, ts = us ++ [⟨0, [], 0⟩] ∧ ∀ t ∈ us, VT nm t ∧ t.k ≠ 0
  | 0, L, ts, h => by unfold lexL at h; cases h
  | f + 1, L, ts, h => by
    unfold lexL at h
    cases hr : readT nm (skipL L) with
    | none => rw [hr] at h; cases h
    | some x =>
      obtain ⟨t, j⟩ := x
      rw [hr] at h
      simp only at h
      rcases read_valid hnm hr with ⟨_, rfl, _⟩ | ⟨v, k0, _, _⟩
      · simp at h
        subst h
        exact ⟨[], rfl, fun t ht => by simp at ht⟩
      · rw [if_neg k0] at h
        cases hl : lexL nm f ((skipL L).drop j) with
        | none => rw [hl] at h; cases h
        | some us =>
          rw [hl] at h
          injection h with h
          subst h
          obtain ⟨us', rfl, hv⟩ := lex_valid hnm f _ us hl
          exact ⟨t :: us', rfl, fun u hu => by
            rcases List.mem_cons.1 hu with rfl | hu
            · exact ⟨v, k0⟩
            · exact hv u hu⟩
theorem skip_nb {c : UInt8} {r : List UInt8} (h : isB c = false) : skipL (c :: r) = c :: r := by unfold skipL; rw [if_neg (by rw [h]; simp)]
theorem lex_back {nm : NmF} : ∀ (us : List Tok) (f : Nat), us.length < f → (∀ t ∈ us, VT nm t ∧ t.k ≠ 0) → ∀ (P : List UInt8), (P = [] ∨ P = [32]) → lexL nm f (P ++ rndL (us ++ [⟨0, [], 0⟩])) = some (us ++ [⟨0, [], 0⟩])
  | [], f, hf, hv, P, hP => by
    obtain ⟨f, rfl⟩ : ∃ g, f = g + 1 := ⟨f - 1, by simp at hf; omega⟩
    have e : skipL (P ++ rndL ([] ++ [⟨0, [], 0⟩])) = [] := by rcases hP with rfl | rfl <;> rfl
    unfold lexL
    rw [e]
    rfl
  | t :: us, f, hf, hv, P, hP => by
    obtain ⟨f, rfl⟩ : ∃ g, f = g + 1 := ⟨f - 1, by simp at hf; omega⟩
    obtain ⟨v, k0⟩ := hv t (List.mem_cons_self ..)
    obtain ⟨h1, c, r, h2, h3⟩ := read_ren v (rndL (us ++ [⟨0, [], 0⟩]))
    have e0 : rndL (t :: us ++ [⟨0, [], 0⟩]) = renL t ++ 32 :: rndL (us ++ [⟨0, [], 0⟩]) := by
      show (renL t ++ [32]) ++ rndL (us ++ [⟨0, [], 0⟩]) = _
      simp
    have es : skipL (P ++ (renL t ++ 32 :: rndL (us ++ [⟨0, [], 0⟩]))) = renL t ++ 32 :: rndL (us ++ [⟨0, [], 0⟩]) := by
      rw [h2]
      rcases hP with rfl | rfl
      · exact skip_nb h3
      · show skipL (32 :: (c :: (r ++ 32 :: rndL (us ++ [⟨0, [], 0⟩])))) = _
        unfold skipL
        rw [if_pos (by decide)]
        exact skip_nb h3
    rw [e0]
    unfold lexL
    rw [es, h1]
    simp only
    rw [if_neg k0, List.drop_left]
    have ih := lex_back us f (by simp at hf; omega) (fun u hu => hv u (List.mem_cons_of_mem _ hu)) [32] (Or.inr rfl)
    rw [show (32 : UInt8) :: rndL (us ++ [⟨0, [], 0⟩]) = [32] ++ rndL (us ++ [⟨0, [], 0⟩]) from rfl, ih]
    rfl
theorem rnd_len : ∀ (ts : List Tok), ts.length ≤ (rndL ts).length
  | [] => Nat.le_refl _
  | t :: r => by
    have := rnd_len r
    show r.length + 1 ≤ ((renL t ++ [32]) ++ rndL r).length
    simp
    omega
/-- tokens, as texts with blanks between, are the same tokens again. -/
theorem lex_again {nm : NmF} (hnm : ∀ x k n, nm x = some (k, n) → k = 4 ∨ k = 5) {f : Nat} {L : List UInt8} {ts : List Tok} (h : lexL nm f L = some ts) : lexL nm ((rndL ts).length + 1) (rndL ts) = some ts := by
  obtain ⟨us, rfl, hv⟩ := lex_valid hnm f L ts h
  have := rnd_len (us ++ [⟨0, [], 0⟩])
  exact lex_back us _ (by simp at this ⊢; omega) hv [] (Or.inl rfl)
end Go.Proofs.YtjiiafmbneehhaaDoor.Lx
