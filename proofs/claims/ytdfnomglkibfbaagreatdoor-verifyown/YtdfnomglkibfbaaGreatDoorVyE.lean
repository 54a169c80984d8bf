
import Derived.Test.YtdfnomglkibfbaaGreatDoorVfB
import Derived.Test.YtdfnomglkibfbaaGreatDoorVgE
import Derived.Test.YtdfnomglkibfbaaGreatDoorVzA
import Derived.Test.YtdfnomglkibfbaaGreatDoorVfN
import Derived.Lib.AppendZeros
import Derived.Laws.AppendOwn
import Derived.Deep.Upon
import Derived.Deep.AppendLies
import Derived.Handy
import Derived.OwnWalk
import Derived.WalkSmall
import Derived.ProofKit
import Derived.BigQuiet
import Derived.Deep.RegionHeld3
import Derived.Test.YtdfnomglkibfbaaGreatDoorVgI
namespace Go.Proofs.YtdfnomglkibfbaaGreatDoor.Vf
set_option linter.unusedVariables false
set_option linter.unusedSimpArgs false
/-! ### plain: heights of code that climbs well -/
structure HOk (l : List InP) (h : Nat → Int) : Prop where
  z : h 0 = 0
  tk : ∀ (k : Nat) (t : InP), l[k]? = some t → ((rowF t.c).tk : Int) ≤ h k
  mx : ∀ (k : Nat) (t : InP), l[k]? = some t → bhd (h k) t.c ≤ 200
  nx : ∀ (k : Nat) (t : InP), l[k]? = some t → k + 1 < l.length → h (k + 1) = bhd (h k) t.c
  jp : ∀ (k : Nat) (t : InP), l[k]? = some t → (rowF t.c).a = 9 → (k : Int) < t.a → t.a < (l.length : Int) → h t.a.toNat = bhd (h k) t.c
  en : ∀ (k : Nat) (t : InP), l[k]? = some t → (rowF t.c).en = true → bhd (h k) t.c = 0
theorem meetP_or (o : Option Int) (v : Int) : meetP o v = v ∨ meetP o v = -1 := by
  unfold meetP
  cases o with
  | none => exact Or.inl rfl
  | some o => simp only; by_cases e : o = v <;> simp [e]
theorem bring_at (m : Nat → Option Int) (j : Nat) (v : Int) : ∃ u, bringP m j v j = some u ∧ (u = v ∨ u = -1) := ⟨_, if_pos rfl, meetP_or _ _⟩
theorem bring_keepv {m : Nat → Option Int} {j q : Nat} {v u : Int} (h : m q = some u) : ∃ u', bringP m j v q = some u' ∧ (u' = u ∨ u' = -1) := by
  unfold bringP
  by_cases e : q = j
  · subst e
    rw [if_pos rfl, h]
    refine ⟨_, rfl, ?_⟩
    unfold meetP
    by_cases c : u = v <;> simp [c]
  · rw [if_neg e]; exact ⟨u, h, Or.inl rfl⟩
theorem next_keepv {m : Nat → Option Int} {k q : Nat} {i : InP} {v u : Int} (hq : k < q) (h : m q = some u) : ∃ u', nextP m k i v q = some u' ∧ (u' = u ∨ u' = -1) := by
  have h0 : dropP m k q = some u := by unfold dropP; rw [if_neg (by omega)]; exact h
  unfold nextP
  by_cases a : (rowF i.c).a = 9
  · rw [if_pos a]
    obtain ⟨u1, e1, q1⟩ := bring_keepv (j := k + 1) (v := v) h0
    obtain ⟨u2, e2, q2⟩ := bring_keepv (j := i.a.toNat) (v := v) e1
    refine ⟨u2, e2, ?_⟩
    rcases q2 with rfl | rfl
    · exact q1
    · exact Or.inr rfl
  · rw [if_neg a]; exact bring_keepv h0
theorem next_one (m : Nat → Option Int) (k : Nat) (i : InP) (v : Int) : ∃ u, nextP m k i v (k + 1) = some u ∧ (u = v ∨ u = -1) := by
  unfold nextP
  by_cases a : (rowF i.c).a = 9
  · rw [if_pos a]
    obtain ⟨u1, e1, q1⟩ := bring_at (dropP m k) (k + 1) v
    obtain ⟨u2, e2, q2⟩ := bring_keepv (j := i.a.toNat) (v := v) e1
    refine ⟨u2, e2, ?_⟩
    rcases q2 with rfl | rfl
    · exact q1
    · exact Or.inr rfl
  · rw [if_neg a]; exact bring_at _ _ _
theorem next_jump (m : Nat → Option Int) (k : Nat) (i : InP) (v : Int) (a : (rowF i.c).a = 9) : ∃ u, nextP m k i v i.a.toNat = some u ∧ (u = v ∨ u = -1) := by
  unfold nextP
  rw [if_pos a]
  exact bring_at _ _ _
theorem hgt_edges : ∀ (r : List InP) (k : Nat) (m : Nat → Option Int) (hs : List Int), hs.length = k → (hgtP r k m hs).2 = none →
    (∀ j, j < k → (hgtP r k m hs).1.getD j 0 = hs.getD j 0) ∧ (hgtP r k m hs).1.length = k + r.length ∧
    (∀ j v, k ≤ j → j < k + r.length → m j = some v → (hgtP r k m hs).1.getD j 0 = v) ∧
    (∀ j t, r[j]? = some t → ((rowF t.c).tk : Int) ≤ (hgtP r k m hs).1.getD (k + j) 0 ∧ bhd ((hgtP r k m hs).1.getD (k + j) 0) t.c ≤ 200 ∧ ((rowF t.c).en = true → bhd ((hgtP r k m hs).1.getD (k + j) 0) t.c ≤ 0) ∧
      (j + 1 < r.length → (hgtP r k m hs).1.getD (k + j + 1) 0 = bhd ((hgtP r k m hs).1.getD (k + j) 0) t.c) ∧
      ((rowF t.c).a = 9 → ((k + j : Nat) : Int) < t.a → t.a < ((k + r.length : Nat) : Int) → (hgtP r k m hs).1.getD t.a.toNat 0 = bhd ((hgtP r k m hs).1.getD (k + j) 0) t.c))
  | [], k, m, hs, hl, _ => by
    unfold hgtP
    exact ⟨fun j _ => rfl, by simpa using hl, fun j v h1 h2 _ => by simp at h2; omega, fun j t h => by simp at h⟩
  | i :: r, k, m, hs, hl, hn => by
    unfold hgtP at hn ⊢
    by_cases c : errP ((m k).getD 0) i.c
    · rw [if_pos c] at hn; cases hn
    · rw [if_neg c] at hn
      rw [if_neg c]
      have ne : ¬ errP ((m k).getD 0) i.c := c
      unfold errP at ne
      simp only [not_or, not_and, Int.not_lt] at ne
      obtain ⟨n1, n2, n3⟩ := ne
      generalize hx : (m k).getD 0 = x at *
      have hb : 0 ≤ bhd x i.c := by unfold bhd; omega
      obtain ⟨A, B, C, D⟩ := hgt_edges r (k + 1) (nextP m k i (bhd x i.c)) (hs ++ [x]) (by simp [hl]) hn
      generalize hgtP r (k + 1) (nextP m k i (bhd x i.c)) (hs ++ [x]) = R at *
      have ek : R.1.getD k 0 = x := by
        rw [A k (by omega), List.getD_eq_getElem?_getD, List.getElem?_append_right (by omega), hl]; simp
      have pos : ∀ j, k < j → j < k + (r.length + 1) → 0 ≤ R.1.getD j 0 := fun j h1 h2 => by
        obtain ⟨t, ht⟩ : ∃ t, r[j - (k + 1)]? = some t := ⟨_, List.getElem?_eq_getElem (by omega)⟩
        have := (D (j - (k + 1)) t ht).1
        rw [show k + 1 + (j - (k + 1)) = j by omega] at this
        omega
      have toJ : ∀ j u v, k < j → j < k + (r.length + 1) → nextP m k i (bhd x i.c) j = some u → (u = v ∨ u = -1) → R.1.getD j 0 = v := fun j u v h1 h2 h3 h4 => by
        have e := C j u (by omega) (by omega) h3
        have := pos j h1 h2
        rcases h4 with h4 | h4 <;> omega
      refine ⟨fun j hj => ?_, by rw [B]; simp; omega, fun j v h1 h2 h3 => ?_, fun j t ht => ?_⟩
      · rw [A j (by omega)]
        simp only [List.getD_eq_getElem?_getD]
        rw [List.getElem?_append_left (by omega)]
      · by_cases e : j = k
        · subst e
          rw [ek, ← hx, h3]; rfl
        · obtain ⟨u, hu, q⟩ := next_keepv (i := i) (v := bhd x i.c) (show k < j by omega) h3
          exact toJ j u v (by omega) (by simpa using h2) hu q
      · cases j with
        | zero =>
          simp at ht
          subst ht
          rw [Nat.add_zero, ek]
          refine ⟨n1, n2, n3, fun h => ?_, fun a9 h1 h2 => ?_⟩
          · obtain ⟨u, hu, q⟩ := next_one m k i (bhd x i.c)
            exact toJ _ u _ (by omega) (by simp at h; omega) hu q
          · obtain ⟨u, hu, q⟩ := next_jump m k i (bhd x i.c) a9
            simp only [List.length_cons] at h2
            exact toJ _ u _ (by omega) (by omega) hu q
        | succ j =>
          have := D j t (by simpa using ht)
          rw [show k + 1 + j = k + (j + 1) by omega] at this
          refine ⟨this.1, this.2.1, this.2.2.1, fun h => this.2.2.2.1 (by simp at h; omega), fun a9 h1 h2 => this.2.2.2.2 a9 (by omega) (by simp only [List.length_cons] at h2; omega)⟩
theorem hok_of {l : List InP} {m : Nat → Option Int} (h0 : m 0 = some 0 ∨ m 0 = none) (hn : (hgtP l 0 m []).2 = none) : HOk l (fun j => (hgtP l 0 m []).1.getD j 0) := by
  obtain ⟨A, B, C, D⟩ := hgt_edges l 0 m [] rfl hn
  have D' : ∀ (k : Nat) (t : InP), l[k]? = some t → _ := fun k t ht => by
    have := D k t ht
    rw [Nat.zero_add, Nat.zero_add] at this
    exact this
  refine ⟨?_, fun k t ht => (D' k t ht).1, fun k t ht => (D' k t ht).2.1, fun k t ht => (D' k t ht).2.2.2.1, fun k t ht a9 h1 h2 => (D' k t ht).2.2.2.2 a9 h1 h2, fun k t ht e => ?_⟩
  · cases l with
    | nil => unfold hgtP; rfl
    | cons i r =>
      rcases h0 with h0 | h0
      · exact C 0 0 (Nat.le_refl _) (by simp) h0
      · have e := hn
        unfold hgtP at e
        unfold hgtP
        rw [h0] at e ⊢
        by_cases c : errP ((none : Option Int).getD 0) i.c
        · rw [if_pos c] at e; cases e
        · rw [if_neg c] at e ⊢
          have q := (hgt_edges r 1 _ ([] ++ [(none : Option Int).getD 0]) rfl e).1 0 (by omega)
          rw [q]; rfl
  · have h1 := (D' k t ht).2.2.1 e
    have h2 := (D' k t ht).1
    unfold bhd at *
    omega
end Go.Proofs.YtdfnomglkibfbaaGreatDoor.Vf

namespace Go.Proofs.YtdfnomglkibfbaaGreatDoor.Vf
set_option linter.unusedVariables false
set_option linter.unusedSimpArgs false
/-! ### plain: what is certain of the stack: -1 no, 0 open, 1 yes -/
def Tr (x : Int) : Prop := x = -1 ∨ x = 0 ∨ x = 1
def minT (a b : Int) : Int := if a ≤ b then a else b
def maxT (a b : Int) : Int := if a ≤ b then b else a
theorem minT_tr {a b : Int} (ha : Tr a) (hb : Tr b) : Tr (minT a b) := by unfold minT; split <;> assumption
theorem maxT_tr {a b : Int} (ha : Tr a) (hb : Tr b) : Tr (maxT a b) := by unfold maxT; split <;> assumption
theorem neg_tr {a : Int} (ha : Tr a) : Tr (-a) := by unfold Tr at *; omega
/-- what an instruction lays on the stack, of what it took. -/
def topT (c : Nat) (x y : Int) : Int :=
  if c = 1 then 1 else if c = 2 then -1 else if c = 7 then -x else if c = 8 then minT x y else if c = 9 then maxT x y else if c = 10 ∨ c = 11 then x else 0
theorem topT_tr {c : Nat} {x y : Int} (hx : Tr x) (hy : Tr y) : Tr (topT c x y) := by
  unfold topT
  have z : Tr 0 := Or.inr (Or.inl rfl)
  have o : Tr 1 := Or.inr (Or.inr rfl)
  have n : Tr (-1) := Or.inl rfl
  split; · exact o
  split; · exact n
  split; · exact neg_tr hx
  split; · exact minT_tr hx hy
  split; · exact maxT_tr hx hy
  split; · exact hx
  exact z
def certP (c : Nat) (s : List Int) : List Int :=
  if c = 12 ∨ c = 13 then s.take (s.length - (rowF c).tk)
  else s.take (s.length - (rowF c).tk) ++ [topT c (s.getD (s.length - (rowF c).tk) 0) (s.getD (s.length - (rowF c).tk + 1) 0)]
/-- can it jump, can it go on? -/
def leadJ (c : Nat) (s : List Int) : Bool := (c == 10 && decide (s.getD (s.length - 1) 0 ≠ 1)) || (c == 11 && decide (s.getD (s.length - 1) 0 ≠ -1))
def leadG (c : Nat) (s : List Int) : Bool := !((c == 10 && decide (s.getD (s.length - 1) 0 = -1)) || (c == 11 && decide (s.getD (s.length - 1) 0 = 1)))
def mT (a b : Int) : Int := if a = b then a else 0
def sameT (a b : List Int) : List Int := List.zipWith mT a b
theorem mT_tr {a b : Int} (ha : Tr a) : Tr (mT a b) := by unfold mT; split; exact ha; exact Or.inr (Or.inl rfl)
abbrev MpT := Nat → Option (List Int)
def meetT (o : Option (List Int)) (s : List Int) : List Int := match o with
  | none => s
  | some o => sameT o s
def bringT (m : MpT) (j : Nat) (s : List Int) (k : Nat) : Option (List Int) := if k = j then some (meetT (m j) s) else m k
def dropT (m : MpT) (j k : Nat) : Option (List Int) := if k = j then none else m k
def stepT (m : MpT) (k : Nat) (i : InP) (s : List Int) : MpT :=
  if leadG i.c s = true then bringT (if leadJ i.c s = true then bringT (dropT m k) i.a.toNat (certP i.c s) else dropT m k) (k + 1) (certP i.c s)
  else if leadJ i.c s = true then bringT (dropT m k) i.a.toNat (certP i.c s) else dropT m k
def dmP (l : List InP) : Nat → MpT × List Nat
  | 0 => (fun j => if j = 0 then some [] else none, [])
  | k + 1 => match l[k]? with
    | none => dmP l k
    | some t => match (dmP l k).1 k with
      | none => (dropT (dmP l k).1 k, (dmP l k).2 ++ [k])
      | some s => (stepT (dmP l k).1 k t s, (dmP l k).2)
def deadL (l : List InP) : List Nat := (dmP l l.length).2
theorem sameT_len {a b : List Int} (h : a.length = b.length) : (sameT a b).length = b.length := by unfold sameT; simp [h]
theorem sameT_idem (s : List Int) : sameT s s = s := by
  unfold sameT
  induction s with
  | nil => rfl
  | cons x r ih => simp [ih, mT]
/-- two places, whichever first. -/
theorem bringT_comm (m : MpT) (i j : Nat) (s : List Int) : bringT (bringT m i s) j s = bringT (bringT m j s) i s := by
  funext k
  unfold bringT
  by_cases e : i = j
  · subst e; rfl
  · by_cases e1 : k = j
    · subst e1
      rw [if_pos rfl, if_neg (fun q => e q.symm), if_neg (fun q => e q.symm)]
      simp
    · rw [if_neg e1]
      by_cases e2 : k = i
      · subst e2; rw [if_pos rfl, if_pos rfl, if_neg e1]
      · rw [if_neg e2, if_neg e2, if_neg e1]
/-- the machines' filter instructions. -/
def Fil (l : List InP) : Prop := ∀ (j : Nat) (t : InP), l[j]? = some t → 1 ≤ t.c ∧ t.c ≤ 13
def Jmp (l : List InP) : Prop := ∀ (j : Nat) (t : InP), l[j]? = some t → (rowF t.c).a = 9 → (j : Int) < t.a ∧ t.a < (l.length : Int)
theorem lead_nine {c : Nat} {s : List Int} (h : leadJ c s = true) : (rowF c).a = 9 := by
  unfold leadJ at h
  simp only [Bool.or_eq_true, Bool.and_eq_true, beq_iff_eq] at h
  rcases h with ⟨rfl, _⟩ | ⟨rfl, _⟩ <;> rfl
theorem tk_pt {c : Nat} (h1 : 1 ≤ c) (h2 : c ≤ 13) : (rowF c).pt = if c = 12 ∨ c = 13 then 0 else 1 := by
  match c, h1, h2 with
  | 1, _, _ | 2, _, _ | 3, _, _ | 4, _, _ | 5, _, _ | 6, _, _ | 7, _, _ | 8, _, _ | 9, _, _ | 10, _, _ | 11, _, _ | 12, _, _ | 13, _, _ => rfl
  | c + 14, _, h => omega
theorem cert_len {c : Nat} {s : List Int} (h1 : 1 ≤ c) (h2 : c ≤ 13) (hs : (rowF c).tk ≤ s.length) : ((certP c s).length : Int) = bhd (s.length : Int) c := by
  unfold certP bhd
  rw [tk_pt h1 h2]
  by_cases e : c = 12 ∨ c = 13
  · rw [if_pos e, if_pos e, List.length_take]; simp; omega
  · rw [if_neg e, if_neg e, List.length_append, List.length_take]; simp; omega
theorem getD_tr {s : List Int} (h : ∀ x ∈ s, Tr x) (k : Nat) : Tr (s.getD k 0) := by
  rw [List.getD_eq_getElem?_getD]
  cases e : s[k]? with
  | none => exact Or.inr (Or.inl rfl)
  | some x => exact h x (List.mem_of_getElem? e)
theorem cert_tr {c : Nat} {s : List Int} (h : ∀ x ∈ s, Tr x) : ∀ x ∈ certP c s, Tr x := by
  unfold certP
  split
  · exact fun x hx => h x (List.mem_of_mem_take hx)
  · intro x hx
    rcases List.mem_append.1 hx with hx | hx
    · exact h x (List.mem_of_mem_take hx)
    · simp at hx; subst hx; exact topT_tr (getD_tr h _) (getD_tr h _)
theorem same_tr : ∀ {a b : List Int}, (∀ x ∈ a, Tr x) → ∀ x ∈ sameT a b, Tr x := by
  intro a
  unfold sameT
  induction a with
  | nil => intro b _ x hx; simp at hx
  | cons y r ih =>
    intro b h x hx
    cases b with
    | nil => simp at hx
    | cons z q =>
      simp only [List.zipWith_cons_cons, List.mem_cons] at hx
      rcases hx with rfl | hx
      · exact mT_tr (h y (List.mem_cons_self ..))
      · exact ih (fun x hx => h x (List.mem_cons_of_mem _ hx)) x hx
/-- what stands while the dead are looked for. -/
structure DIn (l : List InP) (h : Nat → Int) (k : Nat) (m : MpT) : Prop where
  len : ∀ j s, m j = some s → j < l.length → (s.length : Int) = h j
  tr : ∀ j s, m j = some s → ∀ x ∈ s, Tr x
  ge : ∀ j s, m j = some s → k ≤ j
  le : ∀ j s, m j = some s → j ≤ l.length
theorem DIn.bring {l : List InP} {h : Nat → Int} {k : Nat} {m : MpT} (d : DIn l h k m) {j : Nat} {s : List Int} (hj : k ≤ j) (hl : j ≤ l.length) (hs : j < l.length → (s.length : Int) = h j) (ht : ∀ x ∈ s, Tr x) : DIn l h k (bringT m j s) := by
  refine ⟨fun q u hu hq => ?_, fun q u hu => ?_, fun q u hu => ?_, fun q u hu => ?_⟩
  all_goals
    unfold bringT at hu
    by_cases e : q = j
    · subst e
      rw [if_pos rfl] at hu
      injection hu with hu
      all_goals unfold meetT at hu
      all_goals first
      | exact hj
      | exact hl
      | (cases c : m q with
         | none => rw [c] at hu; subst hu; first | exact hs hq | exact ht
         | some o =>
           rw [c] at hu
           subst hu
           first
           | (have e1 := d.len q o c hq
              have e2 := hs hq
              simp only
              rw [sameT_len (by omega)]; exact e2)
           | exact same_tr (d.tr q o c))
    · rw [if_neg e] at hu
      first | exact d.len q u hu hq | exact d.tr q u hu | exact d.ge q u hu | exact d.le q u hu
theorem DIn.drop {l : List InP} {h : Nat → Int} {k : Nat} {m : MpT} (d : DIn l h k m) : DIn l h (k + 1) (dropT m k) := by
  have e : ∀ {q : Nat} {u : List Int}, dropT m k q = some u → m q = some u ∧ q ≠ k := by
    intro q u hu
    unfold dropT at hu
    by_cases c : q = k
    · rw [if_pos c] at hu; cases hu
    · rw [if_neg c] at hu; exact ⟨hu, c⟩
  exact ⟨fun q u hu hq => d.len q u (e hu).1 hq, fun q u hu => d.tr q u (e hu).1, fun q u hu => by have := d.ge q u (e hu).1; have := (e hu).2; omega, fun q u hu => d.le q u (e hu).1⟩
theorem DIn.step {l : List InP} {h : Nat → Int} {k : Nat} {m : MpT} (H : HOk l h) (F : Fil l) (J : Jmp l) (d : DIn l h k m) {t : InP} (ht : l[k]? = some t) {s : List Int} (hs : m k = some s) : DIn l h (k + 1) (stepT m k t s) := by
  have hk : k < l.length := (List.getElem?_eq_some_iff.1 ht).1
  obtain ⟨f1, f2⟩ := F k t ht
  have e1 := d.len k s hs hk
  have e2 := H.tk k t ht
  have e3 := cert_len (c := t.c) (s := s) f1 f2 (by omega)
  have tr := cert_tr (c := t.c) (d.tr k s hs)
  rw [e1] at e3
  have jm : leadJ t.c s = true → DIn l h (k + 1) (bringT (dropT m k) t.a.toNat (certP t.c s)) := fun q => by
    have a9 := lead_nine q
    obtain ⟨j1, j2⟩ := J k t ht a9
    exact d.drop.bring (by omega) (by omega) (fun _ => by rw [e3]; exact (H.jp k t ht a9 j1 j2).symm) tr
  have m1 : DIn l h (k + 1) (if leadJ t.c s = true then bringT (dropT m k) t.a.toNat (certP t.c s) else dropT m k) := by
    split
    · exact jm (by assumption)
    · exact d.drop
  unfold stepT
  split
  · exact m1.bring (Nat.le_refl _) (by omega) (fun q => by rw [e3]; exact (H.nx k t ht q).symm) tr
  · exact m1
theorem dmP_none {l : List InP} {k : Nat} {t : InP} (ht : l[k]? = some t) (hm : (dmP l k).1 k = none) : dmP l (k + 1) = (dropT (dmP l k).1 k, (dmP l k).2 ++ [k]) := by
  show (match l[k]? with | none => dmP l k | some t => match (dmP l k).1 k with | none => (dropT (dmP l k).1 k, (dmP l k).2 ++ [k]) | some s => (stepT (dmP l k).1 k t s, (dmP l k).2)) = _
  rw [ht, hm]
theorem dmP_some {l : List InP} {k : Nat} {t : InP} {s : List Int} (ht : l[k]? = some t) (hm : (dmP l k).1 k = some s) : dmP l (k + 1) = (stepT (dmP l k).1 k t s, (dmP l k).2) := by
  show (match l[k]? with | none => dmP l k | some t => match (dmP l k).1 k with | none => (dropT (dmP l k).1 k, (dmP l k).2 ++ [k]) | some s => (stepT (dmP l k).1 k t s, (dmP l k).2)) = _
  rw [ht, hm]
theorem dIn_all {l : List InP} {h : Nat → Int} (H : HOk l h) (F : Fil l) (J : Jmp l) : ∀ k, k ≤ l.length → DIn l h k (dmP l k).1
  | 0, _ => by
    have e : ∀ {j : Nat} {s : List Int}, (dmP l 0).1 j = some s → j = 0 ∧ s = [] := by
      intro j s q
      unfold dmP at q
      simp only at q
      by_cases c : j = 0
      · rw [if_pos c] at q; injection q with q; exact ⟨c, q.symm⟩
      · rw [if_neg c] at q; cases q
    exact ⟨fun j s q _ => by obtain ⟨rfl, rfl⟩ := e q; rw [H.z]; rfl, fun j s q => by obtain ⟨rfl, rfl⟩ := e q; intro x hx; simp at hx, fun j s q => Nat.zero_le _, fun j s q => by obtain ⟨rfl, rfl⟩ := e q; exact Nat.zero_le _⟩
  | k + 1, hk => by
    have d := dIn_all H F J k (by omega)
    obtain ⟨t, ht⟩ : ∃ t, l[k]? = some t := ⟨_, List.getElem?_eq_getElem (by omega)⟩
    cases hm : (dmP l k).1 k with
    | none => rw [dmP_none ht hm]; exact d.drop
    | some s => rw [dmP_some ht hm]; exact d.step H F J ht hm
theorem dead_lt {l : List InP} : ∀ k, k ≤ l.length → (∀ j ∈ (dmP l k).2, j < k) ∧ (dmP l k).2.length ≤ k
  | 0, _ => ⟨fun j hj => by unfold dmP at hj; simp at hj, Nat.le_refl _⟩
  | k + 1, hk => by
    have d := dead_lt (l := l) k (by omega)
    obtain ⟨t, ht⟩ : ∃ t, l[k]? = some t := ⟨_, List.getElem?_eq_getElem (by omega)⟩
    cases hm : (dmP l k).1 k with
    | none =>
      rw [dmP_none ht hm]
      refine ⟨fun j hj => ?_, by have := d.2; simp; omega⟩
      rcases List.mem_append.1 hj with hj | hj
      · have := d.1 j hj; omega
      · simp at hj; omega
    | some s => rw [dmP_some ht hm]; exact ⟨fun j hj => by have := d.1 j hj; omega, by have := d.2; simp only; omega⟩
end Go.Proofs.YtdfnomglkibfbaaGreatDoor.Vf

namespace Go.Proofs.YtdfnomglkibfbaaGreatDoor.Vf
set_option linter.unusedVariables false
set_option linter.unusedSimpArgs false
/-! ### plain: a run of a filter on truths -/
def okB (b : Bool) (x : Int) : Prop := (x = 1 → b = true) ∧ (x = -1 → b = false)
def Cs (s : List Bool) (a : List Int) : Prop := s.length = a.length ∧ ∀ k, okB (s.getD k false) (a.getD k 0)
theorem okB_zero (b : Bool) : okB b 0 := ⟨fun h => absurd h (by omega), fun h => absurd h (by omega)⟩
def topB (c : Nat) (t x y : Bool) : Bool :=
  if c = 1 then true else if c = 2 then false else if c = 7 then !x else if c = 8 then x && y else if c = 9 then x || y else if c = 10 ∨ c = 11 then x else t
def stepB (c : Nat) (t : Bool) (s : List Bool) : List Bool :=
  if c = 12 ∨ c = 13 then s.take (s.length - (rowF c).tk)
  else s.take (s.length - (rowF c).tk) ++ [topB c t (s.getD (s.length - (rowF c).tk) false) (s.getD (s.length - (rowF c).tk + 1) false)]
theorem topT_ok {c : Nat} {t x y : Bool} {a b : Int} (hx : okB x a) (hy : okB y b) (ta : Tr a) (tb : Tr b) : okB (topB c t x y) (topT c a b) := by
  unfold topB topT
  by_cases c1 : c = 1
  · rw [if_pos c1, if_pos c1]; exact ⟨fun _ => rfl, fun h => absurd h (by omega)⟩
  rw [if_neg c1, if_neg c1]
  by_cases c2 : c = 2
  · rw [if_pos c2, if_pos c2]; exact ⟨fun h => absurd h (by omega), fun _ => rfl⟩
  rw [if_neg c2, if_neg c2]
  by_cases c3 : c = 7
  · rw [if_pos c3, if_pos c3]
    exact ⟨fun h => by rw [hx.2 (by omega)]; rfl, fun h => by rw [hx.1 (by omega)]; rfl⟩
  rw [if_neg c3, if_neg c3]
  by_cases c4 : c = 8
  · rw [if_pos c4, if_pos c4]
    unfold minT Tr at *
    refine ⟨fun h => ?_, fun h => ?_⟩
    · rw [hx.1 (by split at h <;> omega), hy.1 (by split at h <;> omega)]; rfl
    · by_cases q : a ≤ b
      · rw [if_pos q] at h; rw [hx.2 h]; rfl
      · rw [if_neg q] at h; rw [hy.2 h, Bool.and_false]
  rw [if_neg c4, if_neg c4]
  by_cases c5 : c = 9
  · rw [if_pos c5, if_pos c5]
    unfold maxT Tr at *
    refine ⟨fun h => ?_, fun h => ?_⟩
    · by_cases q : a ≤ b
      · rw [if_pos q] at h; rw [hy.1 h, Bool.or_true]
      · rw [if_neg q] at h; rw [hx.1 h]; rfl
    · rw [hx.2 (by split at h <;> omega), hy.2 (by split at h <;> omega)]; rfl
  rw [if_neg c5, if_neg c5]
  by_cases c6 : c = 10 ∨ c = 11
  · rw [if_pos c6, if_pos c6]; exact hx
  rw [if_neg c6, if_neg c6]
  exact okB_zero _
theorem getD_take_b {α : Type} {l : List α} {d : α} {n k : Nat} : (l.take n).getD k d = if k < n then l.getD k d else d := by
  rw [List.getD_eq_getElem?_getD, List.getElem?_take]
  split
  · rw [List.getD_eq_getElem?_getD]
  · rfl
theorem getD_concat {α : Type} {l : List α} {x d : α} {k : Nat} : (l ++ [x]).getD k d = if k < l.length then l.getD k d else if k = l.length then x else d := by
  rw [List.getD_eq_getElem?_getD]
  by_cases h : k < l.length
  · rw [if_pos h, List.getElem?_append_left h, List.getD_eq_getElem?_getD]
  · rw [if_neg h]
    by_cases e : k = l.length
    · subst e; rw [if_pos rfl, List.getElem?_concat_length]; rfl
    · rw [if_neg e, List.getElem?_eq_none (by simp; omega)]; rfl
theorem Cs.take {s : List Bool} {a : List Int} (h : Cs s a) (n : Nat) : Cs (s.take n) (a.take n) := by
  refine ⟨by rw [List.length_take, List.length_take, h.1], fun k => ?_⟩
  rw [getD_take_b, getD_take_b]
  split
  · exact h.2 k
  · exact okB_zero _
theorem Cs.concat {s : List Bool} {a : List Int} (h : Cs s a) {b : Bool} {x : Int} (hb : okB b x) : Cs (s ++ [b]) (a ++ [x]) := by
  refine ⟨by rw [List.length_append, List.length_append, h.1]; rfl, fun k => ?_⟩
  rw [getD_concat, getD_concat, h.1]
  split
  · exact h.2 k
  · split
    · exact hb
    · exact okB_zero _
theorem Cs.step {s : List Bool} {a : List Int} (h : Cs s a) (tr : ∀ x ∈ a, Tr x) (c : Nat) (t : Bool) : Cs (stepB c t s) (certP c a) := by
  unfold stepB certP
  rw [h.1]
  split
  · exact h.take _
  · exact (h.take _).concat (topT_ok (h.2 _) (h.2 _) (getD_tr tr _) (getD_tr tr _))
theorem step_len {c : Nat} {s : List Bool} (t : Bool) (h1 : 1 ≤ c) (h2 : c ≤ 13) (hs : (rowF c).tk ≤ s.length) : ((stepB c t s).length : Int) = bhd (s.length : Int) c := by
  unfold stepB bhd
  rw [tk_pt h1 h2]
  by_cases e : c = 12 ∨ c = 13
  · rw [if_pos e, if_pos e, List.length_take]; simp; omega
  · rw [if_neg e, if_neg e, List.length_append, List.length_take]; simp; omega
theorem getD_zip : ∀ (a c : List Int) (k : Nat), a.length = c.length → (sameT a c).getD k 0 = if k < a.length then mT (a.getD k 0) (c.getD k 0) else 0
  | [], [], k, _ => by unfold sameT; simp
  | x :: a, y :: c, 0, _ => by unfold sameT; simp
  | x :: a, y :: c, k + 1, h => by
    have := getD_zip a c k (by simpa using h)
    unfold sameT at *
    simp only [List.zipWith_cons_cons, List.getD_cons_succ, List.length_cons, Nat.add_lt_add_iff_right]
    exact this
  | [], _ :: _, _, h => by simp at h
  | _ :: _, [], _, h => by simp at h
theorem same_cs {s : List Bool} {a c : List Int} (h : Cs s a) (hl : a.length = c.length) : Cs s (sameT a c) := by
  refine ⟨by rw [sameT_len hl, h.1, hl], fun k => ?_⟩
  rw [getD_zip a c k hl]
  split
  · unfold mT
    split
    · exact h.2 k
    · exact okB_zero _
  · exact okB_zero _
theorem same_cs' {s : List Bool} {a c : List Int} (h : Cs s c) (hl : a.length = c.length) : Cs s (sameT a c) := by
  refine ⟨by rw [sameT_len hl, h.1], fun k => ?_⟩
  rw [getD_zip a c k hl]
  split
  · unfold mT
    split
    · rename_i e; rw [e]; exact h.2 k
    · exact okB_zero _
  · exact okB_zero _
theorem meet_cs {s : List Bool} {c : List Int} {o : Option (List Int)} (h : Cs s c) (hl : ∀ a, o = some a → a.length = c.length) : Cs s (meetT o c) := by
  unfold meetT
  cases o with
  | none => exact h
  | some a => exact same_cs' h (hl a rfl)
/-- what is laid at a place is true of a stack. -/
def Rch (m : MpT) (j : Nat) (s : List Bool) : Prop := ∃ a, m j = some a ∧ Cs s a
theorem Rch.bring {m : MpT} {j q : Nat} {s : List Bool} {c : List Int} (h : Rch m j s) (hl : q = j → ∀ a, m j = some a → a.length = c.length) : Rch (bringT m q c) j s := by
  obtain ⟨a, h1, h2⟩ := h
  unfold bringT
  by_cases e : j = q
  · subst e
    refine ⟨_, if_pos rfl, ?_⟩
    rw [h1]
    exact same_cs h2 (hl rfl a h1)
  · exact ⟨a, (if_neg e).trans h1, h2⟩
theorem Rch.brought {m : MpT} {j : Nat} {s : List Bool} {c : List Int} (h : Cs s c) (hl : ∀ a, m j = some a → a.length = c.length) : Rch (bringT m j c) j s := ⟨_, if_pos rfl, meet_cs h hl⟩
theorem Rch.drop {m : MpT} {j k : Nat} {s : List Bool} (h : Rch m j s) (hj : j ≠ k) : Rch (dropT m k) j s := by
  obtain ⟨a, h1, h2⟩ := h
  exact ⟨a, (if_neg hj : dropT m k j = m j).trans h1, h2⟩
/-- one more instruction gone through: what lies ahead stays true. -/
theorem Rch.next {l : List InP} {h : Nat → Int} (H : HOk l h) (F : Fil l) (J : Jmp l) {k j : Nat} (hk : k < j) (hj : j < l.length) {s : List Bool} (r : Rch (dmP l k).1 j s) : Rch (dmP l (k + 1)).1 j s := by
  have d := dIn_all H F J k (by omega)
  obtain ⟨t, ht⟩ : ∃ t, l[k]? = some t := ⟨_, List.getElem?_eq_getElem (by omega)⟩
  cases hm : (dmP l k).1 k with
  | none => rw [dmP_none ht hm]; exact r.drop (by omega)
  | some a =>
    rw [dmP_some ht hm]
    obtain ⟨f1, f2⟩ := F k t ht
    have e1 := d.len k a hm (by omega)
    have e2 := H.tk k t ht
    have e3 := cert_len (c := t.c) (s := a) f1 f2 (by omega)
    rw [e1] at e3
    have dd := d.drop
    have jm : leadJ t.c a = true → DIn l h (k + 1) (bringT (dropT (dmP l k).1 k) t.a.toNat (certP t.c a)) := fun q => by
      obtain ⟨j1, j2⟩ := J k t ht (lead_nine q)
      exact dd.bring (by omega) (by omega) (fun _ => by rw [e3]; exact (H.jp k t ht (lead_nine q) j1 j2).symm) (cert_tr (d.tr k a hm))
    have lnJ : leadJ t.c a = true → t.a.toNat = j → (certP t.c a).length = (h j).toNat := fun q e => by
      obtain ⟨j1, j2⟩ := J k t ht (lead_nine q)
      have := H.jp k t ht (lead_nine q) j1 j2
      rw [e] at this
      omega
    have lnG : k + 1 = j → (certP t.c a).length = (h j).toNat := fun e => by
      have := H.nx k t ht (by omega)
      rw [e] at this
      omega
    have r0 := r.drop (k := k) (by omega)
    have r1 : Rch (if leadJ t.c a = true then bringT (dropT (dmP l k).1 k) t.a.toNat (certP t.c a) else dropT (dmP l k).1 k) j s := by
      split
      · rename_i q
        exact r0.bring (fun e u hu => by
          have := dd.len j u hu hj
          have := lnJ q e
          omega)
      · exact r0
    have d1 : DIn l h (k + 1) (if leadJ t.c a = true then bringT (dropT (dmP l k).1 k) t.a.toNat (certP t.c a) else dropT (dmP l k).1 k) := by
      split
      · exact jm (by assumption)
      · exact dd
    unfold stepT
    split
    · exact r1.bring (fun e u hu => by
        have := d1.len j u hu hj
        have := lnG e
        omega)
    · exact r1
theorem Rch.upto {l : List InP} {h : Nat → Int} (H : HOk l h) (F : Fil l) (J : Jmp l) {j : Nat} (hj : j < l.length) {s : List Bool} : ∀ (n k : Nat), k + n = j → Rch (dmP l k).1 j s → Rch (dmP l j).1 j s
  | 0, k, e, r => by simp at e; subst e; exact r
  | n + 1, k, e, r => Rch.upto H F J hj n (k + 1) (by omega) (r.next H F J (by omega) hj)
/-- where a run stands. -/
structure RnS (l : List InP) (h : Nat → Int) (k : Nat) (s : List Bool) : Prop where
  lt : k < l.length
  len : (s.length : Int) = h k
  rch : Rch (dmP l k).1 k s
theorem lead_go {c : Nat} {s : List Bool} {a : List Int} (h : Cs s a) (hs : (c = 10 ∨ c = 11) → s.getD (s.length - 1) false ≠ decide (c = 11)) : leadG c a = true := by
  unfold leadG
  have e := h.2 (s.length - 1)
  rw [h.1] at e hs
  generalize s.getD (a.length - 1) false = b at *
  generalize a.getD (a.length - 1) 0 = x at *
  rw [Bool.not_eq_true', Bool.or_eq_false_iff]
  refine ⟨?_, ?_⟩
  · by_cases c1 : c = 10
    · subst c1
      have h1 := hs (Or.inl rfl)
      by_cases q : x = -1
      · exact absurd (e.2 q) (by simpa using h1)
      · simp [q]
    · simp [c1]
  · by_cases c1 : c = 11
    · subst c1
      have h1 := hs (Or.inr rfl)
      by_cases q : x = 1
      · exact absurd (e.1 q) (by simpa using h1)
      · simp [q]
    · simp [c1]
theorem lead_jump {c : Nat} {s : List Bool} {a : List Int} (h : Cs s a) (hc : c = 10 ∨ c = 11) (hs : s.getD (s.length - 1) false = decide (c = 11)) : leadJ c a = true := by
  unfold leadJ
  have e := h.2 (s.length - 1)
  rw [h.1] at e hs
  generalize s.getD (a.length - 1) false = b at *
  generalize a.getD (a.length - 1) 0 = x at *
  rcases hc with rfl | rfl
  · have q : x ≠ 1 := fun q => by rw [e.1 q] at hs; simp at hs
    simp [q]
  · have q : x ≠ -1 := fun q => by rw [e.2 q] at hs; simp at hs
    simp [q]
/-- one instruction more. -/
theorem RnS.step {l : List InP} {h : Nat → Int} (H : HOk l h) (F : Fil l) (J : Jmp l) {k : Nat} {s : List Bool} (r : RnS l h k s) {t : InP} (ht : l[k]? = some t) (b : Bool) {j : Nat}
    (hj : (j = k + 1 ∧ j < l.length ∧ ((t.c = 10 ∨ t.c = 11) → s.getD (s.length - 1) false ≠ decide (t.c = 11))) ∨ (j = t.a.toNat ∧ (t.c = 10 ∨ t.c = 11) ∧ s.getD (s.length - 1) false = decide (t.c = 11))) : k < j ∧ RnS l h j (stepB t.c b s) := by
  obtain ⟨a, hm, hc⟩ := r.rch
  have d := dIn_all H F J k (by have := r.lt; omega)
  obtain ⟨f1, f2⟩ := F k t ht
  have e1 := d.len k a hm r.lt
  have e2 := H.tk k t ht
  have e3 := cert_len (c := t.c) (s := a) f1 f2 (by omega)
  rw [e1] at e3
  have tr := d.tr k a hm
  have dd := d.drop
  have c2 := hc.step tr t.c b
  have sl := step_len (c := t.c) (s := s) b f1 f2 (by have := r.len; omega)
  rw [r.len] at sl
  have jm : leadJ t.c a = true → DIn l h (k + 1) (bringT (dropT (dmP l k).1 k) t.a.toNat (certP t.c a)) := fun q => by
    obtain ⟨j1, j2⟩ := J k t ht (lead_nine q)
    exact dd.bring (by omega) (by omega) (fun _ => by rw [e3]; exact (H.jp k t ht (lead_nine q) j1 j2).symm) (cert_tr tr)
  have d1 : DIn l h (k + 1) (if leadJ t.c a = true then bringT (dropT (dmP l k).1 k) t.a.toNat (certP t.c a) else dropT (dmP l k).1 k) := by
    split
    · exact jm (by assumption)
    · exact dd
  rcases hj with ⟨rfl, hl, hg⟩ | ⟨rfl, h10, hg⟩
  · have g := lead_go hc hg
    have nx := H.nx k t ht hl
    refine ⟨by omega, hl, by rw [sl, nx], ?_⟩
    rw [dmP_some ht hm]
    show Rch (stepT (dmP l k).1 k t a) (k + 1) (stepB t.c b s)
    unfold stepT
    rw [if_pos g]
    exact Rch.brought c2 (fun u hu => by have := d1.len _ u hu hl; omega)
  · have g := lead_jump hc h10 hg
    obtain ⟨j1, j2⟩ := J k t ht (lead_nine g)
    have jp := H.jp k t ht (lead_nine g) j1 j2
    refine ⟨by omega, by omega, by rw [sl, jp], ?_⟩
    refine Rch.upto H F J (by omega) (t.a.toNat - (k + 1)) (k + 1) (by omega) ?_
    rw [dmP_some ht hm]
    show Rch (stepT (dmP l k).1 k t a) t.a.toNat (stepB t.c b s)
    have r1 : Rch (bringT (dropT (dmP l k).1 k) t.a.toNat (certP t.c a)) t.a.toNat (stepB t.c b s) := Rch.brought c2 (fun u hu => by have := dd.len _ u hu (by omega); omega)
    unfold stepT
    rw [if_pos g]
    rw [if_pos g] at d1
    split
    · exact r1.bring (fun e u hu => by
        have q1 := d1.len _ u hu (by omega)
        omega)
    · exact r1
theorem RnS.start {l : List InP} {h : Nat → Int} (H : HOk l h) (hl : 0 < l.length) : RnS l h 0 [] := ⟨hl, by rw [H.z]; rfl, [], by unfold dmP; rfl, rfl, fun k => by simpa using okB_zero _⟩
theorem dead_none {l : List InP} : ∀ k, k ≤ l.length → ∀ j ∈ (dmP l k).2, (dmP l j).1 j = none
  | 0, _, j, hj => by unfold dmP at hj; simp at hj
  | k + 1, hk, j, hj => by
    obtain ⟨t, ht⟩ : ∃ t, l[k]? = some t := ⟨_, List.getElem?_eq_getElem (by omega)⟩
    cases hm : (dmP l k).1 k with
    | none =>
      rw [dmP_none ht hm] at hj
      rcases List.mem_append.1 hj with hj | hj
      · exact dead_none k (by omega) j hj
      · simp at hj; subst hj; exact hm
    | some s => rw [dmP_some ht hm] at hj; exact dead_none k (by omega) j hj
theorem RnS.alive {l : List InP} {h : Nat → Int} {k : Nat} {s : List Bool} (r : RnS l h k s) : k ∉ deadL l := fun hk => by
  obtain ⟨a, h1, _⟩ := r.rch
  rw [dead_none l.length (Nat.le_refl _) k hk] at h1
  cases h1
end Go.Proofs.YtdfnomglkibfbaaGreatDoor.Vf

namespace Go.Proofs.YtdfnomglkibfbaaGreatDoor.Vf
set_option linter.unusedVariables false
set_option linter.unusedSimpArgs false
/-! ### plain: the document's truths: 0 open, 1 never, 2 always -/
def dT (x : Int) : Int := if x = 1 then 2 else if x = -1 then 1 else 0
def notD (x : Int) : Int := if x = 1 then 2 else if x = 2 then 1 else 0
def bothD (x y : Int) : Int := if x = 1 ∨ y = 1 then 1 else if x = 2 ∧ y = 2 then 2 else 0
theorem dT_neg {x : Int} (h : Tr x) : dT (-x) = notD (dT x) := by
  unfold Tr at h
  rcases h with rfl | rfl | rfl <;> rfl
theorem dT_min {x y : Int} (h : Tr x) (h' : Tr y) : dT (minT x y) = bothD (dT x) (dT y) := by
  unfold Tr at h h'
  rcases h with rfl | rfl | rfl <;> rcases h' with rfl | rfl | rfl <;> rfl
theorem dT_max {x y : Int} (h : Tr x) (h' : Tr y) : dT (maxT x y) = notD (bothD (notD (dT x)) (notD (dT y))) := by
  unfold Tr at h h'
  rcases h with rfl | rfl | rfl <;> rcases h' with rfl | rfl | rfl <;> rfl
theorem dT_mT {x y : Int} (h : Tr x) (h' : Tr y) : dT (mT x y) = if dT x ≠ dT y then 0 else dT y := by
  unfold Tr at h h'
  rcases h with rfl | rfl | rfl <;> rcases h' with rfl | rfl | rfl <;> rfl
theorem dT_lt {x : Int} : 0 ≤ dT x ∧ dT x ≤ 2 := by unfold dT; split; omega; split <;> omega
/-- the stack behind, in the document's numbers. -/
def certD (c : Nat) (s : List Int) : List Int :=
  if c = 1 then s ++ [2] else if c = 2 then s ++ [1] else if c = 7 then s.take (s.length - 1) ++ [notD (s.getD (s.length - 1) 0)]
  else if c = 8 then s.take (s.length - 2) ++ [bothD (s.getD (s.length - 2) 0) (s.getD (s.length - 1) 0)]
  else if c = 9 then s.take (s.length - 2) ++ [notD (bothD (notD (s.getD (s.length - 2) 0)) (notD (s.getD (s.length - 1) 0)))]
  else if c = 10 ∨ c = 11 then s else if c = 12 ∨ c = 13 then s.take (s.length - 1) else s ++ [0]
theorem getD_map {s : List Int} (k : Nat) : (s.map dT).getD k 0 = dT (s.getD k 0) := by
  rw [List.getD_eq_getElem?_getD, List.getD_eq_getElem?_getD, List.getElem?_map]
  cases s[k]? <;> rfl
theorem take_last {s : List Int} (h : 1 ≤ s.length) : s.take (s.length - 1) ++ [s.getD (s.length - 1) 0] = s := by
  rw [List.getD_eq_getElem?_getD, List.getElem?_eq_getElem (by omega)]
  simp only [Option.getD_some]
  rw [List.take_append_getElem, show s.length - 1 + 1 = s.length by omega, List.take_length]
theorem certD_eq {c : Nat} {s : List Int} (h1 : 1 ≤ c) (h2 : c ≤ 13) (hs : (rowF c).tk ≤ s.length) (tr : ∀ x ∈ s, Tr x) : certD c (s.map dT) = (certP c s).map dT := by
  have t0 := getD_tr tr (s.length - 1)
  have t1 := getD_tr tr (s.length - 2)
  unfold certD certP
  rw [List.length_map, getD_map, getD_map]
  by_cases c1 : c = 1
  · subst c1; simp [rowF, rowsL, topT, dT]
  by_cases c2 : c = 2
  · subst c2; simp [rowF, rowsL, topT, dT]
  rw [if_neg c1, if_neg c2]
  by_cases c7 : c = 7
  · subst c7
    rw [← dT_neg t0]
    simp [rowF, rowsL, topT]
  rw [if_neg c7]
  by_cases c8 : c = 8
  · subst c8
    have e : s.length - 1 = s.length - 2 + 1 := by simp [rowF, rowsL] at hs; omega
    rw [← dT_min t1 t0, e]
    simp [rowF, rowsL, topT]
  rw [if_neg c8]
  by_cases c9 : c = 9
  · subst c9
    have e : s.length - 1 = s.length - 2 + 1 := by simp [rowF, rowsL] at hs; omega
    rw [← dT_max t1 t0, e]
    simp [rowF, rowsL, topT]
  rw [if_neg c9]
  by_cases c10 : c = 10 ∨ c = 11
  · rw [if_pos c10]
    have e : (rowF c).tk = 1 := by rcases c10 with rfl | rfl <;> rfl
    rw [e] at hs ⊢
    rw [if_neg (by omega)]
    unfold topT
    rw [if_neg c1, if_neg c2, if_neg c7, if_neg c8, if_neg c9, if_pos c10, take_last hs]
  rw [if_neg c10]
  by_cases c12 : c = 12 ∨ c = 13
  · have e : (rowF c).tk = 1 := by rcases c12 with rfl | rfl <;> rfl
    rw [if_pos c12, if_pos c12, e]
    simp
  rw [if_neg c12, if_neg c12]
  have e : (rowF c).tk = 0 := by
    match c, h1, h2 with
    | 3, _, _ | 4, _, _ | 5, _, _ | 6, _, _ => rfl
    | 1, _, _ | 2, _, _ | 7, _, _ | 8, _, _ | 9, _, _ | 10, _, _ | 11, _, _ | 12, _, _ | 13, _, _ => simp at *
    | c + 14, _, h => omega
  unfold topT
  rw [if_neg c1, if_neg c2, if_neg c7, if_neg c8, if_neg c9, if_neg c10, e]
  simp [dT]
def meetD (o : Option (List Int)) (s : List Int) : List Int := match o with
  | none => s
  | some o => List.zipWith (fun x y => if x ≠ y then 0 else y) o s
theorem zip_dT : ∀ {a c : List Int}, (∀ x ∈ a, Tr x) → (∀ x ∈ c, Tr x) → List.zipWith (fun x y => if x ≠ y then 0 else y) (a.map dT) (c.map dT) = (sameT a c).map dT
  | [], c, _, _ => by unfold sameT; simp
  | x :: a, [], _, _ => by unfold sameT; simp
  | x :: a, y :: c, h, h' => by
    have ih := zip_dT (a := a) (c := c) (fun z hz => h z (List.mem_cons_of_mem _ hz)) (fun z hz => h' z (List.mem_cons_of_mem _ hz))
    have e := dT_mT (h x (List.mem_cons_self ..)) (h' y (List.mem_cons_self ..))
    unfold sameT at *
    simp only [List.map_cons, List.zipWith_cons_cons]
    rw [ih, e]
theorem meetD_eq {o : Option (List Int)} {s : List Int} (h : ∀ a, o = some a → ∀ x ∈ a, Tr x) (h' : ∀ x ∈ s, Tr x) : meetD (o.map (List.map dT)) (s.map dT) = (meetT o s).map dT := by
  cases o with
  | none => rfl
  | some a => exact zip_dT (h a rfl) h'
/-- the document's ways on. -/
def waysD (l : List InP) (k : Nat) (t : InP) (s : List Int) : List Nat :=
  if t.c = 10 ∨ t.c = 11 then (if leadG t.c s = true then [k + 1] else []) ++ (if leadJ t.c s = true then [t.a.toNat] else [])
  else if k + 1 < l.length then [k + 1] else []
def bringsT (c : List Int) : List Nat → MpT → MpT
  | [], m => m
  | j :: r, m => bringsT c r (bringT m j c)
/-- the document's, where nothing is taken out. -/
def dmD (l : List InP) : Nat → MpT × List Nat
  | 0 => (fun j => if j = 0 then some [] else none, [])
  | k + 1 => match l[k]? with
    | none => dmD l k
    | some t => match (dmD l k).1 k with
      | none => ((dmD l k).1, (dmD l k).2 ++ [k])
      | some s => (bringsT (certP t.c s) (waysD l k t s) (dmD l k).1, (dmD l k).2)
theorem dmD_none {l : List InP} {k : Nat} {t : InP} (ht : l[k]? = some t) (hm : (dmD l k).1 k = none) : dmD l (k + 1) = ((dmD l k).1, (dmD l k).2 ++ [k]) := by
  show (match l[k]? with | none => dmD l k | some t => match (dmD l k).1 k with | none => ((dmD l k).1, (dmD l k).2 ++ [k]) | some s => (bringsT (certP t.c s) (waysD l k t s) (dmD l k).1, (dmD l k).2)) = _
  rw [ht, hm]
theorem dmD_some {l : List InP} {k : Nat} {t : InP} {s : List Int} (ht : l[k]? = some t) (hm : (dmD l k).1 k = some s) : dmD l (k + 1) = (bringsT (certP t.c s) (waysD l k t s) (dmD l k).1, (dmD l k).2) := by
  show (match l[k]? with | none => dmD l k | some t => match (dmD l k).1 k with | none => ((dmD l k).1, (dmD l k).2 ++ [k]) | some s => (bringsT (certP t.c s) (waysD l k t s) (dmD l k).1, (dmD l k).2)) = _
  rw [ht, hm]
theorem bring_congr {m m' : MpT} {q j : Nat} {c : List Int} (h : m j = m' j) : bringT m q c j = bringT m' q c j := by
  unfold bringT
  by_cases e : j = q
  · subst e; rw [if_pos rfl, if_pos rfl, h]
  · rw [if_neg e, if_neg e, h]
theorem bring_off {m : MpT} {q j : Nat} {c : List Int} (h : j ≠ q) : bringT m q c j = m j := by unfold bringT; rw [if_neg h]
theorem dm_same {l : List InP} (F : Fil l) : ∀ k, k ≤ l.length → (dmD l k).2 = (dmP l k).2 ∧ ∀ j, k ≤ j → j < l.length → (dmD l k).1 j = (dmP l k).1 j
  | 0, _ => ⟨rfl, fun j _ _ => rfl⟩
  | k + 1, hk => by
    obtain ⟨ih1, ih2⟩ := dm_same F k (by omega)
    obtain ⟨t, ht⟩ : ∃ t, l[k]? = some t := ⟨_, List.getElem?_eq_getElem (by omega)⟩
    have ek := ih2 k (Nat.le_refl _) (by omega)
    cases hm : (dmP l k).1 k with
    | none =>
      rw [hm] at ek
      rw [dmP_none ht hm, dmD_none ht ek]
      refine ⟨by rw [ih1], fun j h1 h2 => ?_⟩
      show (dmD l k).1 j = dropT (dmP l k).1 k j
      unfold dropT
      rw [if_neg (by omega)]
      exact ih2 j (by omega) h2
    | some s =>
      rw [hm] at ek
      rw [dmP_some ht hm, dmD_some ht ek]
      refine ⟨ih1, fun j h1 h2 => ?_⟩
      show bringsT (certP t.c s) (waysD l k t s) (dmD l k).1 j = stepT (dmP l k).1 k t s j
      have e0 : (dmD l k).1 j = dropT (dmP l k).1 k j := by
        unfold dropT
        rw [if_neg (by omega)]
        exact ih2 j (by omega) h2
      unfold waysD stepT
      by_cases c10 : t.c = 10 ∨ t.c = 11
      · rw [if_pos c10]
        by_cases g : leadG t.c s = true
        · rw [if_pos g, if_pos g]
          by_cases g2 : leadJ t.c s = true
          · rw [if_pos g2, if_pos g2]
            show bringT (bringT (dmD l k).1 (k + 1) _) t.a.toNat _ j = _
            rw [bringT_comm]
            exact bring_congr (bring_congr e0)
          · rw [if_neg g2, if_neg g2]
            exact bring_congr e0
        · rw [if_neg g, if_neg g]
          by_cases g2 : leadJ t.c s = true
          · rw [if_pos g2, if_pos g2]
            exact bring_congr e0
          · rw [if_neg g2, if_neg g2]
            exact e0
      · rw [if_neg c10]
        have g2 : ¬ leadJ t.c s = true := fun q => by
          unfold leadJ at q
          simp only [Bool.or_eq_true, Bool.and_eq_true, beq_iff_eq] at q
          rcases q with ⟨q, _⟩ | ⟨q, _⟩
          · exact c10 (Or.inl q)
          · exact c10 (Or.inr q)
        have g : leadG t.c s = true := by
          unfold leadG
          have q1 : (t.c == 10) = false := beq_eq_false_iff_ne.2 (fun q => c10 (Or.inl q))
          have q2 : (t.c == 11) = false := beq_eq_false_iff_ne.2 (fun q => c10 (Or.inr q))
          rw [q1, q2]; rfl
        rw [if_neg g2, if_pos g]
        by_cases hl : k + 1 < l.length
        · rw [if_pos hl]
          exact bring_congr e0
        · rw [if_neg hl, bring_off (by omega)]
          exact e0
theorem dead_same {l : List InP} (F : Fil l) : (dmD l l.length).2 = deadL l := (dm_same F l.length (Nat.le_refl _)).1
end Go.Proofs.YtdfnomglkibfbaaGreatDoor.Vf

namespace Go.Proofs.YtdfnomglkibfbaaGreatDoor.Vf
set_option linter.unusedVariables false
set_option linter.unusedSimpArgs false
/-! ### plain: both ways' heights are the same numbers; the document's ways on -/
theorem hgt_vals : ∀ (l : List InP) (k : Nat) (m : Nat → Option Int) (s : StD) (hs : List Int), Rel m s k → ((m k).isSome = true ∨ l = []) → FmL l k → hs.length = k → (∀ j, j < k → hs.getD j 0 = s.1 j) → (hgtP l k m hs).2 = none → ∀ j, j < k + l.length → (hgtP l k m hs).1.getD j 0 = (hgtD l k s).1.1 j
  | [], k, m, s, hs, _, _, _, hl, hv, _, j, hj => by
    unfold hgtP hgtD
    exact hv j (by simpa using hj)
  | i :: r, k, m, s, hs, hr, hp, hf, hl, hv, hn, j, hj => by
    have hsame := hgt_same (i :: r) k m s hs hr hp hf
    rw [hn] at hsame
    have hp' : (m k).isSome = true := hp.resolve_right (by simp)
    obtain ⟨f1, f2, f3⟩ := hf
    unfold hgtP at hn
    unfold hgtD at hsame
    by_cases c : errP ((m k).getD 0) i.c
    · rw [if_pos c] at hn; cases hn
    · by_cases c' : errD s k i.c
      · rw [if_pos c'] at hsame; cases hsame
      · unfold hgtP hgtD
        rw [if_neg c] at hn
        rw [if_neg c, if_neg c']
        have eh : (m k).getD 0 = s.1 k := by
          rcases hr k (Nat.le_refl _) with ⟨e, _⟩ | ⟨v, hv, e, e1, e2⟩ | ⟨e, e1, e2⟩
          · rw [e] at hp'; cases hp'
          · rw [e, e1]; rfl
          · exact absurd (Or.inl e1 : errD s k i.c) c'
        rw [eh] at hn ⊢
        have hb : 0 ≤ bhd (s.1 k) i.c := by
          have : ¬ s.1 k < ((rowF i.c).tk : Int) := fun q => c' (Or.inr (Or.inl q))
          unfold bhd; omega
        have hv1 : ∀ q, q < k + 1 → (hs ++ [s.1 k]).getD q 0 = s.1 q := fun q hq => by
          rw [List.getD_eq_getElem?_getD]
          by_cases e : q < k
          · rw [List.getElem?_append_left (by omega), ← List.getD_eq_getElem?_getD]; exact hv q e
          · obtain rfl : q = k := by omega
            rw [List.getElem?_append_right (by omega), hl]; simp
        by_cases en : (rowF i.c).en = true
        · have := f2 en
          subst this
          unfold nextD
          rw [if_pos en]
          unfold hgtP hgtD
          exact hv1 j (by simpa using hj)
        · have hnx : ∀ q, q < k + 1 → (nextD s k i (bhd (s.1 k) i.c)).1 q = s.1 q := fun q hq => by
            unfold nextD
            rw [if_neg en]
            by_cases a9 : (rowF i.c).a = 9
            · rw [if_pos a9]
              have := f1 a9
              unfold bringD
              simp only
              rw [if_neg (by omega), if_neg (by omega)]
            · rw [if_neg a9]
              unfold bringD
              simp only
              rw [if_neg (by omega)]
          refine hgt_vals r (k + 1) _ _ _ ?_ (Or.inl (next_some _ _ _ _)) f3 (by simp [hl]) (fun q hq => by rw [hnx q hq]; exact hv1 q hq) hn j (by simp at hj; omega)
          unfold nextP nextD
          rw [if_neg en]
          by_cases a9 : (rowF i.c).a = 9
          · rw [if_pos a9, if_pos a9]
            have := f1 a9
            exact (hr.drop.bring hb (Nat.le_refl _)).bring hb (by omega)
          · rw [if_neg a9, if_neg a9]
            exact hr.drop.bring hb (Nat.le_refl _)
theorem hgt_vals0 {z : SzP} {l : List InP} (h : Fmd z l) (hn : (hgtP l 0 m0 []).2 = none) (j : Nat) (hj : j < l.length) : (hgtP l 0 m0 []).1.getD j 0 = (hgtD l 0 s0).1.1 j :=
  hgt_vals l 0 m0 s0 [] rel0 (Or.inl rfl) h.fm rfl (fun q hq => by omega) hn j (by omega)
theorem hgt_len0 {l : List InP} (hn : (hgtP l 0 m0 []).2 = none) : (hgtP l 0 m0 []).1.length = l.length := by
  have := (hgt_edges l 0 m0 [] rfl hn).2.1
  simpa using this
/-- rows that may be laid together. -/
def LN (m : MpT) (c : List Int) (L : List Nat) : Prop := ∀ j, j ∈ L → ∀ o, m j = some o → o.length = c.length ∧ ∀ x ∈ o, Tr x
theorem LN.bring {m : MpT} {c : List Int} {L : List Nat} (h : LN m c L) {q : Nat} (hq : q ∈ L) (tr : ∀ x ∈ c, Tr x) : LN (bringT m q c) c L := fun j hj o ho => by
  unfold bringT at ho
  by_cases e : j = q
  · rw [if_pos e] at ho
    injection ho with ho
    cases hm : m q with
    | none => rw [hm] at ho; unfold meetT at ho; subst ho; exact ⟨rfl, tr⟩
    | some u =>
      rw [hm] at ho
      unfold meetT at ho
      subst ho
      obtain ⟨h1, h2⟩ := h q hq u hm
      exact ⟨sameT_len h1, same_tr h2⟩
  · rw [if_neg e] at ho
    exact h j hj o ho
theorem ways_ok {l : List InP} {h : Nat → Int} (H : HOk l h) (F : Fil l) (J : Jmp l) {k : Nat} {t : InP} {s : List Int} (ht : l[k]? = some t) (hm : (dmP l k).1 k = some s) : (∀ j, j ∈ waysD l k t s → k < j ∧ j < l.length) ∧ LN (dmD l k).1 (certP t.c s) (waysD l k t s) := by
  have hk : k < l.length := (List.getElem?_eq_some_iff.1 ht).1
  have d := dIn_all H F J k (by omega)
  obtain ⟨f1, f2⟩ := F k t ht
  have e1 := d.len k s hm hk
  have e2 := H.tk k t ht
  have e3 := cert_len (c := t.c) (s := s) f1 f2 (by omega)
  rw [e1] at e3
  have key : ∀ j, j ∈ waysD l k t s → k < j ∧ j < l.length ∧ h j = bhd (h k) t.c := fun j hj => by
    unfold waysD at hj
    by_cases c : t.c = 10 ∨ t.c = 11
    · rw [if_pos c] at hj
      have a9 : (rowF t.c).a = 9 := by rcases c with c | c <;> rw [c] <;> rfl
      obtain ⟨j1, j2⟩ := J k t ht a9
      rcases List.mem_append.1 hj with hj | hj
      · split at hj
        · simp at hj
          subst hj
          exact ⟨by omega, by omega, H.nx k t ht (by omega)⟩
        · simp at hj
      · split at hj
        · simp at hj
          subst hj
          exact ⟨by omega, by omega, H.jp k t ht a9 j1 j2⟩
        · simp at hj
    · rw [if_neg c] at hj
      split at hj
      · rename_i hl
        simp at hj
        subst hj
        exact ⟨by omega, hl, H.nx k t ht hl⟩
      · simp at hj
  refine ⟨fun j hj => ⟨(key j hj).1, (key j hj).2.1⟩, fun j hj o ho => ?_⟩
  obtain ⟨k1, k2, k3⟩ := key j hj
  rw [(dm_same F k (by omega)).2 j (by omega) k2] at ho
  have := d.len j o ho k2
  exact ⟨by omega, d.tr j o ho⟩
theorem brings_snoc (c : List Int) : ∀ (L : List Nat) (q : Nat) (m : MpT), bringsT c (L ++ [q]) m = bringT (bringsT c L m) q c
  | [], q, m => rfl
  | j :: r, q, m => brings_snoc c r q (bringT m j c)
theorem brings_take {c : List Int} {L : List Nat} {m : MpT} {i q : Nat} (h : L[i]? = some q) : bringsT c (L.take (i + 1)) m = bringT (bringsT c (L.take i) m) q c := by
  rw [List.take_add_one, h]
  exact brings_snoc c _ _ _
theorem LN.brings {c : List Int} {L : List Nat} (tr : ∀ x ∈ c, Tr x) : ∀ (M : List Nat) {m : MpT}, LN m c L → (∀ q ∈ M, q ∈ L) → LN (bringsT c M m) c L
  | [], _, h, _ => h
  | j :: r, _, h, hs => LN.brings tr r (h.bring (hs j (List.mem_cons_self ..)) tr) (fun q hq => hs q (List.mem_cons_of_mem _ hq))
theorem ways_len (l : List InP) (k : Nat) (t : InP) (s : List Int) : (waysD l k t s).length ≤ 2 := by
  unfold waysD
  split
  · rw [List.length_append]; split <;> split <;> simp
  · split <;> simp
end Go.Proofs.YtdfnomglkibfbaaGreatDoor.Vf

namespace Go.Proofs.YtdfnomglkibfbaaGreatDoor.Vf
open Go.RowKit
set_option linter.unusedVariables false
set_option linter.unusedSimpArgs false
set_option maxRecDepth 100000
/-! ### plain: what a program that passes is -/
theorem of_one {c : Nat} (h : (rowF c).of = 1) : 1 ≤ c ∧ c ≤ 13 := by
  rcases Nat.lt_or_ge 24 c with q | q
  · rw [row_big q] at h; simp [noR] at h
  · match c, q with
    | 0, _ | 14, _ | 15, _ | 16, _ | 17, _ | 18, _ | 19, _ | 20, _ | 21, _ | 22, _ | 23, _ | 24, _ => simp [rowF, rowsL, noR] at h
    | 1, _ | 2, _ | 3, _ | 4, _ | 5, _ | 6, _ | 7, _ | 8, _ | 9, _ | 10, _ | 11, _ | 12, _ | 13, _ => omega
    | c + 25, q => omega
theorem fil_of {z : SzP} {acc : List AcP} {l : List InP} (h : eachP z true acc l = none) : Fil l := by
  unfold eachP at h
  cases q : firstBad (fun k i => badP z (if true = true then 1 else 2) k ((l.length : Int) - 1) (raOf acc i.a i.b) i) l 0 with
  | some x => rw [q] at h; simp at h
  | none =>
    intro j t ht
    have := badP_of (firstBad_none l 0 q j t ht)
    simp only [if_true] at this
    exact of_one (by omega)
structure Pas (p : PrH) (q : PrL) : Prop where
  hd : hdB p q = true
  e1 : eachP p.sz true q.accs q.filter = none
  e2 : eachP p.sz false q.accs q.output = none
  h1 : (hgtP q.filter 0 m0 []).2 = none
  h2 : (hgtP q.output 0 m0 []).2 = none
theorem pas_of {p : PrH} {q : PrL} (h : resP p q = none) : Pas p q := by
  unfold resP resOf at h
  cases hd : hdB p q with
  | false => rw [hd] at h; simp at h
  | true =>
    rw [hd] at h
    simp only [Bool.true_eq_false, if_false] at h
    cases e1 : eachP p.sz true q.accs q.filter with
    | some y => rw [e1] at h; simp at h
    | none =>
      rw [e1] at h
      simp only at h
      cases e2 : eachP p.sz false q.accs q.output with
      | some y => rw [e2] at h; simp at h
      | none =>
        rw [e2] at h
        simp only at h
        cases h1 : (hgtP q.filter 0 m0 []).2 with
        | some k => rw [h1] at h; simp at h
        | none =>
          rw [h1] at h
          simp only at h
          cases h2 : (hgtP q.output 0 m0 []).2 with
          | some k => rw [h2] at h; simp at h
          | none => exact ⟨hd, e1, e2, h1, h2⟩
/-- how high the stack is, ahead of each instruction of a filter. -/
def hF (l : List InP) (j : Nat) : Int := (hgtP l 0 m0 []).1.getD j 0
theorem Pas.hok {p : PrH} {q : PrL} (h : Pas p q) : HOk q.filter (hF q.filter) := hok_of (Or.inl (by unfold m0; rfl)) h.h1
theorem Pas.fil {p : PrH} {q : PrL} (h : Pas p q) : Fil q.filter := fil_of h.e1
theorem Pas.jmp {p : PrH} {q : PrL} (h : Pas p q) : Jmp q.filter := fun j t ht a9 => (fmd_of h.e1).jump j t ht a9
theorem Pas.pos {p : PrH} {q : PrL} (h : Pas p q) : 0 < q.filter.length := (fmd_of h.e1).pos
theorem en_is {c : Nat} (h1 : 1 ≤ c) (h2 : c ≤ 13) : (rowF c).en = true ↔ c = 13 := by
  match c, h1, h2 with
  | 1, _, _ | 2, _, _ | 3, _, _ | 4, _, _ | 5, _, _ | 6, _, _ | 7, _, _ | 8, _, _ | 9, _, _ | 10, _, _ | 11, _, _ | 12, _, _ | 13, _, _ => simp [rowF, rowsL]
  | c + 14, _, h => omega
theorem Pas.ends {p : PrH} {q : PrL} (h : Pas p q) {j : Nat} {t : InP} (ht : q.filter[j]? = some t) : t.c = 13 ↔ j + 1 = q.filter.length := by
  obtain ⟨f1, f2⟩ := h.fil j t ht
  have f := fmd_of h.e1
  rw [← en_is f1 f2]
  exact ⟨f.ends j t ht, f.more j t ht⟩
theorem Pas.len {p : PrH} {q : PrL} (h : Pas p q) (hN : PrN p q) : q.filter.length ≤ 65536 := by
  have := h.hd
  unfold hdB at this
  simp only [Bool.and_eq_true, decide_eq_true_eq] at this
  omega
/-- no stack is too high. -/
theorem HOk.low {l : List InP} {h : Nat → Int} (H : HOk l h) (k : Nat) (hk : k < l.length) : h k ≤ 202 := by
  obtain ⟨t, ht⟩ : ∃ t, l[k]? = some t := ⟨_, List.getElem?_eq_getElem hk⟩
  have h1 := H.mx k t ht
  have h2 : (rowF t.c).tk ≤ 2 := by
    rcases Nat.lt_or_ge 24 t.c with q | q
    · rw [row_big q]; simp [noR]
    · generalize t.c = c at q
      match c, q with
      | 0, _ | 1, _ | 2, _ | 3, _ | 4, _ | 5, _ | 6, _ | 7, _ | 8, _ | 9, _ | 10, _ | 11, _ | 12, _ | 13, _ | 14, _ | 15, _ | 16, _ | 17, _ | 18, _ | 19, _ | 20, _ | 21, _ | 22, _ | 23, _ | 24, _ => simp [rowF, rowsL, noR]
      | c + 25, q => omega
  unfold bhd at h1
  omega
end Go.Proofs.YtdfnomglkibfbaaGreatDoor.Vf

namespace Go.Proofs.YtdfnomglkibfbaaGreatDoor.Vf
open Go.RowKit
set_option linter.unusedVariables false
set_option linter.unusedSimpArgs false
set_option maxRecDepth 100000
/-- a slice's type: what its elements are. -/
def Tp (t e : TypeId) (size bytes : Nat) : Prop := ∃ i z, Tryz.prog.underlying t = some (.slice e) ∧ Tryz.prog.info? e = some i ∧ i.zero = some z ∧ i.size = size ∧ i.bytes = bytes ∧ z.cells.size = size ∧ 0 < size
/-- append of a slice, nil or not, to a row of one's own that is not nil. -/
theorem app_src {W : World} {base : Nat} {t e : TypeId} {size bytes : Nat} (T : Tp t e size bytes) (ty : TypeId) {ad0 : Addr} {n cap0 : Nat} {xs : List Value} (own : W.ownsRow base e size (.slice (some ad0) n cap0) n xs) (hb : base ≤ W.heap.size) {a : Option Addr} {m c : Nat} {news : List Value} (hnone : a = none → m = 0) (hl : news.length = m * size) (hc : ∀ ad, a = some ad → ∀ j u, news[j]? = some u → W.cell? (ad.add j) = some u) (h1 : ∀ u ∈ news, u.oneCell' = true) (h63 : n + m ≤ maxLen) (hby : (n + m) * bytes ≤ 140737488355328) :
    ∃ ad cap w', (Builtin.append_ #[t, t] ty #[.slice (some ad0) n cap0, .slice a m c]).run Tryz.prog W = .ok (.slice (some ad) (n + m) cap) w' ∧ w'.ownsRow base e size (.slice (some ad) (n + m) cap) (n + m) (xs ++ news) ∧ W.grownBy w' (some ad0.block) := by
  obtain ⟨i, z, t1, t2, t3, t4, t5, t6, t7⟩ := T
  cases a with
  | some ad =>
    obtain ⟨v', w', r1, r2, r3, r4⟩ := run_append_own (P := Tryz.prog) W base t ty e i z size bytes t1 t2 t3 t4 t5 t6 t7 _ n xs own ad m c news hl (hc ad rfl) h1 h63 hby hb
    obtain ⟨_, q | ⟨g, cap, cur, e1, _⟩⟩ := id r2
    · exact absurd (r4.1 q.1).1 (by simp)
    · subst e1
      exact ⟨_, _, w', r1, r2, r3⟩
  | none =>
    obtain rfl := hnone rfl
    obtain rfl : news = [] := List.eq_nil_of_length_eq_zero (by simpa using hl)
    obtain ⟨o1, o2 | ⟨g, cap, cur, e1, e2, e3, e4, e5, e6, e7⟩⟩ := own
    · simp at o2
    · injection e1 with q1 q2 q3
      subst q3
      refine ⟨ad0, cap0, W, ?_, ?_, ?_⟩
      · exact run_append_nothing (P := Tryz.prog) W t t ty e i t1 t2 (some ad0) n cap0 e4 _ (Src.ofNil W t1 c)
      · rw [Nat.add_zero, List.append_nil]
        exact ⟨o1, Or.inr ⟨g, cap0, cur, by rw [q1], e2, e3, e4, e5, e6, e7⟩⟩
      · exact ⟨rfl, rfl, rfl, Nat.le_refl _, fun k hk _ => rfl⟩
theorem add_at0 (b off i : Nat) : (⟨b, off, none⟩ : Addr).add i = ⟨b, off + i, none⟩ := by unfold Addr.add; split <;> simp_all
/-- a copy of a slice with one element more. -/
theorem more_row {W : World} {t e : TypeId} {size bytes : Nat} (T : Tp t e size bytes) (ty1 ty2 : TypeId) {a : Option Addr} {m c : Nat} {xs : List Value} (hnone : a = none → m = 0) (hl : xs.length = m * size) (hc : ∀ ad, a = some ad → ∀ j u, xs[j]? = some u → W.cell? (ad.add j) = some u) (h1 : ∀ u ∈ xs, u.oneCell' = true) (ys : List Value) (hy : ys.length = size) (hy1 : ∀ u ∈ ys, u.oneCell' = true) (h63 : m + 1 ≤ maxLen) (hby : (m + 1) * bytes ≤ 140737488355328) :
    ∃ ad1 cap1 w1 b cap2 w2, (Builtin.append_ #[t, t] ty1 #[.slice (some ⟨W.heap.size, 0, none⟩) 0 0, .slice a m c]).run Tryz.prog (W.alloc (.cells #[] e)) = .ok (.slice (some ad1) m cap1) w1 ∧ (Builtin.append_ #[t, t] ty2 #[.slice (some ad1) m cap1, .slice (some ⟨w1.heap.size, 0, none⟩) 1 1]).run Tryz.prog (w1.alloc (.cells ys.toArray e)) = .ok (.slice (some ⟨b, 0, none⟩) (m + 1) cap2) w2 ∧ Below W.heap.size W w2 ∧ W.heap.size ≤ b ∧ b < w2.heap.size ∧ ∀ j v, (xs ++ ys)[j]? = some v → w2.cell? ⟨b, j, none⟩ = some v := by
  have T' := T
  obtain ⟨i, z, t1, t2, t3, t4, t5, t6, t7⟩ := T'
  have b0 : Below W.heap.size W (W.alloc (.cells #[] e)) := (Below.refl _ W).alloc (Nat.le_refl _) _
  have own0 : (W.alloc (.cells #[] e)).ownsRow W.heap.size e size (.slice (some ⟨W.heap.size, 0, none⟩) 0 0) 0 [] := ⟨by simp, Or.inr ⟨W.heap.size, 0, #[], rfl, Nat.le_refl _, heap_alloc_new W _, Nat.le_refl _, by omega, by simp, by simp⟩⟩
  obtain ⟨ad1, cap1, w1, r1, o1, g1⟩ := app_src T ty1 own0 (by simp) (a := a) (m := m) (c := c) hnone hl (fun ad e j u hj => by
    have h := hc ad e j u hj
    rw [b0.cell (p := ad.add j) (World.block_lt_of_cell? _ _ h)]; exact h) h1 (by omega) (Nat.le_trans (Nat.mul_le_mul_right _ (by omega)) hby)
  rw [Nat.zero_add] at r1 o1
  rw [List.nil_append] at o1
  have b1 : Below W.heap.size W w1 := b0.grown g1 (by simp) (fun j e => by cases e; exact Nat.le_refl _)
  have b2 : Below W.heap.size W (w1.alloc (.cells ys.toArray e)) := b1.alloc b1.size _
  have o1' : (w1.alloc (.cells ys.toArray e)).ownsRow W.heap.size e size (.slice (some ad1) m cap1) m xs := by
    obtain ⟨q1, q2 | ⟨g, cap, cur, e1, e2, e3, e4, e5, e6, e7⟩⟩ := o1
    · simp at q2
    · refine ⟨q1, Or.inr ⟨g, cap, cur, e1, e2, ?_, e4, e5, e6, e7⟩⟩
      have hg : g < w1.heap.size := (Array.getElem?_eq_some_iff.1 e3).1
      rw [heap_alloc_old w1 _ hg]; exact e3
  obtain ⟨ad2, cap2, w2, r2, o2, g2⟩ := app_src T ty2 o1' (by have := b1.size; simp; omega) (a := some ⟨w1.heap.size, 0, none⟩) (m := 1) (c := 1) (news := ys) (fun h => by cases h) (by omega) (fun ad e' j u hj => by
    injection e' with e'
    subst e'
    rw [add_at0, Nat.zero_add, cell_of_row _ w1.heap.size j _ e (0, 0) (heap_alloc_new w1 _)]
    simpa using hj) hy1 h63 hby
  have hlt1 : W.heap.size ≤ ad1.block := by
    obtain ⟨q1, q2 | ⟨g, cap, cur, e1, e2, _⟩⟩ := o1
    · simp at q2
    · injection e1 with e1
      injection e1 with e1
      rw [e1]; exact e2
  have b3 : Below W.heap.size W w2 := b2.grown g2 b2.size (fun j e => by cases e; exact hlt1)
  obtain ⟨q1, q2 | ⟨g, cap, cur, e1, e2, e3, e4, e5, e6, e7⟩⟩ := o2
  · simp at q2
  · injection e1 with q1' q2' q3'
    injection q1' with q1'
    subst q1' q3'
    refine ⟨ad1, cap1, w1, g, cap2, w2, r1, r2, b3, e2, (Array.getElem?_eq_some_iff.1 e3).1, fun j v hv => ?_⟩
    rw [cell_of_row _ g j _ e (0, 0) e3, ← Array.getElem?_toList]
    rw [← e7] at hv
    have hj : j < (m + 1) * size := by
      have := (List.getElem?_eq_some_iff.1 hv).1
      rw [List.length_take] at this
      omega
    rw [List.getElem?_take_of_lt hj] at hv
    exact hv
theorem wpList_append_runG {P : Program} {ops : Array Oper} {rest : List Oper} {o : Oper} {a : Act} {Q : Exit → Act → World → Prop} {w : World} (hgd : o.guard = none) (s x : Operand) (t : TypeId)
    (ho : o.op = .call { callee := .builtin .append, args := #[s, x], argTypes := #[t, t] }) (v y v' : Value) (w' : World) (hs : a.eval s = v) (hx : a.eval x = y) (hr : (Builtin.append_ #[t, t] o.type #[v, y]).run P w = .ok v' w')
    (h : wpList P ops Q rest (a.put o.dst v') w') : wpList P ops Q (o :: rest) a w := by
  refine wpList_plain hgd fun K hK => ?_
  unfold Oper.wp execOp
  simp only [ho, resolve, invoke, builtin, Sem.run_bind, Sem.run_pure, Result.andThen_ok, List.map_toArray, List.map_cons, List.map_nil, hs, hx, hr]
  exact hK _ _ h
end Go.Proofs.YtdfnomglkibfbaaGreatDoor.Vf

namespace Go.Proofs.YtdfnomglkibfbaaGreatDoor.Vf.I6
open Go.RowKit
set_option linter.unusedVariables false
set_option linter.unusedSimpArgs false
set_option maxRecDepth 100000
def vl (x : Int) : Value := .int .i64 x
theorem tp : Tp 39 3 1 8 := by
  have hi : (Tryz.prog.info? 3).map (fun i => (i.zero, i.bytes, i.size)) = some (some (.int .i64 0), 8, 1) := by kernel_rfl
  obtain ⟨i, i1, i0⟩ := Option.map_eq_some_iff.1 hi
  exact ⟨i, _, Tryz.underlying39, i1, congrArg (·.1) i0, congrArg (·.2.2) i0, congrArg (·.2.1) i0, rfl, by omega⟩
/-- in memory. -/
def In (w : World) (a : Option Addr) (l : List Int) : Prop := l = [] ∨ ∃ b off, a = some ⟨b, off, none⟩ ∧ b < w.heap.size ∧ ∀ i t, l[i]? = some t → w.cell? ⟨b, off + i, none⟩ = some (vl t)
theorem In.below {w w' : World} {a : Option Addr} {l : List Int} {n : Nat} (h : In w a l) (hb : Below n w w') (hn : w.heap.size ≤ n) : In w' a l := by
  rcases h with h | ⟨b, off, h1, h2, h3⟩
  · exact Or.inl h
  · exact Or.inr ⟨b, off, h1, Nat.lt_of_lt_of_le h2 hb.size, fun i t ht => by rw [hb.cell (p := ⟨b, off + i, none⟩) (Nat.lt_of_lt_of_le h2 hn)]; exact h3 i t ht⟩
theorem In.emp {w : World} {l : List Int} (h : In w none l) : l = [] := by
  rcases h with h | ⟨b, off, h1, _⟩
  · exact h
  · cases h1
theorem In.get {w : World} {a : Option Addr} {l : List Int} (h : In w a l) {k : Nat} (hk : k < l.length) : ∃ b off t, l[k]? = some t ∧ a = some ⟨b, off, none⟩ ∧ b < w.heap.size ∧ w.cell? ⟨b, off + k, none⟩ = some (vl t) := by
  obtain ⟨t, ht⟩ : ∃ t, l[k]? = some t := ⟨_, List.getElem?_eq_getElem hk⟩
  rcases h with h | ⟨b, off, h1, h2, h3⟩
  · rw [h] at hk; simp at hk
  · exact ⟨b, off, t, ht, h1, h2, h3 k t ht⟩
theorem In.take {w : World} {a : Option Addr} {l : List Int} (h : In w a l) (n : Nat) : In w a (l.take n) := by
  rcases h with h | ⟨b, off, h1, h2, h3⟩
  · rw [h]; exact Or.inl (by simp)
  · exact Or.inr ⟨b, off, h1, h2, fun i t ht => h3 i t (by rw [List.getElem?_take] at ht; split at ht; exact ht; cases ht)⟩
theorem In.news {w : World} {a : Option Addr} {l : List Int} (h : In w a l) (ad : Addr) (e : a = some ad) : ∀ j u, (l.map vl)[j]? = some u → w.cell? (ad.add j) = some u := fun j u hj => by
  rw [List.getElem?_map, Option.map_eq_some_iff] at hj
  obtain ⟨t, ht, rfl⟩ := hj
  rcases h with h | ⟨b, off, h1, h2, h3⟩
  · rw [h] at ht; simp at ht
  · rw [e] at h1
    injection h1 with h1
    subst h1
    rw [add_at0]
    exact h3 j t ht
/-- one's own. -/
def OE (w : World) (B : Nat) (v : Value) (l : List Int) : Prop := w.ownsRow B 3 1 v l.length (l.map vl)
theorem OE.ein {w : World} {B : Nat} {v : Value} {l : List Int} (h : OE w B v l) : ∃ a cap, v = .slice a l.length cap ∧ l.length ≤ cap ∧ In w a l ∧ (a = none ∨ ∃ b, a = some ⟨b, 0, none⟩ ∧ B ≤ b ∧ b < w.heap.size) := by
  rcases h.2 with ⟨e, e0⟩ | ⟨g, cap, cur, e1, hB, hg, hc, _⟩
  · exact ⟨none, 0, by rw [e, e0], by omega, Or.inl (List.eq_nil_of_length_eq_zero e0), Or.inl rfl⟩
  · subst e1
    have hcs := World.ownsRow.cells h (g := g) rfl
    have hlt := (World.ownsRow.lt h g rfl).2
    refine ⟨some ⟨g, 0, none⟩, cap, rfl, hc, Or.inr ⟨g, 0, rfl, hlt, fun i s hs => ?_⟩, Or.inr ⟨g, rfl, hB, hlt⟩⟩
    have k1 := hcs i (vl s) (by rw [List.getElem?_map, hs]; rfl)
    rw [add_at0, Nat.zero_add] at k1
    rw [Nat.zero_add]
    exact k1
theorem OE.nil (w : World) (B : Nat) : OE w B (.slice none 0 0) [] := ⟨rfl, Or.inl ⟨rfl, rfl⟩⟩
theorem OE.below {w w' : World} {B C : Nat} {v : Value} {l : List Int} (h : OE w B v l) (hb : Below C w w') (hC : w.heap.size ≤ C) : OE w' B v l := by
  refine ⟨h.1, ?_⟩
  rcases h.2 with h2 | ⟨g, cap, cur, e1, e2, e3, e4⟩
  · exact Or.inl h2
  · exact Or.inr ⟨g, cap, cur, e1, e2, by rw [hb.block g (Nat.lt_of_lt_of_le (Array.getElem?_eq_some_iff.1 e3).1 hC)]; exact e3, e4⟩
theorem OE.bound {w : World} {B : Nat} {v : Value} {l : List Int} (h : OE w B v l) {k : Nat} (e : v.ownBlock = some k) : B ≤ k ∧ k < w.heap.size := by
  rcases h.2 with ⟨e1, e0⟩ | ⟨g, cap, cur, e1, _, hg, hc, _⟩
  · rw [e1] at e; cases e
  · subst e1
    have : g = k := by simpa [Value.ownBlock] using e
    subst this
    exact World.ownsRow.lt h g rfl
theorem OE.mono {w : World} {B C : Nat} {v : Value} {l : List Int} (h : OE w B v l) (hC : C ≤ B) : OE w C v l := by
  refine ⟨h.1, ?_⟩
  rcases h.2 with h2 | ⟨g, cap, cur, e1, e2, e3⟩
  · exact Or.inl h2
  · exact Or.inr ⟨g, cap, cur, e1, Nat.le_trans hC e2, e3⟩
/-- another block changes. -/
theorem OE.keep {w w' : World} {B : Nat} {v : Value} {l : List Int} (h : OE w B v l) (hk : ∀ k, v.ownBlock = some k → w'.heap[k]? = w.heap[k]?) : OE w' B v l := by
  refine ⟨h.1, ?_⟩
  rcases h.2 with h2 | ⟨g, cap, cur, e1, e2, e3, e4⟩
  · exact Or.inl h2
  · exact Or.inr ⟨g, cap, cur, e1, e2, by rw [hk g (by rw [e1]; rfl)]; exact e3, e4⟩
theorem OE.cell {w : World} {B g n c : Nat} {l : List Int} (h : OE w B (.slice (some ⟨g, 0, none⟩) n c) l) {k : Nat} {t : Int} (ht : l[k]? = some t) : w.cell? ⟨g, k, none⟩ = some (vl t) := by
  have k1 := World.ownsRow.cells h (g := g) rfl k (vl t) (by rw [List.getElem?_map, ht]; rfl)
  rw [add_at0, Nat.zero_add] at k1
  exact k1
theorem OE.fz {w : World} {B g n c : Nat} {l : List Int} (h : OE w B (.slice (some ⟨g, 0, none⟩) n c) l) (k : Nat) : w.frozen? ⟨g, k, none⟩ = false := by
  rcases h.2 with ⟨e, _⟩ | ⟨g', cap, cur, e1, _, hg, _⟩
  · simp at e
  · injection e1 with e1
    injection e1 with e1
    injection e1 with e1
    subst e1
    exact frozen_of_row _ g k _ _ hg
theorem OE.set {w : World} {B g n c : Nat} {l : List Int} (h : OE w B (.slice (some ⟨g, 0, none⟩) n c) l) (k : Nat) (x : Int) : OE (w.setCell ⟨g, k, none⟩ (vl x)) B (.slice (some ⟨g, 0, none⟩) n c) (l.set k x) ∧ w.grownBy (w.setCell ⟨g, k, none⟩ (vl x)) (some g) := by
  obtain rfl : n = l.length := by
    rcases h.2 with ⟨e, _⟩ | ⟨g', cap, cur, e1, _⟩
    · simp at e
    · simp at e1; exact e1.2.1
  have := World.ownsRow.stored h k (vl x)
  refine ⟨?_, this.2⟩
  unfold OE
  rw [List.length_set, List.map_set]
  exact this.1
theorem OE.empty (w : World) : OE (w.alloc (.cells #[] 3)) w.heap.size (.slice (some ⟨w.heap.size, 0, none⟩) 0 0) [] := ⟨by simp, Or.inr ⟨w.heap.size, 0, #[], rfl, Nat.le_refl _, heap_alloc_new w _, Nat.le_refl _, by omega, by simp, by simp⟩⟩
theorem app_no (W : World) (a ad : Option Addr) (n cap c : Nat) (ty : TypeId) (h : n ≤ cap) : (Builtin.append_ #[39, 39] ty #[.slice a n cap, .slice ad 0 c]).run Tryz.prog W = .ok (.slice a n cap) W := by
  obtain ⟨i, z, t1, t2, t3, t4, t5, t6, t7⟩ := tp
  cases a <;> cases ad <;> simp [Builtin.append_, run_underlying t1, sizeOf, typeInfo, t2, Builtin.lenOf, Builtin.firstCells, storeCells, loadCells, loadCellsFrom, h]
/-- some appended, or none. -/
theorem app (W : World) (B : Nat) (v : Value) (l f : List Int) (h : OE W B v l) (hB : B ≤ W.heap.size) (a : Option Addr) (c : Nat) (ty : TypeId) (hf : In W a f) (hn : l.length + f.length ≤ 4398046511104) :
    ∃ v' w', (Builtin.append_ #[39, 39] ty #[v, .slice a f.length c]).run Tryz.prog W = .ok v' w' ∧ OE w' B v' (l ++ f) ∧ W.grownBy w' v.ownBlock ∧ (v'.ownBlock = v.ownBlock ∨ v'.ownBlock = some W.heap.size) := by
  rcases Nat.eq_zero_or_pos f.length with h0 | h0
  · have e := List.eq_nil_of_length_eq_zero h0
    subst e
    obtain ⟨a1, c1, e1, hc1, _⟩ := h.ein
    exact ⟨v, W, by rw [e1]; exact app_no _ _ _ _ _ _ _ hc1, by rw [List.append_nil]; exact h, ⟨rfl, rfl, rfl, Nat.le_refl _, fun k hk hne => rfl⟩, Or.inl rfl⟩
  · have hf' := hf
    rcases hf with e | ⟨b, off, e, hb, hc⟩
    · rw [e] at h0; simp at h0
    · subst e
      obtain ⟨i, z, t1, t2, t3, t4, t5, t6, t7⟩ := tp
      have hml : maxLen = 9223372036854775807 := by decide
      obtain ⟨g, cap, w', hr, own, gr, hat, hlt⟩ := run_append_lies (P := Tryz.prog) W 39 ty B 3 i z 1 8 t1 t2 t3 t4 t5 t6 t7 v l.length (l.map vl) h ⟨b, off, none⟩ f.length c (f.map vl) (by simp) (hf'.news _ rfl) (fun u hu => by obtain ⟨t, _, rfl⟩ := List.mem_map.1 hu; rfl) h0 (by omega) (by omega) hB _ rfl
      refine ⟨_, w', hr, ?_, gr, ?_⟩
      · unfold OE; rw [List.length_append, List.map_append]; exact own
      · rcases hat with e | e
        · exact Or.inl e.symm
        · subst e; exact Or.inr rfl
theorem grown_below {W w' : World} {B : Nat} {v : Value} {l : List Int} (h : OE W B v l) (hB : B ≤ W.heap.size) (gr : W.grownBy w' v.ownBlock) : Below B W w' := (Below.refl B W).grown gr hB (fun k e => (h.bound e).1)
/-- one appended. -/
theorem app_one (W : World) (B : Nat) (v : Value) (l : List Int) (h : OE W B v l) (hB : B ≤ W.heap.size) (x : Int) (ty : TypeId) (hn : l.length + 1 ≤ 4398046511104) :
    ∃ v' w', (Builtin.append_ #[39, 39] ty #[v, .slice (some ⟨W.heap.size, 0, none⟩) 1 1]).run Tryz.prog (W.alloc (.cells #[vl x] 3)) = .ok v' w' ∧ OE w' B v' (l ++ [x]) ∧ (W.alloc (.cells #[vl x] 3)).grownBy w' v.ownBlock ∧ Below B W w' ∧ (v'.ownBlock = v.ownBlock ∨ v'.ownBlock = some (W.heap.size + 1)) := by
  have b0 : Below W.heap.size W (W.alloc (.cells #[vl x] 3)) := (Below.refl _ W).alloc (Nat.le_refl _) _
  have h1 := h.below b0 (Nat.le_refl _)
  have hs : (W.alloc (.cells #[vl x] 3)).heap.size = W.heap.size + 1 := by simp
  obtain ⟨v', w', hr, ho, hg, hat⟩ := app _ B v l [x] h1 (by omega) (some ⟨W.heap.size, 0, none⟩) 1 ty (Or.inr ⟨W.heap.size, 0, rfl, by omega, fun i t ht => by
    cases i with
    | zero => simp at ht; subst ht; simp [go_sem]
    | succ i => simp at ht⟩) (by simpa using hn)
  rw [hs] at hat
  exact ⟨v', w', hr, ho, hg, (b0.mono hB).trans (grown_below h1 (by omega) hg), hat⟩
end Go.Proofs.YtdfnomglkibfbaaGreatDoor.Vf.I6

namespace Go.Proofs.YtdfnomglkibfbaaGreatDoor.Vf.T8
open Go.RowKit
set_option linter.unusedVariables false
set_option linter.unusedSimpArgs false
set_option maxRecDepth 100000
def vl (x : Int) : Value := .int .i8 x
theorem tp : Tp 139 262 1 1 := by
  have hi : (Tryz.prog.info? 262).map (fun i => (i.zero, i.bytes, i.size)) = some (some (.int .i8 0), 1, 1) := by kernel_rfl
  obtain ⟨i, i1, i0⟩ := Option.map_eq_some_iff.1 hi
  exact ⟨i, _, Tryz.underlying139, i1, congrArg (·.1) i0, congrArg (·.2.2) i0, congrArg (·.2.1) i0, rfl, by omega⟩
/-- in memory. -/
def In (w : World) (a : Option Addr) (l : List Int) : Prop := l = [] ∨ ∃ b off, a = some ⟨b, off, none⟩ ∧ b < w.heap.size ∧ ∀ i t, l[i]? = some t → w.cell? ⟨b, off + i, none⟩ = some (vl t)
theorem In.below {w w' : World} {a : Option Addr} {l : List Int} {n : Nat} (h : In w a l) (hb : Below n w w') (hn : w.heap.size ≤ n) : In w' a l := by
  rcases h with h | ⟨b, off, h1, h2, h3⟩
  · exact Or.inl h
  · exact Or.inr ⟨b, off, h1, Nat.lt_of_lt_of_le h2 hb.size, fun i t ht => by rw [hb.cell (p := ⟨b, off + i, none⟩) (Nat.lt_of_lt_of_le h2 hn)]; exact h3 i t ht⟩
theorem In.emp {w : World} {l : List Int} (h : In w none l) : l = [] := by
  rcases h with h | ⟨b, off, h1, _⟩
  · exact h
  · cases h1
theorem In.get {w : World} {a : Option Addr} {l : List Int} (h : In w a l) {k : Nat} (hk : k < l.length) : ∃ b off t, l[k]? = some t ∧ a = some ⟨b, off, none⟩ ∧ b < w.heap.size ∧ w.cell? ⟨b, off + k, none⟩ = some (vl t) := by
  obtain ⟨t, ht⟩ : ∃ t, l[k]? = some t := ⟨_, List.getElem?_eq_getElem hk⟩
  rcases h with h | ⟨b, off, h1, h2, h3⟩
  · rw [h] at hk; simp at hk
  · exact ⟨b, off, t, ht, h1, h2, h3 k t ht⟩
theorem In.take {w : World} {a : Option Addr} {l : List Int} (h : In w a l) (n : Nat) : In w a (l.take n) := by
  rcases h with h | ⟨b, off, h1, h2, h3⟩
  · rw [h]; exact Or.inl (by simp)
  · exact Or.inr ⟨b, off, h1, h2, fun i t ht => h3 i t (by rw [List.getElem?_take] at ht; split at ht; exact ht; cases ht)⟩
theorem In.news {w : World} {a : Option Addr} {l : List Int} (h : In w a l) (ad : Addr) (e : a = some ad) : ∀ j u, (l.map vl)[j]? = some u → w.cell? (ad.add j) = some u := fun j u hj => by
  rw [List.getElem?_map, Option.map_eq_some_iff] at hj
  obtain ⟨t, ht, rfl⟩ := hj
  rcases h with h | ⟨b, off, h1, h2, h3⟩
  · rw [h] at ht; simp at ht
  · rw [e] at h1
    injection h1 with h1
    subst h1
    rw [add_at0]
    exact h3 j t ht
/-- one's own. -/
def OE (w : World) (B : Nat) (v : Value) (l : List Int) : Prop := w.ownsRow B 262 1 v l.length (l.map vl)
theorem OE.ein {w : World} {B : Nat} {v : Value} {l : List Int} (h : OE w B v l) : ∃ a cap, v = .slice a l.length cap ∧ l.length ≤ cap ∧ In w a l ∧ (a = none ∨ ∃ b, a = some ⟨b, 0, none⟩ ∧ B ≤ b ∧ b < w.heap.size) := by
  rcases h.2 with ⟨e, e0⟩ | ⟨g, cap, cur, e1, hB, hg, hc, _⟩
  · exact ⟨none, 0, by rw [e, e0], by omega, Or.inl (List.eq_nil_of_length_eq_zero e0), Or.inl rfl⟩
  · subst e1
    have hcs := World.ownsRow.cells h (g := g) rfl
    have hlt := (World.ownsRow.lt h g rfl).2
    refine ⟨some ⟨g, 0, none⟩, cap, rfl, hc, Or.inr ⟨g, 0, rfl, hlt, fun i s hs => ?_⟩, Or.inr ⟨g, rfl, hB, hlt⟩⟩
    have k1 := hcs i (vl s) (by rw [List.getElem?_map, hs]; rfl)
    rw [add_at0, Nat.zero_add] at k1
    rw [Nat.zero_add]
    exact k1
theorem OE.nil (w : World) (B : Nat) : OE w B (.slice none 0 0) [] := ⟨rfl, Or.inl ⟨rfl, rfl⟩⟩
theorem OE.below {w w' : World} {B C : Nat} {v : Value} {l : List Int} (h : OE w B v l) (hb : Below C w w') (hC : w.heap.size ≤ C) : OE w' B v l := by
  refine ⟨h.1, ?_⟩
  rcases h.2 with h2 | ⟨g, cap, cur, e1, e2, e3, e4⟩
  · exact Or.inl h2
  · exact Or.inr ⟨g, cap, cur, e1, e2, by rw [hb.block g (Nat.lt_of_lt_of_le (Array.getElem?_eq_some_iff.1 e3).1 hC)]; exact e3, e4⟩
theorem OE.bound {w : World} {B : Nat} {v : Value} {l : List Int} (h : OE w B v l) {k : Nat} (e : v.ownBlock = some k) : B ≤ k ∧ k < w.heap.size := by
  rcases h.2 with ⟨e1, e0⟩ | ⟨g, cap, cur, e1, _, hg, hc, _⟩
  · rw [e1] at e; cases e
  · subst e1
    have : g = k := by simpa [Value.ownBlock] using e
    subst this
    exact World.ownsRow.lt h g rfl
theorem OE.mono {w : World} {B C : Nat} {v : Value} {l : List Int} (h : OE w B v l) (hC : C ≤ B) : OE w C v l := by
  refine ⟨h.1, ?_⟩
  rcases h.2 with h2 | ⟨g, cap, cur, e1, e2, e3⟩
  · exact Or.inl h2
  · exact Or.inr ⟨g, cap, cur, e1, Nat.le_trans hC e2, e3⟩
/-- another block changes. -/
theorem OE.keep {w w' : World} {B : Nat} {v : Value} {l : List Int} (h : OE w B v l) (hk : ∀ k, v.ownBlock = some k → w'.heap[k]? = w.heap[k]?) : OE w' B v l := by
  refine ⟨h.1, ?_⟩
  rcases h.2 with h2 | ⟨g, cap, cur, e1, e2, e3, e4⟩
  · exact Or.inl h2
  · exact Or.inr ⟨g, cap, cur, e1, e2, by rw [hk g (by rw [e1]; rfl)]; exact e3, e4⟩
theorem OE.cell {w : World} {B g n c : Nat} {l : List Int} (h : OE w B (.slice (some ⟨g, 0, none⟩) n c) l) {k : Nat} {t : Int} (ht : l[k]? = some t) : w.cell? ⟨g, k, none⟩ = some (vl t) := by
  have k1 := World.ownsRow.cells h (g := g) rfl k (vl t) (by rw [List.getElem?_map, ht]; rfl)
  rw [add_at0, Nat.zero_add] at k1
  exact k1
theorem OE.fz {w : World} {B g n c : Nat} {l : List Int} (h : OE w B (.slice (some ⟨g, 0, none⟩) n c) l) (k : Nat) : w.frozen? ⟨g, k, none⟩ = false := by
  rcases h.2 with ⟨e, _⟩ | ⟨g', cap, cur, e1, _, hg, _⟩
  · simp at e
  · injection e1 with e1
    injection e1 with e1
    injection e1 with e1
    subst e1
    exact frozen_of_row _ g k _ _ hg
theorem OE.set {w : World} {B g n c : Nat} {l : List Int} (h : OE w B (.slice (some ⟨g, 0, none⟩) n c) l) (k : Nat) (x : Int) : OE (w.setCell ⟨g, k, none⟩ (vl x)) B (.slice (some ⟨g, 0, none⟩) n c) (l.set k x) ∧ w.grownBy (w.setCell ⟨g, k, none⟩ (vl x)) (some g) := by
  obtain rfl : n = l.length := by
    rcases h.2 with ⟨e, _⟩ | ⟨g', cap, cur, e1, _⟩
    · simp at e
    · simp at e1; exact e1.2.1
  have := World.ownsRow.stored h k (vl x)
  refine ⟨?_, this.2⟩
  unfold OE
  rw [List.length_set, List.map_set]
  exact this.1
theorem OE.empty (w : World) : OE (w.alloc (.cells #[] 262)) w.heap.size (.slice (some ⟨w.heap.size, 0, none⟩) 0 0) [] := ⟨by simp, Or.inr ⟨w.heap.size, 0, #[], rfl, Nat.le_refl _, heap_alloc_new w _, Nat.le_refl _, by omega, by simp, by simp⟩⟩
theorem app_no (W : World) (a ad : Option Addr) (n cap c : Nat) (ty : TypeId) (h : n ≤ cap) : (Builtin.append_ #[139, 139] ty #[.slice a n cap, .slice ad 0 c]).run Tryz.prog W = .ok (.slice a n cap) W := by
  obtain ⟨i, z, t1, t2, t3, t4, t5, t6, t7⟩ := tp
  cases a <;> cases ad <;> simp [Builtin.append_, run_underlying t1, sizeOf, typeInfo, t2, Builtin.lenOf, Builtin.firstCells, storeCells, loadCells, loadCellsFrom, h]
/-- some appended, or none. -/
theorem app (W : World) (B : Nat) (v : Value) (l f : List Int) (h : OE W B v l) (hB : B ≤ W.heap.size) (a : Option Addr) (c : Nat) (ty : TypeId) (hf : In W a f) (hn : l.length + f.length ≤ 4398046511104) :
    ∃ v' w', (Builtin.append_ #[139, 139] ty #[v, .slice a f.length c]).run Tryz.prog W = .ok v' w' ∧ OE w' B v' (l ++ f) ∧ W.grownBy w' v.ownBlock ∧ (v'.ownBlock = v.ownBlock ∨ v'.ownBlock = some W.heap.size) := by
  rcases Nat.eq_zero_or_pos f.length with h0 | h0
  · have e := List.eq_nil_of_length_eq_zero h0
    subst e
    obtain ⟨a1, c1, e1, hc1, _⟩ := h.ein
    exact ⟨v, W, by rw [e1]; exact app_no _ _ _ _ _ _ _ hc1, by rw [List.append_nil]; exact h, ⟨rfl, rfl, rfl, Nat.le_refl _, fun k hk hne => rfl⟩, Or.inl rfl⟩
  · have hf' := hf
    rcases hf with e | ⟨b, off, e, hb, hc⟩
    · rw [e] at h0; simp at h0
    · subst e
      obtain ⟨i, z, t1, t2, t3, t4, t5, t6, t7⟩ := tp
      have hml : maxLen = 9223372036854775807 := by decide
      obtain ⟨g, cap, w', hr, own, gr, hat, hlt⟩ := run_append_lies (P := Tryz.prog) W 139 ty B 262 i z 1 1 t1 t2 t3 t4 t5 t6 t7 v l.length (l.map vl) h ⟨b, off, none⟩ f.length c (f.map vl) (by simp) (hf'.news _ rfl) (fun u hu => by obtain ⟨t, _, rfl⟩ := List.mem_map.1 hu; rfl) h0 (by omega) (by omega) hB _ rfl
      refine ⟨_, w', hr, ?_, gr, ?_⟩
      · unfold OE; rw [List.length_append, List.map_append]; exact own
      · rcases hat with e | e
        · exact Or.inl e.symm
        · subst e; exact Or.inr rfl
theorem grown_below {W w' : World} {B : Nat} {v : Value} {l : List Int} (h : OE W B v l) (hB : B ≤ W.heap.size) (gr : W.grownBy w' v.ownBlock) : Below B W w' := (Below.refl B W).grown gr hB (fun k e => (h.bound e).1)
/-- one appended. -/
theorem app_one (W : World) (B : Nat) (v : Value) (l : List Int) (h : OE W B v l) (hB : B ≤ W.heap.size) (x : Int) (ty : TypeId) (hn : l.length + 1 ≤ 4398046511104) :
    ∃ v' w', (Builtin.append_ #[139, 139] ty #[v, .slice (some ⟨W.heap.size, 0, none⟩) 1 1]).run Tryz.prog (W.alloc (.cells #[vl x] 262)) = .ok v' w' ∧ OE w' B v' (l ++ [x]) ∧ (W.alloc (.cells #[vl x] 262)).grownBy w' v.ownBlock ∧ Below B W w' ∧ (v'.ownBlock = v.ownBlock ∨ v'.ownBlock = some (W.heap.size + 1)) := by
  have b0 : Below W.heap.size W (W.alloc (.cells #[vl x] 262)) := (Below.refl _ W).alloc (Nat.le_refl _) _
  have h1 := h.below b0 (Nat.le_refl _)
  have hs : (W.alloc (.cells #[vl x] 262)).heap.size = W.heap.size + 1 := by simp
  obtain ⟨v', w', hr, ho, hg, hat⟩ := app _ B v l [x] h1 (by omega) (some ⟨W.heap.size, 0, none⟩) 1 ty (Or.inr ⟨W.heap.size, 0, rfl, by omega, fun i t ht => by
    cases i with
    | zero => simp at ht; subst ht; simp [go_sem]
    | succ i => simp at ht⟩) (by simpa using hn)
  rw [hs] at hat
  exact ⟨v', w', hr, ho, hg, (b0.mono hB).trans (grown_below h1 (by omega) hg), hat⟩
set_option maxHeartbeats 4000000 in
/-- slices.Clone: in a block of their own, or nil. -/
theorem clone_any (a : Option Addr) (c : Nat) (l : List Int) (w : World) (h : In w a l) (hn : l.length ≤ 4398046511104) :
    Calls Tryz.prog 118 #[.slice a l.length c] w fun e w' => ∃ v, e = .returned v ∧ OE w' w.heap.size v l ∧ Below w.heap.size w w' := by
  have q29 : ∀ (w : World) (a : Option Addr) (n c n' c' : Nat), (binOp .eql 139 (.slice a n c) (.slice none n' c')).run Tryz.prog w = .ok (.bool a.isNone) w := fun w a n c n' c' => Lib.run_eql_slice_nil w _ _ a n c n' c' Tryz.underlying139
  cases a with
  | none =>
    have e := h.emp
    subst e
    have fin : Hid (OE w w.heap.size (.slice none 0 0) [] ∧ Below w.heap.size w w) := ⟨OE.nil _ _, Below.refl _ _⟩
    clear h hn
    go_enter Tryz.func118, Tryz.ntmps118
    go_wp2_with fail
    go_ret
    exact ⟨_, rfl, fin.out⟩
  | some ad =>
    have hB0 : Below w.heap.size w (w.alloc (.cells #[] 262)) := (Below.refl _ w).alloc (Nat.le_refl _) _
    have own0 := OE.empty w
    obtain ⟨v', w', hr, ho, hg, hat⟩ := app _ w.heap.size _ [] l own0 (by simp) (some ad) c 139 (h.below hB0 (Nat.le_refl _)) (by simp; omega)
    rw [List.nil_append] at ho
    have hb : Below w.heap.size w w' := hB0.trans (grown_below own0 (by simp) hg)
    have fin : Hid (OE w' w.heap.size v' l ∧ Below w.heap.size w w') := ⟨ho, hb⟩
    have hrH : Hid (∀ W, W = w.alloc (.cells #[] 262) → (Builtin.append_ #[139, 139] 139 #[.slice (some ⟨w.heap.size, 0, none⟩) 0 0, .slice (some ad) l.length c]).run Tryz.prog W = .ok v' w') := fun W e => by subst e; exact hr
    clear hr ho hg hat hb own0 hB0 h hn
    generalize l.length = n at *
    go_enter Tryz.func118, Tryz.ntmps118
    go_wp2_with (at_builtin; refine wpList_append_runG (by rfl) _ _ _ (by rfl) _ _ _ _ (by rfl) (by rfl) (hrH.out _ rfl) ?_)
    go_ret
    exact ⟨_, rfl, fin.out⟩
end Go.Proofs.YtdfnomglkibfbaaGreatDoor.Vf.T8

namespace Go.Proofs.YtdfnomglkibfbaaGreatDoor.Vf
open Go.RowKit Go.Maps
set_option linter.unusedVariables false
set_option linter.unusedSimpArgs false
set_option maxRecDepth 100000
/-! ### a map of places to stacks of truths -/
theorem ownsMap_norm' {P : Program} {k : TypeId} {R : Value → Option (DataW Unit × List MemPlace)} {w : World} {b n : Nat} {D : DataW Unit} (h : w.ownsMap P k R b n D) : w.ownsMap P k R b (Maps.size D) D := ownsMap_norm h
/-- how a slice is written down. -/
def encS : Value → Option (DataW Unit × List MemPlace)
  | .slice none n c => some (.agg [.lit (.int .i64 (n : Int)), .lit (.int .i64 (c : Int))], [])
  | .slice (some ⟨b, off, none⟩) n c => some (.agg [.lit (.int .i64 (b : Int)), .lit (.int .i64 (off : Int)), .lit (.int .i64 (n : Int)), .lit (.int .i64 (c : Int))], [])
  | _ => none
theorem encS_none (n c : Nat) : encS (.slice none n c) = some (.agg [.lit (.int .i64 (n : Int)), .lit (.int .i64 (c : Int))], []) := rfl
theorem encS_some (b off n c : Nat) : encS (.slice (some ⟨b, off, none⟩) n c) = some (.agg [.lit (.int .i64 (b : Int)), .lit (.int .i64 (off : Int)), .lit (.int .i64 (n : Int)), .lit (.int .i64 (c : Int))], []) := rfl
/-- an address as they come. -/
def Plc (a : Option Addr) : Prop := a = none ∨ ∃ b off, a = some ⟨b, off, none⟩
theorem encS_is {v : Value} {d : DataW Unit} {p : List MemPlace} (h : encS v = some (d, p)) : ∃ a n c, v = .slice a n c ∧ Plc a := by
  unfold encS at h
  split at h
  · exact ⟨_, _, _, rfl, Or.inl rfl⟩
  · exact ⟨_, _, _, rfl, Or.inr ⟨_, _, rfl⟩⟩
  · cases h
theorem encS_inj {u v : Value} {d : DataW Unit} {p q : List MemPlace} (h : encS u = some (d, p)) (h' : encS v = some (d, q)) : u = v := by
  obtain ⟨a, n, c, rfl, ha⟩ := encS_is h
  obtain ⟨a', n', c', rfl, ha'⟩ := encS_is h'
  rcases ha with rfl | ⟨b, off, rfl⟩ <;> rcases ha' with rfl | ⟨b', off', rfl⟩
  · rw [encS_none] at h h'
    injection h with h; injection h' with h'
    have h := (congrArg Prod.fst h).trans (congrArg Prod.fst h').symm
    simp at h
    obtain ⟨h1, h2⟩ := h
    rw [Int.ofNat_inj.1 h1, Int.ofNat_inj.1 h2]
  · rw [encS_none] at h
    rw [encS_some] at h'
    injection h with h; injection h' with h'
    have h := (congrArg Prod.fst h).trans (congrArg Prod.fst h').symm
    simp at h
  · rw [encS_some] at h
    rw [encS_none] at h'
    injection h with h; injection h' with h'
    have h := (congrArg Prod.fst h).trans (congrArg Prod.fst h').symm
    simp at h
  · rw [encS_some] at h h'
    injection h with h; injection h' with h'
    have h := (congrArg Prod.fst h).trans (congrArg Prod.fst h').symm
    simp at h
    obtain ⟨h1, h2, h3, h4⟩ := h
    rw [Int.ofNat_inj.1 h1, Int.ofNat_inj.1 h2, Int.ofNat_inj.1 h3, Int.ofNat_inj.1 h4]
theorem encS_mk {a : Option Addr} (h : Plc a) (n c : Nat) : ∃ d, encS (.slice a n c) = some (d, []) := by
  rcases h with rfl | ⟨b, off, rfl⟩
  · exact ⟨_, rfl⟩
  · exact ⟨_, rfl⟩
theorem trs_zero (w : World) : (zeroValue 139).run Tryz.prog w = .ok (.slice none 0 0) w := by
  have h : (Tryz.prog.info? 139).map (fun i => i.zero) = some (some (.slice none 0 0)) := by kernel_rfl
  obtain ⟨i, i1, i0⟩ := Option.map_eq_some_iff.1 h
  simp [zeroValue, typeInfo, i1, i0]
/-- where a stack may lie. -/
def Sit (w : World) (mb : Nat) (g : Option Nat) (a : Option Addr) (s : List Int) : Prop := Plc a ∧ T8.In w a s ∧ ∀ x, a = some x → x.block ≠ mb ∧ some x.block ≠ g ∧ x.block < w.heap.size
theorem Sit.kept {w w' : World} {mb : Nat} {g g' : Option Nat} {a : Option Addr} {s : List Int} (h : Sit w mb g a s) (hz : w.heap.size ≤ w'.heap.size) (hk : ∀ b, b < w.heap.size → b ≠ mb → some b ≠ g → w'.heap[b]? = w.heap[b]?) (hg : g' = g ∨ ∃ k, g' = some k ∧ w.heap.size ≤ k) : Sit w' mb g' a s := by
  obtain ⟨h1, h2, h3⟩ := h
  refine ⟨h1, ?_, fun x hx => ?_⟩
  · rcases h2 with h2 | ⟨b, off, e, hb, hc⟩
    · exact Or.inl h2
    · obtain ⟨n1, n2, n3⟩ := h3 _ e
      refine Or.inr ⟨b, off, e, Nat.lt_of_lt_of_le hb hz, fun i t ht => ?_⟩
      rw [World.cell?_of_block (w := w) (hk b hb n1 n2)]; exact hc i t ht
  · obtain ⟨n1, n2, n3⟩ := h3 x hx
    refine ⟨n1, ?_, by omega⟩
    rcases hg with rfl | ⟨k, rfl, hk⟩
    · exact n2
    · intro e; injection e with e; omega
/-- the map: what m says of each place, c entries; g is where none lies. -/
def MT (w : World) (mb : Nat) (m : MpT) (c : Nat) (g : Option Nat) : Prop := ∃ (D : DataW Unit) (V : Nat → Option Addr × Nat), w.ownsMap Tryz.prog 3 encS mb c D ∧ Maps.size D = c ∧ ∀ k : Nat, k ≤ 4611686018427387904 → has D (.int .i64 (k : Int)) = (m k).isSome ∧ ∀ s, m k = some s → (∃ d, encS (.slice (V k).1 s.length (V k).2) = some (d, []) ∧ ∀ z, D.atKey (.int .i64 (k : Int)) z = d) ∧ s.length ≤ (V k).2 ∧ Sit w mb g (V k).1 s
theorem MT.lt {w : World} {mb c : Nat} {m : MpT} {g : Option Nat} (h : MT w mb m c g) : mb < w.heap.size := by obtain ⟨D, V, h1, _⟩ := h; exact h1.lt
theorem MT.kept {w w' : World} {mb c : Nat} {m : MpT} {g g' : Option Nat} (h : MT w mb m c g) (hz : w.heap.size ≤ w'.heap.size) (hmb : some mb ≠ g) (hk : ∀ b, b < w.heap.size → some b ≠ g → w'.heap[b]? = w.heap[b]?) (hg : g' = g ∨ ∃ k, g' = some k ∧ w.heap.size ≤ k) : MT w' mb m c g' := by
  have hlt := h.lt
  obtain ⟨D, V, ⟨es, clock, h1, h2⟩, h3, h4⟩ := h
  exact ⟨D, V, ⟨es, clock, (hk mb hlt hmb).trans h1, h2⟩, h3, fun k hkk => ⟨(h4 k hkk).1, fun s hs => ⟨((h4 k hkk).2 s hs).1, ((h4 k hkk).2 s hs).2.1, ((h4 k hkk).2 s hs).2.2.kept hz (fun b hb _ hn => hk b hb hn) hg⟩⟩⟩
theorem MT.below {w w' : World} {mb c : Nat} {m : MpT} {g : Option Nat} (h : MT w mb m c g) (hmb : some mb ≠ g) (hb : Below w.heap.size w w') : MT w' mb m c g := h.kept hb.size hmb (fun b h1 _ => hb.block b h1) (Or.inl rfl)
theorem MT.start (w : World) : MT (w.alloc (.map #[] 0)) w.heap.size (fun _ => none) 0 none := ⟨.map [], fun _ => (none, 0), World.ownsMap_made w Tryz.prog 3 _, rfl, fun s _ => ⟨rfl, fun s h => by cases h⟩⟩
def putT (m : MpT) (k : Nat) (s : List Int) (j : Nat) : Option (List Int) := if j = k then some s else m j
theorem MT.put {w : World} {mb c : Nat} {m : MpT} {g : Option Nat} (h : MT w mb m c g) (k : Nat) (hk : k ≤ 4611686018427387904) {a : Option Addr} {s : List Int} (cc : Nat) (hcc : s.length ≤ cc) (hs : Sit w mb g a s) (hc : c < 4611686018427387904) :
    ∃ w', (Instr.mapUpdate 138 (.map (some mb)) (.int .i64 (k : Int)) (.slice a s.length cc)).run Tryz.prog w = .ok () w' ∧ (∃ c', c' ≤ c + 1 ∧ MT w' mb (putT m k s) c' g) ∧ w.grownBy w' (some mb) ∧ ∀ a, w'.frozen? a = w.frozen? a := by
  obtain ⟨D, V, hown, hsz, hD⟩ := h
  have hml : maxLen = 9223372036854775807 := by decide
  obtain ⟨d, hd⟩ := encS_mk hs.1 s.length cc
  obtain ⟨w', hr, ho, hg⟩ := hown.store int_key Tryz.underlying138 (by omega) (key_int hk) hd
  have ht := hown.tidy int_key
  have hsz2 := size_put ht (k := .int .i64 (k : Int)) d
  rw [hsz] at hsz2
  have hi' : IsMap D := hown.isMap
  have kp : ∀ b, b < w.heap.size → b ≠ mb → w'.heap[b]? = w.heap[b]? := fun b hb hn => hg.grown.block b hb (fun e => by injection e with e; exact hn e)
  refine ⟨w', hr, ⟨_, ?_, ⟨_, fun j => if j = k then (a, cc) else V j, ownsMap_norm' ho, rfl, fun t htl => ?_⟩⟩, hg.grown, fun a => hg.frozen a⟩
  · rw [hsz2]; split <;> omega
  · unfold putT
    by_cases e : t = k
    · subst e
      simp only [if_true]
      refine ⟨has_put_same hi' (isKeyI _) _, fun u hu => ?_⟩
      injection hu with hu
      subst hu
      exact ⟨⟨d, hd, fun z => atKey_put_same hi' (isKeyI _) _ z⟩, hcc, hs.kept hg.grown.size (fun b hb hn _ => kp b hb hn) (Or.inl rfl)⟩
    · simp only [if_neg e]
      have hne := int_ne e
      refine ⟨by rw [has_put_other hne]; exact (hD t htl).1, fun u hu => ?_⟩
      obtain ⟨⟨d', q1, q2⟩, q4, q3⟩ := (hD t htl).2 u hu
      exact ⟨⟨d', q1, fun z => by rw [atKey_put_other hne]; exact q2 z⟩, q4, q3.kept hg.grown.size (fun b hb hn _ => kp b hb hn) (Or.inl rfl)⟩
theorem MT.del {w : World} {mb c : Nat} {m : MpT} {g : Option Nat} (h : MT w mb m c g) (k : Nat) (hk : k ≤ 4611686018427387904) (ty : TypeId) :
    ∃ w', (Builtin.delete_ #[138, 3] ty #[.map (some mb), .int .i64 (k : Int)]).run Tryz.prog w = .ok (.tuple #[]) w' ∧ (∃ c', c' ≤ c ∧ MT w' mb (dropT m k) c' g) ∧ w.grownBy w' (some mb) ∧ ∀ a, w'.frozen? a = w.frozen? a := by
  obtain ⟨D, V, hown, hsz, hD⟩ := h
  obtain ⟨w', hr, ho, hg⟩ := hown.drop int_key Tryz.underlying138 (key_int hk) ty
  have ht := hown.tidy int_key
  have hsz2 := size_del ht (k := .int .i64 (k : Int))
  rw [hsz] at hsz2
  have kp : ∀ b, b < w.heap.size → b ≠ mb → w'.heap[b]? = w.heap[b]? := fun b hb hn => hg.grown.block b hb (fun e => by injection e with e; exact hn e)
  refine ⟨w', hr, ⟨_, ?_, ⟨_, V, ownsMap_norm' ho, rfl, fun t htl => ?_⟩⟩, hg.grown, fun a => hg.frozen a⟩
  · split at hsz2 <;> omega
  · unfold dropT
    by_cases e : t = k
    · subst e
      simp only [if_true]
      exact ⟨has_del_same, fun u hu => by cases hu⟩
    · simp only [if_neg e]
      have hne := int_ne e
      refine ⟨by rw [has_del_other hne]; exact (hD t htl).1, fun u hu => ?_⟩
      obtain ⟨⟨d', q1, q2⟩, q4, q3⟩ := (hD t htl).2 u hu
      exact ⟨⟨d', q1, fun z => by rw [atKey_del_other hne]; exact q2 z⟩, q4, q3.kept hg.grown.size (fun b hb hn _ => kp b hb hn) (Or.inl rfl)⟩
/-- what is told of a place. -/
def Lkd (w : World) (mb : Nat) (g : Option Nat) (o : Option (List Int)) (v : Value) (b : Bool) : Prop := match o with
  | none => v = .slice none 0 0 ∧ b = false
  | some s => b = true ∧ ∃ a cc, v = .slice a s.length cc ∧ s.length ≤ cc ∧ Sit w mb g a s
theorem MT.look {w : World} {mb c : Nat} {m : MpT} {g : Option Nat} (h : MT w mb m c g) (k : Nat) (hk : k ≤ 4611686018427387904) :
    ∃ v b, (Instr.lookup 138 (.map (some mb)) (.int .i64 (k : Int)) true).run Tryz.prog w = .ok (.tuple #[v, .bool b]) w ∧ Lkd w mb g (m k) v b := by
  obtain ⟨D, V, hown, hsz, hD⟩ := h
  obtain ⟨v, ps, hr, hv⟩ := hown.look_ok int_key Tryz.underlying138 (trs_zero w) (encS_none 0 0) (key_int hk)
  obtain ⟨h1, h2⟩ := hD k hk
  refine ⟨v, _, hr, ?_⟩
  rw [h1]
  cases q : m k with
  | none =>
    rw [q] at h1
    rw [atKey_of_not_has h1] at hv
    exact ⟨encS_inj hv (encS_none 0 0), rfl⟩
  | some s =>
    obtain ⟨⟨d, q1, q2⟩, q4, q3⟩ := h2 s q
    rw [q2] at hv
    exact ⟨rfl, _, _, encS_inj hv q1, q4, q3⟩
end Go.Proofs.YtdfnomglkibfbaaGreatDoor.Vf

namespace Go.Proofs.YtdfnomglkibfbaaGreatDoor.Vf
open Go.RowKit
set_option linter.unusedVariables false
set_option linter.unusedSimpArgs false
set_option maxRecDepth 100000
/-! ### what is certain on both of two ways -/
def mixT (a b : List Int) (k : Nat) : List Int := (sameT a b).take k ++ a.drop k
theorem mix_get {a b : List Int} (hl : a.length = b.length) {k : Nat} (hk : k ≤ a.length) (j : Nat) : (mixT a b k)[j]? = if j < k then (sameT a b)[j]? else a[j]? := by
  unfold mixT
  have e : (sameT a b).length = a.length := by rw [sameT_len hl, hl]
  by_cases h : j < k
  · rw [if_pos h, List.getElem?_append_left (by rw [List.length_take, e]; omega), List.getElem?_take, if_pos h]
  · rw [if_neg h, List.getElem?_append_right (by rw [List.length_take, e]; omega), List.getElem?_drop, List.length_take, e, Nat.min_eq_left hk]
    congr 1
    omega
theorem mix_len {a b : List Int} (hl : a.length = b.length) {k : Nat} (hk : k ≤ a.length) : (mixT a b k).length = a.length := by
  unfold mixT
  rw [List.length_append, List.length_take, List.length_drop, sameT_len hl]
  omega
theorem mix_next {a b : List Int} (hl : a.length = b.length) {k : Nat} {x y : Int} (hx : a[k]? = some x) (hy : b[k]? = some y) : mixT a b (k + 1) = (mixT a b k).set k (mT x y) := by
  have hk : k < a.length := (List.getElem?_eq_some_iff.1 hx).1
  apply List.ext_getElem?
  intro j
  rw [List.getElem?_set, mix_get hl (by omega), mix_get hl (by omega), mix_len hl (by omega)]
  by_cases e : k = j
  · subst e
    rw [if_pos (by omega), if_pos rfl, if_pos hk]
    unfold sameT
    rw [List.getElem?_zipWith, hx, hy]
  · rw [if_neg e]
    by_cases c : j < k
    · rw [if_pos (by omega), if_pos c]
    · rw [if_neg (by omega), if_neg c]
theorem mix_same {a b : List Int} (hl : a.length = b.length) {k : Nat} {x : Int} (hx : a[k]? = some x) (hy : b[k]? = some x) : mixT a b (k + 1) = mixT a b k := by
  have hk : k < a.length := (List.getElem?_eq_some_iff.1 hx).1
  rw [mix_next hl hx hy]
  apply List.ext_getElem?
  intro j
  rw [List.getElem?_set, mix_len hl (by omega)]
  by_cases e : k = j
  · subst e
    rw [if_pos rfl, if_pos hk, mix_get hl (by omega), if_neg (by omega), hx]
    simp [mT]
  · rw [if_neg e]
theorem mix_end {a b : List Int} (hl : a.length = b.length) : mixT a b a.length = sameT a b := by
  unfold mixT
  rw [List.drop_length, List.append_nil, List.take_of_length_le]
  rw [sameT_len hl]; omega
theorem mix_zero (a b : List Int) : mixT a b 0 = a := by unfold mixT; simp
set_option maxHeartbeats 8000000 in
theorem sameTruths_any (a b : List Int) (hl : a.length = b.length) (hn : a.length ≤ 65536) (x y : Option Addr) (cx cy : Nat) (w : World) (hx : T8.In w x a) (hy : T8.In w y b) :
    Calls Tryz.prog 87 #[.slice x a.length cx, .slice y a.length cy] w fun e w' => ∃ v, e = .returned v ∧ T8.OE w' w.heap.size v (sameT a b) ∧ Below w.heap.size w w' := by
  have CC0 := T8.clone_any x cx a w hx (by omega)
  have hyH : Hid (T8.In w y b) := hy
  obtain ⟨n, hnn⟩ : ∃ n, a.length = n := ⟨_, rfl⟩
  have naH : Hid (n = a.length) := hnn.symm
  have hlH : Hid (a.length = b.length) := hl
  rw [hnn] at CC0 hn ⊢
  have CC : Hid (Calls Tryz.prog 118 #[.slice x n cx] w fun e w' => ∃ v, e = .returned v ∧ T8.OE w' w.heap.size v a ∧ Below w.heap.size w w') := CC0
  clear CC0 hx hy hnn hl
  go_enter Tryz.func87, Tryz.ntmps87
  go_wp2_with fail
  with_reducible refine Calls.mono CC.out ?_
  rintro e w1 ⟨v, rfl, o1, b1⟩
  clear CC
  obtain ⟨a1, c1, hv, hc1, pl1⟩ : ∃ a1 c1, v = .slice a1 n c1 ∧ n ≤ c1 ∧ (n = 0 ∨ ∃ g, a1 = some ⟨g, 0, none⟩ ∧ w.heap.size ≤ g) := by
    obtain ⟨a1, c1, h1, h2, h3, h4⟩ := o1.ein
    rw [← naH.out] at h1 h2
    refine ⟨a1, c1, h1, h2, ?_⟩
    rcases h4 with h4 | ⟨g, h4, h5, _⟩
    · subst h4
      exact Or.inl (by rw [naH.out, h3.emp]; rfl)
    · exact Or.inr ⟨g, h4, h5⟩
  subst hv
  have o1H : Hid (T8.OE w1 w.heap.size (.slice a1 n c1) a ∧ Below w.heap.size w w1) := ⟨o1, b1⟩
  clear o1 b1
  go_wp2_with fail
  go_loopw [12] (fun v12 wr => ∃ k : Nat, v12 = .int .i64 (k : Int) ∧ k ≤ n ∧ Hid (T8.OE wr w.heap.size (.slice a1 n c1) (mixT a b k) ∧ Below w.heap.size w wr)) (fun v12 _ => n - (intOf v12).toNat)
  case atStart => exact ⟨0, rfl, Nat.zero_le _, by rw [mix_zero]; exact o1H⟩
  case round =>
    clear o1H
    obtain ⟨k, rfl, hkn, hO⟩ := hrel
    have k0 : (0 : Int) ≤ (k : Int) := by omega
    by_cases hk : k < n
    · have kI : (k : Int) < (n : Int) := by omega
      have kw : IntKind.i64.wrap ((k : Int) + 1) = ((k + 1 : Nat) : Int) := IntWalk.i64_in _ (by omega)
      rcases pl1 with pl1 | ⟨g, rfl, hg⟩
      · omega
      have hyr := hyH.out.below hO.out.2 (Nat.le_refl _)
      obtain ⟨yb, yo, tb, eb, rfl, _, cb⟩ := hyr.get (k := k) (by rw [← hlH.out, ← naH.out]; exact hk)
      obtain ⟨ta, ea⟩ : ∃ ta, a[k]? = some ta := ⟨_, List.getElem?_eq_getElem (by rw [← naH.out]; exact hk)⟩
      have em : (mixT a b k)[k]? = some ta := by rw [mix_get hlH.out (by rw [← naH.out]; omega), if_neg (by omega)]; exact ea
      have ca := hO.out.1.cell em
      have fa := hO.out.1.fz k
      unfold T8.vl at ca cb
      by_cases hq : ta = tb
      · subst hq
        have NX : Hid (T8.OE wr w.heap.size (.slice (some ⟨g, 0, none⟩) n c1) (mixT a b (k + 1)) ∧ Below w.heap.size w wr) := by
          rw [mix_same hlH.out ea eb]; exact hO
        clear em ea eb hyr hO hyH
        go_wp2_with fail
        exact ⟨⟨k + 1, by first | rfl | (rw [kw]), hk, NX⟩, by first | (simp [intOf]; done) | (simp [intOf]; omega)⟩
      · have NX : Hid (T8.OE (wr.setCell ⟨g, k, none⟩ (.int .i8 0)) w.heap.size (.slice (some ⟨g, 0, none⟩) n c1) (mixT a b (k + 1)) ∧ Below w.heap.size w (wr.setCell ⟨g, k, none⟩ (.int .i8 0))) := by
          rw [mix_next hlH.out ea eb]
          have e0 : mT ta tb = 0 := by unfold mT; rw [if_neg hq]
          rw [e0]
          exact ⟨(hO.out.1.set k 0).1, hO.out.2.setCell (p := ⟨g, k, none⟩) hg _⟩
        clear em ea eb hyr hO hyH
        go_wp2_with fail
        exact ⟨⟨k + 1, by first | rfl | (rw [kw]), hk, NX⟩, by first | (simp [intOf]; done) | (simp [intOf]; omega)⟩
    · have kI : ¬ (k : Int) < (n : Int) := by omega
      have fin : Hid (T8.OE wr w.heap.size (.slice a1 n c1) (sameT a b) ∧ Below w.heap.size w wr) := by
        have e : k = a.length := by rw [← naH.out]; omega
        have := hO.out
        rw [e, mix_end hlH.out] at this
        exact this
      clear hO hyH
      go_wp2_with fail
      go_ret
      exact ⟨_, rfl, fin.out⟩
end Go.Proofs.YtdfnomglkibfbaaGreatDoor.Vf

namespace Go.Proofs.YtdfnomglkibfbaaGreatDoor.Vf
open Go.RowKit Go.Maps
set_option linter.unusedVariables false
set_option linter.unusedSimpArgs false
set_option maxRecDepth 100000
theorem Lkd.kept {w w' : World} {mb : Nat} {g : Option Nat} {o : Option (List Int)} {v : Value} {b : Bool} (h : Lkd w mb g o v b) (hg : w.grownBy w' (some mb)) : Lkd w' mb g o v b := by
  unfold Lkd at *
  cases o with
  | none => exact h
  | some s =>
    obtain ⟨h1, a, cc, h2, h3, h4⟩ := h
    exact ⟨h1, a, cc, h2, h3, h4.kept hg.size (fun b hb hn _ => hg.block b hb (fun e => by injection e with e; exact hn e)) (Or.inl rfl)⟩
theorem take_tr {w : World} {mb c : Nat} {m : MpT} {g : Option Nat} (h : MT w mb m c g) (k : Nat) (hk : k ≤ 4611686018427387904) : Calls Tryz.prog 83 #[.map (some mb), .int .i64 (k : Int)] w fun e w' => ∃ v b, e = .returned (.tuple #[v, .bool b]) ∧ Lkd w' mb g (m k) v b ∧ (∃ c', c' ≤ c ∧ MT w' mb (dropT m k) c' g) ∧ w.grownBy w' (some mb) := by
  obtain ⟨v, b, r, l⟩ := h.look k hk
  obtain ⟨w', r2, m2, g2, z2⟩ := h.del k hk 0
  have fin : Hid (Lkd w' mb g (m k) v b ∧ (∃ c', c' ≤ c ∧ MT w' mb (dropT m k) c' g) ∧ w.grownBy w' (some mb)) := ⟨l.kept g2, m2, g2⟩
  clear m2 g2 z2 h l
  go_enter Tryz.func83, Tryz.ntmps83
  go_wp2
  go_returns
  exact ⟨_, _, rfl, fin.out⟩
theorem bring_put (m : MpT) (k : Nat) (s : List Int) : bringT m k s = putT m k (meetT (m k) s) := by
  funext j
  unfold bringT putT
  rfl
theorem bne_dec (t k : Int) : (t != k) = !decide (t = k) := by by_cases h : t = k <;> simp [h]
set_option maxHeartbeats 4000000 in
theorem bring_tr {w : World} {mb c : Nat} {m : MpT} {g : Option Nat} (h : MT w mb m c g) (hmb : some mb ≠ g) (hg : ∀ x, g = some x → x < w.heap.size) (k : Nat) (hk : k ≤ 4611686018427387904) {a : Option Addr} {s : List Int} {cc : Nat} (hcc : s.length ≤ cc) (hs : Sit w mb g a s) (hm : ∀ o, m k = some o → o.length = s.length) (hn : s.length ≤ 65536) (hc : c < 4611686018427387904) :
    Calls Tryz.prog 86 #[.map (some mb), .int .i64 (k : Int), .slice a s.length cc, .func (.func 87) #[] #[]] w fun e w' => e = .returned (.tuple #[]) ∧ (∃ c', c' ≤ c + 1 ∧ MT w' mb (bringT m k s) c' g) ∧ w.grownBy w' (some mb) := by
  obtain ⟨v, b, r, l⟩ := h.look k hk
  rw [bring_put]
  cases q : m k with
  | none =>
    rw [q] at l
    obtain ⟨rfl, rfl⟩ := l
    obtain ⟨w', r2, m2, g2, z2⟩ := h.put k hk cc hcc hs hc
    have fin : Hid ((∃ c', c' ≤ c + 1 ∧ MT w' mb (putT m k (meetT none s)) c' g) ∧ w.grownBy w' (some mb)) := ⟨m2, g2⟩
    clear m2 g2 z2 h hs hm q
    generalize s.length = n at *
    go_enter Tryz.func86, Tryz.ntmps86
    go_wp2
    go_returns
    exact ⟨rfl, fin.out⟩
  | some o =>
    rw [q] at l
    obtain ⟨rfl, a2, c2, rfl, l2, l3⟩ := l
    have eo := hm o q
    have cS0 := sameTruths_any o s eo (by omega) a2 a c2 cc w l3.2.1 hs.2.1
    have nx : ∀ v w1, T8.OE w1 w.heap.size v (sameT o s) → Below w.heap.size w w1 → ∃ w', (Instr.mapUpdate 138 (.map (some mb)) (.int .i64 (k : Int)) v).run Tryz.prog w1 = .ok () w' ∧ Hid ((∃ c', c' ≤ c + 1 ∧ MT w' mb (putT m k (meetT (some o) s)) c' g) ∧ w.grownBy w' (some mb)) := fun v w1 ho hb => by
      obtain ⟨a1, c1, h1, h2, h3, h4⟩ := ho.ein
      have hlt := h.lt
      obtain ⟨w', r2, m2, g2, z2⟩ := (h.below hmb hb).put k hk (a := a1) (s := sameT o s) c1 h2 ⟨by
        rcases h4 with h4 | ⟨x, h4, _⟩
        · exact Or.inl h4
        · exact Or.inr ⟨x, 0, h4⟩, h3, fun x hx => by
        rcases h4 with h4 | ⟨y, h4, h5, h6⟩
        · rw [h4] at hx; cases hx
        · rw [h4] at hx
          injection hx with hx
          subst hx
          refine ⟨?_, ?_, h6⟩
          · show y ≠ mb; omega
          · intro e
            have := hg y e.symm
            omega⟩ hc
      rw [← h1] at r2
      exact ⟨w', r2, m2, ⟨g2.os.trans hb.os, g2.tape.trans hb.tape, g2.output.trans hb.output, Nat.le_trans hb.size g2.size, fun i hi hne => (g2.block i (Nat.lt_of_lt_of_le hi hb.size) hne).trans (hb.block i hi)⟩⟩
    have nxH : Hid _ := nx
    rw [eo] at r cS0
    have cS : Hid (Calls Tryz.prog 87 #[.slice a2 s.length c2, .slice a s.length cc] w fun e w' => ∃ v, e = .returned v ∧ T8.OE w' w.heap.size v (sameT o s) ∧ Below w.heap.size w w') := cS0
    clear cS0 nx h hs hm q l3 l2 eo
    generalize s.length = n at *
    go_enter Tryz.func86, Tryz.ntmps86
    go_wp2_with fail
    with_reducible refine Calls.mono cS.out ?_
    rintro e w1 ⟨v, rfl, o1, b1⟩
    obtain ⟨w2, r2, fin⟩ := nxH.out v w1 o1 b1
    clear cS nxH o1 b1 r
    go_wp2_with fail
    go_returns
    exact ⟨rfl, fin.out⟩
theorem leads_any {s : List Int} (c : Nat) (hs : (c = 10 ∨ c = 11) → 1 ≤ s.length) (hn : s.length ≤ 65536) (a : Option Addr) (cc : Nat) (w : World) (h : T8.In w a s) : Calls Tryz.prog 85 #[.slice a s.length cc, .int .u8 c] w fun e w' => e = .returned (.tuple #[.bool (leadJ c s), .bool (leadG c s)]) ∧ w' = w := by
  by_cases c0 : c = 10 ∨ c = 11
  · have h1 := hs c0
    obtain ⟨b, off, t, et, rfl, _, cb⟩ := h.get (k := s.length - 1) (by omega)
    have e : s.getD (s.length - 1) 0 = t := by rw [List.getD_eq_getElem?_getD, et]; rfl
    unfold T8.vl at cb
    obtain ⟨m, hm⟩ : ∃ m, s.length = m + 1 := ⟨s.length - 1, by omega⟩
    have hw : IntKind.i64.wrap (((m + 1 : Nat) : Int) - 1) = (m : Int) := by rw [show ((m + 1 : Nat) : Int) - 1 = (m : Int) by omega]; exact IntWalk.i64_in _ (by omega)
    have m0 : (0 : Int) ≤ (m : Int) := by omega
    have m1 : (m : Int) < ((m + 1 : Nat) : Int) := by omega
    unfold leadJ leadG
    rw [e]
    rw [hm] at cb ⊢
    simp only [Nat.add_sub_cancel] at cb
    clear e et h hs h1
    rcases c0 with rfl | rfl
    · go_enter Tryz.func85, Tryz.ntmps85
      go_wp2
      go_returns
      exact ⟨by simp [bne_dec], rfl⟩
    · go_enter Tryz.func85, Tryz.ntmps85
      go_wp2
      go_returns
      exact ⟨by simp [bne_dec], rfl⟩
  · have q1 : ((c : Int) == 10) = false := by rw [beq_eq_false_iff_ne]; omega
    have q2 : ((c : Int) == 11) = false := by rw [beq_eq_false_iff_ne]; omega
    have e1 : leadJ c s = false := by
      unfold leadJ
      rw [beq_eq_false_iff_ne.2 (fun q => c0 (Or.inl q)), beq_eq_false_iff_ne.2 (fun q => c0 (Or.inr q))]; rfl
    have e2 : leadG c s = true := by
      unfold leadG
      rw [beq_eq_false_iff_ne.2 (fun q => c0 (Or.inl q)), beq_eq_false_iff_ne.2 (fun q => c0 (Or.inr q))]; rfl
    rw [e1, e2]
    have n1 : ¬ (c : Int) = 10 := by omega
    have n2 : ¬ (c : Int) = 11 := by omega
    clear hs h e1 e2 c0
    go_enter Tryz.func85, Tryz.ntmps85
    go_wp2
    go_returns
    exact ⟨rfl, rfl⟩
end Go.Proofs.YtdfnomglkibfbaaGreatDoor.Vf

namespace Go.Proofs.YtdfnomglkibfbaaGreatDoor.Vf
open Go.RowKit
set_option linter.unusedVariables false
set_option linter.unusedSimpArgs false
set_option maxRecDepth 100000
theorem step_append_runG {P : Program} {ops : Array Oper} {o : Oper} {a : Act} {w : World} {K : Act → World → Prop} {Q : Exit → Act → World → Prop} {E : Prop}
    (hg : o.guard = none) (s x : Operand) (t : TypeId) (hop : o.op = Op.call { callee := Callee.builtin Builtin.append, args := #[s, x], argTypes := #[t, t] })
    (v y v' : Value) (w' : World) (hs : a.eval s = v) (hx : a.eval x = y) (hr : (Builtin.append_ #[t, t] o.type #[v, y]).run P w = .ok v' w') (hK : K (a.put o.dst v') w') :
    if Region.wanted o (yielded ops a.tmps) = true then Oper.wp P o a w K Q else E := by
  have hw : Region.wanted o (yielded ops a.tmps) = true := by simp [Region.wanted, hg]
  rw [if_pos hw]
  unfold Oper.wp execOp
  simp only [hop, resolve, invoke, builtin, Sem.run_bind, Sem.run_pure, Result.andThen_ok, List.map_toArray, List.map_cons, List.map_nil, hs, hx, hr]
  exact hK
theorem append_run (s x : Operand) {P : Program} {ops : Array Oper} {rest : List Oper} {o : Oper} {a : Act} {Q : Exit → Act → World → Prop} {w : World} (hgd : o.guard = none) (t : TypeId)
    (ho : o.op = .call { callee := .builtin .append, args := #[s, x], argTypes := #[t, t] }) (v y v' : Value) (w' : World) (hs : a.eval s = v) (hx : a.eval x = y) (hr : (Builtin.append_ #[t, t] o.type #[v, y]).run P w = .ok v' w')
    (h : wpList P ops Q rest (a.put o.dst v') w') : wpList P ops Q (o :: rest) a w := wpList_append_runG hgd s x t ho v y v' w' hs hx hr h
set_option maxHeartbeats 8000000 in
theorem cert_1 (s : List Int) (m : Nat) (hm : s.length = m + 0) (hn : s.length ≤ 65536) (tr : ∀ x ∈ s, Tr x) (b off cc : Nat) (hcc : s.length ≤ cc) (w : World) (hR : RT w) (hI : T8.In w (some ⟨b, off, none⟩) s) : Calls Tryz.prog 84 #[.slice (some ⟨b, off, none⟩) s.length cc, .int .u8 1] w fun e w' => ∃ v, e = .returned v ∧ T8.OE w' w.heap.size v (certP 1 s) ∧ Below w.heap.size w w' := by
  have t1 : w.cell? ⟨1, 7, none⟩ = some (.int .i64 0) := hR 1 (by omega) 1 (by omega)
  have hl := hR.lt
  have CC : Hid (∀ W, Below w.heap.size w W → Calls Tryz.prog 118 #[.slice (some ⟨b, off, none⟩) m cc] W fun e w' => ∃ v, e = .returned v ∧ Hid (T8.OE w' w.heap.size v (s.take m)) ∧ Below w.heap.size w w') := fun W hW => by
    have e : (s.take m).length = m := by rw [List.length_take]; omega
    have h := T8.clone_any (some ⟨b, off, none⟩) cc (s.take m) W ((hI.below hW (Nat.le_refl _)).take m) (by omega)
    rw [e] at h
    exact h.mono (fun e w' ⟨v, h1, h2, h3⟩ => ⟨v, h1, h2.mono hW.size, hW.trans (h3.mono hW.size)⟩)
  have EQ : Hid (s.take m ++ [1] = certP 1 s) := by
    unfold certP
    rw [if_neg (by decide), show s.length - (rowF 1).tk = m by rw [show (rowF 1).tk = 0 from rfl]; omega]
    congr 1
    all_goals first | rfl | simp [topT, minT, maxT, Int.min_def, Int.max_def]
  obtain ⟨n, hnn⟩ : ∃ n, s.length = n := ⟨_, rfl⟩
  rw [hnn] at hm hn hcc ⊢
  have hw : IntKind.i64.wrap ((n : Int) - 0) = (m : Int) := by rw [hm, show ((m + 0 : Nat) : Int) - 0 = (m : Int) by omega]; exact IntWalk.i64_in _ (by omega)
  have hw0 : IntKind.i64.wrap (n : Int) = (m : Int) := by rw [hm]; exact IntWalk.i64_in _ (by omega)
  have m0 : (0 : Int) ≤ (m : Int) := by omega
  have mn : (m : Int) ≤ (n : Int) := by omega
  have mc : (m : Int) ≤ (cc : Int) := by omega
  have nc : (n : Int) ≤ (cc : Int) := by omega
  have mnN : m ≤ n := by omega
  have mcN : m ≤ cc := by omega
  have nmN : n - m = 0 := by omega
  have lm : Hid ((s.take m).length = m ∧ m ≤ 65536) := (by rw [List.length_take]; omega : (s.take m).length = m ∧ m ≤ 65536)
  clear hR hI tr hnn hcc
  clear hm
  by_cases cm : cc = m
  · obtain rfl : m = cc := cm.symm
    go_enter Tryz.func84, Tryz.ntmps84
    go_wp2_with fail
    have SS0 : Below w.heap.size w w.drew := (Below.refl _ w).drew
    go_region_held3 (fun W => Below w.heap.size w W) (first | with_reducible assumption)
      (first
        | (go_at_call 118; (with_reducible refine Calls.mono (CC.out _ (by with_reducible assumption)) ?_); rintro e w1 ⟨v, rfl, ov, bv⟩))
    obtain ⟨v', w2, hr, ho, hg, hb, _⟩ := T8.app_one w1 w.heap.size v (s.take m) (ov.out) (by have := bv.size; simp; omega) (1) 139 (by rw [lm.1]; have := lm.2; omega)
    have fin : Hid (T8.OE w2 w.heap.size v' (certP 1 s) ∧ Below w.heap.size w w2) := by
      rw [← EQ.out]; exact ⟨ho, (bv).trans hb⟩
    have hrH : Hid (∀ W' y', W' = w1.alloc (.cells #[T8.vl (1)] 262) → y' = Value.slice (some ⟨w1.heap.size, 0, none⟩) 1 1 → (Builtin.append_ #[139, 139] 139 #[v, y']).run Tryz.prog W' = .ok v' w2) := fun W' y' e1 e2 => by rw [e1, e2]; exact hr
    unfold T8.vl at hrH
    clear CC ov hr ho hg hb
    go_wp2_with (at_builtin; refine append_run (.tmp 29) (.tmp 30) (by rfl) _ (by rfl) _ _ _ _ (by rfl) (by rfl) (hrH.out _ _ (by first | rfl | simp) (by first | rfl | simp)) ?_)
    go_ret
    exact ⟨_, rfl, fin.out⟩
  · skip
    go_enter Tryz.func84, Tryz.ntmps84
    go_wp2_with fail
    have SS0 : Below w.heap.size w w.drew := (Below.refl _ w).drew
    go_region_held3 (fun W => Below w.heap.size w W) (first | with_reducible assumption)
      (first
        | (go_at_call 118; (with_reducible refine Calls.mono (CC.out _ (by with_reducible assumption)) ?_); rintro e w1 ⟨v, rfl, ov, bv⟩))
    obtain ⟨v', w2, hr, ho, hg, hb, _⟩ := T8.app_one w1 w.heap.size v (s.take m) (ov.out) (by have := bv.size; simp; omega) (1) 139 (by rw [lm.1]; have := lm.2; omega)
    have fin : Hid (T8.OE w2 w.heap.size v' (certP 1 s) ∧ Below w.heap.size w w2) := by
      rw [← EQ.out]; exact ⟨ho, (bv).trans hb⟩
    have hrH : Hid (∀ W' y', W' = w1.alloc (.cells #[T8.vl (1)] 262) → y' = Value.slice (some ⟨w1.heap.size, 0, none⟩) 1 1 → (Builtin.append_ #[139, 139] 139 #[v, y']).run Tryz.prog W' = .ok v' w2) := fun W' y' e1 e2 => by rw [e1, e2]; exact hr
    unfold T8.vl at hrH
    clear CC ov hr ho hg hb
    go_wp2_with (at_builtin; refine append_run (.tmp 29) (.tmp 30) (by rfl) _ (by rfl) _ _ _ _ (by rfl) (by rfl) (hrH.out _ _ (by first | rfl | simp) (by first | rfl | simp)) ?_)
    go_ret
    exact ⟨_, rfl, fin.out⟩
set_option maxHeartbeats 8000000 in
theorem cert_2 (s : List Int) (m : Nat) (hm : s.length = m + 0) (hn : s.length ≤ 65536) (tr : ∀ x ∈ s, Tr x) (b off cc : Nat) (hcc : s.length ≤ cc) (w : World) (hR : RT w) (hI : T8.In w (some ⟨b, off, none⟩) s) : Calls Tryz.prog 84 #[.slice (some ⟨b, off, none⟩) s.length cc, .int .u8 2] w fun e w' => ∃ v, e = .returned v ∧ T8.OE w' w.heap.size v (certP 2 s) ∧ Below w.heap.size w w' := by
  have t1 : w.cell? ⟨1, 13, none⟩ = some (.int .i64 0) := hR 2 (by omega) 1 (by omega)
  have hl := hR.lt
  have CC : Hid (∀ W, Below w.heap.size w W → Calls Tryz.prog 118 #[.slice (some ⟨b, off, none⟩) m cc] W fun e w' => ∃ v, e = .returned v ∧ Hid (T8.OE w' w.heap.size v (s.take m)) ∧ Below w.heap.size w w') := fun W hW => by
    have e : (s.take m).length = m := by rw [List.length_take]; omega
    have h := T8.clone_any (some ⟨b, off, none⟩) cc (s.take m) W ((hI.below hW (Nat.le_refl _)).take m) (by omega)
    rw [e] at h
    exact h.mono (fun e w' ⟨v, h1, h2, h3⟩ => ⟨v, h1, h2.mono hW.size, hW.trans (h3.mono hW.size)⟩)
  have EQ : Hid (s.take m ++ [-1] = certP 2 s) := by
    unfold certP
    rw [if_neg (by decide), show s.length - (rowF 2).tk = m by rw [show (rowF 2).tk = 0 from rfl]; omega]
    congr 1
    all_goals first | rfl | simp [topT, minT, maxT, Int.min_def, Int.max_def]
  obtain ⟨n, hnn⟩ : ∃ n, s.length = n := ⟨_, rfl⟩
  rw [hnn] at hm hn hcc ⊢
  have hw : IntKind.i64.wrap ((n : Int) - 0) = (m : Int) := by rw [hm, show ((m + 0 : Nat) : Int) - 0 = (m : Int) by omega]; exact IntWalk.i64_in _ (by omega)
  have hw0 : IntKind.i64.wrap (n : Int) = (m : Int) := by rw [hm]; exact IntWalk.i64_in _ (by omega)
  have m0 : (0 : Int) ≤ (m : Int) := by omega
  have mn : (m : Int) ≤ (n : Int) := by omega
  have mc : (m : Int) ≤ (cc : Int) := by omega
  have nc : (n : Int) ≤ (cc : Int) := by omega
  have mnN : m ≤ n := by omega
  have mcN : m ≤ cc := by omega
  have nmN : n - m = 0 := by omega
  have lm : Hid ((s.take m).length = m ∧ m ≤ 65536) := (by rw [List.length_take]; omega : (s.take m).length = m ∧ m ≤ 65536)
  clear hR hI tr hnn hcc
  clear hm
  by_cases cm : cc = m
  · obtain rfl : m = cc := cm.symm
    go_enter Tryz.func84, Tryz.ntmps84
    go_wp2_with fail
    have SS0 : Below w.heap.size w w.drew := (Below.refl _ w).drew
    go_region_held3 (fun W => Below w.heap.size w W) (first | with_reducible assumption)
      (first
        | (go_at_call 118; (with_reducible refine Calls.mono (CC.out _ (by with_reducible assumption)) ?_); rintro e w1 ⟨v, rfl, ov, bv⟩))
    obtain ⟨v', w2, hr, ho, hg, hb, _⟩ := T8.app_one w1 w.heap.size v (s.take m) (ov.out) (by have := bv.size; simp; omega) (-1) 139 (by rw [lm.1]; have := lm.2; omega)
    have fin : Hid (T8.OE w2 w.heap.size v' (certP 2 s) ∧ Below w.heap.size w w2) := by
      rw [← EQ.out]; exact ⟨ho, (bv).trans hb⟩
    have hrH : Hid (∀ W' y', W' = w1.alloc (.cells #[T8.vl (-1)] 262) → y' = Value.slice (some ⟨w1.heap.size, 0, none⟩) 1 1 → (Builtin.append_ #[139, 139] 139 #[v, y']).run Tryz.prog W' = .ok v' w2) := fun W' y' e1 e2 => by rw [e1, e2]; exact hr
    unfold T8.vl at hrH
    clear CC ov hr ho hg hb
    go_wp2_with (at_builtin; refine append_run (.tmp 34) (.tmp 35) (by rfl) _ (by rfl) _ _ _ _ (by rfl) (by rfl) (hrH.out _ _ (by first | rfl | simp) (by first | rfl | simp)) ?_)
    go_ret
    exact ⟨_, rfl, fin.out⟩
  · skip
    go_enter Tryz.func84, Tryz.ntmps84
    go_wp2_with fail
    have SS0 : Below w.heap.size w w.drew := (Below.refl _ w).drew
    go_region_held3 (fun W => Below w.heap.size w W) (first | with_reducible assumption)
      (first
        | (go_at_call 118; (with_reducible refine Calls.mono (CC.out _ (by with_reducible assumption)) ?_); rintro e w1 ⟨v, rfl, ov, bv⟩))
    obtain ⟨v', w2, hr, ho, hg, hb, _⟩ := T8.app_one w1 w.heap.size v (s.take m) (ov.out) (by have := bv.size; simp; omega) (-1) 139 (by rw [lm.1]; have := lm.2; omega)
    have fin : Hid (T8.OE w2 w.heap.size v' (certP 2 s) ∧ Below w.heap.size w w2) := by
      rw [← EQ.out]; exact ⟨ho, (bv).trans hb⟩
    have hrH : Hid (∀ W' y', W' = w1.alloc (.cells #[T8.vl (-1)] 262) → y' = Value.slice (some ⟨w1.heap.size, 0, none⟩) 1 1 → (Builtin.append_ #[139, 139] 139 #[v, y']).run Tryz.prog W' = .ok v' w2) := fun W' y' e1 e2 => by rw [e1, e2]; exact hr
    unfold T8.vl at hrH
    clear CC ov hr ho hg hb
    go_wp2_with (at_builtin; refine append_run (.tmp 34) (.tmp 35) (by rfl) _ (by rfl) _ _ _ _ (by rfl) (by rfl) (hrH.out _ _ (by first | rfl | simp) (by first | rfl | simp)) ?_)
    go_ret
    exact ⟨_, rfl, fin.out⟩
set_option maxHeartbeats 8000000 in
theorem cert_3 (s : List Int) (m : Nat) (hm : s.length = m + 0) (hn : s.length ≤ 65536) (tr : ∀ x ∈ s, Tr x) (b off cc : Nat) (hcc : s.length ≤ cc) (w : World) (hR : RT w) (hI : T8.In w (some ⟨b, off, none⟩) s) : Calls Tryz.prog 84 #[.slice (some ⟨b, off, none⟩) s.length cc, .int .u8 3] w fun e w' => ∃ v, e = .returned v ∧ T8.OE w' w.heap.size v (certP 3 s) ∧ Below w.heap.size w w' := by
  have t1 : w.cell? ⟨1, 19, none⟩ = some (.int .i64 0) := hR 3 (by omega) 1 (by omega)
  have hl := hR.lt
  have CC : Hid (∀ W, Below w.heap.size w W → Calls Tryz.prog 118 #[.slice (some ⟨b, off, none⟩) m cc] W fun e w' => ∃ v, e = .returned v ∧ Hid (T8.OE w' w.heap.size v (s.take m)) ∧ Below w.heap.size w w') := fun W hW => by
    have e : (s.take m).length = m := by rw [List.length_take]; omega
    have h := T8.clone_any (some ⟨b, off, none⟩) cc (s.take m) W ((hI.below hW (Nat.le_refl _)).take m) (by omega)
    rw [e] at h
    exact h.mono (fun e w' ⟨v, h1, h2, h3⟩ => ⟨v, h1, h2.mono hW.size, hW.trans (h3.mono hW.size)⟩)
  have EQ : Hid (s.take m ++ [0] = certP 3 s) := by
    unfold certP
    rw [if_neg (by decide), show s.length - (rowF 3).tk = m by rw [show (rowF 3).tk = 0 from rfl]; omega]
    congr 1
    all_goals first | rfl | simp [topT, minT, maxT, Int.min_def, Int.max_def]
  obtain ⟨n, hnn⟩ : ∃ n, s.length = n := ⟨_, rfl⟩
  rw [hnn] at hm hn hcc ⊢
  have hw : IntKind.i64.wrap ((n : Int) - 0) = (m : Int) := by rw [hm, show ((m + 0 : Nat) : Int) - 0 = (m : Int) by omega]; exact IntWalk.i64_in _ (by omega)
  have hw0 : IntKind.i64.wrap (n : Int) = (m : Int) := by rw [hm]; exact IntWalk.i64_in _ (by omega)
  have m0 : (0 : Int) ≤ (m : Int) := by omega
  have mn : (m : Int) ≤ (n : Int) := by omega
  have mc : (m : Int) ≤ (cc : Int) := by omega
  have nc : (n : Int) ≤ (cc : Int) := by omega
  have mnN : m ≤ n := by omega
  have mcN : m ≤ cc := by omega
  have nmN : n - m = 0 := by omega
  have lm : Hid ((s.take m).length = m ∧ m ≤ 65536) := (by rw [List.length_take]; omega : (s.take m).length = m ∧ m ≤ 65536)
  clear hR hI tr hnn hcc
  clear hm
  by_cases cm : cc = m
  · obtain rfl : m = cc := cm.symm
    go_enter Tryz.func84, Tryz.ntmps84
    go_wp2_with fail
    have SS0 : Below w.heap.size w w.drew := (Below.refl _ w).drew
    go_region_held3 (fun W => Below w.heap.size w W) (first | with_reducible assumption)
      (first
        | (go_at_call 118; (with_reducible refine Calls.mono (CC.out _ (by with_reducible assumption)) ?_); rintro e w1 ⟨v, rfl, ov, bv⟩))
    obtain ⟨v', w2, hr, ho, hg, hb, _⟩ := T8.app_one w1 w.heap.size v (s.take m) (ov.out) (by have := bv.size; simp; omega) (0) 139 (by rw [lm.1]; have := lm.2; omega)
    have fin : Hid (T8.OE w2 w.heap.size v' (certP 3 s) ∧ Below w.heap.size w w2) := by
      rw [← EQ.out]; exact ⟨ho, (bv).trans hb⟩
    have hrH : Hid (∀ W' y', W' = w1.alloc (.cells #[T8.vl (0)] 262) → y' = Value.slice (some ⟨w1.heap.size, 0, none⟩) 1 1 → (Builtin.append_ #[139, 139] 139 #[v, y']).run Tryz.prog W' = .ok v' w2) := fun W' y' e1 e2 => by rw [e1, e2]; exact hr
    unfold T8.vl at hrH
    clear CC ov hr ho hg hb
    go_wp2_with (at_builtin; refine append_run (.tmp 79) (.tmp 80) (by rfl) _ (by rfl) _ _ _ _ (by rfl) (by rfl) (hrH.out _ _ (by first | rfl | simp) (by first | rfl | simp)) ?_)
    go_ret
    exact ⟨_, rfl, fin.out⟩
  · skip
    go_enter Tryz.func84, Tryz.ntmps84
    go_wp2_with fail
    have SS0 : Below w.heap.size w w.drew := (Below.refl _ w).drew
    go_region_held3 (fun W => Below w.heap.size w W) (first | with_reducible assumption)
      (first
        | (go_at_call 118; (with_reducible refine Calls.mono (CC.out _ (by with_reducible assumption)) ?_); rintro e w1 ⟨v, rfl, ov, bv⟩))
    obtain ⟨v', w2, hr, ho, hg, hb, _⟩ := T8.app_one w1 w.heap.size v (s.take m) (ov.out) (by have := bv.size; simp; omega) (0) 139 (by rw [lm.1]; have := lm.2; omega)
    have fin : Hid (T8.OE w2 w.heap.size v' (certP 3 s) ∧ Below w.heap.size w w2) := by
      rw [← EQ.out]; exact ⟨ho, (bv).trans hb⟩
    have hrH : Hid (∀ W' y', W' = w1.alloc (.cells #[T8.vl (0)] 262) → y' = Value.slice (some ⟨w1.heap.size, 0, none⟩) 1 1 → (Builtin.append_ #[139, 139] 139 #[v, y']).run Tryz.prog W' = .ok v' w2) := fun W' y' e1 e2 => by rw [e1, e2]; exact hr
    unfold T8.vl at hrH
    clear CC ov hr ho hg hb
    go_wp2_with (at_builtin; refine append_run (.tmp 79) (.tmp 80) (by rfl) _ (by rfl) _ _ _ _ (by rfl) (by rfl) (hrH.out _ _ (by first | rfl | simp) (by first | rfl | simp)) ?_)
    go_ret
    exact ⟨_, rfl, fin.out⟩
set_option maxHeartbeats 8000000 in
theorem cert_4 (s : List Int) (m : Nat) (hm : s.length = m + 0) (hn : s.length ≤ 65536) (tr : ∀ x ∈ s, Tr x) (b off cc : Nat) (hcc : s.length ≤ cc) (w : World) (hR : RT w) (hI : T8.In w (some ⟨b, off, none⟩) s) : Calls Tryz.prog 84 #[.slice (some ⟨b, off, none⟩) s.length cc, .int .u8 4] w fun e w' => ∃ v, e = .returned v ∧ T8.OE w' w.heap.size v (certP 4 s) ∧ Below w.heap.size w w' := by
  have t1 : w.cell? ⟨1, 25, none⟩ = some (.int .i64 0) := hR 4 (by omega) 1 (by omega)
  have hl := hR.lt
  have CC : Hid (∀ W, Below w.heap.size w W → Calls Tryz.prog 118 #[.slice (some ⟨b, off, none⟩) m cc] W fun e w' => ∃ v, e = .returned v ∧ Hid (T8.OE w' w.heap.size v (s.take m)) ∧ Below w.heap.size w w') := fun W hW => by
    have e : (s.take m).length = m := by rw [List.length_take]; omega
    have h := T8.clone_any (some ⟨b, off, none⟩) cc (s.take m) W ((hI.below hW (Nat.le_refl _)).take m) (by omega)
    rw [e] at h
    exact h.mono (fun e w' ⟨v, h1, h2, h3⟩ => ⟨v, h1, h2.mono hW.size, hW.trans (h3.mono hW.size)⟩)
  have EQ : Hid (s.take m ++ [0] = certP 4 s) := by
    unfold certP
    rw [if_neg (by decide), show s.length - (rowF 4).tk = m by rw [show (rowF 4).tk = 0 from rfl]; omega]
    congr 1
    all_goals first | rfl | simp [topT, minT, maxT, Int.min_def, Int.max_def]
  obtain ⟨n, hnn⟩ : ∃ n, s.length = n := ⟨_, rfl⟩
  rw [hnn] at hm hn hcc ⊢
  have hw : IntKind.i64.wrap ((n : Int) - 0) = (m : Int) := by rw [hm, show ((m + 0 : Nat) : Int) - 0 = (m : Int) by omega]; exact IntWalk.i64_in _ (by omega)
  have hw0 : IntKind.i64.wrap (n : Int) = (m : Int) := by rw [hm]; exact IntWalk.i64_in _ (by omega)
  have m0 : (0 : Int) ≤ (m : Int) := by omega
  have mn : (m : Int) ≤ (n : Int) := by omega
  have mc : (m : Int) ≤ (cc : Int) := by omega
  have nc : (n : Int) ≤ (cc : Int) := by omega
  have mnN : m ≤ n := by omega
  have mcN : m ≤ cc := by omega
  have nmN : n - m = 0 := by omega
  have lm : Hid ((s.take m).length = m ∧ m ≤ 65536) := (by rw [List.length_take]; omega : (s.take m).length = m ∧ m ≤ 65536)
  clear hR hI tr hnn hcc
  clear hm
  by_cases cm : cc = m
  · obtain rfl : m = cc := cm.symm
    go_enter Tryz.func84, Tryz.ntmps84
    go_wp2_with fail
    have SS0 : Below w.heap.size w w.drew := (Below.refl _ w).drew
    go_region_held3 (fun W => Below w.heap.size w W) (first | with_reducible assumption)
      (first
        | (go_at_call 118; (with_reducible refine Calls.mono (CC.out _ (by with_reducible assumption)) ?_); rintro e w1 ⟨v, rfl, ov, bv⟩))
    obtain ⟨v', w2, hr, ho, hg, hb, _⟩ := T8.app_one w1 w.heap.size v (s.take m) (ov.out) (by have := bv.size; simp; omega) (0) 139 (by rw [lm.1]; have := lm.2; omega)
    have fin : Hid (T8.OE w2 w.heap.size v' (certP 4 s) ∧ Below w.heap.size w w2) := by
      rw [← EQ.out]; exact ⟨ho, (bv).trans hb⟩
    have hrH : Hid (∀ W' y', W' = w1.alloc (.cells #[T8.vl (0)] 262) → y' = Value.slice (some ⟨w1.heap.size, 0, none⟩) 1 1 → (Builtin.append_ #[139, 139] 139 #[v, y']).run Tryz.prog W' = .ok v' w2) := fun W' y' e1 e2 => by rw [e1, e2]; exact hr
    unfold T8.vl at hrH
    clear CC ov hr ho hg hb
    go_wp2_with (at_builtin; refine append_run (.tmp 79) (.tmp 80) (by rfl) _ (by rfl) _ _ _ _ (by rfl) (by rfl) (hrH.out _ _ (by first | rfl | simp) (by first | rfl | simp)) ?_)
    go_ret
    exact ⟨_, rfl, fin.out⟩
  · skip
    go_enter Tryz.func84, Tryz.ntmps84
    go_wp2_with fail
    have SS0 : Below w.heap.size w w.drew := (Below.refl _ w).drew
    go_region_held3 (fun W => Below w.heap.size w W) (first | with_reducible assumption)
      (first
        | (go_at_call 118; (with_reducible refine Calls.mono (CC.out _ (by with_reducible assumption)) ?_); rintro e w1 ⟨v, rfl, ov, bv⟩))
    obtain ⟨v', w2, hr, ho, hg, hb, _⟩ := T8.app_one w1 w.heap.size v (s.take m) (ov.out) (by have := bv.size; simp; omega) (0) 139 (by rw [lm.1]; have := lm.2; omega)
    have fin : Hid (T8.OE w2 w.heap.size v' (certP 4 s) ∧ Below w.heap.size w w2) := by
      rw [← EQ.out]; exact ⟨ho, (bv).trans hb⟩
    have hrH : Hid (∀ W' y', W' = w1.alloc (.cells #[T8.vl (0)] 262) → y' = Value.slice (some ⟨w1.heap.size, 0, none⟩) 1 1 → (Builtin.append_ #[139, 139] 139 #[v, y']).run Tryz.prog W' = .ok v' w2) := fun W' y' e1 e2 => by rw [e1, e2]; exact hr
    unfold T8.vl at hrH
    clear CC ov hr ho hg hb
    go_wp2_with (at_builtin; refine append_run (.tmp 79) (.tmp 80) (by rfl) _ (by rfl) _ _ _ _ (by rfl) (by rfl) (hrH.out _ _ (by first | rfl | simp) (by first | rfl | simp)) ?_)
    go_ret
    exact ⟨_, rfl, fin.out⟩
set_option maxHeartbeats 8000000 in
theorem cert_5 (s : List Int) (m : Nat) (hm : s.length = m + 0) (hn : s.length ≤ 65536) (tr : ∀ x ∈ s, Tr x) (b off cc : Nat) (hcc : s.length ≤ cc) (w : World) (hR : RT w) (hI : T8.In w (some ⟨b, off, none⟩) s) : Calls Tryz.prog 84 #[.slice (some ⟨b, off, none⟩) s.length cc, .int .u8 5] w fun e w' => ∃ v, e = .returned v ∧ T8.OE w' w.heap.size v (certP 5 s) ∧ Below w.heap.size w w' := by
  have t1 : w.cell? ⟨1, 31, none⟩ = some (.int .i64 0) := hR 5 (by omega) 1 (by omega)
  have hl := hR.lt
  have CC : Hid (∀ W, Below w.heap.size w W → Calls Tryz.prog 118 #[.slice (some ⟨b, off, none⟩) m cc] W fun e w' => ∃ v, e = .returned v ∧ Hid (T8.OE w' w.heap.size v (s.take m)) ∧ Below w.heap.size w w') := fun W hW => by
    have e : (s.take m).length = m := by rw [List.length_take]; omega
    have h := T8.clone_any (some ⟨b, off, none⟩) cc (s.take m) W ((hI.below hW (Nat.le_refl _)).take m) (by omega)
    rw [e] at h
    exact h.mono (fun e w' ⟨v, h1, h2, h3⟩ => ⟨v, h1, h2.mono hW.size, hW.trans (h3.mono hW.size)⟩)
  have EQ : Hid (s.take m ++ [0] = certP 5 s) := by
    unfold certP
    rw [if_neg (by decide), show s.length - (rowF 5).tk = m by rw [show (rowF 5).tk = 0 from rfl]; omega]
    congr 1
    all_goals first | rfl | simp [topT, minT, maxT, Int.min_def, Int.max_def]
  obtain ⟨n, hnn⟩ : ∃ n, s.length = n := ⟨_, rfl⟩
  rw [hnn] at hm hn hcc ⊢
  have hw : IntKind.i64.wrap ((n : Int) - 0) = (m : Int) := by rw [hm, show ((m + 0 : Nat) : Int) - 0 = (m : Int) by omega]; exact IntWalk.i64_in _ (by omega)
  have hw0 : IntKind.i64.wrap (n : Int) = (m : Int) := by rw [hm]; exact IntWalk.i64_in _ (by omega)
  have m0 : (0 : Int) ≤ (m : Int) := by omega
  have mn : (m : Int) ≤ (n : Int) := by omega
  have mc : (m : Int) ≤ (cc : Int) := by omega
  have nc : (n : Int) ≤ (cc : Int) := by omega
  have mnN : m ≤ n := by omega
  have mcN : m ≤ cc := by omega
  have nmN : n - m = 0 := by omega
  have lm : Hid ((s.take m).length = m ∧ m ≤ 65536) := (by rw [List.length_take]; omega : (s.take m).length = m ∧ m ≤ 65536)
  clear hR hI tr hnn hcc
  clear hm
  by_cases cm : cc = m
  · obtain rfl : m = cc := cm.symm
    go_enter Tryz.func84, Tryz.ntmps84
    go_wp2_with fail
    have SS0 : Below w.heap.size w w.drew := (Below.refl _ w).drew
    go_region_held3 (fun W => Below w.heap.size w W) (first | with_reducible assumption)
      (first
        | (go_at_call 118; (with_reducible refine Calls.mono (CC.out _ (by with_reducible assumption)) ?_); rintro e w1 ⟨v, rfl, ov, bv⟩))
    obtain ⟨v', w2, hr, ho, hg, hb, _⟩ := T8.app_one w1 w.heap.size v (s.take m) (ov.out) (by have := bv.size; simp; omega) (0) 139 (by rw [lm.1]; have := lm.2; omega)
    have fin : Hid (T8.OE w2 w.heap.size v' (certP 5 s) ∧ Below w.heap.size w w2) := by
      rw [← EQ.out]; exact ⟨ho, (bv).trans hb⟩
    have hrH : Hid (∀ W' y', W' = w1.alloc (.cells #[T8.vl (0)] 262) → y' = Value.slice (some ⟨w1.heap.size, 0, none⟩) 1 1 → (Builtin.append_ #[139, 139] 139 #[v, y']).run Tryz.prog W' = .ok v' w2) := fun W' y' e1 e2 => by rw [e1, e2]; exact hr
    unfold T8.vl at hrH
    clear CC ov hr ho hg hb
    go_wp2_with (at_builtin; refine append_run (.tmp 79) (.tmp 80) (by rfl) _ (by rfl) _ _ _ _ (by rfl) (by rfl) (hrH.out _ _ (by first | rfl | simp) (by first | rfl | simp)) ?_)
    go_ret
    exact ⟨_, rfl, fin.out⟩
  · skip
    go_enter Tryz.func84, Tryz.ntmps84
    go_wp2_with fail
    have SS0 : Below w.heap.size w w.drew := (Below.refl _ w).drew
    go_region_held3 (fun W => Below w.heap.size w W) (first | with_reducible assumption)
      (first
        | (go_at_call 118; (with_reducible refine Calls.mono (CC.out _ (by with_reducible assumption)) ?_); rintro e w1 ⟨v, rfl, ov, bv⟩))
    obtain ⟨v', w2, hr, ho, hg, hb, _⟩ := T8.app_one w1 w.heap.size v (s.take m) (ov.out) (by have := bv.size; simp; omega) (0) 139 (by rw [lm.1]; have := lm.2; omega)
    have fin : Hid (T8.OE w2 w.heap.size v' (certP 5 s) ∧ Below w.heap.size w w2) := by
      rw [← EQ.out]; exact ⟨ho, (bv).trans hb⟩
    have hrH : Hid (∀ W' y', W' = w1.alloc (.cells #[T8.vl (0)] 262) → y' = Value.slice (some ⟨w1.heap.size, 0, none⟩) 1 1 → (Builtin.append_ #[139, 139] 139 #[v, y']).run Tryz.prog W' = .ok v' w2) := fun W' y' e1 e2 => by rw [e1, e2]; exact hr
    unfold T8.vl at hrH
    clear CC ov hr ho hg hb
    go_wp2_with (at_builtin; refine append_run (.tmp 79) (.tmp 80) (by rfl) _ (by rfl) _ _ _ _ (by rfl) (by rfl) (hrH.out _ _ (by first | rfl | simp) (by first | rfl | simp)) ?_)
    go_ret
    exact ⟨_, rfl, fin.out⟩
set_option maxHeartbeats 8000000 in
theorem cert_6 (s : List Int) (m : Nat) (hm : s.length = m + 0) (hn : s.length ≤ 65536) (tr : ∀ x ∈ s, Tr x) (b off cc : Nat) (hcc : s.length ≤ cc) (w : World) (hR : RT w) (hI : T8.In w (some ⟨b, off, none⟩) s) : Calls Tryz.prog 84 #[.slice (some ⟨b, off, none⟩) s.length cc, .int .u8 6] w fun e w' => ∃ v, e = .returned v ∧ T8.OE w' w.heap.size v (certP 6 s) ∧ Below w.heap.size w w' := by
  have t1 : w.cell? ⟨1, 37, none⟩ = some (.int .i64 0) := hR 6 (by omega) 1 (by omega)
  have hl := hR.lt
  have CC : Hid (∀ W, Below w.heap.size w W → Calls Tryz.prog 118 #[.slice (some ⟨b, off, none⟩) m cc] W fun e w' => ∃ v, e = .returned v ∧ Hid (T8.OE w' w.heap.size v (s.take m)) ∧ Below w.heap.size w w') := fun W hW => by
    have e : (s.take m).length = m := by rw [List.length_take]; omega
    have h := T8.clone_any (some ⟨b, off, none⟩) cc (s.take m) W ((hI.below hW (Nat.le_refl _)).take m) (by omega)
    rw [e] at h
    exact h.mono (fun e w' ⟨v, h1, h2, h3⟩ => ⟨v, h1, h2.mono hW.size, hW.trans (h3.mono hW.size)⟩)
  have EQ : Hid (s.take m ++ [0] = certP 6 s) := by
    unfold certP
    rw [if_neg (by decide), show s.length - (rowF 6).tk = m by rw [show (rowF 6).tk = 0 from rfl]; omega]
    congr 1
    all_goals first | rfl | simp [topT, minT, maxT, Int.min_def, Int.max_def]
  obtain ⟨n, hnn⟩ : ∃ n, s.length = n := ⟨_, rfl⟩
  rw [hnn] at hm hn hcc ⊢
  have hw : IntKind.i64.wrap ((n : Int) - 0) = (m : Int) := by rw [hm, show ((m + 0 : Nat) : Int) - 0 = (m : Int) by omega]; exact IntWalk.i64_in _ (by omega)
  have hw0 : IntKind.i64.wrap (n : Int) = (m : Int) := by rw [hm]; exact IntWalk.i64_in _ (by omega)
  have m0 : (0 : Int) ≤ (m : Int) := by omega
  have mn : (m : Int) ≤ (n : Int) := by omega
  have mc : (m : Int) ≤ (cc : Int) := by omega
  have nc : (n : Int) ≤ (cc : Int) := by omega
  have mnN : m ≤ n := by omega
  have mcN : m ≤ cc := by omega
  have nmN : n - m = 0 := by omega
  have lm : Hid ((s.take m).length = m ∧ m ≤ 65536) := (by rw [List.length_take]; omega : (s.take m).length = m ∧ m ≤ 65536)
  clear hR hI tr hnn hcc
  clear hm
  by_cases cm : cc = m
  · obtain rfl : m = cc := cm.symm
    go_enter Tryz.func84, Tryz.ntmps84
    go_wp2_with fail
    have SS0 : Below w.heap.size w w.drew := (Below.refl _ w).drew
    go_region_held3 (fun W => Below w.heap.size w W) (first | with_reducible assumption)
      (first
        | (go_at_call 118; (with_reducible refine Calls.mono (CC.out _ (by with_reducible assumption)) ?_); rintro e w1 ⟨v, rfl, ov, bv⟩))
    obtain ⟨v', w2, hr, ho, hg, hb, _⟩ := T8.app_one w1 w.heap.size v (s.take m) (ov.out) (by have := bv.size; simp; omega) (0) 139 (by rw [lm.1]; have := lm.2; omega)
    have fin : Hid (T8.OE w2 w.heap.size v' (certP 6 s) ∧ Below w.heap.size w w2) := by
      rw [← EQ.out]; exact ⟨ho, (bv).trans hb⟩
    have hrH : Hid (∀ W' y', W' = w1.alloc (.cells #[T8.vl (0)] 262) → y' = Value.slice (some ⟨w1.heap.size, 0, none⟩) 1 1 → (Builtin.append_ #[139, 139] 139 #[v, y']).run Tryz.prog W' = .ok v' w2) := fun W' y' e1 e2 => by rw [e1, e2]; exact hr
    unfold T8.vl at hrH
    clear CC ov hr ho hg hb
    go_wp2_with (at_builtin; refine append_run (.tmp 79) (.tmp 80) (by rfl) _ (by rfl) _ _ _ _ (by rfl) (by rfl) (hrH.out _ _ (by first | rfl | simp) (by first | rfl | simp)) ?_)
    go_ret
    exact ⟨_, rfl, fin.out⟩
  · skip
    go_enter Tryz.func84, Tryz.ntmps84
    go_wp2_with fail
    have SS0 : Below w.heap.size w w.drew := (Below.refl _ w).drew
    go_region_held3 (fun W => Below w.heap.size w W) (first | with_reducible assumption)
      (first
        | (go_at_call 118; (with_reducible refine Calls.mono (CC.out _ (by with_reducible assumption)) ?_); rintro e w1 ⟨v, rfl, ov, bv⟩))
    obtain ⟨v', w2, hr, ho, hg, hb, _⟩ := T8.app_one w1 w.heap.size v (s.take m) (ov.out) (by have := bv.size; simp; omega) (0) 139 (by rw [lm.1]; have := lm.2; omega)
    have fin : Hid (T8.OE w2 w.heap.size v' (certP 6 s) ∧ Below w.heap.size w w2) := by
      rw [← EQ.out]; exact ⟨ho, (bv).trans hb⟩
    have hrH : Hid (∀ W' y', W' = w1.alloc (.cells #[T8.vl (0)] 262) → y' = Value.slice (some ⟨w1.heap.size, 0, none⟩) 1 1 → (Builtin.append_ #[139, 139] 139 #[v, y']).run Tryz.prog W' = .ok v' w2) := fun W' y' e1 e2 => by rw [e1, e2]; exact hr
    unfold T8.vl at hrH
    clear CC ov hr ho hg hb
    go_wp2_with (at_builtin; refine append_run (.tmp 79) (.tmp 80) (by rfl) _ (by rfl) _ _ _ _ (by rfl) (by rfl) (hrH.out _ _ (by first | rfl | simp) (by first | rfl | simp)) ?_)
    go_ret
    exact ⟨_, rfl, fin.out⟩
set_option maxHeartbeats 8000000 in
theorem cert_7 (s : List Int) (m : Nat) (hm : s.length = m + 1) (hn : s.length ≤ 65536) (tr : ∀ x ∈ s, Tr x) (b off cc : Nat) (hcc : s.length ≤ cc) (w : World) (hR : RT w) (hI : T8.In w (some ⟨b, off, none⟩) s) : Calls Tryz.prog 84 #[.slice (some ⟨b, off, none⟩) s.length cc, .int .u8 7] w fun e w' => ∃ v, e = .returned v ∧ T8.OE w' w.heap.size v (certP 7 s) ∧ Below w.heap.size w w' := by
  have t1 : w.cell? ⟨1, 43, none⟩ = some (.int .i64 1) := hR 7 (by omega) 1 (by omega)
  have hl := hR.lt
  have CC : Hid (∀ W, Below w.heap.size w W → Calls Tryz.prog 118 #[.slice (some ⟨b, off, none⟩) m cc] W fun e w' => ∃ v, e = .returned v ∧ Hid (T8.OE w' w.heap.size v (s.take m)) ∧ Below w.heap.size w w') := fun W hW => by
    have e : (s.take m).length = m := by rw [List.length_take]; omega
    have h := T8.clone_any (some ⟨b, off, none⟩) cc (s.take m) W ((hI.below hW (Nat.le_refl _)).take m) (by omega)
    rw [e] at h
    exact h.mono (fun e w' ⟨v, h1, h2, h3⟩ => ⟨v, h1, h2.mono hW.size, hW.trans (h3.mono hW.size)⟩)
  obtain ⟨t0, et0⟩ : ∃ t, s[m + 0]? = some t := ⟨_, List.getElem?_eq_getElem (by omega)⟩
  have cb0 : Hid (∀ W, Below w.heap.size w W → W.cell? ⟨b, off + m + 0, none⟩ = some (.int .i8 t0)) := fun W hW => by
    rcases hI with h | ⟨b', off', e, hb, hc⟩
    · rw [h] at et0; simp at et0
    · injection e with e
      injection e with e1 e2
      subst e1 e2
      rw [hW.cell (p := ⟨b, off + m + 0, none⟩) hb, Nat.add_assoc]
      exact hc _ _ et0
  have tr0 : Tr t0 := tr _ (List.mem_of_getElem? et0)
  have EQ : Hid (s.take m ++ [-t0] = certP 7 s) := by
    unfold certP
    rw [if_neg (by decide), show s.length - (rowF 7).tk = m by rw [show (rowF 7).tk = 1 from rfl]; omega]
    congr 1
    have g0 : s.getD m 0 = t0 := by rw [List.getD_eq_getElem?_getD, show m = m + 0 by omega, et0]; rfl
    all_goals rw [g0]
    all_goals first | rfl | simp [topT, minT, maxT, Int.min_def, Int.max_def]
  clear et0
  obtain ⟨n, hnn⟩ : ∃ n, s.length = n := ⟨_, rfl⟩
  rw [hnn] at hm hn hcc ⊢
  have hw : IntKind.i64.wrap ((n : Int) - 1) = (m : Int) := by rw [hm, show ((m + 1 : Nat) : Int) - 1 = (m : Int) by omega]; exact IntWalk.i64_in _ (by omega)
  have m0 : (0 : Int) ≤ (m : Int) := by omega
  have mn : (m : Int) ≤ (n : Int) := by omega
  have mc : (m : Int) ≤ (cc : Int) := by omega
  have nc : (n : Int) ≤ (cc : Int) := by omega
  have mnN : m ≤ n := by omega
  have mcN : m ≤ cc := by omega
  have nmN : n - m = 1 := by omega
  have lm : Hid ((s.take m).length = m ∧ m ≤ 65536) := (by rw [List.length_take]; omega : (s.take m).length = m ∧ m ≤ 65536)
  clear hR hI tr hnn hcc
  have cm : ¬ cc = m := by omega
  clear hm
  go_enter Tryz.func84, Tryz.ntmps84
  go_wp2_with fail
  have SS0 : Below w.heap.size w w.drew := (Below.refl _ w).drew
  go_region_held3 (fun W => Below w.heap.size w W) (first | with_reducible assumption)
    (first
      | (go_at_call 118; (with_reducible refine Calls.mono (CC.out _ (by with_reducible assumption)) ?_); rintro e w1 ⟨v, rfl, ov, bv⟩))
  have d0 := cb0.out w1 bv
  simp only [Nat.add_zero] at d0
  have ng : IntKind.i8.wrap (-t0) = -t0 := by unfold Tr at tr0; rcases tr0 with h | h | h <;> subst h <;> rfl
  obtain ⟨v', w2, hr, ho, hg, hb, _⟩ := T8.app_one w1 w.heap.size v (s.take m) (ov.out) (by have := bv.size; simp; omega) (-t0) 139 (by rw [lm.1]; have := lm.2; omega)
  have fin : Hid (T8.OE w2 w.heap.size v' (certP 7 s) ∧ Below w.heap.size w w2) := by
    rw [← EQ.out]; exact ⟨ho, (bv).trans hb⟩
  have hrH : Hid (∀ W' y', W' = w1.alloc (.cells #[T8.vl (-t0)] 262) → y' = Value.slice (some ⟨w1.heap.size, 0, none⟩) 1 1 → (Builtin.append_ #[139, 139] 139 #[v, y']).run Tryz.prog W' = .ok v' w2) := fun W' y' e1 e2 => by rw [e1, e2]; exact hr
  unfold T8.vl at hrH
  clear CC ov hr ho hg hb cb0
  go_wp2_with (at_builtin; refine append_run (.tmp 39) (.tmp 44) (by rfl) _ (by rfl) _ _ _ _ (by rfl) (by rfl) (hrH.out _ _ (by first | rfl | simp) (by first | rfl | simp)) ?_)
  go_ret
  exact ⟨_, rfl, fin.out⟩
set_option maxHeartbeats 8000000 in
theorem cert_8 (s : List Int) (m : Nat) (hm : s.length = m + 2) (hn : s.length ≤ 65536) (tr : ∀ x ∈ s, Tr x) (b off cc : Nat) (hcc : s.length ≤ cc) (w : World) (hR : RT w) (hI : T8.In w (some ⟨b, off, none⟩) s) : Calls Tryz.prog 84 #[.slice (some ⟨b, off, none⟩) s.length cc, .int .u8 8] w fun e w' => ∃ v, e = .returned v ∧ T8.OE w' w.heap.size v (certP 8 s) ∧ Below w.heap.size w w' := by
  have t1 : w.cell? ⟨1, 49, none⟩ = some (.int .i64 2) := hR 8 (by omega) 1 (by omega)
  have hl := hR.lt
  have CC : Hid (∀ W, Below w.heap.size w W → Calls Tryz.prog 118 #[.slice (some ⟨b, off, none⟩) m cc] W fun e w' => ∃ v, e = .returned v ∧ Hid (T8.OE w' w.heap.size v (s.take m)) ∧ Below w.heap.size w w') := fun W hW => by
    have e : (s.take m).length = m := by rw [List.length_take]; omega
    have h := T8.clone_any (some ⟨b, off, none⟩) cc (s.take m) W ((hI.below hW (Nat.le_refl _)).take m) (by omega)
    rw [e] at h
    exact h.mono (fun e w' ⟨v, h1, h2, h3⟩ => ⟨v, h1, h2.mono hW.size, hW.trans (h3.mono hW.size)⟩)
  obtain ⟨t0, et0⟩ : ∃ t, s[m + 0]? = some t := ⟨_, List.getElem?_eq_getElem (by omega)⟩
  have cb0 : Hid (∀ W, Below w.heap.size w W → W.cell? ⟨b, off + m + 0, none⟩ = some (.int .i8 t0)) := fun W hW => by
    rcases hI with h | ⟨b', off', e, hb, hc⟩
    · rw [h] at et0; simp at et0
    · injection e with e
      injection e with e1 e2
      subst e1 e2
      rw [hW.cell (p := ⟨b, off + m + 0, none⟩) hb, Nat.add_assoc]
      exact hc _ _ et0
  have tr0 : Tr t0 := tr _ (List.mem_of_getElem? et0)
  obtain ⟨t1, et1⟩ : ∃ t, s[m + 1]? = some t := ⟨_, List.getElem?_eq_getElem (by omega)⟩
  have cb1 : Hid (∀ W, Below w.heap.size w W → W.cell? ⟨b, off + m + 1, none⟩ = some (.int .i8 t1)) := fun W hW => by
    rcases hI with h | ⟨b', off', e, hb, hc⟩
    · rw [h] at et1; simp at et1
    · injection e with e
      injection e with e1 e2
      subst e1 e2
      rw [hW.cell (p := ⟨b, off + m + 1, none⟩) hb, Nat.add_assoc]
      exact hc _ _ et1
  have tr1 : Tr t1 := tr _ (List.mem_of_getElem? et1)
  have EQ : Hid (s.take m ++ [(min t0 t1)] = certP 8 s) := by
    unfold certP
    rw [if_neg (by decide), show s.length - (rowF 8).tk = m by rw [show (rowF 8).tk = 2 from rfl]; omega]
    congr 1
    have g0 : s.getD m 0 = t0 := by rw [List.getD_eq_getElem?_getD, show m = m + 0 by omega, et0]; rfl
    have g1 : s.getD (m + 1) 0 = t1 := by rw [List.getD_eq_getElem?_getD, et1]; rfl
    all_goals rw [g0, g1]
    all_goals first | rfl | simp [topT, minT, maxT, Int.min_def, Int.max_def]
  clear et0
  clear et1
  obtain ⟨n, hnn⟩ : ∃ n, s.length = n := ⟨_, rfl⟩
  rw [hnn] at hm hn hcc ⊢
  have hw : IntKind.i64.wrap ((n : Int) - 2) = (m : Int) := by rw [hm, show ((m + 2 : Nat) : Int) - 2 = (m : Int) by omega]; exact IntWalk.i64_in _ (by omega)
  have m0 : (0 : Int) ≤ (m : Int) := by omega
  have mn : (m : Int) ≤ (n : Int) := by omega
  have mc : (m : Int) ≤ (cc : Int) := by omega
  have nc : (n : Int) ≤ (cc : Int) := by omega
  have mnN : m ≤ n := by omega
  have mcN : m ≤ cc := by omega
  have nmN : n - m = 2 := by omega
  have lm : Hid ((s.take m).length = m ∧ m ≤ 65536) := (by rw [List.length_take]; omega : (s.take m).length = m ∧ m ≤ 65536)
  clear hR hI tr hnn hcc
  have cm : ¬ cc = m := by omega
  clear hm
  go_enter Tryz.func84, Tryz.ntmps84
  go_wp2_with fail
  have SS0 : Below w.heap.size w w.drew := (Below.refl _ w).drew
  go_region_held3 (fun W => Below w.heap.size w W) (first | with_reducible assumption)
    (first
      | (go_at_call 118; (with_reducible refine Calls.mono (CC.out _ (by with_reducible assumption)) ?_); rintro e w1 ⟨v, rfl, ov, bv⟩))
  have d0 := cb0.out w1 bv
  simp only [Nat.add_zero] at d0
  have d1 := cb1.out w1 bv
  have d0' := cb0.out w1.drew (bv.drew)
  have d1' := cb1.out w1.drew (bv.drew)
  simp only [Nat.add_zero] at d0'
  have bva : Below w.heap.size w (w1.alloc (.cells #[.int .i8 (min t0 t1)] 262)).drew := (bv.alloc bv.size _).drew
  have e0' := cb0.out _ bva
  have e1' := cb1.out _ bva
  simp only [Nat.add_zero] at e0'
  clear bva
  obtain ⟨v', w2, hr, ho, hg, hb, _⟩ := T8.app_one w1.drew w.heap.size v (s.take m) (ov.out.below ((Below.refl _ _).drew) (Nat.le_refl _)) (by have := bv.size; simp; omega) ((min t0 t1)) 139 (by rw [lm.1]; have := lm.2; omega)
  have fin : Hid (T8.OE w2 w.heap.size v' (certP 8 s) ∧ Below w.heap.size w w2) := by
    rw [← EQ.out]; exact ⟨ho, (bv.drew).trans hb⟩
  have hrH : Hid (∀ W' y', W' = w1.drew.alloc (.cells #[T8.vl ((min t0 t1))] 262) → y' = Value.slice (some ⟨w1.drew.heap.size, 0, none⟩) 1 1 → (Builtin.append_ #[139, 139] 139 #[v, y']).run Tryz.prog W' = .ok v' w2) := fun W' y' e1 e2 => by rw [e1, e2]; exact hr
  have f0 := cb0.out _ fin.out.2
  have f1 := cb1.out _ fin.out.2
  simp only [Nat.add_zero] at f0
  have SS3 : w2.cell? ⟨b, off + m, none⟩ = some (.int .i8 t0) ∧ w2.cell? ⟨b, off + m + 1, none⟩ = some (.int .i8 t1) := ⟨f0, f1⟩
  unfold T8.vl at hrH
  clear CC ov hr ho hg hb cb0 cb1
  go_wp2_with fail
  have SS1 : w1.drew.cell? ⟨b, off + m, none⟩ = some (.int .i8 t0) ∧ w1.drew.cell? ⟨b, off + m + 1, none⟩ = some (.int .i8 t1) := ⟨d0', d1'⟩
  have SS2 : (w1.alloc (.cells #[.int .i8 (min t0 t1)] 262)).drew.cell? ⟨b, off + m, none⟩ = some (.int .i8 t0) ∧ (w1.alloc (.cells #[.int .i8 (min t0 t1)] 262)).drew.cell? ⟨b, off + m + 1, none⟩ = some (.int .i8 t1) := ⟨e0', e1'⟩
  go_region_held3 (fun W => W.cell? ⟨b, off + m, none⟩ = some (.int .i8 t0) ∧ W.cell? ⟨b, off + m + 1, none⟩ = some (.int .i8 t1)) (first | with_reducible assumption)
    (first
      | (refine step_append_runG rfl (.tmp 48) (.tmp 56) 139 rfl _ _ _ _ rfl rfl (hrH.out _ _ (by first | rfl | simp) (by first | rfl | simp)) ?_))
  all_goals go_wp2_with fail
  all_goals go_ret
  all_goals exact ⟨_, rfl, fin.out⟩
set_option maxHeartbeats 8000000 in
theorem cert_9 (s : List Int) (m : Nat) (hm : s.length = m + 2) (hn : s.length ≤ 65536) (tr : ∀ x ∈ s, Tr x) (b off cc : Nat) (hcc : s.length ≤ cc) (w : World) (hR : RT w) (hI : T8.In w (some ⟨b, off, none⟩) s) : Calls Tryz.prog 84 #[.slice (some ⟨b, off, none⟩) s.length cc, .int .u8 9] w fun e w' => ∃ v, e = .returned v ∧ T8.OE w' w.heap.size v (certP 9 s) ∧ Below w.heap.size w w' := by
  have t1 : w.cell? ⟨1, 55, none⟩ = some (.int .i64 2) := hR 9 (by omega) 1 (by omega)
  have hl := hR.lt
  have CC : Hid (∀ W, Below w.heap.size w W → Calls Tryz.prog 118 #[.slice (some ⟨b, off, none⟩) m cc] W fun e w' => ∃ v, e = .returned v ∧ Hid (T8.OE w' w.heap.size v (s.take m)) ∧ Below w.heap.size w w') := fun W hW => by
    have e : (s.take m).length = m := by rw [List.length_take]; omega
    have h := T8.clone_any (some ⟨b, off, none⟩) cc (s.take m) W ((hI.below hW (Nat.le_refl _)).take m) (by omega)
    rw [e] at h
    exact h.mono (fun e w' ⟨v, h1, h2, h3⟩ => ⟨v, h1, h2.mono hW.size, hW.trans (h3.mono hW.size)⟩)
  obtain ⟨t0, et0⟩ : ∃ t, s[m + 0]? = some t := ⟨_, List.getElem?_eq_getElem (by omega)⟩
  have cb0 : Hid (∀ W, Below w.heap.size w W → W.cell? ⟨b, off + m + 0, none⟩ = some (.int .i8 t0)) := fun W hW => by
    rcases hI with h | ⟨b', off', e, hb, hc⟩
    · rw [h] at et0; simp at et0
    · injection e with e
      injection e with e1 e2
      subst e1 e2
      rw [hW.cell (p := ⟨b, off + m + 0, none⟩) hb, Nat.add_assoc]
      exact hc _ _ et0
  have tr0 : Tr t0 := tr _ (List.mem_of_getElem? et0)
  obtain ⟨t1, et1⟩ : ∃ t, s[m + 1]? = some t := ⟨_, List.getElem?_eq_getElem (by omega)⟩
  have cb1 : Hid (∀ W, Below w.heap.size w W → W.cell? ⟨b, off + m + 1, none⟩ = some (.int .i8 t1)) := fun W hW => by
    rcases hI with h | ⟨b', off', e, hb, hc⟩
    · rw [h] at et1; simp at et1
    · injection e with e
      injection e with e1 e2
      subst e1 e2
      rw [hW.cell (p := ⟨b, off + m + 1, none⟩) hb, Nat.add_assoc]
      exact hc _ _ et1
  have tr1 : Tr t1 := tr _ (List.mem_of_getElem? et1)
  have EQ : Hid (s.take m ++ [(max t0 t1)] = certP 9 s) := by
    unfold certP
    rw [if_neg (by decide), show s.length - (rowF 9).tk = m by rw [show (rowF 9).tk = 2 from rfl]; omega]
    congr 1
    have g0 : s.getD m 0 = t0 := by rw [List.getD_eq_getElem?_getD, show m = m + 0 by omega, et0]; rfl
    have g1 : s.getD (m + 1) 0 = t1 := by rw [List.getD_eq_getElem?_getD, et1]; rfl
    all_goals rw [g0, g1]
    all_goals first | rfl | simp [topT, minT, maxT, Int.min_def, Int.max_def]
  clear et0
  clear et1
  obtain ⟨n, hnn⟩ : ∃ n, s.length = n := ⟨_, rfl⟩
  rw [hnn] at hm hn hcc ⊢
  have hw : IntKind.i64.wrap ((n : Int) - 2) = (m : Int) := by rw [hm, show ((m + 2 : Nat) : Int) - 2 = (m : Int) by omega]; exact IntWalk.i64_in _ (by omega)
  have m0 : (0 : Int) ≤ (m : Int) := by omega
  have mn : (m : Int) ≤ (n : Int) := by omega
  have mc : (m : Int) ≤ (cc : Int) := by omega
  have nc : (n : Int) ≤ (cc : Int) := by omega
  have mnN : m ≤ n := by omega
  have mcN : m ≤ cc := by omega
  have nmN : n - m = 2 := by omega
  have lm : Hid ((s.take m).length = m ∧ m ≤ 65536) := (by rw [List.length_take]; omega : (s.take m).length = m ∧ m ≤ 65536)
  clear hR hI tr hnn hcc
  have cm : ¬ cc = m := by omega
  clear hm
  go_enter Tryz.func84, Tryz.ntmps84
  go_wp2_with fail
  have SS0 : Below w.heap.size w w.drew := (Below.refl _ w).drew
  go_region_held3 (fun W => Below w.heap.size w W) (first | with_reducible assumption)
    (first
      | (go_at_call 118; (with_reducible refine Calls.mono (CC.out _ (by with_reducible assumption)) ?_); rintro e w1 ⟨v, rfl, ov, bv⟩))
  have d0 := cb0.out w1 bv
  simp only [Nat.add_zero] at d0
  have d1 := cb1.out w1 bv
  have d0' := cb0.out w1.drew (bv.drew)
  have d1' := cb1.out w1.drew (bv.drew)
  simp only [Nat.add_zero] at d0'
  have bva : Below w.heap.size w (w1.alloc (.cells #[.int .i8 (max t0 t1)] 262)).drew := (bv.alloc bv.size _).drew
  have e0' := cb0.out _ bva
  have e1' := cb1.out _ bva
  simp only [Nat.add_zero] at e0'
  clear bva
  obtain ⟨v', w2, hr, ho, hg, hb, _⟩ := T8.app_one w1.drew w.heap.size v (s.take m) (ov.out.below ((Below.refl _ _).drew) (Nat.le_refl _)) (by have := bv.size; simp; omega) ((max t0 t1)) 139 (by rw [lm.1]; have := lm.2; omega)
  have fin : Hid (T8.OE w2 w.heap.size v' (certP 9 s) ∧ Below w.heap.size w w2) := by
    rw [← EQ.out]; exact ⟨ho, (bv.drew).trans hb⟩
  have hrH : Hid (∀ W' y', W' = w1.drew.alloc (.cells #[T8.vl ((max t0 t1))] 262) → y' = Value.slice (some ⟨w1.drew.heap.size, 0, none⟩) 1 1 → (Builtin.append_ #[139, 139] 139 #[v, y']).run Tryz.prog W' = .ok v' w2) := fun W' y' e1 e2 => by rw [e1, e2]; exact hr
  have f0 := cb0.out _ fin.out.2
  have f1 := cb1.out _ fin.out.2
  simp only [Nat.add_zero] at f0
  have SS3 : w2.cell? ⟨b, off + m, none⟩ = some (.int .i8 t0) ∧ w2.cell? ⟨b, off + m + 1, none⟩ = some (.int .i8 t1) := ⟨f0, f1⟩
  unfold T8.vl at hrH
  clear CC ov hr ho hg hb cb0 cb1
  go_wp2_with fail
  have SS1 : w1.drew.cell? ⟨b, off + m, none⟩ = some (.int .i8 t0) ∧ w1.drew.cell? ⟨b, off + m + 1, none⟩ = some (.int .i8 t1) := ⟨d0', d1'⟩
  have SS2 : (w1.alloc (.cells #[.int .i8 (max t0 t1)] 262)).drew.cell? ⟨b, off + m, none⟩ = some (.int .i8 t0) ∧ (w1.alloc (.cells #[.int .i8 (max t0 t1)] 262)).drew.cell? ⟨b, off + m + 1, none⟩ = some (.int .i8 t1) := ⟨e0', e1'⟩
  go_region_held3 (fun W => W.cell? ⟨b, off + m, none⟩ = some (.int .i8 t0) ∧ W.cell? ⟨b, off + m + 1, none⟩ = some (.int .i8 t1)) (first | with_reducible assumption)
    (first
      | (refine step_append_runG rfl (.tmp 60) (.tmp 68) 139 rfl _ _ _ _ rfl rfl (hrH.out _ _ (by first | rfl | simp) (by first | rfl | simp)) ?_))
  all_goals go_wp2_with fail
  all_goals go_ret
  all_goals exact ⟨_, rfl, fin.out⟩
set_option maxHeartbeats 8000000 in
theorem cert_10 (s : List Int) (m : Nat) (hm : s.length = m + 1) (hn : s.length ≤ 65536) (tr : ∀ x ∈ s, Tr x) (b off cc : Nat) (hcc : s.length ≤ cc) (w : World) (hR : RT w) (hI : T8.In w (some ⟨b, off, none⟩) s) : Calls Tryz.prog 84 #[.slice (some ⟨b, off, none⟩) s.length cc, .int .u8 10] w fun e w' => ∃ v, e = .returned v ∧ T8.OE w' w.heap.size v (certP 10 s) ∧ Below w.heap.size w w' := by
  have t1 : w.cell? ⟨1, 61, none⟩ = some (.int .i64 1) := hR 10 (by omega) 1 (by omega)
  have hl := hR.lt
  have CC : Hid (∀ W, Below w.heap.size w W → Calls Tryz.prog 118 #[.slice (some ⟨b, off, none⟩) m cc] W fun e w' => ∃ v, e = .returned v ∧ Hid (T8.OE w' w.heap.size v (s.take m)) ∧ Below w.heap.size w w') := fun W hW => by
    have e : (s.take m).length = m := by rw [List.length_take]; omega
    have h := T8.clone_any (some ⟨b, off, none⟩) cc (s.take m) W ((hI.below hW (Nat.le_refl _)).take m) (by omega)
    rw [e] at h
    exact h.mono (fun e w' ⟨v, h1, h2, h3⟩ => ⟨v, h1, h2.mono hW.size, hW.trans (h3.mono hW.size)⟩)
  obtain ⟨t0, et0⟩ : ∃ t, s[m + 0]? = some t := ⟨_, List.getElem?_eq_getElem (by omega)⟩
  have cb0 : Hid (∀ W, Below w.heap.size w W → W.cell? ⟨b, off + m + 0, none⟩ = some (.int .i8 t0)) := fun W hW => by
    rcases hI with h | ⟨b', off', e, hb, hc⟩
    · rw [h] at et0; simp at et0
    · injection e with e
      injection e with e1 e2
      subst e1 e2
      rw [hW.cell (p := ⟨b, off + m + 0, none⟩) hb, Nat.add_assoc]
      exact hc _ _ et0
  have tr0 : Tr t0 := tr _ (List.mem_of_getElem? et0)
  have EQ : Hid (s.take m ++ [t0] = certP 10 s) := by
    unfold certP
    rw [if_neg (by decide), show s.length - (rowF 10).tk = m by rw [show (rowF 10).tk = 1 from rfl]; omega]
    congr 1
    have g0 : s.getD m 0 = t0 := by rw [List.getD_eq_getElem?_getD, show m = m + 0 by omega, et0]; rfl
    all_goals rw [g0]
    all_goals first | rfl | simp [topT, minT, maxT, Int.min_def, Int.max_def]
  clear et0
  obtain ⟨n, hnn⟩ : ∃ n, s.length = n := ⟨_, rfl⟩
  rw [hnn] at hm hn hcc ⊢
  have hw : IntKind.i64.wrap ((n : Int) - 1) = (m : Int) := by rw [hm, show ((m + 1 : Nat) : Int) - 1 = (m : Int) by omega]; exact IntWalk.i64_in _ (by omega)
  have m0 : (0 : Int) ≤ (m : Int) := by omega
  have mn : (m : Int) ≤ (n : Int) := by omega
  have mc : (m : Int) ≤ (cc : Int) := by omega
  have nc : (n : Int) ≤ (cc : Int) := by omega
  have mnN : m ≤ n := by omega
  have mcN : m ≤ cc := by omega
  have nmN : n - m = 1 := by omega
  have lm : Hid ((s.take m).length = m ∧ m ≤ 65536) := (by rw [List.length_take]; omega : (s.take m).length = m ∧ m ≤ 65536)
  clear hR hI tr hnn hcc
  have cm : ¬ cc = m := by omega
  clear hm
  go_enter Tryz.func84, Tryz.ntmps84
  go_wp2_with fail
  have SS0 : Below w.heap.size w w.drew := (Below.refl _ w).drew
  go_region_held3 (fun W => Below w.heap.size w W) (first | with_reducible assumption)
    (first
      | (go_at_call 118; (with_reducible refine Calls.mono (CC.out _ (by with_reducible assumption)) ?_); rintro e w1 ⟨v, rfl, ov, bv⟩))
  have d0 := cb0.out w1 bv
  simp only [Nat.add_zero] at d0
  obtain ⟨v', w2, hr, ho, hg, hb, _⟩ := T8.app_one w1 w.heap.size v (s.take m) (ov.out) (by have := bv.size; simp; omega) (t0) 139 (by rw [lm.1]; have := lm.2; omega)
  have fin : Hid (T8.OE w2 w.heap.size v' (certP 10 s) ∧ Below w.heap.size w w2) := by
    rw [← EQ.out]; exact ⟨ho, (bv).trans hb⟩
  have hrH : Hid (∀ W' y', W' = w1.alloc (.cells #[T8.vl (t0)] 262) → y' = Value.slice (some ⟨w1.heap.size, 0, none⟩) 1 1 → (Builtin.append_ #[139, 139] 139 #[v, y']).run Tryz.prog W' = .ok v' w2) := fun W' y' e1 e2 => by rw [e1, e2]; exact hr
  unfold T8.vl at hrH
  clear CC ov hr ho hg hb cb0
  go_wp2_with (at_builtin; refine append_run (.tmp 73) (.tmp 77) (by rfl) _ (by rfl) _ _ _ _ (by rfl) (by rfl) (hrH.out _ _ (by first | rfl | simp) (by first | rfl | simp)) ?_)
  go_ret
  exact ⟨_, rfl, fin.out⟩
set_option maxHeartbeats 8000000 in
theorem cert_11 (s : List Int) (m : Nat) (hm : s.length = m + 1) (hn : s.length ≤ 65536) (tr : ∀ x ∈ s, Tr x) (b off cc : Nat) (hcc : s.length ≤ cc) (w : World) (hR : RT w) (hI : T8.In w (some ⟨b, off, none⟩) s) : Calls Tryz.prog 84 #[.slice (some ⟨b, off, none⟩) s.length cc, .int .u8 11] w fun e w' => ∃ v, e = .returned v ∧ T8.OE w' w.heap.size v (certP 11 s) ∧ Below w.heap.size w w' := by
  have t1 : w.cell? ⟨1, 67, none⟩ = some (.int .i64 1) := hR 11 (by omega) 1 (by omega)
  have hl := hR.lt
  have CC : Hid (∀ W, Below w.heap.size w W → Calls Tryz.prog 118 #[.slice (some ⟨b, off, none⟩) m cc] W fun e w' => ∃ v, e = .returned v ∧ Hid (T8.OE w' w.heap.size v (s.take m)) ∧ Below w.heap.size w w') := fun W hW => by
    have e : (s.take m).length = m := by rw [List.length_take]; omega
    have h := T8.clone_any (some ⟨b, off, none⟩) cc (s.take m) W ((hI.below hW (Nat.le_refl _)).take m) (by omega)
    rw [e] at h
    exact h.mono (fun e w' ⟨v, h1, h2, h3⟩ => ⟨v, h1, h2.mono hW.size, hW.trans (h3.mono hW.size)⟩)
  obtain ⟨t0, et0⟩ : ∃ t, s[m + 0]? = some t := ⟨_, List.getElem?_eq_getElem (by omega)⟩
  have cb0 : Hid (∀ W, Below w.heap.size w W → W.cell? ⟨b, off + m + 0, none⟩ = some (.int .i8 t0)) := fun W hW => by
    rcases hI with h | ⟨b', off', e, hb, hc⟩
    · rw [h] at et0; simp at et0
    · injection e with e
      injection e with e1 e2
      subst e1 e2
      rw [hW.cell (p := ⟨b, off + m + 0, none⟩) hb, Nat.add_assoc]
      exact hc _ _ et0
  have tr0 : Tr t0 := tr _ (List.mem_of_getElem? et0)
  have EQ : Hid (s.take m ++ [t0] = certP 11 s) := by
    unfold certP
    rw [if_neg (by decide), show s.length - (rowF 11).tk = m by rw [show (rowF 11).tk = 1 from rfl]; omega]
    congr 1
    have g0 : s.getD m 0 = t0 := by rw [List.getD_eq_getElem?_getD, show m = m + 0 by omega, et0]; rfl
    all_goals rw [g0]
    all_goals first | rfl | simp [topT, minT, maxT, Int.min_def, Int.max_def]
  clear et0
  obtain ⟨n, hnn⟩ : ∃ n, s.length = n := ⟨_, rfl⟩
  rw [hnn] at hm hn hcc ⊢
  have hw : IntKind.i64.wrap ((n : Int) - 1) = (m : Int) := by rw [hm, show ((m + 1 : Nat) : Int) - 1 = (m : Int) by omega]; exact IntWalk.i64_in _ (by omega)
  have m0 : (0 : Int) ≤ (m : Int) := by omega
  have mn : (m : Int) ≤ (n : Int) := by omega
  have mc : (m : Int) ≤ (cc : Int) := by omega
  have nc : (n : Int) ≤ (cc : Int) := by omega
  have mnN : m ≤ n := by omega
  have mcN : m ≤ cc := by omega
  have nmN : n - m = 1 := by omega
  have lm : Hid ((s.take m).length = m ∧ m ≤ 65536) := (by rw [List.length_take]; omega : (s.take m).length = m ∧ m ≤ 65536)
  clear hR hI tr hnn hcc
  have cm : ¬ cc = m := by omega
  clear hm
  go_enter Tryz.func84, Tryz.ntmps84
  go_wp2_with fail
  have SS0 : Below w.heap.size w w.drew := (Below.refl _ w).drew
  go_region_held3 (fun W => Below w.heap.size w W) (first | with_reducible assumption)
    (first
      | (go_at_call 118; (with_reducible refine Calls.mono (CC.out _ (by with_reducible assumption)) ?_); rintro e w1 ⟨v, rfl, ov, bv⟩))
  have d0 := cb0.out w1 bv
  simp only [Nat.add_zero] at d0
  obtain ⟨v', w2, hr, ho, hg, hb, _⟩ := T8.app_one w1 w.heap.size v (s.take m) (ov.out) (by have := bv.size; simp; omega) (t0) 139 (by rw [lm.1]; have := lm.2; omega)
  have fin : Hid (T8.OE w2 w.heap.size v' (certP 11 s) ∧ Below w.heap.size w w2) := by
    rw [← EQ.out]; exact ⟨ho, (bv).trans hb⟩
  have hrH : Hid (∀ W' y', W' = w1.alloc (.cells #[T8.vl (t0)] 262) → y' = Value.slice (some ⟨w1.heap.size, 0, none⟩) 1 1 → (Builtin.append_ #[139, 139] 139 #[v, y']).run Tryz.prog W' = .ok v' w2) := fun W' y' e1 e2 => by rw [e1, e2]; exact hr
  unfold T8.vl at hrH
  clear CC ov hr ho hg hb cb0
  go_wp2_with (at_builtin; refine append_run (.tmp 73) (.tmp 77) (by rfl) _ (by rfl) _ _ _ _ (by rfl) (by rfl) (hrH.out _ _ (by first | rfl | simp) (by first | rfl | simp)) ?_)
  go_ret
  exact ⟨_, rfl, fin.out⟩
set_option maxHeartbeats 8000000 in
theorem cert_12 (s : List Int) (m : Nat) (hm : s.length = m + 1) (hn : s.length ≤ 65536) (tr : ∀ x ∈ s, Tr x) (b off cc : Nat) (hcc : s.length ≤ cc) (w : World) (hR : RT w) (hI : T8.In w (some ⟨b, off, none⟩) s) : Calls Tryz.prog 84 #[.slice (some ⟨b, off, none⟩) s.length cc, .int .u8 12] w fun e w' => ∃ v, e = .returned v ∧ T8.OE w' w.heap.size v (certP 12 s) ∧ Below w.heap.size w w' := by
  have t1 : w.cell? ⟨1, 73, none⟩ = some (.int .i64 1) := hR 12 (by omega) 1 (by omega)
  have hl := hR.lt
  have CC : Hid (∀ W, Below w.heap.size w W → Calls Tryz.prog 118 #[.slice (some ⟨b, off, none⟩) m cc] W fun e w' => ∃ v, e = .returned v ∧ Hid (T8.OE w' w.heap.size v (s.take m)) ∧ Below w.heap.size w w') := fun W hW => by
    have e : (s.take m).length = m := by rw [List.length_take]; omega
    have h := T8.clone_any (some ⟨b, off, none⟩) cc (s.take m) W ((hI.below hW (Nat.le_refl _)).take m) (by omega)
    rw [e] at h
    exact h.mono (fun e w' ⟨v, h1, h2, h3⟩ => ⟨v, h1, h2.mono hW.size, hW.trans (h3.mono hW.size)⟩)
  have EQ : Hid (s.take m = certP 12 s) := by
    unfold certP
    rw [if_pos (by decide), show s.length - (rowF 12).tk = m by rw [show (rowF 12).tk = 1 from rfl]; omega]
    exact (rfl : s.take m = s.take m)
  obtain ⟨n, hnn⟩ : ∃ n, s.length = n := ⟨_, rfl⟩
  rw [hnn] at hm hn hcc ⊢
  have hw : IntKind.i64.wrap ((n : Int) - 1) = (m : Int) := by rw [hm, show ((m + 1 : Nat) : Int) - 1 = (m : Int) by omega]; exact IntWalk.i64_in _ (by omega)
  have m0 : (0 : Int) ≤ (m : Int) := by omega
  have mn : (m : Int) ≤ (n : Int) := by omega
  have mc : (m : Int) ≤ (cc : Int) := by omega
  have nc : (n : Int) ≤ (cc : Int) := by omega
  have mnN : m ≤ n := by omega
  have mcN : m ≤ cc := by omega
  have nmN : n - m = 1 := by omega
  have lm : Hid ((s.take m).length = m ∧ m ≤ 65536) := (by rw [List.length_take]; omega : (s.take m).length = m ∧ m ≤ 65536)
  clear hR hI tr hnn hcc
  have cm : ¬ cc = m := by omega
  clear hm
  go_enter Tryz.func84, Tryz.ntmps84
  go_wp2_with fail
  have SS0 : Below w.heap.size w w.drew := (Below.refl _ w).drew
  go_region_held3 (fun W => Below w.heap.size w W) (first | with_reducible assumption)
    (first
      | (go_at_call 118; (with_reducible refine Calls.mono (CC.out _ (by with_reducible assumption)) ?_); rintro e w1 ⟨v, rfl, ov, bv⟩))
  have fin : Hid (T8.OE w1 w.heap.size v (certP 12 s) ∧ Below w.heap.size w w1) := by
    rw [← EQ.out]; exact ⟨ov.out, bv⟩
  clear CC ov
  go_wp2_with fail
  go_ret
  exact ⟨_, rfl, fin.out⟩
set_option maxHeartbeats 8000000 in
theorem cert_13 (s : List Int) (m : Nat) (hm : s.length = m + 1) (hn : s.length ≤ 65536) (tr : ∀ x ∈ s, Tr x) (b off cc : Nat) (hcc : s.length ≤ cc) (w : World) (hR : RT w) (hI : T8.In w (some ⟨b, off, none⟩) s) : Calls Tryz.prog 84 #[.slice (some ⟨b, off, none⟩) s.length cc, .int .u8 13] w fun e w' => ∃ v, e = .returned v ∧ T8.OE w' w.heap.size v (certP 13 s) ∧ Below w.heap.size w w' := by
  have t1 : w.cell? ⟨1, 79, none⟩ = some (.int .i64 1) := hR 13 (by omega) 1 (by omega)
  have hl := hR.lt
  have CC : Hid (∀ W, Below w.heap.size w W → Calls Tryz.prog 118 #[.slice (some ⟨b, off, none⟩) m cc] W fun e w' => ∃ v, e = .returned v ∧ Hid (T8.OE w' w.heap.size v (s.take m)) ∧ Below w.heap.size w w') := fun W hW => by
    have e : (s.take m).length = m := by rw [List.length_take]; omega
    have h := T8.clone_any (some ⟨b, off, none⟩) cc (s.take m) W ((hI.below hW (Nat.le_refl _)).take m) (by omega)
    rw [e] at h
    exact h.mono (fun e w' ⟨v, h1, h2, h3⟩ => ⟨v, h1, h2.mono hW.size, hW.trans (h3.mono hW.size)⟩)
  have EQ : Hid (s.take m = certP 13 s) := by
    unfold certP
    rw [if_pos (by decide), show s.length - (rowF 13).tk = m by rw [show (rowF 13).tk = 1 from rfl]; omega]
    exact (rfl : s.take m = s.take m)
  obtain ⟨n, hnn⟩ : ∃ n, s.length = n := ⟨_, rfl⟩
  rw [hnn] at hm hn hcc ⊢
  have hw : IntKind.i64.wrap ((n : Int) - 1) = (m : Int) := by rw [hm, show ((m + 1 : Nat) : Int) - 1 = (m : Int) by omega]; exact IntWalk.i64_in _ (by omega)
  have m0 : (0 : Int) ≤ (m : Int) := by omega
  have mn : (m : Int) ≤ (n : Int) := by omega
  have mc : (m : Int) ≤ (cc : Int) := by omega
  have nc : (n : Int) ≤ (cc : Int) := by omega
  have mnN : m ≤ n := by omega
  have mcN : m ≤ cc := by omega
  have nmN : n - m = 1 := by omega
  have lm : Hid ((s.take m).length = m ∧ m ≤ 65536) := (by rw [List.length_take]; omega : (s.take m).length = m ∧ m ≤ 65536)
  clear hR hI tr hnn hcc
  have cm : ¬ cc = m := by omega
  clear hm
  go_enter Tryz.func84, Tryz.ntmps84
  go_wp2_with fail
  have SS0 : Below w.heap.size w w.drew := (Below.refl _ w).drew
  go_region_held3 (fun W => Below w.heap.size w W) (first | with_reducible assumption)
    (first
      | (go_at_call 118; (with_reducible refine Calls.mono (CC.out _ (by with_reducible assumption)) ?_); rintro e w1 ⟨v, rfl, ov, bv⟩))
  have fin : Hid (T8.OE w1 w.heap.size v (certP 13 s) ∧ Below w.heap.size w w1) := by
    rw [← EQ.out]; exact ⟨ov.out, bv⟩
  clear CC ov
  go_wp2_with fail
  go_ret
  exact ⟨_, rfl, fin.out⟩
set_option maxHeartbeats 8000000 in
theorem certN_1 (cc : Nat) (w : World) (hR : RT w) : Calls Tryz.prog 84 #[.slice none 0 cc, .int .u8 1] w fun e w' => ∃ v, e = .returned v ∧ T8.OE w' w.heap.size v (certP 1 []) ∧ Below w.heap.size w w' := by
  have t1 : w.cell? ⟨1, 7, none⟩ = some (.int .i64 0) := hR 1 (by omega) 1 (by omega)
  have hl := hR.lt
  have CC : Hid (∀ W, Below w.heap.size w W → Calls Tryz.prog 118 #[.slice none 0 cc] W fun e w' => ∃ v, e = .returned v ∧ Hid (T8.OE w' w.heap.size v []) ∧ Below w.heap.size w w') := fun W hW => by
    have h := T8.clone_any none cc [] W (Or.inl rfl) (by simp)
    exact h.mono (fun e w' ⟨v, h1, h2, h3⟩ => ⟨v, h1, h2.mono hW.size, hW.trans (h3.mono hW.size)⟩)
  have EQ : Hid ([] ++ [1] = certP 1 []) := by
    exact (rfl : ([] : List Int) ++ [1] = certP 1 [])
  clear hR
  go_enter Tryz.func84, Tryz.ntmps84
  go_wp2_with fail
  have SS0 : Below w.heap.size w w.drew := (Below.refl _ w).drew
  go_region_held3 (fun W => Below w.heap.size w W) (first | with_reducible assumption)
    (first
      | (go_at_call 118; (with_reducible refine Calls.mono (CC.out _ (by with_reducible assumption)) ?_); rintro e w1 ⟨v, rfl, ov, bv⟩))
  obtain ⟨v', w2, hr, ho, hg, hb, _⟩ := T8.app_one w1 w.heap.size v [] (ov.out) (by have := bv.size; simp; omega) (1) 139 (by simp)
  have fin : Hid (T8.OE w2 w.heap.size v' (certP 1 []) ∧ Below w.heap.size w w2) := by
    rw [← EQ.out]; exact ⟨ho, bv.trans hb⟩
  have hrH : Hid (∀ W' y', W' = w1.alloc (.cells #[T8.vl (1)] 262) → y' = Value.slice (some ⟨w1.heap.size, 0, none⟩) 1 1 → (Builtin.append_ #[139, 139] 139 #[v, y']).run Tryz.prog W' = .ok v' w2) := fun W' y' e1 e2 => by rw [e1, e2]; exact hr
  unfold T8.vl at hrH
  clear CC ov hr ho hg hb
  go_wp2_with (at_builtin; refine append_run (.tmp 29) (.tmp 30) (by rfl) _ (by rfl) _ _ _ _ (by rfl) (by rfl) (hrH.out _ _ (by first | rfl | simp) (by first | rfl | simp)) ?_)
  go_ret
  exact ⟨_, rfl, fin.out⟩
set_option maxHeartbeats 8000000 in
theorem certN_2 (cc : Nat) (w : World) (hR : RT w) : Calls Tryz.prog 84 #[.slice none 0 cc, .int .u8 2] w fun e w' => ∃ v, e = .returned v ∧ T8.OE w' w.heap.size v (certP 2 []) ∧ Below w.heap.size w w' := by
  have t1 : w.cell? ⟨1, 13, none⟩ = some (.int .i64 0) := hR 2 (by omega) 1 (by omega)
  have hl := hR.lt
  have CC : Hid (∀ W, Below w.heap.size w W → Calls Tryz.prog 118 #[.slice none 0 cc] W fun e w' => ∃ v, e = .returned v ∧ Hid (T8.OE w' w.heap.size v []) ∧ Below w.heap.size w w') := fun W hW => by
    have h := T8.clone_any none cc [] W (Or.inl rfl) (by simp)
    exact h.mono (fun e w' ⟨v, h1, h2, h3⟩ => ⟨v, h1, h2.mono hW.size, hW.trans (h3.mono hW.size)⟩)
  have EQ : Hid ([] ++ [-1] = certP 2 []) := by
    exact (rfl : ([] : List Int) ++ [-1] = certP 2 [])
  clear hR
  go_enter Tryz.func84, Tryz.ntmps84
  go_wp2_with fail
  have SS0 : Below w.heap.size w w.drew := (Below.refl _ w).drew
  go_region_held3 (fun W => Below w.heap.size w W) (first | with_reducible assumption)
    (first
      | (go_at_call 118; (with_reducible refine Calls.mono (CC.out _ (by with_reducible assumption)) ?_); rintro e w1 ⟨v, rfl, ov, bv⟩))
  obtain ⟨v', w2, hr, ho, hg, hb, _⟩ := T8.app_one w1 w.heap.size v [] (ov.out) (by have := bv.size; simp; omega) (-1) 139 (by simp)
  have fin : Hid (T8.OE w2 w.heap.size v' (certP 2 []) ∧ Below w.heap.size w w2) := by
    rw [← EQ.out]; exact ⟨ho, bv.trans hb⟩
  have hrH : Hid (∀ W' y', W' = w1.alloc (.cells #[T8.vl (-1)] 262) → y' = Value.slice (some ⟨w1.heap.size, 0, none⟩) 1 1 → (Builtin.append_ #[139, 139] 139 #[v, y']).run Tryz.prog W' = .ok v' w2) := fun W' y' e1 e2 => by rw [e1, e2]; exact hr
  unfold T8.vl at hrH
  clear CC ov hr ho hg hb
  go_wp2_with (at_builtin; refine append_run (.tmp 34) (.tmp 35) (by rfl) _ (by rfl) _ _ _ _ (by rfl) (by rfl) (hrH.out _ _ (by first | rfl | simp) (by first | rfl | simp)) ?_)
  go_ret
  exact ⟨_, rfl, fin.out⟩
set_option maxHeartbeats 8000000 in
theorem certN_3 (cc : Nat) (w : World) (hR : RT w) : Calls Tryz.prog 84 #[.slice none 0 cc, .int .u8 3] w fun e w' => ∃ v, e = .returned v ∧ T8.OE w' w.heap.size v (certP 3 []) ∧ Below w.heap.size w w' := by
  have t1 : w.cell? ⟨1, 19, none⟩ = some (.int .i64 0) := hR 3 (by omega) 1 (by omega)
  have hl := hR.lt
  have CC : Hid (∀ W, Below w.heap.size w W → Calls Tryz.prog 118 #[.slice none 0 cc] W fun e w' => ∃ v, e = .returned v ∧ Hid (T8.OE w' w.heap.size v []) ∧ Below w.heap.size w w') := fun W hW => by
    have h := T8.clone_any none cc [] W (Or.inl rfl) (by simp)
    exact h.mono (fun e w' ⟨v, h1, h2, h3⟩ => ⟨v, h1, h2.mono hW.size, hW.trans (h3.mono hW.size)⟩)
  have EQ : Hid ([] ++ [0] = certP 3 []) := by
    exact (rfl : ([] : List Int) ++ [0] = certP 3 [])
  clear hR
  go_enter Tryz.func84, Tryz.ntmps84
  go_wp2_with fail
  have SS0 : Below w.heap.size w w.drew := (Below.refl _ w).drew
  go_region_held3 (fun W => Below w.heap.size w W) (first | with_reducible assumption)
    (first
      | (go_at_call 118; (with_reducible refine Calls.mono (CC.out _ (by with_reducible assumption)) ?_); rintro e w1 ⟨v, rfl, ov, bv⟩))
  obtain ⟨v', w2, hr, ho, hg, hb, _⟩ := T8.app_one w1 w.heap.size v [] (ov.out) (by have := bv.size; simp; omega) (0) 139 (by simp)
  have fin : Hid (T8.OE w2 w.heap.size v' (certP 3 []) ∧ Below w.heap.size w w2) := by
    rw [← EQ.out]; exact ⟨ho, bv.trans hb⟩
  have hrH : Hid (∀ W' y', W' = w1.alloc (.cells #[T8.vl (0)] 262) → y' = Value.slice (some ⟨w1.heap.size, 0, none⟩) 1 1 → (Builtin.append_ #[139, 139] 139 #[v, y']).run Tryz.prog W' = .ok v' w2) := fun W' y' e1 e2 => by rw [e1, e2]; exact hr
  unfold T8.vl at hrH
  clear CC ov hr ho hg hb
  go_wp2_with (at_builtin; refine append_run (.tmp 79) (.tmp 80) (by rfl) _ (by rfl) _ _ _ _ (by rfl) (by rfl) (hrH.out _ _ (by first | rfl | simp) (by first | rfl | simp)) ?_)
  go_ret
  exact ⟨_, rfl, fin.out⟩
set_option maxHeartbeats 8000000 in
theorem certN_4 (cc : Nat) (w : World) (hR : RT w) : Calls Tryz.prog 84 #[.slice none 0 cc, .int .u8 4] w fun e w' => ∃ v, e = .returned v ∧ T8.OE w' w.heap.size v (certP 4 []) ∧ Below w.heap.size w w' := by
  have t1 : w.cell? ⟨1, 25, none⟩ = some (.int .i64 0) := hR 4 (by omega) 1 (by omega)
  have hl := hR.lt
  have CC : Hid (∀ W, Below w.heap.size w W → Calls Tryz.prog 118 #[.slice none 0 cc] W fun e w' => ∃ v, e = .returned v ∧ Hid (T8.OE w' w.heap.size v []) ∧ Below w.heap.size w w') := fun W hW => by
    have h := T8.clone_any none cc [] W (Or.inl rfl) (by simp)
    exact h.mono (fun e w' ⟨v, h1, h2, h3⟩ => ⟨v, h1, h2.mono hW.size, hW.trans (h3.mono hW.size)⟩)
  have EQ : Hid ([] ++ [0] = certP 4 []) := by
    exact (rfl : ([] : List Int) ++ [0] = certP 4 [])
  clear hR
  go_enter Tryz.func84, Tryz.ntmps84
  go_wp2_with fail
  have SS0 : Below w.heap.size w w.drew := (Below.refl _ w).drew
  go_region_held3 (fun W => Below w.heap.size w W) (first | with_reducible assumption)
    (first
      | (go_at_call 118; (with_reducible refine Calls.mono (CC.out _ (by with_reducible assumption)) ?_); rintro e w1 ⟨v, rfl, ov, bv⟩))
  obtain ⟨v', w2, hr, ho, hg, hb, _⟩ := T8.app_one w1 w.heap.size v [] (ov.out) (by have := bv.size; simp; omega) (0) 139 (by simp)
  have fin : Hid (T8.OE w2 w.heap.size v' (certP 4 []) ∧ Below w.heap.size w w2) := by
    rw [← EQ.out]; exact ⟨ho, bv.trans hb⟩
  have hrH : Hid (∀ W' y', W' = w1.alloc (.cells #[T8.vl (0)] 262) → y' = Value.slice (some ⟨w1.heap.size, 0, none⟩) 1 1 → (Builtin.append_ #[139, 139] 139 #[v, y']).run Tryz.prog W' = .ok v' w2) := fun W' y' e1 e2 => by rw [e1, e2]; exact hr
  unfold T8.vl at hrH
  clear CC ov hr ho hg hb
  go_wp2_with (at_builtin; refine append_run (.tmp 79) (.tmp 80) (by rfl) _ (by rfl) _ _ _ _ (by rfl) (by rfl) (hrH.out _ _ (by first | rfl | simp) (by first | rfl | simp)) ?_)
  go_ret
  exact ⟨_, rfl, fin.out⟩
set_option maxHeartbeats 8000000 in
theorem certN_5 (cc : Nat) (w : World) (hR : RT w) : Calls Tryz.prog 84 #[.slice none 0 cc, .int .u8 5] w fun e w' => ∃ v, e = .returned v ∧ T8.OE w' w.heap.size v (certP 5 []) ∧ Below w.heap.size w w' := by
  have t1 : w.cell? ⟨1, 31, none⟩ = some (.int .i64 0) := hR 5 (by omega) 1 (by omega)
  have hl := hR.lt
  have CC : Hid (∀ W, Below w.heap.size w W → Calls Tryz.prog 118 #[.slice none 0 cc] W fun e w' => ∃ v, e = .returned v ∧ Hid (T8.OE w' w.heap.size v []) ∧ Below w.heap.size w w') := fun W hW => by
    have h := T8.clone_any none cc [] W (Or.inl rfl) (by simp)
    exact h.mono (fun e w' ⟨v, h1, h2, h3⟩ => ⟨v, h1, h2.mono hW.size, hW.trans (h3.mono hW.size)⟩)
  have EQ : Hid ([] ++ [0] = certP 5 []) := by
    exact (rfl : ([] : List Int) ++ [0] = certP 5 [])
  clear hR
  go_enter Tryz.func84, Tryz.ntmps84
  go_wp2_with fail
  have SS0 : Below w.heap.size w w.drew := (Below.refl _ w).drew
  go_region_held3 (fun W => Below w.heap.size w W) (first | with_reducible assumption)
    (first
      | (go_at_call 118; (with_reducible refine Calls.mono (CC.out _ (by with_reducible assumption)) ?_); rintro e w1 ⟨v, rfl, ov, bv⟩))
  obtain ⟨v', w2, hr, ho, hg, hb, _⟩ := T8.app_one w1 w.heap.size v [] (ov.out) (by have := bv.size; simp; omega) (0) 139 (by simp)
  have fin : Hid (T8.OE w2 w.heap.size v' (certP 5 []) ∧ Below w.heap.size w w2) := by
    rw [← EQ.out]; exact ⟨ho, bv.trans hb⟩
  have hrH : Hid (∀ W' y', W' = w1.alloc (.cells #[T8.vl (0)] 262) → y' = Value.slice (some ⟨w1.heap.size, 0, none⟩) 1 1 → (Builtin.append_ #[139, 139] 139 #[v, y']).run Tryz.prog W' = .ok v' w2) := fun W' y' e1 e2 => by rw [e1, e2]; exact hr
  unfold T8.vl at hrH
  clear CC ov hr ho hg hb
  go_wp2_with (at_builtin; refine append_run (.tmp 79) (.tmp 80) (by rfl) _ (by rfl) _ _ _ _ (by rfl) (by rfl) (hrH.out _ _ (by first | rfl | simp) (by first | rfl | simp)) ?_)
  go_ret
  exact ⟨_, rfl, fin.out⟩
set_option maxHeartbeats 8000000 in
theorem certN_6 (cc : Nat) (w : World) (hR : RT w) : Calls Tryz.prog 84 #[.slice none 0 cc, .int .u8 6] w fun e w' => ∃ v, e = .returned v ∧ T8.OE w' w.heap.size v (certP 6 []) ∧ Below w.heap.size w w' := by
  have t1 : w.cell? ⟨1, 37, none⟩ = some (.int .i64 0) := hR 6 (by omega) 1 (by omega)
  have hl := hR.lt
  have CC : Hid (∀ W, Below w.heap.size w W → Calls Tryz.prog 118 #[.slice none 0 cc] W fun e w' => ∃ v, e = .returned v ∧ Hid (T8.OE w' w.heap.size v []) ∧ Below w.heap.size w w') := fun W hW => by
    have h := T8.clone_any none cc [] W (Or.inl rfl) (by simp)
    exact h.mono (fun e w' ⟨v, h1, h2, h3⟩ => ⟨v, h1, h2.mono hW.size, hW.trans (h3.mono hW.size)⟩)
  have EQ : Hid ([] ++ [0] = certP 6 []) := by
    exact (rfl : ([] : List Int) ++ [0] = certP 6 [])
  clear hR
  go_enter Tryz.func84, Tryz.ntmps84
  go_wp2_with fail
  have SS0 : Below w.heap.size w w.drew := (Below.refl _ w).drew
  go_region_held3 (fun W => Below w.heap.size w W) (first | with_reducible assumption)
    (first
      | (go_at_call 118; (with_reducible refine Calls.mono (CC.out _ (by with_reducible assumption)) ?_); rintro e w1 ⟨v, rfl, ov, bv⟩))
  obtain ⟨v', w2, hr, ho, hg, hb, _⟩ := T8.app_one w1 w.heap.size v [] (ov.out) (by have := bv.size; simp; omega) (0) 139 (by simp)
  have fin : Hid (T8.OE w2 w.heap.size v' (certP 6 []) ∧ Below w.heap.size w w2) := by
    rw [← EQ.out]; exact ⟨ho, bv.trans hb⟩
  have hrH : Hid (∀ W' y', W' = w1.alloc (.cells #[T8.vl (0)] 262) → y' = Value.slice (some ⟨w1.heap.size, 0, none⟩) 1 1 → (Builtin.append_ #[139, 139] 139 #[v, y']).run Tryz.prog W' = .ok v' w2) := fun W' y' e1 e2 => by rw [e1, e2]; exact hr
  unfold T8.vl at hrH
  clear CC ov hr ho hg hb
  go_wp2_with (at_builtin; refine append_run (.tmp 79) (.tmp 80) (by rfl) _ (by rfl) _ _ _ _ (by rfl) (by rfl) (hrH.out _ _ (by first | rfl | simp) (by first | rfl | simp)) ?_)
  go_ret
  exact ⟨_, rfl, fin.out⟩
theorem certain_any (s : List Int) (c : Nat) (h1 : 1 ≤ c) (h2 : c ≤ 13) (hs : (rowF c).tk ≤ s.length) (hn : s.length ≤ 65536) (tr : ∀ x ∈ s, Tr x) (a : Option Addr) (ha : Plc a) (cc : Nat) (hcc : s.length ≤ cc) (w : World) (hR : RT w) (hI : T8.In w a s) : Calls Tryz.prog 84 #[.slice a s.length cc, .int .u8 (c : Int)] w fun e w' => ∃ v, e = .returned v ∧ T8.OE w' w.heap.size v (certP c s) ∧ Below w.heap.size w w' := by
  rcases ha with rfl | ⟨b, off, rfl⟩
  · obtain rfl := hI.emp
    match c, h1, h2, hs with
    | 1, _, _, _ => exact certN_1 cc w hR
    | 2, _, _, _ => exact certN_2 cc w hR
    | 3, _, _, _ => exact certN_3 cc w hR
    | 4, _, _, _ => exact certN_4 cc w hR
    | 5, _, _, _ => exact certN_5 cc w hR
    | 6, _, _, _ => exact certN_6 cc w hR
    | 7, _, _, h => simp [rowF, rowsL] at h
    | 8, _, _, h => simp [rowF, rowsL] at h
    | 9, _, _, h => simp [rowF, rowsL] at h
    | 10, _, _, h => simp [rowF, rowsL] at h
    | 11, _, _, h => simp [rowF, rowsL] at h
    | 12, _, _, h => simp [rowF, rowsL] at h
    | 13, _, _, h => simp [rowF, rowsL] at h
    | c + 14, _, h, _ => omega
  · match c, h1, h2, hs with
    | 1, _, _, h => exact cert_1 s (s.length - 0) (by have h' : 0 ≤ s.length := h; omega) hn tr b off cc hcc w hR hI
    | 2, _, _, h => exact cert_2 s (s.length - 0) (by have h' : 0 ≤ s.length := h; omega) hn tr b off cc hcc w hR hI
    | 3, _, _, h => exact cert_3 s (s.length - 0) (by have h' : 0 ≤ s.length := h; omega) hn tr b off cc hcc w hR hI
    | 4, _, _, h => exact cert_4 s (s.length - 0) (by have h' : 0 ≤ s.length := h; omega) hn tr b off cc hcc w hR hI
    | 5, _, _, h => exact cert_5 s (s.length - 0) (by have h' : 0 ≤ s.length := h; omega) hn tr b off cc hcc w hR hI
    | 6, _, _, h => exact cert_6 s (s.length - 0) (by have h' : 0 ≤ s.length := h; omega) hn tr b off cc hcc w hR hI
    | 7, _, _, h => exact cert_7 s (s.length - 1) (by have h' : 1 ≤ s.length := h; omega) hn tr b off cc hcc w hR hI
    | 8, _, _, h => exact cert_8 s (s.length - 2) (by have h' : 2 ≤ s.length := h; omega) hn tr b off cc hcc w hR hI
    | 9, _, _, h => exact cert_9 s (s.length - 2) (by have h' : 2 ≤ s.length := h; omega) hn tr b off cc hcc w hR hI
    | 10, _, _, h => exact cert_10 s (s.length - 1) (by have h' : 1 ≤ s.length := h; omega) hn tr b off cc hcc w hR hI
    | 11, _, _, h => exact cert_11 s (s.length - 1) (by have h' : 1 ≤ s.length := h; omega) hn tr b off cc hcc w hR hI
    | 12, _, _, h => exact cert_12 s (s.length - 1) (by have h' : 1 ≤ s.length := h; omega) hn tr b off cc hcc w hR hI
    | 13, _, _, h => exact cert_13 s (s.length - 1) (by have h' : 1 ≤ s.length := h; omega) hn tr b off cc hcc w hR hI
    | c + 14, _, h, _ => omega
end Go.Proofs.YtdfnomglkibfbaaGreatDoor.Vf

namespace Go.Proofs.YtdfnomglkibfbaaGreatDoor.Vf
open Go.RowKit Go.Maps
set_option linter.unusedVariables false
set_option linter.unusedSimpArgs false
set_option maxRecDepth 100000
/-! ### plain: one round of looking for the dead -/
theorem dm_end {l : List InP} (J : Jmp l) : ∀ k, k < l.length → (dmP l k).1 l.length = none
  | 0, h => by
    show (if l.length = 0 then some [] else none : Option (List Int)) = none
    rw [if_neg (by omega)]
  | k + 1, hk => by
    have ih := dm_end J k (by omega)
    obtain ⟨t, ht⟩ : ∃ t, l[k]? = some t := ⟨_, List.getElem?_eq_getElem (by omega)⟩
    have d0 : dropT (dmP l k).1 k l.length = none := by unfold dropT; split; rfl; exact ih
    cases hm : (dmP l k).1 k with
    | none => rw [dmP_none ht hm]; exact d0
    | some s =>
      rw [dmP_some ht hm]
      show stepT (dmP l k).1 k t s l.length = none
      have jn : leadJ t.c s = true → l.length ≠ t.a.toNat := fun q => by
        obtain ⟨j1, j2⟩ := J k t ht (lead_nine q)
        omega
      unfold stepT
      split
      · rw [bring_off (by omega)]
        split
        · rw [bring_off (jn (by assumption))]; exact d0
        · exact d0
      · split
        · rw [bring_off (jn (by assumption))]; exact d0
        · exact d0
structure StO (l : List InP) (h : Nat → Int) (k : Nat) (t : InP) (s : List Int) : Prop where
  tk : (rowF t.c).tk ≤ s.length
  tr : ∀ x ∈ s, Tr x
  l1 : (t.c = 10 ∨ t.c = 11) → 1 ≤ s.length
  ln : s.length ≤ 65536
  cl : (certP t.c s).length ≤ 65536
  c1 : 1 ≤ t.c
  c2 : t.c ≤ 13
  ja : leadJ t.c s = true → 0 ≤ t.a ∧ t.a < (l.length : Int)
  lj : leadJ t.c s = true → ∀ o, dropT (dmP l k).1 k t.a.toNat = some o → o.length = (certP t.c s).length
  lg : ∀ o, (if leadJ t.c s = true then bringT (dropT (dmP l k).1 k) t.a.toNat (certP t.c s) else dropT (dmP l k).1 k) (k + 1) = some o → o.length = (certP t.c s).length
theorem sto_of {l : List InP} {h : Nat → Int} (H : HOk l h) (F : Fil l) (J : Jmp l) {k : Nat} {t : InP} {s : List Int} (ht : l[k]? = some t) (hm : (dmP l k).1 k = some s) : StO l h k t s := by
  have hk : k < l.length := (List.getElem?_eq_some_iff.1 ht).1
  have d := dIn_all H F J k (by omega)
  obtain ⟨f1, f2⟩ := F k t ht
  have e1 := d.len k s hm hk
  have e2 := H.tk k t ht
  have e3 := cert_len (c := t.c) (s := s) f1 f2 (by omega)
  rw [e1] at e3
  have mx := H.mx k t ht
  have lw := H.low k hk
  have dd := d.drop
  have jm : leadJ t.c s = true → DIn l h (k + 1) (bringT (dropT (dmP l k).1 k) t.a.toNat (certP t.c s)) := fun q => by
    obtain ⟨j1, j2⟩ := J k t ht (lead_nine q)
    exact dd.bring (by omega) (by omega) (fun _ => by rw [e3]; exact (H.jp k t ht (lead_nine q) j1 j2).symm) (cert_tr (d.tr k s hm))
  have d1 : DIn l h (k + 1) (if leadJ t.c s = true then bringT (dropT (dmP l k).1 k) t.a.toNat (certP t.c s) else dropT (dmP l k).1 k) := by
    split
    · exact jm (by assumption)
    · exact dd
  refine ⟨by omega, d.tr k s hm, fun q => ?_, by omega, by omega, f1, f2, fun q => ?_, fun q o ho => ?_, fun o ho => ?_⟩
  · have : (rowF t.c).tk = 1 := by rcases q with q | q <;> rw [q] <;> rfl
    omega
  · obtain ⟨j1, j2⟩ := J k t ht (lead_nine q)
    omega
  · obtain ⟨j1, j2⟩ := J k t ht (lead_nine q)
    have := dd.len _ o ho (by omega)
    have := H.jp k t ht (lead_nine q) j1 j2
    omega
  · by_cases hl : k + 1 < l.length
    · have := d1.len _ o ho hl
      have := H.nx k t ht hl
      omega
    · have e : k + 1 = l.length := by omega
      have n0 : dropT (dmP l k).1 k (k + 1) = none := by
        unfold dropT
        rw [if_neg (by omega), e]
        exact dm_end J k hk
      split at ho
      · rename_i q
        obtain ⟨j1, j2⟩ := J k t ht (lead_nine q)
        rw [bring_off (by omega), n0] at ho
        cases ho
      · rw [n0] at ho; cases ho
/-! ### in memory -/
def nat2 (l : List Nat) : List Int := l.map fun (j : Nat) => (j : Int)
def DX (w : World) (m : MpT) (q : Nat) (nv : Value) (L : List Nat) (W : World) : Prop := Below w.heap.size w W ∧ (∃ c, c ≤ q ∧ MT W w.heap.size m c nv.ownBlock) ∧ I6.OE W (w.heap.size + 1) nv (nat2 L)
theorem DX.ne {w W : World} {m : MpT} {q : Nat} {nv : Value} {L : List Nat} (h : DX w m q nv L W) : some w.heap.size ≠ nv.ownBlock := fun e => by
  have := (h.2.2.bound e.symm).1
  omega
theorem DX.below {w W W' : World} {m : MpT} {q : Nat} {nv : Value} {L : List Nat} (h : DX w m q nv L W) (hb : Below W.heap.size W W') : DX w m q nv L W' := by
  have hn := h.ne
  obtain ⟨h1, ⟨c, hc, h2⟩, h3⟩ := h
  exact ⟨h1.trans (hb.mono h1.size), ⟨c, hc, h2.below hn hb⟩, h3.below hb (Nat.le_refl _)⟩
theorem DX.mapped {w W W' : World} {m m' : MpT} {q q' : Nat} {nv : Value} {L : List Nat} (h : DX w m q nv L W) (hg : W.grownBy W' (some w.heap.size)) (hm : ∃ c, c ≤ q' ∧ MT W' w.heap.size m' c nv.ownBlock) : DX w m' q' nv L W' := by
  refine ⟨h.1.grown hg h.1.size (fun j e => by cases e; exact Nat.le_refl _), hm, h.2.2.keep fun k hk => ?_⟩
  have := h.2.2.bound hk
  exact hg.block k this.2 (fun e => by injection e; omega)
theorem DX.take {w W : World} {m : MpT} {q : Nat} {nv : Value} {L : List Nat} (h : DX w m q nv L W) (k : Nat) (hk : k ≤ 65536) : Calls Tryz.prog 83 #[.map (some w.heap.size), .int .i64 (k : Int)] W fun e w' => ∃ v b, e = .returned (.tuple #[v, .bool b]) ∧ Lkd w' w.heap.size nv.ownBlock (m k) v b ∧ DX w (dropT m k) q nv L w' ∧ W.grownBy w' (some w.heap.size) := by
  obtain ⟨c, hc, h2⟩ := h.2.1
  exact (take_tr h2 k (by omega)).mono (fun e w' ⟨v, b, h1, h3, ⟨c', hc', h4⟩, h5⟩ => ⟨v, b, h1, h3, h.mapped h5 ⟨c', by omega, h4⟩, h5⟩)
theorem DX.bring {w W : World} {m : MpT} {q : Nat} {nv : Value} {L : List Nat} (h : DX w m q nv L W) (hq : q ≤ 1000000) (k : Nat) (hk : k ≤ 65537) {v : Value} {s : List Int} {B : Nat} (hB : ∀ x, v.ownBlock = some x → x ≠ w.heap.size ∧ some x ≠ nv.ownBlock) (hv : T8.OE W B v s) (hn : s.length ≤ 65536) (hm : ∀ o, m k = some o → o.length = s.length) : Calls Tryz.prog 86 #[.map (some w.heap.size), .int .i64 (k : Int), v, .func (.func 87) #[] #[]] W fun e w' => e = .returned (.tuple #[]) ∧ DX w (bringT m k s) (q + 1) nv L w' ∧ W.grownBy w' (some w.heap.size) := by
  obtain ⟨c, hc, h2⟩ := h.2.1
  obtain ⟨a, cc, rfl, hcc, hin, hpl⟩ := hv.ein
  refine (bring_tr h2 h.ne (fun x hx => (h.2.2.bound hx).2) k (by omega) hcc ⟨?_, hin, fun x hx => ?_⟩ hm hn (by omega)).mono (fun e w' ⟨h1, ⟨c', hc', h4⟩, h5⟩ => ⟨h1, h.mapped h5 ⟨c', by omega, h4⟩, h5⟩)
  · rcases hpl with h | ⟨b, h, _⟩
    · exact Or.inl h
    · exact Or.inr ⟨b, 0, h⟩
  · rcases hpl with h | ⟨b, h, h6, h7⟩
    · rw [h] at hx; cases hx
    · rw [h] at hx
      injection hx with hx
      subst hx
      have := hB b (by rw [h]; rfl)
      exact ⟨this.1, this.2, h7⟩
theorem DX.app {w W : World} {m : MpT} {q : Nat} {nv : Value} {L : List Nat} (h : DX w m q nv L W) (k : Nat) (hL : L.length ≤ 65536) : ∃ v' w', (Builtin.append_ #[39, 39] 39 #[nv, .slice (some ⟨W.heap.size, 0, none⟩) 1 1]).run Tryz.prog (W.alloc (.cells #[.int .i64 (k : Int)] 3)) = .ok v' w' ∧ DX w m q v' (L ++ [k]) w' := by
  obtain ⟨c, hc, h2⟩ := h.2.1
  have hz : w.heap.size + 1 ≤ W.heap.size := h2.lt
  have hl : (nat2 L).length = L.length := by unfold nat2; simp
  obtain ⟨v', w', hr, ho, hg, hb, hat⟩ := I6.app_one W (w.heap.size + 1) nv (nat2 L) h.2.2 hz (k : Int) 39 (by omega)
  have ss : (W.alloc (.cells #[I6.vl (k : Int)] 3)).heap.size = W.heap.size + 1 := by simp
  refine ⟨v', w', hr, h.1.trans (hb.mono (by omega)), ⟨c, hc, h2.kept (by have := hg.size; omega) h.ne (fun b hbl hne => ?_) ?_⟩, ?_⟩
  · rw [hg.block b (by omega) hne]
    exact ((Below.refl W.heap.size W).alloc (Nat.le_refl _) _).block b hbl
  · rcases hat with e | e
    · exact Or.inl e
    · exact Or.inr ⟨_, e, by omega⟩
  · have e : nat2 (L ++ [k]) = nat2 L ++ [(k : Int)] := by unfold nat2; simp
    rw [e]; exact ho
theorem DX.start (w : World) : ∃ W1, (Instr.mapUpdate 138 (.map (some w.heap.size)) (.int .i64 0) (.slice none 0 0)).run Tryz.prog (w.alloc (.map #[] 0)) = .ok () W1 ∧ DX w (fun j => if j = 0 then some [] else none) 1 (.slice none 0 0) [] W1 := by
  have m3 := MT.start w
  obtain ⟨W1, hr, ⟨c', hc', hm⟩, hg, hz⟩ := m3.put 0 (by omega) (a := none) (s := []) 0 (by simp) ⟨Or.inl rfl, Or.inl rfl, fun x hx => by cases hx⟩ (by omega)
  have b0 : Below w.heap.size w (w.alloc (.map #[] 0)) := (Below.refl _ w).alloc (Nat.le_refl _) _
  exact ⟨W1, hr, b0.grown hg b0.size (fun j e => by cases e; exact Nat.le_refl _), ⟨c', by omega, hm⟩, I6.OE.nil _ _⟩
end Go.Proofs.YtdfnomglkibfbaaGreatDoor.Vf

namespace Go.Proofs.YtdfnomglkibfbaaGreatDoor.Vf
open Go.RowKit
set_option linter.unusedVariables false
set_option linter.unusedSimpArgs false
set_option maxRecDepth 100000
/-! ### the document's rows while the dead are looked for -/
theorem I6.In.keep {w w' : World} {a : Option Addr} {l : List Int} (h : I6.In w a l) (hz : w.heap.size ≤ w'.heap.size) (hk : ∀ b off, a = some ⟨b, off, none⟩ → b < w.heap.size → w'.heap[b]? = w.heap[b]?) : I6.In w' a l := by
  rcases h with h | ⟨b, off, h1, h2, h3⟩
  · exact Or.inl h
  · refine Or.inr ⟨b, off, h1, Nat.lt_of_lt_of_le h2 hz, fun i t ht => ?_⟩
    rw [World.cell?_of_block (w := w) (hk b off h1 h2)]
    exact h3 i t ht
/-- an error's box. -/
def BB (w : World) (g : Nat) (c x : Int) (b : Bool) : Prop := g < w.heap.size ∧ (∀ k, k < 5 → w.frozen? ⟨g, k, none⟩ = false) ∧ w.cell? ⟨g, 0, none⟩ = some (.int .i64 c) ∧ w.cell? ⟨g, 1, none⟩ = some (.int .i64 x) ∧ w.cell? ⟨g, 2, none⟩ = some (.int .i64 0) ∧ w.cell? ⟨g, 3, none⟩ = some (.bool b) ∧ w.cell? ⟨g, 4, none⟩ = some (.bool false)
theorem BB.below {w w' : World} {g n : Nat} {c x : Int} {b : Bool} (h : BB w g c x b) (hB : Below n w w') (hn : g < n) : BB w' g c x b := by
  obtain ⟨h1, h2, h3, h4, h5, h6, h7⟩ := h
  exact ⟨Nat.lt_of_lt_of_le h1 hB.size, fun k hk => by rw [hB.frozen (p := ⟨g, k, none⟩) hn]; exact h2 k hk, by rw [hB.cell (p := ⟨g, 0, none⟩) hn]; exact h3, by rw [hB.cell (p := ⟨g, 1, none⟩) hn]; exact h4, by rw [hB.cell (p := ⟨g, 2, none⟩) hn]; exact h5, by rw [hB.cell (p := ⟨g, 3, none⟩) hn]; exact h6, by rw [hB.cell (p := ⟨g, 4, none⟩) hn]; exact h7⟩
theorem BB.new (w : World) (c x : Int) (b : Bool) : BB (w.alloc (.cells #[.int .i64 c, .int .i64 x, .int .i64 0, .bool b, .bool false] 36)) w.heap.size c x b := by
  refine ⟨by simp, fun k hk => ?_, ?_, ?_, ?_, ?_, ?_⟩ <;> simp [go_sem]
theorem BB.far {w : World} {g b j : Nat} {c x : Int} {bo : Bool} (h : BB w g c x bo) (hg : b ≠ g) (v : Value) : BB (w.setCell ⟨b, j, none⟩ v) g c x bo := by
  obtain ⟨h1, h2, h3, h4, h5, h6, h7⟩ := h
  have e : ∀ k, (w.setCell ⟨b, j, none⟩ v).cell? ⟨g, k, none⟩ = w.cell? ⟨g, k, none⟩ := fun k => World.cell?_setCell_other _ _ _ _ (by intro h; injection h; omega)
  exact ⟨by simpa using h1, fun k hk => by simp [go_sem, h2 k hk], by rw [e]; exact h3, by rw [e]; exact h4, by rw [e]; exact h5, by rw [e]; exact h6, by rw [e]; exact h7⟩
/-- the same error stored into it again. -/
theorem BB.store {W : World} {g : Nat} {c x : Int} {b : Bool} (h : BB W g c x b) : ∃ W2, (Instr.storeAt 36 (.pointer (some ⟨g, 0, none⟩)) (.agg #[.int .i64 c, .int .i64 x, .int .i64 0, .bool b, .bool false])).run Tryz.prog W = .ok () W2 ∧ BB W2 g c x b ∧ (∀ (n : Nat) (w : World), Below n w W → n ≤ g → Below n w W2) ∧ W2.heap.size = W.heap.size ∧ (∀ k, k ≠ g → W2.heap[k]? = W.heap[k]?) ∧ (∀ g' c' x' b', g' ≠ g → BB W g' c' x' b' → BB W2 g' c' x' b') := by
  obtain ⟨h1, hf, k0, k1, k2, k3, k4⟩ := h
  have f0 := hf 0 (by omega)
  have f1 := hf 1 (by omega)
  have f2 := hf 2 (by omega)
  have f3 := hf 3 (by omega)
  have f4 := hf 4 (by omega)
  refine ⟨((((W.setCell ⟨g, 0, none⟩ (.int .i64 c)).setCell ⟨g, 1, none⟩ (.int .i64 x)).setCell ⟨g, 2, none⟩ (.int .i64 0)).setCell ⟨g, 3, none⟩ (.bool b)).setCell ⟨g, 4, none⟩ (.bool false), ?_, ⟨by simpa using h1, fun k hk => by simp [go_sem, hf k hk], ?_, ?_, ?_, ?_, ?_⟩, fun n w hb hn => set5_below hb hn _ _ _ _ _, by simp, fun k hk => ?_, fun g' c' x' b' hne hb => ((((hb.far (Ne.symm hne) _).far (Ne.symm hne) _).far (Ne.symm hne) _).far (Ne.symm hne) _).far (Ne.symm hne) _⟩
  · simp [go_sem, k0, k1, k2, k3, k4, f0, f1, f2, f3, f4, Tryz.sizeOf36, Instr.storeAt, storeVar]
  · simp [go_sem, k0, k1, k2, k3, k4]
  · simp [go_sem, k0, k1, k2, k3, k4]
  · simp [go_sem, k0, k1, k2, k3, k4]
  · simp [go_sem, k0, k1, k2, k3, k4]
  · simp [go_sem, k0, k1, k2, k3, k4]
  · rw [Below.heap_setCell _ _ _ _ (by simpa using hk), Below.heap_setCell _ _ _ _ (by simpa using hk), Below.heap_setCell _ _ _ _ (by simpa using hk), Below.heap_setCell _ _ _ _ (by simpa using hk), Below.heap_setCell _ _ _ _ (by simpa using hk)]
/-- one stack, or none yet. -/
def RowAt (W : World) (S : Nat) (nv : Value) (o : Option (List Int)) (v : Value) : Prop :=
  ∃ a cc, v = .slice a (o.getD []).length cc ∧ (o.getD []).length ≤ cc ∧ I6.In W a ((o.getD []).map dT) ∧ (a = none ∨ ∃ b, a = some ⟨b, 0, none⟩ ∧ S < b ∧ b < W.heap.size ∧ nv.ownBlock ≠ some b)
theorem RowAt.keep {W W' : World} {S : Nat} {nv nv' : Value} {o : Option (List Int)} {v : Value} (h : RowAt W S nv o v) (hz : W.heap.size ≤ W'.heap.size) (hk : ∀ b, S < b → b < W.heap.size → nv.ownBlock ≠ some b → W'.heap[b]? = W.heap[b]?) (hn : nv'.ownBlock = nv.ownBlock ∨ ∃ x, nv'.ownBlock = some x ∧ W.heap.size ≤ x) : RowAt W' S nv' o v := by
  obtain ⟨a, cc, h1, h2, h3, h4⟩ := h
  refine ⟨a, cc, h1, h2, h3.keep hz fun b off e hb => ?_, ?_⟩
  · rcases h4 with h4 | ⟨b', h4, h5, h6, h7⟩
    · rw [h4] at e; cases e
    · rw [h4] at e
      injection e with e
      injection e with e
      subst e
      exact hk _ h5 h6 h7
  · rcases h4 with h4 | ⟨b', h4, h5, h6, h7⟩
    · exact Or.inl h4
    · refine Or.inr ⟨b', h4, h5, Nat.lt_of_lt_of_le h6 hz, fun e => ?_⟩
      rcases hn with hn | ⟨x, hn, hx⟩
      · exact h7 (hn ▸ e)
      · rw [hn] at e
        injection e with e
        omega
structure DQ (w0 : World) (C S n : Nat) (m : MpT) (nv : Value) (L : List Nat) (W : World) : Prop where
  b : Below w0.heap.size w0 W
  lo : w0.heap.size ≤ C
  cs : C < S
  co : RW W C n (fun j => .bool (m j).isSome)
  st : ∃ G, RW W S n G ∧ ∀ j, j < n → RowAt W S nv (m j) (G j)
  ou : I6.OE W (S + 1) nv (nat2 L)
theorem DQ.lt {w0 W : World} {C S n : Nat} {m : MpT} {nv : Value} {L : List Nat} (h : DQ w0 C S n m nv L W) : S < W.heap.size := by
  obtain ⟨G, h1, _⟩ := h.st
  exact h1.1
theorem DQ.below {w0 W W' : World} {C S n : Nat} {m : MpT} {nv : Value} {L : List Nat} (h : DQ w0 C S n m nv L W) (hb : Below W.heap.size W W') : DQ w0 C S n m nv L W' := by
  have hl := h.lt
  have hc := h.cs
  have hlo := h.lo
  obtain ⟨G, h1, h2⟩ := h.st
  exact ⟨h.b.trans (hb.mono (by omega)), h.lo, h.cs, h.co.below hb (by omega), ⟨G, h1.below hb hl, fun j hj => (h2 j hj).keep hb.size (fun b _ hbl _ => hb.block b hbl) (Or.inl rfl)⟩, h.ou.below hb (Nat.le_refl _)⟩
theorem DQ.nvl {w0 W : World} {C S n : Nat} {m : MpT} {nv : Value} {L : List Nat} (h : DQ w0 C S n m nv L W) : ∀ x, nv.ownBlock = some x → S < x ∧ x < W.heap.size := fun x hx => by
  have := h.ou.bound hx
  omega
theorem DQ.app {w0 W : World} {C S n : Nat} {m : MpT} {nv : Value} {L : List Nat} (h : DQ w0 C S n m nv L W) (k : Nat) (hL : L.length ≤ 65536) : ∃ v' w', (Builtin.append_ #[39, 39] 39 #[nv, .slice (some ⟨W.heap.size, 0, none⟩) 1 1]).run Tryz.prog (W.alloc (.cells #[.int .i64 (k : Int)] 3)) = .ok v' w' ∧ DQ w0 C S n m v' (L ++ [k]) w' := by
  have hl := h.lt
  have hc := h.cs
  have hlo := h.lo
  have hln : (nat2 L).length = L.length := by unfold nat2; simp
  obtain ⟨v', w', hr, ho, hg, hb, hat⟩ := I6.app_one W (S + 1) nv (nat2 L) h.ou (by omega) (k : Int) 39 (by omega)
  have ss : (W.alloc (.cells #[I6.vl (k : Int)] 3)).heap.size = W.heap.size + 1 := by simp
  obtain ⟨G, h1, h2⟩ := h.st
  refine ⟨v', w', hr, h.b.trans (hb.mono (by omega)), h.lo, h.cs, h.co.below hb (by omega), ⟨G, h1.below hb (by omega), fun j hj => (h2 j hj).keep hb.size (fun b hbl hbs hne => ?_) ?_⟩, ?_⟩
  · rw [hg.block b (by omega) (Ne.symm hne)]
    exact ((Below.refl W.heap.size W).alloc (Nat.le_refl _) _).block b hbs
  · rcases hat with e | e
    · exact Or.inl e
    · exact Or.inr ⟨_, e, by omega⟩
  · have e : nat2 (L ++ [k]) = nat2 L ++ [(k : Int)] := by unfold nat2; simp
    rw [e]; exact ho
theorem DQ.bring {w0 W : World} {C S n : Nat} {m : MpT} {nv : Value} {L : List Nat} (h : DQ w0 C S n m nv L W) {to_ : Nat} (ht : to_ < n) {c : List Int} (tr : ∀ x ∈ c, Tr x) (ho : ∀ o, m to_ = some o → o.length = c.length ∧ ∀ x ∈ o, Tr x) {B : Nat} {v : Value} (hB : S < B) (hnv : ∀ x, nv.ownBlock = some x → x < B) (hv : I6.OE W B v (meetD ((m to_).map (List.map dT)) (c.map dT))) : DQ w0 C S n (bringT m to_ c) nv L ((W.setCell ⟨S, to_, none⟩ v).setCell ⟨C, to_, none⟩ (.bool true)) := by
  have hl := h.lt
  have hc := h.cs
  have hlo := h.lo
  obtain ⟨G, h1, h2⟩ := h.st
  rw [meetD_eq (fun a ha => (ho a ha).2) tr] at hv
  obtain ⟨a, cc, e1, e2, e3, e4⟩ := hv.ein
  have eb : bringT m to_ c to_ = some (meetT (m to_) c) := by unfold bringT; rw [if_pos rfl]
  have blk : ∀ b, S < b → ((W.setCell ⟨S, to_, none⟩ v).setCell ⟨C, to_, none⟩ (.bool true)).heap[b]? = W.heap[b]? := fun b hb => by
    rw [Below.heap_setCell _ _ _ _ (by simp; omega), Below.heap_setCell _ _ _ _ (by simp; omega)]
  refine ⟨(h.b.setCell (p := ⟨S, to_, none⟩) (by simp; omega) _).setCell (p := ⟨C, to_, none⟩) (by simp; omega) _, h.lo, h.cs, ((h.co.far (by omega) _).set ht _).congr (fun k hk => ?_), ⟨upG G to_ v, (h1.set ht v).far (by omega) _, fun j hj => ?_⟩, h.ou.keep fun k hk => blk k (h.ou.bound hk).1⟩
  · unfold upG
    by_cases e : k = to_
    · subst e; rw [if_pos rfl, eb]; rfl
    · rw [if_neg e]; unfold bringT; rw [if_neg e]
  · have hz : ((W.setCell ⟨S, to_, none⟩ v).setCell ⟨C, to_, none⟩ (.bool true)).heap.size = W.heap.size := by simp
    by_cases e : j = to_
    · subst e
      rw [eb]
      unfold upG
      rw [if_pos rfl]
      have hlen : ((meetT (m j) c).map dT).length = (meetT (m j) c).length := List.length_map ..
      rw [hlen] at e1 e2
      refine ⟨a, cc, e1, e2, ?_, ?_⟩
      · refine e3.keep (by omega) fun b off eb hb => ?_
        rcases e4 with e4 | ⟨b', e4, e5, e6⟩
        · rw [e4] at eb; cases eb
        · rw [e4] at eb
          injection eb with eb
          injection eb with eb
          subst eb
          exact blk _ (by omega)
      · rcases e4 with e4 | ⟨b', e4, e5, e6⟩
        · exact Or.inl e4
        · refine Or.inr ⟨b', e4, by omega, by omega, fun q => ?_⟩
          have := hnv b' q
          omega
    · have e' : bringT m to_ c j = m j := by unfold bringT; rw [if_neg e]
      rw [e']
      unfold upG
      rw [if_neg e]
      exact (h2 j hj).keep (by omega) (fun b hb _ _ => blk b hb) (Or.inl rfl)
/-- while the ways are gone. -/
structure NQ (w0 : World) (C S n : Nat) (m : MpT) (nv : Value) (L : List Nat) (B : Nat) (nx : List Nat) (vx vc : Value) (c : List Int) (i : Nat) (W : World) : Prop where
  dq : DQ w0 C S n (bringsT c (nx.take i) m) nv L W
  x : I6.OE W B vx (nat2 nx)
  o : I6.OE W B vc (c.map dT)
  sb : S < B
  nb : ∀ x, nv.ownBlock = some x → x < B
  ln : LN m c nx
  tr : ∀ x ∈ c, Tr x
theorem NQ.step {w0 W W2 : World} {C S n : Nat} {m : MpT} {nv : Value} {L : List Nat} {B : Nat} {nx : List Nat} {vx vc : Value} {c : List Int} {i : Nat} (h : NQ w0 C S n m nv L B nx vx vc c i W) (hb : Below W.heap.size W W2) {to_ : Nat} (hto : nx[i]? = some to_) (ht : to_ < n) {v : Value} (hv : I6.OE W2 W.heap.size v (meetD ((bringsT c (nx.take i) m to_).map (List.map dT)) (c.map dT))) : NQ w0 C S n m nv L B nx vx vc c (i + 1) ((W2.setCell ⟨S, to_, none⟩ v).setCell ⟨C, to_, none⟩ (.bool true)) := by
  have hl := h.dq.lt
  have hc := h.dq.cs
  have hsb := h.sb
  have mem : to_ ∈ nx := List.mem_of_getElem? hto
  have blk : ∀ b, S < b → ((W2.setCell ⟨S, to_, none⟩ v).setCell ⟨C, to_, none⟩ (.bool true)).heap[b]? = W2.heap[b]? := fun b hb => by
    rw [Below.heap_setCell _ _ _ _ (by simp; omega), Below.heap_setCell _ _ _ _ (by simp; omega)]
  refine ⟨?_, (h.x.below hb (Nat.le_refl _)).keep fun k hk => blk k ?_, (h.o.below hb (Nat.le_refl _)).keep fun k hk => blk k ?_, h.sb, h.nb, h.ln, h.tr⟩
  · rw [brings_take hto]
    exact (h.dq.below hb).bring ht h.tr (fun o ho => LN.brings h.tr (nx.take i) h.ln (fun q hq => List.mem_of_mem_take hq) to_ mem o ho) hl (fun x hx => (h.dq.nvl x hx).2) hv
  · have := (h.x.bound hk).1; omega
  · have := (h.o.bound hk).1; omega
theorem NQ.below {w0 W W2 : World} {C S n : Nat} {m : MpT} {nv : Value} {L : List Nat} {B : Nat} {nx : List Nat} {vx vc : Value} {c : List Int} {i : Nat} (h : NQ w0 C S n m nv L B nx vx vc c i W) (hb : Below W.heap.size W W2) : NQ w0 C S n m nv L B nx vx vc c i W2 :=
  ⟨h.dq.below hb, h.x.below hb (Nat.le_refl _), h.o.below hb (Nat.le_refl _), h.sb, h.nb, h.ln, h.tr⟩
theorem make_rows (n : Nat) (h : n ≤ 1048576) (w : World) : (Instr.makeSlice 62 (.int .i64 (n : Int)) (.int .i64 (n : Int))).run Tryz.prog w = .ok (.slice (some ⟨w.heap.size, 0, none⟩) n n) (w.alloc (.cells (madeCells #[.slice none 0 0] n) 39)) := by
  have hi : (Tryz.prog.info? 39).map (fun i => (i.zero, i.bytes, i.size)) = some (some (.slice none 0 0), 24, 1) := by kernel_rfl
  obtain ⟨i, i1, i0⟩ := Option.map_eq_some_iff.1 hi
  have i2 : i.zero = some (.slice none 0 0) := congrArg (·.1) i0
  have i3 : i.bytes = 24 := congrArg (·.2.1) i0
  have i4 : i.size = 1 := congrArg (·.2.2) i0
  have := run_make (P := Tryz.prog) w 62 39 i (.slice none 0 0) Tryz.underlying62 i1 i2 .i64 .i64 (n : Int) (n : Int) (by omega) (by omega) (by rw [i3]; omega) (by omega)
  rw [i4] at this
  simpa [Value.cells] using this
theorem DQ.start {w0 W : World} (h : Below w0.heap.size w0 W) (l : List InP) (n : Nat) (hn : 0 < n) : DQ w0 W.heap.size (W.heap.size + 1) n (dmD l 0).1 (.slice none 0 0) (dmD l 0).2 (((W.alloc (.cells (madeCells #[.bool false] n) 4)).alloc (.cells (madeCells #[.slice none 0 0] n) 39)).setCell ⟨W.heap.size, 0, none⟩ (.bool true)) := by
  have r1 := RW.made W n (.bool false) 4
  have b1 : Below W.heap.size W (W.alloc (.cells (madeCells #[.bool false] n) 4)) := (Below.refl _ _).alloc (Nat.le_refl _) _
  have z1 : (W.alloc (.cells (madeCells #[.bool false] n) 4)).heap.size = W.heap.size + 1 := by simp
  have r2 := RW.made (W.alloc (.cells (madeCells #[.bool false] n) 4)) n (.slice none 0 0) 39
  have b2 : Below (W.heap.size + 1) (W.alloc (.cells (madeCells #[.bool false] n) 4)) ((W.alloc (.cells (madeCells #[.bool false] n) 4)).alloc (.cells (madeCells #[.slice none 0 0] n) 39)) := (Below.refl _ _).alloc (by omega) _
  rw [z1] at r2
  have hs := h.size
  refine ⟨(h.trans ((b1.trans (b2.mono (by omega))).mono hs)).setCell (p := ⟨W.heap.size, 0, none⟩) hs _, hs, by omega, ((r1.below b2 (by omega)).set hn _).congr (fun k hk => ?_), ⟨_, r2.far (by omega) _, fun j hj => ?_⟩, I6.OE.nil _ _⟩
  · unfold upG
    show (if k = 0 then Value.bool true else Value.bool false) = .bool (if k = 0 then some [] else none : Option (List Int)).isSome
    by_cases e : k = 0
    · rw [if_pos e, if_pos e]; rfl
    · rw [if_neg e, if_neg e]; rfl
  · refine ⟨none, 0, ?_, ?_, Or.inl ?_, Or.inl rfl⟩
    · show Value.slice none 0 0 = .slice none (Option.getD (if j = 0 then some [] else none : Option (List Int)) []).length 0
      by_cases e : j = 0
      · rw [if_pos e]; rfl
      · rw [if_neg e]; rfl
    · show (Option.getD (if j = 0 then some [] else none : Option (List Int)) []).length ≤ 0
      by_cases e : j = 0
      · rw [if_pos e]; exact Nat.le_refl _
      · rw [if_neg e]; exact Nat.le_refl _
    · show (Option.getD (if j = 0 then some [] else none : Option (List Int)) []).map dT = []
      by_cases e : j = 0
      · rw [if_pos e]; rfl
      · rw [if_neg e]; rfl
end Go.Proofs.YtdfnomglkibfbaaGreatDoor.Vf

namespace Go.Proofs.YtdfnomglkibfbaaGreatDoor.Vf
open Go.RowKit
set_option linter.unusedVariables false
set_option linter.unusedSimpArgs false
set_option maxRecDepth 100000
theorem bl_drewN' {n : Nat} {W W' : World} (h : Below n W W') (m : Nat) : Below n W (W'.drewN m) := ⟨h.os, h.tape, h.output, h.size, h.block⟩
theorem refNot_any (x : Int) (w : World) : Calls Tryz.prog 88 #[.int .i64 x] w fun e w' => e = .returned (.int .i64 (notD x)) ∧ w' = w := by
  unfold notD
  by_cases h1 : x = 1
  · rw [if_pos h1]
    go_enter Tryz.func88, Tryz.ntmps88
    go_wp2
    go_ret
    exact ⟨rfl, rfl⟩
  · rw [if_neg h1]
    by_cases h2 : x = 2
    · rw [if_pos h2]
      go_enter Tryz.func88, Tryz.ntmps88
      go_wp2
      go_ret
      exact ⟨rfl, rfl⟩
    · rw [if_neg h2]
      go_enter Tryz.func88, Tryz.ntmps88
      go_wp2
      go_ret
      exact ⟨rfl, rfl⟩
theorem refBoth_any (x y : Int) (w : World) : Calls Tryz.prog 89 #[.int .i64 x, .int .i64 y] w fun e w' => e = .returned (.int .i64 (bothD x y)) ∧ w' = w := by
  unfold bothD
  by_cases h1 : x = 1
  · rw [if_pos (Or.inl h1)]
    go_enter Tryz.func89, Tryz.ntmps89
    go_wp2
    go_ret
    exact ⟨rfl, rfl⟩
  · by_cases h2 : y = 1
    · rw [if_pos (Or.inr h2)]
      go_enter Tryz.func89, Tryz.ntmps89
      go_wp2
      go_ret
      exact ⟨rfl, rfl⟩
    · rw [if_neg (by rintro (q | q); exact h1 q; exact h2 q)]
      have q1 : (x == 1) = false := beq_eq_false_iff_ne.2 h1
      have q2 : (y == 1) = false := beq_eq_false_iff_ne.2 h2
      by_cases h3 : x = 2
      · by_cases h4 : y = 2
        · rw [if_pos ⟨h3, h4⟩]
          go_enter Tryz.func89, Tryz.ntmps89
          go_wp2
          go_ret
          exact ⟨rfl, rfl⟩
        · rw [if_neg (fun q => h4 q.2)]
          have q4 : (y == 2) = false := beq_eq_false_iff_ne.2 h4
          go_enter Tryz.func89, Tryz.ntmps89
          go_wp2
          go_ret
          exact ⟨rfl, rfl⟩
      · rw [if_neg (fun q => h3 q.1)]
        have q3 : (x == 2) = false := beq_eq_false_iff_ne.2 h3
        go_enter Tryz.func89, Tryz.ntmps89
        go_wp2
        go_ret
        exact ⟨rfl, rfl⟩
theorem append_runN (s x : Operand) {P : Program} {ops : Array Oper} {rest : List Oper} {o : Oper} {a : Act} {Q : Exit → Act → World → Prop} {w : World} (hgd : o.guard = none) (t : TypeId)
    (ho : o.op = .call { callee := .builtin .append, args := #[s, x], argTypes := #[t, t] }) (v y v' : Value) (w' : World) (hs : a.eval s = v) (hx : a.eval x = y) (hr : (Builtin.append_ #[t, t] o.type #[v, y]).run P w = .ok v' w')
    (h : wpList P ops Q rest (a.put o.dst v') w') : wpList P ops Q (o :: rest) a w := wpList_append_runG hgd s x t ho v y v' w' hs hx hr h
theorem take_next {α : Type} {l : List α} {k : Nat} {x : α} (h : l[k]? = some x) : l.take k ++ [x] = l.take (k + 1) := by rw [List.take_add_one, h]; rfl
theorem zip_at : ∀ {A B : List Int} {k : Nat} {x y : Int}, A[k]? = some x → B[k]? = some y → (List.zipWith (fun x y => if x ≠ y then 0 else y) A B)[k]? = some (if x ≠ y then 0 else y) := by
  intro A B k x y h1 h2
  rw [List.getElem?_zipWith, h1, h2]
set_option maxHeartbeats 8000000 in
theorem joined_any (come : Bool) (A B : List Int) (hl : come = true → A.length = B.length) (hn : B.length ≤ 65536) (x y : Option Addr) (cx cy : Nat) (w : World) (hA : I6.In w x A) (hB : I6.In w y B) : Calls Tryz.prog 36 #[.bool come, .slice x A.length cx, .slice y B.length cy] w fun e w' => ∃ v, e = .returned v ∧ I6.OE w' w.heap.size v (meetD (if come = true then some A else none) B) ∧ Below w.heap.size w w' := by
  obtain ⟨R, hR⟩ : ∃ R, meetD (if come = true then some A else none) B = R := ⟨_, rfl⟩
  rw [hR]
  have RC0 : ∀ (k : Nat) (a b : Int), come = true → A[k]? = some a → B[k]? = some b → R[k]? = some (if a ≠ b then 0 else b) := fun k a b hc ha hb => by
    rw [← hR, if_pos hc]
    exact zip_at ha hb
  have RC : Hid (∀ (k : Nat) (a b : Int), come = true → A[k]? = some a → B[k]? = some b → R[k]? = some (if a ≠ b then 0 else b)) := RC0
  clear RC0
  have RN : Hid (come = false → R = B) := fun hc => by rw [← hR, hc]; rfl
  have RL : Hid (R.length = B.length) := by
    have e : R.length = B.length := by
      rw [← hR]
      cases come with
      | false => rfl
      | true =>
        show (List.zipWith _ A B).length = B.length
        rw [List.length_zipWith, hl rfl, Nat.min_self]
    exact e
  have hAH : Hid (I6.In w x A) := hA
  have hBH : Hid (I6.In w y B) := hB
  have hlH : Hid (come = true → A.length = B.length) := hl
  obtain ⟨n, hnn⟩ : ∃ n, B.length = n := ⟨_, rfl⟩
  have nH : Hid (B.length = n) := hnn
  rw [hnn] at hn ⊢
  obtain ⟨an, han⟩ : ∃ an, A.length = an := ⟨_, rfl⟩
  have anH : Hid (A.length = an) := han
  rw [han]
  clear han
  have o0 : Hid (I6.OE w w.heap.size (.slice none 0 0) (R.take 0) ∧ Below w.heap.size w w) := ⟨I6.OE.nil _ _, Below.refl _ _⟩
  clear hnn hR hA hB hl
  go_enter Tryz.func36, Tryz.ntmps36
  go_wp2_with fail
  go_loopw [7, 8] (fun v7 v8 wr => ∃ (k : Nat) (a7 : Option Addr) (n7 c7 : Nat), v7 = .slice a7 n7 c7 ∧ v8 = .int .i64 (k : Int) ∧ k ≤ n ∧ Hid (I6.OE wr w.heap.size (.slice a7 n7 c7) (R.take k) ∧ Below w.heap.size w wr)) (fun _ v8 _ => n - (intOf v8).toNat)
  case atStart => exact ⟨0, none, 0, 0, rfl, rfl, Nat.zero_le _, o0⟩
  case round =>
    clear o0
    obtain ⟨k, a7, n7, c7, rfl, rfl, hkn, hO⟩ := hrel
    have k0 : (0 : Int) ≤ (k : Int) := by omega
    by_cases hk : k < n
    · have kI : (k : Int) < (n : Int) := by omega
      have kw : IntKind.i64.wrap ((k : Int) + 1) = ((k + 1 : Nat) : Int) := IntWalk.i64_in _ (by omega)
      obtain ⟨yb, yo, b, eb, rfl, _, cb⟩ := (hBH.out.below hO.out.2 (Nat.le_refl _)).get (k := k) (by rw [nH.out]; exact hk)
      have AP : Hid (∀ (r : Int) (m : Nat), R[k]? = some r → ∃ a' n' c' w', (∀ W' y', W' = (wr.drewN m).alloc (.cells #[.int .i64 r] 3) → y' = Value.slice (some ⟨wr.heap.size, 0, none⟩) 1 1 → (Builtin.append_ #[39, 39] 39 #[.slice a7 n7 c7, y']).run Tryz.prog W' = .ok (.slice a' n' c') w') ∧ I6.OE w' w.heap.size (.slice a' n' c') (R.take (k + 1)) ∧ Below w.heap.size w w') := fun r m hr => by
        have hd : Below wr.heap.size wr (wr.drewN m) := bl_drewN' (Below.refl _ _) m
        obtain ⟨v', w', h1, h2, h3, h4, _⟩ := I6.app_one (wr.drewN m) w.heap.size (.slice a7 n7 c7) (R.take k) (hO.out.1.below hd (Nat.le_refl _)) (hO.out.2.size) r 39 (by rw [List.length_take]; omega)
        obtain ⟨a', c', e', _⟩ := h2.ein
        rw [take_next hr] at h2 e'
        subst e'
        exact ⟨a', _, c', w', fun W' y' e1 e2 => by rw [e1, e2]; exact h1, h2, (hO.out.2.trans (hd.mono hO.out.2.size)).trans h4⟩
      unfold I6.vl at cb
      cases come with
      | true =>
        obtain ⟨xb, xo, a, ea, rfl, _, ca⟩ := (hAH.out.below hO.out.2 (Nat.le_refl _)).get (k := k) (by rw [hlH.out rfl, nH.out]; exact hk)
        unfold I6.vl at ca
        have hr := RC.out k a b rfl ea eb
        have kA : (k : Int) < (an : Int) := by have := hlH.out rfl; have := anH.out; have := nH.out; omega
        clear hO eb ea RC RN
        by_cases hq : a = b
        · subst hq
          rw [if_neg (by simp)] at hr
          have hrH : Hid (R[k]? = some a) := hr
          clear hr
          go_wp2_with fail
          go_quiet (fail)
          obtain ⟨a', n', c', w', h1, h2⟩ := AP.out a nq hrH.out
          have h1H : Hid _ := h1
          have h2H : Hid _ := h2
          clear h1 h2 AP
          go_wp2_with (at_builtin; refine append_runN (.tmp 32) (.tmp 34) (by rfl) _ (by rfl) _ _ _ _ (by rfl) (by rfl) (h1H.out _ _ (by first | rfl | simp) (by first | rfl | simp)) ?_)
          exact ⟨⟨k + 1, a', n', c', rfl, by first | rfl | (rw [kw]), hk, h2H⟩, by first | (simp [intOf]; done) | (simp [intOf]; omega)⟩
        · rw [if_pos hq] at hr
          have hrH : Hid (R[k]? = some 0) := hr
          clear hr
          go_wp2_with fail
          go_quiet (fail)
          obtain ⟨a', n', c', w', h1, h2⟩ := AP.out 0 nq hrH.out
          have h1H : Hid _ := h1
          have h2H : Hid _ := h2
          clear h1 h2 AP
          go_wp2_with (at_builtin; refine append_runN (.tmp 32) (.tmp 34) (by rfl) _ (by rfl) _ _ _ _ (by rfl) (by rfl) (h1H.out _ _ (by first | rfl | simp) (by first | rfl | simp)) ?_)
          exact ⟨⟨k + 1, a', n', c', rfl, by first | rfl | (rw [kw]), hk, h2H⟩, by first | (simp [intOf]; done) | (simp [intOf]; omega)⟩
      | false =>
        have hrH : Hid (R[k]? = some b) := by rw [RN.out rfl]; exact eb
        clear hO eb RC RN
        go_wp2_with fail
        go_quiet (fail)
        obtain ⟨a', n', c', w', h1, h2⟩ := AP.out b nq hrH.out
        have h1H : Hid _ := h1
        have h2H : Hid _ := h2
        clear h1 h2 AP
        go_wp2_with (at_builtin; refine append_runN (.tmp 32) (.tmp 34) (by rfl) _ (by rfl) _ _ _ _ (by rfl) (by rfl) (h1H.out _ _ (by first | rfl | simp) (by first | rfl | simp)) ?_)
        exact ⟨⟨k + 1, a', n', c', rfl, by first | rfl | (rw [kw]), hk, h2H⟩, by first | (simp [intOf]; done) | (simp [intOf]; omega)⟩
    · have kI : ¬ (k : Int) < (n : Int) := by omega
      have fin : Hid (I6.OE wr w.heap.size (.slice a7 n7 c7) R ∧ Below w.heap.size w wr) := by
        have := hO.out
        rw [List.take_of_length_le (by rw [RL.out, nH.out]; omega)] at this
        exact this
      clear hO RC RN
      go_wp2_with fail
      go_ret
      exact ⟨_, rfl, fin.out⟩
end Go.Proofs.YtdfnomglkibfbaaGreatDoor.Vf

namespace Go.Proofs.YtdfnomglkibfbaaGreatDoor.Vf
open Go.RowKit Go.Maps
set_option linter.unusedVariables false
set_option linter.unusedSimpArgs false
set_option maxRecDepth 100000
/-- within a round, behind what is certain. -/
structure BX (w : World) (B box : Nat) (tc ta : Int) (m : MpT) (q : Nat) (nv : Value) (L : List Nat) (v9 : Value) (cs : List Int) (W : World) : Prop where
  dx : DX w m q nv L W
  oe : T8.OE W B v9 cs
  i0 : W.cell? ⟨box, 0, none⟩ = some (.int .u8 tc)
  i1 : W.cell? ⟨box, 1, none⟩ = some (.int .i64 ta)
  bx : w.heap.size < box ∧ box < B
  nb : ∀ x, nv.ownBlock = some x → x < B
theorem BX.bring {w W : World} {B box : Nat} {tc ta : Int} {m : MpT} {q : Nat} {nv : Value} {L : List Nat} {v9 : Value} {cs : List Int} (h : BX w B box tc ta m q nv L v9 cs W) (hq : q ≤ 1000000) (k : Nat) (hk : k ≤ 65537) (hn : cs.length ≤ 65536) (hm : ∀ o, m k = some o → o.length = cs.length) : Calls Tryz.prog 86 #[.map (some w.heap.size), .int .i64 (k : Int), v9, .func (.func 87) #[] #[]] W fun e w' => e = .returned (.tuple #[]) ∧ BX w B box tc ta (bringT m k cs) (q + 1) nv L v9 cs w' := by
  have hb1 := h.bx
  have hlt : box < W.heap.size := World.block_lt_of_cell? _ _ h.i1
  refine (h.dx.bring hq k hk (fun x hx => ?_) h.oe hn hm).mono (fun e w' ⟨h1, h2, h3⟩ => ⟨h1, h2, ?_, ?_, ?_, h.bx, h.nb⟩)
  · have := (h.oe.bound hx).1
    refine ⟨by omega, fun e => ?_⟩
    have := h.nb x e.symm
    omega
  · refine h.oe.keep fun x hx => ?_
    have := h.oe.bound hx
    exact h3.block x this.2 (fun e => by injection e; omega)
  · rw [World.cell?_of_block (w := W) (h3.block box hlt (fun e => by injection e; omega))]; exact h.i0
  · rw [World.cell?_of_block (w := W) (h3.block box hlt (fun e => by injection e; omega))]; exact h.i1
set_option maxHeartbeats 16000000 in
theorem dead_any (l : List InP) (h : Nat → Int) (H : HOk l h) (F : Fil l) (J : Jmp l) (hcb : ∀ (j : Nat) (t : InP), l[j]? = some t → t.c < 256) (a : Option Addr) (c : Nat) (hn : l.length ≤ 65536) (w : World) (hR : RT w) (hI : InIn w a l) : Calls Tryz.prog 33 #[.slice a l.length c] w fun e w' => ∃ v, e = .returned v ∧ I6.OE w' w.heap.size v (nat2 (deadL l)) ∧ Below w.heap.size w w' := by
  have STO : Hid (∀ (k : Nat) (t : InP) (s : List Int), l[k]? = some t → (dmP l k).1 k = some s → StO l h k t s) := fun k t s ht hm => sto_of H F J ht hm
  have DLT : Hid (∀ k, k ≤ l.length → (dmP l k).2.length ≤ k) := fun k hk => (dead_lt k hk).2
  have hIH : Hid (InIn w a l) := hI
  have hTH : Hid (RT w ∧ 1 < w.heap.size) := ⟨hR, hR.lt⟩
  obtain ⟨n, hnn⟩ : ∃ n, l.length = n := ⟨_, rfl⟩
  have hnH : Hid (l.length = n) := hnn
  have DD : Hid ((dmP l n).2 = deadL l) := by
    exact (by rw [← hnn]; rfl : (dmP l n).2 = deadL l)
  rw [hnn] at hn ⊢
  have hmk : ∀ W, (Instr.makeMap 138 none).run Tryz.prog W = .ok (.map (some W.heap.size)) (W.alloc (.map #[] 0)) := fun W => by
    first | exact run_makeMap_none W | (simp [Instr.makeMap, go_sem]; done) | (unfold Instr.makeMap; simp [newObj, go_sem])
  obtain ⟨W1, hup, hst⟩ := DX.start w
  have hstH : Hid (DX w (dmP l 0).1 (2 * 0 + 1) (.slice none 0 0) (dmP l 0).2 W1) := hst
  clear hnn hI hR H F J hst
  go_enter Tryz.func33, Tryz.ntmps33
  go_wp2_with fail
  clear hup hmk
  go_loopw [3, 16] (fun v3 v16 wr => ∃ (k : Nat) (na : Option Addr) (nn nc : Nat), v3 = .slice na nn nc ∧ v16 = .int .i64 (k : Int) ∧ k ≤ n ∧ Hid (DX w (dmP l k).1 (2 * k + 1) (.slice na nn nc) (dmP l k).2 wr)) (fun _ v16 _ => n - (intOf v16).toNat)
  case atStart => exact ⟨0, none, 0, 0, rfl, rfl, Nat.zero_le _, hstH⟩
  case round =>
    clear hstH
    obtain ⟨k, na, nn, nc, rfl, rfl, hkn, hD⟩ := hrel
    have k0 : (0 : Int) ≤ (k : Int) := by omega
    by_cases hk : k < n
    · have kI : (k : Int) < (n : Int) := by omega
      have kw : IntKind.i64.wrap ((k : Int) + 1) = ((k + 1 : Nat) : Int) := IntWalk.i64_in _ (by omega)
      obtain ⟨g, off, t, et, ea, gl, c1, c2, c3⟩ := (hIH.out.below hD.out.1 (Nat.le_refl _)).at (k := k) (by rw [hnH.out]; exact hk)
      subst ea
      obtain ⟨tc, ta, tb⟩ := t
      have tcb := hcb k _ et
      simp only at tcb
      have etH : Hid (l[k]? = some ⟨tc, ta, tb⟩) := et
      have hwr : w.heap.size < wr.heap.size := by obtain ⟨_, ⟨c, _, hm⟩, _⟩ := hD.out; exact hm.lt
      have cT : Hid (∀ W, W = wr.alloc (.cells #[.int .u8 (tc : Int), .int .i64 ta, .int .i64 tb] 59) → Calls Tryz.prog 83 #[.map (some w.heap.size), .int .i64 (k : Int)] W fun e w' => ∃ v b, e = .returned (.tuple #[v, .bool b]) ∧ Hid (Lkd w' w.heap.size (Value.slice na nn nc).ownBlock ((dmP l k).1 k) v b ∧ DX w (dropT (dmP l k).1 k) (2 * k + 1) (.slice na nn nc) (dmP l k).2 w' ∧ w'.cell? ⟨wr.heap.size, 0, none⟩ = some (.int .u8 (tc : Int)) ∧ w'.cell? ⟨wr.heap.size, 1, none⟩ = some (.int .i64 ta) ∧ wr.heap.size < w'.heap.size ∧ ∀ x, (Value.slice na nn nc).ownBlock = some x → x < w'.heap.size)) := fun W hW => by
        have hb : Below wr.heap.size wr W := by rw [hW]; exact (Below.refl _ _).alloc (Nat.le_refl _) _
        have sW : W.heap.size = wr.heap.size + 1 := by rw [hW]; simp
        have w0 : W.cell? ⟨wr.heap.size, 0, none⟩ = some (.int .u8 (tc : Int)) := by rw [hW]; simp [go_sem]
        have w1 : W.cell? ⟨wr.heap.size, 1, none⟩ = some (.int .i64 ta) := by rw [hW]; simp [go_sem]
        refine ((hD.out.below hb).take k (by omega)).mono (fun e w' ⟨v, b, h1, h2, h3, hg⟩ => ⟨v, b, h1, h2, h3, ?_, ?_, ?_, fun x hx => (h3.2.2.bound hx).2⟩)
        · rw [World.cell?_of_block (w := W) (hg.block wr.heap.size (by omega) (fun e => by injection e; omega))]; exact w0
        · rw [World.cell?_of_block (w := W) (hg.block wr.heap.size (by omega) (fun e => by injection e; omega))]; exact w1
        · have := hg.size; omega
      clear hD et
      go_wp2_with fail
      with_reducible refine Calls.mono (cT.out _ rfl) ?_
      rintro e wB ⟨v, b, rfl, hB⟩
      clear cT c1 c2 c3 gl
      obtain ⟨lk, dB, i0, i1, szB, nvB⟩ := hB.out
      clear hB
      cases hm : (dmP l k).1 k with
      | none =>
        rw [hm] at lk
        obtain ⟨rfl, rfl⟩ := lk
        obtain ⟨v', w', hr, hx⟩ := dB.app k (by have := DLT.out k (by rw [hnH.out]; omega); omega)
        obtain ⟨na', nc', ev, _⟩ := hx.2.2.ein
        have hrH : Hid (∀ W' y', W' = wB.alloc (.cells #[.int .i64 (k : Int)] 3) → y' = Value.slice (some ⟨wB.heap.size, 0, none⟩) 1 1 → (Builtin.append_ #[39, 39] 39 #[.slice na nn nc, y']).run Tryz.prog W' = .ok v' w') := fun W' y' e1 e2 => by rw [e1, e2]; exact hr
        have NX : Hid (DX w (dmP l (k + 1)).1 (2 * (k + 1) + 1) v' (dmP l (k + 1)).2 w') := by
          have e := dmP_none etH.out hm
          have hx2 : DX w (dropT (dmP l k).1 k) (2 * (k + 1) + 1) v' ((dmP l k).2 ++ [k]) w' := ⟨hx.1, by obtain ⟨c, q1, q2⟩ := hx.2.1; exact ⟨c, by omega, q2⟩, hx.2.2⟩
          rw [e]
          exact hx2
        rw [ev] at NX hrH
        clear hr hx ev dB i0 i1 nvB etH STO DLT DD hTH hIH hnH hm
        go_wp2_with (at_builtin; refine append_run (.tmp 29) (.tmp 31) (by rfl) _ (by rfl) _ _ _ _ (by rfl) (by rfl) (hrH.out _ _ (by first | rfl | simp) (by first | rfl | simp)) ?_)
        exact ⟨⟨k + 1, _, _, _, rfl, by first | rfl | (rw [kw]), by omega, NX⟩, by first | (simp [intOf]; done) | (simp [intOf]; omega)⟩
      | some s =>
        rw [hm] at lk
        obtain ⟨rfl, a2, cc, rfl, hcc, hs⟩ := lk
        have so := STO.out k _ s etH.out hm
        have hTB : RT wB := hTH.out.1.below dB.1 hTH.out.2
        have cC0 := certain_any s tc so.c1 so.c2 so.tk so.ln so.tr a2 hs.1 cc hcc wB hTB hs.2.1
        have cL0 := fun (W : World) (hW : Below wB.heap.size wB W) => leads_any tc so.l1 so.ln a2 cc W (hs.2.1.below hW (Nat.le_refl _))
        have hja : leadJ tc s = true → ∃ ja : Nat, ta = (ja : Int) ∧ ja ≤ 65536 := fun q => by
          have := so.ja q
          simp only at this
          rw [hnH.out] at this
          exact ⟨ta.toNat, by omega, by omega⟩
        have cl := so.cl
        have lj := so.lj
        have lg := so.lg
        simp only at cl lj lg
        have NX0 : Hid (∀ m' q' W', m' = stepT (dmP l k).1 k ⟨tc, ta, tb⟩ s → q' ≤ 2 * (k + 1) + 1 → DX w m' q' (.slice na nn nc) (dmP l k).2 W' → DX w (dmP l (k + 1)).1 (2 * (k + 1) + 1) (.slice na nn nc) (dmP l (k + 1)).2 W') := fun m' q' W' e1 e2 hx => by
          rw [dmP_some etH.out hm, ← e1]
          exact ⟨hx.1, by obtain ⟨c, q1, q2⟩ := hx.2.1; exact ⟨c, by omega, q2⟩, hx.2.2⟩
        have BX0 : Hid (∀ v9 W, T8.OE W wB.heap.size v9 (certP tc s) → Below wB.heap.size wB W → BX w wB.heap.size wr.heap.size tc ta (dropT (dmP l k).1 k) (2 * k + 1) (.slice na nn nc) (dmP l k).2 v9 (certP tc s) W) := fun v9 W ho hb => ⟨dB.below hb, ho, by rw [hb.cell (p := ⟨wr.heap.size, 0, none⟩) szB]; exact i0, by rw [hb.cell (p := ⟨wr.heap.size, 1, none⟩) szB]; exact i1, ⟨hwr, szB⟩, nvB⟩
        have SP : Hid (stepT (dmP l k).1 k ⟨tc, ta, tb⟩ s = if leadG tc s = true then bringT (if leadJ tc s = true then bringT (dropT (dmP l k).1 k) ta.toNat (certP tc s) else dropT (dmP l k).1 k) (k + 1) (certP tc s) else if leadJ tc s = true then bringT (dropT (dmP l k).1 k) ta.toNat (certP tc s) else dropT (dmP l k).1 k) := rfl
        clear so hm etH STO DLT hTB dB nvB hs hcc hTH hIH DD
        generalize stepT (dmP l k).1 k ⟨tc, ta, tb⟩ s = mN at *
        generalize certP tc s = cs at *
        generalize dropT (dmP l k).1 k = mD at *
        generalize (dmP l k).2 = LL at *
        generalize leadJ tc s = bj at *
        generalize leadG tc s = bg at *
        generalize s.length = sl at *
        have cC : Hid (Calls Tryz.prog 84 #[.slice a2 sl cc, .int .u8 (tc : Int)] wB fun e w' => ∃ v, e = .returned v ∧ T8.OE w' wB.heap.size v cs ∧ Below wB.heap.size wB w') := cC0
        have cL : Hid (∀ W, Below wB.heap.size wB W → Calls Tryz.prog 85 #[.slice a2 sl cc, .int .u8 (tc : Int)] W fun e w' => e = .returned (.tuple #[.bool bj, .bool bg]) ∧ w' = W) := cL0
        clear cC0 cL0
        go_wp2_with fail
        with_reducible refine Calls.mono cC.out ?_
        rintro e w3 ⟨v9, rfl, o9, b3⟩
        obtain ⟨a9, c9, e9, _⟩ := o9.ein
        subst e9
        have bx : Hid (BX w wB.heap.size wr.heap.size tc ta mD (2 * k + 1) (.slice na nn nc) LL (.slice a9 cs.length c9) cs w3) := BX0.out _ w3 o9 b3
        have j0 := bx.out.i0
        have j1 := bx.out.i1
        clear cC BX0 o9 i0 i1
        obtain ⟨n9, hn9⟩ : ∃ n9, cs.length = n9 := ⟨_, rfl⟩
        have n9H : Hid (cs.length = n9) := hn9
        rw [hn9] at bx cl lj lg ⊢
        clear hn9
        go_wp2_with fail
        with_reducible refine Calls.mono (cL.out _ b3) ?_
        rintro e w4 ⟨rfl, rfl⟩
        clear cL b3 szB
        cases bj with
        | true =>
          obtain ⟨ja, rfl, ja2⟩ := hja rfl
          have cJ : Hid (Calls Tryz.prog 86 #[.map (some w.heap.size), .int .i64 (ja : Int), .slice a9 n9 c9, (.func (.func 87) #[] #[])] w4 fun e w' => e = .returned (.tuple #[]) ∧ Hid (BX w wB.heap.size wr.heap.size tc (ja : Int) (bringT mD ja cs) (2 * k + 1 + 1) (.slice na nn nc) LL (.slice a9 n9 c9) cs w')) := (bx.out.bring (by omega) ja (by omega) (by rw [n9H.out]; exact cl) (fun o ho => by rw [n9H.out]; exact lj rfl o (by simpa using ho))).mono (fun e w' hh => ⟨hh.1, hh.2⟩)
          clear bx hja
          go_wp2_with fail
          with_reducible refine Calls.mono cJ.out ?_
          rintro e w5 ⟨rfl, bx5⟩
          clear cJ j0 j1
          cases bg with
          | true =>
            have cG : Hid (Calls Tryz.prog 86 #[.map (some w.heap.size), .int .i64 ((k : Int) + 1), .slice a9 n9 c9, (.func (.func 87) #[] #[])] w5 fun e w' => e = .returned (.tuple #[]) ∧ Hid (DX w (dmP l (k + 1)).1 (2 * (k + 1) + 1) (.slice na nn nc) (dmP l (k + 1)).2 w')) := by
              have e : ((k + 1 : Nat) : Int) = (k : Int) + 1 := by omega
              rw [← e]
              exact (bx5.out.bring (by omega) (k + 1) (by omega) (by rw [n9H.out]; exact cl) (fun o ho => by rw [n9H.out]; exact lg o (by simpa using ho))).mono (fun e w' hh => ⟨hh.1, NX0.out _ _ _ (by rw [SP.out]; simp) (by omega) hh.2.dx⟩)
            clear bx5 NX0 SP cl lj lg
            go_wp2_with fail
            with_reducible refine Calls.mono cG.out ?_
            rintro e w6 ⟨rfl, NX⟩
            clear cG
            go_wp2_with fail
            exact ⟨⟨k + 1, na, nn, nc, rfl, by first | rfl | (rw [kw]), by omega, NX⟩, by first | (simp [intOf]; done) | (simp [intOf]; omega)⟩
          | false =>
            have NX : Hid (DX w (dmP l (k + 1)).1 (2 * (k + 1) + 1) (.slice na nn nc) (dmP l (k + 1)).2 w5) := NX0.out _ _ _ (by rw [SP.out]; simp) (by omega) bx5.out.dx
            clear bx5 NX0 SP cl lj lg
            go_wp2_with fail
            exact ⟨⟨k + 1, na, nn, nc, rfl, by first | rfl | (rw [kw]), by omega, NX⟩, by first | (simp [intOf]; done) | (simp [intOf]; omega)⟩
        | false =>
          cases bg with
          | true =>
            obtain ⟨w5, hw5⟩ : ∃ w5, w5 = w4 := ⟨_, rfl⟩
            have bx5 := bx
            rw [← hw5] at bx5
            clear bx
            subst hw5
            have cG : Hid (Calls Tryz.prog 86 #[.map (some w.heap.size), .int .i64 ((k : Int) + 1), .slice a9 n9 c9, (.func (.func 87) #[] #[])] w5 fun e w' => e = .returned (.tuple #[]) ∧ Hid (DX w (dmP l (k + 1)).1 (2 * (k + 1) + 1) (.slice na nn nc) (dmP l (k + 1)).2 w')) := by
              have e : ((k + 1 : Nat) : Int) = (k : Int) + 1 := by omega
              rw [← e]
              exact (bx5.out.bring (by omega) (k + 1) (by omega) (by rw [n9H.out]; exact cl) (fun o ho => by rw [n9H.out]; exact lg o (by simpa using ho))).mono (fun e w' hh => ⟨hh.1, NX0.out _ _ _ (by rw [SP.out]; simp) (by omega) hh.2.dx⟩)
            clear bx5 NX0 SP cl lj lg
            go_wp2_with fail
            with_reducible refine Calls.mono cG.out ?_
            rintro e w6 ⟨rfl, NX⟩
            clear cG
            go_wp2_with fail
            exact ⟨⟨k + 1, na, nn, nc, rfl, by first | rfl | (rw [kw]), by omega, NX⟩, by first | (simp [intOf]; done) | (simp [intOf]; omega)⟩
          | false =>
            have NX : Hid (DX w (dmP l (k + 1)).1 (2 * (k + 1) + 1) (.slice na nn nc) (dmP l (k + 1)).2 w4) := NX0.out _ _ _ (by rw [SP.out]; simp) (by omega) bx.out.dx
            clear bx NX0 SP cl lj lg
            go_wp2_with fail
            exact ⟨⟨k + 1, na, nn, nc, rfl, by first | rfl | (rw [kw]), by omega, NX⟩, by first | (simp [intOf]; done) | (simp [intOf]; omega)⟩
    · have kI : ¬ (k : Int) < (n : Int) := by omega
      obtain rfl : k = n := by omega
      have fin : Hid (I6.OE wr w.heap.size (.slice na nn nc) (nat2 (deadL l)) ∧ Below w.heap.size w wr) := by
        have := hD.out
        rw [DD.out] at this
        exact ⟨this.2.2.mono (by omega), this.1⟩
      clear hD STO DLT hTH hIH DD hnH
      go_wp2_with fail
      go_ret
      exact ⟨_, rfl, fin.out⟩
end Go.Proofs.YtdfnomglkibfbaaGreatDoor.Vf

namespace Go.Proofs.YtdfnomglkibfbaaGreatDoor.Vf.BL
open Go.RowKit
set_option linter.unusedVariables false
set_option linter.unusedSimpArgs false
set_option maxRecDepth 100000
def vl (x : Bool) : Value := .bool x
theorem tp : Tp 49 4 1 1 := by
  have hi : (Tryz.prog.info? 4).map (fun i => (i.zero, i.bytes, i.size)) = some (some (.bool false), 1, 1) := by kernel_rfl
  obtain ⟨i, i1, i0⟩ := Option.map_eq_some_iff.1 hi
  exact ⟨i, _, Tryz.underlying49, i1, congrArg (·.1) i0, congrArg (·.2.2) i0, congrArg (·.2.1) i0, rfl, by omega⟩
/-- in memory. -/
def In (w : World) (a : Option Addr) (l : List Bool) : Prop := l = [] ∨ ∃ b off, a = some ⟨b, off, none⟩ ∧ b < w.heap.size ∧ ∀ i t, l[i]? = some t → w.cell? ⟨b, off + i, none⟩ = some (vl t)
theorem In.below {w w' : World} {a : Option Addr} {l : List Bool} {n : Nat} (h : In w a l) (hb : Below n w w') (hn : w.heap.size ≤ n) : In w' a l := by
  rcases h with h | ⟨b, off, h1, h2, h3⟩
  · exact Or.inl h
  · exact Or.inr ⟨b, off, h1, Nat.lt_of_lt_of_le h2 hb.size, fun i t ht => by rw [hb.cell (p := ⟨b, off + i, none⟩) (Nat.lt_of_lt_of_le h2 hn)]; exact h3 i t ht⟩
theorem In.emp {w : World} {l : List Bool} (h : In w none l) : l = [] := by
  rcases h with h | ⟨b, off, h1, _⟩
  · exact h
  · cases h1
theorem In.get {w : World} {a : Option Addr} {l : List Bool} (h : In w a l) {k : Nat} (hk : k < l.length) : ∃ b off t, l[k]? = some t ∧ a = some ⟨b, off, none⟩ ∧ b < w.heap.size ∧ w.cell? ⟨b, off + k, none⟩ = some (vl t) := by
  obtain ⟨t, ht⟩ : ∃ t, l[k]? = some t := ⟨_, List.getElem?_eq_getElem hk⟩
  rcases h with h | ⟨b, off, h1, h2, h3⟩
  · rw [h] at hk; simp at hk
  · exact ⟨b, off, t, ht, h1, h2, h3 k t ht⟩
theorem In.take {w : World} {a : Option Addr} {l : List Bool} (h : In w a l) (n : Nat) : In w a (l.take n) := by
  rcases h with h | ⟨b, off, h1, h2, h3⟩
  · rw [h]; exact Or.inl (by simp)
  · exact Or.inr ⟨b, off, h1, h2, fun i t ht => h3 i t (by rw [List.getElem?_take] at ht; split at ht; exact ht; cases ht)⟩
theorem In.news {w : World} {a : Option Addr} {l : List Bool} (h : In w a l) (ad : Addr) (e : a = some ad) : ∀ j u, (l.map vl)[j]? = some u → w.cell? (ad.add j) = some u := fun j u hj => by
  rw [List.getElem?_map, Option.map_eq_some_iff] at hj
  obtain ⟨t, ht, rfl⟩ := hj
  rcases h with h | ⟨b, off, h1, h2, h3⟩
  · rw [h] at ht; simp at ht
  · rw [e] at h1
    injection h1 with h1
    subst h1
    rw [add_at0]
    exact h3 j t ht
/-- one's own. -/
def OE (w : World) (B : Nat) (v : Value) (l : List Bool) : Prop := w.ownsRow B 4 1 v l.length (l.map vl)
theorem OE.ein {w : World} {B : Nat} {v : Value} {l : List Bool} (h : OE w B v l) : ∃ a cap, v = .slice a l.length cap ∧ l.length ≤ cap ∧ In w a l ∧ (a = none ∨ ∃ b, a = some ⟨b, 0, none⟩ ∧ B ≤ b ∧ b < w.heap.size) := by
  rcases h.2 with ⟨e, e0⟩ | ⟨g, cap, cur, e1, hB, hg, hc, _⟩
  · exact ⟨none, 0, by rw [e, e0], by omega, Or.inl (List.eq_nil_of_length_eq_zero e0), Or.inl rfl⟩
  · subst e1
    have hcs := World.ownsRow.cells h (g := g) rfl
    have hlt := (World.ownsRow.lt h g rfl).2
    refine ⟨some ⟨g, 0, none⟩, cap, rfl, hc, Or.inr ⟨g, 0, rfl, hlt, fun i s hs => ?_⟩, Or.inr ⟨g, rfl, hB, hlt⟩⟩
    have k1 := hcs i (vl s) (by rw [List.getElem?_map, hs]; rfl)
    rw [add_at0, Nat.zero_add] at k1
    rw [Nat.zero_add]
    exact k1
theorem OE.nil (w : World) (B : Nat) : OE w B (.slice none 0 0) [] := ⟨rfl, Or.inl ⟨rfl, rfl⟩⟩
theorem OE.below {w w' : World} {B C : Nat} {v : Value} {l : List Bool} (h : OE w B v l) (hb : Below C w w') (hC : w.heap.size ≤ C) : OE w' B v l := by
  refine ⟨h.1, ?_⟩
  rcases h.2 with h2 | ⟨g, cap, cur, e1, e2, e3, e4⟩
  · exact Or.inl h2
  · exact Or.inr ⟨g, cap, cur, e1, e2, by rw [hb.block g (Nat.lt_of_lt_of_le (Array.getElem?_eq_some_iff.1 e3).1 hC)]; exact e3, e4⟩
theorem OE.bound {w : World} {B : Nat} {v : Value} {l : List Bool} (h : OE w B v l) {k : Nat} (e : v.ownBlock = some k) : B ≤ k ∧ k < w.heap.size := by
  rcases h.2 with ⟨e1, e0⟩ | ⟨g, cap, cur, e1, _, hg, hc, _⟩
  · rw [e1] at e; cases e
  · subst e1
    have : g = k := by simpa [Value.ownBlock] using e
    subst this
    exact World.ownsRow.lt h g rfl
theorem OE.mono {w : World} {B C : Nat} {v : Value} {l : List Bool} (h : OE w B v l) (hC : C ≤ B) : OE w C v l := by
  refine ⟨h.1, ?_⟩
  rcases h.2 with h2 | ⟨g, cap, cur, e1, e2, e3⟩
  · exact Or.inl h2
  · exact Or.inr ⟨g, cap, cur, e1, Nat.le_trans hC e2, e3⟩
/-- another block changes. -/
theorem OE.keep {w w' : World} {B : Nat} {v : Value} {l : List Bool} (h : OE w B v l) (hk : ∀ k, v.ownBlock = some k → w'.heap[k]? = w.heap[k]?) : OE w' B v l := by
  refine ⟨h.1, ?_⟩
  rcases h.2 with h2 | ⟨g, cap, cur, e1, e2, e3, e4⟩
  · exact Or.inl h2
  · exact Or.inr ⟨g, cap, cur, e1, e2, by rw [hk g (by rw [e1]; rfl)]; exact e3, e4⟩
theorem OE.cell {w : World} {B g n c : Nat} {l : List Bool} (h : OE w B (.slice (some ⟨g, 0, none⟩) n c) l) {k : Nat} {t : Bool} (ht : l[k]? = some t) : w.cell? ⟨g, k, none⟩ = some (vl t) := by
  have k1 := World.ownsRow.cells h (g := g) rfl k (vl t) (by rw [List.getElem?_map, ht]; rfl)
  rw [add_at0, Nat.zero_add] at k1
  exact k1
theorem OE.fz {w : World} {B g n c : Nat} {l : List Bool} (h : OE w B (.slice (some ⟨g, 0, none⟩) n c) l) (k : Nat) : w.frozen? ⟨g, k, none⟩ = false := by
  rcases h.2 with ⟨e, _⟩ | ⟨g', cap, cur, e1, _, hg, _⟩
  · simp at e
  · injection e1 with e1
    injection e1 with e1
    injection e1 with e1
    subst e1
    exact frozen_of_row _ g k _ _ hg
theorem OE.set {w : World} {B g n c : Nat} {l : List Bool} (h : OE w B (.slice (some ⟨g, 0, none⟩) n c) l) (k : Nat) (x : Bool) : OE (w.setCell ⟨g, k, none⟩ (vl x)) B (.slice (some ⟨g, 0, none⟩) n c) (l.set k x) ∧ w.grownBy (w.setCell ⟨g, k, none⟩ (vl x)) (some g) := by
  obtain rfl : n = l.length := by
    rcases h.2 with ⟨e, _⟩ | ⟨g', cap, cur, e1, _⟩
    · simp at e
    · simp at e1; exact e1.2.1
  have := World.ownsRow.stored h k (vl x)
  refine ⟨?_, this.2⟩
  unfold OE
  rw [List.length_set, List.map_set]
  exact this.1
theorem OE.empty (w : World) : OE (w.alloc (.cells #[] 4)) w.heap.size (.slice (some ⟨w.heap.size, 0, none⟩) 0 0) [] := ⟨by simp, Or.inr ⟨w.heap.size, 0, #[], rfl, Nat.le_refl _, heap_alloc_new w _, Nat.le_refl _, by omega, by simp, by simp⟩⟩
theorem app_no (W : World) (a ad : Option Addr) (n cap c : Nat) (ty : TypeId) (h : n ≤ cap) : (Builtin.append_ #[49, 49] ty #[.slice a n cap, .slice ad 0 c]).run Tryz.prog W = .ok (.slice a n cap) W := by
  obtain ⟨i, z, t1, t2, t3, t4, t5, t6, t7⟩ := tp
  cases a <;> cases ad <;> simp [Builtin.append_, run_underlying t1, sizeOf, typeInfo, t2, Builtin.lenOf, Builtin.firstCells, storeCells, loadCells, loadCellsFrom, h]
/-- some appended, or none. -/
theorem app (W : World) (B : Nat) (v : Value) (l f : List Bool) (h : OE W B v l) (hB : B ≤ W.heap.size) (a : Option Addr) (c : Nat) (ty : TypeId) (hf : In W a f) (hn : l.length + f.length ≤ 4398046511104) :
    ∃ v' w', (Builtin.append_ #[49, 49] ty #[v, .slice a f.length c]).run Tryz.prog W = .ok v' w' ∧ OE w' B v' (l ++ f) ∧ W.grownBy w' v.ownBlock ∧ (v'.ownBlock = v.ownBlock ∨ v'.ownBlock = some W.heap.size) := by
  rcases Nat.eq_zero_or_pos f.length with h0 | h0
  · have e := List.eq_nil_of_length_eq_zero h0
    subst e
    obtain ⟨a1, c1, e1, hc1, _⟩ := h.ein
    exact ⟨v, W, by rw [e1]; exact app_no _ _ _ _ _ _ _ hc1, by rw [List.append_nil]; exact h, ⟨rfl, rfl, rfl, Nat.le_refl _, fun k hk hne => rfl⟩, Or.inl rfl⟩
  · have hf' := hf
    rcases hf with e | ⟨b, off, e, hb, hc⟩
    · rw [e] at h0; simp at h0
    · subst e
      obtain ⟨i, z, t1, t2, t3, t4, t5, t6, t7⟩ := tp
      have hml : maxLen = 9223372036854775807 := by decide
      obtain ⟨g, cap, w', hr, own, gr, hat, hlt⟩ := run_append_lies (P := Tryz.prog) W 49 ty B 4 i z 1 1 t1 t2 t3 t4 t5 t6 t7 v l.length (l.map vl) h ⟨b, off, none⟩ f.length c (f.map vl) (by simp) (hf'.news _ rfl) (fun u hu => by obtain ⟨t, _, rfl⟩ := List.mem_map.1 hu; rfl) h0 (by omega) (by omega) hB _ rfl
      refine ⟨_, w', hr, ?_, gr, ?_⟩
      · unfold OE; rw [List.length_append, List.map_append]; exact own
      · rcases hat with e | e
        · exact Or.inl e.symm
        · subst e; exact Or.inr rfl
theorem grown_below {W w' : World} {B : Nat} {v : Value} {l : List Bool} (h : OE W B v l) (hB : B ≤ W.heap.size) (gr : W.grownBy w' v.ownBlock) : Below B W w' := (Below.refl B W).grown gr hB (fun k e => (h.bound e).1)
/-- one appended. -/
theorem app_one (W : World) (B : Nat) (v : Value) (l : List Bool) (h : OE W B v l) (hB : B ≤ W.heap.size) (x : Bool) (ty : TypeId) (hn : l.length + 1 ≤ 4398046511104) :
    ∃ v' w', (Builtin.append_ #[49, 49] ty #[v, .slice (some ⟨W.heap.size, 0, none⟩) 1 1]).run Tryz.prog (W.alloc (.cells #[vl x] 4)) = .ok v' w' ∧ OE w' B v' (l ++ [x]) ∧ (W.alloc (.cells #[vl x] 4)).grownBy w' v.ownBlock ∧ Below B W w' ∧ (v'.ownBlock = v.ownBlock ∨ v'.ownBlock = some (W.heap.size + 1)) := by
  have b0 : Below W.heap.size W (W.alloc (.cells #[vl x] 4)) := (Below.refl _ W).alloc (Nat.le_refl _) _
  have h1 := h.below b0 (Nat.le_refl _)
  have hs : (W.alloc (.cells #[vl x] 4)).heap.size = W.heap.size + 1 := by simp
  obtain ⟨v', w', hr, ho, hg, hat⟩ := app _ B v l [x] h1 (by omega) (some ⟨W.heap.size, 0, none⟩) 1 ty (Or.inr ⟨W.heap.size, 0, rfl, by omega, fun i t ht => by
    cases i with
    | zero => simp at ht; subst ht; simp [go_sem]
    | succ i => simp at ht⟩) (by simpa using hn)
  rw [hs] at hat
  exact ⟨v', w', hr, ho, hg, (b0.mono hB).trans (grown_below h1 (by omega) hg), hat⟩
end Go.Proofs.YtdfnomglkibfbaaGreatDoor.Vf.BL
