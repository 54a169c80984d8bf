
import Derived.Test.YtepakgfdakeibaaGreatDoorBaA
namespace Go.Proofs.YtepakgfdakeibaaGreatDoor.So
set_option linter.unusedVariables false
/-! ### plain: pieces in order, laid into a heap, taken off (batch's sorted) -/
variable {ah : Nat → Nat → Bool}
/-- an order of the places below n. -/
structure AO (ah : Nat → Nat → Bool) (n : Nat) : Prop where
  irr : ∀ i, i < n → ah i i = false
  tr : ∀ i j k, ah i j = true → ah j k = true → ah i k = true
  tot : ∀ i j, i < n → j < n → i ≠ j → ah i j = true ∨ ah j i = true
/-- a piece: the places [s, e), in order. -/
abbrev Pc := Nat × Nat
def Run (ah : Nat → Nat → Bool) (p : Pc) : Prop := p.1 < p.2 ∧ ∀ j, p.1 < j → j < p.2 → ah (j - 1) j = true
theorem Run.ahead {n : Nat} (o : AO ah n) {p : Pc} (h : Run ah p) : ∀ j, p.1 < j → j < p.2 → ah p.1 j = true := by
  intro j
  induction j with
  | zero => intro a; omega
  | succ j ih =>
    intro a b
    have h1 := h.2 (j + 1) a b
    rw [Nat.add_sub_cancel] at h1
    by_cases c : p.1 = j
    · rw [c]; exact h1
    · exact o.tr _ _ _ (ih (by omega) (by omega)) h1
def hl (ah : Nat → Nat → Bool) : Pc → Pc → Bool := fun x y => ah x.1 y.1
/-- m pieces, apart, of places below n. -/
structure Ps (ah : Nat → Nat → Bool) (n m : Nat) (h : Nat → Pc) : Prop where
  run : ∀ i, i < m → Run ah (h i) ∧ (h i).2 ≤ n
  apart : ∀ i j p, i < m → j < m → i ≠ j → (h i).1 ≤ p → p < (h i).2 → ¬ ((h j).1 ≤ p ∧ p < (h j).2)
def Rem (m : Nat) (h : Nat → Pc) (p : Nat) : Prop := ∃ i, i < m ∧ (h i).1 ≤ p ∧ p < (h i).2
theorem Ps.tt {n m : Nat} {h : Nat → Pc} (o : AO ah n) (q : Ps ah n m h) : Tt (hl ah) m h := fun i j hi hj hne => by
  have a := q.run i hi
  have b := q.run j hj
  refine o.tot _ _ (by have := a.1.1; omega) (by have := b.1.1; omega) fun e => ?_
  exact q.apart i j (h i).1 hi hj hne (Nat.le_refl _) a.1.1 ⟨by omega, by have := b.1.1; omega⟩
theorem Ps.pr {n m : Nat} {h g : Nat → Pc} (q : Ps ah n m h) (p : Pr 0 m h g) : Ps ah n m g := by
  obtain ⟨s, u, x1, x2, x3, x4, x5⟩ := p
  refine ⟨fun i hi => by rw [x1]; exact q.run _ (x2 i (Nat.zero_le _) hi).2, fun i j p hi hj hne => ?_⟩
  rw [x1, x1]
  exact q.apart _ _ p (x2 i (Nat.zero_le _) hi).2 (x2 j (Nat.zero_le _) hj).2 (fun e => hne (by have := congrArg u e; rw [x5, x5] at this; exact this))
theorem Rem.pr {m : Nat} {h g : Nat → Pc} (p : Pr 0 m h g) (x : Nat) : Rem m g x ↔ Rem m h x := by
  constructor
  · rintro ⟨i, hi, a, b⟩
    obtain ⟨s, u, x1, x2, x3, x4, x5⟩ := p
    rw [x1] at a b
    exact ⟨s i, (x2 i (Nat.zero_le _) hi).2, a, b⟩
  · rintro ⟨i, hi, a, b⟩
    obtain ⟨j, _, hj, e⟩ := p.back i (Nat.zero_le _) hi
    exact ⟨j, hj, by rw [e]; exact a, by rw [e]; exact b⟩
/-- what stands while the first of all is taken off: out is in order, ahead of all that remain; each place is in just one of both. -/
structure So1 (ah : Nat → Nat → Bool) (n m : Nat) (h : Nat → Pc) (out : List Nat) : Prop where
  ps : Ps ah n m h
  ord : out.Pairwise fun x y => ah x y = true
  fore : ∀ x p, x ∈ out → Rem m h p → ah x p = true
  all : ∀ p, p < n ↔ (p ∈ out ∨ Rem m h p)
theorem So1.rem_lt {n m : Nat} {h : Nat → Pc} {out : List Nat} (s : So1 ah n m h out) {p : Nat} (r : Rem m h p) : p < n := (s.all p).2 (Or.inr r)
theorem So1.pr {n m : Nat} {h g : Nat → Pc} {out : List Nat} (s : So1 ah n m h out) (p : Pr 0 m h g) : So1 ah n m g out :=
  ⟨s.ps.pr p, s.ord, fun x q a b => s.fore x q a ((Rem.pr p q).1 b), fun q => by rw [s.all q, Rem.pr p q]⟩
/-- the first of all. -/
theorem So1.first {n m : Nat} {h : Nat → Pc} {out : List Nat} (o : AO ah n) (s : So1 ah n m h out) (hp : HP (hl ah) 0 m h) (hm : 0 < m) : ∀ p, Rem m h p → p = (h 0).1 ∨ ah (h 0).1 p = true := by
  rintro p ⟨i, hi, a, b⟩
  have hr := s.ps.run i hi
  rcases hp.least (fun x y z => o.tr x.1 y.1 z.1) i hi with e | e
  · subst e
    by_cases c : p = (h 0).1
    · exact Or.inl c
    · exact Or.inr (hr.1.ahead o p (by omega) b)
  · right
    by_cases c : p = (h i).1
    · rw [c]; exact e
    · exact o.tr _ _ _ e (hr.1.ahead o p (by omega) b)
/-- of the first piece more is left. -/
theorem So1.more {n m : Nat} {h g : Nat → Pc} {out : List Nat} (o : AO ah n) (s : So1 ah n m h out) (hp : HP (hl ah) 0 m h) (hm : 0 < m) (h1 : (h 0).1 + 1 < (h 0).2) (g0 : g 0 = ((h 0).1 + 1, (h 0).2)) (ge : ∀ i, 0 < i → i < m → g i = h i) : So1 ah n m g (out ++ [(h 0).1]) := by
  have fst := s.first o hp hm
  have rg : ∀ p, Rem m g p ↔ (Rem m h p ∧ p ≠ (h 0).1) := fun p => by
    constructor
    · rintro ⟨i, hi, a, b⟩
      by_cases e : i = 0
      · subst e; rw [g0] at a b; simp only at a b
        exact ⟨⟨0, hm, by omega, b⟩, by omega⟩
      · rw [ge i (by omega) hi] at a b
        exact ⟨⟨i, hi, a, b⟩, fun q => s.ps.apart i 0 p hi hm e a b ⟨by omega, by omega⟩⟩
    · rintro ⟨⟨i, hi, a, b⟩, ne⟩
      by_cases e : i = 0
      · subst e; exact ⟨0, hm, by rw [g0]; show _ + 1 ≤ p; omega, by rw [g0]; exact b⟩
      · exact ⟨i, hi, by rw [ge i (by omega) hi]; exact a, by rw [ge i (by omega) hi]; exact b⟩
  refine ⟨⟨fun i hi => ?_, fun i j p hi hj hne a b c => ?_⟩, ?_, fun x p hx hr => ?_, fun p => ?_⟩
  · by_cases e : i = 0
    · subst e
      have := s.ps.run 0 hm
      rw [g0]
      exact ⟨⟨h1, fun j a b => this.1.2 j (by simp only at a; omega) b⟩, this.2⟩
    · rw [ge i (by omega) hi]; exact s.ps.run i hi
  · have wide : ∀ k, k < m → (g k).1 ≤ p → p < (g k).2 → (h k).1 ≤ p ∧ p < (h k).2 := fun k hk x y => by
      by_cases e : k = 0
      · subst e; rw [g0] at x y; simp only at x y; exact ⟨by omega, y⟩
      · rw [ge k (by omega) hk] at x y; exact ⟨x, y⟩
    have w1 := wide i hi a b
    exact s.ps.apart i j p hi hj hne w1.1 w1.2 (wide j hj c.1 c.2)
  · rw [List.pairwise_append]
    refine ⟨s.ord, List.pairwise_singleton _ _, fun x hx y hy => ?_⟩
    rw [List.mem_singleton.1 hy]
    exact s.fore x _ hx ⟨0, hm, Nat.le_refl _, by omega⟩
  · obtain ⟨r, ne⟩ := (rg p).1 hr
    rcases List.mem_append.1 hx with e | e
    · exact s.fore x p e r
    · rw [List.mem_singleton.1 e]
      exact (fst p r).resolve_left ne
  · rw [s.all p, List.mem_append, List.mem_singleton, rg p]
    constructor
    · rintro (a | a)
      · exact Or.inl (Or.inl a)
      · by_cases e : p = (h 0).1
        · exact Or.inl (Or.inr e)
        · exact Or.inr ⟨a, e⟩
    · rintro ((a | a) | ⟨a, _⟩)
      · exact Or.inl a
      · right; rw [a]; exact ⟨0, hm, Nat.le_refl _, by omega⟩
      · exact Or.inr a
/-- the first piece is spent: the last one takes its place. -/
theorem So1.less {n m : Nat} {h g : Nat → Pc} {out : List Nat} (o : AO ah n) (s : So1 ah n (m + 1) h out) (hp : HP (hl ah) 0 (m + 1) h) (h1 : (h 0).2 = (h 0).1 + 1) (g0 : 0 < m → g 0 = h m) (ge : ∀ i, 0 < i → i < m → g i = h i) : So1 ah n m g (out ++ [(h 0).1]) := by
  have hm : 0 < m + 1 := by omega
  have fst := s.first o hp hm
  have gi : ∀ i, i < m → ∃ k, 0 < k ∧ k < m + 1 ∧ g i = h k ∧ (k = i ∨ (i = 0 ∧ k = m)) := fun i hi => by
    by_cases e : i = 0
    · subst e; exact ⟨m, hi, by omega, g0 hi, Or.inr ⟨rfl, rfl⟩⟩
    · exact ⟨i, by omega, by omega, ge i (by omega) hi, Or.inl rfl⟩
  have rg : ∀ p, Rem m g p ↔ (Rem (m + 1) h p ∧ p ≠ (h 0).1) := fun p => by
    constructor
    · rintro ⟨i, hi, a, b⟩
      obtain ⟨k, k0, k1, e, _⟩ := gi i hi
      rw [e] at a b
      exact ⟨⟨k, k1, a, b⟩, fun q => s.ps.apart k 0 p k1 hm (by omega) a b ⟨by omega, by omega⟩⟩
    · rintro ⟨⟨i, hi, a, b⟩, ne⟩
      have i0 : i ≠ 0 := fun e => by subst e; omega
      by_cases e : i = m
      · subst e; exact ⟨0, by omega, by rw [g0 (by omega)]; exact a, by rw [g0 (by omega)]; exact b⟩
      · exact ⟨i, by omega, by rw [ge i (by omega) (by omega)]; exact a, by rw [ge i (by omega) (by omega)]; exact b⟩
  refine ⟨⟨fun i hi => ?_, fun i j p hi hj hne a b c => ?_⟩, ?_, fun x p hx hr => ?_, fun p => ?_⟩
  · obtain ⟨k, k0, k1, e, _⟩ := gi i hi
    rw [e]; exact s.ps.run k k1
  · obtain ⟨k, k0, k1, e, e2⟩ := gi i hi
    obtain ⟨l, l0, l1, f, f2⟩ := gi j hj
    rw [e] at a b
    rw [f] at c
    exact s.ps.apart k l p k1 l1 (by omega) a b c
  · rw [List.pairwise_append]
    refine ⟨s.ord, List.pairwise_singleton _ _, fun x hx y hy => ?_⟩
    rw [List.mem_singleton.1 hy]
    exact s.fore x _ hx ⟨0, hm, Nat.le_refl _, by omega⟩
  · obtain ⟨r, ne⟩ := (rg p).1 hr
    rcases List.mem_append.1 hx with e | e
    · exact s.fore x p e r
    · rw [List.mem_singleton.1 e]
      exact (fst p r).resolve_left ne
  · rw [s.all p, List.mem_append, List.mem_singleton, rg p]
    constructor
    · rintro (a | a)
      · exact Or.inl (Or.inl a)
      · by_cases e : p = (h 0).1
        · exact Or.inl (Or.inr e)
        · exact Or.inr ⟨a, e⟩
    · rintro ((a | a) | ⟨a, _⟩)
      · exact Or.inl a
      · right; rw [a]; exact ⟨0, hm, Nat.le_refl _, by omega⟩
      · exact Or.inr a
/-- what sorted tells: the places in order. -/
structure Sorted1 (ah : Nat → Nat → Bool) (n : Nat) (out : List Nat) : Prop where
  ord : out.Pairwise fun x y => ah x y = true
  all : ∀ p, p ∈ out ↔ p < n
theorem So1.done {n : Nat} {h : Nat → Pc} {out : List Nat} (s : So1 ah n 0 h out) : Sorted1 ah n out :=
  ⟨s.ord, fun p => by rw [s.all p]; exact ⟨Or.inl, fun a => a.resolve_right (by rintro ⟨i, hi, _⟩; omega)⟩⟩
/-- pieces of the first x places, cut as they come. -/
structure Cts (ah : Nat → Nat → Bool) (n m x : Nat) (h : Nat → Pc) : Prop where
  ps : Ps ah n m h
  upto : ∀ p, Rem m h p ↔ p < x
theorem Cts.zero (n : Nat) (h : Nat → Pc) : Cts ah n 0 0 h := ⟨⟨fun i hi => by omega, fun i j p hi => by omega⟩, fun p => ⟨fun ⟨i, hi, _⟩ => by omega, fun a => by omega⟩⟩
theorem Cts.more {n m x y : Nat} {h g : Nat → Pc} (c : Cts ah n m x h) (ge : ∀ i, i < m → g i = h i) (gm : g m = (x, y)) (r : Run ah (x, y)) (hy : y ≤ n) : Cts ah n (m + 1) y g := by
  have in_lt : ∀ i p, i < m → (h i).1 ≤ p → p < (h i).2 → p < x := fun i p hi a b => (c.upto p).1 ⟨i, hi, a, b⟩
  refine ⟨⟨fun i hi => ?_, fun i j p hi hj hne a b d => ?_⟩, fun p => ?_⟩
  · by_cases e : i = m
    · subst e; rw [gm]; exact ⟨r, hy⟩
    · rw [ge i (by omega)]; exact c.ps.run i (by omega)
  · by_cases e : i = m
    · subst e
      rw [gm] at a b
      rw [ge j (by omega)] at d
      have := in_lt j p (by omega) d.1 d.2
      simp only at a; omega
    · rw [ge i (by omega)] at a b
      have h1 := in_lt i p (by omega) a b
      by_cases f : j = m
      · subst f; rw [gm] at d; have := d.1; simp only at this; omega
      · rw [ge j (by omega)] at d
        exact c.ps.apart i j p (by omega) (by omega) hne a b d
  · constructor
    · rintro ⟨i, hi, a, b⟩
      by_cases e : i = m
      · subst e; rw [gm] at b; exact b
      · rw [ge i (by omega)] at a b
        have := in_lt i p (by omega) a b
        have := r.1; simp only at this; omega
    · intro hp
      by_cases e : p < x
      · obtain ⟨i, hi, a, b⟩ := (c.upto p).2 e
        exact ⟨i, by omega, by rw [ge i hi]; exact a, by rw [ge i hi]; exact b⟩
      · exact ⟨m, by omega, by rw [gm]; show x ≤ p; omega, by rw [gm]; exact hp⟩
theorem Cts.start {n m : Nat} {h : Nat → Pc} (c : Cts ah n m n h) : So1 ah n m h [] := ⟨c.ps, List.Pairwise.nil, fun x p hx => absurd hx (by simp), fun p => ⟨fun a => Or.inr ((c.upto p).2 a), fun a => (c.upto p).1 (a.resolve_left (by simp))⟩⟩
end Go.Proofs.YtepakgfdakeibaaGreatDoor.So
