
import Derived.Test.YtepakgfdakeibaaGreatDoorKyA
import Derived.Test.YtepakgfdakeibaaGreatDoorBdAp
import Derived.Test.YtepakgfdakeibaaGreatDoorPpA
import Derived.BigQuiet
import Derived.Test.YtepakgfdakeibaaGreatDoorBhMp
import Derived.Test.YtepakgfdakeibaaGreatDoorBgD
namespace Go.Proofs.YtepakgfdakeibaaGreatDoor
set_option linter.unusedVariables false
set_option linter.unusedSimpArgs false
/-- a row in strict order is told by its members. -/
theorem strict_eq {α : Type} {R : α → α → Prop} (asy : ∀ a b, R a b → ¬ R b a) : ∀ {x y : List α}, x.Pairwise R → y.Pairwise R → (∀ z, z ∈ x ↔ z ∈ y) → x = y
  | [], [], _, _, _ => rfl
  | [], b :: y, _, _, h => by have := (h b).2 (List.mem_cons_self ..); cases this
  | a :: x, [], _, _, h => by have := (h a).1 (List.mem_cons_self ..); cases this
  | a :: x, b :: y, hx, hy, h => by
    have hx' := List.pairwise_cons.1 hx
    have hy' := List.pairwise_cons.1 hy
    have e : a = b := by
      rcases List.mem_cons.1 ((h a).1 (List.mem_cons_self ..)) with e | e
      · exact e
      · rcases List.mem_cons.1 ((h b).2 (List.mem_cons_self ..)) with e2 | e2
        · exact e2.symm
        · exact absurd (hy'.1 a e) (asy _ _ (hx'.1 b e2))
    subst e
    have irr : ¬ R a a := fun q => asy a a q q
    rw [strict_eq asy hx'.2 hy'.2 fun z => ?_]
    constructor
    · intro hz
      rcases List.mem_cons.1 ((h z).1 (List.mem_cons_of_mem _ hz)) with e | e
      · subst e; exact absurd (hx'.1 z hz) irr
      · exact e
    · intro hz
      rcases List.mem_cons.1 ((h z).2 (List.mem_cons_of_mem _ hz)) with e | e
      · subst e; exact absurd (hy'.1 z hz) irr
      · exact e
/-- points, by their keys: each a row of fields. -/
abbrev Gr (K F : Type) := List (K × List (F × Int))
def InG {K F : Type} (R : Gr K F) (k : K) (x : F × Int) : Prop := ∃ fs, (k, fs) ∈ R ∧ x ∈ fs
/-- points in order, each one's fields in order, and no others than E's. -/
structure GrOk {K F : Type} (c : K → K → Int) (d : F → F → Int) (R : Gr K F) (E : List (K × F × Int)) : Prop where
  ks : R.Pairwise fun a b => c a.1 b.1 < 0
  ne : ∀ g ∈ R, g.2 ≠ []
  fs : ∀ g ∈ R, g.2.Pairwise fun a b => d a.1 b.1 < 0
  mem : ∀ k x, (k, x) ∈ E ↔ InG R k x
theorem IsCmp.self {α : Type} {c : α → α → Int} (h : IsCmp c) (a : α) : c a a = 0 := (h.zero a a).2 rfl
theorem IsCmp.asy {α : Type} {c : α → α → Int} (h : IsCmp c) {a b : α} (q : c a b < 0) : ¬ c b a < 0 := by have := h.flip a b; omega
theorem key_one {K : Type} {β : Type} {c : K → K → Int} (hc : IsCmp c) : ∀ {R : List (K × β)}, R.Pairwise (fun a b => c a.1 b.1 < 0) → ∀ {k : K} {a b : β}, (k, a) ∈ R → (k, b) ∈ R → a = b
  | [], _, k, a, b, h, _ => by cases h
  | g :: R, hp, k, a, b, ha, hb => by
    have hp' := List.pairwise_cons.1 hp
    rcases List.mem_cons.1 ha with ea | ea
    · rcases List.mem_cons.1 hb with eb | eb
      · rw [← eb] at ea; injection ea
      · have := hp'.1 _ eb
        rw [← ea] at this
        have h0 := hc.self k
        simp only at this
        omega
    · rcases List.mem_cons.1 hb with eb | eb
      · have := hp'.1 _ ea
        rw [← eb] at this
        have h0 := hc.self k
        simp only at this
        omega
      · exact key_one hc hp'.2 ea eb
theorem GrOk.uniq {K F : Type} {c : K → K → Int} {d : F → F → Int} (hc : IsCmp c) (hd : IsCmp d) {R R' : Gr K F} {E E' : List (K × F × Int)} (h : GrOk c d R E) (h' : GrOk c d R' E') (hE : ∀ e, e ∈ E ↔ e ∈ E') : R = R' := by
  have half : ∀ {R R' : Gr K F} {E E' : List (K × F × Int)}, GrOk c d R E → GrOk c d R' E' → (∀ e, e ∈ E ↔ e ∈ E') → ∀ g, g ∈ R → g ∈ R' := by
    intro R R' E E' h h' hE g hg
    obtain ⟨k, fs⟩ := g
    obtain ⟨x, hx⟩ : ∃ x, x ∈ fs := by
      have := h.ne _ hg
      cases fs with
      | nil => exact absurd rfl this
      | cons x _ => exact ⟨x, List.mem_cons_self ..⟩
    obtain ⟨fs', h1, _⟩ := (h'.mem k x).1 ((hE _).1 ((h.mem k x).2 ⟨fs, hg, hx⟩))
    have e : fs = fs' := by
      refine strict_eq (R := fun a b => d a.1 b.1 < 0) (fun a b q => hd.asy q) (h.fs _ hg) (h'.fs _ h1) fun z => ?_
      constructor
      · intro hz
        obtain ⟨f2, h2, h3⟩ := (h'.mem k z).1 ((hE _).1 ((h.mem k z).2 ⟨fs, hg, hz⟩))
        rw [key_one hc h'.ks h1 h2]; exact h3
      · intro hz
        obtain ⟨f2, h2, h3⟩ := (h.mem k z).1 ((hE _).2 ((h'.mem k z).2 ⟨fs', h1, hz⟩))
        rw [key_one hc h.ks hg h2]; exact h3
    rw [e]; exact h1
  exact strict_eq (R := fun a b => c a.1 b.1 < 0) (fun a b q => hc.asy q) h.ks h'.ks fun g => ⟨half h h' hE g, half h' h (fun e => (hE e).symm) g⟩
/-- one more sample, at its place. -/
def stepR {K F : Type} (c : K → K → Int) (e : K × F × Int) : Gr K F → Gr K F
  | [] => [(e.1, [e.2])]
  | g :: R => if c g.1 e.1 < 0 then g :: stepR c e R else if c g.1 e.1 = 0 then (g.1, g.2 ++ [e.2]) :: R else (e.1, [e.2]) :: g :: R
theorem stepR_is {K F : Type} {c : K → K → Int} (hc : IsCmp c) (e : K × F × Int) : ∀ (R : Gr K F), R.Pairwise (fun a b => c a.1 b.1 < 0) → ∀ g, g ∈ stepR c e R → (g ∈ R ∧ g.1 ≠ e.1) ∨ (g = (e.1, [e.2]) ∧ ∀ fs, (e.1, fs) ∉ R) ∨ ∃ fs, (e.1, fs) ∈ R ∧ g = (e.1, fs ++ [e.2])
  | [], _, g, h => by
    right; left
    unfold stepR at h
    exact ⟨List.mem_singleton.1 h, fun fs q => by cases q⟩
  | g0 :: R, hp, g, h => by
    have hp' := List.pairwise_cons.1 hp
    unfold stepR at h
    split at h
    · rename_i q
      have n0 : g0.1 ≠ e.1 := fun w => by have := hc.self e.1; rw [w] at q; omega
      rcases List.mem_cons.1 h with w | w
      · left; rw [w]; exact ⟨List.mem_cons_self .., n0⟩
      · rcases stepR_is hc e R hp'.2 g w with ⟨h1, h2⟩ | ⟨h1, h2⟩ | ⟨fs, h1, h2⟩
        · exact Or.inl ⟨List.mem_cons_of_mem _ h1, h2⟩
        · refine Or.inr (Or.inl ⟨h1, fun fs q2 => ?_⟩)
          rcases List.mem_cons.1 q2 with q3 | q3
          · exact n0 (by rw [← q3])
          · exact h2 fs q3
        · exact Or.inr (Or.inr ⟨fs, List.mem_cons_of_mem _ h1, h2⟩)
    · rename_i q
      split at h
      · rename_i q2
        have e0 : g0.1 = e.1 := (hc.zero _ _).1 q2
        rcases List.mem_cons.1 h with w | w
        · right; right
          exact ⟨g0.2, by rw [← e0]; exact List.mem_cons_self .., by rw [w, e0]⟩
        · left
          refine ⟨List.mem_cons_of_mem _ w, fun w2 => ?_⟩
          have := hp'.1 g w
          rw [w2, e0, hc.self] at this
          omega
      · rename_i q2
        have gt : ∀ g' ∈ R, g'.1 ≠ e.1 := fun g' hg' w => by
          have := hp'.1 g' hg'
          rw [w] at this
          omega
        have n0 : g0.1 ≠ e.1 := fun w => q2 (by rw [w]; exact hc.self _)
        rcases List.mem_cons.1 h with w | w
        · right; left
          refine ⟨w, fun fs q3 => ?_⟩
          rcases List.mem_cons.1 q3 with q4 | q4
          · exact n0 (by rw [← q4])
          · exact gt _ q4 rfl
        · left
          rcases List.mem_cons.1 w with w2 | w2
          · rw [w2]; exact ⟨List.mem_cons_self .., n0⟩
          · exact ⟨List.mem_cons_of_mem _ w2, gt g w2⟩
theorem stepR_has {K F : Type} {c : K → K → Int} (hc : IsCmp c) (e : K × F × Int) : ∀ (R : Gr K F) (k : K) (x : F × Int), InG (stepR c e R) k x ↔ InG R k x ∨ (k, x) = e
  | [], k, x => by
    unfold stepR InG
    constructor
    · rintro ⟨fs, h1, h2⟩
      right
      have := List.mem_singleton.1 h1
      injection this with e1 e2
      rw [e2] at h2
      rw [e1, List.mem_singleton.1 h2]
    · rintro (⟨fs, h1, _⟩ | h)
      · cases h1
      · rw [← h]; exact ⟨[x], List.mem_singleton.2 rfl, List.mem_singleton.2 rfl⟩
  | g0 :: R, k, x => by
    have cons : ∀ (g : K × List (F × Int)) (R : Gr K F), InG (g :: R) k x ↔ (g.1 = k ∧ x ∈ g.2) ∨ InG R k x := fun g R => by
      unfold InG
      constructor
      · rintro ⟨fs, h1, h2⟩
        rcases List.mem_cons.1 h1 with w | w
        · left; rw [← w]; exact ⟨rfl, h2⟩
        · exact Or.inr ⟨fs, w, h2⟩
      · rintro (⟨h1, h2⟩ | ⟨fs, h1, h2⟩)
        · exact ⟨g.2, by rw [← h1]; exact List.mem_cons_self .., h2⟩
        · exact ⟨fs, List.mem_cons_of_mem _ h1, h2⟩
    unfold stepR
    split
    · rw [cons, cons, stepR_has hc e R k x, or_assoc]
    · split
      · rename_i _ q
        have e0 : g0.1 = e.1 := (hc.zero _ _).1 q
        rw [cons, cons]
        simp only [List.mem_append, List.mem_singleton]
        constructor
        · rintro (⟨h1, h2 | h2⟩ | h)
          · exact Or.inl (Or.inl ⟨h1, h2⟩)
          · right; rw [← h1, h2, e0]
          · exact Or.inl (Or.inr h)
        · rintro ((⟨h1, h2⟩ | h) | h)
          · exact Or.inl ⟨h1, Or.inl h2⟩
          · exact Or.inr h
          · left; rw [← h] at e0 ⊢; exact ⟨e0, Or.inr rfl⟩
      · rw [cons]
        constructor
        · rintro (⟨h1, h2⟩ | h)
          · right; rw [← h1, List.mem_singleton.1 h2]
          · exact Or.inl h
        · rintro (h | h)
          · exact Or.inr h
          · left; rw [← h]; exact ⟨rfl, List.mem_singleton.2 rfl⟩
theorem stepR_keys {K F : Type} {c : K → K → Int} (hc : IsCmp c) (e : K × F × Int) : ∀ (R : Gr K F) (g : K × List (F × Int)), g ∈ stepR c e R → g.1 = e.1 ∨ ∃ g0 ∈ R, g0.1 = g.1
  | [], g, h => by unfold stepR at h; rw [List.mem_singleton.1 h]; exact Or.inl rfl
  | g0 :: R, g, h => by
    unfold stepR at h
    split at h
    · rcases List.mem_cons.1 h with w | w
      · right; exact ⟨g0, List.mem_cons_self .., by rw [w]⟩
      · rcases stepR_keys hc e R g w with h1 | ⟨g1, h1, h2⟩
        · exact Or.inl h1
        · exact Or.inr ⟨g1, List.mem_cons_of_mem _ h1, h2⟩
    · split at h
      · rcases List.mem_cons.1 h with w | w
        · right; exact ⟨g0, List.mem_cons_self .., by rw [w]⟩
        · right; exact ⟨g, List.mem_cons_of_mem _ w, rfl⟩
      · rcases List.mem_cons.1 h with w | w
        · left; rw [w]
        · right; exact ⟨g, w, rfl⟩
theorem stepR_ks {K F : Type} {c : K → K → Int} (hc : IsCmp c) (e : K × F × Int) : ∀ (R : Gr K F), R.Pairwise (fun a b => c a.1 b.1 < 0) → (stepR c e R).Pairwise fun a b => c a.1 b.1 < 0
  | [], _ => List.pairwise_singleton _ _
  | g0 :: R, hp => by
    have hp' := List.pairwise_cons.1 hp
    unfold stepR
    split
    · rename_i q
      refine List.pairwise_cons.2 ⟨fun g hg => ?_, stepR_ks hc e R hp'.2⟩
      rcases stepR_keys hc e R g hg with w | ⟨g1, h1, h2⟩
      · rw [w]; exact q
      · rw [← h2]; exact hp'.1 g1 h1
    · split
      · exact List.pairwise_cons.2 ⟨fun g hg => hp'.1 g hg, hp'.2⟩
      · rename_i q q2
        have lt : c e.1 g0.1 < 0 := by have := hc.flip g0.1 e.1; omega
        refine List.pairwise_cons.2 ⟨fun g hg => ?_, hp⟩
        rcases List.mem_cons.1 hg with w | w
        · rw [w]; exact lt
        · exact hc.lt lt (by have := hp'.1 g w; omega)
/-- one more sample, whose field is behind those of its point. -/
theorem GrOk.step {K F : Type} {c : K → K → Int} {d : F → F → Int} (hc : IsCmp c) {R : Gr K F} {P : List (K × F × Int)} (h : GrOk c d R P) (e : K × F × Int) (hf : ∀ x ∈ P, x.1 = e.1 → d x.2.1 e.2.1 < 0) : GrOk c d (stepR c e R) (P ++ [e]) where
  ks := stepR_ks hc e R h.ks
  ne := fun g hg => by
    rcases stepR_is hc e R h.ks g hg with ⟨h1, _⟩ | ⟨h1, _⟩ | ⟨fs, _, h2⟩
    · exact h.ne g h1
    · rw [h1]; simp
    · rw [h2]; simp
  fs := fun g hg => by
    rcases stepR_is hc e R h.ks g hg with ⟨h1, _⟩ | ⟨h1, _⟩ | ⟨fs, h1, h2⟩
    · exact h.fs g h1
    · rw [h1]; exact List.pairwise_singleton _ _
    · rw [h2]
      refine List.pairwise_append.2 ⟨h.fs _ h1, List.pairwise_singleton _ _, fun a ha b hb => ?_⟩
      rw [List.mem_singleton.1 hb]
      exact hf (e.1, a) ((h.mem e.1 a).2 ⟨fs, h1, ha⟩) rfl
  mem := fun k x => by
    rw [stepR_has hc, List.mem_append, h.mem, List.mem_singleton]
theorem GrOk.none {K F : Type} (c : K → K → Int) (d : F → F → Int) : GrOk c d ([] : Gr K F) [] := ⟨List.Pairwise.nil, (fun g h => by cases h), (fun g h => by cases h), fun k x => ⟨(fun h => by cases h), fun ⟨fs, h, _⟩ => by cases h⟩⟩
/-- all of them. -/
theorem GrOk.all {K F : Type} {c : K → K → Int} {d : F → F → Int} (hc : IsCmp c) : ∀ (E : List (K × F × Int)) (R : Gr K F) (P : List (K × F × Int)), GrOk c d R P → (P ++ E).Pairwise (fun x y => x.1 = y.1 → d x.2.1 y.2.1 < 0) → GrOk c d (E.foldl (fun R e => stepR c e R) R) (P ++ E)
  | [], R, P, h, _ => by rw [List.append_nil]; exact h
  | e :: E, R, P, h, hp => by
    have e1 : P ++ e :: E = (P ++ [e]) ++ E := by simp
    rw [e1] at hp ⊢
    refine GrOk.all hc E _ _ (h.step hc e fun x hx => ?_) hp
    exact (List.pairwise_append.1 (List.pairwise_append.1 hp).1).2.2 x hx e (List.mem_singleton.2 rfl)
/-- a row that is in order: only the last point is looked at. -/
theorem stepR_last {K F : Type} {c : K → K → Int} (e : K × F × Int) : ∀ (R T : Gr K F), (∀ g ∈ R, c g.1 e.1 < 0) → stepR c e (R ++ T) = R ++ stepR c e T
  | [], T, _ => rfl
  | g :: R, T, h => by
    rw [List.cons_append, stepR, if_pos (h g (List.mem_cons_self ..)), stepR_last e R T fun g' h' => h g' (List.mem_cons_of_mem _ h')]
    rfl
/-- two orders of the same samples give the same points. -/
theorem points_same {K F : Type} {c : K → K → Int} {d : F → F → Int} (hc : IsCmp c) (hd : IsCmp d) (E S : List (K × F × Int)) (hE : E.Pairwise fun x y => x.1 = y.1 → d x.2.1 y.2.1 < 0) (hS : S.Pairwise fun x y => x.1 = y.1 → d x.2.1 y.2.1 < 0) (hm : ∀ e, e ∈ E ↔ e ∈ S) : E.foldl (fun R e => stepR c e R) [] = S.foldl (fun R e => stepR c e R) [] := by
  have h1 := GrOk.all hc E [] [] (GrOk.none c d) (by simpa using hE)
  have h2 := GrOk.all hc S [] [] (GrOk.none c d) (by simpa using hS)
  rw [List.nil_append] at h1 h2
  exact GrOk.uniq hc hd h1 h2 hm
end Go.Proofs.YtepakgfdakeibaaGreatDoor

namespace Go.Proofs.YtepakgfdakeibaaGreatDoor
open Go.RowKit _root_.Go.Proofs.YtepakgfdakeibaaGreatDoor.So
set_option linter.unusedVariables false
set_option linter.unusedSimpArgs false
/-- the point to which a sample belongs. -/
def pkO (x : WrP) : SerP × Int := (⟨x.s.m, x.s.t, ⟨#[]⟩⟩, x.tm)
def enO (x : WrP) : (SerP × Int) × ByteArray × Int := (pkO x, x.s.f, x.n)
/-- the numbers among samples. -/
def intW (l : List WrP) : List WrP := l.filter fun x => decide (x.kd = 0)
/-- samples by their points, then by their fields. -/
def lessP (x y : WrP) : Prop := kC (pkO x) (pkO y) < 0 ∨ (kC (pkO x) (pkO y) = 0 ∧ strC x.s.f y.s.f < 0)
theorem lessP_key {x y : WrP} (h : lessP x y) (e : pkO x = pkO y) : strC x.s.f y.s.f < 0 := by
  rcases h with h | h
  · rw [(kC_is.zero _ _).2 e] at h; omega
  · exact h.2
theorem sw_key {x y : WrP} (h : wC x y < 0) (e : pkO x = pkO y) : strC x.s.f y.s.f < 0 := by
  unfold pkO at e
  injection e with e1 e2
  injection e1 with em et _
  unfold wC kC wK pairC at h
  simp only at h
  have z : tmC x.tm y.tm = 0 := (tmC_is.zero _ _).2 e2
  have z1 : strC x.s.m y.s.m = 0 := (strC_is.zero _ _).2 em
  have z2 : tagsC x.s.t y.s.t = 0 := (tagsC_is.zero _ _).2 et
  split at h
  · omega
  · unfold serC pairC at h
    simp only [z1, z2, if_true] at h
    exact h
theorem en_rows {l : List WrP} (h : SW l) : ((intW l).map enO).Pairwise fun x y => x.1 = y.1 → strC x.2.1 y.2.1 < 0 := by
  refine List.pairwise_map.2 ?_
  have h1 : (intW l).Pairwise fun x y => wC x y < 0 := List.Pairwise.sublist List.filter_sublist h
  exact h1.imp fun h e => sw_key h e
theorem less_rows {S : List WrP} (h : S.Pairwise lessP) : (S.map enO).Pairwise fun x y => x.1 = y.1 → strC x.2.1 y.2.1 < 0 :=
  List.pairwise_map.2 (h.imp fun h e => lessP_key h e)
/-- the points of a row of samples. -/
def grD (l : List WrP) : Gr (SerP × Int) ByteArray := (l.map enO).foldl (fun R e => stepR kC e R) []
theorem grD_same {l S : List WrP} (hl : SW l) (hS : S.Pairwise lessP) (hm : ∀ x, x ∈ S ↔ x ∈ intW l) : grD S = grD (intW l) := by
  unfold grD
  refine points_same kC_is strC_is _ _ (less_rows hS) (en_rows hl) fun e => ?_
  simp only [List.mem_map]
  exact ⟨fun ⟨x, h1, h2⟩ => ⟨x, (hm x).1 h1, h2⟩, fun ⟨x, h1, h2⟩ => ⟨x, (hm x).2 h1, h2⟩⟩
theorem grD_take {l : List WrP} {i : Nat} {x : WrP} (h : l[i]? = some x) : grD (l.take (i + 1)) = stepR kC (enO x) (grD (l.take i)) := by
  unfold grD
  rw [List.take_add_one, h, List.map_append, List.foldl_append]
  rfl
/-- the last point's key, and all others ahead of it. -/
def LastK (R : Gr (SerP × Int) ByteArray) (k : SerP × Int) : Prop := ∃ R0 fs, R = R0 ++ [(k, fs)] ∧ ∀ g ∈ R0, kC g.1 k < 0
theorem LastK.same {R : Gr (SerP × Int) ByteArray} {k : SerP × Int} {R0 : Gr (SerP × Int) ByteArray} {fs : List (ByteArray × Int)} (e : R = R0 ++ [(k, fs)]) (h : ∀ g ∈ R0, kC g.1 k < 0) {x : WrP} (hx : kC k (pkO x) = 0) : stepR kC (enO x) R = R0 ++ [(k, fs ++ [(x.s.f, x.n)])] := by
  have ek : k = pkO x := (kC_is.zero _ _).1 hx
  rw [e, stepR_last (enO x) R0 _ (fun g hg => by rw [ek] at h; exact h g hg)]
  unfold stepR
  rw [if_neg (by show ¬ kC k (pkO x) < 0; omega), if_pos (show kC (k, fs).fst (enO x).fst = 0 from hx)]
  rfl
theorem LastK.new {R : Gr (SerP × Int) ByteArray} {k : SerP × Int} (h : LastK R k) {x : WrP} (hx : kC k (pkO x) < 0) : stepR kC (enO x) R = R ++ [(pkO x, [(x.s.f, x.n)])] := by
  obtain ⟨R0, fs, e, h0⟩ := h
  have all : ∀ g ∈ R, kC g.1 (pkO x) < 0 := fun g hg => by
    rw [e] at hg
    rcases List.mem_append.1 hg with w | w
    · exact kC_is.lt (h0 g w) (by omega)
    · rw [List.mem_singleton.1 w]; exact hx
  have := stepR_last (c := kC) (enO x) R [] all
  rw [List.append_nil] at this
  rw [this]
  rfl
theorem LastK.step {R : Gr (SerP × Int) ByteArray} {k : SerP × Int} (h : LastK R k) {x : WrP} (hx : kC k (pkO x) ≤ 0) : LastK (stepR kC (enO x) R) (pkO x) := by
  by_cases e : kC k (pkO x) = 0
  · obtain ⟨R0, fs, e1, h0⟩ := h
    have ek : k = pkO x := (kC_is.zero _ _).1 e
    rw [LastK.same e1 h0 e]
    rw [ek] at h0
    exact ⟨R0, _, by rw [ek], h0⟩
  · have lt : kC k (pkO x) < 0 := by omega
    have h2 := h
    rw [h.new lt]
    obtain ⟨R0, fs, e1, h0⟩ := h2
    refine ⟨R, _, rfl, fun g hg => ?_⟩
    rw [e1] at hg
    rcases List.mem_append.1 hg with w | w
    · exact kC_is.lt (h0 g w) (by omega)
    · rw [List.mem_singleton.1 w]; exact lt
/-- while a row in order is gone through, the last point is the last sample's. -/
theorem grD_last {S : List WrP} (hS : S.Pairwise lessP) : ∀ (i : Nat) (x : WrP), S[i]? = some x → LastK (grD (S.take (i + 1))) (pkO x)
  | 0, x, h => by
    rw [grD_take h]
    exact ⟨[], [(x.s.f, x.n)], rfl, fun g hg => by cases hg⟩
  | i + 1, x, h => by
    rw [grD_take h]
    have hl := (List.getElem?_eq_some_iff.1 h).1
    obtain ⟨y, hy⟩ : ∃ y, S[i]? = some y := ⟨_, List.getElem?_eq_getElem (by omega)⟩
    refine (grD_last hS i y hy).step ?_
    have h1 := List.pairwise_iff_getElem.1 hS i (i + 1) (by omega) hl (by omega)
    have e1 := (List.getElem?_eq_some_iff.1 hy).2
    have e2 := (List.getElem?_eq_some_iff.1 h).2
    rw [e1, e2] at h1
    rcases h1 with q | q <;> omega
end Go.Proofs.YtepakgfdakeibaaGreatDoor

namespace Go.Proofs.YtepakgfdakeibaaGreatDoor.So.Wr
open Go.RowKit
set_option linter.unusedVariables false
set_option linter.unusedSimpArgs false
/-- a sample without its field's name. -/
def pkW (x : WrP) : WrP := ⟨⟨x.s.m, x.s.t, ⟨#[]⟩⟩, x.tm, x.kd, x.n⟩
theorem wC_pk (x y : WrP) : wC (pkW x) (pkW y) = kC (pkO x) (pkO y) := rfl
set_option maxRecDepth 100000 in
set_option maxHeartbeats 4000000 in
theorem comparePoints_any (x y : WrP) (a b : Option Addr) (c1 c2 : Nat) (w : World) (ha : SerIn w a x.s) (hb : SerIn w b y.s) :
    Calls Tryz.prog 23 #[wV x a c1, wV y b c2] w fun e w' => e = .returned (.int .i64 (kC (pkO x) (pkO y))) ∧ Below w.heap.size w w' := by
  have CH : Hid (∀ W, Below w.heap.size w W → Calls Tryz.prog 41 #[wV (pkW x) a c1, wV (pkW y) b c2] W fun e w' => e = .returned (.int .i64 (kC (pkO x) (pkO y))) ∧ Below W.heap.size W w') := fun W hW => bcompare_any (pkW x) (pkW y) a b c1 c2 W (ha.belowW hW) (hb.belowW hW)
  generalize kC (pkO x) (pkO y) = cv at CH ⊢
  have e1 : (pkW x).s.t.length = x.s.t.length := rfl
  have e2 : (pkW y).s.t.length = y.s.t.length := rfl
  unfold wV at CH ⊢
  rw [e1, e2] at CH
  unfold pkW at CH
  simp only at CH
  generalize x.s.t.length = nx at CH ⊢
  generalize y.s.t.length = ny at CH ⊢
  clear ha hb e1 e2
  have B1 : Hid (Below w.heap.size w ((w.alloc (.cells #[.string x.s.m, .slice a nx c1, .string ⟨#[]⟩, .int .i64 x.tm, .int .u8 (x.kd : Int), .int .i64 x.n] 52)).alloc (.cells #[.string y.s.m, .slice b ny c2, .string ⟨#[]⟩, .int .i64 y.tm, .int .u8 (y.kd : Int), .int .i64 y.n] 52))) := ((Below.refl _ w).alloc (Nat.le_refl _) _).alloc (by simp) _
  go_enter Tryz.func23, Tryz.ntmps23
  go_wp2_with fail
  refine Calls.mono (CH.out _ B1.out) ?_
  rintro e w' ⟨rfl, BB⟩
  have fin : Hid (Below w.heap.size w w') := B1.out.trans (BB.mono B1.out.size)
  clear BB B1 CH
  go_wp2_with fail
  go_ret
  exact ⟨rfl, fin.out⟩
def lessB (x y : WrP) : Bool := decide (kC (pkO x) (pkO y) < 0) || (decide (kC (pkO x) (pkO y) = 0) && decide (strC x.s.f y.s.f < 0))
theorem lessB_iff (x y : WrP) : lessB x y = true ↔ lessP x y := by unfold lessB lessP; simp
set_option maxRecDepth 100000 in
set_option maxHeartbeats 4000000 in
theorem less_any (x y : WrP) (a b : Option Addr) (c1 c2 : Nat) (w : World) (ha : SerIn w a x.s) (hb : SerIn w b y.s) :
    Calls Tryz.prog 22 #[wV x a c1, wV y b c2] w fun e w' => e = .returned (.bool (lessB x y)) ∧ Below w.heap.size w w' := by
  have CH : Hid (∀ W, Below w.heap.size w W → Calls Tryz.prog 23 #[wV x a c1, wV y b c2] W fun e w' => e = .returned (.int .i64 (kC (pkO x) (pkO y))) ∧ Below W.heap.size W w') := fun W hW => comparePoints_any x y a b c1 c2 W (ha.belowW hW) (hb.belowW hW)
  have RES : Hid (lessB x y = (decide (kC (pkO x) (pkO y) < 0) || (decide (kC (pkO x) (pkO y) = 0) && decide (strC x.s.f y.s.f < 0)))) := rfl
  generalize lessB x y = bv at RES ⊢
  generalize kC (pkO x) (pkO y) = cv at CH RES
  have hs := less_str x.s.f y.s.f
  unfold wV at CH ⊢
  generalize x.s.t.length = nx at CH ⊢
  generalize y.s.t.length = ny at CH ⊢
  generalize hsv : decide (strC x.s.f y.s.f < 0) = sv at RES hs
  clear ha hb hsv
  obtain ⟨W1, hW1⟩ : ∃ W1, W1 = (w.alloc (.cells #[.string x.s.m, .slice a nx c1, .string x.s.f, .int .i64 x.tm, .int .u8 (x.kd : Int), .int .i64 x.n] 52)).alloc (.cells #[.string y.s.m, .slice b ny c2, .string y.s.f, .int .i64 y.tm, .int .u8 (y.kd : Int), .int .i64 y.n] 52) := ⟨_, rfl⟩
  have B1 : Hid (Below w.heap.size w W1) := by rw [hW1]; exact ((Below.refl _ w).alloc (Nat.le_refl _) _).alloc (by simp) _
  have s1 : Hid (w.heap.size + 1 < W1.heap.size) := by show w.heap.size + 1 < W1.heap.size; rw [hW1]; simp
  have k1 : W1.cell? ⟨w.heap.size, 2, none⟩ = some (.string x.s.f) := by rw [hW1]; simp [go_sem]
  have k2 : W1.cell? ⟨w.heap.size + 1, 2, none⟩ = some (.string y.s.f) := by rw [hW1]; simp [go_sem]
  go_enter Tryz.func22, Tryz.ntmps22
  go_wp2_with fail
  rw [← hW1]
  clear hW1
  refine Calls.mono (CH.out _ B1.out) ?_
  rintro e w' ⟨rfl, BB⟩
  have fin : Hid (Below w.heap.size w w') := B1.out.trans (BB.mono (by have := s1.out; omega))
  have m1 : w'.cell? ⟨w.heap.size, 2, none⟩ = some (.string x.s.f) := by rw [BB.cell (p := ⟨w.heap.size, 2, none⟩) (by have := s1.out; show w.heap.size < _; omega)]; exact k1
  have m2 : w'.cell? ⟨w.heap.size + 1, 2, none⟩ = some (.string y.s.f) := by rw [BB.cell (p := ⟨w.heap.size + 1, 2, none⟩) s1.out]; exact k2
  clear BB B1 CH k1 k2 s1
  by_cases h1 : cv < 0
  · have h1d : decide (cv < 0) = true := decide_eq_true h1
    have r : Hid (bv = true) := by have := RES.out; rw [h1d] at this; show bv = true; simpa using this
    clear RES hs
    go_wp2_with fail
    go_ret
    exact ⟨by rw [r.out]; rfl, fin.out⟩
  · have h1d : decide (cv < 0) = false := decide_eq_false h1
    by_cases h2 : cv = 0
    · have r : Hid (bv = sv) := by have := RES.out; rw [h1d, decide_eq_true h2] at this; show bv = sv; simpa using this
      clear RES
      subst h2
      cases sv with
      | true =>
        go_wp2_with fail
        go_ret
        exact ⟨by rw [r.out]; rfl, fin.out⟩
      | false =>
        go_wp2_with fail
        go_ret
        exact ⟨by rw [r.out]; rfl, fin.out⟩
    · have h2b : (cv == 0) = false := by simpa using h2
      have r : Hid (bv = false) := by have := RES.out; rw [h1d, decide_eq_false h2] at this; show bv = false; simpa using this
      clear RES h2 hs
      go_wp2_with fail
      go_ret
      exact ⟨by rw [r.out]; rfl, fin.out⟩
def ahP (X : Nat → WrA) (i j : Nat) : Bool := lessB (X i).1 (X j).1
theorem ahP_any (w : World) (n : Nat) (X : Nat → WrA) (hX : ∀ i, i < n → SerIn w (X i).2.1 (X i).1.s) : AhA w 22 n X (ahP X) := fun a b W ha hb hW => less_any _ _ _ _ _ _ W ((hX a ha).belowW hW) ((hX b hb).belowW hW)
theorem lessP_tr {x y z : WrP} (h1 : lessP x y) (h2 : lessP y z) : lessP x z := by
  unfold lessP at *
  rcases h1 with a | ⟨a, a'⟩ <;> rcases h2 with b | ⟨b, b'⟩
  · exact Or.inl (kC_is.lt a (by omega))
  · exact Or.inl (kC_is.lt a (by omega))
  · exact Or.inl (kC_is.lt2 (by omega) b)
  · refine Or.inr ⟨?_, strC_is.lt a' (by omega)⟩
    exact (kC_is.zero _ _).2 (((kC_is.zero _ _).1 a).trans ((kC_is.zero _ _).1 b))
theorem lessP_irr (x : WrP) : ¬ lessP x x := by
  unfold lessP
  rintro (h | ⟨_, h⟩)
  · rw [kC_is.self] at h; omega
  · rw [strC_is.self] at h; omega
theorem lessP_tot {x y : WrP} (h : wC x y ≠ 0) : lessP x y ∨ lessP y x := by
  unfold lessP
  have f1 := kC_is.flip (pkO x) (pkO y)
  have f2 := strC_is.flip x.s.f y.s.f
  by_cases e : kC (pkO x) (pkO y) = 0
  · by_cases e2 : strC x.s.f y.s.f = 0
    · exfalso
      apply h
      have q := (kC_is.zero _ _).1 e
      unfold pkO at q
      injection q with q1 q2
      injection q1 with qm qt _
      have qf := (strC_is.zero _ _).1 e2
      refine (kC_is.zero _ _).2 ?_
      unfold wK
      obtain ⟨⟨xm, xt, xf⟩, xtm, xk, xn⟩ := x
      obtain ⟨⟨ym, yt, yf⟩, ytm, yk, yn⟩ := y
      simp only at qm qt qf q2
      subst qm qt qf q2
      rfl
    · omega
  · omega
/-- samples in order: no two of one series and time. -/
theorem ahP_ao (n : Nat) (X : Nat → WrA) (h : ∀ i j, i < n → j < n → i ≠ j → wC (X i).1 (X j).1 ≠ 0) : AO (ahP X) n where
  irr := fun i _ => by
    cases q : ahP X i i with
    | false => rfl
    | true => exact absurd ((lessB_iff _ _).1 q) (lessP_irr _)
  tr := fun i j k h1 h2 => (lessB_iff _ _).2 (lessP_tr ((lessB_iff _ _).1 h1) ((lessB_iff _ _).1 h2))
  tot := fun i j hi hj hne => by
    rcases lessP_tot (h i j hi hj hne) with q | q
    · exact Or.inl ((lessB_iff _ _).2 q)
    · exact Or.inr ((lessB_iff _ _).2 q)
end Go.Proofs.YtepakgfdakeibaaGreatDoor.So.Wr

namespace Go.Proofs.YtepakgfdakeibaaGreatDoor
open Go.RowKit _root_.Go.Proofs.YtepakgfdakeibaaGreatDoor.So
set_option linter.unusedVariables false
set_option linter.unusedSimpArgs false
/-! ### points whose fields grow where they lie -/
def tbk (u : PtA) : Option Nat := if u.1.t = [] then none else u.2.1.1.map (·.block)
def fV (u : PtA) : Value := .slice u.2.2.1 u.1.f.length u.2.2.2
def fbk (u : PtA) : Option Nat := (fV u).ownBlock
/-- not one block. -/
def Ap (x y : Option Nat) : Prop := ∀ k, x = some k → y ≠ some k
theorem Ap.symm {x y : Option Nat} (h : Ap x y) : Ap y x := fun k e e2 => h k e2 e
theorem Ap.none (y : Option Nat) : Ap none y := fun k e => by cases e
/-- all but the row: rb is the row's block. -/
structure PX (w : World) (B : Nat) (rb : Option Nat) (L : List PtA) : Prop where
  tg : ∀ u ∈ L, TgIn w u.2.1.1 u.1.t
  fd : ∀ u ∈ L, OF w B (fV u) u.1.f
  tr : ∀ u ∈ L, Ap (tbk u) rb
  fr : ∀ u ∈ L, Ap (fbk u) rb
  tf : ∀ u ∈ L, ∀ u' ∈ L, Ap (tbk u) (fbk u')
  ff : L.Pairwise fun u u' => Ap (fbk u) (fbk u')
theorem PX.nil (w : World) (B : Nat) (rb : Option Nat) : PX w B rb [] := ⟨(fun _ h => by cases h), (fun _ h => by cases h), (fun _ h => by cases h), (fun _ h => by cases h), (fun _ h => by cases h), List.Pairwise.nil⟩
theorem tbk_lt {w : World} {u : PtA} (h : TgIn w u.2.1.1 u.1.t) {k : Nat} (e : tbk u = some k) : k < w.heap.size := by
  unfold tbk at e
  split at e
  · cases e
  · rename_i q
    rcases h with h | ⟨b, off, ha, hb, _⟩
    · exact absurd h q
    · rw [ha] at e
      have : b = k := by simpa using e
      rw [← this]; exact hb
/-- a change of one block, or of none that was there. -/
theorem TgIn.keep {w w' : World} {u : PtA} {r : Option Nat} (h : TgIn w u.2.1.1 u.1.t) (g : w.grownBy w' r) (ha : Ap (tbk u) r) : TgIn w' u.2.1.1 u.1.t := h.grownW g (fun hne ad had q => by
  refine ha ad.block ?_ q
  unfold tbk
  rw [if_neg hne, had]; rfl)
theorem OF.keep {w w' : World} {B : Nat} {u : PtA} {r : Option Nat} (h : OF w B (fV u) u.1.f) (g : w.grownBy w' r) (ha : Ap (fbk u) r) : OF w' B (fV u) u.1.f := by
  refine World.ownsRow.kept h g ?_
  cases q : (fV u).ownBlock with
  | none => exact Or.inl rfl
  | some k => right; intro e; exact ha k q e.symm
theorem PX.grown {w w' : World} {B : Nat} {rb : Option Nat} {L : List PtA} (h : PX w B rb L) (g : w.grownBy w' rb) : PX w' B rb L := ⟨fun u hu => (h.tg u hu).keep g (h.tr u hu), fun u hu => (h.fd u hu).keep g (h.fr u hu), h.tr, h.fr, h.tf, h.ff⟩
theorem PX.below {w w' : World} {B : Nat} {rb : Option Nat} {L : List PtA} (h : PX w B rb L) (hb : Below w.heap.size w w') : PX w' B rb L := ⟨fun u hu => (h.tg u hu).below hb, fun u hu => (h.fd u hu).below hb (Nat.le_refl _), h.tr, h.fr, h.tf, h.ff⟩
/-- the row in another block, that is new. -/
theorem PX.moved {w : World} {B k : Nat} {rb : Option Nat} {L : List PtA} (h : PX w B rb L) (hk : w.heap.size ≤ k) : PX w B (some k) L := by
  refine ⟨h.tg, h.fd, fun u hu j e q => ?_, fun u hu j e q => ?_, h.tf, h.ff⟩
  · injection q with q
    have := tbk_lt (h.tg u hu) e
    omega
  · injection q with q
    have := ((h.fd u hu).bound e).2
    omega
theorem PX.perm {w : World} {B : Nat} {rb : Option Nat} {L M : List PtA} (h : PX w B rb L) (p : L.Perm M) : PX w B rb M := ⟨fun u hu => h.tg u (p.mem_iff.2 hu), fun u hu => h.fd u (p.mem_iff.2 hu), fun u hu => h.tr u (p.mem_iff.2 hu), fun u hu => h.fr u (p.mem_iff.2 hu), fun u hu u' hu' => h.tf u (p.mem_iff.2 hu) u' (p.mem_iff.2 hu'), (p.pairwise_iff fun h => Ap.symm h).1 h.ff⟩
/-- one more: its tags lie elsewhere, its fields are none or in a block of their own. -/
theorem PX.more {w : World} {B : Nat} {rb : Option Nat} {L : List PtA} (h : PX w B rb L) (u : PtA) (ht : TgIn w u.2.1.1 u.1.t) (hf : OF w B (fV u) u.1.f) (h1 : Ap (tbk u) rb) (h2 : Ap (fbk u) rb) (h3 : Ap (tbk u) (fbk u)) (h4 : ∀ u' ∈ L, Ap (tbk u) (fbk u') ∧ Ap (tbk u') (fbk u) ∧ Ap (fbk u') (fbk u)) : PX w B rb (L ++ [u]) := by
  refine ⟨fun x hx => ?_, fun x hx => ?_, fun x hx => ?_, fun x hx => ?_, fun x hx y hy => ?_, List.pairwise_append.2 ⟨h.ff, List.pairwise_singleton _ _, fun a ha b hb => ?_⟩⟩
  · rcases List.mem_append.1 hx with q | q
    · exact h.tg x q
    · rw [List.mem_singleton.1 q]; exact ht
  · rcases List.mem_append.1 hx with q | q
    · exact h.fd x q
    · rw [List.mem_singleton.1 q]; exact hf
  · rcases List.mem_append.1 hx with q | q
    · exact h.tr x q
    · rw [List.mem_singleton.1 q]; exact h1
  · rcases List.mem_append.1 hx with q | q
    · exact h.fr x q
    · rw [List.mem_singleton.1 q]; exact h2
  · rcases List.mem_append.1 hx with q | q <;> rcases List.mem_append.1 hy with r | r
    · exact h.tf x q y r
    · rw [List.mem_singleton.1 r]; exact (h4 x q).2.1
    · rw [List.mem_singleton.1 q]; exact (h4 y r).1
    · rw [List.mem_singleton.1 q, List.mem_singleton.1 r]; exact h3
  · rw [List.mem_singleton.1 hb]; exact (h4 a ha).2.2
/-- a point whose fields are one more. -/
def addF (u : PtA) (f : FdP) (a : Option Addr) (c : Nat) : PtA := (⟨u.1.m, u.1.t, u.1.f ++ [f], u.1.tm⟩, u.2.1, (a, c))
/-- one point's fields grown: all else is as it was. -/
theorem PX.field {w w' : World} {B i : Nat} {rb : Option Nat} {L : List PtA} {u : PtA} (h : PX w B rb L) (hi : L[i]? = some u) (f : FdP) (a : Option Addr) (c : Nat)
    (g : w.grownBy w' (fbk u)) (ho : OF w' B (fV (addF u f a c)) (u.1.f ++ [f])) (hk : fbk (addF u f a c) = fbk u ∨ (∃ k, fbk (addF u f a c) = some k ∧ w.heap.size ≤ k ∧ rb ≠ some k)) (hrb : ∀ k, rb = some k → k < w.heap.size) : PX w' B rb (L.set i (addF u f a c)) := by
  obtain ⟨hl, hi'⟩ := List.getElem?_eq_some_iff.1 hi
  have hu : u ∈ L := List.mem_of_getElem? hi
  have tN : tbk (addF u f a c) = tbk u := rfl
  have new : ∀ x : Option Nat, (∀ k, x = some k → k < w.heap.size) → Ap x (fbk u) → Ap x (fbk (addF u f a c)) := fun x hx hxu k e q => by
    rcases hk with hk | ⟨k', hk, hk2, _⟩
    · rw [hk] at q; exact hxu k e q
    · rw [hk] at q
      injection q with q
      have := hx k e
      omega
  have bF : ∀ x ∈ L, ∀ k, fbk x = some k → k < w.heap.size := fun x hx k e => ((h.fd x hx).bound e).2
  have bT : ∀ x ∈ L, ∀ k, tbk x = some k → k < w.heap.size := fun x hx k e => tbk_lt (h.tg x hx) e
  have mem : ∀ x, x ∈ L.set i (addF u f a c) → x = addF u f a c ∨ ∃ j, j ≠ i ∧ L[j]? = some x := fun x hx => by
    obtain ⟨j, hj⟩ := List.getElem?_of_mem hx
    rw [List.getElem?_set] at hj
    split at hj
    · (try rw [if_pos (by omega)] at hj)
      injection hj with hj; exact Or.inl hj.symm
    · rename_i q; exact Or.inr ⟨j, fun e => q e.symm, hj⟩
  have apF : ∀ j x, j ≠ i → L[j]? = some x → Ap (fbk x) (fbk u) := fun j x hne hx => by
    obtain ⟨hj, ej⟩ := List.getElem?_eq_some_iff.1 hx
    rcases Nat.lt_or_ge j i with q | q
    · have := List.pairwise_iff_getElem.1 h.ff j i hj hl q
      rw [ej, hi'] at this; exact this
    · have := List.pairwise_iff_getElem.1 h.ff i j hl hj (by omega)
      rw [ej, hi'] at this; exact this.symm
  refine ⟨fun x hx => ?_, fun x hx => ?_, fun x hx => ?_, fun x hx => ?_, fun x hx y hy => ?_, ?_⟩
  · rcases mem x hx with e | ⟨j, hj, e⟩
    · rw [e]; exact (h.tg u hu).keep g (h.tf u hu u hu)
    · exact (h.tg x (List.mem_of_getElem? e)).keep g (h.tf x (List.mem_of_getElem? e) u hu)
  · rcases mem x hx with e | ⟨j, hj, e⟩
    · rw [e]; exact ho
    · exact (h.fd x (List.mem_of_getElem? e)).keep g (apF j x hj e)
  · rcases mem x hx with e | ⟨j, hj, e⟩
    · rw [e, tN]; exact h.tr u hu
    · exact h.tr x (List.mem_of_getElem? e)
  · rcases mem x hx with e | ⟨j, hj, e⟩
    · rw [e]
      rcases hk with hk | ⟨k', hk, hk2, hk3⟩
      · rw [hk]; exact h.fr u hu
      · intro k q; rw [hk] at q; injection q with q; rw [← q]; exact hk3
    · exact h.fr x (List.mem_of_getElem? e)
  · rcases mem y hy with e | ⟨j, hj, e⟩
    · rw [e]
      rcases mem x hx with e2 | ⟨j2, hj2, e2⟩
      · rw [e2, tN]; exact new _ (bT u hu) (h.tf u hu u hu)
      · exact new _ (bT x (List.mem_of_getElem? e2)) (h.tf x (List.mem_of_getElem? e2) u hu)
    · rcases mem x hx with e2 | ⟨j2, hj2, e2⟩
      · rw [e2, tN]; exact h.tf u hu y (List.mem_of_getElem? e)
      · exact h.tf x (List.mem_of_getElem? e2) y (List.mem_of_getElem? e)
  · refine List.pairwise_iff_getElem.2 fun p q hp hq hpq => ?_
    rw [List.length_set] at hp hq
    rw [List.getElem_set, List.getElem_set]
    have old := List.pairwise_iff_getElem.1 h.ff p q hp hq hpq
    by_cases e1 : i = p
    · subst e1
      rw [if_pos rfl, if_neg (by omega)]
      rw [hi'] at old
      exact (new _ (bF _ (List.getElem_mem hq)) old.symm).symm
    · rw [if_neg e1]
      by_cases e2 : i = q
      · subst e2
        rw [if_pos rfl]
        rw [hi'] at old
        exact new _ (bF _ (List.getElem_mem hp)) old
      · rw [if_neg e2]; exact old
/-- points in a row of their own, whose fields may grow. -/
structure PG (w : World) (B : Nat) (v : Value) (L : List PtA) : Prop where
  row : w.ownsRow B 41 4 v L.length (encP L)
  px : PX w B v.ownBlock L
theorem PG.nil (w : World) (B : Nat) : PG w B (.slice none 0 0) [] := ⟨⟨rfl, Or.inl ⟨rfl, rfl⟩⟩, PX.nil _ _ _⟩
theorem PG.below {w w' : World} {B : Nat} {v : Value} {L : List PtA} (h : PG w B v L) (hb : Below w.heap.size w w') : PG w' B v L := by
  refine ⟨⟨h.row.1, ?_⟩, h.px.below hb⟩
  rcases h.row.2 with h2 | ⟨g, cap, cur, e1, e2, e3, e4⟩
  · exact Or.inl h2
  · exact Or.inr ⟨g, cap, cur, e1, e2, by rw [hb.block g (Array.getElem?_eq_some_iff.1 e3).1]; exact e3, e4⟩
theorem encP_set (L : List PtA) (i : Nat) (u x : PtA) (hi : L[i]? = some u) (h1 : x.1.m = u.1.m) (h2 : x.2.1 = u.2.1) (h2' : x.1.t = u.1.t) (h3 : x.1.tm = u.1.tm) : (encP L).set (i * 4 + 2) (fV x) = encP (L.set i x) := by
  induction L generalizing i with
  | nil => simp at hi
  | cons a r ih =>
    cases i with
    | zero =>
      simp at hi; subst hi
      simp only [encP, List.set_cons_zero, fV]
      simp [h1, h2, h2', h3]
    | succ i =>
      simp at hi
      have := ih i hi
      simp only [encP, List.set_cons_succ]
      rw [show (i + 1) * 4 + 2 = i * 4 + 2 + 4 by omega]
      simp [this]
/-- a point in the row, to be read. -/
theorem PG.at {w : World} {B g n cap i : Nat} {L : List PtA} {u : PtA} (h : PG w B (.slice (some ⟨g, 0, none⟩) n cap) L) (hi : L[i]? = some u) : PAt w g (i * 4) u.1 u.2.1.1 u.2.1.2 u.2.2.1 u.2.2.2 := by
  have hcs := World.ownsRow.cells h.row (g := g) rfl
  obtain ⟨e1, e2, e3, e4⟩ := encP_get L i u hi
  have k1 := hcs _ _ e1
  have k2 := hcs _ _ e2
  have k3 := hcs _ _ e3
  have k4 := hcs _ _ e4
  rw [tag_add, Nat.zero_add] at k1 k2 k3 k4
  exact ⟨k1, k2, k3, k4⟩
theorem PG.len {w : World} {B g n cap : Nat} {L : List PtA} (h : PG w B (.slice (some ⟨g, 0, none⟩) n cap) L) : n = L.length ∧ L.length ≤ cap ∧ B ≤ g ∧ g < w.heap.size := by
  rcases h.row.2 with ⟨e, _⟩ | ⟨g', cap', cur, e1, e2, e3, e4, _⟩
  · cases e
  · injection e1 with q1 q2 q3
    injection q1 with q1
    injection q1 with q1
    subst q1 q2 q3
    exact ⟨rfl, e4, e2, (Array.getElem?_eq_some_iff.1 e3).1⟩
theorem fd_one (W : World) (f : FdP) : FdIn (W.alloc (.cells #[.string f.1, .int .i64 f.2] 54)) (some ⟨W.heap.size, 0, none⟩) [f] := by
  refine Or.inr ⟨W.heap.size, 0, rfl, by simp, fun i t ht => ?_⟩
  cases i with
  | zero => simp at ht; subst ht; exact ⟨by simp [go_sem], by simp [go_sem]⟩
  | succ i => simp at ht
/-- a field behind those of a point: append, then the store. -/
theorem PG.field {W : World} {B g n cap i : Nat} {L : List PtA} {u : PtA} (h : PG W B (.slice (some ⟨g, 0, none⟩) n cap) L) (hB : B ≤ W.heap.size) (hi : L[i]? = some u) (f : FdP) (hn : u.1.f.length + 1 ≤ 4398046511104) :
    ∃ a c w', (Builtin.append_ #[39, 39] 39 #[.slice u.2.2.1 u.1.f.length u.2.2.2, .slice (some ⟨W.heap.size, 0, none⟩) 1 1]).run Tryz.prog (W.alloc (.cells #[.string f.1, .int .i64 f.2] 54)) = .ok (.slice a (u.1.f.length + 1) c) w'
      ∧ PG (w'.setCell ⟨g, i * 4 + 2, none⟩ (.slice a (u.1.f.length + 1) c)) B (.slice (some ⟨g, 0, none⟩) n cap) (L.set i (addF u f a c)) ∧ Below B W (w'.setCell ⟨g, i * 4 + 2, none⟩ (.slice a (u.1.f.length + 1) c)) ∧ w'.cell? ⟨g, i * 4 + 2, none⟩ = some (.slice u.2.2.1 u.1.f.length u.2.2.2) ∧ w'.frozen? ⟨g, i * 4 + 2, none⟩ = false ∧ W.grownBy w' (fbk u) := by
  obtain ⟨W1, hW1⟩ : ∃ W1, W1 = W.alloc (.cells #[.string f.1, .int .i64 f.2] 54) := ⟨_, rfl⟩
  have b1 : Below W.heap.size W W1 := by rw [hW1]; exact (Below.refl _ W).alloc (Nat.le_refl _) _
  have h1 := h.below b1
  have hu : u ∈ L := List.mem_of_getElem? hi
  have hB1 := Nat.le_trans hB b1.size
  obtain ⟨v', w', hr, ho, gr, hk⟩ := appF W1 B (fV u) u.1.f [f] (h1.px.fd u hu) hB1 (some ⟨W.heap.size, 0, none⟩) 1 (by rw [hW1]; exact fd_one W f) (by simpa using hn)
  obtain ⟨a, c, e, _, _⟩ := ho.tin
  rw [List.length_append, List.length_singleton] at e
  subst e
  have eN : fV (addF u f a c) = .slice a (u.1.f.length + 1) c := by unfold fV addF; simp
  obtain ⟨ln, lc, lB, lg⟩ := h1.len
  have hgr : (Value.slice (some ⟨g, 0, none⟩) n cap).ownBlock = some g := rfl
  have hne : fbk u ≠ some g := fun q => h1.px.fr u hu g q rfl
  have row2 : w'.ownsRow B 41 4 (.slice (some ⟨g, 0, none⟩) n cap) L.length (encP L) := World.ownsRow.kept h1.row gr (Or.inr fun q => hne (show (fV u).ownBlock = some g from q.symm))
  subst ln
  have st := World.ownsRow.stored row2 (i * 4 + 2) (.slice a (u.1.f.length + 1) c)
  have px2 : PX w' B (some g) (L.set i (addF u f a c)) := PX.field h1.px hi f a c gr (by rw [eN]; exact ho) (by
    unfold fbk
    rw [eN]
    rcases hk with q | q
    · exact Or.inl q
    · exact Or.inr ⟨W1.heap.size, q, Nat.le_refl _, fun q2 => by have q3 : some g = some W1.heap.size := q2; injection q3 with q3; omega⟩) (fun k q => by have q3 : some g = some k := q; injection q3 with q3; omega)
  have hb2 : Below B W w' := (b1.mono hB).trans (grown_belowF (h1.px.fd u hu) hB1 gr)
  refine ⟨a, c, w', by rw [← hW1]; exact hr, ⟨?_, px2.grown st.2⟩, hb2.trans ((Below.refl B w').grown st.2 (by have := hb2.size; omega) (fun k e => by injection e with e; omega)), ?_, World.ownsRow.frozenAt row2 _, ⟨gr.os.trans b1.os, gr.tape.trans b1.tape, gr.output.trans b1.output, Nat.le_trans b1.size gr.size, fun k hk hne => by rw [gr.block k (Nat.lt_of_lt_of_le hk b1.size) hne]; exact b1.block k hk⟩⟩
  · rw [List.length_set, ← encP_set L i u (addF u f a c) hi rfl rfl rfl rfl, eN]
    exact st.1
  · have hcs := World.ownsRow.cells row2 (g := g) rfl
    have := hcs _ _ (encP_get L i u hi).2.2.1
    rw [tag_add, Nat.zero_add] at this
    exact this
/-- a point behind the others: its tags lie elsewhere, it has no fields. -/
theorem PG.more {W : World} {B : Nat} {v : Value} {L : List PtA} (h : PG W B v L) (hB : B ≤ W.heap.size) (m : ByteArray) (t : List TagP) (ta : Option Addr) (tc : Nat) (tm : Int) (ht : TgIn W ta t) (htb : t ≠ [] → ∀ ad, ta = some ad → ad.block < B) (hn : L.length + 1 ≤ 1099511627776) :
    ∃ g c w', (Builtin.append_ #[26, 26] 26 #[v, .slice (some ⟨W.heap.size, 0, none⟩) 1 1]).run Tryz.prog (W.alloc (.cells #[.string m, .slice ta t.length tc, .slice none 0 0, .int .i64 tm] 41)) = .ok (.slice (some ⟨g, 0, none⟩) (L.length + 1) c) w'
      ∧ PG w' B (.slice (some ⟨g, 0, none⟩) (L.length + 1) c) (L ++ [(⟨m, t, [], tm⟩, (ta, tc), (none, 0))]) ∧ Below B W w' ∧ W.grownBy w' v.ownBlock ∧ (v.ownBlock = some g ∨ W.heap.size < g) := by
  obtain ⟨u, hu⟩ : ∃ u : PtA, u = (⟨m, t, [], tm⟩, (ta, tc), (none, 0)) := ⟨_, rfl⟩
  obtain ⟨W1, hW1⟩ : ∃ W1, W1 = W.alloc (.cells #[.string m, .slice ta t.length tc, .slice none 0 0, .int .i64 tm] 41) := ⟨_, rfl⟩
  have b1 : Below W.heap.size W W1 := by rw [hW1]; exact (Below.refl _ W).alloc (Nat.le_refl _) _
  have s1 : W1.heap.size = W.heap.size + 1 := by rw [hW1]; simp
  have h1 := h.below b1
  obtain ⟨i, i1, i0⟩ := Option.map_eq_some_iff.1 pt_info
  have i2 : i.zero = some (.agg #[.string ⟨#[]⟩, .slice none 0 0, .slice none 0 0, .int .i64 0]) := congrArg (·.1) i0
  have i3 : i.bytes = 72 := congrArg (·.2.1) i0
  have i4 : i.size = 4 := congrArg (·.2.2) i0
  have hml : maxLen = 9223372036854775807 := by decide
  have hB2 := Nat.le_trans hB b1.size
  obtain ⟨g, cap, w', hr, own, gr, hat, hlt⟩ := run_append_lies (P := Tryz.prog) W1 26 26 B 41 i (.agg #[.string ⟨#[]⟩, .slice none 0 0, .slice none 0 0, .int .i64 0]) 4 72 Tryz.underlying26 i1 i2 i4 i3 rfl (by omega) v L.length (encP L) h1.row ⟨W.heap.size, 0, none⟩ 1 1 (encP [u]) rfl (fun j x hj => by
    rw [hW1]
    rw [hu] at hj
    rcases j with _ | _ | _ | _ | j <;> simp [encP] at hj <;> (try (subst hj; simp [go_sem]))) (encP_one _) (by omega) (by omega) (by omega) hB2 _ rfl
  have bb : Below B W w' := (b1.mono hB).trans ((Below.refl B _).grown gr hB2 (fun k e => (World.ownsRow.lt h1.row k e).1))
  have tl : ∀ k, tbk u = some k → k < B := fun k e => by
    rw [hu] at e
    unfold tbk at e
    split at e
    · cases e
    · rename_i q
      simp only at e q
      cases ta with
      | none => cases e
      | some ad =>
        have : ad.block = k := by simpa using e
        rw [← this]; exact htb q ad rfl
  have fN : fbk u = none := by rw [hu]; rfl
  have px1 : PX w' B (some g) L := by
    have p0 := h1.px.grown gr
    rcases hat with e | e
    · rw [← e]; exact p0
    · have q := h1.px.moved (k := g) (by omega)
      refine ⟨p0.tg, p0.fd, q.tr, q.fr, q.tf, q.ff⟩
  have gB : B ≤ g := (World.ownsRow.lt own g rfl).1
  refine ⟨g, cap, w', by rw [← hW1]; exact hr, ⟨?_, ?_⟩, bb, ⟨gr.os.trans b1.os, gr.tape.trans b1.tape, gr.output.trans b1.output, Nat.le_trans b1.size gr.size, fun k hk hne => by rw [gr.block k (Nat.lt_of_lt_of_le hk b1.size) hne]; exact b1.block k hk⟩, by rcases hat with e | e; exact Or.inl e; exact Or.inr (by omega)⟩
  · rw [← hu, List.length_append, List.length_singleton, encP_append]; exact own
  · show PX w' B (some g) _
    rw [← hu]
    refine px1.more u ?_ ?_ (fun k e q => ?_) (by rw [fN]; exact Ap.none _) (by rw [fN]; exact (Ap.none _).symm) (fun u' hu' => ⟨fun k e q => ?_, by rw [fN]; exact (Ap.none _).symm, by rw [fN]; exact (Ap.none _).symm⟩)
    · have tt : TgIn W1 u.2.1.1 u.1.t := by rw [hu]; exact ht.below b1
      exact tt.keep gr (fun k e q => by have := (World.ownsRow.lt h1.row k q).1; have := tl k e; omega)
    · rw [hu]; exact OF.nil _ _
    · injection q with q
      have := tl k e; omega
    · have := ((px1.fd u' hu').bound q).1
      have := tl k e; omega
theorem PG.psin {w : World} {B : Nat} {v : Value} {L : List PtA} (h : PG w B v L) (ht : ∀ u ∈ L, u.1.t.length ≤ 4398046511104) (hf : ∀ u ∈ L, u.1.f.length ≤ 1099511627776) : ∃ a cap, v = .slice a L.length cap ∧ L.length ≤ cap ∧ PsIn w a (L.map (·.1)) := by
  rcases h.row.2 with ⟨e, e0⟩ | ⟨g, cap, cur, e1, _, hg, hc, hm, hsz, _⟩
  · exact ⟨none, 0, by rw [e, e0], by omega, Or.inl (by rw [List.eq_nil_of_length_eq_zero e0]; rfl)⟩
  · subst e1
    refine ⟨some ⟨g, 0, none⟩, cap, rfl, hc, Or.inr ⟨g, 0, rfl, (World.ownsRow.lt h.row g rfl).2, fun i x hx => ?_⟩⟩
    rw [List.getElem?_map, Option.map_eq_some_iff] at hx
    obtain ⟨u, hu, rfl⟩ := hx
    have hu' := List.mem_of_getElem? hu
    have a0 := h.at hu
    rw [Nat.zero_add]
    obtain ⟨fa, fc, fe, fl, fi⟩ := (h.px.fd u hu').tin
    injection fe with fe1 _ fe3
    exact ⟨u.2.1.1, u.2.1.2, u.2.2.1, u.2.2.2, a0, h.px.tg u hu', ht u hu', by rw [fe1]; exact fi, by have := hf u hu'; omega, by rw [fe3]; exact fl⟩
end Go.Proofs.YtepakgfdakeibaaGreatDoor

namespace Go.Proofs.YtepakgfdakeibaaGreatDoor.So.Wr
open Go.RowKit
set_option linter.unusedVariables false
set_option linter.unusedSimpArgs false
set_option maxRecDepth 100000 in
set_option maxHeartbeats 4000000 in
theorem delete_nil (w : World) : Calls Tryz.prog 18 #[.slice none 0 0, .func (.func 20) #[] #[]] w fun e w' => e = .returned (.slice none 0 0) ∧ Below w.heap.size w w' := by
  have CI : Hid (Calls Tryz.prog 38 #[.slice none 0 0, .func (.func 20) #[] #[]] w fun e w' => e = .returned (.int .i64 (-1)) ∧ Below w.heap.size w w') := by
    go_enter Tryz.func38, Tryz.ntmps38
    go_wp2_with fail
    go_loopw [8] (fun v wr => v = .int .i64 0 ∧ wr = w) (fun _ _ => 0)
    case atStart => exact ⟨rfl, rfl⟩
    case round =>
      obtain ⟨rfl, hwr⟩ := hrel
      subst hwr
      go_wp2_with fail
      go_ret
      exact ⟨rfl, Below.refl _ _⟩
  go_enter Tryz.func18, Tryz.ntmps18
  go_wp2_with fail
  refine Calls.mono CI.out ?_
  rintro e w1 ⟨rfl, B1⟩
  have B1H : Hid (Below w.heap.size w w1) := B1
  clear B1 CI
  go_wp2_with fail
  go_ret
  exact ⟨rfl, B1H.out⟩
set_option maxRecDepth 100000 in
set_option maxHeartbeats 4000000 in
theorem pieces_nil (w : World) : Calls Tryz.prog 43 #[.slice none 0 0, .func (.func 22) #[] #[]] w fun e w' => e = .returned (.slice none 0 0) ∧ Below w.heap.size w w' := by
  go_enter Tryz.func43, Tryz.ntmps43
  go_wp2_with fail
  go_loopw [0, 5] (fun vr vc wr => vr = .slice none 0 0 ∧ vc = .slice none 0 0 ∧ wr = w) (fun _ _ _ => 0)
  case atStart => exact ⟨rfl, rfl, rfl⟩
  case round =>
    obtain ⟨rfl, rfl, hwr⟩ := hrel
    subst hwr
    go_wp2_with fail
    go_ret
    exact ⟨rfl, Below.refl _ _⟩
set_option maxRecDepth 100000 in
set_option maxHeartbeats 4000000 in
theorem sorted_nil (w : World) (X : Nat → WrA) (ah : Nat → Nat → Bool) : Calls Tryz.prog 21 #[.slice none 0 0, .func (.func 22) #[] #[]] w fun e w' => SrtR w w' X ah 0 e := by
  obtain ⟨w0, hw0⟩ : ∃ w0, w0 = w.alloc (.cells #[.func (.func 22) #[] #[]] 62) := ⟨_, rfl⟩
  have B0 : Hid (Below w.heap.size w w0) := by rw [hw0]; exact (Below.refl _ w).alloc (Nat.le_refl _) _
  have CP : Hid (Calls Tryz.prog 43 #[.slice none 0 0, .func (.func 22) #[] #[]] w0 fun e w' => e = .returned (.slice none 0 0) ∧ Below w0.heap.size w0 w') := pieces_nil w0
  have hmk0 : ∀ w, (Instr.makeSlice 22 (.int .i64 0) (.int .i64 0)).run Tryz.prog w = .ok (.slice (some ⟨w.heap.size, 0, none⟩) 0 0) (w.alloc (.cells (madeCells zW 0) 52)) := fun w => by simpa using make_zero 0 (by omega) w
  go_enter Tryz.func21, Tryz.ntmps21
  go_wp2_with fail
  rw [← hw0]
  clear hw0
  refine Calls.mono CP.out ?_
  rintro e w1 ⟨rfl, hB1⟩
  have B1 : Hid (Below w.heap.size w w1) := B0.out.trans (hB1.mono B0.out.size)
  clear hB1 B0 CP
  go_wp2_with fail
  go_loopw [7] (fun v wr => v = .int .i64 (-1) ∧ wr = w1) (fun _ _ => 0)
  case atStart => exact ⟨rfl, rfl⟩
  case round =>
    obtain ⟨rfl, hwr⟩ := hrel
    subst hwr
    have fin : Hid (SrtR w (wr.alloc (.cells (madeCells zW 0) 52)) X ah 0 (.returned (.slice (some ⟨wr.heap.size, 0, none⟩) 0 0))) := ⟨[], wr.heap.size, 0, rfl, ⟨List.Pairwise.nil, fun p => by simp⟩, by simp, fun i p hi => by simp at hi, B1.out.alloc B1.out.size _⟩
    clear B1
    go_wp2_with fail
    generalize wr.alloc (.cells (madeCells zW 0) 52) = w2 at fin ⊢
    generalize wr.heap.size = go at fin ⊢
    go_loopw [5, 8] (fun v5 v8 wx => v5 = .slice none 0 0 ∧ v8 = .slice (some ⟨go, 0, none⟩) 0 0 ∧ wx = w2) (fun _ _ _ => 0)
    case atStart => exact ⟨rfl, rfl, rfl⟩
    case round =>
      obtain ⟨rfl, rfl, hwx⟩ := hrel
      subst hwx
      go_wp2_with fail
      go_ret
      exact fin.out
/-! ### what Points tells, plain -/
def toP (g : (SerP × Int) × List (ByteArray × Int)) : PtP := ⟨g.1.1.m, g.1.1.t, g.2, g.1.2⟩
def ptsD (l : List WrP) : List PtP := (grD (intW (odD l))).map toP
/-- while the points are made: i samples are in. -/
structure PS (w3 : World) (S : List WrP) (i : Nat) (v : Value) (L : List PtA) (wr : World) : Prop where
  pg : PG wr w3.heap.size v L
  is : L.map (·.1) = (grD (S.take i)).map toP
  tl : ∀ u ∈ L, u.1.t.length ≤ 4398046511104
  fl : ∀ u ∈ L, u.1.f.length ≤ i
  le : L.length ≤ i
  bl : Below w3.heap.size w3 wr
theorem PS.below {w3 : World} {S : List WrP} {i : Nat} {v : Value} {L : List PtA} {wr wx : World} (s : PS w3 S i v L wr) (hB : Below wr.heap.size wr wx) : PS w3 S i v L wx := ⟨s.pg.below hB, s.is, s.tl, s.fl, s.le, s.bl.trans (hB.mono s.bl.size)⟩
/-- the point is there, its field not yet. -/
structure PM (w3 : World) (S : List WrP) (i : Nat) (x : WrP) (v : Value) (L : List PtA) (wr : World) : Prop where
  pg : PG wr w3.heap.size v L
  is : ∃ R0 fs, L.map (·.1) = R0.map toP ++ [toP (pkO x, fs)] ∧ grD (S.take (i + 1)) = R0 ++ [(pkO x, fs ++ [(x.s.f, x.n)])]
  tl : ∀ u ∈ L, u.1.t.length ≤ 4398046511104
  fl : ∀ u ∈ L, u.1.f.length ≤ i
  le : L.length ≤ i + 1
  bl : Below w3.heap.size w3 wr
theorem PM.below {w3 : World} {S : List WrP} {i : Nat} {x : WrP} {v : Value} {L : List PtA} {wr wx : World} (s : PM w3 S i x v L wr) (hB : Below wr.heap.size wr wx) : PM w3 S i x v L wx := ⟨s.pg.below hB, s.is, s.tl, s.fl, s.le, s.bl.trans (hB.mono s.bl.size)⟩
theorem PM.len {w3 : World} {S : List WrP} {i : Nat} {x : WrP} {v : Value} {L : List PtA} {wr : World} (s : PM w3 S i x v L wr) : 0 < L.length := by
  obtain ⟨R0, fs, h, _⟩ := s.is
  have := congrArg List.length h
  simp at this
  omega
/-- the same point as the sample ahead. -/
theorem PS.same {w3 : World} {S : List WrP} {i : Nat} {x y : WrP} {v : Value} {L : List PtA} {wr : World} (hS : S.Pairwise lessP) (s : PS w3 S i v L wr) (hi : 0 < i) (hx : S[i]? = some x) (hy : S[i - 1]? = some y) (hk : kC (pkO y) (pkO x) = 0) : PM w3 S i x v L wr := by
  refine ⟨s.pg, ?_, s.tl, s.fl, by have := s.le; omega, s.bl⟩
  have h := grD_last hS (i - 1) y hy
  rw [show i - 1 + 1 = i by omega] at h
  obtain ⟨R0, fs, e, h0⟩ := h
  have ek : pkO y = pkO x := (kC_is.zero _ _).1 hk
  rw [ek] at e h0
  refine ⟨R0, fs, by rw [s.is, e, List.map_append]; rfl, ?_⟩
  rw [grD_take hx]
  exact LastK.same e h0 (kC_is.self _)
theorem PS.newR {w3 : World} {S : List WrP} {i : Nat} {x : WrP} {v : Value} {L : List PtA} {wr : World} (hS : S.Pairwise lessP) (s : PS w3 S i v L wr) (hx : S[i]? = some x) (hk : i = 0 ∨ ∃ y, S[i - 1]? = some y ∧ kC (pkO y) (pkO x) ≠ 0) : grD (S.take (i + 1)) = grD (S.take i) ++ [(pkO x, [(x.s.f, x.n)])] := by
  rw [grD_take hx]
  by_cases h0 : i = 0
  · subst h0; rfl
  · rcases hk with e | ⟨y, hy, hk⟩
    · exact absurd e h0
    · have h := grD_last hS (i - 1) y hy
      rw [show i - 1 + 1 = i by omega] at h
      refine h.new ?_
      obtain ⟨hl, ex⟩ := List.getElem?_eq_some_iff.1 hx
      obtain ⟨hl', ey⟩ := List.getElem?_eq_some_iff.1 hy
      have := List.pairwise_iff_getElem.1 hS (i - 1) i hl' hl (by omega)
      rw [ex, ey] at this
      rcases this with q | q
      · exact q
      · exact absurd q.1 hk
/-- another point. -/
theorem PS.new {w3 : World} {S : List WrP} {i : Nat} {x : WrP} {v : Value} {L : List PtA} {wr : World} (hS : S.Pairwise lessP) (s : PS w3 S i v L wr) (hx : S[i]? = some x) (hk : i = 0 ∨ ∃ y, S[i - 1]? = some y ∧ kC (pkO y) (pkO x) ≠ 0) (ta : Option Addr) (tc : Nat) (ht : TgIn w3 ta x.s.t) (hts : x.s.t.length ≤ 4398046511104) (hn : i + 1 ≤ 1099511627776) :
    ∃ g c w', (Builtin.append_ #[26, 26] 26 #[v, .slice (some ⟨wr.heap.size, 0, none⟩) 1 1]).run Tryz.prog (wr.alloc (.cells #[.string x.s.m, .slice ta x.s.t.length tc, .slice none 0 0, .int .i64 x.tm] 41)) = .ok (.slice (some ⟨g, 0, none⟩) (L.length + 1) c) w' ∧ PM w3 S i x (.slice (some ⟨g, 0, none⟩) (L.length + 1) c) (L ++ [(⟨x.s.m, x.s.t, [], x.tm⟩, (ta, tc), (none, 0))]) w' ∧ wr.grownBy w' v.ownBlock ∧ (v.ownBlock = some g ∨ wr.heap.size < g) := by
  obtain ⟨g, c, w', h1, h2, h3, h4, h5⟩ := s.pg.more s.bl.size x.s.m x.s.t ta tc x.tm (ht.below s.bl) (fun hne ad e => by
    rcases ht with q | ⟨b, off, q, hb, _⟩
    · exact absurd q hne
    · rw [e] at q; injection q with q; rw [q]; exact hb) (by have := s.le; omega)
  refine ⟨g, c, w', h1, ⟨h2, ⟨grD (S.take i), [], ?_, ?_⟩, fun u hu => ?_, fun u hu => ?_, ?_, s.bl.trans h3⟩, h4, h5⟩
  · rw [List.map_append, s.is]; rfl
  · exact s.newR hS hx hk
  · rcases List.mem_append.1 hu with q | q
    · exact s.tl u q
    · rw [List.mem_singleton.1 q]; exact hts
  · rcases List.mem_append.1 hu with q | q
    · exact s.fl u q
    · rw [List.mem_singleton.1 q]; exact Nat.zero_le _
  · rw [List.length_append, List.length_singleton]; have := s.le; omega
/-- the field goes in. -/
theorem PM.done {w3 : World} {S : List WrP} {i : Nat} {x : WrP} {g n cap : Nat} {L : List PtA} {wr : World} (s : PM w3 S i x (.slice (some ⟨g, 0, none⟩) n cap) L wr) (hn : i + 1 ≤ 1099511627776) :
    ∃ (fa : Option Addr) (fn fc : Nat) (a : Option Addr) (c : Nat) (w' : World) (L' : List PtA) (fb : Option Nat), n = L.length ∧ wr.cell? ⟨g, (L.length - 1) * 4 + 2, none⟩ = some (.slice fa fn fc) ∧ (Builtin.append_ #[39, 39] 39 #[.slice fa fn fc, .slice (some ⟨wr.heap.size, 0, none⟩) 1 1]).run Tryz.prog (wr.alloc (.cells #[.string x.s.f, .int .i64 x.n] 54)) = .ok (.slice a (fn + 1) c) w'
      ∧ PS w3 S (i + 1) (.slice (some ⟨g, 0, none⟩) n cap) L' (w'.setCell ⟨g, (L.length - 1) * 4 + 2, none⟩ (.slice a (fn + 1) c)) ∧ w'.cell? ⟨g, (L.length - 1) * 4 + 2, none⟩ = some (.slice fa fn fc) ∧ w'.frozen? ⟨g, (L.length - 1) * 4 + 2, none⟩ = false ∧ wr.grownBy w' fb ∧ (∀ k, fb = some k → k ≠ g) ∧ (∀ k, fb = some k → k < wr.heap.size ∧ ∃ u ∈ L, fbk u = some k) := by
  have hl := s.len
  obtain ⟨R0, fs, hm, hg⟩ := s.is
  obtain ⟨u, hu⟩ : ∃ u, L[L.length - 1]? = some u := ⟨_, List.getElem?_eq_getElem (by omega)⟩
  have hu' := List.mem_of_getElem? hu
  have len0 : L.length = R0.length + 1 := by
    have := congrArg List.length hm
    simpa using this
  have hu1 : u.1 = toP (pkO x, fs) := by
    have q : (L.map (·.1))[L.length - 1]? = some u.1 := by rw [List.getElem?_map, hu]; rfl
    rw [hm, len0, List.getElem?_append_right (by simp)] at q
    simp at q
    exact q.symm
  obtain ⟨a, c, w', q1, q2, q3, q4, q5, q6⟩ := s.pg.field s.bl.size hu (x.s.f, x.n) (by have := s.fl u hu'; omega)
  have c0 := (s.pg.at hu).2.2.1
  refine ⟨u.2.2.1, u.1.f.length, u.2.2.2, a, c, w', L.set (L.length - 1) (addF u (x.s.f, x.n) a c), fbk u, (s.pg.len).1, c0, q1, ⟨q2, ?_, fun y hy => ?_, fun y hy => ?_, by rw [List.length_set]; have := s.le; omega, s.bl.trans q3⟩, q4, q5, q6, fun k e e2 => s.pg.px.fr u hu' k e (by rw [e2]; rfl), fun k e => ⟨((s.pg.px.fd u hu').bound e).2, u, hu', e⟩⟩
  · rw [hg, List.map_append, List.map_set, hm, len0]
    have e1 : R0.length + 1 - 1 = (R0.map toP).length := by simp
    have e2 : (addF u (x.s.f, x.n) a c).1 = toP (pkO x, fs ++ [(x.s.f, x.n)]) := by
      unfold addF
      rw [hu1]
      rfl
    rw [e1, List.set_append_right _ _ (Nat.le_refl _), Nat.sub_self, e2]
    rfl
  · rcases List.mem_or_eq_of_mem_set hy with q | q
    · exact s.tl y q
    · rw [q]; exact s.tl u hu'
  · rcases List.mem_or_eq_of_mem_set hy with q | q
    · have := s.fl y q; omega
    · rw [q]
      have := s.fl u hu'
      show (u.1.f ++ [_]).length ≤ i + 1
      rw [List.length_append, List.length_singleton]; omega
end Go.Proofs.YtepakgfdakeibaaGreatDoor.So.Wr

namespace Go.Proofs.YtepakgfdakeibaaGreatDoor.So.Wr
open Go.RowKit
set_option linter.unusedVariables false
set_option linter.unusedSimpArgs false
/-! ### the document's Points -/
def pkP (p : PtP) : SerP × Int := (⟨p.m, p.t, ⟨#[]⟩⟩, p.tm)
def keyW (p : PtP) : WrP := ⟨⟨p.m, p.t, ⟨#[]⟩⟩, p.tm, 0, 0⟩
theorem wC_key (p q : PtP) : wC (keyW p) (keyW q) = kC (pkP p) (pkP q) := rfl
set_option maxRecDepth 100000 in
set_option maxHeartbeats 4000000 in
theorem rahead_any (p q : PtP) (ta fa tb fb : Option Addr) (np tc fn fc nq td gn gc : Nat) (w : World) (hp : TgIn w ta p.t) (hq : TgIn w tb q.t) (lp : p.t.length = np) (lq : q.t.length = nq) (bp : np ≤ 4398046511104) (bq : nq ≤ 4398046511104) :
    Calls Tryz.prog 25 #[.agg #[.string p.m, .slice ta np tc, .slice fa fn fc, .int .i64 p.tm], .agg #[.string q.m, .slice tb nq td, .slice fb gn gc, .int .i64 q.tm]] w fun e w' => e = .returned (.int .i64 (kC (pkP p) (pkP q))) ∧ Below w.heap.size w w' := by
  have CH : Hid (∀ W, Below w.heap.size w W → Calls Tryz.prog 31 #[wV (keyW p) ta tc, wV (keyW q) tb td] W fun e w' => e = .returned (.int .i64 (kC (pkP p) (pkP q))) ∧ Below W.heap.size W w') := fun W hW => rpcompare_any (keyW p) (keyW q) ta tb tc td W ⟨hp.below hW, by show p.t.length ≤ _; omega⟩ ⟨hq.below hW, by show q.t.length ≤ _; omega⟩
  generalize kC (pkP p) (pkP q) = cv at CH ⊢
  unfold wV keyW at CH
  simp only at CH
  rw [lp, lq] at CH
  have B1 : Hid (Below w.heap.size w ((((w.alloc (.cells #[.string p.m, .slice ta np tc, .slice fa fn fc, .int .i64 p.tm] 41)).alloc (.cells #[.string q.m, .slice tb nq td, .slice fb gn gc, .int .i64 q.tm] 41)).alloc (.cells #[.string p.m, .slice ta np tc, .string ⟨#[]⟩] 44)).alloc (.cells #[.string q.m, .slice tb nq td, .string ⟨#[]⟩] 44))) := ((((Below.refl _ w).alloc (Nat.le_refl _) _).alloc (by simp) _).alloc (by simp; omega) _).alloc (by simp; omega) _
  clear hp hq lp lq bp bq
  go_enter Tryz.func25, Tryz.ntmps25
  go_wp2_with fail
  refine Calls.mono (CH.out _ B1.out) ?_
  rintro e w' ⟨rfl, BB⟩
  have fin : Hid (Below w.heap.size w w') := B1.out.trans (BB.mono B1.out.size)
  clear BB B1 CH
  go_wp2_with fail
  go_ret
  exact ⟨rfl, fin.out⟩
/-! plain: where a sample goes -/
theorem stepR_at {K F : Type} {c : K → K → Int} (e : K × F × Int) : ∀ (R : Gr K F) (n : Nat), n ≤ R.length → (∀ j g, j < n → R[j]? = some g → c g.1 e.1 < 0) → (∀ g, R[n]? = some g → ¬ c g.1 e.1 < 0) → stepR c e R = (match R[n]? with
    | none => R ++ [(e.1, [e.2])]
    | some g => if c g.1 e.1 = 0 then R.set n (g.1, g.2 ++ [e.2]) else R.take n ++ (e.1, [e.2]) :: R.drop n)
  | [], n, hn, h1, h2 => by
    obtain rfl : n = 0 := by simpa using hn
    rfl
  | g :: R, 0, hn, h1, h2 => by
    have := h2 g rfl
    rw [stepR, if_neg this]
    simp
  | g :: R, n + 1, hn, h1, h2 => by
    have g0 := h1 0 g (by omega) rfl
    rw [stepR, if_pos g0, stepR_at e R n (by simpa using hn) (fun j g' hj hg => h1 (j + 1) g' (by omega) hg) (fun g' hg => h2 g' hg)]
    simp only [List.getElem?_cons_succ]
    cases R[n]? with
    | none => rfl
    | some g' =>
      simp only
      split <;> rfl
theorem grD_more (l : List WrP) (x : WrP) : grD (l ++ [x]) = stepR kC (enO x) (grD l) := by
  unfold grD; rw [List.map_append, List.foldl_append]; rfl
/-! a point written over another one -/
def put4 (w : World) (b o : Nat) (u : PtA) : World := (((w.setCell ⟨b, o, none⟩ (.string u.1.m)).setCell ⟨b, o + 1, none⟩ (.slice u.2.1.1 u.1.t.length u.2.1.2)).setCell ⟨b, o + 2, none⟩ (.slice u.2.2.1 u.1.f.length u.2.2.2)).setCell ⟨b, o + 3, none⟩ (.int .i64 u.1.tm)
theorem encP_put (M : List PtA) (i : Nat) (u : PtA) (hi : i < M.length) : ((((encP M).set (i * 4) (.string u.1.m)).set (i * 4 + 1) (.slice u.2.1.1 u.1.t.length u.2.1.2)).set (i * 4 + 2) (.slice u.2.2.1 u.1.f.length u.2.2.2)).set (i * 4 + 3) (.int .i64 u.1.tm) = encP (M.set i u) := by
  induction M generalizing i with
  | nil => simp at hi
  | cons a r ih =>
    cases i with
    | zero => simp [encP]
    | succ i =>
      have := ih i (by simpa using hi)
      simp only [encP, List.set_cons_succ]
      rw [show (i + 1) * 4 = i * 4 + 4 by omega, ← this]
      simp
theorem put4_row {w : World} {B g cap : Nat} {M : List PtA} (h : w.ownsRow B 41 4 (.slice (some ⟨g, 0, none⟩) M.length cap) M.length (encP M)) {i : Nat} (hi : i < M.length) (u : PtA) : (put4 w g (i * 4) u).ownsRow B 41 4 (.slice (some ⟨g, 0, none⟩) M.length cap) M.length (encP (M.set i u)) ∧ w.grownBy (put4 w g (i * 4) u) (some g) := by
  have s1 := World.ownsRow.stored h (i * 4) (.string u.1.m)
  have s2 := World.ownsRow.stored s1.1 (i * 4 + 1) (.slice u.2.1.1 u.1.t.length u.2.1.2)
  have s3 := World.ownsRow.stored s2.1 (i * 4 + 2) (.slice u.2.2.1 u.1.f.length u.2.2.2)
  have s4 := World.ownsRow.stored s3.1 (i * 4 + 3) (.int .i64 u.1.tm)
  refine ⟨by rw [← encP_put M i u hi]; exact s4.1, ?_⟩
  have tr : ∀ {a b d : World}, a.grownBy b (some g) → b.grownBy d (some g) → a.grownBy d (some g) := fun p q => ⟨q.os.trans p.os, q.tape.trans p.tape, q.output.trans p.output, Nat.le_trans p.size q.size, fun k hk hne => by rw [q.block k (Nat.lt_of_lt_of_le hk p.size) hne]; exact p.block k hk hne⟩
  exact tr (tr (tr s1.2 s2.2) s3.2) s4.2
/-- a row, and points that may lie in it. -/
structure IS (w3 : World) (KP : Nat) (u : PtA) (g n cap : Nat) (L : List PtA) (k : Nat) (W : World) : Prop where
  row : ∃ e, n = (L.take k ++ e :: L.drop k).length ∧ W.ownsRow w3.heap.size 41 4 (.slice (some ⟨g, 0, none⟩) n cap) n (encP (L.take k ++ e :: L.drop k))
  px : PX W w3.heap.size (some g) (L ++ [u])
  bl : Below w3.heap.size w3 W
  kl : KP < W.heap.size
  gk : g ≠ KP
  p0 : W.cell? ⟨KP, 0, none⟩ = some (.string u.1.m)
  p1 : W.cell? ⟨KP, 1, none⟩ = some (.slice u.2.1.1 u.1.t.length u.2.1.2)
  p2 : W.cell? ⟨KP, 2, none⟩ = some (.slice u.2.2.1 u.1.f.length u.2.2.2)
  p3 : W.cell? ⟨KP, 3, none⟩ = some (.int .i64 u.1.tm)
theorem IS.le {w3 : World} {KP : Nat} {u : PtA} {g n cap : Nat} {L : List PtA} {k : Nat} {W : World} (s : IS w3 KP u g n cap L k W) (hk : k ≤ L.length) : n = L.length + 1 := by
  obtain ⟨e, h, _⟩ := s.row
  rw [h]; simp; omega
/-- what is kept where only the row's block is another one. -/
theorem IS.put {w3 : World} {KP : Nat} {u : PtA} {g n cap : Nat} {L : List PtA} {k k' : Nat} {W W' : World} (s : IS w3 KP u g n cap L k W) (gr : W.grownBy W' (some g)) (row : ∃ e, n = (L.take k' ++ e :: L.drop k').length ∧ W'.ownsRow w3.heap.size 41 4 (.slice (some ⟨g, 0, none⟩) n cap) n (encP (L.take k' ++ e :: L.drop k'))) : IS w3 KP u g n cap L k' W' := by
  have hk : W'.heap[KP]? = W.heap[KP]? := gr.block KP s.kl (fun e => s.gk (by injection e with e; exact e.symm))
  obtain ⟨e, _, hr⟩ := s.row
  have gB : w3.heap.size ≤ g := (World.ownsRow.lt hr g rfl).1
  refine ⟨row, s.px.grown gr, s.bl.trans ((Below.refl _ W).grown gr s.bl.size (fun k e => by injection e with e; omega)), Nat.lt_of_lt_of_le s.kl gr.size, s.gk, ?_, ?_, ?_, ?_⟩
  · rw [World.cell?_of_block (w := W) (a := ⟨KP, 0, none⟩) hk]; exact s.p0
  · rw [World.cell?_of_block (w := W) (a := ⟨KP, 1, none⟩) hk]; exact s.p1
  · rw [World.cell?_of_block (w := W) (a := ⟨KP, 2, none⟩) hk]; exact s.p2
  · rw [World.cell?_of_block (w := W) (a := ⟨KP, 3, none⟩) hk]; exact s.p3
/-- one place to the right. -/
theorem IS.shift {w3 : World} {KP : Nat} {u : PtA} {g n cap : Nat} {L : List PtA} {k : Nat} {W : World} (s : IS w3 KP u g n cap L (k + 1) W) (hk : k + 1 ≤ L.length) : ∃ t, L[k]? = some t ∧ PAt W g (k * 4) t.1 t.2.1.1 t.2.1.2 t.2.2.1 t.2.2.2 ∧ PAt (put4 W g ((k + 1) * 4) t) g ((k + 1) * 4) t.1 t.2.1.1 t.2.1.2 t.2.2.1 t.2.2.2 ∧ IS w3 KP u g n cap L k (put4 W g ((k + 1) * 4) t) ∧ (∀ j, j < 4 → (∃ v, W.cell? ⟨g, (k + 1) * 4 + j, none⟩ = some v) ∧ W.frozen? ⟨g, (k + 1) * 4 + j, none⟩ = false) := by
  obtain ⟨e, hn, hr⟩ := s.row
  obtain ⟨t, ht⟩ : ∃ t, L[k]? = some t := ⟨_, List.getElem?_eq_getElem (by omega)⟩
  have htk : (L.take (k + 1) ++ e :: L.drop (k + 1))[k]? = some t := by
    rw [List.getElem?_append_left (by simp; omega), List.getElem?_take, if_pos (by omega), ht]
  have lk : (L.take (k + 1)).length = k + 1 := by simp; omega
  have hset : (L.take (k + 1) ++ e :: L.drop (k + 1)).set (k + 1) t = L.take k ++ t :: L.drop k := by
    rw [List.set_append_right _ _ (by omega), lk, Nat.sub_self]
    show L.take (k + 1) ++ t :: L.drop (k + 1) = _
    rw [List.take_add_one, ht]
    have : L.drop k = t :: L.drop (k + 1) := by
      rw [List.drop_eq_getElem_cons (by omega)]
      congr 1
      exact (List.getElem?_eq_some_iff.1 ht).2
    rw [this]
    simp
  subst hn
  have q := put4_row hr (i := k + 1) (by simp; omega) t
  rw [hset] at q
  have ln : (L.take (k + 1) ++ e :: L.drop (k + 1)).length = (L.take k ++ t :: L.drop k).length := by simp; omega
  have pat : ∀ {W : World} {M : List PtA} {i : Nat} {t : PtA} {n : Nat}, W.ownsRow w3.heap.size 41 4 (.slice (some ⟨g, 0, none⟩) n cap) n (encP M) → M[i]? = some t → PAt W g (i * 4) t.1 t.2.1.1 t.2.1.2 t.2.2.1 t.2.2.2 := fun {W M i t n} h hi => by
    have hcs := World.ownsRow.cells h (g := g) rfl
    obtain ⟨e1, e2, e3, e4⟩ := encP_get M i t hi
    have k1 := hcs _ _ e1
    have k2 := hcs _ _ e2
    have k3 := hcs _ _ e3
    have k4 := hcs _ _ e4
    rw [tag_add, Nat.zero_add] at k1 k2 k3 k4
    exact ⟨k1, k2, k3, k4⟩
  refine ⟨t, ht, pat hr htk, pat (i := k + 1) q.1 ?_, s.put q.2 ⟨t, ln, q.1⟩, fun j hj => ⟨?_, World.ownsRow.frozenAt hr _⟩⟩
  · rw [← hset, List.getElem?_set_self (by simp; omega)]
  · have hcs := World.ownsRow.cells hr (g := g) rfl
    obtain ⟨v, hv⟩ : ∃ v, (encP (L.take (k + 1) ++ e :: L.drop (k + 1)))[(k + 1) * 4 + j]? = some v := ⟨_, List.getElem?_eq_getElem (by rw [encP_len]; simp; omega)⟩
    have := hcs _ _ hv
    rw [tag_add, Nat.zero_add] at this
    exact ⟨v, this⟩
theorem IS.done {w3 : World} {KP : Nat} {u : PtA} {g n cap : Nat} {L : List PtA} {k : Nat} {W : World} (s : IS w3 KP u g n cap L k W) (hk : k ≤ L.length) : PG (put4 W g (k * 4) u) w3.heap.size (.slice (some ⟨g, 0, none⟩) n cap) (L.take k ++ u :: L.drop k) ∧ Below w3.heap.size w3 (put4 W g (k * 4) u) ∧ (∀ j, j < 4 → (∃ v, W.cell? ⟨g, k * 4 + j, none⟩ = some v) ∧ W.frozen? ⟨g, k * 4 + j, none⟩ = false) := by
  obtain ⟨e, hn, hr⟩ := s.row
  have lk : (L.take k).length = k := by simp; omega
  have hset : (L.take k ++ e :: L.drop k).set k u = L.take k ++ u :: L.drop k := by
    rw [List.set_append_right _ _ (by omega), lk, Nat.sub_self]; rfl
  subst hn
  have q := put4_row hr (i := k) (by simp; omega) u
  rw [hset] at q
  have s2 := s.put (k' := k) q.2 ⟨u, by simp, q.1⟩
  have ln : (L.take k ++ e :: L.drop k).length = (L.take k ++ u :: L.drop k).length := by simp
  refine ⟨⟨by rw [← ln]; exact q.1, s2.px.perm ?_⟩, s2.bl, fun j hj => ⟨?_, World.ownsRow.frozenAt hr _⟩⟩
  · have h1 : (L ++ [u]).Perm (u :: L) := List.perm_append_singleton u L
    have h2 : (L.take k ++ u :: L.drop k).Perm (u :: (L.take k ++ L.drop k)) := List.perm_middle
    rw [List.take_append_drop] at h2
    exact h1.trans h2.symm
  · have hcs := World.ownsRow.cells hr (g := g) rfl
    obtain ⟨v, hv⟩ : ∃ v, (encP (L.take k ++ e :: L.drop k))[k * 4 + j]? = some v := ⟨_, List.getElem?_eq_getElem (by rw [encP_len]; simp; omega)⟩
    have := hcs _ _ hv
    rw [tag_add, Nat.zero_add] at this
    exact ⟨v, this⟩
end Go.Proofs.YtepakgfdakeibaaGreatDoor.So.Wr
