
import Derived.Test.YtlcppkemiogbeaaBcK
import Derived.Test.YtlcppkemiogbeaaBkU4
import Derived.Test.YtlcppkemiogbeaaBkU2
import Derived.Test.YtlcppkemiogbeaaBkU5
import Derived.Deep.RegionHeld3
namespace Go.Proofs.Ytlcppkemiogbeaa
open Go.RowKit _root_.Go.Proofs.Ytlcppkemiogbeaa.So
set_option linter.unusedVariables false
set_option linter.unusedSimpArgs false
open Ser (Smp Rise loadL)
/-- what writes say of one series. -/
def smpOf (x : WrP) : Smp := ⟨x.tm, x.kd, x.n⟩
def smpsOf (q : SerP) (A : List WrP) : List Smp := (A.filter fun x => decide (serC x.s q = 0)).map smpOf
theorem mem_smps {q : SerP} {A : List WrP} {x : Smp} : x ∈ smpsOf q A ↔ ∃ e ∈ A, serC e.s q = 0 ∧ smpOf e = x := by
  unfold smpsOf
  rw [List.mem_map]
  constructor
  · rintro ⟨e, he, h⟩
    have := List.mem_filter.1 he
    exact ⟨e, this.1, by simpa using this.2, h⟩
  · rintro ⟨e, he, h1, h2⟩
    exact ⟨e, List.mem_filter.2 ⟨he, by simpa using h1⟩, h2⟩
theorem same_key {q : SerP} {x y : WrP} (h1 : serC x.s q = 0) (h2 : serC y.s q = 0) : wC x y = 0 ↔ x.tm = y.tm := by
  have e1 := (serC_is.zero _ _).1 h1
  have e2 := (serC_is.zero _ _).1 h2
  rw [wC_eq]
  unfold wK
  rw [e1, e2]
  simp
theorem key_of {q : SerP} {x y : WrP} (h : serC x.s q = 0) (h0 : wC x y = 0) : serC y.s q = 0 ∧ x.tm = y.tm := by
  have e := wC_eq.1 h0
  unfold wK at e
  injection e with e1 e2
  exact ⟨by rw [← e1]; exact h, e2⟩
theorem smps_rise {q : SerP} {A : List WrP} (h : SW A) : Rise (smpsOf q A) := by
  unfold smpsOf
  refine List.pairwise_map.2 ?_
  have h1 : (A.filter fun x => decide (serC x.s q = 0)).Pairwise fun x y => wC x y < 0 := List.Pairwise.sublist List.filter_sublist h
  refine (List.Pairwise.and_mem.1 h1).imp ?_
  rintro x y ⟨hx, hy, hlt⟩
  have qx : serC x.s q = 0 := by simpa using (List.mem_filter.1 hx).2
  have qy : serC y.s q = 0 := by simpa using (List.mem_filter.1 hy).2
  have e1 := (serC_is.zero _ _).1 qx
  have e2 := (serC_is.zero _ _).1 qy
  show x.tm < y.tm
  unfold wC kC wK pairC at hlt
  simp only [e1, e2] at hlt
  rw [(serC_is.zero q q).2 rfl] at hlt
  simp only [if_true] at hlt
  unfold tmC at hlt
  split at hlt
  · assumption
  · split at hlt <;> omega
theorem valOf_cons (s : Smp) (L : List Smp) (t : Int) : Ser.valOf (s :: L) t = match Ser.valOf L t with | some v => some v | none => if s.t = t then some (s.k, s.x) else none := by
  unfold Ser.valOf
  rw [List.reverse_cons, List.find?_append]
  cases h : L.reverse.find? fun s => decide (s.t = t) with
  | some v => simp [h]
  | none =>
    simp only [h, Option.none_or, Option.map_none]
    by_cases e : s.t = t <;> simp [e]
theorem valOf_isSome {L : List Smp} {t : Int} : (Ser.valOf L t).isSome = true ↔ ∃ s ∈ L, s.t = t := by
  rw [Ser.valOf_some, List.any_eq_true]
  simp
theorem valOf_last (q : SerP) (x : Smp) : ∀ M : List WrP, (∃ e, LW M e ∧ serC e.s q = 0 ∧ smpOf e = x) ↔ Ser.valOf (smpsOf q M) x.t = some (x.k, x.x)
  | [] => by simp [LW, smpsOf, Ser.valOf]
  | m :: M => by
    have ih := valOf_last q x M
    by_cases hm : serC m.s q = 0
    · have e1 : smpsOf q (m :: M) = smpOf m :: smpsOf q M := by unfold smpsOf; rw [List.filter_cons_of_pos (by simpa using hm)]; rfl
      rw [e1, valOf_cons]
      constructor
      · rintro ⟨e, h, h1, h2⟩
        rcases h with ⟨rfl, hl⟩ | h
        · have hn : Ser.valOf (smpsOf q M) x.t = none := by
            cases hv : Ser.valOf (smpsOf q M) x.t with
            | none => rfl
            | some v =>
              obtain ⟨s, hs, ht⟩ := valOf_isSome.1 (show (Ser.valOf (smpsOf q M) x.t).isSome = true by rw [hv]; rfl)
              obtain ⟨y, hy, hyq, rfl⟩ := mem_smps.1 hs
              refine absurd ((same_key h1 hyq).2 ?_) (hl y hy)
              rw [← h2] at ht
              exact ht.symm
          rw [hn, ← h2]
          simp [smpOf]
        · rw [ih.1 ⟨e, h, h1, h2⟩]
      · intro h
        cases hv : Ser.valOf (smpsOf q M) x.t with
        | some v =>
          rw [hv] at h
          obtain ⟨e, h1, h2, h3⟩ := ih.2 (by rw [hv]; exact h)
          exact ⟨e, Or.inr h1, h2, h3⟩
        | none =>
          rw [hv] at h
          simp only at h
          split at h
          · rename_i ht
            refine ⟨m, Or.inl ⟨rfl, fun y hy h0 => ?_⟩, hm, ?_⟩
            · obtain ⟨yq, yt⟩ := key_of hm h0
              have : (Ser.valOf (smpsOf q M) x.t).isSome = true := valOf_isSome.2 ⟨smpOf y, mem_smps.2 ⟨y, hy, yq, rfl⟩, by
                show y.tm = x.t
                rw [← yt]; exact ht⟩
              rw [hv] at this
              cases this
            · injection h with h
              injection h with h1 h2
              unfold smpOf at *
              cases x
              simp at *
              exact ⟨ht, h1, h2⟩
          · cases h
    · have e1 : smpsOf q (m :: M) = smpsOf q M := by unfold smpsOf; rw [List.filter_cons_of_neg (by simpa using hm)]
      rw [e1, ← ih]
      constructor
      · rintro ⟨e, h, h1, h2⟩
        rcases h with ⟨rfl, _⟩ | h
        · exact absurd h1 hm
        · exact ⟨e, h, h1, h2⟩
      · rintro ⟨e, h, h1, h2⟩
        exact ⟨e, Or.inr h, h1, h2⟩
/-- a batch loaded, series by series, is a batch laid over. -/
theorem union_step (q : SerP) (A M : List WrP) (hA : SW A) (K : List Int) (hK : K.Pairwise (· < ·)) (hKm : ∀ t, t ∈ K ↔ (Ser.valOf (smpsOf q M) t).isSome = true) :
    loadL (fun t => (Ser.valOf (smpsOf q M) t).getD (0, 0)) (smpsOf q A) K = smpsOf q (odD (A ++ M)) := by
  have hR := smps_rise (q := q) hA
  refine Ser.rise_eq (Ser.loadL_rise _ hR hK) (smps_rise (odD_sw _)) fun x => ?_
  rw [Ser.loadL_mem _ hR, hKm, mem_smps (A := odD (A ++ M))]
  have hod : ∀ e, e ∈ odD (A ++ M) ↔ LW M e ∨ (e ∈ A ∧ ∀ y ∈ M, wC e y ≠ 0) := fun e => by
    rw [(odD_ok _ (A ++ M) (Nat.le_refl _)).2 e, LW.app, LW_sw hA]
  constructor
  · rintro (⟨h1, h2⟩ | ⟨h1, h2⟩)
    · obtain ⟨e, he, hq, rfl⟩ := mem_smps.1 h1
      refine ⟨e, (hod e).2 (Or.inr ⟨he, fun y hy h0 => h2 ?_⟩), hq, rfl⟩
      obtain ⟨yq, yt⟩ := key_of hq h0
      exact valOf_isSome.2 ⟨smpOf y, mem_smps.2 ⟨y, hy, yq, rfl⟩, yt.symm⟩
    · obtain ⟨v, hv⟩ := Option.isSome_iff_exists.1 h1
      rw [hv] at h2
      simp only [Option.getD_some] at h2
      obtain ⟨e, h3, h4, h5⟩ := (valOf_last q x M).2 (by rw [hv, h2])
      exact ⟨e, (hod e).2 (Or.inl h3), h4, h5⟩
  · rintro ⟨e, he, hq, rfl⟩
    rcases (hod e).1 he with h | ⟨h1, h2⟩
    · right
      have := (valOf_last q (smpOf e) M).1 ⟨e, h, hq, rfl⟩
      rw [this]
      exact ⟨rfl, rfl⟩
    · left
      refine ⟨mem_smps.2 ⟨e, h1, hq, rfl⟩, fun hs => ?_⟩
      obtain ⟨s, hs, ht⟩ := valOf_isSome.1 hs
      obtain ⟨y, hy, yq, rfl⟩ := mem_smps.1 hs
      exact h2 y hy ((same_key hq yq).2 ht.symm)
end Go.Proofs.Ytlcppkemiogbeaa

namespace Go.Proofs.Ytlcppkemiogbeaa
open Go.RowKit _root_.Go.Proofs.Ytlcppkemiogbeaa.So
set_option linter.unusedVariables false
set_option linter.unusedSimpArgs false
open Ser (Smp Rise)
/-- batches laid one over the other. -/
def accD (ll : List (List WrP)) : List WrP := ll.foldl (fun A l => odD (A ++ l)) []
theorem accD_take {ll : List (List WrP)} {i : Nat} {l : List WrP} (h : ll[i]? = some l) : accD (ll.take (i + 1)) = odD (accD (ll.take i) ++ l) := by
  unfold accD
  rw [List.take_add_one, h, List.foldl_append]
  rfl
theorem acc_inv : ∀ (ll : List (List WrP)) (A : List WrP), SW A → SW (ll.foldl (fun A l => odD (A ++ l)) A)
  | [], A, h => h
  | l :: ll, A, h => acc_inv ll _ (odD_sw _)
theorem accD_sw (ll : List (List WrP)) : SW (accD ll) := acc_inv ll [] List.Pairwise.nil
theorem acc_len : ∀ (ll : List (List WrP)) (A : List WrP), (ll.foldl (fun A l => odD (A ++ l)) A).length ≤ A.length + ll.flatten.length
  | [], A => by simp
  | l :: ll, A => by
    have h := acc_len ll (odD (A ++ l))
    have h2 := odD_len (A ++ l)
    rw [List.length_append] at h2
    rw [List.foldl_cons, List.flatten_cons, List.length_append]
    omega
theorem accD_len (ll : List (List WrP)) : (accD ll).length ≤ ll.flatten.length := by have := acc_len ll []; simpa [accD] using this
theorem acc_mem : ∀ (ll : List (List WrP)) (A : List WrP) (x : WrP), x ∈ ll.foldl (fun A l => odD (A ++ l)) A → x ∈ A ∨ x ∈ ll.flatten
  | [], A, x, h => Or.inl h
  | l :: ll, A, x, h => by
    rcases acc_mem ll _ x h with h | h
    · have := (((odD_ok _ (A ++ l) (Nat.le_refl _)).2 x).1 h).mem
      rcases List.mem_append.1 this with h | h
      · exact Or.inl h
      · right; rw [List.flatten_cons]; exact List.mem_append_left _ h
    · right; rw [List.flatten_cons]; exact List.mem_append_right _ h
theorem accD_mem {ll : List (List WrP)} {x : WrP} (h : x ∈ accD ll) : x ∈ ll.flatten := by
  rcases acc_mem ll [] x h with h | h
  · cases h
  · exact h
theorem flat_take (ll : List (List WrP)) (i : Nat) : (ll.take i).flatten.length ≤ ll.flatten.length := by
  have e : ll.flatten = (ll.take i).flatten ++ (ll.drop i).flatten := by rw [← List.flatten_append, List.take_append_drop]
  rw [e, List.length_append]; omega
theorem flat_take1 {ll : List (List WrP)} {i : Nat} {l : List WrP} (h : ll[i]? = some l) : (ll.take i).flatten.length + l.length ≤ ll.flatten.length := by
  have := flat_take ll (i + 1)
  rw [List.take_add_one, h, List.flatten_append, List.length_append] at this
  simpa using this
theorem flat_mem {ll : List (List WrP)} {i : Nat} {l : List WrP} (h : ll[i]? = some l) {x : WrP} (hx : x ∈ l) : x ∈ ll.flatten := List.mem_flatten.2 ⟨l, List.mem_of_getElem? h, hx⟩
theorem flat_mem_take {ll : List (List WrP)} {i : Nat} {x : WrP} (hx : x ∈ (ll.take i).flatten) : x ∈ ll.flatten := by
  obtain ⟨l, hl, h⟩ := List.mem_flatten.1 hx
  exact List.mem_flatten.2 ⟨l, List.mem_of_mem_take hl, h⟩
theorem smps_len (q : SerP) (A : List WrP) : (smpsOf q A).length ≤ A.length := by unfold smpsOf; rw [List.length_map]; exact List.length_filter_le _ _
theorem smps_snoc (q : SerP) (A : List WrP) (x : WrP) : smpsOf q (A ++ [x]) = smpsOf q A ++ (if serC x.s q = 0 then [smpOf x] else []) := by
  unfold smpsOf
  rw [List.filter_append, List.map_append]
  by_cases h : serC x.s q = 0 <;> simp [h]
theorem smps_take {q : SerP} {A : List WrP} {i : Nat} {x : WrP} (h : A[i]? = some x) : smpsOf q (A.take (i + 1)) = smpsOf q (A.take i) ++ (if serC x.s q = 0 then [smpOf x] else []) := by
  rw [List.take_add_one, h]; exact smps_snoc q _ x
theorem smps_at {q : SerP} {A : List WrP} {i : Nat} {x : WrP} (h : A[i]? = some x) (hq : serC x.s q = 0) : (smpsOf q A)[(smpsOf q (A.take i)).length]? = some (smpOf x) := by
  have e : smpsOf q A = smpsOf q (A.take (i + 1)) ++ smpsOf q (A.drop (i + 1)) := by
    conv => lhs; rw [← List.take_append_drop (i + 1) A]
    unfold smpsOf
    rw [List.filter_append, List.map_append]
  rw [e, smps_take h, if_pos hq]
  simp
/-- what Range and Last tell, together, is the row. -/
theorem have_all {S : List Smp} (hr : Rise S) (hk : ∀ s ∈ S, s.ok) :
    (S = [] ∧ Ser.rangeL S (-9223372036854775808) 9223372036854775807 = S) ∨ (∃ x, S[S.length - 1]? = some x ∧ 0 < S.length ∧ ((x.t = 9223372036854775807 ∧ Ser.rangeL S (-9223372036854775808) 9223372036854775807 ++ [x] = S) ∨ (x.t ≠ 9223372036854775807 ∧ Ser.rangeL S (-9223372036854775808) 9223372036854775807 = S))) := by
  have hm : ∀ y, y ∈ Ser.rangeL S (-9223372036854775808) 9223372036854775807 ↔ y ∈ S ∧ y.t ≠ 9223372036854775807 := fun y => by
    rw [Ser.rangeL_mem hr]
    constructor
    · rintro ⟨h1, h2, h3⟩; exact ⟨h1, by omega⟩
    · rintro ⟨h1, h2⟩
      have := (hk y h1).1
      exact ⟨h1, by omega, by omega⟩
  have hR := Ser.rangeL_rise hr (-9223372036854775808) 9223372036854775807
  cases hS : S with
  | nil => left; exact ⟨rfl, by simp [Ser.rangeL]⟩
  | cons s0 S0 =>
    right
    have h0 : 0 < S.length := by rw [hS]; simp
    rw [← hS]
    obtain ⟨x, hx⟩ : ∃ x, S[S.length - 1]? = some x := ⟨_, List.getElem?_eq_getElem (by omega)⟩
    have hxm := List.mem_of_getElem? hx
    have top : ∀ y ∈ S, y = x ∨ y.t < x.t := fun y hy => by
      obtain ⟨j, hj⟩ := List.mem_iff_getElem?.1 hy
      have hjl := (List.getElem?_eq_some_iff.1 hj).1
      by_cases e : j = S.length - 1
      · left; rw [e, hx] at hj; injection hj with hj; exact hj.symm
      · right; exact hr.lt (by omega) hj hx
    refine ⟨x, hx, h0, ?_⟩
    by_cases e : x.t = 9223372036854775807
    · left
      refine ⟨e, Ser.rise_eq ?_ hr fun y => ?_⟩
      · refine List.pairwise_append.2 ⟨hR, List.pairwise_singleton _ _, fun a ha b hb => ?_⟩
        rw [List.mem_singleton.1 hb]
        have h1 := (hm a).1 ha
        have := (hk a h1.1).1
        omega
      · rw [List.mem_append, hm, List.mem_singleton]
        constructor
        · rintro (h | h)
          · exact h.1
          · rw [h]; exact hxm
        · intro h
          rcases top y h with h1 | h1
          · exact Or.inr h1
          · exact Or.inl ⟨h, by omega⟩
    · right
      refine ⟨e, Ser.rise_eq hR hr fun y => ?_⟩
      rw [hm]
      refine ⟨fun h => h.1, fun h => ⟨h, ?_⟩⟩
      rcases top y h with h1 | h1
      · rw [h1]; exact e
      · have := (hk x hxm).1; omega
/-- rows of writes that lie in memory. -/
def LwIn (w : World) (a : Option Addr) (ll : List (List WrP)) : Prop := ll = [] ∨ ∃ b off, a = some ⟨b, off, none⟩ ∧ b < w.heap.size ∧ ∀ i l, ll[i]? = some l → ∃ a' c', w.cell? ⟨b, off + i, none⟩ = some (.slice a' l.length c') ∧ WIn w a' l
theorem LwIn.at {w wr : World} {a : Option Addr} {ll : List (List WrP)} (h : LwIn w a ll) (hB : Below w.heap.size w wr) {i : Nat} {l : List WrP} (hi : ll[i]? = some l) : ∃ b off a' c', a = some ⟨b, off, none⟩ ∧ b < w.heap.size ∧ wr.cell? ⟨b, off + i, none⟩ = some (.slice a' l.length c') ∧ ∀ W, Below w.heap.size w W → W.cell? ⟨b, off + i, none⟩ = some (.slice a' l.length c') ∧ WIn W a' l := by
  rcases h with h0 | ⟨b, off, e, hb, hc⟩
  · rw [h0] at hi; simp at hi
  · obtain ⟨a', c', h1, h2⟩ := hc i l hi
    have g : ∀ W, Below w.heap.size w W → W.cell? ⟨b, off + i, none⟩ = some (.slice a' l.length c') ∧ WIn W a' l := fun W hW => ⟨by rw [hW.cell (p := ⟨b, off + i, none⟩) hb]; exact h1, h2.below hW⟩
    exact ⟨b, off, a', c', e, hb, (g wr hB).1, g⟩
theorem Fr.OW2.keep {w w' : World} {P : Nat} {v : Value} {L : List WrA} (h : Fr.OW2 w P v L) (hs : w.heap.size ≤ w'.heap.size) (hk : ∀ k, P ≤ k → k < w.heap.size → w'.heap[k]? = w.heap[k]?) : Fr.OW2 w' P v L := by
  refine ⟨⟨⟨h.1.1.1, ?_⟩, fun t ht => ?_⟩, h.2⟩
  · rcases h.1.1.2 with e | ⟨g, cap, cur, e, hb, h3, r⟩
    · exact Or.inl e
    · exact Or.inr ⟨g, cap, cur, e, hb, by rw [hk g hb (Array.getElem?_eq_some_iff.1 h3).1]; exact h3, r⟩
  · obtain ⟨tg, tl⟩ := h.1.2 t ht
    refine ⟨?_, tl⟩
    by_cases hz : t.1.s.t = []
    · exact Or.inl hz
    · rcases tg with e | ⟨b, off, e, hb, hc⟩
      · exact Or.inl e
      · have hkb := hk b (h.2 t ht hz _ e).2 hb
        exact Or.inr ⟨b, off, e, Nat.lt_of_lt_of_le hb hs, fun i u hu => by
          obtain ⟨k1, k2⟩ := hc i u hu
          exact ⟨by rw [World.cell?_of_block (w := w) (a := ⟨b, off + i * 2, none⟩) hkb]; exact k1, by rw [World.cell?_of_block (w := w) (a := ⟨b, off + i * 2 + 1, none⟩) hkb]; exact k2⟩⟩
/-- the box of the series that is asked for. -/
structure BxS (K : Nat) (q : SerP) (aq : Option Addr) (cq : Nat) (wr : World) : Prop where
  lt : K < wr.heap.size
  b0 : wr.cell? ⟨K, 0, none⟩ = some (.string q.m)
  b1 : wr.cell? ⟨K, 1, none⟩ = some (.slice aq q.t.length cq)
  b2 : wr.cell? ⟨K, 2, none⟩ = some (.string q.f)
theorem BxS.below {K B : Nat} {q : SerP} {aq : Option Addr} {cq : Nat} {wr wx : World} (h : BxS K q aq cq wr) (hB : Below B wr wx) (hK : K < B) : BxS K q aq cq wx :=
  ⟨Nat.lt_of_lt_of_le h.lt hB.size, by rw [hB.cell (p := ⟨K, 0, none⟩) hK]; exact h.b0, by rw [hB.cell (p := ⟨K, 1, none⟩) hK]; exact h.b1, by rw [hB.cell (p := ⟨K, 2, none⟩) hK]; exact h.b2⟩
/-- what stands at each batch. -/
structure UnS (w : World) (q : SerP) (aq : Option Addr) (cq : Nat) (A : List WrP) (vs va : Value) (wr : World) : Prop where
  bl : Below w.heap.size w wr
  bx : BxS w.heap.size q aq cq wr
  ss : Ser.SS (w.heap.size + 1) (w.heap.size + 1) vs (smpsOf q A) wr
  al : ∃ P L, Fr.OW2 wr P va L ∧ L.map (·.1) = A ∧ w.heap.size + 1 < P ∧ (∀ g, vs.ownBlock = some g → g < P)
theorem UnS.below {w : World} {q : SerP} {aq : Option Addr} {cq : Nat} {A : List WrP} {vs va : Value} {wr wx : World} (h : UnS w q aq cq A vs va wr) (hB : Below wr.heap.size wr wx) : UnS w q aq cq A vs va wx := by
  obtain ⟨P, L, h1, h2, h3, h4⟩ := h.al
  exact ⟨h.bl.trans (hB.mono h.bl.size), h.bx.below hB h.bx.lt, h.ss.below hB, P, L, h1.below hB, h2, h3, h4⟩
theorem UnS.sl {w : World} {q : SerP} {aq : Option Addr} {cq : Nat} {A : List WrP} {vs va : Value} {wr : World} (h : UnS w q aq cq A vs va wr) : ∃ a c, va = .slice a A.length c ∧ WIn wr a A := by
  obtain ⟨P, L, h1, h2, _⟩ := h.al
  obtain ⟨a, c, e, _, hw⟩ := h1.slice
  rw [h2] at hw
  exact ⟨a, c, by rw [e, ← h2, List.length_map], hw⟩
/-- behind Load. -/
structure UnL (w : World) (q : SerP) (aq : Option Addr) (cq : Nat) (A A' : List WrP) (vs va : Value) (wr : World) : Prop where
  bl : Below w.heap.size w wr
  bx : BxS w.heap.size q aq cq wr
  ss : Ser.SS (w.heap.size + 1) (w.heap.size + 1) vs (smpsOf q A') wr
  al : ∃ P L, Fr.OW2 wr P va L ∧ L.map (·.1) = A
theorem UnS.load {w : World} {q : SerP} {aq : Option Addr} {cq : Nat} {A A' : List WrP} {vs va vs' : Value} {wr wx : World} (h : UnS w q aq cq A vs va wr) (hs : Ser.SS (w.heap.size + 1) (w.heap.size + 1) vs' (smpsOf q A') wx) (hf : Ser.SFr (w.heap.size + 1) vs vs' wr wx) : UnL w q aq cq A A' vs' va wx := by
  have hB := hf.below h.ss
  obtain ⟨P, L, h1, h2, h3, h4⟩ := h.al
  refine ⟨h.bl.trans (hB.mono (by omega)), h.bx.below hB (by omega), hs, P, L, h1.keep hB.size (fun k hP hk => hf.keep k hk (by omega) (fun e => ?_)), h2⟩
  have := h4 k e.symm
  omega
theorem UnL.sl {w : World} {q : SerP} {aq : Option Addr} {cq : Nat} {A A' : List WrP} {vs va : Value} {wr : World} (h : UnL w q aq cq A A' vs va wr) : ∃ a c, va = .slice a A.length c ∧ WIn wr a A := by
  obtain ⟨P, L, h1, h2⟩ := h.al
  obtain ⟨a, c, e, _, hw⟩ := h1.slice
  rw [h2] at hw
  exact ⟨a, c, by rw [e, ← h2, List.length_map], hw⟩
theorem UnL.merge {w : World} {q : SerP} {aq : Option Addr} {cq : Nat} {A l : List WrP} {vs va : Value} {wr wx : World} {e : Ending} (h : UnL w q aq cq A (odD (A ++ l)) vs va wr) (hm : Fr.OdR wr wx (A ++ l) e) : ∃ a z c, e = .returned (.slice a z c) ∧ UnS w q aq cq (odD (A ++ l)) vs (.slice a z c) wx := by
  obtain ⟨a, z, c, L, e1, o, i, b⟩ := hm
  refine ⟨a, z, c, e1, h.bl.trans (b.mono h.bl.size), h.bx.below b h.bx.lt, h.ss.below b, wr.heap.size, L, o, i, ?_, fun g hg => h.ss.row.lt hg⟩
  exact h.ss.hN
/-- samples of one's own, one behind the other. -/
structure InS (W0 : World) (v : Value) (L : List Smp) (wr : World) : Prop where
  bl : Below W0.heap.size W0 wr
  row : Ser.OR wr W0.heap.size v L
theorem InS.start (W : World) : InS W (.slice none 0 0) [] W := ⟨Below.refl _ _, Or.inl (by simpa [Ser.encL] using World.ownsRow_nil _ _ _ _)⟩
theorem InS.below {W0 wr wx : World} {v : Value} {L : List Smp} (h : InS W0 v L wr) (hB : Below wr.heap.size wr wx) : InS W0 v L wx := ⟨h.bl.trans (hB.mono h.bl.size), h.row.below hB (Nat.le_refl _)⟩
theorem InS.app {W0 wr : World} {v : Value} {L : List Smp} (h : InS W0 v L wr) (s : Smp) (hn : L.length + 1 ≤ 4398046511104) :
    ∃ a c wx, (Builtin.append_ #[29, 29] 29 #[v, .slice (some ⟨wr.heap.size, 0, none⟩) 1 1]).run Try.prog (wr.alloc (.cells #[.int .i64 s.t, .int .u8 (s.k : Int), .int .i64 s.x] 35)) = .ok (.slice a (L.length + 1) c) wx ∧ InS W0 (.slice a (L.length + 1) c) (L ++ [s]) wx := by
  have b1 : Below wr.heap.size wr (wr.alloc (.cells #[.int .i64 s.t, .int .u8 (s.k : Int), .int .i64 s.x] 35)) := (Below.refl _ wr).alloc (Nat.le_refl _) _
  have h1 := h.below b1
  obtain ⟨g, cap, wx, r1, r2, r3, r4, r5⟩ := Ser.app_row _ W0.heap.size v L [s] h1.row h1.bl.size ⟨wr.heap.size, 0, none⟩ 1 (fun j u hj => by
    rcases j with _ | _ | _ | j <;> simp [Ser.encL, Ser.Smp.enc] at hj <;> (try (subst hj; simp [go_sem, Addr.add]))) (by simp) (by simpa using hn)
  refine ⟨some ⟨g, 0, none⟩, cap, wx, by simpa using r1, ⟨h1.bl.trans ((Below.refl _ _).grown r3 h1.bl.size (fun k e => h1.row.bound e)), Or.inl ?_⟩⟩
  simpa using r2
end Go.Proofs.Ytlcppkemiogbeaa

namespace Go.Proofs.Ytlcppkemiogbeaa
open Go.RowKit _root_.Go.Proofs.Ytlcppkemiogbeaa.So
set_option linter.unusedVariables false
set_option linter.unusedSimpArgs false
open Ser (Smp Rise)
theorem new_step (w : World) (q : SerP) (aq : Option Addr) (cq : Nat) (N : Nat) (hN : N = w.heap.size + 1) (w1 : World) (h1 : w1 = w.alloc (.cells #[.string q.m, .slice aq q.t.length cq, .string q.f] 25)) :
    Calls Try.prog 4 #[] w1 fun e w' => e = .returned (.pointer (some ⟨N, 0, none⟩)) ∧ UnS w q aq cq [] (.slice none 0 0) (.slice none 0 0) w' := by
  have s1 : w1.heap.size = w.heap.size + 1 := by rw [h1]; simp
  have b1 : Below w.heap.size w w1 := by rw [h1]; exact (Below.refl _ w).alloc (Nat.le_refl _) _
  have bx : BxS w.heap.size q aq cq w1 := by rw [h1]; exact ⟨by simp, by simp [go_sem], by simp [go_sem], by simp [go_sem]⟩
  refine (Ser.new_any w1).mono fun e w' hh => ?_
  obtain ⟨e1, hs, hb⟩ := hh
  rw [s1] at e1 hs
  refine ⟨by rw [e1, hN], b1.trans (hb.mono b1.size), bx.below hb (by omega), hs, w.heap.size + 2, [], ⟨OW.nil _ _, fun t h => by cases h⟩, rfl, by omega, fun g hg => by simp [Value.ownBlock] at hg⟩
theorem load_step {w : World} {q : SerP} {aq : Option Addr} {cq : Nat} {A l : List WrP} {vs va : Value} {wr wk : World} {a8 : Option Addr} {z8 c8 : Nat} (hU : UnS w q aq cq A vs va wr) (hA : SW A) (hI : InS wr (.slice a8 z8 c8) (smpsOf q l) wk) (hk : ∀ s ∈ smpsOf q l, s.ok) (hn : A.length + l.length ≤ 1000000000000) :
    Calls Try.prog 6 #[.pointer (some ⟨w.heap.size + 1, 0, none⟩), .slice a8 z8 c8] wk fun e w' => ∃ r vs', e = .returned r ∧ UnL w q aq cq A (odD (A ++ l)) vs' va w' := by
  have U' := hU.below hI.bl
  obtain ⟨a, cap, e, hc, hL⟩ := hI.row.lin hk
  cases e
  refine (Ser.load_any _ _ vs (smpsOf q A) (smpsOf q l) a8 c8 wk U'.ss hL (by have := smps_len q A; have := smps_len q l; omega)).mono fun e w' hh => ?_
  obtain ⟨r, v', K, e1, hK, hKm, hs, hf, _⟩ := hh
  rw [union_step q A l hA K hK hKm] at hs
  exact ⟨r, v', e1, U'.load hs hf⟩
theorem merge_step {w : World} {q : SerP} {aq : Option Addr} {cq : Nat} {A l : List WrP} {vs : Value} {W : World} {a a' : Option Addr} {z c c' : Nat} (hL : UnL w q aq cq A (odD (A ++ l)) vs (.slice a z c) W) (hl : WIn W a' l) (hn : A.length + l.length ≤ 549755813888) (htA : ∀ x ∈ A, x.s.t.length ≤ 4398046511104) (htl : ∀ x ∈ l, x.s.t.length ≤ 4398046511104) :
    Calls Try.prog 7 #[.slice a z c, .slice a' l.length c'] W fun e w' => ∃ a z c, e = .returned (.slice a z c) ∧ UnS w q aq cq (odD (A ++ l)) vs (.slice a z c) w' := by
  obtain ⟨a2, c2, e, hw⟩ := hL.sl
  cases e
  exact (Fr.bmerge_any a a' c c' A l W hw hl hn htA htl).mono fun e w' h => hL.merge h
theorem range_step {w : World} {q : SerP} {aq : Option Addr} {cq : Nat} {A : List WrP} {vs va : Value} {wr : World} (hU : UnS w q aq cq A vs va wr) :
    Calls Try.prog 8 #[.pointer (some ⟨w.heap.size + 1, 0, none⟩), .int .i64 (-9223372036854775808), .int .i64 9223372036854775807] wr fun e w' => ∃ a z c, e = .returned (.slice a z c) ∧ z = (Ser.rangeL (smpsOf q A) (-9223372036854775808) 9223372036854775807).length ∧ InS wr (.slice a z c) (Ser.rangeL (smpsOf q A) (-9223372036854775808) 9223372036854775807) w' := by
  refine (Ser.range_any _ _ vs _ wr hU.ss _ _).mono fun e w' hh => ?_
  obtain ⟨v', e1, h1, h2⟩ := hh
  obtain ⟨a, cap, e2, _, _⟩ := Ser.OR.lin (Or.inl h1) (fun s hs => hU.ss.hk s ((Ser.rangeL_mem hU.ss.hr _ _ s).1 hs).1)
  exact ⟨a, _, cap, by rw [e1, e2], rfl, h2, by rw [e2] at h1; exact Or.inl h1⟩
theorem last_step {w : World} {q : SerP} {aq : Option Addr} {cq : Nat} {A : List WrP} {vs va : Value} {wr : World} (hU : UnS w q aq cq A vs va wr) :
    Calls Try.prog 9 #[.pointer (some ⟨w.heap.size + 1, 0, none⟩)] wr fun e w' => ∃ (x : Smp) (b : Bool), e = .returned (.tuple #[.agg #[.int .i64 x.t, .int .u8 (x.k : Int), .int .i64 x.x], .bool b]) ∧ ((b = false ∧ Ser.rangeL (smpsOf q A) (-9223372036854775808) 9223372036854775807 = smpsOf q A) ∨ (b = true ∧ x.t = 9223372036854775807 ∧ Ser.rangeL (smpsOf q A) (-9223372036854775808) 9223372036854775807 ++ [x] = smpsOf q A) ∨ (b = true ∧ x.t ≠ 9223372036854775807 ∧ Ser.rangeL (smpsOf q A) (-9223372036854775808) 9223372036854775807 = smpsOf q A)) ∧ Below wr.heap.size wr w' := by
  refine (Ser.last_any _ _ vs _ wr hU.ss).mono fun e w' hh => ?_
  obtain ⟨e1, hb⟩ := hh
  refine ⟨_, _, e1, ?_, hb⟩
  rcases have_all hU.ss.hr hU.ss.hk with ⟨h0, h1⟩ | ⟨x, hx, h0, h1⟩
  · left
    exact ⟨by rw [h0]; simp [Ser.numV], h1⟩
  · have e2 : Ser.numV (smpsOf q A) (((smpsOf q A).length : Int) - 1) = (x, true) := by
      unfold Ser.numV
      rw [if_pos (by omega)]
      have : (((smpsOf q A).length : Int) - 1).toNat = (smpsOf q A).length - 1 := by omega
      rw [this, List.getD_eq_getElem?_getD, hx]
      rfl
    right
    rw [e2]
    rcases h1 with ⟨h1, h2⟩ | ⟨h1, h2⟩
    · exact Or.inl ⟨rfl, h1, h2⟩
    · exact Or.inr ⟨rfl, h1, h2⟩
/-- what stands when the rows are held against each other. -/
structure TlS (w : World) (q : SerP) (aq : Option Addr) (cq : Nat) (A : List WrP) (vs : Value) (aA : Option Addr) (zA : Nat) (a10 : Option Addr) (z10 : Nat) (wr : World) : Prop where
  bl : Below w.heap.size w wr
  bx : BxS w.heap.size q aq cq wr
  ss : Ser.SS (w.heap.size + 1) (w.heap.size + 1) vs (smpsOf q A) wr
  zA : zA = A.length
  al : WIn wr aA A
  z10 : z10 = (smpsOf q A).length
  hv : Ser.LIn wr a10 (smpsOf q A)
theorem TlS.below {w : World} {q : SerP} {aq : Option Addr} {cq : Nat} {A : List WrP} {vs : Value} {aA : Option Addr} {zA : Nat} {a10 : Option Addr} {z10 : Nat} {wr wx : World} (h : TlS w q aq cq A vs aA zA a10 z10 wr) (hB : Below wr.heap.size wr wx) : TlS w q aq cq A vs aA zA a10 z10 wx :=
  ⟨h.bl.trans (hB.mono h.bl.size), h.bx.below hB h.bx.lt, h.ss.below hB, h.zA, h.al.below hB, h.z10, h.hv.below hB (Nat.le_refl _)⟩
theorem TlS.of {w : World} {q : SerP} {aq : Option Addr} {cq : Nat} {A : List WrP} {vs : Value} {aA : Option Addr} {zA cA : Nat} {a10 : Option Addr} {z10 c10 : Nat} {wr wx : World} (h : UnS w q aq cq A vs (.slice aA zA cA) wr) (hI : InS wr (.slice a10 z10 c10) (smpsOf q A) wx) : TlS w q aq cq A vs aA zA a10 z10 wx := by
  have U := h.below hI.bl
  obtain ⟨a, c, e, hw⟩ := U.sl
  cases e
  obtain ⟨a', cap, e, _, hL⟩ := hI.row.lin U.ss.hk
  cases e
  exact ⟨U.bl, U.bx, U.ss, rfl, hw, rfl, hL⟩
theorem put_step (W : World) (M : Nat) (hM : M = W.heap.size) : Calls Try.prog 4 #[] W fun e w' => e = .returned (.pointer (some ⟨M, 0, none⟩)) ∧ Below W.heap.size W w' ∧ (Calls Try.prog 10 #[.pointer (some ⟨M, 0, none⟩), .int .i64 3, .agg #[.int .u8 0, .int .i64 4]] w' fun e w2 => (∃ r, e = .returned r) ∧ Below W.heap.size W w2 ∧ ∀ W3, w2 = W3 → Calls Try.prog 11 #[.pointer (some ⟨M, 0, none⟩)] W3 fun e w' => e = .returned (.int .i64 1) ∧ w' = W3) := by
  refine (Ser.new_any W).mono fun e w' hh => ?_
  obtain ⟨e1, hs, hb⟩ := hh
  subst hM
  refine ⟨e1, hb, ?_⟩
  refine (Ser.put_any _ _ _ _ w' hs ⟨3, 0, 4⟩ ⟨by simp, by simp, by simp⟩ (by simp)).mono fun e w2 hh => ?_
  obtain ⟨e2, v2, hs2, hf⟩ := hh
  have b2 := hf.below hs
  refine ⟨⟨_, e2⟩, hb.trans b2, fun W3 e3 => ?_⟩
  subst e3
  have e4 : (Ser.putL [] ⟨3, 0, 4⟩).length = 1 := by decide
  have := Ser.len_any _ _ _ _ w2 hs2
  rw [e4] at this
  exact this
end Go.Proofs.Ytlcppkemiogbeaa

namespace Go.Proofs.Ytlcppkemiogbeaa
open Go.RowKit _root_.Go.Proofs.Ytlcppkemiogbeaa.So
set_option linter.unusedVariables false
set_option linter.unusedSimpArgs false
open Ser (Smp Rise)
theorem wat6 {W : World} {b o : Nat} {x : WrP} {ta : Option Addr} {tc nx : Nat} (h : WAt W b o x ta tc) (hn : nx = x.s.t.length) : W.cell? ⟨b, o, none⟩ = some (.string x.s.m) ∧ W.cell? ⟨b, o + 1, none⟩ = some (.slice ta nx tc) ∧ W.cell? ⟨b, o + 2, none⟩ = some (.string x.s.f) ∧ W.cell? ⟨b, o + 3, none⟩ = some (.int .i64 x.tm) ∧ W.cell? ⟨b, o + 4, none⟩ = some (.int .u8 (x.kd : Int)) ∧ W.cell? ⟨b, o + 5, none⟩ = some (.int .i64 x.n) := by
  subst hn
  exact h
theorem bx3 {W : World} {K : Nat} {q : SerP} {aq : Option Addr} {cq nq : Nat} (h : BxS K q aq cq W) (hn : nq = q.t.length) : W.cell? ⟨K, 0, none⟩ = some (.string q.m) ∧ W.cell? ⟨K, 1, none⟩ = some (.slice aq nq cq) ∧ W.cell? ⟨K, 2, none⟩ = some (.string q.f) := by
  subst hn
  exact ⟨h.b0, h.b1, h.b2⟩
set_option maxRecDepth 100000 in
set_option maxHeartbeats 16000000 in
theorem topUnion_walk (a aq : Option Addr) (c cq : Nat) (ll : List (List WrP)) (q : SerP) (w : World) (ha : LwIn w a ll) (hq : SerIn w aq q) (hlen : ll.length ≤ 1099511627776) (hF : ll.flatten.length ≤ 274877906944) (hok : ∀ x ∈ ll.flatten, (smpOf x).ok) (htg : ∀ x ∈ ll.flatten, x.s.t.length ≤ 4398046511104) :
    Calls Try.prog 3 #[.slice a ll.length c, .agg #[.string q.m, .slice aq q.t.length cq, .string q.f]] w fun e w' => e = .returned (.bool true) ∧ Below w.heap.size w w' := by
  obtain ⟨N, hN⟩ : ∃ N, N = w.heap.size + 1 := ⟨_, rfl⟩
  obtain ⟨nq, hnq⟩ : ∃ n, n = q.t.length := ⟨_, rfl⟩
  obtain ⟨n1, hn1⟩ : ∃ n, n = ll.length := ⟨_, rfl⟩
  obtain ⟨w1, hw1⟩ : ∃ w1, w1 = w.alloc (.cells #[.string q.m, .slice aq nq cq, .string q.f] 25) := ⟨_, rfl⟩
  have cN : Hid (Calls Try.prog 4 #[] w1 fun e w' => e = .returned (.pointer (some ⟨N, 0, none⟩)) ∧ UnS w q aq cq [] (.slice none 0 0) (.slice none 0 0) w') := new_step w q aq cq N hN w1 (by rw [hw1, hnq])
  have tk : ∀ i l, ll[i]? = some l → (accD (ll.take i)).length + l.length ≤ 274877906944 := fun i l h => by
    have h1 := accD_len (ll.take i)
    have h2 := flat_take1 h
    omega
  have cL : Hid (∀ i l vs va wr wk a8 z8 c8, ll[i]? = some l → UnS w q aq cq (accD (ll.take i)) vs va wr → InS wr (.slice a8 z8 c8) (smpsOf q l) wk → Calls Try.prog 6 #[.pointer (some ⟨N, 0, none⟩), .slice a8 z8 c8] wk fun e w' => ∃ r vs', e = .returned r ∧ UnL w q aq cq (accD (ll.take i)) (accD (ll.take (i + 1))) vs' va w') := fun i l vs va wr wk a8 z8 c8 hl hU hI => by
    rw [hN, accD_take hl]
    refine load_step hU (accD_sw _) hI (fun s hs => ?_) (by have := tk i l hl; omega)
    obtain ⟨e, he, _, rfl⟩ := mem_smps.1 hs
    exact hok e (flat_mem hl he)
  have cM : Hid (∀ i l vs a6 z6 c6 W a' z' c', ll[i]? = some l → z' = l.length → UnL w q aq cq (accD (ll.take i)) (accD (ll.take (i + 1))) vs (.slice a6 z6 c6) W → WIn W a' l → Calls Try.prog 7 #[.slice a6 z6 c6, .slice a' z' c'] W fun e w' => ∃ a z c, e = .returned (.slice a z c) ∧ UnS w q aq cq (accD (ll.take (i + 1))) vs (.slice a z c) w') := fun i l vs a6 z6 c6 W a' z' c' hl hz hL hW => by
    subst hz
    rw [accD_take hl] at hL ⊢
    exact merge_step hL hW (by have := tk i l hl; omega) (fun x hx => htg x (flat_mem_take (accD_mem hx))) (fun x hx => htg x (flat_mem hl hx))
  have cS : Hid (∀ W (x : WrP) (nx : Nat) ta tc, Below w.heap.size w W → SerIn W ta x.s → nx = x.s.t.length → Calls Try.prog 5 #[.agg #[.string x.s.m, .slice ta nx tc, .string x.s.f], .agg #[.string q.m, .slice aq nq cq, .string q.f]] W fun e w' => e = .returned (.bool (decide (serC x.s q = 0))) ∧ Below W.heap.size W w') := fun W x nx ta tc hW hs hx => by
    subst hx
    rw [hnq]
    exact rsame_any ta aq tc cq x.s q W hs ⟨hq.1.below hW, hq.2⟩
  have cR : Hid (∀ A vs va wr, UnS w q aq cq A vs va wr → Calls Try.prog 8 #[.pointer (some ⟨N, 0, none⟩), .int .i64 (-9223372036854775808), .int .i64 9223372036854775807] wr fun e w' => ∃ a z c, e = .returned (.slice a z c) ∧ z = (Ser.rangeL (smpsOf q A) (-9223372036854775808) 9223372036854775807).length ∧ InS wr (.slice a z c) (Ser.rangeL (smpsOf q A) (-9223372036854775808) 9223372036854775807) w') := fun A vs va wr hU => by rw [hN]; exact range_step hU
  have cE : Hid (∀ A vs va wr, UnS w q aq cq A vs va wr → Calls Try.prog 9 #[.pointer (some ⟨N, 0, none⟩)] wr fun e w' => ∃ (x : Smp) (b : Bool), e = .returned (.tuple #[.agg #[.int .i64 x.t, .int .u8 (x.k : Int), .int .i64 x.x], .bool b]) ∧ ((b = false ∧ Ser.rangeL (smpsOf q A) (-9223372036854775808) 9223372036854775807 = smpsOf q A) ∨ (b = true ∧ x.t = 9223372036854775807 ∧ Ser.rangeL (smpsOf q A) (-9223372036854775808) 9223372036854775807 ++ [x] = smpsOf q A) ∨ (b = true ∧ x.t ≠ 9223372036854775807 ∧ Ser.rangeL (smpsOf q A) (-9223372036854775808) 9223372036854775807 = smpsOf q A)) ∧ Below wr.heap.size wr w') := fun A vs va wr hU => by rw [hN]; exact last_step hU
  have cZ : Hid (∀ A vs wr, Ser.SS (w.heap.size + 1) (w.heap.size + 1) vs (smpsOf q A) wr → ∀ z, z = (smpsOf q A).length → Calls Try.prog 11 #[.pointer (some ⟨N, 0, none⟩)] wr fun e w' => e = .returned (.int .i64 (z : Int)) ∧ w' = wr) := fun A vs wr hs z hz => by rw [hN, hz]; exact Ser.len_any _ _ _ _ wr hs
  have aL : Hid ((accD ll).length ≤ 274877906944) := by have := accD_len ll; exact (show _ ≤ _ by omega)
  have lL : Hid (∀ l, l ∈ ll → l.length ≤ 274877906944) := fun l hl => by
    obtain ⟨i, hi⟩ := List.mem_iff_getElem?.1 hl
    have := tk i l hi
    omega
  have lH : Hid (LwIn w a ll) := ha
  have nqH : Hid (nq = q.t.length) := hnq
  have n1H : Hid (n1 = ll.length) := hn1
  rw [← hnq, ← hn1]
  rw [← hn1] at hlen
  clear ha hq hF hok htg tk hnq hn1 hN
  go_enter Try.func3, Try.ntmps3
  go_wp2_with fail
  rw [← hw1]
  clear hw1
  refine Calls.mono cN.out ?_
  rintro e w2 ⟨rfl, hU0⟩
  have U0 : Hid (UnS w q aq cq (accD (ll.take 0)) (.slice none 0 0) (.slice none 0 0) w2) := hU0
  clear hU0 cN
  go_wp2_with fail
  go_loopw [6, 7] (fun v6 v7 wr => ∃ (i z c : Nat) (a : Option Addr) (vs : Value), v6 = .slice a z c ∧ v7 = .int .i64 (i : Int) ∧ i ≤ n1 ∧ Hid (UnS w q aq cq (accD (ll.take i)) vs (.slice a z c) wr)) (fun _ v _ => n1 - (intOf v).toNat)
  case atStart => exact ⟨0, 0, 0, none, _, rfl, rfl, Nat.zero_le _, U0⟩
  case round =>
    clear U0
    obtain ⟨i, z6, c6, a6, vs, rfl, rfl, il, hU⟩ := hrel
    obtain ⟨wo, hwo⟩ : ∃ wo : World, wo = wr := ⟨_, rfl⟩
    subst hwo
    have i0 : (0 : Int) ≤ (i : Int) := by omega
    have wi : IntKind.i64.wrap ((i : Int) + 1) = ((i + 1 : Nat) : Int) := IntWalk.i64_in _ (by omega)
    by_cases hi : i < n1
    · have iI : (i : Int) < (n1 : Int) := by omega
      obtain ⟨l, hl⟩ : ∃ l, ll[i]? = some l := ⟨_, List.getElem?_eq_getElem (by rw [← n1H.out]; exact hi)⟩
      obtain ⟨b, off, a2, c2, e1, hb, hd, F⟩ := lH.out.at hU.out.bl hl
      subst e1
      obtain ⟨m, hm⟩ : ∃ m, m = l.length := ⟨_, rfl⟩
      rw [← hm] at hd F
      have mH : Hid (m = l.length) := hm
      have hl0 : Hid (ll[i]? = some l) := hl
      have mB : m ≤ 274877906944 := by rw [hm]; exact lL.out l (List.mem_of_getElem? hl)
      have FH : Hid (∀ W, Below w.heap.size w W → W.cell? ⟨b, off + i, none⟩ = some (.slice a2 m c2) ∧ WIn W a2 l) := F
      have cL1 : Hid (∀ wk a8 z8 c8, InS wo (.slice a8 z8 c8) (smpsOf q l) wk → Calls Try.prog 6 #[.pointer (some ⟨N, 0, none⟩), .slice a8 z8 c8] wk fun e w' => ∃ r vs', e = .returned r ∧ UnL w q aq cq (accD (ll.take i)) (accD (ll.take (i + 1))) vs' (.slice a6 z6 c6) w') := fun wk a8 z8 c8 hI => cL.out i l vs _ wo wk a8 z8 c8 hl hU.out hI
      have I0 : Hid (InS wo (.slice none 0 0) (smpsOf q (l.take 0)) wo) := InS.start wo
      clear F hl hm hb
      go_wp2_with fail
      go_loopw [8, 9] (fun v8 v9 wk => ∃ (k z c : Nat) (a : Option Addr), v8 = .slice a z c ∧ v9 = .int .i64 (k : Int) ∧ k ≤ m ∧ Hid (InS wo (.slice a z c) (smpsOf q (l.take k)) wk ∧ z = (smpsOf q (l.take k)).length)) (fun _ v _ => m - (intOf v).toNat)
      case atStart => exact ⟨0, 0, 0, none, rfl, rfl, Nat.zero_le _, I0.out, rfl⟩
      case round =>
        clear I0 hd
        obtain ⟨k, z8, c8, a8, rfl, rfl, kl, hI⟩ := hrel
        obtain ⟨wk, hwk⟩ : ∃ wk : World, wk = wr := ⟨_, rfl⟩
        subst hwk
        have k0 : (0 : Int) ≤ (k : Int) := by omega
        have wkk : IntKind.i64.wrap ((k : Int) + 1) = ((k + 1 : Nat) : Int) := IntWalk.i64_in _ (by omega)
        have Bk : Hid (Below w.heap.size w wk) := hU.out.bl.trans (hI.out.1.bl.mono hU.out.bl.size)
        have hd := (FH.out _ Bk.out).1
        by_cases hk : k < m
        · have kI : (k : Int) < (m : Int) := by omega
          obtain ⟨x, hx⟩ : ∃ x, l[k]? = some x := ⟨_, List.getElem?_eq_getElem (by rw [← mH.out]; exact hk)⟩
          obtain ⟨b2, off2, ta, tc, e2, hb2, _, fx⟩ := (FH.out w (Below.refl _ _)).2.at Bk.out hx
          subst e2
          obtain ⟨nx, hnx⟩ : ∃ n, n = x.s.t.length := ⟨_, rfl⟩
          have bxk := hU.out.bx.below hI.out.1.bl hU.out.bx.lt
          have mkS : Hid (∀ W, Below wk.heap.size wk W → Below w.heap.size w W ∧ Below wk.heap.size wk W ∧ W.cell? ⟨b, off + i, none⟩ = some (.slice (some ⟨b2, off2, none⟩) m c2) ∧ W.cell? ⟨b2, off2 + k * 6, none⟩ = some (.string x.s.m) ∧ W.cell? ⟨b2, off2 + k * 6 + 1, none⟩ = some (.slice ta nx tc) ∧ W.cell? ⟨b2, off2 + k * 6 + 2, none⟩ = some (.string x.s.f) ∧ W.cell? ⟨b2, off2 + k * 6 + 3, none⟩ = some (.int .i64 x.tm) ∧ W.cell? ⟨b2, off2 + k * 6 + 4, none⟩ = some (.int .u8 (x.kd : Int)) ∧ W.cell? ⟨b2, off2 + k * 6 + 5, none⟩ = some (.int .i64 x.n) ∧ W.cell? ⟨w.heap.size, 0, none⟩ = some (.string q.m) ∧ W.cell? ⟨w.heap.size, 1, none⟩ = some (.slice aq nq cq) ∧ W.cell? ⟨w.heap.size, 2, none⟩ = some (.string q.f)) := fun W hW => by
            have hW2 := Bk.out.trans (hW.mono Bk.out.size)
            have h6 := wat6 (fx W hW2).1 hnx
            have h3 := bx3 (bxk.below hW bxk.lt) nqH.out
            exact ⟨hW2, hW, (FH.out W hW2).1, h6.1, h6.2.1, h6.2.2.1, h6.2.2.2.1, h6.2.2.2.2.1, h6.2.2.2.2.2, h3.1, h3.2.1, h3.2.2⟩
          have C1 : Hid (∀ W, (Below w.heap.size w W ∧ Below wk.heap.size wk W ∧ W.cell? ⟨b, off + i, none⟩ = some (.slice (some ⟨b2, off2, none⟩) m c2) ∧ W.cell? ⟨b2, off2 + k * 6, none⟩ = some (.string x.s.m) ∧ W.cell? ⟨b2, off2 + k * 6 + 1, none⟩ = some (.slice ta nx tc) ∧ W.cell? ⟨b2, off2 + k * 6 + 2, none⟩ = some (.string x.s.f) ∧ W.cell? ⟨b2, off2 + k * 6 + 3, none⟩ = some (.int .i64 x.tm) ∧ W.cell? ⟨b2, off2 + k * 6 + 4, none⟩ = some (.int .u8 (x.kd : Int)) ∧ W.cell? ⟨b2, off2 + k * 6 + 5, none⟩ = some (.int .i64 x.n) ∧ W.cell? ⟨w.heap.size, 0, none⟩ = some (.string q.m) ∧ W.cell? ⟨w.heap.size, 1, none⟩ = some (.slice aq nq cq) ∧ W.cell? ⟨w.heap.size, 2, none⟩ = some (.string q.f)) → Calls Try.prog 5 #[.agg #[.string x.s.m, .slice ta nx tc, .string x.s.f], .agg #[.string q.m, .slice aq nq cq, .string q.f]] W fun e w' => e = .returned (.bool (decide (serC x.s q = 0))) ∧ Below W.heap.size W w') := fun W h => cS.out W x nx ta tc h.1 (fx W h.1).2 hnx
          have hK : Hid (∀ W W' : World, Below W.heap.size W W' → (Below w.heap.size w W ∧ Below wk.heap.size wk W ∧ W.cell? ⟨b, off + i, none⟩ = some (.slice (some ⟨b2, off2, none⟩) m c2) ∧ W.cell? ⟨b2, off2 + k * 6, none⟩ = some (.string x.s.m) ∧ W.cell? ⟨b2, off2 + k * 6 + 1, none⟩ = some (.slice ta nx tc) ∧ W.cell? ⟨b2, off2 + k * 6 + 2, none⟩ = some (.string x.s.f) ∧ W.cell? ⟨b2, off2 + k * 6 + 3, none⟩ = some (.int .i64 x.tm) ∧ W.cell? ⟨b2, off2 + k * 6 + 4, none⟩ = some (.int .u8 (x.kd : Int)) ∧ W.cell? ⟨b2, off2 + k * 6 + 5, none⟩ = some (.int .i64 x.n) ∧ W.cell? ⟨w.heap.size, 0, none⟩ = some (.string q.m) ∧ W.cell? ⟨w.heap.size, 1, none⟩ = some (.slice aq nq cq) ∧ W.cell? ⟨w.heap.size, 2, none⟩ = some (.string q.f)) → Below w.heap.size w W' ∧ Below wk.heap.size wk W' ∧ W'.cell? ⟨b, off + i, none⟩ = some (.slice (some ⟨b2, off2, none⟩) m c2) ∧ W'.cell? ⟨b2, off2 + k * 6, none⟩ = some (.string x.s.m) ∧ W'.cell? ⟨b2, off2 + k * 6 + 1, none⟩ = some (.slice ta nx tc) ∧ W'.cell? ⟨b2, off2 + k * 6 + 2, none⟩ = some (.string x.s.f) ∧ W'.cell? ⟨b2, off2 + k * 6 + 3, none⟩ = some (.int .i64 x.tm) ∧ W'.cell? ⟨b2, off2 + k * 6 + 4, none⟩ = some (.int .u8 (x.kd : Int)) ∧ W'.cell? ⟨b2, off2 + k * 6 + 5, none⟩ = some (.int .i64 x.n) ∧ W'.cell? ⟨w.heap.size, 0, none⟩ = some (.string q.m) ∧ W'.cell? ⟨w.heap.size, 1, none⟩ = some (.slice aq nq cq) ∧ W'.cell? ⟨w.heap.size, 2, none⟩ = some (.string q.f)) := fun W W' hB h => mkS.out W' (h.2.1.trans (hB.mono h.2.1.size))
          have rA : Hid (serC x.s q = 0 → ∀ W', Below wk.heap.size wk W' → ∃ a c wx, (∀ W N', W = W'.alloc (.cells #[.int .i64 x.tm, .int .u8 (x.kd : Int), .int .i64 x.n] 35) → N' = W'.heap.size → (Builtin.append_ #[29, 29] 29 #[.slice a8 z8 c8, .slice (some ⟨N', 0, none⟩) 1 1]).run Try.prog W = .ok (.slice a (z8 + 1) c) wx) ∧ InS wo (.slice a (z8 + 1) c) (smpsOf q (l.take (k + 1))) wx ∧ z8 + 1 = (smpsOf q (l.take (k + 1))).length) := fun h0 W' hW' => by
            have h1 := smps_len q (l.take k)
            have h2 : (l.take k).length ≤ k := by rw [List.length_take]; omega
            obtain ⟨a, c, wx, r1, r2⟩ := (hI.out.1.below hW').app (smpOf x) (by omega)
            rw [← hI.out.2] at r1 r2
            rw [smps_take hx, if_pos h0]
            exact ⟨a, c, wx, fun W N' e e' => by subst e; subst e'; exact r1, r2, by rw [List.length_append, hI.out.2]; rfl⟩
          have rB : Hid (serC x.s q ≠ 0 → ∀ W', Below wk.heap.size wk W' → InS wo (.slice a8 z8 c8) (smpsOf q (l.take (k + 1))) W' ∧ z8 = (smpsOf q (l.take (k + 1))).length) := fun h0 W' hW' => by
            rw [smps_take hx, if_neg h0, List.append_nil]
            exact ⟨hI.out.1.below hW', hI.out.2⟩
          have hSS := mkS.out wk.drew (Below.refl _ wk).drew
          clear fx hx hnx bxk hb2 hI mkS hU
          go_wp2_with fail
          clear hd
          by_cases h0 : serC x.s q = 0
          · rw [decide_eq_true h0] at C1
            go_region_held3 (fun W => Below w.heap.size w W ∧ Below wk.heap.size wk W ∧ W.cell? ⟨b, off + i, none⟩ = some (.slice (some ⟨b2, off2, none⟩) m c2) ∧ W.cell? ⟨b2, off2 + k * 6, none⟩ = some (.string x.s.m) ∧ W.cell? ⟨b2, off2 + k * 6 + 1, none⟩ = some (.slice ta nx tc) ∧ W.cell? ⟨b2, off2 + k * 6 + 2, none⟩ = some (.string x.s.f) ∧ W.cell? ⟨b2, off2 + k * 6 + 3, none⟩ = some (.int .i64 x.tm) ∧ W.cell? ⟨b2, off2 + k * 6 + 4, none⟩ = some (.int .u8 (x.kd : Int)) ∧ W.cell? ⟨b2, off2 + k * 6 + 5, none⟩ = some (.int .i64 x.n) ∧ W.cell? ⟨w.heap.size, 0, none⟩ = some (.string q.m) ∧ W.cell? ⟨w.heap.size, 1, none⟩ = some (.slice aq nq cq) ∧ W.cell? ⟨w.heap.size, 2, none⟩ = some (.string q.f)) (first | assumption)
              (first
                | (go_at_call 5; (with_reducible refine Calls.mono (C1.out _ (by assumption)) ?_); rintro e w' ⟨rfl, BB⟩; have SS := hK.out _ _ BB (by assumption)))
            all_goals
              obtain ⟨B1, B2, hd, x1, x2, x3, x4, x5, x6, y1, y2, y3⟩ := (by assumption : Below w.heap.size w _ ∧ Below wk.heap.size wk _ ∧ _)
              obtain ⟨a9, c9, w9, r9, I9⟩ := rA.out h0 _ B2
              have r9H : Hid _ := r9
              have I9H : Hid _ := I9
              clear r9 I9 B1 B2 hSS rA rB C1 hK
              go_wp2_with (at_builtin; refine wpList_append_runB (by rfl) _ _ _ (by rfl) _ _ _ _ (by rfl) (by rfl) (r9H.out _ _ (by first | rfl | simp) (by first | rfl | simp)) ?_)
              exact ⟨⟨k + 1, z8 + 1, c9, a9, rfl, by first | rfl | simp, by omega, I9H⟩, by simp [intOf]; omega⟩
          · rw [decide_eq_false h0] at C1
            go_region_held3 (fun W => Below w.heap.size w W ∧ Below wk.heap.size wk W ∧ W.cell? ⟨b, off + i, none⟩ = some (.slice (some ⟨b2, off2, none⟩) m c2) ∧ W.cell? ⟨b2, off2 + k * 6, none⟩ = some (.string x.s.m) ∧ W.cell? ⟨b2, off2 + k * 6 + 1, none⟩ = some (.slice ta nx tc) ∧ W.cell? ⟨b2, off2 + k * 6 + 2, none⟩ = some (.string x.s.f) ∧ W.cell? ⟨b2, off2 + k * 6 + 3, none⟩ = some (.int .i64 x.tm) ∧ W.cell? ⟨b2, off2 + k * 6 + 4, none⟩ = some (.int .u8 (x.kd : Int)) ∧ W.cell? ⟨b2, off2 + k * 6 + 5, none⟩ = some (.int .i64 x.n) ∧ W.cell? ⟨w.heap.size, 0, none⟩ = some (.string q.m) ∧ W.cell? ⟨w.heap.size, 1, none⟩ = some (.slice aq nq cq) ∧ W.cell? ⟨w.heap.size, 2, none⟩ = some (.string q.f)) (first | assumption)
              (first
                | (go_at_call 5; (with_reducible refine Calls.mono (C1.out _ (by assumption)) ?_); rintro e w' ⟨rfl, BB⟩; have SS := hK.out _ _ BB (by assumption)))
            all_goals
              obtain ⟨B1, B2, _⟩ := (by assumption : Below w.heap.size w _ ∧ Below wk.heap.size wk _ ∧ _)
              have I9H : Hid _ := rB.out h0 _ B2
              clear B1 B2 hSS rA rB C1 hK
              go_wp2_with fail
              exact ⟨⟨k + 1, z8, c8, a8, rfl, by first | rfl | simp, by omega, I9H⟩, by simp [intOf]; omega⟩
        · have kI : ¬ (k : Int) < (m : Int) := by omega
          have e : l.take k = l := by rw [List.take_of_length_le]; have := mH.out; omega
          have cX : Hid _ := cL1.out _ a8 z8 c8 (by have := hI.out.1; rw [e] at this; exact this)
          clear e hI
          go_wp2_with fail
          refine Calls.mono cX.out ?_
          rintro e w5 ⟨r, vs', rfl, hL⟩
          have cY : Hid _ := cM.out i l vs' a6 z6 c6 w5 a2 m c2 hl0.out mH.out hL (FH.out _ hL.bl).2
          have hd5 := (FH.out _ hL.bl).1
          clear hL cX hd
          go_wp2_with fail
          refine Calls.mono cY.out ?_
          rintro e w6 ⟨a7, z7, c7, rfl, hU7⟩
          have U7 : Hid _ := hU7
          clear hU7 cY hd5
          go_wp2_with fail
          exact ⟨⟨i + 1, z7, c7, a7, vs', rfl, by first | rfl | simp, by omega, U7⟩, by simp [intOf]; omega⟩
    · have iI : ¬ (i : Int) < (n1 : Int) := by omega
      have e : ll.take i = ll := by rw [List.take_of_length_le]; have := n1H.out; omega
      have UH : Hid (UnS w q aq cq (accD ll) vs (.slice a6 z6 c6) wo) := by have := hU.out; rw [e] at this; exact this
      have z6B : z6 ≤ 274877906944 := by
        obtain ⟨_, _, e, _⟩ := UH.out.sl
        injection e with _ e _
        have := aL.out
        omega
      have cX : Hid _ := cR.out (accD ll) vs _ wo UH.out
      clear e hU
      go_wp2_with fail
      refine Calls.mono cX.out ?_
      rintro e w3 ⟨a10, z10, c10, rfl, z10e, I3⟩
      have I3H : Hid _ := I3
      have z10H : Hid _ := z10e
      have cY : Hid _ := cE.out (accD ll) vs _ w3 (UH.out.below I3.bl)
      clear I3 z10e cX
      go_wp2_with fail
      refine Calls.mono cY.out ?_
      rintro e w4 ⟨x, bb, rfl, hx, b4⟩
      have I4 : Hid _ := I3H.out.below b4
      clear b4 cY I3H
      rcases hx with ⟨rfl, hR⟩ | ⟨rfl, hxt, hR⟩ | ⟨rfl, hxt, hR⟩
      · obtain ⟨wt, hwt⟩ : ∃ wt, wt = w4.alloc (.cells #[.int .i64 x.t, .int .u8 (x.k : Int), .int .i64 x.x] 35) := ⟨_, rfl⟩
        have TH : Hid (TlS w q aq cq (accD ll) vs a6 z6 a10 z10 wt) := TlS.of UH.out (by have := I4.out.below (show Below w4.heap.size w4 wt by rw [hwt]; exact (Below.refl _ w4).alloc (Nat.le_refl _) _); rw [hR] at this; exact this)
        clear I4 UH hR z10H
        go_wp2_with fail
        rw [← hwt]
        clear hwt
        have T0 : Hid (Below wt.heap.size wt wt ∧ (0 : Nat) = (smpsOf q ((accD ll).take 0)).length) := ⟨Below.refl _ _, rfl⟩
        go_wp2_with fail
        go_loopw [13, 14] (fun v13 v14 wk => ∃ (k n : Nat), v13 = .int .i64 (n : Int) ∧ v14 = .int .i64 (k : Int) ∧ k ≤ z6 ∧ Hid (Below wt.heap.size wt wk ∧ n = (smpsOf q ((accD ll).take k)).length)) (fun _ v _ => z6 - (intOf v).toNat)
        case atStart => exact ⟨0, 0, rfl, rfl, Nat.zero_le _, T0⟩
        case round =>
          clear T0
          obtain ⟨k, n, rfl, rfl, kl, hI⟩ := hrel
          obtain ⟨wk, hwk⟩ : ∃ wk : World, wk = wr := ⟨_, rfl⟩
          subst hwk
          have k0 : (0 : Int) ≤ (k : Int) := by omega
          have n0 : (0 : Int) ≤ (n : Int) := by omega
          have wkk : IntKind.i64.wrap ((k : Int) + 1) = ((k + 1 : Nat) : Int) := IntWalk.i64_in _ (by omega)
          have nk : n ≤ z6 := by
            have h1 := smps_len q ((accD ll).take k)
            have h2 : ((accD ll).take k).length ≤ k := by rw [List.length_take]; omega
            have := hI.out.2
            omega
          have wn : IntKind.i64.wrap ((n : Int) + 1) = ((n + 1 : Nat) : Int) := IntWalk.i64_in _ (by omega)
          have TK : Hid (TlS w q aq cq (accD ll) vs a6 z6 a10 z10 wk) := TH.out.below hI.out.1
          by_cases hk : k < z6
          · have kI : (k : Int) < (z6 : Int) := by omega
            obtain ⟨x, hx⟩ : ∃ x, (accD ll)[k]? = some x := ⟨_, List.getElem?_eq_getElem (by rw [← TK.out.zA]; exact hk)⟩
            obtain ⟨b2, off2, ta, tc, e2, hb2, _, fx⟩ := TK.out.al.at (Below.refl _ _) hx
            subst e2
            obtain ⟨nx, hnx⟩ : ∃ n, n = x.s.t.length := ⟨_, rfl⟩
            have mkS : Hid (∀ W, Below wk.heap.size wk W → Below w.heap.size w W ∧ Below wk.heap.size wk W ∧ W.cell? ⟨b2, off2 + k * 6, none⟩ = some (.string x.s.m) ∧ W.cell? ⟨b2, off2 + k * 6 + 1, none⟩ = some (.slice ta nx tc) ∧ W.cell? ⟨b2, off2 + k * 6 + 2, none⟩ = some (.string x.s.f) ∧ W.cell? ⟨b2, off2 + k * 6 + 3, none⟩ = some (.int .i64 x.tm) ∧ W.cell? ⟨b2, off2 + k * 6 + 4, none⟩ = some (.int .u8 (x.kd : Int)) ∧ W.cell? ⟨b2, off2 + k * 6 + 5, none⟩ = some (.int .i64 x.n) ∧ W.cell? ⟨w.heap.size, 0, none⟩ = some (.string q.m) ∧ W.cell? ⟨w.heap.size, 1, none⟩ = some (.slice aq nq cq) ∧ W.cell? ⟨w.heap.size, 2, none⟩ = some (.string q.f)) := fun W hW => by
              have T := TK.out.below hW
              have h6 := wat6 (fx W hW).1 hnx
              have h3 := bx3 T.bx nqH.out
              exact ⟨T.bl, hW, h6.1, h6.2.1, h6.2.2.1, h6.2.2.2.1, h6.2.2.2.2.1, h6.2.2.2.2.2, h3.1, h3.2.1, h3.2.2⟩
            have C1 : Hid (∀ W, (Below w.heap.size w W ∧ Below wk.heap.size wk W ∧ W.cell? ⟨b2, off2 + k * 6, none⟩ = some (.string x.s.m) ∧ W.cell? ⟨b2, off2 + k * 6 + 1, none⟩ = some (.slice ta nx tc) ∧ W.cell? ⟨b2, off2 + k * 6 + 2, none⟩ = some (.string x.s.f) ∧ W.cell? ⟨b2, off2 + k * 6 + 3, none⟩ = some (.int .i64 x.tm) ∧ W.cell? ⟨b2, off2 + k * 6 + 4, none⟩ = some (.int .u8 (x.kd : Int)) ∧ W.cell? ⟨b2, off2 + k * 6 + 5, none⟩ = some (.int .i64 x.n) ∧ W.cell? ⟨w.heap.size, 0, none⟩ = some (.string q.m) ∧ W.cell? ⟨w.heap.size, 1, none⟩ = some (.slice aq nq cq) ∧ W.cell? ⟨w.heap.size, 2, none⟩ = some (.string q.f)) → Calls Try.prog 5 #[.agg #[.string x.s.m, .slice ta nx tc, .string x.s.f], .agg #[.string q.m, .slice aq nq cq, .string q.f]] W fun e w' => e = .returned (.bool (decide (serC x.s q = 0))) ∧ Below W.heap.size W w') := fun W h => cS.out W x nx ta tc h.1 (fx W h.2.1).2 hnx
            have hK : Hid (∀ W W' : World, Below W.heap.size W W' → (Below w.heap.size w W ∧ Below wk.heap.size wk W ∧ W.cell? ⟨b2, off2 + k * 6, none⟩ = some (.string x.s.m) ∧ W.cell? ⟨b2, off2 + k * 6 + 1, none⟩ = some (.slice ta nx tc) ∧ W.cell? ⟨b2, off2 + k * 6 + 2, none⟩ = some (.string x.s.f) ∧ W.cell? ⟨b2, off2 + k * 6 + 3, none⟩ = some (.int .i64 x.tm) ∧ W.cell? ⟨b2, off2 + k * 6 + 4, none⟩ = some (.int .u8 (x.kd : Int)) ∧ W.cell? ⟨b2, off2 + k * 6 + 5, none⟩ = some (.int .i64 x.n) ∧ W.cell? ⟨w.heap.size, 0, none⟩ = some (.string q.m) ∧ W.cell? ⟨w.heap.size, 1, none⟩ = some (.slice aq nq cq) ∧ W.cell? ⟨w.heap.size, 2, none⟩ = some (.string q.f)) → Below w.heap.size w W' ∧ Below wk.heap.size wk W' ∧ W'.cell? ⟨b2, off2 + k * 6, none⟩ = some (.string x.s.m) ∧ W'.cell? ⟨b2, off2 + k * 6 + 1, none⟩ = some (.slice ta nx tc) ∧ W'.cell? ⟨b2, off2 + k * 6 + 2, none⟩ = some (.string x.s.f) ∧ W'.cell? ⟨b2, off2 + k * 6 + 3, none⟩ = some (.int .i64 x.tm) ∧ W'.cell? ⟨b2, off2 + k * 6 + 4, none⟩ = some (.int .u8 (x.kd : Int)) ∧ W'.cell? ⟨b2, off2 + k * 6 + 5, none⟩ = some (.int .i64 x.n) ∧ W'.cell? ⟨w.heap.size, 0, none⟩ = some (.string q.m) ∧ W'.cell? ⟨w.heap.size, 1, none⟩ = some (.slice aq nq cq) ∧ W'.cell? ⟨w.heap.size, 2, none⟩ = some (.string q.f)) := fun W W' hB h => mkS.out W' (h.2.1.trans (hB.mono h.2.1.size))
            have bT : Hid (∀ W, Below wk.heap.size wk W → Below wt.heap.size wt W) := fun W hW => hI.out.1.trans (hW.mono hI.out.1.size)
            have eF : Hid (serC x.s q ≠ 0 → n = (smpsOf q ((accD ll).take (k + 1))).length) := fun h0 => by rw [smps_take hx, if_neg h0, List.append_nil]; exact hI.out.2
            have eT : Hid (serC x.s q = 0 → n + 1 = (smpsOf q ((accD ll).take (k + 1))).length) := fun h0 => by rw [smps_take hx, if_pos h0, List.length_append, ← hI.out.2]; rfl
            have aT : Hid (serC x.s q = 0 → n < z10 ∧ ∃ b3 off3, a10 = some ⟨b3, off3, none⟩ ∧ ∀ W, Below wk.heap.size wk W → W.cell? ⟨b3, off3 + n * 3, none⟩ = some (.int .i64 x.tm) ∧ W.cell? ⟨b3, off3 + n * 3 + 1, none⟩ = some (.int .u8 (x.kd : Int)) ∧ W.cell? ⟨b3, off3 + n * 3 + 2, none⟩ = some (.int .i64 x.n)) := fun h0 => by
              have h1 := smps_at hx h0
              rw [← hI.out.2] at h1
              have h2 := (List.getElem?_eq_some_iff.1 h1).1
              refine ⟨by rw [TK.out.z10]; exact h2, ?_⟩
              rcases TK.out.hv.2 with e | ⟨b3, off3, e, hb3, hc⟩
              · rw [e] at h2; simp at h2
              · refine ⟨b3, off3, e, fun W hW => ?_⟩
                obtain ⟨h3, h4, h5⟩ := hc n _ h1
                exact ⟨by rw [hW.cell (p := ⟨b3, off3 + n * 3, none⟩) hb3]; exact h3, by rw [hW.cell (p := ⟨b3, off3 + n * 3 + 1, none⟩) hb3]; exact h4, by rw [hW.cell (p := ⟨b3, off3 + n * 3 + 2, none⟩) hb3]; exact h5⟩
            have hSS := mkS.out wk.drew (Below.refl _ wk).drew
            clear fx hx hnx hb2 hI mkS TK
            go_wp2_with fail
            by_cases h0 : serC x.s q = 0
            · rw [decide_eq_true h0] at C1
              obtain ⟨nz, b3, off3, e3, c3⟩ := aT.out h0
              subst e3
              have nzI : ¬ (z10 : Int) ≤ (n : Int) := by omega
              have nzJ : (n : Int) < (z10 : Int) := by omega
              have c3H : Hid _ := c3
              have eTH : Hid _ := eT.out h0
              clear c3 aT eF eT
              go_region_held3 (fun W => Below w.heap.size w W ∧ Below wk.heap.size wk W ∧ W.cell? ⟨b2, off2 + k * 6, none⟩ = some (.string x.s.m) ∧ W.cell? ⟨b2, off2 + k * 6 + 1, none⟩ = some (.slice ta nx tc) ∧ W.cell? ⟨b2, off2 + k * 6 + 2, none⟩ = some (.string x.s.f) ∧ W.cell? ⟨b2, off2 + k * 6 + 3, none⟩ = some (.int .i64 x.tm) ∧ W.cell? ⟨b2, off2 + k * 6 + 4, none⟩ = some (.int .u8 (x.kd : Int)) ∧ W.cell? ⟨b2, off2 + k * 6 + 5, none⟩ = some (.int .i64 x.n) ∧ W.cell? ⟨w.heap.size, 0, none⟩ = some (.string q.m) ∧ W.cell? ⟨w.heap.size, 1, none⟩ = some (.slice aq nq cq) ∧ W.cell? ⟨w.heap.size, 2, none⟩ = some (.string q.f)) (first | assumption)
                (first
                  | (go_at_call 5; (with_reducible refine Calls.mono (C1.out _ (by assumption)) ?_); rintro e w' ⟨rfl, BB⟩; have SS := hK.out _ _ BB (by assumption)))
              all_goals
                obtain ⟨B1, B2, x1, x2, x3, x4, x5, x6, y1, y2, y3⟩ := (by assumption : Below w.heap.size w _ ∧ Below wk.heap.size wk _ ∧ _)
                obtain ⟨d1, d2, d3⟩ := c3H.out _ B2
                have BT := bT.out _ B2
                have BN : Hid (∀ nq, Below wt.heap.size wt (World.drewN _ nq)) := fun nq => Ser.below_drewN BT nq
                clear B1 B2 hSS C1 hK BT c3H h0
                generalize x.tm = xt at *
                generalize x.kd = xk at *
                generalize x.n = xn at *
                go_wp2_with fail
                go_quiet (fail)
                go_wp2_with fail
                exact ⟨⟨k + 1, n + 1, by first | rfl | simp, by first | rfl | simp, by omega, BN.out _, eTH.out⟩, by simp [intOf]; omega⟩
            · rw [decide_eq_false h0] at C1
              have eFH : Hid _ := eF.out h0
              clear aT eF eT
              go_region_held3 (fun W => Below w.heap.size w W ∧ Below wk.heap.size wk W ∧ W.cell? ⟨b2, off2 + k * 6, none⟩ = some (.string x.s.m) ∧ W.cell? ⟨b2, off2 + k * 6 + 1, none⟩ = some (.slice ta nx tc) ∧ W.cell? ⟨b2, off2 + k * 6 + 2, none⟩ = some (.string x.s.f) ∧ W.cell? ⟨b2, off2 + k * 6 + 3, none⟩ = some (.int .i64 x.tm) ∧ W.cell? ⟨b2, off2 + k * 6 + 4, none⟩ = some (.int .u8 (x.kd : Int)) ∧ W.cell? ⟨b2, off2 + k * 6 + 5, none⟩ = some (.int .i64 x.n) ∧ W.cell? ⟨w.heap.size, 0, none⟩ = some (.string q.m) ∧ W.cell? ⟨w.heap.size, 1, none⟩ = some (.slice aq nq cq) ∧ W.cell? ⟨w.heap.size, 2, none⟩ = some (.string q.f)) (first | assumption)
                (first
                  | (go_at_call 5; (with_reducible refine Calls.mono (C1.out _ (by assumption)) ?_); rintro e w' ⟨rfl, BB⟩; have SS := hK.out _ _ BB (by assumption)))
              all_goals
                obtain ⟨B1, B2, _⟩ := (by assumption : Below w.heap.size w _ ∧ Below wk.heap.size wk _ ∧ _)
                have BT : Hid _ := bT.out _ B2
                clear B1 B2 hSS C1 hK
                go_wp2_with fail
                exact ⟨⟨k + 1, n, by first | rfl | simp, by first | rfl | simp, by omega, BT.out, eFH.out⟩, by simp [intOf]; omega⟩
          · have kI : ¬ (k : Int) < (z6 : Int) := by omega
            have nE : n = z10 := by
              rw [hI.out.2, TK.out.z10, List.take_of_length_le]
              have := TK.out.zA
              omega
            subst nE
            obtain ⟨M, hM⟩ : ∃ M, M = wk.heap.size := ⟨_, rfl⟩
            have cP : Hid _ := put_step wk M hM
            have TS : Hid (∀ W, Below wk.heap.size wk W → Below w.heap.size w W ∧ Calls Try.prog 11 #[.pointer (some ⟨N, 0, none⟩)] W fun e w' => e = .returned (.int .i64 (n : Int)) ∧ w' = W) := fun W hW => by
              have T := TK.out.below hW
              exact ⟨T.bl, cZ.out _ _ W T.ss n T.z10⟩
            clear hI TK hM
            go_wp2_with fail
            refine Calls.mono cP.out ?_
            rintro e w7 ⟨rfl, b7, hP⟩
            have hPH : Hid _ := hP
            clear hP b7 cP
            go_wp2_with fail
            refine Calls.mono hPH.out ?_
            rintro e w8 ⟨⟨r8, rfl⟩, b8, hZ⟩
            have hZH : Hid _ := hZ
            obtain ⟨bF, hY⟩ := TS.out w8 b8
            have bFH : Hid _ := bF
            have hYH : Hid _ := hY
            have nn : ((n : Int) == (n : Int)) = true := by simp
            clear hZ b8 hPH bF hY TS
            go_wp2_with fail
            refine Calls.mono hYH.out ?_
            rintro e w9 ⟨rfl, rfl⟩
            go_wp2_with fail
            refine Calls.mono (hZH.out _ rfl) ?_
            rintro e w10 ⟨rfl, rfl⟩
            go_wp2_with fail
            go_ret
            exact ⟨by first | rfl | simp, bFH.out⟩
      · obtain ⟨wt0, hwt⟩ : ∃ wt, wt = w4.alloc (.cells #[.int .i64 x.t, .int .u8 (x.k : Int), .int .i64 x.x] 35) := ⟨_, rfl⟩
        have I5 := I4.out.below (show Below w4.heap.size w4 wt0 by rw [hwt]; exact (Below.refl _ w4).alloc (Nat.le_refl _) _)
        obtain ⟨a11, c11, wt, r1, I6⟩ := I5.app x (by
          have h1 := congrArg List.length hR
          rw [List.length_append, List.length_singleton] at h1
          have h2 := smps_len q (accD ll)
          have := aL.out
          omega)
        rw [hR] at I6
        rw [← z10H.out] at r1 I6
        have TH : Hid (TlS w q aq cq (accD ll) vs a6 z6 a11 (z10 + 1) wt) := TlS.of UH.out I6
        have r1H : Hid (∀ W N', W = wt0.alloc (.cells #[.int .i64 x.t, .int .u8 (x.k : Int), .int .i64 x.x] 35) → N' = wt0.heap.size → (Builtin.append_ #[29, 29] 29 #[.slice a10 z10 c10, .slice (some ⟨N', 0, none⟩) 1 1]).run Try.prog W = .ok (.slice a11 (z10 + 1) c11) wt) := fun W N' e e' => by subst e; subst e'; exact r1
        have hxb : (x.t == 9223372036854775807) = true := by simpa using hxt
        have hxtH : Hid (x.t = 9223372036854775807) := hxt
        have hwtH : Hid _ := hwt
        clear I4 I5 I6 UH hR z10H r1 hwt
        go_wp2_with (at_builtin; refine wpList_append_runB (by rfl) _ _ _ (by rfl) _ _ _ _ (by rfl) (by rfl) (r1H.out _ _ (by first | (rw [hwtH.out]; done) | (rw [hwtH.out, hxtH.out]; done)) (by first | (rw [hwtH.out]; done) | (rw [hwtH.out, hxtH.out]; done) | (rw [hwtH.out]; simp))) ?_)
        clear r1H hwtH hxtH hxb hxt
        generalize z10 + 1 = z10' at *
        have T0 : Hid (Below wt.heap.size wt wt ∧ (0 : Nat) = (smpsOf q ((accD ll).take 0)).length) := ⟨Below.refl _ _, rfl⟩
        go_wp2_with fail
        go_loopw [13, 14] (fun v13 v14 wk => ∃ (k n : Nat), v13 = .int .i64 (n : Int) ∧ v14 = .int .i64 (k : Int) ∧ k ≤ z6 ∧ Hid (Below wt.heap.size wt wk ∧ n = (smpsOf q ((accD ll).take k)).length)) (fun _ v _ => z6 - (intOf v).toNat)
        case atStart => exact ⟨0, 0, rfl, rfl, Nat.zero_le _, T0⟩
        case round =>
          clear T0
          obtain ⟨k, n, rfl, rfl, kl, hI⟩ := hrel
          obtain ⟨wk, hwk⟩ : ∃ wk : World, wk = wr := ⟨_, rfl⟩
          subst hwk
          have k0 : (0 : Int) ≤ (k : Int) := by omega
          have n0 : (0 : Int) ≤ (n : Int) := by omega
          have wkk : IntKind.i64.wrap ((k : Int) + 1) = ((k + 1 : Nat) : Int) := IntWalk.i64_in _ (by omega)
          have nk : n ≤ z6 := by
            have h1 := smps_len q ((accD ll).take k)
            have h2 : ((accD ll).take k).length ≤ k := by rw [List.length_take]; omega
            have := hI.out.2
            omega
          have wn : IntKind.i64.wrap ((n : Int) + 1) = ((n + 1 : Nat) : Int) := IntWalk.i64_in _ (by omega)
          have TK : Hid (TlS w q aq cq (accD ll) vs a6 z6 a11 z10' wk) := TH.out.below hI.out.1
          by_cases hk : k < z6
          · have kI : (k : Int) < (z6 : Int) := by omega
            obtain ⟨x, hx⟩ : ∃ x, (accD ll)[k]? = some x := ⟨_, List.getElem?_eq_getElem (by rw [← TK.out.zA]; exact hk)⟩
            obtain ⟨b2, off2, ta, tc, e2, hb2, _, fx⟩ := TK.out.al.at (Below.refl _ _) hx
            subst e2
            obtain ⟨nx, hnx⟩ : ∃ n, n = x.s.t.length := ⟨_, rfl⟩
            have mkS : Hid (∀ W, Below wk.heap.size wk W → Below w.heap.size w W ∧ Below wk.heap.size wk W ∧ W.cell? ⟨b2, off2 + k * 6, none⟩ = some (.string x.s.m) ∧ W.cell? ⟨b2, off2 + k * 6 + 1, none⟩ = some (.slice ta nx tc) ∧ W.cell? ⟨b2, off2 + k * 6 + 2, none⟩ = some (.string x.s.f) ∧ W.cell? ⟨b2, off2 + k * 6 + 3, none⟩ = some (.int .i64 x.tm) ∧ W.cell? ⟨b2, off2 + k * 6 + 4, none⟩ = some (.int .u8 (x.kd : Int)) ∧ W.cell? ⟨b2, off2 + k * 6 + 5, none⟩ = some (.int .i64 x.n) ∧ W.cell? ⟨w.heap.size, 0, none⟩ = some (.string q.m) ∧ W.cell? ⟨w.heap.size, 1, none⟩ = some (.slice aq nq cq) ∧ W.cell? ⟨w.heap.size, 2, none⟩ = some (.string q.f)) := fun W hW => by
              have T := TK.out.below hW
              have h6 := wat6 (fx W hW).1 hnx
              have h3 := bx3 T.bx nqH.out
              exact ⟨T.bl, hW, h6.1, h6.2.1, h6.2.2.1, h6.2.2.2.1, h6.2.2.2.2.1, h6.2.2.2.2.2, h3.1, h3.2.1, h3.2.2⟩
            have C1 : Hid (∀ W, (Below w.heap.size w W ∧ Below wk.heap.size wk W ∧ W.cell? ⟨b2, off2 + k * 6, none⟩ = some (.string x.s.m) ∧ W.cell? ⟨b2, off2 + k * 6 + 1, none⟩ = some (.slice ta nx tc) ∧ W.cell? ⟨b2, off2 + k * 6 + 2, none⟩ = some (.string x.s.f) ∧ W.cell? ⟨b2, off2 + k * 6 + 3, none⟩ = some (.int .i64 x.tm) ∧ W.cell? ⟨b2, off2 + k * 6 + 4, none⟩ = some (.int .u8 (x.kd : Int)) ∧ W.cell? ⟨b2, off2 + k * 6 + 5, none⟩ = some (.int .i64 x.n) ∧ W.cell? ⟨w.heap.size, 0, none⟩ = some (.string q.m) ∧ W.cell? ⟨w.heap.size, 1, none⟩ = some (.slice aq nq cq) ∧ W.cell? ⟨w.heap.size, 2, none⟩ = some (.string q.f)) → Calls Try.prog 5 #[.agg #[.string x.s.m, .slice ta nx tc, .string x.s.f], .agg #[.string q.m, .slice aq nq cq, .string q.f]] W fun e w' => e = .returned (.bool (decide (serC x.s q = 0))) ∧ Below W.heap.size W w') := fun W h => cS.out W x nx ta tc h.1 (fx W h.2.1).2 hnx
            have hK : Hid (∀ W W' : World, Below W.heap.size W W' → (Below w.heap.size w W ∧ Below wk.heap.size wk W ∧ W.cell? ⟨b2, off2 + k * 6, none⟩ = some (.string x.s.m) ∧ W.cell? ⟨b2, off2 + k * 6 + 1, none⟩ = some (.slice ta nx tc) ∧ W.cell? ⟨b2, off2 + k * 6 + 2, none⟩ = some (.string x.s.f) ∧ W.cell? ⟨b2, off2 + k * 6 + 3, none⟩ = some (.int .i64 x.tm) ∧ W.cell? ⟨b2, off2 + k * 6 + 4, none⟩ = some (.int .u8 (x.kd : Int)) ∧ W.cell? ⟨b2, off2 + k * 6 + 5, none⟩ = some (.int .i64 x.n) ∧ W.cell? ⟨w.heap.size, 0, none⟩ = some (.string q.m) ∧ W.cell? ⟨w.heap.size, 1, none⟩ = some (.slice aq nq cq) ∧ W.cell? ⟨w.heap.size, 2, none⟩ = some (.string q.f)) → Below w.heap.size w W' ∧ Below wk.heap.size wk W' ∧ W'.cell? ⟨b2, off2 + k * 6, none⟩ = some (.string x.s.m) ∧ W'.cell? ⟨b2, off2 + k * 6 + 1, none⟩ = some (.slice ta nx tc) ∧ W'.cell? ⟨b2, off2 + k * 6 + 2, none⟩ = some (.string x.s.f) ∧ W'.cell? ⟨b2, off2 + k * 6 + 3, none⟩ = some (.int .i64 x.tm) ∧ W'.cell? ⟨b2, off2 + k * 6 + 4, none⟩ = some (.int .u8 (x.kd : Int)) ∧ W'.cell? ⟨b2, off2 + k * 6 + 5, none⟩ = some (.int .i64 x.n) ∧ W'.cell? ⟨w.heap.size, 0, none⟩ = some (.string q.m) ∧ W'.cell? ⟨w.heap.size, 1, none⟩ = some (.slice aq nq cq) ∧ W'.cell? ⟨w.heap.size, 2, none⟩ = some (.string q.f)) := fun W W' hB h => mkS.out W' (h.2.1.trans (hB.mono h.2.1.size))
            have bT : Hid (∀ W, Below wk.heap.size wk W → Below wt.heap.size wt W) := fun W hW => hI.out.1.trans (hW.mono hI.out.1.size)
            have eF : Hid (serC x.s q ≠ 0 → n = (smpsOf q ((accD ll).take (k + 1))).length) := fun h0 => by rw [smps_take hx, if_neg h0, List.append_nil]; exact hI.out.2
            have eT : Hid (serC x.s q = 0 → n + 1 = (smpsOf q ((accD ll).take (k + 1))).length) := fun h0 => by rw [smps_take hx, if_pos h0, List.length_append, ← hI.out.2]; rfl
            have aT : Hid (serC x.s q = 0 → n < z10' ∧ ∃ b3 off3, a11 = some ⟨b3, off3, none⟩ ∧ ∀ W, Below wk.heap.size wk W → W.cell? ⟨b3, off3 + n * 3, none⟩ = some (.int .i64 x.tm) ∧ W.cell? ⟨b3, off3 + n * 3 + 1, none⟩ = some (.int .u8 (x.kd : Int)) ∧ W.cell? ⟨b3, off3 + n * 3 + 2, none⟩ = some (.int .i64 x.n)) := fun h0 => by
              have h1 := smps_at hx h0
              rw [← hI.out.2] at h1
              have h2 := (List.getElem?_eq_some_iff.1 h1).1
              refine ⟨by rw [TK.out.z10]; exact h2, ?_⟩
              rcases TK.out.hv.2 with e | ⟨b3, off3, e, hb3, hc⟩
              · rw [e] at h2; simp at h2
              · refine ⟨b3, off3, e, fun W hW => ?_⟩
                obtain ⟨h3, h4, h5⟩ := hc n _ h1
                exact ⟨by rw [hW.cell (p := ⟨b3, off3 + n * 3, none⟩) hb3]; exact h3, by rw [hW.cell (p := ⟨b3, off3 + n * 3 + 1, none⟩) hb3]; exact h4, by rw [hW.cell (p := ⟨b3, off3 + n * 3 + 2, none⟩) hb3]; exact h5⟩
            have hSS := mkS.out wk.drew (Below.refl _ wk).drew
            clear fx hx hnx hb2 hI mkS TK
            go_wp2_with fail
            by_cases h0 : serC x.s q = 0
            · rw [decide_eq_true h0] at C1
              obtain ⟨nz, b3, off3, e3, c3⟩ := aT.out h0
              subst e3
              have nzI : ¬ (z10' : Int) ≤ (n : Int) := by omega
              have nzJ : (n : Int) < (z10' : Int) := by omega
              have c3H : Hid _ := c3
              have eTH : Hid _ := eT.out h0
              clear c3 aT eF eT
              go_region_held3 (fun W => Below w.heap.size w W ∧ Below wk.heap.size wk W ∧ W.cell? ⟨b2, off2 + k * 6, none⟩ = some (.string x.s.m) ∧ W.cell? ⟨b2, off2 + k * 6 + 1, none⟩ = some (.slice ta nx tc) ∧ W.cell? ⟨b2, off2 + k * 6 + 2, none⟩ = some (.string x.s.f) ∧ W.cell? ⟨b2, off2 + k * 6 + 3, none⟩ = some (.int .i64 x.tm) ∧ W.cell? ⟨b2, off2 + k * 6 + 4, none⟩ = some (.int .u8 (x.kd : Int)) ∧ W.cell? ⟨b2, off2 + k * 6 + 5, none⟩ = some (.int .i64 x.n) ∧ W.cell? ⟨w.heap.size, 0, none⟩ = some (.string q.m) ∧ W.cell? ⟨w.heap.size, 1, none⟩ = some (.slice aq nq cq) ∧ W.cell? ⟨w.heap.size, 2, none⟩ = some (.string q.f)) (first | assumption)
                (first
                  | (go_at_call 5; (with_reducible refine Calls.mono (C1.out _ (by assumption)) ?_); rintro e w' ⟨rfl, BB⟩; have SS := hK.out _ _ BB (by assumption)))
              all_goals
                obtain ⟨B1, B2, x1, x2, x3, x4, x5, x6, y1, y2, y3⟩ := (by assumption : Below w.heap.size w _ ∧ Below wk.heap.size wk _ ∧ _)
                obtain ⟨d1, d2, d3⟩ := c3H.out _ B2
                have BT := bT.out _ B2
                have BN : Hid (∀ nq, Below wt.heap.size wt (World.drewN _ nq)) := fun nq => Ser.below_drewN BT nq
                clear B1 B2 hSS C1 hK BT c3H h0
                generalize x.tm = xt at *
                generalize x.kd = xk at *
                generalize x.n = xn at *
                go_wp2_with fail
                go_quiet (fail)
                go_wp2_with fail
                exact ⟨⟨k + 1, n + 1, by first | rfl | simp, by first | rfl | simp, by omega, BN.out _, eTH.out⟩, by simp [intOf]; omega⟩
            · rw [decide_eq_false h0] at C1
              have eFH : Hid _ := eF.out h0
              clear aT eF eT
              go_region_held3 (fun W => Below w.heap.size w W ∧ Below wk.heap.size wk W ∧ W.cell? ⟨b2, off2 + k * 6, none⟩ = some (.string x.s.m) ∧ W.cell? ⟨b2, off2 + k * 6 + 1, none⟩ = some (.slice ta nx tc) ∧ W.cell? ⟨b2, off2 + k * 6 + 2, none⟩ = some (.string x.s.f) ∧ W.cell? ⟨b2, off2 + k * 6 + 3, none⟩ = some (.int .i64 x.tm) ∧ W.cell? ⟨b2, off2 + k * 6 + 4, none⟩ = some (.int .u8 (x.kd : Int)) ∧ W.cell? ⟨b2, off2 + k * 6 + 5, none⟩ = some (.int .i64 x.n) ∧ W.cell? ⟨w.heap.size, 0, none⟩ = some (.string q.m) ∧ W.cell? ⟨w.heap.size, 1, none⟩ = some (.slice aq nq cq) ∧ W.cell? ⟨w.heap.size, 2, none⟩ = some (.string q.f)) (first | assumption)
                (first
                  | (go_at_call 5; (with_reducible refine Calls.mono (C1.out _ (by assumption)) ?_); rintro e w' ⟨rfl, BB⟩; have SS := hK.out _ _ BB (by assumption)))
              all_goals
                obtain ⟨B1, B2, _⟩ := (by assumption : Below w.heap.size w _ ∧ Below wk.heap.size wk _ ∧ _)
                have BT : Hid _ := bT.out _ B2
                clear B1 B2 hSS C1 hK
                go_wp2_with fail
                exact ⟨⟨k + 1, n, by first | rfl | simp, by first | rfl | simp, by omega, BT.out, eFH.out⟩, by simp [intOf]; omega⟩
          · have kI : ¬ (k : Int) < (z6 : Int) := by omega
            have nE : n = z10' := by
              rw [hI.out.2, TK.out.z10, List.take_of_length_le]
              have := TK.out.zA
              omega
            subst nE
            obtain ⟨M, hM⟩ : ∃ M, M = wk.heap.size := ⟨_, rfl⟩
            have cP : Hid _ := put_step wk M hM
            have TS : Hid (∀ W, Below wk.heap.size wk W → Below w.heap.size w W ∧ Calls Try.prog 11 #[.pointer (some ⟨N, 0, none⟩)] W fun e w' => e = .returned (.int .i64 (n : Int)) ∧ w' = W) := fun W hW => by
              have T := TK.out.below hW
              exact ⟨T.bl, cZ.out _ _ W T.ss n T.z10⟩
            clear hI TK hM
            go_wp2_with fail
            refine Calls.mono cP.out ?_
            rintro e w7 ⟨rfl, b7, hP⟩
            have hPH : Hid _ := hP
            clear hP b7 cP
            go_wp2_with fail
            refine Calls.mono hPH.out ?_
            rintro e w8 ⟨⟨r8, rfl⟩, b8, hZ⟩
            have hZH : Hid _ := hZ
            obtain ⟨bF, hY⟩ := TS.out w8 b8
            have bFH : Hid _ := bF
            have hYH : Hid _ := hY
            have nn : ((n : Int) == (n : Int)) = true := by simp
            clear hZ b8 hPH bF hY TS
            go_wp2_with fail
            refine Calls.mono hYH.out ?_
            rintro e w9 ⟨rfl, rfl⟩
            go_wp2_with fail
            refine Calls.mono (hZH.out _ rfl) ?_
            rintro e w10 ⟨rfl, rfl⟩
            go_wp2_with fail
            go_ret
            exact ⟨by first | rfl | simp, bFH.out⟩
      · obtain ⟨wt, hwt⟩ : ∃ wt, wt = w4.alloc (.cells #[.int .i64 x.t, .int .u8 (x.k : Int), .int .i64 x.x] 35) := ⟨_, rfl⟩
        have TH : Hid (TlS w q aq cq (accD ll) vs a6 z6 a10 z10 wt) := TlS.of UH.out (by have := I4.out.below (show Below w4.heap.size w4 wt by rw [hwt]; exact (Below.refl _ w4).alloc (Nat.le_refl _) _); rw [hR] at this; exact this)
        have hxb : (x.t == 9223372036854775807) = false := by simpa using hxt
        clear I4 UH hR z10H
        go_wp2_with fail
        rw [← hwt]
        clear hwt
        have T0 : Hid (Below wt.heap.size wt wt ∧ (0 : Nat) = (smpsOf q ((accD ll).take 0)).length) := ⟨Below.refl _ _, rfl⟩
        go_wp2_with fail
        go_loopw [13, 14] (fun v13 v14 wk => ∃ (k n : Nat), v13 = .int .i64 (n : Int) ∧ v14 = .int .i64 (k : Int) ∧ k ≤ z6 ∧ Hid (Below wt.heap.size wt wk ∧ n = (smpsOf q ((accD ll).take k)).length)) (fun _ v _ => z6 - (intOf v).toNat)
        case atStart => exact ⟨0, 0, rfl, rfl, Nat.zero_le _, T0⟩
        case round =>
          clear T0
          obtain ⟨k, n, rfl, rfl, kl, hI⟩ := hrel
          obtain ⟨wk, hwk⟩ : ∃ wk : World, wk = wr := ⟨_, rfl⟩
          subst hwk
          have k0 : (0 : Int) ≤ (k : Int) := by omega
          have n0 : (0 : Int) ≤ (n : Int) := by omega
          have wkk : IntKind.i64.wrap ((k : Int) + 1) = ((k + 1 : Nat) : Int) := IntWalk.i64_in _ (by omega)
          have nk : n ≤ z6 := by
            have h1 := smps_len q ((accD ll).take k)
            have h2 : ((accD ll).take k).length ≤ k := by rw [List.length_take]; omega
            have := hI.out.2
            omega
          have wn : IntKind.i64.wrap ((n : Int) + 1) = ((n + 1 : Nat) : Int) := IntWalk.i64_in _ (by omega)
          have TK : Hid (TlS w q aq cq (accD ll) vs a6 z6 a10 z10 wk) := TH.out.below hI.out.1
          by_cases hk : k < z6
          · have kI : (k : Int) < (z6 : Int) := by omega
            obtain ⟨x, hx⟩ : ∃ x, (accD ll)[k]? = some x := ⟨_, List.getElem?_eq_getElem (by rw [← TK.out.zA]; exact hk)⟩
            obtain ⟨b2, off2, ta, tc, e2, hb2, _, fx⟩ := TK.out.al.at (Below.refl _ _) hx
            subst e2
            obtain ⟨nx, hnx⟩ : ∃ n, n = x.s.t.length := ⟨_, rfl⟩
            have mkS : Hid (∀ W, Below wk.heap.size wk W → Below w.heap.size w W ∧ Below wk.heap.size wk W ∧ W.cell? ⟨b2, off2 + k * 6, none⟩ = some (.string x.s.m) ∧ W.cell? ⟨b2, off2 + k * 6 + 1, none⟩ = some (.slice ta nx tc) ∧ W.cell? ⟨b2, off2 + k * 6 + 2, none⟩ = some (.string x.s.f) ∧ W.cell? ⟨b2, off2 + k * 6 + 3, none⟩ = some (.int .i64 x.tm) ∧ W.cell? ⟨b2, off2 + k * 6 + 4, none⟩ = some (.int .u8 (x.kd : Int)) ∧ W.cell? ⟨b2, off2 + k * 6 + 5, none⟩ = some (.int .i64 x.n) ∧ W.cell? ⟨w.heap.size, 0, none⟩ = some (.string q.m) ∧ W.cell? ⟨w.heap.size, 1, none⟩ = some (.slice aq nq cq) ∧ W.cell? ⟨w.heap.size, 2, none⟩ = some (.string q.f)) := fun W hW => by
              have T := TK.out.below hW
              have h6 := wat6 (fx W hW).1 hnx
              have h3 := bx3 T.bx nqH.out
              exact ⟨T.bl, hW, h6.1, h6.2.1, h6.2.2.1, h6.2.2.2.1, h6.2.2.2.2.1, h6.2.2.2.2.2, h3.1, h3.2.1, h3.2.2⟩
            have C1 : Hid (∀ W, (Below w.heap.size w W ∧ Below wk.heap.size wk W ∧ W.cell? ⟨b2, off2 + k * 6, none⟩ = some (.string x.s.m) ∧ W.cell? ⟨b2, off2 + k * 6 + 1, none⟩ = some (.slice ta nx tc) ∧ W.cell? ⟨b2, off2 + k * 6 + 2, none⟩ = some (.string x.s.f) ∧ W.cell? ⟨b2, off2 + k * 6 + 3, none⟩ = some (.int .i64 x.tm) ∧ W.cell? ⟨b2, off2 + k * 6 + 4, none⟩ = some (.int .u8 (x.kd : Int)) ∧ W.cell? ⟨b2, off2 + k * 6 + 5, none⟩ = some (.int .i64 x.n) ∧ W.cell? ⟨w.heap.size, 0, none⟩ = some (.string q.m) ∧ W.cell? ⟨w.heap.size, 1, none⟩ = some (.slice aq nq cq) ∧ W.cell? ⟨w.heap.size, 2, none⟩ = some (.string q.f)) → Calls Try.prog 5 #[.agg #[.string x.s.m, .slice ta nx tc, .string x.s.f], .agg #[.string q.m, .slice aq nq cq, .string q.f]] W fun e w' => e = .returned (.bool (decide (serC x.s q = 0))) ∧ Below W.heap.size W w') := fun W h => cS.out W x nx ta tc h.1 (fx W h.2.1).2 hnx
            have hK : Hid (∀ W W' : World, Below W.heap.size W W' → (Below w.heap.size w W ∧ Below wk.heap.size wk W ∧ W.cell? ⟨b2, off2 + k * 6, none⟩ = some (.string x.s.m) ∧ W.cell? ⟨b2, off2 + k * 6 + 1, none⟩ = some (.slice ta nx tc) ∧ W.cell? ⟨b2, off2 + k * 6 + 2, none⟩ = some (.string x.s.f) ∧ W.cell? ⟨b2, off2 + k * 6 + 3, none⟩ = some (.int .i64 x.tm) ∧ W.cell? ⟨b2, off2 + k * 6 + 4, none⟩ = some (.int .u8 (x.kd : Int)) ∧ W.cell? ⟨b2, off2 + k * 6 + 5, none⟩ = some (.int .i64 x.n) ∧ W.cell? ⟨w.heap.size, 0, none⟩ = some (.string q.m) ∧ W.cell? ⟨w.heap.size, 1, none⟩ = some (.slice aq nq cq) ∧ W.cell? ⟨w.heap.size, 2, none⟩ = some (.string q.f)) → Below w.heap.size w W' ∧ Below wk.heap.size wk W' ∧ W'.cell? ⟨b2, off2 + k * 6, none⟩ = some (.string x.s.m) ∧ W'.cell? ⟨b2, off2 + k * 6 + 1, none⟩ = some (.slice ta nx tc) ∧ W'.cell? ⟨b2, off2 + k * 6 + 2, none⟩ = some (.string x.s.f) ∧ W'.cell? ⟨b2, off2 + k * 6 + 3, none⟩ = some (.int .i64 x.tm) ∧ W'.cell? ⟨b2, off2 + k * 6 + 4, none⟩ = some (.int .u8 (x.kd : Int)) ∧ W'.cell? ⟨b2, off2 + k * 6 + 5, none⟩ = some (.int .i64 x.n) ∧ W'.cell? ⟨w.heap.size, 0, none⟩ = some (.string q.m) ∧ W'.cell? ⟨w.heap.size, 1, none⟩ = some (.slice aq nq cq) ∧ W'.cell? ⟨w.heap.size, 2, none⟩ = some (.string q.f)) := fun W W' hB h => mkS.out W' (h.2.1.trans (hB.mono h.2.1.size))
            have bT : Hid (∀ W, Below wk.heap.size wk W → Below wt.heap.size wt W) := fun W hW => hI.out.1.trans (hW.mono hI.out.1.size)
            have eF : Hid (serC x.s q ≠ 0 → n = (smpsOf q ((accD ll).take (k + 1))).length) := fun h0 => by rw [smps_take hx, if_neg h0, List.append_nil]; exact hI.out.2
            have eT : Hid (serC x.s q = 0 → n + 1 = (smpsOf q ((accD ll).take (k + 1))).length) := fun h0 => by rw [smps_take hx, if_pos h0, List.length_append, ← hI.out.2]; rfl
            have aT : Hid (serC x.s q = 0 → n < z10 ∧ ∃ b3 off3, a10 = some ⟨b3, off3, none⟩ ∧ ∀ W, Below wk.heap.size wk W → W.cell? ⟨b3, off3 + n * 3, none⟩ = some (.int .i64 x.tm) ∧ W.cell? ⟨b3, off3 + n * 3 + 1, none⟩ = some (.int .u8 (x.kd : Int)) ∧ W.cell? ⟨b3, off3 + n * 3 + 2, none⟩ = some (.int .i64 x.n)) := fun h0 => by
              have h1 := smps_at hx h0
              rw [← hI.out.2] at h1
              have h2 := (List.getElem?_eq_some_iff.1 h1).1
              refine ⟨by rw [TK.out.z10]; exact h2, ?_⟩
              rcases TK.out.hv.2 with e | ⟨b3, off3, e, hb3, hc⟩
              · rw [e] at h2; simp at h2
              · refine ⟨b3, off3, e, fun W hW => ?_⟩
                obtain ⟨h3, h4, h5⟩ := hc n _ h1
                exact ⟨by rw [hW.cell (p := ⟨b3, off3 + n * 3, none⟩) hb3]; exact h3, by rw [hW.cell (p := ⟨b3, off3 + n * 3 + 1, none⟩) hb3]; exact h4, by rw [hW.cell (p := ⟨b3, off3 + n * 3 + 2, none⟩) hb3]; exact h5⟩
            have hSS := mkS.out wk.drew (Below.refl _ wk).drew
            clear fx hx hnx hb2 hI mkS TK
            go_wp2_with fail
            by_cases h0 : serC x.s q = 0
            · rw [decide_eq_true h0] at C1
              obtain ⟨nz, b3, off3, e3, c3⟩ := aT.out h0
              subst e3
              have nzI : ¬ (z10 : Int) ≤ (n : Int) := by omega
              have nzJ : (n : Int) < (z10 : Int) := by omega
              have c3H : Hid _ := c3
              have eTH : Hid _ := eT.out h0
              clear c3 aT eF eT
              go_region_held3 (fun W => Below w.heap.size w W ∧ Below wk.heap.size wk W ∧ W.cell? ⟨b2, off2 + k * 6, none⟩ = some (.string x.s.m) ∧ W.cell? ⟨b2, off2 + k * 6 + 1, none⟩ = some (.slice ta nx tc) ∧ W.cell? ⟨b2, off2 + k * 6 + 2, none⟩ = some (.string x.s.f) ∧ W.cell? ⟨b2, off2 + k * 6 + 3, none⟩ = some (.int .i64 x.tm) ∧ W.cell? ⟨b2, off2 + k * 6 + 4, none⟩ = some (.int .u8 (x.kd : Int)) ∧ W.cell? ⟨b2, off2 + k * 6 + 5, none⟩ = some (.int .i64 x.n) ∧ W.cell? ⟨w.heap.size, 0, none⟩ = some (.string q.m) ∧ W.cell? ⟨w.heap.size, 1, none⟩ = some (.slice aq nq cq) ∧ W.cell? ⟨w.heap.size, 2, none⟩ = some (.string q.f)) (first | assumption)
                (first
                  | (go_at_call 5; (with_reducible refine Calls.mono (C1.out _ (by assumption)) ?_); rintro e w' ⟨rfl, BB⟩; have SS := hK.out _ _ BB (by assumption)))
              all_goals
                obtain ⟨B1, B2, x1, x2, x3, x4, x5, x6, y1, y2, y3⟩ := (by assumption : Below w.heap.size w _ ∧ Below wk.heap.size wk _ ∧ _)
                obtain ⟨d1, d2, d3⟩ := c3H.out _ B2
                have BT := bT.out _ B2
                have BN : Hid (∀ nq, Below wt.heap.size wt (World.drewN _ nq)) := fun nq => Ser.below_drewN BT nq
                clear B1 B2 hSS C1 hK BT c3H h0
                generalize x.tm = xt at *
                generalize x.kd = xk at *
                generalize x.n = xn at *
                go_wp2_with fail
                go_quiet (fail)
                go_wp2_with fail
                exact ⟨⟨k + 1, n + 1, by first | rfl | simp, by first | rfl | simp, by omega, BN.out _, eTH.out⟩, by simp [intOf]; omega⟩
            · rw [decide_eq_false h0] at C1
              have eFH : Hid _ := eF.out h0
              clear aT eF eT
              go_region_held3 (fun W => Below w.heap.size w W ∧ Below wk.heap.size wk W ∧ W.cell? ⟨b2, off2 + k * 6, none⟩ = some (.string x.s.m) ∧ W.cell? ⟨b2, off2 + k * 6 + 1, none⟩ = some (.slice ta nx tc) ∧ W.cell? ⟨b2, off2 + k * 6 + 2, none⟩ = some (.string x.s.f) ∧ W.cell? ⟨b2, off2 + k * 6 + 3, none⟩ = some (.int .i64 x.tm) ∧ W.cell? ⟨b2, off2 + k * 6 + 4, none⟩ = some (.int .u8 (x.kd : Int)) ∧ W.cell? ⟨b2, off2 + k * 6 + 5, none⟩ = some (.int .i64 x.n) ∧ W.cell? ⟨w.heap.size, 0, none⟩ = some (.string q.m) ∧ W.cell? ⟨w.heap.size, 1, none⟩ = some (.slice aq nq cq) ∧ W.cell? ⟨w.heap.size, 2, none⟩ = some (.string q.f)) (first | assumption)
                (first
                  | (go_at_call 5; (with_reducible refine Calls.mono (C1.out _ (by assumption)) ?_); rintro e w' ⟨rfl, BB⟩; have SS := hK.out _ _ BB (by assumption)))
              all_goals
                obtain ⟨B1, B2, _⟩ := (by assumption : Below w.heap.size w _ ∧ Below wk.heap.size wk _ ∧ _)
                have BT : Hid _ := bT.out _ B2
                clear B1 B2 hSS C1 hK
                go_wp2_with fail
                exact ⟨⟨k + 1, n, by first | rfl | simp, by first | rfl | simp, by omega, BT.out, eFH.out⟩, by simp [intOf]; omega⟩
          · have kI : ¬ (k : Int) < (z6 : Int) := by omega
            have nE : n = z10 := by
              rw [hI.out.2, TK.out.z10, List.take_of_length_le]
              have := TK.out.zA
              omega
            subst nE
            obtain ⟨M, hM⟩ : ∃ M, M = wk.heap.size := ⟨_, rfl⟩
            have cP : Hid _ := put_step wk M hM
            have TS : Hid (∀ W, Below wk.heap.size wk W → Below w.heap.size w W ∧ Calls Try.prog 11 #[.pointer (some ⟨N, 0, none⟩)] W fun e w' => e = .returned (.int .i64 (n : Int)) ∧ w' = W) := fun W hW => by
              have T := TK.out.below hW
              exact ⟨T.bl, cZ.out _ _ W T.ss n T.z10⟩
            clear hI TK hM
            go_wp2_with fail
            refine Calls.mono cP.out ?_
            rintro e w7 ⟨rfl, b7, hP⟩
            have hPH : Hid _ := hP
            clear hP b7 cP
            go_wp2_with fail
            refine Calls.mono hPH.out ?_
            rintro e w8 ⟨⟨r8, rfl⟩, b8, hZ⟩
            have hZH : Hid _ := hZ
            obtain ⟨bF, hY⟩ := TS.out w8 b8
            have bFH : Hid _ := bF
            have hYH : Hid _ := hY
            have nn : ((n : Int) == (n : Int)) = true := by simp
            clear hZ b8 hPH bF hY TS
            go_wp2_with fail
            refine Calls.mono hYH.out ?_
            rintro e w9 ⟨rfl, rfl⟩
            go_wp2_with fail
            refine Calls.mono (hZH.out _ rfl) ?_
            rintro e w10 ⟨rfl, rfl⟩
            go_wp2_with fail
            go_ret
            exact ⟨by first | rfl | simp, bFH.out⟩
end Go.Proofs.Ytlcppkemiogbeaa
