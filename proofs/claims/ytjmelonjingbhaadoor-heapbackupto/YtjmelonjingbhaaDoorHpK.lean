
import Derived.Test.YtjmelonjingbhaaDoorHpJ
namespace Go.Proofs.YtjmelonjingbhaaDoor.Hp
open Go.RowKit Go.Maps
set_option linter.unusedVariables false
set_option linter.unusedSimpArgs false
set_option maxRecDepth 100000
/-- the moves are few for how many there are. -/
def few (L : List Ent) (mv : Int) : Prop := ∃ m : Nat, mv = (m : Int) ∧ (0 < L.length → 2 ^ m ≤ L.length) ∧ (L.length = 0 → m = 0)
/-- behind a call that may change a heap. -/
def CH (w : World) (B hp mb : Nat) (most : Bool) (v : Value) (L : List Ent) (mv : Int) (w' : World) : Prop := ∃ L' mv', OP w B hp mb most v L' mv' w' ∧ (few L mv → few L' mv') ∧ L'.length ≤ L.length + 1
theorem CH.same {w w' : World} {B hp mb : Nat} {most : Bool} {v : Value} {f : ByteArray → Option Nat} {L : List Ent} {mv : Int} (h : HS w B hp mb most v none f L mv) (hb : Below w.heap.size w w') : CH w B hp mb most v L mv w' :=
  ⟨L, mv, ⟨⟨v, f, h.below hb, Or.inl rfl⟩, HF.below hb⟩, fun q => q, by omega⟩
theorem put_any {w : World} {B hp mb : Nat} {most : Bool} {v : Value} {f : ByteArray → Option Nat} {L : List Ent} {mv : Int} (h : HS w B hp mb most v none f L mv) (hBw : B ≤ w.heap.size) (x : Ent) (hx : x.2.size ≤ 9223372036854775807) (hn : L.length + 1 ≤ 1099511627776) :
    Calls Tryd.prog 6 #[.pointer (some ⟨hp, 0, none⟩), eV x] w fun e w' => (∃ r, e = .returned r) ∧ CH w B hp mb most v L mv w' := by
  by_cases hf : f x.2 = none
  · refine (put_ok h hBw x hx hf hn).mono fun e w' hh => ⟨⟨_, hh.1⟩, _, _, hh.2, fun _ => ⟨_, rfl, fun _ => ?_, fun q => ?_⟩, ?_⟩
    · have := upL_few (ahd most) L.length (L ++ [x]) L.length (Nat.le_refl _)
      have e := upL_len (ahd most) L.length (L ++ [x]) L.length (Nat.le_refl _)
      rw [e]; simpa using this
    · have e := upL_len (ahd most) L.length (L ++ [x]) L.length (Nat.le_refl _)
      rw [e] at q; simp at q
    · have e := upL_len (ahd most) L.length (L ++ [x]) L.length (Nat.le_refl _)
      rw [e]; simp
  · exact (put_known h x hx hf).mono fun e w' hh => ⟨⟨_, hh.1⟩, CH.same h hh.2⟩
theorem turn_any {w : World} {B hp mb : Nat} {most : Bool} {v : Value} {f : ByteArray → Option Nat} {L : List Ent} {mv : Int} (h : HS w B hp mb most v none f L mv) (s : ByteArray) (hs : s.size ≤ 9223372036854775807) (r : Int) (hn : L.length ≤ 1099511627776) :
    Calls Tryd.prog 13 #[.pointer (some ⟨hp, 0, none⟩), .string s, .int .i64 r] w fun e w' => (∃ r, e = .returned r) ∧ CH w B hp mb most v L mv w' := by
  cases hf : f s with
  | none => exact (turn_none h s hs r hf).mono fun e w' hh => ⟨⟨_, hh.1⟩, by rw [hh.2]; exact CH.same h (Below.refl _ _)⟩
  | some i =>
    obtain ⟨hi, _⟩ := h.pl.lt (by simp) hf
    refine (turn_ok h s hs r i hf hn).mono fun e w' hh => ⟨⟨_, hh.1⟩, _, _, hh.2, fun _ => ⟨_, rfl, fun _ => ?_, fun q => ?_⟩, ?_⟩
    · have := mendL_few (ahd most) (L.set i (r, s)) i (by simpa using hi)
      rw [mendL_len]; exact this
    · rw [mendL_len] at q; simp at q; rw [q] at hi; simp at hi
    · rw [mendL_len]; simp
theorem take_any {w : World} {B hp mb : Nat} {most : Bool} {v : Value} {f : ByteArray → Option Nat} {L : List Ent} {mv : Int} (h : HS w B hp mb most v none f L mv) (s : ByteArray) (hs : s.size ≤ 9223372036854775807) (hn : L.length ≤ 1099511627776) :
    Calls Tryd.prog 11 #[.pointer (some ⟨hp, 0, none⟩), .string s] w fun e w' => (∃ (y : Ent) (r : Value), e = .returned (.tuple #[eV y, r])) ∧ CH w B hp mb most v L mv w' := by
  cases hf : f s with
  | none => exact (take_none h s hs hf).mono fun e w' hh => ⟨⟨_, _, hh.1⟩, CH.same h hh.2⟩
  | some i =>
    obtain ⟨hi, hnm⟩ := h.pl.lt (by simp) hf
    obtain ⟨M, x, rfl⟩ := cut_form (L := L) (by omega)
    have LL : (M ++ [x]).length = M.length + 1 := by simp
    by_cases hne : x.2 = s
    · refine (take_last h s hs hne (by omega)).mono fun e w' hh => ⟨⟨_, _, hh.1⟩, _, _, hh.2, fun _ => ⟨0, rfl, fun q => ?_, fun _ => rfl⟩, by omega⟩
      rw [Nat.pow_zero]; exact q
    · obtain ⟨hi2, _⟩ := h.pl.cutOver hf (by rw [atE_last]; exact hne)
      refine (take_over h s hs i hf hne (by omega)).mono fun e w' hh => ⟨⟨_, _, hh.1⟩, _, _, hh.2, fun _ => ⟨_, rfl, fun _ => ?_, fun q => ?_⟩, ?_⟩
      · have := mendL_few (ahd most) (M.set i x) i (by simp; omega)
        rw [mendL_len]; exact this
      · rw [mendL_len] at q; simp at q; rw [q] at hi2; simp at hi2
      · rw [mendL_len]; simp; omega
theorem OP.over {w w1 w' w'' : World} {B hp mb K : Nat} {most : Bool} {v : Value} {L : List Ent} {mv : Int} (b : Below w.heap.size w w1) (o : OP w1 B hp mb most v L mv w') (g : w'.grownBy w'' (some K)) (k1 : w.heap.size ≤ K) (k2 : K < w1.heap.size) (h1 : hp < w.heap.size) (h2 : mb < w.heap.size) (h3 : ∀ k, v.ownBlock = some k → k < w.heap.size) : OP w B hp mb most v L mv w'' := by
  obtain ⟨v', f, hs, ho⟩ := o.hs
  have := b.size
  refine ⟨⟨v', f, hs.far g (by omega) (by omega) (fun e => ?_), ?_⟩, ((HF.below b).trans o.fr).step (HF.grown (hp := hp) (mb := mb) (rb := some K) g (Or.inr (Or.inr rfl))) (Or.inr ⟨_, rfl, k1⟩)⟩
  · rcases ho with q | ⟨k, q, hk⟩
    · have := h3 K (by rw [← q]; exact e); omega
    · rw [q] at e; injection e with e; omega
  · rcases ho with q | ⟨k, q, hk⟩
    · exact Or.inl q
    · exact Or.inr ⟨k, q, by omega⟩
theorem CH.over {w w1 w' w'' : World} {B hp mb K : Nat} {most : Bool} {v : Value} {L : List Ent} {mv : Int} (b : Below w.heap.size w w1) (o : CH w1 B hp mb most v L mv w') (g : w'.grownBy w'' (some K)) (k1 : w.heap.size ≤ K) (k2 : K < w1.heap.size) (h1 : hp < w.heap.size) (h2 : mb < w.heap.size) (h3 : ∀ k, v.ownBlock = some k → k < w.heap.size) : CH w B hp mb most v L mv w'' := by
  obtain ⟨L', mv', op, q⟩ := o
  exact ⟨L', mv', op.over b g k1 k2 h1 h2 h3, q⟩
theorem top_any {w : World} {B hp mb : Nat} {most : Bool} {v : Value} {f : ByteArray → Option Nat} {L : List Ent} {mv : Int} (h : HS w B hp mb most v none f L mv) :
    Calls Tryd.prog 22 #[.pointer (some ⟨hp, 0, none⟩)] w fun e w' => (∃ (y : Ent) (t : Bool), e = .returned (.tuple #[eV y, .bool t]) ∧ y.2.size ≤ 9223372036854775807) ∧ Below w.heap.size w w' := by
  by_cases hL : 0 < L.length
  · exact (top_some h hL).mono fun e w' hh => ⟨⟨_, _, hh.1, h.nm _ (List.mem_of_getElem? (atE_some hL))⟩, hh.2⟩
  · obtain rfl : L = [] := List.eq_nil_of_length_eq_zero (by omega)
    exact (top_none h).mono fun e w' hh => ⟨⟨_, _, hh.1, by decide⟩, hh.2⟩
end Go.Proofs.YtjmelonjingbhaaDoor.Hp
