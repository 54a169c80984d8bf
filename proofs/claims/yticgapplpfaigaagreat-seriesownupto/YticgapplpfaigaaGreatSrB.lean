
import Derived.Test.YticgapplpfaigaaGreatSrA
import Derived.Laws.BitsAllLaws
namespace Go.Proofs.YticgapplpfaigaaGreat
open Go.RowKit
set_option linter.unusedVariables false
set_option linter.unusedSimpArgs false
theorem LIn.below {w w' : World} {a : Option Addr} {l : List Smp} {B : Nat} (h : LIn w a l) (hb : Below B w w') (hB : w.heap.size ≤ B) : LIn w' a l := by
  obtain ⟨h1, h3⟩ := h
  refine ⟨h1, ?_⟩
  rcases h3 with h0 | ⟨b, off, e, hl, hc⟩
  · exact Or.inl h0
  · exact Or.inr ⟨b, off, e, Nat.lt_of_lt_of_le hl hb.size, fun i s hs => ⟨by rw [hb.cell (p := ⟨b, off + i * 3, none⟩) (by show b < B; omega)]; exact (hc i s hs).1, by rw [hb.cell (p := ⟨b, off + i * 3 + 1, none⟩) (by show b < B; omega)]; exact (hc i s hs).2.1, by rw [hb.cell (p := ⟨b, off + i * 3 + 2, none⟩) (by show b < B; omega)]; exact (hc i s hs).2.2⟩⟩
theorem cmpI_neg (a b : Int) : cmpI a b < 0 ↔ a < b := by unfold cmpI; split <;> (try split) <;> omega
theorem cmpI_zero (a b : Int) : cmpI a b = 0 ↔ a = b := by unfold cmpI; split <;> (try split) <;> omega
set_option maxRecDepth 100000 in
set_option maxHeartbeats 4000000 in
theorem bsf_any (a : Option Addr) (cap : Nat) (l : List Smp) (t : Int) (w : World) (h : LIn w a l) (hr : Rise l) (hn : l.length ≤ 4611686018427387903) :
    Calls Tryz.prog 81 #[.slice a l.length cap, .int .i64 t, .func (.func 82) #[] #[]] w fun e w' => e = .returned (.tuple #[.int .i64 (ahd l t : Int), .bool (hasT l t)]) ∧ Below w.heap.size w w' := by
  have hC : Hid (∀ (s : Smp) (W : World), Calls Tryz.prog 82 #[.agg #[.int .i64 s.t, .int .u8 (s.k : Int), .int .i64 s.x], .int .i64 t] W fun e w' => e = .returned (.int .i64 (cmpI s.t t)) ∧ Below W.heap.size W w') := fun s W => cmp_any s t W
  have hH : Hid (LIn w a l) := h
  have hR : Hid (Rise l) := hr
  clear h hr
  generalize hn' : l.length = n at hn
  have hN : Hid (l.length = n) := hn'
  clear hn'
  go_enter Tryz.func81, Tryz.ntmps81
  go_wp2_with fail
  go_loopw [9, 10] (fun i j wr => ∃ lo hi : Nat, lo ≤ hi ∧ hi ≤ n ∧ i = .int .i64 (lo : Int) ∧ j = .int .i64 (hi : Int) ∧ Below w.heap.size w wr ∧ Hid ((∀ k s, k < lo → l[k]? = some s → s.t < t) ∧ (∀ k s, hi ≤ k → l[k]? = some s → t ≤ s.t))) (fun i j _ => (intOf j).toNat - (intOf i).toNat)
  case atStart => exact ⟨0, n, by omega, by omega, rfl, rfl, Below.refl _ _, ⟨fun k s hk => absurd hk (Nat.not_lt_zero _), fun k s hk hs => absurd (List.getElem?_eq_some_iff.1 hs).1 (by have := hN.out; omega)⟩⟩
  case round =>
    obtain ⟨lo, hi, hlh, hin, rfl, rfl, hB, I⟩ := hrel
    by_cases hlt : lo < hi
    · have hltI : (lo : Int) < (hi : Int) := by omega
      have hmn : (lo + hi) / 2 < n := by omega
      obtain ⟨s, hs⟩ : ∃ s, l[(lo + hi) / 2]? = some s := ⟨_, List.getElem?_eq_getElem (by have := hN.out; omega)⟩
      have hS : Hid (l[(lo + hi) / 2]? = some s) := hs
      obtain ⟨b, off, rfl, hb, hcc⟩ : ∃ b off, a = some ⟨b, off, none⟩ ∧ b < w.heap.size ∧ ∀ i s, l[i]? = some s → w.cell? ⟨b, off + i * 3, none⟩ = some (.int .i64 s.t) ∧ w.cell? ⟨b, off + i * 3 + 1, none⟩ = some (.int .u8 (s.k : Int)) ∧ w.cell? ⟨b, off + i * 3 + 2, none⟩ = some (.int .i64 s.x) := by
        rcases hH.out.2 with h0 | h1
        · rw [h0] at hs; simp at hs
        · exact h1
      have d1 : wr.cell? ⟨b, off + (lo + hi) / 2 * 3, none⟩ = some (.int .i64 s.t) := by rw [hB.cell (p := ⟨b, off + (lo + hi) / 2 * 3, none⟩) hb]; exact (hcc _ s hs).1
      have d2 : wr.cell? ⟨b, off + (lo + hi) / 2 * 3 + 1, none⟩ = some (.int .u8 (s.k : Int)) := by rw [hB.cell (p := ⟨b, off + (lo + hi) / 2 * 3 + 1, none⟩) hb]; exact (hcc _ s hs).2.1
      have d3 : wr.cell? ⟨b, off + (lo + hi) / 2 * 3 + 2, none⟩ = some (.int .i64 s.x) := by rw [hB.cell (p := ⟨b, off + (lo + hi) / 2 * 3 + 2, none⟩) hb]; exact (hcc _ s hs).2.2
      clear hcc hs
      have hC' := hC.out s wr
      obtain ⟨r, hr⟩ : ∃ r, r = cmpI s.t t := ⟨_, rfl⟩
      have hr0 : Hid (r = cmpI s.t t) := hr
      rw [← hr] at hC'
      have hC2 : Hid _ := hC'
      clear hr hC'
      by_cases hneg : r < 0
      · go_wp2_with (refine Calls.mono hC2.out ?_; rintro e w' ⟨rfl, hB2⟩)
        go_round
        case measure => simp only [intOf]; omega
        case rel =>
          have hst : s.t < t := (cmpI_neg _ _).1 (hr0.out ▸ hneg)
          refine ⟨(lo + hi) / 2 + 1, hi, by omega, by omega, by simp, rfl, hB.trans (hB2.mono hB.size), ⟨fun k s' hk hs' => ?_, I.out.2⟩⟩
          rcases Nat.lt_or_ge k ((lo + hi) / 2) with hlt' | hge
          · have := hR.out.lt hlt' hs' hS.out; omega
          · obtain rfl : k = (lo + hi) / 2 := by omega
            rw [hS.out] at hs'; cases hs'; exact hst
      · go_wp2_with (refine Calls.mono hC2.out ?_; rintro e w' ⟨rfl, hB2⟩)
        go_round
        case measure => simp only [intOf]; omega
        case rel =>
          have hst : t ≤ s.t := by
            rcases Int.lt_or_le s.t t with hh | hh
            · have := (cmpI_neg _ _).2 hh; rw [← hr0.out] at this; omega
            · exact hh
          refine ⟨lo, (lo + hi) / 2, by omega, by omega, rfl, by simp, hB.trans (hB2.mono hB.size), ⟨I.out.1, fun k s' hk hs' => ?_⟩⟩
          rcases Nat.lt_or_ge ((lo + hi) / 2) k with hlt' | hge
          · have := hR.out.lt hlt' hS.out hs'; omega
          · obtain rfl : k = (lo + hi) / 2 := by omega
            rw [hS.out] at hs'; cases hs'; exact hst
    · obtain rfl : lo = hi := by omega
      have hA : Hid (ahd l t = lo) := ahd_of t l lo (by have := hN.out; omega) I.out.1 (fun k s hk hs => by have := I.out.2 k s hk hs; omega)
      rcases Nat.lt_or_ge lo n with hln | hln
      · obtain ⟨s, hs⟩ : ∃ s, l[lo]? = some s := ⟨_, List.getElem?_eq_getElem (by have := hN.out; omega)⟩
        have hS : Hid (l[lo]? = some s) := hs
        obtain ⟨b, off, rfl, hb, hcc⟩ : ∃ b off, a = some ⟨b, off, none⟩ ∧ b < w.heap.size ∧ ∀ i s, l[i]? = some s → w.cell? ⟨b, off + i * 3, none⟩ = some (.int .i64 s.t) ∧ w.cell? ⟨b, off + i * 3 + 1, none⟩ = some (.int .u8 (s.k : Int)) ∧ w.cell? ⟨b, off + i * 3 + 2, none⟩ = some (.int .i64 s.x) := by
          rcases hH.out.2 with h0 | h1
          · rw [h0] at hs; simp at hs
          · exact h1
        have d1 : wr.cell? ⟨b, off + lo * 3, none⟩ = some (.int .i64 s.t) := by rw [hB.cell (p := ⟨b, off + lo * 3, none⟩) hb]; exact (hcc _ s hs).1
        have d2 : wr.cell? ⟨b, off + lo * 3 + 1, none⟩ = some (.int .u8 (s.k : Int)) := by rw [hB.cell (p := ⟨b, off + lo * 3 + 1, none⟩) hb]; exact (hcc _ s hs).2.1
        have d3 : wr.cell? ⟨b, off + lo * 3 + 2, none⟩ = some (.int .i64 s.x) := by rw [hB.cell (p := ⟨b, off + lo * 3 + 2, none⟩) hb]; exact (hcc _ s hs).2.2
        clear hcc hs
        have hlnI : (lo : Int) < (n : Int) := by omega
        have hl0 : (0 : Int) ≤ (lo : Int) := by omega
        have hC' := hC.out s wr
        obtain ⟨r, hr⟩ : ∃ r, r = cmpI s.t t := ⟨_, rfl⟩
        have hr0 : Hid (r = cmpI s.t t) := hr
        rw [← hr] at hC'
        have hC2 : Hid _ := hC'
        clear hr hC'
        have hfin : Hid (hasT l t = decide (r = 0)) := by
          show hasT l t = decide (r = 0)
          rw [Bool.eq_iff_iff, hasT_iff hR.out, hA.out, decide_eq_true_iff, hr0.out, cmpI_zero]
          constructor
          · rintro ⟨s', h1, h2⟩; rw [hS.out] at h1; cases h1; exact h2
          · intro h; exact ⟨s, hS.out, h⟩
        by_cases h0 : r = 0
        · subst h0
          go_wp2_with (refine Calls.mono hC2.out ?_; rintro e w' ⟨rfl, hB2⟩)
          first | go_ret2 | go_ret
          exact ⟨by rw [hA.out, hfin.out]; simp, hB.trans (hB2.mono hB.size)⟩
        · go_wp2_with (refine Calls.mono hC2.out ?_; rintro e w' ⟨rfl, hB2⟩)
          first | go_ret2 | go_ret
          exact ⟨by rw [hA.out, hfin.out]; simp [h0], hB.trans (hB2.mono hB.size)⟩
      · have hlnI : ¬ (lo : Int) < (n : Int) := by omega
        have hfin : Hid (hasT l t = false) := by
          show hasT l t = false
          rw [Bool.eq_false_iff]
          intro h
          obtain ⟨s', h1, h2⟩ := (hasT_iff hR.out t).1 h
          rw [hA.out] at h1
          have := (List.getElem?_eq_some_iff.1 h1).1
          have := hN.out; omega
        go_wp2_with fail
        first | go_ret2 | go_ret
        exact ⟨by rw [hA.out, hfin.out]; simp; try omega, hB⟩
/-- a row of samples that is one's own, or the empty rest of one. -/
def OR (w : World) (B : Nat) (v : Value) (l : List Smp) : Prop := w.ownsRow B 89 3 v l.length (encL l) ∨ (l = [] ∧ ∃ g, v = .slice (some ⟨g, 0, none⟩) 0 0 ∧ B ≤ g ∧ g < w.heap.size)
theorem OR.lin {w : World} {B : Nat} {v : Value} {l : List Smp} (h : OR w B v l) (hk : ∀ s ∈ l, s.ok) : ∃ a cap, v = .slice a l.length cap ∧ l.length ≤ cap ∧ LIn w a l := by
  rcases h with h | ⟨rfl, g, rfl, _⟩
  · rcases h.2 with ⟨e, e0⟩ | ⟨g, cap, cur, e1, _, hg, hc, _⟩
    · exact ⟨none, 0, by rw [e, e0], by omega, hk, Or.inl (List.eq_nil_of_length_eq_zero e0)⟩
    · subst e1
      have hcs := h.cells (g := g) rfl
      refine ⟨some ⟨g, 0, none⟩, cap, rfl, hc, hk, Or.inr ⟨g, 0, rfl, (h.lt g rfl).2, fun i s hs => ?_⟩⟩
      obtain ⟨e1, e2, e3⟩ := encL_get l i s hs
      have k1 := hcs _ _ e1
      have k2 := hcs _ _ e2
      have k3 := hcs _ _ e3
      rw [smp_add, Nat.zero_add] at k1 k2 k3
      rw [Nat.zero_add]
      exact ⟨k1, k2, k3⟩
  · exact ⟨_, 0, rfl, by simp, hk, Or.inl rfl⟩
theorem OR.keep {w w' : World} {B : Nat} {v : Value} {l : List Smp} (h : OR w B v l) (hsz : w.heap.size ≤ w'.heap.size) (hk : ∀ g, v.ownBlock = some g → w'.heap[g]? = w.heap[g]?) : OR w' B v l := by
  rcases h with h | h
  · refine Or.inl ⟨h.1, ?_⟩
    rcases h.2 with h2 | ⟨g, cap, cur, e1, e2, e3, e4⟩
    · exact Or.inl h2
    · exact Or.inr ⟨g, cap, cur, e1, e2, by rw [hk g (by rw [e1]; rfl)]; exact e3, e4⟩
  · obtain ⟨h1, g, h2, h3, h4⟩ := h
    exact Or.inr ⟨h1, g, h2, h3, Nat.lt_of_lt_of_le h4 hsz⟩
theorem OR.below {w w' : World} {B C : Nat} {v : Value} {l : List Smp} (h : OR w B v l) (hb : Below C w w') (hC : w.heap.size ≤ C) : OR w' B v l := by
  rcases h with h | h
  · refine Or.inl ⟨h.1, ?_⟩
    rcases h.2 with h2 | ⟨g, cap, cur, e1, e2, e3, e4⟩
    · exact Or.inl h2
    · exact Or.inr ⟨g, cap, cur, e1, e2, by rw [hb.block g (by have := (Array.getElem?_eq_some_iff.1 e3).1; omega)]; exact e3, e4⟩
  · obtain ⟨h1, g, h2, h3, h4⟩ := h
    exact Or.inr ⟨h1, g, h2, h3, Nat.lt_of_lt_of_le h4 hb.size⟩
/-- a Series at block N. -/
structure SS (N B : Nat) (v : Value) (l : List Smp) (w : World) : Prop where
  c0 : w.cell? ⟨N, 0, none⟩ = some v
  f0 : w.frozen? ⟨N, 0, none⟩ = false
  row : OR w B v l
  ne : v.ownBlock ≠ some N
  hN : N < w.heap.size
  hB : B ≤ N
  hk : ∀ s ∈ l, s.ok
  hr : Rise l
  hn : l.length ≤ 2199023255552
theorem frozen_block {w w' : World} {N o : Nat} (h : w'.heap[N]? = w.heap[N]?) : w'.frozen? ⟨N, o, none⟩ = w.frozen? ⟨N, o, none⟩ := by
  simp [World.frozen?, h]
theorem SS.below {N B : Nat} {v : Value} {l : List Smp} {w w' : World} (h : SS N B v l w) (hb : Below w.heap.size w w') : SS N B v l w' :=
  ⟨by rw [hb.cell (p := ⟨N, 0, none⟩) h.hN]; exact h.c0, by rw [frozen_block (hb.block N h.hN)]; exact h.f0, h.row.below hb (Nat.le_refl _), h.ne, Nat.lt_of_lt_of_le h.hN hb.size, h.hB, h.hk, h.hr, h.hn⟩
set_option maxRecDepth 100000 in
set_option maxHeartbeats 4000000 in
theorem find_any (N B : Nat) (v : Value) (l : List Smp) (t : Int) (w : World) (h : SS N B v l w) : Calls Tryz.prog 28 #[.pointer (some ⟨N, 0, none⟩), .int .i64 t] w fun e w' => e = .returned (.tuple #[.int .i64 (ahd l t : Int), .bool (hasT l t)]) ∧ Below w.heap.size w w' := by
  obtain ⟨a, cap, rfl, hcap, hL⟩ := h.row.lin h.hk
  have hb : Hid _ := bsf_any a cap l t w hL h.hr (by have := h.hn; omega)
  have c0 := h.c0
  clear h hL hcap
  generalize ahd l t = p at hb ⊢
  generalize hasT l t = q at hb ⊢
  generalize l.length = n at hb c0
  go_enter Tryz.func28, Tryz.ntmps28
  go_wp2_with (refine Calls.mono hb.out ?_; rintro e w' ⟨rfl, hB⟩)
  first | go_ret2 | go_ret
  exact ⟨rfl, hB⟩
end Go.Proofs.YticgapplpfaigaaGreat
