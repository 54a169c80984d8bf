
import Derived.Test.YticgapplpfaigaaGreatDrC
namespace Go.Proofs.YticgapplpfaigaaGreat
open Go.RowKit
set_option linter.unusedVariables false
set_option linter.unusedSimpArgs false
def inR (f t : Int) (s : Smp) : Bool := decide (f ≤ s.t) && decide (s.t < t)
theorem filt_snoc {l : List Smp} {k : Nat} {s : Smp} (p : Smp → Bool) (h : l[k]? = some s) : (l.take (k + 1)).filter p = (l.take k).filter p ++ (if p s = true then [s] else []) := by
  obtain ⟨h1, h2⟩ := List.getElem?_eq_some_iff.1 h
  rw [List.take_succ_eq_append_getElem h1, h2, List.filter_append]
  congr 1
  rw [List.filter_cons, List.filter_nil]
theorem filt_range {l : List Smp} (h : Rise l) (f t : Int) : l.filter (inR f t) = rangeL l f t := by
  refine rise_eq (List.Pairwise.sublist (List.filter_sublist) h) (rangeL_rise h f t) (fun x => ?_)
  rw [List.mem_filter, rangeL_mem h]
  simp [inR]
set_option maxRecDepth 100000 in
set_option maxHeartbeats 4000000 in
theorem rrange_or (N B : Nat) (v : Value) (l : List Smp) (w : World) (h : SS N B v l w) (f t : Int) :
    Calls Tryz.prog 23 #[.pointer (some ⟨N, 0, none⟩), .int .i64 f, .int .i64 t] w fun e w' => ∃ v', e = .returned v' ∧ OR w' w.heap.size v' (rangeL l f t) ∧ Below w.heap.size w w' := by
  obtain ⟨a, cap, rfl, hcap, hL⟩ := h.row.lin h.hk
  have c0 := h.c0
  have hN := h.hN
  have hn := h.hn
  have hLH : Hid (LIn w a l) := hL
  have hfr : Hid (l.filter (inR f t) = rangeL l f t) := filt_range h.hr f t
  clear h hL hcap
  obtain ⟨n, hnl⟩ : ∃ n, n = l.length := ⟨_, rfl⟩
  have hnH : Hid (n = l.length) := hnl
  rw [← hnl] at hn c0
  clear hnl
  go_enter Tryz.func23, Tryz.ntmps23
  go_wp2_with fail
  have hstart : Hid (OR w w.heap.size (.slice none 0 0) ((l.take 0).filter (inR f t))) := Or.inl (by simpa [encL] using World.ownsRow_nil w w.heap.size 89 3)
  go_loopw [7, 8] (fun o i wr => ∃ (k : Nat) (vo : Value), k ≤ n ∧ i = .int .i64 (k : Int) ∧ o = vo ∧ Hid (OR wr w.heap.size vo ((l.take k).filter (inR f t)) ∧ Below w.heap.size w wr)) (fun _ i _ => n - (intOf i).toNat)
  case atStart => exact ⟨0, .slice none 0 0, by omega, rfl, rfl, hstart.out, Below.refl _ _⟩
  case round =>
    obtain ⟨k, vo, hk, rfl, hvo, hrr⟩ := hrel
    obtain rfl := hvo.symm
    clear hstart
    have hB := hrr.out.2
    have c0' := (hB.cell (p := ⟨N, 0, none⟩) hN).trans c0
    by_cases hkn : k < n
    · have hkI : (k : Int) < (n : Int) := by omega
      have k1 : (0 : Int) ≤ (k : Int) := by omega
      obtain ⟨b, off, s, rfl, hb, hs, d1, d2, d3⟩ := LIn.at hLH.out hB (by have := hnH.out; omega : k < l.length)
      have hsok : s.ok := hLH.out.1 s (List.mem_of_getElem? hs)
      have hfs := filt_snoc (inR f t) hs
      by_cases hp : f ≤ s.t ∧ s.t < t
      · have hps : inR f t s = true := by simp [inR, hp]
        rw [hps, if_pos rfl] at hfs
        have hk2 : ∀ y ∈ (l.take k).filter (inR f t), y.ok := fun y hy => hLH.out.1 y (List.mem_of_mem_take (List.mem_filter.1 hy).1)
        have hlen : ((l.take k).filter (inR f t)).length ≤ k := by
          have := List.length_filter_le (inR f t) (l.take k)
          rw [List.length_take] at this; omega
        obtain ⟨v4, w4, hr4, hO4, hB4, _⟩ := app_gen (wr.alloc (.cells #[.int .i64 s.t, .int .u8 (s.k : Int), .int .i64 s.x] 89)) w.heap.size vo _ [s] (hrr.out.1.below ((Below.refl _ wr).alloc (Nat.le_refl _) _) (Nat.le_refl _)) (by have := hB.size; simp; omega) (some ⟨wr.heap.size, 0, none⟩) 1 hk2 (lin_one wr s hsok) (by simp; omega)
        rw [← hfs] at hO4
        have hr4H : Hid (∀ W, W = wr.alloc (.cells #[.int .i64 s.t, .int .u8 (s.k : Int), .int .i64 s.x] 89) → (Builtin.append_ #[62, 62] 62 #[vo, .slice (some ⟨wr.heap.size, 0, none⟩) 1 1]).run Tryz.prog W = .ok v4 w4) := fun W e => by rw [e]; exact hr4
        have hnx : Hid (OR w4 w.heap.size v4 ((l.take (k + 1)).filter (inR f t)) ∧ Below w.heap.size w w4) := ⟨hO4, (hB.alloc hB.size _).trans hB4⟩
        obtain ⟨hp1, hp2⟩ := hp
        clear hr4 hO4 hB4 hfs hs hps hk2 hlen hB hsok hrr
        go_wp2_with (at_builtin; refine wpList_append_run (by rfl) _ _ _ (by rfl) _ _ _ _ (by rfl) (by rfl) (hr4H.out _ rfl) ?_)
        exact ⟨⟨k + 1, v4, by omega, by go_num, rfl, hnx.out⟩, by simp [intOf]; omega⟩
      · have hps : inR f t s = false := by
          cases e : inR f t s with
          | false => rfl
          | true => simp [inR] at e; exact absurd e hp
        rw [hps, if_neg (by simp), List.append_nil] at hfs
        have hnx : Hid (OR wr w.heap.size vo ((l.take (k + 1)).filter (inR f t)) ∧ Below w.heap.size w wr) := by
          rw [hfs]; exact hrr.out
        clear hfs hs hps hB hsok hrr
        by_cases hp1 : f ≤ s.t
        · have hp2 : ¬ s.t < t := fun e => hp ⟨hp1, e⟩
          clear hp
          go_wp2_with fail
          exact ⟨⟨k + 1, vo, by omega, by go_num, rfl, hnx.out⟩, by simp [intOf]; omega⟩
        · clear hp
          go_wp2_with fail
          exact ⟨⟨k + 1, vo, by omega, by go_num, rfl, hnx.out⟩, by simp [intOf]; omega⟩
    · obtain rfl : k = n := by omega
      have hend : Hid (OR wr w.heap.size vo (rangeL l f t) ∧ Below w.heap.size w wr) := by
        have := hrr.out
        rw [hnH.out, List.take_length, hfr.out] at this
        exact this
      clear hrr hB
      go_wp2_with fail
      go_ret
      exact ⟨vo, rfl, hend.out⟩
/-- what Range tells, as a row that is there. -/
theorem rrange_lin (N B : Nat) (v : Value) (l : List Smp) (w : World) (h : SS N B v l w) (f t : Int) : Calls Tryz.prog 23 #[.pointer (some ⟨N, 0, none⟩), .int .i64 f, .int .i64 t] w fun e w' => ∃ a c, e = .returned (.slice a (rangeL l f t).length c) ∧ LIn w' a (rangeL l f t) ∧ Below w.heap.size w w' := by
  refine Calls.mono (rrange_or N B v l w h f t) ?_
  rintro e w' ⟨v', rfl, own, hB⟩
  obtain ⟨a, c, rfl, _, hL⟩ := own.lin (fun s hs => h.hk s ((rangeL_mem h.hr f t s).1 hs).1)
  exact ⟨a, c, rfl, hL, hB⟩
end Go.Proofs.YticgapplpfaigaaGreat
