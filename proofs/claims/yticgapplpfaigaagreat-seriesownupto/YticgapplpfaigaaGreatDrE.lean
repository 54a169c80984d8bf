
import Derived.Test.YticgapplpfaigaaGreatDrD
namespace Go.Proofs.YticgapplpfaigaaGreat
open Go.RowKit
set_option linter.unusedVariables false
set_option linter.unusedSimpArgs false
/-- what is left when the first ones of R are cut. -/
def cutN (l R : List Smp) (k : Nat) : List Smp := l.filter (fun x => !((R.take k).any (fun y => decide (y.t = x.t))))
theorem cutN_mem (l R : List Smp) (k : Nat) (x : Smp) : x ∈ cutN l R k ↔ x ∈ l ∧ ∀ y ∈ R.take k, y.t ≠ x.t := by
  unfold cutN
  rw [List.mem_filter]
  simp
theorem cutN_rise {l : List Smp} (h : Rise l) (R : List Smp) (k : Nat) : Rise (cutN l R k) := List.Pairwise.sublist List.filter_sublist h
theorem cutN_zero (l R : List Smp) : cutN l R 0 = l := by unfold cutN; simp
theorem cutN_next {l R : List Smp} (h : Rise l) {k : Nat} {s : Smp} (hs : R[k]? = some s) : cutL (cutN l R k) s.t = cutN l R (k + 1) := by
  refine rise_eq (cutL_rise (cutN_rise h R k) s.t) (cutN_rise h R (k + 1)) (fun x => ?_)
  rw [cutL_mem (cutN_rise h R k), cutN_mem, cutN_mem]
  obtain ⟨h1, h2⟩ := List.getElem?_eq_some_iff.1 hs
  rw [List.take_succ_eq_append_getElem h1, h2]
  constructor
  · rintro ⟨⟨e1, e2⟩, e3⟩
    refine ⟨e1, fun y hy => ?_⟩
    rcases List.mem_append.1 hy with e | e
    · exact e2 y e
    · simp at e; rw [e]; exact fun e4 => e3 e4.symm
  · rintro ⟨e1, e2⟩
    exact ⟨⟨e1, fun y hy => e2 y (List.mem_append.2 (Or.inl hy))⟩, fun e => e2 s (by simp) e.symm⟩
theorem cutN_all {l : List Smp} (h : Rise l) (f t : Int) : cutN l (rangeL l f t) (rangeL l f t).length = delL l f t := by
  have hd : Rise (delL l f t) := List.Pairwise.sublist (cut_sub l _ _ (Nat.le_max_left _ _)) h
  refine rise_eq (cutN_rise h _ _) hd (fun x => ?_)
  rw [cutN_mem, delL_mem h, List.take_length]
  constructor
  · rintro ⟨e1, e2⟩
    exact ⟨e1, fun e3 => e2 x ((rangeL_mem h f t x).2 ⟨e1, e3⟩) rfl⟩
  · rintro ⟨e1, e2⟩
    refine ⟨e1, fun y hy e3 => ?_⟩
    have := (rangeL_mem h f t y).1 hy
    have e4 := h.inj this.1 e1 e3
    rw [e4] at this
    exact e2 this.2
theorem cutN_len (l R : List Smp) (k : Nat) : (cutN l R k).length ≤ l.length := List.length_filter_le _ _
/-- while a range is deleted. -/
structure DelS (N B : Nat) (v vr : Value) (l R : List Smp) (w wr : World) (vk : Value) (k : Nat) : Prop where
  s : SS N B vk (cutN l R k) wr
  f : RFr N v vk w wr
  r : OR wr w.heap.size vr R
  ne : ∀ g, vr.ownBlock = some g → vk.ownBlock ≠ some g
theorem DelS.next {N B : Nat} {v vr : Value} {l R : List Smp} {w wr w' : World} {vk v' : Value} {k : Nat} (h : DelS N B v vr l R w wr vk k) (hr : Rise l) (hN : N < w.heap.size) {s : Smp} (hs : R[k]? = some s) (h1 : SS N B v' (cutL (cutN l R k) s.t) w') (h2 : RFr N vk v' wr w') : DelS N B v vr l R w w' v' (k + 1) := by
  rw [cutN_next hr hs] at h1
  refine ⟨h1, h.f.trans h2, h.r.keep h2.b.size (fun g e => h2.keep g (h.r.lt e) (by have := h.r.bound e; omega) (fun e2 => h.ne g e e2.symm)), fun g e e2 => ?_⟩
  rcases h2.own g e2 with e3 | e3
  · exact h.ne g e e3
  · have := h.r.lt e; omega
set_option maxRecDepth 100000 in
set_option maxHeartbeats 4000000 in
theorem rdelete_any (N B : Nat) (v : Value) (l : List Smp) (w : World) (h : SS N B v l w) (f t : Int) :
    Calls Tryz.prog 9 #[.pointer (some ⟨N, 0, none⟩), .int .i64 f, .int .i64 t] w fun e w' => ∃ r v', e = .returned r ∧ OR w' w.heap.size r (rangeL l f t) ∧ SS N B v' (delL l f t) w' ∧ RFr N v v' w w' := by
  have hR : Hid _ := rrange_or N B v l w h f t
  have hH : Hid (SS N B v l w) := h
  have hNw := h.hN
  have hn := h.hn
  have hrl := rangeL_len l f t
  have hall : Hid (cutN l (rangeL l f t) (rangeL l f t).length = delL l f t) := cutN_all h.hr f t
  have hok : Hid (∀ s ∈ rangeL l f t, s.ok) := fun s hs => h.hk s ((rangeL_mem h.hr f t s).1 hs).1
  clear h
  generalize rangeL l f t = R at *
  generalize delL l f t = D at *
  go_enter Tryz.func9, Tryz.ntmps9
  go_wp2_with fail
  refine Calls.mono hR.out ?_
  rintro e w1 ⟨vr, rfl, hO1, hB1⟩
  obtain ⟨ra, rc, hvr, hrc, hL1⟩ := hO1.lin hok.out
  have h0 : Hid (DelS N B v vr l R w w1 v 0) := ⟨by rw [cutN_zero]; exact hH.out.below hB1, RFr.of hB1, hO1, fun g e e2 => by have := hO1.bound e; have := hH.out.row.lt e2; omega⟩
  obtain ⟨m, hm⟩ : ∃ m, m = R.length := ⟨_, rfl⟩
  have hmH : Hid (m = R.length) := hm
  rw [← hm] at hvr hrl hrc
  have hvH : Hid (vr = .slice ra m rc) := hvr
  rw [hvr]
  clear hR hO1 hB1 hL1 hm hvr
  go_wp2_with fail
  go_loopw [8] (fun i wr => ∃ (k : Nat) (vk : Value), k ≤ m ∧ i = .int .i64 (k : Int) ∧ Hid (DelS N B v vr l R w wr vk k)) (fun i _ => m - (intOf i).toNat)
  case atStart => exact ⟨0, v, by omega, rfl, h0.out⟩
  case round =>
    obtain ⟨k, vk, hk, rfl, hD⟩ := hrel
    clear h0
    by_cases hkm : k < m
    · have hkI : (k : Int) < (m : Int) := by omega
      have k1 : (0 : Int) ≤ (k : Int) := by omega
      have hLr : LIn wr ra R := by
        obtain ⟨a2, c2, e2, _, hL2⟩ := hD.out.r.lin hok.out
        have := hvH.out.symm.trans e2
        injection this with e3 e4 e5
        rw [e3]; exact hL2
      obtain ⟨b, off, s, rfl, hb, hs, d1, d2, d3⟩ := LIn.at hLr (Below.refl _ _) (by have := hmH.out; omega : k < R.length)
      have hsH : Hid (R[k]? = some s) := hs
      have hcut : Hid _ := rcut_any N B vk (cutN l R k) wr hD.out.s s.t
      clear hLr hs d2 d3
      go_wp2_with fail
      refine Calls.mono hcut.out ?_
      rintro e w2 ⟨rfl, v', hS2, hF2⟩
      have hnx : Hid (DelS N B v vr l R w w2 v' (k + 1)) := hD.out.next hH.out.hr hNw hsH.out hS2 hF2
      clear hcut hS2 hF2 hD
      go_wp2_with fail
      exact ⟨⟨k + 1, v', by omega, by go_num, hnx.out⟩, by simp [intOf]; omega⟩
    · obtain rfl : k = m := by omega
      have hend : Hid (∃ v', OR wr w.heap.size (.slice ra k rc) R ∧ SS N B v' D wr ∧ RFr N v v' w wr) := ⟨vk, by rw [← hvH.out]; exact hD.out.r, by have := hD.out.s; rw [hmH.out, hall.out] at this; exact this, hD.out.f⟩
      clear hD
      go_wp2_with fail
      go_ret
      obtain ⟨v', e1, e2, e3⟩ := hend.out
      exact ⟨_, v', rfl, e1, e2, e3⟩
end Go.Proofs.YticgapplpfaigaaGreat
