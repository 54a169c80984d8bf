
import Derived.Test.YticgapplpfaigaaGreatDrE
namespace Go.Proofs.YticgapplpfaigaaGreat
open Go.RowKit
set_option linter.unusedVariables false
set_option linter.unusedSimpArgs false
set_option maxRecDepth 100000 in
set_option maxHeartbeats 4000000 in
theorem rfork_any (N B : Nat) (v : Value) (l : List Smp) (w : World) (h : SS N B v l w) :
    Calls Tryz.prog 31 #[.pointer (some ⟨N, 0, none⟩)] w fun e w' => ∃ M v', e = .returned (.pointer (some ⟨M, 0, none⟩)) ∧ SS M w.heap.size v' l w' ∧ (∀ g, v'.ownBlock = some g → w.heap.size ≤ g) ∧ Below w.heap.size w w' := by
  obtain ⟨a, cap, rfl, hcap, hL⟩ := h.row.lin h.hk
  have hN := h.hN
  have hn := h.hn
  have hH : Hid (SS N B (.slice a l.length cap) l w) := h
  have c0 := h.c0
  clear h
  have hB0 : Below w.heap.size w (w.alloc (.cells #[] 89)) := (Below.refl _ w).alloc (Nat.le_refl _) _
  obtain ⟨v3, w3, hr3, hO3, hB3, _⟩ := app_gen (w.alloc (.cells #[] 89)) w.heap.size (.slice (some ⟨w.heap.size, 0, none⟩) 0 0) [] l (Or.inr ⟨rfl, _, rfl, Nat.le_refl _, by simp⟩) (by simp) a cap (by simp) (hL.below hB0 (Nat.le_refl _)) (by simp; omega)
  rw [List.nil_append] at hO3
  have hO3H : Hid (OR w3 w.heap.size v3 l) := hO3
  have hB03 : Below w.heap.size w w3 := hB0.trans hB3
  obtain ⟨a3, c3, e3, _⟩ := hO3.lin hH.out.hk
  obtain ⟨n, hnl⟩ : ∃ n, n = l.length := ⟨_, rfl⟩
  have hnH : Hid (n = l.length) := hnl
  rw [← hnl] at c0 hn hr3 e3
  have e3H : Hid (v3 = .slice a3 n c3) := e3
  rw [e3] at hr3
  have hr3H : Hid (∀ W, W = w.alloc (.cells #[] 89) → (Builtin.append_ #[62, 62] 62 #[.slice (some ⟨w.heap.size, 0, none⟩) 0 0, .slice a n cap]).run Tryz.prog W = .ok (.slice a3 n c3) w3) := fun W e => by rw [e]; exact hr3
  have hfin : Hid (∀ M W, M = w3.heap.size → W = w3.alloc (.cells #[.slice a3 n c3] 84) → SS M w.heap.size (.slice a3 n c3) l W ∧ (∀ g, (Value.slice a3 n c3).ownBlock = some g → w.heap.size ≤ g) ∧ Below w.heap.size w W) := by
    rintro M W rfl rfl
    have hO := hO3H.out
    rw [e3H.out] at hO
    exact ⟨⟨by simp [go_sem], frozen_new _ _ _ _, hO.below ((Below.refl _ w3).alloc (Nat.le_refl _) _) (Nat.le_refl _), fun e => by have := hO.lt e; omega, by simp, hB03.size, hH.out.hk, hH.out.hr, by have := hH.out.hn; omega⟩, fun g e => hO.bound e, hB03.alloc hB03.size _⟩
  have c0' := (hB0.cell (p := ⟨N, 0, none⟩) hN).trans c0
  clear hr3 hO3 hB3 hL hnl e3 hB0
  go_enter Tryz.func31, Tryz.ntmps31
  go_wp2_with (at_builtin; refine wpList_append_run (by rfl) _ _ _ (by rfl) _ _ _ _ (by rfl) (by rfl) (hr3H.out _ rfl) ?_)
  go_ret
  exact ⟨_, _, rfl, hfin.out _ _ rfl rfl⟩
/-- samples put one by one. -/
def putAll (l L : List Smp) : List Smp := L.foldl putL l
theorem putAll_next (l : List Smp) {L : List Smp} {k : Nat} {s : Smp} (h : L[k]? = some s) : putAll l (L.take (k + 1)) = putL (putAll l (L.take k)) s := by
  obtain ⟨h1, h2⟩ := List.getElem?_eq_some_iff.1 h
  rw [List.take_succ_eq_append_getElem h1, h2]
  unfold putAll
  rw [List.foldl_append]; rfl
theorem putAll_spec {l : List Smp} (hl : Rise l) (L : List Smp) : ∀ k, k ≤ L.length → Rise (putAll l (L.take k)) ∧ (putAll l (L.take k)).length ≤ l.length + k ∧ ∀ x, x ∈ putAll l (L.take k) ↔ (x ∈ l ∧ valOf (L.take k) x.t = none) ∨ valOf (L.take k) x.t = some (x.k, x.x)
  | 0, _ => by
    refine ⟨hl, by simp [putAll], fun x => ?_⟩
    simp [putAll, valOf]
  | k + 1, hk => by
    obtain ⟨h1, h2, h3⟩ := putAll_spec hl L k (by omega)
    have hs : L[k]? = some L[k] := List.getElem?_eq_getElem (by omega)
    rw [putAll_next l hs]
    refine ⟨putL_rise h1 _, by have := putL_len (l := putAll l (L.take k)) L[k]; omega, fun x => ?_⟩
    rw [putL_mem h1, h3, List.take_succ_eq_append_getElem (by omega), valOf_snoc]
    by_cases e : L[k].t = x.t
    · rw [if_pos e]
      constructor
      · rintro (e2 | ⟨_, e2⟩)
        · right; rw [e2]
        · exact absurd e.symm e2
      · rintro (⟨_, e2⟩ | e2)
        · cases e2
        · left
          injection e2 with e2
          injection e2 with e3 e4
          obtain ⟨xt, xk, xx⟩ := x
          simp only at e e3 e4
          rw [← e, ← e3, ← e4]
    · rw [if_neg e]
      constructor
      · rintro (e2 | ⟨e2, _⟩)
        · rw [e2] at e; exact absurd rfl e
        · exact e2
      · intro e2
        exact Or.inr ⟨e2, fun e3 => e e3.symm⟩
theorem putAll_load {l L : List Smp} (hl : Rise l) {K : List Int} (hK : K.Pairwise (· < ·)) (hm : ∀ t, t ∈ K ↔ (valOf L t).isSome = true) : putAll l L = loadL (fun t => (valOf L t).getD (0, 0)) l K := by
  have h := putAll_spec hl L L.length (Nat.le_refl _)
  rw [List.take_length] at h
  refine rise_eq h.1 (loadL_rise _ hl hK) (fun x => ?_)
  rw [h.2.2, loadL_mem _ hl, hm]
  cases hv : valOf L x.t with
  | none => simp
  | some p =>
    simp
    constructor
    · intro e; rw [e]
    · intro e; rw [e]
def isR (l : List Smp) (x : Smp) : Bool := !hasT l x.t || decide (getV l x.t ≠ (x.k, x.x))
def toD (l : List Smp) (x : Smp) : Dlt := ⟨x.t, hasT l x.t, (getV l x.t).1, (getV l x.t).2, x.k, x.x⟩
def rdl (l X : List Smp) : List Dlt := (X.filter (isR l)).map (toD l)
theorem rdl_next (l : List Smp) {X : List Smp} {k : Nat} {s : Smp} (h : X[k]? = some s) : rdl l (X.take (k + 1)) = rdl l (X.take k) ++ (if isR l s = true then [toD l s] else []) := by
  unfold rdl
  rw [filt_snoc (isR l) h, List.map_append]
  congr 1
  split <;> simp
theorem rdl_len (l X : List Smp) : (rdl l X).length ≤ X.length := by
  unfold rdl; rw [List.length_map]; exact List.length_filter_le _ _
theorem rdl_load {l : List Smp} (hl : Rise l) (nv : Int → Nat × Int) {K : List Int} (hK : K.Pairwise (· < ·)) : rdl l (loadL nv l K) = dlL nv l K := by
  have e : (loadL nv l K).filter (isR l) = (K.filter (isD nv l)).map (fun t => ⟨t, (nv t).1, (nv t).2⟩) := by
    refine rise_eq (List.Pairwise.sublist List.filter_sublist (loadL_rise nv hl hK)) ?_ (fun x => ?_)
    · unfold Rise
      rw [List.pairwise_map]
      exact List.Pairwise.sublist List.filter_sublist hK
    · rw [List.mem_filter, loadL_mem nv hl, List.mem_map]
      constructor
      · rintro ⟨⟨e1, e2⟩ | ⟨e1, e2⟩, e3⟩
        · have h1 : hasT l x.t = true := hasT_mem.2 ⟨x, e1, rfl⟩
          have h2 := getV_mem hl e1
          unfold isR at e3
          rw [h1, h2] at e3
          simp at e3
        · refine ⟨x.t, List.mem_filter.2 ⟨e1, ?_⟩, e2.symm⟩
          unfold isR at e3
          unfold isD
          have h1 : (x.k, x.x) = nv x.t := by rw [e2]
          rw [h1] at e3
          exact e3
      · rintro ⟨t, ht, rfl⟩
        obtain ⟨h1, h2⟩ := List.mem_filter.1 ht
        exact ⟨Or.inr ⟨h1, rfl⟩, h2⟩
  unfold rdl dlL
  rw [e, List.map_map]
  rfl
/-- while samples are put. -/
structure PutS (N B M : Nat) (v vW : Value) (l L : List Smp) (w wr : World) (vk : Value) (k : Nat) : Prop where
  s : SS N B vk (putAll l (L.take k)) wr
  f : RFr N v vk w wr
  ws : SS M w.heap.size vW l wr
  n1 : vk.ownBlock ≠ some M
  n2 : ∀ g, vW.ownBlock = some g → vk.ownBlock ≠ some g
theorem PutS.next {N B M : Nat} {v vW vk v' : Value} {l L : List Smp} {w wr w' : World} {k : Nat} (h : PutS N B M v vW l L w wr vk k) (hN : N < w.heap.size) {s : Smp} (hs : L[k]? = some s) (h1 : SS N B v' (putL (putAll l (L.take k)) s) w') (h2 : RFr N vk v' wr w') : PutS N B M v vW l L w w' v' (k + 1) := by
  have hM := h.ws.hN
  have hMB := h.ws.hB
  refine ⟨by rw [putAll_next l hs]; exact h1, h.f.trans h2, ?_, fun e => ?_, fun g e e2 => ?_⟩
  · have kM := h2.keep M hM (by omega) (fun e => h.n1 e.symm)
    refine ⟨by rw [World.cell?_of_block (w := wr) kM]; exact h.ws.c0, by rw [frozen_block kM]; exact h.ws.f0, h.ws.row.keep h2.b.size (fun g e => h2.keep g (h.ws.row.lt e) (by have := h.ws.row.bound e; omega) (fun e2 => h.n2 g e e2.symm)), h.ws.ne, Nat.lt_of_lt_of_le hM h2.b.size, hMB, h.ws.hk, h.ws.hr, h.ws.hn⟩
  · rcases h2.own M e with e3 | e3
    · exact h.n1 e3
    · omega
  · rcases h2.own g e2 with e3 | e3
    · exact h.n2 g e e3
    · have := h.ws.row.lt e; omega
end Go.Proofs.YticgapplpfaigaaGreat
