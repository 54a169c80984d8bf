
import Derived.Test.YticgapplpfaigaaGreatSrG
import Derived.Lib.SliceRun
namespace Go.Proofs.YticgapplpfaigaaGreat
open Go.RowKit
set_option linter.unusedVariables false
set_option linter.unusedSimpArgs false
set_option maxRecDepth 100000 in
set_option maxHeartbeats 4000000 in
theorem between_any (N B : Nat) (v : Value) (l : List Smp) (w : World) (h : SS N B v l w) (f t : Int) :
    Calls Tryz.prog 22 #[.pointer (some ⟨N, 0, none⟩), .int .i64 f, .int .i64 t] w fun e w' => e = .returned (.tuple #[.int .i64 (ahd l f : Int), .int .i64 (Nat.max (ahd l f) (ahd l t) : Nat)]) ∧ Below w.heap.size w w' := by
  have h1 : Hid _ := find_any N B v l f w h
  have h2 : Hid (∀ W, SS N B v l W → _) := fun W hW => find_any N B v l t W hW
  have hH : Hid _ := h
  have hl1 := ahd_le l f
  have hl2 := ahd_le l t
  have hn := h.hn
  clear h
  generalize ahd l f = p at *
  generalize ahd l t = q at *
  generalize hasT l f = x at *
  generalize hasT l t = y at *
  go_enter Tryz.func22, Tryz.ntmps22
  go_wp2_with fail
  refine Calls.mono h1.out ?_
  rintro e w2 ⟨rfl, hB2⟩
  have hS2 : Hid _ := hH.out.below hB2
  go_wp2_with fail
  refine Calls.mono (h2.out _ hS2.out) ?_
  rintro e w3 ⟨rfl, hB3⟩
  have hB := hB2.trans (hB3.mono hB2.size)
  rcases Nat.lt_or_ge p q with hpq | hpq
  · have hpqI : (p : Int) < (q : Int) := by omega
    go_wp2_with fail
    first | go_ret2 | go_ret
    exact ⟨by rw [show Nat.max p q = q from Nat.max_eq_right (by omega)]; rfl, hB⟩
  · have hpqI : ¬ (p : Int) < (q : Int) := by omega
    go_wp2_with fail
    first | go_ret2 | go_ret
    exact ⟨by rw [show Nat.max p q = p from Nat.max_eq_left (by omega)]; rfl, hB⟩
theorem app_copy (W : World) (ad : Addr) (c : Nat) (l : List Smp) (hnews : ∀ j u, (encL l)[j]? = some u → W.cell? (ad.add j) = some u) (hal : ad.block < W.heap.size ∨ l = []) (hn : l.length ≤ 2199023255552) :
    ∃ v' w', (Builtin.append_ #[62, 62] 62 #[.slice (some ⟨W.heap.size, 0, none⟩) 0 0, .slice (some ad) l.length c]).run Tryz.prog (W.alloc (.cells #[] 89)) = .ok v' w' ∧ w'.ownsRow W.heap.size 89 3 v' l.length (encL l) ∧ Below W.heap.size W w' := by
  obtain ⟨i, i1, i0⟩ := Option.map_eq_some_iff.1 smp_info
  have i2 : i.zero = some (.agg #[.int .i64 0, .int .u8 0, .int .i64 0]) := congrArg (·.1) i0
  have i3 : i.bytes = 24 := congrArg (·.2.1) i0
  have i4 : i.size = 3 := congrArg (·.2.2) i0
  have hml : maxLen = 9223372036854775807 := by decide
  have hB0 := below_new (Below.refl _ W) (.cells #[] 89)
  have own0 : (W.alloc (.cells #[] 89)).ownsRow W.heap.size 89 3 (.slice (some ⟨W.heap.size, 0, none⟩) 0 0) 0 [] := by
    have := World.ownsRow_made (e := 89) (size := 3) (base := W.heap.size) W #[] 0 (by simp) (by simp [maxLen]) rfl
    simpa using this
  obtain ⟨v', w', hr, ho, hg, hnil, hat⟩ := run_append_own_at (P := Tryz.prog) (W.alloc (.cells #[] 89)) W.heap.size 62 62 89 i (.agg #[.int .i64 0, .int .u8 0, .int .i64 0]) 3 24 Tryz.underlying62 i1 i2 i4 i3 rfl (by omega) _ 0 _ own0 ad l.length c (encL l) (encL_len _) (fun j u hj => by
    rcases hal with hal | hal
    · have := hnews j u hj
      rw [hB0.cell (p := ad.add j) (by rw [show (ad.add j).block = ad.block from by unfold Addr.add; split <;> rfl]; exact hal)]; exact this
    · rw [hal] at hj; simp [encL] at hj) (encL_one _) (by omega) (by omega) (by simp)
  rw [List.nil_append, Nat.zero_add] at ho
  exact ⟨v', w', hr, ho, hB0.trans ((Below.refl _ _).grown hg (by simp) (fun k e => (own0.lt k e).1))⟩
theorem LIn.news {w : World} {ad : Addr} {l : List Smp} (h : LIn w (some ad) l) : (∀ j u, (encL l)[j]? = some u → w.cell? (ad.add j) = some u) ∧ (ad.block < w.heap.size ∨ l = []) := by
  rcases h.2 with e | ⟨b, off, e, hb, hc⟩
  · subst e; exact ⟨by simp [encL], Or.inr rfl⟩
  · cases e
    refine ⟨fun j u hj => ?_, Or.inl hb⟩
    have hj3 : j < l.length * 3 := by rw [← encL_len]; exact (List.getElem?_eq_some_iff.1 hj).1
    obtain ⟨s, hs⟩ : ∃ s, l[j / 3]? = some s := ⟨_, List.getElem?_eq_getElem (by omega)⟩
    obtain ⟨e1, e2, e3⟩ := encL_get l _ s hs
    obtain ⟨c1, c2, c3⟩ := hc _ s hs
    rw [smp_add]
    rcases (by omega : j % 3 = 0 ∨ j % 3 = 1 ∨ j % 3 = 2) with q | q | q
    · rw [show j = j / 3 * 3 by omega] at hj ⊢
      rw [e1] at hj
      rw [c1, ← hj]
    · rw [show j = j / 3 * 3 + 1 by omega] at hj ⊢
      rw [e2] at hj
      rw [← Nat.add_assoc, c2, ← hj]
    · rw [show j = j / 3 * 3 + 2 by omega] at hj ⊢
      rw [e3] at hj
      rw [← Nat.add_assoc, c3, ← hj]
set_option maxRecDepth 100000 in
set_option maxHeartbeats 4000000 in
theorem clone_any (a : Option Addr) (c : Nat) (l : List Smp) (w : World) (h : LIn w a l) (hn : l.length ≤ 2199023255552) :
    Calls Tryz.prog 39 #[.slice a l.length c] w fun e w' => ∃ v', e = .returned v' ∧ w'.ownsRow w.heap.size 89 3 v' l.length (encL l) ∧ Below w.heap.size w w' := by
  have q29 : ∀ (w : World) (a : Option Addr) (n c n' c' : Nat), (binOp .eql 62 (.slice a n c) (.slice none n' c')).run Tryz.prog w = .ok (.bool a.isNone) w := fun w a n c n' c' => Lib.run_eql_slice_nil w _ _ a n c n' c' Tryz.underlying62
  cases a with
  | none =>
    obtain rfl : l = [] := by
      rcases h.2 with e | ⟨b, off, e, _⟩
      · exact e
      · cases e
    go_enter Tryz.func39, Tryz.ntmps39
    go_wp2_with fail
    go_ret
    exact ⟨_, rfl, World.ownsRow_nil _ _ _ _, Below.refl _ _⟩
  | some ad =>
    obtain ⟨hnews, hal⟩ := h.news
    obtain ⟨v', w', hr, ho, hB⟩ := app_copy w ad c l hnews hal hn
    have hrH : Hid _ := hr
    have hoH : Hid _ := ho
    clear hr ho h hnews hal hn
    go_enter Tryz.func39, Tryz.ntmps39
    go_wp2_with (at_builtin; refine wpList_append_run (by rfl) _ _ _ (by rfl) _ _ _ _ (by rfl) (by rfl) hrH.out ?_)
    go_ret
    exact ⟨_, rfl, hoH.out, hB⟩
/-- those of a range. -/
def rangeL (l : List Smp) (f t : Int) : List Smp := (l.drop (ahd l f)).take (Nat.max (ahd l f) (ahd l t) - ahd l f)
set_option maxRecDepth 100000 in
set_option maxHeartbeats 4000000 in
theorem range_any (N B : Nat) (v : Value) (l : List Smp) (w : World) (h : SS N B v l w) (f t : Int) :
    Calls Tryz.prog 14 #[.pointer (some ⟨N, 0, none⟩), .int .i64 f, .int .i64 t] w fun e w' => ∃ v', e = .returned v' ∧ w'.ownsRow w.heap.size 89 3 v' (rangeL l f t).length (encL (rangeL l f t)) ∧ Below w.heap.size w w' := by
  have h1 : Hid _ := between_any N B v l w h f t
  obtain ⟨a, cap, rfl, hcap, hL⟩ := h.row.lin h.hk
  have hH : Hid _ := h
  have hl1 := ahd_le l f
  have hl2 := ahd_le l t
  have hn := h.hn
  have hrl : Hid (rangeL l f t = (l.drop (ahd l f)).take (Nat.max (ahd l f) (ahd l t) - ahd l f)) := rfl
  clear h
  generalize ahd l f = p at *
  generalize ahd l t = q at *
  obtain ⟨e, he⟩ : ∃ e, e = Nat.max p q := ⟨_, rfl⟩
  rw [← he] at h1 hrl
  have hpe : p ≤ e := by rw [he]; exact Nat.le_max_left _ _
  have hen : e ≤ l.length := by rw [he]; exact Nat.max_le.2 ⟨hl1, hl2⟩
  clear he hl1 hl2
  go_enter Tryz.func14, Tryz.ntmps14
  go_wp2_with fail
  refine Calls.mono h1.out ?_
  rintro e2 w2 ⟨rfl, hB2⟩
  have hS2 : Hid _ := hH.out.below hB2
  have c2 := hS2.out.c0
  have hL2 := hL.below hB2 (Nat.le_refl _)
  have hLR : LIn w2 (Option.map (fun x => x.add (p * 3)) a) (rangeL l f t) := by
    rw [hrl.out]
    refine ⟨fun s hs => hL2.1 s (List.mem_of_mem_drop (List.mem_of_mem_take hs)), ?_⟩
    rcases hL2.2 with h0 | ⟨b, off, rfl, hb, hcc⟩
    · exact Or.inl (by rw [h0]; simp)
    · refine Or.inr ⟨b, off + p * 3, by rw [Option.map_some, smp_add], hb, fun i s hs => ?_⟩
      rw [List.getElem?_take] at hs
      split at hs
      · rw [List.getElem?_drop] at hs
        have := hcc _ s hs
        rw [Nat.add_mul, ← Nat.add_assoc] at this; exact this
      · cases hs
  have hrlen : (rangeL l f t).length = e - p := by
    rw [hrl.out, List.length_take, List.length_drop]; omega
  have hc1 : Hid _ := clone_any (Option.map (fun x => x.add (p * 3)) a) (cap - p) (rangeL l f t) w2 hLR (by rw [hrlen]; omega)
  have hc2 : Hid (p = cap → ∀ z, Calls Tryz.prog 39 #[.slice a (e - p) z] w2 fun e w' => ∃ v', e = .returned v' ∧ w'.ownsRow w2.heap.size 89 3 v' (rangeL l f t).length (encL (rangeL l f t)) ∧ Below w2.heap.size w2 w') := by
    intro hpc z
    have h0 : rangeL l f t = [] := List.eq_nil_of_length_eq_zero (by rw [hrlen]; omega)
    have := clone_any a z [] w2 ⟨by simp, Or.inl rfl⟩ (by simp)
    rw [h0, show e - p = 0 by omega]; exact this
  rw [hrlen] at hc1
  have hfin : Hid (∀ (v' : Value) (w' : World), w'.ownsRow w2.heap.size 89 3 v' (e - p) (encL (rangeL l f t)) → w'.ownsRow w.heap.size 89 3 v' (rangeL l f t).length (encL (rangeL l f t))) := by
    intro v' w' ho
    rw [hrlen]
    refine ⟨ho.1, ?_⟩
    rcases ho.2 with h2 | ⟨g, cap, cur, e1, e2, e3⟩
    · exact Or.inl h2
    · exact Or.inr ⟨g, cap, cur, e1, Nat.le_trans hB2.size e2, e3⟩
  have hrlH : Hid _ := hrlen
  have hp0 : (0 : Int) ≤ (p : Int) := by omega
  have hpeI : (p : Int) ≤ (e : Int) := by omega
  have heI : (e : Int) ≤ (cap : Int) := by omega
  clear hL hL2 hLR hrlen h1 hH
  rcases Nat.decEq cap p with q8 | q8
  · go_wp2_with fail
    refine Calls.mono hc1.out ?_
    rintro e3 w3 ⟨v', rfl, ho, hB3⟩
    have hoH : Hid _ := ho
    clear ho
    go_wp2_with fail
    go_ret
    refine ⟨_, rfl, hfin.out _ _ ?_, hB2.trans (hB3.mono hB2.size)⟩
    exact hoH.out
  · go_wp2_with fail
    all_goals
      refine Calls.mono (hc2.out (by omega) _) ?_
      rintro e3 w3 ⟨v', rfl, ho, hB3⟩
      have hoH : Hid _ := ho
      clear ho
      go_wp2_with fail
      go_ret
      refine ⟨_, rfl, hfin.out _ _ ?_, hB2.trans (hB3.mono hB2.size)⟩
      have := hoH.out
      rw [hrlH.out] at this; exact this
theorem rangeL_mem {l : List Smp} (h : Rise l) (f t : Int) (x : Smp) : x ∈ rangeL l f t ↔ x ∈ l ∧ f ≤ x.t ∧ x.t < t := by
  unfold rangeL
  constructor
  · intro hx
    obtain ⟨j, hj⟩ := List.getElem?_of_mem hx
    rw [List.getElem?_take] at hj
    split at hj
    · rename_i hlt
      rw [List.getElem?_drop] at hj
      have h1 := ahd_iff h f hj
      have h2 := ahd_iff h t hj
      refine ⟨List.mem_of_getElem? hj, ?_, ?_⟩
      · have : ¬ x.t < f := fun hh => by have := h1.2 hh; omega
        omega
      · refine h2.1 ?_
        have hm : Nat.max (ahd l f) (ahd l t) = ahd l f ∨ Nat.max (ahd l f) (ahd l t) = ahd l t := by
          rcases Nat.le_total (ahd l f) (ahd l t) with h | h
          · exact Or.inr (Nat.max_eq_right h)
          · exact Or.inl (Nat.max_eq_left h)
        omega
    · cases hj
  · rintro ⟨hx, h1, h2⟩
    obtain ⟨j, hj⟩ := List.getElem?_of_mem hx
    have k1 : ¬ j < ahd l f := fun hh => by have := (ahd_iff h f hj).1 hh; omega
    have k2 : j < ahd l t := (ahd_iff h t hj).2 h2
    refine List.mem_of_getElem? (i := j - ahd l f) ?_
    have hm : ahd l t ≤ Nat.max (ahd l f) (ahd l t) := Nat.le_max_right _ _
    rw [List.getElem?_take, if_pos (by omega), List.getElem?_drop, show ahd l f + (j - ahd l f) = j by omega]
    exact hj
theorem rangeL_rise {l : List Smp} (h : Rise l) (f t : Int) : Rise (rangeL l f t) := List.Pairwise.sublist ((List.take_sublist _ _).trans (List.drop_sublist _ _)) h
/-- without those of a range. -/
def delL (l : List Smp) (f t : Int) : List Smp := l.take (ahd l f) ++ l.drop (Nat.max (ahd l f) (ahd l t))
theorem delL_mem {l : List Smp} (h : Rise l) (f t : Int) (x : Smp) : x ∈ delL l f t ↔ x ∈ l ∧ ¬ (f ≤ x.t ∧ x.t < t) := by
  unfold delL
  rw [List.mem_append]
  have hm : ahd l t ≤ Nat.max (ahd l f) (ahd l t) := Nat.le_max_right _ _
  have hm2 : ahd l f ≤ Nat.max (ahd l f) (ahd l t) := Nat.le_max_left _ _
  have hm3 : Nat.max (ahd l f) (ahd l t) = ahd l f ∨ Nat.max (ahd l f) (ahd l t) = ahd l t := by
    rcases Nat.le_total (ahd l f) (ahd l t) with h | h
    · exact Or.inr (Nat.max_eq_right h)
    · exact Or.inl (Nat.max_eq_left h)
  constructor
  · rintro (hx | hx)
    · obtain ⟨j, hj⟩ := List.getElem?_of_mem hx
      rw [List.getElem?_take] at hj
      split at hj
      · rename_i hlt
        have := (ahd_iff h f hj).1 hlt
        exact ⟨List.mem_of_getElem? hj, by omega⟩
      · cases hj
    · obtain ⟨j, hj⟩ := List.getElem?_of_mem hx
      rw [List.getElem?_drop] at hj
      have h2 := ahd_iff h t hj
      refine ⟨List.mem_of_getElem? hj, fun hh => ?_⟩
      have := h2.2 hh.2
      omega
  · rintro ⟨hx, hne⟩
    obtain ⟨j, hj⟩ := List.getElem?_of_mem hx
    have h1 := ahd_iff h f hj
    have h2 := ahd_iff h t hj
    rcases Nat.lt_or_ge j (ahd l f) with hlt | hge
    · refine Or.inl (List.mem_of_getElem? (i := j) ?_)
      rw [List.getElem?_take, if_pos hlt]; exact hj
    · refine Or.inr (List.mem_of_getElem? (i := j - Nat.max (ahd l f) (ahd l t)) ?_)
      have k1 : ¬ x.t < f := fun hh => by have := h1.2 hh; omega
      have k2 : ¬ j < ahd l t := fun hh => hne ⟨by omega, h2.1 hh⟩
      rw [List.getElem?_drop, show Nat.max (ahd l f) (ahd l t) + (j - Nat.max (ahd l f) (ahd l t)) = j by omega]
      exact hj
theorem delL_none {l : List Smp} (f t : Int) (h : (rangeL l f t).length = 0) : delL l f t = l := by
  unfold rangeL at h
  rw [List.length_take, List.length_drop] at h
  have h1 := ahd_le l f
  have h2 := ahd_le l t
  have hm : Nat.max (ahd l f) (ahd l t) ≤ l.length := Nat.max_le.2 ⟨h1, h2⟩
  have hm2 : ahd l f ≤ Nat.max (ahd l f) (ahd l t) := Nat.le_max_left _ _
  unfold delL
  rw [show Nat.max (ahd l f) (ahd l t) = ahd l f by omega, List.take_append_drop]
end Go.Proofs.YticgapplpfaigaaGreat
