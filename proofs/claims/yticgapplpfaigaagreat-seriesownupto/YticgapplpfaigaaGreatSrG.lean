
import Derived.Test.YticgapplpfaigaaGreatSrF
namespace Go.Proofs.YticgapplpfaigaaGreat
open Go.RowKit
set_option linter.unusedVariables false
set_option linter.unusedSimpArgs false
theorem step_append_run {P : Program} {ops : Array Oper} {o : Oper} {a : Act} {w : World} {K : Act → World → Prop} {Q : Exit → Act → World → Prop} {E : Prop}
    (hg : o.guard = none) (s x : Operand) (t : TypeId) (hop : o.op = Op.call { callee := Callee.builtin Builtin.append, args := #[s, x], argTypes := #[t, t] })
    (v y v' : Value) (w' : World) (hs : a.eval s = v) (hx : a.eval x = y) (hr : (Builtin.append_ #[t, t] o.type #[v, y]).run P w = .ok v' w') (hK : K (a.put o.dst v') w') :
    if Region.wanted o (yielded ops a.tmps) = true then Oper.wp P o a w K Q else E := by
  have hw : Region.wanted o (yielded ops a.tmps) = true := by simp [Region.wanted, hg]
  rw [if_pos hw]
  unfold Oper.wp execOp
  simp only [hop, resolve, invoke, builtin, Sem.run_bind, Sem.run_pure, Result.andThen_ok, List.map_toArray, List.map_cons, List.map_nil, hs, hx, hr]
  exact hK
theorem cut_sub (l : List Smp) (a b : Nat) (h : a ≤ b) : (l.take a ++ l.drop b).Sublist l := by
  conv => rhs; rw [← List.take_append_drop a l]
  refine List.Sublist.append (List.Sublist.refl _) ?_
  rw [show b = a + (b - a) by omega, ← List.drop_drop]
  exact List.drop_sublist _ _
/-- samples behind a row's beginning appended to it. -/
theorem app_cut (W : World) (B g cap : Nat) (l : List Smp) (a b : Nat) (own : W.ownsRow B 89 3 (.slice (some ⟨g, 0, none⟩) l.length cap) l.length (encL l)) (hab : a ≤ b) (hbl : b ≤ l.length) (hn : l.length ≤ 2199023255552) (hB : B ≤ W.heap.size) (ad : Addr) (c : Nat) (had : b < l.length → ad = ⟨g, b * 3, none⟩) :
    ∃ g1 cap1 w', (Builtin.append_ #[62, 62] 62 #[.slice (some ⟨g, 0, none⟩) a cap, .slice (some ad) (l.length - b) c]).run Tryz.prog W = .ok (.slice (some ⟨g1, 0, none⟩) (a + (l.length - b)) cap1) w' ∧ w'.ownsRow B 89 3 (.slice (some ⟨g1, 0, none⟩) (a + (l.length - b)) cap1) (a + (l.length - b)) (encL (l.take a ++ l.drop b)) ∧ W.grownBy w' (some g) ∧ (g1 = g ∨ g1 = W.heap.size) := by
  obtain ⟨i, i1, i0⟩ := Option.map_eq_some_iff.1 smp_info
  have i2 : i.zero = some (.agg #[.int .i64 0, .int .u8 0, .int .i64 0]) := congrArg (·.1) i0
  have i3 : i.bytes = 24 := congrArg (·.2.1) i0
  have i4 : i.size = 3 := congrArg (·.2.2) i0
  have hml : maxLen = 9223372036854775807 := by decide
  have own2 := own_take own rfl (by omega : a ≤ l.length)
  have hcl := own.cells (g := g) rfl
  obtain ⟨v', w', hr, ho, hg, hnil, hat⟩ := run_append_own_at (P := Tryz.prog) W B 62 62 89 i (.agg #[.int .i64 0, .int .u8 0, .int .i64 0]) 3 24 Tryz.underlying62 i1 i2 i4 i3 rfl (by omega) _ a _ own2 ad (l.length - b) c (encL (l.drop b)) (by rw [encL_len, List.length_drop]) (fun j u hj => by
    have hj3 : j < (l.length - b) * 3 := by have := (List.getElem?_eq_some_iff.1 hj).1; rw [encL_len, List.length_drop] at this; exact this
    rw [had (by omega), smp_add]
    rw [encL_drop, List.getElem?_drop] at hj
    have := hcl _ _ hj
    rw [smp_add, Nat.zero_add] at this; exact this) (encL_one _) (by omega) (by omega) hB
  rw [← encL_append] at ho
  rcases ho.2 with ⟨hq, _⟩ | ⟨g1, c1, cur, hq, _⟩
  · have := hnil.1 hq; simp at this
  · subst hq
    refine ⟨g1, c1, w', hr, ho, hg, ?_⟩
    rcases hat with e | e
    · simp [Value.ownBlock] at e; exact Or.inl e
    · simp [Value.ownBlock] at e; exact Or.inr e
theorem app_none (W : World) (a ad : Option Addr) (c : Nat) : (Builtin.append_ #[62, 62] 62 #[.slice a 0 0, .slice ad 0 c]).run Tryz.prog W = .ok (.slice a 0 0) W := by
  obtain ⟨i, i1, i0⟩ := Option.map_eq_some_iff.1 smp_info
  cases a <;> cases ad <;> simp [Builtin.append_, run_underlying Tryz.underlying62, sizeOf, typeInfo, i1, Builtin.lenOf, Builtin.firstCells, storeCells, loadCells, loadCellsFrom]
theorem SS.put {N B : Nat} {v v2 : Value} {l l2 : List Smp} {w w2 : World} (h : SS N B v l w) (gr : w.grownBy w2 v.ownBlock) (row : OR w2 B v2 l2) (hat : v2.ownBlock = v.ownBlock ∨ ∃ k, v2.ownBlock = some k ∧ w.heap.size ≤ k) (hk : ∀ s ∈ l2, s.ok) (hr : Rise l2) (hn : l2.length ≤ 2199023255552) :
    SS N B v2 l2 (w2.setCell ⟨N, 0, none⟩ v2) ∧ SFr N v v2 w (w2.setCell ⟨N, 0, none⟩ v2) := by
  have hNl := h.hN
  have hne2 : v2.ownBlock ≠ some N := by
    rcases hat with e | ⟨k, e, hk⟩
    · rw [e]; exact h.ne
    · rw [e]; intro e'; injection e' with e'; omega
  have c1 : w2.cell? ⟨N, 0, none⟩ = some v := (gr.cell_far ⟨N, 0, none⟩ hNl h.ne.symm).trans h.c0
  have f1 : w2.frozen? ⟨N, 0, none⟩ = false := (gr.frozen_far ⟨N, 0, none⟩ hNl h.ne.symm).trans h.f0
  have hkb : ∀ j, j ≠ N → (w2.setCell ⟨N, 0, none⟩ v2).heap[j]? = w2.heap[j]? := fun j hj => Below.heap_setCell _ _ _ _ hj
  refine ⟨⟨World.cell?_setCell_same _ _ _ c1, by simpa using f1, row.keep (by simp) (fun g e => hkb g (fun e' => hne2 (by rw [e, e']))), hne2, by have := gr.size; simp; omega, h.hB, hk, hr, hn⟩, ⟨⟨gr.os, gr.tape, gr.output, by have := gr.size; simpa using this, fun j hj => absurd hj (Nat.not_lt_zero _)⟩, fun j hj hn ho => by rw [hkb j hn]; exact gr.block j hj ho, hat⟩⟩
set_option maxRecDepth 100000 in
set_option maxHeartbeats 4000000 in
theorem drop_any (N B : Nat) (v : Value) (l : List Smp) (w : World) (h : SS N B v l w) (a b : Nat) (hab : a < b) (hbl : b ≤ l.length) :
    Calls Tryz.prog 21 #[.pointer (some ⟨N, 0, none⟩), .int .i64 (a : Int), .int .i64 (b : Int)] w fun e w' => e = .returned undef ∧ ∃ v', SS N B v' (l.take a ++ l.drop b) w' ∧ SFr N v v' w w' := by
  have own0 : w.ownsRow B 89 3 v l.length (encL l) := by
    rcases h.row with h1 | ⟨h1, _⟩
    · exact h1
    · rw [h1] at hbl; simp at hbl; omega
  obtain ⟨g, cap, rfl, hBg, hgl⟩ := own0.form (by omega)
  have hcap : l.length ≤ cap := by
    rcases own0.2 with ⟨hq, _⟩ | ⟨g0, cap0, cur, hq, hbg, hg, hnc, hcm, _⟩
    · cases hq
    · cases hq; exact hnc
  have c0 := h.c0
  have hn := h.hn
  have hH : Hid _ := h
  have hO : Hid _ := own0
  generalize hL : l.length = n at *
  have hLH : Hid (l.length = n) := hL
  clear h own0 hL
  have a0 : (0 : Int) ≤ (a : Int) := by omega
  have b0 : (0 : Int) ≤ (b : Int) := by omega
  have bn : (b : Int) ≤ (n : Int) := by omega
  have an : (a : Int) ≤ (cap : Int) := by omega
  have nc : (n : Int) ≤ (cap : Int) := by omega
  go_enter Tryz.func21, Tryz.ntmps21
  rcases Nat.decEq cap b with q8 | q8
  · obtain ⟨g1, cap1, w1, hr1, own1, gr1, hat⟩ := app_cut w.drew B g cap l a b (by rw [hLH.out]; exact hO.out) (by omega) (by rw [hLH.out]; exact hbl) (by rw [hLH.out]; exact hn) (by have := hH.out.hB; have := hH.out.hN; show B ≤ w.heap.size; omega) ⟨g, b * 3, none⟩ (cap - b) (fun _ => rfl)
    rw [hLH.out] at hr1 own1
    have gr1 : w.grownBy w1 (some g) := ⟨gr1.os, gr1.tape, gr1.output, gr1.size, gr1.block⟩
    have hNl := hH.out.hN
    have hgN : g ≠ N := fun e => hH.out.ne (by simp [Value.ownBlock, e])
    have m1 : w1.cell? ⟨N, 0, none⟩ = some (.slice (some ⟨g, 0, none⟩) n cap) := (gr1.cell_far ⟨N, 0, none⟩ hNl (by simp; omega)).trans c0
    have n1 : w1.frozen? ⟨N, 0, none⟩ = false := (gr1.frozen_far ⟨N, 0, none⟩ hNl (by simp; omega)).trans hH.out.f0
    have hr1H : Hid _ := hr1
    have own1H : Hid (World.ownsRow _ _ _ _ _ _ _) := own1
    have gr1H : Hid (World.grownBy _ _ _) := gr1
    have hatH : Hid (g1 = g ∨ g1 = w.heap.size) := hat
    clear hr1 own1 gr1 hat
    go_wp2_with fail
    go_region_held3 (fun w' => w'.cell? ⟨N, 0, none⟩ = some (.slice (some ⟨g, 0, none⟩) n cap)) (first | assumption)
      (first
        | (refine step_append_run rfl (.tmp 12) (.tmp 18) 62 rfl _ _ _ _ rfl rfl hr1H.out ?_))
    obtain ⟨m, hm⟩ : ∃ m, m = a + (n - b) := ⟨_, rfl⟩
    rw [← hm] at own1H ⊢
    have hmH : Hid (m = a + (n - b)) := hm
    have hmn : m ≤ 2199023255552 := by omega
    have hll : Hid ((l.take a ++ l.drop b).length = m) := by
      show (l.take a ++ l.drop b).length = m
      rw [List.length_append, List.length_take, List.length_drop, hLH.out]; omega
    have hsub := cut_sub l a b (by omega)
    have hk2 : ∀ s ∈ l.take a ++ l.drop b, s.ok := fun s hs => hH.out.hk s (hsub.subset hs)
    have hr2 : Rise (l.take a ++ l.drop b) := List.Pairwise.sublist hsub hH.out.hr
    have hcm1 : m ≤ cap1 ∧ cap1 ≤ 9223372036854775807 := by
      rcases own1H.out.2 with ⟨hq, _⟩ | ⟨g0, cap0, cur, hq, hbg, hg, hnc, hcm, _⟩
      · cases hq
      · cases hq; exact ⟨hnc, by simpa [maxLen] using hcm⟩
    have hg1l : g1 < w1.heap.size := (own1H.out.lt g1 rfl).2
    have hg1B : B ≤ g1 := (own1H.out.lt g1 rfl).1
    have hcm2 : (cap1 : Int) ≤ 9223372036854775807 := by omega
    clear hm hr1H
    rcases Nat.lt_or_ge m (cap1 / 4) with hsm | hsm
    · have hsmI : (m : Int) < (cap1 : Int) / 4 := by omega
      rcases Nat.eq_zero_or_pos m with hm0 | hm0
      · subst hm0
        have hr3H : Hid _ := app_none w1 (some ⟨g1, 0, none⟩) (some ⟨g1, 0, none⟩) cap1
        have hfin := hH.out.put (w2 := w1) (v2 := .slice (some ⟨g1, 0, none⟩) 0 0) (l2 := l.take a ++ l.drop b) gr1H.out (Or.inr ⟨List.eq_nil_of_length_eq_zero hll.out, g1, rfl, hg1B, hg1l⟩) (by
          rcases hatH.out with e | e
          · exact Or.inl (by simp [Value.ownBlock, e])
          · exact Or.inr ⟨g1, rfl, by omega⟩) hk2 hr2 (by rw [hll.out]; omega)
        have hfinH : Hid _ := hfin
        clear hfin hsub hk2 hr2 hcm1
        go_wp2_with (at_builtin; refine wpList_append_run (by rfl) _ _ _ (by rfl) _ _ _ _ (by rfl) (by rfl) hr3H.out ?_)
        first | go_end0 | (simp only [Exit.inBlock, Exit.then]; refine bodyPost_ret (results_none rfl _ _ _) rfl ?_) | refine bodyPost_ret (results_none rfl _ _ _) rfl ?_
        exact ⟨rfl, _, hfinH.out⟩
      · obtain ⟨g2, cap2, w2, hr3, own3, gr3, hat3, hlt3⟩ := app_row w1 B (.slice (some ⟨g1, 0, none⟩) 0 0) [] (l.take a ++ l.drop b) (Or.inr ⟨rfl, g1, rfl, hg1B, hg1l⟩) (by omega) ⟨g1, 0, none⟩ cap1 (own1H.out.cells rfl) (by rw [hll.out]; exact hm0) (by rw [hll.out]; simp; omega)
        rw [hll.out] at hr3 own3
        simp only [List.length_nil, Nat.zero_add, List.nil_append] at hr3 own3
        have hr3H : Hid _ := hr3
        have gr4 : w.grownBy w2 (some g) := by
          refine ⟨gr3.os.trans gr1H.out.os, gr3.tape.trans gr1H.out.tape, gr3.output.trans gr1H.out.output, Nat.le_trans gr1H.out.size gr3.size, fun k hk hne => ?_⟩
          rw [gr3.block k (Nat.lt_of_lt_of_le hk gr1H.out.size) ?_]
          · exact gr1H.out.block k hk hne
          · intro e
            simp [Value.ownBlock] at e
            rcases hatH.out with e1 | e1
            · exact hne (by rw [e, e1])
            · omega
        have hfin := hH.out.put (w2 := w2) (v2 := .slice (some ⟨g2, 0, none⟩) m cap2) (l2 := l.take a ++ l.drop b) gr4 (Or.inl (by rw [hll.out]; exact own3)) (by
          rcases hat3 with e | e
          · simp [Value.ownBlock] at e
            subst e
            rcases hatH.out with e | e
            · exact Or.inl (by simp [Value.ownBlock, e])
            · exact Or.inr ⟨g1, rfl, by omega⟩
          · exact Or.inr ⟨g2, rfl, by have := gr1H.out.size; have : w.heap.size ≤ w1.heap.size := this; omega⟩) hk2 hr2 (by rw [hll.out]; omega)
        have hfinH : Hid _ := hfin
        have m2 : w2.cell? ⟨N, 0, none⟩ = some (.slice (some ⟨g, 0, none⟩) n cap) := (gr4.cell_far ⟨N, 0, none⟩ hNl (by simp; omega)).trans c0
        have n2 : w2.frozen? ⟨N, 0, none⟩ = false := (gr4.frozen_far ⟨N, 0, none⟩ hNl (by simp; omega)).trans hH.out.f0
        clear hfin hsub hk2 hr2 hcm1 hr3 own3 gr3 gr4 hat3
        go_wp2_with (at_builtin; refine wpList_append_run (by rfl) _ _ _ (by rfl) _ _ _ _ (by rfl) (by rfl) hr3H.out ?_)
        first | go_end0 | (simp only [Exit.inBlock, Exit.then]; refine bodyPost_ret (results_none rfl _ _ _) rfl ?_) | refine bodyPost_ret (results_none rfl _ _ _) rfl ?_
        exact ⟨rfl, _, hfinH.out⟩
    · have hsmI : ¬ (m : Int) < (cap1 : Int) / 4 := by omega
      have hfin := hH.out.put (w2 := w1) (v2 := .slice (some ⟨g1, 0, none⟩) m cap1) (l2 := l.take a ++ l.drop b) gr1H.out (Or.inl (by rw [hll.out]; exact own1H.out)) (by
        rcases hatH.out with e | e
        · exact Or.inl (by simp [Value.ownBlock, e])
        · exact Or.inr ⟨g1, rfl, by omega⟩) hk2 hr2 (by rw [hll.out]; omega)
      have hfinH : Hid _ := hfin
      clear hfin hsub hk2 hr2 hcm1
      go_wp2_with fail
      first | go_end0 | (simp only [Exit.inBlock, Exit.then]; refine bodyPost_ret (results_none rfl _ _ _) rfl ?_) | refine bodyPost_ret (results_none rfl _ _ _) rfl ?_
      exact ⟨rfl, _, hfinH.out⟩
  · subst q8
    have hnc : n = cap := by omega
    have hncH : Hid (n = cap) := hnc
    have own1 : w.drew.ownsRow B 89 3 (.slice (some ⟨g, 0, none⟩) a cap) a (encL (l.take a ++ l.drop cap)) := by
      rw [List.drop_eq_nil_of_le (by rw [hLH.out]; omega), List.append_nil]
      exact own_take (n := n) hO.out hLH.out (by omega)
    have own1H : Hid (World.ownsRow _ _ _ _ _ _ _) := own1
    have hNl := hH.out.hN
    have hgN : g ≠ N := fun e => hH.out.ne (by simp [Value.ownBlock, e])
    clear own1 hnc
    go_wp2_with fail
    go_region_held3 (fun w' => w'.cell? ⟨N, 0, none⟩ = some (.slice (some ⟨g, 0, none⟩) n cap)) (first | assumption) (first | fail)
    generalize hW3 : w.drew = w1 at own1H ⊢
    have gr1H : Hid (w.grownBy w1 (some g)) := by
      show w.grownBy w1 (some g)
      rw [← hW3]; exact ⟨rfl, rfl, rfl, Nat.le_refl _, fun _ _ _ => rfl⟩
    have hatH : Hid (g = g ∨ g = w.heap.size) := Or.inl rfl
    have m1 : w1.cell? ⟨N, 0, none⟩ = some (.slice (some ⟨g, 0, none⟩) n cap) := (gr1H.out.cell_far ⟨N, 0, none⟩ hNl (by simp; omega)).trans c0
    have n1 : w1.frozen? ⟨N, 0, none⟩ = false := (gr1H.out.frozen_far ⟨N, 0, none⟩ hNl (by simp; omega)).trans hH.out.f0
    clear hW3
    have hmn : a ≤ 2199023255552 := by omega
    have hll : Hid ((l.take a ++ l.drop cap).length = a) := by
      show (l.take a ++ l.drop cap).length = a
      rw [List.length_append, List.length_take, List.length_drop, hLH.out]; have := hncH.out; omega
    have hsub := cut_sub l a cap (by omega)
    have hk2 : ∀ s ∈ l.take a ++ l.drop cap, s.ok := fun s hs => hH.out.hk s (hsub.subset hs)
    have hr2 : Rise (l.take a ++ l.drop cap) := List.Pairwise.sublist hsub hH.out.hr
    have hcm1 : a ≤ cap ∧ cap ≤ 9223372036854775807 := by
      rcases own1H.out.2 with ⟨hq, _⟩ | ⟨g0, cap0, cur, hq, hbg, hg, hnc, hcm, _⟩
      · cases hq
      · cases hq; exact ⟨hnc, by simpa [maxLen] using hcm⟩
    have hg1l : g < w1.heap.size := (own1H.out.lt g rfl).2
    have hg1B : B ≤ g := (own1H.out.lt g rfl).1
    have hcm2 : (cap : Int) ≤ 9223372036854775807 := by omega
    rcases Nat.lt_or_ge a (cap / 4) with hsm | hsm
    · have hsmI : (a : Int) < (cap : Int) / 4 := by omega
      rcases Nat.eq_zero_or_pos a with hm0 | hm0
      · subst hm0
        have hr3H : Hid _ := app_none w1 (some ⟨g, 0, none⟩) (some ⟨g, 0, none⟩) cap
        have hfin := hH.out.put (w2 := w1) (v2 := .slice (some ⟨g, 0, none⟩) 0 0) (l2 := l.take 0 ++ l.drop cap) gr1H.out (Or.inr ⟨List.eq_nil_of_length_eq_zero hll.out, g, rfl, hg1B, hg1l⟩) (by
          rcases hatH.out with e | e
          · exact Or.inl (by simp [Value.ownBlock, e])
          · exact Or.inr ⟨g, rfl, by omega⟩) hk2 hr2 (by rw [hll.out]; omega)
        have hfinH : Hid _ := hfin
        clear hfin hsub hk2 hr2 hcm1
        go_wp2_with (at_builtin; refine wpList_append_run (by rfl) _ _ _ (by rfl) _ _ _ _ (by rfl) (by rfl) hr3H.out ?_)
        first | go_end0 | (simp only [Exit.inBlock, Exit.then]; refine bodyPost_ret (results_none rfl _ _ _) rfl ?_) | refine bodyPost_ret (results_none rfl _ _ _) rfl ?_
        exact ⟨rfl, _, hfinH.out⟩
      · obtain ⟨g2, cap2, w2, hr3, own3, gr3, hat3, hlt3⟩ := app_row w1 B (.slice (some ⟨g, 0, none⟩) 0 0) [] (l.take a ++ l.drop cap) (Or.inr ⟨rfl, g, rfl, hg1B, hg1l⟩) (by omega) ⟨g, 0, none⟩ cap (own1H.out.cells rfl) (by rw [hll.out]; exact hm0) (by rw [hll.out]; simp; omega)
        rw [hll.out] at hr3 own3
        simp only [List.length_nil, Nat.zero_add, List.nil_append] at hr3 own3
        have hr3H : Hid _ := hr3
        have gr4 : w.grownBy w2 (some g) := by
          refine ⟨gr3.os.trans gr1H.out.os, gr3.tape.trans gr1H.out.tape, gr3.output.trans gr1H.out.output, Nat.le_trans gr1H.out.size gr3.size, fun k hk hne => ?_⟩
          rw [gr3.block k (Nat.lt_of_lt_of_le hk gr1H.out.size) ?_]
          · exact gr1H.out.block k hk hne
          · intro e
            simp [Value.ownBlock] at e
            rcases hatH.out with e1 | e1
            · exact hne (by rw [e, e1])
            · omega
        have hfin := hH.out.put (w2 := w2) (v2 := .slice (some ⟨g2, 0, none⟩) a cap2) (l2 := l.take a ++ l.drop cap) gr4 (Or.inl (by rw [hll.out]; exact own3)) (by
          rcases hat3 with e | e
          · simp [Value.ownBlock] at e
            subst e
            rcases hatH.out with e | e
            · exact Or.inl (by simp [Value.ownBlock, e])
            · exact Or.inr ⟨g, rfl, by omega⟩
          · exact Or.inr ⟨g2, rfl, by have := gr1H.out.size; have : w.heap.size ≤ w1.heap.size := this; omega⟩) hk2 hr2 (by rw [hll.out]; omega)
        have hfinH : Hid _ := hfin
        have m2 : w2.cell? ⟨N, 0, none⟩ = some (.slice (some ⟨g, 0, none⟩) n cap) := (gr4.cell_far ⟨N, 0, none⟩ hNl (by simp; omega)).trans c0
        have n2 : w2.frozen? ⟨N, 0, none⟩ = false := (gr4.frozen_far ⟨N, 0, none⟩ hNl (by simp; omega)).trans hH.out.f0
        clear hfin hsub hk2 hr2 hcm1 hr3 own3 gr3 gr4 hat3
        go_wp2_with (at_builtin; refine wpList_append_run (by rfl) _ _ _ (by rfl) _ _ _ _ (by rfl) (by rfl) hr3H.out ?_)
        first | go_end0 | (simp only [Exit.inBlock, Exit.then]; refine bodyPost_ret (results_none rfl _ _ _) rfl ?_) | refine bodyPost_ret (results_none rfl _ _ _) rfl ?_
        exact ⟨rfl, _, hfinH.out⟩
    · have hsmI : ¬ (a : Int) < (cap : Int) / 4 := by omega
      have hfin := hH.out.put (w2 := w1) (v2 := .slice (some ⟨g, 0, none⟩) a cap) (l2 := l.take a ++ l.drop cap) gr1H.out (Or.inl (by rw [hll.out]; exact own1H.out)) (by
        rcases hatH.out with e | e
        · exact Or.inl (by simp [Value.ownBlock, e])
        · exact Or.inr ⟨g, rfl, by omega⟩) hk2 hr2 (by rw [hll.out]; omega)
      have hfinH : Hid _ := hfin
      clear hfin hsub hk2 hr2 hcm1
      go_wp2_with fail
      first | go_end0 | (simp only [Exit.inBlock, Exit.then]; refine bodyPost_ret (results_none rfl _ _ _) rfl ?_) | refine bodyPost_ret (results_none rfl _ _ _) rfl ?_
      exact ⟨rfl, _, hfinH.out⟩
end Go.Proofs.YticgapplpfaigaaGreat
