
import Derived.Test.YtbojljmacheccaaGreatDoorLwVq
namespace Go.Proofs.YtbojljmacheccaaGreatDoor.Ln
open Go.RowKit Go.Shelf
attribute [local go_sem] Oper.semAt_some
set_option linter.unusedVariables false
set_option linter.unusedSimpArgs false
set_option maxRecDepth 100000
theorem ext_list (s : ByteArray) (k j : Nat) : (s.extract k j).data.toList = (s.data.toList.drop k).take (j - k) := by
  simp [ByteArray.extract, ByteArray.copySlice]
theorem drop_some {s : ByteArray} {k : Nat} (h : k < s.size) {x : UInt8} (hx : s.get! k = x) : s.data.toList.drop k = x :: s.data.toList.drop (k + 1) := by rw [drop_at s k h, hx]
theorem drop_none {s : ByteArray} {k : Nat} (h : ¬ k < s.size) : s.data.toList.drop k = [] := List.drop_eq_nil_of_le (by rw [lenB]; omega)
/-- ParseInt, its error or not. -/
theorem pint_x (T : ByteArray) (hT : T.size ≤ 1048576) (w : World) (h : LT w) : Calls Tryz.prog 156 #[.string T, .int .i64 10, .int .i64 64] w fun e w' => (∃ x, e = .returned (.tuple #[.int .i64 (pvL T.data.toList), x])) ∧ Below w.heap.size w w' :=
  (pint_l T hT w h).mono fun e w' q => ⟨q.1.elim (fun r => ⟨_, r.2⟩) (fun r => let ⟨t, p, e1⟩ := r.2; ⟨_, e1⟩), q.2⟩
set_option maxHeartbeats 16000000 in
theorem number_r (N : Nat) (s : ByteArray) (st : DSt) (W : World) (h : RdE N s st W) (hg : LT W) (hst : st.1 ≤ s.size) (hs : s.size ≤ 1048576) : Calls Tryz.prog 126 #[.pointer (some ⟨N, 0, none⟩)] W fun e w' => e = .returned (.int .i64 (numD nvL s.data.toList st).1) ∧ RdE N s (numD nvL s.data.toList st).2 w' ∧ W.grownBy w' (some N) := by
  obtain ⟨k, fl⟩ := st
  dsimp only at hst
  have hh : Hid (RdE N s (k, fl) W) := h
  have h0 := h.1
  have hd1 : Hid (RdE N s (k, fl) W ∧ W.grownBy W (some N)) := ⟨hh.out, grown_refl _ _⟩
  cases fl with
  | some q =>
    have h3 : W.cell? ⟨N, 2, none⟩ = some (.int .i64 60) := h.2.1.2.2.1
    have e : numD nvL s.data.toList (k, some q) = (0, (k, some q)) := rfl
    rw [e]
    clear h
    go_enter Tryz.func126, Tryz.ntmps126
    go_wp2_with fail
    go_ret
    exact ⟨rfl, hd1.out⟩
  | none =>
    obtain ⟨c1, c2, c3, z1⟩ := h.cells
    have k0 : (0 : Int) ≤ (k : Int) := by omega
    obtain ⟨l, hl⟩ : ∃ l, s.data.toList = l := ⟨_, rfl⟩
    have lz : l.length = s.size := by rw [← hl, lenB]
    obtain ⟨E, hE⟩ : ∃ E, k + rowN (l.drop k) = E := ⟨_, rfl⟩
    have hEs : E ≤ s.size := by
      have := row_le (l.drop k)
      rw [List.length_drop] at this
      omega
    have hEk : k ≤ E := by omega
    have keep : Hid (∀ w1, Below W.heap.size W w1 → RdE N s (k, none) w1) := fun w1 b => hh.out.below b h0
    have hcel : Hid (∀ w1, Below W.heap.size W w1 → w1.cell? ⟨N, 0, none⟩ = some (.string s) ∧ w1.cell? ⟨N, 1, none⟩ = some (.int .i64 (k : Int))) := fun w1 b => ⟨(keep.out _ b).cells.1, (keep.out _ b).cells.2.1⟩
    have hgH : Hid (∀ w1, Below W.heap.size W w1 → LT w1) := fun w1 b => hg.on b
    have hb0 : Hid (Below W.heap.size W W.drew) := (Below.refl _ W).drew
    obtain ⟨T, hT⟩ : ∃ T : ByteArray, s.extract k E = T := ⟨_, rfl⟩
    have hTl : T.data.toList = (l.drop k).take (rowN (l.drop k)) := by rw [← hT, ext_list, hl, ← hE]; congr 1; omega
    obtain ⟨tl, htl⟩ : ∃ tl, T.data.toList = tl := ⟨_, rfl⟩
    have hTs : T.size ≤ 1048576 := by rw [Lib.size_eq, hTl, List.length_take, List.length_drop]; omega
    have hnum : Hid (numD nvL l (k, none) = if Lib.itoa (pvL tl) = tl then (pvL tl, (E, none)) else (0, (k, some (k : Int)))) := by
      show _ = _
      unfold numD numL
      rw [if_pos rfl]
      dsimp only
      rw [← hTl, htl, nv_pv, hE]
      by_cases q : Lib.itoa (pvL tl) = tl
      · rw [if_pos q, if_pos q]
      · rw [if_neg q, if_neg q]
    have cI : Hid (∀ w1, Below W.heap.size W w1 → Calls Tryz.prog 156 #[.string T, .int .i64 10, .int .i64 64] w1 fun e w' => (∃ x, e = .returned (.tuple #[.int .i64 (pvL tl), x])) ∧ Below W.heap.size W w') := fun w1 b => by
      have := pint_x T hTs w1 (hgH.out _ b)
      rw [htl] at this
      exact this.mono fun e w' q => ⟨q.1, b.trans (q.2.mono b.size)⟩
    have cF : Hid (∀ w1, Below W.heap.size W w1 → Calls Tryz.prog 36 #[.int .i64 (pvL tl), .int .i64 10] w1 fun e w' => e = .returned (.string (ba (Lib.itoa (pvL tl)))) ∧ Below W.heap.size W w') := fun w1 b => (form_l _ (pv_in _) w1 (hgH.out _ b)).mono fun e w' q => ⟨q.1, b.trans (q.2.mono b.size)⟩
    have cX : Hid (∀ w3, RdE N s (k, none) w3 → Calls Tryz.prog 127 #[.pointer (some ⟨N, 0, none⟩), .int .i64 (k : Int)] w3 fun e w' => e = .returned undef ∧ RdE N s (k, some (k : Int)) w' ∧ w3.grownBy w' (some N)) := fun w3 r => fail_r N s (k, none) _ w3 r
    have hsame : Hid (Lib.itoa (pvL tl) = tl → ba (Lib.itoa (pvL tl)) = T) := fun q => (congrArg ba (q.trans htl.symm)).trans (ba_of T)
    have hdiff : Hid (¬ Lib.itoa (pvL tl) = tl → ¬ ba (Lib.itoa (pvL tl)) = T) := fun q e => q ((ba_list _).symm.trans ((congrArg (fun x : ByteArray => x.data.toList) e).trans htl))
    obtain ⟨F, hF⟩ : ∃ F, ba (Lib.itoa (pvL tl)) = F := ⟨_, rfl⟩
    rw [hF] at cF hsame hdiff
    obtain ⟨v, hv⟩ : ∃ v, pvL tl = v := ⟨_, rfl⟩
    have hvH : Hid (pvL tl = v) := hv
    rw [hv] at cI cF hnum hsame hdiff
    have stepH : Hid (∀ j x, (hj : j < s.size) → s.get! j = x → isDg x = true → j + digR (l.drop j) = E → (j + 1) + digR (l.drop (j + 1)) = E) := fun j x hj hx hd e => by
      have := drop_some hj hx
      rw [hl] at this
      rw [this, dig_yes hd] at e
      omega
    have stopH : Hid (∀ j, (¬ j < s.size ∨ isDg (s.get! j) = false) → j + digR (l.drop j) = E → j = E) := fun j hc e => by
      by_cases hj : j < s.size
      · have hd := hc.resolve_left (fun q => q hj)
        have := drop_some hj rfl
        rw [hl] at this
        rw [this, dig_no hd] at e
        omega
      · have := drop_none hj
        rw [hl] at this
        rw [this] at e
        exact e
    have fin : Hid (∀ w1, Below W.heap.size W w1 → RdE N s (E, none) (w1.setCell ⟨N, 1, none⟩ (.int .i64 (E : Int))) ∧ W.grownBy (w1.setCell ⟨N, 1, none⟩ (.int .i64 (E : Int))) (some N)) := fun w1 b => ⟨(keep.out _ b).set1 E, grown_trans (grown_of_below N b) (grown_set _ N 1 _)⟩
    have hTH : Hid (s.extract k E = T) := hT
    have hkEI : (k : Int) ≤ (E : Int) := by omega
    have hEsI : (E : Int) ≤ (s.size : Int) := by omega
    have startA : Hid (k < s.size → s.get! k = 45 → (k + 1) + digR (l.drop (k + 1)) = E) := fun hk hx => by
      have := drop_some hk hx
      rw [hl] at this
      rw [this, row_minus] at hE
      omega
    have startB : Hid ((¬ k < s.size ∨ s.get! k ≠ 45) → k + digR (l.drop k) = E) := fun hc => by
      by_cases hk : k < s.size
      · have hd := hc.resolve_left (fun q => q hk)
        have := drop_some hk rfl
        rw [hl] at this
        rw [this, row_other _ hd] at hE
        rw [this]; exact hE
      · have := drop_none hk
        rw [hl] at this
        rw [this] at hE ⊢
        exact hE
    rw [hl]
    clear hF hT hTl htl hTs hv lz h hl hE
    by_cases hk : k < s.size
    · have hkI : (k : Int) < (s.size : Int) := by omega
      obtain ⟨x, hx⟩ : ∃ x, s.get! k = x := ⟨_, rfl⟩
      have hsk : s[k]'hk = x := get_at s k hk x hx
      by_cases h45 : x = 45
      · have h45I : ((x.toNat : Int) == 45) = true := by rw [h45]; rfl
        have st0 : Hid ((k + 1) + digR (l.drop (k + 1)) = E) := startA.out hk (hx.trans h45)
        have wi : IntKind.i64.wrap ((k : Int) + 1) = ((k + 1 : Nat) : Int) := IntWalk.i64_in _ (by omega)
        have wk : wrap64 ((k : Int) + 1) = ((k + 1 : Nat) : Int) := IntWalk.wrap64_in _ (by omega)
        clear hx
        subst h45
        go_enter Tryz.func126, Tryz.ntmps126
        go_wp2_with fail
        clear wi wk h45I
        go_loopw [3] (fun v wr => ∃ (j : Nat), v = .int .i64 (j : Int) ∧ k ≤ j ∧ j ≤ s.size ∧ Hid (j + digR (l.drop j) = E) ∧ wr = W) (fun v _ => s.size - (intOf v).toNat)
        case atStart => exact ⟨k + 1, rfl, by omega, by omega, st0, rfl⟩
        case round =>
          obtain ⟨j, rfl, hkj, hjs, hj, rfl⟩ := hrel
          clear st0
          have j0 : (0 : Int) ≤ (j : Int) := by omega
          have wi : IntKind.i64.wrap ((j : Int) + 1) = ((j + 1 : Nat) : Int) := IntWalk.i64_in _ (by omega)
          have wk : wrap64 ((j : Int) + 1) = ((j + 1 : Nat) : Int) := IntWalk.wrap64_in _ (by omega)
          by_cases hjl : j < s.size
          · have hjI : (j : Int) < (s.size : Int) := by omega
            obtain ⟨x, hx⟩ : ∃ x, s.get! j = x := ⟨_, rfl⟩
            have hsj : s[j]'hjl = x := get_at s j hjl x hx
            by_cases h48 : 48 ≤ x.toNat
            · have h48I : (48 : Int) ≤ (x.toNat : Int) := by omega
              by_cases h57 : x.toNat ≤ 57
              · have h57I : (x.toNat : Int) ≤ 57 := by omega
                have nx : Hid ((j + 1) + digR (l.drop (j + 1)) = E) := stepH.out j x hjl hx (by rw [isDg_toNat, decide_eq_true h48, decide_eq_true h57]; rfl) hj.out
                clear hx h48 h57
                go_wp2_with fail
                go_roundw
                case measure => simp only [intOf]; omega
                case rel => exact ⟨j + 1, rfl, by omega, by omega, nx, by first | rfl | trivial⟩
              · have h57I : ¬ (x.toNat : Int) ≤ 57 := by omega
                have eE := stopH.out j (Or.inr (by rw [hx, isDg_toNat, decide_eq_false h57]; simp)) hj.out
                clear hx h48 h57
                subst eE
                clear stepH stopH startA startB hj
                go_wp2_with fail
                have hTe := hTH.out
                subst hTe
                clear hTH
                have S0 : wr.cell? ⟨N, 0, none⟩ = some (.string s) ∧ wr.cell? ⟨N, 1, none⟩ = some (.int .i64 (k : Int)) := ⟨c1, c2⟩
                go_region_held3 (fun W0 => W0.cell? ⟨N, 0, none⟩ = some (.string s) ∧ W0.cell? ⟨N, 1, none⟩ = some (.int .i64 (k : Int))) (first | assumption) (first
                  | (go_at_call 156; (with_reducible refine Calls.mono (cI.out _ hb0.out) ?_); rintro e w1 ⟨⟨x1, rfl⟩, B1⟩; have S1 := hcel.out _ B1; have B1H : Hid (Below wr.heap.size wr w1) := B1; clear B1))
                by_cases hs2 : Lib.itoa v = tl
                · have e1 := hsame.out hs2
                  have hn : Hid (numD nvL l (k, none) = (v, (j, none))) := hnum.out.trans (if_pos hs2)
                  subst e1
                  clear hsame hdiff hnum
                  go_wp2_with fail
                  go_region_held3 (fun W0 => W0.cell? ⟨N, 0, none⟩ = some (.string s) ∧ W0.cell? ⟨N, 1, none⟩ = some (.int .i64 (k : Int))) (first | assumption) (first
                    | (go_at_call 36; (with_reducible refine Calls.mono (cF.out _ B1H.out.drew) ?_); rintro e w2 ⟨rfl, B2⟩; have S2 := hcel.out _ B2; have B2H : Hid (Below wr.heap.size wr w2) := B2; clear B2))
                  have FH := fin.out _ B2H.out
                  have FHH : Hid (RdE N s (j, none) (w2.setCell ⟨N, 1, none⟩ (.int .i64 (j : Int))) ∧ wr.grownBy (w2.setCell ⟨N, 1, none⟩ (.int .i64 (j : Int))) (some N)) := FH
                  have z2 := (keep.out _ B2H.out).cells.2.2.2
                  have d1 := S2.2
                  clear FH
                  go_wp2_with fail
                  go_ret
                  rw [hn.out]
                  exact ⟨rfl, FHH.out⟩
                · have e2 : (F.toList == (s.extract k j).toList) = false := beq_eq_false_iff_ne.2 (by rw [Lib.toList_data, Lib.toList_data]; exact fun q => hdiff.out hs2 (by rw [← ba_of F, q, ba_of]))
                  have hn : Hid (numD nvL l (k, none) = (0, (k, some (k : Int)))) := hnum.out.trans (if_neg hs2)
                  clear hsame hdiff hnum hs2
                  go_wp2_with fail
                  go_region_held3 (fun W0 => W0.cell? ⟨N, 0, none⟩ = some (.string s) ∧ W0.cell? ⟨N, 1, none⟩ = some (.int .i64 (k : Int))) (first | assumption) (first
                    | (go_at_call 36; (with_reducible refine Calls.mono (cF.out _ B1H.out.drew) ?_); rintro e w2 ⟨rfl, B2⟩; have S2 := hcel.out _ B2; have B2H : Hid (Below wr.heap.size wr w2) := B2; clear B2))
                  have d1 := S2.2
                  have R2H : Hid (RdE N s (k, none) w2) := keep.out _ B2H.out
                  go_wp2_with fail
                  refine Calls.mono (cX.out _ R2H.out) ?_
                  rintro e w3 ⟨rfl, R3, G3⟩
                  have FH : Hid (RdE N s (k, some (k : Int)) w3 ∧ wr.grownBy w3 (some N)) := ⟨R3, grown_trans (grown_of_below N B2H.out) G3⟩
                  clear R3 G3
                  go_wp2_with fail
                  go_ret
                  rw [hn.out]
                  exact ⟨rfl, FH.out⟩
            · have h48I : ¬ (48 : Int) ≤ (x.toNat : Int) := by omega
              have eE := stopH.out j (Or.inr (by rw [hx, isDg_toNat, decide_eq_false h48]; rfl)) hj.out
              clear hx h48
              subst eE
              clear stepH stopH startA startB hj
              go_wp2_with fail
              have hTe := hTH.out
              subst hTe
              clear hTH
              have S0 : wr.cell? ⟨N, 0, none⟩ = some (.string s) ∧ wr.cell? ⟨N, 1, none⟩ = some (.int .i64 (k : Int)) := ⟨c1, c2⟩
              go_region_held3 (fun W0 => W0.cell? ⟨N, 0, none⟩ = some (.string s) ∧ W0.cell? ⟨N, 1, none⟩ = some (.int .i64 (k : Int))) (first | assumption) (first
                | (go_at_call 156; (with_reducible refine Calls.mono (cI.out _ hb0.out) ?_); rintro e w1 ⟨⟨x1, rfl⟩, B1⟩; have S1 := hcel.out _ B1; have B1H : Hid (Below wr.heap.size wr w1) := B1; clear B1))
              by_cases hs2 : Lib.itoa v = tl
              · have e1 := hsame.out hs2
                have hn : Hid (numD nvL l (k, none) = (v, (j, none))) := hnum.out.trans (if_pos hs2)
                subst e1
                clear hsame hdiff hnum
                go_wp2_with fail
                go_region_held3 (fun W0 => W0.cell? ⟨N, 0, none⟩ = some (.string s) ∧ W0.cell? ⟨N, 1, none⟩ = some (.int .i64 (k : Int))) (first | assumption) (first
                  | (go_at_call 36; (with_reducible refine Calls.mono (cF.out _ B1H.out.drew) ?_); rintro e w2 ⟨rfl, B2⟩; have S2 := hcel.out _ B2; have B2H : Hid (Below wr.heap.size wr w2) := B2; clear B2))
                have FH := fin.out _ B2H.out
                have FHH : Hid (RdE N s (j, none) (w2.setCell ⟨N, 1, none⟩ (.int .i64 (j : Int))) ∧ wr.grownBy (w2.setCell ⟨N, 1, none⟩ (.int .i64 (j : Int))) (some N)) := FH
                have z2 := (keep.out _ B2H.out).cells.2.2.2
                have d1 := S2.2
                clear FH
                go_wp2_with fail
                go_ret
                rw [hn.out]
                exact ⟨rfl, FHH.out⟩
              · have e2 : (F.toList == (s.extract k j).toList) = false := beq_eq_false_iff_ne.2 (by rw [Lib.toList_data, Lib.toList_data]; exact fun q => hdiff.out hs2 (by rw [← ba_of F, q, ba_of]))
                have hn : Hid (numD nvL l (k, none) = (0, (k, some (k : Int)))) := hnum.out.trans (if_neg hs2)
                clear hsame hdiff hnum hs2
                go_wp2_with fail
                go_region_held3 (fun W0 => W0.cell? ⟨N, 0, none⟩ = some (.string s) ∧ W0.cell? ⟨N, 1, none⟩ = some (.int .i64 (k : Int))) (first | assumption) (first
                  | (go_at_call 36; (with_reducible refine Calls.mono (cF.out _ B1H.out.drew) ?_); rintro e w2 ⟨rfl, B2⟩; have S2 := hcel.out _ B2; have B2H : Hid (Below wr.heap.size wr w2) := B2; clear B2))
                have d1 := S2.2
                have R2H : Hid (RdE N s (k, none) w2) := keep.out _ B2H.out
                go_wp2_with fail
                refine Calls.mono (cX.out _ R2H.out) ?_
                rintro e w3 ⟨rfl, R3, G3⟩
                have FH : Hid (RdE N s (k, some (k : Int)) w3 ∧ wr.grownBy w3 (some N)) := ⟨R3, grown_trans (grown_of_below N B2H.out) G3⟩
                clear R3 G3
                go_wp2_with fail
                go_ret
                rw [hn.out]
                exact ⟨rfl, FH.out⟩
          · have hjI : ¬ (j : Int) < (s.size : Int) := by omega
            have eE := stopH.out j (Or.inl hjl) hj.out
            subst eE
            clear stepH stopH startA startB hj
            go_wp2_with fail
            have hTe := hTH.out
            subst hTe
            clear hTH
            have S0 : wr.cell? ⟨N, 0, none⟩ = some (.string s) ∧ wr.cell? ⟨N, 1, none⟩ = some (.int .i64 (k : Int)) := ⟨c1, c2⟩
            go_region_held3 (fun W0 => W0.cell? ⟨N, 0, none⟩ = some (.string s) ∧ W0.cell? ⟨N, 1, none⟩ = some (.int .i64 (k : Int))) (first | assumption) (first
              | (go_at_call 156; (with_reducible refine Calls.mono (cI.out _ hb0.out) ?_); rintro e w1 ⟨⟨x1, rfl⟩, B1⟩; have S1 := hcel.out _ B1; have B1H : Hid (Below wr.heap.size wr w1) := B1; clear B1))
            by_cases hs2 : Lib.itoa v = tl
            · have e1 := hsame.out hs2
              have hn : Hid (numD nvL l (k, none) = (v, (j, none))) := hnum.out.trans (if_pos hs2)
              subst e1
              clear hsame hdiff hnum
              go_wp2_with fail
              go_region_held3 (fun W0 => W0.cell? ⟨N, 0, none⟩ = some (.string s) ∧ W0.cell? ⟨N, 1, none⟩ = some (.int .i64 (k : Int))) (first | assumption) (first
                | (go_at_call 36; (with_reducible refine Calls.mono (cF.out _ B1H.out.drew) ?_); rintro e w2 ⟨rfl, B2⟩; have S2 := hcel.out _ B2; have B2H : Hid (Below wr.heap.size wr w2) := B2; clear B2))
              have FH := fin.out _ B2H.out
              have FHH : Hid (RdE N s (j, none) (w2.setCell ⟨N, 1, none⟩ (.int .i64 (j : Int))) ∧ wr.grownBy (w2.setCell ⟨N, 1, none⟩ (.int .i64 (j : Int))) (some N)) := FH
              have z2 := (keep.out _ B2H.out).cells.2.2.2
              have d1 := S2.2
              clear FH
              go_wp2_with fail
              go_ret
              rw [hn.out]
              exact ⟨rfl, FHH.out⟩
            · have e2 : (F.toList == (s.extract k j).toList) = false := beq_eq_false_iff_ne.2 (by rw [Lib.toList_data, Lib.toList_data]; exact fun q => hdiff.out hs2 (by rw [← ba_of F, q, ba_of]))
              have hn : Hid (numD nvL l (k, none) = (0, (k, some (k : Int)))) := hnum.out.trans (if_neg hs2)
              clear hsame hdiff hnum hs2
              go_wp2_with fail
              go_region_held3 (fun W0 => W0.cell? ⟨N, 0, none⟩ = some (.string s) ∧ W0.cell? ⟨N, 1, none⟩ = some (.int .i64 (k : Int))) (first | assumption) (first
                | (go_at_call 36; (with_reducible refine Calls.mono (cF.out _ B1H.out.drew) ?_); rintro e w2 ⟨rfl, B2⟩; have S2 := hcel.out _ B2; have B2H : Hid (Below wr.heap.size wr w2) := B2; clear B2))
              have d1 := S2.2
              have R2H : Hid (RdE N s (k, none) w2) := keep.out _ B2H.out
              go_wp2_with fail
              refine Calls.mono (cX.out _ R2H.out) ?_
              rintro e w3 ⟨rfl, R3, G3⟩
              have FH : Hid (RdE N s (k, some (k : Int)) w3 ∧ wr.grownBy w3 (some N)) := ⟨R3, grown_trans (grown_of_below N B2H.out) G3⟩
              clear R3 G3
              go_wp2_with fail
              go_ret
              rw [hn.out]
              exact ⟨rfl, FH.out⟩
      · have h45I : ((x.toNat : Int) == 45) = false := by
          have : x.toNat ≠ 45 := fun h => h45 (UInt8.toNat_inj.1 h)
          simp; omega
        have st0 : Hid (k + digR (l.drop k) = E) := startB.out (Or.inr (by rw [hx]; exact h45))
        clear hx h45
        go_enter Tryz.func126, Tryz.ntmps126
        go_wp2_with fail
        clear h45I
        go_loopw [3] (fun v wr => ∃ (j : Nat), v = .int .i64 (j : Int) ∧ k ≤ j ∧ j ≤ s.size ∧ Hid (j + digR (l.drop j) = E) ∧ wr = W) (fun v _ => s.size - (intOf v).toNat)
        case atStart => exact ⟨k, rfl, by omega, by omega, st0, rfl⟩
        case round =>
          obtain ⟨j, rfl, hkj, hjs, hj, rfl⟩ := hrel
          clear st0
          have j0 : (0 : Int) ≤ (j : Int) := by omega
          have wi : IntKind.i64.wrap ((j : Int) + 1) = ((j + 1 : Nat) : Int) := IntWalk.i64_in _ (by omega)
          have wk : wrap64 ((j : Int) + 1) = ((j + 1 : Nat) : Int) := IntWalk.wrap64_in _ (by omega)
          by_cases hjl : j < s.size
          · have hjI : (j : Int) < (s.size : Int) := by omega
            obtain ⟨x, hx⟩ : ∃ x, s.get! j = x := ⟨_, rfl⟩
            have hsj : s[j]'hjl = x := get_at s j hjl x hx
            by_cases h48 : 48 ≤ x.toNat
            · have h48I : (48 : Int) ≤ (x.toNat : Int) := by omega
              by_cases h57 : x.toNat ≤ 57
              · have h57I : (x.toNat : Int) ≤ 57 := by omega
                have nx : Hid ((j + 1) + digR (l.drop (j + 1)) = E) := stepH.out j x hjl hx (by rw [isDg_toNat, decide_eq_true h48, decide_eq_true h57]; rfl) hj.out
                clear hx h48 h57
                go_wp2_with fail
                go_roundw
                case measure => simp only [intOf]; omega
                case rel => exact ⟨j + 1, rfl, by omega, by omega, nx, by first | rfl | trivial⟩
              · have h57I : ¬ (x.toNat : Int) ≤ 57 := by omega
                have eE := stopH.out j (Or.inr (by rw [hx, isDg_toNat, decide_eq_false h57]; simp)) hj.out
                clear hx h48 h57
                subst eE
                clear stepH stopH startA startB hj
                go_wp2_with fail
                have hTe := hTH.out
                subst hTe
                clear hTH
                have S0 : wr.cell? ⟨N, 0, none⟩ = some (.string s) ∧ wr.cell? ⟨N, 1, none⟩ = some (.int .i64 (k : Int)) := ⟨c1, c2⟩
                go_region_held3 (fun W0 => W0.cell? ⟨N, 0, none⟩ = some (.string s) ∧ W0.cell? ⟨N, 1, none⟩ = some (.int .i64 (k : Int))) (first | assumption) (first
                  | (go_at_call 156; (with_reducible refine Calls.mono (cI.out _ hb0.out) ?_); rintro e w1 ⟨⟨x1, rfl⟩, B1⟩; have S1 := hcel.out _ B1; have B1H : Hid (Below wr.heap.size wr w1) := B1; clear B1))
                by_cases hs2 : Lib.itoa v = tl
                · have e1 := hsame.out hs2
                  have hn : Hid (numD nvL l (k, none) = (v, (j, none))) := hnum.out.trans (if_pos hs2)
                  subst e1
                  clear hsame hdiff hnum
                  go_wp2_with fail
                  go_region_held3 (fun W0 => W0.cell? ⟨N, 0, none⟩ = some (.string s) ∧ W0.cell? ⟨N, 1, none⟩ = some (.int .i64 (k : Int))) (first | assumption) (first
                    | (go_at_call 36; (with_reducible refine Calls.mono (cF.out _ B1H.out.drew) ?_); rintro e w2 ⟨rfl, B2⟩; have S2 := hcel.out _ B2; have B2H : Hid (Below wr.heap.size wr w2) := B2; clear B2))
                  have FH := fin.out _ B2H.out
                  have FHH : Hid (RdE N s (j, none) (w2.setCell ⟨N, 1, none⟩ (.int .i64 (j : Int))) ∧ wr.grownBy (w2.setCell ⟨N, 1, none⟩ (.int .i64 (j : Int))) (some N)) := FH
                  have z2 := (keep.out _ B2H.out).cells.2.2.2
                  have d1 := S2.2
                  clear FH
                  go_wp2_with fail
                  go_ret
                  rw [hn.out]
                  exact ⟨rfl, FHH.out⟩
                · have e2 : (F.toList == (s.extract k j).toList) = false := beq_eq_false_iff_ne.2 (by rw [Lib.toList_data, Lib.toList_data]; exact fun q => hdiff.out hs2 (by rw [← ba_of F, q, ba_of]))
                  have hn : Hid (numD nvL l (k, none) = (0, (k, some (k : Int)))) := hnum.out.trans (if_neg hs2)
                  clear hsame hdiff hnum hs2
                  go_wp2_with fail
                  go_region_held3 (fun W0 => W0.cell? ⟨N, 0, none⟩ = some (.string s) ∧ W0.cell? ⟨N, 1, none⟩ = some (.int .i64 (k : Int))) (first | assumption) (first
                    | (go_at_call 36; (with_reducible refine Calls.mono (cF.out _ B1H.out.drew) ?_); rintro e w2 ⟨rfl, B2⟩; have S2 := hcel.out _ B2; have B2H : Hid (Below wr.heap.size wr w2) := B2; clear B2))
                  have d1 := S2.2
                  have R2H : Hid (RdE N s (k, none) w2) := keep.out _ B2H.out
                  go_wp2_with fail
                  refine Calls.mono (cX.out _ R2H.out) ?_
                  rintro e w3 ⟨rfl, R3, G3⟩
                  have FH : Hid (RdE N s (k, some (k : Int)) w3 ∧ wr.grownBy w3 (some N)) := ⟨R3, grown_trans (grown_of_below N B2H.out) G3⟩
                  clear R3 G3
                  go_wp2_with fail
                  go_ret
                  rw [hn.out]
                  exact ⟨rfl, FH.out⟩
            · have h48I : ¬ (48 : Int) ≤ (x.toNat : Int) := by omega
              have eE := stopH.out j (Or.inr (by rw [hx, isDg_toNat, decide_eq_false h48]; rfl)) hj.out
              clear hx h48
              subst eE
              clear stepH stopH startA startB hj
              go_wp2_with fail
              have hTe := hTH.out
              subst hTe
              clear hTH
              have S0 : wr.cell? ⟨N, 0, none⟩ = some (.string s) ∧ wr.cell? ⟨N, 1, none⟩ = some (.int .i64 (k : Int)) := ⟨c1, c2⟩
              go_region_held3 (fun W0 => W0.cell? ⟨N, 0, none⟩ = some (.string s) ∧ W0.cell? ⟨N, 1, none⟩ = some (.int .i64 (k : Int))) (first | assumption) (first
                | (go_at_call 156; (with_reducible refine Calls.mono (cI.out _ hb0.out) ?_); rintro e w1 ⟨⟨x1, rfl⟩, B1⟩; have S1 := hcel.out _ B1; have B1H : Hid (Below wr.heap.size wr w1) := B1; clear B1))
              by_cases hs2 : Lib.itoa v = tl
              · have e1 := hsame.out hs2
                have hn : Hid (numD nvL l (k, none) = (v, (j, none))) := hnum.out.trans (if_pos hs2)
                subst e1
                clear hsame hdiff hnum
                go_wp2_with fail
                go_region_held3 (fun W0 => W0.cell? ⟨N, 0, none⟩ = some (.string s) ∧ W0.cell? ⟨N, 1, none⟩ = some (.int .i64 (k : Int))) (first | assumption) (first
                  | (go_at_call 36; (with_reducible refine Calls.mono (cF.out _ B1H.out.drew) ?_); rintro e w2 ⟨rfl, B2⟩; have S2 := hcel.out _ B2; have B2H : Hid (Below wr.heap.size wr w2) := B2; clear B2))
                have FH := fin.out _ B2H.out
                have FHH : Hid (RdE N s (j, none) (w2.setCell ⟨N, 1, none⟩ (.int .i64 (j : Int))) ∧ wr.grownBy (w2.setCell ⟨N, 1, none⟩ (.int .i64 (j : Int))) (some N)) := FH
                have z2 := (keep.out _ B2H.out).cells.2.2.2
                have d1 := S2.2
                clear FH
                go_wp2_with fail
                go_ret
                rw [hn.out]
                exact ⟨rfl, FHH.out⟩
              · have e2 : (F.toList == (s.extract k j).toList) = false := beq_eq_false_iff_ne.2 (by rw [Lib.toList_data, Lib.toList_data]; exact fun q => hdiff.out hs2 (by rw [← ba_of F, q, ba_of]))
                have hn : Hid (numD nvL l (k, none) = (0, (k, some (k : Int)))) := hnum.out.trans (if_neg hs2)
                clear hsame hdiff hnum hs2
                go_wp2_with fail
                go_region_held3 (fun W0 => W0.cell? ⟨N, 0, none⟩ = some (.string s) ∧ W0.cell? ⟨N, 1, none⟩ = some (.int .i64 (k : Int))) (first | assumption) (first
                  | (go_at_call 36; (with_reducible refine Calls.mono (cF.out _ B1H.out.drew) ?_); rintro e w2 ⟨rfl, B2⟩; have S2 := hcel.out _ B2; have B2H : Hid (Below wr.heap.size wr w2) := B2; clear B2))
                have d1 := S2.2
                have R2H : Hid (RdE N s (k, none) w2) := keep.out _ B2H.out
                go_wp2_with fail
                refine Calls.mono (cX.out _ R2H.out) ?_
                rintro e w3 ⟨rfl, R3, G3⟩
                have FH : Hid (RdE N s (k, some (k : Int)) w3 ∧ wr.grownBy w3 (some N)) := ⟨R3, grown_trans (grown_of_below N B2H.out) G3⟩
                clear R3 G3
                go_wp2_with fail
                go_ret
                rw [hn.out]
                exact ⟨rfl, FH.out⟩
          · have hjI : ¬ (j : Int) < (s.size : Int) := by omega
            have eE := stopH.out j (Or.inl hjl) hj.out
            subst eE
            clear stepH stopH startA startB hj
            go_wp2_with fail
            have hTe := hTH.out
            subst hTe
            clear hTH
            have S0 : wr.cell? ⟨N, 0, none⟩ = some (.string s) ∧ wr.cell? ⟨N, 1, none⟩ = some (.int .i64 (k : Int)) := ⟨c1, c2⟩
            go_region_held3 (fun W0 => W0.cell? ⟨N, 0, none⟩ = some (.string s) ∧ W0.cell? ⟨N, 1, none⟩ = some (.int .i64 (k : Int))) (first | assumption) (first
              | (go_at_call 156; (with_reducible refine Calls.mono (cI.out _ hb0.out) ?_); rintro e w1 ⟨⟨x1, rfl⟩, B1⟩; have S1 := hcel.out _ B1; have B1H : Hid (Below wr.heap.size wr w1) := B1; clear B1))
            by_cases hs2 : Lib.itoa v = tl
            · have e1 := hsame.out hs2
              have hn : Hid (numD nvL l (k, none) = (v, (j, none))) := hnum.out.trans (if_pos hs2)
              subst e1
              clear hsame hdiff hnum
              go_wp2_with fail
              go_region_held3 (fun W0 => W0.cell? ⟨N, 0, none⟩ = some (.string s) ∧ W0.cell? ⟨N, 1, none⟩ = some (.int .i64 (k : Int))) (first | assumption) (first
                | (go_at_call 36; (with_reducible refine Calls.mono (cF.out _ B1H.out.drew) ?_); rintro e w2 ⟨rfl, B2⟩; have S2 := hcel.out _ B2; have B2H : Hid (Below wr.heap.size wr w2) := B2; clear B2))
              have FH := fin.out _ B2H.out
              have FHH : Hid (RdE N s (j, none) (w2.setCell ⟨N, 1, none⟩ (.int .i64 (j : Int))) ∧ wr.grownBy (w2.setCell ⟨N, 1, none⟩ (.int .i64 (j : Int))) (some N)) := FH
              have z2 := (keep.out _ B2H.out).cells.2.2.2
              have d1 := S2.2
              clear FH
              go_wp2_with fail
              go_ret
              rw [hn.out]
              exact ⟨rfl, FHH.out⟩
            · have e2 : (F.toList == (s.extract k j).toList) = false := beq_eq_false_iff_ne.2 (by rw [Lib.toList_data, Lib.toList_data]; exact fun q => hdiff.out hs2 (by rw [← ba_of F, q, ba_of]))
              have hn : Hid (numD nvL l (k, none) = (0, (k, some (k : Int)))) := hnum.out.trans (if_neg hs2)
              clear hsame hdiff hnum hs2
              go_wp2_with fail
              go_region_held3 (fun W0 => W0.cell? ⟨N, 0, none⟩ = some (.string s) ∧ W0.cell? ⟨N, 1, none⟩ = some (.int .i64 (k : Int))) (first | assumption) (first
                | (go_at_call 36; (with_reducible refine Calls.mono (cF.out _ B1H.out.drew) ?_); rintro e w2 ⟨rfl, B2⟩; have S2 := hcel.out _ B2; have B2H : Hid (Below wr.heap.size wr w2) := B2; clear B2))
              have d1 := S2.2
              have R2H : Hid (RdE N s (k, none) w2) := keep.out _ B2H.out
              go_wp2_with fail
              refine Calls.mono (cX.out _ R2H.out) ?_
              rintro e w3 ⟨rfl, R3, G3⟩
              have FH : Hid (RdE N s (k, some (k : Int)) w3 ∧ wr.grownBy w3 (some N)) := ⟨R3, grown_trans (grown_of_below N B2H.out) G3⟩
              clear R3 G3
              go_wp2_with fail
              go_ret
              rw [hn.out]
              exact ⟨rfl, FH.out⟩
    · have hkI : ¬ (k : Int) < (s.size : Int) := by omega
      have st0 : Hid (k + digR (l.drop k) = E) := startB.out (Or.inl hk)
      go_enter Tryz.func126, Tryz.ntmps126
      go_wp2_with fail
      go_loopw [3] (fun v wr => ∃ (j : Nat), v = .int .i64 (j : Int) ∧ k ≤ j ∧ j ≤ s.size ∧ Hid (j + digR (l.drop j) = E) ∧ wr = W) (fun v _ => s.size - (intOf v).toNat)
      case atStart => exact ⟨k, rfl, by omega, by omega, st0, rfl⟩
      case round =>
        obtain ⟨j, rfl, hkj, hjs, hj, rfl⟩ := hrel
        clear st0
        have j0 : (0 : Int) ≤ (j : Int) := by omega
        have wi : IntKind.i64.wrap ((j : Int) + 1) = ((j + 1 : Nat) : Int) := IntWalk.i64_in _ (by omega)
        have wk : wrap64 ((j : Int) + 1) = ((j + 1 : Nat) : Int) := IntWalk.wrap64_in _ (by omega)
        by_cases hjl : j < s.size
        · exact absurd hjl (by omega)
        · have hjI : ¬ (j : Int) < (s.size : Int) := by omega
          have eE := stopH.out j (Or.inl hjl) hj.out
          subst eE
          clear stepH stopH startA startB hj
          go_wp2_with fail
          have hTe := hTH.out
          subst hTe
          clear hTH
          have S0 : wr.cell? ⟨N, 0, none⟩ = some (.string s) ∧ wr.cell? ⟨N, 1, none⟩ = some (.int .i64 (k : Int)) := ⟨c1, c2⟩
          go_region_held3 (fun W0 => W0.cell? ⟨N, 0, none⟩ = some (.string s) ∧ W0.cell? ⟨N, 1, none⟩ = some (.int .i64 (k : Int))) (first | assumption) (first
            | (go_at_call 156; (with_reducible refine Calls.mono (cI.out _ hb0.out) ?_); rintro e w1 ⟨⟨x1, rfl⟩, B1⟩; have S1 := hcel.out _ B1; have B1H : Hid (Below wr.heap.size wr w1) := B1; clear B1))
          by_cases hs2 : Lib.itoa v = tl
          · have e1 := hsame.out hs2
            have hn : Hid (numD nvL l (k, none) = (v, (j, none))) := hnum.out.trans (if_pos hs2)
            subst e1
            clear hsame hdiff hnum
            go_wp2_with fail
            go_region_held3 (fun W0 => W0.cell? ⟨N, 0, none⟩ = some (.string s) ∧ W0.cell? ⟨N, 1, none⟩ = some (.int .i64 (k : Int))) (first | assumption) (first
              | (go_at_call 36; (with_reducible refine Calls.mono (cF.out _ B1H.out.drew) ?_); rintro e w2 ⟨rfl, B2⟩; have S2 := hcel.out _ B2; have B2H : Hid (Below wr.heap.size wr w2) := B2; clear B2))
            have FH := fin.out _ B2H.out
            have FHH : Hid (RdE N s (j, none) (w2.setCell ⟨N, 1, none⟩ (.int .i64 (j : Int))) ∧ wr.grownBy (w2.setCell ⟨N, 1, none⟩ (.int .i64 (j : Int))) (some N)) := FH
            have z2 := (keep.out _ B2H.out).cells.2.2.2
            have d1 := S2.2
            clear FH
            go_wp2_with fail
            go_ret
            rw [hn.out]
            exact ⟨rfl, FHH.out⟩
          · have e2 : (F.toList == (s.extract k j).toList) = false := beq_eq_false_iff_ne.2 (by rw [Lib.toList_data, Lib.toList_data]; exact fun q => hdiff.out hs2 (by rw [← ba_of F, q, ba_of]))
            have hn : Hid (numD nvL l (k, none) = (0, (k, some (k : Int)))) := hnum.out.trans (if_neg hs2)
            clear hsame hdiff hnum hs2
            go_wp2_with fail
            go_region_held3 (fun W0 => W0.cell? ⟨N, 0, none⟩ = some (.string s) ∧ W0.cell? ⟨N, 1, none⟩ = some (.int .i64 (k : Int))) (first | assumption) (first
              | (go_at_call 36; (with_reducible refine Calls.mono (cF.out _ B1H.out.drew) ?_); rintro e w2 ⟨rfl, B2⟩; have S2 := hcel.out _ B2; have B2H : Hid (Below wr.heap.size wr w2) := B2; clear B2))
            have d1 := S2.2
            have R2H : Hid (RdE N s (k, none) w2) := keep.out _ B2H.out
            go_wp2_with fail
            refine Calls.mono (cX.out _ R2H.out) ?_
            rintro e w3 ⟨rfl, R3, G3⟩
            have FH : Hid (RdE N s (k, some (k : Int)) w3 ∧ wr.grownBy w3 (some N)) := ⟨R3, grown_trans (grown_of_below N B2H.out) G3⟩
            clear R3 G3
            go_wp2_with fail
            go_ret
            rw [hn.out]
            exact ⟨rfl, FH.out⟩
end Go.Proofs.YtbojljmacheccaaGreatDoor.Ln
