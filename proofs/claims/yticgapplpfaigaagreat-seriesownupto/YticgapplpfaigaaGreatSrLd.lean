
import Derived.Test.YticgapplpfaigaaGreatSrLc
namespace Go.Proofs.YticgapplpfaigaaGreat
open Go.RowKit Go.Maps Go.Sort Go.Shelf
set_option linter.unusedVariables false
set_option linter.unusedSimpArgs false
theorem own_keepD {w w' : World} {B n : Nat} {v : Value} {xs : List Value} (h : w.ownsRow B 95 10 v n xs) (hk : ∀ g, v.ownBlock = some g → w'.heap[g]? = w.heap[g]?) : w'.ownsRow B 95 10 v n xs := by
  refine ⟨h.1, ?_⟩
  rcases h.2 with h2 | ⟨g, cap, cur, e1, e2, e3, e4⟩
  · exact Or.inl h2
  · exact Or.inr ⟨g, cap, cur, e1, e2, by rw [hk g (by rw [e1]; rfl)]; exact e3, e4⟩
theorem own_lowD {w : World} {B C n : Nat} {v : Value} {xs : List Value} (h : w.ownsRow C 95 10 v n xs) (hB : B ≤ C) : w.ownsRow B 95 10 v n xs := by
  refine ⟨h.1, ?_⟩
  rcases h.2 with h2 | ⟨g, cap, cur, e1, e2, e3, e4⟩
  · exact Or.inl h2
  · exact Or.inr ⟨g, cap, cur, e1, Nat.le_trans hB e2, e3, e4⟩
theorem valOf_ok {L : List Smp} (hL : ∀ s ∈ L, s.ok) {t : Int} {p : Nat × Int} (h : valOf L t = some p) : Smp.ok ⟨t, p.1, p.2⟩ := by
  unfold valOf at h
  obtain ⟨s, hs, rfl⟩ := Option.map_eq_some_iff.1 h
  have hm := List.mem_of_find?_eq_some hs
  have hst := List.find?_some hs
  simp at hst
  subst hst
  exact hL s (by simpa using hm)
set_option maxRecDepth 100000 in
set_option maxHeartbeats 4000000 in
theorem load_any (N B : Nat) (v : Value) (l L : List Smp) (a : Option Addr) (cap : Nat) (w : World) (h : SS N B v l w) (hL : LIn w a L) (hn : l.length + L.length ≤ 1000000000000) :
    Calls Tryz.prog 11 #[.pointer (some ⟨N, 0, none⟩), .slice a L.length cap] w fun e w' => ∃ r v' K, e = .returned r ∧ K.Pairwise (· < ·) ∧ (∀ t, t ∈ K ↔ (valOf L t).isSome = true) ∧ SS N B v' (loadL (fun t => (valOf L t).getD (0, 0)) l K) w' ∧ SFr N v v' w w' ∧ w'.ownsRow w.heap.size 95 10 r (dlL (fun t => (valOf L t).getD (0, 0)) l K).length (encD (dlL (fun t => (valOf L t).getD (0, 0)) l K)) ∧ (∀ g, r.ownBlock = some g → v'.ownBlock ≠ some g) ∧ K.length ≤ L.length := by
  have hH : Hid (SS N B v l w) := h
  have hLH : Hid (LIn w a L) := hL
  clear h hL
  have hmk : ∀ W, (Instr.makeMap 96 none).run Tryz.prog W = .ok (.map (some W.heap.size)) (W.alloc (.map #[] 0)) := fun W => by
    first | exact run_makeMap_none W | (simp [Instr.makeMap, go_sem]; done) | (unfold Instr.makeMap; simp [newObj, go_sem])
  go_enter Tryz.func11, Tryz.ntmps11
  go_wp2_with fail
  have hM0 : Hid (MS (w.alloc (.map #[] 0)) w.heap.size []) := MS.start w
  have hB0 := below_new (Below.refl _ w) (.map #[] 0)
  generalize hmb : w.heap.size = mb at hM0 ⊢
  have hmbH : Hid (w.heap.size = mb) := hmb
  obtain ⟨nL, hnL⟩ : ∃ nL, nL = L.length := ⟨_, rfl⟩
  have hnLH : Hid (nL = L.length) := hnL
  rw [← hnL] at hn ⊢
  clear hmb hnL hmk
  go_loopw [20] (fun i wr => ∃ k : Nat, k ≤ nL ∧ i = .int .i64 (k : Int) ∧ Below mb w wr ∧ Hid (MS wr mb (L.take k))) (fun i _ => nL - (intOf i).toNat)
  case atStart => exact ⟨0, by omega, rfl, (by rw [← hmbH.out]; exact hB0), (by rw [List.take_zero]; exact hM0.out)⟩
  case round =>
    obtain ⟨k, hk, rfl, hB, hM⟩ := hrel
    clear hM0 hB0
    by_cases hkn : k < nL
    · have hkI : (k : Int) < (nL : Int) := by omega
      have k0 : (0 : Int) ≤ (k : Int) := by omega
      obtain ⟨b, off, s, rfl, hb, hs, d1, d2, d3⟩ := LIn.at hLH.out (hB.mono (by rw [hmbH.out]; exact Nat.le_refl _)) (by rw [← hnLH.out]; exact hkn)
      have hsok : Hid s.ok := hLH.out.1 s (List.mem_of_getElem? hs)
      obtain ⟨w1, hr1, hM1, hg1⟩ := MS.put (w := wr.alloc (.cells #[.int .i64 s.t, .int .u8 (s.k : Int), .int .i64 s.x] 89)) (MS.below hM.out ((Below.refl _ _).alloc (Nat.le_refl _) _) (MS.lt hM.out)) s hsok.out (by rw [List.length_take]; omega)
      have hr1H : Hid _ := hr1
      have hM1H : Hid (MS w1 mb (L.take (k + 1))) := by
        have e : L.take (k + 1) = L.take k ++ [s] := by
          obtain ⟨h1, h2⟩ := List.getElem?_eq_some_iff.1 hs
          rw [List.take_succ_eq_append_getElem h1, h2]
        show MS w1 mb (L.take (k + 1))
        rw [e]; exact hM1
      have hB1 : Below mb w w1 := by
        have hm := MS.lt hM.out
        have h0 : Below mb w (wr.alloc (.cells #[.int .i64 s.t, .int .u8 (s.k : Int), .int .i64 s.x] 89)) := hB.alloc (by omega) _
        exact h0.grown hg1 (by simp; omega) (fun k e => by injection e with e; omega)
      clear hr1 hM1 hg1 hs
      go_wp2_with (at_mapUpdate; refine wpList_mapUpdate_run (by rfl) _ _ _ _ (by rfl) _ _ _ _ (by rfl) (by rfl) (by rfl) hr1H.out ?_)
      go_roundw
      case rel => exact ⟨k + 1, by omega, by go_num, hB1, hM1H.out⟩
      case measure => simp [intOf]; omega
    · obtain rfl : nL = k := by omega
      have hKnn : Hid (∀ x : Nat, x ≤ L.length → x ≤ nL) := fun x hx => by rw [hnLH.out]; exact hx
      have hMn : Hid (MS wr mb L) := by
        have := hM.out
        rw [hnLH.out, List.take_length] at this; exact this
      obtain ⟨nn, D, hown, hnn, hD⟩ := hMn.out
      have hkc : Hid _ := keys_call (some mb) wr
      have hsc : Hid _ := sorted_call mb nn D valE wr hown (by have := hown.size_le; have := hnLH.out; have h3 : maxLen = 9223372036854775807 := rfl; omega) (by have := hown.size_le; have := hnLH.out; omega)
      have hkeys : Hid (∀ ss : List Int, ss.Perm (intKeys D) → (ss.mergeSort (fun x y => decide (x ≤ y))).Pairwise (· < ·) ∧ (∀ t, t ∈ ss.mergeSort (fun x y => decide (x ≤ y)) ↔ (valOf L t).isSome = true) ∧ (ss.mergeSort (fun x y => decide (x ≤ y))).length = ss.length ∧ ss.length ≤ L.length) := fun ss hp => MS.keys hown (fun t => (hD t).1) hnn hp
      clear hown hD hM
      go_wp2_with fail
      refine Calls.mono hkc.out ?_
      rintro e w1 ⟨rfl, rfl⟩
      go_wp2_with fail
      refine Calls.mono hsc.out ?_
      rintro e w2 ⟨kv, ss, rfl, hperm, hrow, hB2⟩
      obtain ⟨K, hKe⟩ : ∃ K, K = ss.mergeSort (fun x y => decide (x ≤ y)) := ⟨_, rfl⟩
      obtain ⟨hKr, hKm, hKl, hKn⟩ := hkeys.out ss hperm
      rw [← hKe] at hrow hKr hKm hKl
      rw [← hKl] at hrow hKn
      clear hsc hkc hkeys hperm hKe hKl ss
      obtain ⟨ka, kc, rfl, hkv⟩ : ∃ ka kc, kv = .slice ka K.length kc ∧ (K = [] ∨ ∃ g, ka = some ⟨g, 0, none⟩ ∧ w.heap.size ≤ g ∧ g < w2.heap.size ∧ ∀ i t, K[i]? = some t → w2.cell? ⟨g, i, none⟩ = some (.int .i64 t)) := by
        rcases hrow.2 with ⟨e, e0⟩ | ⟨g, cap, cur, e1, hg0, _⟩
        · exact ⟨none, 0, by rw [e, e0], Or.inl (List.eq_nil_of_length_eq_zero e0)⟩
        · refine ⟨some ⟨g, 0, none⟩, cap, e1, Or.inr ⟨g, rfl, Nat.le_trans hB.size hg0, (hrow.lt g (by rw [e1]; rfl)).2, fun i t ht => ?_⟩⟩
          have := hrow.cells (g := g) (by rw [e1]; rfl) i (.int .i64 t) (by rw [List.getElem?_map, ht]; rfl)
          rw [smp_add, Nat.zero_add] at this; exact this
      have hkvH : Hid _ := hkv
      have hB02 : Below mb w w2 := hB.trans (hB2.mono (Nat.le_of_lt (MS.lt hMn.out)))
      have hM2 : Hid (MS w2 mb L) := MS.below hMn.out hB2 (MS.lt hMn.out)
      have hKrH : Hid (K.Pairwise (· < ·)) := hKr
      have hKmH : Hid (∀ t, t ∈ K ↔ (valOf L t).isSome = true) := hKm
      have hS2 : Hid (SS N B v l w2) := SS.below hH.out (by rw [hmbH.out]; exact hB02)
      clear hrow hkv hKr hKm
      obtain ⟨nK, hnK⟩ : ∃ nK, nK = K.length := ⟨_, rfl⟩
      have hnKH : Hid (nK = K.length) := hnK
      rw [← hnK] at hKn ⊢
      have hKn := hKnn.out _ hKn
      clear hnK
      obtain ⟨nv, hnv⟩ : ∃ nv : Int → Nat × Int, nv = fun t => (valOf L t).getD (0, 0) := ⟨_, rfl⟩
      have hnvH : Hid (nv = fun t => (valOf L t).getD (0, 0)) := hnv
      clear hnv
      have hvl : ∀ g, v.ownBlock = some g → g < w.heap.size := fun g e => hH.out.row.lt e
      have hNw : N < w.heap.size := hH.out.hN
      have hw2 : w.heap.size ≤ w2.heap.size := hB02.size
      have hmb2 : mb < w2.heap.size := MS.lt hM2.out
      have hmbw : w.heap.size = mb := hmbH.out
      go_wp2_with fail
      go_loopw [8, 9, 34] (fun dv fv i wx => ∃ k : Nat, k ≤ nK ∧ i = .int .i64 (k : Int) ∧ Hid (LdS N B v l nv K w2 wx dv fv k)) (fun _ _ i _ => nK - (intOf i).toNat)
      case atStart => exact ⟨0, by omega, rfl, ⟨by simpa [chgL] using hS2.out, SFr.of (Below.refl _ _), by simpa [frL, encL] using World.ownsRow_nil _ _ _ _, by simpa [dlL, encD] using World.ownsRow_nil _ _ _ _, fun k e => by simp [Value.ownBlock] at e⟩⟩
      case round =>
        obtain ⟨k, hk, rfl, hLd⟩ := hrel
        by_cases hkn : k < nK
        · have hkI : (k : Int) < (nK : Int) := by omega
          have k0 : (0 : Int) ≤ (k : Int) := by omega
          obtain ⟨t, ht⟩ : ∃ t, K[k]? = some t := ⟨_, List.getElem?_eq_getElem (by rw [← hnKH.out]; exact hkn)⟩
          obtain ⟨g, rfl, hg1, hg2, hgc⟩ : ∃ g, ka = some ⟨g, 0, none⟩ ∧ w.heap.size ≤ g ∧ g < w2.heap.size ∧ ∀ i t, K[i]? = some t → w2.cell? ⟨g, i, none⟩ = some (.int .i64 t) := by
            rcases hkvH.out with h0 | h1
            · rw [h0] at ht; simp at ht
            · exact h1
          have hgk : wr.heap[g]? = w2.heap[g]? := hLd.out.fr.keep g hg2 (by omega) (fun e => by have := hvl g e.symm; omega)
          have hmk2 : wr.heap[mb]? = w2.heap[mb]? := hLd.out.fr.keep mb hmb2 (by omega) (fun e => by have := hvl mb e.symm; omega)
          have c1 : wr.cell? ⟨g, k, none⟩ = some (.int .i64 t) := by rw [World.cell?_of_block (w := w2) hgk]; exact hgc k t ht
          have hMr : Hid (MS wr mb L) := MS.keep hM2.out hmk2
          have hz2 : w2.heap.size ≤ wr.heap.size := hLd.out.fr.b.size
          obtain ⟨p, hp⟩ : ∃ p, valOf L t = some p := Option.isSome_iff_exists.1 ((hKmH.out t).1 (List.mem_of_getElem? ht))
          have hnt : Hid (nv t = p) := by show nv t = p; rw [hnvH.out]; simp [hp]
          have hpH : Hid (valOf L t = some p) := hp
          have hpk : p.1 < 256 ∧ -9223372036854775808 ≤ p.2 ∧ p.2 ≤ 9223372036854775807 ∧ -9223372036854775808 ≤ t ∧ t ≤ 9223372036854775807 := by
            unfold valOf at hp
            obtain ⟨s, hs, rfl⟩ := Option.map_eq_some_iff.1 hp
            have hm := List.mem_of_find?_eq_some hs
            have hst := List.find?_some hs
            simp at hst
            have := hLH.out.1 s (by simpa using hm)
            subst hst
            exact ⟨this.2.1, this.2.2.1, this.2.2.2, this.1⟩
          have htn : Hid (t ∉ K.take k) := by
            intro hm
            obtain ⟨j, hj⟩ := List.getElem?_of_mem hm
            rw [List.getElem?_take] at hj
            split at hj
            · rename_i hjk
              have := List.pairwise_iff_getElem.1 hKrH.out j k (List.getElem?_eq_some_iff.1 hj).1 (List.getElem?_eq_some_iff.1 ht).1 hjk
              rw [(List.getElem?_eq_some_iff.1 hj).2, (List.getElem?_eq_some_iff.1 ht).2] at this
              omega
            · cases hj
          have htk : Hid (K.take (k + 1) = K.take k ++ [t]) := by
            show K.take (k + 1) = K.take k ++ [t]
            obtain ⟨h1, h2⟩ := List.getElem?_eq_some_iff.1 ht
            rw [List.take_succ_eq_append_getElem h1, h2]
          have hlr := hH.out.hr
          have hfind : Hid (Calls Tryz.prog 28 #[.pointer (some ⟨N, 0, none⟩), .int .i64 t] wr fun e w' => e = .returned (.tuple #[.int .i64 (ahd l t : Int), .bool (hasT l t)]) ∧ Below wr.heap.size wr w') := by
            have := find_any N B v (chgL nv l (K.take k)) t wr hLd.out.ss
            rw [chgL_ahd nv hlr, chgL_has nv hlr] at this
            exact this
          clear hgk hmk2 ht hp hgc
          go_wp2_with fail
          refine Calls.mono hfind.out ?_
          rintro e w3 ⟨rfl, hB3⟩
          have hM3 := MS.below hMr.out hB3 (MS.lt hMr.out)
          have hlook := MS.look hM3 t hpk.2.2.2 p hpH.out
          have hM3H : Hid (MS w3 mb L) := hM3
          clear hM3 hMr c1 hfind
          have hBx : Below wr.heap.size wr w3 := hB3
          have hfl : ∀ q, u9.ownBlock = some q → w2.heap.size ≤ q ∧ q < wr.heap.size := fun q e => hLd.out.fo.lt q e
          have hdl : ∀ q, u8.ownBlock = some q → w2.heap.size ≤ q ∧ q < wr.heap.size := fun q e => hLd.out.dO.lt q e
          have hz3 : wr.heap.size ≤ w3.heap.size := hB3.size
          have hfo3 := own_keep hLd.out.fo (fun q e => hB3.block q (hfl q e).2)
          have hfrn : (frL nv l (K.take k)).length ≤ nK := by
            unfold frL
            rw [List.length_map]
            have h1 := List.length_filter_le (fun t => !hasT l t) (K.take k)
            rw [List.length_take] at h1
            have := hnKH.out; omega
          have hdln : (dlL nv l (K.take k)).length ≤ nK := by
            unfold dlL
            rw [List.length_map]
            have h1 := List.length_filter_le (isD nv l) (K.take k)
            rw [List.length_take] at h1
            have := hnKH.out; omega
          cases hh : hasT l t with
          | false =>
            have hhH : Hid (hasT l t = false) := hh
            clear hh
            obtain ⟨d, hd⟩ : ∃ d : Dlt, d = ⟨t, false, 0, 0, p.1, p.2⟩ := ⟨_, rfl⟩
            obtain ⟨W2, hW2⟩ : ∃ W2, W2 = (w3.alloc (.cells #[.string ⟨#[]⟩, .slice none 0 0, .string ⟨#[]⟩, .int .i64 t, .bool false, .bool true, .int .u8 0, .int .i64 0, .int .u8 (p.1 : Int), .int .i64 p.2] 95)).alloc (.cells #[.int .i64 t, .int .u8 (p.1 : Int), .int .i64 p.2] 89) := ⟨_, rfl⟩
            have hBW : Below w3.heap.size w3 W2 := by rw [hW2]; exact below_new (below_new (Below.refl _ _) _) _
            have hWs : W2.heap.size = w3.heap.size + 2 := by rw [hW2]; simp
            obtain ⟨fg, fc, w5, hr5, ho5, hg5, hat5, hlt5⟩ := app_row W2 w2.heap.size u9 (frL nv l (K.take k)) [⟨t, p.1, p.2⟩] (Or.inl (own_keep hfo3 (fun q e => hBW.block q (by have := (hfl q e).2; omega)))) (by omega) ⟨w3.heap.size + 1, 0, none⟩ 1 (by
              intro j u hj
              rw [smp_add, Nat.zero_add]
              rcases j with _ | _ | _ | j
              · simp [encL, Smp.enc] at hj; subst hj; rw [hW2]; simp [go_sem]
              · simp [encL, Smp.enc] at hj; subst hj; rw [hW2]; simp [go_sem]
              · simp [encL, Smp.enc] at hj; subst hj; rw [hW2]; simp [go_sem]
              · simp [encL, Smp.enc] at hj) (by simp) (by simp; omega)
            have hr5H : Hid _ := hr5
            rw [hW2] at hr5H
            clear hr5
            have hD5 : w5.heap[w3.heap.size]? = some (.cells #[.string ⟨#[]⟩, .slice none 0 0, .string ⟨#[]⟩, .int .i64 t, .bool false, .bool true, .int .u8 0, .int .i64 0, .int .u8 (p.1 : Int), .int .i64 p.2] 95 (0, 0)) := by
              rw [hg5.block w3.heap.size (by omega) (fun e => by have := (hfl _ e.symm).2; omega), hW2, Below.heap_alloc _ _ _ (by simp)]
              exact heap_alloc_new w3 _
            have e0 := (cell_of_row w5 w3.heap.size 0 _ _ _ hD5).trans rfl
            have e1 := (cell_of_row w5 w3.heap.size 1 _ _ _ hD5).trans rfl
            have e2 := (cell_of_row w5 w3.heap.size 2 _ _ _ hD5).trans rfl
            have e3 := (cell_of_row w5 w3.heap.size 3 _ _ _ hD5).trans rfl
            have e4 := (cell_of_row w5 w3.heap.size 4 _ _ _ hD5).trans rfl
            have e5 := (cell_of_row w5 w3.heap.size 5 _ _ _ hD5).trans rfl
            have e6 := (cell_of_row w5 w3.heap.size 6 _ _ _ hD5).trans rfl
            have e7 := (cell_of_row w5 w3.heap.size 7 _ _ _ hD5).trans rfl
            have e8 := (cell_of_row w5 w3.heap.size 8 _ _ _ hD5).trans rfl
            have e9 := (cell_of_row w5 w3.heap.size 9 _ _ _ hD5).trans rfl
            have hs5 : W2.heap.size ≤ w5.heap.size := hg5.size
            have hdO5 : w5.ownsRow w2.heap.size 95 10 u8 (dlL nv l (K.take k)).length (encD (dlL nv l (K.take k))) := own_keepD hLd.out.dO (fun q e => by
              rw [hg5.block q (by have := (hdl q e).2; omega) (fun e' => hLd.out.ne q e'.symm e), hBW.block q (by have := (hdl q e).2; omega), hB3.block q (hdl q e).2])
            obtain ⟨dv', w7, hr7, ho7, hg7, hat7⟩ := app1D w5 w2.heap.size u8 (dlL nv l (K.take k)) hdO5 (by omega) ⟨t, false, 0, 0, p.1, p.2⟩ (by omega)
            have hr7H : Hid _ := hr7
            have hkeepA : ∀ q, q < wr.heap.size → some q ≠ u9.ownBlock → some q ≠ u8.ownBlock → w7.heap[q]? = wr.heap[q]? := fun q hq h1 h2 => by
              rw [hg7.block q (by simp; omega) h2, Below.heap_alloc _ _ _ (by omega), hg5.block q (by omega) h1, hBW.block q (by omega), hB3.block q hq]
            have hstep : Hid (LdS N B v l nv K w2 w7 dv' (.slice (some ⟨fg, 0, none⟩) ((frL nv l (K.take k)).length + 1) fc) (k + 1)) := by
              have hch : chgL nv l (K.take (k + 1)) = chgL nv l (K.take k) := by
                rw [htk.out, chgL_snoc]
                unfold chg
                rw [if_neg (by rw [chgL_has nv hlr, hhH.out]; simp)]
              have hfr' : frL nv l (K.take (k + 1)) = frL nv l (K.take k) ++ [⟨t, p.1, p.2⟩] := by
                rw [htk.out, frL_snoc, if_neg (by rw [hhH.out]; simp), hnt.out]
              have hdl' : dlL nv l (K.take (k + 1)) = dlL nv l (K.take k) ++ [⟨t, false, 0, 0, p.1, p.2⟩] := by
                rw [htk.out, dlL_snoc, if_pos (by unfold isD; rw [hhH.out]; simp)]
                unfold dlt
                rw [hhH.out, getV_miss hhH.out, hnt.out]
              have hsz7 : wr.heap.size ≤ w7.heap.size := by have := hg7.size; simp at this; omega
              have hfg : wr.heap.size ≤ fg ∨ u9.ownBlock = some fg := by
                rcases hat5 with e | e
                · exact Or.inr e
                · exact Or.inl (by omega)
              have hb07 : Below 0 wr w7 := by
                refine (hB3.mono (Nat.zero_le _)).trans ((hBW.mono (Nat.zero_le _)).trans (Below.trans ⟨hg5.os, hg5.tape, hg5.output, hg5.size, fun k hk => absurd hk (Nat.not_lt_zero _)⟩ (Below.trans ((Below.refl 0 w5).alloc (Nat.zero_le _) _) ⟨hg7.os, hg7.tape, hg7.output, hg7.size, fun k hk => absurd hk (Nat.not_lt_zero _)⟩)))
              have hNn9 : some N ≠ u9.ownBlock := fun e => by have := (hfl N e.symm).1; omega
              have hNn8 : some N ≠ u8.ownBlock := fun e => by have := (hdl N e.symm).1; omega
              have hvn : ∀ g', v.ownBlock = some g' → w7.heap[g']? = wr.heap[g']? := fun g' e => hkeepA g' (by have := hvl g' e; omega) (fun e' => by have := (hfl g' e'.symm).1; have := hvl g' e; omega) (fun e' => by have := (hdl g' e'.symm).1; have := hvl g' e; omega)
              have hN7 := hkeepA N (by omega) hNn9 hNn8
              refine ⟨?_, ?_, ?_, ?_, ?_⟩
              · rw [hch]
                have hs := hLd.out.ss
                exact ⟨by rw [World.cell?_of_block (w := wr) hN7]; exact hs.c0, by rw [frozen_block hN7]; exact hs.f0, hs.row.keep hsz7 hvn, hs.ne, by omega, hs.hB, hs.hk, hs.hr, hs.hn⟩
              · refine ⟨hLd.out.fr.b.trans hb07, fun q hq hn' ho' => ?_, Or.inl rfl⟩
                rw [hkeepA q (by omega) (fun e' => by have := (hfl q e'.symm).1; omega) (fun e' => by have := (hdl q e'.symm).1; omega)]
                exact hLd.out.fr.keep q hq hn' ho'
              · rw [hfr', List.length_append]
                refine own_keep ho5 (fun q e => ?_)
                simp [Value.ownBlock] at e
                subst e
                have hlt5' := hlt5
                rw [hg7.block fg (by simp; omega) (fun e' => ?_), Below.heap_alloc _ _ _ hlt5']
                rcases hfg with h1 | h1
                · have := (hdl fg e'.symm).2; omega
                · exact hLd.out.ne fg h1 e'.symm
              · rw [hdl']; exact ho7
              · intro q e
                simp [Value.ownBlock] at e
                subst e
                rcases hat7 with e1 | ⟨k', e1, hk'⟩
                · rw [e1]
                  intro e2
                  rcases hfg with h1 | h1
                  · have := (hdl fg e2).2; omega
                  · exact hLd.out.ne fg h1 e2
                · rw [e1]; intro e2; injection e2 with e2; omega
            clear hr7 ho7 hg7 hat7 hdO5 hD5 ho5 hg5 hat5 hW2 hBW hWs hfo3 hd hs5
            generalize (frL nv l (K.take k)).length = nf at *
            go_wp2_with (at_builtin; first | (refine wpList_append_run (by rfl) _ _ _ (by rfl) _ _ _ _ (by rfl) (by rfl) hr5H.out ?_) | (refine wpList_append_run (by rfl) _ _ _ (by rfl) _ _ _ _ (by rfl) (by rfl) hr7H.out ?_))
            go_roundw
            case rel => exact ⟨k + 1, by omega, by go_num, hstep.out⟩
            case measure => simp [intOf]; omega
          | true =>
            have hhH : Hid (hasT l t = true) := hh
            clear hh
            obtain ⟨y, hy, hyt, hgy⟩ := getV_hit (chgL_rise nv hlr (K.take k)) (by rw [chgL_has nv hlr]; exact hhH.out)
            rw [chgL_ahd nv hlr] at hy
            rw [chgL_getV nv hlr _ _ htn.out] at hgy
            have hgyH : Hid (getV l t = (y.k, y.x)) := hgy
            obtain ⟨W1, hW1⟩ : ∃ W1, W1 = w3.alloc (.cells #[.string ⟨#[]⟩, .slice none 0 0, .string ⟨#[]⟩, .int .i64 t, .bool true, .bool true, .int .u8 0, .int .i64 0, .int .u8 (p.1 : Int), .int .i64 p.2] 95) := ⟨_, rfl⟩
            have hBW : Below w3.heap.size w3 W1 := by rw [hW1]; exact below_new (Below.refl _ _) _
            have hWs : W1.heap.size = w3.heap.size + 1 := by rw [hW1]; simp
            have hSW : SS N B v (chgL nv l (K.take k)) W1 := (hLd.out.ss.below hB3).below hBW
            have hW1b : W1.heap[w3.heap.size]? = some (.cells #[.string ⟨#[]⟩, .slice none 0 0, .string ⟨#[]⟩, .int .i64 t, .bool true, .bool true, .int .u8 0, .int .i64 0, .int .u8 (p.1 : Int), .int .i64 p.2] 95 (0, 0)) := by rw [hW1]; exact heap_alloc_new w3 _
            have hcall : Hid (Calls Tryz.prog 29 #[.pointer (some ⟨N, 0, none⟩), .int .i64 (ahd l t : Int), .agg #[.int .u8 (p.1 : Int), .int .i64 p.2]] W1.drew fun e w' => e = .returned (.agg #[.int .u8 (y.k : Int), .int .i64 y.x]) ∧ (w'.cell? ⟨w3.heap.size, 8, none⟩ = some (.int .u8 (p.1 : Int)) ∧ w'.cell? ⟨w3.heap.size, 9, none⟩ = some (.int .i64 p.2)) ∧ (w'.cell? ⟨w3.heap.size, 6, none⟩ = some (.int .u8 0) ∧ w'.cell? ⟨w3.heap.size, 7, none⟩ = some (.int .i64 0) ∧ w'.frozen? ⟨w3.heap.size, 6, none⟩ = false ∧ w'.frozen? ⟨w3.heap.size, 7, none⟩ = false) ∧ w'.heap[w3.heap.size]? = W1.heap[w3.heap.size]? ∧ SS N B v ((chgL nv l (K.take k)).set (ahd l t) ⟨y.t, p.1, p.2⟩) w' ∧ SFr N v v W1 w') := Calls.mono (change_any N B v (chgL nv l (K.take k)) W1.drew (hSW.below ((Below.refl _ _).drew)) (ahd l t) y hy p.1 p.2 hpk.1 ⟨hpk.2.1, hpk.2.2.1⟩) (by
              rintro e w' ⟨rfl, h1, h2⟩
              have hb : w'.heap[w3.heap.size]? = W1.heap[w3.heap.size]? := h2.keep _ (by show w3.heap.size < W1.heap.size; omega) (by omega) (fun e => by have := hvl _ e.symm; omega)
              have hb2 := hb.trans hW1b
              exact ⟨rfl, ⟨(cell_of_row w' w3.heap.size 8 _ _ _ hb2).trans rfl, (cell_of_row w' w3.heap.size 9 _ _ _ hb2).trans rfl⟩, ⟨(cell_of_row w' w3.heap.size 6 _ _ _ hb2).trans rfl, (cell_of_row w' w3.heap.size 7 _ _ _ hb2).trans rfl, frozen_of_row w' w3.heap.size 6 _ _ hb2, frozen_of_row w' w3.heap.size 7 _ _ hb2⟩, hb, h1, (SFr.of ((Below.refl _ _).drew)).trans h2⟩)
            rw [hW1] at hcall
            have S5 : (w3.alloc (.cells #[.string ⟨#[]⟩, .slice none 0 0, .string ⟨#[]⟩, .int .i64 t, .bool true, .bool true, .int .u8 0, .int .i64 0, .int .u8 (p.1 : Int), .int .i64 p.2] 95)).cell? ⟨w3.heap.size, 8, none⟩ = some (.int .u8 (p.1 : Int)) ∧ (w3.alloc (.cells #[.string ⟨#[]⟩, .slice none 0 0, .string ⟨#[]⟩, .int .i64 t, .bool true, .bool true, .int .u8 0, .int .i64 0, .int .u8 (p.1 : Int), .int .i64 p.2] 95)).cell? ⟨w3.heap.size, 9, none⟩ = some (.int .i64 p.2) := ⟨by simp [go_sem], by simp [go_sem]⟩
            have hlookH : Hid _ := hlook
            have hW1H : Hid (W1 = _) := hW1
            have hW1bH : Hid _ := hW1b
            clear hW1 hW1b
            go_wp2_with fail
            clear hlook
            go_region_held3 (fun w' => w'.cell? ⟨w3.heap.size, 8, none⟩ = some (.int .u8 (p.1 : Int)) ∧ w'.cell? ⟨w3.heap.size, 9, none⟩ = some (.int .i64 p.2)) (first | assumption | exact ⟨by rw [World.cell?_setCell_other _ _ _ _ (by simp), World.cell?_setCell_other _ _ _ _ (by simp)]; exact hSk.1, by rw [World.cell?_setCell_other _ _ _ _ (by simp), World.cell?_setCell_other _ _ _ _ (by simp)]; exact hSk.2⟩ | go_keep)
              (first
                | (go_at_call 29; (with_reducible refine Calls.mono hcall.out ?_); rintro e w4 ⟨rfl, hSk, ⟨r0, r1, f0, f1⟩, hb4, hS4, hF4⟩))
            rw [← hW1H.out] at hb4 hF4
            have hb4' : w4.heap[w3.heap.size]? = some (.cells #[.string ⟨#[]⟩, .slice none 0 0, .string ⟨#[]⟩, .int .i64 t, .bool true, .bool true, .int .u8 0, .int .i64 0, .int .u8 (p.1 : Int), .int .i64 p.2] 95 (0, 0)) := hb4.trans hW1bH.out
            have hD6 : ((w4.setCell ⟨w3.heap.size, 6, none⟩ (.int .u8 (y.k : Int))).setCell ⟨w3.heap.size, 7, none⟩ (.int .i64 y.x)).heap[w3.heap.size]? = some (.cells #[.string ⟨#[]⟩, .slice none 0 0, .string ⟨#[]⟩, .int .i64 t, .bool true, .bool true, .int .u8 (y.k : Int), .int .i64 y.x, .int .u8 (p.1 : Int), .int .i64 p.2] 95 (0, 0)) := (heap_setCell_same _ w3.heap.size 7 _ _ _ (heap_setCell_same w4 w3.heap.size 6 _ _ _ hb4')).trans rfl
            have hB6 : Below w3.heap.size w4 ((w4.setCell ⟨w3.heap.size, 6, none⟩ (.int .u8 (y.k : Int))).setCell ⟨w3.heap.size, 7, none⟩ (.int .i64 y.x)) := ((Below.refl _ _).setCell (p := ⟨w3.heap.size, 6, none⟩) (Nat.le_refl _) _).setCell (p := ⟨w3.heap.size, 7, none⟩) (Nat.le_refl _) _
            generalize hW6 : (w4.setCell ⟨w3.heap.size, 6, none⟩ (.int .u8 (y.k : Int))).setCell ⟨w3.heap.size, 7, none⟩ (.int .i64 y.x) = W6 at *
            have hsz4 : W1.heap.size ≤ w4.heap.size := hF4.b.size
            have hsz6 : w4.heap.size ≤ W6.heap.size := hB6.size
            have hkeep6 : ∀ q, q < wr.heap.size → q ≠ N → some q ≠ v.ownBlock → W6.heap[q]? = wr.heap[q]? := fun q hq h1 h2 => by
              rw [hB6.block q (by omega), hF4.keep q (by omega) h1 h2, hBW.block q (by omega), hB3.block q hq]
            have hb06 : Below 0 wr W6 := (hB3.mono (Nat.zero_le _)).trans ((hBW.mono (Nat.zero_le _)).trans (hF4.b.trans (hB6.mono (Nat.zero_le _))))
            have hS6 : SS N B v (chgL nv l (K.take (k + 1))) W6 := by
              have e : chgL nv l (K.take (k + 1)) = (chgL nv l (K.take k)).set (ahd l t) ⟨y.t, p.1, p.2⟩ := by
                rw [htk.out, chgL_snoc]
                unfold chg
                rw [if_pos (by rw [chgL_has nv hlr]; exact hhH.out), chgL_ahd nv hlr, hnt.out, hyt]
              rw [e]
              exact hS4.tail hB6 (by omega) (fun g' e' => by have := hvl g' e'; omega)
            have hfr' : frL nv l (K.take (k + 1)) = frL nv l (K.take k) := by
              rw [htk.out, frL_snoc, if_pos hhH.out, List.append_nil]
            have hfo6 : W6.ownsRow w2.heap.size 89 3 u9 (frL nv l (K.take k)).length (encL (frL nv l (K.take k))) := own_keep hLd.out.fo (fun q e => hkeep6 q (hfl q e).2 (by have := (hfl q e).1; omega) (fun e' => by have := hvl q e'.symm; have := (hfl q e).1; omega))
            have hdO6 : W6.ownsRow w2.heap.size 95 10 u8 (dlL nv l (K.take k)).length (encD (dlL nv l (K.take k))) := own_keepD hLd.out.dO (fun q e => hkeep6 q (hdl q e).2 (by have := (hdl q e).1; omega) (fun e' => by have := hvl q e'.symm; have := (hdl q e).1; omega))
            have hfr6 : SFr N v v w2 W6 := ⟨hLd.out.fr.b.trans hb06, fun q hq hn' ho' => by rw [hkeep6 q (by omega) hn' ho']; exact hLd.out.fr.keep q hq hn' ho', Or.inl rfl⟩
            have e0 := (cell_of_row W6 w3.heap.size 0 _ _ _ hD6).trans rfl
            have e1 := (cell_of_row W6 w3.heap.size 1 _ _ _ hD6).trans rfl
            have e2 := (cell_of_row W6 w3.heap.size 2 _ _ _ hD6).trans rfl
            have e3 := (cell_of_row W6 w3.heap.size 3 _ _ _ hD6).trans rfl
            have e4 := (cell_of_row W6 w3.heap.size 4 _ _ _ hD6).trans rfl
            have e5 := (cell_of_row W6 w3.heap.size 5 _ _ _ hD6).trans rfl
            have e6 := (cell_of_row W6 w3.heap.size 6 _ _ _ hD6).trans rfl
            have e7 := (cell_of_row W6 w3.heap.size 7 _ _ _ hD6).trans rfl
            have e8 := (cell_of_row W6 w3.heap.size 8 _ _ _ hD6).trans rfl
            have e9 := (cell_of_row W6 w3.heap.size 9 _ _ _ hD6).trans rfl
            by_cases hE : y.k = p.1 ∧ y.x = p.2
            · have hstep : Hid (LdS N B v l nv K w2 W6 u8 u9 (k + 1)) := by
                have hdl' : dlL nv l (K.take (k + 1)) = dlL nv l (K.take k) := by
                  rw [htk.out, dlL_snoc, if_neg (by unfold isD; rw [hhH.out, hgyH.out, hnt.out, hE.1, hE.2]; simp), List.append_nil]
                exact ⟨hS6, hfr6, by rw [hfr']; exact hfo6, by rw [hdl']; exact hdO6, hLd.out.ne⟩
              rw [hE.1] at e6
              rw [hE.2] at e7
              clear hS6 hfr' hfo6 hdO6 hfr6 hb06 hkeep6 hB6 hD6 hb4' hW6 hS4 hF4 r0 r1 f0 f1 hSk hb4 hcall hE
              go_wp2_with fail
              go_roundw
              case rel => exact ⟨k + 1, by omega, by go_num, hstep.out⟩
              case measure => simp [intOf]; omega
            · obtain ⟨dv', w7, hr7, ho7, hg7, hat7⟩ := app1D W6 w2.heap.size u8 (dlL nv l (K.take k)) hdO6 (by omega) ⟨t, true, y.k, y.x, p.1, p.2⟩ (by omega)
              have hr7H : Hid _ := hr7
              have hkeep7 : ∀ q, q < W6.heap.size → some q ≠ u8.ownBlock → w7.heap[q]? = W6.heap[q]? := fun q hq h1 => by
                rw [hg7.block q (by simp; omega) h1, Below.heap_alloc _ _ _ hq]
              have hb67 : Below 0 W6 w7 := Below.trans ((Below.refl 0 W6).alloc (Nat.zero_le _) _) ⟨hg7.os, hg7.tape, hg7.output, hg7.size, fun k hk => absurd hk (Nat.not_lt_zero _)⟩
              have hstep : Hid (LdS N B v l nv K w2 w7 dv' u9 (k + 1)) := by
                have hdl' : dlL nv l (K.take (k + 1)) = dlL nv l (K.take k) ++ [⟨t, true, y.k, y.x, p.1, p.2⟩] := by
                  rw [htk.out, dlL_snoc, if_pos (by
                    unfold isD
                    rw [hhH.out, hgyH.out, hnt.out]
                    simp
                    intro e
                    have e1 := congrArg Prod.fst e
                    have e2 := congrArg Prod.snd e
                    exact hE ⟨e1, e2⟩)]
                  unfold dlt
                  rw [hhH.out, hgyH.out, hnt.out]
                have hN8 : some N ≠ u8.ownBlock := fun e => by have := (hdl N e.symm).1; omega
                have hN7 := hkeep7 N (by omega) hN8
                have hv8 : ∀ g', v.ownBlock = some g' → w7.heap[g']? = W6.heap[g']? := fun g' e => hkeep7 g' (by have := hvl g' e; omega) (fun e' => by have := (hdl g' e'.symm).1; have := hvl g' e; omega)
                refine ⟨⟨by rw [World.cell?_of_block (w := W6) hN7]; exact hS6.c0, by rw [frozen_block hN7]; exact hS6.f0, hS6.row.keep hb67.size hv8, hS6.ne, by have := hb67.size; omega, hS6.hB, hS6.hk, hS6.hr, hS6.hn⟩, ⟨hfr6.b.trans hb67, fun q hq hn' ho' => ?_, Or.inl rfl⟩, ?_, by rw [hdl']; exact ho7, ?_⟩
                · rw [hkeep7 q (by omega) (fun e' => by have := (hdl q e'.symm).1; omega)]
                  exact hfr6.keep q hq hn' ho'
                · rw [hfr']
                  exact own_keep hfo6 (fun q e => hkeep7 q (by have := (hfl q e).2; omega) (fun e' => hLd.out.ne q e e'.symm))
                · intro q e
                  rcases hat7 with e1 | ⟨k', e1, hk'⟩
                  · rw [e1]; exact hLd.out.ne q e
                  · rw [e1]; intro e2; injection e2 with e2; have := (hfl q e).2; omega
              clear hS6 hfr' hfo6 hdO6 hfr6 hb06 hkeep6 hB6 hD6 hb4' hW6 hS4 hF4 r0 r1 f0 f1 hSk hb4 hcall hr7 ho7 hg7 hat7 hkeep7 hb67
              have hEx : ¬ (y.k = p.1 ∧ y.x = p.2) := hE
              by_cases hEk : y.k = p.1
              · have hEx2 : ¬ y.x = p.2 := fun e => hE ⟨hEk, e⟩
                rw [hEk] at e6 hr7H
                clear hEx hE
                go_wp2_with (at_builtin; refine wpList_append_run (by rfl) _ _ _ (by rfl) _ _ _ _ (by rfl) (by rfl) hr7H.out ?_)
                go_roundw
                case rel => exact ⟨k + 1, by omega, by go_num, hstep.out⟩
                case measure => simp [intOf]; omega
              · have hEk2 : ¬ ((y.k : Int) = (p.1 : Int)) := fun e => hEk (by omega)
                clear hEx hE
                go_wp2_with (at_builtin; refine wpList_append_run (by rfl) _ _ _ (by rfl) _ _ _ _ (by rfl) (by rfl) hr7H.out ?_)
                go_roundw
                case rel => exact ⟨k + 1, by omega, by go_num, hstep.out⟩
                case measure => simp [intOf]; omega
        · obtain rfl : nK = k := by omega
          have hKt : K.take nK = K := by rw [hnKH.out, List.take_length]
          have hss := hLd.out.ss
          have hfr := hLd.out.fr
          have hfo := hLd.out.fo
          have hdO := hLd.out.dO
          rw [hKt] at hss hfo hdO
          have hlr := hH.out.hr
          have hz2 : w2.heap.size ≤ wr.heap.size := hfr.b.size
          have hfrn : (frL nv l K).length ≤ nK := by
            unfold frL
            rw [List.length_map]
            have h1 := List.length_filter_le (fun t => !hasT l t) K
            have := hnKH.out; omega
          have hlay : Hid (Calls Tryz.prog 30 #[.pointer (some ⟨N, 0, none⟩), u9] wr fun e w' => e = .returned undef ∧ ∃ v', SS N B v' (loadL nv l K) w' ∧ SFr N v v' wr w') := by
            rcases Nat.eq_zero_or_pos (frL nv l K).length with h0 | h0
            · obtain ⟨ad, c, rfl⟩ : ∃ ad c, u9 = .slice ad 0 c := by
                rcases hfo.2 with ⟨e, _⟩ | ⟨g, cap, cur, e, _⟩
                · exact ⟨_, _, e⟩
                · exact ⟨_, _, by rw [e, h0]⟩
              have hnil := List.eq_nil_of_length_eq_zero h0
              refine Calls.mono (lay_none N B v (chgL nv l K) wr hss ad c) ?_
              rintro e w' ⟨rfl, h1, h2⟩
              refine ⟨rfl, v, ?_, h2⟩
              have e0 : loadL nv l K = chgL nv l K := by unfold loadL; rw [hnil]; simp [layL, layR]
              rw [e0]; exact h1
            · have hok : ∀ s ∈ frL nv l K, s.ok := fun s hs => by
                obtain ⟨h1, _, h3⟩ := (frL_mem nv l K s).1 hs
                obtain ⟨p, hp⟩ := Option.isSome_iff_exists.1 ((hKmH.out s.t).1 h1)
                have := valOf_ok hLH.out.1 hp
                have hn : nv s.t = p := by rw [hnvH.out]; simp [hp]
                rw [h3, hn]; exact this
              obtain ⟨fa, fc, hu, _, hLf⟩ := OR.lin (Or.inl hfo) hok
              subst hu
              have hlt := hfo.lt
              rcases hLf.2 with e | ⟨fb, fo, e, hb, hc⟩
              · rw [e] at h0; simp at h0
              · subst e
                have hfo0 : fo = 0 := by
                  rcases hfo.2 with ⟨e, _⟩ | ⟨g, cap, cur, e, _⟩
                  · cases e
                  · cases e; rfl
                subst hfo0
                have hb2 := hlt fb rfl
                refine Calls.mono (lay_any N B v (chgL nv l K) (frL nv l K) wr hss fb 0 fc (by omega) (fun e => by have := hvl fb e.symm; omega) hLf (frL_rise nv l hKrH.out) (fun s hs y hy e => ?_) h0 (by rw [chgL_len nv hlr]; omega)) ?_
                · have h1 := ((frL_mem nv l K s).1 hs).2.1
                  have h2 : hasT (chgL nv l K) s.t = true := hasT_mem.2 ⟨y, hy, e⟩
                  rw [chgL_has nv hlr, h1] at h2; cases h2
                · rintro e w' ⟨rfl, v', h1, h2⟩
                  exact ⟨rfl, v', h1, h2⟩
          have hend : Hid (∀ v' w', SS N B v' (loadL nv l K) w' → SFr N v v' wr w' → ∃ r v' K, Ending.returned u8 = .returned r ∧ K.Pairwise (· < ·) ∧ (∀ t, t ∈ K ↔ (valOf L t).isSome = true) ∧ SS N B v' (loadL (fun t => (valOf L t).getD (0, 0)) l K) w' ∧ SFr N v v' w w' ∧ w'.ownsRow w.heap.size 95 10 r (dlL (fun t => (valOf L t).getD (0, 0)) l K).length (encD (dlL (fun t => (valOf L t).getD (0, 0)) l K)) ∧ (∀ g, r.ownBlock = some g → v'.ownBlock ≠ some g) ∧ K.length ≤ L.length) := by
            intro v' w' h1 h2
            have hdl : ∀ q, u8.ownBlock = some q → w2.heap.size ≤ q ∧ q < wr.heap.size := fun q e => hdO.lt q e
            rw [hnvH.out] at h1 hdO
            refine ⟨u8, v', K, rfl, hKrH.out, hKmH.out, h1, ((SFr.of (by rw [hmbw]; exact hB02)).trans hfr).trans h2, own_lowD (own_keepD hdO (fun q e => h2.keep q (hdl q e).2 (by have := (hdl q e).1; omega) (fun e' => by have := hvl q e'.symm; have := (hdl q e).1; omega))) (by omega), fun q e e' => ?_, by rw [← hnKH.out, ← hnLH.out]; exact hKn⟩
            have := hdl q e
            rcases h2.own with h | ⟨k', h, hk'⟩
            · rw [h] at e'; have := hvl q e'; omega
            · rw [h] at e'; injection e' with e'; omega
          clear hss hfr hfo hdO hfrn
          go_wp2_with fail
          refine Calls.mono hlay.out ?_
          rintro e w9 ⟨rfl, v', h1, h2⟩
          have hfin : Hid _ := hend.out v' w9 h1 h2
          clear h1 h2 hlay hend
          go_wp2_with fail
          go_ret
          exact hfin.out
end Go.Proofs.YticgapplpfaigaaGreat
