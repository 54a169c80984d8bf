
import Derived.Test.YtboacnpbicedfaaGreatDoorHuHq
import Derived.Test.YtboacnpbicedfaaGreatDoorHpLq
namespace Go.Proofs.YtboacnpbicedfaaGreatDoor.Hp
open Go.RowKit Go.Maps
set_option linter.unusedVariables false
set_option linter.unusedSimpArgs false
set_option maxRecDepth 100000
/-- which is the first name that was there. -/
def KN (l : List Ent) : Option Nat → Prop
  | none => ∀ j, j < l.length → kn (l.take j) (atE l j).2 = false
  | some j => j < l.length ∧ kn (l.take j) (atE l j).2 = true ∧ ∀ i, i < j → kn (l.take i) (atE l i).2 = false
theorem fr_least (L : List Ent) (s : ByteArray) : ∀ n, n ≤ L.length → (∃ i, i < n ∧ (atE L i).2 = s) → ∃ i, FR L s (some i)
  | 0, _, ⟨i, hi, _⟩ => by omega
  | n + 1, hn, ⟨i, hi, hs⟩ => by
    by_cases q : ∃ i, i < n ∧ (atE L i).2 = s
    · exact fr_least L s n (by omega) q
    · have : i = n := by
        rcases Nat.lt_or_ge i n with c | c
        · exact absurd ⟨i, c, hs⟩ q
        · omega
      subst this
      exact ⟨i, by omega, hs, fun j hj e => q ⟨j, hj, e⟩⟩
theorem kn_fr (L : List Ent) (s : ByteArray) : (kn L s = true → ∃ i, FR L s (some i)) ∧ (kn L s = false → FR L s none) := by
  constructor
  · intro h
    unfold kn at h
    rw [List.any_eq_true] at h
    obtain ⟨e, he, hs⟩ := h
    obtain ⟨i, hi⟩ := List.getElem?_of_mem he
    have hl := (List.getElem?_eq_some_iff.1 hi).1
    exact fr_least L s L.length (Nat.le_refl _) ⟨i, hl, by rw [atE_get hi]; simpa using hs⟩
  · intro h i hi e
    have : kn L s = true := by
      unfold kn
      rw [List.any_eq_true]
      exact ⟨atE L i, List.mem_of_getElem? (atE_some hi), by simpa using e⟩
    rw [h] at this
    cases this
theorem rinB (i : Int) (w : World) : Calls Tryz.prog 24 #[.int .i64 i, .agg #[.int .i64 5, .int .i64 0, .int .i64 0, .bool false, .bool false]] w fun e w' => e = .returned (.agg #[.int .i64 5, .int .i64 0, .int .i64 i, .bool false, .bool true]) ∧ Below w.heap.size w w' := by
  go_enter Tryz.func24, Tryz.ntmps24
  go_wp2
  simp [bodyPost, results, Tryz.results24, go_sem]
  exact ((Below.refl _ w).alloc (Nat.le_refl _) _).alloc (by simp) _
/-- where Build stands. -/
structure BD (w : World) (R F : Nat) (most : Bool) (L : List Ent) (mv : Int) (wr : World) : Prop where
  ds : ∃ v, DS wr (F + 1) F most v L mv
  bl : Below w.heap.size w wr
  bc : BC wr R
  eR : R = w.heap.size
  eF : F = w.heap.size + 1
theorem BD.frame {w wr w' : World} {R F : Nat} {most : Bool} {L : List Ent} {mv : Int} {v : Value} (h : BD w R F most L mv wr) (d : DS wr (F + 1) F most v L mv) (fr : HF F F v.ownBlock wr w') : Below w.heap.size w w' ∧ BC w' R := by
  have e1 := h.eR
  have e2 := h.eF
  have hb : ∀ k, v.ownBlock = some k → F + 1 ≤ k := fun k e => (d.row.bound e).1
  exact ⟨below_trans h.bl (fr.into (by omega) (by omega) (fun k e => by have := hb k e; omega) h.bl.size), h.bc.keep fr.size (fr.keep R h.bc.hl (by omega) (by omega) (fun e => by have := hb R e.symm; omega))⟩
theorem BD.down {w wr : World} {R F : Nat} {most : Bool} {L : List Ent} {mv : Int} (h : BD w R F most L mv wr) (i : Nat) (hi : i < L.length) (hL : L.length ≤ 1152921504606846976) (hmv : 0 ≤ mv ∧ mv ≤ 2305843009213693952) :
    Calls Tryz.prog 26 #[.pointer (some ⟨F, 0, none⟩), .int .i64 (i : Int)] wr fun e w' => e = .returned undef ∧ BD w R F most (downL (ahd most) L i).1 (mv + ((downL (ahd most) L i).2 : Nat)) w' := by
  obtain ⟨v, d⟩ := h.ds
  refine (ddown_any (w := wr) ⟨d, HF.refl _ _ _ _, rfl⟩ i hi hL hmv).mono fun e w' hh => ?_
  obtain ⟨q1, q2⟩ := h.frame d hh.2.fr
  exact ⟨hh.1, ⟨v, hh.2.ds⟩, q1, q2, h.eR, h.eF⟩
set_option maxHeartbeats 8000000 in
theorem dbuild_any (most : Bool) (a : Option Addr) (cap : Nat) (l : List Ent) (w : World) (hin : EnIn w a l) (o : Option Nat) (ho : KN l o) (hn : l.length ≤ 1099511627775) :
    Calls Tryz.prog 10 #[.bool most, .slice a l.length cap] w fun e w' => (∀ j, o = some j → e = .returned (.tuple #[.pointer none, .agg #[.int .i64 5, .int .i64 0, .int .i64 (j : Int), .bool false, .bool true]]) ∧ Below w.heap.size w w') ∧ (o = none → e = .returned (.tuple #[.pointer (some ⟨w.heap.size + 1, 0, none⟩), bV 0]) ∧ (∃ v, DS w' (w.heap.size + 2) (w.heap.size + 1) most v (bldL (ahd most) (l.length / 2) (l, 0)).1 ((bldL (ahd most) (l.length / 2) (l, 0)).2 : Nat)) ∧ Below w.heap.size w w') := by
  obtain ⟨QQ, hQQ⟩ : ∃ QQ : Ending → World → Prop, QQ = fun e w' => (∀ j, o = some j → e = .returned (.tuple #[.pointer none, .agg #[.int .i64 5, .int .i64 0, .int .i64 (j : Int), .bool false, .bool true]]) ∧ Below w.heap.size w w') ∧ (o = none → e = .returned (.tuple #[.pointer (some ⟨w.heap.size + 1, 0, none⟩), bV 0]) ∧ (∃ v, DS w' (w.heap.size + 2) (w.heap.size + 1) most v (bldL (ahd most) (l.length / 2) (l, 0)).1 ((bldL (ahd most) (l.length / 2) (l, 0)).2 : Nat)) ∧ Below w.heap.size w w') := ⟨_, rfl⟩
  rw [← hQQ]
  obtain ⟨W1, hW1⟩ : ∃ W1, W1 = w.alloc (.cells #[.int .i64 0, .int .i64 0, .int .i64 0, .bool false, .bool false] 43) := ⟨_, rfl⟩
  obtain ⟨R, hR⟩ : ∃ R, R = w.heap.size := ⟨_, rfl⟩
  obtain ⟨F, hF⟩ : ∃ F, F = w.heap.size + 1 := ⟨_, rfl⟩
  have b1 : Below w.heap.size w W1 := by rw [hW1]; exact (Below.refl _ w).alloc (Nat.le_refl _) _
  have s1 : W1.heap.size = F := by rw [hW1, hF]; simp
  have CN : Hid (Calls Tryz.prog 5 #[.bool most] W1 fun e w' => e = .returned (.pointer (some ⟨F, 0, none⟩)) ∧ BD w R F most (l.take 0) 0 w') := by
    refine (dnew_any most W1).mono fun e w' hh => ?_
    obtain ⟨h1, h2, h3⟩ := hh
    rw [s1] at h1 h2
    have bc : BC W1 R := by rw [hW1, hR]; exact BC.new w
    exact ⟨h1, ⟨_, h2⟩, below_trans b1 (below_less h3 b1.size), bc.below h3, hR, hF⟩
  have hinH : Hid (EnIn w a l) := hin
  have hoH : Hid (KN l o) := ho
  obtain ⟨n, hln⟩ : ∃ n, n = l.length := ⟨_, rfl⟩
  have hlnH : Hid (n = l.length) := hln
  rw [← hln] at hn ⊢
  -- the two ends
  have END1 : Hid (∀ (k : Nat) (W : World), k < n → kn (l.take k) (atE l k).2 = true → (∀ i, i < k → kn (l.take i) (atE l i).2 = false) → Below w.heap.size w W → QQ (.returned (.tuple #[.pointer none, .agg #[.int .i64 5, .int .i64 0, .int .i64 (k : Int), .bool false, .bool true]])) W) := fun k W hk h1 h2 hb => by
    rw [hQQ]
    have e : o = some k := by
      cases o with
      | none => have := ho k (by omega); rw [h1] at this; cases this
      | some j =>
        rcases Nat.lt_trichotomy j k with q | q | q
        · have := h2 j q; rw [ho.2.1] at this; cases this
        · rw [q]
        · have := ho.2.2 k q; rw [h1] at this; cases this
    refine ⟨fun j hj => ?_, fun h => by rw [e] at h; cases h⟩
    rw [e] at hj
    injection hj with hj
    rw [← hj]
    exact ⟨rfl, hb⟩
  have END2 : Hid (∀ (W : World), (∀ i, i < n → kn (l.take i) (atE l i).2 = false) → BD w R F most (bldL (ahd most) (n / 2) (l, 0)).1 ((bldL (ahd most) (n / 2) (l, 0)).2 : Nat) W → QQ (.returned (.tuple #[.pointer (some ⟨F, 0, none⟩), bV 0])) (st5 W R 0)) := fun W h2 d => by
    rw [hQQ]
    have e : o = none := by
      cases o with
      | none => rfl
      | some j => have := h2 j (by rw [hln]; exact ho.1); rw [ho.2.1] at this; cases this
    refine ⟨fun j hj => by (rw [e] at hj; cases hj), fun _ => ⟨by rw [hF], ?_, st5_below d.bl (by omega) 0⟩⟩
    obtain ⟨v, ds⟩ := d.ds
    have hb : ∀ k, v.ownBlock = some k → F + 1 ≤ k := fun k e => (ds.row.bound e).1
    have := ds.st5 R 0 (by omega) (fun g e => by have := hb g e; omega)
    rw [← hln, show w.heap.size + 2 = F + 1 by omega, show w.heap.size + 1 = F by omega]
    exact ⟨v, this⟩
  have tot : Hid (∀ (k m1 : Nat) (L1 : List Ent), bldL (ahd most) (n / 2) (l, 0) = bldL (ahd most) (k + 1) (L1, m1) → m1 + (downL (ahd most) L1 k).2 ≤ 1099511627775) := fun k m1 L1 hE => by
    have h1 := bldL_ge (ahd most) k ((downL (ahd most) L1 k).1, m1 + (downL (ahd most) L1 k).2)
    have h2 := (bldL_few (ahd most) (n / 2) (l, 0) (by show n / 2 ≤ l.length; omega)).2
    have h3 := dbl_le l.length l.length (Nat.le_refl _)
    rw [hE] at h2
    simp only [bldL] at h1 h2
    have h5 : dbl l.length (n / 2) ≤ l.length := by rw [hln]; exact h3
    omega
  clear hin ho hQQ b1 s1
  go_enter Tryz.func10, Tryz.ntmps10
  go_wp2_with fail
  rw [← hW1, ← hR]
  clear hW1 hR hF hln
  refine Calls.mono CN.out ?_
  rintro e w1 ⟨rfl, u1⟩
  have U1 : Hid (BD w R F most (l.take 0) 0 w1) := u1
  clear u1 CN
  go_wp2_with fail
  go_loopw [7] (fun v7 wr => ∃ (k : Nat), v7 = .int .i64 (k : Int) ∧ k ≤ n ∧ Hid (∀ i, i < k → kn (l.take i) (atE l i).2 = false) ∧ Hid (BD w R F most (l.take k) 0 wr)) (fun v7 _ => n - (intOf v7).toNat)
  case atStart => exact ⟨0, rfl, Nat.zero_le _, fun i hi => by omega, U1⟩
  case round =>
    clear U1
    obtain ⟨k, rfl, hkn, hK2, hU⟩ := hrel
    by_cases hk : k < n
    · obtain ⟨k0, kI, kw, _⟩ := nums_j k n hk (by omega)
      have hkl : k < l.length := by have := hlnH.out; omega
      obtain ⟨b, off, rfl, hbl, hcs⟩ : ∃ b off, a = some ⟨b, off, none⟩ ∧ b < w.heap.size ∧ ∀ i t, l[i]? = some t → w.cell? ⟨b, off + i * 2, none⟩ = some (.int .i64 t.1) ∧ w.cell? ⟨b, off + i * 2 + 1, none⟩ = some (.string t.2) := by
        rcases hinH.out with q | q
        · rw [q] at hkl; simp at hkl
        · exact q
      obtain ⟨p1, p2⟩ := hcs k _ (atE_some hkl)
      clear hcs
      obtain ⟨v, ds⟩ := hU.out.ds
      have bw := hU.out.bl
      have e1 := hU.out.eR
      have e2 := hU.out.eF
      have inF : Hid (∀ W, Below w.heap.size w W → W.cell? ⟨b, off + k * 2, none⟩ = some (.int .i64 (atE l k).1) ∧ W.cell? ⟨b, off + k * 2 + 1, none⟩ = some (.string (atE l k).2)) := fun W hW => ⟨by rw [hW.cell (p := ⟨b, off + k * 2, none⟩) hbl]; exact p1, by rw [hW.cell (p := ⟨b, off + k * 2 + 1, none⟩) hbl]; exact p2⟩
      have LT : (l.take k).length = k := by rw [List.length_take]; omega
      have ST : l.take (k + 1) = l.take k ++ [atE l k] := by
        rw [List.take_add_one, atE_some hkl]; rfl
      obtain ⟨q1, q2⟩ := inF.out wr bw
      have KF := kn_fr (l.take k) (atE l k).2
      have E1 : Hid (kn (l.take k) (atE l k).2 = true → ∀ W, Below w.heap.size w W → QQ (.returned (.tuple #[.pointer none, .agg #[.int .i64 5, .int .i64 0, .int .i64 (k : Int), .bool false, .bool true]])) W) := fun h W hW => END1.out k W hk h hK2.out hW
      have NX : Hid (kn (l.take k) (atE l k).2 = false → ∀ i, i < k + 1 → kn (l.take i) (atE l i).2 = false) := fun h i hi => by
        by_cases e : i = k
        · rw [e]; exact h
        · exact hK2.out i (by omega)
      cases hkk : kn (l.take k) (atE l k).2 with
      | true =>
        obtain ⟨i, fr⟩ := KF.1 hkk
        have CF : Hid _ := dfind_any ds (atE l k).2 (some i) fr (by omega)
        have hx : rI (some i) = (i : Int) := rfl
        rw [hx] at CF
        have i0 : (i : Int) ≥ 0 := by omega
        have E2 : Hid _ := E1.out hkk
        have CN : Hid _ := rnewB 5 wr
        unfold bV at CN
        have RIN : Hid (∀ W, Calls Tryz.prog 24 #[.int .i64 (k : Int), .agg #[.int .i64 5, .int .i64 0, .int .i64 0, .bool false, .bool false]] W fun e w' => e = .returned (.agg #[.int .i64 5, .int .i64 0, .int .i64 (k : Int), .bool false, .bool true]) ∧ Below W.heap.size W w') := rinB k
        have hRw : Hid (w.heap.size ≤ R) := by show _ ≤ _; omega
        generalize atE l k = x at *
        clear E1 NX KF fr hkk hx inF ST LT ds p1 p2 END1 END2 tot e1 e2 hkl hK2
        go_wp2_with fail
        refine Calls.mono CF.out ?_
        rintro e w2 ⟨rfl, hw2⟩
        subst hw2
        clear CF q1 q2
        go_wp2_with fail
        refine Calls.mono CN.out ?_
        rintro e w3 ⟨rfl, B3⟩
        have C4 : Hid _ := RIN.out w3
        have B3H : Hid (Below w2.heap.size w2 w3) := B3
        clear CN RIN B3
        go_wp2_with fail
        refine Calls.mono C4.out ?_
        rintro e w4 ⟨rfl, B4⟩
        have b1 := (hU.out.bc.below B3H.out).below B4
        have bb : Below w.heap.size w w4 := below_trans (below_trans bw (below_less B3H.out bw.size)) (below_less B4 (Nat.le_trans bw.size B3H.out.size))
        have fin : Hid _ := E2.out _ (((((bb.setCell (p := ⟨R, 0, none⟩) hRw.out (.int .i64 5)).setCell (p := ⟨R, 1, none⟩) hRw.out (.int .i64 0)).setCell (p := ⟨R, 2, none⟩) hRw.out (.int .i64 (k : Int))).setCell (p := ⟨R, 3, none⟩) hRw.out (.bool false)).setCell (p := ⟨R, 4, none⟩) hRw.out (.bool true))
        obtain ⟨_, c0, c1, c2, c3, c4, z⟩ := b1
        have z0 := z 0
        have z1 := z 1
        have z2 := z 2
        have z3 := z 3
        have z4 := z 4
        clear B4 B3H C4 E2 z bb hU hRw bw
        go_wp2_with fail
        simp [bodyPost, results, Tryz.results10, go_sem, c0, c1, c2, c3, c4]
        exact fin.out
      | false =>
        have CF : Hid _ := dfind_any ds (atE l k).2 none (KF.2 hkk) (by omega)
        have hx : rI none = -1 := rfl
        rw [hx] at CF
        have NX2 : Hid (∀ i, i < k + 1 → kn (l.take i) (atE l i).2 = false) := NX.out hkk
        clear NX
        have hbw : b < wr.heap.size := by have := bw.size; omega
        have vB : ∀ g, v.ownBlock = some g → F + 1 ≤ g := fun g e => (ds.row.bound e).1
        obtain ⟨g, cp, w8, rA, k8, sz8, D3, F3, hat, c0b, z0b⟩ := ds.drew.grow (atE l k) (by omega)
        have szr : w.heap.size ≤ wr.heap.size := bw.size
        have R8 : w8.heap[R]? = wr.heap[R]? := k8 R hU.out.bc.hl (fun e => by have := vB R e; omega)
        have S8 : w8.heap[b]? = wr.heap[b]? := k8 b (by show b < wr.heap.size; omega) (fun e => by have := vB b e; omega)
        obtain ⟨W3, hW3⟩ : ∃ W3, W3 = w8.setCell ⟨F, 0, none⟩ (.slice (some ⟨g, 0, none⟩) ((l.take k).length + 1) cp) := ⟨_, rfl⟩
        rw [← hW3] at D3 F3
        obtain ⟨fa, fb⟩ := hU.out.frame (w' := W3) ds (show HF F F v.ownBlock wr W3 from ⟨F3.size, F3.keep, F3.same⟩)
        have NB : Hid (BD w R F most (l.take (k + 1)) 0 W3) := ⟨⟨_, by rw [ST]; exact D3⟩, fa, fb, e1, e2⟩
        obtain ⟨av, cv, hv, _, _⟩ := ds.row.form
        have bA : Below wr.heap.size wr.drew (wr.drew.alloc (.cells #[.int .i64 (atE l k).1, .string (atE l k).2] 30)) := (Below.refl _ wr.drew).alloc (Nat.le_refl _) _
        have sS : Hid (wr.drew.cell? ⟨b, off + k * 2, none⟩ = some (.int .i64 (atE l k).1) ∧ wr.drew.cell? ⟨b, off + k * 2 + 1, none⟩ = some (.string (atE l k).2)) := ⟨q1, q2⟩
        have sA : Hid ((wr.drew.alloc (.cells #[.int .i64 (atE l k).1, .string (atE l k).2] 30)).cell? ⟨b, off + k * 2, none⟩ = some (.int .i64 (atE l k).1) ∧ (wr.drew.alloc (.cells #[.int .i64 (atE l k).1, .string (atE l k).2] 30)).cell? ⟨b, off + k * 2 + 1, none⟩ = some (.string (atE l k).2)) := ⟨by rw [bA.cell (p := ⟨b, off + k * 2, none⟩) hbw]; exact q1, by rw [bA.cell (p := ⟨b, off + k * 2 + 1, none⟩) hbw]; exact q2⟩
        have sB : Hid (w8.cell? ⟨b, off + k * 2, none⟩ = some (.int .i64 (atE l k).1) ∧ w8.cell? ⟨b, off + k * 2 + 1, none⟩ = some (.string (atE l k).2)) := ⟨by rw [World.cell?_of_block (w := wr) (a := ⟨b, off + k * 2, none⟩) S8]; exact q1, by rw [World.cell?_of_block (w := wr) (a := ⟨b, off + k * 2 + 1, none⟩) S8]; exact q2⟩
        rw [LT] at rA hW3 hv
        subst hv
        have sC : Hid ((w8.setCell ⟨F, 0, none⟩ (.slice (some ⟨g, 0, none⟩) (k + 1) cp)).cell? ⟨b, off + k * 2, none⟩ = some (.int .i64 (atE l k).1) ∧ (w8.setCell ⟨F, 0, none⟩ (.slice (some ⟨g, 0, none⟩) (k + 1) cp)).cell? ⟨b, off + k * 2 + 1, none⟩ = some (.string (atE l k).2)) := by
          refine ⟨?_, ?_⟩
          · rw [World.cell?_setCell_other _ _ _ _ (by intro q; injection q; omega)]; exact sB.out.1
          · rw [World.cell?_setCell_other _ _ _ _ (by intro q; injection q; omega)]; exact sB.out.2
        have rF : Hid (∀ W, W = wr.drew.alloc (.cells #[.int .i64 (atE l k).1, .string (atE l k).2] 30) → (Builtin.append_ #[31, 31] 31 #[.slice av k cv, .slice (some ⟨wr.heap.size, 0, none⟩) 1 1]).run Tryz.prog W = .ok (.slice (some ⟨g, 0, none⟩) (k + 1) cp) w8) := fun W e => by subst e; exact rA
        have f0 : wr.cell? ⟨F, 0, none⟩ = some (.slice av k cv) := ds.c0
        have f0a : (wr.alloc (.cells #[.int .i64 (atE l k).1, .string (atE l k).2] 30)).cell? ⟨F, 0, none⟩ = some (.slice av k cv) := by
          rw [((Below.refl wr.heap.size wr).alloc (Nat.le_refl _) _).cell (p := ⟨F, 0, none⟩) ds.hl]; exact ds.c0
        have f8 : w8.cell? ⟨F, 0, none⟩ = some (.slice av k cv) := c0b
        have fz : w8.frozen? ⟨F, 0, none⟩ = false := z0b
        have hW3H : Hid (W3 = w8.setCell ⟨F, 0, none⟩ (.slice (some ⟨g, 0, none⟩) (k + 1) cp)) := hW3
        generalize atE l k = x at *
        clear E1 KF hkk hx inF ST LT ds p1 p2 END1 END2 tot e1 e2 hkl hK2 vB rA k8 sz8 D3 F3 hat c0b z0b szr R8 S8 hW3 fa fb bA bw hU
        go_wp2_with fail
        refine Calls.mono CF.out ?_
        rintro e w2 ⟨rfl, hw2⟩
        subst hw2
        clear CF
        go_wp2_with fail
        refine wp_region_noPanic ?_
        refine wp_region_held_drew (S := fun W => W.cell? ⟨b, off + k * 2, none⟩ = some (.int .i64 x.1) ∧ W.cell? ⟨b, off + k * 2 + 1, none⟩ = some (.string x.2)) (by kernel_rfl) sS.out (fun hHeld => ?_)
        refine wpAnyH_take (i := 0) (oi := _) (v := ?_) rfl (by kernel_rfl) (by kernel_rfl) (by kernel_rfl) (fun _ _ _ h => h) (Or.inl ⟨by rfl, ?_⟩) (by assumption) ?_
        rotate_left 1
        · (intro w0 hSw; (try dsimp only at hSw); obtain ⟨s1, s2⟩ := hSw; go_simp; try with_reducible rfl)
        (try simp only [List.getElem_toArray, List.getElem_cons_succ, List.getElem_cons_zero]); (try simp only [Act.put, List.setIfInBounds_toArray, List.set_cons_zero, List.set_cons_succ])
        refine wpAnyH_take (i := 1) (oi := _) (v := ?_) rfl (by kernel_rfl) (by kernel_rfl) (by kernel_rfl) (fun _ _ _ h => h) (Or.inl ⟨by rfl, ?_⟩) (by assumption) ?_
        rotate_left 1
        · (intro w0 hSw; (try dsimp only at hSw); obtain ⟨s1, s2⟩ := hSw; go_simp; try with_reducible rfl)
        (try simp only [List.getElem_toArray, List.getElem_cons_succ, List.getElem_cons_zero]); (try simp only [Act.put, List.setIfInBounds_toArray, List.set_cons_zero, List.set_cons_succ])
        refine wpAnyH_take (i := 2) (oi := _) (v := ?_) rfl (by kernel_rfl) (by kernel_rfl) (by kernel_rfl) (fun _ _ _ h => h) (Or.inl ⟨by rfl, ?_⟩) (by assumption) ?_
        rotate_left 1
        · (intro w0 hSw; (try dsimp only at hSw); obtain ⟨s1, s2⟩ := hSw; go_simp; try with_reducible rfl)
        (try simp only [List.getElem_toArray, List.getElem_cons_succ, List.getElem_cons_zero]); (try simp only [Act.put, List.setIfInBounds_toArray, List.set_cons_zero, List.set_cons_succ])
        refine wpAnyH_take (i := 3) (oi := _) (v := ?_) rfl (by kernel_rfl) (by kernel_rfl) (by kernel_rfl) (fun _ _ _ h => h) (Or.inl ⟨by rfl, ?_⟩) (by assumption) ?_
        rotate_left 1
        · (intro w0 hSw; (try dsimp only at hSw); obtain ⟨s1, s2⟩ := hSw; go_simp; try with_reducible rfl)
        (try simp only [List.getElem_toArray, List.getElem_cons_succ, List.getElem_cons_zero]); (try simp only [Act.put, List.setIfInBounds_toArray, List.set_cons_zero, List.set_cons_succ])
        refine wpAnyH_take (i := 5) (oi := _) (v := ?_) rfl (by kernel_rfl) (by kernel_rfl) (by kernel_rfl) (fun _ _ _ h => h) (Or.inl ⟨by rfl, ?_⟩) (by assumption) ?_
        rotate_left 1
        · (intro w0 hSw; (try dsimp only at hSw); obtain ⟨s1, s2⟩ := hSw; go_simp; try with_reducible rfl)
        (try simp only [List.getElem_toArray, List.getElem_cons_succ, List.getElem_cons_zero]); (try simp only [Act.put, List.setIfInBounds_toArray, List.set_cons_zero, List.set_cons_succ])
        refine wpAnyH_take (i := 6) (oi := _) (v := ?_) rfl (by kernel_rfl) (by kernel_rfl) (by kernel_rfl) (fun _ _ _ h => h) (Or.inl ⟨by rfl, ?_⟩) (by assumption) ?_
        rotate_left 1
        · (intro w0 hSw; (try dsimp only at hSw); obtain ⟨s1, s2⟩ := hSw; go_simp; try with_reducible rfl)
        (try simp only [List.getElem_toArray, List.getElem_cons_succ, List.getElem_cons_zero]); (try simp only [Act.put, List.setIfInBounds_toArray, List.set_cons_zero, List.set_cons_succ])
        refine wpAnyH_take (i := 7) (oi := _) (v := ?_) rfl (by kernel_rfl) (by kernel_rfl) (by kernel_rfl) (fun _ _ _ h => h) (Or.inl ⟨by rfl, ?_⟩) (by assumption) ?_
        rotate_left 1
        · (intro w0 hSw; (try dsimp only at hSw); obtain ⟨s1, s2⟩ := hSw; go_simp; try with_reducible rfl)
        (try simp only [List.getElem_toArray, List.getElem_cons_succ, List.getElem_cons_zero]); (try simp only [Act.put, List.setIfInBounds_toArray, List.set_cons_zero, List.set_cons_succ])
        refine wpAnyH_take (i := 8) (oi := _) (v := ?_) rfl (by kernel_rfl) (by kernel_rfl) (by kernel_rfl) (fun _ _ _ h => h) (Or.inl ⟨by rfl, ?_⟩) (by assumption) ?_
        rotate_left 1
        · (intro w0 hSw; (try dsimp only at hSw); obtain ⟨s1, s2⟩ := hSw; go_simp; try with_reducible rfl)
        (try simp only [List.getElem_toArray, List.getElem_cons_succ, List.getElem_cons_zero]); (try simp only [Act.put, List.setIfInBounds_toArray, List.set_cons_zero, List.set_cons_succ])
        refine wpAnyH_ready (rs := [4, 9]) (by kernel_rfl) (by simp) ?_
        refine AllReadyH.cons (o := _) rfl (fun K1 hK => ?_) ?_
        · go_simp
          try dsimp only
          refine hK _ _ sS.out (fun hHeld => ?_)
          clear hK K1
          (try simp only [List.getElem_toArray, List.getElem_cons_succ, List.getElem_cons_zero]); (try simp only [Act.put, List.setIfInBounds_toArray, List.set_cons_zero, List.set_cons_succ])
          refine wpAnyH_ready (rs := [9]) (by kernel_rfl) (by simp) ?_
          refine AllReadyH.cons (o := _) rfl (fun K1 hK => ?_) AllReadyH.nil
          go_simp
          try dsimp only
          refine hK _ _ sA.out (fun hHeld => ?_)
          clear hK K1
          (try simp only [List.getElem_toArray, List.getElem_cons_succ, List.getElem_cons_zero]); (try simp only [Act.put, List.setIfInBounds_toArray, List.set_cons_zero, List.set_cons_succ])
          refine wpAnyH_ready (rs := [10]) (by kernel_rfl) (by simp) ?_
          refine AllReadyH.cons (o := _) rfl (fun K1 hK => ?_) AllReadyH.nil
          refine step_append_runH rfl (.tmp 32) (.tmp 37) 31 rfl _ _ _ _ rfl rfl (rF.out _ rfl) ?_
          refine hK _ _ sB.out (fun hHeld => ?_)
          clear hK K1
          (try simp only [List.getElem_toArray, List.getElem_cons_succ, List.getElem_cons_zero]); (try simp only [Act.put, List.setIfInBounds_toArray, List.set_cons_zero, List.set_cons_succ])
          refine wpAnyH_take (i := 11) (oi := _) (v := ?_) rfl (by kernel_rfl) (by kernel_rfl) (by kernel_rfl) (fun _ _ _ h => h) (Or.inl ⟨by rfl, ?_⟩) (by assumption) ?_
          rotate_left 1
          · (intro w0 hSw; (try dsimp only at hSw); obtain ⟨s1, s2⟩ := hSw; go_simp; try with_reducible rfl)
          (try simp only [List.getElem_toArray, List.getElem_cons_succ, List.getElem_cons_zero]); (try simp only [Act.put, List.setIfInBounds_toArray, List.set_cons_zero, List.set_cons_succ])
          refine wpAnyH_take (i := 12) (oi := _) (v := ?_) rfl (by kernel_rfl) (by kernel_rfl) (by kernel_rfl) (fun _ _ _ h => h) (Or.inl ⟨by rfl, ?_⟩) (by assumption) ?_
          rotate_left 1
          · (intro w0 hSw; (try dsimp only at hSw); obtain ⟨s1, s2⟩ := hSw; go_simp; try with_reducible rfl)
          (try simp only [List.getElem_toArray, List.getElem_cons_succ, List.getElem_cons_zero]); (try simp only [Act.put, List.setIfInBounds_toArray, List.set_cons_zero, List.set_cons_succ])
          refine wpAnyH_ready (rs := [13]) (by kernel_rfl) (by simp) ?_
          refine AllReadyH.cons (o := _) rfl (fun K1 hK => ?_) AllReadyH.nil
          go_simp
          try dsimp only
          refine hK _ _ sC.out (fun hHeld => ?_)
          clear hK K1
          (try simp only [List.getElem_toArray, List.getElem_cons_succ, List.getElem_cons_zero]); (try simp only [Act.put, List.setIfInBounds_toArray, List.set_cons_zero, List.set_cons_succ])
          refine wpAnyH_done (by kernel_rfl) ?_ _
          refine NoPanic.normal ?_
          clear sS sA sB sC rF f0 f0a f8 fz hHeld
          rw [← hW3H.out]
          clear hW3H
          go_wp2_with fail
          exact ⟨⟨k + 1, by first | rfl | (rw [kw]), hk, NX2, NB⟩, by first | (simp [intOf]; done) | (simp [intOf]; omega)⟩
        refine AllReadyH.cons (o := _) rfl (fun K1 hK => ?_) AllReadyH.nil
        go_simp
        try dsimp only
        refine hK _ _ sA.out (fun hHeld => ?_)
        clear hK K1
        (try simp only [List.getElem_toArray, List.getElem_cons_succ, List.getElem_cons_zero]); (try simp only [Act.put, List.setIfInBounds_toArray, List.set_cons_zero, List.set_cons_succ])
        refine wpAnyH_ready (rs := [4]) (by kernel_rfl) (by simp) ?_
        refine AllReadyH.cons (o := _) rfl (fun K1 hK => ?_) AllReadyH.nil
        go_simp
        try dsimp only
        refine hK _ _ sA.out (fun hHeld => ?_)
        clear hK K1
        (try simp only [List.getElem_toArray, List.getElem_cons_succ, List.getElem_cons_zero]); (try simp only [Act.put, List.setIfInBounds_toArray, List.set_cons_zero, List.set_cons_succ])
        refine wpAnyH_ready (rs := [10]) (by kernel_rfl) (by simp) ?_
        refine AllReadyH.cons (o := _) rfl (fun K1 hK => ?_) AllReadyH.nil
        refine step_append_runH rfl (.tmp 32) (.tmp 37) 31 rfl _ _ _ _ rfl rfl (rF.out _ rfl) ?_
        refine hK _ _ sB.out (fun hHeld => ?_)
        clear hK K1
        (try simp only [List.getElem_toArray, List.getElem_cons_succ, List.getElem_cons_zero]); (try simp only [Act.put, List.setIfInBounds_toArray, List.set_cons_zero, List.set_cons_succ])
        refine wpAnyH_take (i := 11) (oi := _) (v := ?_) rfl (by kernel_rfl) (by kernel_rfl) (by kernel_rfl) (fun _ _ _ h => h) (Or.inl ⟨by rfl, ?_⟩) (by assumption) ?_
        rotate_left 1
        · (intro w0 hSw; (try dsimp only at hSw); obtain ⟨s1, s2⟩ := hSw; go_simp; try with_reducible rfl)
        (try simp only [List.getElem_toArray, List.getElem_cons_succ, List.getElem_cons_zero]); (try simp only [Act.put, List.setIfInBounds_toArray, List.set_cons_zero, List.set_cons_succ])
        refine wpAnyH_take (i := 12) (oi := _) (v := ?_) rfl (by kernel_rfl) (by kernel_rfl) (by kernel_rfl) (fun _ _ _ h => h) (Or.inl ⟨by rfl, ?_⟩) (by assumption) ?_
        rotate_left 1
        · (intro w0 hSw; (try dsimp only at hSw); obtain ⟨s1, s2⟩ := hSw; go_simp; try with_reducible rfl)
        (try simp only [List.getElem_toArray, List.getElem_cons_succ, List.getElem_cons_zero]); (try simp only [Act.put, List.setIfInBounds_toArray, List.set_cons_zero, List.set_cons_succ])
        refine wpAnyH_ready (rs := [13]) (by kernel_rfl) (by simp) ?_
        refine AllReadyH.cons (o := _) rfl (fun K1 hK => ?_) AllReadyH.nil
        go_simp
        try dsimp only
        refine hK _ _ sC.out (fun hHeld => ?_)
        clear hK K1
        (try simp only [List.getElem_toArray, List.getElem_cons_succ, List.getElem_cons_zero]); (try simp only [Act.put, List.setIfInBounds_toArray, List.set_cons_zero, List.set_cons_succ])
        refine wpAnyH_done (by kernel_rfl) ?_ _
        refine NoPanic.normal ?_
        clear sS sA sB sC rF f0 f0a f8 fz hHeld
        rw [← hW3H.out]
        clear hW3H
        go_wp2_with fail
        exact ⟨⟨k + 1, by first | rfl | (rw [kw]), hk, NX2, NB⟩, by first | (simp [intOf]; done) | (simp [intOf]; omega)⟩
    · have hke : k = n := by omega
      have kI : ¬ (k : Int) < (n : Int) := by omega
      have hTl : l.take k = l := by rw [hke, hlnH.out]; exact List.take_length
      rw [hTl] at hU
      have E2 : Hid (∀ W, BD w R F most (bldL (ahd most) (n / 2) (l, 0)).1 ((bldL (ahd most) (n / 2) (l, 0)).2 : Nat) W → QQ (.returned (.tuple #[.pointer (some ⟨F, 0, none⟩), bV 0])) (st5 W R 0)) := fun W d => END2.out W (fun i hi => hK2.out i (by omega)) d
      obtain ⟨nb1, nb2⟩ := nums_b n (by omega)
      have nb3 : wrap64 (Int.tdiv (n : Int) 2) = ((n / 2 : Nat) : Int) := by
        have := nb1
        rw [show Int.tdiv (n : Int) 2 = ((n / 2 : Nat) : Int) by rw [Int.tdiv_eq_ediv_of_nonneg (by omega)]; omega]
        exact IntWalk.wrap64_in _ (by omega)
      have G2 : Hid (BD w R F most l ((0 : Nat) : Int) wr) := hU.out
      clear END1 END2 hK2 hTl hU hinH hoH
      subst hke
      go_wp2_with fail
      go_loopw [8] (fun v8 wr => ∃ (j m1 : Nat) (L1 : List Ent), v8 = .int .i64 ((j : Int) - 1) ∧ j ≤ k / 2 ∧ L1.length = k ∧ Hid (bldL (ahd most) (k / 2) (l, 0) = bldL (ahd most) j (L1, m1)) ∧ Hid (BD w R F most L1 (m1 : Nat) wr)) (fun v8 _ => (intOf v8 + 1).toNat)
      case atStart => exact ⟨k / 2, 0, l, by first | rfl | (rw [nb2]) | (simp [nb1, nb2, nb3]), Nat.le_refl _, hlnH.out.symm, rfl, G2⟩
      case round =>
        clear G2
        obtain ⟨j, m1, L1, rfl, hjk, hL1, hE, hG⟩ := hrel
        cases j with
        | zero =>
          have b1 := hG.out.bc
          have fin : Hid _ := E2.out wr (by rw [hE.out]; exact hG.out)
          unfold bV at fin
          obtain ⟨_, c0, c1, c2, c3, c4, z⟩ := b1
          have z0 := z 0
          have z1 := z 1
          have z2 := z 2
          have z3 := z 3
          have z4 := z 4
          clear hE hG E2 z tot
          go_wp2_with fail
          simp [bodyPost, results, Tryz.results10, go_sem, c0, c1, c2, c3, c4]
          exact fin.out
        | succ j =>
          have tt := tot.out j m1 L1 hE.out
          have LE : (downL (ahd most) L1 j).1.length = k := by rw [downL_len (ahd most) _ L1 j (Nat.le_refl _)]; exact hL1
          have E3 : Hid (bldL (ahd most) (k / 2) (l, 0) = bldL (ahd most) j ((downL (ahd most) L1 j).1, m1 + (downL (ahd most) L1 j).2)) := hE.out
          have CD : Hid (Calls Tryz.prog 26 #[.pointer (some ⟨F, 0, none⟩), .int .i64 (j : Int)] wr fun e w' => e = .returned undef ∧ BD w R F most (downL (ahd most) L1 j).1 ((m1 + (downL (ahd most) L1 j).2 : Nat) : Int) w') := (hG.out.down j (by omega) (by omega) (by omega)).mono fun e w' hh => ⟨hh.1, by have := hh.2; rw [show (m1 : Int) + ((downL (ahd most) L1 j).2 : Nat) = ((m1 + (downL (ahd most) L1 j).2 : Nat) : Int) by omega] at this; exact this⟩
          obtain ⟨ka, kb, kc, kd, ke, _⟩ := nums_k j 0 0 (by omega) (by omega)
          generalize (downL (ahd most) L1 j).2 = d at *
          generalize (downL (ahd most) L1 j).1 = L2 at *
          clear hE hG hL1 tt
          go_wp2_with fail
          refine Calls.mono CD.out ?_
          rintro e w5 ⟨rfl, u5⟩
          have U5 : Hid (BD w R F most L2 ((m1 + d : Nat) : Int) w5) := u5
          clear u5 CD
          go_wp2_with fail
          exact ⟨⟨j, m1 + d, L2, by first | rfl | (rw [kc]), by omega, LE, E3, U5⟩, by first | (simp [intOf]; done) | (simp [intOf]; omega)⟩
end Go.Proofs.YtboacnpbicedfaaGreatDoor.Hp
