
import Derived.Test.YtboacnpbicedfaaGreatDoorByE
import Derived.BigRegion
namespace Go.Proofs.YtboacnpbicedfaaGreatDoor.Hp
open Go.RowKit Go.Maps
set_option linter.unusedVariables false
set_option linter.unusedSimpArgs false
set_option maxRecDepth 100000
/-- the document's heap: its entries, its order, its moves. -/
structure DS (w : World) (B dp : Nat) (most : Bool) (v : Value) (L : List Ent) (mv : Int) : Prop where
  c0 : w.cell? ⟨dp, 0, none⟩ = some v
  c1 : w.cell? ⟨dp, 1, none⟩ = some (.bool most)
  c2 : w.cell? ⟨dp, 2, none⟩ = some (.int .i64 mv)
  z0 : w.frozen? ⟨dp, 0, none⟩ = false
  z2 : w.frozen? ⟨dp, 2, none⟩ = false
  row : OE w B v L
  ne : ∀ g, v.ownBlock = some g → dp ≠ g
  hl : dp < w.heap.size
  bs : B ≤ w.heap.size
theorem DS.below {w w' : World} {B dp : Nat} {most : Bool} {v : Value} {L : List Ent} {mv : Int} (h : DS w B dp most v L mv) (hb : Below w.heap.size w w') : DS w' B dp most v L mv :=
  ⟨by rw [hb.cell (p := ⟨dp, 0, none⟩) h.hl]; exact h.c0, by rw [hb.cell (p := ⟨dp, 1, none⟩) h.hl]; exact h.c1, by rw [hb.cell (p := ⟨dp, 2, none⟩) h.hl]; exact h.c2, by rw [hb.frozen (p := ⟨dp, 0, none⟩) h.hl]; exact h.z0, by rw [hb.frozen (p := ⟨dp, 2, none⟩) h.hl]; exact h.z2, h.row.below hb (Nat.le_refl _), h.ne, Nat.lt_of_lt_of_le h.hl hb.size, Nat.le_trans h.bs hb.size⟩
theorem HF.set {hp mb : Nat} {rb : Option Nat} {w w' : World} (h : HF hp mb rb w w') (b o : Nat) (u : Value) (hb : b = hp ∨ some b = rb) : HF hp mb rb w (w'.setCell ⟨b, o, none⟩ u) :=
  h.trans ⟨by simp, fun k hk a _ d => Below.heap_setCell _ _ _ _ (fun e => by
    have e : b = k := Eq.symm e
    rcases hb with q | q
    · exact a (by omega)
    · rw [e] at q; exact d q), rfl, rfl, rfl⟩
/-- its moves written. -/
theorem DS.mvs {w : World} {B dp : Nat} {most : Bool} {v : Value} {L : List Ent} {mv : Int} (h : DS w B dp most v L mv) (m : Int) : DS (w.setCell ⟨dp, 2, none⟩ (.int .i64 m)) B dp most v L m ∧ HF dp dp v.ownBlock w (w.setCell ⟨dp, 2, none⟩ (.int .i64 m)) := by
  have co : ∀ o, o ≠ 2 → (w.setCell ⟨dp, 2, none⟩ (.int .i64 m)).cell? ⟨dp, o, none⟩ = w.cell? ⟨dp, o, none⟩ := fun o ho => World.cell?_setCell_other _ _ _ _ (by intro q; injection q; omega)
  exact ⟨⟨by rw [co 0 (by omega)]; exact h.c0, by rw [co 1 (by omega)]; exact h.c1, World.cell?_setCell_same _ _ _ h.c2, by rw [World.frozen?_setCell]; exact h.z0, by rw [World.frozen?_setCell]; exact h.z2, ownsRow_setCell_ne h.row _ (fun g e => h.ne g e) _, h.ne, by simpa using h.hl, by simpa using h.bs⟩, (HF.refl _ _ _ _).set dp 2 _ (Or.inl rfl)⟩
/-- an entry written. -/
theorem DS.put {w : World} {B dp g n cap : Nat} {most : Bool} {L : List Ent} {mv : Int} (h : DS w B dp most (.slice (some ⟨g, 0, none⟩) n cap) L mv) {i : Nat} (hi : i < L.length) (x : Ent) : DS ((w.setCell ⟨g, i * 2, none⟩ (.int .i64 x.1)).setCell ⟨g, i * 2 + 1, none⟩ (.string x.2)) B dp most (.slice (some ⟨g, 0, none⟩) n cap) (L.set i x) mv ∧ HF dp dp (some g) w ((w.setCell ⟨g, i * 2, none⟩ (.int .i64 x.1)).setCell ⟨g, i * 2 + 1, none⟩ (.string x.2)) := by
  have gne := h.ne g rfl
  have co : ∀ o, ((w.setCell ⟨g, i * 2, none⟩ (.int .i64 x.1)).setCell ⟨g, i * 2 + 1, none⟩ (.string x.2)).cell? ⟨dp, o, none⟩ = w.cell? ⟨dp, o, none⟩ := fun o => by
    rw [World.cell?_setCell_other _ _ _ _ (by intro q; injection q; omega), World.cell?_setCell_other _ _ _ _ (by intro q; injection q; omega)]
  refine ⟨⟨by rw [co 0]; exact h.c0, by rw [co 1]; exact h.c1, by rw [co 2]; exact h.c2, by rw [World.frozen?_setCell, World.frozen?_setCell]; exact h.z0, by rw [World.frozen?_setCell, World.frozen?_setCell]; exact h.z2, (h.row.put hi x h.bs).1, h.ne, by simpa using h.hl, by simpa using h.bs⟩, ((HF.refl _ _ _ _).set g _ _ (Or.inr rfl)).set g _ _ (Or.inr rfl)⟩
theorem DS.drew {w : World} {B dp : Nat} {most : Bool} {v : Value} {L : List Ent} {mv : Int} (h : DS w B dp most v L mv) : DS w.drew B dp most v L mv := h.below (Below.refl _ w).drew
theorem HF.drew {hp mb : Nat} {rb : Option Nat} {w w' : World} (h : HF hp mb rb w w') : HF hp mb rb w w'.drew := h.trans (HF.below (Below.refl _ w').drew)
set_option maxHeartbeats 8000000 in
theorem dswap_any {w : World} {B dp : Nat} {most : Bool} {v : Value} {L : List Ent} {mv : Int} (h : DS w B dp most v L mv) (i j : Nat) (hi : i < L.length) (hj : j < L.length) (hne : i ≠ j) (hmv : 0 ≤ mv ∧ mv ≤ 4611686018427387904) :
    Calls Tryz.prog 54 #[.pointer (some ⟨dp, 0, none⟩), .int .i64 (i : Int), .int .i64 (j : Int)] w fun e w' => e = .returned undef ∧ DS w' B dp most v (swp L i j) (mv + 1) ∧ HF dp dp v.ownBlock w w' := by
  obtain ⟨a, cap, rfl, hcap, hg⟩ := h.row.form
  obtain ⟨g, rfl⟩ := hg (by omega)
  obtain ⟨a1, a2⟩ := h.row.at hi
  obtain ⟨b1, b2⟩ := h.row.at hj
  have fz := h.row.fz
  have f1 := fz (i * 2)
  have f2 := fz (i * 2 + 1)
  have f3 := fz (j * 2)
  have f4 := fz (j * 2 + 1)
  have gne := h.ne g rfl
  have c0 := h.c0
  have P1 := h.put hi (atE L j)
  have P2 := P1.1.put (i := j) (by simpa using hj) (atE L i)
  have D3 : Hid (DS ((((w.setCell ⟨g, i * 2, none⟩ (.int .i64 (atE L j).1)).setCell ⟨g, i * 2 + 1, none⟩ (.string (atE L j).2)).setCell ⟨g, j * 2, none⟩ (.int .i64 (atE L i).1)).setCell ⟨g, j * 2 + 1, none⟩ (.string (atE L i).2)) B dp most (.slice (some ⟨g, 0, none⟩) L.length cap) (swp L i j) mv ∧ HF dp dp (some g) w ((((w.setCell ⟨g, i * 2, none⟩ (.int .i64 (atE L j).1)).setCell ⟨g, i * 2 + 1, none⟩ (.string (atE L j).2)).setCell ⟨g, j * 2, none⟩ (.int .i64 (atE L i).1)).setCell ⟨g, j * 2 + 1, none⟩ (.string (atE L i).2))) := ⟨P2.1, P1.2.trans P2.2⟩
  have mw : IntKind.i64.wrap (mv + 1) = mv + 1 := IntWalk.i64_in _ (by omega)
  have i0 : (0 : Int) ≤ (i : Int) := by omega
  have j0 : (0 : Int) ≤ (j : Int) := by omega
  have iI : (i : Int) < (L.length : Int) := by omega
  have jI : (j : Int) < (L.length : Int) := by omega
  have ne1 : ¬ i * 2 = j * 2 := by omega
  have ne2 : ¬ i * 2 = j * 2 + 1 := by omega
  have ne3 : ¬ i * 2 + 1 = j * 2 := by omega
  have ne4 : ¬ i * 2 + 1 = j * 2 + 1 := by omega
  have ne5 : ¬ j * 2 = i * 2 + 1 := by omega
  generalize swp L i j = L2 at *
  generalize atE L i = x at *
  generalize atE L j = y at *
  clear P1 P2 h hi hj hcap hg fz hmv
  generalize L.length = n at *
  go_enter Tryz.func54, Tryz.ntmps54
  go_wp2_with fail
  go_region
  generalize ((((w.setCell ⟨g, i * 2, none⟩ (.int .i64 y.1)).setCell ⟨g, i * 2 + 1, none⟩ (.string y.2)).setCell ⟨g, j * 2, none⟩ (.int .i64 x.1)).setCell ⟨g, j * 2 + 1, none⟩ (.string x.2)) = W4 at D3 ⊢
  have d2 : W4.drew.cell? ⟨dp, 2, none⟩ = some (.int .i64 mv) := D3.out.1.drew.c2
  have dz : W4.drew.frozen? ⟨dp, 2, none⟩ = false := D3.out.1.drew.z2
  have fin : Hid (DS (W4.drew.setCell ⟨dp, 2, none⟩ (.int .i64 (mv + 1))) B dp most (.slice (some ⟨g, 0, none⟩) n cap) L2 (mv + 1) ∧ HF dp dp (some g) w (W4.drew.setCell ⟨dp, 2, none⟩ (.int .i64 (mv + 1)))) := ⟨(D3.out.1.drew.mvs _).1, D3.out.2.drew.trans (D3.out.1.drew.mvs _).2⟩
  clear D3 f1 f2 f3 f4 a1 a2 b1 b2 c0
  generalize W4.drew = W5 at *
  go_wp2_with fail
  first | go_end0 | (simp only [Exit.inBlock, Exit.then]; refine bodyPost_ret (results_none rfl _ _ _) rfl ?_) | refine bodyPost_ret (results_none rfl _ _ _) rfl ?_
  exact ⟨rfl, fin.out⟩
end Go.Proofs.YtboacnpbicedfaaGreatDoor.Hp

namespace Go.Proofs.YtboacnpbicedfaaGreatDoor.Hp
open Go.RowKit Go.Maps
set_option linter.unusedVariables false
set_option linter.unusedSimpArgs false
set_option maxRecDepth 100000
/-- while an entry goes up or down. -/
structure UE (w : World) (B dp : Nat) (most : Bool) (v : Value) (n : Nat) (L : List Ent) (mv : Int) (wr : World) : Prop where
  ds : DS wr B dp most v L mv
  fr : HF dp dp v.ownBlock w wr
  len : L.length = n
theorem UE.gr {w : World} {B dp : Nat} {most : Bool} {v : Value} {n : Nat} {L : List Ent} {mv : Int} {wr w' : World} (h : UE w B dp most v n L mv wr) (g : GR wr w') : UE w B dp most v n L mv w' := ⟨h.ds.below g.below, h.fr.trans (HF.below g.below), h.len⟩
theorem UE.swap {w : World} {B dp : Nat} {most : Bool} {v : Value} {n : Nat} {L : List Ent} {mv : Int} {wr : World} (h : UE w B dp most v n L mv wr) (i j : Nat) (hi : i < n) (hj : j < n) (hne : i ≠ j) (hmv : 0 ≤ mv ∧ mv ≤ 4611686018427387904) :
    Calls Tryz.prog 54 #[.pointer (some ⟨dp, 0, none⟩), .int .i64 (i : Int), .int .i64 (j : Int)] wr fun e w' => e = .returned undef ∧ UE w B dp most v n (swp L i j) (mv + 1) w' := by
  have hl := h.len
  refine (dswap_any h.ds i j (by omega) (by omega) hne hmv).mono fun e w' hh => ?_
  exact ⟨hh.1, hh.2.1, h.fr.trans hh.2.2, by rw [swp_len]; exact hl⟩
theorem drewN_gr (w : World) (q : Nat) : GR w (w.drewN q) := ⟨q, #[], by rw [Sort.grow_empty]⟩
/-- what stands in memory of an entry, whatever came. -/
theorem UE.cells {w : World} {B dp g n cap : Nat} {most : Bool} {L : List Ent} {mv : Int} {wr : World} (h : UE w B dp most (.slice (some ⟨g, 0, none⟩) n cap) n L mv wr) {k : Nat} (hk : k < n) :
    (∀ q os, (Sort.grow (wr.drewN q) os).cell? ⟨g, k * 2, none⟩ = some (.int .i64 (atE L k).1)) ∧ ∀ q os, (Sort.grow (wr.drewN q) os).cell? ⟨g, k * 2 + 1, none⟩ = some (.string (atE L k).2) := by
  have hl := h.len
  exact ⟨fun q os => ((h.gr ⟨q, os, rfl⟩).ds.row.at (i := k) (by omega)).1, fun q os => ((h.gr ⟨q, os, rfl⟩).ds.row.at (i := k) (by omega)).2⟩
theorem UE.heads {w : World} {B dp n : Nat} {v : Value} {most : Bool} {L : List Ent} {mv : Int} {wr : World} (h : UE w B dp most v n L mv wr) :
    (∀ q os, (Sort.grow (wr.drewN q) os).cell? ⟨dp, 0, none⟩ = some v) ∧ ∀ q os, (Sort.grow (wr.drewN q) os).cell? ⟨dp, 1, none⟩ = some (.bool most) := ⟨fun q os => (h.gr ⟨q, os, rfl⟩).ds.c0, fun q os => (h.gr ⟨q, os, rfl⟩).ds.c1⟩
theorem nums_par (k : Nat) (h0 : 0 < k) (h1 : k ≤ 4611686018427387904) : IntKind.i64.wrap ((k : Int) - 1) = (k : Int) - 1 ∧ IntKind.i64.wrap (((k : Int) - 1).tdiv 2) = ((par k : Nat) : Int) ∧ wrap64 (((k : Int) - 1).tdiv 2) = ((par k : Nat) : Int) := by
  have : ((k : Int) - 1).tdiv 2 = ((par k : Nat) : Int) := by rw [show (k : Int) - 1 = ((k - 1 : Nat) : Int) by omega]; rfl
  refine ⟨IntWalk.i64_in _ (by omega), ?_, ?_⟩
  · rw [this]; exact IntWalk.i64_in _ (by unfold par; omega)
  · rw [this]; exact IntWalk.wrap64_in _ (by unfold par; omega)
set_option maxHeartbeats 8000000 in
theorem dup_any {w : World} {B dp n : Nat} {most : Bool} {v : Value} {L : List Ent} {mv : Int} (h : UE w B dp most v n L mv w) (i : Nat) (hi : i < n) (hL : n ≤ 1152921504606846976) (hmv : 0 ≤ mv ∧ mv ≤ 2305843009213693952) :
    Calls Tryz.prog 60 #[.pointer (some ⟨dp, 0, none⟩), .int .i64 (i : Int)] w fun e w' => e = .returned undef ∧ UE w B dp most v n (upL (ahd most) L i).1 (mv + ((upL (ahd most) L i).2 : Nat)) w' := by
  obtain ⟨a, cap, hv, hcap, hg⟩ := h.ds.row.form
  obtain ⟨g, rfl⟩ := hg (by rw [h.len]; omega)
  rw [h.len] at hv
  subst hv
  have mixed : Tryz.prog.follows .mixedOrders = true := by kernel_rfl
  have eg : ∀ args w, (callFunc 53 args).run Tryz.prog w = .ok (.enter 53 args) w := enters_of Tryz.func53 (by kernel_rfl) rfl
  have U0 : Hid (UE w B dp most (.slice (some ⟨g, 0, none⟩) n cap) n L mv w) := h
  clear h hg hcap
  go_enter Tryz.func60, Tryz.ntmps60
  go_wp2_with fail
  go_loopw [1] (fun v1 wr => ∃ (k m : Nat) (L1 : List Ent), v1 = .int .i64 (k : Int) ∧ k < n ∧ m + k ≤ i ∧ Hid (upL (ahd most) L i = ((upL (ahd most) L1 k).1, (upL (ahd most) L1 k).2 + m)) ∧ Hid (UE w B dp most (.slice (some ⟨g, 0, none⟩) n cap) n L1 (mv + (m : Nat)) wr)) (fun v1 _ => (intOf v1).toNat)
  case atStart => exact ⟨i, 0, L, rfl, hi, by omega, rfl, by simpa using U0⟩
  case round =>
    clear U0
    obtain ⟨k, m, L1, rfl, hkn, hmk, hE, hU⟩ := hrel
    by_cases hk : 0 < k
    · have hkI : (k : Int) > 0 := by omega
      have hkJ : (0 : Int) < (k : Int) := by omega
      have pl : par k < n := by unfold par; omega
      have plk : par k < k := by unfold par; omega
      obtain ⟨e1, e2, e3⟩ := nums_par k hk (by omega)
      obtain ⟨k1, k2⟩ := hU.out.cells hkn
      obtain ⟨k3, k4⟩ := hU.out.cells pl
      obtain ⟨k5, k6⟩ := hU.out.heads
      have CA : Hid (∀ W, Calls Tryz.prog 53 #[.bool most, .agg #[.int .i64 (atE L1 k).1, .string (atE L1 k).2], .agg #[.int .i64 (atE L1 (par k)).1, .string (atE L1 (par k)).2]] W fun e w' => e = .returned (.bool (ahd most (atE L1 k) (atE L1 (par k)))) ∧ ∃ q os', w' = Sort.grow (W.drewN q) os') := fun W => rahead_gr most _ _ W
      have CS : Hid (∀ W, UE w B dp most (.slice (some ⟨g, 0, none⟩) n cap) n L1 (mv + (m : Nat)) W → Calls Tryz.prog 54 #[.pointer (some ⟨dp, 0, none⟩), .int .i64 (k : Int), .int .i64 ((par k : Nat) : Int)] W fun e w' => e = .returned undef ∧ UE w B dp most (.slice (some ⟨g, 0, none⟩) n cap) n (swp L1 k (par k)) (mv + ((m + 1 : Nat) : Int)) w') := fun W hW => (hW.swap k (par k) hkn pl (by omega) (by omega)).mono fun e w' hh => ⟨hh.1, by have := hh.2; rw [show mv + (m : Int) + 1 = mv + ((m + 1 : Nat) : Int) by omega] at this; exact this⟩
      obtain ⟨bv, hbv⟩ : ∃ bv, ahd most (atE L1 k) (atE L1 (par k)) = bv := ⟨_, rfl⟩
      rw [hbv] at CA
      have GO : Hid (bv = true → upL (ahd most) L i = ((upL (ahd most) (swp L1 k (par k)) (par k)).1, (upL (ahd most) (swp L1 k (par k)) (par k)).2 + (m + 1))) := fun q => by
        have := hE.out
        rw [upL_go hk (hbv.trans q)] at this
        rw [this]
        simp only
        congr 1
        omega
      have NO : Hid (bv = false → upL (ahd most) L i = (L1, m)) := fun q => by
        have := hE.out
        rw [upL_stop (ah := ahd most) (L := L1) (i := k) (by rw [hbv, q]; simp)] at this
        rw [this]; simp
      have p0 : (0 : Int) ≤ ((par k : Nat) : Int) := by omega
      have p1 : ((par k : Nat) : Int) < (n : Int) := by omega
      have k0 : (0 : Int) ≤ (k : Int) := by omega
      have kn : (k : Int) < (n : Int) := by omega
      clear hE hbv
      generalize par k = p at *
      generalize hx : atE L1 k = x at k1 k2 CA
      generalize hy : atE L1 p = y at k3 k4 CA
      clear hx hy
      go_wp2_with fail
      go_quiet_grown (first | (go_at_fn 53; refine Calls.grown_of (CA.out _)))
      have hG2 : Hid (UE w B dp most (.slice (some ⟨g, 0, none⟩) n cap) n L1 (mv + (m : Nat)) (Sort.grow (wr.drewN nq) osq)) := hU.out.gr ⟨nq, osq, rfl⟩
      clear k1 k2 k3 k4 k5 k6 CA hU
      generalize Sort.grow (wr.drewN nq) osq = w3 at *
      cases bv with
      | true =>
        have E2 : Hid _ := GO.out rfl
        have C2 : Hid _ := CS.out w3 hG2.out
        clear GO NO CS hG2
        go_wp2_with fail
        refine Calls.mono C2.out ?_
        rintro e w4 ⟨rfl, u4⟩
        have U4 : Hid (UE w B dp most (.slice (some ⟨g, 0, none⟩) n cap) n (swp L1 k p) (mv + ((m + 1 : Nat) : Int)) w4) := u4
        clear u4 C2
        go_wp2_with fail
        exact ⟨⟨p, m + 1, swp L1 k p, by first | rfl | (rw [e2]) | (rw [e3]), pl, by omega, E2, U4⟩, by simp [intOf]; omega⟩
      | false =>
        have fin : Hid _ := NO.out rfl
        clear GO NO CS
        go_wp2_with fail
        first | go_end0 | (simp only [Exit.inBlock, Exit.then]; refine bodyPost_ret (results_none rfl _ _ _) rfl ?_) | refine bodyPost_ret (results_none rfl _ _ _) rfl ?_
        exact ⟨rfl, by rw [fin.out]; exact hG2.out⟩
    · have hkI : ¬ (k : Int) > 0 := by omega
      have hkJ : ¬ (0 : Int) < (k : Int) := by omega
      have fin : Hid (upL (ahd most) L i = (L1, m)) := by
        have := hE.out
        rw [upL_stop (ah := ahd most) (L := L1) (i := k) (fun e => hk e.1)] at this
        show upL (ahd most) L i = _
        rw [this]; simp
      have hdr : Hid (∀ nq, UE w B dp most (.slice (some ⟨g, 0, none⟩) n cap) n L1 (mv + (m : Nat)) (wr.drewN nq)) := fun nq => hU.out.gr (drewN_gr wr nq)
      clear hE hU
      go_wp2_with fail
      go_quiet (fail)
      have hG2 : Hid _ := hdr.out nq
      clear hdr
      generalize wr.drewN nq = w3 at *
      go_wp2_with fail
      first | go_end0 | (simp only [Exit.inBlock, Exit.then]; refine bodyPost_ret (results_none rfl _ _ _) rfl ?_) | refine bodyPost_ret (results_none rfl _ _ _) rfl ?_
      exact ⟨rfl, by rw [fin.out]; exact hG2.out⟩

theorem nums_kid (k : Nat) (h1 : k ≤ 1152921504606846976) : IntKind.i64.wrap (2 * (k : Int)) = 2 * (k : Int) ∧ IntKind.i64.wrap (2 * (k : Int) + 1) = ((2 * k + 1 : Nat) : Int) ∧ IntKind.i64.wrap (((2 * k + 1 : Nat) : Int) + 1) = ((2 * k + 2 : Nat) : Int) := by
  refine ⟨IntWalk.i64_in _ (by omega), ?_, ?_⟩
  · rw [show 2 * (k : Int) + 1 = ((2 * k + 1 : Nat) : Int) by omega]; exact IntWalk.i64_in _ (by omega)
  · rw [show ((2 * k + 1 : Nat) : Int) + 1 = ((2 * k + 2 : Nat) : Int) by omega]; exact IntWalk.i64_in _ (by omega)
/-- the second part of a round of down: a kid is chosen. -/
def DK (ah : Ent → Ent → Bool) (L : List Ent) (i : Nat) (L1 : List Ent) (k m d : Nat) : Prop := d = kidL ah L1 k ∧ downL ah L i = ((downL ah L1 k).1, (downL ah L1 k).2 + m)
set_option maxHeartbeats 16000000 in
theorem ddown_any {w : World} {B dp n : Nat} {most : Bool} {v : Value} {L : List Ent} {mv : Int} (h : UE w B dp most v n L mv w) (i : Nat) (hi : i < n) (hL : n ≤ 1152921504606846976) (hmv : 0 ≤ mv ∧ mv ≤ 2305843009213693952) :
    Calls Tryz.prog 26 #[.pointer (some ⟨dp, 0, none⟩), .int .i64 (i : Int)] w fun e w' => e = .returned undef ∧ UE w B dp most v n (downL (ahd most) L i).1 (mv + ((downL (ahd most) L i).2 : Nat)) w' := by
  obtain ⟨a, cap, hv, hcap, hg⟩ := h.ds.row.form
  obtain ⟨g, rfl⟩ := hg (by rw [h.len]; omega)
  rw [h.len] at hv
  subst hv
  have mixed : Tryz.prog.follows .mixedOrders = true := by kernel_rfl
  have eg : ∀ args w, (callFunc 53 args).run Tryz.prog w = .ok (.enter 53 args) w := enters_of Tryz.func53 (by kernel_rfl) rfl
  have U0 : Hid (UE w B dp most (.slice (some ⟨g, 0, none⟩) n cap) n L mv w) := h
  clear h hg hcap
  go_enter Tryz.func26, Tryz.ntmps26
  go_wp2_with fail
  go_loopw [1] (fun v1 wr => ∃ (k m : Nat) (L1 : List Ent), v1 = .int .i64 (k : Int) ∧ k < n ∧ m ≤ k ∧ Hid (downL (ahd most) L i = ((downL (ahd most) L1 k).1, (downL (ahd most) L1 k).2 + m)) ∧ Hid (UE w B dp most (.slice (some ⟨g, 0, none⟩) n cap) n L1 (mv + (m : Nat)) wr)) (fun v1 _ => n - (intOf v1).toNat)
  case atStart => exact ⟨i, 0, L, rfl, hi, by omega, rfl, by simpa using U0⟩
  case round =>
    clear U0
    obtain ⟨k, m, L1, rfl, hkn, hmk, hE, hU⟩ := hrel
    obtain ⟨n1, n2, n3⟩ := nums_kid k (by omega)
    have hd0 := hU.out.ds.c0
    have hlen : Hid (L1.length = n) := hU.out.len
    obtain ⟨p, hp⟩ : ∃ p : Nat, p = 2 * k + 1 := ⟨_, rfl⟩
    obtain ⟨q, hq⟩ : ∃ q : Nat, q = 2 * k + 2 := ⟨_, rfl⟩
    have KD : Hid (kidL (ahd most) L1 k = if q < n ∧ ahd most (atE L1 q) (atE L1 p) = true then q else p) := by rw [hp, hq, ← hlen.out]; rfl
    rw [← hp] at n2 n3
    rw [← hq] at n3
    have hpk : k < p := by omega
    have hqk : k < q := by omega
    have hpq : Hid (q = p + 1) := by show q = p + 1; omega
    have hpH : Hid (p = 2 * k + 1) := hp
    clear hp hq
    by_cases hpn : p < n
    · have pI : (p : Int) < (n : Int) := by omega
      have p0 : (0 : Int) ≤ (p : Int) := by omega
      have k0 : (0 : Int) ≤ (k : Int) := by omega
      have kI : (k : Int) < (n : Int) := by omega
      -- what comes when the kid is chosen
      have SECOND : Hid (∀ d, d = kidL (ahd most) L1 k → d < n ∧ k < d ∧ m + 1 ≤ d ∧ ∀ bv, ahd most (atE L1 d) (atE L1 k) = bv → (bv = true → downL (ahd most) L i = ((downL (ahd most) (swp L1 k d) d).1, (downL (ahd most) (swp L1 k d) d).2 + (m + 1))) ∧ (bv = false → downL (ahd most) L i = (L1, m))) := fun d hd => by
        have dn : d < n := by
          rw [hd, KD.out]; split
          · rename_i c; exact c.1
          · exact hpn
        have kd : k < d := by rw [hd]; have := kidL_two (ahd most) L1 k; omega
        refine ⟨dn, kd, by omega, fun bv hbv => ⟨fun e => ?_, fun e => ?_⟩⟩
        · have := hE.out
          rw [downL_go (ah := ahd most) (L := L1) (i := k) (by rw [← hd, hlen.out]; exact dn) (by rw [← hd]; exact hbv.trans e), ← hd] at this
          rw [this]
          simp only
          congr 1
          omega
        · have := hE.out
          rw [downL_stop (ah := ahd most) (L := L1) (i := k) (by rw [← hd, hbv, e]; simp)] at this
          rw [this]; simp
      have CA : Hid (∀ x y W, Calls Tryz.prog 53 #[.bool most, .agg #[.int .i64 (atE L1 x).1, .string (atE L1 x).2], .agg #[.int .i64 (atE L1 y).1, .string (atE L1 y).2]] W fun e w' => e = .returned (.bool (ahd most (atE L1 x) (atE L1 y))) ∧ ∃ q os', w' = Sort.grow (W.drewN q) os') := fun x y W => rahead_gr most _ _ W
      have CS : Hid (∀ d W, d < n → k ≠ d → UE w B dp most (.slice (some ⟨g, 0, none⟩) n cap) n L1 (mv + (m : Nat)) W → Calls Tryz.prog 54 #[.pointer (some ⟨dp, 0, none⟩), .int .i64 (k : Int), .int .i64 (d : Int)] W fun e w' => e = .returned undef ∧ UE w B dp most (.slice (some ⟨g, 0, none⟩) n cap) n (swp L1 k d) (mv + ((m + 1 : Nat) : Int)) w') := fun d W hd hkd hW => (hW.swap k d hkn hd hkd (by omega)).mono fun e w' hh => ⟨hh.1, by have := hh.2; rw [show mv + (m : Int) + 1 = mv + ((m + 1 : Nat) : Int) by omega] at this; exact this⟩
      clear hE
      go_wp2_with fail
      clear hd0
      go_cut [4, 46] from 17 to 45 (fun v4 v46 wx => ∃ bv, v4 = .int .i64 (p : Int) ∧ v46 = .bool bv ∧ Hid (bv = true → q < n ∧ q = kidL (ahd most) L1 k) ∧ Hid (bv = false → p = kidL (ahd most) L1 k) ∧ Hid (UE w B dp most (.slice (some ⟨g, 0, none⟩) n cap) n L1 (mv + (m : Nat)) wx))
      case first =>
        have hUo := hU
        clear SECOND CS hlen hpH hpq n1 n2 hU
        obtain ⟨k5, k6⟩ := hUo.out.heads
        obtain ⟨k3, k4⟩ := hUo.out.cells hpn
        by_cases hqn : q < n
        · have q0 : (0 : Int) ≤ (q : Int) := by omega
          have qI : (q : Int) < (n : Int) := by omega
          obtain ⟨k1, k2⟩ := hUo.out.cells hqn
          have C1 : Hid _ := CA.out q p
          obtain ⟨bv, hbv⟩ : ∃ bv, ahd most (atE L1 q) (atE L1 p) = bv := ⟨_, rfl⟩
          rw [hbv] at C1
          have K1 : Hid (bv = true → q < n ∧ q = kidL (ahd most) L1 k) := fun e => ⟨hqn, by rw [KD.out, if_pos ⟨hqn, hbv.trans e⟩]⟩
          have K2 : Hid (bv = false → p = kidL (ahd most) L1 k) := fun e => by rw [KD.out, if_neg (fun c => by rw [hbv, e] at c; simp at c)]
          clear KD CA hbv
          generalize hx : atE L1 q = x at k1 k2 C1
          generalize hy : atE L1 p = y at k3 k4 C1
          clear hx hy
          go_wp2_with fail
          go_quiet_grown (first | (go_at_fn 53; refine Calls.grown_of (C1.out _)))
          have hG2 : Hid (UE w B dp most (.slice (some ⟨g, 0, none⟩) n cap) n L1 (mv + (m : Nat)) (Sort.grow (wr.drewN nq) osq)) := hUo.out.gr ⟨nq, osq, rfl⟩
          clear k1 k2 k3 k4 k5 k6 C1 hUo
          generalize Sort.grow (wr.drewN nq) osq = w3 at *
          cases bv with
          | true =>
            have K3 : Hid _ := K1.out rfl
            clear K1 K2
            go_wp2_with fail
            go_meet
            exact ⟨true, rfl, rfl, fun _ => K3.out, (fun e => by cases e), hG2⟩
          | false =>
            have K3 : Hid _ := K2.out rfl
            clear K1 K2
            go_wp2_with fail
            go_meet
            exact ⟨false, rfl, rfl, (fun e => by cases e), fun _ => K3.out, hG2⟩
        · have qI : ¬ (q : Int) < (n : Int) := by omega
          have qd : decide ((q : Int) < (n : Int)) = false := decide_eq_false qI
          have K3 : Hid (p = kidL (ahd most) L1 k) := by show p = _; rw [KD.out, if_neg (fun c => hqn c.1)]
          have hdr : Hid (∀ nq, UE w B dp most (.slice (some ⟨g, 0, none⟩) n cap) n L1 (mv + (m : Nat)) (wr.drewN nq)) := fun nq => hUo.out.gr (drewN_gr wr nq)
          have k7 : ∀ q, (wr.drewN q).cell? ⟨dp, 0, none⟩ = some (.slice (some ⟨g, 0, none⟩) n cap) := fun q => (hdr.out q).ds.c0
          have k8 : wr.cell? ⟨dp, 0, none⟩ = some (.slice (some ⟨g, 0, none⟩) n cap) := hUo.out.ds.c0
          clear KD CA k3 k4 k5 k6 hUo
          go_wp2_with fail
          go_quiet (fail)
          have hG2 : Hid _ := hdr.out nq
          clear hdr k7 k8
          generalize wr.drewN nq = w3 at *
          go_wp2_with fail
          go_meet
          exact ⟨false, rfl, rfl, (fun e => by cases e), fun _ => K3.out, hG2⟩
      case rest =>
        obtain ⟨cv, rfl, rfl, KA, KB, hU2⟩ := hcut
        clear hU KD hlen n1 n2 hpH hpq
        cases cv with
        | true =>
          have hd : Hid (q = kidL (ahd most) L1 k) := (KA.out rfl).2
          clear KA KB
          obtain ⟨dn, kd, md, hB⟩ := SECOND.out q hd.out
          obtain ⟨k5, k6⟩ := hU2.out.heads
          obtain ⟨k1, k2⟩ := hU2.out.cells dn
          obtain ⟨k3, k4⟩ := hU2.out.cells hkn
          have C1 : Hid _ := CA.out q k
          obtain ⟨bv, hbv⟩ : ∃ bv, ahd most (atE L1 q) (atE L1 k) = bv := ⟨_, rfl⟩
          rw [hbv] at C1
          have GO : Hid _ := (hB bv hbv).1
          have NO : Hid _ := (hB bv hbv).2
          have C2 : Hid _ := fun W => CS.out q W dn (by omega)
          have d0 : (0 : Int) ≤ (q : Int) := by omega
          have dI : (q : Int) < (n : Int) := by omega
          clear SECOND CA CS hB hbv hd
          generalize hx : atE L1 q = x at k1 k2 C1
          generalize hy : atE L1 k = y at k3 k4 C1
          clear hx hy hpk hqk hpn pI p0
          go_wp2_with fail
          go_quiet_grown (first | (go_at_fn 53; refine Calls.grown_of (C1.out _)))
          have hG2 : Hid (UE w B dp most (.slice (some ⟨g, 0, none⟩) n cap) n L1 (mv + (m : Nat)) (Sort.grow (wc.drewN nq) osq)) := hU2.out.gr ⟨nq, osq, rfl⟩
          clear k1 k2 k3 k4 k5 k6 C1 hU2
          generalize Sort.grow (wc.drewN nq) osq = w3 at *
          cases bv with
          | true =>
            have E2 : Hid _ := GO.out rfl
            have C3 : Hid _ := C2.out w3 hG2.out
            clear GO NO C2 hG2
            go_wp2_with fail
            refine Calls.mono C3.out ?_
            rintro e w4 ⟨rfl, u4⟩
            have U4 : Hid (UE w B dp most (.slice (some ⟨g, 0, none⟩) n cap) n (swp L1 k q) (mv + ((m + 1 : Nat) : Int)) w4) := u4
            clear u4 C3
            go_wp2_with fail
            exact ⟨⟨q, m + 1, swp L1 k q, rfl, dn, md, E2, U4⟩, by simp [intOf]; omega⟩
          | false =>
            have fin : Hid _ := NO.out rfl
            clear GO NO C2
            go_wp2_with fail
            first | go_end0 | (simp only [Exit.inBlock, Exit.then]; refine bodyPost_ret (results_none rfl _ _ _) rfl ?_) | refine bodyPost_ret (results_none rfl _ _ _) rfl ?_
            exact ⟨rfl, by rw [fin.out]; exact hG2.out⟩
        | false =>
          have hd : Hid (p = kidL (ahd most) L1 k) := KB.out rfl
          clear KA KB
          obtain ⟨dn, kd, md, hB⟩ := SECOND.out p hd.out
          obtain ⟨k5, k6⟩ := hU2.out.heads
          obtain ⟨k1, k2⟩ := hU2.out.cells dn
          obtain ⟨k3, k4⟩ := hU2.out.cells hkn
          have C1 : Hid _ := CA.out p k
          obtain ⟨bv, hbv⟩ : ∃ bv, ahd most (atE L1 p) (atE L1 k) = bv := ⟨_, rfl⟩
          rw [hbv] at C1
          have GO : Hid _ := (hB bv hbv).1
          have NO : Hid _ := (hB bv hbv).2
          have C2 : Hid _ := fun W => CS.out p W dn (by omega)
          have d0 : (0 : Int) ≤ (p : Int) := by omega
          have dI : (p : Int) < (n : Int) := by omega
          clear SECOND CA CS hB hbv hd
          generalize hx : atE L1 p = x at k1 k2 C1
          generalize hy : atE L1 k = y at k3 k4 C1
          clear hx hy hpk hqk hpn pI p0
          go_wp2_with fail
          go_quiet_grown (first | (go_at_fn 53; refine Calls.grown_of (C1.out _)))
          have hG2 : Hid (UE w B dp most (.slice (some ⟨g, 0, none⟩) n cap) n L1 (mv + (m : Nat)) (Sort.grow (wc.drewN nq) osq)) := hU2.out.gr ⟨nq, osq, rfl⟩
          clear k1 k2 k3 k4 k5 k6 C1 hU2
          generalize Sort.grow (wc.drewN nq) osq = w3 at *
          cases bv with
          | true =>
            have E2 : Hid _ := GO.out rfl
            have C3 : Hid _ := C2.out w3 hG2.out
            clear GO NO C2 hG2
            go_wp2_with fail
            refine Calls.mono C3.out ?_
            rintro e w4 ⟨rfl, u4⟩
            have U4 : Hid (UE w B dp most (.slice (some ⟨g, 0, none⟩) n cap) n (swp L1 k p) (mv + ((m + 1 : Nat) : Int)) w4) := u4
            clear u4 C3
            go_wp2_with fail
            exact ⟨⟨p, m + 1, swp L1 k p, rfl, dn, md, E2, U4⟩, by simp [intOf]; omega⟩
          | false =>
            have fin : Hid _ := NO.out rfl
            clear GO NO C2
            go_wp2_with fail
            first | go_end0 | (simp only [Exit.inBlock, Exit.then]; refine bodyPost_ret (results_none rfl _ _ _) rfl ?_) | refine bodyPost_ret (results_none rfl _ _ _) rfl ?_
            exact ⟨rfl, by rw [fin.out]; exact hG2.out⟩
    · have pI : ¬ (p : Int) < (n : Int) := by omega
      have fin : Hid (downL (ahd most) L i = (L1, m)) := by
        have := hE.out
        rw [downL_stop (ah := ahd most) (L := L1) (i := k) (fun e => hpn (by have := kidL_two (ahd most) L1 k; have := hlen.out; have := hpH.out; omega))] at this
        show downL (ahd most) L i = _
        rw [this]; simp
      clear hE hlen KD
      go_wp2_with fail
      first | go_end0 | (simp only [Exit.inBlock, Exit.then]; refine bodyPost_ret (results_none rfl _ _ _) rfl ?_) | refine bodyPost_ret (results_none rfl _ _ _) rfl ?_
      exact ⟨rfl, by rw [fin.out]; exact hU.out⟩
set_option maxHeartbeats 4000000 in
theorem dmend_any {w : World} {B dp n : Nat} {most : Bool} {v : Value} {L : List Ent} (h : UE w B dp most v n L 0 w) (i : Nat) (hi : i < n) (hL : n ≤ 1152921504606846976) :
    Calls Tryz.prog 64 #[.pointer (some ⟨dp, 0, none⟩), .int .i64 (i : Int)] w fun e w' => e = .returned undef ∧ UE w B dp most v n (mendL (ahd most) L i).1 ((mendL (ahd most) L i).2 : Nat) w' := by
  have CU : Hid _ := dup_any h i hi hL (by omega)
  have CD : Hid ((upL (ahd most) L i).2 = 0 → ∀ W, UE w B dp most v n (upL (ahd most) L i).1 (0 + ((upL (ahd most) L i).2 : Nat)) W → Calls Tryz.prog 26 #[.pointer (some ⟨dp, 0, none⟩), .int .i64 (i : Int)] W fun e w' => e = .returned undef ∧ UE w B dp most v n (downL (ahd most) L i).1 (((downL (ahd most) L i).2 : Nat) : Int) w') := fun h0 W hW => by
    have hs : (upL (ahd most) L i).1 = L := by
      by_cases q : 0 < i ∧ ahd most (atE L i) (atE L (par i)) = true
      · rw [upL_go q.1 q.2] at h0; simp at h0
      · rw [upL_stop q]
    rw [hs, h0] at hW
    have hW' : UE W B dp most v n L 0 W := ⟨by simpa using hW.ds, HF.refl _ _ _ _, hW.len⟩
    exact (ddown_any hW' i hi hL (by omega)).mono fun e w' hh => ⟨hh.1, by simpa using hh.2.ds, hW.fr.trans hh.2.fr, hh.2.len⟩
  have RES : Hid (mendL (ahd most) L i = if 0 < (upL (ahd most) L i).2 then upL (ahd most) L i else downL (ahd most) L i) := rfl
  generalize mendL (ahd most) L i = R at RES ⊢
  generalize upL (ahd most) L i = U at *
  generalize downL (ahd most) L i = D at *
  clear h
  go_enter Tryz.func64, Tryz.ntmps64
  go_wp2_with fail
  refine Calls.mono CU.out ?_
  rintro e w1 ⟨rfl, u1⟩
  have U1 : Hid (UE w B dp most v n U.1 (0 + (U.2 : Nat)) w1) := u1
  have c2 : w1.cell? ⟨dp, 2, none⟩ = some (.int .i64 ((U.2 : Nat) : Int)) := by have := u1.ds.c2; simpa using this
  clear u1 CU
  by_cases h0 : 0 < U.2
  · have hI : ((U.2 : Int) == 0) = false := by rw [beq_eq_false_iff_ne]; omega
    have hJ : ¬ (U.2 : Int) = 0 := by omega
    have r : Hid (R = U) := by have := RES.out; rw [if_pos h0] at this; exact this
    clear RES CD
    go_wp2_with fail
    first | go_end0 | (simp only [Exit.inBlock, Exit.then]; refine bodyPost_ret (results_none rfl _ _ _) rfl ?_) | refine bodyPost_ret (results_none rfl _ _ _) rfl ?_
    exact ⟨rfl, by rw [r.out]; have := U1.out; rw [Int.zero_add] at this; exact this⟩
  · have h00 : U.2 = 0 := by omega
    have hI : ((U.2 : Int) == 0) = true := by rw [h00]; rfl
    have hJ : (U.2 : Int) = 0 := by omega
    have r : Hid (R = D) := by have := RES.out; rw [if_neg h0] at this; exact this
    have C2 : Hid _ := CD.out (by omega) w1 U1.out
    clear RES CD U1
    rw [h00] at c2
    clear hI hJ h00 h0
    go_wp2_with fail
    refine Calls.mono C2.out ?_
    rintro e w2 ⟨rfl, u2⟩
    have U2 : Hid (UE w B dp most v n D.1 ((D.2 : Nat) : Int) w2) := u2
    clear u2 C2 c2
    go_wp2_with fail
    first | go_end0 | (simp only [Exit.inBlock, Exit.then]; refine bodyPost_ret (results_none rfl _ _ _) rfl ?_) | refine bodyPost_ret (results_none rfl _ _ _) rfl ?_
    exact ⟨rfl, by rw [r.out]; exact U2.out⟩
end Go.Proofs.YtboacnpbicedfaaGreatDoor.Hp
