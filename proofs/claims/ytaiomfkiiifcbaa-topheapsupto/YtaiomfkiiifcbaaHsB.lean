
import Derived.Test.YtaiomfkiiifcbaaHsA
import Derived.Test.YtaiomfkiiifcbaaHqC
import Derived.BigQuiet
namespace Go.Proofs.Ytaiomfkiiifcbaa.Hp
open Go.RowKit Go.Maps
set_option linter.unusedVariables false
set_option linter.unusedSimpArgs false
set_option maxRecDepth 100000
theorem nums_iS (i n : Nat) (h : i < n) (hn : n ≤ 4398046511104) : (0 : Int) ≤ (i : Int) ∧ (i : Int) < (n : Int) ∧ IntKind.i64.wrap ((i : Int) + 1) = ((i + 1 : Nat) : Int) := ⟨by omega, by omega, IntWalk.i64_in _ (by omega)⟩
/-- both heaps behind the first i puts. -/
def TA (w : World) (C p1 m1 p2 m2 i : Nat) (wr : World) : Prop := ∃ La Lb, H2 w C p1 m1 p2 m2 false true La Lb wr ∧ La.Perm Lb ∧ HO (ahd false) La ∧ HO (ahd true) Lb ∧ La.length ≤ i ∧ Lb.length ≤ i
theorem TA.put {w wr : World} {C p1 m1 p2 m2 i : Nat} (h : TA w C p1 m1 p2 m2 i wr) (x : Ent) (hx : x.2.size ≤ 9223372036854775807) (hi : i ≤ 1048576) : ∃ o : Option Nat, Calls Try.prog 16 #[.pointer (some ⟨p1, 0, none⟩), eV x] wr fun e w1 => e = .returned (noP o 5) ∧ Below w.heap.size w w1 ∧ Calls Try.prog 16 #[.pointer (some ⟨p2, 0, none⟩), eV x] w1 fun e w2 => (∃ o2 : Option Nat, e = .returned (noP o2 5) ∧ (o = none ↔ o2 = none)) ∧ Below w.heap.size w w2 ∧ TA w C p1 m1 p2 m2 (i + 1) w2 := by
  obtain ⟨La, Lb, h2, hp, ha, hb, la, lb⟩ := h
  obtain ⟨q1, q2⟩ := put_both hp h2.nd1 x
  refine ⟨fnd La x.2, (h2.put1 x hx (by omega)).mono fun e w1 hh => ⟨hh.1, ?_, ?_⟩⟩
  · obtain ⟨_, _, _, _, _, _, _, _, _, b, _⟩ := hh.2
    exact b
  · refine (hh.2.flip.put1 x hx (by omega)).mono fun e w2 hh => ?_
    have k := hh.2.flip
    have k' := k
    obtain ⟨_, _, _, _, _, _, _, _, _, b, _⟩ := k'
    have l1 := putL_len false La x
    have l2 := putL_len true Lb x
    exact ⟨⟨_, hh.1, q2⟩, b, _, _, k, q1, putL_ho ha, putL_ho hb, by omega, by omega⟩
/-- behind the first i takes of the one. -/
def TBh (w : World) (C p1 m1 p2 m2 : Nat) (m L0 : List Ent) (i j n : Nat) (wr : World) : Prop := ∃ La Lb, H2 w C p1 m1 p2 m2 false true La Lb wr ∧ La.Perm (L0.filter (kp m 0 i)) ∧ Lb.Perm (L0.filter (kp m j n)) ∧ HO (ahd false) La ∧ HO (ahd true) Lb ∧ La.length ≤ 1048576 ∧ Lb.length ≤ 1048576
theorem TA.tb {w wr : World} {C p1 m1 p2 m2 i n : Nat} {m : List Ent} (h : TA w C p1 m1 p2 m2 i wr) (hi : i ≤ 1048576) : ∃ L0, TBh w C p1 m1 p2 m2 m L0 0 n n wr := by
  obtain ⟨La, Lb, h2, hp, ha, hb, la, lb⟩ := h
  exact ⟨La, La, Lb, h2, by rw [filter_kp_none], by rw [filter_kp_none]; exact hp.symm, ha, hb, by omega, by omega⟩
theorem TBh.tak1 {w wr : World} {C p1 m1 p2 m2 i j n : Nat} {m L0 : List Ent} (h : TBh w C p1 m1 p2 m2 m L0 i j n wr) (hx : (atE m i).2.size ≤ 9223372036854775807) : Calls Try.prog 17 #[.pointer (some ⟨p1, 0, none⟩), .string (atE m i).2] wr fun e w1 => (∃ r, e = .returned r) ∧ TBh w C p1 m1 p2 m2 m L0 (i + 1) j n w1 := by
  obtain ⟨La, Lb, h2, pa, pb, ha, hb, la, lb⟩ := h
  refine (h2.tak1 _ hx (by omega)).mono fun e w1 hh => ⟨hh.1, _, _, hh.2, take_up h2.nd1 pa, pb, takL_ho ha, hb, ?_, lb⟩
  have := takL_len false La (atE m i).2
  omega
theorem TBh.tak2 {w wr : World} {C p1 m1 p2 m2 i j n : Nat} {m L0 : List Ent} (h : TBh w C p1 m1 p2 m2 m L0 i (j + 1) n wr) (hj : j < n) (hx : (atE m j).2.size ≤ 9223372036854775807) : Calls Try.prog 17 #[.pointer (some ⟨p2, 0, none⟩), .string (atE m j).2] wr fun e w1 => (∃ r, e = .returned r) ∧ TBh w C p1 m1 p2 m2 m L0 i j n w1 := by
  obtain ⟨La, Lb, h2, pa, pb, ha, hb, la, lb⟩ := h
  refine (h2.flip.tak1 _ hx (by omega)).mono fun e w1 hh => ⟨hh.1, _, _, hh.2.flip, pa, take_dn hj h2.flip.nd1 pb, ha, takL_ho hb, la, ?_⟩
  have := takL_len true Lb (atE m j).2
  omega
theorem TBh.below {w wr : World} {C p1 m1 p2 m2 i j n : Nat} {m L0 : List Ent} (h : TBh w C p1 m1 p2 m2 m L0 i j n wr) : Below w.heap.size w wr := by
  obtain ⟨_, _, ⟨_, _, _, _, _, _, _, _, _, b, _⟩, _⟩ := h
  exact b
theorem TA.below {w wr : World} {C p1 m1 p2 m2 i : Nat} (h : TA w C p1 m1 p2 m2 i wr) : Below w.heap.size w wr := by
  obtain ⟨_, _, ⟨_, _, _, _, _, _, _, _, _, b, _⟩, _⟩ := h
  exact b
theorem TBh.same {w wr : World} {C p1 m1 p2 m2 n : Nat} {m L0 : List Ent} (h : TBh w C p1 m1 p2 m2 m L0 n 0 n wr) : ∃ La Lb, H2 w C p1 m1 p2 m2 false true La Lb wr ∧ La.Perm Lb ∧ HO (ahd false) La ∧ HO (ahd true) Lb ∧ La.length ≤ 1048576 ∧ Lb.length = La.length := by
  obtain ⟨La, Lb, h2, pa, pb, ha, hb, la, lb⟩ := h
  exact ⟨La, Lb, h2, pa.trans pb.symm, ha, hb, la, (pb.trans pa.symm).length_eq⟩
theorem H2.sort1 {w0 wD wr : World} {C p1 m1 p2 m2 : Nat} {t1 t2 : Bool} {L1 L2 : List Ent} (h : H2 w0 C p1 m1 p2 m2 t1 t2 L1 L2 wD) (hb : Below wD.heap.size wD wr) (hn : L1.length ≤ 1099511627776) : Calls Try.prog 10 #[.pointer (some ⟨p1, 0, none⟩)] wr fun e w' => ∃ v, e = .returned v ∧ OE w' wr.heap.size v (srtL t1 L1) ∧ Below wr.heap.size wr w' := by
  obtain ⟨v1, f1, mv1, v2, f2, mv2, h1, _⟩ := h
  exact sorted_any (h1.below hb) hn
theorem H2.putk {w0 wD wr : World} {C p1 m1 p2 m2 : Nat} {t1 t2 : Bool} {L1 L2 : List Ent} (h : H2 w0 C p1 m1 p2 m2 t1 t2 L1 L2 wD) (hb : Below wD.heap.size wD wr) (x : Ent) (hx : x.2.size ≤ 9223372036854775807) (hn : L1.length + 1 ≤ 1099511627776) :
    Calls Try.prog 16 #[.pointer (some ⟨p1, 0, none⟩), eV x] wr fun e w' => (∃ r, e = .returned r) ∧ H2 w0 C p1 m1 p2 m2 t1 t2 (putL t1 L1 x) L2 w' ∧ ∀ k, wD.heap.size ≤ k → k < wr.heap.size → w'.heap[k]? = wr.heap[k]? := by
  obtain ⟨v1, f1, mv1, v2, f2, mv2, h1, h2, h3, h4, h5, h6⟩ := h
  have g1 := h1.below hb
  refine (put_l g1 (Nat.le_trans h5 hb.size) x hx hn).mono fun e w' hh => ⟨⟨_, hh.1⟩, ?_⟩
  obtain ⟨mv', o⟩ := hh.2
  refine ⟨H2.op g1 (h2.below hb) h3 (below_trans h4 (below_less hb h4.size)) (Nat.le_trans h5 hb.size) h6 o, fun k k1 k2 => ?_⟩
  have q1 := h1.hw.hB
  have q2 := h1.hw.mB
  exact o.fr.keep k k2 (by omega) (by omega) (fun e => by have := (World.ownsRow.lt h1.row k e.symm).2; omega)
def jI : Nat → Int
  | 0 => -1
  | n + 1 => (n : Int)
theorem jI_sub (n : Nat) (h : n ≤ 1048576) : IntKind.i64.wrap ((n : Int) - 1) = jI n := by
  cases n with
  | zero => decide
  | succ k => show _ = (k : Int); rw [show ((k + 1 : Nat) : Int) - 1 = (k : Int) by omega]; exact IntWalk.i64_in _ (by omega)
theorem atE_rev {L : List Ent} {i : Nat} (h : i < L.length) : atE L.reverse (L.length - 1 - i) = atE L i := by
  unfold atE
  rw [List.getD_eq_getElem?_getD, List.getD_eq_getElem?_getD, List.getElem?_reverse (by omega)]
  congr 2
  omega
theorem OE.formS {w : World} {B : Nat} {v : Value} {l : List Ent} (h : OE w B v l) : ∃ a c, v = .slice a l.length c ∧ (0 < l.length → ∃ g, a = some ⟨g, 0, none⟩) := by
  rcases h.2 with ⟨e, e0⟩ | ⟨g, cap, cur, e1, _, _, hc, _⟩
  · exact ⟨none, 0, by rw [e, e0], fun q => by omega⟩
  · exact ⟨_, cap, e1, fun _ => ⟨g, rfl⟩⟩
theorem OE.atS {w : World} {B g n cap : Nat} {l : List Ent} (h : OE w B (.slice (some ⟨g, 0, none⟩) n cap) l) {i : Nat} (hi : i < l.length) : w.cell? ⟨g, i * 2, none⟩ = some (.int .i64 (atE l i).1) ∧ w.cell? ⟨g, i * 2 + 1, none⟩ = some (.string (atE l i).2) := by
  have hcs := World.ownsRow.cells h (g := g) rfl
  obtain ⟨e1, e2⟩ := encE_get l i _ (atE_some hi)
  have k1 := hcs _ _ e1
  have k2 := hcs _ _ e2
  rw [add_lt0, Nat.zero_add] at k1 k2
  exact ⟨k1, k2⟩
set_option maxHeartbeats 16000000 in
theorem topHeaps_walk (a : Option Addr) (cap : Nat) (l : List Ent) (a2 : Option Addr) (cap2 : Nat) (m : List Ent) (w : World) (hl : EnIn w a l) (hln : ∀ e ∈ l, e.2.size ≤ 9223372036854775807) (hll : l.length ≤ 1048576) (hm : EnIn w a2 m) (hmn : ∀ e ∈ m, e.2.size ≤ 9223372036854775807) (hml : m.length ≤ 1048576) :
    Calls Try.prog 4 #[.slice a l.length cap, .slice a2 m.length cap2] w fun e w' => e = .returned (.bool true) ∧ Below w.heap.size w w' := by
  have CN : Hid _ := H2.new2 w
  have hlH : Hid (EnIn w a l ∧ ∀ e ∈ l, e.2.size ≤ 9223372036854775807) := ⟨hl, hln⟩
  have hmH : Hid (EnIn w a2 m ∧ ∀ e ∈ m, e.2.size ≤ 9223372036854775807) := ⟨hm, hmn⟩
  have mixed : Try.prog.follows .mixedOrders = true := by kernel_rfl
  clear hl hln hm hmn
  go_enter Try.func4, Try.ntmps4
  go_wp2_with fail
  refine Calls.mono CN.out ?_
  rintro e w1 ⟨rfl, CM0⟩
  have CM : Hid _ := CM0
  clear CM0 CN
  go_wp2_with fail
  refine Calls.mono CM.out ?_
  rintro e w2 ⟨rfl, H20⟩
  have TA0 : Hid (TA w (w1.heap.size + 2) (w.heap.size + 1) w.heap.size (w1.heap.size + 1) w1.heap.size 0 w2) := ⟨[], [], H20, List.Perm.refl _, fun j _ hj => by (simp at hj), fun j _ hj => by (simp at hj), Nat.le_refl _, Nat.le_refl _⟩
  clear H20 CM
  generalize w1.heap.size + 2 = C at *
  generalize w1.heap.size + 1 = p2 at *
  generalize w1.heap.size = m2 at *
  obtain ⟨p1, hp1⟩ : ∃ p1, p1 = w.heap.size + 1 := ⟨_, rfl⟩
  obtain ⟨m1, hm1⟩ : ∃ m1, m1 = w.heap.size := ⟨_, rfl⟩
  have TA1 : Hid (TA w C p1 m1 p2 m2 0 w2) := by rw [hp1, hm1]; exact TA0.out
  rw [← hp1]
  clear hp1 hm1 TA0
  go_wp2_with fail
  go_loopw [7] (fun v7 wr => ∃ (i : Nat), v7 = .int .i64 (i : Int) ∧ i ≤ l.length ∧ Hid (TA w C p1 m1 p2 m2 i wr)) (fun v7 _ => l.length - (intOf v7).toNat)
  case atStart => exact ⟨0, rfl, Nat.zero_le _, TA1⟩
  case round =>
    clear TA1
    obtain ⟨i, rfl, hil, hT⟩ := hrel
    by_cases hi : i < l.length
    · obtain ⟨i0, iI, iw⟩ := nums_iS i l.length hi (by omega)
      have bw := hT.out.below
      obtain ⟨b, off, rfl, hbl, hcs⟩ : ∃ b off, a = some ⟨b, off, none⟩ ∧ b < w.heap.size ∧ ∀ i t, l[i]? = some t → w.cell? ⟨b, off + i * 2, none⟩ = some (.int .i64 t.1) ∧ w.cell? ⟨b, off + i * 2 + 1, none⟩ = some (.string t.2) := by
        rcases hlH.out.1 with q | q
        · rw [q] at hi; simp at hi
        · exact q
      obtain ⟨p0, p1'⟩ := hcs i _ (atE_some hi)
      have xs := hlH.out.2 _ (List.mem_of_getElem? (atE_some hi))
      clear hcs
      generalize atE l i = x at *
      have SF : Hid (∀ W, Below w.heap.size w W → W.cell? ⟨b, off + i * 2, none⟩ = some (.int .i64 x.1) ∧ W.cell? ⟨b, off + i * 2 + 1, none⟩ = some (.string x.2)) := fun W hW => ⟨by rw [hW.cell (p := ⟨b, off + i * 2, none⟩) hbl]; exact p0, by rw [hW.cell (p := ⟨b, off + i * 2 + 1, none⟩) hbl]; exact p1'⟩
      have bdr : Below w.heap.size w wr.drew := ⟨bw.os, bw.tape, bw.output, bw.size, bw.block⟩
      have TD : TA w C p1 m1 p2 m2 i wr.drew := by
        obtain ⟨La, Lb, h2, r⟩ := hT.out
        exact ⟨La, Lb, h2.below ((Below.refl _ wr).drew), r⟩
      obtain ⟨o, CP0⟩ := TD.put x xs (by omega)
      have CP : Hid _ := CP0
      have sS : Hid _ := SF.out wr.drew bdr
      unfold eV at CP
      clear CP0 TD bdr p0 p1' xs hT bw
      cases o with
      | none =>
        simp only [noP] at CP
        go_wp2_with fail
        refine wp_region_noPanic ?_
        refine wp_region_held_drew (S := fun W => W.cell? ⟨b, off + i * 2, none⟩ = some (.int .i64 x.1) ∧ W.cell? ⟨b, off + i * 2 + 1, none⟩ = some (.string x.2)) (by kernel_rfl) sS.out (fun hHeld => ?_)
        refine wpAnyH_take (i := 0) (oi := _) (v := ?_) rfl (by kernel_rfl) (by kernel_rfl) (by kernel_rfl) (fun _ _ _ h => h) (Or.inl ⟨by rfl, ?_⟩) (by assumption) ?_
        rotate_left 1
        · (intro w0 hSw; (try dsimp only at hSw); obtain ⟨s1, s2⟩ := hSw; go_simp; try with_reducible rfl)
        (try simp only [List.getElem_toArray, List.getElem_cons_succ, List.getElem_cons_zero]); (try simp only [Act.put, List.setIfInBounds_toArray, List.set_cons_zero, List.set_cons_succ])
        refine wpAnyH_take (i := 1) (oi := _) (v := ?_) rfl (by kernel_rfl) (by kernel_rfl) (by kernel_rfl) (fun _ _ _ h => h) (Or.inl ⟨by rfl, ?_⟩) (by assumption) ?_
        rotate_left 1
        · (intro w0 hSw; (try dsimp only at hSw); obtain ⟨s1, s2⟩ := hSw; go_simp; try with_reducible rfl)
        (try simp only [List.getElem_toArray, List.getElem_cons_succ, List.getElem_cons_zero]); (try simp only [Act.put, List.setIfInBounds_toArray, List.set_cons_zero, List.set_cons_succ])
        refine wpAnyH_take (i := 2) (oi := _) (v := ?_) rfl (by kernel_rfl) (by kernel_rfl) (by kernel_rfl) (fun _ _ _ h => h) (Or.inl ⟨by rfl, ?_⟩) (by assumption) ?_
        rotate_left 1
        · (intro w0 hSw; (try dsimp only at hSw); obtain ⟨s1, s2⟩ := hSw; go_simp; try with_reducible rfl)
        (try simp only [List.getElem_toArray, List.getElem_cons_succ, List.getElem_cons_zero]); (try simp only [Act.put, List.setIfInBounds_toArray, List.set_cons_zero, List.set_cons_succ])
        refine wpAnyH_take (i := 3) (oi := _) (v := ?_) rfl (by kernel_rfl) (by kernel_rfl) (by kernel_rfl) (fun _ _ _ h => h) (Or.inl ⟨by rfl, ?_⟩) (by assumption) ?_
        rotate_left 1
        · (intro w0 hSw; (try dsimp only at hSw); obtain ⟨s1, s2⟩ := hSw; go_simp; try with_reducible rfl)
        (try simp only [List.getElem_toArray, List.getElem_cons_succ, List.getElem_cons_zero]); (try simp only [Act.put, List.setIfInBounds_toArray, List.set_cons_zero, List.set_cons_succ])
        refine wpAnyH_take (i := 4) (oi := _) (v := ?_) rfl (by kernel_rfl) (by kernel_rfl) (by kernel_rfl) (fun _ _ _ h => h) (Or.inl ⟨by rfl, ?_⟩) (by assumption) ?_
        rotate_left 1
        · (intro w0 hSw; (try dsimp only at hSw); obtain ⟨s1, s2⟩ := hSw; go_simp; try with_reducible rfl)
        (try simp only [List.getElem_toArray, List.getElem_cons_succ, List.getElem_cons_zero]); (try simp only [Act.put, List.setIfInBounds_toArray, List.set_cons_zero, List.set_cons_succ])
        refine wpAnyH_take (i := 7) (oi := _) (v := ?_) rfl (by kernel_rfl) (by kernel_rfl) (by kernel_rfl) (fun _ _ _ h => h) (Or.inl ⟨by rfl, ?_⟩) (by assumption) ?_
        rotate_left 1
        · (intro w0 hSw; (try dsimp only at hSw); obtain ⟨s1, s2⟩ := hSw; go_simp; try with_reducible rfl)
        (try simp only [List.getElem_toArray, List.getElem_cons_succ, List.getElem_cons_zero]); (try simp only [Act.put, List.setIfInBounds_toArray, List.set_cons_zero, List.set_cons_succ])
        refine wpAnyH_take (i := 8) (oi := _) (v := ?_) rfl (by kernel_rfl) (by kernel_rfl) (by kernel_rfl) (fun _ _ _ h => h) (Or.inl ⟨by rfl, ?_⟩) (by assumption) ?_
        rotate_left 1
        · (intro w0 hSw; (try dsimp only at hSw); obtain ⟨s1, s2⟩ := hSw; go_simp; try with_reducible rfl)
        (try simp only [List.getElem_toArray, List.getElem_cons_succ, List.getElem_cons_zero]); (try simp only [Act.put, List.setIfInBounds_toArray, List.set_cons_zero, List.set_cons_succ])
        refine wpAnyH_take (i := 9) (oi := _) (v := ?_) rfl (by kernel_rfl) (by kernel_rfl) (by kernel_rfl) (fun _ _ _ h => h) (Or.inl ⟨by rfl, ?_⟩) (by assumption) ?_
        rotate_left 1
        · (intro w0 hSw; (try dsimp only at hSw); obtain ⟨s1, s2⟩ := hSw; go_simp; try with_reducible rfl)
        (try simp only [List.getElem_toArray, List.getElem_cons_succ, List.getElem_cons_zero]); (try simp only [Act.put, List.setIfInBounds_toArray, List.set_cons_zero, List.set_cons_succ])
        refine wpAnyH_take (i := 10) (oi := _) (v := ?_) rfl (by kernel_rfl) (by kernel_rfl) (by kernel_rfl) (fun _ _ _ h => h) (Or.inl ⟨by rfl, ?_⟩) (by assumption) ?_
        rotate_left 1
        · (intro w0 hSw; (try dsimp only at hSw); obtain ⟨s1, s2⟩ := hSw; go_simp; try with_reducible rfl)
        (try simp only [List.getElem_toArray, List.getElem_cons_succ, List.getElem_cons_zero]); (try simp only [Act.put, List.setIfInBounds_toArray, List.set_cons_zero, List.set_cons_succ])
        refine wpAnyH_take (i := 11) (oi := _) (v := ?_) rfl (by kernel_rfl) (by kernel_rfl) (by kernel_rfl) (fun _ _ _ h => h) (Or.inl ⟨by rfl, ?_⟩) (by assumption) ?_
        rotate_left 1
        · (intro w0 hSw; (try dsimp only at hSw); obtain ⟨s1, s2⟩ := hSw; go_simp; try with_reducible rfl)
        (try simp only [List.getElem_toArray, List.getElem_cons_succ, List.getElem_cons_zero]); (try simp only [Act.put, List.setIfInBounds_toArray, List.set_cons_zero, List.set_cons_succ])
        refine wpAnyH_ready (rs := [5]) (by kernel_rfl) (by simp) ?_
        refine AllReadyH.cons (o := _) rfl (fun K1 hK => ?_) AllReadyH.nil
        go_simp
        refine Calls.mono CP.out ?_
        rintro e w3 ⟨rfl, b3, CQ0⟩
        have CQ : Hid _ := CQ0
        try dsimp only
        refine hK _ _ (SF.out w3 b3) (fun hHeld => ?_)
        clear hK K1 CQ0 b3 CP
        (try simp only [List.getElem_toArray, List.getElem_cons_succ, List.getElem_cons_zero]); (try simp only [Act.put, List.setIfInBounds_toArray, List.set_cons_zero, List.set_cons_succ])
        refine wpAnyH_take (i := 6) (oi := _) (v := ?_) rfl (by kernel_rfl) (by kernel_rfl) (by kernel_rfl) (fun _ _ _ h => h) (Or.inl ⟨by rfl, ?_⟩) (by assumption) ?_
        rotate_left 1
        · (intro w0 hSw; (try dsimp only at hSw); obtain ⟨s1, s2⟩ := hSw; go_simp; try with_reducible rfl)
        (try simp only [List.getElem_toArray, List.getElem_cons_succ, List.getElem_cons_zero]); (try simp only [Act.put, List.setIfInBounds_toArray, List.set_cons_zero, List.set_cons_succ])
        refine wpAnyH_ready (rs := [12]) (by kernel_rfl) (by simp) ?_
        refine AllReadyH.cons (o := _) rfl (fun K1 hK => ?_) AllReadyH.nil
        go_simp
        refine Calls.mono CQ.out ?_
        rintro e w4 ⟨⟨o2, rfl, ho⟩, b4, TN⟩
        obtain rfl : o2 = none := by simpa using ho
        simp only [noP]
        have TNH : Hid _ := TN
        clear ho
        try dsimp only
        refine hK _ _ (SF.out w4 b4) (fun hHeld => ?_)
        clear hK K1 TN b4 CQ
        (try simp only [List.getElem_toArray, List.getElem_cons_succ, List.getElem_cons_zero]); (try simp only [Act.put, List.setIfInBounds_toArray, List.set_cons_zero, List.set_cons_succ])
        refine wpAnyH_take (i := 13) (oi := _) (v := ?_) rfl (by kernel_rfl) (by kernel_rfl) (by kernel_rfl) (fun _ _ _ h => h) (Or.inl ⟨by rfl, ?_⟩) (by assumption) ?_
        rotate_left 1
        · (intro w0 hSw; (try dsimp only at hSw); obtain ⟨s1, s2⟩ := hSw; go_simp; try with_reducible rfl)
        (try simp only [List.getElem_toArray, List.getElem_cons_succ, List.getElem_cons_zero]); (try simp only [Act.put, List.setIfInBounds_toArray, List.set_cons_zero, List.set_cons_succ])
        refine wpAnyH_take (i := 14) (oi := _) (v := ?_) rfl (by kernel_rfl) (by kernel_rfl) (by kernel_rfl) (fun _ _ _ h => h) (Or.inl ⟨by rfl, ?_⟩) (by assumption) ?_
        rotate_left 1
        · (intro w0 hSw; (try dsimp only at hSw); obtain ⟨s1, s2⟩ := hSw; go_simp; try with_reducible rfl)
        (try simp only [List.getElem_toArray, List.getElem_cons_succ, List.getElem_cons_zero]); (try simp only [Act.put, List.setIfInBounds_toArray, List.set_cons_zero, List.set_cons_succ])
        refine wpAnyH_done (by kernel_rfl) ?_ _
        refine NoPanic.normal ?_
        go_wp2_with fail
        exact ⟨⟨i + 1, rfl, hi, TNH⟩, by first | (simp [intOf]; done) | (simp [intOf]; omega)⟩
      | some oo =>
        simp only [noP] at CP
        go_wp2_with fail
        refine wp_region_noPanic ?_
        refine wp_region_held_drew (S := fun W => W.cell? ⟨b, off + i * 2, none⟩ = some (.int .i64 x.1) ∧ W.cell? ⟨b, off + i * 2 + 1, none⟩ = some (.string x.2)) (by kernel_rfl) sS.out (fun hHeld => ?_)
        refine wpAnyH_take (i := 0) (oi := _) (v := ?_) rfl (by kernel_rfl) (by kernel_rfl) (by kernel_rfl) (fun _ _ _ h => h) (Or.inl ⟨by rfl, ?_⟩) (by assumption) ?_
        rotate_left 1
        · (intro w0 hSw; (try dsimp only at hSw); obtain ⟨s1, s2⟩ := hSw; go_simp; try with_reducible rfl)
        (try simp only [List.getElem_toArray, List.getElem_cons_succ, List.getElem_cons_zero]); (try simp only [Act.put, List.setIfInBounds_toArray, List.set_cons_zero, List.set_cons_succ])
        refine wpAnyH_take (i := 1) (oi := _) (v := ?_) rfl (by kernel_rfl) (by kernel_rfl) (by kernel_rfl) (fun _ _ _ h => h) (Or.inl ⟨by rfl, ?_⟩) (by assumption) ?_
        rotate_left 1
        · (intro w0 hSw; (try dsimp only at hSw); obtain ⟨s1, s2⟩ := hSw; go_simp; try with_reducible rfl)
        (try simp only [List.getElem_toArray, List.getElem_cons_succ, List.getElem_cons_zero]); (try simp only [Act.put, List.setIfInBounds_toArray, List.set_cons_zero, List.set_cons_succ])
        refine wpAnyH_take (i := 2) (oi := _) (v := ?_) rfl (by kernel_rfl) (by kernel_rfl) (by kernel_rfl) (fun _ _ _ h => h) (Or.inl ⟨by rfl, ?_⟩) (by assumption) ?_
        rotate_left 1
        · (intro w0 hSw; (try dsimp only at hSw); obtain ⟨s1, s2⟩ := hSw; go_simp; try with_reducible rfl)
        (try simp only [List.getElem_toArray, List.getElem_cons_succ, List.getElem_cons_zero]); (try simp only [Act.put, List.setIfInBounds_toArray, List.set_cons_zero, List.set_cons_succ])
        refine wpAnyH_take (i := 3) (oi := _) (v := ?_) rfl (by kernel_rfl) (by kernel_rfl) (by kernel_rfl) (fun _ _ _ h => h) (Or.inl ⟨by rfl, ?_⟩) (by assumption) ?_
        rotate_left 1
        · (intro w0 hSw; (try dsimp only at hSw); obtain ⟨s1, s2⟩ := hSw; go_simp; try with_reducible rfl)
        (try simp only [List.getElem_toArray, List.getElem_cons_succ, List.getElem_cons_zero]); (try simp only [Act.put, List.setIfInBounds_toArray, List.set_cons_zero, List.set_cons_succ])
        refine wpAnyH_take (i := 4) (oi := _) (v := ?_) rfl (by kernel_rfl) (by kernel_rfl) (by kernel_rfl) (fun _ _ _ h => h) (Or.inl ⟨by rfl, ?_⟩) (by assumption) ?_
        rotate_left 1
        · (intro w0 hSw; (try dsimp only at hSw); obtain ⟨s1, s2⟩ := hSw; go_simp; try with_reducible rfl)
        (try simp only [List.getElem_toArray, List.getElem_cons_succ, List.getElem_cons_zero]); (try simp only [Act.put, List.setIfInBounds_toArray, List.set_cons_zero, List.set_cons_succ])
        refine wpAnyH_take (i := 7) (oi := _) (v := ?_) rfl (by kernel_rfl) (by kernel_rfl) (by kernel_rfl) (fun _ _ _ h => h) (Or.inl ⟨by rfl, ?_⟩) (by assumption) ?_
        rotate_left 1
        · (intro w0 hSw; (try dsimp only at hSw); obtain ⟨s1, s2⟩ := hSw; go_simp; try with_reducible rfl)
        (try simp only [List.getElem_toArray, List.getElem_cons_succ, List.getElem_cons_zero]); (try simp only [Act.put, List.setIfInBounds_toArray, List.set_cons_zero, List.set_cons_succ])
        refine wpAnyH_take (i := 8) (oi := _) (v := ?_) rfl (by kernel_rfl) (by kernel_rfl) (by kernel_rfl) (fun _ _ _ h => h) (Or.inl ⟨by rfl, ?_⟩) (by assumption) ?_
        rotate_left 1
        · (intro w0 hSw; (try dsimp only at hSw); obtain ⟨s1, s2⟩ := hSw; go_simp; try with_reducible rfl)
        (try simp only [List.getElem_toArray, List.getElem_cons_succ, List.getElem_cons_zero]); (try simp only [Act.put, List.setIfInBounds_toArray, List.set_cons_zero, List.set_cons_succ])
        refine wpAnyH_take (i := 9) (oi := _) (v := ?_) rfl (by kernel_rfl) (by kernel_rfl) (by kernel_rfl) (fun _ _ _ h => h) (Or.inl ⟨by rfl, ?_⟩) (by assumption) ?_
        rotate_left 1
        · (intro w0 hSw; (try dsimp only at hSw); obtain ⟨s1, s2⟩ := hSw; go_simp; try with_reducible rfl)
        (try simp only [List.getElem_toArray, List.getElem_cons_succ, List.getElem_cons_zero]); (try simp only [Act.put, List.setIfInBounds_toArray, List.set_cons_zero, List.set_cons_succ])
        refine wpAnyH_take (i := 10) (oi := _) (v := ?_) rfl (by kernel_rfl) (by kernel_rfl) (by kernel_rfl) (fun _ _ _ h => h) (Or.inl ⟨by rfl, ?_⟩) (by assumption) ?_
        rotate_left 1
        · (intro w0 hSw; (try dsimp only at hSw); obtain ⟨s1, s2⟩ := hSw; go_simp; try with_reducible rfl)
        (try simp only [List.getElem_toArray, List.getElem_cons_succ, List.getElem_cons_zero]); (try simp only [Act.put, List.setIfInBounds_toArray, List.set_cons_zero, List.set_cons_succ])
        refine wpAnyH_take (i := 11) (oi := _) (v := ?_) rfl (by kernel_rfl) (by kernel_rfl) (by kernel_rfl) (fun _ _ _ h => h) (Or.inl ⟨by rfl, ?_⟩) (by assumption) ?_
        rotate_left 1
        · (intro w0 hSw; (try dsimp only at hSw); obtain ⟨s1, s2⟩ := hSw; go_simp; try with_reducible rfl)
        (try simp only [List.getElem_toArray, List.getElem_cons_succ, List.getElem_cons_zero]); (try simp only [Act.put, List.setIfInBounds_toArray, List.set_cons_zero, List.set_cons_succ])
        refine wpAnyH_ready (rs := [5]) (by kernel_rfl) (by simp) ?_
        refine AllReadyH.cons (o := _) rfl (fun K1 hK => ?_) AllReadyH.nil
        go_simp
        refine Calls.mono CP.out ?_
        rintro e w3 ⟨rfl, b3, CQ0⟩
        have CQ : Hid _ := CQ0
        try dsimp only
        refine hK _ _ (SF.out w3 b3) (fun hHeld => ?_)
        clear hK K1 CQ0 b3 CP
        (try simp only [List.getElem_toArray, List.getElem_cons_succ, List.getElem_cons_zero]); (try simp only [Act.put, List.setIfInBounds_toArray, List.set_cons_zero, List.set_cons_succ])
        refine wpAnyH_take (i := 6) (oi := _) (v := ?_) rfl (by kernel_rfl) (by kernel_rfl) (by kernel_rfl) (fun _ _ _ h => h) (Or.inl ⟨by rfl, ?_⟩) (by assumption) ?_
        rotate_left 1
        · (intro w0 hSw; (try dsimp only at hSw); obtain ⟨s1, s2⟩ := hSw; go_simp; try with_reducible rfl)
        (try simp only [List.getElem_toArray, List.getElem_cons_succ, List.getElem_cons_zero]); (try simp only [Act.put, List.setIfInBounds_toArray, List.set_cons_zero, List.set_cons_succ])
        refine wpAnyH_ready (rs := [12]) (by kernel_rfl) (by simp) ?_
        refine AllReadyH.cons (o := _) rfl (fun K1 hK => ?_) AllReadyH.nil
        go_simp
        refine Calls.mono CQ.out ?_
        rintro e w4 ⟨⟨o2, rfl, ho⟩, b4, TN⟩
        obtain ⟨o3, rfl⟩ : ∃ o3, o2 = some o3 := by
          cases o2 with
          | none => exact absurd ho (by simp)
          | some o3 => exact ⟨o3, rfl⟩
        simp only [noP]
        have TNH : Hid _ := TN
        clear ho
        try dsimp only
        refine hK _ _ (SF.out w4 b4) (fun hHeld => ?_)
        clear hK K1 TN b4 CQ
        (try simp only [List.getElem_toArray, List.getElem_cons_succ, List.getElem_cons_zero]); (try simp only [Act.put, List.setIfInBounds_toArray, List.set_cons_zero, List.set_cons_succ])
        refine wpAnyH_take (i := 13) (oi := _) (v := ?_) rfl (by kernel_rfl) (by kernel_rfl) (by kernel_rfl) (fun _ _ _ h => h) (Or.inl ⟨by rfl, ?_⟩) (by assumption) ?_
        rotate_left 1
        · (intro w0 hSw; (try dsimp only at hSw); obtain ⟨s1, s2⟩ := hSw; go_simp; try with_reducible rfl)
        (try simp only [List.getElem_toArray, List.getElem_cons_succ, List.getElem_cons_zero]); (try simp only [Act.put, List.setIfInBounds_toArray, List.set_cons_zero, List.set_cons_succ])
        refine wpAnyH_take (i := 14) (oi := _) (v := ?_) rfl (by kernel_rfl) (by kernel_rfl) (by kernel_rfl) (fun _ _ _ h => h) (Or.inl ⟨by rfl, ?_⟩) (by assumption) ?_
        rotate_left 1
        · (intro w0 hSw; (try dsimp only at hSw); obtain ⟨s1, s2⟩ := hSw; go_simp; try with_reducible rfl)
        (try simp only [List.getElem_toArray, List.getElem_cons_succ, List.getElem_cons_zero]); (try simp only [Act.put, List.setIfInBounds_toArray, List.set_cons_zero, List.set_cons_succ])
        refine wpAnyH_done (by kernel_rfl) ?_ _
        refine NoPanic.normal ?_
        go_wp2_with fail
        exact ⟨⟨i + 1, rfl, hi, TNH⟩, by first | (simp [intOf]; done) | (simp [intOf]; omega)⟩
    · have hlt : ¬ (i : Int) < (l.length : Int) := by omega
      obtain ⟨L0, tb0⟩ := hT.out.tb (n := m.length) (m := m) (by omega)
      have TB0 : Hid _ := tb0
      clear tb0 hT hlH hil hi
      go_wp2_with fail
      go_loopw [8] (fun v8 wx => ∃ (k : Nat), v8 = .int .i64 (k : Int) ∧ k ≤ m.length ∧ Hid (TBh w C p1 m1 p2 m2 m L0 k m.length m.length wx)) (fun v8 _ => m.length - (intOf v8).toNat)
      case atStart => exact ⟨0, rfl, Nat.zero_le _, TB0⟩
      case round =>
        clear TB0
        obtain ⟨k, rfl, hkl, hB⟩ := hrel
        have MF : Hid (∀ j, j < m.length → ∃ b off, a2 = some ⟨b, off, none⟩ ∧ ∀ W, Below w.heap.size w W → W.cell? ⟨b, off + j * 2 + 1, none⟩ = some (.string (atE m j).2)) := fun j hj => by
          rcases hmH.out.1 with q | ⟨b, off, rfl, hb, hc⟩
          · rw [q] at hj; simp at hj
          · exact ⟨b, off, rfl, fun W hW => by rw [hW.cell (p := ⟨b, off + j * 2 + 1, none⟩) hb]; exact (hc j _ (atE_some hj)).2⟩
        have MS : Hid (∀ j, j < m.length → (atE m j).2.size ≤ 9223372036854775807) := fun j hj => hmH.out.2 _ (List.mem_of_getElem? (atE_some hj))
        by_cases hk : k < m.length
        · obtain ⟨k0, kI, kw⟩ := nums_iS k m.length hk (by omega)
          obtain ⟨b, off, rfl, F⟩ := MF.out k hk
          have c1 := F wr hB.out.below
          have CT : Hid _ := hB.out.tak1 (MS.out k hk)
          clear F MF MS hB
          generalize atE m k = y at *
          go_wp2_with fail
          refine Calls.mono CT.out ?_
          rintro e w3 ⟨⟨r, rfl⟩, nx⟩
          have NX : Hid _ := nx
          clear nx CT c1
          go_wp2_with fail
          exact ⟨⟨k + 1, rfl, hk, NX⟩, by first | (simp [intOf]; done) | (simp [intOf]; omega)⟩
        · have hlt2 : ¬ (k : Int) < (m.length : Int) := by omega
          have hke : k = m.length := by omega
          have TB1 : Hid (TBh w C p1 m1 p2 m2 m L0 m.length m.length m.length wr) := by have := hB.out; rw [hke] at this; exact this
          have js := jI_sub m.length (by omega)
          clear hB hke hkl hk
          go_wp2_with fail
          go_loopw [9] (fun v9 wx => ∃ (j : Nat), v9 = .int .i64 (jI j) ∧ j ≤ m.length ∧ Hid (TBh w C p1 m1 p2 m2 m L0 m.length j m.length wx)) (fun v9 _ => (intOf v9 + 1).toNat)
          case atStart => exact ⟨m.length, by first | rfl | (rw [js]), Nat.le_refl _, TB1⟩
          case round =>
            clear TB1
            obtain ⟨j, rfl, hjl, hB⟩ := hrel
            cases j with
            | succ j =>
              have hj : j < m.length := by omega
              obtain ⟨j0, jI', jw⟩ := nums_iS j m.length hj (by omega)
              obtain ⟨b, off, rfl, F⟩ := MF.out j hj
              have c1 := F wr hB.out.below
              have CT : Hid _ := hB.out.tak2 hj (MS.out j hj)
              have e1 : jI (j + 1) = (j : Int) := rfl
              have js2 := jI_sub j (by omega)
              have j1 : (j : Int) ≥ 0 := by omega
              rw [e1]
              clear F MF MS hB e1 js
              generalize atE m j = y at *
              go_wp2_with fail
              refine Calls.mono CT.out ?_
              rintro e w3 ⟨⟨r, rfl⟩, nx⟩
              have NX : Hid _ := nx
              clear nx CT c1
              go_wp2_with fail
              refine ⟨⟨j, by first | rfl | (rw [js2]), by omega, NX⟩, ?_⟩
              cases j with
              | zero => simp [intOf, jI]
              | succ q => simp [intOf, jI]; omega
            | zero =>
              have e1 : jI 0 = -1 := rfl
              rw [e1]
              obtain ⟨La, Lb, h2, pm, ha, hb, la, lb⟩ := hB.out.same
              have CA : Hid _ := h2.sort1 (Below.refl _ _) (by omega)
              have D0 : Hid (H2 w C p1 m1 p2 m2 false true La Lb wr ∧ La.Perm Lb ∧ HO (ahd false) La ∧ HO (ahd true) Lb ∧ Lb.length = La.length) := ⟨h2, pm, ha, hb, lb⟩
              clear h2 pm ha hb hB MF MS hmH e1 js
              generalize wr = wD at *
              go_wp2_with fail
              refine Calls.mono CA.out ?_
              rintro e w3 ⟨vx, rfl, ox, bx⟩
              have CB : Hid _ := D0.out.1.flip.sort1 bx (by have := D0.out.2.2.2.2; omega)
              have oxH : Hid (OE w3 wD.heap.size vx (srtL false La) ∧ Below wD.heap.size wD w3) := ⟨ox, bx⟩
              clear ox bx CA
              go_wp2_with fail
              refine Calls.mono CB.out ?_
              rintro e w4 ⟨vy, rfl, oy0, by0⟩
              have eR : srtL true Lb = (srtL false La).reverse := by rw [srtL_rev, srtL_same D0.out.2.1.symm]
              rw [eR] at oy0
              have bx := oxH.out.2
              have b4 : Below wD.heap.size wD w4 := below_trans bx (below_less by0 bx.size)
              have lS : (srtL false La).length = La.length := srtL_len false La
              have ox := oxH.out.1.below by0 (Nat.le_refl _)
              obtain ⟨ax, cx, ex, hgx⟩ := ox.formS
              obtain ⟨ay, cy, ey, hgy⟩ := oy0.formS
              rw [List.length_reverse, lS] at ey
              rw [lS] at ex
              subst ex ey
              have F4 : Hid (∀ W, Below w4.heap.size w4 W → OE W wD.heap.size (.slice ax La.length cx) (srtL false La) ∧ OE W w3.heap.size (.slice ay La.length cy) (srtL false La).reverse ∧ Below wD.heap.size wD W) := fun W hW => ⟨ox.below hW (Nat.le_refl _), oy0.below hW (Nat.le_refl _), below_trans b4 (below_less hW b4.size)⟩
              have gx : Hid (0 < La.length → ∃ g, ax = some ⟨g, 0, none⟩ ∧ wD.heap.size ≤ g ∧ g < w4.heap.size) := fun q => by
                obtain ⟨g, rfl⟩ := hgx (by omega)
                exact ⟨g, rfl, ox.bound rfl⟩
              have gy : Hid (0 < La.length → ∃ g, ay = some ⟨g, 0, none⟩ ∧ wD.heap.size ≤ g ∧ g < w4.heap.size) := fun q => by
                obtain ⟨g, rfl⟩ := hgy (by simp; omega)
                have := oy0.bound (k := g) rfl
                have := bx.size
                exact ⟨g, rfl, by omega, by omega⟩
              have CL : Hid _ := (D0.out.1.below b4).len1
              have lSH : Hid _ := lS
              clear ox oy0 by0 bx b4 hgx hgy eR oxH CB lS
              go_wp2_with fail
              refine Calls.mono CL.out ?_
              rintro e w5 ⟨rfl, hw5⟩
              subst hw5
              clear CL
              go_wp2_with fail
              go_loopw [12] (fun v12 wx => ∃ (q : Nat), v12 = .int .i64 (q : Int) ∧ q ≤ La.length ∧ Hid (Below w5.heap.size w5 wx)) (fun v12 _ => La.length - (intOf v12).toNat)
              case atStart => exact ⟨0, rfl, Nat.zero_le _, Below.refl _ _⟩
              case round =>
                obtain ⟨q, rfl, hql, hb⟩ := hrel
                by_cases hq : q < La.length
                · obtain ⟨q0, qI, qw⟩ := nums_iS q La.length hq (by omega)
                  obtain ⟨g, rfl, _, _⟩ := gx.out (by omega)
                  obtain ⟨g2, rfl, _, _⟩ := gy.out (by omega)
                  obtain ⟨o1, o2, _⟩ := F4.out wr hb.out
                  have lS := lSH.out
                  obtain ⟨c1, c2⟩ := o1.atS (i := q) (by omega)
                  obtain ⟨d1, d2⟩ := o2.atS (i := La.length - 1 - q) (by simp; omega)
                  rw [← lS, atE_rev (by omega)] at d1 d2
                  rw [lS] at d1 d2
                  have hbd : ∀ k, Hid (Below w5.heap.size w5 (wr.drewN k)) := fun k => by
                    have := hb.out
                    exact ⟨this.os, this.tape, this.output, this.size, this.block⟩
                  have n1 : IntKind.i64.wrap ((La.length : Int) - 1) = ((La.length - 1 : Nat) : Int) := by rw [show (La.length : Int) - 1 = ((La.length - 1 : Nat) : Int) by omega]; exact IntWalk.i64_in _ (by omega)
                  have n2 : IntKind.i64.wrap (((La.length - 1 : Nat) : Int) - (q : Int)) = ((La.length - 1 - q : Nat) : Int) := by rw [show ((La.length - 1 : Nat) : Int) - (q : Int) = ((La.length - 1 - q : Nat) : Int) by omega]; exact IntWalk.i64_in _ (by omega)
                  have n3 : (0 : Int) ≤ ((La.length - 1 - q : Nat) : Int) := by omega
                  have n4 : ((La.length - 1 - q : Nat) : Int) < (La.length : Int) := by omega
                  clear o1 o2 lS hb
                  generalize atE (srtL false La) q = y at *
                  generalize La.length - 1 - q = r at *
                  generalize ((La.length - 1 : Nat) : Int) = nm at *
                  go_wp2_with fail
                  go_quiet (fail)
                  go_wp2_with fail
                  exact ⟨⟨q + 1, rfl, hq, hbd nq⟩, by first | (simp [intOf]; done) | (simp [intOf]; omega)⟩
                · have hlt3 : ¬ (q : Int) < (La.length : Int) := by omega
                  have b5 : Below wD.heap.size wD wr := (F4.out wr hb.out).2.2
                  have CTa : Hid (Calls Try.prog 18 #[.pointer (some ⟨p1, 0, none⟩)] wr fun e w' => e = .returned (.tuple #[eV (topV La), .bool (decide (0 < La.length))]) ∧ Below w5.heap.size w5 w') := (D0.out.1.below b5).top1.mono fun e w' hh => ⟨hh.1, below_trans hb.out (below_less hh.2 hb.out.size)⟩
                  have CTb : Hid (∀ W, Below w5.heap.size w5 W → Calls Try.prog 18 #[.pointer (some ⟨p2, 0, none⟩)] W fun e w' => e = .returned (.tuple #[eV (topV Lb), .bool (decide (0 < Lb.length))]) ∧ Below W.heap.size W w') := fun W hW => (D0.out.1.below (F4.out W hW).2.2).flip.top1
                  have CPz : Hid (∀ W, Below w5.heap.size w5 W → Calls Try.prog 16 #[.pointer (some ⟨p1, 0, none⟩), eV (1, ⟨#[0]⟩)] W fun e w' => (∃ r, e = .returned r) ∧ H2 w C p1 m1 p2 m2 false true (putL false La (1, ⟨#[0]⟩)) Lb w' ∧ ∀ k, wD.heap.size ≤ k → k < W.heap.size → w'.heap[k]? = W.heap[k]?) := fun W hW => D0.out.1.putk (F4.out W hW).2.2 (1, ⟨#[0]⟩) (by decide) (by omega)
                  have topA : Hid (0 < La.length → topV La = atE (srtL false La) 0 ∧ topV Lb = atE (srtL false La).reverse 0) := fun q => by
                    obtain ⟨_, pm, ha, hb', lb⟩ := D0.out
                    have e1 : topV La = atE La 0 := if_pos q
                    have e2 : topV Lb = atE Lb 0 := if_pos (by omega)
                    refine ⟨by rw [e1, top_srt ha q], ?_⟩
                    rw [e2, ← top_srt hb' (by omega), srtL_rev, srtL_same pm.symm]
                  have eLb := D0.out.2.2.2.2
                  rw [eLb] at CTb
                  unfold eV at CTa CTb CPz
                  generalize topV La = ta at *
                  generalize topV Lb = tb at *
                  clear D0 b5 hb lb eLb
                  go_wp2_with fail
                  refine Calls.mono CTa.out ?_
                  rintro e w6 ⟨rfl, b6⟩
                  obtain ⟨K1, hK1⟩ : ∃ K1, K1 = w6.heap.size := ⟨_, rfl⟩
                  obtain ⟨W6, hW6⟩ : ∃ W6, W6 = w6.alloc (.cells #[.int .i64 ta.1, .string ta.2] 32) := ⟨_, rfl⟩
                  have b66 : Below w6.heap.size w6 W6 := by rw [hW6]; exact (Below.refl _ w6).alloc (Nat.le_refl _) _
                  have s66 : W6.heap.size = K1 + 1 := by rw [hW6, hK1]; simp
                  have k10 : W6.cell? ⟨K1, 0, none⟩ = some (.int .i64 ta.1) := by rw [hW6, hK1]; simp [go_sem]
                  have k11 : W6.cell? ⟨K1, 1, none⟩ = some (.string ta.2) := by rw [hW6, hK1]; simp [go_sem]
                  have bW6 : Below w5.heap.size w5 W6 := below_trans b6 (below_less b66 b6.size)
                  have C7 : Hid _ := CTb.out W6 bW6
                  have P6 : Hid (W6.heap.size = K1 + 1 ∧ W6.cell? ⟨K1, 0, none⟩ = some (.int .i64 ta.1) ∧ W6.cell? ⟨K1, 1, none⟩ = some (.string ta.2) ∧ Below w5.heap.size w5 W6 ∧ w5.heap.size ≤ K1) := ⟨s66, k10, k11, bW6, by have := b6.size; omega⟩
                  have hW6H : Hid (w6.alloc (.cells #[.int .i64 ta.1, .string ta.2] 32) = W6 ∧ w6.heap.size = K1) := ⟨hW6.symm, hK1.symm⟩
                  clear CTa CTb b66 s66 k10 k11 bW6 hW6 hK1 b6
                  go_wp2_with fail
                  rw [hW6H.out.1, hW6H.out.2]
                  clear hW6H
                  refine Calls.mono C7.out ?_
                  rintro e w7 ⟨rfl, b7⟩
                  obtain ⟨K2, hK2⟩ : ∃ K2, K2 = w7.heap.size := ⟨_, rfl⟩
                  obtain ⟨W7, hW7⟩ : ∃ W7, W7 = w7.alloc (.cells #[.int .i64 tb.1, .string tb.2] 32) := ⟨_, rfl⟩
                  have b77 : Below w7.heap.size w7 W7 := by rw [hW7]; exact (Below.refl _ w7).alloc (Nat.le_refl _) _
                  have s77 : W7.heap.size = K2 + 1 := by rw [hW7, hK2]; simp
                  have bW7 : Below W6.heap.size W6 W7 := below_trans b7 (below_less b77 b7.size)
                  obtain ⟨s6, k10, k11, bW6, kge⟩ := P6.out
                  have b57 : Below w5.heap.size w5 W7 := below_trans bW6 (below_less bW7 bW6.size)
                  have C8 : Hid _ := CPz.out W7 b57
                  have k20 : W7.cell? ⟨K2, 0, none⟩ = some (.int .i64 tb.1) := by rw [hW7, hK2]; simp [go_sem]
                  have k21 : W7.cell? ⟨K2, 1, none⟩ = some (.string tb.2) := by rw [hW7, hK2]; simp [go_sem]
                  have j10 : W7.cell? ⟨K1, 0, none⟩ = some (.int .i64 ta.1) := by rw [bW7.cell (p := ⟨K1, 0, none⟩) (by show K1 < _; omega)]; exact k10
                  have j11 : W7.cell? ⟨K1, 1, none⟩ = some (.string ta.2) := by rw [bW7.cell (p := ⟨K1, 1, none⟩) (by show K1 < _; omega)]; exact k11
                  obtain ⟨oX, oY, bD7⟩ := F4.out W7 b57
                  have sD5 : wD.heap.size ≤ w5.heap.size := (F4.out w5 (Below.refl _ _)).2.2.size
                  have FIN : Hid (∀ w8, H2 w C p1 m1 p2 m2 false true (putL false La (1, ⟨#[0]⟩)) Lb w8 → (∀ k, wD.heap.size ≤ k → k < W7.heap.size → w8.heap[k]? = W7.heap[k]?) → w8.cell? ⟨K1, 0, none⟩ = some (.int .i64 ta.1) ∧ w8.cell? ⟨K1, 1, none⟩ = some (.string ta.2) ∧ w8.cell? ⟨K2, 0, none⟩ = some (.int .i64 tb.1) ∧ w8.cell? ⟨K2, 1, none⟩ = some (.string tb.2) ∧ (0 < La.length → ∃ g g2, ax = some ⟨g, 0, none⟩ ∧ ay = some ⟨g2, 0, none⟩ ∧ w8.cell? ⟨g, 0, none⟩ = some (.int .i64 ta.1) ∧ w8.cell? ⟨g, 1, none⟩ = some (.string ta.2) ∧ w8.cell? ⟨g2, 0, none⟩ = some (.int .i64 tb.1) ∧ w8.cell? ⟨g2, 1, none⟩ = some (.string tb.2)) ∧ (∀ n, Below w.heap.size w (w8.drewN n)) ∧ ∃ N : Nat, 0 < N ∧ ∀ n, Calls Try.prog 14 #[.pointer (some ⟨p1, 0, none⟩)] (w8.drewN n) fun e w' => e = .returned (.int .i64 (N : Int)) ∧ w' = w8.drewN n) := fun w8 h8 kk => by
                    have b7s := b57.size
                    have b67s := bW7.size
                    have b7ss := b7.size
                    have cc : ∀ k o, wD.heap.size ≤ k → k < W7.heap.size → w8.cell? ⟨k, o, none⟩ = W7.cell? ⟨k, o, none⟩ := fun k o q1 q2 => World.cell?_of_block (w := W7) (a := ⟨k, o, none⟩) (kk k q1 q2)
                    have bF : Below w.heap.size w w8 := by
                      obtain ⟨_, _, _, _, _, _, _, _, _, b, _⟩ := h8
                      exact b
                    refine ⟨by rw [cc K1 0 (by omega) (by omega)]; exact j10, by rw [cc K1 1 (by omega) (by omega)]; exact j11, by rw [cc K2 0 (by omega) (by omega)]; exact k20, by rw [cc K2 1 (by omega) (by omega)]; exact k21, fun q => ?_, fun n => ⟨bF.os, bF.tape, bF.output, bF.size, bF.block⟩, _, putL_pos false La (1, ⟨#[0]⟩), fun n => (h8.below (w' := w8.drewN n) ⟨rfl, rfl, rfl, Nat.le_refl _, fun _ _ => rfl⟩).len1⟩
                    obtain ⟨g, rfl, gl1, gl2⟩ := gx.out q
                    obtain ⟨g2, rfl, gl3, gl4⟩ := gy.out q
                    obtain ⟨tA, tB⟩ := topA.out q
                    obtain ⟨x1, x2⟩ := oX.atS (i := 0) (by rw [lSH.out]; exact q)
                    obtain ⟨y1, y2⟩ := oY.atS (i := 0) (by rw [List.length_reverse, lSH.out]; exact q)
                    rw [← tA] at x1 x2
                    rw [← tB] at y1 y2
                    simp only [Nat.zero_mul, Nat.zero_add] at x1 x2 y1 y2
                    exact ⟨g, g2, rfl, rfl, by rw [cc g 0 gl1 (by omega)]; exact x1, by rw [cc g 1 gl1 (by omega)]; exact x2, by rw [cc g2 0 gl3 (by omega)]; exact y1, by rw [cc g2 1 gl3 (by omega)]; exact y2⟩
                  have hW7H : Hid (w7.alloc (.cells #[.int .i64 tb.1, .string tb.2] 32) = W7 ∧ w7.heap.size = K2) := ⟨hW7.symm, hK2.symm⟩
                  clear b7 b77 s77 bW7 s6 k10 k11 bW6 kge b57 k20 k21 j10 j11 oX oY bD7 sD5 hW7 hK2 F4 gx gy topA P6 CPz C7 lSH
                  go_wp2_with fail
                  rw [hW7H.out.1, hW7H.out.2]
                  clear hW7H
                  refine Calls.mono C8.out ?_
                  rintro e w8 ⟨⟨r, rfl⟩, h8, kk⟩
                  obtain ⟨c1, c2, c3, c4, R, bF, N, hN, CL0⟩ := FIN.out w8 h8 kk
                  have bFH : Hid _ := bF
                  have CLn : Hid _ := CL0
                  clear C8 FIN h8 kk bF CL0
                  have hNI : (N : Int) > 0 := by omega
                  have hNI2 : (0 : Int) < (N : Int) := by omega
                  by_cases hne : 0 < La.length
                  · obtain ⟨g, g2, rfl, rfl, x1, x2, y1, y2⟩ := R hne
                    have hnI : (La.length : Int) > 0 := by omega
                    have hnI2 : (0 : Int) < (La.length : Int) := by omega
                    rw [decide_eq_true hne]
                    clear R
                    go_wp2_with fail
                    go_quiet ((go_at_call 14; exact Calls.quiet_of_same (CLn.out _)))
                    go_wp2_with fail
                    go_ret
                    exact ⟨rfl, bFH.out _⟩
                  · have hnz : La.length = 0 := by omega
                    rw [decide_eq_false hne, hnz]
                    clear R hlt3 hql hq hne hnz la
                    go_wp2_with fail
                    go_quiet ((go_at_call 14; exact Calls.quiet_of_same (CLn.out _)))
                    go_wp2_with fail
                    go_ret
                    exact ⟨rfl, bFH.out _⟩
end Go.Proofs.Ytaiomfkiiifcbaa.Hp
