
import Derived.Test.YtjmelonjingbhaaDoorHqC
import Derived.Test.YtjmelonjingbhaaDoorHqD
import Derived.Test.YtjmelonjingbhaaDoorHqE
import Derived.Test.YtjmelonjingbhaaDoorHpMn
import Derived.Test.YtjmelonjingbhaaDoorHpS
import Derived.Test.YtjmelonjingbhaaDoorBase
namespace Go.Proofs.YtjmelonjingbhaaDoor.Hp
open Go.RowKit Go.Maps
set_option linter.unusedVariables false
set_option linter.unusedSimpArgs false
set_option maxRecDepth 100000
theorem isE_any (c e : Int) (he : (e == 0) = false) (w : World) (hg : ET w) :
    Calls Tryd.prog 9 #[.iface 36 (.int .i64 c), .int .i64 e] w fun ev w' => ev = .returned (.bool (c == e)) ∧ Below w.heap.size w w' := by
  have hgA : ET (w.alloc (.cells #[.int .i64 0] 36)) := ET_alloc hg _
  go_enter Tryd.func9, Tryd.ntmps9
  go_wp2_with fail
  refine (as_EE c ⟨w.heap.size, 0, none⟩ (.int .i64 0) _ hgA (by simp) (by simp)).mono ?_
  rintro ev w1 ⟨rfl, rfl⟩
  go_wp2
  go_ret
  exact ⟨rfl, below_new (below_new (below_new (below_new (below_new (Below.refl _ _) _) _) _) _) _⟩
theorem OE.keep {w w' : World} {B : Nat} {v : Value} {l : List Ent} (h : OE w B v l) (hk : ∀ k, v.ownBlock = some k → w'.heap[k]? = w.heap[k]?) : OE w' B v l := by
  refine ⟨h.1, ?_⟩
  rcases h.2 with h2 | ⟨g, cap, cur, e1, e2, e3, e4⟩
  · exact Or.inl h2
  · exact Or.inr ⟨g, cap, cur, e1, e2, by rw [hk g (by rw [e1]; rfl)]; exact e3, e4⟩
/-- two rows of one's own that hold the same. -/
theorem same_oe {w : World} {B C : Nat} {v u : Value} {l : List Ent} (h : OE w B v l) (k : OE w C u l) (hn : l.length ≤ 1099511627776) : Calls Tryd.prog 10 #[v, u] w fun e w' => e = .returned (.bool true) ∧ Below w.heap.size w w' := by
  obtain ⟨a, c, rfl, _, i1⟩ := h.ein
  obtain ⟨a2, c2, rfl, _, i2⟩ := k.ein
  exact same_true a a2 c c2 l w i1 i2 hn
theorem put_back {most : Bool} {L : List Ent} {x : Ent} (nd : ND (putL most L x)) (h : fnd L x.2 = none) : fnd (putL most L x) x.2 ≠ none ∧ topE (putL most L x) x.2 = x ∧ (takL most (putL most L x) x.2).Perm L := by
  have hp := putL_none (most := most) h
  have hm : x ∈ putL most L x := hp.symm.subset (by simp)
  cases q : fnd (putL most L x) x.2 with
  | none => exact absurd rfl (fnd_none.1 q x hm)
  | some i =>
    obtain ⟨h1, h2⟩ := fnd_some q
    have e : atE (putL most L x) i = x := nd.uniq (List.mem_of_getElem? (atE_some h1)) hm h2
    refine ⟨by simp, by unfold topE; rw [q]; exact e, ?_⟩
    have := takL_some (most := most) q
    rw [e] at this
    exact (this.symm.trans (hp.trans (List.perm_append_singleton x L))).cons_inv
set_option maxHeartbeats 16000000 in
theorem heapBack_walk (a : Option Addr) (len cap : Nat) (op : Nat → OpP) (x : Ent) (most : Bool) (w : World) (hop : OpIn w a len op) (hsz : ∀ i, i < len → (op i).e.2.size ≤ 9223372036854775807) (hlen : len ≤ 1048576) (hx : x.2.size ≤ 9223372036854775807) (hE : ET w) :
    Calls Tryd.prog 3 #[.slice a len cap, .agg #[.int .i64 x.1, .string x.2], .bool most] w fun e w' => e = .returned (.bool true) ∧ Below w.heap.size w w' := by
  obtain ⟨K, hK⟩ : ∃ K, K = w.heap.size := ⟨_, rfl⟩
  obtain ⟨W0, hW0⟩ : ∃ W0, W0 = w.alloc (.cells #[.int .i64 x.1, .string x.2] 24) := ⟨_, rfl⟩
  have b0 : Below w.heap.size w W0 := by rw [hW0]; exact (Below.refl _ w).alloc (Nat.le_refl _) _
  have s0 : W0.heap.size = K + 1 := by rw [hW0, hK]; simp
  have x0 : W0.cell? ⟨K, 0, none⟩ = some (.int .i64 x.1) := by rw [hW0, hK]; simp [go_sem]
  have x1 : W0.cell? ⟨K, 1, none⟩ = some (.string x.2) := by rw [hW0, hK]; simp [go_sem]
  have hE0 : ∀ W, Below w.heap.size w W → ET W := fun W hb => ET_below hE hb
  have CD : Hid _ := done_any most a len cap op W0 (hop.below b0) hsz hlen
  have kLv : Hid _ := live_any
  have hxH : Hid (x.2.size ≤ 9223372036854775807) := hx
  have hE0H : Hid _ := hE0
  have b0H : Hid (Below w.heap.size w W0 ∧ W0.heap.size = K + 1 ∧ W0.cell? ⟨K, 0, none⟩ = some (.int .i64 x.1) ∧ W0.cell? ⟨K, 1, none⟩ = some (.string x.2)) := ⟨b0, s0, x0, x1⟩
  have hW0H : Hid (w.alloc (.cells #[.int .i64 x.1, .string x.2] 24) = W0 ∧ w.heap.size = K) := ⟨hW0.symm, hK.symm⟩
  clear hop hsz hx hE hE0 b0 s0 x0 x1 hW0 hK
  go_enter Tryd.func3, Tryd.ntmps3
  go_wp2_with fail
  rw [hW0H.out.1, hW0H.out.2]
  refine Calls.mono CD.out ?_
  rintro e w1 ⟨rfl, nx⟩
  clear CD
  obtain ⟨L, mv, gb, di⟩ := nx
  have hLl : L.length ≤ 1048576 := Nat.le_trans di.le hlen
  obtain ⟨v, f, hs1⟩ := gb.hs
  have bl1 := gb.bl
  have sz1 := gb.sz
  obtain ⟨hp, hhp⟩ : ∃ hp, hp = W0.heap.size + 1 := ⟨_, rfl⟩
  obtain ⟨mb, hmb⟩ : ∃ mb, mb = W0.heap.size := ⟨_, rfl⟩
  have CS1 : Hid _ := sorted_any hs1 (by omega)
  have hs1' : HS w1 (W0.heap.size + 2) hp mb most v none f L mv := by rw [hhp, hmb]; exact hs1
  rw [← hhp] at CS1 ⊢
  have ST1 : Hid (HS w1 (W0.heap.size + 2) hp mb most v none f L mv ∧ Below W0.heap.size W0 w1 ∧ W0.heap.size + 2 ≤ w1.heap.size ∧ hp = W0.heap.size + 1 ∧ mb = W0.heap.size) := ⟨hs1', bl1, sz1, hhp, hmb⟩
  clear hs1 hs1' bl1 sz1 hhp hmb gb di
  go_wp2_with fail
  refine Calls.mono CS1.out ?_
  rintro e w2 ⟨v2, rfl, o2, bb2⟩
  clear CS1
  obtain ⟨hs1, bl1, sz1, hhp, hmb⟩ := ST1.out
  obtain ⟨b0, s0, x0, x1⟩ := b0H.out
  have hs2 := hs1.below bb2
  have bl2 : Below W0.heap.size W0 w2 := below_trans bl1 (below_less bb2 bl1.size)
  have y0 : w2.cell? ⟨K, 0, none⟩ = some (.int .i64 x.1) := by rw [bl2.cell (p := ⟨K, 0, none⟩) (by show K < _; omega)]; exact x0
  have y1 : w2.cell? ⟨K, 1, none⟩ = some (.string x.2) := by rw [bl2.cell (p := ⟨K, 1, none⟩) (by show K < _; omega)]; exact x1
  have vlt : ∀ k, v.ownBlock = some k → W0.heap.size + 2 ≤ k ∧ k < w1.heap.size := fun k e => World.ownsRow.lt hs1.row k e
  have v2lt : ∀ k, v2.ownBlock = some k → w1.heap.size ≤ k ∧ k < w2.heap.size := fun k e => o2.bound e
  have hsrt : (srtL most L).length = L.length := srtL_len most L
  cases hf : fnd L x.2 with
  | some i =>
    have hfi : f x.2 = some i := by rw [hs2.pl.fnd, hf]
    have CP : Hid _ := put_known hs2 x hxH.out (by rw [hfi]; simp)
    have NX : Hid (∀ w3, Below w2.heap.size w2 w3 → w3.cell? ⟨K, 1, none⟩ = some (.string x.2) ∧ Calls Tryd.prog 7 #[.pointer (some ⟨hp, 0, none⟩), .string x.2] w3 fun e w4 => e = .returned (.tuple #[eV (atE L i), .bool true]) ∧ Below w2.heap.size w2 w4) := fun w3 h3 => ⟨by rw [h3.cell (p := ⟨K, 1, none⟩) (by show K < _; have := bl2.size; omega)]; exact y1, (get_some (hs2.below h3) x.2 hxH.out i hfi).mono fun e w4 hh => ⟨hh.1, below_trans h3 (below_less hh.2 h3.size)⟩⟩
    have TL : Hid (∀ W, Below w2.heap.size w2 W → Calls Tryd.prog 8 #[] W fun e w' => e = .returned (.bool true) ∧ Below w2.heap.size w2 w') := fun W hW => (live_any W).mono fun e w' hh => ⟨hh.1, below_trans hW (below_less hh.2 hW.size)⟩
    have TI : Hid (∀ W, Below w2.heap.size w2 W → Calls Tryd.prog 9 #[.iface 36 (.int .i64 5), .int .i64 5] W fun e w' => e = .returned (.bool true) ∧ Below w2.heap.size w2 w') := fun W hW => (isE_any 5 5 (by decide) W (hE0H.out W (below_trans (below_trans b0 (below_less bl2 b0.size)) (below_less hW (Nat.le_trans b0.size bl2.size))))).mono fun e w' hh => ⟨hh.1, below_trans hW (below_less hh.2 hW.size)⟩
    have TS : Hid (∀ W, Below w2.heap.size w2 W → Calls Tryd.prog 5 #[.pointer (some ⟨hp, 0, none⟩)] W fun e w' => ∃ v3, e = .returned v3 ∧ Calls Tryd.prog 10 #[v3, v2] w' fun e w' => e = .returned (.bool true) ∧ Below w.heap.size w w') := fun W hW => (sorted_any (hs2.below hW) (by omega)).mono fun e w' hh => by
      obtain ⟨v3, e3, o3, b3⟩ := hh
      have bW : Below w2.heap.size w2 w' := below_trans hW (below_less b3 hW.size)
      refine ⟨v3, e3, (same_oe o3 (o2.below bW (Nat.le_refl _)) (by omega)).mono fun e w'' hh => ⟨hh.1, ?_⟩⟩
      have bF := below_trans bW (below_less hh.2 bW.size)
      exact below_trans (below_trans b0 (below_less bl2 b0.size)) (below_less bF (Nat.le_trans b0.size bl2.size))
    unfold eV at CP NX
    generalize atE L i = g at *
    clear hs1 hs2 bl1 bl2 sz1 hhp hmb vlt v2lt hsrt hf hfi b0 s0 x0 x1 o2 bb2 ST1 b0H hE0H kLv hW0H hLl
    go_wp2_with fail
    refine Calls.mono CP.out ?_
    rintro e w3 ⟨rfl, b3⟩
    obtain ⟨z1, CG0⟩ := NX.out w3 b3
    have CG : Hid _ := CG0
    clear CG0 NX b3 CP y0 y1
    go_wp2_with fail
    refine Calls.mono CG.out ?_
    rintro e w4 ⟨rfl, b4⟩
    have b5 : Below w2.heap.size w2 (w4.alloc (.cells #[.int .i64 g.1, .string g.2] 24)) := b4.alloc b4.size _
    have CL : Hid _ := TL.out _ b5
    clear CG b4 b5 TL
    go_wp2_with fail
    refine Calls.mono CL.out ?_
    rintro e w5 ⟨rfl, b5⟩
    have CI : Hid _ := TI.out _ b5
    clear b5 TI CL
    go_wp2_with fail
    refine Calls.mono CI.out ?_
    rintro e w6 ⟨rfl, b6⟩
    have CS : Hid _ := TS.out _ b6
    clear b6 TS CI
    go_wp2_with fail
    refine Calls.mono CS.out ?_
    rintro e w7 ⟨v3, rfl, CM0⟩
    have CM : Hid _ := CM0
    clear CM0 CS
    go_wp2_with fail
    refine Calls.mono CM.out ?_
    rintro e w8 ⟨rfl, b8⟩
    have fin : Hid _ := b8
    clear b8 CM
    go_wp2_with fail
    go_ret
    exact ⟨rfl, fin.out⟩
  | none =>
    have szw := bb2.size
    have CP0 := put_l hs2 (Nat.le_trans sz1 bb2.size) x hxH.out (by omega)
    rw [hf] at CP0
    have CP : Hid _ := CP0
    have bw2 : Below w.heap.size w w2 := below_trans b0 (below_less bl2 b0.size)
    have NX : Hid (∀ w3 mv3, OP w2 (W0.heap.size + 2) hp mb most v (putL most L x) mv3 w3 → w3.cell? ⟨K, 1, none⟩ = some (.string x.2) ∧ Calls Tryd.prog 11 #[.pointer (some ⟨hp, 0, none⟩), .string x.2] w3 fun e w4 => e = .returned (.tuple #[eV x, .nilIface]) ∧ w4.cell? ⟨K, 0, none⟩ = some (.int .i64 x.1) ∧ w4.cell? ⟨K, 1, none⟩ = some (.string x.2) ∧ K < w4.heap.size ∧ Below w.heap.size w w4 ∧ OE w4 w1.heap.size v2 (srtL most L) ∧ ∃ v4 f4 mv4, HS w4 (W0.heap.size + 2) hp mb most v4 none f4 (takL most (putL most L x) x.2) mv4) := fun w3 mv3 o3 => by
      obtain ⟨v3, f3, hs3, sep⟩ := o3.hs
      have sz3 := o3.fr.size
      have k3 : w3.heap[K]? = w2.heap[K]? := o3.fr.keep K (by omega) (by omega) (by omega) (fun e => by have := vlt K e.symm; omega)
      have g3 : ∀ k, v2.ownBlock = some k → w3.heap[k]? = w2.heap[k]? := fun k e => by
        have := v2lt k e
        exact o3.fr.keep k (by omega) (by omega) (by omega) (fun e => by have := vlt k e.symm; omega)
      obtain ⟨pb1, pb2, pb3⟩ := put_back hs3.pl.nd hf
      have hL3 := putL_len most L x
      refine ⟨by rw [World.cell?_of_block (w := w2) (a := ⟨K, 1, none⟩) k3]; exact y1, (tak_l hs3 x.2 hxH.out (by omega)).mono fun e w4 hh => ?_⟩
      obtain ⟨e4, mv4, o4⟩ := hh
      have v3K : ∀ k, k < w2.heap.size → W0.heap.size + 2 ≤ w1.heap.size → (v.ownBlock ≠ some k) → v3.ownBlock ≠ some k := fun k h1 _ h2 e => by
        rcases sep with q | ⟨j, q, hj⟩
        · rw [q] at e; exact h2 e
        · rw [q] at e; injection e with e; omega
      have k4 : w4.heap[K]? = w3.heap[K]? := o4.fr.keep K (by omega) (by omega) (by omega) (fun e => v3K K (by omega) sz1 (fun q => by have := vlt K q; omega) e.symm)
      have g4 : ∀ k, v2.ownBlock = some k → w4.heap[k]? = w2.heap[k]? := fun k e => by
        have := v2lt k e
        rw [o4.fr.keep k (by omega) (by omega) (by omega) (fun e => v3K k (by omega) sz1 (fun q => by have := vlt k q; omega) e.symm)]
        exact g3 k e
      obtain ⟨v4, f4, hs4, _⟩ := o4.hs
      have sz4 := o4.fr.size
      have fr3 : Below w.heap.size w2 w3 := o3.fr.into (by have := b0.size; omega) (by have := b0.size; omega) (fun k e => by have := vlt k e; have := b0.size; omega) (by have := b0.size; omega)
      have fr4 : Below w.heap.size w3 w4 := o4.fr.into (by have := b0.size; omega) (by have := b0.size; omega) (fun k e => by have := (World.ownsRow.lt hs3.row k e).1; have := b0.size; omega) (by have := b0.size; omega)
      refine ⟨?_, by rw [World.cell?_of_block (w := w2) (a := ⟨K, 0, none⟩) (k4.trans k3)]; exact y0, by rw [World.cell?_of_block (w := w2) (a := ⟨K, 1, none⟩) (k4.trans k3)]; exact y1, by omega, below_trans (below_trans bw2 fr3) fr4, o2.keep g4, v4, f4, mv4, hs4⟩
      rw [e4, pb2]
      cases q : fnd (putL most L x) x.2 with
      | none => exact absurd q pb1
      | some i => rfl
    have PM : Hid (∀ w3 mv3, OP w2 (W0.heap.size + 2) hp mb most v (putL most L x) mv3 w3 → (takL most (putL most L x) x.2).Perm L) := fun w3 mv3 o3 => by
      obtain ⟨v3, f3, hs3, sep⟩ := o3.hs
      exact (put_back hs3.pl.nd hf).2.2
    unfold eV at CP NX
    clear hs1 hs2 bl1 bl2 sz1 hhp hmb vlt v2lt hf b0 s0 x0 x1 o2 bb2 ST1 b0H hE0H kLv hW0H bw2 szw CP0
    go_wp2_with fail
    refine Calls.mono CP.out ?_
    rintro e w3 ⟨rfl, mv3, o3⟩
    obtain ⟨z1, CT0⟩ := NX.out w3 mv3 o3
    have CT : Hid _ := CT0
    have pm := PM.out w3 mv3 o3
    clear CT0 NX o3 CP y0 y1 PM
    simp only [noP]
    generalize takL most (putL most L x) x.2 = L4 at *
    have TAIL : Hid (∀ w4 W v4 f4 mv4, HS w4 (W0.heap.size + 2) hp mb most v4 none f4 L4 mv4 → OE w4 w1.heap.size v2 (srtL most L) → Below w.heap.size w w4 → Below w4.heap.size w4 W → Calls Tryd.prog 5 #[.pointer (some ⟨hp, 0, none⟩)] W fun e w' => ∃ v3, e = .returned v3 ∧ Calls Tryd.prog 10 #[v3, v2] w' fun e w' => e = .returned (.bool true) ∧ Below w.heap.size w w') := fun w4 W v4 f4 mv4 hs4 o4 bw4 hW => (sorted_any (hs4.below hW) (by rw [pm.length_eq]; omega)).mono fun e w' hh => by
      obtain ⟨v3, e3, o3, b3⟩ := hh
      rw [srtL_same pm] at o3
      have bW : Below w4.heap.size w4 w' := below_trans hW (below_less b3 hW.size)
      refine ⟨v3, e3, (same_oe o3 (o4.below bW (Nat.le_refl _)) (by omega)).mono fun e w'' hh => ⟨hh.1, ?_⟩⟩
      exact below_trans bw4 (below_less (below_trans bW (below_less hh.2 bW.size)) bw4.size)
    clear pm hsrt hLl
    go_wp2_with fail
    refine Calls.mono CT.out ?_
    rintro e w4 ⟨rfl, u0, u1, uK, bw4, o4, v4, f4, mv4, hs4⟩
    clear CT
    obtain ⟨K4, hK4⟩ : ∃ K4, K4 = w4.heap.size := ⟨_, rfl⟩
    obtain ⟨W5, hW5⟩ : ∃ W5, W5 = w4.alloc (.cells #[.int .i64 x.1, .string x.2] 24) := ⟨_, rfl⟩
    have b5 : Below w4.heap.size w4 W5 := by rw [hW5]; exact (Below.refl _ w4).alloc (Nat.le_refl _) _
    have s5 : W5.heap.size = K4 + 1 := by rw [hW5, hK4]; simp
    have NL : Hid (Calls Tryd.prog 8 #[] W5 fun e w6 => e = .returned (.bool true) ∧ w6.cell? ⟨K4, 0, none⟩ = some (.int .i64 x.1) ∧ w6.cell? ⟨K4, 1, none⟩ = some (.string x.2) ∧ w6.cell? ⟨K, 0, none⟩ = some (.int .i64 x.1) ∧ w6.cell? ⟨K, 1, none⟩ = some (.string x.2) ∧ Below w4.heap.size w4 w6) := (live_any W5).mono fun e w6 hh => by
      have b6 := below_trans b5 (below_less hh.2 b5.size)
      refine ⟨hh.1, ?_, ?_, ?_, ?_, b6⟩
      · rw [hh.2.cell (p := ⟨K4, 0, none⟩) (by show K4 < _; omega), hW5, hK4]; simp [go_sem]
      · rw [hh.2.cell (p := ⟨K4, 1, none⟩) (by show K4 < _; omega), hW5, hK4]; simp [go_sem]
      · rw [b6.cell (p := ⟨K, 0, none⟩) uK]; exact u0
      · rw [b6.cell (p := ⟨K, 1, none⟩) uK]; exact u1
    have TS : Hid _ := fun W hW => TAIL.out w4 W v4 f4 mv4 hs4 o4 bw4 hW
    have hW5H : Hid (w4.alloc (.cells #[.int .i64 x.1, .string x.2] 24) = W5 ∧ w4.heap.size = K4) := ⟨hW5.symm, hK4.symm⟩
    clear hs4 o4 bw4 TAIL b5 s5 hW5 hK4 u0 u1 uK z1
    go_wp2_with fail
    rw [hW5H.out.1, hW5H.out.2]
    clear hW5H
    refine Calls.mono NL.out ?_
    rintro e w6 ⟨rfl, c1, c2, c3, c4, b6⟩
    have CS : Hid _ := TS.out w6 b6
    clear TS NL b6
    go_wp2_with fail
    refine Calls.mono CS.out ?_
    rintro e w7 ⟨v3, rfl, CM0⟩
    have CM : Hid _ := CM0
    clear CM0 CS c1 c2 c3 c4
    go_wp2_with fail
    refine Calls.mono CM.out ?_
    rintro e w8 ⟨rfl, b8⟩
    have fin : Hid _ := b8
    clear b8 CM
    go_wp2_with fail
    go_ret
    exact ⟨rfl, fin.out⟩
end Go.Proofs.YtjmelonjingbhaaDoor.Hp
