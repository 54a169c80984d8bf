
import Derived.Test.YtaiomfkiiifcbaaHrC
import Derived.Test.YtaiomfkiiifcbaaHrD
import Derived.Test.YtaiomfkiiifcbaaHqE
import Derived.Test.YtaiomfkiiifcbaaHpMn
namespace Go.Proofs.Ytaiomfkiiifcbaa.Hp
open Go.RowKit Go.Maps
set_option linter.unusedVariables false
set_option linter.unusedSimpArgs false
set_option maxRecDepth 100000
theorem OE.keepR {w w' : World} {B : Nat} {v : Value} {l : List Ent} (h : OE w B v l) (hk : ∀ k, v.ownBlock = some k → w'.heap[k]? = w.heap[k]?) : OE w' B v l := by
  refine ⟨h.1, ?_⟩
  rcases h.2 with h2 | ⟨g, cap, cur, e1, e2, e3, e4⟩
  · exact Or.inl h2
  · exact Or.inr ⟨g, cap, cur, e1, e2, by rw [hk g (by rw [e1]; rfl)]; exact e3, e4⟩
theorem same_oeR {w : World} {B C : Nat} {v u : Value} {l : List Ent} (h : OE w B v l) (k : OE w C u l) (hn : l.length ≤ 1099511627776) : Calls Try.prog 9 #[v, u] w fun e w' => e = .returned (.bool true) ∧ Below w.heap.size w w' := by
  obtain ⟨a, c, rfl, _, i1⟩ := h.ein
  obtain ⟨a2, c2, rfl, _, i2⟩ := k.ein
  exact same_true a a2 c c2 l w i1 i2 hn
theorem rsorted_oe {w : World} {B : Nat} {v : Value} {l : List Ent} (most : Bool) (h : OE w B v l) (hn : l.length ≤ 1099511627776) : Calls Try.prog 6 #[.bool most, v] w fun e w' => ∃ v, e = .returned v ∧ OE w' w.heap.size v (srtL most l) ∧ Below w.heap.size w w' := by
  obtain ⟨a, c, rfl, _, i1⟩ := h.ein
  exact rsorted_any most a c l w i1 hn
/-- while entries are popped. -/
def PPs (w : World) (hp mb : Nat) (most : Bool) (C : Nat) (v3 : Value) (S : List Ent) (i : Nat) (wr : World) : Prop := ∃ v f Lc mv, HS wr (w.heap.size + 2) hp mb most v none f Lc mv ∧ (∀ k, v3.ownBlock = some k → v.ownBlock ≠ some k) ∧ OE wr C v3 S ∧ srtL most Lc = S.drop i ∧ HO (ahd most) Lc ∧ Below w.heap.size w wr ∧ w.heap.size ≤ hp ∧ w.heap.size ≤ mb ∧ hp < C ∧ mb < C ∧ w.heap.size + 2 ≤ wr.heap.size
theorem PPs.below {w wr w' : World} {hp mb C i : Nat} {most : Bool} {v3 : Value} {S : List Ent} (h : PPs w hp mb most C v3 S i wr) (hb : Below wr.heap.size wr w') : PPs w hp mb most C v3 S i w' := by
  obtain ⟨v, f, Lc, mv, h1, h2, h3, h4, h5, h6, h7, h8, h9, h10, h11⟩ := h
  exact ⟨v, f, Lc, mv, h1.below hb, h2, h3.below hb (Nat.le_refl _), h4, h5, below_trans h6 (below_less hb h6.size), h7, h8, h9, h10, Nat.le_trans h11 hb.size⟩
theorem PPs.pop {w wr : World} {hp mb C i : Nat} {most : Bool} {v3 : Value} {S : List Ent} (h : PPs w hp mb most C v3 S i wr) (hi : i < S.length) (hn : S.length ≤ 1048576) :
    Calls Try.prog 12 #[.pointer (some ⟨hp, 0, none⟩)] wr fun e w' => e = .returned (.tuple #[eV (atE S i), .nilIface]) ∧ PPs w hp mb most C v3 S (i + 1) w' := by
  obtain ⟨v, f, Lc, mv, h1, h2, h3, h4, h5, h6, h7, h8, h9, h10, h11⟩ := h
  have hlen : Lc.length = S.length - i := by rw [← srtL_len most Lc, h4]; simp
  have hL : 0 < Lc.length := by omega
  have hd : S.drop i = atE S i :: S.drop (i + 1) := by
    rw [List.drop_eq_getElem_cons hi]
    congr 1
    have := atE_some hi
    rw [List.getElem?_eq_getElem hi] at this
    injection this
  obtain ⟨ft, tt⟩ := fnd_top h1.pl.nd hL
  have hT := srtL_top (most := most) (takL_some (most := most) ft) (fun e he => by
    obtain ⟨k, hk⟩ := List.getElem?_of_mem he
    have := h5.top (ahd_swo most) k k (Nat.le_refl _) (List.getElem?_eq_some_iff.1 hk).1
    rw [atE_get hk] at this
    exact this)
  rw [h4, hd] at hT
  injection hT with hx hr
  rw [hx]
  refine (pop_l h1 hL (by omega)).mono fun e w' hh => ⟨hh.1, ?_⟩
  obtain ⟨mv', op⟩ := hh.2
  obtain ⟨v', f', hs', sep⟩ := op.hs
  have hs0 := op.fr.size
  refine ⟨v', f', _, mv', hs', fun k hk e => ?_, h3.keepR (fun k hk => ?_), hr.symm, takL_ho h5, ?_, h7, h8, h9, h10, Nat.le_trans h11 op.fr.size⟩
  · have hk2 := h3.bound hk
    rcases sep with q | ⟨j, q, hj⟩
    · rw [q] at e; exact h2 k hk e
    · rw [q] at e; injection e with e; omega
  · have hk2 := h3.bound hk
    exact op.fr.keep k hk2.2 (by omega) (by omega) (fun e => h2 k hk e.symm)
  · exact below_trans h6 (op.fr.into h7 h8 (fun k e => by have := (World.ownsRow.lt h1.row k e).1; omega) h6.size)
theorem PPs.last {w wr : World} {hp mb C : Nat} {most : Bool} {v3 : Value} {S : List Ent} (h : PPs w hp mb most C v3 S S.length wr) :
    Calls Try.prog 14 #[.pointer (some ⟨hp, 0, none⟩)] wr fun e w' => e = .returned (.int .i64 0) ∧ w' = wr := by
  obtain ⟨v, f, Lc, mv, h1, h2, h3, h4, h5, h6, h7, h8, h9, h10, h11⟩ := h
  have hlen : Lc.length = 0 := by rw [← srtL_len most Lc, h4]; simp
  have := len_any h1
  rw [hlen] at this
  exact this
theorem nums_p (i n : Nat) (h0 : 0 < i) (hi : i < n) (hn : n ≤ 1099511627776) : IntKind.i64.wrap ((i : Int) - 1) = (i : Int) - 1 ∧ IntKind.i64.wrap (((i : Int) - 1).tdiv 2) = ((par i : Nat) : Int) ∧ wrap64 (((i : Int) - 1).tdiv 2) = ((par i : Nat) : Int) ∧ (0 : Int) ≤ ((par i : Nat) : Int) ∧ ((par i : Nat) : Int) < (n : Int) ∧ par i < n := by
  have : ((i : Int) - 1).tdiv 2 = ((par i : Nat) : Int) := by
    rw [show (i : Int) - 1 = ((i - 1 : Nat) : Int) by omega]; rfl
  have hp : par i < i := by unfold par; omega
  exact ⟨IntWalk.i64_in _ (by omega), by rw [this]; exact IntWalk.i64_in _ (by omega), by rw [this]; exact IntWalk.wrap64_in _ (by omega), by omega, by omega, by omega⟩
set_option maxHeartbeats 16000000 in
theorem heapHolds_walk (a : Option Addr) (len cap : Nat) (op : Nat → OpP) (most : Bool) (w : World) (hop : OpIn w a len op) (hsz : ∀ i, i < len → (op i).e.2.size ≤ 9223372036854775807) (hlen : len ≤ 1048576) :
    Calls Try.prog 3 #[.slice a len cap, .bool most] w fun e w' => e = .returned (.bool true) ∧ Below w.heap.size w w' := by
  have CD : Hid _ := done_any most a len cap op w hop hsz hlen
  have CI : Hid (∀ W, Below w.heap.size w W → Calls Try.prog 7 #[.slice a len cap] W fun e w' => ∃ v, e = .returned v ∧ OE w' W.heap.size v (inD op len) ∧ Below W.heap.size W w') := fun W hW => in_any a len cap op W (hop.below hW) hlen
  have ilen : (inD op len).length ≤ 1048576 := Nat.le_trans (inD_len op len) hlen
  have mixed : Try.prog.follows .mixedOrders = true := by kernel_rfl
  have eg : ∀ args w, (callFunc 11 args).run Try.prog w = .ok (.enter 11 args) w := enters_of Try.func11 (by kernel_rfl) rfl
  clear hop hsz
  go_enter Try.func3, Try.ntmps3
  go_wp2_with fail
  refine Calls.mono CD.out ?_
  rintro e w1 ⟨rfl, nx⟩
  clear CD
  obtain ⟨L, mv, gb, di⟩ := nx
  have bl1 := gb.bl
  have C1 : Hid _ := CI.out w1 bl1
  obtain ⟨hp, hhp⟩ : ∃ hp, hp = w.heap.size + 1 := ⟨_, rfl⟩
  obtain ⟨mb, hmb⟩ : ∃ mb, mb = w.heap.size := ⟨_, rfl⟩
  obtain ⟨v, f, hs1⟩ := gb.hs
  have hs1' : HS w1 (w.heap.size + 2) hp mb most v none f L mv := by rw [hhp, hmb]; exact hs1
  rw [← hhp]
  have ST1 : Hid (HS w1 (w.heap.size + 2) hp mb most v none f L mv ∧ Below w.heap.size w w1 ∧ w.heap.size + 2 ≤ w1.heap.size ∧ hp = w.heap.size + 1 ∧ mb = w.heap.size ∧ L.Perm (inD op len) ∧ HO (ahd most) L ∧ L.length ≤ 1048576) := ⟨hs1', bl1, gb.sz, hhp, hmb, di.pm, di.ho, Nat.le_trans di.le hlen⟩
  clear hs1 hs1' hhp hmb gb di bl1 CI
  go_wp2_with fail
  refine Calls.mono C1.out ?_
  rintro e w2 ⟨v2, rfl, o2, b2⟩
  clear C1
  have C2 : Hid _ := rsorted_oe most o2 (by omega)
  obtain ⟨hs1, bl1, sz1, hhp, hmb, pm, ho, hL⟩ := ST1.out
  have ST2 : Hid (HS w2 (w.heap.size + 2) hp mb most v none f L mv ∧ Below w.heap.size w w2 ∧ w1.heap.size ≤ w2.heap.size ∧ srtL most (inD op len) = srtL most L) := ⟨hs1.below b2, below_trans bl1 (below_less b2 bl1.size), b2.size, (srtL_same pm).symm⟩
  clear hs1 bl1 sz1 hhp hmb pm ho o2 b2
  go_wp2_with fail
  refine Calls.mono C2.out ?_
  rintro e w3 ⟨v3, rfl, o3, b3⟩
  clear C2
  obtain ⟨hs2, bl2, sz2, eS⟩ := ST2.out
  rw [eS] at o3
  have C3 : Hid _ := list_any (hs2.below b3) (by omega)
  have ST3 : Hid (HS w3 (w.heap.size + 2) hp mb most v none f L mv ∧ Below w.heap.size w w3 ∧ OE w3 w2.heap.size v3 (srtL most L) ∧ w2.heap.size ≤ w3.heap.size) := ⟨hs2.below b3, below_trans bl2 (below_less b3 bl2.size), o3, b3.size⟩
  clear hs2 bl2 eS o3 b3
  go_wp2_with fail
  refine Calls.mono C3.out ?_
  rintro e w4 ⟨v4, rfl, o4, b4⟩
  clear C3
  obtain ⟨hs3, bl3, o3, sz3⟩ := ST3.out
  have C4 : Hid _ := sorted_any (hs3.below b4) (by omega)
  have ST4 : Hid (HS w4 (w.heap.size + 2) hp mb most v none f L mv ∧ Below w.heap.size w w4 ∧ OE w4 w2.heap.size v3 (srtL most L) ∧ OE w4 w3.heap.size v4 L ∧ w2.heap.size ≤ w4.heap.size) := ⟨hs3.below b4, below_trans bl3 (below_less b4 bl3.size), o3.below b4 (Nat.le_refl _), o4, Nat.le_trans sz3 b4.size⟩
  clear hs3 bl3 o3 sz3 o4 b4
  go_wp2_with fail
  refine Calls.mono C4.out ?_
  rintro e w5 ⟨v5, rfl, o5, b5⟩
  clear C4
  obtain ⟨hs4, bl4, o3, o4, sz4⟩ := ST4.out
  have hsl : (srtL most L).length ≤ 1099511627776 := by rw [srtL_len]; omega
  have C5 : Hid (Calls Try.prog 9 #[v5, v3] w5 fun e w' => e = .returned (.bool true) ∧ Below w4.heap.size w4 w') := (same_oeR o5 (o3.below b5 (Nat.le_refl _)) hsl).mono fun e w' hh => ⟨hh.1, below_trans b5 (below_less hh.2 b5.size)⟩
  have C6 : Hid (∀ W, Below w4.heap.size w4 W → Calls Try.prog 6 #[.bool most, v4] W fun e w' => ∃ v6, e = .returned v6 ∧ Calls Try.prog 9 #[v6, v3] w' fun e w' => e = .returned (.bool true) ∧ Below w4.heap.size w4 w') := fun W hW => (rsorted_oe most (o4.below hW (Nat.le_refl _)) (by omega)).mono fun e w' hh => by
    obtain ⟨v6, e6, o6, b6⟩ := hh
    have bW := below_trans hW (below_less b6 hW.size)
    exact ⟨v6, e6, (same_oeR o6 (o3.below bW (Nat.le_refl _)) hsl).mono fun e w' hh => ⟨hh.1, below_trans bW (below_less hh.2 bW.size)⟩⟩
  obtain ⟨a3, c3, e3, _, _⟩ := o3.form
  obtain ⟨a4, c4, e4, hc4, hg4⟩ := o4.form
  rw [srtL_len] at e3
  subst e3 e4
  clear hs4 bl4 o3 o4 sz4 o5 b5
  go_wp2_with fail
  refine Calls.mono C5.out ?_
  rintro e w6 ⟨rfl, b6⟩
  have C7 : Hid _ := C6.out w6 b6
  clear C5 C6 b6
  go_wp2_with fail
  refine Calls.mono C7.out ?_
  rintro e w7 ⟨v6, rfl, C80⟩
  have C8 : Hid _ := C80
  clear C80 C7
  go_wp2_with fail
  refine Calls.mono C8.out ?_
  rintro e w8 ⟨rfl, b8⟩
  clear C8
  obtain ⟨hs4, bl4, o3, o4, sz4⟩ := ST4.out
  obtain ⟨hs1, bl1, sz1, hhp, hmb, pm, ho, hL'⟩ := ST1.out
  obtain ⟨_, _, sz2, _⟩ := ST2.out
  have ho4 : Hid (OE w8 w3.heap.size (.slice a4 L.length c4) L ∧ HO (ahd most) L) := ⟨o4.below b8 (Nat.le_refl _), ho⟩
  have PP0 : Hid (PPs w hp mb most w2.heap.size (.slice a3 L.length c3) (srtL most L) 0 w8) := by
    refine ⟨v, f, L, mv, hs4.below b8, fun k hk e => ?_, o3.below b8 (Nat.le_refl _), by simp, ho, below_trans bl4 (below_less b8 bl4.size), by omega, by omega, by omega, by omega, by have := b8.size; omega⟩
    have q1 := o3.bound hk
    have q2 := (World.ownsRow.lt hs1.row k e).2
    omega
  clear hs4 bl4 o3 o4 sz4 hs1 bl1 sz1 hhp hmb pm ho hL' b8 ST1 ST2 ST3 ST4 sz2 hsl
  have hbb : ((L.length : Int) == (L.length : Int)) = true := by simp
  go_wp2_with fail
  go_loopw [8] (fun v8 wr => ∃ (i : Nat), v8 = .int .i64 (i : Int) ∧ 1 ≤ i ∧ i ≤ L.length + 1 ∧ Hid (GR w8 wr)) (fun v8 _ => L.length + 1 - (intOf v8).toNat)
  case atStart => exact ⟨1, rfl, Nat.le_refl _, by omega, GR.refl _⟩
  case round =>
    obtain ⟨i, rfl, hi1, hil, hG⟩ := hrel
    by_cases hi : i < L.length
    · obtain ⟨i0, iI, iw⟩ := nums_i i L.length hi (by omega)
      obtain ⟨n1, n2, n3, n4, n5, n6⟩ := nums_p i L.length (by omega) hi (by omega)
      obtain ⟨g, rfl⟩ := hg4 (by omega)
      have hoi := ho4.out.2 i (by omega) hi
      have CA : Hid (∀ W, Calls Try.prog 11 #[.bool most, .agg #[.int .i64 (atE L i).1, .string (atE L i).2], .agg #[.int .i64 (atE L (par i)).1, .string (atE L (par i)).2]] W fun e w' => e = .returned (.bool false) ∧ ∃ q os', w' = Sort.grow (W.drewN q) os') := fun W => by
        have := rahead_gr most (atE L i) (atE L (par i)) W
        rw [hoi] at this
        exact this
      have oo : ∀ n os, OE (Sort.grow (wr.drewN n) os) w3.heap.size (.slice (some ⟨g, 0, none⟩) L.length c4) L := fun n os => ho4.out.1.below (hG.out.trans ⟨n, os, rfl⟩).below (Nat.le_refl _)
      have k1 : ∀ n os, (Sort.grow (wr.drewN n) os).cell? ⟨g, i * 2, none⟩ = some (.int .i64 (atE L i).1) := fun n os => ((oo n os).at hi).1
      have k2 : ∀ n os, (Sort.grow (wr.drewN n) os).cell? ⟨g, i * 2 + 1, none⟩ = some (.string (atE L i).2) := fun n os => ((oo n os).at hi).2
      have k3 : ∀ n os, (Sort.grow (wr.drewN n) os).cell? ⟨g, par i * 2, none⟩ = some (.int .i64 (atE L (par i)).1) := fun n os => ((oo n os).at n6).1
      have k4 : ∀ n os, (Sort.grow (wr.drewN n) os).cell? ⟨g, par i * 2 + 1, none⟩ = some (.string (atE L (par i)).2) := fun n os => ((oo n os).at n6).2
      clear oo hoi n6
      generalize atE L i = x at *
      generalize atE L (par i) = y at *
      generalize par i = p at *
      go_wp2_with fail
      go_quiet_grown (first | (go_at_fn 11; refine Calls.grown_of (CA.out _)))
      have hG2 : Hid (GR w8 (Sort.grow (wr.drewN nq) osq)) := hG.out.trans ⟨nq, osq, rfl⟩
      clear k1 k2 k3 k4 CA hG
      generalize Sort.grow (wr.drewN nq) osq = w9 at *
      go_wp2_with fail
      exact ⟨⟨i + 1, rfl, by omega, by omega, hG2⟩, by first | (simp [intOf]; done) | (simp [intOf]; omega)⟩
    · have hlt : ¬ (i : Int) < (L.length : Int) := by omega
      have PP1 : Hid (PPs w hp mb most w2.heap.size (.slice a3 L.length c3) (srtL most L) 0 wr) := PP0.out.below hG.out.below
      have hSl : (srtL most L).length = L.length := srtL_len most L
      clear PP0 ho4 hG hg4 hi1 hil
      generalize srtL most L = S at *
      go_wp2_with fail
      go_loopw [9] (fun v9 wx => ∃ (j : Nat), v9 = .int .i64 (j : Int) ∧ j ≤ L.length ∧ Hid (PPs w hp mb most w2.heap.size (.slice a3 L.length c3) S j wx)) (fun v9 _ => L.length - (intOf v9).toNat)
      case atStart => exact ⟨0, rfl, Nat.zero_le _, PP1⟩
      case round =>
        clear PP1
        obtain ⟨j, rfl, hjl, hP⟩ := hrel
        by_cases hj : j < L.length
        · obtain ⟨j0, jI, jw⟩ := nums_i j L.length hj (by omega)
          have CP : Hid _ := hP.out.pop (by omega) (by omega)
          unfold eV at CP
          have NX : Hid (∀ W0, PPs w hp mb most w2.heap.size (.slice a3 L.length c3) S (j + 1) W0 → ∃ g, a3 = some ⟨g, 0, none⟩ ∧ (∀ W, W = W0.alloc (.cells #[.int .i64 (atE S j).1, .string (atE S j).2] 32) → W.cell? ⟨g, j * 2, none⟩ = some (.int .i64 (atE S j).1) ∧ W.cell? ⟨g, j * 2 + 1, none⟩ = some (.string (atE S j).2) ∧ W.cell? ⟨W0.heap.size, 0, none⟩ = some (.int .i64 (atE S j).1) ∧ W.cell? ⟨W0.heap.size, 1, none⟩ = some (.string (atE S j).2) ∧ ∀ n, PPs w hp mb most w2.heap.size (.slice a3 L.length c3) S (j + 1) (W.drewN n))) := fun W0 hp0 => by
            obtain ⟨v', f', Lc, mv', h1, h2, h3, h4⟩ := hp0
            obtain ⟨a5, c5, e5, _, hg5⟩ := h3.form
            injection e5 with e6 e7 e8
            subst e6
            obtain ⟨g, rfl⟩ := hg5 (by omega)
            refine ⟨g, rfl, fun W e => ?_⟩
            have bW : Below W0.heap.size W0 W := by rw [e]; exact (Below.refl _ W0).alloc (Nat.le_refl _) _
            have o := h3.below bW (Nat.le_refl _)
            obtain ⟨q1, q2⟩ := o.at (i := j) (by omega)
            refine ⟨q1, q2, by rw [e]; simp [go_sem], by rw [e]; simp [go_sem], fun n => ?_⟩
            have bN : Below W0.heap.size W0 (W.drewN n) := ⟨bW.os, bW.tape, bW.output, bW.size, bW.block⟩
            exact PPs.below (wr := W0) ⟨v', f', Lc, mv', h1, h2, h3, h4⟩ bN
          clear hP
          generalize atE S j = x at *
          go_wp2_with fail
          refine Calls.mono CP.out ?_
          rintro e w9 ⟨rfl, pp⟩
          obtain ⟨g, rfl, F0⟩ := NX.out w9 pp
          obtain ⟨W9, hW9⟩ : ∃ W9, W9 = w9.alloc (.cells #[.int .i64 x.1, .string x.2] 32) := ⟨_, rfl⟩
          obtain ⟨q1, q2, q3, q4, F1⟩ := F0 W9 hW9
          have FH : Hid _ := F1
          have hW9H : Hid (w9.alloc (.cells #[.int .i64 x.1, .string x.2] 32) = W9) := hW9.symm
          clear CP NX pp F0 F1 hW9
          go_wp2_with fail
          rw [hW9H.out]
          clear hW9H
          go_quiet (fail)
          go_wp2_with fail
          exact ⟨⟨j + 1, rfl, hj, FH.out nq⟩, by first | (simp [intOf]; done) | (simp [intOf]; omega)⟩
        · have hlt2 : ¬ (j : Int) < (L.length : Int) := by omega
          have hje : j = S.length := by omega
          have CL : Hid (Calls Try.prog 13 #[] wr fun e w' => e = .returned (.bool true) ∧ Below w.heap.size w w' ∧ Calls Try.prog 14 #[.pointer (some ⟨hp, 0, none⟩)] w' fun e w'' => e = .returned (.int .i64 0) ∧ w'' = w') := (live_any wr).mono fun e w' hh => by
            have p2 := hP.out.below hh.2
            rw [hje] at p2
            have p3 := p2
            obtain ⟨_, _, _, _, _, _, _, _, _, b6, _⟩ := p3
            exact ⟨hh.1, b6, p2.last⟩
          clear hP hje
          go_wp2_with fail
          refine Calls.mono CL.out ?_
          rintro e w9 ⟨rfl, b9, CN0⟩
          have CN : Hid _ := CN0
          have fin : Hid _ := b9
          clear CN0 b9 CL
          go_wp2_with fail
          refine Calls.mono CN.out ?_
          rintro e w10 ⟨rfl, hw10⟩
          subst hw10
          clear CN
          go_wp2_with fail
          go_ret
          exact ⟨rfl, fin.out⟩
end Go.Proofs.Ytaiomfkiiifcbaa.Hp
