
import Derived.Test.YtboacnpbicedfaaGreatDoorByM
import Derived.Deep.CutBlock
import Derived.Deep.DeepCutAuto
namespace Go.Proofs.YtboacnpbicedfaaGreatDoor.Hp
open Go.RowKit Go.Maps
set_option linter.unusedVariables false
set_option linter.unusedSimpArgs false
set_option maxRecDepth 100000
/-- behind a step's call. -/
def CV (w : World) (i K j : Nat) (x : Ent) (v3 v4 : Value) (wx : World) : Prop := ∃ ps', PP wx w.heap.size (1048576 + i + 1) v3 v4 ps' ∧ j < ps'.length ∧ ps'.length ≤ i + 2 ∧ Below w.heap.size w wx ∧ wx.cell? ⟨K, 4, none⟩ = some (.string x.2) ∧ K < wx.heap.size
/-- two pointers that are both nil, or both not. -/
theorem nil_two (o : Option PD) : (hP o = .pointer none ∧ dP o = .pointer none) ∨ ∃ p q, hP o = .pointer (some p) ∧ dP o = .pointer (some q) := by
  cases o with
  | none => exact Or.inl ⟨rfl, rfl⟩
  | some p => exact Or.inr ⟨_, _, rfl, rfl⟩
theorem hP_ptr (o : Option PD) : ∃ p q, hP o = .pointer p ∧ dP o = .pointer q := by
  cases o with
  | none => exact ⟨_, _, rfl, rfl⟩
  | some p => exact ⟨_, _, rfl, rfl⟩
theorem at_some {α : Type} (l : List α) (j : Nat) (h : j < l.length) : ∃ o, l[j]? = some o := ⟨_, List.getElem?_eq_getElem h⟩
theorem blk_ltp {W : World} {b o : Nat} {v : Value} (h : W.cell? ⟨b, o, none⟩ = some v) : b < W.heap.size := by
  rcases Nat.lt_or_ge b W.heap.size with h2 | h2
  · exact h2
  · simp [World.cell?, Array.getElem?_eq_none h2] at h
theorem keep_cell {W w9 : World} {b o : Nat} {v : Value} (hb : Below W.heap.size W w9) (h : W.cell? ⟨b, o, none⟩ = some v) : w9.cell? ⟨b, o, none⟩ = some v := by
  rw [hb.cell (p := ⟨b, o, none⟩) (blk_ltp h)]; exact h
theorem LV.next {w wc w9 : World} {i K j : Nat} {x : Ent} {v3 v4 : Value} (h : CV w i K j x v3 v4 wc) (hb : Below wc.heap.size wc w9) : LV w (i + 1) v3 v4 w9 := by
  obtain ⟨ps', pp', hj', pl', bl', cK, kK⟩ := h
  exact ⟨ps', PP.below pp' hb (by omega), by omega, by omega, below_trans bl' (below_less hb bl'.size)⟩
set_option maxHeartbeats 16000000 in
theorem heapPlays_walk (a : Option Addr) (len cap : Nat) (op : Nat → OpP) (w : World) (hg : ET w) (hop : OpIn w a len op) (hsz : ∀ i, i < len → (op i).e.2.size ≤ 9223372036854775807 ∧ ∃ l, (op i).ln = List.length l ∧ EnIn w (op i).la l ∧ (∀ e ∈ l, e.2.size ≤ 9223372036854775807) ∧ l.length ≤ 1048576) (hlen : len ≤ 1048576) :
    Calls Tryz.prog 3 #[.slice a len cap] w fun e w' => e = .returned (.bool true) ∧ Below w.heap.size w w' := by
  have hgH : Hid (∀ W, Below w.heap.size w W → ET W) := fun W hW => ET_below hg hW
  have hopH : Hid (OpIn w a len op) := hop
  have hszH : Hid _ := hsz
  have CN : Hid _ := new_h false w
  have CM : Hid (∀ W, Calls Tryz.prog 5 #[.bool false] W _) := fun W => new_d false W
  have CL : Hid (∀ W, Calls Tryz.prog 14 #[] W _) := fun W => live_any W
  clear hg hop hsz
  go_enter Tryz.func3, Tryz.ntmps3
  go_wp2_with fail
  refine Calls.mono CN.out ?_
  rintro e w1 ⟨x1, rfl, b1, hx1, ex1⟩
  have b1H : Hid (Below w.heap.size w w1) := b1
  have hx1H : Hid (HX w.heap.size w1 x1 (some (false, [], 0))) := hx1
  clear CN b1 hx1
  subst ex1
  go_wp2_with fail
  refine Calls.mono (CM.out _) ?_
  rintro e w2 ⟨x2, rfl, b2, hx2, ex2⟩
  have G0 : Hid (LV w 0 (.slice (some ⟨w1.heap.size, 0, none⟩) 1 1) (.slice (some ⟨w2.heap.size, 0, none⟩) 1 1) (w2.alloc (.cells #[x2] 26))) := by
    obtain ⟨p, pp⟩ := PP.start (n := 1048576 + 0) b1H.out hx1H.out rfl b2 hx2 rfl (fun r hr => by injection hr with hr; subst hr; simp)
    refine ⟨[p], pp, by simp, by simp, ?_⟩
    have h1 := b1H.out
    have z1 := h1.size
    have z2 : w1.heap.size + 1 ≤ w2.heap.size := by have := b2.size; simpa using this
    exact below_trans (below_trans h1 (below_less ((Below.refl _ w1).alloc (Nat.le_refl _) _) z1)) (below_trans (below_less b2 (by simp; omega)) ((Below.refl _ w2).alloc (by omega) _))
  clear b1H hx1H b2 hx2 CM
  rw [show (w1.alloc (.cells #[.pointer (some ⟨w.heap.size + 1, 0, none⟩)] 23)).heap.size = w1.heap.size + 1 by simp] at ex2
  subst ex2
  go_wp2_with fail
  go_loopw [19, 3, 4] (fun v19 v3 v4 wr => ∃ (i : Nat), v19 = .int .i64 (i : Int) ∧ i ≤ len ∧ Hid (LV w i v3 v4 wr)) (fun v19 _ _ _ => len - (intOf v19).toNat)
  case atStart => exact ⟨0, rfl, Nat.zero_le _, G0⟩
  case round =>
    clear G0
    obtain ⟨i, rfl, hil, hG0⟩ := hrel
    by_cases hi : i < len
    · obtain ⟨ps, pp, p0, pl, bl⟩ := hG0.out
      clear hG0
      obtain ⟨ga, ca, gb, cb, rfl, rfl, hAB⟩ := pp.forms p0
      obtain ⟨i0, iI, iw, _⟩ := nums_j i len hi (by omega)
      obtain ⟨b, off, rfl, hbl, hcs⟩ : ∃ b off, a = some ⟨b, off, none⟩ ∧ b < wr.heap.size ∧ ∀ i, i < len → wr.cell? ⟨b, off + i * 6, none⟩ = some (.int .i64 (op i).k) ∧ wr.cell? ⟨b, off + i * 6 + 1, none⟩ = some (.int .i64 (op i).wh) ∧ wr.cell? ⟨b, off + i * 6 + 2, none⟩ = some (.bool (op i).mo) ∧ wr.cell? ⟨b, off + i * 6 + 3, none⟩ = some (.int .i64 (op i).e.1) ∧ wr.cell? ⟨b, off + i * 6 + 4, none⟩ = some (.string (op i).e.2) ∧ wr.cell? ⟨b, off + i * 6 + 5, none⟩ = some (.slice (op i).la (op i).ln (op i).lc) := by
        rcases hopH.out.below bl with q | q
        · omega
        · exact q
      obtain ⟨e0, e1, e2, e3, e4, e5⟩ := hcs i hi
      obtain ⟨hxs, l, hln, hEn, hnm, hll⟩ := hszH.out i hi
      clear hcs
      generalize op i = oo at *
      obtain ⟨k, wh, mo, x, la, ln, lc⟩ := oo
      simp only at e0 e1 e2 e3 e4 e5 hxs hln hEn
      subst hln
      obtain ⟨K, hK⟩ : ∃ K, K = wr.heap.size := ⟨_, rfl⟩
      obtain ⟨ln, hln⟩ : ∃ ln, ln = l.length := ⟨_, rfl⟩
      obtain ⟨m, hm⟩ : ∃ m, m = ps.length := ⟨_, rfl⟩
      rw [← hln] at e5
      rw [← hm] at pp p0 pl ⊢
      obtain ⟨W1, hW1⟩ : ∃ W1, W1 = wr.alloc (.cells #[.int .i64 k, .int .i64 wh, .bool mo, .int .i64 x.1, .string x.2, .slice la ln lc] 33) := ⟨_, rfl⟩
      have b1 : Below wr.heap.size wr W1 := by rw [hW1]; exact (Below.refl _ wr).alloc (Nat.le_refl _) _
      have s1 : W1.heap.size = K + 1 := by rw [hW1, hK]; simp
      have f0 : W1.cell? ⟨K, 0, none⟩ = some (.int .i64 k) := by rw [hW1, hK]; simp [go_sem]
      have f1 : W1.cell? ⟨K, 1, none⟩ = some (.int .i64 wh) := by rw [hW1, hK]; simp [go_sem]
      have f2 : W1.cell? ⟨K, 2, none⟩ = some (.bool mo) := by rw [hW1, hK]; simp [go_sem]
      have f3 : W1.cell? ⟨K, 3, none⟩ = some (.int .i64 x.1) := by rw [hW1, hK]; simp [go_sem]
      have f4 : W1.cell? ⟨K, 4, none⟩ = some (.string x.2) := by rw [hW1, hK]; simp [go_sem]
      have f5 : W1.cell? ⟨K, 5, none⟩ = some (.slice la ln lc) := by rw [hW1, hK]; simp [go_sem]
      have CW : Hid _ := which_any wh m p0 (by omega) W1
      have hW1H : Hid (wr.alloc (.cells #[.int .i64 k, .int .i64 wh, .bool mo, .int .i64 x.1, .string x.2, .slice la ln lc] 33) = W1 ∧ wr.heap.size = K) := ⟨hW1.symm, hK.symm⟩
      have P1 : Hid (PP W1 w.heap.size (1048576 + i) (.slice (some ⟨ga, 0, none⟩) m ca) (.slice (some ⟨gb, 0, none⟩) m cb) ps) := pp.below b1 (Nat.le_refl _)
      have ST : Hid (m = ps.length ∧ 0 < m ∧ m ≤ i + 1 ∧ Below w.heap.size w W1 ∧ W1.heap.size = K + 1 ∧ K = wr.heap.size ∧ ln = l.length ∧ EnIn w la l ∧ (∀ e ∈ l, e.2.size ≤ 9223372036854775807) ∧ l.length ≤ 1048576 ∧ x.2.size ≤ 9223372036854775807 ∧ (∀ k, (Value.slice (some ⟨ga, 0, none⟩) m ca).ownBlock = some k → k < K) ∧ (∀ k, (Value.slice (some ⟨gb, 0, none⟩) m cb).ownBlock = some k → k < K) ∧ (∀ (i : Nat) (p : PD) (k : Nat), ps[i]? = some (some p) → p.has k → k < K)) := by
        obtain ⟨o1, o2, o3⟩ := PQ.old pp
        rw [← hK] at o1 o2 o3
        exact ⟨hm, p0, pl, below_trans bl (below_less b1 bl.size), s1, hK, hln, hEn, hnm, hll, hxs, fun k e => (o2 k e).2, fun k e => (o3 k e).2, o1⟩
      have miH : Hid (m ≤ i + 1) := pl
      clear hAB pp bl b1 s1 hEn hnm hll hxs hbl hK hln hm hW1 pl
      go_wp2_with fail
      rw [hW1H.out.1, hW1H.out.2]
      refine Calls.mono CW.out ?_
      rintro e W1 ⟨⟨j, hj, rfl⟩, rfl⟩
      clear CW hW1H e0 e1 e2 e3 e4 e5
      go_upto_block 2 with fail
      go_cut [3, 4] (fun v3 v4 wx => Hid (CV w i K j x v3 v4 wx))
      case first =>
        obtain ⟨hm, m0, mi, bl1, s1, hK, hln, hEn, hnm, hll, hxs, oA, oB, oP⟩ := ST.out
        obtain ⟨o, ho⟩ := at_some ps j (by omega)
        obtain ⟨hq, dq, eh, ed⟩ := hP_ptr o
        have hmm : ps.length + 1 ≤ 1099511627776 := by omega
        have DONE : Hid (∀ A' B' w5, (∃ o, PP w5 w.heap.size (1048576 + i) A' B' (ps ++ [o])) → Below w.heap.size W1 w5 → (∀ k, k < W1.heap.size → (Value.slice (some ⟨ga, 0, none⟩) m ca).ownBlock ≠ some k → (Value.slice (some ⟨gb, 0, none⟩) m cb).ownBlock ≠ some k → w5.heap[k]? = W1.heap[k]?) → CV w i K j x A' B' w5) := fun A' B' w5 ⟨o', p5⟩ b5 kp => by
          refine ⟨ps ++ [o'], PP.below p5 (Below.refl _ _) (by omega), by simp; omega, by simp; omega, below_trans bl1 b5, ?_, ?_⟩
          · rw [World.cell?_of_block (w := W1) (a := ⟨K, 4, none⟩) (kp K (by omega) (fun e => by have := oA K e; omega) (fun e => by have := oB K e; omega))]; exact f4
          · have := b5.size; omega
        have DONE5 : Hid (∀ W A' B' w5, Below W1.heap.size W1 W → A5 W w.heap.size (1048576 + i) (.slice (some ⟨ga, 0, none⟩) m ca) (.slice (some ⟨gb, 0, none⟩) m cb) ps A' B' w5 → CV w i K j x A' B' w5) := fun W A' B' w5 hW a5 => DONE.out A' B' w5 a5.pp (below_trans (below_less hW bl1.size) a5.bl) (fun k hk a b => by rw [a5.kp k (Nat.lt_of_lt_of_le hk hW.size) a b]; exact hW.block k hk)
        have qn : ∀ r, qv o = some r → r.2.1.length ≤ 1048576 + i := fun r hr => by
          cases o with
          | none => cases hr
          | some p => injection hr with hr; subst hr; exact (P1.out.rp.lp j p ho).2.2
        have NI : Hid ((0 : Int) ≤ (j : Int) ∧ (j : Int) < (m : Int) ∧ j < m) := ⟨by omega, by omega, hj⟩
        have hc1 : (ps.map hP)[j]? = some (.pointer hq) := by rw [List.getElem?_map, ho, Option.map_some, eh]
        have hc2 : (ps.map dP)[j]? = some (.pointer dq) := by rw [List.getElem?_map, ho, Option.map_some, ed]
        by_cases k4 : k = 4
        · subst k4
          have CF : Hid (∀ W, Below W1.heap.size W1 W → _) := fun W hW => pack_a (F := 7) (args := #[.pointer hq]) (q := qv o) (S := fun W => W.cell? ⟨ga, j, none⟩ = some (.pointer hq) ∧ W.cell? ⟨gb, j, none⟩ = some (.pointer dq)) (P1.out.below hW (Nat.le_refl _)) hmm (fun w' r => ⟨row_cell r.1 hc1, row_cell r.2.1 hc2⟩) (ptr_h (by rw [← eh]; exact fork_h (P1.out.below hW (Nat.le_refl _)) ho (by omega)))
          have CD : Hid (∀ W p2 g c w2 w3, A3 W w.heap.size (1048576 + i) (.slice (some ⟨ga, 0, none⟩) m ca) (.slice (some ⟨gb, 0, none⟩) m cb) ps p2 (qv o) g c w2 w3 → _) := fun W p2 g c w2 w3 a3 => pack_b (F := 8) (args := #[.pointer dq]) (S := fun W => W.cell? ⟨ga, j, none⟩ = some (.pointer hq) ∧ W.cell? ⟨gb, j, none⟩ = some (.pointer dq)) a3 hmm (fun w' r => ⟨row_cell r.1 hc1, row_cell r.2.1 hc2⟩) qn (ptr_d (by rw [← ed]; exact fork_d a3.q3 ho (by omega)))
          have S0 : W1.drew.cell? ⟨ga, j, none⟩ = some (.pointer hq) ∧ W1.drew.cell? ⟨gb, j, none⟩ = some (.pointer dq) := by
            have r := P1.out.rrk
            exact ⟨row_cell r.1 hc1, row_cell r.2.1 hc2⟩
          clear ST hm m0 mi bl1 s1 hK hln hEn hnm hll hxs oA oB oP ho eh ed hmm DONE qn hc1 hc2 P1
          go_wp2_with fail
          obtain ⟨j0, jI, jN⟩ := NI.out
          go_region_held3 (fun W => W.cell? ⟨ga, j, none⟩ = some (.pointer hq) ∧ W.cell? ⟨gb, j, none⟩ = some (.pointer dq)) (first | assumption)
            (first
              | (go_at_call 7; (with_reducible refine Calls.mono (CF.out _ (by first | exact (Below.refl _ W1).drew | exact ((Below.refl _ W1).drew).drew)) ?_); rintro e w2 ⟨p2, rfl, SS2, SS2a, g3, c3, w3, r3, SS3, a3⟩; have r3H : Hid _ := r3; clear r3)
              | (go_at_call 8; (with_reducible refine Calls.mono (CD.out _ _ _ _ _ _ a3.out) ?_); rintro e w4 ⟨p4, rfl, SS4, SS4a, g5, c5, w5, r5, SS5, a5⟩; have r5H : Hid _ := r5; clear r5)
              | (refine step_append_runH rfl (.tmp 43) (.tmp 49) 25 rfl _ _ _ _ rfl rfl r3H.out ?_)
              | (refine step_append_runH rfl (.tmp 51) (.tmp 57) 28 rfl _ _ _ _ rfl rfl r5H.out ?_))
          all_goals
            go_wp2_with fail
            go_meet
            exact DONE5.out _ _ _ _ (by first | exact (Below.refl _ W1).drew | exact ((Below.refl _ W1).drew).drew) a5.out
        by_cases k5 : k = 5
        · subst k5
          have hS : ∀ W, Below W1.heap.size W1 W → ∀ w', RRK W w.heap.size (.slice (some ⟨ga, 0, none⟩) m ca) (.slice (some ⟨gb, 0, none⟩) m cb) ps w' → w'.cell? ⟨K, 2, none⟩ = some (.bool mo) ∧ w'.cell? ⟨K, 0, none⟩ = some (.int .i64 5) := fun W hW w' r => by
            have e : w'.heap[K]? = W1.heap[K]? := by
              rw [r.2.2 K (by have := hW.size; omega) (fun e => by have := oA K e; omega) (fun e => by have := oB K e; omega)]
              exact hW.block K (by omega)
            exact ⟨by rw [World.cell?_of_block (w := W1) (a := ⟨K, 2, none⟩) e]; exact f2, by rw [World.cell?_of_block (w := W1) (a := ⟨K, 0, none⟩) e]; exact f0⟩
          have CF : Hid (∀ W, Below W1.heap.size W1 W → _) := fun W hW => pack_a (F := 4) (args := #[.bool mo]) (q := some (mo, [], 0)) (S := fun W => W.cell? ⟨K, 2, none⟩ = some (.bool mo)) (P1.out.below hW (Nat.le_refl _)) hmm (fun w' r => (hS W hW w' r).1) (ptr_h ((new_h mo W).mono fun e w' ⟨x, h1, h2, h3, _⟩ => ⟨x, h1, h2, h3⟩))
          have CD : Hid (∀ W p2 g c w2 w3, Below W1.heap.size W1 W → A3 W w.heap.size (1048576 + i) (.slice (some ⟨ga, 0, none⟩) m ca) (.slice (some ⟨gb, 0, none⟩) m cb) ps p2 (some (mo, [], 0)) g c w2 w3 → _) := fun W p2 g c w2 w3 hW a3 => pack_b (F := 5) (args := #[.bool mo]) (S := fun W => W.cell? ⟨K, 2, none⟩ = some (.bool mo)) a3 hmm (fun w' r => (hS W hW w' r).1) (fun r hr => by injection hr with hr; subst hr; simp) (ptr_d ((new_d mo w3).mono fun e w' ⟨x, h1, h2, h3, _⟩ => ⟨x, h1, h2, h3⟩))
          have S0 : W1.drew.cell? ⟨K, 2, none⟩ = some (.bool mo) := f2
          clear ST hm m0 mi bl1 s1 hK hln hEn hnm hll hxs oA oB oP ho eh ed hmm DONE qn hc1 hc2 P1 hS
          go_wp2_with fail
          obtain ⟨j0, jI, jN⟩ := NI.out
          go_region_held3 (fun W => W.cell? ⟨K, 2, none⟩ = some (.bool mo)) (first | assumption)
            (first
              | (go_at_call 4; (with_reducible refine Calls.mono (CF.out _ (by first | exact (Below.refl _ W1).drew | exact ((Below.refl _ W1).drew).drew)) ?_); rintro e w2 ⟨p2, rfl, SS2, SS2a, g3, c3, w3, r3, SS3, a3⟩; have r3H : Hid _ := r3; clear r3)
              | (go_at_call 5; (with_reducible refine Calls.mono (CD.out _ _ _ _ _ _ (by first | exact (Below.refl _ W1).drew | exact ((Below.refl _ W1).drew).drew) a3.out) ?_); rintro e w4 ⟨p4, rfl, SS4, SS4a, g5, c5, w5, r5, SS5, a5⟩; have r5H : Hid _ := r5; clear r5)
              | (refine step_append_runH rfl (.tmp 61) (.tmp 65) 25 rfl _ _ _ _ rfl rfl r3H.out ?_)
              | (refine step_append_runH rfl (.tmp 67) (.tmp 71) 28 rfl _ _ _ _ rfl rfl r5H.out ?_))
          all_goals
            go_wp2_with fail
            go_meet
            exact DONE5.out _ _ _ _ (by first | exact (Below.refl _ W1).drew | exact ((Below.refl _ W1).drew).drew) a5.out
        by_cases k6 : k = 6
        · subst k6
          obtain ⟨o6, kn6⟩ := KN_some l
          have CB0 := build_x mo la lc l W1 (hEn.below bl1) hnm o6 kn6 (by omega)
          have CD0 := fun W (hW : Below W1.heap.size W1 W) => dbuild_any mo la lc l W ((hEn.below bl1).below hW) o6 kn6 (by omega)
          cases o6 with
          | some j6 =>
            have CB : Hid (Calls Tryz.prog 9 #[.bool mo, .slice la ln lc] W1 fun e w2 => e = .returned (.tuple #[.pointer none, .iface 71 (.agg #[.int .i64 (j6 : Int), .iface 41 (.int .i64 5)])]) ∧ Below W1.heap.size W1 w2) := by rw [hln]; exact CB0.mono fun e w2 hh => hh.1 j6 rfl
            have CE : Hid (∀ w2, Below W1.heap.size W1 w2 → Calls Tryz.prog 10 #[.bool mo, .slice la ln lc] w2 fun e w3 => e = .returned (.tuple #[.pointer none, .agg #[.int .i64 5, .int .i64 0, .int .i64 (j6 : Int), .bool false, .bool true]]) ∧ Below w2.heap.size w2 w3) := fun w2 h2 => by rw [hln]; exact (CD0 w2 h2).mono fun e w3 hh => hh.1 j6 rfl
            have CS : Hid (∀ W, Below W1.heap.size W1 W → Calls Tryz.prog 11 #[.iface 71 (.agg #[.int .i64 (j6 : Int), .iface 41 (.int .i64 5)]), .agg #[.int .i64 5, .int .i64 0, .int .i64 (j6 : Int), .bool false, .bool true]] W fun e w' => e = .returned (.bool true) ∧ Below W.heap.size W w') := fun W hW => same_in j6 W (hgH.out W (below_trans bl1 (below_less hW bl1.size)))
            clear kn6
            clear CB0 CD0 ST hm m0 mi bl1 s1 hK hln hEn hnm hll hxs oA oB oP ho eh ed DONE5 qn hc1 hc2
            go_wp2_with fail
            refine Calls.mono CB.out ?_
            rintro e w2 ⟨rfl, b2⟩
            have b2H : Hid _ := b2
            have q2 := keep_cell b2 f2
            have q5 := keep_cell b2 f5
            clear b2 CB
            go_wp2_with fail
            refine Calls.mono (CE.out w2 b2H.out) ?_
            rintro e w3 ⟨rfl, b3⟩
            have b3H : Hid (Below W1.heap.size W1 w3) := below_trans b2H.out (below_less b3 b2H.out.size)
            clear b3 CE
            go_wp2_with fail
            refine Calls.mono (CS.out _ (below_trans b3H.out ((Below.refl _ w3).alloc b3H.out.size _))) ?_
            rintro e w4 ⟨rfl, b4⟩
            have b34 : Below w3.heap.size w3 w4 := below_trans ((Below.refl _ w3).alloc (Nat.le_refl _) _) (below_less b4 (by simp))
            have b4H : Below W1.heap.size W1 w4 := below_trans b3H.out (below_less b34 b3H.out.size)
            obtain ⟨g6, c6, w6, r6, g7, c7, w7, r7, p7, b7, kp7, _⟩ := arm_two P1.out b4H (o := none) (p2 := none) (p4 := none) rfl rfl (fun p hp => by cases hp) hmm
            have CVH : Hid _ := DONE.out _ _ _ p7 b7 kp7
            have r6H : Hid _ := r6
            have r7H : Hid _ := r7
            clear r6 r7 p7 b7 kp7 P1 hmm DONE b4 b34 b4H b3H b2H CS
            go_wp2_with (at_builtin; first | refine wpList_append_runE (by rfl) _ _ _ (by rfl) _ _ _ _ (by rfl) (by rfl) r6H.out ?_ | refine wpList_append_runE (by rfl) _ _ _ (by rfl) _ _ _ _ (by rfl) (by rfl) r7H.out ?_)
            go_meet
            exact CVH
          | none =>
            obtain ⟨qq, hqq⟩ : ∃ qq : QV, qq = some (mo, (bldL (ahd mo) (l.length / 2) (l, 0)).1, (((bldL (ahd mo) (l.length / 2) (l, 0)).2 : Nat) : Int)) := ⟨_, rfl⟩
            have qn6 : ∀ r, qq = some r → r.2.1.length ≤ 1048576 + i := fun r hr => by
              rw [hqq] at hr
              injection hr with hr
              subst hr
              have := (bldL_few (ahd mo) (l.length / 2) (l, 0) (by simp; omega)).1
              simp only at this ⊢
              omega
            have CB : Hid (Calls Tryz.prog 9 #[.bool mo, .slice la ln lc] W1 fun e w2 => e = .returned (.tuple #[.pointer (some ⟨W1.heap.size + 1, 0, none⟩), .nilIface]) ∧ Below W1.heap.size W1 w2 ∧ HX W1.heap.size w2 (.pointer (some ⟨W1.heap.size + 1, 0, none⟩)) qq) := by
              rw [hln]
              refine CB0.mono fun e w2 hh => ?_
              obtain ⟨e1, gb⟩ := hh.2 rfl
              obtain ⟨v, f, hs⟩ := gb.hs
              exact ⟨e1, gb.bl, Or.inr ⟨_, _, _, _, _, _, v, f, hqq, rfl, hs, by omega, Nat.le_refl _, by omega, gb.sz⟩⟩
            have CE : Hid (∀ w2, Below W1.heap.size W1 w2 → Calls Tryz.prog 10 #[.bool mo, .slice la ln lc] w2 fun e w3 => e = .returned (.tuple #[.pointer (some ⟨w2.heap.size + 1, 0, none⟩), .agg #[.int .i64 0, .int .i64 0, .int .i64 0, .bool false, .bool false]]) ∧ Below w2.heap.size w2 w3 ∧ DX w2.heap.size w3 (.pointer (some ⟨w2.heap.size + 1, 0, none⟩)) qq) := fun w2 h2 => by
              rw [hln]
              refine (CD0 w2 h2).mono fun e w3 hh => ?_
              obtain ⟨e1, ⟨v, ds⟩, bl3⟩ := hh.2 rfl
              exact ⟨e1, bl3, Or.inr ⟨_, _, _, _, _, v, hqq, rfl, ds, by omega, by omega⟩⟩
            have CS : Hid (∀ W, Below W1.heap.size W1 W → Calls Tryz.prog 11 #[.nilIface, .agg #[.int .i64 0, .int .i64 0, .int .i64 0, .bool false, .bool false]] W fun e w' => e = .returned (.bool true) ∧ Below W.heap.size W w') := fun W hW => same_none W
            have qn6H : Hid _ := qn6
            clear kn6 qn6 hqq
            clear CB0 CD0 ST hm m0 mi bl1 s1 hK hln hEn hnm hll hxs oA oB oP ho eh ed DONE5 qn hc1 hc2
            go_wp2_with fail
            refine Calls.mono CB.out ?_
            rintro e w2 ⟨rfl, b2, hx2⟩
            have b2H : Hid _ := b2
            have q2 := keep_cell b2 f2
            have q5 := keep_cell b2 f5
            have hx2H : Hid _ := hx2
            clear hx2
            clear b2 CB
            go_wp2_with fail
            refine Calls.mono (CE.out w2 b2H.out) ?_
            rintro e w3 ⟨rfl, b3, dx3⟩
            have b3H : Hid (Below W1.heap.size W1 w3) := below_trans b2H.out (below_less b3 b2H.out.size)
            have J3 : Hid (∃ o', hP o' = .pointer (some ⟨W1.heap.size + 1, 0, none⟩) ∧ dP o' = .pointer (some ⟨w2.heap.size + 1, 0, none⟩) ∧ ∀ (p : PD), o' = some p → p.ok w3 ∧ p.L.length ≤ 1048576 + i ∧ ∀ k, p.has k → W1.heap.size ≤ k) := by
              obtain ⟨o', e1, e2, h⟩ := HX.join hx2H.out dx3 b3.size (fun k hk _ => b3.block k hk) (Nat.le_refl _) qn6H.out
              exact ⟨o', e1, e2, fun p hp => ⟨(h p hp).1, (h p hp).2.1, fun k hk => ((h p hp).2.2 k hk).1⟩⟩
            clear dx3 hx2H
            clear b3 CE
            go_wp2_with fail
            refine Calls.mono (CS.out _ (below_trans b3H.out ((Below.refl _ w3).alloc b3H.out.size _))) ?_
            rintro e w4 ⟨rfl, b4⟩
            have b34 : Below w3.heap.size w3 w4 := below_trans ((Below.refl _ w3).alloc (Nat.le_refl _) _) (below_less b4 (by simp))
            have b4H : Below W1.heap.size W1 w4 := below_trans b3H.out (below_less b34 b3H.out.size)
            obtain ⟨o8, j1, j2, j3⟩ := J3.out
            obtain ⟨g6, c6, w6, r6, g7, c7, w7, r7, p7, b7, kp7, _⟩ := arm_two P1.out b4H j1 j2 (fun p hp => ⟨LP.below (j3 p hp).1 b34, (j3 p hp).2.1, (j3 p hp).2.2⟩) hmm
            have CVH : Hid _ := DONE.out _ _ _ p7 b7 kp7
            have r6H : Hid _ := r6
            have r7H : Hid _ := r7
            clear r6 r7 p7 b7 kp7 P1 hmm DONE b4 b34 b4H b3H b2H CS
            clear j1 j2 j3 J3
            go_wp2_with (at_builtin; first | refine wpList_append_runE (by rfl) _ _ _ (by rfl) _ _ _ _ (by rfl) (by rfl) r6H.out ?_ | refine wpList_append_runE (by rfl) _ _ _ (by rfl) _ _ _ _ (by rfl) (by rfl) r7H.out ?_)
            go_meet
            exact CVH
        by_cases k7 : k = 7
        · subst k7
          obtain ⟨g6, c6, w6, r6, g7, c7, w7, r7, p7, b7, kp7, _⟩ := arm_two P1.out (Below.refl _ W1) (o := none) (p2 := none) (p4 := none) rfl rfl (fun p hp => by cases hp) hmm
          have CVH : Hid _ := DONE.out _ _ _ p7 b7 kp7
          have r6H : Hid _ := r6
          have r7H : Hid _ := r7
          clear r6 r7 p7 b7 kp7 P1 hmm DONE ST hm m0 mi bl1 s1 hK hln hEn hnm hll hxs oA oB oP ho eh ed DONE5 qn hc1 hc2
          go_wp2_with (at_builtin; first | refine wpList_append_runE (by rfl) _ _ _ (by rfl) _ _ _ _ (by rfl) (by rfl) r6H.out ?_ | refine wpList_append_runE (by rfl) _ _ _ (by rfl) _ _ _ _ (by rfl) (by rfl) r7H.out ?_)
          go_meet
          exact CVH
        have hS8 : ∀ w', RRK W1 w.heap.size (.slice (some ⟨ga, 0, none⟩) m ca) (.slice (some ⟨gb, 0, none⟩) m cb) ps w' → w'.cell? ⟨ga, j, none⟩ = some (.pointer hq) ∧ w'.cell? ⟨gb, j, none⟩ = some (.pointer dq) ∧ w'.cell? ⟨K, 0, none⟩ = some (.int .i64 k) ∧ w'.cell? ⟨K, 1, none⟩ = some (.int .i64 wh) ∧ w'.cell? ⟨K, 2, none⟩ = some (.bool mo) ∧ w'.cell? ⟨K, 3, none⟩ = some (.int .i64 x.1) ∧ w'.cell? ⟨K, 4, none⟩ = some (.string x.2) ∧ w'.cell? ⟨K, 5, none⟩ = some (.slice la ln lc) := fun w' r => by
          have e : w'.heap[K]? = W1.heap[K]? := r.2.2 K (by omega) (fun e => by have := oA K e; omega) (fun e => by have := oB K e; omega)
          have cc : ∀ o, w'.cell? ⟨K, o, none⟩ = W1.cell? ⟨K, o, none⟩ := fun o => World.cell?_of_block (w := W1) (a := ⟨K, o, none⟩) e
          exact ⟨row_cell r.1 hc1, row_cell r.2.1 hc2, by rw [cc]; exact f0, by rw [cc]; exact f1, by rw [cc]; exact f2, by rw [cc]; exact f3, by rw [cc]; exact f4, by rw [cc]; exact f5⟩
        have CC : Hid (∀ W, Below W1.heap.size W1 W → Calls Tryz.prog 12 #[.pointer hq, .pointer dq, .agg #[.int .i64 k, .int .i64 wh, .bool mo, .int .i64 x.1, .string x.2, .slice la ln lc]] W fun e w' => e = .returned (.bool true) ∧ (w'.cell? ⟨ga, j, none⟩ = some (.pointer hq) ∧ w'.cell? ⟨gb, j, none⟩ = some (.pointer dq) ∧ w'.cell? ⟨K, 0, none⟩ = some (.int .i64 k) ∧ w'.cell? ⟨K, 1, none⟩ = some (.int .i64 wh) ∧ w'.cell? ⟨K, 2, none⟩ = some (.bool mo) ∧ w'.cell? ⟨K, 3, none⟩ = some (.int .i64 x.1) ∧ w'.cell? ⟨K, 4, none⟩ = some (.string x.2) ∧ w'.cell? ⟨K, 5, none⟩ = some (.slice la ln lc)) ∧ Hid (CV w i K j x (.slice (some ⟨ga, 0, none⟩) m ca) (.slice (some ⟨gb, 0, none⟩) m cb) w')) := fun W hW => by
          have PW := P1.out.below hW (Nat.le_refl _)
          have CX := call_any PW (hgH.out W (below_trans bl1 (below_less hW bl1.size))) ho k wh mo x hxs la ln lc (by omega)
          rw [eh, ed] at CX
          refine CX.mono fun e w' ⟨e1, ⟨ps', p', lp'⟩, bN, kp⟩ => ?_
          have oW := PQ.old P1.out
          have kA : ∀ k, (Value.slice (some ⟨ga, 0, none⟩) m ca).ownBlock = some k → w'.heap[k]? = W.heap[k]? := fun k e => kp k (by have := oA k e; have := hW.size; omega) (fun i p hi hk => PW.sa k e i p hi hk)
          have kB : ∀ k, (Value.slice (some ⟨gb, 0, none⟩) m cb).ownBlock = some k → w'.heap[k]? = W.heap[k]? := fun k e => kp k (by have := oB k e; have := hW.size; omega) (fun i p hi hk => PW.sb k e i p hi hk)
          have kK : w'.heap[K]? = W1.heap[K]? := by
            rw [kp K (by have := hW.size; omega) (fun i p hi hk => by have := oP i p K hi hk; omega)]
            exact hW.block K (by omega)
          have rW := P1.out.rrk.below (Nat.le_refl _) hW
          have cc : ∀ o, w'.cell? ⟨K, o, none⟩ = W1.cell? ⟨K, o, none⟩ := fun o => World.cell?_of_block (w := W1) (a := ⟨K, o, none⟩) kK
          refine ⟨e1, ⟨row_cell (row_kept rW.1 kA) hc1, row_cell (row_kept rW.2.1 kB) hc2, by rw [cc]; exact f0, by rw [cc]; exact f1, by rw [cc]; exact f2, by rw [cc]; exact f3, by rw [cc]; exact f4, by rw [cc]; exact f5⟩, ps', PP.below p' (Below.refl _ _) (by omega), by omega, by omega, below_trans bl1 (below_trans (below_less hW bl1.size) bN), by rw [cc]; exact f4, ?_⟩
          have := bN.size
          have := hW.size
          omega
        have S0 : W1.drew.cell? ⟨ga, j, none⟩ = some (.pointer hq) ∧ W1.drew.cell? ⟨gb, j, none⟩ = some (.pointer dq) ∧ W1.drew.cell? ⟨K, 0, none⟩ = some (.int .i64 k) ∧ W1.drew.cell? ⟨K, 1, none⟩ = some (.int .i64 wh) ∧ W1.drew.cell? ⟨K, 2, none⟩ = some (.bool mo) ∧ W1.drew.cell? ⟨K, 3, none⟩ = some (.int .i64 x.1) ∧ W1.drew.cell? ⟨K, 4, none⟩ = some (.string x.2) ∧ W1.drew.cell? ⟨K, 5, none⟩ = some (.slice la ln lc) := hS8 _ (P1.out.rrk.below (Nat.le_refl _) ((Below.refl _ W1).drew))
        clear hS8 P1 hmm DONE ST hm m0 mi bl1 s1 hK hln hEn hnm hll hxs oA oB oP ho eh ed DONE5 qn hc1 hc2
        go_wp2_with fail
        obtain ⟨j0, jI, jN⟩ := NI.out
        go_region_held3 (fun W => W.cell? ⟨ga, j, none⟩ = some (.pointer hq) ∧ W.cell? ⟨gb, j, none⟩ = some (.pointer dq) ∧ W.cell? ⟨K, 0, none⟩ = some (.int .i64 k) ∧ W.cell? ⟨K, 1, none⟩ = some (.int .i64 wh) ∧ W.cell? ⟨K, 2, none⟩ = some (.bool mo) ∧ W.cell? ⟨K, 3, none⟩ = some (.int .i64 x.1) ∧ W.cell? ⟨K, 4, none⟩ = some (.string x.2) ∧ W.cell? ⟨K, 5, none⟩ = some (.slice la ln lc)) (first | assumption)
          (first
            | (go_at_call 12; (with_reducible refine Calls.mono (CC.out _ (by first | exact (Below.refl _ W1).drew | exact ((Below.refl _ W1).drew).drew)) ?_); rintro e w9 ⟨rfl, SS9, cv9⟩))
        all_goals
          go_wp2_with fail
          go_meet
          exact cv9
      case rest =>
        have hxsH : Hid (x.2.size ≤ 9223372036854775807) := ST.out.2.2.2.2.2.2.2.2.2.2.1
        have NX : Hid (∀ v3 v4 w9, CV w i K j x v3 v4 wc → Below wc.heap.size wc w9 → LV w (i + 1) v3 v4 w9) := fun v3 v4 w9 h hb => LV.next h hb
        obtain ⟨ps', pp', hj', pl', bl', cK, kK⟩ := hcut.out
        have hcut2 : Hid _ := hcut.out
        clear hcut
        clear ST P1 f0 f1 f2 f3 f4 f5
        obtain ⟨M, hmm⟩ : ∃ M, ps'.length = M := ⟨_, rfl⟩
        rw [hmm] at hj' pl'
        obtain ⟨mm, hMm, n1⟩ : ∃ mm, M = mm + 1 ∧ IntKind.i64.wrap ((M : Int) - 1) = (mm : Int) := ⟨M - 1, by omega, by rw [show (M : Int) - 1 = ((M - 1 : Nat) : Int) by omega]; exact IntWalk.i64_in _ (by omega)⟩
        obtain ⟨ga', ca', gb', cb', rfl, rfl, hAB'⟩ := pp'.forms (by omega)
        rw [hmm] at pp' hcut2 ⊢
        obtain ⟨oj, hoj⟩ := at_some ps' j (by omega)
        obtain ⟨on, hon⟩ := at_some ps' mm (by omega)
        obtain ⟨hq, dq, eh, ed⟩ := hP_ptr oj
        have c1 := hAB' j oj hoj
        have c2 := hAB' mm on hon
        rw [eh, ed] at c1
        have CA : Hid (∀ W, Below wc.heap.size wc W → Calls Tryz.prog 13 #[.pointer hq, .pointer dq, .string x.2] W fun e w' => e = .returned (.bool true) ∧ Below W.heap.size W w') := fun W hW => by
          rw [← eh, ← ed]
          exact alike_any (pp'.below hW (Nat.le_refl _)) hoj x.2 hxsH.out (by omega)
        have NI : Hid ((0 : Int) ≤ (j : Int) ∧ (j : Int) < (M : Int) ∧ (0 : Int) ≤ (mm : Int) ∧ (mm : Int) < (M : Int) ∧ j < M ∧ mm < M) := ⟨by omega, by omega, by omega, by omega, by omega, by omega⟩
        have NX2 : Hid (∀ w9, Below wc.heap.size wc w9 → LV w (i + 1) (.slice (some ⟨ga', 0, none⟩) M ca') (.slice (some ⟨gb', 0, none⟩) M cb') w9) := fun w9 hb => NX.out _ _ w9 hcut2.out hb
        rcases nil_two on with ⟨g1, g2⟩ | ⟨p, q, g1, g2⟩
        · rw [g1, g2] at c2
          obtain ⟨d1, d2⟩ := c1
          obtain ⟨d3, d4⟩ := c2
          have SK : Hid (∀ W, Below wc.heap.size wc W → Below wc.heap.size wc W ∧ W.cell? ⟨ga', mm, none⟩ = some (.pointer none) ∧ W.cell? ⟨gb', mm, none⟩ = some (.pointer none) ∧ W.cell? ⟨ga', j, none⟩ = some (.pointer hq) ∧ W.cell? ⟨gb', j, none⟩ = some (.pointer dq) ∧ W.cell? ⟨K, 4, none⟩ = some (.string x.2)) := fun W hb => ⟨hb, keep_cell hb d3, keep_cell hb d4, keep_cell hb d1, keep_cell hb d2, keep_cell hb cK⟩
          have S0 : Below wc.heap.size wc wc.drew ∧ wc.drew.cell? ⟨ga', mm, none⟩ = some (.pointer none) ∧ wc.drew.cell? ⟨gb', mm, none⟩ = some (.pointer none) ∧ wc.drew.cell? ⟨ga', j, none⟩ = some (.pointer hq) ∧ wc.drew.cell? ⟨gb', j, none⟩ = some (.pointer dq) ∧ wc.drew.cell? ⟨K, 4, none⟩ = some (.string x.2) := SK.out _ ((Below.refl _ wc).drew)
          clear pp' bl' hAB' hoj hon eh ed g1 g2 NX hcut2 hmm hMm hj' pl' hj p0
          clear d1 d2 d3 d4 cK kK
          go_wp2_with fail
          obtain ⟨j0, jI, m0, mI, jN, mN⟩ := NI.out
          go_region_held3 (fun W => Below wc.heap.size wc W ∧ W.cell? ⟨ga', mm, none⟩ = some (.pointer none) ∧ W.cell? ⟨gb', mm, none⟩ = some (.pointer none) ∧ W.cell? ⟨ga', j, none⟩ = some (.pointer hq) ∧ W.cell? ⟨gb', j, none⟩ = some (.pointer dq) ∧ W.cell? ⟨K, 4, none⟩ = some (.string x.2)) (first | assumption)
            (first
              | (go_at_call 13; (with_reducible refine Calls.mono (CA.out _ (And.left (by assumption))) ?_); rintro e w9 ⟨rfl, b9⟩; have b8 := below_trans (And.left (by assumption)) (below_less b9 (Below.size (And.left (by assumption)))); have SS := SK.out _ b8; have NX3 : Hid _ := NX2.out _ b8))
          all_goals
            go_wp2_with fail
            exact ⟨⟨i + 1, by go_num, by omega, NX3⟩, by simp [intOf]; omega⟩
        · rw [g1, g2] at c2
          obtain ⟨d1, d2⟩ := c1
          obtain ⟨d3, d4⟩ := c2
          have SK : Hid (∀ W, Below wc.heap.size wc W → Below wc.heap.size wc W ∧ W.cell? ⟨ga', mm, none⟩ = some (.pointer (some p)) ∧ W.cell? ⟨gb', mm, none⟩ = some (.pointer (some q)) ∧ W.cell? ⟨ga', j, none⟩ = some (.pointer hq) ∧ W.cell? ⟨gb', j, none⟩ = some (.pointer dq) ∧ W.cell? ⟨K, 4, none⟩ = some (.string x.2)) := fun W hb => ⟨hb, keep_cell hb d3, keep_cell hb d4, keep_cell hb d1, keep_cell hb d2, keep_cell hb cK⟩
          have S0 : Below wc.heap.size wc wc.drew ∧ wc.drew.cell? ⟨ga', mm, none⟩ = some (.pointer (some p)) ∧ wc.drew.cell? ⟨gb', mm, none⟩ = some (.pointer (some q)) ∧ wc.drew.cell? ⟨ga', j, none⟩ = some (.pointer hq) ∧ wc.drew.cell? ⟨gb', j, none⟩ = some (.pointer dq) ∧ wc.drew.cell? ⟨K, 4, none⟩ = some (.string x.2) := SK.out _ ((Below.refl _ wc).drew)
          clear pp' bl' hAB' hoj hon eh ed g1 g2 NX hcut2 hmm hMm hj' pl' hj p0
          clear d1 d2 d3 d4 cK kK
          go_wp2_with fail
          obtain ⟨j0, jI, m0, mI, jN, mN⟩ := NI.out
          go_region_held3 (fun W => Below wc.heap.size wc W ∧ W.cell? ⟨ga', mm, none⟩ = some (.pointer (some p)) ∧ W.cell? ⟨gb', mm, none⟩ = some (.pointer (some q)) ∧ W.cell? ⟨ga', j, none⟩ = some (.pointer hq) ∧ W.cell? ⟨gb', j, none⟩ = some (.pointer dq) ∧ W.cell? ⟨K, 4, none⟩ = some (.string x.2)) (first | assumption)
            (first
              | (go_at_call 13; (with_reducible refine Calls.mono (CA.out _ (And.left (by assumption))) ?_); rintro e w9 ⟨rfl, b9⟩; have b8 := below_trans (And.left (by assumption)) (below_less b9 (Below.size (And.left (by assumption)))); have SS := SK.out _ b8; have NX3 : Hid _ := NX2.out _ b8))
          all_goals
            go_wp2_with fail
            exact ⟨⟨i + 1, by go_num, by omega, NX3⟩, by simp [intOf]; omega⟩
    · obtain ⟨ps, pp, p0, pl, bl⟩ := hG0.out
      have blH : Hid (Below w.heap.size w wr) := bl
      have nI : ¬ (i : Int) < (len : Int) := by omega
      clear hG0 pp p0 pl bl
      go_wp2_with fail
      refine Calls.mono (CL.out _) ?_
      rintro e w9 ⟨rfl, b9⟩
      have RES : Hid (Below w.heap.size w w9) := below_trans blH.out (below_less b9 blH.out.size)
      clear b9 blH
      go_wp2_with fail
      go_ret
      exact ⟨rfl, RES.out⟩
end Go.Proofs.YtboacnpbicedfaaGreatDoor.Hp
