
import Derived.Test.YtaiomfkiiifcbaaHqB
import Derived.Test.YtaiomfkiiifcbaaHrA
import Derived.Test.YtaiomfkiiifcbaaHrP
import Derived.BigQuiet
namespace Go.Proofs.Ytaiomfkiiifcbaa.Hp
open Go.RowKit Go.Maps
set_option linter.unusedVariables false
set_option linter.unusedSimpArgs false
set_option maxRecDepth 100000
theorem OE.form {w : World} {B : Nat} {v : Value} {l : List Ent} (h : OE w B v l) : ∃ a c, v = .slice a l.length c ∧ l.length ≤ c ∧ (0 < l.length → ∃ g, a = some ⟨g, 0, none⟩) := by
  rcases h.2 with ⟨e, e0⟩ | ⟨g, cap, cur, e1, _, _, hc, _⟩
  · exact ⟨none, 0, by rw [e, e0], by omega, fun q => by omega⟩
  · exact ⟨_, cap, e1, hc, fun _ => ⟨g, rfl⟩⟩
theorem OE.at {w : World} {B g n cap : Nat} {l : List Ent} (h : OE w B (.slice (some ⟨g, 0, none⟩) n cap) l) {i : Nat} (hi : i < l.length) : w.cell? ⟨g, i * 2, none⟩ = some (.int .i64 (atE l i).1) ∧ w.cell? ⟨g, i * 2 + 1, none⟩ = some (.string (atE l i).2) := by
  have hcs := World.ownsRow.cells h (g := g) rfl
  obtain ⟨e1, e2⟩ := encE_get l i _ (atE_some hi)
  have k1 := hcs _ _ e1
  have k2 := hcs _ _ e2
  rw [add_lt0, Nat.zero_add] at k1 k2
  exact ⟨k1, k2⟩
theorem OE.fz {w : World} {B g n cap : Nat} {l : List Ent} (h : OE w B (.slice (some ⟨g, 0, none⟩) n cap) l) (o : Nat) : w.frozen? ⟨g, o, none⟩ = false := by
  obtain ⟨_, _, e1, _⟩ := h.form
  injection e1 with _ e2 _
  subst e2
  exact World.ownsRow.frozenAt h o
/-- an entry laid over another. -/
theorem OE.put {w : World} {B g n cap : Nat} {l : List Ent} (h : OE w B (.slice (some ⟨g, 0, none⟩) n cap) l) {i : Nat} (hi : i < l.length) (x : Ent) (hB : B ≤ w.heap.size) :
    OE ((w.setCell ⟨g, i * 2, none⟩ (.int .i64 x.1)).setCell ⟨g, i * 2 + 1, none⟩ (.string x.2)) B (.slice (some ⟨g, 0, none⟩) n cap) (l.set i x) ∧ Below B w ((w.setCell ⟨g, i * 2, none⟩ (.int .i64 x.1)).setCell ⟨g, i * 2 + 1, none⟩ (.string x.2)) := by
  obtain ⟨_, _, e1, _⟩ := h.form
  injection e1 with _ e2 _
  subst e2
  have t1 := World.ownsRow.stored h (i * 2) (.int .i64 x.1)
  have t2 := World.ownsRow.stored t1.1 (i * 2 + 1) (.string x.2)
  rw [encE_put l i x hi] at t2
  have b1 : Below B w (w.setCell ⟨g, i * 2, none⟩ (.int .i64 x.1)) := (Below.refl B w).grown t1.2 hB (fun k e => (h.bound e).1)
  have b2 := (Below.refl B (w.setCell ⟨g, i * 2, none⟩ (.int .i64 x.1))).grown t2.2 (Nat.le_trans hB b1.size) (fun k e => (h.bound e).1)
  refine ⟨?_, below_trans b1 b2⟩
  unfold OE
  rw [List.length_set]
  exact t2.1
theorem nums_i (i n : Nat) (h : i < n) (hn : n ≤ 4398046511104) : (0 : Int) ≤ (i : Int) ∧ (i : Int) < (n : Int) ∧ IntKind.i64.wrap ((i : Int) + 1) = ((i + 1 : Nat) : Int) := ⟨by omega, by omega, IntWalk.i64_in _ (by omega)⟩
theorem nums_bR (n : Nat) (hn : n ≤ 4398046511104) : IntKind.i64.wrap (((n + 1 : Nat) : Int) - 1) = (n : Int) := by
  rw [show ((n + 1 : Nat) : Int) - 1 = (n : Int) by omega]; exact IntWalk.i64_in _ (by omega)
theorem nums_kR (k : Nat) (h0 : 0 < k) (hn : k ≤ 4398046511104) : IntKind.i64.wrap ((k : Int) - 1) = ((k - 1 : Nat) : Int) := by
  rw [show (k : Int) - 1 = ((k - 1 : Nat) : Int) by omega]; exact IntWalk.i64_in _ (by omega)
theorem enIn_one (x : Ent) (W : World) : EnIn (W.alloc (.cells #[.int .i64 x.1, .string x.2] 32)) (some ⟨W.heap.size, 0, none⟩) [x] := Or.inr ⟨_, _, rfl, by simp, fun j t ht => by
  have hj : j < 1 := (List.getElem?_eq_some_iff.1 ht).1
  have : j = 0 := by omega
  subst this
  injection ht with ht
  subst ht
  constructor <;> simp [go_sem]⟩
/-- one entry appended. -/
theorem app1E {W : World} {B : Nat} {v : Value} {l : List Ent} (h : OE W B v l) (hB : B ≤ W.heap.size) (x : Ent) (hn : l.length + 1 ≤ 4398046511104) :
    ∃ g cap w', (Builtin.append_ #[25, 25] 25 #[v, .slice (some ⟨W.heap.size, 0, none⟩) 1 1]).run Try.prog (W.alloc (.cells #[.int .i64 x.1, .string x.2] 32)) = .ok (.slice (some ⟨g, 0, none⟩) (l.length + 1) cap) w' ∧ OE w' B (.slice (some ⟨g, 0, none⟩) (l.length + 1) cap) (l ++ [x]) ∧ Below B W w' := by
  have b1 : Below W.heap.size W (W.alloc (.cells #[.int .i64 x.1, .string x.2] 32)) := (Below.refl _ W).alloc (Nat.le_refl _) _
  have h1 := h.below b1 (Nat.le_refl _)
  obtain ⟨v', w', hr, ho, hg, _⟩ := appE _ B v l [x] h1 (Nat.le_trans hB b1.size) (some ⟨W.heap.size, 0, none⟩) 1 (enIn_one x W) (by simpa using hn)
  obtain ⟨a, c, e, _, hf⟩ := ho.form
  obtain ⟨g, rfl⟩ := hf (by simp)
  have e2 : (l ++ [x]).length = l.length + 1 := by simp
  rw [e2] at e
  subst e
  exact ⟨g, c, w', hr, ho, below_trans (below_less b1 hB) (grown_belowE h1 (Nat.le_trans hB b1.size) hg)⟩
/-- where the document's Sorted stands. -/
def RS (w : World) (most : Bool) (l : List Ent) (i : Nat) (v : Value) (wr : World) : Prop := OE wr w.heap.size v (rsN most l i) ∧ Below w.heap.size w wr
set_option maxHeartbeats 16000000 in
theorem rsorted_any (most : Bool) (a : Option Addr) (c : Nat) (l : List Ent) (w : World) (h : EnIn w a l) (hn : l.length ≤ 1099511627776) :
    Calls Try.prog 6 #[.bool most, .slice a l.length c] w fun e w' => ∃ v, e = .returned v ∧ OE w' w.heap.size v (srtL most l) ∧ Below w.heap.size w w' := by
  have hH : Hid (EnIn w a l) := h
  have mixed : Try.prog.follows .mixedOrders = true := by kernel_rfl
  have eg : ∀ args w, (callFunc 11 args).run Try.prog w = .ok (.enter 11 args) w := enters_of Try.func11 (by kernel_rfl) rfl
  clear h
  go_enter Try.func6, Try.ntmps6
  go_wp2_with fail
  go_loopw [5, 6] (fun v5 v6 wr => ∃ (i : Nat), v6 = .int .i64 (i : Int) ∧ i ≤ l.length ∧ Hid (RS w most l i v5 wr)) (fun _ v6 _ => l.length - (intOf v6).toNat)
  case atStart => exact ⟨0, rfl, Nat.zero_le _, OE.nil _ _, Below.refl _ _⟩
  case round =>
    obtain ⟨i, rfl, hil, hR⟩ := hrel
    by_cases hi : i < l.length
    · obtain ⟨i0, iI, iw⟩ := nums_i i l.length hi (by omega)
      obtain ⟨o1, bw⟩ := hR.out
      obtain ⟨av, cv, rfl, hcv, hgv⟩ := o1.form
      obtain ⟨b, off, rfl, hbl, hcs⟩ : ∃ b off, a = some ⟨b, off, none⟩ ∧ b < w.heap.size ∧ ∀ i t, l[i]? = some t → w.cell? ⟨b, off + i * 2, none⟩ = some (.int .i64 t.1) ∧ w.cell? ⟨b, off + i * 2 + 1, none⟩ = some (.string t.2) := by
        rcases hH.out with q | q
        · rw [q] at hi; simp at hi
        · exact q
      obtain ⟨p1, p2⟩ := hcs i _ (atE_some hi)
      have rl := rsN_len most l i
      have stp : rsN most l (i + 1) = insP most (rsN most l i) (atE l i) := rfl
      have stpH : Hid _ := stp
      clear stp hcs
      generalize rsN most l i = out at *
      generalize atE l i = x at *
      have inF : Hid (∀ W, Below w.heap.size w W → W.cell? ⟨b, off + i * 2, none⟩ = some (.int .i64 x.1) ∧ W.cell? ⟨b, off + i * 2 + 1, none⟩ = some (.string x.2)) := fun W hW => ⟨by rw [hW.cell (p := ⟨b, off + i * 2, none⟩) hbl]; exact p1, by rw [hW.cell (p := ⟨b, off + i * 2 + 1, none⟩) hbl]; exact p2⟩
      have o1H : Hid (OE wr w.heap.size (.slice av out.length cv) out) := o1
      have bwH : Hid (Below w.heap.size w wr) := bw
      clear p1 p2 o1 bw hR
      have szw := bwH.out.size
      generalize wr = wo at *
      have CA : Hid (∀ t W, Calls Try.prog 11 #[.bool most, .agg #[.int .i64 (atE out t).1, .string (atE out t).2], .agg #[.int .i64 x.1, .string x.2]] W fun e w' => e = .returned (.bool (ahd most (atE out t) x)) ∧ ∃ q os', w' = Sort.grow (W.drewN q) os') := fun t W => rahead_gr most (atE out t) x W
      have cle := cnt_le most x out
      have hout : out.length ≤ 1099511627776 := by omega
      clear rl
      go_wp2_with fail
      go_loopw [7] (fun v7 w2 => ∃ (t : Nat), v7 = .int .i64 (t : Int) ∧ t ≤ cnt most x out ∧ Hid (GR wo w2)) (fun v7 _ => cnt most x out - (intOf v7).toNat)
      case atStart => exact ⟨0, rfl, Nat.zero_le _, GR.refl _⟩
      case round =>
        obtain ⟨t, rfl, htl, hG⟩ := hrel
        have EXIT : Hid (∀ w3, GR wo w3 → t = cnt most x out → OE w3 w.heap.size (.slice av out.length cv) out ∧ Below w.heap.size w w3) := fun w3 g3 _ => ⟨o1H.out.below g3.below (Nat.le_refl _), below_trans bwH.out (below_less g3.below szw)⟩
        by_cases htn : t < out.length
        · obtain ⟨t0, tI, tw⟩ := nums_i t out.length htn (by omega)
          obtain ⟨g, rfl⟩ := hgv (by omega)
          obtain ⟨y0, y1⟩ := o1H.out.at htn
          obtain ⟨q0, q1⟩ := inF.out wo bwH.out
          have gl : g < wo.heap.size := (World.ownsRow.lt o1H.out g rfl).2
          have bl : b < wo.heap.size := by omega
          have k1 : ∀ n os, (Sort.grow (wr.drewN n) os).cell? ⟨g, t * 2, none⟩ = some (.int .i64 (atE out t).1) := fun n os => by rw [(hG.out.trans ⟨n, os, rfl⟩).below.cell (p := ⟨g, t * 2, none⟩) gl]; exact y0
          have k2 : ∀ n os, (Sort.grow (wr.drewN n) os).cell? ⟨g, t * 2 + 1, none⟩ = some (.string (atE out t).2) := fun n os => by rw [(hG.out.trans ⟨n, os, rfl⟩).below.cell (p := ⟨g, t * 2 + 1, none⟩) gl]; exact y1
          have k3 : ∀ n os, (Sort.grow (wr.drewN n) os).cell? ⟨b, off + i * 2, none⟩ = some (.int .i64 x.1) := fun n os => by rw [(hG.out.trans ⟨n, os, rfl⟩).below.cell (p := ⟨b, off + i * 2, none⟩) bl]; exact q0
          have k4 : ∀ n os, (Sort.grow (wr.drewN n) os).cell? ⟨b, off + i * 2 + 1, none⟩ = some (.string x.2) := fun n os => by rw [(hG.out.trans ⟨n, os, rfl⟩).below.cell (p := ⟨b, off + i * 2 + 1, none⟩) bl]; exact q1
          have C1 : Hid _ := fun W => CA.out t W
          have A1 : Hid (t < cnt most x out → ahd most (atE out t) x = true) := fun q => cnt_lt most x out t q
          have A2 : Hid (t = cnt most x out → ahd most (atE out t) x = false) := fun q => by have := cnt_end most x out (by omega); rw [← q] at this; exact this
          generalize ahd most (atE out t) x = bv at C1 A1 A2
          generalize atE out t = y at *
          clear y0 y1 q0 q1 CA
          go_wp2_with fail
          go_quiet_grown (first | (go_at_fn 11; refine Calls.grown_of (C1.out _)))
          have hG2 : Hid (GR wo (Sort.grow (wr.drewN nq) osq)) := hG.out.trans ⟨nq, osq, rfl⟩
          clear k1 k2 k3 k4 C1 hG
          generalize Sort.grow (wr.drewN nq) osq = w3 at *
          by_cases hc : t < cnt most x out
          · have e := A1.out hc
            subst e
            clear A1 A2
            go_wp2_with fail
            exact ⟨⟨t + 1, rfl, hc, hG2⟩, by first | (simp [intOf]; done) | (simp [intOf]; omega)⟩
          · have hte : t = cnt most x out := by omega
            have e := A2.out hte
            subst e
            obtain ⟨o3, b3⟩ := EXIT.out w3 hG2.out hte
            obtain ⟨g4, c4, w4, hr4, o4, b4⟩ := app1E (x := nE) o3 b3.size (by omega)
            have hrH : Hid (∀ W, W = w3.alloc (.cells #[.int .i64 0, .string ⟨#[]⟩] 32) → (Builtin.append_ #[25, 25] 25 #[.slice (some ⟨g, 0, none⟩) out.length cv, .slice (some ⟨w3.heap.size, 0, none⟩) 1 1]).run Try.prog W = .ok (.slice (some ⟨g4, 0, none⟩) (out.length + 1) c4) w4) := fun W e => by subst e; exact hr4
            have o4H : Hid (OE w4 w.heap.size (.slice (some ⟨g4, 0, none⟩) (out.length + 1) c4) (out ++ [nE]) ∧ Below w.heap.size w w4) := ⟨o4, below_trans b3 b4⟩
            have nb := nums_bR out.length (by omega)
            clear hr4 o4 b4 o3 b3 o1H bwH szw EXIT A1 A2 hG2 tw tI t0
            go_wp2_with (at_builtin; refine wpList_append_runE (by rfl) _ _ _ (by rfl) _ _ _ _ (by rfl) (by rfl) (hrH.out _ rfl) ?_)
            clear hrH
            go_loopw [8] (fun v8 w5 => ∃ (k : Nat) (R : List Ent), v8 = .int .i64 (k : Int) ∧ cnt most x out ≤ k ∧ k ≤ out.length ∧ Hid (OE w5 w.heap.size (.slice (some ⟨g4, 0, none⟩) (out.length + 1) c4) R ∧ Below w.heap.size w w5 ∧ SH out k R)) (fun v8 _ => (intOf v8).toNat)
            case atStart => exact ⟨out.length, _, by first | rfl | (rw [nb]), cle, Nat.le_refl _, o4H.out.1, o4H.out.2, SH.start out nE⟩
            case round =>
              clear o4H
              obtain ⟨k, R, rfl, hk1, hk2, hS⟩ := hrel
              obtain ⟨o5, b5, sh⟩ := hS.out
              have hRl := sh.len
              by_cases hk : cnt most x out < k
              · have kw := nums_kR k (by omega) (by omega)
                obtain ⟨c0, c1⟩ := o5.at (i := k - 1) (by omega)
                have z0 := o5.fz (k * 2)
                have z1 := o5.fz (k * 2 + 1)
                obtain ⟨d0, d1⟩ := o5.at (i := k) (by omega)
                have PUT := o5.put (i := k) (by omega) (atE R (k - 1)) b5.size
                have NEXT : Hid (∀ W, W = (wr.setCell ⟨g4, k * 2, none⟩ (.int .i64 (atE R (k - 1)).1)).setCell ⟨g4, k * 2 + 1, none⟩ (.string (atE R (k - 1)).2) → OE W w.heap.size (.slice (some ⟨g4, 0, none⟩) (out.length + 1) c4) (R.set k (atE R (k - 1))) ∧ Below w.heap.size w W ∧ SH out (k - 1) (R.set k (atE R (k - 1)))) := fun W e => by subst e; exact ⟨PUT.1, below_trans b5 PUT.2, sh.step (by omega) hk2⟩
                have i1 : (0 : Int) ≤ (k : Int) := by omega
                have i2 : (k : Int) < ((out.length + 1 : Nat) : Int) := by omega
                have i3 : (0 : Int) ≤ ((k - 1 : Nat) : Int) := by omega
                have i4 : ((k - 1 : Nat) : Int) < ((out.length + 1 : Nat) : Int) := by omega
                have i5 : (k : Int) > ((cnt most x out : Nat) : Int) := by omega
                have hkz : 0 < k := by omega
                clear PUT hS sh o5 b5
                generalize atE R (k - 1) = y at *
                generalize atE R k = y2 at *
                go_wp2_with fail
                exact ⟨⟨k - 1, _, by first | rfl | (rw [kw]), by omega, by omega, NEXT.out _ rfl⟩, by first | (simp [intOf]; done) | (simp [intOf]; omega)⟩
              · have hke : k = cnt most x out := by omega
                subst hke
                obtain ⟨p0, p1⟩ := inF.out wr b5
                have z0 := o5.fz (cnt most x out * 2)
                have z1 := o5.fz (cnt most x out * 2 + 1)
                obtain ⟨d0, d1⟩ := o5.at (i := cnt most x out) (by omega)
                have PUT := o5.put (i := cnt most x out) (by omega) x b5.size
                have e1 : R.set (cnt most x out) x = insP most out x := sh.ends hk2
                have NEXT : Hid (∀ W, W = (wr.setCell ⟨g4, cnt most x out * 2, none⟩ (.int .i64 x.1)).setCell ⟨g4, cnt most x out * 2 + 1, none⟩ (.string x.2) → RS w most l (i + 1) (.slice (some ⟨g4, 0, none⟩) (out.length + 1) c4) W) := fun W e => by
                  subst e
                  refine ⟨?_, below_trans b5 PUT.2⟩
                  have := PUT.1
                  rw [e1, ← stpH.out] at this
                  exact this
                have i1 : (0 : Int) ≤ ((cnt most x out : Nat) : Int) := by omega
                have i2 : ((cnt most x out : Nat) : Int) < ((out.length + 1 : Nat) : Int) := by omega
                have i5 : cnt most x out ≤ out.length := hk2
                clear PUT hS sh o5 b5 e1 stpH inF hk hk1 hk2 hRl htl cle i5
                generalize atE R (cnt most x out) = y2 at *
                generalize cnt most x out = ct at *
                go_wp2_with fail
                exact ⟨⟨i + 1, rfl, hi, NEXT.out _ rfl⟩, by first | (simp [intOf]; done) | (simp [intOf]; omega)⟩
        · have hlt : ¬ (t : Int) < (out.length : Int) := by omega
          have hdr : Hid (∀ nq, GR wo (wr.drewN nq)) := fun nq => hG.out.trans ⟨nq, #[], by rw [Sort.grow_empty]⟩
          clear hG CA
          go_wp2_with fail
          go_quiet (fail)
          have hG2 : Hid (GR wo (wr.drewN nq)) := hdr.out nq
          clear hdr
          generalize wr.drewN nq = w3 at *
          have hte : t = cnt most x out := by omega
          obtain ⟨o3, b3⟩ := EXIT.out w3 hG2.out hte
          clear htn hlt
          obtain ⟨g4, c4, w4, hr4, o4, b4⟩ := app1E (x := nE) o3 b3.size (by omega)
          have hrH : Hid (∀ W, W = w3.alloc (.cells #[.int .i64 0, .string ⟨#[]⟩] 32) → (Builtin.append_ #[25, 25] 25 #[.slice av out.length cv, .slice (some ⟨w3.heap.size, 0, none⟩) 1 1]).run Try.prog W = .ok (.slice (some ⟨g4, 0, none⟩) (out.length + 1) c4) w4) := fun W e => by subst e; exact hr4
          have o4H : Hid (OE w4 w.heap.size (.slice (some ⟨g4, 0, none⟩) (out.length + 1) c4) (out ++ [nE]) ∧ Below w.heap.size w w4) := ⟨o4, below_trans b3 b4⟩
          have nb := nums_bR out.length (by omega)
          clear hr4 o4 b4 o3 b3 hgv o1H bwH szw EXIT hG2
          go_wp2_with (at_builtin; refine wpList_append_runE (by rfl) _ _ _ (by rfl) _ _ _ _ (by rfl) (by rfl) (hrH.out _ rfl) ?_)
          clear hrH
          go_loopw [8] (fun v8 w5 => ∃ (k : Nat) (R : List Ent), v8 = .int .i64 (k : Int) ∧ cnt most x out ≤ k ∧ k ≤ out.length ∧ Hid (OE w5 w.heap.size (.slice (some ⟨g4, 0, none⟩) (out.length + 1) c4) R ∧ Below w.heap.size w w5 ∧ SH out k R)) (fun v8 _ => (intOf v8).toNat)
          case atStart => exact ⟨out.length, _, by first | rfl | (rw [nb]), cle, Nat.le_refl _, o4H.out.1, o4H.out.2, SH.start out nE⟩
          case round =>
            clear o4H
            obtain ⟨k, R, rfl, hk1, hk2, hS⟩ := hrel
            obtain ⟨o5, b5, sh⟩ := hS.out
            have hRl := sh.len
            by_cases hk : cnt most x out < k
            · have kw := nums_kR k (by omega) (by omega)
              obtain ⟨c0, c1⟩ := o5.at (i := k - 1) (by omega)
              have z0 := o5.fz (k * 2)
              have z1 := o5.fz (k * 2 + 1)
              obtain ⟨d0, d1⟩ := o5.at (i := k) (by omega)
              have PUT := o5.put (i := k) (by omega) (atE R (k - 1)) b5.size
              have NEXT : Hid (∀ W, W = (wr.setCell ⟨g4, k * 2, none⟩ (.int .i64 (atE R (k - 1)).1)).setCell ⟨g4, k * 2 + 1, none⟩ (.string (atE R (k - 1)).2) → OE W w.heap.size (.slice (some ⟨g4, 0, none⟩) (out.length + 1) c4) (R.set k (atE R (k - 1))) ∧ Below w.heap.size w W ∧ SH out (k - 1) (R.set k (atE R (k - 1)))) := fun W e => by subst e; exact ⟨PUT.1, below_trans b5 PUT.2, sh.step (by omega) hk2⟩
              have i1 : (0 : Int) ≤ (k : Int) := by omega
              have i2 : (k : Int) < ((out.length + 1 : Nat) : Int) := by omega
              have i3 : (0 : Int) ≤ ((k - 1 : Nat) : Int) := by omega
              have i4 : ((k - 1 : Nat) : Int) < ((out.length + 1 : Nat) : Int) := by omega
              have i5 : (k : Int) > ((cnt most x out : Nat) : Int) := by omega
              have hkz : 0 < k := by omega
              clear PUT hS sh o5 b5
              generalize atE R (k - 1) = y at *
              generalize atE R k = y2 at *
              go_wp2_with fail
              exact ⟨⟨k - 1, _, by first | rfl | (rw [kw]), by omega, by omega, NEXT.out _ rfl⟩, by first | (simp [intOf]; done) | (simp [intOf]; omega)⟩
            · have hke : k = cnt most x out := by omega
              subst hke
              obtain ⟨p0, p1⟩ := inF.out wr b5
              have z0 := o5.fz (cnt most x out * 2)
              have z1 := o5.fz (cnt most x out * 2 + 1)
              obtain ⟨d0, d1⟩ := o5.at (i := cnt most x out) (by omega)
              have PUT := o5.put (i := cnt most x out) (by omega) x b5.size
              have e1 : R.set (cnt most x out) x = insP most out x := sh.ends hk2
              have NEXT : Hid (∀ W, W = (wr.setCell ⟨g4, cnt most x out * 2, none⟩ (.int .i64 x.1)).setCell ⟨g4, cnt most x out * 2 + 1, none⟩ (.string x.2) → RS w most l (i + 1) (.slice (some ⟨g4, 0, none⟩) (out.length + 1) c4) W) := fun W e => by
                subst e
                refine ⟨?_, below_trans b5 PUT.2⟩
                have := PUT.1
                rw [e1, ← stpH.out] at this
                exact this
              have i1 : (0 : Int) ≤ ((cnt most x out : Nat) : Int) := by omega
              have i2 : ((cnt most x out : Nat) : Int) < ((out.length + 1 : Nat) : Int) := by omega
              have i5 : cnt most x out ≤ out.length := hk2
              clear PUT hS sh o5 b5 e1 stpH inF hk hk1 hk2 hRl htl cle i5
              generalize atE R (cnt most x out) = y2 at *
              generalize cnt most x out = ct at *
              go_wp2_with fail
              exact ⟨⟨i + 1, rfl, hi, NEXT.out _ rfl⟩, by first | (simp [intOf]; done) | (simp [intOf]; omega)⟩
    · have hlt : ¬ (i : Int) < (l.length : Int) := by omega
      have e : i = l.length := by omega
      obtain ⟨o1, bw⟩ := hR.out
      rw [e, rsN_srt] at o1
      obtain ⟨av, cv, rfl, _, _⟩ := o1.form
      have fin : Hid (OE wr w.heap.size (.slice av (srtL most l).length cv) (srtL most l) ∧ Below w.heap.size w wr) := ⟨o1, bw⟩
      clear o1 bw hR e
      go_wp2_with fail
      go_ret
      exact ⟨_, rfl, fin.out⟩
end Go.Proofs.Ytaiomfkiiifcbaa.Hp
