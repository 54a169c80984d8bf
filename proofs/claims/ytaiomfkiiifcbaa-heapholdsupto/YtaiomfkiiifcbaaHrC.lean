
import Derived.Test.YtaiomfkiiifcbaaHrB
import Derived.Test.YtaiomfkiiifcbaaHqD
import Derived.Test.YtaiomfkiiifcbaaHqC
namespace Go.Proofs.Ytaiomfkiiifcbaa.Hp
open Go.RowKit Go.Maps
set_option linter.unusedVariables false
set_option linter.unusedSimpArgs false
set_option maxRecDepth 100000
theorem cutA_len {l : List Ent} {i : Nat} (hi : i < l.length) : (cutA l i).length = l.length - 1 := by have := (cutA_perm hi).length_eq; simp at this; omega
theorem stepD_len (k : Int) (e : Ent) (l : List Ent) : (stepD k e l).length ≤ l.length + 1 := by
  unfold stepD
  split
  · split <;> simp
  · rename_i i q
    have := cutA_len (fnd_some q).1
    split
    · omega
    · split <;> simp
theorem inD_len (op : Nat → OpP) : ∀ n, (inD op n).length ≤ n
  | 0 => Nat.le_refl _
  | n + 1 => by have := inD_len op n; have := stepD_len (op n).k (op n).e (inD op n); rw [inD]; omega
theorem EnIn.take {w : World} {a : Option Addr} {l : List Ent} (h : EnIn w a l) (t : Nat) : EnIn w a (l.take t) := by
  rcases h with e | ⟨b, off, e, hb, hc⟩
  · exact Or.inl (by rw [e]; simp)
  · exact Or.inr ⟨b, off, e, hb, fun i s hs => hc i s (by
    rw [List.getElem?_take] at hs
    split at hs
    · exact hs
    · cases hs)⟩
theorem EnIn.drop {w : World} {b off : Nat} {l : List Ent} (h : EnIn w (some ⟨b, off, none⟩) l) (t : Nat) : EnIn w (some ⟨b, off + t * 2, none⟩) (l.drop t) := by
  rcases h with e | ⟨b', off', e, hb, hc⟩
  · exact Or.inl (by rw [e]; simp)
  · injection e with e
    injection e with e1 e2
    subst e1 e2
    refine Or.inr ⟨b, off + t * 2, rfl, hb, fun i s hs => ?_⟩
    rw [List.getElem?_drop] at hs
    have := hc _ s hs
    rw [show off + t * 2 + i * 2 = off + (t + i) * 2 by omega]
    exact this
/-- one entry cut out of a row, by two appends to a new one. -/
theorem cut_two {wr : World} {B g cv t : Nat} {l : List Ent} {ad : Option Addr} (h : OE wr B (.slice (some ⟨g, 0, none⟩) l.length cv) l) (hB : B ≤ wr.heap.size) (ht : t < l.length) (hn : l.length ≤ 1048576) (had : (if cv = t + 1 then some (⟨g, 0, none⟩ : Addr) else some ⟨g, (t + 1) * 2, none⟩) = ad) :
    ∃ v2 w1 v1 w2, (Builtin.append_ #[25, 25] 25 #[.slice (some ⟨wr.heap.size, 0, none⟩) 0 0, .slice (some ⟨g, 0, none⟩) t cv]).run Try.prog (wr.drew.alloc (.cells #[] 32)) = .ok v1 w1 ∧ (Builtin.append_ #[25, 25] 25 #[v1, .slice ad (l.length - (t + 1)) (cv - (t + 1))]).run Try.prog w1 = .ok v2 w2 ∧ OE w2 B v2 (cutA l t) ∧ Below B wr w2 := by
  obtain ⟨W0, hW0⟩ : ∃ W0, W0 = wr.drew := ⟨_, rfl⟩
  have e0 : W0.heap.size = wr.heap.size := by rw [hW0]; rfl
  have bD : Below wr.heap.size wr W0 := by rw [hW0]; exact (Below.refl _ wr).drew
  rw [← hW0]
  have bA : Below wr.heap.size wr (W0.alloc (.cells #[] 32)) := bD.alloc (by omega) _
  have own0 : OE (W0.alloc (.cells #[] 32)) wr.heap.size (.slice (some ⟨wr.heap.size, 0, none⟩) 0 0) [] := by
    have := World.ownsRow_made (e := 32) (size := 2) (base := W0.heap.size) W0 #[] 0 (by simp) (by simp [maxLen]) rfl
    rw [e0] at this
    simpa [OE, encE] using this
  have hin : EnIn wr (some ⟨g, 0, none⟩) l := by
    obtain ⟨a, c, e, _, hi⟩ := h.ein
    injection e with e1 _ _
    rw [e1]
    exact hi
  obtain ⟨v1, w1, r1, o1, g1, _⟩ := appE _ wr.heap.size _ [] (l.take t) own0 (by have := bA.size; omega) (some ⟨g, 0, none⟩) cv ((hin.take t).below bA) (by simp; omega)
  have et : (l.take t).length = t := by simp; omega
  rw [et] at r1
  rw [List.nil_append] at o1
  have b1 : Below wr.heap.size wr w1 := below_trans bA (grown_belowE own0 (by have := bA.size; omega) g1)
  have hin2 : EnIn w1 ad (l.drop (t + 1)) := by
    by_cases c : cv = t + 1
    · obtain ⟨a, c', e, hc, _⟩ := h.form
      injection e with _ _ e3
      exact Or.inl (List.drop_eq_nil_of_le (by omega))
    · rw [if_neg c] at had
      rw [← had]
      have := hin.drop (t + 1)
      rw [Nat.zero_add] at this
      exact this.below b1
  obtain ⟨v2, w2, r2, o2, g2, _⟩ := appE w1 wr.heap.size v1 (l.take t) (l.drop (t + 1)) o1 b1.size ad (cv - (t + 1)) hin2 (by simp; omega)
  have ed : (l.drop (t + 1)).length = l.length - (t + 1) := by simp
  rw [ed] at r2
  exact ⟨v2, w1, v1, w2, r1, r2, o2.less hB, below_less (below_trans b1 (grown_belowE o1 b1.size g2)) hB⟩
theorem encE_rankR (l : List Ent) (i : Nat) (r : Int) (hi : i < l.length) : (encE l).set (i * 2) (.int .i64 r) = encE (l.set i (r, (atE l i).2)) := by
  induction l generalizing i with
  | nil => simp at hi
  | cons a q ih =>
    cases i with
    | zero => simp [encE, atE]
    | succ i =>
      have := ih i (by simpa using hi)
      have e : atE (a :: q) (i + 1) = atE q i := by simp [atE]
      simp only [encE, List.set_cons_succ, e]
      rw [show (i + 1) * 2 = i * 2 + 2 by omega, ← this]
      simp
/-- a row copied, and one rank set. -/
theorem copy_set {wr : World} {B g cv t : Nat} {l : List Ent} (h : OE wr B (.slice (some ⟨g, 0, none⟩) l.length cv) l) (hB : B ≤ wr.heap.size) (ht : t < l.length) (hn : l.length ≤ 1048576) (r : Int) :
    ∃ g' c w1, (Builtin.append_ #[25, 25] 25 #[.slice (some ⟨wr.heap.size, 0, none⟩) 0 0, .slice (some ⟨g, 0, none⟩) l.length cv]).run Try.prog (wr.alloc (.cells #[] 32)) = .ok (.slice (some ⟨g', 0, none⟩) l.length c) w1 ∧ w1.cell? ⟨g', t * 2, none⟩ = some (.int .i64 (atE l t).1) ∧ w1.frozen? ⟨g', t * 2, none⟩ = false ∧ OE (w1.setCell ⟨g', t * 2, none⟩ (.int .i64 r)) B (.slice (some ⟨g', 0, none⟩) l.length c) (l.set t (r, (atE l t).2)) ∧ Below B wr (w1.setCell ⟨g', t * 2, none⟩ (.int .i64 r)) ∧ Below wr.heap.size wr w1 := by
  have bA : Below wr.heap.size wr (wr.alloc (.cells #[] 32)) := (Below.refl _ wr).alloc (Nat.le_refl _) _
  have own0 : OE (wr.alloc (.cells #[] 32)) wr.heap.size (.slice (some ⟨wr.heap.size, 0, none⟩) 0 0) [] := by
    have := World.ownsRow_made (e := 32) (size := 2) (base := wr.heap.size) wr #[] 0 (by simp) (by simp [maxLen]) rfl
    simpa [OE, encE] using this
  have hin : EnIn wr (some ⟨g, 0, none⟩) l := by
    obtain ⟨a, c, e, _, hi⟩ := h.ein
    injection e with e1 _ _
    rw [e1]
    exact hi
  obtain ⟨v1, w1, r1, o1, g1, _⟩ := appE _ wr.heap.size _ [] l own0 bA.size (some ⟨g, 0, none⟩) cv (hin.below bA) (by simp; omega)
  rw [List.nil_append] at o1
  have b1 : Below wr.heap.size wr w1 := below_trans bA (grown_belowE own0 bA.size g1)
  obtain ⟨a, c, e, _, hf⟩ := o1.form
  obtain ⟨g', rfl⟩ := hf (by omega)
  subst e
  have t1 := World.ownsRow.stored o1 (t * 2) (.int .i64 r)
  rw [encE_rankR l t r ht] at t1
  have b2 : Below wr.heap.size w1 (w1.setCell ⟨g', t * 2, none⟩ (.int .i64 r)) := (Below.refl _ w1).grown t1.2 b1.size (fun k e => (o1.bound e).1)
  refine ⟨g', c, w1, r1, (o1.at ht).1, o1.fz _, ?_, below_less (below_trans b1 b2) hB, b1⟩
  have o2 : OE (w1.setCell ⟨g', t * 2, none⟩ (.int .i64 r)) wr.heap.size (.slice (some ⟨g', 0, none⟩) l.length c) (l.set t (r, (atE l t).2)) := by unfold OE; rw [List.length_set]; exact t1.1
  exact o2.less hB
def atI : Option Nat → Int
  | none => -1
  | some i => (i : Int)
/-- where 'in' stands. -/
def IS (w : World) (op : Nat → OpP) (i : Nat) (v : Value) (wr : World) : Prop := OE wr w.heap.size v (inD op i) ∧ Below w.heap.size w wr
set_option maxHeartbeats 16000000 in
theorem in_any (a : Option Addr) (len cap : Nat) (op : Nat → OpP) (w : World) (hop : OpIn w a len op) (hlen : len ≤ 1048576) :
    Calls Try.prog 7 #[.slice a len cap] w fun e w' => ∃ v, e = .returned v ∧ OE w' w.heap.size v (inD op len) ∧ Below w.heap.size w w' := by
  have hopH : Hid (OpIn w a len op) := hop
  have mixed : Try.prog.follows .mixedOrders = true := by kernel_rfl
  clear hop
  go_enter Try.func7, Try.ntmps7
  go_wp2_with fail
  go_loopw [3, 10] (fun v3 v10 wr => ∃ (i : Nat), v10 = .int .i64 (i : Int) ∧ i ≤ len ∧ Hid (IS w op i v3 wr)) (fun _ v10 _ => len - (intOf v10).toNat)
  case atStart => exact ⟨0, rfl, Nat.zero_le _, OE.nil _ _, Below.refl _ _⟩
  case round =>
    obtain ⟨i, rfl, hil, hI⟩ := hrel
    obtain ⟨o1, bw⟩ := hI.out
    have ilen := inD_len op i
    obtain ⟨av, cv, rfl, hcv, hgv⟩ := o1.form
    by_cases hi : i < len
    · obtain ⟨i0, iI, iw⟩ := nums_i i len hi (by omega)
      obtain ⟨b, off, rfl, hbl, hcs⟩ : ∃ b off, a = some ⟨b, off, none⟩ ∧ b < wr.heap.size ∧ ∀ i, i < len → wr.cell? ⟨b, off + i * 6, none⟩ = some (.int .i64 (op i).k) ∧ wr.cell? ⟨b, off + i * 6 + 1, none⟩ = some (.int .i64 (op i).wh) ∧ wr.cell? ⟨b, off + i * 6 + 2, none⟩ = some (.bool (op i).mo) ∧ wr.cell? ⟨b, off + i * 6 + 3, none⟩ = some (.int .i64 (op i).e.1) ∧ wr.cell? ⟨b, off + i * 6 + 4, none⟩ = some (.string (op i).e.2) ∧ wr.cell? ⟨b, off + i * 6 + 5, none⟩ = some (.slice (op i).la (op i).ln (op i).lc) := by
        rcases hopH.out.below bw with q | q
        · omega
        · exact q
      obtain ⟨e0, e1, e2, e3, e4, e5⟩ := hcs i hi
      clear hcs
      have hstep : inD op (i + 1) = stepD (op i).k (op i).e (inD op i) := rfl
      have NX0 : Hid (∀ v W, OE W w.heap.size v (stepD (op i).k (op i).e (inD op i)) → Below w.heap.size w W → IS w op (i + 1) v W) := fun v W g1 g2 => ⟨by rw [hstep]; exact g1, g2⟩
      clear hstep hI
      generalize inD op i = l at *
      generalize op i = o at *
      obtain ⟨k, wh, mo, x, la, ln, lc⟩ := o
      simp only at e0 e1 e2 e3 e4 e5 NX0
      obtain ⟨K, hK⟩ : ∃ K, K = wr.heap.size := ⟨_, rfl⟩
      obtain ⟨W1, hW1⟩ : ∃ W1, W1 = wr.alloc (.cells #[.int .i64 k, .int .i64 wh, .bool mo, .int .i64 x.1, .string x.2, .slice la ln lc] 46) := ⟨_, rfl⟩
      have b1 : Below wr.heap.size wr W1 := by rw [hW1]; exact (Below.refl _ wr).alloc (Nat.le_refl _) _
      have s1 : W1.heap.size = K + 1 := by rw [hW1, hK]; simp
      have f0 : W1.cell? ⟨K, 0, none⟩ = some (.int .i64 k) := by rw [hW1, hK]; simp [go_sem]
      have f3 : W1.cell? ⟨K, 3, none⟩ = some (.int .i64 x.1) := by rw [hW1, hK]; simp [go_sem]
      have f4 : W1.cell? ⟨K, 4, none⟩ = some (.string x.2) := by rw [hW1, hK]; simp [go_sem]
      have o1H : Hid (OE W1 w.heap.size (.slice av l.length cv) l) := o1.below b1 (Nat.le_refl _)
      have bwH : Hid (Below w.heap.size w W1) := below_trans bw (below_less b1 bw.size)
      have KF : Hid (∀ W, GR W1 W → W.cell? ⟨K, 0, none⟩ = some (.int .i64 k) ∧ W.cell? ⟨K, 3, none⟩ = some (.int .i64 x.1) ∧ W.cell? ⟨K, 4, none⟩ = some (.string x.2) ∧ OE W w.heap.size (.slice av l.length cv) l ∧ Below w.heap.size w W) := fun W g => ⟨by rw [g.below.cell (p := ⟨K, 0, none⟩) (by show K < _; omega)]; exact f0, by rw [g.below.cell (p := ⟨K, 3, none⟩) (by show K < _; omega)]; exact f3, by rw [g.below.cell (p := ⟨K, 4, none⟩) (by show K < _; omega)]; exact f4, o1H.out.below g.below (Nat.le_refl _), below_trans bwH.out (below_less g.below bwH.out.size)⟩
      have hW1H : Hid (wr.alloc (.cells #[.int .i64 k, .int .i64 wh, .bool mo, .int .i64 x.1, .string x.2, .slice la ln lc] 46) = W1 ∧ wr.heap.size = K) := ⟨hW1.symm, hK.symm⟩
      have hl : l.length ≤ 1048576 := by omega
      clear o1 bw b1 s1 hW1 hK f0 f3 f4 bwH o1H ilen hil
      go_wp2_with fail
      rw [hW1H.out.1, hW1H.out.2]
      clear hW1H e0 e1 e2 e3 e4 e5
      go_loopw [6, 7] (fun v6 v7 w2 => ∃ (j : Nat), v7 = .int .i64 (j : Int) ∧ j ≤ l.length ∧ v6 = .int .i64 (atI (fndTo l x.2 j)) ∧ Hid (GR W1 w2)) (fun _ v7 _ => l.length - (intOf v7).toNat)
      case atStart => exact ⟨0, rfl, Nat.zero_le _, rfl, GR.refl _⟩
      case round =>
        obtain ⟨j, rfl, hjl, rfl, hG⟩ := hrel
        by_cases hj : j < l.length
        · obtain ⟨j0, jI, jw⟩ := nums_i j l.length hj (by omega)
          obtain ⟨g, rfl⟩ := hgv (by omega)
          obtain ⟨_, _, p4, oo, _⟩ := KF.out wr hG.out
          obtain ⟨_, p1⟩ := oo.at hj
          have hF : fndTo l x.2 (j + 1) = if (atE l j).2 = x.2 then some j else fndTo l x.2 j := rfl
          have hdr : Hid (∀ nq, GR W1 (wr.drewN nq)) := fun nq => hG.out.trans ⟨nq, #[], by rw [Sort.grow_empty]⟩
          generalize fndTo l x.2 j = F at *
          clear oo hG
          by_cases hc : (atE l j).2 = x.2
          · have hF2 : Hid (atI (fndTo l x.2 (j + 1)) = (j : Int)) := by rw [hF, if_pos hc]; rfl
            rw [hc] at p1
            clear hF hc
            go_wp2_with fail
            go_quiet (fail)
            go_wp2_with fail
            exact ⟨⟨j + 1, rfl, hj, by rw [hF2.out], hdr.out nq⟩, by first | (simp [intOf]; done) | (simp [intOf]; omega)⟩
          · have hF2 : Hid (fndTo l x.2 (j + 1) = F) := by show _ = F; rw [hF, if_neg hc]
            have hnt : ¬ (atE l j).2.toList = x.2.toList := fun q => hc (ba_toList q)
            have hnb : ((atE l j).2.toList == x.2.toList) = false := by simpa using hnt
            clear hF hc
            generalize atE l j = y at *
            go_wp2_with fail
            go_quiet (fail)
            go_wp2_with fail
            exact ⟨⟨j + 1, rfl, hj, by rw [hF2.out], hdr.out nq⟩, by first | (simp [intOf]; done) | (simp [intOf]; omega)⟩
        · have hje : j = l.length := by omega
          have hjlt : ¬ (j : Int) < (l.length : Int) := by omega
          obtain ⟨f0, f3, f4, oo, bb⟩ := KF.out wr hG.out
          have hfd : fnd l x.2 = fndTo l x.2 j := by unfold fnd; rw [hje]
          have hstp : stepD k x l = match fnd l x.2 with
            | none => if k = 0 then l ++ [x] else l
            | some i => if k = 1 then cutA l i else if k = 2 then l.set i (x.1, (atE l i).2) else l := rfl
          rw [hfd] at hstp
          have hbd : ∀ t, fndTo l x.2 j = some t → t < l.length := fun t q => (fnd_some (hfd.trans q)).1
          have ooH : Hid (OE wr w.heap.size (.slice av l.length cv) l ∧ Below w.heap.size w wr) := ⟨oo, bb⟩
          clear KF hG hje hfd oo bb
          generalize fndTo l x.2 j = F at *
          generalize stepD k x l = D at *
          cases F with
          | none =>
            have hA : atI none = -1 := rfl
            rw [hA]
            by_cases hk : k = 0
            · subst hk
              simp only [if_true] at hstp
              subst hstp
              obtain ⟨g4, c4, w4, hr4, o4, b4⟩ := app1E (x := x) ooH.out.1 ooH.out.2.size (by omega)
              have hrH : Hid (∀ W, W = wr.alloc (.cells #[.int .i64 x.1, .string x.2] 32) → (Builtin.append_ #[25, 25] 25 #[.slice av l.length cv, .slice (some ⟨wr.heap.size, 0, none⟩) 1 1]).run Try.prog W = .ok (.slice (some ⟨g4, 0, none⟩) (l.length + 1) c4) w4) := fun W e => by subst e; exact hr4
              have NX : Hid (IS w op (i + 1) (.slice (some ⟨g4, 0, none⟩) (l.length + 1) c4) w4) := NX0.out _ _ o4 (below_trans ooH.out.2 b4)
              clear hr4 o4 b4 ooH NX0 hgv hbd hA
              go_wp2_with (at_builtin; refine wpList_append_runE (by rfl) _ _ _ (by rfl) _ _ _ _ (by rfl) (by rfl) (hrH.out _ rfl) ?_)
              exact ⟨⟨i + 1, rfl, hi, NX⟩, by first | (simp [intOf]; done) | (simp [intOf]; omega)⟩
            · simp only [if_neg hk] at hstp
              subst hstp
              have hb0 : (k == 0) = false := by simpa using hk
              have NX : Hid (IS w op (i + 1) (.slice av D.length cv) wr) := NX0.out _ _ ooH.out.1 ooH.out.2
              clear ooH NX0 hgv hbd hA
              by_cases hk1 : k = 1
              · subst hk1
                go_wp2_with fail
                exact ⟨⟨i + 1, rfl, hi, NX⟩, by first | (simp [intOf]; done) | (simp [intOf]; omega)⟩
              · have hb1 : (k == 1) = false := by simpa using hk1
                by_cases hk2 : k = 2
                · subst hk2
                  go_wp2_with fail
                  exact ⟨⟨i + 1, rfl, hi, NX⟩, by first | (simp [intOf]; done) | (simp [intOf]; omega)⟩
                · have hb2 : (k == 2) = false := by simpa using hk2
                  go_wp2_with fail
                  exact ⟨⟨i + 1, rfl, hi, NX⟩, by first | (simp [intOf]; done) | (simp [intOf]; omega)⟩
          | some t =>
            have ht := hbd t rfl
            obtain ⟨t0, tI, tw⟩ := nums_i t l.length ht (by omega)
            obtain ⟨g, rfl⟩ := hgv (by omega)
            have hA : atI (some t) = (t : Int) := rfl
            rw [hA]
            simp only at hstp
            by_cases hk1 : k = 1
            · subst hk1
              simp only [if_true] at hstp
              subst hstp
              clear hA hbd hgv
              have c1 : (t : Int) ≤ (cv : Int) := by omega
              have c2 : ((t + 1 : Nat) : Int) ≤ (l.length : Int) := by omega
              have c3 : (l.length : Int) ≤ (cv : Int) := by omega
              have c4 : (0 : Int) ≤ ((t + 1 : Nat) : Int) := by omega
              have c5 : t ≤ cv := by omega
              have c7 : (t : Int) + 1 ≤ (l.length : Int) := by omega
              have c8 : (0 : Int) ≤ (t : Int) + 1 := by omega
              obtain ⟨ad, had⟩ : ∃ ad, (if cv = t + 1 then some (⟨g, 0, none⟩ : Addr) else some ⟨g, (t + 1) * 2, none⟩) = ad := ⟨_, rfl⟩
              obtain ⟨v2, w1, v1, w2, r1, r2, o2, b2⟩ := cut_two ooH.out.1 ooH.out.2.size ht (by omega) had
              have R1 : Hid (∀ W, W = wr.drew.alloc (.cells #[] 32) → (Builtin.append_ #[25, 25] 25 #[.slice (some ⟨wr.heap.size, 0, none⟩) 0 0, .slice (some ⟨g, 0, none⟩) t cv]).run Try.prog W = .ok v1 w1) := fun W e => by subst e; exact r1
              have R2 : Hid ((Builtin.append_ #[25, 25] 25 #[v1, .slice ad (l.length - (t + 1)) (cv - (t + 1))]).run Try.prog w1 = .ok v2 w2) := r2
              have NX : Hid (IS w op (i + 1) v2 w2) := NX0.out _ _ o2 (below_trans ooH.out.2 b2)
              clear r1 r2 o2 b2 NX0 ooH
              have c6 : t + 1 ≤ l.length := by omega
              go_wp2_with fail
              refine wp_region_noPanic ?_
              refine wp_region_held_drew (S := fun _ => True) (by kernel_rfl) trivial (fun hHeld => ?_)
              refine wpAnyH_take (i := 1) (oi := _) (v := ?_) rfl (by kernel_rfl) (by kernel_rfl) (by kernel_rfl) (fun _ _ _ h => h) (Or.inl ⟨by rfl, ?_⟩) (by assumption) ?_
              rotate_left 1
              · (intro w0 hSw; go_simp; try with_reducible rfl)
              (try simp only [List.getElem_toArray, List.getElem_cons_succ, List.getElem_cons_zero]); (try simp only [Act.put, List.setIfInBounds_toArray, List.set_cons_zero, List.set_cons_succ])
              refine wpAnyH_take (i := 2) (oi := _) (v := ?_) rfl (by kernel_rfl) (by kernel_rfl) (by kernel_rfl) (fun _ _ _ h => h) (Or.inl ⟨by rfl, ?_⟩) (by assumption) ?_
              rotate_left 1
              · (intro w0 hSw; go_simp; try with_reducible rfl)
              (try simp only [List.getElem_toArray, List.getElem_cons_succ, List.getElem_cons_zero]); (try simp only [Act.put, List.setIfInBounds_toArray, List.set_cons_zero, List.set_cons_succ])
              refine wpAnyH_take (i := 3) (oi := _) (v := ?_) rfl (by kernel_rfl) (by kernel_rfl) (by kernel_rfl) (fun _ _ _ h => h) (Or.inl ⟨by rfl, ?_⟩) (by assumption) ?_
              rotate_left 1
              · (intro w0 hSw; go_simp; try with_reducible rfl)
              (try simp only [List.getElem_toArray, List.getElem_cons_succ, List.getElem_cons_zero]); (try simp only [Act.put, List.setIfInBounds_toArray, List.set_cons_zero, List.set_cons_succ])
              refine wpAnyH_take (i := 5) (oi := _) (v := ?_) rfl (by kernel_rfl) (by kernel_rfl) (by kernel_rfl) (fun _ _ _ h => h) (Or.inl ⟨by rfl, ?_⟩) (by assumption) ?_
              rotate_left 1
              · (intro w0 hSw; go_simp; try with_reducible rfl)
              (try simp only [List.getElem_toArray, List.getElem_cons_succ, List.getElem_cons_zero]); (try simp only [Act.put, List.setIfInBounds_toArray, List.set_cons_zero, List.set_cons_succ])
              refine wpAnyH_take (i := 6) (oi := _) (v := ?_) rfl (by kernel_rfl) (by kernel_rfl) (by kernel_rfl) (fun _ _ _ h => h) (Or.inl ⟨by rfl, ?_⟩) (by assumption) ?_
              rotate_left 1
              · (intro w0 hSw; go_simp; try with_reducible rfl)
              (try simp only [List.getElem_toArray, List.getElem_cons_succ, List.getElem_cons_zero]); (try simp only [Act.put, List.setIfInBounds_toArray, List.set_cons_zero, List.set_cons_succ])
              refine wpAnyH_take (i := 7) (oi := _) (v := ?_) rfl (by kernel_rfl) (by kernel_rfl) (by kernel_rfl) (fun _ _ _ h => h) (Or.inl ⟨by rfl, ?_⟩) (by assumption) ?_
              rotate_left 1
              · (intro w0 hSw; go_simp; try with_reducible rfl)
              (try simp only [List.getElem_toArray, List.getElem_cons_succ, List.getElem_cons_zero]); (try simp only [Act.put, List.setIfInBounds_toArray, List.set_cons_zero, List.set_cons_succ])
              refine wpAnyH_take (i := 8) (oi := _) (v := ?_) rfl (by kernel_rfl) (by kernel_rfl) (by kernel_rfl) (fun _ _ _ h => h) (Or.inl ⟨by rfl, ?_⟩) (by assumption) ?_
              rotate_left 1
              · (intro w0 hSw; go_simp; try with_reducible rfl)
              (try simp only [List.getElem_toArray, List.getElem_cons_succ, List.getElem_cons_zero]); (try simp only [Act.put, List.setIfInBounds_toArray, List.set_cons_zero, List.set_cons_succ])
              refine wpAnyH_ready (rs := [0]) (by kernel_rfl) (by simp) ?_
              refine AllReadyH.cons (o := _) rfl (fun K1 hK => ?_) AllReadyH.nil
              go_simp
              try dsimp only
              refine hK _ _ trivial (fun hHeld => ?_)
              clear hK K1
              (try simp only [List.getElem_toArray, List.getElem_cons_succ, List.getElem_cons_zero]); (try simp only [Act.put, List.setIfInBounds_toArray, List.set_cons_zero, List.set_cons_succ])
              refine wpAnyH_ready (rs := [4]) (by kernel_rfl) (by simp) ?_
              refine AllReadyH.cons (o := _) rfl (fun K1 hK => ?_) AllReadyH.nil
              refine step_append_runH rfl (.tmp 51) (.tmp 54) 25 rfl _ _ _ _ rfl rfl (R1.out _ rfl) ?_
              refine hK _ _ trivial (fun hHeld => ?_)
              clear hK K1
              (try simp only [List.getElem_toArray, List.getElem_cons_succ, List.getElem_cons_zero]); (try simp only [Act.put, List.setIfInBounds_toArray, List.set_cons_zero, List.set_cons_succ])
              refine wpAnyH_ready (rs := [9]) (by kernel_rfl) (by simp) ?_
              refine AllReadyH.cons (o := _) rfl (fun K1 hK => ?_) AllReadyH.nil
              refine step_append_runH rfl (.tmp 55) (.tmp 59) 25 rfl _ _ _ _ rfl rfl R2.out ?_
              refine hK _ _ trivial (fun hHeld => ?_)
              clear hK K1
              (try simp only [List.getElem_toArray, List.getElem_cons_succ, List.getElem_cons_zero]); (try simp only [Act.put, List.setIfInBounds_toArray, List.set_cons_zero, List.set_cons_succ])
              refine wpAnyH_take (i := 10) (oi := _) (v := ?_) rfl (by kernel_rfl) (by kernel_rfl) (by kernel_rfl) (fun _ _ _ h => h) (Or.inl ⟨by rfl, ?_⟩) (by assumption) ?_
              rotate_left 1
              · (intro w0 hSw; go_simp; try with_reducible rfl)
              (try simp only [List.getElem_toArray, List.getElem_cons_succ, List.getElem_cons_zero]); (try simp only [Act.put, List.setIfInBounds_toArray, List.set_cons_zero, List.set_cons_succ])
              refine wpAnyH_done (by kernel_rfl) ?_ _
              refine NoPanic.normal ?_
              clear R1 R2 had c1 c2 c3 c4 c5 c6 c7 c8
              go_wp2_with fail
              exact ⟨⟨i + 1, rfl, hi, NX⟩, by first | (simp [intOf]; done) | (simp [intOf]; omega)⟩
            · have hb1 : (k == 1) = false := by simpa using hk1
              simp only [if_neg hk1] at hstp
              by_cases hk2 : k = 2
              · subst hk2
                simp only [if_true] at hstp
                subst hstp
                clear hA hbd hgv hb1
                obtain ⟨g', c', w1, r1, d0, z0, o2, b2, b1⟩ := copy_set ooH.out.1 ooH.out.2.size ht (by omega) x.1
                have kl : K < wr.heap.size := by
                  rcases Nat.lt_or_ge K wr.heap.size with q | q
                  · exact q
                  · simp [World.cell?, Array.getElem?_eq_none q] at f3
                have f3b : w1.cell? ⟨K, 3, none⟩ = some (.int .i64 x.1) := by rw [b1.cell (p := ⟨K, 3, none⟩) kl]; exact f3
                have R1 : Hid (∀ W, W = wr.alloc (.cells #[] 32) → (Builtin.append_ #[25, 25] 25 #[.slice (some ⟨wr.heap.size, 0, none⟩) 0 0, .slice (some ⟨g, 0, none⟩) l.length cv]).run Try.prog W = .ok (.slice (some ⟨g', 0, none⟩) l.length c') w1) := fun W e => by subst e; exact r1
                have NX : Hid (IS w op (i + 1) (.slice (some ⟨g', 0, none⟩) l.length c') (w1.setCell ⟨g', t * 2, none⟩ (.int .i64 x.1))) := NX0.out _ _ o2 (below_trans ooH.out.2 b2)
                clear r1 o2 b2 NX0 ooH b1 kl
                generalize atE l t = y at *
                go_wp2_with (at_builtin; refine wpList_append_runE (by rfl) _ _ _ (by rfl) _ _ _ _ (by rfl) (by rfl) (R1.out _ rfl) ?_)
                exact ⟨⟨i + 1, rfl, hi, NX⟩, by first | (simp [intOf]; done) | (simp [intOf]; omega)⟩
              · have hb2 : (k == 2) = false := by simpa using hk2
                simp only [if_neg hk2] at hstp
                subst hstp
                have NX : Hid (IS w op (i + 1) (.slice (some ⟨g, 0, none⟩) D.length cv) wr) := NX0.out _ _ ooH.out.1 ooH.out.2
                clear ooH NX0 hgv hbd hA
                by_cases hk : k = 0
                · subst hk
                  go_wp2_with fail
                  exact ⟨⟨i + 1, rfl, hi, NX⟩, by first | (simp [intOf]; done) | (simp [intOf]; omega)⟩
                · have hb0 : (k == 0) = false := by simpa using hk
                  go_wp2_with fail
                  exact ⟨⟨i + 1, rfl, hi, NX⟩, by first | (simp [intOf]; done) | (simp [intOf]; omega)⟩
    · have hlt : ¬ (i : Int) < (len : Int) := by omega
      have e : i = len := by omega
      subst e
      have fin : Hid (OE wr w.heap.size (.slice av (inD op i).length cv) (inD op i) ∧ Below w.heap.size w wr) := ⟨o1, bw⟩
      clear o1 bw hI
      go_wp2_with fail
      go_ret
      exact ⟨_, rfl, fin.out⟩
end Go.Proofs.Ytaiomfkiiifcbaa.Hp
