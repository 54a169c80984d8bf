
import Derived.Test.YtaknjkinagppoaaGreatDoorKxA
import Derived.Deep.Cut
namespace Go.Proofs.YtaknjkinagppoaaGreatDoor
open Go.RowKit Go.Shelf
attribute [local go_sem] Oper.semAt_some
set_option linter.unusedVariables false
set_option linter.unusedSimpArgs false
def bdR (l : List UInt8) : Value := match (stopP l).2 with
  | some p => atB p
  | none => bdV (rightN (serP l))
theorem wpList_append_run2 {P : Program} {ops : Array Oper} {rest : List Oper} {o : Oper} {a : Act} {Q : Exit → Act → World → Prop} {w : World} (hgd : o.guard = none) (s x : Operand) (t : TypeId)
    (ho : o.op = .call { callee := .builtin .append, args := #[s, x], argTypes := #[t, t] }) (v y v' : Value) (w' : World) (hs : a.eval s = v) (hx : a.eval x = y) (hr : (Builtin.append_ #[t, t] o.type #[v, y]).run P w = .ok v' w')
    (h : wpList P ops Q rest (a.put o.dst v') w') : wpList P ops Q (o :: rest) a w := by
  refine wpList_plain hgd fun K hK => ?_
  unfold Oper.wp execOp
  simp only [ho, resolve, invoke, builtin, Sem.run_bind, Sem.run_pure, Result.andThen_ok, List.map_toArray, List.map_cons, List.map_nil, hs, hx, hr]
  exact hK _ _ h
theorem atF_none {st : StP} (h : st.2 = none) : atF st = (st.1 : Int) := by unfold atF; rw [if_pos h]
theorem atF_some {st : StP} (h : st.2 ≠ none) : atF st = 0 := by unfold atF; rw [if_neg h]
theorem bC_none : bC none = 0 := rfl
theorem bC_some (p : Int) : bC (some p) = 53 := rfl
theorem word_stay2 {l : List UInt8} {st : StP} (h : st.2 ≠ none) : wordP l st = ([], st) := by unfold wordP; rw [if_neg h]
theorem must_stay2 {l : List UInt8} {c : UInt8} {st : StP} (h : st.2 ≠ none) : mustP l c st = st := by
  unfold mustP
  rw [if_neg (fun e => h (fol_lt e).1)]
  unfold failP
  rw [if_neg h]
/-- what is appended. -/
theorem DX.app {w : World} {N R : Nat} {m f : ByteArray} {v : Value} {acc : List TagP} {fl : Option Int} {X : Nat} {k u : ByteArray} {W : World} (h : DX w N R m f v acc fl X k u W) (hl : acc.length + 1 ≤ 4398046511104) :
    ∃ v' we, (∀ W', W' = W.alloc (.cells #[.string k, .string u] 43) → (Builtin.append_ #[22, 22] 22 #[v, .slice (some ⟨W.heap.size, 0, none⟩) 1 1]).run Tryz.prog W' = .ok v' we) ∧ we.cell? ⟨R, 1, none⟩ = some v ∧ we.frozen? ⟨R, 1, none⟩ = false ∧ DP w N R m f v' (acc ++ [(k, u)]) fl (we.setCell ⟨R, 1, none⟩ v') ∧ ∃ a n c, v' = .slice a n c := by
  have hb : Below W.heap.size W (W.alloc (.cells #[.string k, .string u] 43)) := (Below.refl _ W).alloc (Nat.le_refl _) _
  have KW := h.d.below hb
  have h2 := KW.hN
  have h3 := KW.bq.1
  obtain ⟨v', we, hr, ho, hgw, _⟩ := appT _ (N + 1) v acc [(k, u)] KW.own (by omega) (some ⟨W.heap.size, 0, none⟩) 1 (Or.inr ⟨W.heap.size, 0, rfl, by simp, fun i t ht => by
    cases i with
    | zero => simp at ht; subst ht; exact ⟨by simp [go_sem], by simp [go_sem]⟩
    | succ i => simp at ht⟩) (by simpa using hl)
  have hbw := grown_below KW.own (by omega) hgw
  obtain ⟨a, c, e, _⟩ := ho.tin
  exact ⟨v', we, fun W' e => by subst e; exact hr, by rw [hbw.cell (p := ⟨R, 1, none⟩) (show R < N + 1 by omega)]; exact KW.r.2.1, by rw [hbw.frozen (p := ⟨R, 1, none⟩) (show R < N + 1 by omega)]; exact KW.fz 1 (by omega), KW.rows hgw ho, a, _, c, e⟩
theorem OT.set8 {w : World} {N M0 M1 : Nat} {v a b c d e f g i : Value} {l : List TagP} (h : OT w (N + 1) v l) (h0 : M0 < N + 1) (h1 : M1 < N + 1) : OT ((((((((w.setCell ⟨M0, 0, none⟩ a).setCell ⟨M0, 1, none⟩ b).setCell ⟨M0, 2, none⟩ c).setCell ⟨M1, 0, none⟩ d).setCell ⟨M1, 1, none⟩ e).setCell ⟨M1, 2, none⟩ f).setCell ⟨M1, 3, none⟩ g).setCell ⟨M1, 4, none⟩ i) M0 v l :=
  ((((((((h.grown (grown_set _ M0 0 _) h0).grown (grown_set _ M0 1 _) h0).grown (grown_set _ M0 2 _) h0).grown (grown_set _ M1 0 _) h1).grown (grown_set _ M1 1 _) h1).grown (grown_set _ M1 2 _) h1).grown (grown_set _ M1 3 _) h1).grown (grown_set _ M1 4 _) h1).mono (by omega)
theorem DPN {w : World} {N R : Nat} {m f : ByteArray} {v : Value} {acc : List TagP} {W : World} {n : Int} (h : DP w N R m f v acc none W) : (set5 W N n 0 false).heap[w.heap.size]? = some serO ∧ (set5 W N n 0 false).heap[w.heap.size + 1]? = some bdO ∧ Below w.heap.size w (set5 W N n 0 false) ∧ ((set5 W N n 0 false).cell? ⟨R, 0, none⟩ = some (.string m) ∧ (set5 W N n 0 false).cell? ⟨R, 1, none⟩ = some v ∧ (set5 W N n 0 false).cell? ⟨R, 2, none⟩ = some (.string f)) ∧ OT (set5 W N n 0 false) (N + 1) v acc := by
  have h1 := h.hR
  have h2 := h.hN
  have h3 := h.bq.1
  have hg := set5_grown W N n 0 false
  exact ⟨by rw [hg.block _ (by omega) (by simp; omega)]; exact h.ms, by rw [hg.block _ (by omega) (by simp; omega)]; exact h.mb, h.bl.trans ⟨hg.os, hg.tape, hg.output, hg.size, fun k hk => hg.block k (by omega) (by simp; omega)⟩,
    ⟨by rw [grown_cell hg (p := ⟨R, 0, none⟩) (by simp; omega) (by simp; omega)]; exact h.r.1, by rw [grown_cell hg (p := ⟨R, 1, none⟩) (by simp; omega) (by simp; omega)]; exact h.r.2.1, by rw [grown_cell hg (p := ⟨R, 2, none⟩) (by simp; omega) (by simp; omega)]; exact h.r.2.2⟩, h.own.grown hg (Nat.lt_succ_self _)⟩
set_option maxRecDepth 100000 in
set_option maxHeartbeats 32000000 in
theorem rparse_any (s : ByteArray) (w : World) (hs : s.size ≤ 1048576) :
    Calls Tryz.prog 5 #[.string s] w fun e w' => ∃ v, e = .returned (.tuple #[.agg #[.string (resS s.data.toList).m, v, .string (resS s.data.toList).f], bdR s.data.toList]) ∧ OT w' w.heap.size v (resS s.data.toList).t ∧ Below w.heap.size w w' := by
  obtain ⟨l, hl⟩ : ∃ l, l = s.data.toList := ⟨_, rfl⟩
  have hlen : Hid (l.length = s.size) := by rw [hl]; exact (Lib.size_eq s).symm
  have hP : Hid (∀ k W, k ≤ l.length → Calls Tryz.prog 14 #[.string s, .int .i64 (k : Int)] W fun e w' => e = .returned (.tuple #[.string (ba (wordP l (k, none)).1), .int .i64 (atF (wordP l (k, none)).2), .agg #[.int .i64 (bC (wordP l (k, none)).2.2), .int .i64 (bA (wordP l (k, none)).2.2), .int .i64 0, .bool (bP (wordP l (k, none)).2.2), .bool false]]) ∧ Below W.heap.size W w') := fun k W hk => by
    have := piece_k s k W hs (by rw [← hl]; exact hk)
    rw [bdF_eq, ← hl] at this
    exact this
  have hG : Hid (∀ k (c : UInt8) W, k ≤ l.length → Calls Tryz.prog 15 #[.string s, .int .i64 (k : Int), .int .u8 (c.toNat : Int)] W fun e w' => e = .returned (.tuple #[.int .i64 (atF (mustP l c (k, none))), .agg #[.int .i64 (bC (mustP l c (k, none)).2), .int .i64 (bA (mustP l c (k, none)).2), .int .i64 0, .bool (bP (mustP l c (k, none)).2), .bool false]]) ∧ Below W.heap.size W w') := fun k c W hk => by
    have := sign_k s k c W hs (by rw [← hl]; exact hk)
    rw [bdF_eq, ← hl] at this
    exact this
  have hIx : Hid (∀ k x, l[k]? = some x → k < s.size ∧ ∀ h : k < s.size, s[k]'h = x) := fun k x hx => by
    rw [hl] at hx
    have hk : k < s.size := by rw [Lib.size_eq]; exact (List.getElem?_eq_some_iff.1 hx).1
    refine ⟨hk, fun h => ?_⟩
    have h2 := drop_at s k hk
    have h3 : s.data.toList[k]? = some (s.get! k) := by rw [show s.data.toList[k]? = (s.data.toList.drop k)[0]? by simp, h2]; rfl
    rw [h3] at hx
    exact get_at s k h x (Option.some.inj hx)
  rw [← hl]
  clear hl
  obtain ⟨W0, hW0⟩ : ∃ W0, W0 = ((w.alloc (.cells #[.string ⟨#[]⟩, .slice none 0 0, .string ⟨#[]⟩] 24)).alloc (.cells #[.int .i64 0, .int .i64 0, .int .i64 0, .bool false, .bool false] 31)).alloc (.cells #[.string ⟨#[]⟩, .slice none 0 0, .string ⟨#[]⟩] 24) := ⟨_, rfl⟩
  have b0 : Hid (Below w.heap.size w W0) := by rw [hW0]; exact (((Below.refl _ w).alloc (Nat.le_refl _) _).alloc (by simp) _).alloc (by simp; omega) _
  have z0 : Hid (W0.heap.size = w.heap.size + 3) := by show W0.heap.size = w.heap.size + 3; rw [hW0]; simp
  have m0 : Hid (W0.heap[w.heap.size]? = some serO) := by rw [hW0, Below.heap_alloc _ _ _ (by simp; omega), Below.heap_alloc _ _ _ (by simp)]; exact heap_alloc_new w serO
  have m1 : Hid (W0.heap[w.heap.size + 1]? = some bdO) := by
    show W0.heap[w.heap.size + 1]? = some bdO
    rw [hW0, Below.heap_alloc _ _ _ (by simp)]
    have := heap_alloc_new (w.alloc serO) bdO
    simpa [bdO, serO] using this
  have m2 : Hid (W0.heap[w.heap.size + 1 + 1]? = some serO) := by
    show W0.heap[w.heap.size + 1 + 1]? = some serO
    rw [hW0]
    have := heap_alloc_new ((w.alloc serO).alloc bdO) serO
    simpa [bdO, serO] using this
  have hW0H : Hid (W0 = ((w.alloc (.cells #[.string ⟨#[]⟩, .slice none 0 0, .string ⟨#[]⟩] 24)).alloc (.cells #[.int .i64 0, .int .i64 0, .int .i64 0, .bool false, .bool false] 31)).alloc (.cells #[.string ⟨#[]⟩, .slice none 0 0, .string ⟨#[]⟩] 24)) := hW0
  clear hW0
  go_enter Tryz.func5, Tryz.ntmps5
  go_wp2_with fail
  rw [← hW0H.out]
  refine Calls.mono (hP.out 0 W0 (Nat.zero_le _)) ?_
  rintro e w1 ⟨rfl, B1⟩
  have z1 : w.heap.size + 3 ≤ w1.heap.size := by have := B1.size; rw [z0.out] at this; exact this
  have hD0 : Hid (DP w w1.heap.size (w.heap.size + 1 + 1) (ba (measP l).1) ⟨#[]⟩ (.slice none 0 0) [] (measP l).2.2 ((w1.alloc (.cells #[.int .i64 (bC (measP l).2.2), .int .i64 (bA (measP l).2.2), .int .i64 0, .bool (bP (measP l).2.2), .bool false] 31)).setCell ⟨w.heap.size + 1 + 1, 0, none⟩ (.string (ba (measP l).1)))) :=
    DP.start _ _ w1 (by omega) (by omega) (b0.out.trans (B1.mono (by rw [z0.out]; omega))) (by rw [B1.block _ (by rw [z0.out]; omega)]; exact m0.out) (by rw [B1.block _ (by rw [z0.out]; omega)]; exact m1.out) (by rw [B1.block _ (by rw [z0.out]; omega)]; exact m2.out)
  have hc0 : Hid (w1.heap[w.heap.size + 1 + 1]? = some serO) := by rw [B1.block _ (by rw [z0.out]; omega)]; exact m2.out
  have hml : Hid ((measP l).2.1 ≤ l.length) := measP_le l
  have hmL : Hid (tagsR l (measP l).2 [] = tagsL l) := rfl
  have eM : wordP l (0, none) = measP l := rfl
  rw [eM]
  obtain ⟨mb, hmb⟩ : ∃ mb, mb = ba (measP l).1 := ⟨_, rfl⟩
  obtain ⟨st0, hst0⟩ : ∃ st0, st0 = (measP l).2 := ⟨_, rfl⟩
  have hmbH : Hid (mb = ba (measP l).1) := hmb
  rw [← hst0] at hml hmL hD0
  rw [← hmb] at hD0
  rw [← hmb, ← hst0]
  clear hmb hst0 eM b0 z0 m0 m1 m2 hW0H
  obtain ⟨⟨x0, x1, x2⟩, y0, y1, y2⟩ := ms_cells hc0.out
  have hlt : w.heap.size + 1 + 1 < w1.heap.size := by omega
  have hba : Below w1.heap.size w1 (w1.alloc (.cells #[.int .i64 (bC st0.2), .int .i64 (bA st0.2), .int .i64 0, .bool (bP st0.2), .bool false] 31)) := (Below.refl _ w1).alloc (Nat.le_refl _) _
  have u0 : (w1.alloc (.cells #[.int .i64 (bC st0.2), .int .i64 (bA st0.2), .int .i64 0, .bool (bP st0.2), .bool false] 31)).cell? ⟨w.heap.size + 1 + 1, 0, none⟩ = some (.string ⟨#[]⟩) := by rw [hba.cell (p := ⟨w.heap.size + 1 + 1, 0, none⟩) hlt]; exact x0
  have u1 : (w1.alloc (.cells #[.int .i64 (bC st0.2), .int .i64 (bA st0.2), .int .i64 0, .bool (bP st0.2), .bool false] 31)).frozen? ⟨w.heap.size + 1 + 1, 0, none⟩ = false := by rw [hba.frozen (p := ⟨w.heap.size + 1 + 1, 0, none⟩) hlt]; exact y0
  clear B1 hc0 hba x0 x1 x2 y0 y1 y2 z1 hlt
  go_wp2_with fail
  generalize (w1.alloc (.cells #[.int .i64 (bC st0.2), .int .i64 (bA st0.2), .int .i64 0, .bool (bP st0.2), .bool false] 31)).setCell ⟨w.heap.size + 1 + 1, 0, none⟩ (.string mb) = wL at *
  clear u0 u1
  generalize w1.heap.size = N at *
  generalize w.heap.size + 1 + 1 = R at *
  go_loopg [6, 8] (l.length - st0.1) (fun k x y wr => ∃ st acc v, k = l.length - st.1 ∧ x = .int .i64 (atF st) ∧ Hid (st.1 ≤ l.length) ∧ Hid (acc.length ≤ st.1) ∧ Hid (tagsR l st acc = tagsL l) ∧ Hid (DP w N (R) mb ⟨#[]⟩ v acc st.2 wr))
  case atStart => exact ⟨st0, [], _, rfl, rfl, hml, Nat.zero_le _, hmL, hD0⟩
  case round =>
    obtain ⟨st, acc, v, hgk, rfl, hle, hal, hR, hD⟩ := hrel
    obtain ⟨va0, vc0, ev0, _⟩ := hD.out.own.tin
    subst ev0
    clear hD0 hml hmL
    have hgkH : Hid (gk = l.length - st.1) := hgk
    clear hgk
    obtain ⟨k, fl⟩ := st
    cases hf : folP l 44 (k, fl) with
    | true =>
      obtain ⟨f1, f2, f3⟩ := fol_lt hf
      simp only at f1 f2 f3
      subst f1
      obtain ⟨hks, hx⟩ := hIx.out k 44 f3
      have hsk := hx hks
      have hkI : (k : Int) < (s.size : Int) := by omega
      have eat : atF (k, none) = (k : Int) := atF_none rfl
      rw [eat]
      obtain ⟨_, ⟨c0, _, _, _, _⟩, _⟩ := hD.out.bq
      rw [bC_none] at c0
      have hkb : -9223372036854775808 ≤ (k : Int) + 1 ∧ (k : Int) + 1 ≤ 9223372036854775807 := by omega
      have wk : wrap64 ((k : Int) + 1) = (k : Int) + 1 := IntWalk.wrap64_in _ hkb
      have wi : IntKind.i64.wrap ((k : Int) + 1) = (k : Int) + 1 := IntWalk.i64_in _ hkb
      have hDX : Hid (DX w N (R) mb ⟨#[]⟩ (.slice va0 acc.length vc0) acc none wr.heap.size ⟨#[]⟩ ⟨#[]⟩ (wr.alloc (.cells #[.string ⟨#[]⟩, .string ⟨#[]⟩] 43))) := DX.new hD.out
      have l1 : Hid (k + 1 ≤ l.length) := f2
      have hw1 := wordP_le (l := l) (st := (k + 1, none)) l1.out
      have hm1 := mustP_le (l := l) (c := 61) hw1.2
      have hw2 := wordP_le (l := l) hm1.2
      simp only at hw1
      have hR2 : Hid (tagsR l (wordP l (mustP l 61 (wordP l (k + 1, none)).2)).2 (acc ++ [(ba (wordP l (k + 1, none)).1, ba (wordP l (mustP l 61 (wordP l (k + 1, none)).2)).1)]) = tagsL l) := by
        have h9 := hR.out
        rw [tagsR_step acc hf] at h9
        exact h9
      obtain ⟨t1, ht1⟩ : ∃ t1, t1 = wordP l (k + 1, none) := ⟨_, rfl⟩
      have cP1 : Hid (∀ W, Calls Tryz.prog 14 #[.string s, .int .i64 ((k : Int) + 1)] W fun e w' => e = .returned (.tuple #[.string (ba t1.1), .int .i64 (atF t1.2), .agg #[.int .i64 (bC t1.2.2), .int .i64 (bA t1.2.2), .int .i64 0, .bool (bP t1.2.2), .bool false]]) ∧ Below W.heap.size W w') := fun W => by rw [ht1]; exact hP.out (k + 1) W l1.out
      rw [← ht1] at hR2 hw1 hm1 hw2
      clear ht1 hf f3 hx hkb hR
      obtain ⟨tb, st2⟩ := t1
      obtain ⟨k2, fl2⟩ := st2
      simp only at cP1 hR2 hw1 hm1 hw2
      have hk4 : acc.length ≤ k := hal.out
      have hmeas : ∀ q, k2 ≤ q → q ≤ l.length → l.length - q < l.length - k := fun q h1 h2 => by omega
      have hmH : Hid (∀ q, k2 ≤ q → q ≤ l.length → l.length - q < l.length - k) := hmeas
      have haH : Hid (∀ (t : TagP) q, k2 ≤ q → (acc ++ [t]).length ≤ q) := fun t q h1 => by rw [List.length_append, List.length_singleton]; omega
      have hapH : Hid (acc.length + 1 ≤ 4398046511104) := by have := hlen.out; show acc.length + 1 ≤ 4398046511104; omega
      have hk2l : Hid (k2 ≤ l.length) := hw1.2
      have hm1H : Hid (k2 ≤ (mustP l 61 (k2, fl2)).1 ∧ (mustP l 61 (k2, fl2)).1 ≤ l.length) := hm1
      have hw2H : Hid ((mustP l 61 (k2, fl2)).1 ≤ (wordP l (mustP l 61 (k2, fl2))).2.1 ∧ (wordP l (mustP l 61 (k2, fl2))).2.1 ≤ l.length) := hw2
      clear hmeas hk4 hw1 hm1 hw2 f2 hal hle
      go_wp2_with fail
      refine Calls.mono (cP1.out _) ?_
      rintro e w2 ⟨rfl, B2⟩
      have X2 : Hid (DX w N R mb ⟨#[]⟩ (.slice va0 acc.length vc0) acc none wr.heap.size ⟨#[]⟩ ⟨#[]⟩ w2) := hDX.out.below B2
      clear B2 hDX c0 hD
      generalize wr.heap.size = X at *
      have X3 : Hid (DX w N R mb ⟨#[]⟩ (.slice va0 acc.length vc0) acc fl2 X (ba tb) ⟨#[]⟩ (set5 (w2.setCell ⟨X, 0, none⟩ (.string (ba tb))) N (bC fl2) (bA fl2) (bP fl2))) := (X2.out.setK (ba tb)).setB fl2
      obtain ⟨x0, _⟩ := X2.out.x
      have x0f := X2.out.fx 0 (by omega)
      have nX : X ≠ N := by have := X2.out.hX; omega
      have nN : N ≠ X := Ne.symm nX
      obtain ⟨_, ⟨c0, c1, c2, c3, c4⟩, cf⟩ := X2.out.d.bq
      have g0 := cf 0 (by omega)
      have g1 := cf 1 (by omega)
      have g2 := cf 2 (by omega)
      have g3 := cf 3 (by omega)
      have g4 := cf 4 (by omega)
      rw [bC_none] at c0
      rw [show bA none = 0 from rfl] at c1
      rw [show bP none = false from rfl] at c3
      clear cf X2
      unfold set5 at X3
      cases fl2 with
      | some p =>
        simp only [bC_some, show bA (some p) = p from rfl, show bP (some p) = true from rfl] at cP1 X3 ⊢
        rw [must_stay2 (by simp), word_stay2 (by simp)] at hR2
        go_upto_region 11 with fail
        generalize (((((w2.setCell ⟨X, 0, none⟩ (.string (ba tb))).setCell ⟨N, 0, none⟩ (.int .i64 53)).setCell ⟨N, 1, none⟩ (.int .i64 p)).setCell ⟨N, 2, none⟩ (.int .i64 0)).setCell ⟨N, 3, none⟩ (.bool true)).setCell ⟨N, 4, none⟩ (.bool false) = wx at *
        clear x0 x0f c0 c1 c2 c3 c4 g0 g1 g2 g3 g4
        obtain ⟨v', we, hr6, e1, e2, De, va, vn, vc, ev⟩ := X3.out.app hapH.out
        subst ev
        have DeH : Hid (DP w N R mb ⟨#[]⟩ (.slice va vn vc) (acc ++ [(ba tb, ⟨#[]⟩)]) (some p) (we.setCell ⟨R, 1, none⟩ (.slice va vn vc))) := De
        have hr6H : Hid (∀ W', W' = wx.alloc (.cells #[.string (ba tb), .string ⟨#[]⟩] 43) → (Builtin.append_ #[22, 22] 22 #[.slice va0 acc.length vc0, .slice (some ⟨wx.heap.size, 0, none⟩) 1 1]).run Tryz.prog W' = .ok (.slice va vn vc) we) := hr6
        have r1 := X3.out.d.r.2.1
        have k0' := X3.out.x.1
        have k1' := X3.out.x.2
        have hRt : Hid (tagsR l (k2, some p) (acc ++ [(ba tb, ⟨#[]⟩)]) = tagsL l) := hR2
        clear De X3 hr6 hR2
        go_wp2_with (at_builtin; refine wpList_append_run2 (by rfl) _ _ _ (by rfl) _ _ _ _ (by rfl) (by rfl) (hr6H.out _ rfl) ?_)
        go_roundg (l.length - (k2, some p).1)
        case measure => rw [hgkH.out]; exact hmH.out _ (Nat.le_refl _) (hk2l.out)
        case rel => exact ⟨(k2, some p), acc ++ [(ba tb, ⟨#[]⟩)], .slice va vn vc, rfl, rfl, hk2l.out, haH.out _ _ (Nat.le_refl _), hRt, DeH⟩
      | none =>
        simp only [bC_none, show bA none = 0 from rfl, show bP none = false from rfl] at cP1 X3 ⊢
        have cG : Hid (∀ W, Calls Tryz.prog 15 #[.string s, .int .i64 (k2 : Int), .int .u8 61] W fun e w' => e = .returned (.tuple #[.int .i64 (atF (mustP l 61 (k2, none))), .agg #[.int .i64 (bC (mustP l 61 (k2, none)).2), .int .i64 (bA (mustP l 61 (k2, none)).2), .int .i64 0, .bool (bP (mustP l 61 (k2, none)).2), .bool false]]) ∧ Below W.heap.size W w') := fun W => hG.out k2 61 W hk2l.out
        obtain ⟨st3, hst3⟩ : ∃ st3, mustP l 61 (k2, none) = st3 := ⟨_, rfl⟩
        rw [hst3] at cG hR2 hm1H hw2H
        obtain ⟨k3, fl3⟩ := st3
        simp only at cG hR2 hm1H hw2H
        clear hst3
        have a2 : atF (k2, none) = (k2 : Int) := atF_none rfl
        rw [a2]
        go_upto_region 8 with fail
        generalize (((((w2.setCell ⟨X, 0, none⟩ (.string (ba tb))).setCell ⟨N, 0, none⟩ (.int .i64 0)).setCell ⟨N, 1, none⟩ (.int .i64 0)).setCell ⟨N, 2, none⟩ (.int .i64 0)).setCell ⟨N, 3, none⟩ (.bool false)).setCell ⟨N, 4, none⟩ (.bool false) = wx at *
        clear x0 x0f c0 c1 c2 c3 c4 g0 g1 g2 g3 g4
        go_wp2_with fail
        refine Calls.mono (cG.out _) ?_
        rintro e w4 ⟨rfl, B4⟩
        have X4 : Hid (DX w N R mb ⟨#[]⟩ (.slice va0 acc.length vc0) acc none X (ba tb) ⟨#[]⟩ w4) := X3.out.below B4
        have X5 : Hid (DX w N R mb ⟨#[]⟩ (.slice va0 acc.length vc0) acc fl3 X (ba tb) ⟨#[]⟩ (set5 w4 N (bC fl3) (bA fl3) (bP fl3))) := X4.out.setB fl3
        clear B4 X3
        obtain ⟨_, ⟨c0, c1, c2, c3, c4⟩, cf⟩ := X4.out.d.bq
        have g0 := cf 0 (by omega)
        have g1 := cf 1 (by omega)
        have g2 := cf 2 (by omega)
        have g3 := cf 3 (by omega)
        have g4 := cf 4 (by omega)
        rw [bC_none] at c0
        rw [show bA none = 0 from rfl] at c1
        rw [show bP none = false from rfl] at c3
        clear cf X4
        unfold set5 at X5
        cases fl3 with
        | some p =>
          simp only [bC_some, show bA (some p) = p from rfl, show bP (some p) = true from rfl] at X5 ⊢
          rw [word_stay2 (by simp)] at hR2
          go_upto_region 11 with fail
          generalize ((((w4.setCell ⟨N, 0, none⟩ (.int .i64 53)).setCell ⟨N, 1, none⟩ (.int .i64 p)).setCell ⟨N, 2, none⟩ (.int .i64 0)).setCell ⟨N, 3, none⟩ (.bool true)).setCell ⟨N, 4, none⟩ (.bool false) = wx2 at *
          clear c0 c1 c2 c3 c4 g0 g1 g2 g3 g4
          have X3 := X5
          obtain ⟨v', we, hr6, e1, e2, De, va, vn, vc, ev⟩ := X3.out.app hapH.out
          subst ev
          have DeH : Hid (DP w N R mb ⟨#[]⟩ (.slice va vn vc) (acc ++ [(ba tb, ⟨#[]⟩)]) (some p) (we.setCell ⟨R, 1, none⟩ (.slice va vn vc))) := De
          have hr6H : Hid (∀ W', W' = wx2.alloc (.cells #[.string (ba tb), .string ⟨#[]⟩] 43) → (Builtin.append_ #[22, 22] 22 #[.slice va0 acc.length vc0, .slice (some ⟨wx2.heap.size, 0, none⟩) 1 1]).run Tryz.prog W' = .ok (.slice va vn vc) we) := hr6
          have r1 := X3.out.d.r.2.1
          have k0' := X3.out.x.1
          have k1' := X3.out.x.2
          have hRt : Hid (tagsR l (k3, some p) (acc ++ [(ba tb, ⟨#[]⟩)]) = tagsL l) := hR2
          clear De X3 hr6 hR2
          go_wp2_with (at_builtin; refine wpList_append_run2 (by rfl) _ _ _ (by rfl) _ _ _ _ (by rfl) (by rfl) (hr6H.out _ rfl) ?_)
          go_roundg (l.length - (k3, some p).1)
          case measure => rw [hgkH.out]; exact hmH.out _ (hm1H.out.1) (hm1H.out.2)
          case rel => exact ⟨(k3, some p), acc ++ [(ba tb, ⟨#[]⟩)], .slice va vn vc, rfl, rfl, hm1H.out.2, haH.out _ _ (hm1H.out.1), hRt, DeH⟩
        | none =>
          simp only [bC_none, show bA none = 0 from rfl, show bP none = false from rfl] at X5 ⊢
          have cP2 : Hid (∀ W, Calls Tryz.prog 14 #[.string s, .int .i64 (k3 : Int)] W fun e w' => e = .returned (.tuple #[.string (ba (wordP l (k3, none)).1), .int .i64 (atF (wordP l (k3, none)).2), .agg #[.int .i64 (bC (wordP l (k3, none)).2.2), .int .i64 (bA (wordP l (k3, none)).2.2), .int .i64 0, .bool (bP (wordP l (k3, none)).2.2), .bool false]]) ∧ Below W.heap.size W w') := fun W => hP.out k3 W hm1H.out.2
          obtain ⟨t4, ht4⟩ : ∃ t4, wordP l (k3, none) = t4 := ⟨_, rfl⟩
          rw [ht4] at cP2 hR2 hw2H
          obtain ⟨ub, k4, fl4⟩ := t4
          simp only at cP2 hR2 hw2H
          clear ht4
          have a3 : atF (k3, none) = (k3 : Int) := atF_none rfl
          rw [a3]
          go_upto_region 10 with fail
          generalize ((((w4.setCell ⟨N, 0, none⟩ (.int .i64 0)).setCell ⟨N, 1, none⟩ (.int .i64 0)).setCell ⟨N, 2, none⟩ (.int .i64 0)).setCell ⟨N, 3, none⟩ (.bool false)).setCell ⟨N, 4, none⟩ (.bool false) = wx2 at *
          clear c0 c1 c2 c3 c4 g0 g1 g2 g3 g4
          go_wp2_with fail
          refine Calls.mono (cP2.out _) ?_
          rintro e w6 ⟨rfl, B6⟩
          have X6 : Hid (DX w N R mb ⟨#[]⟩ (.slice va0 acc.length vc0) acc none X (ba tb) ⟨#[]⟩ w6) := X5.out.below B6
          have X3 : Hid (DX w N R mb ⟨#[]⟩ (.slice va0 acc.length vc0) acc fl4 X (ba tb) (ba ub) (set5 (w6.setCell ⟨X, 1, none⟩ (.string (ba ub))) N (bC fl4) (bA fl4) (bP fl4))) := (X6.out.setU (ba ub)).setB fl4
          clear B6 X5
          obtain ⟨_, x1⟩ := X6.out.x
          have x1f := X6.out.fx 1 (by omega)
          obtain ⟨_, ⟨c0, c1, c2, c3, c4⟩, cf⟩ := X6.out.d.bq
          have g0 := cf 0 (by omega)
          have g1 := cf 1 (by omega)
          have g2 := cf 2 (by omega)
          have g3 := cf 3 (by omega)
          have g4 := cf 4 (by omega)
          rw [bC_none] at c0
          rw [show bA none = 0 from rfl] at c1
          rw [show bP none = false from rfl] at c3
          clear cf X6
          unfold set5 at X3
          obtain ⟨cc, hcc⟩ : ∃ cc, bC fl4 = cc := ⟨_, rfl⟩
          obtain ⟨aa, haa⟩ : ∃ aa, bA fl4 = aa := ⟨_, rfl⟩
          obtain ⟨pp, hpp⟩ : ∃ pp, bP fl4 = pp := ⟨_, rfl⟩
          rw [hcc, haa, hpp] at X3
          rw [hcc, haa, hpp]
          clear hcc haa hpp
          go_upto_region 11 with fail
          generalize (((((w6.setCell ⟨X, 1, none⟩ (.string (ba ub))).setCell ⟨N, 0, none⟩ (.int .i64 cc)).setCell ⟨N, 1, none⟩ (.int .i64 aa)).setCell ⟨N, 2, none⟩ (.int .i64 0)).setCell ⟨N, 3, none⟩ (.bool pp)).setCell ⟨N, 4, none⟩ (.bool false) = wx3 at *
          clear x1 x1f c0 c1 c2 c3 c4 g0 g1 g2 g3 g4
          obtain ⟨v', we, hr6, e1, e2, De, va, vn, vc, ev⟩ := X3.out.app hapH.out
          subst ev
          have DeH : Hid (DP w N R mb ⟨#[]⟩ (.slice va vn vc) (acc ++ [(ba tb, (ba ub))]) (fl4) (we.setCell ⟨R, 1, none⟩ (.slice va vn vc))) := De
          have hr6H : Hid (∀ W', W' = wx3.alloc (.cells #[.string (ba tb), .string (ba ub)] 43) → (Builtin.append_ #[22, 22] 22 #[.slice va0 acc.length vc0, .slice (some ⟨wx3.heap.size, 0, none⟩) 1 1]).run Tryz.prog W' = .ok (.slice va vn vc) we) := hr6
          have r1 := X3.out.d.r.2.1
          have k0' := X3.out.x.1
          have k1' := X3.out.x.2
          have hRt : Hid (tagsR l (k4, fl4) (acc ++ [(ba tb, (ba ub))]) = tagsL l) := hR2
          clear De X3 hr6 hR2
          go_wp2_with (at_builtin; refine wpList_append_run2 (by rfl) _ _ _ (by rfl) _ _ _ _ (by rfl) (by rfl) (hr6H.out _ rfl) ?_)
          go_roundg (l.length - (k4, fl4).1)
          case measure => rw [hgkH.out]; exact hmH.out _ (Nat.le_trans hm1H.out.1 hw2H.out.1) (hw2H.out.2)
          case rel => exact ⟨(k4, fl4), acc ++ [(ba tb, (ba ub))], .slice va vn vc, rfl, rfl, hw2H.out.2, haH.out _ _ (Nat.le_trans hm1H.out.1 hw2H.out.1), hRt, DeH⟩
    | false =>
      have hTL : tagsL l = (acc, (k, fl)) := by rw [← hR.out]; exact tagsR_end acc hf hle.out
      have hser : Hid (serP l = ⟨mb, acc, ba (wordP l (mustP l 32 (k, fl))).1⟩) := by
        show _ = _
        unfold serP fieldP; rw [hTL, hmbH.out]
      have hstop : Hid (stopP l = endP l (wordP l (mustP l 32 (k, fl))).2) := by
        show _ = _
        unfold stopP fieldP; rw [hTL]
      have ltN : w.heap.size + 1 < N := by have h1 := hD.out.hR; have h2 := hD.out.hN; omega
      have nm0 : N ≠ w.heap.size := by have h1 := hD.out.hR; have h2 := hD.out.hN; omega
      have nm1 : N ≠ w.heap.size + 1 := by have h1 := hD.out.hR; have h2 := hD.out.hN; omega
      have nm2 : w.heap.size ≠ N := Ne.symm nm0
      have nm3 : w.heap.size + 1 ≠ N := Ne.symm nm1
      have nm4 : w.heap.size ≠ w.heap.size + 1 := by omega
      have nr0 : R ≠ N := by have h2 := hD.out.hN; omega
      have nr1 : N ≠ R := Ne.symm nr0
      have nr2 : R ≠ w.heap.size := by have h1 := hD.out.hR; omega
      have nr3 : R ≠ w.heap.size + 1 := by have h1 := hD.out.hR; omega
      have nr4 : w.heap.size ≠ R := Ne.symm nr2
      have nr5 : w.heap.size + 1 ≠ R := Ne.symm nr3
      cases fl with
      | some p =>
        have hsp : (stopP l).2 = some p := by
          rw [hstop.out, must_stay2 (by simp), word_stay2 (by simp)]
          unfold endP failP
          split <;> simp
        have HB : Hid (bdR l = .agg #[.int .i64 53, .int .i64 p, .int .i64 0, .bool true, .bool false]) := by
          show _ = _
          unfold bdR; rw [hsp]; rfl
        have HS9 : Hid (resS l = ⟨⟨#[]⟩, [], ⟨#[]⟩⟩) := by
          show _ = _
          unfold resS; rw [hsp]; simp
        have a0 : atF (k, some p) = 0 := atF_some (by simp)
        rw [a0]
        clear hf hTL hR hser hstop hsp a0
        have ME : Hid (BQ N 53 p true wr ∧ wr.heap[w.heap.size]? = some serO ∧ wr.heap[w.heap.size + 1]? = some bdO ∧ Below w.heap.size w wr) := ⟨hD.out.bq, hD.out.ms, hD.out.mb, hD.out.bl⟩
        obtain ⟨_, ⟨c0, c1, c2, c3, c4⟩, _⟩ := ME.out.1
        obtain ⟨⟨z0, z1, z2⟩, y0, y1, y2⟩ := ms_cells ME.out.2.1
        obtain ⟨⟨b0, b1, b2, b3, b4⟩, bf⟩ := mb_cells ME.out.2.2.1
        have bf0 := bf 0
        have bf1 := bf 1
        have bf2 := bf 2
        have bf3 := bf 3
        have bf4 := bf 4
        clear bf
        go_wp2_with fail
        go_region
        all_goals
          go_wp2_with fail
          refine bodyPost_ret (v := .tuple #[.agg #[.string ⟨#[]⟩, .slice none 0 0, .string ⟨#[]⟩], .agg #[.int .i64 53, .int .i64 p, .int .i64 0, .bool true, .bool false]]) ?_ rfl ?_
          · simp [results, Tryz.results5, go_sem, z0, z1, z2, b0, b1, b2, b3, b4]
          · rw [HB.out, HS9.out]
            exact ⟨.slice none 0 0, rfl, OT.nil _ _, (setBad (set3 ME.out.2.2.2 (Nat.le_refl _)) (Nat.le_succ _)).drew⟩
      | none =>
        have a0 : atF (k, none) = (k : Int) := atF_none rfl
        rw [a0]
        have cG : Hid (∀ W, Calls Tryz.prog 15 #[.string s, .int .i64 (k : Int), .int .u8 32] W fun e w' => e = .returned (.tuple #[.int .i64 (atF (mustP l 32 (k, none))), .agg #[.int .i64 (bC (mustP l 32 (k, none)).2), .int .i64 (bA (mustP l 32 (k, none)).2), .int .i64 0, .bool (bP (mustP l 32 (k, none)).2), .bool false]]) ∧ Below W.heap.size W w') := fun W => hG.out k 32 W hle.out
        have lm : (mustP l 32 (k, none)).1 ≤ l.length := (mustP_le hle.out).2
        have lw : (wordP l (mustP l 32 (k, none))).2.1 ≤ l.length := (wordP_le lm).2
        obtain ⟨st5, hst5⟩ : ∃ st5, mustP l 32 (k, none) = st5 := ⟨_, rfl⟩
        rw [hst5] at cG hser hstop lm lw
        obtain ⟨k5, fl5⟩ := st5
        simp only at cG hser hstop lm lw
        have Hlm : Hid (k5 ≤ l.length) := lm
        have Hlw : Hid ((wordP l (k5, fl5)).2.1 ≤ l.length) := lw
        clear hst5 a0 lm lw hR hTL
        obtain ⟨_, ⟨c0, _, _, _, _⟩, _⟩ := hD.out.bq
        rw [bC_none] at c0
        have hkl : k ≤ s.size := by have h1 := hle.out; have h2 := hlen.out; simp only at h1; omega
        have hby : (k : Int) < (s.size : Int) → ∃ h : k < s.size, (((s[k]'h).toNat : Int) == 44) = false := by
          intro hI
          have hk : k < s.size := by omega
          refine ⟨hk, ?_⟩
          rw [beq_eq_false_iff_ne]
          intro e
          have hkl2 : k < l.length := by rw [hlen.out]; exact hk
          have h3 := (hIx.out k l[k] (List.getElem?_eq_getElem hkl2)).2 hk
          have h4 : l[k] = 44 := by rw [← h3]; exact UInt8.toNat_inj.1 (by show _ = 44; omega)
          have h5 : folP l 44 (k, none) = true := by
            unfold folP
            simp [List.getElem?_eq_getElem hkl2, h4]
          rw [hf] at h5; simp at h5
        clear hf
        by_cases hks : (k : Int) < (s.size : Int)
        · obtain ⟨hkn, hb44⟩ := hby hks
          go_upto_region 13 with fail
          clear c0
          go_wp2_with fail
          refine Calls.mono (cG.out _) ?_
          rintro e w4 ⟨rfl, B4⟩
          have D4 : Hid (DP w N R mb ⟨#[]⟩ (.slice va0 acc.length vc0) acc none w4) := hD.out.below B4
          have D5 : Hid (DP w N R mb ⟨#[]⟩ (.slice va0 acc.length vc0) acc fl5 (set5 w4 N (bC fl5) (bA fl5) (bP fl5))) := D4.out.setB fl5
          clear B4 hD
          obtain ⟨_, ⟨c0, c1, c2, c3, c4⟩, cf⟩ := D4.out.bq
          have g0 := cf 0 (by omega)
          have g1 := cf 1 (by omega)
          have g2 := cf 2 (by omega)
          have g3 := cf 3 (by omega)
          have g4 := cf 4 (by omega)
          rw [bC_none] at c0
          rw [show bA none = 0 from rfl] at c1
          rw [show bP none = false from rfl] at c3
          clear cf
          clear D4
          unfold set5 at D5
          cases fl5 with
          | some p =>
            simp only [bC_some, show bA (some p) = p from rfl, show bP (some p) = true from rfl] at D5 ⊢
            have hsp : (stopP l).2 = some p := by
              rw [hstop.out, word_stay2 (by simp)]
              unfold endP failP
              split <;> simp
            have HB : Hid (bdR l = .agg #[.int .i64 53, .int .i64 p, .int .i64 0, .bool true, .bool false]) := by
              show _ = _
              unfold bdR; rw [hsp]; rfl
            have HS9 : Hid (resS l = ⟨⟨#[]⟩, [], ⟨#[]⟩⟩) := by
              show _ = _
              unfold resS; rw [hsp]; simp
            have a5 : atF (k5, some p) = 0 := atF_some (by simp)
            rw [a5]
            clear hser hstop hsp a5
            go_upto_region 20 with fail
            generalize ((((w4.setCell ⟨N, 0, none⟩ (.int .i64 53)).setCell ⟨N, 1, none⟩ (.int .i64 p)).setCell ⟨N, 2, none⟩ (.int .i64 0)).setCell ⟨N, 3, none⟩ (.bool true)).setCell ⟨N, 4, none⟩ (.bool false) = wz at *
            clear c0 c1 c2 c3 c4 g0 g1 g2 g3 g4
            have ME : Hid (BQ N 53 p true wz ∧ wz.heap[w.heap.size]? = some serO ∧ wz.heap[w.heap.size + 1]? = some bdO ∧ Below w.heap.size w wz) := ⟨D5.out.bq, D5.out.ms, D5.out.mb, D5.out.bl⟩
            obtain ⟨_, ⟨c0, c1, c2, c3, c4⟩, _⟩ := ME.out.1
            obtain ⟨⟨z0, z1, z2⟩, y0, y1, y2⟩ := ms_cells ME.out.2.1
            obtain ⟨⟨b0, b1, b2, b3, b4⟩, bf⟩ := mb_cells ME.out.2.2.1
            have bf0 := bf 0
            have bf1 := bf 1
            have bf2 := bf 2
            have bf3 := bf 3
            have bf4 := bf 4
            clear bf
            go_wp2_with fail
            go_region
            all_goals
              go_wp2_with fail
              refine bodyPost_ret (v := .tuple #[.agg #[.string ⟨#[]⟩, .slice none 0 0, .string ⟨#[]⟩], .agg #[.int .i64 53, .int .i64 p, .int .i64 0, .bool true, .bool false]]) ?_ rfl ?_
              · simp [results, Tryz.results5, go_sem, z0, z1, z2, b0, b1, b2, b3, b4]
              · rw [HB.out, HS9.out]
                exact ⟨.slice none 0 0, rfl, OT.nil _ _, (setBad (set3 ME.out.2.2.2 (Nat.le_refl _)) (Nat.le_succ _)).drew⟩
          | none =>
            simp only [bC_none, show bA none = 0 from rfl, show bP none = false from rfl] at D5 ⊢
            have a5 : atF (k5, none) = (k5 : Int) := atF_none rfl
            rw [a5]
            have cP2 : Hid (∀ W, Calls Tryz.prog 14 #[.string s, .int .i64 (k5 : Int)] W fun e w' => e = .returned (.tuple #[.string (ba (wordP l (k5, none)).1), .int .i64 (atF (wordP l (k5, none)).2), .agg #[.int .i64 (bC (wordP l (k5, none)).2.2), .int .i64 (bA (wordP l (k5, none)).2.2), .int .i64 0, .bool (bP (wordP l (k5, none)).2.2), .bool false]]) ∧ Below W.heap.size W w') := fun W => hP.out k5 W Hlm.out
            obtain ⟨t6, ht6⟩ : ∃ t6, wordP l (k5, none) = t6 := ⟨_, rfl⟩
            rw [ht6] at cP2 hser hstop Hlw
            obtain ⟨fb, k6, fl6⟩ := t6
            simp only at cP2 hser hstop Hlw
            clear ht6 a5
            go_upto_region 15 with fail
            generalize ((((w4.setCell ⟨N, 0, none⟩ (.int .i64 0)).setCell ⟨N, 1, none⟩ (.int .i64 0)).setCell ⟨N, 2, none⟩ (.int .i64 0)).setCell ⟨N, 3, none⟩ (.bool false)).setCell ⟨N, 4, none⟩ (.bool false) = wx at *
            clear c0 c1 c2 c3 c4 g0 g1 g2 g3 g4
            go_wp2_with fail
            refine Calls.mono (cP2.out _) ?_
            rintro e w6 ⟨rfl, B6⟩
            have D6 : Hid (DP w N R mb ⟨#[]⟩ (.slice va0 acc.length vc0) acc none w6) := D5.out.below B6
            have D7 : Hid (DP w N R mb (ba fb) (.slice va0 acc.length vc0) acc fl6 (set5 (w6.setCell ⟨R, 2, none⟩ (.string (ba fb))) N (bC fl6) (bA fl6) (bP fl6))) := (D6.out.setF (ba fb)).setB fl6
            clear B6 D5
            have r2 := D6.out.r.2.2
            have r2f := D6.out.fz 2 (by omega)
            obtain ⟨_, ⟨c0, c1, c2, c3, c4⟩, cf⟩ := D6.out.bq
            have g0 := cf 0 (by omega)
            have g1 := cf 1 (by omega)
            have g2 := cf 2 (by omega)
            have g3 := cf 3 (by omega)
            have g4 := cf 4 (by omega)
            rw [bC_none] at c0
            rw [show bA none = 0 from rfl] at c1
            rw [show bP none = false from rfl] at c3
            clear cf
            clear D6
            unfold set5 at D7
            cases fl6 with
            | some p =>
              simp only [bC_some, show bA (some p) = p from rfl, show bP (some p) = true from rfl] at D7 ⊢
              have hsp : (stopP l).2 = some p := by
                rw [hstop.out]
                unfold endP failP
                split <;> simp
              have HB : Hid (bdR l = .agg #[.int .i64 53, .int .i64 p, .int .i64 0, .bool true, .bool false]) := by
                show _ = _
                unfold bdR; rw [hsp]; rfl
              have HS9 : Hid (resS l = ⟨⟨#[]⟩, [], ⟨#[]⟩⟩) := by
                show _ = _
                unfold resS; rw [hsp]; simp
              have a6 : atF (k6, some p) = 0 := atF_some (by simp)
              rw [a6]
              clear hser hstop hsp a6
              go_upto_region 20 with fail
              generalize (((((w6.setCell ⟨R, 2, none⟩ (.string (ba fb))).setCell ⟨N, 0, none⟩ (.int .i64 53)).setCell ⟨N, 1, none⟩ (.int .i64 p)).setCell ⟨N, 2, none⟩ (.int .i64 0)).setCell ⟨N, 3, none⟩ (.bool true)).setCell ⟨N, 4, none⟩ (.bool false) = wz at *
              clear c0 c1 c2 c3 c4 g0 g1 g2 g3 g4
              clear r2 r2f
              have ME : Hid (BQ N 53 p true wz ∧ wz.heap[w.heap.size]? = some serO ∧ wz.heap[w.heap.size + 1]? = some bdO ∧ Below w.heap.size w wz) := ⟨D7.out.bq, D7.out.ms, D7.out.mb, D7.out.bl⟩
              obtain ⟨_, ⟨c0, c1, c2, c3, c4⟩, _⟩ := ME.out.1
              obtain ⟨⟨z0, z1, z2⟩, y0, y1, y2⟩ := ms_cells ME.out.2.1
              obtain ⟨⟨b0, b1, b2, b3, b4⟩, bf⟩ := mb_cells ME.out.2.2.1
              have bf0 := bf 0
              have bf1 := bf 1
              have bf2 := bf 2
              have bf3 := bf 3
              have bf4 := bf 4
              clear bf
              go_wp2_with fail
              go_region
              all_goals
                go_wp2_with fail
                refine bodyPost_ret (v := .tuple #[.agg #[.string ⟨#[]⟩, .slice none 0 0, .string ⟨#[]⟩], .agg #[.int .i64 53, .int .i64 p, .int .i64 0, .bool true, .bool false]]) ?_ rfl ?_
                · simp [results, Tryz.results5, go_sem, z0, z1, z2, b0, b1, b2, b3, b4]
                · rw [HB.out, HS9.out]
                  exact ⟨.slice none 0 0, rfl, OT.nil _ _, (setBad (set3 ME.out.2.2.2 (Nat.le_refl _)) (Nat.le_succ _)).drew⟩
            | none =>
              simp only [bC_none, show bA none = 0 from rfl, show bP none = false from rfl] at D7 ⊢
              have a6 : atF (k6, none) = (k6 : Int) := atF_none rfl
              rw [a6]
              clear a6
              by_cases hk6 : k6 < l.length
              · have hsp : (stopP l).2 = some (k6 : Int) := by
                  rw [hstop.out]
                  unfold endP failP
                  simp [hk6]
                have HB : Hid (bdR l = .agg #[.int .i64 53, .int .i64 (k6 : Int), .int .i64 0, .bool true, .bool false]) := by
                  show _ = _
                  unfold bdR; rw [hsp]; rfl
                have HS9 : Hid (resS l = ⟨⟨#[]⟩, [], ⟨#[]⟩⟩) := by
                  show _ = _
                  unfold resS; rw [hsp]; simp
                have hkI : (k6 : Int) < (s.size : Int) := by have h2 := hlen.out; omega
                have cA : Hid (∀ W, Calls Tryz.prog 16 #[.int .i64 (k6 : Int), .int .i64 53] W fun e w' => e = .returned (.agg #[.int .i64 53, .int .i64 (k6 : Int), .int .i64 0, .bool true, .bool false]) ∧ Below W.heap.size W w') := fun W => rat_any (k6 : Int) W
                clear hser hstop hsp
                go_upto_region 17 with fail
                generalize (((((w6.setCell ⟨R, 2, none⟩ (.string (ba fb))).setCell ⟨N, 0, none⟩ (.int .i64 0)).setCell ⟨N, 1, none⟩ (.int .i64 0)).setCell ⟨N, 2, none⟩ (.int .i64 0)).setCell ⟨N, 3, none⟩ (.bool false)).setCell ⟨N, 4, none⟩ (.bool false) = wy at *
                clear c0 c1 c2 c3 c4 g0 g1 g2 g3 g4 r2 r2f
                go_wp2_with fail
                refine Calls.mono (cA.out _) ?_
                rintro e w8 ⟨rfl, B8⟩
                have D8 : Hid (DP w N R mb (ba fb) (.slice va0 acc.length vc0) acc none w8) := D7.out.below B8
                have D9 : Hid (DP w N R mb (ba fb) (.slice va0 acc.length vc0) acc (some (k6 : Int)) (set5 w8 N 53 (k6 : Int) true)) := D8.out.setB (some (k6 : Int))
                clear B8 D7
                obtain ⟨_, ⟨c0, c1, c2, c3, c4⟩, cf⟩ := D8.out.bq
                have g0 := cf 0 (by omega)
                have g1 := cf 1 (by omega)
                have g2 := cf 2 (by omega)
                have g3 := cf 3 (by omega)
                have g4 := cf 4 (by omega)
                rw [bC_none] at c0
                rw [show bA none = 0 from rfl] at c1
                rw [show bP none = false from rfl] at c3
                clear cf
                clear D8
                unfold set5 at D9
                go_upto_region 20 with fail
                generalize ((((w8.setCell ⟨N, 0, none⟩ (.int .i64 53)).setCell ⟨N, 1, none⟩ (.int .i64 (k6 : Int))).setCell ⟨N, 2, none⟩ (.int .i64 0)).setCell ⟨N, 3, none⟩ (.bool true)).setCell ⟨N, 4, none⟩ (.bool false) = wz at *
                clear c0 c1 c2 c3 c4 g0 g1 g2 g3 g4
                have ME : Hid (BQ N 53 (k6 : Int) true wz ∧ wz.heap[w.heap.size]? = some serO ∧ wz.heap[w.heap.size + 1]? = some bdO ∧ Below w.heap.size w wz) := ⟨D9.out.bq, D9.out.ms, D9.out.mb, D9.out.bl⟩
                obtain ⟨_, ⟨c0, c1, c2, c3, c4⟩, _⟩ := ME.out.1
                obtain ⟨⟨z0, z1, z2⟩, y0, y1, y2⟩ := ms_cells ME.out.2.1
                obtain ⟨⟨b0, b1, b2, b3, b4⟩, bf⟩ := mb_cells ME.out.2.2.1
                have bf0 := bf 0
                have bf1 := bf 1
                have bf2 := bf 2
                have bf3 := bf 3
                have bf4 := bf 4
                clear bf
                go_wp2_with fail
                go_region
                all_goals
                  go_wp2_with fail
                  refine bodyPost_ret (v := .tuple #[.agg #[.string ⟨#[]⟩, .slice none 0 0, .string ⟨#[]⟩], .agg #[.int .i64 53, .int .i64 (k6 : Int), .int .i64 0, .bool true, .bool false]]) ?_ rfl ?_
                  · simp [results, Tryz.results5, go_sem, z0, z1, z2, b0, b1, b2, b3, b4]
                  · rw [HB.out, HS9.out]
                    exact ⟨.slice none 0 0, rfl, OT.nil _ _, (setBad (set3 ME.out.2.2.2 (Nat.le_refl _)) (Nat.le_succ _)).drew⟩
              · have hsp : (stopP l).2 = none := by
                  rw [hstop.out]
                  unfold endP
                  rw [if_neg hk6]
                have hkI : ¬ (k6 : Int) < (s.size : Int) := by have h2 := hlen.out; omega
                obtain ⟨n, hn⟩ : ∃ n, rightN ⟨mb, acc, ba fb⟩ = n := ⟨_, rfl⟩
                have hBn : bdR l = bdV n := by unfold bdR; rw [hsp]; simp only; rw [hser.out, hn]
                have hSn : resS l = if n = 0 then ⟨mb, acc, ba fb⟩ else ⟨⟨#[]⟩, [], ⟨#[]⟩⟩ := by
                  unfold resS; rw [hser.out, hn, hsp]; simp
                clear hser hstop hsp
                go_upto_region 19 with fail
                generalize (((((w6.setCell ⟨R, 2, none⟩ (.string (ba fb))).setCell ⟨N, 0, none⟩ (.int .i64 0)).setCell ⟨N, 1, none⟩ (.int .i64 0)).setCell ⟨N, 2, none⟩ (.int .i64 0)).setCell ⟨N, 3, none⟩ (.bool false)).setCell ⟨N, 4, none⟩ (.bool false) = wy at *
                clear c0 c1 c2 c3 c4 g0 g1 g2 g3 g4 r2 r2f
                obtain ⟨r0', r1', r2'⟩ := D7.out.r
                obtain ⟨va, vc, ev, hvc, hti⟩ := D7.out.own.tin
                injection ev with ev1 ev2 ev3
                subst ev1 ev3
                have hbig : acc.length ≤ 9223372036854775807 := by have a1 := hal.out; have a2 := hle.out; have a3 := hlen.out; omega
                have cR : Hid (Calls Tryz.prog 17 #[.agg #[.string mb, .slice va0 acc.length vc0, .string (ba fb)]] wy fun e w' => e = .returned (.agg #[.int .i64 n, .int .i64 0, .int .i64 0, .bool false, .bool false]) ∧ Below wy.heap.size wy w') := by
                  have H := rrightS_any va0 vc0 ⟨mb, acc, ba fb⟩ wy ⟨hti, hbig⟩
                  rw [hn] at H; exact H
                clear hvc hti hbig hn ev2
                go_wp2_with fail
                refine Calls.mono cR.out ?_
                rintro e w8 ⟨rfl, B8⟩
                have D8 : Hid (DP w N R mb (ba fb) (.slice va0 acc.length vc0) acc none w8) := D7.out.below B8
                have Q9 : Hid (BQ N n 0 false (set5 w8 N n 0 false)) := D8.out.bq.set
                have G9 : Hid (w8.grownBy (set5 w8 N n 0 false) (some N)) := set5_grown w8 N n 0 false
                clear B8 D7 cR r0' r1' r2'
                obtain ⟨_, ⟨c0, c1, c2, c3, c4⟩, cf⟩ := D8.out.bq
                have g0 := cf 0 (by omega)
                have g1 := cf 1 (by omega)
                have g2 := cf 2 (by omega)
                have g3 := cf 3 (by omega)
                have g4 := cf 4 (by omega)
                rw [bC_none] at c0
                rw [show bA none = 0 from rfl] at c1
                rw [show bP none = false from rfl] at c3
                clear cf
                have M9 : Hid ((set5 w8 N n 0 false).heap[w.heap.size]? = some serO ∧ (set5 w8 N n 0 false).heap[w.heap.size + 1]? = some bdO ∧ Below w.heap.size w (set5 w8 N n 0 false) ∧ ((set5 w8 N n 0 false).cell? ⟨R, 0, none⟩ = some (.string mb) ∧ (set5 w8 N n 0 false).cell? ⟨R, 1, none⟩ = some (.slice va0 acc.length vc0) ∧ (set5 w8 N n 0 false).cell? ⟨R, 2, none⟩ = some (.string (ba fb))) ∧ OT (set5 w8 N n 0 false) (N + 1) (.slice va0 acc.length vc0) acc) := DPN D8.out
                clear D8
                unfold set5 at Q9 G9 M9
                by_cases h0 : n = 0
                · subst h0
                  rw [if_pos rfl] at hSn
                  have HB : Hid (bdR l = .agg #[.int .i64 0, .int .i64 0, .int .i64 0, .bool false, .bool false]) := hBn
                  have HS9 : Hid (resS l = ⟨mb, acc, ba fb⟩) := hSn
                  clear hBn hSn
                  go_upto_region 22 with fail
                  generalize ((((w8.setCell ⟨N, 0, none⟩ (.int .i64 0)).setCell ⟨N, 1, none⟩ (.int .i64 0)).setCell ⟨N, 2, none⟩ (.int .i64 0)).setCell ⟨N, 3, none⟩ (.bool false)).setCell ⟨N, 4, none⟩ (.bool false) = wz at *
                  clear c0 c1 c2 c3 c4 g0 g1 g2 g3 g4
                  obtain ⟨m1, m2, m3, ⟨q0, q1, q2⟩, m5⟩ := M9.out
                  have HM3 : Hid (Below w.heap.size w wz) := m3
                  have HM5 : Hid (OT wz (N + 1) (.slice va0 acc.length vc0) acc) := m5
                  obtain ⟨⟨z0, z1, z2⟩, y0, y1, y2⟩ := ms_cells m1
                  obtain ⟨⟨b0, b1, b2, b3, b4⟩, bf⟩ := mb_cells m2
                  have bf0 := bf 0
                  have bf1 := bf 1
                  have bf2 := bf 2
                  have bf3 := bf 3
                  have bf4 := bf 4
                  clear bf m1 m2 m3 m5 M9
                  go_wp2_with fail
                  refine bodyPost_ret (v := .tuple #[.agg #[.string mb, .slice va0 acc.length vc0, .string (ba fb)], .agg #[.int .i64 0, .int .i64 0, .int .i64 0, .bool false, .bool false]]) ?_ rfl ?_
                  · simp [results, Tryz.results5, go_sem, z0, z1, z2, b0, b1, b2, b3, b4]
                  · rw [HB.out, HS9.out]
                    exact ⟨.slice va0 acc.length vc0, rfl, OT.set8 HM5.out (by omega) (by omega), setBad (set3 HM3.out (Nat.le_refl _)) (Nat.le_succ _)⟩
                · rw [if_neg h0] at hSn
                  have HB : Hid (bdR l = .agg #[.int .i64 n, .int .i64 0, .int .i64 0, .bool false, .bool false]) := hBn
                  have HS9 : Hid (resS l = ⟨⟨#[]⟩, [], ⟨#[]⟩⟩) := hSn
                  have hnz : (n == 0) = false := by simp [h0]
                  have hnz2 : (n != 0) = true := by simp [h0]
                  clear hBn hSn
                  go_upto_region 21 with fail
                  generalize ((((w8.setCell ⟨N, 0, none⟩ (.int .i64 n)).setCell ⟨N, 1, none⟩ (.int .i64 0)).setCell ⟨N, 2, none⟩ (.int .i64 0)).setCell ⟨N, 3, none⟩ (.bool false)).setCell ⟨N, 4, none⟩ (.bool false) = wz at *
                  clear c0 c1 c2 c3 c4 g0 g1 g2 g3 g4
                  have ME : Hid (BQ N n 0 false wz ∧ wz.heap[w.heap.size]? = some serO ∧ wz.heap[w.heap.size + 1]? = some bdO ∧ Below w.heap.size w wz) := ⟨Q9.out, M9.out.1, M9.out.2.1, M9.out.2.2.1⟩
                  obtain ⟨_, ⟨c0, c1, c2, c3, c4⟩, _⟩ := ME.out.1
                  obtain ⟨⟨z0, z1, z2⟩, y0, y1, y2⟩ := ms_cells ME.out.2.1
                  obtain ⟨⟨b0, b1, b2, b3, b4⟩, bf⟩ := mb_cells ME.out.2.2.1
                  have bf0 := bf 0
                  have bf1 := bf 1
                  have bf2 := bf 2
                  have bf3 := bf 3
                  have bf4 := bf 4
                  clear bf
                  go_wp2_with fail
                  go_region
                  all_goals
                    go_wp2_with fail
                    refine bodyPost_ret (v := .tuple #[.agg #[.string ⟨#[]⟩, .slice none 0 0, .string ⟨#[]⟩], .agg #[.int .i64 n, .int .i64 0, .int .i64 0, .bool false, .bool false]]) ?_ rfl ?_
                    · simp [results, Tryz.results5, go_sem, z0, z1, z2, b0, b1, b2, b3, b4]
                    · rw [HB.out, HS9.out]
                      exact ⟨.slice none 0 0, rfl, OT.nil _ _, (setBad (set3 ME.out.2.2.2 (Nat.le_refl _)) (Nat.le_succ _)).drew⟩
        · clear hby
          go_upto_region 13 with fail
          clear c0
          go_wp2_with fail
          refine Calls.mono (cG.out _) ?_
          rintro e w4 ⟨rfl, B4⟩
          have D4 : Hid (DP w N R mb ⟨#[]⟩ (.slice va0 acc.length vc0) acc none w4) := hD.out.below B4
          have D5 : Hid (DP w N R mb ⟨#[]⟩ (.slice va0 acc.length vc0) acc fl5 (set5 w4 N (bC fl5) (bA fl5) (bP fl5))) := D4.out.setB fl5
          clear B4 hD
          obtain ⟨_, ⟨c0, c1, c2, c3, c4⟩, cf⟩ := D4.out.bq
          have g0 := cf 0 (by omega)
          have g1 := cf 1 (by omega)
          have g2 := cf 2 (by omega)
          have g3 := cf 3 (by omega)
          have g4 := cf 4 (by omega)
          rw [bC_none] at c0
          rw [show bA none = 0 from rfl] at c1
          rw [show bP none = false from rfl] at c3
          clear cf
          clear D4
          unfold set5 at D5
          cases fl5 with
          | some p =>
            simp only [bC_some, show bA (some p) = p from rfl, show bP (some p) = true from rfl] at D5 ⊢
            have hsp : (stopP l).2 = some p := by
              rw [hstop.out, word_stay2 (by simp)]
              unfold endP failP
              split <;> simp
            have HB : Hid (bdR l = .agg #[.int .i64 53, .int .i64 p, .int .i64 0, .bool true, .bool false]) := by
              show _ = _
              unfold bdR; rw [hsp]; rfl
            have HS9 : Hid (resS l = ⟨⟨#[]⟩, [], ⟨#[]⟩⟩) := by
              show _ = _
              unfold resS; rw [hsp]; simp
            have a5 : atF (k5, some p) = 0 := atF_some (by simp)
            rw [a5]
            clear hser hstop hsp a5
            go_upto_region 20 with fail
            generalize ((((w4.setCell ⟨N, 0, none⟩ (.int .i64 53)).setCell ⟨N, 1, none⟩ (.int .i64 p)).setCell ⟨N, 2, none⟩ (.int .i64 0)).setCell ⟨N, 3, none⟩ (.bool true)).setCell ⟨N, 4, none⟩ (.bool false) = wz at *
            clear c0 c1 c2 c3 c4 g0 g1 g2 g3 g4
            have ME : Hid (BQ N 53 p true wz ∧ wz.heap[w.heap.size]? = some serO ∧ wz.heap[w.heap.size + 1]? = some bdO ∧ Below w.heap.size w wz) := ⟨D5.out.bq, D5.out.ms, D5.out.mb, D5.out.bl⟩
            obtain ⟨_, ⟨c0, c1, c2, c3, c4⟩, _⟩ := ME.out.1
            obtain ⟨⟨z0, z1, z2⟩, y0, y1, y2⟩ := ms_cells ME.out.2.1
            obtain ⟨⟨b0, b1, b2, b3, b4⟩, bf⟩ := mb_cells ME.out.2.2.1
            have bf0 := bf 0
            have bf1 := bf 1
            have bf2 := bf 2
            have bf3 := bf 3
            have bf4 := bf 4
            clear bf
            go_wp2_with fail
            go_region
            all_goals
              go_wp2_with fail
              refine bodyPost_ret (v := .tuple #[.agg #[.string ⟨#[]⟩, .slice none 0 0, .string ⟨#[]⟩], .agg #[.int .i64 53, .int .i64 p, .int .i64 0, .bool true, .bool false]]) ?_ rfl ?_
              · simp [results, Tryz.results5, go_sem, z0, z1, z2, b0, b1, b2, b3, b4]
              · rw [HB.out, HS9.out]
                exact ⟨.slice none 0 0, rfl, OT.nil _ _, (setBad (set3 ME.out.2.2.2 (Nat.le_refl _)) (Nat.le_succ _)).drew⟩
          | none =>
            simp only [bC_none, show bA none = 0 from rfl, show bP none = false from rfl] at D5 ⊢
            have a5 : atF (k5, none) = (k5 : Int) := atF_none rfl
            rw [a5]
            have cP2 : Hid (∀ W, Calls Tryz.prog 14 #[.string s, .int .i64 (k5 : Int)] W fun e w' => e = .returned (.tuple #[.string (ba (wordP l (k5, none)).1), .int .i64 (atF (wordP l (k5, none)).2), .agg #[.int .i64 (bC (wordP l (k5, none)).2.2), .int .i64 (bA (wordP l (k5, none)).2.2), .int .i64 0, .bool (bP (wordP l (k5, none)).2.2), .bool false]]) ∧ Below W.heap.size W w') := fun W => hP.out k5 W Hlm.out
            obtain ⟨t6, ht6⟩ : ∃ t6, wordP l (k5, none) = t6 := ⟨_, rfl⟩
            rw [ht6] at cP2 hser hstop Hlw
            obtain ⟨fb, k6, fl6⟩ := t6
            simp only at cP2 hser hstop Hlw
            clear ht6 a5
            go_upto_region 15 with fail
            generalize ((((w4.setCell ⟨N, 0, none⟩ (.int .i64 0)).setCell ⟨N, 1, none⟩ (.int .i64 0)).setCell ⟨N, 2, none⟩ (.int .i64 0)).setCell ⟨N, 3, none⟩ (.bool false)).setCell ⟨N, 4, none⟩ (.bool false) = wx at *
            clear c0 c1 c2 c3 c4 g0 g1 g2 g3 g4
            go_wp2_with fail
            refine Calls.mono (cP2.out _) ?_
            rintro e w6 ⟨rfl, B6⟩
            have D6 : Hid (DP w N R mb ⟨#[]⟩ (.slice va0 acc.length vc0) acc none w6) := D5.out.below B6
            have D7 : Hid (DP w N R mb (ba fb) (.slice va0 acc.length vc0) acc fl6 (set5 (w6.setCell ⟨R, 2, none⟩ (.string (ba fb))) N (bC fl6) (bA fl6) (bP fl6))) := (D6.out.setF (ba fb)).setB fl6
            clear B6 D5
            have r2 := D6.out.r.2.2
            have r2f := D6.out.fz 2 (by omega)
            obtain ⟨_, ⟨c0, c1, c2, c3, c4⟩, cf⟩ := D6.out.bq
            have g0 := cf 0 (by omega)
            have g1 := cf 1 (by omega)
            have g2 := cf 2 (by omega)
            have g3 := cf 3 (by omega)
            have g4 := cf 4 (by omega)
            rw [bC_none] at c0
            rw [show bA none = 0 from rfl] at c1
            rw [show bP none = false from rfl] at c3
            clear cf
            clear D6
            unfold set5 at D7
            cases fl6 with
            | some p =>
              simp only [bC_some, show bA (some p) = p from rfl, show bP (some p) = true from rfl] at D7 ⊢
              have hsp : (stopP l).2 = some p := by
                rw [hstop.out]
                unfold endP failP
                split <;> simp
              have HB : Hid (bdR l = .agg #[.int .i64 53, .int .i64 p, .int .i64 0, .bool true, .bool false]) := by
                show _ = _
                unfold bdR; rw [hsp]; rfl
              have HS9 : Hid (resS l = ⟨⟨#[]⟩, [], ⟨#[]⟩⟩) := by
                show _ = _
                unfold resS; rw [hsp]; simp
              have a6 : atF (k6, some p) = 0 := atF_some (by simp)
              rw [a6]
              clear hser hstop hsp a6
              go_upto_region 20 with fail
              generalize (((((w6.setCell ⟨R, 2, none⟩ (.string (ba fb))).setCell ⟨N, 0, none⟩ (.int .i64 53)).setCell ⟨N, 1, none⟩ (.int .i64 p)).setCell ⟨N, 2, none⟩ (.int .i64 0)).setCell ⟨N, 3, none⟩ (.bool true)).setCell ⟨N, 4, none⟩ (.bool false) = wz at *
              clear c0 c1 c2 c3 c4 g0 g1 g2 g3 g4
              clear r2 r2f
              have ME : Hid (BQ N 53 p true wz ∧ wz.heap[w.heap.size]? = some serO ∧ wz.heap[w.heap.size + 1]? = some bdO ∧ Below w.heap.size w wz) := ⟨D7.out.bq, D7.out.ms, D7.out.mb, D7.out.bl⟩
              obtain ⟨_, ⟨c0, c1, c2, c3, c4⟩, _⟩ := ME.out.1
              obtain ⟨⟨z0, z1, z2⟩, y0, y1, y2⟩ := ms_cells ME.out.2.1
              obtain ⟨⟨b0, b1, b2, b3, b4⟩, bf⟩ := mb_cells ME.out.2.2.1
              have bf0 := bf 0
              have bf1 := bf 1
              have bf2 := bf 2
              have bf3 := bf 3
              have bf4 := bf 4
              clear bf
              go_wp2_with fail
              go_region
              all_goals
                go_wp2_with fail
                refine bodyPost_ret (v := .tuple #[.agg #[.string ⟨#[]⟩, .slice none 0 0, .string ⟨#[]⟩], .agg #[.int .i64 53, .int .i64 p, .int .i64 0, .bool true, .bool false]]) ?_ rfl ?_
                · simp [results, Tryz.results5, go_sem, z0, z1, z2, b0, b1, b2, b3, b4]
                · rw [HB.out, HS9.out]
                  exact ⟨.slice none 0 0, rfl, OT.nil _ _, (setBad (set3 ME.out.2.2.2 (Nat.le_refl _)) (Nat.le_succ _)).drew⟩
            | none =>
              simp only [bC_none, show bA none = 0 from rfl, show bP none = false from rfl] at D7 ⊢
              have a6 : atF (k6, none) = (k6 : Int) := atF_none rfl
              rw [a6]
              clear a6
              by_cases hk6 : k6 < l.length
              · have hsp : (stopP l).2 = some (k6 : Int) := by
                  rw [hstop.out]
                  unfold endP failP
                  simp [hk6]
                have HB : Hid (bdR l = .agg #[.int .i64 53, .int .i64 (k6 : Int), .int .i64 0, .bool true, .bool false]) := by
                  show _ = _
                  unfold bdR; rw [hsp]; rfl
                have HS9 : Hid (resS l = ⟨⟨#[]⟩, [], ⟨#[]⟩⟩) := by
                  show _ = _
                  unfold resS; rw [hsp]; simp
                have hkI : (k6 : Int) < (s.size : Int) := by have h2 := hlen.out; omega
                have cA : Hid (∀ W, Calls Tryz.prog 16 #[.int .i64 (k6 : Int), .int .i64 53] W fun e w' => e = .returned (.agg #[.int .i64 53, .int .i64 (k6 : Int), .int .i64 0, .bool true, .bool false]) ∧ Below W.heap.size W w') := fun W => rat_any (k6 : Int) W
                clear hser hstop hsp
                go_upto_region 17 with fail
                generalize (((((w6.setCell ⟨R, 2, none⟩ (.string (ba fb))).setCell ⟨N, 0, none⟩ (.int .i64 0)).setCell ⟨N, 1, none⟩ (.int .i64 0)).setCell ⟨N, 2, none⟩ (.int .i64 0)).setCell ⟨N, 3, none⟩ (.bool false)).setCell ⟨N, 4, none⟩ (.bool false) = wy at *
                clear c0 c1 c2 c3 c4 g0 g1 g2 g3 g4 r2 r2f
                go_wp2_with fail
                refine Calls.mono (cA.out _) ?_
                rintro e w8 ⟨rfl, B8⟩
                have D8 : Hid (DP w N R mb (ba fb) (.slice va0 acc.length vc0) acc none w8) := D7.out.below B8
                have D9 : Hid (DP w N R mb (ba fb) (.slice va0 acc.length vc0) acc (some (k6 : Int)) (set5 w8 N 53 (k6 : Int) true)) := D8.out.setB (some (k6 : Int))
                clear B8 D7
                obtain ⟨_, ⟨c0, c1, c2, c3, c4⟩, cf⟩ := D8.out.bq
                have g0 := cf 0 (by omega)
                have g1 := cf 1 (by omega)
                have g2 := cf 2 (by omega)
                have g3 := cf 3 (by omega)
                have g4 := cf 4 (by omega)
                rw [bC_none] at c0
                rw [show bA none = 0 from rfl] at c1
                rw [show bP none = false from rfl] at c3
                clear cf
                clear D8
                unfold set5 at D9
                go_upto_region 20 with fail
                generalize ((((w8.setCell ⟨N, 0, none⟩ (.int .i64 53)).setCell ⟨N, 1, none⟩ (.int .i64 (k6 : Int))).setCell ⟨N, 2, none⟩ (.int .i64 0)).setCell ⟨N, 3, none⟩ (.bool true)).setCell ⟨N, 4, none⟩ (.bool false) = wz at *
                clear c0 c1 c2 c3 c4 g0 g1 g2 g3 g4
                have ME : Hid (BQ N 53 (k6 : Int) true wz ∧ wz.heap[w.heap.size]? = some serO ∧ wz.heap[w.heap.size + 1]? = some bdO ∧ Below w.heap.size w wz) := ⟨D9.out.bq, D9.out.ms, D9.out.mb, D9.out.bl⟩
                obtain ⟨_, ⟨c0, c1, c2, c3, c4⟩, _⟩ := ME.out.1
                obtain ⟨⟨z0, z1, z2⟩, y0, y1, y2⟩ := ms_cells ME.out.2.1
                obtain ⟨⟨b0, b1, b2, b3, b4⟩, bf⟩ := mb_cells ME.out.2.2.1
                have bf0 := bf 0
                have bf1 := bf 1
                have bf2 := bf 2
                have bf3 := bf 3
                have bf4 := bf 4
                clear bf
                go_wp2_with fail
                go_region
                all_goals
                  go_wp2_with fail
                  refine bodyPost_ret (v := .tuple #[.agg #[.string ⟨#[]⟩, .slice none 0 0, .string ⟨#[]⟩], .agg #[.int .i64 53, .int .i64 (k6 : Int), .int .i64 0, .bool true, .bool false]]) ?_ rfl ?_
                  · simp [results, Tryz.results5, go_sem, z0, z1, z2, b0, b1, b2, b3, b4]
                  · rw [HB.out, HS9.out]
                    exact ⟨.slice none 0 0, rfl, OT.nil _ _, (setBad (set3 ME.out.2.2.2 (Nat.le_refl _)) (Nat.le_succ _)).drew⟩
              · have hsp : (stopP l).2 = none := by
                  rw [hstop.out]
                  unfold endP
                  rw [if_neg hk6]
                have hkI : ¬ (k6 : Int) < (s.size : Int) := by have h2 := hlen.out; omega
                obtain ⟨n, hn⟩ : ∃ n, rightN ⟨mb, acc, ba fb⟩ = n := ⟨_, rfl⟩
                have hBn : bdR l = bdV n := by unfold bdR; rw [hsp]; simp only; rw [hser.out, hn]
                have hSn : resS l = if n = 0 then ⟨mb, acc, ba fb⟩ else ⟨⟨#[]⟩, [], ⟨#[]⟩⟩ := by
                  unfold resS; rw [hser.out, hn, hsp]; simp
                clear hser hstop hsp
                go_upto_region 19 with fail
                generalize (((((w6.setCell ⟨R, 2, none⟩ (.string (ba fb))).setCell ⟨N, 0, none⟩ (.int .i64 0)).setCell ⟨N, 1, none⟩ (.int .i64 0)).setCell ⟨N, 2, none⟩ (.int .i64 0)).setCell ⟨N, 3, none⟩ (.bool false)).setCell ⟨N, 4, none⟩ (.bool false) = wy at *
                clear c0 c1 c2 c3 c4 g0 g1 g2 g3 g4 r2 r2f
                obtain ⟨r0', r1', r2'⟩ := D7.out.r
                obtain ⟨va, vc, ev, hvc, hti⟩ := D7.out.own.tin
                injection ev with ev1 ev2 ev3
                subst ev1 ev3
                have hbig : acc.length ≤ 9223372036854775807 := by have a1 := hal.out; have a2 := hle.out; have a3 := hlen.out; omega
                have cR : Hid (Calls Tryz.prog 17 #[.agg #[.string mb, .slice va0 acc.length vc0, .string (ba fb)]] wy fun e w' => e = .returned (.agg #[.int .i64 n, .int .i64 0, .int .i64 0, .bool false, .bool false]) ∧ Below wy.heap.size wy w') := by
                  have H := rrightS_any va0 vc0 ⟨mb, acc, ba fb⟩ wy ⟨hti, hbig⟩
                  rw [hn] at H; exact H
                clear hvc hti hbig hn ev2
                go_wp2_with fail
                refine Calls.mono cR.out ?_
                rintro e w8 ⟨rfl, B8⟩
                have D8 : Hid (DP w N R mb (ba fb) (.slice va0 acc.length vc0) acc none w8) := D7.out.below B8
                have Q9 : Hid (BQ N n 0 false (set5 w8 N n 0 false)) := D8.out.bq.set
                have G9 : Hid (w8.grownBy (set5 w8 N n 0 false) (some N)) := set5_grown w8 N n 0 false
                clear B8 D7 cR r0' r1' r2'
                obtain ⟨_, ⟨c0, c1, c2, c3, c4⟩, cf⟩ := D8.out.bq
                have g0 := cf 0 (by omega)
                have g1 := cf 1 (by omega)
                have g2 := cf 2 (by omega)
                have g3 := cf 3 (by omega)
                have g4 := cf 4 (by omega)
                rw [bC_none] at c0
                rw [show bA none = 0 from rfl] at c1
                rw [show bP none = false from rfl] at c3
                clear cf
                have M9 : Hid ((set5 w8 N n 0 false).heap[w.heap.size]? = some serO ∧ (set5 w8 N n 0 false).heap[w.heap.size + 1]? = some bdO ∧ Below w.heap.size w (set5 w8 N n 0 false) ∧ ((set5 w8 N n 0 false).cell? ⟨R, 0, none⟩ = some (.string mb) ∧ (set5 w8 N n 0 false).cell? ⟨R, 1, none⟩ = some (.slice va0 acc.length vc0) ∧ (set5 w8 N n 0 false).cell? ⟨R, 2, none⟩ = some (.string (ba fb))) ∧ OT (set5 w8 N n 0 false) (N + 1) (.slice va0 acc.length vc0) acc) := DPN D8.out
                clear D8
                unfold set5 at Q9 G9 M9
                by_cases h0 : n = 0
                · subst h0
                  rw [if_pos rfl] at hSn
                  have HB : Hid (bdR l = .agg #[.int .i64 0, .int .i64 0, .int .i64 0, .bool false, .bool false]) := hBn
                  have HS9 : Hid (resS l = ⟨mb, acc, ba fb⟩) := hSn
                  clear hBn hSn
                  go_upto_region 22 with fail
                  generalize ((((w8.setCell ⟨N, 0, none⟩ (.int .i64 0)).setCell ⟨N, 1, none⟩ (.int .i64 0)).setCell ⟨N, 2, none⟩ (.int .i64 0)).setCell ⟨N, 3, none⟩ (.bool false)).setCell ⟨N, 4, none⟩ (.bool false) = wz at *
                  clear c0 c1 c2 c3 c4 g0 g1 g2 g3 g4
                  obtain ⟨m1, m2, m3, ⟨q0, q1, q2⟩, m5⟩ := M9.out
                  have HM3 : Hid (Below w.heap.size w wz) := m3
                  have HM5 : Hid (OT wz (N + 1) (.slice va0 acc.length vc0) acc) := m5
                  obtain ⟨⟨z0, z1, z2⟩, y0, y1, y2⟩ := ms_cells m1
                  obtain ⟨⟨b0, b1, b2, b3, b4⟩, bf⟩ := mb_cells m2
                  have bf0 := bf 0
                  have bf1 := bf 1
                  have bf2 := bf 2
                  have bf3 := bf 3
                  have bf4 := bf 4
                  clear bf m1 m2 m3 m5 M9
                  go_wp2_with fail
                  refine bodyPost_ret (v := .tuple #[.agg #[.string mb, .slice va0 acc.length vc0, .string (ba fb)], .agg #[.int .i64 0, .int .i64 0, .int .i64 0, .bool false, .bool false]]) ?_ rfl ?_
                  · simp [results, Tryz.results5, go_sem, z0, z1, z2, b0, b1, b2, b3, b4]
                  · rw [HB.out, HS9.out]
                    exact ⟨.slice va0 acc.length vc0, rfl, OT.set8 HM5.out (by omega) (by omega), setBad (set3 HM3.out (Nat.le_refl _)) (Nat.le_succ _)⟩
                · rw [if_neg h0] at hSn
                  have HB : Hid (bdR l = .agg #[.int .i64 n, .int .i64 0, .int .i64 0, .bool false, .bool false]) := hBn
                  have HS9 : Hid (resS l = ⟨⟨#[]⟩, [], ⟨#[]⟩⟩) := hSn
                  have hnz : (n == 0) = false := by simp [h0]
                  have hnz2 : (n != 0) = true := by simp [h0]
                  clear hBn hSn
                  go_upto_region 21 with fail
                  generalize ((((w8.setCell ⟨N, 0, none⟩ (.int .i64 n)).setCell ⟨N, 1, none⟩ (.int .i64 0)).setCell ⟨N, 2, none⟩ (.int .i64 0)).setCell ⟨N, 3, none⟩ (.bool false)).setCell ⟨N, 4, none⟩ (.bool false) = wz at *
                  clear c0 c1 c2 c3 c4 g0 g1 g2 g3 g4
                  have ME : Hid (BQ N n 0 false wz ∧ wz.heap[w.heap.size]? = some serO ∧ wz.heap[w.heap.size + 1]? = some bdO ∧ Below w.heap.size w wz) := ⟨Q9.out, M9.out.1, M9.out.2.1, M9.out.2.2.1⟩
                  obtain ⟨_, ⟨c0, c1, c2, c3, c4⟩, _⟩ := ME.out.1
                  obtain ⟨⟨z0, z1, z2⟩, y0, y1, y2⟩ := ms_cells ME.out.2.1
                  obtain ⟨⟨b0, b1, b2, b3, b4⟩, bf⟩ := mb_cells ME.out.2.2.1
                  have bf0 := bf 0
                  have bf1 := bf 1
                  have bf2 := bf 2
                  have bf3 := bf 3
                  have bf4 := bf 4
                  clear bf
                  go_wp2_with fail
                  go_region
                  all_goals
                    go_wp2_with fail
                    refine bodyPost_ret (v := .tuple #[.agg #[.string ⟨#[]⟩, .slice none 0 0, .string ⟨#[]⟩], .agg #[.int .i64 n, .int .i64 0, .int .i64 0, .bool false, .bool false]]) ?_ rfl ?_
                    · simp [results, Tryz.results5, go_sem, z0, z1, z2, b0, b1, b2, b3, b4]
                    · rw [HB.out, HS9.out]
                      exact ⟨.slice none 0 0, rfl, OT.nil _ _, (setBad (set3 ME.out.2.2.2 (Nat.le_refl _)) (Nat.le_succ _)).drew⟩
end Go.Proofs.YtaknjkinagppoaaGreatDoor
