
import Derived.Test.YtcpookhnbigkgaaDoorKqA
import Derived.Test.YtcpookhnbigkgaaDoorKyN
import Derived.Test.YtcpookhnbigkgaaDoorKzD
import Derived.Test.YtcpookhnbigkgaaDoorSameD
namespace Go.Proofs.YtcpookhnbigkgaaDoor
open Go.RowKit Go.Shelf
attribute [local go_sem] Oper.semAt_some
set_option linter.unusedVariables false
set_option linter.unusedSimpArgs false
set_option maxRecDepth 100000 in
theorem text_any (s : ByteArray) (w : World) (hT : UT w) : Calls Tryd.prog 10 #[.string s] w fun e w' => e = .returned (erV (cleanB s 256) 51) ∧ Below w.heap.size w w' := by
  have c : Hid (Calls Tryd.prog 23 #[.string s, .int .i64 256] w fun e w' => e = .returned (.bool (cleanB s 256)) ∧ Below w.heap.size w w') := clean_any s 256 w (by omega) hT
  generalize cleanB s 256 = v at c ⊢
  have u : Hid (∀ W, Calls Tryd.prog 22 #[.bool v, .int .i64 51] W fun ev w' => ev = .returned (erV v 51) ∧ Below W.heap.size W w') := fun W => unless_any v 51 (by decide) W
  generalize erV v 51 = r at u ⊢
  go_enter Tryd.func10, Tryd.ntmps10
  go_wp2_with (first | (go_at_call 23; with_reducible refine Calls.mono c.out ?_; rintro e w' ⟨rfl, hb⟩) | (go_at_call 22; with_reducible refine Calls.mono (u.out _) ?_; rintro e w2 ⟨rfl, hb2⟩))
  go_ret
  exact ⟨rfl, hb.trans (hb2.mono hb.size)⟩
set_option maxRecDepth 100000 in
theorem rtext_any (s : ByteArray) (w : World) : Calls Tryd.prog 11 #[.string s] w fun e w' => e = .returned (bdV (if cleanB s 256 then 0 else 51)) ∧ Below w.heap.size w w' := by
  have c : Hid (∀ W, Calls Tryd.prog 26 #[.string s] W fun e w' => e = .returned (.bool (cleanB s 256)) ∧ w' = W) := rtext_is s
  have hB : Below w.heap.size w (w.alloc bdO) := (Below.refl _ w).alloc (Nat.le_refl _) _
  have hN := BdAt.new w
  generalize cleanB s 256 = v at c ⊢
  unfold bdO at hB hN
  go_enter Tryd.func11, Tryd.ntmps11
  go_wp2_with fail
  generalize w.alloc (.cells #[.int .i64 0, .int .i64 0, .int .i64 0, .bool false, .bool false] 33) = w0 at *
  refine Calls.mono (c.out _) ?_
  rintro e w1 ⟨rfl, rfl⟩
  have P1 := hB
  have N1 := hN
  clear hB hN
  cases v with
  | true =>
    obtain ⟨_, b1, b2, b3, b4, b5, g0⟩ := N1
    have g1 := g0 0
    have g2 := g0 1
    have g3 := g0 2
    have g4 := g0 3
    have g5 := g0 4
    clear g0
    go_wp2_with fail
    simp [bodyPost, results, Tryd.results11, go_sem, b1, b2, b3, b4, b5]
    exact ⟨rfl, setBad P1 (Nat.le_refl _)⟩
  | false =>
    go_wp2_with fail
    refine Calls.mono (rnew_any 51 _) ?_
    rintro e w2 ⟨rfl, B2⟩
    have P2 := P1.trans (B2.mono P1.size)
    have N2 := N1.below B2
    clear N1 P1
    unfold bdV
    obtain ⟨_, b1, b2, b3, b4, b5, g0⟩ := N2
    have g1 := g0 0
    have g2 := g0 1
    have g3 := g0 2
    have g4 := g0 3
    have g5 := g0 4
    clear g0
    go_wp2_with fail
    simp [bodyPost, results, Tryd.results11, go_sem, b1, b2, b3, b4, b5]
    exact ⟨rfl, setBad P2 (Nat.le_refl _)⟩
theorem wpList_append_run {P : Program} {ops : Array Oper} {rest : List Oper} {o : Oper} {a : Act} {Q : Exit → Act → World → Prop} {w : World} (hgd : o.guard = none) (s x : Operand) (t : TypeId)
    (ho : o.op = .call { callee := .builtin .append, args := #[s, x], argTypes := #[t, t] }) (v y v' : Value) (w' : World) (hs : a.eval s = v) (hx : a.eval x = y) (hr : (Builtin.append_ #[t, t] o.type #[v, y]).run P w = .ok v' w')
    (h : wpList P ops Q rest (a.put o.dst v') w') : wpList P ops Q (o :: rest) a w := by
  refine wpList_plain hgd fun K hK => ?_
  unfold Oper.wp execOp
  simp only [ho, resolve, invoke, builtin, Sem.run_bind, Sem.run_pure, Result.andThen_ok, List.map_toArray, List.map_cons, List.map_nil, hs, hx, hr]
  exact hK _ _ h
def mkT : TagP := (⟨#[109, 97, 114, 107]⟩, ⟨#[]⟩)
set_option maxRecDepth 100000 in
set_option maxHeartbeats 4000000 in
theorem lent_any (a : Option Addr) (l : List TagP) (c : Nat) (w : World) (hl : l.length ≤ 4398046511000) (ha : TgIn w a l) :
    Calls Tryd.prog 5 #[.slice a l.length c] w fun e w' => ∃ g q, e = .returned (.slice (some ⟨g, 0, none⟩) l.length q) ∧ w.heap.size ≤ g ∧ l.length + 1 ≤ q ∧ TgIn w' (some ⟨g, 0, none⟩) (l ++ [mkT]) ∧ Below w.heap.size w w' := by
  obtain ⟨v1, w1, hr1, ho1, hg1, hv1⟩ := appT w w.heap.size (.slice none 0 0) [] l (OT.nil _ _) (Nat.le_refl _) a c ha (by simp; omega)
  rw [List.nil_append] at ho1
  have b1 : Below w.heap.size w w1 := grown_below (OT.nil w w.heap.size) (Nat.le_refl _) hg1
  have ho2 : OT (w1.alloc (.cells #[.string ⟨#[109, 97, 114, 107]⟩, .string ⟨#[]⟩] 47)) w.heap.size v1 l := ho1.below ((Below.refl _ w1).alloc (Nat.le_refl _) _) (Nat.le_refl _)
  obtain ⟨v2, w2, hr2, ho3, hg2, hv2⟩ := appT _ w.heap.size v1 l [mkT] ho2 (by have := b1.size; simp; omega) (some ⟨w1.heap.size, 0, none⟩) 1 (Or.inr ⟨w1.heap.size, 0, rfl, by simp, fun i t ht => by
    cases i with
    | zero => simp at ht; subst ht; exact ⟨by simp [go_sem, mkT], by simp [go_sem, mkT]⟩
    | succ i => simp at ht⟩) (by simp; omega)
  have b2 : Below w.heap.size w w2 := (b1.alloc b1.size _).trans (grown_below ho2 (by have := b1.size; simp; omega) hg2)
  obtain ⟨a1, c1, e1, _, _⟩ := ho1.tin
  obtain ⟨a2, c2, e2, hc2, ht2⟩ := ho3.tin
  have e3 : ∃ g, a2 = some ⟨g, 0, none⟩ ∧ w.heap.size ≤ g := by
    rcases World.ownsRow.form ho3 (by simp) with ⟨g, cap, e, hB, _⟩
    rw [e2] at e
    injection e with e
    exact ⟨g, e, hB⟩
  obtain ⟨g, rfl, hgB⟩ := e3
  subst e1 e2
  rw [List.length_append, List.length_singleton] at hr2 hc2
  have hr1H : Hid (∀ W, W = w → (Builtin.append_ #[22, 22] 22 #[.slice none 0 0, .slice a l.length c]).run Tryd.prog W = .ok (.slice a1 l.length c1) w1) := fun W e => by subst e; exact hr1
  have hr2H : Hid (∀ W, W = w1.alloc (.cells #[.string ⟨#[109, 97, 114, 107]⟩, .string ⟨#[]⟩] 47) → (Builtin.append_ #[22, 22] 22 #[.slice a1 l.length c1, .slice (some ⟨w1.heap.size, 0, none⟩) 1 1]).run Tryd.prog W = .ok (.slice (some ⟨g, 0, none⟩) (l.length + 1) c2) w2) := fun W e => by subst e; exact hr2
  have hfin : Hid (w.heap.size ≤ g ∧ l.length + 1 ≤ c2 ∧ TgIn w2 (some ⟨g, 0, none⟩) (l ++ [mkT]) ∧ Below w.heap.size w w2) := ⟨hgB, hc2, ht2, b2⟩
  have hlI : (l.length : Int) ≤ (c2 : Int) := by omega
  have hl0 : (0 : Int) ≤ (l.length : Int) := by omega
  clear hgB hr1 hr2 ho1 ho2 ho3 hg1 hg2 hv1 hv2 b1 b2 hc2 ht2 ha hl
  generalize l.length = n at *
  go_enter Tryd.func5, Tryd.ntmps5
  go_wp2_with (first | (at_builtin; refine wpList_append_run (by rfl) _ _ _ (by rfl) _ _ _ _ (by rfl) (by rfl) (hr1H.out _ rfl) ?_) | (at_builtin; refine wpList_append_run (by rfl) _ _ _ (by rfl) _ _ _ _ (by rfl) (by rfl) (hr2H.out _ rfl) ?_))
  go_ret
  exact ⟨g, c2, rfl, hfin.out⟩
set_option maxRecDepth 100000 in
theorem sameTags_any (a b : Option Addr) (l : List TagP) (c1 c2 : Nat) (w : World) (hl : l.length ≤ 9223372036854775807) (ha : TgIn w a l) (hb : TgIn w b l) :
    Calls Tryd.prog 32 #[.slice a l.length c1, .slice b l.length c2] w fun e w' => e = .returned (.bool true) ∧ Below w.heap.size w w' := by
  have c := ctags_any a b l l c1 c2 w hl hl ha hb
  rw [show tagsC l l = 0 from (tagsC_is.zero l l).2 rfl] at c
  have cH : Hid (Calls Tryd.prog 51 #[.slice a l.length c1, .slice b l.length c2] w fun e w' => e = .returned (.int .i64 0) ∧ Below w.heap.size w w') := c
  clear c ha hb hl
  generalize l.length = n at *
  go_enter Tryd.func32, Tryd.ntmps32
  go_wp2_with fail
  refine Calls.mono cH.out ?_
  rintro e w1 ⟨rfl, hb1⟩
  go_wp2_with fail
  go_ret
  exact ⟨rfl, hb1⟩
theorem TgIn.pre {w : World} {a : Option Addr} {l m : List TagP} (h : TgIn w a (l ++ m)) : TgIn w a l := by
  rcases h with h | ⟨b, off, e, hb, hc⟩
  · exact Or.inl (List.append_eq_nil_iff.1 h).1
  · refine Or.inr ⟨b, off, e, hb, fun i t ht => hc i t ?_⟩
    rw [List.getElem?_append_left (List.getElem?_eq_some_iff.1 ht).1]; exact ht
set_option maxRecDepth 100000 in
set_option maxHeartbeats 4000000 in
theorem kept_any (g q : Nat) (b : Option Addr) (l : List TagP) (c : Nat) (w : World) (hl : l.length ≤ 4398046511000) (hq : l.length + 1 ≤ q) (ha : TgIn w (some ⟨g, 0, none⟩) (l ++ [mkT])) (hb : TgIn w b l) :
    Calls Tryd.prog 16 #[.slice (some ⟨g, 0, none⟩) l.length q, .slice b l.length c] w fun e w' => e = .returned (.bool true) ∧ Below w.heap.size w w' := by
  have cS : Hid (Calls Tryd.prog 32 #[.slice (some ⟨g, 0, none⟩) l.length q, .slice b l.length c] w fun e w' => e = .returned (.bool true) ∧ Below w.heap.size w w') := sameTags_any _ b l q c w (by omega) ha.pre hb
  have hm : g < w.heap.size ∧ w.cell? ⟨g, l.length * 2, none⟩ = some (.string ⟨#[109, 97, 114, 107]⟩) ∧ w.cell? ⟨g, l.length * 2 + 1, none⟩ = some (.string ⟨#[]⟩) := by
    rcases ha with h | ⟨b', off, e, hb', hc⟩
    · simp at h
    · injection e with e
      injection e with e1 e2 e3
      subst e1 e2
      obtain ⟨k1, k2⟩ := hc l.length mkT (by simp)
      rw [Nat.zero_add] at k1 k2
      exact ⟨hb', k1, k2⟩
  have hmH : Hid (∀ w1, Below w.heap.size w w1 → w1.cell? ⟨g, l.length * 2, none⟩ = some (.string ⟨#[109, 97, 114, 107]⟩) ∧ w1.cell? ⟨g, l.length * 2 + 1, none⟩ = some (.string ⟨#[]⟩)) := fun w1 h => ⟨by rw [h.cell (p := ⟨g, l.length * 2, none⟩) hm.1]; exact hm.2.1, by rw [h.cell (p := ⟨g, l.length * 2 + 1, none⟩) hm.1]; exact hm.2.2⟩
  have k1 : (l.length : Int) + 1 ≤ (q : Int) := by omega
  have k2 : (0 : Int) ≤ (l.length : Int) + 1 := by omega
  have k3 : -9223372036854775808 ≤ (l.length : Int) + 1 ∧ (l.length : Int) + 1 ≤ 9223372036854775807 := by omega
  have k4 : (l.length : Int) < (l.length : Int) + 1 := by omega
  have k5 : (0 : Int) ≤ (l.length : Int) := by omega
  have wk : wrap64 ((l.length : Int) + 1) = (l.length : Int) + 1 := IntWalk.wrap64_in _ k3
  have wi : IntKind.i64.wrap ((l.length : Int) + 1) = (l.length : Int) + 1 := IntWalk.i64_in _ k3
  clear hm ha hb hl k3
  generalize l.length = n at *
  go_enter Tryd.func16, Tryd.ntmps16
  go_wp2_with fail
  refine Calls.mono cS.out ?_
  rintro e w1 ⟨rfl, b1⟩
  obtain ⟨m1, m2⟩ := hmH.out w1 b1
  go_wp2_with fail
  go_ret
  exact ⟨rfl, b1⟩
set_option maxRecDepth 100000 in
theorem same_nilW (w : World) : Calls Tryd.prog 7 #[.nilIface, bdV 0] w fun e w' => e = .returned (.bool true) ∧ Below w.heap.size w w' := by
  have hB : ∀ o, Below w.heap.size w (w.alloc o) := fun o => (Below.refl _ w).alloc (Nat.le_refl _) o
  unfold bdV
  go_enter Tryd.func7, Tryd.ntmps7
  go_wp2_with fail
  go_ret
  exact ⟨rfl, hB _⟩
theorem same_erN (n : Int) (w : World) (hg : ET w) : Calls Tryd.prog 7 #[erN n, bdV n] w fun e w' => e = .returned (.bool true) ∧ Below w.heap.size w w' := by
  by_cases h : n = 0
  · subst h; exact same_nilW w
  · rw [erN, if_neg h]
    exact sameC_miss_miss [] n (by simpa using h) rfl rfl w hg
theorem erV_erN (b : Bool) (n : Int) (hn : n ≠ 0) : erV b n = erN (if b then 0 else n) := by
  cases b
  · simp [erV, erN, hn]
  · simp [erV, erN]
set_option maxRecDepth 100000 in
set_option maxHeartbeats 16000000 in
theorem keyRights_walk (t : ByteArray) (a : Option Addr) (c : Nat) (x : SerP) (w : World) (ha : SerIn w a x) (hl : x.t.length ≤ 4398046511000) (hT : UT w) (hg : ET w) :
    Calls Tryd.prog 3 #[.string t, .agg #[.string x.m, .slice a x.t.length c, .string x.f]] w fun e w' => e = .returned (.bool true) ∧ Below w.heap.size w w' := by
  obtain ⟨sm, st, sf⟩ := x
  simp only at ha hl ⊢
  have hW0 : Below w.heap.size w (((w.alloc (.cells #[.string sm, .slice a st.length c, .string sf] 24))).alloc (.cells #[.string sm, .slice a st.length c, .string sf] 24)) := ((Below.refl _ w).alloc (Nat.le_refl _) _).alloc (by simp) _
  have cT : Hid (Calls Tryd.prog 5 #[.slice a st.length c] (((w.alloc (.cells #[.string sm, .slice a st.length c, .string sf] 24))).alloc (.cells #[.string sm, .slice a st.length c, .string sf] 24)) fun e w' => ∃ g q, e = .returned (.slice (some ⟨g, 0, none⟩) st.length q) ∧ w.heap.size + 2 ≤ g ∧ st.length + 1 ≤ q ∧ TgIn w' (some ⟨g, 0, none⟩) (st ++ [mkT]) ∧ Below (w.heap.size + 2) (((w.alloc (.cells #[.string sm, .slice a st.length c, .string sf] 24))).alloc (.cells #[.string sm, .slice a st.length c, .string sf] 24)) w') := (lent_any a st c _ hl (ha.1.below hW0)).mono fun e w' hx => by
    obtain ⟨g, q, h1, h2, h3, h4, h5⟩ := hx
    rw [show (((w.alloc (.cells #[.string sm, .slice a st.length c, .string sf] 24))).alloc (.cells #[.string sm, .slice a st.length c, .string sf] 24)).heap.size = w.heap.size + 2 by simp] at h2 h5
    exact ⟨g, q, h1, h2, h3, h4, h5⟩
  have hS1 : Hid (∀ w1 g, w.heap.size + 2 ≤ g → TgIn w1 (some ⟨g, 0, none⟩) (st ++ [mkT]) → Below (w.heap.size + 2) (((w.alloc (.cells #[.string sm, .slice a st.length c, .string sf] 24))).alloc (.cells #[.string sm, .slice a st.length c, .string sf] 24)) w1 → ∀ q, w1.cell? ⟨w.heap.size + 1, 1, none⟩ = some (.slice a st.length c) ∧ w1.frozen? ⟨w.heap.size + 1, 1, none⟩ = false ∧ (∀ n, n = st.length → Below w.heap.size w (w1.setCell ⟨w.heap.size + 1, 1, none⟩ (.slice (some ⟨g, 0, none⟩) n q)) ∧ w.heap.size + 1 < (w1.setCell ⟨w.heap.size + 1, 1, none⟩ (.slice (some ⟨g, 0, none⟩) n q)).heap.size ∧ (w1.setCell ⟨w.heap.size + 1, 1, none⟩ (.slice (some ⟨g, 0, none⟩) n q)).cell? ⟨w.heap.size, 0, none⟩ = some (.string sm) ∧ (w1.setCell ⟨w.heap.size + 1, 1, none⟩ (.slice (some ⟨g, 0, none⟩) n q)).cell? ⟨w.heap.size, 1, none⟩ = some (.slice a n c) ∧ (w1.setCell ⟨w.heap.size + 1, 1, none⟩ (.slice (some ⟨g, 0, none⟩) n q)).cell? ⟨w.heap.size, 2, none⟩ = some (.string sf) ∧ (w1.setCell ⟨w.heap.size + 1, 1, none⟩ (.slice (some ⟨g, 0, none⟩) n q)).cell? ⟨w.heap.size + 1, 0, none⟩ = some (.string sm) ∧ (w1.setCell ⟨w.heap.size + 1, 1, none⟩ (.slice (some ⟨g, 0, none⟩) n q)).cell? ⟨w.heap.size + 1, 1, none⟩ = some (.slice (some ⟨g, 0, none⟩) n q) ∧ (w1.setCell ⟨w.heap.size + 1, 1, none⟩ (.slice (some ⟨g, 0, none⟩) n q)).cell? ⟨w.heap.size + 1, 2, none⟩ = some (.string sf) ∧ TgIn (w1.setCell ⟨w.heap.size + 1, 1, none⟩ (.slice (some ⟨g, 0, none⟩) n q)) (some ⟨g, 0, none⟩) (st ++ [mkT]))) := fun w1 g hgN hti B1 q => by
    have z : (((w.alloc (.cells #[.string sm, .slice a st.length c, .string sf] 24))).alloc (.cells #[.string sm, .slice a st.length c, .string sf] 24)).heap.size = w.heap.size + 2 := by simp
    have zz := B1.size
    rw [z] at zz
    have c0 : ∀ i, w1.cell? ⟨w.heap.size, i, none⟩ = _ := fun i => B1.cell (p := ⟨w.heap.size, i, none⟩) (show w.heap.size < w.heap.size + 2 by omega)
    have c1 : ∀ i, w1.cell? ⟨w.heap.size + 1, i, none⟩ = _ := fun i => B1.cell (p := ⟨w.heap.size + 1, i, none⟩) (show w.heap.size + 1 < w.heap.size + 2 by omega)
    have k1 : w1.cell? ⟨w.heap.size + 1, 1, none⟩ = some (.slice a st.length c) := by rw [c1 1]; simp [go_sem]
    have k2 : w1.frozen? ⟨w.heap.size + 1, 1, none⟩ = false := by rw [B1.frozen (p := ⟨w.heap.size + 1, 1, none⟩) (show w.heap.size + 1 < w.heap.size + 2 by omega)]; simp [go_sem]
    refine ⟨k1, k2, fun n hn => ?_⟩
    subst hn
    refine ⟨(hW0.trans (B1.mono (by omega))).setCell (p := ⟨w.heap.size + 1, 1, none⟩) (show w.heap.size ≤ w.heap.size + 1 by omega) _, by simp; omega, ?_, ?_, ?_, ?_, World.cell?_setCell_same _ _ _ k1, ?_, ?_⟩
    · rw [World.cell?_setCell_other _ _ _ _ (by intro e; injection e with e1 e2; omega), c0 0]; simp [go_sem]
    · rw [World.cell?_setCell_other _ _ _ _ (by intro e; injection e with e1 e2; omega), c0 1]; simp [go_sem]
    · rw [World.cell?_setCell_other _ _ _ _ (by intro e; injection e with e1 e2; omega), c0 2]; simp [go_sem]
    · rw [World.cell?_setCell_other _ _ _ _ (by intro e; injection e with e1 e2; cases e2), c1 0]; simp [go_sem]
    · rw [World.cell?_setCell_other _ _ _ _ (by intro e; injection e with e1 e2; cases e2), c1 2]; simp [go_sem]
    · rcases hti with h | ⟨b', off, e, hb', hc⟩
      · exact Or.inl h
      · refine Or.inr ⟨b', off, e, by simpa using hb', fun i t ht => ?_⟩
        injection e with e
        injection e with e1 e2 e3
        subst e1
        obtain ⟨k1, k2⟩ := hc i t ht
        exact ⟨by rw [World.cell?_setCell_other _ _ _ _ (by intro e; injection e with e1 e2; omega)]; exact k1, by rw [World.cell?_setCell_other _ _ _ _ (by intro e; injection e with e1 e2; omega)]; exact k2⟩
  have hUT : Hid (∀ W, Below w.heap.size w W → UT W) := fun W h => hT.below h (Nat.le_refl _)
  have hET : Hid (∀ W, Below w.heap.size w W → ET W) := fun W h => ET_below hg h
  have haH : Hid (∀ W, Below w.heap.size w W → TgIn W a st) := fun W h => ha.1.below h
  have hlH : Hid (st.length ≤ 4398046511000) := hl
  clear ha hl hT hg hW0
  go_enter Tryd.func3, Tryd.ntmps3
  go_wp2_with fail
  refine Calls.mono cT.out ?_
  rintro e w1 ⟨g, q, rfl, hgN, hq, hti, B1⟩
  obtain ⟨d1, d2, d3⟩ := hS1.out w1 g hgN hti B1 q
  obtain ⟨n, hn⟩ : ∃ n, n = st.length := ⟨_, rfl⟩
  have hS2 := d3 n hn
  rw [← hn] at d1 ⊢
  have hK : Hid (∀ W W' : World, Below W.heap.size W W' → (Below w.heap.size w W ∧ w.heap.size + 1 < W.heap.size ∧ W.cell? ⟨w.heap.size, 0, none⟩ = some (.string sm) ∧ W.cell? ⟨w.heap.size, 1, none⟩ = some (.slice a n c) ∧ W.cell? ⟨w.heap.size, 2, none⟩ = some (.string sf) ∧ W.cell? ⟨w.heap.size + 1, 0, none⟩ = some (.string sm) ∧ W.cell? ⟨w.heap.size + 1, 1, none⟩ = some (.slice (some ⟨g, 0, none⟩) n q) ∧ W.cell? ⟨w.heap.size + 1, 2, none⟩ = some (.string sf) ∧ TgIn W (some ⟨g, 0, none⟩) (st ++ [mkT])) → Below w.heap.size w W' ∧ w.heap.size + 1 < W'.heap.size ∧ W'.cell? ⟨w.heap.size, 0, none⟩ = some (.string sm) ∧ W'.cell? ⟨w.heap.size, 1, none⟩ = some (.slice a n c) ∧ W'.cell? ⟨w.heap.size, 2, none⟩ = some (.string sf) ∧ W'.cell? ⟨w.heap.size + 1, 0, none⟩ = some (.string sm) ∧ W'.cell? ⟨w.heap.size + 1, 1, none⟩ = some (.slice (some ⟨g, 0, none⟩) n q) ∧ W'.cell? ⟨w.heap.size + 1, 2, none⟩ = some (.string sf) ∧ TgIn W' (some ⟨g, 0, none⟩) (st ++ [mkT])) := by
    intro W W' hb ⟨k0, k1, k2, k3, k4, k5, k6, k7, k8⟩
    have hs := hb.size
    refine ⟨k0.trans (hb.mono k0.size), by omega, ?_, ?_, ?_, ?_, ?_, ?_, k8.below hb⟩
    · rw [hb.cell (p := ⟨w.heap.size, 0, none⟩) (show w.heap.size < _ by omega)]; exact k2
    · rw [hb.cell (p := ⟨w.heap.size, 1, none⟩) (show w.heap.size < _ by omega)]; exact k3
    · rw [hb.cell (p := ⟨w.heap.size, 2, none⟩) (show w.heap.size < _ by omega)]; exact k4
    · rw [hb.cell (p := ⟨w.heap.size + 1, 0, none⟩) (show w.heap.size + 1 < _ by omega)]; exact k5
    · rw [hb.cell (p := ⟨w.heap.size + 1, 1, none⟩) (show w.heap.size + 1 < _ by omega)]; exact k6
    · rw [hb.cell (p := ⟨w.heap.size + 1, 2, none⟩) (show w.heap.size + 1 < _ by omega)]; exact k7
  have cL : Hid (∀ W, Below w.heap.size w W ∧ w.heap.size + 1 < W.heap.size ∧ W.cell? ⟨w.heap.size, 0, none⟩ = some (.string sm) ∧ W.cell? ⟨w.heap.size, 1, none⟩ = some (.slice a n c) ∧ W.cell? ⟨w.heap.size, 2, none⟩ = some (.string sf) ∧ W.cell? ⟨w.heap.size + 1, 0, none⟩ = some (.string sm) ∧ W.cell? ⟨w.heap.size + 1, 1, none⟩ = some (.slice (some ⟨g, 0, none⟩) n q) ∧ W.cell? ⟨w.heap.size + 1, 2, none⟩ = some (.string sf) ∧ TgIn W (some ⟨g, 0, none⟩) (st ++ [mkT]) → Calls Tryd.prog 6 #[] W fun e w' => e = .returned (.bool true) ∧ Below W.heap.size W w') := fun W h => live_any W (hUT.out W h.1) (hET.out W h.1)
  have cN : Hid (∀ W, Below w.heap.size w W ∧ w.heap.size + 1 < W.heap.size ∧ W.cell? ⟨w.heap.size, 0, none⟩ = some (.string sm) ∧ W.cell? ⟨w.heap.size, 1, none⟩ = some (.slice a n c) ∧ W.cell? ⟨w.heap.size, 2, none⟩ = some (.string sf) ∧ W.cell? ⟨w.heap.size + 1, 0, none⟩ = some (.string sm) ∧ W.cell? ⟨w.heap.size + 1, 1, none⟩ = some (.slice (some ⟨g, 0, none⟩) n q) ∧ W.cell? ⟨w.heap.size + 1, 2, none⟩ = some (.string sf) ∧ TgIn W (some ⟨g, 0, none⟩) (st ++ [mkT]) → Calls Tryd.prog 8 #[.string t] W fun e w' => e = .returned (erN (if cleanB t 64 then 0 else 50)) ∧ Below W.heap.size W w') := fun W h => by have := name_any t W (hUT.out W h.1); rw [erV_erN _ 50 (by decide)] at this; exact this
  have cM : Hid (∀ W, Below w.heap.size w W ∧ w.heap.size + 1 < W.heap.size ∧ W.cell? ⟨w.heap.size, 0, none⟩ = some (.string sm) ∧ W.cell? ⟨w.heap.size, 1, none⟩ = some (.slice a n c) ∧ W.cell? ⟨w.heap.size, 2, none⟩ = some (.string sf) ∧ W.cell? ⟨w.heap.size + 1, 0, none⟩ = some (.string sm) ∧ W.cell? ⟨w.heap.size + 1, 1, none⟩ = some (.slice (some ⟨g, 0, none⟩) n q) ∧ W.cell? ⟨w.heap.size + 1, 2, none⟩ = some (.string sf) ∧ TgIn W (some ⟨g, 0, none⟩) (st ++ [mkT]) → Calls Tryd.prog 9 #[.string t] W fun e w' => e = .returned (bdV (if cleanB t 64 then 0 else 50)) ∧ Below W.heap.size W w') := fun W h => rname_any t W
  have cX : Hid (∀ W, Below w.heap.size w W ∧ w.heap.size + 1 < W.heap.size ∧ W.cell? ⟨w.heap.size, 0, none⟩ = some (.string sm) ∧ W.cell? ⟨w.heap.size, 1, none⟩ = some (.slice a n c) ∧ W.cell? ⟨w.heap.size, 2, none⟩ = some (.string sf) ∧ W.cell? ⟨w.heap.size + 1, 0, none⟩ = some (.string sm) ∧ W.cell? ⟨w.heap.size + 1, 1, none⟩ = some (.slice (some ⟨g, 0, none⟩) n q) ∧ W.cell? ⟨w.heap.size + 1, 2, none⟩ = some (.string sf) ∧ TgIn W (some ⟨g, 0, none⟩) (st ++ [mkT]) → Calls Tryd.prog 10 #[.string t] W fun e w' => e = .returned (erN (if cleanB t 256 then 0 else 51)) ∧ Below W.heap.size W w') := fun W h => by have := text_any t W (hUT.out W h.1); rw [erV_erN _ 51 (by decide)] at this; exact this
  have cY : Hid (∀ W, Below w.heap.size w W ∧ w.heap.size + 1 < W.heap.size ∧ W.cell? ⟨w.heap.size, 0, none⟩ = some (.string sm) ∧ W.cell? ⟨w.heap.size, 1, none⟩ = some (.slice a n c) ∧ W.cell? ⟨w.heap.size, 2, none⟩ = some (.string sf) ∧ W.cell? ⟨w.heap.size + 1, 0, none⟩ = some (.string sm) ∧ W.cell? ⟨w.heap.size + 1, 1, none⟩ = some (.slice (some ⟨g, 0, none⟩) n q) ∧ W.cell? ⟨w.heap.size + 1, 2, none⟩ = some (.string sf) ∧ TgIn W (some ⟨g, 0, none⟩) (st ++ [mkT]) → Calls Tryd.prog 11 #[.string t] W fun e w' => e = .returned (bdV (if cleanB t 256 then 0 else 51)) ∧ Below W.heap.size W w') := fun W h => rtext_any t W
  have cG : Hid (∀ W, Below w.heap.size w W ∧ w.heap.size + 1 < W.heap.size ∧ W.cell? ⟨w.heap.size, 0, none⟩ = some (.string sm) ∧ W.cell? ⟨w.heap.size, 1, none⟩ = some (.slice a n c) ∧ W.cell? ⟨w.heap.size, 2, none⟩ = some (.string sf) ∧ W.cell? ⟨w.heap.size + 1, 0, none⟩ = some (.string sm) ∧ W.cell? ⟨w.heap.size + 1, 1, none⟩ = some (.slice (some ⟨g, 0, none⟩) n q) ∧ W.cell? ⟨w.heap.size + 1, 2, none⟩ = some (.string sf) ∧ TgIn W (some ⟨g, 0, none⟩) (st ++ [mkT]) → Calls Tryd.prog 12 #[.slice (some ⟨g, 0, none⟩) n q] W fun e w' => e = .returned (erN (if tagsB st then 0 else 52)) ∧ Below W.heap.size W w') := fun W h => by
    have := tags_any (some ⟨g, 0, none⟩) st q W (by have := hlH.out; omega) (TgIn.pre h.2.2.2.2.2.2.2.2) (hUT.out W h.1)
    rw [erV_erN _ 52 (by decide), ← hn] at this
    exact this
  have cH : Hid (∀ W, Below w.heap.size w W ∧ w.heap.size + 1 < W.heap.size ∧ W.cell? ⟨w.heap.size, 0, none⟩ = some (.string sm) ∧ W.cell? ⟨w.heap.size, 1, none⟩ = some (.slice a n c) ∧ W.cell? ⟨w.heap.size, 2, none⟩ = some (.string sf) ∧ W.cell? ⟨w.heap.size + 1, 0, none⟩ = some (.string sm) ∧ W.cell? ⟨w.heap.size + 1, 1, none⟩ = some (.slice (some ⟨g, 0, none⟩) n q) ∧ W.cell? ⟨w.heap.size + 1, 2, none⟩ = some (.string sf) ∧ TgIn W (some ⟨g, 0, none⟩) (st ++ [mkT]) → Calls Tryd.prog 13 #[.slice a n c] W fun e w' => e = .returned (bdV (if tagsB st then 0 else 52)) ∧ Below W.heap.size W w') := fun W h => by
    have := rtags_any a st c W (by have := hlH.out; omega) (haH.out W h.1)
    rw [← hn] at this
    exact this
  have cR : Hid (∀ W, Below w.heap.size w W ∧ w.heap.size + 1 < W.heap.size ∧ W.cell? ⟨w.heap.size, 0, none⟩ = some (.string sm) ∧ W.cell? ⟨w.heap.size, 1, none⟩ = some (.slice a n c) ∧ W.cell? ⟨w.heap.size, 2, none⟩ = some (.string sf) ∧ W.cell? ⟨w.heap.size + 1, 0, none⟩ = some (.string sm) ∧ W.cell? ⟨w.heap.size + 1, 1, none⟩ = some (.slice (some ⟨g, 0, none⟩) n q) ∧ W.cell? ⟨w.heap.size + 1, 2, none⟩ = some (.string sf) ∧ TgIn W (some ⟨g, 0, none⟩) (st ++ [mkT]) → Calls Tryd.prog 14 #[.agg #[.string sm, .slice (some ⟨g, 0, none⟩) n q, .string sf]] W fun e w' => e = .returned (erN (rightN ⟨sm, st, sf⟩)) ∧ Below W.heap.size W w') := fun W h => by
    have hi : SerIn W (some ⟨g, 0, none⟩) ⟨sm, st, sf⟩ := ⟨TgIn.pre h.2.2.2.2.2.2.2.2, by have := hlH.out; show st.length ≤ _; omega⟩
    have := right_any (some ⟨g, 0, none⟩) q ⟨sm, st, sf⟩ W hi (hUT.out W h.1)
    simp only [← hn] at this
    exact this
  have cQ : Hid (∀ W, Below w.heap.size w W ∧ w.heap.size + 1 < W.heap.size ∧ W.cell? ⟨w.heap.size, 0, none⟩ = some (.string sm) ∧ W.cell? ⟨w.heap.size, 1, none⟩ = some (.slice a n c) ∧ W.cell? ⟨w.heap.size, 2, none⟩ = some (.string sf) ∧ W.cell? ⟨w.heap.size + 1, 0, none⟩ = some (.string sm) ∧ W.cell? ⟨w.heap.size + 1, 1, none⟩ = some (.slice (some ⟨g, 0, none⟩) n q) ∧ W.cell? ⟨w.heap.size + 1, 2, none⟩ = some (.string sf) ∧ TgIn W (some ⟨g, 0, none⟩) (st ++ [mkT]) → Calls Tryd.prog 15 #[.agg #[.string sm, .slice a n c, .string sf]] W fun e w' => e = .returned (bdV (rightN ⟨sm, st, sf⟩)) ∧ Below W.heap.size W w') := fun W h => by
    have hi : SerIn W a ⟨sm, st, sf⟩ := ⟨haH.out W h.1, by have := hlH.out; show st.length ≤ _; omega⟩
    have := rrightS_any a c ⟨sm, st, sf⟩ W hi
    simp only [← hn] at this
    exact this
  have cK : Hid (∀ W, Below w.heap.size w W ∧ w.heap.size + 1 < W.heap.size ∧ W.cell? ⟨w.heap.size, 0, none⟩ = some (.string sm) ∧ W.cell? ⟨w.heap.size, 1, none⟩ = some (.slice a n c) ∧ W.cell? ⟨w.heap.size, 2, none⟩ = some (.string sf) ∧ W.cell? ⟨w.heap.size + 1, 0, none⟩ = some (.string sm) ∧ W.cell? ⟨w.heap.size + 1, 1, none⟩ = some (.slice (some ⟨g, 0, none⟩) n q) ∧ W.cell? ⟨w.heap.size + 1, 2, none⟩ = some (.string sf) ∧ TgIn W (some ⟨g, 0, none⟩) (st ++ [mkT]) → Calls Tryd.prog 16 #[.slice (some ⟨g, 0, none⟩) n q, .slice a n c] W fun e w' => e = .returned (.bool true) ∧ Below W.heap.size W w') := fun W h => by
    have := kept_any g q a st c W hlH.out hq h.2.2.2.2.2.2.2.2 (haH.out W h.1)
    rw [← hn] at this
    exact this
  have cS0 : Hid (∀ W, Below w.heap.size w W ∧ w.heap.size + 1 < W.heap.size ∧ W.cell? ⟨w.heap.size, 0, none⟩ = some (.string sm) ∧ W.cell? ⟨w.heap.size, 1, none⟩ = some (.slice a n c) ∧ W.cell? ⟨w.heap.size, 2, none⟩ = some (.string sf) ∧ W.cell? ⟨w.heap.size + 1, 0, none⟩ = some (.string sm) ∧ W.cell? ⟨w.heap.size + 1, 1, none⟩ = some (.slice (some ⟨g, 0, none⟩) n q) ∧ W.cell? ⟨w.heap.size + 1, 2, none⟩ = some (.string sf) ∧ TgIn W (some ⟨g, 0, none⟩) (st ++ [mkT]) → Calls Tryd.prog 7 #[erN (if cleanB t 64 then 0 else 50), bdV (if cleanB t 64 then 0 else 50)] W fun e w' => e = .returned (.bool true) ∧ Below W.heap.size W w') := fun W h => same_erN _ W (hET.out W h.1)
  have cS1 : Hid (∀ W, Below w.heap.size w W ∧ w.heap.size + 1 < W.heap.size ∧ W.cell? ⟨w.heap.size, 0, none⟩ = some (.string sm) ∧ W.cell? ⟨w.heap.size, 1, none⟩ = some (.slice a n c) ∧ W.cell? ⟨w.heap.size, 2, none⟩ = some (.string sf) ∧ W.cell? ⟨w.heap.size + 1, 0, none⟩ = some (.string sm) ∧ W.cell? ⟨w.heap.size + 1, 1, none⟩ = some (.slice (some ⟨g, 0, none⟩) n q) ∧ W.cell? ⟨w.heap.size + 1, 2, none⟩ = some (.string sf) ∧ TgIn W (some ⟨g, 0, none⟩) (st ++ [mkT]) → Calls Tryd.prog 7 #[erN (if cleanB t 256 then 0 else 51), bdV (if cleanB t 256 then 0 else 51)] W fun e w' => e = .returned (.bool true) ∧ Below W.heap.size W w') := fun W h => same_erN _ W (hET.out W h.1)
  have cS2 : Hid (∀ W, Below w.heap.size w W ∧ w.heap.size + 1 < W.heap.size ∧ W.cell? ⟨w.heap.size, 0, none⟩ = some (.string sm) ∧ W.cell? ⟨w.heap.size, 1, none⟩ = some (.slice a n c) ∧ W.cell? ⟨w.heap.size, 2, none⟩ = some (.string sf) ∧ W.cell? ⟨w.heap.size + 1, 0, none⟩ = some (.string sm) ∧ W.cell? ⟨w.heap.size + 1, 1, none⟩ = some (.slice (some ⟨g, 0, none⟩) n q) ∧ W.cell? ⟨w.heap.size + 1, 2, none⟩ = some (.string sf) ∧ TgIn W (some ⟨g, 0, none⟩) (st ++ [mkT]) → Calls Tryd.prog 7 #[erN (if tagsB st then 0 else 52), bdV (if tagsB st then 0 else 52)] W fun e w' => e = .returned (.bool true) ∧ Below W.heap.size W w') := fun W h => same_erN _ W (hET.out W h.1)
  have cS3 : Hid (∀ W, Below w.heap.size w W ∧ w.heap.size + 1 < W.heap.size ∧ W.cell? ⟨w.heap.size, 0, none⟩ = some (.string sm) ∧ W.cell? ⟨w.heap.size, 1, none⟩ = some (.slice a n c) ∧ W.cell? ⟨w.heap.size, 2, none⟩ = some (.string sf) ∧ W.cell? ⟨w.heap.size + 1, 0, none⟩ = some (.string sm) ∧ W.cell? ⟨w.heap.size + 1, 1, none⟩ = some (.slice (some ⟨g, 0, none⟩) n q) ∧ W.cell? ⟨w.heap.size + 1, 2, none⟩ = some (.string sf) ∧ TgIn W (some ⟨g, 0, none⟩) (st ++ [mkT]) → Calls Tryd.prog 7 #[erN (rightN ⟨sm, st, sf⟩), bdV (rightN ⟨sm, st, sf⟩)] W fun e w' => e = .returned (.bool true) ∧ Below W.heap.size W w') := fun W h => same_erN _ W (hET.out W h.1)
  clear hUT hET haH hlH hti B1 d3 cT hS1 hn hq
  obtain ⟨n0, hn0⟩ : ∃ n0, n0 = (if cleanB t 64 then 0 else (50 : Int)) := ⟨_, rfl⟩
  obtain ⟨n1, hn1⟩ : ∃ n1, n1 = (if cleanB t 256 then 0 else (51 : Int)) := ⟨_, rfl⟩
  obtain ⟨n2, hn2⟩ : ∃ n2, n2 = (if tagsB st then 0 else (52 : Int)) := ⟨_, rfl⟩
  obtain ⟨n3, hn3⟩ : ∃ n3, n3 = rightN ⟨sm, st, sf⟩ := ⟨_, rfl⟩
  rw [← hn0] at cN cM cS0
  rw [← hn1] at cX cY cS1
  rw [← hn2] at cG cH cS2
  rw [← hn3] at cR cQ cS3
  clear hn0 hn1 hn2 hn3
  generalize erN n0 = e0 at cN cS0
  generalize bdV n0 = b0 at cM cS0
  generalize erN n1 = e1 at cX cS1
  generalize bdV n1 = b1 at cY cS1
  generalize erN n2 = e2 at cG cS2
  generalize bdV n2 = b2 at cH cS2
  generalize erN n3 = e3 at cR cS3
  generalize bdV n3 = b3 at cQ cS3
  have hS2d : Below w.heap.size w (w1.setCell ⟨w.heap.size + 1, 1, none⟩ (.slice (some ⟨g, 0, none⟩) n q)).drew ∧ w.heap.size + 1 < (w1.setCell ⟨w.heap.size + 1, 1, none⟩ (.slice (some ⟨g, 0, none⟩) n q)).drew.heap.size ∧ (w1.setCell ⟨w.heap.size + 1, 1, none⟩ (.slice (some ⟨g, 0, none⟩) n q)).drew.cell? ⟨w.heap.size, 0, none⟩ = some (.string sm) ∧ (w1.setCell ⟨w.heap.size + 1, 1, none⟩ (.slice (some ⟨g, 0, none⟩) n q)).drew.cell? ⟨w.heap.size, 1, none⟩ = some (.slice a n c) ∧ (w1.setCell ⟨w.heap.size + 1, 1, none⟩ (.slice (some ⟨g, 0, none⟩) n q)).drew.cell? ⟨w.heap.size, 2, none⟩ = some (.string sf) ∧ (w1.setCell ⟨w.heap.size + 1, 1, none⟩ (.slice (some ⟨g, 0, none⟩) n q)).drew.cell? ⟨w.heap.size + 1, 0, none⟩ = some (.string sm) ∧ (w1.setCell ⟨w.heap.size + 1, 1, none⟩ (.slice (some ⟨g, 0, none⟩) n q)).drew.cell? ⟨w.heap.size + 1, 1, none⟩ = some (.slice (some ⟨g, 0, none⟩) n q) ∧ (w1.setCell ⟨w.heap.size + 1, 1, none⟩ (.slice (some ⟨g, 0, none⟩) n q)).drew.cell? ⟨w.heap.size + 1, 2, none⟩ = some (.string sf) ∧ TgIn (w1.setCell ⟨w.heap.size + 1, 1, none⟩ (.slice (some ⟨g, 0, none⟩) n q)).drew (some ⟨g, 0, none⟩) (st ++ [mkT]) := ⟨hS2.1.drew, hS2.2⟩
  have hS2H : Hid (Below w.heap.size w (w1.setCell ⟨w.heap.size + 1, 1, none⟩ (.slice (some ⟨g, 0, none⟩) n q)) ∧ w.heap.size + 1 < (w1.setCell ⟨w.heap.size + 1, 1, none⟩ (.slice (some ⟨g, 0, none⟩) n q)).heap.size ∧ (w1.setCell ⟨w.heap.size + 1, 1, none⟩ (.slice (some ⟨g, 0, none⟩) n q)).cell? ⟨w.heap.size, 0, none⟩ = some (.string sm) ∧ (w1.setCell ⟨w.heap.size + 1, 1, none⟩ (.slice (some ⟨g, 0, none⟩) n q)).cell? ⟨w.heap.size, 1, none⟩ = some (.slice a n c) ∧ (w1.setCell ⟨w.heap.size + 1, 1, none⟩ (.slice (some ⟨g, 0, none⟩) n q)).cell? ⟨w.heap.size, 2, none⟩ = some (.string sf) ∧ (w1.setCell ⟨w.heap.size + 1, 1, none⟩ (.slice (some ⟨g, 0, none⟩) n q)).cell? ⟨w.heap.size + 1, 0, none⟩ = some (.string sm) ∧ (w1.setCell ⟨w.heap.size + 1, 1, none⟩ (.slice (some ⟨g, 0, none⟩) n q)).cell? ⟨w.heap.size + 1, 1, none⟩ = some (.slice (some ⟨g, 0, none⟩) n q) ∧ (w1.setCell ⟨w.heap.size + 1, 1, none⟩ (.slice (some ⟨g, 0, none⟩) n q)).cell? ⟨w.heap.size + 1, 2, none⟩ = some (.string sf) ∧ TgIn (w1.setCell ⟨w.heap.size + 1, 1, none⟩ (.slice (some ⟨g, 0, none⟩) n q)) (some ⟨g, 0, none⟩) (st ++ [mkT])) := hS2
  clear hS2
  go_wp2_with fail
  go_region_held3 (fun W => Below w.heap.size w W ∧ w.heap.size + 1 < W.heap.size ∧ W.cell? ⟨w.heap.size, 0, none⟩ = some (.string sm) ∧ W.cell? ⟨w.heap.size, 1, none⟩ = some (.slice a n c) ∧ W.cell? ⟨w.heap.size, 2, none⟩ = some (.string sf) ∧ W.cell? ⟨w.heap.size + 1, 0, none⟩ = some (.string sm) ∧ W.cell? ⟨w.heap.size + 1, 1, none⟩ = some (.slice (some ⟨g, 0, none⟩) n q) ∧ W.cell? ⟨w.heap.size + 1, 2, none⟩ = some (.string sf) ∧ TgIn W (some ⟨g, 0, none⟩) (st ++ [mkT])) (first | assumption)
    (first
      | (go_at_call 6; (with_reducible refine Calls.mono (cL.out _ (by assumption)) ?_); rintro e w' ⟨rfl, BB⟩; have SS := hK.out _ _ BB (by assumption))
      | (go_at_call 8; (with_reducible refine Calls.mono (cN.out _ (by assumption)) ?_); rintro e w' ⟨rfl, BB⟩; have SS := hK.out _ _ BB (by assumption))
      | (go_at_call 9; (with_reducible refine Calls.mono (cM.out _ (by assumption)) ?_); rintro e w' ⟨rfl, BB⟩; have SS := hK.out _ _ BB (by assumption))
      | (go_at_call 10; (with_reducible refine Calls.mono (cX.out _ (by assumption)) ?_); rintro e w' ⟨rfl, BB⟩; have SS := hK.out _ _ BB (by assumption))
      | (go_at_call 11; (with_reducible refine Calls.mono (cY.out _ (by assumption)) ?_); rintro e w' ⟨rfl, BB⟩; have SS := hK.out _ _ BB (by assumption))
      | (go_at_call 12; (with_reducible refine Calls.mono (cG.out _ (by assumption)) ?_); rintro e w' ⟨rfl, BB⟩; have SS := hK.out _ _ BB (by assumption))
      | (go_at_call 13; (with_reducible refine Calls.mono (cH.out _ (by assumption)) ?_); rintro e w' ⟨rfl, BB⟩; have SS := hK.out _ _ BB (by assumption))
      | (go_at_call 14; (with_reducible refine Calls.mono (cR.out _ (by assumption)) ?_); rintro e w' ⟨rfl, BB⟩; have SS := hK.out _ _ BB (by assumption))
      | (go_at_call 15; (with_reducible refine Calls.mono (cQ.out _ (by assumption)) ?_); rintro e w' ⟨rfl, BB⟩; have SS := hK.out _ _ BB (by assumption))
      | (go_at_call 16; (with_reducible refine Calls.mono (cK.out _ (by assumption)) ?_); rintro e w' ⟨rfl, BB⟩; have SS := hK.out _ _ BB (by assumption))
      | (go_at_call 7; (with_reducible refine Calls.mono (cS0.out _ (by assumption)) ?_); rintro e w' ⟨rfl, BB⟩; have SS := hK.out _ _ BB (by assumption))
      | (go_at_call 7; (with_reducible refine Calls.mono (cS1.out _ (by assumption)) ?_); rintro e w' ⟨rfl, BB⟩; have SS := hK.out _ _ BB (by assumption))
      | (go_at_call 7; (with_reducible refine Calls.mono (cS2.out _ (by assumption)) ?_); rintro e w' ⟨rfl, BB⟩; have SS := hK.out _ _ BB (by assumption))
      | (go_at_call 7; (with_reducible refine Calls.mono (cS3.out _ (by assumption)) ?_); rintro e w' ⟨rfl, BB⟩; have SS := hK.out _ _ BB (by assumption)))
  all_goals
    go_wp2_with fail
    go_ret
    exact ⟨by simp, (by assumption : Below w.heap.size w _ ∧ _).1⟩
end Go.Proofs.YtcpookhnbigkgaaDoor
