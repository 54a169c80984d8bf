
import Derived.Test.YtcpookhnbigkgaaDoorKqG
import Derived.Test.YtcpookhnbigkgaaDoorKyN
import Derived.Test.YtcpookhnbigkgaaDoorKyM
namespace Go.Proofs.YtcpookhnbigkgaaDoor
open Go.RowKit Go.Shelf
attribute [local go_sem] Oper.semAt_some
set_option linter.unusedVariables false
set_option linter.unusedSimpArgs false
theorem printT_le {s : SerP} (h : rightN s = 0) : (printT s).length ≤ 1000000 := by
  obtain ⟨h1, h2, h3, h4⟩ := right_parts h
  have e1 := escL_len s.m.data.toList
  have e2 := escL_len s.f.data.toList
  have e3 := flat_tag_len s.t h4
  have m1 : s.m.data.toList.length = s.m.size := (Lib.size_eq _).symm
  have m2 : s.f.data.toList.length = s.f.size := (Lib.size_eq _).symm
  unfold printT
  simp only [List.length_append, List.length_cons]
  omega
theorem printT_ne (s : SerP) : ¬ (ba (printT s) = (⟨#[]⟩ : ByteArray)) := by
  intro h
  have h1 : (ba (printT s)).data.toList = [] := by rw [h]
  rw [ba_data] at h1
  unfold printT at h1
  simp at h1
theorem serM_any (s : SerP) (h : rightN s = 0) : SerM s := by
  obtain ⟨h1, h2, h3, h4⟩ := right_parts h
  exact ⟨mk_extract _ (by omega), mk_extract _ (by omega), fun t ht => ⟨mk_extract _ (by have := (h4 t ht).1; omega), mk_extract _ (by have := (h4 t ht).2; omega)⟩⟩
theorem res_print {s : SerP} (h : rightN s = 0) : resS (printT s) = s ∧ resE (printT s) = .nilIface := by
  obtain ⟨h1, h2⟩ := parse_print s
  constructor
  · unfold resS
    rw [h1, if_pos ⟨h2, h⟩]
  · unfold resE
    rw [h1, h2, h]
    rfl
/-- two ways that a read ends. -/
theorem res_two (l : List UInt8) : (∃ t v, resE l = .iface t v) ∨ (resE l = .nilIface ∧ rightN (resS l) = 0 ∧ printT (resS l) = l) := by
  unfold resE
  cases h : (stopP l).2 with
  | some p => exact Or.inl ⟨_, _, rfl⟩
  | none =>
    simp only [errF]
    by_cases h0 : rightN (serP l) = 0
    · right
      have e : resS l = serP l := by unfold resS; rw [if_pos ⟨h, h0⟩]
      rw [e]
      exact ⟨by rw [h0]; rfl, h0, print_parse l h⟩
    · left
      exact ⟨_, _, by rw [erN, if_neg h0]⟩
/-- a series in three cells of a block of one's own. -/
def SB (w : World) (N : Nat) (m : ByteArray) (v : Value) (f : ByteArray) (W : World) : Prop := (N < W.heap.size ∧ Below w.heap.size w W) ∧ (W.cell? ⟨N, 0, none⟩ = some (.string m) ∧ W.cell? ⟨N, 1, none⟩ = some v ∧ W.cell? ⟨N, 2, none⟩ = some (.string f)) ∧ W.frozen? ⟨N, 0, none⟩ = false ∧ W.frozen? ⟨N, 1, none⟩ = false ∧ W.frozen? ⟨N, 2, none⟩ = false
theorem SB.new (w : World) (m : ByteArray) (v : Value) (f : ByteArray) (hv : ∃ a n c, v = .slice a n c) (W : World) (hb : Below w.heap.size w W) : SB w W.heap.size m v f (W.alloc (.cells #[.string m, v, .string f] 24)) := by
  obtain ⟨a, n, c, rfl⟩ := hv
  exact ⟨⟨by simp, hb.alloc hb.size _⟩, ⟨by simp [go_sem], by simp [go_sem], by simp [go_sem]⟩, by simp [go_sem], by simp [go_sem], by simp [go_sem]⟩
theorem SB.below {w : World} {N : Nat} {m f : ByteArray} {v : Value} {W W' : World} (h : SB w N m v f W) (hb : Below W.heap.size W W') : SB w N m v f W' := by
  obtain ⟨⟨a1, a2⟩, ⟨h0, h1, h2⟩, f0, f1, f2⟩ := h
  refine ⟨⟨Nat.lt_of_lt_of_le a1 hb.size, a2.trans (hb.mono a2.size)⟩, ⟨?_, ?_, ?_⟩, ?_, ?_, ?_⟩
  · rw [hb.cell (p := ⟨N, 0, none⟩) a1]; exact h0
  · rw [hb.cell (p := ⟨N, 1, none⟩) a1]; exact h1
  · rw [hb.cell (p := ⟨N, 2, none⟩) a1]; exact h2
  · rw [hb.frozen (p := ⟨N, 0, none⟩) a1]; exact f0
  · rw [hb.frozen (p := ⟨N, 1, none⟩) a1]; exact f1
  · rw [hb.frozen (p := ⟨N, 2, none⟩) a1]; exact f2
theorem SB.set {w : World} {N : Nat} {m f m' f' : ByteArray} {v v' : Value} {W : World} (h : SB w N m v f W) (hN : w.heap.size ≤ N) : SB w N m' v' f' (((W.setCell ⟨N, 0, none⟩ (.string m')).setCell ⟨N, 1, none⟩ v').setCell ⟨N, 2, none⟩ (.string f')) := by
  obtain ⟨⟨a1, a2⟩, ⟨h0, h1, h2⟩, f0, f1, f2⟩ := h
  refine ⟨⟨by simpa using a1, set3 a2 hN⟩, ⟨?_, ?_, ?_⟩, by simp [go_sem, f0], by simp [go_sem, f1], by simp [go_sem, f2]⟩ <;> simp [go_sem, h0, h1, h2]
set_option maxRecDepth 100000 in
set_option maxHeartbeats 8000000 in
theorem keyBack_walk (a : Option Addr) (c : Nat) (x : SerP) (s : ByteArray) (w : World) (ha : SerIn w a x) (hs : s.size ≤ 1048576) (hT : UT w) (hg : ET w) :
    Calls Tryd.prog 4 #[.agg #[.string x.m, .slice a x.t.length c, .string x.f], .string s] w fun e w' => e = .returned (.bool true) ∧ Below w.heap.size w w' := by
  have cL : Hid (∀ W, Below w.heap.size w W → Calls Tryd.prog 6 #[] W fun e w' => e = .returned (.bool true) ∧ Below W.heap.size W w') := fun W hW => live_any W (hT.below hW (Nat.le_refl _)) (ET_below hg hW)
  have cQ : Hid (∀ (T : ByteArray) W, T.size ≤ 4000000 → Below w.heap.size w W → Calls Tryd.prog 18 #[.string T] W fun e w' => ∃ v n q, e = .returned (.tuple #[.agg #[.string (resS T.data.toList).m, .slice v n q, .string (resS T.data.toList).f], resE T.data.toList]) ∧ OT w' W.heap.size (.slice v n q) (resS T.data.toList).t ∧ n = (resS T.data.toList).t.length ∧ TgIn w' v (resS T.data.toList).t ∧ Below W.heap.size W w') := fun T W hz hW => (parse_any T W hz (hT.below hW (Nat.le_refl _)) (ET_below hg hW)).mono fun e w' hx => by
    obtain ⟨v, h1, h2, h3⟩ := hx
    obtain ⟨va, vc, ev, _, ht⟩ := h2.tin
    subst ev
    exact ⟨va, _, vc, h1, h2, rfl, ht, h3⟩
  have cR : Hid (∀ W, Below w.heap.size w W → Calls Tryd.prog 14 #[.agg #[.string x.m, .slice a x.t.length c, .string x.f]] W fun e w' => e = .returned (erN (rightN x)) ∧ Below W.heap.size W w') := fun W hW => right_any a c x W ⟨ha.1.below hW, ha.2⟩ (hT.below hW (Nat.le_refl _))
  have hT1 : ∃ T : ByteArray, T.size ≤ 4000000 ∧ (T = (⟨#[]⟩ : ByteArray) ∧ rightN x ≠ 0 ∨ ¬ T = (⟨#[]⟩ : ByteArray) ∧ rightN x = 0 ∧ resS T.data.toList = x ∧ resE T.data.toList = .nilIface) ∧ ∀ W, Below w.heap.size w W → Calls Tryd.prog 17 #[.agg #[.string x.m, .slice a x.t.length c, .string x.f]] W fun e w' => e = .returned (.string T) ∧ Below W.heap.size W w' := by
    by_cases h0 : rightN x = 0
    · refine ⟨ba (printT x), ?_, Or.inr ⟨printT_ne x, h0, ?_, ?_⟩, fun W hW => print_any a c x W ⟨ha.1.below hW, ha.2⟩ (hT.below hW (Nat.le_refl _)) h0 (serM_any x h0)⟩
      · rw [Lib.size_eq, ba_data]; have := printT_le h0; omega
      · rw [ba_data]; exact (res_print h0).1
      · rw [ba_data]; exact (res_print h0).2
    · exact ⟨⟨#[]⟩, by decide, Or.inl ⟨rfl, h0⟩, fun W hW => print_bad a c x W ⟨ha.1.below hW, ha.2⟩ (hT.below hW (Nat.le_refl _)) h0⟩
  obtain ⟨T, hTz, hTc, hTp⟩ := hT1
  have cP : Hid (∀ W, Below w.heap.size w W → Calls Tryd.prog 17 #[.agg #[.string x.m, .slice a x.t.length c, .string x.f]] W fun e w' => e = .returned (.string T) ∧ Below W.heap.size W w') := hTp
  clear hTp
  have cQs : Hid (∀ W, Below w.heap.size w W → Calls Tryd.prog 18 #[.string s] W fun e w' => ∃ v n q, e = .returned (.tuple #[.agg #[.string (resS s.data.toList).m, .slice v n q, .string (resS s.data.toList).f], resE s.data.toList]) ∧ OT w' W.heap.size (.slice v n q) (resS s.data.toList).t ∧ n = (resS s.data.toList).t.length ∧ TgIn w' v (resS s.data.toList).t ∧ Below W.heap.size W w') := fun W hW => cQ.out s W (by omega) hW
  have cPs : Hid (rightN (resS s.data.toList) = 0 → printT (resS s.data.toList) = s.data.toList → ∀ W v n q, Below w.heap.size w W → n = (resS s.data.toList).t.length → TgIn W v (resS s.data.toList).t → Calls Tryd.prog 17 #[.agg #[.string (resS s.data.toList).m, .slice v n q, .string (resS s.data.toList).f]] W fun e w' => e = .returned (.string s) ∧ Below W.heap.size W w') := fun h1 h2 W v n q hW en ht => by
    subst en
    have := print_any v q (resS s.data.toList) W ⟨ht, by have := (right_parts h1).2.2.1; omega⟩ (hT.below hW (Nat.le_refl _)) h1 (serM_any _ h1)
    rw [h2] at this
    exact this
  have cRs : Hid (rightN (resS s.data.toList) = 0 → ∀ W v n q, Below w.heap.size w W → n = (resS s.data.toList).t.length → TgIn W v (resS s.data.toList).t → Calls Tryd.prog 14 #[.agg #[.string (resS s.data.toList).m, .slice v n q, .string (resS s.data.toList).f]] W fun e w' => e = .returned .nilIface ∧ Below W.heap.size W w') := fun h1 W v n q hW en ht => by
    subst en
    have := right_any v q (resS s.data.toList) W ⟨ht, by have := (right_parts h1).2.2.1; omega⟩ (hT.below hW (Nat.le_refl _))
    rw [h1] at this
    exact this
  have cSm : Hid (∀ W v q, Below w.heap.size w W → TgIn W v x.t → Calls Tryd.prog 19 #[.agg #[.string x.m, .slice a x.t.length c, .string x.f], .agg #[.string x.m, .slice v x.t.length q, .string x.f]] W fun e w' => e = .returned (.bool true) ∧ Below W.heap.size W w') := fun W v q hW ht => by
    have := rsame_any a v c q x x W ⟨ha.1.below hW, ha.2⟩ ⟨ht, ha.2⟩
    rw [show decide (serC x x = 0) = true by simp; exact (serC_is.zero x x).2 rfl] at this
    exact this
  obtain ⟨S2, hS2⟩ : ∃ S2, S2 = resS s.data.toList := ⟨_, rfl⟩
  obtain ⟨E2, hE2⟩ : ∃ E2, E2 = resE s.data.toList := ⟨_, rfl⟩
  have hE : (∃ t v, E2 = .iface t v) ∨ (E2 = .nilIface ∧ rightN S2 = 0 ∧ printT S2 = s.data.toList) := by rw [hE2, hS2]; exact res_two _
  rw [← hS2] at cQs cPs cRs
  rw [← hE2] at cQs
  clear hS2 hE2
  obtain ⟨m2, t2, f2⟩ := S2
  simp only at cQs cPs cRs
  have A0 : Hid (SB w w.heap.size x.m (.slice a x.t.length c) x.f (w.alloc (.cells #[.string x.m, .slice a x.t.length c, .string x.f] 24))) := SB.new w x.m _ x.f ⟨_, _, _, rfl⟩ w (Below.refl _ w)
  have hTin : Hid (∀ W W' v, Below W.heap.size W W' → TgIn W v x.t → TgIn W' v x.t) := fun W W' v hb h => h.below hb
  have hTin2 : Hid (∀ W W' v, Below W.heap.size W W' → TgIn W v t2 → TgIn W' v t2) := fun W W' v hb h => h.below hb
  have hxl : Hid (x.t.length = x.t.length) := rfl
  clear hT hg
  obtain ⟨xm, xt, xf⟩ := x
  simp only at cP cR cSm A0 hTin ⊢
  obtain ⟨xn, hxn0⟩ : ∃ xn, xn = xt.length := ⟨_, rfl⟩
  have hxn : Hid (xt.length = xn) := hxn0.symm
  rw [← hxn0] at cP cR cSm A0 ⊢
  clear hxn0 hxl ha
  rcases hTc with ⟨hT0, hrn⟩ | ⟨hT0, hr, e1, e2⟩
  · have cQT := cQ.out T
    obtain ⟨S1, hS1⟩ : ∃ S1, S1 = resS T.data.toList := ⟨_, rfl⟩
    obtain ⟨E1, hE1⟩ : ∃ E1, E1 = resE T.data.toList := ⟨_, rfl⟩
    rw [← hS1, ← hE1] at cQT
    have cQ1 : Hid (∀ W, Below w.heap.size w W → Calls Tryd.prog 18 #[.string ⟨#[]⟩] W fun e w' => ∃ v n q, e = .returned (.tuple #[.agg #[.string S1.m, .slice v n q, .string S1.f], E1]) ∧ OT w' W.heap.size (.slice v n q) S1.t ∧ n = S1.t.length ∧ TgIn w' v S1.t ∧ Below W.heap.size W w') := by rw [← hT0]; exact fun W hW => cQT W hTz hW
    clear hS1 hE1 cQT cQ
    subst hT0
    obtain ⟨M1, t1, F1⟩ := S1
    simp only at cQ1
    rw [erN, if_neg hrn] at cR
    clear hrn
    go_enter Tryd.func4, Tryd.ntmps4
    go_wp2_with fail
    refine Calls.mono (cP.out _ A0.out.1.2) ?_
    rintro e w1 ⟨rfl, B1⟩
    have A1 : Hid (SB w w.heap.size xm (.slice a xn c) xf w1) := A0.out.below B1
    clear B1 A0
    go_wp2_with fail
    refine Calls.mono (cQ1.out _ A1.out.1.2) ?_
    rintro e w2 ⟨v2, n2, q2, rfl, O2, en2, _, B2⟩
    have A2 : Hid (SB w w.heap.size xm (.slice a xn c) xf w2) := A1.out.below B2
    clear B2 A1 O2 en2
    have C3 : Hid (SB w w2.heap.size M1 (.slice v2 n2 q2) F1 (w2.alloc (.cells #[.string M1, .slice v2 n2 q2, .string F1] 24))) := SB.new w M1 _ F1 ⟨_, _, _, rfl⟩ w2 A2.out.1.2
    have A3 : Hid (SB w w.heap.size xm (.slice a xn c) xf (w2.alloc (.cells #[.string M1, .slice v2 n2 q2, .string F1] 24))) := A2.out.below ((Below.refl _ w2).alloc (Nat.le_refl _) _)
    have hNN : Hid (w.heap.size ≤ w2.heap.size) := A2.out.1.2.size
    obtain ⟨⟨_, _⟩, ⟨g0, g1, g2⟩, _, _, _⟩ := A3.out
    clear A2
    go_wp2_with fail
    refine Calls.mono (cR.out _ A3.out.1.2) ?_
    rintro e w4 ⟨rfl, B4⟩
    have A5 : Hid (SB w w.heap.size xm (.slice a xn c) xf w4) := A3.out.below B4
    have C5 : Hid (SB w w2.heap.size M1 (.slice v2 n2 q2) F1 w4) := C3.out.below B4
    clear B4 A3 C3 g0 g1 g2
    generalize w2.heap.size = N at *
    generalize hV1 : Value.slice v2 n2 q2 = V1 at *
    clear hV1
    go_wp2_with fail
    refine Calls.mono (cQs.out _ A5.out.1.2) ?_
    rintro e w6 ⟨v6, n6, q6, rfl, O6, en6, t6, B6⟩
    have C6 : Hid (SB w N M1 V1 F1 w6) := C5.out.below B6
    have hN6 : Hid (w.heap.size ≤ N) := hNN
    have C7 : Hid (SB w N m2 (.slice v6 n6 q6) f2 (((w6.setCell ⟨N, 0, none⟩ (.string m2)).setCell ⟨N, 1, none⟩ (.slice v6 n6 q6)).setCell ⟨N, 2, none⟩ (.string f2))) := C6.out.set hN6.out
    have T7 : Hid (TgIn (((w6.setCell ⟨N, 0, none⟩ (.string m2)).setCell ⟨N, 1, none⟩ (.slice v6 n6 q6)).setCell ⟨N, 2, none⟩ (.string f2)) v6 t2) := by
      have hNl := C5.out.1.1
      have hO : OT (((w6.setCell ⟨N, 0, none⟩ (.string m2)).setCell ⟨N, 1, none⟩ (.slice v6 n6 q6)).setCell ⟨N, 2, none⟩ (.string f2)) _ (.slice v6 n6 q6) t2 := ((O6.grown (grown_set _ N 0 _) hNl).grown (grown_set _ N 1 _) hNl).grown (grown_set _ N 2 _) hNl
      obtain ⟨va, vc, ev, _, ht⟩ := hO.tin
      injection ev with e1 e2 e3
      subst e1
      exact ht
    obtain ⟨⟨_, _⟩, ⟨g0, g1, g2⟩, i0, i1, i2⟩ := C6.out
    have en6H : Hid (n6 = t2.length) := en6
    clear en6 O6 t6 B6 C5 A5
    rcases hE with ⟨tt, vv, rfl⟩ | ⟨rfl, hr2, hp2⟩
    · go_wp2_with fail
      refine Calls.mono (cL.out _ C7.out.1.2) ?_
      rintro e w8 ⟨rfl, B8⟩
      have b8 : Below w.heap.size w w8 := C7.out.1.2.trans (B8.mono C7.out.1.2.size)
      clear B8 g0 g1 g2 i0 i1 i2
      go_wp2_with fail
      go_ret
      exact ⟨rfl, b8⟩
    · go_wp2_with fail
      refine Calls.mono (cL.out _ C7.out.1.2) ?_
      rintro e w8 ⟨rfl, B8⟩
      have C8 : Hid (SB w N m2 (.slice v6 n6 q6) f2 w8) := C7.out.below B8
      have T8 := hTin2.out _ _ _ B8 T7.out
      clear B8 g0 g1 g2 i0 i1 i2 C7 T7 C6
      obtain ⟨⟨_, b8⟩, ⟨g0, g1, g2⟩, _, _, _⟩ := C8.out
      have T8H : Hid (TgIn w8 v6 t2) := T8
      have b8H : Hid (Below w.heap.size w w8) := b8
      clear T8 b8
      go_wp2_with fail
      refine Calls.mono (cPs.out hr2 hp2 _ v6 n6 q6 b8H.out en6H.out T8H.out) ?_
      rintro e w9 ⟨rfl, B9⟩
      have C9 : Hid (SB w N m2 (.slice v6 n6 q6) f2 w9) := C8.out.below B9
      have T9 : Hid (TgIn w9 v6 t2) := hTin2.out _ _ _ B9 T8H.out
      clear B9 g0 g1 g2 C8
      obtain ⟨⟨_, b9⟩, ⟨g0, g1, g2⟩, _, _, _⟩ := C9.out
      have b9H : Hid (Below w.heap.size w w9) := b9
      clear b9
      go_wp2_with fail
      refine Calls.mono (cRs.out hr2 _ v6 n6 q6 b9H.out en6H.out T9.out) ?_
      rintro e w10 ⟨rfl, B10⟩
      have b10 : Below w.heap.size w w10 := b9H.out.trans (B10.mono b9H.out.size)
      go_wp2_with fail
      go_ret
      exact ⟨by simp, b10⟩
  · have cQT := cQ.out T
    rw [e1, e2] at cQT
    have cQ1 : Hid (∀ W, Below w.heap.size w W → Calls Tryd.prog 18 #[.string T] W fun e w' => ∃ v q, e = .returned (.tuple #[.agg #[.string xm, .slice v xn q, .string xf], .nilIface]) ∧ TgIn w' v xt ∧ Below W.heap.size W w') := fun W hW => (cQT W hTz hW).mono fun e w' hx => by
      obtain ⟨v, n, q, h1, h2, h3, h4, h5⟩ := hx
      rw [h3] at h1
      exact ⟨v, q, by rw [← hxn.out]; exact h1, h4, h5⟩
    clear e1 e2 cQT cQ
    rw [hr, show erN 0 = .nilIface from rfl] at cR
    clear hr
    have hTn : ¬ T.toList = [] := fun e => hT0 (by rw [ByteArray.toList_eq] at e; apply ByteArray.ext; apply Array.ext'; simpa using e)
    have hTb : T.toList.isEmpty = false := by cases h : T.toList with | nil => exact absurd h hTn | cons _ _ => rfl
    go_enter Tryd.func4, Tryd.ntmps4
    go_wp2_with fail
    refine Calls.mono (cP.out _ A0.out.1.2) ?_
    rintro e w1 ⟨rfl, B1⟩
    have A1 : Hid (SB w w.heap.size xm (.slice a xn c) xf w1) := A0.out.below B1
    clear B1 A0
    go_wp2_with fail
    refine Calls.mono (cQ1.out _ A1.out.1.2) ?_
    rintro e w2 ⟨v2, q2, rfl, T2, B2⟩
    have A2 : Hid (SB w w.heap.size xm (.slice a xn c) xf w2) := A1.out.below B2
    have T2H : Hid (TgIn w2 v2 xt) := T2
    clear B2 A1 T2
    have C3 : Hid (SB w w2.heap.size xm (.slice v2 xn q2) xf (w2.alloc (.cells #[.string xm, .slice v2 xn q2, .string xf] 24))) := SB.new w xm _ xf ⟨_, _, _, rfl⟩ w2 A2.out.1.2
    have A3 : Hid (SB w w.heap.size xm (.slice a xn c) xf (w2.alloc (.cells #[.string xm, .slice v2 xn q2, .string xf] 24))) := A2.out.below ((Below.refl _ w2).alloc (Nat.le_refl _) _)
    have T3 : Hid (TgIn (w2.alloc (.cells #[.string xm, .slice v2 xn q2, .string xf] 24)) v2 xt) := hTin.out _ _ _ ((Below.refl _ w2).alloc (Nat.le_refl _) _) T2H.out
    have hNN : Hid (w.heap.size ≤ w2.heap.size) := A2.out.1.2.size
    obtain ⟨⟨_, _⟩, ⟨g0, g1, g2⟩, _, _, _⟩ := A3.out
    clear A2 T2H
    go_wp2_with fail
    refine Calls.mono (cR.out _ A3.out.1.2) ?_
    rintro e w4 ⟨rfl, B4⟩
    have A4 : Hid (SB w w.heap.size xm (.slice a xn c) xf w4) := A3.out.below B4
    have C4 : Hid (SB w w2.heap.size xm (.slice v2 xn q2) xf w4) := C3.out.below B4
    have T4 : Hid (TgIn w4 v2 xt) := hTin.out _ _ _ B4 T3.out
    clear B4 A3 C3 T3 g0 g1 g2
    generalize w2.heap.size = N at *
    obtain ⟨⟨_, _⟩, ⟨g0, g1, g2⟩, _, _, _⟩ := A4.out
    obtain ⟨⟨_, _⟩, ⟨j0, j1, j2⟩, _, _, _⟩ := C4.out
    go_wp2_with fail
    refine Calls.mono (cSm.out _ v2 q2 A4.out.1.2 T4.out) ?_
    rintro e w5 ⟨rfl, B5⟩
    have A5 : Hid (SB w w.heap.size xm (.slice a xn c) xf w5) := A4.out.below B5
    have C5 : Hid (SB w N xm (.slice v2 xn q2) xf w5) := C4.out.below B5
    clear B5 A4 C4 T4 g0 g1 g2 j0 j1 j2
    generalize hV1 : Value.slice v2 xn q2 = V1 at *
    clear hV1
    go_wp2_with fail
    refine Calls.mono (cQs.out _ A5.out.1.2) ?_
    rintro e w6 ⟨v6, n6, q6, rfl, O6, en6, t6, B6⟩
    have C6 : Hid (SB w N xm V1 xf w6) := C5.out.below B6
    have hN6 : Hid (w.heap.size ≤ N) := hNN
    have C7 : Hid (SB w N m2 (.slice v6 n6 q6) f2 (((w6.setCell ⟨N, 0, none⟩ (.string m2)).setCell ⟨N, 1, none⟩ (.slice v6 n6 q6)).setCell ⟨N, 2, none⟩ (.string f2))) := C6.out.set hN6.out
    have T7 : Hid (TgIn (((w6.setCell ⟨N, 0, none⟩ (.string m2)).setCell ⟨N, 1, none⟩ (.slice v6 n6 q6)).setCell ⟨N, 2, none⟩ (.string f2)) v6 t2) := by
      have hNl := C5.out.1.1
      have hO : OT (((w6.setCell ⟨N, 0, none⟩ (.string m2)).setCell ⟨N, 1, none⟩ (.slice v6 n6 q6)).setCell ⟨N, 2, none⟩ (.string f2)) _ (.slice v6 n6 q6) t2 := ((O6.grown (grown_set _ N 0 _) hNl).grown (grown_set _ N 1 _) hNl).grown (grown_set _ N 2 _) hNl
      obtain ⟨va, vc, ev, _, ht⟩ := hO.tin
      injection ev with e1 e2 e3
      subst e1
      exact ht
    obtain ⟨⟨_, _⟩, ⟨g0, g1, g2⟩, i0, i1, i2⟩ := C6.out
    have en6H : Hid (n6 = t2.length) := en6
    clear en6 O6 t6 B6 C5 A5
    rcases hE with ⟨tt, vv, rfl⟩ | ⟨rfl, hr2, hp2⟩
    · go_wp2_with fail
      refine Calls.mono (cL.out _ C7.out.1.2) ?_
      rintro e w8 ⟨rfl, B8⟩
      have b8 : Below w.heap.size w w8 := C7.out.1.2.trans (B8.mono C7.out.1.2.size)
      clear B8 g0 g1 g2 i0 i1 i2
      go_wp2_with fail
      go_ret
      exact ⟨rfl, b8⟩
    · go_wp2_with fail
      refine Calls.mono (cL.out _ C7.out.1.2) ?_
      rintro e w8 ⟨rfl, B8⟩
      have C8 : Hid (SB w N m2 (.slice v6 n6 q6) f2 w8) := C7.out.below B8
      have T8 := hTin2.out _ _ _ B8 T7.out
      clear B8 g0 g1 g2 i0 i1 i2 C7 T7 C6
      obtain ⟨⟨_, b8⟩, ⟨g0, g1, g2⟩, _, _, _⟩ := C8.out
      have T8H : Hid (TgIn w8 v6 t2) := T8
      have b8H : Hid (Below w.heap.size w w8) := b8
      clear T8 b8
      go_wp2_with fail
      refine Calls.mono (cPs.out hr2 hp2 _ v6 n6 q6 b8H.out en6H.out T8H.out) ?_
      rintro e w9 ⟨rfl, B9⟩
      have C9 : Hid (SB w N m2 (.slice v6 n6 q6) f2 w9) := C8.out.below B9
      have T9 : Hid (TgIn w9 v6 t2) := hTin2.out _ _ _ B9 T8H.out
      clear B9 g0 g1 g2 C8
      obtain ⟨⟨_, b9⟩, ⟨g0, g1, g2⟩, _, _, _⟩ := C9.out
      have b9H : Hid (Below w.heap.size w w9) := b9
      clear b9
      go_wp2_with fail
      refine Calls.mono (cRs.out hr2 _ v6 n6 q6 b9H.out en6H.out T9.out) ?_
      rintro e w10 ⟨rfl, B10⟩
      have b10 : Below w.heap.size w w10 := b9H.out.trans (B10.mono b9H.out.size)
      go_wp2_with fail
      go_ret
      exact ⟨by simp, b10⟩
end Go.Proofs.YtcpookhnbigkgaaDoor
