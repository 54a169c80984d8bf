
import Derived.Test.YtpilohnlkckpfaaDoorKzD
import Derived.Test.YtpilohnlkckpfaaDoorKyM
namespace Go.Proofs.YtpilohnlkckpfaaDoor
open Go.RowKit Go.Shelf
set_option linter.unusedVariables false
set_option linter.unusedSimpArgs false
theorem fieldBad (a b c d e : Value) (w : World) : (Instr.field 35 (.agg #[a, b, c, d, e]) 0).run Tryd.prog w = .ok a w := by kernel_rfl
set_option maxRecDepth 100000 in
set_option maxHeartbeats 8000000 in
theorem rprint_bad (a : Option Addr) (c : Nat) (s : SerP) (w : World) (ha : SerIn w a s) (hr : rightN s ≠ 0) :
    Calls Tryd.prog 18 #[.agg #[.string s.m, .slice a s.t.length c, .string s.f]] w fun e w' => e = .returned (.string ⟨#[]⟩) ∧ Below w.heap.size w w' := by
  have B1 : ∀ o, Below w.heap.size w (w.alloc o) := fun o => (Below.refl _ w).alloc (Nat.le_refl _) o
  have cR : Hid (∀ o, Calls Tryd.prog 35 #[.agg #[.string s.m, .slice a s.t.length c, .string s.f]] (w.alloc o) fun e w' => e = .returned (bdV (rightN s)) ∧ Below (w.alloc o).heap.size (w.alloc o) w') := fun o => rrightS_any a c s _ ⟨ha.1.below (B1 o), ha.2⟩
  generalize rightN s = r at cR hr
  have hr0 : (r == 0) = false := by simpa using hr
  obtain ⟨sm, st, sf⟩ := s
  simp only at cR ⊢
  generalize st.length = n at cR ⊢
  clear hr ha
  go_enter Tryd.func18, Tryd.ntmps18
  go_wp2_with fail
  refine Calls.mono (cR.out _) ?_
  rintro e w1 ⟨rfl, hb⟩
  simp only [bdV]
  have hB := (B1 _).trans (hb.mono (B1 _).size)
  go_wp2_with (simp only [fieldBad])
  go_ret
  exact ⟨rfl, hB⟩
theorem sz_esc2 (s : ByteArray) : (⟨(escL s.data.toList).toArray⟩ : ByteArray).size ≤ 2 * s.size := by
  have := escL_len s.data.toList
  rw [Lib.size_eq s]; exact this
def PI (s : SerP) (o : ByteArray) (k : Nat) : Prop := o.data.toList = escL s.m.data.toList ++ (s.t.take k).flatMap tagT ∧ o.size ≤ 128 + 642 * k
theorem w64_succ (k : Nat) (h : k < 4294967296) : wrap64 ((k : Int) + 1) = (k : Int) + 1 := IntWalk.wrap64_in _ (by omega)
theorem i64_succ (k : Nat) (h : k < 4294967296) : IntKind.i64.wrap ((k : Int) + 1) = (k : Int) + 1 := IntWalk.i64_in _ (by omega)
theorem meas_lt {n k : Nat} (h : k < n) : n - ((k : Int) + 1).toNat < n - (k : Int).toNat := by omega
theorem PI.next {s : SerP} {o : ByteArray} {k : Nat} {t : TagP} (h : PI s o k) (ht : s.t[k]? = some t) (hz : t.1.size ≤ 64 ∧ t.2.size ≤ 256) : PI s (o ++ (⟨#[44]⟩ ++ ⟨(escL t.1.data.toList).toArray⟩ ++ ⟨#[61]⟩ ++ ⟨(escL t.2.data.toList).toArray⟩)) (k + 1) := by
  obtain ⟨h1, h2⟩ := h
  refine ⟨?_, ?_⟩
  · rw [app_list, app_list, app_list, app_list, h1, List.take_add_one, ht]
    simp [tagT]
  · have a1 := sz_esc2 t.1
    have a2 := sz_esc2 t.2
    have e44 : (⟨#[44]⟩ : ByteArray).size = 1 := rfl
    have e61 : (⟨#[61]⟩ : ByteArray).size = 1 := rfl
    rw [ByteArray.size_append, ByteArray.size_append, ByteArray.size_append, ByteArray.size_append]; omega
theorem PI.done {s : SerP} {o R : ByteArray} {k : Nat} (h : PI s o k) (hk : s.t.length ≤ k) (hR : R = ⟨(printT s).toArray⟩) : R = o ++ ⟨#[32]⟩ ++ ⟨(escL s.f.data.toList).toArray⟩ := by
  obtain ⟨h1, h2⟩ := h
  rw [List.take_of_length_le hk] at h1
  subst hR
  apply ByteArray.ext
  apply Array.toList_inj.1
  rw [app_list, app_list, h1]
  simp [printT]
def PT (w : World) (a : Option Addr) (n c : Nat) (sm sf : ByteArray) (W : World) : Prop := W.cell? ⟨w.heap.size, 0, none⟩ = some (.string sm) ∧ W.cell? ⟨w.heap.size, 1, none⟩ = some (.slice a n c) ∧ W.cell? ⟨w.heap.size, 2, none⟩ = some (.string sf) ∧ w.heap.size < W.heap.size ∧ Below w.heap.size w W
theorem PT_of {w W : World} {a : Option Addr} {n c : Nat} {sm sf : ByteArray} {X Y : Prop} (h : Below w.heap.size w W ∧ w.heap.size < W.heap.size ∧ W.cell? ⟨w.heap.size, 0, none⟩ = some (.string sm) ∧ W.cell? ⟨w.heap.size, 1, none⟩ = some (.slice a n c) ∧ W.cell? ⟨w.heap.size, 2, none⟩ = some (.string sf) ∧ X ∧ Y) : PT w a n c sm sf W := ⟨h.2.2.1, h.2.2.2.1, h.2.2.2.2.1, h.2.1, h.1⟩
theorem PT.below {w W W' : World} {a : Option Addr} {n c : Nat} {sm sf : ByteArray} (h : PT w a n c sm sf W) (hb : Below W.heap.size W W') : PT w a n c sm sf W' := by
  obtain ⟨h0, h1, h2, h3, h5⟩ := h
  refine ⟨?_, ?_, ?_, Nat.lt_of_lt_of_le h3 hb.size, h5.trans (hb.mono h5.size)⟩
  · rw [hb.cell (p := ⟨w.heap.size, 0, none⟩) h3]; exact h0
  · rw [hb.cell (p := ⟨w.heap.size, 1, none⟩) h3]; exact h1
  · rw [hb.cell (p := ⟨w.heap.size, 2, none⟩) h3]; exact h2
theorem PT.drewN {w W : World} {a : Option Addr} {n c : Nat} {sm sf : ByteArray} (h : PT w a n c sm sf W) : ∀ q, PT w a n c sm sf (W.drewN q)
  | 0 => h
  | q + 1 => by have i := PT.drewN h q; exact ⟨i.1, i.2.1, i.2.2.1, i.2.2.2.1, i.2.2.2.2.drew⟩
set_option maxRecDepth 100000 in
set_option maxHeartbeats 16000000 in
theorem rprint_any (a : Option Addr) (c : Nat) (s : SerP) (w : World) (ha : SerIn w a s) (hr : rightN s = 0) :
    Calls Tryd.prog 18 #[.agg #[.string s.m, .slice a s.t.length c, .string s.f]] w fun e w' => e = .returned (.string ⟨(printT s).toArray⟩) ∧ Below w.heap.size w w' := by
  obtain ⟨z1, z2, z3, z4⟩ := right_parts hr
  have B1 : ∀ o, Below w.heap.size w (w.alloc o) := fun o => (Below.refl _ w).alloc (Nat.le_refl _) o
  have cR : Hid (∀ o, Calls Tryd.prog 35 #[.agg #[.string s.m, .slice a s.t.length c, .string s.f]] (w.alloc o) fun e w' => e = .returned (bdV 0) ∧ Below (w.alloc o).heap.size (w.alloc o) w') := fun o => hr ▸ rrightS_any a c s _ ⟨ha.1.below (B1 o), ha.2⟩
  obtain ⟨sm, st, sf⟩ := s
  simp only at z1 z2 z3 z4 cR ⊢
  have hA : Hid (TgIn w a st) := ha.1
  have cM : Hid (∀ W, Calls Tryd.prog 15 #[.string sm] W fun e w' => e = .returned (.string ⟨(escL sm.data.toList).toArray⟩) ∧ Below W.heap.size W w') := fun W => rescape_any sm W (by omega)
  have cF : Hid (∀ W, Calls Tryd.prog 15 #[.string sf] W fun e w' => e = .returned (.string ⟨(escL sf.data.toList).toArray⟩) ∧ Below W.heap.size W w') := fun W => rescape_any sf W (by omega)
  have zM := sz_esc2 sm
  have zF := sz_esc2 sf
  have hI0 : PI ⟨sm, st, sf⟩ ⟨(escL sm.data.toList).toArray⟩ 0 := ⟨by simp, by omega⟩
  obtain ⟨R, hR⟩ : ∃ R : ByteArray, R = ⟨(printT ⟨sm, st, sf⟩).toArray⟩ := ⟨_, rfl⟩
  have hRH : Hid (R = ⟨(printT ⟨sm, st, sf⟩).toArray⟩) := hR
  rw [← hR]
  clear hR ha hr
  have hz4 : Hid (∀ t ∈ st, t.1.size ≤ 64 ∧ t.2.size ≤ 256) := z4
  clear z4
  obtain ⟨n, hn⟩ : ∃ n, st.length = n := ⟨_, rfl⟩
  have hN : Hid (st.length = n) := hn
  rw [hn] at z3 cR ⊢
  clear hn
  have T0 : PT w a n c sm sf (w.alloc (.cells #[.string sm, .slice a n c, .string sf] 24)) := ⟨by simp [go_sem], by simp [go_sem], by simp [go_sem], by simp, B1 _⟩
  go_enter Tryd.func18, Tryd.ntmps18
  go_wp2_with fail
  refine Calls.mono (cR.out _) ?_
  rintro e w1 ⟨rfl, hb⟩
  have T1 := T0.below hb
  clear T0 hb cR
  simp only [bdV]
  obtain ⟨x0, x1, x2, x3, x4⟩ := T1
  have T1 : PT w a n c sm sf w1 := ⟨x0, x1, x2, x3, x4⟩
  go_wp2_with (simp only [fieldBad])
  refine Calls.mono (cM.out _) ?_
  rintro e w2 ⟨rfl, hb⟩
  have T2 := T1.below hb
  clear T1 hb cM x0 x1 x2 x3 x4
  generalize (⟨(escL sm.data.toList).toArray⟩ : ByteArray) = E0 at *
  go_wp2_with fail
  go_loopw [3, 4] (fun o i wr => ∃ (k : Nat) (b : ByteArray), i = .int .i64 (k : Int) ∧ o = .string b ∧ k ≤ n ∧ PI ⟨sm, st, sf⟩ b k ∧ PT w a n c sm sf wr) (fun _ i _ => n - (intOf i).toNat)
  case atStart => exact ⟨0, E0, rfl, rfl, Nat.zero_le _, hI0, T2⟩
  case round =>
    obtain ⟨k, b, rfl, rfl, hkn, hI, hT⟩ := hrel
    obtain ⟨x0, x1, x2, x3, x4⟩ := hT
    have hT : PT w a n c sm sf wr := ⟨x0, x1, x2, x3, x4⟩
    by_cases hk : k < n
    · have hkI : (k : Int) < (n : Int) := by omega
      have hk9 : k < 4294967296 := by omega
      obtain ⟨t, ht⟩ : ∃ t, st[k]? = some t := ⟨_, List.getElem?_eq_getElem (by have := hN.out; omega)⟩
      obtain ⟨b1, o1, rfl, hb1, t1, t2⟩ := hA.out.at x4 ht
      have hIn := hI.next ht (hz4.out t (List.mem_of_getElem? ht))
      have hzt := hz4.out t (List.mem_of_getElem? ht)
      have hsz := hI.2
      obtain ⟨ta, tb⟩ := t
      simp only at t1 t2 hIn hzt
      have cK : Hid (∀ W, Calls Tryd.prog 15 #[.string ta] W fun e w' => e = .returned (.string ⟨(escL ta.data.toList).toArray⟩) ∧ Below W.heap.size W w') := fun W => rescape_any ta W (by omega)
      have cV : Hid (∀ W, Calls Tryd.prog 15 #[.string tb] W fun e w' => e = .returned (.string ⟨(escL tb.data.toList).toArray⟩) ∧ Below W.heap.size W w') := fun W => rescape_any tb W (by omega)
      have zK := sz_esc2 ta
      have zV := sz_esc2 tb
      generalize (⟨(escL ta.data.toList).toArray⟩ : ByteArray) = EK at *
      generalize (⟨(escL tb.data.toList).toArray⟩ : ByteArray) = EV at *
      have e44 : (⟨#[44]⟩ : ByteArray).size = 1 := rfl
      have e61 : (⟨#[61]⟩ : ByteArray).size = 1 := rfl
      have q1 : ∀ W, (Op.stringOp .add ⟨#[44]⟩ EK).run Tryd.prog W = .ok (.string (⟨#[44]⟩ ++ EK)) W := fun W => cat_run _ _ (by omega) W
      have q2 : ∀ W, (Op.stringOp .add (⟨#[44]⟩ ++ EK) ⟨#[61]⟩).run Tryd.prog W = .ok (.string (⟨#[44]⟩ ++ EK ++ ⟨#[61]⟩)) W := fun W => cat_run _ _ (by rw [ByteArray.size_append]; omega) W
      have q3 : ∀ W, (Op.stringOp .add (⟨#[44]⟩ ++ EK ++ ⟨#[61]⟩) EV).run Tryd.prog W = .ok (.string (⟨#[44]⟩ ++ EK ++ ⟨#[61]⟩ ++ EV)) W := fun W => cat_run _ _ (by rw [ByteArray.size_append, ByteArray.size_append]; omega) W
      have q4 : ∀ W, (Op.stringOp .add b (⟨#[44]⟩ ++ EK ++ ⟨#[61]⟩ ++ EV)).run Tryd.prog W = .ok (.string (b ++ (⟨#[44]⟩ ++ EK ++ ⟨#[61]⟩ ++ EV))) W := fun W => cat_run _ _ (by rw [ByteArray.size_append, ByteArray.size_append, ByteArray.size_append]; omega) W
      have gM : Hid (n - ((k : Int) + 1).toNat < n - (k : Int).toNat) := meas_lt hk
      have g2 : k + 1 ≤ n := hk
      have hw1 : wrap64 ((k : Int) + 1) = (k : Int) + 1 := w64_succ k hk9
      have hw2 : IntKind.i64.wrap ((k : Int) + 1) = (k : Int) + 1 := i64_succ k hk9
      have S1d : Below w.heap.size w wr.drew ∧ w.heap.size < wr.drew.heap.size ∧ wr.drew.cell? ⟨w.heap.size, 0, none⟩ = some (.string sm) ∧ wr.drew.cell? ⟨w.heap.size, 1, none⟩ = some (.slice (some ⟨b1, o1, none⟩) n c) ∧ wr.drew.cell? ⟨w.heap.size, 2, none⟩ = some (.string sf) ∧ wr.drew.cell? ⟨b1, o1 + k * 2, none⟩ = some (.string ta) ∧ wr.drew.cell? ⟨b1, o1 + k * 2 + 1, none⟩ = some (.string tb) := ⟨x4.drew, x3, x0, x1, x2, t1, t2⟩
      have hK : Hid (∀ W W' : World, Below W.heap.size W W' → (Below w.heap.size w W ∧ w.heap.size < W.heap.size ∧ W.cell? ⟨w.heap.size, 0, none⟩ = some (.string sm) ∧ W.cell? ⟨w.heap.size, 1, none⟩ = some (.slice (some ⟨b1, o1, none⟩) n c) ∧ W.cell? ⟨w.heap.size, 2, none⟩ = some (.string sf) ∧ W.cell? ⟨b1, o1 + k * 2, none⟩ = some (.string ta) ∧ W.cell? ⟨b1, o1 + k * 2 + 1, none⟩ = some (.string tb)) → (Below w.heap.size w W' ∧ w.heap.size < W'.heap.size ∧ W'.cell? ⟨w.heap.size, 0, none⟩ = some (.string sm) ∧ W'.cell? ⟨w.heap.size, 1, none⟩ = some (.slice (some ⟨b1, o1, none⟩) n c) ∧ W'.cell? ⟨w.heap.size, 2, none⟩ = some (.string sf) ∧ W'.cell? ⟨b1, o1 + k * 2, none⟩ = some (.string ta) ∧ W'.cell? ⟨b1, o1 + k * 2 + 1, none⟩ = some (.string tb))) := by
        intro W W' hb ⟨k0, k1, k2, k3, k4, k5, k6⟩
        have hs := k0.size
        refine ⟨k0.trans (hb.mono k0.size), Nat.lt_of_lt_of_le k1 hb.size, ?_, ?_, ?_, ?_, ?_⟩
        · rw [hb.cell (p := ⟨w.heap.size, 0, none⟩) k1]; exact k2
        · rw [hb.cell (p := ⟨w.heap.size, 1, none⟩) k1]; exact k3
        · rw [hb.cell (p := ⟨w.heap.size, 2, none⟩) k1]; exact k4
        · rw [hb.cell (p := ⟨b1, o1 + k * 2, none⟩) (show b1 < _ by omega)]; exact k5
        · rw [hb.cell (p := ⟨b1, o1 + k * 2 + 1, none⟩) (show b1 < _ by omega)]; exact k6
      have hInH : Hid (PI ⟨sm, st, sf⟩ (b ++ (⟨#[44]⟩ ++ EK ++ ⟨#[61]⟩ ++ EV)) (k + 1)) := hIn
      clear hIn hzt hsz zK zV e44 e61 hI hT ht hz4 hI0 T2
      go_wp2_with fail
      go_region_held3 (fun W => Below w.heap.size w W ∧ w.heap.size < W.heap.size ∧ W.cell? ⟨w.heap.size, 0, none⟩ = some (.string sm) ∧ W.cell? ⟨w.heap.size, 1, none⟩ = some (.slice (some ⟨b1, o1, none⟩) n c) ∧ W.cell? ⟨w.heap.size, 2, none⟩ = some (.string sf) ∧ W.cell? ⟨b1, o1 + k * 2, none⟩ = some (.string ta) ∧ W.cell? ⟨b1, o1 + k * 2 + 1, none⟩ = some (.string tb)) (first | assumption)
        (first
          | (go_at_call 15; (with_reducible refine Calls.mono (cK.out _) ?_); rintro e w' ⟨rfl, BB⟩; have SS := hK.out _ _ BB (by assumption))
          | (go_at_call 15; (with_reducible refine Calls.mono (cV.out _) ?_); rintro e w' ⟨rfl, BB⟩; have SS := hK.out _ _ BB (by assumption))
          | (simp only [q1, q2, q3, q4]))
      all_goals
        go_wp2_with fail
        go_round
        case measure => simp only [intOf]; exact gM.out
        case rel => exact ⟨k + 1, _, by simp only [Int.natCast_add, Int.cast_ofNat_Int], rfl, g2, hInH.out, PT_of (by assumption)⟩
    · have hkI : ¬ (k : Int) < (n : Int) := by omega
      have hkn' : k = n := by omega
      have hsz := hI.2
      have hfin := hI.done (show st.length ≤ k by have := hN.out; omega) hRH.out
      simp only at hfin
      generalize (⟨(escL sf.data.toList).toArray⟩ : ByteArray) = EF at *
      have e32 : (⟨#[32]⟩ : ByteArray).size = 1 := rfl
      have q1 : ∀ W, (Op.stringOp .add b ⟨#[32]⟩).run Tryd.prog W = .ok (.string (b ++ ⟨#[32]⟩)) W := fun W => cat_run _ _ (by omega) W
      have q2 : ∀ W, (Op.stringOp .add (b ++ ⟨#[32]⟩) EF).run Tryd.prog W = .ok (.string (b ++ ⟨#[32]⟩ ++ EF)) W := fun W => cat_run _ _ (by rw [ByteArray.size_append]; omega) W
      subst hfin
      clear hI hsz e32 hI0 T2 hRH hT hkn'
      go_wp2_with (simp only [q1, q2])
      refine Calls.mono (cF.out _) ?_
      rintro e w3 ⟨rfl, B3⟩
      go_wp2_with (simp only [q1, q2])
      go_ret
      exact ⟨rfl, x4.trans (B3.mono x4.size)⟩
end Go.Proofs.YtpilohnlkckpfaaDoor
