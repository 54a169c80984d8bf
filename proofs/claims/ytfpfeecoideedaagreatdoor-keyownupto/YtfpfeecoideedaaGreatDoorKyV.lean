
import Derived.Test.YtfpfeecoideedaaGreatDoorKyU
namespace Go.Proofs.YtfpfeecoideedaaGreatDoor
open Go.RowKit Go.Shelf
attribute [local go_sem] Oper.semAt_some
set_option linter.unusedVariables false
set_option linter.unusedSimpArgs false
def UI (s : ByteArray) (w : World) (pre : List (Nat × Nat)) (W : World) : Prop := ∃ e acc, stU s.data.toList false [] pre = some (e, acc) ∧ acc.length ≤ pre.length * (s.size + 1) ∧ US s w e acc W
def UX (s : ByteArray) (w : World) (pre : List (Nat × Nat)) (W : World) : Prop := ∃ pre' x e acc, pre = pre' ++ [x] ∧ stU s.data.toList false [] pre' = some (e, acc) ∧ Below w.heap.size w W ∧
  ((e = true ∧ ¬ 0 ≤ idxM ((s.data.toList.drop x.1).take x.2) ∧ RS w ⟨#[]⟩ 0 (atV (wrap64 ((x.1 : Int) - 1))) W) ∨ (e = false ∧ (s.data.toList.drop x.1).take x.2 ≠ [92] ∧ 0 ≤ idxM ((s.data.toList.drop x.1).take x.2) ∧ RS w ⟨acc.toArray⟩ (x.1 : Int) .nilIface W))
theorem UI.own (s : ByteArray) (w : World) (B : Nat) (hB : w.heap.size ≤ B) : OwnFrom B (UI s w) := fun q W W' row h hg hr => by
  obtain ⟨e, acc, h1, h2, h3⟩ := h
  exact ⟨e, acc, h1, h2, h3.own hB hg hr⟩
theorem UX.own (s : ByteArray) (w : World) (B : Nat) (hB : w.heap.size ≤ B) (c : Code) : OwnFrom B (fun pre W => c = .ret ∧ UX s w pre W) := fun q W W' row h hg hr => by
  obtain ⟨hc, p, x, e, acc, h1, h2, h3, h4⟩ := h
  have hr2 : ∀ r, row = some r → ∃ o : Obj, W.heap[r]? = some o ∧ o.isCells = false := fun r e => (hr r e).2
  have hg' := hg
  obtain ⟨g1, g2, g3, g4, g5⟩ := hg
  refine ⟨hc, p, x, e, acc, h1, h2, h3.trans ⟨g1, g2, g3, g4, fun k hk => g5 k (by have := h3.size; omega) (fun e => by have := (hr k e.symm).1; omega)⟩, ?_⟩
  rcases h4 with ⟨a1, a2, a3⟩ | ⟨a1, a2, a3, a4⟩
  · exact .inl ⟨a1, a2, a3.own hg' hr2⟩
  · exact .inr ⟨a1, a2, a3, a4.own hg' hr2⟩
theorem cuts_in (l : List UInt8) : ∀ n k x, x ∈ cutsF l n k → x.1 < l.length
  | 0, k, x, h => by cases h
  | n + 1, k, x, h => by
    unfold cutsF at h
    by_cases hk : k < l.length
    · rw [if_pos hk] at h
      rcases List.mem_cons.1 h with rfl | h
      · exact hk
      · exact cuts_in l n _ x h
    · rw [if_neg hk] at h; cases h
/-- what Unescape answers. -/
def outV : Out → Value
  | .ok t n => .tuple #[.string ⟨t.toArray⟩, .int .i64 (n : Int), .nilIface]
  | .bad p => .tuple #[.string ⟨#[]⟩, .int .i64 0, atV p]
set_option maxHeartbeats 16000000 in
set_option maxRecDepth 100000 in
theorem unescape_any (s : ByteArray) (w : World) (hs : s.size ≤ 4000000) (hM : ∀ a b, MkOk (s.extract a b)) : Calls Tryz.prog 71 #[.string s] w fun e w' => e = .returned (outV (uneT s.data.toList)) ∧ Below w.heap.size w w' := by
  have hlen : Hid (s.data.toList.length = s.size) := (Lib.size_eq s).symm
  have hMH : Hid (∀ a b, MkOk (s.extract a b)) := hM
  clear hM
  refine (callsIn_wide (n := 9)).1 ?_
  refine callsIn_of_wp_marks Tryz.func71 rfl trivial ?_ rfl
  simp only [Tryz.ntmps71, List.size_toArray, List.length_cons, List.length_nil, Nat.reduceAdd, Nat.reduceSub, Array.replicate_succ, Array.replicate_zero, List.push_toArray, List.append_toArray, List.nil_append, List.cons_append]
  gi_wp2
  refine ⟨trivial, ?_⟩
  refine (callsIn_wide.2 (pieces_any s _)).mono ?_
  rintro e w1 ⟨rfl, hw1⟩
  simp only [World.size_alloc]
  have hUS : US s w false [] w1 := by
    subst hw1
    have hb := builder_new (((w.alloc (.cells #[.string ⟨#[]⟩] 9)).alloc (.cells #[.int .i64 0] 3)).alloc (.cells #[.nilIface] 26))
    have hz : (((w.alloc (.cells #[.string ⟨#[]⟩] 9)).alloc (.cells #[.int .i64 0] 3)).alloc (.cells #[.nilIface] 26)).heap.size = w.heap.size + 3 := by simp
    rw [hz] at hb
    have b0 := Boxed.new w 9 (.string ⟨#[]⟩)
    have b1 := Boxed.new (w.alloc (.cells #[.string ⟨#[]⟩] 9)) 3 (.int .i64 0)
    have b2 := Boxed.new ((w.alloc (.cells #[.string ⟨#[]⟩] 9)).alloc (.cells #[.int .i64 0] 3)) 26 .nilIface
    have b4 := Boxed.new ((((w.alloc (.cells #[.string ⟨#[]⟩] 9)).alloc (.cells #[.int .i64 0] 3)).alloc (.cells #[.nilIface] 26)).alloc (.cells #[.pointer none, .slice none 0 0] 110)) 4 (.bool false)
    have b5 := Boxed.new (((((w.alloc (.cells #[.string ⟨#[]⟩] 9)).alloc (.cells #[.int .i64 0] 3)).alloc (.cells #[.nilIface] 26)).alloc (.cells #[.pointer none, .slice none 0 0] 110)).alloc (.cells #[.bool false] 4)) 9 (.string s)
    simp only [World.size_alloc, Nat.add_assoc, Nat.reduceAdd] at b1 b2 b4 b5
    refine ⟨(hb.alloc _).alloc _, b4.alloc _, b5, ⟨((((b0.alloc _).alloc _).alloc _).alloc _).alloc _, (((b1.alloc _).alloc _).alloc _).alloc _, ((b2.alloc _).alloc _).alloc _⟩, ?_⟩
    exact ((((((Below.refl _ w).alloc (Nat.le_refl _) _).alloc (by simp) _).alloc (by simp; omega) _).alloc (by simp; omega) _).alloc (by simp; omega) _).alloc (by simp; omega) _
  have hsz : w1.heap.size = w.heap.size + 6 := by rw [hw1]; simp
  have hc1 : w1.cell? ⟨w.heap.size + 5, 0, none⟩ = some (.string s) := hUS.2.2.1.cell
  clear hw1
  simp only [Nat.add_assoc, Nat.reduceAdd]
  gi_wp2
  refine wpIn_rangeFunc_ownF rfl (by omega) (gf := 116) (lb := #[.pointer (some ⟨w.heap.size + 5, 0, none⟩)]) rfl trivial (enters_of Tryz.func116 (by kernel_rfl) rfl)
    (pieces_stops 8 (by omega) (w.heap.size + 5) s w1 (by omega) (by omega) hc1 hMH.out) (fun h k => ⟨Nat.le_trans h.1 k.1, k.2.trans h.2⟩)
    (fun W l o o' hl hlo _ _ => ⟨by simp, World.putObj_heap_other (by omega)⟩) (Below.refl _ _) (fun _ => rfl)
    (UI s w)
    (fun c pre W => c = .ret ∧ UX s w pre W)
    (UI.own s w _ (by omega))
    (fun c => UX.own s w _ (by omega) c)
    ⟨false, [], rfl, by simp, hUS⟩
    (fun x => { tmps := #[.string s, undef, .pointer (some ⟨w.heap.size, 0, none⟩), .pointer (some ⟨w.heap.size + 1, 0, none⟩), .pointer (some ⟨w.heap.size + 2, 0, none⟩), .pointer (some ⟨w.heap.size + 3, 0, none⟩), .pointer (some ⟨w.heap.size + 4, 0, none⟩), .int .i64 (x.1 : Int), .string (s.extract x.1 (x.1 + x.2)), .string s, .func (.func 116) #[] #[.pointer (some ⟨w.heap.size + 5, 0, none⟩)], .int .i64 (x.1 : Int), .string (s.extract x.1 (x.1 + x.2)), undef, undef, undef, undef, undef, undef, undef, undef, undef, undef, undef, undef, undef, undef, undef, undef, undef, undef, undef, undef, undef, undef, undef, undef, undef, undef, undef, undef, undef, undef, undef, undef, undef, undef, undef, undef], defers := [] }) ?assign ?body ?done ?stop
  case assign =>
    intro l x W K hK
    gi_wp2
    exact hK
  case body =>
    rintro l pre x W ⟨e, acc, hst, hacc, hU⟩ hpl
    obtain ⟨P, hP⟩ : ∃ P, s.extract x.1 (x.1 + x.2) = P := ⟨_, rfl⟩
    have hPd : P.data.toList = (s.data.toList.drop x.1).take x.2 := by rw [← hP, Lib.extract_data, Nat.add_sub_cancel_left]
    have hPs : P.size ≤ s.size := by
      rw [Lib.size_eq, hPd, ← hlen.out]; simp; omega
    have hMk : MkOk P := hP ▸ hMH.out _ _
    rw [hP]
    obtain ⟨mk, hmk⟩ : ∃ mk, decide (0 ≤ idxM P.data.toList) = mk := ⟨_, rfl⟩
    have cM : Hid (∀ W, Calls Tryz.prog 94 #[.string P] W fun e w' => e = .returned (.bool mk) ∧ Below W.heap.size W w') := fun W => by have := isMark_any P hMk W; rw [hmk] at this; exact this
    have hbl : acc.length ≤ 4000000 * 4000001 := Nat.le_trans hacc (Nat.mul_le_mul (by omega) (by omega))
    have hblH : Hid (acc.length ≤ 4000000 * 4000001) := hbl
    have hsn := stU_snoc x hst
    have hstH : Hid (stU s.data.toList false [] pre = some (e, acc)) := hst
    have hsnH : Hid (stU s.data.toList false [] (pre ++ [x]) = stU s.data.toList e acc [x]) := hsn
    have haccH : Hid (acc.length ≤ pre.length * (s.size + 1)) := hacc
    have hPdH : Hid (P.data.toList = (s.data.toList.drop x.1).take x.2) := hPd
    have hmkH : Hid (decide (0 ≤ idxM P.data.toList) = mk) := hmk
    have hUH : Hid (US s w e acc W) := hU
    have c4 := hU.2.1.cell
    clear hsn hbl hacc hP hPd hMk hmk hst hU
    cases e with
    | true =>
      gi_wp2
      refine ⟨trivial, ?_⟩
      refine (CallsIn.inRound l (callsIn_wide.2 (cM.out _))).mono ?_
      rintro e W1 ⟨rfl, hb1⟩
      have hU1 := hUH.out.below hb1
      have hU1H : Hid (US s w true acc W1) := hU1
      have d4 := hU1.2.1.cell
      clear c4
      cases mk with
      | false =>
        have cAt : Hid (∀ W, Calls Tryz.prog 96 #[.int .i64 (wrap64 ((x.1 : Int) - 1)), .int .i64 53] W fun e w' => e = .returned (.iface 94 (.agg #[.int .i64 (wrap64 ((x.1 : Int) - 1)), .iface 29 (.int .i64 53)])) ∧ Below W.heap.size W w') := fun W => at_any _ W
        gi_wp2
        refine ⟨trivial, ?_⟩
        refine (CallsIn.inRound l (callsIn_wide.2 (cAt.out _))).mono ?_
        rintro e W2 ⟨rfl, hb2⟩
        have hU2 := hU1H.out.below hb2
        have hU2H : Hid (US s w true acc W2) := hU2
        have q0 := hU2.2.2.2.1.1.cell
        have q1 := hU2.2.2.2.1.2.1.cell
        have q2 := hU2.2.2.2.1.2.2.cell
        have p0 := hU2.2.2.2.1.1.frozen
        have p1 := hU2.2.2.2.1.2.1.frozen
        have p2 := hU2.2.2.2.1.2.2.frozen
        clear hU1 hU2 d4
        gi_wp2
        have hRS := hU2H.out.2.2.2.1
        refine ⟨(keeps_below hb1).trans ((keeps_below hb2).trans (((KeepsOthers.setCell _ _ _).trans (KeepsOthers.setCell _ _ _)).trans (KeepsOthers.setCell _ _ _))), rfl, pre, x, true, acc, rfl, hstH.out, ?_, .inl ⟨rfl, by rw [← hPdH.out]; exact of_decide_eq_false hmkH.out, setR_ok hRS⟩⟩
        exact ((hU2H.out.2.2.2.2.setCell (p := ⟨w.heap.size, 0, none⟩) (by simp) _).setCell (p := ⟨w.heap.size + 1, 0, none⟩) (by simp) _).setCell (p := ⟨w.heap.size + 2, 0, none⟩) (by simp) _
      | true =>
        have c2 : Hid (Calls Tryz.prog 39 #[.pointer (some ⟨w.heap.size + 3, 0, none⟩), .string P] W1 fun ev w' => ev = .returned (.tuple #[.int .i64 P.size, .nilIface]) ∧ US s w true (acc ++ P.data.toList) w' ∧ KeepsOthers W1 w' ∧ KeepB (w.heap.size + 5) W1 w') := hU1H.out.write P (by have := hblH.out; omega)
        clear hU1
        gi_wp2
        refine ⟨trivial, ?_⟩
        gi_wp2
        refine ⟨trivial, ?_⟩
        refine (CallsIn.inRound l (callsIn_wide.2 c2.out)).mono ?_
        rintro e W2 ⟨rfl, hU2, hk2, hkb2⟩
        have hU2H : Hid (US s w true (acc ++ P.data.toList) W2) := hU2
        have q4 := hU2.2.1.cell
        have p4 := hU2.2.1.frozen
        clear hU2 d4
        gi_wp2
        have hU3 := hU2H.out.setE false
        refine ⟨(keeps_below hb1).trans (hk2.trans (KeepsOthers.setCell _ _ _)), ⟨Nat.le_trans hb1.size (Nat.le_trans hkb2.1 (by simp)), ?_⟩, false, acc ++ P.data.toList, ?_, ?_, hU3⟩
        · have a1 : (W2.setCell ⟨w.heap.size + 4, 0, none⟩ (.bool false)).heap[w.heap.size + 5]? = _ := hU3.2.2.1
          have a2 : W.heap[w.heap.size + 5]? = _ := hUH.out.2.2.1
          rw [a1, a2]
        · rw [hsnH.out, stU, ← hPdH.out, if_pos (of_decide_eq_true hmkH.out)]; rfl
        · have h1 := haccH.out
          rw [List.length_append, List.length_append, List.length_singleton, Nat.add_mul]
          have h2 : P.data.toList.length ≤ s.size := by rw [← Lib.size_eq]; exact hPs
          omega
    | false =>
      by_cases h92 : P.toList = [92]
      · have h92H : Hid (P.toList = [92]) := h92
        have p4 := hUH.out.2.1.frozen
        gi_wp2
        refine ⟨trivial, ?_⟩
        gi_wp2
        have hU3 := hUH.out.setE true
        refine ⟨KeepsOthers.setCell _ _ _, ⟨by simp, ?_⟩, true, acc, ?_, ?_, hU3⟩
        · have a1 : (W.setCell ⟨w.heap.size + 4, 0, none⟩ (.bool true)).heap[w.heap.size + 5]? = _ := hU3.2.2.1
          have a2 : W.heap[w.heap.size + 5]? = _ := hUH.out.2.2.1
          rw [a1, a2]
        · have h1 := h92H.out
          rw [Lib.toList_data] at h1
          rw [hsnH.out, stU, ← hPdH.out, if_pos h1]; rfl
        · have h1 := haccH.out
          rw [List.length_append, List.length_singleton, Nat.add_mul]
          omega
      · have h92H : Hid (¬ P.data.toList = [92]) := by rw [Lib.toList_data] at h92; exact h92
        have h92b : (P.toList == [92]) = false := by simpa using h92
        gi_wp2
        refine ⟨trivial, ?_⟩
        gi_wp2
        refine ⟨trivial, ?_⟩
        refine (CallsIn.inRound l (callsIn_wide.2 (cM.out _))).mono ?_
        rintro e W1 ⟨rfl, hb1⟩
        have hU1 := hUH.out.below hb1
        have hU1H : Hid (US s w false acc W1) := hU1
        have d4 := hU1.2.1.cell
        clear c4 hU1
        cases mk with
        | true =>
          have cT : Hid (Calls Tryz.prog 41 #[.pointer (some ⟨w.heap.size + 3, 0, none⟩)] W1 fun ev w' => ev = .returned (.string ⟨acc.toArray⟩) ∧ US s w false acc w' ∧ KeepsOthers W1 w') := hU1H.out.text
          gi_wp2
          refine ⟨trivial, ?_⟩
          refine (CallsIn.inRound l (callsIn_wide.2 cT.out)).mono ?_
          rintro e W2 ⟨rfl, hU2, hk2⟩
          have hU2H : Hid (US s w false acc W2) := hU2
          have q0 := hU2.2.2.2.1.1.cell
          have q1 := hU2.2.2.2.1.2.1.cell
          have q2 := hU2.2.2.2.1.2.2.cell
          have p0 := hU2.2.2.2.1.1.frozen
          have p1 := hU2.2.2.2.1.2.1.frozen
          have p2 := hU2.2.2.2.1.2.2.frozen
          clear hU2 d4
          gi_wp2
          have hRS := hU2H.out.2.2.2.1
          refine ⟨(keeps_below hb1).trans (hk2.trans (((KeepsOthers.setCell _ _ _).trans (KeepsOthers.setCell _ _ _)).trans (KeepsOthers.setCell _ _ _))), rfl, pre, x, false, acc, rfl, hstH.out, ?_, .inr ⟨rfl, by rw [← hPdH.out]; exact h92H.out, by rw [← hPdH.out]; exact of_decide_eq_true hmkH.out, setR_ok hRS⟩⟩
          exact ((hU2H.out.2.2.2.2.setCell (p := ⟨w.heap.size, 0, none⟩) (by simp) _).setCell (p := ⟨w.heap.size + 1, 0, none⟩) (by simp) _).setCell (p := ⟨w.heap.size + 2, 0, none⟩) (by simp) _
        | false =>
          have c2 : Hid (Calls Tryz.prog 39 #[.pointer (some ⟨w.heap.size + 3, 0, none⟩), .string P] W1 fun ev w' => ev = .returned (.tuple #[.int .i64 P.size, .nilIface]) ∧ US s w false (acc ++ P.data.toList) w' ∧ KeepsOthers W1 w' ∧ KeepB (w.heap.size + 5) W1 w') := hU1H.out.write P (by have := hblH.out; omega)
          gi_wp2
          refine ⟨trivial, ?_⟩
          refine (CallsIn.inRound l (callsIn_wide.2 c2.out)).mono ?_
          rintro e W2 ⟨rfl, hU2, hk2, hkb2⟩
          have hU2H : Hid (US s w false (acc ++ P.data.toList) W2) := hU2
          have q4 := hU2.2.1.cell
          have p4 := hU2.2.1.frozen
          clear hU2 d4
          gi_wp2
          have hU3 := hU2H.out.setE false
          refine ⟨(keeps_below hb1).trans (hk2.trans (KeepsOthers.setCell _ _ _)), ⟨Nat.le_trans hb1.size (Nat.le_trans hkb2.1 (by simp)), ?_⟩, false, acc ++ P.data.toList, ?_, ?_, hU3⟩
          · have a1 : (W2.setCell ⟨w.heap.size + 4, 0, none⟩ (.bool false)).heap[w.heap.size + 5]? = _ := hU3.2.2.1
            have a2 : W.heap[w.heap.size + 5]? = _ := hUH.out.2.2.1
            rw [a1, a2]
          · rw [hsnH.out, stU, ← hPdH.out, if_neg h92H.out, if_neg (of_decide_eq_false hmkH.out)]; rfl
          · have h1 := haccH.out
            rw [List.length_append, List.length_append, List.length_singleton, Nat.add_mul]
            have h2 : P.data.toList.length ≤ s.size := by rw [← Lib.size_eq]; exact hPs
            omega
  case done =>
    rintro D ys W hD rfl ⟨e, acc, hst, hacc, hU⟩ hK
    have hout := stU_out [] hst
    rw [List.append_nil, out_bytes s.data.toList s.size 0 false [] (by rw [hlen.out]; omega) (by omega), List.drop_zero] at hout
    have houtH : Hid (uneT s.data.toList = outU s.data.toList e acc []) := hout
    have hUH : Hid (US s w e acc W) := hU
    have c4 := hU.2.1.cell
    clear hst hacc hout hU
    cases e with
    | true =>
      have hw64 : wrap64 ((s.size : Int) - 1) = (s.size : Int) - 1 := by unfold wrap64; omega
      have cAt : Hid (∀ W, Calls Tryz.prog 96 #[.int .i64 ((s.size : Int) - 1), .int .i64 53] W fun e w' => e = .returned (.iface 94 (.agg #[.int .i64 ((s.size : Int) - 1), .iface 29 (.int .i64 53)])) ∧ Below W.heap.size W w') := fun W => at_any _ W
      gi_wp2
      refine ⟨trivial, ?_⟩
      refine (callsIn_wide.2 (cAt.out _)).mono ?_
      rintro e W2 ⟨rfl, hb2⟩
      have hU2 := hUH.out.below hb2
      have hU2H : Hid (US s w true acc W2) := hU2
      have q0 := hU2.2.2.2.1.1.cell
      have q1 := hU2.2.2.2.1.2.1.cell
      have q2 := hU2.2.2.2.1.2.2.cell
      have p0 := hU2.2.2.2.1.1.frozen
      have p1 := hU2.2.2.2.1.2.1.frozen
      have p2 := hU2.2.2.2.1.2.2.frozen
      have hKO := keeps_below hb2
      clear hU2 c4
      gi_wp2
      have hRS := setR_ok (t := ⟨#[]⟩) (n := 0) (er := .iface 94 (.agg #[.int .i64 ((s.size : Int) - 1), .iface 29 (.int .i64 53)])) hU2H.out.2.2.2.1
      have hK' := (hKO.trans (((KeepsOthers.setCell W2 ⟨w.heap.size, 0, none⟩ (.string ⟨#[]⟩)).trans (KeepsOthers.setCell _ ⟨w.heap.size + 1, 0, none⟩ (.int .i64 0))).trans (KeepsOthers.setCell _ ⟨w.heap.size + 2, 0, none⟩ (.iface 94 (.agg #[.int .i64 ((s.size : Int) - 1), .iface 29 (.int .i64 53)]))))).same D _ hK rfl
      have hB' : Below w.heap.size w (setR w W2 ⟨#[]⟩ 0 (.iface 94 (.agg #[.int .i64 ((s.size : Int) - 1), .iface 29 (.int .i64 53)]))) := ((hU2H.out.2.2.2.2.setCell (p := ⟨w.heap.size, 0, none⟩) (by simp) _).setCell (p := ⟨w.heap.size + 1, 0, none⟩) (by simp) _).setCell (p := ⟨w.heap.size + 2, 0, none⟩) (by simp) _
      refine ⟨by simp, .inl ⟨_, _, rfl, run_takeDeferred hK', ?_⟩⟩
      have hRS2 := hRS.own (grownBy_putObj' _ D (.deferred none)) (fun r e => by cases e; exact ⟨_, hK', rfl⟩)
      refine ⟨outV (.bad ((s.size : Int) - 1)), ?_, ?_, hB'.trans (belowK_b (w := w) (Nat.le_refl _) _ D _ _ (by omega) hK' rfl rfl)⟩
      · have r0 := hRS2.1.cell
        have r1 := hRS2.2.1.cell
        have r2 := hRS2.2.2.cell
        unfold setR at r0 r1 r2
        simp [results, Tryz.f71, go_sem, r0, r1, r2, outV, atV]
      · rw [houtH.out]
        have : outU s.data.toList true acc [] = .bad ((s.size : Int) - 1) := by rw [outU, hlen.out]
        rw [this]
    | false =>
      have cT : Hid (Calls Tryz.prog 41 #[.pointer (some ⟨w.heap.size + 3, 0, none⟩)] W fun ev w' => ev = .returned (.string ⟨acc.toArray⟩) ∧ US s w false acc w' ∧ KeepsOthers W w') := hUH.out.text
      gi_wp2
      refine ⟨trivial, ?_⟩
      refine (callsIn_wide.2 cT.out).mono ?_
      rintro e W2 ⟨rfl, hU2, hKO⟩
      have hU2H : Hid (US s w false acc W2) := hU2
      have q0 := hU2.2.2.2.1.1.cell
      have q1 := hU2.2.2.2.1.2.1.cell
      have q2 := hU2.2.2.2.1.2.2.cell
      have p0 := hU2.2.2.2.1.1.frozen
      have p1 := hU2.2.2.2.1.2.1.frozen
      have p2 := hU2.2.2.2.1.2.2.frozen
      clear hU2 c4
      gi_wp2
      have hRS := setR_ok (t := ⟨acc.toArray⟩) (n := (s.size : Int)) (er := .nilIface) hU2H.out.2.2.2.1
      have hK' := (hKO.trans (((KeepsOthers.setCell W2 ⟨w.heap.size, 0, none⟩ (.string ⟨acc.toArray⟩)).trans (KeepsOthers.setCell _ ⟨w.heap.size + 1, 0, none⟩ (.int .i64 (s.size : Int)))).trans (KeepsOthers.setCell _ ⟨w.heap.size + 2, 0, none⟩ .nilIface))).same D _ hK rfl
      have hB' : Below w.heap.size w (setR w W2 ⟨acc.toArray⟩ (s.size : Int) .nilIface) := ((hU2H.out.2.2.2.2.setCell (p := ⟨w.heap.size, 0, none⟩) (by simp) _).setCell (p := ⟨w.heap.size + 1, 0, none⟩) (by simp) _).setCell (p := ⟨w.heap.size + 2, 0, none⟩) (by simp) _
      refine ⟨by simp, .inl ⟨_, _, rfl, run_takeDeferred hK', ?_⟩⟩
      have hRS2 := hRS.own (grownBy_putObj' _ D (.deferred none)) (fun r e => by cases e; exact ⟨_, hK', rfl⟩)
      refine ⟨outV (.ok acc s.size), ?_, ?_, hB'.trans (belowK_b (w := w) (Nat.le_refl _) _ D _ _ (by omega) hK' rfl rfl)⟩
      · have r0 := hRS2.1.cell
        have r1 := hRS2.2.1.cell
        have r2 := hRS2.2.2.cell
        unfold setR at r0 r1 r2
        simp [results, Tryz.f71, go_sem, r0, r1, r2, outV, atV]
      · rw [houtH.out]
        have : outU s.data.toList false acc [] = .ok acc s.size := by rw [outU, hlen.out]
        rw [this]
  case stop =>
    rintro D c pre W hD hpre ⟨rfl, p, x, e, acc, hpx, hst, hB, hcase⟩ hK
    obtain ⟨r, hr⟩ := hpre
    rw [hpx, List.append_assoc, List.singleton_append] at hr
    have hout := stU_out (x :: r) hst
    rw [hr, out_bytes s.data.toList s.size 0 false [] (by rw [hlen.out]; omega) (by omega), List.drop_zero] at hout
    have houtH : Hid (uneT s.data.toList = outU s.data.toList e acc (x :: r)) := hout
    have hx1 : Hid (x.1 ≤ s.size) := by
      have hm : x ∈ cutsF s.data.toList s.size 0 := by rw [← hr]; simp
      have := cuts_in s.data.toList s.size 0 x hm
      rw [hlen.out] at this
      exact Nat.le_of_lt this
    clear hout hr hst hpx
    gi_wp2
    rcases hcase with ⟨rfl, h1, hRS⟩ | ⟨rfl, h1, h2, hRS⟩
    · refine ⟨by simp, .inl ⟨_, _, rfl, run_takeDeferred hK, ?_⟩⟩
      have hRS2 := hRS.own (grownBy_putObj' _ D (.deferred none)) (fun r e => by cases e; exact ⟨_, hK, rfl⟩)
      have hw64 : wrap64 ((x.1 : Int) - 1) = (x.1 : Int) - 1 := by have := hx1.out; unfold wrap64; omega
      rw [hw64] at hRS2
      refine ⟨outV (.bad ((x.1 : Int) - 1)), ?_, ?_, hB.trans (belowK_b (w := w) (Nat.le_refl _) _ D _ _ (by omega) hK rfl rfl)⟩
      · have r0 := hRS2.1.cell
        have r1 := hRS2.2.1.cell
        have r2 := hRS2.2.2.cell
        simp [results, Tryz.f71, go_sem, r0, r1, r2, outV, atV]
      · rw [houtH.out]
        have : outU s.data.toList true acc (x :: r) = .bad ((x.1 : Int) - 1) := by rw [outU, if_neg (by omega)]
        rw [this]
    · refine ⟨by simp, .inl ⟨_, _, rfl, run_takeDeferred hK, ?_⟩⟩
      have hRS2 := hRS.own (grownBy_putObj' _ D (.deferred none)) (fun r e => by cases e; exact ⟨_, hK, rfl⟩)
      refine ⟨outV (.ok acc x.1), ?_, ?_, hB.trans (belowK_b (w := w) (Nat.le_refl _) _ D _ _ (by omega) hK rfl rfl)⟩
      · have r0 := hRS2.1.cell
        have r1 := hRS2.2.1.cell
        have r2 := hRS2.2.2.cell
        simp [results, Tryz.f71, go_sem, r0, r1, r2, outV, atV]
      · rw [houtH.out]
        have : outU s.data.toList false acc (x :: r) = .ok acc x.1 := by rw [outU, if_neg h1, if_pos h2]
        rw [this]
end Go.Proofs.YtfpfeecoideedaaGreatDoor
