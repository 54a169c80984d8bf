
import Derived.Test.YtfpfeecoideedaaGreatDoorKyJ
namespace Go.Proofs.YtfpfeecoideedaaGreatDoor
open Go.RowKit Go.Shelf
attribute [local go_sem] Oper.semAt_some
set_option linter.unusedVariables false
set_option linter.unusedSimpArgs false
theorem builderAt_kept {T e : TypeId} {B b : Nat} {p : Value} {bs : List Value} {W W' : World} {row : Option Nat} (h : Lib.BuilderAtF T e B b p bs W) (hg : W.grownBy W' row) (hr : ∀ r, row = some r → ∃ o : Obj, W.heap[r]? = some o ∧ o.isCells = false) : Lib.BuilderAtF T e B b p bs W' := by
  have hlt := h.lt
  obtain ⟨hB, v, hv, hown, hne⟩ := h
  obtain ⟨g1, g2, g3, g4, g5⟩ := hg
  refine ⟨hB, v, ?_, ⟨hown.1, ?_⟩, hne⟩
  · rw [g5 b hlt (fun e => by obtain ⟨o, ho, hc⟩ := hr b e.symm; rw [hv] at ho; cases ho; cases hc)]; exact hv
  · rcases hown.2 with hn | ⟨g, cap, cur, fz, hv2, hbg, hgg, rest⟩
    · exact .inl hn
    · refine .inr ⟨g, cap, cur, fz, hv2, hbg, ?_, rest⟩
      rw [g5 g (Array.getElem?_eq_some_iff.1 hgg).1 (fun e => by obtain ⟨o, ho, hc⟩ := hr g e.symm; rw [hgg] at ho; cases ho; cases hc)]; exact hgg
theorem builder_kept {T e : TypeId} {B b : Nat} {bs : List Value} {W W' : World} {row : Option Nat} (h : Lib.IsBuilderF T e B b bs W) (hg : W.grownBy W' row) (hr : ∀ r, row = some r → ∃ o : Obj, W.heap[r]? = some o ∧ o.isCells = false) : Lib.IsBuilderF T e B b bs W' :=
  h.elim (fun x => .inl (builderAt_kept x hg hr)) (fun x => .inr (builderAt_kept x hg hr))
theorem builder_below {T e : TypeId} {B b : Nat} {bs : List Value} {W W' : World} (h : Lib.IsBuilderF T e B b bs W) (hb : Below W.heap.size W W') : Lib.IsBuilderF T e B b bs W' := builder_kept h (below_grown hb) (fun r e => by cases e)
theorem builder_new (w : World) : Lib.IsBuilderF 110 5 w.heap.size w.heap.size [] (w.alloc (.cells #[.pointer none, .slice none 0 0] 110)) := by
  refine .inl ⟨Nat.le_refl _, .slice none 0 0, World.alloc_heap_new w _, ⟨rfl, .inl ⟨rfl, rfl⟩⟩, by simp [Value.ownBlock]⟩
theorem others_keeps {b B : Nat} {T e : TypeId} {p : Value} {bs : List Value} {W W' : World} (h : Lib.OthersKept e (some b) W W') (hs : W.heap.size ≤ W'.heap.size) (hb : Lib.IsBuilderF T e B b bs W) : KeepsOthers W W' := by
  have hc : ∃ c t f, W.heap[b]? = some (.cells c t f) := by
    rcases hb with ⟨_, v, hv, _⟩ | ⟨_, v, hv, _⟩
    · exact ⟨_, _, _, hv⟩
    · exact ⟨_, _, _, hv⟩
  obtain ⟨c, t, f, hc⟩ := hc
  refine ⟨hs, fun k o hk ho => h k o hk ?_ ?_⟩
  · intro e1
    cases e1
    rw [hc] at hk
    cases hk
    cases ho
  · intro c' fz e1
    subst e1
    cases ho
theorem flat_len (l : List UInt8) (pre : List (Nat × Nat)) : (pre.flatMap (fun c => fP ((l.drop c.1).take c.2))).length ≤ pre.length * (l.length + 1) := by
  induction pre with
  | nil => simp
  | cons c r ih =>
    rw [List.flatMap_cons, List.length_append, List.length_cons, Nat.succ_mul]
    have : (fP ((l.drop c.1).take c.2)).length ≤ l.length + 1 := by
      unfold fP
      rw [List.length_append]
      have h1 : ((l.drop c.1).take c.2).length ≤ l.length := by simp; omega
      split <;> simp at h1 ⊢ <;> omega
    omega
/-- while pieces are written: the Builder holds what they say, the text's block is there. -/
def EscI (s : ByteArray) (w : World) (pre : List (Nat × Nat)) (W : World) : Prop := Lib.IsBuilderF 110 5 w.heap.size w.heap.size (Lib.byteCells (pre.flatMap (fun c => fP ((s.data.toList.drop c.1).take c.2)))) W ∧ W.heap[w.heap.size + 1]? = some (.cells #[.string s] 9) ∧ Below w.heap.size w W
theorem escI_own (s : ByteArray) (w : World) (B : Nat) (hB : w.heap.size ≤ B) : OwnFrom B (EscI s w) := fun q W W' row hs' hg hr => by
  obtain ⟨h1, h2, h3⟩ := hs'
  have hg' := hg
  obtain ⟨g1, g2, g3, g4, g5⟩ := hg
  refine ⟨builder_kept h1 hg' (fun r e => (hr r e).2), ?_, h3.trans ⟨g1, g2, g3, g4, fun k hk => g5 k (by have := h3.size; omega) (fun e => by have := (hr k e.symm).1; omega)⟩⟩
  rw [g5 _ (Array.getElem?_eq_some_iff.1 h2).1 (fun e => by obtain ⟨_, o, ho, hc⟩ := hr _ e.symm; rw [h2] at ho; cases ho; cases hc)]
  exact h2
theorem keeps_below {W W' : World} (h : Below W.heap.size W W') : KeepsOthers W W' := ⟨h.size, fun k o hk _ => (h.block k (Array.getElem?_eq_some_iff.1 hk).1).trans hk⟩
theorem flat_snoc (l : List UInt8) (pre : List (Nat × Nat)) (x : Nat × Nat) : (pre ++ [x]).flatMap (fun c => fP ((l.drop c.1).take c.2)) = pre.flatMap (fun c => fP ((l.drop c.1).take c.2)) ++ fP ((l.drop x.1).take x.2) := by
  rw [List.flatMap_append]; simp
theorem cells_append (a b : List UInt8) : Lib.byteCells (a ++ b) = Lib.byteCells a ++ Lib.byteCells b := by simp [Lib.byteCells]
theorem esc_text {s : ByteArray} {w W : World} (h : W.heap[w.heap.size + 1]? = some (.cells #[.string s] 9)) {W' : World} (hO : Lib.OthersKept 5 (some w.heap.size) W W') : W'.heap[w.heap.size + 1]? = some (.cells #[.string s] 9) := by
  refine hO _ _ h (by simp) ?_
  intro c fz e
  cases e
set_option maxHeartbeats 8000000 in
set_option maxRecDepth 100000 in
theorem escape_any (s : ByteArray) (w : World) (hs : s.size ≤ 1048576) (hM : ∀ a b, MkOk (s.extract a b)) : Calls Tryz.prog 40 #[.string s] w fun e w' => e = .returned (.string ⟨(escL s.data.toList).toArray⟩) ∧ Below w.heap.size w w' := by
  have hlen : Hid (s.data.toList.length = s.size) := (Lib.size_eq s).symm
  have hMH : Hid (∀ a b, MkOk (s.extract a b)) := hM
  clear hM
  refine (callsIn_wide (n := 9)).1 ?_
  refine callsIn_of_wp_marks Tryz.func40 rfl trivial ?_ rfl
  simp only [Tryz.ntmps40, List.size_toArray, List.length_cons, List.length_nil, Nat.reduceAdd, Nat.reduceSub, Array.replicate_succ, Array.replicate_zero, List.push_toArray, List.append_toArray, List.nil_append, List.cons_append]
  gi_wp2
  refine ⟨trivial, ?_⟩
  refine (callsIn_wide.2 (pieces_any s _)).mono ?_
  rintro e w1 ⟨rfl, hw1⟩
  rw [World.size_alloc]
  have hszW : w1.heap.size = w.heap.size + 2 := by rw [hw1]; simp
  have hB1 : Below w.heap.size w w1 := by rw [hw1]; exact ((Below.refl _ w).alloc (Nat.le_refl _) _).alloc (by simp) _
  have hbl1 : Lib.IsBuilderF 110 5 w.heap.size w.heap.size [] w1 := by rw [hw1]; exact (builder_new w).alloc _
  have hs1 : w1.heap[w.heap.size + 1]? = some (.cells #[.string s] 9) := by
    rw [hw1]; have := World.alloc_heap_new (w.alloc (.cells #[.pointer none, .slice none 0 0] 110)) (.cells #[.string s] 9); rwa [World.size_alloc] at this
  have hc1 : w1.cell? ⟨w.heap.size + 1, 0, none⟩ = some (.string s) := by rw [Lib.cell_of_heap hs1]; rfl
  clear hw1
  gi_wp2
  refine wpIn_rangeFunc_ownF rfl (by omega) (gf := 116) (lb := #[.pointer (some ⟨w.heap.size + 1, 0, none⟩)]) rfl trivial (enters_of Tryz.func116 (by kernel_rfl) rfl)
    (pieces_stops 8 (by omega) (w.heap.size + 1) s w1 (by omega) (by omega) hc1 hMH.out) (fun h k => ⟨Nat.le_trans h.1 k.1, k.2.trans h.2⟩)
    (fun W l o o' hl hlo _ _ => ⟨by simp, World.putObj_heap_other (by omega)⟩) (Below.refl _ _) (fun _ => rfl)
    (EscI s w)
    (fun _ _ _ => False)
    (escI_own s w _ (by omega))
    (fun _ _ _ _ _ hs' _ _ => hs'.elim)
    ⟨hbl1, hs1, hB1⟩
    (fun x => { tmps := #[.string s, undef, .string ⟨#[]⟩, .pointer (some ⟨w.heap.size, 0, none⟩), undef, .string (s.extract x.1 (x.1 + x.2)), .string s, .func (.func 116) #[] #[.pointer (some ⟨w.heap.size + 1, 0, none⟩)], .int .i64 (x.1 : Int), .string (s.extract x.1 (x.1 + x.2)), undef, undef, undef, undef, undef, undef], defers := [] }) ?assign ?body ?done ?stop
  case assign =>
    intro l x W K hK
    gi_wp2
    exact hK
  case body =>
    rintro l pre x W ⟨hbld, hsB, hB⟩ hpl
    obtain ⟨P, hP⟩ : ∃ P, s.extract x.1 (x.1 + x.2) = P := ⟨_, rfl⟩
    have hPd : P.data.toList = (s.data.toList.drop x.1).take x.2 := by rw [← hP, Lib.extract_data, Nat.add_sub_cancel_left]
    have hPs : P.size ≤ s.size := by
      rw [Lib.size_eq, hPd, ← hlen.out]; simp; omega
    have hMk : MkOk P := hP ▸ hMH.out _ _
    rw [hP]
    obtain ⟨mk, hmk⟩ : ∃ mk, decide (0 ≤ idxM P.data.toList) = mk := ⟨_, rfl⟩
    have cM : Hid (Calls Tryz.prog 94 #[.string P] W fun e w' => e = .returned (.bool mk) ∧ Below W.heap.size W w') := by have := isMark_any P hMk W; rw [hmk] at this; exact this
    have hfl := flat_len s.data.toList pre
    rw [hlen.out] at hfl
    obtain ⟨bs, hbs⟩ : ∃ bs, pre.flatMap (fun c => fP ((s.data.toList.drop c.1).take c.2)) = bs := ⟨_, rfl⟩
    have hsn := flat_snoc s.data.toList pre x
    rw [hbs, ← hPd] at hsn
    rw [hbs] at hbld hfl
    have hsnH : Hid ((pre ++ [x]).flatMap (fun c => fP ((s.data.toList.drop c.1).take c.2)) = bs ++ fP P.data.toList) := hsn
    have hbl : bs.length ≤ 1048576 * 1048577 := Nat.le_trans hfl (Nat.mul_le_mul (by omega) (by omega))
    have hblH : Hid (bs.length ≤ 1048576 * 1048577) := hbl
    have hPdH : Hid (P.data.toList = (s.data.toList.drop x.1).take x.2) := hPd
    have hmkH : Hid (decide (0 ≤ idxM P.data.toList) = mk) := hmk
    clear hsn hbl hfl hbs hP hPd hMk hmk
    cases mk with
    | true =>
      gi_wp2
      refine ⟨trivial, ?_⟩
      refine (CallsIn.inRound l (callsIn_wide.2 cM.out)).mono ?_
      rintro e W1 ⟨rfl, hb1⟩
      have bld1 := builder_below hbld hb1
      have hs1' : W1.heap[w.heap.size + 1]? = some (.cells #[.string s] 9) := by rw [hb1.block _ (Array.getElem?_eq_some_iff.1 hsB).1]; exact hsB
      have c1 : Hid (Calls Tryz.prog 39 #[.pointer (some ⟨w.heap.size, 0, none⟩), .string ⟨#[92]⟩] W1 _) := Tryz.Builder_WriteString_k w.heap.size w.heap.size (Lib.byteCells bs) ⟨#[92]⟩ W1 bld1 (by rw [Lib.byteCells_length]; have := hblH.out; show bs.length + 1 ≤ _; omega) (by have := hB.size; have := hb1.size; omega)
      gi_wp2
      refine ⟨trivial, ?_⟩
      refine (CallsIn.inRound l (callsIn_wide.2 c1.out)).mono ?_
      rintro e W2 ⟨rfl, bld2, hb2, hO2⟩
      have hs2 := esc_text hs1' hO2
      have c2 : Hid (Calls Tryz.prog 39 #[.pointer (some ⟨w.heap.size, 0, none⟩), .string P] W2 _) := Tryz.Builder_WriteString_k w.heap.size w.heap.size _ P W2 (.inr bld2) (by rw [List.length_append, Lib.byteCells_length]; have := hblH.out; show bs.length + 1 + _ ≤ _; omega) (by have := hB.size; have := hb1.size; have := hb2.size; omega)
      gi_wp2
      refine ⟨trivial, ?_⟩
      refine (CallsIn.inRound l (callsIn_wide.2 c2.out)).mono ?_
      rintro e W3 ⟨rfl, bld3, hb3, hO3⟩
      have hs3 := esc_text hs2 hO3
      gi_wp2
      refine ⟨(keeps_below hb1).trans ((others_keeps (p := undef) hO2 hb2.size bld1).trans (others_keeps (p := undef) hO3 hb3.size (.inr bld2))), ⟨Nat.le_trans hb1.size (Nat.le_trans hb2.size hb3.size), by rw [hs3, hsB]⟩, ⟨?_, hs3, (hB.trans (hb1.mono hB.size)).trans (hb2.trans hb3)⟩⟩
      rw [hsnH.out]
      have hf : fP P.data.toList = [92] ++ P.data.toList := by unfold fP; rw [if_pos (of_decide_eq_true hmkH.out)]
      rw [hf, cells_append, cells_append, ← List.append_assoc]
      exact .inr bld3
    | false =>
      gi_wp2
      refine ⟨trivial, ?_⟩
      refine (CallsIn.inRound l (callsIn_wide.2 cM.out)).mono ?_
      rintro e W1 ⟨rfl, hb1⟩
      have bld1 := builder_below hbld hb1
      have hs1' : W1.heap[w.heap.size + 1]? = some (.cells #[.string s] 9) := by rw [hb1.block _ (Array.getElem?_eq_some_iff.1 hsB).1]; exact hsB
      have c2 : Hid (Calls Tryz.prog 39 #[.pointer (some ⟨w.heap.size, 0, none⟩), .string P] W1 _) := Tryz.Builder_WriteString_k w.heap.size w.heap.size _ P W1 bld1 (by rw [Lib.byteCells_length]; have := hblH.out; omega) (by have := hB.size; have := hb1.size; omega)
      gi_wp2
      refine ⟨trivial, ?_⟩
      refine (CallsIn.inRound l (callsIn_wide.2 c2.out)).mono ?_
      rintro e W3 ⟨rfl, bld3, hb3, hO3⟩
      have hs3 := esc_text hs1' hO3
      gi_wp2
      refine ⟨(keeps_below hb1).trans (others_keeps (p := undef) hO3 hb3.size bld1), ⟨Nat.le_trans hb1.size hb3.size, by rw [hs3, hsB]⟩, ⟨?_, hs3, (hB.trans (hb1.mono hB.size)).trans hb3⟩⟩
      rw [hsnH.out]
      have hf : fP P.data.toList = P.data.toList := by unfold fP; rw [if_neg (of_decide_eq_false hmkH.out)]; rfl
      rw [hf, cells_append]
      exact .inr bld3
  case done =>
    rintro D ys W hD rfl ⟨hbld, hsB, hB⟩ hK
    have hce := cuts_esc s.data.toList s.size 0 (by rw [hlen.out]; omega)
    rw [List.drop_zero] at hce
    rw [hce] at hbld
    clear hce
    have c1 : Hid (Calls Tryz.prog 41 #[.pointer (some ⟨w.heap.size, 0, none⟩)] W _) := Tryz.Builder_String_any_k w.heap.size w.heap.size (escL s.data.toList) W hbld (by have := hB.size; omega)
    obtain ⟨E, hE⟩ : ∃ E, escL s.data.toList = E := ⟨_, rfl⟩
    rw [hE] at c1
    have hEH : Hid (escL s.data.toList = E) := hE
    clear hE
    gi_wp2
    refine ⟨trivial, ?_⟩
    refine (callsIn_wide.2 c1.out).mono ?_
    rintro e W2 ⟨rfl, bld2, hb2, hO2⟩
    have hK2 : W2.heap[D]? = some (.deferred (some [])) := hO2 D _ hK (by simp; omega) (by intro c fz e; cases e)
    have hB2 := hB.trans hb2
    gi_wp2
    refine ⟨by simp, .inl ⟨_, _, rfl, run_takeDeferred hK2, ?_⟩⟩
    exact ⟨_, results_tmp rfl _ _ _, by rw [hEH.out]; rfl, hB2.trans (belowK_b (w := w) (Nat.le_refl _) W2 D _ _ (by omega) hK2 rfl rfl)⟩
  case stop =>
    rintro D c pre W _ _ h _
    exact h.elim
end Go.Proofs.YtfpfeecoideedaaGreatDoor
