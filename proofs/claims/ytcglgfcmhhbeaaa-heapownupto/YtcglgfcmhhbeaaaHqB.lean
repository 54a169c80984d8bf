
import Derived.Test.YtcglgfcmhhbeaaaHpL
import Derived.Test.YtcglgfcmhhbeaaaHqA
namespace Go.Proofs.Ytcglgfcmhhbeaaa.Hp
open Go.RowKit Go.Maps
set_option linter.unusedVariables false
set_option linter.unusedSimpArgs false
set_option maxRecDepth 100000
/-! ### a row of entries of one's own -/
def OE (w : World) (B : Nat) (v : Value) (l : List Ent) : Prop := w.ownsRow B 24 2 v l.length (encE l)
theorem OE.ein {w : World} {B : Nat} {v : Value} {l : List Ent} (h : OE w B v l) : ∃ a cap, v = .slice a l.length cap ∧ l.length ≤ cap ∧ EnIn w a l := by
  rcases h.2 with ⟨e, e0⟩ | ⟨g, cap, cur, e1, _, hg, hc, _⟩
  · exact ⟨none, 0, by rw [e, e0], by omega, Or.inl (List.eq_nil_of_length_eq_zero e0)⟩
  · subst e1
    have hcs := World.ownsRow.cells h (g := g) rfl
    refine ⟨some ⟨g, 0, none⟩, cap, rfl, hc, Or.inr ⟨g, 0, rfl, (World.ownsRow.lt h g rfl).2, fun i s hs => ?_⟩⟩
    obtain ⟨e1, e2⟩ := encE_get l i s hs
    have k1 := hcs _ _ e1
    have k2 := hcs _ _ e2
    rw [add_lt0, Nat.zero_add] at k1 k2
    rw [Nat.zero_add]
    exact ⟨k1, k2⟩
theorem OE.nil (w : World) (B : Nat) : OE w B (.slice none 0 0) [] := ⟨rfl, Or.inl ⟨rfl, rfl⟩⟩
theorem OE.below {w w' : World} {B C : Nat} {v : Value} {l : List Ent} (h : OE w B v l) (hb : Below C w w') (hC : w.heap.size ≤ C) : OE w' B v l := by
  refine ⟨h.1, ?_⟩
  rcases h.2 with h2 | ⟨g, cap, cur, e1, e2, e3, e4⟩
  · exact Or.inl h2
  · exact Or.inr ⟨g, cap, cur, e1, e2, by rw [hb.block g (Nat.lt_of_lt_of_le (Array.getElem?_eq_some_iff.1 e3).1 hC)]; exact e3, e4⟩
theorem OE.bound {w : World} {B : Nat} {v : Value} {l : List Ent} (h : OE w B v l) {k : Nat} (e : v.ownBlock = some k) : B ≤ k ∧ k < w.heap.size := by
  rcases h.2 with ⟨e1, e0⟩ | ⟨g, cap, cur, e1, _, hg, hc, _⟩
  · rw [e1] at e; cases e
  · subst e1
    have : g = k := by simpa [Value.ownBlock] using e
    subst this
    exact World.ownsRow.lt h g rfl
theorem EnIn.news {w : World} {ad : Addr} {l : List Ent} (h : EnIn w (some ad) l) : (∀ j u, (encE l)[j]? = some u → w.cell? (ad.add j) = some u) := by
  rcases h with e | ⟨b, off, e, hb, hc⟩
  · subst e; simp [encE]
  · cases e
    intro j u hj
    have hj2 : j < l.length * 2 := by rw [← encE_len]; exact (List.getElem?_eq_some_iff.1 hj).1
    obtain ⟨s, hs⟩ : ∃ s, l[j / 2]? = some s := ⟨_, List.getElem?_eq_getElem (by omega)⟩
    obtain ⟨e1, e2⟩ := encE_get l _ s hs
    obtain ⟨c1, c2⟩ := hc _ s hs
    rw [add_lt0]
    rcases (by omega : j % 2 = 0 ∨ j % 2 = 1) with q | q
    · rw [show j = j / 2 * 2 by omega] at hj ⊢
      rw [e1] at hj
      rw [c1, ← hj]
    · rw [show j = j / 2 * 2 + 1 by omega] at hj ⊢
      rw [e2] at hj
      rw [← Nat.add_assoc, c2, ← hj]
theorem app_noE (W : World) (a ad : Option Addr) (n cap c : Nat) (h : n ≤ cap) : (Builtin.append_ #[28, 28] 28 #[.slice a n cap, .slice ad 0 c]).run Try.prog W = .ok (.slice a n cap) W := by
  obtain ⟨i, i1, i0⟩ := Option.map_eq_some_iff.1 en_info
  cases a <;> cases ad <;> simp [Builtin.append_, run_underlying Try.underlying28, sizeOf, typeInfo, i1, Builtin.lenOf, Builtin.firstCells, storeCells, loadCells, loadCellsFrom, h]
/-- entries appended, or none. -/
theorem appE (W : World) (B : Nat) (v : Value) (l f : List Ent) (h : OE W B v l) (hB : B ≤ W.heap.size) (a : Option Addr) (c : Nat) (hf : EnIn W a f) (hn : l.length + f.length ≤ 4398046511104) :
    ∃ v' w', (Builtin.append_ #[28, 28] 28 #[v, .slice a f.length c]).run Try.prog W = .ok v' w' ∧ OE w' B v' (l ++ f) ∧ W.grownBy w' v.ownBlock ∧ (v'.ownBlock = v.ownBlock ∨ v'.ownBlock = some W.heap.size) := by
  rcases Nat.eq_zero_or_pos f.length with h0 | h0
  · have e := List.eq_nil_of_length_eq_zero h0
    subst e
    obtain ⟨a1, c1, e1, hc1, _⟩ := h.ein
    exact ⟨v, W, by rw [e1]; exact app_noE _ _ _ _ _ _ hc1, by rw [List.append_nil]; exact h, ⟨rfl, rfl, rfl, Nat.le_refl _, fun k hk hne => rfl⟩, Or.inl rfl⟩
  · have hf' := hf
    rcases hf with e | ⟨b, off, e, hb, hc⟩
    · rw [e] at h0; simp at h0
    · subst e
      obtain ⟨i, i1, i0⟩ := Option.map_eq_some_iff.1 en_info
      have i2 : i.zero = some (.agg #[.int .i64 0, .string ⟨#[]⟩]) := congrArg (·.1) i0
      have i3 : i.bytes = 24 := congrArg (·.2.1) i0
      have i4 : i.size = 2 := congrArg (·.2.2) i0
      have hml : maxLen = 9223372036854775807 := by decide
      obtain ⟨g, cap, w', hr, own, gr, hat, hlt⟩ := run_append_lies (P := Try.prog) W 28 28 B 24 i (.agg #[.int .i64 0, .string ⟨#[]⟩]) 2 24 Try.underlying28 i1 i2 i4 i3 rfl (by omega) v l.length (encE l) h ⟨b, off, none⟩ f.length c (encE f) (encE_len _) hf'.news (encE_one _) h0 (by omega) (by omega) hB _ rfl
      refine ⟨_, w', hr, ?_, gr, ?_⟩
      · unfold OE; rw [List.length_append, encE_append]; exact own
      · rcases hat with e | e
        · exact Or.inl e.symm
        · subst e; exact Or.inr rfl
theorem grown_belowE {W w' : World} {B : Nat} {v : Value} {l : List Ent} (h : OE W B v l) (hB : B ≤ W.heap.size) (gr : W.grownBy w' v.ownBlock) : Below B W w' := (Below.refl B W).grown gr hB (fun k e => (h.bound e).1)
theorem wpList_append_runE {P : Program} {ops : Array Oper} {rest : List Oper} {o : Oper} {a : Act} {Q : Exit → Act → World → Prop} {w : World} (hgd : o.guard = none) (s x : Operand) (t : TypeId)
    (ho : o.op = .call { callee := .builtin .append, args := #[s, x], argTypes := #[t, t] }) (v y v' : Value) (w' : World) (hs : a.eval s = v) (hx : a.eval x = y) (hr : (Builtin.append_ #[t, t] o.type #[v, y]).run P w = .ok v' w')
    (h : wpList P ops Q rest (a.put o.dst v') w') : wpList P ops Q (o :: rest) a w := by
  refine wpList_plain hgd fun K hK => ?_
  unfold Oper.wp execOp
  simp only [ho, resolve, invoke, builtin, Sem.run_bind, Sem.run_pure, Result.andThen_ok, List.map_toArray, List.map_cons, List.map_nil, hs, hx, hr]
  exact hK _ _ h
set_option maxHeartbeats 4000000 in
/-- slices.Clone of entries: in a block of their own, or nil. -/
theorem cloneE_any (a : Option Addr) (c : Nat) (l : List Ent) (w : World) (h : EnIn w a l) (ha : a = none → l = []) (hn : l.length ≤ 4398046511104) :
    Calls Try.prog 18 #[.slice a l.length c] w fun e w' => ∃ v, e = .returned v ∧ OE w' w.heap.size v l ∧ Below w.heap.size w w' := by
  have q29 : ∀ (w : World) (a : Option Addr) (n c n' c' : Nat), (binOp .eql 28 (.slice a n c) (.slice none n' c')).run Try.prog w = .ok (.bool a.isNone) w := fun w a n c n' c' => Lib.run_eql_slice_nil w _ _ a n c n' c' Try.underlying28
  cases a with
  | none =>
    have e := ha rfl
    subst e
    have fin : Hid (OE w w.heap.size (.slice none 0 0) [] ∧ Below w.heap.size w w) := ⟨OE.nil _ _, Below.refl _ _⟩
    clear h ha hn
    go_enter Try.func18, Try.ntmps18
    go_wp2_with fail
    go_ret
    exact ⟨_, rfl, fin.out⟩
  | some ad =>
    have hB0 : Below w.heap.size w (w.alloc (.cells #[] 24)) := (Below.refl _ w).alloc (Nat.le_refl _) _
    have own0 : OE (w.alloc (.cells #[] 24)) w.heap.size (.slice (some ⟨w.heap.size, 0, none⟩) 0 0) [] := by
      have := World.ownsRow_made (e := 24) (size := 2) (base := w.heap.size) w #[] 0 (by simp) (by simp [maxLen]) rfl
      simpa [OE, encE] using this
    obtain ⟨v', w', hr, ho, hg, hat⟩ := appE _ w.heap.size _ [] l own0 (by simp) (some ad) c (h.below hB0) (by simp; omega)
    rw [List.nil_append] at ho
    have hb : Below w.heap.size w w' := hB0.trans (grown_belowE own0 (by simp) hg)
    have fin : Hid (OE w' w.heap.size v' l ∧ Below w.heap.size w w') := ⟨ho, hb⟩
    have hrH : Hid (∀ W, W = w.alloc (.cells #[] 24) → (Builtin.append_ #[28, 28] 28 #[.slice (some ⟨w.heap.size, 0, none⟩) 0 0, .slice (some ad) l.length c]).run Try.prog W = .ok v' w') := fun W e => by subst e; exact hr
    clear hr ho hg hat hb own0 hB0 h hn ha
    generalize l.length = n at *
    go_enter Try.func18, Try.ntmps18
    go_wp2_with (at_builtin; refine wpList_append_runE (by rfl) _ _ _ (by rfl) _ _ _ _ (by rfl) (by rfl) (hrH.out _ rfl) ?_)
    go_ret
    exact ⟨_, rfl, fin.out⟩
theorem HS.oe {w : World} {B hp mb : Nat} {most : Bool} {v : Value} {ex : Option ByteArray} {f : ByteArray → Option Nat} {L : List Ent} {mv : Int} (h : HS w B hp mb most v ex f L mv) : OE w B v L := h.row
set_option maxHeartbeats 4000000 in
/-- the entries as they lie. -/
theorem list_any {w : World} {B hp mb : Nat} {most : Bool} {v : Value} {ex : Option ByteArray} {f : ByteArray → Option Nat} {L : List Ent} {mv : Int} (h : HS w B hp mb most v ex f L mv) (hn : L.length ≤ 4398046511104) :
    Calls Try.prog 6 #[.pointer (some ⟨hp, 0, none⟩)] w fun e w' => ∃ v, e = .returned v ∧ OE w' w.heap.size v L ∧ Below w.heap.size w w' := by
  obtain ⟨a, cap, e1, _, ei⟩ := h.oe.ein
  have ha : a = none → L = [] := fun q => by
    rcases ei with e | ⟨b, off, e, _⟩
    · exact e
    · rw [q] at e; cases e
  have CC : Hid _ := cloneE_any a cap L w ei ha hn
  subst e1
  have c0 := h.c0
  clear h ei ha hn
  go_enter Try.func6, Try.ntmps6
  go_wp2_with fail
  refine Calls.mono CC.out ?_
  rintro e w1 ⟨v, rfl, fin⟩
  have finH : Hid _ := fin
  clear fin CC
  go_wp2_with fail
  go_ret
  exact ⟨v, rfl, finH.out⟩
end Go.Proofs.Ytcglgfcmhhbeaaa.Hp
