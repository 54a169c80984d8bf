
import Derived.Test.YtpbcbpiolhjlhaaGreatDoorBzAE
import Derived.Test.YtpbcbpiolhjlhaaGreatDoorSoOq
import Derived.Test.YtpbcbpiolhjlhaaGreatDoorBzAD
import Derived.Test.YtpbcbpiolhjlhaaGreatDoorBzAA

namespace Go.Proofs.YtpbcbpiolhjlhaaGreatDoor
open Go.RowKit Go.Shelf
set_option linter.unusedVariables false
set_option linter.unusedSimpArgs false
theorem tag_info : (Tryz.prog.info? 91).map (fun i => (i.zero, i.bytes, i.size)) = some (some (.agg #[.string ⟨#[]⟩, .string ⟨#[]⟩]), 32, 2) := by kernel_rfl
def encT : List TagP → List Value
  | [] => []
  | t :: r => [.string t.1, .string t.2] ++ encT r
theorem encT_append (a b : List TagP) : encT (a ++ b) = encT a ++ encT b := by
  induction a with
  | nil => rfl
  | cons s r ih => simp [encT, ih]
theorem encT_len (l : List TagP) : (encT l).length = l.length * 2 := by
  induction l with
  | nil => rfl
  | cons s r ih => simp only [encT, List.length_append, ih, List.length_cons, List.length_nil]; omega
theorem encT_one (l : List TagP) : ∀ u ∈ encT l, u.oneCell' = true := by
  induction l with
  | nil => intro u hu; cases hu
  | cons s r ih =>
    intro u hu
    simp only [encT, List.mem_append, List.mem_cons, List.not_mem_nil, or_false] at hu
    rcases hu with (rfl | rfl) | hu
    · rfl
    · rfl
    · exact ih u hu
theorem encT_get (l : List TagP) (i : Nat) (s : TagP) (h : l[i]? = some s) : (encT l)[i * 2]? = some (.string s.1) ∧ (encT l)[i * 2 + 1]? = some (.string s.2) := by
  induction l generalizing i with
  | nil => simp at h
  | cons a r ih =>
    cases i with
    | zero => simp at h; subst h; simp [encT]
    | succ i =>
      simp at h
      have := ih i h
      simp only [encT]
      rw [show (i + 1) * 2 = i * 2 + 2 by omega]
      simpa using this
theorem tag_add (b o j : Nat) : ((⟨b, o, none⟩ : Addr).add j) = ⟨b, o + j, none⟩ := by
  simp [Addr.add]
/-- a row of tags of one's own. -/
def OT (w : World) (B : Nat) (v : Value) (l : List TagP) : Prop := w.ownsRow B 91 2 v l.length (encT l)
theorem OT.tin {w : World} {B : Nat} {v : Value} {l : List TagP} (h : OT w B v l) : ∃ a cap, v = .slice a l.length cap ∧ l.length ≤ cap ∧ TgIn w a l := by
  rcases h.2 with ⟨e, e0⟩ | ⟨g, cap, cur, e1, _, hg, hc, _⟩
  · exact ⟨none, 0, by rw [e, e0], by omega, Or.inl (List.eq_nil_of_length_eq_zero e0)⟩
  · subst e1
    have hcs := World.ownsRow.cells h (g := g) rfl
    refine ⟨some ⟨g, 0, none⟩, cap, rfl, hc, Or.inr ⟨g, 0, rfl, (World.ownsRow.lt h g rfl).2, fun i s hs => ?_⟩⟩
    obtain ⟨e1, e2⟩ := encT_get l i s hs
    have k1 := hcs _ _ e1
    have k2 := hcs _ _ e2
    rw [tag_add, Nat.zero_add] at k1 k2
    rw [Nat.zero_add]
    exact ⟨k1, k2⟩
theorem OT.nil (w : World) (B : Nat) : OT w B (.slice none 0 0) [] := ⟨rfl, Or.inl ⟨rfl, rfl⟩⟩
theorem OT.below {w w' : World} {B C : Nat} {v : Value} {l : List TagP} (h : OT w B v l) (hb : Below C w w') (hC : w.heap.size ≤ C) : OT w' B v l := by
  refine ⟨h.1, ?_⟩
  rcases h.2 with h2 | ⟨g, cap, cur, e1, e2, e3, e4⟩
  · exact Or.inl h2
  · exact Or.inr ⟨g, cap, cur, e1, e2, by rw [hb.block g (Nat.lt_of_lt_of_le (Array.getElem?_eq_some_iff.1 e3).1 hC)]; exact e3, e4⟩
theorem OT.bound {w : World} {B : Nat} {v : Value} {l : List TagP} (h : OT w B v l) {k : Nat} (e : v.ownBlock = some k) : B ≤ k ∧ k < w.heap.size := by
  rcases h.2 with ⟨e1, e0⟩ | ⟨g, cap, cur, e1, _, hg, hc, _⟩
  · rw [e1] at e; cases e
  · subst e1
    have : g = k := by simpa [Value.ownBlock] using e
    subst this
    exact World.ownsRow.lt h g rfl
theorem TgIn.news {w : World} {ad : Addr} {l : List TagP} (h : TgIn w (some ad) l) : (∀ j u, (encT l)[j]? = some u → w.cell? (ad.add j) = some u) := by
  rcases h with e | ⟨b, off, e, hb, hc⟩
  · subst e; simp [encT]
  · cases e
    intro j u hj
    have hj2 : j < l.length * 2 := by rw [← encT_len]; exact (List.getElem?_eq_some_iff.1 hj).1
    obtain ⟨s, hs⟩ : ∃ s, l[j / 2]? = some s := ⟨_, List.getElem?_eq_getElem (by omega)⟩
    obtain ⟨e1, e2⟩ := encT_get l _ s hs
    obtain ⟨c1, c2⟩ := hc _ s hs
    rw [tag_add]
    rcases (by omega : j % 2 = 0 ∨ j % 2 = 1) with q | q
    · rw [show j = j / 2 * 2 by omega] at hj ⊢
      rw [e1] at hj
      rw [c1, ← hj]
    · rw [show j = j / 2 * 2 + 1 by omega] at hj ⊢
      rw [e2] at hj
      rw [← Nat.add_assoc, c2, ← hj]
theorem app_noT (W : World) (a ad : Option Addr) (n cap c : Nat) (h : n ≤ cap) : (Builtin.append_ #[66, 66] 66 #[.slice a n cap, .slice ad 0 c]).run Tryz.prog W = .ok (.slice a n cap) W := by
  obtain ⟨i, i1, i0⟩ := Option.map_eq_some_iff.1 tag_info
  cases a <;> cases ad <;> simp [Builtin.append_, run_underlying Tryz.underlying66, sizeOf, typeInfo, i1, Builtin.lenOf, Builtin.firstCells, storeCells, loadCells, loadCellsFrom, h]
/-- tags appended, or none. -/
theorem appT (W : World) (B : Nat) (v : Value) (l f : List TagP) (h : OT W B v l) (hB : B ≤ W.heap.size) (a : Option Addr) (c : Nat) (hf : TgIn W a f) (hn : l.length + f.length ≤ 4398046511104) :
    ∃ v' w', (Builtin.append_ #[66, 66] 66 #[v, .slice a f.length c]).run Tryz.prog W = .ok v' w' ∧ OT w' B v' (l ++ f) ∧ W.grownBy w' v.ownBlock ∧ (v'.ownBlock = v.ownBlock ∨ v'.ownBlock = some W.heap.size) := by
  rcases Nat.eq_zero_or_pos f.length with h0 | h0
  · have e := List.eq_nil_of_length_eq_zero h0
    subst e
    obtain ⟨a1, c1, e1, hc1, _⟩ := h.tin
    exact ⟨v, W, by rw [e1]; exact app_noT _ _ _ _ _ _ hc1, by rw [List.append_nil]; exact h, ⟨rfl, rfl, rfl, Nat.le_refl _, fun k hk hne => rfl⟩, Or.inl rfl⟩
  · have hf' := hf
    rcases hf with e | ⟨b, off, e, hb, hc⟩
    · rw [e] at h0; simp at h0
    · subst e
      obtain ⟨i, i1, i0⟩ := Option.map_eq_some_iff.1 tag_info
      have i2 : i.zero = some (.agg #[.string ⟨#[]⟩, .string ⟨#[]⟩]) := congrArg (·.1) i0
      have i3 : i.bytes = 32 := congrArg (·.2.1) i0
      have i4 : i.size = 2 := congrArg (·.2.2) i0
      have hml : maxLen = 9223372036854775807 := by decide
      obtain ⟨g, cap, w', hr, own, gr, hat, hlt⟩ := run_append_lies (P := Tryz.prog) W 66 66 B 91 i (.agg #[.string ⟨#[]⟩, .string ⟨#[]⟩]) 2 32 Tryz.underlying66 i1 i2 i4 i3 rfl (by omega) v l.length (encT l) h ⟨b, off, none⟩ f.length c (encT f) (encT_len _) hf'.news (encT_one _) h0 (by omega) (by omega) hB _ rfl
      refine ⟨_, w', hr, ?_, gr, ?_⟩
      · unfold OT; rw [List.length_append, encT_append]; exact own
      · rcases hat with e | e
        · exact Or.inl e.symm
        · subst e; exact Or.inr rfl
theorem grown_below {W w' : World} {B : Nat} {v : Value} {l : List TagP} (h : OT W B v l) (hB : B ≤ W.heap.size) (gr : W.grownBy w' v.ownBlock) : Below B W w' := (Below.refl B W).grown gr hB (fun k e => (h.bound e).1)
end Go.Proofs.YtpbcbpiolhjlhaaGreatDoor


namespace Go.Proofs.YtpbcbpiolhjlhaaGreatDoor.So
open Go.RowKit
set_option linter.unusedVariables false
set_option linter.unusedSimpArgs false
theorem wpList_append_runS {P : Program} {ops : Array Oper} {rest : List Oper} {o : Oper} {a : Act} {Q : Exit → Act → World → Prop} {w : World} (hgd : o.guard = none) (s x : Operand) (t : TypeId)
    (ho : o.op = .call { callee := .builtin .append, args := #[s, x], argTypes := #[t, t] }) (v y v' : Value) (w' : World) (hs : a.eval s = v) (hx : a.eval x = y) (hr : (Builtin.append_ #[t, t] o.type #[v, y]).run P w = .ok v' w')
    (h : wpList P ops Q rest (a.put o.dst v') w') : wpList P ops Q (o :: rest) a w := by
  refine wpList_plain hgd fun K hK => ?_
  unfold Oper.wp execOp
  simp only [ho, resolve, invoke, builtin, Sem.run_bind, Sem.run_pure, Result.andThen_ok, List.map_toArray, List.map_cons, List.map_nil, hs, hx, hr]
  exact hK _ _ h
def noT : Tg := (⟨#[]⟩, ⟨#[]⟩)
def atT (l : List TagP) : Nat → Tg := fun k => l.getD k noT
theorem atT_map (l : List TagP) : (List.range l.length).map (atT l) = l := by
  apply List.ext_getElem
  · simp
  · intro i h1 h2
    simp [atT, List.getD_eq_getElem?_getD, List.getElem?_eq_getElem h2]
theorem OT.tr {w : World} {B g cap : Nat} {l : List TagP} (h : OT w B (.slice (some ⟨g, 0, none⟩) l.length cap) l) : TR w g 0 l.length (atT l) := by
  refine ⟨(World.ownsRow.lt h g rfl).2, fun k hk => ?_⟩
  have hs : l[k]? = some (atT l k) := by simp [atT, List.getD_eq_getElem?_getD, List.getElem?_eq_getElem hk]
  obtain ⟨e1, e2⟩ := encT_get l k _ hs
  have hcs := World.ownsRow.cells h (g := g) rfl
  have k1 := hcs _ _ e1
  have k2 := hcs _ _ e2
  rw [tag_add, Nat.zero_add] at k1 k2
  rw [Nat.zero_add]
  exact ⟨⟨k1, k2⟩, World.ownsRow.frozenAt h _, World.ownsRow.frozenAt h _⟩
theorem TR.tin {w : World} {b off m : Nat} {G : Nat → Tg} (h : TR w b off m G) : TgIn w (some ⟨b, off, none⟩) ((List.range m).map G) := by
  refine Or.inr ⟨b, off, rfl, h.1, fun i t ht => ?_⟩
  rw [List.getElem?_map, Option.map_eq_some_iff] at ht
  obtain ⟨j, h1, rfl⟩ := ht
  obtain ⟨h2, h3⟩ := List.getElem?_eq_some_iff.1 h1
  simp at h3 h2
  subst h3
  exact (h.2 i h2).1
/-- the order of keys. -/
def kl (a b : ByteArray) : Bool := decide (strC a b < 0)
theorem kl_ko : KO kl where
  irr := fun a => decide_eq_false (by rw [(strC_is.zero a a).2 rfl]; omega)
  tr := fun a b c h1 h2 => decide_eq_true (strC_is.lt (of_decide_eq_true h1) (by have := of_decide_eq_true h2; omega))
  tot := fun a b => by
    rcases strC_is.range a b with h | h | h
    · exact Or.inl (decide_eq_true (by omega))
    · exact Or.inr (Or.inl ((strC_is.zero a b).1 h))
    · exact Or.inr (Or.inr (decide_eq_true (by rw [strC_is.flip a b]; omega)))
/-- tags in order, of each key the last. -/
def sortT (l : List TagP) : List TagP := srtD kl l
def cK : Tg → Tg → Int := fun x y => strC x.1 y.1
theorem cK_any : CmpA 64 cK := fun x y W => (compareKeys_any x.1 x.2 y.1 y.2 W).mono fun e w' h => ⟨h.1, by rw [h.2]; exact twoT_below W x.1 x.2 y.1 y.2⟩
set_option maxRecDepth 100000 in
set_option maxHeartbeats 4000000 in
theorem cloneT_any (ad : Addr) (c : Nat) (l : List TagP) (w : World) (h : TgIn w (some ad) l) (hn : l.length ≤ 4398046511104) :
    Calls Tryz.prog 21 #[.slice (some ad) l.length c] w fun e w' => ∃ g cap, e = .returned (.slice (some ⟨g, 0, none⟩) l.length cap) ∧ w.heap.size ≤ g ∧ l.length ≤ cap ∧ OT w' w.heap.size (.slice (some ⟨g, 0, none⟩) l.length cap) l ∧ Below w.heap.size w w' := by
  have q29 : ∀ (w : World) (a : Option Addr) (n c n' c' : Nat), (binOp .eql 66 (.slice a n c) (.slice none n' c')).run Tryz.prog w = .ok (.bool a.isNone) w := fun w a n c n' c' => Lib.run_eql_slice_nil w _ _ a n c n' c' Tryz.underlying66
  have hB0 : Below w.heap.size w (w.alloc (.cells #[] 91)) := (Below.refl _ w).alloc (Nat.le_refl _) _
  have own0 : OT (w.alloc (.cells #[] 91)) w.heap.size (.slice (some ⟨w.heap.size, 0, none⟩) 0 0) [] := by
    have := World.ownsRow_made (e := 91) (size := 2) (base := w.heap.size) w #[] 0 (by simp) (by simp [maxLen]) rfl
    simpa [OT, encT] using this
  obtain ⟨v', w', hr, ho, hg, hat⟩ := appT _ w.heap.size _ [] l own0 (by simp) (some ad) c (h.below hB0) (by simp; omega)
  rw [List.nil_append] at ho
  have hb : Below w.heap.size w w' := hB0.trans (grown_below own0 (by simp) hg)
  have hrep : ∃ g cap, v' = .slice (some ⟨g, 0, none⟩) l.length cap ∧ w.heap.size ≤ g ∧ l.length ≤ cap := by
    rcases ho.2 with ⟨e, e0⟩ | ⟨g, cap, cur, e1, e2, _, hc, _⟩
    · exfalso
      rw [e] at hat
      rcases hat with e | e <;> cases e
    · exact ⟨g, cap, e1, e2, hc⟩
  obtain ⟨g, cap, rfl, hgB, hcap⟩ := hrep
  have fin : Hid (w.heap.size ≤ g ∧ l.length ≤ cap ∧ OT w' w.heap.size (.slice (some ⟨g, 0, none⟩) l.length cap) l ∧ Below w.heap.size w w') := ⟨hgB, hcap, ho, hb⟩
  have hrH : Hid (∀ W, W = w.alloc (.cells #[] 91) → (Builtin.append_ #[66, 66] 66 #[.slice (some ⟨w.heap.size, 0, none⟩) 0 0, .slice (some ad) l.length c]).run Tryz.prog W = .ok (.slice (some ⟨g, 0, none⟩) l.length cap) w') := fun W e => by subst e; exact hr
  clear hr ho hg hat hb own0 hB0 h hn hgB hcap
  generalize l.length = n at *
  go_enter Tryz.func21, Tryz.ntmps21
  go_wp2_with (at_builtin; refine wpList_append_runS (by rfl) _ _ _ (by rfl) _ _ _ _ (by rfl) (by rfl) (hrH.out _ rfl) ?_)
  go_ret
  exact ⟨g, cap, rfl, fin.out⟩
set_option maxRecDepth 100000 in
theorem cloneT_nil (c : Nat) (w : World) : Calls Tryz.prog 21 #[.slice none 0 c] w fun e w' => e = .returned (.slice none 0 0) ∧ w' = w := by
  have q29 : ∀ (w : World) (a : Option Addr) (n c n' c' : Nat), (binOp .eql 66 (.slice a n c) (.slice none n' c')).run Tryz.prog w = .ok (.bool a.isNone) w := fun w a n c n' c' => Lib.run_eql_slice_nil w _ _ a n c n' c' Tryz.underlying66
  go_enter Tryz.func21, Tryz.ntmps21
  go_wp2_with fail
  go_ret
  exact ⟨rfl, rfl⟩
set_option maxRecDepth 100000 in
theorem reverse_nil (w : World) : Calls Tryz.prog 62 #[.slice none 0 0] w fun e w' => e = .returned undef ∧ w' = w := by
  go_enter Tryz.func62, Tryz.ntmps62
  go_wp2_with fail
  go_loopw [2, 3] (fun vi vj wr => vi = .int .i64 0 ∧ vj = .int .i64 (-1) ∧ wr = w) (fun _ _ _ => 0)
  case atStart => exact ⟨rfl, rfl, rfl⟩
  case round =>
    obtain ⟨rfl, rfl, rfl⟩ := hrel
    go_wp2_with fail
    go_end0
    exact ⟨rfl, rfl⟩
set_option maxRecDepth 100000 in
theorem insert_nil (w : World) : Calls Tryz.prog 99 #[.slice none 0 0, .int .i64 0, .int .i64 0, .func (.func 64) #[] #[]] w fun e w' => e = .returned undef ∧ w' = w := by
  go_enter Tryz.func99, Tryz.ntmps99
  go_wp2_with fail
  go_loopw [8] (fun vi wr => vi = .int .i64 1 ∧ wr = w) (fun _ _ => 0)
  case atStart => exact ⟨rfl, rfl⟩
  case round =>
    obtain ⟨rfl, rfl⟩ := hrel
    go_wp2_with fail
    go_end0
    exact ⟨rfl, rfl⟩
set_option maxRecDepth 100000 in
theorem stable_nil (w : World) : Calls Tryz.prog 83 #[.slice none 0 0, .int .i64 0, .func (.func 64) #[] #[]] w fun e w' => e = .returned undef ∧ w' = w := by
  go_enter Tryz.func83, Tryz.ntmps83
  go_wp2_with fail
  go_loopw [7, 8] (fun va vb wr => va = .int .i64 0 ∧ vb = .int .i64 20 ∧ wr = w) (fun _ _ _ => 0)
  case atStart => exact ⟨rfl, rfl, rfl⟩
  case round =>
    obtain ⟨rfl, rfl, hw⟩ := hrel
    subst hw
    go_wp2_with fail
    refine Calls.mono (insert_nil _) ?_
    rintro e w2 ⟨rfl, hw⟩
    subst hw
    go_wp2_with fail
    go_loopw [6, 7, 8] (fun vs va vb wr => vs = .int .i64 20 ∧ wr = w2) (fun _ _ _ _ => 0)
    case atStart => exact ⟨rfl, rfl⟩
    case round =>
      obtain ⟨rfl, hw⟩ := hrel
      subst hw
      go_wp2_with fail
      go_end0
      exact ⟨rfl, rfl⟩
set_option maxRecDepth 100000 in
theorem sortStable_nil (w : World) : Calls Tryz.prog 63 #[.slice none 0 0, .func (.func 64) #[] #[]] w fun e w' => e = .returned undef ∧ w' = w := by
  go_enter Tryz.func63, Tryz.ntmps63
  go_wp2_with fail
  refine Calls.mono (stable_nil _) ?_
  rintro e w2 ⟨rfl, hw⟩
  subst hw
  go_wp2_with fail
  go_end0
  exact ⟨rfl, rfl⟩
set_option maxRecDepth 100000 in
theorem compact_nil (w : World) : Calls Tryz.prog 65 #[.slice none 0 0, .func (.func 66) #[] #[]] w fun e w' => e = .returned (.slice none 0 0) ∧ w' = w := by
  go_enter Tryz.func65, Tryz.ntmps65
  go_wp2_with fail
  go_ret
  exact ⟨rfl, rfl⟩
/-- the block of a row of tags. -/
def ShT (w : World) (g cap : Nat) : Prop := ∃ cur : Array Value, w.heap[g]? = some (.cells cur 91 (0, 0)) ∧ cap ≤ maxLen ∧ cur.size = cap * 2
theorem OT.shp {w : World} {B g n cap : Nat} {l : List TagP} (h : OT w B (.slice (some ⟨g, 0, none⟩) n cap) l) : ShT w g cap := by
  rcases h.2 with ⟨e, _⟩ | ⟨g', cap', cur, e1, _, hg, _, hm, hs, _⟩
  · cases e
  · injection e1 with e1 e2 e3
    injection e1 with e1
    injection e1 with e1
    subst e1 e3
    exact ⟨cur, hg, hm, hs⟩
theorem ShT.ob {w w' : World} {g cap : Nat} (h : ShT w g cap) (o : OB g w w') : ShT w' g cap := by
  obtain ⟨cur, hg, hm, hs⟩ := h
  obtain ⟨c', h1, h2⟩ := o.shp cur _ hg
  exact ⟨c', h1, hm, h2.trans hs⟩
theorem ShT.own {w : World} {B g m cap : Nat} {G : Nat → Tg} (h : ShT w g cap) (t : TR w g 0 m G) (hc : m ≤ cap) (hB : B ≤ g) : OT w B (.slice (some ⟨g, 0, none⟩) m cap) ((List.range m).map G) := by
  obtain ⟨cur, hg, hm, hs⟩ := h
  have ln : ((List.range m).map G).length = m := by simp
  refine ⟨by rw [encT_len], Or.inr ⟨g, cap, cur, by rw [ln], hB, hg, by rw [ln]; exact hc, hm, hs, ?_⟩⟩
  rw [ln]
  apply List.ext_getElem?
  intro j
  rw [List.getElem?_take]
  by_cases hj : j < m * 2
  · rw [if_pos hj, Array.getElem?_toList]
    have hk : j / 2 < m := by omega
    have hget : ((List.range m).map G)[j / 2]? = some (G (j / 2)) := by simp [hk]
    obtain ⟨e1, e2⟩ := encT_get _ _ _ hget
    obtain ⟨⟨t1, t2⟩, _, _⟩ := t.2 (j / 2) hk
    rw [cell_of_row _ g _ cur _ (0, 0) hg] at t1 t2
    rw [Nat.zero_add] at t1 t2
    rcases Nat.mod_two_eq_zero_or_one j with c | c
    · have ej : j = j / 2 * 2 := by omega
      rw [ej, t1, e1]
    · have ej : j = j / 2 * 2 + 1 := by omega
      rw [ej, t2, e2]
  · rw [if_neg hj]
    exact (List.getElem?_eq_none (by rw [encT_len, ln]; omega)).symm
/-- what is told owns its block. -/
def OwnR (w w' : World) (e : Ending) (l : List TagP) : Prop := ∃ v, e = .returned v ∧ OT w' w.heap.size v (sortT l)
/-- what Sort tells: none, or a row of its own. -/
def SortedR (w w' : World) (e : Ending) (l : List TagP) : Prop :=
  (l = [] ∧ e = .returned (.slice none 0 0)) ∨ ∃ (g m cap : Nat) (G : Nat → Tg), e = .returned (.slice (some ⟨g, 0, none⟩) m cap) ∧ w.heap.size ≤ g ∧ m ≤ cap ∧ TR w' g 0 m G ∧ (List.range m).map G = sortT l
set_option maxRecDepth 100000 in
set_option maxHeartbeats 4000000 in
theorem sortO_any (a : Option Addr) (c : Nat) (l : List TagP) (w : World) (h : TgIn w a l) (hn : l.length ≤ 4398046511104) :
    Calls Tryz.prog 16 #[.slice a l.length c] w fun e w' => (SortedR w w' e l ∧ OwnR w w' e l) ∧ Below w.heap.size w w' := by
  cases a with
  | none =>
    obtain rfl : l = [] := by
      rcases h with e | ⟨b, off, e, _⟩
      · exact e
      · cases e
    show Calls Tryz.prog 16 #[.slice none 0 c] w _
    go_enter Tryz.func16, Tryz.ntmps16
    go_wp2_with fail
    refine Calls.mono (cloneT_nil _ _) ?_
    rintro e w2 ⟨rfl, hw⟩
    subst hw
    go_wp2_with fail
    refine Calls.mono (reverse_nil _) ?_
    rintro e w2 ⟨rfl, hw⟩
    subst hw
    go_wp2_with fail
    refine Calls.mono (sortStable_nil _) ?_
    rintro e w2 ⟨rfl, hw⟩
    subst hw
    go_wp2_with fail
    refine Calls.mono (compact_nil _) ?_
    rintro e w2 ⟨rfl, hw⟩
    subst hw
    go_wp2_with fail
    go_ret
    exact ⟨⟨Or.inl ⟨rfl, rfl⟩, ⟨_, rfl, OT.nil _ _⟩⟩, Below.refl _ _⟩
  | some ad =>
    have C1 : Hid _ := cloneT_any ad c l w h hn
    have hs : Hid (sortT l = sortT l) := rfl
    obtain ⟨n, hnl⟩ : ∃ n, l.length = n := ⟨_, rfl⟩
    rw [hnl] at C1 hn ⊢
    have hnH : Hid (l.length = n) := hnl
    clear h hnl hs
    go_enter Tryz.func16, Tryz.ntmps16
    go_wp2_with fail
    refine Calls.mono C1.out ?_
    rintro e w1 ⟨g, cap, rfl, hg, hcap, ho, hb⟩
    have T1 : TR w1 g 0 n (atT l) := by
      have := hnH.out
      subst this
      exact OT.tr ho
    have H1 : Hid (ShT w1 g cap) := by
      have := hnH.out
      subst this
      exact OT.shp ho
    have B1 : Hid (Below w.heap.size w w1) := hb
    have C2 : Hid _ := reverse_any g 0 n cap (atT l) w1 T1 (by omega)
    clear ho hb T1 C1
    go_wp2_with fail
    refine Calls.mono C2.out ?_
    rintro e w2 ⟨rfl, T2, O2⟩
    have C3 : Hid _ := sortStable_any (RT kl) cK cK_any (RT_tr kl_ko) g 0 n cap (by omega) (fun k => (atT l (n - 1 - k), k)) w2 T2 (RT_all kl_ko (fun k => atT l (n - 1 - k)) n)
    have B2 : Hid (Below w.heap.size w w2) := O2.into B1.out hg B1.out.size
    have H2 : Hid (ShT w2 g cap) := H1.out.ob O2
    clear T2 O2 C2 B1 H1
    go_wp2_with fail
    refine Calls.mono C3.out ?_
    rintro e w3 ⟨rfl, f, P3, S3, T3, O3⟩
    have B3 : Hid (Below w.heap.size w w3) := O3.into B2.out hg B2.out.size
    have C4 : Hid _ := compact_any g 0 n cap (fs f) w3 T3 (by omega) hcap
    have is : Hid (fsts (fs f) n = sortT l) := by
      have := sort_is kl_ko (atT l) n f S3 P3
      rw [← hnH.out, atT_map] at this
      rw [← hnH.out]
      exact this
    have H3 : Hid (ShT w3 g cap) := H2.out.ob O3
    clear P3 S3 T3 O3 C3 B2 H2
    go_wp2_with fail
    refine Calls.mono C4.out ?_
    rintro e w4 ⟨m, G, rfl, hm, T4, hG, O4⟩
    have fin : Hid ((SortedR w w4 (.returned (.slice (some ⟨g, 0, none⟩) m cap)) l ∧ OwnR w w4 (.returned (.slice (some ⟨g, 0, none⟩) m cap)) l) ∧ Below w.heap.size w w4) := ⟨⟨Or.inr ⟨g, m, cap, G, rfl, hg, by omega, T4, hG.trans is.out⟩, ⟨_, rfl, by rw [← hG.trans is.out]; exact (H3.out.ob O4).own T4 (by omega) hg⟩⟩, O4.into B3.out hg B3.out.size⟩
    clear T4 hG O4 C4 B3 is H3
    go_wp2_with fail
    go_ret
    exact fin.out
theorem sort_any (a : Option Addr) (c : Nat) (l : List TagP) (w : World) (h : TgIn w a l) (hn : l.length ≤ 4398046511104) :
    Calls Tryz.prog 16 #[.slice a l.length c] w fun e w' => SortedR w w' e l ∧ Below w.heap.size w w' :=
  (sortO_any a c l w h hn).mono fun e w' h => ⟨h.1.1, h.2⟩
end Go.Proofs.YtpbcbpiolhjlhaaGreatDoor.So


namespace Go.Proofs.YtpbcbpiolhjlhaaGreatDoor
open Go.RowKit _root_.Go.Proofs.YtpbcbpiolhjlhaaGreatDoor.So
set_option linter.unusedVariables false
set_option linter.unusedSimpArgs false
/-- a sample of a series. -/
structure WrP where
  s : SerP
  tm : Int
  kd : Nat
  n : Int
/-- the order of times. -/
def tmC (a b : Int) : Int := if a < b then -1 else if b < a then 1 else 0
theorem tmC_is : IsCmp tmC where
  range := fun a b => by unfold tmC; split <;> (try split) <;> simp
  flip := fun a b => by unfold tmC; split <;> split <;> (try split) <;> (try split) <;> (first | rfl | omega)
  zero := fun a b => by unfold tmC; split <;> (try split) <;> simp <;> omega
  trans := fun a b d h1 h2 => by unfold tmC at *; split at h1 <;> (try split at h1) <;> split at h2 <;> (try split at h2) <;> split <;> (try split) <;> omega
def wK (x : WrP) : SerP × Int := (x.s, x.tm)
def kC : SerP × Int → SerP × Int → Int := pairC serC tmC
theorem kC_is : IsCmp kC := pairC_is serC_is tmC_is
def wC (x y : WrP) : Int := kC (wK x) (wK y)
/-- a sample as a value, its tags lying at a. -/
def wV (x : WrP) (a : Option Addr) (c : Nat) : Value := .agg #[.string x.s.m, .slice a x.s.t.length c, .string x.s.f, .int .i64 x.tm, .int .u8 (x.kd : Int), .int .i64 x.n]
set_option maxRecDepth 100000 in
theorem isNaN_any (a : Int) (w : World) : Calls Tryz.prog 87 #[.int .i64 a] w fun e w' => e = .returned (.bool false) ∧ w' = w := by
  go_enter Tryz.func87, Tryz.ntmps87
  go_wp2_with fail
  go_ret
  exact ⟨rfl, rfl⟩
set_option maxRecDepth 100000 in
theorem cmpI_any (a b : Int) (w : World) : Calls Tryz.prog 71 #[.int .i64 a, .int .i64 b] w fun e w' => e = .returned (.int .i64 (tmC a b)) ∧ w' = w := by
  have ca : Hid (∀ W, Calls Tryz.prog 87 #[.int .i64 a] W fun e w' => e = .returned (.bool false) ∧ w' = W) := isNaN_any a
  have cb : Hid (∀ W, Calls Tryz.prog 87 #[.int .i64 b] W fun e w' => e = .returned (.bool false) ∧ w' = W) := isNaN_any b
  by_cases h1 : a < b
  · have e : tmC a b = -1 := by unfold tmC; rw [if_pos h1]
    rw [e]
    clear e
    go_enter Tryz.func71, Tryz.ntmps71
    go_wp2_with fail
    refine Calls.mono (ca.out _) ?_
    rintro e w1 ⟨rfl, hw⟩
    subst hw
    go_wp2_with fail
    refine Calls.mono (cb.out _) ?_
    rintro e w2 ⟨rfl, hw⟩
    subst hw
    go_wp2_with fail
    go_ret
    exact ⟨rfl, rfl⟩
  · by_cases h2 : b < a
    · have e : tmC a b = 1 := by unfold tmC; rw [if_neg h1, if_pos h2]
      rw [e]
      clear e
      go_enter Tryz.func71, Tryz.ntmps71
      go_wp2_with fail
      refine Calls.mono (ca.out _) ?_
      rintro e w1 ⟨rfl, hw⟩
      subst hw
      go_wp2_with fail
      refine Calls.mono (cb.out _) ?_
      rintro e w2 ⟨rfl, hw⟩
      subst hw
      go_wp2_with fail
      go_ret
      exact ⟨rfl, rfl⟩
    · have e : tmC a b = 0 := by unfold tmC; rw [if_neg h1, if_neg h2]
      rw [e]
      clear e
      go_enter Tryz.func71, Tryz.ntmps71
      go_wp2_with fail
      refine Calls.mono (ca.out _) ?_
      rintro e w1 ⟨rfl, hw⟩
      subst hw
      go_wp2_with fail
      refine Calls.mono (cb.out _) ?_
      rintro e w2 ⟨rfl, hw⟩
      subst hw
      go_wp2_with fail
      go_ret
      exact ⟨rfl, rfl⟩
set_option maxRecDepth 100000 in
set_option maxHeartbeats 4000000 in
theorem bcompare_any (x y : WrP) (a b : Option Addr) (c1 c2 : Nat) (w : World) (ha : SerIn w a x.s) (hb : SerIn w b y.s) :
    Calls Tryz.prog 20 #[wV x a c1, wV y b c2] w fun e w' => e = .returned (.int .i64 (wC x y)) ∧ Below w.heap.size w w' := by
  obtain ⟨⟨xm, xt, xf⟩, xtm, xk, xn⟩ := x
  obtain ⟨⟨ym, yt, yf⟩, ytm, yk, yn⟩ := y
  unfold wV wC wK kC pairC
  simp only at ha hb ⊢
  have B2 : ∀ o1 o2, Below w.heap.size w ((w.alloc o1).alloc o2) := fun o1 o2 => ((Below.refl _ w).alloc (Nat.le_refl _) o1).alloc (by simp) o2
  have C1 : Hid (∀ W, Below w.heap.size w W → Calls Tryz.prog 70 #[.agg #[.string xm, .slice a xt.length c1, .string xf], .agg #[.string ym, .slice b yt.length c2, .string yf]] W fun e w' => e = .returned (.int .i64 (serC ⟨xm, xt, xf⟩ ⟨ym, yt, yf⟩)) ∧ Below W.heap.size W w') := fun W hW => compare_any a b c1 c2 ⟨xm, xt, xf⟩ ⟨ym, yt, yf⟩ W ⟨ha.1.below hW, ha.2⟩ ⟨hb.1.below hW, hb.2⟩
  have C2 : Hid (∀ W, Calls Tryz.prog 71 #[.int .i64 xtm, .int .i64 ytm] W fun e w' => e = .returned (.int .i64 (tmC xtm ytm)) ∧ w' = W) := cmpI_any xtm ytm
  generalize serC ⟨xm, xt, xf⟩ ⟨ym, yt, yf⟩ = r at C1 ⊢
  generalize tmC xtm ytm = q at C2 ⊢
  generalize xt.length = lx at *
  generalize yt.length = ly at *
  clear ha hb
  have b2 := B2 (.cells #[.string xm, .slice a lx c1, .string xf, .int .i64 xtm, .int .u8 (xk : Int), .int .i64 xn] 76) (.cells #[.string ym, .slice b ly c2, .string yf, .int .i64 ytm, .int .u8 (yk : Int), .int .i64 yn] 76)
  have s2 : w.heap.size + 2 = ((w.alloc (.cells #[.string xm, .slice a lx c1, .string xf, .int .i64 xtm, .int .u8 (xk : Int), .int .i64 xn] 76)).alloc (.cells #[.string ym, .slice b ly c2, .string yf, .int .i64 ytm, .int .u8 (yk : Int), .int .i64 yn] 76)).heap.size := by simp
  have C1' : Hid (Calls Tryz.prog 70 #[.agg #[.string xm, .slice a lx c1, .string xf], .agg #[.string ym, .slice b ly c2, .string yf]] ((w.alloc (.cells #[.string xm, .slice a lx c1, .string xf, .int .i64 xtm, .int .u8 (xk : Int), .int .i64 xn] 76)).alloc (.cells #[.string ym, .slice b ly c2, .string yf, .int .i64 ytm, .int .u8 (yk : Int), .int .i64 yn] 76)) fun e w' => e = .returned (.int .i64 r) ∧ Below w.heap.size w w' ∧ w'.cell? ⟨w.heap.size, 3, none⟩ = some (.int .i64 xtm) ∧ w'.cell? ⟨w.heap.size + 1, 3, none⟩ = some (.int .i64 ytm)) := (C1.out _ b2).mono fun e w' hh => ⟨hh.1, b2.trans (hh.2.mono b2.size), by rw [hh.2.cell (p := ⟨w.heap.size, 3, none⟩) (by rw [← s2]; show w.heap.size < _; omega)]; simp [go_sem], by rw [hh.2.cell (p := ⟨w.heap.size + 1, 3, none⟩) (by rw [← s2]; show w.heap.size + 1 < _; omega)]; simp [go_sem]⟩
  obtain ⟨RES, hRES⟩ : ∃ R, (if r = 0 then q else r) = R := ⟨_, rfl⟩
  rw [hRES]
  have hRH : Hid ((if r = 0 then q else r) = RES) := hRES
  clear B2 C1 b2 s2 hRES
  go_enter Tryz.func20, Tryz.ntmps20
  go_wp2_with fail
  refine Calls.mono C1'.out ?_
  rintro e w1 ⟨rfl, b1, x1, y1⟩
  have b1H : Hid (Below w.heap.size w w1) := b1
  clear b1 C1'
  by_cases hr : r = 0
  · have hq : Hid (q = RES) := by have := hRH.out; rw [if_pos hr] at this; exact this
    have hrb : (r == 0) = true := by simpa using hr
    clear hRH
    subst hr
    go_wp2_with fail
    refine Calls.mono (C2.out _) ?_
    rintro e w2 ⟨rfl, hw⟩
    subst hw
    go_wp2_with fail
    go_ret
    exact ⟨by rw [← hq.out]; rfl, b1H.out⟩
  · have hq : Hid (r = RES) := by have := hRH.out; rw [if_neg hr] at this; exact this
    have hrb : (r == 0) = false := by simpa using hr
    clear hr hRH
    go_wp2_with fail
    go_ret
    exact ⟨by rw [← hq.out]; rfl, b1H.out⟩
end Go.Proofs.YtpbcbpiolhjlhaaGreatDoor


namespace Go.Proofs.YtpbcbpiolhjlhaaGreatDoor
open Go.RowKit _root_.Go.Proofs.YtpbcbpiolhjlhaaGreatDoor.So
set_option linter.unusedVariables false
set_option linter.unusedSimpArgs false
/-- a sample of a series in memory: six cells, its tags lying at a. -/
def WAt (w : World) (b o : Nat) (x : WrP) (a : Option Addr) (c : Nat) : Prop := w.cell? ⟨b, o, none⟩ = some (.string x.s.m) ∧ w.cell? ⟨b, o + 1, none⟩ = some (.slice a x.s.t.length c) ∧ w.cell? ⟨b, o + 2, none⟩ = some (.string x.s.f) ∧ w.cell? ⟨b, o + 3, none⟩ = some (.int .i64 x.tm) ∧ w.cell? ⟨b, o + 4, none⟩ = some (.int .u8 (x.kd : Int)) ∧ w.cell? ⟨b, o + 5, none⟩ = some (.int .i64 x.n)
theorem WAt.below {w w' : World} {b o : Nat} {x : WrP} {a : Option Addr} {c C : Nat} (h : WAt w b o x a c) (hB : Below C w w') (hb : b < C) : WAt w' b o x a c := by
  obtain ⟨h1, h2, h3, h4, h5, h6⟩ := h
  exact ⟨by rw [hB.cell (p := ⟨b, o, none⟩) hb]; exact h1, by rw [hB.cell (p := ⟨b, o + 1, none⟩) hb]; exact h2, by rw [hB.cell (p := ⟨b, o + 2, none⟩) hb]; exact h3, by rw [hB.cell (p := ⟨b, o + 3, none⟩) hb]; exact h4, by rw [hB.cell (p := ⟨b, o + 4, none⟩) hb]; exact h5, by rw [hB.cell (p := ⟨b, o + 5, none⟩) hb]; exact h6⟩
/-- samples of series that lie in memory. -/
def WIn (w : World) (a : Option Addr) (l : List WrP) : Prop := l = [] ∨ ∃ b off, a = some ⟨b, off, none⟩ ∧ b < w.heap.size ∧ ∀ i x, l[i]? = some x → ∃ ta tc, WAt w b (off + i * 6) x ta tc ∧ SerIn w ta x.s
theorem SerIn.belowW {w w' : World} {a : Option Addr} {s : SerP} (h : SerIn w a s) (hB : Below w.heap.size w w') : SerIn w' a s := ⟨h.1.below hB, h.2⟩
theorem WIn.below {w w' : World} {a : Option Addr} {l : List WrP} (h : WIn w a l) (hB : Below w.heap.size w w') : WIn w' a l := by
  rcases h with h | ⟨b, off, ha, hb, hc⟩
  · exact Or.inl h
  · refine Or.inr ⟨b, off, ha, Nat.lt_of_lt_of_le hb hB.size, fun i x hx => ?_⟩
    obtain ⟨ta, tc, h1, h2⟩ := hc i x hx
    exact ⟨ta, tc, h1.below hB hb, h2.belowW hB⟩
theorem WIn.at {w wr : World} {a : Option Addr} {l : List WrP} (h : WIn w a l) (hB : Below w.heap.size w wr) {k : Nat} {x : WrP} (hx : l[k]? = some x) : ∃ b off ta tc, a = some ⟨b, off, none⟩ ∧ b < w.heap.size ∧ WAt wr b (off + k * 6) x ta tc ∧ ∀ W, Below w.heap.size w W → WAt W b (off + k * 6) x ta tc ∧ SerIn W ta x.s := by
  rcases h with h0 | ⟨b, off, e, hb, hc⟩
  · rw [h0] at hx; simp at hx
  · obtain ⟨ta, tc, h1, h2⟩ := hc k x hx
    exact ⟨b, off, ta, tc, e, hb, h1.below hB hb, fun W hW => ⟨h1.below hW hb, h2.belowW hW⟩⟩
def noW : WrP := ⟨⟨⟨#[]⟩, [], ⟨#[]⟩⟩, 0, 0, 0⟩
def atW (l : List WrP) : Nat → WrP := fun k => l.getD k noW
theorem atW_get {l : List WrP} {k : Nat} {x : WrP} (h : l[k]? = some x) : atW l k = x := by unfold atW; rw [List.getD_eq_getElem?_getD, h]; rfl
theorem atW_some {l : List WrP} {k : Nat} (h : k < l.length) : l[k]? = some (atW l k) := by rw [List.getElem?_eq_getElem h, atW, List.getD_eq_getElem?_getD, List.getElem?_eq_getElem h]; rfl
/-- which place stands ahead. -/
def ahW (l : List WrP) (i j : Nat) : Bool := decide (wC (atW l i) (atW l j) < 0) || (decide (wC (atW l i) (atW l j) = 0) && decide (j < i))
theorem wC_is (l : List WrP) : (∀ i, wC (atW l i) (atW l i) = 0) ∧ (∀ i j, wC (atW l j) (atW l i) = - wC (atW l i) (atW l j)) ∧ ∀ i j k, wC (atW l i) (atW l j) ≤ 0 → wC (atW l j) (atW l k) ≤ 0 → wC (atW l i) (atW l k) ≤ 0 := ⟨fun i => (kC_is.zero _ _).2 rfl, fun i j => kC_is.flip _ _, fun i j k => kC_is.trans _ _ _⟩
theorem ahW_iff (l : List WrP) (i j : Nat) : ahW l i j = true ↔ (wC (atW l i) (atW l j) < 0 ∨ (wC (atW l i) (atW l j) = 0 ∧ j < i)) := by
  unfold ahW; simp
theorem ahW_ao (l : List WrP) (n : Nat) : AO (ahW l) n where
  irr := fun i _ => by
    cases h : ahW l i i with
    | false => rfl
    | true =>
      rcases (ahW_iff l i i).1 h with a | ⟨_, a⟩
      · rw [(wC_is l).1 i] at a; omega
      · omega
  tr := fun i j k h1 h2 => by
    rw [ahW_iff] at h1 h2 ⊢
    unfold wC at *
    rcases h1 with a | ⟨a, a'⟩ <;> rcases h2 with b | ⟨b, b'⟩
    · exact Or.inl (kC_is.lt a (by omega))
    · exact Or.inl (kC_is.lt a (by omega))
    · exact Or.inl (kC_is.lt2 (by omega) b)
    · refine Or.inr ⟨?_, by omega⟩
      have e1 := (kC_is.zero _ _).1 a
      have e2 := (kC_is.zero _ _).1 b
      exact (kC_is.zero _ _).2 (e1.trans e2)
  tot := fun i j _ _ hne => by
    rw [ahW_iff, ahW_iff, (wC_is l).2.1 i j]
    omega
set_option maxRecDepth 100000 in
set_option maxHeartbeats 8000000 in
/-- Order's function, its list in a box. -/
theorem ahead_any (w : World) (P1 : Nat) (a : Option Addr) (c : Nat) (l : List WrP) (hP : P1 < w.heap.size) (hc : w.cell? ⟨P1, 0, none⟩ = some (.slice a l.length c)) (hl : WIn w a l) (hn : l.length ≤ 4611686018427387904) :
    AhA w 19 #[.pointer (some ⟨P1, 0, none⟩)] l.length (ahW l) := by
  intro i j W hi hj hB
  show Calls Tryz.prog 19 #[.int .i64 (i : Int), .int .i64 (j : Int), .pointer (some ⟨P1, 0, none⟩)] W _
  have gx := atW_some hi
  have gy := atW_some hj
  obtain ⟨b, off, tx, cx, e1, hb, ax, fx⟩ := hl.at hB gx
  obtain ⟨b', off', ty, cy, e2, _, ay, fy⟩ := hl.at hB gy
  rw [e1] at e2
  injection e2 with e2
  injection e2 with e3 e4
  subst e3 e4
  have RES : Hid (ahW l i j = (decide (wC (atW l i) (atW l j) < 0) || (decide (wC (atW l i) (atW l j) = 0) && decide (j < i)))) := rfl
  have CH : Hid (∀ W', Below w.heap.size w W' → Calls Tryz.prog 20 #[wV (atW l i) tx cx, wV (atW l j) ty cy] W' fun e w' => e = .returned (.int .i64 (wC (atW l i) (atW l j))) ∧ Below W'.heap.size W' w') := fun W' hW' => bcompare_any _ _ tx ty cx cy W' (fx W' hW').2 (fy W' hW').2
  generalize ahW l i j = bv at RES ⊢
  generalize wC (atW l i) (atW l j) = cv at RES CH
  generalize atW l i = x at *
  generalize atW l j = y at *
  have a0 : W.cell? ⟨P1, 0, none⟩ = some (.slice (some ⟨b, off, none⟩) l.length c) := by rw [hB.cell (p := ⟨P1, 0, none⟩) hP, ← e1]; exact hc
  have pl : P1 < W.heap.size := Nat.lt_of_lt_of_le hP hB.size
  have bl : b < W.heap.size := Nat.lt_of_lt_of_le hb hB.size
  have BH : Hid (Below w.heap.size w W) := hB
  have i0 : (0 : Int) ≤ (i : Int) := by omega
  have j0 : (0 : Int) ≤ (j : Int) := by omega
  have iI : (i : Int) < (l.length : Int) := by omega
  have jI : (j : Int) < (l.length : Int) := by omega
  unfold wV at CH
  unfold WAt at ax ay
  generalize x.s.t.length = nx at *
  generalize y.s.t.length = ny at *
  generalize l.length = n at *
  clear hl hc hB gx gy fx fy hP hb
  obtain ⟨x1, x2, x3, x4, x5, x6⟩ := ax
  obtain ⟨y1, y2, y3, y4, y5, y6⟩ := ay
  go_enter Tryz.func19, Tryz.ntmps19
  go_wp2_with fail
  refine wp_region_noPanic ?_
  refine wp_region_held_drew (S := fun W => (W.cell? ⟨P1, 0, none⟩ = some (.slice (some ⟨b, off, none⟩) n c) ∧ W.cell? ⟨b, off + i * 6, none⟩ = some (.string x.s.m) ∧ W.cell? ⟨b, off + i * 6 + 1, none⟩ = some (.slice tx nx cx) ∧ W.cell? ⟨b, off + i * 6 + 2, none⟩ = some (.string x.s.f) ∧ W.cell? ⟨b, off + i * 6 + 3, none⟩ = some (.int .i64 x.tm) ∧ W.cell? ⟨b, off + i * 6 + 4, none⟩ = some (.int .u8 (x.kd : Int)) ∧ W.cell? ⟨b, off + i * 6 + 5, none⟩ = some (.int .i64 x.n)) ∧ W.cell? ⟨b, off + j * 6, none⟩ = some (.string y.s.m) ∧ W.cell? ⟨b, off + j * 6 + 1, none⟩ = some (.slice ty ny cy) ∧ W.cell? ⟨b, off + j * 6 + 2, none⟩ = some (.string y.s.f) ∧ W.cell? ⟨b, off + j * 6 + 3, none⟩ = some (.int .i64 y.tm) ∧ W.cell? ⟨b, off + j * 6 + 4, none⟩ = some (.int .u8 (y.kd : Int)) ∧ W.cell? ⟨b, off + j * 6 + 5, none⟩ = some (.int .i64 y.n)) (by kernel_rfl) ⟨⟨a0, x1, x2, x3, x4, x5, x6⟩, y1, y2, y3, y4, y5, y6⟩ (fun hHeld => ?_)
  refine zT 0 (v := ?_) rfl ?_ ?_
  rotate_left 1
  · (intro w0 hSw; (try dsimp only at hSw); obtain ⟨⟨s0, s1, s2, s3, s4, s5, s6⟩, t1, t2, t3, t4, t5, t6⟩ := hSw; go_simp; try with_reducible rfl)
  (try simp only [z1, z2, z3]); (try simp only [Act.put, z4, z5, z6])
  refine zT 1 (v := ?_) rfl ?_ ?_
  rotate_left 1
  · (intro w0 hSw; (try dsimp only at hSw); obtain ⟨⟨s0, s1, s2, s3, s4, s5, s6⟩, t1, t2, t3, t4, t5, t6⟩ := hSw; go_simp; try with_reducible rfl)
  (try simp only [z1, z2, z3]); (try simp only [Act.put, z4, z5, z6])
  refine zT 2 (v := ?_) rfl ?_ ?_
  rotate_left 1
  · (intro w0 hSw; (try dsimp only at hSw); obtain ⟨⟨s0, s1, s2, s3, s4, s5, s6⟩, t1, t2, t3, t4, t5, t6⟩ := hSw; go_simp; try with_reducible rfl)
  (try simp only [z1, z2, z3]); (try simp only [Act.put, z4, z5, z6])
  refine zT 3 (v := ?_) rfl ?_ ?_
  rotate_left 1
  · (intro w0 hSw; (try dsimp only at hSw); obtain ⟨⟨s0, s1, s2, s3, s4, s5, s6⟩, t1, t2, t3, t4, t5, t6⟩ := hSw; go_simp; try with_reducible rfl)
  (try simp only [z1, z2, z3]); (try simp only [Act.put, z4, z5, z6])
  refine zT 4 (v := ?_) rfl ?_ ?_
  rotate_left 1
  · (intro w0 hSw; (try dsimp only at hSw); obtain ⟨⟨s0, s1, s2, s3, s4, s5, s6⟩, t1, t2, t3, t4, t5, t6⟩ := hSw; go_simp; try with_reducible rfl)
  (try simp only [z1, z2, z3]); (try simp only [Act.put, z4, z5, z6])
  refine zT 5 (v := ?_) rfl ?_ ?_
  rotate_left 1
  · (intro w0 hSw; (try dsimp only at hSw); obtain ⟨⟨s0, s1, s2, s3, s4, s5, s6⟩, t1, t2, t3, t4, t5, t6⟩ := hSw; go_simp; try with_reducible rfl)
  (try simp only [z1, z2, z3]); (try simp only [Act.put, z4, z5, z6])
  refine zT 6 (v := ?_) rfl ?_ ?_
  rotate_left 1
  · (intro w0 hSw; (try dsimp only at hSw); obtain ⟨⟨s0, s1, s2, s3, s4, s5, s6⟩, t1, t2, t3, t4, t5, t6⟩ := hSw; go_simp; try with_reducible rfl)
  (try simp only [z1, z2, z3]); (try simp only [Act.put, z4, z5, z6])
  refine zT 7 (v := ?_) rfl ?_ ?_
  rotate_left 1
  · (intro w0 hSw; (try dsimp only at hSw); obtain ⟨⟨s0, s1, s2, s3, s4, s5, s6⟩, t1, t2, t3, t4, t5, t6⟩ := hSw; go_simp; try with_reducible rfl)
  (try simp only [z1, z2, z3]); (try simp only [Act.put, z4, z5, z6])
  refine wpAnyH_ready (rs := [8]) (by kernel_rfl) (by simp) ?_
  refine AllReadyH.cons (o := _) rfl (fun K hK => ?_) AllReadyH.nil
  go_simp
  refine Calls.mono (CH.out _ (show Below w.heap.size w W.drew from BH.out.drew)) ?_
  rintro e w' ⟨rfl, BB⟩
  try dsimp only
  refine hK _ _ ?_ (fun hHeld => ?_)
  · exact ⟨⟨by rw [BB.cell (p := ⟨P1, 0, none⟩) pl]; exact a0, by rw [BB.cell (p := ⟨b, off + i * 6, none⟩) bl]; exact x1, by rw [BB.cell (p := ⟨b, off + i * 6 + 1, none⟩) bl]; exact x2, by rw [BB.cell (p := ⟨b, off + i * 6 + 2, none⟩) bl]; exact x3, by rw [BB.cell (p := ⟨b, off + i * 6 + 3, none⟩) bl]; exact x4, by rw [BB.cell (p := ⟨b, off + i * 6 + 4, none⟩) bl]; exact x5, by rw [BB.cell (p := ⟨b, off + i * 6 + 5, none⟩) bl]; exact x6⟩, by rw [BB.cell (p := ⟨b, off + j * 6, none⟩) bl]; exact y1, by rw [BB.cell (p := ⟨b, off + j * 6 + 1, none⟩) bl]; exact y2, by rw [BB.cell (p := ⟨b, off + j * 6 + 2, none⟩) bl]; exact y3, by rw [BB.cell (p := ⟨b, off + j * 6 + 3, none⟩) bl]; exact y4, by rw [BB.cell (p := ⟨b, off + j * 6 + 4, none⟩) bl]; exact y5, by rw [BB.cell (p := ⟨b, off + j * 6 + 5, none⟩) bl]; exact y6⟩
  clear hK K
  (try simp only [z1, z2, z3]); (try simp only [Act.put, z4, z5, z6])
  refine zT 9 (v := ?_) rfl ?_ ?_
  rotate_left 1
  · (intro w0 hSw; (try dsimp only at hSw); obtain ⟨⟨s0, s1, s2, s3, s4, s5, s6⟩, t1, t2, t3, t4, t5, t6⟩ := hSw; go_simp; try with_reducible rfl)
  (try simp only [z1, z2, z3]); (try simp only [Act.put, z4, z5, z6])
  refine wpAnyH_done (by kernel_rfl) ?_ _
  refine NoPanic.normal ?_
  have fin : Hid (Below W.heap.size W w') := (show Below W.heap.size W W.drew from (Below.refl _ W).drew).trans BB
  clear BB BH CH a0 x1 x2 x3 x4 x5 x6 y1 y2 y3 y4 y5 y6 hHeld
  by_cases h1 : cv < 0
  · have h1d : decide (cv < 0) = true := decide_eq_true h1
    have r : Hid (bv = true) := by have := RES.out; rw [h1d] at this; show bv = true; simpa using this
    clear RES
    go_wp2_with fail
    go_ret
    exact ⟨by rw [r.out]; rfl, fin.out⟩
  · have h1d : decide (cv < 0) = false := decide_eq_false h1
    by_cases h2 : cv = 0
    · have h2b : (cv == 0) = true := by simpa using h2
      have r : Hid (bv = decide (j < i)) := by have := RES.out; rw [h1d, decide_eq_true h2] at this; show bv = decide (j < i); simpa using this
      clear RES
      subst h2
      by_cases h3 : j < i
      · have h3I : (i : Int) > (j : Int) := by omega
        have h3J : (j : Int) < (i : Int) := by omega
        have r2 : Hid (bv = true) := by have := r.out; rw [decide_eq_true h3] at this; exact this
        clear r
        go_wp2_with fail
        go_ret
        exact ⟨by rw [r2.out]; rfl, fin.out⟩
      · have h3I : ¬ (i : Int) > (j : Int) := by omega
        have h3J : ¬ (j : Int) < (i : Int) := by omega
        have r2 : Hid (bv = false) := by have := r.out; rw [decide_eq_false h3] at this; exact this
        clear r
        go_wp2_with fail
        go_ret
        exact ⟨by rw [r2.out]; rfl, fin.out⟩
    · have h2b : (cv == 0) = false := by simpa using h2
      have r : Hid (bv = false) := by have := RES.out; rw [h1d, decide_eq_false h2] at this; show bv = false; simpa using this
      clear RES h2
      go_wp2_with fail
      go_ret
      exact ⟨by rw [r.out]; rfl, fin.out⟩
end Go.Proofs.YtpbcbpiolhjlhaaGreatDoor


namespace Go.Proofs.YtpbcbpiolhjlhaaGreatDoor
open Go.RowKit _root_.Go.Proofs.YtpbcbpiolhjlhaaGreatDoor.So
set_option linter.unusedVariables false
set_option linter.unusedSimpArgs false
/-! ### what Order tells, plain: of each series and time the last, in order -/
/-- of the first k places in order those that begin a key. -/
def ordL (l : List WrP) (out : List Nat) : Nat → List WrP
  | 0 => []
  | k + 1 => ordL l out k ++ (if k = 0 ∨ wC (atW l (out.getD (k - 1) 0)) (atW l (out.getD k 0)) ≠ 0 then [atW l (out.getD k 0)] else [])
theorem ordL_len (l : List WrP) (out : List Nat) : ∀ k, (ordL l out k).length ≤ k
  | 0 => Nat.le_refl _
  | k + 1 => by
    have := ordL_len l out k
    unfold ordL
    rw [List.length_append]
    split <;> simp <;> omega
/-! ### samples appended -/
abbrev WrA := WrP × Option Addr × Nat
def encW : List WrA → List Value
  | [] => []
  | t :: r => [.string t.1.s.m, .slice t.2.1 t.1.s.t.length t.2.2, .string t.1.s.f, .int .i64 t.1.tm, .int .u8 (t.1.kd : Int), .int .i64 t.1.n] ++ encW r
theorem encW_append (a b : List WrA) : encW (a ++ b) = encW a ++ encW b := by
  induction a with
  | nil => rfl
  | cons s r ih => simp [encW, ih]
theorem encW_len (l : List WrA) : (encW l).length = l.length * 6 := by
  induction l with
  | nil => rfl
  | cons s r ih => simp only [encW, List.length_append, ih, List.length_cons, List.length_nil]; omega
theorem encW_one (l : List WrA) : ∀ u ∈ encW l, u.oneCell' = true := by
  induction l with
  | nil => intro u hu; cases hu
  | cons s r ih =>
    intro u hu
    simp only [encW, List.mem_append, List.mem_cons, List.not_mem_nil, or_false] at hu
    rcases hu with (rfl | rfl | rfl | rfl | rfl | rfl) | hu
    · rfl
    · rfl
    · rfl
    · rfl
    · rfl
    · rfl
    · exact ih u hu
theorem encW_get (l : List WrA) (i : Nat) (s : WrA) (h : l[i]? = some s) : (encW l)[i * 6]? = some (.string s.1.s.m) ∧ (encW l)[i * 6 + 1]? = some (.slice s.2.1 s.1.s.t.length s.2.2) ∧ (encW l)[i * 6 + 2]? = some (.string s.1.s.f) ∧ (encW l)[i * 6 + 3]? = some (.int .i64 s.1.tm) ∧ (encW l)[i * 6 + 4]? = some (.int .u8 (s.1.kd : Int)) ∧ (encW l)[i * 6 + 5]? = some (.int .i64 s.1.n) := by
  induction l generalizing i with
  | nil => simp at h
  | cons a r ih =>
    cases i with
    | zero => simp at h; subst h; simp [encW]
    | succ i =>
      simp at h
      have := ih i h
      simp only [encW]
      rw [show (i + 1) * 6 = i * 6 + 6 by omega]
      simpa using this
theorem wr_info : (Tryz.prog.info? 76).map (fun i => (i.zero, i.bytes, i.size)) = some (some (.agg #[.string ⟨#[]⟩, .slice none 0 0, .string ⟨#[]⟩, .int .i64 0, .int .u8 0, .int .i64 0]), 80, 6) := by kernel_rfl
/-- a row of samples of one's own, each with its tags somewhere. -/
def OW (w : World) (B : Nat) (v : Value) (L : List WrA) : Prop := w.ownsRow B 76 6 v L.length (encW L) ∧ ∀ t ∈ L, SerIn w t.2.1 t.1.s
theorem OW.nil (w : World) (B : Nat) : OW w B (.slice none 0 0) [] := ⟨⟨rfl, Or.inl ⟨rfl, rfl⟩⟩, fun t h => by cases h⟩
theorem OW.below {w w' : World} {B : Nat} {v : Value} {L : List WrA} (h : OW w B v L) (hb : Below w.heap.size w w') : OW w' B v L := by
  refine ⟨⟨h.1.1, ?_⟩, fun t ht => (h.2 t ht).belowW hb⟩
  rcases h.1.2 with h2 | ⟨g, cap, cur, e1, e2, e3, e4⟩
  · exact Or.inl h2
  · exact Or.inr ⟨g, cap, cur, e1, e2, by rw [hb.block g (Array.getElem?_eq_some_iff.1 e3).1]; exact e3, e4⟩
theorem OW.win {w : World} {B : Nat} {v : Value} {L : List WrA} (h : OW w B v L) : ∃ a cap, v = .slice a L.length cap ∧ WIn w a (L.map (·.1)) := by
  rcases h.1.2 with ⟨e, e0⟩ | ⟨g, cap, cur, e1, _, hg, hc, _⟩
  · exact ⟨none, 0, by rw [e, e0], Or.inl (by rw [List.eq_nil_of_length_eq_zero e0]; rfl)⟩
  · subst e1
    have hcs := World.ownsRow.cells h.1 (g := g) rfl
    refine ⟨some ⟨g, 0, none⟩, cap, rfl, Or.inr ⟨g, 0, rfl, (World.ownsRow.lt h.1 g rfl).2, fun i x hx => ?_⟩⟩
    rw [List.getElem?_map, Option.map_eq_some_iff] at hx
    obtain ⟨t, ht, rfl⟩ := hx
    obtain ⟨e1, e2, e3, e4, e5, e6⟩ := encW_get L i t ht
    have k1 := hcs _ _ e1
    have k2 := hcs _ _ e2
    have k3 := hcs _ _ e3
    have k4 := hcs _ _ e4
    have k5 := hcs _ _ e5
    have k6 := hcs _ _ e6
    rw [tag_add, Nat.zero_add] at k1 k2 k3 k4 k5 k6
    rw [Nat.zero_add]
    exact ⟨t.2.1, t.2.2, ⟨k1, k2, k3, k4, k5, k6⟩, h.2 t (List.mem_of_getElem? ht)⟩
end Go.Proofs.YtpbcbpiolhjlhaaGreatDoor
