
import Derived.Test.YtlcppkemiogbeaaSoO
import Derived.Test.YtlcppkemiogbeaaKqA
namespace Go.Proofs.Ytlcppkemiogbeaa.So
open Go.RowKit
set_option linter.unusedVariables false
set_option linter.unusedSimpArgs false
theorem wpList_append_runS {P : Program} {ops : Array Oper} {rest : List Oper} {o : Oper} {a : Act} {Q : Exit → Act → World → Prop} {w : World} (hgd : o.guard = none) (s x : Operand) (t : TypeId)
    (ho : o.op = .call { callee := .builtin .append, args := #[s, x], argTypes := #[t, t] }) (v y v' : Value) (w' : World) (hs : a.eval s = v) (hx : a.eval x = y) (hr : (Builtin.append_ #[t, t] o.type #[v, y]).run P w = .ok v' w')
    (h : wpList P ops Q rest (a.put o.dst v') w') : wpList P ops Q (o :: rest) a w := by
  refine wpList_plain hgd fun K hK => ?_
  unfold Oper.wp execOp
  simp only [ho, resolve, invoke, builtin, Sem.run_bind, Sem.run_pure, Result.andThen_ok, List.map_toArray, List.map_cons, List.map_nil, hs, hx, hr]
  exact hK _ _ h
def noT : Tg := (⟨#[]⟩, ⟨#[]⟩)
def atT (l : List TagP) : Nat → Tg := fun k => l.getD k noT
theorem atT_map (l : List TagP) : (List.range l.length).map (atT l) = l := by
  apply List.ext_getElem
  · simp
  · intro i h1 h2
    simp [atT, List.getD_eq_getElem?_getD, List.getElem?_eq_getElem h2]
theorem OT.tr {w : World} {B g cap : Nat} {l : List TagP} (h : OT w B (.slice (some ⟨g, 0, none⟩) l.length cap) l) : TR w g 0 l.length (atT l) := by
  refine ⟨(World.ownsRow.lt h g rfl).2, fun k hk => ?_⟩
  have hs : l[k]? = some (atT l k) := by simp [atT, List.getD_eq_getElem?_getD, List.getElem?_eq_getElem hk]
  obtain ⟨e1, e2⟩ := encT_get l k _ hs
  have hcs := World.ownsRow.cells h (g := g) rfl
  have k1 := hcs _ _ e1
  have k2 := hcs _ _ e2
  rw [tag_add, Nat.zero_add] at k1 k2
  rw [Nat.zero_add]
  exact ⟨⟨k1, k2⟩, World.ownsRow.frozenAt h _, World.ownsRow.frozenAt h _⟩
theorem TR.tin {w : World} {b off m : Nat} {G : Nat → Tg} (h : TR w b off m G) : TgIn w (some ⟨b, off, none⟩) ((List.range m).map G) := by
  refine Or.inr ⟨b, off, rfl, h.1, fun i t ht => ?_⟩
  rw [List.getElem?_map, Option.map_eq_some_iff] at ht
  obtain ⟨j, h1, rfl⟩ := ht
  obtain ⟨h2, h3⟩ := List.getElem?_eq_some_iff.1 h1
  simp at h3 h2
  subst h3
  exact (h.2 i h2).1
/-- the order of keys. -/
def kl (a b : ByteArray) : Bool := decide (strC a b < 0)
theorem kl_ko : KO kl where
  irr := fun a => decide_eq_false (by rw [(strC_is.zero a a).2 rfl]; omega)
  tr := fun a b c h1 h2 => decide_eq_true (strC_is.lt (of_decide_eq_true h1) (by have := of_decide_eq_true h2; omega))
  tot := fun a b => by
    rcases strC_is.range a b with h | h | h
    · exact Or.inl (decide_eq_true (by omega))
    · exact Or.inr (Or.inl ((strC_is.zero a b).1 h))
    · exact Or.inr (Or.inr (decide_eq_true (by rw [strC_is.flip a b]; omega)))
/-- tags in order, of each key the last. -/
def sortT (l : List TagP) : List TagP := srtD kl l
def cK : Tg → Tg → Int := fun x y => strC x.1 y.1
theorem cK_any : CmpA 64 cK := fun x y W => (compareKeys_any x.1 x.2 y.1 y.2 W).mono fun e w' h => ⟨h.1, by rw [h.2]; exact twoT_below W x.1 x.2 y.1 y.2⟩
theorem cK_lt : ltE cK = fun x y : (ByteArray × ByteArray) × Nat => kl x.1.1 y.1.1 := rfl
set_option maxRecDepth 100000 in
set_option maxHeartbeats 4000000 in
theorem cloneT_any (ad : Addr) (c : Nat) (l : List TagP) (w : World) (h : TgIn w (some ad) l) (hn : l.length ≤ 4398046511104) :
    Calls Try.prog 34 #[.slice (some ad) l.length c] w fun e w' => ∃ g cap, e = .returned (.slice (some ⟨g, 0, none⟩) l.length cap) ∧ w.heap.size ≤ g ∧ l.length ≤ cap ∧ OT w' w.heap.size (.slice (some ⟨g, 0, none⟩) l.length cap) l ∧ Below w.heap.size w w' := by
  have q29 : ∀ (w : World) (a : Option Addr) (n c n' c' : Nat), (binOp .eql 23 (.slice a n c) (.slice none n' c')).run Try.prog w = .ok (.bool a.isNone) w := fun w a n c n' c' => Lib.run_eql_slice_nil w _ _ a n c n' c' Try.underlying23
  have hB0 : Below w.heap.size w (w.alloc (.cells #[] 85)) := (Below.refl _ w).alloc (Nat.le_refl _) _
  have own0 : OT (w.alloc (.cells #[] 85)) w.heap.size (.slice (some ⟨w.heap.size, 0, none⟩) 0 0) [] := by
    have := World.ownsRow_made (e := 85) (size := 2) (base := w.heap.size) w #[] 0 (by simp) (by simp [maxLen]) rfl
    simpa [OT, encT] using this
  obtain ⟨v', w', hr, ho, hg, hat⟩ := appT _ w.heap.size _ [] l own0 (by simp) (some ad) c (h.below hB0) (by simp; omega)
  rw [List.nil_append] at ho
  have hb : Below w.heap.size w w' := hB0.trans (grown_below own0 (by simp) hg)
  have hrep : ∃ g cap, v' = .slice (some ⟨g, 0, none⟩) l.length cap ∧ w.heap.size ≤ g ∧ l.length ≤ cap := by
    rcases ho.2 with ⟨e, e0⟩ | ⟨g, cap, cur, e1, e2, _, hc, _⟩
    · exfalso
      rw [e] at hat
      rcases hat with e | e <;> cases e
    · exact ⟨g, cap, e1, e2, hc⟩
  obtain ⟨g, cap, rfl, hgB, hcap⟩ := hrep
  have fin : Hid (w.heap.size ≤ g ∧ l.length ≤ cap ∧ OT w' w.heap.size (.slice (some ⟨g, 0, none⟩) l.length cap) l ∧ Below w.heap.size w w') := ⟨hgB, hcap, ho, hb⟩
  have hrH : Hid (∀ W, W = w.alloc (.cells #[] 85) → (Builtin.append_ #[23, 23] 23 #[.slice (some ⟨w.heap.size, 0, none⟩) 0 0, .slice (some ad) l.length c]).run Try.prog W = .ok (.slice (some ⟨g, 0, none⟩) l.length cap) w') := fun W e => by subst e; exact hr
  clear hr ho hg hat hb own0 hB0 h hn hgB hcap
  generalize l.length = n at *
  go_enter Try.func34, Try.ntmps34
  go_wp2_with (at_builtin; refine wpList_append_runS (by rfl) _ _ _ (by rfl) _ _ _ _ (by rfl) (by rfl) (hrH.out _ rfl) ?_)
  go_ret
  exact ⟨g, cap, rfl, fin.out⟩
set_option maxRecDepth 100000 in
theorem cloneT_nil (c : Nat) (w : World) : Calls Try.prog 34 #[.slice none 0 c] w fun e w' => e = .returned (.slice none 0 0) ∧ w' = w := by
  have q29 : ∀ (w : World) (a : Option Addr) (n c n' c' : Nat), (binOp .eql 23 (.slice a n c) (.slice none n' c')).run Try.prog w = .ok (.bool a.isNone) w := fun w a n c n' c' => Lib.run_eql_slice_nil w _ _ a n c n' c' Try.underlying23
  go_enter Try.func34, Try.ntmps34
  go_wp2_with fail
  go_ret
  exact ⟨rfl, rfl⟩
/-- what Sort tells: none, or a row of its own. -/
def SortedR (w w' : World) (e : Ending) (l : List TagP) : Prop :=
  (l = [] ∧ e = .returned (.slice none 0 0)) ∨ ∃ (g m cap : Nat) (G : Nat → Tg), e = .returned (.slice (some ⟨g, 0, none⟩) m cap) ∧ w.heap.size ≤ g ∧ m ≤ cap ∧ TR w' g 0 m G ∧ (List.range m).map G = sortT l
end Go.Proofs.Ytlcppkemiogbeaa.So
