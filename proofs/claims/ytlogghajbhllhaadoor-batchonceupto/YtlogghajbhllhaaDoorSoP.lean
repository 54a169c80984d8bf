
import Derived.Test.YtlogghajbhllhaaDoorSoO
import Derived.Test.YtlogghajbhllhaaDoorKqA
namespace Go.Proofs.YtlogghajbhllhaaDoor.So
open Go.RowKit
set_option linter.unusedVariables false
set_option linter.unusedSimpArgs false
theorem wpList_append_runS {P : Program} {ops : Array Oper} {rest : List Oper} {o : Oper} {a : Act} {Q : Exit → Act → World → Prop} {w : World} (hgd : o.guard = none) (s x : Operand) (t : TypeId)
    (ho : o.op = .call { callee := .builtin .append, args := #[s, x], argTypes := #[t, t] }) (v y v' : Value) (w' : World) (hs : a.eval s = v) (hx : a.eval x = y) (hr : (Builtin.append_ #[t, t] o.type #[v, y]).run P w = .ok v' w')
    (h : wpList P ops Q rest (a.put o.dst v') w') : wpList P ops Q (o :: rest) a w := by
  refine wpList_plain hgd fun K hK => ?_
  unfold Oper.wp execOp
  simp only [ho, resolve, invoke, builtin, Sem.run_bind, Sem.run_pure, Result.andThen_ok, List.map_toArray, List.map_cons, List.map_nil, hs, hx, hr]
  exact hK _ _ h
def noT : Tg := (⟨#[]⟩, ⟨#[]⟩)
def atT (l : List TagP) : Nat → Tg := fun k => l.getD k noT
theorem atT_map (l : List TagP) : (List.range l.length).map (atT l) = l := by
  apply List.ext_getElem
  · simp
  · intro i h1 h2
    simp [atT, List.getD_eq_getElem?_getD, List.getElem?_eq_getElem h2]
theorem OT.tr {w : World} {B g cap : Nat} {l : List TagP} (h : OT w B (.slice (some ⟨g, 0, none⟩) l.length cap) l) : TR w g 0 l.length (atT l) := by
  refine ⟨(World.ownsRow.lt h g rfl).2, fun k hk => ?_⟩
  have hs : l[k]? = some (atT l k) := by simp [atT, List.getD_eq_getElem?_getD, List.getElem?_eq_getElem hk]
  obtain ⟨e1, e2⟩ := encT_get l k _ hs
  have hcs := World.ownsRow.cells h (g := g) rfl
  have k1 := hcs _ _ e1
  have k2 := hcs _ _ e2
  rw [tag_add, Nat.zero_add] at k1 k2
  rw [Nat.zero_add]
  exact ⟨⟨k1, k2⟩, World.ownsRow.frozenAt h _, World.ownsRow.frozenAt h _⟩
theorem TR.tin {w : World} {b off m : Nat} {G : Nat → Tg} (h : TR w b off m G) : TgIn w (some ⟨b, off, none⟩) ((List.range m).map G) := by
  refine Or.inr ⟨b, off, rfl, h.1, fun i t ht => ?_⟩
  rw [List.getElem?_map, Option.map_eq_some_iff] at ht
  obtain ⟨j, h1, rfl⟩ := ht
  obtain ⟨h2, h3⟩ := List.getElem?_eq_some_iff.1 h1
  simp at h3 h2
  subst h3
  exact (h.2 i h2).1
/-- the order of keys. -/
def kl (a b : ByteArray) : Bool := decide (strC a b < 0)
theorem kl_ko : KO kl where
  irr := fun a => decide_eq_false (by rw [(strC_is.zero a a).2 rfl]; omega)
  tr := fun a b c h1 h2 => decide_eq_true (strC_is.lt (of_decide_eq_true h1) (by have := of_decide_eq_true h2; omega))
  tot := fun a b => by
    rcases strC_is.range a b with h | h | h
    · exact Or.inl (decide_eq_true (by omega))
    · exact Or.inr (Or.inl ((strC_is.zero a b).1 h))
    · exact Or.inr (Or.inr (decide_eq_true (by rw [strC_is.flip a b]; omega)))
/-- tags in order, of each key the last. -/
def sortT (l : List TagP) : List TagP := srtD kl l
def cK : Tg → Tg → Int := fun x y => strC x.1 y.1
theorem cK_any : CmpA 45 cK := fun x y W => (compareKeys_any x.1 x.2 y.1 y.2 W).mono fun e w' h => ⟨h.1, by rw [h.2]; exact twoT_below W x.1 x.2 y.1 y.2⟩
theorem cK_lt : ltE cK = fun x y : (ByteArray × ByteArray) × Nat => kl x.1.1 y.1.1 := rfl
set_option maxRecDepth 100000 in
set_option maxHeartbeats 4000000 in
theorem cloneT_any (ad : Addr) (c : Nat) (l : List TagP) (w : World) (h : TgIn w (some ad) l) (hn : l.length ≤ 4398046511104) :
    Calls Tryd.prog 24 #[.slice (some ad) l.length c] w fun e w' => ∃ g cap, e = .returned (.slice (some ⟨g, 0, none⟩) l.length cap) ∧ w.heap.size ≤ g ∧ l.length ≤ cap ∧ OT w' w.heap.size (.slice (some ⟨g, 0, none⟩) l.length cap) l ∧ Below w.heap.size w w' := by
  have q29 : ∀ (w : World) (a : Option Addr) (n c n' c' : Nat), (binOp .eql 25 (.slice a n c) (.slice none n' c')).run Tryd.prog w = .ok (.bool a.isNone) w := fun w a n c n' c' => Lib.run_eql_slice_nil w _ _ a n c n' c' Tryd.underlying25
  have hB0 : Below w.heap.size w (w.alloc (.cells #[] 59)) := (Below.refl _ w).alloc (Nat.le_refl _) _
  have own0 : OT (w.alloc (.cells #[] 59)) w.heap.size (.slice (some ⟨w.heap.size, 0, none⟩) 0 0) [] := by
    have := World.ownsRow_made (e := 59) (size := 2) (base := w.heap.size) w #[] 0 (by simp) (by simp [maxLen]) rfl
    simpa [OT, encT] using this
  obtain ⟨v', w', hr, ho, hg, hat⟩ := appT _ w.heap.size _ [] l own0 (by simp) (some ad) c (h.below hB0) (by simp; omega)
  rw [List.nil_append] at ho
  have hb : Below w.heap.size w w' := hB0.trans (grown_below own0 (by simp) hg)
  have hrep : ∃ g cap, v' = .slice (some ⟨g, 0, none⟩) l.length cap ∧ w.heap.size ≤ g ∧ l.length ≤ cap := by
    rcases ho.2 with ⟨e, e0⟩ | ⟨g, cap, cur, e1, e2, _, hc, _⟩
    · exfalso
      rw [e] at hat
      rcases hat with e | e <;> cases e
    · exact ⟨g, cap, e1, e2, hc⟩
  obtain ⟨g, cap, rfl, hgB, hcap⟩ := hrep
  have fin : Hid (w.heap.size ≤ g ∧ l.length ≤ cap ∧ OT w' w.heap.size (.slice (some ⟨g, 0, none⟩) l.length cap) l ∧ Below w.heap.size w w') := ⟨hgB, hcap, ho, hb⟩
  have hrH : Hid (∀ W, W = w.alloc (.cells #[] 59) → (Builtin.append_ #[25, 25] 25 #[.slice (some ⟨w.heap.size, 0, none⟩) 0 0, .slice (some ad) l.length c]).run Tryd.prog W = .ok (.slice (some ⟨g, 0, none⟩) l.length cap) w') := fun W e => by subst e; exact hr
  clear hr ho hg hat hb own0 hB0 h hn hgB hcap
  generalize l.length = n at *
  go_enter Tryd.func24, Tryd.ntmps24
  go_wp2_with (at_builtin; refine wpList_append_runS (by rfl) _ _ _ (by rfl) _ _ _ _ (by rfl) (by rfl) (hrH.out _ rfl) ?_)
  go_ret
  exact ⟨g, cap, rfl, fin.out⟩
set_option maxRecDepth 100000 in
theorem cloneT_nil (c : Nat) (w : World) : Calls Tryd.prog 24 #[.slice none 0 c] w fun e w' => e = .returned (.slice none 0 0) ∧ w' = w := by
  have q29 : ∀ (w : World) (a : Option Addr) (n c n' c' : Nat), (binOp .eql 25 (.slice a n c) (.slice none n' c')).run Tryd.prog w = .ok (.bool a.isNone) w := fun w a n c n' c' => Lib.run_eql_slice_nil w _ _ a n c n' c' Tryd.underlying25
  go_enter Tryd.func24, Tryd.ntmps24
  go_wp2_with fail
  go_ret
  exact ⟨rfl, rfl⟩
set_option maxRecDepth 100000 in
theorem reverse_nil (w : World) : Calls Tryd.prog 47 #[.slice none 0 0] w fun e w' => e = .returned undef ∧ w' = w := by
  go_enter Tryd.func47, Tryd.ntmps47
  go_wp2_with fail
  go_loopw [2, 3] (fun vi vj wr => vi = .int .i64 0 ∧ vj = .int .i64 (-1) ∧ wr = w) (fun _ _ _ => 0)
  case atStart => exact ⟨rfl, rfl, rfl⟩
  case round =>
    obtain ⟨rfl, rfl, rfl⟩ := hrel
    go_wp2_with fail
    go_end0
    exact ⟨rfl, rfl⟩
set_option maxRecDepth 100000 in
theorem insert_nil (w : World) : Calls Tryd.prog 74 #[.slice none 0 0, .int .i64 0, .int .i64 0, .func (.func 45) #[] #[]] w fun e w' => e = .returned undef ∧ w' = w := by
  go_enter Tryd.func74, Tryd.ntmps74
  go_wp2_with fail
  go_loopw [8] (fun vi wr => vi = .int .i64 1 ∧ wr = w) (fun _ _ => 0)
  case atStart => exact ⟨rfl, rfl⟩
  case round =>
    obtain ⟨rfl, rfl⟩ := hrel
    go_wp2_with fail
    go_end0
    exact ⟨rfl, rfl⟩
set_option maxRecDepth 100000 in
theorem stable_nil (w : World) : Calls Tryd.prog 62 #[.slice none 0 0, .int .i64 0, .func (.func 45) #[] #[]] w fun e w' => e = .returned undef ∧ w' = w := by
  go_enter Tryd.func62, Tryd.ntmps62
  go_wp2_with fail
  go_loopw [7, 8] (fun va vb wr => va = .int .i64 0 ∧ vb = .int .i64 20 ∧ wr = w) (fun _ _ _ => 0)
  case atStart => exact ⟨rfl, rfl, rfl⟩
  case round =>
    obtain ⟨rfl, rfl, hw⟩ := hrel
    subst hw
    go_wp2_with fail
    refine Calls.mono (insert_nil _) ?_
    rintro e w2 ⟨rfl, hw⟩
    subst hw
    go_wp2_with fail
    go_loopw [6, 7, 8] (fun vs va vb wr => vs = .int .i64 20 ∧ wr = w2) (fun _ _ _ _ => 0)
    case atStart => exact ⟨rfl, rfl⟩
    case round =>
      obtain ⟨rfl, hw⟩ := hrel
      subst hw
      go_wp2_with fail
      go_end0
      exact ⟨rfl, rfl⟩
set_option maxRecDepth 100000 in
theorem sortStable_nil (w : World) : Calls Tryd.prog 48 #[.slice none 0 0, .func (.func 45) #[] #[]] w fun e w' => e = .returned undef ∧ w' = w := by
  go_enter Tryd.func48, Tryd.ntmps48
  go_wp2_with fail
  refine Calls.mono (stable_nil _) ?_
  rintro e w2 ⟨rfl, hw⟩
  subst hw
  go_wp2_with fail
  go_end0
  exact ⟨rfl, rfl⟩
set_option maxRecDepth 100000 in
theorem compact_nil (w : World) : Calls Tryd.prog 49 #[.slice none 0 0, .func (.func 50) #[] #[]] w fun e w' => e = .returned (.slice none 0 0) ∧ w' = w := by
  go_enter Tryd.func49, Tryd.ntmps49
  go_wp2_with fail
  go_ret
  exact ⟨rfl, rfl⟩
/-- what Sort tells: none, or a row of its own. -/
def SortedR (w w' : World) (e : Ending) (l : List TagP) : Prop :=
  (l = [] ∧ e = .returned (.slice none 0 0)) ∨ ∃ (g m cap : Nat) (G : Nat → Tg), e = .returned (.slice (some ⟨g, 0, none⟩) m cap) ∧ w.heap.size ≤ g ∧ m ≤ cap ∧ TR w' g 0 m G ∧ (List.range m).map G = sortT l
set_option maxRecDepth 100000 in
set_option maxHeartbeats 4000000 in
theorem sort_any (a : Option Addr) (c : Nat) (l : List TagP) (w : World) (h : TgIn w a l) (hn : l.length ≤ 4398046511104) :
    Calls Tryd.prog 34 #[.slice a l.length c] w fun e w' => SortedR w w' e l ∧ Below w.heap.size w w' := by
  cases a with
  | none =>
    obtain rfl : l = [] := by
      rcases h with e | ⟨b, off, e, _⟩
      · exact e
      · cases e
    show Calls Tryd.prog 34 #[.slice none 0 c] w _
    go_enter Tryd.func34, Tryd.ntmps34
    go_wp2_with fail
    refine Calls.mono (cloneT_nil _ _) ?_
    rintro e w2 ⟨rfl, hw⟩
    subst hw
    go_wp2_with fail
    refine Calls.mono (reverse_nil _) ?_
    rintro e w2 ⟨rfl, hw⟩
    subst hw
    go_wp2_with fail
    refine Calls.mono (sortStable_nil _) ?_
    rintro e w2 ⟨rfl, hw⟩
    subst hw
    go_wp2_with fail
    refine Calls.mono (compact_nil _) ?_
    rintro e w2 ⟨rfl, hw⟩
    subst hw
    go_wp2_with fail
    go_ret
    exact ⟨Or.inl ⟨rfl, rfl⟩, Below.refl _ _⟩
  | some ad =>
    have C1 : Hid _ := cloneT_any ad c l w h hn
    have hs : Hid (sortT l = sortT l) := rfl
    obtain ⟨n, hnl⟩ : ∃ n, l.length = n := ⟨_, rfl⟩
    rw [hnl] at C1 hn ⊢
    have hnH : Hid (l.length = n) := hnl
    clear h hnl hs
    go_enter Tryd.func34, Tryd.ntmps34
    go_wp2_with fail
    refine Calls.mono C1.out ?_
    rintro e w1 ⟨g, cap, rfl, hg, hcap, ho, hb⟩
    have T1 : TR w1 g 0 n (atT l) := by
      have := hnH.out
      subst this
      exact OT.tr ho
    have B1 : Hid (Below w.heap.size w w1) := hb
    have C2 : Hid _ := reverse_any g 0 n cap (atT l) w1 T1 (by omega)
    clear ho hb T1 C1
    go_wp2_with fail
    refine Calls.mono C2.out ?_
    rintro e w2 ⟨rfl, T2, O2⟩
    have C3 : Hid _ := sortStable_any (RT kl) cK cK_any (RT_tr kl_ko) g 0 n cap (by omega) (fun k => (atT l (n - 1 - k), k)) w2 T2 (RT_all kl_ko (fun k => atT l (n - 1 - k)) n)
    have B2 : Hid (Below w.heap.size w w2) := O2.into B1.out hg B1.out.size
    clear T2 O2 C2 B1
    go_wp2_with fail
    refine Calls.mono C3.out ?_
    rintro e w3 ⟨rfl, f, P3, S3, T3, O3⟩
    have B3 : Hid (Below w.heap.size w w3) := O3.into B2.out hg B2.out.size
    have C4 : Hid _ := compact_any g 0 n cap (fs f) w3 T3 (by omega) hcap
    have is : Hid (fsts (fs f) n = sortT l) := by
      have := sort_is kl_ko (atT l) n f S3 P3
      rw [← hnH.out, atT_map] at this
      rw [← hnH.out]
      exact this
    clear P3 S3 T3 O3 C3 B2
    go_wp2_with fail
    refine Calls.mono C4.out ?_
    rintro e w4 ⟨m, G, rfl, hm, T4, hG, O4⟩
    have fin : Hid (SortedR w w4 (.returned (.slice (some ⟨g, 0, none⟩) m cap)) l ∧ Below w.heap.size w w4) := ⟨Or.inr ⟨g, m, cap, G, rfl, hg, by omega, T4, hG.trans is.out⟩, O4.into B3.out hg B3.out.size⟩
    clear T4 hG O4 C4 B3 is
    go_wp2_with fail
    go_ret
    exact fin.out
end Go.Proofs.YtlogghajbhllhaaDoor.So
