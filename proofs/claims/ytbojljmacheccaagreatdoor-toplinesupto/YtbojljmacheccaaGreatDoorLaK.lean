
import Derived.Test.YtbojljmacheccaaGreatDoorLaI
import Derived.Lib.AppendIntMem
import Derived.Test.YtbojljmacheccaaGreatDoorLaB
import Derived.OwnWalkIn
namespace Go.Proofs.YtbojljmacheccaaGreatDoor.Ln
open Go.RowKit Go.Shelf
attribute [local go_sem] Oper.semAt_some
set_option linter.unusedVariables false
set_option linter.unusedSimpArgs false
set_option maxRecDepth 100000
/-! ### a text cut at its first feed. -/
theorem cut_hit : ∀ (l : By) (i : Nat), feedAt l = some i → cutF l = (l.take i, l.drop (i + 1)) ∧ i < l.length
  | [], i, h => by cases h
  | c :: r, i, h => by
    by_cases hc : c = 10
    · have : i = 0 := by
        have e : feedAt (c :: r) = some 0 := by show (if c = 10 then some 0 else _) = _; rw [if_pos hc]
        rw [e] at h; injection h with h; exact h.symm
      subst this
      refine ⟨?_, by simp⟩
      unfold cutF
      rw [if_pos hc]; rfl
    · have e : feedAt (c :: r) = (feedAt r).map (· + 1) := by show (if c = 10 then some 0 else _) = _; rw [if_neg hc]
      rw [e] at h
      cases hr : feedAt r with
      | none => rw [hr] at h; cases h
      | some j =>
        rw [hr] at h
        have : i = j + 1 := by injection h with h; exact h.symm
        subst this
        obtain ⟨q1, q2⟩ := cut_hit r j hr
        refine ⟨?_, by simp; omega⟩
        unfold cutF
        rw [if_neg hc, q1]; rfl
theorem cut_miss : ∀ (l : By), feedAt l = none → cutF l = (l, [])
  | [], _ => rfl
  | c :: r, h => by
    rw [feed_cons] at h
    unfold cutF
    rw [if_neg h.1, cut_miss r h.2]
end Go.Proofs.YtbojljmacheccaaGreatDoor.Ln

namespace Go.Proofs.YtbojljmacheccaaGreatDoor.Ln
open Go.RowKit Go.Shelf
set_option linter.unusedVariables false
set_option linter.unusedSimpArgs false
set_option maxRecDepth 100000
/-! ### points in a row of one's own. -/
structure PtQ where
  p : PtP
  ta : Option Addr
  tc : Nat
  fa : Option Addr
  fc : Nat
def encQ : List PtQ → List Value
  | [] => []
  | t :: r => .string t.p.m :: .slice t.ta t.p.t.length t.tc :: .slice t.fa t.p.f.length t.fc :: .int .i64 t.p.tm :: encQ r
def notIn (v : Value) (t : PtQ) : Prop := ∀ g, v.ownBlock = some g → (t.p.t ≠ [] → ∀ q, t.ta = some q → q.block ≠ g) ∧ (t.p.f ≠ [] → ∀ q, t.fa = some q → q.block ≠ g)
theorem TgIn.grownL {w w' : World} {a : Option Addr} {l : List TagP} {row : Option Nat} (h : TgIn w a l) (hg : w.grownBy w' row) (hne : l ≠ [] → ∀ ad, a = some ad → row ≠ some ad.block) : TgIn w' a l := by
  rcases h with h | ⟨b, off, e, hb, hc⟩
  · exact Or.inl h
  · by_cases hl : l = []
    · exact Or.inl hl
    · have hn := hne hl _ e
      refine Or.inr ⟨b, off, e, Nat.lt_of_lt_of_le hb hg.size, fun i t ht => ?_⟩
      have c : ∀ o, w'.cell? ⟨b, o, none⟩ = w.cell? ⟨b, o, none⟩ := fun o => hg.cell_far ⟨b, o, none⟩ hb (fun q => hn q.symm)
      rw [c, c]; exact hc i t ht
theorem PtIn.grownL {w w' : World} {t : PtQ} {v : Value} (h : PtIn w t.ta t.fa t.fc t.p) (hg : w.grownBy w' v.ownBlock) (hn : notIn v t) : PtIn w' t.ta t.fa t.fc t.p :=
  ⟨TgIn.grownL h.1 hg (fun hl ad e q => (hn _ q).1 hl _ e rfl), h.2.1, FdIn.grownW h.2.2.1 hg (fun hl ad e q => (hn _ q).2 hl _ e rfl), h.2.2.2⟩
structure OPl (W : World) (B : Nat) (v : Value) (L : List PtQ) : Prop where
  own : W.ownsRow B 32 4 v L.length (encQ L)
  all : ∀ t ∈ L, PtIn W t.ta t.fa t.fc t.p ∧ notIn v t
theorem OPl.nil (w : World) (B : Nat) : OPl w B (.slice none 0 0) [] := ⟨⟨rfl, Or.inl ⟨rfl, rfl⟩⟩, fun t h => by cases h⟩
theorem OPl.below {W W' : World} {B : Nat} {v : Value} {L : List PtQ} (h : OPl W B v L) (hb : Below W.heap.size W W') : OPl W' B v L := by
  refine ⟨⟨h.own.1, ?_⟩, fun t ht => ⟨(h.all t ht).1.below hb, (h.all t ht).2⟩⟩
  rcases h.own.2 with h2 | ⟨g, cap, cur, e1, e2, e3, e4⟩
  · exact Or.inl h2
  · exact Or.inr ⟨g, cap, cur, e1, e2, by rw [hb.block g (Array.getElem?_eq_some_iff.1 e3).1]; exact e3, e4⟩
/-- what is written elsewhere leaves the row. -/
theorem OPl.keep {W W' : World} {B : Nat} {v : Value} {L : List PtQ} {r : Option Nat} (h : OPl W B v L) (hg : W.grownBy W' r) (hv : ∀ g, v.ownBlock = some g → r ≠ some g) (hp : ∀ t ∈ L, (t.p.t ≠ [] → ∀ q, t.ta = some q → r ≠ some q.block) ∧ (t.p.f ≠ [] → ∀ q, t.fa = some q → r ≠ some q.block)) : OPl W' B v L := by
  refine ⟨⟨h.own.1, ?_⟩, fun t ht => ⟨⟨TgIn.grownL (h.all t ht).1.1 hg (fun hl ad e => (hp t ht).1 hl ad e), (h.all t ht).1.2.1, FdIn.grownW (h.all t ht).1.2.2.1 hg (fun hl ad e => (hp t ht).2 hl ad e), (h.all t ht).1.2.2.2⟩, (h.all t ht).2⟩⟩
  rcases h.own.2 with h2 | ⟨g, cap, cur, e1, e2, e3, e4⟩
  · exact Or.inl h2
  · exact Or.inr ⟨g, cap, cur, e1, e2, by rw [hg.block g (Array.getElem?_eq_some_iff.1 e3).1 (fun q => hv g (by rw [e1]; rfl) q.symm)]; exact e3, e4⟩
theorem OPl.slice {W : World} {B : Nat} {v : Value} {L : List PtQ} (h : OPl W B v L) : ∃ a c, v = .slice a L.length c := by
  rcases h.own.2 with ⟨e1, e2⟩ | ⟨g, cap', cur, e1, _⟩
  · have : L.length = 0 := e2
    rw [this]; exact ⟨_, _, e1⟩
  · exact ⟨_, _, e1⟩
end Go.Proofs.YtbojljmacheccaaGreatDoor.Ln

namespace Go.Proofs.YtbojljmacheccaaGreatDoor.Ln
set_option linter.unusedVariables false
set_option linter.unusedSimpArgs false
/-! ### a text's lines, one by one. -/
def linesB : Nat → Nat → By → List (Nat × By)
  | 0, _, _ => []
  | f + 1, n, l => if l = [] then [] else (n, (cutF l).1) :: linesB f (n + 1) (cutF l).2
def skipB (x : By) : Bool := decide (x = []) || decide (x.head? = some 35)
def runA : List Pt → List (Nat × By) → Except (Nat × Option Int) (List Pt)
  | acc, [] => .ok acc
  | acc, x :: r => if skipB x.2 = true then runA acc r else match one8 unK nvL x.2 with
    | .error e => .error (x.1, e)
    | .ok p => runA (acc ++ [p]) r
theorem cut_short : ∀ l : By, l ≠ [] → (cutF l).2.length < l.length
  | [], h => absurd rfl h
  | c :: r, _ => by
    unfold cutF
    split
    · simp
    · have := cut_len r; simp; omega
theorem lines_step {f n : Nat} {l : By} (hl : l ≠ []) (hf : l.length ≤ f) : linesB f n l = (n, (cutF l).1) :: linesB (f - 1) (n + 1) (cutF l).2 ∧ (cutF l).2.length ≤ f - 1 := by
  have h := cut_short l hl
  cases f with
  | zero => omega
  | succ f =>
    refine ⟨?_, by omega⟩
    conv => lhs; unfold linesB
    rw [if_neg hl]; rfl
theorem lines_end {f n : Nat} : linesB f n [] = [] := by
  cases f with
  | zero => rfl
  | succ f => unfold linesB; rw [if_pos rfl]
theorem runA_cons (acc : List Pt) (x : Nat × By) (r : List (Nat × By)) : runA acc (x :: r) = if skipB x.2 = true then runA acc r else match one8 unK nvL x.2 with
    | .error e => .error (x.1, e)
    | .ok p => runA (acc ++ [p]) r := rfl
theorem runA_app : ∀ (a b : List (Nat × By)) (acc : List Pt), runA acc (a ++ b) = match runA acc a with | .ok ps => runA ps b | .error e => .error e
  | [], b, acc => rfl
  | x :: r, b, acc => by
    show runA acc (x :: (r ++ b)) = _
    rw [runA_cons, runA_cons]
    split
    · exact runA_app r b acc
    · split
      · rfl
      · exact runA_app r b _
theorem runA_one (ps : List Pt) (x : Nat × By) : runA ps [x] = if skipB x.2 = true then .ok ps else match one8 unK nvL x.2 with
    | .error e => .error (x.1, e)
    | .ok p => .ok (ps ++ [p]) := by
  unfold runA
  split
  · rfl
  · split
    · rfl
    · rfl
/-- what Parse tells. -/
def parO (l : By) : Except (Nat × Option Int) (List Pt) := runA [] (linesB l.length 0 l)
end Go.Proofs.YtbojljmacheccaaGreatDoor.Ln

namespace Go.Proofs.YtbojljmacheccaaGreatDoor.Ln
open Go.RowKit Go.Shelf
attribute [local go_sem] Oper.semAt_some
set_option linter.unusedVariables false
set_option linter.unusedSimpArgs false
/-! ### lines, as it is ranged over. -/
abbrev encL (x : Nat × By) : Array Value := #[.int .i64 (x.1 : Int), .string (ba x.2)]
/-- a line of a text of at most a megabyte. -/
abbrev LnT := {x : Nat × By // x.2.length ≤ 549755813888}
abbrev encT (x : LnT) : Array Value := encL x.1
end Go.Proofs.YtbojljmacheccaaGreatDoor.Ln

namespace Go.Proofs.YtbojljmacheccaaGreatDoor.Ln
open Go.RowKit Go.Shelf
attribute [local go_sem] Oper.semAt_some
set_option linter.unusedVariables false
set_option linter.unusedSimpArgs false
set_option maxRecDepth 100000
/-! ### while a text's lines are gone through. -/
/-- a block of cells is left by what writes into others. -/
theorem cells_stay {W W' : World} {row : Option Nat} (hg : W.grownBy W' row) (hr : ∀ r, row = some r → ∃ o : Obj, W.heap[r]? = some o ∧ o.isCells = false) {k : Nat} {cs : Array Value} {t : TypeId} (h : W.heap[k]? = some (.cells cs t)) : W'.heap[k]? = some (.cells cs t) :=
  (hg.block k (Array.getElem?_eq_some_iff.1 h).1 (fun e => by obtain ⟨o, ho, hc⟩ := hr k e.symm; rw [h] at ho; cases ho; cases hc)).trans h
theorem cell_not {W : World} {a : Addr} {u : Value} (h : W.cell? a = some u) {o : Obj} (ho : W.heap[a.block]? = some o) : o.isCells = true := by
  cases hc : o.isCells with
  | true => rfl
  | false =>
    unfold World.cell? at h
    rw [ho] at h
    cases o <;> simp_all [Obj.isCells]
theorem PtIn.stay {W W' : World} {row : Option Nat} (hg : W.grownBy W' row) (hr : ∀ r, row = some r → ∃ o : Obj, W.heap[r]? = some o ∧ o.isCells = false) {ta fa : Option Addr} {fc : Nat} {p : PtP} (h : PtIn W ta fa fc p) : PtIn W' ta fa fc p := by
  refine ⟨TgIn.grownL h.1 hg (fun hl ad e q => ?_), h.2.1, FdIn.grownW h.2.2.1 hg (fun hl ad e q => ?_), h.2.2.2⟩
  · rcases h.1 with h0 | ⟨b, off, e2, hb, hc⟩
    · exact hl h0
    · rw [e2] at e; injection e with e
      obtain ⟨o, ho, hx⟩ := hr _ q
      cases ht : p.t with
      | nil => exact hl ht
      | cons x r =>
        have := (hc 0 x (by rw [ht]; rfl)).1
        rw [← e] at ho
        rw [cell_not this ho] at hx; cases hx
  · rcases h.2.2.1 with h0 | ⟨b, off, e2, hb, hc⟩
    · exact hl h0
    · rw [e2] at e; injection e with e
      obtain ⟨o, ho, hx⟩ := hr _ q
      cases ht : p.f with
      | nil => exact hl ht
      | cons x r =>
        have := (hc 0 x (by rw [ht]; rfl)).1
        rw [← e] at ho
        rw [cell_not this ho] at hx; cases hx
theorem OPl.stay {W W' : World} {row : Option Nat} {B : Nat} {v : Value} {L : List PtQ} (hg : W.grownBy W' row) (hr : ∀ r, row = some r → ∃ o : Obj, W.heap[r]? = some o ∧ o.isCells = false) (h : OPl W B v L) : OPl W' B v L := by
  refine ⟨⟨h.own.1, ?_⟩, fun t ht => ⟨PtIn.stay hg hr (h.all t ht).1, (h.all t ht).2⟩⟩
  rcases h.own.2 with h2 | ⟨g, cap, cur, e1, e2, e3, e4⟩
  · exact Or.inl h2
  · exact Or.inr ⟨g, cap, cur, e1, e2, cells_stay hg hr e3, e4⟩
theorem OPl.keeps {W W' : World} {B : Nat} {v : Value} {L : List PtQ} (h : OPl W B v L) (hg : W.grownBy W' v.ownBlock) : KeepsOthers W W' := by
  refine ⟨hg.size, fun k o hk ho => ?_⟩
  refine (hg.block k (Array.getElem?_eq_some_iff.1 hk).1 (fun e => ?_)).trans hk
  rcases h.own.2 with ⟨e1, _⟩ | ⟨g, cap, cur, e1, e2, e3, e4⟩
  · rw [e1] at e; cases e
  · rw [e1] at e
    have : k = g := by simpa [Value.ownBlock] using e
    subst this
    rw [e3] at hk; cases hk; cases ho
/-- all lines till now are points, and they stand in the list. -/
structure ParI (w : World) (pre : List (Nat × By)) (W : World) (ps : List Pt) (v : Value) (L : List PtQ) : Prop where
  run : runA [] pre = .ok ps
  bl : Below w.heap.size w W
  r0 : W.heap[w.heap.size]? = some (.cells #[.slice none 0 0] 22)
  r1 : W.heap[w.heap.size + 1]? = some (.cells #[.nilIface] 26)
  r2 : W.heap[w.heap.size + 2]? = some (.cells #[v] 22)
  op : OPl W (w.heap.size + 3) v L
  eq : L.map (·.p) = ps.map ptB
  few : L.length ≤ pre.length
theorem ParI.own {w : World} (B : Nat) : OwnFrom B (fun (pre : List LnT) W => ∃ ps v L, ParI w (pre.map (·.1)) W ps v L ∧ w.heap.size ≤ B) := fun pre W W' row h hg hr => by
  obtain ⟨ps, v, L, h, hB⟩ := h
  have hr' : ∀ r, row = some r → ∃ o : Obj, W.heap[r]? = some o ∧ o.isCells = false := fun r e => (hr r e).2
  exact ⟨ps, v, L, ⟨h.run, h.bl.grown hg h.bl.size (fun k e => Nat.le_trans hB (hr k e).1), cells_stay hg hr' h.r0, cells_stay hg hr' h.r1, cells_stay hg hr' h.r2, OPl.stay hg hr' h.op, h.eq, h.few⟩, hB⟩
/-- a line is none: what is told stands in the results. -/
structure ParX (w : World) (pre : List (Nat × By)) (W : World) (pre0 : List (Nat × By)) (x : Nat × By) (ps : List Pt) (q : Option Int) : Prop where
  e : pre = pre0 ++ [x]
  run : runA [] pre0 = .ok ps
  no : skipB x.2 = false
  bad : one8 unK nvL x.2 = .error q
  bl : Below w.heap.size w W
  r0 : W.heap[w.heap.size]? = some (.cells #[.slice none 0 0] 22)
  r1 : W.heap[w.heap.size + 1]? = some (.cells #[.iface 107 (.agg #[.int .i64 (x.1 : Int), errL q])] 26)
theorem ParX.own {w : World} (B : Nat) (c : Code) : OwnFrom B (fun (pre : List LnT) W => c = .ret ∧ ∃ pre0 x ps q, ParX w (pre.map (·.1)) W pre0 x ps q ∧ w.heap.size ≤ B) := fun pre W W' row h hg hr => by
  obtain ⟨hc, pre0, x, ps, q, h, hB⟩ := h
  have hr' : ∀ r, row = some r → ∃ o : Obj, W.heap[r]? = some o ∧ o.isCells = false := fun r e => (hr r e).2
  exact ⟨hc, pre0, x, ps, q, ⟨h.e, h.run, h.no, h.bad, h.bl.grown hg h.bl.size (fun k e => Nat.le_trans hB (hr k e).1), cells_stay hg hr' h.r0, cells_stay hg hr' h.r1⟩, hB⟩
theorem runA_skip {pre : List (Nat × By)} {x : Nat × By} {ps : List Pt} (h : runA [] pre = .ok ps) (hs : skipB x.2 = true) : runA [] (pre ++ [x]) = .ok ps := by
  rw [runA_app, h]; dsimp only; rw [runA_one, if_pos hs]
/-- a line passed over. -/
theorem ParI.skip {w : World} {pre : List (Nat × By)} {W W' : World} {ps : List Pt} {v : Value} {L : List PtQ} (h : ParI w pre W ps v L) {x : Nat × By} (hs : skipB x.2 = true) (hb : Below W.heap.size W W') : ParI w (pre ++ [x]) W' ps v L :=
  ⟨runA_skip h.run hs, h.bl.trans (hb.mono h.bl.size), (hb.block _ (Array.getElem?_eq_some_iff.1 h.r0).1).trans h.r0, (hb.block _ (Array.getElem?_eq_some_iff.1 h.r1).1).trans h.r1, (hb.block _ (Array.getElem?_eq_some_iff.1 h.r2).1).trans h.r2, h.op.below hb, h.eq, by rw [List.length_append]; have := h.few; omega⟩
end Go.Proofs.YtbojljmacheccaaGreatDoor.Ln

namespace Go.Proofs.YtbojljmacheccaaGreatDoor.Ln
open Go.RowKit Go.Shelf
attribute [local go_sem] Oper.semAt_some
set_option linter.unusedVariables false
set_option linter.unusedSimpArgs false
set_option maxRecDepth 100000
theorem OPl.mono {W : World} {B C : Nat} {v : Value} {L : List PtQ} (h : OPl W B v L) (hc : C ≤ B) : OPl W C v L := by
  refine ⟨⟨h.own.1, ?_⟩, h.all⟩
  rcases h.own.2 with h2 | ⟨g, cap, cur, e1, e2, e3⟩
  · exact Or.inl h2
  · exact Or.inr ⟨g, cap, cur, e1, by omega, e3⟩
end Go.Proofs.YtbojljmacheccaaGreatDoor.Ln

namespace Go.Proofs.YtbojljmacheccaaGreatDoor.Ln
open Go.RowKit Go.Shelf
attribute [local go_sem] Oper.semAt_some
set_option linter.unusedVariables false
set_option linter.unusedSimpArgs false
set_option maxRecDepth 100000
/-! ### the document's Parse. -/
/-- what the loop keeps: the lines ahead are gone through, the last one is open. -/
structure ParD (s : ByteArray) (n fr i : Nat) (pre : List (Nat × By)) (ps : List Pt) (g : Nat) : Prop where
  run : runA [] pre = .ok ps
  cut : linesB s.data.toList.length 0 s.data.toList = pre ++ linesB g n (s.data.toList.drop fr)
  fuel : (s.data.toList.drop fr).length ≤ g
  fi : fr ≤ i
  il : i ≤ s.size
  open_ : feedAt ((s.data.toList.drop fr).take (i - fr)) = none
theorem drop_get (l : By) (fr i : Nat) (h : fr ≤ i) : (l.drop fr)[i - fr]? = l[i]? := by rw [List.getElem?_drop]; congr 1; omega
/-- a byte that is no feed. -/
theorem ParD.next {s : ByteArray} {n fr i : Nat} {pre : List (Nat × By)} {ps : List Pt} {g : Nat} (h : ParD s n fr i pre ps g) {c : UInt8} (hi : i < s.size) (hc : s.data.toList[i]? = some c) (h10 : c ≠ 10) : ParD s n fr (i + 1) pre ps g :=
  ⟨h.run, h.cut, h.fuel, Nat.le_succ_of_le h.fi, hi, by
    have := feed_next (s.data.toList.drop fr) (i - fr) c h.open_ (by rw [drop_get _ _ _ h.fi]; exact hc) h10
    rw [show i - fr + 1 = i + 1 - fr by have := h.fi; omega] at this
    exact this⟩
/-- the line that ends at i. -/
def lnA (s : ByteArray) (fr i : Nat) : By := (s.data.toList.drop fr).take (i - fr)
/-- at a feed. -/
theorem ParD.feed {s : ByteArray} {n fr i : Nat} {pre : List (Nat × By)} {ps : List Pt} {g : Nat} (h : ParD s n fr i pre ps g) (hi : i < s.size) (hc : s.data.toList[i]? = some 10) : (pre ++ [(n, lnA s fr i)]) <+: linesB s.data.toList.length 0 s.data.toList ∧ ∀ ps2, runA [] (pre ++ [(n, lnA s fr i)]) = .ok ps2 → ParD s (n + 1) (i + 1) (i + 1) (pre ++ [(n, lnA s fr i)]) ps2 (g - 1) := by
  have hf := feed_hit (s.data.toList.drop fr) (i - fr) h.open_ (by rw [drop_get _ _ _ h.fi]; exact hc)
  obtain ⟨q1, q2⟩ := cut_hit _ _ hf
  have hne : s.data.toList.drop fr ≠ [] := by intro e; rw [e] at q2; simp at q2
  obtain ⟨s1, s2⟩ := lines_step (n := n) hne h.fuel
  rw [q1] at s1 s2
  have hd : (s.data.toList.drop fr).drop (i - fr + 1) = s.data.toList.drop (i + 1) := by rw [List.drop_drop]; congr 1; have := h.fi; omega
  dsimp only at s1 s2
  rw [hd] at s1 s2
  have hcut := h.cut
  rw [s1] at hcut
  have hcut2 : linesB s.data.toList.length 0 s.data.toList = (pre ++ [(n, lnA s fr i)]) ++ linesB (g - 1) (n + 1) (s.data.toList.drop (i + 1)) := by rw [hcut]; simp [lnA]
  exact ⟨⟨_, hcut2.symm⟩, fun ps2 hr => ⟨hr, hcut2, s2, Nat.le_refl _, hi, by rw [Nat.sub_self]; rfl⟩⟩
/-- at the text's end. -/
theorem ParD.last {s : ByteArray} {n fr : Nat} {pre : List (Nat × By)} {ps : List Pt} {g : Nat} (h : ParD s n fr s.size pre ps g) : (lnA s fr s.size = [] ∧ parO s.data.toList = .ok ps) ∨ (lnA s fr s.size ≠ [] ∧ pre ++ [(n, lnA s fr s.size)] = linesB s.data.toList.length 0 s.data.toList) := by
  have hlen := lenB s
  have hl : lnA s fr s.size = s.data.toList.drop fr := by unfold lnA; rw [List.take_of_length_le (by rw [List.length_drop]; omega)]
  have ho := h.open_
  rw [List.take_of_length_le (by rw [List.length_drop]; omega)] at ho
  rw [hl]
  by_cases he : s.data.toList.drop fr = []
  · refine Or.inl ⟨he, ?_⟩
    unfold parO
    rw [h.cut, he, lines_end, List.append_nil]; exact h.run
  · refine Or.inr ⟨he, ?_⟩
    obtain ⟨s1, s2⟩ := lines_step (n := n) he h.fuel
    rw [cut_miss _ ho] at s1
    dsimp only at s1
    rw [lines_end] at s1
    rw [h.cut, s1]
end Go.Proofs.YtbojljmacheccaaGreatDoor.Ln
