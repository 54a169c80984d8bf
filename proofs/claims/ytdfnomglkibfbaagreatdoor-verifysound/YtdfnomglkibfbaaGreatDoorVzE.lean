
import Derived.Test.YtdfnomglkibfbaaGreatDoorVfN
import Derived.Lib.AppendZeros
import Derived.Laws.AppendOwn
import Derived.Deep.Upon
import Derived.Deep.AppendLies
import Derived.Handy
import Derived.OwnWalk
import Derived.Test.YtdfnomglkibfbaaGreatDoorVfB
import Derived.WalkSmall
import Derived.ProofKit
import Derived.BigQuiet
import Derived.Deep.RegionHeld3
import Derived.Test.YtdfnomglkibfbaaGreatDoorVzA
namespace Go.Proofs.YtdfnomglkibfbaaGreatDoor.Vf
open Go.RowKit
set_option linter.unusedVariables false
set_option linter.unusedSimpArgs false
set_option maxRecDepth 100000
/-- a slice's type: what its elements are. -/
def Tp (t e : TypeId) (size bytes : Nat) : Prop := ∃ i z, Tryz.prog.underlying t = some (.slice e) ∧ Tryz.prog.info? e = some i ∧ i.zero = some z ∧ i.size = size ∧ i.bytes = bytes ∧ z.cells.size = size ∧ 0 < size
/-- append of a slice, nil or not, to a row of one's own that is not nil. -/
theorem app_src {W : World} {base : Nat} {t e : TypeId} {size bytes : Nat} (T : Tp t e size bytes) (ty : TypeId) {ad0 : Addr} {n cap0 : Nat} {xs : List Value} (own : W.ownsRow base e size (.slice (some ad0) n cap0) n xs) (hb : base ≤ W.heap.size) {a : Option Addr} {m c : Nat} {news : List Value} (hnone : a = none → m = 0) (hl : news.length = m * size) (hc : ∀ ad, a = some ad → ∀ j u, news[j]? = some u → W.cell? (ad.add j) = some u) (h1 : ∀ u ∈ news, u.oneCell' = true) (h63 : n + m ≤ maxLen) (hby : (n + m) * bytes ≤ 140737488355328) :
    ∃ ad cap w', (Builtin.append_ #[t, t] ty #[.slice (some ad0) n cap0, .slice a m c]).run Tryz.prog W = .ok (.slice (some ad) (n + m) cap) w' ∧ w'.ownsRow base e size (.slice (some ad) (n + m) cap) (n + m) (xs ++ news) ∧ W.grownBy w' (some ad0.block) := by
  obtain ⟨i, z, t1, t2, t3, t4, t5, t6, t7⟩ := T
  cases a with
  | some ad =>
    obtain ⟨v', w', r1, r2, r3, r4⟩ := run_append_own (P := Tryz.prog) W base t ty e i z size bytes t1 t2 t3 t4 t5 t6 t7 _ n xs own ad m c news hl (hc ad rfl) h1 h63 hby hb
    obtain ⟨_, q | ⟨g, cap, cur, e1, _⟩⟩ := id r2
    · exact absurd (r4.1 q.1).1 (by simp)
    · subst e1
      exact ⟨_, _, w', r1, r2, r3⟩
  | none =>
    obtain rfl := hnone rfl
    obtain rfl : news = [] := List.eq_nil_of_length_eq_zero (by simpa using hl)
    obtain ⟨o1, o2 | ⟨g, cap, cur, e1, e2, e3, e4, e5, e6, e7⟩⟩ := own
    · simp at o2
    · injection e1 with q1 q2 q3
      subst q3
      refine ⟨ad0, cap0, W, ?_, ?_, ?_⟩
      · exact run_append_nothing (P := Tryz.prog) W t t ty e i t1 t2 (some ad0) n cap0 e4 _ (Src.ofNil W t1 c)
      · rw [Nat.add_zero, List.append_nil]
        exact ⟨o1, Or.inr ⟨g, cap0, cur, by rw [q1], e2, e3, e4, e5, e6, e7⟩⟩
      · exact ⟨rfl, rfl, rfl, Nat.le_refl _, fun k hk _ => rfl⟩
theorem add_at0 (b off i : Nat) : (⟨b, off, none⟩ : Addr).add i = ⟨b, off + i, none⟩ := by unfold Addr.add; split <;> simp_all
/-- a copy of a slice with one element more. -/
theorem more_row {W : World} {t e : TypeId} {size bytes : Nat} (T : Tp t e size bytes) (ty1 ty2 : TypeId) {a : Option Addr} {m c : Nat} {xs : List Value} (hnone : a = none → m = 0) (hl : xs.length = m * size) (hc : ∀ ad, a = some ad → ∀ j u, xs[j]? = some u → W.cell? (ad.add j) = some u) (h1 : ∀ u ∈ xs, u.oneCell' = true) (ys : List Value) (hy : ys.length = size) (hy1 : ∀ u ∈ ys, u.oneCell' = true) (h63 : m + 1 ≤ maxLen) (hby : (m + 1) * bytes ≤ 140737488355328) :
    ∃ ad1 cap1 w1 b cap2 w2, (Builtin.append_ #[t, t] ty1 #[.slice (some ⟨W.heap.size, 0, none⟩) 0 0, .slice a m c]).run Tryz.prog (W.alloc (.cells #[] e)) = .ok (.slice (some ad1) m cap1) w1 ∧ (Builtin.append_ #[t, t] ty2 #[.slice (some ad1) m cap1, .slice (some ⟨w1.heap.size, 0, none⟩) 1 1]).run Tryz.prog (w1.alloc (.cells ys.toArray e)) = .ok (.slice (some ⟨b, 0, none⟩) (m + 1) cap2) w2 ∧ Below W.heap.size W w2 ∧ W.heap.size ≤ b ∧ b < w2.heap.size ∧ ∀ j v, (xs ++ ys)[j]? = some v → w2.cell? ⟨b, j, none⟩ = some v := by
  have T' := T
  obtain ⟨i, z, t1, t2, t3, t4, t5, t6, t7⟩ := T'
  have b0 : Below W.heap.size W (W.alloc (.cells #[] e)) := (Below.refl _ W).alloc (Nat.le_refl _) _
  have own0 : (W.alloc (.cells #[] e)).ownsRow W.heap.size e size (.slice (some ⟨W.heap.size, 0, none⟩) 0 0) 0 [] := ⟨by simp, Or.inr ⟨W.heap.size, 0, #[], rfl, Nat.le_refl _, heap_alloc_new W _, Nat.le_refl _, by omega, by simp, by simp⟩⟩
  obtain ⟨ad1, cap1, w1, r1, o1, g1⟩ := app_src T ty1 own0 (by simp) (a := a) (m := m) (c := c) hnone hl (fun ad e j u hj => by
    have h := hc ad e j u hj
    rw [b0.cell (p := ad.add j) (World.block_lt_of_cell? _ _ h)]; exact h) h1 (by omega) (Nat.le_trans (Nat.mul_le_mul_right _ (by omega)) hby)
  rw [Nat.zero_add] at r1 o1
  rw [List.nil_append] at o1
  have b1 : Below W.heap.size W w1 := b0.grown g1 (by simp) (fun j e => by cases e; exact Nat.le_refl _)
  have b2 : Below W.heap.size W (w1.alloc (.cells ys.toArray e)) := b1.alloc b1.size _
  have o1' : (w1.alloc (.cells ys.toArray e)).ownsRow W.heap.size e size (.slice (some ad1) m cap1) m xs := by
    obtain ⟨q1, q2 | ⟨g, cap, cur, e1, e2, e3, e4, e5, e6, e7⟩⟩ := o1
    · simp at q2
    · refine ⟨q1, Or.inr ⟨g, cap, cur, e1, e2, ?_, e4, e5, e6, e7⟩⟩
      have hg : g < w1.heap.size := (Array.getElem?_eq_some_iff.1 e3).1
      rw [heap_alloc_old w1 _ hg]; exact e3
  obtain ⟨ad2, cap2, w2, r2, o2, g2⟩ := app_src T ty2 o1' (by have := b1.size; simp; omega) (a := some ⟨w1.heap.size, 0, none⟩) (m := 1) (c := 1) (news := ys) (fun h => by cases h) (by omega) (fun ad e' j u hj => by
    injection e' with e'
    subst e'
    rw [add_at0, Nat.zero_add, cell_of_row _ w1.heap.size j _ e (0, 0) (heap_alloc_new w1 _)]
    simpa using hj) hy1 h63 hby
  have hlt1 : W.heap.size ≤ ad1.block := by
    obtain ⟨q1, q2 | ⟨g, cap, cur, e1, e2, _⟩⟩ := o1
    · simp at q2
    · injection e1 with e1
      injection e1 with e1
      rw [e1]; exact e2
  have b3 : Below W.heap.size W w2 := b2.grown g2 b2.size (fun j e => by cases e; exact hlt1)
  obtain ⟨q1, q2 | ⟨g, cap, cur, e1, e2, e3, e4, e5, e6, e7⟩⟩ := o2
  · simp at q2
  · injection e1 with q1' q2' q3'
    injection q1' with q1'
    subst q1' q3'
    refine ⟨ad1, cap1, w1, g, cap2, w2, r1, r2, b3, e2, (Array.getElem?_eq_some_iff.1 e3).1, fun j v hv => ?_⟩
    rw [cell_of_row _ g j _ e (0, 0) e3, ← Array.getElem?_toList]
    rw [← e7] at hv
    have hj : j < (m + 1) * size := by
      have := (List.getElem?_eq_some_iff.1 hv).1
      rw [List.length_take] at this
      omega
    rw [List.getElem?_take_of_lt hj] at hv
    exact hv
theorem wpList_append_runG {P : Program} {ops : Array Oper} {rest : List Oper} {o : Oper} {a : Act} {Q : Exit → Act → World → Prop} {w : World} (hgd : o.guard = none) (s x : Operand) (t : TypeId)
    (ho : o.op = .call { callee := .builtin .append, args := #[s, x], argTypes := #[t, t] }) (v y v' : Value) (w' : World) (hs : a.eval s = v) (hx : a.eval x = y) (hr : (Builtin.append_ #[t, t] o.type #[v, y]).run P w = .ok v' w')
    (h : wpList P ops Q rest (a.put o.dst v') w') : wpList P ops Q (o :: rest) a w := by
  refine wpList_plain hgd fun K hK => ?_
  unfold Oper.wp execOp
  simp only [ho, resolve, invoke, builtin, Sem.run_bind, Sem.run_pure, Result.andThen_ok, List.map_toArray, List.map_cons, List.map_nil, hs, hx, hr]
  exact hK _ _ h
end Go.Proofs.YtdfnomglkibfbaaGreatDoor.Vf

namespace Go.Proofs.YtdfnomglkibfbaaGreatDoor.Vf.T8
open Go.RowKit
set_option linter.unusedVariables false
set_option linter.unusedSimpArgs false
set_option maxRecDepth 100000
def vl (x : Int) : Value := .int .i8 x
theorem tp : Tp 139 262 1 1 := by
  have hi : (Tryz.prog.info? 262).map (fun i => (i.zero, i.bytes, i.size)) = some (some (.int .i8 0), 1, 1) := by kernel_rfl
  obtain ⟨i, i1, i0⟩ := Option.map_eq_some_iff.1 hi
  exact ⟨i, _, Tryz.underlying139, i1, congrArg (·.1) i0, congrArg (·.2.2) i0, congrArg (·.2.1) i0, rfl, by omega⟩
/-- in memory. -/
def In (w : World) (a : Option Addr) (l : List Int) : Prop := l = [] ∨ ∃ b off, a = some ⟨b, off, none⟩ ∧ b < w.heap.size ∧ ∀ i t, l[i]? = some t → w.cell? ⟨b, off + i, none⟩ = some (vl t)
theorem In.below {w w' : World} {a : Option Addr} {l : List Int} {n : Nat} (h : In w a l) (hb : Below n w w') (hn : w.heap.size ≤ n) : In w' a l := by
  rcases h with h | ⟨b, off, h1, h2, h3⟩
  · exact Or.inl h
  · exact Or.inr ⟨b, off, h1, Nat.lt_of_lt_of_le h2 hb.size, fun i t ht => by rw [hb.cell (p := ⟨b, off + i, none⟩) (Nat.lt_of_lt_of_le h2 hn)]; exact h3 i t ht⟩
theorem In.emp {w : World} {l : List Int} (h : In w none l) : l = [] := by
  rcases h with h | ⟨b, off, h1, _⟩
  · exact h
  · cases h1
theorem In.get {w : World} {a : Option Addr} {l : List Int} (h : In w a l) {k : Nat} (hk : k < l.length) : ∃ b off t, l[k]? = some t ∧ a = some ⟨b, off, none⟩ ∧ b < w.heap.size ∧ w.cell? ⟨b, off + k, none⟩ = some (vl t) := by
  obtain ⟨t, ht⟩ : ∃ t, l[k]? = some t := ⟨_, List.getElem?_eq_getElem hk⟩
  rcases h with h | ⟨b, off, h1, h2, h3⟩
  · rw [h] at hk; simp at hk
  · exact ⟨b, off, t, ht, h1, h2, h3 k t ht⟩
theorem In.take {w : World} {a : Option Addr} {l : List Int} (h : In w a l) (n : Nat) : In w a (l.take n) := by
  rcases h with h | ⟨b, off, h1, h2, h3⟩
  · rw [h]; exact Or.inl (by simp)
  · exact Or.inr ⟨b, off, h1, h2, fun i t ht => h3 i t (by rw [List.getElem?_take] at ht; split at ht; exact ht; cases ht)⟩
theorem In.news {w : World} {a : Option Addr} {l : List Int} (h : In w a l) (ad : Addr) (e : a = some ad) : ∀ j u, (l.map vl)[j]? = some u → w.cell? (ad.add j) = some u := fun j u hj => by
  rw [List.getElem?_map, Option.map_eq_some_iff] at hj
  obtain ⟨t, ht, rfl⟩ := hj
  rcases h with h | ⟨b, off, h1, h2, h3⟩
  · rw [h] at ht; simp at ht
  · rw [e] at h1
    injection h1 with h1
    subst h1
    rw [add_at0]
    exact h3 j t ht
/-- one's own. -/
def OE (w : World) (B : Nat) (v : Value) (l : List Int) : Prop := w.ownsRow B 262 1 v l.length (l.map vl)
theorem OE.ein {w : World} {B : Nat} {v : Value} {l : List Int} (h : OE w B v l) : ∃ a cap, v = .slice a l.length cap ∧ l.length ≤ cap ∧ In w a l ∧ (a = none ∨ ∃ b, a = some ⟨b, 0, none⟩ ∧ B ≤ b ∧ b < w.heap.size) := by
  rcases h.2 with ⟨e, e0⟩ | ⟨g, cap, cur, e1, hB, hg, hc, _⟩
  · exact ⟨none, 0, by rw [e, e0], by omega, Or.inl (List.eq_nil_of_length_eq_zero e0), Or.inl rfl⟩
  · subst e1
    have hcs := World.ownsRow.cells h (g := g) rfl
    have hlt := (World.ownsRow.lt h g rfl).2
    refine ⟨some ⟨g, 0, none⟩, cap, rfl, hc, Or.inr ⟨g, 0, rfl, hlt, fun i s hs => ?_⟩, Or.inr ⟨g, rfl, hB, hlt⟩⟩
    have k1 := hcs i (vl s) (by rw [List.getElem?_map, hs]; rfl)
    rw [add_at0, Nat.zero_add] at k1
    rw [Nat.zero_add]
    exact k1
theorem OE.nil (w : World) (B : Nat) : OE w B (.slice none 0 0) [] := ⟨rfl, Or.inl ⟨rfl, rfl⟩⟩
theorem OE.below {w w' : World} {B C : Nat} {v : Value} {l : List Int} (h : OE w B v l) (hb : Below C w w') (hC : w.heap.size ≤ C) : OE w' B v l := by
  refine ⟨h.1, ?_⟩
  rcases h.2 with h2 | ⟨g, cap, cur, e1, e2, e3, e4⟩
  · exact Or.inl h2
  · exact Or.inr ⟨g, cap, cur, e1, e2, by rw [hb.block g (Nat.lt_of_lt_of_le (Array.getElem?_eq_some_iff.1 e3).1 hC)]; exact e3, e4⟩
theorem OE.bound {w : World} {B : Nat} {v : Value} {l : List Int} (h : OE w B v l) {k : Nat} (e : v.ownBlock = some k) : B ≤ k ∧ k < w.heap.size := by
  rcases h.2 with ⟨e1, e0⟩ | ⟨g, cap, cur, e1, _, hg, hc, _⟩
  · rw [e1] at e; cases e
  · subst e1
    have : g = k := by simpa [Value.ownBlock] using e
    subst this
    exact World.ownsRow.lt h g rfl
theorem OE.mono {w : World} {B C : Nat} {v : Value} {l : List Int} (h : OE w B v l) (hC : C ≤ B) : OE w C v l := by
  refine ⟨h.1, ?_⟩
  rcases h.2 with h2 | ⟨g, cap, cur, e1, e2, e3⟩
  · exact Or.inl h2
  · exact Or.inr ⟨g, cap, cur, e1, Nat.le_trans hC e2, e3⟩
/-- another block changes. -/
theorem OE.keep {w w' : World} {B : Nat} {v : Value} {l : List Int} (h : OE w B v l) (hk : ∀ k, v.ownBlock = some k → w'.heap[k]? = w.heap[k]?) : OE w' B v l := by
  refine ⟨h.1, ?_⟩
  rcases h.2 with h2 | ⟨g, cap, cur, e1, e2, e3, e4⟩
  · exact Or.inl h2
  · exact Or.inr ⟨g, cap, cur, e1, e2, by rw [hk g (by rw [e1]; rfl)]; exact e3, e4⟩
theorem OE.cell {w : World} {B g n c : Nat} {l : List Int} (h : OE w B (.slice (some ⟨g, 0, none⟩) n c) l) {k : Nat} {t : Int} (ht : l[k]? = some t) : w.cell? ⟨g, k, none⟩ = some (vl t) := by
  have k1 := World.ownsRow.cells h (g := g) rfl k (vl t) (by rw [List.getElem?_map, ht]; rfl)
  rw [add_at0, Nat.zero_add] at k1
  exact k1
theorem OE.fz {w : World} {B g n c : Nat} {l : List Int} (h : OE w B (.slice (some ⟨g, 0, none⟩) n c) l) (k : Nat) : w.frozen? ⟨g, k, none⟩ = false := by
  rcases h.2 with ⟨e, _⟩ | ⟨g', cap, cur, e1, _, hg, _⟩
  · simp at e
  · injection e1 with e1
    injection e1 with e1
    injection e1 with e1
    subst e1
    exact frozen_of_row _ g k _ _ hg
theorem OE.set {w : World} {B g n c : Nat} {l : List Int} (h : OE w B (.slice (some ⟨g, 0, none⟩) n c) l) (k : Nat) (x : Int) : OE (w.setCell ⟨g, k, none⟩ (vl x)) B (.slice (some ⟨g, 0, none⟩) n c) (l.set k x) ∧ w.grownBy (w.setCell ⟨g, k, none⟩ (vl x)) (some g) := by
  obtain rfl : n = l.length := by
    rcases h.2 with ⟨e, _⟩ | ⟨g', cap, cur, e1, _⟩
    · simp at e
    · simp at e1; exact e1.2.1
  have := World.ownsRow.stored h k (vl x)
  refine ⟨?_, this.2⟩
  unfold OE
  rw [List.length_set, List.map_set]
  exact this.1
theorem OE.empty (w : World) : OE (w.alloc (.cells #[] 262)) w.heap.size (.slice (some ⟨w.heap.size, 0, none⟩) 0 0) [] := ⟨by simp, Or.inr ⟨w.heap.size, 0, #[], rfl, Nat.le_refl _, heap_alloc_new w _, Nat.le_refl _, by omega, by simp, by simp⟩⟩
theorem app_no (W : World) (a ad : Option Addr) (n cap c : Nat) (ty : TypeId) (h : n ≤ cap) : (Builtin.append_ #[139, 139] ty #[.slice a n cap, .slice ad 0 c]).run Tryz.prog W = .ok (.slice a n cap) W := by
  obtain ⟨i, z, t1, t2, t3, t4, t5, t6, t7⟩ := tp
  cases a <;> cases ad <;> simp [Builtin.append_, run_underlying t1, sizeOf, typeInfo, t2, Builtin.lenOf, Builtin.firstCells, storeCells, loadCells, loadCellsFrom, h]
/-- some appended, or none. -/
theorem app (W : World) (B : Nat) (v : Value) (l f : List Int) (h : OE W B v l) (hB : B ≤ W.heap.size) (a : Option Addr) (c : Nat) (ty : TypeId) (hf : In W a f) (hn : l.length + f.length ≤ 4398046511104) :
    ∃ v' w', (Builtin.append_ #[139, 139] ty #[v, .slice a f.length c]).run Tryz.prog W = .ok v' w' ∧ OE w' B v' (l ++ f) ∧ W.grownBy w' v.ownBlock ∧ (v'.ownBlock = v.ownBlock ∨ v'.ownBlock = some W.heap.size) := by
  rcases Nat.eq_zero_or_pos f.length with h0 | h0
  · have e := List.eq_nil_of_length_eq_zero h0
    subst e
    obtain ⟨a1, c1, e1, hc1, _⟩ := h.ein
    exact ⟨v, W, by rw [e1]; exact app_no _ _ _ _ _ _ _ hc1, by rw [List.append_nil]; exact h, ⟨rfl, rfl, rfl, Nat.le_refl _, fun k hk hne => rfl⟩, Or.inl rfl⟩
  · have hf' := hf
    rcases hf with e | ⟨b, off, e, hb, hc⟩
    · rw [e] at h0; simp at h0
    · subst e
      obtain ⟨i, z, t1, t2, t3, t4, t5, t6, t7⟩ := tp
      have hml : maxLen = 9223372036854775807 := by decide
      obtain ⟨g, cap, w', hr, own, gr, hat, hlt⟩ := run_append_lies (P := Tryz.prog) W 139 ty B 262 i z 1 1 t1 t2 t3 t4 t5 t6 t7 v l.length (l.map vl) h ⟨b, off, none⟩ f.length c (f.map vl) (by simp) (hf'.news _ rfl) (fun u hu => by obtain ⟨t, _, rfl⟩ := List.mem_map.1 hu; rfl) h0 (by omega) (by omega) hB _ rfl
      refine ⟨_, w', hr, ?_, gr, ?_⟩
      · unfold OE; rw [List.length_append, List.map_append]; exact own
      · rcases hat with e | e
        · exact Or.inl e.symm
        · subst e; exact Or.inr rfl
theorem grown_below {W w' : World} {B : Nat} {v : Value} {l : List Int} (h : OE W B v l) (hB : B ≤ W.heap.size) (gr : W.grownBy w' v.ownBlock) : Below B W w' := (Below.refl B W).grown gr hB (fun k e => (h.bound e).1)
/-- one appended. -/
theorem app_one (W : World) (B : Nat) (v : Value) (l : List Int) (h : OE W B v l) (hB : B ≤ W.heap.size) (x : Int) (ty : TypeId) (hn : l.length + 1 ≤ 4398046511104) :
    ∃ v' w', (Builtin.append_ #[139, 139] ty #[v, .slice (some ⟨W.heap.size, 0, none⟩) 1 1]).run Tryz.prog (W.alloc (.cells #[vl x] 262)) = .ok v' w' ∧ OE w' B v' (l ++ [x]) ∧ (W.alloc (.cells #[vl x] 262)).grownBy w' v.ownBlock ∧ Below B W w' ∧ (v'.ownBlock = v.ownBlock ∨ v'.ownBlock = some (W.heap.size + 1)) := by
  have b0 : Below W.heap.size W (W.alloc (.cells #[vl x] 262)) := (Below.refl _ W).alloc (Nat.le_refl _) _
  have h1 := h.below b0 (Nat.le_refl _)
  have hs : (W.alloc (.cells #[vl x] 262)).heap.size = W.heap.size + 1 := by simp
  obtain ⟨v', w', hr, ho, hg, hat⟩ := app _ B v l [x] h1 (by omega) (some ⟨W.heap.size, 0, none⟩) 1 ty (Or.inr ⟨W.heap.size, 0, rfl, by omega, fun i t ht => by
    cases i with
    | zero => simp at ht; subst ht; simp [go_sem]
    | succ i => simp at ht⟩) (by simpa using hn)
  rw [hs] at hat
  exact ⟨v', w', hr, ho, hg, (b0.mono hB).trans (grown_below h1 (by omega) hg), hat⟩
set_option maxHeartbeats 4000000 in
/-- slices.Clone: in a block of their own, or nil. -/
theorem clone_any (a : Option Addr) (c : Nat) (l : List Int) (w : World) (h : In w a l) (hn : l.length ≤ 4398046511104) :
    Calls Tryz.prog 118 #[.slice a l.length c] w fun e w' => ∃ v, e = .returned v ∧ OE w' w.heap.size v l ∧ Below w.heap.size w w' := by
  have q29 : ∀ (w : World) (a : Option Addr) (n c n' c' : Nat), (binOp .eql 139 (.slice a n c) (.slice none n' c')).run Tryz.prog w = .ok (.bool a.isNone) w := fun w a n c n' c' => Lib.run_eql_slice_nil w _ _ a n c n' c' Tryz.underlying139
  cases a with
  | none =>
    have e := h.emp
    subst e
    have fin : Hid (OE w w.heap.size (.slice none 0 0) [] ∧ Below w.heap.size w w) := ⟨OE.nil _ _, Below.refl _ _⟩
    clear h hn
    go_enter Tryz.func118, Tryz.ntmps118
    go_wp2_with fail
    go_ret
    exact ⟨_, rfl, fin.out⟩
  | some ad =>
    have hB0 : Below w.heap.size w (w.alloc (.cells #[] 262)) := (Below.refl _ w).alloc (Nat.le_refl _) _
    have own0 := OE.empty w
    obtain ⟨v', w', hr, ho, hg, hat⟩ := app _ w.heap.size _ [] l own0 (by simp) (some ad) c 139 (h.below hB0 (Nat.le_refl _)) (by simp; omega)
    rw [List.nil_append] at ho
    have hb : Below w.heap.size w w' := hB0.trans (grown_below own0 (by simp) hg)
    have fin : Hid (OE w' w.heap.size v' l ∧ Below w.heap.size w w') := ⟨ho, hb⟩
    have hrH : Hid (∀ W, W = w.alloc (.cells #[] 262) → (Builtin.append_ #[139, 139] 139 #[.slice (some ⟨w.heap.size, 0, none⟩) 0 0, .slice (some ad) l.length c]).run Tryz.prog W = .ok v' w') := fun W e => by subst e; exact hr
    clear hr ho hg hat hb own0 hB0 h hn
    generalize l.length = n at *
    go_enter Tryz.func118, Tryz.ntmps118
    go_wp2_with (at_builtin; refine wpList_append_runG (by rfl) _ _ _ (by rfl) _ _ _ _ (by rfl) (by rfl) (hrH.out _ rfl) ?_)
    go_ret
    exact ⟨_, rfl, fin.out⟩
end Go.Proofs.YtdfnomglkibfbaaGreatDoor.Vf.T8

namespace Go.Proofs.YtdfnomglkibfbaaGreatDoor.Vf
set_option linter.unusedVariables false
set_option linter.unusedSimpArgs false
/-! ### plain: heights of code that climbs well -/
structure HOk (l : List InP) (h : Nat → Int) : Prop where
  z : h 0 = 0
  tk : ∀ (k : Nat) (t : InP), l[k]? = some t → ((rowF t.c).tk : Int) ≤ h k
  mx : ∀ (k : Nat) (t : InP), l[k]? = some t → bhd (h k) t.c ≤ 200
  nx : ∀ (k : Nat) (t : InP), l[k]? = some t → k + 1 < l.length → h (k + 1) = bhd (h k) t.c
  jp : ∀ (k : Nat) (t : InP), l[k]? = some t → (rowF t.c).a = 9 → (k : Int) < t.a → t.a < (l.length : Int) → h t.a.toNat = bhd (h k) t.c
  en : ∀ (k : Nat) (t : InP), l[k]? = some t → (rowF t.c).en = true → bhd (h k) t.c = 0
theorem meetP_or (o : Option Int) (v : Int) : meetP o v = v ∨ meetP o v = -1 := by
  unfold meetP
  cases o with
  | none => exact Or.inl rfl
  | some o => simp only; by_cases e : o = v <;> simp [e]
theorem bring_at (m : Nat → Option Int) (j : Nat) (v : Int) : ∃ u, bringP m j v j = some u ∧ (u = v ∨ u = -1) := ⟨_, if_pos rfl, meetP_or _ _⟩
theorem bring_keepv {m : Nat → Option Int} {j q : Nat} {v u : Int} (h : m q = some u) : ∃ u', bringP m j v q = some u' ∧ (u' = u ∨ u' = -1) := by
  unfold bringP
  by_cases e : q = j
  · subst e
    rw [if_pos rfl, h]
    refine ⟨_, rfl, ?_⟩
    unfold meetP
    by_cases c : u = v <;> simp [c]
  · rw [if_neg e]; exact ⟨u, h, Or.inl rfl⟩
theorem next_keepv {m : Nat → Option Int} {k q : Nat} {i : InP} {v u : Int} (hq : k < q) (h : m q = some u) : ∃ u', nextP m k i v q = some u' ∧ (u' = u ∨ u' = -1) := by
  have h0 : dropP m k q = some u := by unfold dropP; rw [if_neg (by omega)]; exact h
  unfold nextP
  by_cases a : (rowF i.c).a = 9
  · rw [if_pos a]
    obtain ⟨u1, e1, q1⟩ := bring_keepv (j := k + 1) (v := v) h0
    obtain ⟨u2, e2, q2⟩ := bring_keepv (j := i.a.toNat) (v := v) e1
    refine ⟨u2, e2, ?_⟩
    rcases q2 with rfl | rfl
    · exact q1
    · exact Or.inr rfl
  · rw [if_neg a]; exact bring_keepv h0
theorem next_one (m : Nat → Option Int) (k : Nat) (i : InP) (v : Int) : ∃ u, nextP m k i v (k + 1) = some u ∧ (u = v ∨ u = -1) := by
  unfold nextP
  by_cases a : (rowF i.c).a = 9
  · rw [if_pos a]
    obtain ⟨u1, e1, q1⟩ := bring_at (dropP m k) (k + 1) v
    obtain ⟨u2, e2, q2⟩ := bring_keepv (j := i.a.toNat) (v := v) e1
    refine ⟨u2, e2, ?_⟩
    rcases q2 with rfl | rfl
    · exact q1
    · exact Or.inr rfl
  · rw [if_neg a]; exact bring_at _ _ _
theorem next_jump (m : Nat → Option Int) (k : Nat) (i : InP) (v : Int) (a : (rowF i.c).a = 9) : ∃ u, nextP m k i v i.a.toNat = some u ∧ (u = v ∨ u = -1) := by
  unfold nextP
  rw [if_pos a]
  exact bring_at _ _ _
theorem hgt_edges : ∀ (r : List InP) (k : Nat) (m : Nat → Option Int) (hs : List Int), hs.length = k → (hgtP r k m hs).2 = none →
    (∀ j, j < k → (hgtP r k m hs).1.getD j 0 = hs.getD j 0) ∧ (hgtP r k m hs).1.length = k + r.length ∧
    (∀ j v, k ≤ j → j < k + r.length → m j = some v → (hgtP r k m hs).1.getD j 0 = v) ∧
    (∀ j t, r[j]? = some t → ((rowF t.c).tk : Int) ≤ (hgtP r k m hs).1.getD (k + j) 0 ∧ bhd ((hgtP r k m hs).1.getD (k + j) 0) t.c ≤ 200 ∧ ((rowF t.c).en = true → bhd ((hgtP r k m hs).1.getD (k + j) 0) t.c ≤ 0) ∧
      (j + 1 < r.length → (hgtP r k m hs).1.getD (k + j + 1) 0 = bhd ((hgtP r k m hs).1.getD (k + j) 0) t.c) ∧
      ((rowF t.c).a = 9 → ((k + j : Nat) : Int) < t.a → t.a < ((k + r.length : Nat) : Int) → (hgtP r k m hs).1.getD t.a.toNat 0 = bhd ((hgtP r k m hs).1.getD (k + j) 0) t.c))
  | [], k, m, hs, hl, _ => by
    unfold hgtP
    exact ⟨fun j _ => rfl, by simpa using hl, fun j v h1 h2 _ => by simp at h2; omega, fun j t h => by simp at h⟩
  | i :: r, k, m, hs, hl, hn => by
    unfold hgtP at hn ⊢
    by_cases c : errP ((m k).getD 0) i.c
    · rw [if_pos c] at hn; cases hn
    · rw [if_neg c] at hn
      rw [if_neg c]
      have ne : ¬ errP ((m k).getD 0) i.c := c
      unfold errP at ne
      simp only [not_or, not_and, Int.not_lt] at ne
      obtain ⟨n1, n2, n3⟩ := ne
      generalize hx : (m k).getD 0 = x at *
      have hb : 0 ≤ bhd x i.c := by unfold bhd; omega
      obtain ⟨A, B, C, D⟩ := hgt_edges r (k + 1) (nextP m k i (bhd x i.c)) (hs ++ [x]) (by simp [hl]) hn
      generalize hgtP r (k + 1) (nextP m k i (bhd x i.c)) (hs ++ [x]) = R at *
      have ek : R.1.getD k 0 = x := by
        rw [A k (by omega), List.getD_eq_getElem?_getD, List.getElem?_append_right (by omega), hl]; simp
      have pos : ∀ j, k < j → j < k + (r.length + 1) → 0 ≤ R.1.getD j 0 := fun j h1 h2 => by
        obtain ⟨t, ht⟩ : ∃ t, r[j - (k + 1)]? = some t := ⟨_, List.getElem?_eq_getElem (by omega)⟩
        have := (D (j - (k + 1)) t ht).1
        rw [show k + 1 + (j - (k + 1)) = j by omega] at this
        omega
      have toJ : ∀ j u v, k < j → j < k + (r.length + 1) → nextP m k i (bhd x i.c) j = some u → (u = v ∨ u = -1) → R.1.getD j 0 = v := fun j u v h1 h2 h3 h4 => by
        have e := C j u (by omega) (by omega) h3
        have := pos j h1 h2
        rcases h4 with h4 | h4 <;> omega
      refine ⟨fun j hj => ?_, by rw [B]; simp; omega, fun j v h1 h2 h3 => ?_, fun j t ht => ?_⟩
      · rw [A j (by omega)]
        simp only [List.getD_eq_getElem?_getD]
        rw [List.getElem?_append_left (by omega)]
      · by_cases e : j = k
        · subst e
          rw [ek, ← hx, h3]; rfl
        · obtain ⟨u, hu, q⟩ := next_keepv (i := i) (v := bhd x i.c) (show k < j by omega) h3
          exact toJ j u v (by omega) (by simpa using h2) hu q
      · cases j with
        | zero =>
          simp at ht
          subst ht
          rw [Nat.add_zero, ek]
          refine ⟨n1, n2, n3, fun h => ?_, fun a9 h1 h2 => ?_⟩
          · obtain ⟨u, hu, q⟩ := next_one m k i (bhd x i.c)
            exact toJ _ u _ (by omega) (by simp at h; omega) hu q
          · obtain ⟨u, hu, q⟩ := next_jump m k i (bhd x i.c) a9
            simp only [List.length_cons] at h2
            exact toJ _ u _ (by omega) (by omega) hu q
        | succ j =>
          have := D j t (by simpa using ht)
          rw [show k + 1 + j = k + (j + 1) by omega] at this
          refine ⟨this.1, this.2.1, this.2.2.1, fun h => this.2.2.2.1 (by simp at h; omega), fun a9 h1 h2 => this.2.2.2.2 a9 (by omega) (by simp only [List.length_cons] at h2; omega)⟩
theorem hok_of {l : List InP} {m : Nat → Option Int} (h0 : m 0 = some 0 ∨ m 0 = none) (hn : (hgtP l 0 m []).2 = none) : HOk l (fun j => (hgtP l 0 m []).1.getD j 0) := by
  obtain ⟨A, B, C, D⟩ := hgt_edges l 0 m [] rfl hn
  have D' : ∀ (k : Nat) (t : InP), l[k]? = some t → _ := fun k t ht => by
    have := D k t ht
    rw [Nat.zero_add, Nat.zero_add] at this
    exact this
  refine ⟨?_, fun k t ht => (D' k t ht).1, fun k t ht => (D' k t ht).2.1, fun k t ht => (D' k t ht).2.2.2.1, fun k t ht a9 h1 h2 => (D' k t ht).2.2.2.2 a9 h1 h2, fun k t ht e => ?_⟩
  · cases l with
    | nil => unfold hgtP; rfl
    | cons i r =>
      rcases h0 with h0 | h0
      · exact C 0 0 (Nat.le_refl _) (by simp) h0
      · have e := hn
        unfold hgtP at e
        unfold hgtP
        rw [h0] at e ⊢
        by_cases c : errP ((none : Option Int).getD 0) i.c
        · rw [if_pos c] at e; cases e
        · rw [if_neg c] at e ⊢
          have q := (hgt_edges r 1 _ ([] ++ [(none : Option Int).getD 0]) rfl e).1 0 (by omega)
          rw [q]; rfl
  · have h1 := (D' k t ht).2.2.1 e
    have h2 := (D' k t ht).1
    unfold bhd at *
    omega
end Go.Proofs.YtdfnomglkibfbaaGreatDoor.Vf

namespace Go.Proofs.YtdfnomglkibfbaaGreatDoor.Vf
set_option linter.unusedVariables false
set_option linter.unusedSimpArgs false
/-! ### plain: what is certain of the stack: -1 no, 0 open, 1 yes -/
def Tr (x : Int) : Prop := x = -1 ∨ x = 0 ∨ x = 1
def minT (a b : Int) : Int := if a ≤ b then a else b
def maxT (a b : Int) : Int := if a ≤ b then b else a
theorem minT_tr {a b : Int} (ha : Tr a) (hb : Tr b) : Tr (minT a b) := by unfold minT; split <;> assumption
theorem maxT_tr {a b : Int} (ha : Tr a) (hb : Tr b) : Tr (maxT a b) := by unfold maxT; split <;> assumption
theorem neg_tr {a : Int} (ha : Tr a) : Tr (-a) := by unfold Tr at *; omega
/-- what an instruction lays on the stack, of what it took. -/
def topT (c : Nat) (x y : Int) : Int :=
  if c = 1 then 1 else if c = 2 then -1 else if c = 7 then -x else if c = 8 then minT x y else if c = 9 then maxT x y else if c = 10 ∨ c = 11 then x else 0
theorem topT_tr {c : Nat} {x y : Int} (hx : Tr x) (hy : Tr y) : Tr (topT c x y) := by
  unfold topT
  have z : Tr 0 := Or.inr (Or.inl rfl)
  have o : Tr 1 := Or.inr (Or.inr rfl)
  have n : Tr (-1) := Or.inl rfl
  split; · exact o
  split; · exact n
  split; · exact neg_tr hx
  split; · exact minT_tr hx hy
  split; · exact maxT_tr hx hy
  split; · exact hx
  exact z
def certP (c : Nat) (s : List Int) : List Int :=
  if c = 12 ∨ c = 13 then s.take (s.length - (rowF c).tk)
  else s.take (s.length - (rowF c).tk) ++ [topT c (s.getD (s.length - (rowF c).tk) 0) (s.getD (s.length - (rowF c).tk + 1) 0)]
/-- can it jump, can it go on? -/
def leadJ (c : Nat) (s : List Int) : Bool := (c == 10 && decide (s.getD (s.length - 1) 0 ≠ 1)) || (c == 11 && decide (s.getD (s.length - 1) 0 ≠ -1))
def leadG (c : Nat) (s : List Int) : Bool := !((c == 10 && decide (s.getD (s.length - 1) 0 = -1)) || (c == 11 && decide (s.getD (s.length - 1) 0 = 1)))
def mT (a b : Int) : Int := if a = b then a else 0
def sameT (a b : List Int) : List Int := List.zipWith mT a b
theorem mT_tr {a b : Int} (ha : Tr a) : Tr (mT a b) := by unfold mT; split; exact ha; exact Or.inr (Or.inl rfl)
abbrev MpT := Nat → Option (List Int)
def meetT (o : Option (List Int)) (s : List Int) : List Int := match o with
  | none => s
  | some o => sameT o s
def bringT (m : MpT) (j : Nat) (s : List Int) (k : Nat) : Option (List Int) := if k = j then some (meetT (m j) s) else m k
def dropT (m : MpT) (j k : Nat) : Option (List Int) := if k = j then none else m k
def stepT (m : MpT) (k : Nat) (i : InP) (s : List Int) : MpT :=
  if leadG i.c s = true then bringT (if leadJ i.c s = true then bringT (dropT m k) i.a.toNat (certP i.c s) else dropT m k) (k + 1) (certP i.c s)
  else if leadJ i.c s = true then bringT (dropT m k) i.a.toNat (certP i.c s) else dropT m k
def dmP (l : List InP) : Nat → MpT × List Nat
  | 0 => (fun j => if j = 0 then some [] else none, [])
  | k + 1 => match l[k]? with
    | none => dmP l k
    | some t => match (dmP l k).1 k with
      | none => (dropT (dmP l k).1 k, (dmP l k).2 ++ [k])
      | some s => (stepT (dmP l k).1 k t s, (dmP l k).2)
def deadL (l : List InP) : List Nat := (dmP l l.length).2
theorem sameT_len {a b : List Int} (h : a.length = b.length) : (sameT a b).length = b.length := by unfold sameT; simp [h]
theorem sameT_idem (s : List Int) : sameT s s = s := by
  unfold sameT
  induction s with
  | nil => rfl
  | cons x r ih => simp [ih, mT]
/-- two places, whichever first. -/
theorem bringT_comm (m : MpT) (i j : Nat) (s : List Int) : bringT (bringT m i s) j s = bringT (bringT m j s) i s := by
  funext k
  unfold bringT
  by_cases e : i = j
  · subst e; rfl
  · by_cases e1 : k = j
    · subst e1
      rw [if_pos rfl, if_neg (fun q => e q.symm), if_neg (fun q => e q.symm)]
      simp
    · rw [if_neg e1]
      by_cases e2 : k = i
      · subst e2; rw [if_pos rfl, if_pos rfl, if_neg e1]
      · rw [if_neg e2, if_neg e2, if_neg e1]
/-- the machines' filter instructions. -/
def Fil (l : List InP) : Prop := ∀ (j : Nat) (t : InP), l[j]? = some t → 1 ≤ t.c ∧ t.c ≤ 13
def Jmp (l : List InP) : Prop := ∀ (j : Nat) (t : InP), l[j]? = some t → (rowF t.c).a = 9 → (j : Int) < t.a ∧ t.a < (l.length : Int)
theorem lead_nine {c : Nat} {s : List Int} (h : leadJ c s = true) : (rowF c).a = 9 := by
  unfold leadJ at h
  simp only [Bool.or_eq_true, Bool.and_eq_true, beq_iff_eq] at h
  rcases h with ⟨rfl, _⟩ | ⟨rfl, _⟩ <;> rfl
theorem tk_pt {c : Nat} (h1 : 1 ≤ c) (h2 : c ≤ 13) : (rowF c).pt = if c = 12 ∨ c = 13 then 0 else 1 := by
  match c, h1, h2 with
  | 1, _, _ | 2, _, _ | 3, _, _ | 4, _, _ | 5, _, _ | 6, _, _ | 7, _, _ | 8, _, _ | 9, _, _ | 10, _, _ | 11, _, _ | 12, _, _ | 13, _, _ => rfl
  | c + 14, _, h => omega
theorem cert_len {c : Nat} {s : List Int} (h1 : 1 ≤ c) (h2 : c ≤ 13) (hs : (rowF c).tk ≤ s.length) : ((certP c s).length : Int) = bhd (s.length : Int) c := by
  unfold certP bhd
  rw [tk_pt h1 h2]
  by_cases e : c = 12 ∨ c = 13
  · rw [if_pos e, if_pos e, List.length_take]; simp; omega
  · rw [if_neg e, if_neg e, List.length_append, List.length_take]; simp; omega
theorem getD_tr {s : List Int} (h : ∀ x ∈ s, Tr x) (k : Nat) : Tr (s.getD k 0) := by
  rw [List.getD_eq_getElem?_getD]
  cases e : s[k]? with
  | none => exact Or.inr (Or.inl rfl)
  | some x => exact h x (List.mem_of_getElem? e)
theorem cert_tr {c : Nat} {s : List Int} (h : ∀ x ∈ s, Tr x) : ∀ x ∈ certP c s, Tr x := by
  unfold certP
  split
  · exact fun x hx => h x (List.mem_of_mem_take hx)
  · intro x hx
    rcases List.mem_append.1 hx with hx | hx
    · exact h x (List.mem_of_mem_take hx)
    · simp at hx; subst hx; exact topT_tr (getD_tr h _) (getD_tr h _)
theorem same_tr : ∀ {a b : List Int}, (∀ x ∈ a, Tr x) → ∀ x ∈ sameT a b, Tr x := by
  intro a
  unfold sameT
  induction a with
  | nil => intro b _ x hx; simp at hx
  | cons y r ih =>
    intro b h x hx
    cases b with
    | nil => simp at hx
    | cons z q =>
      simp only [List.zipWith_cons_cons, List.mem_cons] at hx
      rcases hx with rfl | hx
      · exact mT_tr (h y (List.mem_cons_self ..))
      · exact ih (fun x hx => h x (List.mem_cons_of_mem _ hx)) x hx
/-- what stands while the dead are looked for. -/
structure DIn (l : List InP) (h : Nat → Int) (k : Nat) (m : MpT) : Prop where
  len : ∀ j s, m j = some s → j < l.length → (s.length : Int) = h j
  tr : ∀ j s, m j = some s → ∀ x ∈ s, Tr x
  ge : ∀ j s, m j = some s → k ≤ j
  le : ∀ j s, m j = some s → j ≤ l.length
theorem DIn.bring {l : List InP} {h : Nat → Int} {k : Nat} {m : MpT} (d : DIn l h k m) {j : Nat} {s : List Int} (hj : k ≤ j) (hl : j ≤ l.length) (hs : j < l.length → (s.length : Int) = h j) (ht : ∀ x ∈ s, Tr x) : DIn l h k (bringT m j s) := by
  refine ⟨fun q u hu hq => ?_, fun q u hu => ?_, fun q u hu => ?_, fun q u hu => ?_⟩
  all_goals
    unfold bringT at hu
    by_cases e : q = j
    · subst e
      rw [if_pos rfl] at hu
      injection hu with hu
      all_goals unfold meetT at hu
      all_goals first
      | exact hj
      | exact hl
      | (cases c : m q with
         | none => rw [c] at hu; subst hu; first | exact hs hq | exact ht
         | some o =>
           rw [c] at hu
           subst hu
           first
           | (have e1 := d.len q o c hq
              have e2 := hs hq
              simp only
              rw [sameT_len (by omega)]; exact e2)
           | exact same_tr (d.tr q o c))
    · rw [if_neg e] at hu
      first | exact d.len q u hu hq | exact d.tr q u hu | exact d.ge q u hu | exact d.le q u hu
theorem DIn.drop {l : List InP} {h : Nat → Int} {k : Nat} {m : MpT} (d : DIn l h k m) : DIn l h (k + 1) (dropT m k) := by
  have e : ∀ {q : Nat} {u : List Int}, dropT m k q = some u → m q = some u ∧ q ≠ k := by
    intro q u hu
    unfold dropT at hu
    by_cases c : q = k
    · rw [if_pos c] at hu; cases hu
    · rw [if_neg c] at hu; exact ⟨hu, c⟩
  exact ⟨fun q u hu hq => d.len q u (e hu).1 hq, fun q u hu => d.tr q u (e hu).1, fun q u hu => by have := d.ge q u (e hu).1; have := (e hu).2; omega, fun q u hu => d.le q u (e hu).1⟩
theorem DIn.step {l : List InP} {h : Nat → Int} {k : Nat} {m : MpT} (H : HOk l h) (F : Fil l) (J : Jmp l) (d : DIn l h k m) {t : InP} (ht : l[k]? = some t) {s : List Int} (hs : m k = some s) : DIn l h (k + 1) (stepT m k t s) := by
  have hk : k < l.length := (List.getElem?_eq_some_iff.1 ht).1
  obtain ⟨f1, f2⟩ := F k t ht
  have e1 := d.len k s hs hk
  have e2 := H.tk k t ht
  have e3 := cert_len (c := t.c) (s := s) f1 f2 (by omega)
  have tr := cert_tr (c := t.c) (d.tr k s hs)
  rw [e1] at e3
  have jm : leadJ t.c s = true → DIn l h (k + 1) (bringT (dropT m k) t.a.toNat (certP t.c s)) := fun q => by
    have a9 := lead_nine q
    obtain ⟨j1, j2⟩ := J k t ht a9
    exact d.drop.bring (by omega) (by omega) (fun _ => by rw [e3]; exact (H.jp k t ht a9 j1 j2).symm) tr
  have m1 : DIn l h (k + 1) (if leadJ t.c s = true then bringT (dropT m k) t.a.toNat (certP t.c s) else dropT m k) := by
    split
    · exact jm (by assumption)
    · exact d.drop
  unfold stepT
  split
  · exact m1.bring (Nat.le_refl _) (by omega) (fun q => by rw [e3]; exact (H.nx k t ht q).symm) tr
  · exact m1
theorem dmP_none {l : List InP} {k : Nat} {t : InP} (ht : l[k]? = some t) (hm : (dmP l k).1 k = none) : dmP l (k + 1) = (dropT (dmP l k).1 k, (dmP l k).2 ++ [k]) := by
  show (match l[k]? with | none => dmP l k | some t => match (dmP l k).1 k with | none => (dropT (dmP l k).1 k, (dmP l k).2 ++ [k]) | some s => (stepT (dmP l k).1 k t s, (dmP l k).2)) = _
  rw [ht, hm]
theorem dmP_some {l : List InP} {k : Nat} {t : InP} {s : List Int} (ht : l[k]? = some t) (hm : (dmP l k).1 k = some s) : dmP l (k + 1) = (stepT (dmP l k).1 k t s, (dmP l k).2) := by
  show (match l[k]? with | none => dmP l k | some t => match (dmP l k).1 k with | none => (dropT (dmP l k).1 k, (dmP l k).2 ++ [k]) | some s => (stepT (dmP l k).1 k t s, (dmP l k).2)) = _
  rw [ht, hm]
theorem dIn_all {l : List InP} {h : Nat → Int} (H : HOk l h) (F : Fil l) (J : Jmp l) : ∀ k, k ≤ l.length → DIn l h k (dmP l k).1
  | 0, _ => by
    have e : ∀ {j : Nat} {s : List Int}, (dmP l 0).1 j = some s → j = 0 ∧ s = [] := by
      intro j s q
      unfold dmP at q
      simp only at q
      by_cases c : j = 0
      · rw [if_pos c] at q; injection q with q; exact ⟨c, q.symm⟩
      · rw [if_neg c] at q; cases q
    exact ⟨fun j s q _ => by obtain ⟨rfl, rfl⟩ := e q; rw [H.z]; rfl, fun j s q => by obtain ⟨rfl, rfl⟩ := e q; intro x hx; simp at hx, fun j s q => Nat.zero_le _, fun j s q => by obtain ⟨rfl, rfl⟩ := e q; exact Nat.zero_le _⟩
  | k + 1, hk => by
    have d := dIn_all H F J k (by omega)
    obtain ⟨t, ht⟩ : ∃ t, l[k]? = some t := ⟨_, List.getElem?_eq_getElem (by omega)⟩
    cases hm : (dmP l k).1 k with
    | none => rw [dmP_none ht hm]; exact d.drop
    | some s => rw [dmP_some ht hm]; exact d.step H F J ht hm
theorem dead_lt {l : List InP} : ∀ k, k ≤ l.length → (∀ j ∈ (dmP l k).2, j < k) ∧ (dmP l k).2.length ≤ k
  | 0, _ => ⟨fun j hj => by unfold dmP at hj; simp at hj, Nat.le_refl _⟩
  | k + 1, hk => by
    have d := dead_lt (l := l) k (by omega)
    obtain ⟨t, ht⟩ : ∃ t, l[k]? = some t := ⟨_, List.getElem?_eq_getElem (by omega)⟩
    cases hm : (dmP l k).1 k with
    | none =>
      rw [dmP_none ht hm]
      refine ⟨fun j hj => ?_, by have := d.2; simp; omega⟩
      rcases List.mem_append.1 hj with hj | hj
      · have := d.1 j hj; omega
      · simp at hj; omega
    | some s => rw [dmP_some ht hm]; exact ⟨fun j hj => by have := d.1 j hj; omega, by have := d.2; simp only; omega⟩
end Go.Proofs.YtdfnomglkibfbaaGreatDoor.Vf

namespace Go.Proofs.YtdfnomglkibfbaaGreatDoor.Vf
set_option linter.unusedVariables false
set_option linter.unusedSimpArgs false
/-! ### plain: a run of a filter on truths -/
def okB (b : Bool) (x : Int) : Prop := (x = 1 → b = true) ∧ (x = -1 → b = false)
def Cs (s : List Bool) (a : List Int) : Prop := s.length = a.length ∧ ∀ k, okB (s.getD k false) (a.getD k 0)
theorem okB_zero (b : Bool) : okB b 0 := ⟨fun h => absurd h (by omega), fun h => absurd h (by omega)⟩
def topB (c : Nat) (t x y : Bool) : Bool :=
  if c = 1 then true else if c = 2 then false else if c = 7 then !x else if c = 8 then x && y else if c = 9 then x || y else if c = 10 ∨ c = 11 then x else t
def stepB (c : Nat) (t : Bool) (s : List Bool) : List Bool :=
  if c = 12 ∨ c = 13 then s.take (s.length - (rowF c).tk)
  else s.take (s.length - (rowF c).tk) ++ [topB c t (s.getD (s.length - (rowF c).tk) false) (s.getD (s.length - (rowF c).tk + 1) false)]
theorem topT_ok {c : Nat} {t x y : Bool} {a b : Int} (hx : okB x a) (hy : okB y b) (ta : Tr a) (tb : Tr b) : okB (topB c t x y) (topT c a b) := by
  unfold topB topT
  by_cases c1 : c = 1
  · rw [if_pos c1, if_pos c1]; exact ⟨fun _ => rfl, fun h => absurd h (by omega)⟩
  rw [if_neg c1, if_neg c1]
  by_cases c2 : c = 2
  · rw [if_pos c2, if_pos c2]; exact ⟨fun h => absurd h (by omega), fun _ => rfl⟩
  rw [if_neg c2, if_neg c2]
  by_cases c3 : c = 7
  · rw [if_pos c3, if_pos c3]
    exact ⟨fun h => by rw [hx.2 (by omega)]; rfl, fun h => by rw [hx.1 (by omega)]; rfl⟩
  rw [if_neg c3, if_neg c3]
  by_cases c4 : c = 8
  · rw [if_pos c4, if_pos c4]
    unfold minT Tr at *
    refine ⟨fun h => ?_, fun h => ?_⟩
    · rw [hx.1 (by split at h <;> omega), hy.1 (by split at h <;> omega)]; rfl
    · by_cases q : a ≤ b
      · rw [if_pos q] at h; rw [hx.2 h]; rfl
      · rw [if_neg q] at h; rw [hy.2 h, Bool.and_false]
  rw [if_neg c4, if_neg c4]
  by_cases c5 : c = 9
  · rw [if_pos c5, if_pos c5]
    unfold maxT Tr at *
    refine ⟨fun h => ?_, fun h => ?_⟩
    · by_cases q : a ≤ b
      · rw [if_pos q] at h; rw [hy.1 h, Bool.or_true]
      · rw [if_neg q] at h; rw [hx.1 h]; rfl
    · rw [hx.2 (by split at h <;> omega), hy.2 (by split at h <;> omega)]; rfl
  rw [if_neg c5, if_neg c5]
  by_cases c6 : c = 10 ∨ c = 11
  · rw [if_pos c6, if_pos c6]; exact hx
  rw [if_neg c6, if_neg c6]
  exact okB_zero _
theorem getD_take_b {α : Type} {l : List α} {d : α} {n k : Nat} : (l.take n).getD k d = if k < n then l.getD k d else d := by
  rw [List.getD_eq_getElem?_getD, List.getElem?_take]
  split
  · rw [List.getD_eq_getElem?_getD]
  · rfl
theorem getD_concat {α : Type} {l : List α} {x d : α} {k : Nat} : (l ++ [x]).getD k d = if k < l.length then l.getD k d else if k = l.length then x else d := by
  rw [List.getD_eq_getElem?_getD]
  by_cases h : k < l.length
  · rw [if_pos h, List.getElem?_append_left h, List.getD_eq_getElem?_getD]
  · rw [if_neg h]
    by_cases e : k = l.length
    · subst e; rw [if_pos rfl, List.getElem?_concat_length]; rfl
    · rw [if_neg e, List.getElem?_eq_none (by simp; omega)]; rfl
theorem Cs.take {s : List Bool} {a : List Int} (h : Cs s a) (n : Nat) : Cs (s.take n) (a.take n) := by
  refine ⟨by rw [List.length_take, List.length_take, h.1], fun k => ?_⟩
  rw [getD_take_b, getD_take_b]
  split
  · exact h.2 k
  · exact okB_zero _
theorem Cs.concat {s : List Bool} {a : List Int} (h : Cs s a) {b : Bool} {x : Int} (hb : okB b x) : Cs (s ++ [b]) (a ++ [x]) := by
  refine ⟨by rw [List.length_append, List.length_append, h.1]; rfl, fun k => ?_⟩
  rw [getD_concat, getD_concat, h.1]
  split
  · exact h.2 k
  · split
    · exact hb
    · exact okB_zero _
theorem Cs.step {s : List Bool} {a : List Int} (h : Cs s a) (tr : ∀ x ∈ a, Tr x) (c : Nat) (t : Bool) : Cs (stepB c t s) (certP c a) := by
  unfold stepB certP
  rw [h.1]
  split
  · exact h.take _
  · exact (h.take _).concat (topT_ok (h.2 _) (h.2 _) (getD_tr tr _) (getD_tr tr _))
theorem step_len {c : Nat} {s : List Bool} (t : Bool) (h1 : 1 ≤ c) (h2 : c ≤ 13) (hs : (rowF c).tk ≤ s.length) : ((stepB c t s).length : Int) = bhd (s.length : Int) c := by
  unfold stepB bhd
  rw [tk_pt h1 h2]
  by_cases e : c = 12 ∨ c = 13
  · rw [if_pos e, if_pos e, List.length_take]; simp; omega
  · rw [if_neg e, if_neg e, List.length_append, List.length_take]; simp; omega
theorem getD_zip : ∀ (a c : List Int) (k : Nat), a.length = c.length → (sameT a c).getD k 0 = if k < a.length then mT (a.getD k 0) (c.getD k 0) else 0
  | [], [], k, _ => by unfold sameT; simp
  | x :: a, y :: c, 0, _ => by unfold sameT; simp
  | x :: a, y :: c, k + 1, h => by
    have := getD_zip a c k (by simpa using h)
    unfold sameT at *
    simp only [List.zipWith_cons_cons, List.getD_cons_succ, List.length_cons, Nat.add_lt_add_iff_right]
    exact this
  | [], _ :: _, _, h => by simp at h
  | _ :: _, [], _, h => by simp at h
theorem same_cs {s : List Bool} {a c : List Int} (h : Cs s a) (hl : a.length = c.length) : Cs s (sameT a c) := by
  refine ⟨by rw [sameT_len hl, h.1, hl], fun k => ?_⟩
  rw [getD_zip a c k hl]
  split
  · unfold mT
    split
    · exact h.2 k
    · exact okB_zero _
  · exact okB_zero _
theorem same_cs' {s : List Bool} {a c : List Int} (h : Cs s c) (hl : a.length = c.length) : Cs s (sameT a c) := by
  refine ⟨by rw [sameT_len hl, h.1], fun k => ?_⟩
  rw [getD_zip a c k hl]
  split
  · unfold mT
    split
    · rename_i e; rw [e]; exact h.2 k
    · exact okB_zero _
  · exact okB_zero _
theorem meet_cs {s : List Bool} {c : List Int} {o : Option (List Int)} (h : Cs s c) (hl : ∀ a, o = some a → a.length = c.length) : Cs s (meetT o c) := by
  unfold meetT
  cases o with
  | none => exact h
  | some a => exact same_cs' h (hl a rfl)
/-- what is laid at a place is true of a stack. -/
def Rch (m : MpT) (j : Nat) (s : List Bool) : Prop := ∃ a, m j = some a ∧ Cs s a
theorem Rch.bring {m : MpT} {j q : Nat} {s : List Bool} {c : List Int} (h : Rch m j s) (hl : q = j → ∀ a, m j = some a → a.length = c.length) : Rch (bringT m q c) j s := by
  obtain ⟨a, h1, h2⟩ := h
  unfold bringT
  by_cases e : j = q
  · subst e
    refine ⟨_, if_pos rfl, ?_⟩
    rw [h1]
    exact same_cs h2 (hl rfl a h1)
  · exact ⟨a, (if_neg e).trans h1, h2⟩
theorem Rch.brought {m : MpT} {j : Nat} {s : List Bool} {c : List Int} (h : Cs s c) (hl : ∀ a, m j = some a → a.length = c.length) : Rch (bringT m j c) j s := ⟨_, if_pos rfl, meet_cs h hl⟩
theorem Rch.drop {m : MpT} {j k : Nat} {s : List Bool} (h : Rch m j s) (hj : j ≠ k) : Rch (dropT m k) j s := by
  obtain ⟨a, h1, h2⟩ := h
  exact ⟨a, (if_neg hj : dropT m k j = m j).trans h1, h2⟩
/-- one more instruction gone through: what lies ahead stays true. -/
theorem Rch.next {l : List InP} {h : Nat → Int} (H : HOk l h) (F : Fil l) (J : Jmp l) {k j : Nat} (hk : k < j) (hj : j < l.length) {s : List Bool} (r : Rch (dmP l k).1 j s) : Rch (dmP l (k + 1)).1 j s := by
  have d := dIn_all H F J k (by omega)
  obtain ⟨t, ht⟩ : ∃ t, l[k]? = some t := ⟨_, List.getElem?_eq_getElem (by omega)⟩
  cases hm : (dmP l k).1 k with
  | none => rw [dmP_none ht hm]; exact r.drop (by omega)
  | some a =>
    rw [dmP_some ht hm]
    obtain ⟨f1, f2⟩ := F k t ht
    have e1 := d.len k a hm (by omega)
    have e2 := H.tk k t ht
    have e3 := cert_len (c := t.c) (s := a) f1 f2 (by omega)
    rw [e1] at e3
    have dd := d.drop
    have jm : leadJ t.c a = true → DIn l h (k + 1) (bringT (dropT (dmP l k).1 k) t.a.toNat (certP t.c a)) := fun q => by
      obtain ⟨j1, j2⟩ := J k t ht (lead_nine q)
      exact dd.bring (by omega) (by omega) (fun _ => by rw [e3]; exact (H.jp k t ht (lead_nine q) j1 j2).symm) (cert_tr (d.tr k a hm))
    have lnJ : leadJ t.c a = true → t.a.toNat = j → (certP t.c a).length = (h j).toNat := fun q e => by
      obtain ⟨j1, j2⟩ := J k t ht (lead_nine q)
      have := H.jp k t ht (lead_nine q) j1 j2
      rw [e] at this
      omega
    have lnG : k + 1 = j → (certP t.c a).length = (h j).toNat := fun e => by
      have := H.nx k t ht (by omega)
      rw [e] at this
      omega
    have r0 := r.drop (k := k) (by omega)
    have r1 : Rch (if leadJ t.c a = true then bringT (dropT (dmP l k).1 k) t.a.toNat (certP t.c a) else dropT (dmP l k).1 k) j s := by
      split
      · rename_i q
        exact r0.bring (fun e u hu => by
          have := dd.len j u hu hj
          have := lnJ q e
          omega)
      · exact r0
    have d1 : DIn l h (k + 1) (if leadJ t.c a = true then bringT (dropT (dmP l k).1 k) t.a.toNat (certP t.c a) else dropT (dmP l k).1 k) := by
      split
      · exact jm (by assumption)
      · exact dd
    unfold stepT
    split
    · exact r1.bring (fun e u hu => by
        have := d1.len j u hu hj
        have := lnG e
        omega)
    · exact r1
theorem Rch.upto {l : List InP} {h : Nat → Int} (H : HOk l h) (F : Fil l) (J : Jmp l) {j : Nat} (hj : j < l.length) {s : List Bool} : ∀ (n k : Nat), k + n = j → Rch (dmP l k).1 j s → Rch (dmP l j).1 j s
  | 0, k, e, r => by simp at e; subst e; exact r
  | n + 1, k, e, r => Rch.upto H F J hj n (k + 1) (by omega) (r.next H F J (by omega) hj)
/-- where a run stands. -/
structure RnS (l : List InP) (h : Nat → Int) (k : Nat) (s : List Bool) : Prop where
  lt : k < l.length
  len : (s.length : Int) = h k
  rch : Rch (dmP l k).1 k s
theorem lead_go {c : Nat} {s : List Bool} {a : List Int} (h : Cs s a) (hs : (c = 10 ∨ c = 11) → s.getD (s.length - 1) false ≠ decide (c = 11)) : leadG c a = true := by
  unfold leadG
  have e := h.2 (s.length - 1)
  rw [h.1] at e hs
  generalize s.getD (a.length - 1) false = b at *
  generalize a.getD (a.length - 1) 0 = x at *
  rw [Bool.not_eq_true', Bool.or_eq_false_iff]
  refine ⟨?_, ?_⟩
  · by_cases c1 : c = 10
    · subst c1
      have h1 := hs (Or.inl rfl)
      by_cases q : x = -1
      · exact absurd (e.2 q) (by simpa using h1)
      · simp [q]
    · simp [c1]
  · by_cases c1 : c = 11
    · subst c1
      have h1 := hs (Or.inr rfl)
      by_cases q : x = 1
      · exact absurd (e.1 q) (by simpa using h1)
      · simp [q]
    · simp [c1]
theorem lead_jump {c : Nat} {s : List Bool} {a : List Int} (h : Cs s a) (hc : c = 10 ∨ c = 11) (hs : s.getD (s.length - 1) false = decide (c = 11)) : leadJ c a = true := by
  unfold leadJ
  have e := h.2 (s.length - 1)
  rw [h.1] at e hs
  generalize s.getD (a.length - 1) false = b at *
  generalize a.getD (a.length - 1) 0 = x at *
  rcases hc with rfl | rfl
  · have q : x ≠ 1 := fun q => by rw [e.1 q] at hs; simp at hs
    simp [q]
  · have q : x ≠ -1 := fun q => by rw [e.2 q] at hs; simp at hs
    simp [q]
/-- one instruction more. -/
theorem RnS.step {l : List InP} {h : Nat → Int} (H : HOk l h) (F : Fil l) (J : Jmp l) {k : Nat} {s : List Bool} (r : RnS l h k s) {t : InP} (ht : l[k]? = some t) (b : Bool) {j : Nat}
    (hj : (j = k + 1 ∧ j < l.length ∧ ((t.c = 10 ∨ t.c = 11) → s.getD (s.length - 1) false ≠ decide (t.c = 11))) ∨ (j = t.a.toNat ∧ (t.c = 10 ∨ t.c = 11) ∧ s.getD (s.length - 1) false = decide (t.c = 11))) : k < j ∧ RnS l h j (stepB t.c b s) := by
  obtain ⟨a, hm, hc⟩ := r.rch
  have d := dIn_all H F J k (by have := r.lt; omega)
  obtain ⟨f1, f2⟩ := F k t ht
  have e1 := d.len k a hm r.lt
  have e2 := H.tk k t ht
  have e3 := cert_len (c := t.c) (s := a) f1 f2 (by omega)
  rw [e1] at e3
  have tr := d.tr k a hm
  have dd := d.drop
  have c2 := hc.step tr t.c b
  have sl := step_len (c := t.c) (s := s) b f1 f2 (by have := r.len; omega)
  rw [r.len] at sl
  have jm : leadJ t.c a = true → DIn l h (k + 1) (bringT (dropT (dmP l k).1 k) t.a.toNat (certP t.c a)) := fun q => by
    obtain ⟨j1, j2⟩ := J k t ht (lead_nine q)
    exact dd.bring (by omega) (by omega) (fun _ => by rw [e3]; exact (H.jp k t ht (lead_nine q) j1 j2).symm) (cert_tr tr)
  have d1 : DIn l h (k + 1) (if leadJ t.c a = true then bringT (dropT (dmP l k).1 k) t.a.toNat (certP t.c a) else dropT (dmP l k).1 k) := by
    split
    · exact jm (by assumption)
    · exact dd
  rcases hj with ⟨rfl, hl, hg⟩ | ⟨rfl, h10, hg⟩
  · have g := lead_go hc hg
    have nx := H.nx k t ht hl
    refine ⟨by omega, hl, by rw [sl, nx], ?_⟩
    rw [dmP_some ht hm]
    show Rch (stepT (dmP l k).1 k t a) (k + 1) (stepB t.c b s)
    unfold stepT
    rw [if_pos g]
    exact Rch.brought c2 (fun u hu => by have := d1.len _ u hu hl; omega)
  · have g := lead_jump hc h10 hg
    obtain ⟨j1, j2⟩ := J k t ht (lead_nine g)
    have jp := H.jp k t ht (lead_nine g) j1 j2
    refine ⟨by omega, by omega, by rw [sl, jp], ?_⟩
    refine Rch.upto H F J (by omega) (t.a.toNat - (k + 1)) (k + 1) (by omega) ?_
    rw [dmP_some ht hm]
    show Rch (stepT (dmP l k).1 k t a) t.a.toNat (stepB t.c b s)
    have r1 : Rch (bringT (dropT (dmP l k).1 k) t.a.toNat (certP t.c a)) t.a.toNat (stepB t.c b s) := Rch.brought c2 (fun u hu => by have := dd.len _ u hu (by omega); omega)
    unfold stepT
    rw [if_pos g]
    rw [if_pos g] at d1
    split
    · exact r1.bring (fun e u hu => by
        have q1 := d1.len _ u hu (by omega)
        omega)
    · exact r1
theorem RnS.start {l : List InP} {h : Nat → Int} (H : HOk l h) (hl : 0 < l.length) : RnS l h 0 [] := ⟨hl, by rw [H.z]; rfl, [], by unfold dmP; rfl, rfl, fun k => by simpa using okB_zero _⟩
theorem dead_none {l : List InP} : ∀ k, k ≤ l.length → ∀ j ∈ (dmP l k).2, (dmP l j).1 j = none
  | 0, _, j, hj => by unfold dmP at hj; simp at hj
  | k + 1, hk, j, hj => by
    obtain ⟨t, ht⟩ : ∃ t, l[k]? = some t := ⟨_, List.getElem?_eq_getElem (by omega)⟩
    cases hm : (dmP l k).1 k with
    | none =>
      rw [dmP_none ht hm] at hj
      rcases List.mem_append.1 hj with hj | hj
      · exact dead_none k (by omega) j hj
      · simp at hj; subst hj; exact hm
    | some s => rw [dmP_some ht hm] at hj; exact dead_none k (by omega) j hj
theorem RnS.alive {l : List InP} {h : Nat → Int} {k : Nat} {s : List Bool} (r : RnS l h k s) : k ∉ deadL l := fun hk => by
  obtain ⟨a, h1, _⟩ := r.rch
  rw [dead_none l.length (Nat.le_refl _) k hk] at h1
  cases h1
end Go.Proofs.YtdfnomglkibfbaaGreatDoor.Vf

namespace Go.Proofs.YtdfnomglkibfbaaGreatDoor.Vf
set_option linter.unusedVariables false
set_option linter.unusedSimpArgs false
/-! ### plain: the document's truths: 0 open, 1 never, 2 always -/
def dT (x : Int) : Int := if x = 1 then 2 else if x = -1 then 1 else 0
def notD (x : Int) : Int := if x = 1 then 2 else if x = 2 then 1 else 0
def bothD (x y : Int) : Int := if x = 1 ∨ y = 1 then 1 else if x = 2 ∧ y = 2 then 2 else 0
theorem dT_neg {x : Int} (h : Tr x) : dT (-x) = notD (dT x) := by
  unfold Tr at h
  rcases h with rfl | rfl | rfl <;> rfl
theorem dT_min {x y : Int} (h : Tr x) (h' : Tr y) : dT (minT x y) = bothD (dT x) (dT y) := by
  unfold Tr at h h'
  rcases h with rfl | rfl | rfl <;> rcases h' with rfl | rfl | rfl <;> rfl
theorem dT_max {x y : Int} (h : Tr x) (h' : Tr y) : dT (maxT x y) = notD (bothD (notD (dT x)) (notD (dT y))) := by
  unfold Tr at h h'
  rcases h with rfl | rfl | rfl <;> rcases h' with rfl | rfl | rfl <;> rfl
theorem dT_mT {x y : Int} (h : Tr x) (h' : Tr y) : dT (mT x y) = if dT x ≠ dT y then 0 else dT y := by
  unfold Tr at h h'
  rcases h with rfl | rfl | rfl <;> rcases h' with rfl | rfl | rfl <;> rfl
theorem dT_lt {x : Int} : 0 ≤ dT x ∧ dT x ≤ 2 := by unfold dT; split; omega; split <;> omega
/-- the stack behind, in the document's numbers. -/
def certD (c : Nat) (s : List Int) : List Int :=
  if c = 1 then s ++ [2] else if c = 2 then s ++ [1] else if c = 7 then s.take (s.length - 1) ++ [notD (s.getD (s.length - 1) 0)]
  else if c = 8 then s.take (s.length - 2) ++ [bothD (s.getD (s.length - 2) 0) (s.getD (s.length - 1) 0)]
  else if c = 9 then s.take (s.length - 2) ++ [notD (bothD (notD (s.getD (s.length - 2) 0)) (notD (s.getD (s.length - 1) 0)))]
  else if c = 10 ∨ c = 11 then s else if c = 12 ∨ c = 13 then s.take (s.length - 1) else s ++ [0]
theorem getD_map {s : List Int} (k : Nat) : (s.map dT).getD k 0 = dT (s.getD k 0) := by
  rw [List.getD_eq_getElem?_getD, List.getD_eq_getElem?_getD, List.getElem?_map]
  cases s[k]? <;> rfl
theorem take_last {s : List Int} (h : 1 ≤ s.length) : s.take (s.length - 1) ++ [s.getD (s.length - 1) 0] = s := by
  rw [List.getD_eq_getElem?_getD, List.getElem?_eq_getElem (by omega)]
  simp only [Option.getD_some]
  rw [List.take_append_getElem, show s.length - 1 + 1 = s.length by omega, List.take_length]
theorem certD_eq {c : Nat} {s : List Int} (h1 : 1 ≤ c) (h2 : c ≤ 13) (hs : (rowF c).tk ≤ s.length) (tr : ∀ x ∈ s, Tr x) : certD c (s.map dT) = (certP c s).map dT := by
  have t0 := getD_tr tr (s.length - 1)
  have t1 := getD_tr tr (s.length - 2)
  unfold certD certP
  rw [List.length_map, getD_map, getD_map]
  by_cases c1 : c = 1
  · subst c1; simp [rowF, rowsL, topT, dT]
  by_cases c2 : c = 2
  · subst c2; simp [rowF, rowsL, topT, dT]
  rw [if_neg c1, if_neg c2]
  by_cases c7 : c = 7
  · subst c7
    rw [← dT_neg t0]
    simp [rowF, rowsL, topT]
  rw [if_neg c7]
  by_cases c8 : c = 8
  · subst c8
    have e : s.length - 1 = s.length - 2 + 1 := by simp [rowF, rowsL] at hs; omega
    rw [← dT_min t1 t0, e]
    simp [rowF, rowsL, topT]
  rw [if_neg c8]
  by_cases c9 : c = 9
  · subst c9
    have e : s.length - 1 = s.length - 2 + 1 := by simp [rowF, rowsL] at hs; omega
    rw [← dT_max t1 t0, e]
    simp [rowF, rowsL, topT]
  rw [if_neg c9]
  by_cases c10 : c = 10 ∨ c = 11
  · rw [if_pos c10]
    have e : (rowF c).tk = 1 := by rcases c10 with rfl | rfl <;> rfl
    rw [e] at hs ⊢
    rw [if_neg (by omega)]
    unfold topT
    rw [if_neg c1, if_neg c2, if_neg c7, if_neg c8, if_neg c9, if_pos c10, take_last hs]
  rw [if_neg c10]
  by_cases c12 : c = 12 ∨ c = 13
  · have e : (rowF c).tk = 1 := by rcases c12 with rfl | rfl <;> rfl
    rw [if_pos c12, if_pos c12, e]
    simp
  rw [if_neg c12, if_neg c12]
  have e : (rowF c).tk = 0 := by
    match c, h1, h2 with
    | 3, _, _ | 4, _, _ | 5, _, _ | 6, _, _ => rfl
    | 1, _, _ | 2, _, _ | 7, _, _ | 8, _, _ | 9, _, _ | 10, _, _ | 11, _, _ | 12, _, _ | 13, _, _ => simp at *
    | c + 14, _, h => omega
  unfold topT
  rw [if_neg c1, if_neg c2, if_neg c7, if_neg c8, if_neg c9, if_neg c10, e]
  simp [dT]
def meetD (o : Option (List Int)) (s : List Int) : List Int := match o with
  | none => s
  | some o => List.zipWith (fun x y => if x ≠ y then 0 else y) o s
theorem zip_dT : ∀ {a c : List Int}, (∀ x ∈ a, Tr x) → (∀ x ∈ c, Tr x) → List.zipWith (fun x y => if x ≠ y then 0 else y) (a.map dT) (c.map dT) = (sameT a c).map dT
  | [], c, _, _ => by unfold sameT; simp
  | x :: a, [], _, _ => by unfold sameT; simp
  | x :: a, y :: c, h, h' => by
    have ih := zip_dT (a := a) (c := c) (fun z hz => h z (List.mem_cons_of_mem _ hz)) (fun z hz => h' z (List.mem_cons_of_mem _ hz))
    have e := dT_mT (h x (List.mem_cons_self ..)) (h' y (List.mem_cons_self ..))
    unfold sameT at *
    simp only [List.map_cons, List.zipWith_cons_cons]
    rw [ih, e]
theorem meetD_eq {o : Option (List Int)} {s : List Int} (h : ∀ a, o = some a → ∀ x ∈ a, Tr x) (h' : ∀ x ∈ s, Tr x) : meetD (o.map (List.map dT)) (s.map dT) = (meetT o s).map dT := by
  cases o with
  | none => rfl
  | some a => exact zip_dT (h a rfl) h'
/-- the document's ways on. -/
def waysD (l : List InP) (k : Nat) (t : InP) (s : List Int) : List Nat :=
  if t.c = 10 ∨ t.c = 11 then (if leadG t.c s = true then [k + 1] else []) ++ (if leadJ t.c s = true then [t.a.toNat] else [])
  else if k + 1 < l.length then [k + 1] else []
def bringsT (c : List Int) : List Nat → MpT → MpT
  | [], m => m
  | j :: r, m => bringsT c r (bringT m j c)
/-- the document's, where nothing is taken out. -/
def dmD (l : List InP) : Nat → MpT × List Nat
  | 0 => (fun j => if j = 0 then some [] else none, [])
  | k + 1 => match l[k]? with
    | none => dmD l k
    | some t => match (dmD l k).1 k with
      | none => ((dmD l k).1, (dmD l k).2 ++ [k])
      | some s => (bringsT (certP t.c s) (waysD l k t s) (dmD l k).1, (dmD l k).2)
theorem dmD_none {l : List InP} {k : Nat} {t : InP} (ht : l[k]? = some t) (hm : (dmD l k).1 k = none) : dmD l (k + 1) = ((dmD l k).1, (dmD l k).2 ++ [k]) := by
  show (match l[k]? with | none => dmD l k | some t => match (dmD l k).1 k with | none => ((dmD l k).1, (dmD l k).2 ++ [k]) | some s => (bringsT (certP t.c s) (waysD l k t s) (dmD l k).1, (dmD l k).2)) = _
  rw [ht, hm]
theorem dmD_some {l : List InP} {k : Nat} {t : InP} {s : List Int} (ht : l[k]? = some t) (hm : (dmD l k).1 k = some s) : dmD l (k + 1) = (bringsT (certP t.c s) (waysD l k t s) (dmD l k).1, (dmD l k).2) := by
  show (match l[k]? with | none => dmD l k | some t => match (dmD l k).1 k with | none => ((dmD l k).1, (dmD l k).2 ++ [k]) | some s => (bringsT (certP t.c s) (waysD l k t s) (dmD l k).1, (dmD l k).2)) = _
  rw [ht, hm]
theorem bring_congr {m m' : MpT} {q j : Nat} {c : List Int} (h : m j = m' j) : bringT m q c j = bringT m' q c j := by
  unfold bringT
  by_cases e : j = q
  · subst e; rw [if_pos rfl, if_pos rfl, h]
  · rw [if_neg e, if_neg e, h]
theorem bring_off {m : MpT} {q j : Nat} {c : List Int} (h : j ≠ q) : bringT m q c j = m j := by unfold bringT; rw [if_neg h]
theorem dm_same {l : List InP} (F : Fil l) : ∀ k, k ≤ l.length → (dmD l k).2 = (dmP l k).2 ∧ ∀ j, k ≤ j → j < l.length → (dmD l k).1 j = (dmP l k).1 j
  | 0, _ => ⟨rfl, fun j _ _ => rfl⟩
  | k + 1, hk => by
    obtain ⟨ih1, ih2⟩ := dm_same F k (by omega)
    obtain ⟨t, ht⟩ : ∃ t, l[k]? = some t := ⟨_, List.getElem?_eq_getElem (by omega)⟩
    have ek := ih2 k (Nat.le_refl _) (by omega)
    cases hm : (dmP l k).1 k with
    | none =>
      rw [hm] at ek
      rw [dmP_none ht hm, dmD_none ht ek]
      refine ⟨by rw [ih1], fun j h1 h2 => ?_⟩
      show (dmD l k).1 j = dropT (dmP l k).1 k j
      unfold dropT
      rw [if_neg (by omega)]
      exact ih2 j (by omega) h2
    | some s =>
      rw [hm] at ek
      rw [dmP_some ht hm, dmD_some ht ek]
      refine ⟨ih1, fun j h1 h2 => ?_⟩
      show bringsT (certP t.c s) (waysD l k t s) (dmD l k).1 j = stepT (dmP l k).1 k t s j
      have e0 : (dmD l k).1 j = dropT (dmP l k).1 k j := by
        unfold dropT
        rw [if_neg (by omega)]
        exact ih2 j (by omega) h2
      unfold waysD stepT
      by_cases c10 : t.c = 10 ∨ t.c = 11
      · rw [if_pos c10]
        by_cases g : leadG t.c s = true
        · rw [if_pos g, if_pos g]
          by_cases g2 : leadJ t.c s = true
          · rw [if_pos g2, if_pos g2]
            show bringT (bringT (dmD l k).1 (k + 1) _) t.a.toNat _ j = _
            rw [bringT_comm]
            exact bring_congr (bring_congr e0)
          · rw [if_neg g2, if_neg g2]
            exact bring_congr e0
        · rw [if_neg g, if_neg g]
          by_cases g2 : leadJ t.c s = true
          · rw [if_pos g2, if_pos g2]
            exact bring_congr e0
          · rw [if_neg g2, if_neg g2]
            exact e0
      · rw [if_neg c10]
        have g2 : ¬ leadJ t.c s = true := fun q => by
          unfold leadJ at q
          simp only [Bool.or_eq_true, Bool.and_eq_true, beq_iff_eq] at q
          rcases q with ⟨q, _⟩ | ⟨q, _⟩
          · exact c10 (Or.inl q)
          · exact c10 (Or.inr q)
        have g : leadG t.c s = true := by
          unfold leadG
          have q1 : (t.c == 10) = false := beq_eq_false_iff_ne.2 (fun q => c10 (Or.inl q))
          have q2 : (t.c == 11) = false := beq_eq_false_iff_ne.2 (fun q => c10 (Or.inr q))
          rw [q1, q2]; rfl
        rw [if_neg g2, if_pos g]
        by_cases hl : k + 1 < l.length
        · rw [if_pos hl]
          exact bring_congr e0
        · rw [if_neg hl, bring_off (by omega)]
          exact e0
theorem dead_same {l : List InP} (F : Fil l) : (dmD l l.length).2 = deadL l := (dm_same F l.length (Nat.le_refl _)).1
end Go.Proofs.YtdfnomglkibfbaaGreatDoor.Vf

namespace Go.Proofs.YtdfnomglkibfbaaGreatDoor.Vf
open Go.RowKit Go.Maps
set_option linter.unusedVariables false
set_option linter.unusedSimpArgs false
set_option maxRecDepth 100000
/-! ### a map of places to stacks of truths -/
theorem ownsMap_norm' {P : Program} {k : TypeId} {R : Value → Option (DataW Unit × List MemPlace)} {w : World} {b n : Nat} {D : DataW Unit} (h : w.ownsMap P k R b n D) : w.ownsMap P k R b (Maps.size D) D := ownsMap_norm h
/-- how a slice is written down. -/
def encS : Value → Option (DataW Unit × List MemPlace)
  | .slice none n c => some (.agg [.lit (.int .i64 (n : Int)), .lit (.int .i64 (c : Int))], [])
  | .slice (some ⟨b, off, none⟩) n c => some (.agg [.lit (.int .i64 (b : Int)), .lit (.int .i64 (off : Int)), .lit (.int .i64 (n : Int)), .lit (.int .i64 (c : Int))], [])
  | _ => none
theorem encS_none (n c : Nat) : encS (.slice none n c) = some (.agg [.lit (.int .i64 (n : Int)), .lit (.int .i64 (c : Int))], []) := rfl
theorem encS_some (b off n c : Nat) : encS (.slice (some ⟨b, off, none⟩) n c) = some (.agg [.lit (.int .i64 (b : Int)), .lit (.int .i64 (off : Int)), .lit (.int .i64 (n : Int)), .lit (.int .i64 (c : Int))], []) := rfl
/-- an address as they come. -/
def Plc (a : Option Addr) : Prop := a = none ∨ ∃ b off, a = some ⟨b, off, none⟩
theorem encS_is {v : Value} {d : DataW Unit} {p : List MemPlace} (h : encS v = some (d, p)) : ∃ a n c, v = .slice a n c ∧ Plc a := by
  unfold encS at h
  split at h
  · exact ⟨_, _, _, rfl, Or.inl rfl⟩
  · exact ⟨_, _, _, rfl, Or.inr ⟨_, _, rfl⟩⟩
  · cases h
theorem encS_inj {u v : Value} {d : DataW Unit} {p q : List MemPlace} (h : encS u = some (d, p)) (h' : encS v = some (d, q)) : u = v := by
  obtain ⟨a, n, c, rfl, ha⟩ := encS_is h
  obtain ⟨a', n', c', rfl, ha'⟩ := encS_is h'
  rcases ha with rfl | ⟨b, off, rfl⟩ <;> rcases ha' with rfl | ⟨b', off', rfl⟩
  · rw [encS_none] at h h'
    injection h with h; injection h' with h'
    have h := (congrArg Prod.fst h).trans (congrArg Prod.fst h').symm
    simp at h
    obtain ⟨h1, h2⟩ := h
    rw [Int.ofNat_inj.1 h1, Int.ofNat_inj.1 h2]
  · rw [encS_none] at h
    rw [encS_some] at h'
    injection h with h; injection h' with h'
    have h := (congrArg Prod.fst h).trans (congrArg Prod.fst h').symm
    simp at h
  · rw [encS_some] at h
    rw [encS_none] at h'
    injection h with h; injection h' with h'
    have h := (congrArg Prod.fst h).trans (congrArg Prod.fst h').symm
    simp at h
  · rw [encS_some] at h h'
    injection h with h; injection h' with h'
    have h := (congrArg Prod.fst h).trans (congrArg Prod.fst h').symm
    simp at h
    obtain ⟨h1, h2, h3, h4⟩ := h
    rw [Int.ofNat_inj.1 h1, Int.ofNat_inj.1 h2, Int.ofNat_inj.1 h3, Int.ofNat_inj.1 h4]
theorem encS_mk {a : Option Addr} (h : Plc a) (n c : Nat) : ∃ d, encS (.slice a n c) = some (d, []) := by
  rcases h with rfl | ⟨b, off, rfl⟩
  · exact ⟨_, rfl⟩
  · exact ⟨_, rfl⟩
theorem trs_zero (w : World) : (zeroValue 139).run Tryz.prog w = .ok (.slice none 0 0) w := by
  have h : (Tryz.prog.info? 139).map (fun i => i.zero) = some (some (.slice none 0 0)) := by kernel_rfl
  obtain ⟨i, i1, i0⟩ := Option.map_eq_some_iff.1 h
  simp [zeroValue, typeInfo, i1, i0]
/-- where a stack may lie. -/
def Sit (w : World) (mb : Nat) (g : Option Nat) (a : Option Addr) (s : List Int) : Prop := Plc a ∧ T8.In w a s ∧ ∀ x, a = some x → x.block ≠ mb ∧ some x.block ≠ g ∧ x.block < w.heap.size
theorem Sit.kept {w w' : World} {mb : Nat} {g g' : Option Nat} {a : Option Addr} {s : List Int} (h : Sit w mb g a s) (hz : w.heap.size ≤ w'.heap.size) (hk : ∀ b, b < w.heap.size → b ≠ mb → some b ≠ g → w'.heap[b]? = w.heap[b]?) (hg : g' = g ∨ ∃ k, g' = some k ∧ w.heap.size ≤ k) : Sit w' mb g' a s := by
  obtain ⟨h1, h2, h3⟩ := h
  refine ⟨h1, ?_, fun x hx => ?_⟩
  · rcases h2 with h2 | ⟨b, off, e, hb, hc⟩
    · exact Or.inl h2
    · obtain ⟨n1, n2, n3⟩ := h3 _ e
      refine Or.inr ⟨b, off, e, Nat.lt_of_lt_of_le hb hz, fun i t ht => ?_⟩
      rw [World.cell?_of_block (w := w) (hk b hb n1 n2)]; exact hc i t ht
  · obtain ⟨n1, n2, n3⟩ := h3 x hx
    refine ⟨n1, ?_, by omega⟩
    rcases hg with rfl | ⟨k, rfl, hk⟩
    · exact n2
    · intro e; injection e with e; omega
/-- the map: what m says of each place, c entries; g is where none lies. -/
def MT (w : World) (mb : Nat) (m : MpT) (c : Nat) (g : Option Nat) : Prop := ∃ (D : DataW Unit) (V : Nat → Option Addr × Nat), w.ownsMap Tryz.prog 3 encS mb c D ∧ Maps.size D = c ∧ ∀ k : Nat, k ≤ 4611686018427387904 → has D (.int .i64 (k : Int)) = (m k).isSome ∧ ∀ s, m k = some s → (∃ d, encS (.slice (V k).1 s.length (V k).2) = some (d, []) ∧ ∀ z, D.atKey (.int .i64 (k : Int)) z = d) ∧ s.length ≤ (V k).2 ∧ Sit w mb g (V k).1 s
theorem MT.lt {w : World} {mb c : Nat} {m : MpT} {g : Option Nat} (h : MT w mb m c g) : mb < w.heap.size := by obtain ⟨D, V, h1, _⟩ := h; exact h1.lt
theorem MT.kept {w w' : World} {mb c : Nat} {m : MpT} {g g' : Option Nat} (h : MT w mb m c g) (hz : w.heap.size ≤ w'.heap.size) (hmb : some mb ≠ g) (hk : ∀ b, b < w.heap.size → some b ≠ g → w'.heap[b]? = w.heap[b]?) (hg : g' = g ∨ ∃ k, g' = some k ∧ w.heap.size ≤ k) : MT w' mb m c g' := by
  have hlt := h.lt
  obtain ⟨D, V, ⟨es, clock, h1, h2⟩, h3, h4⟩ := h
  exact ⟨D, V, ⟨es, clock, (hk mb hlt hmb).trans h1, h2⟩, h3, fun k hkk => ⟨(h4 k hkk).1, fun s hs => ⟨((h4 k hkk).2 s hs).1, ((h4 k hkk).2 s hs).2.1, ((h4 k hkk).2 s hs).2.2.kept hz (fun b hb _ hn => hk b hb hn) hg⟩⟩⟩
theorem MT.below {w w' : World} {mb c : Nat} {m : MpT} {g : Option Nat} (h : MT w mb m c g) (hmb : some mb ≠ g) (hb : Below w.heap.size w w') : MT w' mb m c g := h.kept hb.size hmb (fun b h1 _ => hb.block b h1) (Or.inl rfl)
theorem MT.start (w : World) : MT (w.alloc (.map #[] 0)) w.heap.size (fun _ => none) 0 none := ⟨.map [], fun _ => (none, 0), World.ownsMap_made w Tryz.prog 3 _, rfl, fun s _ => ⟨rfl, fun s h => by cases h⟩⟩
def putT (m : MpT) (k : Nat) (s : List Int) (j : Nat) : Option (List Int) := if j = k then some s else m j
theorem MT.put {w : World} {mb c : Nat} {m : MpT} {g : Option Nat} (h : MT w mb m c g) (k : Nat) (hk : k ≤ 4611686018427387904) {a : Option Addr} {s : List Int} (cc : Nat) (hcc : s.length ≤ cc) (hs : Sit w mb g a s) (hc : c < 4611686018427387904) :
    ∃ w', (Instr.mapUpdate 138 (.map (some mb)) (.int .i64 (k : Int)) (.slice a s.length cc)).run Tryz.prog w = .ok () w' ∧ (∃ c', c' ≤ c + 1 ∧ MT w' mb (putT m k s) c' g) ∧ w.grownBy w' (some mb) ∧ ∀ a, w'.frozen? a = w.frozen? a := by
  obtain ⟨D, V, hown, hsz, hD⟩ := h
  have hml : maxLen = 9223372036854775807 := by decide
  obtain ⟨d, hd⟩ := encS_mk hs.1 s.length cc
  obtain ⟨w', hr, ho, hg⟩ := hown.store int_key Tryz.underlying138 (by omega) (key_int hk) hd
  have ht := hown.tidy int_key
  have hsz2 := size_put ht (k := .int .i64 (k : Int)) d
  rw [hsz] at hsz2
  have hi' : IsMap D := hown.isMap
  have kp : ∀ b, b < w.heap.size → b ≠ mb → w'.heap[b]? = w.heap[b]? := fun b hb hn => hg.grown.block b hb (fun e => by injection e with e; exact hn e)
  refine ⟨w', hr, ⟨_, ?_, ⟨_, fun j => if j = k then (a, cc) else V j, ownsMap_norm' ho, rfl, fun t htl => ?_⟩⟩, hg.grown, fun a => hg.frozen a⟩
  · rw [hsz2]; split <;> omega
  · unfold putT
    by_cases e : t = k
    · subst e
      simp only [if_true]
      refine ⟨has_put_same hi' (isKeyI _) _, fun u hu => ?_⟩
      injection hu with hu
      subst hu
      exact ⟨⟨d, hd, fun z => atKey_put_same hi' (isKeyI _) _ z⟩, hcc, hs.kept hg.grown.size (fun b hb hn _ => kp b hb hn) (Or.inl rfl)⟩
    · simp only [if_neg e]
      have hne := int_ne e
      refine ⟨by rw [has_put_other hne]; exact (hD t htl).1, fun u hu => ?_⟩
      obtain ⟨⟨d', q1, q2⟩, q4, q3⟩ := (hD t htl).2 u hu
      exact ⟨⟨d', q1, fun z => by rw [atKey_put_other hne]; exact q2 z⟩, q4, q3.kept hg.grown.size (fun b hb hn _ => kp b hb hn) (Or.inl rfl)⟩
theorem MT.del {w : World} {mb c : Nat} {m : MpT} {g : Option Nat} (h : MT w mb m c g) (k : Nat) (hk : k ≤ 4611686018427387904) (ty : TypeId) :
    ∃ w', (Builtin.delete_ #[138, 3] ty #[.map (some mb), .int .i64 (k : Int)]).run Tryz.prog w = .ok (.tuple #[]) w' ∧ (∃ c', c' ≤ c ∧ MT w' mb (dropT m k) c' g) ∧ w.grownBy w' (some mb) ∧ ∀ a, w'.frozen? a = w.frozen? a := by
  obtain ⟨D, V, hown, hsz, hD⟩ := h
  obtain ⟨w', hr, ho, hg⟩ := hown.drop int_key Tryz.underlying138 (key_int hk) ty
  have ht := hown.tidy int_key
  have hsz2 := size_del ht (k := .int .i64 (k : Int))
  rw [hsz] at hsz2
  have kp : ∀ b, b < w.heap.size → b ≠ mb → w'.heap[b]? = w.heap[b]? := fun b hb hn => hg.grown.block b hb (fun e => by injection e with e; exact hn e)
  refine ⟨w', hr, ⟨_, ?_, ⟨_, V, ownsMap_norm' ho, rfl, fun t htl => ?_⟩⟩, hg.grown, fun a => hg.frozen a⟩
  · split at hsz2 <;> omega
  · unfold dropT
    by_cases e : t = k
    · subst e
      simp only [if_true]
      exact ⟨has_del_same, fun u hu => by cases hu⟩
    · simp only [if_neg e]
      have hne := int_ne e
      refine ⟨by rw [has_del_other hne]; exact (hD t htl).1, fun u hu => ?_⟩
      obtain ⟨⟨d', q1, q2⟩, q4, q3⟩ := (hD t htl).2 u hu
      exact ⟨⟨d', q1, fun z => by rw [atKey_del_other hne]; exact q2 z⟩, q4, q3.kept hg.grown.size (fun b hb hn _ => kp b hb hn) (Or.inl rfl)⟩
/-- what is told of a place. -/
def Lkd (w : World) (mb : Nat) (g : Option Nat) (o : Option (List Int)) (v : Value) (b : Bool) : Prop := match o with
  | none => v = .slice none 0 0 ∧ b = false
  | some s => b = true ∧ ∃ a cc, v = .slice a s.length cc ∧ s.length ≤ cc ∧ Sit w mb g a s
theorem MT.look {w : World} {mb c : Nat} {m : MpT} {g : Option Nat} (h : MT w mb m c g) (k : Nat) (hk : k ≤ 4611686018427387904) :
    ∃ v b, (Instr.lookup 138 (.map (some mb)) (.int .i64 (k : Int)) true).run Tryz.prog w = .ok (.tuple #[v, .bool b]) w ∧ Lkd w mb g (m k) v b := by
  obtain ⟨D, V, hown, hsz, hD⟩ := h
  obtain ⟨v, ps, hr, hv⟩ := hown.look_ok int_key Tryz.underlying138 (trs_zero w) (encS_none 0 0) (key_int hk)
  obtain ⟨h1, h2⟩ := hD k hk
  refine ⟨v, _, hr, ?_⟩
  rw [h1]
  cases q : m k with
  | none =>
    rw [q] at h1
    rw [atKey_of_not_has h1] at hv
    exact ⟨encS_inj hv (encS_none 0 0), rfl⟩
  | some s =>
    obtain ⟨⟨d, q1, q2⟩, q4, q3⟩ := h2 s q
    rw [q2] at hv
    exact ⟨rfl, _, _, encS_inj hv q1, q4, q3⟩
end Go.Proofs.YtdfnomglkibfbaaGreatDoor.Vf

namespace Go.Proofs.YtdfnomglkibfbaaGreatDoor.Vf
open Go.RowKit
set_option linter.unusedVariables false
set_option linter.unusedSimpArgs false
set_option maxRecDepth 100000
/-! ### what is certain on both of two ways -/
def mixT (a b : List Int) (k : Nat) : List Int := (sameT a b).take k ++ a.drop k
theorem mix_get {a b : List Int} (hl : a.length = b.length) {k : Nat} (hk : k ≤ a.length) (j : Nat) : (mixT a b k)[j]? = if j < k then (sameT a b)[j]? else a[j]? := by
  unfold mixT
  have e : (sameT a b).length = a.length := by rw [sameT_len hl, hl]
  by_cases h : j < k
  · rw [if_pos h, List.getElem?_append_left (by rw [List.length_take, e]; omega), List.getElem?_take, if_pos h]
  · rw [if_neg h, List.getElem?_append_right (by rw [List.length_take, e]; omega), List.getElem?_drop, List.length_take, e, Nat.min_eq_left hk]
    congr 1
    omega
theorem mix_len {a b : List Int} (hl : a.length = b.length) {k : Nat} (hk : k ≤ a.length) : (mixT a b k).length = a.length := by
  unfold mixT
  rw [List.length_append, List.length_take, List.length_drop, sameT_len hl]
  omega
theorem mix_next {a b : List Int} (hl : a.length = b.length) {k : Nat} {x y : Int} (hx : a[k]? = some x) (hy : b[k]? = some y) : mixT a b (k + 1) = (mixT a b k).set k (mT x y) := by
  have hk : k < a.length := (List.getElem?_eq_some_iff.1 hx).1
  apply List.ext_getElem?
  intro j
  rw [List.getElem?_set, mix_get hl (by omega), mix_get hl (by omega), mix_len hl (by omega)]
  by_cases e : k = j
  · subst e
    rw [if_pos (by omega), if_pos rfl, if_pos hk]
    unfold sameT
    rw [List.getElem?_zipWith, hx, hy]
  · rw [if_neg e]
    by_cases c : j < k
    · rw [if_pos (by omega), if_pos c]
    · rw [if_neg (by omega), if_neg c]
theorem mix_same {a b : List Int} (hl : a.length = b.length) {k : Nat} {x : Int} (hx : a[k]? = some x) (hy : b[k]? = some x) : mixT a b (k + 1) = mixT a b k := by
  have hk : k < a.length := (List.getElem?_eq_some_iff.1 hx).1
  rw [mix_next hl hx hy]
  apply List.ext_getElem?
  intro j
  rw [List.getElem?_set, mix_len hl (by omega)]
  by_cases e : k = j
  · subst e
    rw [if_pos rfl, if_pos hk, mix_get hl (by omega), if_neg (by omega), hx]
    simp [mT]
  · rw [if_neg e]
theorem mix_end {a b : List Int} (hl : a.length = b.length) : mixT a b a.length = sameT a b := by
  unfold mixT
  rw [List.drop_length, List.append_nil, List.take_of_length_le]
  rw [sameT_len hl]; omega
theorem mix_zero (a b : List Int) : mixT a b 0 = a := by unfold mixT; simp
set_option maxHeartbeats 8000000 in
theorem sameTruths_any (a b : List Int) (hl : a.length = b.length) (hn : a.length ≤ 65536) (x y : Option Addr) (cx cy : Nat) (w : World) (hx : T8.In w x a) (hy : T8.In w y b) :
    Calls Tryz.prog 87 #[.slice x a.length cx, .slice y a.length cy] w fun e w' => ∃ v, e = .returned v ∧ T8.OE w' w.heap.size v (sameT a b) ∧ Below w.heap.size w w' := by
  have CC0 := T8.clone_any x cx a w hx (by omega)
  have hyH : Hid (T8.In w y b) := hy
  obtain ⟨n, hnn⟩ : ∃ n, a.length = n := ⟨_, rfl⟩
  have naH : Hid (n = a.length) := hnn.symm
  have hlH : Hid (a.length = b.length) := hl
  rw [hnn] at CC0 hn ⊢
  have CC : Hid (Calls Tryz.prog 118 #[.slice x n cx] w fun e w' => ∃ v, e = .returned v ∧ T8.OE w' w.heap.size v a ∧ Below w.heap.size w w') := CC0
  clear CC0 hx hy hnn hl
  go_enter Tryz.func87, Tryz.ntmps87
  go_wp2_with fail
  with_reducible refine Calls.mono CC.out ?_
  rintro e w1 ⟨v, rfl, o1, b1⟩
  clear CC
  obtain ⟨a1, c1, hv, hc1, pl1⟩ : ∃ a1 c1, v = .slice a1 n c1 ∧ n ≤ c1 ∧ (n = 0 ∨ ∃ g, a1 = some ⟨g, 0, none⟩ ∧ w.heap.size ≤ g) := by
    obtain ⟨a1, c1, h1, h2, h3, h4⟩ := o1.ein
    rw [← naH.out] at h1 h2
    refine ⟨a1, c1, h1, h2, ?_⟩
    rcases h4 with h4 | ⟨g, h4, h5, _⟩
    · subst h4
      exact Or.inl (by rw [naH.out, h3.emp]; rfl)
    · exact Or.inr ⟨g, h4, h5⟩
  subst hv
  have o1H : Hid (T8.OE w1 w.heap.size (.slice a1 n c1) a ∧ Below w.heap.size w w1) := ⟨o1, b1⟩
  clear o1 b1
  go_wp2_with fail
  go_loopw [12] (fun v12 wr => ∃ k : Nat, v12 = .int .i64 (k : Int) ∧ k ≤ n ∧ Hid (T8.OE wr w.heap.size (.slice a1 n c1) (mixT a b k) ∧ Below w.heap.size w wr)) (fun v12 _ => n - (intOf v12).toNat)
  case atStart => exact ⟨0, rfl, Nat.zero_le _, by rw [mix_zero]; exact o1H⟩
  case round =>
    clear o1H
    obtain ⟨k, rfl, hkn, hO⟩ := hrel
    have k0 : (0 : Int) ≤ (k : Int) := by omega
    by_cases hk : k < n
    · have kI : (k : Int) < (n : Int) := by omega
      have kw : IntKind.i64.wrap ((k : Int) + 1) = ((k + 1 : Nat) : Int) := IntWalk.i64_in _ (by omega)
      rcases pl1 with pl1 | ⟨g, rfl, hg⟩
      · omega
      have hyr := hyH.out.below hO.out.2 (Nat.le_refl _)
      obtain ⟨yb, yo, tb, eb, rfl, _, cb⟩ := hyr.get (k := k) (by rw [← hlH.out, ← naH.out]; exact hk)
      obtain ⟨ta, ea⟩ : ∃ ta, a[k]? = some ta := ⟨_, List.getElem?_eq_getElem (by rw [← naH.out]; exact hk)⟩
      have em : (mixT a b k)[k]? = some ta := by rw [mix_get hlH.out (by rw [← naH.out]; omega), if_neg (by omega)]; exact ea
      have ca := hO.out.1.cell em
      have fa := hO.out.1.fz k
      unfold T8.vl at ca cb
      by_cases hq : ta = tb
      · subst hq
        have NX : Hid (T8.OE wr w.heap.size (.slice (some ⟨g, 0, none⟩) n c1) (mixT a b (k + 1)) ∧ Below w.heap.size w wr) := by
          rw [mix_same hlH.out ea eb]; exact hO
        clear em ea eb hyr hO hyH
        go_wp2_with fail
        exact ⟨⟨k + 1, by first | rfl | (rw [kw]), hk, NX⟩, by first | (simp [intOf]; done) | (simp [intOf]; omega)⟩
      · have NX : Hid (T8.OE (wr.setCell ⟨g, k, none⟩ (.int .i8 0)) w.heap.size (.slice (some ⟨g, 0, none⟩) n c1) (mixT a b (k + 1)) ∧ Below w.heap.size w (wr.setCell ⟨g, k, none⟩ (.int .i8 0))) := by
          rw [mix_next hlH.out ea eb]
          have e0 : mT ta tb = 0 := by unfold mT; rw [if_neg hq]
          rw [e0]
          exact ⟨(hO.out.1.set k 0).1, hO.out.2.setCell (p := ⟨g, k, none⟩) hg _⟩
        clear em ea eb hyr hO hyH
        go_wp2_with fail
        exact ⟨⟨k + 1, by first | rfl | (rw [kw]), hk, NX⟩, by first | (simp [intOf]; done) | (simp [intOf]; omega)⟩
    · have kI : ¬ (k : Int) < (n : Int) := by omega
      have fin : Hid (T8.OE wr w.heap.size (.slice a1 n c1) (sameT a b) ∧ Below w.heap.size w wr) := by
        have e : k = a.length := by rw [← naH.out]; omega
        have := hO.out
        rw [e, mix_end hlH.out] at this
        exact this
      clear hO hyH
      go_wp2_with fail
      go_ret
      exact ⟨_, rfl, fin.out⟩
end Go.Proofs.YtdfnomglkibfbaaGreatDoor.Vf

namespace Go.Proofs.YtdfnomglkibfbaaGreatDoor.Vf
open Go.RowKit Go.Maps
set_option linter.unusedVariables false
set_option linter.unusedSimpArgs false
set_option maxRecDepth 100000
theorem Lkd.kept {w w' : World} {mb : Nat} {g : Option Nat} {o : Option (List Int)} {v : Value} {b : Bool} (h : Lkd w mb g o v b) (hg : w.grownBy w' (some mb)) : Lkd w' mb g o v b := by
  unfold Lkd at *
  cases o with
  | none => exact h
  | some s =>
    obtain ⟨h1, a, cc, h2, h3, h4⟩ := h
    exact ⟨h1, a, cc, h2, h3, h4.kept hg.size (fun b hb hn _ => hg.block b hb (fun e => by injection e with e; exact hn e)) (Or.inl rfl)⟩
theorem take_tr {w : World} {mb c : Nat} {m : MpT} {g : Option Nat} (h : MT w mb m c g) (k : Nat) (hk : k ≤ 4611686018427387904) : Calls Tryz.prog 83 #[.map (some mb), .int .i64 (k : Int)] w fun e w' => ∃ v b, e = .returned (.tuple #[v, .bool b]) ∧ Lkd w' mb g (m k) v b ∧ (∃ c', c' ≤ c ∧ MT w' mb (dropT m k) c' g) ∧ w.grownBy w' (some mb) := by
  obtain ⟨v, b, r, l⟩ := h.look k hk
  obtain ⟨w', r2, m2, g2, z2⟩ := h.del k hk 0
  have fin : Hid (Lkd w' mb g (m k) v b ∧ (∃ c', c' ≤ c ∧ MT w' mb (dropT m k) c' g) ∧ w.grownBy w' (some mb)) := ⟨l.kept g2, m2, g2⟩
  clear m2 g2 z2 h l
  go_enter Tryz.func83, Tryz.ntmps83
  go_wp2
  go_returns
  exact ⟨_, _, rfl, fin.out⟩
theorem bring_put (m : MpT) (k : Nat) (s : List Int) : bringT m k s = putT m k (meetT (m k) s) := by
  funext j
  unfold bringT putT
  rfl
theorem bne_dec (t k : Int) : (t != k) = !decide (t = k) := by by_cases h : t = k <;> simp [h]
set_option maxHeartbeats 4000000 in
theorem bring_tr {w : World} {mb c : Nat} {m : MpT} {g : Option Nat} (h : MT w mb m c g) (hmb : some mb ≠ g) (hg : ∀ x, g = some x → x < w.heap.size) (k : Nat) (hk : k ≤ 4611686018427387904) {a : Option Addr} {s : List Int} {cc : Nat} (hcc : s.length ≤ cc) (hs : Sit w mb g a s) (hm : ∀ o, m k = some o → o.length = s.length) (hn : s.length ≤ 65536) (hc : c < 4611686018427387904) :
    Calls Tryz.prog 86 #[.map (some mb), .int .i64 (k : Int), .slice a s.length cc, .func (.func 87) #[] #[]] w fun e w' => e = .returned (.tuple #[]) ∧ (∃ c', c' ≤ c + 1 ∧ MT w' mb (bringT m k s) c' g) ∧ w.grownBy w' (some mb) := by
  obtain ⟨v, b, r, l⟩ := h.look k hk
  rw [bring_put]
  cases q : m k with
  | none =>
    rw [q] at l
    obtain ⟨rfl, rfl⟩ := l
    obtain ⟨w', r2, m2, g2, z2⟩ := h.put k hk cc hcc hs hc
    have fin : Hid ((∃ c', c' ≤ c + 1 ∧ MT w' mb (putT m k (meetT none s)) c' g) ∧ w.grownBy w' (some mb)) := ⟨m2, g2⟩
    clear m2 g2 z2 h hs hm q
    generalize s.length = n at *
    go_enter Tryz.func86, Tryz.ntmps86
    go_wp2
    go_returns
    exact ⟨rfl, fin.out⟩
  | some o =>
    rw [q] at l
    obtain ⟨rfl, a2, c2, rfl, l2, l3⟩ := l
    have eo := hm o q
    have cS0 := sameTruths_any o s eo (by omega) a2 a c2 cc w l3.2.1 hs.2.1
    have nx : ∀ v w1, T8.OE w1 w.heap.size v (sameT o s) → Below w.heap.size w w1 → ∃ w', (Instr.mapUpdate 138 (.map (some mb)) (.int .i64 (k : Int)) v).run Tryz.prog w1 = .ok () w' ∧ Hid ((∃ c', c' ≤ c + 1 ∧ MT w' mb (putT m k (meetT (some o) s)) c' g) ∧ w.grownBy w' (some mb)) := fun v w1 ho hb => by
      obtain ⟨a1, c1, h1, h2, h3, h4⟩ := ho.ein
      have hlt := h.lt
      obtain ⟨w', r2, m2, g2, z2⟩ := (h.below hmb hb).put k hk (a := a1) (s := sameT o s) c1 h2 ⟨by
        rcases h4 with h4 | ⟨x, h4, _⟩
        · exact Or.inl h4
        · exact Or.inr ⟨x, 0, h4⟩, h3, fun x hx => by
        rcases h4 with h4 | ⟨y, h4, h5, h6⟩
        · rw [h4] at hx; cases hx
        · rw [h4] at hx
          injection hx with hx
          subst hx
          refine ⟨?_, ?_, h6⟩
          · show y ≠ mb; omega
          · intro e
            have := hg y e.symm
            omega⟩ hc
      rw [← h1] at r2
      exact ⟨w', r2, m2, ⟨g2.os.trans hb.os, g2.tape.trans hb.tape, g2.output.trans hb.output, Nat.le_trans hb.size g2.size, fun i hi hne => (g2.block i (Nat.lt_of_lt_of_le hi hb.size) hne).trans (hb.block i hi)⟩⟩
    have nxH : Hid _ := nx
    rw [eo] at r cS0
    have cS : Hid (Calls Tryz.prog 87 #[.slice a2 s.length c2, .slice a s.length cc] w fun e w' => ∃ v, e = .returned v ∧ T8.OE w' w.heap.size v (sameT o s) ∧ Below w.heap.size w w') := cS0
    clear cS0 nx h hs hm q l3 l2 eo
    generalize s.length = n at *
    go_enter Tryz.func86, Tryz.ntmps86
    go_wp2_with fail
    with_reducible refine Calls.mono cS.out ?_
    rintro e w1 ⟨v, rfl, o1, b1⟩
    obtain ⟨w2, r2, fin⟩ := nxH.out v w1 o1 b1
    clear cS nxH o1 b1 r
    go_wp2_with fail
    go_returns
    exact ⟨rfl, fin.out⟩
theorem leads_any {s : List Int} (c : Nat) (hs : (c = 10 ∨ c = 11) → 1 ≤ s.length) (hn : s.length ≤ 65536) (a : Option Addr) (cc : Nat) (w : World) (h : T8.In w a s) : Calls Tryz.prog 85 #[.slice a s.length cc, .int .u8 c] w fun e w' => e = .returned (.tuple #[.bool (leadJ c s), .bool (leadG c s)]) ∧ w' = w := by
  by_cases c0 : c = 10 ∨ c = 11
  · have h1 := hs c0
    obtain ⟨b, off, t, et, rfl, _, cb⟩ := h.get (k := s.length - 1) (by omega)
    have e : s.getD (s.length - 1) 0 = t := by rw [List.getD_eq_getElem?_getD, et]; rfl
    unfold T8.vl at cb
    obtain ⟨m, hm⟩ : ∃ m, s.length = m + 1 := ⟨s.length - 1, by omega⟩
    have hw : IntKind.i64.wrap (((m + 1 : Nat) : Int) - 1) = (m : Int) := by rw [show ((m + 1 : Nat) : Int) - 1 = (m : Int) by omega]; exact IntWalk.i64_in _ (by omega)
    have m0 : (0 : Int) ≤ (m : Int) := by omega
    have m1 : (m : Int) < ((m + 1 : Nat) : Int) := by omega
    unfold leadJ leadG
    rw [e]
    rw [hm] at cb ⊢
    simp only [Nat.add_sub_cancel] at cb
    clear e et h hs h1
    rcases c0 with rfl | rfl
    · go_enter Tryz.func85, Tryz.ntmps85
      go_wp2
      go_returns
      exact ⟨by simp [bne_dec], rfl⟩
    · go_enter Tryz.func85, Tryz.ntmps85
      go_wp2
      go_returns
      exact ⟨by simp [bne_dec], rfl⟩
  · have q1 : ((c : Int) == 10) = false := by rw [beq_eq_false_iff_ne]; omega
    have q2 : ((c : Int) == 11) = false := by rw [beq_eq_false_iff_ne]; omega
    have e1 : leadJ c s = false := by
      unfold leadJ
      rw [beq_eq_false_iff_ne.2 (fun q => c0 (Or.inl q)), beq_eq_false_iff_ne.2 (fun q => c0 (Or.inr q))]; rfl
    have e2 : leadG c s = true := by
      unfold leadG
      rw [beq_eq_false_iff_ne.2 (fun q => c0 (Or.inl q)), beq_eq_false_iff_ne.2 (fun q => c0 (Or.inr q))]; rfl
    rw [e1, e2]
    have n1 : ¬ (c : Int) = 10 := by omega
    have n2 : ¬ (c : Int) = 11 := by omega
    clear hs h e1 e2 c0
    go_enter Tryz.func85, Tryz.ntmps85
    go_wp2
    go_returns
    exact ⟨rfl, rfl⟩
end Go.Proofs.YtdfnomglkibfbaaGreatDoor.Vf

namespace Go.Proofs.YtdfnomglkibfbaaGreatDoor.Vf.I6
open Go.RowKit
set_option linter.unusedVariables false
set_option linter.unusedSimpArgs false
set_option maxRecDepth 100000
def vl (x : Int) : Value := .int .i64 x
theorem tp : Tp 39 3 1 8 := by
  have hi : (Tryz.prog.info? 3).map (fun i => (i.zero, i.bytes, i.size)) = some (some (.int .i64 0), 8, 1) := by kernel_rfl
  obtain ⟨i, i1, i0⟩ := Option.map_eq_some_iff.1 hi
  exact ⟨i, _, Tryz.underlying39, i1, congrArg (·.1) i0, congrArg (·.2.2) i0, congrArg (·.2.1) i0, rfl, by omega⟩
/-- in memory. -/
def In (w : World) (a : Option Addr) (l : List Int) : Prop := l = [] ∨ ∃ b off, a = some ⟨b, off, none⟩ ∧ b < w.heap.size ∧ ∀ i t, l[i]? = some t → w.cell? ⟨b, off + i, none⟩ = some (vl t)
theorem In.below {w w' : World} {a : Option Addr} {l : List Int} {n : Nat} (h : In w a l) (hb : Below n w w') (hn : w.heap.size ≤ n) : In w' a l := by
  rcases h with h | ⟨b, off, h1, h2, h3⟩
  · exact Or.inl h
  · exact Or.inr ⟨b, off, h1, Nat.lt_of_lt_of_le h2 hb.size, fun i t ht => by rw [hb.cell (p := ⟨b, off + i, none⟩) (Nat.lt_of_lt_of_le h2 hn)]; exact h3 i t ht⟩
theorem In.emp {w : World} {l : List Int} (h : In w none l) : l = [] := by
  rcases h with h | ⟨b, off, h1, _⟩
  · exact h
  · cases h1
theorem In.get {w : World} {a : Option Addr} {l : List Int} (h : In w a l) {k : Nat} (hk : k < l.length) : ∃ b off t, l[k]? = some t ∧ a = some ⟨b, off, none⟩ ∧ b < w.heap.size ∧ w.cell? ⟨b, off + k, none⟩ = some (vl t) := by
  obtain ⟨t, ht⟩ : ∃ t, l[k]? = some t := ⟨_, List.getElem?_eq_getElem hk⟩
  rcases h with h | ⟨b, off, h1, h2, h3⟩
  · rw [h] at hk; simp at hk
  · exact ⟨b, off, t, ht, h1, h2, h3 k t ht⟩
theorem In.take {w : World} {a : Option Addr} {l : List Int} (h : In w a l) (n : Nat) : In w a (l.take n) := by
  rcases h with h | ⟨b, off, h1, h2, h3⟩
  · rw [h]; exact Or.inl (by simp)
  · exact Or.inr ⟨b, off, h1, h2, fun i t ht => h3 i t (by rw [List.getElem?_take] at ht; split at ht; exact ht; cases ht)⟩
theorem In.news {w : World} {a : Option Addr} {l : List Int} (h : In w a l) (ad : Addr) (e : a = some ad) : ∀ j u, (l.map vl)[j]? = some u → w.cell? (ad.add j) = some u := fun j u hj => by
  rw [List.getElem?_map, Option.map_eq_some_iff] at hj
  obtain ⟨t, ht, rfl⟩ := hj
  rcases h with h | ⟨b, off, h1, h2, h3⟩
  · rw [h] at ht; simp at ht
  · rw [e] at h1
    injection h1 with h1
    subst h1
    rw [add_at0]
    exact h3 j t ht
/-- one's own. -/
def OE (w : World) (B : Nat) (v : Value) (l : List Int) : Prop := w.ownsRow B 3 1 v l.length (l.map vl)
theorem OE.ein {w : World} {B : Nat} {v : Value} {l : List Int} (h : OE w B v l) : ∃ a cap, v = .slice a l.length cap ∧ l.length ≤ cap ∧ In w a l ∧ (a = none ∨ ∃ b, a = some ⟨b, 0, none⟩ ∧ B ≤ b ∧ b < w.heap.size) := by
  rcases h.2 with ⟨e, e0⟩ | ⟨g, cap, cur, e1, hB, hg, hc, _⟩
  · exact ⟨none, 0, by rw [e, e0], by omega, Or.inl (List.eq_nil_of_length_eq_zero e0), Or.inl rfl⟩
  · subst e1
    have hcs := World.ownsRow.cells h (g := g) rfl
    have hlt := (World.ownsRow.lt h g rfl).2
    refine ⟨some ⟨g, 0, none⟩, cap, rfl, hc, Or.inr ⟨g, 0, rfl, hlt, fun i s hs => ?_⟩, Or.inr ⟨g, rfl, hB, hlt⟩⟩
    have k1 := hcs i (vl s) (by rw [List.getElem?_map, hs]; rfl)
    rw [add_at0, Nat.zero_add] at k1
    rw [Nat.zero_add]
    exact k1
theorem OE.nil (w : World) (B : Nat) : OE w B (.slice none 0 0) [] := ⟨rfl, Or.inl ⟨rfl, rfl⟩⟩
theorem OE.below {w w' : World} {B C : Nat} {v : Value} {l : List Int} (h : OE w B v l) (hb : Below C w w') (hC : w.heap.size ≤ C) : OE w' B v l := by
  refine ⟨h.1, ?_⟩
  rcases h.2 with h2 | ⟨g, cap, cur, e1, e2, e3, e4⟩
  · exact Or.inl h2
  · exact Or.inr ⟨g, cap, cur, e1, e2, by rw [hb.block g (Nat.lt_of_lt_of_le (Array.getElem?_eq_some_iff.1 e3).1 hC)]; exact e3, e4⟩
theorem OE.bound {w : World} {B : Nat} {v : Value} {l : List Int} (h : OE w B v l) {k : Nat} (e : v.ownBlock = some k) : B ≤ k ∧ k < w.heap.size := by
  rcases h.2 with ⟨e1, e0⟩ | ⟨g, cap, cur, e1, _, hg, hc, _⟩
  · rw [e1] at e; cases e
  · subst e1
    have : g = k := by simpa [Value.ownBlock] using e
    subst this
    exact World.ownsRow.lt h g rfl
theorem OE.mono {w : World} {B C : Nat} {v : Value} {l : List Int} (h : OE w B v l) (hC : C ≤ B) : OE w C v l := by
  refine ⟨h.1, ?_⟩
  rcases h.2 with h2 | ⟨g, cap, cur, e1, e2, e3⟩
  · exact Or.inl h2
  · exact Or.inr ⟨g, cap, cur, e1, Nat.le_trans hC e2, e3⟩
/-- another block changes. -/
theorem OE.keep {w w' : World} {B : Nat} {v : Value} {l : List Int} (h : OE w B v l) (hk : ∀ k, v.ownBlock = some k → w'.heap[k]? = w.heap[k]?) : OE w' B v l := by
  refine ⟨h.1, ?_⟩
  rcases h.2 with h2 | ⟨g, cap, cur, e1, e2, e3, e4⟩
  · exact Or.inl h2
  · exact Or.inr ⟨g, cap, cur, e1, e2, by rw [hk g (by rw [e1]; rfl)]; exact e3, e4⟩
theorem OE.cell {w : World} {B g n c : Nat} {l : List Int} (h : OE w B (.slice (some ⟨g, 0, none⟩) n c) l) {k : Nat} {t : Int} (ht : l[k]? = some t) : w.cell? ⟨g, k, none⟩ = some (vl t) := by
  have k1 := World.ownsRow.cells h (g := g) rfl k (vl t) (by rw [List.getElem?_map, ht]; rfl)
  rw [add_at0, Nat.zero_add] at k1
  exact k1
theorem OE.fz {w : World} {B g n c : Nat} {l : List Int} (h : OE w B (.slice (some ⟨g, 0, none⟩) n c) l) (k : Nat) : w.frozen? ⟨g, k, none⟩ = false := by
  rcases h.2 with ⟨e, _⟩ | ⟨g', cap, cur, e1, _, hg, _⟩
  · simp at e
  · injection e1 with e1
    injection e1 with e1
    injection e1 with e1
    subst e1
    exact frozen_of_row _ g k _ _ hg
theorem OE.set {w : World} {B g n c : Nat} {l : List Int} (h : OE w B (.slice (some ⟨g, 0, none⟩) n c) l) (k : Nat) (x : Int) : OE (w.setCell ⟨g, k, none⟩ (vl x)) B (.slice (some ⟨g, 0, none⟩) n c) (l.set k x) ∧ w.grownBy (w.setCell ⟨g, k, none⟩ (vl x)) (some g) := by
  obtain rfl : n = l.length := by
    rcases h.2 with ⟨e, _⟩ | ⟨g', cap, cur, e1, _⟩
    · simp at e
    · simp at e1; exact e1.2.1
  have := World.ownsRow.stored h k (vl x)
  refine ⟨?_, this.2⟩
  unfold OE
  rw [List.length_set, List.map_set]
  exact this.1
theorem OE.empty (w : World) : OE (w.alloc (.cells #[] 3)) w.heap.size (.slice (some ⟨w.heap.size, 0, none⟩) 0 0) [] := ⟨by simp, Or.inr ⟨w.heap.size, 0, #[], rfl, Nat.le_refl _, heap_alloc_new w _, Nat.le_refl _, by omega, by simp, by simp⟩⟩
theorem app_no (W : World) (a ad : Option Addr) (n cap c : Nat) (ty : TypeId) (h : n ≤ cap) : (Builtin.append_ #[39, 39] ty #[.slice a n cap, .slice ad 0 c]).run Tryz.prog W = .ok (.slice a n cap) W := by
  obtain ⟨i, z, t1, t2, t3, t4, t5, t6, t7⟩ := tp
  cases a <;> cases ad <;> simp [Builtin.append_, run_underlying t1, sizeOf, typeInfo, t2, Builtin.lenOf, Builtin.firstCells, storeCells, loadCells, loadCellsFrom, h]
/-- some appended, or none. -/
theorem app (W : World) (B : Nat) (v : Value) (l f : List Int) (h : OE W B v l) (hB : B ≤ W.heap.size) (a : Option Addr) (c : Nat) (ty : TypeId) (hf : In W a f) (hn : l.length + f.length ≤ 4398046511104) :
    ∃ v' w', (Builtin.append_ #[39, 39] ty #[v, .slice a f.length c]).run Tryz.prog W = .ok v' w' ∧ OE w' B v' (l ++ f) ∧ W.grownBy w' v.ownBlock ∧ (v'.ownBlock = v.ownBlock ∨ v'.ownBlock = some W.heap.size) := by
  rcases Nat.eq_zero_or_pos f.length with h0 | h0
  · have e := List.eq_nil_of_length_eq_zero h0
    subst e
    obtain ⟨a1, c1, e1, hc1, _⟩ := h.ein
    exact ⟨v, W, by rw [e1]; exact app_no _ _ _ _ _ _ _ hc1, by rw [List.append_nil]; exact h, ⟨rfl, rfl, rfl, Nat.le_refl _, fun k hk hne => rfl⟩, Or.inl rfl⟩
  · have hf' := hf
    rcases hf with e | ⟨b, off, e, hb, hc⟩
    · rw [e] at h0; simp at h0
    · subst e
      obtain ⟨i, z, t1, t2, t3, t4, t5, t6, t7⟩ := tp
      have hml : maxLen = 9223372036854775807 := by decide
      obtain ⟨g, cap, w', hr, own, gr, hat, hlt⟩ := run_append_lies (P := Tryz.prog) W 39 ty B 3 i z 1 8 t1 t2 t3 t4 t5 t6 t7 v l.length (l.map vl) h ⟨b, off, none⟩ f.length c (f.map vl) (by simp) (hf'.news _ rfl) (fun u hu => by obtain ⟨t, _, rfl⟩ := List.mem_map.1 hu; rfl) h0 (by omega) (by omega) hB _ rfl
      refine ⟨_, w', hr, ?_, gr, ?_⟩
      · unfold OE; rw [List.length_append, List.map_append]; exact own
      · rcases hat with e | e
        · exact Or.inl e.symm
        · subst e; exact Or.inr rfl
theorem grown_below {W w' : World} {B : Nat} {v : Value} {l : List Int} (h : OE W B v l) (hB : B ≤ W.heap.size) (gr : W.grownBy w' v.ownBlock) : Below B W w' := (Below.refl B W).grown gr hB (fun k e => (h.bound e).1)
/-- one appended. -/
theorem app_one (W : World) (B : Nat) (v : Value) (l : List Int) (h : OE W B v l) (hB : B ≤ W.heap.size) (x : Int) (ty : TypeId) (hn : l.length + 1 ≤ 4398046511104) :
    ∃ v' w', (Builtin.append_ #[39, 39] ty #[v, .slice (some ⟨W.heap.size, 0, none⟩) 1 1]).run Tryz.prog (W.alloc (.cells #[vl x] 3)) = .ok v' w' ∧ OE w' B v' (l ++ [x]) ∧ (W.alloc (.cells #[vl x] 3)).grownBy w' v.ownBlock ∧ Below B W w' ∧ (v'.ownBlock = v.ownBlock ∨ v'.ownBlock = some (W.heap.size + 1)) := by
  have b0 : Below W.heap.size W (W.alloc (.cells #[vl x] 3)) := (Below.refl _ W).alloc (Nat.le_refl _) _
  have h1 := h.below b0 (Nat.le_refl _)
  have hs : (W.alloc (.cells #[vl x] 3)).heap.size = W.heap.size + 1 := by simp
  obtain ⟨v', w', hr, ho, hg, hat⟩ := app _ B v l [x] h1 (by omega) (some ⟨W.heap.size, 0, none⟩) 1 ty (Or.inr ⟨W.heap.size, 0, rfl, by omega, fun i t ht => by
    cases i with
    | zero => simp at ht; subst ht; simp [go_sem]
    | succ i => simp at ht⟩) (by simpa using hn)
  rw [hs] at hat
  exact ⟨v', w', hr, ho, hg, (b0.mono hB).trans (grown_below h1 (by omega) hg), hat⟩
end Go.Proofs.YtdfnomglkibfbaaGreatDoor.Vf.I6

namespace Go.Proofs.YtdfnomglkibfbaaGreatDoor.Vf
open Go.RowKit
set_option linter.unusedVariables false
set_option linter.unusedSimpArgs false
set_option maxRecDepth 100000
/-! ### plain: what a program that passes is -/
theorem of_one {c : Nat} (h : (rowF c).of = 1) : 1 ≤ c ∧ c ≤ 13 := by
  rcases Nat.lt_or_ge 24 c with q | q
  · rw [row_big q] at h; simp [noR] at h
  · match c, q with
    | 0, _ | 14, _ | 15, _ | 16, _ | 17, _ | 18, _ | 19, _ | 20, _ | 21, _ | 22, _ | 23, _ | 24, _ => simp [rowF, rowsL, noR] at h
    | 1, _ | 2, _ | 3, _ | 4, _ | 5, _ | 6, _ | 7, _ | 8, _ | 9, _ | 10, _ | 11, _ | 12, _ | 13, _ => omega
    | c + 25, q => omega
theorem fil_of {z : SzP} {acc : List AcP} {l : List InP} (h : eachP z true acc l = none) : Fil l := by
  unfold eachP at h
  cases q : firstBad (fun k i => badP z (if true = true then 1 else 2) k ((l.length : Int) - 1) (raOf acc i.a i.b) i) l 0 with
  | some x => rw [q] at h; simp at h
  | none =>
    intro j t ht
    have := badP_of (firstBad_none l 0 q j t ht)
    simp only [if_true] at this
    exact of_one (by omega)
structure Pas (p : PrH) (q : PrL) : Prop where
  hd : hdB p q = true
  e1 : eachP p.sz true q.accs q.filter = none
  e2 : eachP p.sz false q.accs q.output = none
  h1 : (hgtP q.filter 0 m0 []).2 = none
  h2 : (hgtP q.output 0 m0 []).2 = none
theorem pas_of {p : PrH} {q : PrL} (h : resP p q = none) : Pas p q := by
  unfold resP resOf at h
  cases hd : hdB p q with
  | false => rw [hd] at h; simp at h
  | true =>
    rw [hd] at h
    simp only [Bool.true_eq_false, if_false] at h
    cases e1 : eachP p.sz true q.accs q.filter with
    | some y => rw [e1] at h; simp at h
    | none =>
      rw [e1] at h
      simp only at h
      cases e2 : eachP p.sz false q.accs q.output with
      | some y => rw [e2] at h; simp at h
      | none =>
        rw [e2] at h
        simp only at h
        cases h1 : (hgtP q.filter 0 m0 []).2 with
        | some k => rw [h1] at h; simp at h
        | none =>
          rw [h1] at h
          simp only at h
          cases h2 : (hgtP q.output 0 m0 []).2 with
          | some k => rw [h2] at h; simp at h
          | none => exact ⟨hd, e1, e2, h1, h2⟩
/-- how high the stack is, ahead of each instruction of a filter. -/
def hF (l : List InP) (j : Nat) : Int := (hgtP l 0 m0 []).1.getD j 0
theorem Pas.hok {p : PrH} {q : PrL} (h : Pas p q) : HOk q.filter (hF q.filter) := hok_of (Or.inl (by unfold m0; rfl)) h.h1
theorem Pas.fil {p : PrH} {q : PrL} (h : Pas p q) : Fil q.filter := fil_of h.e1
theorem Pas.jmp {p : PrH} {q : PrL} (h : Pas p q) : Jmp q.filter := fun j t ht a9 => (fmd_of h.e1).jump j t ht a9
theorem Pas.pos {p : PrH} {q : PrL} (h : Pas p q) : 0 < q.filter.length := (fmd_of h.e1).pos
theorem en_is {c : Nat} (h1 : 1 ≤ c) (h2 : c ≤ 13) : (rowF c).en = true ↔ c = 13 := by
  match c, h1, h2 with
  | 1, _, _ | 2, _, _ | 3, _, _ | 4, _, _ | 5, _, _ | 6, _, _ | 7, _, _ | 8, _, _ | 9, _, _ | 10, _, _ | 11, _, _ | 12, _, _ | 13, _, _ => simp [rowF, rowsL]
  | c + 14, _, h => omega
theorem Pas.ends {p : PrH} {q : PrL} (h : Pas p q) {j : Nat} {t : InP} (ht : q.filter[j]? = some t) : t.c = 13 ↔ j + 1 = q.filter.length := by
  obtain ⟨f1, f2⟩ := h.fil j t ht
  have f := fmd_of h.e1
  rw [← en_is f1 f2]
  exact ⟨f.ends j t ht, f.more j t ht⟩
theorem Pas.len {p : PrH} {q : PrL} (h : Pas p q) (hN : PrN p q) : q.filter.length ≤ 65536 := by
  have := h.hd
  unfold hdB at this
  simp only [Bool.and_eq_true, decide_eq_true_eq] at this
  omega
/-- no stack is too high. -/
theorem HOk.low {l : List InP} {h : Nat → Int} (H : HOk l h) (k : Nat) (hk : k < l.length) : h k ≤ 202 := by
  obtain ⟨t, ht⟩ : ∃ t, l[k]? = some t := ⟨_, List.getElem?_eq_getElem hk⟩
  have h1 := H.mx k t ht
  have h2 : (rowF t.c).tk ≤ 2 := by
    rcases Nat.lt_or_ge 24 t.c with q | q
    · rw [row_big q]; simp [noR]
    · generalize t.c = c at q
      match c, q with
      | 0, _ | 1, _ | 2, _ | 3, _ | 4, _ | 5, _ | 6, _ | 7, _ | 8, _ | 9, _ | 10, _ | 11, _ | 12, _ | 13, _ | 14, _ | 15, _ | 16, _ | 17, _ | 18, _ | 19, _ | 20, _ | 21, _ | 22, _ | 23, _ | 24, _ => simp [rowF, rowsL, noR]
      | c + 25, q => omega
  unfold bhd at h1
  omega
end Go.Proofs.YtdfnomglkibfbaaGreatDoor.Vf

namespace Go.Proofs.YtdfnomglkibfbaaGreatDoor.Vf.BL
open Go.RowKit
set_option linter.unusedVariables false
set_option linter.unusedSimpArgs false
set_option maxRecDepth 100000
def vl (x : Bool) : Value := .bool x
theorem tp : Tp 49 4 1 1 := by
  have hi : (Tryz.prog.info? 4).map (fun i => (i.zero, i.bytes, i.size)) = some (some (.bool false), 1, 1) := by kernel_rfl
  obtain ⟨i, i1, i0⟩ := Option.map_eq_some_iff.1 hi
  exact ⟨i, _, Tryz.underlying49, i1, congrArg (·.1) i0, congrArg (·.2.2) i0, congrArg (·.2.1) i0, rfl, by omega⟩
/-- in memory. -/
def In (w : World) (a : Option Addr) (l : List Bool) : Prop := l = [] ∨ ∃ b off, a = some ⟨b, off, none⟩ ∧ b < w.heap.size ∧ ∀ i t, l[i]? = some t → w.cell? ⟨b, off + i, none⟩ = some (vl t)
theorem In.below {w w' : World} {a : Option Addr} {l : List Bool} {n : Nat} (h : In w a l) (hb : Below n w w') (hn : w.heap.size ≤ n) : In w' a l := by
  rcases h with h | ⟨b, off, h1, h2, h3⟩
  · exact Or.inl h
  · exact Or.inr ⟨b, off, h1, Nat.lt_of_lt_of_le h2 hb.size, fun i t ht => by rw [hb.cell (p := ⟨b, off + i, none⟩) (Nat.lt_of_lt_of_le h2 hn)]; exact h3 i t ht⟩
theorem In.emp {w : World} {l : List Bool} (h : In w none l) : l = [] := by
  rcases h with h | ⟨b, off, h1, _⟩
  · exact h
  · cases h1
theorem In.get {w : World} {a : Option Addr} {l : List Bool} (h : In w a l) {k : Nat} (hk : k < l.length) : ∃ b off t, l[k]? = some t ∧ a = some ⟨b, off, none⟩ ∧ b < w.heap.size ∧ w.cell? ⟨b, off + k, none⟩ = some (vl t) := by
  obtain ⟨t, ht⟩ : ∃ t, l[k]? = some t := ⟨_, List.getElem?_eq_getElem hk⟩
  rcases h with h | ⟨b, off, h1, h2, h3⟩
  · rw [h] at hk; simp at hk
  · exact ⟨b, off, t, ht, h1, h2, h3 k t ht⟩
theorem In.take {w : World} {a : Option Addr} {l : List Bool} (h : In w a l) (n : Nat) : In w a (l.take n) := by
  rcases h with h | ⟨b, off, h1, h2, h3⟩
  · rw [h]; exact Or.inl (by simp)
  · exact Or.inr ⟨b, off, h1, h2, fun i t ht => h3 i t (by rw [List.getElem?_take] at ht; split at ht; exact ht; cases ht)⟩
theorem In.news {w : World} {a : Option Addr} {l : List Bool} (h : In w a l) (ad : Addr) (e : a = some ad) : ∀ j u, (l.map vl)[j]? = some u → w.cell? (ad.add j) = some u := fun j u hj => by
  rw [List.getElem?_map, Option.map_eq_some_iff] at hj
  obtain ⟨t, ht, rfl⟩ := hj
  rcases h with h | ⟨b, off, h1, h2, h3⟩
  · rw [h] at ht; simp at ht
  · rw [e] at h1
    injection h1 with h1
    subst h1
    rw [add_at0]
    exact h3 j t ht
/-- one's own. -/
def OE (w : World) (B : Nat) (v : Value) (l : List Bool) : Prop := w.ownsRow B 4 1 v l.length (l.map vl)
theorem OE.ein {w : World} {B : Nat} {v : Value} {l : List Bool} (h : OE w B v l) : ∃ a cap, v = .slice a l.length cap ∧ l.length ≤ cap ∧ In w a l ∧ (a = none ∨ ∃ b, a = some ⟨b, 0, none⟩ ∧ B ≤ b ∧ b < w.heap.size) := by
  rcases h.2 with ⟨e, e0⟩ | ⟨g, cap, cur, e1, hB, hg, hc, _⟩
  · exact ⟨none, 0, by rw [e, e0], by omega, Or.inl (List.eq_nil_of_length_eq_zero e0), Or.inl rfl⟩
  · subst e1
    have hcs := World.ownsRow.cells h (g := g) rfl
    have hlt := (World.ownsRow.lt h g rfl).2
    refine ⟨some ⟨g, 0, none⟩, cap, rfl, hc, Or.inr ⟨g, 0, rfl, hlt, fun i s hs => ?_⟩, Or.inr ⟨g, rfl, hB, hlt⟩⟩
    have k1 := hcs i (vl s) (by rw [List.getElem?_map, hs]; rfl)
    rw [add_at0, Nat.zero_add] at k1
    rw [Nat.zero_add]
    exact k1
theorem OE.nil (w : World) (B : Nat) : OE w B (.slice none 0 0) [] := ⟨rfl, Or.inl ⟨rfl, rfl⟩⟩
theorem OE.below {w w' : World} {B C : Nat} {v : Value} {l : List Bool} (h : OE w B v l) (hb : Below C w w') (hC : w.heap.size ≤ C) : OE w' B v l := by
  refine ⟨h.1, ?_⟩
  rcases h.2 with h2 | ⟨g, cap, cur, e1, e2, e3, e4⟩
  · exact Or.inl h2
  · exact Or.inr ⟨g, cap, cur, e1, e2, by rw [hb.block g (Nat.lt_of_lt_of_le (Array.getElem?_eq_some_iff.1 e3).1 hC)]; exact e3, e4⟩
theorem OE.bound {w : World} {B : Nat} {v : Value} {l : List Bool} (h : OE w B v l) {k : Nat} (e : v.ownBlock = some k) : B ≤ k ∧ k < w.heap.size := by
  rcases h.2 with ⟨e1, e0⟩ | ⟨g, cap, cur, e1, _, hg, hc, _⟩
  · rw [e1] at e; cases e
  · subst e1
    have : g = k := by simpa [Value.ownBlock] using e
    subst this
    exact World.ownsRow.lt h g rfl
theorem OE.mono {w : World} {B C : Nat} {v : Value} {l : List Bool} (h : OE w B v l) (hC : C ≤ B) : OE w C v l := by
  refine ⟨h.1, ?_⟩
  rcases h.2 with h2 | ⟨g, cap, cur, e1, e2, e3⟩
  · exact Or.inl h2
  · exact Or.inr ⟨g, cap, cur, e1, Nat.le_trans hC e2, e3⟩
/-- another block changes. -/
theorem OE.keep {w w' : World} {B : Nat} {v : Value} {l : List Bool} (h : OE w B v l) (hk : ∀ k, v.ownBlock = some k → w'.heap[k]? = w.heap[k]?) : OE w' B v l := by
  refine ⟨h.1, ?_⟩
  rcases h.2 with h2 | ⟨g, cap, cur, e1, e2, e3, e4⟩
  · exact Or.inl h2
  · exact Or.inr ⟨g, cap, cur, e1, e2, by rw [hk g (by rw [e1]; rfl)]; exact e3, e4⟩
theorem OE.cell {w : World} {B g n c : Nat} {l : List Bool} (h : OE w B (.slice (some ⟨g, 0, none⟩) n c) l) {k : Nat} {t : Bool} (ht : l[k]? = some t) : w.cell? ⟨g, k, none⟩ = some (vl t) := by
  have k1 := World.ownsRow.cells h (g := g) rfl k (vl t) (by rw [List.getElem?_map, ht]; rfl)
  rw [add_at0, Nat.zero_add] at k1
  exact k1
theorem OE.fz {w : World} {B g n c : Nat} {l : List Bool} (h : OE w B (.slice (some ⟨g, 0, none⟩) n c) l) (k : Nat) : w.frozen? ⟨g, k, none⟩ = false := by
  rcases h.2 with ⟨e, _⟩ | ⟨g', cap, cur, e1, _, hg, _⟩
  · simp at e
  · injection e1 with e1
    injection e1 with e1
    injection e1 with e1
    subst e1
    exact frozen_of_row _ g k _ _ hg
theorem OE.set {w : World} {B g n c : Nat} {l : List Bool} (h : OE w B (.slice (some ⟨g, 0, none⟩) n c) l) (k : Nat) (x : Bool) : OE (w.setCell ⟨g, k, none⟩ (vl x)) B (.slice (some ⟨g, 0, none⟩) n c) (l.set k x) ∧ w.grownBy (w.setCell ⟨g, k, none⟩ (vl x)) (some g) := by
  obtain rfl : n = l.length := by
    rcases h.2 with ⟨e, _⟩ | ⟨g', cap, cur, e1, _⟩
    · simp at e
    · simp at e1; exact e1.2.1
  have := World.ownsRow.stored h k (vl x)
  refine ⟨?_, this.2⟩
  unfold OE
  rw [List.length_set, List.map_set]
  exact this.1
theorem OE.empty (w : World) : OE (w.alloc (.cells #[] 4)) w.heap.size (.slice (some ⟨w.heap.size, 0, none⟩) 0 0) [] := ⟨by simp, Or.inr ⟨w.heap.size, 0, #[], rfl, Nat.le_refl _, heap_alloc_new w _, Nat.le_refl _, by omega, by simp, by simp⟩⟩
theorem app_no (W : World) (a ad : Option Addr) (n cap c : Nat) (ty : TypeId) (h : n ≤ cap) : (Builtin.append_ #[49, 49] ty #[.slice a n cap, .slice ad 0 c]).run Tryz.prog W = .ok (.slice a n cap) W := by
  obtain ⟨i, z, t1, t2, t3, t4, t5, t6, t7⟩ := tp
  cases a <;> cases ad <;> simp [Builtin.append_, run_underlying t1, sizeOf, typeInfo, t2, Builtin.lenOf, Builtin.firstCells, storeCells, loadCells, loadCellsFrom, h]
/-- some appended, or none. -/
theorem app (W : World) (B : Nat) (v : Value) (l f : List Bool) (h : OE W B v l) (hB : B ≤ W.heap.size) (a : Option Addr) (c : Nat) (ty : TypeId) (hf : In W a f) (hn : l.length + f.length ≤ 4398046511104) :
    ∃ v' w', (Builtin.append_ #[49, 49] ty #[v, .slice a f.length c]).run Tryz.prog W = .ok v' w' ∧ OE w' B v' (l ++ f) ∧ W.grownBy w' v.ownBlock ∧ (v'.ownBlock = v.ownBlock ∨ v'.ownBlock = some W.heap.size) := by
  rcases Nat.eq_zero_or_pos f.length with h0 | h0
  · have e := List.eq_nil_of_length_eq_zero h0
    subst e
    obtain ⟨a1, c1, e1, hc1, _⟩ := h.ein
    exact ⟨v, W, by rw [e1]; exact app_no _ _ _ _ _ _ _ hc1, by rw [List.append_nil]; exact h, ⟨rfl, rfl, rfl, Nat.le_refl _, fun k hk hne => rfl⟩, Or.inl rfl⟩
  · have hf' := hf
    rcases hf with e | ⟨b, off, e, hb, hc⟩
    · rw [e] at h0; simp at h0
    · subst e
      obtain ⟨i, z, t1, t2, t3, t4, t5, t6, t7⟩ := tp
      have hml : maxLen = 9223372036854775807 := by decide
      obtain ⟨g, cap, w', hr, own, gr, hat, hlt⟩ := run_append_lies (P := Tryz.prog) W 49 ty B 4 i z 1 1 t1 t2 t3 t4 t5 t6 t7 v l.length (l.map vl) h ⟨b, off, none⟩ f.length c (f.map vl) (by simp) (hf'.news _ rfl) (fun u hu => by obtain ⟨t, _, rfl⟩ := List.mem_map.1 hu; rfl) h0 (by omega) (by omega) hB _ rfl
      refine ⟨_, w', hr, ?_, gr, ?_⟩
      · unfold OE; rw [List.length_append, List.map_append]; exact own
      · rcases hat with e | e
        · exact Or.inl e.symm
        · subst e; exact Or.inr rfl
theorem grown_below {W w' : World} {B : Nat} {v : Value} {l : List Bool} (h : OE W B v l) (hB : B ≤ W.heap.size) (gr : W.grownBy w' v.ownBlock) : Below B W w' := (Below.refl B W).grown gr hB (fun k e => (h.bound e).1)
/-- one appended. -/
theorem app_one (W : World) (B : Nat) (v : Value) (l : List Bool) (h : OE W B v l) (hB : B ≤ W.heap.size) (x : Bool) (ty : TypeId) (hn : l.length + 1 ≤ 4398046511104) :
    ∃ v' w', (Builtin.append_ #[49, 49] ty #[v, .slice (some ⟨W.heap.size, 0, none⟩) 1 1]).run Tryz.prog (W.alloc (.cells #[vl x] 4)) = .ok v' w' ∧ OE w' B v' (l ++ [x]) ∧ (W.alloc (.cells #[vl x] 4)).grownBy w' v.ownBlock ∧ Below B W w' ∧ (v'.ownBlock = v.ownBlock ∨ v'.ownBlock = some (W.heap.size + 1)) := by
  have b0 : Below W.heap.size W (W.alloc (.cells #[vl x] 4)) := (Below.refl _ W).alloc (Nat.le_refl _) _
  have h1 := h.below b0 (Nat.le_refl _)
  have hs : (W.alloc (.cells #[vl x] 4)).heap.size = W.heap.size + 1 := by simp
  obtain ⟨v', w', hr, ho, hg, hat⟩ := app _ B v l [x] h1 (by omega) (some ⟨W.heap.size, 0, none⟩) 1 ty (Or.inr ⟨W.heap.size, 0, rfl, by omega, fun i t ht => by
    cases i with
    | zero => simp at ht; subst ht; simp [go_sem]
    | succ i => simp at ht⟩) (by simpa using hn)
  rw [hs] at hat
  exact ⟨v', w', hr, ho, hg, (b0.mono hB).trans (grown_below h1 (by omega) hg), hat⟩
end Go.Proofs.YtdfnomglkibfbaaGreatDoor.Vf.BL
