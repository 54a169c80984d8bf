
import Derived.Test.YtbojljmacheccaaGreatDoorLaK
namespace Go.Proofs.YtbojljmacheccaaGreatDoor.Lo
open Go.RowKit Go.Shelf _root_.Go.Proofs.YtbojljmacheccaaGreatDoor.Ln
attribute [local go_sem] Oper.semAt_some
set_option linter.unusedVariables false
set_option linter.unusedSimpArgs false
set_option maxRecDepth 100000
/-! ### points in a row of one's own, their tags and fields in rows of one's own. -/
def vT (t : PtQ) : Value := .slice t.ta t.p.t.length t.tc
def vF (t : PtQ) : Value := .slice t.fa t.p.f.length t.fc
def ownQ (t : PtQ) (q : Nat) : Prop := (vT t).ownBlock = some q ∨ (vF t).ownBlock = some q
structure OPl (W : World) (B : Nat) (v : Value) (L : List PtQ) : Prop where
  own : W.ownsRow B 32 4 v L.length (encQ L)
  dt : ∀ t ∈ L, OT W B (vT t) t.p.t ∧ OF W B (vF t) t.p.f
  sz : ∀ t ∈ L, t.p.t.length ≤ 1048576 ∧ t.p.f.length ≤ 1048576
  df : ∀ t ∈ L, ∀ q, (vT t).ownBlock = some q → (vF t).ownBlock ≠ some q
  dv : ∀ t ∈ L, ∀ q, ownQ t q → v.ownBlock ≠ some q
  pw : L.Pairwise fun s t => ∀ q, ownQ s q → ¬ ownQ t q
theorem ptIn_dt {W : World} {B : Nat} {t : PtQ} (h : OT W B (vT t) t.p.t ∧ OF W B (vF t) t.p.f) (s : t.p.t.length ≤ 1048576 ∧ t.p.f.length ≤ 1048576) : PtIn W t.ta t.fa t.fc t.p := by
  obtain ⟨a1, c1, e1, _, h1⟩ := h.1.tin
  obtain ⟨a2, c2, e2, l2, h2⟩ := h.2.tin
  unfold vT at e1
  unfold vF at e2
  injection e1 with e1 _ _
  injection e2 with e2 _ e3
  subst e1 e2 e3
  exact ⟨h1, Nat.le_trans s.1 (by decide), h2, Nat.le_trans s.2 (by decide), l2⟩
theorem ownT_at {W : World} {B : Nat} {t : PtQ} (h : OT W B (vT t) t.p.t) (hl : t.p.t ≠ []) {q : Addr} (e : t.ta = some q) : (vT t).ownBlock = some q.block := by
  obtain ⟨g, cap, e1, _, _⟩ := World.ownsRow.form h (List.length_pos_iff.2 hl)
  unfold vT at e1 ⊢
  injection e1 with e1 _ _
  rw [e] at e1 ⊢
  injection e1 with e1
  subst e1
  rfl
theorem ownF_at {W : World} {B : Nat} {t : PtQ} (h : OF W B (vF t) t.p.f) (hl : t.p.f ≠ []) {q : Addr} (e : t.fa = some q) : (vF t).ownBlock = some q.block := by
  obtain ⟨g, cap, e1, _, _⟩ := World.ownsRow.form h (List.length_pos_iff.2 hl)
  unfold vF at e1 ⊢
  injection e1 with e1 _ _
  rw [e] at e1 ⊢
  injection e1 with e1
  subst e1
  rfl
theorem OPl.all {W : World} {B : Nat} {v : Value} {L : List PtQ} (h : OPl W B v L) : ∀ t ∈ L, PtIn W t.ta t.fa t.fc t.p ∧ notIn v t := fun t ht =>
  ⟨ptIn_dt (h.dt t ht) (h.sz t ht), fun g hg => ⟨fun hl q hq e => h.dv t ht g (Or.inl (by rw [ownT_at (h.dt t ht).1 hl hq, e])) hg, fun hl q hq e => h.dv t ht g (Or.inr (by rw [ownF_at (h.dt t ht).2 hl hq, e])) hg⟩⟩
theorem OPl.opl {W : World} {B : Nat} {v : Value} {L : List PtQ} (h : OPl W B v L) : Ln.OPl W B v L := ⟨h.own, h.all⟩
theorem OPl.nil (w : World) (B : Nat) : OPl w B (.slice none 0 0) [] := ⟨⟨rfl, Or.inl ⟨rfl, rfl⟩⟩, (fun t h => by cases h), (fun t h => by cases h), (fun t h => by cases h), (fun t h => by cases h), List.Pairwise.nil⟩
theorem OPl.lt {W : World} {B : Nat} {v : Value} {L : List PtQ} (h : OPl W B v L) {t : PtQ} (ht : t ∈ L) {q : Nat} (e : ownQ t q) : B ≤ q ∧ q < W.heap.size := by
  rcases e with e | e
  · exact (h.dt t ht).1.bound e
  · exact (h.dt t ht).2.bound e
theorem OPl.slice {W : World} {B : Nat} {v : Value} {L : List PtQ} (h : OPl W B v L) : ∃ a c, v = .slice a L.length c := h.opl.slice
theorem OPl.below {W W' : World} {B : Nat} {v : Value} {L : List PtQ} (h : OPl W B v L) (hb : Below W.heap.size W W') : OPl W' B v L :=
  ⟨(h.opl.below hb).own, fun t ht => ⟨(h.dt t ht).1.below hb (Nat.le_refl _), (h.dt t ht).2.below hb (Nat.le_refl _)⟩, h.sz, h.df, h.dv, h.pw⟩
/-- what is written below leaves the row. -/
theorem OPl.keep {W W' : World} {B : Nat} {v : Value} {L : List PtQ} {r : Option Nat} (h : OPl W B v L) (hg : W.grownBy W' r) (hr : ∀ j, r = some j → j < B) : OPl W' B v L := by
  refine ⟨?_, fun t ht => ⟨OT.keepW (h.dt t ht).1 hg (fun g e q => by have := (OT.boundW (h.dt t ht).1 e).1; have := hr g q; omega), OF.keepW (h.dt t ht).2 hg (fun g e q => by have := ((h.dt t ht).2.bound e).1; have := hr g q; omega)⟩, h.sz, h.df, h.dv, h.pw⟩
  refine ⟨h.own.1, ?_⟩
  rcases h.own.2 with h2 | ⟨g, cap, cur, e1, e2, e3, e4⟩
  · exact Or.inl h2
  · exact Or.inr ⟨g, cap, cur, e1, e2, by rw [hg.block g (Array.getElem?_eq_some_iff.1 e3).1 (fun q => by have := hr g q.symm; omega)]; exact e3, e4⟩
theorem row_stay {W W' : World} {row : Option Nat} (hg : W.grownBy W' row) (hr : ∀ r, row = some r → ∃ o : Obj, W.heap[r]? = some o ∧ o.isCells = false) {B : Nat} {t : TypeId} {k n : Nat} {v : Value} {xs : List Value} (h : W.ownsRow B t k v n xs) : W'.ownsRow B t k v n xs := by
  refine ⟨h.1, ?_⟩
  rcases h.2 with h2 | ⟨g, cap, cur, e1, e2, e3, e4⟩
  · exact Or.inl h2
  · exact Or.inr ⟨g, cap, cur, e1, e2, cells_stay hg hr e3, e4⟩
theorem OPl.stay {W W' : World} {row : Option Nat} {B : Nat} {v : Value} {L : List PtQ} (hg : W.grownBy W' row) (hr : ∀ r, row = some r → ∃ o : Obj, W.heap[r]? = some o ∧ o.isCells = false) (h : OPl W B v L) : OPl W' B v L :=
  ⟨row_stay hg hr h.own, fun t ht => ⟨row_stay hg hr (h.dt t ht).1, row_stay hg hr (h.dt t ht).2⟩, h.sz, h.df, h.dv, h.pw⟩
theorem OPl.keeps {W W' : World} {B : Nat} {v : Value} {L : List PtQ} (h : OPl W B v L) (hg : W.grownBy W' v.ownBlock) : KeepsOthers W W' := h.opl.keeps hg
theorem row_mono {W : World} {B C : Nat} {t : TypeId} {k n : Nat} {v : Value} {xs : List Value} (h : W.ownsRow B t k v n xs) (hc : C ≤ B) : W.ownsRow C t k v n xs := by
  refine ⟨h.1, ?_⟩
  rcases h.2 with h2 | ⟨g, cap, cur, e1, e2, e3⟩
  · exact Or.inl h2
  · exact Or.inr ⟨g, cap, cur, e1, Nat.le_trans hc e2, e3⟩
theorem OPl.mono {W : World} {B C : Nat} {v : Value} {L : List PtQ} (h : OPl W B v L) (hc : C ≤ B) : OPl W C v L :=
  ⟨row_mono h.own hc, fun t ht => ⟨row_mono (h.dt t ht).1 hc, row_mono (h.dt t ht).2 hc⟩, h.sz, h.df, h.dv, h.pw⟩
theorem OPl.app (W : World) (B : Nat) (v : Value) (L : List PtQ) (h : OPl W B v L) (hB : B ≤ W.heap.size) (t : PtQ) (ht : OT W B (vT t) t.p.t ∧ OF W B (vF t) t.p.f) (hs : t.p.t.length ≤ 1048576 ∧ t.p.f.length ≤ 1048576) (hd : ∀ q, (vT t).ownBlock = some q → (vF t).ownBlock ≠ some q) (hv : ∀ q, ownQ t q → v.ownBlock ≠ some q) (hL : ∀ s ∈ L, ∀ q, ownQ s q → ¬ ownQ t q) (hn : L.length + 1 ≤ 1099511627776) :
    ∃ a c w', (∀ W' N, W' = W.alloc (.cells #[.string t.p.m, .slice t.ta t.p.t.length t.tc, .slice t.fa t.p.f.length t.fc, .int .i64 t.p.tm] 32) → N = W.heap.size → (Builtin.append_ #[22, 22] 22 #[v, .slice (some ⟨N, 0, none⟩) 1 1]).run Tryz.prog W' = .ok (.slice a (L.length + 1) c) w') ∧ OPl w' B (.slice a (L.length + 1) c) (L ++ [t]) ∧ W.grownBy w' v.ownBlock := by
  have lt : ∀ q, ownQ t q → B ≤ q ∧ q < W.heap.size := fun q e => by
    rcases e with e | e
    · exact ht.1.bound e
    · exact ht.2.bound e
  have hni : notIn v t := fun g hg => ⟨fun hl q hq e => hv g (Or.inl (by rw [ownT_at ht.1 hl hq, e])) hg, fun hl q hq e => hv g (Or.inr (by rw [ownF_at ht.2 hl hq, e])) hg⟩
  obtain ⟨a, c, w', h1, h2, h3, h4⟩ := Ln.OPl.app W B v L h.opl hB t (ptIn_dt ht hs) hni hn
  have dvA : ∀ u ∈ L ++ [t], ∀ q, ownQ u q → v.ownBlock ≠ some q ∧ q < W.heap.size := fun u hu q e => by
    rcases List.mem_append.1 hu with c | c
    · exact ⟨h.dv u c q e, (h.lt c e).2⟩
    · rw [List.mem_singleton.1 c] at e; exact ⟨hv q e, (lt q e).2⟩
  refine ⟨a, c, w', h1, ⟨h2.own, fun u hu => ?_, fun u hu => ?_, fun u hu => ?_, fun u hu q e => ?_, ?_⟩, h3⟩
  · have d : OT W B (vT u) u.p.t ∧ OF W B (vF u) u.p.f := by
      rcases List.mem_append.1 hu with c | c
      · exact h.dt u c
      · rw [List.mem_singleton.1 c]; exact ht
    exact ⟨OT.keepW d.1 h3 (fun g e q => (dvA u hu g (Or.inl e)).1 q), OF.keepW d.2 h3 (fun g e q => (dvA u hu g (Or.inr e)).1 q)⟩
  · rcases List.mem_append.1 hu with c | c
    · exact h.sz u c
    · rw [List.mem_singleton.1 c]; exact hs
  · rcases List.mem_append.1 hu with c | c
    · exact h.df u c
    · rw [List.mem_singleton.1 c]; exact hd
  · have := dvA u hu q e
    rcases h4 with c | c
    · rw [c]; exact this.1
    · rw [c]; intro k; injection k; omega
  · rw [List.pairwise_append]
    exact ⟨h.pw, List.pairwise_singleton _ _, fun s hs u hu => by rw [List.mem_singleton.1 hu]; exact hL s hs⟩
/-- all lines till now are points, and they stand in the list. -/
structure ParI (w : World) (pre : List (Nat × By)) (W : World) (ps : List Pt) (v : Value) (L : List PtQ) : Prop where
  run : runA [] pre = .ok ps
  bl : Below w.heap.size w W
  r0 : W.heap[w.heap.size]? = some (.cells #[.slice none 0 0] 22)
  r1 : W.heap[w.heap.size + 1]? = some (.cells #[.nilIface] 26)
  r2 : W.heap[w.heap.size + 2]? = some (.cells #[v] 22)
  op : OPl W (w.heap.size + 3) v L
  eq : L.map (·.p) = ps.map ptB
  few : L.length ≤ pre.length
theorem ParI.own {w : World} (B : Nat) : OwnFrom B (fun (pre : List LnT) W => ∃ ps v L, ParI w (pre.map (·.1)) W ps v L ∧ w.heap.size ≤ B) := fun pre W W' row h hg hr => by
  obtain ⟨ps, v, L, h, hB⟩ := h
  have hr' : ∀ r, row = some r → ∃ o : Obj, W.heap[r]? = some o ∧ o.isCells = false := fun r e => (hr r e).2
  exact ⟨ps, v, L, ⟨h.run, h.bl.grown hg h.bl.size (fun k e => Nat.le_trans hB (hr k e).1), cells_stay hg hr' h.r0, cells_stay hg hr' h.r1, cells_stay hg hr' h.r2, OPl.stay hg hr' h.op, h.eq, h.few⟩, hB⟩
/-- a line passed over. -/
theorem ParI.skip {w : World} {pre : List (Nat × By)} {W W' : World} {ps : List Pt} {v : Value} {L : List PtQ} (h : ParI w pre W ps v L) {x : Nat × By} (hs : skipB x.2 = true) (hb : Below W.heap.size W W') : ParI w (pre ++ [x]) W' ps v L :=
  ⟨runA_skip h.run hs, h.bl.trans (hb.mono h.bl.size), (hb.block _ (Array.getElem?_eq_some_iff.1 h.r0).1).trans h.r0, (hb.block _ (Array.getElem?_eq_some_iff.1 h.r1).1).trans h.r1, (hb.block _ (Array.getElem?_eq_some_iff.1 h.r2).1).trans h.r2, h.op.below hb, h.eq, by rw [List.length_append]; have := h.few; omega⟩
theorem one_D (s : ByteArray) (w : World) (hg : LT w) (hs : s.size ≤ 9223372036854775807) : Calls Tryz.prog 15 #[.string s] w fun e w' => ∃ ta tc fa fc, e = .returned (.tuple #[ptV (outP s.data.toList) ta tc fa fc, outE s.data.toList]) ∧ Below w.heap.size w w' ∧ (OT w' w.heap.size (vT ⟨outP s.data.toList, ta, tc, fa, fc⟩) (outP s.data.toList).t ∧ OF w' w.heap.size (vF ⟨outP s.data.toList, ta, tc, fa, fc⟩) (outP s.data.toList).f) ∧ ((outP s.data.toList).t.length ≤ 1048576 ∧ (outP s.data.toList).f.length ≤ 1048576) ∧ (∀ q, (vT ⟨outP s.data.toList, ta, tc, fa, fc⟩).ownBlock = some q → (vF ⟨outP s.data.toList, ta, tc, fa, fc⟩).ownBlock ≠ some q) := by
  refine (one_any s w hg hs).mono ?_
  intro e w' h
  unfold EndO at h
  unfold outP outE
  cases ho : one8 unK nvL s.data.toList with
  | ok p =>
    rw [ho] at h
    obtain ⟨vt, vf, e1, h1, h2, h3, hb⟩ := h
    obtain ⟨f1, f2, _⟩ := one8_few ho
    obtain ⟨ta, tc, fa, fc, ev, hp⟩ := ptIn_of h1 h2 f1 f2
    have e2 := ev
    unfold ptV at e2
    injection e2 with e2
    have x1 := congrArg (fun x : Array Value => x[1]?) e2
    have x2 := congrArg (fun x : Array Value => x[2]?) e2
    simp at x1 x2
    rw [x1] at h1 h3
    rw [x2] at h2 h3
    exact ⟨ta, tc, fa, fc, by rw [e1, ev], hb, ⟨h1, h2⟩, ⟨by simpa [ptB] using f1, by simpa [ptB] using f2⟩, h3⟩
  | error q =>
    rw [ho] at h
    obtain ⟨e1, hb⟩ := h
    exact ⟨none, 0, none, 0, e1, hb, ⟨OT.nil _ _, OF.nil _ _⟩, ⟨by simp [ptZ], by simp [ptZ]⟩, fun q hq => by cases hq⟩
/-- how Parse ends. -/
def EndP (w : World) (l : By) (e : Ending) (w' : World) : Prop := match parO l with
  | .ok ps => ∃ v L, e = .returned (.tuple #[v, .nilIface]) ∧ OPl w' w.heap.size v L ∧ L.map (·.p) = ps.map ptB ∧ Below w.heap.size w w'
  | .error x => e = .returned (.tuple #[.slice none 0 0, .iface 107 (.agg #[.int .i64 (x.1 : Int), errL x.2])]) ∧ Below w.heap.size w w'
set_option maxHeartbeats 8000000 in
theorem parse_d (s : ByteArray) (w : World) (hg : LT w) (hs : s.size ≤ 549755813888) : Calls Tryz.prog 14 #[.string s] w fun e w' => EndP w s.data.toList e w' := by
  have cO : Hid (∀ (x : By) W, Below w.heap.size w W → x.length ≤ 549755813888 → Calls Tryz.prog 15 #[.string (ba x)] W fun e w' => ∃ ta tc fa fc, e = .returned (.tuple #[ptV (outP x) ta tc fa fc, outE x]) ∧ Below W.heap.size W w' ∧ (OT w' W.heap.size (vT ⟨outP x, ta, tc, fa, fc⟩) (outP x).t ∧ OF w' W.heap.size (vF ⟨outP x, ta, tc, fa, fc⟩) (outP x).f) ∧ ((outP x).t.length ≤ 1048576 ∧ (outP x).f.length ≤ 1048576) ∧ (∀ q, (vT ⟨outP x, ta, tc, fa, fc⟩).ownBlock = some q → (vF ⟨outP x, ta, tc, fa, fc⟩).ownBlock ≠ some q)) := fun x W h hx => by
    have := one_D (ba x) W (hg.on h) (by rw [ba_size]; omega)
    rw [Ln.ba_list] at this
    exact this
  have cH : Hid (∀ (x : By) W, Calls Tryz.prog 45 #[.string (ba x), .string ⟨#[35]⟩] W fun e w' => e = .returned (.bool (decide (x.head? = some 35))) ∧ w' = W) := fun x W => by
    have := Tryz.strings_HasPrefix (ba x) ⟨#[35]⟩ W
    have e := pre_one x 0 35
    rw [List.drop_zero] at e
    rw [show (⟨#[35]⟩ : ByteArray).data.toList = [35] from rfl, Ln.ba_list, e, show x[0]? = x.head? by cases x <;> rfl] at this
    exact this
  have hlen := lenB s
  obtain ⟨PST, hPST⟩ : ∃ PST : Ending → World → Prop, (fun e w' => EndP w s.data.toList e w') = PST := ⟨_, rfl⟩
  have PE : Hid (∀ x w1, parO s.data.toList = .error x → Below w.heap.size w w1 → PST (.returned (.tuple #[.slice none 0 0, .iface 107 (.agg #[.int .i64 (x.1 : Int), errL x.2])])) w1) := fun x w1 e b => by rw [← hPST]; show EndP w _ _ _; unfold EndP; rw [e]; exact ⟨rfl, b⟩
  have PO : Hid (∀ ps v L w1, parO s.data.toList = .ok ps → OPl w1 w.heap.size v L → L.map (·.p) = ps.map ptB → Below w.heap.size w w1 → PST (.returned (.tuple #[v, .nilIface])) w1) := fun ps v L w1 e h1 h2 b => by rw [← hPST]; show EndP w _ _ _; unfold EndP; rw [e]; exact ⟨v, L, rfl, h1, h2, b⟩
  rw [hPST]
  clear hPST hg
  refine (callsIn_wide (n := 9)).1 ?_
  refine callsIn_of_wp_marks Tryz.func14 rfl trivial ?_ rfl
  simp only [Tryz.ntmps14, List.size_toArray, List.length_cons, List.length_nil, Nat.reduceAdd, Nat.reduceSub, Array.replicate_succ, Array.replicate_zero, List.push_toArray, List.append_toArray, List.nil_append, List.cons_append]
  gi_wp2
  refine ⟨trivial, ?_⟩
  refine (callsIn_wide.2 (lines_any s _)).mono ?_
  rintro e w1 ⟨rfl, hw1⟩
  have hsz : w1.heap.size = w.heap.size + 4 := by rw [hw1]; simp
  have B1 : Below w.heap.size w w1 := by rw [hw1]; exact ((((Below.refl _ w).alloc (Nat.le_refl _) _).alloc (by simp) _).alloc (by simp only [World.size_alloc]; omega) _).alloc (by simp only [World.size_alloc]; omega) _
  have m0 : w1.heap[w.heap.size]? = some (.cells #[.slice none 0 0] 22) := by
    rw [hw1, Below.heap_alloc _ _ _ (by simp only [World.size_alloc]; omega), Below.heap_alloc _ _ _ (by simp only [World.size_alloc]; omega), Below.heap_alloc _ _ _ (by simp only [World.size_alloc]; omega)]; exact World.alloc_heap_new w _
  have m1 : w1.heap[w.heap.size + 1]? = some (.cells #[.nilIface] 26) := by
    rw [hw1, Below.heap_alloc _ _ _ (by simp only [World.size_alloc]; omega), Below.heap_alloc _ _ _ (by simp only [World.size_alloc]; omega)]
    have := World.alloc_heap_new (w.alloc (.cells #[.slice none 0 0] 22)) (.cells #[.nilIface] 26)
    rwa [World.size_alloc] at this
  have m2 : w1.heap[w.heap.size + 2]? = some (.cells #[.slice none 0 0] 22) := by
    rw [hw1, Below.heap_alloc _ _ _ (by simp only [World.size_alloc]; omega)]
    have := World.alloc_heap_new ((w.alloc (.cells #[.slice none 0 0] 22)).alloc (.cells #[.nilIface] 26)) (.cells #[.slice none 0 0] 22)
    rwa [World.size_alloc, World.size_alloc] at this
  have m3 : w1.heap[w.heap.size + 3]? = some (.cells #[.string s] 9) := by
    rw [hw1]
    have := World.alloc_heap_new (((w.alloc (.cells #[.slice none 0 0] 22)).alloc (.cells #[.nilIface] 26)).alloc (.cells #[.slice none 0 0] 22)) (.cells #[.string s] 9)
    rwa [World.size_alloc, World.size_alloc, World.size_alloc] at this
  have hc1 : w1.cell? ⟨w.heap.size + 3, 0, none⟩ = some (.string s) := by rw [Lib.cell_of_heap m3]; rfl
  have hI0 : ParI w [] w1 [] (.slice none 0 0) [] := ⟨rfl, B1, m0, m1, m2, OPl.nil _ _, rfl, Nat.le_refl _⟩
  clear hw1 m0 m1 m2 m3 B1
  simp only [World.size_alloc]
  gi_wp2
  refine wpIn_rangeFunc_ownF rfl (by omega) (gf := 110) (lb := #[.pointer (some ⟨w.heap.size + 1 + 1 + 1, 0, none⟩)]) rfl trivial (enters_of Tryz.func110 (by kernel_rfl) rfl)
    (lines_stops 8 (by omega) (w.heap.size + 3) s w1 hs (by omega) hc1) (fun _ _ => trivial) (fun _ _ _ _ _ _ _ _ => trivial) (Below.refl _ _) (fun _ => rfl)
    (fun (pre : List LnT) W => ∃ ps v L, ParI w (pre.map (·.1)) W ps v L ∧ w.heap.size ≤ w1.heap.size)
    (fun c (pre : List LnT) W => c = .ret ∧ ∃ pre0 x ps q, ParX w (pre.map (·.1)) W pre0 x ps q ∧ w.heap.size ≤ w1.heap.size)
    (ParI.own _) (fun c => ParX.own _ c)
    ⟨[], _, [], hI0, by omega⟩
    (fun (x : LnT) => { tmps := #[.string s, undef, .pointer (some ⟨w.heap.size, 0, none⟩), .pointer (some ⟨w.heap.size + 1, 0, none⟩), .pointer (some ⟨w.heap.size + 1 + 1, 0, none⟩), .int .i64 (x.1.1 : Int), .string (ba x.1.2), undef, undef, .string s, .func (.func 110) #[] #[.pointer (some ⟨w.heap.size + 1 + 1 + 1, 0, none⟩)], .int .i64 (x.1.1 : Int), .string (ba x.1.2), undef, undef, undef, undef, undef, undef, undef, undef, undef, undef, undef, undef, undef, undef, undef, undef, undef, undef, undef, undef, undef], defers := [] }) ?assign ?body ?done ?stop
  case assign =>
    intro l x W K hK
    gi_wp2
    exact hK
  case body =>
    rintro l pre ⟨⟨n, x⟩, hxl⟩ W ⟨ps, v, L, h, hwz⟩ hpl
    have hwzH : Hid (w.heap.size ≤ w1.heap.size) := hwz
    dsimp only at hxl ⊢
    have hH : Hid (ParI w (pre.map (·.1)) W ps v L) := h
    have cHx : Hid (∀ W, Calls Tryz.prog 45 #[.string (ba x), .string ⟨#[35]⟩] W fun e w' => e = .returned (.bool (decide (x.head? = some 35))) ∧ w' = W) := cH.out x
    have hplH : Hid (pre.length < s.size) := hpl
    clear h hpl hwz
    by_cases hx : x = []
    · subst hx
      have hsk : skipB ((n, []) : Nat × By).2 = true := rfl
      have e0 : ba ([] : By) = ⟨#[]⟩ := rfl
      rw [e0]
      have hN := hH.out.skip (x := (n, [])) hsk (Below.refl _ W)
      have hNH : Hid (ParI w ((pre ++ [(⟨(n, []), hxl⟩ : LnT)]).map (·.1)) W ps v L) := by show ParI _ _ _ _ _ _; rw [List.map_append]; exact hN
      clear hN cHx
      gi_wp2
      refine ⟨trivial, ?_⟩
      gi_wp2
      exact ⟨keeps_below (Below.refl _ _), trivial, ps, v, L, hNH.out, hwzH.out⟩
    · have hxe : (ba x).toList.isEmpty = false := by
        rw [Lib.toList_data, Ln.ba_list]
        cases x with
        | nil => exact absurd rfl hx
        | cons a r => rfl
      obtain ⟨T, hT⟩ : ∃ T, ba x = T := ⟨_, rfl⟩
      have cOx : Hid (Calls Tryz.prog 15 #[.string (ba x)] W fun e w' => ∃ ta tc fa fc, e = .returned (.tuple #[ptV (outP x) ta tc fa fc, outE x]) ∧ Below W.heap.size W w' ∧ (OT w' W.heap.size (vT ⟨outP x, ta, tc, fa, fc⟩) (outP x).t ∧ OF w' W.heap.size (vF ⟨outP x, ta, tc, fa, fc⟩) (outP x).f) ∧ ((outP x).t.length ≤ 1048576 ∧ (outP x).f.length ≤ 1048576) ∧ (∀ q, (vT ⟨outP x, ta, tc, fa, fc⟩).ownBlock = some q → (vF ⟨outP x, ta, tc, fa, fc⟩).ownBlock ≠ some q)) := cO.out x W hH.out.bl hxl
      rw [hT] at cHx hxe cOx ⊢
      obtain ⟨hd, hhd⟩ : ∃ hd, decide (x.head? = some 35) = hd := ⟨_, rfl⟩
      rw [hhd] at cHx
      clear hT
      cases hd with
      | true =>
        have hsk : skipB ((n, x) : Nat × By).2 = true := by unfold skipB; rw [hhd]; simp
        have hN := hH.out.skip (x := (n, x)) hsk (Below.refl _ W)
        have hNH : Hid (ParI w ((pre ++ [(⟨(n, x), hxl⟩ : LnT)]).map (·.1)) W ps v L) := by show ParI _ _ _ _ _ _; rw [List.map_append]; exact hN
        clear hN cOx hhd hx
        gi_wp2
        refine ⟨trivial, ?_⟩
        refine (CallsIn.inRound l (callsIn_wide.2 (cHx.out _))).mono ?_
        rintro e W1 ⟨rfl, hw⟩
        subst hw
        gi_wp2
        exact ⟨keeps_below (Below.refl _ _), trivial, ps, v, L, hNH.out, hwzH.out⟩
      | false =>
        have hsk : skipB ((n, x) : Nat × By).2 = false := by unfold skipB; rw [hhd]; simpa using hx
        clear hhd hx
        gi_wp2
        refine ⟨trivial, ?_⟩
        refine (CallsIn.inRound l (callsIn_wide.2 (cHx.out _))).mono ?_
        rintro e W1 ⟨rfl, hw⟩
        subst hw
        gi_wp2
        refine ⟨trivial, ?_⟩
        refine (CallsIn.inRound l (callsIn_wide.2 cOx.out)).mono ?_
        rintro e W2 ⟨ta, tc, fa, fc, rfl, B2, hp2, hz2, hd2⟩
        cases ho : one8 unK nvL x with
        | error q =>
          have eE : outE x = errL q := by unfold outE; rw [ho]
          rw [eE]
          obtain ⟨te, pe, hE⟩ : ∃ te pe, errL q = .iface te pe := by cases q with
            | none => exact ⟨_, _, rfl⟩
            | some p => exact ⟨_, _, rfl⟩
          have hbe : ∀ W, (binOp .eql 26 (.iface te pe) .nilIface).run Tryz.prog W = .ok (.bool false) W := fun W => by cases q <;> (simp only [errL, atL] at hE; injection hE with h1 h2; subst h1; subst h2; kernel_rfl)
          have cIn : Hid (∀ W, Calls Tryz.prog 38 #[.int .i64 (n : Int), .iface te pe] W fun e w' => e = .returned (.iface 107 (.agg #[.int .i64 (n : Int), .iface te pe])) ∧ Below W.heap.size W w') := fun W => by have := in_l (n : Int) q W; rw [hE] at this; exact this
          have hEH : Hid (errL q = .iface te pe) := hE
          rw [hE]
          unfold ptV
          have hb2H : Hid (Below W1.heap.size W1 W2) := B2
          clear hp2 hz2 hd2
          generalize (outP x).t.length = nt at *
          generalize (outP x).f.length = nf at *
          generalize (outP x).m = pm at *
          generalize (outP x).tm = pt at *
          clear hE eE cOx cHx B2
          gi_wp2
          refine ⟨trivial, ?_⟩
          refine (CallsIn.inRound l (callsIn_wide.2 (cIn.out _))).mono ?_
          rintro e W3 ⟨rfl, B3⟩
          have b3 : Below W1.heap.size W1 W3 := (hb2H.out.alloc hb2H.out.size _).trans (B3.mono (by have := hb2H.out.size; simp; omega))
          have k0 := (b3.block _ (Array.getElem?_eq_some_iff.1 hH.out.r0).1).trans hH.out.r0
          have k1 := (b3.block _ (Array.getElem?_eq_some_iff.1 hH.out.r1).1).trans hH.out.r1
          have c0 : W3.cell? ⟨w.heap.size, 0, none⟩ = some (.slice none 0 0) := by rw [Lib.cell_of_heap k0]; rfl
          have c1 : W3.cell? ⟨w.heap.size + 1, 0, none⟩ = some .nilIface := by rw [Lib.cell_of_heap k1]; rfl
          have f0 : W3.frozen? ⟨w.heap.size, 0, none⟩ = false := by simp [World.frozen?, k0]
          have f1 : W3.frozen? ⟨w.heap.size + 1, 0, none⟩ = false := by simp [World.frozen?, k1]
          have k0b : ((W3.setCell ⟨w.heap.size, 0, none⟩ (.slice none 0 0))).heap[w.heap.size + 1]? = some (.cells #[.nilIface] 26) := by rw [Below.heap_setCell _ _ _ _ (by show w.heap.size + 1 ≠ w.heap.size; omega)]; exact k1
          have FX : Hid (KeepsOthers W1 ((W3.setCell ⟨w.heap.size, 0, none⟩ (.slice none 0 0)).setCell ⟨w.heap.size + 1, 0, none⟩ (.iface 107 (.agg #[.int .i64 (n : Int), .iface te pe]))) ∧ ParX w ((pre ++ [(⟨(n, x), hxl⟩ : LnT)]).map (·.1)) ((W3.setCell ⟨w.heap.size, 0, none⟩ (.slice none 0 0)).setCell ⟨w.heap.size + 1, 0, none⟩ (.iface 107 (.agg #[.int .i64 (n : Int), .iface te pe]))) (pre.map (·.1)) (n, x) ps q) :=
            ⟨(keeps_below b3).trans ((keeps_set k0).trans (keeps_set k0b)), ⟨by rw [List.map_append]; rfl, hH.out.run, hsk, ho, ((hH.out.bl.trans (b3.mono hH.out.bl.size)).setCell (p := ⟨w.heap.size, 0, none⟩) (Nat.le_refl _) _).setCell (p := ⟨w.heap.size + 1, 0, none⟩) (Nat.le_succ _) _, by rw [Below.heap_setCell _ _ _ _ (by show w.heap.size ≠ w.heap.size + 1; omega)]; exact set_one k0, by rw [hEH.out]; exact set_one k0b⟩⟩
          clear k0 k1 k0b b3 B3 hH
          gi_wp2
          exact ⟨FX.out.1, rfl, _, _, _, _, FX.out.2, hwzH.out⟩
        | ok p =>
          have eE : outE x = .nilIface := by unfold outE; rw [ho]
          have eP : outP x = ptB p := by unfold outP; rw [ho]
          rw [eE]
          rw [eP] at hp2 hz2 hd2 ⊢
          have hb2H : Hid (Below W1.heap.size W1 W2) := B2
          have op2 := hH.out.op.below B2
          obtain ⟨va, vc, ev⟩ := op2.slice
          have k2 := (B2.block _ (Array.getElem?_eq_some_iff.1 hH.out.r2).1).trans hH.out.r2
          have c2 : W2.cell? ⟨w.heap.size + 1 + 1, 0, none⟩ = some v := by rw [Lib.cell_of_heap k2]; rfl
          have f2 : W2.frozen? ⟨w.heap.size + 1 + 1, 0, none⟩ = false := by simp [World.frozen?, k2]
          unfold ptV
          subst ev
          have hlt2 : w.heap.size + 1 + 1 < W2.heap.size := (Array.getElem?_eq_some_iff.1 k2).1
          have hL : L.length ≤ 549755813888 := by
            have := hH.out.few
            rw [List.length_map] at this
            have := hplH.out
            omega
          obtain ⟨W3, hW3⟩ : ∃ W3, W2.alloc (.cells #[.string (ptB p).m, .slice ta (ptB p).t.length tc, .slice fa (ptB p).f.length fc, .int .i64 (ptB p).tm] 32) = W3 := ⟨_, rfl⟩
          have b3 : Below W2.heap.size W2 W3 := by rw [← hW3]; exact (Below.refl _ W2).alloc (Nat.le_refl _) _
          have b13 : Below W1.heap.size W1 W3 := B2.trans (b3.mono B2.size)
          have hsz3 : W3.heap.size = W2.heap.size + 1 := by rw [← hW3]; simp
          have op3 := op2.below b3
          have hown : ∀ g, (Value.slice va L.length vc).ownBlock = some g → g < W1.heap.size := fun g hg' => (World.ownsRow.lt hH.out.op.own (k := g) hg').2
          have hqo : ∀ q, ownQ ⟨ptB p, ta, tc, fa, fc⟩ q → W1.heap.size ≤ q := fun q e => by
            rcases e with e | e
            · exact (hp2.1.bound e).1
            · exact (hp2.2.bound e).1
          have hsz1 : w.heap.size + 3 ≤ W1.heap.size := by have := (Array.getElem?_eq_some_iff.1 hH.out.r2).1; have := hwzH.out; have := hsz; omega
          obtain ⟨a4, c4, W4, hr, op4, gr4⟩ := OPl.app W3 (w.heap.size + 3) (.slice va L.length vc) L op3 (by omega) ⟨ptB p, ta, tc, fa, fc⟩ ⟨row_mono (hp2.1.below b3 (Nat.le_refl _)) hsz1, row_mono (hp2.2.below b3 (Nat.le_refl _)) hsz1⟩ hz2 hd2 (fun q e k => by have := hqo q e; have := hown q k; omega) (fun s hs q e k => by have := (hH.out.op.lt hs e).2; have := hqo q k; omega) (by omega)
          have hrH : Hid (∀ W' N, W' = W3.alloc (.cells #[.string (ptB p).m, .slice ta (ptB p).t.length tc, .slice fa (ptB p).f.length fc, .int .i64 (ptB p).tm] 32) → N = W3.heap.size → (Builtin.append_ #[22, 22] 22 #[.slice va L.length vc, .slice (some ⟨N, 0, none⟩) 1 1]).run Tryz.prog W' = .ok (.slice a4 (L.length + 1) c4) W4) := hr
          have hW3H : Hid (W2.alloc (.cells #[.string (ptB p).m, .slice ta (ptB p).t.length tc, .slice fa (ptB p).f.length fc, .int .i64 (ptB p).tm] 32) = W3 ∧ W3.heap.size = W2.heap.size + 1) := ⟨hW3, hsz3⟩
          have hgr : ∀ j, j ≤ w.heap.size + 2 → (Value.slice va L.length vc).ownBlock ≠ some j := fun j hj e => by have := (World.ownsRow.lt op3.own (k := j) e).1; omega
          have k2' := (b13.block _ (Array.getElem?_eq_some_iff.1 hH.out.r2).1).trans hH.out.r2
          have k42 : W4.heap[w.heap.size + 2]? = some (.cells #[.slice va L.length vc] 22) := (gr4.block _ (Array.getElem?_eq_some_iff.1 k2').1 (fun e => hgr _ (Nat.le_refl _) e.symm)).trans k2'
          have k0' := (b13.block _ (Array.getElem?_eq_some_iff.1 hH.out.r0).1).trans hH.out.r0
          have k40 := (gr4.block _ (Array.getElem?_eq_some_iff.1 k0').1 (fun e => hgr _ (by omega) e.symm)).trans k0'
          have k1' := (b13.block _ (Array.getElem?_eq_some_iff.1 hH.out.r1).1).trans hH.out.r1
          have k41 := (gr4.block _ (Array.getElem?_eq_some_iff.1 k1').1 (fun e => hgr _ (by omega) e.symm)).trans k1'
          have c4c : W4.cell? ⟨w.heap.size + 1 + 1, 0, none⟩ = some (.slice va L.length vc) := by rw [Lib.cell_of_heap k42]; rfl
          have f4c : W4.frozen? ⟨w.heap.size + 1 + 1, 0, none⟩ = false := by simp [World.frozen?, k42]
          have b4 : Below w.heap.size w W4 := (hH.out.bl.trans (b13.mono hH.out.bl.size)).grown gr4 (by have := hH.out.bl.size; have := b13.size; omega) (fun k e => by have := (World.ownsRow.lt op3.own (k := k) e).1; omega)
          have FX : Hid (KeepsOthers W1 (W4.setCell ⟨w.heap.size + 1 + 1, 0, none⟩ (.slice a4 (L.length + 1) c4)) ∧ ParI w ((pre ++ [(⟨(n, x), hxl⟩ : LnT)]).map (·.1)) (W4.setCell ⟨w.heap.size + 1 + 1, 0, none⟩ (.slice a4 (L.length + 1) c4)) (ps ++ [p]) (.slice a4 (L.length + 1) c4) (L ++ [⟨ptB p, ta, tc, fa, fc⟩])) := by
            refine ⟨((keeps_below b13).trans (op3.keeps gr4)).trans (keeps_set k42), by rw [List.map_append]; exact runA_good (x := (n, x)) hH.out.run hsk ho, b4.setCell (p := ⟨w.heap.size + 1 + 1, 0, none⟩) (by show w.heap.size ≤ w.heap.size + 1 + 1; omega) _, ?_, ?_, set_one k42, ?_, ?_, ?_⟩
            · rw [Below.heap_setCell _ _ _ _ (by show w.heap.size ≠ w.heap.size + 1 + 1; omega)]; exact k40
            · rw [Below.heap_setCell _ _ _ _ (by show w.heap.size + 1 ≠ w.heap.size + 1 + 1; omega)]; exact k41
            · exact op4.keep (grown_set W4 (w.heap.size + 1 + 1) 0 _) (fun j e => by injection e with e; omega)
            · rw [List.map_append, hH.out.eq, List.map_append]; rfl
            · rw [List.length_append, List.length_map, List.length_append]; have := hH.out.few; rw [List.length_map] at this; simp; omega
          clear op2 k2 hL hW3 b3 b13 hsz3 op3 hown hqo hsz1 hr op4 gr4 hgr k2' k42 k0' k40 k1' k41 b4 hH cOx cHx hz2 hd2 B2 hp2 eE eP
          generalize (ptB p).t.length = nt at *
          generalize (ptB p).f.length = nf at *
          generalize (ptB p).m = pm at *
          generalize (ptB p).tm = pt at *
          gi_wp2_with (gi_at_builtin; refine wpListIn_append_runL (by rfl) _ _ _ (by rfl) _ _ _ _ (by rfl) (by rfl) (hrH.out _ _ (by rw [← hW3H.out.1]) (by rw [hW3H.out.2])) ?_; (try simp only [Act.put, List.setIfInBounds_toArray, List.set_cons_zero, List.set_cons_succ]))
          exact ⟨FX.out.1, trivial, _, _, _, FX.out.2, hwzH.out⟩
  case done =>
    rintro D xs W hD hS ⟨ps, v, L, h, hwz⟩ hK
    have hpar : parO s.data.toList = .ok ps := by unfold parO; rw [← hS]; exact h.run
    have c2 : W.cell? ⟨w.heap.size + 1 + 1, 0, none⟩ = some v := by rw [Lib.cell_of_heap h.r2]; rfl
    have c0 : W.cell? ⟨w.heap.size, 0, none⟩ = some (.slice none 0 0) := by rw [Lib.cell_of_heap h.r0]; rfl
    have c1 : W.cell? ⟨w.heap.size + 1, 0, none⟩ = some .nilIface := by rw [Lib.cell_of_heap h.r1]; rfl
    have f0 : W.frozen? ⟨w.heap.size, 0, none⟩ = false := by simp [World.frozen?, h.r0]
    have f1 : W.frozen? ⟨w.heap.size + 1, 0, none⟩ = false := by simp [World.frozen?, h.r1]
    obtain ⟨va, vc, ev⟩ := h.op.slice
    have hH : Hid (ParI w (xs.map (·.1)) W ps v L) := h
    subst ev
    clear h
    have hD0 : ∀ j, j ≤ w.heap.size + 1 → D ≠ j := fun j hj e => by omega
    gi_wp2
    have hK2 : (((W.setCell ⟨w.heap.size, 0, none⟩ (.slice va L.length vc)).setCell ⟨w.heap.size + 1, 0, none⟩ .nilIface)).heap[D]? = some (.deferred (some [])) := by
      rw [Below.heap_setCell _ _ _ _ (hD0 _ (Nat.le_refl _)), Below.heap_setCell _ _ _ _ (hD0 _ (Nat.le_succ _))]; exact hK
    refine ⟨by simp, .inl ⟨_, _, rfl, run_takeDeferred hK2, ?_⟩⟩
    have k0 : (((W.setCell ⟨w.heap.size, 0, none⟩ (.slice va L.length vc)).setCell ⟨w.heap.size + 1, 0, none⟩ .nilIface).putObj D (.deferred none)).heap[w.heap.size]? = some (.cells #[.slice va L.length vc] 22) := by
      rw [World.putObj_heap_other (by have := hD0 w.heap.size (Nat.le_succ _); omega), Below.heap_setCell _ _ _ _ (by show w.heap.size ≠ w.heap.size + 1; omega)]; exact set_one hH.out.r0
    have k1 : (((W.setCell ⟨w.heap.size, 0, none⟩ (.slice va L.length vc)).setCell ⟨w.heap.size + 1, 0, none⟩ .nilIface).putObj D (.deferred none)).heap[w.heap.size + 1]? = some (.cells #[.nilIface] 26) := by
      rw [World.putObj_heap_other (by have := hD0 (w.heap.size + 1) (Nat.le_refl _); omega)]
      exact set_one (u := .nilIface) (by rw [Below.heap_setCell _ _ _ _ (by show w.heap.size + 1 ≠ w.heap.size; omega)]; exact hH.out.r1)
    have hr0 : ∀ r, (some D : Option Nat) = some r → ∃ o : Obj, ((W.setCell ⟨w.heap.size, 0, none⟩ (.slice va L.length vc)).setCell ⟨w.heap.size + 1, 0, none⟩ .nilIface).heap[r]? = some o ∧ o.isCells = false := fun r e => by injection e with e; subst e; exact ⟨_, hK2, rfl⟩
    have gD := grownBy_putObj' ((W.setCell ⟨w.heap.size, 0, none⟩ (.slice va L.length vc)).setCell ⟨w.heap.size + 1, 0, none⟩ .nilIface) D (.deferred none)
    have opA : OPl W (w.heap.size + 3) (.slice va L.length vc) L := hH.out.op
    have far : ∀ (X : World) (j : Nat) (u : Value) (ty : TypeId), j ≤ w.heap.size + 1 → (u = .slice none 0 0 ∨ u = .nilIface ∨ ∃ a n c, u = .slice a n c) → X.heap[j]? = some (.cells #[u] ty) → OPl X (w.heap.size + 3) (.slice va L.length vc) L → ∀ z, OPl (X.setCell ⟨j, 0, none⟩ z) (w.heap.size + 3) (.slice va L.length vc) L := fun X j u ty hj hu hX h z => by
      exact h.keep (grown_set X j 0 z) (fun i e => by injection e with e; omega)
    have op1 := far W w.heap.size _ _ (Nat.le_succ _) (Or.inl rfl) hH.out.r0 opA (.slice va L.length vc)
    have op2 := far _ (w.heap.size + 1) .nilIface _ (Nat.le_refl _) (Or.inr (Or.inl rfl)) (by rw [Below.heap_setCell _ _ _ _ (by show w.heap.size + 1 ≠ w.heap.size; omega)]; exact hH.out.r1) op1 .nilIface
    have op3 : OPl _ (w.heap.size + 3) (.slice va L.length vc) L := OPl.stay gD hr0 op2
    have bE := (((hH.out.bl.setCell (p := ⟨w.heap.size, 0, none⟩) (Nat.le_refl _) (.slice va L.length vc)).setCell (p := ⟨w.heap.size + 1, 0, none⟩) (Nat.le_succ _) .nilIface)).trans (belowK_b (w := w) (Nat.le_refl _) _ D _ (.deferred none) (by omega) hK2 rfl rfl)
    have q0 := Lib.cell_of_heap k0 (j := 0)
    have q1 := Lib.cell_of_heap k1 (j := 0)
    refine ⟨.tuple #[.slice va L.length vc, .nilIface], ?_, PO.out ps _ L _ hpar (op3.mono (by omega)) hH.out.eq bE⟩
    generalize (((W.setCell ⟨w.heap.size, 0, none⟩ (.slice va L.length vc)).setCell ⟨w.heap.size + 1, 0, none⟩ .nilIface).putObj D (.deferred none)) = WE at *
    have q0' : WE.cell? ⟨w.heap.size, 0, none⟩ = some (.slice va L.length vc) := q0
    have q1' : WE.cell? ⟨w.heap.size + 1, 0, none⟩ = some .nilIface := q1
    simp [results, Tryz.results14, go_sem, q0', q1']
  case stop =>
    rintro D c pre W hD hpre ⟨rfl, pre0, x, ps, q, h, hwz⟩ hK
    have c0 : W.cell? ⟨w.heap.size, 0, none⟩ = some (.slice none 0 0) := by rw [Lib.cell_of_heap h.r0]; rfl
    have c1 : W.cell? ⟨w.heap.size + 1, 0, none⟩ = some (.iface 107 (.agg #[.int .i64 (x.1 : Int), errL q])) := by rw [Lib.cell_of_heap h.r1]; rfl
    have hpar : parO s.data.toList = .error (x.1, q) := parO_bad (by rw [← h.e]; exact hpre) h.run h.no h.bad
    gi_wp2
    refine ⟨by simp, .inl ⟨_, _, rfl, run_takeDeferred hK, ?_⟩⟩
    have k0 : (W.putObj D (.deferred none)).heap[w.heap.size]? = some (.cells #[.slice none 0 0] 22) := by
      rw [World.putObj_heap_other (by omega)]; exact h.r0
    have k1 : (W.putObj D (.deferred none)).heap[w.heap.size + 1]? = some (.cells #[.iface 107 (.agg #[.int .i64 (x.1 : Int), errL q])] 26) := by
      rw [World.putObj_heap_other (by omega)]; exact h.r1
    have bE := h.bl.trans (belowK_b (w := w) (Nat.le_refl _) W D _ (.deferred none) (by omega) hK rfl rfl)
    have q0 := Lib.cell_of_heap k0 (j := 0)
    have q1 := Lib.cell_of_heap k1 (j := 0)
    refine ⟨.tuple #[.slice none 0 0, .iface 107 (.agg #[.int .i64 (x.1 : Int), errL q])], ?_, PE.out (x.1, q) _ hpar bE⟩
    generalize (W.putObj D (.deferred none)) = WE at *
    have q0' : WE.cell? ⟨w.heap.size, 0, none⟩ = some (.slice none 0 0) := q0
    have q1' : WE.cell? ⟨w.heap.size + 1, 0, none⟩ = some (.iface 107 (.agg #[.int .i64 (x.1 : Int), errL q])) := q1
    simp [results, Tryz.results14, go_sem, q0', q1']
end Go.Proofs.YtbojljmacheccaaGreatDoor.Lo
