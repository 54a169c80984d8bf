
import Derived.Test.YtpicgjjbpiinfaaDoorCrcW
import Derived.Laws.OwnMore
import Derived.Deep.AppendLies
import Derived.OwnWalk
import Derived.Deep.RegionHeld3
namespace Go.Proofs.YtpicgjjbpiinfaaDoor
open Go.RowKit
set_option linter.unusedVariables false
set_option linter.unusedSimpArgs false
theorem below_new {w w' : World} (h : Below w.heap.size w w') (o : Obj) : Below w.heap.size w (w'.alloc o) := h.alloc h.size o
theorem below_then {w W w1 : World} (h : Below w.heap.size w W) (hb : Below W.heap.size W w1) : Below w.heap.size w w1 := h.trans (hb.mono h.size)
theorem byte_info : (Tryd.prog.info? 5).map (fun i => (i.zero, i.bytes, i.size)) = some (some (.int .u8 0), 1, 1) := by kernel_rfl
/-- a Writer at block N: its slice v holds xs, n of them; fr bits are free. -/
structure WS (N : Nat) (w1 : World) (fr : Int) (v : Value) (n : Nat) (xs : List Value) (wx : World) : Prop where
  c0 : wx.cell? ⟨N, 0, none⟩ = some v
  c1 : wx.cell? ⟨N, 1, none⟩ = some (.int .i64 fr)
  f0 : wx.frozen? ⟨N, 0, none⟩ = false
  f1 : wx.frozen? ⟨N, 1, none⟩ = false
  own : wx.ownsRow (N + 1) 5 1 v n xs
  b : Below N w1 wx
  sz : N < wx.heap.size
theorem WS.alloc {N : Nat} {w1 wx : World} {fr : Int} {v : Value} {n : Nat} {xs : List Value} (h : WS N w1 fr v n xs wx) (o : Obj) : WS N w1 fr v n xs (wx.alloc o) := by
  obtain ⟨c0, c1, f0, f1, own, b, sz⟩ := h
  refine ⟨?_, ?_, ?_, ?_, own.alloc o, b.alloc (by omega) o, by simp; omega⟩
  · rw [World.cell?_alloc_lt _ _ ⟨N, 0, none⟩ sz]; exact c0
  · rw [World.cell?_alloc_lt _ _ ⟨N, 1, none⟩ sz]; exact c1
  · rw [World.frozen?_alloc_old _ _ ⟨N, 0, none⟩ (by simp; omega)]; exact f0
  · rw [World.frozen?_alloc_old _ _ ⟨N, 1, none⟩ (by simp; omega)]; exact f1
theorem WS.drew {N : Nat} {w1 wx : World} {fr : Int} {v : Value} {n : Nat} {xs : List Value} (h : WS N w1 fr v n xs wx) : WS N w1 fr v n xs wx.drew :=
  ⟨h.c0, h.c1, h.f0, h.f1, h.own.drew, h.b.drew, h.sz⟩
/-- its slice set anew, and the free bits. -/
theorem WS.put {N : Nat} {w1 wx : World} {fr : Int} {v : Value} (c0 : wx.cell? ⟨N, 0, none⟩ = some v) (c1 : wx.cell? ⟨N, 1, none⟩ = some (.int .i64 fr)) (f0 : wx.frozen? ⟨N, 0, none⟩ = false) (f1 : wx.frozen? ⟨N, 1, none⟩ = false)
    (b : Below N w1 wx) (sz : N < wx.heap.size) {v' : Value} {n : Nat} {xs : List Value} (own : wx.ownsRow (N + 1) 5 1 v' n xs) (fr' : Int) :
    WS N w1 fr' v' n xs ((wx.setCell ⟨N, 0, none⟩ v').setCell ⟨N, 1, none⟩ (.int .i64 fr')) := by
  have k : ∀ (x : World) (p : Addr) (u : Value), p.block = N → x.ownsRow (N + 1) 5 1 v' n xs → (x.setCell p u).ownsRow (N + 1) 5 1 v' n xs := by
    rintro x p u hp ⟨h1, h2⟩
    refine ⟨h1, ?_⟩
    rcases h2 with h2 | ⟨g, cap, cur, e1, e2, e3, e4⟩
    · exact Or.inl h2
    · exact Or.inr ⟨g, cap, cur, e1, e2, by rw [Below.heap_setCell _ _ _ _ (by omega)]; exact e3, e4⟩
  refine ⟨?_, ?_, by simpa using f0, by simpa using f1, k _ _ _ rfl (k _ _ _ rfl own), (b.setCell (p := ⟨N, 0, none⟩) (Nat.le_refl _) _).setCell (p := ⟨N, 1, none⟩) (Nat.le_refl _) _, by simpa using sz⟩
  · rw [World.cell?_setCell_other _ _ _ _ (by simp)]; exact World.cell?_setCell_same _ _ _ c0
  · exact World.cell?_setCell_same _ _ _ (u := .int .i64 fr) (by rw [World.cell?_setCell_other _ _ _ _ (by simp)]; exact c1)
set_option maxRecDepth 100000 in
theorem whole_any (N : Nat) (w1 : World) (fr : Int) (v : Value) (n : Nat) (xs : List Value) (w : World) (h : WS N w1 fr v n xs w) (g0 m c : Nat) (news : List Value) (hl : news.length = m)
    (hnews : ∀ j u, news[j]? = some u → w.cell? ((⟨g0, 0, none⟩ : Addr).add j) = some u) (h1 : ∀ u ∈ news, u.oneCell' = true) (hm : 0 < m) (hb : n + m ≤ 140737488355328) :
    Calls Tryd.prog 89 #[.pointer (some ⟨N, 0, none⟩), .slice (some ⟨g0, 0, none⟩) m c] w fun e w' => e = .returned undef ∧ ∃ v', WS N w1 0 v' (n + m) (xs ++ news) w' := by
  obtain ⟨i, i1, i0⟩ := Option.map_eq_some_iff.1 byte_info
  have i2 : i.zero = some (.int .u8 0) := congrArg (·.1) i0
  have i3 : i.bytes = 1 := congrArg (·.2.1) i0
  have i4 : i.size = 1 := congrArg (·.2.2) i0
  have hs := h.sz
  have c0 := h.c0
  have hml : maxLen = 9223372036854775807 := by decide
  clear i0
  go_enter Tryd.func89, Tryd.ntmps89
  go_wp2_with (at_builtin; refine wpList_append_lies _ (by rfl) _ _ _ (by rfl) (N + 1) 5 i (.int .u8 0) 1 1 Tryd.underlying29 i1 i2 i4 i3 rfl (by omega) v n xs (by rfl) h.own ⟨g0, 0, none⟩ m c news (by rfl) (by rw [hl, Nat.mul_one]) hnews h1 hm (by omega) (by omega) (by omega) _ rfl ?_)
  intro g cap w2 hown hgrow hat hlt
  have hne : some N ≠ v.ownBlock := fun e => by have := h.own.lt N e.symm; omega
  have c0' := (hgrow.cell_far ⟨N, 0, none⟩ hs hne).trans h.c0
  have c1' := (hgrow.cell_far ⟨N, 1, none⟩ hs hne).trans h.c1
  have f0' := (hgrow.frozen_far ⟨N, 0, none⟩ hs hne).trans h.f0
  have f1' := (hgrow.frozen_far ⟨N, 1, none⟩ hs hne).trans h.f1
  have hb' := h.b.grown hgrow (by omega) (fun k e => by have := h.own.lt k e; omega)
  have hz' := hgrow.size
  have hW := WS.put c0' c1' f0' f1' hb' (by omega) hown 0
  clear c0 hat hgrow hnews h1
  go_wp2_with fail
  first | go_end0 | (simp only [Exit.inBlock, Exit.then]; refine bodyPost_ret (results_none rfl _ _ _) rfl ?_) | refine bodyPost_ret (results_none rfl _ _ _) rfl ?_
  exact ⟨rfl, _, hW⟩
end Go.Proofs.YtpicgjjbpiinfaaDoor
