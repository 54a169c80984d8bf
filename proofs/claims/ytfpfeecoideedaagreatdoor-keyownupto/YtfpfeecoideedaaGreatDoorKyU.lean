
import Derived.Test.YtfpfeecoideedaaGreatDoorKyK
import Derived.Test.YtfpfeecoideedaaGreatDoorKyT
import Derived.RangeFuncBox
namespace Go.Proofs.YtfpfeecoideedaaGreatDoor
open Go.RowKit Go.Shelf
attribute [local go_sem] Oper.semAt_some
set_option linter.unusedVariables false
set_option linter.unusedSimpArgs false
/-- an error at a place, as Unescape tells it. -/
def atV (p : Int) : Value := .iface 94 (.agg #[.int .i64 p, .iface 29 (.int .i64 53)])
set_option maxRecDepth 100000 in
theorem at_any (p : Int) (w : World) : Calls Tryz.prog 96 #[.int .i64 p, .int .i64 53] w fun e w' => e = .returned (atV p) ∧ Below w.heap.size w w' := by
  go_enter Tryz.func96, Tryz.ntmps96
  go_wp2_with fail
  go_ret
  exact ⟨rfl, by first | exact Below.refl _ _ | exact (Below.refl _ w).alloc (Nat.le_refl _) _⟩
theorem boxed_below {W W' : World} {B : Nat} {t : TypeId} {v : Value} (h : Boxed W B t v) (hb : Below W.heap.size W W') : Boxed W' B t v := h.kept (below_grown hb) (by simp)
theorem boxed_others {W W' : World} {B b : Nat} {t : TypeId} {v : Value} (h : Boxed W B t v) (hO : Lib.OthersKept 5 (some b) W W') (hne : B ≠ b) (ht : t ≠ 5) : Boxed W' B t v :=
  hO B _ h (by simpa using hne) (fun c fz e => by cases e; exact ht rfl)
theorem builderAt_set {B b j : Nat} {p : Value} {bs : List Value} {W : World} {t : TypeId} {u : Value} (h : Lib.BuilderAtF 110 5 B b p bs W) (hj : Boxed W j t u) (hne : j ≠ b) (ht : t ≠ 5) (v : Value) : Lib.BuilderAtF 110 5 B b p bs (W.setCell ⟨j, 0, none⟩ v) := by
  have hlt := h.lt
  obtain ⟨hB, x, hv, hown, hn⟩ := h
  have hg := grownBy_setCell' W j v
  refine ⟨hB, x, ?_, ⟨hown.1, ?_⟩, hn⟩
  · exact (hg.block b hlt (fun e => hne (by cases e; rfl))).trans hv
  · rcases hown.2 with hn2 | ⟨g, cap, cur, fz, hv2, hbg, hgg, rest⟩
    · exact .inl hn2
    · refine .inr ⟨g, cap, cur, fz, hv2, hbg, ?_, rest⟩
      refine (hg.block g (Array.getElem?_eq_some_iff.1 hgg).1 (fun e => ?_)).trans hgg
      cases e
      have hj' : W.heap[j]? = some (.cells #[u] t (0, 0)) := hj
      rw [hgg] at hj'
      cases hj'
      exact ht rfl
theorem builder_set {B b j : Nat} {bs : List Value} {W : World} {t : TypeId} {u : Value} (h : Lib.IsBuilderF 110 5 B b bs W) (hj : Boxed W j t u) (hne : j ≠ b) (ht : t ≠ 5) (v : Value) : Lib.IsBuilderF 110 5 B b bs (W.setCell ⟨j, 0, none⟩ v) :=
  h.elim (fun x => .inl (builderAt_set x hj hne ht v)) (fun x => .inr (builderAt_set x hj hne ht v))
/-- the three results. -/
def RS (w : World) (t : ByteArray) (n : Int) (er : Value) (W : World) : Prop := Boxed W w.heap.size 9 (.string t) ∧ Boxed W (w.heap.size + 1) 3 (.int .i64 n) ∧ Boxed W (w.heap.size + 2) 26 er
/-- while a text is read: the Builder holds what was said, is an escape open. -/
def US (s : ByteArray) (w : World) (e : Bool) (acc : List UInt8) (W : World) : Prop := Lib.IsBuilderF 110 5 (w.heap.size + 3) (w.heap.size + 3) (Lib.byteCells acc) W ∧ Boxed W (w.heap.size + 4) 4 (.bool e) ∧ Boxed W (w.heap.size + 5) 9 (.string s) ∧ RS w ⟨#[]⟩ 0 .nilIface W ∧ Below w.heap.size w W
theorem US.below {s : ByteArray} {w : World} {e : Bool} {acc : List UInt8} {W W' : World} (h : US s w e acc W) (hb : Below W.heap.size W W') : US s w e acc W' := by
  obtain ⟨h1, h2, h3, ⟨h4, h5, h6⟩, h7⟩ := h
  exact ⟨builder_below h1 hb, boxed_below h2 hb, boxed_below h3 hb, ⟨boxed_below h4 hb, boxed_below h5 hb, boxed_below h6 hb⟩, h7.trans (hb.mono h7.size)⟩
theorem US.setE {s : ByteArray} {w : World} {e : Bool} {acc : List UInt8} {W : World} (h : US s w e acc W) (e' : Bool) : US s w e' acc (W.setCell ⟨w.heap.size + 4, 0, none⟩ (.bool e')) := by
  obtain ⟨h1, h2, h3, ⟨h4, h5, h6⟩, h7⟩ := h
  exact ⟨builder_set h1 h2 (by omega) (by decide) _, h2.set _, h3.other (by omega) _, ⟨h4.other (by omega) _, h5.other (by omega) _, h6.other (by omega) _⟩, h7.setCell (p := ⟨w.heap.size + 4, 0, none⟩) (by simp) _⟩
theorem US.lt {s : ByteArray} {w : World} {e : Bool} {acc : List UInt8} {W : World} (h : US s w e acc W) : w.heap.size + 5 < W.heap.size := h.2.2.1.lt
theorem US.write {s : ByteArray} {w : World} {e : Bool} {acc : List UInt8} {W : World} (h : US s w e acc W) (t : ByteArray) (ht : acc.length + t.size ≤ 140737488355328) :
    Calls Tryz.prog 39 #[.pointer (some ⟨w.heap.size + 3, 0, none⟩), .string t] W fun ev w' => ev = .returned (.tuple #[.int .i64 t.size, .nilIface]) ∧ US s w e (acc ++ t.data.toList) w' ∧ KeepsOthers W w' ∧ KeepB (w.heap.size + 5) W w' := by
  have hl := h.lt
  obtain ⟨h1, h2, h3, ⟨h4, h5, h6⟩, h7⟩ := h
  refine (Tryz.Builder_WriteString_k (w.heap.size + 3) (w.heap.size + 3) (Lib.byteCells acc) t W h1 (by rw [Lib.byteCells_length]; exact ht) (by omega)).mono ?_
  rintro ev w' ⟨rfl, k1, k2, k3⟩
  have k5 := boxed_others h3 k3 (by omega) (by decide)
  refine ⟨rfl, ⟨?_, boxed_others h2 k3 (by omega) (by decide), k5, ⟨boxed_others h4 k3 (by omega) (by decide), boxed_others h5 k3 (by omega) (by decide), boxed_others h6 k3 (by omega) (by decide)⟩, h7.trans (k2.mono (by omega))⟩, others_keeps (p := undef) k3 k2.size h1, k2.size, ?_⟩
  · rw [cells_append]; exact .inr k1
  · have a1 : w'.heap[w.heap.size + 5]? = _ := k5
    have a2 : W.heap[w.heap.size + 5]? = _ := h3
    rw [a1, a2]
theorem US.text {s : ByteArray} {w : World} {e : Bool} {acc : List UInt8} {W : World} (h : US s w e acc W) :
    Calls Tryz.prog 41 #[.pointer (some ⟨w.heap.size + 3, 0, none⟩)] W fun ev w' => ev = .returned (.string ⟨acc.toArray⟩) ∧ US s w e acc w' ∧ KeepsOthers W w' := by
  have hl := h.lt
  obtain ⟨h1, h2, h3, ⟨h4, h5, h6⟩, h7⟩ := h
  refine (Tryz.Builder_String_any_k (w.heap.size + 3) (w.heap.size + 3) acc W h1 (by omega)).mono ?_
  rintro ev w' ⟨rfl, k1, k2, k3⟩
  exact ⟨rfl, ⟨k1, boxed_others h2 k3 (by omega) (by decide), boxed_others h3 k3 (by omega) (by decide), ⟨boxed_others h4 k3 (by omega) (by decide), boxed_others h5 k3 (by omega) (by decide), boxed_others h6 k3 (by omega) (by decide)⟩, h7.trans (k2.mono (by omega))⟩, others_keeps (p := undef) k3 k2.size h1⟩
theorem boxed_kept {W W' : World} {row : Option Nat} {B : Nat} {t : TypeId} {v : Value} (h : Boxed W B t v) (hg : W.grownBy W' row) (hr : ∀ r, row = some r → ∃ o : Obj, W.heap[r]? = some o ∧ o.isCells = false) : Boxed W' B t v := h.kept hg (fun e => by
  obtain ⟨o, ho, hc⟩ := hr B e.symm
  have h' : W.heap[B]? = some (.cells #[v] t (0, 0)) := h
  rw [h'] at ho
  cases ho
  cases hc)
theorem US.own {s : ByteArray} {w : World} {e : Bool} {acc : List UInt8} {W W' : World} {row : Option Nat} {B : Nat} (hB : w.heap.size ≤ B) (h : US s w e acc W) (hg : W.grownBy W' row) (hr : ∀ r, row = some r → B ≤ r ∧ ∃ o : Obj, W.heap[r]? = some o ∧ o.isCells = false) : US s w e acc W' := by
  have hr2 : ∀ r, row = some r → ∃ o : Obj, W.heap[r]? = some o ∧ o.isCells = false := fun r e => (hr r e).2
  obtain ⟨h1, h2, h3, ⟨h4, h5, h6⟩, h7⟩ := h
  refine ⟨builder_kept h1 hg hr2, boxed_kept h2 hg hr2, boxed_kept h3 hg hr2, ⟨boxed_kept h4 hg hr2, boxed_kept h5 hg hr2, boxed_kept h6 hg hr2⟩, ?_⟩
  obtain ⟨g1, g2, g3, g4, g5⟩ := hg
  exact h7.trans ⟨g1, g2, g3, g4, fun k hk => g5 k (by have := h7.size; omega) (fun e => by have := (hr k e.symm).1; omega)⟩
theorem RS.own {w : World} {t : ByteArray} {n : Int} {er : Value} {W W' : World} {row : Option Nat} (h : RS w t n er W) (hg : W.grownBy W' row) (hr : ∀ r, row = some r → ∃ o : Obj, W.heap[r]? = some o ∧ o.isCells = false) : RS w t n er W' := ⟨boxed_kept h.1 hg hr, boxed_kept h.2.1 hg hr, boxed_kept h.2.2 hg hr⟩
/-- the three results are laid. -/
def setR (w W : World) (t : ByteArray) (n : Int) (er : Value) : World := ((W.setCell ⟨w.heap.size, 0, none⟩ (.string t)).setCell ⟨w.heap.size + 1, 0, none⟩ (.int .i64 n)).setCell ⟨w.heap.size + 2, 0, none⟩ er
theorem setR_ok {w W : World} {t0 t : ByteArray} {n0 n : Int} {e0 er : Value} (h : RS w t0 n0 e0 W) : RS w t n er (setR w W t n er) :=
  ⟨((h.1.set _).other (by omega) _).other (by omega) _, ((h.2.1.other (by omega) _).set _).other (by omega) _, ((h.2.2.other (by omega) _).other (by omega) _).set _⟩
end Go.Proofs.YtfpfeecoideedaaGreatDoor
