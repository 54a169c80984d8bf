
import Derived.Test.YtbojljmacheccaaGreatDoorChainE
import Derived.Test.YtbojljmacheccaaGreatDoorChainAhit
import Derived.Test.YtbojljmacheccaaGreatDoorChainAmiss
import Derived.Test.YtbojljmacheccaaGreatDoorChainIhit
import Derived.Test.YtbojljmacheccaaGreatDoorChainImiss
import Derived.Deep.RegionWith
namespace Go.Proofs.YtbojljmacheccaaGreatDoor
open Go.RowKit
set_option linter.unusedVariables false
set_option linter.unusedSimpArgs false

/-- the variables of weirboth.Same: the document's error at N, e at N + 1, at at N + 2, in at N + 3. -/
structure St (w : World) (c A I : Int) (P Q : Bool) (e a a' i i' : Value) (v : World) : Prop where
  n0 : v.cell? ⟨w.heap.size, 0, none⟩ = some (.int .i64 c)
  n1 : v.cell? ⟨w.heap.size, 1, none⟩ = some (.int .i64 A)
  n2 : v.cell? ⟨w.heap.size, 2, none⟩ = some (.int .i64 I)
  n3 : v.cell? ⟨w.heap.size, 3, none⟩ = some (.bool P)
  n4 : v.cell? ⟨w.heap.size, 4, none⟩ = some (.bool Q)
  ce : v.cell? ⟨w.heap.size + 1, 0, none⟩ = some e
  ca : v.cell? ⟨w.heap.size + 1 + 1, 0, none⟩ = some a
  ca' : v.cell? ⟨w.heap.size + 1 + 1, 1, none⟩ = some a'
  ci : v.cell? ⟨w.heap.size + 1 + 1 + 1, 0, none⟩ = some i
  ci' : v.cell? ⟨w.heap.size + 1 + 1 + 1, 1, none⟩ = some i'
  fe : v.frozen? ⟨w.heap.size + 1, 0, none⟩ = false
  fa : v.frozen? ⟨w.heap.size + 1 + 1, 0, none⟩ = false
  fa' : v.frozen? ⟨w.heap.size + 1 + 1, 1, none⟩ = false
  fi : v.frozen? ⟨w.heap.size + 1 + 1 + 1, 0, none⟩ = false
  fi' : v.frozen? ⟨w.heap.size + 1 + 1 + 1, 1, none⟩ = false
  b : Below w.heap.size w v
  g : ET v
  z : w.heap.size + 3 < v.heap.size
theorem St.below {w v v' : World} {c A I : Int} {P Q : Bool} {e a a' i i' : Value} (h : St w c A I P Q e a a' i i' v) (hb : Below v.heap.size v v') : St w c A I P Q e a a' i i' v' := by
  obtain ⟨n0, n1, n2, n3, n4, ce, ca, ca', ci, ci', fe, fa, fa', fi, fi', b, g, z⟩ := h
  have cc : ∀ (p : Nat) (o : Nat), p ≤ w.heap.size + 3 → v'.cell? ⟨p, o, none⟩ = v.cell? ⟨p, o, none⟩ := fun p o hp => hb.cell (p := ⟨p, o, none⟩) (by simp; omega)
  have ff : ∀ (p : Nat) (o : Nat), p ≤ w.heap.size + 3 → v'.frozen? ⟨p, o, none⟩ = v.frozen? ⟨p, o, none⟩ := fun p o hp => hb.frozen (p := ⟨p, o, none⟩) (by simp; omega)
  have hs := hb.size
  refine ⟨?_, ?_, ?_, ?_, ?_, ?_, ?_, ?_, ?_, ?_, ?_, ?_, ?_, ?_, ?_, b.trans (hb.mono (by omega)), ET_below g hb, by omega⟩
  · rw [cc _ _ (by omega)]; exact n0
  · rw [cc _ _ (by omega)]; exact n1
  · rw [cc _ _ (by omega)]; exact n2
  · rw [cc _ _ (by omega)]; exact n3
  · rw [cc _ _ (by omega)]; exact n4
  · rw [cc _ _ (by omega)]; exact ce
  · rw [cc _ _ (by omega)]; exact ca
  · rw [cc _ _ (by omega)]; exact ca'
  · rw [cc _ _ (by omega)]; exact ci
  · rw [cc _ _ (by omega)]; exact ci'
  · rw [ff _ _ (by omega)]; exact fe
  · rw [ff _ _ (by omega)]; exact fa
  · rw [ff _ _ (by omega)]; exact fa'
  · rw [ff _ _ (by omega)]; exact fi
  · rw [ff _ _ (by omega)]; exact fi'
theorem ET_set {w : World} (h : ET w) (p : Addr) (x : Value) (hp : p.block ≠ 0) : ET (w.setCell p x) := by
  unfold ET at *
  rw [World.cell?_setCell_other _ _ _ _ (by intro e; rw [e] at hp; exact hp rfl)]; exact h
theorem St.drew {w v : World} {c A I : Int} {P Q : Bool} {e a a' i i' : Value} (h : St w c A I P Q e a a' i i' v) : St w c A I P Q e a a' i i' v.drew :=
  ⟨h.n0, h.n1, h.n2, h.n3, h.n4, h.ce, h.ca, h.ca', h.ci, h.ci', h.fe, h.fa, h.fa', h.fi, h.fi', h.b.drew, h.g, h.z⟩
theorem St.setE {w v : World} {c A I : Int} {P Q : Bool} {e a a' i i' : Value} (h : St w c A I P Q e a a' i i' v) (hw : 0 < w.heap.size) (x : Value) : St w c A I P Q x a a' i i' (v.setCell ⟨w.heap.size + 1, 0, none⟩ x) := by
  obtain ⟨n0, n1, n2, n3, n4, ce, ca, ca', ci, ci', fe, fa, fa', fi, fi', b, g, z⟩ := h
  have ot : ∀ p o, p ≠ w.heap.size + 1 → (v.setCell ⟨w.heap.size + 1, 0, none⟩ x).cell? ⟨p, o, none⟩ = v.cell? ⟨p, o, none⟩ := fun p o hp => World.cell?_setCell_other _ _ _ _ (by intro e; injection e with e1; omega)
  refine ⟨?_, ?_, ?_, ?_, ?_, World.cell?_setCell_same _ _ _ ce, ?_, ?_, ?_, ?_, by simpa using fe, by simpa using fa, by simpa using fa', by simpa using fi, by simpa using fi', b.setCell (by simp) _, ET_set g _ _ (show w.heap.size + 1 ≠ 0 by omega), by simpa using z⟩
  all_goals (rw [ot _ _ (by omega)]; assumption)
theorem St.setA {w v : World} {c A I : Int} {P Q : Bool} {e a a' i i' : Value} (h : St w c A I P Q e a a' i i' v) (hw : 0 < w.heap.size) (x y : Value) : St w c A I P Q e x y i i' ((v.setCell ⟨w.heap.size + 1 + 1, 0, none⟩ x).setCell ⟨w.heap.size + 1 + 1, 0 + 1, none⟩ y) := by
  obtain ⟨n0, n1, n2, n3, n4, ce, ca, ca', ci, ci', fe, fa, fa', fi, fi', b, g, z⟩ := h
  have ot : ∀ p o, p ≠ w.heap.size + 1 + 1 → ((v.setCell ⟨w.heap.size + 1 + 1, 0, none⟩ x).setCell ⟨w.heap.size + 1 + 1, 0 + 1, none⟩ y).cell? ⟨p, o, none⟩ = v.cell? ⟨p, o, none⟩ := fun p o hp => by
    rw [World.cell?_setCell_other _ _ _ _ (by intro e; injection e with e1; omega), World.cell?_setCell_other _ _ _ _ (by intro e; injection e with e1; omega)]
  refine ⟨?_, ?_, ?_, ?_, ?_, ?_, ?_, ?_, ?_, ?_, by simpa using fe, by simpa using fa, by simpa using fa', by simpa using fi, by simpa using fi', (b.setCell (p := ⟨w.heap.size + 1 + 1, 0, none⟩) (show w.heap.size ≤ w.heap.size + 1 + 1 by omega) _).setCell (p := ⟨w.heap.size + 1 + 1, 0 + 1, none⟩) (show w.heap.size ≤ w.heap.size + 1 + 1 by omega) _, ET_set (ET_set g _ _ (show w.heap.size + 1 + 1 ≠ 0 by omega)) _ _ (show w.heap.size + 1 + 1 ≠ 0 by omega), by simpa using z⟩
  case refine_7 => rw [World.cell?_setCell_other _ _ _ _ (by simp)]; exact World.cell?_setCell_same _ _ _ ca
  case refine_8 => exact World.cell?_setCell_same _ _ _ (u := a') (by rw [World.cell?_setCell_other _ _ _ _ (by simp)]; exact ca')
  all_goals (rw [ot _ _ (by omega)]; assumption)
theorem St.start (w : World) (hg : ET w) (c A I : Int) (P Q : Bool) : St w c A I P Q (.int .i64 0) (.int .i64 0) .nilIface (.int .i64 0) .nilIface
    ((((w.alloc (.cells #[.int .i64 c, .int .i64 A, .int .i64 I, .bool P, .bool Q] 35)).alloc (.cells #[.int .i64 0] 33)).alloc (.cells #[.int .i64 0, .nilIface] 105)).alloc (.cells #[.int .i64 0, .nilIface] 107)) := by
  refine ⟨?_, ?_, ?_, ?_, ?_, ?_, ?_, ?_, ?_, ?_, ?_, ?_, ?_, ?_, ?_, below_new (below_new (below_new (below_new (Below.refl _ _) _) _) _) _, ET_alloc (ET_alloc (ET_alloc (ET_alloc hg _) _) _) _, by simp⟩
  all_goals simp [go_sem, World.cell?_alloc_past, World.frozen?_alloc_past]

end Go.Proofs.YtbojljmacheccaaGreatDoor

