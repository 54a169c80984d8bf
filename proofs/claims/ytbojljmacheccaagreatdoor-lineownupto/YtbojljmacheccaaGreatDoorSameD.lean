
import Derived.Test.YtbojljmacheccaaGreatDoorChainE
import Derived.Test.YtbojljmacheccaaGreatDoorChainAhit
import Derived.Test.YtbojljmacheccaaGreatDoorChainAmiss
import Derived.Test.YtbojljmacheccaaGreatDoorChainIhit
import Derived.Test.YtbojljmacheccaaGreatDoorChainImiss
import Derived.Deep.RegionWith
namespace Go.Proofs.YtbojljmacheccaaGreatDoor
open Go.RowKit
set_option linter.unusedVariables false
set_option linter.unusedSimpArgs false

/-- the variables of weirboth.Same: the document's error at N, e at N + 1, at at N + 2, in at N + 3. -/
structure St (w : World) (c A I : Int) (P Q : Bool) (e a a' i i' : Value) (v : World) : Prop where
  n0 : v.cell? ⟨w.heap.size, 0, none⟩ = some (.int .i64 c)
  n1 : v.cell? ⟨w.heap.size, 1, none⟩ = some (.int .i64 A)
  n2 : v.cell? ⟨w.heap.size, 2, none⟩ = some (.int .i64 I)
  n3 : v.cell? ⟨w.heap.size, 3, none⟩ = some (.bool P)
  n4 : v.cell? ⟨w.heap.size, 4, none⟩ = some (.bool Q)
  ce : v.cell? ⟨w.heap.size + 1, 0, none⟩ = some e
  ca : v.cell? ⟨w.heap.size + 1 + 1, 0, none⟩ = some a
  ca' : v.cell? ⟨w.heap.size + 1 + 1, 1, none⟩ = some a'
  ci : v.cell? ⟨w.heap.size + 1 + 1 + 1, 0, none⟩ = some i
  ci' : v.cell? ⟨w.heap.size + 1 + 1 + 1, 1, none⟩ = some i'
  fe : v.frozen? ⟨w.heap.size + 1, 0, none⟩ = false
  fa : v.frozen? ⟨w.heap.size + 1 + 1, 0, none⟩ = false
  fa' : v.frozen? ⟨w.heap.size + 1 + 1, 1, none⟩ = false
  fi : v.frozen? ⟨w.heap.size + 1 + 1 + 1, 0, none⟩ = false
  fi' : v.frozen? ⟨w.heap.size + 1 + 1 + 1, 1, none⟩ = false
  b : Below w.heap.size w v
  g : ET v
  z : w.heap.size + 3 < v.heap.size
theorem St.below {w v v' : World} {c A I : Int} {P Q : Bool} {e a a' i i' : Value} (h : St w c A I P Q e a a' i i' v) (hb : Below v.heap.size v v') : St w c A I P Q e a a' i i' v' := by
  obtain ⟨n0, n1, n2, n3, n4, ce, ca, ca', ci, ci', fe, fa, fa', fi, fi', b, g, z⟩ := h
  have cc : ∀ (p : Nat) (o : Nat), p ≤ w.heap.size + 3 → v'.cell? ⟨p, o, none⟩ = v.cell? ⟨p, o, none⟩ := fun p o hp => hb.cell (p := ⟨p, o, none⟩) (by simp; omega)
  have ff : ∀ (p : Nat) (o : Nat), p ≤ w.heap.size + 3 → v'.frozen? ⟨p, o, none⟩ = v.frozen? ⟨p, o, none⟩ := fun p o hp => hb.frozen (p := ⟨p, o, none⟩) (by simp; omega)
  have hs := hb.size
  refine ⟨?_, ?_, ?_, ?_, ?_, ?_, ?_, ?_, ?_, ?_, ?_, ?_, ?_, ?_, ?_, b.trans (hb.mono (by omega)), ET_below g hb, by omega⟩
  · rw [cc _ _ (by omega)]; exact n0
  · rw [cc _ _ (by omega)]; exact n1
  · rw [cc _ _ (by omega)]; exact n2
  · rw [cc _ _ (by omega)]; exact n3
  · rw [cc _ _ (by omega)]; exact n4
  · rw [cc _ _ (by omega)]; exact ce
  · rw [cc _ _ (by omega)]; exact ca
  · rw [cc _ _ (by omega)]; exact ca'
  · rw [cc _ _ (by omega)]; exact ci
  · rw [cc _ _ (by omega)]; exact ci'
  · rw [ff _ _ (by omega)]; exact fe
  · rw [ff _ _ (by omega)]; exact fa
  · rw [ff _ _ (by omega)]; exact fa'
  · rw [ff _ _ (by omega)]; exact fi
  · rw [ff _ _ (by omega)]; exact fi'
theorem ET_set {w : World} (h : ET w) (p : Addr) (x : Value) (hp : p.block ≠ 0) : ET (w.setCell p x) := by
  unfold ET at *
  rw [World.cell?_setCell_other _ _ _ _ (by intro e; rw [e] at hp; exact hp rfl)]; exact h
theorem St.drew {w v : World} {c A I : Int} {P Q : Bool} {e a a' i i' : Value} (h : St w c A I P Q e a a' i i' v) : St w c A I P Q e a a' i i' v.drew :=
  ⟨h.n0, h.n1, h.n2, h.n3, h.n4, h.ce, h.ca, h.ca', h.ci, h.ci', h.fe, h.fa, h.fa', h.fi, h.fi', h.b.drew, h.g, h.z⟩
theorem St.setE {w v : World} {c A I : Int} {P Q : Bool} {e a a' i i' : Value} (h : St w c A I P Q e a a' i i' v) (hw : 0 < w.heap.size) (x : Value) : St w c A I P Q x a a' i i' (v.setCell ⟨w.heap.size + 1, 0, none⟩ x) := by
  obtain ⟨n0, n1, n2, n3, n4, ce, ca, ca', ci, ci', fe, fa, fa', fi, fi', b, g, z⟩ := h
  have ot : ∀ p o, p ≠ w.heap.size + 1 → (v.setCell ⟨w.heap.size + 1, 0, none⟩ x).cell? ⟨p, o, none⟩ = v.cell? ⟨p, o, none⟩ := fun p o hp => World.cell?_setCell_other _ _ _ _ (by intro e; injection e with e1; omega)
  refine ⟨?_, ?_, ?_, ?_, ?_, World.cell?_setCell_same _ _ _ ce, ?_, ?_, ?_, ?_, by simpa using fe, by simpa using fa, by simpa using fa', by simpa using fi, by simpa using fi', b.setCell (by simp) _, ET_set g _ _ (show w.heap.size + 1 ≠ 0 by omega), by simpa using z⟩
  all_goals (rw [ot _ _ (by omega)]; assumption)
theorem St.setA {w v : World} {c A I : Int} {P Q : Bool} {e a a' i i' : Value} (h : St w c A I P Q e a a' i i' v) (hw : 0 < w.heap.size) (x y : Value) : St w c A I P Q e x y i i' ((v.setCell ⟨w.heap.size + 1 + 1, 0, none⟩ x).setCell ⟨w.heap.size + 1 + 1, 0 + 1, none⟩ y) := by
  obtain ⟨n0, n1, n2, n3, n4, ce, ca, ca', ci, ci', fe, fa, fa', fi, fi', b, g, z⟩ := h
  have ot : ∀ p o, p ≠ w.heap.size + 1 + 1 → ((v.setCell ⟨w.heap.size + 1 + 1, 0, none⟩ x).setCell ⟨w.heap.size + 1 + 1, 0 + 1, none⟩ y).cell? ⟨p, o, none⟩ = v.cell? ⟨p, o, none⟩ := fun p o hp => by
    rw [World.cell?_setCell_other _ _ _ _ (by intro e; injection e with e1; omega), World.cell?_setCell_other _ _ _ _ (by intro e; injection e with e1; omega)]
  refine ⟨?_, ?_, ?_, ?_, ?_, ?_, ?_, ?_, ?_, ?_, by simpa using fe, by simpa using fa, by simpa using fa', by simpa using fi, by simpa using fi', (b.setCell (p := ⟨w.heap.size + 1 + 1, 0, none⟩) (show w.heap.size ≤ w.heap.size + 1 + 1 by omega) _).setCell (p := ⟨w.heap.size + 1 + 1, 0 + 1, none⟩) (show w.heap.size ≤ w.heap.size + 1 + 1 by omega) _, ET_set (ET_set g _ _ (show w.heap.size + 1 + 1 ≠ 0 by omega)) _ _ (show w.heap.size + 1 + 1 ≠ 0 by omega), by simpa using z⟩
  case refine_7 => rw [World.cell?_setCell_other _ _ _ _ (by simp)]; exact World.cell?_setCell_same _ _ _ ca
  case refine_8 => exact World.cell?_setCell_same _ _ _ (u := a') (by rw [World.cell?_setCell_other _ _ _ _ (by simp)]; exact ca')
  all_goals (rw [ot _ _ (by omega)]; assumption)
theorem St.setI {w v : World} {c A I : Int} {P Q : Bool} {e a a' i i' : Value} (h : St w c A I P Q e a a' i i' v) (hw : 0 < w.heap.size) (x y : Value) : St w c A I P Q e a a' x y ((v.setCell ⟨w.heap.size + 1 + 1 + 1, 0, none⟩ x).setCell ⟨w.heap.size + 1 + 1 + 1, 0 + 1, none⟩ y) := by
  obtain ⟨n0, n1, n2, n3, n4, ce, ca, ca', ci, ci', fe, fa, fa', fi, fi', b, g, z⟩ := h
  have ot : ∀ p o, p ≠ w.heap.size + 1 + 1 + 1 → ((v.setCell ⟨w.heap.size + 1 + 1 + 1, 0, none⟩ x).setCell ⟨w.heap.size + 1 + 1 + 1, 0 + 1, none⟩ y).cell? ⟨p, o, none⟩ = v.cell? ⟨p, o, none⟩ := fun p o hp => by
    rw [World.cell?_setCell_other _ _ _ _ (by intro e; injection e with e1; omega), World.cell?_setCell_other _ _ _ _ (by intro e; injection e with e1; omega)]
  refine ⟨?_, ?_, ?_, ?_, ?_, ?_, ?_, ?_, ?_, ?_, by simpa using fe, by simpa using fa, by simpa using fa', by simpa using fi, by simpa using fi', (b.setCell (p := ⟨w.heap.size + 1 + 1 + 1, 0, none⟩) (show w.heap.size ≤ w.heap.size + 1 + 1 + 1 by omega) _).setCell (p := ⟨w.heap.size + 1 + 1 + 1, 0 + 1, none⟩) (show w.heap.size ≤ w.heap.size + 1 + 1 + 1 by omega) _, ET_set (ET_set g _ _ (show w.heap.size + 1 + 1 + 1 ≠ 0 by omega)) _ _ (show w.heap.size + 1 + 1 + 1 ≠ 0 by omega), by simpa using z⟩
  case refine_9 => rw [World.cell?_setCell_other _ _ _ _ (by simp)]; exact World.cell?_setCell_same _ _ _ ci
  case refine_10 => exact World.cell?_setCell_same _ _ _ (u := i') (by rw [World.cell?_setCell_other _ _ _ _ (by simp)]; exact ci')
  all_goals (rw [ot _ _ (by omega)]; assumption)
theorem St.start (w : World) (hg : ET w) (c A I : Int) (P Q : Bool) : St w c A I P Q (.int .i64 0) (.int .i64 0) .nilIface (.int .i64 0) .nilIface
    ((((w.alloc (.cells #[.int .i64 c, .int .i64 A, .int .i64 I, .bool P, .bool Q] 35)).alloc (.cells #[.int .i64 0] 33)).alloc (.cells #[.int .i64 0, .nilIface] 105)).alloc (.cells #[.int .i64 0, .nilIface] 107)) := by
  refine ⟨?_, ?_, ?_, ?_, ?_, ?_, ?_, ?_, ?_, ?_, ?_, ?_, ?_, ?_, ?_, below_new (below_new (below_new (below_new (Below.refl _ _) _) _) _) _, ET_alloc (ET_alloc (ET_alloc (ET_alloc hg _) _) _) _, by simp⟩
  all_goals simp [go_sem, World.cell?_alloc_past, World.frozen?_alloc_past]

set_option maxRecDepth 100000 in
set_option maxHeartbeats 8000000 in
theorem sameC_hit_hit (l : List (Bool × Int)) (c : Int) (hc : (c == 0) = false) (n : Int) (r : List (Bool × Int)) (hA : findK false l = some (n, r)) (m : Int) (s : List (Bool × Int)) (hI : findK true l = some (m, s)) (w : World) (hg : ET w) :
    Calls Tryz.prog 10 #[errV l c, .agg #[.int .i64 c, .int .i64 n, .int .i64 m, .bool true, .bool true]] w fun e w' => e = .returned (.bool true) ∧ Below w.heap.size w w' := by
  have hlt := ET_lt hg
  have HA : Hid _ := hA
  have HI : Hid _ := hI
  clear hA hI
  have enn := errV_notnil l c
  have egd := errV_guard l c
  go_enter Tryz.func10, Tryz.ntmps10
  go_wp2_with fail
  refine (chain_E l c ⟨w.heap.size + 1, 0, none⟩ (.int .i64 0) _ ?_ ?_ ?_).mono ?_
  · exact (St.start w hg c n m true true).g
  · exact (St.start w hg c n m true true).ce
  · exact (St.start w hg c n m true true).fe
  rintro ev v1 ⟨rfl, w1, hB1, hw1⟩
  have S1 := ((St.start w hg c n m true true).below hB1).setE hlt (.int .i64 c)
  rw [← hw1] at S1
  clear hw1
  obtain ⟨r0, r1, r2, r3, r4, re, ra, ra', ri, ri', ze, za, za', zi, zi', zb, zg, zz⟩ := id S1
  go_wp2_with fail
  go_region_with (first | (go_at_call 37; (with_reducible refine (chain_A_hit l c n r HA.out (w.heap.size + 1 + 1) 0 (.int .i64 0) .nilIface _ ?_ ?_ ?_ ?_ ?_).mono ?_); exact S1.g; exact S1.ca; exact S1.ca'; exact S1.fa; exact S1.fa'; rintro ev v2 ⟨rfl, w2, hB2, hw2⟩; have S2 := (S1.drew.below hB2).setA hlt (.int .i64 n) (errV r c); rw [← hw2] at S2; clear hw2; obtain ⟨s0, s1, s2, s3, s4, se, sa, sa', si, si', xe, xa, xa', xi, xi', xb, xg, xz⟩ := id S2) | (go_at_call 37; (with_reducible refine (chain_I_hit l c m s HI.out (w.heap.size + 1 + 1 + 1) 0 (.int .i64 0) .nilIface _ ?_ ?_ ?_ ?_ ?_).mono ?_); exact S2.g; exact S2.ci; exact S2.ci'; exact S2.fi; exact S2.fi'; rintro ev v3 ⟨rfl, w3, hB3, hw3⟩; have S3 := (S2.below hB3).setI hlt (.int .i64 m) (errV s c); rw [← hw3] at S3; clear hw3; obtain ⟨t0, t1, t2, t3, t4, te, ta, ta', ti, ti', ye, ya, ya', yi, yi', yb, yg, yz⟩ := id S3))
  all_goals
    go_wp2
    go_ret
    exact ⟨rfl, yb⟩

set_option maxRecDepth 100000 in
set_option maxHeartbeats 8000000 in
theorem sameC_miss_hit (l : List (Bool × Int)) (c : Int) (hc : (c == 0) = false) (hA : findK false l = none) (m : Int) (s : List (Bool × Int)) (hI : findK true l = some (m, s)) (w : World) (hg : ET w) :
    Calls Tryz.prog 10 #[errV l c, .agg #[.int .i64 c, .int .i64 0, .int .i64 m, .bool false, .bool true]] w fun e w' => e = .returned (.bool true) ∧ Below w.heap.size w w' := by
  have hlt := ET_lt hg
  have HA : Hid _ := hA
  have HI : Hid _ := hI
  clear hA hI
  have enn := errV_notnil l c
  have egd := errV_guard l c
  go_enter Tryz.func10, Tryz.ntmps10
  go_wp2_with fail
  refine (chain_E l c ⟨w.heap.size + 1, 0, none⟩ (.int .i64 0) _ ?_ ?_ ?_).mono ?_
  · exact (St.start w hg c 0 m false true).g
  · exact (St.start w hg c 0 m false true).ce
  · exact (St.start w hg c 0 m false true).fe
  rintro ev v1 ⟨rfl, w1, hB1, hw1⟩
  have S1 := ((St.start w hg c 0 m false true).below hB1).setE hlt (.int .i64 c)
  rw [← hw1] at S1
  clear hw1
  obtain ⟨r0, r1, r2, r3, r4, re, ra, ra', ri, ri', ze, za, za', zi, zi', zb, zg, zz⟩ := id S1
  go_wp2_with fail
  go_region_with (first | (go_at_call 37; (with_reducible refine (chain_A_miss l c HA.out ⟨w.heap.size + 1 + 1, 0, none⟩ _ ?_).mono ?_); exact S1.g; rintro ev v2 ⟨rfl, hB2⟩; have S2 := S1.drew.below hB2; obtain ⟨s0, s1, s2, s3, s4, se, sa, sa', si, si', xe, xa, xa', xi, xi', xb, xg, xz⟩ := id S2) | (go_at_call 37; (with_reducible refine (chain_I_hit l c m s HI.out (w.heap.size + 1 + 1 + 1) 0 (.int .i64 0) .nilIface _ ?_ ?_ ?_ ?_ ?_).mono ?_); exact S2.g; exact S2.ci; exact S2.ci'; exact S2.fi; exact S2.fi'; rintro ev v3 ⟨rfl, w3, hB3, hw3⟩; have S3 := (S2.below hB3).setI hlt (.int .i64 m) (errV s c); rw [← hw3] at S3; clear hw3; obtain ⟨t0, t1, t2, t3, t4, te, ta, ta', ti, ti', ye, ya, ya', yi, yi', yb, yg, yz⟩ := id S3))
  all_goals
    go_wp2
    go_ret
    exact ⟨rfl, yb⟩

end Go.Proofs.YtbojljmacheccaaGreatDoor

