
import Derived.Test.YtdfnomglkibfbaaGreatDoorVfB
import Derived.Test.YtdfnomglkibfbaaGreatDoorVfE
import Derived.Maps.OwnSet
import Derived.ProofKit
import Derived.OpenShut
import Derived.WalkSmall
namespace Go.Proofs.YtdfnomglkibfbaaGreatDoor.Vf
open Go.RowKit Go.Maps
set_option linter.unusedVariables false
set_option linter.unusedSimpArgs false
set_option maxRecDepth 100000
/-- a map of places to heights: what f says of each place, c entries. -/
def MI (w : World) (mb : Nat) (f : Nat → Option Int) (c : Nat) : Prop := ∃ D : DataW Unit, w.ownsMap Tryz.prog 3 (plainElem Tryz.prog 3) mb c D ∧ Maps.size D = c ∧ ∀ k : Nat, k ≤ 4611686018427387904 → has D (.int .i64 (k : Int)) = (f k).isSome ∧ ∀ i z, f k = some i → D.atKey (.int .i64 (k : Int)) z = .lit (.int .i64 i)
theorem int_key : Keyed Tryz.prog 3 := int_keyed Tryz.underlying3
theorem int_wf {i : Int} (h1 : -4611686018427387904 ≤ i) (h2 : i ≤ 4611686018427387904) : (Lit.int .i64 i).wf = true := by
  simp [Lit.wf, IntKind.min, IntKind.max, IntKind.bits, IntKind.signed]; omega
theorem key_int {k : Nat} (h : k ≤ 4611686018427387904) : keyOf Tryz.prog 3 (.int .i64 (k : Int)) = some (.int .i64 (k : Int)) := keyOf_int_mk Tryz.underlying3 (int_wf (by omega) (by omega))
theorem isKeyI (k : Int) : WideAt.IsKeyLit (.int .i64 k) := by first | exact trivial | simp [WideAt.IsKeyLit]
theorem MI.lt {w : World} {mb c : Nat} {f : Nat → Option Int} (h : MI w mb f c) : mb < w.heap.size := by obtain ⟨D, h1, _⟩ := h; exact h1.lt
theorem MI.keep {w w' : World} {mb c : Nat} {f : Nat → Option Int} (h : MI w mb f c) (hb : w'.heap[mb]? = w.heap[mb]?) : MI w' mb f c := by
  obtain ⟨D, ⟨es, clock, h1, h2⟩, h3⟩ := h
  exact ⟨D, ⟨es, clock, hb.trans h1, h2⟩, h3⟩
theorem MI.start (w : World) : MI (w.alloc (.map #[] 0)) w.heap.size (fun _ => none) 0 := ⟨.map [], World.ownsMap_made w Tryz.prog 3 _, rfl, fun s _ => ⟨rfl, fun i z h => by cases h⟩⟩
theorem ownsMap_norm {P : Program} {k : TypeId} {R : Value → Option (DataW Unit × List MemPlace)} {w : World} {b n : Nat} {D : DataW Unit} (h : w.ownsMap P k R b n D) : w.ownsMap P k R b (Maps.size D) D := by
  obtain ⟨es, clock, hb, F, _, hD⟩ := h
  exact ⟨es, clock, hb, F, by rw [hD]; simp [Maps.size, length_sorted], hD⟩
theorem int_ne {s t : Nat} (h : s ≠ t) : (Lit.int .i64 (s : Int)) ≠ .int .i64 (t : Int) := by
  intro e
  injection e with _ e
  exact h (by omega)
theorem int_zero (w : World) : (zeroValue 3).run Tryz.prog w = .ok (.int .i64 0) w := by
  have h : (Tryz.prog.info? 3).map (fun i => i.zero) = some (some (.int .i64 0)) := by kernel_rfl
  obtain ⟨i, i1, i0⟩ := Option.map_eq_some_iff.1 h
  simp [zeroValue, typeInfo, i1, i0]
def putI (f : Nat → Option Int) (s : Nat) (i : Int) (k : Nat) : Option Int := if k = s then some i else f k
/-- laid under a place. -/
theorem MI.put {w : World} {mb c : Nat} {f : Nat → Option Int} (h : MI w mb f c) (s : Nat) (hs : s ≤ 4611686018427387904) (i : Int) (hi : -4611686018427387904 ≤ i) (hi2 : i ≤ 4611686018427387904) (hc : c < 4611686018427387904) :
    ∃ w', (Instr.mapUpdate 252 (.map (some mb)) (.int .i64 (s : Int)) (.int .i64 i)).run Tryz.prog w = .ok () w' ∧ (∃ c', c' ≤ c + 1 ∧ MI w' mb (putI f s i) c') ∧ w.grownBy w' (some mb) ∧ ∀ a, w'.frozen? a = w.frozen? a := by
  obtain ⟨D, hown, hsz, hD⟩ := h
  have hml : maxLen = 9223372036854775807 := by decide
  obtain ⟨w', hr, ho, hg⟩ := hown.store int_key Tryz.underlying252 (by omega) (key_int hs) (plainElem_int Tryz.underlying3 (int_wf hi hi2))
  have ht := hown.tidy int_key
  have hsz2 := size_put ht (k := .int .i64 (s : Int)) (.lit (.int .i64 i))
  rw [hsz] at hsz2
  refine ⟨w', hr, ⟨_, ?_, ⟨_, ownsMap_norm ho, rfl, fun t htl => ?_⟩⟩, hg.grown, fun a => hg.frozen a⟩
  · rw [hsz2]; split <;> omega
  · have hi' : IsMap D := hown.isMap
    unfold putI
    by_cases e : t = s
    · subst e
      rw [if_pos rfl]
      exact ⟨has_put_same hi' (isKeyI _) _, fun j z hj => by injection hj with hj; subst hj; exact atKey_put_same hi' (isKeyI _) _ z⟩
    · rw [if_neg e]
      have hne := int_ne e
      exact ⟨by rw [has_put_other hne]; exact (hD t htl).1, fun j z hj => by rw [atKey_put_other hne]; exact (hD t htl).2 j z hj⟩
/-- a place taken out. -/
theorem MI.del {w : World} {mb c : Nat} {f : Nat → Option Int} (h : MI w mb f c) (s : Nat) (hs : s ≤ 4611686018427387904) (ty : TypeId) :
    ∃ w', (Builtin.delete_ #[252, 3] ty #[.map (some mb), .int .i64 (s : Int)]).run Tryz.prog w = .ok (.tuple #[]) w' ∧ (∃ c', c' ≤ c ∧ MI w' mb (dropP f s) c') ∧ w.grownBy w' (some mb) ∧ ∀ a, w'.frozen? a = w.frozen? a := by
  obtain ⟨D, hown, hsz, hD⟩ := h
  obtain ⟨w', hr, ho, hg⟩ := hown.drop int_key Tryz.underlying252 (key_int hs) ty
  have ht := hown.tidy int_key
  have hsz2 := size_del ht (k := .int .i64 (s : Int))
  rw [hsz] at hsz2
  refine ⟨w', hr, ⟨_, ?_, ⟨_, ownsMap_norm ho, rfl, fun t htl => ?_⟩⟩, hg.grown, fun a => hg.frozen a⟩
  · split at hsz2 <;> omega
  · unfold dropP
    by_cases e : t = s
    · subst e
      rw [if_pos rfl]
      exact ⟨has_del_same, fun j z hj => by cases hj⟩
    · rw [if_neg e]
      have hne := int_ne e
      exact ⟨by rw [has_del_other hne]; exact (hD t htl).1, fun j z hj => by rw [atKey_del_other hne]; exact (hD t htl).2 j z hj⟩
/-- a place looked up. -/
theorem MI.look {w : World} {mb c : Nat} {f : Nat → Option Int} (h : MI w mb f c) (s : Nat) (hs : s ≤ 4611686018427387904) :
    (Instr.lookup 252 (.map (some mb)) (.int .i64 (s : Int)) true).run Tryz.prog w = .ok (.tuple #[.int .i64 ((f s).getD 0), .bool (f s).isSome]) w := by
  obtain ⟨D, hown, hsz, hD⟩ := h
  obtain ⟨v, ps, hr, hv⟩ := hown.look_ok int_key Tryz.underlying252 (int_zero w) (plainElem_int Tryz.underlying3 (by decide)) (key_int hs)
  obtain ⟨x, rfl, hx, _⟩ := plainElem_int_inv Tryz.underlying3 hv
  obtain ⟨h1, h2⟩ := hD s hs
  rw [h1] at hr
  have e := congrArg Prod.fst hx
  simp only at e
  have hxx : x = (f s).getD 0 := by
    cases q : f s with
    | none =>
      rw [q] at h1
      rw [atKey_of_not_has h1] at e
      injection e with e
      injection e with _ e
      exact e.symm
    | some i =>
      rw [h2 i _ q] at e
      injection e with e
      injection e with _ e
      exact e.symm
  rw [hxx] at hr
  exact hr
theorem sameHeight_any (a b : Int) (w : World) : Calls Tryz.prog 110 #[.int .i64 a, .int .i64 b] w fun e w' => e = .returned (.int .i64 (if a = b then a else -1)) ∧ w' = w := by
  by_cases h : a = b
  · rw [if_pos h]
    go_enter Tryz.func110, Tryz.ntmps110
    go_wp2
    go_ret
    exact ⟨rfl, rfl⟩
  · rw [if_neg h]
    go_enter Tryz.func110, Tryz.ntmps110
    go_wp2
    go_ret
    exact ⟨rfl, rfl⟩
end Go.Proofs.YtdfnomglkibfbaaGreatDoor.Vf
