
import Derived.Test.YtbljggapmkpnbaaGreatDoorHpK
import Derived.Test.YtbljggapmkpnbaaGreatDoorSame
namespace Go.Proofs.YtbljggapmkpnbaaGreatDoor.Ac
open Go.RowKit Go.Maps Hp
set_option linter.unusedVariables false
set_option linter.unusedSimpArgs false
set_option maxRecDepth 100000
theorem isE_any (c e : Int) (he : (e == 0) = false) (w : World) (hg : ET w) :
    Calls Tryz.prog 18 #[.iface 59 (.int .i64 c), .int .i64 e] w fun ev w' => ev = .returned (.bool (c == e)) ∧ Below w.heap.size w w' := by
  have hgA : ET (w.alloc (.cells #[.int .i64 0] 59)) := ET_alloc hg _
  go_enter Tryz.func18, Tryz.ntmps18
  go_wp2_with fail
  refine (as_EE c ⟨w.heap.size, 0, none⟩ (.int .i64 0) _ hgA (by simp) (by simp)).mono ?_
  rintro ev w1 ⟨rfl, rfl⟩
  go_wp2
  go_ret
  exact ⟨rfl, below_new (below_new (below_new (below_new (below_new (Below.refl _ _) _) _) _) _) _⟩
theorem small_one (w : World) : Calls Tryz.prog 134 #[.int .i64 1] w fun e w' => e = .returned (.string ⟨#[49]⟩) ∧ w' = w := by
  go_enter Tryz.func134, Tryz.ntmps134
  go_wp2
  go_ret
  exact ⟨rfl, rfl⟩
theorem ifmt_one (w : World) : Calls Tryz.prog 132 #[.int .i64 1, .int .i64 10] w fun e w' => e = .returned (.string ⟨#[49]⟩) ∧ w' = w := by
  have k : Hid _ := small_one w
  go_enter Tryz.func132, Tryz.ntmps132
  go_wp2_with fail
  refine Calls.mono k.out ?_
  rintro e w1 ⟨rfl, hw1⟩
  subst hw1
  go_wp2_with fail
  go_ret
  exact ⟨rfl, rfl⟩
theorem fmt_one (w : World) : Calls Tryz.prog 124 #[.int .i64 1, .int .i64 10] w fun e w' => e = .returned (.string ⟨#[49]⟩) ∧ w' = w := by
  have k : Hid _ := ifmt_one w
  go_enter Tryz.func124, Tryz.ntmps124
  go_wp2_with fail
  refine Calls.mono k.out ?_
  rintro e w1 ⟨rfl, hw1⟩
  subst hw1
  go_wp2_with fail
  go_ret
  exact ⟨rfl, rfl⟩
theorem name_one (w : World) : Calls Tryz.prog 118 #[.string ⟨#[97]⟩, .int .i64 1] w fun e w' => e = .returned (.string ⟨#[49, 32, 97]⟩) ∧ w' = w := by
  have k : Hid _ := fmt_one w
  go_enter Tryz.func118, Tryz.ntmps118
  go_wp2_with fail
  refine Calls.mono k.out ?_
  rintro e w1 ⟨rfl, hw1⟩
  subst hw1
  go_wp2_with fail
  go_ret
  exact ⟨rfl, rfl⟩
theorem method_add (p : Addr) (w : World) : (Go.method 400 106 (.pointer (some p)) "weir/acc.add").run Tryz.prog w = .ok (113, .pointer (some p)) w := by kernel_rfl
theorem method_size (p : Addr) (w : World) : (Go.method 400 106 (.pointer (some p)) "weir/acc.size").run Tryz.prog w = .ok (115, .pointer (some p)) w := by kernel_rfl
theorem method_tell (p : Addr) (w : World) : (Go.method 400 106 (.pointer (some p)) "weir/acc.tell").run Tryz.prog w = .ok (116, .pointer (some p)) w := by kernel_rfl
theorem fresh_none (w : World) : Calls Tryz.prog 28 #[.int .u8 3] w fun e w' => e = .returned .nilIface ∧ w' = w := by
  go_enter Tryz.func28, Tryz.ntmps28
  go_wp2
  go_ret
  exact ⟨rfl, rfl⟩
theorem new_none (w : World) : Calls Tryz.prog 11 #[.int .u8 3] w fun e w' => e = .returned (.tuple #[.pointer none, .iface 59 (.int .i64 2)]) ∧ w' = w := by
  have k : Hid _ := fresh_none w
  have kN : Hid _ := fnew_any 2 (by decide) w
  go_enter Tryz.func11, Tryz.ntmps11
  go_wp2_with fail
  refine Calls.mono k.out ?_
  rintro e w1 ⟨rfl, hw1⟩
  subst hw1
  go_wp2_with fail
  refine Calls.mono kN.out ?_
  rintro e w1 ⟨rfl, hw1⟩
  subst hw1
  go_wp2_with fail
  simp [bodyPost, results, Tryz.results11, go_sem]
/-- an accumulator of Max, beyond what was there: X its keeper, X + 1 itself. -/
structure AX (w : World) (X : Nat) (L : List Ent) (mv : Int) (wr : World) : Prop where
  a0 : wr.cell? ⟨X + 1, 0, none⟩ = some (.int .u8 5)
  a1 : wr.cell? ⟨X + 1, 1, none⟩ = some (.iface 106 (.pointer (some ⟨X, 0, none⟩)))
  x0 : wr.cell? ⟨X, 0, none⟩ = some (.pointer (some ⟨w.heap.size + 1, 0, none⟩))
  hs : ∃ v f, HS wr (X + 2) (w.heap.size + 1) w.heap.size true v none f L mv
  bl : Below w.heap.size w wr
  sz : X + 2 ≤ wr.heap.size
  hX : w.heap.size + 2 ≤ X
theorem AX.below {w wr w' : World} {X : Nat} {L : List Ent} {mv : Int} (h : AX w X L mv wr) (hb : Below wr.heap.size wr w') : AX w X L mv w' := by
  obtain ⟨v, f, hs⟩ := h.hs
  have sz := h.sz
  exact ⟨by rw [hb.cell (p := ⟨X + 1, 0, none⟩) (by show X + 1 < _; omega)]; exact h.a0, by rw [hb.cell (p := ⟨X + 1, 1, none⟩) (by show X + 1 < _; omega)]; exact h.a1, by rw [hb.cell (p := ⟨X, 0, none⟩) (by show X < _; omega)]; exact h.x0, ⟨v, f, hs.below hb⟩, h.bl.trans (hb.mono h.bl.size), Nat.le_trans sz hb.size, h.hX⟩
theorem AX.made {w w1 : World} (h : HS w1 (w.heap.size + 2) (w.heap.size + 1) w.heap.size true (.slice none 0 0) none (fun _ => none) [] 0) (hb : Below w.heap.size w w1) : AX w w1.heap.size [] 0 ((w1.alloc (.cells #[.pointer (some ⟨w.heap.size + 1, 0, none⟩)] 109)).alloc (.cells #[.int .u8 5, .iface 106 (.pointer (some ⟨w1.heap.size, 0, none⟩))] 69)) := by
  have hl := h.hl
  have b2 : Below w1.heap.size w1 ((w1.alloc (.cells #[.pointer (some ⟨w.heap.size + 1, 0, none⟩)] 109)).alloc (.cells #[.int .u8 5, .iface 106 (.pointer (some ⟨w1.heap.size, 0, none⟩))] 69)) := ((Below.refl _ w1).alloc (Nat.le_refl _) _).alloc (by simp) _
  have h2 := h.below b2
  refine ⟨by simp [go_sem], by simp [go_sem], by simp [go_sem], ⟨.slice none 0 0, _, ⟨h2.c0, h2.c1, h2.c2, h2.c3, h2.z0, h2.z3, ⟨rfl, Or.inl ⟨rfl, rfl⟩⟩, h2.mp, h2.pl, ⟨by omega, by omega, by omega⟩, h2.nm, h2.hl, h2.exs⟩⟩, hb.trans (b2.mono hb.size), by simp, by omega⟩
theorem fresh_max (w : World) : Calls Tryz.prog 28 #[.int .u8 5] w fun e w' => ∃ w1, e = .returned (.iface 106 (.pointer (some ⟨w1.heap.size, 0, none⟩))) ∧ w' = w1.alloc (.cells #[.pointer (some ⟨w.heap.size + 1, 0, none⟩)] 109) ∧ HS w1 (w.heap.size + 2) (w.heap.size + 1) w.heap.size true (.slice none 0 0) none (fun _ => none) [] 0 ∧ Below w.heap.size w w1 := by
  have kH : Hid _ := hnew_any true w
  go_enter Tryz.func28, Tryz.ntmps28
  go_wp2_with fail
  refine Calls.mono kH.out ?_
  rintro e w1 ⟨rfl, h1, h2⟩
  have H1 : Hid (HS w1 (w.heap.size + 2) (w.heap.size + 1) w.heap.size true (.slice none 0 0) none (fun _ => none) [] 0 ∧ Below w.heap.size w w1) := ⟨h1, h2⟩
  clear h1 h2 kH
  go_wp2_with fail
  go_ret
  exact ⟨w1, rfl, rfl, H1.out⟩
set_option maxHeartbeats 4000000 in
theorem new_max (w : World) : Calls Tryz.prog 11 #[.int .u8 5] w fun e w' => ∃ X, e = .returned (.tuple #[.pointer (some ⟨X + 1, 0, none⟩), .nilIface]) ∧ AX w X [] 0 w' := by
  have kF : Hid _ := fresh_max w
  go_enter Tryz.func11, Tryz.ntmps11
  go_wp2_with fail
  refine Calls.mono kF.out ?_
  rintro e w2 ⟨w1, rfl, rfl, h1, h2⟩
  have H1 : Hid (AX w w1.heap.size [] 0 ((w1.alloc (.cells #[.pointer (some ⟨w.heap.size + 1, 0, none⟩)] 109)).alloc (.cells #[.int .u8 5, .iface 106 (.pointer (some ⟨w1.heap.size, 0, none⟩))] 69))) := AX.made h1 h2
  clear h1 h2 kF
  go_wp2_with fail
  simp [bodyPost, results, Tryz.results11, go_sem]
  exact H1.out
end Go.Proofs.YtbljggapmkpnbaaGreatDoor.Ac
