
import Derived.Test.YtboacnpbicedfaaGreatDoorHuIq
import Derived.Test.YtboacnpbicedfaaGreatDoorByD
namespace Go.Proofs.YtboacnpbicedfaaGreatDoor.Hp
open Go.RowKit Go.Maps
set_option linter.unusedVariables false
set_option linter.unusedSimpArgs false
set_option maxRecDepth 100000
theorem hfork_nil (w : World) : Calls Tryz.prog 7 #[.pointer none] w fun e w' => e = .returned (.pointer none) ∧ w' = w := by
  go_enter Tryz.func7, Tryz.ntmps7
  go_wp2_with fail
  go_ret
  exact ⟨rfl, rfl⟩
theorem hlen_nil (w : World) : Calls Tryz.prog 40 #[.pointer none] w fun e w' => e = .returned (.int .i64 0) ∧ w' = w := by
  go_enter Tryz.func40, Tryz.ntmps40
  go_wp2_with fail
  go_ret
  exact ⟨rfl, rfl⟩
theorem hmoves_nil (w : World) : Calls Tryz.prog 46 #[.pointer none] w fun e w' => e = .returned (.int .i64 0) ∧ w' = w := by
  go_enter Tryz.func46, Tryz.ntmps46
  go_wp2_with fail
  go_ret
  exact ⟨rfl, rfl⟩
theorem hlist_nil (w : World) : Calls Tryz.prog 43 #[.pointer none] w fun e w' => e = .returned (.slice none 0 0) ∧ w' = w := by
  go_enter Tryz.func43, Tryz.ntmps43
  go_wp2_with fail
  go_ret
  exact ⟨rfl, rfl⟩
set_option maxHeartbeats 4000000 in
theorem hput_nil (x : Ent) (w : World) : Calls Tryz.prog 28 #[.pointer none, eV x] w fun e w' => e = .returned (.iface 41 (.int .i64 1)) ∧ Below w.heap.size w w' := by
  have kN : Hid (∀ W, Calls Tryz.prog 20 #[.int .i64 1] W fun e w' => e = .returned (.iface 41 (.int .i64 1)) ∧ w' = W) := fnew_any 1 (by decide)
  unfold eV
  go_enter Tryz.func28, Tryz.ntmps28
  go_wp2_with fail
  refine Calls.mono (kN.out _) ?_
  rintro e w1 ⟨rfl, hw1⟩
  subst hw1
  go_wp2_with fail
  go_ret
  exact ⟨rfl, by first | exact Below.refl _ _ | exact (Below.refl _ w).alloc (Nat.le_refl _) _⟩
set_option maxHeartbeats 4000000 in
theorem hfind_nil (s : ByteArray) (w : World) : Calls Tryz.prog 61 #[.pointer none, .string s] w fun e w' => e = .returned (.tuple #[.int .i64 0, .iface 41 (.int .i64 1)]) ∧ w' = w := by
  have kN : Hid (∀ W, Calls Tryz.prog 20 #[.int .i64 1] W fun e w' => e = .returned (.iface 41 (.int .i64 1)) ∧ w' = W) := fnew_any 1 (by decide)
  go_enter Tryz.func61, Tryz.ntmps61
  go_wp2_with fail
  refine Calls.mono (kN.out _) ?_
  rintro e w1 ⟨rfl, hw1⟩
  subst hw1
  go_wp2_with fail
  first | go_ret | skip
  first | exact ⟨rfl, rfl⟩ | (simp [bodyPost, results, Tryz.results61, go_sem]; done)
set_option maxHeartbeats 4000000 in
theorem hget_nil (s : ByteArray) (w : World) : Calls Tryz.prog 38 #[.pointer none, .string s] w fun e w' => e = .returned (.tuple #[eV (0, ⟨#[]⟩), .bool false]) ∧ Below w.heap.size w w' := by
  have kF : Hid (∀ W, Calls Tryz.prog 61 #[.pointer none, .string s] W fun e w' => e = .returned (.tuple #[.int .i64 0, .iface 41 (.int .i64 1)]) ∧ w' = W) := hfind_nil s
  unfold eV
  go_enter Tryz.func38, Tryz.ntmps38
  go_wp2_with fail
  refine Calls.mono (kF.out _) ?_
  rintro e w1 ⟨rfl, hw1⟩
  subst hw1
  go_wp2_with fail
  simp [bodyPost, results, Tryz.results38, go_sem]
  exact (Below.refl _ w).alloc (Nat.le_refl _) _
set_option maxHeartbeats 4000000 in
theorem htake_nil (s : ByteArray) (w : World) : Calls Tryz.prog 30 #[.pointer none, .string s] w fun e w' => e = .returned (.tuple #[eV (0, ⟨#[]⟩), .iface 41 (.int .i64 1)]) ∧ Below w.heap.size w w' := by
  have kF : Hid (∀ W, Calls Tryz.prog 61 #[.pointer none, .string s] W fun e w' => e = .returned (.tuple #[.int .i64 0, .iface 41 (.int .i64 1)]) ∧ w' = W) := hfind_nil s
  unfold eV
  go_enter Tryz.func30, Tryz.ntmps30
  go_wp2_with fail
  refine Calls.mono (kF.out _) ?_
  rintro e w1 ⟨rfl, hw1⟩
  subst hw1
  go_wp2_with fail
  simp [bodyPost, results, Tryz.results30, go_sem]
  exact (Below.refl _ w).alloc (Nat.le_refl _) _
set_option maxHeartbeats 4000000 in
theorem hturn_nil (s : ByteArray) (r : Int) (w : World) : Calls Tryz.prog 32 #[.pointer none, .string s, .int .i64 r] w fun e w' => e = .returned (.iface 41 (.int .i64 1)) ∧ w' = w := by
  have kF : Hid (∀ W, Calls Tryz.prog 61 #[.pointer none, .string s] W fun e w' => e = .returned (.tuple #[.int .i64 0, .iface 41 (.int .i64 1)]) ∧ w' = W) := hfind_nil s
  go_enter Tryz.func32, Tryz.ntmps32
  go_wp2_with fail
  refine Calls.mono (kF.out _) ?_
  rintro e w1 ⟨rfl, hw1⟩
  subst hw1
  go_wp2_with fail
  go_ret
  exact ⟨rfl, rfl⟩
set_option maxHeartbeats 4000000 in
theorem htop_nil (w : World) : Calls Tryz.prog 36 #[.pointer none] w fun e w' => e = .returned (.tuple #[eV (0, ⟨#[]⟩), .bool false]) ∧ Below w.heap.size w w' := by
  have kL : Hid (∀ W, Calls Tryz.prog 40 #[.pointer none] W fun e w' => e = .returned (.int .i64 0) ∧ w' = W) := hlen_nil
  unfold eV
  go_enter Tryz.func36, Tryz.ntmps36
  go_wp2_with fail
  refine Calls.mono (kL.out _) ?_
  rintro e w1 ⟨rfl, hw1⟩
  subst hw1
  go_wp2_with fail
  simp [bodyPost, results, Tryz.results36, go_sem]
  exact (Below.refl _ w).alloc (Nat.le_refl _) _
end Go.Proofs.YtboacnpbicedfaaGreatDoor.Hp
