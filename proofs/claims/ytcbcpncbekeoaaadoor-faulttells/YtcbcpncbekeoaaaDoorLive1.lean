
import Derived.Test.YtcbcpncbekeoaaaDoorSameD
import Derived.Test.YtcbcpncbekeoaaaDoorName
import Derived.Defers
import Derived.Recover
namespace Go.Proofs.YtcbcpncbekeoaaaDoor
open Go.RowKit
set_option linter.unusedVariables false
set_option linter.unusedSimpArgs false

/-- the deferred function of find, in a frame that returns: nothing. -/
theorem find_defer (w : World) : CallsD Tryd.prog 26 #[] .returning w fun e u' w' => e = .returned (.tuple #[]) ∧ u' = .returning ∧ w' = w := by
  refine callsD_of_wpS Tryd.func26 rfl fun c₀ cs hu => ?_
  apply wpS_region
  simp [wpOpsS, go_sem, recoverD, hu, Tryd.ntmps26, Exit.thenS]
  cases c₀
  simp_all [bodyPostS, results, Tryd.results26]

theorem find_E (l : List (Bool × Int)) (c : Int) (w : World) (hg : ET w) : Calls Tryd.prog 19 #[errV l c] w fun e w' => e = .returned (.tuple #[.int .i64 c, .bool true]) ∧ Below w.heap.size w w' := by
  have hgA : ∀ o, ET (w.alloc o) := fun o => ET_alloc hg o
  go_enter_defers Tryd.func19, Tryd.ntmps19
  go_wp2_with fail
  refine (chain_E l c ⟨w.heap.size, 0, none⟩ (.int .i64 0) _ (hgA _) (by simp) (by simp)).mono ?_
  rintro ev v1 ⟨rfl, w1, hB1, hw1⟩
  have hz : w.heap.size + 1 ≤ w1.heap.size := by have := hB1.size; simp at this; omega
  have c1 : v1.cell? ⟨w.heap.size, 0, none⟩ = some (.int .i64 c) := by
    rw [hw1]
    exact World.cell?_setCell_same _ _ _ (u := .int .i64 0) (by rw [hB1.cell (p := ⟨w.heap.size, 0, none⟩) (by simp)]; simp)
  have b1 : Below w.heap.size w v1 := by
    rw [hw1]
    exact ((below_new (Below.refl _ _) _).trans (hB1.mono (by simp))).setCell (by simp) _
  clear hw1
  go_wp2
  refine leaves_cons (f := 26) (args := #[]) (by simp) (by simp [go_sem]) ?_
  refine (find_defer _).mono ?_
  rintro e u' w'' ⟨rfl, rfl, rfl⟩
  simp [Leaves, settle, results, Tryd.results19, go_sem]
  exact b1
theorem code_chain (l : List (Bool × Int)) (c : Int) (w : World) (hg : ET w) : Calls Tryd.prog 9 #[errV l c] w fun e w' => e = .returned (.int .i64 c) ∧ Below w.heap.size w w' := by
  go_enter Tryd.func9, Tryd.ntmps9
  go_wp2_with fail
  refine (find_E l c _ hg).mono ?_
  rintro e w1 ⟨rfl, hb1⟩
  go_wp2
  go_ret
  exact ⟨rfl, hb1⟩

theorem print_nil (w : World) : Calls Tryd.prog 10 #[.nilIface] w fun e w' => e = .returned (.string ⟨#[111, 107]⟩) ∧ Below w.heap.size w w' := by
  go_enter Tryd.func10, Tryd.ntmps10
  go_wp2_with fail
  refine (name_known 0 0 [111, 107] rfl (fun j hj => by omega) _).mono ?_
  rintro e w1 ⟨rfl, hb1⟩
  go_wp2
  go_ret
  exact ⟨rfl, hb1⟩

/-! ### fault.At, fault.In and the document's -/
theorem at_any (p c : Int) (h : (c == 0) = false) (w : World) : Calls Tryd.prog 16 #[.int .i64 p, .int .i64 c] w fun e w' => e = .returned (errV [(false, p)] c) ∧ w' = w := by
  go_enter Tryd.func16, Tryd.ntmps16
  go_wp2
  go_ret
  exact ⟨rfl, rfl⟩
theorem refat (p c : Int) (h : (c == 0) = false) (w : World) : Calls Tryd.prog 17 #[.int .i64 p, .int .i64 c] w fun e w' => e = .returned (.agg #[.int .i64 c, .int .i64 p, .int .i64 0, .bool true, .bool false]) ∧ Below w.heap.size w w' := by
  go_enter Tryd.func17, Tryd.ntmps17
  go_wp2
  simp [bodyPost, results, Tryd.results17, go_sem]
  exact below_new (Below.refl _ _) _

set_option maxHeartbeats 2000000 in
theorem live1_any (w : World) (hg : ET w) : Calls Tryd.prog 8 #[] w fun e w' => e = .returned (.bool true) ∧ Below w.heap.size w w' := by
  go_enter Tryd.func8, Tryd.ntmps8
  go_wp2_with fail
  refine (at_any 7 140 rfl _).mono ?_
  rintro e w1 ⟨rfl, rfl⟩
  go_wp2_with fail
  refine (refat 7 140 rfl _).mono ?_
  rintro e w2 ⟨rfl, hb2⟩
  go_wp2_with fail
  refine (sameC_hit_miss [(false, 7)] 140 rfl 7 [] rfl rfl _ (ET_below hg hb2)).mono ?_
  rintro e w3 ⟨rfl, hb3⟩
  have hb23 := below_then hb2 hb3
  go_wp2_with fail
  refine (new_any 3 rfl _).mono ?_
  rintro e w4 ⟨rfl, rfl⟩
  go_wp2_with fail
  refine (code_chain [] 3 _ (ET_below hg hb23)).mono ?_
  rintro e w5 ⟨rfl, hb5⟩
  go_wp2_with fail
  refine (print_nil _).mono ?_
  rintro e w6 ⟨rfl, hb6⟩
  go_wp2
  go_ret
  exact ⟨rfl, below_then (below_then hb23 hb5) hb6⟩
end Go.Proofs.YtcbcpncbekeoaaaDoor
