
import Derived.Test.YtaknjkinagppoaaGreatDoorChainAhit
import Derived.Test.YtaknjkinagppoaaGreatDoorKyU
import Derived.Defers
namespace Go.Proofs.YtaknjkinagppoaaGreatDoor
open Go.RowKit
set_option linter.unusedVariables false
set_option linter.unusedSimpArgs false
theorem errV_iface (l : List (Bool × Int)) (c : Int) : ∃ t v, errV l c = .iface t v := by
  rcases l with _ | ⟨⟨_ | _, n⟩, l⟩
  · exact ⟨_, _, rfl⟩
  · exact ⟨_, _, rfl⟩
  · exact ⟨_, _, rfl⟩
theorem find_deferA (w : World) : CallsD Tryz.prog 67 #[] .returning w fun e u' w' => e = .returned (.tuple #[]) ∧ u' = .returning ∧ w' = w := by
  refine callsD_of_wpS Tryz.func67 rfl fun c₀ cs hu => ?_
  apply wpS_region
  simp [wpOpsS, go_sem, recoverD, hu, Tryz.ntmps67, Exit.thenS]
  cases c₀
  simp_all [bodyPostS, results, Tryz.results67]
theorem find_A_hit (l : List (Bool × Int)) (c n : Int) (r : List (Bool × Int)) (hf : findK false l = some (n, r)) (w : World) (hg : ET w) : Calls Tryz.prog 48 #[errV l c] w fun e w' => e = .returned (.tuple #[.agg #[.int .i64 n, errV r c], .bool true]) ∧ Below w.heap.size w w' := by
  have hfH : Hid _ := hf
  clear hf
  obtain ⟨W, hW⟩ : ∃ W, W = (w.alloc (.cells #[.int .i64 0, .nilIface] 56)).alloc (.cells #[.int .i64 0, .nilIface] 56) := ⟨_, rfl⟩
  have hB0 : Below w.heap.size w W := by rw [hW]; exact below_new (below_new (Below.refl _ _) _) _
  have hz : W.heap.size = w.heap.size + 1 + 1 := by rw [hW]; simp
  have a0 : W.cell? ⟨w.heap.size, 0, none⟩ = some (.int .i64 0) := by rw [hW]; simp [go_sem]
  have a1 : W.cell? ⟨w.heap.size, 1, none⟩ = some .nilIface := by rw [hW]; simp [go_sem]
  have f0 : W.frozen? ⟨w.heap.size, 0, none⟩ = false := by rw [hW]; simp [go_sem]
  have f1 : W.frozen? ⟨w.heap.size, 1, none⟩ = false := by rw [hW]; simp [go_sem]
  have k0 : W.cell? ⟨w.heap.size + 1, 0, none⟩ = some (.int .i64 0) := by rw [hW]; simp [go_sem]
  have k1 : W.cell? ⟨w.heap.size + 1, 0 + 1, none⟩ = some .nilIface := by rw [hW]; simp [go_sem]
  have j0 : W.frozen? ⟨w.heap.size + 1, 0, none⟩ = false := by rw [hW]; simp [go_sem]
  have j1 : W.frozen? ⟨w.heap.size + 1, 0 + 1, none⟩ = false := by rw [hW]; simp [go_sem]
  have gW := ET_below hg hB0
  have hWH : Hid _ := hW
  have hR := chain_A_hit l c n r hfH.out (w.heap.size + 1) 0 _ _ W gW k0 k1 j0 j1
  obtain ⟨tt, pp, hV⟩ := errV_iface r c
  rw [hV] at hR ⊢
  have hRH : Hid _ := hR
  have hk : Hid (W.cell? ⟨w.heap.size + 1, 0, none⟩ = some (.int .i64 0) ∧ W.cell? ⟨w.heap.size + 1, 1, none⟩ = some .nilIface) := ⟨k0, k1⟩
  clear hW hR hV k0 k1 j0 j1
  go_enter_defers Tryz.func48, Tryz.ntmps48
  go_wp2_with fail
  rw [← hWH.out]
  refine Calls.mono hRH.out ?_
  rintro ev v1 ⟨rfl, w1, hB1, hw1⟩
  have z1 := hB1.size
  have n01 : ∀ i j, (⟨w.heap.size + 1, i, none⟩ : Addr) ≠ ⟨w.heap.size, j, none⟩ := fun i j e => by injection e with e1; omega
  have ot : ∀ j x y, ((w1.setCell ⟨w.heap.size + 1, 0, none⟩ x).setCell ⟨w.heap.size + 1, 0 + 1, none⟩ y).cell? ⟨w.heap.size, j, none⟩ = w1.cell? ⟨w.heap.size, j, none⟩ := fun j x y => by
    rw [World.cell?_setCell_other _ _ _ _ (n01 _ _), World.cell?_setCell_other _ _ _ _ (n01 _ _)]
  have b0 : v1.cell? ⟨w.heap.size, 0, none⟩ = some (.int .i64 0) := by rw [hw1, ot, hB1.cell (by simp; omega)]; exact a0
  have b1 : v1.cell? ⟨w.heap.size, 1, none⟩ = some .nilIface := by rw [hw1, ot, hB1.cell (by simp; omega)]; exact a1
  have g0 : v1.frozen? ⟨w.heap.size, 0, none⟩ = false := by rw [hw1]; simp; rw [hB1.frozen (by simp; omega)]; exact f0
  have g1 : v1.frozen? ⟨w.heap.size, 1, none⟩ = false := by rw [hw1]; simp; rw [hB1.frozen (by simp; omega)]; exact f1
  have m0 : v1.cell? ⟨w.heap.size + 1, 0, none⟩ = some (.int .i64 n) := by
    rw [hw1, World.cell?_setCell_other _ _ _ _ (by simp)]
    exact World.cell?_setCell_same _ _ _ (u := .int .i64 0) (by rw [hB1.cell (by simp; omega)]; exact hk.out.1)
  have m1 : v1.cell? ⟨w.heap.size + 1, 1, none⟩ = some (.iface tt pp) := by
    rw [hw1]
    exact World.cell?_setCell_same _ _ _ (u := .nilIface) (by rw [World.cell?_setCell_other _ _ _ _ (by simp), hB1.cell (by simp; omega)]; exact hk.out.2)
  have P1 : Below w.heap.size w v1 := by
    rw [hw1]
    exact ((below_then hB0 hB1).setCell (p := ⟨w.heap.size + 1, 0, none⟩) (Nat.le_succ _) _).setCell (p := ⟨w.heap.size + 1, 0 + 1, none⟩) (Nat.le_succ _) _
  have zv : w.heap.size + 1 < v1.heap.size := by rw [hw1]; simp; omega
  clear a0 a1 f0 f1 hB1 hw1 ot hk hRH
  go_wp2
  refine leaves_cons (f := 67) (args := #[]) (by simp) (by simp [go_sem]) ?_
  refine (find_deferA _).mono ?_
  rintro e u' w'' ⟨rfl, rfl, rfl⟩
  simp [Leaves, settle, results, Tryz.results48, go_sem, b0, b1]
  exact (P1.setCell (p := ⟨w.heap.size, 0, none⟩) (Nat.le_refl _) _).setCell (p := ⟨w.heap.size, 1, none⟩) (Nat.le_refl _) _
theorem place_at (p : Int) (w : World) (hg : ET w) : Calls Tryz.prog 24 #[atV p] w fun e w' => e = .returned (.tuple #[.int .i64 p, .bool true]) ∧ Below w.heap.size w w' := by
  have h : ∀ W, ET W → Calls Tryz.prog 48 #[atV p] W fun e w' => e = .returned (.tuple #[.agg #[.int .i64 p, errV [] 53], .bool true]) ∧ Below W.heap.size W w' := fun W hW => find_A_hit [(false, p)] 53 p [] rfl W hW
  obtain ⟨tt, pp, hV⟩ := errV_iface [] 53
  rw [hV] at h
  have hH : Hid _ := h
  clear h hV
  go_enter Tryz.func24, Tryz.ntmps24
  go_wp2_with fail
  refine (hH.out _ hg).mono ?_
  rintro e w1 ⟨rfl, hb1⟩
  go_wp2
  go_ret2
  exact ⟨rfl, below_new hb1 _⟩

end Go.Proofs.YtaknjkinagppoaaGreatDoor
