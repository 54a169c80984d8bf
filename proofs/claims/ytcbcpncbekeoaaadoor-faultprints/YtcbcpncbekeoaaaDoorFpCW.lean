
import Derived.Test.YtcbcpncbekeoaaaDoorLive1
import Derived.Test.YtcbcpncbekeoaaaDoorMadeA
import Derived.Test.YtcbcpncbekeoaaaDoorChWE
import Derived.Test.YtcbcpncbekeoaaaDoorChWEf
import Derived.Test.YtcbcpncbekeoaaaDoorChWAh
import Derived.Test.YtcbcpncbekeoaaaDoorChWAm
import Derived.Test.YtcbcpncbekeoaaaDoorChWIh
import Derived.Test.YtcbcpncbekeoaaaDoorChWIm
namespace Go.Proofs.YtcbcpncbekeoaaaDoor
open Go.RowKit
set_option linter.unusedVariables false
set_option linter.unusedSimpArgs false
theorem find_deferA (w : World) : CallsD Tryd.prog 23 #[] .returning w fun e u' w' => e = .returned (.tuple #[]) ∧ u' = .returning ∧ w' = w := by
  refine callsD_of_wpS Tryd.func23 rfl fun c₀ cs hu => ?_
  apply wpS_region
  simp [wpOpsS, go_sem, recoverD, hu, Tryd.ntmps23, Exit.thenS]
  cases c₀
  simp_all [bodyPostS, results, Tryd.results23]
theorem findW_A_miss (l : List (Nat × Int)) (b : Int ⊕ Nat) (hf : findW 0 l = none) (w : World) (hg : ET w) : Calls Tryd.prog 13 #[errW l b] w fun e w' => e = .returned (.tuple #[.agg #[.int .i64 0, .nilIface], .bool false]) ∧ Below w.heap.size w w' := by
  have hfH : Hid _ := hf
  clear hf
  obtain ⟨W, hW⟩ : ∃ W, W = (w.alloc (.cells #[.int .i64 0, .nilIface] 43)).alloc (.cells #[.int .i64 0, .nilIface] 43) := ⟨_, rfl⟩
  have hB0 : Below w.heap.size w W := by rw [hW]; exact below_new (below_new (Below.refl _ _) _) _
  have hz : W.heap.size = w.heap.size + 1 + 1 := by rw [hW]; simp
  have a0 : W.cell? ⟨w.heap.size, 0, none⟩ = some (.int .i64 0) := by rw [hW]; simp [go_sem]
  have a1 : W.cell? ⟨w.heap.size, 1, none⟩ = some .nilIface := by rw [hW]; simp [go_sem]
  have f0 : W.frozen? ⟨w.heap.size, 0, none⟩ = false := by rw [hW]; simp [go_sem]
  have f1 : W.frozen? ⟨w.heap.size, 1, none⟩ = false := by rw [hW]; simp [go_sem]
  have gW := ET_below hg hB0
  have hWH : Hid _ := hW
  clear hW
  go_enter_defers Tryd.func13, Tryd.ntmps13
  go_wp2_with fail
  rw [← hWH.out]
  refine (chainW_A_miss l b hfH.out _ W gW).mono ?_
  rintro ev w1 ⟨rfl, hB1⟩
  have z1 := hB1.size
  have b0 : w1.cell? ⟨w.heap.size, 0, none⟩ = some (.int .i64 0) := by rw [hB1.cell (by simp; omega)]; exact a0
  have b1 : w1.cell? ⟨w.heap.size, 1, none⟩ = some .nilIface := by rw [hB1.cell (by simp; omega)]; exact a1
  have g0 : w1.frozen? ⟨w.heap.size, 0, none⟩ = false := by rw [hB1.frozen (by simp; omega)]; exact f0
  have g1 : w1.frozen? ⟨w.heap.size, 1, none⟩ = false := by rw [hB1.frozen (by simp; omega)]; exact f1
  have P1 := below_then hB0 hB1
  clear a0 a1 f0 f1 hB1
  have S0 := World.cell?_setCell_same w1 ⟨w.heap.size, 0, none⟩ (.int .i64 0) b0
  go_wp2
  refine leaves_cons (f := 23) (args := #[]) (by simp) (by simp [go_sem]) ?_
  refine (find_deferA _).mono ?_
  rintro e u' w'' ⟨rfl, rfl, rfl⟩
  simp [Leaves, settle, results, Tryd.results13, go_sem, b0, b1]
  first | exact P1 | exact (P1.setCell (p := ⟨w.heap.size, 0, none⟩) (Nat.le_refl _) _).setCell (p := ⟨w.heap.size, 1, none⟩) (Nat.le_refl _) _
theorem findW_A_hit (l : List (Nat × Int)) (b : Int ⊕ Nat) (n : Int) (r : List (Nat × Int)) (hf : findW 0 l = some (n, r)) (w : World) (hg : ET w) : Calls Tryd.prog 13 #[errW l b] w fun e w' => e = .returned (.tuple #[.agg #[.int .i64 n, errW r b], .bool true]) ∧ Below w.heap.size w w' := by
  have hfH : Hid _ := hf
  clear hf
  obtain ⟨W, hW⟩ : ∃ W, W = (w.alloc (.cells #[.int .i64 0, .nilIface] 43)).alloc (.cells #[.int .i64 0, .nilIface] 43) := ⟨_, rfl⟩
  have hB0 : Below w.heap.size w W := by rw [hW]; exact below_new (below_new (Below.refl _ _) _) _
  have hz : W.heap.size = w.heap.size + 1 + 1 := by rw [hW]; simp
  have a0 : W.cell? ⟨w.heap.size, 0, none⟩ = some (.int .i64 0) := by rw [hW]; simp [go_sem]
  have a1 : W.cell? ⟨w.heap.size, 1, none⟩ = some .nilIface := by rw [hW]; simp [go_sem]
  have f0 : W.frozen? ⟨w.heap.size, 0, none⟩ = false := by rw [hW]; simp [go_sem]
  have f1 : W.frozen? ⟨w.heap.size, 1, none⟩ = false := by rw [hW]; simp [go_sem]
  have k0 : W.cell? ⟨w.heap.size + 1, 0, none⟩ = some (.int .i64 0) := by rw [hW]; simp [go_sem]
  have k1 : W.cell? ⟨w.heap.size + 1, 0 + 1, none⟩ = some .nilIface := by rw [hW]; simp [go_sem]
  have j0 : W.frozen? ⟨w.heap.size + 1, 0, none⟩ = false := by rw [hW]; simp [go_sem]
  have j1 : W.frozen? ⟨w.heap.size + 1, 0 + 1, none⟩ = false := by rw [hW]; simp [go_sem]
  have gW := ET_below hg hB0
  have hWH : Hid _ := hW
  have hR := chainW_A_hit l b n r hfH.out (w.heap.size + 1) 0 _ _ W gW k0 k1 j0 j1
  obtain ⟨tt, pp, hV⟩ := errW_iface r b
  rw [hV] at hR ⊢
  have hRH : Hid _ := hR
  have hk : Hid (W.cell? ⟨w.heap.size + 1, 0, none⟩ = some (.int .i64 0) ∧ W.cell? ⟨w.heap.size + 1, 1, none⟩ = some .nilIface) := ⟨k0, k1⟩
  clear hW hR hV k0 k1 j0 j1
  go_enter_defers Tryd.func13, Tryd.ntmps13
  go_wp2_with fail
  rw [← hWH.out]
  refine Calls.mono hRH.out ?_
  rintro ev v1 ⟨rfl, w1, hB1, hw1⟩
  have z1 := hB1.size
  have n01 : ∀ i j, (⟨w.heap.size + 1, i, none⟩ : Addr) ≠ ⟨w.heap.size, j, none⟩ := fun i j e => by injection e with e1; omega
  have ot : ∀ j x y, ((w1.setCell ⟨w.heap.size + 1, 0, none⟩ x).setCell ⟨w.heap.size + 1, 0 + 1, none⟩ y).cell? ⟨w.heap.size, j, none⟩ = w1.cell? ⟨w.heap.size, j, none⟩ := fun j x y => by
    rw [World.cell?_setCell_other _ _ _ _ (n01 _ _), World.cell?_setCell_other _ _ _ _ (n01 _ _)]
  have b0 : v1.cell? ⟨w.heap.size, 0, none⟩ = some (.int .i64 0) := by rw [hw1, ot, hB1.cell (by simp; omega)]; exact a0
  have b1 : v1.cell? ⟨w.heap.size, 1, none⟩ = some .nilIface := by rw [hw1, ot, hB1.cell (by simp; omega)]; exact a1
  have g0 : v1.frozen? ⟨w.heap.size, 0, none⟩ = false := by rw [hw1]; simp; rw [hB1.frozen (by simp; omega)]; exact f0
  have g1 : v1.frozen? ⟨w.heap.size, 1, none⟩ = false := by rw [hw1]; simp; rw [hB1.frozen (by simp; omega)]; exact f1
  have m0 : v1.cell? ⟨w.heap.size + 1, 0, none⟩ = some (.int .i64 n) := by
    rw [hw1, World.cell?_setCell_other _ _ _ _ (by simp)]
    exact World.cell?_setCell_same _ _ _ (u := .int .i64 0) (by rw [hB1.cell (by simp; omega)]; exact hk.out.1)
  have m1 : v1.cell? ⟨w.heap.size + 1, 1, none⟩ = some (.iface tt pp) := by
    rw [hw1]
    exact World.cell?_setCell_same _ _ _ (u := .nilIface) (by rw [World.cell?_setCell_other _ _ _ _ (by simp), hB1.cell (by simp; omega)]; exact hk.out.2)
  have P1 : Below w.heap.size w v1 := by
    rw [hw1]
    exact ((below_then hB0 hB1).setCell (p := ⟨w.heap.size + 1, 0, none⟩) (Nat.le_succ _) _).setCell (p := ⟨w.heap.size + 1, 0 + 1, none⟩) (Nat.le_succ _) _
  have zv : w.heap.size + 1 < v1.heap.size := by rw [hw1]; simp; omega
  clear a0 a1 f0 f1 hB1 hw1 ot hk hRH
  go_wp2
  refine leaves_cons (f := 23) (args := #[]) (by simp) (by simp [go_sem]) ?_
  refine (find_deferA _).mono ?_
  rintro e u' w'' ⟨rfl, rfl, rfl⟩
  simp [Leaves, settle, results, Tryd.results13, go_sem, b0, b1]
  exact (P1.setCell (p := ⟨w.heap.size, 0, none⟩) (Nat.le_refl _) _).setCell (p := ⟨w.heap.size, 1, none⟩) (Nat.le_refl _) _
theorem placeW0 (l : List (Nat × Int)) (b : Int ⊕ Nat) (w : World) (hg : ET w) : Calls Tryd.prog 6 #[errW l b] w fun e w' => e = .returned (.tuple #[.int .i64 (((findW 0 l).map (·.1)).getD 0), .bool (findW 0 l).isSome]) ∧ Below w.heap.size w w' := by
  cases hf : findW 0 l with
  | none =>
    have h := findW_A_miss l b hf
    have hH : Hid _ := h
    clear h hf
    go_enter Tryd.func6, Tryd.ntmps6
    go_wp2_with fail
    refine (hH.out _ hg).mono ?_
    rintro e w1 ⟨rfl, hb1⟩
    go_wp2
    go_ret2
    exact ⟨rfl, below_new hb1 _⟩
  | some x =>
    obtain ⟨n, r⟩ := x
    have h := findW_A_hit l b n r hf
    obtain ⟨tt, pp, hV⟩ := errW_iface r b
    rw [hV] at h
    have hH : Hid _ := h
    clear h hf hV
    go_enter Tryd.func6, Tryd.ntmps6
    go_wp2_with fail
    refine (hH.out _ hg).mono ?_
    rintro e w1 ⟨rfl, hb1⟩
    go_wp2
    go_ret2
    exact ⟨rfl, below_new hb1 _⟩

theorem find_deferI (w : World) : CallsD Tryd.prog 25 #[] .returning w fun e u' w' => e = .returned (.tuple #[]) ∧ u' = .returning ∧ w' = w := by
  refine callsD_of_wpS Tryd.func25 rfl fun c₀ cs hu => ?_
  apply wpS_region
  simp [wpOpsS, go_sem, recoverD, hu, Tryd.ntmps25, Exit.thenS]
  cases c₀
  simp_all [bodyPostS, results, Tryd.results25]
theorem findW_I_miss (l : List (Nat × Int)) (b : Int ⊕ Nat) (hf : findW 1 l = none) (w : World) (hg : ET w) : Calls Tryd.prog 14 #[errW l b] w fun e w' => e = .returned (.tuple #[.agg #[.int .i64 0, .nilIface], .bool false]) ∧ Below w.heap.size w w' := by
  have hfH : Hid _ := hf
  clear hf
  obtain ⟨W, hW⟩ : ∃ W, W = (w.alloc (.cells #[.int .i64 0, .nilIface] 45)).alloc (.cells #[.int .i64 0, .nilIface] 45) := ⟨_, rfl⟩
  have hB0 : Below w.heap.size w W := by rw [hW]; exact below_new (below_new (Below.refl _ _) _) _
  have hz : W.heap.size = w.heap.size + 1 + 1 := by rw [hW]; simp
  have a0 : W.cell? ⟨w.heap.size, 0, none⟩ = some (.int .i64 0) := by rw [hW]; simp [go_sem]
  have a1 : W.cell? ⟨w.heap.size, 1, none⟩ = some .nilIface := by rw [hW]; simp [go_sem]
  have f0 : W.frozen? ⟨w.heap.size, 0, none⟩ = false := by rw [hW]; simp [go_sem]
  have f1 : W.frozen? ⟨w.heap.size, 1, none⟩ = false := by rw [hW]; simp [go_sem]
  have gW := ET_below hg hB0
  have hWH : Hid _ := hW
  clear hW
  go_enter_defers Tryd.func14, Tryd.ntmps14
  go_wp2_with fail
  rw [← hWH.out]
  refine (chainW_I_miss l b hfH.out _ W gW).mono ?_
  rintro ev w1 ⟨rfl, hB1⟩
  have z1 := hB1.size
  have b0 : w1.cell? ⟨w.heap.size, 0, none⟩ = some (.int .i64 0) := by rw [hB1.cell (by simp; omega)]; exact a0
  have b1 : w1.cell? ⟨w.heap.size, 1, none⟩ = some .nilIface := by rw [hB1.cell (by simp; omega)]; exact a1
  have g0 : w1.frozen? ⟨w.heap.size, 0, none⟩ = false := by rw [hB1.frozen (by simp; omega)]; exact f0
  have g1 : w1.frozen? ⟨w.heap.size, 1, none⟩ = false := by rw [hB1.frozen (by simp; omega)]; exact f1
  have P1 := below_then hB0 hB1
  clear a0 a1 f0 f1 hB1
  have S0 := World.cell?_setCell_same w1 ⟨w.heap.size, 0, none⟩ (.int .i64 0) b0
  go_wp2
  refine leaves_cons (f := 25) (args := #[]) (by simp) (by simp [go_sem]) ?_
  refine (find_deferI _).mono ?_
  rintro e u' w'' ⟨rfl, rfl, rfl⟩
  simp [Leaves, settle, results, Tryd.results14, go_sem, b0, b1]
  first | exact P1 | exact (P1.setCell (p := ⟨w.heap.size, 0, none⟩) (Nat.le_refl _) _).setCell (p := ⟨w.heap.size, 1, none⟩) (Nat.le_refl _) _
theorem findW_I_hit (l : List (Nat × Int)) (b : Int ⊕ Nat) (n : Int) (r : List (Nat × Int)) (hf : findW 1 l = some (n, r)) (w : World) (hg : ET w) : Calls Tryd.prog 14 #[errW l b] w fun e w' => e = .returned (.tuple #[.agg #[.int .i64 n, errW r b], .bool true]) ∧ Below w.heap.size w w' := by
  have hfH : Hid _ := hf
  clear hf
  obtain ⟨W, hW⟩ : ∃ W, W = (w.alloc (.cells #[.int .i64 0, .nilIface] 45)).alloc (.cells #[.int .i64 0, .nilIface] 45) := ⟨_, rfl⟩
  have hB0 : Below w.heap.size w W := by rw [hW]; exact below_new (below_new (Below.refl _ _) _) _
  have hz : W.heap.size = w.heap.size + 1 + 1 := by rw [hW]; simp
  have a0 : W.cell? ⟨w.heap.size, 0, none⟩ = some (.int .i64 0) := by rw [hW]; simp [go_sem]
  have a1 : W.cell? ⟨w.heap.size, 1, none⟩ = some .nilIface := by rw [hW]; simp [go_sem]
  have f0 : W.frozen? ⟨w.heap.size, 0, none⟩ = false := by rw [hW]; simp [go_sem]
  have f1 : W.frozen? ⟨w.heap.size, 1, none⟩ = false := by rw [hW]; simp [go_sem]
  have k0 : W.cell? ⟨w.heap.size + 1, 0, none⟩ = some (.int .i64 0) := by rw [hW]; simp [go_sem]
  have k1 : W.cell? ⟨w.heap.size + 1, 0 + 1, none⟩ = some .nilIface := by rw [hW]; simp [go_sem]
  have j0 : W.frozen? ⟨w.heap.size + 1, 0, none⟩ = false := by rw [hW]; simp [go_sem]
  have j1 : W.frozen? ⟨w.heap.size + 1, 0 + 1, none⟩ = false := by rw [hW]; simp [go_sem]
  have gW := ET_below hg hB0
  have hWH : Hid _ := hW
  have hR := chainW_I_hit l b n r hfH.out (w.heap.size + 1) 0 _ _ W gW k0 k1 j0 j1
  obtain ⟨tt, pp, hV⟩ := errW_iface r b
  rw [hV] at hR ⊢
  have hRH : Hid _ := hR
  have hk : Hid (W.cell? ⟨w.heap.size + 1, 0, none⟩ = some (.int .i64 0) ∧ W.cell? ⟨w.heap.size + 1, 1, none⟩ = some .nilIface) := ⟨k0, k1⟩
  clear hW hR hV k0 k1 j0 j1
  go_enter_defers Tryd.func14, Tryd.ntmps14
  go_wp2_with fail
  rw [← hWH.out]
  refine Calls.mono hRH.out ?_
  rintro ev v1 ⟨rfl, w1, hB1, hw1⟩
  have z1 := hB1.size
  have n01 : ∀ i j, (⟨w.heap.size + 1, i, none⟩ : Addr) ≠ ⟨w.heap.size, j, none⟩ := fun i j e => by injection e with e1; omega
  have ot : ∀ j x y, ((w1.setCell ⟨w.heap.size + 1, 0, none⟩ x).setCell ⟨w.heap.size + 1, 0 + 1, none⟩ y).cell? ⟨w.heap.size, j, none⟩ = w1.cell? ⟨w.heap.size, j, none⟩ := fun j x y => by
    rw [World.cell?_setCell_other _ _ _ _ (n01 _ _), World.cell?_setCell_other _ _ _ _ (n01 _ _)]
  have b0 : v1.cell? ⟨w.heap.size, 0, none⟩ = some (.int .i64 0) := by rw [hw1, ot, hB1.cell (by simp; omega)]; exact a0
  have b1 : v1.cell? ⟨w.heap.size, 1, none⟩ = some .nilIface := by rw [hw1, ot, hB1.cell (by simp; omega)]; exact a1
  have g0 : v1.frozen? ⟨w.heap.size, 0, none⟩ = false := by rw [hw1]; simp; rw [hB1.frozen (by simp; omega)]; exact f0
  have g1 : v1.frozen? ⟨w.heap.size, 1, none⟩ = false := by rw [hw1]; simp; rw [hB1.frozen (by simp; omega)]; exact f1
  have m0 : v1.cell? ⟨w.heap.size + 1, 0, none⟩ = some (.int .i64 n) := by
    rw [hw1, World.cell?_setCell_other _ _ _ _ (by simp)]
    exact World.cell?_setCell_same _ _ _ (u := .int .i64 0) (by rw [hB1.cell (by simp; omega)]; exact hk.out.1)
  have m1 : v1.cell? ⟨w.heap.size + 1, 1, none⟩ = some (.iface tt pp) := by
    rw [hw1]
    exact World.cell?_setCell_same _ _ _ (u := .nilIface) (by rw [World.cell?_setCell_other _ _ _ _ (by simp), hB1.cell (by simp; omega)]; exact hk.out.2)
  have P1 : Below w.heap.size w v1 := by
    rw [hw1]
    exact ((below_then hB0 hB1).setCell (p := ⟨w.heap.size + 1, 0, none⟩) (Nat.le_succ _) _).setCell (p := ⟨w.heap.size + 1, 0 + 1, none⟩) (Nat.le_succ _) _
  have zv : w.heap.size + 1 < v1.heap.size := by rw [hw1]; simp; omega
  clear a0 a1 f0 f1 hB1 hw1 ot hk hRH
  go_wp2
  refine leaves_cons (f := 25) (args := #[]) (by simp) (by simp [go_sem]) ?_
  refine (find_deferI _).mono ?_
  rintro e u' w'' ⟨rfl, rfl, rfl⟩
  simp [Leaves, settle, results, Tryd.results14, go_sem, b0, b1]
  exact (P1.setCell (p := ⟨w.heap.size, 0, none⟩) (Nat.le_refl _) _).setCell (p := ⟨w.heap.size, 1, none⟩) (Nat.le_refl _) _
theorem indexW0 (l : List (Nat × Int)) (b : Int ⊕ Nat) (w : World) (hg : ET w) : Calls Tryd.prog 7 #[errW l b] w fun e w' => e = .returned (.tuple #[.int .i64 (((findW 1 l).map (·.1)).getD 0), .bool (findW 1 l).isSome]) ∧ Below w.heap.size w w' := by
  cases hf : findW 1 l with
  | none =>
    have h := findW_I_miss l b hf
    have hH : Hid _ := h
    clear h hf
    go_enter Tryd.func7, Tryd.ntmps7
    go_wp2_with fail
    refine (hH.out _ hg).mono ?_
    rintro e w1 ⟨rfl, hb1⟩
    go_wp2
    go_ret2
    exact ⟨rfl, below_new hb1 _⟩
  | some x =>
    obtain ⟨n, r⟩ := x
    have h := findW_I_hit l b n r hf
    obtain ⟨tt, pp, hV⟩ := errW_iface r b
    rw [hV] at h
    have hH : Hid _ := h
    clear h hf hV
    go_enter Tryd.func7, Tryd.ntmps7
    go_wp2_with fail
    refine (hH.out _ hg).mono ?_
    rintro e w1 ⟨rfl, hb1⟩
    go_wp2
    go_ret2
    exact ⟨rfl, below_new hb1 _⟩
theorem findW_E (l : List (Nat × Int)) (c : Int) (w : World) (hg : ET w) : Calls Tryd.prog 19 #[errW l (.inl c)] w fun e w' => e = .returned (.tuple #[.int .i64 c, .bool true]) ∧ Below w.heap.size w w' := by
  have hgA : ∀ o, ET (w.alloc o) := fun o => ET_alloc hg o
  go_enter_defers Tryd.func19, Tryd.ntmps19
  go_wp2_with fail
  refine (chainW_E l c ⟨w.heap.size, 0, none⟩ (.int .i64 0) _ (hgA _) (by simp) (by simp)).mono ?_
  rintro ev v1 ⟨rfl, w1, hB1, hw1⟩
  have hz : w.heap.size + 1 ≤ w1.heap.size := by have := hB1.size; simp at this; omega
  have c1 : v1.cell? ⟨w.heap.size, 0, none⟩ = some (.int .i64 c) := by
    rw [hw1]
    exact World.cell?_setCell_same _ _ _ (u := .int .i64 0) (by rw [hB1.cell (p := ⟨w.heap.size, 0, none⟩) (by simp)]; simp)
  have b1 : Below w.heap.size w v1 := by
    rw [hw1]
    exact ((below_new (Below.refl _ _) _).trans (hB1.mono (by simp))).setCell (by simp) _
  clear hw1
  go_wp2
  refine leaves_cons (f := 26) (args := #[]) (by simp) (by simp [go_sem]) ?_
  refine (find_defer _).mono ?_
  rintro e u' w'' ⟨rfl, rfl, rfl⟩
  simp [Leaves, settle, results, Tryd.results19, go_sem]
  exact b1
theorem findW_Ef (l : List (Nat × Int)) (F : Nat) (w : World) (hg : ET w) : Calls Tryd.prog 19 #[errW l (.inr F)] w fun e w' => e = .returned (.tuple #[.int .i64 0, .bool false]) ∧ Below w.heap.size w w' := by
  have hgA : ∀ o, ET (w.alloc o) := fun o => ET_alloc hg o
  go_enter_defers Tryd.func19, Tryd.ntmps19
  go_wp2_with fail
  refine (chainW_Ef l F ⟨w.heap.size, 0, none⟩ (.int .i64 0) _ (hgA _) (by simp) (by simp)).mono ?_
  rintro ev v1 ⟨rfl, hB1⟩
  have hz : w.heap.size + 1 ≤ v1.heap.size := by have := hB1.size; simp at this; omega
  have b1 : Below w.heap.size w v1 := (below_new (Below.refl _ _) _).trans (hB1.mono (by simp))
  clear hB1
  go_wp2
  refine leaves_cons (f := 26) (args := #[]) (by simp) (by simp [go_sem]) ?_
  refine (find_defer _).mono ?_
  rintro e u' w'' ⟨rfl, rfl, rfl⟩
  simp [Leaves, settle, results, Tryd.results19, go_sem]
  exact b1
def codeB : Int ⊕ Nat → Int
  | .inl c => c
  | .inr _ => 0
theorem codeW (l : List (Nat × Int)) (b : Int ⊕ Nat) (w : World) (hg : ET w) : Calls Tryd.prog 9 #[errW l b] w fun e w' => e = .returned (.int .i64 (codeB b)) ∧ Below w.heap.size w w' := by
  cases b with
  | inl c =>
    go_enter Tryd.func9, Tryd.ntmps9
    go_wp2_with fail
    refine (findW_E l c _ hg).mono ?_
    rintro e w1 ⟨rfl, hb1⟩
    go_wp2
    go_ret
    exact ⟨rfl, hb1⟩
  | inr F =>
    go_enter Tryd.func9, Tryd.ntmps9
    go_wp2_with fail
    refine (findW_Ef l F _ hg).mono ?_
    rintro e w1 ⟨rfl, hb1⟩
    go_wp2
    go_ret
    exact ⟨rfl, hb1⟩
theorem indexW (l : List (Nat × Int)) (b : Int ⊕ Nat) (w : World) (hg : ET w) : Calls Tryd.prog 7 #[errW l b] w fun e w' => e = .returned (.tuple #[.int .i64 ((fW 1 l).getD 0), .bool (fW 1 l).isSome]) ∧ Below w.heap.size w w' := by
  have h := indexW0 l b w hg
  rw [show (findW 1 l).isSome = (fW 1 l).isSome by unfold fW; simp] at h
  exact h
theorem placeW (l : List (Nat × Int)) (b : Int ⊕ Nat) (w : World) (hg : ET w) : Calls Tryd.prog 6 #[errW l b] w fun e w' => e = .returned (.tuple #[.int .i64 ((fW 0 l).getD 0), .bool (fW 0 l).isSome]) ∧ Below w.heap.size w w' := by
  have h := placeW0 l b w hg
  rw [show (findW 0 l).isSome = (fW 0 l).isSome by unfold fW; simp] at h
  exact h
end Go.Proofs.YtcbcpncbekeoaaaDoor
