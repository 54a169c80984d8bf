
import Derived.Test.YtogdchjldibijaaDoorDecS
import Derived.Test.YtogdchjldibijaaDoorIs
namespace Go.Proofs.YtogdchjldibijaaDoor
open Go.RowKit
set_option linter.unusedVariables false
set_option linter.unusedSimpArgs false
set_option maxRecDepth 100000 in
theorem numBack_walk (hi lo : Int) (h1 : I64 hi) (h2 : U64 lo) (w : World) (hg : ET w) :
    Calls Tryd.prog 5 #[.agg #[.int .i64 hi, .int .u64 lo]] w fun e w' => e = .returned (.bool true) ∧ Below w.heap.size w w' := by
  have hpr := print_any hi lo h1 h2
  have hpa := parse_dec (sv hi lo) (S128_sv hi lo h1 h2)
  rw [sH_sv hi lo h2, sL_sv hi lo h2] at hpa
  obtain ⟨T, hT⟩ : ∃ T, T = decS (sv hi lo) := ⟨_, rfl⟩
  rw [← hT] at hpr hpa
  have hprH : Hid _ := hpr
  have hpaH : Hid _ := hpa
  clear hpr hpa hT
  obtain ⟨W, hW⟩ : ∃ W, W = w.alloc (.cells #[.int .i64 hi, .int .u64 lo] 24) := ⟨_, rfl⟩
  have hB0 : Below w.heap.size w W := by rw [hW]; exact below_new (Below.refl _ _) _
  have hsz : W.heap.size = w.heap.size + 1 := by rw [hW]; simp
  have t0 : W.cell? ⟨w.heap.size, 0, none⟩ = some (.int .i64 hi) := by rw [hW]; simp [go_sem]
  have t1 : W.cell? ⟨w.heap.size, 1, none⟩ = some (.int .u64 lo) := by rw [hW]; simp [go_sem]
  have gW := ET_below hg hB0
  have hWH : Hid _ := hW
  clear hW
  go_enter Tryd.func5, Tryd.ntmps5
  go_wp2_with fail
  rw [← hWH.out]
  refine (live_any W gW).mono ?_
  rintro e w1 ⟨rfl, B1⟩
  have u0 : w1.cell? ⟨w.heap.size, 0, none⟩ = some (.int .i64 hi) := by rw [B1.cell (by simp; omega)]; exact t0
  have u1 : w1.cell? ⟨w.heap.size, 1, none⟩ = some (.int .u64 lo) := by rw [B1.cell (by simp; omega)]; exact t1
  go_wp2_with fail
  refine (hprH.out _).mono ?_
  rintro e w2 ⟨rfl, B2⟩
  have P2 := below_then B1 B2
  go_wp2_with fail
  refine (hpaH.out _).mono ?_
  rintro e w3 ⟨rfl, B3⟩
  have P3 := below_then P2 B3
  have z3 := P3.size
  have x0 : w3.cell? ⟨w.heap.size, 0, none⟩ = some (.int .i64 hi) := by rw [P3.cell (by simp; omega)]; exact t0
  have x1 : w3.cell? ⟨w.heap.size, 1, none⟩ = some (.int .u64 lo) := by rw [P3.cell (by simp; omega)]; exact t1
  have hlt : w.heap.size < w3.heap.size := by omega
  clear u0 u1 t0 t1 B1 B2 B3
  go_wp2_with fail
  go_ret
  exact ⟨rfl, below_new (below_then hB0 P3) _⟩
end Go.Proofs.YtogdchjldibijaaDoor
