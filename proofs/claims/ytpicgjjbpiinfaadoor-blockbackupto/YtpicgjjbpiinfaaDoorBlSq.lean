
import Derived.Test.YtpicgjjbpiinfaaDoorBuM
import Derived.BigQuiet
namespace Go.Proofs.YtpicgjjbpiinfaaDoor
open Go.RowKit
set_option linter.unusedVariables false
set_option linter.unusedSimpArgs false
set_option maxRecDepth 100000 in
set_option maxHeartbeats 4000000 in
theorem sameValues_any (a1 a2 : Option Addr) (n c1 c2 : Nat) (kk : Nat → Nat) (xx : Nat → Int) (w : World) (h1 : VIn w a1 n kk xx) (h2 : VIn w a2 n kk xx) : Calls Tryd.prog 13 #[.slice a1 n c1, .slice a2 n c2] w fun e w' => e = .returned (.bool true) ∧ Below w.heap.size w w' := by
  obtain ⟨hn, hz, hc1⟩ := h1
  obtain ⟨_, _, hc2⟩ := h2
  go_enter Tryd.func13, Tryd.ntmps13
  go_wp2_with fail
  go_loopw [5] (fun i wr => ∃ k : Nat, k ≤ n ∧ i = .int .i64 (k : Int) ∧ Below w.heap.size w wr) (fun i _ => n - (intOf i).toNat)
  case atStart => exact ⟨0, by omega, rfl, Below.refl _ _⟩
  case round =>
    obtain ⟨k, hk, rfl, hB⟩ := hrel
    by_cases hkn : k < n
    · have hkI : (k : Int) < (n : Int) := by omega
      have k1 : (0 : Int) ≤ (k : Int) := by omega
      rcases hc1 with h0 | ⟨b, off, rfl, hb, hcc⟩
      · omega
      rcases hc2 with h0 | ⟨b', off', rfl, hb', hcc'⟩
      · omega
      have d1 : wr.cell? ⟨b, off + k * 2, none⟩ = some (.int .u8 (kk k : Int)) := by rw [hB.cell (p := ⟨b, off + k * 2, none⟩) hb]; exact (hcc k hkn).1
      have d2 : wr.cell? ⟨b, off + k * 2 + 1, none⟩ = some (.int .i64 (xx k)) := by rw [hB.cell (p := ⟨b, off + k * 2 + 1, none⟩) hb]; exact (hcc k hkn).2
      have d3 : wr.cell? ⟨b', off' + k * 2, none⟩ = some (.int .u8 (kk k : Int)) := by rw [hB.cell (p := ⟨b', off' + k * 2, none⟩) hb']; exact (hcc' k hkn).1
      have d4 : wr.cell? ⟨b', off' + k * 2 + 1, none⟩ = some (.int .i64 (xx k)) := by rw [hB.cell (p := ⟨b', off' + k * 2 + 1, none⟩) hb']; exact (hcc' k hkn).2
      obtain ⟨x, hx⟩ : ∃ x, x = xx k := ⟨_, rfl⟩
      obtain ⟨y, hy⟩ : ∃ y, y = kk k := ⟨_, rfl⟩
      rw [← hx] at d2 d4
      rw [← hy] at d1 d3
      clear hy
      have hBd : ∀ q, Below w.heap.size w (wr.drewN q) := fun q => below_drewN hB q
      clear hx hcc hcc' hB
      go_wp2_with fail
      go_quiet (fail)
      go_wp2_with fail
      go_roundw
      case rel => exact ⟨k + 1, by omega, by go_num, hBd _⟩
      case measure => simp [intOf]; omega
    · have hkI : ¬ (k : Int) < (n : Int) := by omega
      go_wp2_with fail
      go_ret
      exact ⟨rfl, hB⟩
end Go.Proofs.YtpicgjjbpiinfaaDoor
