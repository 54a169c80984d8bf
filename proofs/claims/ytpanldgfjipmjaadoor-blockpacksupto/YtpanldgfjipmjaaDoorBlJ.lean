
import Derived.Test.YtpanldgfjipmjaaDoorBlI
import Derived.Test.YtpanldgfjipmjaaDoorSame
import Derived.BigQuiet
namespace Go.Proofs.YtpanldgfjipmjaaDoor
open Go.RowKit
set_option linter.unusedVariables false
set_option linter.unusedSimpArgs false
set_option maxRecDepth 100000 in
set_option maxHeartbeats 4000000 in
theorem sameTimes_any (a1 a2 : Option Addr) (n c1 c2 : Nat) (z : Nat → Int) (w : World) (h1 : IsIn w a1 n z) (h2 : IsIn w a2 n z) : Calls Tryd.prog 12 #[.slice a1 n c1, .slice a2 n c2] w fun e w' => e = .returned (.bool true) ∧ Below w.heap.size w w' := by
  obtain ⟨hn, hz, hc1⟩ := h1
  obtain ⟨_, _, hc2⟩ := h2
  go_enter Tryd.func12, Tryd.ntmps12
  go_wp2_with fail
  go_loopw [5] (fun i wr => ∃ k : Nat, k ≤ n ∧ i = .int .i64 (k : Int) ∧ Below w.heap.size w wr) (fun i _ => n - (intOf i).toNat)
  case atStart => exact ⟨0, by omega, rfl, Below.refl _ _⟩
  case round =>
    obtain ⟨k, hk, rfl, hB⟩ := hrel
    by_cases hkn : k < n
    · have hkI : (k : Int) < (n : Int) := by omega
      have k1 : (0 : Int) ≤ (k : Int) := by omega
      rcases hc1 with h0 | ⟨b, off, rfl, hb, hcc⟩
      · omega
      rcases hc2 with h0 | ⟨b', off', rfl, hb', hcc'⟩
      · omega
      have d1 : wr.cell? ⟨b, off + k, none⟩ = some (.int .i64 (z k)) := by rw [hB.cell (p := ⟨b, off + k, none⟩) hb]; exact hcc k hkn
      have d2 : wr.cell? ⟨b', off' + k, none⟩ = some (.int .i64 (z k)) := by rw [hB.cell (p := ⟨b', off' + k, none⟩) hb']; exact hcc' k hkn
      obtain ⟨x, hx⟩ : ∃ x, x = z k := ⟨_, rfl⟩
      rw [← hx] at d1 d2
      have hBd : ∀ q, Below w.heap.size w (wr.drewN q) := fun q => below_drewN hB q
      clear hx hcc hcc' hB
      go_wp2_with fail
      go_quiet (fail)
      go_wp2_with fail
      go_roundw
      case rel => exact ⟨k + 1, by omega, by go_num, hBd _⟩
      case measure => simp [intOf]; omega
    · have hkI : ¬ (k : Int) < (n : Int) := by omega
      go_wp2_with fail
      go_ret
      exact ⟨rfl, hB⟩
theorem same_nilB (w : World) : Calls Tryd.prog 10 #[.nilIface, badV 0] w fun e w' => e = .returned (.bool true) ∧ Below w.heap.size w w' := by
  have hB := below_new (Below.refl _ w) (.cells #[.int .i64 0, .int .i64 0, .int .i64 0, .bool false, .bool false] 30)
  have hBH : Hid _ := hB
  unfold badV
  clear hB
  go_enter Tryd.func10, Tryd.ntmps10
  go_wp2_with fail
  go_ret
  exact ⟨rfl, hBH.out⟩
end Go.Proofs.YtpanldgfjipmjaaDoor
