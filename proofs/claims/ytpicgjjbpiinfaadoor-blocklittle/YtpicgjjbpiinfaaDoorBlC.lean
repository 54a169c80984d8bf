
import Derived.Test.YtpicgjjbpiinfaaDoorBlA
import Derived.BigQuiet
namespace Go.Proofs.YtpicgjjbpiinfaaDoor
open Go.RowKit
set_option linter.unusedVariables false
set_option linter.unusedSimpArgs false
/-- a slice of numbers with their signs. -/
def IsIn (w : World) (a : Option Addr) (n : Nat) (z : Nat → Int) : Prop := n ≤ 17592186044416 ∧ (∀ i, -9223372036854775808 ≤ z i ∧ z i ≤ 9223372036854775807) ∧ (n = 0 ∨ ∃ b off, a = some ⟨b, off, none⟩ ∧ b < w.heap.size ∧ ∀ i, i < n → w.cell? ⟨b, off + i, none⟩ = some (.int .i64 (z i)))
theorem IsIn.below {w w' : World} {a : Option Addr} {n B : Nat} {z : Nat → Int} (h : IsIn w a n z) (hb : Below B w w') (hB : w.heap.size ≤ B) : IsIn w' a n z := by
  obtain ⟨h1, h2, h3⟩ := h
  refine ⟨h1, h2, ?_⟩
  rcases h3 with h0 | ⟨b, off, e, hl, hc⟩
  · exact Or.inl h0
  · exact Or.inr ⟨b, off, e, Nat.lt_of_lt_of_le hl hb.size, fun i hi => by rw [hb.cell (p := ⟨b, off + i, none⟩) (by show b < B; omega)]; exact hc i hi⟩
def Rises (z : Nat → Int) (n : Nat) : Prop := ∀ i, 1 ≤ i → i < n → z (i - 1) < z i
def RisesE (z : Nat → Int) (n : Nat) (e : Ending) : Prop := ∃ r, e = .returned (.bool r) ∧ (r = true ↔ Rises z n)
set_option maxRecDepth 100000 in
set_option maxHeartbeats 4000000 in
theorem rising_any (a : Option Addr) (n cap : Nat) (z : Nat → Int) (w : World) (h : IsIn w a n z) : Calls Tryd.prog 47 #[.slice a n cap] w fun e w' => RisesE z n e ∧ Below w.heap.size w w' := by
  obtain ⟨hn, hz, hc⟩ := h
  go_enter Tryd.func47, Tryd.ntmps47
  go_wp2_with fail
  go_loopw [3] (fun i wr => ∃ k : Nat, 1 ≤ k ∧ (k ≤ n ∨ k = 1) ∧ i = .int .i64 (k : Int) ∧ Below w.heap.size w wr ∧ Rises z k) (fun i _ => n - (intOf i).toNat)
  case atStart => exact ⟨1, by omega, Or.inr rfl, rfl, Below.refl _ _, fun i h1 h2 => by omega⟩
  case round =>
    obtain ⟨k, hk1, hk2, rfl, hB, hR⟩ := hrel
    by_cases hkn : k < n
    · have hkI : (k : Int) < (n : Int) := by omega
      rcases hc with h0 | ⟨b, off, rfl, hb, hcc⟩
      · omega
      obtain ⟨j, hj⟩ : ∃ j, j = k - 1 := ⟨_, rfl⟩
      have d1 : wr.cell? ⟨b, off + k, none⟩ = some (.int .i64 (z k)) := by rw [hB.cell (p := ⟨b, off + k, none⟩) hb]; exact hcc k hkn
      have d2 : wr.cell? ⟨b, off + j, none⟩ = some (.int .i64 (z j)) := by rw [hB.cell (p := ⟨b, off + j, none⟩) hb]; exact hcc j (by omega)
      have k1 : (0 : Int) ≤ (k : Int) := by omega
      have k2 : (k : Int) - 1 = (j : Int) := by omega
      have k3 : (0 : Int) ≤ (j : Int) := by omega
      have k4 : (j : Int) < (n : Int) := by omega
      obtain ⟨x, hx⟩ : ∃ x, x = z k := ⟨_, rfl⟩
      obtain ⟨y, hy⟩ : ∃ y, y = z j := ⟨_, rfl⟩
      rw [← hx] at d1
      rw [← hy] at d2
      have hxH : Hid _ := And.intro hx hy
      have hjH : Hid _ := hj
      have hRH : Hid (Rises z k) := hR
      have hBd : ∀ q, Below w.heap.size w (wr.drewN q) := fun q => below_drewN hB q
      clear hx hy hcc hj hR hB
      by_cases hle : x ≤ y
      · go_wp2_with fail
        go_quiet (fail)
        go_wp2_with fail
        go_ret
        refine ⟨⟨false, rfl, (fun h => by cases h), fun hr => ?_⟩, hBd _⟩
        have := hr k hk1 hkn
        have e := hxH.out
        rw [← hjH.out, ← e.1, ← e.2] at this
        omega
      · go_wp2_with fail
        go_quiet (fail)
        go_wp2_with fail
        go_roundw
        case rel => exact ⟨k + 1, by omega, by omega, by go_num, hBd _, fun i h1 h2 => by
          rcases Nat.lt_or_ge i k with h3 | h3
          · exact hRH.out i h1 h3
          · obtain rfl : i = k := by omega
            have e := hxH.out; rw [← hjH.out, ← e.1, ← e.2]; omega⟩
        case measure => simp [intOf]; omega
    · have hkI : ¬ (k : Int) < (n : Int) := by omega
      have hRn : Hid (Rises z n) := (fun i h1 h2 => hR i h1 (by omega) : Rises z n)
      clear hR
      go_wp2_with fail
      go_ret
      exact ⟨⟨true, rfl, fun _ => hRn.out, fun _ => rfl⟩, hB⟩
set_option maxRecDepth 100000 in
set_option maxHeartbeats 4000000 in
theorem rises_any (a : Option Addr) (n cap : Nat) (z : Nat → Int) (w : World) (h : IsIn w a n z) : Calls Tryd.prog 81 #[.slice a n cap] w fun e w' => RisesE z n e ∧ Below w.heap.size w w' := by
  obtain ⟨hn, hz, hc⟩ := h
  go_enter Tryd.func81, Tryd.ntmps81
  go_wp2_with fail
  go_loopw [3] (fun i wr => ∃ k : Nat, 1 ≤ k ∧ (k ≤ n ∨ k = 1) ∧ i = .int .i64 (k : Int) ∧ Below w.heap.size w wr ∧ Rises z k) (fun i _ => n - (intOf i).toNat)
  case atStart => exact ⟨1, by omega, Or.inr rfl, rfl, Below.refl _ _, fun i h1 h2 => by omega⟩
  case round =>
    obtain ⟨k, hk1, hk2, rfl, hB, hR⟩ := hrel
    by_cases hkn : k < n
    · have hkI : (k : Int) < (n : Int) := by omega
      rcases hc with h0 | ⟨b, off, rfl, hb, hcc⟩
      · omega
      obtain ⟨j, hj⟩ : ∃ j, j = k - 1 := ⟨_, rfl⟩
      have d1 : wr.cell? ⟨b, off + k, none⟩ = some (.int .i64 (z k)) := by rw [hB.cell (p := ⟨b, off + k, none⟩) hb]; exact hcc k hkn
      have d2 : wr.cell? ⟨b, off + j, none⟩ = some (.int .i64 (z j)) := by rw [hB.cell (p := ⟨b, off + j, none⟩) hb]; exact hcc j (by omega)
      have k1 : (0 : Int) ≤ (k : Int) := by omega
      have k2 : (k : Int) - 1 = (j : Int) := by omega
      have k3 : (0 : Int) ≤ (j : Int) := by omega
      have k4 : (j : Int) < (n : Int) := by omega
      obtain ⟨x, hx⟩ : ∃ x, x = z k := ⟨_, rfl⟩
      obtain ⟨y, hy⟩ : ∃ y, y = z j := ⟨_, rfl⟩
      rw [← hx] at d1
      rw [← hy] at d2
      have hxH : Hid _ := And.intro hx hy
      have hjH : Hid _ := hj
      have hRH : Hid (Rises z k) := hR
      have hBd : ∀ q, Below w.heap.size w (wr.drewN q) := fun q => below_drewN hB q
      clear hx hy hcc hj hR hB
      by_cases hle : x ≤ y
      · go_wp2_with fail
        go_quiet (fail)
        go_wp2_with fail
        go_ret
        refine ⟨⟨false, rfl, (fun h => by cases h), fun hr => ?_⟩, hBd _⟩
        have := hr k hk1 hkn
        have e := hxH.out
        rw [← hjH.out, ← e.1, ← e.2] at this
        omega
      · go_wp2_with fail
        go_quiet (fail)
        go_wp2_with fail
        go_roundw
        case rel => exact ⟨k + 1, by omega, by omega, by go_num, hBd _, fun i h1 h2 => by
          rcases Nat.lt_or_ge i k with h3 | h3
          · exact hRH.out i h1 h3
          · obtain rfl : i = k := by omega
            have e := hxH.out; rw [← hjH.out, ← e.1, ← e.2]; omega⟩
        case measure => simp [intOf]; omega
    · have hkI : ¬ (k : Int) < (n : Int) := by omega
      have hRn : Hid (Rises z n) := (fun i h1 h2 => hR i h1 (by omega) : Rises z n)
      clear hR
      go_wp2_with fail
      go_ret
      exact ⟨⟨true, rfl, fun _ => hRn.out, fun _ => rfl⟩, hB⟩
end Go.Proofs.YtpicgjjbpiinfaaDoor
