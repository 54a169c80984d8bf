
import Derived.Test.YtmlankbaoanaeaaDoorRdA
import Derived.Test.YtmlankbaoanaeaaDoorOpenB
namespace Go.Proofs.YtmlankbaoanaeaaDoor
open Go.RowKit
set_option linter.unusedVariables false
set_option linter.unusedSimpArgs false
theorem rdByte_any (N : Nat) (w1 : World) (g n cap at' : Nat) (bs : Nat → Nat) (w : World) (h : RS N w1 g n cap at' bs w) (hm : at' < n) (hn : n ≤ 9223372036854775807) :
    Calls Tryd.prog 59 #[.pointer (some ⟨N, 0, none⟩)] w fun e w' => e = .returned (.int .u8 (bs at' : Int)) ∧ RS N w1 g n cap (at' + 1) bs w' := by
  go_enter Tryd.func59, Tryd.ntmps59
  go_wp2_with fail
  refine (rbegin_any N w1 g n cap at' 1 bs _ h (by omega) hn).mono ?_
  rintro e w2 ⟨rfl, h2⟩
  go_wp2_with fail
  refine (rtake_any N w1 g n cap at' bs _ h2 hm hn).mono ?_
  rintro e w3 ⟨rfl, h3⟩
  go_wp2_with fail
  go_ret
  exact ⟨rfl, h3⟩
/-- the first k of four bytes. -/
def u32Part (bs : Nat → Nat) (i : Nat) : Nat → Nat
  | 0 => 0
  | k + 1 => u32Part bs i k * 256 + bs (i + k)
theorem u32Part_lt (bs : Nat → Nat) (i k : Nat) (h : ∀ j, j < i + k → bs j < 256) : u32Part bs i k < 256 ^ k := by
  induction k with
  | zero => simp [u32Part]
  | succ k ih =>
    have h1 := ih fun j hj => h j (by omega)
    have h2 := h (i + k) (by omega)
    simp only [u32Part, Nat.pow_succ]; omega
theorem u32Part_4 (bs : Nat → Nat) (i : Nat) : u32Part bs i 4 = u32At bs i := by simp only [u32Part, u32At, Nat.add_zero]; omega
set_option maxRecDepth 100000 in
set_option maxHeartbeats 2000000 in
theorem rdFix_any (N : Nat) (w1 : World) (g n cap at' : Nat) (bs : Nat → Nat) (w : World) (h : RS N w1 g n cap at' bs w) (hm : at' + 4 ≤ n) (hn : n ≤ 9223372036854775807) :
    Calls Tryd.prog 60 #[.pointer (some ⟨N, 0, none⟩)] w fun e w' => e = .returned (.int .u32 (u32At bs at' : Nat)) ∧ RS N w1 g n cap (at' + 4) bs w' := by
  go_enter Tryd.func60, Tryd.ntmps60
  go_wp2_with fail
  refine (rbegin_any N w1 g n cap at' 4 bs _ h hm hn).mono ?_
  rintro e w2 ⟨rfl, h2⟩
  go_wp2_with fail
  go_loopw [3, 4] (fun v i wr => ∃ (k : Nat), k ≤ 4 ∧ v = .int .u32 (u32Part bs at' k : Nat) ∧ i = .int .i64 k ∧ RS N w1 g n cap (at' + k) bs wr) (fun _ i _ => 4 - (intOf i).toNat)
  case atStart => exact ⟨0, by omega, rfl, rfl, h2⟩
  case round =>
    clear h h2
    obtain ⟨k, hk, rfl, rfl, hR⟩ := hrel
    have hbs : ∀ j, j < at' + k → bs j < 256 := fun j hj => (hR.row j (by omega)).2
    by_cases hlt : k < 4
    · have hltI : (k : Int) < 4 := by omega
      have hp := u32Part_lt bs at' k hbs
      have hp' : u32Part bs at' k < 16777216 := by
        have : 256 ^ k ≤ 256 ^ 3 := Nat.pow_le_pow_right (by omega) (by omega)
        omega
      have hb8 := (hR.row (at' + k) (by omega)).2
      have en : u32Part bs at' (k + 1) = u32Part bs at' k * 256 + bs (at' + k) := rfl
      generalize hq : u32Part bs at' k = p at *
      clear hbs hp
      have en' : Hid _ := en
      clear en
      go_wp2_with fail
      refine (rtake_any N w1 g n cap (at' + k) bs _ hR (by omega) hn).mono ?_
      rintro e w3 ⟨rfl, h3⟩
      generalize hv : bs (at' + k) = v8 at *
      go_wp2_with fail
      go_roundw
      case rel => exact ⟨k + 1, by omega, by rw [en'.out]; simp, by go_num, h3⟩
      case measure => simp [intOf]; omega
    · obtain rfl : k = 4 := by omega
      rw [u32Part_4]
      go_wp2_with fail
      go_ret
      exact ⟨rfl, hR⟩
end Go.Proofs.YtmlankbaoanaeaaDoor
