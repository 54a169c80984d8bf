
import Derived.Test.YtlcpkbllpkgihaaDoorCrcM
import Derived.LoopTactic
import Derived.Below
namespace Go.Proofs.YtlcpkbllpkgihaaDoor
open Go.RowKit
set_option linter.unusedVariables false
set_option linter.unusedSimpArgs false
/-- the table, as it lies. -/
def ST (w : World) : Prop := ∀ i, i < 16 → w.cell? ⟨0, i, none⟩ = some (.int .u32 (tabN i))
/-- bytes that lie in a row. -/
def BytesAt (w : World) (b off len : Nat) (bs : Nat → Nat) : Prop := ∀ i, i < len → w.cell? ⟨b, off + i, none⟩ = some (.int .u8 (bs i)) ∧ bs i < 256
def crcTo (bs : Nat → Nat) : Nat → Nat
  | 0 => 4294967295
  | k + 1 => step8 (crcTo bs k ^^^ bs k)
theorem step4_lt (c : Nat) (h : c < 4294967296) : step4 c < 4294967296 := by
  unfold step4; exact step_lt _ (step_lt _ (step_lt _ (step_lt _ h)))
theorem xor_lt32 (a b : Nat) (ha : a < 4294967296) (hb : b < 4294967296) : a ^^^ b < 4294967296 := Nat.xor_lt_two_pow (n := 32) ha hb
theorem and15 (c : Nat) (h : c < 4294967296) : bits .and .u32 (c : Int) 15 = ((c % 16 : Nat) : Int) := by
  have := u32_and_nat c 15 h (by omega)
  rw [Nat.and_two_pow_sub_one_eq_mod c 4] at this
  exact this
theorem four_xor (c : Nat) (h : c < 4294967296) : bits .xor .u32 ((c : Int) / 16) ((tabN (c % 16) : Nat) : Int) = ((step4 c : Nat) : Int) := by
  have := u32_xor_nat (c / 16) (tabN (c % 16)) (by omega) (tabN_lt _ (by omega))
  rw [four_steps] at this
  exact this
set_option maxRecDepth 100000 in
set_option maxHeartbeats 4000000 in
theorem crc_wire (b off len cap : Nat) (bs : Nat → Nat) (w : World) (hmax : len ≤ 9223372036854775807) (hb : BytesAt w b off len bs) (hs : ST w) :
    Calls Tryd.prog 54 #[.slice (some ⟨b, off, none⟩) len cap] w fun e w' => e = .returned (.int .u32 (crcTo bs len ^^^ 4294967295 : Nat)) ∧ w' = w := by
  go_enter Tryd.func54, Tryd.ntmps54
  go_wp2_with fail
  go_loopw [3, 8] (fun s i wr => ∃ (k : Nat), k ≤ len ∧ s = .int .u32 (crcTo bs k : Nat) ∧ i = .int .i64 k ∧ crcTo bs k < 4294967296 ∧ wr = w) (fun _ i _ => len - (intOf i).toNat)
  case atStart => exact ⟨0, Nat.zero_le _, rfl, rfl, by simp [crcTo], rfl⟩
  case round =>
    obtain ⟨k, hk, rfl, rfl, hc, rfl⟩ := hrel
    by_cases hlt : k < len
    · have hltI : (k : Int) < (len : Int) := by omega
      obtain ⟨hcell, hv⟩ := hb k hlt
      have hnext : crcTo bs (k + 1) = step4 (step4 (crcTo bs k ^^^ bs k)) := rfl
      have hlast := hnext
      generalize hcc : crcTo bs k = c at *
      generalize hvv : bs k = v at *
      have hv32 : v < 4294967296 := by omega
      have e1 := u32_xor_nat c v hc hv32
      have h1 := xor_lt32 c v hc hv32
      generalize h1e : c ^^^ v = c1 at *
      have e2 := and15 c1 h1
      have t1 := hs (c1 % 16) (by omega)
      have e3 := four_xor c1 h1
      have h2 := step4_lt c1 h1
      generalize h2e : step4 c1 = c2 at *
      have e4 := and15 c2 h2
      have t2 := hs (c2 % 16) (by omega)
      have e5 := four_xor c2 h2
      have h3 := step4_lt c2 h2
      generalize h3e : step4 c2 = c3 at *
      clear hb h1e h2e h3e hcc hvv
      have i1 : (0 : Int) ≤ ((c1 % 16 : Nat) : Int) := by omega
      have i2 : ((c1 % 16 : Nat) : Int) < 16 := by omega
      have i3 : (0 : Int) ≤ ((c2 % 16 : Nat) : Int) := by omega
      have i4 : ((c2 % 16 : Nat) : Int) < 16 := by omega
      clear hnext
      have hlast' : Hid _ := hlast
      clear hlast
      go_wp2_with fail
      go_roundw
      case rel => exact ⟨k + 1, by omega, by rw [hlast'.out], by go_num, by rw [hlast'.out]; exact h3, trivial⟩
      case measure => simp [intOf]; omega
    · have hk' : len = k := by omega
      subst hk'
      have e1 := u32_xor_nat (crcTo bs len) 4294967295 hc (by omega)
      go_wp2_with fail
      go_ret
      exact ⟨congrArg (fun n : Int => Ending.returned (Value.int .u32 n)) e1, rfl⟩
theorem mod2 (c : Nat) : ((c : Int) % 2 == 1) = decide (c % 2 = 1) := by
  rcases Nat.mod_two_eq_zero_or_one c with h | h
  · have : (c : Int) % 2 = 0 := by omega
    rw [this, h]; rfl
  · have : (c : Int) % 2 = 1 := by omega
    rw [this, h]; rfl
def stepTo (c : Nat) : Nat → Nat
  | 0 => c
  | k + 1 => stepN (stepTo c k)
theorem stepTo_lt (c : Nat) (h : c < 4294967296) (k : Nat) : stepTo c k < 4294967296 := by
  induction k with
  | zero => exact h
  | succ k ih => exact step_lt _ ih
theorem stepTo_8 (c : Nat) : stepTo c 8 = step8 c := rfl
end Go.Proofs.YtlcpkbllpkgihaaDoor
