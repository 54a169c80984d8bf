
import Derived.Test.YtepgcgphnjlcoaaDoorWBytesq
namespace Go.Proofs.YtepgcgphnjlcoaaDoor
open Go.RowKit
set_option linter.unusedVariables false
set_option linter.unusedSimpArgs false
def u32At (bs : Nat → Nat) (i : Nat) : Nat := bs i * 16777216 + bs (i + 1) * 65536 + bs (i + 2) * 256 + bs (i + 3)
theorem or_add (x y k : Nat) (hy : y < 2 ^ k) (hx : x * 2 ^ k + y < 4294967296) : bits .or .u32 ((x * 2 ^ k : Nat) : Int) (y : Int) = ((x * 2 ^ k + y : Nat) : Int) := by
  have h1 := u32_or_nat (x * 2 ^ k) y (by omega) (by omega)
  have h2 := Nat.two_pow_add_eq_or_of_lt hy x
  rw [Nat.mul_comm] at h2
  rw [h1, h2]
set_option maxRecDepth 100000 in
set_option maxHeartbeats 2000000 in
theorem unfour_any (H off len cap : Nat) (b0 b1 b2 b3 : Nat) (w : World) (h4 : 4 ≤ len) (h0 : w.cell? ⟨H, off, none⟩ = some (.int .u8 (b0 : Int))) (h1 : w.cell? ⟨H, off + 1, none⟩ = some (.int .u8 (b1 : Int))) (h2 : w.cell? ⟨H, off + 2, none⟩ = some (.int .u8 (b2 : Int))) (h3 : w.cell? ⟨H, off + 3, none⟩ = some (.int .u8 (b3 : Int)))
    (k0 : b0 < 256) (k1 : b1 < 256) (k2 : b2 < 256) (k3 : b3 < 256) :
    Calls Tryd.prog 33 #[.slice (some ⟨H, off, none⟩) len cap] w fun e w' => e = .returned (.int .u32 (b0 * 16777216 + b1 * 65536 + b2 * 256 + b3 : Nat)) ∧ w' = w.drew := by
  have l0 : (0 : Int) < (len : Int) := by omega
  have l00 : 0 < len := by omega
  have wb : IntKind.u32.wrap (b0 : Int) = (b0 : Int) := by rw [IntKind.wrap_u32]; omega
  have wm : IntKind.u32.wrap ((b0 : Int) * 16777216) = (b0 : Int) * 16777216 := by rw [IntKind.wrap_u32]; omega
  obtain ⟨r1, hr1⟩ : ∃ r : Nat, r = b0 * 256 + b1 := ⟨_, rfl⟩
  obtain ⟨r2, hr2⟩ : ∃ r : Nat, r = r1 * 256 + b2 := ⟨_, rfl⟩
  obtain ⟨r3, hr3⟩ : ∃ r : Nat, r = r2 * 256 + b3 := ⟨_, rfl⟩
  have e1 : bits .or .u32 ((b0 : Int) * 16777216) ((b1 : Int) * 65536) = (r1 : Int) * 65536 := by
    have := or_add b0 (b1 * 65536) 24 (by omega) (by omega)
    rw [show ((b0 * 2 ^ 24 : Nat) : Int) = (b0 : Int) * 16777216 by omega, show ((b1 * 65536 : Nat) : Int) = (b1 : Int) * 65536 by omega] at this
    rw [this]; omega
  have e2 : bits .or .u32 ((r1 : Int) * 65536) ((b2 : Int) * 256) = (r2 : Int) * 256 := by
    have := or_add r1 (b2 * 256) 16 (by omega) (by omega)
    rw [show ((r1 * 2 ^ 16 : Nat) : Int) = (r1 : Int) * 65536 by omega, show ((b2 * 256 : Nat) : Int) = (b2 : Int) * 256 by omega] at this
    rw [this]; omega
  have e3 : bits .or .u32 ((r2 : Int) * 256) (b3 : Int) = (r3 : Int) := by
    have := or_add r2 b3 8 (by omega) (by omega)
    rw [show ((r2 * 2 ^ 8 : Nat) : Int) = (r2 : Int) * 256 by omega] at this
    rw [this]; omega
  have hr : Hid (b0 * 16777216 + b1 * 65536 + b2 * 256 + b3 = r3) := by unfold Hid; omega
  clear hr1 hr2 hr3
  have wb1 : IntKind.u32.wrap (b1 : Int) = (b1 : Int) := by rw [IntKind.wrap_u32]; omega
  have wmb1 : IntKind.u32.wrap ((b1 : Int) * 65536) = (b1 : Int) * 65536 := by rw [IntKind.wrap_u32]; omega
  have wb2 : IntKind.u32.wrap (b2 : Int) = (b2 : Int) := by rw [IntKind.wrap_u32]; omega
  have wmb2 : IntKind.u32.wrap ((b2 : Int) * 256) = (b2 : Int) * 256 := by rw [IntKind.wrap_u32]; omega
  have wb3 : IntKind.u32.wrap (b3 : Int) = (b3 : Int) := by rw [IntKind.wrap_u32]; omega
  have l1 : (1 : Int) < (len : Int) := by omega
  have l2 : (2 : Int) < (len : Int) := by omega
  have l3 : (3 : Int) < (len : Int) := by omega
  go_enter Tryd.func33, Tryd.ntmps33
  go_wp2_with fail
  go_region_held3 (fun w' => w'.cell? ⟨H, off, none⟩ = some (.int .u8 (b0 : Int)) ∧ w'.cell? ⟨H, off + 1, none⟩ = some (.int .u8 (b1 : Int)) ∧ w'.cell? ⟨H, off + 2, none⟩ = some (.int .u8 (b2 : Int)) ∧ w'.cell? ⟨H, off + 3, none⟩ = some (.int .u8 (b3 : Int))) (go_keep) (fail)
  go_wp2_with fail
  go_ret
  refine ⟨?_, rfl⟩
  rw [hr.out]; first | rfl | (simp [go_sem, *]; done)
end Go.Proofs.YtepgcgphnjlcoaaDoor
