
import Derived.Test.YtnfpommplokemaaDoorDvA
import Derived.Lib.SmallJoins
namespace Go.Proofs.YtnfpommplokemaaDoor
open Go.RowKit
set_option linter.unusedVariables false
set_option linter.unusedSimpArgs false
theorem not_nat (x : Nat) (h : x < 18446744073709551616) : 18446744073709551615 ^^^ x = 18446744073709551615 - x := by
  have h1 : (BitVec.allOnes 64 ^^^ BitVec.ofNat 64 x) = ~~~ BitVec.ofNat 64 x := by rw [BitVec.xor_comm, BitVec.xor_allOnes]
  have h2 := congrArg BitVec.toNat h1
  rw [BitVec.toNat_xor, BitVec.toNat_allOnes, BitVec.toNat_not, BitVec.toNat_ofNat, Nat.mod_eq_of_lt (by omega)] at h2
  exact h2
theorem not_u64 (x : Int) (h : U64 x) : bits .xor .u64 IntKind.u64.max x = 18446744073709551615 - x := by
  obtain ⟨n, rfl⟩ := Int.eq_ofNat_of_zero_le h.1
  have hn : n < 18446744073709551616 := by have := h.2; omega
  have h1 := u64_xor_nat 18446744073709551615 n (by omega) hn
  rw [not_nat n hn] at h1
  have e : IntKind.u64.max = ((18446744073709551615 : Nat) : Int) := by decide
  rw [e, h1]; omega
theorem not_sgn : ¬ IntKind.u64.signed = true := by decide
set_option maxRecDepth 100000 in
theorem rsize_any (hi lo : Int) (h1 : I64 hi) (h2 : U64 lo) (w : World) :
    Calls Tryd.prog 32 #[.agg #[.int .i64 hi, .int .u64 lo]] w fun e w' => e = .returned (.tuple #[.int .u64 (sH (ab (sv hi lo))), .int .u64 (sL (ab (sv hi lo)))]) ∧ Below w.heap.size w w' := by
  by_cases hneg : hi < 0
  · have hv := (sv_neg hi lo h2).2 hneg
    obtain ⟨H, hH⟩ : ∃ H, H = hi + 18446744073709551616 := ⟨_, rfl⟩
    have eh : IntKind.u64.wrap hi = H := by rw [IntKind.wrap_u64, hH]; unfold I64 at h1; omega
    have hH2 : U64 H := by unfold U64; unfold I64 at h1; omega
    have n1 := not_u64 H hH2
    have n2 := not_u64 lo h2
    have n3 := not_sgn
    by_cases hl : lo = 0
    · have e1 : sH (ab (sv hi lo)) = 18446744073709551615 - H + 1 := by rw [ab_neg hv, hH]; unfold sH sv; omega
      have e2 : sL (ab (sv hi lo)) = 0 := by rw [ab_neg hv]; unfold sL sv; omega
      have e3 : IntKind.u64.wrap (18446744073709551615 - H + 1) = 18446744073709551615 - H + 1 := by rw [IntKind.wrap_u64]; unfold I64 at h1; omega
      have e4 : IntKind.u64.wrap (18446744073709551615 - 0 + 1) = 0 := by decide
      have e5 : IntKind.u64.wrap 18446744073709551616 = 0 := by decide
      rw [e1, e2]
      subst hl
      have hHH : Hid _ := hH
      clear hH hv
      go_enter Tryd.func32, Tryd.ntmps32
      go_wp2_with fail
      go_ret2
      exact ⟨rfl, below_new (Below.refl _ _) _⟩
    · have e1 : sH (ab (sv hi lo)) = 18446744073709551615 - H := by rw [ab_neg hv, hH]; unfold U64 at h2; unfold sH sv; omega
      have e2 : sL (ab (sv hi lo)) = 18446744073709551615 - lo + 1 := by rw [ab_neg hv]; unfold U64 at h2; unfold sL sv; omega
      have e3 : IntKind.u64.wrap (18446744073709551615 - lo + 1) = 18446744073709551615 - lo + 1 := by rw [IntKind.wrap_u64]; unfold U64 at h2; omega
      have e4 : ¬ (18446744073709551615 - lo + 1 = 0) := by unfold U64 at h2; omega
      rw [e1, e2]
      have hHH : Hid _ := hH
      clear hH hv
      go_enter Tryd.func32, Tryd.ntmps32
      go_wp2_with fail
      go_ret2
      exact ⟨rfl, below_new (Below.refl _ _) _⟩
  · have e1 : sH (ab (sv hi lo)) = hi := by rw [ab_pos (fun h => hneg ((sv_neg hi lo h2).1 h)), sH_sv _ _ h2]
    have e2 : sL (ab (sv hi lo)) = lo := by rw [ab_pos (fun h => hneg ((sv_neg hi lo h2).1 h)), sL_sv _ _ h2]
    have e3 : IntKind.u64.wrap hi = hi := by rw [IntKind.wrap_u64]; unfold I64 at h1; omega
    rw [e1, e2]
    go_enter Tryd.func32, Tryd.ntmps32
    go_wp2_with fail
    go_ret2
    exact ⟨rfl, below_new (Below.refl _ _) _⟩
end Go.Proofs.YtnfpommplokemaaDoor
