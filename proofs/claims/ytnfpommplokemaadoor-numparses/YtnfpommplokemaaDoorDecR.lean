
import Derived.Test.YtnfpommplokemaaDoorDecQ
import Derived.Test.YtnfpommplokemaaDoorShelf
import Derived.LoopTactic
namespace Go.Proofs.YtnfpommplokemaaDoor
open Go.RowKit
set_option linter.unusedVariables false
set_option linter.unusedSimpArgs false
theorem ten_sv (hi lo : Int) : sv hi lo * 10 = sv (hi * 10 + lo * 10 / 18446744073709551616) (lo * 10 % 18446744073709551616) := by unfold sv; omega
theorem ten_hi (hi lo : Int) : wrap64 (wrap64 (hi * 10) + wrap64 (lo * 10 / 18446744073709551616)) = sH (wr (sv hi lo * 10)) := by
  rw [ten_sv, sH_wr _ _ (by unfold U64; omega), wrap64_add]
theorem ten_lo (hi lo : Int) : lo * 10 % 18446744073709551616 = sL (wr (sv hi lo * 10)) := by
  rw [ten_sv, sL_wr _ _ (by unfold U64; omega)]
theorem bytes_same (l : List Nat) : (l.map fun (n : Nat) => (n : Int)).map (fun n => UInt8.ofNat n.toNat) = l.map fun n => UInt8.ofNat n := by rw [List.map_map]; rfl
set_option maxRecDepth 100000 in
theorem tenfold_any (hi lo : Int) (h2 : U64 lo) (w : World) :
    Calls Tryd.prog 15 #[.agg #[.int .i64 hi, .int .u64 lo]] w fun e w' => e = .returned (.agg #[.int .i64 (sH (wr (sv hi lo * 10))), .int .u64 (sL (wr (sv hi lo * 10)))]) ∧ Below w.heap.size w w' := by
  have H1 := ten_hi hi lo
  have H2 := ten_lo hi lo
  obtain ⟨x, rfl⟩ := Int.eq_ofNat_of_zero_le h2.1
  have hx : x < 18446744073709551616 := by have := h2.2; omega
  have hm := Tryd.bits_Mul64 x 10 hx (by omega)
  obtain ⟨p, hp⟩ : ∃ p : Int, p = ((x * 10 / 18446744073709551616 : Nat) : Int) := ⟨_, rfl⟩
  obtain ⟨q, hq⟩ : ∃ q : Int, q = ((x * 10 % 18446744073709551616 : Nat) : Int) := ⟨_, rfl⟩
  rw [← hp, ← hq] at hm
  rw [show (x : Int) * 10 / 18446744073709551616 = p by omega] at H1
  rw [show (x : Int) * 10 % 18446744073709551616 = q by omega] at H2
  have hmH : Hid _ := hm
  have H1H : Hid _ := H1
  have H2H : Hid _ := H2
  clear hm H1 H2 hp hq
  go_enter Tryd.func15, Tryd.ntmps15
  go_wp2_with fail
  refine (hmH.out _).mono ?_
  rintro e w1 ⟨rfl, rfl⟩
  go_wp2_with fail
  simp [bodyPost, results, Tryd.results15, go_sem]
  exact ⟨⟨H1H.out, H2H.out⟩, below_new (below_new (Below.refl _ _) _) _⟩
/-- the digits of a number as a text. -/
def digS (V : Nat) : ByteArray := strOfNums (((decD V).map (48 + ·)).map fun (n : Nat) => (n : Int))
theorem digS_size (V : Nat) : (digS V).size = (decD V).length := by unfold digS; rw [strOfNums_size]; simp
theorem decS_list (v : Int) : (decS v).data.toList = (decT v).map fun n => UInt8.ofNat n := by
  unfold decS; rw [strOfNums_data, List.map_map]; rfl
theorem decD_cons (V : Nat) : ∃ d l, decD V = d :: l ∧ d < 10 := by
  cases h : decD V with
  | nil => exact absurd h (digs_ne 38 V)
  | cons d l => exact ⟨d, l, rfl, decD_lt V d (by rw [h]; simp)⟩
theorem cut_neg (v : Int) (h : v < 0) : Lib.hasPrefix (decS v).data.toList [45] = true ∧ (⟨(Lib.trimPrefix (decS v).data.toList [45]).toArray⟩ : ByteArray) = digS (ab v).toNat := by
  have e : (decS v).data.toList = 45 :: ((decD (ab v).toNat).map (48 + ·)).map fun n => UInt8.ofNat n := by
    rw [decS_list]; unfold decT; rw [if_pos h]; rfl
  have h1 : Lib.hasPrefix (decS v).data.toList [45] = true := by rw [e]; simp [Lib.hasPrefix]
  refine ⟨h1, ?_⟩
  unfold Lib.trimPrefix
  rw [if_pos h1, e]
  unfold digS strOfNums
  rw [bytes_same]
  rfl
theorem cut_pos (v : Int) (h : ¬ v < 0) : Lib.hasPrefix (decS v).data.toList [45] = false ∧ (⟨(Lib.trimPrefix (decS v).data.toList [45]).toArray⟩ : ByteArray) = digS (ab v).toNat := by
  have e : (decS v).data.toList = ((decD (ab v).toNat).map (48 + ·)).map fun n => UInt8.ofNat n := by
    rw [decS_list]; unfold decT; rw [if_neg h]; rfl
  have h1 : Lib.hasPrefix (decS v).data.toList [45] = false := by
    obtain ⟨d, l, hd, hd10⟩ := decD_cons (ab v).toNat
    rw [e, hd]
    have : ∀ d, d < 10 → ((45 : UInt8) == UInt8.ofNat (48 + d)) = false := by decide
    show ((45 : UInt8) == UInt8.ofNat (48 + d) && _) = false
    rw [this d hd10]; rfl
  refine ⟨h1, ?_⟩
  unfold Lib.trimPrefix
  rw [if_neg (by rw [h1]; decide), e]
  unfold digS strOfNums
  rw [bytes_same]
end Go.Proofs.YtnfpommplokemaaDoor
