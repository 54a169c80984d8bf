
import Derived.Test.YtnfpommplokemaaDoorDvB
namespace Go.Proofs.YtnfpommplokemaaDoor
open Go.RowKit
set_option linter.unusedVariables false
set_option linter.unusedSimpArgs false
def txtS (T : List Nat) : ByteArray := strOfNums ((T.map (48 + ·)).map fun (n : Nat) => (n : Int))
theorem txtS_size (T : List Nat) : (txtS T).size = T.length := by unfold txtS; rw [strOfNums_size]; simp
theorem not_empty (O : ByteArray) (h : 0 < O.size) : O.toList.isEmpty = false := by
  rw [ByteArray.toList_eq]
  cases hq : O.data.toList with
  | nil =>
    exfalso
    have h1 : O.size = O.data.size := rfl
    have h2 : O.data.toList.length = O.data.size := Array.length_toList
    rw [hq] at h2
    have h3 : ([] : List UInt8).length = 0 := rfl
    omega
  | cons a l => rfl
theorem neg_cat (l : List Nat) : strOfNums (([45] ++ l).map fun (n : Nat) => (n : Int)) = (⟨#[45]⟩ : ByteArray) ++ strOfNums (l.map fun (n : Nat) => (n : Int)) := by
  unfold strOfNums
  rw [ByteArray.ext_iff]
  simp
theorem txtS_cons (d : Nat) (T : List Nat) : txtS [d] ++ txtS T = txtS (d :: T) := by
  unfold txtS strOfNums
  rw [ByteArray.ext_iff]
  simp
theorem txtS_conv (d : Nat) (z : Int) (hz : z = 48 + (d : Int)) (w : World) : (convert 65 9 (.slice (some ⟨w.heap.size, 0, none⟩) 1 1)).run Tryd.prog (w.alloc (.cells #[.int .u8 z] 5)) = .ok (.string (txtS [d])) (w.alloc (.cells #[.int .u8 z] 5)) := by
  subst hz
  refine run_convert_bytes_arg _ 65 5 Tryd.underlying65 Tryd.underlying5 w.heap.size 0 1 1 _ (by simp) (fun i hi => ?_) 9 Tryd.underlying9
  obtain rfl : i = 0 := by omega
  simp [go_sem]
set_option maxRecDepth 100000 in
set_option maxHeartbeats 4000000 in
theorem rprint_any (hi lo : Int) (h1 : I64 hi) (h2 : U64 lo) (w : World) :
    Calls Tryd.prog 21 #[.agg #[.int .i64 hi, .int .u64 lo]] w fun e w' => e = .returned (.string (decS (sv hi lo))) ∧ Below w.heap.size w w' := by
  have hV := ab_le hi lo h1 h2
  have hsg := sv_neg hi lo h2
  have hsize := rsize_any hi lo h1 h2
  generalize hvv : ab (sv hi lo) = v at *
  obtain ⟨V, rfl⟩ := Int.eq_ofNat_of_zero_le hV.1
  have hV2 : V ≤ 170141183460469231731687303715884105728 := by omega
  have hV3 : V < 10 ^ 39 := by omega
  have eH : sH (V : Int) = ((V / 18446744073709551616 : Nat) : Int) := by unfold sH; omega
  have eL : sL (V : Int) = ((V % 18446744073709551616 : Nat) : Int) := by unfold sL; omega
  rw [eH, eL] at hsize
  have hszH : Hid _ := hsize
  have hvvH : Hid _ := hvv
  clear hsize hvv eH eL hV
  obtain ⟨W, hW⟩ : ∃ W, W = w.alloc (.cells #[.int .i64 hi, .int .u64 lo] 25) := ⟨_, rfl⟩
  have hB0 : Below w.heap.size w W := by rw [hW]; exact below_new (Below.refl _ _) _
  have hz0 : W.heap.size = w.heap.size + 1 := by rw [hW]; simp
  have p0 : W.cell? ⟨w.heap.size, 0, none⟩ = some (.int .i64 hi) := by rw [hW]; simp [go_sem]
  have hWH : Hid _ := hW
  clear hW
  go_enter Tryd.func21, Tryd.ntmps21
  go_wp2_with fail
  rw [← hWH.out]
  refine (hszH.out W).mono ?_
  rintro e w1 ⟨rfl, B1⟩
  go_wp2_with fail
  go_loopw [3, 4, 5] (fun a b c wx => ∃ (k R : Nat) (T : List Nat), a = .int .u64 ((R / 18446744073709551616 : Nat) : Int) ∧ b = .int .u64 ((R % 18446744073709551616 : Nat) : Int) ∧ c = .string (txtS T) ∧ R ≤ V ∧ prS V k R T ∧ Below W.heap.size W wx) (fun _ _ c _ => match c with | .string s => 40 - s.size | _ => 0)
  case atStart => exact ⟨0, V, [], rfl, rfl, rfl, by omega, prS_start V hV3, B1⟩
  case round =>
    obtain ⟨k, R, T, rfl, rfl, rfl, hRV, hS, hB⟩ := hrel
    have hTl : T.length = k := hS.1
    have hTs := txtS_size T
    have hk39 : k ≤ 39 := hS.2.2.1
    obtain ⟨Rh, hRh⟩ : ∃ Rh, Rh = R / 18446744073709551616 := ⟨_, rfl⟩
    obtain ⟨Rl, hRl⟩ : ∃ Rl, Rl = R % 18446744073709551616 := ⟨_, rfl⟩
    rw [← hRh, ← hRl]
    obtain ⟨O, hO⟩ : ∃ O, O = txtS T := ⟨_, rfl⟩
    rw [← hO] at hTs ⊢
    by_cases hend : R = 0 ∧ k ≠ 0
    · obtain ⟨hR0, hk0⟩ := hend
      have hT := prS_end hS hR0 hk0
      have hRh0 : Rh = 0 := by omega
      have hRl0 : Rl = 0 := by omega
      have hz := hB.size
      have s0 : wr.cell? ⟨w.heap.size, 0, none⟩ = some (.int .i64 hi) := by rw [hB.cell (by simp; omega)]; exact p0
      have hOne : ¬ (O = ⟨#[]⟩) := fun h => by rw [h] at hTs; have h0 : (⟨#[]⟩ : ByteArray).size = 0 := rfl; omega
      have hOe := not_empty O (by omega)
      by_cases hneg : hi < 0
      · have hfin : Hid (decS (sv hi lo) = (⟨#[45]⟩ : ByteArray) ++ O) := by
          show decS (sv hi lo) = _
          rw [hO, hT]; unfold decS decT txtS; rw [if_pos (hsg.2 hneg), hvvH.out, Int.toNat_natCast]; exact neg_cat _
        have hcat : ¬ 9223372036854775807 < 1 + O.size := by omega
        clear hS hT hO hRh hRl hTs hRV hTl hR0 hk0
        subst hRh0 hRl0
        go_wp2_with fail
        go_ret
        exact ⟨congrArg (fun s => Ending.returned (.string s)) hfin.out.symm, below_then hB0 hB⟩
      · have hfin : Hid (decS (sv hi lo) = O) := by
          show decS (sv hi lo) = _
          rw [hO, hT]; unfold decS decT txtS; rw [if_neg (fun h => hneg (hsg.1 h)), hvvH.out, Int.toNat_natCast]; rfl
        clear hS hT hO hRh hRl hTs hRV hTl hR0 hk0
        subst hRh0 hRl0
        go_wp2_with fail
        go_ret
        exact ⟨congrArg (fun s => Ending.returned (.string s)) hfin.out.symm, below_then hB0 hB⟩
    · have hc : R ≠ 0 ∨ k = 0 := by omega
      obtain ⟨hS', hk38⟩ := prS_step hS hc
      have hdv := divided_any Rh Rl 10 (by omega) (by omega) (by omega) (by omega) R (by omega)
      obtain ⟨Dh, hDh⟩ : ∃ Dh, Dh = R / 10 / 18446744073709551616 := ⟨_, rfl⟩
      obtain ⟨Dl, hDl⟩ : ∃ Dl, Dl = R / 10 % 18446744073709551616 := ⟨_, rfl⟩
      obtain ⟨d, hd⟩ : ∃ d, d = R % 10 := ⟨_, rfl⟩
      rw [← hDh, ← hDl, ← hd] at hdv
      have hdvH : Hid _ := hdv
      have hd10 : d < 10 := by omega
      have e1 : (48 + (d : Int)) % 256 = 48 + (d : Int) := by omega
      have e2 : IntKind.u64.wrap (48 + (d : Int)) = 48 + (d : Int) := by rw [IntKind.wrap_u64]; omega
      have hO39 : O.size ≤ 38 := by omega
      have hcat : ¬ 9223372036854775807 < (txtS [d]).size + O.size := by rw [txtS_size]; simp; omega
      have hX : Hid (R ≤ V ∧ Rh = R / 18446744073709551616 ∧ Rl = R % 18446744073709551616 ∧ prS V (k + 1) (R / 10) (R % 10 :: T) ∧ txtS T = O ∧ Dh = R / 10 / 18446744073709551616 ∧ Dl = R / 10 % 18446744073709551616 ∧ R % 10 = d) := ⟨hRV, hRh, hRl, hS', hO.symm, hDh, hDl, hd.symm⟩
      by_cases c1 : 0 < Rh
      · have c1I : (0 : Int) < (Rh : Int) := by omega
        clear hdv hRV hRh hRl hS' hO hS hTl hc hend hTs hDh hDl hd hk38 hk39
        go_wp2_with fail
        refine (hdvH.out _).mono ?_
        rintro e w2 ⟨rfl, rfl⟩
        have hcv := txtS_conv d (48 + (d : Int)) rfl w2
        go_wp2_with fail
        go_roundw
        case rel =>
          obtain ⟨x1, x2, x3, x4, x5, x6, x7, x8⟩ := hX.out
          refine ⟨k + 1, R / 10, R % 10 :: T, by rw [x6], by rw [x7], ?_, by omega, x4, below_new hB _⟩
          rw [x8, ← txtS_cons d T, x5]
        case measure => first | (simp [ByteArray.size_append, txtS_size]; done) | (simp [ByteArray.size_append, txtS_size]; omega) | (simp; omega)
      · have hRh0 : Rh = 0 := by omega
        by_cases c2 : 0 < Rl
        · have c2I : (0 : Int) < (Rl : Int) := by omega
          clear hdv hRV hRh hRl hS' hO hS hTl hc hend hTs hDh hDl hd hk38 hk39 c1
          subst hRh0
          go_wp2_with fail
          refine (hdvH.out _).mono ?_
          rintro e w2 ⟨rfl, rfl⟩
          have hcv := txtS_conv d (48 + (d : Int)) rfl w2
          go_wp2_with fail
          go_roundw
          case rel =>
            obtain ⟨x1, x2, x3, x4, x5, x6, x7, x8⟩ := hX.out
            refine ⟨k + 1, R / 10, R % 10 :: T, by rw [x6], by rw [x7], ?_, by omega, x4, below_new hB _⟩
            rw [x8, ← txtS_cons d T, x5]
          case measure => first | (simp [ByteArray.size_append, txtS_size]; done) | (simp [ByteArray.size_append, txtS_size]; omega) | (simp; omega)
        · have hRl0 : Rl = 0 := by omega
          have hO0 : O = ⟨#[]⟩ := by
            rw [hO, show T = [] from List.eq_nil_of_length_eq_zero (by omega)]; rfl
          clear hdv hRV hRh hRl hS' hO hS hTl hc hend hTs hDh hDl hd hk38 hk39 c1 c2
          subst hRh0 hRl0 hO0
          go_wp2_with fail
          refine (hdvH.out _).mono ?_
          rintro e w2 ⟨rfl, rfl⟩
          have hcv := txtS_conv d (48 + (d : Int)) rfl w2
          go_wp2_with fail
          go_roundw
          case rel =>
            obtain ⟨x1, x2, x3, x4, x5, x6, x7, x8⟩ := hX.out
            refine ⟨k + 1, R / 10, R % 10 :: T, by rw [x6], by rw [x7], ?_, by omega, x4, below_new hB _⟩
            rw [x8, ← txtS_cons d T, x5]
          case measure => first | (simp [ByteArray.size_append, txtS_size]; done) | (simp [ByteArray.size_append, txtS_size]; omega) | (simp; omega)
end Go.Proofs.YtnfpommplokemaaDoor
