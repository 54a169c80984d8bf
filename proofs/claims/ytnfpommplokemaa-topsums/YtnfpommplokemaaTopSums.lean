
import Derived.Test.YtnfpommplokemaaRows
import Derived.Test.YtnfpommplokemaaTSF
import Derived.ProofKit
import Derived.OpenShut
import Derived.Carry
import Derived.SizedLaws
import Derived.Lib.SmallJoins
namespace Go.Proofs.Ytnfpommplokemaa
open Go.ChangeShapes Go.WideShapes Go.ChangeAt Go.RowKit Go.Joins
set_option linter.unusedVariables false

theorem topSums_own : ownKnob Try.prog.godebug = none := by kernel_rfl
theorem topSums_laidOut : laidOutB Try.prog = true := by kernel_rfl
theorem topSums_I64 {k : Int} (h : (Lit.int .i64 k).wf = true) : I64 k := by
  have := bounds_i64 h; unfold I64; omega
theorem topSums_U64 {k : Int} (h : (Lit.int .u64 k).wf = true) : U64 k := by
  have := bounds_u64 h; unfold U64; omega

set_option maxRecDepth 100000 in
theorem topSums_lifted (os : Os) (started : os.Started) (H : Type) (enc : TypeId × Value → H) :
    ReturnsInHanded {} Try.checked os 3 .any (Rows.topSumsSpec.pre6 enc Try.prog Try.f3 Rows.topSumsRow.domain false)
      (Rows.topSumsSpec.post enc Try.prog Try.f3 false true false false) := by
  refine returnsInHanded_of_change_sized (C := Try.checked) topSums_own started (by kernel_rfl) Try.func3
    (ChangeSpec.witness6 (enc := enc) (C := Try.checked) false ⟨#[], #[.agg #[.int .i64 0, .int .u64 0], .slice none 0 0, .slice none 0 0], []⟩ 8 (by kernel_rfl) (by kernel_rfl) (by kernel_rfl) (by kernel_rfl)) ?_
  intro W base args ds gs before hval0 hW _ hSz _
  have hval : ∀ (j : Nat) t v, Try.f3.params[j]? = some t → args[j]? = some v → Value.okWide Try.prog W .any base t v := hval0
  have hW' := hW
  obtain ⟨p, q, hA0, hV, rfl, hfz, hnd⟩ := hW
  have hA : DataW.TrodAll enc Try.prog W 0 (fun _ => true) true Try.f3.params.toList args.toList ds p := hA0
  rw [Try.params3] at hA hval
  obtain ⟨v0, vs0, d0, ds0, p0, q0, hargs, rfl, rfl, h0, r0⟩ := trodAll_cons hA
  obtain ⟨v1, vs1, d1, ds1, p1, q1, rfl, rfl, rfl, h1, r1⟩ := trodAll_cons r0
  obtain ⟨v2, vs2, d2, ds2, p2, q2, rfl, rfl, rfl, h2, r2⟩ := trodAll_cons r1
  obtain ⟨rfl, rfl, rfl⟩ := trodAll_nil r2
  obtain rfl : args = #[v0, v1, v2] := by cases args; simp_all
  obtain ⟨rfl, rfl⟩ := trodVars_none hV
  have k0 := h0
  have lt0 : ∀ x ∈ p0, x.block < W.heap.size := fun x hx => hW'.lt x (by simp [hx])
  have k1 := h1
  have lt1 : ∀ x ∈ p1, x.block < W.heap.size := fun x hx => hW'.lt x (by simp [hx])
  have k2 := h2
  have lt2 : ∀ x ∈ p2, x.block < W.heap.size := fun x hx => hW'.lt x (by simp [hx])
  obtain ⟨c0_0, c0_1, y0_0, y0_1, m0, rfl, rfl, hp0, g0_0, g0_1⟩ := open_agg2 Try.underlying24 (by kernel_rfl) (by kernel_rfl) (hval 0 24 v0 rfl rfl) h0
  obtain ⟨b0_0, e0_0, rfl, w0_0⟩ := DataW.trod_int Try.underlying2 g0_0
  obtain ⟨b0_1, e0_1, rfl, w0_1⟩ := DataW.trod_int Try.underlying22 g0_1
  simp at e0_0 e0_1
  subst e0_0 e0_1
  obtain ⟨a1, l1, c1, z1, rfl, iz1⟩ := ints_read Try.underlying25 Try.underlying2 (by kernel_rfl) (hval 1 25 v1 rfl rfl) h1
  have sz1 := ints_small8 Try.underlying25 Try.underlying2 (by kernel_rfl) (by kernel_rfl) h1 (fun n hn => by simpa using List.all_eq_true.1 hSz n (DataW.weights_mem_each (j := 1) (by kernel_rfl) rfl n hn))
  obtain ⟨a2, l2, c2, z2, rfl, iz2⟩ := ints_read Try.underlying26 Try.underlying3 (by kernel_rfl) (hval 2 26 v2 rfl rfl) h2
  have sz2 := ints_small8 Try.underlying26 Try.underlying3 (by kernel_rfl) (by kernel_rfl) h2 (fun n hn => by simpa using List.all_eq_true.1 hSz n (DataW.weights_mem_each (j := 2) (by kernel_rfl) rfl n hn))
  clear hA0 hval0
  refine (topSums_walk b0_0 b0_1 (topSums_I64 w0_0) (topSums_U64 w0_1) a1 l1 c1 z1 a2 l2 c2 z2 W iz1.2.1 iz1.2.2 sz1 iz2.2.2 iz2.1).mono fun e W' ⟨he, hg⟩ => ?_
  subst he
  exact ⟨_, rfl, _, _, _, [], (p0 ++ (p1 ++ (p2 ++ []))), [], hW', trodAll_cons_mk (shut_bool Try.underlying4 _) trodAll_mk0, (trodAll_cons_mk (Below.trod topSums_laidOut (by kernel_rfl) (of_decide_eq_true (by kernel_rfl)) k0 hg lt0) (trodAll_cons_mk (Below.trod topSums_laidOut (by kernel_rfl) (of_decide_eq_true (by kernel_rfl)) k1 hg lt1) (trodAll_cons_mk (Below.trod topSums_laidOut (by kernel_rfl) (of_decide_eq_true (by kernel_rfl)) k2 hg lt2) trodAll_mk0))), rfl, hg.frame _, fun h => by cases h⟩

theorem topSums_holds : Rows.TopSumsSaid :=
  OpenClaim.holds_of_wide 3 Try.f3 rfl rfl rfl rfl rfl rfl rfl ⟨rfl, rfl, rfl, rfl, rfl⟩ rfl rfl rfl rfl rfl (by kernel_rfl) Try.func3 (by kernel_rfl)
    (of_decide_eq_true (by kernel_rfl)) (by unfold Func.isWrapper; first | (rw [if_pos (by decide +kernel)]; kernel_rfl) | (rw [if_neg (by decide +kernel)]; exact ⟨rfl, rfl⟩))
    (fun os started H enc _ => topSums_lifted os started H enc)
#print axioms topSums_holds
end Go.Proofs.Ytnfpommplokemaa

