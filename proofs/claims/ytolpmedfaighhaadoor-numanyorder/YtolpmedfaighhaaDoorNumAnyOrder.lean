
import Derived.Test.YtolpmedfaighhaaDoorRows
import Derived.Test.YtolpmedfaighhaaDoorCards
import Derived.Test.YtolpmedfaighhaaDoorTie
import Derived.Test.YtolpmedfaighhaaDoorAnyF
import Derived.ProofKit
import Derived.LaidMore
import Derived.LaidHandle
import Derived.OpenShut
import Derived.Carry
import Derived.Lib.SmallJoins
import Derived.Stop.Joined
import Derived.SevenTiedAt
namespace Go.Proofs.YtolpmedfaighhaaDoor
open Go.ChangeShapes Go.WideShapes Go.ChangeAt Go.RowKit Go.Joins
set_option linter.unusedVariables false

theorem numAnyOrder_own : ownKnob Tryd.prog.godebug = none := by kernel_rfl
theorem numAnyOrder_laidOut : laidOutB Tryd.prog = true := by kernel_rfl
theorem numAnyOrder_et : Tryd.prog.globalNamed "errors.errorType" = some 2 := by kernel_rfl
theorem numAnyOrder_rt : (Tryd.prog.cutTypes.find? (·.1 == "internal/reflectlite.rtype")).map (·.2) = some 96 := by kernel_rfl
theorem numAnyOrder_oneRow : ((List.range 142).filter fun t => Tryd.prog.rowNamed t [101, 114, 114, 111, 114]) = [30] := by kernel_rfl
theorem numAnyOrder_size : Tryd.prog.types.size = 142 := by kernel_rfl
theorem numAnyOrder_handle {W : World} (h : laidMetH Tryd.prog Rows.numAnyOrderRow.laid W) : ET W := by
  have h' : laidMet Tryd.prog [] W ∧ handlesMet Tryd.prog Rows.numAnyOrderRow.laid W := h
  obtain ⟨name, u, ty, e1, e2, e3, e4, e5⟩ := h'.2 _ (List.mem_singleton.2 rfl)
  have en : name = [101, 114, 114, 111, 114] := (Option.some.inj e1).symm
  subst en
  obtain rfl := Option.some.inj (numAnyOrder_rt.symm.trans e2)
  have hm : ty ∈ (List.range 142).filter fun t => Tryd.prog.rowNamed t [101, 114, 114, 111, 114] := List.mem_filter.2 ⟨List.mem_range.2 (by rw [← numAnyOrder_size]; exact e3), e4⟩
  rw [numAnyOrder_oneRow] at hm
  obtain rfl := List.mem_singleton.1 hm
  have hh : typeHandle Tryd.prog 30 = .pointer (some ⟨3, 30, none⟩) := by kernel_rfl
  rw [hh] at e5
  unfold ET
  simpa using World.var?_cell numAnyOrder_et e5 0
theorem numAnyOrder_door (os : Os) (args : Array Value) : laidMetH Tryd.prog Rows.numAnyOrderRow.laid ((World.doorLaid Tryd.prog 400 os).forCall (fun _ _ => 0) ⟨#[], args, []⟩).memory :=
  laidMetH_of_parts (laidMet_nil _ _) (by kernel_rfl)
theorem numAnyOrder_I64 {k : Int} (h : (Lit.int .i64 k).wf = true) : I64 k := by
  have := bounds_i64 h; unfold I64; omega
theorem numAnyOrder_U64 {k : Int} (h : (Lit.int .u64 k).wf = true) : U64 k := by
  have := bounds_u64 h; unfold U64; omega

set_option maxRecDepth 100000 in
theorem numAnyOrder_lifted (os : Os) (started : os.Started) (H : Type) (enc : TypeId × Value → H) :
    ReturnsInHanded {} Tryd.checked os 6 .any (fun w args => (Rows.numAnyOrderSpec.pre enc Tryd.prog Tryd.f6 [] false w args ∧ laidMetH Tryd.prog Rows.numAnyOrderRow.laid w) ∧ sizedMet enc Tryd.prog Tryd.f6 (OpenSpec.ofChange Rows.numAnyOrderSpec) false w args)
      (Rows.numAnyOrderSpec.post enc Tryd.prog Tryd.f6 false true false false) := by
  refine returnsInHanded_of_change_and (C := Tryd.checked) (X := fun w _ => laidMetH Tryd.prog Rows.numAnyOrderRow.laid w) (fun _ _ _ hh h => h.of_heap hh) numAnyOrder_own started (by kernel_rfl) Tryd.func6
    (ChangeSpec.witness_shaped (enc := enc) (C := Tryd.checked) (os := os) (X := fun w _ => laidMetH Tryd.prog Rows.numAnyOrderRow.laid w) false (World.doorLaid Tryd.prog 400 os) #[.slice none 0 0, .slice none 0 0] 8 rfl (World.shaped_of_RefB (by kernel_rfl) (by kernel_rfl)) (by kernel_rfl) (by kernel_rfl) (by kernel_rfl) (numAnyOrder_door os _)) ?_
  intro W base args ds gs before hval0 hW _ hSz hL _
  have hval : ∀ (j : Nat) t v, Tryd.f6.params[j]? = some t → args[j]? = some v → Value.okWide Tryd.prog W .any base t v := hval0
  have hW' := hW
  obtain ⟨p, q, hA0, hV, rfl, hfz, hnd⟩ := hW
  have hA : DataW.TrodAll enc Tryd.prog W 0 (fun _ => true) true Tryd.f6.params.toList args.toList ds p := hA0
  rw [Tryd.params6] at hA hval
  obtain ⟨v0, vs0, d0, ds0, p0, q0, hargs, rfl, rfl, h0, r0⟩ := trodAll_cons hA
  obtain ⟨v1, vs1, d1, ds1, p1, q1, rfl, rfl, rfl, h1, r1⟩ := trodAll_cons r0
  obtain ⟨rfl, rfl, rfl⟩ := trodAll_nil r1
  obtain rfl : args = #[v0, v1] := by cases args; simp_all
  obtain ⟨rfl, rfl⟩ := trodVars_none hV
  have k0 := h0
  have lt0 : ∀ x ∈ p0, x.block < W.heap.size := fun x hx => hW'.lt x (by simp [hx])
  have k1 := h1
  have lt1 : ∀ x ∈ p1, x.block < W.heap.size := fun x hx => hW'.lt x (by simp [hx])
  obtain ⟨a0, l0, c0, z0, rfl, iz0⟩ := ints_read Tryd.underlying49 Tryd.underlying2 (by kernel_rfl) (hval 0 49 v0 rfl rfl) h0
  have sz0 := ints_small Tryd.underlying49 Tryd.underlying2 (by kernel_rfl) (of_decide_eq_true (by kernel_rfl)) h0 (fun n hn => by simpa using List.all_eq_true.1 hSz n (DataW.weights_mem_each (j := 0) (by kernel_rfl) rfl n hn))
  obtain ⟨a1, l1, c1, z1, rfl, iz1⟩ := ints_read Tryd.underlying50 Tryd.underlying3 (by kernel_rfl) (hval 1 50 v1 rfl rfl) h1
  have sz1 := ints_small Tryd.underlying50 Tryd.underlying3 (by kernel_rfl) (of_decide_eq_true (by kernel_rfl)) h1 (fun n hn => by simpa using List.all_eq_true.1 hSz n (DataW.weights_mem_each (j := 1) (by kernel_rfl) rfl n hn))
  clear hA0 hval0
  refine (numAnyOrder_walk a0 l0 c0 z0 a1 l1 c1 z1 W (numAnyOrder_handle hL) iz0 sz0 iz1).mono fun e W' ⟨he, hg⟩ => ?_
  subst he
  exact ⟨_, rfl, _, _, _, [], (p0 ++ (p1 ++ [])), [], hW', trodAll_cons_mk (shut_bool Tryd.underlying4 _) trodAll_mk0, (trodAll_cons_mk (Below.trod numAnyOrder_laidOut (by kernel_rfl) (of_decide_eq_true (by kernel_rfl)) k0 hg lt0) (trodAll_cons_mk (Below.trod numAnyOrder_laidOut (by kernel_rfl) (of_decide_eq_true (by kernel_rfl)) k1 hg lt1) trodAll_mk0)), rfl, hg.frame _, fun h => by cases h⟩

theorem numAnyOrder_row : Rows.NumAnyOrderSaid :=
  OpenClaim.holds_of_wide 6 Tryd.f6 rfl rfl rfl rfl rfl rfl rfl ⟨rfl, rfl, rfl, rfl, rfl⟩ rfl rfl rfl rfl rfl (by kernel_rfl) Tryd.func6 (by kernel_rfl)
    (of_decide_eq_true (by kernel_rfl)) (by unfold Func.isWrapper; first | (rw [if_pos (by decide +kernel)]; kernel_rfl) | (rw [if_neg (by decide +kernel)]; exact ⟨rfl, rfl⟩))
    (fun os started H enc _ => numAnyOrder_lifted os started H enc)

theorem numAnyOrder_holds : Rows.NumAnyOrderCardSaid :=
  Claim7.holds_tied_plain_at .later [] [.handle] true Rows.numAnyOrderCard.stood.harness true
    numAnyOrder_row (fun _ h => by cases h) (by kernel_rfl) (fun _ h => by cases h) numAnyOrder_row_tie rfl ⟨rfl, rfl⟩ (by kernel_rfl) rfl
    (fun f fn hf hfn => by
      obtain rfl : f = 6 := Option.some.inj ((show Tryd.prog.funcNamed Rows.numAnyOrderRow.func = some 6 by kernel_rfl).symm.trans hf) |>.symm
      obtain rfl : fn = Tryd.f6 := (Option.some.inj (Tryd.func6.symm.trans hfn)).symm
      exact ⟨by kernel_rfl, fun j t ht => by
        rw [Tryd.params6] at ht
        have hm : t ∈ [49, 50] := by simpa using Array.mem_of_getElem? ht
        have hall : ([49, 50].all fun u => !Tryd.prog.wantsStandIn u) = true := by kernel_rfl
        exact (show Tryd.prog.wantsStandIn t = false by simpa using List.all_eq_true.1 hall t hm)⟩)
    (by kernel_rfl)
#print axioms numAnyOrder_holds
end Go.Proofs.YtolpmedfaighhaaDoor

