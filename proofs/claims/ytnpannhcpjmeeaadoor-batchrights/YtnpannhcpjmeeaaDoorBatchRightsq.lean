
import Derived.Test.YtnpannhcpjmeeaaDoorRows
import Derived.Test.YtnpannhcpjmeeaaDoorCards
import Derived.Test.YtnpannhcpjmeeaaDoorTie
import Derived.Test.YtnpannhcpjmeeaaDoorBbE
import Derived.Test.YtnpannhcpjmeeaaDoorBbD
import Derived.ProofKit
import Derived.LaidMore
import Derived.LaidHandle
import Derived.OpenShut
import Derived.Carry
import Derived.Lib.SmallJoins
import Derived.Stop.Joined
import Derived.SevenTiedAt
import Derived.PinnedBridge
import Derived.Lay
import Derived.Lib.LaidU8T
import Derived.Lib.LaidIn
namespace Go.Proofs.YtnpannhcpjmeeaaDoor
open Go.ChangeShapes Go.WideShapes Go.ChangeAt Go.RowKit Go.Joins
set_option linter.unusedVariables false

theorem batchRights_own : ownKnob Tryd.prog.godebug = none := by kernel_rfl
theorem batchRights_laidOut : laidOutB Tryd.prog = true := by kernel_rfl
theorem batchRights_et : Tryd.prog.globalNamed "errors.errorType" = some 0 := by kernel_rfl
theorem batchRights_rt : (Tryd.prog.cutTypes.find? (·.1 == "internal/reflectlite.rtype")).map (·.2) = some 100 := by kernel_rfl
theorem batchRights_oneRow : ((List.range 172).filter fun t => Tryd.prog.rowNamed t [101, 114, 114, 111, 114]) = [29] := by kernel_rfl
theorem batchRights_size : Tryd.prog.types.size = 172 := by kernel_rfl
theorem batchRights_parts {W : World} (h : laidMetH Tryd.prog Rows.batchRightsRow.laid W) : laidMet Tryd.prog [("unicode/utf8.acceptRanges", Rows.laid_unicode_utf8_acceptRanges), ("unicode/utf8.first", Rows.laid_unicode_utf8_first)] W ∧ handlesMet Tryd.prog [("errors.errorType", Rows.laid_errors_errorType)] W := h
theorem batchRights_handle {W : World} (h : laidMetH Tryd.prog Rows.batchRightsRow.laid W) : ET W := by
  obtain ⟨name, u, ty, e1, e2, e3, e4, e5⟩ := (batchRights_parts h).2 _ (List.mem_singleton.2 rfl)
  have en : name = [101, 114, 114, 111, 114] := (Option.some.inj e1).symm
  subst en
  obtain rfl := Option.some.inj (batchRights_rt.symm.trans e2)
  have hm : ty ∈ (List.range 172).filter fun t => Tryd.prog.rowNamed t [101, 114, 114, 111, 114] := List.mem_filter.2 ⟨List.mem_range.2 (by rw [← batchRights_size]; exact e3), e4⟩
  rw [batchRights_oneRow] at hm
  obtain rfl := List.mem_singleton.1 hm
  have hh : typeHandle Tryd.prog 29 = .pointer (some ⟨4, 29, none⟩) := by kernel_rfl
  rw [hh] at e5
  unfold ET
  simpa using World.var?_cell batchRights_et e5 0
theorem batchRights_x8 : U8Extra Tryd.prog Tryd.laysValid_ren := ⟨by kernel_rfl, by kernel_rfl, by kernel_rfl, by kernel_rfl, by kernel_rfl, by kernel_rfl, by kernel_rfl⟩
theorem batchRights_acc : (Rows.laid_unicode_utf8_acceptRanges : DataW Unit) = Lib.acceptData := by kernel_rfl
theorem batchRights_fst : (Rows.laid_unicode_utf8_first : DataW Unit) = Lib.firstData := Pinned.utf8First_eq
theorem batchRights_tabs {W : World} (h : laidMetH Tryd.prog Rows.batchRightsRow.laid W) : UT W := by
  have h1 := (batchRights_parts h).1
  have r3 := Lib.laidMet.reads h1 (n := "unicode/utf8.first") (d := Rows.laid_unicode_utf8_first) (by simp)
  have r4 := Lib.laidMet.reads h1 (n := "unicode/utf8.acceptRanges") (d := Rows.laid_unicode_utf8_acceptRanges) (by simp)
  rw [batchRights_fst] at r3
  rw [batchRights_acc] at r4
  exact utf8Tabs_of_readsT (U8Types.of196 Tryd.laysValid) batchRights_x8 r3 r4
noncomputable def batchRights_wit (os : Os) : World := (World.doorLaid Tryd.prog 400 os).layVars Tryd.prog [("unicode/utf8.first", Rows.laid_unicode_utf8_first)]
theorem batchRights_door (os : Os) (args : Array Value) : laidMetH Tryd.prog Rows.batchRightsRow.laid ((batchRights_wit os).forCall (fun _ _ => 0) ⟨#[], args, []⟩).memory := by
  refine laidMetH_of_parts3 (fuel := 8) ?_ (by kernel_rfl) (by kernel_rfl)
  refine laidMet_layVars (w0 := World.doorLaid Tryd.prog 400 os) ["unicode/utf8.first"] [2] (by kernel_rfl) (by kernel_rfl) (by kernel_rfl) ?_
  exact LaidIn.of_run _ 8 (by kernel_rfl) (by kernel_rfl) (by kernel_rfl) (by kernel_rfl)
set_option maxRecDepth 100000 in
theorem batchRights_lifted (os : Os) (started : os.Started) (H : Type) (enc : TypeId × Value → H) :
    ReturnsInHanded {} Tryd.checked os 3 .any (fun w args => (Rows.batchRightsSpec.pre enc Tryd.prog Tryd.f3 [] false w args ∧ laidMetH Tryd.prog Rows.batchRightsRow.laid w) ∧ sizedMet enc Tryd.prog Tryd.f3 (OpenSpec.ofChange Rows.batchRightsSpec) false w args)
      (Rows.batchRightsSpec.post enc Tryd.prog Tryd.f3 false true false false) := by
  refine returnsInHanded_of_change_and (C := Tryd.checked) (X := fun w _ => laidMetH Tryd.prog Rows.batchRightsRow.laid w) (fun _ _ _ hh h => h.of_heap hh) batchRights_own started (by kernel_rfl) Tryd.func3
    (ChangeSpec.witness_shaped (enc := enc) (C := Tryd.checked) (os := os) (X := fun w _ => laidMetH Tryd.prog Rows.batchRightsRow.laid w) false (batchRights_wit os) #[.agg #[.string ⟨#[]⟩, .slice none 0 0, .slice none 0 0, .int .i64 0]] 8 (World.layVars_os _ _ _) (World.shaped_of_ZipB (by kernel_rfl) (by kernel_rfl)) (by kernel_rfl) (by kernel_rfl) (by kernel_rfl) (batchRights_door os _)) ?_
  intro W base args ds gs before hval0 hW _ hSz hL _
  have hval : ∀ (j : Nat) t v, Tryd.f3.params[j]? = some t → args[j]? = some v → Value.okWide Tryd.prog W .any base t v := hval0
  have hW' := hW
  obtain ⟨p, q, hA0, hV, rfl, hfz, hnd⟩ := hW
  have hA : DataW.TrodAll enc Tryd.prog W 0 (fun _ => true) true Tryd.f3.params.toList args.toList ds p := hA0
  rw [Tryd.params3] at hA hval
  obtain ⟨v0, vs0, d0, ds0, p0, q0, hargs, rfl, rfl, h0, r0⟩ := trodAll_cons hA
  obtain ⟨rfl, rfl, rfl⟩ := trodAll_nil r0
  obtain rfl : args = #[v0] := by cases args; simp_all
  obtain ⟨rfl, rfl⟩ := trodVars_none hV
  have k0 := h0
  have lt0 : ∀ x ∈ p0, x.block < W.heap.size := fun x hx => hW'.lt x (by simp [hx])
  obtain ⟨q0_0, q0_1, q0_2, q0_3, y0_0, y0_1, y0_2, y0_3, m0, rfl, rfl, hp0, g0_0, g0_1, g0_2, g0_3⟩ := open_agg4 Tryd.underlying25 (by kernel_rfl) (by kernel_rfl) (hval 0 25 v0 rfl rfl) h0
  obtain ⟨sm0, em0, _⟩ := DataW.trod_string Tryd.underlying9 g0_0
  obtain ⟨a0, st0, c0, rfl, ti0, tn0⟩ := tags_read g0_1
  obtain ⟨b0, fd0, u0, rfl, fi0, fc0⟩ := fields_read g0_2
  obtain ⟨tm0, et0, _⟩ := DataW.trod_int Tryd.underlying2 g0_3
  simp at em0 et0
  subst em0 et0
  clear hA0 hval0
  have hU : UT W := batchRights_tabs hL
  have hE : ET W := batchRights_handle hL
  refine (batchRights_walk a0 b0 c0 u0 ⟨sm0, st0, fd0, tm0⟩ W ⟨ti0, Nat.le_trans (tags_small g0_1 (fun k hk => by simpa using List.all_eq_true.1 hSz k (DataW.weights_mem_each (j := 0) (by kernel_rfl) rfl k (tags_in_pt hk)))) (by omega), fi0, Nat.le_trans (fields_small g0_2 (fun k hk => by simpa using List.all_eq_true.1 hSz k (DataW.weights_mem_each (j := 0) (by kernel_rfl) rfl k (fields_in_pt hk)))) (by omega), fc0⟩ (Nat.le_trans (tags_small g0_1 (fun k hk => by simpa using List.all_eq_true.1 hSz k (DataW.weights_mem_each (j := 0) (by kernel_rfl) rfl k (tags_in_pt hk)))) (by omega)) hU hE).mono fun e W' ⟨he, hg⟩ => ?_
  subst he
  exact ⟨_, rfl, _, _, _, [], (p0 ++ []), [], hW', trodAll_cons_mk (shut_bool Tryd.underlying4 _) trodAll_mk0, (trodAll_cons_mk (Below.trod batchRights_laidOut (by kernel_rfl) (of_decide_eq_true (by kernel_rfl)) k0 hg lt0) trodAll_mk0), rfl, hg.frame _, fun h => by cases h⟩

theorem batchRights_row : Rows.BatchRightsSaid :=
  OpenClaim.holds_of_wide 3 Tryd.f3 rfl rfl rfl rfl rfl rfl rfl ⟨rfl, rfl, rfl, rfl, rfl⟩ rfl rfl rfl rfl rfl (by kernel_rfl) Tryd.func3 (by kernel_rfl)
    (of_decide_eq_true (by kernel_rfl)) (by unfold Func.isWrapper; first | (rw [if_pos (by decide +kernel)]; kernel_rfl) | (rw [if_neg (by decide +kernel)]; exact ⟨rfl, rfl⟩))
    (fun os started H enc _ => batchRights_lifted os started H enc)

theorem batchRights_holds : Rows.BatchRightsCardSaid :=
  Claim7.holds_tied_plain_at .later [] [.data, .handle, .pinned] true Rows.batchRightsCard.stood.harness true
    batchRights_row (fun _ h => by cases h) (by kernel_rfl) (fun _ h => by cases h) batchRights_row_tie rfl ⟨rfl, rfl⟩ (by kernel_rfl) rfl
    (fun f fn hf hfn => by
      obtain rfl : f = 3 := Option.some.inj ((show Tryd.prog.funcNamed Rows.batchRightsRow.func = some 3 by kernel_rfl).symm.trans hf) |>.symm
      obtain rfl : fn = Tryd.f3 := (Option.some.inj (Tryd.func3.symm.trans hfn)).symm
      exact ⟨by kernel_rfl, fun j t ht => by
        rw [Tryd.params3] at ht
        have hm : t ∈ [25] := by simpa using Array.mem_of_getElem? ht
        have hall : ([25].all fun u => !Tryd.prog.wantsStandIn u) = true := by kernel_rfl
        exact (show Tryd.prog.wantsStandIn t = false by simpa using List.all_eq_true.1 hall t hm)⟩)
    (by kernel_rfl)
#print axioms batchRights_holds
end Go.Proofs.YtnpannhcpjmeeaaDoor

