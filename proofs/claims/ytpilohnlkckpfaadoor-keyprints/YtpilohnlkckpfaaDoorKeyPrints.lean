
import Derived.Test.YtpilohnlkckpfaaDoorRows
import Derived.Test.YtpilohnlkckpfaaDoorCards
import Derived.Test.YtpilohnlkckpfaaDoorTie
import Derived.Test.YtpilohnlkckpfaaDoorKzF
import Derived.Test.YtpilohnlkckpfaaDoorKyR
import Derived.ProofKit
import Derived.LaidMore
import Derived.LaidHandle
import Derived.OpenShut
import Derived.Carry
import Derived.Lib.SmallJoins
import Derived.Stop.Joined
import Derived.SevenTiedAt
import Derived.PinnedBridge
import Derived.Lay
import Derived.Lib.LaidU8T
import Derived.Lib.LaidIn
namespace Go.Proofs.YtpilohnlkckpfaaDoor
open Go.ChangeShapes Go.WideShapes Go.ChangeAt Go.RowKit Go.Joins
set_option linter.unusedVariables false

theorem keyPrints_own : ownKnob Tryd.prog.godebug = none := by kernel_rfl
theorem keyPrints_laidOut : laidOutB Tryd.prog = true := by kernel_rfl
theorem keyPrints_et : Tryd.prog.globalNamed "errors.errorType" = some 0 := by kernel_rfl
theorem keyPrints_rt : (Tryd.prog.cutTypes.find? (·.1 == "internal/reflectlite.rtype")).map (·.2) = some 108 := by kernel_rfl
theorem keyPrints_oneRow : ((List.range 166).filter fun t => Tryd.prog.rowNamed t [101, 114, 114, 111, 114]) = [30] := by kernel_rfl
theorem keyPrints_size : Tryd.prog.types.size = 166 := by kernel_rfl
theorem keyPrints_parts {W : World} (h : laidMetH Tryd.prog Rows.keyPrintsRow.laid W) : laidMet Tryd.prog [("unicode/utf8.acceptRanges", Rows.laid_unicode_utf8_acceptRanges), ("unicode/utf8.first", Rows.laid_unicode_utf8_first)] W ∧ handlesMet Tryd.prog [("errors.errorType", Rows.laid_errors_errorType)] W := h
theorem keyPrints_handle {W : World} (h : laidMetH Tryd.prog Rows.keyPrintsRow.laid W) : ET W := by
  obtain ⟨name, u, ty, e1, e2, e3, e4, e5⟩ := (keyPrints_parts h).2 _ (List.mem_singleton.2 rfl)
  have en : name = [101, 114, 114, 111, 114] := (Option.some.inj e1).symm
  subst en
  obtain rfl := Option.some.inj (keyPrints_rt.symm.trans e2)
  have hm : ty ∈ (List.range 166).filter fun t => Tryd.prog.rowNamed t [101, 114, 114, 111, 114] := List.mem_filter.2 ⟨List.mem_range.2 (by rw [← keyPrints_size]; exact e3), e4⟩
  rw [keyPrints_oneRow] at hm
  obtain rfl := List.mem_singleton.1 hm
  have hh : typeHandle Tryd.prog 30 = .pointer (some ⟨4, 30, none⟩) := by kernel_rfl
  rw [hh] at e5
  unfold ET
  simpa using World.var?_cell keyPrints_et e5 0
theorem keyPrints_x8 : U8Extra Tryd.prog Tryd.laysValid_ren := ⟨by kernel_rfl, by kernel_rfl, by kernel_rfl, by kernel_rfl, by kernel_rfl, by kernel_rfl, by kernel_rfl⟩
theorem keyPrints_acc : (Rows.laid_unicode_utf8_acceptRanges : DataW Unit) = Lib.acceptData := by kernel_rfl
theorem keyPrints_fst : (Rows.laid_unicode_utf8_first : DataW Unit) = Lib.firstData := Pinned.utf8First_eq
theorem keyPrints_tabs {W : World} (h : laidMetH Tryd.prog Rows.keyPrintsRow.laid W) : UT W := by
  have h1 := (keyPrints_parts h).1
  have r3 := Lib.laidMet.reads h1 (n := "unicode/utf8.first") (d := Rows.laid_unicode_utf8_first) (by simp)
  have r4 := Lib.laidMet.reads h1 (n := "unicode/utf8.acceptRanges") (d := Rows.laid_unicode_utf8_acceptRanges) (by simp)
  rw [keyPrints_fst] at r3
  rw [keyPrints_acc] at r4
  exact utf8Tabs_of_readsT (U8Types.of196 Tryd.laysValid) keyPrints_x8 r3 r4
noncomputable def keyPrints_wit (os : Os) : World := (World.doorLaid Tryd.prog 400 os).layVars Tryd.prog [("unicode/utf8.first", Rows.laid_unicode_utf8_first)]
theorem keyPrints_door (os : Os) (args : Array Value) : laidMetH Tryd.prog Rows.keyPrintsRow.laid ((keyPrints_wit os).forCall (fun _ _ => 0) ⟨#[], args, []⟩).memory := by
  refine laidMetH_of_parts3 (fuel := 8) ?_ (by kernel_rfl) (by kernel_rfl)
  refine laidMet_layVars (w0 := World.doorLaid Tryd.prog 400 os) ["unicode/utf8.first"] [3] (by kernel_rfl) (by kernel_rfl) (by kernel_rfl) ?_
  exact LaidIn.of_run _ 8 (by kernel_rfl) (by kernel_rfl) (by kernel_rfl) (by kernel_rfl)
set_option maxRecDepth 100000 in
theorem keyPrints_lifted (os : Os) (started : os.Started) (H : Type) (enc : TypeId × Value → H) :
    ReturnsInHanded {} Tryd.checked os 7 .any (fun w args => (Rows.keyPrintsSpec.pre enc Tryd.prog Tryd.f7 [] false w args ∧ laidMetH Tryd.prog Rows.keyPrintsRow.laid w) ∧ sizedMet enc Tryd.prog Tryd.f7 (OpenSpec.ofChange Rows.keyPrintsSpec) false w args)
      (Rows.keyPrintsSpec.post enc Tryd.prog Tryd.f7 false true false false) := by
  refine returnsInHanded_of_change_and (C := Tryd.checked) (X := fun w _ => laidMetH Tryd.prog Rows.keyPrintsRow.laid w) (fun _ _ _ hh h => h.of_heap hh) keyPrints_own started (by kernel_rfl) Tryd.func7
    (ChangeSpec.witness_shaped (enc := enc) (C := Tryd.checked) (os := os) (X := fun w _ => laidMetH Tryd.prog Rows.keyPrintsRow.laid w) false (keyPrints_wit os) #[.agg #[.string ⟨#[]⟩, .slice none 0 0, .string ⟨#[]⟩]] 8 (World.layVars_os _ _ _) (World.shaped_of_ZipB (by kernel_rfl) (by kernel_rfl)) (by kernel_rfl) (by kernel_rfl) (by kernel_rfl) (keyPrints_door os _)) ?_
  intro W base args ds gs before hval0 hW _ hSz hL _
  have hval : ∀ (j : Nat) t v, Tryd.f7.params[j]? = some t → args[j]? = some v → Value.okWide Tryd.prog W .any base t v := hval0
  have hW' := hW
  obtain ⟨p, q, hA0, hV, rfl, hfz, hnd⟩ := hW
  have hA : DataW.TrodAll enc Tryd.prog W 0 (fun _ => true) true Tryd.f7.params.toList args.toList ds p := hA0
  rw [Tryd.params7] at hA hval
  obtain ⟨v0, vs0, d0, ds0, p0, q0, hargs, rfl, rfl, h0, r0⟩ := trodAll_cons hA
  obtain ⟨rfl, rfl, rfl⟩ := trodAll_nil r0
  obtain rfl : args = #[v0] := by cases args; simp_all
  obtain ⟨rfl, rfl⟩ := trodVars_none hV
  have k0 := h0
  have lt0 : ∀ x ∈ p0, x.block < W.heap.size := fun x hx => hW'.lt x (by simp [hx])
  obtain ⟨q0_0, q0_1, q0_2, y0_0, y0_1, y0_2, m0, rfl, rfl, hp0, g0_0, g0_1, g0_2⟩ := open_agg3 Tryd.underlying24 (by kernel_rfl) (by kernel_rfl) (hval 0 24 v0 rfl rfl) h0
  obtain ⟨sm0, em0, _⟩ := DataW.trod_string Tryd.underlying9 g0_0
  obtain ⟨sf0, ef0, _⟩ := DataW.trod_string Tryd.underlying9 g0_2
  obtain ⟨a0, st0, c0, rfl, ti0, tn0⟩ := tags_read g0_1
  simp at em0 ef0
  subst em0 ef0
  have in0 : SerIn W a0 ⟨sm0, st0, sf0⟩ := ⟨ti0, tn0⟩
  clear hA0 hval0
  have hU : UT W := keyPrints_tabs hL
  have hE : ET W := keyPrints_handle hL
  refine (keyPrints_walk a0 c0 ⟨sm0, st0, sf0⟩ W in0 hU hE).mono fun e W' ⟨he, hg⟩ => ?_
  subst he
  exact ⟨_, rfl, _, _, _, [], (p0 ++ []), [], hW', trodAll_cons_mk (shut_bool Tryd.underlying4 _) trodAll_mk0, (trodAll_cons_mk (Below.trod keyPrints_laidOut (by kernel_rfl) (of_decide_eq_true (by kernel_rfl)) k0 hg lt0) trodAll_mk0), rfl, hg.frame _, fun h => by cases h⟩

theorem keyPrints_row : Rows.KeyPrintsSaid :=
  OpenClaim.holds_of_wide 7 Tryd.f7 rfl rfl rfl rfl rfl rfl rfl ⟨rfl, rfl, rfl, rfl, rfl⟩ rfl rfl rfl rfl rfl (by kernel_rfl) Tryd.func7 (by kernel_rfl)
    (of_decide_eq_true (by kernel_rfl)) (by unfold Func.isWrapper; first | (rw [if_pos (by decide +kernel)]; kernel_rfl) | (rw [if_neg (by decide +kernel)]; exact ⟨rfl, rfl⟩))
    (fun os started H enc _ => keyPrints_lifted os started H enc)

theorem keyPrints_holds : Rows.KeyPrintsCardSaid :=
  Claim7.holds_tied_plain_at .later [] [.data, .handle, .pinned] true Rows.keyPrintsCard.stood.harness true
    keyPrints_row (fun _ h => by cases h) (by kernel_rfl) (fun _ h => by cases h) keyPrints_row_tie rfl ⟨rfl, rfl⟩ (by kernel_rfl) rfl
    (fun f fn hf hfn => by
      obtain rfl : f = 7 := Option.some.inj ((show Tryd.prog.funcNamed Rows.keyPrintsRow.func = some 7 by kernel_rfl).symm.trans hf) |>.symm
      obtain rfl : fn = Tryd.f7 := (Option.some.inj (Tryd.func7.symm.trans hfn)).symm
      exact ⟨by kernel_rfl, fun j t ht => by
        rw [Tryd.params7] at ht
        have hm : t ∈ [24] := by simpa using Array.mem_of_getElem? ht
        have hall : ([24].all fun u => !Tryd.prog.wantsStandIn u) = true := by kernel_rfl
        exact (show Tryd.prog.wantsStandIn t = false by simpa using List.all_eq_true.1 hall t hm)⟩)
    (by kernel_rfl)
#print axioms keyPrints_holds
end Go.Proofs.YtpilohnlkckpfaaDoor

