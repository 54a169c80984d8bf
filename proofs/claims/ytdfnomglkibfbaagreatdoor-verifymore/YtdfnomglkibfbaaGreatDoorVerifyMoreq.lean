
import Derived.Test.YtdfnomglkibfbaaGreatDoorRows
import Derived.Test.YtdfnomglkibfbaaGreatDoorCards
import Derived.Test.YtdfnomglkibfbaaGreatDoorTie
import Derived.Test.YtdfnomglkibfbaaGreatDoorVmY
import Derived.ProofKit
import Derived.LaidMore
import Derived.LaidHandle
import Derived.OpenShut
import Derived.Carry
import Derived.Lib.SmallJoins
import Derived.Stop.Joined
import Derived.SevenTiedAt
import Derived.PinnedBridge
import Derived.Lay
import Derived.Lib.LaidU8T
import Derived.Lib.LaidIn
namespace Go.Proofs.YtdfnomglkibfbaaGreatDoor
open Go.ChangeShapes Go.WideShapes Go.ChangeAt Go.RowKit Go.Joins
set_option linter.unusedVariables false

theorem verifyMore_own : ownKnob Tryz.prog.godebug = none := by kernel_rfl
theorem verifyMore_laidOut : laidOutB Tryz.prog = true := by kernel_rfl
theorem verifyMore_et : Tryz.prog.globalNamed "errors.errorType" = some 0 := by kernel_rfl
theorem verifyMore_rt : (Tryz.prog.cutTypes.find? (·.1 == "internal/reflectlite.rtype")).map (·.2) = some 221 := by kernel_rfl
theorem verifyMore_oneRow : ((List.range 337).filter fun t => Tryz.prog.rowNamed t [101, 114, 114, 111, 114]) = [32] := by kernel_rfl
theorem verifyMore_size : Tryz.prog.types.size = 337 := by kernel_rfl
theorem verifyMore_parts {W : World} (h : laidMetH Tryz.prog Rows.verifyMoreRow.laid W) : laidMet Tryz.prog [("unicode/utf8.acceptRanges", Rows.laid_unicode_utf8_acceptRanges), ("weir/verify.rows", Rows.laid_weir_verify_rows), ("unicode/utf8.first", Rows.laid_unicode_utf8_first)] W ∧ handlesMet Tryz.prog [("errors.errorType", Rows.laid_errors_errorType)] W := h
theorem verifyMore_handle {W : World} (h : laidMetH Tryz.prog Rows.verifyMoreRow.laid W) : ET W := by
  obtain ⟨name, u, ty, e1, e2, e3, e4, e5⟩ := (verifyMore_parts h).2 _ (List.mem_singleton.2 rfl)
  have en : name = [101, 114, 114, 111, 114] := (Option.some.inj e1).symm
  subst en
  obtain rfl := Option.some.inj (verifyMore_rt.symm.trans e2)
  have hm : ty ∈ (List.range 337).filter fun t => Tryz.prog.rowNamed t [101, 114, 114, 111, 114] := List.mem_filter.2 ⟨List.mem_range.2 (by rw [← verifyMore_size]; exact e3), e4⟩
  rw [verifyMore_oneRow] at hm
  obtain rfl := List.mem_singleton.1 hm
  have hh : typeHandle Tryz.prog 32 = .pointer (some ⟨4, 32, none⟩) := by kernel_rfl
  rw [hh] at e5
  unfold ET
  simpa using World.var?_cell verifyMore_et e5 0
theorem verifyMore_x8 : U8Extra Tryz.prog Tryz.laysValid_ren := ⟨by kernel_rfl, by kernel_rfl, by kernel_rfl, by kernel_rfl, by kernel_rfl, by kernel_rfl, by kernel_rfl⟩
theorem verifyMore_acc : (Rows.laid_unicode_utf8_acceptRanges : DataW Unit) = Lib.acceptData := by kernel_rfl
theorem verifyMore_fst : (Rows.laid_unicode_utf8_first : DataW Unit) = Lib.firstData := Pinned.utf8First_eq
theorem verifyMore_tabs {W : World} (h : laidMetH Tryz.prog Rows.verifyMoreRow.laid W) : UT W := by
  have h1 := (verifyMore_parts h).1
  have r3 := Lib.laidMet.reads h1 (n := "unicode/utf8.first") (d := Rows.laid_unicode_utf8_first) (by simp)
  have r4 := Lib.laidMet.reads h1 (n := "unicode/utf8.acceptRanges") (d := Rows.laid_unicode_utf8_acceptRanges) (by simp)
  rw [verifyMore_fst] at r3
  rw [verifyMore_acc] at r4
  exact utf8Tabs_of_readsT (U8Types.of196 Tryz.laysValid) verifyMore_x8 r3 r4
theorem verifyMore_rows {W : World} (h : laidMetH Tryz.prog Rows.verifyMoreRow.laid W) : Vf.RT W := Vf.RT_of_reads (Lib.laidMet.reads (verifyMore_parts h).1 (n := "weir/verify.rows") (d := Rows.laid_weir_verify_rows) (by simp))
noncomputable def verifyMore_wit (os : Os) : World := (World.doorLaid Tryz.prog 400 os).layVars Tryz.prog [("unicode/utf8.first", Rows.laid_unicode_utf8_first)]
theorem verifyMore_door (os : Os) (args : Array Value) : laidMetH Tryz.prog Rows.verifyMoreRow.laid ((verifyMore_wit os).forCall (fun _ _ => 0) ⟨#[], args, []⟩).memory := by
  refine laidMetH_of_parts3 (fuel := 8) ?_ (by kernel_rfl) (by kernel_rfl)
  refine laidMet_layVars (w0 := World.doorLaid Tryz.prog 400 os) ["unicode/utf8.first"] [3, 1] (by kernel_rfl) (by kernel_rfl) (by kernel_rfl) ?_
  exact LaidIn.of_run _ 8 (by kernel_rfl) (by kernel_rfl) (by kernel_rfl) (by kernel_rfl)
set_option maxHeartbeats 2000000 in
set_option maxRecDepth 100000 in
theorem verifyMore_lifted (os : Os) (started : os.Started) (H : Type) (enc : TypeId × Value → H) :
    ReturnsInHanded {} Tryz.checked os 6 .any (fun w args => (Rows.verifyMoreSpec.pre enc Tryz.prog Tryz.f6 [] false w args ∧ laidMetH Tryz.prog Rows.verifyMoreRow.laid w) ∧ sizedMet enc Tryz.prog Tryz.f6 (OpenSpec.ofChange Rows.verifyMoreSpec) false w args)
      (Rows.verifyMoreSpec.post enc Tryz.prog Tryz.f6 false true false false) := by
  refine returnsInHanded_of_change_and (C := Tryz.checked) (X := fun w _ => laidMetH Tryz.prog Rows.verifyMoreRow.laid w) (fun _ _ _ hh h => h.of_heap hh) verifyMore_own started (by kernel_rfl) Tryz.func6
    (ChangeSpec.witness_shaped (enc := enc) (C := Tryz.checked) (os := os) (X := fun w _ => laidMetH Tryz.prog Rows.verifyMoreRow.laid w) false (verifyMore_wit os) #[.agg #[.string ⟨#[]⟩, .string ⟨#[]⟩, .int .i64 0, .int .i64 0, .slice none 0 0, .slice none 0 0, .slice none 0 0, .slice none 0 0, .slice none 0 0, .slice none 0 0, .slice none 0 0, .slice none 0 0, .slice none 0 0, .slice none 0 0], .string ⟨#[]⟩, .int .i64 0] 8 (World.layVars_os _ _ _) (World.shaped_of_ZipB (by kernel_rfl) (by kernel_rfl)) (by kernel_rfl) (by kernel_rfl) (by kernel_rfl) (verifyMore_door os _)) ?_
  intro W base args ds gs before hval0 hW _ hSz hL _
  have hval : ∀ (j : Nat) t v, Tryz.f6.params[j]? = some t → args[j]? = some v → Value.okWide Tryz.prog W .any base t v := hval0
  have hW' := hW
  obtain ⟨p, q, hA0, hV, rfl, hfz, hnd⟩ := hW
  have hA : DataW.TrodAll enc Tryz.prog W 0 (fun _ => true) true Tryz.f6.params.toList args.toList ds p := hA0
  rw [Tryz.params6] at hA hval
  obtain ⟨v0, vs0, d0, ds0, p0, qq0, hargs, rfl, rfl, h0, r0⟩ := trodAll_cons hA
  obtain ⟨v1, vs1, d1, ds1, p1, qq1, rfl, rfl, rfl, h1, r1⟩ := trodAll_cons r0
  obtain ⟨v2, vs2, d2, ds2, p2, qq2, rfl, rfl, rfl, h2, r2⟩ := trodAll_cons r1
  obtain ⟨rfl, rfl, rfl⟩ := trodAll_nil r2
  obtain rfl : args = #[v0, v1, v2] := by cases args; simp_all
  obtain ⟨rfl, rfl⟩ := trodVars_none hV
  have k0 := h0
  have lt0 : ∀ x ∈ p0, x.block < W.heap.size := fun x hx => hW'.lt x (by simp [hx])
  have k1 := h1
  have lt1 : ∀ x ∈ p1, x.block < W.heap.size := fun x hx => hW'.lt x (by simp [hx])
  have k2 := h2
  have lt2 : ∀ x ∈ p2, x.block < W.heap.size := fun x hx => hW'.lt x (by simp [hx])
  obtain ⟨q0, q1, q2, q3, q4, q5, q6, q7, q8, q9, q10, q11, q12, q13, y0, y1, y2, y3, y4, y5, y6, y7, y8, y9, y10, y11, y12, y13, m0, rfl, rfl, g0, g1, g2, g3, g4, g5, g6, g7, g8, g9, g10, g11, g12, g13⟩ := Vf.prog_open (hval 0 28 v0 rfl rfl) h0
  have hS : ∀ k ∈ (DataW.agg [y0.1, y1.1, y2.1, y3.1, y4.1, y5.1, y6.1, y7.1, y8.1, y9.1, y10.1, y11.1, y12.1, y13.1] : DataW H).weights Tryz.prog 28, k ≤ reachBytes := fun k hk => by simpa using List.all_eq_true.1 hSz k (DataW.weights_mem_each (j := 0) (by kernel_rfl) rfl k hk)
  obtain ⟨s0, e0, _⟩ := DataW.trod_string Tryz.underlying9 g0
  obtain ⟨s1, e1, _⟩ := DataW.trod_string Tryz.underlying9 g1
  obtain ⟨i2, e2, _⟩ := DataW.trod_int Tryz.underlying2 g2
  obtain ⟨i3, e3, _⟩ := DataW.trod_int Tryz.underlying2 g3
  simp at e0 e1 e2 e3
  subst e0 e1 e2 e3
  obtain ⟨a4, l4, c4, rfl, in4, n4⟩ := Vf.strs_read g4 (fun k hk => hS k (Vf.in_prog4 hk))
  obtain ⟨a5, l5, c5, rfl, in5, n5⟩ := Vf.accs_read g5 (fun k hk => hS k (Vf.in_prog5 hk))
  obtain ⟨a6, l6, c6, rfl, in6, n6⟩ := Vf.strs_read g6 (fun k hk => hS k (Vf.in_prog6 hk))
  obtain ⟨a7, l7, c7, rfl, in7, n7⟩ := Vf.strs_read g7 (fun k hk => hS k (Vf.in_prog7 hk))
  obtain ⟨a8, l8, c8, rfl, in8, n8⟩ := Vf.strs_read g8 (fun k hk => hS k (Vf.in_prog8 hk))
  obtain ⟨a9, l9, c9, rfl, in9, n9⟩ := Vf.lists_read g9 (fun k hk => hS k (Vf.in_prog9 hk))
  obtain ⟨a12, l12, c12, rfl, in12, n12, cb12⟩ := Vf.ins_read g12 (fun k hk => hS k (Vf.in_prog12 hk))
  obtain ⟨a13, l13, c13, rfl, in13, n13, cb13⟩ := Vf.ins_read g13 (fun k hk => hS k (Vf.in_prog13 hk))
  obtain ⟨a10, l10, c10, rfl, in10, n10⟩ := Vf.nts_read g10 (fun k hk => hS k (Vf.in_prog10 hk))
  obtain ⟨a11, l11, c11, rfl, in11, n11⟩ := Vf.nts_read g11 (fun k hk => hS k (Vf.in_prog11 hk))
  obtain ⟨x1, rfl, rfl, hp1, sz1⟩ := Go.ChangeMaps.open_string Tryz.underlying9 (hval 1 9 v1 rfl rfl) h1
  obtain ⟨x2, rfl, rfl, hp2, w2⟩ := open_int Tryz.underlying2 (hval 2 2 v2 rfl rfl) h2
  clear hA0 hval0
  have hU : UT W := verifyMore_tabs hL
  have hE : ET W := verifyMore_handle hL
  have hR : Vf.RT W := verifyMore_rows hL
  refine (Vf.verifyMore_walk ⟨s0, s1, i2, i3, ⟨a4, l4.length, c4⟩, ⟨a5, l5.length, c5⟩, ⟨a6, l6.length, c6⟩, ⟨a7, l7.length, c7⟩, ⟨a8, l8.length, c8⟩, ⟨a9, l9.length, c9⟩, ⟨a10, l10.length, c10⟩, ⟨a11, l11.length, c11⟩, ⟨a12, l12.length, c12⟩, ⟨a13, l13.length, c13⟩⟩ ⟨l4, l5, l6, l7, l8, l9, l12, l13⟩ l10 l11 x1 x2 ⟨rfl, rfl, rfl, rfl, rfl, rfl, rfl, rfl, n4, n5, n6, n7, n8, n9, n12, n13⟩ rfl rfl n10 n11 (Vf.accs_len' g5 (fun k hk => hS k (Vf.in_prog5 hk))) (Vf.strs_len g8 (fun k hk => hS k (Vf.in_prog8 hk))) (Vf.strs_len g7 (fun k hk => hS k (Vf.in_prog7 hk))) cb12 cb13 W hU hR hE ⟨in4, in5, in6, in7, in8, in9, in12, in13⟩ in10 in11).mono fun e W' ⟨he, hg⟩ => ?_
  subst he
  exact ⟨_, rfl, _, _, _, [], (p0 ++ (p1 ++ (p2 ++ []))), [], hW', trodAll_cons_mk (shut_bool Tryz.underlying4 _) trodAll_mk0, (trodAll_cons_mk (Below.trod verifyMore_laidOut (by kernel_rfl) (of_decide_eq_true (by kernel_rfl)) k0 hg lt0) (trodAll_cons_mk (Below.trod verifyMore_laidOut (by kernel_rfl) (of_decide_eq_true (by kernel_rfl)) k1 hg lt1) (trodAll_cons_mk (Below.trod verifyMore_laidOut (by kernel_rfl) (of_decide_eq_true (by kernel_rfl)) k2 hg lt2) trodAll_mk0))), rfl, hg.frame _, fun h => by cases h⟩

theorem verifyMore_row : Rows.VerifyMoreSaid :=
  OpenClaim.holds_of_wide 6 Tryz.f6 rfl rfl rfl rfl rfl rfl rfl ⟨rfl, rfl, rfl, rfl, rfl⟩ rfl rfl rfl rfl rfl (by kernel_rfl) Tryz.func6 (by kernel_rfl)
    (of_decide_eq_true (by kernel_rfl)) (by unfold Func.isWrapper; first | (rw [if_pos (by decide +kernel)]; kernel_rfl) | (rw [if_neg (by decide +kernel)]; exact ⟨rfl, rfl⟩))
    (fun os started H enc _ => verifyMore_lifted os started H enc)

theorem verifyMore_holds : Rows.VerifyMoreCardSaid :=
  Claim7.holds_tied_plain_at .later [] [.data, .handle, .data, .pinned] true Rows.verifyMoreCard.stood.harness true
    verifyMore_row (fun _ h => by cases h) (by kernel_rfl) (fun _ h => by cases h) verifyMore_row_tie rfl ⟨rfl, rfl⟩ (by kernel_rfl) rfl
    (fun f fn hf hfn => by
      obtain rfl : f = 6 := Option.some.inj ((show Tryz.prog.funcNamed Rows.verifyMoreRow.func = some 6 by kernel_rfl).symm.trans hf) |>.symm
      obtain rfl : fn = Tryz.f6 := (Option.some.inj (Tryz.func6.symm.trans hfn)).symm
      exact ⟨by kernel_rfl, fun j t ht => by
        rw [Tryz.params6] at ht
        have hm : t ∈ [28, 9, 2] := by simpa using Array.mem_of_getElem? ht
        have hall : ([28, 9, 2].all fun u => !Tryz.prog.wantsStandIn u) = true := by kernel_rfl
        exact (show Tryz.prog.wantsStandIn t = false by simpa using List.all_eq_true.1 hall t hm)⟩)
    (by kernel_rfl)
#print axioms verifyMore_holds
end Go.Proofs.YtdfnomglkibfbaaGreatDoor


