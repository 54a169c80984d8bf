
import Derived.Test.YtiakecenmenpiaaDoorFpH
import Derived.Test.YtiakecenmenpiaaDoorFpI
namespace Go.Proofs.YtiakecenmenpiaaDoor
open Go.RowKit
set_option linter.unusedVariables false
set_option linter.unusedSimpArgs false
theorem line_len (i p c : Int) (hi : I64' i) (hp : I64' p) (hc : I64' c) : (lineL (some i) (some p) c).length < 4294967281 := by
  have h1 := lab_len numW (some i) (fun n hn => by obtain rfl := Option.some.inj hn; exact hi)
  have h2 := lab_len atW (some p) (fun n hn => by obtain rfl := Option.some.inj hn; exact hp)
  have h3 := nameS_size hc
  have h4 : (nameS c).size = (nameL c).length := mk_size _
  rw [show numW.length = 7 from rfl] at h1
  rw [show atW.length = 3 from rfl] at h2
  unfold lineL
  rw [List.length_append, List.length_append]; omega
/-- what is read of any text prints as the text. -/
def PW (S : ByteArray) (X Y : Value) : Prop :=
  (∃ te pe, Y = .iface te pe) ∨ (Y = .nilIface ∧ ∀ w, EV w → ET w → Calls Tryd.prog 7 #[X] w fun e w' => e = .returned (.string S) ∧ Below w.heap.size w w')
theorem parse_prints (S : ByteArray) (hs : S.size < 4294967281) (w : World) (hE : EV w) (hM : ML w) (hg : ET w) :
    Calls Tryd.prog 6 #[.string S] w fun e w' => (∃ X Y, e = .returned (.tuple #[X, Y]) ∧ PW S X Y) ∧ Below w.heap.size w w' := by
  have h := parse_any S.data.toList hs w hE hM hg
  rw [B_of] at h
  refine h.mono ?_
  rintro e w' ⟨hp, hb⟩
  refine ⟨?_, hb⟩
  rcases hp with ⟨c, hc, h0, hn, hl, rfl⟩ | ⟨hok, _, rfl⟩ | ⟨_, _, rfl⟩
  · refine ⟨_, _, rfl, Or.inr ⟨rfl, fun w1 h1 h2 => ?_⟩⟩
    have hp := print_chain (lyr S.data.toList) c hc h0 (by unfold lyr; rw [fI_lk]; exact okI_if _ _ (unlab_I _ _)) (by unfold lyr; rw [fA_lk]; exact okI_if _ _ (unlab_I _ _)) w1 h1 h2
    rw [hl, B_of] at hp; exact hp
  · refine ⟨_, _, rfl, Or.inr ⟨rfl, fun w1 h1 h2 => ?_⟩⟩
    have hS : S = ⟨#[111, 107]⟩ := ba_eq hok
    rw [hS]; exact print_nil w1
  · exact ⟨_, _, rfl, Or.inl ⟨_, _, rfl⟩⟩
set_option maxRecDepth 100000 in
set_option maxHeartbeats 4000000 in
theorem faultBack_walk (e p : Int) (he : I64' e) (hp : I64' p) (S : ByteArray) (hs : S.size < 4294967281) (w : World) (hE : EV w) (hM : ML w) (hg : ET w) :
    Calls Tryd.prog 3 #[.int .i64 e, .int .i64 p, .string S] w fun ev w' => ev = .returned (.bool true) ∧ Below w.heap.size w w' := by
  have kS : Hid (∀ w, EV w → ML w → ET w → Calls Tryd.prog 6 #[.string S] w fun e w' => (∃ X Y, e = .returned (.tuple #[X, Y]) ∧ PW S X Y) ∧ Below w.heap.size w w') := fun w h1 h2 h3 => parse_prints S hs w h1 h2 h3
  have hEH : Hid _ := hE
  have hMH : Hid (ML w) := hM
  have hgH : Hid _ := hg
  clear hE hM hg hs
  by_cases h0 : e = 0
  · subst h0
    clear he
    go_enter Tryd.func3, Tryd.ntmps3
    go_wp2_with fail
    refine (at_zero _ _).mono ?_
    rintro e1 w1 ⟨rfl, rfl⟩
    go_wp2_with fail
    refine (in_nil _ _).mono ?_
    rintro e2 w2 ⟨rfl, rfl⟩
    go_wp2_with fail
    refine (print_nil _).mono ?_
    rintro e3 w3 ⟨rfl, B3⟩
    go_wp2_with fail
    refine (parse_ok _ (hEH.out.below B3) (ML.below hMH.out B3) (ET_below hgH.out B3)).mono ?_
    rintro e4 w4 ⟨rfl, B4⟩
    have P4 := bthen B3 B4
    go_wp2_with fail
    refine (place_nil _).mono ?_
    rintro e5 w5 ⟨rfl, B5⟩
    have P5 := bthen P4 B5
    go_wp2_with fail
    refine (index_nil _).mono ?_
    rintro e6 w6 ⟨rfl, B6⟩
    have P6 := bthen P5 B6
    go_wp2_with fail
    refine (code_nil _).mono ?_
    rintro e7 w7 ⟨rfl, B7⟩
    have P7 := bthen P6 B7
    clear B3 B4 B5 B6 B7 P4 P5 P6
    go_wp2_with fail
    refine (kS.out _ (hEH.out.below P7) (ML.below hMH.out P7) (ET_below hgH.out P7)).mono ?_
    rintro e8 w8 ⟨⟨X, Y, rfl, hXY⟩, B8⟩
    have P8 := bthen P7 B8
    go_wp2_with fail
    refine (live1_any _ (ET_below hgH.out P8)).mono ?_
    rintro e9 w9 ⟨rfl, B9⟩
    have P9 := bthen P8 B9
    rcases hXY with ⟨te, pe, rfl⟩ | ⟨rfl, hpr⟩
    · go_wp2_with fail
      go_ret
      exact ⟨rfl, P9⟩
    · have hprH : Hid _ := hpr
      clear hpr
      go_wp2_with fail
      refine (hprH.out _ (hEH.out.below P9) (ET_below hgH.out P9)).mono ?_
      rintro e10 w10 ⟨rfl, B10⟩
      have P10 := bthen P9 B10
      go_wp2_with fail
      go_ret
      exact ⟨rfl, P10⟩
  · have hz : (e == 0) = false := by rw [beq_eq_false_iff_ne]; exact h0
    have hz2 : (e != 0) = true := by simpa using h0
    have kP : Hid (∀ w, EV w → ET w → Calls Tryd.prog 7 #[errV [(true, p), (false, p)] e] w fun ev w' => ev = .returned (.string (B (lineL (some p) (some p) e))) ∧ Below w.heap.size w w') := fun w h1 h2 =>
      print_chain [(true, p), (false, p)] e he h0 (fun n hn => by obtain rfl := Option.some.inj hn; exact hp) (fun n hn => by obtain rfl := Option.some.inj hn; exact hp) w h1 h2
    have kR : Hid (∀ w, EV w → ML w → ET w → Calls Tryd.prog 6 #[.string (B (lineL (some p) (some p) e))] w fun ev w' => ev = .returned (.tuple #[errV [(true, p), (false, p)] e, .nilIface]) ∧ Below w.heap.size w w') := fun w h1 h2 h3 => parse_line p p e hp hp he h0 (line_len p p e hp hp he) w h1 h2 h3
    have kA : Hid (∀ w, ET w → Calls Tryd.prog 8 #[errV [(true, p), (false, p)] e] w fun ev w' => ev = .returned (.tuple #[.int .i64 p, .bool true]) ∧ Below w.heap.size w w') := fun w h => placeV [(true, p), (false, p)] e w h
    have kI : Hid (∀ w, ET w → Calls Tryd.prog 9 #[errV [(true, p), (false, p)] e] w fun ev w' => ev = .returned (.tuple #[.int .i64 p, .bool true]) ∧ Below w.heap.size w w') := fun w h => indexV [(true, p), (false, p)] e w h
    have kC : Hid (∀ w, ET w → Calls Tryd.prog 10 #[errV [(true, p), (false, p)] e] w fun ev w' => ev = .returned (.int .i64 e) ∧ Below w.heap.size w w') := fun w h => code_chain [(true, p), (false, p)] e w h
    have kN : Hid (∀ w, Calls Tryd.prog 4 #[.int .i64 p, errV [(false, p)] e] w fun ev w' => ev = .returned (errV [(true, p), (false, p)] e) ∧ w' = w) := fun w => in_chain p [(false, p)] e w
    have kT : Hid (∀ w, Calls Tryd.prog 5 #[.int .i64 p, .int .i64 e] w fun ev w' => ev = .returned (errV [(false, p)] e) ∧ w' = w) := fun w => at_err p e hz w
    obtain ⟨V, hV⟩ : ∃ V, V = errV [(true, p), (false, p)] e := ⟨_, rfl⟩
    obtain ⟨V1, hV1⟩ : ∃ V, V = errV [(false, p)] e := ⟨_, rfl⟩
    obtain ⟨L, hL⟩ : ∃ L, L = B (lineL (some p) (some p) e) := ⟨_, rfl⟩
    rw [← hV] at kP kR kA kI kC kN
    rw [← hV1] at kN kT
    rw [← hL] at kP kR
    clear hV hV1 hL h0 he hp
    go_enter Tryd.func3, Tryd.ntmps3
    go_wp2_with fail
    refine (kT.out _).mono ?_
    rintro e1 w1 ⟨rfl, rfl⟩
    go_wp2_with fail
    refine (kN.out _).mono ?_
    rintro e2 w2 ⟨rfl, rfl⟩
    go_wp2_with fail
    refine (kP.out _ hEH.out hgH.out).mono ?_
    rintro e3 w3 ⟨rfl, B3⟩
    go_wp2_with fail
    refine (kR.out _ (hEH.out.below B3) (ML.below hMH.out B3) (ET_below hgH.out B3)).mono ?_
    rintro e4 w4 ⟨rfl, B4⟩
    have P4 := bthen B3 B4
    go_wp2_with fail
    refine (kA.out _ (ET_below hgH.out P4)).mono ?_
    rintro e5 w5 ⟨rfl, B5⟩
    have P5 := bthen P4 B5
    go_wp2_with fail
    refine (kI.out _ (ET_below hgH.out P5)).mono ?_
    rintro e6 w6 ⟨rfl, B6⟩
    have P6 := bthen P5 B6
    go_wp2_with fail
    refine (kC.out _ (ET_below hgH.out P6)).mono ?_
    rintro e7 w7 ⟨rfl, B7⟩
    have P7 := bthen P6 B7
    clear B3 B4 B5 B6 B7 P4 P5 P6
    go_wp2_with fail
    refine (kS.out _ (hEH.out.below P7) (ML.below hMH.out P7) (ET_below hgH.out P7)).mono ?_
    rintro e8 w8 ⟨⟨X, Y, rfl, hXY⟩, B8⟩
    have P8 := bthen P7 B8
    go_wp2_with fail
    refine (live1_any _ (ET_below hgH.out P8)).mono ?_
    rintro e9 w9 ⟨rfl, B9⟩
    have P9 := bthen P8 B9
    rcases hXY with ⟨te, pe, rfl⟩ | ⟨rfl, hpr⟩
    · go_wp2_with fail
      go_ret
      exact ⟨rfl, P9⟩
    · have hprH : Hid _ := hpr
      clear hpr
      go_wp2_with fail
      refine (hprH.out _ (hEH.out.below P9) (ET_below hgH.out P9)).mono ?_
      rintro e10 w10 ⟨rfl, B10⟩
      have P10 := bthen P9 B10
      go_wp2_with fail
      go_ret
      exact ⟨rfl, P10⟩
end Go.Proofs.YtiakecenmenpiaaDoor
