import Derived.Test.YtncddkgdkooigaaDoorLive1
import Derived.Test.YtncddkgdkooigaaDoorMakesA
namespace Go.Proofs.YtncddkgdkooigaaDoor
open Go.RowKit
set_option linter.unusedVariables false
set_option linter.unusedSimpArgs false

def I64 (x : Int) : Prop := -9223372036854775808 ≤ x ∧ x < 9223372036854775808
def U64 (x : Int) : Prop := 0 ≤ x ∧ x < 18446744073709551616

set_option maxHeartbeats 4000000 in
theorem makes_zero (p i : Int) (w : World) (hg : ET w) : Calls Tryd.prog 3 #[.int .i64 0, .int .i64 p, .int .i64 i] w fun e w' => e = .returned (.bool true) ∧ Below w.heap.size w w' := by
  go_enter Tryd.func3, Tryd.ntmps3
  go_wp2_with fail
  refine (live1_any _ hg).mono ?_
  rintro e w1 ⟨rfl, hb⟩
  go_wp2_with fail
  refine (new_zero _).mono ?_
  rintro e w2 ⟨rfl, rfl⟩
  go_wp2_with fail
  refine (refnew 0 _).mono ?_
  rintro e w3 ⟨rfl, hc⟩
  replace hb := below_then hb hc
  clear hc
  go_wp2_with fail
  refine (same_nil _).mono ?_
  rintro e w4 ⟨rfl, hc⟩
  replace hb := below_then hb hc
  clear hc
  go_wp2_with fail
  refine (at_zero p _).mono ?_
  rintro e w5 ⟨rfl, rfl⟩
  go_wp2_with fail
  refine (refat_zero p _).mono ?_
  rintro e w6 ⟨rfl, hc⟩
  replace hb := below_then hb hc
  clear hc
  go_wp2_with fail
  refine (same_nil _).mono ?_
  rintro e w7 ⟨rfl, hc⟩
  replace hb := below_then hb hc
  clear hc
  go_wp2_with fail
  refine (new_zero _).mono ?_
  rintro e w8 ⟨rfl, rfl⟩
  go_wp2_with fail
  refine (in_nil i _).mono ?_
  rintro e w9 ⟨rfl, rfl⟩
  go_wp2_with fail
  refine (refnew 0 _).mono ?_
  rintro e w10 ⟨rfl, hc⟩
  replace hb := below_then hb hc
  clear hc
  go_wp2_with fail
  refine (refin_zero i _ _ _ _ _).mono ?_
  rintro e w11 ⟨rfl, hc⟩
  replace hb := below_then hb hc
  clear hc
  go_wp2_with fail
  refine (same_nil _).mono ?_
  rintro e w12 ⟨rfl, hc⟩
  replace hb := below_then hb hc
  clear hc
  go_wp2_with fail
  refine (at_zero p _).mono ?_
  rintro e w13 ⟨rfl, rfl⟩
  go_wp2_with fail
  refine (in_nil i _).mono ?_
  rintro e w14 ⟨rfl, rfl⟩
  go_wp2_with fail
  refine (refat_zero p _).mono ?_
  rintro e w15 ⟨rfl, hc⟩
  replace hb := below_then hb hc
  clear hc
  go_wp2_with fail
  refine (refin_zero i _ _ _ _ _).mono ?_
  rintro e w16 ⟨rfl, hc⟩
  replace hb := below_then hb hc
  clear hc
  go_wp2_with fail
  refine (same_nil _).mono ?_
  rintro e w17 ⟨rfl, hc⟩
  replace hb := below_then hb hc
  clear hc
  go_wp2_with fail
  refine (new_zero _).mono ?_
  rintro e w18 ⟨rfl, rfl⟩
  go_wp2_with fail
  refine (in_nil p _).mono ?_
  rintro e w19 ⟨rfl, rfl⟩
  go_wp2_with fail
  refine (in_nil i _).mono ?_
  rintro e w20 ⟨rfl, rfl⟩
  go_wp2_with fail
  refine (refnew 0 _).mono ?_
  rintro e w21 ⟨rfl, hc⟩
  replace hb := below_then hb hc
  clear hc
  go_wp2_with fail
  refine (refin_zero i _ _ _ _ _).mono ?_
  rintro e w22 ⟨rfl, hc⟩
  replace hb := below_then hb hc
  clear hc
  go_wp2_with fail
  refine (same_nil _).mono ?_
  rintro e w23 ⟨rfl, hc⟩
  replace hb := below_then hb hc
  clear hc
  go_wp2_with fail
  refine (in_nil i _).mono ?_
  rintro e w24 ⟨rfl, rfl⟩
  go_wp2
  go_ret
  exact ⟨rfl, hb⟩

set_option maxHeartbeats 4000000 in
theorem makes_any (c p i : Int) (h : (c == 0) = false) (w : World) (hg : ET w) : Calls Tryd.prog 3 #[.int .i64 c, .int .i64 p, .int .i64 i] w fun e w' => e = .returned (.bool true) ∧ Below w.heap.size w w' := by
  go_enter Tryd.func3, Tryd.ntmps3
  go_wp2_with fail
  refine (live1_any _ hg).mono ?_
  rintro e w1 ⟨rfl, hb⟩
  go_wp2_with fail
  refine (new_any c h _).mono ?_
  rintro e w2 ⟨rfl, rfl⟩
  go_wp2_with fail
  refine (refnew c _).mono ?_
  rintro e w3 ⟨rfl, hc⟩
  replace hb := below_then hb hc
  clear hc
  go_wp2_with fail
  refine (sameC_miss_miss [] c h rfl rfl _ (ET_below hg hb)).mono ?_
  rintro e w4 ⟨rfl, hc⟩
  replace hb := below_then hb hc
  clear hc
  go_wp2_with fail
  refine (at_any p c h _).mono ?_
  rintro e w5 ⟨rfl, rfl⟩
  go_wp2_with fail
  refine (refat p c h _).mono ?_
  rintro e w6 ⟨rfl, hc⟩
  replace hb := below_then hb hc
  clear hc
  go_wp2_with fail
  refine (sameC_hit_miss [(false, p)] c h p [] rfl rfl _ (ET_below hg hb)).mono ?_
  rintro e w7 ⟨rfl, hc⟩
  replace hb := below_then hb hc
  clear hc
  go_wp2_with fail
  refine (new_any c h _).mono ?_
  rintro e w8 ⟨rfl, rfl⟩
  go_wp2_with fail
  refine (in_chain i [] c _).mono ?_
  rintro e w9 ⟨rfl, rfl⟩
  go_wp2_with fail
  refine (refnew c _).mono ?_
  rintro e w10 ⟨rfl, hc⟩
  replace hb := below_then hb hc
  clear hc
  go_wp2_with fail
  refine (refin_any i c h _ _ _ _ _).mono ?_
  rintro e w11 ⟨rfl, hc⟩
  replace hb := below_then hb hc
  clear hc
  go_wp2_with fail
  refine (sameC_miss_hit [(true, i)] c h rfl i [] rfl _ (ET_below hg hb)).mono ?_
  rintro e w12 ⟨rfl, hc⟩
  replace hb := below_then hb hc
  clear hc
  go_wp2_with fail
  refine (at_any p c h _).mono ?_
  rintro e w13 ⟨rfl, rfl⟩
  go_wp2_with fail
  refine (in_chain i [(false, p)] c _).mono ?_
  rintro e w14 ⟨rfl, rfl⟩
  go_wp2_with fail
  refine (refat p c h _).mono ?_
  rintro e w15 ⟨rfl, hc⟩
  replace hb := below_then hb hc
  clear hc
  go_wp2_with fail
  refine (refin_any i c h _ _ _ _ _).mono ?_
  rintro e w16 ⟨rfl, hc⟩
  replace hb := below_then hb hc
  clear hc
  go_wp2_with fail
  refine (sameC_hit_hit [(true, i), (false, p)] c h p [] rfl i [(false, p)] rfl _ (ET_below hg hb)).mono ?_
  rintro e w17 ⟨rfl, hc⟩
  replace hb := below_then hb hc
  clear hc
  go_wp2_with fail
  refine (new_any c h _).mono ?_
  rintro e w18 ⟨rfl, rfl⟩
  go_wp2_with fail
  refine (in_chain p [] c _).mono ?_
  rintro e w19 ⟨rfl, rfl⟩
  go_wp2_with fail
  refine (in_chain i [(true, p)] c _).mono ?_
  rintro e w20 ⟨rfl, rfl⟩
  go_wp2_with fail
  refine (refnew c _).mono ?_
  rintro e w21 ⟨rfl, hc⟩
  replace hb := below_then hb hc
  clear hc
  go_wp2_with fail
  refine (refin_any i c h _ _ _ _ _).mono ?_
  rintro e w22 ⟨rfl, hc⟩
  replace hb := below_then hb hc
  clear hc
  go_wp2_with fail
  refine (sameC_miss_hit [(true, i), (true, p)] c h rfl i [(true, p)] rfl _ (ET_below hg hb)).mono ?_
  rintro e w23 ⟨rfl, hc⟩
  replace hb := below_then hb hc
  clear hc
  go_wp2_with fail
  refine (in_nil i _).mono ?_
  rintro e w24 ⟨rfl, rfl⟩
  go_wp2
  go_ret
  exact ⟨rfl, hb⟩

theorem faultMakes_walk (c p i : Int) (hc : I64 c) (hp : I64 p) (hi : I64 i) (w : World) (hg : ET w) : Calls Tryd.prog 3 #[.int .i64 c, .int .i64 p, .int .i64 i] w fun e w' => e = .returned (.bool true) ∧ Below w.heap.size w w' := by
  rcases Bool.eq_false_or_eq_true (c == 0) with h | h
  · obtain rfl : c = 0 := by simpa using h
    exact makes_zero p i w hg
  · exact makes_any c p i h w hg
end Go.Proofs.YtncddkgdkooigaaDoor
