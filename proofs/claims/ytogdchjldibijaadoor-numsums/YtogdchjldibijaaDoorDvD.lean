
import Derived.Test.YtogdchjldibijaaDoorDvC
namespace Go.Proofs.YtogdchjldibijaaDoor
open Go.RowKit
set_option linter.unusedVariables false
set_option linter.unusedSimpArgs false
set_option maxRecDepth 100000 in
theorem rplus_any (hi lo n : Int) (h1 : I64 hi) (h2 : U64 lo) (hn : I64 n) (w : World) :
    Calls Tryd.prog 9 #[.agg #[.int .i64 hi, .int .u64 lo], .int .i64 n] w fun e w' => e = .returned (.agg #[.int .i64 (sH (wr (sv hi lo + n))), .int .u64 (sL (wr (sv hi lo + n)))]) ∧ Below w.heap.size w w' := by
  obtain ⟨U, hU⟩ : ∃ U, U = n % 18446744073709551616 := ⟨_, rfl⟩
  obtain ⟨Q, hQ⟩ : ∃ Q, Q = (lo + n) % 18446744073709551616 := ⟨_, rfl⟩
  have eU : IntKind.u64.wrap n = U := by rw [IntKind.wrap_u64, hU]
  have eQ : IntKind.u64.wrap (lo + U) = Q := by rw [IntKind.wrap_u64, hQ, hU]; omega
  have hQ2 : U64 Q := by unfold U64; omega
  by_cases c1 : Q < lo
  · by_cases c2 : n < 0
    · skip
      have es : sv hi lo + n = sv (hi + 0) Q := by rw [hQ]; rw [hQ] at hQ2; unfold I64 at hn; unfold U64 at h2; unfold sv; omega
      have eh : sH (wr (sv hi lo + n)) = wrap64 (wrap64 (hi + 1) - 1) := by rw [es, sH_wr _ _ hQ2] <;> (unfold I64 at h1; unfold wrap64; omega)
      have el : sL (wr (sv hi lo + n)) = Q := by rw [es, sL_wr _ _ hQ2]
      rw [eh, el]
      clear es eh el hQ hU
      go_enter Tryd.func9, Tryd.ntmps9
      go_wp2_with fail
      simp [bodyPost, results, Tryd.results9, go_sem]
      exact below_new (below_new (below_new (Below.refl _ _) _) _) _
    · skip
      have es : sv hi lo + n = sv (hi + 1) Q := by rw [hQ]; rw [hQ] at hQ2; unfold I64 at hn; unfold U64 at h2; unfold sv; omega
      have eh : sH (wr (sv hi lo + n)) = wrap64 (hi + 1) := by rw [es, sH_wr _ _ hQ2] <;> (unfold I64 at h1; unfold wrap64; omega)
      have el : sL (wr (sv hi lo + n)) = Q := by rw [es, sL_wr _ _ hQ2]
      rw [eh, el]
      clear es eh el hQ hU
      go_enter Tryd.func9, Tryd.ntmps9
      go_wp2_with fail
      simp [bodyPost, results, Tryd.results9, go_sem]
      exact below_new (below_new (below_new (Below.refl _ _) _) _) _
  · by_cases c2 : n < 0
    · skip
      have es : sv hi lo + n = sv (hi + (-1)) Q := by rw [hQ]; rw [hQ] at hQ2; unfold I64 at hn; unfold U64 at h2; unfold sv; omega
      have eh : sH (wr (sv hi lo + n)) = wrap64 (hi - 1) := by rw [es, sH_wr _ _ hQ2] <;> (unfold I64 at h1; unfold wrap64; omega)
      have el : sL (wr (sv hi lo + n)) = Q := by rw [es, sL_wr _ _ hQ2]
      rw [eh, el]
      clear es eh el hQ hU
      go_enter Tryd.func9, Tryd.ntmps9
      go_wp2_with fail
      simp [bodyPost, results, Tryd.results9, go_sem]
      exact below_new (below_new (below_new (Below.refl _ _) _) _) _
    · skip
      have es : sv hi lo + n = sv (hi + 0) Q := by rw [hQ]; rw [hQ] at hQ2; unfold I64 at hn; unfold U64 at h2; unfold sv; omega
      have eh : sH (wr (sv hi lo + n)) = hi := by rw [es, sH_wr _ _ hQ2] <;> (unfold I64 at h1; unfold wrap64; omega)
      have el : sL (wr (sv hi lo + n)) = Q := by rw [es, sL_wr _ _ hQ2]
      rw [eh, el]
      clear es eh el hQ hU
      go_enter Tryd.func9, Tryd.ntmps9
      go_wp2_with fail
      simp [bodyPost, results, Tryd.results9, go_sem]
      exact below_new (below_new (below_new (Below.refl _ _) _) _) _
set_option maxRecDepth 100000 in
theorem rminus_any (hi lo n : Int) (h1 : I64 hi) (h2 : U64 lo) (hn : I64 n) (w : World) :
    Calls Tryd.prog 11 #[.agg #[.int .i64 hi, .int .u64 lo], .int .i64 n] w fun e w' => e = .returned (.agg #[.int .i64 (sH (wr (sv hi lo - n))), .int .u64 (sL (wr (sv hi lo - n)))]) ∧ Below w.heap.size w w' := by
  obtain ⟨U, hU⟩ : ∃ U, U = n % 18446744073709551616 := ⟨_, rfl⟩
  obtain ⟨Q, hQ⟩ : ∃ Q, Q = (lo - n) % 18446744073709551616 := ⟨_, rfl⟩
  have eU : IntKind.u64.wrap n = U := by rw [IntKind.wrap_u64, hU]
  have eQ : IntKind.u64.wrap (lo - U) = Q := by rw [IntKind.wrap_u64, hQ, hU]; omega
  have hQ2 : U64 Q := by unfold U64; omega
  by_cases c1 : lo < U
  · by_cases c2 : n < 0
    · skip
      have es : sv hi lo - n = sv (hi + 0) Q := by rw [hQ]; rw [hQ] at hQ2; unfold I64 at hn; unfold U64 at h2; unfold sv; omega
      have eh : sH (wr (sv hi lo - n)) = wrap64 (wrap64 (hi - 1) + 1) := by rw [es, sH_wr _ _ hQ2] <;> (unfold I64 at h1; unfold wrap64; omega)
      have el : sL (wr (sv hi lo - n)) = Q := by rw [es, sL_wr _ _ hQ2]
      rw [eh, el]
      clear es eh el hQ hU
      go_enter Tryd.func11, Tryd.ntmps11
      go_wp2_with fail
      simp [bodyPost, results, Tryd.results11, go_sem]
      exact below_new (below_new (below_new (Below.refl _ _) _) _) _
    · skip
      have es : sv hi lo - n = sv (hi + (-1)) Q := by rw [hQ]; rw [hQ] at hQ2; unfold I64 at hn; unfold U64 at h2; unfold sv; omega
      have eh : sH (wr (sv hi lo - n)) = wrap64 (hi - 1) := by rw [es, sH_wr _ _ hQ2] <;> (unfold I64 at h1; unfold wrap64; omega)
      have el : sL (wr (sv hi lo - n)) = Q := by rw [es, sL_wr _ _ hQ2]
      rw [eh, el]
      clear es eh el hQ hU
      go_enter Tryd.func11, Tryd.ntmps11
      go_wp2_with fail
      simp [bodyPost, results, Tryd.results11, go_sem]
      exact below_new (below_new (below_new (Below.refl _ _) _) _) _
  · by_cases c2 : n < 0
    · skip
      have es : sv hi lo - n = sv (hi + 1) Q := by rw [hQ]; rw [hQ] at hQ2; unfold I64 at hn; unfold U64 at h2; unfold sv; omega
      have eh : sH (wr (sv hi lo - n)) = wrap64 (hi + 1) := by rw [es, sH_wr _ _ hQ2] <;> (unfold I64 at h1; unfold wrap64; omega)
      have el : sL (wr (sv hi lo - n)) = Q := by rw [es, sL_wr _ _ hQ2]
      rw [eh, el]
      clear es eh el hQ hU
      go_enter Tryd.func11, Tryd.ntmps11
      go_wp2_with fail
      simp [bodyPost, results, Tryd.results11, go_sem]
      exact below_new (below_new (below_new (Below.refl _ _) _) _) _
    · skip
      have es : sv hi lo - n = sv (hi + 0) Q := by rw [hQ]; rw [hQ] at hQ2; unfold I64 at hn; unfold U64 at h2; unfold sv; omega
      have eh : sH (wr (sv hi lo - n)) = hi := by rw [es, sH_wr _ _ hQ2] <;> (unfold I64 at h1; unfold wrap64; omega)
      have el : sL (wr (sv hi lo - n)) = Q := by rw [es, sL_wr _ _ hQ2]
      rw [eh, el]
      clear es eh el hQ hU
      go_enter Tryd.func11, Tryd.ntmps11
      go_wp2_with fail
      simp [bodyPost, results, Tryd.results11, go_sem]
      exact below_new (below_new (below_new (Below.refl _ _) _) _) _
set_option maxRecDepth 100000 in
theorem rcmp_any (ah al bh bl : Int) (h1 : U64 al) (h2 : U64 bl) (w : World) :
    Calls Tryd.prog 13 #[.agg #[.int .i64 ah, .int .u64 al], .agg #[.int .i64 bh, .int .u64 bl]] w fun e w' => e = .returned (.int .i64 (cmpI (sv ah al) (sv bh bl))) ∧ Below w.heap.size w w' := by
  by_cases c1 : ah < bh
  · have e : cmpI (sv ah al) (sv bh bl) = -1 := by unfold cmpI; rw [if_pos (by unfold U64 at h1 h2; unfold sv; omega)]
    rw [e]
    go_enter Tryd.func13, Tryd.ntmps13
    go_wp2_with fail
    go_ret
    exact ⟨rfl, below_new (below_new (Below.refl _ _) _) _⟩
  by_cases c2 : bh < ah
  · have e : cmpI (sv ah al) (sv bh bl) = 1 := by unfold cmpI; rw [if_neg (by unfold U64 at h1 h2; unfold sv; omega), if_pos (by unfold U64 at h1 h2; unfold sv; omega)]
    rw [e]
    go_enter Tryd.func13, Tryd.ntmps13
    go_wp2_with fail
    go_ret
    exact ⟨rfl, below_new (below_new (Below.refl _ _) _) _⟩
  obtain rfl : ah = bh := by omega
  by_cases c3 : al < bl
  · have e : cmpI (sv ah al) (sv ah bl) = -1 := by unfold cmpI; rw [if_pos (by unfold sv; omega)]
    rw [e]
    go_enter Tryd.func13, Tryd.ntmps13
    go_wp2_with fail
    go_ret
    exact ⟨rfl, below_new (below_new (Below.refl _ _) _) _⟩
  by_cases c4 : bl < al
  · have e : cmpI (sv ah al) (sv ah bl) = 1 := by unfold cmpI; rw [if_neg (by unfold sv; omega), if_pos (by unfold sv; omega)]
    rw [e]
    go_enter Tryd.func13, Tryd.ntmps13
    go_wp2_with fail
    go_ret
    exact ⟨rfl, below_new (below_new (Below.refl _ _) _) _⟩
  obtain rfl : al = bl := by omega
  have e : cmpI (sv ah al) (sv ah al) = 0 := by unfold cmpI; rw [if_neg (by omega), if_neg (by omega)]
  rw [e]
  go_enter Tryd.func13, Tryd.ntmps13
  go_wp2_with fail
  go_ret
  exact ⟨rfl, below_new (below_new (Below.refl _ _) _) _⟩
end Go.Proofs.YtogdchjldibijaaDoor
