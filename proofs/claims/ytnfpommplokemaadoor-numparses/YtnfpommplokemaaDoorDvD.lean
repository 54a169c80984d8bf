
import Derived.Test.YtnfpommplokemaaDoorDvC
namespace Go.Proofs.YtnfpommplokemaaDoor
open Go.RowKit
set_option linter.unusedVariables false
set_option linter.unusedSimpArgs false
set_option maxRecDepth 100000 in
theorem rplus_any (hi lo n : Int) (h1 : I64 hi) (h2 : U64 lo) (hn : I64 n) (w : World) :
    Calls Tryd.prog 20 #[.agg #[.int .i64 hi, .int .u64 lo], .int .i64 n] w fun e w' => e = .returned (.agg #[.int .i64 (sH (wr (sv hi lo + n))), .int .u64 (sL (wr (sv hi lo + n)))]) ∧ Below w.heap.size w w' := by
  obtain ⟨U, hU⟩ : ∃ U, U = n % 18446744073709551616 := ⟨_, rfl⟩
  obtain ⟨Q, hQ⟩ : ∃ Q, Q = (lo + n) % 18446744073709551616 := ⟨_, rfl⟩
  have eU : IntKind.u64.wrap n = U := by rw [IntKind.wrap_u64, hU]
  have eQ : IntKind.u64.wrap (lo + U) = Q := by rw [IntKind.wrap_u64, hQ, hU]; omega
  have hQ2 : U64 Q := by unfold U64; omega
  by_cases c1 : Q < lo
  · by_cases c2 : n < 0
    · skip
      have es : sv hi lo + n = sv (hi + 0) Q := by rw [hQ]; rw [hQ] at hQ2; unfold I64 at hn; unfold U64 at h2; unfold sv; omega
      have eh : sH (wr (sv hi lo + n)) = wrap64 (wrap64 (hi + 1) - 1) := by rw [es, sH_wr _ _ hQ2] <;> (unfold I64 at h1; unfold wrap64; omega)
      have el : sL (wr (sv hi lo + n)) = Q := by rw [es, sL_wr _ _ hQ2]
      rw [eh, el]
      clear es eh el hQ hU
      go_enter Tryd.func20, Tryd.ntmps20
      go_wp2_with fail
      simp [bodyPost, results, Tryd.results20, go_sem]
      exact below_new (below_new (below_new (Below.refl _ _) _) _) _
    · skip
      have es : sv hi lo + n = sv (hi + 1) Q := by rw [hQ]; rw [hQ] at hQ2; unfold I64 at hn; unfold U64 at h2; unfold sv; omega
      have eh : sH (wr (sv hi lo + n)) = wrap64 (hi + 1) := by rw [es, sH_wr _ _ hQ2] <;> (unfold I64 at h1; unfold wrap64; omega)
      have el : sL (wr (sv hi lo + n)) = Q := by rw [es, sL_wr _ _ hQ2]
      rw [eh, el]
      clear es eh el hQ hU
      go_enter Tryd.func20, Tryd.ntmps20
      go_wp2_with fail
      simp [bodyPost, results, Tryd.results20, go_sem]
      exact below_new (below_new (below_new (Below.refl _ _) _) _) _
  · by_cases c2 : n < 0
    · skip
      have es : sv hi lo + n = sv (hi + (-1)) Q := by rw [hQ]; rw [hQ] at hQ2; unfold I64 at hn; unfold U64 at h2; unfold sv; omega
      have eh : sH (wr (sv hi lo + n)) = wrap64 (hi - 1) := by rw [es, sH_wr _ _ hQ2] <;> (unfold I64 at h1; unfold wrap64; omega)
      have el : sL (wr (sv hi lo + n)) = Q := by rw [es, sL_wr _ _ hQ2]
      rw [eh, el]
      clear es eh el hQ hU
      go_enter Tryd.func20, Tryd.ntmps20
      go_wp2_with fail
      simp [bodyPost, results, Tryd.results20, go_sem]
      exact below_new (below_new (below_new (Below.refl _ _) _) _) _
    · skip
      have es : sv hi lo + n = sv (hi + 0) Q := by rw [hQ]; rw [hQ] at hQ2; unfold I64 at hn; unfold U64 at h2; unfold sv; omega
      have eh : sH (wr (sv hi lo + n)) = hi := by rw [es, sH_wr _ _ hQ2] <;> (unfold I64 at h1; unfold wrap64; omega)
      have el : sL (wr (sv hi lo + n)) = Q := by rw [es, sL_wr _ _ hQ2]
      rw [eh, el]
      clear es eh el hQ hU
      go_enter Tryd.func20, Tryd.ntmps20
      go_wp2_with fail
      simp [bodyPost, results, Tryd.results20, go_sem]
      exact below_new (below_new (below_new (Below.refl _ _) _) _) _
end Go.Proofs.YtnfpommplokemaaDoor
