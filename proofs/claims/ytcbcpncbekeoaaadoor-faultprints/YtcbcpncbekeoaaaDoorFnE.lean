
import Derived.Test.YtcbcpncbekeoaaaDoorFnD
import Derived.Test.YtcbcpncbekeoaaaDoorBase
import Derived.Deep.CutRange
namespace Go.Proofs.YtcbcpncbekeoaaaDoor
open Go.RowKit
set_option linter.unusedVariables false
set_option linter.unusedSimpArgs false
def I64' (n : Int) : Prop := -9223372036854775808 ≤ n ∧ n ≤ 9223372036854775807
/-- what Find tells of a text. -/
def FT (T : ByteArray) (e : Ending) : Prop :=
  (∃ n, I64' n ∧ nameS n = T ∧ e = .returned (.tuple #[.int .i64 n, .nilIface])) ∨
  ((∀ n, I64' n → nameS n ≠ T) ∧ e = .returned (.tuple #[.int .i64 0, .iface 22 (.int .i64 4)]))
theorem ba_eq {P T : ByteArray} (h : P.data.toList = T.data.toList) : P = T := by
  cases P; cases T; exact congrArg ByteArray.mk (Array.ext' h)
theorem ba_ne {P T : ByteArray} (h : P ≠ T) : (P.toList == T.toList) = false := by
  rw [beq_eq_false_iff_ne, ByteArray.toList_eq, ByteArray.toList_eq]
  exact fun e => h (ba_eq e)
theorem tab_small : ∀ p ∈ tab, 0 ≤ p.1 ∧ p.1 < 300 := fun p hp => ⟨(tab_facts p hp).2.2.1, (tab_facts p hp).2.2.2⟩
theorem hasP6 (x : List UInt8) : Lib.hasPrefix (errno6 ++ x) errno6 = true := by simp [errno6, Lib.hasPrefix]
theorem trim6 (x : List UInt8) : Lib.trimPrefix (errno6 ++ x) errno6 = x := by
  unfold Lib.trimPrefix; rw [if_pos (hasP6 x)]; simp [errno6]
/-- if a text is no name of the table, but a number's, Atoi of what follows 'errno ' is that number. -/
theorem long_atoi {T : ByteArray} (hno : ∀ p ∈ tab, p.2 ≠ T.data.toList) {n : Int} (hn : I64' n) (hT : nameS n = T) : Lib.atoiAll (⟨(Lib.trimPrefix T.data.toList errno6).toArray⟩ : ByteArray).data.toList = .ok n := by
  have h := name_long (n := n) hno (by rw [← nameS_list, hT])
  rw [h, trim6]
  exact atoi_itoa n hn.1 hn.2
end Go.Proofs.YtcbcpncbekeoaaaDoor
