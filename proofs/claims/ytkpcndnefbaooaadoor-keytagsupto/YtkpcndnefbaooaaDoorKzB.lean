
import Derived.Test.YtkpcndnefbaooaaDoorKzA
namespace Go.Proofs.YtkpcndnefbaooaaDoor
open Go.RowKit Go.Shelf
set_option linter.unusedVariables false
set_option linter.unusedSimpArgs false
theorem app_list (a b : ByteArray) : (a ++ b).data.toList = a.data.toList ++ b.data.toList := by simp [ByteArray.data_append]
def EI (s o : ByteArray) (k : Nat) : Prop := o.data.toList = escL (s.data.toList.take k)
theorem get_list (s : ByteArray) (k : Nat) (h : k < s.size) : s.data.toList[k]? = some (s.get! k) := by
  rw [← Lib.getD_get!', List.getD]
  have : k < s.data.toList.length := by rw [← Lib.size_eq]; exact h
  rw [List.getElem?_eq_getElem this]; rfl
theorem ext_one (s : ByteArray) (k : Nat) (h : k < s.size) : (s.extract k (k + 1)).data.toList = [s.get! k] := by
  rw [Lib.extract_data, show k + 1 - k = 1 by omega]
  have hg := get_list s k h
  have hl : k < s.data.toList.length := by rw [← Lib.size_eq]; exact h
  rw [List.getElem?_eq_getElem hl] at hg
  rw [List.drop_eq_getElem_cons hl, List.take_succ_cons, List.take_zero]
  rw [Option.some.inj hg]
theorem EI.next {s o : ByteArray} {k : Nat} (h : EI s o k) (hk : k < s.size) {o' : ByteArray} (ho : o'.data.toList = o.data.toList ++ (if mkL.contains (s.get! k) then [92, s.get! k] else [s.get! k])) : EI s o' (k + 1) := by
  unfold EI at *
  have hl : k < s.data.toList.length := by rw [← Lib.size_eq]; exact hk
  rw [ho, h, List.take_add_one, get_list s k hk]
  simp [escL]
theorem EI.size {s o : ByteArray} {k : Nat} (h : EI s o k) (hk : k ≤ s.size) : o.size ≤ 2 * k := by
  rw [Lib.size_eq, h]
  have := escL_len (s.data.toList.take k)
  rw [List.length_take] at this; omega
theorem EI.done {s o : ByteArray} {k : Nat} (h : EI s o k) (hk : s.size ≤ k) : o = ⟨(escL s.data.toList).toArray⟩ := by
  unfold EI at h
  rw [List.take_of_length_le (by rw [← Lib.size_eq]; exact hk)] at h
  rw [← h]
end Go.Proofs.YtkpcndnefbaooaaDoor
