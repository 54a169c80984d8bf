
import Derived.Test.YtcbcpncbekeoaaaDoorFnE
namespace Go.Proofs.YtcbcpncbekeoaaaDoor
open Go.RowKit
set_option linter.unusedVariables false
set_option linter.unusedSimpArgs false
theorem trim_size (T : ByteArray) : (⟨(Lib.trimPrefix T.data.toList errno6).toArray⟩ : ByteArray).size ≤ T.size := by
  rw [mk_size]
  have : T.data.toList.length = T.size := rfl
  unfold Lib.trimPrefix
  split
  · rw [List.length_drop]; omega
  · omega
end Go.Proofs.YtcbcpncbekeoaaaDoor
