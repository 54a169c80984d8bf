
import Derived.Test.YtcbcpncbekeoaaaDoorRows
import Derived.Test.YtcbcpncbekeoaaaDoorFnC
import Derived.ProofKit
import Derived.Lib.LaidTab
namespace Go.Proofs.YtcbcpncbekeoaaaDoor
open Go.RowKit
set_option linter.unusedVariables false
theorem pow_global : Tryd.prog.globalNamed "internal/strconv.uint64pow10" = some 1 := by kernel_rfl
theorem pow_type : (Tryd.prog.globals[1]?).map (·.type) = some 111 := by kernel_rfl
theorem EV_of_laid {W : World} (h : laidMet Tryd.prog [("math/bits.deBruijn32tab", Rows.laid_math_bits_deBruijn32tab), ("math/bits.deBruijn64tab", Rows.laid_math_bits_deBruijn64tab), ("internal/strconv.uint64pow10", Rows.laid_internal_strconv_uint64pow10)] W) : EV W := by
  obtain ⟨ps, ⟨_, _, _, _, _, _, _, _, _, _, ⟨_, _, _, _, _, _, _, _, _, _, ⟨g2, t2, cs2, f2, p2, q2, hg2, ht2, hv2, hd2, _, _⟩, _⟩, _⟩, _⟩ := h
  obtain rfl := Option.some.inj (pow_global.symm.trans hg2)
  obtain rfl := Option.some.inj (pow_type.symm.trans ht2)
  have hd2' : DataW.trod (fun _ => ()) Tryd.prog W 0 (fun _ => true) false f2 111 cs2.toList = some (Lib.tabData .u64 Lib.pow10Tab, p2) := hd2
  have e2 := Lib.cells_of_tab Tryd.underlying111 Tryd.underlying103 (by kernel_rfl) (by kernel_rfl) hd2'
  refine ⟨?_⟩
  unfold Lib.TabIs
  rw [hv2, ← e2]
end Go.Proofs.YtcbcpncbekeoaaaDoor
