
import Derived.Test.YtiakecenmenpiaaGreatDoorRows
import Derived.Test.YtiakecenmenpiaaGreatDoorFnC
import Derived.ProofKit
import Derived.Lib.LaidTab
namespace Go.Proofs.YtiakecenmenpiaaGreatDoor
open Go.RowKit
set_option linter.unusedVariables false
theorem iface_of_trod {P : Program} {w : World} {fuel : Nat} {t : TypeId} {k : TypeDesc} {cs : List Value} {s : String} {d : DataW Unit} {p : List MemPlace} {ms}
    (ht : P.underlying t = some (.interface ms)) (h : DataW.trod (fun _ => ()) P w 0 (fun _ => true) false fuel t cs = some (.iface s d, p)) : ∃ te pe, cs = [.iface te pe] := by
  cases fuel with
  | zero => simp [DataW.trod] at h
  | succ fuel =>
    rcases cs with _ | ⟨c, _ | ⟨c', r⟩⟩
    · simp [DataW.trod, ht] at h
    · cases c <;> simp [DataW.trod, ht] at h
      exact ⟨_, _, rfl⟩
    · simp [DataW.trod, ht] at h
theorem pow_global : Tryz.prog.globalNamed "internal/strconv.uint64pow10" = some 4 := by kernel_rfl
theorem pow_type : (Tryz.prog.globals[4]?).map (·.type) = some 142 := by kernel_rfl
theorem syn_global : Tryz.prog.globalNamed "strconv.ErrSyntax" = some 1 := by kernel_rfl
theorem rng_global : Tryz.prog.globalNamed "strconv.ErrRange" = some 2 := by kernel_rfl
theorem syn_type : (Tryz.prog.globals[1]?).map (·.type) = some 23 := by kernel_rfl
theorem rng_type : (Tryz.prog.globals[2]?).map (·.type) = some 23 := by kernel_rfl
theorem EV_of_laid {W : World} (h : laidMet Tryz.prog [("math/bits.deBruijn32tab", Rows.laid_math_bits_deBruijn32tab), ("math/bits.deBruijn64tab", Rows.laid_math_bits_deBruijn64tab), ("internal/strconv.uint64pow10", Rows.laid_internal_strconv_uint64pow10), ("strconv.ErrRange", Rows.laid_strconv_ErrRange), ("strconv.ErrSyntax", Rows.laid_strconv_ErrSyntax)] W) : EV W := by
  obtain ⟨ps, ⟨_, _, _, _, _, _, _, _, _, _, ⟨_, _, _, _, _, _, _, _, _, _, ⟨g2, t2, cs2, f2, p2, q2, hg2, ht2, hv2, hd2, ⟨g3, t3, cs3, f3, p3, q3, hg3, ht3, hv3, hd3, ⟨g4, t4, cs4, f4, p4, q4, hg4, ht4, hv4, hd4, _, _⟩, _⟩, _⟩, _⟩, _⟩, _⟩ := h
  obtain rfl := Option.some.inj (pow_global.symm.trans hg2)
  obtain rfl := Option.some.inj (pow_type.symm.trans ht2)
  obtain rfl := Option.some.inj (rng_global.symm.trans hg3)
  obtain rfl := Option.some.inj (rng_type.symm.trans ht3)
  obtain rfl := Option.some.inj (syn_global.symm.trans hg4)
  obtain rfl := Option.some.inj (syn_type.symm.trans ht4)
  have hd2' : DataW.trod (fun _ => ()) Tryz.prog W 0 (fun _ => true) false f2 142 cs2.toList = some (Lib.tabData .u64 Lib.pow10Tab, p2) := hd2
  have e2 := Lib.cells_of_tab Tryz.underlying142 Tryz.underlying121 (by kernel_rfl) (by kernel_rfl) hd2'
  refine ⟨?_, ?_, ?_⟩
  · unfold Lib.TabIs
    rw [hv2, ← e2]
  · obtain ⟨te, pe, hcs⟩ := iface_of_trod (k := .string) Tryz.underlying23 hd4
    have h0 := World.var?_cell syn_global hv4 0
    refine ⟨.iface te pe, ?_, Or.inr ⟨te, pe, rfl⟩⟩
    rw [h0, ← Array.getElem?_toList, hcs]; rfl
  · obtain ⟨te, pe, hcs⟩ := iface_of_trod (k := .string) Tryz.underlying23 hd3
    have h0 := World.var?_cell rng_global hv3 0
    refine ⟨.iface te pe, ?_, Or.inr ⟨te, pe, rfl⟩⟩
    rw [h0, ← Array.getElem?_toList, hcs]; rfl
end Go.Proofs.YtiakecenmenpiaaGreatDoor
