
import Derived.Test.YtbojljmacheccaaGreatDoorRows
import Derived.Test.YtbojljmacheccaaGreatDoorLaD
import Derived.ProofKit
import Derived.Lib.LaidU8
import Derived.Lib.LaidTab
namespace Go.Proofs.YtbojljmacheccaaGreatDoor.Ln
open Go.ChangeShapes Go.WideShapes Go.ChangeAt Go.RowKit
set_option linter.unusedVariables false
set_option linter.unusedSimpArgs false
theorem iface_of_trod {P : Program} {w : World} {fuel : Nat} {t : TypeId} {k : TypeDesc} {cs : List Value} {s : String} {d : DataW Unit} {p : List MemPlace} {ms}
    (ht : P.underlying t = some (.interface ms)) (h : DataW.trod (fun _ => ()) P w 0 (fun _ => true) false fuel t cs = some (.iface s d, p)) : ∃ te pe, cs = [.iface te pe] := by
  cases fuel with
  | zero => simp [DataW.trod] at h
  | succ fuel =>
    rcases cs with _ | ⟨c, _ | ⟨c', r⟩⟩
    · simp [DataW.trod, ht] at h
    · cases c <;> simp [DataW.trod, ht] at h
      exact ⟨_, _, rfl⟩
    · simp [DataW.trod, ht] at h
theorem syn_global : Tryz.prog.globalNamed "strconv.ErrSyntax" = some 7 := by kernel_rfl
theorem rng_global : Tryz.prog.globalNamed "strconv.ErrRange" = some 8 := by kernel_rfl
theorem syn_type : (Tryz.prog.globals[7]?).map (·.type) = some 26 := by kernel_rfl
theorem rng_type : (Tryz.prog.globals[8]?).map (·.type) = some 26 := by kernel_rfl
theorem syn_of {W : World} (h : Lib.VarReads Tryz.prog W "strconv.ErrSyntax" Rows.laid_strconv_ErrSyntax) : ∃ ev, W.cell? ⟨7, 0, none⟩ = some ev ∧ (ev = .nilIface ∨ ∃ te pe, ev = .iface te pe) := by
  obtain ⟨g2, t2, cs2, f2, p2, hg2, ht2, hv2, hd2⟩ := h
  obtain rfl := Option.some.inj (syn_global.symm.trans hg2)
  obtain rfl := Option.some.inj (syn_type.symm.trans ht2)
  obtain ⟨te, pe, hcs⟩ := iface_of_trod (k := .string) Tryz.underlying26 hd2
  have h0 := World.var?_cell syn_global hv2 0
  refine ⟨.iface te pe, ?_, Or.inr ⟨te, pe, rfl⟩⟩
  rw [h0, ← Array.getElem?_toList, hcs]; rfl
theorem rng_of {W : World} (h : Lib.VarReads Tryz.prog W "strconv.ErrRange" Rows.laid_strconv_ErrRange) : ∃ ev, W.cell? ⟨8, 0, none⟩ = some ev ∧ (ev = .nilIface ∨ ∃ te pe, ev = .iface te pe) := by
  obtain ⟨g2, t2, cs2, f2, p2, hg2, ht2, hv2, hd2⟩ := h
  obtain rfl := Option.some.inj (rng_global.symm.trans hg2)
  obtain rfl := Option.some.inj (rng_type.symm.trans ht2)
  obtain ⟨te, pe, hcs⟩ := iface_of_trod (k := .string) Tryz.underlying26 hd2
  have h0 := World.var?_cell rng_global hv2 0
  refine ⟨.iface te pe, ?_, Or.inr ⟨te, pe, rfl⟩⟩
  rw [h0, ← Array.getElem?_toList, hcs]; rfl
theorem pow_global : Tryz.prog.globalNamed "internal/strconv.uint64pow10" = some 2 := by kernel_rfl
theorem pow_type : (Tryz.prog.globals[2]?).map (·.type) = some 290 := by kernel_rfl
theorem lt_of {W : World} (hE : ET W) (h : Lib.VarReads Tryz.prog W "internal/strconv.uint64pow10" Rows.laid_internal_strconv_uint64pow10) (r : Lib.VarReads Tryz.prog W "strconv.ErrRange" Rows.laid_strconv_ErrRange) (s : Lib.VarReads Tryz.prog W "strconv.ErrSyntax" Rows.laid_strconv_ErrSyntax) : LT W := by
  have hp : Lib.TabIs Tryz.prog W "internal/strconv.uint64pow10" .u64 Lib.pow10Tab := by
    obtain ⟨g2, t2, cs2, f2, p2, hg2, ht2, hv2, hd2⟩ := h
    obtain rfl := Option.some.inj (pow_global.symm.trans hg2)
    obtain rfl := Option.some.inj (pow_type.symm.trans ht2)
    have hd2' : DataW.trod (fun _ => ()) Tryz.prog W 0 (fun _ => true) false f2 290 cs2.toList = some (Lib.tabData .u64 Lib.pow10Tab, p2) := hd2
    have e2 := Lib.cells_of_tab Tryz.underlying290 Tryz.underlying174 (by kernel_rfl) (by kernel_rfl) hd2'
    unfold Lib.TabIs
    rw [hv2, ← e2]
  obtain ⟨e1, c1, i1⟩ := syn_of s
  obtain ⟨e2, c2, i2⟩ := rng_of r
  exact ⟨hE, hp, ⟨e1, c1, i1⟩, World.block_lt_of_cell? _ _ c1, ⟨e2, c2, i2⟩, World.block_lt_of_cell? _ _ c2⟩
end Go.Proofs.YtbojljmacheccaaGreatDoor.Ln
