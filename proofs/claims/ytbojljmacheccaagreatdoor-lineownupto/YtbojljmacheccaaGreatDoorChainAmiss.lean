
import Derived.Test.YtbojljmacheccaaGreatDoorChainF
import Derived.Deep.LoopGhost
namespace Go.Proofs.YtbojljmacheccaaGreatDoor
open Go.RowKit Go.Extern.Stop Go.Stop Go.Extern
set_option linter.unusedVariables false
set_option linter.unusedSimpArgs false

set_option maxRecDepth 100000 in
set_option maxHeartbeats 8000000 in
/-- errors.As(a chain, &t), where there is no such link. -/
theorem chain_A_miss (l : List (Bool × Int)) (c : Int) (hf : findK false l = none) (t : Addr) (w : World) (hg : ET w) :
    Calls Tryz.prog 37 #[errV l c, .iface 110 (.pointer (some t))] w fun ev w' => ev = .returned (.bool false) ∧ Below w.heap.size w w' := by
  have HF : Hid (findK false l = none) := hf
  clear hf
  have hlt := ET_lt hg
  unfold ET at hg
  have h1 := ext_valueOf; have h2 := ext_type; have h3 := ext_isNil; have h4 := ext_kind; have h5 := ext_telem; have h6 := ext_implements; have h7 := ext_typeOf; have h8 := ext_assignable; have h9 := ext_velem; have h10 := ext_set
  have mA := methodAssignableTo
  have f6 := valueOfPA
  have f7 := typePA
  have mK := methodKind
  have mE := methodElem
  have mI := methodImplements
  have k27 := kindPA
  have k25 := kindA
  have e27 := elemPA
  have i25 := implementsA
  have n8 := isNilPA ⟨w.heap.size, 0, none⟩ t ((w.alloc (.cells #[.pointer (some t)] 110)).alloc (.cells #[.pointer (some ⟨9, 110, none⟩), .pointer (some ⟨w.heap.size, 0, none⟩), .int .u64 150] 151)) (by simp)
  have hg2 : ((w.alloc (.cells #[.pointer (some t)] 110)).alloc (.cells #[.pointer (some ⟨9, 110, none⟩), .pointer (some ⟨w.heap.size, 0, none⟩), .int .u64 150] 151)).cell? ⟨0, 0, none⟩ = some (.iface 260 (.agg #[.pointer (some ⟨9, 26, none⟩)])) := by
    rw [World.cell?_alloc_lt _ _ ⟨0, 0, none⟩ (by simp <;> omega), World.cell?_alloc_lt _ _ ⟨0, 0, none⟩ hlt]; exact hg
  have enn := errV_notnil l c
  have egd := errV_guard l c
  go_enter Tryz.func37, Tryz.ntmps37
  go_wp2
  go_loopg [0] l.length (fun k x wx => ∃ l', x = errV l' c ∧ k = l'.length ∧ Hid (findK false l' = none) ∧ Below (w.heap.size + 3) (((w.alloc (.cells #[.pointer (some t)] 110)).alloc (.cells #[.pointer (some ⟨9, 110, none⟩), .pointer (some ⟨w.heap.size, 0, none⟩), .int .u64 150] 151)).alloc (.cells #[.pointer (some ⟨9, 110, none⟩), .pointer (some ⟨w.heap.size, 0, none⟩), .int .u64 150] 151)) wx)
  case atStart => exact ⟨l, rfl, rfl, HF, Below.refl _ _⟩
  case round =>
    obtain ⟨l', rfl, rfl, HG, hB⟩ := hrel
    have hs : w.heap.size + 3 ≤ wr.heap.size := by have := hB.size; simp at this; omega
    have hBw : Below w.heap.size w wr := (below_new (below_new (below_new (Below.refl _ _) _) _) _).trans (hB.mono (by omega))
    rcases l' with _ | ⟨⟨k, m⟩, rest⟩
    · simp only [errV]
      have tO := typeOfE
      have aE := assignableEA
      have nA := noAsE
      have nU := noUnwrapE
      have nUs := noUnwrapsE
      go_wp2
      go_ret
      exact ⟨rfl, hBw⟩
    · have enr := errV_notnil rest c
      have egr := errV_guard rest c
      by_cases hk : k = false
      · subst hk
        exact absurd HG.out (by simp [findK])
      · have hk2 : k = true := by cases k <;> first | rfl | exact absurd rfl hk
        subst hk2
        have HH : Hid (findK false rest = none) := (by have := HG.out; simpa [findK] using this : findK false rest = none)
        simp only [errV]
        have tO := typeOfI
        have aE := assignableIA
        have nA := noAsI
        have uA := unwrapsI
        have mU := methodUnwrapI
        go_wp2_with (go_at_call 237; refine (unwrapI _ _ _).mono ?_; rintro e w' ⟨rfl, rfl⟩)
        go_roundg rest.length
        case measure => simp
        case rel => exact ⟨rest, rfl, rfl, HH, hB.alloc (by omega) _⟩
end Go.Proofs.YtbojljmacheccaaGreatDoor

