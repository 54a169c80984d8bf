
import Derived.Test.YtcbcpncbekeoaaaDoorChainG
import Derived.Deep.LoopGhost
namespace Go.Proofs.YtcbcpncbekeoaaaDoor
open Go.RowKit Go.Extern.Stop Go.Stop Go.Extern
set_option linter.unusedVariables false
set_option linter.unusedSimpArgs false

set_option maxRecDepth 100000 in
set_option maxHeartbeats 8000000 in
/-- errors.As(a chain, &t), where there is no such link. -/
theorem chainW_A_miss (l : List (Nat × Int)) (b : Int ⊕ Nat) (hf : findW 0 l = none) (t : Addr) (w : World) (hg : ET w) :
    Calls Tryd.prog 24 #[errW l b, .iface 65 (.pointer (some t))] w fun ev w' => ev = .returned (.bool false) ∧ Below w.heap.size w w' := by
  have HF : Hid (findW 0 l = none) := hf
  clear hf
  have hlt := ET_lt hg
  unfold ET at hg
  have h1 := ext_valueOf; have h2 := ext_type; have h3 := ext_isNil; have h4 := ext_kind; have h5 := ext_telem; have h6 := ext_implements; have h7 := ext_typeOf; have h8 := ext_assignable; have h9 := ext_velem; have h10 := ext_set
  have mA := methodAssignableTo
  have f6 := valueOfPA
  have f7 := typePA
  have mK := methodKind
  have mE := methodElem
  have mI := methodImplements
  have k27 := kindPA
  have k25 := kindA
  have e27 := elemPA
  have i25 := implementsA
  have n8 := isNilPA ⟨w.heap.size, 0, none⟩ t ((w.alloc (.cells #[.pointer (some t)] 65)).alloc (.cells #[.pointer (some ⟨4, 65, none⟩), .pointer (some ⟨w.heap.size, 0, none⟩), .int .u64 150] 76)) (by simp)
  have hg2 : ((w.alloc (.cells #[.pointer (some t)] 65)).alloc (.cells #[.pointer (some ⟨4, 65, none⟩), .pointer (some ⟨w.heap.size, 0, none⟩), .int .u64 150] 76)).cell? ⟨0, 0, none⟩ = some (.iface 86 (.agg #[.pointer (some ⟨4, 27, none⟩)])) := by
    rw [World.cell?_alloc_lt _ _ ⟨0, 0, none⟩ (by simp <;> omega), World.cell?_alloc_lt _ _ ⟨0, 0, none⟩ hlt]; exact hg
  have enn := errW_notnil l b
  have egd := errW_guard l b
  go_enter Tryd.func24, Tryd.ntmps24
  go_wp2
  go_loopg [0] l.length (fun k x wx => ∃ l', x = errW l' b ∧ k = l'.length ∧ Hid (findW 0 l' = none) ∧ Below (w.heap.size + 3) (((w.alloc (.cells #[.pointer (some t)] 65)).alloc (.cells #[.pointer (some ⟨4, 65, none⟩), .pointer (some ⟨w.heap.size, 0, none⟩), .int .u64 150] 76)).alloc (.cells #[.pointer (some ⟨4, 65, none⟩), .pointer (some ⟨w.heap.size, 0, none⟩), .int .u64 150] 76)) wx)
  case atStart => exact ⟨l, rfl, rfl, HF, Below.refl _ _⟩
  case round =>
    obtain ⟨l', rfl, rfl, HG, hB⟩ := hrel
    have hs : w.heap.size + 3 ≤ wr.heap.size := by have := hB.size; simp at this; omega
    have hBw : Below w.heap.size w wr := (below_new (below_new (below_new (Below.refl _ _) _) _) _).trans (hB.mono (by omega))
    rcases l' with _ | ⟨⟨k, m⟩, rest⟩
    · cases b with
      | inl c =>
        simp only [errW]
        have tO := typeOfE
        have aE := assignableEA
        have nA := noAsE
        have nU := noUnwrapE
        have nUs := noUnwrapsE
        go_wp2
        go_ret
        exact ⟨rfl, hBw⟩
      | inr F =>
        simp only [errW]
        have tO := typeOfF
        have aE := assignableFA
        have nA := noAsF
        have nU := noUnwrapF
        have nUs := noUnwrapsF
        go_wp2
        go_ret
        exact ⟨rfl, hBw⟩
    · have enr := errW_notnil rest b
      have egr := errW_guard rest b
      rcases k with _ | _ | k
      · exact absurd HG.out (by simp [findW])
      · have HH : Hid (findW 0 rest = none) := (by have := HG.out; simpa [findW] using this : findW 0 rest = none)
        simp only [errW]
        have tO := typeOfI
        have aE := assignableIA
        have nA := noAsI
        have uA := unwrapsI
        have mU := methodUnwrapI
        go_wp2_with (go_at_call 72; refine (unwrapI _ _ _).mono ?_; rintro e w' ⟨rfl, rfl⟩)
        go_roundg rest.length
        case measure => simp
        case rel => exact ⟨rest, rfl, rfl, HH, hB.alloc (by omega) _⟩
      · have HH : Hid (findW 0 rest = none) := (by have := HG.out; simpa [findW] using this : findW 0 rest = none)
        simp only [errW]
        have tO := typeOfR
        have aE := assignableRA
        have nA := noAsR
        have uA := unwrapsR
        have mU := methodUnwrapR
        go_wp2_with (go_at_call 74; refine (unwrapR _ _).mono ?_; rintro e w' ⟨rfl, rfl⟩)
        go_roundg rest.length
        case measure => simp
        case rel => exact ⟨rest, rfl, rfl, HH, hB.alloc (by omega) _⟩
end Go.Proofs.YtcbcpncbekeoaaaDoor
