
import Derived.Test.YtbojljmacheccaaGreatDoorChainF
import Derived.Deep.LoopGhost
namespace Go.Proofs.YtbojljmacheccaaGreatDoor
open Go.RowKit Go.Extern.Stop Go.Stop Go.Extern
set_option linter.unusedVariables false
set_option linter.unusedSimpArgs false

set_option maxRecDepth 100000 in
set_option maxHeartbeats 8000000 in
/-- errors.As(a chain, &t), where there is such a link. -/
theorem chain_I_hit (l : List (Bool × Int)) (c n : Int) (r : List (Bool × Int)) (hf : findK true l = some (n, r)) (tb to_ : Nat) (u v : Value) (w : World) (hg : ET w) (ht0 : w.cell? ⟨tb, to_, none⟩ = some u) (ht1 : w.cell? ⟨tb, to_ + 1, none⟩ = some v) (hf0 : w.frozen? ⟨tb, to_, none⟩ = false) (hf1 : w.frozen? ⟨tb, to_ + 1, none⟩ = false) :
    Calls Tryz.prog 37 #[errV l c, .iface 111 (.pointer (some ⟨tb, to_, none⟩))] w fun ev w' => ev = .returned (.bool true) ∧ ∃ w1, Below w.heap.size w w1 ∧ w' = (w1.setCell ⟨tb, to_, none⟩ (.int .i64 n)).setCell ⟨tb, to_ + 1, none⟩ (errV r c) := by
  have HF : Hid (findK true l = some (n, r)) := hf
  clear hf
  have hlt := ET_lt hg
  unfold ET at hg
  have h1 := ext_valueOf; have h2 := ext_type; have h3 := ext_isNil; have h4 := ext_kind; have h5 := ext_telem; have h6 := ext_implements; have h7 := ext_typeOf; have h8 := ext_assignable; have h9 := ext_velem; have h10 := ext_set
  have mA := methodAssignableTo
  have f6 := valueOfPI
  have f7 := typePI
  have mK := methodKind
  have mE := methodElem
  have mI := methodImplements
  have k27 := kindPI
  have k25 := kindI
  have e27 := elemPI
  have i25 := implementsI
  have n8 := isNilPI ⟨w.heap.size, 0, none⟩ ⟨tb, to_, none⟩ ((w.alloc (.cells #[.pointer (some ⟨tb, to_, none⟩)] 111)).alloc (.cells #[.pointer (some ⟨9, 111, none⟩), .pointer (some ⟨w.heap.size, 0, none⟩), .int .u64 150] 151)) (by simp)
  have hg2 : ((w.alloc (.cells #[.pointer (some ⟨tb, to_, none⟩)] 111)).alloc (.cells #[.pointer (some ⟨9, 111, none⟩), .pointer (some ⟨w.heap.size, 0, none⟩), .int .u64 150] 151)).cell? ⟨0, 0, none⟩ = some (.iface 260 (.agg #[.pointer (some ⟨9, 26, none⟩)])) := by
    rw [World.cell?_alloc_lt _ _ ⟨0, 0, none⟩ (by simp <;> omega), World.cell?_alloc_lt _ _ ⟨0, 0, none⟩ hlt]; exact hg
  have htl : tb < w.heap.size := by
    rcases Nat.lt_or_ge tb w.heap.size with h | h
    · exact h
    · simp [World.cell?, Array.getElem?_eq_none h] at ht0
  have enn := errV_notnil l c
  have egd := errV_guard l c
  go_enter Tryz.func37, Tryz.ntmps37
  go_wp2
  go_loopg [0] l.length (fun k x wx => ∃ l', x = errV l' c ∧ k = l'.length ∧ Hid (findK true l' = some (n, r)) ∧ Below (w.heap.size + 3) (((w.alloc (.cells #[.pointer (some ⟨tb, to_, none⟩)] 111)).alloc (.cells #[.pointer (some ⟨9, 111, none⟩), .pointer (some ⟨w.heap.size, 0, none⟩), .int .u64 150] 151)).alloc (.cells #[.pointer (some ⟨9, 111, none⟩), .pointer (some ⟨w.heap.size, 0, none⟩), .int .u64 150] 151)) wx)
  case atStart => exact ⟨l, rfl, rfl, HF, Below.refl _ _⟩
  case round =>
    obtain ⟨l', rfl, rfl, HG, hB⟩ := hrel
    have hs : w.heap.size + 3 ≤ wr.heap.size := by have := hB.size; simp at this; omega
    have hBw : Below w.heap.size w wr := (below_new (below_new (below_new (Below.refl _ _) _) _) _).trans (hB.mono (by omega))
    have x0 : wr.cell? ⟨w.heap.size, 0, none⟩ = some (.pointer (some ⟨tb, to_, none⟩)) := by rw [hB.cell (p := ⟨w.heap.size, 0, none⟩) (by simp)]; simp [go_sem, World.cell?_alloc_past]
    have y0 : wr.cell? ⟨w.heap.size + 1 + 1, 0, none⟩ = some (.pointer (some ⟨9, 111, none⟩)) := by rw [hB.cell (p := ⟨w.heap.size + 1 + 1, 0, none⟩) (by simp)]; simp [go_sem, World.cell?_alloc_past]
    have y1 : wr.cell? ⟨w.heap.size + 1 + 1, 1, none⟩ = some (.pointer (some ⟨w.heap.size, 0, none⟩)) := by rw [hB.cell (p := ⟨w.heap.size + 1 + 1, 1, none⟩) (by simp)]; simp [go_sem, World.cell?_alloc_past]
    have y2 : wr.cell? ⟨w.heap.size + 1 + 1, 2, none⟩ = some (.int .u64 150) := by rw [hB.cell (p := ⟨w.heap.size + 1 + 1, 2, none⟩) (by simp)]; simp [go_sem, World.cell?_alloc_past]
    have tcel : ∀ o, wr.cell? ⟨tb, o, none⟩ = w.cell? ⟨tb, o, none⟩ := fun o => by
      rw [hB.cell (p := ⟨tb, o, none⟩) (by simp; omega), World.cell?_alloc_lt _ _ ⟨tb, o, none⟩ (by simp; omega), World.cell?_alloc_lt _ _ ⟨tb, o, none⟩ (by simp; omega), World.cell?_alloc_lt _ _ ⟨tb, o, none⟩ htl]
    have tfro : ∀ o, wr.frozen? ⟨tb, o, none⟩ = w.frozen? ⟨tb, o, none⟩ := fun o => by
      rw [hB.frozen (p := ⟨tb, o, none⟩) (by simp; omega), World.frozen?_alloc_old _ _ ⟨tb, o, none⟩ (by simp; omega), World.frozen?_alloc_old _ _ ⟨tb, o, none⟩ (by simp; omega), World.frozen?_alloc_old _ _ ⟨tb, o, none⟩ (by simp; omega)]
    rcases l' with _ | ⟨⟨k, m⟩, rest⟩
    · exact absurd HG.out (by simp [findK])
    · have enr := errV_notnil rest c
      have egr := errV_guard rest c
      by_cases hk : k = true
      · subst hk
        have hfo := HG.out
        simp only [findK, if_true, Option.some.injEq, Prod.mk.injEq] at hfo
        obtain ⟨rfl, rfl⟩ := hfo
        simp only [errV]
        have tO := typeOfI
        have aE := assignableI
        have vE := valueOfI
        have el := elemVI ⟨w.heap.size, 0, none⟩ ⟨tb, to_, none⟩ wr x0
        have hlw : tb < wr.heap.size := by omega
        have st := setI tb to_ wr.heap.size (.int .i64 m) (errV rest c) u v (wr.alloc (.cells #[.int .i64 m, errV rest c] 107)) (by simp) (by simp) (by rw [World.cell?_alloc_lt _ _ ⟨tb, to_, none⟩ hlw, tcel]; exact ht0) (by rw [World.cell?_alloc_lt _ _ ⟨tb, to_ + 1, none⟩ hlw, tcel]; exact ht1) (by rw [World.frozen?_alloc_old _ _ ⟨tb, to_, none⟩ (by simp; omega), tfro]; exact hf0) (by rw [World.frozen?_alloc_old _ _ ⟨tb, to_ + 1, none⟩ (by simp; omega), tfro]; exact hf1) rfl (errV_one _ _)
        clear tcel tfro
        go_wp2
        go_ret
        refine ⟨rfl, wr.alloc (.cells #[.int .i64 m, errV rest c] 107), below_new hBw _, ?_⟩
        rw [World.setCell_alloc_past _ _ _ _ hlw, World.setCell_alloc_past _ _ _ _ (by simpa using hlw)]
      · have hk2 : k = false := by cases k <;> first | rfl | exact absurd rfl hk
        subst hk2
        have HH : Hid (findK true rest = some (n, r)) := (by have := HG.out; simpa [findK] using this : findK true rest = some (n, r))
        simp only [errV]
        have tO := typeOfA
        have aE := assignableAI
        have nA := noAsA
        have uA := unwrapsA
        have mU := methodUnwrapA
        clear tcel tfro
        go_wp2_with (go_at_call 235; refine (unwrapA _ _ _).mono ?_; rintro e w' ⟨rfl, rfl⟩)
        go_roundg rest.length
        case measure => simp
        case rel => exact ⟨rest, rfl, rfl, HH, hB.alloc (by omega) _⟩
end Go.Proofs.YtbojljmacheccaaGreatDoor

