
import Derived.Test.YtolpmedfaighhaaDoorAnyA
import Derived.Deep.RegionWith
namespace Go.Proofs.YtolpmedfaighhaaDoor
open Go.RowKit Go.Shelf
set_option linter.unusedVariables false
set_option linter.unusedSimpArgs false
theorem bool_info0 : (Tryd.prog.info? 4).map (fun i => (i.zero, i.bytes, i.size)) = some (some (.bool false), 1, 1) := by kernel_rfl
theorem make_used0 (w : World) : (Instr.makeSlice 51 (.int .i64 0) (.int .i64 0)).run Tryd.prog w = .ok (.slice (some ⟨w.heap.size, 0, none⟩) 0 0) (w.alloc (.cells (madeCells #[.bool false] 0) 4)) := by
  obtain ⟨i, h1, h0⟩ := Option.map_eq_some_iff.1 bool_info0
  have h2 : i.zero = some (.bool false) := congrArg (·.1) h0
  have h3 : i.bytes = 1 := congrArg (·.2.1) h0
  have h4 : i.size = 1 := congrArg (·.2.2) h0
  have := run_make (P := Tryd.prog) w 51 4 i (.bool false) Tryd.underlying51 h1 h2 .i64 .i64 0 0 (by omega) (by omega) (by rw [h3]; omega) (by omega)
  rw [h4] at this
  simpa [Value.cells] using this
set_option maxRecDepth 100000 in
set_option maxHeartbeats 8000000 in
theorem anyOrder_none (a : Option Addr) (cap : Nat) (ap : Option Addr) (lp cp : Nat) (y : Nat → Int) (w : World) (hlp : lp ≤ 9223372036854775807)
    (hperm : lp = 0 ∨ ∃ pb po, ap = some ⟨pb, po, none⟩ ∧ pb < w.heap.size ∧ ∀ i, i < lp → w.cell? ⟨pb, po + i, none⟩ = some (.int .i64 (y i))) (hg : ET w) :
    Calls Tryd.prog 6 #[.slice a 0 cap, .slice ap lp cp] w fun e w' => e = .returned (.bool true) ∧ Below w.heap.size w w' := by
  have hmk := make_used0
  have hperm' : Hid _ := hperm
  clear hperm
  go_enter Tryd.func6, Tryd.ntmps6
  go_wp2_with fail
  refine (live_any _ hg).mono ?_
  rintro e w1 ⟨rfl, hb1⟩
  go_wp2_with fail
  clear hmk
  have hI := AO.start w1 0 4
  generalize (((w1.alloc (.cells #[.int .i64 0, .int .u64 0] 24)).alloc (.cells #[.int .i64 0, .int .u64 0] 24)).alloc (.cells (madeCells #[.bool false] 0) 4)) = W at hI ⊢
  go_loopw [8] (fun i wr => i = .int .i64 0 ∧ AO w1.heap.size w1 0 0 0 (fun _ => false) wr) (fun i _ => 0)
  case atStart => exact ⟨rfl, hI⟩
  case round =>
    clear hI
    obtain ⟨rfl, hI⟩ := hrel
    go_wp2_with fail
    rcases hperm'.out with h0 | ⟨pb, po, hap, hpb, hpc⟩
    · subst h0
      go_loopw [11] (fun i wr => i = .int .i64 0 ∧ AO w1.heap.size w1 0 0 0 (fun _ => false) wr) (fun i _ => 0)
      case atStart => exact ⟨rfl, hI⟩
      case round =>
        clear hI
        obtain ⟨rfl, hI⟩ := hrel
        go_wp2_with fail
        go_loopw [12] (fun i wr => i = .int .i64 0 ∧ AO w1.heap.size w1 0 0 0 (fun _ => false) wr) (fun i _ => 0)
        case atStart => exact ⟨rfl, hI⟩
        case round =>
          clear hI
          obtain ⟨rfl, hI⟩ := hrel
          have a0 := hI.a0
          have a1 := hI.a1
          have b0 := hI.b0
          have b1 := hI.b1
          have hJ1 : Hid _ := hI
          clear hI
          go_wp2_with fail
          clear a0 a1 b0 b1
          go_loopw [13] (fun i wr => i = .int .i64 0 ∧ AO w1.heap.size w1 0 0 0 (fun _ => false) wr) (fun i _ => 0)
          case atStart => exact ⟨rfl, hJ1.out⟩
          case round =>
            clear hJ1
            obtain ⟨rfl, hJ⟩ := hrel
            have a0 := hJ.a0
            have a1 := hJ.a1
            have e1 : sH 0 = 0 := by unfold sH; omega
            have e2 : sL 0 = 0 := by unfold sL; omega
            rw [e1] at a0
            rw [e2] at a1
            have hB := hJ.b
            clear hJ
            go_wp2_with fail
            go_ret
            exact ⟨rfl, hb1.trans (hB.mono hb1.size)⟩
    · rw [hap]
      clear hap
      go_loopw [11] (fun i wr => ∃ (m : Nat), m ≤ lp ∧ i = .int .i64 m ∧ AO w1.heap.size w1 0 0 0 (fun _ => false) wr) (fun i _ => lp - (intOf i).toNat)
      case atStart => exact ⟨0, Nat.zero_le _, rfl, hI⟩
      case round =>
        clear hI
        obtain ⟨m, hm, rfl, hI⟩ := hrel
        by_cases hlt : m < lp
        · have hpl : pb < w1.heap.size := by have := hb1.size; omega
          have y0 : wr.cell? ⟨pb, po + m, none⟩ = some (.int .i64 (y m)) := by
            rw [hI.b.cell (p := ⟨pb, po + m, none⟩) hpl, hb1.cell (p := ⟨pb, po + m, none⟩) hpb]; exact hpc m hlt
          have hltI : (m : Int) < (lp : Int) := by omega
          by_cases c1 : 0 ≤ y m
          · have c2 : ¬ y m < 0 := by omega
            go_wp2_with fail
            go_roundw
            case rel => exact ⟨m + 1, by omega, by go_num, hI⟩
            case measure => simp [intOf]; omega
          · go_wp2_with fail
            go_roundw
            case rel => exact ⟨m + 1, by omega, by go_num, hI⟩
            case measure => simp [intOf]; omega
        · clear hpc
          go_wp2_with fail
          go_loopw [12] (fun i wr => i = .int .i64 0 ∧ AO w1.heap.size w1 0 0 0 (fun _ => false) wr) (fun i _ => 0)
          case atStart => exact ⟨rfl, hI⟩
          case round =>
            clear hI
            obtain ⟨rfl, hI⟩ := hrel
            have a0 := hI.a0
            have a1 := hI.a1
            have b0 := hI.b0
            have b1 := hI.b1
            have hJ1 : Hid _ := hI
            clear hI
            go_wp2_with fail
            clear a0 a1 b0 b1
            go_loopw [13] (fun i wr => i = .int .i64 0 ∧ AO w1.heap.size w1 0 0 0 (fun _ => false) wr) (fun i _ => 0)
            case atStart => exact ⟨rfl, hJ1.out⟩
            case round =>
              clear hJ1
              obtain ⟨rfl, hJ⟩ := hrel
              have a0 := hJ.a0
              have a1 := hJ.a1
              have e1 : sH 0 = 0 := by unfold sH; omega
              have e2 : sL 0 = 0 := by unfold sL; omega
              rw [e1] at a0
              rw [e2] at a1
              have hB := hJ.b
              clear hJ
              go_wp2_with fail
              go_ret
              exact ⟨rfl, hb1.trans (hB.mono hb1.size)⟩
end Go.Proofs.YtolpmedfaighhaaDoor
