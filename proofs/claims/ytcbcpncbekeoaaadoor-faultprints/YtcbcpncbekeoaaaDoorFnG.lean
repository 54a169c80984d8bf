
import Derived.Test.YtcbcpncbekeoaaaDoorFnF
import Derived.Deep.WholeRow
namespace Go.Proofs.YtcbcpncbekeoaaaDoor
open Go.RowKit
set_option linter.unusedVariables false
set_option linter.unusedSimpArgs false
def docAt (i : Nat) : Int × List UInt8 := tab.getD (i + 1) (0, [])
def numsCells : Array Value := ((List.range 70).map fun i => Value.int .i64 (docAt i).1).toArray
def namsCells : Array Value := ((List.range 70).map fun i => Value.string ⟨(docAt i).2.toArray⟩).toArray
theorem nums_at (i : Nat) (h : i < 70) : numsCells[i]? = some (.int .i64 (docAt i).1) := by simp [numsCells, h]
theorem nams_at (i : Nat) (h : i < 70) : namsCells[i]? = some (.string ⟨(docAt i).2.toArray⟩) := by simp [namsCells, h]
theorem upon_store {P : Program} {o : Oper} {a : Act} {K : Act → World → Prop} {Q : Exit → Act → World → Prop} {A : Addr} {l l' : List Value} {W W' : World} {f : Unit → World → Result Next} (hl : l = l') (hk : (storeCells A l' 0).run P W = .ok () W')
    (h : Oper.upon P o a K Q ((Result.ok () W').andThen f)) : Oper.upon P o a K Q ((Sem.run P (storeCells A l 0) W).andThen f) := by rw [hl, hk]; exact h
theorem nums_info : (Tryd.prog.info? 100).map (·.size) = some numsCells.size := by kernel_rfl
theorem nams_info : (Tryd.prog.info? 101).map (·.size) = some namsCells.size := by kernel_rfl
def knL (e : Int) : List UInt8 := if e = 0 then [] else (lkp e).getD []
theorem doc_nz : ∀ i, i < 57 → (docAt i).1 ≠ 0 := by decide +kernel
theorem doc_mem : ∀ i, i < 57 → docAt i ∈ tab := by decide +kernel
theorem doc_end : ∀ i, i < 70 → ¬ i < 57 → docAt i = (0, []) := by decide +kernel
theorem tab_doc : ∀ p ∈ tab, p.1 = 0 ∨ ∃ i, i < 57 ∧ docAt i = p := by
  have h : ∀ j, j < 58 → tab.getD j (0, []) = (0, [111, 107]) ∨ ∃ i, i < 57 ∧ docAt i = tab.getD j (0, []) := by
    intro j hj
    cases j with
    | zero => left; rfl
    | succ j => right; exact ⟨j, by omega, rfl⟩
  intro p hp
  obtain ⟨j, hj, he⟩ := List.mem_iff_getElem.1 hp
  have h2 := h j (by rw [← tab_len]; exact hj)
  rw [List.getD_eq_getElem?_getD, List.getElem?_eq_getElem hj, he] at h2
  rcases h2 with h2 | h2
  · left
    have : p = (0, [111, 107]) := h2
    rw [this]
  · right; exact h2
theorem kn_hit (K : Nat) (hK : K < 70) (e : Int) (he : (docAt K).1 = e) : (docAt K).2 = knL e := by
  by_cases h : K < 57
  · have := lkp_some (doc_mem K h)
    rw [he] at this
    unfold knL
    rw [if_neg (by rw [← he]; exact doc_nz K h), this]; rfl
  · rw [doc_end K hK h] at he ⊢
    unfold knL; rw [if_pos he.symm]
theorem kn_miss (e : Int) (h : ∀ j, j < 70 → (docAt j).1 ≠ e) : knL e = [] := by
  unfold knL
  have h57 := h 57 (by omega)
  rw [doc_end 57 (by omega) (by omega)] at h57
  rw [if_neg (Ne.symm h57), lkp_none]; rfl
  intro p hp
  rcases tab_doc p hp with h0 | ⟨i, hi, hd⟩
  · rw [h0]; exact h57
  · rw [← hd]; exact h i (by omega)
set_option maxRecDepth 100000 in
set_option maxHeartbeats 4000000 in
theorem known_at (e : Int) (K : Nat) (hK : K ≤ 70) (hne : ∀ j, j < K → (docAt j).1 ≠ e) (he : K < 70 → (docAt K).1 = e) (w : World) :
    Calls Tryd.prog 35 #[.int .i64 e] w fun ev w' => ev = .returned (.string ⟨(knL e).toArray⟩) ∧ Below w.heap.size w w' := by
  have hend : Hid (¬ K < 70 → knL e = []) := fun h => kn_miss e (fun j hj => hne j (by omega))
  have hhit : Hid (K < 70 → (docAt K).2 = knL e) := fun h => kn_hit K h e (he h)
  have hneH : Hid _ := hne
  have heH : Hid _ := he
  clear hne he
  obtain ⟨W1, hW1⟩ : ∃ W1, W1 = w.alloc (.cells numsCells 100) := ⟨_, rfl⟩
  have hB1 : Below w.heap.size w W1 := by rw [hW1]; exact bnew (Below.refl _ _) _
  have hz1 : W1.heap.size = w.heap.size + 1 := by rw [hW1]; simp
  have hc1 : ∀ j, j < 70 → W1.cell? ⟨w.heap.size, j, none⟩ = some (.int .i64 (docAt j).1) := fun j hj => by
    rw [hW1, World.cell?_alloc_at _ _ _ _ rfl]; exact nums_at j hj
  have hWH : Hid _ := hW1
  have hcH : Hid _ := hc1
  have hzH : Hid (W1.heap.size = w.heap.size + 1) := hz1
  clear hW1 hc1 hz1
  go_enter Tryd.func35, Tryd.ntmps35
  go_upto_region 1 with fail
  go_cut [3] from 6 (fun p wx => p = .pointer (some ⟨w.heap.size, 0, none⟩) ∧ W1 = wx)
  case first =>
    go_wp2_with fail
    refine upon_store (l' := numsCells.toList) (by kernel_rfl) (run_storeCells_new w 100 _ numsCells nums_info (by kernel_rfl) (by kernel_rfl)) ?_
    go_wp2_with fail
    go_meet
    exact ⟨rfl, hWH.out⟩
  case rest =>
    obtain ⟨rfl, rfl⟩ := hcut
    go_upto_region 2 with fail
    go_cut [4] from 7 (fun p wx => p = .pointer (some ⟨W1.heap.size, 0, none⟩) ∧ wx = W1.alloc (.cells namsCells 101))
    case first =>
      go_wp2_with fail
      refine upon_store (l' := namsCells.toList) (by kernel_rfl) (run_storeCells_new W1 101 _ namsCells nams_info (by kernel_rfl) (by kernel_rfl)) ?_
      go_wp2_with fail
      go_meet
      exact ⟨rfl, rfl⟩
    case rest =>
      obtain ⟨rfl, hwc⟩ := hcut
      have hB2 : Below W1.heap.size W1 wc := by rw [hwc]; exact bnew (Below.refl _ _) _
      have hc2 : ∀ j, j < 70 → wc.cell? ⟨W1.heap.size, j, none⟩ = some (.string ⟨(docAt j).2.toArray⟩) := fun j hj => by
        rw [hwc, World.cell?_alloc_at _ _ _ _ rfl]; exact nams_at j hj
      have hc1 : ∀ j, j < 70 → wc.cell? ⟨w.heap.size, j, none⟩ = some (.int .i64 (docAt j).1) := fun j hj => by
        rw [hB2.cell (p := ⟨w.heap.size, j, none⟩) (by have := hzH.out; simp; omega)]; exact hcH.out j hj
      have hc1H : Hid _ := hc1
      have hc2H : Hid _ := hc2
      have hBH : Hid (Below w.heap.size w wc) := bthen hB1 hB2
      clear hc1 hc2 hwc hB2 hB1 hcH hWH
      go_wp2_with fail
      go_loop [5] (fun i => ∃ k : Nat, k ≤ K ∧ i = .int .i64 (k : Int)) (fun i => K - (intOf i).toNat)
      case atStart => exact ⟨0, Nat.zero_le _, rfl⟩
      case round =>
        obtain ⟨k, hk, rfl⟩ := hrel
        by_cases h70 : k < 70
        · have kI : (k : Int) < 70 := by omega
          have k0 : (0 : Int) ≤ (k : Int) := by omega
          have a1 := hc1H.out k h70
          have a2 := hc2H.out k h70
          by_cases hkK : k < K
          · have hpe : ((docAt k).1 == e) = false := by rw [beq_eq_false_iff_ne]; exact hneH.out k hkK
            go_wp2_with fail
            go_round
            case rel => exact ⟨k + 1, by omega, by go_num⟩
            case measure => simp [intOf]; omega
          · obtain rfl : k = K := by omega
            have hpe : ((docAt k).1 == e) = true := by rw [beq_iff_eq]; exact heH.out h70
            have hh := hhit.out h70
            rw [hh] at a2
            go_wp2_with fail
            go_ret
            exact ⟨rfl, hBH.out⟩
        · obtain rfl : k = K := by omega
          have hh : Hid _ := hend.out h70
          have kI : ¬ (k : Int) < 70 := by omega
          go_wp2_with fail
          go_ret
          exact ⟨by rw [hh.out]; rfl, hBH.out⟩
theorem known_any (e : Int) (w : World) : Calls Tryd.prog 35 #[.int .i64 e] w fun ev w' => ev = .returned (.string ⟨(knL e).toArray⟩) ∧ Below w.heap.size w w' := by
  rcases first_row (fun i : Nat => (docAt i).1 = e) (List.range 70) with ⟨K, i, hK, he, hb⟩ | hno
  · have hK70 : K < 70 := by
      rcases Nat.lt_or_ge K 70 with h | h
      · exact h
      · rw [List.getElem?_eq_none (by simpa using h)] at hK; cases hK
    rw [List.getElem?_range hK70] at hK
    obtain rfl := Option.some.inj hK
    exact known_at e K (by omega) (fun j hj => hb j hj j (List.getElem?_range (by omega))) (fun _ => he) w
  · exact known_at e 70 (Nat.le_refl _) (fun j hj => hno j (by simp; exact hj)) (fun h => by omega) w
end Go.Proofs.YtcbcpncbekeoaaaDoor
