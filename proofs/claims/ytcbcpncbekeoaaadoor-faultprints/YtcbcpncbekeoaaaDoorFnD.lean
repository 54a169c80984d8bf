
import Derived.Test.YtcbcpncbekeoaaaDoorFnC
import Derived.LoopTactic
namespace Go.Proofs.YtcbcpncbekeoaaaDoor
open Go.RowKit
set_option linter.unusedVariables false
set_option linter.unusedSimpArgs false
theorem cat_name (e : Int) : (⟨#[101, 114, 114, 110, 111, 32]⟩ : ByteArray) ++ ⟨(Lib.itoa e).toArray⟩ = ⟨(errno6 ++ Lib.itoa e).toArray⟩ := by
  rw [ByteArray.ext_iff]; simp [errno6]
theorem mk_size (l : List UInt8) : (⟨l.toArray⟩ : ByteArray).size = l.length := by show l.toArray.size = _; simp
set_option maxRecDepth 100000 in
set_option maxHeartbeats 1000000 in
theorem name_unknown (e : Int) (h1 : -9223372036854775808 ≤ e) (h2 : e ≤ 9223372036854775807) (hno : ∀ p ∈ tab, p.1 ≠ e) (w : World) (hE : EV w) :
    Calls Tryd.prog 20 #[.int .i64 e] w fun ev w' => ev = .returned (.string (nameS e)) ∧ Below w.heap.size w w' := by
  have hI : Hid (∀ w, EV w → Calls Tryd.prog 28 #[.int .i64 e] w fun e' w' => e' = .returned (.string ⟨(Lib.itoa e).toArray⟩) ∧ Below w.heap.size w w') := fun w h => itoa_any e h1 h2 w h
  have hN : Hid (nameS e = (⟨#[101, 114, 114, 110, 111, 32]⟩ : ByteArray) ++ ⟨(Lib.itoa e).toArray⟩) := by
    show _ = _
    rw [cat_name, ← nameL_out hno]; rfl
  have hlen := itoa_len e h1 h2
  have hs := mk_size (Lib.itoa e)
  obtain ⟨T, hT⟩ : ∃ T : ByteArray, T = ⟨(Lib.itoa e).toArray⟩ := ⟨_, rfl⟩
  rw [← hT] at hI hN hs
  have hcat : ¬ 9223372036854775807 < 6 + T.size := by omega
  clear hT hlen hs
  have hnoH : Hid (∀ p ∈ tab, p.1 ≠ e) := hno
  have hEH : Hid (EV w) := hE
  clear hno hE
  go_enter Tryd.func20, Tryd.ntmps20
  go_wp2_with (go_at_call 27; refine (names_any _).mono ?_; rintro e w' ⟨rfl, rfl⟩)
  go_loopw [7] (fun i wr => ∃ k : Nat, k ≤ 58 ∧ i = .int .i64 k ∧ Below (w.heap.size + 1) (w.alloc (.cells tabCells 71)) wr) (fun i _ => 58 - (intOf i).toNat)
  case atStart => exact ⟨0, Nat.zero_le _, rfl, Below.refl _ _⟩
  case round =>
    obtain ⟨k, hk, rfl, hb⟩ := hrel
    by_cases hk58 : k < 58
    · have kI : (k : Int) < 58 := by omega
      obtain ⟨p, hp⟩ : ∃ p, tab[k]? = some p := ⟨_, List.getElem?_eq_getElem (by rw [tab_len]; exact hk58)⟩
      have hc1 : wr.cell? ⟨w.heap.size, k * 2, none⟩ = some (.int .i64 p.1) := by rw [hb.cell (by simp), Nat.mul_comm]; exact (tab_cell k p hp w).1
      have hc2 : wr.cell? ⟨w.heap.size, k * 2 + 1, none⟩ = some (.string ⟨p.2.toArray⟩) := by rw [hb.cell (by simp), Nat.mul_comm]; exact (tab_cell k p hp w).2
      have hs : w.heap.size < wr.heap.size := by have := hb.size; simp at this; omega
      have hpe : (p.1 == e) = false := by rw [beq_eq_false_iff_ne]; exact hnoH.out p (mem_tab hp)
      clear hp
      go_wp2
      go_roundw
      case rel => exact ⟨k + 1, by omega, by go_num, hb.alloc (by omega) _⟩
      case measure => simp [intOf]; omega
    · obtain rfl : k = 58 := by omega
      have hB : Below w.heap.size w wr := ((Below.refl w.heap.size w).alloc (Nat.le_refl _) _).trans (hb.mono (by omega))
      have hBH : Hid _ := hB
      clear hb hB
      go_wp2_with fail
      refine (hI.out _ (hEH.out.below hBH.out)).mono ?_
      rintro e2 w3 ⟨rfl, B3⟩
      have P3 := bthen hBH.out B3
      go_wp2_with fail
      go_ret
      exact ⟨by rw [hN.out]; rfl, P3⟩
theorem name_any (e : Int) (h1 : -9223372036854775808 ≤ e) (h2 : e ≤ 9223372036854775807) (w : World) (hE : EV w) :
    Calls Tryd.prog 20 #[.int .i64 e] w fun ev w' => ev = .returned (.string (nameS e)) ∧ Below w.heap.size w w' := by
  rcases first_row (fun p : Int × List UInt8 => p.1 = e) tab with ⟨K, p, hK, he, hb⟩ | hno
  · subst he
    have h := name_known p.1 K p.2 hK (fun j hj q hq => hb j hj q hq) w
    rw [show nameS p.1 = ⟨p.2.toArray⟩ by unfold nameS; rw [nameL_in (mem_tab hK)]]
    exact h
  · exact name_unknown e h1 h2 hno w hE
end Go.Proofs.YtcbcpncbekeoaaaDoor
