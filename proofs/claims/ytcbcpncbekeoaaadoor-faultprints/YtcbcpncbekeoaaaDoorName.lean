
import Derived.Test.YtcbcpncbekeoaaaDoorTab
import Derived.LoopTactic
import Derived.Outline
namespace Go.Proofs.YtcbcpncbekeoaaaDoor
open Go.RowKit

def pr (p : Int × List UInt8) : List Value := [.int .i64 p.1, .string ⟨p.2.toArray⟩]
theorem flat_get (l : List (Int × List UInt8)) : ∀ (k : Nat) (p : Int × List UInt8), l[k]? = some p → (l.flatMap pr)[2 * k]? = some (.int .i64 p.1) ∧ (l.flatMap pr)[2 * k + 1]? = some (.string ⟨p.2.toArray⟩) := by
  induction l with
  | nil => intro k p h; simp at h
  | cons a l ih =>
    intro k p h
    rcases k with _ | k
    · simp at h; subst h; simp [pr, List.flatMap_cons]
    · simp at h
      have := ih k p h
      simp only [List.flatMap_cons, pr]
      rw [show 2 * (k + 1) = 2 * k + 1 + 1 from by omega]
      exact this
theorem tab_flat : tabCells.toList = tab.flatMap pr := by rfl
theorem tab_len : tab.length = 58 := by rfl
theorem tab_cell (k : Nat) (p : Int × List UInt8) (h : tab[k]? = some p) (w : World) :
    (w.alloc (.cells tabCells 71)).cell? ⟨w.heap.size, 2 * k, none⟩ = some (.int .i64 p.1) ∧ (w.alloc (.cells tabCells 71)).cell? ⟨w.heap.size, 2 * k + 1, none⟩ = some (.string ⟨p.2.toArray⟩) := by
  have := flat_get tab k p h
  rw [← tab_flat] at this
  rw [World.cell?_alloc_at _ _ _ _ rfl, World.cell?_alloc_at _ _ _ _ rfl]
  simpa using this

set_option maxRecDepth 100000 in
set_option maxHeartbeats 1000000 in
theorem name_known (e : Int) (K : Nat) (nm : List UInt8) (hK : tab[K]? = some (e, nm)) (hne : ∀ j, j < K → ∀ p, tab[j]? = some p → p.1 ≠ e) (w : World) :
    Calls Tryd.prog 20 #[.int .i64 e] w fun ev w' => ev = .returned (.string ⟨nm.toArray⟩) ∧ Below w.heap.size w w' := by
  have hK58 : K < 58 := by
    rcases Nat.lt_or_ge K 58 with h | h
    · exact h
    · rw [List.getElem?_eq_none (by rw [tab_len]; exact h)] at hK; cases hK
  have HK : Hid (tab[K]? = some (e, nm)) := hK
  clear hK
  go_enter Tryd.func20, Tryd.ntmps20
  go_wp2_with (go_at_call 27; refine (names_any _).mono ?_; rintro e w' ⟨rfl, rfl⟩)
  go_loopw [7] (fun i wr => ∃ k : Nat, k ≤ K ∧ i = .int .i64 k ∧ Below (w.heap.size + 1) (w.alloc (.cells tabCells 71)) wr) (fun i _ => K - (intOf i).toNat)
  case atStart => exact ⟨0, Nat.zero_le _, rfl, Below.refl _ _⟩
  case round =>
    obtain ⟨k, hk, rfl, hb⟩ := hrel
    have hk58 : k < 58 := by omega
    obtain ⟨p, hp⟩ : ∃ p, tab[k]? = some p := ⟨_, List.getElem?_eq_getElem (by rw [tab_len]; exact hk58)⟩
    have hc1 : wr.cell? ⟨w.heap.size, k * 2, none⟩ = some (.int .i64 p.1) := by rw [hb.cell (by simp), Nat.mul_comm]; exact (tab_cell k p hp w).1
    have hc2 : wr.cell? ⟨w.heap.size, k * 2 + 1, none⟩ = some (.string ⟨p.2.toArray⟩) := by rw [hb.cell (by simp), Nat.mul_comm]; exact (tab_cell k p hp w).2
    have hs : w.heap.size < wr.heap.size := by have := hb.size; simp at this; omega
    by_cases hkK : k < K
    · have hpe : (p.1 == e) = false := by rw [beq_eq_false_iff_ne]; exact hne k hkK p hp
      clear hp
      go_wp2
      go_roundw
      case rel => exact ⟨k + 1, by omega, by go_num, hb.alloc (by omega) _⟩
      case measure => simp [intOf]; omega
    · have hkK' : k = K := by omega
      subst hkK'
      have hpp : p = (e, nm) := by have := HK.out; rw [hp] at this; exact Option.some.inj this
      subst hpp
      clear hp hkK
      go_wp2
      go_ret
      exact ⟨rfl, ((Below.refl w.heap.size w).alloc (Nat.le_refl _) _).trans ((hb.alloc (by omega) _).mono (by omega))⟩
end Go.Proofs.YtcbcpncbekeoaaaDoor
