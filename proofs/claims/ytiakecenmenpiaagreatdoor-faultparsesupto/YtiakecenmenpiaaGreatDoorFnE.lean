
import Derived.Test.YtiakecenmenpiaaGreatDoorFnD
import Derived.Test.YtiakecenmenpiaaGreatDoorBase
import Derived.Deep.CutRange
namespace Go.Proofs.YtiakecenmenpiaaGreatDoor
open Go.RowKit
set_option linter.unusedVariables false
set_option linter.unusedSimpArgs false
def I64' (n : Int) : Prop := -9223372036854775808 ≤ n ∧ n ≤ 9223372036854775807
/-- what Find tells of a text. -/
def FT (T : ByteArray) (e : Ending) : Prop :=
  (∃ n, I64' n ∧ nameS n = T ∧ e = .returned (.tuple #[.int .i64 n, .nilIface])) ∨
  ((∀ n, I64' n → nameS n ≠ T) ∧ e = .returned (.tuple #[.int .i64 0, .iface 26 (.int .i64 4)]))
theorem ba_eq {P T : ByteArray} (h : P.data.toList = T.data.toList) : P = T := by
  cases P; cases T; exact congrArg ByteArray.mk (Array.ext' h)
theorem ba_ne {P T : ByteArray} (h : P ≠ T) : (P.toList == T.toList) = false := by
  rw [beq_eq_false_iff_ne, ByteArray.toList_eq, ByteArray.toList_eq]
  exact fun e => h (ba_eq e)
theorem tab_small : ∀ p ∈ tab, 0 ≤ p.1 ∧ p.1 < 300 := fun p hp => ⟨(tab_facts p hp).2.2.1, (tab_facts p hp).2.2.2⟩
theorem hasP6 (x : List UInt8) : Lib.hasPrefix (errno6 ++ x) errno6 = true := by simp [errno6, Lib.hasPrefix]
theorem trim6 (x : List UInt8) : Lib.trimPrefix (errno6 ++ x) errno6 = x := by
  unfold Lib.trimPrefix; rw [if_pos (hasP6 x)]; simp [errno6]
/-- if a text is no name of the table, but a number's, Atoi of what follows 'errno ' is that number. -/
theorem long_atoi {T : ByteArray} (hno : ∀ p ∈ tab, p.2 ≠ T.data.toList) {n : Int} (hn : I64' n) (hT : nameS n = T) : Lib.atoiAll (⟨(Lib.trimPrefix T.data.toList errno6).toArray⟩ : ByteArray).data.toList = .ok n := by
  have h := name_long (n := n) hno (by rw [← nameS_list, hT])
  rw [h, trim6]
  exact atoi_itoa n hn.1 hn.2
set_option maxRecDepth 100000 in
set_option maxHeartbeats 2000000 in
theorem find_known (T : ByteArray) (K : Nat) (p : Int × List UInt8) (hK : tab[K]? = some p) (hp : p.2 = T.data.toList) (hne : ∀ j, j < K → ∀ q, tab[j]? = some q → q.2 ≠ T.data.toList) (w : World) :
    Calls Tryz.prog 20 #[.string T] w fun ev w' => FT T ev ∧ Below w.heap.size w w' := by
  have hK58 : K < 58 := by
    rcases Nat.lt_or_ge K 58 with h | h
    · exact h
    · rw [List.getElem?_eq_none (by rw [tab_len]; exact h)] at hK; cases hK
  have hsm := tab_small p (mem_tab hK)
  have HK : Hid (tab[K]? = some p) := hK
  have hN : Hid (nameS p.1 = T) := by
    show _ = _
    refine ba_eq ?_
    rw [nameS_list, nameL_in (mem_tab hK), hp]
  have hpH : Hid _ := hp
  have hneH : Hid _ := hne
  clear hK hp hne
  go_enter Tryz.func20, Tryz.ntmps20
  go_wp2_with (go_at_call 38; refine (names_any _).mono ?_; rintro e w' ⟨rfl, rfl⟩)
  go_loopw [12] (fun i wr => ∃ k : Nat, k ≤ K ∧ i = .int .i64 k ∧ Below (w.heap.size + 1) (w.alloc (.cells tabCells 89)) wr) (fun i _ => K - (intOf i).toNat)
  case atStart => exact ⟨0, Nat.zero_le _, rfl, Below.refl _ _⟩
  case round =>
    obtain ⟨k, hk, rfl, hb⟩ := hrel
    have hk58 : k < 58 := by omega
    have kI : (k : Int) < 58 := by omega
    obtain ⟨q, hq⟩ : ∃ q, tab[k]? = some q := ⟨_, List.getElem?_eq_getElem (by rw [tab_len]; exact hk58)⟩
    have hc1 : wr.cell? ⟨w.heap.size, k * 2, none⟩ = some (.int .i64 q.1) := by rw [hb.cell (by simp), Nat.mul_comm]; exact (tab_cell k q hq w).1
    have hc2 : wr.cell? ⟨w.heap.size, k * 2 + 1, none⟩ = some (.string ⟨q.2.toArray⟩) := by rw [hb.cell (by simp), Nat.mul_comm]; exact (tab_cell k q hq w).2
    have hs : w.heap.size < wr.heap.size := by have := hb.size; simp at this; omega
    obtain ⟨Q, hQ⟩ : ∃ Q : ByteArray, Q = ⟨q.2.toArray⟩ := ⟨_, rfl⟩
    rw [← hQ] at hc2
    have hB : Hid (∀ o, Below w.heap.size w (wr.alloc o)) := fun o => ((Below.refl w.heap.size w).alloc (Nat.le_refl _) _).trans ((hb.alloc (by omega) _).mono (by omega))
    by_cases hkK : k < K
    · have hpe : (Q.toList == T.toList) = false := ba_ne (fun h => hneH.out k hkK q hq (by rw [← h, hQ]))
      clear hq hQ
      go_wp2
      go_roundw
      case rel => exact ⟨k + 1, by omega, by go_num, hb.alloc (by omega) _⟩
      case measure => simp [intOf]; omega
    · have hkK' : k = K := by omega
      subst hkK'
      have hqp : q = p := by have := HK.out; rw [hq] at this; exact Option.some.inj this
      subst hqp
      have hpe : (Q.toList == T.toList) = true := by
        have : Q = T := ba_eq (by rw [hQ]; exact hpH.out)
        rw [this]; simp
      clear hq hQ hkK hb
      go_wp2
      go_ret2
      exact ⟨Or.inl ⟨q.1, ⟨by omega, by omega⟩, hN.out, rfl⟩, hB.out _⟩
end Go.Proofs.YtiakecenmenpiaaGreatDoor
