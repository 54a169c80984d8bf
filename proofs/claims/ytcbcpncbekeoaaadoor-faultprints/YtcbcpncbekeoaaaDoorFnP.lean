
import Derived.Test.YtcbcpncbekeoaaaDoorFnF
namespace Go.Proofs.YtcbcpncbekeoaaaDoor
open Go.RowKit
set_option linter.unusedVariables false
set_option linter.unusedSimpArgs false
theorem itoa_inj {n e : Int} (hn : I64' n) (he : I64' e) (h : Lib.itoa n = Lib.itoa e) : n = e := by
  have h1 := atoi_itoa n hn.1 hn.2
  have h2 := atoi_itoa e he.1 he.2
  rw [h, h2] at h1
  exact (Lib.NumEnd.ok.inj h1).symm
theorem tab_len10 : ∀ p ∈ tab, p.2.length ≤ 10 := by decide +kernel
theorem take6 (x : List UInt8) : (errno6 ++ x).take 6 = errno6 := by simp [errno6]
theorem nameL_inj {n e : Int} (hn : I64' n) (he : I64' e) (h : nameL n = nameL e) : n = e := by
  rcases first_row (fun p : Int × List UInt8 => p.1 = e) tab with ⟨K, p, hK, rfl, _⟩ | h2 <;> rcases first_row (fun p : Int × List UInt8 => p.1 = n) tab with ⟨J, q, hJ, rfl, _⟩ | h3
  · rw [nameL_in (mem_tab hK), nameL_in (mem_tab hJ)] at h
    rw [nodup_inj (·.2) tab tab_nams q p (mem_tab hJ) (mem_tab hK) h]
  · rw [nameL_in (mem_tab hK), nameL_out h3] at h
    exact absurd (by rw [← h]; exact take6 _) (tab_facts p (mem_tab hK)).1
  · rw [nameL_in (mem_tab hJ), nameL_out h2] at h
    exact absurd (by rw [h]; exact take6 _) (tab_facts q (mem_tab hJ)).1
  · rw [nameL_out h2, nameL_out h3] at h
    exact itoa_inj hn he (List.append_cancel_left h)
theorem nameS_inj {n e : Int} (hn : I64' n) (he : I64' e) (h : nameS n = nameS e) : n = e :=
  nameL_inj hn he (by rw [← nameS_list, ← nameS_list, h])
theorem nameS_size {e : Int} (he : I64' e) : (nameS e).size ≤ 27 := by
  unfold nameS; rw [mk_size]
  rcases first_row (fun p : Int × List UInt8 => p.1 = e) tab with ⟨K, p, hK, rfl, _⟩ | h2
  · rw [nameL_in (mem_tab hK)]; have := tab_len10 p (mem_tab hK); omega
  · rw [nameL_out h2]; have := itoa_len e he.1 he.2; simp [errno6]; omega
end Go.Proofs.YtcbcpncbekeoaaaDoor
