
import Derived.Test.YtiakecenmenpiaaGreatDoorFnF
namespace Go.Proofs.YtiakecenmenpiaaGreatDoor
open Go.RowKit
set_option linter.unusedVariables false
set_option linter.unusedSimpArgs false
theorem itoa_inj {n e : Int} (hn : I64' n) (he : I64' e) (h : Lib.itoa n = Lib.itoa e) : n = e := by
  have h1 := atoi_itoa n hn.1 hn.2
  have h2 := atoi_itoa e he.1 he.2
  rw [h, h2] at h1
  exact (Lib.NumEnd.ok.inj h1).symm
theorem tab_len10 : ∀ p ∈ tab, p.2.length ≤ 10 := by decide +kernel
theorem take6 (x : List UInt8) : (errno6 ++ x).take 6 = errno6 := by simp [errno6]
theorem nameL_inj {n e : Int} (hn : I64' n) (he : I64' e) (h : nameL n = nameL e) : n = e := by
  rcases first_row (fun p : Int × List UInt8 => p.1 = e) tab with ⟨K, p, hK, rfl, _⟩ | h2 <;> rcases first_row (fun p : Int × List UInt8 => p.1 = n) tab with ⟨J, q, hJ, rfl, _⟩ | h3
  · rw [nameL_in (mem_tab hK), nameL_in (mem_tab hJ)] at h
    rw [nodup_inj (·.2) tab tab_nams q p (mem_tab hJ) (mem_tab hK) h]
  · rw [nameL_in (mem_tab hK), nameL_out h3] at h
    exact absurd (by rw [← h]; exact take6 _) (tab_facts p (mem_tab hK)).1
  · rw [nameL_in (mem_tab hJ), nameL_out h2] at h
    exact absurd (by rw [h]; exact take6 _) (tab_facts q (mem_tab hJ)).1
  · rw [nameL_out h2, nameL_out h3] at h
    exact itoa_inj hn he (List.append_cancel_left h)
theorem nameS_inj {n e : Int} (hn : I64' n) (he : I64' e) (h : nameS n = nameS e) : n = e :=
  nameL_inj hn he (by rw [← nameS_list, ← nameS_list, h])
theorem nameS_size {e : Int} (he : I64' e) : (nameS e).size ≤ 27 := by
  unfold nameS; rw [mk_size]
  rcases first_row (fun p : Int × List UInt8 => p.1 = e) tab with ⟨K, p, hK, rfl, _⟩ | h2
  · rw [nameL_in (mem_tab hK)]; have := tab_len10 p (mem_tab hK); omega
  · rw [nameL_out h2]; have := itoa_len e he.1 he.2; simp [errno6]; omega
theorem find_name (e : Int) (he : I64' e) (w : World) (hE : EV w) : Calls Tryz.prog 20 #[.string (nameS e)] w fun ev w' => ev = .returned (.tuple #[.int .i64 e, .nilIface]) ∧ Below w.heap.size w w' := by
  refine (find_any (nameS e) (by have := nameS_size he; omega) w hE).mono ?_
  rintro ev w' ⟨hf, hb⟩
  refine ⟨?_, hb⟩
  rcases hf with ⟨n, hn, hT, rfl⟩ | ⟨hno, _⟩
  · rw [nameS_inj hn he hT]
  · exact absurd rfl (hno e he)
end Go.Proofs.YtiakecenmenpiaaGreatDoor
