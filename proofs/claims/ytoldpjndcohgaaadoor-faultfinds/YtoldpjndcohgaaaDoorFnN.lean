
import Derived.Test.YtoldpjndcohgaaaDoorFnH
import Derived.Test.YtoldpjndcohgaaaDoorLive1
namespace Go.Proofs.YtoldpjndcohgaaaDoor
open Go.RowKit
set_option linter.unusedVariables false
set_option linter.unusedSimpArgs false
theorem itoa_inj {n e : Int} (hn : I64' n) (he : I64' e) (h : Lib.itoa n = Lib.itoa e) : n = e := by
  have h1 := atoi_itoa n hn.1 hn.2
  have h2 := atoi_itoa e he.1 he.2
  rw [h, h2] at h1
  exact (Lib.NumEnd.ok.inj h1).symm
theorem tab_len10 : ∀ p ∈ tab, p.2.length ≤ 10 := by decide +kernel
theorem take6 (x : List UInt8) : (errno6 ++ x).take 6 = errno6 := by simp [errno6]
theorem nameL_inj {n e : Int} (hn : I64' n) (he : I64' e) (h : nameL n = nameL e) : n = e := by
  rcases first_row (fun p : Int × List UInt8 => p.1 = e) tab with ⟨K, p, hK, rfl, _⟩ | h2 <;> rcases first_row (fun p : Int × List UInt8 => p.1 = n) tab with ⟨J, q, hJ, rfl, _⟩ | h3
  · rw [nameL_in (mem_tab hK), nameL_in (mem_tab hJ)] at h
    rw [nodup_inj (·.2) tab tab_nams q p (mem_tab hJ) (mem_tab hK) h]
  · rw [nameL_in (mem_tab hK), nameL_out h3] at h
    exact absurd (by rw [← h]; exact take6 _) (tab_facts p (mem_tab hK)).1
  · rw [nameL_in (mem_tab hJ), nameL_out h2] at h
    exact absurd (by rw [h]; exact take6 _) (tab_facts q (mem_tab hJ)).1
  · rw [nameL_out h2, nameL_out h3] at h
    exact itoa_inj hn he (List.append_cancel_left h)
theorem nameS_inj {n e : Int} (hn : I64' n) (he : I64' e) (h : nameS n = nameS e) : n = e :=
  nameL_inj hn he (by rw [← nameS_list, ← nameS_list, h])
theorem nameS_size {e : Int} (he : I64' e) : (nameS e).size ≤ 27 := by
  unfold nameS; rw [mk_size]
  rcases first_row (fun p : Int × List UInt8 => p.1 = e) tab with ⟨K, p, hK, rfl, _⟩ | h2
  · rw [nameL_in (mem_tab hK)]; have := tab_len10 p (mem_tab hK); omega
  · rw [nameL_out h2]; have := itoa_len e he.1 he.2; simp [errno6]; omega
theorem find_name (e : Int) (he : I64' e) (w : World) (hE : EV w) : Calls Tryd.prog 6 #[.string (nameS e)] w fun ev w' => ev = .returned (.tuple #[.int .i64 e, .nilIface]) ∧ Below w.heap.size w w' := by
  refine (find_any (nameS e) (by have := nameS_size he; omega) w hE).mono ?_
  rintro ev w' ⟨hf, hb⟩
  refine ⟨?_, hb⟩
  rcases hf with ⟨n, hn, hT, rfl⟩ | ⟨hno, _⟩
  · rw [nameS_inj hn he hT]
  · exact absurd rfl (hno e he)
set_option maxRecDepth 100000 in
theorem faultNames_walk (e : Int) (he : I64' e) (w : World) (hE : EV w) (hg : ET w) :
    Calls Tryd.prog 3 #[.int .i64 e] w fun ev w' => ev = .returned (.bool true) ∧ Below w.heap.size w w' := by
  have hname : Hid (∀ w, EV w → Calls Tryd.prog 5 #[.int .i64 e] w fun ev w' => ev = .returned (.string (nameS e)) ∧ Below w.heap.size w w') := fun w h => name_any e he.1 he.2 w h
  have hrn : Hid (∀ w, EV w → Calls Tryd.prog 8 #[.int .i64 e] w fun ev w' => ev = .returned (.string (nameS e)) ∧ Below w.heap.size w w') := fun w h => rname_any e he.1 he.2 w h
  have hfn : Hid (∀ w, EV w → Calls Tryd.prog 6 #[.string (nameS e)] w fun ev w' => ev = .returned (.tuple #[.int .i64 e, .nilIface]) ∧ Below w.heap.size w w') := fun w h => find_name e he w h
  obtain ⟨M, hM⟩ : ∃ M, M = nameS e := ⟨_, rfl⟩
  rw [← hM] at hname hrn hfn
  have hEH : Hid (EV w) := hE
  have hgH : Hid (ET w) := hg
  clear hM hE hg he
  go_enter Tryd.func3, Tryd.ntmps3
  go_wp2_with fail
  refine (hname.out _ hEH.out).mono ?_
  rintro e1 w1 ⟨rfl, B1⟩
  go_wp2_with fail
  refine (hfn.out _ (hEH.out.below B1)).mono ?_
  rintro e2 w2 ⟨rfl, B2⟩
  have P2 := bthen B1 B2
  go_wp2_with fail
  refine (live1_any _ (ET_below hgH.out P2)).mono ?_
  rintro e3 w3 ⟨rfl, B3⟩
  have P3 := bthen P2 B3
  go_wp2_with fail
  refine (hrn.out _ (hEH.out.below P3)).mono ?_
  rintro e4 w4 ⟨rfl, B4⟩
  have P4 := bthen P3 B4
  go_wp2_with fail
  go_ret
  exact ⟨rfl, P4⟩
end Go.Proofs.YtoldpjndcohgaaaDoor
