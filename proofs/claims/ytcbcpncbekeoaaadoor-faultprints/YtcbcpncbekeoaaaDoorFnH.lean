
import Derived.Test.YtcbcpncbekeoaaaDoorFnG
namespace Go.Proofs.YtcbcpncbekeoaaaDoor
open Go.RowKit
set_option linter.unusedVariables false
set_option linter.unusedSimpArgs false
theorem name_0 : nameS 0 = ⟨#[111, 107]⟩ := by decide +kernel
theorem name_kn {e : Int} (h0 : e ≠ 0) (h : knL e ≠ []) : nameS e = ⟨(knL e).toArray⟩ := by
  unfold knL at h ⊢
  rw [if_neg h0] at h ⊢
  unfold nameS nameL
  cases hl : lkp e with
  | none => rw [hl] at h; exact absurd rfl h
  | some nm => rfl
theorem lkp_ne {e : Int} {nm : List UInt8} (h : lkp e = some nm) : nm ≠ [] := by
  unfold lkp at h
  obtain ⟨p, hp, rfl⟩ := Option.map_eq_some_iff.1 h
  exact (tab_facts p (List.mem_of_find?_eq_some hp)).2.1
theorem name_nk {e : Int} (h0 : e ≠ 0) (h : knL e = []) : nameS e = (⟨#[101, 114, 114, 110, 111, 32]⟩ : ByteArray) ++ ⟨(Lib.itoa e).toArray⟩ := by
  unfold knL at h
  rw [if_neg h0] at h
  unfold nameS nameL
  cases hl : lkp e with
  | none => exact (cat_name e).symm
  | some nm => rw [hl] at h; exact absurd h (lkp_ne hl)
theorem ne_isEmpty {M : ByteArray} (h : M ≠ ⟨#[]⟩) : M.toList.isEmpty = false := by
  rw [ByteArray.toList_eq]
  cases hq : M.data.toList with
  | nil => exact absurd (ba_eq (P := M) (T := ⟨#[]⟩) (by rw [hq])) h
  | cons a l => rfl
set_option maxRecDepth 100000 in
set_option maxHeartbeats 1000000 in
theorem rname_any (e : Int) (h1 : -9223372036854775808 ≤ e) (h2 : e ≤ 9223372036854775807) (w : World) (hE : EV w) :
    Calls Tryd.prog 29 #[.int .i64 e] w fun ev w' => ev = .returned (.string (nameS e)) ∧ Below w.heap.size w w' := by
  by_cases h0 : e = 0
  · subst h0
    have hn : Hid _ := name_0
    go_enter Tryd.func29, Tryd.ntmps29
    go_wp2_with fail
    go_ret
    exact ⟨by rw [hn.out]; rfl, Below.refl _ _⟩
  · have hz : (e == 0) = false := by rw [beq_eq_false_iff_ne]; exact h0
    have hk : Hid (∀ w, Calls Tryd.prog 35 #[.int .i64 e] w fun ev w' => ev = .returned (.string ⟨(knL e).toArray⟩) ∧ Below w.heap.size w w') := fun w => known_any e w
    have hI : Hid (∀ w, EV w → Calls Tryd.prog 28 #[.int .i64 e] w fun e' w' => e' = .returned (.string ⟨(Lib.itoa e).toArray⟩) ∧ Below w.heap.size w w') := fun w h => itoa_any e h1 h2 w h
    have hEH : Hid (EV w) := hE
    by_cases hkn : knL e = []
    · have hn := name_nk h0 hkn
      have hlen := itoa_len e h1 h2
      have hs := mk_size (Lib.itoa e)
      obtain ⟨T, hT⟩ : ∃ T : ByteArray, T = ⟨(Lib.itoa e).toArray⟩ := ⟨_, rfl⟩
      rw [← hT] at hI hn hs
      have hcat : ¬ 9223372036854775807 < 6 + T.size := by omega
      have hk2 : Hid (∀ w, Calls Tryd.prog 35 #[.int .i64 e] w fun ev w' => ev = .returned (.string ⟨#[]⟩) ∧ Below w.heap.size w w') := fun w => by
        have := hk.out w; rw [hkn] at this; exact this
      have hnH : Hid _ := hn
      clear hT hlen hs hn hk hkn hE h0
      go_enter Tryd.func29, Tryd.ntmps29
      go_wp2_with fail
      refine (hk2.out _).mono ?_
      rintro e1 w1 ⟨rfl, B1⟩
      go_wp2_with fail
      refine (hI.out _ (hEH.out.below B1)).mono ?_
      rintro e2 w2 ⟨rfl, B2⟩
      have P2 := bthen B1 B2
      go_wp2_with fail
      go_ret
      exact ⟨by rw [hnH.out]; rfl, P2⟩
    · have hn := name_kn h0 hkn
      rw [← hn] at hk
      obtain ⟨M, hM⟩ : ∃ M, M = nameS e := ⟨_, rfl⟩
      have hMne : M ≠ ⟨#[]⟩ := fun h => by
        rw [hM] at h
        have h3 : (nameS e).data.toList = [] := by rw [h]
        rw [hn] at h3
        exact hkn (by simpa using h3)
      have hie := ne_isEmpty hMne
      have hbe := ba_ne hMne
      rw [← hM] at hk ⊢
      clear hn hkn hM hE h0 hI
      go_enter Tryd.func29, Tryd.ntmps29
      go_wp2_with fail
      refine (hk.out _).mono ?_
      rintro e1 w1 ⟨rfl, B1⟩
      go_wp2_with fail
      go_ret
      exact ⟨rfl, B1⟩
end Go.Proofs.YtcbcpncbekeoaaaDoor
