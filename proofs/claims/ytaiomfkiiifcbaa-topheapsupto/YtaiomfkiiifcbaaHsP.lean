
import Derived.Test.YtaiomfkiiifcbaaHqP
namespace Go.Proofs.Ytaiomfkiiifcbaa.Hp
open Go.RowKit
set_option linter.unusedVariables false
set_option linter.unusedSimpArgs false
theorem ND.nodup {L : List Ent} (h : ND L) : (L.map (·.2)).Nodup := by
  rw [List.nodup_iff_pairwise_ne, List.pairwise_iff_getElem]
  intro i j hi hj hij e
  simp only [List.length_map] at hi hj
  simp only [List.getElem_map] at e
  have := h i j hi hj (by
    rw [atE_get (List.getElem?_eq_getElem hi), atE_get (List.getElem?_eq_getElem hj)]
    exact e)
  omega
theorem takL_filter {most : Bool} {L : List Ent} (nd : ND L) (s : ByteArray) : (takL most L s).Perm (L.filter fun e => decide (s ≠ e.2)) := by
  cases h : fnd L s with
  | none =>
    rw [takL_none h]
    have : L.filter (fun e => decide (s ≠ e.2)) = L := List.filter_eq_self.2 fun e he => decide_eq_true (fun q => fnd_none.1 h e he q.symm)
    rw [this]
  | some i =>
    obtain ⟨hi, hn⟩ := fnd_some h
    have hp := takL_some (most := most) h
    have h2 := hp.filter (fun e => decide (s ≠ e.2))
    have e1 : (atE L i :: takL most L s).filter (fun e => decide (s ≠ e.2)) = (takL most L s).filter (fun e => decide (s ≠ e.2)) := by
      rw [List.filter_cons_of_neg]
      simp [hn]
    have e2 : (takL most L s).filter (fun e => decide (s ≠ e.2)) = takL most L s := by
      refine List.filter_eq_self.2 fun e he => decide_eq_true (fun q => ?_)
      have hd := (hp.map (·.2)).nodup_iff.1 nd.nodup
      simp only [List.map_cons, List.nodup_cons] at hd
      exact hd.1 (List.mem_map.2 ⟨e, he, by rw [hn]; exact q.symm⟩)
    rw [e1, e2] at h2
    exact h2.symm
/-- is a name none of some entries'? -/
def kp (m : List Ent) (lo hi : Nat) (e : Ent) : Bool := (List.range (hi - lo)).all fun k => decide ((atE m (lo + k)).2 ≠ e.2)
theorem kp_iff {m : List Ent} {lo hi : Nat} {e : Ent} : kp m lo hi e = true ↔ ∀ k, lo ≤ k → k < hi → (atE m k).2 ≠ e.2 := by
  unfold kp
  rw [List.all_eq_true]
  constructor
  · intro h k h1 h2
    have := h (k - lo) (List.mem_range.2 (by omega))
    rw [show lo + (k - lo) = k by omega] at this
    exact of_decide_eq_true this
  · intro h k hk
    exact decide_eq_true (h _ (by omega) (by have := List.mem_range.1 hk; omega))
theorem kp_none (m : List Ent) (i : Nat) (e : Ent) : kp m i i e = true := kp_iff.2 fun k h1 h2 => by omega
theorem filter_kp_none (m L : List Ent) (i : Nat) : L.filter (kp m i i) = L := List.filter_eq_self.2 fun e _ => kp_none m i e
theorem kp_up {m : List Ent} {i : Nat} (e : Ent) : kp m 0 (i + 1) e = (kp m 0 i e && decide ((atE m i).2 ≠ e.2)) := by
  rw [Bool.eq_iff_iff, Bool.and_eq_true, kp_iff, kp_iff, decide_eq_true_iff]
  exact ⟨fun h => ⟨fun k h1 h2 => h k h1 (by omega), h i (by omega) (by omega)⟩, fun ⟨h1, h2⟩ k k1 k2 => by
    by_cases c : k = i
    · rw [c]; exact h2
    · exact h1 k k1 (by omega)⟩
theorem kp_dn {m : List Ent} {j n : Nat} (hj : j < n) (e : Ent) : kp m j n e = (kp m (j + 1) n e && decide ((atE m j).2 ≠ e.2)) := by
  rw [Bool.eq_iff_iff, Bool.and_eq_true, kp_iff, kp_iff, decide_eq_true_iff]
  exact ⟨fun h => ⟨fun k h1 h2 => h k (by omega) h2, h j (by omega) hj⟩, fun ⟨h1, h2⟩ k k1 k2 => by
    by_cases c : k = j
    · rw [c]; exact h2
    · exact h1 k (by omega) k2⟩
theorem take_up {most : Bool} {L L0 m : List Ent} {i : Nat} (nd : ND L) (h : L.Perm (L0.filter (kp m 0 i))) : (takL most L (atE m i).2).Perm (L0.filter (kp m 0 (i + 1))) := by
  refine (takL_filter nd _).trans ((h.filter _).trans ?_)
  rw [List.filter_filter]
  have : (fun e => decide ((atE m i).2 ≠ e.2) && kp m 0 i e) = kp m 0 (i + 1) := by funext e; rw [kp_up, Bool.and_comm]
  rw [this]
theorem take_dn {most : Bool} {L L0 m : List Ent} {j n : Nat} (hj : j < n) (nd : ND L) (h : L.Perm (L0.filter (kp m (j + 1) n))) : (takL most L (atE m j).2).Perm (L0.filter (kp m j n)) := by
  refine (takL_filter nd _).trans ((h.filter _).trans ?_)
  rw [List.filter_filter]
  have : (fun e => decide ((atE m j).2 ≠ e.2) && kp m (j + 1) n e) = kp m j n := by funext e; rw [kp_dn hj, Bool.and_comm]
  rw [this]
theorem srtL_rev (L : List Ent) : srtL true L = (srtL false L).reverse := by
  refine (srtL_uniq (most := true) ((List.reverse_perm _).trans (srtL_perm false L)) ?_).symm
  rw [List.pairwise_reverse]
  exact srtL_pw false L
theorem put_both {La Lb : List Ent} (hp : La.Perm Lb) (nda : ND La) (x : Ent) : (putL false La x).Perm (putL true Lb x) ∧ (fnd La x.2 = none ↔ fnd Lb x.2 = none) := by
  cases h : fnd La x.2 with
  | none =>
    have h2 := fnd_perm hp _ h
    exact ⟨(putL_none h).trans ((hp.append_right _).trans (putL_none h2).symm), by simp [h2]⟩
  | some i =>
    obtain ⟨j, h2, _⟩ := fnd_at hp nda h
    rw [putL_some h, putL_some h2]
    exact ⟨hp, by simp [h2]⟩
theorem top_srt {most : Bool} {L : List Ent} (h : HO (ahd most) L) (hL : 0 < L.length) : atE (srtL most L) 0 = atE L 0 := by
  have hlen : 0 < (srtL most L).length := by rw [srtL_len]; exact hL
  have h1 : ahd most (atE (srtL most L) 0) (atE L 0) = false := by
    have hm : atE (srtL most L) 0 ∈ L := (srtL_perm most L).subset (List.mem_of_getElem? (atE_some hlen))
    obtain ⟨k, hk⟩ := List.getElem?_of_mem hm
    have := h.top (ahd_swo most) k k (Nat.le_refl _) (List.getElem?_eq_some_iff.1 hk).1
    rw [atE_get hk] at this
    exact this
  have h2 : ahd most (atE L 0) (atE (srtL most L) 0) = false := by
    have hm : atE L 0 ∈ srtL most L := (srtL_perm most L).symm.subset (List.mem_of_getElem? (atE_some hL))
    obtain ⟨k, hk⟩ := List.getElem?_of_mem hm
    have hkl := (List.getElem?_eq_some_iff.1 hk).1
    by_cases c : k = 0
    · subst c; rw [← atE_get hk]; exact (ahd_swo most).irrefl _
    · have hpw := List.pairwise_iff_getElem.1 (srtL_pw most L) 0 k hlen hkl (by omega)
      have e1 : atE L 0 = (srtL most L)[k] := by rw [List.getElem?_eq_getElem hkl] at hk; injection hk with hk; exact hk.symm
      have e2 : atE (srtL most L) 0 = (srtL most L)[0] := atE_get (List.getElem?_eq_getElem hlen)
      rw [e1, e2]
      exact hpw
  exact ahd_anti most _ _ h1 h2
theorem putL_pos (most : Bool) (L : List Ent) (x : Ent) : 0 < (putL most L x).length := by
  cases h : fnd L x.2 with
  | none => rw [(putL_none h).length_eq]; simp
  | some i => rw [putL_some h]; have := (fnd_some h).1; omega
end Go.Proofs.Ytaiomfkiiifcbaa.Hp
