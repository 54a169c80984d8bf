
import Derived.Test.YtbojljmacheccaaGreatDoorProg
import Derived.Deep.AppendLies
import Derived.ProofKit
import Derived.OpenShut
namespace Go.Proofs.YtbojljmacheccaaGreatDoor
open Go.RowKit
set_option linter.unusedVariables false
set_option linter.unusedSimpArgs false
section
variable {P : Program} (w : World)
/-- rows stay where a block is laid, and nothing else. -/
theorem rows_alloc (o : Obj) (e : TypeId) (size base' n0 : Nat) (u : Value) (ys : List Value) (hu : w.ownsRow base' e size u n0 ys) : (w.drew.alloc o).ownsRow base' e size u n0 ys := by
  rcases hu.2 with ⟨q, q0⟩ | ⟨g, cap, cur, e1, e2, e3, e4⟩
  · exact ⟨hu.1, Or.inl ⟨q, q0⟩⟩
  · exact ⟨hu.1, Or.inr ⟨g, cap, cur, e1, e2, by rw [show (w.drew.alloc o).heap[g]? = w.heap[g]? from by first | exact heap_alloc_old w.drew o g (Array.getElem?_eq_some_iff.1 e3).1 | exact heap_alloc_old w.drew o (Array.getElem?_eq_some_iff.1 e3).1]; exact e3, e4⟩⟩
/-- a row of the same block that is not longer than what is written behind. -/
theorem rows_room {g n : Nat} {e : TypeId} {size : Nat} {cur : Array Value} {news : List Value} (hg : w.heap[g]? = some (.cells cur e (0, 0))) (hfit : n * size + news.length ≤ cur.size) (base' n0 : Nat) (u : Value) (ys : List Value) (hu : w.ownsRow base' e size u n0 ys) (hle : u.ownBlock = some g → n0 ≤ n) : (w.setRow g (cur.toList.take (n * size) ++ news ++ cur.toList.drop (n * size + news.length)).toArray).ownsRow base' e size u n0 ys := by
  by_cases hb : u.ownBlock = some g
  · rcases hu.2 with ⟨q, q0⟩ | ⟨g2, cap2, cur2, e1, e2, e3, e4, e5, e6, e7⟩
    · rw [q] at hb; cases hb
    · subst e1
      have : g2 = g := by simpa [Value.ownBlock] using hb
      subst this
      rw [hg] at e3
      injection e3 with e3
      injection e3 with e3 _ _
      subst e3
      have hmul : n0 * size ≤ n * size := Nat.mul_le_mul_right _ (hle hb)
      have htl : (cur.toList.take (n * size)).length = n * size := by rw [List.length_take, Array.length_toList]; omega
      have hsz2 : (cur.toList.take (n * size) ++ news ++ cur.toList.drop (n * size + news.length)).toArray.size = cur.size := by simp; omega
      refine ⟨hu.1, Or.inr ⟨g2, cap2, _, rfl, e2, setRow_heap w g2 cur _ e _ hg, e4, e5, by rw [hsz2]; exact e6, ?_⟩⟩
      simp only
      rw [List.append_assoc, List.take_append_of_le_length (by omega), List.take_take, Nat.min_eq_left hmul]
      exact e7
  · exact World.ownsRow.kept hu (show w.grownBy _ (some g) from ⟨rfl, rfl, rfl, by simp, fun k _ hk => setRow_other w g k _ (fun e => hk (by rw [e]))⟩) (Or.inr hb)
/-- an append to a row of one's own: what it tells, and that every other row stays that is no longer than this one. -/
theorem append_keeps (base : Nat) (t ty e : TypeId) (i : TypeInfo) (z : Value) (ht : P.underlying t = some (.slice e)) (hi : P.info? e = some i) (hz : i.zero = some z) (hzs : z.cells.size = i.size) (hsz : 0 < i.size)
    (v : Value) (n : Nat) (xs : List Value) (hown : w.ownsRow base e i.size v n xs)
    (a : Addr) (m c : Nat) (news : List Value) (hl : news.length = m * i.size) (hnews : ∀ j u, news[j]? = some u → w.cell? (a.add j) = some u) (h1 : ∀ u ∈ news, u.oneCell' = true)
    (hm0 : 0 < m) (h63 : n + m ≤ maxLen) (hbytes : (n + m) * i.bytes ≤ 140737488355328) (hbase : base ≤ w.heap.size) :
    ∃ v' w', (Builtin.append_ #[t, t] ty #[v, .slice (some a) m c]).run P w = .ok v' w' ∧ w'.ownsRow base e i.size v' (n + m) (xs ++ news) ∧ w.grownBy w' v.ownBlock ∧ (v'.ownBlock = v.ownBlock ∨ v'.ownBlock = some w.heap.size) ∧
      ∀ base' u n0 ys, w.ownsRow base' e i.size u n0 ys → (u.ownBlock = v.ownBlock → n0 ≤ n) → w'.ownsRow base' e i.size u n0 ys := by
  have hsmall : n + m ≤ 9223372036854775807 := by simp only [maxLen] at h63; omega
  obtain ⟨v', w', hr, ho, hg, _⟩ := run_append_own (P := P) w base t ty e i z i.size i.bytes ht hi hz rfl rfl hzs hsz v n xs hown a m c news hl hnews h1 h63 hbytes hbase
  refine ⟨v', w', hr, ho, hg, ?_⟩
  rcases hown.2 with ⟨rfl, rfl⟩ | ⟨g, cap, cur, rfl, hbg, hgc, hnc, hcm, hcs, htake⟩
  · have h2 := run_append_nil (P := P) w t ty e i z ht hi hz a m c news hl hnews (by omega) (by omega) (by rw [Nat.zero_add] at hbytes; omega)
    rw [hr] at h2
    injection h2 with e1 e2
    subst e1 e2
    exact ⟨Or.inr rfl, fun base' u n0 ys hu _ => rows_alloc w _ e i.size base' n0 u ys hu⟩
  · by_cases hroom : n + m ≤ cap
    · have hfit : n * i.size + news.length ≤ cur.size := by rw [hl, hcs, ← Nat.add_mul]; exact Nat.mul_le_mul_right _ hroom
      have h2 := run_append_room (P := P) w t ty e i ht hi g n cap cur hgc a m c news hl hnews h1 hroom hfit
      rw [hr] at h2
      injection h2 with e1 e2
      subst e1 e2
      exact ⟨Or.inl rfl, fun base' u n0 ys hu hle => rows_room w hgc hfit base' n0 u ys hu (fun q => hle q)⟩
    · have h2 := run_append_grow (P := P) w t ty e i z ht hi hz ⟨g, 0, none⟩ n cap xs hown.1 (hown.cells (g := g) rfl) a m c news hl hnews (by omega) (by omega) (growslice_fits (by omega) hbytes)
      rw [hr] at h2
      injection h2 with e1 e2
      subst e1 e2
      exact ⟨Or.inr rfl, fun base' u n0 ys hu _ => rows_alloc w _ e i.size base' n0 u ys hu⟩
end
end Go.Proofs.YtbojljmacheccaaGreatDoor
