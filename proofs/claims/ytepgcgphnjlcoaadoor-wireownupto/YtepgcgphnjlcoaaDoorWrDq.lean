
import Derived.Test.YtepgcgphnjlcoaaDoorWrCq
import Derived.WalkLawsBesides
namespace Go.Proofs.YtepgcgphnjlcoaaDoor
open Go.RowKit
set_option linter.unusedVariables false
set_option linter.unusedSimpArgs false
theorem below_grown {w w2 w3 : World} {row : Option Nat} (h : Below w.heap.size w w2) (hg : w2.grownBy w3 row) (hr : ∀ k, row = some k → w.heap.size ≤ k) : Below w.heap.size w w3 := h.grown hg h.size hr
set_option maxRecDepth 100000 in
theorem clone_any (g off m c : Nat) (news : List Value) (w : World) (hl : news.length = m) (hnews : ∀ j u, news[j]? = some u → w.cell? ((⟨g, off, none⟩ : Addr).add j) = some u) (h1 : ∀ u ∈ news, u.oneCell' = true) (hm : 0 < m) (hb : m ≤ 140737488355328) :
    Calls Tryd.prog 28 #[.slice (some ⟨g, off, none⟩) m c] w fun e w' => ∃ g' cap', e = .returned (.slice (some ⟨g', 0, none⟩) m cap') ∧ w'.ownsRow w.heap.size 5 1 (.slice (some ⟨g', 0, none⟩) m cap') m news ∧ Below w.heap.size w w' := by
  obtain ⟨i, i1, i0⟩ := Option.map_eq_some_iff.1 byte_info
  have i2 : i.zero = some (.int .u8 0) := congrArg (·.1) i0
  have i3 : i.bytes = 1 := congrArg (·.2.1) i0
  have i4 : i.size = 1 := congrArg (·.2.2) i0
  have hml : maxLen = 9223372036854775807 := by decide
  have hown : (w.alloc (.cells #[] 5)).ownsRow w.heap.size 5 1 (.slice (some ⟨w.heap.size, 0, none⟩) 0 0) 0 [] := World.ownsRow_lit w #[] 0 (Nat.le_refl _) (by omega) (by simp)
  have hnews' : ∀ j u, news[j]? = some u → (w.alloc (.cells #[] 5)).cell? ((⟨g, off, none⟩ : Addr).add j) = some u := fun j u hj => by
    have h0 := hnews j u hj
    rw [World.cell?_alloc_lt _ _ _ (World.block_lt_of_cell? w _ h0)]; exact h0
  clear i0 hnews
  have hnil : ∀ w0 : World, (binOp .eql 23 (.slice (some ⟨g, off, none⟩) m c) (.slice none 0 0)).run Tryd.prog w0 = .ok (.bool false) w0 := fun w0 => Go.Lib.run_eql_slice_nil w0 23 5 (some ⟨g, off, none⟩) m c 0 0 Tryd.underlying23
  go_enter Tryd.func28, Tryd.ntmps28
  go_wp2_with (at_builtin; refine wpList_append_lies _ (by rfl) _ _ _ (by rfl) w.heap.size 5 i (.int .u8 0) 1 1 Tryd.underlying23 i1 i2 i4 i3 rfl (by omega) _ 0 [] (by rfl) hown ⟨g, off, none⟩ m c news (by rfl) (by rw [hl, Nat.mul_one]) hnews' h1 hm (by omega) (by omega) (by simp) _ rfl ?_)
  intro g' cap' w2 ho hgrow hat hlt
  have hB := below_grown (below_new (Below.refl _ w) (.cells #[] 5)) hgrow (fun k e => by simp [Value.ownBlock] at e; omega)
  clear hown hnews' hgrow hat h1
  go_wp2_with fail
  go_ret
  exact ⟨g', cap', rfl, ho, hB⟩
theorem bytes_any (N : Nat) (w1 : World) (fr : Int) (v : Value) (n : Nat) (xs : List Value) (w : World) (h : WS N w1 fr v n xs w) (h1 : ∀ u ∈ xs, u.oneCell' = true) (hn : 0 < n) (hb : n ≤ 140737488355328) :
    Calls Tryd.prog 6 #[.pointer (some ⟨N, 0, none⟩)] w fun e w' => ∃ g' cap', e = .returned (.slice (some ⟨g', 0, none⟩) n cap') ∧ w'.ownsRow w.heap.size 5 1 (.slice (some ⟨g', 0, none⟩) n cap') n xs ∧ Below w.heap.size w w' := by
  obtain ⟨g, cap, rfl, hg, hgl⟩ := h.own.form hn
  have c0 := h.c0
  have hl : xs.length = n := by have := h.own.1; omega
  go_enter Tryd.func6, Tryd.ntmps6
  go_wp2_with fail
  refine (clone_any g 0 n cap xs _ hl (h.own.cells rfl) h1 hn hb).mono ?_
  rintro e w' ⟨g', cap', rfl, ho, hB⟩
  go_wp2_with fail
  go_ret
  exact ⟨g', cap', rfl, ho, hB⟩
set_option maxRecDepth 100000 in
theorem same_true (g1 o1 c1 g2 o2 c2 m : Nat) (bs : Nat → Nat) (w : World) (hm : m ≤ 9223372036854775807) (h1 : BytesAt w g1 o1 m bs) (h2 : BytesAt w g2 o2 m bs) :
    Calls Tryd.prog 13 #[.slice (some ⟨g1, o1, none⟩) m c1, .slice (some ⟨g2, o2, none⟩) m c2] w fun e w' => e = .returned (.bool true) ∧ Below w.heap.size w w' := by
  go_enter Tryd.func13, Tryd.ntmps13
  go_wp2_with fail
  go_loopw [5] (fun i wr => ∃ (k : Nat), k ≤ m ∧ i = .int .i64 k ∧ BytesAt wr g1 o1 m bs ∧ BytesAt wr g2 o2 m bs ∧ Below w.heap.size w wr) (fun i _ => m - (intOf i).toNat)
  case atStart => exact ⟨0, Nat.zero_le _, rfl, h1, h2, Below.refl _ _⟩
  case round =>
    obtain ⟨k, hk, rfl, b1, b2, hB⟩ := hrel
    by_cases hlt : k < m
    · have hltI : (k : Int) < (m : Int) := by omega
      have k0 : (0 : Int) ≤ (k : Int) := by omega
      obtain ⟨x1, y1⟩ := b1 k hlt
      obtain ⟨x2, y2⟩ := b2 k hlt
      go_wp2_with fail
      go_region_held3 (fun w' => w'.cell? ⟨g1, o1 + k, none⟩ = some (.int .u8 (bs k)) ∧ w'.cell? ⟨g2, o2 + k, none⟩ = some (.int .u8 (bs k))) (go_keep) (fail)
      go_wp2_with fail
      go_roundw
      case rel => exact ⟨k + 1, by omega, by go_num, b1, b2, hB.drew⟩
      case measure => simp [intOf]; omega
    · go_wp2_with fail
      go_ret
      exact ⟨rfl, hB⟩
end Go.Proofs.YtepgcgphnjlcoaaDoor
